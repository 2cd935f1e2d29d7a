/- Lists of texts, and of lists of numbers, that are arguments: opened. -/
import Derived.Test.YtnphjdckdkjopaaGreatDoorMA0x0
import Derived.Deep.Matrix
import Derived.Deep.Strs
import Derived.Deep.Slices
import Derived.Carry
import Derived.ProofKit
import Derived.OpenShut
import Derived.ShutString
import Derived.SizedLaws
import Derived.WideShapes
import Derived.ChangeSlices
import Derived.Lib.SmallJoins

namespace Go.Proofs.YtnphjdckdkjopaaGreatDoor
open Go Go.ChangeShapes Go.WideShapes Go.ChangeAt Go.RowKit Go.Joins Go.Deep
set_option synthInstance.maxSize 1000

theorem own : ownKnob Tryz.prog.godebug = none := by kernel_rfl
theorem cellsIntO : Tryz.prog.cellsOf 3 = 1 := by kernel_rfl
theorem cellsStrO : Tryz.prog.cellsOf 9 = 1 := by kernel_rfl
theorem cellsRowO : Tryz.prog.cellsOf 37 = 1 := by kernel_rfl

set_option maxRecDepth 100000 in
theorem open_lists {H : Type} {enc : TypeId × Value → H} {W : World} {base b0 : Nat} {held : Bool} {r : Reach} {v : Value} {d : DataW H} {p : List MemPlace}
    (hv : Value.okWide Tryz.prog W r b0 35 v) (h : DataW.Trod enc Tryz.prog W base (fun _ => true) held 35 v d p) :
    ∃ (ad : Option Addr) (cap : Nat) (Q : List (List Int)), v = .slice ad Q.length cap ∧ (Q ≠ [] → ∃ b o, ad = some ⟨b, o, none⟩ ∧ ListsAt W b o Q) ∧ (∀ q ∈ Q, q.length ≤ maxLen) ∧ Q.length ≤ maxLen := by
  obtain ⟨a, len, cap, rfl⟩ := okWide_slice Tryz.underlying35 hv
  obtain ⟨fuel, hf⟩ := h
  rcases open_int_rows Tryz.underlying35 Tryz.underlying37 Tryz.underlying3 cellsRowO cellsIntO hf with ⟨hcs, _⟩ | ⟨a', len', cap', A, L, C, Z, hcs, _, hl, hm, _, hx⟩
  · simp [Value.cells] at hcs
    obtain ⟨rfl, rfl, rfl⟩ := hcs
    exact ⟨none, 0, [], rfl, fun h => absurd rfl h, by simp, by simp⟩
  · simp [Value.cells] at hcs
    obtain ⟨rfl, rfl, rfl⟩ := hcs
    have hlen : ((List.range len).map fun r => (Z r).take (L r)).length = len := by simp
    have hrow : ∀ r, r < len → ((Z r).take (L r)).length = L r := fun r hr => by
      have := hx r (by omega)
      rw [List.length_take, this.2.2.2.1]
      have := this.2.1
      omega
    refine ⟨some a', cap, (List.range len).map fun r => (Z r).take (L r), by rw [hlen], fun hne => ?_, fun q hq => ?_, by rw [hlen]; omega⟩
    · have hpos : 0 < len := by
        rcases Nat.eq_zero_or_pos len with h0 | h0
        · subst h0; simp at hne
        · exact h0
      have hc := (hx 0 (by omega)).1
      obtain ⟨b, o, s⟩ := a'
      cases s with
      | some s =>
        exfalso
        unfold World.cell? Addr.add at hc
        revert hc
        split <;> simp
      | none =>
        refine ⟨b, o, rfl, fun i hi => ?_⟩
        have hi' := hi
        rw [hlen] at hi'
        obtain ⟨h1, h2, h3, h4, h5, h6, h7⟩ := hx i (by omega)
        have hq : ((List.range len).map fun r => (Z r).take (L r))[i] = (Z i).take (L i) := by simp
        rw [hq]
        have hr := hrow i hi'
        refine ⟨A i, C i, by rw [hr]; rw [Addr.add_lit] at h1; exact h1, fun hne2 => ?_, by rw [hr]; exact h2⟩
        have hp2 : 0 < L i := by rw [← hr]; exact List.length_pos_iff.2 hne2
        cases hA : A i with
        | none => have := h6 hA; omega
        | some a2 =>
          obtain ⟨_, h8⟩ := h7 a2 hA
          obtain ⟨b2, o2, s2⟩ := a2
          cases s2 with
          | some s2 =>
            exfalso
            have h90 := h8 0 (by omega)
            unfold World.cell? Addr.add at h90
            revert h90
            split <;> simp
          | none =>
            refine ⟨b2, o2, rfl, fun j hj => ?_⟩
            rw [hr] at hj
            have h9 := h8 j (by omega)
            rw [Addr.add_lit] at h9
            refine h9.trans ?_
            simp only [List.getElem_take]
            rw [List.getD_eq_getElem?_getD, List.getElem?_eq_getElem (by omega)]
            rfl
    · obtain ⟨r, hr, rfl⟩ := List.mem_map.1 hq
      rw [hrow r (List.mem_range.1 hr)]
      have := hx r (by have := List.mem_range.1 hr; omega)
      have h1 := this.2.1
      have h2 := this.2.2.1
      omega

set_option maxRecDepth 100000 in
theorem open_nums {H : Type} {enc : TypeId × Value → H} {W : World} {base b0 : Nat} {spare : Nat → Bool} {held : Bool} {r : Reach} {v : Value} {d : DataW H} {p : List MemPlace}
    (hv : Value.okWide Tryz.prog W r b0 37 v) (h : DataW.Trod enc Tryz.prog W base spare held 37 v d p) :
    ∃ (ad : Option Addr) (cap : Nat) (l : List Int), v = .slice ad l.length cap ∧ SlI W ad l ∧ l.length ≤ maxLen ∧ l.length ≤ cap := by
  obtain ⟨a, len, cap, rfl⟩ := okWide_slice Tryz.underlying37 hv
  obtain ⟨fuel, hf⟩ := h
  rcases Go.ChangeShapes.open_ints Tryz.underlying37 Tryz.underlying3 cellsIntO hf with ⟨hcs, _⟩ | ⟨a', len', cap', zs, hcs, _, hl, hm, hzl, _, hx, _⟩
  · simp [Value.cells] at hcs
    obtain ⟨rfl, rfl, rfl⟩ := hcs
    exact ⟨none, 0, [], rfl, fun h => absurd rfl h, by simp, by simp⟩
  · simp [Value.cells] at hcs
    obtain ⟨rfl, rfl, rfl⟩ := hcs
    have hle : len ≤ zs.length := by rw [hzl]; split <;> omega
    have hlen : (zs.take len).length = len := by rw [List.length_take]; omega
    refine ⟨some a', cap, zs.take len, by rw [hlen], fun hne => ?_, by rw [hlen]; omega, by rw [hlen]; exact hl⟩
    have hpos : 0 < len := by rw [← hlen]; exact List.length_pos_iff.2 hne
    have hc := hx 0 (by omega)
    obtain ⟨b, o, s⟩ := a'
    cases s with
    | some s =>
      exfalso
      unfold World.cell? Addr.add at hc
      revert hc
      split <;> simp
    | none =>
      refine ⟨b, o, rfl, fun j hj => ?_⟩
      rw [hlen] at hj
      have h1 := hx j (by omega)
      rw [Addr.add_lit] at h1
      rw [h1, List.getElem_take, List.getD_eq_getElem?_getD, List.getElem?_eq_getElem (by omega)]
      rfl

set_option maxRecDepth 100000 in
theorem open_texts {H : Type} {enc : TypeId × Value → H} {W : World} {base b0 : Nat} {spare : Nat → Bool} {held : Bool} {r : Reach} {v : Value} {d : DataW H} {p : List MemPlace}
    (hv : Value.okWide Tryz.prog W r b0 22 v) (h : DataW.Trod enc Tryz.prog W base spare held 22 v d p) :
    ∃ (ad : Option Addr) (cap : Nat) (T : List (List UInt8)), v = .slice ad T.length cap ∧ (T ≠ [] → ∃ b o, ad = some ⟨b, o, none⟩ ∧ TextsAt W b o T) ∧ (∀ t ∈ T, t.length ≤ maxLen) ∧ T.length ≤ maxLen ∧ (T = [] ∨ ∃ rest : List (DataW H), d = .slice (T.map fun t => .lit (.string t)) rest) := by
  obtain ⟨a, len, cap, rfl⟩ := okWide_slice Tryz.underlying22 hv
  obtain ⟨fuel, hf⟩ := h
  rcases open_strs Tryz.underlying22 Tryz.underlying9 cellsStrO hf with ⟨hcs, _⟩ | ⟨a', len', cap', m, Sx, hcs, _, hl, hm, hmm, hd, hx⟩
  · simp [Value.cells] at hcs
    obtain ⟨rfl, rfl, rfl⟩ := hcs
    exact ⟨none, 0, [], rfl, fun h => absurd rfl h, by simp, by simp, Or.inl rfl⟩
  · simp [Value.cells] at hcs
    obtain ⟨rfl, rfl, rfl⟩ := hcs
    have hlm : len ≤ m := by rw [hmm]; split <;> omega
    have hlen : ((List.range len).map fun r => (Sx r).data.toList).length = len := by simp
    refine ⟨some a', cap, (List.range len).map fun r => (Sx r).data.toList, by rw [hlen], fun hne => ?_, fun q hq => ?_, by rw [hlen]; omega, Or.inr ⟨_, (congrArg Prod.fst hd).trans (by rw [List.map_map]; rfl)⟩⟩
    · have hpos : 0 < len := by
        rcases Nat.eq_zero_or_pos len with h0 | h0
        · subst h0; simp at hne
        · exact h0
      have hc := (hx 0 (by omega)).1
      obtain ⟨b, o, s⟩ := a'
      cases s with
      | some s =>
        exfalso
        unfold World.cell? Addr.add at hc
        revert hc
        split <;> simp
      | none =>
        refine ⟨b, o, rfl, fun i hi => ?_⟩
        rw [hlen] at hi
        have h1 := (hx i (by omega)).1
        rw [Addr.add_lit] at h1
        rw [h1]
        simp
    · obtain ⟨r, hr, rfl⟩ := List.mem_map.1 hq
      have := (hx r (by have := List.mem_range.1 hr; omega)).2
      simpa using this

/-- texts that are reached are no longer than what may be reached -/
theorem weigh_texts {H : Type} (T : List (List UInt8)) : ∀ t ∈ T, t.length ∈ DataW.weightsAll Tryz.prog 9 (T.map fun t => (DataW.lit (.string t) : DataW H)) := by
  induction T with
  | nil => simp
  | cons x r ih =>
    intro t ht
    rw [List.map_cons, DataW.weightsAll]
    rcases List.mem_cons.1 ht with rfl | ht
    · exact List.mem_append_left _ (by simp [DataW.weights])
    · exact List.mem_append_right _ (ih t ht)
set_option maxRecDepth 100000 in
theorem fits_texts {H : Type} {T : List (List UInt8)} {d : DataW H} (h : T = [] ∨ ∃ rest : List (DataW H), d = .slice (T.map fun t => .lit (.string t)) rest) (hw : ∀ n ∈ d.weights Tryz.prog 22, n ≤ reachBytes) : (∀ t ∈ T, t.length ≤ reachBytes) ∧ T.length * 16 ≤ reachBytes := by
  rcases h with rfl | ⟨rest, rfl⟩
  · simp
  · rw [DataW.weights, Tryz.underlying22] at hw
    dsimp only at hw
    refine ⟨fun t ht => hw _ (List.mem_cons_of_mem _ (List.mem_append_left _ (weigh_texts T t ht))), ?_⟩
    have h1 := hw _ (List.mem_cons_self ..)
    have hb : Tryz.prog.bytesOf 9 = 16 := by kernel_rfl
    rw [hb, List.length_map] at h1
    have := Nat.mul_le_mul_right 16 (Nat.le_add_right T.length rest.length)
    omega
end Go.Proofs.YtnphjdckdkjopaaGreatDoor
