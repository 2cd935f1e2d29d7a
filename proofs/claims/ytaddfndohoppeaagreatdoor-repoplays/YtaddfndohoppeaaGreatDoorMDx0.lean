import Derived.Test.YtaddfndohoppeaaGreatDoorRows
import Derived.WalkKit
import Derived.ProofKit
import Derived.OpenShut
import Derived.ShutString
import Derived.SizedLaws
import Derived.Lib.SmallJoins
import Derived.Test.YtaddfndohoppeaaGreatDoorMA0x2
import Derived.Deep.Slices
import Derived.Deep.Strs
import Derived.Carry
import Derived.Test.YtaddfndohoppeaaGreatDoorMA0x0
import Derived.Deep.Matrix
import Derived.WideShapes
import Derived.ChangeSlices
import Derived.Test.YtaddfndohoppeaaGreatDoorMA0x3

/- A term that is an argument: opened, and read again. -/
namespace Go.Proofs.YtaddfndohoppeaaGreatDoor
open Go Go.ChangeShapes Go.WideShapes Go.ChangeAt Go.RowKit Go.Joins
open Go.ChangeMaps (open_string shut_string)

theorem own : ownKnob Tryz.prog.godebug = none := by kernel_rfl
theorem cellsTerm : Tryz.prog.cellsOf 89 = 3 := by kernel_rfl

set_option maxRecDepth 100000 in
theorem open_term {H : Type} {enc : TypeId × Value → H} {W : World} {base b0 : Nat} {spare : Nat → Bool} {held : Bool} {r : Reach} {v : Value} {d : DataW H} {p : List MemPlace}
    (hv : Value.okWide Tryz.prog W r b0 89 v) (h : DataW.Trod enc Tryz.prog W base spare held 89 v d p) :
    ∃ (k : Int) (S L : List UInt8), v = .agg #[.int .i64 k, .string ⟨S.toArray⟩, .string ⟨L.toArray⟩] ∧ d = .agg [.lit (.int .i64 k), .lit (.string S), .lit (.string L)] ∧ p = [] ∧ (Lit.int .i64 k).wf = true ∧ S.length ≤ maxLen ∧ L.length ≤ maxLen := by
  obtain ⟨c0, c1, c2, y0, y1, y2, m, rfl, rfl, rfl, hy0, hy1, hy2⟩ := open_agg3 Tryz.underlying89 (by kernel_rfl) cellsTerm hv h
  obtain ⟨k, e0, rfl, wk⟩ := DataW.trod_int Tryz.underlying3 hy0
  obtain ⟨s, e1, rfl, ws⟩ := DataW.trod_string Tryz.underlying9 hy1
  obtain ⟨l, e2, rfl, wl⟩ := DataW.trod_string Tryz.underlying9 hy2
  simp at e0 e1 e2
  subst e0 e1 e2
  exact ⟨k, s.data.toList, l.data.toList, rfl, rfl, rfl, wk, by simpa using ws, by simpa using wl⟩

set_option maxRecDepth 100000 in
theorem read_term {H : Type} {enc : TypeId × Value → H} {k : Int} {S L : List UInt8} (wk : (Lit.int .i64 k).wf = true) (hS : S.length ≤ maxLen) (hL : L.length ≤ maxLen) (W' : World) (sp : Nat → Bool) :
    DataW.Trod enc Tryz.prog W' 0 sp true 89 (.agg #[.int .i64 k, .string ⟨S.toArray⟩, .string ⟨L.toArray⟩]) (.agg [.lit (.int .i64 k), .lit (.string S), .lit (.string L)]) [] :=
  shut_agg3 (y0 := (.lit (.int .i64 k), [])) (y1 := (.lit (.string S), [])) (y2 := (.lit (.string L), [])) Tryz.underlying89 (by kernel_rfl) cellsTerm
    ⟨1, by simp [DataW.trod, Tryz.underlying3, wk]⟩ ⟨1, by simp [DataW.trod, Tryz.underlying9]; exact hS⟩ ⟨1, by simp [DataW.trod, Tryz.underlying9]; exact hL⟩
end Go.Proofs.YtaddfndohoppeaaGreatDoor

/- A triple, and a list of triples, that is an argument: opened. -/
namespace Go.Proofs.YtaddfndohoppeaaGreatDoor
open Go Go.ChangeShapes Go.WideShapes Go.ChangeAt Go.RowKit Go.Joins Go.Deep
set_option synthInstance.maxSize 1000

theorem cellsTriple : Tryz.prog.cellsOf 91 = 9 := by kernel_rfl

def fitTm (x : Tm) : Prop := x.2.1.length ≤ maxLen ∧ x.2.2.length ≤ maxLen
def encTm (x : Tm) : List Value := [.int .i64 x.1, .string ⟨x.2.1.toArray⟩, .string ⟨x.2.2.toArray⟩]

theorem cellsInt : Tryz.prog.cellsOf 3 = 1 := by kernel_rfl
theorem cellsStr : Tryz.prog.cellsOf 9 = 1 := by kernel_rfl

set_option maxRecDepth 100000 in
theorem down_term {H : Type} {enc : TypeId × Value → H} {W : World} {base n : Nat} {spare : Nat → Bool} {held : Bool} {cs : List Value} {y : DataW H × List MemPlace}
    (h : DataW.trod enc Tryz.prog W base spare held n 89 cs = some y) : ∃ x : Tm, cs = encTm x ∧ fitTm x := by
  obtain ⟨y0, y1, y2, m, _, hl, h0, h1, h2⟩ := trod_struct3 Tryz.underlying89 h
  rw [cellsTerm] at hl
  match cs, hl with
  | [c0, c1, c2], _ =>
    simp only [cellsInt, cellsStr, List.drop_zero, List.drop_succ_cons, List.take_succ_cons, List.take_zero] at h0 h1 h2
    obtain ⟨k, e0, _, wk⟩ := DataW.trod_int Tryz.underlying3 h0
    obtain ⟨s, e1, _, ws⟩ := DataW.trod_string Tryz.underlying9 h1
    obtain ⟨l, e2, _, wl⟩ := DataW.trod_string Tryz.underlying9 h2
    simp at e0 e1 e2
    subst e0 e1 e2
    exact ⟨⟨k, s.data.toList, l.data.toList⟩, rfl, by simpa using ws, by simpa using wl⟩

set_option maxRecDepth 100000 in
theorem down_triple {H : Type} {enc : TypeId × Value → H} {W : World} {base n : Nat} {spare : Nat → Bool} {held : Bool} {cs : List Value} {y : DataW H × List MemPlace}
    (h : DataW.trod enc Tryz.prog W base spare held n 91 cs = some y) : ∃ x : Tr, cs = encTr x ∧ fitTr x := by
  obtain ⟨y0, y1, y2, m, _, hl, h0, h1, h2⟩ := trod_struct3 Tryz.underlying91 h
  rw [cellsTriple] at hl
  match cs, hl with
  | [c0, c1, c2, c3, c4, c5, c6, c7, c8], _ =>
    simp only [cellsTerm, List.drop_zero, List.drop_succ_cons, List.take_succ_cons, List.take_zero] at h0 h1 h2
    obtain ⟨a, ea, fa⟩ := down_term h0
    obtain ⟨b, eb, fb⟩ := down_term h1
    obtain ⟨c, ec, fc⟩ := down_term h2
    simp only [encTm, List.cons.injEq, and_true] at ea eb ec
    obtain ⟨rfl, rfl, rfl⟩ := ea
    obtain ⟨rfl, rfl, rfl⟩ := eb
    obtain ⟨rfl, rfl, rfl⟩ := ec
    exact ⟨⟨a, b, c⟩, rfl, fa, fb, fc⟩

set_option maxRecDepth 100000 in
theorem open_triple {H : Type} {enc : TypeId × Value → H} {W : World} {base b0 : Nat} {spare : Nat → Bool} {held : Bool} {r : Reach} {v : Value} {d : DataW H} {p : List MemPlace}
    (hv : Value.okWide Tryz.prog W r b0 91 v) (h : DataW.Trod enc Tryz.prog W base spare held 91 v d p) : ∃ x : Tr, v = valTr x ∧ fitTr x := by
  obtain ⟨cs, rfl, _⟩ := okWide_struct Tryz.underlying91 hv
  obtain ⟨fuel, hf⟩ := h
  obtain ⟨x, e, f⟩ := down_triple hf
  refine ⟨x, ?_, f⟩
  have e' : cs.toList = encTr x := e
  show Value.agg cs = .agg (encTr x).toArray
  rw [← e']

set_option maxRecDepth 100000 in
theorem open_list {H : Type} {enc : TypeId × Value → H} {W : World} {base b0 : Nat} {spare : Nat → Bool} {held : Bool} {r : Reach} {v : Value} {d : DataW H} {p : List MemPlace}
    (hv : Value.okWide Tryz.prog W r b0 37 v) (h : DataW.Trod enc Tryz.prog W base spare held 37 v d p) :
    ∃ (ad : Option Addr) (cap : Nat) (l : List Tr), v = .slice ad l.length cap ∧ SlT W ad l ∧ (∀ x ∈ l, fitTr x) ∧ l.length ≤ maxLen := by
  obtain ⟨a, len, cap, rfl⟩ := okWide_slice Tryz.underlying37 hv
  obtain ⟨fuel, hf⟩ := h
  rcases open_slice Tryz.underlying37 hf with ⟨hcs, _⟩ | ⟨a', len', cap', m, n, D, Pl, hcs, _, hl, hm, hmm, _, hx⟩
  · simp [Value.cells] at hcs
    obtain ⟨rfl, rfl, rfl⟩ := hcs
    exact ⟨none, 0, [], rfl, fun h => absurd rfl h, by simp, by simp⟩
  · simp [Value.cells] at hcs
    obtain ⟨rfl, rfl, rfl⟩ := hcs
    have hlm : len ≤ m := by rw [hmm]; split <;> omega
    have each : ∀ i, i < len → ∃ x : Tr, fitTr x ∧ ∀ j v, (encTr x)[j]? = some v → W.cell? (a'.add (i * 9 + j)) = some v := by
      intro i hi
      obtain ⟨cs', h1, h2⟩ := hx i (by omega)
      rw [cellsTriple] at h1
      obtain ⟨_, hlen, hcell⟩ := World.cells?_some h1
      obtain ⟨x, rfl, fx⟩ := down_triple h2
      refine ⟨x, fx, fun j v hj => ?_⟩
      have hj9 : j < 9 := (List.getElem?_eq_some_iff.1 hj).1
      have := hcell j (by omega)
      rw [add_add] at this
      rw [this]
      exact hj
    obtain ⟨q, hq⟩ := choose_lt each
    have hlen : ((List.range len).map q).length = len := by simp
    refine ⟨some a', cap, (List.range len).map q, by rw [hlen], fun hne => ?_, fun x hx => ?_, by rw [hlen]; omega⟩
    · have hpos : 0 < len := by
        rcases Nat.eq_zero_or_pos len with h0 | h0
        · subst h0; simp at hne
        · exact h0
      have hc := (hq 0 hpos).2 0 _ rfl
      obtain ⟨b, o, s⟩ := a'
      cases s with
      | some s =>
        exfalso
        unfold World.cell? Addr.add at hc
        revert hc
        split <;> simp
      | none =>
        refine ⟨b, o, rfl, fun j v hj => ?_⟩
        have hjl : j < len * 9 := by
          have := (List.getElem?_eq_some_iff.1 hj).1
          rwa [cellsT_len, hlen] at this
        have hi : j / 9 < len := by omega
        have h1 := cellsT_at ((List.range len).map q) (j / 9) (by rw [hlen]; exact hi) (j % 9) (by omega)
        rw [show j / 9 * 9 + j % 9 = j by omega, hj] at h1
        have h2 := (hq (j / 9) hi).2 (j % 9) v (by rw [h1]; simp)
        rw [show j / 9 * 9 + j % 9 = j by omega, Addr.add_lit] at h2
        exact h2
    · obtain ⟨i, hi, rfl⟩ := List.mem_map.1 hx
      exact (hq i (List.mem_range.1 hi)).1
end Go.Proofs.YtaddfndohoppeaaGreatDoor

/- Lists of texts, and of lists of numbers, that are arguments: opened. -/
namespace Go.Proofs.YtaddfndohoppeaaGreatDoor
open Go Go.ChangeShapes Go.WideShapes Go.ChangeAt Go.RowKit Go.Joins Go.Deep
set_option synthInstance.maxSize 1000

theorem cellsIntO : Tryz.prog.cellsOf 3 = 1 := by kernel_rfl
theorem cellsStrO : Tryz.prog.cellsOf 9 = 1 := by kernel_rfl
theorem cellsRowO : Tryz.prog.cellsOf 36 = 1 := by kernel_rfl

set_option maxRecDepth 100000 in
theorem open_lists {H : Type} {enc : TypeId × Value → H} {W : World} {base b0 : Nat} {held : Bool} {r : Reach} {v : Value} {d : DataW H} {p : List MemPlace}
    (hv : Value.okWide Tryz.prog W r b0 22 v) (h : DataW.Trod enc Tryz.prog W base (fun _ => true) held 22 v d p) :
    ∃ (ad : Option Addr) (cap : Nat) (Q : List (List Int)), v = .slice ad Q.length cap ∧ (Q ≠ [] → ∃ b o, ad = some ⟨b, o, none⟩ ∧ ListsAt W b o Q) ∧ (∀ q ∈ Q, q.length ≤ maxLen) ∧ Q.length ≤ maxLen := by
  obtain ⟨a, len, cap, rfl⟩ := okWide_slice Tryz.underlying22 hv
  obtain ⟨fuel, hf⟩ := h
  rcases open_int_rows Tryz.underlying22 Tryz.underlying36 Tryz.underlying3 cellsRowO cellsIntO hf with ⟨hcs, _⟩ | ⟨a', len', cap', A, L, C, Z, hcs, _, hl, hm, _, hx⟩
  · simp [Value.cells] at hcs
    obtain ⟨rfl, rfl, rfl⟩ := hcs
    exact ⟨none, 0, [], rfl, fun h => absurd rfl h, by simp, by simp⟩
  · simp [Value.cells] at hcs
    obtain ⟨rfl, rfl, rfl⟩ := hcs
    have hlen : ((List.range len).map fun r => (Z r).take (L r)).length = len := by simp
    have hrow : ∀ r, r < len → ((Z r).take (L r)).length = L r := fun r hr => by
      have := hx r (by omega)
      rw [List.length_take, this.2.2.2.1]
      have := this.2.1
      omega
    refine ⟨some a', cap, (List.range len).map fun r => (Z r).take (L r), by rw [hlen], fun hne => ?_, fun q hq => ?_, by rw [hlen]; omega⟩
    · have hpos : 0 < len := by
        rcases Nat.eq_zero_or_pos len with h0 | h0
        · subst h0; simp at hne
        · exact h0
      have hc := (hx 0 (by omega)).1
      obtain ⟨b, o, s⟩ := a'
      cases s with
      | some s =>
        exfalso
        unfold World.cell? Addr.add at hc
        revert hc
        split <;> simp
      | none =>
        refine ⟨b, o, rfl, fun i hi => ?_⟩
        have hi' := hi
        rw [hlen] at hi'
        obtain ⟨h1, h2, h3, h4, h5, h6, h7⟩ := hx i (by omega)
        have hq : ((List.range len).map fun r => (Z r).take (L r))[i] = (Z i).take (L i) := by simp
        rw [hq]
        have hr := hrow i hi'
        refine ⟨A i, C i, by rw [hr]; rw [Addr.add_lit] at h1; exact h1, fun hne2 => ?_, by rw [hr]; exact h2⟩
        have hp2 : 0 < L i := by rw [← hr]; exact List.length_pos_iff.2 hne2
        cases hA : A i with
        | none => have := h6 hA; omega
        | some a2 =>
          obtain ⟨_, h8⟩ := h7 a2 hA
          obtain ⟨b2, o2, s2⟩ := a2
          cases s2 with
          | some s2 =>
            exfalso
            have h90 := h8 0 (by omega)
            unfold World.cell? Addr.add at h90
            revert h90
            split <;> simp
          | none =>
            refine ⟨b2, o2, rfl, fun j hj => ?_⟩
            rw [hr] at hj
            have h9 := h8 j (by omega)
            rw [Addr.add_lit] at h9
            refine h9.trans ?_
            simp only [List.getElem_take]
            rw [List.getD_eq_getElem?_getD, List.getElem?_eq_getElem (by omega)]
            rfl
    · obtain ⟨r, hr, rfl⟩ := List.mem_map.1 hq
      rw [hrow r (List.mem_range.1 hr)]
      have := hx r (by have := List.mem_range.1 hr; omega)
      have h1 := this.2.1
      have h2 := this.2.2.1
      omega

set_option maxRecDepth 100000 in
theorem open_nums {H : Type} {enc : TypeId × Value → H} {W : World} {base b0 : Nat} {spare : Nat → Bool} {held : Bool} {r : Reach} {v : Value} {d : DataW H} {p : List MemPlace}
    (hv : Value.okWide Tryz.prog W r b0 36 v) (h : DataW.Trod enc Tryz.prog W base spare held 36 v d p) :
    ∃ (ad : Option Addr) (cap : Nat) (l : List Int), v = .slice ad l.length cap ∧ SlI W ad l ∧ l.length ≤ maxLen ∧ l.length ≤ cap := by
  obtain ⟨a, len, cap, rfl⟩ := okWide_slice Tryz.underlying36 hv
  obtain ⟨fuel, hf⟩ := h
  rcases Go.ChangeShapes.open_ints Tryz.underlying36 Tryz.underlying3 cellsIntO hf with ⟨hcs, _⟩ | ⟨a', len', cap', zs, hcs, _, hl, hm, hzl, _, hx, _⟩
  · simp [Value.cells] at hcs
    obtain ⟨rfl, rfl, rfl⟩ := hcs
    exact ⟨none, 0, [], rfl, fun h => absurd rfl h, by simp, by simp⟩
  · simp [Value.cells] at hcs
    obtain ⟨rfl, rfl, rfl⟩ := hcs
    have hle : len ≤ zs.length := by rw [hzl]; split <;> omega
    have hlen : (zs.take len).length = len := by rw [List.length_take]; omega
    refine ⟨some a', cap, zs.take len, by rw [hlen], fun hne => ?_, by rw [hlen]; omega, by rw [hlen]; exact hl⟩
    have hpos : 0 < len := by rw [← hlen]; exact List.length_pos_iff.2 hne
    have hc := hx 0 (by omega)
    obtain ⟨b, o, s⟩ := a'
    cases s with
    | some s =>
      exfalso
      unfold World.cell? Addr.add at hc
      revert hc
      split <;> simp
    | none =>
      refine ⟨b, o, rfl, fun j hj => ?_⟩
      rw [hlen] at hj
      have h1 := hx j (by omega)
      rw [Addr.add_lit] at h1
      rw [h1, List.getElem_take, List.getD_eq_getElem?_getD, List.getElem?_eq_getElem (by omega)]
      rfl

set_option maxRecDepth 100000 in
theorem open_texts {H : Type} {enc : TypeId × Value → H} {W : World} {base b0 : Nat} {spare : Nat → Bool} {held : Bool} {r : Reach} {v : Value} {d : DataW H} {p : List MemPlace}
    (hv : Value.okWide Tryz.prog W r b0 23 v) (h : DataW.Trod enc Tryz.prog W base spare held 23 v d p) :
    ∃ (ad : Option Addr) (cap : Nat) (T : List (List UInt8)), v = .slice ad T.length cap ∧ (T ≠ [] → ∃ b o, ad = some ⟨b, o, none⟩ ∧ TextsAt W b o T) ∧ (∀ t ∈ T, t.length ≤ maxLen) ∧ T.length ≤ maxLen ∧ (T = [] ∨ ∃ rest : List (DataW H), d = .slice (T.map fun t => .lit (.string t)) rest) := by
  obtain ⟨a, len, cap, rfl⟩ := okWide_slice Tryz.underlying23 hv
  obtain ⟨fuel, hf⟩ := h
  rcases open_strs Tryz.underlying23 Tryz.underlying9 cellsStrO hf with ⟨hcs, _⟩ | ⟨a', len', cap', m, Sx, hcs, _, hl, hm, hmm, hd, hx⟩
  · simp [Value.cells] at hcs
    obtain ⟨rfl, rfl, rfl⟩ := hcs
    exact ⟨none, 0, [], rfl, fun h => absurd rfl h, by simp, by simp, Or.inl rfl⟩
  · simp [Value.cells] at hcs
    obtain ⟨rfl, rfl, rfl⟩ := hcs
    have hlm : len ≤ m := by rw [hmm]; split <;> omega
    have hlen : ((List.range len).map fun r => (Sx r).data.toList).length = len := by simp
    refine ⟨some a', cap, (List.range len).map fun r => (Sx r).data.toList, by rw [hlen], fun hne => ?_, fun q hq => ?_, by rw [hlen]; omega, Or.inr ⟨_, (congrArg Prod.fst hd).trans (by rw [List.map_map]; rfl)⟩⟩
    · have hpos : 0 < len := by
        rcases Nat.eq_zero_or_pos len with h0 | h0
        · subst h0; simp at hne
        · exact h0
      have hc := (hx 0 (by omega)).1
      obtain ⟨b, o, s⟩ := a'
      cases s with
      | some s =>
        exfalso
        unfold World.cell? Addr.add at hc
        revert hc
        split <;> simp
      | none =>
        refine ⟨b, o, rfl, fun i hi => ?_⟩
        rw [hlen] at hi
        have h1 := (hx i (by omega)).1
        rw [Addr.add_lit] at h1
        rw [h1]
        simp
    · obtain ⟨r, hr, rfl⟩ := List.mem_map.1 hq
      have := (hx r (by have := List.mem_range.1 hr; omega)).2
      simpa using this

/-- texts that are reached are no longer than what may be reached -/
theorem weigh_texts {H : Type} (T : List (List UInt8)) : ∀ t ∈ T, t.length ∈ DataW.weightsAll Tryz.prog 9 (T.map fun t => (DataW.lit (.string t) : DataW H)) := by
  induction T with
  | nil => simp
  | cons x r ih =>
    intro t ht
    rw [List.map_cons, DataW.weightsAll]
    rcases List.mem_cons.1 ht with rfl | ht
    · exact List.mem_append_left _ (by simp [DataW.weights])
    · exact List.mem_append_right _ (ih t ht)
set_option maxRecDepth 100000 in
theorem fits_texts {H : Type} {T : List (List UInt8)} {d : DataW H} (h : T = [] ∨ ∃ rest : List (DataW H), d = .slice (T.map fun t => .lit (.string t)) rest) (hw : ∀ n ∈ d.weights Tryz.prog 23, n ≤ reachBytes) : (∀ t ∈ T, t.length ≤ reachBytes) ∧ T.length * 16 ≤ reachBytes := by
  rcases h with rfl | ⟨rest, rfl⟩
  · simp
  · rw [DataW.weights, Tryz.underlying23] at hw
    dsimp only at hw
    refine ⟨fun t ht => hw _ (List.mem_cons_of_mem _ (List.mem_append_left _ (weigh_texts T t ht))), ?_⟩
    have h1 := hw _ (List.mem_cons_self ..)
    have hb : Tryz.prog.bytesOf 9 = 16 := by kernel_rfl
    rw [hb, List.length_map] at h1
    have := Nat.mul_le_mul_right 16 (Nat.le_add_right T.length rest.length)
    omega
end Go.Proofs.YtaddfndohoppeaaGreatDoor

/- Lists of sets that are arguments: opened. -/
namespace Go.Proofs.YtaddfndohoppeaaGreatDoor
open Go Go.ChangeShapes Go.WideShapes Go.ChangeAt Go.RowKit Go.Joins Go.Deep
set_option synthInstance.maxSize 1000

theorem cellsTrs : Tryz.prog.cellsOf 37 = 1 := by kernel_rfl
theorem sl_low {W : World} {ad : Option Addr} {l : List Tr} (h : SlT W ad l) : l ≠ [] → ∀ d, ad = some d → d.block < W.heap.size := fun hne d hd => by
  obtain ⟨b, o, e, hr⟩ := h hne
  rw [hd] at e
  cases e
  cases l with
  | nil => exact absurd rfl hne
  | cons x r =>
    have := hr 0 (.int .i64 x.1.1) (by simp [cellsT, encTr])
    exact World.block_lt_of_cell? W _ this
theorem down_set {H : Type} {enc : TypeId × Value → H} {W : World} {base n : Nat} {spare : Nat → Bool} {held : Bool} {cs : List Value} {y : DataW H × List MemPlace}
    (hf : DataW.trod enc Tryz.prog W base spare held n 37 cs = some y) :
    ∃ (ad : Option Addr) (cap : Nat) (l : List Tr), cs = [.slice ad l.length cap] ∧ SetIn W ad cap l := by
  rcases open_slice Tryz.underlying37 hf with ⟨hcs, _⟩ | ⟨a', len, cap, m, n, D, Pl, hcs, _, hl, hm, hmm, _, hx⟩
  · exact ⟨none, 0, [], hcs, fun h => absurd rfl h, by simp, by simp, by simp, fun h => absurd rfl h⟩
  · have hlm : len ≤ m := by rw [hmm]; split <;> omega
    have each : ∀ i, i < len → ∃ x : Tr, fitTr x ∧ ∀ j v, (encTr x)[j]? = some v → W.cell? (a'.add (i * 9 + j)) = some v := by
      intro i hi
      obtain ⟨cs', h1, h2⟩ := hx i (by omega)
      rw [cellsTriple] at h1
      obtain ⟨_, hlen, hcell⟩ := World.cells?_some h1
      obtain ⟨x, rfl, fx⟩ := down_triple h2
      refine ⟨x, fx, fun j v hj => ?_⟩
      have hj9 : j < 9 := (List.getElem?_eq_some_iff.1 hj).1
      have := hcell j (by omega)
      rw [add_add] at this
      rw [this]
      exact hj
    obtain ⟨q, hq⟩ := choose_lt each
    have hlen : ((List.range len).map q).length = len := by simp
    have hsl : SlT W (some a') ((List.range len).map q) := fun hne => by
      have hpos : 0 < len := by
        rcases Nat.eq_zero_or_pos len with h0 | h0
        · subst h0; simp at hne
        · exact h0
      have hc := (hq 0 hpos).2 0 _ rfl
      obtain ⟨b, o, s⟩ := a'
      cases s with
      | some s =>
        exfalso
        unfold World.cell? Addr.add at hc
        revert hc
        split <;> simp
      | none =>
        refine ⟨b, o, rfl, fun j v hj => ?_⟩
        have hjl : j < len * 9 := by
          have := (List.getElem?_eq_some_iff.1 hj).1
          rwa [cellsT_len, hlen] at this
        have hi : j / 9 < len := by omega
        have h1 := cellsT_at ((List.range len).map q) (j / 9) (by rw [hlen]; exact hi) (j % 9) (by omega)
        rw [show j / 9 * 9 + j % 9 = j by omega, hj] at h1
        have h2 := (hq (j / 9) hi).2 (j % 9) v (by rw [h1]; simp)
        rw [show j / 9 * 9 + j % 9 = j by omega, Addr.add_lit] at h2
        exact h2
    refine ⟨some a', cap, (List.range len).map q, by rw [hlen]; exact hcs, hsl, by rw [hlen]; exact hl, fun x hx => ?_, by rw [hlen]; omega, sl_low hsl⟩
    obtain ⟨i, hi, rfl⟩ := List.mem_map.1 hx
    exact (hq i (List.mem_range.1 hi)).1

set_option maxRecDepth 100000 in
theorem open_sets {H : Type} {enc : TypeId × Value → H} {W : World} {base b0 : Nat} {spare : Nat → Bool} {held : Bool} {r : Reach} {v : Value} {d : DataW H} {p : List MemPlace}
    (hv : Value.okWide Tryz.prog W r b0 24 v) (h : DataW.Trod enc Tryz.prog W base spare held 24 v d p) :
    ∃ (ad : Option Addr) (cap : Nat) (S : List (List Tr)), v = .slice ad S.length cap ∧ (S ≠ [] → ∃ b o, ad = some ⟨b, o, none⟩ ∧ ∀ (i : Nat) (hi : i < S.length), ∃ a c, W.cell? ⟨b, o + i, none⟩ = some (.slice a S[i].length c) ∧ SetIn W a c S[i]) ∧ S.length ≤ maxLen := by
  obtain ⟨a, len, cap, rfl⟩ := okWide_slice Tryz.underlying24 hv
  obtain ⟨fuel, hf⟩ := h
  rcases open_slice Tryz.underlying24 hf with ⟨hcs, _⟩ | ⟨a', len', cap', m, n, D, Pl, hcs, _, hl, hm, hmm, _, hx⟩
  · simp [Value.cells] at hcs
    obtain ⟨rfl, rfl, rfl⟩ := hcs
    exact ⟨none, 0, [], rfl, fun h => absurd rfl h, by simp⟩
  · simp [Value.cells] at hcs
    obtain ⟨rfl, rfl, rfl⟩ := hcs
    have hlm : len ≤ m := by rw [hmm]; split <;> omega
    have each : ∀ i, i < len → ∃ x : List Tr, ∃ a1 c1, W.cell? (a'.add i) = some (.slice a1 x.length c1) ∧ SetIn W a1 c1 x := by
      intro i hi
      obtain ⟨cs', h1, h2⟩ := hx i (by omega)
      rw [cellsTrs] at h1
      obtain ⟨_, hlen, hcell⟩ := World.cells?_some h1
      obtain ⟨a1, c1, x1, e1, s1⟩ := down_set h2
      subst e1
      have g0 := hcell 0 (by omega)
      rw [add_add] at g0
      exact ⟨x1, a1, c1, by simpa using g0, s1⟩
    obtain ⟨q, hq⟩ := choose_lt each
    have hlen : ((List.range len).map q).length = len := by simp
    refine ⟨some a', cap, (List.range len).map q, by rw [hlen], fun hne => ?_, by rw [hlen]; omega⟩
    have hpos : 0 < len := by
      rcases Nat.eq_zero_or_pos len with h0 | h0
      · subst h0; simp at hne
      · exact h0
    obtain ⟨_, _, hc, _⟩ := hq 0 hpos
    obtain ⟨b, o, s⟩ := a'
    cases s with
    | some s =>
      exfalso
      unfold World.cell? Addr.add at hc
      revert hc
      split <;> simp
    | none =>
      refine ⟨b, o, rfl, fun i hi => ?_⟩
      rw [hlen] at hi
      obtain ⟨a1, c1, h1, h2⟩ := hq i hi
      have e : ((List.range len).map q)[i]'(by rw [hlen]; exact hi) = q i := by simp
      rw [e]
      rw [Addr.add_lit] at h1
      exact ⟨a1, c1, h1, h2⟩
end Go.Proofs.YtaddfndohoppeaaGreatDoor
