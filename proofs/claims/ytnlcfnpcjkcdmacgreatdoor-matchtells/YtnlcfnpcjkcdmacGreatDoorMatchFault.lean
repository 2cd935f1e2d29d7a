/- match.slotFault, slotsOf, termsOf; slices.Contains at texts. -/
import Derived.Test.YtnlcfnpcjkcdmacGreatDoorMatchVars
namespace Go.Proofs.YtnlcfnpcjkcdmacGreatDoor
open Go Go.RowKit Go.Proofs
set_option synthInstance.maxSize 1000

attribute [local go_sem] eql_errV neq_errV guard_errV
attribute [local go_sem ↓] neqTermZ

theorem fourbox {w W : World} {T : TypeId} {a0 a1 a2 a3 : Value} (hb : Below (w.alloc (.cells #[a0, a1, a2, a3] T)).heap.size (w.alloc (.cells #[a0, a1, a2, a3] T)) W) :
    W.cell? ⟨w.heap.size, 0, none⟩ = some a0 ∧ W.cell? ⟨w.heap.size, 1, none⟩ = some a1 ∧ W.cell? ⟨w.heap.size, 2, none⟩ = some a2 ∧ W.cell? ⟨w.heap.size, 3, none⟩ = some a3 ∧ w.heap.size < W.heap.size := by
  obtain ⟨h, _⟩ := bcell hb
  have hs := hb.size
  refine ⟨?_, ?_, ?_, ?_, by simp at hs; omega⟩
  all_goals
    rw [h]
    · go_simp
    · simp <;> omega

set_option maxHeartbeats 1000000 in
theorem slotFault_any (s : Sl) (w : World) (hs : fitSl s) :
    Calls Tryz.prog 33 #[valSl s] w fun e w' => e = .returned (errV (slotN s)) ∧ Below w.heap.size w w' := by
  obtain ⟨v, k, S, L⟩ := s
  obtain ⟨hv, hS, hL⟩ := hs
  have HV := fun W => isVar_any v k S L W
  have HC := fun W => Check_any k S L W hS hL
  have HP0 := fun W => spelledV_any v W hv
  unfold valSl
  dsimp only
  cases v with
  | nil =>
    have fin : Hid (slotN ([], k, S, L) = checkN k S L) := rfl
    rw [show (!([] : List UInt8).isEmpty) = false from rfl] at HV
    clear HP0 hv hS hL
    generalize checkN k S L = c at HC fin
    go_enter Tryz.func33, Tryz.ntmps33
    go_wp2_with fail
    refine (HV _).mono ?_
    rintro e w1 ⟨rfl, hb1⟩
    obtain ⟨a0, a1, a2, a3, hz⟩ := fourbox hb1
    go_wp2_with fail
    refine (HC _).mono ?_
    rintro e w2 ⟨rfl, hb2⟩
    go_wp2_with fail
    go_ret
    exact ⟨ret_val (by rw [fin.out]; rfl), bstep (bstep (balloc _ _) hb1) hb2⟩
  | cons ch r =>
    have fin : Hid (slotN (ch :: r, k, S, L) = if spellV (ch :: r) = false then 2 else if eqTB k S L 0 [] [] = true then 0 else 3) := by
      show slotN _ = _
      unfold slotN
      rw [if_neg (by simp)]
      have := eqTB_tm (k, S, L) tmZero
      by_cases hz : (k, S, L) = tmZero
      · rw [decide_eq_true hz] at this
        rw [show eqTB k S L 0 [] [] = true from this]
        simp only [hz, if_true]
      · rw [decide_eq_false hz] at this
        rw [show eqTB k S L 0 [] [] = false from this]
        simp only [hz, if_false, Bool.false_eq_true]
    rw [show (!(ch :: r).isEmpty) = true from rfl] at HV
    have HP := fun W => HP0 W (by simp)
    clear HP0 HC hv hS hL
    generalize spellV (ch :: r) = d at HP fin
    cases d
    · go_enter Tryz.func33, Tryz.ntmps33
      go_wp2_with fail
      refine (HV _).mono ?_
      rintro e w1 ⟨rfl, hb1⟩
      obtain ⟨a0, a1, a2, a3, hz⟩ := fourbox hb1
      go_wp2_with fail
      refine (HP _).mono ?_
      rintro e w2 ⟨rfl, hb2⟩
      go_wp2_with fail
      go_ret
      exact ⟨ret_val (by rw [fin.out]; rfl), bstep (bstep (balloc _ _) hb1) hb2⟩
    · cases hq : eqTB k S L 0 [] []
      all_goals
        go_enter Tryz.func33, Tryz.ntmps33
        go_wp2_with fail
        refine (HV _).mono ?_
        rintro e w1 ⟨rfl, hb1⟩
        obtain ⟨a0, a1, a2, a3, hz⟩ := fourbox hb1
        go_wp2_with fail
        refine (HP _).mono ?_
        rintro e w2 ⟨rfl, hb2⟩
        have b1 := (hb2.cell (World.block_lt_of_cell? w1 _ a1)).trans a1
        have b2 := (hb2.cell (World.block_lt_of_cell? w1 _ a2)).trans a2
        have b3 := (hb2.cell (World.block_lt_of_cell? w1 _ a3)).trans a3
        clear a0 a1 a2 a3
        go_wp2_with fail
        go_ret
        exact ⟨ret_val (by rw [fin.out, hq]; rfl), bstep (bstep (balloc _ _) hb1) hb2⟩

theorem slotsOf_any (p : Pt) (w : World) : Calls Tryz.prog 32 #[valPt p] w fun e w' => e = .returned (valPt p) ∧ Below w.heap.size w w' := by
  unfold valPt
  go_enter Tryz.func32, Tryz.ntmps32
  go_wp2_with fail
  refine bodyPost_ret (v := .agg (encPt p).toArray) (by unfold results; rw [Tryz.results32]; unfold encPt; go_simp) rfl ⟨rfl, ?_⟩
  exact bstep (balloc _ _) (balloc _ _)

theorem termsOf_any (x : Tr) (w : World) : Calls Tryz.prog 46 #[valTr x] w fun e w' => e = .returned (valTr x) ∧ Grew w w' := by
  unfold valTr
  go_enter Tryz.func46, Tryz.ntmps46
  go_wp2_with fail
  refine bodyPost_ret (v := .agg (encTr x).toArray) (by unfold results; rw [Tryz.results46]; unfold encTr; go_simp) rfl ⟨rfl, ?_⟩
  exact (grew_alloc _ _).trans (grew_alloc _ _)

/-! ### texts in a row -/
def encV (v : List UInt8) : Value := .string ⟨v.toArray⟩
def SlV (w : World) (ad : Option Addr) (l : List (List UInt8)) : Prop := l ≠ [] → ∃ b, ad = some ⟨b, 0, none⟩ ∧ ∀ j (hj : j < l.length), w.cell? ⟨b, j, none⟩ = some (encV l[j])
theorem own_v {W : World} {base : Nat} {v : Value} {t : List (List UInt8)} (h : W.ownsRow base 9 1 v t.length (t.map encV)) : ∃ ad cap, v = .slice ad t.length cap ∧ SlV W ad t := by
  have h' := h
  rcases h.2 with ⟨rfl, h0⟩ | ⟨g, cap, cur, rfl, _⟩
  · exact ⟨none, 0, by rw [h0], fun hne => absurd (List.eq_nil_of_length_eq_zero h0) hne⟩
  · refine ⟨some ⟨g, 0, none⟩, cap, rfl, fun _ => ⟨g, rfl, fun j hj => ?_⟩⟩
    have := h'.cells (g := g) rfl j (encV t[j]) (by simp [List.getElem?_eq_getElem hj])
    rw [Addr.add_lit, Nat.zero_add] at this
    exact this
theorem SlV.below {w w' : World} {ad : Option Addr} {l : List (List UInt8)} (h : SlV w ad l) (hb : Below w.heap.size w w') : SlV w' ad l := fun hl => by
  obtain ⟨b, e, r⟩ := h hl
  exact ⟨b, e, fun j hj => (hb.cell (World.block_lt_of_cell? w _ (r j hj))).trans (r j hj)⟩

theorem ContainsV_any (ad : Option Addr) (cap : Nat) (l : List (List UInt8)) (x : List UInt8) (w : World) (h : SlV w ad l) (hn : l.length ≤ 1000000) :
    Calls Tryz.prog 35 #[.slice ad l.length cap, .string ⟨x.toArray⟩] w fun e w' => e = .returned (.bool (decide (x ∈ l))) ∧ w' = w := by
  cases hl : l with
  | nil =>
    simpa using Tryz.slices_Contains_string_empty ad cap ⟨x.toArray⟩ w
  | cons c r =>
    rw [← hl]
    obtain ⟨b, rfl, hr⟩ := h (by rw [hl]; simp)
    refine (Tryz.slices_Contains_string b 0 l.length cap (l.map fun v => ⟨v.toArray⟩) ⟨x.toArray⟩ w (by simp) (by omega) ?_).mono ?_
    · intro j hj
      have hj' : j < l.length := by simpa using hj
      rw [Nat.zero_add, hr j hj']
      simp [encV, List.getD_eq_getElem?_getD, List.getElem?_eq_getElem hj']
    · rintro e w' ⟨rfl, rfl⟩
      refine ⟨ret_bool ?_, rfl⟩
      rw [show l.length = (l.map fun v => (⟨v.toArray⟩ : ByteArray)).length by simp, List.take_length, Bool.eq_iff_iff, Lib.containsS_iff]
      simp only [List.mem_map, decide_eq_true_eq]
      constructor
      · rintro ⟨v, hv, e⟩
        have := congrArg (fun s : ByteArray => s.data.toList) e
        simp at this
        exact this ▸ hv
      · intro hx
        exact ⟨x, hx, rfl⟩
end Go.Proofs.YtnlcfnpcjkcdmacGreatDoor
