import Derived.Test.YtenakehnnmencagGreatDoorMA1x0
import Derived.Test.YtenakehnnmencagGreatDoorMA0x7
import Derived.OwnWalk
import Derived.Deep.DeepCutAuto

/- reader.part: three slots. -/
namespace Go.Proofs.YtenakehnnmencagGreatDoor
open Go Go.RowKit Go.Proofs Go.Maps
set_option synthInstance.maxSize 1000

theorem tk_slot (M : List (List UInt8)) : slotS (M, false) = (tkV ([], tmZero) slotW slotB M, tkM slotB M, !tkB slotB M) := by
  cases M with
  | nil => rfl
  | cons x r =>
    unfold slotS tkV tkM tkB slotW slotB
    simp only [Bool.false_eq_true, if_false]
    by_cases hv : varW x = true
    · simp [hv]
    · have hv' : varW x = false := by simpa using hv
      by_cases hp : parseN x = 0 <;> simp [hv', hp]
theorem slot_bad {s : InS} (h : s.2 = true) : slotS s = (([], tmZero), s) := by unfold slotS; rw [if_pos h]
/-- what is left behind k slots, the k-th slot, and whether it is one -/
def mK (M : List (List UInt8)) : Nat → List (List UInt8)
  | 0 => M
  | k + 1 => tkM slotB (mK M k)
def xK (M : List (List UInt8)) (k : Nat) : Sl := tkV ([], tmZero) slotW slotB (mK M k)
def bK (M : List (List UInt8)) (k : Nat) : Bool := tkB slotB (mK M k)
def pK (M : List (List UInt8)) (k : Nat) : Pt := (if 0 < k then xK M 0 else ([], tmZero), if 1 < k then xK M 1 else ([], tmZero), if 2 < k then xK M 2 else ([], tmZero))
theorem patS_eq (M : List (List UInt8)) : patS (M, false) = ((xK M 0, (slotS (mK M 1, !bK M 0)).1, (slotS (slotS (mK M 1, !bK M 0)).2).1), (slotS (slotS (mK M 1, !bK M 0)).2).2) := by
  unfold patS; rw [tk_slot]; rfl
theorem pat_ok (M : List (List UInt8)) (h0 : bK M 0 = true) (h1 : bK M 1 = true) (h2 : bK M 2 = true) : patS (M, false) = (pK M 3, mK M 3, false) := by
  rw [patS_eq, h0, Bool.not_true, tk_slot]
  show ((xK M 0, xK M 1, (slotS (mK M 2, !bK M 1)).1), (slotS (mK M 2, !bK M 1)).2) = _
  rw [h1, Bool.not_true, tk_slot]
  show ((xK M 0, xK M 1, xK M 2), mK M 3, !bK M 2) = _
  rw [h2]
  rfl
theorem pat_stop0 (M : List (List UInt8)) (h0 : bK M 0 = false) : (patS (M, false)).2 = (mK M 1, true) := by
  rw [patS_eq, h0, Bool.not_false, slot_bad rfl, slot_bad rfl]
theorem pat_stop1 (M : List (List UInt8)) (h0 : bK M 0 = true) (h1 : bK M 1 = false) : (patS (M, false)).2 = (mK M 2, true) := by
  rw [patS_eq, h0, Bool.not_true, tk_slot]
  show (slotS (mK M 2, !bK M 1)).2 = _
  rw [h1, Bool.not_false, slot_bad rfl]
theorem pat_stop2 (M : List (List UInt8)) (h0 : bK M 0 = true) (h1 : bK M 1 = true) (h2 : bK M 2 = false) : (patS (M, false)).2 = (mK M 3, true) := by
  rw [patS_eq, h0, Bool.not_true, tk_slot]
  show (slotS (mK M 2, !bK M 1)).2 = _
  rw [h1, Bool.not_true, tk_slot]
  show (mK M 3, !bK M 2) = _
  rw [h2]
  rfl
/-- where part stands: the pattern's box, the slots' -/
structure PSt (w W : World) (g : Nat) (M : List (List UInt8)) (N : Nat) (p : Pt) : Prop where
  rd : RdO W g M N
  but : ButO g w W
  lt : g < w.heap.size
  res : W.heap[w.heap.size]? = some (.cells (encPt (([], tmZero), ([], tmZero), ([], tmZero))).toArray 108)
  arr : W.heap[w.heap.size + 1]? = some (.cells (encPt p).toArray 179)
section
variable {w W W' : World} {g N : Nat} {M M' : List (List UInt8)} {p : Pt}
theorem PSt.sz (h : PSt w W g M N p) : w.heap.size + 1 < W.heap.size := (Array.getElem?_eq_some_iff.1 h.arr).1
theorem PSt.to (h : PSt w W g M N p) (hr : RdO W' g M' N) (hb : ButO g W W') : PSt w W' g M' N p := by
  have hz := h.sz
  have hl := h.lt
  have k : ∀ j, j < W.heap.size → j ≠ g → W'.heap[j]? = W.heap[j]? := fun j h1 h2 => hb.block j h1 (fun e => h2 (Option.some.inj e))
  exact ⟨hr, h.but.trans hb, hl, (k _ (by omega) (by omega)).trans h.res, (k _ hz (by omega)).trans h.arr⟩
theorem PSt.below (h : PSt w W g M N p) (hb : RowKit.Below W.heap.size W W') : PSt w W' g M N p := h.to (h.rd.below hb) (ButO.of hb)
theorem PSt.acells (h : PSt w W g M N p) (j : Nat) (v : Value) (hv : (encPt p)[j]? = some v) : W.cell? ⟨w.heap.size + 1, j, none⟩ = some v := by
  simp only [World.cell?]
  rw [h.arr]
  simp
  exact hv
theorem PSt.afree (h : PSt w W g M N p) (j : Nat) : W.frozen? ⟨w.heap.size + 1, j, none⟩ = false := by simp [World.frozen?, h.arr]
theorem PSt.rcells (h : PSt w W g M N p) (j : Nat) (v : Value) (hv : (encPt (([], tmZero), ([], tmZero), ([], tmZero)))[j]? = some v) : W.cell? ⟨w.heap.size, j, none⟩ = some v := by
  simp only [World.cell?]
  rw [h.res]
  simp
  exact hv
theorem PSt.rfree (h : PSt w W g M N p) (j : Nat) : W.frozen? ⟨w.heap.size, j, none⟩ = false := by simp [World.frozen?, h.res]
/-- a slot is put into its place -/
theorem PSt.put (h : PSt w W g M N p) (a b c d : Nat) (va vb vc vd : Value) (p' : Pt)
    (hp : ((((encPt p).toArray.setIfInBounds a va).setIfInBounds b vb).setIfInBounds c vc).setIfInBounds d vd = (encPt p').toArray) :
    PSt w ((((W.setCell ⟨w.heap.size + 1, a, none⟩ va).setCell ⟨w.heap.size + 1, b, none⟩ vb).setCell ⟨w.heap.size + 1, c, none⟩ vc).setCell ⟨w.heap.size + 1, d, none⟩ vd) g M N p' := by
  have hl := h.lt
  have o : ∀ j, j ≠ w.heap.size + 1 → ((((W.setCell ⟨w.heap.size + 1, a, none⟩ va).setCell ⟨w.heap.size + 1, b, none⟩ vb).setCell ⟨w.heap.size + 1, c, none⟩ vc).setCell ⟨w.heap.size + 1, d, none⟩ vd).heap[j]? = W.heap[j]? := fun j hj => by
    rw [heapO_other _ _ _ _ _ hj, heapO_other _ _ _ _ _ hj, heapO_other _ _ _ _ _ hj, heapO_other _ _ _ _ _ hj]
  refine ⟨h.rd.keep (o _ (by omega)), (((ButO.put h.but (by omega) _).put (by omega) _).put (by omega) _).put (by omega) _, hl, (o _ (by omega)).trans h.res, ?_⟩
  rw [heapO_same _ _ _ _ _ _ (heapO_same _ _ _ _ _ _ (heapO_same _ _ _ _ _ _ (heapO_same _ _ _ _ _ _ h.arr))), hp]
end
/-- a pattern is put into a box -/
abbrev set12 (W : World) (b : Nat) (p : Pt) : World := ((((((((((((W.setCell ⟨b, 0, none⟩ (.string ⟨p.1.1.toArray⟩)).setCell ⟨b, 1, none⟩ (.int .i64 p.1.2.1)).setCell ⟨b, 2, none⟩ (.string ⟨p.1.2.2.1.toArray⟩)).setCell ⟨b, 3, none⟩ (.string ⟨p.1.2.2.2.toArray⟩)).setCell ⟨b, 4, none⟩ (.string ⟨p.2.1.1.toArray⟩)).setCell ⟨b, 5, none⟩ (.int .i64 p.2.1.2.1)).setCell ⟨b, 6, none⟩ (.string ⟨p.2.1.2.2.1.toArray⟩)).setCell ⟨b, 7, none⟩ (.string ⟨p.2.1.2.2.2.toArray⟩)).setCell ⟨b, 8, none⟩ (.string ⟨p.2.2.1.toArray⟩)).setCell ⟨b, 9, none⟩ (.int .i64 p.2.2.2.1)).setCell ⟨b, 10, none⟩ (.string ⟨p.2.2.2.2.1.toArray⟩)).setCell ⟨b, 11, none⟩ (.string ⟨p.2.2.2.2.2.toArray⟩))
theorem set12_other (W : World) (b : Nat) (p : Pt) (j : Nat) (h : j ≠ b) : (set12 W b p).heap[j]? = W.heap[j]? := by
  unfold set12
  rw [heapO_other _ _ _ _ _ h, heapO_other _ _ _ _ _ h, heapO_other _ _ _ _ _ h, heapO_other _ _ _ _ _ h, heapO_other _ _ _ _ _ h, heapO_other _ _ _ _ _ h, heapO_other _ _ _ _ _ h, heapO_other _ _ _ _ _ h, heapO_other _ _ _ _ _ h, heapO_other _ _ _ _ _ h, heapO_other _ _ _ _ _ h, heapO_other _ _ _ _ _ h]
theorem PSt.out {w W : World} {g N : Nat} {M : List (List UInt8)} {p : Pt} (h : PSt w W g M N p) (x : Pt) : RdO (set12 W w.heap.size x) g M N ∧ ButO g w (set12 W w.heap.size x) := by
  have hl := h.lt
  refine ⟨h.rd.keep (set12_other _ _ _ _ (by omega)), ?_⟩
  unfold set12
  exact (((((((((((ButO.put h.but (Nat.le_refl _) _).put (Nat.le_refl _) _).put (Nat.le_refl _) _).put (Nat.le_refl _) _).put (Nat.le_refl _) _).put (Nat.le_refl _) _).put (Nat.le_refl _) _).put (Nat.le_refl _) _).put (Nat.le_refl _) _).put (Nat.le_refl _) _).put (Nat.le_refl _) _).put (Nat.le_refl _) _
/-- what part answers -/
def PartAns (g N : Nat) (w : World) (PP : Pt × InS) (e : Ending) (w' : World) : Prop := ∃ p, e = .returned (.tuple #[valPt p, .bool (!PP.2.2)]) ∧ (PP.2.2 = false → p = PP.1) ∧ RdO w' g PP.2.1 N ∧ ButO g w w'
theorem heap_alloc_at (W : World) (o : Obj) {n : Nat} (h : n = W.heap.size) : (W.alloc o).heap[n]? = some o := by subst h; exact heap_alloc_new W o
theorem pst_new (w : World) (g : Nat) (M : List (List UInt8)) (N : Nat) (h : RdO w g M N) : PSt w ((w.alloc (.cells (encPt (([], tmZero), ([], tmZero), ([], tmZero))).toArray 108)).alloc (.cells (encPt (([], tmZero), ([], tmZero), ([], tmZero))).toArray 179)) g M N (pK M 0) := by
  have hb : RowKit.Below w.heap.size w ((w.alloc (.cells (encPt (([], tmZero), ([], tmZero), ([], tmZero))).toArray 108)).alloc (.cells (encPt (([], tmZero), ([], tmZero), ([], tmZero))).toArray 179)) := bnew (balloc _ _) _
  refine ⟨h.below hb, ButO.of hb, h.lt, ?_, ?_⟩
  · rw [(balloc _ _).block _ (by simp)]; exact heap_alloc_new w _
  · exact heap_alloc_at _ _ (by simp)
set_option maxHeartbeats 8000000 in
set_option maxRecDepth 100000 in
theorem part_own (g : Nat) (M : List (List UInt8)) (N : Nat) (w : World) (h : RdO w g M N) :
    Calls Tryz.prog 134 #[.pointer (some ⟨g, 0, none⟩)] w (PartAns g N w (patS (M, false))) := by
  obtain ⟨w0, hw0⟩ : ∃ w0, w0 = (w.alloc (.cells #[.string ⟨#[]⟩, .int .i64 0, .string ⟨#[]⟩, .string ⟨#[]⟩, .string ⟨#[]⟩, .int .i64 0, .string ⟨#[]⟩, .string ⟨#[]⟩, .string ⟨#[]⟩, .int .i64 0, .string ⟨#[]⟩, .string ⟨#[]⟩] 108)).alloc (.cells #[.string ⟨#[]⟩, .int .i64 0, .string ⟨#[]⟩, .string ⟨#[]⟩, .string ⟨#[]⟩, .int .i64 0, .string ⟨#[]⟩, .string ⟨#[]⟩, .string ⟨#[]⟩, .int .i64 0, .string ⟨#[]⟩, .string ⟨#[]⟩] 179) := ⟨_, rfl⟩
  have P0 : Hid (PSt w w0 g M N (pK M 0)) := by rw [hw0]; exact pst_new w g M N h
  have HT := fun W M' hr => takenL_any g M' N W hr
  have HW := hideK hw0
  have HO := hideK (fun h0 h1 h2 => pat_ok M h0 h1 h2)
  have HS0 := hideK (fun h0 => pat_stop0 M h0)
  have HS1 := hideK (fun h0 h1 => pat_stop1 M h0 h1)
  have HS2 := hideK (fun h0 h1 h2 => pat_stop2 M h0 h1 h2)
  clear h
  generalize patS (M, false) = PP at *
  obtain ⟨Q, hQ⟩ : ∃ Q, Q = PartAns g N w PP := ⟨_, rfl⟩
  have HQ : Hid (∀ e w', PartAns g N w PP e w' → Q e w') := fun e w' h => by rw [hQ]; exact h
  rw [← hQ]
  clear hQ
  go_enter Tryz.func134, Tryz.ntmps134
  go_wp2_with fail
  rw [← HW.out]
  clear hw0 HW
  go_loopw [8] (fun i wr => ∃ k : Nat, k ≤ 3 ∧ i = .int .i64 k ∧ Hid (PSt w wr g (mK M k) N (pK M k)) ∧ Hid (∀ j, j < k → bK M j = true)) (fun i _ => 3 - (intOf i).toNat)
  case atStart => exact ⟨0, by omega, rfl, P0, fun j hj => by omega⟩
  case round =>
    obtain ⟨k, hk, rfl, Px, Hx⟩ := hrel
    rcases (by omega : k = 0 ∨ k = 1 ∨ k = 2 ∨ k = 3) with rfl | rfl | rfl | rfl
    · have HC := HT wr (mK M 0) Px.out.rd
      rw [show tkV ([], tmZero) slotW slotB (mK M 0) = xK M 0 from rfl, show tkB slotB (mK M 0) = bK M 0 from rfl, show tkM slotB (mK M 0) = mK M (0 + 1) from rfl] at HC
      have HS : Hid (bK M 0 = false → PP.2 = (mK M (0 + 1), true)) := fun h => HS0.out  h
      have Hn : Hid (bK M 0 = true → ∀ j, j < 0 + 1 → bK M j = true) := fun h j hj => by
        rcases (by omega : j < 0 ∨ j = 0) with h1 | rfl
        · exact Hx.out j h1
        · exact h
      have Hp : Hid ((((((encPt (pK M 0)).toArray.setIfInBounds 0 (.string ⟨(xK M 0).1.toArray⟩)).setIfInBounds 1 (.int .i64 (xK M 0).2.1)).setIfInBounds 2 (.string ⟨(xK M 0).2.2.1.toArray⟩)).setIfInBounds 3 (.string ⟨(xK M 0).2.2.2.toArray⟩)) = (encPt (pK M (0 + 1))).toArray) := by show _ = _; simp [encPt, pK]
      generalize hb : bK M 0 = b at *
      generalize xK M 0 = x at *
      have Hb := hideK hb
      clear hb HO HS0 HS1 HS2
      unfold valSl at HC
      go_wp2_with fail
      refine HC.mono ?_
      rintro e w1 ⟨rfl, hr1, hb1⟩
      dsimp only
      have P1 := hideK ((Px.out.to hr1 hb1).below (balloc w1 (.cells #[.string ⟨x.1.toArray⟩, .int .i64 x.2.1, .string ⟨x.2.2.1.toArray⟩, .string ⟨x.2.2.2.toArray⟩] 106)))
      have hzz := (Px.out.to hr1 hb1).sz
      clear HC hr1 hb1 Px
      cases b
      · have e1 := hideK (HS.out rfl)
        have r0 := P1.out.rcells 0 _ rfl
        have r1 := P1.out.rcells 1 _ rfl
        have r2 := P1.out.rcells 2 _ rfl
        have r3 := P1.out.rcells 3 _ rfl
        have r4 := P1.out.rcells 4 _ rfl
        have r5 := P1.out.rcells 5 _ rfl
        have r6 := P1.out.rcells 6 _ rfl
        have r7 := P1.out.rcells 7 _ rfl
        have r8 := P1.out.rcells 8 _ rfl
        have r9 := P1.out.rcells 9 _ rfl
        have r10 := P1.out.rcells 10 _ rfl
        have r11 := P1.out.rcells 11 _ rfl
        have f0 := P1.out.rfree 0
        have f1 := P1.out.rfree 1
        have f2 := P1.out.rfree 2
        have f3 := P1.out.rfree 3
        have f4 := P1.out.rfree 4
        have f5 := P1.out.rfree 5
        have f6 := P1.out.rfree 6
        have f7 := P1.out.rfree 7
        have f8 := P1.out.rfree 8
        have f9 := P1.out.rfree 9
        have f10 := P1.out.rfree 10
        have f11 := P1.out.rfree 11
        go_upto_region 6 with fail
        generalize w1.alloc (.cells #[.string ⟨x.1.toArray⟩, .int .i64 x.2.1, .string ⟨x.2.2.1.toArray⟩, .string ⟨x.2.2.2.toArray⟩] 106) = w2 at *
        go_wp2_with fail
        have hout := P1.out.out (([], tmZero), ([], tmZero), ([], tmZero))
        refine bodyPost_ret (v := .tuple #[valPt (([], tmZero), ([], tmZero), ([], tmZero)), .bool false]) (by unfold valPt; simp [results, Tryz.results134, go_sem, r0, r1, r2, r3, r4, r5, r6, r7, r8, r9, r10, r11, tmZero]) rfl (HQ.out _ _ ⟨_, by rw [e1.out]; rfl, fun h => ?_, by rw [e1.out]; exact hout.1, hout.2⟩)
        rw [e1.out] at h
        cases h
      · clear HS
        have a0 := P1.out.acells 0 _ rfl
        have a1 := P1.out.acells 1 _ rfl
        have a2 := P1.out.acells 2 _ rfl
        have a3 := P1.out.acells 3 _ rfl
        have f0 := P1.out.afree 0
        have f1 := P1.out.afree 1
        have f2 := P1.out.afree 2
        have f3 := P1.out.afree 3
        have c0 : (w1.alloc (.cells #[.string ⟨x.1.toArray⟩, .int .i64 x.2.1, .string ⟨x.2.2.1.toArray⟩, .string ⟨x.2.2.2.toArray⟩] 106)).cell? ⟨w1.heap.size, 0, none⟩ = some (.string ⟨x.1.toArray⟩) := by go_simp
        have c1 : (w1.alloc (.cells #[.string ⟨x.1.toArray⟩, .int .i64 x.2.1, .string ⟨x.2.2.1.toArray⟩, .string ⟨x.2.2.2.toArray⟩] 106)).cell? ⟨w1.heap.size, 1, none⟩ = some (.int .i64 x.2.1) := by go_simp
        have c2 : (w1.alloc (.cells #[.string ⟨x.1.toArray⟩, .int .i64 x.2.1, .string ⟨x.2.2.1.toArray⟩, .string ⟨x.2.2.2.toArray⟩] 106)).cell? ⟨w1.heap.size, 2, none⟩ = some (.string ⟨x.2.2.1.toArray⟩) := by go_simp
        have c3 : (w1.alloc (.cells #[.string ⟨x.1.toArray⟩, .int .i64 x.2.1, .string ⟨x.2.2.1.toArray⟩, .string ⟨x.2.2.2.toArray⟩] 106)).cell? ⟨w1.heap.size, 3, none⟩ = some (.string ⟨x.2.2.2.toArray⟩) := by go_simp
        go_upto_region 6 with fail
        generalize w1.alloc (.cells #[.string ⟨x.1.toArray⟩, .int .i64 x.2.1, .string ⟨x.2.2.1.toArray⟩, .string ⟨x.2.2.2.toArray⟩] 106) = w2 at *
        have P2 := hideK (P1.out.put 0 1 2 3 _ _ _ _ _ Hp.out)
        go_wp2_with fail
        go_roundw
        case rel => exact ⟨0 + 1, by omega, by go_num, P2, Hn.out rfl⟩
        case measure => simp [intOf]
    · have HC := HT wr (mK M 1) Px.out.rd
      rw [show tkV ([], tmZero) slotW slotB (mK M 1) = xK M 1 from rfl, show tkB slotB (mK M 1) = bK M 1 from rfl, show tkM slotB (mK M 1) = mK M (1 + 1) from rfl] at HC
      have HS : Hid (bK M 1 = false → PP.2 = (mK M (1 + 1), true)) := fun h => HS1.out (Hx.out 0 (by omega)) h
      have Hn : Hid (bK M 1 = true → ∀ j, j < 1 + 1 → bK M j = true) := fun h j hj => by
        rcases (by omega : j < 1 ∨ j = 1) with h1 | rfl
        · exact Hx.out j h1
        · exact h
      have Hp : Hid ((((((encPt (pK M 1)).toArray.setIfInBounds 4 (.string ⟨(xK M 1).1.toArray⟩)).setIfInBounds 5 (.int .i64 (xK M 1).2.1)).setIfInBounds 6 (.string ⟨(xK M 1).2.2.1.toArray⟩)).setIfInBounds 7 (.string ⟨(xK M 1).2.2.2.toArray⟩)) = (encPt (pK M (1 + 1))).toArray) := by show _ = _; simp [encPt, pK]
      generalize hb : bK M 1 = b at *
      generalize xK M 1 = x at *
      have Hb := hideK hb
      clear hb HO HS0 HS1 HS2
      unfold valSl at HC
      go_wp2_with fail
      refine HC.mono ?_
      rintro e w1 ⟨rfl, hr1, hb1⟩
      dsimp only
      have P1 := hideK ((Px.out.to hr1 hb1).below (balloc w1 (.cells #[.string ⟨x.1.toArray⟩, .int .i64 x.2.1, .string ⟨x.2.2.1.toArray⟩, .string ⟨x.2.2.2.toArray⟩] 106)))
      have hzz := (Px.out.to hr1 hb1).sz
      clear HC hr1 hb1 Px
      cases b
      · have e1 := hideK (HS.out rfl)
        have r0 := P1.out.rcells 0 _ rfl
        have r1 := P1.out.rcells 1 _ rfl
        have r2 := P1.out.rcells 2 _ rfl
        have r3 := P1.out.rcells 3 _ rfl
        have r4 := P1.out.rcells 4 _ rfl
        have r5 := P1.out.rcells 5 _ rfl
        have r6 := P1.out.rcells 6 _ rfl
        have r7 := P1.out.rcells 7 _ rfl
        have r8 := P1.out.rcells 8 _ rfl
        have r9 := P1.out.rcells 9 _ rfl
        have r10 := P1.out.rcells 10 _ rfl
        have r11 := P1.out.rcells 11 _ rfl
        have f0 := P1.out.rfree 0
        have f1 := P1.out.rfree 1
        have f2 := P1.out.rfree 2
        have f3 := P1.out.rfree 3
        have f4 := P1.out.rfree 4
        have f5 := P1.out.rfree 5
        have f6 := P1.out.rfree 6
        have f7 := P1.out.rfree 7
        have f8 := P1.out.rfree 8
        have f9 := P1.out.rfree 9
        have f10 := P1.out.rfree 10
        have f11 := P1.out.rfree 11
        go_upto_region 6 with fail
        generalize w1.alloc (.cells #[.string ⟨x.1.toArray⟩, .int .i64 x.2.1, .string ⟨x.2.2.1.toArray⟩, .string ⟨x.2.2.2.toArray⟩] 106) = w2 at *
        go_wp2_with fail
        have hout := P1.out.out (([], tmZero), ([], tmZero), ([], tmZero))
        refine bodyPost_ret (v := .tuple #[valPt (([], tmZero), ([], tmZero), ([], tmZero)), .bool false]) (by unfold valPt; simp [results, Tryz.results134, go_sem, r0, r1, r2, r3, r4, r5, r6, r7, r8, r9, r10, r11, tmZero]) rfl (HQ.out _ _ ⟨_, by rw [e1.out]; rfl, fun h => ?_, by rw [e1.out]; exact hout.1, hout.2⟩)
        rw [e1.out] at h
        cases h
      · clear HS
        have a0 := P1.out.acells 4 _ rfl
        have a1 := P1.out.acells 5 _ rfl
        have a2 := P1.out.acells 6 _ rfl
        have a3 := P1.out.acells 7 _ rfl
        have f0 := P1.out.afree 4
        have f1 := P1.out.afree 5
        have f2 := P1.out.afree 6
        have f3 := P1.out.afree 7
        have c0 : (w1.alloc (.cells #[.string ⟨x.1.toArray⟩, .int .i64 x.2.1, .string ⟨x.2.2.1.toArray⟩, .string ⟨x.2.2.2.toArray⟩] 106)).cell? ⟨w1.heap.size, 0, none⟩ = some (.string ⟨x.1.toArray⟩) := by go_simp
        have c1 : (w1.alloc (.cells #[.string ⟨x.1.toArray⟩, .int .i64 x.2.1, .string ⟨x.2.2.1.toArray⟩, .string ⟨x.2.2.2.toArray⟩] 106)).cell? ⟨w1.heap.size, 1, none⟩ = some (.int .i64 x.2.1) := by go_simp
        have c2 : (w1.alloc (.cells #[.string ⟨x.1.toArray⟩, .int .i64 x.2.1, .string ⟨x.2.2.1.toArray⟩, .string ⟨x.2.2.2.toArray⟩] 106)).cell? ⟨w1.heap.size, 2, none⟩ = some (.string ⟨x.2.2.1.toArray⟩) := by go_simp
        have c3 : (w1.alloc (.cells #[.string ⟨x.1.toArray⟩, .int .i64 x.2.1, .string ⟨x.2.2.1.toArray⟩, .string ⟨x.2.2.2.toArray⟩] 106)).cell? ⟨w1.heap.size, 3, none⟩ = some (.string ⟨x.2.2.2.toArray⟩) := by go_simp
        go_upto_region 6 with fail
        generalize w1.alloc (.cells #[.string ⟨x.1.toArray⟩, .int .i64 x.2.1, .string ⟨x.2.2.1.toArray⟩, .string ⟨x.2.2.2.toArray⟩] 106) = w2 at *
        have P2 := hideK (P1.out.put 4 5 6 7 _ _ _ _ _ Hp.out)
        go_wp2_with fail
        go_roundw
        case rel => exact ⟨1 + 1, by omega, by go_num, P2, Hn.out rfl⟩
        case measure => simp [intOf]
    · have HC := HT wr (mK M 2) Px.out.rd
      rw [show tkV ([], tmZero) slotW slotB (mK M 2) = xK M 2 from rfl, show tkB slotB (mK M 2) = bK M 2 from rfl, show tkM slotB (mK M 2) = mK M (2 + 1) from rfl] at HC
      have HS : Hid (bK M 2 = false → PP.2 = (mK M (2 + 1), true)) := fun h => HS2.out (Hx.out 0 (by omega)) (Hx.out 1 (by omega)) h
      have Hn : Hid (bK M 2 = true → ∀ j, j < 2 + 1 → bK M j = true) := fun h j hj => by
        rcases (by omega : j < 2 ∨ j = 2) with h1 | rfl
        · exact Hx.out j h1
        · exact h
      have Hp : Hid ((((((encPt (pK M 2)).toArray.setIfInBounds 8 (.string ⟨(xK M 2).1.toArray⟩)).setIfInBounds 9 (.int .i64 (xK M 2).2.1)).setIfInBounds 10 (.string ⟨(xK M 2).2.2.1.toArray⟩)).setIfInBounds 11 (.string ⟨(xK M 2).2.2.2.toArray⟩)) = (encPt (pK M (2 + 1))).toArray) := by show _ = _; simp [encPt, pK]
      generalize hb : bK M 2 = b at *
      generalize xK M 2 = x at *
      have Hb := hideK hb
      clear hb HO HS0 HS1 HS2
      unfold valSl at HC
      go_wp2_with fail
      refine HC.mono ?_
      rintro e w1 ⟨rfl, hr1, hb1⟩
      dsimp only
      have P1 := hideK ((Px.out.to hr1 hb1).below (balloc w1 (.cells #[.string ⟨x.1.toArray⟩, .int .i64 x.2.1, .string ⟨x.2.2.1.toArray⟩, .string ⟨x.2.2.2.toArray⟩] 106)))
      have hzz := (Px.out.to hr1 hb1).sz
      clear HC hr1 hb1 Px
      cases b
      · have e1 := hideK (HS.out rfl)
        have r0 := P1.out.rcells 0 _ rfl
        have r1 := P1.out.rcells 1 _ rfl
        have r2 := P1.out.rcells 2 _ rfl
        have r3 := P1.out.rcells 3 _ rfl
        have r4 := P1.out.rcells 4 _ rfl
        have r5 := P1.out.rcells 5 _ rfl
        have r6 := P1.out.rcells 6 _ rfl
        have r7 := P1.out.rcells 7 _ rfl
        have r8 := P1.out.rcells 8 _ rfl
        have r9 := P1.out.rcells 9 _ rfl
        have r10 := P1.out.rcells 10 _ rfl
        have r11 := P1.out.rcells 11 _ rfl
        have f0 := P1.out.rfree 0
        have f1 := P1.out.rfree 1
        have f2 := P1.out.rfree 2
        have f3 := P1.out.rfree 3
        have f4 := P1.out.rfree 4
        have f5 := P1.out.rfree 5
        have f6 := P1.out.rfree 6
        have f7 := P1.out.rfree 7
        have f8 := P1.out.rfree 8
        have f9 := P1.out.rfree 9
        have f10 := P1.out.rfree 10
        have f11 := P1.out.rfree 11
        go_upto_region 6 with fail
        generalize w1.alloc (.cells #[.string ⟨x.1.toArray⟩, .int .i64 x.2.1, .string ⟨x.2.2.1.toArray⟩, .string ⟨x.2.2.2.toArray⟩] 106) = w2 at *
        go_wp2_with fail
        have hout := P1.out.out (([], tmZero), ([], tmZero), ([], tmZero))
        refine bodyPost_ret (v := .tuple #[valPt (([], tmZero), ([], tmZero), ([], tmZero)), .bool false]) (by unfold valPt; simp [results, Tryz.results134, go_sem, r0, r1, r2, r3, r4, r5, r6, r7, r8, r9, r10, r11, tmZero]) rfl (HQ.out _ _ ⟨_, by rw [e1.out]; rfl, fun h => ?_, by rw [e1.out]; exact hout.1, hout.2⟩)
        rw [e1.out] at h
        cases h
      · clear HS
        have a0 := P1.out.acells 8 _ rfl
        have a1 := P1.out.acells 9 _ rfl
        have a2 := P1.out.acells 10 _ rfl
        have a3 := P1.out.acells 11 _ rfl
        have f0 := P1.out.afree 8
        have f1 := P1.out.afree 9
        have f2 := P1.out.afree 10
        have f3 := P1.out.afree 11
        have c0 : (w1.alloc (.cells #[.string ⟨x.1.toArray⟩, .int .i64 x.2.1, .string ⟨x.2.2.1.toArray⟩, .string ⟨x.2.2.2.toArray⟩] 106)).cell? ⟨w1.heap.size, 0, none⟩ = some (.string ⟨x.1.toArray⟩) := by go_simp
        have c1 : (w1.alloc (.cells #[.string ⟨x.1.toArray⟩, .int .i64 x.2.1, .string ⟨x.2.2.1.toArray⟩, .string ⟨x.2.2.2.toArray⟩] 106)).cell? ⟨w1.heap.size, 1, none⟩ = some (.int .i64 x.2.1) := by go_simp
        have c2 : (w1.alloc (.cells #[.string ⟨x.1.toArray⟩, .int .i64 x.2.1, .string ⟨x.2.2.1.toArray⟩, .string ⟨x.2.2.2.toArray⟩] 106)).cell? ⟨w1.heap.size, 2, none⟩ = some (.string ⟨x.2.2.1.toArray⟩) := by go_simp
        have c3 : (w1.alloc (.cells #[.string ⟨x.1.toArray⟩, .int .i64 x.2.1, .string ⟨x.2.2.1.toArray⟩, .string ⟨x.2.2.2.toArray⟩] 106)).cell? ⟨w1.heap.size, 3, none⟩ = some (.string ⟨x.2.2.2.toArray⟩) := by go_simp
        go_upto_region 6 with fail
        generalize w1.alloc (.cells #[.string ⟨x.1.toArray⟩, .int .i64 x.2.1, .string ⟨x.2.2.1.toArray⟩, .string ⟨x.2.2.2.toArray⟩] 106) = w2 at *
        have P2 := hideK (P1.out.put 8 9 10 11 _ _ _ _ _ Hp.out)
        go_wp2_with fail
        go_roundw
        case rel => exact ⟨2 + 1, by omega, by go_num, P2, Hn.out rfl⟩
        case measure => simp [intOf]
    · have e1 := hideK (HO.out (Hx.out 0 (by omega)) (Hx.out 1 (by omega)) (Hx.out 2 (by omega)))
      generalize pK M 3 = p at *
      generalize mK M 3 = M3 at *
      clear HO HS0 HS1 HS2 Hx HT P0
      have a0 := Px.out.acells 0 _ rfl
      have r0 := Px.out.rcells 0 _ rfl
      have f0 := Px.out.rfree 0
      have a1 := Px.out.acells 1 _ rfl
      have r1 := Px.out.rcells 1 _ rfl
      have f1 := Px.out.rfree 1
      have a2 := Px.out.acells 2 _ rfl
      have r2 := Px.out.rcells 2 _ rfl
      have f2 := Px.out.rfree 2
      have a3 := Px.out.acells 3 _ rfl
      have r3 := Px.out.rcells 3 _ rfl
      have f3 := Px.out.rfree 3
      have a4 := Px.out.acells 4 _ rfl
      have r4 := Px.out.rcells 4 _ rfl
      have f4 := Px.out.rfree 4
      have a5 := Px.out.acells 5 _ rfl
      have r5 := Px.out.rcells 5 _ rfl
      have f5 := Px.out.rfree 5
      have a6 := Px.out.acells 6 _ rfl
      have r6 := Px.out.rcells 6 _ rfl
      have f6 := Px.out.rfree 6
      have a7 := Px.out.acells 7 _ rfl
      have r7 := Px.out.rcells 7 _ rfl
      have f7 := Px.out.rfree 7
      have a8 := Px.out.acells 8 _ rfl
      have r8 := Px.out.rcells 8 _ rfl
      have f8 := Px.out.rfree 8
      have a9 := Px.out.acells 9 _ rfl
      have r9 := Px.out.rcells 9 _ rfl
      have f9 := Px.out.rfree 9
      have a10 := Px.out.acells 10 _ rfl
      have r10 := Px.out.rcells 10 _ rfl
      have f10 := Px.out.rfree 10
      have a11 := Px.out.acells 11 _ rfl
      have r11 := Px.out.rcells 11 _ rfl
      have f11 := Px.out.rfree 11
      go_wp2_with fail
      have hout := Px.out.out p
      exact bodyPost_ret (v := .tuple #[valPt p, .bool true]) (by unfold valPt; simp [results, Tryz.results134, go_sem, r0, r1, r2, r3, r4, r5, r6, r7, r8, r9, r10, r11]) rfl (HQ.out _ _ ⟨p, by rw [e1.out]; rfl, fun h => by rw [e1.out], by rw [e1.out]; exact hout.1, hout.2⟩)
end Go.Proofs.YtenakehnnmencagGreatDoor

/- The document's Vars: the walk. -/
namespace Go.Proofs.YtenakehnnmencagGreatDoor
open Go Go.RowKit Go.Proofs Go.Maps
set_option synthInstance.maxSize 1000

attribute [local go_sem ↓] eqlEmpty neqEmpty

set_option maxHeartbeats 8000000 in
set_option maxRecDepth 100000 in
theorem RVarsO_any (p : Pt) (w : World) (hp : fitPt p) :
    Calls Tryz.prog 85 #[valPt p] w fun e w' => Below w.heap.size w w' ∧ ∃ m ad cap, e = .returned (.tuple #[.slice ad m.length cap, .int .i64 (varsN p)]) ∧ w'.ownsRow w.heap.size 9 1 (.slice ad m.length cap) m.length (m.map encV) ∧ VarsAns p m := by
  have HS := RSlots_any p
  have Hp : Hid (fitPt p) := hp
  obtain ⟨i0, hi0, hz⟩ := Option.map_eq_some_iff.1 infoStrV
  simp only [Prod.mk.injEq] at hz
  obtain ⟨hz0, hz1, hz2⟩ := hz
  clear hp
  unfold valPt at HS ⊢
  have hA : Hid (∀ m, (m = if varsN p = 0 then varsL p else []) → VarsAns p m) := fun m h => h
  generalize VarsAns p = A at *
  generalize hvN : varsN p = N at *
  have HN : Hid (varsN p = N) := hvN
  clear hvN
  go_enter Tryz.func85, Tryz.ntmps85
  go_wp2_with fail
  refine (HS _).mono ?_
  rintro e w1 ⟨bs, rfl, hps, hb1⟩
  have hB1 := bstep (balloc _ _) hb1
  have Hps : Hid (PatAt w1 bs p) := hps
  clear hps hb1 HS
  go_wp2_with fail
  go_loopw [4, 6] (fun v i wr => ∃ k : Nat, k ≤ 3 ∧ i = .int .i64 k ∧ Hid (wr.ownsRow w1.heap.size 9 1 v (vK p k).length ((vK p k).map encV)) ∧ Hid (N = restN p k) ∧ Below w1.heap.size w1 wr) (fun _ i wr => 3 - (intOf i).toNat)
  case atStart => exact ⟨0, by omega, rfl, World.ownsRow_nil _ _ _ _, HN.out.symm.trans rfl, Below.refl _ _⟩
  case round =>
    obtain ⟨k, hk, rfl, hown, hrest, hbr⟩ := hrel
    by_cases hlt : k < 3
    · have hst : Hid _ := restN_step p k hlt
      have hvs : Hid _ := vK_step p k hlt
      have hvl : (vK p k).length ≤ 3 := Nat.le_trans (vK_len p k hk) hk
      have hfs : Hid (fitSl (slotK p k)) := fit_slotK Hp.out k
      have i1 : (k : Int) < 3 := by omega
      have i0' : (0 : Int) ≤ (k : Int) := by omega
      have hzr := hbr.size
      have hps := Hps.out.below hbr
      have hbs := hps.lt
      obtain ⟨c0, c1, c2, c3⟩ := hps.at k hlt
      clear hps
      generalize slotK p k = s at *
      obtain ⟨v, kk, S, L⟩ := s
      dsimp only at c0 c1 c2 c3
      have c4 : wr.cell? ⟨bs, k * 4 + 1 + 1, none⟩ = some (.string ⟨S.toArray⟩) := c2
      have c5 : wr.cell? ⟨bs, k * 4 + 1 + 2, none⟩ = some (.string ⟨L.toArray⟩) := c3
      have HT := fun W => RTerm_any kk S L W hfs.out.2.1 hfs.out.2.2
      have HL := fun W => LettersTen_any v W hfs.out.1
      cases hve : v.isEmpty
      rotate_left
      · obtain rfl : v = [] := by simpa using hve
        have hsn : Hid (slotN ([], kk, S, L) = checkN kk S L) := rfl
        have hv2 : Hid (vK p (k + 1) = vK p k) := hvs.out
        clear hve
        generalize checkN kk S L = c at *
        cases hc : (c != 0)
        · have hr2 : Hid (N = restN p (k + 1)) := by show _ = _; rw [hrest.out, hst.out, hsn.out, if_pos (by simpa using hc)]
          go_wp2_with fail
          refine (HT _).mono ?_
          rintro e w2 ⟨rfl, hb2⟩
          go_wp2_with fail
          go_roundw
          case rel =>
            refine ⟨k + 1, by omega, by go_num, ?_, hr2, bstep hbr hb2⟩
            show World.ownsRow _ _ _ _ _ _ _
            rw [hv2.out]
            exact ownsRow_belowV hown.out hb2
          case measure => simp [intOf]; omega
        · have hcn : ¬ c = 0 := by simpa using hc
          have hNN : N = c := by rw [hrest.out, hst.out, hsn.out, if_neg hcn]
          have HNN : Hid (N = c) := hNN
          have HCN : Hid (¬ c = 0) := hcn
          clear hNN hcn
          go_wp2_with fail
          refine (HT _).mono ?_
          rintro e w2 ⟨rfl, hb2⟩
          go_wp2_with fail
          exact bodyPost_ret (v := .tuple #[.slice none 0 0, .int .i64 c]) (by simp [results, Tryz.results85, go_sem]) rfl ⟨bstep hB1 (bstep hbr hb2), [], none, 0, by rw [HNN.out]; rfl, World.ownsRow_nil _ _ _ _, hA.out _ (by rw [HNN.out, if_neg HCN.out])⟩
      · have hvn : Hid (¬ v = []) := by show ¬ v = []; simpa using hve
        have hsn : Hid (slotN (v, kk, S, L) = if spellV v = false then 2 else if (kk, S, L) = tmZero then 0 else 3) := by
          show slotN _ = _
          unfold slotN
          rw [if_neg hvn.out]
        rw [ten_spell hvn.out] at HL
        have hvs2 : Hid (vK p (k + 1) = if v ∈ vK p k then vK p k else vK p k ++ [v]) := by
          show _ = _
          rw [hvs.out]
          exact if_neg hvn.out
        clear hvs
        generalize spellV v = sp at *
        cases sp
        · have HNN : Hid (N = 2) := by show _ = _; rw [hrest.out, hst.out, hsn.out]; simp
          go_wp2_with fail
          refine (HL _).mono ?_
          rintro e w2 ⟨rfl, rfl⟩
          go_wp2_with fail
          exact bodyPost_ret (v := .tuple #[.slice none 0 0, .int .i64 2]) (by simp [results, Tryz.results85, go_sem]) rfl ⟨bstep hB1 hbr, [], none, 0, by rw [HNN.out]; rfl, World.ownsRow_nil _ _ _ _, hA.out _ (by rw [HNN.out]; rfl)⟩
        · by_cases hz : (kk, S, L) = tmZero
          · obtain ⟨rfl, rfl, rfl⟩ : kk = 0 ∧ S = [] ∧ L = [] := by simpa [tmZero] using hz
            have hr2 : Hid (N = restN p (k + 1)) := by show _ = _; rw [hrest.out, hst.out, hsn.out]; simp [tmZero]
            clear hz hst hrest hsn
            obtain ⟨ad, cap, rfl, hsl0⟩ := own_v hown.out
            have hsl : Hid (SlV wr ad (vK p k)) := hsl0
            have HC := fun W h => RHas_any ad cap (vK p k) v W h (by omega)
            clear hsl0
            generalize ht : vK p (k + 1) = t1 at *
            have Ht : Hid _ := ht
            generalize vK p k = t0 at *
            clear ht
            cases hd : decide (v ∈ t0)
            · have hv2 : Hid (t1 = t0 ++ [v]) := by show _ = _; rw [hvs2.out, if_neg (by simpa using hd)]
              rw [hd] at HC
              go_wp2_with fail
              refine (HL _).mono ?_
              rintro e w2 ⟨rfl, rfl⟩
              go_wp2_with fail
              refine (HC _ (hsl.out.below (balloc _ _))).mono ?_
              rintro e w4 ⟨rfl, hw4⟩
              subst hw4
              go_wp2_with (at_builtin; refine wpList_append_own _ rfl _ _ 49 rfl w1.heap.size 9 i0 (.string ByteArray.empty) 1 16 Tryz.underlying49 hi0 hz0 hz1 hz2 rfl (by decide) _ _ _ rfl ((hown.out.alloc _).alloc _) ⟨w2.heap.size + 1, 0, none⟩ 1 1 [encV v] rfl rfl ?c1 ?c2 ?c3 ?c4 ?c5 ?_)
              case c1 =>
                intro j u hj
                have h1 : j < 1 := (List.getElem?_eq_some_iff.1 hj).1
                obtain rfl : j = 0 := by omega
                simp [encV] at hj
                subst hj
                rw [Addr.add_lit]
                go_simp
              case c2 => intro u hu; rw [List.mem_singleton.1 hu]; rfl
              case c3 => unfold maxLen; omega
              case c4 => omega
              case c5 => simp; omega
              intro v' w9 hown' hgrow _
              have hbel := ((hbr.alloc hzr (.cells #[.int .i64 0, .string ⟨#[]⟩, .string ⟨#[]⟩] 42)).alloc (by simp; omega) (.cells #[encV v] 9)).grown hgrow (by simp; omega) (fun k hk => (hown.out.lt k hk).1)
              go_wp2_with fail
              go_roundw
              case rel =>
                refine ⟨k + 1, by omega, by go_num, ?_, hr2, hbel⟩
                show World.ownsRow _ _ _ _ _ _ _
                rw [Ht.out, hv2.out, List.length_append, List.map_append]
                exact hown'
              case measure => simp [intOf]; omega
            · have hv2 : Hid (t1 = t0) := by show _ = _; rw [hvs2.out, if_pos (by simpa using hd)]
              rw [hd] at HC
              go_wp2_with fail
              refine (HL _).mono ?_
              rintro e w2 ⟨rfl, rfl⟩
              go_wp2_with fail
              refine (HC _ (hsl.out.below (balloc _ _))).mono ?_
              rintro e w4 ⟨rfl, hw4⟩
              subst hw4
              go_wp2_with fail
              go_roundw
              case rel =>
                refine ⟨k + 1, by omega, by go_num, ?_, hr2, bstep hbr (balloc _ _)⟩
                show World.ownsRow _ _ _ _ _ _ _
                rw [Ht.out, hv2.out]
                exact hown.out.alloc _
              case measure => simp [intOf]; omega
          · have HNN : Hid (N = 3) := by show _ = _; rw [hrest.out, hst.out, hsn.out]; simp [hz]
            have hcs : (kk == 0 && (S.isEmpty && L.isEmpty)) = false := by
              cases h : (kk == 0 && (S.isEmpty && L.isEmpty))
              · rfl
              · exact absurd (by simp at h; obtain ⟨rfl, rfl, rfl⟩ := h; rfl) hz
            clear hz hst hrest hsn
            cases h1 : (kk != 0)
            · have h1' : (kk == 0) = true := by simpa using h1
              cases h2 : S.isEmpty
              · go_wp2_with fail
                refine (HL _).mono ?_
                rintro e w2 ⟨rfl, rfl⟩
                go_wp2_with fail
                exact bodyPost_ret (v := .tuple #[.slice none 0 0, .int .i64 3]) (by simp [results, Tryz.results85, go_sem]) rfl ⟨bstep hB1 (bstep hbr (balloc _ _)), [], none, 0, by rw [HNN.out]; rfl, World.ownsRow_nil _ _ _ _, hA.out _ (by rw [HNN.out]; rfl)⟩
              · have h3 : L.isEmpty = false := by rw [h1', h2] at hcs; simpa using hcs
                go_wp2_with fail
                refine (HL _).mono ?_
                rintro e w2 ⟨rfl, rfl⟩
                go_wp2_with fail
                exact bodyPost_ret (v := .tuple #[.slice none 0 0, .int .i64 3]) (by simp [results, Tryz.results85, go_sem]) rfl ⟨bstep hB1 (bstep hbr (balloc _ _)), [], none, 0, by rw [HNN.out]; rfl, World.ownsRow_nil _ _ _ _, hA.out _ (by rw [HNN.out]; rfl)⟩
            · go_wp2_with fail
              refine (HL _).mono ?_
              rintro e w2 ⟨rfl, rfl⟩
              go_wp2_with fail
              exact bodyPost_ret (v := .tuple #[.slice none 0 0, .int .i64 3]) (by simp [results, Tryz.results85, go_sem]) rfl ⟨bstep hB1 (bstep hbr (balloc _ _)), [], none, 0, by rw [HNN.out]; rfl, World.ownsRow_nil _ _ _ _, hA.out _ (by rw [HNN.out]; rfl)⟩
    · obtain rfl : k = 3 := by omega
      have hbase := hB1.size
      obtain ⟨ad, cap, rfl, _⟩ := own_v hown.out
      have hsl := own_mono hown.out hbase
      have H0 : Hid (N = 0) := hrest.out
      have hvw : vK p 3 = varsL p := rfl
      rw [hvw] at hsl
      have Hsl : Hid _ := hsl
      rw [hvw]
      clear hown hrest hvw hsl
      go_wp2_with fail
      exact bodyPost_ret (v := .tuple #[.slice ad (varsL p).length cap, .int .i64 0]) (by simp [results, Tryz.results85, go_sem]) rfl ⟨bstep hB1 hbr, _, ad, cap, by rw [H0.out], Hsl.out, hA.out _ (by rw [H0.out]; rfl)⟩
theorem RVars_any (p : Pt) (w : World) (hp : fitPt p) :
    Calls Tryz.prog 85 #[valPt p] w fun e w' => Below w.heap.size w w' ∧ ∃ m ad cap, e = .returned (.tuple #[.slice ad m.length cap, .int .i64 (varsN p)]) ∧ SlV w' ad m ∧ VarsAns p m := by
  refine (RVarsO_any p w hp).mono ?_
  rintro e w' ⟨hb, m, ad, cap, rfl, ho, ha⟩
  obtain ⟨ad', cap', e', hs⟩ := own_v ho
  cases e'
  exact ⟨hb, m, ad, cap, rfl, hs, ha⟩
end Go.Proofs.YtenakehnnmencagGreatDoor

/- The document's Vars of a question (package strataref3). -/
namespace Go.Proofs.YtenakehnnmencagGreatDoor
open Go Go.RowKit Go.Proofs Go.Maps
set_option synthInstance.maxSize 1000

theorem addAll_step (o l : List (List UInt8)) (k : Nat) (h : k < l.length) : addAll o (l.take (k + 1)) = if l[k] ∈ addAll o (l.take k) then addAll o (l.take k) else addAll o (l.take k) ++ [l[k]] := by
  induction l generalizing o k with
  | nil => simp at h
  | cons x r ih =>
    cases k with
    | zero => simp [addAll]
    | succ k =>
      have h' : k < r.length := by simpa using h
      simp only [List.take_succ_cons, addAll, List.getElem_cons_succ]
      exact ih _ k h'
theorem addAll_len (o l : List (List UInt8)) : (addAll o l).length ≤ o.length + l.length := by
  induction l generalizing o with
  | nil => simp [addAll]
  | cons x r ih =>
    have := ih (if x ∈ o then o else o ++ [x])
    unfold addAll
    split at this
    · rename_i hx; rw [if_pos hx]; simp; omega
    · rename_i hx; rw [if_neg hx]; simp at this ⊢; omega
theorem varsL_len (p : Pt) : (varsL p).length ≤ 3 := by
  have q : ∀ l s, (addV l s).length ≤ l.length + 1 := fun l s => by
    unfold addV
    split
    · omega
    · split
      · omega
      · simp
  have h1 := q [] p.1
  have h2 := q (addV [] p.1) p.2.1
  have h3 := q (addV (addV [] p.1) p.2.1) p.2.2
  unfold varsL
  simp at h1
  omega

/-- an append of a text to a row of one's own: just that row turns -/
theorem wpList_append_text {ops : Array Oper} {rest : List Oper} {o : Oper} {a : Act} {Q : Exit → Act → World → Prop} (w : World) (hgd : o.guard = none) (s x : Operand)
    (ho : o.op = .call { callee := .builtin .append, args := #[s, x], argTypes := #[49, 49] })
    (base B : Nat) (v : Value) (t : List (List UInt8)) (y : List UInt8) (hs : a.eval s = v) (hx : a.eval x = .slice (some ⟨B, 0, none⟩) 1 1) (hown : w.ownsRow base 9 1 v t.length (t.map encV))
    (hy : w.cell? ⟨B, 0, none⟩ = some (.string ⟨y.toArray⟩)) (h63 : t.length ≤ 1000000000000) (hbase : base ≤ w.heap.size)
    (h : ∀ v' w', w'.ownsRow base 9 1 v' (t ++ [y]).length ((t ++ [y]).map encV) → w.grownBy w' v.ownBlock → (v'.ownBlock = v.ownBlock ∨ v'.ownBlock = some w.heap.size) → wpList Tryz.prog ops Q rest (a.put o.dst v') w') : wpList Tryz.prog ops Q (o :: rest) a w := by
  obtain ⟨i0, hi, hz⟩ := Option.map_eq_some_iff.1 infoStrV
  simp only [Prod.mk.injEq] at hz
  obtain ⟨hz0, hz1, hz2⟩ := hz
  refine wpList_append_own_at _ hgd s x _ ho base 9 i0 (.string ByteArray.empty) 1 16 Tryz.underlying49 hi hz0 hz1 hz2 rfl (by decide) v t.length (t.map encV) hs hown ⟨B, 0, none⟩ 1 1 [encV y] hx rfl ?_ (by simp [encV, Value.oneCell']) (by unfold maxLen; omega) (by omega) hbase ?_
  · intro j u hj
    have h1 : j < 1 := (List.getElem?_eq_some_iff.1 hj).1
    obtain rfl : j = 0 := by omega
    simp at hj
    subst hj
    rw [Addr.add_lit]
    exact hy
  · intro v' w' h2 h3 _ h5
    refine h v' w' ?_ h3 h5
    simpa using h2

set_option maxHeartbeats 16000000 in
set_option maxRecDepth 100000 in
theorem QVars_any (q : Qu) (vd pd : Option Addr) (vc pc : Nat) (w : World) (h : QuIn w q vd pd) (h6 : q.parts.length ≤ 6) (hf : ∀ p ∈ q.parts, fitPt p) :
    Calls Tryz.prog 51 #[valQ q vd vc pd pc] w fun e w' => RowKit.Below w.heap.size w w' ∧ ∃ m ad cap, e = .returned (.tuple #[.slice ad m.length cap, .int .i64 (partsN q.parts)]) ∧ SlV w' ad m ∧ m = if partsN q.parts = 0 then partsV [] q.parts else [] := by
  have Hp := hideQ h.parts
  have Hf := hideQ hf
  have hN := hideQ (rfl : partsN q.parts = partsN q.parts)
  obtain ⟨A, hA⟩ : ∃ A : List (List UInt8) → Prop, A = fun m => m = if partsN q.parts = 0 then partsV [] q.parts else [] := ⟨_, rfl⟩
  have HA : Hid (∀ m, (m = if partsN q.parts = 0 then partsV [] q.parts else []) → A m) := fun m h => by rw [hA]; exact h
  suffices hs : Calls Tryz.prog 51 #[valQ q vd vc pd pc] w fun e w' => RowKit.Below w.heap.size w w' ∧ ∃ m ad cap, e = .returned (.tuple #[.slice ad m.length cap, .int .i64 (partsN q.parts)]) ∧ SlV w' ad m ∧ A m by rw [hA] at hs; exact hs
  clear hA h hf hN
  unfold valQ
  have hPV : Hid (∀ X, X = partsV [] q.parts → X = partsV [] q.parts) := fun _ h => h
  clear hPV
  generalize hPN : partsN q.parts = N at *
  have HPN := hideQ hPN
  generalize hPV : partsV [] q.parts = V at *
  have HPV := hideQ hPV
  clear hPN hPV
  generalize q.parts = L at *
  generalize q.vars.length = nv at *
  go_enter Tryz.func51, Tryz.ntmps51
  go_wp2_with fail
  obtain ⟨w1, hw1⟩ : ∃ w1, w1 = w.alloc (.cells #[.slice vd nv vc, .slice pd L.length pc, .string ⟨q.order.toArray⟩, .bool q.down, .bool q.dist, .int .i64 q.lim] 52) := ⟨_, rfl⟩
  have hb1 : RowKit.Below w.heap.size w w1 := by rw [hw1]; exact balloc _ _
  have hbox : w1.cell? ⟨w.heap.size, 1, none⟩ = some (.slice pd L.length pc) := by rw [hw1]; go_simp
  have hlt0 : w.heap.size < w1.heap.size := by rw [hw1]; simp
  rw [← hw1]
  have Hp1 := hideQ (Hp.out.below hb1)
  clear hw1 Hp
  go_loopw [4, 5] (fun v i wr => ∃ (k : Nat) (o : List (List UInt8)), k ≤ L.length ∧ i = .int .i64 k ∧ o.length ≤ 3 * k ∧ Hid (wr.ownsRow w1.heap.size 9 1 v o.length (o.map encV)) ∧ Hid (N = partsN (L.drop k)) ∧ Hid (V = partsV o (L.drop k)) ∧ RowKit.Below w1.heap.size w1 wr) (fun _ i wr => L.length - (intOf i).toNat)
  case atStart => exact ⟨0, [], Nat.zero_le _, rfl, by simp, World.ownsRow_nil _ _ _ _, HPN.out.symm, HPV.out.symm, RowKit.Below.refl _ _⟩
  case round =>
    obtain ⟨k, o, hk, rfl, hol, hown, hN, hV, hbr⟩ := hrel
    have hc1 : wr.cell? ⟨w.heap.size, 1, none⟩ = some (.slice pd L.length pc) := (hbr.cell hlt0).trans hbox
    by_cases hlt : k < L.length
    · obtain ⟨b, off, rfl, hrow⟩ := (Hp1.out.below hbr).at k hlt
      have hat := hrow.at k hlt
      have e0 := hat 0 _ rfl
      have e1 := hat 1 _ rfl
      have e2 := hat 2 _ rfl
      have e3 := hat 3 _ rfl
      have e4 := hat 4 _ rfl
      have e5 := hat 5 _ rfl
      have e6 := hat 6 _ rfl
      have e7 := hat 7 _ rfl
      have e8 := hat 8 _ rfl
      have e9 := hat 9 _ rfl
      have e10 := hat 10 _ rfl
      have e11 := hat 11 _ rfl
      rw [Nat.add_zero] at e0
      have i0 : (0 : Int) ≤ (k : Int) := by omega
      have i1 : (k : Int) < (L.length : Int) := by omega
      have hfp := Hf.out _ (List.getElem_mem hlt)
      have HR := fun W => RVarsO_any L[k] W hfp
      have hd : L.drop k = L[k] :: L.drop (k + 1) := List.drop_eq_getElem_cons hlt
      rw [hd] at hN hV
      have hml := varsL_len L[k]
      clear hat hrow hd hfp
      generalize L[k] = p at *
      generalize hD : L.drop (k + 1) = D at *
      have HD := hideQ hD
      clear hD
      unfold valPt at HR
      have hzr := hbr.size
      go_wp2_with fail
      refine (HR _).mono ?_
      rintro e w2 ⟨hb2, m, md, mc, rfl, hm, hmA⟩
      have hB2 := bstep hbr hb2
      have hown2 := hideQ (ownsRow_belowV hown.out hb2)
      have Hm := hideQ (own_mono hm hzr)
      have hfar : Hid (Far2 _ (.slice md m.length mc)) := fun g h1 h2 => by
        have q1 := (hown.out.lt g h1).2
        have q2 := (hm.lt g h2).1
        omega
      have hmA' : m = if varsN p = 0 then varsL p else [] := hmA
      clear HR hown hm hmA e0 e1 e2 e3 e4 e5 e6 e7 e8 e9 e10 e11 hc1
      by_cases hv : varsN p = 0
      · rw [if_pos hv] at hmA'
        subst hmA'
        have hN2 : Hid (N = partsN D) := by have := hN.out; unfold partsN at this; rw [if_pos hv] at this; exact this
        have hV2 : Hid (V = partsV (addAll o (varsL p)) D) := hV.out
        rw [hv]
        clear hN hV hv
        generalize varsL p = m at *
        go_wp2_with fail
        go_loopw [4, 8] (fun v i wi => ∃ j : Nat, j ≤ m.length ∧ i = .int .i64 j ∧ Hid (wi.ownsRow w1.heap.size 9 1 v (addAll o (m.take j)).length ((addAll o (m.take j)).map encV)) ∧ Hid (wi.ownsRow w1.heap.size 9 1 (.slice md m.length mc) m.length (m.map encV)) ∧ Hid (Far2 v (.slice md m.length mc)) ∧ RowKit.Below w1.heap.size w1 wi) (fun _ i wi => m.length - (intOf i).toNat)
        case atStart => exact ⟨0, Nat.zero_le _, rfl, hown2.out, Hm.out, hfar.out, hB2⟩
        case round =>
          obtain ⟨j, hj, rfl, hown3, Hm3, hfar3, hbi⟩ := hrel
          by_cases hjl : j < m.length
          · obtain ⟨md', mc', em, hmV⟩ := own_v Hm3.out
            obtain ⟨rfl, _, rfl⟩ : md = md' ∧ m.length = m.length ∧ mc = mc' := by simpa using em
            obtain ⟨mb, rfl, hmr⟩ := hmV (by intro e; rw [e] at hjl; simp at hjl)
            have c0 := hmr j hjl
            unfold encV at c0
            have j0 : (0 : Int) ≤ (j : Int) := by omega
            have j1 : (j : Int) < (m.length : Int) := by omega
            have hst := hideQ (addAll_step o m j hjl)
            have hle : (addAll o (m.take j)).length ≤ 1000 := by
              have := addAll_len o (m.take j)
              rw [List.length_take] at this
              omega
            obtain ⟨ad, cap, rfl, hsl⟩ := own_v hown3.out
            have HC := RHas_any ad cap (addAll o (m.take j)) m[j] wr hsl (by omega)
            have hzi := hbi.size
            clear hmr hsl em hmV
            generalize ht : addAll o (m.take (j + 1)) = t1 at hst
            have Ht := hideQ ht
            generalize addAll o (m.take j) = t0 at *
            generalize m[j] = y at *
            clear ht
            cases hd : decide (y ∈ t0)
            · rw [hd] at HC
              have e1 : Hid (t1 = t0 ++ [y]) := by have := hst.out; rw [if_neg (by simpa using hd)] at this; exact this
              clear hst hd
              go_wp2_with fail
              refine HC.mono ?_
              rintro e w3 ⟨rfl, hw3⟩
              subst hw3
              go_wp2_with (at_builtin; refine wpList_append_text _ rfl _ _ rfl w1.heap.size w3.heap.size _ t0 y rfl rfl (hown3.out.alloc _) (by go_simp) (by omega) (by simp; omega) ?_; intro v' w4 hv4 hg4 hat4)
              have hal : RowKit.Below w3.heap.size w3 (w3.alloc (.cells #[.string ⟨y.toArray⟩] 9)) := balloc _ _
              have hbel : RowKit.Below w1.heap.size w1 w4 := (bstep hbi hal).grown hg4 (by simp; omega) (fun g hg => (hown3.out.lt g hg).1)
              have hm4 := hideQ ((ownsRow_belowV Hm3.out hal).kept hg4 hfar3.out.out)
              have hfar4 := hideQ (hfar3.out.grow (ownsRow_belowV Hm3.out hal) hat4)
              have hv5 := hideQ hv4
              clear hv4 hg4 hat4 c0 HC
              go_wp2_with fail
              go_roundw
              case rel =>
                refine ⟨j + 1, by omega, by go_num, ?_, hm4, hfar4, hbel⟩
                show World.ownsRow _ _ _ _ _ _ _
                rw [Ht.out, e1.out]
                exact hv5.out
              case measure => simp [intOf]; omega
            · rw [hd] at HC
              have e1 : Hid (t1 = t0) := by have := hst.out; rw [if_pos (by simpa using hd)] at this; exact this
              clear hst hd
              go_wp2_with fail
              refine HC.mono ?_
              rintro e w3 ⟨rfl, hw3⟩
              subst hw3
              clear HC c0
              go_wp2_with fail
              go_roundw
              case rel =>
                refine ⟨j + 1, by omega, by go_num, ?_, Hm3, hfar3, hbi⟩
                show World.ownsRow _ _ _ _ _ _ _
                rw [Ht.out, e1.out]
                exact hown3.out
              case measure => simp [intOf]; omega
          · obtain rfl : j = m.length := by omega
            have ho4 := hown3.out
            rw [List.take_length] at ho4
            have Ho4 := hideQ ho4
            have hle := addAll_len o m
            clear ho4 hown3
            go_wp2_with fail
            go_roundw
            case rel =>
              refine ⟨k + 1, addAll o m, by omega, by go_num, by omega, Ho4, ?_, ?_, hbi⟩
              · show _ = _
                rw [HD.out]; exact hN2.out
              · show _ = _
                rw [HD.out]; exact hV2.out
            case measure => simp [intOf]; omega
      · have hN2 : Hid (N = varsN p) := by have := hN.out; unfold partsN at this; rw [if_neg hv] at this; exact this
        rw [if_neg hv] at hmA'
        subst hmA'
        have hne : (varsN p != 0) = true := by simpa using hv
        have Hv := hideQ hv
        generalize varsN p = c at *
        clear hN hV hv Hm hown2
        go_wp2_with fail
        exact bodyPost_ret (v := .tuple #[.slice none 0 0, .int .i64 c]) (by simp [results, Tryz.results51, go_sem]) rfl ⟨bstep hb1 hB2, [], none, 0, by rw [hN2.out]; rfl, fun h => absurd rfl h, HA.out _ (by rw [hN2.out, if_neg Hv.out])⟩
    · obtain rfl : k = L.length := by omega
      have hN2 : Hid (N = 0) := by have := hN.out; rw [List.drop_length] at this; exact this
      have hV2 : Hid (V = o) := by have := hV.out; rw [List.drop_length] at this; exact this
      obtain ⟨ad, cap, rfl, hsl⟩ := own_v hown.out
      have Hsl := hideQ hsl
      clear hsl hown hN hV
      go_wp2_with fail
      exact bodyPost_ret (v := .tuple #[.slice ad o.length cap, .int .i64 0]) (by simp [results, Tryz.results51, go_sem]) rfl ⟨bstep hb1 hbr, o, ad, cap, by rw [hN2.out], Hsl.out, HA.out _ (by rw [hN2.out, if_pos rfl, hV2.out])⟩
end Go.Proofs.YtenakehnnmencagGreatDoor

/- reader.head: what stands ahead of the parts. -/
namespace Go.Proofs.YtenakehnnmencagGreatDoor
open Go Go.RowKit Go.Proofs Go.Maps
set_option synthInstance.maxSize 1000

theorem tk_take (M : List (List UInt8)) : (tkB varW M = true → takeV M = (tkV [] nameV varW M :: (takeV (tkM varW M)).1, (takeV (tkM varW M)).2) ∧ (tkM varW M).length + 1 = M.length) ∧ (tkB varW M = false → takeV M = ([], M) ∧ tkM varW M = M) := by
  cases M with
  | nil => exact ⟨fun h => by simp [tkB] at h, fun _ => ⟨rfl, rfl⟩⟩
  | cons x r =>
    refine ⟨fun h => ?_, fun h => ?_⟩
    · have hx : varW x = true := h
      have e1 : tkM varW (x :: r) = r := by unfold tkM; rw [if_pos h]; rfl
      have e2 : tkV [] nameV varW (x :: r) = x.tail := by show (if varW x = true then nameV x else []) = _; rw [if_pos hx]; unfold nameV; rw [if_pos hx]
      rw [e1, e2, takeV_next r hx]
      exact ⟨rfl, rfl⟩
    · have hx : varW x = false := h
      exact ⟨takeV_stop (fun w hw => by simp at hw; rw [← hw]; exact hx), by unfold tkM; rw [if_neg (by rw [h]; simp)]⟩
theorem need_own (M : List (List UInt8)) (w : List UInt8) : needW (M, false) w = ((hasW (M, false) w).1, !isW (M, false) w) := by
  unfold needW hasW
  cases h : isW (M, false) w <;> simp

set_option maxHeartbeats 8000000 in
set_option maxRecDepth 100000 in
theorem head_own (w : World) (g : Nat) (M : List (List UInt8)) (N : Nat) (vp : Value) (q : Qu) (W : World) (h : OSt w W g M N (.slice none 0 0) vp q) (hq1 : q.vars = []) (hq2 : q.dist = false) :
    Calls Tryz.prog 98 #[.pointer (some ⟨g, 0, none⟩), .pointer (some ⟨g + 1, 0, none⟩)] W fun e W' => e = .returned (.bool (!(ownHead M).2.2.2)) ∧ ∃ va, OSt w W' g (ownHead M).2.2.1 N va vp { q with vars := (ownHead M).2.1, dist := (ownHead M).1 } := by
  have H1 := fun W1 M1 hr => is_own wSel g M1 N W1 hr
  have H2 := fun W1 M1 hr => is_own wDist g M1 N W1 hr
  have H3 := fun W1 M1 hr => is_own wWhere g M1 N W1 hr
  have HV := fun W1 M1 hr => var_own g M1 N W1 hr
  have Ho := hideK h
  unfold wSel at H1
  unfold wDist at H2
  unfold wWhere at H3
  have e1 : isW (M, false) [115, 101, 108, 101, 99, 116] = isW (M, false) wSel := rfl
  cases hs : isW (M, false) wSel with
  | false =>
    have e2 : ownHead M = (false, [], M, true) := by unfold ownHead; rw [if_neg (by rw [hs]; simp)]
    have e3 : (hasW (M, false) wSel).1 = M := by unfold hasW; rw [if_neg (by rw [hs]; simp)]
    have HH := H1 W M h.rd
    rw [show isW (M, false) [115, 101, 108, 101, 99, 116] = false from hs, show (hasW (M, false) [115, 101, 108, 101, 99, 116]).1 = M from e3] at HH
    rw [e2]
    clear H1 H2 H3 HV e1 hs e2 e3 h
    go_enter Tryz.func98, Tryz.ntmps98
    go_wp2_with fail
    refine HH.mono ?_
    rintro e w1 ⟨rfl, hr1, hb1⟩
    dsimp only
    go_wp2_with fail
    go_ret
    refine ⟨rfl, .slice none 0 0, ?_⟩
    have := Ho.out.to hr1 hb1
    rw [show ({ q with vars := [], dist := false } : Qu) = q by cases q; simp_all]
    exact this
  | true =>
    have e3 : (hasW (M, false) wSel).1 = M.tail := by unfold hasW; rw [if_pos hs]
    have HH := H1 W M h.rd
    rw [show isW (M, false) [115, 101, 108, 101, 99, 116] = true from hs, show (hasW (M, false) [115, 101, 108, 101, 99, 116]).1 = M.tail from e3] at HH
    have e2 : Hid (ownHead M = (isW (M.tail, false) wDist, (takeV (hasW (M.tail, false) wDist).1).1, needW ((takeV (hasW (M.tail, false) wDist).1).2, false) wWhere)) := by show _ = _; unfold ownHead; rw [if_pos hs]
    have HD := fun W1 hr => H2 W1 M.tail hr
    rw [show isW (M.tail, false) [100, 105, 115, 116, 105, 110, 99, 116] = isW (M.tail, false) wDist from rfl, show hasW (M.tail, false) [100, 105, 115, 116, 105, 110, 99, 116] = hasW (M.tail, false) wDist from rfl] at HD
    generalize ownHead M = OH at *
    generalize M.tail = M1 at *
    generalize isW (M1, false) wDist = d at *
    generalize (hasW (M1, false) wDist).1 = M2 at *
    clear H1 H2 e1 hs e3 h
    go_enter Tryz.func98, Tryz.ntmps98
    go_wp2_with fail
    refine HH.mono ?_
    rintro e w1 ⟨rfl, hr1, hb1⟩
    dsimp only
    have O1 := hideK (Ho.out.to hr1 hb1)
    go_wp2_with fail
    refine (HD _ hr1).mono ?_
    rintro e w2 ⟨rfl, hr2, hb2⟩
    dsimp only
    have O2 := hideK (O1.out.to hr2 hb2)
    obtain ⟨x0, x1, x2, x3, x4, x5⟩ := O2.out.free
    obtain ⟨y0, y1, y2, y3, y4, y5⟩ := O2.out.cells
    have O3 := hideK (O2.out.dist d)
    clear O1 hr1 hb1 hr2 hb2 HD HH Ho
    go_upto_region 4 with fail
    generalize w2.setCell ⟨g + 1, 4, none⟩ (.bool d) = w3 at *
    clear x0 x1 x2 x3 x4 x5 y0 y1 y2 y3 y4 y5 O2
    have HV2 := HV w3 M2 O3.out.rd
    have hM2 : M2.length ≤ 100000001 := Nat.le_trans O3.out.rd.le O3.out.rd.few
    go_wp2_with fail
    refine HV2.mono ?_
    rintro e w4 ⟨rfl, hr4, hb4⟩
    dsimp only
    have O4 := hideK (O3.out.to hr4 hb4)
    clear HV2 hr4 hb4 O3 w3
    go_wp2_with fail
    go_loopw [5, 6] (fun nm ok wr => ∃ (M' : List (List UInt8)) (o : List (List UInt8)) (va : Value), nm = .string ⟨(tkV [] nameV varW M').toArray⟩ ∧ ok = .bool (tkB varW M') ∧ Hid (OSt w wr g (tkM varW M') N va vp { q with vars := o, dist := d }) ∧ Hid (takeV M2 = (o ++ (takeV M').1, (takeV M').2)) ∧ o.length + M'.length ≤ M2.length) (fun _ ok wr => agO ok + leftO g N wr)
    case atStart => exact ⟨M2, [], .slice none 0 0, rfl, rfl, by rw [← hq1]; exact O4, rfl, by simp⟩
    case round =>
      obtain ⟨M', o, va, rfl, rfl, Ox, Hx, hox⟩ := hrel
      have Hml := hideK Ox.out.left
      have ht := hideK (tk_take M')
      generalize tkV [] nameV varW M' = nx at *
      generalize tkM varW M' = M3 at *
      generalize hB : tkB varW M' = B at *
      have HB := hideK hB
      clear hB
      cases B
      · obtain ⟨t1, t2⟩ := ht.out.2 rfl
        subst t2
        have e4 : Hid (OH = (d, o, needW (M3, false) wWhere)) := by show _ = _; rw [e2.out, Hx.out, t1]; simp
        rw [need_own] at e4
        have HH := H3 _ M3 Ox.out.rd
        rw [show isW (M3, false) [119, 104, 101, 114, 101] = isW (M3, false) wWhere from rfl, show hasW (M3, false) [119, 104, 101, 114, 101] = hasW (M3, false) wWhere from rfl] at HH
        generalize isW (M3, false) wWhere = b at *
        generalize (hasW (M3, false) wWhere).1 = M4 at *
        clear ht t1 HB Hx Hml e2
        go_wp2_with fail
        refine HH.mono ?_
        rintro e w5 ⟨rfl, hr5, hb5⟩
        dsimp only
        have O5 := hideK (Ox.out.to hr5 hb5)
        go_wp2_with fail
        go_ret
        exact ⟨ret_bool (by rw [e4.out]; simp), va, by rw [e4.out]; exact O5.out⟩
      · obtain ⟨t1, t2⟩ := ht.out.1 rfl
        have Hx2 : Hid (takeV M2 = (o ++ [nx] ++ (takeV M3).1, (takeV M3).2)) := by show _ = _; rw [Hx.out, t1]; simp
        have c0 := Ox.out.cells.1
        have f0 := Ox.out.free.1
        have hlt4 := Ox.out.lt
        obtain ⟨zd, zc, ez, _⟩ := own_w Ox.out.vars
        dsimp only at ez
        subst ez
        clear ht t1 Hx
        go_wp2_with (at_builtin; refine wpList_append_text _ rfl _ _ rfl (g + 2) wr.heap.size _ o nx rfl rfl ((Ox.out.below (balloc _ _)).vars) (by go_simp) (by omega) (by simp; omega) ?_; intro v' w8 hv8 hg8 hat8; obtain ⟨xd, xc, ev, _⟩ := own_w hv8; subst ev; obtain ⟨y0, _, z0, _, hlt8⟩ := (Ox.out.below (balloc _ _)).gcells (Or.inl rfl) hg8)
        have Hq8 := hideK ((Ox.out.below (balloc _ _)).pushV hv8 hg8 hat8)
        have e9 : (o ++ [nx]).length = o.length + 1 := by simp
        rw [e9] at Hq8
        clear hv8 hg8 hat8 y0 z0 c0 f0 hlt4 hlt8 e9
        (try dsimp only at Hq8)
        generalize w8.setCell ⟨g + 1, 0, none⟩ _ = W9 at *
        have HV3 := HV W9 M3 Hq8.out.rd
        have hlen : (tkM varW M3).length ≤ M3.length := by unfold tkM; split <;> simp
        have hstep : Hid (tkB varW M3 = true → (tkM varW M3).length + 1 = M3.length) := fun h => ((tk_take M3).1 h).2
        refine HV3.mono ?_
        rintro e w10 ⟨rfl, hr10, hb10⟩
        dsimp only
        have O10 := hideK (Hq8.out.to hr10 hb10)
        clear HV3 hr10 hb10 Hq8
        go_wp2_with fail
        go_roundw
        case rel => exact ⟨M3, o ++ [nx], _, rfl, rfl, O10, Hx2, by simp; omega⟩
        case measure =>
          rw [Hml.out, O10.out.left]
          cases hB : tkB varW M3
          · simp only [agO]; omega
          · have := hstep.out hB
            simp only [agO]; omega
end Go.Proofs.YtenakehnnmencagGreatDoor
