/- dict's number and hasRoom. -/
import Derived.Test.YtkeholipklfnbacDoorDictAsk
import Derived.Deep.RegionHeld3
namespace Go.Proofs.YtkeholipklfnbacDoor
open Go Go.RowKit Go.Proofs Go.Maps
set_option synthInstance.maxSize 1000

theorem CloneD_any (l : List UInt8) (w : World) (hl : l.length ≤ 281474976710656) :
    Calls Tryd.prog 29 #[.string ⟨l.toArray⟩] w fun e w' => e = .returned (.string ⟨l.toArray⟩) ∧ RowKit.Below w.heap.size w w' := by
  go_enter Tryd.func29, Tryd.ntmps29
  go_wp2_with (go_at_call 36; refine (Tryd.stringslite_Clone ⟨l.toArray⟩ _ hl).mono ?_; rintro e w' ⟨rfl, hb⟩)
  go_ret
  exact ⟨rfl, hb⟩

theorem Turned.drew (n0 : Nat) (w : World) : Turned n0 w w.drew := ⟨(RowKit.Below.refl _ _).drew, fun _ _ _ => rfl⟩

theorem keep3 {W W' : World} {p0 p1 p2 : Addr} {v0 v1 v2 : Value} (h : W.cell? p0 = some v0 ∧ W.cell? p1 = some v1 ∧ W.cell? p2 = some v2 ∧ W.frozen? p1 = false ∧ W.frozen? p2 = false) (hb : RowKit.Below W.heap.size W W') : W'.cell? p0 = some v0 ∧ W'.cell? p1 = some v1 ∧ W'.cell? p2 = some v2 ∧ W'.frozen? p1 = false ∧ W'.frozen? p2 = false :=
  ⟨(hb.cell (World.block_lt_of_cell? W _ h.1)).trans h.1, (hb.cell (World.block_lt_of_cell? W _ h.2.1)).trans h.2.1, (hb.cell (World.block_lt_of_cell? W _ h.2.2.1)).trans h.2.2.1, (hb.frozen (World.block_lt_of_cell? W _ h.2.1)).trans h.2.2.2.1, (hb.frozen (World.block_lt_of_cell? W _ h.2.2.1)).trans h.2.2.2.2⟩

theorem cell_put_same {W : World} {p q : Addr} {u v : Value} (hp : W.cell? p = some v) (hq : W.cell? q = some u) : (W.setCell p v).cell? q = some u := by
  by_cases e : q = p
  · subst e
    rw [World.cell?_setCell_same W q v hp]
    rw [hp] at hq
    exact hq
  · rw [World.cell?_setCell_other W p q v (Ne.symm e)]
    exact hq
theorem keep3s {W : World} {p p0 p1 p2 : Addr} {v v0 v1 v2 : Value} (h : W.cell? p0 = some v0 ∧ W.cell? p1 = some v1 ∧ W.cell? p2 = some v2 ∧ W.frozen? p1 = false ∧ W.frozen? p2 = false) (hp : W.cell? p = some v) :
    (W.setCell p v).cell? p0 = some v0 ∧ (W.setCell p v).cell? p1 = some v1 ∧ (W.setCell p v).cell? p2 = some v2 ∧ (W.setCell p v).frozen? p1 = false ∧ (W.setCell p v).frozen? p2 = false :=
  ⟨cell_put_same hp h.1, cell_put_same hp h.2.1, cell_put_same hp h.2.2.1, by rw [World.frozen?_setCell]; exact h.2.2.2.1, by rw [World.frozen?_setCell]; exact h.2.2.2.2⟩

theorem keep3a {W : World} {p0 p1 p2 : Addr} {v0 v1 v2 : Value} (h : W.cell? p0 = some v0 ∧ W.cell? p1 = some v1 ∧ W.cell? p2 = some v2 ∧ W.frozen? p1 = false ∧ W.frozen? p2 = false) :
    (W.setCell p1 v1).cell? p0 = some v0 ∧ (W.setCell p1 v1).cell? p1 = some v1 ∧ (W.setCell p1 v1).cell? p2 = some v2 ∧ (W.setCell p1 v1).frozen? p1 = false ∧ (W.setCell p1 v1).frozen? p2 = false := keep3s h h.2.1
theorem keep3b {W : World} {p0 p1 p2 : Addr} {v0 v1 v2 : Value} (h : W.cell? p0 = some v0 ∧ W.cell? p1 = some v1 ∧ W.cell? p2 = some v2 ∧ W.frozen? p1 = false ∧ W.frozen? p2 = false) :
    (W.setCell p2 v2).cell? p0 = some v0 ∧ (W.setCell p2 v2).cell? p1 = some v1 ∧ (W.setCell p2 v2).cell? p2 = some v2 ∧ (W.setCell p2 v2).frozen? p1 = false ∧ (W.setCell p2 v2).frozen? p2 = false := keep3s h h.2.2.1

set_option maxHeartbeats 2000000 in
set_option maxRecDepth 100000 in
theorem number_any (n0 : Nat) (L : List Tm) (x : Tm) (w : World) (h : DictAt w n0 L) (hx : chkTm x = 0) (hl : L.length ≤ 1000) :
    Calls Tryd.prog 20 #[.pointer (some ⟨n0 + 2, 0, none⟩), valTm x] w fun e w' => e = .returned (.int .i64 (idN (addL L x) x)) ∧ DictAt w' n0 (addL L x) ∧ Turned n0 w w' := by
  have hlt := h.lt
  have hwf := wf_chk hx
  have hD := h.below (balloc w (.cells #[.int .i64 x.1, .string ⟨x.2.1.toArray⟩, .string ⟨x.2.2.toArray⟩] 29))
  have hlk := look_ids (w := (w.alloc (.cells #[.int .i64 x.1, .string ⟨x.2.1.toArray⟩, .string ⟨x.2.2.toArray⟩] 29)).drew) hD x hwf
  have c0 := h.1
  by_cases hc : x ∈ L
  · have e1 : addL L x = L := if_pos hc
    rw [e1]
    rw [decide_eq_true hc] at hlk
    have HD : Hid (DictAt (w.alloc (.cells #[.int .i64 x.1, .string ⟨x.2.1.toArray⟩, .string ⟨x.2.2.toArray⟩] 29)) n0 L) := hD
    clear h hx hwf hD e1 hc
    generalize idN L x = y at *
    unfold valTm at hlk ⊢
    go_enter Tryd.func20, Tryd.ntmps20
    go_wp2_with fail
    go_region
    go_wp2_with fail
    go_ret
    exact ⟨rfl, HD.out, Turned.of_below (balloc _ _).drew (by omega)⟩
  · have e1 : addL L x = L ++ [x] := if_neg hc
    have e2 : idN (L ++ [x]) x = L.length + 1 := by
      unfold idN
      rw [if_pos (by simp), List.idxOf_append, if_neg hc]
      simp
    rw [e1, e2]
    rw [decide_eq_false hc] at hlk
    have HD : Hid (DictAt (w.alloc (.cells #[.int .i64 x.1, .string ⟨x.2.1.toArray⟩, .string ⟨x.2.2.toArray⟩] 29)) n0 L) := hD
    have HW : Hid (wfTm x) := hwf
    have HC : Hid (x ∉ L) := hc
    have H0 : Hid (DictAt w n0 L) := h
    have l1 : x.2.1.length ≤ 281474976710656 := by have := (check_zero hx).2.1; omega
    have l2 : x.2.2.length ≤ 281474976710656 := by have := spell_lang (check_zero hx).2.2; omega
    clear h hx hwf hD e1 e2 hc
    generalize idN L x = y at *
    unfold valTm at hlk ⊢
    go_enter Tryd.func20, Tryd.ntmps20
    go_wp2_with fail
    go_region
    go_wp2_with fail
    go_region_held3 (fun W => W.cell? ⟨w.heap.size, 0, none⟩ = some (.int .i64 x.1) ∧ W.cell? ⟨w.heap.size, 1, none⟩ = some (.string ⟨x.2.1.toArray⟩) ∧ W.cell? ⟨w.heap.size, 2, none⟩ = some (.string ⟨x.2.2.toArray⟩) ∧ W.frozen? ⟨w.heap.size, 1, none⟩ = false ∧ W.frozen? ⟨w.heap.size, 2, none⟩ = false) (first | exact keep3 (by assumption) hb1 | exact keep3 (by assumption) hb2 | exact keep3a (by assumption) | exact keep3b (by assumption) | go_keep) (first
      | (go_at_call_of 29 (Value.string ⟨x.2.1.toArray⟩); refine (CloneD_any x.2.1 _ l1).mono ?_; rintro e w1 ⟨rfl, hb1⟩)
      | (go_at_call_of 29 (Value.string ⟨x.2.2.toArray⟩); refine (CloneD_any x.2.2 _ l2).mono ?_; rintro e w2 ⟨rfl, hb2⟩))
    have hbW := ((((bstep (balloc w (.cells #[.int .i64 x.1, .string ⟨x.2.1.toArray⟩, .string ⟨x.2.2.toArray⟩] 29)).drew.drew hb1).trans (hb2.mono (by have := hb1.size; simp at this; omega))).setCell (p := ⟨w.heap.size, 1, none⟩) (Nat.le_refl _) (.string ⟨x.2.1.toArray⟩)).setCell (p := ⟨w.heap.size, 2, none⟩) (Nat.le_refl _) (.string ⟨x.2.2.toArray⟩))
    clear hb1 hb2 hlk HD
    generalize (w2.setCell ⟨w.heap.size, 1, none⟩ (.string ⟨x.2.1.toArray⟩)).setCell ⟨w.heap.size, 2, none⟩ (.string ⟨x.2.2.toArray⟩) = W at *
    have HD := H0.out.far hbW (by omega)
    rename_i hHeld
    obtain ⟨b0, b1, b2, _, _⟩ := hHeld
    have hzW : w.heap.size < W.heap.size := World.block_lt_of_cell? W _ b0
    have HL := Len_any n0 L W HD
    obtain ⟨c0W, c1, D1, D2, o1, o2, hs, f1, f2⟩ := HD
    have hw1 : (Lit.int .i64 ((L.length : Int) + 1)).wf = true := wf64 (by omega) (by omega)
    obtain ⟨W4, hr4, o14, g4⟩ := World.ownsMap.update (w := W.drew) o1.drew keyedTm Tryd.underlying51 (by unfold maxLen; omega) (keyOf_tm x HW.out) (plainElem_int Tryd.underlying3 hw1)
    have o24 := (World.ownsMap.drew o2).kept g4 (by simp)
    obtain ⟨W5, hr5, o25, g5⟩ := World.ownsMap.update (w := W4.drew) o24.drew keyedI Tryd.underlying52 (by unfold maxLen; omega) (keyOf_int_mk Tryd.underlying3 hw1) (termElem_mk x)
    have o15 := (World.ownsMap.drew o14).kept g5 (by simp)
    have hfin : Hid (DictAt W5 n0 (L ++ [x])) := by
      have hp := dict_put HW.out HC.out hl o1.isMap (o2.tidy keyedI) hs f1 f2
      have h5 := World.block_lt_of_cell? W _ c1
      have q : ∀ o, W5.cell? ⟨n0 + 2, o, none⟩ = W.cell? ⟨n0 + 2, o, none⟩ := fun o =>
        (World.cell?_of_block (w := W4) (g5.block (n0 + 2) (Nat.lt_of_lt_of_le h5 g4.size) (by simp))).trans (World.cell?_of_block (w := W) (g4.block (n0 + 2) h5 (by simp)))
      refine ⟨(q 0).trans c0W, (q 1).trans c1, _, _, ?_, ?_, hp.1, hp.2.1, hp.2.2⟩
      · rw [List.length_append]; exact o15
      · rw [List.length_append]; exact o25
    have hturn : Hid (Turned n0 w W5) := by
      have t1 := Turned.of_below (n0 := n0) hbW (by omega)
      have t2 : Turned n0 W W4 := (Turned.drew n0 W).trans <| Turned.of_grown (b := n0) g4 (Nat.le_refl _) (by omega) (by show n0 ≤ W.heap.size; omega)
      have t3 : Turned n0 W4 W5 := (Turned.drew n0 W4).trans <| Turned.of_grown (b := n0 + 1) g5 (by omega) (by omega) (by show n0 ≤ W4.heap.size; have := g4.size; simp at this; omega)
      exact (t1.trans t2).trans t3
    have q4 : ∀ o, W4.cell? ⟨w.heap.size, o, none⟩ = W.cell? ⟨w.heap.size, o, none⟩ := fun o => World.cell?_of_block (w := W) (g4.block w.heap.size hzW (by simp; omega))
    have d0 := (q4 0).trans b0
    have d1 := (q4 1).trans b1
    have d2 := (q4 2).trans b2
    have d4 : W4.cell? ⟨n0 + 2, 1, none⟩ = some (.map (some (n0 + 1))) := (World.cell?_of_block (w := W) (g4.block (n0 + 2) (World.block_lt_of_cell? W _ c1) (by simp))).trans c1
    have hz4 := World.block_lt_of_cell? W4 _ d0
    clear q4 o1 o2 o14 o24 o15 o25 hs f1 f2 g4 g5 HC HW H0 hw1 hbW l1 l2
    unfold valTm at hr4 hr5
    go_wp2_with fail
    refine HL.mono ?_
    rintro e w' ⟨rfl, rfl⟩
    clear HL
    go_wp2_with fail
    go_region
    go_wp2_with fail
    go_region
    go_wp2_with fail
    go_ret
    exact ⟨rfl, hfin.out, hturn.out⟩
end Go.Proofs.YtkeholipklfnbacDoor
