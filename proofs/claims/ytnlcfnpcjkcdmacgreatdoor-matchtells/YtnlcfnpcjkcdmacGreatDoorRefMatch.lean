/- The document's Match: those of a set that fit. -/
import Derived.Test.YtnlcfnpcjkcdmacGreatDoorRefFits
import Derived.Test.YtnlcfnpcjkcdmacGreatDoorRefTriple
import Derived.OwnWalk
namespace Go.Proofs.YtnlcfnpcjkcdmacGreatDoor
open Go Go.RowKit Go.Proofs Go.Maps
set_option synthInstance.maxSize 1000

theorem keep21 {W W' : World} {p0 p1 p2 p3 p4 p5 p6 p7 p8 p9 p10 p11 p12 p13 p14 p15 p16 p17 p18 p19 p20 : Addr} {v0 v1 v2 v3 v4 v5 v6 v7 v8 v9 v10 v11 v12 v13 v14 v15 v16 v17 v18 v19 v20 : Value}
    (h : W.cell? p0 = some v0 ∧ W.cell? p1 = some v1 ∧ W.cell? p2 = some v2 ∧ W.cell? p3 = some v3 ∧ W.cell? p4 = some v4 ∧ W.cell? p5 = some v5 ∧ W.cell? p6 = some v6 ∧ W.cell? p7 = some v7 ∧ W.cell? p8 = some v8 ∧ W.cell? p9 = some v9 ∧ W.cell? p10 = some v10 ∧ W.cell? p11 = some v11 ∧ W.cell? p12 = some v12 ∧ W.cell? p13 = some v13 ∧ W.cell? p14 = some v14 ∧ W.cell? p15 = some v15 ∧ W.cell? p16 = some v16 ∧ W.cell? p17 = some v17 ∧ W.cell? p18 = some v18 ∧ W.cell? p19 = some v19 ∧ W.cell? p20 = some v20) (hb : Below W.heap.size W W') :
    W'.cell? p0 = some v0 ∧ W'.cell? p1 = some v1 ∧ W'.cell? p2 = some v2 ∧ W'.cell? p3 = some v3 ∧ W'.cell? p4 = some v4 ∧ W'.cell? p5 = some v5 ∧ W'.cell? p6 = some v6 ∧ W'.cell? p7 = some v7 ∧ W'.cell? p8 = some v8 ∧ W'.cell? p9 = some v9 ∧ W'.cell? p10 = some v10 ∧ W'.cell? p11 = some v11 ∧ W'.cell? p12 = some v12 ∧ W'.cell? p13 = some v13 ∧ W'.cell? p14 = some v14 ∧ W'.cell? p15 = some v15 ∧ W'.cell? p16 = some v16 ∧ W'.cell? p17 = some v17 ∧ W'.cell? p18 = some v18 ∧ W'.cell? p19 = some v19 ∧ W'.cell? p20 = some v20 := by
  have q : ∀ {p : Addr} {v : Value}, W.cell? p = some v → W'.cell? p = some v := fun {p v} hp => (hb.cell (World.block_lt_of_cell? W _ hp)).trans hp
  exact ⟨q h.1, q h.2.1, q h.2.2.1, q h.2.2.2.1, q h.2.2.2.2.1, q h.2.2.2.2.2.1, q h.2.2.2.2.2.2.1, q h.2.2.2.2.2.2.2.1, q h.2.2.2.2.2.2.2.2.1, q h.2.2.2.2.2.2.2.2.2.1, q h.2.2.2.2.2.2.2.2.2.2.1, q h.2.2.2.2.2.2.2.2.2.2.2.1, q h.2.2.2.2.2.2.2.2.2.2.2.2.1, q h.2.2.2.2.2.2.2.2.2.2.2.2.2.1, q h.2.2.2.2.2.2.2.2.2.2.2.2.2.2.1, q h.2.2.2.2.2.2.2.2.2.2.2.2.2.2.2.1, q h.2.2.2.2.2.2.2.2.2.2.2.2.2.2.2.2.1, q h.2.2.2.2.2.2.2.2.2.2.2.2.2.2.2.2.2.1, q h.2.2.2.2.2.2.2.2.2.2.2.2.2.2.2.2.2.2.1, q h.2.2.2.2.2.2.2.2.2.2.2.2.2.2.2.2.2.2.2.1, q h.2.2.2.2.2.2.2.2.2.2.2.2.2.2.2.2.2.2.2.2⟩

set_option maxHeartbeats 8000000 in
set_option maxRecDepth 100000 in
theorem RMatch_any (ad : Option Addr) (cap : Nat) (l : List Tr) (p : Pt) (w : World) (h : SlT w ad l) (h200 : l.length ≤ 200) :
    Calls Tryz.prog 10 #[.slice ad l.length cap, valPt p] w fun e w' => Below w.heap.size w w' ∧ ∃ ad' cap', e = .returned (.slice ad' (matchL l p).length cap') ∧ SlT w' ad' (matchL l p) := by
  have HF := fun x W => RFits_any x p W
  have Hl : Hid (SlT w ad l) := h
  obtain ⟨i0, hi, hz⟩ := Option.map_eq_some_iff.1 infoTr
  simp only [Prod.mk.injEq] at hz
  obtain ⟨hz0, hz1, hz2⟩ := hz
  have HPB : Hid (PatAt (w.alloc (.cells (encPt p).toArray 28)) w.heap.size p) := patBox w p 28
  have hW0 := balloc w (.cells (encPt p).toArray 28)
  have Hl0 : Hid (SlT (w.alloc (.cells (encPt p).toArray 28)) ad l) := h.below hW0
  clear h
  have hml : Hid (matchL l p = l.filter (fitsB p)) := rfl
  generalize matchL l p = ML at *
  unfold valPt at HF ⊢
  go_enter Tryz.func10, Tryz.ntmps10
  go_wp2_with fail
  go_loopw [5, 6] (fun v i wr => ∃ k : Nat, k ≤ l.length ∧ i = .int .i64 k ∧ Hid (wr.ownsRow (w.heap.size + 1) 82 9 v ((l.take k).filter (fitsB p)).length (cellsT ((l.take k).filter (fitsB p)))) ∧ Below (w.heap.size + 1) (w.alloc (.cells (encPt p).toArray 28)) wr) (fun _ i wr => l.length - (intOf i).toNat)
  case atStart => exact ⟨0, Nat.zero_le _, rfl, by show World.ownsRow _ _ _ _ _ _ _; rw [List.take_zero]; exact World.ownsRow_nil _ _ _ _, Below.refl _ _⟩
  case round =>
    obtain ⟨k, hk, rfl, hown, hbr0⟩ := hrel
    have hbr : Below (w.alloc (.cells (encPt p).toArray 28)).heap.size (w.alloc (.cells (encPt p).toArray 28)) wr := by simpa using hbr0
    have hzr : w.heap.size + 1 ≤ wr.heap.size := by have := hbr.size; simpa using this
    by_cases hlt : k < l.length
    · obtain ⟨b, o, rfl, hr⟩ := (Hl0.out.below hbr).at k hlt
      obtain ⟨c0, c1, c2, c3, c4, c5, c6, c7, c8⟩ := hr.at k hlt
      obtain ⟨p0, p1, p2, p3, p4, p5, p6, p7, p8, p9, p10, p11⟩ := (HPB.out.below hbr).all
      have i0' : (0 : Int) ≤ (k : Int) := by omega
      have i1 : (k : Int) < (l.length : Int) := by omega
      have hstep : Hid _ := filter_stepM l (fitsB p) k hlt
      have hfil : ((l.take k).filter (fitsB p)).length ≤ k := Nat.le_trans (List.length_filter_le _ _) (by simp; omega)
      have H := fun W => HF l[k] W
      generalize ht : (l.take (k + 1)).filter (fitsB p) = t1 at hstep
      have Ht : Hid _ := ht
      generalize (l.take k).filter (fitsB p) = t0 at *
      generalize l[k] = y at *
      clear hr ht hbr0
      cases hp : fitsB p y
      · rw [hp] at H
        have hs2 : Hid (t1 = t0) := by have := hstep.out; rw [hp] at this; simpa [Hid] using this
        unfold valTr at H
        go_wp2_with fail
        go_region_held3 (fun W => W.cell? ⟨b, o + k * 9, none⟩ = some (.int .i64 y.1.1) ∧ W.cell? ⟨b, o + k * 9 + 1, none⟩ = some (.string ⟨y.1.2.1.toArray⟩) ∧ W.cell? ⟨b, o + k * 9 + 2, none⟩ = some (.string ⟨y.1.2.2.toArray⟩) ∧ W.cell? ⟨b, o + k * 9 + 3, none⟩ = some (.int .i64 y.2.1.1) ∧ W.cell? ⟨b, o + k * 9 + 4, none⟩ = some (.string ⟨y.2.1.2.1.toArray⟩) ∧ W.cell? ⟨b, o + k * 9 + 5, none⟩ = some (.string ⟨y.2.1.2.2.toArray⟩) ∧ W.cell? ⟨b, o + k * 9 + 6, none⟩ = some (.int .i64 y.2.2.1) ∧ W.cell? ⟨b, o + k * 9 + 7, none⟩ = some (.string ⟨y.2.2.2.1.toArray⟩) ∧ W.cell? ⟨b, o + k * 9 + 8, none⟩ = some (.string ⟨y.2.2.2.2.toArray⟩) ∧ W.cell? ⟨w.heap.size, 0, none⟩ = some (.string ⟨p.1.1.toArray⟩) ∧ W.cell? ⟨w.heap.size, 1, none⟩ = some (.int .i64 p.1.2.1) ∧ W.cell? ⟨w.heap.size, 2, none⟩ = some (.string ⟨p.1.2.2.1.toArray⟩) ∧ W.cell? ⟨w.heap.size, 3, none⟩ = some (.string ⟨p.1.2.2.2.toArray⟩) ∧ W.cell? ⟨w.heap.size, 4, none⟩ = some (.string ⟨p.2.1.1.toArray⟩) ∧ W.cell? ⟨w.heap.size, 5, none⟩ = some (.int .i64 p.2.1.2.1) ∧ W.cell? ⟨w.heap.size, 6, none⟩ = some (.string ⟨p.2.1.2.2.1.toArray⟩) ∧ W.cell? ⟨w.heap.size, 7, none⟩ = some (.string ⟨p.2.1.2.2.2.toArray⟩) ∧ W.cell? ⟨w.heap.size, 8, none⟩ = some (.string ⟨p.2.2.1.toArray⟩) ∧ W.cell? ⟨w.heap.size, 9, none⟩ = some (.int .i64 p.2.2.2.1) ∧ W.cell? ⟨w.heap.size, 10, none⟩ = some (.string ⟨p.2.2.2.2.1.toArray⟩) ∧ W.cell? ⟨w.heap.size, 11, none⟩ = some (.string ⟨p.2.2.2.2.2.toArray⟩)) (first | exact keep21 (by assumption) hb4 | go_keep) (first
          | (go_at_call 39; refine (H _).mono ?_; rintro e w4 ⟨rfl, hb4⟩))
        go_wp2_with fail
        go_roundw
        case rel =>
          refine ⟨k + 1, by omega, by go_num, ?_, by have := bstep hbr.drew hb4; simpa using this⟩
          show World.ownsRow _ _ _ _ _ _ _
          rw [Ht.out, hs2.out]
          exact ownsRow_belowV (ownsRow_belowV hown.out (Below.refl _ _).drew) hb4
        case measure => simp [intOf]; omega
      · rw [hp] at H
        have hs2 : Hid (t1 = t0 ++ [y]) := by have := hstep.out; rw [hp] at this; simpa [Hid] using this
        unfold valTr at H
        go_wp2_with fail
        go_region_held3 (fun W => W.cell? ⟨b, o + k * 9, none⟩ = some (.int .i64 y.1.1) ∧ W.cell? ⟨b, o + k * 9 + 1, none⟩ = some (.string ⟨y.1.2.1.toArray⟩) ∧ W.cell? ⟨b, o + k * 9 + 2, none⟩ = some (.string ⟨y.1.2.2.toArray⟩) ∧ W.cell? ⟨b, o + k * 9 + 3, none⟩ = some (.int .i64 y.2.1.1) ∧ W.cell? ⟨b, o + k * 9 + 4, none⟩ = some (.string ⟨y.2.1.2.1.toArray⟩) ∧ W.cell? ⟨b, o + k * 9 + 5, none⟩ = some (.string ⟨y.2.1.2.2.toArray⟩) ∧ W.cell? ⟨b, o + k * 9 + 6, none⟩ = some (.int .i64 y.2.2.1) ∧ W.cell? ⟨b, o + k * 9 + 7, none⟩ = some (.string ⟨y.2.2.2.1.toArray⟩) ∧ W.cell? ⟨b, o + k * 9 + 8, none⟩ = some (.string ⟨y.2.2.2.2.toArray⟩) ∧ W.cell? ⟨w.heap.size, 0, none⟩ = some (.string ⟨p.1.1.toArray⟩) ∧ W.cell? ⟨w.heap.size, 1, none⟩ = some (.int .i64 p.1.2.1) ∧ W.cell? ⟨w.heap.size, 2, none⟩ = some (.string ⟨p.1.2.2.1.toArray⟩) ∧ W.cell? ⟨w.heap.size, 3, none⟩ = some (.string ⟨p.1.2.2.2.toArray⟩) ∧ W.cell? ⟨w.heap.size, 4, none⟩ = some (.string ⟨p.2.1.1.toArray⟩) ∧ W.cell? ⟨w.heap.size, 5, none⟩ = some (.int .i64 p.2.1.2.1) ∧ W.cell? ⟨w.heap.size, 6, none⟩ = some (.string ⟨p.2.1.2.2.1.toArray⟩) ∧ W.cell? ⟨w.heap.size, 7, none⟩ = some (.string ⟨p.2.1.2.2.2.toArray⟩) ∧ W.cell? ⟨w.heap.size, 8, none⟩ = some (.string ⟨p.2.2.1.toArray⟩) ∧ W.cell? ⟨w.heap.size, 9, none⟩ = some (.int .i64 p.2.2.2.1) ∧ W.cell? ⟨w.heap.size, 10, none⟩ = some (.string ⟨p.2.2.2.2.1.toArray⟩) ∧ W.cell? ⟨w.heap.size, 11, none⟩ = some (.string ⟨p.2.2.2.2.2.toArray⟩)) (first | exact keep21 (by assumption) hb4 | go_keep) (first
          | (go_at_call 39; refine (H _).mono ?_; rintro e w4 ⟨rfl, hb4⟩))
        have hB1 := bstep hbr.drew hb4
        have hz1' : w.heap.size + 1 ≤ w4.heap.size := by have := hB1.size; simpa using this
        have hrow1 : Hid (w4.ownsRow (w.heap.size + 1) 82 9 _ t0.length (cellsT t0)) := ownsRow_belowV (ownsRow_belowV hown.out (Below.refl _ _).drew) hb4
        have d0 := (hb4.cell (World.block_lt_of_cell? wr _ c0)).trans c0
        have d1 := (hb4.cell (World.block_lt_of_cell? wr _ c1)).trans c1
        have d2 := (hb4.cell (World.block_lt_of_cell? wr _ c2)).trans c2
        have d3 := (hb4.cell (World.block_lt_of_cell? wr _ c3)).trans c3
        have d4 := (hb4.cell (World.block_lt_of_cell? wr _ c4)).trans c4
        have d5 := (hb4.cell (World.block_lt_of_cell? wr _ c5)).trans c5
        have d6 := (hb4.cell (World.block_lt_of_cell? wr _ c6)).trans c6
        have d7 := (hb4.cell (World.block_lt_of_cell? wr _ c7)).trans c7
        have d8 := (hb4.cell (World.block_lt_of_cell? wr _ c8)).trans c8
        clear c0 c1 c2 c3 c4 c5 c6 c7 c8 p0 p1 p2 p3 p4 p5 p6 p7 p8 p9 p10 p11 hown
        go_wp2_with (at_builtin; refine wpList_append_own _ rfl _ _ 22 rfl (w.heap.size + 1) 82 i0 (.agg (encTr zeroTr).toArray) 9 120 Tryz.underlying22 hi hz0 hz1 hz2 rfl (by decide) _ _ _ rfl (hrow1.out.alloc _) ⟨w4.heap.size, 0, none⟩ 1 1 (encTr y) rfl rfl ?c1 ?c2 ?c3 ?c4 ?c5 ?_)
        case c1 =>
          intro i u hi'
          have h9 : i < 9 := (List.getElem?_eq_some_iff.1 hi').1
          rw [Addr.add_lit]
          rcases (by omega : i = 0 ∨ i = 1 ∨ i = 2 ∨ i = 3 ∨ i = 4 ∨ i = 5 ∨ i = 6 ∨ i = 7 ∨ i = 8) with rfl | rfl | rfl | rfl | rfl | rfl | rfl | rfl | rfl
          all_goals
            simp [encTr] at hi'
            subst hi'
            go_simp
        case c2 => exact encTr_one y
        case c3 => unfold maxLen; omega
        case c4 => omega
        case c5 => simp; omega
        intro v' w9 hown' hgrow _
        have hB1' : Below (w.heap.size + 1) (w.alloc (.cells (encPt p).toArray 28)) w4 := by simpa using hB1
        have hbel := (hB1'.alloc hz1' (.cells (encTr y).toArray 82)).grown hgrow (by simp; omega) (fun k hk => (hrow1.out.lt k hk).1)
        go_wp2_with fail
        go_roundw
        case rel =>
          refine ⟨k + 1, by omega, by go_num, ?_, hbel⟩
          show World.ownsRow _ _ _ _ _ _ _
          rw [Ht.out, hs2.out]
          simpa [cellsT] using hown'
        case measure => simp [intOf]; omega
    · obtain rfl : k = l.length := by omega
      have hown' := hown.out
      rw [List.take_length, ← hml.out] at hown'
      obtain ⟨ad', cap', rfl, hsl⟩ := own_slM3 hown'
      have Hsl : Hid (SlT wr ad' ML) := hsl
      clear hown' hown hsl
      go_wp2_with fail
      go_ret
      exact ⟨hW0.trans (hbr.mono (by simp)), ad', cap', rfl, Hsl.out⟩
end Go.Proofs.YtnlcfnpcjkcdmacGreatDoor
