/- The document's answer (package strataref1): Text. -/
import Derived.Test.YtnlcfnpcjkcdmaaGreatDoorRefShow
import Derived.Test.YtnlcfnpcjkcdmaaGreatDoorTriplePrint
namespace Go.Proofs.YtnlcfnpcjkcdmaaGreatDoor
open Go Go.RowKit Go.Proofs
set_option synthInstance.maxSize 1000

set_option maxHeartbeats 2000000 in
set_option maxRecDepth 100000 in
theorem RText_any (x : Tr) (w : World) (h : chkTr x = 0) : Calls Tryz.prog 7 #[valTr x] w fun e w' => e = .returned (.string ⟨(showTr x).toArray⟩) ∧ RowKit.Below w.heap.size w w' := by
  obtain ⟨h1, h2, h3, _⟩ := chk_zero h
  have H1 := fun W => RShow_any x.1.1 x.1.2.1 x.1.2.2 W h1
  have H2 := fun W => RShow_any x.2.1.1 x.2.1.2.1 x.2.1.2.2 W h2
  have H3 := fun W => RShow_any x.2.2.1 x.2.2.2.1 x.2.2.2.2 W h3
  have s1 := show_short _ _ _ h1
  have s2 := show_short _ _ _ h2
  have s3 := show_short _ _ _ h3
  have fin : Hid (showTr x = showL x.1.1 x.1.2.1 x.1.2.2 ++ [32] ++ showL x.2.1.1 x.2.1.2.1 x.2.1.2.2 ++ [32] ++ showL x.2.2.1 x.2.2.2.1 x.2.2.2.2) := by simp [Hid, showTr, joinUpto]
  generalize showTr x = N at *
  generalize showL x.1.1 x.1.2.1 x.1.2.2 = a at *
  generalize showL x.2.1.1 x.2.1.2.1 x.2.1.2.2 = b at *
  generalize showL x.2.2.1 x.2.2.2.1 x.2.2.2.2 = c at *
  clear h h1 h2 h3
  unfold valTr
  go_enter Tryz.func7, Tryz.ntmps7
  go_wp2_with fail
  refine (H1 _).mono ?_
  rintro e w1 ⟨rfl, hb1⟩
  obtain ⟨a0, a1, a2, b0, b1, b2, d0, d1, d2, hzz⟩ := ninebox hb1
  go_wp2_with fail
  refine (H2 _).mono ?_
  rintro e w2 ⟨rfl, hb2⟩
  have hB := bstep hb1 hb2
  clear a0 a1 a2 b0 b1 b2 d0 d1 d2 hzz
  obtain ⟨a0, a1, a2, b0, b1, b2, d0, d1, d2, hzz⟩ := ninebox hB
  go_wp2_with fail
  refine (H3 _).mono ?_
  rintro e w3 ⟨rfl, hb3⟩
  clear a0 a1 a2 b0 b1 b2 d0 d1 d2 hzz
  go_wp2_with fail
  go_ret
  refine ⟨ret_val ?_, bstep (bstep (balloc _ _) hB) hb3⟩
  rw [fin.out, ← str_app, ← str_app, ← str_app, ← str_app]
  rfl
end Go.Proofs.YtnlcfnpcjkcdmaaGreatDoor
