/- The document's answer (package strataref1): shape, Triple. -/
import Derived.Test.YtkeholipklfnbacDoorRefTerm
import Derived.Test.YtkeholipklfnbacDoorDictData
namespace Go.Proofs.YtkeholipklfnbacDoor
open Go Go.RowKit Go.Proofs
set_option synthInstance.maxSize 1000

set_option maxHeartbeats 1000000 in
theorem RShape_any (x : Tr) (w : World) : Calls Tryd.prog 22 #[valTr x] w fun e w' => e = .returned (.bool (!shapeB x.1.1 x.2.1.1)) ∧ RowKit.Below w.heap.size w w' := by
  have fin2 : Hid (shapeB x.1.1 x.2.1.1 = ((x.1.1 == 3) || !(x.2.1.1 == 1))) := rfl
  unfold valTr
  cases h3 : (x.1.1 == 3)
  · cases h1 : (x.2.1.1 == 1)
    all_goals
      have h3' : (x.1.1 != 3) = true := by simp [bne, h3]
      go_enter Tryd.func22, Tryd.ntmps22
      go_wp2_with fail
      go_ret
      exact ⟨ret_bool (by rw [fin2.out, h3]; simp [h1]), balloc _ _⟩
  · have h3' : (x.1.1 != 3) = false := by simp [bne, h3]
    go_enter Tryd.func22, Tryd.ntmps22
    go_wp2_with fail
    go_ret
    exact ⟨ret_bool (by rw [fin2.out, h3]; rfl), balloc _ _⟩

set_option maxHeartbeats 4000000 in
set_option maxRecDepth 100000 in
theorem RTriple_any (x : Tr) (w : World) (hx : fitTr x) : Calls Tryd.prog 10 #[valTr x] w fun e w' => e = .returned (.int .i64 (chkTr x)) ∧ RowKit.Below w.heap.size w w' := by
  have H1 := fun W => RTerm_any x.1.1 x.1.2.1 x.1.2.2 W hx.1.1 hx.1.2
  have H2 := fun W => RTerm_any x.2.1.1 x.2.1.2.1 x.2.1.2.2 W hx.2.1.1 hx.2.1.2
  have H3 := fun W => RTerm_any x.2.2.1 x.2.2.2.1 x.2.2.2.2 W hx.2.2.1 hx.2.2.2
  have HS := fun W => RShape_any x W
  have fin : Hid (chkTr x = if checkN x.1.1 x.1.2.1 x.1.2.2 = 0 then (if checkN x.2.1.1 x.2.1.2.1 x.2.1.2.2 = 0 then (if checkN x.2.2.1 x.2.2.2.1 x.2.2.2.2 = 0 then (if shapeB x.1.1 x.2.1.1 = true then 3 else 0) else checkN x.2.2.1 x.2.2.2.1 x.2.2.2.2) else checkN x.2.1.1 x.2.1.2.1 x.2.1.2.2) else checkN x.1.1 x.1.2.1 x.1.2.2) := rfl
  generalize chkTr x = N at *
  generalize checkN x.1.1 x.1.2.1 x.1.2.2 = c1 at *
  generalize checkN x.2.1.1 x.2.1.2.1 x.2.1.2.2 = c2 at *
  generalize checkN x.2.2.1 x.2.2.2.1 x.2.2.2.2 = c3 at *
  generalize shapeB x.1.1 x.2.1.1 = sh at *
  clear hx
  unfold valTr at HS ⊢
  cases h1 : (c1 == 0)
  · have fin1 : Hid (N = c1) := by have h : ¬ c1 = 0 := by simpa using h1
                                   rw [fin.out, if_neg h]; rfl
    go_enter Tryd.func10, Tryd.ntmps10
    go_wp2_with fail
    refine (H1 _).mono ?_
    rintro e w1 ⟨rfl, hb1⟩
    obtain ⟨a0, a1, a2, b0, b1, b2, d0, d1, d2, hzz⟩ := ninebox hb1
    go_wp2_with fail
    refine (HS _).mono ?_
    rintro e w2 ⟨rfl, hb2⟩
    go_wp2_with fail
    go_ret
    exact ⟨ret_i64 fin1.out.symm, bstep (bstep (balloc _ _) hb1) hb2⟩
  · have e1 : c1 = 0 := by simpa using h1
    cases h2 : (c2 == 0)
    · have fin1 : Hid (N = c2) := by have h : ¬ c2 = 0 := by simpa using h2
                                     rw [fin.out, if_pos e1, if_neg h]; rfl
      clear e1
      go_enter Tryd.func10, Tryd.ntmps10
      go_wp2_with fail
      refine (H1 _).mono ?_
      rintro e w1 ⟨rfl, hb1⟩
      obtain ⟨a0, a1, a2, b0, b1, b2, d0, d1, d2, hzz⟩ := ninebox hb1
      go_wp2_with fail
      refine (H2 _).mono ?_
      rintro e w2 ⟨rfl, hb2⟩
      have hB := bstep hb1 hb2
      clear a0 a1 a2 b0 b1 b2 d0 d1 d2 hzz
      obtain ⟨a0, a1, a2, b0, b1, b2, d0, d1, d2, hzz⟩ := ninebox hB
      go_wp2_with fail
      refine (HS _).mono ?_
      rintro e w3 ⟨rfl, hb3⟩
      go_wp2_with fail
      go_ret
      exact ⟨ret_i64 fin1.out.symm, bstep (bstep (balloc _ _) hB) hb3⟩
    · have e2 : c2 = 0 := by simpa using h2
      have fin3 : Hid (N = if c3 = 0 then (if sh = true then 3 else 0) else c3) := by rw [fin.out, if_pos e1, if_pos e2]; rfl
      clear fin e1 e2
      cases h3 : (c3 == 0)
      · have fin1 : Hid (N = c3) := by have h : ¬ c3 = 0 := by simpa using h3
                                       rw [fin3.out, if_neg h]; rfl
        go_enter Tryd.func10, Tryd.ntmps10
        go_wp2_with fail
        refine (H1 _).mono ?_
        rintro e w1 ⟨rfl, hb1⟩
        obtain ⟨a0, a1, a2, b0, b1, b2, d0, d1, d2, hzz⟩ := ninebox hb1
        go_wp2_with fail
        refine (H2 _).mono ?_
        rintro e w2 ⟨rfl, hb2⟩
        have hB := bstep hb1 hb2
        clear a0 a1 a2 b0 b1 b2 d0 d1 d2 hzz
        obtain ⟨a0, a1, a2, b0, b1, b2, d0, d1, d2, hzz⟩ := ninebox hB
        go_wp2_with fail
        refine (H3 _).mono ?_
        rintro e w3 ⟨rfl, hb3⟩
        have hB3 := bstep hB hb3
        clear a0 a1 a2 b0 b1 b2 d0 d1 d2 hzz
        obtain ⟨a0, a1, a2, b0, b1, b2, d0, d1, d2, hzz⟩ := ninebox hB3
        go_wp2_with fail
        refine (HS _).mono ?_
        rintro e w4 ⟨rfl, hb4⟩
        go_wp2_with fail
        go_ret
        exact ⟨ret_i64 fin1.out.symm, bstep (bstep (balloc _ _) hB3) hb4⟩
      · have fin1 : Hid (N = if sh = true then 3 else 0) := by have h : c3 = 0 := by simpa using h3
                                                               rw [fin3.out, if_pos h]; rfl
        have e3 : c3 = 0 := by simpa using h3
        subst e3
        cases sh
        all_goals
          go_enter Tryd.func10, Tryd.ntmps10
          go_wp2_with fail
          refine (H1 _).mono ?_
          rintro e w1 ⟨rfl, hb1⟩
          obtain ⟨a0, a1, a2, b0, b1, b2, d0, d1, d2, hzz⟩ := ninebox hb1
          go_wp2_with fail
          refine (H2 _).mono ?_
          rintro e w2 ⟨rfl, hb2⟩
          have hB := bstep hb1 hb2
          clear a0 a1 a2 b0 b1 b2 d0 d1 d2 hzz
          obtain ⟨a0, a1, a2, b0, b1, b2, d0, d1, d2, hzz⟩ := ninebox hB
          go_wp2_with fail
          refine (H3 _).mono ?_
          rintro e w3 ⟨rfl, hb3⟩
          have hB3 := bstep hB hb3
          clear a0 a1 a2 b0 b1 b2 d0 d1 d2 hzz
          obtain ⟨a0, a1, a2, b0, b1, b2, d0, d1, d2, hzz⟩ := ninebox hB3
          go_wp2_with fail
          refine (HS _).mono ?_
          rintro e w4 ⟨rfl, hb4⟩
          go_wp2_with fail
          go_ret
          exact ⟨ret_i64 (by rw [fin1.out]; rfl), bstep (bstep (balloc _ _) hB3) hb4⟩

end Go.Proofs.YtkeholipklfnbacDoor
