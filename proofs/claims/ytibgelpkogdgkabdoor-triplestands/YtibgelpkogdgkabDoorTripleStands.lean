/- stratalaw4.TripleStands: the walk. -/
import Derived.Test.YtibgelpkogdgkabDoorTripleCheck
import Derived.Test.YtibgelpkogdgkabDoorAs
import Derived.Deep.DeepCutAuto
import Derived.Laws.DeepStrings4
import Derived.RegionTactic
namespace Go.Proofs.YtibgelpkogdgkabDoor
open Go Go.RowKit Go.Proofs

attribute [local go_sem] eql_errV neq_errV guard_errV

theorem name_any (S : List UInt8) (w : World) : Calls Tryd.prog 6 #[.string ⟨S.toArray⟩] w
    fun e w' => e = .returned (.agg #[.int .i64 1, .string ⟨S.toArray⟩, .string ⟨#[]⟩]) ∧ Below w.heap.size w w' := by
  go_enter Tryd.func6, Tryd.ntmps6
  go_wp2
  refine bodyPost_ret (v := .agg #[.int .i64 1, .string ⟨S.toArray⟩, .string ⟨#[]⟩]) (by simp [results, Tryd.results6, go_sem]) rfl ⟨rfl, balloc _ _⟩

theorem text_one (w : World) : Calls Tryd.prog 5 #[.int .i64 1] w
    fun e w' => e = .returned (.agg #[.int .i64 3, .string ⟨#[97, 98]⟩, .string ⟨#[]⟩]) ∧ Below w.heap.size w w' := by
  go_enter Tryd.func5, Tryd.ntmps5
  go_wp2
  go_region
  go_wp2
  refine bodyPost_ret (v := .agg #[.int .i64 3, .string ⟨#[97, 98]⟩, .string ⟨#[]⟩]) (by simp [results, Tryd.results5, go_sem]; rfl) rfl ⟨rfl, (balloc _ _).drew⟩

theorem fact_n : check3 (checkN 3 [97, 98] []) (checkN 1 [112] []) (checkN 1 [111] []) 3 1 = 3 := by decide

theorem stands_eq (c1 c2 c3 k1 k2 : Int) (h1 : c1 = 0) (h2 : c2 = 0) (h3 : c3 = 0) : check3 c1 c2 c3 k1 k2 = if shapeB k1 k2 = true then 3 else 0 := by simp [check3, h1, h2, h3]
theorem stands_ne (c1 c2 c3 k1 k2 : Int) (h : ¬ (c1 = 0 ∧ c2 = 0 ∧ c3 = 0)) : (check3 c1 c2 c3 k1 k2 == 0) = false := by
  unfold check3
  by_cases h1 : c1 = 0
  · by_cases h2 : c2 = 0
    · have h3 : c3 ≠ 0 := fun h3 => h ⟨h1, h2, h3⟩
      simp [h1, h2, h3]
    · simp [h1, h2]
  · simp [h1]

set_option maxHeartbeats 4000000 in
set_option maxRecDepth 100000 in
theorem stands_any (k1 : Int) (S1 L1 : List UInt8) (k2 : Int) (S2 L2 : List UInt8) (k3 : Int) (S3 L3 : List UInt8) (w : World) (hg : errVar w)
    (hs1 : S1.length ≤ maxLen) (hl1 : L1.length ≤ maxLen) (hs2 : S2.length ≤ maxLen) (hl2 : L2.length ≤ maxLen) (hs3 : S3.length ≤ maxLen) (hl3 : L3.length ≤ maxLen) :
    Calls Tryd.prog 3 #[.agg #[.int .i64 k1, .string ⟨S1.toArray⟩, .string ⟨L1.toArray⟩], .agg #[.int .i64 k2, .string ⟨S2.toArray⟩, .string ⟨L2.toArray⟩], .agg #[.int .i64 k3, .string ⟨S3.toArray⟩, .string ⟨L3.toArray⟩]] w
      fun e w' => e = .returned (.bool true) ∧ Below w.heap.size w w' := by
  have Hg : Hid (errVar w) := hg
  clear hg
  have HT := fun W => TCheck_any k1 S1 L1 k2 S2 L2 k3 S3 L3 W hs1 hl1 hs2 hl2 hs3 hl3
  have H1 := fun W => Check_any k1 S1 L1 W hs1 hl1
  have H2 := fun W => Check_any k2 S2 L2 W hs2 hl2
  have H3 := fun W => Check_any k3 S3 L3 W hs3 hl3
  have HF : ∀ W, Calls Tryd.prog 4 #[.agg #[.int .i64 3, .string ⟨#[97, 98]⟩, .string ⟨#[]⟩, .int .i64 1, .string ⟨#[112]⟩, .string ⟨#[]⟩, .int .i64 1, .string ⟨#[111]⟩, .string ⟨#[]⟩]] W fun e w' => e = .returned (errV 3) ∧ Below W.heap.size W w' := by
    intro W
    have := TCheck_any 3 [97, 98] [] 1 [112] [] 1 [111] [] W (by decide) (by decide) (by decide) (by decide) (by decide) (by decide)
    rw [fact_n] at this
    exact this
  generalize checkN k1 S1 L1 = c1 at H1 HT
  generalize checkN k2 S2 L2 = c2 at H2 HT
  generalize checkN k3 S3 L3 = c3 at H3 HT
  clear hs1 hl1 hs2 hl2 hs3 hl3
  have Hne : Hid (¬ (c1 = 0 ∧ c2 = 0 ∧ c3 = 0) → (check3 c1 c2 c3 k1 k2 == 0) = false) := stands_ne c1 c2 c3 k1 k2
  have Heq : Hid (c1 = 0 → c2 = 0 → c3 = 0 → check3 c1 c2 c3 k1 k2 = if shapeB k1 k2 = true then 3 else 0) := stands_eq c1 c2 c3 k1 k2
  have Hsh : Hid (shapeB k1 k2 = ((k1 == 3) || !(k2 == 1))) := rfl
  generalize check3 c1 c2 c3 k1 k2 = r at HT Hne Heq
  go_enter Tryd.func3, Tryd.ntmps3
  go_wp2_with fail
  refine (HT _).mono ?_
  rintro e w1 ⟨rfl, hb1⟩
  go_wp2_with fail
  refine (text_one _).mono ?_
  rintro e w2 ⟨rfl, hb2⟩
  have hB2 := bstep hb1 hb2
  clear hb1 hb2
  go_wp2_with fail
  refine (name_any [112] _).mono ?_
  rintro e w3 ⟨rfl, hb3⟩
  have hB3 := bstep hB2 hb3
  clear hB2 hb3
  go_wp2_with fail
  refine (name_any [111] _).mono ?_
  rintro e w4 ⟨rfl, hb4⟩
  have hB4 := bstep hB3 hb4
  clear hB3 hb4
  go_wp2_with fail
  refine (HF _).mono ?_
  rintro e w5 ⟨rfl, hb5⟩
  have hB5 := bstep hB4 hb5
  clear hB4 hb5 HF
  go_wp2_with fail
  refine (SameError_any _ _ _ ((Hg.out.below (bstep (bstep (balloc _ _) (balloc _ _)) (balloc _ _))).below hB5)).mono ?_
  rintro e w6 ⟨rfl, hb6⟩
  have hB6 := bstep hB5 hb6
  clear hB5 hb6
  obtain ⟨a0, a1, a2, b0, b1, b2, d0, d1, d2, hz6⟩ := boxes hB6
  go_wp2_with fail
  refine (H1 _).mono ?_
  rintro e w7 ⟨rfl, hb7⟩
  have hB7 := bstep hB6 hb7
  clear hB6 hb7 a0 a1 a2 b0 b1 b2 d0 d1 d2 hz6
  obtain ⟨a0, a1, a2, b0, b1, b2, d0, d1, d2, hz7⟩ := boxes hB7
  cases h1 : (c1 == 0)
  · have hr : (r == 0) = false := Hne.out (by simp at h1; simp [h1])
    go_wp2_with fail
    go_ret
    exact ⟨rfl, bstep (bstep (bstep (balloc _ _) (balloc _ _)) (balloc _ _)) hB7⟩
  go_wp2_with fail
  refine (H2 _).mono ?_
  rintro e w8 ⟨rfl, hb8⟩
  have hB8 := bstep hB7 hb8
  clear hB7 hb8 a0 a1 a2 b0 b1 b2 d0 d1 d2 hz7
  obtain ⟨a0, a1, a2, b0, b1, b2, d0, d1, d2, hz8⟩ := boxes hB8
  cases h2 : (c2 == 0)
  · have hr : (r == 0) = false := Hne.out (by simp at h2; simp [h2])
    go_wp2_with fail
    go_ret
    exact ⟨rfl, bstep (bstep (bstep (balloc _ _) (balloc _ _)) (balloc _ _)) hB8⟩
  go_wp2_with fail
  refine (H3 _).mono ?_
  rintro e w9 ⟨rfl, hb9⟩
  have hB9 := bstep hB8 hb9
  clear hB8 hb9 a0 a1 a2 b0 b1 b2 d0 d1 d2 hz8
  obtain ⟨a0, a1, a2, b0, b1, b2, d0, d1, d2, hz9⟩ := boxes hB9
  cases h3 : (c3 == 0)
  · have hr : (r == 0) = false := Hne.out (by simp at h3; simp [h3])
    go_wp2_with fail
    go_ret
    exact ⟨rfl, bstep (bstep (bstep (balloc _ _) (balloc _ _)) (balloc _ _)) hB9⟩
  have hall : Hid (r = if shapeB k1 k2 = true then 3 else 0) := Heq.out (by simpa using h1) (by simpa using h2) (by simpa using h3)
  clear Heq Hne
  cases h4 : (k1 != 3)
  · have hr : Hid (r = 3) := hall.out.trans (by rw [Hsh.out]; simp at h4; simp [h4])
    go_wp2_with fail
    refine (SameError_any _ _ _ ((Hg.out.below (bstep (bstep (balloc _ _) (balloc _ _)) (balloc _ _))).below hB9)).mono ?_
    rintro e w10 ⟨rfl, hb10⟩
    have hB10 := bstep hB9 hb10
    go_wp2_with fail
    go_ret
    exact ⟨ret_bool (by rw [hr.out]; rfl), bstep (bstep (bstep (balloc _ _) (balloc _ _)) (balloc _ _)) hB10⟩
  cases h5 : (k2 == 1)
  · have hr : Hid (r = 3) := hall.out.trans (by rw [Hsh.out, h5]; simp)
    go_wp2_with fail
    refine (SameError_any _ _ _ ((Hg.out.below (bstep (bstep (balloc _ _) (balloc _ _)) (balloc _ _))).below hB9)).mono ?_
    rintro e w10 ⟨rfl, hb10⟩
    have hB10 := bstep hB9 hb10
    go_wp2_with fail
    go_ret
    exact ⟨ret_bool (by rw [hr.out]; rfl), bstep (bstep (bstep (balloc _ _) (balloc _ _)) (balloc _ _)) hB10⟩
  · have hr : Hid (r = 0) := hall.out.trans (by rw [Hsh.out, h5]; simp at h4; simp [h4])
    go_wp2_with fail
    go_ret
    exact ⟨ret_bool (by rw [hr.out]; rfl), bstep (bstep (bstep (balloc _ _) (balloc _ _)) (balloc _ _)) hB9⟩
end Go.Proofs.YtibgelpkogdgkabDoor
