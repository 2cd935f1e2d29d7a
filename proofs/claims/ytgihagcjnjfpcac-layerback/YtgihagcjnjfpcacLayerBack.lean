/- stratalaw1.LayerBack: the walk. -/
import Derived.Test.YtgihagcjnjfpcacLayerGood
namespace Go.Proofs.Ytgihagcjnjfpcac
open Go Go.RowKit Go.Proofs
set_option synthInstance.maxSize 1000

def factX : Tr := ⟨⟨1, [97], []⟩, ⟨1, [98], []⟩, ⟨1, [99], []⟩⟩
theorem fact_set : IsSet [factX] := ⟨by simp, by intro x hx; rw [List.mem_singleton.1 hx]; decide, List.pairwise_singleton _ _⟩
theorem factBtw_any (ad : Option Addr) (c : Nat) (w : World) (h : SlT w ad [factX]) :
    Calls Try.prog 14 #[.slice none 0 0, .slice ad 1 c] w fun e w' => RowKit.Below w.heap.size w w' ∧ ∃ b o c' a2 c2, e = .returned (.tuple #[.agg #[.slice (some ⟨b, o, none⟩) 1 c', .slice a2 0 c2], .nilIface]) ∧ RowR w' b o [factX] := by
  refine (BtwGood_any none ad 0 c [] [factX] w (slT_nil _ _) h isSet_nil fact_set).mono ?_
  rintro e w' ⟨hb, a1, c1, a2, c2, rfl, h1, _⟩
  rw [show lessL [factX] [] = [factX] by simp [lessL]] at h1
  obtain ⟨b, o, rfl, hr⟩ := h1 (by simp)
  exact ⟨hb, b, o, c1, a2, c2, rfl, hr⟩

theorem neqFact (w : World) : (binOp .neq 30 (.agg #[.int .i64 1, .string ⟨#[97]⟩, .string ⟨#[]⟩, .int .i64 1, .string ⟨#[98]⟩, .string ⟨#[]⟩, .int .i64 1, .string ⟨#[99]⟩, .string ⟨#[]⟩]) (.agg #[.int .i64 1, .string ⟨#[97]⟩, .string ⟨#[]⟩, .int .i64 1, .string ⟨#[98]⟩, .string ⟨#[]⟩, .int .i64 1, .string ⟨#[99]⟩, .string ⟨#[]⟩])).run Try.prog w = .ok (.bool false) w := by kernel_rfl

attribute [local go_sem] eql_errV neq_errV guard_errV
attribute [local go_sem ↓] neqFact

set_option maxHeartbeats 16000000 in
set_option maxRecDepth 100000 in
theorem layerBack_any (ad bd cd : Option Addr) (ca cb cc : Nat) (a b c : List Tr) (w : World) (ha : SlT w ad a) (hb : SlT w bd b) (hc : SlT w cd c) (fa : ∀ x ∈ a, fitTr x) (fb : ∀ x ∈ b, fitTr x) (fc : ∀ x ∈ c, fitTr x) (na : a.length ≤ 9223372036854775807) (nb : b.length ≤ 9223372036854775807) (nc : c.length ≤ 9223372036854775807) :
    Calls Try.prog 5 #[.slice ad a.length ca, .slice bd b.length cb, .slice cd c.length cc] w fun e w' => e = .returned (.bool true) ∧ RowKit.Below w.heap.size w w' := by
  have HS : Hid (SlT w ad a ∧ SlT w bd b ∧ SlT w cd c) := ⟨ha, hb, hc⟩
  have HF := factBtw_any
  have HB := fun W h1 h2 => LBetween_any ad bd ca cb a b W h1 h2 fa fb na nb
  have HC := fun W h1 h2 => LBetween_any bd cd cb cc b c W h1 h2 fb fc nb nc
  have HSa := fun W h1 => Sorted_any ad ca a W h1 fa na
  have HSb := fun W h1 => Sorted_any bd cb b W h1 fb nb
  clear ha hb hc fa fb fc na nb nc
  go_enter Try.func5, Try.ntmps5
  go_wp2_with fail
  refine (HF _ _ _ ?hf).mono ?_
  case hf =>
    refine fun _ => ⟨_, 0, rfl, fun j v hj => ?_⟩
    have h9 : j < 9 := (List.getElem?_eq_some_iff.1 hj).1
    rcases (by omega : j = 0 ∨ j = 1 ∨ j = 2 ∨ j = 3 ∨ j = 4 ∨ j = 5 ∨ j = 6 ∨ j = 7 ∨ j = 8) with rfl | rfl | rfl | rfl | rfl | rfl | rfl | rfl | rfl
    all_goals
      simp [cellsT, encTr, factX] at hj
      subst hj
      go_simp
  rintro e w1 ⟨hb1, b1, o1, k1, a12, k12, rfl, hr1⟩
  have hB1 := bstep (bstep (balloc _ _) (balloc _ _)) hb1
  have c0 : w1.cell? ⟨b1, o1, none⟩ = some (.int .i64 1) := (hr1.at 0 (by decide)).1
  have c1 : w1.cell? ⟨b1, o1 + 1, none⟩ = some (.string ⟨#[97]⟩) := (hr1.at 0 (by decide)).2.1
  have c2 : w1.cell? ⟨b1, o1 + 2, none⟩ = some (.string ⟨#[]⟩) := (hr1.at 0 (by decide)).2.2.1
  have c3 : w1.cell? ⟨b1, o1 + 3, none⟩ = some (.int .i64 1) := (hr1.at 0 (by decide)).2.2.2.1
  have c4 : w1.cell? ⟨b1, o1 + 4, none⟩ = some (.string ⟨#[98]⟩) := (hr1.at 0 (by decide)).2.2.2.2.1
  have c5 : w1.cell? ⟨b1, o1 + 5, none⟩ = some (.string ⟨#[]⟩) := (hr1.at 0 (by decide)).2.2.2.2.2.1
  have c6 : w1.cell? ⟨b1, o1 + 6, none⟩ = some (.int .i64 1) := (hr1.at 0 (by decide)).2.2.2.2.2.2.1
  have c7 : w1.cell? ⟨b1, o1 + 7, none⟩ = some (.string ⟨#[99]⟩) := (hr1.at 0 (by decide)).2.2.2.2.2.2.2.1
  have c8 : w1.cell? ⟨b1, o1 + 8, none⟩ = some (.string ⟨#[]⟩) := (hr1.at 0 (by decide)).2.2.2.2.2.2.2.2
  have hzb : b1 < w1.heap.size := World.block_lt_of_cell? w1 _ c0
  obtain ⟨kc, _⟩ := bcell hb1
  have x0 : w1.cell? ⟨w.heap.size, 0, none⟩ = some (.int .i64 1) := (kc _ 0 (by simp <;> omega)).trans (by go_simp)
  have x1 : w1.cell? ⟨w.heap.size, 1, none⟩ = some (.string ⟨#[97]⟩) := (kc _ 1 (by simp <;> omega)).trans (by go_simp)
  have x2 : w1.cell? ⟨w.heap.size, 2, none⟩ = some (.string ⟨#[]⟩) := (kc _ 2 (by simp <;> omega)).trans (by go_simp)
  have x3 : w1.cell? ⟨w.heap.size, 3, none⟩ = some (.int .i64 1) := (kc _ 3 (by simp <;> omega)).trans (by go_simp)
  have x4 : w1.cell? ⟨w.heap.size, 4, none⟩ = some (.string ⟨#[98]⟩) := (kc _ 4 (by simp <;> omega)).trans (by go_simp)
  have x5 : w1.cell? ⟨w.heap.size, 5, none⟩ = some (.string ⟨#[]⟩) := (kc _ 5 (by simp <;> omega)).trans (by go_simp)
  have x6 : w1.cell? ⟨w.heap.size, 6, none⟩ = some (.int .i64 1) := (kc _ 6 (by simp <;> omega)).trans (by go_simp)
  have x7 : w1.cell? ⟨w.heap.size, 7, none⟩ = some (.string ⟨#[99]⟩) := (kc _ 7 (by simp <;> omega)).trans (by go_simp)
  have x8 : w1.cell? ⟨w.heap.size, 8, none⟩ = some (.string ⟨#[]⟩) := (kc _ 8 (by simp <;> omega)).trans (by go_simp)
  have hz1 : w.heap.size < w1.heap.size := World.block_lt_of_cell? w1 _ x0
  clear kc hr1 hb1 HF
  go_wp2_with fail
  go_region
  clear c0 c1 c2 c3 c4 c5 c6 c7 c8 x0 x1 x2 x3 x4 x5 x6 x7 x8
  have hA1 := (bstep hB1 (balloc w1 (.cells #[.slice (some ⟨b1, o1, none⟩) 1 k1, .slice a12 0 k12] 47))).drew
  clear hB1 hz1 hzb
  generalize (w1.alloc (.cells #[.slice (some ⟨b1, o1, none⟩) 1 k1, .slice a12 0 k12] 47)).drew = w1d at *
  by_cases hN0 : bothN a b = 0
  · -- nothing is wrong with both
    obtain ⟨sa, sb⟩ := bothN_zero.1 hN0
    clear HB HSa HSb hN0
    have HB := fun W h1 h2 => BtwGood_any ad bd ca cb a b W h1 h2 sa sb
    have HA := fun W a1 c1 a2 c2 h1 h2 h3 => ApplyGood_any ad a1 a2 ca c1 c2 a b W h1 h2 h3 sa sb
    have HA' := fun W a1 c1 a2 c2 h1 h2 h3 => ApplyGood_any bd a1 a2 cb c1 c2 b a W h1 h2 h3 sb sa
    have HT := fun W a1 c1 a2 c2 h1 h2 => TurnGood_any a1 a2 c1 c2 a b W h1 h2 sa sb
    have HK := fun W a1 c1 a2 c2 h1 h2 => CheckGood_any a1 a2 c1 c2 a b W h1 h2 sa sb
    have Sab : Hid (IsSet a ∧ IsSet b) := ⟨sa, sb⟩
    have HTh : Hid (IsSet c → ∀ (W : World) a1 c1 a2 c2 a3 c3 a4 c4, SlT W a1 (lessL b a) → SlT W a2 (lessL a b) → SlT W a3 (lessL c b) → SlT W a4 (lessL b c) → Calls Try.prog 18 #[.agg #[.slice a1 (lessL b a).length c1, .slice a2 (lessL a b).length c2], .agg #[.slice a3 (lessL c b).length c3, .slice a4 (lessL b c).length c4]] W (LOk W (lessL c a) (lessL a c))) := fun sc W a1 c1 a2 c2 a3 c3 a4 c4 h1 h2 h3 h4 => ThenGood_any a1 a2 a3 a4 c1 c2 c3 c4 a b c W h1 h2 h3 h4 sa sb sc
    generalize lessL a b = L at *
    generalize lessL b a = M at *
    clear sa sb
    go_wp2_with fail
    refine (HB _ (HS.out.1.below hA1) (HS.out.2.1.below hA1)).mono ?_
    rintro e w2 ⟨hb2, a1, c1, a2, c2, rfl, g1, g2⟩
    have hA2 := bstep (bstep hA1 hb2) (balloc w2 (.cells #[.slice a1 M.length c1, .slice a2 L.length c2] 47))
    have Hall : Hid (SlT (w2.alloc (.cells #[.slice a1 M.length c1, .slice a2 L.length c2] 47)) a1 M ∧ SlT (w2.alloc (.cells #[.slice a1 M.length c1, .slice a2 L.length c2] 47)) a2 L ∧ BoxL (w2.alloc (.cells #[.slice a1 M.length c1, .slice a2 L.length c2] 47)) w2.heap.size (.slice a1 M.length c1) (.slice a2 L.length c2)) := ⟨g1.below (balloc _ _), g2.below (balloc _ _), BoxL.new _ _ _ _⟩
    clear g1 g2 hb2 HB
    go_wp2_with fail
    refine (HA _ a1 c1 a2 c2 (HS.out.1.below hA2) Hall.out.1 Hall.out.2.1).mono ?_
    rintro e w3 ⟨hb3, a3, c3, rfl, g3⟩
    have hA3 := bstep hA2 hb3
    have Hall : Hid (SlT w3 a1 M ∧ SlT w3 a2 L ∧ BoxL w3 w2.heap.size (.slice a1 M.length c1) (.slice a2 L.length c2) ∧ SlT w3 a3 b) := ⟨Hall.out.1.below hb3, Hall.out.2.1.below hb3, Hall.out.2.2.below hb3, g3⟩
    obtain ⟨x0, x1⟩ := Hall.out.2.2.1
    clear hA2 hb3 g3 HA
    go_wp2_with fail
    refine (HT _ a1 c1 a2 c2 Hall.out.1 Hall.out.2.1).mono ?_
    rintro e w4 ⟨hb4, a4, c4, a5, c5, rfl, g4, g5⟩
    have hb4' := bstep hb4 (balloc w4 (.cells #[.slice a4 L.length c4, .slice a5 M.length c5] 47))
    have hA4 := bstep hA3 hb4'
    have Hall : Hid (SlT (w4.alloc (.cells #[.slice a4 L.length c4, .slice a5 M.length c5] 47)) a1 M ∧ SlT (w4.alloc (.cells #[.slice a4 L.length c4, .slice a5 M.length c5] 47)) a2 L ∧ BoxL (w4.alloc (.cells #[.slice a4 L.length c4, .slice a5 M.length c5] 47)) w2.heap.size (.slice a1 M.length c1) (.slice a2 L.length c2) ∧ SlT (w4.alloc (.cells #[.slice a4 L.length c4, .slice a5 M.length c5] 47)) a3 b ∧ SlT (w4.alloc (.cells #[.slice a4 L.length c4, .slice a5 M.length c5] 47)) a4 L ∧ SlT (w4.alloc (.cells #[.slice a4 L.length c4, .slice a5 M.length c5] 47)) a5 M) := ⟨Hall.out.1.below hb4', Hall.out.2.1.below hb4', Hall.out.2.2.1.below hb4', Hall.out.2.2.2.below hb4', g4.below (balloc _ _), g5.below (balloc _ _)⟩
    clear hA3 hb4 hb4' g4 g5 HT x0 x1
    go_wp2_with fail
    refine (HA' _ a4 c4 a5 c5 (HS.out.2.1.below hA4) Hall.out.2.2.2.2.1 Hall.out.2.2.2.2.2).mono ?_
    rintro e w5 ⟨hb5, a6, c6, rfl, g6⟩
    have hA5 := bstep hA4 hb5
    have Hall : Hid (SlT w5 a1 M ∧ SlT w5 a2 L ∧ BoxL w5 w2.heap.size (.slice a1 M.length c1) (.slice a2 L.length c2) ∧ SlT w5 a3 b ∧ SlT w5 a6 a) := ⟨Hall.out.1.below hb5, Hall.out.2.1.below hb5, Hall.out.2.2.1.below hb5, Hall.out.2.2.2.1.below hb5, g6⟩
    clear hA4 hb5 g6 HA'
    go_wp2_with fail
    refine (SameGood_any a3 bd c3 cb b _ Hall.out.2.2.2.1 (HS.out.2.1.below hA5) Sab.out.2).mono ?_
    rintro e w6 ⟨rfl, hb6⟩
    have hA6 := bstep hA5 hb6
    have Hall : Hid (SlT w6 a1 M ∧ SlT w6 a2 L ∧ BoxL w6 w2.heap.size (.slice a1 M.length c1) (.slice a2 L.length c2) ∧ SlT w6 a6 a) := ⟨Hall.out.1.below hb6, Hall.out.2.1.below hb6, Hall.out.2.2.1.below hb6, Hall.out.2.2.2.2.below hb6⟩
    clear hA5 hb6
    go_wp2_with fail
    refine (SameGood_any a6 ad c6 ca a _ Hall.out.2.2.2 (HS.out.1.below hA6) Sab.out.1).mono ?_
    rintro e w7 ⟨rfl, hb7⟩
    have hA7 := bstep hA6 hb7
    have Hall : Hid (SlT w7 a1 M ∧ SlT w7 a2 L ∧ BoxL w7 w2.heap.size (.slice a1 M.length c1) (.slice a2 L.length c2)) := ⟨Hall.out.1.below hb7, Hall.out.2.1.below hb7, Hall.out.2.2.1.below hb7⟩
    obtain ⟨x0, x1⟩ := Hall.out.2.2
    clear hA6 hb7
    go_wp2_with fail
    refine (HK _ a1 c1 a2 c2 Hall.out.1 Hall.out.2.1).mono ?_
    rintro e w8 ⟨rfl, hb8⟩
    have hA8 := bstep hA7 hb8
    have Hall : Hid (SlT w8 a1 M ∧ SlT w8 a2 L ∧ BoxL w8 w2.heap.size (.slice a1 M.length c1) (.slice a2 L.length c2)) := ⟨Hall.out.1.below hb8, Hall.out.2.1.below hb8, Hall.out.2.2.below hb8⟩
    clear hA7 hb8 HK x0 x1
    by_cases hN1 : bothN b c = 0
    · have sc := (bothN_zero.1 hN1).2
      clear HC hN1
      have HC := fun W h1 h2 => BtwGood_any bd cd cb cc b c W h1 h2 Sab.out.2 sc
      have HN := fun W h1 h2 => BtwGood_any ad cd ca cc a c W h1 h2 Sab.out.1 sc
      have HT2 := HTh.out sc
      have Ssc : Hid (IsSet (lessL c a) ∧ IsSet (lessL a c)) := ⟨lessSet sc, lessSet Sab.out.1⟩
      clear HTh sc
      generalize lessL c b = P at *
      generalize lessL b c = Q at *
      generalize lessL c a = R at *
      generalize lessL a c = S at *
      go_wp2_with fail
      refine (HC _ (HS.out.2.1.below hA8) (HS.out.2.2.below hA8)).mono ?_
      rintro e w9 ⟨hb9, a7, c7, a8, c8, rfl, g7, g8⟩
      have hb9' := bstep hb9 (balloc w9 (.cells #[.slice a7 P.length c7, .slice a8 Q.length c8] 47))
      have hA9 := bstep hA8 hb9'
      have Hall : Hid (SlT (w9.alloc (.cells #[.slice a7 P.length c7, .slice a8 Q.length c8] 47)) a1 M ∧ SlT (w9.alloc (.cells #[.slice a7 P.length c7, .slice a8 Q.length c8] 47)) a2 L ∧ BoxL (w9.alloc (.cells #[.slice a7 P.length c7, .slice a8 Q.length c8] 47)) w2.heap.size (.slice a1 M.length c1) (.slice a2 L.length c2) ∧ SlT (w9.alloc (.cells #[.slice a7 P.length c7, .slice a8 Q.length c8] 47)) a7 P ∧ SlT (w9.alloc (.cells #[.slice a7 P.length c7, .slice a8 Q.length c8] 47)) a8 Q ∧ BoxL (w9.alloc (.cells #[.slice a7 P.length c7, .slice a8 Q.length c8] 47)) w9.heap.size (.slice a7 P.length c7) (.slice a8 Q.length c8)) := ⟨Hall.out.1.below hb9', Hall.out.2.1.below hb9', Hall.out.2.2.below hb9', g7.below (balloc _ _), g8.below (balloc _ _), BoxL.new _ _ _ _⟩
      clear hA8 hb9 hb9' g7 g8 HC
      go_wp2_with fail
      refine (HN _ (HS.out.1.below hA9) (HS.out.2.2.below hA9)).mono ?_
      rintro e w10 ⟨hb10, a9, c9, a10, c10, rfl, g9, g10⟩
      have hb10' := bstep hb10 (balloc w10 (.cells #[.slice a9 R.length c9, .slice a10 S.length c10] 47))
      have hA10 := bstep hA9 hb10'
      have Hall0 : (SlT w10 a1 M ∧ SlT w10 a2 L ∧ BoxL w10 w2.heap.size (.slice a1 M.length c1) (.slice a2 L.length c2) ∧ SlT w10 a7 P ∧ SlT w10 a8 Q ∧ BoxL w10 w9.heap.size (.slice a7 P.length c7) (.slice a8 Q.length c8)) := ⟨Hall.out.1.below hb10, Hall.out.2.1.below hb10, Hall.out.2.2.1.below hb10, Hall.out.2.2.2.1.below hb10, Hall.out.2.2.2.2.1.below hb10, Hall.out.2.2.2.2.2.below hb10⟩
      have y0 := Hall0.2.2.1.1
      have y1 := Hall0.2.2.1.2
      have y2 := Hall0.2.2.2.2.2.1
      have y3 := Hall0.2.2.2.2.2.2
      have z1 := World.block_lt_of_cell? _ _ y0
      have z2 := World.block_lt_of_cell? _ _ y2
      have Hall : Hid (SlT (w10.alloc (.cells #[.slice a9 R.length c9, .slice a10 S.length c10] 47)) a1 M ∧ SlT (w10.alloc (.cells #[.slice a9 R.length c9, .slice a10 S.length c10] 47)) a2 L ∧ SlT (w10.alloc (.cells #[.slice a9 R.length c9, .slice a10 S.length c10] 47)) a7 P ∧ SlT (w10.alloc (.cells #[.slice a9 R.length c9, .slice a10 S.length c10] 47)) a8 Q ∧ SlT (w10.alloc (.cells #[.slice a9 R.length c9, .slice a10 S.length c10] 47)) a9 R ∧ SlT (w10.alloc (.cells #[.slice a9 R.length c9, .slice a10 S.length c10] 47)) a10 S ∧ BoxL (w10.alloc (.cells #[.slice a9 R.length c9, .slice a10 S.length c10] 47)) w10.heap.size (.slice a9 R.length c9) (.slice a10 S.length c10)) := ⟨Hall0.1.below (balloc _ _), Hall0.2.1.below (balloc _ _), Hall0.2.2.2.1.below (balloc _ _), Hall0.2.2.2.2.1.below (balloc _ _), g9.below (balloc _ _), g10.below (balloc _ _), BoxL.new _ _ _ _⟩
      clear hA9 hb10 hb10' g9 g10 HN Hall0
      go_wp2_with fail
      refine (HT2 _ a1 c1 a2 c2 a7 c7 a8 c8 Hall.out.1 Hall.out.2.1 Hall.out.2.2.1 Hall.out.2.2.2.1).mono ?_
      rintro e w11 ⟨hb11, a11, c11, a12, c12, rfl, g11, g12⟩
      have hA11 := bstep hA10 hb11
      have Hall0 : (SlT w11 a9 R ∧ SlT w11 a10 S ∧ BoxL w11 w10.heap.size (.slice a9 R.length c9) (.slice a10 S.length c10)) := ⟨Hall.out.2.2.2.2.1.below hb11, Hall.out.2.2.2.2.2.1.below hb11, Hall.out.2.2.2.2.2.2.below hb11⟩
      clear y0 y1 y2 y3 z1 z2
      have y0 := Hall0.2.2.1
      have y1 := Hall0.2.2.2
      have z1 := World.block_lt_of_cell? _ _ y0
      have Hall : Hid (SlT w11 a9 R ∧ SlT w11 a10 S ∧ SlT w11 a11 R ∧ SlT w11 a12 S) := ⟨Hall0.1, Hall0.2.1, g11, g12⟩
      clear hA10 hb11 g11 g12 HT2 Hall0
      go_wp2_with fail
      refine (SameLGood_any a9 a10 a11 a12 c9 c10 c11 c12 R S _ (Hall.out.1.below (balloc _ _)) (Hall.out.2.1.below (balloc _ _)) (Hall.out.2.2.1.below (balloc _ _)) (Hall.out.2.2.2.below (balloc _ _)) Ssc.out.1 Ssc.out.2).mono ?_
      rintro e w12 ⟨rfl, hb12⟩
      have hA12 := bstep (bstep hA11 (balloc _ _)) hb12
      go_wp2_with fail
      go_ret
      exact ⟨rfl, hA12⟩
    · have hn1 : (bothN b c == 0) = false := by simpa using hN1
      clear hN1 HTh
      generalize BtwAns b c = BA at *
      generalize bothN b c = n at *
      go_wp2_with fail
      refine (HC _ (HS.out.2.1.below hA8) (HS.out.2.2.below hA8)).mono ?_
      rintro e w9 ⟨hb9, q1, a7, c7, q2, a8, c8, rfl, _, _, _⟩
      have hA9 := bstep (bstep hA8 hb9) (balloc w9 (.cells #[.slice a7 q1.length c7, .slice a8 q2.length c8] 47))
      go_wp2_with fail
      go_ret
      exact ⟨rfl, hA9⟩
  · -- a or b is no set
    have hn1 : (bothN a b == 0) = false := by simpa using hN0
    have hor : Hid (sortedN a = 0 → ¬ sortedN b = 0) := fun h1 h2 => hN0 (bothN_zero.2 ⟨sortedN_set.1 h1, sortedN_set.1 h2⟩)
    clear hN0 HC
    generalize BtwAns a b = BA at *
    generalize bothN a b = n at *
    generalize sortedN a = na at *
    generalize sortedN b = nb at *
    go_wp2_with fail
    refine (HB _ (HS.out.1.below hA1) (HS.out.2.1.below hA1)).mono ?_
    rintro e w2 ⟨hb2, q1, a7, c7, q2, a8, c8, rfl, _, _, _⟩
    have hA2 := bstep (bstep hA1 hb2) (balloc w2 (.cells #[.slice a7 q1.length c7, .slice a8 q2.length c8] 47))
    clear HB hb2
    cases hna : (na == 0)
    · clear hor
      go_wp2_with fail
      refine (HSa _ (HS.out.1.below hA2)).mono ?_
      rintro e w3 ⟨rfl, hb3⟩
      have hA3 := bstep hA2 hb3
      go_wp2_with fail
      go_ret
      exact ⟨rfl, hA3⟩
    · have hnb : (nb == 0) = false := by have := hor.out (by simpa using hna); simpa using this
      clear hor
      go_wp2_with fail
      refine (HSa _ (HS.out.1.below hA2)).mono ?_
      rintro e w3 ⟨rfl, hb3⟩
      have hA3 := bstep hA2 hb3
      go_wp2_with fail
      refine (HSb _ (HS.out.2.1.below hA3)).mono ?_
      rintro e w4 ⟨rfl, hb4⟩
      have hA4 := bstep hA3 hb4
      go_wp2_with fail
      go_ret
      exact ⟨rfl, hA4⟩
end Go.Proofs.Ytgihagcjnjfpcac
