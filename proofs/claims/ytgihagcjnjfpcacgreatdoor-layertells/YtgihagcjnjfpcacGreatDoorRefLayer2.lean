/- The document's answer (package strataref1): Then. -/
import Derived.Test.YtgihagcjnjfpcacGreatDoorRefLayer
namespace Go.Proofs.YtgihagcjnjfpcacGreatDoor
open Go Go.RowKit Go.Proofs
set_option synthInstance.maxSize 1000

theorem rthen_keep {B B2 : Nat} {ad bd cd dd : Option Addr} {ca cb cc ce : Nat} {a b c d : List Tr} {W W' : World} (h : W.cell? ⟨B, 0, none⟩ = some (.slice ad a.length ca) ∧ W.cell? ⟨B, 1, none⟩ = some (.slice bd b.length cb) ∧ W.cell? ⟨B2, 0, none⟩ = some (.slice cd c.length cc) ∧ W.cell? ⟨B2, 1, none⟩ = some (.slice dd d.length ce) ∧ SlT W ad a ∧ SlT W bd b ∧ SlT W cd c ∧ SlT W dd d) (hb : RowKit.Below W.heap.size W W') : W'.cell? ⟨B, 0, none⟩ = some (.slice ad a.length ca) ∧ W'.cell? ⟨B, 1, none⟩ = some (.slice bd b.length cb) ∧ W'.cell? ⟨B2, 0, none⟩ = some (.slice cd c.length cc) ∧ W'.cell? ⟨B2, 1, none⟩ = some (.slice dd d.length ce) ∧ SlT W' ad a ∧ SlT W' bd b ∧ SlT W' cd c ∧ SlT W' dd d :=
  ⟨(hb.cell (World.block_lt_of_cell? W _ h.1)).trans h.1, (hb.cell (World.block_lt_of_cell? W _ h.2.1)).trans h.2.1, (hb.cell (World.block_lt_of_cell? W _ h.2.2.1)).trans h.2.2.1, (hb.cell (World.block_lt_of_cell? W _ h.2.2.2.1)).trans h.2.2.2.1, h.2.2.2.2.1.below hb, h.2.2.2.2.2.1.below hb, h.2.2.2.2.2.2.1.below hb, h.2.2.2.2.2.2.2.below hb⟩

/-- the numbers of Then, both right -/
theorem thenN_right {a b c d : List Tr} (sa : IsSet a) (sb : IsSet b) (sc : IsSet c) (sd : IsSet d) (hab : apartN a b = 0) (hcd : apartN c d = 0) :
    thenN a b c d = if (bothL a c).length = 0 ∧ (bothL b d).length = 0 then (if (lessL a d).length + (lessL (lessL c b) (lessL a d)).length ≤ 200 ∧ (lessL b c).length + (lessL (lessL d a) (lessL b c)).length ≤ 200 then 0 else 4) else 7 := by
  unfold thenN followsN afterN swapN joinN
  rw [orN_pos hab, orN_pos hcd]
  unfold apartN
  rw [orN_pos (bothN_zero.2 ⟨sa, sc⟩), orN_pos (bothN_zero.2 ⟨sb, sd⟩), orN_pos (bothN_zero.2 ⟨sc, sb⟩), orN_pos (bothN_zero.2 ⟨sa, sd⟩), orN_pos (bothN_zero.2 ⟨sd, sa⟩), orN_pos (bothN_zero.2 ⟨sb, sc⟩), if_pos (bothN_zero.2 ⟨lessSet sa, lessSet sc⟩), if_pos (bothN_zero.2 ⟨lessSet sb, lessSet sd⟩)]
  generalize (bothL a c).length = x1
  generalize (bothL b d).length = x2
  generalize (lessL a d).length + (lessL (lessL c b) (lessL a d)).length = k1
  generalize (lessL b c).length + (lessL (lessL d a) (lessL b c)).length = k2
  by_cases h1 : x1 = 0 <;> by_cases h2 : x2 = 0 <;> by_cases h3 : k1 ≤ 200 <;> by_cases h4 : k2 ≤ 200 <;> simp [orN, h1, h2, h3, h4]

set_option maxHeartbeats 8000000 in
set_option maxRecDepth 100000 in
theorem RThen_any (ad bd cd dd : Option Addr) (ca cb cc ce : Nat) (a b c d : List Tr) (w : World) (ha : SlT w ad a) (hb : SlT w bd b) (hc : SlT w cd c) (hd : SlT w dd d) (sa : IsSet a) (sb : IsSet b) (sc : IsSet c) (sd : IsSet d) (hab : apartN a b = 0) (hcd : apartN c d = 0) :
    Calls Tryz.prog 26 #[.agg #[.slice ad a.length ca, .slice bd b.length cb], .agg #[.slice cd c.length cc, .slice dd d.length ce]] w (RLAns (thenN a b c d) (ThenAns a b c d) w) := by
  have HS : Hid (SlT w ad a ∧ SlT w bd b ∧ SlT w cd c ∧ SlT w dd d) := ⟨ha, hb, hc, hd⟩
  have H1 := fun W h1 h2 => RBoth_any ad cd ca cc a c W h1 h2 sa.1 sc.1
  have H2 := fun W h1 h2 => RBoth_any bd dd cb ce b d W h1 h2 sb.1 sd.1
  have H3 := fun (W : World) (h : W.cell? ⟨w.heap.size, 0, none⟩ = some (.slice ad a.length ca) ∧ W.cell? ⟨w.heap.size, 1, none⟩ = some (.slice bd b.length cb) ∧ W.cell? ⟨w.heap.size + 1, 0, none⟩ = some (.slice cd c.length cc) ∧ W.cell? ⟨w.heap.size + 1, 1, none⟩ = some (.slice dd d.length ce) ∧ SlT W ad a ∧ SlT W bd b ∧ SlT W cd c ∧ SlT W dd d) => RLess_any ad dd ca ce a d W h.2.2.2.2.1 h.2.2.2.2.2.2.2 sa.1 sd.1
  have H4 := fun (W : World) (h : W.cell? ⟨w.heap.size, 0, none⟩ = some (.slice ad a.length ca) ∧ W.cell? ⟨w.heap.size, 1, none⟩ = some (.slice bd b.length cb) ∧ W.cell? ⟨w.heap.size + 1, 0, none⟩ = some (.slice cd c.length cc) ∧ W.cell? ⟨w.heap.size + 1, 1, none⟩ = some (.slice dd d.length ce) ∧ SlT W ad a ∧ SlT W bd b ∧ SlT W cd c ∧ SlT W dd d) => RLess_any cd bd cc cb c b W h.2.2.2.2.2.2.1 h.2.2.2.2.2.1 sc.1 sb.1
  have H5 := fun W al cl ar cr h1 h2 => RUnion_any al ar cl cr (lessL a d) (lessL c b) W h1 h2 (lenLess sa.1) (lenLess sc.1)
  have H6 := fun (W : World) (h : W.cell? ⟨w.heap.size, 0, none⟩ = some (.slice ad a.length ca) ∧ W.cell? ⟨w.heap.size, 1, none⟩ = some (.slice bd b.length cb) ∧ W.cell? ⟨w.heap.size + 1, 0, none⟩ = some (.slice cd c.length cc) ∧ W.cell? ⟨w.heap.size + 1, 1, none⟩ = some (.slice dd d.length ce) ∧ SlT W ad a ∧ SlT W bd b ∧ SlT W cd c ∧ SlT W dd d) => RLess_any bd cd cb cc b c W h.2.2.2.2.2.1 h.2.2.2.2.2.2.1 sb.1 sc.1
  have H7 := fun (W : World) (h : W.cell? ⟨w.heap.size, 0, none⟩ = some (.slice ad a.length ca) ∧ W.cell? ⟨w.heap.size, 1, none⟩ = some (.slice bd b.length cb) ∧ W.cell? ⟨w.heap.size + 1, 0, none⟩ = some (.slice cd c.length cc) ∧ W.cell? ⟨w.heap.size + 1, 1, none⟩ = some (.slice dd d.length ce) ∧ SlT W ad a ∧ SlT W bd b ∧ SlT W cd c ∧ SlT W dd d) => RLess_any dd ad ce ca d a W h.2.2.2.2.2.2.2 h.2.2.2.2.1 sd.1 sa.1
  have H8 := fun W al cl ar cr h1 h2 => RUnion_any al ar cl cr (lessL b c) (lessL d a) W h1 h2 (lenLess sb.1) (lenLess sd.1)
  have fin : Hid (thenN a b c d = if (bothL a c).length = 0 ∧ (bothL b d).length = 0 then (if (lessL a d).length + (lessL (lessL c b) (lessL a d)).length ≤ 200 ∧ (lessL b c).length + (lessL (lessL d a) (lessL b c)).length ≤ 200 then 0 else 4) else 7) := thenN_right sa sb sc sd hab hcd
  have hlen1 : Hid (∀ m, JoinOf (lessL a d) (lessL c b) m → m.length = (lessL a d).length + (lessL (lessL c b) (lessL a d)).length) := fun m hm => hm.len (lessSet sa).2.2 (lessSet sc).2.2
  have hlen2 : Hid (∀ m, JoinOf (lessL b c) (lessL d a) m → m.length = (lessL b c).length + (lessL (lessL d a) (lessL b c)).length) := fun m hm => hm.len (lessSet sb).2.2 (lessSet sd).2.2
  have hmax1 : Hid ((lessL a d).length + (lessL (lessL c b) (lessL a d)).length ≤ 400) := by have h1 := lenLess (b := d) sa.1; have h2 := lenLess (b := lessL a d) (lenLess (b := b) sc.1); show _ ≤ _; omega
  have hmax2 : Hid ((lessL b c).length + (lessL (lessL d a) (lessL b c)).length ≤ 400) := by have h1 := lenLess (b := c) sb.1; have h2 := lenLess (b := lessL b c) (lenLess (b := a) sd.1); show _ ≤ _; omega
  have f0 : Hid (∀ n, thenN a b c d = n → ¬ n = 0 → ThenAns a b c d [] []) := fun n h h0 => ⟨fun e => absurd (h.symm.trans e) h0, fun _ => ⟨rfl, rfl⟩⟩
  have f1 : Hid (∀ m m', thenN a b c d = 0 → JoinOf (lessL a d) (lessL c b) m → JoinOf (lessL b c) (lessL d a) m' → ThenAns a b c d m m') := fun m m' h hm hm' => ⟨fun _ => ⟨hm, hm'⟩, fun e => absurd h e⟩
  have l1 := lenBoth (b := c) sa.1
  have l2 := lenBoth (b := d) sb.1
  generalize thenN a b c d = N at *
  generalize ThenAns a b c d = AA at *
  generalize JoinOf (lessL a d) (lessL c b) = J1 at *
  generalize JoinOf (lessL b c) (lessL d a) = J2 at *
  generalize (lessL a d).length + (lessL (lessL c b) (lessL a d)).length = K1 at *
  generalize (lessL b c).length + (lessL (lessL d a) (lessL b c)).length = K2 at *
  generalize bothL a c = B1 at *
  generalize bothL b d = B2 at *
  generalize lessL a d = P1 at *
  generalize lessL c b = P2 at *
  generalize lessL b c = Q1 at *
  generalize lessL d a = Q2 at *
  clear ha hb hc hd sa sb sc sd hab hcd
  go_enter Tryz.func26, Tryz.ntmps26
  go_wp2_with fail
  have hS0 := bstep (bstep (balloc w (.cells #[.slice ad a.length ca, .slice bd b.length cb] 53)) (balloc _ (.cells #[.slice cd c.length cc, .slice dd d.length ce] 53))) (balloc _ (.cells #[.slice none 0 0, .slice none 0 0] 53))
  refine (H1 _ (HS.out.1.below hS0) (HS.out.2.2.1.below hS0)).mono ?_
  rintro e w1 ⟨a1, c1, rfl, _, hb1⟩
  have hB1 := bstep hS0 hb1
  clear hS0 H1
  obtain ⟨x0, x1, y0, y1, z0, z1, hz, z2, z3⟩ := threebox hb1
  go_wp2_with fail
  refine (H2 _ (HS.out.2.1.below hB1) (HS.out.2.2.2.below hB1)).mono ?_
  rintro e w2 ⟨a2, c2, rfl, _, hb2⟩
  have hB2 := bstep hB1 hb2
  have hb2' := bstep hb1 hb2
  clear x0 x1 y0 y1 z0 z1 hz z2 z3 H2 hb1 hb2
  obtain ⟨x0, x1, y0, y1, z0, z1, hz, z2, z3⟩ := threebox hb2'
  by_cases hz0 : B1.length = 0 ∧ B2.length = 0
  · obtain ⟨hz1, hz2⟩ := hz0
    have hd1 : decide (0 < B1.length) = false := decide_eq_false (by omega)
    have hd2 : decide (0 < B2.length) = false := decide_eq_false (by omega)
    have g1 : Hid (N = (if K1 ≤ 200 ∧ K2 ≤ 200 then 0 else 4)) := by have := fin.out; rw [if_pos ⟨hz1, hz2⟩] at this; exact this
    clear hz1 hz2 fin
    go_wp2_with fail
    have za : SlT w2.drew ad a := (HS.out.1.below hB2 : SlT w2 ad a)
    have zb : SlT w2.drew bd b := (HS.out.2.1.below hB2 : SlT w2 bd b)
    have zc : SlT w2.drew cd c := (HS.out.2.2.1.below hB2 : SlT w2 cd c)
    have zd : SlT w2.drew dd d := (HS.out.2.2.2.below hB2 : SlT w2 dd d)
    go_region_held3 (fun W => W.cell? ⟨w.heap.size, 0, none⟩ = some (.slice ad a.length ca) ∧ W.cell? ⟨w.heap.size, 1, none⟩ = some (.slice bd b.length cb) ∧ W.cell? ⟨w.heap.size + 1, 0, none⟩ = some (.slice cd c.length cc) ∧ W.cell? ⟨w.heap.size + 1, 1, none⟩ = some (.slice dd d.length ce) ∧ SlT W ad a ∧ SlT W bd b ∧ SlT W cd c ∧ SlT W dd d) (first | exact rthen_keep (by assumption) hb5 | exact rthen_keep (by assumption) hb4 | exact rthen_keep (by assumption) hb3 | go_keep) (first
      | (go_at_call_of 22 ad; refine (H3 _ (by assumption)).mono ?_; rintro e w3 ⟨a3, c3, rfl, g3, hb3⟩)
      | (go_at_call_of 22 cd; refine (H4 _ (by assumption)).mono ?_; rintro e w4 ⟨a4, c4, rfl, g4, hb4⟩)
      | (go_at_call 50; refine (H5 _ a3 c3 a4 c4 (g3.below hb4) g4).mono ?_; rintro e w5 ⟨m, a5, c5, rfl, g5, hJ1, hb5⟩))
    have hB5 := bstep (bstep (bstep hB2.drew hb3) hb4) hb5
    have hb5' := bstep (bstep (bstep hb2'.drew hb3) hb4) hb5
    have Hm : Hid (SlT w5 a5 m ∧ J1 m) := ⟨g5, hJ1⟩
    clear g3 g4 g5 hJ1 za zb zc zd x0 x1 y0 y1 z0 z1 hz z2 z3 hb3 hb4 hb5 H3 H4 H5
    obtain ⟨x0, x1, y0, y1, z0, z1, hz, z2, z3⟩ := threebox hb5'
    clear hb2' hB2
    try clear_value w5
    go_wp2_with fail
    have za : SlT w5.drew ad a := (HS.out.1.below hB5 : SlT w5 ad a)
    have zb : SlT w5.drew bd b := (HS.out.2.1.below hB5 : SlT w5 bd b)
    have zc : SlT w5.drew cd c := (HS.out.2.2.1.below hB5 : SlT w5 cd c)
    have zd : SlT w5.drew dd d := (HS.out.2.2.2.below hB5 : SlT w5 dd d)
    go_region_held3 (fun W => W.cell? ⟨w.heap.size, 0, none⟩ = some (.slice ad a.length ca) ∧ W.cell? ⟨w.heap.size, 1, none⟩ = some (.slice bd b.length cb) ∧ W.cell? ⟨w.heap.size + 1, 0, none⟩ = some (.slice cd c.length cc) ∧ W.cell? ⟨w.heap.size + 1, 1, none⟩ = some (.slice dd d.length ce) ∧ SlT W ad a ∧ SlT W bd b ∧ SlT W cd c ∧ SlT W dd d) (first | exact rthen_keep (by assumption) hb8 | exact rthen_keep (by assumption) hb7 | exact rthen_keep (by assumption) hb6 | go_keep) (first
      | (go_at_call_of 22 bd; refine (H6 _ (by assumption)).mono ?_; rintro e w6 ⟨a6, c6, rfl, g6, hb6⟩)
      | (go_at_call_of 22 dd; refine (H7 _ (by assumption)).mono ?_; rintro e w7 ⟨a7, c7, rfl, g7, hb7⟩)
      | (go_at_call 50; refine (H8 _ a6 c6 a7 c7 (g6.below hb7) g7).mono ?_; rintro e w8 ⟨m', a8, c8, rfl, g8, hJ2, hb8⟩))
    have h58 := bstep (bstep (bstep (RowKit.Below.refl w5.heap.size w5).drew hb6) hb7) hb8
    have hB8 := bstep hB5 h58
    have hb8' := bstep hb5' h58
    have Hm2 : Hid (SlT w8 a5 m ∧ J1 m ∧ SlT w8 a8 m' ∧ J2 m') := ⟨Hm.out.1.below h58, Hm.out.2, g8, hJ2⟩
    have hK1 := hlen1.out m Hm.out.2
    have hK2 := hlen2.out m' hJ2
    have hx1 := hmax1.out
    have hx2 := hmax2.out
    clear g6 g7 g8 hJ2 za zb zc zd x0 x1 y0 y1 z0 z1 hz z2 z3 hb6 hb7 hb8 H6 H7 H8 h58 Hm hb5' hB5 hlen1 hlen2 hmax1 hmax2
    obtain ⟨x0, x1, y0, y1, z0, z1, hz, z2, z3⟩ := threebox hb8'
    by_cases hk : K1 ≤ 200 ∧ K2 ≤ 200
    · have hN : N = 0 := by have := g1.out; rw [if_pos hk] at this; exact this
      have F1 : Hid _ := f1.out m m' hN Hm2.out.2.1 Hm2.out.2.2.2
      have hd3 : decide ((m.length : Int) > 200) = false := decide_eq_false (by omega)
      have hd4 : decide ((m'.length : Int) > 200) = false := decide_eq_false (by omega)
      have hm4 : m.length ≤ 400 := by omega
      have hm5 : m'.length ≤ 400 := by omega
      subst hN
      clear hk g1 hK1 hK2 f0 f1 hx1 hx2
      go_wp2_with fail
      exact bodyPost_ret (v := .tuple #[.agg #[.slice a5 m.length c5, .slice a8 m'.length c8], .int .i64 0]) (by unfold results; rw [Tryz.results26]; go_simp) rfl (RLAns.mk (below_two hB8 (by omega) _ _) m a5 c5 m' a8 c8 (Hm2.out.1.put2 z0 z1 _ _) (Hm2.out.2.2.1.put2 z0 z1 _ _) F1.out)
    · have hN : N = 4 := by have := g1.out; rw [if_neg hk] at this; exact this
      have F0 : Hid _ := f0.out _ hN (by decide)
      have hm4 : m.length ≤ 400 := by omega
      have hm5 : m'.length ≤ 400 := by omega
      subst hN
      by_cases hk1 : 200 < m.length
      · have hd3 : decide ((m.length : Int) > 200) = true := decide_eq_true (by omega)
        clear hk hk1 g1 hK1 hK2 f0 f1 hx1 hx2
        go_wp2_with fail
        exact bodyPost_ret (v := .tuple #[.agg #[.slice none 0 0, .slice none 0 0], .int .i64 4]) (by unfold results; rw [Tryz.results26]; go_simp) rfl (RLAns.mk (below_two hB8 (by omega) _ _) [] none 0 [] none 0 (slT_nil _ _) (slT_nil _ _) F0.out)
      · have hd3 : decide ((m.length : Int) > 200) = false := decide_eq_false (by omega)
        have hd4 : decide ((m'.length : Int) > 200) = true := decide_eq_true (by omega)
        clear hk hk1 g1 hK1 hK2 f0 f1 hx1 hx2
        go_wp2_with fail
        exact bodyPost_ret (v := .tuple #[.agg #[.slice none 0 0, .slice none 0 0], .int .i64 4]) (by unfold results; rw [Tryz.results26]; go_simp) rfl (RLAns.mk (below_two hB8 (by omega) _ _) [] none 0 [] none 0 (slT_nil _ _) (slT_nil _ _) F0.out)
  · have hN : N = 7 := by have := fin.out; rw [if_neg hz0] at this; exact this
    have F0 : Hid _ := f0.out _ hN (by decide)
    subst hN
    clear fin f0 f1 H3 H4 H5 H6 H7 H8 hlen1 hlen2 hmax1 hmax2
    by_cases hk1 : 0 < B1.length
    · have hd1 : decide (0 < B1.length) = true := decide_eq_true (by omega)
      clear hz0 hk1
      go_wp2_with fail
      exact bodyPost_ret (v := .tuple #[.agg #[.slice none 0 0, .slice none 0 0], .int .i64 7]) (by unfold results; rw [Tryz.results26]; go_simp) rfl (RLAns.mk (below_two hB2 (by omega) _ _) [] none 0 [] none 0 (slT_nil _ _) (slT_nil _ _) F0.out)
    · have hd1 : decide (0 < B1.length) = false := decide_eq_false (by omega)
      have hd2 : decide (0 < B2.length) = true := decide_eq_true (by omega)
      clear hz0 hk1
      go_wp2_with fail
      exact bodyPost_ret (v := .tuple #[.agg #[.slice none 0 0, .slice none 0 0], .int .i64 7]) (by unfold results; rw [Tryz.results26]; go_simp) rfl (RLAns.mk (below_two hB2 (by omega) _ _) [] none 0 [] none 0 (slT_nil _ _) (slT_nil _ _) F0.out)
end Go.Proofs.YtgihagcjnjfpcacGreatDoor
