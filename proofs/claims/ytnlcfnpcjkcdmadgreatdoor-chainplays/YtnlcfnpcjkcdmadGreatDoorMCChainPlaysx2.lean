import Derived.Test.YtnlcfnpcjkcdmadGreatDoorMCChainPlaysx1
import Derived.Test.YtnlcfnpcjkcdmadGreatDoorMA0x5
import Derived.Test.YtnlcfnpcjkcdmadGreatDoorMA0x0
import Derived.LaidEql
import Derived.Stop.Asserts
import Derived.RowKitTokens
import Derived.Test.YtnlcfnpcjkcdmadGreatDoorMA0x3
import Derived.Test.YtnlcfnpcjkcdmadGreatDoorMA0x1
import Derived.Shelf.GgClosure.StringsIndexFunc
import Derived.Laws.RangeString
import Derived.Laws.RangeAny

/- The document's answer (package strataref1): Then. -/
namespace Go.Proofs.YtnlcfnpcjkcdmadGreatDoor
open Go Go.RowKit Go.Proofs
set_option synthInstance.maxSize 1000

theorem rthen_keep {B B2 : Nat} {ad bd cd dd : Option Addr} {ca cb cc ce : Nat} {a b c d : List Tr} {W W' : World} (h : W.cell? ⟨B, 0, none⟩ = some (.slice ad a.length ca) ∧ W.cell? ⟨B, 1, none⟩ = some (.slice bd b.length cb) ∧ W.cell? ⟨B2, 0, none⟩ = some (.slice cd c.length cc) ∧ W.cell? ⟨B2, 1, none⟩ = some (.slice dd d.length ce) ∧ SlT W ad a ∧ SlT W bd b ∧ SlT W cd c ∧ SlT W dd d) (hb : RowKit.Below W.heap.size W W') : W'.cell? ⟨B, 0, none⟩ = some (.slice ad a.length ca) ∧ W'.cell? ⟨B, 1, none⟩ = some (.slice bd b.length cb) ∧ W'.cell? ⟨B2, 0, none⟩ = some (.slice cd c.length cc) ∧ W'.cell? ⟨B2, 1, none⟩ = some (.slice dd d.length ce) ∧ SlT W' ad a ∧ SlT W' bd b ∧ SlT W' cd c ∧ SlT W' dd d :=
  ⟨(hb.cell (World.block_lt_of_cell? W _ h.1)).trans h.1, (hb.cell (World.block_lt_of_cell? W _ h.2.1)).trans h.2.1, (hb.cell (World.block_lt_of_cell? W _ h.2.2.1)).trans h.2.2.1, (hb.cell (World.block_lt_of_cell? W _ h.2.2.2.1)).trans h.2.2.2.1, h.2.2.2.2.1.below hb, h.2.2.2.2.2.1.below hb, h.2.2.2.2.2.2.1.below hb, h.2.2.2.2.2.2.2.below hb⟩

/-- the numbers of Then, both right -/
theorem thenN_right {a b c d : List Tr} (sa : IsSet a) (sb : IsSet b) (sc : IsSet c) (sd : IsSet d) (hab : apartN a b = 0) (hcd : apartN c d = 0) :
    thenN a b c d = if (bothL a c).length = 0 ∧ (bothL b d).length = 0 then (if (lessL a d).length + (lessL (lessL c b) (lessL a d)).length ≤ 200 ∧ (lessL b c).length + (lessL (lessL d a) (lessL b c)).length ≤ 200 then 0 else 4) else 7 := by
  unfold thenN followsN afterN swapN joinN
  rw [orN_pos hab, orN_pos hcd]
  unfold apartN
  rw [orN_pos (bothN_zero.2 ⟨sa, sc⟩), orN_pos (bothN_zero.2 ⟨sb, sd⟩), orN_pos (bothN_zero.2 ⟨sc, sb⟩), orN_pos (bothN_zero.2 ⟨sa, sd⟩), orN_pos (bothN_zero.2 ⟨sd, sa⟩), orN_pos (bothN_zero.2 ⟨sb, sc⟩), if_pos (bothN_zero.2 ⟨lessSet sa, lessSet sc⟩), if_pos (bothN_zero.2 ⟨lessSet sb, lessSet sd⟩)]
  generalize (bothL a c).length = x1
  generalize (bothL b d).length = x2
  generalize (lessL a d).length + (lessL (lessL c b) (lessL a d)).length = k1
  generalize (lessL b c).length + (lessL (lessL d a) (lessL b c)).length = k2
  by_cases h1 : x1 = 0 <;> by_cases h2 : x2 = 0 <;> by_cases h3 : k1 ≤ 200 <;> by_cases h4 : k2 ≤ 200 <;> simp [orN, h1, h2, h3, h4]

set_option maxHeartbeats 8000000 in
set_option maxRecDepth 100000 in
theorem RThen_any (ad bd cd dd : Option Addr) (ca cb cc ce : Nat) (a b c d : List Tr) (w : World) (ha : SlT w ad a) (hb : SlT w bd b) (hc : SlT w cd c) (hd : SlT w dd d) (sa : IsSet a) (sb : IsSet b) (sc : IsSet c) (sd : IsSet d) (hab : apartN a b = 0) (hcd : apartN c d = 0) :
    Calls Tryz.prog 19 #[.agg #[.slice ad a.length ca, .slice bd b.length cb], .agg #[.slice cd c.length cc, .slice dd d.length ce]] w (RLAns (thenN a b c d) (ThenAns a b c d) w) := by
  have HS : Hid (SlT w ad a ∧ SlT w bd b ∧ SlT w cd c ∧ SlT w dd d) := ⟨ha, hb, hc, hd⟩
  have H1 := fun W h1 h2 => RBoth_any ad cd ca cc a c W h1 h2 sa.1 sc.1
  have H2 := fun W h1 h2 => RBoth_any bd dd cb ce b d W h1 h2 sb.1 sd.1
  have H3 := fun (W : World) (h : W.cell? ⟨w.heap.size, 0, none⟩ = some (.slice ad a.length ca) ∧ W.cell? ⟨w.heap.size, 1, none⟩ = some (.slice bd b.length cb) ∧ W.cell? ⟨w.heap.size + 1, 0, none⟩ = some (.slice cd c.length cc) ∧ W.cell? ⟨w.heap.size + 1, 1, none⟩ = some (.slice dd d.length ce) ∧ SlT W ad a ∧ SlT W bd b ∧ SlT W cd c ∧ SlT W dd d) => RLess_any ad dd ca ce a d W h.2.2.2.2.1 h.2.2.2.2.2.2.2 sa.1 sd.1
  have H4 := fun (W : World) (h : W.cell? ⟨w.heap.size, 0, none⟩ = some (.slice ad a.length ca) ∧ W.cell? ⟨w.heap.size, 1, none⟩ = some (.slice bd b.length cb) ∧ W.cell? ⟨w.heap.size + 1, 0, none⟩ = some (.slice cd c.length cc) ∧ W.cell? ⟨w.heap.size + 1, 1, none⟩ = some (.slice dd d.length ce) ∧ SlT W ad a ∧ SlT W bd b ∧ SlT W cd c ∧ SlT W dd d) => RLess_any cd bd cc cb c b W h.2.2.2.2.2.2.1 h.2.2.2.2.2.1 sc.1 sb.1
  have H5 := fun W al cl ar cr h1 h2 => RUnion_any al ar cl cr (lessL a d) (lessL c b) W h1 h2 (lenLess sa.1) (lenLess sc.1)
  have H6 := fun (W : World) (h : W.cell? ⟨w.heap.size, 0, none⟩ = some (.slice ad a.length ca) ∧ W.cell? ⟨w.heap.size, 1, none⟩ = some (.slice bd b.length cb) ∧ W.cell? ⟨w.heap.size + 1, 0, none⟩ = some (.slice cd c.length cc) ∧ W.cell? ⟨w.heap.size + 1, 1, none⟩ = some (.slice dd d.length ce) ∧ SlT W ad a ∧ SlT W bd b ∧ SlT W cd c ∧ SlT W dd d) => RLess_any bd cd cb cc b c W h.2.2.2.2.2.1 h.2.2.2.2.2.2.1 sb.1 sc.1
  have H7 := fun (W : World) (h : W.cell? ⟨w.heap.size, 0, none⟩ = some (.slice ad a.length ca) ∧ W.cell? ⟨w.heap.size, 1, none⟩ = some (.slice bd b.length cb) ∧ W.cell? ⟨w.heap.size + 1, 0, none⟩ = some (.slice cd c.length cc) ∧ W.cell? ⟨w.heap.size + 1, 1, none⟩ = some (.slice dd d.length ce) ∧ SlT W ad a ∧ SlT W bd b ∧ SlT W cd c ∧ SlT W dd d) => RLess_any dd ad ce ca d a W h.2.2.2.2.2.2.2 h.2.2.2.2.1 sd.1 sa.1
  have H8 := fun W al cl ar cr h1 h2 => RUnion_any al ar cl cr (lessL b c) (lessL d a) W h1 h2 (lenLess sb.1) (lenLess sd.1)
  have fin : Hid (thenN a b c d = if (bothL a c).length = 0 ∧ (bothL b d).length = 0 then (if (lessL a d).length + (lessL (lessL c b) (lessL a d)).length ≤ 200 ∧ (lessL b c).length + (lessL (lessL d a) (lessL b c)).length ≤ 200 then 0 else 4) else 7) := thenN_right sa sb sc sd hab hcd
  have hlen1 : Hid (∀ m, JoinOf (lessL a d) (lessL c b) m → m.length = (lessL a d).length + (lessL (lessL c b) (lessL a d)).length) := fun m hm => hm.len (lessSet sa).2.2 (lessSet sc).2.2
  have hlen2 : Hid (∀ m, JoinOf (lessL b c) (lessL d a) m → m.length = (lessL b c).length + (lessL (lessL d a) (lessL b c)).length) := fun m hm => hm.len (lessSet sb).2.2 (lessSet sd).2.2
  have hmax1 : Hid ((lessL a d).length + (lessL (lessL c b) (lessL a d)).length ≤ 400) := by have h1 := lenLess (b := d) sa.1; have h2 := lenLess (b := lessL a d) (lenLess (b := b) sc.1); show _ ≤ _; omega
  have hmax2 : Hid ((lessL b c).length + (lessL (lessL d a) (lessL b c)).length ≤ 400) := by have h1 := lenLess (b := c) sb.1; have h2 := lenLess (b := lessL b c) (lenLess (b := a) sd.1); show _ ≤ _; omega
  have f0 : Hid (∀ n, thenN a b c d = n → ¬ n = 0 → ThenAns a b c d [] []) := fun n h h0 => ⟨fun e => absurd (h.symm.trans e) h0, fun _ => ⟨rfl, rfl⟩⟩
  have f1 : Hid (∀ m m', thenN a b c d = 0 → JoinOf (lessL a d) (lessL c b) m → JoinOf (lessL b c) (lessL d a) m' → ThenAns a b c d m m') := fun m m' h hm hm' => ⟨fun _ => ⟨hm, hm'⟩, fun e => absurd h e⟩
  have l1 := lenBoth (b := c) sa.1
  have l2 := lenBoth (b := d) sb.1
  generalize thenN a b c d = N at *
  generalize ThenAns a b c d = AA at *
  generalize JoinOf (lessL a d) (lessL c b) = J1 at *
  generalize JoinOf (lessL b c) (lessL d a) = J2 at *
  generalize (lessL a d).length + (lessL (lessL c b) (lessL a d)).length = K1 at *
  generalize (lessL b c).length + (lessL (lessL d a) (lessL b c)).length = K2 at *
  generalize bothL a c = B1 at *
  generalize bothL b d = B2 at *
  generalize lessL a d = P1 at *
  generalize lessL c b = P2 at *
  generalize lessL b c = Q1 at *
  generalize lessL d a = Q2 at *
  clear ha hb hc hd sa sb sc sd hab hcd
  go_enter Tryz.func19, Tryz.ntmps19
  go_wp2_with fail
  have hS0 := bstep (bstep (balloc w (.cells #[.slice ad a.length ca, .slice bd b.length cb] 31)) (balloc _ (.cells #[.slice cd c.length cc, .slice dd d.length ce] 31))) (balloc _ (.cells #[.slice none 0 0, .slice none 0 0] 31))
  refine (H1 _ (HS.out.1.below hS0) (HS.out.2.2.1.below hS0)).mono ?_
  rintro e w1 ⟨a1, c1, rfl, _, hb1⟩
  have hB1 := bstep hS0 hb1
  clear hS0 H1
  obtain ⟨x0, x1, y0, y1, z0, z1, hz, z2, z3⟩ := threebox hb1
  go_wp2_with fail
  refine (H2 _ (HS.out.2.1.below hB1) (HS.out.2.2.2.below hB1)).mono ?_
  rintro e w2 ⟨a2, c2, rfl, _, hb2⟩
  have hB2 := bstep hB1 hb2
  have hb2' := bstep hb1 hb2
  clear x0 x1 y0 y1 z0 z1 hz z2 z3 H2 hb1 hb2
  obtain ⟨x0, x1, y0, y1, z0, z1, hz, z2, z3⟩ := threebox hb2'
  by_cases hz0 : B1.length = 0 ∧ B2.length = 0
  · obtain ⟨hz1, hz2⟩ := hz0
    have hd1 : decide (0 < B1.length) = false := decide_eq_false (by omega)
    have hd2 : decide (0 < B2.length) = false := decide_eq_false (by omega)
    have g1 : Hid (N = (if K1 ≤ 200 ∧ K2 ≤ 200 then 0 else 4)) := by have := fin.out; rw [if_pos ⟨hz1, hz2⟩] at this; exact this
    clear hz1 hz2 fin
    go_wp2_with fail
    have za : SlT w2.drew ad a := (HS.out.1.below hB2 : SlT w2 ad a)
    have zb : SlT w2.drew bd b := (HS.out.2.1.below hB2 : SlT w2 bd b)
    have zc : SlT w2.drew cd c := (HS.out.2.2.1.below hB2 : SlT w2 cd c)
    have zd : SlT w2.drew dd d := (HS.out.2.2.2.below hB2 : SlT w2 dd d)
    go_region_held3 (fun W => W.cell? ⟨w.heap.size, 0, none⟩ = some (.slice ad a.length ca) ∧ W.cell? ⟨w.heap.size, 1, none⟩ = some (.slice bd b.length cb) ∧ W.cell? ⟨w.heap.size + 1, 0, none⟩ = some (.slice cd c.length cc) ∧ W.cell? ⟨w.heap.size + 1, 1, none⟩ = some (.slice dd d.length ce) ∧ SlT W ad a ∧ SlT W bd b ∧ SlT W cd c ∧ SlT W dd d) (first | exact rthen_keep (by assumption) hb5 | exact rthen_keep (by assumption) hb4 | exact rthen_keep (by assumption) hb3 | go_keep) (first
      | (go_at_call_of 48 ad; refine (H3 _ (by assumption)).mono ?_; rintro e w3 ⟨a3, c3, rfl, g3, hb3⟩)
      | (go_at_call_of 48 cd; refine (H4 _ (by assumption)).mono ?_; rintro e w4 ⟨a4, c4, rfl, g4, hb4⟩)
      | (go_at_call 49; refine (H5 _ a3 c3 a4 c4 (g3.below hb4) g4).mono ?_; rintro e w5 ⟨m, a5, c5, rfl, g5, hJ1, hb5⟩))
    have hB5 := bstep (bstep (bstep hB2.drew hb3) hb4) hb5
    have hb5' := bstep (bstep (bstep hb2'.drew hb3) hb4) hb5
    have Hm : Hid (SlT w5 a5 m ∧ J1 m) := ⟨g5, hJ1⟩
    clear g3 g4 g5 hJ1 za zb zc zd x0 x1 y0 y1 z0 z1 hz z2 z3 hb3 hb4 hb5 H3 H4 H5
    obtain ⟨x0, x1, y0, y1, z0, z1, hz, z2, z3⟩ := threebox hb5'
    clear hb2' hB2
    try clear_value w5
    go_wp2_with fail
    have za : SlT w5.drew ad a := (HS.out.1.below hB5 : SlT w5 ad a)
    have zb : SlT w5.drew bd b := (HS.out.2.1.below hB5 : SlT w5 bd b)
    have zc : SlT w5.drew cd c := (HS.out.2.2.1.below hB5 : SlT w5 cd c)
    have zd : SlT w5.drew dd d := (HS.out.2.2.2.below hB5 : SlT w5 dd d)
    go_region_held3 (fun W => W.cell? ⟨w.heap.size, 0, none⟩ = some (.slice ad a.length ca) ∧ W.cell? ⟨w.heap.size, 1, none⟩ = some (.slice bd b.length cb) ∧ W.cell? ⟨w.heap.size + 1, 0, none⟩ = some (.slice cd c.length cc) ∧ W.cell? ⟨w.heap.size + 1, 1, none⟩ = some (.slice dd d.length ce) ∧ SlT W ad a ∧ SlT W bd b ∧ SlT W cd c ∧ SlT W dd d) (first | exact rthen_keep (by assumption) hb8 | exact rthen_keep (by assumption) hb7 | exact rthen_keep (by assumption) hb6 | go_keep) (first
      | (go_at_call_of 48 bd; refine (H6 _ (by assumption)).mono ?_; rintro e w6 ⟨a6, c6, rfl, g6, hb6⟩)
      | (go_at_call_of 48 dd; refine (H7 _ (by assumption)).mono ?_; rintro e w7 ⟨a7, c7, rfl, g7, hb7⟩)
      | (go_at_call 49; refine (H8 _ a6 c6 a7 c7 (g6.below hb7) g7).mono ?_; rintro e w8 ⟨m', a8, c8, rfl, g8, hJ2, hb8⟩))
    have h58 := bstep (bstep (bstep (RowKit.Below.refl w5.heap.size w5).drew hb6) hb7) hb8
    have hB8 := bstep hB5 h58
    have hb8' := bstep hb5' h58
    have Hm2 : Hid (SlT w8 a5 m ∧ J1 m ∧ SlT w8 a8 m' ∧ J2 m') := ⟨Hm.out.1.below h58, Hm.out.2, g8, hJ2⟩
    have hK1 := hlen1.out m Hm.out.2
    have hK2 := hlen2.out m' hJ2
    have hx1 := hmax1.out
    have hx2 := hmax2.out
    clear g6 g7 g8 hJ2 za zb zc zd x0 x1 y0 y1 z0 z1 hz z2 z3 hb6 hb7 hb8 H6 H7 H8 h58 Hm hb5' hB5 hlen1 hlen2 hmax1 hmax2
    obtain ⟨x0, x1, y0, y1, z0, z1, hz, z2, z3⟩ := threebox hb8'
    by_cases hk : K1 ≤ 200 ∧ K2 ≤ 200
    · have hN : N = 0 := by have := g1.out; rw [if_pos hk] at this; exact this
      have F1 : Hid _ := f1.out m m' hN Hm2.out.2.1 Hm2.out.2.2.2
      have hd3 : decide ((m.length : Int) > 200) = false := decide_eq_false (by omega)
      have hd4 : decide ((m'.length : Int) > 200) = false := decide_eq_false (by omega)
      have hm4 : m.length ≤ 400 := by omega
      have hm5 : m'.length ≤ 400 := by omega
      subst hN
      clear hk g1 hK1 hK2 f0 f1 hx1 hx2
      go_wp2_with fail
      exact bodyPost_ret (v := .tuple #[.agg #[.slice a5 m.length c5, .slice a8 m'.length c8], .int .i64 0]) (by unfold results; rw [Tryz.results19]; go_simp) rfl (RLAns.mk (below_two hB8 (by omega) _ _) m a5 c5 m' a8 c8 (Hm2.out.1.put2 z0 z1 _ _) (Hm2.out.2.2.1.put2 z0 z1 _ _) F1.out)
    · have hN : N = 4 := by have := g1.out; rw [if_neg hk] at this; exact this
      have F0 : Hid _ := f0.out _ hN (by decide)
      have hm4 : m.length ≤ 400 := by omega
      have hm5 : m'.length ≤ 400 := by omega
      subst hN
      by_cases hk1 : 200 < m.length
      · have hd3 : decide ((m.length : Int) > 200) = true := decide_eq_true (by omega)
        clear hk hk1 g1 hK1 hK2 f0 f1 hx1 hx2
        go_wp2_with fail
        exact bodyPost_ret (v := .tuple #[.agg #[.slice none 0 0, .slice none 0 0], .int .i64 4]) (by unfold results; rw [Tryz.results19]; go_simp) rfl (RLAns.mk (below_two hB8 (by omega) _ _) [] none 0 [] none 0 (slT_nil _ _) (slT_nil _ _) F0.out)
      · have hd3 : decide ((m.length : Int) > 200) = false := decide_eq_false (by omega)
        have hd4 : decide ((m'.length : Int) > 200) = true := decide_eq_true (by omega)
        clear hk hk1 g1 hK1 hK2 f0 f1 hx1 hx2
        go_wp2_with fail
        exact bodyPost_ret (v := .tuple #[.agg #[.slice none 0 0, .slice none 0 0], .int .i64 4]) (by unfold results; rw [Tryz.results19]; go_simp) rfl (RLAns.mk (below_two hB8 (by omega) _ _) [] none 0 [] none 0 (slT_nil _ _) (slT_nil _ _) F0.out)
  · have hN : N = 7 := by have := fin.out; rw [if_neg hz0] at this; exact this
    have F0 : Hid _ := f0.out _ hN (by decide)
    subst hN
    clear fin f0 f1 H3 H4 H5 H6 H7 H8 hlen1 hlen2 hmax1 hmax2
    by_cases hk1 : 0 < B1.length
    · have hd1 : decide (0 < B1.length) = true := decide_eq_true (by omega)
      clear hz0 hk1
      go_wp2_with fail
      exact bodyPost_ret (v := .tuple #[.agg #[.slice none 0 0, .slice none 0 0], .int .i64 7]) (by unfold results; rw [Tryz.results19]; go_simp) rfl (RLAns.mk (below_two hB2 (by omega) _ _) [] none 0 [] none 0 (slT_nil _ _) (slT_nil _ _) F0.out)
    · have hd1 : decide (0 < B1.length) = false := decide_eq_false (by omega)
      have hd2 : decide (0 < B2.length) = true := decide_eq_true (by omega)
      clear hz0 hk1
      go_wp2_with fail
      exact bodyPost_ret (v := .tuple #[.agg #[.slice none 0 0, .slice none 0 0], .int .i64 7]) (by unfold results; rw [Tryz.results19]; go_simp) rfl (RLAns.mk (below_two hB2 (by omega) _ _) [] none 0 [] none 0 (slT_nil _ _) (slT_nil _ _) F0.out)
end Go.Proofs.YtnlcfnpcjkcdmadGreatDoor

/- The law's own list of layers: what it is in memory; append of several layers; the graph behind so many of them. -/
namespace Go.Proofs.YtnlcfnpcjkcdmadGreatDoor
open Go Go.RowKit Go.Proofs
set_option synthInstance.maxSize 1000

section
variable {P : Program} {w : World}
theorem run_append_sheets {base : Nat} {v : Value} {xs ys : List Vp} (t ty e : TypeId) (i : TypeInfo) (ht : P.underlying t = some (.slice e)) (hi : P.info? e = some i) (hz : i.zero = some (.agg #[.slice none 0 0, .slice none 0 0])) (hs : i.size = 2) (hby : i.bytes ≤ 100)
    (h : SheetV w base v xs) (hy0 : 0 < ys.length) (hyn : ys.length ≤ 1000) (hys : ∀ (j : Nat) u, (cellsL ys)[j]? = some u → slB u = true) (a : Addr) (c : Nat) (ha : ∀ (j : Nat) u, (cellsL ys)[j]? = some u → w.cell? (a.add j) = some u) (hb : base ≤ w.heap.size) (hn : xs.length ≤ 1000) :
    ∃ v' w', (Builtin.append_ #[t, t] ty #[v, .slice (some a) ys.length c]).run P w = .ok v' w' ∧ SheetV w' base v' (xs ++ ys) ∧ w.grownBy w' v.ownBlock ∧ RowsOn w w' ∧ (v'.ownBlock = v.ownBlock ∨ v'.ownBlock = some w.heap.size) := by
  have hnews : (cellsL ys).length = ys.length * i.size := by rw [hs, cellsL_len]
  have hzs : ∀ k, (Builtin.zeroCells (Value.cells (.agg #[.slice none 0 0, .slice none 0 0])) k).size = k * 2 := fun k => by rw [size_zeroCells]; rfl
  have hzz : ∀ (k j : Nat) u, (Builtin.zeroCells (Value.cells (.agg #[.slice none 0 0, .slice none 0 0])) k)[j]? = some u → slB u = true := by
    intro k j u hu
    rw [← Array.getElem?_toList, zeroCells2] at hu
    rw [List.eq_of_mem_replicate (List.mem_of_getElem? hu)]
    rfl
  have hone : ∀ u ∈ cellsL ys, u.oneCell' = true := fun u hu => by
    obtain ⟨j, hj⟩ := List.getElem?_of_mem hu
    exact sl_one (hys j u hj)
  rcases h with ⟨rfl, rfl⟩ | ⟨g, cap, rfl, hg, hlt, h⟩
  · have hr := run_append_nil (P := P) w t ty e i _ ht hi hz a ys.length c (cellsL ys) hnews ha hy0 (by omega) (by have := Nat.mul_le_mul hyn hby; omega)
    refine ⟨_, _, hr, Or.inr ⟨w.heap.size, grownCap w ys.length 0 e, by simp, hb, by simp, ?_⟩, ⟨rfl, rfl, rfl, by simp, fun k hk _ => Below.heap_alloc w.drew _ k hk⟩, RowsOn.of_below ((Below.refl _ _).drew.alloc (Nat.le_refl _) _), Or.inr rfl⟩
    have hge := grownCap_ge w ys.length 0 e
    refine Sheet.new w.drew _ e _ _ (by simp [hzs, cellsL_len]; omega) (grownCap_le_maxLen w _ 0 e (by simp [maxLen]; omega)) (by simpa using hge) (fun j u hu => ?_) (fun j u hu => ?_)
    · rw [Array.getElem?_append] at hu
      split at hu
      · exact hys j u (by simpa using hu)
      · exact hzz _ _ u hu
    · have hj := (List.getElem?_eq_some_iff.1 hu).1
      rw [Array.getElem?_append, if_pos (by simpa using hj)]
      simpa using hu
  · by_cases hroom : xs.length + ys.length ≤ cap
    · have hr := run_append_room_cells (P := P) w t ty e i ht hi g 0 xs.length cap a ys.length c (cellsL ys) hnews ha hone hroom
        (fun j hj => by rw [hs]; rw [cellsL_len] at hj; obtain ⟨a', n', c', e'⟩ := h.sl (0 + xs.length * 2 + j) (by omega); rw [e']; rfl) (fun j hj => by rw [hs]; rw [cellsL_len] at hj; exact h.free _ (by omega))
      rw [hs, Nat.zero_add] at hr
      refine ⟨_, _, hr, Or.inr ⟨g, cap, by simp, hg, by rw [setCells_size]; exact hlt, ?_⟩, grown_setCells w g _ _, fun ad l hl => h.puts _ _ (by rw [cellsL_len]; omega) hl, Or.inl rfl⟩
      refine h.write _ _ (fun u hu => by obtain ⟨j, hj⟩ := List.getElem?_of_mem hu; exact hys j u hj) (by rw [cellsL_len]; omega) _ (by simp; omega) (fun j u hu => ?_)
      rw [cellsL_app, List.getElem?_append, cellsL_len] at hu
      rw [cellsL_len]
      split at hu
      · rw [if_neg (by omega)]; exact hu
      · have hj := (List.getElem?_eq_some_iff.1 hu).1
        rw [cellsL_len] at hj
        rw [if_pos ⟨by omega, by omega⟩]
        exact hu
    · have hr := run_append_grow (P := P) w t ty e i _ ht hi hz ⟨g, 0, none⟩ xs.length cap (cellsL xs) (by rw [cellsL_len, hs]) (fun j u hu => by rw [Addr.add_lit, Nat.zero_add]; exact h.at_ j u hu) a ys.length c (cellsL ys) hnews ha (by omega) (by omega) (growslice_fits (by omega) (by have := Nat.mul_le_mul (show xs.length + ys.length ≤ 2000 by omega) hby; omega))
      have hge := grownCap_ge w (xs.length + ys.length) cap e
      refine ⟨_, _, hr, Or.inr ⟨w.heap.size, grownCap w (xs.length + ys.length) cap e, by simp, hb, by simp, ?_⟩, ⟨rfl, rfl, rfl, by simp, fun k hk _ => Below.heap_alloc w.drew _ k hk⟩, RowsOn.of_below ((Below.refl _ _).drew.alloc (Nat.le_refl _) _), Or.inr rfl⟩
      refine Sheet.new w.drew _ e _ _ (by simp [hzs, cellsL_len]; omega) (grownCap_le_maxLen w _ _ e (by simp [maxLen]; omega)) (by simpa using hge) (fun j u hu => ?_) (fun j u hu => ?_)
      · rw [Array.getElem?_append] at hu
        split at hu
        · rw [Array.getElem?_append] at hu
          split at hu
          · exact cellsL_sl h j u (by simpa using hu)
          · exact hys _ u (by simpa using hu)
        · exact hzz _ _ u hu
      · have hj := (List.getElem?_eq_some_iff.1 hu).1
        rw [cellsL_len] at hj
        simp at hj
        rw [Array.getElem?_append, if_pos (by simp [cellsL_len]; omega)]
        rw [cellsL_app] at hu
        simpa [cellsL] using hu
end

/-- the law's own list of the layers between sets -/
def MAt (W : World) (B : Nat) (vm : Value) (gs : List (List Tr)) : Prop := ∃ xm, SheetV W B vm xm ∧ LaysV W xm (stepsL gs)
theorem MAt.below {W W' : World} {B : Nat} {vm : Value} {gs : List (List Tr)} (h : MAt W B vm gs) (hb : RowKit.Below W.heap.size W W') : MAt W' B vm gs := by
  obtain ⟨xm, h1, h2⟩ := h
  exact ⟨xm, h1.below hb, h2.rows (RowsOn.of_below hb)⟩
theorem MAt.keep {W W' : World} {B : Nat} {vm : Value} {gs : List (List Tr)} (h : MAt W B vm gs) (hz : W.heap.size ≤ W'.heap.size) (hr : RowsOn W W') (hb : ∀ g, vm.ownBlock = some g → W'.heap[g]? = W.heap[g]?) : MAt W' B vm gs := by
  obtain ⟨xm, h1, h2⟩ := h
  exact ⟨xm, h1.keep hz hb, h2.rows hr⟩
theorem MAt.form {W : World} {B : Nat} {vm : Value} {gs : List (List Tr)} (h : MAt W B vm gs) : ∃ ad cap, vm = .slice ad (gs.length - 1) cap := by
  obtain ⟨xs, h, hl⟩ := h
  have e := hl.1.trans (stepsL_len _)
  rcases h with ⟨rfl, rfl⟩ | ⟨g, cap, rfl, _⟩
  · exact ⟨none, 0, by rw [← e]; rfl⟩
  · exact ⟨_, cap, by rw [← e]⟩
theorem MAt.own {W : World} {B : Nat} {vm : Value} {gs : List (List Tr)} (h : MAt W B vm gs) : ∀ g, vm.ownBlock = some g → B ≤ g ∧ g < W.heap.size := by
  obtain ⟨xs, h, _⟩ := h
  exact h.lt
theorem MAt.step {W : World} {B : Nat} {vm : Value} {gs : List (List Tr)} (h : MAt W B vm gs) {i : Nat} {g u : List Tr} (hg : gs[i]? = some g) (hu : gs[i + 1]? = some u) :
    ∃ bl cap a1 c1 a2 c2, vm = .slice (some ⟨bl, 0, none⟩) (gs.length - 1) cap ∧ i < gs.length - 1 ∧ gs.length - 1 ≤ cap ∧ W.cell? ⟨bl, i * 2, none⟩ = some (.slice a1 (lessL u g).length c1) ∧ W.cell? ⟨bl, i * 2 + 1, none⟩ = some (.slice a2 (lessL g u).length c2) ∧ SlT W a1 (lessL u g) ∧ SlT W a2 (lessL g u) := by
  obtain ⟨xs, h, hl⟩ := h
  have e := hl.1.trans (stepsL_len _)
  have hi := (List.getElem?_eq_some_iff.1 hu).1
  rcases h with ⟨rfl, rfl⟩ | ⟨bl, cap, rfl, _, _, h⟩
  · simp at e
    omega
  · have hx : i < xs.length := by rw [e]; omega
    obtain ⟨a1, c1, a2, c2, e1, q1, q2⟩ := hl.2 i xs[i] (btw g u) (List.getElem?_eq_getElem hx) (stepsL_get hg hu)
    have p0 : (cellsL xs)[i * 2]? = some (xs[i]).1 := by rw [cellsL_at, show i * 2 / 2 = i by omega, List.getElem?_eq_getElem hx]; simp
    have p1 : (cellsL xs)[i * 2 + 1]? = some (xs[i]).2 := by rw [cellsL_at, show (i * 2 + 1) / 2 = i by omega, List.getElem?_eq_getElem hx]; simp
    have c0 := h.at_ _ _ p0
    have c1' := h.at_ _ _ p1
    rw [e1] at c0 c1'
    exact ⟨bl, cap, a1, c1, a2, c2, by rw [← e], by omega, by rw [← e]; exact h.le, c0, c1', q1, q2⟩

/-- R.Apply of the layer between two sets -/
theorem RApplyGood_any (ad a1 a2 : Option Addr) (ca c1 c2 : Nat) (a b : List Tr) (w : World) (ha : SlT w ad a) (h1 : SlT w a1 (lessL b a)) (h2 : SlT w a2 (lessL a b)) (sa : IsSet a) (sb : IsSet b) :
    Calls Tryz.prog 17 #[.slice ad a.length ca, .agg #[.slice a1 (lessL b a).length c1, .slice a2 (lessL a b).length c2]] w fun e w' => RowKit.Below w.heap.size w w' ∧ ∃ a1 c1, e = .returned (.tuple #[.slice a1 b.length c1, .int .i64 0]) ∧ SlT w' a1 b := by
  have h0 := apply_btw sa sb
  refine (RApply_any ad a1 a2 ca c1 c2 a (lessL b a) (lessL a b) w ha h1 h2 sa (lessSet sb) (lessSet sa) (btw_check sa sb)).mono ?_
  rintro e w' ⟨hb', m, am, cm, rfl, hm, hA⟩
  obtain rfl := apply_btw_ans sa sb hA
  exact ⟨hb', am, cm, by rw [h0], hm⟩

set_option maxHeartbeats 4000000 in
set_option maxRecDepth 100000 in
theorem lgraph_any (sd : Option Addr) (cs B : Nat) (vm : Value) (s : List Tr) (gs : List (List Tr)) (i : Nat) (g : List Tr) (w : World) (hs : SlT w sd s) (h : MAt w B vm gs) (hset : ∀ g ∈ gs, IsSet g) (h0 : gs[0]? = some s) (hn : gs.length ≤ 1000) (hi : gs[i]? = some g) :
    Calls Tryz.prog 15 #[.slice sd s.length cs, vm, .int .i64 i] w fun e w' => RowKit.Below w.heap.size w w' ∧ ∃ a c, e = .returned (.slice a g.length c) ∧ SlT w' a g := by
  have HM : Hid (MAt w B vm gs) := h
  have hlt : i < gs.length := (List.getElem?_eq_some_iff.1 hi).1
  have Hs : Hid (SlT w sd s) := hs
  have Hi : Hid (gs[i]? = some g) := hi
  have H0 : Hid (gs[0]? = some s) := h0
  have Hset : Hid (∀ g ∈ gs, IsSet g) := hset
  obtain ⟨vad, vcap, hform⟩ := h.form
  subst hform
  have Hm : Hid (i ≤ gs.length - 1) := by show _ ≤ _; omega
  have hi9 : i ≤ 1000 := by omega
  generalize hm : gs.length - 1 = m at *
  have Hm' : Hid (gs.length - 1 = m) := hm
  clear h hs hi h0 hset hlt hn hm
  go_enter Tryz.func15, Tryz.ntmps15
  go_wp2_with fail
  go_loopw [0, 7] (fun v j wr => ∃ (k : Nat) (u : List Tr) (ad : Option Addr) (c : Nat), k ≤ i ∧ j = .int .i64 k ∧ v = .slice ad u.length c ∧ Hid (gs[k]? = some u) ∧ Hid (SlT wr ad u) ∧ Hid (RowKit.Below w.heap.size w wr)) (fun _ j wr => i - (intOf j).toNat)
  case atStart => exact ⟨0, s, sd, cs, Nat.zero_le _, rfl, rfl, H0, Hs, RowKit.Below.refl _ _⟩
  case round =>
    obtain ⟨k, u, ad, c, hk, rfl, rfl, hgk, hsu, hbr⟩ := hrel
    by_cases hki : k < i
    · have hk1 : k + 1 < gs.length := by have := Hm.out; have := Hm'.out; omega
      have hu1 : gs[k + 1]? = some gs[k + 1] := List.getElem?_eq_getElem hk1
      have su := Hset.out _ (List.mem_of_getElem? hgk.out)
      have su1 := Hset.out _ (List.mem_of_getElem? hu1)
      obtain ⟨bl, cap', a1, c1, a2, c2, e1, e5, e6, d0, d1, q1, q2⟩ := (HM.out.below hbr.out).step hgk.out hu1
      obtain ⟨e2, e3, e4⟩ := Value.slice.inj e1
      subst e2 e4
      have HA := fun W h1 h2 h4 => RApplyGood_any ad a1 a2 c c1 c2 u (gs[k + 1]'hk1) W h1 h2 h4 su su1
      have Hq : Hid (SlT wr a1 (lessL gs[k + 1] u) ∧ SlT wr a2 (lessL u gs[k + 1])) := ⟨q1, q2⟩
      have hg1 : Hid (gs[k + 1]? = some gs[k + 1]) := hu1
      clear e1 e3 e5 e6 q1 q2 su su1 hu1
      generalize gs[k + 1] = u1 at *
      generalize lessL u1 u = L1 at *
      generalize lessL u u1 = L2 at *
      have i0' : (0 : Int) ≤ (k : Int) := by omega
      have i1 : (k : Int) < (i : Int) := by omega
      have i2 : (k : Int) < (m : Int) := by have := Hm.out; omega
      go_wp2_with fail
      refine (HA _ hsu.out Hq.out.1 Hq.out.2).mono ?_
      rintro e w3 ⟨hb3, a3, c3, rfl, hs3⟩
      have Hs3 : Hid (SlT w3 a3 u1) := hs3
      have hB3 : Hid (RowKit.Below w.heap.size w w3) := bstep hbr.out hb3
      clear hs3 hb3
      go_wp2_with fail
      go_roundw
      case rel => exact ⟨k + 1, u1, a3, c3, by omega, by go_num, rfl, hg1, Hs3, hB3⟩
      case measure => simp [intOf]; omega
    · obtain rfl : k = i := by omega
      have e := hgk.out.symm.trans Hi.out
      obtain rfl := Option.some.inj e
      clear e
      go_wp2_with fail
      exact bodyPost_ret (v := .slice ad u.length c) (by simp [results, Tryz.results15, go_sem]) rfl ⟨hbr.out, ad, c, rfl, hsu.out⟩
end Go.Proofs.YtnlcfnpcjkcdmadGreatDoor

/- errors.As at a target of type api.Errno, of an error that is one; plain.Told. Go's own text is walked; the facts are on the model's entries for internal/reflectlite at this program's types. -/
namespace Go.Proofs.YtnlcfnpcjkcdmadGreatDoor
open Go Go.RowKit Go.Extern.Stop Go.Stop Go.Extern

theorem valueOfP (t : Addr) (w : World) : (ReflectliteValue.unpack (.iface 132 (.pointer (some t)))).run Tryz.prog w
    = .ok (.agg #[.pointer (some ⟨2, 132, none⟩), .pointer (some ⟨w.heap.size, 0, none⟩), .int .u64 150]) (w.alloc (.cells #[.pointer (some t)] 132)) := by kernel_rfl
theorem typeP (a : Addr) (w : World) : (ReflectliteValue.methodAny (ReflectliteValue.valueError "reflectlite.Value.Type" 0) (fun t _ _ _ => ReflectliteType.toType t) #[.agg #[.pointer (some ⟨2, 132, none⟩), .pointer (some a), .int .u64 150]]).run Tryz.prog w
    = .ok (.iface 191 (.agg #[.pointer (some ⟨2, 132, none⟩)])) w := by kernel_rfl
theorem kindP (w : World) : ((ReflectliteType.abiMethod fun t => (fun a : Nat => Value.int IntKind.u8 (a : Int)) <$> Rtype.kind t) #[.pointer (some ⟨2, 132, none⟩)]).run Tryz.prog w = .ok (.int .u8 22) w := by kernel_rfl
theorem kindE (w : World) : ((ReflectliteType.abiMethod fun t => (fun a : Nat => Value.int IntKind.u8 (a : Int)) <$> Rtype.kind t) #[.pointer (some ⟨2, 89, none⟩)]).run Tryz.prog w = .ok (.int .u8 2) w := by kernel_rfl
theorem methodKind (h : Value) (w : World) : (Go.method 368 191 (.agg #[h]) "Kind").run Tryz.prog w = .ok (193, h) w := by kernel_rfl
theorem methodElem (h : Value) (w : World) : (Go.method 368 191 (.agg #[h]) "Elem").run Tryz.prog w = .ok (203, .agg #[h]) w := by kernel_rfl
theorem methodImplements (h : Value) (w : World) : (Go.method 368 191 (.agg #[h]) "Implements").run Tryz.prog w = .ok (204, .agg #[h]) w := by kernel_rfl
theorem methodAssignableTo (h : Value) (w : World) : (Go.method 368 191 (.agg #[h]) "AssignableTo").run Tryz.prog w = .ok (201, .agg #[h]) w := by kernel_rfl
theorem rlm (z : Sem Value) (f : TypeId → Addr → Nat → Nat → Sem Value) (v : Value) :
    ReflectliteValue.method z f #[v] = (do match ← ReflectliteValue.parts v with | none => z | some (t, a, fl) => f t a fl (fl % 32)) := rfl
theorem partsP (a : Addr) (w : World) : (ReflectliteValue.parts (.agg #[.pointer (some ⟨2, 132, none⟩), .pointer (some a), .int .u64 150])).run Tryz.prog w = .ok (some (132, a, 150)) w := by kernel_rfl
theorem isNilP (a p : Addr) (W : World) (ha : W.cell? a = some (.pointer (some p))) :
    (ReflectliteValue.method (ReflectliteValue.valueError "reflectlite.Value.IsNil" 0) ReflectliteValue.isNil #[.agg #[.pointer (some ⟨2, 132, none⟩), .pointer (some a), .int .u64 150]]).run Tryz.prog W = .ok (.bool false) W := by
  rw [rlm]
  simp only [Sem.run_bind, partsP, Result.andThen]
  simp [ReflectliteValue.isNil, loadVar, isAgg, underlying, Tryz.underlying132, ha, Result.andThen]
theorem elemTP (w : World) : (ReflectliteType.method ReflectliteType.elem #[.agg #[.pointer (some ⟨2, 132, none⟩)]]).run Tryz.prog w = .ok (.iface 191 (.agg #[.pointer (some ⟨2, 89, none⟩)])) w := by kernel_rfl
theorem implementsE (w : World) : (ReflectliteType.relation "Implements" ReflectliteType.implements_ #[.agg #[.pointer (some ⟨2, 89, none⟩)], .iface 191 (.agg #[.pointer (some ⟨2, 24, none⟩)])]).run Tryz.prog w = .ok (.bool true) w := by kernel_rfl
theorem typeOfE (v : Value) (w : World) : (ReflectliteType.typeOf #[.iface 89 v]).run Tryz.prog w = .ok (.iface 191 (.agg #[.pointer (some ⟨2, 89, none⟩)])) w := by kernel_rfl
theorem assignableE (w : World) : (ReflectliteType.relation "AssignableTo" ReflectliteType.assignableTo #[.agg #[.pointer (some ⟨2, 89, none⟩)], .iface 191 (.agg #[.pointer (some ⟨2, 89, none⟩)])]).run Tryz.prog w = .ok (.bool true) w := by kernel_rfl
theorem valueOfE (n : Int) (w : World) : (ReflectliteValue.unpack (.iface 89 (.int .i64 n))).run Tryz.prog w
    = .ok (.agg #[.pointer (some ⟨2, 89, none⟩), .pointer (some ⟨w.heap.size, 0, none⟩), .int .u64 130]) (w.alloc (.cells #[.int .i64 n] 89)) := by kernel_rfl
theorem elemOfP (w : World) : (Rtype.elem? 132).run Tryz.prog w = .ok (some 89) w := by kernel_rfl
theorem mkE (p : Addr) (w : World) : (ReflectliteValue.mk 89 p ReflectliteValue.flagAddr).run Tryz.prog w = .ok (.agg #[.pointer (some ⟨2, 89, none⟩), .pointer (some p), .int .u64 386]) w := by kernel_rfl
theorem elemVP (a p : Addr) (W : World) (ha : W.cell? a = some (.pointer (some p))) :
    (ReflectliteValue.method (ReflectliteValue.valueError "reflectlite.Value.Elem" 0) ReflectliteValue.elem #[.agg #[.pointer (some ⟨2, 132, none⟩), .pointer (some a), .int .u64 150]]).run Tryz.prog W
      = .ok (.agg #[.pointer (some ⟨2, 89, none⟩), .pointer (some p), .int .u64 386]) W := by
  rw [rlm]
  simp only [Sem.run_bind, partsP, Result.andThen]
  simp [ReflectliteValue.elem, loadVar, isAgg, underlying, Tryz.underlying132, ha, Result.andThen, elemOfP, mkE]
theorem partsEa (a : Addr) (w : World) : (ReflectliteValue.parts (.agg #[.pointer (some ⟨2, 89, none⟩), .pointer (some a), .int .u64 386])).run Tryz.prog w = .ok (some (89, a, 386)) w := by kernel_rfl
theorem partsE (a : Addr) (w : World) : (ReflectliteValue.parts (.agg #[.pointer (some ⟨2, 89, none⟩), .pointer (some a), .int .u64 130])).run Tryz.prog w = .ok (some (89, a, 130)) w := by kernel_rfl
theorem directE (w : World) : (Rtype.directlyAssignable 89 89).run Tryz.prog w = .ok true w := by kernel_rfl
theorem setE (ta b : Addr) (n : Int) (old : Value) (W : World) (hb : W.cell? b = some (.int .i64 n)) (ht : W.cell? ta = some old) (hf : W.frozen? ta = false) :
    (ReflectliteValue.set #[.agg #[.pointer (some ⟨2, 89, none⟩), .pointer (some ta), .int .u64 386], .agg #[.pointer (some ⟨2, 89, none⟩), .pointer (some b), .int .u64 130]]).run Tryz.prog W
      = .ok (.tuple #[]) (W.setCell ta (.int .i64 n)) := by
  change Sem.run _ (ReflectliteValue.parts (.agg #[.pointer (some ⟨2, 89, none⟩), .pointer (some ta), .int .u64 386]) >>= fun p1 => ReflectliteValue.parts (.agg #[.pointer (some ⟨2, 89, none⟩), .pointer (some b), .int .u64 130]) >>= fun p2 => _) _ = _
  simp only [Sem.run_bind, partsEa, partsE, Result.andThen]
  simp [ReflectliteValue.flagAddr, loadVar, isAgg, underlying, Tryz.underlying89, hb, Result.andThen, directE, storeVar, Value.cells, storeCells, Addr.add]
  rw [run_store Tryz.prog W ta _ _ (by rfl)]
  simp [ht, hf]

end Go.Proofs.YtnlcfnpcjkcdmadGreatDoor

/- errors.As at a target of type api.Errno, of an error that is one: Go's own text, walked; plain.Told. -/
namespace Go.Proofs.YtnlcfnpcjkcdmadGreatDoor
open Go Go.RowKit Go.Extern.Stop Go.Stop Go.Extern

set_option maxHeartbeats 4000000 in
set_option maxRecDepth 100000 in
theorem as_hit (n : Int) (t : Addr) (old : Value) (w : World) (hg : w.cell? ⟨0, 0, none⟩ = some (.iface 191 (.agg #[.pointer (some ⟨2, 24, none⟩)]))) (ht0 : w.cell? t = some old) (hf0 : w.frozen? t = false) :
    Calls Tryz.prog 80 #[.iface 89 (.int .i64 n), .iface 132 (.pointer (some t))] w fun ev w' => ev = .returned (.bool true) ∧ w' = ((((w.alloc (.cells #[.pointer (some t)] 132)).alloc (.cells #[.pointer (some ⟨2, 132, none⟩), .pointer (some ⟨w.heap.size, 0, none⟩), .int .u64 150] 165)).alloc (.cells #[.pointer (some ⟨2, 132, none⟩), .pointer (some ⟨w.heap.size, 0, none⟩), .int .u64 150] 165)).alloc (.cells #[.int .i64 n] 89)).setCell t (.int .i64 n) := by
  have h1 := @run_callFunc_extern Tryz.prog 111 _ (fun args => ReflectliteValue.unpack (args.getD 0 (.tuple #[]))) Tryz.func111 (by kernel_rfl) (by kernel_rfl) (by kernel_rfl) (by kernel_rfl)
  have h2 := @run_callFunc_extern Tryz.prog 112 _ (ReflectliteValue.methodAny (ReflectliteValue.valueError "reflectlite.Value.Type" 0) (fun t _ _ _ => ReflectliteType.toType t)) Tryz.func112 (by kernel_rfl) (by kernel_rfl) (by kernel_rfl) (by kernel_rfl)
  have h3 := @run_callFunc_extern Tryz.prog 113 _ (ReflectliteValue.method (ReflectliteValue.valueError "reflectlite.Value.IsNil" 0) ReflectliteValue.isNil) Tryz.func113 (by kernel_rfl) (by kernel_rfl) (by kernel_rfl) (by kernel_rfl)
  have h4 := @run_callFunc_extern Tryz.prog 193 _ (ReflectliteType.abiMethod fun t => do pure (.int .u8 (← Rtype.kind t))) Tryz.func193 (by kernel_rfl) (by kernel_rfl) (by kernel_rfl) (by kernel_rfl)
  have h5 := @run_callFunc_extern Tryz.prog 203 _ (ReflectliteType.method ReflectliteType.elem) Tryz.func203 (by kernel_rfl) (by kernel_rfl) (by kernel_rfl) (by kernel_rfl)
  have h6 := @run_callFunc_extern Tryz.prog 204 _ (ReflectliteType.relation "Implements" ReflectliteType.implements_) Tryz.func204 (by kernel_rfl) (by kernel_rfl) (by kernel_rfl) (by kernel_rfl)
  have h7 := @run_callFunc_extern Tryz.prog 137 _ ReflectliteType.typeOf Tryz.func137 (by kernel_rfl) (by kernel_rfl) (by kernel_rfl) (by kernel_rfl)
  have h8 := @run_callFunc_extern Tryz.prog 201 _ (ReflectliteType.relation "AssignableTo" ReflectliteType.assignableTo) Tryz.func201 (by kernel_rfl) (by kernel_rfl) (by kernel_rfl) (by kernel_rfl)
  have h9 := @run_callFunc_extern Tryz.prog 138 _ (ReflectliteValue.method (ReflectliteValue.valueError "reflectlite.Value.Elem" 0) ReflectliteValue.elem) Tryz.func138 (by kernel_rfl) (by kernel_rfl) (by kernel_rfl) (by kernel_rfl)
  have h10 := @run_callFunc_extern Tryz.prog 139 _ ReflectliteValue.set Tryz.func139 (by kernel_rfl) (by kernel_rfl) (by kernel_rfl) (by kernel_rfl)
  have g1 := valueOfP
  have g2 := typeP
  have g3 := kindP
  have g4 := kindE
  have g5 := elemTP
  have g6 := implementsE
  have g7 := typeOfE
  have g8 := assignableE
  have g9 := valueOfE
  have m1 := methodKind
  have m2 := methodElem
  have m3 := methodImplements
  have m4 := methodAssignableTo
  have n8 := isNilP ⟨w.heap.size, 0, none⟩ t ((w.alloc (.cells #[.pointer (some t)] 132)).alloc (.cells #[.pointer (some ⟨2, 132, none⟩), .pointer (some ⟨w.heap.size, 0, none⟩), .int .u64 150] 165)) (by simp)
  have hlt : 0 < w.heap.size := by
    rcases Nat.eq_zero_or_pos w.heap.size with h0 | h
    · simp [World.cell?, h0] at hg
    · exact h
  have hg2 : ((w.alloc (.cells #[.pointer (some t)] 132)).alloc (.cells #[.pointer (some ⟨2, 132, none⟩), .pointer (some ⟨w.heap.size, 0, none⟩), .int .u64 150] 165)).cell? ⟨0, 0, none⟩ = some (.iface 191 (.agg #[.pointer (some ⟨2, 24, none⟩)])) := by
    rw [World.cell?_alloc_lt _ _ ⟨0, 0, none⟩ (by simp), World.cell?_alloc_lt _ _ ⟨0, 0, none⟩ hlt]; exact hg
  have htl : t.block < w.heap.size := by
    rcases Nat.lt_or_ge t.block w.heap.size with h | h
    · exact h
    · simp [World.cell?, Array.getElem?_eq_none h] at ht0
  have el := elemVP ⟨w.heap.size, 0, none⟩ t (((w.alloc (.cells #[.pointer (some t)] 132)).alloc (.cells #[.pointer (some ⟨2, 132, none⟩), .pointer (some ⟨w.heap.size, 0, none⟩), .int .u64 150] 165)).alloc (.cells #[.pointer (some ⟨2, 132, none⟩), .pointer (some ⟨w.heap.size, 0, none⟩), .int .u64 150] 165)) (by rw [World.cell?_alloc_lt _ _ ⟨w.heap.size, 0, none⟩ (by simp; omega)]; simp)
  have st := setE t ⟨w.heap.size + 1 + 1 + 1, 0, none⟩ n old ((((w.alloc (.cells #[.pointer (some t)] 132)).alloc (.cells #[.pointer (some ⟨2, 132, none⟩), .pointer (some ⟨w.heap.size, 0, none⟩), .int .u64 150] 165)).alloc (.cells #[.pointer (some ⟨2, 132, none⟩), .pointer (some ⟨w.heap.size, 0, none⟩), .int .u64 150] 165)).alloc (.cells #[.int .i64 n] 89))
    (by rw [World.cell?_alloc_at _ _ _ _ (by simp)]; rfl)
    (by rw [World.cell?_alloc_lt _ _ t (by simp; omega), World.cell?_alloc_lt _ _ t (by simp; omega), World.cell?_alloc_lt _ _ t (by simp; omega), World.cell?_alloc_lt _ _ t htl]; exact ht0)
    (by rw [World.frozen?_alloc_old _ _ t (by simp; omega), World.frozen?_alloc_old _ _ t (by simp; omega), World.frozen?_alloc_old _ _ t (by simp; omega), World.frozen?_alloc_old _ _ t (Nat.ne_of_lt htl)]; exact hf0)
  go_enter Tryz.func80, Tryz.ntmps80
  go_wp2
  refine wp_loop_rounds 1 ?_
  rw [rounds_succ]
  go_wp2
  go_ret
  exact ⟨rfl, rfl⟩

/-- the error type's variable, as the program lays it -/
def errVar (w : World) : Prop := w.cell? ⟨0, 0, none⟩ = some (.iface 191 (.agg #[.pointer (some ⟨2, 24, none⟩)]))

theorem errVar.below {w w' : World} (h : errVar w) (hb : Below w.heap.size w w') : errVar w' := by
  unfold errVar at *
  have hlt : 0 < w.heap.size := by
    rcases Nat.eq_zero_or_pos w.heap.size with h0 | h'
    · simp [World.cell?, h0] at h
    · exact h'
  rw [hb.cell (p := ⟨0, 0, none⟩) hlt]; exact h

theorem Told_nil (w : World) : Calls Tryz.prog 41 #[.nilIface] w fun e w' => e = .returned (.int .i64 0) ∧ Below w.heap.size w w' := by
  go_enter Tryz.func41, Tryz.ntmps41
  go_wp2
  go_ret
  exact ⟨rfl, Below.refl _ _⟩

set_option maxHeartbeats 1000000 in
theorem Told_hit (n : Int) (w : World) (hg : errVar w) : Calls Tryz.prog 41 #[.iface 89 (.int .i64 n)] w fun e w' => e = .returned (.int .i64 n) ∧ Below w.heap.size w w' := by
  have hgA := hg.below (balloc w (.cells #[.int .i64 0] 89))
  unfold errVar at hgA
  have htA : (w.alloc (.cells #[.int .i64 0] 89)).cell? ⟨w.heap.size, 0, none⟩ = some (.int .i64 0) := by simp
  have hfA : (w.alloc (.cells #[.int .i64 0] 89)).frozen? ⟨w.heap.size, 0, none⟩ = false := by simp
  go_enter Tryz.func41, Tryz.ntmps41
  go_wp2_with fail
  refine (as_hit n _ (.int .i64 0) _ hgA htA hfA).mono ?_
  rintro e w' ⟨rfl, rfl⟩
  go_wp2_with fail
  go_ret
  exact ⟨rfl, bstep (bstep (bstep (bstep (balloc _ _) (balloc _ _)) (balloc _ _)) (balloc _ _)) (balloc _ _)⟩

/-- stratasame.Error: is it the error of that number? -/
theorem SameError_any (m e : Int) (w : World) (hg : errVar w) : Calls Tryz.prog 9 #[errV m, .int .i64 e] w fun r w' => r = .returned (.bool (m == e)) ∧ Below w.heap.size w w' := by
  by_cases h : m = 0
  · subst h
    rw [show errV 0 = .nilIface from rfl]
    go_enter Tryz.func9, Tryz.ntmps9
    go_wp2_with (go_at_call 41; refine (Told_nil _).mono ?_; rintro e w1 ⟨rfl, hb⟩)
    go_ret
    exact ⟨rfl, hb⟩
  · rw [show errV m = .iface 89 (.int .i64 m) from if_neg h]
    go_enter Tryz.func9, Tryz.ntmps9
    go_wp2_with (go_at_call 41; refine (Told_hit m _ hg).mono ?_; rintro e w1 ⟨rfl, hb⟩)
    go_ret
    exact ⟨rfl, hb⟩
end Go.Proofs.YtnlcfnpcjkcdmadGreatDoor

/- What LayerTells leans on: answers that are one, their lengths, the two like. -/
namespace Go.Proofs.YtnlcfnpcjkcdmadGreatDoor
open Go Go.RowKit Go.Proofs
set_option synthInstance.maxSize 1000

theorem SwapAns.len {s o i m : List Tr} (h : SwapAns s o i m) : m.length ≤ 200 := by
  by_cases e : swapN s o i = 0
  · have h1 := h.1 e
    obtain ⟨g1, g2⟩ := orN_zero.1 e
    obtain ⟨s1, _⟩ := bothN_zero.1 g1
    unfold joinN at g2
    by_cases hb : bothN (lessL s o) i = 0
    · rw [if_pos hb] at g2
      by_cases hl : (lessL s o).length + (lessL i (lessL s o)).length ≤ 200
      · rw [h1.len (lessSet s1).2.2 (bothN_zero.1 hb).2.2.2]; exact hl
      · rw [if_neg hl] at g2; exact absurd g2 (by decide)
    · rw [if_neg hb] at g2; exact absurd g2 hb
  · rw [h.2 e]; simp
theorem ApplyAns.swap {s a b m : List Tr} (h : ApplyAns s a b m) (e : applyN s a b = 0) : SwapAns s b a m := by
  have h5 := (orN_zero.1 (orN_zero.1 (orN_zero.1 (orN_zero.1 e).2).2).2).2
  exact ⟨fun _ => h.1 e, fun e' => absurd h5 e'⟩
theorem ApplyAns.len {s a b m : List Tr} (h : ApplyAns s a b m) : m.length ≤ 200 := by
  by_cases e : applyN s a b = 0
  · exact (h.swap e).len
  · rw [h.2 e]; simp
theorem ApplyAns.same {s a b m n : List Tr} (h : ApplyAns s a b m) (k : ApplyAns s a b n) : m = n := by
  by_cases e : applyN s a b = 0
  · exact (h.1 e).unique (k.1 e)
  · rw [h.2 e, k.2 e]
theorem BtwAns.len {a b m1 m2 : List Tr} (h : BtwAns a b m1 m2) : m1.length ≤ 200 ∧ m2.length ≤ 200 := by
  by_cases e : bothN a b = 0
  · obtain ⟨rfl, rfl⟩ := h.1 e
    exact ⟨lenLess (bothN_zero.1 e).2.1, lenLess (bothN_zero.1 e).1.1⟩
  · obtain ⟨rfl, rfl⟩ := h.2 e
    simp
theorem BtwAns.same {a b m1 m2 n1 n2 : List Tr} (h : BtwAns a b m1 m2) (k : BtwAns a b n1 n2) : m1 = n1 ∧ m2 = n2 := by
  by_cases e : bothN a b = 0
  · obtain ⟨rfl, rfl⟩ := h.1 e
    obtain ⟨rfl, rfl⟩ := k.1 e
    exact ⟨rfl, rfl⟩
  · obtain ⟨rfl, rfl⟩ := h.2 e
    obtain ⟨rfl, rfl⟩ := k.2 e
    exact ⟨rfl, rfl⟩
theorem TurnAns.len {a b m1 m2 : List Tr} (h : TurnAns a b m1 m2) : m1.length ≤ 200 ∧ m2.length ≤ 200 := by
  by_cases e : apartN a b = 0
  · obtain ⟨h1, h2⟩ := h.1 e
    have h0 := bothN_zero.1 (orN_zero.1 e).1
    rw [h1, h2]
    exact ⟨h0.2.1, h0.1.1⟩
  · obtain ⟨rfl, rfl⟩ := h.2 e
    simp
theorem TurnAns.same {a b m1 m2 n1 n2 : List Tr} (h : TurnAns a b m1 m2) (k : TurnAns a b n1 n2) : m1 = n1 ∧ m2 = n2 := by
  by_cases e : apartN a b = 0
  · rw [(h.1 e).1, (h.1 e).2, (k.1 e).1, (k.1 e).2]
    exact ⟨rfl, rfl⟩
  · rw [(h.2 e).1, (h.2 e).2, (k.2 e).1, (k.2 e).2]
    exact ⟨rfl, rfl⟩
theorem afterN_len {did undid does undoes m : List Tr} (e : afterN did undid does undoes = 0) (h : JoinOf (lessL did undoes) (lessL does undid) m) : m.length ≤ 200 := by
  have h2 := (orN_zero.1 e).2
  exact SwapAns.len (s := did) (o := undoes) (i := lessL does undid) ⟨fun _ => h, fun e' => absurd h2 e'⟩
theorem ThenAns.len {a b c d m1 m2 : List Tr} (h : ThenAns a b c d m1 m2) : m1.length ≤ 200 ∧ m2.length ≤ 200 := by
  by_cases e : thenN a b c d = 0
  · obtain ⟨h1, h2⟩ := h.1 e
    have h0 := orN_zero.1 (orN_zero.1 e).2
    exact ⟨afterN_len h0.1 h1, afterN_len h0.2 h2⟩
  · obtain ⟨rfl, rfl⟩ := h.2 e
    simp
theorem ThenAns.same {a b c d m1 m2 n1 n2 : List Tr} (h : ThenAns a b c d m1 m2) (k : ThenAns a b c d n1 n2) : m1 = n1 ∧ m2 = n2 := by
  by_cases e : thenN a b c d = 0
  · exact ⟨(h.1 e).1.unique (k.1 e).1, (h.1 e).2.unique (k.1 e).2⟩
  · rw [(h.2 e).1, (h.2 e).2, (k.2 e).1, (k.2 e).2]
    exact ⟨rfl, rfl⟩

theorem SameErrorT (m : Int) (w : World) (hg : errVar w) : Calls Tryz.prog 9 #[errV m, .int .i64 m] w fun r w' => r = .returned (.bool true) ∧ RowKit.Below w.heap.size w w' := by
  have := SameError_any m m w hg
  rw [show (m == m) = true by simp] at this
  exact this
theorem SameListT (ad bd : Option Addr) (ca cb : Nat) (l m : List Tr) (w : World) (hl : SlT w ad l) (hm : SlT w bd m) (h2 : m.length ≤ 200) (e : l = m) :
    Calls Tryz.prog 20 #[.slice ad l.length ca, .slice bd m.length cb] w fun e w' => e = .returned (.bool true) ∧ RowKit.Below w.heap.size w w' := by
  have := SameTriples_any ad bd ca cb l m w hl hm (by rw [e]; omega) (by omega)
  rwa [show decide (l = m) = true by simpa using e] at this
theorem SameLayT (a1 a2 a3 a4 : Option Addr) (c1 c2 c3 c4 : Nat) (l m n k : List Tr) (w : World) (h1 : SlT w a1 l) (h2 : SlT w a2 m) (h3 : SlT w a3 n) (h4 : SlT w a4 k) (hl : n.length ≤ 200 ∧ k.length ≤ 200) (e : l = n ∧ m = k) :
    Calls Tryz.prog 18 #[.agg #[.slice a1 l.length c1, .slice a2 m.length c2], .agg #[.slice a3 n.length c3, .slice a4 k.length c4]] w fun e w' => e = .returned (.bool true) ∧ RowKit.Below w.heap.size w w' := by
  have := SameLayer_any a1 a2 a3 a4 c1 c2 c3 c4 l m n k w h1 h2 h3 h4 (by rw [e.1]; omega) (by rw [e.2]; omega) (by omega) (by omega)
  rwa [show (decide (l = n) && decide (m = k)) = true by simp [e.1, e.2]] at this

/-- a layer in a box, whatever its lists are told to be -/
def LayB (W : World) (b : Nat) (P : List Tr → List Tr → Prop) : Prop := ∃ (m1 : List Tr) (a1 : Option Addr) (c1 : Nat) (m2 : List Tr) (a2 : Option Addr) (c2 : Nat), BoxL W b (.slice a1 m1.length c1) (.slice a2 m2.length c2) ∧ SlT W a1 m1 ∧ SlT W a2 m2 ∧ P m1 m2
theorem LayB.below {W W' : World} {b : Nat} {P : List Tr → List Tr → Prop} (h : LayB W b P) (hb : RowKit.Below W.heap.size W W') : LayB W' b P := by
  obtain ⟨m1, a1, c1, m2, a2, c2, h1, h2, h3, h4⟩ := h
  exact ⟨m1, a1, c1, m2, a2, c2, h1.below hb, h2.below hb, h3.below hb, h4⟩
end Go.Proofs.YtnlcfnpcjkcdmadGreatDoor

/- Patterns in plain words: what is wrong with one, which variables it has, and whether a triple fits. -/
namespace Go.Proofs.YtnlcfnpcjkcdmadGreatDoor
open Go Go.RowKit Go.Proofs
set_option synthInstance.maxSize 1000

/-- a slot: its variable, its term; a pattern: three slots -/
abbrev Sl := List UInt8 × Tm
abbrev Pt := Sl × Sl × Sl
def tmZero : Tm := (0, [], [])
def tmChk (x : Tm) : Int := checkN x.1 x.2.1 x.2.2

/-- is a text that is not empty a variable? -/
def spellV (v : List UInt8) : Bool := decide (v.length ≤ 10) && allB letB v
/-- what is wrong with a slot; with a pattern -/
def slotN (s : Sl) : Int := if s.1 = [] then tmChk s.2 else if spellV s.1 = false then 2 else if s.2 = tmZero then 0 else 3
def varsN (p : Pt) : Int := if slotN p.1 = 0 then (if slotN p.2.1 = 0 then slotN p.2.2 else slotN p.2.1) else slotN p.1
/-- a pattern's variables, each once -/
def addV (l : List (List UInt8)) (s : Sl) : List (List UInt8) := if s.1 = [] then l else if s.1 ∈ l then l else l ++ [s.1]
def varsL (p : Pt) : List (List UInt8) := addV (addV (addV [] p.1) p.2.1) p.2.2

/-- does a triple fit? -/
def fitsB (p : Pt) (t : Tr) : Bool :=
  (if p.1.1 = [] then decide (t.1 = p.1.2) else true) &&
  ((if p.2.1.1 = [] then decide (t.2.1 = p.2.1.2) else if p.2.1.1 = p.1.1 then decide (t.2.1 = t.1) else true) &&
  (if p.2.2.1 = [] then decide (t.2.2 = p.2.2.2) else if p.2.2.1 = p.1.1 then decide (t.2.2 = t.1) else if p.2.2.1 = p.2.1.1 then decide (t.2.2 = t.2.1) else true))

/-- a rune that is no letter a to z -/
def offR (r : Nat) : Bool := decide (r < 97) || decide (122 < r)

theorem idx_off (s : ByteArray) : ∀ (f pos : Nat), s.size ≤ pos + f → (0 ≤ Lib.idxFuncFrom offR true s f pos ↔ ∃ k, ∃ h : k < s.size, pos ≤ k ∧ letB (s[k].toNat : Int) = false)
  | 0, pos, hf => by
    simp only [Lib.idxFuncFrom]
    constructor
    · intro h; omega
    · rintro ⟨k, h, hk, _⟩; omega
  | f + 1, pos, hf => by
    unfold Lib.idxFuncFrom
    by_cases hp : pos < s.size
    · rw [if_pos hp]
      by_cases hb : s[pos].toNat < 128
      · rw [decode_ascii s pos hp hb]
        simp only
        by_cases ho : offR s[pos].toNat = true
        · rw [if_pos ho]
          refine ⟨fun _ => ⟨pos, hp, Nat.le_refl _, ?_⟩, fun _ => by omega⟩
          simp [offR] at ho
          simp [letB]; omega
        · rw [if_neg ho, idx_off s f (pos + 1) (by omega)]
          constructor
          · rintro ⟨k, h, hk, e⟩; exact ⟨k, h, by omega, e⟩
          · rintro ⟨k, h, hk, e⟩
            refine ⟨k, h, ?_, e⟩
            rcases Nat.lt_or_ge pos k with hlt | hge
            · omega
            · have hkp : k = pos := by omega
              subst hkp
              simp [offR] at ho
              simp [letB] at e
              omega
      · have hh := (decode_high s pos hp (by omega)).1
        have ho : offR (Utf8.decode s pos).1 = true := by simp [offR]; omega
        rw [if_pos ho]
        refine ⟨fun _ => ⟨pos, hp, Nat.le_refl _, ?_⟩, fun _ => by omega⟩
        simp [letB]; omega
    · rw [if_neg hp]
      constructor
      · intro h; omega
      · rintro ⟨k, h, hk, _⟩; omega

theorem offAny (s : ByteArray) : decide (0 ≤ Lib.idxFunc offR true s) = !allB letB s.data.toList := by
  have h := idx_off s s.size 0 (by omega)
  have e : (∃ k, ∃ h : k < s.size, 0 ≤ k ∧ letB (s[k].toNat : Int) = false) ↔ allB letB s.data.toList = false := by
    unfold allB
    rw [List.all_eq_false]
    constructor
    · rintro ⟨k, hk, _, e⟩
      exact ⟨s.data.toList[k]'(by simpa using hk), List.getElem_mem _, by rw [show s.data.toList[k]'(by simpa using hk) = s[k] from rfl, e]; simp⟩
    · rintro ⟨x, hx, e⟩
      obtain ⟨k, hk, rfl⟩ := List.getElem_of_mem hx
      have hk' : k < s.size := by simpa using hk
      exact ⟨k, hk', Nat.zero_le _, by rw [show s[k] = s.data.toList[k] from rfl]; simpa using e⟩
  unfold Lib.idxFunc
  cases ha : allB letB s.data.toList
  · simpa using h.2 (e.2 ha)
  · have : ¬ (0 ≤ Lib.idxFuncFrom offR true s s.size 0) := fun h0 => by
      have := e.1 (h.1 h0)
      rw [ha] at this
      cases this
    simp [this]
end Go.Proofs.YtnlcfnpcjkcdmadGreatDoor

/- match.isFree, spelled, slotFault, slotsOf, and slices.Contains at texts: what they tell. -/
namespace Go.Proofs.YtnlcfnpcjkcdmadGreatDoor
open Go Go.RowKit Go.Proofs
set_option synthInstance.maxSize 1000

attribute [local go_sem] eql_errV neq_errV guard_errV

def valTermM (x : Tm) : Value := .agg #[.int .i64 x.1, .string ⟨x.2.1.toArray⟩, .string ⟨x.2.2.toArray⟩]
def valSl (s : Sl) : Value := .agg #[.string ⟨s.1.toArray⟩, .int .i64 s.2.1, .string ⟨s.2.2.1.toArray⟩, .string ⟨s.2.2.2.toArray⟩]
def encPt (p : Pt) : List Value := [.string ⟨p.1.1.toArray⟩, .int .i64 p.1.2.1, .string ⟨p.1.2.2.1.toArray⟩, .string ⟨p.1.2.2.2.toArray⟩, .string ⟨p.2.1.1.toArray⟩, .int .i64 p.2.1.2.1, .string ⟨p.2.1.2.2.1.toArray⟩, .string ⟨p.2.1.2.2.2.toArray⟩, .string ⟨p.2.2.1.toArray⟩, .int .i64 p.2.2.2.1, .string ⟨p.2.2.2.2.1.toArray⟩, .string ⟨p.2.2.2.2.2.toArray⟩]
def valPt (p : Pt) : Value := .agg #[.string ⟨p.1.1.toArray⟩, .int .i64 p.1.2.1, .string ⟨p.1.2.2.1.toArray⟩, .string ⟨p.1.2.2.2.toArray⟩, .string ⟨p.2.1.1.toArray⟩, .int .i64 p.2.1.2.1, .string ⟨p.2.1.2.2.1.toArray⟩, .string ⟨p.2.1.2.2.2.toArray⟩, .string ⟨p.2.2.1.toArray⟩, .int .i64 p.2.2.2.1, .string ⟨p.2.2.2.2.1.toArray⟩, .string ⟨p.2.2.2.2.2.toArray⟩]
def fitSl (s : Sl) : Prop := s.1.length ≤ maxLen ∧ s.2.2.1.length ≤ maxLen ∧ s.2.2.2.length ≤ maxLen
def fitPt (p : Pt) : Prop := fitSl p.1 ∧ fitSl p.2.1 ∧ fitSl p.2.2

theorem eqlTerm (k : Int) (S L : List UInt8) (k' : Int) (S' L' : List UInt8) (w : World) : (binOp .eql 43 (.agg #[.int .i64 k, .string ⟨S.toArray⟩, .string ⟨L.toArray⟩]) (.agg #[.int .i64 k', .string ⟨S'.toArray⟩, .string ⟨L'.toArray⟩])).run Tryz.prog w = .ok (.bool (eqTB k S L k' S' L')) w := by
  rw [run_eql_struct, equalTerm]; rfl
theorem neqTerm (k : Int) (S L : List UInt8) (k' : Int) (S' L' : List UInt8) (w : World) : (binOp .neq 43 (.agg #[.int .i64 k, .string ⟨S.toArray⟩, .string ⟨L.toArray⟩]) (.agg #[.int .i64 k', .string ⟨S'.toArray⟩, .string ⟨L'.toArray⟩])).run Tryz.prog w = .ok (.bool (!eqTB k S L k' S' L')) w := by
  rw [run_neq_struct, equalTerm]; rfl
theorem neqTermZ (k : Int) (S L : List UInt8) (w : World) : (binOp .neq 43 (.agg #[.int .i64 k, .string ⟨S.toArray⟩, .string ⟨L.toArray⟩]) (.agg #[.int .i64 0, .string ⟨#[]⟩, .string ⟨#[]⟩])).run Tryz.prog w = .ok (.bool (!eqTB k S L 0 [] [])) w := neqTerm k S L 0 [] [] w
theorem eqTB_tm (x y : Tm) : eqTB x.1 x.2.1 x.2.2 y.1 y.2.1 y.2.2 = decide (x = y) := by
  obtain ⟨k, s, l⟩ := x
  obtain ⟨k', s', l'⟩ := y
  rw [Bool.eq_iff_iff, eqTB_iff]
  simp

theorem isVar_any (v : List UInt8) (k : Int) (S L : List UInt8) (w : World) :
    Calls Tryz.prog 118 #[.agg #[.string ⟨v.toArray⟩, .int .i64 k, .string ⟨S.toArray⟩, .string ⟨L.toArray⟩]] w fun e w' => e = .returned (.bool (!v.isEmpty)) ∧ Below w.heap.size w w' := by
  cases v
  all_goals
    go_enter Tryz.func118, Tryz.ntmps118
    go_wp2
    go_ret
    exact ⟨rfl, balloc _ _⟩

theorem offR_any (x : Nat) (w : World) : Calls Tryz.prog 157 #[.int .i32 x] w fun e w' => e = .returned (.bool (offR x)) ∧ ∃ q, w' = w.drewN q := by
  have fin : Hid (offR x = (decide (x < 97) || decide (122 < x))) := rfl
  by_cases h : x < 97
  · have h' : decide ((x : Int) < 97) = true := by simp; omega
    go_enter Tryz.func157, Tryz.ntmps157
    go_wp2
    go_ret
    exact ⟨ret_bool (by rw [fin.out]; simp [h]), 0, rfl⟩
  · have h' : decide ((x : Int) < 97) = false := by simp; omega
    go_enter Tryz.func157, Tryz.ntmps157
    go_wp2
    go_ret
    exact ⟨ret_bool (by rw [fin.out]; simp [h]; omega), 0, rfl⟩

theorem enters157 : ∀ args w, (callFunc 157 args).run Tryz.prog w = .ok (.enter 157 args) w := enters_of Tryz.func157 (by kernel_rfl) rfl

set_option maxHeartbeats 1000000 in
theorem IsVar_any (v : List UInt8) (w : World) (hv : v.length ≤ maxLen) :
    Calls Tryz.prog 141 #[.string ⟨v.toArray⟩] w fun e w' => e = .returned (.bool (!v.isEmpty && spellV v)) ∧ Below w.heap.size w w' := by
  have H := fun W => Tryz.strings_ContainsFunc 157 #[] enters157 offR ⟨v.toArray⟩ W (fun W' x _ => offR_any x W')
  have e : decide (0 ≤ Lib.idxFunc offR true ⟨v.toArray⟩) = !allB letB v := offAny ⟨v.toArray⟩
  rw [e] at H
  cases v with
  | nil =>
    clear e H
    go_enter Tryz.func141, Tryz.ntmps141
    go_wp2
    go_ret
    exact ⟨rfl, Below.refl _ _⟩
  | cons c r =>
    have fin : Hid (spellV (c :: r) = (decide (r.length + 1 ≤ 10) && allB letB (c :: r))) := rfl
    generalize allB letB (c :: r) = d at *
    clear e
    unfold maxLen at hv
    have hv' : r.length + 1 ≤ 9223372036854775807 := hv
    by_cases h : r.length + 1 ≤ 10
    · have h' : decide ((r.length : Int) + 1 ≤ 10) = true := by simp; omega
      go_enter Tryz.func141, Tryz.ntmps141
      go_wp2_with (go_at_call 156; refine (H _).mono ?_; rintro e w' ⟨rfl, hb⟩)
      go_ret
      exact ⟨ret_bool (by rw [fin.out]; simp [h]), by assumption⟩
    · have h' : decide ((r.length : Int) + 1 ≤ 10) = false := by simp; omega
      clear H
      go_enter Tryz.func141, Tryz.ntmps141
      go_wp2
      go_ret
      exact ⟨ret_bool (by rw [fin.out]; simp [h]), Below.refl _ _⟩

theorem spelledV_any (v : List UInt8) (w : World) (hv : v.length ≤ maxLen) (hne : v ≠ []) :
    Calls Tryz.prog 141 #[.string ⟨v.toArray⟩] w fun e w' => e = .returned (.bool (spellV v)) ∧ Below w.heap.size w w' := by
  have := IsVar_any v w hv
  rw [show (!v.isEmpty) = true by cases v with | nil => exact absurd rfl hne | cons c r => rfl, Bool.true_and] at this
  exact this
end Go.Proofs.YtnlcfnpcjkcdmadGreatDoor

/- match.slotFault, slotsOf, termsOf; slices.Contains at texts. -/
namespace Go.Proofs.YtnlcfnpcjkcdmadGreatDoor
open Go Go.RowKit Go.Proofs
set_option synthInstance.maxSize 1000

attribute [local go_sem] eql_errV neq_errV guard_errV
attribute [local go_sem ↓] neqTermZ

theorem fourbox {w W : World} {T : TypeId} {a0 a1 a2 a3 : Value} (hb : Below (w.alloc (.cells #[a0, a1, a2, a3] T)).heap.size (w.alloc (.cells #[a0, a1, a2, a3] T)) W) :
    W.cell? ⟨w.heap.size, 0, none⟩ = some a0 ∧ W.cell? ⟨w.heap.size, 1, none⟩ = some a1 ∧ W.cell? ⟨w.heap.size, 2, none⟩ = some a2 ∧ W.cell? ⟨w.heap.size, 3, none⟩ = some a3 ∧ w.heap.size < W.heap.size := by
  obtain ⟨h, _⟩ := bcell hb
  have hs := hb.size
  refine ⟨?_, ?_, ?_, ?_, by simp at hs; omega⟩
  all_goals
    rw [h]
    · go_simp
    · simp <;> omega

set_option maxHeartbeats 1000000 in
theorem slotFault_any (s : Sl) (w : World) (hs : fitSl s) :
    Calls Tryz.prog 117 #[valSl s] w fun e w' => e = .returned (errV (slotN s)) ∧ Below w.heap.size w w' := by
  obtain ⟨v, k, S, L⟩ := s
  obtain ⟨hv, hS, hL⟩ := hs
  have HV := fun W => isVar_any v k S L W
  have HC := fun W => Check_any k S L W hS hL
  have HP0 := fun W => spelledV_any v W hv
  unfold valSl
  dsimp only
  cases v with
  | nil =>
    have fin : Hid (slotN ([], k, S, L) = checkN k S L) := rfl
    rw [show (!([] : List UInt8).isEmpty) = false from rfl] at HV
    clear HP0 hv hS hL
    generalize checkN k S L = c at HC fin
    go_enter Tryz.func117, Tryz.ntmps117
    go_wp2_with fail
    refine (HV _).mono ?_
    rintro e w1 ⟨rfl, hb1⟩
    obtain ⟨a0, a1, a2, a3, hz⟩ := fourbox hb1
    go_wp2_with fail
    refine (HC _).mono ?_
    rintro e w2 ⟨rfl, hb2⟩
    go_wp2_with fail
    go_ret
    exact ⟨ret_val (by rw [fin.out]; rfl), bstep (bstep (balloc _ _) hb1) hb2⟩
  | cons ch r =>
    have fin : Hid (slotN (ch :: r, k, S, L) = if spellV (ch :: r) = false then 2 else if eqTB k S L 0 [] [] = true then 0 else 3) := by
      show slotN _ = _
      unfold slotN
      rw [if_neg (by simp)]
      have := eqTB_tm (k, S, L) tmZero
      by_cases hz : (k, S, L) = tmZero
      · rw [decide_eq_true hz] at this
        rw [show eqTB k S L 0 [] [] = true from this]
        simp only [hz, if_true]
      · rw [decide_eq_false hz] at this
        rw [show eqTB k S L 0 [] [] = false from this]
        simp only [hz, if_false, Bool.false_eq_true]
    rw [show (!(ch :: r).isEmpty) = true from rfl] at HV
    have HP := fun W => HP0 W (by simp)
    clear HP0 HC hv hS hL
    generalize spellV (ch :: r) = d at HP fin
    cases d
    · go_enter Tryz.func117, Tryz.ntmps117
      go_wp2_with fail
      refine (HV _).mono ?_
      rintro e w1 ⟨rfl, hb1⟩
      obtain ⟨a0, a1, a2, a3, hz⟩ := fourbox hb1
      go_wp2_with fail
      refine (HP _).mono ?_
      rintro e w2 ⟨rfl, hb2⟩
      go_wp2_with fail
      go_ret
      exact ⟨ret_val (by rw [fin.out]; rfl), bstep (bstep (balloc _ _) hb1) hb2⟩
    · cases hq : eqTB k S L 0 [] []
      all_goals
        go_enter Tryz.func117, Tryz.ntmps117
        go_wp2_with fail
        refine (HV _).mono ?_
        rintro e w1 ⟨rfl, hb1⟩
        obtain ⟨a0, a1, a2, a3, hz⟩ := fourbox hb1
        go_wp2_with fail
        refine (HP _).mono ?_
        rintro e w2 ⟨rfl, hb2⟩
        have b1 := (hb2.cell (World.block_lt_of_cell? w1 _ a1)).trans a1
        have b2 := (hb2.cell (World.block_lt_of_cell? w1 _ a2)).trans a2
        have b3 := (hb2.cell (World.block_lt_of_cell? w1 _ a3)).trans a3
        clear a0 a1 a2 a3
        go_wp2_with fail
        go_ret
        exact ⟨ret_val (by rw [fin.out, hq]; rfl), bstep (bstep (balloc _ _) hb1) hb2⟩

theorem slotsOf_any (p : Pt) (w : World) : Calls Tryz.prog 116 #[valPt p] w fun e w' => e = .returned (valPt p) ∧ Below w.heap.size w w' := by
  unfold valPt
  go_enter Tryz.func116, Tryz.ntmps116
  go_wp2_with fail
  refine bodyPost_ret (v := .agg (encPt p).toArray) (by unfold results; rw [Tryz.results116]; unfold encPt; go_simp) rfl ⟨rfl, ?_⟩
  exact bstep (balloc _ _) (balloc _ _)

theorem termsOf_any (x : Tr) (w : World) : Calls Tryz.prog 121 #[valTr x] w fun e w' => e = .returned (valTr x) ∧ Grew w w' := by
  unfold valTr
  go_enter Tryz.func121, Tryz.ntmps121
  go_wp2_with fail
  refine bodyPost_ret (v := .agg (encTr x).toArray) (by unfold results; rw [Tryz.results121]; unfold encTr; go_simp) rfl ⟨rfl, ?_⟩
  exact (grew_alloc _ _).trans (grew_alloc _ _)

/-! ### texts in a row -/
def encV (v : List UInt8) : Value := .string ⟨v.toArray⟩
def SlV (w : World) (ad : Option Addr) (l : List (List UInt8)) : Prop := l ≠ [] → ∃ b, ad = some ⟨b, 0, none⟩ ∧ ∀ j (hj : j < l.length), w.cell? ⟨b, j, none⟩ = some (encV l[j])
theorem own_v {W : World} {base : Nat} {v : Value} {t : List (List UInt8)} (h : W.ownsRow base 9 1 v t.length (t.map encV)) : ∃ ad cap, v = .slice ad t.length cap ∧ SlV W ad t := by
  have h' := h
  rcases h.2 with ⟨rfl, h0⟩ | ⟨g, cap, cur, rfl, _⟩
  · exact ⟨none, 0, by rw [h0], fun hne => absurd (List.eq_nil_of_length_eq_zero h0) hne⟩
  · refine ⟨some ⟨g, 0, none⟩, cap, rfl, fun _ => ⟨g, rfl, fun j hj => ?_⟩⟩
    have := h'.cells (g := g) rfl j (encV t[j]) (by simp [List.getElem?_eq_getElem hj])
    rw [Addr.add_lit, Nat.zero_add] at this
    exact this
theorem SlV.below {w w' : World} {ad : Option Addr} {l : List (List UInt8)} (h : SlV w ad l) (hb : Below w.heap.size w w') : SlV w' ad l := fun hl => by
  obtain ⟨b, e, r⟩ := h hl
  exact ⟨b, e, fun j hj => (hb.cell (World.block_lt_of_cell? w _ (r j hj))).trans (r j hj)⟩

theorem ContainsV_any (ad : Option Addr) (cap : Nat) (l : List (List UInt8)) (x : List UInt8) (w : World) (h : SlV w ad l) (hn : l.length ≤ 1000000) :
    Calls Tryz.prog 119 #[.slice ad l.length cap, .string ⟨x.toArray⟩] w fun e w' => e = .returned (.bool (decide (x ∈ l))) ∧ w' = w := by
  cases hl : l with
  | nil =>
    simpa using Tryz.slices_Contains_string_empty ad cap ⟨x.toArray⟩ w
  | cons c r =>
    rw [← hl]
    obtain ⟨b, rfl, hr⟩ := h (by rw [hl]; simp)
    refine (Tryz.slices_Contains_string b 0 l.length cap (l.map fun v => ⟨v.toArray⟩) ⟨x.toArray⟩ w (by simp) (by omega) ?_).mono ?_
    · intro j hj
      have hj' : j < l.length := by simpa using hj
      rw [Nat.zero_add, hr j hj']
      simp [encV, List.getD_eq_getElem?_getD, List.getElem?_eq_getElem hj']
    · rintro e w' ⟨rfl, rfl⟩
      refine ⟨ret_bool ?_, rfl⟩
      rw [show l.length = (l.map fun v => (⟨v.toArray⟩ : ByteArray)).length by simp, List.take_length, Bool.eq_iff_iff, Lib.containsS_iff]
      simp only [List.mem_map, decide_eq_true_eq]
      constructor
      · rintro ⟨v, hv, e⟩
        have := congrArg (fun s : ByteArray => s.data.toList) e
        simp at this
        exact this ▸ hv
      · intro hx
        exact ⟨x, hx, rfl⟩
end Go.Proofs.YtnlcfnpcjkcdmadGreatDoor
