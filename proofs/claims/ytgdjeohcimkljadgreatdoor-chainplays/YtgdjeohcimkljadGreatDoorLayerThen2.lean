/- layer.Then: what it tells; stratasame.Layer. -/
import Derived.Test.YtgdjeohcimkljadGreatDoorLayerApply
namespace Go.Proofs.YtgdjeohcimkljadGreatDoor
open Go Go.RowKit Go.Proofs
set_option synthInstance.maxSize 1000

attribute [local go_sem] eql_errV neq_errV guard_errV

theorem threebox {w W : World} {T T' T'' : TypeId} {a0 a1 b0 b1 c0 c1 : Value} (hb : RowKit.Below (((w.alloc (.cells #[a0, a1] T)).alloc (.cells #[b0, b1] T')).alloc (.cells #[c0, c1] T'')).heap.size (((w.alloc (.cells #[a0, a1] T)).alloc (.cells #[b0, b1] T')).alloc (.cells #[c0, c1] T'')) W) :
    W.cell? ⟨w.heap.size, 0, none⟩ = some a0 ∧ W.cell? ⟨w.heap.size, 1, none⟩ = some a1 ∧ W.cell? ⟨w.heap.size + 1, 0, none⟩ = some b0 ∧ W.cell? ⟨w.heap.size + 1, 1, none⟩ = some b1 ∧ W.cell? ⟨w.heap.size + 1 + 1, 0, none⟩ = some c0 ∧ W.cell? ⟨w.heap.size + 1 + 1, 1, none⟩ = some c1 ∧ w.heap.size + 1 + 1 < W.heap.size ∧ W.frozen? ⟨w.heap.size + 1 + 1, 0, none⟩ = false ∧ W.frozen? ⟨w.heap.size + 1 + 1, 1, none⟩ = false := by
  obtain ⟨x0, x1, _, _, _⟩ := twobox1 (bstep (balloc _ _) hb)
  obtain ⟨y0, y1, _, _, _⟩ := twobox2 (bstep (balloc _ _) hb)
  have h := twobox hb
  rw [World.size_alloc, World.size_alloc] at h
  exact ⟨x0, x1, y0, y1, h.1, h.2.1, h.2.2.1, h.2.2.2.1, h.2.2.2.2⟩

set_option maxHeartbeats 4000000 in
set_option maxRecDepth 100000 in
theorem LThen_any (ad bd cd dd : Option Addr) (ca cb cc ce : Nat) (a b c d : List Tr) (w : World) (ha : SlT w ad a) (hb : SlT w bd b) (hc : SlT w cd c) (hd : SlT w dd d) (fa : ∀ x ∈ a, fitTr x) (fb : ∀ x ∈ b, fitTr x) (fc : ∀ x ∈ c, fitTr x) (fd : ∀ x ∈ d, fitTr x) (na : a.length ≤ 9223372036854775807) (nb : b.length ≤ 9223372036854775807) (nc : c.length ≤ 9223372036854775807) (nd : d.length ≤ 9223372036854775807) :
    Calls Tryz.prog 29 #[.agg #[.slice ad a.length ca, .slice bd b.length cb], .agg #[.slice cd c.length cc, .slice dd d.length ce]] w (LAns (thenN a b c d) (ThenAns a b c d) w) := by
  have H1 := fun W h1 h2 h3 h4 => follows_any ad bd cd dd ca cb cc ce a b c d W h1 h2 h3 h4 fa fb fc fd na nb nc nd
  have H2 := fun W h1 h2 h3 h4 => after_any ad bd cd dd ca cb cc ce a b c d W h1 h2 h3 h4 fa fb fc fd na nb nc nd
  have H3 := fun W h1 h2 h3 h4 => after_any bd ad dd cd cb ca ce cc b a d c W h1 h2 h3 h4 fb fa fd fc nb na nd nc
  have HS : Hid (SlT w ad a ∧ SlT w bd b ∧ SlT w cd c ∧ SlT w dd d) := ⟨ha, hb, hc, hd⟩
  have fin : Hid (thenN a b c d = orN (followsN a b c d) (orN (afterN a b c d) (afterN b a d c))) := rfl
  have f0 : Hid (∀ n, thenN a b c d = n → ¬ n = 0 → ThenAns a b c d [] []) := fun n h h0 => ⟨fun e => absurd (h.symm.trans e) h0, fun _ => ⟨rfl, rfl⟩⟩
  have f1 : Hid (∀ m1 m2, thenN a b c d = 0 → afterN a b c d = 0 → afterN b a d c = 0 → AfterAns a b c d m1 → AfterAns b a d c m2 → ThenAns a b c d m1 m2) := fun m1 m2 h h2 h3 g1 g2 => ⟨fun _ => ⟨g1.1 h2, g2.1 h3⟩, fun e => absurd h e⟩
  generalize ThenAns a b c d = TA at *
  generalize AfterAns a b c d = A1 at *
  generalize AfterAns b a d c = A2 at *
  generalize thenN a b c d = N at *
  generalize followsN a b c d = n1 at *
  generalize afterN a b c d = n2 at *
  generalize afterN b a d c = n3 at *
  clear ha hb hc hd fa fb fc fd na nb nc nd
  go_enter Tryz.func29, Tryz.ntmps29
  go_wp2_with fail
  have hS0 := bstep (bstep (balloc w (.cells #[.slice ad a.length ca, .slice bd b.length cb] 31)) (balloc _ (.cells #[.slice cd c.length cc, .slice dd d.length ce] 31))) (balloc _ (.cells #[.slice none 0 0, .slice none 0 0] 31))
  refine (H1 _ (HS.out.1.below hS0) (HS.out.2.1.below hS0) (HS.out.2.2.1.below hS0) (HS.out.2.2.2.below hS0)).mono ?_
  rintro e w1 ⟨rfl, hb1⟩
  have hB1 := bstep hS0 hb1
  clear hS0 H1
  obtain ⟨x0, x1, y0, y1, z0, z1, hz, z2, z3⟩ := threebox hb1
  cases hn1 : (n1 == 0)
  · have h0 : ¬ n1 = 0 := by simpa using hn1
    have hN := fin.out.trans (orN_neg h0)
    have F0 : Hid _ := f0.out _ hN h0
    subst hN
    clear fin f0 f1 H2 H3 h0
    go_wp2_with fail
    exact bodyPost_ret (v := .tuple #[.agg #[.slice none 0 0, .slice none 0 0], errV N]) (by unfold results; rw [Tryz.results29]; go_simp) rfl (LAns.mk (below_two hB1 (by omega) _ _) [] none 0 [] none 0 (slT_nil _ _) (slT_nil _ _) F0.out)
  · have g1 : Hid (N = orN n2 n3) := fin.out.trans (orN_pos (by simpa using hn1))
    clear fin
    go_wp2_with fail
    refine (H2 _ (HS.out.1.below hB1) (HS.out.2.1.below hB1) (HS.out.2.2.1.below hB1) (HS.out.2.2.2.below hB1)).mono ?_
    rintro e w2 ⟨hb2, q, aq, cq, rfl, hq, hA1⟩
    have hB2 := bstep hB1 hb2
    have hb2' := bstep hb1 hb2
    have Hq : Hid (SlT w2 aq q ∧ A1 q) := ⟨hq, hA1⟩
    clear x0 x1 y0 y1 z0 z1 hz z2 z3 H2 hb1 hb2 hq hA1
    obtain ⟨x0, x1, y0, y1, z0, z1, hz, z2, z3⟩ := threebox hb2'
    cases hn2 : (n2 == 0)
    · have h0 : ¬ n2 = 0 := by simpa using hn2
      have hN := g1.out.trans (orN_neg h0)
      have F0 : Hid _ := f0.out _ hN h0
      subst hN
      clear g1 f0 f1 H3 h0
      go_wp2_with fail
      exact bodyPost_ret (v := .tuple #[.agg #[.slice none 0 0, .slice none 0 0], errV N]) (by unfold results; rw [Tryz.results29]; go_simp) rfl (LAns.mk (below_two hB2 (by omega) _ _) [] none 0 [] none 0 (slT_nil _ _) (slT_nil _ _) F0.out)
    · have h2 : n2 = 0 := by simpa using hn2
      have hN := g1.out.trans (orN_pos h2)
      subst hN
      have H20 : Hid (n2 = 0) := h2
      clear g1 h2
      go_wp2_with fail
      refine (H3 _ (HS.out.2.1.below hB2) (HS.out.1.below hB2) (HS.out.2.2.2.below hB2) (HS.out.2.2.1.below hB2)).mono ?_
      rintro e w3 ⟨hb3, r, ar, cr, rfl, hr, hA2⟩
      have hB3 := bstep hB2 hb3
      have hb3' := bstep hb2' hb3
      have Hr : Hid (SlT w3 aq q ∧ SlT w3 ar r ∧ A1 q ∧ A2 r) := ⟨Hq.out.1.below hb3, hr, Hq.out.2, hA2⟩
      clear x0 x1 y0 y1 z0 z1 hz z2 z3 H3 hb2' hb3 hr hA2 Hq
      obtain ⟨x0, x1, y0, y1, z0, z1, hz, z2, z3⟩ := threebox hb3'
      cases hn3 : (N == 0)
      · have h0 : ¬ N = 0 := by simpa using hn3
        have F0 : Hid _ := f0.out _ rfl h0
        clear f0 f1 h0
        go_wp2_with fail
        exact bodyPost_ret (v := .tuple #[.agg #[.slice none 0 0, .slice none 0 0], errV N]) (by unfold results; rw [Tryz.results29]; go_simp) rfl (LAns.mk (below_two hB3 (by omega) _ _) [] none 0 [] none 0 (slT_nil _ _) (slT_nil _ _) F0.out)
      · have h0 : N = 0 := by simpa using hn3
        have F1 : Hid _ := f1.out q r h0 H20.out h0 Hr.out.2.2.1 Hr.out.2.2.2
        subst h0
        rw [show errV 0 = .nilIface from rfl]
        clear f0 f1 hn3
        go_wp2_with fail
        exact bodyPost_ret (v := .tuple #[.agg #[.slice aq q.length cq, .slice ar r.length cr], .nilIface]) (by unfold results; rw [Tryz.results29]; go_simp) rfl (LAns.mk (n := 0) (below_two hB3 (by omega) _ _) q aq cq r ar cr (Hr.out.1.put2 z0 z1 _ _) (Hr.out.2.1.put2 z0 z1 _ _) F1.out)

set_option maxHeartbeats 2000000 in
set_option maxRecDepth 100000 in
theorem SameLayer_any (ad bd cd dd : Option Addr) (ca cb cc ce : Nat) (a b c d : List Tr) (w : World) (ha : SlT w ad a) (hb : SlT w bd b) (hc : SlT w cd c) (hd : SlT w dd d) (na : a.length ≤ 1000000) (nb : b.length ≤ 1000000) (nc : c.length ≤ 1000000) (nd : d.length ≤ 1000000) :
    Calls Tryz.prog 17 #[.agg #[.slice ad a.length ca, .slice bd b.length cb], .agg #[.slice cd c.length cc, .slice dd d.length ce]] w fun e w' => e = .returned (.bool (decide (a = c) && decide (b = d))) ∧ RowKit.Below w.heap.size w w' := by
  have H1 := fun W h1 h2 => SameTriples_any ad cd ca cc a c W h1 h2 na nc
  have H2 := fun W h1 h2 => SameTriples_any bd dd cb ce b d W h1 h2 nb nd
  have HS : Hid (SlT w ad a ∧ SlT w bd b ∧ SlT w cd c ∧ SlT w dd d) := ⟨ha, hb, hc, hd⟩
  generalize decide (a = c) = p at *
  generalize decide (b = d) = q at *
  clear ha hb hc hd na nb nc nd
  go_enter Tryz.func17, Tryz.ntmps17
  go_wp2_with fail
  have hS0 := bstep (balloc w (.cells #[.slice ad a.length ca, .slice bd b.length cb] 31)) (balloc _ (.cells #[.slice cd c.length cc, .slice dd d.length ce] 31))
  refine (H1 _ (HS.out.1.below hS0) (HS.out.2.2.1.below hS0)).mono ?_
  rintro e w1 ⟨rfl, hb1⟩
  have hB1 := bstep hS0 hb1
  obtain ⟨x0, x1, _, _, _⟩ := twobox1 hb1
  obtain ⟨y0, y1, _, _, _⟩ := twobox2 hb1
  clear hS0 H1
  go_wp2_with fail
  refine (H2 _ (HS.out.2.1.below hB1) (HS.out.2.2.2.below hB1)).mono ?_
  rintro e w2 ⟨rfl, hb2⟩
  have hB2 := bstep hB1 hb2
  cases p <;> cases q
  all_goals
    go_wp2_with fail
    go_ret
    exact ⟨rfl, hB2⟩
end Go.Proofs.YtgdjeohcimkljadGreatDoor
