/- layer: follows, Then, Apply: what they tell. -/
import Derived.Test.YtgdjeohcimkljadGreatDoorLayerThen
import Derived.Test.YtgdjeohcimkljadGreatDoorLayerTurn
namespace Go.Proofs.YtgdjeohcimkljadGreatDoor
open Go Go.RowKit Go.Proofs
set_option synthInstance.maxSize 1000

attribute [local go_sem] eql_errV neq_errV guard_errV

set_option maxHeartbeats 4000000 in
set_option maxRecDepth 100000 in
theorem follows_any (ad bd cd dd : Option Addr) (ca cb cc ce : Nat) (a b c d : List Tr) (w : World) (ha : SlT w ad a) (hb : SlT w bd b) (hc : SlT w cd c) (hd : SlT w dd d) (fa : ∀ x ∈ a, fitTr x) (fb : ∀ x ∈ b, fitTr x) (fc : ∀ x ∈ c, fitTr x) (fd : ∀ x ∈ d, fitTr x) (na : a.length ≤ 9223372036854775807) (nb : b.length ≤ 9223372036854775807) (nc : c.length ≤ 9223372036854775807) (nd : d.length ≤ 9223372036854775807) :
    Calls Tryz.prog 53 #[.agg #[.slice ad a.length ca, .slice bd b.length cb], .agg #[.slice cd c.length cc, .slice dd d.length ce]] w fun e w' => e = .returned (errV (followsN a b c d)) ∧ RowKit.Below w.heap.size w w' := by
  have H1 := fun W h1 h2 => LCheck_any ad bd ca cb a b W h1 h2 fa fb na nb
  have H2 := fun W h1 h2 => LCheck_any cd dd cc ce c d W h1 h2 fc fd nc nd
  have H3 := fun W h1 h2 => apart_any ad cd ca cc a c W h1 h2 fa fc na nc
  have H4 := fun W h1 h2 => apart_any bd dd cb ce b d W h1 h2 fb fd nb nd
  have HS : Hid (SlT w ad a ∧ SlT w bd b ∧ SlT w cd c ∧ SlT w dd d) := ⟨ha, hb, hc, hd⟩
  have fin : Hid (followsN a b c d = orN (apartN a b) (orN (apartN c d) (orN (apartN a c) (apartN b d)))) := rfl
  generalize followsN a b c d = N at *
  generalize apartN a b = n1 at *
  generalize apartN c d = n2 at *
  generalize apartN a c = n3 at *
  generalize apartN b d = n4 at *
  clear ha hb hc hd fa fb fc fd na nb nc nd
  go_enter Tryz.func53, Tryz.ntmps53
  go_wp2_with fail
  refine (H1 _ (HS.out.1.below (bstep (balloc _ _) (balloc _ _))) (HS.out.2.1.below (bstep (balloc _ _) (balloc _ _)))).mono ?_
  rintro e w1 ⟨rfl, hb1⟩
  have hB1 := bstep (bstep (balloc _ _) (balloc _ _)) hb1
  obtain ⟨x0, x1, hz1, _, _⟩ := twobox1 hb1
  obtain ⟨y0, y1, hz2, _, _⟩ := twobox2 hb1
  clear H1
  cases hn1 : (n1 == 0)
  · have f1 : Hid (N = n1) := fin.out.trans (orN_neg (by simpa using hn1))
    clear fin H2 H3 H4
    go_wp2_with fail
    go_ret
    exact ⟨ret_val (by rw [f1.out]; rfl), hB1⟩
  · have g1 : Hid (N = orN n2 (orN n3 n4)) := fin.out.trans (orN_pos (by simpa using hn1))
    clear fin
    go_wp2_with fail
    refine (H2 _ (HS.out.2.2.1.below hB1) (HS.out.2.2.2.below hB1)).mono ?_
    rintro e w2 ⟨rfl, hb2⟩
    have hB2 := bstep hB1 hb2
    have hb2' := bstep hb1 hb2
    clear x0 x1 hz1 y0 y1 hz2 H2 hb1 hb2
    obtain ⟨x0, x1, hz1, _, _⟩ := twobox1 hb2'
    obtain ⟨y0, y1, hz2, _, _⟩ := twobox2 hb2'
    cases hn2 : (n2 == 0)
    · have f1 : Hid (N = n2) := g1.out.trans (orN_neg (by simpa using hn2))
      clear g1 H3 H4
      go_wp2_with fail
      go_ret
      exact ⟨ret_val (by rw [f1.out]; rfl), hB2⟩
    · have g2 : Hid (N = orN n3 n4) := g1.out.trans (orN_pos (by simpa using hn2))
      clear g1
      go_wp2_with fail
      refine (H3 _ (HS.out.1.below hB2) (HS.out.2.2.1.below hB2)).mono ?_
      rintro e w3 ⟨rfl, hb3⟩
      have hB3 := bstep hB2 hb3
      have hb3' := bstep hb2' hb3
      clear x0 x1 hz1 y0 y1 hz2 H3 hb2' hb3
      obtain ⟨x0, x1, hz1, _, _⟩ := twobox1 hb3'
      obtain ⟨y0, y1, hz2, _, _⟩ := twobox2 hb3'
      cases hn3 : (n3 == 0)
      · have f1 : Hid (N = n3) := g2.out.trans (orN_neg (by simpa using hn3))
        clear g2 H4
        go_wp2_with fail
        go_ret
        exact ⟨ret_val (by rw [f1.out]; rfl), hB3⟩
      · have f1 : Hid (N = n4) := g2.out.trans (orN_pos (by simpa using hn3))
        clear g2
        go_wp2_with fail
        refine (H4 _ (HS.out.2.1.below hB3) (HS.out.2.2.2.below hB3)).mono ?_
        rintro e w4 ⟨rfl, hb4⟩
        have hB4 := bstep hB3 hb4
        go_wp2_with fail
        go_ret
        exact ⟨ret_val (by rw [f1.out]; rfl), hB4⟩

set_option maxHeartbeats 4000000 in
set_option maxRecDepth 100000 in
theorem LApply_any (sd ad bd : Option Addr) (cs ca cb : Nat) (s a b : List Tr) (w : World) (hs : SlT w sd s) (ha : SlT w ad a) (hb : SlT w bd b) (fs : ∀ x ∈ s, fitTr x) (fa : ∀ x ∈ a, fitTr x) (fb : ∀ x ∈ b, fitTr x) (ns : s.length ≤ 9223372036854775807) (na : a.length ≤ 9223372036854775807) (nb : b.length ≤ 9223372036854775807) :
    Calls Tryz.prog 27 #[.slice sd s.length cs, .agg #[.slice ad a.length ca, .slice bd b.length cb]] w (Ans (applyN s a b) (ApplyAns s a b) w) := by
  have H1 := fun W h1 => Sorted_any sd cs s W h1 fs ns
  have H2 := fun W h1 h2 => LCheck_any ad bd ca cb a b W h1 h2 fa fb na nb
  have H3 := fun W h1 h2 => apart_any sd ad cs ca s a W h1 h2 fs fa ns na
  have H4 := fun W h1 h2 => within_any sd bd cs cb s b W h1 h2 fs fb ns nb
  have H5 := fun W h1 h2 h3 => swap_any sd bd ad cs cb ca s b a W h1 h2 h3 fs fb fa ns nb na
  have HS : Hid (SlT w sd s ∧ SlT w ad a ∧ SlT w bd b) := ⟨hs, ha, hb⟩
  have fin : Hid (applyN s a b = orN (sortedN s) (orN (apartN a b) (orN (apartN s a) (orN (withinN s b) (swapN s b a))))) := rfl
  have f0 : Hid (∀ n, applyN s a b = n → ¬ n = 0 → ApplyAns s a b []) := fun n h h0 => ⟨fun e => absurd (h.symm.trans e) h0, fun _ => rfl⟩
  have f1 : Hid (applyN s a b = swapN s b a → ∀ m, SwapAns s b a m → ApplyAns s a b m) := fun h m hm => ⟨fun e => hm.1 (h.symm.trans e), fun e => hm.2 (fun e' => e (h.trans e'))⟩
  generalize ApplyAns s a b = AA at *
  generalize SwapAns s b a = SA at *
  generalize applyN s a b = N at *
  generalize sortedN s = n1 at *
  generalize apartN a b = n2 at *
  generalize apartN s a = n3 at *
  generalize withinN s b = n4 at *
  generalize swapN s b a = n5 at *
  clear hs ha hb fs fa fb ns na nb
  go_enter Tryz.func27, Tryz.ntmps27
  go_wp2_with fail
  refine (H1 _ (HS.out.1.below (balloc _ _))).mono ?_
  rintro e w1 ⟨rfl, hb1⟩
  have hB1 := bstep (balloc _ _) hb1
  obtain ⟨x0, x1, hz1, _, _⟩ := twobox hb1
  clear H1
  cases hn1 : (n1 == 0)
  · have h0 : ¬ n1 = 0 := by simpa using hn1
    have hN := fin.out.trans (orN_neg h0)
    have F0 : Hid _ := f0.out _ hN h0
    subst hN
    clear fin f0 f1 H2 H3 H4 H5 h0
    go_wp2_with fail
    exact bodyPost_ret (v := .tuple #[.slice none 0 0, errV N]) (by simp [results, Tryz.results27, go_sem]) rfl (Ans.mk hB1 [] none 0 (slT_nil _ _) F0.out)
  · have g1 : Hid (N = orN n2 (orN n3 (orN n4 n5))) := fin.out.trans (orN_pos (by simpa using hn1))
    clear fin
    go_wp2_with fail
    refine (H2 _ (HS.out.2.1.below hB1) (HS.out.2.2.below hB1)).mono ?_
    rintro e w2 ⟨rfl, hb2⟩
    have hB2 := bstep hB1 hb2
    have hb2' := bstep hb1 hb2
    clear x0 x1 hz1 H2 hb1 hb2
    obtain ⟨x0, x1, hz1, _, _⟩ := twobox hb2'
    cases hn2 : (n2 == 0)
    · have h0 : ¬ n2 = 0 := by simpa using hn2
      have hN := g1.out.trans (orN_neg h0)
      have F0 : Hid _ := f0.out _ hN h0
      subst hN
      clear g1 f0 f1 H3 H4 H5 h0
      go_wp2_with fail
      exact bodyPost_ret (v := .tuple #[.slice none 0 0, errV N]) (by simp [results, Tryz.results27, go_sem]) rfl (Ans.mk hB2 [] none 0 (slT_nil _ _) F0.out)
    · have g2 : Hid (N = orN n3 (orN n4 n5)) := g1.out.trans (orN_pos (by simpa using hn2))
      clear g1
      go_wp2_with fail
      refine (H3 _ (HS.out.1.below hB2) (HS.out.2.1.below hB2)).mono ?_
      rintro e w3 ⟨rfl, hb3⟩
      have hB3 := bstep hB2 hb3
      have hb3' := bstep hb2' hb3
      clear x0 x1 hz1 H3 hb2' hb3
      obtain ⟨x0, x1, hz1, _, _⟩ := twobox hb3'
      cases hn3 : (n3 == 0)
      · have h0 : ¬ n3 = 0 := by simpa using hn3
        have hN := g2.out.trans (orN_neg h0)
        have F0 : Hid _ := f0.out _ hN h0
        subst hN
        clear g2 f0 f1 H4 H5 h0
        go_wp2_with fail
        exact bodyPost_ret (v := .tuple #[.slice none 0 0, errV N]) (by simp [results, Tryz.results27, go_sem]) rfl (Ans.mk hB3 [] none 0 (slT_nil _ _) F0.out)
      · have g3 : Hid (N = orN n4 n5) := g2.out.trans (orN_pos (by simpa using hn3))
        clear g2
        go_wp2_with fail
        refine (H4 _ (HS.out.1.below hB3) (HS.out.2.2.below hB3)).mono ?_
        rintro e w4 ⟨rfl, hb4⟩
        have hB4 := bstep hB3 hb4
        have hb4' := bstep hb3' hb4
        clear x0 x1 hz1 H4 hb3' hb4
        obtain ⟨x0, x1, hz1, _, _⟩ := twobox hb4'
        cases hn4 : (n4 == 0)
        · have h0 : ¬ n4 = 0 := by simpa using hn4
          have hN := g3.out.trans (orN_neg h0)
          have F0 : Hid _ := f0.out _ hN h0
          subst hN
          clear g3 f0 f1 H5 h0
          go_wp2_with fail
          exact bodyPost_ret (v := .tuple #[.slice none 0 0, errV N]) (by simp [results, Tryz.results27, go_sem]) rfl (Ans.mk hB4 [] none 0 (slT_nil _ _) F0.out)
        · have hN := g3.out.trans (orN_pos (by simpa using hn4))
          have F1 : Hid _ := f1.out hN
          subst hN
          clear g3 f0 f1
          go_wp2_with fail
          refine (H5 _ (HS.out.1.below hB4) (HS.out.2.2.below hB4) (HS.out.2.1.below hB4)).mono ?_
          rintro e w5 ⟨hb5, q, aq, cq, rfl, hq, hSA⟩
          have Hq : Hid (SlT w5 aq q ∧ SA q) := ⟨hq, hSA⟩
          clear hq hSA H5
          go_wp2_with fail
          exact bodyPost_ret (v := .tuple #[.slice aq q.length cq, errV N]) (by simp [results, Tryz.results27, go_sem]) rfl (Ans.mk (bstep hB4 hb5) q aq cq Hq.out.1 (F1.out q Hq.out.2))
end Go.Proofs.YtgdjeohcimkljadGreatDoor
