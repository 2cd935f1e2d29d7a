/- layer: follows, Then, Apply: what they tell. -/
import Derived.Test.YtgihagcjnjfpcadLayerThen
import Derived.Test.YtgihagcjnjfpcadLayerTurn
namespace Go.Proofs.Ytgihagcjnjfpcad
open Go Go.RowKit Go.Proofs
set_option synthInstance.maxSize 1000

attribute [local go_sem] eql_errV neq_errV guard_errV

set_option maxHeartbeats 4000000 in
set_option maxRecDepth 100000 in
theorem follows_any (ad bd cd dd : Option Addr) (ca cb cc ce : Nat) (a b c d : List Tr) (w : World) (ha : SlT w ad a) (hb : SlT w bd b) (hc : SlT w cd c) (hd : SlT w dd d) (fa : ∀ x ∈ a, fitTr x) (fb : ∀ x ∈ b, fitTr x) (fc : ∀ x ∈ c, fitTr x) (fd : ∀ x ∈ d, fitTr x) (na : a.length ≤ 9223372036854775807) (nb : b.length ≤ 9223372036854775807) (nc : c.length ≤ 9223372036854775807) (nd : d.length ≤ 9223372036854775807) :
    Calls Try.prog 9 #[.agg #[.slice ad a.length ca, .slice bd b.length cb], .agg #[.slice cd c.length cc, .slice dd d.length ce]] w fun e w' => e = .returned (errV (followsN a b c d)) ∧ RowKit.Below w.heap.size w w' := by
  have H1 := fun W h1 h2 => LCheck_any ad bd ca cb a b W h1 h2 fa fb na nb
  have H2 := fun W h1 h2 => LCheck_any cd dd cc ce c d W h1 h2 fc fd nc nd
  have H3 := fun W h1 h2 => apart_any ad cd ca cc a c W h1 h2 fa fc na nc
  have H4 := fun W h1 h2 => apart_any bd dd cb ce b d W h1 h2 fb fd nb nd
  have HS : Hid (SlT w ad a ∧ SlT w bd b ∧ SlT w cd c ∧ SlT w dd d) := ⟨ha, hb, hc, hd⟩
  have fin : Hid (followsN a b c d = orN (apartN a b) (orN (apartN c d) (orN (apartN a c) (apartN b d)))) := rfl
  generalize followsN a b c d = N at *
  generalize apartN a b = n1 at *
  generalize apartN c d = n2 at *
  generalize apartN a c = n3 at *
  generalize apartN b d = n4 at *
  clear ha hb hc hd fa fb fc fd na nb nc nd
  go_enter Try.func9, Try.ntmps9
  go_wp2_with fail
  refine (H1 _ (HS.out.1.below (bstep (balloc _ _) (balloc _ _))) (HS.out.2.1.below (bstep (balloc _ _) (balloc _ _)))).mono ?_
  rintro e w1 ⟨rfl, hb1⟩
  have hB1 := bstep (bstep (balloc _ _) (balloc _ _)) hb1
  obtain ⟨x0, x1, hz1, _, _⟩ := twobox1 hb1
  obtain ⟨y0, y1, hz2, _, _⟩ := twobox2 hb1
  clear H1
  cases hn1 : (n1 == 0)
  · have f1 : Hid (N = n1) := fin.out.trans (orN_neg (by simpa using hn1))
    clear fin H2 H3 H4
    go_wp2_with fail
    go_ret
    exact ⟨ret_val (by rw [f1.out]; rfl), hB1⟩
  · have g1 : Hid (N = orN n2 (orN n3 n4)) := fin.out.trans (orN_pos (by simpa using hn1))
    clear fin
    go_wp2_with fail
    refine (H2 _ (HS.out.2.2.1.below hB1) (HS.out.2.2.2.below hB1)).mono ?_
    rintro e w2 ⟨rfl, hb2⟩
    have hB2 := bstep hB1 hb2
    have hb2' := bstep hb1 hb2
    clear x0 x1 hz1 y0 y1 hz2 H2 hb1 hb2
    obtain ⟨x0, x1, hz1, _, _⟩ := twobox1 hb2'
    obtain ⟨y0, y1, hz2, _, _⟩ := twobox2 hb2'
    cases hn2 : (n2 == 0)
    · have f1 : Hid (N = n2) := g1.out.trans (orN_neg (by simpa using hn2))
      clear g1 H3 H4
      go_wp2_with fail
      go_ret
      exact ⟨ret_val (by rw [f1.out]; rfl), hB2⟩
    · have g2 : Hid (N = orN n3 n4) := g1.out.trans (orN_pos (by simpa using hn2))
      clear g1
      go_wp2_with fail
      refine (H3 _ (HS.out.1.below hB2) (HS.out.2.2.1.below hB2)).mono ?_
      rintro e w3 ⟨rfl, hb3⟩
      have hB3 := bstep hB2 hb3
      have hb3' := bstep hb2' hb3
      clear x0 x1 hz1 y0 y1 hz2 H3 hb2' hb3
      obtain ⟨x0, x1, hz1, _, _⟩ := twobox1 hb3'
      obtain ⟨y0, y1, hz2, _, _⟩ := twobox2 hb3'
      cases hn3 : (n3 == 0)
      · have f1 : Hid (N = n3) := g2.out.trans (orN_neg (by simpa using hn3))
        clear g2 H4
        go_wp2_with fail
        go_ret
        exact ⟨ret_val (by rw [f1.out]; rfl), hB3⟩
      · have f1 : Hid (N = n4) := g2.out.trans (orN_pos (by simpa using hn3))
        clear g2
        go_wp2_with fail
        refine (H4 _ (HS.out.2.1.below hB3) (HS.out.2.2.2.below hB3)).mono ?_
        rintro e w4 ⟨rfl, hb4⟩
        have hB4 := bstep hB3 hb4
        go_wp2_with fail
        go_ret
        exact ⟨ret_val (by rw [f1.out]; rfl), hB4⟩

end Go.Proofs.Ytgihagcjnjfpcad
