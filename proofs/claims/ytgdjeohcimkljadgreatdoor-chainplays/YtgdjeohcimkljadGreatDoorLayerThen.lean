/- layer: Between, after, follows, Then, Apply: what they tell. -/
import Derived.Test.YtgdjeohcimkljadGreatDoorLayerOps
namespace Go.Proofs.YtgdjeohcimkljadGreatDoor
open Go Go.RowKit Go.Proofs
set_option synthInstance.maxSize 1000

attribute [local go_sem] eql_errV neq_errV guard_errV

set_option maxHeartbeats 2000000 in
set_option maxRecDepth 100000 in
theorem after_any (ad bd cd dd : Option Addr) (ca cb cc cd' : Nat) (a b c d : List Tr) (w : World) (ha : SlT w ad a) (hb : SlT w bd b) (hc : SlT w cd c) (hd : SlT w dd d) (fa : ∀ x ∈ a, fitTr x) (fb : ∀ x ∈ b, fitTr x) (fc : ∀ x ∈ c, fitTr x) (fd : ∀ x ∈ d, fitTr x) (na : a.length ≤ 9223372036854775807) (nb : b.length ≤ 9223372036854775807) (nc : c.length ≤ 9223372036854775807) (nd : d.length ≤ 9223372036854775807) :
    Calls Tryz.prog 54 #[.slice ad a.length ca, .slice bd b.length cb, .slice cd c.length cc, .slice dd d.length cd'] w (Ans (afterN a b c d) (AfterAns a b c d) w) := by
  have H := fun W h1 h2 => Less_any cd bd cc cb c b W h1 h2 fc fb nc nb
  have HJ := fun W al cl h1 h2 h3 => swap_any ad dd al ca cd' cl a d (lessL c b) W h1 h2 h3 fa fd (fun x hx => fc x (mem_lessL.1 hx).1) na nd (Nat.le_trans (List.length_filter_le _ _) nc)
  have Ha : Hid (SlT w ad a) := ha
  have Hb : Hid (SlT w bd b) := hb
  have Hc : Hid (SlT w cd c) := hc
  have Hd : Hid (SlT w dd d) := hd
  have f0 : Hid (¬ bothN c b = 0 → afterN a b c d = bothN c b ∧ AfterAns a b c d []) := fun h0 => by
    have h1 : afterN a b c d = bothN c b := orN_neg h0
    exact ⟨h1, fun h => absurd (h1.symm.trans h) h0, fun _ => rfl⟩
  have f1 : Hid (bothN c b = 0 → afterN a b c d = swapN a d (lessL c b) ∧ ∀ m, SwapAns a d (lessL c b) m → AfterAns a b c d m) := fun h0 => by
    have h1 : afterN a b c d = swapN a d (lessL c b) := orN_pos h0
    exact ⟨h1, fun m hm => ⟨fun h => hm.1 (h1.symm.trans h), fun h => hm.2 (fun e => h (h1.trans e))⟩⟩
  have hA : Hid (∀ m, LessAns c b m → bothN c b = 0 → m = lessL c b) := fun m hm h0 => by
    unfold LessAns at hm
    rw [if_pos h0] at hm
    exact hm
  generalize SwapAns a d (lessL c b) = JA at *
  generalize swapN a d (lessL c b) = j at *
  generalize lessL c b = L at *
  generalize AfterAns a b c d = SA at *
  generalize afterN a b c d = N at *
  generalize LessAns c b = LA at *
  generalize bothN c b = n at *
  clear ha hb hc hd fa fb fc fd na nb nc nd
  go_enter Tryz.func54, Tryz.ntmps54
  go_wp2_with fail
  refine (H _ Hc.out Hb.out).mono ?_
  rintro e w1 ⟨hb1, m, am, cm, rfl, hm, hLA⟩
  have hA2 := hA.out m hLA
  have Hm : Hid (SlT w1 am m) := hm
  clear hm hLA hA H
  cases hn : (n == 0)
  · have h0 : ¬ n = 0 := by simpa using hn
    have F0 : Hid _ := f0.out h0
    clear hA2 h0 f0 f1 HJ
    go_wp2_with fail
    have hN : N = n := F0.out.1
    rw [hN]
    exact bodyPost_ret (v := .tuple #[.slice none 0 0, errV n]) (by simp [results, Tryz.results54, go_sem]) rfl (Ans.mk hb1 [] none 0 (slT_nil _ _) F0.out.2)
  · have h0 : n = 0 := by simpa using hn
    have F1 : Hid _ := f1.out h0
    obtain rfl := hA2 h0
    subst h0
    rw [show errV 0 = .nilIface from rfl]
    clear hA2 hn f0 f1
    go_wp2_with fail
    refine (HJ _ am cm (Ha.out.below hb1) (Hd.out.below hb1) Hm.out).mono ?_
    rintro e w2 ⟨hb2, q, aq, cq, rfl, hq, hJA⟩
    have Hq : Hid (SlT w2 aq q ∧ JA q) := ⟨hq, hJA⟩
    clear hq hJA HJ
    go_wp2_with fail
    have hN : N = j := F1.out.1
    rw [hN]
    exact bodyPost_ret (v := .tuple #[.slice aq q.length cq, errV j]) (by simp [results, Tryz.results54, go_sem]) rfl (Ans.mk (bstep hb1 hb2) q aq cq Hq.out.1 (F1.out.2 q Hq.out.2))
end Go.Proofs.YtgdjeohcimkljadGreatDoor
