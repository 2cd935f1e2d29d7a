import Derived.Test.YtnlcfnpcjkcdmafGreatMA0x5
import Derived.Deep.DeepCutAuto
import Derived.Deep.RegionHeld3

/- layer.Then: what it tells; stratasame.Layer. -/
namespace Go.Proofs.YtnlcfnpcjkcdmafGreat
open Go Go.RowKit Go.Proofs
set_option synthInstance.maxSize 1000

attribute [local go_sem] eql_errV neq_errV guard_errV

theorem threebox {w W : World} {T T' T'' : TypeId} {a0 a1 b0 b1 c0 c1 : Value} (hb : RowKit.Below (((w.alloc (.cells #[a0, a1] T)).alloc (.cells #[b0, b1] T')).alloc (.cells #[c0, c1] T'')).heap.size (((w.alloc (.cells #[a0, a1] T)).alloc (.cells #[b0, b1] T')).alloc (.cells #[c0, c1] T'')) W) :
    W.cell? ⟨w.heap.size, 0, none⟩ = some a0 ∧ W.cell? ⟨w.heap.size, 1, none⟩ = some a1 ∧ W.cell? ⟨w.heap.size + 1, 0, none⟩ = some b0 ∧ W.cell? ⟨w.heap.size + 1, 1, none⟩ = some b1 ∧ W.cell? ⟨w.heap.size + 1 + 1, 0, none⟩ = some c0 ∧ W.cell? ⟨w.heap.size + 1 + 1, 1, none⟩ = some c1 ∧ w.heap.size + 1 + 1 < W.heap.size ∧ W.frozen? ⟨w.heap.size + 1 + 1, 0, none⟩ = false ∧ W.frozen? ⟨w.heap.size + 1 + 1, 1, none⟩ = false := by
  obtain ⟨x0, x1, _, _, _⟩ := twobox1 (bstep (balloc _ _) hb)
  obtain ⟨y0, y1, _, _, _⟩ := twobox2 (bstep (balloc _ _) hb)
  have h := twobox hb
  rw [World.size_alloc, World.size_alloc] at h
  exact ⟨x0, x1, y0, y1, h.1, h.2.1, h.2.2.1, h.2.2.2.1, h.2.2.2.2⟩


end Go.Proofs.YtnlcfnpcjkcdmafGreat

/- layer's calls where nothing is wrong: between two sets and three. -/
namespace Go.Proofs.YtnlcfnpcjkcdmafGreat
open Go Go.RowKit Go.Proofs
set_option synthInstance.maxSize 1000

/-- a layer's answer that is right -/
def LOk (w : World) (m1 m2 : List Tr) (e : Ending) (w' : World) : Prop := RowKit.Below w.heap.size w w' ∧ ∃ (a1 : Option Addr) (c1 : Nat) (a2 : Option Addr) (c2 : Nat), e = .returned (.tuple #[.agg #[.slice a1 m1.length c1, .slice a2 m2.length c2], .nilIface]) ∧ SlT w' a1 m1 ∧ SlT w' a2 m2
/-- a list's answer that is right -/
def TOk (w : World) (m : List Tr) (e : Ending) (w' : World) : Prop := RowKit.Below w.heap.size w w' ∧ ∃ (a1 : Option Addr) (c1 : Nat), e = .returned (.tuple #[.slice a1 m.length c1, .nilIface]) ∧ SlT w' a1 m

theorem setLen {a : List Tr} (h : IsSet a) : a.length ≤ 9223372036854775807 := by have := h.1; omega

theorem BtwGood_any (ad bd : Option Addr) (ca cb : Nat) (a b : List Tr) (w : World) (ha : SlT w ad a) (hb : SlT w bd b) (sa : IsSet a) (sb : IsSet b) :
    Calls Tryz.prog 13 #[.slice ad a.length ca, .slice bd b.length cb] w (LOk w (lessL b a) (lessL a b)) := by
  have h0 : bothN a b = 0 := bothN_zero.2 ⟨sa, sb⟩
  refine (LBetween_any ad bd ca cb a b w ha hb sa.fit sb.fit (setLen sa) (setLen sb)).mono ?_
  rintro e w' ⟨hb', m1, a1, c1, m2, a2, c2, rfl, h1, h2, hA, _⟩
  obtain ⟨rfl, rfl⟩ := hA h0
  exact ⟨hb', a1, c1, a2, c2, by rw [h0]; rfl, h1, h2⟩
theorem ApplyGood_any (ad a1 a2 : Option Addr) (ca c1 c2 : Nat) (a b : List Tr) (w : World) (ha : SlT w ad a) (h1 : SlT w a1 (lessL b a)) (h2 : SlT w a2 (lessL a b)) (sa : IsSet a) (sb : IsSet b) :
    Calls Tryz.prog 25 #[.slice ad a.length ca, .agg #[.slice a1 (lessL b a).length c1, .slice a2 (lessL a b).length c2]] w (TOk w b) := by
  have h0 := apply_btw sa sb
  have s1 : IsSet (lessL b a) := lessSet sb
  have s2 : IsSet (lessL a b) := lessSet sa
  refine (LApply_any ad a1 a2 ca c1 c2 a (lessL b a) (lessL a b) w ha h1 h2 sa.fit s1.fit s2.fit (setLen sa) (setLen s1) (setLen s2)).mono ?_
  rintro e w' ⟨hb', m, am, cm, rfl, hm, hA⟩
  obtain rfl := apply_btw_ans sa sb hA
  exact ⟨hb', am, cm, by rw [h0]; rfl, hm⟩
theorem TurnGood_any (a1 a2 : Option Addr) (c1 c2 : Nat) (a b : List Tr) (w : World) (h1 : SlT w a1 (lessL b a)) (h2 : SlT w a2 (lessL a b)) (sa : IsSet a) (sb : IsSet b) :
    Calls Tryz.prog 16 #[.agg #[.slice a1 (lessL b a).length c1, .slice a2 (lessL a b).length c2]] w (LOk w (lessL a b) (lessL b a)) := by
  have h0 := btw_check sa sb
  have s1 : IsSet (lessL b a) := lessSet sb
  have s2 : IsSet (lessL a b) := lessSet sa
  refine (LTurn_any a1 a2 c1 c2 (lessL b a) (lessL a b) w h1 h2 s1.fit s2.fit (setLen s1) (setLen s2)).mono ?_
  rintro e w' ⟨hb', m1, am, cm, m2, an, cn, rfl, g1, g2, hA, _⟩
  obtain ⟨rfl, rfl⟩ := hA h0
  exact ⟨hb', am, cm, an, cn, by rw [h0]; rfl, g1, g2⟩
theorem CheckGood_any (a1 a2 : Option Addr) (c1 c2 : Nat) (a b : List Tr) (w : World) (h1 : SlT w a1 (lessL b a)) (h2 : SlT w a2 (lessL a b)) (sa : IsSet a) (sb : IsSet b) :
    Calls Tryz.prog 30 #[.agg #[.slice a1 (lessL b a).length c1, .slice a2 (lessL a b).length c2]] w fun e w' => e = .returned .nilIface ∧ RowKit.Below w.heap.size w w' := by
  have s1 : IsSet (lessL b a) := lessSet sb
  have s2 : IsSet (lessL a b) := lessSet sa
  refine (LCheck_any a1 a2 c1 c2 (lessL b a) (lessL a b) w h1 h2 s1.fit s2.fit (setLen s1) (setLen s2)).mono ?_
  rintro e w' ⟨rfl, hb'⟩
  exact ⟨by rw [btw_check sa sb]; rfl, hb'⟩
theorem SameGood_any (ad bd : Option Addr) (ca cb : Nat) (l : List Tr) (w : World) (hl : SlT w ad l) (hm : SlT w bd l) (sl : IsSet l) :
    Calls Tryz.prog 10 #[.slice ad l.length ca, .slice bd l.length cb] w fun e w' => e = .returned (.bool true) ∧ RowKit.Below w.heap.size w w' := by
  have := SameTriples_any ad bd ca cb l l w hl hm (by have := sl.1; omega) (by have := sl.1; omega)
  rw [show decide (l = l) = true by simp] at this
  exact this

/-- a layer in a box -/
def BoxL (W : World) (b : Nat) (v0 v1 : Value) : Prop := W.cell? ⟨b, 0, none⟩ = some v0 ∧ W.cell? ⟨b, 1, none⟩ = some v1
theorem BoxL.below {W W' : World} {b : Nat} {v0 v1 : Value} (h : BoxL W b v0 v1) (hb : RowKit.Below W.heap.size W W') : BoxL W' b v0 v1 :=
  ⟨(hb.cell (World.block_lt_of_cell? W _ h.1)).trans h.1, (hb.cell (World.block_lt_of_cell? W _ h.2)).trans h.2⟩
theorem BoxL.new (w : World) (v0 v1 : Value) (T : TypeId) : BoxL (w.alloc (.cells #[v0, v1] T)) w.heap.size v0 v1 := ⟨by go_simp, by go_simp⟩
end Go.Proofs.YtnlcfnpcjkcdmafGreat

/- What a patch's face says of what is between two sets. -/
namespace Go.Proofs.YtnlcfnpcjkcdmafGreat
open Go Go.RowKit Go.Proofs
set_option synthInstance.maxSize 1000

theorem btw_good {a b : List Tr} (sa : IsSet a) (sb : IsSet b) : GoodLy (lessL b a, lessL a b) := apart_good.1 (btw_check sa sb)
theorem PPrintGood_any (F : PFace) (a1 a2 : Option Addr) (c1 c2 : Nat) (l : LyP) (w : World) (h1 : SlT w a1 l.1) (h2 : SlT w a2 l.2) (hg : GoodLy l) :
    Calls Tryz.prog 14 #[.agg #[.slice a1 l.1.length c1, .slice a2 l.2.length c2]] w fun e w' => e = .returned (.tuple #[.string ⟨(patchB l).toArray⟩, .nilIface]) ∧ RowKit.Below w.heap.size w w' := by
  have h := F.print w a1 a2 c1 c2 l ⟨h1, h2, hg.add.fit, hg.take.fit, setLen hg.add, setLen hg.take⟩
  rw [apart_good.2 hg, show errV 0 = .nilIface from rfl, show printP l = patchB l from if_pos (apart_good.2 hg)] at h
  exact h
theorem PApplyGood_any (F : PFace) (ad : Option Addr) (ca : Nat) (a b : List Tr) (w : World) (ha : SlT w ad a) (sa : IsSet a) (sb : IsSet b) (hlim : 1202000 ≤ F.lim) :
    Calls Tryz.prog 15 #[.slice ad a.length ca, .string ⟨(patchB (lessL b a, lessL a b)).toArray⟩] w fun e w' => RowKit.Below w.heap.size w w' ∧ ∃ a1 c1, e = .returned (.tuple #[.slice a1 b.length c1, .int .i64 0, .nilIface]) ∧ SlT w' a1 b := by
  have hg := btw_good sa sb
  have hp := parse_back hg
  have h0 := apply_btw sa sb
  refine (F.apply w ad ca a (patchB (lessL b a, lessL a b)) ha sa.fit (setLen sa) (by have := patch_len hg; omega)).mono ?_
  rintro e w' ⟨t, a1, c1, rfl, ⟨h1, _⟩, hs, hb⟩
  have hE : applyE a (patchB (lessL b a, lessL a b)) = 0 := by
    unfold applyE
    rw [hp]
    simp only [ne_eq, not_true_eq_false, if_false]
    exact h0
  have hI : applyI a (patchB (lessL b a, lessL a b)) = 0 := by
    unfold applyI
    rw [hp]
    simp only [ne_eq, not_true_eq_false, if_false]
    rw [h0]
    simp
  have ht := h1 hE
  rw [hp] at ht
  obtain rfl : t = b := apply_btw_ans sa sb ⟨fun _ => ht, fun h => absurd h0 h⟩
  exact ⟨hb, a1, c1, by rw [hE, hI]; rfl, hs⟩
/-- the fact that the law begins with -/
def factL : LyP := ([((1, [97], []), (1, [98], []), (1, [99], []))], [])
theorem factL_good : GoodLy factL := ⟨⟨by simp [factL], by intro x hx; simp [factL] at hx; subst hx; decide, List.pairwise_singleton _ _⟩, isSet_nil, by intro x _ hx; simp [factL] at hx⟩
set_option maxRecDepth 100000 in
theorem factL_text : patchB factL = [43, 32, 97, 32, 98, 32, 99, 10] := by decide +kernel
theorem PFact_any (F : PFace) (w : World) (hlim : 1202000 ≤ F.lim) : Calls Tryz.prog 12 #[.string ⟨#[43, 32, 97, 32, 98, 32, 99, 10]⟩] w fun e w' => RowKit.Below w.heap.size w w' ∧ ∃ b o c' a2 c2, e = .returned (.tuple #[.agg #[.slice (some ⟨b, o, none⟩) 1 c', .slice a2 0 c2], .int .i64 0, .nilIface]) ∧ RowR w' b o factL.1 := by
  have h := F.parse w [43, 32, 97, 32, 98, 32, 99, 10] (by simp; omega)
  have hp := parse_back factL_good
  rw [factL_text] at hp
  refine h.mono ?_
  rintro e w' ⟨a1, c1, a2, c2, rfl, h1, h2, hb⟩
  rw [hp] at h1 ⊢
  obtain ⟨b, o, rfl, hr⟩ := h1 (by simp [factL])
  exact ⟨hb, b, o, c1, a2, c2, rfl, hr⟩
end Go.Proofs.YtnlcfnpcjkcdmafGreat

/- stratalaw2.PatchBack: the walk. -/
namespace Go.Proofs.YtnlcfnpcjkcdmafGreat
open Go Go.RowKit Go.Proofs
set_option synthInstance.maxSize 1000

theorem hideB {p : Prop} (h : p) : Hid p := h
set_option maxHeartbeats 16000000 in
set_option maxRecDepth 1000000 in
theorem patchBack_any (F : PFace) (ad bd : Option Addr) (ca cb : Nat) (a b : List Tr) (S : List UInt8) (w : World) (ha : SlT w ad a) (hb : SlT w bd b) (fa : ∀ x ∈ a, fitTr x) (fb : ∀ x ∈ b, fitTr x) (na : a.length ≤ maxLen) (nb : b.length ≤ maxLen) (hS : S.length ≤ F.lim) (hlim : 1202000 ≤ F.lim) :
    Calls Tryz.prog 4 #[.slice ad a.length ca, .slice bd b.length cb, .string ⟨S.toArray⟩] w fun e w' => e = .returned (.bool true) ∧ RowKit.Below w.heap.size w w' := by
  have HS : Hid (SlT w ad a ∧ SlT w bd b) := ⟨ha, hb⟩
  have HF := fun W => PFact_any F W hlim
  have HB := fun W h1 h2 => LBetween_any ad bd ca cb a b W h1 h2 fa fb na nb
  have HP := fun W => F.parse W S hS
  clear ha hb fa fb na nb hS
  go_enter Tryz.func4, Tryz.ntmps4
  go_wp2_with fail
  refine (HF _).mono ?_
  rintro e w1 ⟨hb1, b1, o1, c1, a2, c2, rfl, hr⟩
  dsimp only
  have k7 : ∀ x, (w1.alloc x).cell? ⟨b1, o1 + 6 + 1, none⟩ = some (.string ⟨#[99]⟩) := fun x => by
    have h := hr 7 (.string ⟨#[99]⟩) (by simp [factL, cellsT, encTr])
    exact ((balloc w1 x).cell (World.block_lt_of_cell? w1 _ h)).trans h
  have hw1 := hideB hb1
  clear hr hb1 HF
  by_cases hz : bothN a b = 0
  · obtain ⟨sa, sb⟩ := bothN_zero.1 hz
    have HG := fun W h1 h2 => BtwGood_any ad bd ca cb a b W h1 h2 sa sb
    clear HB hz
    go_wp2_with fail
    refine (HG _ (HS.out.1.below (bstep hw1.out (balloc _ _))) (HS.out.2.below (bstep hw1.out (balloc _ _)))).mono ?_
    rintro e w2 ⟨hb2, x1, d1, x2, d2, rfl, g1, g2⟩
    dsimp only
    have hw2 := hideB (bstep (bstep hw1.out (balloc _ _)) hb2)
    clear hb2 HG
    go_wp2_with fail
    clear k7 hw1
    refine (PPrintGood_any F x1 x2 d1 d2 (lessL b a, lessL a b) _ (g1.below (balloc _ _)) (g2.below (balloc _ _)) (btw_good sa sb)).mono ?_
    rintro e w3 ⟨rfl, hb3⟩
    dsimp only
    have hw3 := hideB (bstep (bstep hw2.out (balloc _ _)) hb3)
    have hB3 := hideB ((BoxL.new w2 _ _ _).below hb3)
    have g1 := (g1.below (balloc _ _)).below hb3
    have g2 := (g2.below (balloc _ _)).below hb3
    clear hb3 hw2
    go_wp2_with fail
    refine (PApplyGood_any F ad ca a b _ (HS.out.1.below hw3.out) sa sb hlim).mono ?_
    rintro e w4 ⟨hb4, x3, d3, rfl, g3⟩
    dsimp only
    have hw4 := hideB (bstep hw3.out hb4)
    obtain ⟨k0, k1⟩ := hB3.out.below hb4
    have g1 := g1.below hb4
    have g2 := g2.below hb4
    clear hb4 hw3 hB3
    go_wp2_with fail
    clear k0 k1
    refine (TurnGood_any x1 x2 d1 d2 a b _ g1 g2 sa sb).mono ?_
    rintro e w5 ⟨hb5, x4, d4, x5, d5, rfl, g4, g5⟩
    dsimp only
    have hw5 := hideB (bstep hw4.out hb5)
    have g3 := g3.below hb5
    clear hb5 hw4 g1 g2
    go_wp2_with fail
    refine (PPrintGood_any F x4 x5 d4 d5 (lessL a b, lessL b a) _ (g4.below (balloc _ _)) (g5.below (balloc _ _)) (btw_good sb sa)).mono ?_
    rintro e w6 ⟨rfl, hb6⟩
    dsimp only
    have hw6 := hideB (bstep (bstep hw5.out (balloc _ _)) hb6)
    have g3 := (g3.below (balloc _ _)).below hb6
    clear hb6 hw5 g4 g5
    go_wp2_with fail
    refine (PApplyGood_any F bd cb b a _ (HS.out.2.below hw6.out) sb sa hlim).mono ?_
    rintro e w7 ⟨hb7, x6, d6, rfl, g6⟩
    dsimp only
    have hw7 := hideB (bstep hw6.out hb7)
    have g3 := g3.below hb7
    clear hb7 hw6
    go_wp2_with fail
    refine (SameGood_any x3 bd d3 cb b _ g3 (HS.out.2.below hw7.out) sb).mono ?_
    rintro e w8 ⟨rfl, hb8⟩
    dsimp only
    have hw8 := hideB (bstep hw7.out hb8)
    have g6 := g6.below hb8
    clear hb8 hw7 g3
    go_wp2_with fail
    refine (SameGood_any x6 ad d6 ca a _ g6 (HS.out.1.below hw8.out) sa).mono ?_
    rintro e w9 ⟨rfl, hb9⟩
    dsimp only
    have hw9 := hideB (bstep hw8.out hb9)
    clear hb9 hw8 g6
    go_wp2_with fail
    refine (HP _).mono ?_
    rintro e wA ⟨y1, f1, y2, f2, rfl, q1, q2, hbA⟩
    dsimp only
    have hwA := hideB (bstep hw9.out hbA)
    clear hbA HP
    by_cases hp : (parseP S).1 = 0
    · obtain ⟨hg, ht⟩ := parse_ok hp
      have HT := fun W h1 h2 => PPrintGood_any F y1 y2 f1 f2 (parseP S).2.2 W h1 h2 hg
      rw [ht] at HT
      rw [show errV (parseP S).1 = .nilIface by rw [hp]; rfl]
      clear hp hg ht
      go_wp2_with fail
      refine (HT _ (q1.below (balloc _ _)) (q2.below (balloc _ _))).mono ?_
      rintro e wB ⟨rfl, hbB⟩
      dsimp only
      have hwB := hideB (bstep (bstep hwA.out (balloc _ _)) hbB)
      clear hbB hwA HT q1 q2
      go_wp2_with fail
      go_ret
      exact ⟨rfl, hwB.out⟩
    · rw [show errV (parseP S).1 = .iface 62 (.int .i64 (parseP S).1) by unfold errV; rw [if_neg hp]]
      generalize (parseP S).1 = N at *
      clear hp
      go_wp2_with fail
      go_ret
      exact ⟨rfl, bstep hwA.out (balloc _ _)⟩
  · go_wp2_with fail
    refine (HB _ (HS.out.1.below (bstep hw1.out (balloc _ _))) (HS.out.2.below (bstep hw1.out (balloc _ _)))).mono ?_
    rintro e w2 ⟨hb2, m1, x1, d1, m2, x2, d2, rfl, _, _, _⟩
    dsimp only
    have hw2 := hideB (bstep (bstep hw1.out (balloc _ _)) hb2)
    rw [show errV (bothN a b) = .iface 62 (.int .i64 (bothN a b)) by unfold errV; rw [if_neg hz]]
    clear hb2 HB k7 hw1 hz
    generalize bothN a b = N at *
    go_wp2_with fail
    refine (HP _).mono ?_
    rintro e wA ⟨y1, f1, y2, f2, rfl, q1, q2, hbA⟩
    dsimp only
    have hwA := hideB (bstep (bstep hw2.out (balloc _ _)) hbA)
    clear hbA HP
    by_cases hp : (parseP S).1 = 0
    · obtain ⟨hg, ht⟩ := parse_ok hp
      have HT := fun W h1 h2 => PPrintGood_any F y1 y2 f1 f2 (parseP S).2.2 W h1 h2 hg
      rw [ht] at HT
      rw [show errV (parseP S).1 = .nilIface by rw [hp]; rfl]
      clear hp hg ht
      go_wp2_with fail
      refine (HT _ (q1.below (balloc _ _)) (q2.below (balloc _ _))).mono ?_
      rintro e wB ⟨rfl, hbB⟩
      dsimp only
      have hwB := hideB (bstep (bstep hwA.out (balloc _ _)) hbB)
      clear hbB hwA HT q1 q2
      go_wp2_with fail
      go_ret
      exact ⟨rfl, hwB.out⟩
    · rw [show errV (parseP S).1 = .iface 62 (.int .i64 (parseP S).1) by unfold errV; rw [if_neg hp]]
      generalize (parseP S).1 = N at *
      clear hp
      go_wp2_with fail
      go_ret
      exact ⟨rfl, bstep hwA.out (balloc _ _)⟩
end Go.Proofs.YtnlcfnpcjkcdmafGreat
