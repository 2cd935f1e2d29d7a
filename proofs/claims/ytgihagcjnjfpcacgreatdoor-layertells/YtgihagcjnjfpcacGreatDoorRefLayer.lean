/- The document's answer (package strataref1): Layer, Apply, Then. -/
import Derived.Test.YtgihagcjnjfpcacGreatDoorRefSets
import Derived.Test.YtgihagcjnjfpcacGreatDoorLayerThen2
import Derived.Deep.RegionHeld3
namespace Go.Proofs.YtgihagcjnjfpcacGreatDoor
open Go Go.RowKit Go.Proofs
set_option synthInstance.maxSize 1000

theorem RLess_any (ad bd : Option Addr) (ca cb : Nat) (a b : List Tr) (w : World) (ha : SlT w ad a) (hb : SlT w bd b) (na : a.length ≤ 200) (nb : b.length ≤ 200) :
    Calls Tryz.prog 22 #[.slice ad a.length ca, .slice bd b.length cb, .bool false] w fun e w' => ∃ ad' c, e = .returned (.slice ad' (lessL a b).length c) ∧ SlT w' ad' (lessL a b) ∧ RowKit.Below w.heap.size w w' := by
  have := RPart_any ad bd ca cb a b false w ha hb na nb
  rw [part_less] at this
  exact this
theorem RBoth_any (ad bd : Option Addr) (ca cb : Nat) (a b : List Tr) (w : World) (ha : SlT w ad a) (hb : SlT w bd b) (na : a.length ≤ 200) (nb : b.length ≤ 200) :
    Calls Tryz.prog 22 #[.slice ad a.length ca, .slice bd b.length cb, .bool true] w fun e w' => ∃ ad' c, e = .returned (.slice ad' (bothL a b).length c) ∧ SlT w' ad' (bothL a b) ∧ RowKit.Below w.heap.size w w' := by
  have := RPart_any ad bd ca cb a b true w ha hb na nb
  rw [part_both] at this
  exact this
theorem both_none {a b : List Tr} : (bothL a b).length = 0 ↔ (bothL b a).length = 0 := by
  have q : ∀ {a b : List Tr}, (bothL a b).length = 0 → (bothL b a).length = 0 := fun {a b} h => by
    rw [List.length_eq_zero_iff, List.eq_nil_iff_forall_not_mem] at h ⊢
    intro x hx
    exact h x (mem_bothL.2 ⟨(mem_bothL.1 hx).2, (mem_bothL.1 hx).1⟩)
  exact ⟨q, q⟩
theorem lenBoth {a b : List Tr} (h : a.length ≤ 200) : (bothL a b).length ≤ 200 := Nat.le_trans (List.length_filter_le _ _) h
theorem lenLess {a b : List Tr} (h : a.length ≤ 200) : (lessL a b).length ≤ 200 := Nat.le_trans (List.length_filter_le _ _) h

set_option maxHeartbeats 2000000 in
set_option maxRecDepth 100000 in
theorem RLayer_any (ad bd : Option Addr) (ca cb : Nat) (a b : List Tr) (w : World) (ha : SlT w ad a) (hb : SlT w bd b) (fa : ∀ x ∈ a, fitTr x) (fb : ∀ x ∈ b, fitTr x) (na : a.length ≤ 9223372036854775807) (nb : b.length ≤ 9223372036854775807) :
    Calls Tryz.prog 17 #[.agg #[.slice ad a.length ca, .slice bd b.length cb]] w fun e w' => e = .returned (.int .i64 (apartN a b)) ∧ RowKit.Below w.heap.size w w' := by
  have H := fun W h1 h2 => RTwo_any ad bd ca cb a b W h1 h2 fa fb na nb
  have HS : Hid (SlT w ad a ∧ SlT w bd b) := ⟨ha, hb⟩
  have fin : Hid (apartN a b = orN (bothN a b) (if (bothL a b).length = 0 then 0 else 7)) := rfl
  have hset := @bothN_zero a b
  generalize apartN a b = N at *
  generalize bothN a b = n at *
  clear ha hb fa fb na nb
  go_enter Tryz.func17, Tryz.ntmps17
  go_wp2_with fail
  refine (H _ (HS.out.1.below (balloc _ _)) (HS.out.2.below (balloc _ _))).mono ?_
  rintro e w1 ⟨rfl, hb1⟩
  have hB1 := bstep (balloc _ _) hb1
  obtain ⟨x0, x1, _, _, _⟩ := twobox hb1
  clear H
  cases hn : (n == 0)
  · have f1 : Hid (N = n) := fin.out.trans (orN_neg (by simpa using hn))
    clear fin hset
    go_wp2_with fail
    go_ret
    exact ⟨ret_i64 f1.out.symm, hB1⟩
  · have h0 : n = 0 := by simpa using hn
    obtain ⟨sa, sb⟩ := hset.1 h0
    have f1 : Hid (N = if (bothL a b).length = 0 then 0 else 7) := fin.out.trans (orN_pos h0)
    have HP := fun W h1 h2 => RBoth_any ad bd ca cb a b W h1 h2 sa.1 sb.1
    have hl := lenBoth (b := b) sa.1
    generalize bothL a b = B at *
    clear fin hset sa sb h0
    go_wp2_with fail
    refine (HP _ (HS.out.1.below hB1) (HS.out.2.below hB1)).mono ?_
    rintro e w2 ⟨aq, cq, rfl, _, hb2⟩
    have hB2 := bstep hB1 hb2
    by_cases hz : B.length = 0
    · have hd : decide (0 < B.length) = false := decide_eq_false (by omega)
      have f2 : Hid (N = 0) := by have := f1.out; rw [if_pos hz] at this; exact this
      clear hz f1
      go_wp2_with fail
      go_ret
      exact ⟨ret_i64 f2.out.symm, hB2⟩
    · have hd : decide (0 < B.length) = true := decide_eq_true (by omega)
      have f2 : Hid (N = 7) := by have := f1.out; rw [if_neg hz] at this; exact this
      clear hz f1
      go_wp2_with fail
      go_ret
      exact ⟨ret_i64 f2.out.symm, hB2⟩

/-- the document's answer to a call: a list and a number -/
def RAns (n : Int) (P : List Tr → Prop) (w : World) (e : Ending) (w' : World) : Prop := RowKit.Below w.heap.size w w' ∧ ∃ (m : List Tr) (ad : Option Addr) (c : Nat), e = .returned (.tuple #[.slice ad m.length c, .int .i64 n]) ∧ SlT w' ad m ∧ P m
theorem RAns.mk {n : Int} {P : List Tr → Prop} {w w' : World} (hb : RowKit.Below w.heap.size w w') (m : List Tr) (ad : Option Addr) (c : Nat) (hs : SlT w' ad m) (hp : P m) : RAns n P w (.returned (.tuple #[.slice ad m.length c, .int .i64 n])) w' := ⟨hb, m, ad, c, rfl, hs, hp⟩
/-- and a layer and a number -/
def RLAns (n : Int) (P : List Tr → List Tr → Prop) (w : World) (e : Ending) (w' : World) : Prop := RowKit.Below w.heap.size w w' ∧ ∃ (m1 : List Tr) (a1 : Option Addr) (c1 : Nat) (m2 : List Tr) (a2 : Option Addr) (c2 : Nat), e = .returned (.tuple #[.agg #[.slice a1 m1.length c1, .slice a2 m2.length c2], .int .i64 n]) ∧ SlT w' a1 m1 ∧ SlT w' a2 m2 ∧ P m1 m2
theorem RLAns.mk {n : Int} {P : List Tr → List Tr → Prop} {w w' : World} (hb : RowKit.Below w.heap.size w w') (m1 : List Tr) (a1 : Option Addr) (c1 : Nat) (m2 : List Tr) (a2 : Option Addr) (c2 : Nat) (h1 : SlT w' a1 m1) (h2 : SlT w' a2 m2) (hp : P m1 m2) : RLAns n P w (.returned (.tuple #[.agg #[.slice a1 m1.length c1, .slice a2 m2.length c2], .int .i64 n])) w' := ⟨hb, m1, a1, c1, m2, a2, c2, rfl, h1, h2, hp⟩

theorem rapply_keep {B : Nat} {sd ad bd : Option Addr} {ca cb : Nat} {s a b : List Tr} {W W' : World} (h : W.cell? ⟨B, 0, none⟩ = some (.slice ad a.length ca) ∧ W.cell? ⟨B, 1, none⟩ = some (.slice bd b.length cb) ∧ SlT W sd s ∧ SlT W ad a ∧ SlT W bd b) (hb : RowKit.Below W.heap.size W W') : W'.cell? ⟨B, 0, none⟩ = some (.slice ad a.length ca) ∧ W'.cell? ⟨B, 1, none⟩ = some (.slice bd b.length cb) ∧ SlT W' sd s ∧ SlT W' ad a ∧ SlT W' bd b :=
  ⟨(hb.cell (World.block_lt_of_cell? W _ h.1)).trans h.1, (hb.cell (World.block_lt_of_cell? W _ h.2.1)).trans h.2.1, h.2.2.1.below hb, h.2.2.2.1.below hb, h.2.2.2.2.below hb⟩

/-- the numbers of Apply, both right -/
theorem applyN_right {s a b : List Tr} (ss : IsSet s) (sa : IsSet a) (sb : IsSet b) (hab : apartN a b = 0) :
    applyN s a b = if (bothL a s).length = 0 then (if (lessL b s).length = 0 then (if (lessL s b).length + (lessL a (lessL s b)).length ≤ 200 then 0 else 4) else 5) else 7 := by
  unfold applyN
  rw [orN_pos (sortedN_set.2 ss), orN_pos hab]
  unfold apartN withinN swapN joinN
  rw [orN_pos (bothN_zero.2 ⟨ss, sa⟩), orN_pos (bothN_zero.2 ⟨sb, ss⟩), orN_pos (bothN_zero.2 ⟨ss, sb⟩), if_pos (bothN_zero.2 ⟨lessSet ss, sa⟩)]
  by_cases h1 : (bothL a s).length = 0
  · rw [if_pos h1, if_pos (both_none.1 h1), orN_pos rfl]
    by_cases h2 : (lessL b s).length = 0
    · rw [if_pos h2, if_pos h2, orN_pos rfl]
    · rw [if_neg h2, if_neg h2, orN_neg (by decide)]
  · rw [if_neg h1, if_neg (fun h => h1 (both_none.2 h)), orN_neg (by decide)]

set_option maxHeartbeats 4000000 in
set_option maxRecDepth 100000 in
theorem RApply_any (sd ad bd : Option Addr) (cs ca cb : Nat) (s a b : List Tr) (w : World) (hs : SlT w sd s) (ha : SlT w ad a) (hb : SlT w bd b) (ss : IsSet s) (sa : IsSet a) (sb : IsSet b) (hab : apartN a b = 0) :
    Calls Tryz.prog 19 #[.slice sd s.length cs, .agg #[.slice ad a.length ca, .slice bd b.length cb]] w (RAns (applyN s a b) (ApplyAns s a b) w) := by
  have HS : Hid (SlT w sd s ∧ SlT w ad a ∧ SlT w bd b) := ⟨hs, ha, hb⟩
  have H1 := fun W h1 h2 => RBoth_any ad sd ca cs a s W h1 h2 sa.1 ss.1
  have H2 := fun W h1 h2 => RLess_any bd sd cb cs b s W h1 h2 sb.1 ss.1
  have H3 := fun (W : World) (h : W.cell? ⟨w.heap.size, 0, none⟩ = some (.slice ad a.length ca) ∧ W.cell? ⟨w.heap.size, 1, none⟩ = some (.slice bd b.length cb) ∧ SlT W sd s ∧ SlT W ad a ∧ SlT W bd b) => RLess_any sd bd cs cb s b W h.2.2.1 h.2.2.2.2 ss.1 sb.1
  have H4 := fun W al cl h1 h2 => RUnion_any al ad cl ca (lessL s b) a W h1 h2 (lenLess ss.1) sa.1
  have fin : Hid (applyN s a b = if (bothL a s).length = 0 then (if (lessL b s).length = 0 then (if (lessL s b).length + (lessL a (lessL s b)).length ≤ 200 then 0 else 4) else 5) else 7) := applyN_right ss sa sb hab
  have hlen : Hid (∀ m, JoinOf (lessL s b) a m → m.length = (lessL s b).length + (lessL a (lessL s b)).length) := fun m hm => hm.len (lessSet ss).2.2 sa.2.2
  have hmax : Hid ((lessL s b).length + (lessL a (lessL s b)).length ≤ 400) := by have h1 := lenLess (b := b) ss.1; have h2 := lenLess (b := lessL s b) sa.1; show _ ≤ _; omega
  have f0 : Hid (∀ n, applyN s a b = n → ¬ n = 0 → ApplyAns s a b []) := fun n h h0 => ⟨fun e => absurd (h.symm.trans e) h0, fun _ => rfl⟩
  have f1 : Hid (∀ m, applyN s a b = 0 → JoinOf (lessL s b) a m → ApplyAns s a b m) := fun m h hm => ⟨fun _ => hm, fun e => absurd h e⟩
  have l1 := lenBoth (b := s) sa.1
  have l2 := lenLess (b := s) sb.1
  generalize applyN s a b = N at *
  generalize ApplyAns s a b = AA at *
  generalize JoinOf (lessL s b) a = JO at *
  generalize (lessL s b).length + (lessL a (lessL s b)).length = K at *
  generalize bothL a s = B1 at *
  generalize lessL b s = B2 at *
  generalize lessL s b = B3 at *
  clear hs ha hb ss sa sb hab
  go_enter Tryz.func19, Tryz.ntmps19
  go_wp2_with fail
  refine (H1 _ (HS.out.2.1.below (balloc _ _)) (HS.out.1.below (balloc _ _))).mono ?_
  rintro e w1 ⟨a1, c1, rfl, _, hb1⟩
  have hB1 := bstep (balloc _ _) hb1
  obtain ⟨x0, x1, _, _, _⟩ := twobox hb1
  clear H1
  by_cases hz1 : B1.length = 0
  · have hd1 : decide (0 < B1.length) = false := decide_eq_false (by omega)
    have g1 : Hid (N = (if B2.length = 0 then (if K ≤ 200 then 0 else 4) else 5)) := by have := fin.out; rw [if_pos hz1] at this; exact this
    clear hz1 fin
    go_wp2_with fail
    refine (H2 _ (HS.out.2.2.below hB1) (HS.out.1.below hB1)).mono ?_
    rintro e w2 ⟨a2, c2, rfl, _, hb2⟩
    have hB2 := bstep hB1 hb2
    have hb2' := bstep hb1 hb2
    clear x0 x1 H2 hb1 hb2
    obtain ⟨x0, x1, _, _, _⟩ := twobox hb2'
    by_cases hz2 : B2.length = 0
    · have hd2 : decide (0 < B2.length) = false := decide_eq_false (by omega)
      have g2 : Hid (N = (if K ≤ 200 then 0 else 4)) := by have := g1.out; rw [if_pos hz2] at this; exact this
      clear hz2 g1
      go_wp2_with fail
      have zs : SlT w2.drew sd s := (HS.out.1.below hB2 : SlT w2 sd s)
      have za : SlT w2.drew ad a := (HS.out.2.1.below hB2 : SlT w2 ad a)
      have zb : SlT w2.drew bd b := (HS.out.2.2.below hB2 : SlT w2 bd b)
      go_region_held3 (fun W => W.cell? ⟨w.heap.size, 0, none⟩ = some (.slice ad a.length ca) ∧ W.cell? ⟨w.heap.size, 1, none⟩ = some (.slice bd b.length cb) ∧ SlT W sd s ∧ SlT W ad a ∧ SlT W bd b) (first | exact rapply_keep (by assumption) hb4 | exact rapply_keep (by assumption) hb3 | go_keep) (first
        | (go_at_call 22; refine (H3 _ (by assumption)).mono ?_; rintro e w3 ⟨a3, c3, rfl, g3, hb3⟩; have za3 : SlT w3 ad a := za.below hb3)
        | (go_at_call 50; refine (H4 _ a3 c3 g3 za3).mono ?_; rintro e w4 ⟨m, a4, c4, rfl, g4, hJ, hb4⟩))
      have hB4 := bstep (bstep hB2.drew hb3) hb4
      have hK := hlen.out m hJ
      have Hm : Hid (SlT w4 a4 m ∧ JO m) := ⟨g4, hJ⟩
      have hmx := hmax.out
      clear g3 za3 g4 hJ zs za zb hlen hmax
      by_cases hz3 : K ≤ 200
      · have hN : N = 0 := by have := g2.out; rw [if_pos hz3] at this; exact this
        have F1 : Hid _ := f1.out m hN Hm.out.2
        have hd3 : decide ((m.length : Int) > 200) = false := decide_eq_false (by omega)
        subst hN
        have hm4 : m.length ≤ 400 := by omega
        clear hz3 g2 hK f0 f1 hmx
        go_wp2_with fail
        exact bodyPost_ret (v := .tuple #[.slice a4 m.length c4, .int .i64 0]) (by simp [results, Tryz.results19, go_sem]) rfl (RAns.mk hB4 m a4 c4 Hm.out.1 F1.out)
      · have hN : N = 4 := by have := g2.out; rw [if_neg hz3] at this; exact this
        have F0 : Hid _ := f0.out _ hN (by decide)
        have hd3 : decide ((m.length : Int) > 200) = true := decide_eq_true (by omega)
        subst hN
        have hm4 : m.length ≤ 400 := by omega
        clear hz3 g2 hK f0 f1 hmx
        go_wp2_with fail
        exact bodyPost_ret (v := .tuple #[.slice none 0 0, .int .i64 4]) (by simp [results, Tryz.results19, go_sem]) rfl (RAns.mk hB4 [] none 0 (slT_nil _ _) F0.out)
    · have hd2 : decide (0 < B2.length) = true := decide_eq_true (by omega)
      have hN : N = 5 := by have := g1.out; rw [if_neg hz2] at this; exact this
      have F0 : Hid _ := f0.out _ hN (by decide)
      subst hN
      clear hz2 g1 f0 f1 H3 H4 hlen hmax
      go_wp2_with fail
      exact bodyPost_ret (v := .tuple #[.slice none 0 0, .int .i64 5]) (by simp [results, Tryz.results19, go_sem]) rfl (RAns.mk hB2 [] none 0 (slT_nil _ _) F0.out)
  · have hd1 : decide (0 < B1.length) = true := decide_eq_true (by omega)
    have hN : N = 7 := by have := fin.out; rw [if_neg hz1] at this; exact this
    have F0 : Hid _ := f0.out _ hN (by decide)
    subst hN
    clear hz1 fin f0 f1 H2 H3 H4 hlen hmax
    go_wp2_with fail
    exact bodyPost_ret (v := .tuple #[.slice none 0 0, .int .i64 7]) (by simp [results, Tryz.results19, go_sem]) rfl (RAns.mk hB1 [] none 0 (slT_nil _ _) F0.out)
end Go.Proofs.YtgihagcjnjfpcacGreatDoor
