/- The document's answer (package strataref1): Layer, Apply, Then. -/
import Derived.Test.YtonmmnhikjfibadGreatDoorRefSets
import Derived.Test.YtonmmnhikjfibadGreatDoorLayerOps
import Derived.Deep.RegionHeld3
namespace Go.Proofs.YtonmmnhikjfibadGreatDoor
open Go Go.RowKit Go.Proofs
set_option synthInstance.maxSize 1000

theorem RLess_any (ad bd : Option Addr) (ca cb : Nat) (a b : List Tr) (w : World) (ha : SlT w ad a) (hb : SlT w bd b) (na : a.length ≤ 200) (nb : b.length ≤ 200) :
    Calls Tryz.prog 48 #[.slice ad a.length ca, .slice bd b.length cb, .bool false] w fun e w' => ∃ ad' c, e = .returned (.slice ad' (lessL a b).length c) ∧ SlT w' ad' (lessL a b) ∧ RowKit.Below w.heap.size w w' := by
  have := RPart_any ad bd ca cb a b false w ha hb na nb
  rw [part_less] at this
  exact this
theorem RBoth_any (ad bd : Option Addr) (ca cb : Nat) (a b : List Tr) (w : World) (ha : SlT w ad a) (hb : SlT w bd b) (na : a.length ≤ 200) (nb : b.length ≤ 200) :
    Calls Tryz.prog 48 #[.slice ad a.length ca, .slice bd b.length cb, .bool true] w fun e w' => ∃ ad' c, e = .returned (.slice ad' (bothL a b).length c) ∧ SlT w' ad' (bothL a b) ∧ RowKit.Below w.heap.size w w' := by
  have := RPart_any ad bd ca cb a b true w ha hb na nb
  rw [part_both] at this
  exact this
theorem both_none {a b : List Tr} : (bothL a b).length = 0 ↔ (bothL b a).length = 0 := by
  have q : ∀ {a b : List Tr}, (bothL a b).length = 0 → (bothL b a).length = 0 := fun {a b} h => by
    rw [List.length_eq_zero_iff, List.eq_nil_iff_forall_not_mem] at h ⊢
    intro x hx
    exact h x (mem_bothL.2 ⟨(mem_bothL.1 hx).2, (mem_bothL.1 hx).1⟩)
  exact ⟨q, q⟩
theorem lenBoth {a b : List Tr} (h : a.length ≤ 200) : (bothL a b).length ≤ 200 := Nat.le_trans (List.length_filter_le _ _) h
theorem lenLess {a b : List Tr} (h : a.length ≤ 200) : (lessL a b).length ≤ 200 := Nat.le_trans (List.length_filter_le _ _) h

set_option maxHeartbeats 2000000 in
set_option maxRecDepth 100000 in
theorem RLayer_any (ad bd : Option Addr) (ca cb : Nat) (a b : List Tr) (w : World) (ha : SlT w ad a) (hb : SlT w bd b) (fa : ∀ x ∈ a, fitTr x) (fb : ∀ x ∈ b, fitTr x) (na : a.length ≤ 9223372036854775807) (nb : b.length ≤ 9223372036854775807) :
    Calls Tryz.prog 16 #[.agg #[.slice ad a.length ca, .slice bd b.length cb]] w fun e w' => e = .returned (.int .i64 (apartN a b)) ∧ RowKit.Below w.heap.size w w' := by
  have H := fun W h1 h2 => RTwo_any ad bd ca cb a b W h1 h2 fa fb na nb
  have HS : Hid (SlT w ad a ∧ SlT w bd b) := ⟨ha, hb⟩
  have fin : Hid (apartN a b = orN (bothN a b) (if (bothL a b).length = 0 then 0 else 7)) := rfl
  have hset := @bothN_zero a b
  generalize apartN a b = N at *
  generalize bothN a b = n at *
  clear ha hb fa fb na nb
  go_enter Tryz.func16, Tryz.ntmps16
  go_wp2_with fail
  refine (H _ (HS.out.1.below (balloc _ _)) (HS.out.2.below (balloc _ _))).mono ?_
  rintro e w1 ⟨rfl, hb1⟩
  have hB1 := bstep (balloc _ _) hb1
  obtain ⟨x0, x1, _, _, _⟩ := twobox hb1
  clear H
  cases hn : (n == 0)
  · have f1 : Hid (N = n) := fin.out.trans (orN_neg (by simpa using hn))
    clear fin hset
    go_wp2_with fail
    go_ret
    exact ⟨ret_i64 f1.out.symm, hB1⟩
  · have h0 : n = 0 := by simpa using hn
    obtain ⟨sa, sb⟩ := hset.1 h0
    have f1 : Hid (N = if (bothL a b).length = 0 then 0 else 7) := fin.out.trans (orN_pos h0)
    have HP := fun W h1 h2 => RBoth_any ad bd ca cb a b W h1 h2 sa.1 sb.1
    have hl := lenBoth (b := b) sa.1
    generalize bothL a b = B at *
    clear fin hset sa sb h0
    go_wp2_with fail
    refine (HP _ (HS.out.1.below hB1) (HS.out.2.below hB1)).mono ?_
    rintro e w2 ⟨aq, cq, rfl, _, hb2⟩
    have hB2 := bstep hB1 hb2
    by_cases hz : B.length = 0
    · have hd : decide (0 < B.length) = false := decide_eq_false (by omega)
      have f2 : Hid (N = 0) := by have := f1.out; rw [if_pos hz] at this; exact this
      clear hz f1
      go_wp2_with fail
      go_ret
      exact ⟨ret_i64 f2.out.symm, hB2⟩
    · have hd : decide (0 < B.length) = true := decide_eq_true (by omega)
      have f2 : Hid (N = 7) := by have := f1.out; rw [if_neg hz] at this; exact this
      clear hz f1
      go_wp2_with fail
      go_ret
      exact ⟨ret_i64 f2.out.symm, hB2⟩

/-- the document's answer to a call: a list and a number -/
def RAns (n : Int) (P : List Tr → Prop) (w : World) (e : Ending) (w' : World) : Prop := RowKit.Below w.heap.size w w' ∧ ∃ (m : List Tr) (ad : Option Addr) (c : Nat), e = .returned (.tuple #[.slice ad m.length c, .int .i64 n]) ∧ SlT w' ad m ∧ P m
theorem RAns.mk {n : Int} {P : List Tr → Prop} {w w' : World} (hb : RowKit.Below w.heap.size w w') (m : List Tr) (ad : Option Addr) (c : Nat) (hs : SlT w' ad m) (hp : P m) : RAns n P w (.returned (.tuple #[.slice ad m.length c, .int .i64 n])) w' := ⟨hb, m, ad, c, rfl, hs, hp⟩
/-- and a layer and a number -/
def RLAns (n : Int) (P : List Tr → List Tr → Prop) (w : World) (e : Ending) (w' : World) : Prop := RowKit.Below w.heap.size w w' ∧ ∃ (m1 : List Tr) (a1 : Option Addr) (c1 : Nat) (m2 : List Tr) (a2 : Option Addr) (c2 : Nat), e = .returned (.tuple #[.agg #[.slice a1 m1.length c1, .slice a2 m2.length c2], .int .i64 n]) ∧ SlT w' a1 m1 ∧ SlT w' a2 m2 ∧ P m1 m2
theorem RLAns.mk {n : Int} {P : List Tr → List Tr → Prop} {w w' : World} (hb : RowKit.Below w.heap.size w w') (m1 : List Tr) (a1 : Option Addr) (c1 : Nat) (m2 : List Tr) (a2 : Option Addr) (c2 : Nat) (h1 : SlT w' a1 m1) (h2 : SlT w' a2 m2) (hp : P m1 m2) : RLAns n P w (.returned (.tuple #[.agg #[.slice a1 m1.length c1, .slice a2 m2.length c2], .int .i64 n])) w' := ⟨hb, m1, a1, c1, m2, a2, c2, rfl, h1, h2, hp⟩

theorem rapply_keep {B : Nat} {sd ad bd : Option Addr} {ca cb : Nat} {s a b : List Tr} {W W' : World} (h : W.cell? ⟨B, 0, none⟩ = some (.slice ad a.length ca) ∧ W.cell? ⟨B, 1, none⟩ = some (.slice bd b.length cb) ∧ SlT W sd s ∧ SlT W ad a ∧ SlT W bd b) (hb : RowKit.Below W.heap.size W W') : W'.cell? ⟨B, 0, none⟩ = some (.slice ad a.length ca) ∧ W'.cell? ⟨B, 1, none⟩ = some (.slice bd b.length cb) ∧ SlT W' sd s ∧ SlT W' ad a ∧ SlT W' bd b :=
  ⟨(hb.cell (World.block_lt_of_cell? W _ h.1)).trans h.1, (hb.cell (World.block_lt_of_cell? W _ h.2.1)).trans h.2.1, h.2.2.1.below hb, h.2.2.2.1.below hb, h.2.2.2.2.below hb⟩

/-- the numbers of Apply, both right -/
theorem applyN_right {s a b : List Tr} (ss : IsSet s) (sa : IsSet a) (sb : IsSet b) (hab : apartN a b = 0) :
    applyN s a b = if (bothL a s).length = 0 then (if (lessL b s).length = 0 then (if (lessL s b).length + (lessL a (lessL s b)).length ≤ 200 then 0 else 4) else 5) else 7 := by
  unfold applyN
  rw [orN_pos (sortedN_set.2 ss), orN_pos hab]
  unfold apartN withinN swapN joinN
  rw [orN_pos (bothN_zero.2 ⟨ss, sa⟩), orN_pos (bothN_zero.2 ⟨sb, ss⟩), orN_pos (bothN_zero.2 ⟨ss, sb⟩), if_pos (bothN_zero.2 ⟨lessSet ss, sa⟩)]
  by_cases h1 : (bothL a s).length = 0
  · rw [if_pos h1, if_pos (both_none.1 h1), orN_pos rfl]
    by_cases h2 : (lessL b s).length = 0
    · rw [if_pos h2, if_pos h2, orN_pos rfl]
    · rw [if_neg h2, if_neg h2, orN_neg (by decide)]
  · rw [if_neg h1, if_neg (fun h => h1 (both_none.2 h)), orN_neg (by decide)]

end Go.Proofs.YtonmmnhikjfibadGreatDoor
