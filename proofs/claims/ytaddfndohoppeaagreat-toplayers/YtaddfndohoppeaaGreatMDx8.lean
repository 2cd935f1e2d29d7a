import Derived.Test.YtaddfndohoppeaaGreatMDx6
import Derived.Test.YtaddfndohoppeaaGreatMDx7
import Derived.Test.YtaddfndohoppeaaGreatMA0x3
import Derived.Deep.AppendLies
import Derived.Deep.RegionHeld3
import Derived.Deep.DeepCutAuto
import Derived.RangeFuncNested
import Derived.RangeFuncLeaves
import Derived.Maps.Range

/- The program's patch: has, withNext: a set with the triple of a text behind all others. -/
namespace Go.Proofs.YtaddfndohoppeaaGreat
open Go Go.RowKit Go.Proofs
set_option synthInstance.maxSize 1000
attribute [local go_sem] eql_errV neq_errV guard_errV

theorem PHas_any (ad : Option Addr) (cap : Nat) (l : List Tr) (t : Tr) (w : World) (h : SlT w ad l) (hr : Rising l) (h200 : l.length ≤ 200) :
    Calls Tryz.prog 150 #[.slice ad l.length cap, valTr t] w fun e w' => e = .returned (.bool (decide (t ∈ l))) ∧ RowKit.Below w.heap.size w w' := by
  have H := fun W (hW : RowKit.Below w.heap.size w W) => Bin_any ad cap l t W (h.below hW) hr h200
  generalize decide (t ∈ l) = d at *
  clear h hr
  unfold valTr at *
  go_enter Tryz.func150, Tryz.ntmps150
  go_wp2_with fail
  refine (H _ (balloc _ _)).mono ?_
  rintro e w1 ⟨i, rfl, hb1⟩
  dsimp only
  go_wp2_with fail
  go_ret
  exact ⟨rfl, bstep (balloc _ _) hb1⟩

/-- what is wrong with a triple that comes behind a set, the other set beside it -/
def nextN (m o : List Tr) (x : Tr) : Int := if stuckB m x = true then 6 else if x ∈ o then 7 else if 200 ≤ m.length then 4 else 0
def saidN (m o : List Tr) (s : List UInt8) : Int := if tparseN s ≠ 0 then tparseN s else nextN m o (tparseT s)
/-- what is answered: an error, or the set with one triple more -/
def NextAns (B : Nat) (v : Value) (m o : List Tr) (s : List UInt8) (w : World) (e : Ending) (w' : World) : Prop :=
  (saidN m o s ≠ 0 ∧ e = .returned (.tuple #[.slice none 0 0, errV (saidN m o s)]) ∧ RowKit.Below w.heap.size w w') ∨
  (saidN m o s = 0 ∧ ∃ g cap, e = .returned (.tuple #[.slice (some ⟨g, 0, none⟩) (m.length + 1) cap, .nilIface]) ∧ w'.ownsRow B 58 9 (.slice (some ⟨g, 0, none⟩) (m.length + 1) cap) (m.length + 1) (cellsT (m ++ [tparseT s])) ∧ w.grownBy w' v.ownBlock ∧ (v.ownBlock = some g ∨ w.heap.size ≤ g))
theorem NextAns.bad {B : Nat} {v : Value} {m o : List Tr} {s : List UInt8} {w w' : World} {N : Int} (h : saidN m o s = N) (h0 : N ≠ 0) (hb : RowKit.Below w.heap.size w w') : NextAns B v m o s w (.returned (.tuple #[.slice none 0 0, errV N])) w' := by
  subst h
  exact .inl ⟨h0, rfl, hb⟩
theorem newTrN (W : World) (x : Tr) : ∀ (j : Nat) u, (encTr x)[j]? = some u → (W.alloc (.cells (encTr x).toArray 58)).cell? (Addr.add ⟨W.heap.size, 0, none⟩ j) = some u := fun j u hu => by
  have h9 : j < 9 := (List.getElem?_eq_some_iff.1 hu).1
  rw [Addr.add_lit]
  rcases (by omega : j = 0 ∨ j = 1 ∨ j = 2 ∨ j = 3 ∨ j = 4 ∨ j = 5 ∨ j = 6 ∨ j = 7 ∨ j = 8) with rfl | rfl | rfl | rfl | rfl | rfl | rfl | rfl | rfl
  all_goals
    simp [encTr] at hu
    subst hu
    unfold encTr
    go_simp

set_option maxHeartbeats 8000000 in
set_option maxRecDepth 100000 in
theorem PNext_bad (B : Nat) (v : Value) (ad : Option Addr) (ca : Nat) (m : List Tr) (od : Option Addr) (oc : Nat) (o : List Tr) (s : List UInt8) (w : World) (hs : s.length ≤ 140737488355328) (hN : tparseN s ≠ 0) :
    Calls Tryz.prog 105 #[.slice ad m.length ca, .slice od o.length oc, .string ⟨s.toArray⟩] w (NextAns B v m o s w) := by
  have HP := fun W => TParse_any s W hs
  have fin : Hid (saidN m o s = tparseN s) := by show _ = _; unfold saidN; rw [if_pos hN]
  have hN' : (tparseN s == 0) = false := by simpa using hN
  have HN : Hid (tparseN s ≠ 0) := hN
  clear hN
  unfold valTr at HP
  generalize tparseN s = N at *
  generalize tparseT s = x at *
  generalize hQ : NextAns B v m o s w = Q
  have HQ : Hid (NextAns B v m o s w = Q) := hQ
  clear hQ
  go_enter Tryz.func105, Tryz.ntmps105
  go_wp2_with fail
  refine (HP _).mono ?_
  rintro e w1 ⟨rfl, hb1⟩
  dsimp only
  go_wp2_with fail
  rw [← HQ.out]
  exact NextAns.bad fin.out HN.out (bstep hb1 (balloc _ _))

theorem or_rightN {a b c : Prop} (h : a ∨ b) (f : b → c) : a ∨ c := by
  rcases h with h | h
  · exact .inl h
  · exact .inr (f h)
theorem grown_belowN {w w' : World} (h : RowKit.Below w.heap.size w w') (row : Option Nat) : w.grownBy w' row := ⟨h.os, h.tape, h.output, h.size, fun i hi _ => h.block i hi⟩
theorem nineboxN {w W : World} {x : Tr} (hb : RowKit.Below (w.alloc (.cells (encTr x).toArray 58)).heap.size (w.alloc (.cells (encTr x).toArray 58)) W) :
    W.cell? ⟨w.heap.size, 0, none⟩ = some (.int .i64 x.1.1) ∧ W.cell? ⟨w.heap.size, 1, none⟩ = some (.string ⟨x.1.2.1.toArray⟩) ∧ W.cell? ⟨w.heap.size, 2, none⟩ = some (.string ⟨x.1.2.2.toArray⟩) ∧ W.cell? ⟨w.heap.size, 3, none⟩ = some (.int .i64 x.2.1.1) ∧ W.cell? ⟨w.heap.size, 4, none⟩ = some (.string ⟨x.2.1.2.1.toArray⟩) ∧ W.cell? ⟨w.heap.size, 5, none⟩ = some (.string ⟨x.2.1.2.2.toArray⟩) ∧ W.cell? ⟨w.heap.size, 6, none⟩ = some (.int .i64 x.2.2.1) ∧ W.cell? ⟨w.heap.size, 7, none⟩ = some (.string ⟨x.2.2.2.1.toArray⟩) ∧ W.cell? ⟨w.heap.size, 8, none⟩ = some (.string ⟨x.2.2.2.2.toArray⟩) := by
  obtain ⟨a0, a1, a2, a3, a4, a5, a6, a7, a8, _⟩ := ninebox hb
  exact ⟨a0, a1, a2, a3, a4, a5, a6, a7, a8⟩

set_option maxHeartbeats 16000000 in
set_option maxRecDepth 100000 in
theorem PNext_good (B : Nat) (ad : Option Addr) (ca : Nat) (m : List Tr) (od : Option Addr) (oc : Nat) (o : List Tr) (s : List UInt8) (w : World) (hown : w.ownsRow B 58 9 (.slice ad m.length ca) m.length (cellsT m)) (ho : SlT w od o) (hro : Rising o) (ho2 : o.length ≤ 200) (hm2 : m.length ≤ 200) (hs : s.length ≤ 140737488355328) (hB : B ≤ w.heap.size) (hN : tparseN s = 0) :
    Calls Tryz.prog 105 #[.slice ad m.length ca, .slice od o.length oc, .string ⟨s.toArray⟩] w (NextAns B (.slice ad m.length ca) m o s w) := by
  have HP := fun W => TParse_any s W hs
  have fin : Hid (saidN m o s = nextN m o (tparseT s)) := by show _ = _; unfold saidN; rw [if_neg (by simpa using hN)]
  have HH := fun W (hW : RowKit.Below w.heap.size w W) => PHas_any od oc o (tparseT s) W (ho.below hW) hro ho2
  rw [hN, show errV 0 = .nilIface from rfl] at HP
  have Hown : Hid (w.ownsRow B 58 9 (.slice ad m.length ca) m.length (cellsT m)) := hown
  have Hadd : Hid (∀ g cap w', w'.ownsRow B 58 9 (.slice (some ⟨g, 0, none⟩) (m.length + 1) cap) (m.length + 1) (cellsT (m ++ [tparseT s])) → w.grownBy w' (Value.slice ad m.length ca).ownBlock → ((Value.slice ad m.length ca).ownBlock = some g ∨ w.heap.size ≤ g) → nextN m o (tparseT s) = 0 → NextAns B (.slice ad m.length ca) m o s w (.returned (.tuple #[.slice (some ⟨g, 0, none⟩) (m.length + 1) cap, .nilIface])) w') := fun g cap w' h1 h2 h3 h4 => .inr ⟨fin.out.trans h4, g, cap, rfl, h1, h2, h3⟩
  have Hbad : Hid (∀ N w', nextN m o (tparseT s) = N → N ≠ 0 → RowKit.Below w.heap.size w w' → NextAns B (.slice ad m.length ca) m o s w (.returned (.tuple #[.slice none 0 0, errV N])) w') := fun N w' h1 h2 h3 => NextAns.bad (fin.out.trans h1) h2 h3
  have Hso : Hid (SlT w od o) := ho
  have HC := fun y W => CmpTr_any y (tparseT s) W
  clear fin ho hro hN
  generalize NextAns B (.slice ad m.length ca) m o s w = Q at *
  unfold valTr at HP HH HC
  generalize tparseT s = x at *
  obtain ⟨i0, hi, hz⟩ := Option.map_eq_some_iff.1 infoTr
  simp only [Prod.mk.injEq] at hz
  obtain ⟨hz0, hz1, hz2⟩ := hz
  by_cases hm : m = []
  · subst hm
    have hst : stuckB [] x = false := rfl
    clear hown HC
    go_enter Tryz.func105, Tryz.ntmps105
    go_wp2_with fail
    refine (HP _).mono ?_
    rintro e w1 ⟨rfl, hb1⟩
    dsimp only
    go_wp2_with fail
    go_region
    go_wp2_with fail
    have hB2 : RowKit.Below w.heap.size w (w1.alloc (.cells (encTr x).toArray 58)).drew := (bstep hb1 (balloc _ _)).drew
    have hbox : ∀ W, RowKit.Below (w1.alloc (.cells (encTr x).toArray 58)).drew.heap.size (w1.alloc (.cells (encTr x).toArray 58)).drew W → _ := fun W h => nineboxN (bdrewB h)
    refine (HH _ hB2).mono ?_
    rintro e w4 ⟨rfl, hb4⟩
    have hB4 : RowKit.Below w.heap.size w w4 := bstep hB2 hb4
    obtain ⟨a0, a1, a2, a3, a4, a5, a6, a7, a8⟩ := hbox w4 hb4
    by_cases hx : x ∈ o
    · have hd : decide (x ∈ o) = true := by simpa using hx
      rw [hd]
      dsimp only
      go_wp2_with fail
      exact Hbad.out 7 _ (by unfold nextN; rw [if_neg (by rw [hst]; decide), if_pos hx]) (by decide) hB4
    · have hd : decide (x ∈ o) = false := by simpa using hx
      rw [hd]
      dsimp only
      have Hrow : Hid (w4.ownsRow B 58 9 (.slice ad 0 ca) 0 (cellsT [])) := ownsRow_below Hown.out hB4
      have hz4 := hB4.size
      have hfin := Hadd.out
      have hnx : Hid (nextN [] o x = 0) := by
        show _ = _
        unfold nextN
        rw [if_neg (by rw [hst]; decide), if_neg hx, if_neg (by simp)]
      go_wp2_with (at_builtin; refine wpList_append_lies _ rfl _ _ 33 rfl B 58 i0 (.agg (encTr zeroTr).toArray) 9 120 Tryz.underlying33 hi hz0 hz1 hz2 rfl (by decide) (.slice ad 0 ca) 0 (cellsT []) rfl (Hrow.out.alloc _) ⟨w4.heap.size, 0, none⟩ 1 1 (encTr x) rfl rfl (newTrN w4 x) (encTr_one x) (by decide) (by unfold maxLen; omega) (by omega) (by simp; omega) _ rfl ?_; intro g cap w9 hown9 hg9 hat9 hlt9)
      exact hfin g cap w9 (by simpa [cellsT] using hown9) ((grown_belowN hB4 _).trans ((World.grownBy_alloc w4 _ _).trans hg9)) (or_rightN hat9 fun e => by simp at e; omega) hnx.out

  · obtain ⟨k, hk⟩ : ∃ k, m.length = k + 1 := ⟨m.length - 1, by have := List.length_pos_iff.2 hm; omega⟩
    have hkl : k < m.length := by omega
    obtain ⟨ad1, ca1, e1, hsl⟩ := own_slT hown
    have e2 := (Value.slice.inj e1).1
    rw [← e2] at hsl
    clear e2
    obtain ⟨b, off, rfl, hrow⟩ := hsl.at k hkl
    have hst : stuckB m x = decide (0 ≤ cmpTr m[k] x) := by
      rw [show stuckB m x = (match m.getLast? with | some y => decide (0 ≤ cmpTr y x) | none => false) from rfl, List.getLast?_eq_getElem?, show m.length - 1 = k by omega, List.getElem?_eq_getElem hkl]
    have Hcell := fun W (hW : RowKit.Below w.heap.size w W) => (hrow.below hW).at k hkl
    have HC := HC m[k]
    generalize m[k] = y at *
    generalize cmpTr y x = c at *
    have i0' : (0 : Int) ≤ (k : Int) := by omega
    have i1 : (k : Int) < (k : Int) + 1 := by omega
    have hk200 : k + 1 ≤ 200 := by omega
    have wk1 : IntKind.i64.wrap ((k : Int) + 1 - 1) = (k : Int) := by simp [IntKind.wrap, IntKind.bits, IntKind.signed]; omega
    have wk2 : IntKind.i64.wrap (k : Int) = (k : Int) := by simp [IntKind.wrap, IntKind.bits, IntKind.signed]; omega
    have i3 : (k : Int) < ((k + 1 : Nat) : Int) := by omega
    have i4 : k < k + 1 := by omega
    have Hk : Hid (m.length = k + 1) := hk
    rw [hk] at Hown Hadd ⊢
    have Hst : Hid (stuckB m x = decide (0 ≤ c)) := hst
    clear hown e1 hsl hrow hk hm hst hm2 hkl
    by_cases hc : 0 ≤ c
    · have hd : decide (0 ≤ c) = true := by simpa using hc
      have hq : Hid (nextN m o x = 6) := by show _ = _; unfold nextN; rw [Hst.out, hd, if_pos rfl]
      go_enter Tryz.func105, Tryz.ntmps105
      go_wp2_with fail
      refine (HP _).mono ?_
      rintro e w1 ⟨rfl, hb1⟩
      dsimp only
      obtain ⟨d0, d1, d2, d3, d4, d5, d6, d7, d8⟩ := Hcell _ hb1
      go_wp2_with fail
      go_region_held3 (fun W => W.cell? ⟨b, off + k * 9, none⟩ = some (.int .i64 y.1.1) ∧ W.cell? ⟨b, off + k * 9 + 1, none⟩ = some (.string ⟨y.1.2.1.toArray⟩) ∧ W.cell? ⟨b, off + k * 9 + 2, none⟩ = some (.string ⟨y.1.2.2.toArray⟩) ∧ W.cell? ⟨b, off + k * 9 + 3, none⟩ = some (.int .i64 y.2.1.1) ∧ W.cell? ⟨b, off + k * 9 + 4, none⟩ = some (.string ⟨y.2.1.2.1.toArray⟩) ∧ W.cell? ⟨b, off + k * 9 + 5, none⟩ = some (.string ⟨y.2.1.2.2.toArray⟩) ∧ W.cell? ⟨b, off + k * 9 + 6, none⟩ = some (.int .i64 y.2.2.1) ∧ W.cell? ⟨b, off + k * 9 + 7, none⟩ = some (.string ⟨y.2.2.2.1.toArray⟩) ∧ W.cell? ⟨b, off + k * 9 + 8, none⟩ = some (.string ⟨y.2.2.2.2.toArray⟩) ∧ W.cell? ⟨w1.heap.size, 0, none⟩ = some (.int .i64 x.1.1) ∧ W.cell? ⟨w1.heap.size, 1, none⟩ = some (.string ⟨x.1.2.1.toArray⟩) ∧ W.cell? ⟨w1.heap.size, 2, none⟩ = some (.string ⟨x.1.2.2.toArray⟩) ∧ W.cell? ⟨w1.heap.size, 3, none⟩ = some (.int .i64 x.2.1.1) ∧ W.cell? ⟨w1.heap.size, 4, none⟩ = some (.string ⟨x.2.1.2.1.toArray⟩) ∧ W.cell? ⟨w1.heap.size, 5, none⟩ = some (.string ⟨x.2.1.2.2.toArray⟩) ∧ W.cell? ⟨w1.heap.size, 6, none⟩ = some (.int .i64 x.2.2.1) ∧ W.cell? ⟨w1.heap.size, 7, none⟩ = some (.string ⟨x.2.2.2.1.toArray⟩) ∧ W.cell? ⟨w1.heap.size, 8, none⟩ = some (.string ⟨x.2.2.2.2.toArray⟩)) (first | exact keep18 (by assumption) hb2 | go_keep) (first
        | (go_simp; go_at_call 47; refine (HC _).mono ?_; rintro e w2 ⟨rfl, hb2⟩; dsimp only))
      go_wp2_with fail
      exact Hbad.out 6 _ hq.out (by decide) (bstep (bstep hb1 (balloc _ _)).drew hb2.below)
    · have hd : decide (0 ≤ c) = false := by simpa using hc
      have hst : stuckB m x = false := Hst.out.trans hd
      clear Hst
      go_enter Tryz.func105, Tryz.ntmps105
      go_wp2_with fail
      refine (HP _).mono ?_
      rintro e w1 ⟨rfl, hb1⟩
      dsimp only
      obtain ⟨d0, d1, d2, d3, d4, d5, d6, d7, d8⟩ := Hcell _ hb1
      go_wp2_with fail
      go_region_held3 (fun W => W.cell? ⟨b, off + k * 9, none⟩ = some (.int .i64 y.1.1) ∧ W.cell? ⟨b, off + k * 9 + 1, none⟩ = some (.string ⟨y.1.2.1.toArray⟩) ∧ W.cell? ⟨b, off + k * 9 + 2, none⟩ = some (.string ⟨y.1.2.2.toArray⟩) ∧ W.cell? ⟨b, off + k * 9 + 3, none⟩ = some (.int .i64 y.2.1.1) ∧ W.cell? ⟨b, off + k * 9 + 4, none⟩ = some (.string ⟨y.2.1.2.1.toArray⟩) ∧ W.cell? ⟨b, off + k * 9 + 5, none⟩ = some (.string ⟨y.2.1.2.2.toArray⟩) ∧ W.cell? ⟨b, off + k * 9 + 6, none⟩ = some (.int .i64 y.2.2.1) ∧ W.cell? ⟨b, off + k * 9 + 7, none⟩ = some (.string ⟨y.2.2.2.1.toArray⟩) ∧ W.cell? ⟨b, off + k * 9 + 8, none⟩ = some (.string ⟨y.2.2.2.2.toArray⟩) ∧ W.cell? ⟨w1.heap.size, 0, none⟩ = some (.int .i64 x.1.1) ∧ W.cell? ⟨w1.heap.size, 1, none⟩ = some (.string ⟨x.1.2.1.toArray⟩) ∧ W.cell? ⟨w1.heap.size, 2, none⟩ = some (.string ⟨x.1.2.2.toArray⟩) ∧ W.cell? ⟨w1.heap.size, 3, none⟩ = some (.int .i64 x.2.1.1) ∧ W.cell? ⟨w1.heap.size, 4, none⟩ = some (.string ⟨x.2.1.2.1.toArray⟩) ∧ W.cell? ⟨w1.heap.size, 5, none⟩ = some (.string ⟨x.2.1.2.2.toArray⟩) ∧ W.cell? ⟨w1.heap.size, 6, none⟩ = some (.int .i64 x.2.2.1) ∧ W.cell? ⟨w1.heap.size, 7, none⟩ = some (.string ⟨x.2.2.2.1.toArray⟩) ∧ W.cell? ⟨w1.heap.size, 8, none⟩ = some (.string ⟨x.2.2.2.2.toArray⟩)) (first | exact keep18 (by assumption) hb2 | go_keep) (first
        | (go_simp; go_at_call 47; refine (HC _).mono ?_; rintro e w2 ⟨rfl, hb2⟩; dsimp only))
      have hW : RowKit.Below (w1.alloc (.cells (encTr x).toArray 58)).heap.size (w1.alloc (.cells (encTr x).toArray 58)) w2 := bdrewB hb2.below
      have hB2 : RowKit.Below w.heap.size w w2 := bstep (bstep hb1 (balloc _ _)) hW
      have hbox : ∀ W, RowKit.Below w2.heap.size w2 W → _ := fun W h => nineboxN (bstep hW h)
      obtain ⟨z0, z1, z2, z3, z4, z5, z6, z7, z8⟩ := hbox w2 (RowKit.Below.refl _ _)
      clear hb2 d0 d1 d2 d3 d4 d5 d6 d7 d8
      go_wp2_with fail
      refine (HH _ hB2).mono ?_
      rintro e w4 ⟨rfl, hb4⟩
      have hB4 : RowKit.Below w.heap.size w w4 := bstep hB2 hb4
      obtain ⟨a0, a1, a2, a3, a4, a5, a6, a7, a8⟩ := hbox w4 hb4
      by_cases hx : x ∈ o
      · have hd : decide (x ∈ o) = true := by simpa using hx
        rw [hd]
        dsimp only
        go_wp2_with fail
        exact Hbad.out 7 _ (by unfold nextN; rw [if_neg (by rw [hst]; decide), if_pos hx]) (by decide) hB4
      · have hd : decide (x ∈ o) = false := by simpa using hx
        rw [hd]
        dsimp only
        by_cases hf : k = 199
        · have hf' : ((k : Int) + 1 == 200) = true := by simp; omega
          have Hf : Hid (200 ≤ m.length) := by show 200 ≤ m.length; rw [Hk.out]; omega
          clear hf
          go_wp2_with fail
          exact Hbad.out 4 _ (by unfold nextN; rw [if_neg (by rw [hst]; decide), if_neg hx, if_pos Hf.out]) (by decide) hB4
        · have hf' : ((k : Int) + 1 == 200) = false := by simp; omega
          have Hrow : Hid (w4.ownsRow B 58 9 (.slice (some ⟨b, off, none⟩) (k + 1) ca) (k + 1) (cellsT m)) := ownsRow_below Hown.out hB4
          have hz4 := hB4.size
          have hfin := Hadd.out
          have hnx : Hid (nextN m o x = 0) := by
            show _ = _
            unfold nextN
            rw [if_neg (by rw [hst]; decide), if_neg hx, if_neg (by rw [Hk.out]; omega)]
          go_wp2_with (at_builtin; refine wpList_append_lies _ rfl _ _ 33 rfl B 58 i0 (.agg (encTr zeroTr).toArray) 9 120 Tryz.underlying33 hi hz0 hz1 hz2 rfl (by decide) (.slice (some ⟨b, off, none⟩) (k + 1) ca) (k + 1) (cellsT m) rfl (Hrow.out.alloc _) ⟨w4.heap.size, 0, none⟩ 1 1 (encTr x) rfl rfl (newTrN w4 x) (encTr_one x) (by decide) (by unfold maxLen; omega) (by omega) (by simp; omega) _ rfl ?_; intro g cap w9 hown9 hg9 hat9 hlt9)
          exact hfin g cap w9 (by simpa [cellsT] using hown9) ((grown_belowN hB4 _).trans ((World.grownBy_alloc w4 _ _).trans hg9)) (or_rightN hat9 fun e => by simp at e; omega) hnx.out

theorem PNext_any (B : Nat) (ad : Option Addr) (ca : Nat) (m : List Tr) (od : Option Addr) (oc : Nat) (o : List Tr) (s : List UInt8) (w : World) (hown : w.ownsRow B 58 9 (.slice ad m.length ca) m.length (cellsT m)) (ho : SlT w od o) (hro : Rising o) (ho2 : o.length ≤ 200) (hm2 : m.length ≤ 200) (hs : s.length ≤ 140737488355328) (hB : B ≤ w.heap.size) :
    Calls Tryz.prog 105 #[.slice ad m.length ca, .slice od o.length oc, .string ⟨s.toArray⟩] w (NextAns B (.slice ad m.length ca) m o s w) := by
  by_cases hN : tparseN s = 0
  · exact PNext_good B ad ca m od oc o s w hown ho hro ho2 hm2 hs hB hN
  · exact PNext_bad B _ ad ca m od oc o s w hs hN
end Go.Proofs.YtaddfndohoppeaaGreat

/- A range over a function whose iterator keeps what is left in a box of its own (strings.Lines does): the loop's law, over whatever program. -/
namespace Go.Proofs.YtaddfndohoppeaaGreat
open Go Go.RowKit Go.Proofs

/-- new blocks and whatever is written into block Bs leave it -/
def BoxFree {β : Type} (Bs : Nat) (J : β → World → Prop) : Prop := ∀ s A B row, J s A → A.grownBy B row → (∀ r, row = some r → r = Bs) → J s B
/-- and what is turned from block D on and is no row of cells -/
def Steady {β : Type} (D Bs : Nat) (J : β → World → Prop) : Prop := ∀ s A B row, J s A → A.grownBy B row → (∀ r, row = some r → r = Bs ∨ (D ≤ r ∧ ∃ o : Obj, A.heap[r]? = some o ∧ o.isCells = false)) → J s B
theorem Steady.put {β : Type} {D Bs l : Nat} {J : β → World → Prop} (h : Steady D Bs J) {s : β} {W : World} {o : Obj} (hs : J s W) (hl : W.heap[l]? = some o) (hD : D ≤ l) (ho : o.isCells = false) (o' : Obj) : J s (W.putObj l o') :=
  h s W _ (some l) hs (grownBy_putObj' W l o') fun r e => .inr (by cases e; exact ⟨hD, o, hl, ho⟩)
theorem Steady.new {β : Type} {D Bs : Nat} {J : β → World → Prop} (h : Steady D Bs J) {s : β} {W : World} (hs : J s W) (o : Obj) : J s (W.alloc o) :=
  h s W _ none hs (World.grownBy_alloc W o none) fun r e => by cases e
/-- an iterator's word: it tells members of S in order; what is left lies in block Bs, which the rounds leave alone -/
def SeqBox {α : Type} (F : Fence) (n : Nat) (P : Program) (g : Nat) (lb : Array Value) (enc : α → Array Value) (Bs : Nat) (S T : List α → Prop) (w : World) : Prop :=
  ∀ (l : Nat) (J K : List α → World → Prop) (W : World), W.heap[Bs]? = w.heap[Bs]? → BoxFree Bs J → BoxFree Bs K →
    (∀ pre x V, J pre V → YieldAt F (n - 1) P l (enc x) V fun e V' => (e = .returned (.bool true) ∧ J (pre ++ [x]) V' ∧ V'.heap[Bs]? = V.heap[Bs]?) ∨ (e = .returned (.bool false) ∧ K (pre ++ [x]) V')) →
    J [] W → CallsIn F n P g (#[.func (.yield l) #[] #[]] ++ lb) W fun e W' => (∃ v, e = .returned v) ∧ ((∃ xs, S xs ∧ J xs W') ∨ (∃ xs, T xs ∧ K xs W'))
/-- the loop's record, and the block of what its rounds put off -/
structure Marks (D : Nat) (r : Loop) (W : World) : Prop where
  loop : W.heap[D + 1]? = some (.loop r)
  late : W.heap[D]? = some (.deferred (some []))
theorem Marks.free {D Bs : Nat} {r : Loop} {A B : World} {row : Option Nat} (h : Marks D r A) (hBs : Bs < D) (hg : A.grownBy B row) (hr : ∀ x, row = some x → x = Bs) : Marks D r B := by
  have hne : ∀ k, D ≤ k → some k ≠ row := fun k hk e => by have := hr k e.symm; omega
  exact ⟨(hg.block _ (Array.getElem?_eq_some_iff.1 h.loop).1 (hne _ (by omega))).trans h.loop, (hg.block _ (Array.getElem?_eq_some_iff.1 h.late).1 (hne _ (Nat.le_refl _))).trans h.late⟩
theorem Marks.keep {D : Nat} {r : Loop} {A B : World} (h : Marks D r A) (hk : KeepsFrom D A B) : Marks D r B := ⟨hk.same _ _ (by omega) h.loop rfl, hk.same _ _ (Nat.le_refl _) h.late rfl⟩
theorem Marks.turn {D : Nat} {r : Loop} {W : World} (h : Marks D r W) (r' : Loop) : Marks D r' (W.putObj (D + 1) (.loop r')) :=
  ⟨World.putObj_heap_same (Array.getElem?_eq_some_iff.1 h.loop).1, (World.putObj_heap_other (by omega)).trans h.late⟩
/-- how a round's body may be left: off its end, or by return -/
def boxPost {α : Type} (D Bs : Nat) (I X : List α → World → Prop) (xs : List α) (W : World) : Exit → Act → World → Prop
  | .normal, _, W' => KeepsFrom D W W' ∧ W'.heap[Bs]? = W.heap[Bs]? ∧ I xs W'
  | .ret, _, W' => KeepsFrom D W W' ∧ X xs W'
  | _, _, _ => False

variable {F : Fence} {n : Nat} {P : Program}

/-- one round, as the iterator meets it -/
theorem round_box {α : Type} {fn : FuncId} (hfn : F.fn fn) {D Bs : Nat} (hBs : Bs < D) {ps : Array Tmp} {assign body : Code} {tmps : Array Value} {enc : α → Array Value} (hps : ∀ x, (enc x).size = ps.size)
    {I X : List α → World → Prop} (hI : Steady D Bs I) (hX : Steady D Bs X) {at1 : α → Act}
    (hassign : ∀ (x : α) (W : World) (K : Act → World → Prop), K (at1 x) W → assign.wpIn (F.inRound (D + 1)) n P (Exit.then K (fun _ _ _ => False)) { tmps := (ps.zip (enc x)).foldl (fun t (p, v) => t.setIfInBounds p v) tmps, defers := [] } W)
    (hbody : ∀ (pre : List α) (x : α) (W : World), I pre W → body.wpIn (F.inRound (D + 1)) n P (boxPost D Bs I X (pre ++ [x]) W) (at1 x) W)
    {st : LoopState → Option Code → Loop} (hst : st = fun s p => { state := s, pending := p, fn, tmps, params := ps, assign, body, defers := D })
    (pre : List α) (x : α) (V : World) (hi : I pre V) (hm : Marks D (st .ready none) V) :
    YieldAt F n P (D + 1) (enc x) V fun e V' => (e = .returned (.bool true) ∧ (I (pre ++ [x]) V' ∧ Marks D (st .ready none) V') ∧ V'.heap[Bs]? = V.heap[Bs]?) ∨ (e = .returned (.bool false) ∧ X (pre ++ [x]) V' ∧ Marks D (st .done (some .ret)) V') := by
  have hy := run_yield (P := P) (args := enc x) hm.loop (by rw [hst]; exact hps x)
  have hfin : ∀ (j : Option Code) (V2 : World), Marks D { st .ready none with state := .busy } V2 → (Instr.endRound (D + 1) j).run P V2 = .ok (.bool j.isNone) (V2.putObj (D + 1) (.loop (st (if j.isNone then .ready else .done) j))) := fun j V2 h2 => by
    have := run_endRound (P := P) j h2.loop
    rw [hst] at this ⊢
    exact this
  have hbeg := run_beginRound (P := P) hm.loop (by rw [hst])
  have hm1 := hm.turn { st .ready none with state := .busy }
  have hi1 : I pre (V.putObj (D + 1) (.loop { st .ready none with state := .busy })) := hI.put hi hm.loop (by omega) rfl _
  have hs1 : (V.putObj (D + 1) (.loop { st .ready none with state := .busy })).heap[Bs]? = V.heap[Bs]? := World.putObj_heap_other (by omega)
  generalize V.putObj (D + 1) (.loop { st .ready none with state := .busy }) = V1 at hbeg hm1 hi1 hs1
  refine ⟨_, _, _, _, hy, roundIn_of_wpIn (by rw [hst]; exact hfn) ?_⟩
  rw [hst]
  refine hassign x V _ ⟨V1, hbeg, wpIn_mono (hbody pre x V1 hi1) ?_⟩
  rintro e a V2 hp
  cases e with
  | normal =>
    obtain ⟨hk, hb, hi2⟩ := hp
    have hm2 := hm1.keep hk
    exact ⟨_, _, hfin none V2 hm2, .inl ⟨rfl, ⟨hI.put hi2 hm2.loop (by omega) rfl _, by rw [hst]; exact hm2.turn _⟩, ((World.putObj_heap_other (by omega)).trans hb).trans hs1⟩⟩
  | ret =>
    obtain ⟨hk, hi2⟩ := hp
    have hm2 := hm1.keep hk
    exact ⟨_, _, hfin (some .ret) V2 hm2, .inr ⟨rfl, hX.put hi2 hm2.loop (by omega) rfl _, by rw [hst]; exact hm2.turn _⟩⟩
  | exit id => exact hp.elim
  | goto t => exact hp.elim
  | panic c => exact hp.elim
  | outgrown => exact hp.elim

/-- the loop -/
theorem range_box {α : Type} {g : Operand} {ps : Array Tmp} {assign body : Code} {Q : Exit → Act → World → Prop} {a : Act} {w : World} (hro : F.round = none) (h1 : 1 ≤ n)
    {gf : Nat} {lb : Array Value} (hg : a.eval g = .func (.func gf) #[] lb) (hFg : F.fn gf) (eg : ∀ args w, (callFunc gf args).run P w = .ok (.enter gf args) w)
    {enc : α → Array Value} {Bs : Nat} (hBs : Bs < w.heap.size) {S T : List α → Prop} (hseq : SeqBox F (n - 1) P gf lb enc Bs S T w) (hps : ∀ x, (enc x).size = ps.size)
    (I X : List α → World → Prop) (hI : Steady w.heap.size Bs I) (hX : Steady w.heap.size Bs X) (h0 : I [] w) (at1 : α → Act)
    (hassign : ∀ (l : Nat) (x : α) (W : World) (K : Act → World → Prop), K (at1 x) W → assign.wpIn (F.inRound l) (n - 1 - 1) P (Exit.then K (fun _ _ _ => False)) { tmps := (ps.zip (enc x)).foldl (fun t (p, v) => t.setIfInBounds p v) a.tmps, defers := [] } W)
    (hbody : ∀ (l : Nat) (pre : List α) (x : α) (W : World), I pre W → body.wpIn (F.inRound l) (n - 1 - 1) P (boxPost w.heap.size Bs I X (pre ++ [x]) W) (at1 x) W)
    (hdone : ∀ (xs : List α) (W : World), S xs → I xs W → W.heap[w.heap.size]? = some (.deferred (some [])) → Q .normal { a with defers := { target := .collected w.heap.size, args := #[] } :: a.defers } W)
    (hstop : ∀ (xs : List α) (W : World), T xs → X xs W → W.heap[w.heap.size]? = some (.deferred (some [])) → Code.ret.wpIn F n P Q { a with defers := { target := .collected w.heap.size, args := #[] } :: a.defers } W) :
    (Code.rangeFunc g ps assign body).wpIn F n P Q a w := by
  refine wpIn_rangeFunc fun fn hfn => ?_
  rw [hro]
  obtain ⟨st, hst⟩ : ∃ st : LoopState → Option Code → Loop, st = fun s p => { state := s, pending := p, fn, tmps := a.tmps, params := ps, assign, body, defers := w.heap.size } := ⟨_, rfl⟩
  have hent : (Instr.enterLoop fn a.tmps ps assign body none).run P w = .ok (w.heap.size + 1, [{ target := .collected w.heap.size, args := #[] }]) ((w.alloc (.deferred (some []))).alloc (.loop (st .ready none))) := by
    rw [hst]; exact run_enterLoop_outer _ _ _ _ _
  have hm1 : Marks w.heap.size (st .ready none) ((w.alloc (.deferred (some []))).alloc (.loop (st .ready none))) := by
    refine ⟨?_, (Below.heap_alloc _ _ _ (by simp)).trans (World.alloc_heap_new w _)⟩
    have := World.alloc_heap_new (w.alloc (.deferred (some []))) (.loop (st .ready none))
    rwa [World.size_alloc] at this
  have hi1 : I [] ((w.alloc (.deferred (some []))).alloc (.loop (st .ready none))) := hI.new (hI.new h0 _) _
  have hb1 : ((w.alloc (.deferred (some []))).alloc (.loop (st .ready none))).heap[Bs]? = w.heap[Bs]? := (Below.heap_alloc _ _ _ (by simp; omega)).trans (Below.heap_alloc _ _ _ hBs)
  generalize (w.alloc (.deferred (some []))).alloc (.loop (st .ready none)) = W1 at hent hm1 hi1 hb1
  refine ⟨_, _, W1, { target := .fn (.func gf) lb, args := #[.func (.yield (w.heap.size + 1)) #[] #[]] }, W1, gf, #[.func (.yield (w.heap.size + 1)) #[] #[]] ++ lb, W1, hent, by simp only [resolve, hg]; simp [go_sem], fun f' hf' => by simp [Target.leads] at hf'; subst hf'; exact hFg, by simp [invoke, go_sem, eg], fun _ => h1, ?_⟩
  refine (hseq (w.heap.size + 1) (fun xs W => I xs W ∧ Marks w.heap.size (st .ready none) W) (fun xs W => X xs W ∧ Marks w.heap.size (st .done (some .ret)) W) W1 hb1
    (fun s A B row hs hgr hr => ⟨hI s A B row hs.1 hgr fun r e => .inl (hr r e), hs.2.free hBs hgr hr⟩) (fun s A B row hs hgr hr => ⟨hX s A B row hs.1 hgr fun r e => .inl (hr r e), hs.2.free hBs hgr hr⟩)
    (fun pre x V hv => round_box hfn hBs hps hI hX (hassign _) (hbody _) hst pre x V hv.1 hv.2) ⟨hi1, hm1⟩).mono ?_
  rintro e W2 ⟨⟨v, rfl⟩, (⟨xs, hS, hi, hm⟩ | ⟨xs, hT, hx, hm⟩)⟩
  · exact ⟨none, _, by have := run_endLoop (P := P) hm.loop (by rw [hst]; simp); rw [hst] at this; exact this, hdone xs _ hS (hI.put hi hm.loop (by omega) rfl _) ((World.putObj_heap_other (by omega)).trans hm.late)⟩
  · exact ⟨some .ret, _, by have := run_endLoop (P := P) hm.loop (by rw [hst]; simp); rw [hst] at this; exact this, hstop xs _ hT (hX.put hx hm.loop (by omega) rfl _) ((World.putObj_heap_other (by omega)).trans hm.late)⟩
end Go.Proofs.YtaddfndohoppeaaGreat

/- The program's patch: withLine: a layer with what one more line says. -/
namespace Go.Proofs.YtaddfndohoppeaaGreat
open Go Go.RowKit Go.Proofs
set_option synthInstance.maxSize 1000
attribute [local go_sem] eql_errV neq_errV guard_errV

/-- a layer whose two rows are one's own, apart from each other -/
structure LyOwn (B : Nat) (w : World) (v1 v2 : Value) (l : LyP) : Prop where
  add : w.ownsRow B 58 9 v1 l.1.length (cellsT l.1)
  take : w.ownsRow B 58 9 v2 l.2.length (cellsT l.2)
  ne : ∀ j, v1.ownBlock = some j → v2.ownBlock ≠ some j
theorem LyOwn.nil (B : Nat) (w : World) : LyOwn B w (.slice none 0 0) (.slice none 0 0) ([], []) := ⟨World.ownsRow_nil _ _ _ _, World.ownsRow_nil _ _ _ _, fun j h => by cases h⟩
/-- it stays where its blocks do -/
theorem own_stay {w w' : World} {B : Nat} {v : Value} {n : Nat} {cs : List Value} (h : w.ownsRow B 58 9 v n cs) {row : Option Nat} (hg : w.grownBy w' row) (hr : ∀ j, row = some j → v.ownBlock ≠ some j) : w'.ownsRow B 58 9 v n cs :=
  h.kept hg (by
    cases hv : v.ownBlock with
    | none => exact .inl rfl
    | some q => exact .inr fun e => hr q e.symm hv)
theorem LyOwn.stay {B : Nat} {w w' : World} {v1 v2 : Value} {l : LyP} (h : LyOwn B w v1 v2 l) {row : Option Nat} (hg : w.grownBy w' row) (hr : ∀ j, row = some j → v1.ownBlock ≠ some j ∧ v2.ownBlock ≠ some j) : LyOwn B w' v1 v2 l :=
  ⟨own_stay h.add hg fun j e => (hr j e).1, own_stay h.take hg fun j e => (hr j e).2, h.ne⟩
theorem grown_set (W : World) (b o : Nat) (v : Value) : W.grownBy (W.setCell ⟨b, o, none⟩ v) (some b) :=
  ⟨rfl, rfl, rfl, (KeepsWalks.setCell W _ v).size, fun k _ hk => Below.heap_setCell _ _ _ k (fun e => hk (by rw [e]))⟩
theorem row_not {W : World} {b : Nat} {cs : Array Value} {t : TypeId} {fr : Nat × Nat} (hb : W.heap[b]? = some (.cells cs t fr)) (ht : t ≠ 58) {B n : Nat} {v : Value} {xs : List Value} (hr : W.ownsRow B 58 9 v n xs) : v.ownBlock ≠ some b := by
  rcases hr.2 with ⟨rfl, _⟩ | ⟨g, cap, cur, rfl, _, hgb, _⟩
  · simp [Value.ownBlock]
  · intro e'
    obtain rfl : g = b := by simpa [Value.ownBlock] using e'
    have := hb.symm.trans hgb
    simp at this
    exact ht this.2.1
theorem own_old {W : World} {B n : Nat} {v : Value} {xs : List Value} (hr : W.ownsRow B 58 9 v n xs) {j : Nat} (hj : v.ownBlock = some j) : j < W.heap.size := (hr.lt j hj).2

theorem CutSuf_any (s p : List UInt8) (W : World) (hs : s.length ≤ 9223372036854775807) : Calls Tryz.prog 103 #[.string ⟨s.toArray⟩, .string ⟨p.toArray⟩] W fun e w' => e = .returned (.tuple #[.string ⟨(Lib.trimSuffix s p).toArray⟩, .bool (Lib.hasSuffix s p)]) ∧ w' = W := Tryz.strings_CutSuffix ⟨s.toArray⟩ ⟨p.toArray⟩ W hs
theorem CutPre_any (s p : List UInt8) (W : World) : Calls Tryz.prog 104 #[.string ⟨s.toArray⟩, .string ⟨p.toArray⟩] W fun e w' => e = .returned (.tuple #[.string ⟨(Lib.trimPrefix s p).toArray⟩, .bool (Lib.hasPrefix s p)]) ∧ w' = W := Tryz.strings_CutPrefix ⟨s.toArray⟩ ⟨p.toArray⟩ W
theorem suf_yes (u : List UInt8) : Lib.hasSuffix (u ++ [10]) [10] = true ∧ Lib.trimSuffix (u ++ [10]) [10] = u := by
  have h : Lib.hasSuffix (u ++ [10]) [10] = true := by unfold Lib.hasSuffix; rw [List.isSuffixOf_iff_suffix]; exact ⟨u, rfl⟩
  refine ⟨h, ?_⟩
  unfold Lib.trimSuffix
  rw [if_pos h]
  simp
theorem suf_no {s : List UInt8} (h : s.getLast? ≠ some 10) : Lib.hasSuffix s [10] = false ∧ Lib.trimSuffix s [10] = s := by
  have h2 : Lib.hasSuffix s [10] = false := by
    rw [Bool.eq_false_iff]
    intro e
    unfold Lib.hasSuffix at e
    rw [List.isSuffixOf_iff_suffix] at e
    obtain ⟨t, rfl⟩ := e
    exact h (by simp)
  exact ⟨h2, by unfold Lib.trimSuffix; rw [h2]; rfl⟩
theorem pre_yes (c : UInt8) (t : List UInt8) : Lib.hasPrefix (c :: 32 :: t) [c, 32] = true ∧ Lib.trimPrefix (c :: 32 :: t) [c, 32] = t := by
  have h : Lib.hasPrefix (c :: 32 :: t) [c, 32] = true := by unfold Lib.hasPrefix; rw [List.isPrefixOf_iff_prefix]; exact ⟨t, rfl⟩
  refine ⟨h, ?_⟩
  unfold Lib.trimPrefix
  rw [if_pos h]
  rfl
theorem pre_no {u : List UInt8} {c : UInt8} (h : ∀ t, u ≠ c :: 32 :: t) : Lib.hasPrefix u [c, 32] = false := by
  rw [Bool.eq_false_iff]
  intro e
  unfold Lib.hasPrefix at e
  rw [List.isPrefixOf_iff_prefix] at e
  obtain ⟨t, rfl⟩ := e
  exact h t rfl
theorem line_add (l : LyP) (t : List UInt8) : lineN l (43 :: 32 :: t) = saidN l.1 l.2 t ∧ lineL l (43 :: 32 :: t) = (l.1 ++ [tparseT t], l.2) := by
  have hf : formP l (43 :: 32 :: t) = some (false, t) := by unfold formP; simp
  unfold lineN lineL
  rw [hf]
  exact ⟨rfl, rfl⟩
theorem line_take {l : LyP} (h : l.1 = []) (t : List UInt8) : lineN l (45 :: 32 :: t) = saidN l.2 l.1 t ∧ lineL l (45 :: 32 :: t) = (l.1, l.2 ++ [tparseT t]) := by
  have hf : formP l (45 :: 32 :: t) = some (true, t) := by unfold formP; simp [h]
  unfold lineN lineL
  rw [hf]
  exact ⟨rfl, rfl⟩
theorem line_late {l : LyP} (h : l.1 ≠ []) (t : List UInt8) : lineN l (45 :: 32 :: t) = 2 := by
  have hf : formP l (45 :: 32 :: t) = none := by unfold formP; simp [h]
  unfold lineN
  rw [hf]
theorem line_neither {l : LyP} {u : List UInt8} (h1 : ∀ t, u ≠ 43 :: 32 :: t) (h2 : ∀ t, u ≠ 45 :: 32 :: t) : lineN l u = 2 := by
  have hf : formP l u = none := by
    unfold formP
    split
    · rename_i c d t
      split
      · rename_i hcd
        obtain ⟨rfl, rfl | ⟨rfl, _⟩⟩ := hcd
        · exact absurd rfl (h1 t)
        · exact absurd rfl (h2 t)
      · rfl
    · rfl
  unfold lineN
  rw [hf]

/-- what is answered: an error, or the layer with one triple more -/
def LineAns (B : Nat) (v1 v2 : Value) (l : LyP) (s : List UInt8) (w : World) (e : Ending) (w' : World) : Prop :=
  (lineE l s ≠ 0 ∧ ∃ a1 n1 c1 a2 n2 c2, e = .returned (.tuple #[.agg #[.slice a1 n1 c1, .slice a2 n2 c2], errV (lineE l s)]) ∧ RowKit.Below w.heap.size w w') ∨
  (lineE l s = 0 ∧ ∃ a1 c1 a2 c2, e = .returned (.tuple #[.agg #[.slice a1 (lineY l s).1.length c1, .slice a2 (lineY l s).2.length c2], .nilIface]) ∧ LyOwn B w' (.slice a1 (lineY l s).1.length c1) (.slice a2 (lineY l s).2.length c2) (lineY l s) ∧
    ∃ row, w.grownBy w' row ∧ (∀ j, row = some j → v1.ownBlock = some j ∨ v2.ownBlock = some j) ∧
      ∀ j, (Value.slice a1 (lineY l s).1.length c1).ownBlock = some j ∨ (Value.slice a2 (lineY l s).2.length c2).ownBlock = some j → v1.ownBlock = some j ∨ v2.ownBlock = some j ∨ w.heap.size ≤ j)
theorem LineAns.bad {B : Nat} {v1 v2 : Value} {l : LyP} {s : List UInt8} {w w' : World} {N : Int} (h : lineE l s = N) (h0 : N ≠ 0) {a1 a2 : Option Addr} {n1 c1 n2 c2 : Nat} (hb : RowKit.Below w.heap.size w w') : LineAns B v1 v2 l s w (.returned (.tuple #[.agg #[.slice a1 n1 c1, .slice a2 n2 c2], errV N])) w' := by
  subst h
  exact .inl ⟨h0, a1, n1, c1, a2, n2, c2, rfl, hb⟩

set_option maxHeartbeats 8000000 in
set_option maxRecDepth 100000 in
theorem PLine_none (B : Nat) (a1 a2 : Option Addr) (c1 c2 : Nat) (l : LyP) (s : List UInt8) (w : World) (hs : s.length ≤ 140737488355328) (h10 : s.getLast? ≠ some 10) :
    Calls Tryz.prog 69 #[.agg #[.slice a1 l.1.length c1, .slice a2 l.2.length c2], .string ⟨s.toArray⟩] w (LineAns B (.slice a1 l.1.length c1) (.slice a2 l.2.length c2) l s w) := by
  have HS : ∀ W, Calls Tryz.prog 103 #[.string ⟨s.toArray⟩, .string ⟨#[10]⟩] W fun e w' => e = .returned (.tuple #[.string ⟨s.toArray⟩, .bool false]) ∧ w' = W := fun W => by
    have := Tryz.strings_CutSuffix ⟨s.toArray⟩ ⟨#[10]⟩ W (by simp [ByteArray.size]; omega)
    simpa [(suf_no h10).1, (suf_no h10).2] using this
  have fin : Hid (∀ w', RowKit.Below w.heap.size w w' → LineAns B (.slice a1 l.1.length c1) (.slice a2 l.2.length c2) l s w (.returned (.tuple #[.agg #[.slice none 0 0, .slice none 0 0], errV 2])) w') := fun w' hb => LineAns.bad (by unfold lineE; rw [if_neg h10]) (by decide) hb
  generalize LineAns B (.slice a1 l.1.length c1) (.slice a2 l.2.length c2) l s w = Q at *
  go_enter Tryz.func69, Tryz.ntmps69
  go_wp2_with (first | (go_at_call 103; refine (HS _).mono ?_; rintro e w' ⟨rfl, rfl⟩))
  exact bodyPost_ret (v := .tuple #[.agg #[.slice none 0 0, .slice none 0 0], errV 2]) (by unfold results; rw [Tryz.results69]; go_simp; rfl) rfl (fin.out _ (bstep (balloc _ _) (balloc _ _)))

/-- the two boxes of a call stay -/
theorem boxesL {w w3 : World} {p q r t : Value} {T : TypeId} {row : Option Nat} (hg : ((w.alloc (.cells #[p, q] T)).alloc (.cells #[r, t] T)).grownBy w3 row) (hr : ∀ j, row = some j → j < w.heap.size) :
    w3.heap[w.heap.size]? = some (.cells #[p, q] T (0, 0)) ∧ w3.heap[w.heap.size + 1]? = some (.cells #[r, t] T (0, 0)) := by
  have n1 : some w.heap.size ≠ row := fun e => by have := hr _ e.symm; omega
  have n2 : some (w.heap.size + 1) ≠ row := fun e => by have := hr _ e.symm; omega
  refine ⟨(hg.block _ (by simp; omega) n1).trans ?_, (hg.block _ (by simp) n2).trans ?_⟩
  · exact (Below.heap_alloc _ _ _ (by simp)).trans (World.alloc_heap_new w _)
  · have := World.alloc_heap_new (w.alloc (.cells #[p, q] T)) (.cells #[r, t] T)
    rwa [World.size_alloc] at this
theorem boxL {W : World} {b : Nat} {p q : Value} {T : TypeId} (h : W.heap[b]? = some (.cells #[p, q] T (0, 0))) : W.cell? ⟨b, 0, none⟩ = some p ∧ W.cell? ⟨b, 1, none⟩ = some q ∧ W.frozen? ⟨b, 0, none⟩ = false ∧ W.frozen? ⟨b, 1, none⟩ = false ∧ b < W.heap.size :=
  ⟨by simp [World.cell?, h], by simp [World.cell?, h], by simp [World.frozen?, h], by simp [World.frozen?, h], (Array.getElem?_eq_some_iff.1 h).1⟩
/-- the row that grew, and the other one, behind the answer's box -/
theorem finL {B : Nat} {w w3 : World} {o1 o2 : Obj} {v1 v2 : Value} {m k : List Tr} {x : Tr} {g cap : Nat} {cs : Array Value} (h2 : w.ownsRow B 58 9 v2 k.length (cellsT k)) (hne : ∀ j, v1.ownBlock = some j → v2.ownBlock ≠ some j)
    (hg : ((w.alloc o1).alloc o2).grownBy w3 v1.ownBlock) (hrow : w3.ownsRow B 58 9 (.slice (some ⟨g, 0, none⟩) (m.length + 1) cap) (m.length + 1) (cellsT (m ++ [x]))) (hat : v1.ownBlock = some g ∨ ((w.alloc o1).alloc o2).heap.size ≤ g)
    (hbox : w3.heap[w.heap.size + 1]? = some (.cells cs 42 (0, 0))) (u1 u2 : Value) :
    ((w3.setCell ⟨w.heap.size + 1, 0, none⟩ u1).setCell ⟨w.heap.size + 1, 1, none⟩ u2).ownsRow B 58 9 (.slice (some ⟨g, 0, none⟩) (m.length + 1) cap) (m.length + 1) (cellsT (m ++ [x])) ∧
    ((w3.setCell ⟨w.heap.size + 1, 0, none⟩ u1).setCell ⟨w.heap.size + 1, 1, none⟩ u2).ownsRow B 58 9 v2 k.length (cellsT k) ∧ v2.ownBlock ≠ some g ∧
    w.grownBy ((w3.setCell ⟨w.heap.size + 1, 0, none⟩ u1).setCell ⟨w.heap.size + 1, 1, none⟩ u2) v1.ownBlock ∧ (v1.ownBlock = some g ∨ w.heap.size ≤ g) := by
  have ng := row_not hbox (by decide) hrow
  have hs : ∀ W : World, W.grownBy ((W.setCell ⟨w.heap.size + 1, 0, none⟩ u1).setCell ⟨w.heap.size + 1, 1, none⟩ u2) (some (w.heap.size + 1)) := fun W => (grown_set W _ _ _).trans (grown_set _ _ _ _)
  have o2' : ∀ j, v2.ownBlock = some j → j < w.heap.size := fun j e => own_old h2 e
  have g0 : w.grownBy ((w.alloc o1).alloc o2) v1.ownBlock := (World.grownBy_alloc _ _ _).trans (World.grownBy_alloc _ _ _)
  have hsz : ((w.alloc o1).alloc o2).heap.size = w.heap.size + 2 := by simp
  refine ⟨own_stay hrow (hs w3) fun j e => ?_, own_stay (own_stay (own_stay h2 g0 fun j e => hne j e) hg fun j e => hne j e) (hs w3) fun j e e2 => ?_, fun e => ?_, (g0.trans hg).andThen (hs w3) fun j e => ?_, or_rightN hat fun e => by omega⟩
  · cases e; exact ng
  · cases e; have := o2' _ e2; omega
  · rcases hat with hat | hat
    · exact hne g hat e
    · have := o2' _ e; omega
  · cases e; exact .inl (by omega)
theorem LineAns.add {B : Nat} {v1 : Value} {a2 : Option Addr} {c2 : Nat} {l : LyP} {s : List UInt8} {x : Tr} {w w9 : World} {g cap : Nat} (hE : lineE l s = 0) (hY : lineY l s = (l.1 ++ [x], l.2))
    (hf : w9.ownsRow B 58 9 (.slice (some ⟨g, 0, none⟩) (l.1.length + 1) cap) (l.1.length + 1) (cellsT (l.1 ++ [x])) ∧ w9.ownsRow B 58 9 (.slice a2 l.2.length c2) l.2.length (cellsT l.2) ∧ (Value.slice a2 l.2.length c2).ownBlock ≠ some g ∧ w.grownBy w9 v1.ownBlock ∧ (v1.ownBlock = some g ∨ w.heap.size ≤ g)) :
    LineAns B v1 (.slice a2 l.2.length c2) l s w (.returned (.tuple #[.agg #[.slice (some ⟨g, 0, none⟩) (l.1.length + 1) cap, .slice a2 l.2.length c2], .nilIface])) w9 := by
  obtain ⟨h1, h2, h3, h4, h5⟩ := hf
  have e1 : (l.1 ++ [x]).length = l.1.length + 1 := by simp
  refine .inr ⟨hE, ?_⟩
  rw [hY]
  refine ⟨some ⟨g, 0, none⟩, cap, a2, c2, by rw [e1], ⟨by rw [e1]; exact h1, h2, fun j e => ?_⟩, v1.ownBlock, h4, fun j e => .inl e, fun j e => ?_⟩
  · obtain rfl : g = j := by simpa [Value.ownBlock] using e
    exact h3
  · rcases e with e | e
    · obtain rfl : g = j := by simpa [Value.ownBlock] using e
      rcases h5 with h5 | h5
      · exact .inl h5
      · exact .inr (.inr h5)
    · exact .inr (.inl e)
theorem LineAns.take {B : Nat} {v2 : Value} {a1 : Option Addr} {c1 : Nat} {l : LyP} {s : List UInt8} {x : Tr} {w w9 : World} {g cap : Nat} (hE : lineE l s = 0) (hY : lineY l s = (l.1, l.2 ++ [x]))
    (hf : w9.ownsRow B 58 9 (.slice (some ⟨g, 0, none⟩) (l.2.length + 1) cap) (l.2.length + 1) (cellsT (l.2 ++ [x])) ∧ w9.ownsRow B 58 9 (.slice a1 l.1.length c1) l.1.length (cellsT l.1) ∧ (Value.slice a1 l.1.length c1).ownBlock ≠ some g ∧ w.grownBy w9 v2.ownBlock ∧ (v2.ownBlock = some g ∨ w.heap.size ≤ g)) :
    LineAns B (.slice a1 l.1.length c1) v2 l s w (.returned (.tuple #[.agg #[.slice a1 l.1.length c1, .slice (some ⟨g, 0, none⟩) (l.2.length + 1) cap], .nilIface])) w9 := by
  obtain ⟨h1, h2, h3, h4, h5⟩ := hf
  have e1 : (l.2 ++ [x]).length = l.2.length + 1 := by simp
  refine .inr ⟨hE, ?_⟩
  rw [hY]
  refine ⟨a1, c1, some ⟨g, 0, none⟩, cap, by rw [e1], ⟨h2, by rw [e1]; exact h1, fun j e e2 => ?_⟩, v2.ownBlock, h4, fun j e => .inr e, fun j e => ?_⟩
  · obtain rfl : g = j := by simpa [Value.ownBlock] using e2
    exact h3 e
  · rcases e with e | e
    · exact .inl e
    · obtain rfl : g = j := by simpa [Value.ownBlock] using e
      rcases h5 with h5 | h5
      · exact .inr (.inl h5)
      · exact .inr (.inr h5)

set_option maxHeartbeats 16000000 in
set_option maxRecDepth 100000 in
theorem PLine_add (B : Nat) (a1 a2 : Option Addr) (c1 c2 : Nat) (l : LyP) (t : List UInt8) (w : World) (h : LyOwn B w (.slice a1 l.1.length c1) (.slice a2 l.2.length c2) l) (hl : GoodLy l) (hs : t.length + 3 ≤ 140737488355328) (hB : B ≤ w.heap.size) :
    Calls Tryz.prog 69 #[.agg #[.slice a1 l.1.length c1, .slice a2 l.2.length c2], .string ⟨(43 :: 32 :: t ++ [10]).toArray⟩] w (LineAns B (.slice a1 l.1.length c1) (.slice a2 l.2.length c2) l (43 :: 32 :: t ++ [10]) w) := by
  have HS : ∀ W, Calls Tryz.prog 103 #[.string ⟨(43 :: 32 :: t ++ [10]).toArray⟩, .string ⟨#[10]⟩] W fun e w' => e = .returned (.tuple #[.string ⟨(43 :: 32 :: t).toArray⟩, .bool true]) ∧ w' = W := fun W => by
    have := CutSuf_any (43 :: 32 :: t ++ [10]) [10] W (by simp; omega)
    rw [(suf_yes (43 :: 32 :: t)).1, (suf_yes (43 :: 32 :: t)).2] at this
    exact this
  have HP : ∀ W, Calls Tryz.prog 104 #[.string ⟨(43 :: 32 :: t).toArray⟩, .string ⟨#[43, 32]⟩] W fun e w' => e = .returned (.tuple #[.string ⟨t.toArray⟩, .bool true]) ∧ w' = W := fun W => by
    have := CutPre_any (43 :: 32 :: t) [43, 32] W
    rw [(pre_yes 43 t).1, (pre_yes 43 t).2] at this
    exact this
  have HN := fun (W : World) (h1 : W.ownsRow B 58 9 (.slice a1 l.1.length c1) l.1.length (cellsT l.1)) (h2 : SlT W a2 l.2) (h3 : B ≤ W.heap.size) => PNext_any B a1 c1 l.1 a2 c2 l.2 t W h1 h2 hl.take.2.2 hl.take.1 hl.add.1 (by omega) h3
  have e1 : lineE l (43 :: 32 :: t ++ [10]) = saidN l.1 l.2 t := (lineE_end l (43 :: 32 :: t)).1.trans (line_add l t).1
  have e2 : lineY l (43 :: 32 :: t ++ [10]) = (l.1 ++ [tparseT t], l.2) := (lineE_end l (43 :: 32 :: t)).2.trans (line_add l t).2
  have Hbad : Hid (∀ w', saidN l.1 l.2 t ≠ 0 → RowKit.Below w.heap.size w w' → LineAns B (.slice a1 l.1.length c1) (.slice a2 l.2.length c2) l (43 :: 32 :: t ++ [10]) w (.returned (.tuple #[.agg #[.slice none 0 0, .slice a2 l.2.length c2], errV (saidN l.1 l.2 t)])) w') := fun w' h0 hb => LineAns.bad e1 h0 hb
  have Hgood : Hid (∀ g cap w9, saidN l.1 l.2 t = 0 → _ → LineAns B (.slice a1 l.1.length c1) (.slice a2 l.2.length c2) l (43 :: 32 :: t ++ [10]) w (.returned (.tuple #[.agg #[.slice (some ⟨g, 0, none⟩) (l.1.length + 1) cap, .slice a2 l.2.length c2], .nilIface])) w9) := fun g cap w9 h0 hf => LineAns.add (e1.trans h0) e2 hf
  have Hown : Hid (LyOwn B w (.slice a1 l.1.length c1) (.slice a2 l.2.length c2) l) := h
  have hrow : ∀ j, (Value.slice a1 l.1.length c1).ownBlock = some j → j < w.heap.size := fun j e => own_old h.add e
  clear e1 e2 h hl
  generalize LineAns B (.slice a1 l.1.length c1) (.slice a2 l.2.length c2) l (43 :: 32 :: t ++ [10]) w = Q at *
  generalize (43 :: 32 :: t ++ [10]) = s0 at *
  generalize (43 :: 32 :: t) = s1 at *
  go_enter Tryz.func69, Tryz.ntmps69
  go_wp2_with (first
    | (go_at_call 103; refine (HS _).mono ?_; rintro e w' ⟨rfl, rfl⟩; dsimp only)
    | (go_at_call 104; refine (HP _).mono ?_; rintro e w' ⟨rfl, rfl⟩; dsimp only))
  have hA : RowKit.Below w.heap.size w ((w.alloc (.cells #[.slice a1 l.1.length c1, .slice a2 l.2.length c2] 42)).alloc (.cells #[.slice none 0 0, .slice none 0 0] 42)) := bstep (balloc _ _) (balloc _ _)
  obtain ⟨_, _, e3, hsl⟩ := own_slT (ownsRow_below Hown.out.take hA)
  have e4 := (Value.slice.inj e3).1
  rw [← e4] at hsl
  clear e3 e4
  refine (HN _ (ownsRow_below Hown.out.add hA) hsl (by simp; omega)).mono ?_
  rintro e w3 (⟨h0, rfl, hb3⟩ | ⟨h0, g, cap, rfl, hown3, hg3, hat3⟩)
  · obtain ⟨b1, b2⟩ := boxesL (grown_belowN hb3 none) (fun j e => by cases e)
    obtain ⟨q0, q1, _, _, q4⟩ := boxL b1
    obtain ⟨r0, r1, r2, r3, r4⟩ := boxL b2
    have H0 : Hid (saidN l.1 l.2 t ≠ 0) := h0
    have hb9 : RowKit.Below w.heap.size w w3 := bstep hA hb3
    clear b1 b2 h0 hsl hb3
    generalize saidN l.1 l.2 t = N at *
    dsimp only
    go_wp2_with fail
    refine bodyPost_ret (v := .tuple #[.agg #[.slice none 0 0, .slice a2 l.2.length c2], errV N]) (by unfold results; rw [Tryz.results69]; go_simp) rfl ?_
    exact Hbad.out _ H0.out ((hb9.setCell (p := ⟨w.heap.size + 1, 0, none⟩) (by simp) _).setCell (p := ⟨w.heap.size + 1, 1, none⟩) (by simp) _)
  · obtain ⟨b1, b2⟩ := boxesL hg3 hrow
    obtain ⟨q0, q1, _, _, q4⟩ := boxL b1
    obtain ⟨r0, r1, r2, r3, r4⟩ := boxL b2
    have hfin := fun u1 u2 => finL Hown.out.take (Hown.out.ne) hg3 hown3 hat3 b2 u1 u2
    have H0 : Hid (saidN l.1 l.2 t = 0) := h0
    have Hfin : Hid _ := hfin
    clear b1 b2 h0 hsl hg3 hown3 hat3 hfin hrow
    dsimp only
    go_wp2_with fail
    refine bodyPost_ret (v := .tuple #[.agg #[.slice (some ⟨g, 0, none⟩) (l.1.length + 1) cap, .slice a2 l.2.length c2], .nilIface]) (by unfold results; rw [Tryz.results69]; go_simp) rfl ?_
    exact Hgood.out g cap _ H0.out (Hfin.out _ _)

set_option maxHeartbeats 16000000 in
set_option maxRecDepth 100000 in
theorem PLine_take (B : Nat) (a1 a2 : Option Addr) (c1 c2 : Nat) (l : LyP) (t : List UInt8) (w : World) (h : LyOwn B w (.slice a1 l.1.length c1) (.slice a2 l.2.length c2) l) (hl : GoodLy l) (h1 : l.1 = []) (hs : t.length + 3 ≤ 140737488355328) (hB : B ≤ w.heap.size) :
    Calls Tryz.prog 69 #[.agg #[.slice a1 l.1.length c1, .slice a2 l.2.length c2], .string ⟨(45 :: 32 :: t ++ [10]).toArray⟩] w (LineAns B (.slice a1 l.1.length c1) (.slice a2 l.2.length c2) l (45 :: 32 :: t ++ [10]) w) := by
  have HS : ∀ W, Calls Tryz.prog 103 #[.string ⟨(45 :: 32 :: t ++ [10]).toArray⟩, .string ⟨#[10]⟩] W fun e w' => e = .returned (.tuple #[.string ⟨(45 :: 32 :: t).toArray⟩, .bool true]) ∧ w' = W := fun W => by
    have := CutSuf_any (45 :: 32 :: t ++ [10]) [10] W (by simp; omega)
    rw [(suf_yes (45 :: 32 :: t)).1, (suf_yes (45 :: 32 :: t)).2] at this
    exact this
  have HQ2 : ∀ W, Calls Tryz.prog 104 #[.string ⟨(45 :: 32 :: t).toArray⟩, .string ⟨#[43, 32]⟩] W fun e w' => e = .returned (.tuple #[.string ⟨(Lib.trimPrefix (45 :: 32 :: t) [43, 32]).toArray⟩, .bool false]) ∧ w' = W := fun W => by
    have := CutPre_any (45 :: 32 :: t) [43, 32] W
    rw [pre_no (u := 45 :: 32 :: t) (c := 43) (by simp)] at this
    exact this
  generalize Lib.trimPrefix (45 :: 32 :: t) [43, 32] = junk at HQ2
  have HP : ∀ W, Calls Tryz.prog 104 #[.string ⟨(45 :: 32 :: t).toArray⟩, .string ⟨#[45, 32]⟩] W fun e w' => e = .returned (.tuple #[.string ⟨t.toArray⟩, .bool true]) ∧ w' = W := fun W => by
    have := CutPre_any (45 :: 32 :: t) [45, 32] W
    rw [(pre_yes 45 t).1, (pre_yes 45 t).2] at this
    exact this
  have HN := fun (W : World) (h1 : W.ownsRow B 58 9 (.slice a2 l.2.length c2) l.2.length (cellsT l.2)) (h2 : SlT W a1 l.1) (h3 : B ≤ W.heap.size) => PNext_any B a2 c2 l.2 a1 c1 l.1 t W h1 h2 hl.add.2.2 hl.add.1 hl.take.1 (by omega) h3
  have e1 : lineE l (45 :: 32 :: t ++ [10]) = saidN l.2 l.1 t := (lineE_end l (45 :: 32 :: t)).1.trans (line_take h1 t).1
  have e2 : lineY l (45 :: 32 :: t ++ [10]) = (l.1, l.2 ++ [tparseT t]) := (lineE_end l (45 :: 32 :: t)).2.trans (line_take h1 t).2
  have Hbad : Hid (∀ w', saidN l.2 l.1 t ≠ 0 → RowKit.Below w.heap.size w w' → LineAns B (.slice a1 l.1.length c1) (.slice a2 l.2.length c2) l (45 :: 32 :: t ++ [10]) w (.returned (.tuple #[.agg #[.slice a1 l.1.length c1, .slice none 0 0], errV (saidN l.2 l.1 t)])) w') := fun w' h0 hb => LineAns.bad e1 h0 hb
  have Hgood : Hid (∀ g cap w9, saidN l.2 l.1 t = 0 → _ → LineAns B (.slice a1 l.1.length c1) (.slice a2 l.2.length c2) l (45 :: 32 :: t ++ [10]) w (.returned (.tuple #[.agg #[.slice a1 l.1.length c1, .slice (some ⟨g, 0, none⟩) (l.2.length + 1) cap], .nilIface])) w9) := fun g cap w9 h0 hf => LineAns.take (e1.trans h0) e2 hf
  have Hown : Hid (LyOwn B w (.slice a1 l.1.length c1) (.slice a2 l.2.length c2) l) := h
  have hrow : ∀ j, (Value.slice a2 l.2.length c2).ownBlock = some j → j < w.heap.size := fun j e => own_old h.take e
  have hn1 : ¬ ((0 : Int) < (l.1.length : Int)) := by rw [h1]; simp
  have hn2 : decide (0 < l.1.length) = false := by rw [h1]; rfl
  clear e1 e2 h hl h1
  generalize LineAns B (.slice a1 l.1.length c1) (.slice a2 l.2.length c2) l (45 :: 32 :: t ++ [10]) w = Q at *
  generalize (45 :: 32 :: t ++ [10]) = s0 at *
  generalize (45 :: 32 :: t) = s1 at *
  go_enter Tryz.func69, Tryz.ntmps69
  go_wp2_with (first
    | (go_at_call 103; refine (HS _).mono ?_; rintro e w' ⟨rfl, rfl⟩; dsimp only))
  refine (HQ2 _).mono ?_
  rintro e w' ⟨rfl, hw'⟩
  rw [hw']
  clear hw' w'
  dsimp only
  go_wp2_with fail
  refine (HP _).mono ?_
  rintro e w' ⟨rfl, hw'⟩
  rw [hw']
  clear hw' w'
  dsimp only
  go_wp2_with fail
  have hA : RowKit.Below w.heap.size w ((w.alloc (.cells #[.slice a1 l.1.length c1, .slice a2 l.2.length c2] 42)).alloc (.cells #[.slice none 0 0, .slice none 0 0] 42)) := bstep (balloc _ _) (balloc _ _)
  obtain ⟨_, _, e3, hsl⟩ := own_slT (ownsRow_below Hown.out.add hA)
  have e4 := (Value.slice.inj e3).1
  rw [← e4] at hsl
  clear e3 e4
  refine (HN _ (ownsRow_below Hown.out.take hA) hsl (by simp; omega)).mono ?_
  rintro e w3 (⟨h0, rfl, hb3⟩ | ⟨h0, g, cap, rfl, hown3, hg3, hat3⟩)
  · obtain ⟨b1, b2⟩ := boxesL (grown_belowN hb3 none) (fun j e => by cases e)
    obtain ⟨q0, q1, _, _, q4⟩ := boxL b1
    obtain ⟨r0, r1, r2, r3, r4⟩ := boxL b2
    have H0 : Hid (saidN l.2 l.1 t ≠ 0) := h0
    have hb9 : RowKit.Below w.heap.size w w3 := bstep hA hb3
    clear b1 b2 h0 hsl hb3
    generalize saidN l.2 l.1 t = N at *
    dsimp only
    go_wp2_with fail
    refine bodyPost_ret (v := .tuple #[.agg #[.slice a1 l.1.length c1, .slice none 0 0], errV N]) (by unfold results; rw [Tryz.results69]; go_simp) rfl ?_
    exact Hbad.out _ H0.out ((hb9.setCell (p := ⟨w.heap.size + 1, 0, none⟩) (by simp) _).setCell (p := ⟨w.heap.size + 1, 1, none⟩) (by simp) _)
  · obtain ⟨b1, b2⟩ := boxesL hg3 hrow
    obtain ⟨q0, q1, _, _, q4⟩ := boxL b1
    obtain ⟨r0, r1, r2, r3, r4⟩ := boxL b2
    have hfin := fun u1 u2 => finL Hown.out.add (fun j e e2 => Hown.out.ne j e2 e) hg3 hown3 hat3 b2 u1 u2
    have H0 : Hid (saidN l.2 l.1 t = 0) := h0
    have Hfin : Hid _ := hfin
    clear b1 b2 h0 hsl hg3 hown3 hat3 hfin hrow
    dsimp only
    go_wp2_with fail
    refine bodyPost_ret (v := .tuple #[.agg #[.slice a1 l.1.length c1, .slice (some ⟨g, 0, none⟩) (l.2.length + 1) cap], .nilIface]) (by unfold results; rw [Tryz.results69]; go_simp) rfl ?_
    exact Hgood.out g cap _ H0.out (Hfin.out _ _)

set_option maxHeartbeats 16000000 in
set_option maxRecDepth 100000 in
theorem PLine_other (B : Nat) (a1 a2 : Option Addr) (c1 c2 : Nat) (l : LyP) (u : List UInt8) (w : World) (hs : u.length + 1 ≤ 140737488355328) (hp1 : Lib.hasPrefix u [43, 32] = false) (hp2 : Lib.hasPrefix u [45, 32] = false) (hN : lineN l u = 2) :
    Calls Tryz.prog 69 #[.agg #[.slice a1 l.1.length c1, .slice a2 l.2.length c2], .string ⟨(u ++ [10]).toArray⟩] w (LineAns B (.slice a1 l.1.length c1) (.slice a2 l.2.length c2) l (u ++ [10]) w) := by
  have HS : ∀ W, Calls Tryz.prog 103 #[.string ⟨(u ++ [10]).toArray⟩, .string ⟨#[10]⟩] W fun e w' => e = .returned (.tuple #[.string ⟨u.toArray⟩, .bool true]) ∧ w' = W := fun W => by
    have := CutSuf_any (u ++ [10]) [10] W (by simp; omega)
    rw [(suf_yes u).1, (suf_yes u).2] at this
    exact this
  have HQ2 : ∀ W, Calls Tryz.prog 104 #[.string ⟨u.toArray⟩, .string ⟨#[43, 32]⟩] W fun e w' => e = .returned (.tuple #[.string ⟨(Lib.trimPrefix u [43, 32]).toArray⟩, .bool false]) ∧ w' = W := fun W => by
    have := CutPre_any u [43, 32] W
    rw [hp1] at this
    exact this
  have HP : ∀ W, Calls Tryz.prog 104 #[.string ⟨u.toArray⟩, .string ⟨#[45, 32]⟩] W fun e w' => e = .returned (.tuple #[.string ⟨(Lib.trimPrefix u [45, 32]).toArray⟩, .bool false]) ∧ w' = W := fun W => by
    have := CutPre_any u [45, 32] W
    rw [hp2] at this
    exact this
  generalize Lib.trimPrefix u [43, 32] = junk at HQ2
  generalize Lib.trimPrefix u [45, 32] = t at HP
  have fin : Hid (∀ w', RowKit.Below w.heap.size w w' → LineAns B (.slice a1 l.1.length c1) (.slice a2 l.2.length c2) l (u ++ [10]) w (.returned (.tuple #[.agg #[.slice none 0 0, .slice none 0 0], errV 2])) w') := fun w' hb => LineAns.bad ((lineE_end l u).1.trans hN) (by decide) hb
  clear hN hp1 hp2
  generalize LineAns B (.slice a1 l.1.length c1) (.slice a2 l.2.length c2) l (u ++ [10]) w = Q at *
  generalize u ++ [10] = s0 at *
  go_enter Tryz.func69, Tryz.ntmps69
  go_wp2_with (first
    | (go_at_call 103; refine (HS _).mono ?_; rintro e w' ⟨rfl, rfl⟩; dsimp only))
  refine (HQ2 _).mono ?_
  rintro e w' ⟨rfl, hw'⟩
  rw [hw']
  clear hw' w'
  dsimp only
  go_wp2_with fail
  refine (HP _).mono ?_
  rintro e w' ⟨rfl, hw'⟩
  rw [hw']
  clear hw' w'
  dsimp only
  go_wp2_with fail
  exact bodyPost_ret (v := .tuple #[.agg #[.slice none 0 0, .slice none 0 0], errV 2]) (by unfold results; rw [Tryz.results69]; go_simp; rfl) rfl (fin.out _ (bstep (balloc _ _) (balloc _ _)))

set_option maxHeartbeats 16000000 in
set_option maxRecDepth 100000 in
theorem PLine_late (B : Nat) (a1 a2 : Option Addr) (c1 c2 : Nat) (l : LyP) (u : List UInt8) (w : World) (hs : u.length + 1 ≤ 140737488355328) (hp1 : Lib.hasPrefix u [43, 32] = false) (hp2 : Lib.hasPrefix u [45, 32] = true) (h1 : l.1 ≠ []) (hN : lineN l u = 2) :
    Calls Tryz.prog 69 #[.agg #[.slice a1 l.1.length c1, .slice a2 l.2.length c2], .string ⟨(u ++ [10]).toArray⟩] w (LineAns B (.slice a1 l.1.length c1) (.slice a2 l.2.length c2) l (u ++ [10]) w) := by
  have HS : ∀ W, Calls Tryz.prog 103 #[.string ⟨(u ++ [10]).toArray⟩, .string ⟨#[10]⟩] W fun e w' => e = .returned (.tuple #[.string ⟨u.toArray⟩, .bool true]) ∧ w' = W := fun W => by
    have := CutSuf_any (u ++ [10]) [10] W (by simp; omega)
    rw [(suf_yes u).1, (suf_yes u).2] at this
    exact this
  have HQ2 : ∀ W, Calls Tryz.prog 104 #[.string ⟨u.toArray⟩, .string ⟨#[43, 32]⟩] W fun e w' => e = .returned (.tuple #[.string ⟨(Lib.trimPrefix u [43, 32]).toArray⟩, .bool false]) ∧ w' = W := fun W => by
    have := CutPre_any u [43, 32] W
    rw [hp1] at this
    exact this
  have HP : ∀ W, Calls Tryz.prog 104 #[.string ⟨u.toArray⟩, .string ⟨#[45, 32]⟩] W fun e w' => e = .returned (.tuple #[.string ⟨(Lib.trimPrefix u [45, 32]).toArray⟩, .bool true]) ∧ w' = W := fun W => by
    have := CutPre_any u [45, 32] W
    rw [hp2] at this
    exact this
  generalize Lib.trimPrefix u [43, 32] = junk at HQ2
  generalize Lib.trimPrefix u [45, 32] = t at HP
  have fin : Hid (∀ w', RowKit.Below w.heap.size w w' → LineAns B (.slice a1 l.1.length c1) (.slice a2 l.2.length c2) l (u ++ [10]) w (.returned (.tuple #[.agg #[.slice none 0 0, .slice none 0 0], errV 2])) w') := fun w' hb => LineAns.bad ((lineE_end l u).1.trans hN) (by decide) hb
  have hn1 : (0 : Int) < (l.1.length : Int) := by have := List.length_pos_iff.2 h1; omega
  have hn2 : decide (0 < l.1.length) = true := by simpa using List.length_pos_iff.2 h1
  clear h1
  clear hN hp1 hp2
  generalize LineAns B (.slice a1 l.1.length c1) (.slice a2 l.2.length c2) l (u ++ [10]) w = Q at *
  generalize u ++ [10] = s0 at *
  go_enter Tryz.func69, Tryz.ntmps69
  go_wp2_with (first
    | (go_at_call 103; refine (HS _).mono ?_; rintro e w' ⟨rfl, rfl⟩; dsimp only))
  refine (HQ2 _).mono ?_
  rintro e w' ⟨rfl, hw'⟩
  rw [hw']
  clear hw' w'
  dsimp only
  go_wp2_with fail
  refine (HP _).mono ?_
  rintro e w' ⟨rfl, hw'⟩
  rw [hw']
  clear hw' w'
  dsimp only
  go_wp2_with fail
  exact bodyPost_ret (v := .tuple #[.agg #[.slice none 0 0, .slice none 0 0], errV 2]) (by unfold results; rw [Tryz.results69]; go_simp; rfl) rfl (fin.out _ (bstep (balloc _ _) (balloc _ _)))

theorem PLine_any (B : Nat) (a1 a2 : Option Addr) (c1 c2 : Nat) (l : LyP) (s : List UInt8) (w : World) (h : LyOwn B w (.slice a1 l.1.length c1) (.slice a2 l.2.length c2) l) (hl : GoodLy l) (hs : s.length ≤ 140737488355328) (hB : B ≤ w.heap.size) :
    Calls Tryz.prog 69 #[.agg #[.slice a1 l.1.length c1, .slice a2 l.2.length c2], .string ⟨s.toArray⟩] w (LineAns B (.slice a1 l.1.length c1) (.slice a2 l.2.length c2) l s w) := by
  by_cases h10 : s.getLast? = some 10
  · obtain ⟨u, rfl⟩ := List.getLast?_eq_some_iff.1 h10
    simp only [List.length_append, List.length_cons, List.length_nil] at hs
    by_cases hp : ∃ t, u = 43 :: 32 :: t
    · obtain ⟨t, rfl⟩ := hp
      simp only [List.length_cons] at hs
      exact PLine_add B a1 a2 c1 c2 l t w h hl (by omega) hB
    · have hp' : ∀ t, u ≠ 43 :: 32 :: t := fun t e => hp ⟨t, e⟩
      by_cases hq : ∃ t, u = 45 :: 32 :: t
      · obtain ⟨t, rfl⟩ := hq
        simp only [List.length_cons] at hs
        by_cases h1 : l.1 = []
        · exact PLine_take B a1 a2 c1 c2 l t w h hl h1 (by omega) hB
        · exact PLine_late B a1 a2 c1 c2 l _ w (by simp only [List.length_cons]; omega) (pre_no hp') (pre_yes 45 t).1 h1 (line_late h1 t)
      · have hq' : ∀ t, u ≠ 45 :: 32 :: t := fun t e => hq ⟨t, e⟩
        exact PLine_other B a1 a2 c1 c2 l u w (by omega) (pre_no hp') (pre_no hq') (line_neither hp' hq')
  · exact PLine_none B a1 a2 c1 c2 l s w hs h10
end Go.Proofs.YtaddfndohoppeaaGreat
