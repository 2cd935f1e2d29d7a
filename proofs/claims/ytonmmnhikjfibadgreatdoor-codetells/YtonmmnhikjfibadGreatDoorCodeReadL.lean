/- code.ReadLayer. -/
import Derived.Test.YtonmmnhikjfibadGreatDoorCodeRead
import Derived.Test.YtonmmnhikjfibadGreatDoorLayerOps
import Derived.Deep.RegionLaw
namespace Go.Proofs.YtonmmnhikjfibadGreatDoor
open Go Go.RowKit Go.Proofs
set_option synthInstance.maxSize 1000

attribute [local go_sem] eql_errV neq_errV guard_errV

/-- an empty box for a layer; a box that holds one -/
def ZL (W : World) (B : Nat) : Prop := W.cell? ⟨B, 0, none⟩ = some (.slice none 0 0) ∧ W.cell? ⟨B, 1, none⟩ = some (.slice none 0 0) ∧ W.frozen? ⟨B, 0, none⟩ = false ∧ W.frozen? ⟨B, 1, none⟩ = false
def XL (W : World) (B : Nat) (v0 v1 : Value) : Prop := W.cell? ⟨B, 0, none⟩ = some v0 ∧ W.cell? ⟨B, 1, none⟩ = some v1
theorem ZL.but {W W' : World} {g B : Nat} (h : ZL W B) (k : But g W W') (hg : B ≠ g) : ZL W' B := by
  obtain ⟨c, f⟩ := k.far (World.block_lt_of_cell? W _ h.1) hg
  unfold ZL at h ⊢
  simp only [c, f]
  exact h
theorem ZL.below {W W' : World} {B : Nat} (h : ZL W B) (hb : RowKit.Below W.heap.size W W') : ZL W' B := by
  have hB : B < W.heap.size := World.block_lt_of_cell? W _ h.1
  exact h.but (g := B + 1) (But.of hb) (by omega)
theorem ZL.new (w : World) : ZL (w.alloc (.cells #[.slice none 0 0, .slice none 0 0] 31)) w.heap.size := by
  unfold ZL
  refine ⟨?_, ?_, ?_, ?_⟩ <;> go_simp
theorem XL.but {W W' : World} {g B : Nat} {v0 v1 : Value} (h : XL W B v0 v1) (k : But g W W') (hg : B ≠ g) : XL W' B v0 v1 := by
  obtain ⟨c, _⟩ := k.far (World.block_lt_of_cell? W _ h.1) hg
  unfold XL at h ⊢
  simp only [c]
  exact h
theorem XL.below {W W' : World} {B : Nat} {v0 v1 : Value} (h : XL W B v0 v1) (hb : RowKit.Below W.heap.size W W') : XL W' B v0 v1 :=
  h.but (g := B + 1) (But.of hb) (by omega)
theorem XL.new (w : World) (v0 v1 : Value) : XL (w.alloc (.cells #[v0, v1] 31)) w.heap.size v0 v1 := by
  unfold XL
  refine ⟨?_, ?_⟩ <;> go_simp

/-- a layer that is read, and what is wrong with it -/
def RL1 (g : Nat) (w : World) (l1 l2 : List Tr) (M : Int) (s : St) (e : Ending) (w' : World) : Prop := ∃ a1 k1 a2 k2, e = .returned (.tuple #[.agg #[.slice a1 l1.length k1, .slice a2 l2.length k2], errV M]) ∧ SlT w' a1 l1 ∧ SlT w' a2 l2 ∧ RdAt w' g s ∧ But g w w'
theorem RL1.mk {g : Nat} {w : World} {l1 l2 : List Tr} {M : Int} {s : St} {w' : World} (a1 : Option Addr) (k1 : Nat) (a2 : Option Addr) (k2 : Nat) (h1 : SlT w' a1 l1) (h2 : SlT w' a2 l2) (h3 : RdAt w' g s) (h4 : But g w w') : RL1 g w l1 l2 M s (.returned (.tuple #[.agg #[.slice a1 l1.length k1, .slice a2 l2.length k2], errV M])) w' := ⟨a1, k1, a2, k2, rfl, h1, h2, h3, h4⟩

set_option maxHeartbeats 4000000 in
set_option maxRecDepth 100000 in
theorem readLayer1_any (g : Nat) (s : St) (w : World) (h : RdAt w g s) :
    Calls Tryz.prog 71 #[.pointer (some ⟨g, 0, none⟩)] w (RL1 g w (setS s).1 (setS (setS s).2).1 (apartN (setS s).1 (setS (setS s).2).1) (setS (setS s).2).2) := by
  have H1 := fun W hW => rset_any g s W hW
  have H2 := fun W hW => rset_any g (setS s).2 W hW
  have HC := fun W a1 k1 a2 k2 h1 h2 => LCheck_any a1 a2 k1 k2 (setS s).1 (setS (setS s).2).1 W h1 h2 (fit_set _) (fit_set _) (len_set _) (len_set _)
  have Hr : Hid (RdAt w g s) := h
  have hg0 : g < w.heap.size := h.lt
  generalize apartN (setS s).1 (setS (setS s).2).1 = M at *
  generalize setS (setS s).2 = R2 at *
  generalize setS s = R1 at *
  obtain ⟨l1, s1⟩ := R1
  obtain ⟨l2, s2⟩ := R2
  dsimp only at *
  clear h
  go_enter Tryz.func71, Tryz.ntmps71
  go_wp2_with fail
  have hZ0 : Hid (ZL (w.alloc (.cells #[.slice none 0 0, .slice none 0 0] 31)) w.heap.size) := ZL.new _
  refine (H1 _ (Hr.out.below (balloc _ _))).mono ?_
  rintro e w1 ⟨a1, k1, rfl, hf1, hr1, hk1⟩
  dsimp only at hf1 hr1
  have hB1 : Hid (But g w w1) := (But.of (balloc _ _)).trans hk1
  have hZ1 : Hid (ZL w1 w.heap.size) := hZ0.out.but hk1 (by omega)
  have hf1 : Hid (Far g w1 a1 l1) := hf1
  clear hk1 hZ0 H1
  go_wp2_with fail
  refine (H2 _ hr1).mono ?_
  rintro e w2 ⟨a2, k2, rfl, hf2, hr2, hk2⟩
  dsimp only at hf2 hr2
  have hB2 : Hid (But g w w2) := hB1.out.trans hk2
  have hZ2 : Hid (ZL w2 w.heap.size) := hZ1.out.but hk2 (by omega)
  have hf1 : Hid (Far g w2 a1 l1) := hf1.out.but hk2
  have hf2 : Hid (Far g w2 a2 l2) := hf2
  clear hk2 hZ1 H2 hB1 hr1
  have hb3 := balloc w2 (.cells #[.slice a1 l1.length k1, .slice a2 l2.length k2] 31)
  have hX3 : Hid (XL (w2.alloc (.cells #[.slice a1 l1.length k1, .slice a2 l2.length k2] 31)) w2.heap.size (.slice a1 l1.length k1) (.slice a2 l2.length k2)) := XL.new _ _ _
  have hs3 : Hid (SlT (w2.alloc (.cells #[.slice a1 l1.length k1, .slice a2 l2.length k2] 31)).drew a1 l1 ∧ SlT (w2.alloc (.cells #[.slice a1 l1.length k1, .slice a2 l2.length k2] 31)).drew a2 l2) := ⟨hf1.out.sl.below hb3.drew, hf2.out.sl.below hb3.drew⟩
  have hZ3 : Hid (ZL (w2.alloc (.cells #[.slice a1 l1.length k1, .slice a2 l2.length k2] 31)) w.heap.size) := hZ2.out.below hb3
  have hr3 : Hid (RdAt (w2.alloc (.cells #[.slice a1 l1.length k1, .slice a2 l2.length k2] 31)) g s2) := hr2.below hb3
  have hB3 : Hid (But g w (w2.alloc (.cells #[.slice a1 l1.length k1, .slice a2 l2.length k2] 31))) := hB2.out.trans (But.of hb3)
  have hz2 : Hid (w.heap.size < w2.heap.size) := World.block_lt_of_cell? w2 _ hZ2.out.1
  clear hb3 hf1 hf2 hr2 hB2 hZ2 Hr
  go_wp2_with fail
  generalize w2.alloc (.cells #[.slice a1 l1.length k1, .slice a2 l2.length k2] 31) = w3 at *
  obtain ⟨x0, x1⟩ := hX3.out
  obtain ⟨z0, z1, f0, f1⟩ := hZ3.out
  have hne : w.heap.size ≠ w2.heap.size := by have := hz2.out; omega
  go_region_law (go_simp; go_at_call_of 60 (Value.agg #[.slice a1 l1.length k1, .slice a2 l2.length k2]); refine (HC w3.drew a1 k1 a2 k2 hs3.out.1 hs3.out.2).mono ?_; rintro e w4 ⟨rfl, hb4'⟩; have hb4 : RowKit.Below w3.heap.size w3 w4 := (RowKit.Below.refl _ w3).drew.trans hb4'; have hX4 := hX3.out.below hb4; have hZ4 := hZ3.out.below hb4; obtain ⟨y0, y1⟩ := id hX4; obtain ⟨t0, t1, q0, q1⟩ := id hZ4)
  all_goals go_wp2_with fail
  all_goals
    exact bodyPost_ret (v := .tuple #[.agg #[.slice a1 l1.length k1, .slice a2 l2.length k2], errV M]) (by unfold results; rw [Tryz.results71]; go_simp) rfl (RL1.mk a1 k1 a2 k2 ((hs3.out.1.below hb4').put2 t0 t1 _ _) ((hs3.out.2.below hb4').put2 t0 t1 _ _) (((hr3.out.below hb4).far (by omega)).far (by omega)) (But.fresh (But.fresh (hB3.out.trans (But.of hb4)) (Nat.le_refl _)) (Nat.le_refl _)))

def readLayN (b : List UInt8) : Int := wholeN (apartN (setS (0, b)).1 (setS (setS (0, b)).2).1) (setS (setS (0, b)).2).2
def readLayA (b : List UInt8) : List Tr := if readLayN b = 0 then (setS (0, b)).1 else []
def readLayD (b : List UInt8) : List Tr := if readLayN b = 0 then (setS (setS (0, b)).2).1 else []
/-- what is answered of bytes that are read as a layer -/
def ReadLAns (N : Int) (l1 l2 : List Tr) (w : World) (e : Ending) (w' : World) : Prop := RowKit.Below w.heap.size w w' ∧ ∃ a1 k1 a2 k2, e = .returned (.tuple #[.agg #[.slice a1 l1.length k1, .slice a2 l2.length k2], errV N]) ∧ SlT w' a1 l1 ∧ SlT w' a2 l2
theorem ReadLAns.mk {N : Int} {l1 l2 : List Tr} {w w' : World} (hb : RowKit.Below w.heap.size w w') (a1 : Option Addr) (k1 : Nat) (a2 : Option Addr) (k2 : Nat) (h1 : SlT w' a1 l1) (h2 : SlT w' a2 l2) : ReadLAns N l1 l2 w (.returned (.tuple #[.agg #[.slice a1 l1.length k1, .slice a2 l2.length k2], errV N])) w' := ⟨hb, a1, k1, a2, k2, rfl, h1, h2⟩
theorem entersRL : ∀ args w, (callFunc 71 args).run Tryz.prog w = .ok (.enter 71 args) w := enters_of Tryz.func71 (by kernel_rfl) rfl

set_option maxHeartbeats 4000000 in
set_option maxRecDepth 100000 in
theorem wholeLayer_any (b : List UInt8) (w : World) :
    Calls Tryz.prog 70 #[.string ⟨b.toArray⟩, .func (.func 71) #[] #[]] w (ReadLAns (readLayN b) (readLayA b) (readLayD b) w) := by
  have H := fun W hW => readLayer1_any (w.heap.size + 1) (0, b) W hW
  have e1 : readLayN b = wholeN (apartN (setS (0, b)).1 (setS (setS (0, b)).2).1) (setS (setS (0, b)).2).2 := rfl
  have e2 : readLayA b = if readLayN b = 0 then (setS (0, b)).1 else [] := rfl
  have e3 : readLayD b = if readLayN b = 0 then (setS (setS (0, b)).2).1 else [] := rfl
  generalize readLayA b = A at *
  generalize readLayD b = D at *
  generalize readLayN b = N at *
  generalize apartN (setS (0, b)).1 (setS (setS (0, b)).2).1 = M at *
  generalize setS (setS (0, b)).2 = R2 at *
  generalize setS (0, b) = R1 at *
  obtain ⟨l1, s1⟩ := R1
  obtain ⟨l2, s⟩ := R2
  dsimp only at *
  have E1 : Hid _ := e1
  have E2 : Hid _ := e2
  have E3 : Hid _ := e3
  have eg := entersRL
  clear e1 e2 e3
  go_enter Tryz.func70, Tryz.ntmps70
  go_wp2_with fail
  have hZ0 : Hid (ZL ((w.alloc (.cells #[.slice none 0 0, .slice none 0 0] 31)).alloc (.cells #[.int .i64 0, .string ⟨b.toArray⟩] 153)) w.heap.size) := (ZL.new w).below (balloc _ _)
  refine (H _ (RdAt.new1 w b _ _)).mono ?_
  rintro e w1 ⟨a1, k1, a2, k2, rfl, hs1, hs2, hr1, hk1⟩
  have hZ1 : Hid (ZL w1 w.heap.size) := hZ0.out.but hk1 (by omega)
  have hB1 : Hid (RowKit.Below w.heap.size w w1) := But.new1 (bstep (balloc _ _) (balloc _ _)) hk1
  have hz1 : Hid (w.heap.size + 1 < w1.heap.size) := hr1.lt
  have hb2 := balloc w1 (.cells #[.slice a1 l1.length k1, .slice a2 l2.length k2] 31)
  have hZ2 : Hid (ZL (w1.alloc (.cells #[.slice a1 l1.length k1, .slice a2 l2.length k2] 31)) w.heap.size) := hZ1.out.below hb2
  have hB2 : Hid (RowKit.Below w.heap.size w (w1.alloc (.cells #[.slice a1 l1.length k1, .slice a2 l2.length k2] 31))) := bstep hB1.out hb2
  have hX2 : Hid (XL (w1.alloc (.cells #[.slice a1 l1.length k1, .slice a2 l2.length k2] 31)) w1.heap.size (.slice a1 l1.length k1) (.slice a2 l2.length k2)) := XL.new _ _ _
  have hr2 : Hid (RdAt (w1.alloc (.cells #[.slice a1 l1.length k1, .slice a2 l2.length k2] 31)) (w.heap.size + 1) s) := hr1.below hb2
  have hS2 : Hid (SlT (w1.alloc (.cells #[.slice a1 l1.length k1, .slice a2 l2.length k2] 31)) a1 l1 ∧ SlT (w1.alloc (.cells #[.slice a1 l1.length k1, .slice a2 l2.length k2] 31)) a2 l2) := ⟨hs1.below hb2, hs2.below hb2⟩
  generalize hw2 : w1.alloc (.cells #[.slice a1 l1.length k1, .slice a2 l2.length k2] 31) = w2 at *
  clear H eg hk1 hZ0 hZ1 hB1 hr1 hs1 hs2 hb2
  obtain ⟨c0, c1, _, _⟩ := hr2.out
  by_cases hM : M = 0
  · subst hM
    by_cases hz : s.2 = []
    · rw [hz] at c1
      have eN : N = s.1 := E1.out.trans (wholeN_all hz)
      by_cases h0 : s.1 = 0
      · have eA : A = l1 := by rw [E2.out, if_pos (by rw [eN]; exact h0)]
        have eD : D = l2 := by rw [E3.out, if_pos (by rw [eN]; exact h0)]
        rw [h0] at c0 eN
        subst eN eA eD
        clear E1 E2 E3
        obtain ⟨z0, z1, f0, f1⟩ := hZ2.out
        obtain ⟨x0, x1⟩ := hX2.out
        have hne1 : w.heap.size ≠ w1.heap.size := by have := hz1.out; omega
        go_wp2_with fail
        exact bodyPost_ret (v := .tuple #[.agg #[.slice a1 A.length k1, .slice a2 D.length k2], .nilIface]) (by unfold results; rw [Tryz.results70]; go_simp) rfl (ReadLAns.mk (N := 0) (bset (bset hB2.out)) a1 k1 a2 k2 (hS2.out.1.put2 z0 z1 _ _) (hS2.out.2.put2 z0 z1 _ _))
      · have hne : s.1 ≠ 0 := h0
        have hne' : (s.1 == 0) = false := by simpa using hne
        have eL : A = [] ∧ D = [] := by rw [E2.out, E3.out, if_neg (by rw [eN]; exact hne), if_neg (by rw [eN]; exact hne)]; exact ⟨rfl, rfl⟩
        obtain ⟨rfl, rfl⟩ := eL
        subst eN
        clear E1 E2 E3
        obtain ⟨z0, z1, f0, f1⟩ := hZ2.out
        have hs2 : w.heap.size + 1 < w2.heap.size := hr2.out.lt
        have hs2x : w.heap.size < w2.heap.size := by omega
        go_wp2_with fail
        go_region
        go_wp2_with fail
        exact bodyPost_ret (v := .tuple #[.agg #[.slice none 0 0, .slice none 0 0], .iface 89 (.int .i64 s.1)]) (by unfold results; rw [Tryz.results70]; go_simp) rfl (by rw [← errV_ne hne]; exact ReadLAns.mk (l1 := []) (l2 := []) (by repeat (first | (with_reducible exact hB2.out) | (with_reducible refine RowKit.Below.drew ?_) | (with_reducible refine bset ?_) | (with_reducible refine bstep ?_ (balloc _ _)))) none 0 none 0 (fun h => absurd rfl h) (fun h => absurd rfl h))
    · obtain ⟨q, r, hqr⟩ : ∃ q r, s.2 = q :: r := by
        cases hh : s.2 with
        | nil => exact absurd hh hz
        | cons q r => exact ⟨q, r, rfl⟩
      rw [hqr] at c1
      have hcase : ¬ ((0 : Int) = 0 ∧ s.2 = []) := fun h => hz h.2
      have hne : (endS 2 s).1 ≠ 0 := endS_zero (by decide)
      have eN : N = (endS 2 s).1 := E1.out.trans (wholeN_bad hcase)
      have eL : A = [] ∧ D = [] := by rw [E2.out, E3.out, if_neg (by rw [eN]; exact hne), if_neg (by rw [eN]; exact hne)]; exact ⟨rfl, rfl⟩
      obtain ⟨rfl, rfl⟩ := eL
      subst eN
      clear E1 E2 E3 hcase
      go_wp2_with fail
      refine (end_any (w.heap.size + 1) s 2 w2 hr2.out).mono ?_
      rintro e w3 ⟨rfl, hr3, hk3⟩
      have hB3 : Hid (RowKit.Below w.heap.size w w3) := But.new1 hB2.out hk3
      obtain ⟨z0, z1, f0, f1⟩ := hZ2.out.but hk3 (by omega)
      have hs3 : w.heap.size + 1 < w3.heap.size := hr3.lt
      have hs3x : w.heap.size < w3.heap.size := by omega
      obtain ⟨c0, _, _, _⟩ := hr3
      have hne' : ((endS 2 s).1 == 0) = false := by simpa using hne
      generalize (endS 2 s).1 = E at *
      go_wp2_with fail
      go_region
      go_wp2_with fail
      exact bodyPost_ret (v := .tuple #[.agg #[.slice none 0 0, .slice none 0 0], .iface 89 (.int .i64 E)]) (by unfold results; rw [Tryz.results70]; go_simp) rfl (by rw [← errV_ne hne]; exact ReadLAns.mk (l1 := []) (l2 := []) (by repeat (first | (with_reducible exact hB3.out) | (with_reducible refine RowKit.Below.drew ?_) | (with_reducible refine bset ?_) | (with_reducible refine bstep ?_ (balloc _ _)))) none 0 none 0 (fun h => absurd rfl h) (fun h => absurd rfl h))
  · have hM' : (M == 0) = false := by simpa using hM
    have hcase : ¬ (M = 0 ∧ s.2 = []) := fun h => hM h.1
    have hne : (endS 2 s).1 ≠ 0 := endS_zero (by decide)
    have eN : N = (endS 2 s).1 := E1.out.trans (wholeN_bad hcase)
    have eL : A = [] ∧ D = [] := by rw [E2.out, E3.out, if_neg (by rw [eN]; exact hne), if_neg (by rw [eN]; exact hne)]; exact ⟨rfl, rfl⟩
    obtain ⟨rfl, rfl⟩ := eL
    subst eN
    clear E1 E2 E3 hcase
    go_wp2_with fail
    refine (end_any (w.heap.size + 1) s 2 w2 hr2.out).mono ?_
    rintro e w3 ⟨rfl, hr3, hk3⟩
    have hB3 : Hid (RowKit.Below w.heap.size w w3) := But.new1 hB2.out hk3
    obtain ⟨z0, z1, f0, f1⟩ := hZ2.out.but hk3 (by omega)
    have hs3 : w.heap.size + 1 < w3.heap.size := hr3.lt
    have hs3x : w.heap.size < w3.heap.size := by omega
    obtain ⟨c0, _, _, _⟩ := hr3
    have hne' : ((endS 2 s).1 == 0) = false := by simpa using hne
    generalize (endS 2 s).1 = E at *
    go_wp2_with fail
    go_region
    go_wp2_with fail
    exact bodyPost_ret (v := .tuple #[.agg #[.slice none 0 0, .slice none 0 0], .iface 89 (.int .i64 E)]) (by unfold results; rw [Tryz.results70]; go_simp) rfl (by rw [← errV_ne hne]; exact ReadLAns.mk (l1 := []) (l2 := []) (by repeat (first | (with_reducible exact hB3.out) | (with_reducible refine RowKit.Below.drew ?_) | (with_reducible refine bset ?_) | (with_reducible refine bstep ?_ (balloc _ _)))) none 0 none 0 (fun h => absurd rfl h) (fun h => absurd rfl h))

set_option maxHeartbeats 1000000 in
theorem ReadLayer_any (b : List UInt8) (w : World) :
    Calls Tryz.prog 35 #[.string ⟨b.toArray⟩] w (ReadLAns (readLayN b) (readLayA b) (readLayD b) w) := by
  have H := fun W => wholeLayer_any b W
  generalize readLayN b = N at *
  generalize readLayA b = A at *
  generalize readLayD b = D at *
  go_enter Tryz.func35, Tryz.ntmps35
  go_wp2_with fail
  have hZ0 : Hid (ZL (w.alloc (.cells #[.slice none 0 0, .slice none 0 0] 31)) w.heap.size) := ZL.new _
  refine (H _).mono ?_
  rintro e w1 ⟨hb, a1, k1, a2, k2, rfl, h1, h2⟩
  obtain ⟨z0, z1, f0, f1⟩ := hZ0.out.below hb
  have hB1 : Hid (RowKit.Below w.heap.size w w1) := bstep (balloc _ _) hb
  have HS : Hid (SlT w1 a1 A ∧ SlT w1 a2 D) := ⟨h1, h2⟩
  clear h1 h2
  go_wp2_with fail
  exact bodyPost_ret (v := .tuple #[.agg #[.slice a1 A.length k1, .slice a2 D.length k2], errV N]) (by unfold results; rw [Tryz.results35]; go_simp) rfl (ReadLAns.mk (bset (bset hB1.out)) a1 k1 a2 k2 (HS.out.1.put2 z0 z1 _ _) (HS.out.2.put2 z0 z1 _ _))
end Go.Proofs.YtonmmnhikjfibadGreatDoor
