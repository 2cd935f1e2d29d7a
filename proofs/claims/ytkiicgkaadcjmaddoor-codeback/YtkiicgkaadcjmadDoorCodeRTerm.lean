/- code's reader: a term. -/
import Derived.Test.YtkiicgkaadcjmadDoorCodeReader
namespace Go.Proofs.YtkiicgkaadcjmadDoor
open Go Go.RowKit Go.Proofs
set_option synthInstance.maxSize 1000

/-- an empty box for a term; a box that holds one -/
def ZB (W : World) (B : Nat) : Prop := W.cell? ⟨B, 0, none⟩ = some (.int .i64 0) ∧ W.cell? ⟨B, 1, none⟩ = some (.string ⟨#[]⟩) ∧ W.cell? ⟨B, 2, none⟩ = some (.string ⟨#[]⟩) ∧ W.frozen? ⟨B, 0, none⟩ = false ∧ W.frozen? ⟨B, 1, none⟩ = false ∧ W.frozen? ⟨B, 2, none⟩ = false
def XB (W : World) (B : Nat) (x : Tm) : Prop := W.cell? ⟨B, 0, none⟩ = some (.int .i64 x.1) ∧ W.cell? ⟨B, 1, none⟩ = some (.string ⟨x.2.1.toArray⟩) ∧ W.cell? ⟨B, 2, none⟩ = some (.string ⟨x.2.2.toArray⟩)
theorem But.far {g : Nat} {w w' : World} (h : But g w w') {B : Nat} (hB : B < w.heap.size) (hg : B ≠ g) : (∀ o, w'.cell? ⟨B, o, none⟩ = w.cell? ⟨B, o, none⟩) ∧ ∀ o, w'.frozen? ⟨B, o, none⟩ = w.frozen? ⟨B, o, none⟩ := by
  have e := h.block B hB (fun e => hg (by injection e))
  exact ⟨fun o => World.cell?_of_block (w := w) (w' := w') (a := ⟨B, o, none⟩) e, fun o => World.frozen?_of_block (w := w) (w' := w') (a := ⟨B, o, none⟩) e⟩
theorem ZB.but {W W' : World} {g B : Nat} (h : ZB W B) (k : But g W W') (hg : B ≠ g) : ZB W' B := by
  obtain ⟨c, f⟩ := k.far (World.block_lt_of_cell? W _ h.1) hg
  unfold ZB at h ⊢
  simp only [c, f]
  exact h
theorem ZB.below {W W' : World} {B : Nat} (h : ZB W B) (hb : RowKit.Below W.heap.size W W') : ZB W' B := by
  have hB : B < W.heap.size := World.block_lt_of_cell? W _ h.1
  exact h.but (g := B + 1) (But.of hb) (by omega)
theorem ZB.new (w : World) : ZB (w.alloc (.cells #[.int .i64 0, .string ⟨#[]⟩, .string ⟨#[]⟩] 23)) w.heap.size := by
  unfold ZB
  refine ⟨?_, ?_, ?_, ?_, ?_, ?_⟩ <;> go_simp
theorem XB.but {W W' : World} {g B : Nat} {x : Tm} (h : XB W B x) (k : But g W W') (hg : B ≠ g) : XB W' B x := by
  obtain ⟨c, _⟩ := k.far (World.block_lt_of_cell? W _ h.1) hg
  unfold XB at h ⊢
  simp only [c]
  exact h
theorem XB.below {W W' : World} {B : Nat} {x : Tm} (h : XB W B x) (hb : RowKit.Below W.heap.size W W') : XB W' B x :=
  h.but (g := B + 1) (But.of hb) (by omega)
theorem XB.new (w : World) (x : Tm) : XB (w.alloc (.cells #[.int .i64 x.1, .string ⟨x.2.1.toArray⟩, .string ⟨x.2.2.toArray⟩] 23)) w.heap.size x := by
  unfold XB
  refine ⟨?_, ?_, ?_⟩ <;> go_simp
theorem RdAt.far {w : World} {g B o : Nat} {s : St} {u : Value} (h : RdAt w g s) (hB : B ≠ g) : RdAt (w.setCell ⟨B, o, none⟩ u) g s := by
  have e := RowKit.Below.heap_setCell w ⟨B, o, none⟩ u g (fun e => hB e.symm)
  have c : ∀ j, (w.setCell ⟨B, o, none⟩ u).cell? ⟨g, j, none⟩ = w.cell? ⟨g, j, none⟩ := fun j => World.cell?_of_block (w := w) (a := ⟨g, j, none⟩) e
  have f : ∀ j, (w.setCell ⟨B, o, none⟩ u).frozen? ⟨g, j, none⟩ = w.frozen? ⟨g, j, none⟩ := fun j => World.frozen?_of_block (w := w) (a := ⟨g, j, none⟩) e
  unfold RdAt at h ⊢
  simp only [c, f]
  exact h
theorem But.fresh {w W : World} {g B o : Nat} {u : Value} (h : But g w W) (hB : w.heap.size ≤ B) : But g w (W.setCell ⟨B, o, none⟩ u) := by
  have q := (RowKit.Below.refl 0 W).setCell (p := ⟨B, o, none⟩) (Nat.zero_le _) u
  exact ⟨q.os.trans h.os, q.tape.trans h.tape, q.output.trans h.output, Nat.le_trans h.size q.size, fun k hk hne => (RowKit.Below.heap_setCell W ⟨B, o, none⟩ u k (by show k ≠ B; omega)).trans (h.block k hk hne)⟩

attribute [local go_sem] eql_errV neq_errV guard_errV

set_option maxHeartbeats 4000000 in
set_option maxRecDepth 100000 in
theorem rterm_any (g : Nat) (s : St) (w : World) (h : RdAt w g s) :
    Calls Tryd.prog 17 #[.pointer (some ⟨g, 0, none⟩)] w fun e w' => e = .returned (.agg #[.int .i64 (termS s).1.1, .string ⟨(termS s).1.2.1.toArray⟩, .string ⟨(termS s).1.2.2.toArray⟩]) ∧ RdAt w' g (termS s).2 ∧ But g w w' := by
  have HK := fun W hW => kind_any g s W hW
  have HL := fun W hW => take_any g (kindS s).2 (kindL (kindS s).1) W hW (by have := kindL_small (kindS s).1; omega)
  have HN := fun W hW => number_any g (langS s).2 1 W hW (by decide)
  have HT := fun W hW => take_any g (takeS 1 (langS s).2).2 (numL (takeS 1 (langS s).2).1) W hW (by have := numL_small (n := 1) (s := (langS s).2) (Nat.le_refl _); omega)
  have hS : (textS (langS s).2).1.length ≤ maxLen := by
    have h1 := takeS_len (numL (takeS 1 (langS s).2).1) (takeS 1 (langS s).2).2
    have h2 := numL_small (n := 1) (s := (langS s).2) (Nat.le_refl _)
    show (takeS _ _).1.length ≤ _
    unfold maxLen
    omega
  have hG : (langS s).1.length ≤ maxLen := by
    have h1 := takeS_len (kindL (kindS s).1) (kindS s).2
    have h2 := kindL_small (kindS s).1
    show (takeS _ _).1.length ≤ _
    unfold maxLen
    omega
  have HC := fun W => Check_any (kindK (kindS s).1) (textS (langS s).2).1 (langS s).1 W hS hG
  have e0 : (termS s).1 = (kindK (kindS s).1, (textS (langS s).2).1, (langS s).1) := rfl
  have e1 : (termS s).2 = if okTm (termS s).1 = 0 then (textS (langS s).2).2 else endS 2 (textS (langS s).2).2 := rfl
  have e2 : checkN (kindK (kindS s).1) (textS (langS s).2).1 (langS s).1 = okTm (termS s).1 := rfl
  rw [e2] at HC
  have f0 : Hid (okTm (termS s).1 = 0 → (termS s).2 = (textS (langS s).2).2) := fun e => by rw [e1, if_pos e]
  have f1 : Hid (¬ okTm (termS s).1 = 0 → (termS s).2 = endS 2 (textS (langS s).2).2) := fun e => by rw [e1, if_neg e]
  generalize okTm (termS s).1 = N at *
  generalize (termS s).2 = fin at *
  rw [e0]
  have e3 : takeS (kindL (kindS s).1) (kindS s).2 = langS s := rfl
  have e4 : takeS (numL (takeS 1 (langS s).2).1) (takeS 1 (langS s).2).2 = textS (langS s).2 := rfl
  rw [e3] at HL
  rw [e4] at HT
  clear e0 e1 e2 e3 e4 hS hG
  dsimp only
  generalize kindK (kindS s).1 = K at *
  generalize kindL (kindS s).1 = m at *
  generalize (kindS s).2 = s1 at *
  generalize (textS (langS s).2).1 = S at *
  generalize (textS (langS s).2).2 = s4 at *
  generalize numL (takeS 1 (langS s).2).1 = q at *
  generalize (takeS 1 (langS s).2).2 = s3 at *
  generalize (langS s).1 = L at *
  generalize (langS s).2 = s2 at *
  have Hr : Hid (RdAt w g s) := h
  clear h
  go_enter Tryd.func17, Tryd.ntmps17
  have hg0 : g < w.heap.size := Hr.out.lt
  go_wp2_with fail
  have hZ0 : Hid (ZB (w.alloc (.cells #[.int .i64 0, .string ⟨#[]⟩, .string ⟨#[]⟩] 23)) w.heap.size) := ZB.new _
  refine (HK _ (Hr.out.below (balloc _ _))).mono ?_
  rintro e w1 ⟨rfl, hr1, hk1⟩
  have hB1 : Hid (But g w w1) := (But.of (balloc _ _)).trans hk1
  have hZ1 : Hid (ZB w1 w.heap.size) := hZ0.out.but hk1 (by omega)
  clear hk1 hZ0 HK
  go_wp2_with fail
  refine (HL _ hr1).mono ?_
  rintro e w2 ⟨rfl, hr2, hk2⟩
  have hB2 : Hid (But g w w2) := hB1.out.trans hk2
  have hZ2 : Hid (ZB w2 w.heap.size) := hZ1.out.but hk2 (by omega)
  clear hk2 hZ1 HL hB1 hr1
  go_wp2_with fail
  refine (HN _ hr2).mono ?_
  rintro e w3 ⟨rfl, hr3, hk3⟩
  have hB3 : Hid (But g w w3) := hB2.out.trans hk3
  have hZ3 : Hid (ZB w3 w.heap.size) := hZ2.out.but hk3 (by omega)
  clear hk3 hZ2 HN hB2 hr2
  go_wp2_with fail
  refine (HT _ hr3).mono ?_
  rintro e w4 ⟨rfl, hr4, hk4⟩
  have hB4 : Hid (But g w w4) := hB3.out.trans hk4
  have hZ4 : Hid (ZB w4 w.heap.size) := hZ3.out.but hk4 (by omega)
  clear hk4 hZ3 HT hB3 hr3
  have hX5 : Hid (XB (w4.alloc (.cells #[.int .i64 K, .string ⟨S.toArray⟩, .string ⟨L.toArray⟩] 23)) w4.heap.size (K, S, L)) := XB.new w4 (K, S, L)
  have hg4 : Hid (g < w4.heap.size) := hr4.lt
  have hw4 : Hid (w.heap.size < w4.heap.size) := World.block_lt_of_cell? w4 _ hZ4.out.1
  go_wp2_with fail
  refine (HC _).mono ?_
  rintro e w5 ⟨rfl, hb5⟩
  have hb45 := bstep (balloc w4 (.cells #[.int .i64 K, .string ⟨S.toArray⟩, .string ⟨L.toArray⟩] 23)) hb5
  have hr5 : Hid (RdAt w5 g s4) := hr4.below hb45
  have hB5 : Hid (But g w w5) := hB4.out.trans (But.of hb45)
  have hZ5 : Hid (ZB w5 w.heap.size) := hZ4.out.below hb45
  have hX5 : Hid (XB w5 w4.heap.size (K, S, L)) := hX5.out.below hb5
  clear hb45 hb5 hZ4 hB4 hr4 HC
  by_cases hN : N = 0
  · subst hN
    have ef := f0.out rfl
    subst ef
    obtain ⟨x0, x1, x2⟩ := hX5.out
    obtain ⟨z0, z1, z2, q0, q1, q2⟩ := hZ5.out
    have hne : w.heap.size ≠ w4.heap.size := by have := hw4.out; omega
    clear f0 f1
    go_wp2_with fail
    exact bodyPost_ret (v := .agg #[.int .i64 K, .string ⟨S.toArray⟩, .string ⟨L.toArray⟩]) (by unfold results; rw [Tryd.results17]; go_simp) rfl ⟨rfl, ((hr5.out.far (by omega)).far (by omega)).far (by omega), ((hB5.out.fresh (Nat.le_refl _)).fresh (Nat.le_refl _)).fresh (Nat.le_refl _)⟩
  · have ef := f1.out hN
    subst ef
    have hN' : (N == 0) = false := by simpa using hN
    clear f0 f1
    go_wp2_with fail
    refine (end_any g s4 2 _ hr5.out).mono ?_
    rintro e w6 ⟨rfl, hr6, hk6⟩
    obtain ⟨x0, x1, x2⟩ := hX5.out.but hk6 (by have := hg4.out; omega)
    obtain ⟨z0, z1, z2, q0, q1, q2⟩ := hZ5.out.but hk6 (by omega)
    have hne : w.heap.size ≠ w4.heap.size := by have := hw4.out; omega
    go_wp2_with fail
    exact bodyPost_ret (v := .agg #[.int .i64 K, .string ⟨S.toArray⟩, .string ⟨L.toArray⟩]) (by unfold results; rw [Tryd.results17]; go_simp) rfl ⟨rfl, ((hr6.far (by omega)).far (by omega)).far (by omega), But.fresh (But.fresh (But.fresh (hB5.out.trans hk6) (Nat.le_refl _)) (Nat.le_refl _)) (Nat.le_refl _)⟩
end Go.Proofs.YtkiicgkaadcjmadDoor
