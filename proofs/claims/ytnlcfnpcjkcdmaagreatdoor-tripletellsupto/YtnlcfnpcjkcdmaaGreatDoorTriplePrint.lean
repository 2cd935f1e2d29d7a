/- triple.Print: the three, a blank between. -/
import Derived.Test.YtnlcfnpcjkcdmaaGreatDoorJoin
import Derived.Test.YtnlcfnpcjkcdmaaGreatDoorTripleRow
import Derived.Test.YtnlcfnpcjkcdmaaGreatDoorTermEq
namespace Go.Proofs.YtnlcfnpcjkcdmaaGreatDoor
open Go Go.RowKit Go.Proofs
set_option synthInstance.maxSize 1000

attribute [local go_sem] eql_errV neq_errV guard_errV

theorem show_short (k : Int) (S L : List UInt8) (h : checkN k S L = 0) : (showL k S L).length ≤ 1000 := by
  obtain ⟨_, hS, hsp⟩ := check_zero h
  have hL := spell_lang hsp
  have h1 := quoteL_len S
  have h2 := markL_len L
  unfold showL
  repeat' split
  all_goals (simp; try omega)

theorem mk3 (w : World) : (Instr.makeSlice 55 (.int .i64 3) (.int .i64 3)).run Tryz.prog w = .ok (.slice (some ⟨w.heap.size, 0, none⟩) 3 3) (w.alloc (.cells #[.string ⟨#[]⟩, .string ⟨#[]⟩, .string ⟨#[]⟩] 9)) := by kernel_rfl
attribute [local go_sem] mk3

set_option maxHeartbeats 4000000 in
set_option maxRecDepth 100000 in
theorem printTerms_any (c : Nat) (k1 : Int) (S1 L1 : List UInt8) (k2 : Int) (S2 L2 : List UInt8) (k3 : Int) (S3 L3 : List UInt8) (w : World) (h1 : checkN k1 S1 L1 = 0) (h2 : checkN k2 S2 L2 = 0) (h3 : checkN k3 S3 L3 = 0)
    (a0 : w.cell? ⟨c, 0, none⟩ = some (.int .i64 k1)) (a1 : w.cell? ⟨c, 1, none⟩ = some (.string ⟨S1.toArray⟩)) (a2 : w.cell? ⟨c, 2, none⟩ = some (.string ⟨L1.toArray⟩))
    (b0 : w.cell? ⟨c, 3, none⟩ = some (.int .i64 k2)) (b1 : w.cell? ⟨c, 4, none⟩ = some (.string ⟨S2.toArray⟩)) (b2 : w.cell? ⟨c, 5, none⟩ = some (.string ⟨L2.toArray⟩))
    (d0 : w.cell? ⟨c, 6, none⟩ = some (.int .i64 k3)) (d1 : w.cell? ⟨c, 7, none⟩ = some (.string ⟨S3.toArray⟩)) (d2 : w.cell? ⟨c, 8, none⟩ = some (.string ⟨L3.toArray⟩)) :
    Calls Tryz.prog 24 #[.slice (some ⟨c, 0, none⟩) 3 3] w fun e w' => e = .returned (.tuple #[.string ⟨(joinUpto (showL k1 S1 L1) (showL k2 S2 L2) (showL k3 S3 L3) 2).toArray⟩, .nilIface]) ∧ Below w.heap.size w w' := by
  have P1 := fun W => Print_good k1 S1 L1 W h1
  have P2 := fun W => Print_good k2 S2 L2 W h2
  have P3 := fun W => Print_good k3 S3 L3 W h3
  have l1 := show_short k1 S1 L1 h1
  have l2 := show_short k2 S2 L2 h2
  have l3 := show_short k3 S3 L3 h3
  generalize showL k1 S1 L1 = x at P1 l1 ⊢
  generalize showL k2 S2 L2 = y at P2 l2 ⊢
  generalize showL k3 S3 L3 = z at P3 l3 ⊢
  have KC : Hid (∀ W, Below w.heap.size w W → (W.cell? ⟨c, 0, none⟩ = some (.int .i64 k1) ∧ W.cell? ⟨c, 1, none⟩ = some (.string ⟨S1.toArray⟩) ∧ W.cell? ⟨c, 2, none⟩ = some (.string ⟨L1.toArray⟩) ∧ W.cell? ⟨c, 3, none⟩ = some (.int .i64 k2) ∧ W.cell? ⟨c, 4, none⟩ = some (.string ⟨S2.toArray⟩) ∧ W.cell? ⟨c, 5, none⟩ = some (.string ⟨L2.toArray⟩) ∧ W.cell? ⟨c, 6, none⟩ = some (.int .i64 k3) ∧ W.cell? ⟨c, 7, none⟩ = some (.string ⟨S3.toArray⟩) ∧ W.cell? ⟨c, 8, none⟩ = some (.string ⟨L3.toArray⟩)) ∧ c < w.heap.size) := by
    intro W hb
    have q : ∀ (p : Addr) (v : Value), w.cell? p = some v → W.cell? p = some v := fun p v hv => (hb.cell (World.block_lt_of_cell? w p hv)).trans hv
    exact ⟨⟨q _ _ a0, q _ _ a1, q _ _ a2, q _ _ b0, q _ _ b1, q _ _ b2, q _ _ d0, q _ _ d1, q _ _ d2⟩, World.block_lt_of_cell? w _ a0⟩
  clear a0 a1 a2 b0 b1 b2 d0 d1 d2 h1 h2 h3
  go_enter Tryz.func24, Tryz.ntmps24
  go_wp2_with fail
  go_loopw [14] (fun i wr => ∃ k : Nat, k ≤ 3 ∧ i = .int .i64 k ∧ wr.cell? ⟨w.heap.size, 0, none⟩ = some (.string ⟨(if 0 < k then x else []).toArray⟩) ∧ wr.cell? ⟨w.heap.size, 1, none⟩ = some (.string ⟨(if 1 < k then y else []).toArray⟩) ∧ wr.cell? ⟨w.heap.size, 2, none⟩ = some (.string ⟨(if 2 < k then z else []).toArray⟩)
      ∧ wr.frozen? ⟨w.heap.size, 0, none⟩ = false ∧ wr.frozen? ⟨w.heap.size, 1, none⟩ = false ∧ wr.frozen? ⟨w.heap.size, 2, none⟩ = false ∧ w.heap.size < wr.heap.size ∧ Below w.heap.size w wr) (fun i wr => 3 - (intOf i).toNat)
  case atStart => exact ⟨0, by omega, rfl, by go_simp, by go_simp, by go_simp, by go_simp, by go_simp, by go_simp, by simp, balloc _ _⟩
  case round =>
    obtain ⟨k, hk, rfl, e0, e1, e2, f0, f1, f2, hz, hbr⟩ := hrel
    obtain ⟨⟨a0, a1, a2, b0, b1, b2, d0, d1, d2⟩, hc⟩ := KC.out wr hbr
    have hne : c ≠ w.heap.size := by omega
    rcases (by omega : k = 0 ∨ k = 1 ∨ k = 2 ∨ k = 3) with rfl | rfl | rfl | rfl
    · replace e0 : wr.cell? ⟨w.heap.size, 0, none⟩ = some (.string ⟨(([] : List UInt8)).toArray⟩) := e0
      replace e1 : wr.cell? ⟨w.heap.size, 1, none⟩ = some (.string ⟨(([] : List UInt8)).toArray⟩) := e1
      replace e2 : wr.cell? ⟨w.heap.size, 2, none⟩ = some (.string ⟨(([] : List UInt8)).toArray⟩) := e2
      go_wp2_with fail
      refine (P1 _).mono ?_
      rintro e w1 ⟨rfl, hb1⟩
      have hB := bstep (balloc _ _) hb1
      obtain ⟨kc, kf⟩ := bcell hB
      have g0 := (kc _ 0 hz).trans e0
      have g1 := (kc _ 1 hz).trans e1
      have g2 := (kc _ 2 hz).trans e2
      have m0 := (kf _ 0 hz).trans f0
      have m1 := (kf _ 1 hz).trans f1
      have m2 := (kf _ 2 hz).trans f2
      have hz1 : w.heap.size < w1.heap.size := by have := hB.size; omega
      clear kc kf
      go_wp2_with fail
      exact ⟨⟨1, by omega, by go_num, by go_simp, by go_simp, by go_simp, by go_simp, by go_simp, by go_simp, by simpa using hz1, (bstep hbr hB).setCell (p := ⟨w.heap.size, 0, none⟩) (Nat.le_refl _) _⟩, by simp [intOf]⟩
    · replace e0 : wr.cell? ⟨w.heap.size, 0, none⟩ = some (.string ⟨(x).toArray⟩) := e0
      replace e1 : wr.cell? ⟨w.heap.size, 1, none⟩ = some (.string ⟨(([] : List UInt8)).toArray⟩) := e1
      replace e2 : wr.cell? ⟨w.heap.size, 2, none⟩ = some (.string ⟨(([] : List UInt8)).toArray⟩) := e2
      go_wp2_with fail
      refine (P2 _).mono ?_
      rintro e w1 ⟨rfl, hb1⟩
      have hB := bstep (balloc _ _) hb1
      obtain ⟨kc, kf⟩ := bcell hB
      have g0 := (kc _ 0 hz).trans e0
      have g1 := (kc _ 1 hz).trans e1
      have g2 := (kc _ 2 hz).trans e2
      have m0 := (kf _ 0 hz).trans f0
      have m1 := (kf _ 1 hz).trans f1
      have m2 := (kf _ 2 hz).trans f2
      have hz1 : w.heap.size < w1.heap.size := by have := hB.size; omega
      clear kc kf
      go_wp2_with fail
      exact ⟨⟨2, by omega, by go_num, by go_simp, by go_simp, by go_simp, by go_simp, by go_simp, by go_simp, by simpa using hz1, (bstep hbr hB).setCell (p := ⟨w.heap.size, 1, none⟩) (Nat.le_refl _) _⟩, by simp [intOf]⟩
    · replace e0 : wr.cell? ⟨w.heap.size, 0, none⟩ = some (.string ⟨(x).toArray⟩) := e0
      replace e1 : wr.cell? ⟨w.heap.size, 1, none⟩ = some (.string ⟨(y).toArray⟩) := e1
      replace e2 : wr.cell? ⟨w.heap.size, 2, none⟩ = some (.string ⟨(([] : List UInt8)).toArray⟩) := e2
      go_wp2_with fail
      refine (P3 _).mono ?_
      rintro e w1 ⟨rfl, hb1⟩
      have hB := bstep (balloc _ _) hb1
      obtain ⟨kc, kf⟩ := bcell hB
      have g0 := (kc _ 0 hz).trans e0
      have g1 := (kc _ 1 hz).trans e1
      have g2 := (kc _ 2 hz).trans e2
      have m0 := (kf _ 0 hz).trans f0
      have m1 := (kf _ 1 hz).trans f1
      have m2 := (kf _ 2 hz).trans f2
      have hz1 : w.heap.size < w1.heap.size := by have := hB.size; omega
      clear kc kf
      go_wp2_with fail
      exact ⟨⟨3, by omega, by go_num, by go_simp, by go_simp, by go_simp, by go_simp, by go_simp, by go_simp, by simpa using hz1, (bstep hbr hB).setCell (p := ⟨w.heap.size, 2, none⟩) (Nat.le_refl _) _⟩, by simp [intOf]⟩
    · replace e0 : wr.cell? ⟨w.heap.size, 0, none⟩ = some (.string ⟨(x).toArray⟩) := e0
      replace e1 : wr.cell? ⟨w.heap.size, 1, none⟩ = some (.string ⟨(y).toArray⟩) := e1
      replace e2 : wr.cell? ⟨w.heap.size, 2, none⟩ = some (.string ⟨(z).toArray⟩) := e2
      have HJ := fun W (hb : Below wr.heap.size wr W) => Join_any w.heap.size x y z W l1 l2 l3 ((hb.cell hz).trans e0) ((hb.cell hz).trans e1) ((hb.cell hz).trans e2)
      go_wp2_with fail
      refine (HJ _ (Below.refl _ _)).mono ?_
      rintro e w1 ⟨rfl, hb1⟩
      go_wp2_with fail
      exact bodyPost_ret (v := .tuple #[.string ⟨(joinUpto x y z 2).toArray⟩, .nilIface]) (by simp [results, Tryz.results24, go_sem]) rfl ⟨rfl, bstep hbr hb1⟩

/-- a triple as text -/
def showTr (x : Tr) : List UInt8 := joinUpto (showL x.1.1 x.1.2.1 x.1.2.2) (showL x.2.1.1 x.2.1.2.1 x.2.1.2.2) (showL x.2.2.1 x.2.2.2.1 x.2.2.2.2) 2
theorem TPrint_bad (x : Tr) (w : World) (hx : fitTr x) (h : chkTr x ≠ 0) : Calls Tryz.prog 8 #[valTr x] w fun e w' => e = .returned (.tuple #[.string ⟨#[]⟩, errV (chkTr x)]) ∧ Below w.heap.size w w' := by
  have H := fun W => ChkTr_any x W hx
  have hc : (chkTr x == 0) = false := by simpa using h
  clear h
  unfold valTr at *
  go_enter Tryz.func8, Tryz.ntmps8
  go_wp2_with fail
  refine (H _).mono ?_
  rintro e w1 ⟨rfl, hb1⟩
  go_wp2_with fail
  exact bodyPost_ret (v := .tuple #[.string ⟨#[]⟩, errV (chkTr x)]) (by simp [results, Tryz.results8, go_sem]) rfl ⟨rfl, bstep (balloc _ _) hb1⟩

set_option maxHeartbeats 1000000 in
theorem TPrint_good (x : Tr) (w : World) (hx : fitTr x) (h : chkTr x = 0) : Calls Tryz.prog 8 #[valTr x] w fun e w' => e = .returned (.tuple #[.string ⟨(showTr x).toArray⟩, .nilIface]) ∧ Below w.heap.size w w' := by
  have H := fun W => ChkTr_any x W hx
  rw [h, show errV 0 = .nilIface from rfl] at H
  obtain ⟨h1, h2, h3, _⟩ := chk_zero h
  have HP := fun c W => printTerms_any c x.1.1 x.1.2.1 x.1.2.2 x.2.1.1 x.2.1.2.1 x.2.1.2.2 x.2.2.1 x.2.2.2.1 x.2.2.2.2 W h1 h2 h3
  clear h h1 h2 h3 hx
  have fin : Hid (showTr x = joinUpto (showL x.1.1 x.1.2.1 x.1.2.2) (showL x.2.1.1 x.2.1.2.1 x.2.1.2.2) (showL x.2.2.1 x.2.2.2.1 x.2.2.2.2) 2) := rfl
  unfold valTr at *
  go_enter Tryz.func8, Tryz.ntmps8
  go_wp2_with fail
  refine (H _).mono ?_
  rintro e w1 ⟨rfl, hb1⟩
  obtain ⟨a0, a1, a2, b0, b1, b2, d0, d1, d2, hz⟩ := ninebox hb1
  go_wp2_with fail
  refine (HP w1.heap.size _ (by go_simp) (by go_simp) (by go_simp) (by go_simp) (by go_simp) (by go_simp) (by go_simp) (by go_simp) (by go_simp)).mono ?_
  rintro e w2 ⟨rfl, hb2⟩
  go_wp2_with fail
  exact bodyPost_ret (v := .tuple #[.string ⟨(showTr x).toArray⟩, .nilIface]) (by rw [fin.out]; simp [results, Tryz.results8, go_sem]) rfl ⟨rfl, bstep (bstep (bstep (balloc _ _) hb1) (balloc _ _)) hb2⟩
end Go.Proofs.YtnlcfnpcjkcdmaaGreatDoor
