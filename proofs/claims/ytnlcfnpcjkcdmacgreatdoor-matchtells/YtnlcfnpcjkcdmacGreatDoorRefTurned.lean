/- The document's answer (package strataref1): turned. -/
import Derived.Test.YtnlcfnpcjkcdmacGreatDoorMatchOrd
import Derived.Test.YtnlcfnpcjkcdmacGreatDoorRefTerm
import Derived.Deep.RegionHeld3
import Derived.Deep.DeepCutAuto
namespace Go.Proofs.YtnlcfnpcjkcdmacGreatDoor
open Go Go.RowKit Go.Proofs
set_option synthInstance.maxSize 1000

/-- nothing that was there at v has turned -/
def BL (v W : World) : Prop := RowKit.Below v.heap.size v W
theorem BL.refl (v : World) : BL v v := RowKit.Below.refl _ _
theorem BL.drew {v W : World} (h : BL v W) : BL v W.drew := RowKit.Below.drew h
theorem BL.alloc {v W : World} (h : BL v W) (o : Obj) : BL v (W.alloc o) := bstep h (balloc _ _)
theorem BL.call {v W W' : World} (h : BL v W) (hb : RowKit.Below W.heap.size W W') : BL v W' := bstep h hb
theorem BL.set3 {v W : World} (h : BL v W) {g : Nat} (hg : v.heap.size ≤ g) (a b c : Value) : BL v (((W.setCell ⟨g, 0, none⟩ a).setCell ⟨g, 1, none⟩ b).setCell ⟨g, 2, none⟩ c) :=
  ((RowKit.Below.setCell (p := ⟨g, 0, none⟩) h hg a).setCell (p := ⟨g, 1, none⟩) hg b).setCell (p := ⟨g, 2, none⟩) hg c
theorem nameBL {v W : World} (h : BL v W) : ∃ W', W' = W ∧ BL v W' := ⟨W, rfl, h⟩

def Z3 (W : World) (B : Nat) : Prop := W.cell? ⟨B, 0, none⟩ = some (.int .i64 0) ∧ W.cell? ⟨B, 1, none⟩ = some (.string ⟨#[]⟩) ∧ W.cell? ⟨B, 2, none⟩ = some (.string ⟨#[]⟩) ∧ W.frozen? ⟨B, 0, none⟩ = false ∧ W.frozen? ⟨B, 1, none⟩ = false ∧ W.frozen? ⟨B, 2, none⟩ = false
theorem Z3.below {W W' : World} {B : Nat} (h : Z3 W B) (hb : RowKit.Below W.heap.size W W') : Z3 W' B := by
  obtain ⟨k, f⟩ := bcell hb
  have hB : B < W.heap.size := World.block_lt_of_cell? W _ h.1
  unfold Z3 at h ⊢
  simp only [k _ _ hB, f _ _ hB]
  exact h
theorem Z3.newD (w : World) : Z3 ((w.alloc (.cells #[.int .i64 0, .string ⟨#[]⟩, .string ⟨#[]⟩] 24)).drew) w.heap.size := by
  have h : Z3 (w.alloc (.cells #[.int .i64 0, .string ⟨#[]⟩, .string ⟨#[]⟩] 24)) w.heap.size := by
    unfold Z3
    refine ⟨?_, ?_, ?_, ?_, ?_, ?_⟩ <;> go_simp
  exact h

def TmAt (W : World) (g : Nat) (t : Tm) : Prop := W.cell? ⟨g, 0, none⟩ = some (.int .i64 t.1) ∧ W.cell? ⟨g, 1, none⟩ = some (.string ⟨t.2.1.toArray⟩) ∧ W.cell? ⟨g, 2, none⟩ = some (.string ⟨t.2.2.toArray⟩)

theorem ordV_bytes {o : List UInt8} (h : (ordN o).isSome = true) : ∃ c0 c1 c2 : UInt8, o = [c0, c1, c2] ∧ ordV o = (byteK (c0.toNat : Int), byteK (c1.toNat : Int), byteK (c2.toNat : Int)) := by
  rcases ord_six h with rfl | rfl | rfl | rfl | rfl | rfl
  all_goals exact ⟨_, _, _, rfl, by decide⟩

set_option maxHeartbeats 16000000 in
set_option maxRecDepth 100000 in
theorem turned3_any (x y : Tr) (d0 d1 d2 : UInt8) (w : World) :
    Calls Tryz.prog 42 #[valTr x, valTr y, .string ⟨#[d0, d1, d2]⟩] w fun e w' => e = .returned (.bool (decide (cmpO (byteK (d0.toNat : Int), byteK (d1.toNat : Int), byteK (d2.toNat : Int)) x y < 0))) ∧ RowKit.Below w.heap.size w w' := by
  have X0 := fun W => part_any x (d0.toNat : Int) W
  have X1 := fun W => part_any x (d1.toNat : Int) W
  have X2 := fun W => part_any x (d2.toNat : Int) W
  have Y0 := fun W => part_any y (d0.toNat : Int) W
  have Y1 := fun W => part_any y (d1.toNat : Int) W
  have Y2 := fun W => part_any y (d2.toNat : Int) W
  have fin : Hid (cmpO (byteK (d0.toNat : Int), byteK (d1.toNat : Int), byteK (d2.toNat : Int)) x y = orI (cmpTm (termK x (byteK (d0.toNat : Int))) (termK y (byteK (d0.toNat : Int)))) (cmpTm (termK x (byteK (d1.toNat : Int))) (termK y (byteK (d1.toNat : Int)))) (cmpTm (termK x (byteK (d2.toNat : Int))) (termK y (byteK (d2.toNat : Int))))) := rfl
  generalize cmpO (byteK (d0.toNat : Int), byteK (d1.toNat : Int), byteK (d2.toNat : Int)) x y = ans at *
  generalize termK x (byteK (d0.toNat : Int)) = x0 at *
  generalize termK x (byteK (d1.toNat : Int)) = x1 at *
  generalize termK x (byteK (d2.toNat : Int)) = x2 at *
  generalize termK y (byteK (d0.toNat : Int)) = y0 at *
  generalize termK y (byteK (d1.toNat : Int)) = y1 at *
  generalize termK y (byteK (d2.toNat : Int)) = y2 at *
  have K0 := fun W => RCompare_any x0.1 x0.2.1 x0.2.2 y0.1 y0.2.1 y0.2.2 W
  have K1 := fun W => RCompare_any x1.1 x1.2.1 x1.2.2 y1.1 y1.2.1 y1.2.2 W
  have K2 := fun W => RCompare_any x2.1 x2.2.1 x2.2.2 y2.1 y2.2.1 y2.2.2 W
  unfold cmpTm at fin
  generalize cmpT x0.1 x0.2.1 x0.2.2 y0.1 y0.2.1 y0.2.2 = n0 at *
  generalize cmpT x1.1 x1.2.1 x1.2.2 y1.1 y1.2.1 y1.2.2 = n1 at *
  generalize cmpT x2.1 x2.2.1 x2.2.2 y2.1 y2.2.1 y2.2.2 = n2 at *
  unfold valTr at X0 X1 X2 Y0 Y1 Y2 ⊢
  unfold valTermM at X0 X1 X2 Y0 Y1 Y2
  obtain ⟨B0, hB0⟩ : ∃ B0, B0 = ((w.alloc (.cells #[.int .i64 x.1.1, .string ⟨x.1.2.1.toArray⟩, .string ⟨x.1.2.2.toArray⟩, .int .i64 x.2.1.1, .string ⟨x.2.1.2.1.toArray⟩, .string ⟨x.2.1.2.2.toArray⟩, .int .i64 x.2.2.1, .string ⟨x.2.2.2.1.toArray⟩, .string ⟨x.2.2.2.2.toArray⟩] 82)).alloc (.cells #[.int .i64 y.1.1, .string ⟨y.1.2.1.toArray⟩, .string ⟨y.1.2.2.toArray⟩, .int .i64 y.2.1.1, .string ⟨y.2.1.2.1.toArray⟩, .string ⟨y.2.1.2.2.toArray⟩, .int .i64 y.2.2.1, .string ⟨y.2.2.2.1.toArray⟩, .string ⟨y.2.2.2.2.toArray⟩] 82)) := ⟨_, rfl⟩
  have HW : Hid (RowKit.Below w.heap.size w B0) := by show RowKit.Below _ _ _; rw [hB0]; exact bstep (balloc _ _) (balloc _ _)
  have HX : Hid (∀ W, BL B0 W → (W.cell? ⟨w.heap.size, 0, none⟩ = some (.int .i64 x.1.1) ∧ W.cell? ⟨w.heap.size, 1, none⟩ = some (.string ⟨x.1.2.1.toArray⟩) ∧ W.cell? ⟨w.heap.size, 2, none⟩ = some (.string ⟨x.1.2.2.toArray⟩) ∧ W.cell? ⟨w.heap.size, 3, none⟩ = some (.int .i64 x.2.1.1) ∧ W.cell? ⟨w.heap.size, 4, none⟩ = some (.string ⟨x.2.1.2.1.toArray⟩) ∧ W.cell? ⟨w.heap.size, 5, none⟩ = some (.string ⟨x.2.1.2.2.toArray⟩) ∧ W.cell? ⟨w.heap.size, 6, none⟩ = some (.int .i64 x.2.2.1) ∧ W.cell? ⟨w.heap.size, 7, none⟩ = some (.string ⟨x.2.2.2.1.toArray⟩) ∧ W.cell? ⟨w.heap.size, 8, none⟩ = some (.string ⟨x.2.2.2.2.toArray⟩)) ∧ (W.cell? ⟨w.heap.size + 1, 0, none⟩ = some (.int .i64 y.1.1) ∧ W.cell? ⟨w.heap.size + 1, 1, none⟩ = some (.string ⟨y.1.2.1.toArray⟩) ∧ W.cell? ⟨w.heap.size + 1, 2, none⟩ = some (.string ⟨y.1.2.2.toArray⟩) ∧ W.cell? ⟨w.heap.size + 1, 3, none⟩ = some (.int .i64 y.2.1.1) ∧ W.cell? ⟨w.heap.size + 1, 4, none⟩ = some (.string ⟨y.2.1.2.1.toArray⟩) ∧ W.cell? ⟨w.heap.size + 1, 5, none⟩ = some (.string ⟨y.2.1.2.2.toArray⟩) ∧ W.cell? ⟨w.heap.size + 1, 6, none⟩ = some (.int .i64 y.2.2.1) ∧ W.cell? ⟨w.heap.size + 1, 7, none⟩ = some (.string ⟨y.2.2.2.1.toArray⟩) ∧ W.cell? ⟨w.heap.size + 1, 8, none⟩ = some (.string ⟨y.2.2.2.2.toArray⟩))) := by
    intro W h
    unfold BL at h
    rw [hB0] at h
    have h1 := ninebox (bstep (balloc _ _) h)
    have h2 := ninebox h
    rw [World.size_alloc] at h2
    obtain ⟨a0, a1, a2, a3, a4, a5, a6, a7, a8, _⟩ := h1
    obtain ⟨b0, b1, b2, b3, b4, b5, b6, b7, b8, _⟩ := h2
    exact ⟨⟨a0, a1, a2, a3, a4, a5, a6, a7, a8⟩, b0, b1, b2, b3, b4, b5, b6, b7, b8⟩
  go_enter Tryz.func42, Tryz.ntmps42
  go_wp2_with fail
  rw [← hB0]
  clear hB0
  go_loopw [7] (fun i wr => ∃ k : Nat, k ≤ 3 ∧ i = .int .i64 k ∧ Hid ((0 < k → n0 = 0) ∧ (1 < k → n1 = 0) ∧ (2 < k → n2 = 0)) ∧ BL B0 wr) (fun i wr => 3 - (intOf i).toNat)
  case atStart => exact ⟨0, by omega, rfl, ⟨fun h => by omega, fun h => by omega, fun h => by omega⟩, BL.refl _⟩
  case round =>
    obtain ⟨k, hk, rfl, hZ, hbr⟩ := hrel
    have hw1 := HX.out _ hbr
    rcases (by omega : k = 0 ∨ k = 1 ∨ k = 2 ∨ k = 3) with rfl | rfl | rfl | rfl
    · obtain ⟨⟨a0, a1, a2, a3, a4, a5, a6, a7, a8⟩, _⟩ := hw1
      have mk : ∀ W, BL wr W → BL wr W ∧ W.cell? ⟨w.heap.size, 0, none⟩ = some (.int .i64 x.1.1) ∧ W.cell? ⟨w.heap.size, 1, none⟩ = some (.string ⟨x.1.2.1.toArray⟩) ∧ W.cell? ⟨w.heap.size, 2, none⟩ = some (.string ⟨x.1.2.2.toArray⟩) ∧ W.cell? ⟨w.heap.size, 3, none⟩ = some (.int .i64 x.2.1.1) ∧ W.cell? ⟨w.heap.size, 4, none⟩ = some (.string ⟨x.2.1.2.1.toArray⟩) ∧ W.cell? ⟨w.heap.size, 5, none⟩ = some (.string ⟨x.2.1.2.2.toArray⟩) ∧ W.cell? ⟨w.heap.size, 6, none⟩ = some (.int .i64 x.2.2.1) ∧ W.cell? ⟨w.heap.size, 7, none⟩ = some (.string ⟨x.2.2.2.1.toArray⟩) ∧ W.cell? ⟨w.heap.size, 8, none⟩ = some (.string ⟨x.2.2.2.2.toArray⟩) := fun W h => by
        have q := fun (p : Addr) (v : Value) (hv : wr.cell? p = some v) => (RowKit.Below.cell h (World.block_lt_of_cell? wr p hv)).trans hv
        exact ⟨h, q _ _ a0, q _ _ a1, q _ _ a2, q _ _ a3, q _ _ a4, q _ _ a5, q _ _ a6, q _ _ a7, q _ _ a8⟩
      have Hmk : Hid _ := mk
      have hr0 : BL wr wr.drew := (BL.refl wr).drew
      clear mk
      go_wp2_with fail
      go_cut [8] from 15 to 19 (fun u W' => ∃ g, u = .pointer (some ⟨g, 0, none⟩) ∧ Hid (TmAt W' g x0) ∧ Hid (BL wr W'))
      case first =>
        go_region_held3 (fun W => BL wr W ∧ W.cell? ⟨w.heap.size, 0, none⟩ = some (.int .i64 x.1.1) ∧ W.cell? ⟨w.heap.size, 1, none⟩ = some (.string ⟨x.1.2.1.toArray⟩) ∧ W.cell? ⟨w.heap.size, 2, none⟩ = some (.string ⟨x.1.2.2.toArray⟩) ∧ W.cell? ⟨w.heap.size, 3, none⟩ = some (.int .i64 x.2.1.1) ∧ W.cell? ⟨w.heap.size, 4, none⟩ = some (.string ⟨x.2.1.2.1.toArray⟩) ∧ W.cell? ⟨w.heap.size, 5, none⟩ = some (.string ⟨x.2.1.2.2.toArray⟩) ∧ W.cell? ⟨w.heap.size, 6, none⟩ = some (.int .i64 x.2.2.1) ∧ W.cell? ⟨w.heap.size, 7, none⟩ = some (.string ⟨x.2.2.2.1.toArray⟩) ∧ W.cell? ⟨w.heap.size, 8, none⟩ = some (.string ⟨x.2.2.2.2.toArray⟩)) ((refine Hmk.out _ ?_; repeat (first | (with_reducible refine BL.set3 ?_ (by first | omega | (simp; omega)) _ _ _) | (with_reducible refine BL.alloc ?_ _) | (with_reducible refine BL.call ?_ hb2) | (with_reducible exact hr0) | (with_reducible refine BL.drew ?_) | (with_reducible exact BL.refl _)))) (first
          | (go_at_call 73; refine (X0 _).mono ?_; rintro e v2 ⟨rfl, hb2⟩; have s2 := hb2.size; (try simp at s2); (first | (have qa : Z3 v2 wr.heap.size := (by with_reducible exact (Z3.newD wr).below hb2); obtain ⟨q0, q1, q2, q3, q4, q5⟩ := id qa; have qz := World.block_lt_of_cell? _ _ q0) | skip)))
        all_goals go_wp2_with fail
        all_goals go_meet
        all_goals exact ⟨_, rfl, ⟨by go_simp, by go_simp, by go_simp⟩, And.left (by assumption)⟩
      case rest =>
        obtain ⟨g, rfl, hT, hb3⟩ := hcut
        obtain ⟨w3, rfl, hb3⟩ := nameBL hb3
        obtain ⟨t0, t1, t2⟩ := hT
        have hB3 : BL B0 w3 := hbr.call hb3
        obtain ⟨_, b0, b1, b2, b3, b4, b5, b6, b7, b8⟩ := HX.out _ hB3
        clear a0 a1 a2 a3 a4 a5 a6 a7 a8 Hmk hr0
        have mk : ∀ W, BL w3 W → BL w3 W ∧ W.cell? ⟨w.heap.size + 1, 0, none⟩ = some (.int .i64 y.1.1) ∧ W.cell? ⟨w.heap.size + 1, 1, none⟩ = some (.string ⟨y.1.2.1.toArray⟩) ∧ W.cell? ⟨w.heap.size + 1, 2, none⟩ = some (.string ⟨y.1.2.2.toArray⟩) ∧ W.cell? ⟨w.heap.size + 1, 3, none⟩ = some (.int .i64 y.2.1.1) ∧ W.cell? ⟨w.heap.size + 1, 4, none⟩ = some (.string ⟨y.2.1.2.1.toArray⟩) ∧ W.cell? ⟨w.heap.size + 1, 5, none⟩ = some (.string ⟨y.2.1.2.2.toArray⟩) ∧ W.cell? ⟨w.heap.size + 1, 6, none⟩ = some (.int .i64 y.2.2.1) ∧ W.cell? ⟨w.heap.size + 1, 7, none⟩ = some (.string ⟨y.2.2.2.1.toArray⟩) ∧ W.cell? ⟨w.heap.size + 1, 8, none⟩ = some (.string ⟨y.2.2.2.2.toArray⟩) ∧ W.cell? ⟨g, 0, none⟩ = some (.int .i64 x0.1) ∧ W.cell? ⟨g, 1, none⟩ = some (.string ⟨x0.2.1.toArray⟩) ∧ W.cell? ⟨g, 2, none⟩ = some (.string ⟨x0.2.2.toArray⟩) := fun W h => by
          have q := fun (p : Addr) (v : Value) (hv : w3.cell? p = some v) => (RowKit.Below.cell h (World.block_lt_of_cell? w3 p hv)).trans hv
          exact ⟨h, q _ _ b0, q _ _ b1, q _ _ b2, q _ _ b3, q _ _ b4, q _ _ b5, q _ _ b6, q _ _ b7, q _ _ b8, q _ _ t0, q _ _ t1, q _ _ t2⟩
        have Hmk : Hid _ := mk
        have hr0 : BL w3 w3.drew := (BL.refl w3).drew
        clear mk
        go_wp2_with fail
        go_cut [9] from 20 to 24 (fun u W' => ∃ g', u = .pointer (some ⟨g', 0, none⟩) ∧ Hid (TmAt W' g' y0) ∧ Hid (TmAt W' g x0) ∧ Hid (BL w3 W'))
        case first =>
          go_region_held3 (fun W => BL w3 W ∧ W.cell? ⟨w.heap.size + 1, 0, none⟩ = some (.int .i64 y.1.1) ∧ W.cell? ⟨w.heap.size + 1, 1, none⟩ = some (.string ⟨y.1.2.1.toArray⟩) ∧ W.cell? ⟨w.heap.size + 1, 2, none⟩ = some (.string ⟨y.1.2.2.toArray⟩) ∧ W.cell? ⟨w.heap.size + 1, 3, none⟩ = some (.int .i64 y.2.1.1) ∧ W.cell? ⟨w.heap.size + 1, 4, none⟩ = some (.string ⟨y.2.1.2.1.toArray⟩) ∧ W.cell? ⟨w.heap.size + 1, 5, none⟩ = some (.string ⟨y.2.1.2.2.toArray⟩) ∧ W.cell? ⟨w.heap.size + 1, 6, none⟩ = some (.int .i64 y.2.2.1) ∧ W.cell? ⟨w.heap.size + 1, 7, none⟩ = some (.string ⟨y.2.2.2.1.toArray⟩) ∧ W.cell? ⟨w.heap.size + 1, 8, none⟩ = some (.string ⟨y.2.2.2.2.toArray⟩) ∧ W.cell? ⟨g, 0, none⟩ = some (.int .i64 x0.1) ∧ W.cell? ⟨g, 1, none⟩ = some (.string ⟨x0.2.1.toArray⟩) ∧ W.cell? ⟨g, 2, none⟩ = some (.string ⟨x0.2.2.toArray⟩)) ((refine Hmk.out _ ?_; repeat (first | (with_reducible refine BL.set3 ?_ (by first | omega | (simp; omega)) _ _ _) | (with_reducible refine BL.alloc ?_ _) | (with_reducible refine BL.call ?_ hb4) | (with_reducible exact hr0) | (with_reducible refine BL.drew ?_) | (with_reducible exact BL.refl _)))) (first
            | (go_at_call 73; refine (Y0 _).mono ?_; rintro e v4 ⟨rfl, hb4⟩; have s4 := hb4.size; (try simp at s4); (first | (have qa : Z3 v4 w3.heap.size := (by with_reducible exact (Z3.newD w3).below hb4); obtain ⟨q0, q1, q2, q3, q4, q5⟩ := id qa; have qz := World.block_lt_of_cell? _ _ q0) | skip)))
          all_goals go_wp2_with fail
          all_goals go_meet
          all_goals
            rename_i hHeld
            obtain ⟨hH0, _, _, _, _, _, _, _, _, _, hH1, hH2, hH3⟩ := hHeld
            exact ⟨_, rfl, ⟨by go_simp, by go_simp, by go_simp⟩, ⟨hH1, hH2, hH3⟩, hH0⟩
        case rest =>
          obtain ⟨g', rfl, hT', hT, hb5⟩ := hcut
          obtain ⟨w5, rfl, hb5⟩ := nameBL hb5
          clear t0 t1 t2
          obtain ⟨t0, t1, t2⟩ := hT
          obtain ⟨u0, u1, u2⟩ := hT'
          have hB5 : BL B0 w5 := hB3.call hb5
          clear b0 b1 b2 b3 b4 b5 b6 b7 b8 Hmk hr0
          go_wp2_with fail
          refine (K0 _).mono ?_
          rintro e w6 ⟨rfl, hb6⟩
          have hB6 : BL B0 w6 := hB5.call hb6
          have Hfin : Hid (RowKit.Below w.heap.size w w6) := bstep HW.out hB6
          cases hn : (n0 == 0)
          · have hne : ¬ n0 = 0 := by simpa using hn
            have f2 : Hid (ans = n0) := by
              have h := fin.out
              have hz := hZ.out
              
              unfold orI at h
              rw [if_neg hne] at h; 
              exact h
            clear fin hZ hne
            go_wp2_with fail
            go_ret
            exact ⟨ret_bool (by rw [f2.out]), Hfin.out⟩
          · have h0 : n0 = 0 := by simpa using hn
            have hZ2 : Hid ((0 < 0 + 1 → n0 = 0) ∧ (1 < 0 + 1 → n1 = 0) ∧ (2 < 0 + 1 → n2 = 0)) := ⟨fun _ => h0, fun h => by omega, fun h => by omega⟩
            clear hZ h0
            go_wp2_with fail
            exact ⟨⟨0 + 1, by omega, by go_num, hZ2, hB6⟩, by simp [intOf]⟩
    · obtain ⟨⟨a0, a1, a2, a3, a4, a5, a6, a7, a8⟩, _⟩ := hw1
      have mk : ∀ W, BL wr W → BL wr W ∧ W.cell? ⟨w.heap.size, 0, none⟩ = some (.int .i64 x.1.1) ∧ W.cell? ⟨w.heap.size, 1, none⟩ = some (.string ⟨x.1.2.1.toArray⟩) ∧ W.cell? ⟨w.heap.size, 2, none⟩ = some (.string ⟨x.1.2.2.toArray⟩) ∧ W.cell? ⟨w.heap.size, 3, none⟩ = some (.int .i64 x.2.1.1) ∧ W.cell? ⟨w.heap.size, 4, none⟩ = some (.string ⟨x.2.1.2.1.toArray⟩) ∧ W.cell? ⟨w.heap.size, 5, none⟩ = some (.string ⟨x.2.1.2.2.toArray⟩) ∧ W.cell? ⟨w.heap.size, 6, none⟩ = some (.int .i64 x.2.2.1) ∧ W.cell? ⟨w.heap.size, 7, none⟩ = some (.string ⟨x.2.2.2.1.toArray⟩) ∧ W.cell? ⟨w.heap.size, 8, none⟩ = some (.string ⟨x.2.2.2.2.toArray⟩) := fun W h => by
        have q := fun (p : Addr) (v : Value) (hv : wr.cell? p = some v) => (RowKit.Below.cell h (World.block_lt_of_cell? wr p hv)).trans hv
        exact ⟨h, q _ _ a0, q _ _ a1, q _ _ a2, q _ _ a3, q _ _ a4, q _ _ a5, q _ _ a6, q _ _ a7, q _ _ a8⟩
      have Hmk : Hid _ := mk
      have hr0 : BL wr wr.drew := (BL.refl wr).drew
      clear mk
      go_wp2_with fail
      go_cut [8] from 15 to 19 (fun u W' => ∃ g, u = .pointer (some ⟨g, 0, none⟩) ∧ Hid (TmAt W' g x1) ∧ Hid (BL wr W'))
      case first =>
        go_region_held3 (fun W => BL wr W ∧ W.cell? ⟨w.heap.size, 0, none⟩ = some (.int .i64 x.1.1) ∧ W.cell? ⟨w.heap.size, 1, none⟩ = some (.string ⟨x.1.2.1.toArray⟩) ∧ W.cell? ⟨w.heap.size, 2, none⟩ = some (.string ⟨x.1.2.2.toArray⟩) ∧ W.cell? ⟨w.heap.size, 3, none⟩ = some (.int .i64 x.2.1.1) ∧ W.cell? ⟨w.heap.size, 4, none⟩ = some (.string ⟨x.2.1.2.1.toArray⟩) ∧ W.cell? ⟨w.heap.size, 5, none⟩ = some (.string ⟨x.2.1.2.2.toArray⟩) ∧ W.cell? ⟨w.heap.size, 6, none⟩ = some (.int .i64 x.2.2.1) ∧ W.cell? ⟨w.heap.size, 7, none⟩ = some (.string ⟨x.2.2.2.1.toArray⟩) ∧ W.cell? ⟨w.heap.size, 8, none⟩ = some (.string ⟨x.2.2.2.2.toArray⟩)) ((refine Hmk.out _ ?_; repeat (first | (with_reducible refine BL.set3 ?_ (by first | omega | (simp; omega)) _ _ _) | (with_reducible refine BL.alloc ?_ _) | (with_reducible refine BL.call ?_ hb2) | (with_reducible exact hr0) | (with_reducible refine BL.drew ?_) | (with_reducible exact BL.refl _)))) (first
          | (go_at_call 73; refine (X1 _).mono ?_; rintro e v2 ⟨rfl, hb2⟩; have s2 := hb2.size; (try simp at s2); (first | (have qa : Z3 v2 wr.heap.size := (by with_reducible exact (Z3.newD wr).below hb2); obtain ⟨q0, q1, q2, q3, q4, q5⟩ := id qa; have qz := World.block_lt_of_cell? _ _ q0) | skip)))
        all_goals go_wp2_with fail
        all_goals go_meet
        all_goals exact ⟨_, rfl, ⟨by go_simp, by go_simp, by go_simp⟩, And.left (by assumption)⟩
      case rest =>
        obtain ⟨g, rfl, hT, hb3⟩ := hcut
        obtain ⟨w3, rfl, hb3⟩ := nameBL hb3
        obtain ⟨t0, t1, t2⟩ := hT
        have hB3 : BL B0 w3 := hbr.call hb3
        obtain ⟨_, b0, b1, b2, b3, b4, b5, b6, b7, b8⟩ := HX.out _ hB3
        clear a0 a1 a2 a3 a4 a5 a6 a7 a8 Hmk hr0
        have mk : ∀ W, BL w3 W → BL w3 W ∧ W.cell? ⟨w.heap.size + 1, 0, none⟩ = some (.int .i64 y.1.1) ∧ W.cell? ⟨w.heap.size + 1, 1, none⟩ = some (.string ⟨y.1.2.1.toArray⟩) ∧ W.cell? ⟨w.heap.size + 1, 2, none⟩ = some (.string ⟨y.1.2.2.toArray⟩) ∧ W.cell? ⟨w.heap.size + 1, 3, none⟩ = some (.int .i64 y.2.1.1) ∧ W.cell? ⟨w.heap.size + 1, 4, none⟩ = some (.string ⟨y.2.1.2.1.toArray⟩) ∧ W.cell? ⟨w.heap.size + 1, 5, none⟩ = some (.string ⟨y.2.1.2.2.toArray⟩) ∧ W.cell? ⟨w.heap.size + 1, 6, none⟩ = some (.int .i64 y.2.2.1) ∧ W.cell? ⟨w.heap.size + 1, 7, none⟩ = some (.string ⟨y.2.2.2.1.toArray⟩) ∧ W.cell? ⟨w.heap.size + 1, 8, none⟩ = some (.string ⟨y.2.2.2.2.toArray⟩) ∧ W.cell? ⟨g, 0, none⟩ = some (.int .i64 x1.1) ∧ W.cell? ⟨g, 1, none⟩ = some (.string ⟨x1.2.1.toArray⟩) ∧ W.cell? ⟨g, 2, none⟩ = some (.string ⟨x1.2.2.toArray⟩) := fun W h => by
          have q := fun (p : Addr) (v : Value) (hv : w3.cell? p = some v) => (RowKit.Below.cell h (World.block_lt_of_cell? w3 p hv)).trans hv
          exact ⟨h, q _ _ b0, q _ _ b1, q _ _ b2, q _ _ b3, q _ _ b4, q _ _ b5, q _ _ b6, q _ _ b7, q _ _ b8, q _ _ t0, q _ _ t1, q _ _ t2⟩
        have Hmk : Hid _ := mk
        have hr0 : BL w3 w3.drew := (BL.refl w3).drew
        clear mk
        go_wp2_with fail
        go_cut [9] from 20 to 24 (fun u W' => ∃ g', u = .pointer (some ⟨g', 0, none⟩) ∧ Hid (TmAt W' g' y1) ∧ Hid (TmAt W' g x1) ∧ Hid (BL w3 W'))
        case first =>
          go_region_held3 (fun W => BL w3 W ∧ W.cell? ⟨w.heap.size + 1, 0, none⟩ = some (.int .i64 y.1.1) ∧ W.cell? ⟨w.heap.size + 1, 1, none⟩ = some (.string ⟨y.1.2.1.toArray⟩) ∧ W.cell? ⟨w.heap.size + 1, 2, none⟩ = some (.string ⟨y.1.2.2.toArray⟩) ∧ W.cell? ⟨w.heap.size + 1, 3, none⟩ = some (.int .i64 y.2.1.1) ∧ W.cell? ⟨w.heap.size + 1, 4, none⟩ = some (.string ⟨y.2.1.2.1.toArray⟩) ∧ W.cell? ⟨w.heap.size + 1, 5, none⟩ = some (.string ⟨y.2.1.2.2.toArray⟩) ∧ W.cell? ⟨w.heap.size + 1, 6, none⟩ = some (.int .i64 y.2.2.1) ∧ W.cell? ⟨w.heap.size + 1, 7, none⟩ = some (.string ⟨y.2.2.2.1.toArray⟩) ∧ W.cell? ⟨w.heap.size + 1, 8, none⟩ = some (.string ⟨y.2.2.2.2.toArray⟩) ∧ W.cell? ⟨g, 0, none⟩ = some (.int .i64 x1.1) ∧ W.cell? ⟨g, 1, none⟩ = some (.string ⟨x1.2.1.toArray⟩) ∧ W.cell? ⟨g, 2, none⟩ = some (.string ⟨x1.2.2.toArray⟩)) ((refine Hmk.out _ ?_; repeat (first | (with_reducible refine BL.set3 ?_ (by first | omega | (simp; omega)) _ _ _) | (with_reducible refine BL.alloc ?_ _) | (with_reducible refine BL.call ?_ hb4) | (with_reducible exact hr0) | (with_reducible refine BL.drew ?_) | (with_reducible exact BL.refl _)))) (first
            | (go_at_call 73; refine (Y1 _).mono ?_; rintro e v4 ⟨rfl, hb4⟩; have s4 := hb4.size; (try simp at s4); (first | (have qa : Z3 v4 w3.heap.size := (by with_reducible exact (Z3.newD w3).below hb4); obtain ⟨q0, q1, q2, q3, q4, q5⟩ := id qa; have qz := World.block_lt_of_cell? _ _ q0) | skip)))
          all_goals go_wp2_with fail
          all_goals go_meet
          all_goals
            rename_i hHeld
            obtain ⟨hH0, _, _, _, _, _, _, _, _, _, hH1, hH2, hH3⟩ := hHeld
            exact ⟨_, rfl, ⟨by go_simp, by go_simp, by go_simp⟩, ⟨hH1, hH2, hH3⟩, hH0⟩
        case rest =>
          obtain ⟨g', rfl, hT', hT, hb5⟩ := hcut
          obtain ⟨w5, rfl, hb5⟩ := nameBL hb5
          clear t0 t1 t2
          obtain ⟨t0, t1, t2⟩ := hT
          obtain ⟨u0, u1, u2⟩ := hT'
          have hB5 : BL B0 w5 := hB3.call hb5
          clear b0 b1 b2 b3 b4 b5 b6 b7 b8 Hmk hr0
          go_wp2_with fail
          refine (K1 _).mono ?_
          rintro e w6 ⟨rfl, hb6⟩
          have hB6 : BL B0 w6 := hB5.call hb6
          have Hfin : Hid (RowKit.Below w.heap.size w w6) := bstep HW.out hB6
          cases hn : (n1 == 0)
          · have hne : ¬ n1 = 0 := by simpa using hn
            have f2 : Hid (ans = n1) := by
              have h := fin.out
              have hz := hZ.out
              have z0 : n0 = 0 := hz.1 (by omega); 
              unfold orI at h
              rw [if_pos z0] at h; rw [if_neg hne] at h; 
              exact h
            clear fin hZ hne
            go_wp2_with fail
            go_ret
            exact ⟨ret_bool (by rw [f2.out]), Hfin.out⟩
          · have h0 : n1 = 0 := by simpa using hn
            have hZ2 : Hid ((0 < 1 + 1 → n0 = 0) ∧ (1 < 1 + 1 → n1 = 0) ∧ (2 < 1 + 1 → n2 = 0)) := ⟨fun _ => hZ.out.1 (by omega), fun _ => h0, fun h => by omega⟩
            clear hZ h0
            go_wp2_with fail
            exact ⟨⟨1 + 1, by omega, by go_num, hZ2, hB6⟩, by simp [intOf]⟩
    · obtain ⟨⟨a0, a1, a2, a3, a4, a5, a6, a7, a8⟩, _⟩ := hw1
      have mk : ∀ W, BL wr W → BL wr W ∧ W.cell? ⟨w.heap.size, 0, none⟩ = some (.int .i64 x.1.1) ∧ W.cell? ⟨w.heap.size, 1, none⟩ = some (.string ⟨x.1.2.1.toArray⟩) ∧ W.cell? ⟨w.heap.size, 2, none⟩ = some (.string ⟨x.1.2.2.toArray⟩) ∧ W.cell? ⟨w.heap.size, 3, none⟩ = some (.int .i64 x.2.1.1) ∧ W.cell? ⟨w.heap.size, 4, none⟩ = some (.string ⟨x.2.1.2.1.toArray⟩) ∧ W.cell? ⟨w.heap.size, 5, none⟩ = some (.string ⟨x.2.1.2.2.toArray⟩) ∧ W.cell? ⟨w.heap.size, 6, none⟩ = some (.int .i64 x.2.2.1) ∧ W.cell? ⟨w.heap.size, 7, none⟩ = some (.string ⟨x.2.2.2.1.toArray⟩) ∧ W.cell? ⟨w.heap.size, 8, none⟩ = some (.string ⟨x.2.2.2.2.toArray⟩) := fun W h => by
        have q := fun (p : Addr) (v : Value) (hv : wr.cell? p = some v) => (RowKit.Below.cell h (World.block_lt_of_cell? wr p hv)).trans hv
        exact ⟨h, q _ _ a0, q _ _ a1, q _ _ a2, q _ _ a3, q _ _ a4, q _ _ a5, q _ _ a6, q _ _ a7, q _ _ a8⟩
      have Hmk : Hid _ := mk
      have hr0 : BL wr wr.drew := (BL.refl wr).drew
      clear mk
      go_wp2_with fail
      go_cut [8] from 15 to 19 (fun u W' => ∃ g, u = .pointer (some ⟨g, 0, none⟩) ∧ Hid (TmAt W' g x2) ∧ Hid (BL wr W'))
      case first =>
        go_region_held3 (fun W => BL wr W ∧ W.cell? ⟨w.heap.size, 0, none⟩ = some (.int .i64 x.1.1) ∧ W.cell? ⟨w.heap.size, 1, none⟩ = some (.string ⟨x.1.2.1.toArray⟩) ∧ W.cell? ⟨w.heap.size, 2, none⟩ = some (.string ⟨x.1.2.2.toArray⟩) ∧ W.cell? ⟨w.heap.size, 3, none⟩ = some (.int .i64 x.2.1.1) ∧ W.cell? ⟨w.heap.size, 4, none⟩ = some (.string ⟨x.2.1.2.1.toArray⟩) ∧ W.cell? ⟨w.heap.size, 5, none⟩ = some (.string ⟨x.2.1.2.2.toArray⟩) ∧ W.cell? ⟨w.heap.size, 6, none⟩ = some (.int .i64 x.2.2.1) ∧ W.cell? ⟨w.heap.size, 7, none⟩ = some (.string ⟨x.2.2.2.1.toArray⟩) ∧ W.cell? ⟨w.heap.size, 8, none⟩ = some (.string ⟨x.2.2.2.2.toArray⟩)) ((refine Hmk.out _ ?_; repeat (first | (with_reducible refine BL.set3 ?_ (by first | omega | (simp; omega)) _ _ _) | (with_reducible refine BL.alloc ?_ _) | (with_reducible refine BL.call ?_ hb2) | (with_reducible exact hr0) | (with_reducible refine BL.drew ?_) | (with_reducible exact BL.refl _)))) (first
          | (go_at_call 73; refine (X2 _).mono ?_; rintro e v2 ⟨rfl, hb2⟩; have s2 := hb2.size; (try simp at s2); (first | (have qa : Z3 v2 wr.heap.size := (by with_reducible exact (Z3.newD wr).below hb2); obtain ⟨q0, q1, q2, q3, q4, q5⟩ := id qa; have qz := World.block_lt_of_cell? _ _ q0) | skip)))
        all_goals go_wp2_with fail
        all_goals go_meet
        all_goals exact ⟨_, rfl, ⟨by go_simp, by go_simp, by go_simp⟩, And.left (by assumption)⟩
      case rest =>
        obtain ⟨g, rfl, hT, hb3⟩ := hcut
        obtain ⟨w3, rfl, hb3⟩ := nameBL hb3
        obtain ⟨t0, t1, t2⟩ := hT
        have hB3 : BL B0 w3 := hbr.call hb3
        obtain ⟨_, b0, b1, b2, b3, b4, b5, b6, b7, b8⟩ := HX.out _ hB3
        clear a0 a1 a2 a3 a4 a5 a6 a7 a8 Hmk hr0
        have mk : ∀ W, BL w3 W → BL w3 W ∧ W.cell? ⟨w.heap.size + 1, 0, none⟩ = some (.int .i64 y.1.1) ∧ W.cell? ⟨w.heap.size + 1, 1, none⟩ = some (.string ⟨y.1.2.1.toArray⟩) ∧ W.cell? ⟨w.heap.size + 1, 2, none⟩ = some (.string ⟨y.1.2.2.toArray⟩) ∧ W.cell? ⟨w.heap.size + 1, 3, none⟩ = some (.int .i64 y.2.1.1) ∧ W.cell? ⟨w.heap.size + 1, 4, none⟩ = some (.string ⟨y.2.1.2.1.toArray⟩) ∧ W.cell? ⟨w.heap.size + 1, 5, none⟩ = some (.string ⟨y.2.1.2.2.toArray⟩) ∧ W.cell? ⟨w.heap.size + 1, 6, none⟩ = some (.int .i64 y.2.2.1) ∧ W.cell? ⟨w.heap.size + 1, 7, none⟩ = some (.string ⟨y.2.2.2.1.toArray⟩) ∧ W.cell? ⟨w.heap.size + 1, 8, none⟩ = some (.string ⟨y.2.2.2.2.toArray⟩) ∧ W.cell? ⟨g, 0, none⟩ = some (.int .i64 x2.1) ∧ W.cell? ⟨g, 1, none⟩ = some (.string ⟨x2.2.1.toArray⟩) ∧ W.cell? ⟨g, 2, none⟩ = some (.string ⟨x2.2.2.toArray⟩) := fun W h => by
          have q := fun (p : Addr) (v : Value) (hv : w3.cell? p = some v) => (RowKit.Below.cell h (World.block_lt_of_cell? w3 p hv)).trans hv
          exact ⟨h, q _ _ b0, q _ _ b1, q _ _ b2, q _ _ b3, q _ _ b4, q _ _ b5, q _ _ b6, q _ _ b7, q _ _ b8, q _ _ t0, q _ _ t1, q _ _ t2⟩
        have Hmk : Hid _ := mk
        have hr0 : BL w3 w3.drew := (BL.refl w3).drew
        clear mk
        go_wp2_with fail
        go_cut [9] from 20 to 24 (fun u W' => ∃ g', u = .pointer (some ⟨g', 0, none⟩) ∧ Hid (TmAt W' g' y2) ∧ Hid (TmAt W' g x2) ∧ Hid (BL w3 W'))
        case first =>
          go_region_held3 (fun W => BL w3 W ∧ W.cell? ⟨w.heap.size + 1, 0, none⟩ = some (.int .i64 y.1.1) ∧ W.cell? ⟨w.heap.size + 1, 1, none⟩ = some (.string ⟨y.1.2.1.toArray⟩) ∧ W.cell? ⟨w.heap.size + 1, 2, none⟩ = some (.string ⟨y.1.2.2.toArray⟩) ∧ W.cell? ⟨w.heap.size + 1, 3, none⟩ = some (.int .i64 y.2.1.1) ∧ W.cell? ⟨w.heap.size + 1, 4, none⟩ = some (.string ⟨y.2.1.2.1.toArray⟩) ∧ W.cell? ⟨w.heap.size + 1, 5, none⟩ = some (.string ⟨y.2.1.2.2.toArray⟩) ∧ W.cell? ⟨w.heap.size + 1, 6, none⟩ = some (.int .i64 y.2.2.1) ∧ W.cell? ⟨w.heap.size + 1, 7, none⟩ = some (.string ⟨y.2.2.2.1.toArray⟩) ∧ W.cell? ⟨w.heap.size + 1, 8, none⟩ = some (.string ⟨y.2.2.2.2.toArray⟩) ∧ W.cell? ⟨g, 0, none⟩ = some (.int .i64 x2.1) ∧ W.cell? ⟨g, 1, none⟩ = some (.string ⟨x2.2.1.toArray⟩) ∧ W.cell? ⟨g, 2, none⟩ = some (.string ⟨x2.2.2.toArray⟩)) ((refine Hmk.out _ ?_; repeat (first | (with_reducible refine BL.set3 ?_ (by first | omega | (simp; omega)) _ _ _) | (with_reducible refine BL.alloc ?_ _) | (with_reducible refine BL.call ?_ hb4) | (with_reducible exact hr0) | (with_reducible refine BL.drew ?_) | (with_reducible exact BL.refl _)))) (first
            | (go_at_call 73; refine (Y2 _).mono ?_; rintro e v4 ⟨rfl, hb4⟩; have s4 := hb4.size; (try simp at s4); (first | (have qa : Z3 v4 w3.heap.size := (by with_reducible exact (Z3.newD w3).below hb4); obtain ⟨q0, q1, q2, q3, q4, q5⟩ := id qa; have qz := World.block_lt_of_cell? _ _ q0) | skip)))
          all_goals go_wp2_with fail
          all_goals go_meet
          all_goals
            rename_i hHeld
            obtain ⟨hH0, _, _, _, _, _, _, _, _, _, hH1, hH2, hH3⟩ := hHeld
            exact ⟨_, rfl, ⟨by go_simp, by go_simp, by go_simp⟩, ⟨hH1, hH2, hH3⟩, hH0⟩
        case rest =>
          obtain ⟨g', rfl, hT', hT, hb5⟩ := hcut
          obtain ⟨w5, rfl, hb5⟩ := nameBL hb5
          clear t0 t1 t2
          obtain ⟨t0, t1, t2⟩ := hT
          obtain ⟨u0, u1, u2⟩ := hT'
          have hB5 : BL B0 w5 := hB3.call hb5
          clear b0 b1 b2 b3 b4 b5 b6 b7 b8 Hmk hr0
          go_wp2_with fail
          refine (K2 _).mono ?_
          rintro e w6 ⟨rfl, hb6⟩
          have hB6 : BL B0 w6 := hB5.call hb6
          have Hfin : Hid (RowKit.Below w.heap.size w w6) := bstep HW.out hB6
          cases hn : (n2 == 0)
          · have hne : ¬ n2 = 0 := by simpa using hn
            have f2 : Hid (ans = n2) := by
              have h := fin.out
              have hz := hZ.out
              have z0 : n0 = 0 := hz.1 (by omega); have z1 : n1 = 0 := hz.2.1 (by omega); 
              unfold orI at h
              rw [if_pos z0] at h; rw [if_pos z1] at h; 
              exact h
            clear fin hZ hne
            go_wp2_with fail
            go_ret
            exact ⟨ret_bool (by rw [f2.out]), Hfin.out⟩
          · have h0 : n2 = 0 := by simpa using hn
            have hZ2 : Hid ((0 < 2 + 1 → n0 = 0) ∧ (1 < 2 + 1 → n1 = 0) ∧ (2 < 2 + 1 → n2 = 0)) := ⟨fun _ => hZ.out.1 (by omega), fun _ => hZ.out.2.1 (by omega), fun _ => h0⟩
            clear hZ h0
            go_wp2_with fail
            exact ⟨⟨2 + 1, by omega, by go_num, hZ2, hB6⟩, by simp [intOf]⟩
    · have f2 : Hid (ans = 0) := by
        have h := fin.out
        unfold orI at h
        rw [if_pos (hZ.out.1 (by omega)), if_pos (hZ.out.2.1 (by omega)), hZ.out.2.2 (by omega)] at h
        exact h
      have Hfin : Hid (RowKit.Below w.heap.size w wr) := bstep HW.out hbr
      clear fin hZ hw1
      go_wp2_with fail
      go_ret
      exact ⟨ret_bool (by rw [f2.out]; rfl), Hfin.out⟩
end Go.Proofs.YtnlcfnpcjkcdmacGreatDoor
