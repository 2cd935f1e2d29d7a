/- layer: Turn, Between, after: what they tell. -/
import Derived.Test.YtgihagcjnjfpcacGreatDoorLayerOps
import Derived.Deep.RegionHeld3
namespace Go.Proofs.YtgihagcjnjfpcacGreatDoor
open Go Go.RowKit Go.Proofs
set_option synthInstance.maxSize 1000

attribute [local go_sem] eql_errV neq_errV guard_errV

theorem twobox1 {w W : World} {T : TypeId} {o : Obj} {a0 a1 : Value} (hb : RowKit.Below ((w.alloc (.cells #[a0, a1] T)).alloc o).heap.size ((w.alloc (.cells #[a0, a1] T)).alloc o) W) :
    W.cell? ⟨w.heap.size, 0, none⟩ = some a0 ∧ W.cell? ⟨w.heap.size, 1, none⟩ = some a1 ∧ w.heap.size < W.heap.size ∧ W.frozen? ⟨w.heap.size, 0, none⟩ = false ∧ W.frozen? ⟨w.heap.size, 1, none⟩ = false := twobox (bstep (balloc _ _) hb)
theorem twobox2 {w W : World} {T : TypeId} {o : Obj} {a0 a1 : Value} (hb : RowKit.Below ((w.alloc o).alloc (.cells #[a0, a1] T)).heap.size ((w.alloc o).alloc (.cells #[a0, a1] T)) W) :
    W.cell? ⟨w.heap.size + 1, 0, none⟩ = some a0 ∧ W.cell? ⟨w.heap.size + 1, 1, none⟩ = some a1 ∧ w.heap.size + 1 < W.heap.size ∧ W.frozen? ⟨w.heap.size + 1, 0, none⟩ = false ∧ W.frozen? ⟨w.heap.size + 1, 1, none⟩ = false := by
  have := twobox hb
  rw [World.size_alloc] at this
  exact this

theorem turn_keep {B : Nat} {ad bd : Option Addr} {ca cb : Nat} {a b : List Tr} {W W' : World} (h : W.cell? ⟨B, 0, none⟩ = some (.slice ad a.length ca) ∧ W.cell? ⟨B, 1, none⟩ = some (.slice bd b.length cb) ∧ SlT W ad a ∧ SlT W bd b) (hb : RowKit.Below W.heap.size W W') : W'.cell? ⟨B, 0, none⟩ = some (.slice ad a.length ca) ∧ W'.cell? ⟨B, 1, none⟩ = some (.slice bd b.length cb) ∧ SlT W' ad a ∧ SlT W' bd b :=
  ⟨(hb.cell (World.block_lt_of_cell? W _ h.1)).trans h.1, (hb.cell (World.block_lt_of_cell? W _ h.2.1)).trans h.2.1, h.2.2.1.below hb, h.2.2.2.below hb⟩
theorem turn_put {B B' : Nat} {ad bd : Option Addr} {ca cb : Nat} {a b : List Tr} {W : World} (h : W.cell? ⟨B, 0, none⟩ = some (.slice ad a.length ca) ∧ W.cell? ⟨B, 1, none⟩ = some (.slice bd b.length cb) ∧ SlT W ad a ∧ SlT W bd b) (hn : B' ≠ B) (h0 : W.cell? ⟨B', 0, none⟩ = some (.slice none 0 0)) (h1 : W.cell? ⟨B', 1, none⟩ = some (.slice none 0 0)) (u v : Value) :
    ((W.setCell ⟨B', 0, none⟩ u).setCell ⟨B', 1, none⟩ v).cell? ⟨B, 0, none⟩ = some (.slice ad a.length ca) ∧ ((W.setCell ⟨B', 0, none⟩ u).setCell ⟨B', 1, none⟩ v).cell? ⟨B, 1, none⟩ = some (.slice bd b.length cb) ∧ SlT ((W.setCell ⟨B', 0, none⟩ u).setCell ⟨B', 1, none⟩ v) ad a ∧ SlT ((W.setCell ⟨B', 0, none⟩ u).setCell ⟨B', 1, none⟩ v) bd b :=
  ⟨by rw [World.cell?_setCell_other _ _ _ v (fun e => hn (congrArg Addr.block e)), World.cell?_setCell_other _ _ _ u (fun e => hn (congrArg Addr.block e))]; exact h.1, by rw [World.cell?_setCell_other _ _ _ v (fun e => hn (congrArg Addr.block e)), World.cell?_setCell_other _ _ _ u (fun e => hn (congrArg Addr.block e))]; exact h.2.1, h.2.2.1.put2 h0 h1 u v, h.2.2.2.put2 h0 h1 u v⟩

set_option maxHeartbeats 4000000 in
set_option maxRecDepth 100000 in
theorem LTurn_any (ad bd : Option Addr) (ca cb : Nat) (a b : List Tr) (w : World) (ha : SlT w ad a) (hb : SlT w bd b) (fa : ∀ x ∈ a, fitTr x) (fb : ∀ x ∈ b, fitTr x) (na : a.length ≤ 9223372036854775807) (nb : b.length ≤ 9223372036854775807) :
    Calls Tryz.prog 25 #[.agg #[.slice ad a.length ca, .slice bd b.length cb]] w (LAns (apartN a b) (TurnAns a b) w) := by
  have H := fun W h1 h2 => LCheck_any ad bd ca cb a b W h1 h2 fa fb na nb
  have Ha : Hid (SlT w ad a) := ha
  have Hb : Hid (SlT w bd b) := hb
  have f0 : Hid (¬ apartN a b = 0 → TurnAns a b [] []) := fun h0 => ⟨fun h => absurd h h0, fun _ => ⟨rfl, rfl⟩⟩
  have f1 : Hid (apartN a b = 0 → TurnAns a b b a ∧ a.length ≤ 200 ∧ b.length ≤ 200) := fun h0 => by
    have h1 := bothN_zero.1 (orN_zero.1 h0).1
    exact ⟨⟨fun _ => ⟨rfl, rfl⟩, fun h => absurd h0 h⟩, h1.1.1, h1.2.1⟩
  generalize TurnAns a b = TA at *
  generalize apartN a b = n at *
  clear ha hb fa fb na nb
  go_enter Tryz.func25, Tryz.ntmps25
  go_wp2_with fail
  refine (H _ (Ha.out.below (bstep (balloc _ _) (balloc _ _))) (Hb.out.below (bstep (balloc _ _) (balloc _ _)))).mono ?_
  rintro e w1 ⟨rfl, hb1⟩
  have hB1 := bstep (bstep (balloc _ _) (balloc _ _)) hb1
  obtain ⟨x0, x1, hz1, _, _⟩ := twobox1 hb1
  obtain ⟨y0, y1, hz2, y2, y3⟩ := twobox2 hb1
  clear hb1 H
  cases hn : (n == 0)
  · have h0 : ¬ n = 0 := by simpa using hn
    have F0 : Hid _ := f0.out h0
    clear h0 f0 f1
    go_wp2_with fail
    exact bodyPost_ret (v := .tuple #[.agg #[.slice none 0 0, .slice none 0 0], errV n]) (by unfold results; rw [Tryz.results25]; go_simp) rfl (LAns.mk (below_two hB1 (by omega) _ _) [] none 0 [] none 0 (slT_nil _ _) (slT_nil _ _) F0.out)
  · have h0 : n = 0 := by simpa using hn
    have F1 : Hid _ := f1.out h0
    have na := F1.out.2.1
    have nb := F1.out.2.2
    have HA := fun (W : World) (h : W.cell? ⟨w.heap.size, 0, none⟩ = some (.slice ad a.length ca) ∧ W.cell? ⟨w.heap.size, 1, none⟩ = some (.slice bd b.length cb) ∧ SlT W ad a ∧ SlT W bd b) => fresh_any ad ca a W h.2.2.1 na
    have HB := fun (W : World) (h : W.cell? ⟨w.heap.size, 0, none⟩ = some (.slice ad a.length ca) ∧ W.cell? ⟨w.heap.size, 1, none⟩ = some (.slice bd b.length cb) ∧ SlT W ad a ∧ SlT W bd b) => fresh_any bd cb b W h.2.2.2 nb
    subst h0
    rw [show errV 0 = .nilIface from rfl]
    clear hn f0 f1 na nb
    go_wp2_with fail
    have za : SlT w1.drew ad a := (Ha.out.below hB1 : SlT w1 ad a)
    have zb : SlT w1.drew bd b := (Hb.out.below hB1 : SlT w1 bd b)
    go_region_held3 (fun W => W.cell? ⟨w.heap.size, 0, none⟩ = some (.slice ad a.length ca) ∧ W.cell? ⟨w.heap.size, 1, none⟩ = some (.slice bd b.length cb) ∧ SlT W ad a ∧ SlT W bd b) (first | exact turn_keep (by assumption) hbA | exact turn_keep (by assumption) hbB | exact turn_put (by assumption) (by omega) r0 r1 _ _ | go_keep) (first
      | (go_at_call 55; refine (HB _ (by assumption)).mono ?_; rintro e w2 ⟨ab, cb2, rfl, hslB, hbB⟩; have q0 : w2.cell? ⟨w.heap.size + 1, 0, none⟩ = some (.slice none 0 0) := ((bcell hbB).1 _ _ hz2).trans y0; have q1 : w2.cell? ⟨w.heap.size + 1, 1, none⟩ = some (.slice none 0 0) := ((bcell hbB).1 _ _ hz2).trans y1; have q2 : w2.frozen? ⟨w.heap.size + 1, 0, none⟩ = false := ((bcell hbB).2 _ _ hz2).trans y2; have q3 : w2.frozen? ⟨w.heap.size + 1, 1, none⟩ = false := ((bcell hbB).2 _ _ hz2).trans y3; have hz3 : w.heap.size + 1 < w2.heap.size := Nat.lt_of_lt_of_le hz2 hbB.size)
      | (go_at_call 55; refine (HA _ (by assumption)).mono ?_; rintro e w3 ⟨aa, ca3, rfl, hslA, hbA⟩; have r0 : w3.cell? ⟨w.heap.size + 1, 0, none⟩ = some (.slice none 0 0) := ((bcell hbA).1 _ _ hz3).trans q0; have r1 : w3.cell? ⟨w.heap.size + 1, 1, none⟩ = some (.slice none 0 0) := ((bcell hbA).1 _ _ hz3).trans q1; have r2 : w3.frozen? ⟨w.heap.size + 1, 0, none⟩ = false := ((bcell hbA).2 _ _ hz3).trans q2; have r3 : w3.frozen? ⟨w.heap.size + 1, 1, none⟩ = false := ((bcell hbA).2 _ _ hz3).trans q3))
    have hB3 := bstep (bstep hB1.drew hbB) hbA
    have Hz : Hid (SlT w3 ab b ∧ SlT w3 aa a) := ⟨hslB.below hbA, hslA⟩
    clear hslB hslA
    go_wp2_with fail
    exact bodyPost_ret (v := .tuple #[.agg #[.slice ab b.length cb2, .slice aa a.length ca3], .nilIface]) (by unfold results; rw [Tryz.results25]; go_simp) rfl (LAns.mk (n := 0) (below_two hB3 (by omega) _ _) b ab cb2 a aa ca3 (Hz.out.1.put2 r0 r1 _ _) (Hz.out.2.put2 r0 r1 _ _) F1.out.1)
end Go.Proofs.YtgihagcjnjfpcacGreatDoor
