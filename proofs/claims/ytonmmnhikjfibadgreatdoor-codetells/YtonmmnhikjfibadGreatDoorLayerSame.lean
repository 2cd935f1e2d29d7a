/- stratasame.Layer, where package layer's other calls are not at hand. -/
import Derived.Test.YtonmmnhikjfibadGreatDoorLayerOps
namespace Go.Proofs.YtonmmnhikjfibadGreatDoor
open Go Go.RowKit Go.Proofs
set_option synthInstance.maxSize 1000

theorem twobox1 {w W : World} {T : TypeId} {o : Obj} {a0 a1 : Value} (hb : RowKit.Below ((w.alloc (.cells #[a0, a1] T)).alloc o).heap.size ((w.alloc (.cells #[a0, a1] T)).alloc o) W) :
    W.cell? ⟨w.heap.size, 0, none⟩ = some a0 ∧ W.cell? ⟨w.heap.size, 1, none⟩ = some a1 ∧ w.heap.size < W.heap.size ∧ W.frozen? ⟨w.heap.size, 0, none⟩ = false ∧ W.frozen? ⟨w.heap.size, 1, none⟩ = false := twobox (bstep (balloc _ _) hb)
theorem twobox2 {w W : World} {T : TypeId} {o : Obj} {a0 a1 : Value} (hb : RowKit.Below ((w.alloc o).alloc (.cells #[a0, a1] T)).heap.size ((w.alloc o).alloc (.cells #[a0, a1] T)) W) :
    W.cell? ⟨w.heap.size + 1, 0, none⟩ = some a0 ∧ W.cell? ⟨w.heap.size + 1, 1, none⟩ = some a1 ∧ w.heap.size + 1 < W.heap.size ∧ W.frozen? ⟨w.heap.size + 1, 0, none⟩ = false ∧ W.frozen? ⟨w.heap.size + 1, 1, none⟩ = false := by
  have := twobox hb
  rw [World.size_alloc] at this
  exact this

set_option maxHeartbeats 2000000 in
set_option maxRecDepth 100000 in
theorem SameLayer_any (ad bd cd dd : Option Addr) (ca cb cc ce : Nat) (a b c d : List Tr) (w : World) (ha : SlT w ad a) (hb : SlT w bd b) (hc : SlT w cd c) (hd : SlT w dd d) (na : a.length ≤ 1000000) (nb : b.length ≤ 1000000) (nc : c.length ≤ 1000000) (nd : d.length ≤ 1000000) :
    Calls Tryz.prog 18 #[.agg #[.slice ad a.length ca, .slice bd b.length cb], .agg #[.slice cd c.length cc, .slice dd d.length ce]] w fun e w' => e = .returned (.bool (decide (a = c) && decide (b = d))) ∧ RowKit.Below w.heap.size w w' := by
  have H1 := fun W h1 h2 => SameTriples_any ad cd ca cc a c W h1 h2 na nc
  have H2 := fun W h1 h2 => SameTriples_any bd dd cb ce b d W h1 h2 nb nd
  have HS : Hid (SlT w ad a ∧ SlT w bd b ∧ SlT w cd c ∧ SlT w dd d) := ⟨ha, hb, hc, hd⟩
  generalize decide (a = c) = p at *
  generalize decide (b = d) = q at *
  clear ha hb hc hd na nb nc nd
  go_enter Tryz.func18, Tryz.ntmps18
  go_wp2_with fail
  have hS0 := bstep (balloc w (.cells #[.slice ad a.length ca, .slice bd b.length cb] 31)) (balloc _ (.cells #[.slice cd c.length cc, .slice dd d.length ce] 31))
  refine (H1 _ (HS.out.1.below hS0) (HS.out.2.2.1.below hS0)).mono ?_
  rintro e w1 ⟨rfl, hb1⟩
  have hB1 := bstep hS0 hb1
  obtain ⟨x0, x1, _, _, _⟩ := twobox1 hb1
  obtain ⟨y0, y1, _, _, _⟩ := twobox2 hb1
  clear hS0 H1
  go_wp2_with fail
  refine (H2 _ (HS.out.2.1.below hB1) (HS.out.2.2.2.below hB1)).mono ?_
  rintro e w2 ⟨rfl, hb2⟩
  have hB2 := bstep hB1 hb2
  cases p <;> cases q
  all_goals
    go_wp2_with fail
    go_ret
    exact ⟨rfl, hB2⟩
end Go.Proofs.YtonmmnhikjfibadGreatDoor
