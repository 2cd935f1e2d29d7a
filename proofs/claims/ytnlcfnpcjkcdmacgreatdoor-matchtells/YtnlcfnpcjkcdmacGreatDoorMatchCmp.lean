/- Index's comparer. -/
import Derived.Test.YtnlcfnpcjkcdmacGreatDoorOrdPlain
import Derived.Deep.RegionHeld3
import Derived.Deep.DeepCutAuto
namespace Go.Proofs.YtnlcfnpcjkcdmacGreatDoor
open Go Go.RowKit Go.Proofs Go.Sort
set_option synthInstance.maxSize 1000

/-- nothing old has turned, and there may have been draws -/
def BD (w W : World) : Prop := RowKit.Below w.heap.size w W ∧ w.drawn ≤ W.drawn
theorem BD.grew {w W W' : World} (h : BD w W) (g : Grew W W') : BD w W' := by
  refine ⟨bstep h.1 g.below, ?_⟩
  obtain ⟨q, os, rfl⟩ := g
  exact Nat.le_trans h.2 (Nat.le_add_right _ _)
theorem BD.alloc {w W : World} (h : BD w W) (o : Obj) : BD w (W.alloc o) := h.grew (grew_alloc _ _)
theorem BD.drew {w W : World} (h : BD w W) : BD w W.drew := h.grew (grew_drew _)
theorem BD.refl (w : World) : BD w w := ⟨RowKit.Below.refl _ _, Nat.le_refl _⟩
theorem BD.set {w W : World} (h : BD w W) {p : Addr} (hp : w.heap.size ≤ p.block) (v : Value) : BD w (W.setCell p v) := ⟨h.1.setCell hp v, h.2⟩
theorem BD.size {w W : World} (h : BD w W) : w.heap.size ≤ W.heap.size := h.1.size
theorem BD.toGrew {w W : World} (h : BD w W) : Grew w W := grew_of h.1 h.2
theorem BD.set9 {w W : World} (h : BD w W) {b : Nat} (hb : w.heap.size ≤ b) (v0 v1 v2 v3 v4 v5 v6 v7 v8 : Value) : BD w (((((((((W.setCell ⟨b, 0, none⟩ v0).setCell ⟨b, 1, none⟩ v1).setCell ⟨b, 2, none⟩ v2).setCell ⟨b, 3, none⟩ v3).setCell ⟨b, 4, none⟩ v4).setCell ⟨b, 5, none⟩ v5).setCell ⟨b, 6, none⟩ v6).setCell ⟨b, 7, none⟩ v7).setCell ⟨b, 8, none⟩ v8) :=
  ((((((((h.set (p := ⟨b, 0, none⟩) hb v0).set (p := ⟨b, 1, none⟩) hb v1).set (p := ⟨b, 2, none⟩) hb v2).set (p := ⟨b, 3, none⟩) hb v3).set (p := ⟨b, 4, none⟩) hb v4).set (p := ⟨b, 5, none⟩) hb v5).set (p := ⟨b, 6, none⟩) hb v6).set (p := ⟨b, 7, none⟩) hb v7).set (p := ⟨b, 8, none⟩) hb v8

def Z9 (W : World) (B : Nat) : Prop := W.cell? ⟨B, 0, none⟩ = some (.int .i64 0) ∧ W.cell? ⟨B, 1, none⟩ = some (.string ⟨#[]⟩) ∧ W.cell? ⟨B, 2, none⟩ = some (.string ⟨#[]⟩) ∧ W.cell? ⟨B, 3, none⟩ = some (.int .i64 0) ∧ W.cell? ⟨B, 4, none⟩ = some (.string ⟨#[]⟩) ∧ W.cell? ⟨B, 5, none⟩ = some (.string ⟨#[]⟩) ∧ W.cell? ⟨B, 6, none⟩ = some (.int .i64 0) ∧ W.cell? ⟨B, 7, none⟩ = some (.string ⟨#[]⟩) ∧ W.cell? ⟨B, 8, none⟩ = some (.string ⟨#[]⟩) ∧ W.frozen? ⟨B, 0, none⟩ = false ∧ W.frozen? ⟨B, 1, none⟩ = false ∧ W.frozen? ⟨B, 2, none⟩ = false ∧ W.frozen? ⟨B, 3, none⟩ = false ∧ W.frozen? ⟨B, 4, none⟩ = false ∧ W.frozen? ⟨B, 5, none⟩ = false ∧ W.frozen? ⟨B, 6, none⟩ = false ∧ W.frozen? ⟨B, 7, none⟩ = false ∧ W.frozen? ⟨B, 8, none⟩ = false
theorem Z9.below {W W' : World} {B : Nat} (h : Z9 W B) (hb : RowKit.Below W.heap.size W W') : Z9 W' B := by
  obtain ⟨k, f⟩ := bcell hb
  have hB : B < W.heap.size := World.block_lt_of_cell? W _ h.1
  unfold Z9 at h ⊢
  simp only [k _ _ hB, f _ _ hB]
  exact h
theorem Z9.new (W : World) : Z9 (W.alloc (.cells #[.int .i64 0, .string ⟨#[]⟩, .string ⟨#[]⟩, .int .i64 0, .string ⟨#[]⟩, .string ⟨#[]⟩, .int .i64 0, .string ⟨#[]⟩, .string ⟨#[]⟩] 93)) W.heap.size := by
  unfold Z9
  refine ⟨?_, ?_, ?_, ?_, ?_, ?_, ?_, ?_, ?_, ?_, ?_, ?_, ?_, ?_, ?_, ?_, ?_, ?_⟩ <;> go_simp
theorem Z9.newD (w : World) : Z9 ((w.alloc (.cells #[.int .i64 0, .string ⟨#[]⟩, .string ⟨#[]⟩, .int .i64 0, .string ⟨#[]⟩, .string ⟨#[]⟩, .int .i64 0, .string ⟨#[]⟩, .string ⟨#[]⟩] 93)).drew) w.heap.size := Z9.new w
theorem Z9.new2 (W : World) : Z9 ((W.alloc (.cells #[.int .i64 0, .string ⟨#[]⟩, .string ⟨#[]⟩, .int .i64 0, .string ⟨#[]⟩, .string ⟨#[]⟩, .int .i64 0, .string ⟨#[]⟩, .string ⟨#[]⟩] 93)).alloc (.cells #[.int .i64 0, .string ⟨#[]⟩, .string ⟨#[]⟩, .int .i64 0, .string ⟨#[]⟩, .string ⟨#[]⟩, .int .i64 0, .string ⟨#[]⟩, .string ⟨#[]⟩] 93)) W.heap.size ∧ Z9 ((W.alloc (.cells #[.int .i64 0, .string ⟨#[]⟩, .string ⟨#[]⟩, .int .i64 0, .string ⟨#[]⟩, .string ⟨#[]⟩, .int .i64 0, .string ⟨#[]⟩, .string ⟨#[]⟩] 93)).alloc (.cells #[.int .i64 0, .string ⟨#[]⟩, .string ⟨#[]⟩, .int .i64 0, .string ⟨#[]⟩, .string ⟨#[]⟩, .int .i64 0, .string ⟨#[]⟩, .string ⟨#[]⟩] 93)) (W.heap.size + 1) := by
  have h := Z9.new (W.alloc (.cells #[.int .i64 0, .string ⟨#[]⟩, .string ⟨#[]⟩, .int .i64 0, .string ⟨#[]⟩, .string ⟨#[]⟩, .int .i64 0, .string ⟨#[]⟩, .string ⟨#[]⟩] 93))
  rw [World.size_alloc] at h
  exact ⟨(Z9.new W).below (balloc _ _), h⟩
theorem Z9.newD2 (w : World) : Z9 (((w.alloc (.cells #[.int .i64 0, .string ⟨#[]⟩, .string ⟨#[]⟩, .int .i64 0, .string ⟨#[]⟩, .string ⟨#[]⟩, .int .i64 0, .string ⟨#[]⟩, .string ⟨#[]⟩] 93)).alloc (.cells #[.int .i64 0, .string ⟨#[]⟩, .string ⟨#[]⟩, .int .i64 0, .string ⟨#[]⟩, .string ⟨#[]⟩, .int .i64 0, .string ⟨#[]⟩, .string ⟨#[]⟩] 93)).drew) w.heap.size ∧ Z9 (((w.alloc (.cells #[.int .i64 0, .string ⟨#[]⟩, .string ⟨#[]⟩, .int .i64 0, .string ⟨#[]⟩, .string ⟨#[]⟩, .int .i64 0, .string ⟨#[]⟩, .string ⟨#[]⟩] 93)).alloc (.cells #[.int .i64 0, .string ⟨#[]⟩, .string ⟨#[]⟩, .int .i64 0, .string ⟨#[]⟩, .string ⟨#[]⟩, .int .i64 0, .string ⟨#[]⟩, .string ⟨#[]⟩] 93)).drew) (w.heap.size + 1) := Z9.new2 w
theorem tripOf {W : World} {g : Nat} {t : Tr} (h0 : W.cell? ⟨g, 0, none⟩ = some (.int .i64 t.1.1)) (h1 : W.cell? ⟨g, 1, none⟩ = some (.string ⟨t.1.2.1.toArray⟩)) (h2 : W.cell? ⟨g, 2, none⟩ = some (.string ⟨t.1.2.2.toArray⟩)) (h3 : W.cell? ⟨g, 3, none⟩ = some (.int .i64 t.2.1.1)) (h4 : W.cell? ⟨g, 4, none⟩ = some (.string ⟨t.2.1.2.1.toArray⟩)) (h5 : W.cell? ⟨g, 5, none⟩ = some (.string ⟨t.2.1.2.2.toArray⟩)) (h6 : W.cell? ⟨g, 6, none⟩ = some (.int .i64 t.2.2.1)) (h7 : W.cell? ⟨g, 7, none⟩ = some (.string ⟨t.2.2.2.1.toArray⟩)) (h8 : W.cell? ⟨g, 8, none⟩ = some (.string ⟨t.2.2.2.2.toArray⟩)) : TripAt W g t := by
  intro j v hj
  have h9 : j < 9 := (List.getElem?_eq_some_iff.1 hj).1
  rcases (by omega : j = 0 ∨ j = 1 ∨ j = 2 ∨ j = 3 ∨ j = 4 ∨ j = 5 ∨ j = 6 ∨ j = 7 ∨ j = 8) with rfl | rfl | rfl | rfl | rfl | rfl | rfl | rfl | rfl
  all_goals
    simp [encTr] at hj
    subst hj
    assumption
theorem nameBD {w W : World} (h : BD w W) : ∃ W', W' = W ∧ BD w W' := ⟨W, rfl, h⟩
theorem tripK {W : World} {g k : Nat} {t : Tr} (h : TripAt W g t) (hk : k < 3) : W.cell? ⟨g, k * 3, none⟩ = some (.int .i64 (termK t k).1) ∧ W.cell? ⟨g, k * 3 + 1, none⟩ = some (.string ⟨(termK t k).2.1.toArray⟩) ∧ W.cell? ⟨g, k * 3 + 2, none⟩ = some (.string ⟨(termK t k).2.2.toArray⟩) := by
  rcases (by omega : k = 0 ∨ k = 1 ∨ k = 2) with rfl | rfl | rfl
  · exact ⟨h 0 _ rfl, h 1 _ rfl, h 2 _ rfl⟩
  · exact ⟨h 3 _ rfl, h 4 _ rfl, h 5 _ rfl⟩
  · exact ⟨h 6 _ rfl, h 7 _ rfl, h 8 _ rfl⟩

set_option maxHeartbeats 32000000 in
set_option maxRecDepth 100000 in
theorem idxCmp_any (b o cap bl bp : Nat) (q : Nat × Nat × Nat) (l : List Tr) (i j : Nat) (w : World) (hi : i < l.length) (hj : j < l.length) (hq : PermQ q)
    (hbox : w.cell? ⟨bl, 0, none⟩ = some (.slice (some ⟨b, o, none⟩) l.length cap)) (hrow : RowR w b o l)
    (hp0 : w.cell? ⟨bp, 0, none⟩ = some (.int .i64 (q.1 : Int))) (hp1 : w.cell? ⟨bp, 1, none⟩ = some (.int .i64 (q.2.1 : Int))) (hp2 : w.cell? ⟨bp, 2, none⟩ = some (.int .i64 (q.2.2 : Int))) :
    Calls Tryz.prog 45 #[.int .i64 i, .int .i64 j, .pointer (some ⟨bl, 0, none⟩), .pointer (some ⟨bp, 0, none⟩)] w fun e w' => e = .returned (.int .i64 (cmpO q l[i] l[j])) ∧ Grew w w' := by
  have HX := fun W => termsOf_any l[i] W
  have HY := fun W => termsOf_any l[j] W
  obtain ⟨c0, c1, c2, c3, c4, c5, c6, c7, c8⟩ := hrow.at i hi
  obtain ⟨d0, d1, d2, d3, d4, d5, d6, d7, d8⟩ := hrow.at j hj
  have i0 : (0 : Int) ≤ (i : Int) := by omega
  have i1 : (i : Int) < (l.length : Int) := by omega
  have j0 : (0 : Int) ≤ (j : Int) := by omega
  have j1 : (j : Int) < (l.length : Int) := by omega
  have fin : Hid (cmpO q l[i] l[j] = orI (cmpTm (termK l[i] q.1) (termK l[j] q.1)) (cmpTm (termK l[i] q.2.1) (termK l[j] q.2.1)) (cmpTm (termK l[i] q.2.2) (termK l[j] q.2.2))) := rfl
  have Hq : Hid (PermQ q) := hq
  generalize cmpO q l[i] l[j] = ans at *
  clear hrow hq
  generalize l[i] = x at *
  generalize l[j] = y at *
  have mk : ∀ W, BD w W → BD w W ∧ W.cell? ⟨bl, 0, none⟩ = some (.slice (some ⟨b, o, none⟩) l.length cap) ∧ W.cell? ⟨b, o + i * 9, none⟩ = some (.int .i64 x.1.1) ∧ W.cell? ⟨b, o + i * 9 + 1, none⟩ = some (.string ⟨x.1.2.1.toArray⟩) ∧ W.cell? ⟨b, o + i * 9 + 2, none⟩ = some (.string ⟨x.1.2.2.toArray⟩) ∧ W.cell? ⟨b, o + i * 9 + 3, none⟩ = some (.int .i64 x.2.1.1) ∧ W.cell? ⟨b, o + i * 9 + 4, none⟩ = some (.string ⟨x.2.1.2.1.toArray⟩) ∧ W.cell? ⟨b, o + i * 9 + 5, none⟩ = some (.string ⟨x.2.1.2.2.toArray⟩) ∧ W.cell? ⟨b, o + i * 9 + 6, none⟩ = some (.int .i64 x.2.2.1) ∧ W.cell? ⟨b, o + i * 9 + 7, none⟩ = some (.string ⟨x.2.2.2.1.toArray⟩) ∧ W.cell? ⟨b, o + i * 9 + 8, none⟩ = some (.string ⟨x.2.2.2.2.toArray⟩) ∧ W.cell? ⟨b, o + j * 9, none⟩ = some (.int .i64 y.1.1) ∧ W.cell? ⟨b, o + j * 9 + 1, none⟩ = some (.string ⟨y.1.2.1.toArray⟩) ∧ W.cell? ⟨b, o + j * 9 + 2, none⟩ = some (.string ⟨y.1.2.2.toArray⟩) ∧ W.cell? ⟨b, o + j * 9 + 3, none⟩ = some (.int .i64 y.2.1.1) ∧ W.cell? ⟨b, o + j * 9 + 4, none⟩ = some (.string ⟨y.2.1.2.1.toArray⟩) ∧ W.cell? ⟨b, o + j * 9 + 5, none⟩ = some (.string ⟨y.2.1.2.2.toArray⟩) ∧ W.cell? ⟨b, o + j * 9 + 6, none⟩ = some (.int .i64 y.2.2.1) ∧ W.cell? ⟨b, o + j * 9 + 7, none⟩ = some (.string ⟨y.2.2.2.1.toArray⟩) ∧ W.cell? ⟨b, o + j * 9 + 8, none⟩ = some (.string ⟨y.2.2.2.2.toArray⟩) := fun W h => by
    have k := fun (p : Addr) (v : Value) (hv : w.cell? p = some v) => (h.1.cell (World.block_lt_of_cell? w p hv)).trans hv
    exact ⟨h, k _ _ hbox, k _ _ c0, k _ _ c1, k _ _ c2, k _ _ c3, k _ _ c4, k _ _ c5, k _ _ c6, k _ _ c7, k _ _ c8, k _ _ d0, k _ _ d1, k _ _ d2, k _ _ d3, k _ _ d4, k _ _ d5, k _ _ d6, k _ _ d7, k _ _ d8⟩
  have bd : ∀ W, (BD w W ∧ W.cell? ⟨bl, 0, none⟩ = some (.slice (some ⟨b, o, none⟩) l.length cap) ∧ W.cell? ⟨b, o + i * 9, none⟩ = some (.int .i64 x.1.1) ∧ W.cell? ⟨b, o + i * 9 + 1, none⟩ = some (.string ⟨x.1.2.1.toArray⟩) ∧ W.cell? ⟨b, o + i * 9 + 2, none⟩ = some (.string ⟨x.1.2.2.toArray⟩) ∧ W.cell? ⟨b, o + i * 9 + 3, none⟩ = some (.int .i64 x.2.1.1) ∧ W.cell? ⟨b, o + i * 9 + 4, none⟩ = some (.string ⟨x.2.1.2.1.toArray⟩) ∧ W.cell? ⟨b, o + i * 9 + 5, none⟩ = some (.string ⟨x.2.1.2.2.toArray⟩) ∧ W.cell? ⟨b, o + i * 9 + 6, none⟩ = some (.int .i64 x.2.2.1) ∧ W.cell? ⟨b, o + i * 9 + 7, none⟩ = some (.string ⟨x.2.2.2.1.toArray⟩) ∧ W.cell? ⟨b, o + i * 9 + 8, none⟩ = some (.string ⟨x.2.2.2.2.toArray⟩) ∧ W.cell? ⟨b, o + j * 9, none⟩ = some (.int .i64 y.1.1) ∧ W.cell? ⟨b, o + j * 9 + 1, none⟩ = some (.string ⟨y.1.2.1.toArray⟩) ∧ W.cell? ⟨b, o + j * 9 + 2, none⟩ = some (.string ⟨y.1.2.2.toArray⟩) ∧ W.cell? ⟨b, o + j * 9 + 3, none⟩ = some (.int .i64 y.2.1.1) ∧ W.cell? ⟨b, o + j * 9 + 4, none⟩ = some (.string ⟨y.2.1.2.1.toArray⟩) ∧ W.cell? ⟨b, o + j * 9 + 5, none⟩ = some (.string ⟨y.2.1.2.2.toArray⟩) ∧ W.cell? ⟨b, o + j * 9 + 6, none⟩ = some (.int .i64 y.2.2.1) ∧ W.cell? ⟨b, o + j * 9 + 7, none⟩ = some (.string ⟨y.2.2.2.1.toArray⟩) ∧ W.cell? ⟨b, o + j * 9 + 8, none⟩ = some (.string ⟨y.2.2.2.2.toArray⟩)) → BD w W := fun W h => h.1
  have Hp : Hid (w.cell? ⟨bp, 0, none⟩ = some (.int .i64 (q.1 : Int)) ∧ w.cell? ⟨bp, 1, none⟩ = some (.int .i64 (q.2.1 : Int)) ∧ w.cell? ⟨bp, 2, none⟩ = some (.int .i64 (q.2.2 : Int))) := ⟨hp0, hp1, hp2⟩
  have Hmk : Hid _ := mk
  have Hbd : Hid _ := bd
  have hr0 : BD w w.drew := (BD.refl w).drew
  clear hp0 hp1 hp2 mk bd
  unfold valTr at HX HY
  go_enter Tryz.func45, Tryz.ntmps45
  go_wp2_with fail
  go_cut [7, 8] from 9 to 18 (fun u v W' => ∃ b1 b2, u = .pointer (some ⟨b1, 0, none⟩) ∧ v = .pointer (some ⟨b2, 0, none⟩) ∧ Hid (TripAt W' b1 x) ∧ Hid (TripAt W' b2 y) ∧ Hid (BD w W'))
  case first =>
   go_region_held3 (fun W => BD w W ∧ W.cell? ⟨bl, 0, none⟩ = some (.slice (some ⟨b, o, none⟩) l.length cap) ∧ W.cell? ⟨b, o + i * 9, none⟩ = some (.int .i64 x.1.1) ∧ W.cell? ⟨b, o + i * 9 + 1, none⟩ = some (.string ⟨x.1.2.1.toArray⟩) ∧ W.cell? ⟨b, o + i * 9 + 2, none⟩ = some (.string ⟨x.1.2.2.toArray⟩) ∧ W.cell? ⟨b, o + i * 9 + 3, none⟩ = some (.int .i64 x.2.1.1) ∧ W.cell? ⟨b, o + i * 9 + 4, none⟩ = some (.string ⟨x.2.1.2.1.toArray⟩) ∧ W.cell? ⟨b, o + i * 9 + 5, none⟩ = some (.string ⟨x.2.1.2.2.toArray⟩) ∧ W.cell? ⟨b, o + i * 9 + 6, none⟩ = some (.int .i64 x.2.2.1) ∧ W.cell? ⟨b, o + i * 9 + 7, none⟩ = some (.string ⟨x.2.2.2.1.toArray⟩) ∧ W.cell? ⟨b, o + i * 9 + 8, none⟩ = some (.string ⟨x.2.2.2.2.toArray⟩) ∧ W.cell? ⟨b, o + j * 9, none⟩ = some (.int .i64 y.1.1) ∧ W.cell? ⟨b, o + j * 9 + 1, none⟩ = some (.string ⟨y.1.2.1.toArray⟩) ∧ W.cell? ⟨b, o + j * 9 + 2, none⟩ = some (.string ⟨y.1.2.2.toArray⟩) ∧ W.cell? ⟨b, o + j * 9 + 3, none⟩ = some (.int .i64 y.2.1.1) ∧ W.cell? ⟨b, o + j * 9 + 4, none⟩ = some (.string ⟨y.2.1.2.1.toArray⟩) ∧ W.cell? ⟨b, o + j * 9 + 5, none⟩ = some (.string ⟨y.2.1.2.2.toArray⟩) ∧ W.cell? ⟨b, o + j * 9 + 6, none⟩ = some (.int .i64 y.2.2.1) ∧ W.cell? ⟨b, o + j * 9 + 7, none⟩ = some (.string ⟨y.2.2.2.1.toArray⟩) ∧ W.cell? ⟨b, o + j * 9 + 8, none⟩ = some (.string ⟨y.2.2.2.2.toArray⟩)) ((refine Hmk.out _ ?_; repeat (first | (with_reducible refine BD.set9 ?_ (by first | omega | (simp; omega)) _ _ _ _ _ _ _ _ _) | (with_reducible refine BD.alloc ?_ _) | (with_reducible refine BD.grew ?_ hg3) | (with_reducible refine BD.grew ?_ hg2) | (with_reducible exact hr0) | (with_reducible refine BD.drew ?_) | (with_reducible exact BD.refl _)))) (first
    | (go_at_call_of 46 (Value.agg #[.int .i64 x.1.1, .string ⟨x.1.2.1.toArray⟩, .string ⟨x.1.2.2.toArray⟩, .int .i64 x.2.1.1, .string ⟨x.2.1.2.1.toArray⟩, .string ⟨x.2.1.2.2.toArray⟩, .int .i64 x.2.2.1, .string ⟨x.2.2.2.1.toArray⟩, .string ⟨x.2.2.2.2.toArray⟩]); refine (HX _).mono ?_; rintro e w2 ⟨rfl, hg2⟩; have s2 := hg2.below.size; (try simp at s2); (first | (have qa : Z9 w2 w.heap.size := (by with_reducible exact (Z9.newD2 w).1.below hg2.below); have qb : Z9 w2 (w.heap.size + 1) := (by with_reducible exact (Z9.newD2 w).2.below hg2.below); obtain ⟨a0, a1, a2, a3, a4, a5, a6, a7, a8, a9, a10, a11, a12, a13, a14, a15, a16, a17⟩ := id qa; have az := World.block_lt_of_cell? _ _ a0; obtain ⟨b0, b1, b2, b3, b4, b5, b6, b7, b8, b9, b10, b11, b12, b13, b14, b15, b16, b17⟩ := id qb; have bz := World.block_lt_of_cell? _ _ b0) | (have qa : Z9 w2 w.heap.size := (by with_reducible exact (Z9.newD w).below hg2.below); obtain ⟨a0, a1, a2, a3, a4, a5, a6, a7, a8, a9, a10, a11, a12, a13, a14, a15, a16, a17⟩ := id qa; have az := World.block_lt_of_cell? _ _ a0) | skip))
    | (go_at_call_of 46 (Value.agg #[.int .i64 y.1.1, .string ⟨y.1.2.1.toArray⟩, .string ⟨y.1.2.2.toArray⟩, .int .i64 y.2.1.1, .string ⟨y.2.1.2.1.toArray⟩, .string ⟨y.2.1.2.2.toArray⟩, .int .i64 y.2.2.1, .string ⟨y.2.2.2.1.toArray⟩, .string ⟨y.2.2.2.2.toArray⟩]); refine (HY _).mono ?_; rintro e w3 ⟨rfl, hg3⟩; have s3 := hg3.below.size; (try simp at s3); (first | (have qc : Z9 w3 w2.heap.size := (by with_reducible exact (Z9.new2 w2).1.below hg3.below); have qd : Z9 w3 (w2.heap.size + 1) := (by with_reducible exact (Z9.new2 w2).2.below hg3.below); obtain ⟨c0, c1, c2, c3, c4, c5, c6, c7, c8, c9, c10, c11, c12, c13, c14, c15, c16, c17⟩ := id qc; have cz := World.block_lt_of_cell? _ _ c0; obtain ⟨d0, d1, d2, d3, d4, d5, d6, d7, d8, d9, d10, d11, d12, d13, d14, d15, d16, d17⟩ := id qd; have dz := World.block_lt_of_cell? _ _ d0) | (have qc : Z9 w3 w2.heap.size := (by with_reducible exact (Z9.new w2).below hg3.below); obtain ⟨c0, c1, c2, c3, c4, c5, c6, c7, c8, c9, c10, c11, c12, c13, c14, c15, c16, c17⟩ := id qc; have cz := World.block_lt_of_cell? _ _ c0) | skip); (first | (have qe : Z9 w3 w.heap.size := (by with_reducible exact (qa.below (balloc _ _)).below hg3.below); obtain ⟨e0, e1, e2, e3, e4, e5, e6, e7, e8, e9, e10, e11, e12, e13, e14, e15, e16, e17⟩ := id qe; have ez := World.block_lt_of_cell? _ _ e0) | (have qe : Z9 w3 w.heap.size := (by with_reducible exact qa.below hg3.below); have qf : Z9 w3 (w.heap.size + 1) := (by with_reducible exact qb.below hg3.below); obtain ⟨e0, e1, e2, e3, e4, e5, e6, e7, e8, e9, e10, e11, e12, e13, e14, e15, e16, e17⟩ := id qe; have ez := World.block_lt_of_cell? _ _ e0; obtain ⟨f0, f1, f2, f3, f4, f5, f6, f7, f8, f9, f10, f11, f12, f13, f14, f15, f16, f17⟩ := id qf; have fz := World.block_lt_of_cell? _ _ f0) | (have qe : Z9 w3 w.heap.size := (by with_reducible exact qa.below hg3.below); obtain ⟨e0, e1, e2, e3, e4, e5, e6, e7, e8, e9, e10, e11, e12, e13, e14, e15, e16, e17⟩ := id qe; have ez := World.block_lt_of_cell? _ _ e0) | skip)))
   all_goals go_wp2_with fail
   all_goals go_meet
   all_goals exact ⟨_, _, rfl, rfl, tripOf (by go_simp) (by go_simp) (by go_simp) (by go_simp) (by go_simp) (by go_simp) (by go_simp) (by go_simp) (by go_simp), tripOf (by go_simp) (by go_simp) (by go_simp) (by go_simp) (by go_simp) (by go_simp) (by go_simp) (by go_simp) (by go_simp), Hbd.out _ (by assumption)⟩
  case rest =>
   obtain ⟨b1, b2, rfl, rfl, h1, h2, hB⟩ := hcut
   obtain ⟨w4, rfl, hB⟩ := nameBD hB
   obtain ⟨l0, l1, l2⟩ := Hq.out.lt
   obtain ⟨p0, p1, p2⟩ := Hp.out
   have kp := fun (p : Addr) (v : Value) (hv : w.cell? p = some v) => (hB.1.cell (World.block_lt_of_cell? w p hv)).trans hv
   have e0 := kp _ _ p0
   have e1 := kp _ _ p1
   have e2 := kp _ _ p2
   have x0 := tripK h1 l0
   have x1 := tripK h1 l1
   have x2 := tripK h1 l2
   have y0 := tripK h2 l0
   have y1 := tripK h2 l1
   have y2 := tripK h2 l2
   have fin2 : Hid (ans = orI (cmpTm (termK x q.1) (termK y q.1)) (cmpTm (termK x q.2.1) (termK y q.2.1)) (cmpTm (termK x q.2.2) (termK y q.2.2))) := fin.out
   have C0 := fun W => Compare_grew (termK x q.1).1 (termK x q.1).2.1 (termK x q.1).2.2 (termK y q.1).1 (termK y q.1).2.1 (termK y q.1).2.2 W
   have C1 := fun W => Compare_grew (termK x q.2.1).1 (termK x q.2.1).2.1 (termK x q.2.1).2.2 (termK y q.2.1).1 (termK y q.2.1).2.1 (termK y q.2.1).2.2 W
   have C2 := fun W => Compare_grew (termK x q.2.2).1 (termK x q.2.2).2.1 (termK x q.2.2).2.2 (termK y q.2.2).1 (termK y q.2.2).2.1 (termK y q.2.2).2.2 W
   have fin3 : Hid (ans = orI (cmpT (termK x q.1).1 (termK x q.1).2.1 (termK x q.1).2.2 (termK y q.1).1 (termK y q.1).2.1 (termK y q.1).2.2) (cmpT (termK x q.2.1).1 (termK x q.2.1).2.1 (termK x q.2.1).2.2 (termK y q.2.1).1 (termK y q.2.1).2.1 (termK y q.2.1).2.2) (cmpT (termK x q.2.2).1 (termK x q.2.2).2.1 (termK x q.2.2).2.2 (termK y q.2.2).1 (termK y q.2.2).2.1 (termK y q.2.2).2.2)) := fin2.out
   clear fin fin2 HX HY hbox c0 c1 c2 c3 c4 c5 c6 c7 c8 d0 d1 d2 d3 d4 d5 d6 d7 d8 i0 i1 j0 j1 Hmk Hbd hr0 p0 p1 p2 kp Hp Hq h1 h2
   generalize termK x q.1 = tx0 at *
   generalize termK x q.2.1 = tx1 at *
   generalize termK x q.2.2 = tx2 at *
   generalize termK y q.1 = ty0 at *
   generalize termK y q.2.1 = ty1 at *
   generalize termK y q.2.2 = ty2 at *
   generalize q.1 = r0 at *
   generalize q.2.1 = r1 at *
   generalize q.2.2 = r2 at *
   generalize cmpT tx0.1 tx0.2.1 tx0.2.2 ty0.1 ty0.2.1 ty0.2.2 = a0 at *
   generalize cmpT tx1.1 tx1.2.1 tx1.2.2 ty1.1 ty1.2.1 ty1.2.2 = a1 at *
   generalize cmpT tx2.1 tx2.2.1 tx2.2.2 ty2.1 ty2.2.1 ty2.2.2 = a2 at *
   obtain ⟨x00, x01, x02⟩ := x0
   obtain ⟨x10, x11, x12⟩ := x1
   obtain ⟨x20, x21, x22⟩ := x2
   obtain ⟨y00, y01, y02⟩ := y0
   obtain ⟨y10, y11, y12⟩ := y1
   obtain ⟨y20, y21, y22⟩ := y2
   have mk : ∀ W, Grew w4 W → Grew w4 W ∧ W.cell? ⟨bp, 0, none⟩ = some (.int .i64 (r0 : Int)) ∧ W.cell? ⟨bp, 1, none⟩ = some (.int .i64 (r1 : Int)) ∧ W.cell? ⟨bp, 2, none⟩ = some (.int .i64 (r2 : Int)) ∧ W.cell? ⟨b1, r0 * 3, none⟩ = some (.int .i64 tx0.1) ∧ W.cell? ⟨b1, r0 * 3 + 1, none⟩ = some (.string ⟨tx0.2.1.toArray⟩) ∧ W.cell? ⟨b1, r0 * 3 + 2, none⟩ = some (.string ⟨tx0.2.2.toArray⟩) ∧ W.cell? ⟨b1, r1 * 3, none⟩ = some (.int .i64 tx1.1) ∧ W.cell? ⟨b1, r1 * 3 + 1, none⟩ = some (.string ⟨tx1.2.1.toArray⟩) ∧ W.cell? ⟨b1, r1 * 3 + 2, none⟩ = some (.string ⟨tx1.2.2.toArray⟩) ∧ W.cell? ⟨b1, r2 * 3, none⟩ = some (.int .i64 tx2.1) ∧ W.cell? ⟨b1, r2 * 3 + 1, none⟩ = some (.string ⟨tx2.2.1.toArray⟩) ∧ W.cell? ⟨b1, r2 * 3 + 2, none⟩ = some (.string ⟨tx2.2.2.toArray⟩) ∧ W.cell? ⟨b2, r0 * 3, none⟩ = some (.int .i64 ty0.1) ∧ W.cell? ⟨b2, r0 * 3 + 1, none⟩ = some (.string ⟨ty0.2.1.toArray⟩) ∧ W.cell? ⟨b2, r0 * 3 + 2, none⟩ = some (.string ⟨ty0.2.2.toArray⟩) ∧ W.cell? ⟨b2, r1 * 3, none⟩ = some (.int .i64 ty1.1) ∧ W.cell? ⟨b2, r1 * 3 + 1, none⟩ = some (.string ⟨ty1.2.1.toArray⟩) ∧ W.cell? ⟨b2, r1 * 3 + 2, none⟩ = some (.string ⟨ty1.2.2.toArray⟩) ∧ W.cell? ⟨b2, r2 * 3, none⟩ = some (.int .i64 ty2.1) ∧ W.cell? ⟨b2, r2 * 3 + 1, none⟩ = some (.string ⟨ty2.2.1.toArray⟩) ∧ W.cell? ⟨b2, r2 * 3 + 2, none⟩ = some (.string ⟨ty2.2.2.toArray⟩) := fun W h => by
    have k := h.keep
    exact ⟨h, k _ _ e0, k _ _ e1, k _ _ e2, k _ _ x00, k _ _ x01, k _ _ x02, k _ _ x10, k _ _ x11, k _ _ x12, k _ _ x20, k _ _ x21, k _ _ x22, k _ _ y00, k _ _ y01, k _ _ y02, k _ _ y10, k _ _ y11, k _ _ y12, k _ _ y20, k _ _ y21, k _ _ y22⟩
   have gr : ∀ W, (Grew w4 W ∧ W.cell? ⟨bp, 0, none⟩ = some (.int .i64 (r0 : Int)) ∧ W.cell? ⟨bp, 1, none⟩ = some (.int .i64 (r1 : Int)) ∧ W.cell? ⟨bp, 2, none⟩ = some (.int .i64 (r2 : Int)) ∧ W.cell? ⟨b1, r0 * 3, none⟩ = some (.int .i64 tx0.1) ∧ W.cell? ⟨b1, r0 * 3 + 1, none⟩ = some (.string ⟨tx0.2.1.toArray⟩) ∧ W.cell? ⟨b1, r0 * 3 + 2, none⟩ = some (.string ⟨tx0.2.2.toArray⟩) ∧ W.cell? ⟨b1, r1 * 3, none⟩ = some (.int .i64 tx1.1) ∧ W.cell? ⟨b1, r1 * 3 + 1, none⟩ = some (.string ⟨tx1.2.1.toArray⟩) ∧ W.cell? ⟨b1, r1 * 3 + 2, none⟩ = some (.string ⟨tx1.2.2.toArray⟩) ∧ W.cell? ⟨b1, r2 * 3, none⟩ = some (.int .i64 tx2.1) ∧ W.cell? ⟨b1, r2 * 3 + 1, none⟩ = some (.string ⟨tx2.2.1.toArray⟩) ∧ W.cell? ⟨b1, r2 * 3 + 2, none⟩ = some (.string ⟨tx2.2.2.toArray⟩) ∧ W.cell? ⟨b2, r0 * 3, none⟩ = some (.int .i64 ty0.1) ∧ W.cell? ⟨b2, r0 * 3 + 1, none⟩ = some (.string ⟨ty0.2.1.toArray⟩) ∧ W.cell? ⟨b2, r0 * 3 + 2, none⟩ = some (.string ⟨ty0.2.2.toArray⟩) ∧ W.cell? ⟨b2, r1 * 3, none⟩ = some (.int .i64 ty1.1) ∧ W.cell? ⟨b2, r1 * 3 + 1, none⟩ = some (.string ⟨ty1.2.1.toArray⟩) ∧ W.cell? ⟨b2, r1 * 3 + 2, none⟩ = some (.string ⟨ty1.2.2.toArray⟩) ∧ W.cell? ⟨b2, r2 * 3, none⟩ = some (.int .i64 ty2.1) ∧ W.cell? ⟨b2, r2 * 3 + 1, none⟩ = some (.string ⟨ty2.2.1.toArray⟩) ∧ W.cell? ⟨b2, r2 * 3 + 2, none⟩ = some (.string ⟨ty2.2.2.toArray⟩)) → Grew w4 W := fun W h => h.1
   have Hmk : Hid _ := mk
   have Hgr : Hid _ := gr
   have HB : Hid (BD w w4) := hB
   have g0 : Grew w4 w4.drew := grew_drew _
   have n0 : (0 : Int) ≤ (r0 : Int) := by omega
   have n1 : (0 : Int) ≤ (r1 : Int) := by omega
   have n2 : (0 : Int) ≤ (r2 : Int) := by omega
   have m0 : (r0 : Int) < 3 := by omega
   have m1 : (r1 : Int) < 3 := by omega
   have m2 : (r2 : Int) < 3 := by omega
   clear mk gr hB
   go_wp2_with fail
   go_region_held3 (fun W => Grew w4 W ∧ W.cell? ⟨bp, 0, none⟩ = some (.int .i64 (r0 : Int)) ∧ W.cell? ⟨bp, 1, none⟩ = some (.int .i64 (r1 : Int)) ∧ W.cell? ⟨bp, 2, none⟩ = some (.int .i64 (r2 : Int)) ∧ W.cell? ⟨b1, r0 * 3, none⟩ = some (.int .i64 tx0.1) ∧ W.cell? ⟨b1, r0 * 3 + 1, none⟩ = some (.string ⟨tx0.2.1.toArray⟩) ∧ W.cell? ⟨b1, r0 * 3 + 2, none⟩ = some (.string ⟨tx0.2.2.toArray⟩) ∧ W.cell? ⟨b1, r1 * 3, none⟩ = some (.int .i64 tx1.1) ∧ W.cell? ⟨b1, r1 * 3 + 1, none⟩ = some (.string ⟨tx1.2.1.toArray⟩) ∧ W.cell? ⟨b1, r1 * 3 + 2, none⟩ = some (.string ⟨tx1.2.2.toArray⟩) ∧ W.cell? ⟨b1, r2 * 3, none⟩ = some (.int .i64 tx2.1) ∧ W.cell? ⟨b1, r2 * 3 + 1, none⟩ = some (.string ⟨tx2.2.1.toArray⟩) ∧ W.cell? ⟨b1, r2 * 3 + 2, none⟩ = some (.string ⟨tx2.2.2.toArray⟩) ∧ W.cell? ⟨b2, r0 * 3, none⟩ = some (.int .i64 ty0.1) ∧ W.cell? ⟨b2, r0 * 3 + 1, none⟩ = some (.string ⟨ty0.2.1.toArray⟩) ∧ W.cell? ⟨b2, r0 * 3 + 2, none⟩ = some (.string ⟨ty0.2.2.toArray⟩) ∧ W.cell? ⟨b2, r1 * 3, none⟩ = some (.int .i64 ty1.1) ∧ W.cell? ⟨b2, r1 * 3 + 1, none⟩ = some (.string ⟨ty1.2.1.toArray⟩) ∧ W.cell? ⟨b2, r1 * 3 + 2, none⟩ = some (.string ⟨ty1.2.2.toArray⟩) ∧ W.cell? ⟨b2, r2 * 3, none⟩ = some (.int .i64 ty2.1) ∧ W.cell? ⟨b2, r2 * 3 + 1, none⟩ = some (.string ⟨ty2.2.1.toArray⟩) ∧ W.cell? ⟨b2, r2 * 3 + 2, none⟩ = some (.string ⟨ty2.2.2.toArray⟩)) ((refine Hmk.out _ ?_; first | (with_reducible exact (Hgr.out _ (by assumption)).trans hc3) | (with_reducible exact (Hgr.out _ (by assumption)).trans hc2) | (with_reducible exact (Hgr.out _ (by assumption)).trans hc1) | (with_reducible exact (Hgr.out _ (by assumption)).trans (grew_alloc _ _)) | (with_reducible exact g0) | (with_reducible exact Hgr.out _ (by assumption)))) (first
    | (go_at_call_of 48 (Value.agg #[.int .i64 tx0.1, .string ⟨tx0.2.1.toArray⟩, .string ⟨tx0.2.2.toArray⟩]); refine (C0 _).mono ?_; rintro e v1 ⟨rfl, hc1⟩)
    | (go_at_call_of 48 (Value.agg #[.int .i64 tx1.1, .string ⟨tx1.2.1.toArray⟩, .string ⟨tx1.2.2.toArray⟩]); refine (C1 _).mono ?_; rintro e v2 ⟨rfl, hc2⟩)
    | (go_at_call_of 48 (Value.agg #[.int .i64 tx2.1, .string ⟨tx2.2.1.toArray⟩, .string ⟨tx2.2.2.toArray⟩]); refine (C2 _).mono ?_; rintro e v3 ⟨rfl, hc3⟩)
    | (go_at_call 47; refine (Or_any _ a0 a1 a2 _ (by go_simp) (by go_simp) (by go_simp)).mono ?_; rintro e v4 ⟨rfl, rfl⟩))
   go_wp2
   go_ret
   exact ⟨ret_i64 fin3.out.symm, HB.out.toGrew.trans ((((g0.trans hc1).trans hc2).trans hc3).trans (grew_alloc _ _))⟩
end Go.Proofs.YtnlcfnpcjkcdmacGreatDoor
