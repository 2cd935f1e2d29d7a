import Derived.Test.YtenakehnnmencagGreatDoorMA0x0
import Derived.Test.YtenakehnnmencagGreatDoorMA0x1
import Derived.Lib.Bytealg
import Derived.Lib.Small
import Derived.Deep.RegionWith
import Derived.BigQuiet
import Derived.Deep.RegionHeld3
import Derived.Sort.Grow
import Derived.Deep.Draws
import Derived.RegionTactic
import Derived.Shelf.GgClosure.StringsIndexFunc
import Derived.Laws.RangeString
import Derived.Laws.RangeAny
import Derived.Lib.Builder
import Derived.OwnWalk

/- Compare: by Kind, then S, then Lang. -/
namespace Go.Proofs.YtenakehnnmencagGreatDoor
open Go Go.RowKit Go.Proofs

def orI (x y z : Int) : Int := if x = 0 then (if y = 0 then z else y) else x
def cmpT (k : Int) (S L : List UInt8) (k' : Int) (S' L' : List UInt8) : Int := orI (Lib.compareInt k k') (Lib.compareBytes S S') (Lib.compareBytes L L')

theorem ret_int {k : IntKind} {a b : Int} (h : a = b) : Ending.returned (.int k a) = .returned (.int k b) := by rw [h]

set_option maxHeartbeats 1000000 in
theorem Or_any (b : Nat) (x y z : Int) (w : World) (h0 : w.cell? ⟨b, 0, none⟩ = some (.int .i64 x)) (h1 : w.cell? ⟨b, 1, none⟩ = some (.int .i64 y)) (h2 : w.cell? ⟨b, 2, none⟩ = some (.int .i64 z)) :
    Calls Tryz.prog 42 #[.slice (some ⟨b, 0, none⟩) 3 3] w fun e w' => e = .returned (.int .i64 (orI x y z)) ∧ w' = w := by
  have fin : Hid (orI x y z = if x = 0 then (if y = 0 then z else y) else x) := rfl
  go_enter Tryz.func42, Tryz.ntmps42
  go_wp2
  go_loop [8] (fun i => ∃ k : Int, 0 ≤ k ∧ k ≤ 3 ∧ i = .int .i64 k ∧ (0 < k → x = 0) ∧ (1 < k → y = 0) ∧ (2 < k → z = 0)) (fun i => (3 - intOf i).toNat)
  case atStart => exact ⟨0, by omega, by omega, rfl, by omega, by omega, by omega⟩
  case round =>
    obtain ⟨k, hk, hk', rfl, q0, q1, q2⟩ := hrel
    rcases (by omega : k = 0 ∨ k = 1 ∨ k = 2 ∨ k = 3) with rfl | rfl | rfl | rfl
    · clear hk hk' q0 q1 q2
      cases hx : (x != 0)
      · go_wp2
        simp at hx
        exact ⟨⟨1, by omega, by omega, by go_num, by omega, by omega, by omega⟩, by simp [intOf]⟩
      · go_wp2
        go_ret
        simp at hx
        exact ⟨ret_int (by rw [fin.out]; simp [hx]), rfl⟩
    · have hx : Hid (x = 0) := q0 (by omega)
      clear hk hk' q0 q1 q2
      cases hy : (y != 0)
      · go_wp2
        simp at hy
        exact ⟨⟨2, by omega, by omega, by go_num, fun _ => hx.out, by omega, by omega⟩, by simp [intOf]⟩
      · go_wp2
        go_ret
        simp at hy
        exact ⟨ret_int (by rw [fin.out]; simp [hx.out, hy]), rfl⟩
    · have hx : Hid (x = 0) := q0 (by omega)
      have hy : Hid (y = 0) := q1 (by omega)
      clear hk hk' q0 q1 q2
      cases hz : (z != 0)
      · go_wp2
        simp at hz
        exact ⟨⟨3, by omega, by omega, by go_num, fun _ => hx.out, fun _ => hy.out, by omega⟩, by simp [intOf]⟩
      · go_wp2
        go_ret
        exact ⟨ret_int (by rw [fin.out]; simp [hx.out, hy.out]), rfl⟩
    · have hx : Hid (x = 0) := q0 (by omega)
      have hy : Hid (y = 0) := q1 (by omega)
      have hz : Hid (z = 0) := q2 (by omega)
      clear hk hk' q0 q1 q2
      go_wp2
      go_ret
      exact ⟨ret_int (by rw [fin.out]; simp [hx.out, hy.out, hz.out]), rfl⟩

set_option maxHeartbeats 4000000 in
theorem Compare_any (k : Int) (S L : List UInt8) (k' : Int) (S' L' : List UInt8) (w : World) :
    Calls Tryz.prog 43 #[.agg #[.int .i64 k, .string ⟨S.toArray⟩, .string ⟨L.toArray⟩], .agg #[.int .i64 k', .string ⟨S'.toArray⟩, .string ⟨L'.toArray⟩]] w fun e w' => e = .returned (.int .i64 (cmpT k S L k' S' L')) ∧ Below w.heap.size w w' := by
  have fin : Hid (cmpT k S L k' S' L' = orI (Lib.compareInt k k') (Lib.compareBytes S S') (Lib.compareBytes L L')) := rfl
  go_enter Tryz.func43, Tryz.ntmps43
  go_wp2_with fail
  go_region_held3 (fun W => W.cell? ⟨w.heap.size, 0, none⟩ = some (.int .i64 k) ∧ W.cell? ⟨w.heap.size, 1, none⟩ = some (.string ⟨S.toArray⟩) ∧ W.cell? ⟨w.heap.size, 2, none⟩ = some (.string ⟨L.toArray⟩)
      ∧ W.cell? ⟨w.heap.size + 1, 0, none⟩ = some (.int .i64 k') ∧ W.cell? ⟨w.heap.size + 1, 1, none⟩ = some (.string ⟨S'.toArray⟩) ∧ W.cell? ⟨w.heap.size + 1, 2, none⟩ = some (.string ⟨L'.toArray⟩)) (go_keep) (first
    | (go_at_call 80; refine (Tryz.cmp_Compare_int k k' _).mono ?_; rintro e w3 ⟨rfl, rfl⟩)
    | (go_at_call_of 81 (Value.string ⟨S.toArray⟩); refine (Tryz.strings_Compare ⟨S.toArray⟩ ⟨S'.toArray⟩ _).mono ?_; rintro e w3 ⟨rfl, rfl⟩)
    | (go_at_call_of 81 (Value.string ⟨L.toArray⟩); refine (Tryz.strings_Compare ⟨L.toArray⟩ ⟨L'.toArray⟩ _).mono ?_; rintro e w3 ⟨rfl, rfl⟩)
    | (go_at_call 42; refine (Or_any (w.heap.size + 1 + 1) (Lib.compareInt k k') (Lib.compareBytes S S') (Lib.compareBytes L L') _ (by go_simp) (by go_simp) (by go_simp)).mono ?_; rintro e w3 ⟨rfl, rfl⟩))
  go_wp2
  go_ret
  exact ⟨rfl, ((bstep (bstep (balloc _ _) (balloc _ _)) (balloc _ _))).drew⟩
end Go.Proofs.YtenakehnnmencagGreatDoor

/- Worlds that have grown by blocks and draws alone; term.Compare and triple.Compare lay such. -/
namespace Go.Proofs.YtenakehnnmencagGreatDoor
open Go Go.RowKit Go.Proofs Go.Sort

/-- the world has grown: new blocks behind the heap, and draws; nothing else -/
def Grew (w w' : World) : Prop := ∃ q os, w' = grow (w.drewN q) os
theorem Grew.refl (w : World) : Grew w w := ⟨0, #[], by simp [grow, World.drewN]⟩
theorem Grew.trans {a b c : World} (h : Grew a b) (k : Grew b c) : Grew a c := by
  obtain ⟨q, os, rfl⟩ := h
  obtain ⟨q', os', rfl⟩ := k
  exact ⟨q + q', os ++ os', by simp [grow, World.drewN, Nat.add_assoc, Array.append_assoc]⟩
theorem grew_alloc (w : World) (o : Obj) : Grew w (w.alloc o) := ⟨0, #[o], by rw [alloc_eq_grow]; rfl⟩
theorem grew_drew (w : World) : Grew w w.drew := ⟨1, #[], by rw [grow_empty]; rfl⟩
theorem Grew.below {w w' : World} (h : Grew w w') : Below w.heap.size w w' := by
  obtain ⟨q, os, rfl⟩ := h
  exact ⟨rfl, rfl, rfl, by simp [grow, World.drewN], fun k hk => by simp [grow, World.drewN, Array.getElem?_append, hk]⟩
theorem Grew.drew {w w' : World} (h : Grew w w') : Grew w w'.drew := h.trans (grew_drew _)
theorem Grew.keep {W W' : World} (h : Grew W W') (p : Addr) (v : Value) (hv : W.cell? p = some v) : W'.cell? p = some v := (h.below.cell (World.block_lt_of_cell? W p hv)).trans hv

set_option maxHeartbeats 4000000 in
theorem Compare_grew (k : Int) (S L : List UInt8) (k' : Int) (S' L' : List UInt8) (w : World) :
    Calls Tryz.prog 43 #[.agg #[.int .i64 k, .string ⟨S.toArray⟩, .string ⟨L.toArray⟩], .agg #[.int .i64 k', .string ⟨S'.toArray⟩, .string ⟨L'.toArray⟩]] w fun e w' => e = .returned (.int .i64 (cmpT k S L k' S' L')) ∧ Grew w w' := by
  have fin : Hid (cmpT k S L k' S' L' = orI (Lib.compareInt k k') (Lib.compareBytes S S') (Lib.compareBytes L L')) := rfl
  go_enter Tryz.func43, Tryz.ntmps43
  go_wp2_with fail
  go_region_held3 (fun W => W.cell? ⟨w.heap.size, 0, none⟩ = some (.int .i64 k) ∧ W.cell? ⟨w.heap.size, 1, none⟩ = some (.string ⟨S.toArray⟩) ∧ W.cell? ⟨w.heap.size, 2, none⟩ = some (.string ⟨L.toArray⟩)
      ∧ W.cell? ⟨w.heap.size + 1, 0, none⟩ = some (.int .i64 k') ∧ W.cell? ⟨w.heap.size + 1, 1, none⟩ = some (.string ⟨S'.toArray⟩) ∧ W.cell? ⟨w.heap.size + 1, 2, none⟩ = some (.string ⟨L'.toArray⟩)) (go_keep) (first
    | (go_at_call 80; refine (Tryz.cmp_Compare_int k k' _).mono ?_; rintro e w3 ⟨rfl, rfl⟩)
    | (go_at_call_of 81 (Value.string ⟨S.toArray⟩); refine (Tryz.strings_Compare ⟨S.toArray⟩ ⟨S'.toArray⟩ _).mono ?_; rintro e w3 ⟨rfl, rfl⟩)
    | (go_at_call_of 81 (Value.string ⟨L.toArray⟩); refine (Tryz.strings_Compare ⟨L.toArray⟩ ⟨L'.toArray⟩ _).mono ?_; rintro e w3 ⟨rfl, rfl⟩)
    | (go_at_call 42; refine (Or_any (w.heap.size + 1 + 1) (Lib.compareInt k k') (Lib.compareBytes S S') (Lib.compareBytes L L') _ (by go_simp) (by go_simp) (by go_simp)).mono ?_; rintro e w3 ⟨rfl, rfl⟩))
  go_wp2
  go_ret
  exact ⟨rfl, (((grew_alloc _ _).trans (grew_alloc _ _)).trans (grew_alloc _ _)).drew⟩

/-- eighteen cells, behind a call that lays blocks and draws -/
theorem keep18 {W W' : World} {p0 p1 p2 p3 p4 p5 p6 p7 p8 p9 p10 p11 p12 p13 p14 p15 p16 p17 : Addr} {v0 v1 v2 v3 v4 v5 v6 v7 v8 v9 v10 v11 v12 v13 v14 v15 v16 v17 : Value}
    (h : W.cell? p0 = some v0 ∧ W.cell? p1 = some v1 ∧ W.cell? p2 = some v2 ∧ W.cell? p3 = some v3 ∧ W.cell? p4 = some v4 ∧ W.cell? p5 = some v5 ∧ W.cell? p6 = some v6 ∧ W.cell? p7 = some v7 ∧ W.cell? p8 = some v8 ∧ W.cell? p9 = some v9 ∧ W.cell? p10 = some v10 ∧ W.cell? p11 = some v11 ∧ W.cell? p12 = some v12 ∧ W.cell? p13 = some v13 ∧ W.cell? p14 = some v14 ∧ W.cell? p15 = some v15 ∧ W.cell? p16 = some v16 ∧ W.cell? p17 = some v17) (hb : Grew W W') : W'.cell? p0 = some v0 ∧ W'.cell? p1 = some v1 ∧ W'.cell? p2 = some v2 ∧ W'.cell? p3 = some v3 ∧ W'.cell? p4 = some v4 ∧ W'.cell? p5 = some v5 ∧ W'.cell? p6 = some v6 ∧ W'.cell? p7 = some v7 ∧ W'.cell? p8 = some v8 ∧ W'.cell? p9 = some v9 ∧ W'.cell? p10 = some v10 ∧ W'.cell? p11 = some v11 ∧ W'.cell? p12 = some v12 ∧ W'.cell? p13 = some v13 ∧ W'.cell? p14 = some v14 ∧ W'.cell? p15 = some v15 ∧ W'.cell? p16 = some v16 ∧ W'.cell? p17 = some v17 := by
  have q := hb.keep
  obtain ⟨h0, h1, h2, h3, h4, h5, h6, h7, h8, h9, h10, h11, h12, h13, h14, h15, h16, h17⟩ := h
  exact ⟨q _ _ h0, q _ _ h1, q _ _ h2, q _ _ h3, q _ _ h4, q _ _ h5, q _ _ h6, q _ _ h7, q _ _ h8, q _ _ h9, q _ _ h10, q _ _ h11, q _ _ h12, q _ _ h13, q _ _ h14, q _ _ h15, q _ _ h16, q _ _ h17⟩

set_option maxHeartbeats 8000000 in
set_option maxRecDepth 100000 in
theorem TCompare_grew (xk1 : Int) (xS1 xL1 : List UInt8) (xk2 : Int) (xS2 xL2 : List UInt8) (xk3 : Int) (xS3 xL3 : List UInt8) (yk1 : Int) (yS1 yL1 : List UInt8) (yk2 : Int) (yS2 yL2 : List UInt8) (yk3 : Int) (yS3 yL3 : List UInt8) (w : World) :
    Calls Tryz.prog 47 #[.agg #[.int .i64 xk1, .string ⟨xS1.toArray⟩, .string ⟨xL1.toArray⟩, .int .i64 xk2, .string ⟨xS2.toArray⟩, .string ⟨xL2.toArray⟩, .int .i64 xk3, .string ⟨xS3.toArray⟩, .string ⟨xL3.toArray⟩], .agg #[.int .i64 yk1, .string ⟨yS1.toArray⟩, .string ⟨yL1.toArray⟩, .int .i64 yk2, .string ⟨yS2.toArray⟩, .string ⟨yL2.toArray⟩, .int .i64 yk3, .string ⟨yS3.toArray⟩, .string ⟨yL3.toArray⟩]] w
      fun e w' => e = .returned (.int .i64 (orI (cmpT xk1 xS1 xL1 yk1 yS1 yL1) (cmpT xk2 xS2 xL2 yk2 yS2 yL2) (cmpT xk3 xS3 xL3 yk3 yS3 yL3))) ∧ Grew w w' := by
  have H1 := fun W => Compare_grew xk1 xS1 xL1 yk1 yS1 yL1 W
  have H2 := fun W => Compare_grew xk2 xS2 xL2 yk2 yS2 yL2 W
  have H3 := fun W => Compare_grew xk3 xS3 xL3 yk3 yS3 yL3 W
  generalize cmpT xk1 xS1 xL1 yk1 yS1 yL1 = c1 at H1 ⊢
  generalize cmpT xk2 xS2 xL2 yk2 yS2 yL2 = c2 at H2 ⊢
  generalize cmpT xk3 xS3 xL3 yk3 yS3 yL3 = c3 at H3 ⊢
  go_enter Tryz.func47, Tryz.ntmps47
  go_wp2_with fail
  go_region_held3 (fun W => W.cell? ⟨w.heap.size, 0, none⟩ = some (.int .i64 xk1) ∧ W.cell? ⟨w.heap.size, 1, none⟩ = some (.string ⟨xS1.toArray⟩) ∧ W.cell? ⟨w.heap.size, 2, none⟩ = some (.string ⟨xL1.toArray⟩) ∧ W.cell? ⟨w.heap.size, 3, none⟩ = some (.int .i64 xk2) ∧ W.cell? ⟨w.heap.size, 4, none⟩ = some (.string ⟨xS2.toArray⟩) ∧ W.cell? ⟨w.heap.size, 5, none⟩ = some (.string ⟨xL2.toArray⟩) ∧ W.cell? ⟨w.heap.size, 6, none⟩ = some (.int .i64 xk3) ∧ W.cell? ⟨w.heap.size, 7, none⟩ = some (.string ⟨xS3.toArray⟩) ∧ W.cell? ⟨w.heap.size, 8, none⟩ = some (.string ⟨xL3.toArray⟩) ∧ W.cell? ⟨w.heap.size + 1, 0, none⟩ = some (.int .i64 yk1) ∧ W.cell? ⟨w.heap.size + 1, 1, none⟩ = some (.string ⟨yS1.toArray⟩) ∧ W.cell? ⟨w.heap.size + 1, 2, none⟩ = some (.string ⟨yL1.toArray⟩) ∧ W.cell? ⟨w.heap.size + 1, 3, none⟩ = some (.int .i64 yk2) ∧ W.cell? ⟨w.heap.size + 1, 4, none⟩ = some (.string ⟨yS2.toArray⟩) ∧ W.cell? ⟨w.heap.size + 1, 5, none⟩ = some (.string ⟨yL2.toArray⟩) ∧ W.cell? ⟨w.heap.size + 1, 6, none⟩ = some (.int .i64 yk3) ∧ W.cell? ⟨w.heap.size + 1, 7, none⟩ = some (.string ⟨yS3.toArray⟩) ∧ W.cell? ⟨w.heap.size + 1, 8, none⟩ = some (.string ⟨yL3.toArray⟩)) (first | exact keep18 (by assumption) hb1 | exact keep18 (by assumption) hb2 | exact keep18 (by assumption) hb3 | go_keep) (first
    | (go_at_call_of 43 (Value.agg #[.int .i64 xk1, .string ⟨xS1.toArray⟩, .string ⟨xL1.toArray⟩]); refine (H1 _).mono ?_; rintro e w1 ⟨rfl, hb1⟩)
    | (go_at_call_of 43 (Value.agg #[.int .i64 xk2, .string ⟨xS2.toArray⟩, .string ⟨xL2.toArray⟩]); refine (H2 _).mono ?_; rintro e w2 ⟨rfl, hb2⟩)
    | (go_at_call_of 43 (Value.agg #[.int .i64 xk3, .string ⟨xS3.toArray⟩, .string ⟨xL3.toArray⟩]); refine (H3 _).mono ?_; rintro e w3 ⟨rfl, hb3⟩)
    | (go_at_call 42; refine (Or_any _ c1 c2 c3 _ (by go_simp) (by go_simp) (by go_simp)).mono ?_; rintro e w4 ⟨rfl, rfl⟩))
  go_wp2
  go_ret
  exact ⟨rfl, (((((grew_alloc _ _).trans (grew_alloc _ _)).drew.trans hb1).trans hb2).trans hb3).trans (grew_alloc _ _)⟩
end Go.Proofs.YtenakehnnmencagGreatDoor

/- Triples as plain data; a row of them in memory; one that is read at a place. -/
namespace Go.Proofs.YtenakehnnmencagGreatDoor
open Go Go.RowKit Go.Proofs

/-- a term: its kind, its text, its language; a triple: three terms -/
abbrev Tm := Int × List UInt8 × List UInt8
abbrev Tr := Tm × Tm × Tm

/-- a triple's nine cells -/
def encTr (x : Tr) : List Value := [.int .i64 x.1.1, .string ⟨x.1.2.1.toArray⟩, .string ⟨x.1.2.2.toArray⟩, .int .i64 x.2.1.1, .string ⟨x.2.1.2.1.toArray⟩, .string ⟨x.2.1.2.2.toArray⟩, .int .i64 x.2.2.1, .string ⟨x.2.2.2.1.toArray⟩, .string ⟨x.2.2.2.2.toArray⟩]
def cellsT (l : List Tr) : List Value := l.flatMap encTr
theorem encTr_len (x : Tr) : (encTr x).length = 9 := rfl
theorem encTr_one (x : Tr) : ∀ v ∈ encTr x, v.oneCell' = true := by
  intro v hv
  simp [encTr] at hv
  rcases hv with rfl | rfl | rfl | rfl | rfl | rfl | rfl | rfl | rfl <;> rfl
theorem cellsT_len (l : List Tr) : (cellsT l).length = l.length * 9 := by
  induction l with
  | nil => rfl
  | cons x r ih => simp only [cellsT, List.flatMap_cons, List.length_append, List.length_cons] at *; rw [ih, encTr_len]; omega
theorem cellsT_one (l : List Tr) : ∀ v ∈ cellsT l, v.oneCell' = true := by
  intro v hv
  simp only [cellsT, List.mem_flatMap] at hv
  obtain ⟨x, _, hx⟩ := hv
  exact encTr_one x v hx
theorem cellsT_at (l : List Tr) (i : Nat) (h : i < l.length) (j : Nat) (hj : j < 9) : (cellsT l)[i * 9 + j]? = (encTr l[i])[j]? := by
  induction l generalizing i with
  | nil => simp at h
  | cons x r ih =>
    simp only [cellsT, List.flatMap_cons] at *
    cases i with
    | zero => rw [List.getElem?_append_left (by rw [encTr_len]; omega)]; simp
    | succ n =>
      rw [List.getElem?_append_right (by rw [encTr_len]; omega), encTr_len, show (n + 1) * 9 + j - 9 = n * 9 + j by omega, ih n (by simpa using h)]
      simp

/-- the row of cells at a place is these triples' -/
def RowR (w : World) (b o : Nat) (l : List Tr) : Prop := ∀ j v, (cellsT l)[j]? = some v → w.cell? ⟨b, o + j, none⟩ = some v

theorem RowR.below {w w' : World} {b o : Nat} {l : List Tr} (h : RowR w b o l) (hb : Below w.heap.size w w') : RowR w' b o l := fun j v hv =>
  (hb.cell (World.block_lt_of_cell? w _ (h j v hv))).trans (h j v hv)

theorem RowR.at {w : World} {b o : Nat} {l : List Tr} (h : RowR w b o l) (i : Nat) (hi : i < l.length) :
    w.cell? ⟨b, o + i * 9, none⟩ = some (.int .i64 l[i].1.1) ∧ w.cell? ⟨b, o + i * 9 + 1, none⟩ = some (.string ⟨l[i].1.2.1.toArray⟩) ∧ w.cell? ⟨b, o + i * 9 + 2, none⟩ = some (.string ⟨l[i].1.2.2.toArray⟩)
    ∧ w.cell? ⟨b, o + i * 9 + 3, none⟩ = some (.int .i64 l[i].2.1.1) ∧ w.cell? ⟨b, o + i * 9 + 4, none⟩ = some (.string ⟨l[i].2.1.2.1.toArray⟩) ∧ w.cell? ⟨b, o + i * 9 + 5, none⟩ = some (.string ⟨l[i].2.1.2.2.toArray⟩)
    ∧ w.cell? ⟨b, o + i * 9 + 6, none⟩ = some (.int .i64 l[i].2.2.1) ∧ w.cell? ⟨b, o + i * 9 + 7, none⟩ = some (.string ⟨l[i].2.2.2.1.toArray⟩) ∧ w.cell? ⟨b, o + i * 9 + 8, none⟩ = some (.string ⟨l[i].2.2.2.2.toArray⟩) := by
  have q : ∀ j v, j < 9 → (encTr l[i])[j]? = some v → w.cell? ⟨b, o + i * 9 + j, none⟩ = some v := fun j v hj hv => by
    rw [Nat.add_assoc]; exact h _ v (by rw [cellsT_at l i hi j hj]; exact hv)
  exact ⟨q 0 _ (by omega) rfl, q 1 _ (by omega) rfl, q 2 _ (by omega) rfl, q 3 _ (by omega) rfl, q 4 _ (by omega) rfl, q 5 _ (by omega) rfl, q 6 _ (by omega) rfl, q 7 _ (by omega) rfl, q 8 _ (by omega) rfl⟩

/-- what is wrong with a triple; which of two is ahead; its texts are no longer than a text may be -/
def chkTr (x : Tr) : Int := check3 (checkN x.1.1 x.1.2.1 x.1.2.2) (checkN x.2.1.1 x.2.1.2.1 x.2.1.2.2) (checkN x.2.2.1 x.2.2.2.1 x.2.2.2.2) x.1.1 x.2.1.1
def cmpTm (x y : Tm) : Int := cmpT x.1 x.2.1 x.2.2 y.1 y.2.1 y.2.2
def cmpTr (x y : Tr) : Int := orI (cmpTm x.1 y.1) (cmpTm x.2.1 y.2.1) (cmpTm x.2.2 y.2.2)
def fitTr (x : Tr) : Prop := (x.1.2.1.length ≤ maxLen ∧ x.1.2.2.length ≤ maxLen) ∧ (x.2.1.2.1.length ≤ maxLen ∧ x.2.1.2.2.length ≤ maxLen) ∧ (x.2.2.2.1.length ≤ maxLen ∧ x.2.2.2.2.length ≤ maxLen)
def valTr (x : Tr) : Value := .agg #[.int .i64 x.1.1, .string ⟨x.1.2.1.toArray⟩, .string ⟨x.1.2.2.toArray⟩, .int .i64 x.2.1.1, .string ⟨x.2.1.2.1.toArray⟩, .string ⟨x.2.1.2.2.toArray⟩, .int .i64 x.2.2.1, .string ⟨x.2.2.2.1.toArray⟩, .string ⟨x.2.2.2.2.toArray⟩]

theorem ChkTr_any (x : Tr) (w : World) (hx : fitTr x) : Calls Tryz.prog 46 #[valTr x] w fun e w' => e = .returned (errV (chkTr x)) ∧ Below w.heap.size w w' :=
  TCheck_any _ _ _ _ _ _ _ _ _ w hx.1.1 hx.1.2 hx.2.1.1 hx.2.1.2 hx.2.2.1 hx.2.2.2
theorem CmpTr_any (x y : Tr) (w : World) : Calls Tryz.prog 47 #[valTr x, valTr y] w fun e w' => e = .returned (.int .i64 (cmpTr x y)) ∧ Grew w w' :=
  TCompare_grew _ _ _ _ _ _ _ _ _ _ _ _ _ _ _ _ _ _ w

set_option maxHeartbeats 1000000 in
theorem sortFault_any (b o cap bl : Nat) (l : List Tr) (i : Nat) (w : World) (hi : i < l.length) (hx : fitTr l[i])
    (hbox : w.cell? ⟨bl, 0, none⟩ = some (.slice (some ⟨b, o, none⟩) l.length cap)) (hrow : RowR w b o l) :
    Calls Tryz.prog 105 #[.int .i64 i, .pointer (some ⟨bl, 0, none⟩)] w fun e w' => e = .returned (errV (chkTr l[i])) ∧ Below w.heap.size w w' := by
  have H := fun W => ChkTr_any l[i] W hx
  obtain ⟨c0, c1, c2, c3, c4, c5, c6, c7, c8⟩ := hrow.at i hi
  clear hrow hx
  go_enter Tryz.func105, Tryz.ntmps105
  go_wp2_with fail
  refine (H _).mono ?_
  rintro e w1 ⟨rfl, hb1⟩
  go_wp2_with fail
  go_ret
  exact ⟨rfl, hb1⟩

theorem chk_zero {x : Tr} (h : chkTr x = 0) : checkN x.1.1 x.1.2.1 x.1.2.2 = 0 ∧ checkN x.2.1.1 x.2.1.2.1 x.2.1.2.2 = 0 ∧ checkN x.2.2.1 x.2.2.2.1 x.2.2.2.2 = 0 ∧ shapeB x.1.1 x.2.1.1 = false := by
  unfold chkTr check3 at h
  by_cases h1 : checkN x.1.1 x.1.2.1 x.1.2.2 = 0
  · rw [if_pos h1] at h
    by_cases h2 : checkN x.2.1.1 x.2.1.2.1 x.2.1.2.2 = 0
    · rw [if_pos h2] at h
      by_cases h3 : checkN x.2.2.1 x.2.2.2.1 x.2.2.2.2 = 0
      · rw [if_pos h3] at h
        cases h4 : shapeB x.1.1 x.2.1.1
        · exact ⟨h1, h2, h3, rfl⟩
        · rw [h4] at h; simp at h
      · rw [if_neg h3] at h; exact absurd h h3
    · rw [if_neg h2] at h; exact absurd h h2
  · rw [if_neg h1] at h; exact absurd h h1

end Go.Proofs.YtenakehnnmencagGreatDoor

/- Sorted's closure: what is wrong with the triple at a place: itself, and that it is not above the one ahead; firstFault. -/
namespace Go.Proofs.YtenakehnnmencagGreatDoor
open Go Go.RowKit Go.Proofs Go.Sort

attribute [local go_sem] eql_errV neq_errV guard_errV

/-- what Sorted's closure tells of a place -/
def stepN (l : List Tr) (i : Nat) : Int := if h : i < l.length then (if chkTr l[i] = 0 then (if h0 : 0 < i then (if 0 ≤ cmpTr (l[i - 1]'(by omega)) l[i] then 6 else 0) else 0) else chkTr l[i]) else 0

/-- nineteen cells, behind a call that lays blocks and draws -/
theorem keep19 {W W' : World} {p0 p1 p2 p3 p4 p5 p6 p7 p8 p9 p10 p11 p12 p13 p14 p15 p16 p17 p18 : Addr} {v0 v1 v2 v3 v4 v5 v6 v7 v8 v9 v10 v11 v12 v13 v14 v15 v16 v17 v18 : Value}
    (h : W.cell? p0 = some v0 ∧ W.cell? p1 = some v1 ∧ W.cell? p2 = some v2 ∧ W.cell? p3 = some v3 ∧ W.cell? p4 = some v4 ∧ W.cell? p5 = some v5 ∧ W.cell? p6 = some v6 ∧ W.cell? p7 = some v7 ∧ W.cell? p8 = some v8 ∧ W.cell? p9 = some v9 ∧ W.cell? p10 = some v10 ∧ W.cell? p11 = some v11 ∧ W.cell? p12 = some v12 ∧ W.cell? p13 = some v13 ∧ W.cell? p14 = some v14 ∧ W.cell? p15 = some v15 ∧ W.cell? p16 = some v16 ∧ W.cell? p17 = some v17 ∧ W.cell? p18 = some v18) (hb : Grew W W') : W'.cell? p0 = some v0 ∧ W'.cell? p1 = some v1 ∧ W'.cell? p2 = some v2 ∧ W'.cell? p3 = some v3 ∧ W'.cell? p4 = some v4 ∧ W'.cell? p5 = some v5 ∧ W'.cell? p6 = some v6 ∧ W'.cell? p7 = some v7 ∧ W'.cell? p8 = some v8 ∧ W'.cell? p9 = some v9 ∧ W'.cell? p10 = some v10 ∧ W'.cell? p11 = some v11 ∧ W'.cell? p12 = some v12 ∧ W'.cell? p13 = some v13 ∧ W'.cell? p14 = some v14 ∧ W'.cell? p15 = some v15 ∧ W'.cell? p16 = some v16 ∧ W'.cell? p17 = some v17 ∧ W'.cell? p18 = some v18 := by
  have q := hb.keep
  obtain ⟨h0, h1, h2, h3, h4, h5, h6, h7, h8, h9, h10, h11, h12, h13, h14, h15, h16, h17, h18⟩ := h
  exact ⟨q _ _ h0, q _ _ h1, q _ _ h2, q _ _ h3, q _ _ h4, q _ _ h5, q _ _ h6, q _ _ h7, q _ _ h8, q _ _ h9, q _ _ h10, q _ _ h11, q _ _ h12, q _ _ h13, q _ _ h14, q _ _ h15, q _ _ h16, q _ _ h17, q _ _ h18⟩

set_option maxHeartbeats 4000000 in
set_option maxRecDepth 100000 in
theorem sortedFault_any (b o cap bl : Nat) (l : List Tr) (i : Nat) (w : World) (hi : i < l.length) (h200 : l.length ≤ 200) (hx : fitTr l[i])
    (hbox : w.cell? ⟨bl, 0, none⟩ = some (.slice (some ⟨b, o, none⟩) l.length cap)) (hrow : RowR w b o l) :
    Calls Tryz.prog 45 #[.int .i64 i, .pointer (some ⟨bl, 0, none⟩)] w fun e w' => e = .returned (errV (stepN l i)) ∧ Below w.heap.size w w' := by
  have H := fun W => ChkTr_any l[i] W hx
  have Hrow : Hid (RowR w b o l) := hrow
  obtain ⟨c0, c1, c2, c3, c4, c5, c6, c7, c8⟩ := hrow.at i hi
  clear hrow hx
  cases hc : (chkTr l[i] == 0)
  · have fin : Hid (stepN l i = chkTr l[i]) := by simp at hc; simp [Hid, stepN, hi, hc]
    go_enter Tryz.func45, Tryz.ntmps45
    go_wp2_with fail
    refine (H _).mono ?_
    rintro e w1 ⟨rfl, hb1⟩
    go_wp2_with fail
    go_ret
    exact ⟨ret_val (by rw [fin.out]; rfl), hb1⟩
  · by_cases h0 : i = 0
    · subst h0
      have fin : Hid (stepN l 0 = 0) := by simp at hc; simp [Hid, stepN, hi, hc]
      simp only [Nat.zero_mul, Nat.add_zero] at c0 c1 c2 c3 c4 c5 c6 c7 c8
      go_enter Tryz.func45, Tryz.ntmps45
      go_wp2_with fail
      refine (H _).mono ?_
      rintro e w1 ⟨rfl, hb1⟩
      clear c0 c1 c2 c3 c4 c5 c6 c7 c8
      go_wp2_with fail
      go_region
      go_wp2
      go_ret
      exact ⟨ret_val (by rw [fin.out]; rfl), hb1.drew⟩
    · obtain ⟨k, hk0⟩ : ∃ k, i = k + 1 := ⟨i - 1, by omega⟩
      have hk : k < l.length := by omega
      have fin : Hid (stepN l i = if 0 ≤ cmpTr l[k] l[i] then 6 else 0) := by
        subst hk0; simp at hc; simp [Hid, stepN, hi, hc]
      have HC := fun W => CmpTr_any l[k] l[i] W
      generalize cmpTr l[k] l[i] = c at HC fin
      have hwr : IntKind.i64.wrap ((i : Int) - 1) = (k : Int) := by subst hk0; simp [IntKind.wrap, IntKind.bits, IntKind.signed]; omega
      have i0 : (0 : Int) ≤ (k : Int) := by omega
      have i1 : (k : Int) < (l.length : Int) := by omega
      have hd : decide (0 < i) = true := by simp; omega
      have i3 : (i : Int) < (l.length : Int) := by omega
      have Hk : Hid (i = k + 1) := hk0
      clear hk0 h0
      go_enter Tryz.func45, Tryz.ntmps45
      go_wp2_with fail
      refine (H _).mono ?_
      rintro e w1 ⟨rfl, hb1⟩
      have hrow1 := Hrow.out.below hb1
      have hbox1 : w1.cell? ⟨bl, 0, none⟩ = some (.slice (some ⟨b, o, none⟩) l.length cap) := (hb1.cell (World.block_lt_of_cell? w _ hbox)).trans hbox
      clear c0 c1 c2 c3 c4 c5 c6 c7 c8
      obtain ⟨c0, c1, c2, c3, c4, c5, c6, c7, c8⟩ := hrow1.at i hi
      obtain ⟨d0, d1, d2, d3, d4, d5, d6, d7, d8⟩ := hrow1.at k hk
      generalize l[i] = y at *
      generalize l[k] = x at *
      clear hrow1 H
      cases hcc : decide (c ≥ 0)
      all_goals
        go_wp2_with fail
        go_region_held3 (fun W => W.cell? ⟨bl, 0, none⟩ = some (.slice (some ⟨b, o, none⟩) l.length cap) ∧ W.cell? ⟨b, o + k * 9, none⟩ = some (.int .i64 x.1.1) ∧ W.cell? ⟨b, o + k * 9 + 1, none⟩ = some (.string ⟨x.1.2.1.toArray⟩) ∧ W.cell? ⟨b, o + k * 9 + 2, none⟩ = some (.string ⟨x.1.2.2.toArray⟩) ∧ W.cell? ⟨b, o + k * 9 + 3, none⟩ = some (.int .i64 x.2.1.1) ∧ W.cell? ⟨b, o + k * 9 + 4, none⟩ = some (.string ⟨x.2.1.2.1.toArray⟩) ∧ W.cell? ⟨b, o + k * 9 + 5, none⟩ = some (.string ⟨x.2.1.2.2.toArray⟩) ∧ W.cell? ⟨b, o + k * 9 + 6, none⟩ = some (.int .i64 x.2.2.1) ∧ W.cell? ⟨b, o + k * 9 + 7, none⟩ = some (.string ⟨x.2.2.2.1.toArray⟩) ∧ W.cell? ⟨b, o + k * 9 + 8, none⟩ = some (.string ⟨x.2.2.2.2.toArray⟩) ∧ W.cell? ⟨b, o + i * 9, none⟩ = some (.int .i64 y.1.1) ∧ W.cell? ⟨b, o + i * 9 + 1, none⟩ = some (.string ⟨y.1.2.1.toArray⟩) ∧ W.cell? ⟨b, o + i * 9 + 2, none⟩ = some (.string ⟨y.1.2.2.toArray⟩) ∧ W.cell? ⟨b, o + i * 9 + 3, none⟩ = some (.int .i64 y.2.1.1) ∧ W.cell? ⟨b, o + i * 9 + 4, none⟩ = some (.string ⟨y.2.1.2.1.toArray⟩) ∧ W.cell? ⟨b, o + i * 9 + 5, none⟩ = some (.string ⟨y.2.1.2.2.toArray⟩) ∧ W.cell? ⟨b, o + i * 9 + 6, none⟩ = some (.int .i64 y.2.2.1) ∧ W.cell? ⟨b, o + i * 9 + 7, none⟩ = some (.string ⟨y.2.2.2.1.toArray⟩) ∧ W.cell? ⟨b, o + i * 9 + 8, none⟩ = some (.string ⟨y.2.2.2.2.toArray⟩)) (first | exact keep19 (by assumption) hb2 | go_keep) (first
          | (go_at_call 47; refine (HC _).mono ?_; rintro e w2 ⟨rfl, hb2⟩))
        go_wp2
        go_ret
        exact ⟨ret_val (by rw [fin.out]; simp at hcc; first | rw [if_pos (by omega)]; rfl | rw [if_neg (by omega)]; rfl), bstep hb1.drew hb2.below⟩

/-- the first number that is not 0 among those of the places below k -/
def firstUpto (f : Nat → Int) : Nat → Int
  | 0 => 0
  | k + 1 => if firstUpto f k = 0 then f k else firstUpto f k
theorem firstUpto_mono (f : Nat → Int) (k n : Nat) (h : firstUpto f k ≠ 0) (hn : k ≤ n) : firstUpto f n = firstUpto f k := by
  induction n with
  | zero => simp at hn; rw [hn]
  | succ m ih =>
    by_cases e : k = m + 1
    · rw [e]
    · have := ih (by omega)
      rw [firstUpto, this, if_neg h]
/-- what firstFault tells of n places -/
def faultN (f : Nat → Int) (n : Nat) : Int := if 200 < n then 4 else firstUpto f n

set_option maxHeartbeats 1000000 in
theorem firstFault_any (ad : Option Addr) (n cap g bl : Nat) (f : Nat → Int) (I : World → Prop) (w : World) (hn : n ≤ 9223372036854775807)
    (eg : ∀ args w, (callFunc g args).run Tryz.prog w = .ok (.enter g args) w) (hI : I w) (hkeep : ∀ W W', I W → Below W.heap.size W W' → I W')
    (hf : n ≤ 200 → ∀ (i : Nat) (W : World), i < n → I W → Calls Tryz.prog g #[.int .i64 i, .pointer (some ⟨bl, 0, none⟩)] W fun e w' => e = .returned (errV (f i)) ∧ Below W.heap.size W w') :
    Calls Tryz.prog 44 #[.slice ad n cap, .func (.func g) #[] #[.pointer (some ⟨bl, 0, none⟩)]] w fun e w' => e = .returned (errV (faultN f n)) ∧ Below w.heap.size w w' := by
  by_cases h200 : 200 < n
  · have fin : Hid (faultN f n = 4) := if_pos h200
    have h200' : decide ((n : Int) > 200) = true := by simp; omega
    clear hf
    go_enter Tryz.func44, Tryz.ntmps44
    go_wp2
    go_ret
    exact ⟨ret_val (by rw [fin.out]; rfl), Below.refl _ _⟩
  · have fin : Hid (faultN f n = firstUpto f n) := if_neg h200
    have Hf : Hid (∀ (i : Nat) (W : World), i < n → I W → Calls Tryz.prog g #[.int .i64 i, .pointer (some ⟨bl, 0, none⟩)] W fun e w' => e = .returned (errV (f i)) ∧ Below W.heap.size W w') := hf (by omega)
    have Hk : Hid (∀ W W', I W → Below W.heap.size W W' → I W') := hkeep
    have HI : Hid (I w) := hI
    clear hf hkeep hI
    go_enter Tryz.func44, Tryz.ntmps44
    go_wp2
    go_loopw [13] (fun i wr => ∃ k : Nat, k ≤ n ∧ i = .int .i64 k ∧ firstUpto f k = 0 ∧ I wr ∧ Below w.heap.size w wr) (fun i wr => n - (intOf i).toNat)
    case atStart => exact ⟨0, Nat.zero_le _, rfl, rfl, HI.out, Below.refl _ _⟩
    case round =>
      obtain ⟨k, hk, rfl, hz0, hIr0, hbr⟩ := hrel
      have hz : Hid (firstUpto f k = 0) := hz0
      have hIr : Hid (I wr) := hIr0
      clear hz0 hIr0
      by_cases hlt : k < n
      · cases hc : (f k == 0)
        · go_wp2_with fail
          go_at_fn g
          refine (Hf.out k _ hlt hIr.out).mono ?_
          rintro e w1 ⟨rfl, hb1⟩
          go_wp2_with fail
          go_ret
          simp at hc
          refine ⟨ret_val ?_, bstep hbr hb1⟩
          have h1 : firstUpto f (k + 1) = f k := by rw [firstUpto, if_pos hz.out]
          rw [fin.out, firstUpto_mono f (k + 1) n (by rw [h1]; exact hc) (by omega), h1]
          rfl
        · go_wp2_with fail
          go_at_fn g
          refine (Hf.out k _ hlt hIr.out).mono ?_
          rintro e w1 ⟨rfl, hb1⟩
          go_wp2_with fail
          simp at hc
          exact ⟨⟨k + 1, by omega, by go_num, by rw [firstUpto, if_pos hz.out]; exact hc, Hk.out _ _ hIr.out hb1, bstep hbr hb1⟩, by simp [intOf]; omega⟩
      · have hkn : k = n := by omega
        subst hkn
        go_wp2
        go_ret
        exact ⟨ret_val (by rw [fin.out, hz.out]; rfl), hbr⟩
end Go.Proofs.YtenakehnnmencagGreatDoor

/- Patterns in plain words: what is wrong with one, which variables it has, and whether a triple fits. -/
namespace Go.Proofs.YtenakehnnmencagGreatDoor
open Go Go.RowKit Go.Proofs
set_option synthInstance.maxSize 1000

/-- a slot: its variable, its term; a pattern: three slots -/
abbrev Sl := List UInt8 × Tm
abbrev Pt := Sl × Sl × Sl
def tmZero : Tm := (0, [], [])
def tmChk (x : Tm) : Int := checkN x.1 x.2.1 x.2.2

/-- is a text that is not empty a variable? -/
def spellV (v : List UInt8) : Bool := decide (v.length ≤ 10) && allB letB v
/-- what is wrong with a slot; with a pattern -/
def slotN (s : Sl) : Int := if s.1 = [] then tmChk s.2 else if spellV s.1 = false then 2 else if s.2 = tmZero then 0 else 3
def varsN (p : Pt) : Int := if slotN p.1 = 0 then (if slotN p.2.1 = 0 then slotN p.2.2 else slotN p.2.1) else slotN p.1
/-- a pattern's variables, each once -/
def addV (l : List (List UInt8)) (s : Sl) : List (List UInt8) := if s.1 = [] then l else if s.1 ∈ l then l else l ++ [s.1]
def varsL (p : Pt) : List (List UInt8) := addV (addV (addV [] p.1) p.2.1) p.2.2

/-- does a triple fit? -/
def fitsB (p : Pt) (t : Tr) : Bool :=
  (if p.1.1 = [] then decide (t.1 = p.1.2) else true) &&
  ((if p.2.1.1 = [] then decide (t.2.1 = p.2.1.2) else if p.2.1.1 = p.1.1 then decide (t.2.1 = t.1) else true) &&
  (if p.2.2.1 = [] then decide (t.2.2 = p.2.2.2) else if p.2.2.1 = p.1.1 then decide (t.2.2 = t.1) else if p.2.2.1 = p.2.1.1 then decide (t.2.2 = t.2.1) else true))

/-- a rune that is no letter a to z -/
def offR (r : Nat) : Bool := decide (r < 97) || decide (122 < r)

theorem idx_off (s : ByteArray) : ∀ (f pos : Nat), s.size ≤ pos + f → (0 ≤ Lib.idxFuncFrom offR true s f pos ↔ ∃ k, ∃ h : k < s.size, pos ≤ k ∧ letB (s[k].toNat : Int) = false)
  | 0, pos, hf => by
    simp only [Lib.idxFuncFrom]
    constructor
    · intro h; omega
    · rintro ⟨k, h, hk, _⟩; omega
  | f + 1, pos, hf => by
    unfold Lib.idxFuncFrom
    by_cases hp : pos < s.size
    · rw [if_pos hp]
      by_cases hb : s[pos].toNat < 128
      · rw [decode_ascii s pos hp hb]
        simp only
        by_cases ho : offR s[pos].toNat = true
        · rw [if_pos ho]
          refine ⟨fun _ => ⟨pos, hp, Nat.le_refl _, ?_⟩, fun _ => by omega⟩
          simp [offR] at ho
          simp [letB]; omega
        · rw [if_neg ho, idx_off s f (pos + 1) (by omega)]
          constructor
          · rintro ⟨k, h, hk, e⟩; exact ⟨k, h, by omega, e⟩
          · rintro ⟨k, h, hk, e⟩
            refine ⟨k, h, ?_, e⟩
            rcases Nat.lt_or_ge pos k with hlt | hge
            · omega
            · have hkp : k = pos := by omega
              subst hkp
              simp [offR] at ho
              simp [letB] at e
              omega
      · have hh := (decode_high s pos hp (by omega)).1
        have ho : offR (Utf8.decode s pos).1 = true := by simp [offR]; omega
        rw [if_pos ho]
        refine ⟨fun _ => ⟨pos, hp, Nat.le_refl _, ?_⟩, fun _ => by omega⟩
        simp [letB]; omega
    · rw [if_neg hp]
      constructor
      · intro h; omega
      · rintro ⟨k, h, hk, _⟩; omega

theorem offAny (s : ByteArray) : decide (0 ≤ Lib.idxFunc offR true s) = !allB letB s.data.toList := by
  have h := idx_off s s.size 0 (by omega)
  have e : (∃ k, ∃ h : k < s.size, 0 ≤ k ∧ letB (s[k].toNat : Int) = false) ↔ allB letB s.data.toList = false := by
    unfold allB
    rw [List.all_eq_false]
    constructor
    · rintro ⟨k, hk, _, e⟩
      exact ⟨s.data.toList[k]'(by simpa using hk), List.getElem_mem _, by rw [show s.data.toList[k]'(by simpa using hk) = s[k] from rfl, e]; simp⟩
    · rintro ⟨x, hx, e⟩
      obtain ⟨k, hk, rfl⟩ := List.getElem_of_mem hx
      have hk' : k < s.size := by simpa using hk
      exact ⟨k, hk', Nat.zero_le _, by rw [show s[k] = s.data.toList[k] from rfl]; simpa using e⟩
  unfold Lib.idxFunc
  cases ha : allB letB s.data.toList
  · simpa using h.2 (e.2 ha)
  · have : ¬ (0 ≤ Lib.idxFuncFrom offR true s s.size 0) := fun h0 => by
      have := e.1 (h.1 h0)
      rw [ha] at this
      cases this
    simp [this]
end Go.Proofs.YtenakehnnmencagGreatDoor

/- strings.Builder: WriteByte (its own check walked here), String; strings.Clone. -/
namespace Go.Proofs.YtenakehnnmencagGreatDoor
open Go Go.RowKit Go.Proofs

theorem neBuilder : (188 : TypeId) ≠ 5 := by decide
theorem sizeBuilder : (Tryz.prog.info? 188).map (·.size) = some 2 := by kernel_rfl
theorem liesBuilder : liesAt Tryz.prog Tryz.prog.depth 188 (2 / Tryz.prog.cellsOf 188) 0 188 1 = true := by kernel_rfl
theorem infoByte : (Tryz.prog.info? 5).map (fun i => (i.zero, i.size, i.bytes)) = some (some (.int .u8 0), 1, 1) := by kernel_rfl

set_option maxHeartbeats 1000000 in
set_option maxRecDepth 100000 in
theorem copyCheck_fresh (b : Nat) (w : World) (h0 : w.cell? ⟨b, 0, none⟩ = some (.pointer none)) (hsh : w.shape? b = some (188, 2)) (hz : w.frozen? ⟨b, 0, none⟩ = false) :
    Calls Tryz.prog 161 #[.pointer (some ⟨b, 0, none⟩)] w fun e w' => e = .returned (.tuple #[]) ∧ w' = w.setCell ⟨b, 0, none⟩ (.pointer (some ⟨b, 0, none⟩)) := by
  obtain ⟨j, hj, hjs⟩ := Option.map_eq_some_iff.1 sizeBuilder
  go_enter Tryz.func161, Tryz.ntmps161
  go_wp2
  rw [Lib.run_to_unsafe w ⟨b, 0, none⟩ Tryz.underlying185 Tryz.underlying158 hj (by rw [hjs]; decide) hsh (Nat.zero_lt_succ 1)]
  simp only [Result.andThen]
  rw [Oper.upon_value]
  go_wp2
  rw [run_callFunc_extern Tryz.func195 (by kernel_rfl) (by kernel_rfl) (by kernel_rfl) (e := Extern.AbiNoEscape.same) (by kernel_rfl)]
  rw [Lib.run_noEscape]
  simp only [Result.andThen]
  rw [Oper.upon_value]
  go_wp2
  rw [Lib.run_from_unsafe w ⟨b, 0, none⟩ Tryz.underlying158 Tryz.underlying185 hj hsh liesBuilder]
  simp only [Result.andThen]
  rw [Oper.upon_value]
  go_wp2
  go_end0
  exact ⟨rfl, rfl⟩

set_option maxHeartbeats 1000000 in
set_option maxRecDepth 100000 in
theorem copyCheck_used (b : Nat) (w : World) (h0 : w.cell? ⟨b, 0, none⟩ = some (.pointer (some ⟨b, 0, none⟩))) :
    Calls Tryz.prog 161 #[.pointer (some ⟨b, 0, none⟩)] w fun e w' => e = .returned (.tuple #[]) ∧ w' = w := by
  obtain ⟨j, hj, _⟩ := Option.map_eq_some_iff.1 sizeBuilder
  go_enter Tryz.func161, Tryz.ntmps161
  go_wp2
  rw [Lib.run_neq_ptr_same w _ Tryz.underlying185 hj]
  go_wp2
  go_end0
  exact ⟨rfl, rfl⟩

theorem copyCheck_any (B b : Nat) (bs : List Value) (w : World) (h : Lib.IsBuilder 188 5 B b bs w) :
    Calls Tryz.prog 161 #[.pointer (some ⟨b, 0, none⟩)] w fun e w' => e = .returned (.tuple #[]) ∧ (Lib.BuilderAt 188 5 B b (.pointer (some ⟨b, 0, none⟩)) bs w' ∧ Below B w w') := by
  rcases h with h | h
  · refine (copyCheck_fresh b w h.cell0 h.shape h.frozen0).mono ?_
    rintro e w' ⟨rfl, rfl⟩
    exact ⟨rfl, h.used _, (Below.refl B w).setCell (p := ⟨b, 0, none⟩) h.1 _⟩
  · refine (copyCheck_used b w h.cell0).mono ?_
    rintro e w' ⟨rfl, rfl⟩
    exact ⟨rfl, h, Below.refl B _⟩

set_option maxHeartbeats 1000000 in
set_option maxRecDepth 100000 in
theorem WriteByte_any (B b : Nat) (bs : List Value) (c : Int) (w : World) (h : Lib.IsBuilder 188 5 B b bs w) (hlen : bs.length + 1 ≤ 140737488355328) (hBw : B ≤ w.heap.size) :
    Calls Tryz.prog 210 #[.pointer (some ⟨b, 0, none⟩), .int .u8 c] w fun e w' => e = .returned .nilIface ∧ (Lib.BuilderAt 188 5 B b (.pointer (some ⟨b, 0, none⟩)) (bs ++ [.int .u8 c]) w' ∧ Below B w w') := by
  obtain ⟨i0, hi, hz⟩ := Option.map_eq_some_iff.1 infoByte
  simp only [Prod.mk.injEq] at hz
  obtain ⟨hz0, hz1, hz2⟩ := hz
  go_enter Tryz.func210, Tryz.ntmps210
  go_wp2_with (go_at_call 161; refine (copyCheck_any B b bs _ h).mono ?_)
  rintro e w1 ⟨rfl, h1, hb1⟩
  obtain ⟨hB, v, hbk, hown, hne⟩ := h1
  have c0 : w1.cell? ⟨b, 0, none⟩ = some (.pointer (some ⟨b, 0, none⟩)) := by rw [Lib.cell_of_heap hbk]; rfl
  have c1 : w1.cell? ⟨b, 1, none⟩ = some v := by rw [Lib.cell_of_heap hbk]; rfl
  go_wp2_with (at_builtin; refine wpList_append_own _ rfl _ _ 186 rfl B 5 i0 (.int .u8 0) 1 1 Tryz.underlying186 hi hz0 hz1 hz2 rfl (by decide) _ _ _ rfl (hown.alloc _) ⟨w1.heap.size, 0, none⟩ 1 1 [.int .u8 c] rfl rfl ?c1 ?c2 ?c3 ?c4 ?c5 ?_)
  case c1 =>
    intro j u hj
    match j, hj with
    | 0, hj => simp at hj; subst hj; simp [Addr.add]
  case c2 => intro u hu; simp at hu; subst hu; rfl
  case c3 => unfold maxLen; omega
  case c4 => omega
  case c5 => have := hb1.size; simp; omega
  intro v' w2 hown' hgrow _
  have hlt : b < w1.heap.size := by
    rcases Nat.lt_or_ge b w1.heap.size with h' | h'
    · exact h'
    · simp [Array.getElem?_eq_none h'] at hbk
  have hb2 : w2.heap[b]? = some (.cells #[.pointer (some ⟨b, 0, none⟩), v] 188 (0, 0)) := by
    rw [hgrow.block b (by simp; omega) (fun e => hne e.symm), Lib.alloc_old w1 _ b hlt]
    exact hbk
  have d0 : w2.cell? ⟨b, 0, none⟩ = some (.pointer (some ⟨b, 0, none⟩)) := by rw [Lib.cell_of_heap hb2]; rfl
  have d1 : w2.cell? ⟨b, 1, none⟩ = some v := by rw [Lib.cell_of_heap hb2]; rfl
  have f1 : w2.frozen? ⟨b, 1, none⟩ = false := Lib.frozen_of_heap hb2 1
  obtain ⟨g, cap, rfl⟩ : ∃ g cap, v' = .slice (some ⟨g, 0, none⟩) (bs.length + 1) cap := by
    rcases hown'.2 with ⟨_, h0⟩ | ⟨g, cap, cur, hv, _⟩
    · omega
    · exact ⟨g, cap, hv⟩
  go_wp2
  go_ret
  refine ⟨rfl, ?_, ?_⟩
  · exact Lib.BuilderAt.put (T := 188) (e := 5) hB hb2 (bs' := bs ++ [.int .u8 c]) (by simpa using hown') neBuilder
  · exact ((hb1.alloc (by have := hb1.size; omega) _).grown hgrow (by have := hb1.size; simp; omega) (fun k hk => (hown.lt k hk).1)).setCell (p := ⟨b, 1, none⟩) hB _

theorem Clone_any (l : List UInt8) (w : World) (hl : l.length ≤ 281474976710656) :
    Calls Tryz.prog 166 #[.string ⟨l.toArray⟩] w fun e w' => e = .returned (.string ⟨l.toArray⟩) ∧ Below w.heap.size w w' := by
  go_enter Tryz.func166, Tryz.ntmps166
  go_wp2_with (go_at_call 200; refine (Tryz.stringslite_Clone ⟨l.toArray⟩ _ hl).mono ?_; rintro e w' ⟨rfl, hb⟩)
  go_ret
  exact ⟨rfl, hb⟩
end Go.Proofs.YtenakehnnmencagGreatDoor

/- quote, langMark: a text between quotes, and what stands behind it. -/
namespace Go.Proofs.YtenakehnnmencagGreatDoor
open Go Go.RowKit Go.Proofs

/-- what stands between the quotes -/
def escL (l : List UInt8) : List UInt8 := l.flatMap fun c => if markB (c.toNat : Int) then [92, c] else [c]
def quoteL (l : List UInt8) : List UInt8 := 34 :: (escL l ++ [34])

theorem escL_len (l : List UInt8) : (escL l).length ≤ 2 * l.length := by
  induction l with
  | nil => simp [escL]
  | cons c r ih =>
    have : escL (c :: r) = (if markB (c.toNat : Int) then [92, c] else [c]) ++ escL r := by simp [escL]
    rw [this, List.length_append]
    cases markB (c.toNat : Int) <;> simp <;> omega

theorem escL_take (l : List UInt8) (k : Nat) (h : k < l.length) : escL (l.take (k + 1)) = escL (l.take k) ++ if markB (l[k].toNat : Int) then [92, l[k]] else [l[k]] := by
  rw [List.take_succ_eq_append_getElem h]
  simp only [escL, List.flatMap_append, List.flatMap_cons, List.flatMap_nil, List.append_nil]

theorem cells_snoc (l : List UInt8) (c : UInt8) : Lib.byteCells l ++ [.int .u8 (c.toNat : Int)] = Lib.byteCells (l ++ [c]) := by simp [Lib.byteCells]

set_option maxHeartbeats 1000000 in
set_option maxRecDepth 100000 in
theorem quote_any (S : List UInt8) (w : World) (hs : S.length ≤ 1000000) :
    Calls Tryz.prog 192 #[.string ⟨S.toArray⟩] w fun e w' => e = .returned (.string ⟨(quoteL S).toArray⟩) ∧ Below w.heap.size w w' := by
  have hB0 := Lib.fresh_isBuilder 188 5 w
  go_enter Tryz.func192, Tryz.ntmps192
  go_wp2_with fail
  refine (WriteByte_any w.heap.size w.heap.size [] 34 _ hB0 (by simp) (by simp)).mono ?_
  rintro e w1 ⟨rfl, hI1, hb1⟩
  have hI1' : Lib.IsBuilder 188 5 w.heap.size w.heap.size (Lib.byteCells (34 :: escL (S.take 0))) w1 := Or.inr hI1
  clear hI1
  have hbw : Below w.heap.size w w1 := (balloc w _).trans hb1
  clear hb1 hB0
  go_wp2_with fail
  go_loopw [8] (fun i wr => ∃ k : Nat, k ≤ S.length ∧ i = .int .i64 k ∧ Lib.IsBuilder 188 5 w.heap.size w.heap.size (Lib.byteCells (34 :: escL (S.take k))) wr ∧ Below w.heap.size w wr) (fun i wr => S.length - (intOf i).toNat)
  case atStart => exact ⟨0, Nat.zero_le _, rfl, hI1', hbw⟩
  case round =>
    obtain ⟨k, hk, rfl, hI, hbr⟩ := hrel
    have hlen := escL_len (S.take k)
    have hlt2 : (S.take k).length ≤ k := List.length_take_le _ _
    have hsz := hbr.size
    clear hI1' hbw
    by_cases hlt : k < S.length
    · have hidx : ∀ h, (⟨S.toArray⟩ : ByteArray)[k]'h = S[k] := fun _ => rfl
      cases hm : markB (S[k].toNat : Int)
      · have hnext : Hid (Lib.byteCells (34 :: escL (S.take (k + 1))) = Lib.byteCells (34 :: escL (S.take k)) ++ [.int .u8 (S[k].toNat : Int)]) := by
          show _ = _; rw [cells_snoc, escL_take S k hlt, hm]; simp
        go_wp2_with (first | (go_at_call 211; refine (isMarked_any _ _).mono ?_; rintro e w' ⟨rfl, rfl⟩))
        refine (WriteByte_any w.heap.size w.heap.size _ _ _ hI (by simp [Lib.byteCells]; omega) hsz).mono ?_
        rintro e w2 ⟨rfl, hI2, hb2⟩
        rw [← hnext.out] at hI2
        go_wp2_with fail
        exact ⟨⟨k + 1, by omega, by go_num, Or.inr hI2, hbr.trans hb2⟩, by simp [intOf]; omega⟩
      · have hnext : Hid (Lib.byteCells (34 :: escL (S.take (k + 1))) = (Lib.byteCells (34 :: escL (S.take k)) ++ [.int .u8 92]) ++ [.int .u8 (S[k].toNat : Int)]) := by
          show _ = _
          have e92 : (.int .u8 92 : Value) = .int .u8 ((92 : UInt8).toNat : Int) := rfl
          rw [e92, cells_snoc, cells_snoc, escL_take S k hlt, hm]; simp
        go_wp2_with (first | (go_at_call 211; refine (isMarked_any _ _).mono ?_; rintro e w' ⟨rfl, rfl⟩))
        refine (WriteByte_any w.heap.size w.heap.size _ _ _ hI (by simp [Lib.byteCells]; omega) hsz).mono ?_
        rintro e w2 ⟨rfl, hI2, hb2⟩
        have hbr2 := hbr.trans hb2
        have hsz2 := hbr2.size
        go_wp2_with fail
        refine (WriteByte_any w.heap.size w.heap.size _ _ _ (Or.inr hI2) (by simp [Lib.byteCells]; omega) hsz2).mono ?_
        rintro e w3 ⟨rfl, hI3, hb3⟩
        rw [← hnext.out] at hI3
        go_wp2_with fail
        exact ⟨⟨k + 1, by omega, by go_num, Or.inr hI3, hbr2.trans hb3⟩, by simp [intOf]; omega⟩
    · have hk' : k = S.length := by omega
      subst hk'
      rw [List.take_length] at hI hlen
      go_wp2_with fail
      refine (WriteByte_any w.heap.size w.heap.size _ _ _ hI (by simp [Lib.byteCells]; omega) hsz).mono ?_
      rintro e w2 ⟨rfl, hI2, hb2⟩
      have hbr2 := hbr.trans hb2
      have hsz2 := hbr2.size
      have e34 : (.int .u8 34 : Value) = .int .u8 ((34 : UInt8).toNat : Int) := rfl
      rw [e34, cells_snoc] at hI2
      clear e34
      go_wp2_with fail
      refine (Tryz.Builder_String_any w.heap.size w.heap.size _ _ (Or.inr hI2) hsz2).mono ?_
      rintro e w3 ⟨rfl, hb3⟩
      go_wp2_with fail
      go_ret
      exact ⟨rfl, hbr2.trans hb3⟩

theorem str_app (a b : List UInt8) : ((⟨a.toArray⟩ : ByteArray) ++ (⟨b.toArray⟩ : ByteArray)) = ⟨(a ++ b).toArray⟩ := by
  apply ByteArray.ext
  rw [ByteArray.data_append]
  simp

def markL (L : List UInt8) : List UInt8 := match L with | [] => [] | c :: r => 64 :: c :: r
theorem markL_len (L : List UInt8) : (markL L).length ≤ L.length + 1 := by cases L <;> simp [markL]
theorem quoteL_len (L : List UInt8) : (quoteL L).length ≤ 2 * L.length + 2 := by have := escL_len L; simp [quoteL]; omega

theorem langMark_any (L : List UInt8) (w : World) (hl : L.length ≤ 1000000) :
    Calls Tryz.prog 193 #[.string ⟨L.toArray⟩] w fun e w' => e = .returned (.string ⟨(markL L).toArray⟩) ∧ w' = w := by
  cases L with
  | nil =>
    go_enter Tryz.func193, Tryz.ntmps193
    go_wp2
    go_ret
    exact ⟨rfl, rfl⟩
  | cons c r =>
    simp only [List.length_cons] at hl
    go_enter Tryz.func193, Tryz.ntmps193
    go_wp2
    go_ret
    exact ⟨ret_val (congrArg Value.string (str_app [64] (c :: r))), rfl⟩
end Go.Proofs.YtenakehnnmencagGreatDoor

/- Print: a term as text. -/
namespace Go.Proofs.YtenakehnnmencagGreatDoor
open Go Go.RowKit Go.Proofs

/-- the text of a right term -/
def showL (k : Int) (S L : List UInt8) : List UInt8 := if k = 2 then 95 :: S else if k = 3 then quoteL S ++ markL L else S
def printL (k : Int) (S L : List UInt8) : List UInt8 := if checkN k S L = 0 then showL k S L else []

theorem str_app2 (c : UInt8) (b : List UInt8) : ((⟨#[c]⟩ : ByteArray) ++ (⟨b.toArray⟩ : ByteArray)) = ⟨(c :: b).toArray⟩ := str_app [c] b

theorem Print_bad (k : Int) (S L : List UInt8) (w : World) (hs : S.length ≤ maxLen) (hl : L.length ≤ maxLen) (h : checkN k S L ≠ 0) :
    Calls Tryz.prog 159 #[.agg #[.int .i64 k, .string ⟨S.toArray⟩, .string ⟨L.toArray⟩]] w fun e w' => e = .returned (.tuple #[.string ⟨#[]⟩, errV (checkN k S L)]) ∧ Below w.heap.size w w' := by
  have he : errV (checkN k S L) = .iface 73 (.int .i64 (checkN k S L)) := by simp [errV, h]
  rw [he]
  have He : Hid (errV (checkN k S L) = .iface 73 (.int .i64 (checkN k S L))) := he
  clear he
  go_enter Tryz.func159, Tryz.ntmps159
  go_wp2_with fail
  refine (Check_any k S L _ hs hl).mono ?_
  rintro e w1 ⟨rfl, hb1⟩
  rw [He.out]
  go_wp2_with fail
  go_ret2
  exact ⟨rfl, bstep (balloc _ _) hb1⟩

set_option maxHeartbeats 2000000 in
theorem Print_text (S L : List UInt8) (w : World) (hS : S.length ≤ 24) (hL : L.length ≤ 2) (He : Hid (errV (checkN 3 S L) = .nilIface)) :
    Calls Tryz.prog 159 #[.agg #[.int .i64 3, .string ⟨S.toArray⟩, .string ⟨L.toArray⟩]] w fun e w' => e = .returned (.tuple #[.string ⟨(showL 3 S L).toArray⟩, .nilIface]) ∧ Below w.heap.size w w' := by
  have hs : S.length ≤ maxLen := by unfold maxLen; omega
  have hl : L.length ≤ maxLen := by unfold maxLen; omega
  have fin : Hid (showL 3 S L = quoteL S ++ markL L) := rfl
  go_enter Tryz.func159, Tryz.ntmps159
  go_wp2_with fail
  refine (Check_any 3 S L _ hs hl).mono ?_
  rintro e w1 ⟨rfl, hb1⟩
  obtain ⟨hc1, hf1⟩ := bcell hb1
  have hz : w.heap.size < w1.heap.size := by have := hb1.size; simp at this; omega
  rw [He.out]
  go_wp2_with fail
  have hcS : w1.cell? ⟨w.heap.size, 1, none⟩ = some (.string ⟨S.toArray⟩) := by rw [hc1 _ _ (by simp)]; simp
  have hcL : w1.cell? ⟨w.heap.size, 2, none⟩ = some (.string ⟨L.toArray⟩) := by rw [hc1 _ _ (by simp)]; simp
  clear hc1 hf1
  have hq := quoteL_len S
  have hm := markL_len L
  go_region_with (first
    | (go_at_call 192; refine (quote_any S _ (by omega)).mono ?_; rintro e w2 ⟨rfl, hb2⟩
       have hcS2 : w2.cell? ⟨w.heap.size, 1, none⟩ = some (.string ⟨S.toArray⟩) := (hb2.cell (p := ⟨w.heap.size, 1, none⟩) hz).trans hcS
       have hcL2 : w2.cell? ⟨w.heap.size, 2, none⟩ = some (.string ⟨L.toArray⟩) := (hb2.cell (p := ⟨w.heap.size, 2, none⟩) hz).trans hcL)
    | (go_at_call 193; refine (langMark_any L _ (by omega)).mono ?_; rintro e w3 ⟨rfl, rfl⟩))
  all_goals
    go_wp2
    go_ret2
    exact ⟨ret_two (by rw [fin.out, ← str_app]; rfl) rfl, bstep (bstep (balloc _ _) hb1) (bdrew hb2)⟩

theorem Print_good (k : Int) (S L : List UInt8) (w : World) (h : checkN k S L = 0) :
    Calls Tryz.prog 159 #[.agg #[.int .i64 k, .string ⟨S.toArray⟩, .string ⟨L.toArray⟩]] w fun e w' => e = .returned (.tuple #[.string ⟨(showL k S L).toArray⟩, .nilIface]) ∧ Below w.heap.size w w' := by
  obtain ⟨hk, hS, hsp⟩ := check_zero h
  have hL := spell_lang hsp
  have hs : S.length ≤ maxLen := by unfold maxLen; omega
  have hl : L.length ≤ maxLen := by unfold maxLen; omega
  have He : Hid (errV (checkN k S L) = .nilIface) := by show _ = _; rw [h]; rfl
  clear h hsp
  rcases hk with rfl | rfl | rfl
  · have fin : Hid (showL 1 S L = S) := rfl
    go_enter Tryz.func159, Tryz.ntmps159
    go_wp2_with fail
    refine (Check_any 1 S L _ hs hl).mono ?_
    rintro e w1 ⟨rfl, hb1⟩
    obtain ⟨hc1, hf1⟩ := bcell hb1
    rw [He.out]
    go_wp2_with fail
    refine (Clone_any S _ (by omega)).mono ?_
    rintro e w2 ⟨rfl, hb2⟩
    go_wp2_with fail
    go_ret2
    exact ⟨ret_two (by rw [fin.out]; rfl) rfl, bstep (bstep (balloc _ _) hb1) hb2⟩
  · have fin : Hid (showL 2 S L = 95 :: S) := rfl
    go_enter Tryz.func159, Tryz.ntmps159
    go_wp2_with fail
    refine (Check_any 2 S L _ hs hl).mono ?_
    rintro e w1 ⟨rfl, hb1⟩
    obtain ⟨hc1, hf1⟩ := bcell hb1
    rw [He.out]
    go_wp2_with fail
    go_ret2
    exact ⟨ret_two (by rw [fin.out, ← str_app2 95 S]; rfl) rfl, bstep (balloc _ _) hb1⟩
  · exact Print_text S L w hS hL He

theorem Print_any (k : Int) (S L : List UInt8) (w : World) (hs : S.length ≤ maxLen) (hl : L.length ≤ maxLen) :
    Calls Tryz.prog 159 #[.agg #[.int .i64 k, .string ⟨S.toArray⟩, .string ⟨L.toArray⟩]] w fun e w' => e = .returned (.tuple #[.string ⟨(printL k S L).toArray⟩, errV (checkN k S L)]) ∧ Below w.heap.size w w' := by
  by_cases h : checkN k S L = 0
  · refine (Print_good k S L w h).mono ?_
    rintro e w' ⟨rfl, hb⟩
    exact ⟨by rw [show printL k S L = showL k S L from if_pos h, h]; rfl, hb⟩
  · refine (Print_bad k S L w hs hl h).mono ?_
    rintro e w' ⟨rfl, hb⟩
    exact ⟨by rw [show printL k S L = [] from if_neg h], hb⟩
end Go.Proofs.YtenakehnnmencagGreatDoor

/- unquote: up to the quote that ends a text. -/
namespace Go.Proofs.YtenakehnnmencagGreatDoor
open Go Go.RowKit Go.Proofs

def unqL : List UInt8 → Option (List UInt8 × List UInt8)
  | [] => none
  | c :: r =>
    if c = 34 then some ([], r)
    else if c = 92 then
      match r with
      | [] => none
      | d :: r' => if markB (d.toNat : Int) then (unqL r').map (fun p => (d :: p.1, p.2)) else none
    else (unqL r).map (fun p => (c :: p.1, p.2))

theorem unqL_cons (c : UInt8) (r : List UInt8) : unqL (c :: r) = if c = 34 then some ([], r) else if c = 92 then (match r with | [] => none | d :: r' => if markB (d.toNat : Int) then (unqL r').map (fun p => (d :: p.1, p.2)) else none) else (unqL r).map (fun p => (c :: p.1, p.2)) := by
  cases r <;> rfl

def unqV (o : Option (List UInt8 × List UInt8)) : Value := match o with
  | none => .tuple #[.string ⟨#[]⟩, .string ⟨#[]⟩, .bool false]
  | some p => .tuple #[.string ⟨p.1.toArray⟩, .string ⟨p.2.toArray⟩, .bool true]

/-- what is read so far, and what is left to read -/
def unqAt (l : List UInt8) (k : Nat) (acc : List UInt8) : Prop := unqL l = (unqL (l.drop k)).map (fun p => (acc ++ p.1, p.2))

theorem unqAt_zero (l : List UInt8) : unqAt l 0 [] := by
  unfold unqAt; simp

theorem drop_at (l : List UInt8) (k : Nat) (h : k < l.length) : l.drop k = l[k] :: l.drop (k + 1) := List.drop_eq_getElem_cons h

theorem unqAt_end (l : List UInt8) (k : Nat) (acc : List UInt8) (h : unqAt l k acc) (hk : l.length ≤ k) : unqL l = none := by
  unfold unqAt at h
  rw [h, List.drop_eq_nil_of_le hk]; rfl

theorem unqAt_quote (l : List UInt8) (k : Nat) (acc : List UInt8) (h : unqAt l k acc) (hk : k < l.length) (hq : l[k] = 34) : unqL l = some (acc, l.drop (k + 1)) := by
  unfold unqAt at h
  rw [h, drop_at l k hk, hq, unqL_cons]; simp

theorem unqAt_plain (l : List UInt8) (k : Nat) (acc : List UInt8) (h : unqAt l k acc) (hk : k < l.length) (hq : l[k] ≠ 34) (hm : l[k] ≠ 92) : unqAt l (k + 1) (acc ++ [l[k]]) := by
  unfold unqAt at h ⊢
  rw [h, drop_at l k hk, unqL_cons, if_neg hq, if_neg hm, Option.map_map]
  congr 1
  funext p
  simp

theorem unqAt_cut (l : List UInt8) (k : Nat) (acc : List UInt8) (h : unqAt l k acc) (hk : k < l.length) (hm : l[k] = 92) (he : k + 1 = l.length) : unqL l = none := by
  unfold unqAt at h
  rw [h, drop_at l k hk, hm, List.drop_eq_nil_of_le (by omega), unqL_cons]; rfl

theorem unqAt_bad (l : List UInt8) (k : Nat) (acc : List UInt8) (h : unqAt l k acc) (hk : k + 1 < l.length) (hm : l[k] = 92) (hb : markB (l[k + 1].toNat : Int) = false) : unqL l = none := by
  unfold unqAt at h
  rw [h, drop_at l k (by omega), hm, drop_at l (k + 1) hk, unqL_cons, if_neg (by decide), if_pos rfl]; simp [hb]

theorem unqAt_mark (l : List UInt8) (k : Nat) (acc : List UInt8) (h : unqAt l k acc) (hk : k + 1 < l.length) (hm : l[k] = 92) (hb : markB (l[k + 1].toNat : Int) = true) : unqAt l (k + 2) (acc ++ [l[k + 1]]) := by
  unfold unqAt at h ⊢
  rw [h, drop_at l k (by omega), hm, drop_at l (k + 1) hk, unqL_cons, if_neg (by decide), if_pos rfl]
  simp only [hb, if_true, Option.map_map]
  congr 1
  funext p
  simp

theorem drop_extract (l : List UInt8) (k : Nat) : (⟨l.toArray⟩ : ByteArray).extract k l.length = ⟨(l.drop k).toArray⟩ := by
  apply ByteArray.ext
  rw [ByteArray.data_extract]
  simp
  exact List.take_of_length_le (by simp)

theorem bdrewB {B : Nat} {w w1 : World} (h : Below B w.drew w1) : Below B w w1 := ⟨h.os, h.tape, h.output, h.size, h.block⟩

theorem byte_eq (c d : UInt8) : ((c.toNat : Int) == (d.toNat : Int)) = (c == d) := by
  rw [Bool.eq_iff_iff]; simp [UInt8.toNat_inj, Int.natCast_inj]

set_option maxHeartbeats 2000000 in
set_option maxRecDepth 100000 in
theorem unquote_any (l : List UInt8) (w : World) (hl : l.length ≤ 140737488355328) :
    Calls Tryz.prog 240 #[.string ⟨l.toArray⟩] w fun e w' => e = .returned (unqV (unqL l)) ∧ Below w.heap.size w w' := by
  have hB0 := Lib.fresh_isBuilder 188 5 w
  go_enter Tryz.func240, Tryz.ntmps240
  go_wp2_with fail
  go_loopw [6] (fun i wr => ∃ (k : Nat) (acc : List UInt8), k ≤ l.length ∧ acc.length ≤ k ∧ i = .int .i64 k ∧ Hid (unqAt l k acc) ∧ Lib.IsBuilder 188 5 w.heap.size w.heap.size (Lib.byteCells acc) wr ∧ Below w.heap.size w wr) (fun i wr => l.length - (intOf i).toNat)
  case atStart => exact ⟨0, [], Nat.zero_le _, Nat.zero_le _, rfl, unqAt_zero l, hB0, balloc _ _⟩
  case round =>
    obtain ⟨k, acc, hk, hacc, rfl, hat, hI, hbr⟩ := hrel
    have hsz := hbr.size
    clear hB0
    by_cases hlt : k < l.length
    · have hidx : ∀ h, (⟨l.toArray⟩ : ByteArray)[k]'h = l[k] := fun _ => rfl
      by_cases hq : l[k] = 34
      · have fin : Hid (unqV (unqL l) = .tuple #[.string ⟨acc.toArray⟩, .string ⟨(l.drop (k + 1)).toArray⟩, .bool true]) := by
          show _ = _; rw [unqAt_quote l k acc hat.out hlt hq]; rfl
        have hq' : ((l[k].toNat : Int) == 34) = true := by rw [hq]; rfl
        clear hq
        go_wp2_with fail
        have hwr : IntKind.i64.wrap ((k : Int) + 1) = (k : Int) + 1 := by rw [IntKind.wrap_i64]; omega
        have hb1 : (k : Int) + 1 ≤ (l.length : Int) := by omega
        go_region_with (first
          | (go_at_call 130; refine (Tryz.Builder_String_any w.heap.size w.heap.size acc wr.drew hI hsz).mono ?_; rintro e w2 ⟨rfl, hb2⟩))
        all_goals
          go_wp2
          go_ret3
          exact ⟨ret_val (by rw [fin.out, ← drop_extract]; rfl), hbr.trans (bdrewB hb2)⟩
      · have hq' : ((l[k].toNat : Int) == 34) = false := by
          have := byte_eq l[k] 34
          rw [show ((34 : UInt8).toNat : Int) = 34 from rfl] at this
          rw [this]; simpa using hq
        by_cases hm : l[k] = 92
        · have hm' : ((l[k].toNat : Int) == 92) = true := by rw [hm]; rfl
          by_cases he : k + 1 = l.length
          · have fin : Hid (unqV (unqL l) = .tuple #[.string ⟨#[]⟩, .string ⟨#[]⟩, .bool false]) := by
              show _ = _; rw [unqAt_cut l k acc hat.out hlt hm he]; rfl
            have he' : (((k : Int) + 1) == (l.length : Int)) = true := by rw [beq_iff_eq]; omega
            clear hq hm he
            go_wp2
            go_ret3
            exact ⟨ret_val fin.out.symm, hbr⟩
          · have he' : (((k : Int) + 1) == (l.length : Int)) = false := by rw [beq_eq_false_iff_ne]; omega
            have hlt1 : k + 1 < l.length := by omega
            have hidx1 : ∀ h, (⟨l.toArray⟩ : ByteArray)[k + 1]'h = l[k + 1] := fun _ => rfl
            cases hb : markB (l[k + 1].toNat : Int)
            · have fin : Hid (unqV (unqL l) = .tuple #[.string ⟨#[]⟩, .string ⟨#[]⟩, .bool false]) := by
                show _ = _; rw [unqAt_bad l k acc hat.out hlt1 hm hb]; rfl
              clear hq hm he
              go_wp2_with (first | (go_at_call 211; refine (isMarked_any _ _).mono ?_; rintro e w' ⟨rfl, rfl⟩))
              go_ret3
              exact ⟨ret_val fin.out.symm, hbr⟩
            · have hnext : Hid (unqAt l (k + 2) (acc ++ [l[k + 1]])) := unqAt_mark l k acc hat.out hlt1 hm hb
              clear hq hm he
              go_wp2_with (first | (go_at_call 211; refine (isMarked_any _ _).mono ?_; rintro e w' ⟨rfl, rfl⟩))
              refine (WriteByte_any w.heap.size w.heap.size _ _ _ hI (by simp [Lib.byteCells]; omega) hsz).mono ?_
              rintro e w2 ⟨rfl, hI2, hb2⟩
              rw [cells_snoc] at hI2
              go_wp2_with fail
              exact ⟨⟨k + 2, _, by omega, by simp; omega, by go_num, hnext, Or.inr hI2, hbr.trans hb2⟩, by simp [intOf]; omega⟩
        · have hm' : ((l[k].toNat : Int) == 92) = false := by
            have := byte_eq l[k] 92
            rw [show ((92 : UInt8).toNat : Int) = 92 from rfl] at this
            rw [this]; simpa using hm
          have hnext : Hid (unqAt l (k + 1) (acc ++ [l[k]])) := unqAt_plain l k acc hat.out hlt hq hm
          clear hq hm
          go_wp2_with fail
          refine (WriteByte_any w.heap.size w.heap.size _ _ _ hI (by simp [Lib.byteCells]; omega) hsz).mono ?_
          rintro e w2 ⟨rfl, hI2, hb2⟩
          rw [cells_snoc] at hI2
          go_wp2_with fail
          exact ⟨⟨k + 1, _, by omega, by simp; omega, by go_num, hnext, Or.inr hI2, hbr.trans hb2⟩, by simp [intOf]; omega⟩
    · have fin : Hid (unqV (unqL l) = .tuple #[.string ⟨#[]⟩, .string ⟨#[]⟩, .bool false]) := by
        show _ = _; rw [unqAt_end l k acc hat.out (by omega)]; rfl
      go_wp2
      go_ret3
      exact ⟨ret_val fin.out.symm, hbr⟩
end Go.Proofs.YtenakehnnmencagGreatDoor
