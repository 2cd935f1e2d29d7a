import Derived.Test.YtkfpkcilgaldpagMA0x0
import Derived.Lib.Bytealg
import Derived.Lib.Small
import Derived.Deep.RegionWith
import Derived.BigQuiet
import Derived.Deep.RegionHeld3
import Derived.Sort.Grow
import Derived.Deep.Draws
import Derived.Laws.StructEq
import Derived.Shelf.GgSortFunc.RowK
import Derived.Shelf.GgSortFunc.InsertionK
import Derived.Lib.SlicesCompact
import Derived.Deep.LoopGhost
import Derived.RegionTactic
import Derived.Sort.Statements
import Derived.Shelf.SlSortCmp.Insertion

/- Compare: by Kind, then S, then Lang. -/
namespace Go.Proofs.Ytkfpkcilgaldpag
open Go Go.RowKit Go.Proofs

def orI (x y z : Int) : Int := if x = 0 then (if y = 0 then z else y) else x
def cmpT (k : Int) (S L : List UInt8) (k' : Int) (S' L' : List UInt8) : Int := orI (Lib.compareInt k k') (Lib.compareBytes S S') (Lib.compareBytes L L')

theorem ret_int {k : IntKind} {a b : Int} (h : a = b) : Ending.returned (.int k a) = .returned (.int k b) := by rw [h]

set_option maxHeartbeats 1000000 in
theorem Or_any (b : Nat) (x y z : Int) (w : World) (h0 : w.cell? ⟨b, 0, none⟩ = some (.int .i64 x)) (h1 : w.cell? ⟨b, 1, none⟩ = some (.int .i64 y)) (h2 : w.cell? ⟨b, 2, none⟩ = some (.int .i64 z)) :
    Calls Try.prog 44 #[.slice (some ⟨b, 0, none⟩) 3 3] w fun e w' => e = .returned (.int .i64 (orI x y z)) ∧ w' = w := by
  have fin : Hid (orI x y z = if x = 0 then (if y = 0 then z else y) else x) := rfl
  go_enter Try.func44, Try.ntmps44
  go_wp2
  go_loop [8] (fun i => ∃ k : Int, 0 ≤ k ∧ k ≤ 3 ∧ i = .int .i64 k ∧ (0 < k → x = 0) ∧ (1 < k → y = 0) ∧ (2 < k → z = 0)) (fun i => (3 - intOf i).toNat)
  case atStart => exact ⟨0, by omega, by omega, rfl, by omega, by omega, by omega⟩
  case round =>
    obtain ⟨k, hk, hk', rfl, q0, q1, q2⟩ := hrel
    rcases (by omega : k = 0 ∨ k = 1 ∨ k = 2 ∨ k = 3) with rfl | rfl | rfl | rfl
    · clear hk hk' q0 q1 q2
      cases hx : (x != 0)
      · go_wp2
        simp at hx
        exact ⟨⟨1, by omega, by omega, by go_num, by omega, by omega, by omega⟩, by simp [intOf]⟩
      · go_wp2
        go_ret
        simp at hx
        exact ⟨ret_int (by rw [fin.out]; simp [hx]), rfl⟩
    · have hx : Hid (x = 0) := q0 (by omega)
      clear hk hk' q0 q1 q2
      cases hy : (y != 0)
      · go_wp2
        simp at hy
        exact ⟨⟨2, by omega, by omega, by go_num, fun _ => hx.out, by omega, by omega⟩, by simp [intOf]⟩
      · go_wp2
        go_ret
        simp at hy
        exact ⟨ret_int (by rw [fin.out]; simp [hx.out, hy]), rfl⟩
    · have hx : Hid (x = 0) := q0 (by omega)
      have hy : Hid (y = 0) := q1 (by omega)
      clear hk hk' q0 q1 q2
      cases hz : (z != 0)
      · go_wp2
        simp at hz
        exact ⟨⟨3, by omega, by omega, by go_num, fun _ => hx.out, fun _ => hy.out, by omega⟩, by simp [intOf]⟩
      · go_wp2
        go_ret
        exact ⟨ret_int (by rw [fin.out]; simp [hx.out, hy.out]), rfl⟩
    · have hx : Hid (x = 0) := q0 (by omega)
      have hy : Hid (y = 0) := q1 (by omega)
      have hz : Hid (z = 0) := q2 (by omega)
      clear hk hk' q0 q1 q2
      go_wp2
      go_ret
      exact ⟨ret_int (by rw [fin.out]; simp [hx.out, hy.out, hz.out]), rfl⟩

set_option maxHeartbeats 4000000 in
theorem Compare_any (k : Int) (S L : List UInt8) (k' : Int) (S' L' : List UInt8) (w : World) :
    Calls Try.prog 45 #[.agg #[.int .i64 k, .string ⟨S.toArray⟩, .string ⟨L.toArray⟩], .agg #[.int .i64 k', .string ⟨S'.toArray⟩, .string ⟨L'.toArray⟩]] w fun e w' => e = .returned (.int .i64 (cmpT k S L k' S' L')) ∧ Below w.heap.size w w' := by
  have fin : Hid (cmpT k S L k' S' L' = orI (Lib.compareInt k k') (Lib.compareBytes S S') (Lib.compareBytes L L')) := rfl
  go_enter Try.func45, Try.ntmps45
  go_wp2_with fail
  go_region_held3 (fun W => W.cell? ⟨w.heap.size, 0, none⟩ = some (.int .i64 k) ∧ W.cell? ⟨w.heap.size, 1, none⟩ = some (.string ⟨S.toArray⟩) ∧ W.cell? ⟨w.heap.size, 2, none⟩ = some (.string ⟨L.toArray⟩)
      ∧ W.cell? ⟨w.heap.size + 1, 0, none⟩ = some (.int .i64 k') ∧ W.cell? ⟨w.heap.size + 1, 1, none⟩ = some (.string ⟨S'.toArray⟩) ∧ W.cell? ⟨w.heap.size + 1, 2, none⟩ = some (.string ⟨L'.toArray⟩)) (go_keep) (first
    | (go_at_call 53; refine (Try.cmp_Compare_int k k' _).mono ?_; rintro e w3 ⟨rfl, rfl⟩)
    | (go_at_call_of 54 (Value.string ⟨S.toArray⟩); refine (Try.strings_Compare ⟨S.toArray⟩ ⟨S'.toArray⟩ _).mono ?_; rintro e w3 ⟨rfl, rfl⟩)
    | (go_at_call_of 54 (Value.string ⟨L.toArray⟩); refine (Try.strings_Compare ⟨L.toArray⟩ ⟨L'.toArray⟩ _).mono ?_; rintro e w3 ⟨rfl, rfl⟩)
    | (go_at_call 44; refine (Or_any (w.heap.size + 1 + 1) (Lib.compareInt k k') (Lib.compareBytes S S') (Lib.compareBytes L L') _ (by go_simp) (by go_simp) (by go_simp)).mono ?_; rintro e w3 ⟨rfl, rfl⟩))
  go_wp2
  go_ret
  exact ⟨rfl, ((bstep (bstep (balloc _ _) (balloc _ _)) (balloc _ _))).drew⟩
end Go.Proofs.Ytkfpkcilgaldpag

/- Worlds that have grown by blocks and draws alone; term.Compare and triple.Compare lay such. -/
namespace Go.Proofs.Ytkfpkcilgaldpag
open Go Go.RowKit Go.Proofs Go.Sort

/-- the world has grown: new blocks behind the heap, and draws; nothing else -/
def Grew (w w' : World) : Prop := ∃ q os, w' = grow (w.drewN q) os
theorem Grew.refl (w : World) : Grew w w := ⟨0, #[], by simp [grow, World.drewN]⟩
theorem Grew.trans {a b c : World} (h : Grew a b) (k : Grew b c) : Grew a c := by
  obtain ⟨q, os, rfl⟩ := h
  obtain ⟨q', os', rfl⟩ := k
  exact ⟨q + q', os ++ os', by simp [grow, World.drewN, Nat.add_assoc, Array.append_assoc]⟩
theorem grew_alloc (w : World) (o : Obj) : Grew w (w.alloc o) := ⟨0, #[o], by rw [alloc_eq_grow]; rfl⟩
theorem grew_drew (w : World) : Grew w w.drew := ⟨1, #[], by rw [grow_empty]; rfl⟩
theorem Grew.below {w w' : World} (h : Grew w w') : Below w.heap.size w w' := by
  obtain ⟨q, os, rfl⟩ := h
  exact ⟨rfl, rfl, rfl, by simp [grow, World.drewN], fun k hk => by simp [grow, World.drewN, Array.getElem?_append, hk]⟩
theorem Grew.drew {w w' : World} (h : Grew w w') : Grew w w'.drew := h.trans (grew_drew _)
theorem Grew.keep {W W' : World} (h : Grew W W') (p : Addr) (v : Value) (hv : W.cell? p = some v) : W'.cell? p = some v := (h.below.cell (World.block_lt_of_cell? W p hv)).trans hv

set_option maxHeartbeats 4000000 in
theorem Compare_grew (k : Int) (S L : List UInt8) (k' : Int) (S' L' : List UInt8) (w : World) :
    Calls Try.prog 45 #[.agg #[.int .i64 k, .string ⟨S.toArray⟩, .string ⟨L.toArray⟩], .agg #[.int .i64 k', .string ⟨S'.toArray⟩, .string ⟨L'.toArray⟩]] w fun e w' => e = .returned (.int .i64 (cmpT k S L k' S' L')) ∧ Grew w w' := by
  have fin : Hid (cmpT k S L k' S' L' = orI (Lib.compareInt k k') (Lib.compareBytes S S') (Lib.compareBytes L L')) := rfl
  go_enter Try.func45, Try.ntmps45
  go_wp2_with fail
  go_region_held3 (fun W => W.cell? ⟨w.heap.size, 0, none⟩ = some (.int .i64 k) ∧ W.cell? ⟨w.heap.size, 1, none⟩ = some (.string ⟨S.toArray⟩) ∧ W.cell? ⟨w.heap.size, 2, none⟩ = some (.string ⟨L.toArray⟩)
      ∧ W.cell? ⟨w.heap.size + 1, 0, none⟩ = some (.int .i64 k') ∧ W.cell? ⟨w.heap.size + 1, 1, none⟩ = some (.string ⟨S'.toArray⟩) ∧ W.cell? ⟨w.heap.size + 1, 2, none⟩ = some (.string ⟨L'.toArray⟩)) (go_keep) (first
    | (go_at_call 53; refine (Try.cmp_Compare_int k k' _).mono ?_; rintro e w3 ⟨rfl, rfl⟩)
    | (go_at_call_of 54 (Value.string ⟨S.toArray⟩); refine (Try.strings_Compare ⟨S.toArray⟩ ⟨S'.toArray⟩ _).mono ?_; rintro e w3 ⟨rfl, rfl⟩)
    | (go_at_call_of 54 (Value.string ⟨L.toArray⟩); refine (Try.strings_Compare ⟨L.toArray⟩ ⟨L'.toArray⟩ _).mono ?_; rintro e w3 ⟨rfl, rfl⟩)
    | (go_at_call 44; refine (Or_any (w.heap.size + 1 + 1) (Lib.compareInt k k') (Lib.compareBytes S S') (Lib.compareBytes L L') _ (by go_simp) (by go_simp) (by go_simp)).mono ?_; rintro e w3 ⟨rfl, rfl⟩))
  go_wp2
  go_ret
  exact ⟨rfl, (((grew_alloc _ _).trans (grew_alloc _ _)).trans (grew_alloc _ _)).drew⟩

/-- eighteen cells, behind a call that lays blocks and draws -/
theorem keep18 {W W' : World} {p0 p1 p2 p3 p4 p5 p6 p7 p8 p9 p10 p11 p12 p13 p14 p15 p16 p17 : Addr} {v0 v1 v2 v3 v4 v5 v6 v7 v8 v9 v10 v11 v12 v13 v14 v15 v16 v17 : Value}
    (h : W.cell? p0 = some v0 ∧ W.cell? p1 = some v1 ∧ W.cell? p2 = some v2 ∧ W.cell? p3 = some v3 ∧ W.cell? p4 = some v4 ∧ W.cell? p5 = some v5 ∧ W.cell? p6 = some v6 ∧ W.cell? p7 = some v7 ∧ W.cell? p8 = some v8 ∧ W.cell? p9 = some v9 ∧ W.cell? p10 = some v10 ∧ W.cell? p11 = some v11 ∧ W.cell? p12 = some v12 ∧ W.cell? p13 = some v13 ∧ W.cell? p14 = some v14 ∧ W.cell? p15 = some v15 ∧ W.cell? p16 = some v16 ∧ W.cell? p17 = some v17) (hb : Grew W W') : W'.cell? p0 = some v0 ∧ W'.cell? p1 = some v1 ∧ W'.cell? p2 = some v2 ∧ W'.cell? p3 = some v3 ∧ W'.cell? p4 = some v4 ∧ W'.cell? p5 = some v5 ∧ W'.cell? p6 = some v6 ∧ W'.cell? p7 = some v7 ∧ W'.cell? p8 = some v8 ∧ W'.cell? p9 = some v9 ∧ W'.cell? p10 = some v10 ∧ W'.cell? p11 = some v11 ∧ W'.cell? p12 = some v12 ∧ W'.cell? p13 = some v13 ∧ W'.cell? p14 = some v14 ∧ W'.cell? p15 = some v15 ∧ W'.cell? p16 = some v16 ∧ W'.cell? p17 = some v17 := by
  have q := hb.keep
  obtain ⟨h0, h1, h2, h3, h4, h5, h6, h7, h8, h9, h10, h11, h12, h13, h14, h15, h16, h17⟩ := h
  exact ⟨q _ _ h0, q _ _ h1, q _ _ h2, q _ _ h3, q _ _ h4, q _ _ h5, q _ _ h6, q _ _ h7, q _ _ h8, q _ _ h9, q _ _ h10, q _ _ h11, q _ _ h12, q _ _ h13, q _ _ h14, q _ _ h15, q _ _ h16, q _ _ h17⟩

set_option maxHeartbeats 8000000 in
set_option maxRecDepth 100000 in
theorem TCompare_grew (xk1 : Int) (xS1 xL1 : List UInt8) (xk2 : Int) (xS2 xL2 : List UInt8) (xk3 : Int) (xS3 xL3 : List UInt8) (yk1 : Int) (yS1 yL1 : List UInt8) (yk2 : Int) (yS2 yL2 : List UInt8) (yk3 : Int) (yS3 yL3 : List UInt8) (w : World) :
    Calls Try.prog 35 #[.agg #[.int .i64 xk1, .string ⟨xS1.toArray⟩, .string ⟨xL1.toArray⟩, .int .i64 xk2, .string ⟨xS2.toArray⟩, .string ⟨xL2.toArray⟩, .int .i64 xk3, .string ⟨xS3.toArray⟩, .string ⟨xL3.toArray⟩], .agg #[.int .i64 yk1, .string ⟨yS1.toArray⟩, .string ⟨yL1.toArray⟩, .int .i64 yk2, .string ⟨yS2.toArray⟩, .string ⟨yL2.toArray⟩, .int .i64 yk3, .string ⟨yS3.toArray⟩, .string ⟨yL3.toArray⟩]] w
      fun e w' => e = .returned (.int .i64 (orI (cmpT xk1 xS1 xL1 yk1 yS1 yL1) (cmpT xk2 xS2 xL2 yk2 yS2 yL2) (cmpT xk3 xS3 xL3 yk3 yS3 yL3))) ∧ Grew w w' := by
  have H1 := fun W => Compare_grew xk1 xS1 xL1 yk1 yS1 yL1 W
  have H2 := fun W => Compare_grew xk2 xS2 xL2 yk2 yS2 yL2 W
  have H3 := fun W => Compare_grew xk3 xS3 xL3 yk3 yS3 yL3 W
  generalize cmpT xk1 xS1 xL1 yk1 yS1 yL1 = c1 at H1 ⊢
  generalize cmpT xk2 xS2 xL2 yk2 yS2 yL2 = c2 at H2 ⊢
  generalize cmpT xk3 xS3 xL3 yk3 yS3 yL3 = c3 at H3 ⊢
  go_enter Try.func35, Try.ntmps35
  go_wp2_with fail
  go_region_held3 (fun W => W.cell? ⟨w.heap.size, 0, none⟩ = some (.int .i64 xk1) ∧ W.cell? ⟨w.heap.size, 1, none⟩ = some (.string ⟨xS1.toArray⟩) ∧ W.cell? ⟨w.heap.size, 2, none⟩ = some (.string ⟨xL1.toArray⟩) ∧ W.cell? ⟨w.heap.size, 3, none⟩ = some (.int .i64 xk2) ∧ W.cell? ⟨w.heap.size, 4, none⟩ = some (.string ⟨xS2.toArray⟩) ∧ W.cell? ⟨w.heap.size, 5, none⟩ = some (.string ⟨xL2.toArray⟩) ∧ W.cell? ⟨w.heap.size, 6, none⟩ = some (.int .i64 xk3) ∧ W.cell? ⟨w.heap.size, 7, none⟩ = some (.string ⟨xS3.toArray⟩) ∧ W.cell? ⟨w.heap.size, 8, none⟩ = some (.string ⟨xL3.toArray⟩) ∧ W.cell? ⟨w.heap.size + 1, 0, none⟩ = some (.int .i64 yk1) ∧ W.cell? ⟨w.heap.size + 1, 1, none⟩ = some (.string ⟨yS1.toArray⟩) ∧ W.cell? ⟨w.heap.size + 1, 2, none⟩ = some (.string ⟨yL1.toArray⟩) ∧ W.cell? ⟨w.heap.size + 1, 3, none⟩ = some (.int .i64 yk2) ∧ W.cell? ⟨w.heap.size + 1, 4, none⟩ = some (.string ⟨yS2.toArray⟩) ∧ W.cell? ⟨w.heap.size + 1, 5, none⟩ = some (.string ⟨yL2.toArray⟩) ∧ W.cell? ⟨w.heap.size + 1, 6, none⟩ = some (.int .i64 yk3) ∧ W.cell? ⟨w.heap.size + 1, 7, none⟩ = some (.string ⟨yS3.toArray⟩) ∧ W.cell? ⟨w.heap.size + 1, 8, none⟩ = some (.string ⟨yL3.toArray⟩)) (first | exact keep18 (by assumption) hb1 | exact keep18 (by assumption) hb2 | exact keep18 (by assumption) hb3 | go_keep) (first
    | (go_at_call_of 45 (Value.agg #[.int .i64 xk1, .string ⟨xS1.toArray⟩, .string ⟨xL1.toArray⟩]); refine (H1 _).mono ?_; rintro e w1 ⟨rfl, hb1⟩)
    | (go_at_call_of 45 (Value.agg #[.int .i64 xk2, .string ⟨xS2.toArray⟩, .string ⟨xL2.toArray⟩]); refine (H2 _).mono ?_; rintro e w2 ⟨rfl, hb2⟩)
    | (go_at_call_of 45 (Value.agg #[.int .i64 xk3, .string ⟨xS3.toArray⟩, .string ⟨xL3.toArray⟩]); refine (H3 _).mono ?_; rintro e w3 ⟨rfl, hb3⟩)
    | (go_at_call 44; refine (Or_any _ c1 c2 c3 _ (by go_simp) (by go_simp) (by go_simp)).mono ?_; rintro e w4 ⟨rfl, rfl⟩))
  go_wp2
  go_ret
  exact ⟨rfl, (((((grew_alloc _ _).trans (grew_alloc _ _)).drew.trans hb1).trans hb2).trans hb3).trans (grew_alloc _ _)⟩
end Go.Proofs.Ytkfpkcilgaldpag

/- Triples as plain data; a row of them in memory; one that is read at a place. -/
namespace Go.Proofs.Ytkfpkcilgaldpag
open Go Go.RowKit Go.Proofs

/-- a term: its kind, its text, its language; a triple: three terms -/
abbrev Tm := Int × List UInt8 × List UInt8
abbrev Tr := Tm × Tm × Tm

/-- a triple's nine cells -/
def encTr (x : Tr) : List Value := [.int .i64 x.1.1, .string ⟨x.1.2.1.toArray⟩, .string ⟨x.1.2.2.toArray⟩, .int .i64 x.2.1.1, .string ⟨x.2.1.2.1.toArray⟩, .string ⟨x.2.1.2.2.toArray⟩, .int .i64 x.2.2.1, .string ⟨x.2.2.2.1.toArray⟩, .string ⟨x.2.2.2.2.toArray⟩]
def cellsT (l : List Tr) : List Value := l.flatMap encTr
theorem encTr_len (x : Tr) : (encTr x).length = 9 := rfl
theorem encTr_one (x : Tr) : ∀ v ∈ encTr x, v.oneCell' = true := by
  intro v hv
  simp [encTr] at hv
  rcases hv with rfl | rfl | rfl | rfl | rfl | rfl | rfl | rfl | rfl <;> rfl
theorem cellsT_len (l : List Tr) : (cellsT l).length = l.length * 9 := by
  induction l with
  | nil => rfl
  | cons x r ih => simp only [cellsT, List.flatMap_cons, List.length_append, List.length_cons] at *; rw [ih, encTr_len]; omega
theorem cellsT_one (l : List Tr) : ∀ v ∈ cellsT l, v.oneCell' = true := by
  intro v hv
  simp only [cellsT, List.mem_flatMap] at hv
  obtain ⟨x, _, hx⟩ := hv
  exact encTr_one x v hx
theorem cellsT_at (l : List Tr) (i : Nat) (h : i < l.length) (j : Nat) (hj : j < 9) : (cellsT l)[i * 9 + j]? = (encTr l[i])[j]? := by
  induction l generalizing i with
  | nil => simp at h
  | cons x r ih =>
    simp only [cellsT, List.flatMap_cons] at *
    cases i with
    | zero => rw [List.getElem?_append_left (by rw [encTr_len]; omega)]; simp
    | succ n =>
      rw [List.getElem?_append_right (by rw [encTr_len]; omega), encTr_len, show (n + 1) * 9 + j - 9 = n * 9 + j by omega, ih n (by simpa using h)]
      simp

/-- the row of cells at a place is these triples' -/
def RowR (w : World) (b o : Nat) (l : List Tr) : Prop := ∀ j v, (cellsT l)[j]? = some v → w.cell? ⟨b, o + j, none⟩ = some v

theorem RowR.below {w w' : World} {b o : Nat} {l : List Tr} (h : RowR w b o l) (hb : Below w.heap.size w w') : RowR w' b o l := fun j v hv =>
  (hb.cell (World.block_lt_of_cell? w _ (h j v hv))).trans (h j v hv)

theorem RowR.at {w : World} {b o : Nat} {l : List Tr} (h : RowR w b o l) (i : Nat) (hi : i < l.length) :
    w.cell? ⟨b, o + i * 9, none⟩ = some (.int .i64 l[i].1.1) ∧ w.cell? ⟨b, o + i * 9 + 1, none⟩ = some (.string ⟨l[i].1.2.1.toArray⟩) ∧ w.cell? ⟨b, o + i * 9 + 2, none⟩ = some (.string ⟨l[i].1.2.2.toArray⟩)
    ∧ w.cell? ⟨b, o + i * 9 + 3, none⟩ = some (.int .i64 l[i].2.1.1) ∧ w.cell? ⟨b, o + i * 9 + 4, none⟩ = some (.string ⟨l[i].2.1.2.1.toArray⟩) ∧ w.cell? ⟨b, o + i * 9 + 5, none⟩ = some (.string ⟨l[i].2.1.2.2.toArray⟩)
    ∧ w.cell? ⟨b, o + i * 9 + 6, none⟩ = some (.int .i64 l[i].2.2.1) ∧ w.cell? ⟨b, o + i * 9 + 7, none⟩ = some (.string ⟨l[i].2.2.2.1.toArray⟩) ∧ w.cell? ⟨b, o + i * 9 + 8, none⟩ = some (.string ⟨l[i].2.2.2.2.toArray⟩) := by
  have q : ∀ j v, j < 9 → (encTr l[i])[j]? = some v → w.cell? ⟨b, o + i * 9 + j, none⟩ = some v := fun j v hj hv => by
    rw [Nat.add_assoc]; exact h _ v (by rw [cellsT_at l i hi j hj]; exact hv)
  exact ⟨q 0 _ (by omega) rfl, q 1 _ (by omega) rfl, q 2 _ (by omega) rfl, q 3 _ (by omega) rfl, q 4 _ (by omega) rfl, q 5 _ (by omega) rfl, q 6 _ (by omega) rfl, q 7 _ (by omega) rfl, q 8 _ (by omega) rfl⟩

/-- what is wrong with a triple; which of two is ahead; its texts are no longer than a text may be -/
def chkTr (x : Tr) : Int := check3 (checkN x.1.1 x.1.2.1 x.1.2.2) (checkN x.2.1.1 x.2.1.2.1 x.2.1.2.2) (checkN x.2.2.1 x.2.2.2.1 x.2.2.2.2) x.1.1 x.2.1.1
def cmpTm (x y : Tm) : Int := cmpT x.1 x.2.1 x.2.2 y.1 y.2.1 y.2.2
def cmpTr (x y : Tr) : Int := orI (cmpTm x.1 y.1) (cmpTm x.2.1 y.2.1) (cmpTm x.2.2 y.2.2)
def fitTr (x : Tr) : Prop := (x.1.2.1.length ≤ maxLen ∧ x.1.2.2.length ≤ maxLen) ∧ (x.2.1.2.1.length ≤ maxLen ∧ x.2.1.2.2.length ≤ maxLen) ∧ (x.2.2.2.1.length ≤ maxLen ∧ x.2.2.2.2.length ≤ maxLen)
def valTr (x : Tr) : Value := .agg #[.int .i64 x.1.1, .string ⟨x.1.2.1.toArray⟩, .string ⟨x.1.2.2.toArray⟩, .int .i64 x.2.1.1, .string ⟨x.2.1.2.1.toArray⟩, .string ⟨x.2.1.2.2.toArray⟩, .int .i64 x.2.2.1, .string ⟨x.2.2.2.1.toArray⟩, .string ⟨x.2.2.2.2.toArray⟩]

theorem ChkTr_any (x : Tr) (w : World) (hx : fitTr x) : Calls Try.prog 13 #[valTr x] w fun e w' => e = .returned (errV (chkTr x)) ∧ Below w.heap.size w w' :=
  TCheck_any _ _ _ _ _ _ _ _ _ w hx.1.1 hx.1.2 hx.2.1.1 hx.2.1.2 hx.2.2.1 hx.2.2.2
theorem CmpTr_any (x y : Tr) (w : World) : Calls Try.prog 35 #[valTr x, valTr y] w fun e w' => e = .returned (.int .i64 (cmpTr x y)) ∧ Grew w w' :=
  TCompare_grew _ _ _ _ _ _ _ _ _ _ _ _ _ _ _ _ _ _ w

theorem chk_zero {x : Tr} (h : chkTr x = 0) : checkN x.1.1 x.1.2.1 x.1.2.2 = 0 ∧ checkN x.2.1.1 x.2.1.2.1 x.2.1.2.2 = 0 ∧ checkN x.2.2.1 x.2.2.2.1 x.2.2.2.2 = 0 ∧ shapeB x.1.1 x.2.1.1 = false := by
  unfold chkTr check3 at h
  by_cases h1 : checkN x.1.1 x.1.2.1 x.1.2.2 = 0
  · rw [if_pos h1] at h
    by_cases h2 : checkN x.2.1.1 x.2.1.2.1 x.2.1.2.2 = 0
    · rw [if_pos h2] at h
      by_cases h3 : checkN x.2.2.1 x.2.2.2.1 x.2.2.2.2 = 0
      · rw [if_pos h3] at h
        cases h4 : shapeB x.1.1 x.2.1.1
        · exact ⟨h1, h2, h3, rfl⟩
        · rw [h4] at h; simp at h
      · rw [if_neg h3] at h; exact absurd h h3
    · rw [if_neg h2] at h; exact absurd h h2
  · rw [if_neg h1] at h; exact absurd h h1

end Go.Proofs.Ytkfpkcilgaldpag

/- Terms are in one order: plain lists, no program. -/
namespace Go.Proofs.Ytkfpkcilgaldpag
open Go Go.RowKit Go.Proofs

/-! ### one order -/
theorem cb_zero (a : List UInt8) : ∀ b, Lib.compareBytes a b = 0 ↔ a = b := by
  induction a with
  | nil => intro b; cases b <;> simp [Lib.compareBytes]
  | cons x xs ih =>
    intro b
    cases b with
    | nil => simp [Lib.compareBytes]
    | cons y ys =>
      by_cases h1 : x < y
      · simp [Lib.compareBytes, h1]; intro h; subst h; exact absurd h1 (by simp)
      · by_cases h2 : y < x
        · simp [Lib.compareBytes, h1, h2]; intro h; subst h; exact absurd h2 (by simp)
        · have : x = y := UInt8.le_antisymm (UInt8.not_lt.1 h2) (UInt8.not_lt.1 h1)
          subst this
          simp [Lib.compareBytes, ih]

theorem cb_neg (a : List UInt8) : ∀ b, Lib.compareBytes b a = - Lib.compareBytes a b := by
  induction a with
  | nil => intro b; cases b <;> simp [Lib.compareBytes]
  | cons x xs ih =>
    intro b
    cases b with
    | nil => simp [Lib.compareBytes]
    | cons y ys =>
      by_cases h1 : x < y
      · have h3 : ¬ y < x := fun h => by have := UInt8.lt_iff_toNat_lt.1 h; have := UInt8.lt_iff_toNat_lt.1 h1; omega
        simp [Lib.compareBytes, h1, h3]
      · by_cases h2 : y < x
        · simp [Lib.compareBytes, h1, h2]
        · simp [Lib.compareBytes, h1, h2, ih]

theorem cb_trans (a : List UInt8) : ∀ b c, Lib.compareBytes a b ≤ 0 → Lib.compareBytes b c ≤ 0 → Lib.compareBytes a c ≤ 0 := by
  induction a with
  | nil => intro b c _ _; cases c <;> simp [Lib.compareBytes]
  | cons x xs ih =>
    intro b c h1 h2
    cases b with
    | nil => simp [Lib.compareBytes] at h1
    | cons y ys =>
      cases c with
      | nil => simp [Lib.compareBytes] at h2
      | cons z zs =>
        by_cases a1 : x < y
        · by_cases a2 : y < z
          · have : x < z := UInt8.lt_iff_toNat_lt.2 (by have := UInt8.lt_iff_toNat_lt.1 a1; have := UInt8.lt_iff_toNat_lt.1 a2; omega)
            simp [Lib.compareBytes, this]
          · by_cases a3 : z < y
            · simp [Lib.compareBytes, a2, a3] at h2
            · have : y = z := UInt8.le_antisymm (UInt8.not_lt.1 a3) (UInt8.not_lt.1 a2)
              subst this
              simp [Lib.compareBytes, a1]
        · by_cases a0 : y < x
          · simp [Lib.compareBytes, a1, a0] at h1
          · have : x = y := UInt8.le_antisymm (UInt8.not_lt.1 a0) (UInt8.not_lt.1 a1)
            subst this
            by_cases a2 : x < z
            · simp [Lib.compareBytes, a2]
            · by_cases a3 : z < x
              · simp [Lib.compareBytes, a2, a3] at h2
              · simp only [Lib.compareBytes, a1, a2, a3, if_false] at h1 h2 ⊢
                exact ih ys zs h1 h2

theorem ci_zero (a b : Int) : Lib.compareInt a b = 0 ↔ a = b := by
  unfold Lib.compareInt; split
  · omega
  · split <;> omega
theorem ci_neg (a b : Int) : Lib.compareInt b a = - Lib.compareInt a b := by
  unfold Lib.compareInt
  repeat' split
  all_goals omega
theorem ci_trans (a b c : Int) (h1 : Lib.compareInt a b ≤ 0) (h2 : Lib.compareInt b c ≤ 0) : Lib.compareInt a c ≤ 0 := by
  unfold Lib.compareInt at *
  repeat' split
  all_goals (repeat' split at h1)
  all_goals (repeat' split at h2)
  all_goals omega

theorem cmpT_zero (k : Int) (S L : List UInt8) (k' : Int) (S' L' : List UInt8) : cmpT k S L k' S' L' = 0 ↔ k = k' ∧ S = S' ∧ L = L' := by
  have h1 := ci_zero k k'
  have h2 := cb_zero S S'
  have h3 := cb_zero L L'
  unfold cmpT orI
  by_cases q1 : Lib.compareInt k k' = 0
  · rw [if_pos q1]
    by_cases q2 : Lib.compareBytes S S' = 0
    · rw [if_pos q2]
      exact ⟨fun h => ⟨h1.1 q1, h2.1 q2, h3.1 h⟩, fun h => h3.2 h.2.2⟩
    · rw [if_neg q2]
      exact ⟨fun h => absurd h q2, fun h => absurd (h2.2 h.2.1) q2⟩
  · rw [if_neg q1]
    exact ⟨fun h => absurd h q1, fun h => absurd (h1.2 h.1) q1⟩

theorem cmpT_neg (k : Int) (S L : List UInt8) (k' : Int) (S' L' : List UInt8) : cmpT k S L k' S' L' = - cmpT k' S' L' k S L := by
  unfold cmpT orI
  rw [ci_neg k k', cb_neg S S', cb_neg L L']
  repeat' split
  all_goals omega

theorem orI_le (x y z : Int) : orI x y z ≤ 0 ↔ x < 0 ∨ (x = 0 ∧ (y < 0 ∨ (y = 0 ∧ z ≤ 0))) := by
  unfold orI
  by_cases h : x = 0
  · by_cases h' : y = 0
    · simp [h, h']
    · rw [if_pos h, if_neg h']; omega
  · rw [if_neg h]; omega

theorem cmpT_trans (k1 : Int) (S1 L1 : List UInt8) (k2 : Int) (S2 L2 : List UInt8) (k3 : Int) (S3 L3 : List UInt8)
    (h12 : cmpT k1 S1 L1 k2 S2 L2 ≤ 0) (h23 : cmpT k2 S2 L2 k3 S3 L3 ≤ 0) : cmpT k1 S1 L1 k3 S3 L3 ≤ 0 := by
  have a1 := ci_trans k1 k2 k3
  have a2 := cb_trans S1 S2 S3
  have a3 := cb_trans L1 L2 L3
  have b1 : Lib.compareInt k1 k3 = 0 → Lib.compareInt k2 k3 = - Lib.compareInt k1 k2 := fun h => by
    have := (ci_zero _ _).1 h; subst this; exact ci_neg _ _
  have b2 : Lib.compareBytes S1 S3 = 0 → Lib.compareBytes S2 S3 = - Lib.compareBytes S1 S2 := fun h => by
    have := (cb_zero _ _).1 h; subst this; exact cb_neg _ _
  have c1 : Lib.compareInt k1 k2 = 0 → Lib.compareInt k1 k3 = Lib.compareInt k2 k3 := fun h => by
    have := (ci_zero _ _).1 h; subst this; rfl
  have c2 : Lib.compareBytes S1 S2 = 0 → Lib.compareBytes S1 S3 = Lib.compareBytes S2 S3 := fun h => by
    have := (cb_zero _ _).1 h; subst this; rfl
  unfold cmpT at *
  rw [orI_le] at *
  generalize Lib.compareInt k1 k2 = x12 at *
  generalize Lib.compareInt k2 k3 = x23 at *
  generalize Lib.compareInt k1 k3 = x13 at *
  generalize Lib.compareBytes S1 S2 = y12 at *
  generalize Lib.compareBytes S2 S3 = y23 at *
  generalize Lib.compareBytes S1 S3 = y13 at *
  generalize Lib.compareBytes L1 L2 = z12 at *
  generalize Lib.compareBytes L2 L3 = z23 at *
  generalize Lib.compareBytes L1 L3 = z13 at *
  omega
end Go.Proofs.Ytkfpkcilgaldpag

/- '==' on two terms; which of two is ahead, in numbers. -/
namespace Go.Proofs.Ytkfpkcilgaldpag
open Go Go.RowKit Go.Proofs

def eqTB (k : Int) (S L : List UInt8) (k' : Int) (S' L' : List UInt8) : Bool := k == k' && (S == S' && L == L')

theorem eqTB_iff (k : Int) (S L : List UInt8) (k' : Int) (S' L' : List UInt8) : eqTB k S L k' S' L' = true ↔ k = k' ∧ S = S' ∧ L = L' := by simp [eqTB]

theorem toList_mk (l : List UInt8) : (⟨l.toArray⟩ : ByteArray).toList = l := by rw [ByteArray.toList_eq]

theorem equalTerm (k : Int) (S L : List UInt8) (k' : Int) (S' L' : List UInt8) (w : World) :
    (Op.equalIn 10000 30 (.agg #[.int .i64 k, .string ⟨S.toArray⟩, .string ⟨L.toArray⟩]) (.agg #[.int .i64 k', .string ⟨S'.toArray⟩, .string ⟨L'.toArray⟩])).run Try.prog w = .ok (eqTB k S L k' S' L') w := by
  have hS : Try.prog.underlying 30 = some (.struct (Try.prog.fieldsOf 30)) := by kernel_rfl
  rw [show (10000 : Nat) = 9999 + 1 from rfl, run_equalIn_agg w 9999 30 _ _ hS (by kernel_rfl)]
  simp only [Program.fieldsOf, Try.underlying30]
  go_simp
  unfold eqTB
  by_cases h1 : k = k' <;> by_cases h2 : S = S' <;> by_cases h3 : L = L' <;> simp [h1, h2, h3]

theorem cb_range (a : List UInt8) : ∀ b, -1 ≤ Lib.compareBytes a b ∧ Lib.compareBytes a b ≤ 1 := by
  induction a with
  | nil => intro b; cases b <;> simp [Lib.compareBytes]
  | cons x xs ih =>
    intro b
    cases b with
    | nil => simp [Lib.compareBytes]
    | cons y ys =>
      by_cases h1 : x < y
      · simp [Lib.compareBytes, h1]
      · by_cases h2 : y < x
        · simp [Lib.compareBytes, h1, h2]
        · simp only [Lib.compareBytes, h1, h2, if_false]; exact ih ys
theorem ci_range (a b : Int) : -1 ≤ Lib.compareInt a b ∧ Lib.compareInt a b ≤ 1 := by
  unfold Lib.compareInt
  repeat' split
  all_goals omega
theorem cmpT_range (k : Int) (S L : List UInt8) (k' : Int) (S' L' : List UInt8) : -1 ≤ cmpT k S L k' S' L' ∧ cmpT k S L k' S' L' ≤ 1 := by
  have h1 := ci_range k k'
  have h2 := cb_range S S'
  have h3 := cb_range L L'
  unfold cmpT orI
  repeat' split
  all_goals omega
theorem cmp_eq (k : Int) (S L : List UInt8) (k' : Int) (S' L' : List UInt8) : (cmpT k S L k' S' L' == 0) = eqTB k S L k' S' L' := by
  rw [Bool.eq_iff_iff, eqTB_iff, beq_iff_eq, cmpT_zero]
theorem cmp_neg_beq (k : Int) (S L : List UInt8) (k' : Int) (S' L' : List UInt8) : (cmpT k S L k' S' L' == - cmpT k' S' L' k S L) = true := by
  rw [beq_iff_eq]; exact cmpT_neg k S L k' S' L'
theorem cmp_tri (k1 : Int) (S1 L1 : List UInt8) (k2 : Int) (S2 L2 : List UInt8) (k3 : Int) (S3 L3 : List UInt8) :
    (0 < cmpT k1 S1 L1 k2 S2 L2) ∨ (¬ 0 < cmpT k1 S1 L1 k2 S2 L2 ∧ 0 < cmpT k2 S2 L2 k3 S3 L3) ∨ (¬ 0 < cmpT k1 S1 L1 k2 S2 L2 ∧ ¬ 0 < cmpT k2 S2 L2 k3 S3 L3 ∧ cmpT k1 S1 L1 k3 S3 L3 ≤ 0) := by
  have := cmpT_trans k1 S1 L1 k2 S2 L2 k3 S3 L3
  omega

end Go.Proofs.Ytkfpkcilgaldpag

/- triple.Print: the three, a blank between. -/
namespace Go.Proofs.Ytkfpkcilgaldpag
open Go Go.RowKit Go.Proofs
set_option synthInstance.maxSize 1000

attribute [local go_sem] eql_errV neq_errV guard_errV

theorem show_short (k : Int) (S L : List UInt8) (h : checkN k S L = 0) : (showL k S L).length ≤ 1000 := by
  obtain ⟨_, hS, hsp⟩ := check_zero h
  have hL := spell_lang hsp
  have h1 := quoteL_len S
  have h2 := markL_len L
  unfold showL
  repeat' split
  all_goals (simp; try omega)

theorem mk3 (w : World) : (Instr.makeSlice 58 (.int .i64 3) (.int .i64 3)).run Try.prog w = .ok (.slice (some ⟨w.heap.size, 0, none⟩) 3 3) (w.alloc (.cells #[.string ⟨#[]⟩, .string ⟨#[]⟩, .string ⟨#[]⟩] 9)) := by kernel_rfl
attribute [local go_sem] mk3

set_option maxHeartbeats 4000000 in
set_option maxRecDepth 100000 in
theorem printTerms_any (c : Nat) (k1 : Int) (S1 L1 : List UInt8) (k2 : Int) (S2 L2 : List UInt8) (k3 : Int) (S3 L3 : List UInt8) (w : World) (h1 : checkN k1 S1 L1 = 0) (h2 : checkN k2 S2 L2 = 0) (h3 : checkN k3 S3 L3 = 0)
    (a0 : w.cell? ⟨c, 0, none⟩ = some (.int .i64 k1)) (a1 : w.cell? ⟨c, 1, none⟩ = some (.string ⟨S1.toArray⟩)) (a2 : w.cell? ⟨c, 2, none⟩ = some (.string ⟨L1.toArray⟩))
    (b0 : w.cell? ⟨c, 3, none⟩ = some (.int .i64 k2)) (b1 : w.cell? ⟨c, 4, none⟩ = some (.string ⟨S2.toArray⟩)) (b2 : w.cell? ⟨c, 5, none⟩ = some (.string ⟨L2.toArray⟩))
    (d0 : w.cell? ⟨c, 6, none⟩ = some (.int .i64 k3)) (d1 : w.cell? ⟨c, 7, none⟩ = some (.string ⟨S3.toArray⟩)) (d2 : w.cell? ⟨c, 8, none⟩ = some (.string ⟨L3.toArray⟩)) :
    Calls Try.prog 14 #[.slice (some ⟨c, 0, none⟩) 3 3] w fun e w' => e = .returned (.tuple #[.string ⟨(joinUpto (showL k1 S1 L1) (showL k2 S2 L2) (showL k3 S3 L3) 2).toArray⟩, .nilIface]) ∧ Below w.heap.size w w' := by
  have P1 := fun W => Print_good k1 S1 L1 W h1
  have P2 := fun W => Print_good k2 S2 L2 W h2
  have P3 := fun W => Print_good k3 S3 L3 W h3
  have l1 := show_short k1 S1 L1 h1
  have l2 := show_short k2 S2 L2 h2
  have l3 := show_short k3 S3 L3 h3
  generalize showL k1 S1 L1 = x at P1 l1 ⊢
  generalize showL k2 S2 L2 = y at P2 l2 ⊢
  generalize showL k3 S3 L3 = z at P3 l3 ⊢
  have KC : Hid (∀ W, Below w.heap.size w W → (W.cell? ⟨c, 0, none⟩ = some (.int .i64 k1) ∧ W.cell? ⟨c, 1, none⟩ = some (.string ⟨S1.toArray⟩) ∧ W.cell? ⟨c, 2, none⟩ = some (.string ⟨L1.toArray⟩) ∧ W.cell? ⟨c, 3, none⟩ = some (.int .i64 k2) ∧ W.cell? ⟨c, 4, none⟩ = some (.string ⟨S2.toArray⟩) ∧ W.cell? ⟨c, 5, none⟩ = some (.string ⟨L2.toArray⟩) ∧ W.cell? ⟨c, 6, none⟩ = some (.int .i64 k3) ∧ W.cell? ⟨c, 7, none⟩ = some (.string ⟨S3.toArray⟩) ∧ W.cell? ⟨c, 8, none⟩ = some (.string ⟨L3.toArray⟩)) ∧ c < w.heap.size) := by
    intro W hb
    have q : ∀ (p : Addr) (v : Value), w.cell? p = some v → W.cell? p = some v := fun p v hv => (hb.cell (World.block_lt_of_cell? w p hv)).trans hv
    exact ⟨⟨q _ _ a0, q _ _ a1, q _ _ a2, q _ _ b0, q _ _ b1, q _ _ b2, q _ _ d0, q _ _ d1, q _ _ d2⟩, World.block_lt_of_cell? w _ a0⟩
  clear a0 a1 a2 b0 b1 b2 d0 d1 d2 h1 h2 h3
  go_enter Try.func14, Try.ntmps14
  go_wp2_with fail
  go_loopw [14] (fun i wr => ∃ k : Nat, k ≤ 3 ∧ i = .int .i64 k ∧ wr.cell? ⟨w.heap.size, 0, none⟩ = some (.string ⟨(if 0 < k then x else []).toArray⟩) ∧ wr.cell? ⟨w.heap.size, 1, none⟩ = some (.string ⟨(if 1 < k then y else []).toArray⟩) ∧ wr.cell? ⟨w.heap.size, 2, none⟩ = some (.string ⟨(if 2 < k then z else []).toArray⟩)
      ∧ wr.frozen? ⟨w.heap.size, 0, none⟩ = false ∧ wr.frozen? ⟨w.heap.size, 1, none⟩ = false ∧ wr.frozen? ⟨w.heap.size, 2, none⟩ = false ∧ w.heap.size < wr.heap.size ∧ Below w.heap.size w wr) (fun i wr => 3 - (intOf i).toNat)
  case atStart => exact ⟨0, by omega, rfl, by go_simp, by go_simp, by go_simp, by go_simp, by go_simp, by go_simp, by simp, balloc _ _⟩
  case round =>
    obtain ⟨k, hk, rfl, e0, e1, e2, f0, f1, f2, hz, hbr⟩ := hrel
    obtain ⟨⟨a0, a1, a2, b0, b1, b2, d0, d1, d2⟩, hc⟩ := KC.out wr hbr
    have hne : c ≠ w.heap.size := by omega
    rcases (by omega : k = 0 ∨ k = 1 ∨ k = 2 ∨ k = 3) with rfl | rfl | rfl | rfl
    · replace e0 : wr.cell? ⟨w.heap.size, 0, none⟩ = some (.string ⟨(([] : List UInt8)).toArray⟩) := e0
      replace e1 : wr.cell? ⟨w.heap.size, 1, none⟩ = some (.string ⟨(([] : List UInt8)).toArray⟩) := e1
      replace e2 : wr.cell? ⟨w.heap.size, 2, none⟩ = some (.string ⟨(([] : List UInt8)).toArray⟩) := e2
      go_wp2_with fail
      refine (P1 _).mono ?_
      rintro e w1 ⟨rfl, hb1⟩
      have hB := bstep (balloc _ _) hb1
      obtain ⟨kc, kf⟩ := bcell hB
      have g0 := (kc _ 0 hz).trans e0
      have g1 := (kc _ 1 hz).trans e1
      have g2 := (kc _ 2 hz).trans e2
      have m0 := (kf _ 0 hz).trans f0
      have m1 := (kf _ 1 hz).trans f1
      have m2 := (kf _ 2 hz).trans f2
      have hz1 : w.heap.size < w1.heap.size := by have := hB.size; omega
      clear kc kf
      go_wp2_with fail
      exact ⟨⟨1, by omega, by go_num, by go_simp, by go_simp, by go_simp, by go_simp, by go_simp, by go_simp, by simpa using hz1, (bstep hbr hB).setCell (p := ⟨w.heap.size, 0, none⟩) (Nat.le_refl _) _⟩, by simp [intOf]⟩
    · replace e0 : wr.cell? ⟨w.heap.size, 0, none⟩ = some (.string ⟨(x).toArray⟩) := e0
      replace e1 : wr.cell? ⟨w.heap.size, 1, none⟩ = some (.string ⟨(([] : List UInt8)).toArray⟩) := e1
      replace e2 : wr.cell? ⟨w.heap.size, 2, none⟩ = some (.string ⟨(([] : List UInt8)).toArray⟩) := e2
      go_wp2_with fail
      refine (P2 _).mono ?_
      rintro e w1 ⟨rfl, hb1⟩
      have hB := bstep (balloc _ _) hb1
      obtain ⟨kc, kf⟩ := bcell hB
      have g0 := (kc _ 0 hz).trans e0
      have g1 := (kc _ 1 hz).trans e1
      have g2 := (kc _ 2 hz).trans e2
      have m0 := (kf _ 0 hz).trans f0
      have m1 := (kf _ 1 hz).trans f1
      have m2 := (kf _ 2 hz).trans f2
      have hz1 : w.heap.size < w1.heap.size := by have := hB.size; omega
      clear kc kf
      go_wp2_with fail
      exact ⟨⟨2, by omega, by go_num, by go_simp, by go_simp, by go_simp, by go_simp, by go_simp, by go_simp, by simpa using hz1, (bstep hbr hB).setCell (p := ⟨w.heap.size, 1, none⟩) (Nat.le_refl _) _⟩, by simp [intOf]⟩
    · replace e0 : wr.cell? ⟨w.heap.size, 0, none⟩ = some (.string ⟨(x).toArray⟩) := e0
      replace e1 : wr.cell? ⟨w.heap.size, 1, none⟩ = some (.string ⟨(y).toArray⟩) := e1
      replace e2 : wr.cell? ⟨w.heap.size, 2, none⟩ = some (.string ⟨(([] : List UInt8)).toArray⟩) := e2
      go_wp2_with fail
      refine (P3 _).mono ?_
      rintro e w1 ⟨rfl, hb1⟩
      have hB := bstep (balloc _ _) hb1
      obtain ⟨kc, kf⟩ := bcell hB
      have g0 := (kc _ 0 hz).trans e0
      have g1 := (kc _ 1 hz).trans e1
      have g2 := (kc _ 2 hz).trans e2
      have m0 := (kf _ 0 hz).trans f0
      have m1 := (kf _ 1 hz).trans f1
      have m2 := (kf _ 2 hz).trans f2
      have hz1 : w.heap.size < w1.heap.size := by have := hB.size; omega
      clear kc kf
      go_wp2_with fail
      exact ⟨⟨3, by omega, by go_num, by go_simp, by go_simp, by go_simp, by go_simp, by go_simp, by go_simp, by simpa using hz1, (bstep hbr hB).setCell (p := ⟨w.heap.size, 2, none⟩) (Nat.le_refl _) _⟩, by simp [intOf]⟩
    · replace e0 : wr.cell? ⟨w.heap.size, 0, none⟩ = some (.string ⟨(x).toArray⟩) := e0
      replace e1 : wr.cell? ⟨w.heap.size, 1, none⟩ = some (.string ⟨(y).toArray⟩) := e1
      replace e2 : wr.cell? ⟨w.heap.size, 2, none⟩ = some (.string ⟨(z).toArray⟩) := e2
      have HJ := fun W (hb : Below wr.heap.size wr W) => Join_any w.heap.size x y z W l1 l2 l3 ((hb.cell hz).trans e0) ((hb.cell hz).trans e1) ((hb.cell hz).trans e2)
      go_wp2_with fail
      refine (HJ _ (Below.refl _ _)).mono ?_
      rintro e w1 ⟨rfl, hb1⟩
      go_wp2_with fail
      exact bodyPost_ret (v := .tuple #[.string ⟨(joinUpto x y z 2).toArray⟩, .nilIface]) (by simp [results, Try.results14, go_sem]) rfl ⟨rfl, bstep hbr hb1⟩

/-- a triple as text -/
def showTr (x : Tr) : List UInt8 := joinUpto (showL x.1.1 x.1.2.1 x.1.2.2) (showL x.2.1.1 x.2.1.2.1 x.2.1.2.2) (showL x.2.2.1 x.2.2.2.1 x.2.2.2.2) 2
theorem TPrint_bad (x : Tr) (w : World) (hx : fitTr x) (h : chkTr x ≠ 0) : Calls Try.prog 9 #[valTr x] w fun e w' => e = .returned (.tuple #[.string ⟨#[]⟩, errV (chkTr x)]) ∧ Below w.heap.size w w' := by
  have H := fun W => ChkTr_any x W hx
  have hc : (chkTr x == 0) = false := by simpa using h
  clear h
  unfold valTr at *
  go_enter Try.func9, Try.ntmps9
  go_wp2_with fail
  refine (H _).mono ?_
  rintro e w1 ⟨rfl, hb1⟩
  go_wp2_with fail
  exact bodyPost_ret (v := .tuple #[.string ⟨#[]⟩, errV (chkTr x)]) (by simp [results, Try.results9, go_sem]) rfl ⟨rfl, bstep (balloc _ _) hb1⟩

set_option maxHeartbeats 1000000 in
theorem TPrint_good (x : Tr) (w : World) (hx : fitTr x) (h : chkTr x = 0) : Calls Try.prog 9 #[valTr x] w fun e w' => e = .returned (.tuple #[.string ⟨(showTr x).toArray⟩, .nilIface]) ∧ Below w.heap.size w w' := by
  have H := fun W => ChkTr_any x W hx
  rw [h, show errV 0 = .nilIface from rfl] at H
  obtain ⟨h1, h2, h3, _⟩ := chk_zero h
  have HP := fun c W => printTerms_any c x.1.1 x.1.2.1 x.1.2.2 x.2.1.1 x.2.1.2.1 x.2.1.2.2 x.2.2.1 x.2.2.2.1 x.2.2.2.2 W h1 h2 h3
  clear h h1 h2 h3 hx
  have fin : Hid (showTr x = joinUpto (showL x.1.1 x.1.2.1 x.1.2.2) (showL x.2.1.1 x.2.1.2.1 x.2.1.2.2) (showL x.2.2.1 x.2.2.2.1 x.2.2.2.2) 2) := rfl
  unfold valTr at *
  go_enter Try.func9, Try.ntmps9
  go_wp2_with fail
  refine (H _).mono ?_
  rintro e w1 ⟨rfl, hb1⟩
  obtain ⟨a0, a1, a2, b0, b1, b2, d0, d1, d2, hz⟩ := ninebox hb1
  go_wp2_with fail
  refine (HP w1.heap.size _ (by go_simp) (by go_simp) (by go_simp) (by go_simp) (by go_simp) (by go_simp) (by go_simp) (by go_simp) (by go_simp)).mono ?_
  rintro e w2 ⟨rfl, hb2⟩
  go_wp2_with fail
  exact bodyPost_ret (v := .tuple #[.string ⟨(showTr x).toArray⟩, .nilIface]) (by rw [fin.out]; simp [results, Try.results9, go_sem]) rfl ⟨rfl, bstep (bstep (bstep (balloc _ _) hb1) (balloc _ _)) hb2⟩
end Go.Proofs.Ytkfpkcilgaldpag

/- '==' on two triples. -/
namespace Go.Proofs.Ytkfpkcilgaldpag
open Go Go.RowKit Go.Proofs

theorem tr_eq (x y : Tr) : decide (x = y) = (eqTB x.1.1 x.1.2.1 x.1.2.2 y.1.1 y.1.2.1 y.1.2.2 && (eqTB x.2.1.1 x.2.1.2.1 x.2.1.2.2 y.2.1.1 y.2.1.2.1 y.2.1.2.2 && eqTB x.2.2.1 x.2.2.2.1 x.2.2.2.2 y.2.2.1 y.2.2.2.1 y.2.2.2.2)) := by
  obtain ⟨⟨k1, s1, l1⟩, ⟨k2, s2, l2⟩, ⟨k3, s3, l3⟩⟩ := x
  obtain ⟨⟨k1', s1', l1'⟩, ⟨k2', s2', l2'⟩, ⟨k3', s3', l3'⟩⟩ := y
  rw [Bool.eq_iff_iff]
  simp only [decide_eq_true_eq, Bool.and_eq_true, eqTB_iff, Prod.mk.injEq]

set_option maxRecDepth 100000 in
set_option maxHeartbeats 1000000 in
theorem equalTriple (x y : Tr) (w : World) :
    (Op.equalIn 10000 33 (.agg #[.int .i64 x.1.1, .string ⟨x.1.2.1.toArray⟩, .string ⟨x.1.2.2.toArray⟩, .int .i64 x.2.1.1, .string ⟨x.2.1.2.1.toArray⟩, .string ⟨x.2.1.2.2.toArray⟩, .int .i64 x.2.2.1, .string ⟨x.2.2.2.1.toArray⟩, .string ⟨x.2.2.2.2.toArray⟩])
      (.agg #[.int .i64 y.1.1, .string ⟨y.1.2.1.toArray⟩, .string ⟨y.1.2.2.toArray⟩, .int .i64 y.2.1.1, .string ⟨y.2.1.2.1.toArray⟩, .string ⟨y.2.1.2.2.toArray⟩, .int .i64 y.2.2.1, .string ⟨y.2.2.2.1.toArray⟩, .string ⟨y.2.2.2.2.toArray⟩])).run Try.prog w = .ok (decide (x = y)) w := by
  have hS : Try.prog.underlying 33 = some (.struct (Try.prog.fieldsOf 33)) := by kernel_rfl
  rw [show (10000 : Nat) = 9999 + 1 from rfl, run_equalIn_agg w 9999 33 _ _ hS (by kernel_rfl), tr_eq]
  simp only [Program.fieldsOf, Try.underlying33]
  unfold eqTB
  go_simp
  by_cases h0 : x.1.1 = y.1.1
  rotate_left
  · simp [h0]
  by_cases h1 : x.1.2.1 = y.1.2.1
  rotate_left
  · simp [h0, h1]
  by_cases h2 : x.1.2.2 = y.1.2.2
  rotate_left
  · simp [h0, h1, h2]
  by_cases h3 : x.2.1.1 = y.2.1.1
  rotate_left
  · simp [h0, h1, h2, h3]
  by_cases h4 : x.2.1.2.1 = y.2.1.2.1
  rotate_left
  · simp [h0, h1, h2, h3, h4]
  by_cases h5 : x.2.1.2.2 = y.2.1.2.2
  rotate_left
  · simp [h0, h1, h2, h3, h4, h5]
  by_cases h6 : x.2.2.1 = y.2.2.1
  rotate_left
  · simp [h0, h1, h2, h3, h4, h5, h6]
  by_cases h7 : x.2.2.2.1 = y.2.2.2.1
  rotate_left
  · simp [h0, h1, h2, h3, h4, h5, h6, h7]
  by_cases h8 : x.2.2.2.2 = y.2.2.2.2
  rotate_left
  · simp [h0, h1, h2, h3, h4, h5, h6, h7, h8]
  simp [h0, h1, h2, h3, h4, h5, h6, h7, h8]

theorem eqlTriple (x y : Tr) (w : World) : (binOp .eql 33 (.agg #[.int .i64 x.1.1, .string ⟨x.1.2.1.toArray⟩, .string ⟨x.1.2.2.toArray⟩, .int .i64 x.2.1.1, .string ⟨x.2.1.2.1.toArray⟩, .string ⟨x.2.1.2.2.toArray⟩, .int .i64 x.2.2.1, .string ⟨x.2.2.2.1.toArray⟩, .string ⟨x.2.2.2.2.toArray⟩]) (.agg #[.int .i64 y.1.1, .string ⟨y.1.2.1.toArray⟩, .string ⟨y.1.2.2.toArray⟩, .int .i64 y.2.1.1, .string ⟨y.2.1.2.1.toArray⟩, .string ⟨y.2.1.2.2.toArray⟩, .int .i64 y.2.2.1, .string ⟨y.2.2.2.1.toArray⟩, .string ⟨y.2.2.2.2.toArray⟩])).run Try.prog w = .ok (.bool (decide (x = y))) w := by
  rw [run_eql_struct, equalTriple]; rfl
theorem neqTriple (x y : Tr) (w : World) : (binOp .neq 33 (.agg #[.int .i64 x.1.1, .string ⟨x.1.2.1.toArray⟩, .string ⟨x.1.2.2.toArray⟩, .int .i64 x.2.1.1, .string ⟨x.2.1.2.1.toArray⟩, .string ⟨x.2.1.2.2.toArray⟩, .int .i64 x.2.2.1, .string ⟨x.2.2.2.1.toArray⟩, .string ⟨x.2.2.2.2.toArray⟩]) (.agg #[.int .i64 y.1.1, .string ⟨y.1.2.1.toArray⟩, .string ⟨y.1.2.2.toArray⟩, .int .i64 y.2.1.1, .string ⟨y.2.1.2.1.toArray⟩, .string ⟨y.2.1.2.2.toArray⟩, .int .i64 y.2.2.1, .string ⟨y.2.2.2.1.toArray⟩, .string ⟨y.2.2.2.2.toArray⟩])).run Try.prog w = .ok (.bool (!decide (x = y))) w := by
  rw [run_neq_struct, equalTriple]; rfl
end Go.Proofs.Ytkfpkcilgaldpag

/- slices.Compact at triples: the library's own text, walked. -/
namespace Go.Proofs.Ytkfpkcilgaldpag
open Go Go.RowKit Go.Proofs Go.Sort Go.Lib
set_option synthInstance.maxSize 1000

/-- one triple stored in the row -/
theorem setMany_one (d : Array Tr) (i : Nat) (x : Tr) (hi : i < d.size) : setMany (flatK encTr 9 d) (i * 9) (encTr x) = flatK encTr 9 (d.setIfInBounds i x) := by
  refine ext_get! (by simp) fun t ht => ?_
  have ht' : t < d.size * 9 := by simpa using ht
  rw [get_setMany _ _ _ t (by simpa using ht'), get_flatK _ _ _ t ht', get_flatK _ _ _ t (by simpa using ht'), encTr_len]
  by_cases a : t / 9 = i
  · rw [if_pos ((blk_iff 9 i t (by omega)).2 a), a, getElem!_set_same d i x hi, show t - i * 9 = t % 9 by omega]
  · rw [if_neg (fun h => a ((blk_iff 9 i t (by omega)).1 h)), getElem!_set_other d i (t / 9) x a]
theorem putRowK_one (w : World) (b o : Nat) (d : Array Tr) (i : Nat) (x : Tr) (hi : i < d.size) : (putRowK encTr 9 w b o d).setCells b (o + i * 9) (encTr x) = putRowK encTr 9 w b o (d.setIfInBounds i x) := by
  unfold putRowK
  rw [setCells_putRow w b o (encTr x) (i * 9) _ (by rw [encTr_len, size_flatK]; omega), setMany_one d i x hi]

theorem setCells_append (w : World) (b : Nat) (xs ys : List Value) (o : Nat) : w.setCells b o (xs ++ ys) = (w.setCells b o xs).setCells b (o + xs.length) ys := by
  induction xs generalizing w o with
  | nil => rfl
  | cons v r ih => simp only [List.cons_append, World.setCells, ih, List.length_cons]; rw [show o + 1 + r.length = o + (r.length + 1) by omega]

/-- triples stored one behind the other -/
theorem putRowK_many (w : World) (b o : Nat) : ∀ (xs : List Tr) (d : Array Tr) (k : Nat), k + xs.length ≤ d.size → (putRowK encTr 9 w b o d).setCells b (o + k * 9) (cellsT xs) = putRowK encTr 9 w b o (lay d k xs)
  | [], _, _, _ => rfl
  | x :: r, d, k, h => by
    have hl : k + (r.length + 1) ≤ d.size := by simpa using h
    rw [show cellsT (x :: r) = encTr x ++ cellsT r by simp [cellsT], setCells_append, putRowK_one w b o d k x (by omega), encTr_len, lay, show o + k * 9 + 9 = o + (k + 1) * 9 by omega]
    exact putRowK_many w b o r _ (k + 1) (by simp; omega)

def zeroTr : Tr := ⟨⟨0, [], []⟩, ⟨0, [], []⟩, ⟨0, [], []⟩⟩

theorem zeroCellsT (z : Array Value) (hz : z = (encTr zeroTr).toArray) (n : Nat) : (Builtin.zeroCells z n).toList = cellsT (List.replicate n zeroTr) := by
  subst hz
  have hl : (cellsT (List.replicate n zeroTr)).length = n * 9 := by rw [cellsT_len]; simp
  have hs : (encTr zeroTr).toArray.size = 9 := rfl
  apply List.ext_getElem?
  intro j
  by_cases hj : j < n * 9
  · have h1 : (cellsT (List.replicate n zeroTr))[j]? = (encTr zeroTr)[j % 9]? := by
      have := cellsT_at (List.replicate n zeroTr) (j / 9) (by simp; omega) (j % 9) (by omega)
      rw [show j / 9 * 9 + j % 9 = j by omega] at this
      rw [this]; simp
    rw [h1]
    have h9 : j % 9 < 9 := Nat.mod_lt _ (by omega)
    rw [List.getElem?_eq_getElem (show j % 9 < (encTr zeroTr).length from h9)]
    simp [Builtin.zeroCells, hs, hj]
    rw [List.getElem?_eq_getElem (show j % 9 < (encTr zeroTr).length from h9)]
    rfl
  · have a : (Builtin.zeroCells (encTr zeroTr).toArray n).toList.length ≤ j := by simp [Builtin.zeroCells, encTr_len]; omega
    rw [List.getElem?_eq_none a, List.getElem?_eq_none (by rw [hl]; omega)]

theorem run_clearT (w : World) (ty : TypeId) (b o n c : Nat) (hn : 0 < n) (hc : ∀ j, j < n * 9 → (w.cell? ⟨b, o + j, none⟩).isSome = true) (hf : ∀ j, j < n * 9 → w.frozen? ⟨b, o + j, none⟩ = false) :
    (Builtin.clear_ #[22] ty #[.slice (some ⟨b, o, none⟩) n c]).run Try.prog w = .ok (.tuple #[]) (w.setCells b o (cellsT (List.replicate n zeroTr))) := by
  have hlen : (cellsT (List.replicate n zeroTr)).length = n * 9 := by rw [cellsT_len]; simp
  have hst := run_storeCells_cells (P := Try.prog) b o (cellsT (List.replicate n zeroTr)) 0 w (by rw [hlen]; simpa using hc) (by rw [hlen]; simpa using hf) (cellsT_one _)
  simp only [Nat.add_zero] at hst
  obtain ⟨z, hz, hz'⟩ : ∃ z, (∀ w, (zeroValue 33).run Try.prog w = .ok z w) ∧ z.cells = (encTr zeroTr).toArray := ⟨_, Try.zeroValue33, rfl⟩
  have hzc := zeroCellsT z.cells hz' n
  obtain ⟨m, rfl⟩ : ∃ m, n = m + 1 := ⟨n - 1, by omega⟩
  simp [Builtin.clear_, run_underlying Try.underlying22, hz, hzc, hst]

theorem store9 (W : World) (b p : Nat) (x : Tr) : (((((((((W.setCell ⟨b, p, none⟩ (.int .i64 x.1.1)).setCell ⟨b, p + 1, none⟩ (.string ⟨x.1.2.1.toArray⟩)).setCell ⟨b, p + 2, none⟩ (.string ⟨x.1.2.2.toArray⟩)).setCell ⟨b, p + 3, none⟩ (.int .i64 x.2.1.1)).setCell ⟨b, p + 4, none⟩ (.string ⟨x.2.1.2.1.toArray⟩)).setCell ⟨b, p + 5, none⟩ (.string ⟨x.2.1.2.2.toArray⟩)).setCell ⟨b, p + 6, none⟩ (.int .i64 x.2.2.1)).setCell ⟨b, p + 7, none⟩ (.string ⟨x.2.2.2.1.toArray⟩)).setCell ⟨b, p + 8, none⟩ (.string ⟨x.2.2.2.2.toArray⟩)) = W.setCells b p (encTr x) := rfl
theorem store_world {w wr : World} {q b o kk : Nat} {dk : Array Tr} (u : Tr) (h : wr = putRowK encTr 9 (Sort.ahead w q) b o dk) (hi : kk < dk.size) :
    (wr.setCells b (o + kk * 9) (encTr u)).drew = putRowK encTr 9 (Sort.ahead w (q + 1)) b o (dk.setIfInBounds kk u) := by
  subst h
  rw [putRowK_one _ b o dk kk u hi]
  exact putRowK_drewN encTr 9 w q 1 b o _

/-- the nine cells of a place of the row -/
theorem cells9 {w : World} {b o : Nat} {d : Array Tr} (h : HoldsK encTr 9 w b o d) (i : Nat) (hi : i < d.size) (x : Tr) (hx : d[i]! = x) (p : Nat) (hp : p = o + i * 9) :
    (w.cell? ⟨b, p, none⟩ = some (.int .i64 x.1.1) ∧ w.cell? ⟨b, p + 1, none⟩ = some (.string ⟨x.1.2.1.toArray⟩) ∧ w.cell? ⟨b, p + 2, none⟩ = some (.string ⟨x.1.2.2.toArray⟩)
    ∧ w.cell? ⟨b, p + 3, none⟩ = some (.int .i64 x.2.1.1) ∧ w.cell? ⟨b, p + 4, none⟩ = some (.string ⟨x.2.1.2.1.toArray⟩) ∧ w.cell? ⟨b, p + 5, none⟩ = some (.string ⟨x.2.1.2.2.toArray⟩)
    ∧ w.cell? ⟨b, p + 6, none⟩ = some (.int .i64 x.2.2.1) ∧ w.cell? ⟨b, p + 7, none⟩ = some (.string ⟨x.2.2.2.1.toArray⟩) ∧ w.cell? ⟨b, p + 8, none⟩ = some (.string ⟨x.2.2.2.2.toArray⟩))
    ∧ (w.frozen? ⟨b, p, none⟩ = false ∧ w.frozen? ⟨b, p + 1, none⟩ = false ∧ w.frozen? ⟨b, p + 2, none⟩ = false ∧ w.frozen? ⟨b, p + 3, none⟩ = false ∧ w.frozen? ⟨b, p + 4, none⟩ = false ∧ w.frozen? ⟨b, p + 5, none⟩ = false ∧ w.frozen? ⟨b, p + 6, none⟩ = false ∧ w.frozen? ⟨b, p + 7, none⟩ = false ∧ w.frozen? ⟨b, p + 8, none⟩ = false) := by
  subst hp
  have q := fun c (hc : c < 9) => h.cell hi hc
  rw [hx] at q
  exact ⟨⟨(q 0 (by omega)).1, (q 1 (by omega)).1, (q 2 (by omega)).1, (q 3 (by omega)).1, (q 4 (by omega)).1, (q 5 (by omega)).1, (q 6 (by omega)).1, (q 7 (by omega)).1, (q 8 (by omega)).1⟩,
    ⟨(q 0 (by omega)).2, (q 1 (by omega)).2, (q 2 (by omega)).2, (q 3 (by omega)).2, (q 4 (by omega)).2, (q 5 (by omega)).2, (q 6 (by omega)).2, (q 7 (by omega)).2, (q 8 (by omega)).2⟩⟩

/-- what Compact leaves in the row: what is kept, then zero triples -/
def compRow (d : Array Tr) : Array Tr := (compactUpTo d d.size ++ List.replicate (d.size - (compactUpTo d d.size).length) zeroTr).toArray
theorem compRow_all (d : Array Tr) (h : ∀ j, j < d.size → keeps d j = true) : (compactUpTo d d.size).length = d.size ∧ compRow d = d := by
  have e : compactUpTo d d.size = d.toList := by rw [compactUpTo_all d _ h, range_map_get]
  unfold compRow
  rw [e]
  exact ⟨by simp, by simp⟩

attribute [local go_sem ↓] eqlTriple neqTriple

end Go.Proofs.Ytkfpkcilgaldpag

/- Which of two triples is ahead: an order; sets of triples. -/
namespace Go.Proofs.Ytkfpkcilgaldpag
open Go Go.RowKit Go.Proofs Go.Sort Go.Lib
set_option synthInstance.maxSize 1000

theorem orI_zero (a b c : Int) : orI a b c = 0 ↔ a = 0 ∧ b = 0 ∧ c = 0 := by
  unfold orI
  by_cases h1 : a = 0 <;> by_cases h2 : b = 0 <;> simp [h1, h2]
theorem cmpTm_zero (x y : Tm) : cmpTm x y = 0 ↔ x = y := by
  obtain ⟨k, s, l⟩ := x
  obtain ⟨k', s', l'⟩ := y
  simp [cmpTm, cmpT_zero]
theorem cmpTm_neg (x y : Tm) : cmpTm x y = - cmpTm y x := cmpT_neg _ _ _ _ _ _
theorem cmpTm_trans (x y z : Tm) (h1 : cmpTm x y ≤ 0) (h2 : cmpTm y z ≤ 0) : cmpTm x z ≤ 0 := cmpT_trans _ _ _ _ _ _ _ _ _ h1 h2
theorem cmpTr_zero (x y : Tr) : cmpTr x y = 0 ↔ x = y := by
  obtain ⟨a, b, c⟩ := x
  obtain ⟨a', b', c'⟩ := y
  simp [cmpTr, orI_zero, cmpTm_zero]
theorem cmpTr_neg (x y : Tr) : cmpTr x y = - cmpTr y x := by
  have h1 := cmpTm_neg x.1 y.1
  have h2 := cmpTm_neg x.2.1 y.2.1
  have h3 := cmpTm_neg x.2.2 y.2.2
  unfold cmpTr orI
  repeat' split
  all_goals omega
theorem lex_trans {a1 b1 c1 a2 b2 c2 a3 b3 c3 : Tm} (h1 : orI (cmpTm a1 a2) (cmpTm b1 b2) (cmpTm c1 c2) ≤ 0) (h2 : orI (cmpTm a2 a3) (cmpTm b2 b3) (cmpTm c2 c3) ≤ 0) : orI (cmpTm a1 a3) (cmpTm b1 b3) (cmpTm c1 c3) ≤ 0 := by
  have step : ∀ x y z : Tm, cmpTm x y ≤ 0 → cmpTm y z ≤ 0 → cmpTm x z = 0 → cmpTm x y = 0 ∧ cmpTm y z = 0 := fun x y z p q r => by
    have e := (cmpTm_zero x z).1 r
    subst e
    have := cmpTm_neg x y
    omega
  have ta := cmpTm_trans a1 a2 a3
  have tb := cmpTm_trans b1 b2 b3
  have tc := cmpTm_trans c1 c2 c3
  have sa := step a1 a2 a3
  have sb := step b1 b2 b3
  unfold orI at *
  repeat' split at *
  all_goals omega
theorem cmpTr_trans (x y z : Tr) (h1 : cmpTr x y ≤ 0) (h2 : cmpTr y z ≤ 0) : cmpTr x z ≤ 0 := lex_trans h1 h2

theorem swoTr : SWO (ltOf cmpTr) where
  irrefl x := by simp [ltOf, (cmpTr_zero x x).2 rfl]
  trans x y z h1 h2 := by
    simp only [ltOf, decide_eq_true_eq] at *
    have h := cmpTr_trans x y z (by omega) (by omega)
    by_cases e : cmpTr x z = 0
    · have := (cmpTr_zero x z).1 e
      subst this
      have := cmpTr_neg x y
      omega
    · omega
  ntrans x y z h1 h2 := by
    simp only [ltOf, decide_eq_false_iff_not] at *
    have a := cmpTr_neg x y
    have b := cmpTr_neg y z
    have c := cmpTr_neg x z
    have := cmpTr_trans z y x (by omega) (by omega)
    omega

/-- a set: each above the one ahead -/
def Rising (m : List Tr) : Prop := m.Pairwise fun x y => cmpTr x y < 0

theorem rising_unique : ∀ (m n : List Tr), Rising m → Rising n → (∀ x, x ∈ m ↔ x ∈ n) → m = n
  | [], [], _, _, _ => rfl
  | [], y :: n, _, _, h => by have := (h y).2 (by simp); simp at this
  | x :: m, [], _, _, h => by have := (h x).1 (by simp); simp at this
  | x :: m, y :: n, hm, hn, h => by
    have hm' := List.pairwise_cons.1 hm
    have hn' := List.pairwise_cons.1 hn
    have irr : ∀ z : Tr, ¬ cmpTr z z < 0 := fun z => by rw [(cmpTr_zero z z).2 rfl]; omega
    have exy : x = y := by
      rcases List.mem_cons.1 ((h x).1 (by simp)) with e | hx
      · exact e
      · rcases List.mem_cons.1 ((h y).2 (by simp)) with e | hy
        · exact e.symm
        · have a := hm'.1 y hy
          have b := hn'.1 x hx
          have := cmpTr_neg x y
          omega
    subst exy
    congr 1
    refine rising_unique m n hm'.2 hn'.2 fun z => ?_
    constructor
    · intro hz
      rcases List.mem_cons.1 ((h z).1 (by simp [hz])) with e | h'
      · subst e; exact absurd (hm'.1 z hz) (irr z)
      · exact h'
    · intro hz
      rcases List.mem_cons.1 ((h z).2 (by simp [hz])) with e | h'
      · subst e; exact absurd (hn'.1 z hz) (irr z)
      · exact h'

/-- what Compact keeps of a sorted row is a set, of the same triples -/
theorem comp_rising (d : Array Tr) (hs : SortedIn (ltOf cmpTr) 0 d.size d) : Rising (compactUpTo d d.size) := by
  unfold Rising compactUpTo
  rw [List.pairwise_map]
  have hr : (List.range d.size).Pairwise fun i j => i < j ∧ j < d.size := by
    rw [List.pairwise_iff_getElem]
    intro i j hi hj hij
    simp at hi hj ⊢
    omega
  refine List.Pairwise.imp_of_mem ?_ (hr.filter (keeps d))
  intro i j hi hj hij
  have hk : keeps d j = true := (List.mem_filter.1 hj).2
  have h1 : d[j]! ≠ d[j - 1]! := by
    simp only [keeps, decide_eq_true_eq] at hk
    rcases hk with h | h
    · omega
    · exact h
  have le : ∀ p q, p < q → q < d.size → cmpTr d[p]! d[q]! ≤ 0 := fun p q h1 h2 => by
    have := hs p q (by omega) h1 h2
    simp only [ltOf, decide_eq_false_iff_not] at this
    have := cmpTr_neg d[p]! d[q]!
    omega
  have a := le i j hij.1 hij.2
  by_cases e : cmpTr d[i]! d[j]! = 0
  · exfalso
    have e' := (cmpTr_zero _ _).1 e
    have b := le (j - 1) j (by omega) hij.2
    have c : cmpTr d[i]! d[j - 1]! ≤ 0 := by
      by_cases q : i = j - 1
      · rw [q, (cmpTr_zero _ _).2 rfl]; omega
      · exact le i (j - 1) (by omega) (by omega)
    rw [e'] at c
    have := cmpTr_neg d[j]! d[j - 1]!
    exact h1 ((cmpTr_zero _ _).1 (by omega))
  · omega
theorem comp_mem (d : Array Tr) (x : Tr) : x ∈ compactUpTo d d.size ↔ x ∈ d.toList := by
  constructor
  · intro h
    simp only [compactUpTo, List.mem_map, List.mem_filter, List.mem_range] at h
    obtain ⟨j, ⟨hj, _⟩, rfl⟩ := h
    rw [getElem!_pos d j hj]
    simp
  · intro h
    obtain ⟨j, hj, rfl⟩ := List.getElem_of_mem h
    have key : ∀ j, j < d.size → d[j]! ∈ compactUpTo d d.size := by
      intro j
      induction j with
      | zero => intro hj; simp only [compactUpTo, List.mem_map, List.mem_filter, List.mem_range]; exact ⟨0, ⟨hj, by simp [keeps]⟩, rfl⟩
      | succ n ih =>
        intro hj
        by_cases e : d[n + 1]! = d[n]!
        · rw [e]; exact ih (by omega)
        · simp only [compactUpTo, List.mem_map, List.mem_filter, List.mem_range]
          exact ⟨n + 1, ⟨hj, by simp [keeps, e]⟩, rfl⟩
    have hj' : j < d.size := by simpa using hj
    have := key j hj'
    rw [getElem!_pos d j hj'] at this
    simpa using this
theorem comp_len (d : Array Tr) : (compactUpTo d d.size).length ≤ d.size := by
  unfold compactUpTo
  rw [List.length_map]
  exact Nat.le_trans (List.length_filter_le _ _) (by simp)
end Go.Proofs.Ytkfpkcilgaldpag

/- Sorted's closure: what is wrong with the triple at a place: itself, and that it is not above the one ahead; firstFault. -/
namespace Go.Proofs.Ytkfpkcilgaldpag
open Go Go.RowKit Go.Proofs Go.Sort

attribute [local go_sem] eql_errV neq_errV guard_errV

/-- what Sorted's closure tells of a place -/
def stepN (l : List Tr) (i : Nat) : Int := if h : i < l.length then (if chkTr l[i] = 0 then (if h0 : 0 < i then (if 0 ≤ cmpTr (l[i - 1]'(by omega)) l[i] then 6 else 0) else 0) else chkTr l[i]) else 0

/-- nineteen cells, behind a call that lays blocks and draws -/
theorem keep19 {W W' : World} {p0 p1 p2 p3 p4 p5 p6 p7 p8 p9 p10 p11 p12 p13 p14 p15 p16 p17 p18 : Addr} {v0 v1 v2 v3 v4 v5 v6 v7 v8 v9 v10 v11 v12 v13 v14 v15 v16 v17 v18 : Value}
    (h : W.cell? p0 = some v0 ∧ W.cell? p1 = some v1 ∧ W.cell? p2 = some v2 ∧ W.cell? p3 = some v3 ∧ W.cell? p4 = some v4 ∧ W.cell? p5 = some v5 ∧ W.cell? p6 = some v6 ∧ W.cell? p7 = some v7 ∧ W.cell? p8 = some v8 ∧ W.cell? p9 = some v9 ∧ W.cell? p10 = some v10 ∧ W.cell? p11 = some v11 ∧ W.cell? p12 = some v12 ∧ W.cell? p13 = some v13 ∧ W.cell? p14 = some v14 ∧ W.cell? p15 = some v15 ∧ W.cell? p16 = some v16 ∧ W.cell? p17 = some v17 ∧ W.cell? p18 = some v18) (hb : Grew W W') : W'.cell? p0 = some v0 ∧ W'.cell? p1 = some v1 ∧ W'.cell? p2 = some v2 ∧ W'.cell? p3 = some v3 ∧ W'.cell? p4 = some v4 ∧ W'.cell? p5 = some v5 ∧ W'.cell? p6 = some v6 ∧ W'.cell? p7 = some v7 ∧ W'.cell? p8 = some v8 ∧ W'.cell? p9 = some v9 ∧ W'.cell? p10 = some v10 ∧ W'.cell? p11 = some v11 ∧ W'.cell? p12 = some v12 ∧ W'.cell? p13 = some v13 ∧ W'.cell? p14 = some v14 ∧ W'.cell? p15 = some v15 ∧ W'.cell? p16 = some v16 ∧ W'.cell? p17 = some v17 ∧ W'.cell? p18 = some v18 := by
  have q := hb.keep
  obtain ⟨h0, h1, h2, h3, h4, h5, h6, h7, h8, h9, h10, h11, h12, h13, h14, h15, h16, h17, h18⟩ := h
  exact ⟨q _ _ h0, q _ _ h1, q _ _ h2, q _ _ h3, q _ _ h4, q _ _ h5, q _ _ h6, q _ _ h7, q _ _ h8, q _ _ h9, q _ _ h10, q _ _ h11, q _ _ h12, q _ _ h13, q _ _ h14, q _ _ h15, q _ _ h16, q _ _ h17, q _ _ h18⟩

set_option maxHeartbeats 4000000 in
set_option maxRecDepth 100000 in
theorem sortedFault_any (b o cap bl : Nat) (l : List Tr) (i : Nat) (w : World) (hi : i < l.length) (h200 : l.length ≤ 200) (hx : fitTr l[i])
    (hbox : w.cell? ⟨bl, 0, none⟩ = some (.slice (some ⟨b, o, none⟩) l.length cap)) (hrow : RowR w b o l) :
    Calls Try.prog 34 #[.int .i64 i, .pointer (some ⟨bl, 0, none⟩)] w fun e w' => e = .returned (errV (stepN l i)) ∧ Below w.heap.size w w' := by
  have H := fun W => ChkTr_any l[i] W hx
  have Hrow : Hid (RowR w b o l) := hrow
  obtain ⟨c0, c1, c2, c3, c4, c5, c6, c7, c8⟩ := hrow.at i hi
  clear hrow hx
  cases hc : (chkTr l[i] == 0)
  · have fin : Hid (stepN l i = chkTr l[i]) := by simp at hc; simp [Hid, stepN, hi, hc]
    go_enter Try.func34, Try.ntmps34
    go_wp2_with fail
    refine (H _).mono ?_
    rintro e w1 ⟨rfl, hb1⟩
    go_wp2_with fail
    go_ret
    exact ⟨ret_val (by rw [fin.out]; rfl), hb1⟩
  · by_cases h0 : i = 0
    · subst h0
      have fin : Hid (stepN l 0 = 0) := by simp at hc; simp [Hid, stepN, hi, hc]
      simp only [Nat.zero_mul, Nat.add_zero] at c0 c1 c2 c3 c4 c5 c6 c7 c8
      go_enter Try.func34, Try.ntmps34
      go_wp2_with fail
      refine (H _).mono ?_
      rintro e w1 ⟨rfl, hb1⟩
      clear c0 c1 c2 c3 c4 c5 c6 c7 c8
      go_wp2_with fail
      go_region
      go_wp2
      go_ret
      exact ⟨ret_val (by rw [fin.out]; rfl), hb1.drew⟩
    · obtain ⟨k, hk0⟩ : ∃ k, i = k + 1 := ⟨i - 1, by omega⟩
      have hk : k < l.length := by omega
      have fin : Hid (stepN l i = if 0 ≤ cmpTr l[k] l[i] then 6 else 0) := by
        subst hk0; simp at hc; simp [Hid, stepN, hi, hc]
      have HC := fun W => CmpTr_any l[k] l[i] W
      generalize cmpTr l[k] l[i] = c at HC fin
      have hwr : IntKind.i64.wrap ((i : Int) - 1) = (k : Int) := by subst hk0; simp [IntKind.wrap, IntKind.bits, IntKind.signed]; omega
      have i0 : (0 : Int) ≤ (k : Int) := by omega
      have i1 : (k : Int) < (l.length : Int) := by omega
      have hd : decide (0 < i) = true := by simp; omega
      have i3 : (i : Int) < (l.length : Int) := by omega
      have Hk : Hid (i = k + 1) := hk0
      clear hk0 h0
      go_enter Try.func34, Try.ntmps34
      go_wp2_with fail
      refine (H _).mono ?_
      rintro e w1 ⟨rfl, hb1⟩
      have hrow1 := Hrow.out.below hb1
      have hbox1 : w1.cell? ⟨bl, 0, none⟩ = some (.slice (some ⟨b, o, none⟩) l.length cap) := (hb1.cell (World.block_lt_of_cell? w _ hbox)).trans hbox
      clear c0 c1 c2 c3 c4 c5 c6 c7 c8
      obtain ⟨c0, c1, c2, c3, c4, c5, c6, c7, c8⟩ := hrow1.at i hi
      obtain ⟨d0, d1, d2, d3, d4, d5, d6, d7, d8⟩ := hrow1.at k hk
      generalize l[i] = y at *
      generalize l[k] = x at *
      clear hrow1 H
      cases hcc : decide (c ≥ 0)
      all_goals
        go_wp2_with fail
        go_region_held3 (fun W => W.cell? ⟨bl, 0, none⟩ = some (.slice (some ⟨b, o, none⟩) l.length cap) ∧ W.cell? ⟨b, o + k * 9, none⟩ = some (.int .i64 x.1.1) ∧ W.cell? ⟨b, o + k * 9 + 1, none⟩ = some (.string ⟨x.1.2.1.toArray⟩) ∧ W.cell? ⟨b, o + k * 9 + 2, none⟩ = some (.string ⟨x.1.2.2.toArray⟩) ∧ W.cell? ⟨b, o + k * 9 + 3, none⟩ = some (.int .i64 x.2.1.1) ∧ W.cell? ⟨b, o + k * 9 + 4, none⟩ = some (.string ⟨x.2.1.2.1.toArray⟩) ∧ W.cell? ⟨b, o + k * 9 + 5, none⟩ = some (.string ⟨x.2.1.2.2.toArray⟩) ∧ W.cell? ⟨b, o + k * 9 + 6, none⟩ = some (.int .i64 x.2.2.1) ∧ W.cell? ⟨b, o + k * 9 + 7, none⟩ = some (.string ⟨x.2.2.2.1.toArray⟩) ∧ W.cell? ⟨b, o + k * 9 + 8, none⟩ = some (.string ⟨x.2.2.2.2.toArray⟩) ∧ W.cell? ⟨b, o + i * 9, none⟩ = some (.int .i64 y.1.1) ∧ W.cell? ⟨b, o + i * 9 + 1, none⟩ = some (.string ⟨y.1.2.1.toArray⟩) ∧ W.cell? ⟨b, o + i * 9 + 2, none⟩ = some (.string ⟨y.1.2.2.toArray⟩) ∧ W.cell? ⟨b, o + i * 9 + 3, none⟩ = some (.int .i64 y.2.1.1) ∧ W.cell? ⟨b, o + i * 9 + 4, none⟩ = some (.string ⟨y.2.1.2.1.toArray⟩) ∧ W.cell? ⟨b, o + i * 9 + 5, none⟩ = some (.string ⟨y.2.1.2.2.toArray⟩) ∧ W.cell? ⟨b, o + i * 9 + 6, none⟩ = some (.int .i64 y.2.2.1) ∧ W.cell? ⟨b, o + i * 9 + 7, none⟩ = some (.string ⟨y.2.2.2.1.toArray⟩) ∧ W.cell? ⟨b, o + i * 9 + 8, none⟩ = some (.string ⟨y.2.2.2.2.toArray⟩)) (first | exact keep19 (by assumption) hb2 | go_keep) (first
          | (go_at_call 35; refine (HC _).mono ?_; rintro e w2 ⟨rfl, hb2⟩))
        go_wp2
        go_ret
        exact ⟨ret_val (by rw [fin.out]; simp at hcc; first | rw [if_pos (by omega)]; rfl | rw [if_neg (by omega)]; rfl), bstep hb1.drew hb2.below⟩

/-- the first number that is not 0 among those of the places below k -/
def firstUpto (f : Nat → Int) : Nat → Int
  | 0 => 0
  | k + 1 => if firstUpto f k = 0 then f k else firstUpto f k
theorem firstUpto_mono (f : Nat → Int) (k n : Nat) (h : firstUpto f k ≠ 0) (hn : k ≤ n) : firstUpto f n = firstUpto f k := by
  induction n with
  | zero => simp at hn; rw [hn]
  | succ m ih =>
    by_cases e : k = m + 1
    · rw [e]
    · have := ih (by omega)
      rw [firstUpto, this, if_neg h]
/-- what firstFault tells of n places -/
def faultN (f : Nat → Int) (n : Nat) : Int := if 200 < n then 4 else firstUpto f n

set_option maxHeartbeats 1000000 in
theorem firstFault_any (ad : Option Addr) (n cap g bl : Nat) (f : Nat → Int) (I : World → Prop) (w : World) (hn : n ≤ 9223372036854775807)
    (eg : ∀ args w, (callFunc g args).run Try.prog w = .ok (.enter g args) w) (hI : I w) (hkeep : ∀ W W', I W → Below W.heap.size W W' → I W')
    (hf : n ≤ 200 → ∀ (i : Nat) (W : World), i < n → I W → Calls Try.prog g #[.int .i64 i, .pointer (some ⟨bl, 0, none⟩)] W fun e w' => e = .returned (errV (f i)) ∧ Below W.heap.size W w') :
    Calls Try.prog 33 #[.slice ad n cap, .func (.func g) #[] #[.pointer (some ⟨bl, 0, none⟩)]] w fun e w' => e = .returned (errV (faultN f n)) ∧ Below w.heap.size w w' := by
  by_cases h200 : 200 < n
  · have fin : Hid (faultN f n = 4) := if_pos h200
    have h200' : decide ((n : Int) > 200) = true := by simp; omega
    clear hf
    go_enter Try.func33, Try.ntmps33
    go_wp2
    go_ret
    exact ⟨ret_val (by rw [fin.out]; rfl), Below.refl _ _⟩
  · have fin : Hid (faultN f n = firstUpto f n) := if_neg h200
    have Hf : Hid (∀ (i : Nat) (W : World), i < n → I W → Calls Try.prog g #[.int .i64 i, .pointer (some ⟨bl, 0, none⟩)] W fun e w' => e = .returned (errV (f i)) ∧ Below W.heap.size W w') := hf (by omega)
    have Hk : Hid (∀ W W', I W → Below W.heap.size W W' → I W') := hkeep
    have HI : Hid (I w) := hI
    clear hf hkeep hI
    go_enter Try.func33, Try.ntmps33
    go_wp2
    go_loopw [13] (fun i wr => ∃ k : Nat, k ≤ n ∧ i = .int .i64 k ∧ firstUpto f k = 0 ∧ I wr ∧ Below w.heap.size w wr) (fun i wr => n - (intOf i).toNat)
    case atStart => exact ⟨0, Nat.zero_le _, rfl, rfl, HI.out, Below.refl _ _⟩
    case round =>
      obtain ⟨k, hk, rfl, hz0, hIr0, hbr⟩ := hrel
      have hz : Hid (firstUpto f k = 0) := hz0
      have hIr : Hid (I wr) := hIr0
      clear hz0 hIr0
      by_cases hlt : k < n
      · cases hc : (f k == 0)
        · go_wp2_with fail
          go_at_fn g
          refine (Hf.out k _ hlt hIr.out).mono ?_
          rintro e w1 ⟨rfl, hb1⟩
          go_wp2_with fail
          go_ret
          simp at hc
          refine ⟨ret_val ?_, bstep hbr hb1⟩
          have h1 : firstUpto f (k + 1) = f k := by rw [firstUpto, if_pos hz.out]
          rw [fin.out, firstUpto_mono f (k + 1) n (by rw [h1]; exact hc) (by omega), h1]
          rfl
        · go_wp2_with fail
          go_at_fn g
          refine (Hf.out k _ hlt hIr.out).mono ?_
          rintro e w1 ⟨rfl, hb1⟩
          go_wp2_with fail
          simp at hc
          exact ⟨⟨k + 1, by omega, by go_num, by rw [firstUpto, if_pos hz.out]; exact hc, Hk.out _ _ hIr.out hb1, bstep hbr hb1⟩, by simp [intOf]; omega⟩
      · have hkn : k = n := by omega
        subst hkn
        go_wp2
        go_ret
        exact ⟨ret_val (by rw [fin.out, hz.out]; rfl), hbr⟩
end Go.Proofs.Ytkfpkcilgaldpag
