import Derived.Test.YtnphjdckdkjopaaGreatDoorMA0x0
import Derived.Test.YtnphjdckdkjopaaGreatDoorMA0x1
import Derived.Lib.Bytealg
import Derived.Lib.Small
import Derived.Deep.RegionWith
import Derived.BigQuiet
import Derived.Deep.RegionHeld3
import Derived.Sort.Grow
import Derived.Deep.Draws
import Derived.Laws.StructEq
import Derived.Shelf.GgSortFunc.RowK
import Derived.Shelf.GgSortFunc.InsertionK
import Derived.Lib.SlicesCompact
import Derived.Deep.LoopGhost
import Derived.RegionTactic
import Derived.Sort.Statements
import Derived.Shelf.SlSortCmp.Insertion
import Derived.Shelf.SlGeneric
import Derived.Shelf.SlSortCmp.WholeK
import Derived.Test.YtnphjdckdkjopaaGreatDoorProg

/- Compare: by Kind, then S, then Lang. -/
namespace Go.Proofs.YtnphjdckdkjopaaGreatDoor
open Go Go.RowKit Go.Proofs

def orI (x y z : Int) : Int := if x = 0 then (if y = 0 then z else y) else x
def cmpT (k : Int) (S L : List UInt8) (k' : Int) (S' L' : List UInt8) : Int := orI (Lib.compareInt k k') (Lib.compareBytes S S') (Lib.compareBytes L L')

theorem ret_int {k : IntKind} {a b : Int} (h : a = b) : Ending.returned (.int k a) = .returned (.int k b) := by rw [h]

set_option maxHeartbeats 1000000 in
theorem Or_any (b : Nat) (x y z : Int) (w : World) (h0 : w.cell? ⟨b, 0, none⟩ = some (.int .i64 x)) (h1 : w.cell? ⟨b, 1, none⟩ = some (.int .i64 y)) (h2 : w.cell? ⟨b, 2, none⟩ = some (.int .i64 z)) :
    Calls Tryz.prog 177 #[.slice (some ⟨b, 0, none⟩) 3 3] w fun e w' => e = .returned (.int .i64 (orI x y z)) ∧ w' = w := by
  have fin : Hid (orI x y z = if x = 0 then (if y = 0 then z else y) else x) := rfl
  go_enter Tryz.func177, Tryz.ntmps177
  go_wp2
  go_loop [8] (fun i => ∃ k : Int, 0 ≤ k ∧ k ≤ 3 ∧ i = .int .i64 k ∧ (0 < k → x = 0) ∧ (1 < k → y = 0) ∧ (2 < k → z = 0)) (fun i => (3 - intOf i).toNat)
  case atStart => exact ⟨0, by omega, by omega, rfl, by omega, by omega, by omega⟩
  case round =>
    obtain ⟨k, hk, hk', rfl, q0, q1, q2⟩ := hrel
    rcases (by omega : k = 0 ∨ k = 1 ∨ k = 2 ∨ k = 3) with rfl | rfl | rfl | rfl
    · clear hk hk' q0 q1 q2
      cases hx : (x != 0)
      · go_wp2
        simp at hx
        exact ⟨⟨1, by omega, by omega, by go_num, by omega, by omega, by omega⟩, by simp [intOf]⟩
      · go_wp2
        go_ret
        simp at hx
        exact ⟨ret_int (by rw [fin.out]; simp [hx]), rfl⟩
    · have hx : Hid (x = 0) := q0 (by omega)
      clear hk hk' q0 q1 q2
      cases hy : (y != 0)
      · go_wp2
        simp at hy
        exact ⟨⟨2, by omega, by omega, by go_num, fun _ => hx.out, by omega, by omega⟩, by simp [intOf]⟩
      · go_wp2
        go_ret
        simp at hy
        exact ⟨ret_int (by rw [fin.out]; simp [hx.out, hy]), rfl⟩
    · have hx : Hid (x = 0) := q0 (by omega)
      have hy : Hid (y = 0) := q1 (by omega)
      clear hk hk' q0 q1 q2
      cases hz : (z != 0)
      · go_wp2
        simp at hz
        exact ⟨⟨3, by omega, by omega, by go_num, fun _ => hx.out, fun _ => hy.out, by omega⟩, by simp [intOf]⟩
      · go_wp2
        go_ret
        exact ⟨ret_int (by rw [fin.out]; simp [hx.out, hy.out]), rfl⟩
    · have hx : Hid (x = 0) := q0 (by omega)
      have hy : Hid (y = 0) := q1 (by omega)
      have hz : Hid (z = 0) := q2 (by omega)
      clear hk hk' q0 q1 q2
      go_wp2
      go_ret
      exact ⟨ret_int (by rw [fin.out]; simp [hx.out, hy.out, hz.out]), rfl⟩

set_option maxHeartbeats 4000000 in
theorem Compare_any (k : Int) (S L : List UInt8) (k' : Int) (S' L' : List UInt8) (w : World) :
    Calls Tryz.prog 178 #[.agg #[.int .i64 k, .string ⟨S.toArray⟩, .string ⟨L.toArray⟩], .agg #[.int .i64 k', .string ⟨S'.toArray⟩, .string ⟨L'.toArray⟩]] w fun e w' => e = .returned (.int .i64 (cmpT k S L k' S' L')) ∧ Below w.heap.size w w' := by
  have fin : Hid (cmpT k S L k' S' L' = orI (Lib.compareInt k k') (Lib.compareBytes S S') (Lib.compareBytes L L')) := rfl
  go_enter Tryz.func178, Tryz.ntmps178
  go_wp2_with fail
  go_region_held3 (fun W => W.cell? ⟨w.heap.size, 0, none⟩ = some (.int .i64 k) ∧ W.cell? ⟨w.heap.size, 1, none⟩ = some (.string ⟨S.toArray⟩) ∧ W.cell? ⟨w.heap.size, 2, none⟩ = some (.string ⟨L.toArray⟩)
      ∧ W.cell? ⟨w.heap.size + 1, 0, none⟩ = some (.int .i64 k') ∧ W.cell? ⟨w.heap.size + 1, 1, none⟩ = some (.string ⟨S'.toArray⟩) ∧ W.cell? ⟨w.heap.size + 1, 2, none⟩ = some (.string ⟨L'.toArray⟩)) (go_keep) (first
    | (go_at_call 208; refine (Tryz.cmp_Compare_int k k' _).mono ?_; rintro e w3 ⟨rfl, rfl⟩)
    | (go_at_call_of 209 (Value.string ⟨S.toArray⟩); refine (Tryz.strings_Compare ⟨S.toArray⟩ ⟨S'.toArray⟩ _).mono ?_; rintro e w3 ⟨rfl, rfl⟩)
    | (go_at_call_of 209 (Value.string ⟨L.toArray⟩); refine (Tryz.strings_Compare ⟨L.toArray⟩ ⟨L'.toArray⟩ _).mono ?_; rintro e w3 ⟨rfl, rfl⟩)
    | (go_at_call 177; refine (Or_any (w.heap.size + 1 + 1) (Lib.compareInt k k') (Lib.compareBytes S S') (Lib.compareBytes L L') _ (by go_simp) (by go_simp) (by go_simp)).mono ?_; rintro e w3 ⟨rfl, rfl⟩))
  go_wp2
  go_ret
  exact ⟨rfl, ((bstep (bstep (balloc _ _) (balloc _ _)) (balloc _ _))).drew⟩
end Go.Proofs.YtnphjdckdkjopaaGreatDoor

/- Worlds that have grown by blocks and draws alone; term.Compare and triple.Compare lay such. -/
namespace Go.Proofs.YtnphjdckdkjopaaGreatDoor
open Go Go.RowKit Go.Proofs Go.Sort

/-- the world has grown: new blocks behind the heap, and draws; nothing else -/
def Grew (w w' : World) : Prop := ∃ q os, w' = grow (w.drewN q) os
theorem Grew.refl (w : World) : Grew w w := ⟨0, #[], by simp [grow, World.drewN]⟩
theorem Grew.trans {a b c : World} (h : Grew a b) (k : Grew b c) : Grew a c := by
  obtain ⟨q, os, rfl⟩ := h
  obtain ⟨q', os', rfl⟩ := k
  exact ⟨q + q', os ++ os', by simp [grow, World.drewN, Nat.add_assoc, Array.append_assoc]⟩
theorem grew_alloc (w : World) (o : Obj) : Grew w (w.alloc o) := ⟨0, #[o], by rw [alloc_eq_grow]; rfl⟩
theorem grew_drew (w : World) : Grew w w.drew := ⟨1, #[], by rw [grow_empty]; rfl⟩
theorem Grew.below {w w' : World} (h : Grew w w') : Below w.heap.size w w' := by
  obtain ⟨q, os, rfl⟩ := h
  exact ⟨rfl, rfl, rfl, by simp [grow, World.drewN], fun k hk => by simp [grow, World.drewN, Array.getElem?_append, hk]⟩
theorem Grew.drew {w w' : World} (h : Grew w w') : Grew w w'.drew := h.trans (grew_drew _)
theorem Grew.keep {W W' : World} (h : Grew W W') (p : Addr) (v : Value) (hv : W.cell? p = some v) : W'.cell? p = some v := (h.below.cell (World.block_lt_of_cell? W p hv)).trans hv

set_option maxHeartbeats 4000000 in
theorem Compare_grew (k : Int) (S L : List UInt8) (k' : Int) (S' L' : List UInt8) (w : World) :
    Calls Tryz.prog 178 #[.agg #[.int .i64 k, .string ⟨S.toArray⟩, .string ⟨L.toArray⟩], .agg #[.int .i64 k', .string ⟨S'.toArray⟩, .string ⟨L'.toArray⟩]] w fun e w' => e = .returned (.int .i64 (cmpT k S L k' S' L')) ∧ Grew w w' := by
  have fin : Hid (cmpT k S L k' S' L' = orI (Lib.compareInt k k') (Lib.compareBytes S S') (Lib.compareBytes L L')) := rfl
  go_enter Tryz.func178, Tryz.ntmps178
  go_wp2_with fail
  go_region_held3 (fun W => W.cell? ⟨w.heap.size, 0, none⟩ = some (.int .i64 k) ∧ W.cell? ⟨w.heap.size, 1, none⟩ = some (.string ⟨S.toArray⟩) ∧ W.cell? ⟨w.heap.size, 2, none⟩ = some (.string ⟨L.toArray⟩)
      ∧ W.cell? ⟨w.heap.size + 1, 0, none⟩ = some (.int .i64 k') ∧ W.cell? ⟨w.heap.size + 1, 1, none⟩ = some (.string ⟨S'.toArray⟩) ∧ W.cell? ⟨w.heap.size + 1, 2, none⟩ = some (.string ⟨L'.toArray⟩)) (go_keep) (first
    | (go_at_call 208; refine (Tryz.cmp_Compare_int k k' _).mono ?_; rintro e w3 ⟨rfl, rfl⟩)
    | (go_at_call_of 209 (Value.string ⟨S.toArray⟩); refine (Tryz.strings_Compare ⟨S.toArray⟩ ⟨S'.toArray⟩ _).mono ?_; rintro e w3 ⟨rfl, rfl⟩)
    | (go_at_call_of 209 (Value.string ⟨L.toArray⟩); refine (Tryz.strings_Compare ⟨L.toArray⟩ ⟨L'.toArray⟩ _).mono ?_; rintro e w3 ⟨rfl, rfl⟩)
    | (go_at_call 177; refine (Or_any (w.heap.size + 1 + 1) (Lib.compareInt k k') (Lib.compareBytes S S') (Lib.compareBytes L L') _ (by go_simp) (by go_simp) (by go_simp)).mono ?_; rintro e w3 ⟨rfl, rfl⟩))
  go_wp2
  go_ret
  exact ⟨rfl, (((grew_alloc _ _).trans (grew_alloc _ _)).trans (grew_alloc _ _)).drew⟩

/-- eighteen cells, behind a call that lays blocks and draws -/
theorem keep18 {W W' : World} {p0 p1 p2 p3 p4 p5 p6 p7 p8 p9 p10 p11 p12 p13 p14 p15 p16 p17 : Addr} {v0 v1 v2 v3 v4 v5 v6 v7 v8 v9 v10 v11 v12 v13 v14 v15 v16 v17 : Value}
    (h : W.cell? p0 = some v0 ∧ W.cell? p1 = some v1 ∧ W.cell? p2 = some v2 ∧ W.cell? p3 = some v3 ∧ W.cell? p4 = some v4 ∧ W.cell? p5 = some v5 ∧ W.cell? p6 = some v6 ∧ W.cell? p7 = some v7 ∧ W.cell? p8 = some v8 ∧ W.cell? p9 = some v9 ∧ W.cell? p10 = some v10 ∧ W.cell? p11 = some v11 ∧ W.cell? p12 = some v12 ∧ W.cell? p13 = some v13 ∧ W.cell? p14 = some v14 ∧ W.cell? p15 = some v15 ∧ W.cell? p16 = some v16 ∧ W.cell? p17 = some v17) (hb : Grew W W') : W'.cell? p0 = some v0 ∧ W'.cell? p1 = some v1 ∧ W'.cell? p2 = some v2 ∧ W'.cell? p3 = some v3 ∧ W'.cell? p4 = some v4 ∧ W'.cell? p5 = some v5 ∧ W'.cell? p6 = some v6 ∧ W'.cell? p7 = some v7 ∧ W'.cell? p8 = some v8 ∧ W'.cell? p9 = some v9 ∧ W'.cell? p10 = some v10 ∧ W'.cell? p11 = some v11 ∧ W'.cell? p12 = some v12 ∧ W'.cell? p13 = some v13 ∧ W'.cell? p14 = some v14 ∧ W'.cell? p15 = some v15 ∧ W'.cell? p16 = some v16 ∧ W'.cell? p17 = some v17 := by
  have q := hb.keep
  obtain ⟨h0, h1, h2, h3, h4, h5, h6, h7, h8, h9, h10, h11, h12, h13, h14, h15, h16, h17⟩ := h
  exact ⟨q _ _ h0, q _ _ h1, q _ _ h2, q _ _ h3, q _ _ h4, q _ _ h5, q _ _ h6, q _ _ h7, q _ _ h8, q _ _ h9, q _ _ h10, q _ _ h11, q _ _ h12, q _ _ h13, q _ _ h14, q _ _ h15, q _ _ h16, q _ _ h17⟩

set_option maxHeartbeats 8000000 in
set_option maxRecDepth 100000 in
theorem TCompare_grew (xk1 : Int) (xS1 xL1 : List UInt8) (xk2 : Int) (xS2 xL2 : List UInt8) (xk3 : Int) (xS3 xL3 : List UInt8) (yk1 : Int) (yS1 yL1 : List UInt8) (yk2 : Int) (yS2 yL2 : List UInt8) (yk3 : Int) (yS3 yL3 : List UInt8) (w : World) :
    Calls Tryz.prog 148 #[.agg #[.int .i64 xk1, .string ⟨xS1.toArray⟩, .string ⟨xL1.toArray⟩, .int .i64 xk2, .string ⟨xS2.toArray⟩, .string ⟨xL2.toArray⟩, .int .i64 xk3, .string ⟨xS3.toArray⟩, .string ⟨xL3.toArray⟩], .agg #[.int .i64 yk1, .string ⟨yS1.toArray⟩, .string ⟨yL1.toArray⟩, .int .i64 yk2, .string ⟨yS2.toArray⟩, .string ⟨yL2.toArray⟩, .int .i64 yk3, .string ⟨yS3.toArray⟩, .string ⟨yL3.toArray⟩]] w
      fun e w' => e = .returned (.int .i64 (orI (cmpT xk1 xS1 xL1 yk1 yS1 yL1) (cmpT xk2 xS2 xL2 yk2 yS2 yL2) (cmpT xk3 xS3 xL3 yk3 yS3 yL3))) ∧ Grew w w' := by
  have H1 := fun W => Compare_grew xk1 xS1 xL1 yk1 yS1 yL1 W
  have H2 := fun W => Compare_grew xk2 xS2 xL2 yk2 yS2 yL2 W
  have H3 := fun W => Compare_grew xk3 xS3 xL3 yk3 yS3 yL3 W
  generalize cmpT xk1 xS1 xL1 yk1 yS1 yL1 = c1 at H1 ⊢
  generalize cmpT xk2 xS2 xL2 yk2 yS2 yL2 = c2 at H2 ⊢
  generalize cmpT xk3 xS3 xL3 yk3 yS3 yL3 = c3 at H3 ⊢
  go_enter Tryz.func148, Tryz.ntmps148
  go_wp2_with fail
  go_region_held3 (fun W => W.cell? ⟨w.heap.size, 0, none⟩ = some (.int .i64 xk1) ∧ W.cell? ⟨w.heap.size, 1, none⟩ = some (.string ⟨xS1.toArray⟩) ∧ W.cell? ⟨w.heap.size, 2, none⟩ = some (.string ⟨xL1.toArray⟩) ∧ W.cell? ⟨w.heap.size, 3, none⟩ = some (.int .i64 xk2) ∧ W.cell? ⟨w.heap.size, 4, none⟩ = some (.string ⟨xS2.toArray⟩) ∧ W.cell? ⟨w.heap.size, 5, none⟩ = some (.string ⟨xL2.toArray⟩) ∧ W.cell? ⟨w.heap.size, 6, none⟩ = some (.int .i64 xk3) ∧ W.cell? ⟨w.heap.size, 7, none⟩ = some (.string ⟨xS3.toArray⟩) ∧ W.cell? ⟨w.heap.size, 8, none⟩ = some (.string ⟨xL3.toArray⟩) ∧ W.cell? ⟨w.heap.size + 1, 0, none⟩ = some (.int .i64 yk1) ∧ W.cell? ⟨w.heap.size + 1, 1, none⟩ = some (.string ⟨yS1.toArray⟩) ∧ W.cell? ⟨w.heap.size + 1, 2, none⟩ = some (.string ⟨yL1.toArray⟩) ∧ W.cell? ⟨w.heap.size + 1, 3, none⟩ = some (.int .i64 yk2) ∧ W.cell? ⟨w.heap.size + 1, 4, none⟩ = some (.string ⟨yS2.toArray⟩) ∧ W.cell? ⟨w.heap.size + 1, 5, none⟩ = some (.string ⟨yL2.toArray⟩) ∧ W.cell? ⟨w.heap.size + 1, 6, none⟩ = some (.int .i64 yk3) ∧ W.cell? ⟨w.heap.size + 1, 7, none⟩ = some (.string ⟨yS3.toArray⟩) ∧ W.cell? ⟨w.heap.size + 1, 8, none⟩ = some (.string ⟨yL3.toArray⟩)) (first | exact keep18 (by assumption) hb1 | exact keep18 (by assumption) hb2 | exact keep18 (by assumption) hb3 | go_keep) (first
    | (go_at_call_of 178 (Value.agg #[.int .i64 xk1, .string ⟨xS1.toArray⟩, .string ⟨xL1.toArray⟩]); refine (H1 _).mono ?_; rintro e w1 ⟨rfl, hb1⟩)
    | (go_at_call_of 178 (Value.agg #[.int .i64 xk2, .string ⟨xS2.toArray⟩, .string ⟨xL2.toArray⟩]); refine (H2 _).mono ?_; rintro e w2 ⟨rfl, hb2⟩)
    | (go_at_call_of 178 (Value.agg #[.int .i64 xk3, .string ⟨xS3.toArray⟩, .string ⟨xL3.toArray⟩]); refine (H3 _).mono ?_; rintro e w3 ⟨rfl, hb3⟩)
    | (go_at_call 177; refine (Or_any _ c1 c2 c3 _ (by go_simp) (by go_simp) (by go_simp)).mono ?_; rintro e w4 ⟨rfl, rfl⟩))
  go_wp2
  go_ret
  exact ⟨rfl, (((((grew_alloc _ _).trans (grew_alloc _ _)).drew.trans hb1).trans hb2).trans hb3).trans (grew_alloc _ _)⟩
end Go.Proofs.YtnphjdckdkjopaaGreatDoor

/- Triples as plain data; a row of them in memory; one that is read at a place. -/
namespace Go.Proofs.YtnphjdckdkjopaaGreatDoor
open Go Go.RowKit Go.Proofs

/-- a term: its kind, its text, its language; a triple: three terms -/
abbrev Tm := Int × List UInt8 × List UInt8
abbrev Tr := Tm × Tm × Tm

/-- a triple's nine cells -/
def encTr (x : Tr) : List Value := [.int .i64 x.1.1, .string ⟨x.1.2.1.toArray⟩, .string ⟨x.1.2.2.toArray⟩, .int .i64 x.2.1.1, .string ⟨x.2.1.2.1.toArray⟩, .string ⟨x.2.1.2.2.toArray⟩, .int .i64 x.2.2.1, .string ⟨x.2.2.2.1.toArray⟩, .string ⟨x.2.2.2.2.toArray⟩]
def cellsT (l : List Tr) : List Value := l.flatMap encTr
theorem encTr_len (x : Tr) : (encTr x).length = 9 := rfl
theorem encTr_one (x : Tr) : ∀ v ∈ encTr x, v.oneCell' = true := by
  intro v hv
  simp [encTr] at hv
  rcases hv with rfl | rfl | rfl | rfl | rfl | rfl | rfl | rfl | rfl <;> rfl
theorem cellsT_len (l : List Tr) : (cellsT l).length = l.length * 9 := by
  induction l with
  | nil => rfl
  | cons x r ih => simp only [cellsT, List.flatMap_cons, List.length_append, List.length_cons] at *; rw [ih, encTr_len]; omega
theorem cellsT_one (l : List Tr) : ∀ v ∈ cellsT l, v.oneCell' = true := by
  intro v hv
  simp only [cellsT, List.mem_flatMap] at hv
  obtain ⟨x, _, hx⟩ := hv
  exact encTr_one x v hx
theorem cellsT_at (l : List Tr) (i : Nat) (h : i < l.length) (j : Nat) (hj : j < 9) : (cellsT l)[i * 9 + j]? = (encTr l[i])[j]? := by
  induction l generalizing i with
  | nil => simp at h
  | cons x r ih =>
    simp only [cellsT, List.flatMap_cons] at *
    cases i with
    | zero => rw [List.getElem?_append_left (by rw [encTr_len]; omega)]; simp
    | succ n =>
      rw [List.getElem?_append_right (by rw [encTr_len]; omega), encTr_len, show (n + 1) * 9 + j - 9 = n * 9 + j by omega, ih n (by simpa using h)]
      simp

/-- the row of cells at a place is these triples' -/
def RowR (w : World) (b o : Nat) (l : List Tr) : Prop := ∀ j v, (cellsT l)[j]? = some v → w.cell? ⟨b, o + j, none⟩ = some v

theorem RowR.below {w w' : World} {b o : Nat} {l : List Tr} (h : RowR w b o l) (hb : Below w.heap.size w w') : RowR w' b o l := fun j v hv =>
  (hb.cell (World.block_lt_of_cell? w _ (h j v hv))).trans (h j v hv)

theorem RowR.at {w : World} {b o : Nat} {l : List Tr} (h : RowR w b o l) (i : Nat) (hi : i < l.length) :
    w.cell? ⟨b, o + i * 9, none⟩ = some (.int .i64 l[i].1.1) ∧ w.cell? ⟨b, o + i * 9 + 1, none⟩ = some (.string ⟨l[i].1.2.1.toArray⟩) ∧ w.cell? ⟨b, o + i * 9 + 2, none⟩ = some (.string ⟨l[i].1.2.2.toArray⟩)
    ∧ w.cell? ⟨b, o + i * 9 + 3, none⟩ = some (.int .i64 l[i].2.1.1) ∧ w.cell? ⟨b, o + i * 9 + 4, none⟩ = some (.string ⟨l[i].2.1.2.1.toArray⟩) ∧ w.cell? ⟨b, o + i * 9 + 5, none⟩ = some (.string ⟨l[i].2.1.2.2.toArray⟩)
    ∧ w.cell? ⟨b, o + i * 9 + 6, none⟩ = some (.int .i64 l[i].2.2.1) ∧ w.cell? ⟨b, o + i * 9 + 7, none⟩ = some (.string ⟨l[i].2.2.2.1.toArray⟩) ∧ w.cell? ⟨b, o + i * 9 + 8, none⟩ = some (.string ⟨l[i].2.2.2.2.toArray⟩) := by
  have q : ∀ j v, j < 9 → (encTr l[i])[j]? = some v → w.cell? ⟨b, o + i * 9 + j, none⟩ = some v := fun j v hj hv => by
    rw [Nat.add_assoc]; exact h _ v (by rw [cellsT_at l i hi j hj]; exact hv)
  exact ⟨q 0 _ (by omega) rfl, q 1 _ (by omega) rfl, q 2 _ (by omega) rfl, q 3 _ (by omega) rfl, q 4 _ (by omega) rfl, q 5 _ (by omega) rfl, q 6 _ (by omega) rfl, q 7 _ (by omega) rfl, q 8 _ (by omega) rfl⟩

/-- what is wrong with a triple; which of two is ahead; its texts are no longer than a text may be -/
def chkTr (x : Tr) : Int := check3 (checkN x.1.1 x.1.2.1 x.1.2.2) (checkN x.2.1.1 x.2.1.2.1 x.2.1.2.2) (checkN x.2.2.1 x.2.2.2.1 x.2.2.2.2) x.1.1 x.2.1.1
def cmpTm (x y : Tm) : Int := cmpT x.1 x.2.1 x.2.2 y.1 y.2.1 y.2.2
def cmpTr (x y : Tr) : Int := orI (cmpTm x.1 y.1) (cmpTm x.2.1 y.2.1) (cmpTm x.2.2 y.2.2)
def fitTr (x : Tr) : Prop := (x.1.2.1.length ≤ maxLen ∧ x.1.2.2.length ≤ maxLen) ∧ (x.2.1.2.1.length ≤ maxLen ∧ x.2.1.2.2.length ≤ maxLen) ∧ (x.2.2.2.1.length ≤ maxLen ∧ x.2.2.2.2.length ≤ maxLen)
def valTr (x : Tr) : Value := .agg #[.int .i64 x.1.1, .string ⟨x.1.2.1.toArray⟩, .string ⟨x.1.2.2.toArray⟩, .int .i64 x.2.1.1, .string ⟨x.2.1.2.1.toArray⟩, .string ⟨x.2.1.2.2.toArray⟩, .int .i64 x.2.2.1, .string ⟨x.2.2.2.1.toArray⟩, .string ⟨x.2.2.2.2.toArray⟩]

theorem ChkTr_any (x : Tr) (w : World) (hx : fitTr x) : Calls Tryz.prog 147 #[valTr x] w fun e w' => e = .returned (errV (chkTr x)) ∧ Below w.heap.size w w' :=
  TCheck_any _ _ _ _ _ _ _ _ _ w hx.1.1 hx.1.2 hx.2.1.1 hx.2.1.2 hx.2.2.1 hx.2.2.2
theorem CmpTr_any (x y : Tr) (w : World) : Calls Tryz.prog 148 #[valTr x, valTr y] w fun e w' => e = .returned (.int .i64 (cmpTr x y)) ∧ Grew w w' :=
  TCompare_grew _ _ _ _ _ _ _ _ _ _ _ _ _ _ _ _ _ _ w

set_option maxHeartbeats 1000000 in
theorem sortFault_any (b o cap bl : Nat) (l : List Tr) (i : Nat) (w : World) (hi : i < l.length) (hx : fitTr l[i])
    (hbox : w.cell? ⟨bl, 0, none⟩ = some (.slice (some ⟨b, o, none⟩) l.length cap)) (hrow : RowR w b o l) :
    Calls Tryz.prog 211 #[.int .i64 i, .pointer (some ⟨bl, 0, none⟩)] w fun e w' => e = .returned (errV (chkTr l[i])) ∧ Below w.heap.size w w' := by
  have H := fun W => ChkTr_any l[i] W hx
  obtain ⟨c0, c1, c2, c3, c4, c5, c6, c7, c8⟩ := hrow.at i hi
  clear hrow hx
  go_enter Tryz.func211, Tryz.ntmps211
  go_wp2_with fail
  refine (H _).mono ?_
  rintro e w1 ⟨rfl, hb1⟩
  go_wp2_with fail
  go_ret
  exact ⟨rfl, hb1⟩

theorem chk_zero {x : Tr} (h : chkTr x = 0) : checkN x.1.1 x.1.2.1 x.1.2.2 = 0 ∧ checkN x.2.1.1 x.2.1.2.1 x.2.1.2.2 = 0 ∧ checkN x.2.2.1 x.2.2.2.1 x.2.2.2.2 = 0 ∧ shapeB x.1.1 x.2.1.1 = false := by
  unfold chkTr check3 at h
  by_cases h1 : checkN x.1.1 x.1.2.1 x.1.2.2 = 0
  · rw [if_pos h1] at h
    by_cases h2 : checkN x.2.1.1 x.2.1.2.1 x.2.1.2.2 = 0
    · rw [if_pos h2] at h
      by_cases h3 : checkN x.2.2.1 x.2.2.2.1 x.2.2.2.2 = 0
      · rw [if_pos h3] at h
        cases h4 : shapeB x.1.1 x.2.1.1
        · exact ⟨h1, h2, h3, rfl⟩
        · rw [h4] at h; simp at h
      · rw [if_neg h3] at h; exact absurd h h3
    · rw [if_neg h2] at h; exact absurd h h2
  · rw [if_neg h1] at h; exact absurd h h1

end Go.Proofs.YtnphjdckdkjopaaGreatDoor

/- Terms are in one order: plain lists, no program. -/
namespace Go.Proofs.YtnphjdckdkjopaaGreatDoor
open Go Go.RowKit Go.Proofs

/-! ### one order -/
theorem cb_zero (a : List UInt8) : ∀ b, Lib.compareBytes a b = 0 ↔ a = b := by
  induction a with
  | nil => intro b; cases b <;> simp [Lib.compareBytes]
  | cons x xs ih =>
    intro b
    cases b with
    | nil => simp [Lib.compareBytes]
    | cons y ys =>
      by_cases h1 : x < y
      · simp [Lib.compareBytes, h1]; intro h; subst h; exact absurd h1 (by simp)
      · by_cases h2 : y < x
        · simp [Lib.compareBytes, h1, h2]; intro h; subst h; exact absurd h2 (by simp)
        · have : x = y := UInt8.le_antisymm (UInt8.not_lt.1 h2) (UInt8.not_lt.1 h1)
          subst this
          simp [Lib.compareBytes, ih]

theorem cb_neg (a : List UInt8) : ∀ b, Lib.compareBytes b a = - Lib.compareBytes a b := by
  induction a with
  | nil => intro b; cases b <;> simp [Lib.compareBytes]
  | cons x xs ih =>
    intro b
    cases b with
    | nil => simp [Lib.compareBytes]
    | cons y ys =>
      by_cases h1 : x < y
      · have h3 : ¬ y < x := fun h => by have := UInt8.lt_iff_toNat_lt.1 h; have := UInt8.lt_iff_toNat_lt.1 h1; omega
        simp [Lib.compareBytes, h1, h3]
      · by_cases h2 : y < x
        · simp [Lib.compareBytes, h1, h2]
        · simp [Lib.compareBytes, h1, h2, ih]

theorem cb_trans (a : List UInt8) : ∀ b c, Lib.compareBytes a b ≤ 0 → Lib.compareBytes b c ≤ 0 → Lib.compareBytes a c ≤ 0 := by
  induction a with
  | nil => intro b c _ _; cases c <;> simp [Lib.compareBytes]
  | cons x xs ih =>
    intro b c h1 h2
    cases b with
    | nil => simp [Lib.compareBytes] at h1
    | cons y ys =>
      cases c with
      | nil => simp [Lib.compareBytes] at h2
      | cons z zs =>
        by_cases a1 : x < y
        · by_cases a2 : y < z
          · have : x < z := UInt8.lt_iff_toNat_lt.2 (by have := UInt8.lt_iff_toNat_lt.1 a1; have := UInt8.lt_iff_toNat_lt.1 a2; omega)
            simp [Lib.compareBytes, this]
          · by_cases a3 : z < y
            · simp [Lib.compareBytes, a2, a3] at h2
            · have : y = z := UInt8.le_antisymm (UInt8.not_lt.1 a3) (UInt8.not_lt.1 a2)
              subst this
              simp [Lib.compareBytes, a1]
        · by_cases a0 : y < x
          · simp [Lib.compareBytes, a1, a0] at h1
          · have : x = y := UInt8.le_antisymm (UInt8.not_lt.1 a0) (UInt8.not_lt.1 a1)
            subst this
            by_cases a2 : x < z
            · simp [Lib.compareBytes, a2]
            · by_cases a3 : z < x
              · simp [Lib.compareBytes, a2, a3] at h2
              · simp only [Lib.compareBytes, a1, a2, a3, if_false] at h1 h2 ⊢
                exact ih ys zs h1 h2

theorem ci_zero (a b : Int) : Lib.compareInt a b = 0 ↔ a = b := by
  unfold Lib.compareInt; split
  · omega
  · split <;> omega
theorem ci_neg (a b : Int) : Lib.compareInt b a = - Lib.compareInt a b := by
  unfold Lib.compareInt
  repeat' split
  all_goals omega
theorem ci_trans (a b c : Int) (h1 : Lib.compareInt a b ≤ 0) (h2 : Lib.compareInt b c ≤ 0) : Lib.compareInt a c ≤ 0 := by
  unfold Lib.compareInt at *
  repeat' split
  all_goals (repeat' split at h1)
  all_goals (repeat' split at h2)
  all_goals omega

theorem cmpT_zero (k : Int) (S L : List UInt8) (k' : Int) (S' L' : List UInt8) : cmpT k S L k' S' L' = 0 ↔ k = k' ∧ S = S' ∧ L = L' := by
  have h1 := ci_zero k k'
  have h2 := cb_zero S S'
  have h3 := cb_zero L L'
  unfold cmpT orI
  by_cases q1 : Lib.compareInt k k' = 0
  · rw [if_pos q1]
    by_cases q2 : Lib.compareBytes S S' = 0
    · rw [if_pos q2]
      exact ⟨fun h => ⟨h1.1 q1, h2.1 q2, h3.1 h⟩, fun h => h3.2 h.2.2⟩
    · rw [if_neg q2]
      exact ⟨fun h => absurd h q2, fun h => absurd (h2.2 h.2.1) q2⟩
  · rw [if_neg q1]
    exact ⟨fun h => absurd h q1, fun h => absurd (h1.2 h.1) q1⟩

theorem cmpT_neg (k : Int) (S L : List UInt8) (k' : Int) (S' L' : List UInt8) : cmpT k S L k' S' L' = - cmpT k' S' L' k S L := by
  unfold cmpT orI
  rw [ci_neg k k', cb_neg S S', cb_neg L L']
  repeat' split
  all_goals omega

theorem orI_le (x y z : Int) : orI x y z ≤ 0 ↔ x < 0 ∨ (x = 0 ∧ (y < 0 ∨ (y = 0 ∧ z ≤ 0))) := by
  unfold orI
  by_cases h : x = 0
  · by_cases h' : y = 0
    · simp [h, h']
    · rw [if_pos h, if_neg h']; omega
  · rw [if_neg h]; omega

theorem cmpT_trans (k1 : Int) (S1 L1 : List UInt8) (k2 : Int) (S2 L2 : List UInt8) (k3 : Int) (S3 L3 : List UInt8)
    (h12 : cmpT k1 S1 L1 k2 S2 L2 ≤ 0) (h23 : cmpT k2 S2 L2 k3 S3 L3 ≤ 0) : cmpT k1 S1 L1 k3 S3 L3 ≤ 0 := by
  have a1 := ci_trans k1 k2 k3
  have a2 := cb_trans S1 S2 S3
  have a3 := cb_trans L1 L2 L3
  have b1 : Lib.compareInt k1 k3 = 0 → Lib.compareInt k2 k3 = - Lib.compareInt k1 k2 := fun h => by
    have := (ci_zero _ _).1 h; subst this; exact ci_neg _ _
  have b2 : Lib.compareBytes S1 S3 = 0 → Lib.compareBytes S2 S3 = - Lib.compareBytes S1 S2 := fun h => by
    have := (cb_zero _ _).1 h; subst this; exact cb_neg _ _
  have c1 : Lib.compareInt k1 k2 = 0 → Lib.compareInt k1 k3 = Lib.compareInt k2 k3 := fun h => by
    have := (ci_zero _ _).1 h; subst this; rfl
  have c2 : Lib.compareBytes S1 S2 = 0 → Lib.compareBytes S1 S3 = Lib.compareBytes S2 S3 := fun h => by
    have := (cb_zero _ _).1 h; subst this; rfl
  unfold cmpT at *
  rw [orI_le] at *
  generalize Lib.compareInt k1 k2 = x12 at *
  generalize Lib.compareInt k2 k3 = x23 at *
  generalize Lib.compareInt k1 k3 = x13 at *
  generalize Lib.compareBytes S1 S2 = y12 at *
  generalize Lib.compareBytes S2 S3 = y23 at *
  generalize Lib.compareBytes S1 S3 = y13 at *
  generalize Lib.compareBytes L1 L2 = z12 at *
  generalize Lib.compareBytes L2 L3 = z23 at *
  generalize Lib.compareBytes L1 L3 = z13 at *
  omega
end Go.Proofs.YtnphjdckdkjopaaGreatDoor

/- '==' on two terms; which of two is ahead, in numbers. -/
namespace Go.Proofs.YtnphjdckdkjopaaGreatDoor
open Go Go.RowKit Go.Proofs

def eqTB (k : Int) (S L : List UInt8) (k' : Int) (S' L' : List UInt8) : Bool := k == k' && (S == S' && L == L')

theorem eqTB_iff (k : Int) (S L : List UInt8) (k' : Int) (S' L' : List UInt8) : eqTB k S L k' S' L' = true ↔ k = k' ∧ S = S' ∧ L = L' := by simp [eqTB]

theorem toList_mk (l : List UInt8) : (⟨l.toArray⟩ : ByteArray).toList = l := by rw [ByteArray.toList_eq]

theorem equalTerm (k : Int) (S L : List UInt8) (k' : Int) (S' L' : List UInt8) (w : World) :
    (Op.equalIn 10000 39 (.agg #[.int .i64 k, .string ⟨S.toArray⟩, .string ⟨L.toArray⟩]) (.agg #[.int .i64 k', .string ⟨S'.toArray⟩, .string ⟨L'.toArray⟩])).run Tryz.prog w = .ok (eqTB k S L k' S' L') w := by
  have hS : Tryz.prog.underlying 39 = some (.struct (Tryz.prog.fieldsOf 39)) := by kernel_rfl
  rw [show (10000 : Nat) = 9999 + 1 from rfl, run_equalIn_agg w 9999 39 _ _ hS (by kernel_rfl)]
  simp only [Program.fieldsOf, Tryz.underlying39]
  go_simp
  unfold eqTB
  by_cases h1 : k = k' <;> by_cases h2 : S = S' <;> by_cases h3 : L = L' <;> simp [h1, h2, h3]

theorem cb_range (a : List UInt8) : ∀ b, -1 ≤ Lib.compareBytes a b ∧ Lib.compareBytes a b ≤ 1 := by
  induction a with
  | nil => intro b; cases b <;> simp [Lib.compareBytes]
  | cons x xs ih =>
    intro b
    cases b with
    | nil => simp [Lib.compareBytes]
    | cons y ys =>
      by_cases h1 : x < y
      · simp [Lib.compareBytes, h1]
      · by_cases h2 : y < x
        · simp [Lib.compareBytes, h1, h2]
        · simp only [Lib.compareBytes, h1, h2, if_false]; exact ih ys
theorem ci_range (a b : Int) : -1 ≤ Lib.compareInt a b ∧ Lib.compareInt a b ≤ 1 := by
  unfold Lib.compareInt
  repeat' split
  all_goals omega
theorem cmpT_range (k : Int) (S L : List UInt8) (k' : Int) (S' L' : List UInt8) : -1 ≤ cmpT k S L k' S' L' ∧ cmpT k S L k' S' L' ≤ 1 := by
  have h1 := ci_range k k'
  have h2 := cb_range S S'
  have h3 := cb_range L L'
  unfold cmpT orI
  repeat' split
  all_goals omega
theorem cmp_eq (k : Int) (S L : List UInt8) (k' : Int) (S' L' : List UInt8) : (cmpT k S L k' S' L' == 0) = eqTB k S L k' S' L' := by
  rw [Bool.eq_iff_iff, eqTB_iff, beq_iff_eq, cmpT_zero]
theorem cmp_neg_beq (k : Int) (S L : List UInt8) (k' : Int) (S' L' : List UInt8) : (cmpT k S L k' S' L' == - cmpT k' S' L' k S L) = true := by
  rw [beq_iff_eq]; exact cmpT_neg k S L k' S' L'
theorem cmp_tri (k1 : Int) (S1 L1 : List UInt8) (k2 : Int) (S2 L2 : List UInt8) (k3 : Int) (S3 L3 : List UInt8) :
    (0 < cmpT k1 S1 L1 k2 S2 L2) ∨ (¬ 0 < cmpT k1 S1 L1 k2 S2 L2 ∧ 0 < cmpT k2 S2 L2 k3 S3 L3) ∨ (¬ 0 < cmpT k1 S1 L1 k2 S2 L2 ∧ ¬ 0 < cmpT k2 S2 L2 k3 S3 L3 ∧ cmpT k1 S1 L1 k3 S3 L3 ≤ 0) := by
  have := cmpT_trans k1 S1 L1 k2 S2 L2 k3 S3 L3
  omega

end Go.Proofs.YtnphjdckdkjopaaGreatDoor

/- '==' on two triples. -/
namespace Go.Proofs.YtnphjdckdkjopaaGreatDoor
open Go Go.RowKit Go.Proofs

theorem tr_eq (x y : Tr) : decide (x = y) = (eqTB x.1.1 x.1.2.1 x.1.2.2 y.1.1 y.1.2.1 y.1.2.2 && (eqTB x.2.1.1 x.2.1.2.1 x.2.1.2.2 y.2.1.1 y.2.1.2.1 y.2.1.2.2 && eqTB x.2.2.1 x.2.2.2.1 x.2.2.2.2 y.2.2.1 y.2.2.2.1 y.2.2.2.2)) := by
  obtain ⟨⟨k1, s1, l1⟩, ⟨k2, s2, l2⟩, ⟨k3, s3, l3⟩⟩ := x
  obtain ⟨⟨k1', s1', l1'⟩, ⟨k2', s2', l2'⟩, ⟨k3', s3', l3'⟩⟩ := y
  rw [Bool.eq_iff_iff]
  simp only [decide_eq_true_eq, Bool.and_eq_true, eqTB_iff, Prod.mk.injEq]

set_option maxRecDepth 100000 in
set_option maxHeartbeats 1000000 in
theorem equalTriple (x y : Tr) (w : World) :
    (Op.equalIn 10000 41 (.agg #[.int .i64 x.1.1, .string ⟨x.1.2.1.toArray⟩, .string ⟨x.1.2.2.toArray⟩, .int .i64 x.2.1.1, .string ⟨x.2.1.2.1.toArray⟩, .string ⟨x.2.1.2.2.toArray⟩, .int .i64 x.2.2.1, .string ⟨x.2.2.2.1.toArray⟩, .string ⟨x.2.2.2.2.toArray⟩])
      (.agg #[.int .i64 y.1.1, .string ⟨y.1.2.1.toArray⟩, .string ⟨y.1.2.2.toArray⟩, .int .i64 y.2.1.1, .string ⟨y.2.1.2.1.toArray⟩, .string ⟨y.2.1.2.2.toArray⟩, .int .i64 y.2.2.1, .string ⟨y.2.2.2.1.toArray⟩, .string ⟨y.2.2.2.2.toArray⟩])).run Tryz.prog w = .ok (decide (x = y)) w := by
  have hS : Tryz.prog.underlying 41 = some (.struct (Tryz.prog.fieldsOf 41)) := by kernel_rfl
  rw [show (10000 : Nat) = 9999 + 1 from rfl, run_equalIn_agg w 9999 41 _ _ hS (by kernel_rfl), tr_eq]
  simp only [Program.fieldsOf, Tryz.underlying41]
  unfold eqTB
  go_simp
  by_cases h0 : x.1.1 = y.1.1
  rotate_left
  · simp [h0]
  by_cases h1 : x.1.2.1 = y.1.2.1
  rotate_left
  · simp [h0, h1]
  by_cases h2 : x.1.2.2 = y.1.2.2
  rotate_left
  · simp [h0, h1, h2]
  by_cases h3 : x.2.1.1 = y.2.1.1
  rotate_left
  · simp [h0, h1, h2, h3]
  by_cases h4 : x.2.1.2.1 = y.2.1.2.1
  rotate_left
  · simp [h0, h1, h2, h3, h4]
  by_cases h5 : x.2.1.2.2 = y.2.1.2.2
  rotate_left
  · simp [h0, h1, h2, h3, h4, h5]
  by_cases h6 : x.2.2.1 = y.2.2.1
  rotate_left
  · simp [h0, h1, h2, h3, h4, h5, h6]
  by_cases h7 : x.2.2.2.1 = y.2.2.2.1
  rotate_left
  · simp [h0, h1, h2, h3, h4, h5, h6, h7]
  by_cases h8 : x.2.2.2.2 = y.2.2.2.2
  rotate_left
  · simp [h0, h1, h2, h3, h4, h5, h6, h7, h8]
  simp [h0, h1, h2, h3, h4, h5, h6, h7, h8]

theorem eqlTriple (x y : Tr) (w : World) : (binOp .eql 41 (.agg #[.int .i64 x.1.1, .string ⟨x.1.2.1.toArray⟩, .string ⟨x.1.2.2.toArray⟩, .int .i64 x.2.1.1, .string ⟨x.2.1.2.1.toArray⟩, .string ⟨x.2.1.2.2.toArray⟩, .int .i64 x.2.2.1, .string ⟨x.2.2.2.1.toArray⟩, .string ⟨x.2.2.2.2.toArray⟩]) (.agg #[.int .i64 y.1.1, .string ⟨y.1.2.1.toArray⟩, .string ⟨y.1.2.2.toArray⟩, .int .i64 y.2.1.1, .string ⟨y.2.1.2.1.toArray⟩, .string ⟨y.2.1.2.2.toArray⟩, .int .i64 y.2.2.1, .string ⟨y.2.2.2.1.toArray⟩, .string ⟨y.2.2.2.2.toArray⟩])).run Tryz.prog w = .ok (.bool (decide (x = y))) w := by
  rw [run_eql_struct, equalTriple]; rfl
theorem neqTriple (x y : Tr) (w : World) : (binOp .neq 41 (.agg #[.int .i64 x.1.1, .string ⟨x.1.2.1.toArray⟩, .string ⟨x.1.2.2.toArray⟩, .int .i64 x.2.1.1, .string ⟨x.2.1.2.1.toArray⟩, .string ⟨x.2.1.2.2.toArray⟩, .int .i64 x.2.2.1, .string ⟨x.2.2.2.1.toArray⟩, .string ⟨x.2.2.2.2.toArray⟩]) (.agg #[.int .i64 y.1.1, .string ⟨y.1.2.1.toArray⟩, .string ⟨y.1.2.2.toArray⟩, .int .i64 y.2.1.1, .string ⟨y.2.1.2.1.toArray⟩, .string ⟨y.2.1.2.2.toArray⟩, .int .i64 y.2.2.1, .string ⟨y.2.2.2.1.toArray⟩, .string ⟨y.2.2.2.2.toArray⟩])).run Tryz.prog w = .ok (.bool (!decide (x = y))) w := by
  rw [run_neq_struct, equalTriple]; rfl
end Go.Proofs.YtnphjdckdkjopaaGreatDoor

/- slices.Compact at triples: the library's own text, walked. -/
namespace Go.Proofs.YtnphjdckdkjopaaGreatDoor
open Go Go.RowKit Go.Proofs Go.Sort Go.Lib
set_option synthInstance.maxSize 1000

/-- one triple stored in the row -/
theorem setMany_one (d : Array Tr) (i : Nat) (x : Tr) (hi : i < d.size) : setMany (flatK encTr 9 d) (i * 9) (encTr x) = flatK encTr 9 (d.setIfInBounds i x) := by
  refine ext_get! (by simp) fun t ht => ?_
  have ht' : t < d.size * 9 := by simpa using ht
  rw [get_setMany _ _ _ t (by simpa using ht'), get_flatK _ _ _ t ht', get_flatK _ _ _ t (by simpa using ht'), encTr_len]
  by_cases a : t / 9 = i
  · rw [if_pos ((blk_iff 9 i t (by omega)).2 a), a, getElem!_set_same d i x hi, show t - i * 9 = t % 9 by omega]
  · rw [if_neg (fun h => a ((blk_iff 9 i t (by omega)).1 h)), getElem!_set_other d i (t / 9) x a]
theorem putRowK_one (w : World) (b o : Nat) (d : Array Tr) (i : Nat) (x : Tr) (hi : i < d.size) : (putRowK encTr 9 w b o d).setCells b (o + i * 9) (encTr x) = putRowK encTr 9 w b o (d.setIfInBounds i x) := by
  unfold putRowK
  rw [setCells_putRow w b o (encTr x) (i * 9) _ (by rw [encTr_len, size_flatK]; omega), setMany_one d i x hi]

theorem setCells_append (w : World) (b : Nat) (xs ys : List Value) (o : Nat) : w.setCells b o (xs ++ ys) = (w.setCells b o xs).setCells b (o + xs.length) ys := by
  induction xs generalizing w o with
  | nil => rfl
  | cons v r ih => simp only [List.cons_append, World.setCells, ih, List.length_cons]; rw [show o + 1 + r.length = o + (r.length + 1) by omega]

/-- triples stored one behind the other -/
theorem putRowK_many (w : World) (b o : Nat) : ∀ (xs : List Tr) (d : Array Tr) (k : Nat), k + xs.length ≤ d.size → (putRowK encTr 9 w b o d).setCells b (o + k * 9) (cellsT xs) = putRowK encTr 9 w b o (lay d k xs)
  | [], _, _, _ => rfl
  | x :: r, d, k, h => by
    have hl : k + (r.length + 1) ≤ d.size := by simpa using h
    rw [show cellsT (x :: r) = encTr x ++ cellsT r by simp [cellsT], setCells_append, putRowK_one w b o d k x (by omega), encTr_len, lay, show o + k * 9 + 9 = o + (k + 1) * 9 by omega]
    exact putRowK_many w b o r _ (k + 1) (by simp; omega)

def zeroTr : Tr := ⟨⟨0, [], []⟩, ⟨0, [], []⟩, ⟨0, [], []⟩⟩

theorem zeroCellsT (z : Array Value) (hz : z = (encTr zeroTr).toArray) (n : Nat) : (Builtin.zeroCells z n).toList = cellsT (List.replicate n zeroTr) := by
  subst hz
  have hl : (cellsT (List.replicate n zeroTr)).length = n * 9 := by rw [cellsT_len]; simp
  have hs : (encTr zeroTr).toArray.size = 9 := rfl
  apply List.ext_getElem?
  intro j
  by_cases hj : j < n * 9
  · have h1 : (cellsT (List.replicate n zeroTr))[j]? = (encTr zeroTr)[j % 9]? := by
      have := cellsT_at (List.replicate n zeroTr) (j / 9) (by simp; omega) (j % 9) (by omega)
      rw [show j / 9 * 9 + j % 9 = j by omega] at this
      rw [this]; simp
    rw [h1]
    have h9 : j % 9 < 9 := Nat.mod_lt _ (by omega)
    rw [List.getElem?_eq_getElem (show j % 9 < (encTr zeroTr).length from h9)]
    simp [Builtin.zeroCells, hs, hj]
    rw [List.getElem?_eq_getElem (show j % 9 < (encTr zeroTr).length from h9)]
    rfl
  · have a : (Builtin.zeroCells (encTr zeroTr).toArray n).toList.length ≤ j := by simp [Builtin.zeroCells, encTr_len]; omega
    rw [List.getElem?_eq_none a, List.getElem?_eq_none (by rw [hl]; omega)]

theorem run_clearT (w : World) (ty : TypeId) (b o n c : Nat) (hn : 0 < n) (hc : ∀ j, j < n * 9 → (w.cell? ⟨b, o + j, none⟩).isSome = true) (hf : ∀ j, j < n * 9 → w.frozen? ⟨b, o + j, none⟩ = false) :
    (Builtin.clear_ #[42] ty #[.slice (some ⟨b, o, none⟩) n c]).run Tryz.prog w = .ok (.tuple #[]) (w.setCells b o (cellsT (List.replicate n zeroTr))) := by
  have hlen : (cellsT (List.replicate n zeroTr)).length = n * 9 := by rw [cellsT_len]; simp
  have hst := run_storeCells_cells (P := Tryz.prog) b o (cellsT (List.replicate n zeroTr)) 0 w (by rw [hlen]; simpa using hc) (by rw [hlen]; simpa using hf) (cellsT_one _)
  simp only [Nat.add_zero] at hst
  obtain ⟨z, hz, hz'⟩ : ∃ z, (∀ w, (zeroValue 41).run Tryz.prog w = .ok z w) ∧ z.cells = (encTr zeroTr).toArray := ⟨_, Tryz.zeroValue41, rfl⟩
  have hzc := zeroCellsT z.cells hz' n
  obtain ⟨m, rfl⟩ : ∃ m, n = m + 1 := ⟨n - 1, by omega⟩
  simp [Builtin.clear_, run_underlying Tryz.underlying42, hz, hzc, hst]

theorem store9 (W : World) (b p : Nat) (x : Tr) : (((((((((W.setCell ⟨b, p, none⟩ (.int .i64 x.1.1)).setCell ⟨b, p + 1, none⟩ (.string ⟨x.1.2.1.toArray⟩)).setCell ⟨b, p + 2, none⟩ (.string ⟨x.1.2.2.toArray⟩)).setCell ⟨b, p + 3, none⟩ (.int .i64 x.2.1.1)).setCell ⟨b, p + 4, none⟩ (.string ⟨x.2.1.2.1.toArray⟩)).setCell ⟨b, p + 5, none⟩ (.string ⟨x.2.1.2.2.toArray⟩)).setCell ⟨b, p + 6, none⟩ (.int .i64 x.2.2.1)).setCell ⟨b, p + 7, none⟩ (.string ⟨x.2.2.2.1.toArray⟩)).setCell ⟨b, p + 8, none⟩ (.string ⟨x.2.2.2.2.toArray⟩)) = W.setCells b p (encTr x) := rfl
theorem store_world {w wr : World} {q b o kk : Nat} {dk : Array Tr} (u : Tr) (h : wr = putRowK encTr 9 (Sort.ahead w q) b o dk) (hi : kk < dk.size) :
    (wr.setCells b (o + kk * 9) (encTr u)).drew = putRowK encTr 9 (Sort.ahead w (q + 1)) b o (dk.setIfInBounds kk u) := by
  subst h
  rw [putRowK_one _ b o dk kk u hi]
  exact putRowK_drewN encTr 9 w q 1 b o _

/-- the nine cells of a place of the row -/
theorem cells9 {w : World} {b o : Nat} {d : Array Tr} (h : HoldsK encTr 9 w b o d) (i : Nat) (hi : i < d.size) (x : Tr) (hx : d[i]! = x) (p : Nat) (hp : p = o + i * 9) :
    (w.cell? ⟨b, p, none⟩ = some (.int .i64 x.1.1) ∧ w.cell? ⟨b, p + 1, none⟩ = some (.string ⟨x.1.2.1.toArray⟩) ∧ w.cell? ⟨b, p + 2, none⟩ = some (.string ⟨x.1.2.2.toArray⟩)
    ∧ w.cell? ⟨b, p + 3, none⟩ = some (.int .i64 x.2.1.1) ∧ w.cell? ⟨b, p + 4, none⟩ = some (.string ⟨x.2.1.2.1.toArray⟩) ∧ w.cell? ⟨b, p + 5, none⟩ = some (.string ⟨x.2.1.2.2.toArray⟩)
    ∧ w.cell? ⟨b, p + 6, none⟩ = some (.int .i64 x.2.2.1) ∧ w.cell? ⟨b, p + 7, none⟩ = some (.string ⟨x.2.2.2.1.toArray⟩) ∧ w.cell? ⟨b, p + 8, none⟩ = some (.string ⟨x.2.2.2.2.toArray⟩))
    ∧ (w.frozen? ⟨b, p, none⟩ = false ∧ w.frozen? ⟨b, p + 1, none⟩ = false ∧ w.frozen? ⟨b, p + 2, none⟩ = false ∧ w.frozen? ⟨b, p + 3, none⟩ = false ∧ w.frozen? ⟨b, p + 4, none⟩ = false ∧ w.frozen? ⟨b, p + 5, none⟩ = false ∧ w.frozen? ⟨b, p + 6, none⟩ = false ∧ w.frozen? ⟨b, p + 7, none⟩ = false ∧ w.frozen? ⟨b, p + 8, none⟩ = false) := by
  subst hp
  have q := fun c (hc : c < 9) => h.cell hi hc
  rw [hx] at q
  exact ⟨⟨(q 0 (by omega)).1, (q 1 (by omega)).1, (q 2 (by omega)).1, (q 3 (by omega)).1, (q 4 (by omega)).1, (q 5 (by omega)).1, (q 6 (by omega)).1, (q 7 (by omega)).1, (q 8 (by omega)).1⟩,
    ⟨(q 0 (by omega)).2, (q 1 (by omega)).2, (q 2 (by omega)).2, (q 3 (by omega)).2, (q 4 (by omega)).2, (q 5 (by omega)).2, (q 6 (by omega)).2, (q 7 (by omega)).2, (q 8 (by omega)).2⟩⟩

/-- what Compact leaves in the row: what is kept, then zero triples -/
def compRow (d : Array Tr) : Array Tr := (compactUpTo d d.size ++ List.replicate (d.size - (compactUpTo d d.size).length) zeroTr).toArray
theorem compRow_all (d : Array Tr) (h : ∀ j, j < d.size → keeps d j = true) : (compactUpTo d d.size).length = d.size ∧ compRow d = d := by
  have e : compactUpTo d d.size = d.toList := by rw [compactUpTo_all d _ h, range_map_get]
  unfold compRow
  rw [e]
  exact ⟨by simp, by simp⟩

attribute [local go_sem ↓] eqlTriple neqTriple

set_option maxHeartbeats 8000000 in
set_option maxRecDepth 1000000 in
theorem Compact_any (b o cap : Nat) (d : Array Tr) (w : World) (hH : HoldsK encTr 9 w b o d) (hsz : d.size ≤ 200) (hcap : d.size ≤ cap) :
    Calls Tryz.prog 213 #[.slice (some ⟨b, o, none⟩) d.size cap] w fun e w' => e = .returned (.slice (some ⟨b, o, none⟩) (compactUpTo d d.size).length cap) ∧ ∃ q, w' = putRowK encTr 9 (Sort.ahead w q) b o (compRow d) := by
  have HH : Hid (HoldsK encTr 9 w b o d) := hH
  have same : Hid (∀ q, (∀ j, j < d.size → keeps d j = true) → (compactUpTo d d.size).length = d.size ∧ w.drewN q = putRowK encTr 9 (Sort.ahead w q) b o (compRow d)) := by
    intro q hall
    obtain ⟨h1, h2⟩ := compRow_all d hall
    exact ⟨h1, by rw [h2]; exact (putRowK_self encTr 9 (Sort.ahead w q) b o d (holdsK_ahead encTr 9 w q b o d HH.out)).symm⟩
  clear hH
  by_cases h2 : d.size < 2
  · go_enter Tryz.func213, Tryz.ntmps213
    go_wp2
    go_ret
    obtain ⟨e1, e2⟩ := same.out 0 (fun j hj => keeps_lt_one d j (by omega))
    exact ⟨by rw [e1]; rfl, 0, e2⟩
  · go_enter Tryz.func213, Tryz.ntmps213
    go_wp2
    go_loopg [3] d.size (fun g s3 wr => ∃ k q : Nat, 1 ≤ k ∧ k ≤ d.size ∧ d.size - k ≤ g ∧ s3 = .int .i64 k ∧ wr = w.drewN q ∧ ∀ j, j < k → keeps d j = true)
    case atStart => exact ⟨1, 0, Nat.le_refl _, by omega, by omega, rfl, rfl, keeps_lt_one d⟩
    case round =>
      obtain ⟨k, q, hk1, hk, hg, rfl, rfl, hall0⟩ := hrel
      have hall : Hid (∀ j, j < k → keeps d j = true) := hall0
      clear hall0
      by_cases hlt : k < d.size
      · obtain ⟨m, hm⟩ : ∃ m, k = m + 1 := ⟨k - 1, by omega⟩
        have hwr : IntKind.i64.wrap ((k : Int) - 1) = (m : Int) := by subst hm; simp [IntKind.wrap, IntKind.bits, IntKind.signed]; omega
        have i0 : (0 : Int) ≤ (m : Int) := by omega
        have i1 : (m : Int) < (d.size : Int) := by omega
        have i2 : (0 : Int) ≤ (k : Int) := by omega
        have i3 : (k : Int) < (d.size : Int) := by omega
        generalize hx : d[k]! = x
        generalize hy : d[m]! = y
        obtain ⟨⟨c0, c1, c2, c3, c4, c5, c6, c7, c8⟩, _⟩ := cells9 HH.out k hlt x hx _ rfl
        obtain ⟨⟨e0, e1, e2, e3, e4, e5, e6, e7, e8⟩, _⟩ := cells9 HH.out m (by omega) y hy _ rfl
        have B : Hid (d[k]! = x ∧ d[m]! = y ∧ k = m + 1) := ⟨hx, hy, hm⟩
        clear hx hy hm
        by_cases hdup : x = y
        · have hd : decide (x = y) = true := by simpa using hdup
          go_wp2_with fail
          go_region
          go_wp2
          clear c0 c1 c2 c3 c4 c5 c6 c7 c8 e0 e1 e2 e3 e4 e5 e6 e7 e8
          have KN : Hid (keeps d k = false) := keeps_neg (by omega) (by rw [B.out.1, show k - 1 = m by have := B.out.2.2; omega, B.out.2.1]; exact hdup)
          clear hd hdup B
          go_loopg [3, 5] d.size (fun g s3 s5 wr => ∃ (kk k2 q2 : Nat) (dk : Array Tr), s3 = .int .i64 kk ∧ s5 = .int .i64 k2 ∧ 1 ≤ k2 ∧ k + k2 ≤ d.size ∧ d.size - (k + k2) ≤ g ∧ wr = putRowK encTr 9 (Sort.ahead w q2) b o dk ∧ CompInv d (k + k2) kk dk)
          case atStart => exact ⟨k, 1, q + 1, d, rfl, rfl, Nat.le_refl _, by omega, by omega, (putRowK_self encTr 9 (Sort.ahead w (q + 1)) b o d (holdsK_ahead encTr 9 w (q + 1) b o d HH.out)).symm, CompInv.start hall.out KN.out⟩
          case round =>
            obtain ⟨kk, k2, q2, dk, rfl, rfl, h1, hle, hg2, hwr2, hI⟩ := hrel
            have hkk := hI.lt
            have hds := hI.size
            have hHk : Hid (HoldsK encTr 9 wr b o dk) := by rw [hwr2]; exact holdsK_putRowK encTr 9 _ b o d dk (holdsK_ahead encTr 9 w q2 b o d HH.out) hds
            have W2 : Hid (wr = putRowK encTr 9 (Sort.ahead w q2) b o dk) := hwr2
            have I2 : Hid (CompInv d (k + k2) kk dk) := hI
            clear hwr2 hI
            by_cases hlt2 : k + k2 < d.size
            · obtain ⟨m2, hm2⟩ : ∃ m2, k2 = m2 + 1 := ⟨k2 - 1, by omega⟩
              have hwr3 : IntKind.i64.wrap ((k2 : Int) - 1) = (m2 : Int) := by subst hm2; simp [IntKind.wrap, IntKind.bits, IntKind.signed]; omega
              have j0 : (0 : Int) ≤ (m2 : Int) := by omega
              have j1 : (m2 : Int) < ((d.size - k : Nat) : Int) := by omega
              have j2 : (0 : Int) ≤ (k2 : Int) := by omega
              have j3 : (k2 : Int) < ((d.size - k : Nat) : Int) := by omega
              have j4 : (0 : Int) ≤ (kk : Int) := by omega
              have j5 : (kk : Int) < (d.size : Int) := by omega
              have n1 : m2 < d.size - k := by omega
              have n2 : k2 < d.size - k := by omega
              have n3 : kk < d.size := by omega
              generalize hu : d[k + k2]! = u
              generalize hv : d[k + m2]! = v
              generalize hold : dk[kk]! = old
              obtain ⟨⟨c0, c1, c2, c3, c4, c5, c6, c7, c8⟩, _⟩ := cells9 hHk.out (k + k2) (by omega) u (by rw [I2.out.high _ (by omega), hu]) (o + k * 9 + k2 * 9) (by omega)
              obtain ⟨⟨e0, e1, e2, e3, e4, e5, e6, e7, e8⟩, _⟩ := cells9 hHk.out (k + m2) (by omega) v (by rw [I2.out.high _ (by omega), hv]) (o + k * 9 + m2 * 9) (by omega)
              obtain ⟨⟨g0, g1, g2, g3, g4, g5, g6, g7, g8⟩, ⟨f0, f1, f2, f3, f4, f5, f6, f7, f8⟩⟩ := cells9 hHk.out kk (by omega) old hold _ rfl
              have C : Hid (d[k + k2]! = u ∧ d[k + m2]! = v ∧ k2 = m2 + 1) := ⟨hu, hv, hm2⟩
              clear hu hv hm2 hold
              by_cases huv : u = v
              · have hd : decide (u = v) = true := by simpa using huv
                go_wp2_with fail
                go_region
                go_wp2
                go_roundg (d.size - (k + (k2 + 1)))
                case measure => omega
                case rel => exact ⟨kk, k2 + 1, q2 + 1, dk, rfl, by go_num, by omega, by omega, Nat.le_refl _, by rw [W2.out]; rfl, I2.out.skip (keeps_neg (by omega) (by rw [C.out.1, show k + k2 - 1 = k + m2 by have := C.out.2.2; omega, C.out.2.1]; exact huv))⟩
              · have hd : decide (u = v) = false := by simpa using huv
                go_wp2_with fail
                go_region
                go_wp2
                go_roundg (d.size - (k + (k2 + 1)))
                case measure => omega
                case rel =>
                  refine ⟨kk + 1, k2 + 1, q2 + 1, dk.setIfInBounds kk u, by go_num, by go_num, by omega, by omega, Nat.le_refl _, ?_, ?_⟩
                  · rw [store9]; exact store_world u W2.out (by omega)
                  · have := I2.out.keep hlt2 (keeps_pos (by rw [C.out.1, show k + k2 - 1 = k + m2 by have := C.out.2.2; omega, C.out.2.1]; exact huv))
                    rwa [C.out.1] at this
            · have hend : k + k2 = d.size := by omega
              have hcl : ∀ ty, (Builtin.clear_ #[42] ty #[.slice (some ⟨b, o + kk * 9, none⟩) (d.size - kk) (cap - kk)]).run Tryz.prog wr = .ok (.tuple #[]) (wr.setCells b (o + kk * 9) (cellsT (List.replicate (d.size - kk) zeroTr))) :=
                fun ty => run_clearT wr ty b (o + kk * 9) (d.size - kk) _ (by omega) (fun j hj => by
                    have := (hHk.out.cell (i := kk + j / 9) (c := j % 9) (by omega) (Nat.mod_lt _ (by omega))).1
                    rw [show o + (kk + j / 9) * 9 + j % 9 = o + kk * 9 + j by omega] at this
                    rw [this]; rfl) (fun j hj => by
                    have := (hHk.out.cell (i := kk + j / 9) (c := j % 9) (by omega) (Nat.mod_lt _ (by omega))).2
                    rwa [show o + (kk + j / 9) * 9 + j % 9 = o + kk * 9 + j by omega] at this)
              have n3 : kk ≤ d.size := by omega
              go_wp2
              go_ret
              have hI := I2.out
              rw [hend] at hI
              refine ⟨by rw [hI.len]; rfl, q2, ?_⟩
              rw [compRow, hI.len, ← hI.done zeroTr, ← putRowK_many _ b o _ dk kk (by simp; omega), ← W2.out]
        · have hd : decide (x = y) = false := by simpa using hdup
          go_wp2_with fail
          go_region
          go_wp2
          go_roundg (d.size - (k + 1))
          case measure => omega
          case rel =>
            refine ⟨k + 1, q + 1, by omega, by omega, Nat.le_refl _, by go_num, rfl, fun j hj => ?_⟩
            by_cases e : j = k
            · subst e
              exact keeps_pos (by rw [B.out.1, show j - 1 = m by have := B.out.2.2; omega, B.out.2.1]; exact hdup)
            · exact hall.out j (by omega)
      · have hke : k = d.size := by omega
        subst hke
        go_wp2
        go_ret
        obtain ⟨e1, e2⟩ := same.out q hall.out
        exact ⟨by rw [e1]; rfl, q, e2⟩
end Go.Proofs.YtnphjdckdkjopaaGreatDoor

/- Which of two triples is ahead: an order; sets of triples. -/
namespace Go.Proofs.YtnphjdckdkjopaaGreatDoor
open Go Go.RowKit Go.Proofs Go.Sort Go.Lib
set_option synthInstance.maxSize 1000

theorem orI_zero (a b c : Int) : orI a b c = 0 ↔ a = 0 ∧ b = 0 ∧ c = 0 := by
  unfold orI
  by_cases h1 : a = 0 <;> by_cases h2 : b = 0 <;> simp [h1, h2]
theorem cmpTm_zero (x y : Tm) : cmpTm x y = 0 ↔ x = y := by
  obtain ⟨k, s, l⟩ := x
  obtain ⟨k', s', l'⟩ := y
  simp [cmpTm, cmpT_zero]
theorem cmpTm_neg (x y : Tm) : cmpTm x y = - cmpTm y x := cmpT_neg _ _ _ _ _ _
theorem cmpTm_trans (x y z : Tm) (h1 : cmpTm x y ≤ 0) (h2 : cmpTm y z ≤ 0) : cmpTm x z ≤ 0 := cmpT_trans _ _ _ _ _ _ _ _ _ h1 h2
theorem cmpTr_zero (x y : Tr) : cmpTr x y = 0 ↔ x = y := by
  obtain ⟨a, b, c⟩ := x
  obtain ⟨a', b', c'⟩ := y
  simp [cmpTr, orI_zero, cmpTm_zero]
theorem cmpTr_neg (x y : Tr) : cmpTr x y = - cmpTr y x := by
  have h1 := cmpTm_neg x.1 y.1
  have h2 := cmpTm_neg x.2.1 y.2.1
  have h3 := cmpTm_neg x.2.2 y.2.2
  unfold cmpTr orI
  repeat' split
  all_goals omega
theorem lex_trans {a1 b1 c1 a2 b2 c2 a3 b3 c3 : Tm} (h1 : orI (cmpTm a1 a2) (cmpTm b1 b2) (cmpTm c1 c2) ≤ 0) (h2 : orI (cmpTm a2 a3) (cmpTm b2 b3) (cmpTm c2 c3) ≤ 0) : orI (cmpTm a1 a3) (cmpTm b1 b3) (cmpTm c1 c3) ≤ 0 := by
  have step : ∀ x y z : Tm, cmpTm x y ≤ 0 → cmpTm y z ≤ 0 → cmpTm x z = 0 → cmpTm x y = 0 ∧ cmpTm y z = 0 := fun x y z p q r => by
    have e := (cmpTm_zero x z).1 r
    subst e
    have := cmpTm_neg x y
    omega
  have ta := cmpTm_trans a1 a2 a3
  have tb := cmpTm_trans b1 b2 b3
  have tc := cmpTm_trans c1 c2 c3
  have sa := step a1 a2 a3
  have sb := step b1 b2 b3
  unfold orI at *
  repeat' split at *
  all_goals omega
theorem cmpTr_trans (x y z : Tr) (h1 : cmpTr x y ≤ 0) (h2 : cmpTr y z ≤ 0) : cmpTr x z ≤ 0 := lex_trans h1 h2

theorem swoTr : SWO (ltOf cmpTr) where
  irrefl x := by simp [ltOf, (cmpTr_zero x x).2 rfl]
  trans x y z h1 h2 := by
    simp only [ltOf, decide_eq_true_eq] at *
    have h := cmpTr_trans x y z (by omega) (by omega)
    by_cases e : cmpTr x z = 0
    · have := (cmpTr_zero x z).1 e
      subst this
      have := cmpTr_neg x y
      omega
    · omega
  ntrans x y z h1 h2 := by
    simp only [ltOf, decide_eq_false_iff_not] at *
    have a := cmpTr_neg x y
    have b := cmpTr_neg y z
    have c := cmpTr_neg x z
    have := cmpTr_trans z y x (by omega) (by omega)
    omega

/-- a set: each above the one ahead -/
def Rising (m : List Tr) : Prop := m.Pairwise fun x y => cmpTr x y < 0

theorem rising_unique : ∀ (m n : List Tr), Rising m → Rising n → (∀ x, x ∈ m ↔ x ∈ n) → m = n
  | [], [], _, _, _ => rfl
  | [], y :: n, _, _, h => by have := (h y).2 (by simp); simp at this
  | x :: m, [], _, _, h => by have := (h x).1 (by simp); simp at this
  | x :: m, y :: n, hm, hn, h => by
    have hm' := List.pairwise_cons.1 hm
    have hn' := List.pairwise_cons.1 hn
    have irr : ∀ z : Tr, ¬ cmpTr z z < 0 := fun z => by rw [(cmpTr_zero z z).2 rfl]; omega
    have exy : x = y := by
      rcases List.mem_cons.1 ((h x).1 (by simp)) with e | hx
      · exact e
      · rcases List.mem_cons.1 ((h y).2 (by simp)) with e | hy
        · exact e.symm
        · have a := hm'.1 y hy
          have b := hn'.1 x hx
          have := cmpTr_neg x y
          omega
    subst exy
    congr 1
    refine rising_unique m n hm'.2 hn'.2 fun z => ?_
    constructor
    · intro hz
      rcases List.mem_cons.1 ((h z).1 (by simp [hz])) with e | h'
      · subst e; exact absurd (hm'.1 z hz) (irr z)
      · exact h'
    · intro hz
      rcases List.mem_cons.1 ((h z).2 (by simp [hz])) with e | h'
      · subst e; exact absurd (hn'.1 z hz) (irr z)
      · exact h'

/-- what Compact keeps of a sorted row is a set, of the same triples -/
theorem comp_rising (d : Array Tr) (hs : SortedIn (ltOf cmpTr) 0 d.size d) : Rising (compactUpTo d d.size) := by
  unfold Rising compactUpTo
  rw [List.pairwise_map]
  have hr : (List.range d.size).Pairwise fun i j => i < j ∧ j < d.size := by
    rw [List.pairwise_iff_getElem]
    intro i j hi hj hij
    simp at hi hj ⊢
    omega
  refine List.Pairwise.imp_of_mem ?_ (hr.filter (keeps d))
  intro i j hi hj hij
  have hk : keeps d j = true := (List.mem_filter.1 hj).2
  have h1 : d[j]! ≠ d[j - 1]! := by
    simp only [keeps, decide_eq_true_eq] at hk
    rcases hk with h | h
    · omega
    · exact h
  have le : ∀ p q, p < q → q < d.size → cmpTr d[p]! d[q]! ≤ 0 := fun p q h1 h2 => by
    have := hs p q (by omega) h1 h2
    simp only [ltOf, decide_eq_false_iff_not] at this
    have := cmpTr_neg d[p]! d[q]!
    omega
  have a := le i j hij.1 hij.2
  by_cases e : cmpTr d[i]! d[j]! = 0
  · exfalso
    have e' := (cmpTr_zero _ _).1 e
    have b := le (j - 1) j (by omega) hij.2
    have c : cmpTr d[i]! d[j - 1]! ≤ 0 := by
      by_cases q : i = j - 1
      · rw [q, (cmpTr_zero _ _).2 rfl]; omega
      · exact le i (j - 1) (by omega) (by omega)
    rw [e'] at c
    have := cmpTr_neg d[j]! d[j - 1]!
    exact h1 ((cmpTr_zero _ _).1 (by omega))
  · omega
theorem comp_mem (d : Array Tr) (x : Tr) : x ∈ compactUpTo d d.size ↔ x ∈ d.toList := by
  constructor
  · intro h
    simp only [compactUpTo, List.mem_map, List.mem_filter, List.mem_range] at h
    obtain ⟨j, ⟨hj, _⟩, rfl⟩ := h
    rw [getElem!_pos d j hj]
    simp
  · intro h
    obtain ⟨j, hj, rfl⟩ := List.getElem_of_mem h
    have key : ∀ j, j < d.size → d[j]! ∈ compactUpTo d d.size := by
      intro j
      induction j with
      | zero => intro hj; simp only [compactUpTo, List.mem_map, List.mem_filter, List.mem_range]; exact ⟨0, ⟨hj, by simp [keeps]⟩, rfl⟩
      | succ n ih =>
        intro hj
        by_cases e : d[n + 1]! = d[n]!
        · rw [e]; exact ih (by omega)
        · simp only [compactUpTo, List.mem_map, List.mem_filter, List.mem_range]
          exact ⟨n + 1, ⟨hj, by simp [keeps, e]⟩, rfl⟩
    have hj' : j < d.size := by simpa using hj
    have := key j hj'
    rw [getElem!_pos d j hj'] at this
    simpa using this
theorem comp_len (d : Array Tr) : (compactUpTo d d.size).length ≤ d.size := by
  unfold compactUpTo
  rw [List.length_map]
  exact Nat.le_trans (List.length_filter_le _ _) (by simp)
end Go.Proofs.YtnphjdckdkjopaaGreatDoor

/- Sorted's closure: what is wrong with the triple at a place: itself, and that it is not above the one ahead; firstFault. -/
namespace Go.Proofs.YtnphjdckdkjopaaGreatDoor
open Go Go.RowKit Go.Proofs Go.Sort

attribute [local go_sem] eql_errV neq_errV guard_errV

/-- what Sorted's closure tells of a place -/
def stepN (l : List Tr) (i : Nat) : Int := if h : i < l.length then (if chkTr l[i] = 0 then (if h0 : 0 < i then (if 0 ≤ cmpTr (l[i - 1]'(by omega)) l[i] then 6 else 0) else 0) else chkTr l[i]) else 0

/-- nineteen cells, behind a call that lays blocks and draws -/
theorem keep19 {W W' : World} {p0 p1 p2 p3 p4 p5 p6 p7 p8 p9 p10 p11 p12 p13 p14 p15 p16 p17 p18 : Addr} {v0 v1 v2 v3 v4 v5 v6 v7 v8 v9 v10 v11 v12 v13 v14 v15 v16 v17 v18 : Value}
    (h : W.cell? p0 = some v0 ∧ W.cell? p1 = some v1 ∧ W.cell? p2 = some v2 ∧ W.cell? p3 = some v3 ∧ W.cell? p4 = some v4 ∧ W.cell? p5 = some v5 ∧ W.cell? p6 = some v6 ∧ W.cell? p7 = some v7 ∧ W.cell? p8 = some v8 ∧ W.cell? p9 = some v9 ∧ W.cell? p10 = some v10 ∧ W.cell? p11 = some v11 ∧ W.cell? p12 = some v12 ∧ W.cell? p13 = some v13 ∧ W.cell? p14 = some v14 ∧ W.cell? p15 = some v15 ∧ W.cell? p16 = some v16 ∧ W.cell? p17 = some v17 ∧ W.cell? p18 = some v18) (hb : Grew W W') : W'.cell? p0 = some v0 ∧ W'.cell? p1 = some v1 ∧ W'.cell? p2 = some v2 ∧ W'.cell? p3 = some v3 ∧ W'.cell? p4 = some v4 ∧ W'.cell? p5 = some v5 ∧ W'.cell? p6 = some v6 ∧ W'.cell? p7 = some v7 ∧ W'.cell? p8 = some v8 ∧ W'.cell? p9 = some v9 ∧ W'.cell? p10 = some v10 ∧ W'.cell? p11 = some v11 ∧ W'.cell? p12 = some v12 ∧ W'.cell? p13 = some v13 ∧ W'.cell? p14 = some v14 ∧ W'.cell? p15 = some v15 ∧ W'.cell? p16 = some v16 ∧ W'.cell? p17 = some v17 ∧ W'.cell? p18 = some v18 := by
  have q := hb.keep
  obtain ⟨h0, h1, h2, h3, h4, h5, h6, h7, h8, h9, h10, h11, h12, h13, h14, h15, h16, h17, h18⟩ := h
  exact ⟨q _ _ h0, q _ _ h1, q _ _ h2, q _ _ h3, q _ _ h4, q _ _ h5, q _ _ h6, q _ _ h7, q _ _ h8, q _ _ h9, q _ _ h10, q _ _ h11, q _ _ h12, q _ _ h13, q _ _ h14, q _ _ h15, q _ _ h16, q _ _ h17, q _ _ h18⟩

set_option maxHeartbeats 4000000 in
set_option maxRecDepth 100000 in
theorem sortedFault_any (b o cap bl : Nat) (l : List Tr) (i : Nat) (w : World) (hi : i < l.length) (h200 : l.length ≤ 200) (hx : fitTr l[i])
    (hbox : w.cell? ⟨bl, 0, none⟩ = some (.slice (some ⟨b, o, none⟩) l.length cap)) (hrow : RowR w b o l) :
    Calls Tryz.prog 146 #[.int .i64 i, .pointer (some ⟨bl, 0, none⟩)] w fun e w' => e = .returned (errV (stepN l i)) ∧ Below w.heap.size w w' := by
  have H := fun W => ChkTr_any l[i] W hx
  have Hrow : Hid (RowR w b o l) := hrow
  obtain ⟨c0, c1, c2, c3, c4, c5, c6, c7, c8⟩ := hrow.at i hi
  clear hrow hx
  cases hc : (chkTr l[i] == 0)
  · have fin : Hid (stepN l i = chkTr l[i]) := by simp at hc; simp [Hid, stepN, hi, hc]
    go_enter Tryz.func146, Tryz.ntmps146
    go_wp2_with fail
    refine (H _).mono ?_
    rintro e w1 ⟨rfl, hb1⟩
    go_wp2_with fail
    go_ret
    exact ⟨ret_val (by rw [fin.out]; rfl), hb1⟩
  · by_cases h0 : i = 0
    · subst h0
      have fin : Hid (stepN l 0 = 0) := by simp at hc; simp [Hid, stepN, hi, hc]
      simp only [Nat.zero_mul, Nat.add_zero] at c0 c1 c2 c3 c4 c5 c6 c7 c8
      go_enter Tryz.func146, Tryz.ntmps146
      go_wp2_with fail
      refine (H _).mono ?_
      rintro e w1 ⟨rfl, hb1⟩
      clear c0 c1 c2 c3 c4 c5 c6 c7 c8
      go_wp2_with fail
      go_region
      go_wp2
      go_ret
      exact ⟨ret_val (by rw [fin.out]; rfl), hb1.drew⟩
    · obtain ⟨k, hk0⟩ : ∃ k, i = k + 1 := ⟨i - 1, by omega⟩
      have hk : k < l.length := by omega
      have fin : Hid (stepN l i = if 0 ≤ cmpTr l[k] l[i] then 6 else 0) := by
        subst hk0; simp at hc; simp [Hid, stepN, hi, hc]
      have HC := fun W => CmpTr_any l[k] l[i] W
      generalize cmpTr l[k] l[i] = c at HC fin
      have hwr : IntKind.i64.wrap ((i : Int) - 1) = (k : Int) := by subst hk0; simp [IntKind.wrap, IntKind.bits, IntKind.signed]; omega
      have i0 : (0 : Int) ≤ (k : Int) := by omega
      have i1 : (k : Int) < (l.length : Int) := by omega
      have hd : decide (0 < i) = true := by simp; omega
      have i3 : (i : Int) < (l.length : Int) := by omega
      have Hk : Hid (i = k + 1) := hk0
      clear hk0 h0
      go_enter Tryz.func146, Tryz.ntmps146
      go_wp2_with fail
      refine (H _).mono ?_
      rintro e w1 ⟨rfl, hb1⟩
      have hrow1 := Hrow.out.below hb1
      have hbox1 : w1.cell? ⟨bl, 0, none⟩ = some (.slice (some ⟨b, o, none⟩) l.length cap) := (hb1.cell (World.block_lt_of_cell? w _ hbox)).trans hbox
      clear c0 c1 c2 c3 c4 c5 c6 c7 c8
      obtain ⟨c0, c1, c2, c3, c4, c5, c6, c7, c8⟩ := hrow1.at i hi
      obtain ⟨d0, d1, d2, d3, d4, d5, d6, d7, d8⟩ := hrow1.at k hk
      generalize l[i] = y at *
      generalize l[k] = x at *
      clear hrow1 H
      cases hcc : decide (c ≥ 0)
      all_goals
        go_wp2_with fail
        go_region_held3 (fun W => W.cell? ⟨bl, 0, none⟩ = some (.slice (some ⟨b, o, none⟩) l.length cap) ∧ W.cell? ⟨b, o + k * 9, none⟩ = some (.int .i64 x.1.1) ∧ W.cell? ⟨b, o + k * 9 + 1, none⟩ = some (.string ⟨x.1.2.1.toArray⟩) ∧ W.cell? ⟨b, o + k * 9 + 2, none⟩ = some (.string ⟨x.1.2.2.toArray⟩) ∧ W.cell? ⟨b, o + k * 9 + 3, none⟩ = some (.int .i64 x.2.1.1) ∧ W.cell? ⟨b, o + k * 9 + 4, none⟩ = some (.string ⟨x.2.1.2.1.toArray⟩) ∧ W.cell? ⟨b, o + k * 9 + 5, none⟩ = some (.string ⟨x.2.1.2.2.toArray⟩) ∧ W.cell? ⟨b, o + k * 9 + 6, none⟩ = some (.int .i64 x.2.2.1) ∧ W.cell? ⟨b, o + k * 9 + 7, none⟩ = some (.string ⟨x.2.2.2.1.toArray⟩) ∧ W.cell? ⟨b, o + k * 9 + 8, none⟩ = some (.string ⟨x.2.2.2.2.toArray⟩) ∧ W.cell? ⟨b, o + i * 9, none⟩ = some (.int .i64 y.1.1) ∧ W.cell? ⟨b, o + i * 9 + 1, none⟩ = some (.string ⟨y.1.2.1.toArray⟩) ∧ W.cell? ⟨b, o + i * 9 + 2, none⟩ = some (.string ⟨y.1.2.2.toArray⟩) ∧ W.cell? ⟨b, o + i * 9 + 3, none⟩ = some (.int .i64 y.2.1.1) ∧ W.cell? ⟨b, o + i * 9 + 4, none⟩ = some (.string ⟨y.2.1.2.1.toArray⟩) ∧ W.cell? ⟨b, o + i * 9 + 5, none⟩ = some (.string ⟨y.2.1.2.2.toArray⟩) ∧ W.cell? ⟨b, o + i * 9 + 6, none⟩ = some (.int .i64 y.2.2.1) ∧ W.cell? ⟨b, o + i * 9 + 7, none⟩ = some (.string ⟨y.2.2.2.1.toArray⟩) ∧ W.cell? ⟨b, o + i * 9 + 8, none⟩ = some (.string ⟨y.2.2.2.2.toArray⟩)) (first | exact keep19 (by assumption) hb2 | go_keep) (first
          | (go_at_call 148; refine (HC _).mono ?_; rintro e w2 ⟨rfl, hb2⟩))
        go_wp2
        go_ret
        exact ⟨ret_val (by rw [fin.out]; simp at hcc; first | rw [if_pos (by omega)]; rfl | rw [if_neg (by omega)]; rfl), bstep hb1.drew hb2.below⟩

/-- the first number that is not 0 among those of the places below k -/
def firstUpto (f : Nat → Int) : Nat → Int
  | 0 => 0
  | k + 1 => if firstUpto f k = 0 then f k else firstUpto f k
theorem firstUpto_mono (f : Nat → Int) (k n : Nat) (h : firstUpto f k ≠ 0) (hn : k ≤ n) : firstUpto f n = firstUpto f k := by
  induction n with
  | zero => simp at hn; rw [hn]
  | succ m ih =>
    by_cases e : k = m + 1
    · rw [e]
    · have := ih (by omega)
      rw [firstUpto, this, if_neg h]
/-- what firstFault tells of n places -/
def faultN (f : Nat → Int) (n : Nat) : Int := if 200 < n then 4 else firstUpto f n

set_option maxHeartbeats 1000000 in
theorem firstFault_any (ad : Option Addr) (n cap g bl : Nat) (f : Nat → Int) (I : World → Prop) (w : World) (hn : n ≤ 9223372036854775807)
    (eg : ∀ args w, (callFunc g args).run Tryz.prog w = .ok (.enter g args) w) (hI : I w) (hkeep : ∀ W W', I W → Below W.heap.size W W' → I W')
    (hf : n ≤ 200 → ∀ (i : Nat) (W : World), i < n → I W → Calls Tryz.prog g #[.int .i64 i, .pointer (some ⟨bl, 0, none⟩)] W fun e w' => e = .returned (errV (f i)) ∧ Below W.heap.size W w') :
    Calls Tryz.prog 145 #[.slice ad n cap, .func (.func g) #[] #[.pointer (some ⟨bl, 0, none⟩)]] w fun e w' => e = .returned (errV (faultN f n)) ∧ Below w.heap.size w w' := by
  by_cases h200 : 200 < n
  · have fin : Hid (faultN f n = 4) := if_pos h200
    have h200' : decide ((n : Int) > 200) = true := by simp; omega
    clear hf
    go_enter Tryz.func145, Tryz.ntmps145
    go_wp2
    go_ret
    exact ⟨ret_val (by rw [fin.out]; rfl), Below.refl _ _⟩
  · have fin : Hid (faultN f n = firstUpto f n) := if_neg h200
    have Hf : Hid (∀ (i : Nat) (W : World), i < n → I W → Calls Tryz.prog g #[.int .i64 i, .pointer (some ⟨bl, 0, none⟩)] W fun e w' => e = .returned (errV (f i)) ∧ Below W.heap.size W w') := hf (by omega)
    have Hk : Hid (∀ W W', I W → Below W.heap.size W W' → I W') := hkeep
    have HI : Hid (I w) := hI
    clear hf hkeep hI
    go_enter Tryz.func145, Tryz.ntmps145
    go_wp2
    go_loopw [13] (fun i wr => ∃ k : Nat, k ≤ n ∧ i = .int .i64 k ∧ firstUpto f k = 0 ∧ I wr ∧ Below w.heap.size w wr) (fun i wr => n - (intOf i).toNat)
    case atStart => exact ⟨0, Nat.zero_le _, rfl, rfl, HI.out, Below.refl _ _⟩
    case round =>
      obtain ⟨k, hk, rfl, hz0, hIr0, hbr⟩ := hrel
      have hz : Hid (firstUpto f k = 0) := hz0
      have hIr : Hid (I wr) := hIr0
      clear hz0 hIr0
      by_cases hlt : k < n
      · cases hc : (f k == 0)
        · go_wp2_with fail
          go_at_fn g
          refine (Hf.out k _ hlt hIr.out).mono ?_
          rintro e w1 ⟨rfl, hb1⟩
          go_wp2_with fail
          go_ret
          simp at hc
          refine ⟨ret_val ?_, bstep hbr hb1⟩
          have h1 : firstUpto f (k + 1) = f k := by rw [firstUpto, if_pos hz.out]
          rw [fin.out, firstUpto_mono f (k + 1) n (by rw [h1]; exact hc) (by omega), h1]
          rfl
        · go_wp2_with fail
          go_at_fn g
          refine (Hf.out k _ hlt hIr.out).mono ?_
          rintro e w1 ⟨rfl, hb1⟩
          go_wp2_with fail
          simp at hc
          exact ⟨⟨k + 1, by omega, by go_num, by rw [firstUpto, if_pos hz.out]; exact hc, Hk.out _ _ hIr.out hb1, bstep hbr hb1⟩, by simp [intOf]; omega⟩
      · have hkn : k = n := by omega
        subst hkn
        go_wp2
        go_ret
        exact ⟨ret_val (by rw [fin.out, hz.out]; rfl), hbr⟩
end Go.Proofs.YtnphjdckdkjopaaGreatDoor

/- The contract of slices.SortFunc, laid at this program by program. -/
namespace Go.Proofs
open Go.Shelf
def Tryz.sortTr_ren : Go.Shelf.Ren := ⟨fun | 6 => 212 | 15 => 80 | 14 => 229 | 28 => 120 | 29 => 121 | 20 => 240 | 21 => 241 | 22 => 242 | 23 => 243 | 24 => 244 | 25 => 245 | 26 => 246 | 27 => 247 | 46 => 248 | 47 => 150 | 48 => 151 | 49 => 249 | 50 => 250 | 57 => 251 | n => n, fun | 22 => 42 | 24 => 41 | 25 => 111 | 3 => 3 | 39 => 148 | 0 => 0 | 53 => 200 | 55 => 202 | 4 => 4 | 46 => 194 | 45 => 193 | 50 => 170 | 5 => 5 | 9 => 9 | 66 => 233 | 70 => 237 | 76 => 257 | 77 => 60 | n => n, fun | n => n⟩
theorem Tryz.sortTr : Go.Proofs.SlLaysF0.n6 Tryz.prog Tryz.sortTr_ren := {
  mixed := by kernel_rfl
  f6 := ⟨Tryz.f212.name, by decide, Tryz.func212.trans (congrArg some (by kernel_rfl))⟩
  f14 := ⟨Tryz.f229.name, by decide, Tryz.func229.trans (congrArg some (by kernel_rfl))⟩
  f15 := Tryz.func80.trans (congrArg some (by kernel_rfl))
  f20 := ⟨Tryz.f240.name, by decide, Tryz.func240.trans (congrArg some (by kernel_rfl))⟩
  f21 := ⟨Tryz.f241.name, by decide, Tryz.func241.trans (congrArg some (by kernel_rfl))⟩
  f22 := ⟨Tryz.f242.name, by decide, Tryz.func242.trans (congrArg some (by kernel_rfl))⟩
  f23 := ⟨Tryz.f243.name, by decide, Tryz.func243.trans (congrArg some (by kernel_rfl))⟩
  f24 := ⟨Tryz.f244.name, by decide, Tryz.func244.trans (congrArg some (by kernel_rfl))⟩
  f25 := ⟨Tryz.f245.name, by decide, Tryz.func245.trans (congrArg some (by kernel_rfl))⟩
  f26 := ⟨Tryz.f246.name, by decide, Tryz.func246.trans (congrArg some (by kernel_rfl))⟩
  f27 := ⟨Tryz.f247.name, by decide, Tryz.func247.trans (congrArg some (by kernel_rfl))⟩
  f28 := Tryz.func120.trans (congrArg some (by kernel_rfl))
  f29 := Tryz.func121.trans (congrArg some (by kernel_rfl))
  f46 := ⟨Tryz.f248.name, by decide, Tryz.func248.trans (congrArg some (by kernel_rfl))⟩
  f47 := Tryz.func150.trans (congrArg some (by kernel_rfl))
  f48 := Tryz.func151.trans (congrArg some (by kernel_rfl))
  f49 := ⟨Tryz.f249.name, by decide, Tryz.func249.trans (congrArg some (by kernel_rfl))⟩
  f50 := ⟨Tryz.f250.name, by decide, Tryz.func250.trans (congrArg some (by kernel_rfl))⟩
  f57 := ⟨Tryz.f251.name, by decide, Tryz.func251.trans (congrArg some (by kernel_rfl))⟩
  t0 := Tryz.underlying0
  a0 := Tryz.isAgg0
  z0 := Tryz.sizeOf0
  v0 := Tryz.zeroValue0
  t3 := Tryz.underlying3
  a3 := Tryz.isAgg3
  z3 := Tryz.sizeOf3
  v3 := Tryz.zeroValue3
  t4 := Tryz.underlying4
  a4 := Tryz.isAgg4
  z4 := Tryz.sizeOf4
  v4 := Tryz.zeroValue4
  t5 := Tryz.underlying5
  a5 := Tryz.isAgg5
  z5 := Tryz.sizeOf5
  v5 := Tryz.zeroValue5
  t9 := Tryz.underlying9
  a9 := Tryz.isAgg9
  z9 := Tryz.sizeOf9
  v9 := Tryz.zeroValue9
  t22 := Tryz.underlying42
  a22 := Tryz.isAgg42
  z22 := Tryz.sizeOf42
  v22 := Tryz.zeroValue42
  t25 := Tryz.underlying111
  a25 := Tryz.isAgg111
  z25 := Tryz.sizeOf111
  v25 := Tryz.zeroValue111
  t39 := Tryz.underlying148
  a39 := Tryz.isAgg148
  z39 := Tryz.sizeOf148
  v39 := Tryz.zeroValue148
  t45 := Tryz.underlying193
  a45 := Tryz.isAgg193
  z45 := Tryz.sizeOf193
  v45 := Tryz.zeroValue193
  t46 := Tryz.underlying194
  a46 := Tryz.isAgg194
  z46 := Tryz.sizeOf194
  v46 := Tryz.zeroValue194
  t50 := Tryz.underlying170
  a50 := Tryz.isAgg170
  z50 := Tryz.sizeOf170
  v50 := Tryz.zeroValue170
  t53 := Tryz.underlying200
  a53 := Tryz.isAgg200
  z53 := Tryz.sizeOf200
  v53 := Tryz.zeroValue200
  t55 := Tryz.underlying202
  a55 := Tryz.isAgg202
  z55 := Tryz.sizeOf202
  v55 := Tryz.zeroValue202
  t66 := Tryz.underlying233
  a66 := Tryz.isAgg233
  z66 := Tryz.sizeOf233
  v66 := Tryz.zeroValue233
  t70 := Tryz.underlying237
  a70 := Tryz.isAgg237
  z70 := Tryz.sizeOf237
  v70 := Tryz.zeroValue237
  t76 := Tryz.underlying257
  a76 := Tryz.isAgg257
  z76 := Tryz.sizeOf257
  v76 := Tryz.zeroValue257
  t77 := Tryz.underlying60
  a77 := Tryz.isAgg60
  z77 := Tryz.sizeOf60
  v77 := Tryz.zeroValue60 }
end Go.Proofs
