/- slices.Compact at triples: the library's own text, walked. -/
import Derived.Test.YtonmmnhikjfibadGreatDoorTripleEq
import Derived.Shelf.GgSortFunc.RowK
import Derived.Shelf.GgSortFunc.InsertionK
import Derived.Lib.SlicesCompact
import Derived.Deep.LoopGhost
import Derived.Deep.Draws
import Derived.RegionTactic
namespace Go.Proofs.YtonmmnhikjfibadGreatDoor
open Go Go.RowKit Go.Proofs Go.Sort Go.Lib
set_option synthInstance.maxSize 1000

/-- one triple stored in the row -/
theorem setMany_one (d : Array Tr) (i : Nat) (x : Tr) (hi : i < d.size) : setMany (flatK encTr 9 d) (i * 9) (encTr x) = flatK encTr 9 (d.setIfInBounds i x) := by
  refine ext_get! (by simp) fun t ht => ?_
  have ht' : t < d.size * 9 := by simpa using ht
  rw [get_setMany _ _ _ t (by simpa using ht'), get_flatK _ _ _ t ht', get_flatK _ _ _ t (by simpa using ht'), encTr_len]
  by_cases a : t / 9 = i
  · rw [if_pos ((blk_iff 9 i t (by omega)).2 a), a, getElem!_set_same d i x hi, show t - i * 9 = t % 9 by omega]
  · rw [if_neg (fun h => a ((blk_iff 9 i t (by omega)).1 h)), getElem!_set_other d i (t / 9) x a]
theorem putRowK_one (w : World) (b o : Nat) (d : Array Tr) (i : Nat) (x : Tr) (hi : i < d.size) : (putRowK encTr 9 w b o d).setCells b (o + i * 9) (encTr x) = putRowK encTr 9 w b o (d.setIfInBounds i x) := by
  unfold putRowK
  rw [setCells_putRow w b o (encTr x) (i * 9) _ (by rw [encTr_len, size_flatK]; omega), setMany_one d i x hi]

theorem setCells_append (w : World) (b : Nat) (xs ys : List Value) (o : Nat) : w.setCells b o (xs ++ ys) = (w.setCells b o xs).setCells b (o + xs.length) ys := by
  induction xs generalizing w o with
  | nil => rfl
  | cons v r ih => simp only [List.cons_append, World.setCells, ih, List.length_cons]; rw [show o + 1 + r.length = o + (r.length + 1) by omega]

/-- triples stored one behind the other -/
theorem putRowK_many (w : World) (b o : Nat) : ∀ (xs : List Tr) (d : Array Tr) (k : Nat), k + xs.length ≤ d.size → (putRowK encTr 9 w b o d).setCells b (o + k * 9) (cellsT xs) = putRowK encTr 9 w b o (lay d k xs)
  | [], _, _, _ => rfl
  | x :: r, d, k, h => by
    have hl : k + (r.length + 1) ≤ d.size := by simpa using h
    rw [show cellsT (x :: r) = encTr x ++ cellsT r by simp [cellsT], setCells_append, putRowK_one w b o d k x (by omega), encTr_len, lay, show o + k * 9 + 9 = o + (k + 1) * 9 by omega]
    exact putRowK_many w b o r _ (k + 1) (by simp; omega)

def zeroTr : Tr := ⟨⟨0, [], []⟩, ⟨0, [], []⟩, ⟨0, [], []⟩⟩

theorem zeroCellsT (z : Array Value) (hz : z = (encTr zeroTr).toArray) (n : Nat) : (Builtin.zeroCells z n).toList = cellsT (List.replicate n zeroTr) := by
  subst hz
  have hl : (cellsT (List.replicate n zeroTr)).length = n * 9 := by rw [cellsT_len]; simp
  have hs : (encTr zeroTr).toArray.size = 9 := rfl
  apply List.ext_getElem?
  intro j
  by_cases hj : j < n * 9
  · have h1 : (cellsT (List.replicate n zeroTr))[j]? = (encTr zeroTr)[j % 9]? := by
      have := cellsT_at (List.replicate n zeroTr) (j / 9) (by simp; omega) (j % 9) (by omega)
      rw [show j / 9 * 9 + j % 9 = j by omega] at this
      rw [this]; simp
    rw [h1]
    have h9 : j % 9 < 9 := Nat.mod_lt _ (by omega)
    rw [List.getElem?_eq_getElem (show j % 9 < (encTr zeroTr).length from h9)]
    simp [Builtin.zeroCells, hs, hj]
    rw [List.getElem?_eq_getElem (show j % 9 < (encTr zeroTr).length from h9)]
    rfl
  · have a : (Builtin.zeroCells (encTr zeroTr).toArray n).toList.length ≤ j := by simp [Builtin.zeroCells, encTr_len]; omega
    rw [List.getElem?_eq_none a, List.getElem?_eq_none (by rw [hl]; omega)]

theorem run_clearT (w : World) (ty : TypeId) (b o n c : Nat) (hn : 0 < n) (hc : ∀ j, j < n * 9 → (w.cell? ⟨b, o + j, none⟩).isSome = true) (hf : ∀ j, j < n * 9 → w.frozen? ⟨b, o + j, none⟩ = false) :
    (Builtin.clear_ #[27] ty #[.slice (some ⟨b, o, none⟩) n c]).run Tryz.prog w = .ok (.tuple #[]) (w.setCells b o (cellsT (List.replicate n zeroTr))) := by
  have hlen : (cellsT (List.replicate n zeroTr)).length = n * 9 := by rw [cellsT_len]; simp
  have hst := run_storeCells_cells (P := Tryz.prog) b o (cellsT (List.replicate n zeroTr)) 0 w (by rw [hlen]; simpa using hc) (by rw [hlen]; simpa using hf) (cellsT_one _)
  simp only [Nat.add_zero] at hst
  obtain ⟨z, hz, hz'⟩ : ∃ z, (∀ w, (zeroValue 88).run Tryz.prog w = .ok z w) ∧ z.cells = (encTr zeroTr).toArray := ⟨_, Tryz.zeroValue88, rfl⟩
  have hzc := zeroCellsT z.cells hz' n
  obtain ⟨m, rfl⟩ : ∃ m, n = m + 1 := ⟨n - 1, by omega⟩
  simp [Builtin.clear_, run_underlying Tryz.underlying27, hz, hzc, hst]

theorem store9 (W : World) (b p : Nat) (x : Tr) : (((((((((W.setCell ⟨b, p, none⟩ (.int .i64 x.1.1)).setCell ⟨b, p + 1, none⟩ (.string ⟨x.1.2.1.toArray⟩)).setCell ⟨b, p + 2, none⟩ (.string ⟨x.1.2.2.toArray⟩)).setCell ⟨b, p + 3, none⟩ (.int .i64 x.2.1.1)).setCell ⟨b, p + 4, none⟩ (.string ⟨x.2.1.2.1.toArray⟩)).setCell ⟨b, p + 5, none⟩ (.string ⟨x.2.1.2.2.toArray⟩)).setCell ⟨b, p + 6, none⟩ (.int .i64 x.2.2.1)).setCell ⟨b, p + 7, none⟩ (.string ⟨x.2.2.2.1.toArray⟩)).setCell ⟨b, p + 8, none⟩ (.string ⟨x.2.2.2.2.toArray⟩)) = W.setCells b p (encTr x) := rfl
theorem store_world {w wr : World} {q b o kk : Nat} {dk : Array Tr} (u : Tr) (h : wr = putRowK encTr 9 (Sort.ahead w q) b o dk) (hi : kk < dk.size) :
    (wr.setCells b (o + kk * 9) (encTr u)).drew = putRowK encTr 9 (Sort.ahead w (q + 1)) b o (dk.setIfInBounds kk u) := by
  subst h
  rw [putRowK_one _ b o dk kk u hi]
  exact putRowK_drewN encTr 9 w q 1 b o _

/-- the nine cells of a place of the row -/
theorem cells9 {w : World} {b o : Nat} {d : Array Tr} (h : HoldsK encTr 9 w b o d) (i : Nat) (hi : i < d.size) (x : Tr) (hx : d[i]! = x) (p : Nat) (hp : p = o + i * 9) :
    (w.cell? ⟨b, p, none⟩ = some (.int .i64 x.1.1) ∧ w.cell? ⟨b, p + 1, none⟩ = some (.string ⟨x.1.2.1.toArray⟩) ∧ w.cell? ⟨b, p + 2, none⟩ = some (.string ⟨x.1.2.2.toArray⟩)
    ∧ w.cell? ⟨b, p + 3, none⟩ = some (.int .i64 x.2.1.1) ∧ w.cell? ⟨b, p + 4, none⟩ = some (.string ⟨x.2.1.2.1.toArray⟩) ∧ w.cell? ⟨b, p + 5, none⟩ = some (.string ⟨x.2.1.2.2.toArray⟩)
    ∧ w.cell? ⟨b, p + 6, none⟩ = some (.int .i64 x.2.2.1) ∧ w.cell? ⟨b, p + 7, none⟩ = some (.string ⟨x.2.2.2.1.toArray⟩) ∧ w.cell? ⟨b, p + 8, none⟩ = some (.string ⟨x.2.2.2.2.toArray⟩))
    ∧ (w.frozen? ⟨b, p, none⟩ = false ∧ w.frozen? ⟨b, p + 1, none⟩ = false ∧ w.frozen? ⟨b, p + 2, none⟩ = false ∧ w.frozen? ⟨b, p + 3, none⟩ = false ∧ w.frozen? ⟨b, p + 4, none⟩ = false ∧ w.frozen? ⟨b, p + 5, none⟩ = false ∧ w.frozen? ⟨b, p + 6, none⟩ = false ∧ w.frozen? ⟨b, p + 7, none⟩ = false ∧ w.frozen? ⟨b, p + 8, none⟩ = false) := by
  subst hp
  have q := fun c (hc : c < 9) => h.cell hi hc
  rw [hx] at q
  exact ⟨⟨(q 0 (by omega)).1, (q 1 (by omega)).1, (q 2 (by omega)).1, (q 3 (by omega)).1, (q 4 (by omega)).1, (q 5 (by omega)).1, (q 6 (by omega)).1, (q 7 (by omega)).1, (q 8 (by omega)).1⟩,
    ⟨(q 0 (by omega)).2, (q 1 (by omega)).2, (q 2 (by omega)).2, (q 3 (by omega)).2, (q 4 (by omega)).2, (q 5 (by omega)).2, (q 6 (by omega)).2, (q 7 (by omega)).2, (q 8 (by omega)).2⟩⟩

/-- what Compact leaves in the row: what is kept, then zero triples -/
def compRow (d : Array Tr) : Array Tr := (compactUpTo d d.size ++ List.replicate (d.size - (compactUpTo d d.size).length) zeroTr).toArray
theorem compRow_all (d : Array Tr) (h : ∀ j, j < d.size → keeps d j = true) : (compactUpTo d d.size).length = d.size ∧ compRow d = d := by
  have e : compactUpTo d d.size = d.toList := by rw [compactUpTo_all d _ h, range_map_get]
  unfold compRow
  rw [e]
  exact ⟨by simp, by simp⟩

attribute [local go_sem ↓] eqlTriple neqTriple

end Go.Proofs.YtonmmnhikjfibadGreatDoor
