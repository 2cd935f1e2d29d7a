/- slices.Compact at triples: the library's own text, walked. -/
import Derived.Test.YtnlcfnpcjkcdmacGreatDoorTripleEq
import Derived.Shelf.GgSortFunc.RowK
import Derived.Shelf.GgSortFunc.InsertionK
import Derived.Lib.SlicesCompact
import Derived.Deep.LoopGhost
import Derived.Deep.Draws
import Derived.RegionTactic
namespace Go.Proofs.YtnlcfnpcjkcdmacGreatDoor
open Go Go.RowKit Go.Proofs Go.Sort Go.Lib
set_option synthInstance.maxSize 1000

/-- one triple stored in the row -/
theorem setMany_one (d : Array Tr) (i : Nat) (x : Tr) (hi : i < d.size) : setMany (flatK encTr 9 d) (i * 9) (encTr x) = flatK encTr 9 (d.setIfInBounds i x) := by
  refine ext_get! (by simp) fun t ht => ?_
  have ht' : t < d.size * 9 := by simpa using ht
  rw [get_setMany _ _ _ t (by simpa using ht'), get_flatK _ _ _ t ht', get_flatK _ _ _ t (by simpa using ht'), encTr_len]
  by_cases a : t / 9 = i
  · rw [if_pos ((blk_iff 9 i t (by omega)).2 a), a, getElem!_set_same d i x hi, show t - i * 9 = t % 9 by omega]
  · rw [if_neg (fun h => a ((blk_iff 9 i t (by omega)).1 h)), getElem!_set_other d i (t / 9) x a]
theorem putRowK_one (w : World) (b o : Nat) (d : Array Tr) (i : Nat) (x : Tr) (hi : i < d.size) : (putRowK encTr 9 w b o d).setCells b (o + i * 9) (encTr x) = putRowK encTr 9 w b o (d.setIfInBounds i x) := by
  unfold putRowK
  rw [setCells_putRow w b o (encTr x) (i * 9) _ (by rw [encTr_len, size_flatK]; omega), setMany_one d i x hi]

theorem setCells_append (w : World) (b : Nat) (xs ys : List Value) (o : Nat) : w.setCells b o (xs ++ ys) = (w.setCells b o xs).setCells b (o + xs.length) ys := by
  induction xs generalizing w o with
  | nil => rfl
  | cons v r ih => simp only [List.cons_append, World.setCells, ih, List.length_cons]; rw [show o + 1 + r.length = o + (r.length + 1) by omega]

/-- triples stored one behind the other -/
theorem putRowK_many (w : World) (b o : Nat) : ∀ (xs : List Tr) (d : Array Tr) (k : Nat), k + xs.length ≤ d.size → (putRowK encTr 9 w b o d).setCells b (o + k * 9) (cellsT xs) = putRowK encTr 9 w b o (lay d k xs)
  | [], _, _, _ => rfl
  | x :: r, d, k, h => by
    have hl : k + (r.length + 1) ≤ d.size := by simpa using h
    rw [show cellsT (x :: r) = encTr x ++ cellsT r by simp [cellsT], setCells_append, putRowK_one w b o d k x (by omega), encTr_len, lay, show o + k * 9 + 9 = o + (k + 1) * 9 by omega]
    exact putRowK_many w b o r _ (k + 1) (by simp; omega)

def zeroTr : Tr := ⟨⟨0, [], []⟩, ⟨0, [], []⟩, ⟨0, [], []⟩⟩

theorem zeroCellsT (z : Array Value) (hz : z = (encTr zeroTr).toArray) (n : Nat) : (Builtin.zeroCells z n).toList = cellsT (List.replicate n zeroTr) := by
  subst hz
  have hl : (cellsT (List.replicate n zeroTr)).length = n * 9 := by rw [cellsT_len]; simp
  have hs : (encTr zeroTr).toArray.size = 9 := rfl
  apply List.ext_getElem?
  intro j
  by_cases hj : j < n * 9
  · have h1 : (cellsT (List.replicate n zeroTr))[j]? = (encTr zeroTr)[j % 9]? := by
      have := cellsT_at (List.replicate n zeroTr) (j / 9) (by simp; omega) (j % 9) (by omega)
      rw [show j / 9 * 9 + j % 9 = j by omega] at this
      rw [this]; simp
    rw [h1]
    have h9 : j % 9 < 9 := Nat.mod_lt _ (by omega)
    rw [List.getElem?_eq_getElem (show j % 9 < (encTr zeroTr).length from h9)]
    simp [Builtin.zeroCells, hs, hj]
    rw [List.getElem?_eq_getElem (show j % 9 < (encTr zeroTr).length from h9)]
    rfl
  · have a : (Builtin.zeroCells (encTr zeroTr).toArray n).toList.length ≤ j := by simp [Builtin.zeroCells, encTr_len]; omega
    rw [List.getElem?_eq_none a, List.getElem?_eq_none (by rw [hl]; omega)]

theorem run_clearT (w : World) (ty : TypeId) (b o n c : Nat) (hn : 0 < n) (hc : ∀ j, j < n * 9 → (w.cell? ⟨b, o + j, none⟩).isSome = true) (hf : ∀ j, j < n * 9 → w.frozen? ⟨b, o + j, none⟩ = false) :
    (Builtin.clear_ #[22] ty #[.slice (some ⟨b, o, none⟩) n c]).run Tryz.prog w = .ok (.tuple #[]) (w.setCells b o (cellsT (List.replicate n zeroTr))) := by
  have hlen : (cellsT (List.replicate n zeroTr)).length = n * 9 := by rw [cellsT_len]; simp
  have hst := run_storeCells_cells (P := Tryz.prog) b o (cellsT (List.replicate n zeroTr)) 0 w (by rw [hlen]; simpa using hc) (by rw [hlen]; simpa using hf) (cellsT_one _)
  simp only [Nat.add_zero] at hst
  obtain ⟨z, hz, hz'⟩ : ∃ z, (∀ w, (zeroValue 82).run Tryz.prog w = .ok z w) ∧ z.cells = (encTr zeroTr).toArray := ⟨_, Tryz.zeroValue82, rfl⟩
  have hzc := zeroCellsT z.cells hz' n
  obtain ⟨m, rfl⟩ : ∃ m, n = m + 1 := ⟨n - 1, by omega⟩
  simp [Builtin.clear_, run_underlying Tryz.underlying22, hz, hzc, hst]

theorem store9 (W : World) (b p : Nat) (x : Tr) : (((((((((W.setCell ⟨b, p, none⟩ (.int .i64 x.1.1)).setCell ⟨b, p + 1, none⟩ (.string ⟨x.1.2.1.toArray⟩)).setCell ⟨b, p + 2, none⟩ (.string ⟨x.1.2.2.toArray⟩)).setCell ⟨b, p + 3, none⟩ (.int .i64 x.2.1.1)).setCell ⟨b, p + 4, none⟩ (.string ⟨x.2.1.2.1.toArray⟩)).setCell ⟨b, p + 5, none⟩ (.string ⟨x.2.1.2.2.toArray⟩)).setCell ⟨b, p + 6, none⟩ (.int .i64 x.2.2.1)).setCell ⟨b, p + 7, none⟩ (.string ⟨x.2.2.2.1.toArray⟩)).setCell ⟨b, p + 8, none⟩ (.string ⟨x.2.2.2.2.toArray⟩)) = W.setCells b p (encTr x) := rfl
theorem store_world {w wr : World} {q b o kk : Nat} {dk : Array Tr} (u : Tr) (h : wr = putRowK encTr 9 (Sort.ahead w q) b o dk) (hi : kk < dk.size) :
    (wr.setCells b (o + kk * 9) (encTr u)).drew = putRowK encTr 9 (Sort.ahead w (q + 1)) b o (dk.setIfInBounds kk u) := by
  subst h
  rw [putRowK_one _ b o dk kk u hi]
  exact putRowK_drewN encTr 9 w q 1 b o _

/-- the nine cells of a place of the row -/
theorem cells9 {w : World} {b o : Nat} {d : Array Tr} (h : HoldsK encTr 9 w b o d) (i : Nat) (hi : i < d.size) (x : Tr) (hx : d[i]! = x) (p : Nat) (hp : p = o + i * 9) :
    (w.cell? ⟨b, p, none⟩ = some (.int .i64 x.1.1) ∧ w.cell? ⟨b, p + 1, none⟩ = some (.string ⟨x.1.2.1.toArray⟩) ∧ w.cell? ⟨b, p + 2, none⟩ = some (.string ⟨x.1.2.2.toArray⟩)
    ∧ w.cell? ⟨b, p + 3, none⟩ = some (.int .i64 x.2.1.1) ∧ w.cell? ⟨b, p + 4, none⟩ = some (.string ⟨x.2.1.2.1.toArray⟩) ∧ w.cell? ⟨b, p + 5, none⟩ = some (.string ⟨x.2.1.2.2.toArray⟩)
    ∧ w.cell? ⟨b, p + 6, none⟩ = some (.int .i64 x.2.2.1) ∧ w.cell? ⟨b, p + 7, none⟩ = some (.string ⟨x.2.2.2.1.toArray⟩) ∧ w.cell? ⟨b, p + 8, none⟩ = some (.string ⟨x.2.2.2.2.toArray⟩))
    ∧ (w.frozen? ⟨b, p, none⟩ = false ∧ w.frozen? ⟨b, p + 1, none⟩ = false ∧ w.frozen? ⟨b, p + 2, none⟩ = false ∧ w.frozen? ⟨b, p + 3, none⟩ = false ∧ w.frozen? ⟨b, p + 4, none⟩ = false ∧ w.frozen? ⟨b, p + 5, none⟩ = false ∧ w.frozen? ⟨b, p + 6, none⟩ = false ∧ w.frozen? ⟨b, p + 7, none⟩ = false ∧ w.frozen? ⟨b, p + 8, none⟩ = false) := by
  subst hp
  have q := fun c (hc : c < 9) => h.cell hi hc
  rw [hx] at q
  exact ⟨⟨(q 0 (by omega)).1, (q 1 (by omega)).1, (q 2 (by omega)).1, (q 3 (by omega)).1, (q 4 (by omega)).1, (q 5 (by omega)).1, (q 6 (by omega)).1, (q 7 (by omega)).1, (q 8 (by omega)).1⟩,
    ⟨(q 0 (by omega)).2, (q 1 (by omega)).2, (q 2 (by omega)).2, (q 3 (by omega)).2, (q 4 (by omega)).2, (q 5 (by omega)).2, (q 6 (by omega)).2, (q 7 (by omega)).2, (q 8 (by omega)).2⟩⟩

/-- what Compact leaves in the row: what is kept, then zero triples -/
def compRow (d : Array Tr) : Array Tr := (compactUpTo d d.size ++ List.replicate (d.size - (compactUpTo d d.size).length) zeroTr).toArray
theorem compRow_all (d : Array Tr) (h : ∀ j, j < d.size → keeps d j = true) : (compactUpTo d d.size).length = d.size ∧ compRow d = d := by
  have e : compactUpTo d d.size = d.toList := by rw [compactUpTo_all d _ h, range_map_get]
  unfold compRow
  rw [e]
  exact ⟨by simp, by simp⟩

attribute [local go_sem ↓] eqlTriple neqTriple

set_option maxHeartbeats 8000000 in
set_option maxRecDepth 1000000 in
theorem Compact_any (b o cap : Nat) (d : Array Tr) (w : World) (hH : HoldsK encTr 9 w b o d) (hsz : d.size ≤ 200) (hcap : d.size ≤ cap) :
    Calls Tryz.prog 128 #[.slice (some ⟨b, o, none⟩) d.size cap] w fun e w' => e = .returned (.slice (some ⟨b, o, none⟩) (compactUpTo d d.size).length cap) ∧ ∃ q, w' = putRowK encTr 9 (Sort.ahead w q) b o (compRow d) := by
  have HH : Hid (HoldsK encTr 9 w b o d) := hH
  have same : Hid (∀ q, (∀ j, j < d.size → keeps d j = true) → (compactUpTo d d.size).length = d.size ∧ w.drewN q = putRowK encTr 9 (Sort.ahead w q) b o (compRow d)) := by
    intro q hall
    obtain ⟨h1, h2⟩ := compRow_all d hall
    exact ⟨h1, by rw [h2]; exact (putRowK_self encTr 9 (Sort.ahead w q) b o d (holdsK_ahead encTr 9 w q b o d HH.out)).symm⟩
  clear hH
  by_cases h2 : d.size < 2
  · go_enter Tryz.func128, Tryz.ntmps128
    go_wp2
    go_ret
    obtain ⟨e1, e2⟩ := same.out 0 (fun j hj => keeps_lt_one d j (by omega))
    exact ⟨by rw [e1]; rfl, 0, e2⟩
  · go_enter Tryz.func128, Tryz.ntmps128
    go_wp2
    go_loopg [3] d.size (fun g s3 wr => ∃ k q : Nat, 1 ≤ k ∧ k ≤ d.size ∧ d.size - k ≤ g ∧ s3 = .int .i64 k ∧ wr = w.drewN q ∧ ∀ j, j < k → keeps d j = true)
    case atStart => exact ⟨1, 0, Nat.le_refl _, by omega, by omega, rfl, rfl, keeps_lt_one d⟩
    case round =>
      obtain ⟨k, q, hk1, hk, hg, rfl, rfl, hall0⟩ := hrel
      have hall : Hid (∀ j, j < k → keeps d j = true) := hall0
      clear hall0
      by_cases hlt : k < d.size
      · obtain ⟨m, hm⟩ : ∃ m, k = m + 1 := ⟨k - 1, by omega⟩
        have hwr : IntKind.i64.wrap ((k : Int) - 1) = (m : Int) := by subst hm; simp [IntKind.wrap, IntKind.bits, IntKind.signed]; omega
        have i0 : (0 : Int) ≤ (m : Int) := by omega
        have i1 : (m : Int) < (d.size : Int) := by omega
        have i2 : (0 : Int) ≤ (k : Int) := by omega
        have i3 : (k : Int) < (d.size : Int) := by omega
        generalize hx : d[k]! = x
        generalize hy : d[m]! = y
        obtain ⟨⟨c0, c1, c2, c3, c4, c5, c6, c7, c8⟩, _⟩ := cells9 HH.out k hlt x hx _ rfl
        obtain ⟨⟨e0, e1, e2, e3, e4, e5, e6, e7, e8⟩, _⟩ := cells9 HH.out m (by omega) y hy _ rfl
        have B : Hid (d[k]! = x ∧ d[m]! = y ∧ k = m + 1) := ⟨hx, hy, hm⟩
        clear hx hy hm
        by_cases hdup : x = y
        · have hd : decide (x = y) = true := by simpa using hdup
          go_wp2_with fail
          go_region
          go_wp2
          clear c0 c1 c2 c3 c4 c5 c6 c7 c8 e0 e1 e2 e3 e4 e5 e6 e7 e8
          have KN : Hid (keeps d k = false) := keeps_neg (by omega) (by rw [B.out.1, show k - 1 = m by have := B.out.2.2; omega, B.out.2.1]; exact hdup)
          clear hd hdup B
          go_loopg [3, 5] d.size (fun g s3 s5 wr => ∃ (kk k2 q2 : Nat) (dk : Array Tr), s3 = .int .i64 kk ∧ s5 = .int .i64 k2 ∧ 1 ≤ k2 ∧ k + k2 ≤ d.size ∧ d.size - (k + k2) ≤ g ∧ wr = putRowK encTr 9 (Sort.ahead w q2) b o dk ∧ CompInv d (k + k2) kk dk)
          case atStart => exact ⟨k, 1, q + 1, d, rfl, rfl, Nat.le_refl _, by omega, by omega, (putRowK_self encTr 9 (Sort.ahead w (q + 1)) b o d (holdsK_ahead encTr 9 w (q + 1) b o d HH.out)).symm, CompInv.start hall.out KN.out⟩
          case round =>
            obtain ⟨kk, k2, q2, dk, rfl, rfl, h1, hle, hg2, hwr2, hI⟩ := hrel
            have hkk := hI.lt
            have hds := hI.size
            have hHk : Hid (HoldsK encTr 9 wr b o dk) := by rw [hwr2]; exact holdsK_putRowK encTr 9 _ b o d dk (holdsK_ahead encTr 9 w q2 b o d HH.out) hds
            have W2 : Hid (wr = putRowK encTr 9 (Sort.ahead w q2) b o dk) := hwr2
            have I2 : Hid (CompInv d (k + k2) kk dk) := hI
            clear hwr2 hI
            by_cases hlt2 : k + k2 < d.size
            · obtain ⟨m2, hm2⟩ : ∃ m2, k2 = m2 + 1 := ⟨k2 - 1, by omega⟩
              have hwr3 : IntKind.i64.wrap ((k2 : Int) - 1) = (m2 : Int) := by subst hm2; simp [IntKind.wrap, IntKind.bits, IntKind.signed]; omega
              have j0 : (0 : Int) ≤ (m2 : Int) := by omega
              have j1 : (m2 : Int) < ((d.size - k : Nat) : Int) := by omega
              have j2 : (0 : Int) ≤ (k2 : Int) := by omega
              have j3 : (k2 : Int) < ((d.size - k : Nat) : Int) := by omega
              have j4 : (0 : Int) ≤ (kk : Int) := by omega
              have j5 : (kk : Int) < (d.size : Int) := by omega
              have n1 : m2 < d.size - k := by omega
              have n2 : k2 < d.size - k := by omega
              have n3 : kk < d.size := by omega
              generalize hu : d[k + k2]! = u
              generalize hv : d[k + m2]! = v
              generalize hold : dk[kk]! = old
              obtain ⟨⟨c0, c1, c2, c3, c4, c5, c6, c7, c8⟩, _⟩ := cells9 hHk.out (k + k2) (by omega) u (by rw [I2.out.high _ (by omega), hu]) (o + k * 9 + k2 * 9) (by omega)
              obtain ⟨⟨e0, e1, e2, e3, e4, e5, e6, e7, e8⟩, _⟩ := cells9 hHk.out (k + m2) (by omega) v (by rw [I2.out.high _ (by omega), hv]) (o + k * 9 + m2 * 9) (by omega)
              obtain ⟨⟨g0, g1, g2, g3, g4, g5, g6, g7, g8⟩, ⟨f0, f1, f2, f3, f4, f5, f6, f7, f8⟩⟩ := cells9 hHk.out kk (by omega) old hold _ rfl
              have C : Hid (d[k + k2]! = u ∧ d[k + m2]! = v ∧ k2 = m2 + 1) := ⟨hu, hv, hm2⟩
              clear hu hv hm2 hold
              by_cases huv : u = v
              · have hd : decide (u = v) = true := by simpa using huv
                go_wp2_with fail
                go_region
                go_wp2
                go_roundg (d.size - (k + (k2 + 1)))
                case measure => omega
                case rel => exact ⟨kk, k2 + 1, q2 + 1, dk, rfl, by go_num, by omega, by omega, Nat.le_refl _, by rw [W2.out]; rfl, I2.out.skip (keeps_neg (by omega) (by rw [C.out.1, show k + k2 - 1 = k + m2 by have := C.out.2.2; omega, C.out.2.1]; exact huv))⟩
              · have hd : decide (u = v) = false := by simpa using huv
                go_wp2_with fail
                go_region
                go_wp2
                go_roundg (d.size - (k + (k2 + 1)))
                case measure => omega
                case rel =>
                  refine ⟨kk + 1, k2 + 1, q2 + 1, dk.setIfInBounds kk u, by go_num, by go_num, by omega, by omega, Nat.le_refl _, ?_, ?_⟩
                  · rw [store9]; exact store_world u W2.out (by omega)
                  · have := I2.out.keep hlt2 (keeps_pos (by rw [C.out.1, show k + k2 - 1 = k + m2 by have := C.out.2.2; omega, C.out.2.1]; exact huv))
                    rwa [C.out.1] at this
            · have hend : k + k2 = d.size := by omega
              have hcl : ∀ ty, (Builtin.clear_ #[22] ty #[.slice (some ⟨b, o + kk * 9, none⟩) (d.size - kk) (cap - kk)]).run Tryz.prog wr = .ok (.tuple #[]) (wr.setCells b (o + kk * 9) (cellsT (List.replicate (d.size - kk) zeroTr))) :=
                fun ty => run_clearT wr ty b (o + kk * 9) (d.size - kk) _ (by omega) (fun j hj => by
                    have := (hHk.out.cell (i := kk + j / 9) (c := j % 9) (by omega) (Nat.mod_lt _ (by omega))).1
                    rw [show o + (kk + j / 9) * 9 + j % 9 = o + kk * 9 + j by omega] at this
                    rw [this]; rfl) (fun j hj => by
                    have := (hHk.out.cell (i := kk + j / 9) (c := j % 9) (by omega) (Nat.mod_lt _ (by omega))).2
                    rwa [show o + (kk + j / 9) * 9 + j % 9 = o + kk * 9 + j by omega] at this)
              have n3 : kk ≤ d.size := by omega
              go_wp2
              go_ret
              have hI := I2.out
              rw [hend] at hI
              refine ⟨by rw [hI.len]; rfl, q2, ?_⟩
              rw [compRow, hI.len, ← hI.done zeroTr, ← putRowK_many _ b o _ dk kk (by simp; omega), ← W2.out]
        · have hd : decide (x = y) = false := by simpa using hdup
          go_wp2_with fail
          go_region
          go_wp2
          go_roundg (d.size - (k + 1))
          case measure => omega
          case rel =>
            refine ⟨k + 1, q + 1, by omega, by omega, Nat.le_refl _, by go_num, rfl, fun j hj => ?_⟩
            by_cases e : j = k
            · subst e
              exact keeps_pos (by rw [B.out.1, show j - 1 = m by have := B.out.2.2; omega, B.out.2.1]; exact hdup)
            · exact hall.out j (by omega)
      · have hke : k = d.size := by omega
        subst hke
        go_wp2
        go_ret
        obtain ⟨e1, e2⟩ := same.out q hall.out
        exact ⟨by rw [e1]; rfl, q, e2⟩
end Go.Proofs.YtnlcfnpcjkcdmacGreatDoor
