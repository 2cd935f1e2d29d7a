import Derived.Test.YtaddfndohoppeaaGreatDoorMCRepoPlaysx1
import Derived.OwnWalk
import Derived.Laws.Rows
import Derived.Test.YtaddfndohoppeaaGreatDoorMA0x2
import Derived.Deep.RegionHeld3
import Derived.Test.YtaddfndohoppeaaGreatDoorMA0x4
import Derived.Deep.RegionLaw

/- The document's answer (package strataref1): Sorted: each once, rising, one put in behind the other. -/
namespace Go.Proofs.YtaddfndohoppeaaGreatDoor
open Go Go.RowKit Go.Proofs
set_option synthInstance.maxSize 1000

/-! ### a row of one's own, one triple of it written -/
theorem own_set1 {W : World} {base g cap n sz p : Nat} {e : TypeId} {xs : List Value} (h : W.ownsRow base e sz (.slice (some ⟨g, 0, none⟩) n cap) n xs) (u : Value) :
    (W.setCell ⟨g, p, none⟩ u).ownsRow base e sz (.slice (some ⟨g, 0, none⟩) n cap) n (xs.set p u) := by
  obtain ⟨h1, h2⟩ := h
  refine ⟨by simpa using h1, ?_⟩
  rcases h2 with ⟨h2, _⟩ | ⟨g', cap', cur, hv, hb, hg, hle, hm, hs, ht⟩
  · simp at h2
  · simp only [Value.slice.injEq, Option.some.injEq, Addr.mk.injEq, and_true, true_and] at hv
    obtain ⟨rfl, rfl⟩ := hv
    refine Or.inr ⟨g, cap, cur.setIfInBounds p u, rfl, hb, heap_setCell_same W g p cur e u hg, hle, hm, by simpa using hs, ?_⟩
    rw [Array.toList_setIfInBounds, List.take_set, ht]

theorem own_set {W : World} {base g cap : Nat} {t : List Tr} (h : W.ownsRow base 91 9 (.slice (some ⟨g, 0, none⟩) t.length cap) t.length (cellsT t)) (j : Nat) (x : Tr) :
    (W.setCells g (j * 9) (encTr x)).ownsRow base 91 9 (.slice (some ⟨g, 0, none⟩) t.length cap) t.length (cellsT (t.set j x)) := by
  have key : ∀ (vs : List Value) (p : Nat) (W : World) (xs : List Value), W.ownsRow base 91 9 (.slice (some ⟨g, 0, none⟩) t.length cap) t.length xs →
      ∃ ys, (W.setCells g p vs).ownsRow base 91 9 (.slice (some ⟨g, 0, none⟩) t.length cap) t.length ys ∧ ∀ q, ys[q]? = if p ≤ q ∧ q < p + vs.length ∧ q < xs.length then vs[q - p]? else xs[q]? := by
    intro vs
    induction vs with
    | nil => intro p W xs h; exact ⟨xs, h, fun q => by rw [if_neg (by simp; omega)]⟩
    | cons v r ih =>
      intro p W xs h
      obtain ⟨ys, hy, hq⟩ := ih (p + 1) _ _ (own_set1 (p := p) h v)
      refine ⟨ys, hy, fun q => ?_⟩
      rw [hq q]
      simp only [List.length_set, List.length_cons, List.getElem?_set]
      by_cases e1 : p = q
      · subst e1
        by_cases e2 : p < xs.length
        · rw [if_neg (by omega), if_pos rfl, if_pos e2, if_pos (by omega)]; simp
        · rw [if_neg (by omega), if_pos rfl, if_neg e2, if_neg (by omega)]; simp; omega
      · by_cases e2 : p + 1 ≤ q ∧ q < p + 1 + r.length ∧ q < xs.length
        · rw [if_pos e2, if_pos (by omega), show q - p = (q - (p + 1)) + 1 by omega]; simp
        · rw [if_neg e2, if_neg e1, if_neg (by omega)]
  obtain ⟨ys, hy, hq⟩ := key (encTr x) (j * 9) W _ h
  have e : ys = cellsT (t.set j x) := by
    apply List.ext_getElem?
    intro q
    rw [hq q, encTr_len, cellsT_len]
    by_cases hq9 : q < t.length * 9
    · have c1 := cellsT_at (t.set j x) (q / 9) (by rw [List.length_set]; omega) (q % 9) (by omega)
      have c2 := cellsT_at t (q / 9) (by omega) (q % 9) (by omega)
      rw [show q / 9 * 9 + q % 9 = q by omega] at c1 c2
      rw [c1, c2]
      by_cases hj' : q / 9 = j
      · rw [if_pos (by omega)]
        rw [show q - j * 9 = q % 9 by omega]
        congr 1
        simp [hj']
      · rw [if_neg (by omega)]
        congr 1
        rw [List.getElem_set_ne (by omega)]
    · rw [if_neg (by omega), List.getElem?_eq_none (by rw [cellsT_len]; omega), List.getElem?_eq_none (by rw [cellsT_len, List.length_set]; omega)]
  rw [← e]
  exact hy

theorem own_row {W : World} {base g cap n : Nat} {t : List Tr} (h : W.ownsRow base 91 9 (.slice (some ⟨g, 0, none⟩) n cap) t.length (cellsT t)) : RowR W g 0 t := fun j u hj => by
  have := h.cells (g := g) rfl j u hj
  rwa [Addr.add_lit] at this
theorem own_at {W : World} {base g cap n : Nat} {t : List Tr} (h : W.ownsRow base 91 9 (.slice (some ⟨g, 0, none⟩) n cap) t.length (cellsT t)) (i : Nat) (hi : i < t.length) :
    W.cell? ⟨g, i * 9, none⟩ = some (.int .i64 t[i].1.1) ∧ W.cell? ⟨g, i * 9 + 1, none⟩ = some (.string ⟨t[i].1.2.1.toArray⟩) ∧ W.cell? ⟨g, i * 9 + 2, none⟩ = some (.string ⟨t[i].1.2.2.toArray⟩)
    ∧ W.cell? ⟨g, i * 9 + 3, none⟩ = some (.int .i64 t[i].2.1.1) ∧ W.cell? ⟨g, i * 9 + 4, none⟩ = some (.string ⟨t[i].2.1.2.1.toArray⟩) ∧ W.cell? ⟨g, i * 9 + 5, none⟩ = some (.string ⟨t[i].2.1.2.2.toArray⟩)
    ∧ W.cell? ⟨g, i * 9 + 6, none⟩ = some (.int .i64 t[i].2.2.1) ∧ W.cell? ⟨g, i * 9 + 7, none⟩ = some (.string ⟨t[i].2.2.2.1.toArray⟩) ∧ W.cell? ⟨g, i * 9 + 8, none⟩ = some (.string ⟨t[i].2.2.2.2.toArray⟩) := by
  have := (own_row h).at i hi
  simp only [Nat.zero_add] at this
  exact this
theorem own_some {W : World} {base g cap n : Nat} {t : List Tr} (h : W.ownsRow base 91 9 (.slice (some ⟨g, 0, none⟩) n cap) t.length (cellsT t)) (i : Nat) (hi : i < t.length) :
    ∃ z : Tr, W.cell? ⟨g, i * 9, none⟩ = some (.int .i64 z.1.1) ∧ W.cell? ⟨g, i * 9 + 1, none⟩ = some (.string ⟨z.1.2.1.toArray⟩) ∧ W.cell? ⟨g, i * 9 + 2, none⟩ = some (.string ⟨z.1.2.2.toArray⟩)
    ∧ W.cell? ⟨g, i * 9 + 3, none⟩ = some (.int .i64 z.2.1.1) ∧ W.cell? ⟨g, i * 9 + 4, none⟩ = some (.string ⟨z.2.1.2.1.toArray⟩) ∧ W.cell? ⟨g, i * 9 + 5, none⟩ = some (.string ⟨z.2.1.2.2.toArray⟩)
    ∧ W.cell? ⟨g, i * 9 + 6, none⟩ = some (.int .i64 z.2.2.1) ∧ W.cell? ⟨g, i * 9 + 7, none⟩ = some (.string ⟨z.2.2.2.1.toArray⟩) ∧ W.cell? ⟨g, i * 9 + 8, none⟩ = some (.string ⟨z.2.2.2.2.toArray⟩) := ⟨t[i], own_at h i hi⟩
theorem own_thaw {W : World} {base g cap n m : Nat} {xs : List Value} (h : W.ownsRow base 91 9 (.slice (some ⟨g, 0, none⟩) n cap) m xs) (p : Nat) : W.frozen? ⟨g, p, none⟩ = false := by
  rcases h.2 with ⟨h2, _⟩ | ⟨g', cap', cur, hv, hb, hg, _⟩
  · simp at h2
  · simp only [Value.slice.injEq, Option.some.injEq, Addr.mk.injEq, and_true] at hv
    obtain ⟨rfl, _⟩ := hv
    simp [World.frozen?, hg]
theorem own_thaw9 {W : World} {base g cap n m : Nat} {xs : List Value} (h : W.ownsRow base 91 9 (.slice (some ⟨g, 0, none⟩) n cap) m xs) (j : Nat) : W.frozen? ⟨g, j * 9, none⟩ = false ∧ W.frozen? ⟨g, j * 9 + 1, none⟩ = false ∧ W.frozen? ⟨g, j * 9 + 2, none⟩ = false ∧ W.frozen? ⟨g, j * 9 + 3, none⟩ = false ∧ W.frozen? ⟨g, j * 9 + 4, none⟩ = false ∧ W.frozen? ⟨g, j * 9 + 5, none⟩ = false ∧ W.frozen? ⟨g, j * 9 + 6, none⟩ = false ∧ W.frozen? ⟨g, j * 9 + 7, none⟩ = false ∧ W.frozen? ⟨g, j * 9 + 8, none⟩ = false := ⟨own_thaw h _, own_thaw h _, own_thaw h _, own_thaw h _, own_thaw h _, own_thaw h _, own_thaw h _, own_thaw h _, own_thaw h _⟩
theorem below_set9 {w W : World} {g p : Nat} {x : Tr} (hb : RowKit.Below w.heap.size w W) (hg : w.heap.size ≤ g) : RowKit.Below w.heap.size w (W.setCells g p (encTr x)) :=
  ((((((((hb.setCell (p := ⟨g, p, none⟩) hg _).setCell (p := ⟨g, p + 1, none⟩) hg _).setCell (p := ⟨g, p + 2, none⟩) hg _).setCell (p := ⟨g, p + 3, none⟩) hg _).setCell (p := ⟨g, p + 4, none⟩) hg _).setCell (p := ⟨g, p + 5, none⟩) hg _).setCell (p := ⟨g, p + 6, none⟩) hg _).setCell (p := ⟨g, p + 7, none⟩) hg _).setCell (p := ⟨g, p + 8, none⟩) hg _

theorem own_slS {W : World} {base : Nat} {e : TypeId} {v : Value} {t : List Tr} (h : W.ownsRow base e 9 v t.length (cellsT t)) : ∃ ad cap, v = .slice ad t.length cap ∧ SlT W ad t := by
  have h' := h
  rcases h.2 with ⟨rfl, h0⟩ | ⟨g, cap, cur, rfl, _⟩
  · exact ⟨none, 0, by rw [h0], fun hne => absurd (List.eq_nil_of_length_eq_zero h0) hne⟩
  · refine ⟨some ⟨g, 0, none⟩, cap, rfl, fun _ => ⟨g, 0, rfl, fun j u hj => ?_⟩⟩
    have := h'.cells (g := g) rfl j u hj
    rwa [Addr.add_lit] at this
theorem ownsRow_belowS {W W' : World} {base : Nat} {e : TypeId} {sz : Nat} {v : Value} {n : Nat} {cs : List Value} (h : W.ownsRow base e sz v n cs) (hb : RowKit.Below W.heap.size W W') : W'.ownsRow base e sz v n cs :=
  h.kept (row := none) ⟨hb.os, hb.tape, hb.output, hb.size, fun i hi _ => hb.block i hi⟩ (Classical.em _)

theorem own_succ {W : World} {base : Nat} {e : TypeId} {sz n : Nat} {v : Value} {xs : List Value} (h : W.ownsRow base e sz v (n + 1) xs) : ∃ g cap, v = .slice (some ⟨g, 0, none⟩) (n + 1) cap := by
  rcases h.2 with ⟨_, h0⟩ | ⟨g, cap, cur, rfl, _⟩
  · omega
  · exact ⟨g, cap, rfl⟩

theorem wrapS (n : Nat) (h : n ≤ 1000000) : IntKind.i64.wrap (n : Int) = n := by simp [IntKind.wrap, IntKind.bits, IntKind.signed]; omega

/-! ### where one is put in -/
theorem ins_set (t : List Tr) (j : Nat) (y z : Tr) (hj : j ≤ t.length) : (t.take j ++ y :: t.drop j).set j z = t.take j ++ z :: t.drop j := by
  rw [List.set_append_right _ _ (by simp; omega)]
  simp [Nat.min_eq_left hj]
theorem ins_shift (t : List Tr) (j : Nat) (hj : j + 1 ≤ t.length) : t.take (j + 1) ++ t[j] :: t.drop (j + 1) = t.take j ++ t[j] :: t.drop j := by
  rw [List.take_succ_eq_append_getElem (by omega), List.drop_eq_getElem_cons (i := j) (by omega), List.append_assoc]
  rfl
theorem ins_at (t : List Tr) (j : Nat) (y : Tr) (hj : j + 1 ≤ t.length) : (t.take (j + 1) ++ y :: t.drop (j + 1))[j]'(by simp; omega) = t[j] := by
  rw [List.getElem_append_left (by simp; omega), List.getElem_take]
theorem ins_len (t : List Tr) (j : Nat) (y : Tr) (hj : j ≤ t.length) : (t.take j ++ y :: t.drop j).length = t.length + 1 := by simp; omega
theorem ins_mem (t : List Tr) (k : Nat) (y x : Tr) : x ∈ t.take k ++ y :: t.drop k ↔ x ∈ t ∨ x = y := by
  constructor
  · intro h
    rcases List.mem_append.1 h with h | h
    · exact Or.inl (List.mem_of_mem_take h)
    · rcases List.mem_cons.1 h with h | h
      · exact Or.inr h
      · exact Or.inl (List.mem_of_mem_drop h)
  · rintro (h | h)
    · rw [← List.take_append_drop k t] at h
      rcases List.mem_append.1 h with h | h
      · exact List.mem_append.2 (Or.inl h)
      · exact List.mem_append.2 (Or.inr (List.mem_cons.2 (Or.inr h)))
    · exact List.mem_append.2 (Or.inr (List.mem_cons.2 (Or.inl h)))
theorem ins_rising (t : List Tr) (k : Nat) (y : Tr) (hr : Rising t) (hlo : ∀ m (hm : m < t.length), m < k → cmpTr t[m] y < 0) (hhi : ∀ m (hm : m < t.length), k ≤ m → 0 < cmpTr t[m] y) : Rising (t.take k ++ y :: t.drop k) := by
  have hr' : Rising (t.take k ++ t.drop k) := by rw [List.take_append_drop]; exact hr
  obtain ⟨h1, h2, h3⟩ := List.pairwise_append.1 hr'
  refine List.pairwise_append.2 ⟨h1, List.pairwise_cons.2 ⟨fun z hz => ?_, h2⟩, fun a ha z hz => ?_⟩
  · obtain ⟨m, hm, rfl⟩ := List.getElem_of_mem hz
    rw [List.getElem_drop]
    have hm' : k + m < t.length := by simp at hm; omega
    have h0 := hhi (k + m) hm' (by omega)
    have := cmpTr_neg y t[k + m]
    omega
  · rcases List.mem_cons.1 hz with rfl | hz
    · obtain ⟨m, hm, rfl⟩ := List.getElem_of_mem ha
      rw [List.getElem_take]
      have hm' : m < k ∧ m < t.length := by simp at hm; omega
      exact hlo m hm'.2 hm'.1
    · exact h3 a ha z hz
theorem rise_lo {t : List Tr} (hr : Rising t) (k : Nat) (hk : k < t.length) (y : Tr) (h : cmpTr t[k] y < 0) : ∀ m (hm : m < t.length), m < k + 1 → cmpTr t[m] y < 0 := fun m hm hle => by
  rcases Nat.lt_or_eq_of_le (Nat.le_of_lt_succ hle) with h1 | h1
  · have h2 := List.pairwise_iff_getElem.1 hr m k hm hk h1
    have h3 := cmpTr_trans t[m] t[k] y (by omega) (by omega)
    rcases Int.lt_or_eq_of_le h3 with h4 | h4
    · exact h4
    · have e := (cmpTr_zero _ _).1 h4
      have := cmpTr_neg t[m] t[k]
      rw [e] at this h2
      omega
  · subst h1; exact h

end Go.Proofs.YtaddfndohoppeaaGreatDoor

/- The document's answer (package strataref1): In, Part. -/
namespace Go.Proofs.YtaddfndohoppeaaGreatDoor
open Go Go.RowKit Go.Proofs
set_option synthInstance.maxSize 1000

theorem filter_stepP (l : List Tr) (p : Tr → Bool) (k : Nat) (h : k < l.length) : (l.take (k + 1)).filter p = (l.take k).filter p ++ (if p l[k] then [l[k]] else []) := by
  rw [List.take_succ_eq_append_getElem h, List.filter_append]
  cases hp : p l[k] <;> simp [hp]
theorem in_none {l : List Tr} {t : Tr} (h : ∀ j (hj : j < l.length), j < l.length → cmpTr l[j] t ≠ 0) : decide (t ∈ l) = false := by
  rw [decide_eq_false_iff_not]
  intro hm
  obtain ⟨j, hj, rfl⟩ := List.getElem_of_mem hm
  exact h j hj hj ((cmpTr_zero _ _).2 rfl)

set_option maxHeartbeats 4000000 in
set_option maxRecDepth 100000 in
theorem RIn_any (ad : Option Addr) (cap : Nat) (l : List Tr) (t : Tr) (w : World) (h : SlT w ad l) (hn : l.length ≤ 9223372036854775807) :
    Calls Tryz.prog 72 #[.slice ad l.length cap, valTr t] w fun e w' => e = .returned (.bool (decide (t ∈ l))) ∧ RowKit.Below w.heap.size w w' := by
  have Hl : Hid (SlT w ad l) := h
  clear h
  unfold valTr
  go_enter Tryz.func72, Tryz.ntmps72
  go_wp2_with fail
  go_loopw [5] (fun i wr => ∃ k : Nat, k ≤ l.length ∧ i = .int .i64 k ∧ Hid (∀ j (hj : j < l.length), j < k → cmpTr l[j] t ≠ 0) ∧ RowKit.Below (w.alloc (.cells (encTr t).toArray 91)).heap.size (w.alloc (.cells (encTr t).toArray 91)) wr) (fun i wr => l.length - (intOf i).toNat)
  case atStart => exact ⟨0, Nat.zero_le _, rfl, fun j hj h => by omega, RowKit.Below.refl _ _⟩
  case round =>
    obtain ⟨k, hk, rfl, hne, hbr⟩ := hrel
    by_cases hlt : k < l.length
    · obtain ⟨b, o, rfl, hrow⟩ := (Hl.out.below (bstep (balloc _ _) hbr)).at k hlt
      obtain ⟨c0, c1, c2, c3, c4, c5, c6, c7, c8⟩ := hrow.at k hlt
      obtain ⟨e0, e1, e2, e3, e4, e5, e6, e7, e8, hz9⟩ := ninebox hbr
      have i0 : (0 : Int) ≤ (k : Int) := by omega
      have i1 : (k : Int) < (l.length : Int) := by omega
      have HC := fun W => ROrder_any l[k] t W
      unfold valTr at HC
      have f0 : Hid (cmpTr l[k] t = 0 → decide (t ∈ l) = true) := fun h => by
        rw [decide_eq_true_eq, ← (cmpTr_zero _ _).1 h]
        exact List.getElem_mem hlt
      have f1 : Hid (cmpTr l[k] t ≠ 0 → ∀ j (hj : j < l.length), j < k + 1 → cmpTr l[j] t ≠ 0) := fun h j hj hle => by
        rcases Nat.lt_or_eq_of_le (Nat.le_of_lt_succ hle) with h1 | h1
        · exact hne.out j hj h1
        · subst h1; exact h
      generalize cmpTr l[k] t = c at HC f0 f1
      generalize l[k] = y at *
      clear hrow
      cases hc : (c == 0)
      · go_wp2_with fail
        go_region_held3 (fun W => W.cell? ⟨b, o + k * 9, none⟩ = some (.int .i64 y.1.1) ∧ W.cell? ⟨b, o + k * 9 + 1, none⟩ = some (.string ⟨y.1.2.1.toArray⟩) ∧ W.cell? ⟨b, o + k * 9 + 2, none⟩ = some (.string ⟨y.1.2.2.toArray⟩) ∧ W.cell? ⟨b, o + k * 9 + 3, none⟩ = some (.int .i64 y.2.1.1) ∧ W.cell? ⟨b, o + k * 9 + 4, none⟩ = some (.string ⟨y.2.1.2.1.toArray⟩) ∧ W.cell? ⟨b, o + k * 9 + 5, none⟩ = some (.string ⟨y.2.1.2.2.toArray⟩) ∧ W.cell? ⟨b, o + k * 9 + 6, none⟩ = some (.int .i64 y.2.2.1) ∧ W.cell? ⟨b, o + k * 9 + 7, none⟩ = some (.string ⟨y.2.2.2.1.toArray⟩) ∧ W.cell? ⟨b, o + k * 9 + 8, none⟩ = some (.string ⟨y.2.2.2.2.toArray⟩) ∧ W.cell? ⟨w.heap.size, 0, none⟩ = some (.int .i64 t.1.1) ∧ W.cell? ⟨w.heap.size, 1, none⟩ = some (.string ⟨t.1.2.1.toArray⟩) ∧ W.cell? ⟨w.heap.size, 2, none⟩ = some (.string ⟨t.1.2.2.toArray⟩) ∧ W.cell? ⟨w.heap.size, 3, none⟩ = some (.int .i64 t.2.1.1) ∧ W.cell? ⟨w.heap.size, 4, none⟩ = some (.string ⟨t.2.1.2.1.toArray⟩) ∧ W.cell? ⟨w.heap.size, 5, none⟩ = some (.string ⟨t.2.1.2.2.toArray⟩) ∧ W.cell? ⟨w.heap.size, 6, none⟩ = some (.int .i64 t.2.2.1) ∧ W.cell? ⟨w.heap.size, 7, none⟩ = some (.string ⟨t.2.2.2.1.toArray⟩) ∧ W.cell? ⟨w.heap.size, 8, none⟩ = some (.string ⟨t.2.2.2.2.toArray⟩)) (first | exact keep18b (by assumption) hb2 | go_keep) (first
          | (go_at_call 50; refine (HC _).mono ?_; rintro e w2 ⟨rfl, hb2⟩))
        go_wp2
        exact ⟨⟨k + 1, by omega, by go_num, f1.out (by simpa using hc), bstep hbr.drew hb2⟩, by simp [intOf]; omega⟩
      · go_wp2_with fail
        go_region_held3 (fun W => W.cell? ⟨b, o + k * 9, none⟩ = some (.int .i64 y.1.1) ∧ W.cell? ⟨b, o + k * 9 + 1, none⟩ = some (.string ⟨y.1.2.1.toArray⟩) ∧ W.cell? ⟨b, o + k * 9 + 2, none⟩ = some (.string ⟨y.1.2.2.toArray⟩) ∧ W.cell? ⟨b, o + k * 9 + 3, none⟩ = some (.int .i64 y.2.1.1) ∧ W.cell? ⟨b, o + k * 9 + 4, none⟩ = some (.string ⟨y.2.1.2.1.toArray⟩) ∧ W.cell? ⟨b, o + k * 9 + 5, none⟩ = some (.string ⟨y.2.1.2.2.toArray⟩) ∧ W.cell? ⟨b, o + k * 9 + 6, none⟩ = some (.int .i64 y.2.2.1) ∧ W.cell? ⟨b, o + k * 9 + 7, none⟩ = some (.string ⟨y.2.2.2.1.toArray⟩) ∧ W.cell? ⟨b, o + k * 9 + 8, none⟩ = some (.string ⟨y.2.2.2.2.toArray⟩) ∧ W.cell? ⟨w.heap.size, 0, none⟩ = some (.int .i64 t.1.1) ∧ W.cell? ⟨w.heap.size, 1, none⟩ = some (.string ⟨t.1.2.1.toArray⟩) ∧ W.cell? ⟨w.heap.size, 2, none⟩ = some (.string ⟨t.1.2.2.toArray⟩) ∧ W.cell? ⟨w.heap.size, 3, none⟩ = some (.int .i64 t.2.1.1) ∧ W.cell? ⟨w.heap.size, 4, none⟩ = some (.string ⟨t.2.1.2.1.toArray⟩) ∧ W.cell? ⟨w.heap.size, 5, none⟩ = some (.string ⟨t.2.1.2.2.toArray⟩) ∧ W.cell? ⟨w.heap.size, 6, none⟩ = some (.int .i64 t.2.2.1) ∧ W.cell? ⟨w.heap.size, 7, none⟩ = some (.string ⟨t.2.2.2.1.toArray⟩) ∧ W.cell? ⟨w.heap.size, 8, none⟩ = some (.string ⟨t.2.2.2.2.toArray⟩)) (first | exact keep18b (by assumption) hb2 | go_keep) (first
          | (go_at_call 50; refine (HC _).mono ?_; rintro e w2 ⟨rfl, hb2⟩))
        go_wp2
        go_ret
        exact ⟨ret_bool (f0.out (by simpa using hc)).symm, bstep (bstep (balloc _ _) hbr.drew) hb2⟩
    · obtain rfl : k = l.length := by omega
      go_wp2_with fail
      go_ret
      exact ⟨ret_bool (in_none hne.out).symm, bstep (balloc _ _) hbr⟩

/-- what of the one is, or is not, in the other -/
def partL (a b : List Tr) (is : Bool) : List Tr := a.filter fun x => decide (x ∈ b) == is
theorem part_both (a b : List Tr) : partL a b true = bothL a b := by unfold partL bothL; congr 1; funext x; simp
theorem part_less (a b : List Tr) : partL a b false = lessL a b := by unfold partL lessL; congr 1; funext x; cases decide (x ∈ b) <;> rfl

set_option maxHeartbeats 4000000 in
set_option maxRecDepth 100000 in
theorem RPart_any (ad bd : Option Addr) (ca cb : Nat) (a b : List Tr) (is : Bool) (w : World) (ha : SlT w ad a) (hb : SlT w bd b) (na : a.length ≤ 200) (nb : b.length ≤ 200) :
    Calls Tryz.prog 52 #[.slice ad a.length ca, .slice bd b.length cb, .bool is] w fun e w' => ∃ ad' c, e = .returned (.slice ad' (partL a b is).length c) ∧ SlT w' ad' (partL a b is) ∧ RowKit.Below w.heap.size w w' := by
  have Ha : Hid (SlT w ad a) := ha
  have Hb : Hid (SlT w bd b) := hb
  clear ha hb
  obtain ⟨i0, hi, hz⟩ := Option.map_eq_some_iff.1 infoTr
  simp only [Prod.mk.injEq] at hz
  obtain ⟨hz0, hz1, hz2⟩ := hz
  obtain ⟨p, hp⟩ : ∃ p : Tr → Bool, p = fun x => decide (x ∈ b) == is := ⟨_, rfl⟩
  have hpl : Hid (partL a b is = a.filter p) := by rw [hp]; rfl
  have Hp : Hid (∀ x, p x = (decide (x ∈ b) == is)) := fun x => by rw [hp]
  clear hp
  go_enter Tryz.func52, Tryz.ntmps52
  go_wp2_with fail
  go_loopw [7, 8] (fun v i wr => ∃ k : Nat, k ≤ a.length ∧ i = .int .i64 k ∧ Hid (wr.ownsRow w.heap.size 91 9 v ((a.take k).filter p).length (cellsT ((a.take k).filter p))) ∧ RowKit.Below w.heap.size w wr) (fun _ i wr => a.length - (intOf i).toNat)
  case atStart => exact ⟨0, Nat.zero_le _, rfl, by show World.ownsRow _ _ _ _ _ _ _; rw [List.take_zero]; exact World.ownsRow_nil _ _ _ _, RowKit.Below.refl _ _⟩
  case round =>
    obtain ⟨k, hk, rfl, hown, hbr⟩ := hrel
    by_cases hlt : k < a.length
    · obtain ⟨bq, o, rfl, hr⟩ := (Ha.out.below hbr).at k hlt
      obtain ⟨c0, c1, c2, c3, c4, c5, c6, c7, c8⟩ := hr.at k hlt
      have Hr : Hid (RowR wr bq o a) := hr
      have i0' : (0 : Int) ≤ (k : Int) := by omega
      have i1 : (k : Int) < (a.length : Int) := by omega
      have hstep : Hid _ := filter_stepP a p k hlt
      have hfil : ((a.take k).filter p).length ≤ k := Nat.le_trans (List.length_filter_le _ _) (by simp; omega)
      have H := fun W hW => RIn_any bd cb b a[k] W hW (by omega)
      have hpy := Hp.out a[k]
      have hzr := hbr.size
      generalize ht : (a.take (k + 1)).filter p = t1 at hstep
      have Ht : Hid _ := ht
      generalize (a.take k).filter p = t0 at *
      obtain ⟨y, hy⟩ : ∃ y, y = a[k] := ⟨_, rfl⟩
      have Hy : Hid (y = a[k]) := hy
      rw [← hy] at H hpy hstep c0 c1 c2 c3 c4 c5 c6 c7 c8
      unfold valTr at H
      clear hr ht hy
      generalize decide (y ∈ b) = d at *
      have Hpy : Hid (p y = (d == is)) := hpy
      clear hpy
      cases hdi : (d == is)
      · have hs2 : Hid (t1 = t0) := by have := hstep.out; rw [Hpy.out, hdi] at this; simpa [Hid] using this
        go_wp2_with fail
        refine (H _ (Hb.out.below hbr)).mono ?_
        rintro e w1 ⟨rfl, hb1⟩
        go_wp2_with fail
        go_roundw
        case rel =>
          refine ⟨k + 1, by omega, by go_num, ?_, bstep hbr hb1⟩
          show World.ownsRow _ _ _ _ _ _ _
          rw [Ht.out, hs2.out]
          exact ownsRow_belowS hown.out hb1
        case measure => simp [intOf]; omega
      · have hs2 : Hid (t1 = t0 ++ [y]) := by have := hstep.out; rw [Hpy.out, hdi] at this; simpa [Hid] using this
        go_wp2_with fail
        refine (H _ (Hb.out.below hbr)).mono ?_
        rintro e w1 ⟨rfl, hb1⟩
        have hrow1 : Hid (w1.ownsRow w.heap.size 91 9 _ t0.length (cellsT t0)) := ownsRow_belowS hown.out hb1
        have hB1 := bstep hbr hb1
        have hz1' := hB1.size
        clear c0 c1 c2 c3 c4 c5 c6 c7 c8 hown
        obtain ⟨c0, c1, c2, c3, c4, c5, c6, c7, c8⟩ := (Hr.out.below hb1).at k hlt
        rw [← Hy.out] at c0 c1 c2 c3 c4 c5 c6 c7 c8
        go_wp2_with (at_builtin; refine wpList_append_own _ rfl _ _ 37 rfl w.heap.size 91 i0 (.agg (encTr zeroTr).toArray) 9 120 Tryz.underlying37 hi hz0 hz1 hz2 rfl (by decide) _ _ _ rfl (hrow1.out.alloc _) ⟨w1.heap.size, 0, none⟩ 1 1 (encTr y) rfl rfl ?c1 ?c2 ?c3 ?c4 ?c5 ?_)
        case c1 =>
          intro i u hi'
          have h9 : i < 9 := (List.getElem?_eq_some_iff.1 hi').1
          rw [Addr.add_lit]
          rcases (by omega : i = 0 ∨ i = 1 ∨ i = 2 ∨ i = 3 ∨ i = 4 ∨ i = 5 ∨ i = 6 ∨ i = 7 ∨ i = 8) with rfl | rfl | rfl | rfl | rfl | rfl | rfl | rfl | rfl
          all_goals
            simp [encTr] at hi'
            subst hi'
            go_simp
        case c2 => exact encTr_one y
        case c3 => unfold maxLen; omega
        case c4 => omega
        case c5 => simp; omega
        intro v' w9 hown' hgrow _
        have hbel := (hB1.alloc hz1' (.cells (encTr y).toArray 91)).grown hgrow (by simp; omega) (fun k hk => (hrow1.out.lt k hk).1)
        go_wp2_with fail
        go_roundw
        case rel =>
          refine ⟨k + 1, by omega, by go_num, ?_, hbel⟩
          show World.ownsRow _ _ _ _ _ _ _
          rw [Ht.out, hs2.out]
          simpa [cellsT] using hown'
        case measure => simp [intOf]; omega
    · obtain rfl : k = a.length := by omega
      have hown' := hown.out
      rw [List.take_length, ← hpl.out] at hown'
      obtain ⟨ad', cap', rfl, hsl⟩ := own_slS hown'
      have Hsl : Hid _ := hsl
      clear hown' hown hsl
      go_wp2_with fail
      go_ret
      exact ⟨ad', cap', rfl, Hsl.out, hbr⟩

end Go.Proofs.YtaddfndohoppeaaGreatDoor

/- The document's Bytes, Three, SetBytes. -/
namespace Go.Proofs.YtaddfndohoppeaaGreatDoor
open Go Go.RowKit Go.Proofs
set_option synthInstance.maxSize 1000

theorem Buf.lit {B : Nat} {W0 w : World} {c : UInt8} {n : Int} (h : RowKit.Below B W0 w ∧ B ≤ w.heap.size) (hn : n = (c.toNat : Int)) : Buf B (.slice (some ⟨w.heap.size, 0, none⟩) 1 1) [c] W0 (w.alloc (.cells #[.int .u8 n] 5)) := by
  subst hn
  refine ⟨⟨rfl, Or.inr ⟨w.heap.size, 1, _, (0, 0), rfl, h.2, heap_alloc_new w _, Nat.zero_le _, Nat.le_refl _, by unfold maxLen; omega, rfl, rfl⟩⟩, h.1.alloc h.2 _, ?_⟩
  simp
  omega
theorem Buf.lit2 {B : Nat} {W0 w : World} {c d : UInt8} {n m : Int} (h : RowKit.Below B W0 w ∧ B ≤ w.heap.size) (hn : n = (c.toNat : Int)) (hm : m = (d.toNat : Int)) : Buf B (.slice (some ⟨w.heap.size, 0, none⟩) 2 2) [c, d] W0 (w.alloc (.cells #[.int .u8 n, .int .u8 m] 5)) := by
  subst hn hm
  refine ⟨⟨rfl, Or.inr ⟨w.heap.size, 2, _, (0, 0), rfl, h.2, heap_alloc_new w _, Nat.zero_le _, Nat.le_refl _, by unfold maxLen; omega, rfl, rfl⟩⟩, h.1.alloc h.2 _, ?_⟩
  simp
  omega

set_option maxHeartbeats 4000000 in
set_option maxRecDepth 100000 in
theorem RBytes_any (x : Tm) (w : World) (hx : okTm x = 0) :
    Calls Tryz.prog 74 #[.agg #[.int .i64 x.1, .string ⟨x.2.1.toArray⟩, .string ⟨x.2.2.toArray⟩]] w fun e w' => e = .returned (.string ⟨(encT x).toArray⟩) ∧ RowKit.Below w.heap.size w w' := by
  obtain ⟨hk, hS, hL⟩ := ok_parts hx
  obtain ⟨k, S, L⟩ := x
  dsimp only at hk hS hL ⊢
  have hT : TBox (w.alloc (.cells #[.int .i64 k, .string ⟨S.toArray⟩, .string ⟨L.toArray⟩] 89)) w.heap.size (k, S, L) := heap_alloc_new w _
  have hw : RowKit.Below w.heap.size w (w.alloc (.cells #[.int .i64 k, .string ⟨S.toArray⟩, .string ⟨L.toArray⟩] 89)) ∧ w.heap.size ≤ (w.alloc (.cells #[.int .i64 k, .string ⟨S.toArray⟩, .string ⟨L.toArray⟩] 89)).heap.size := ⟨balloc _ _, by simp⟩
  have hc8 : Hid ((S.length : Int) = ((UInt8.ofNat S.length).toNat : Int)) := by show _ = _; rw [toNat_ofNat (by omega)]
  clear hx
  rcases hL with rfl | ⟨rfl, hL⟩
  · rcases hk with rfl | rfl | rfl
    · have hT1 := hT.keep (Keep.alloc _ (.cells #[.int .u8 1] 5))
      have hb1 : Buf w.heap.size (.slice (some ⟨w.heap.size + 1, 0, none⟩) 1 1) [1] w ((w.alloc (.cells #[.int .i64 1, .string ⟨S.toArray⟩, .string ⟨#[]⟩] 89)).alloc (.cells #[.int .u8 1] 5)) := by
        have := Buf.lit (c := 1) hw rfl
        rwa [World.size_alloc] at this
      go_enter Tryz.func74, Tryz.ntmps74
      go_wp2_with (at_builtin; first
        | (refine app_text rfl _ _ rfl w.heap.size v3 ([1] ++ [] ++ [UInt8.ofNat S.length]) (by rfl) w hb3 S (by rfl) (by simp; omega) ?_; intro v4 w4 hb4 hk4; have hcv := hb4.string (by simp))
        | (refine app_byte rfl _ _ rfl w.heap.size v2 ([1] ++ []) (by rfl) w _ _ hb2 _ (by rfl) (by simp) (UInt8.ofNat S.length) hc8.out (by simp) ?_; intro v3 w3 hb3 hk3; have hT3 := hT2.keep hk3; have f1 : w3.cell? ⟨w.heap.size, 1, none⟩ = some (.string ⟨S.toArray⟩) := hT3.c1)
        | (refine app_text rfl _ _ rfl w.heap.size (.slice (some ⟨w.heap.size + 1, 0, none⟩) 1 1) [1] (by rfl) w hb1 [] (by rfl) (by simp) ?_; intro v2 w2 hb2 hk2; have hT2 := hT1.keep hk2; have e1 : w2.cell? ⟨w.heap.size, 1, none⟩ = some (.string ⟨S.toArray⟩) := hT2.c1))
      go_ret
      refine ⟨?_, hb4.2.1⟩
      rw [show encT (1, S, []) = [1] ++ [] ++ [UInt8.ofNat S.length] ++ S by simp [encT]]
      rfl
    · have hT1 := hT.keep (Keep.alloc _ (.cells #[.int .u8 2] 5))
      have hb1 : Buf w.heap.size (.slice (some ⟨w.heap.size + 1, 0, none⟩) 1 1) [2] w ((w.alloc (.cells #[.int .i64 2, .string ⟨S.toArray⟩, .string ⟨#[]⟩] 89)).alloc (.cells #[.int .u8 2] 5)) := by
        have := Buf.lit (c := 2) hw rfl
        rwa [World.size_alloc] at this
      go_enter Tryz.func74, Tryz.ntmps74
      go_wp2_with (at_builtin; first
        | (refine app_text rfl _ _ rfl w.heap.size v3 ([2] ++ [] ++ [UInt8.ofNat S.length]) (by rfl) w hb3 S (by rfl) (by simp; omega) ?_; intro v4 w4 hb4 hk4; have hcv := hb4.string (by simp))
        | (refine app_byte rfl _ _ rfl w.heap.size v2 ([2] ++ []) (by rfl) w _ _ hb2 _ (by rfl) (by simp) (UInt8.ofNat S.length) hc8.out (by simp) ?_; intro v3 w3 hb3 hk3; have hT3 := hT2.keep hk3; have f1 : w3.cell? ⟨w.heap.size, 1, none⟩ = some (.string ⟨S.toArray⟩) := hT3.c1)
        | (refine app_text rfl _ _ rfl w.heap.size (.slice (some ⟨w.heap.size + 1, 0, none⟩) 1 1) [2] (by rfl) w hb1 [] (by rfl) (by simp) ?_; intro v2 w2 hb2 hk2; have hT2 := hT1.keep hk2; have e1 : w2.cell? ⟨w.heap.size, 1, none⟩ = some (.string ⟨S.toArray⟩) := hT2.c1))
      go_ret
      refine ⟨?_, hb4.2.1⟩
      rw [show encT (2, S, []) = [2] ++ [] ++ [UInt8.ofNat S.length] ++ S by simp [encT]]
      rfl
    · have hT1 := hT.keep (Keep.alloc _ (.cells #[.int .u8 3] 5))
      have hb1 : Buf w.heap.size (.slice (some ⟨w.heap.size + 1, 0, none⟩) 1 1) [3] w ((w.alloc (.cells #[.int .i64 3, .string ⟨S.toArray⟩, .string ⟨#[]⟩] 89)).alloc (.cells #[.int .u8 3] 5)) := by
        have := Buf.lit (c := 3) hw rfl
        rwa [World.size_alloc] at this
      go_enter Tryz.func74, Tryz.ntmps74
      go_wp2_with (at_builtin; first
        | (refine app_text rfl _ _ rfl w.heap.size v3 ([3] ++ [] ++ [UInt8.ofNat S.length]) (by rfl) w hb3 S (by rfl) (by simp; omega) ?_; intro v4 w4 hb4 hk4; have hcv := hb4.string (by simp))
        | (refine app_byte rfl _ _ rfl w.heap.size v2 ([3] ++ []) (by rfl) w _ _ hb2 _ (by rfl) (by simp) (UInt8.ofNat S.length) hc8.out (by simp) ?_; intro v3 w3 hb3 hk3; have hT3 := hT2.keep hk3; have f1 : w3.cell? ⟨w.heap.size, 1, none⟩ = some (.string ⟨S.toArray⟩) := hT3.c1)
        | (refine app_text rfl _ _ rfl w.heap.size (.slice (some ⟨w.heap.size + 1, 0, none⟩) 1 1) [3] (by rfl) w hb1 [] (by rfl) (by simp) ?_; intro v2 w2 hb2 hk2; have hT2 := hT1.keep hk2; have e1 : w2.cell? ⟨w.heap.size, 1, none⟩ = some (.string ⟨S.toArray⟩) := hT2.c1))
      go_ret
      refine ⟨?_, hb4.2.1⟩
      rw [show encT (3, S, []) = [3] ++ [] ++ [UInt8.ofNat S.length] ++ S by simp [encT]]
      rfl
  · obtain ⟨p, q, rfl⟩ : ∃ p q, L = [p, q] := by
      match L, hL with
      | [p, q], _ => exact ⟨p, q, rfl⟩
    clear hL hk
    have hT1 := hT.keep (Keep.alloc _ (.cells #[.int .u8 7] 5))
    have hb1 : Buf w.heap.size (.slice (some ⟨w.heap.size + 1, 0, none⟩) 1 1) [7] w ((w.alloc (.cells #[.int .i64 3, .string ⟨S.toArray⟩, .string ⟨#[p, q]⟩] 89)).alloc (.cells #[.int .u8 7] 5)) := by
      have := Buf.lit (c := 7) hw rfl
      rwa [World.size_alloc] at this
    go_enter Tryz.func74, Tryz.ntmps74
    go_wp2_with (at_builtin; first
      | (refine app_text rfl _ _ rfl w.heap.size v3 ([7] ++ [p, q] ++ [UInt8.ofNat S.length]) (by rfl) w hb3 S (by rfl) (by simp; omega) ?_; intro v4 w4 hb4 hk4; have hcv := hb4.string (by simp))
      | (refine app_byte rfl _ _ rfl w.heap.size v2 ([7] ++ [p, q]) (by rfl) w _ _ hb2 _ (by rfl) (by simp) (UInt8.ofNat S.length) hc8.out (by simp) ?_; intro v3 w3 hb3 hk3; have hT3 := hT2.keep hk3; have f1 : w3.cell? ⟨w.heap.size, 1, none⟩ = some (.string ⟨S.toArray⟩) := hT3.c1)
      | (refine app_text rfl _ _ rfl w.heap.size (.slice (some ⟨w.heap.size + 1, 0, none⟩) 1 1) [7] (by rfl) w hb1 [p, q] (by rfl) (by simp) ?_; intro v2 w2 hb2 hk2; have hT2 := hT1.keep hk2; have e1 : w2.cell? ⟨w.heap.size, 1, none⟩ = some (.string ⟨S.toArray⟩) := hT2.c1))
    go_ret
    refine ⟨?_, hb4.2.1⟩
    rw [show encT (3, S, [p, q]) = [7] ++ [p, q] ++ [UInt8.ofNat S.length] ++ S by simp [encT]]
    rfl

/-- three terms in a row -/
def T9 (w : World) (g : Nat) (y : Tr) : Prop := w.heap[g]? = some (Obj.cells (encTr y).toArray 89)
theorem T9.keep {w w' : World} {g : Nat} {y : Tr} (h : T9 w g y) (k : Keep w w') : T9 w' g y := k _ _ _ _ (by decide) h
theorem T9.lt {w : World} {g : Nat} {y : Tr} (h : T9 w g y) : g < w.heap.size := (Array.getElem?_eq_some_iff.1 h).1
theorem T9.below {w w' : World} {g : Nat} {y : Tr} (h : T9 w g y) (hb : RowKit.Below w.heap.size w w') : T9 w' g y := (hb.block g h.lt).trans h
theorem T9.all {W : World} {n : Nat} {y : Tr} (h : T9 W n y) : C9 W n y := by
  unfold C9
  simp only [cell_of_row W n _ _ _ _ h]
  exact ⟨rfl, rfl, rfl, rfl, rfl, rfl, rfl, rfl, rfl⟩
theorem Buf.below {B : Nat} {v : Value} {l : List UInt8} {W0 w w' : World} (h : Buf B v l W0 w) (hb : RowKit.Below w.heap.size w w') : Buf B v l W0 w' :=
  ⟨h.1.kept (row := none) ⟨hb.os, hb.tape, hb.output, hb.size, fun i hi _ => hb.block i hi⟩ (by cases v.ownBlock <;> simp), h.2.1.trans (hb.mono h.2.2), Nat.le_trans h.2.2 hb.size⟩

set_option maxHeartbeats 2000000 in
set_option maxRecDepth 100000 in
theorem RThree_any (y : Tr) (w : World) :
    Calls Tryz.prog 73 #[valTr y] w fun e w' => ∃ g, e = .returned (.slice (some ⟨g, 0, none⟩) 3 3) ∧ T9 w' g y ∧ RowKit.Below w.heap.size w w' := by
  unfold valTr
  go_enter Tryz.func73, Tryz.ntmps73
  go_wp2_with fail
  go_ret
  refine ⟨w.heap.size + 1, rfl, ?_, bstep (balloc _ _) (balloc _ _)⟩
  have := heap_alloc_new (w.alloc (.cells (encTr y).toArray 91)) (.cells (encTr y).toArray 89)
  rw [World.size_alloc] at this
  exact this

def encK (y : Tr) (k : Nat) : List UInt8 := if k = 0 then [] else if k = 1 then encT y.1 else if k = 2 then encT y.1 ++ encT y.2.1 else encX y
theorem encK_len {y : Tr} (h : okTr y) (k : Nat) : (encK y k).length ≤ 84 := by
  have h1 := encT_len h.1
  have h2 := encT_len h.2.1
  have h3 := encX_len h
  unfold encK
  split
  · simp
  · split
    · omega
    · split
      · simp; omega
      · exact h3

set_option maxHeartbeats 8000000 in
set_option maxRecDepth 100000 in
theorem RSetBytes_any (ad : Option Addr) (ca : Nat) (l : List Tr) (w : World) (hl : SlT w ad l) (hs : IsSet l) :
    Calls Tryz.prog 53 #[.slice ad l.length ca] w fun e w' => e = .returned (.string ⟨(encS l).toArray⟩) ∧ RowKit.Below w.heap.size w w' := by
  have Hl : Hid (SlT w ad l) := hl
  have Hok : Hid (∀ x ∈ l, okTr x) := okTr_set hs
  have hn : l.length ≤ 200 := hs.1
  have hc : Hid ((l.length : Int) / 256 = ((UInt8.ofNat (l.length / 256)).toNat : Int)) := by show _ = _; rw [toNat_ofNat (by omega)]; omega
  have hd : Hid ((l.length : Int) % 256 = ((UInt8.ofNat l.length).toNat : Int)) := by show _ = _; rw [toNat_ofNat (by omega)]; omega
  clear hl hs
  go_enter Tryz.func53, Tryz.ntmps53
  go_wp2_with fail
  generalize hq : [UInt8.ofNat (l.length / 256), UInt8.ofNat l.length] = q2 at *
  have hq2 : q2.length = 2 := by rw [← hq]; rfl
  have hb0 : Hid (Buf w.heap.size (.slice (some ⟨w.heap.size, 0, none⟩) 2 2) q2 w (w.alloc (.cells #[.int .u8 ((l.length : Int) / 256), .int .u8 ((l.length : Int) % 256)] 5))) := by
    show Buf _ _ _ _ _
    rw [← hq]
    exact Buf.lit2 ⟨RowKit.Below.refl _ _, Nat.le_refl _⟩ hc.out hd.out
  go_loopw [3, 4] (fun v iv wr => ∃ k : Nat, k ≤ l.length ∧ iv = .int .i64 k ∧ Hid (Buf w.heap.size v (q2 ++ encR (l.take k)) w wr)) (fun _ iv _ => l.length - (intOf iv).toNat)
  case atStart => exact ⟨0, Nat.zero_le _, rfl, by show Buf _ _ _ _ _; simpa [encR] using hb0.out⟩
  case round =>
    obtain ⟨k, hk, rfl, hbu⟩ := hrel
    by_cases hlt : k < l.length
    · obtain ⟨b, o, rfl, hr⟩ := (Hl.out.below hbu.out.2.1).at k hlt
      obtain ⟨c0, c1, c2, c3, c4, c5, c6, c7, c8⟩ := hr.at k hlt
      have i0' : (0 : Int) ≤ (k : Int) := by omega
      have i1 : (k : Int) < (l.length : Int) := by omega
      have hy := Hok.out _ (List.getElem_mem hlt)
      have htk : Hid (encR (l.take (k + 1)) = encR (l.take k) ++ encX l[k]) := by show encR _ = _; unfold encR; rw [List.take_succ_eq_append_getElem hlt, List.flatMap_append]; simp only [List.flatMap_cons, List.flatMap_nil, List.append_nil]
      have hlen : Hid ((q2 ++ encR (l.take k)).length ≤ 20000) := by
        show _ ≤ _
        have h1 := encR_len (l.take k) (fun x hx => Hok.out x (List.mem_of_mem_take hx))
        have h2 : (l.take k).length ≤ 200 := by rw [List.length_take]; omega
        simp only [List.length_append]
        omega
      generalize hbase : q2 ++ encR (l.take k) = base at *
      generalize encR (l.take k) = t0 at *
      generalize l[k] = y at *
      have H3 := fun W => RThree_any y W
      unfold valTr at H3
      clear hr hb0 hq
      go_wp2_with fail
      refine (H3 _).mono ?_
      rintro e W1 ⟨g, rfl, hT, hb1⟩
      have hT : Hid (T9 W1 g y) := hT
      have hB : Hid (Buf w.heap.size _ base w W1) := hbu.out.below hb1
      clear hb1 hbu c0 c1 c2 c3 c4 c5 c6 c7 c8 H3
      go_wp2_with fail
      go_loopw [3, 6] (fun v jv W2 => ∃ j : Nat, j ≤ 3 ∧ jv = .int .i64 j ∧ Hid (Buf w.heap.size v (base ++ encK y j) w W2) ∧ Hid (T9 W2 g y)) (fun _ jv _ => 3 - (intOf jv).toNat)
      case atStart => exact ⟨0, by omega, rfl, by show Buf _ _ _ _ _; rw [show encK y 0 = [] from rfl, List.append_nil]; exact hB.out, hT⟩
      case round =>
        obtain ⟨j, hj, rfl, hB, hT⟩ := hrel
        obtain ⟨x0, x1, x2, x3, x4, x5, x6, x7, x8⟩ := hT.out.all
        rcases (by omega : j = 0 ∨ j = 1 ∨ j = 2 ∨ j = 3) with rfl | rfl | rfl | rfl
        · have ek : encK y 0 = [] := rfl
          have ek' : Hid (encK y 1 = encK y 0 ++ encT y.1) := by show _ = _; simp [encK]
          have HB := fun W => RBytes_any y.1 W hy.1
          have hlen2 : Hid ((base ++ encK y 0).length + (encT y.1).length ≤ 500000) := by show _ ≤ _; have := hlen.out; have := encK_len hy 0; have := encT_len hy.1; simp only [List.length_append]; omega
          clear ek
          go_wp2_with fail
          refine (HB _).mono ?_
          rintro e W2 ⟨rfl, hb2⟩
          have hB2 := hB.out.below hb2
          have hT2 : T9 W2 g y := hT.out.below hb2
          clear hb2 HB
          go_wp2_with (at_builtin; refine app_text rfl _ _ rfl w.heap.size _ (base ++ encK y 0) (by rfl) w hB2 (encT y.1) (by rfl) (by have := hlen2.out; omega) ?_; intro v3 W3 hb3 hk3)
          have hB3 : Hid (Buf w.heap.size v3 (base ++ encK y 1) w W3) := by show Buf _ _ _ _ _; rw [ek'.out, ← List.append_assoc]; exact hb3
          have hT3 : Hid (T9 W3 g y) := hT2.keep hk3
          go_roundw
          case rel => exact ⟨1, by omega, rfl, hB3, hT3⟩
          case measure => simp [intOf]
        · have ek : encK y 1 = encT y.1 := rfl
          have ek' : Hid (encK y 2 = encK y 1 ++ encT y.2.1) := by show _ = _; simp [encK]
          have HB := fun W => RBytes_any y.2.1 W hy.2.1
          have hlen2 : Hid ((base ++ encK y 1).length + (encT y.2.1).length ≤ 500000) := by show _ ≤ _; have := hlen.out; have := encK_len hy 1; have := encT_len hy.2.1; simp only [List.length_append]; omega
          clear ek
          go_wp2_with fail
          refine (HB _).mono ?_
          rintro e W2 ⟨rfl, hb2⟩
          have hB2 := hB.out.below hb2
          have hT2 : T9 W2 g y := hT.out.below hb2
          clear hb2 HB
          go_wp2_with (at_builtin; refine app_text rfl _ _ rfl w.heap.size _ (base ++ encK y 1) (by rfl) w hB2 (encT y.2.1) (by rfl) (by have := hlen2.out; omega) ?_; intro v3 W3 hb3 hk3)
          have hB3 : Hid (Buf w.heap.size v3 (base ++ encK y 2) w W3) := by show Buf _ _ _ _ _; rw [ek'.out, ← List.append_assoc]; exact hb3
          have hT3 : Hid (T9 W3 g y) := hT2.keep hk3
          go_roundw
          case rel => exact ⟨2, by omega, rfl, hB3, hT3⟩
          case measure => simp [intOf]
        · have ek : encK y 2 = encT y.1 ++ encT y.2.1 := rfl
          have ek' : Hid (encK y 3 = encK y 2 ++ encT y.2.2) := by show _ = _; simp [encK, encX]
          have HB := fun W => RBytes_any y.2.2 W hy.2.2
          have hlen2 : Hid ((base ++ encK y 2).length + (encT y.2.2).length ≤ 500000) := by show _ ≤ _; have := hlen.out; have := encK_len hy 2; have := encT_len hy.2.2; simp only [List.length_append]; omega
          clear ek
          go_wp2_with fail
          refine (HB _).mono ?_
          rintro e W2 ⟨rfl, hb2⟩
          have hB2 := hB.out.below hb2
          have hT2 : T9 W2 g y := hT.out.below hb2
          clear hb2 HB
          go_wp2_with (at_builtin; refine app_text rfl _ _ rfl w.heap.size _ (base ++ encK y 2) (by rfl) w hB2 (encT y.2.2) (by rfl) (by have := hlen2.out; omega) ?_; intro v3 W3 hb3 hk3)
          have hB3 : Hid (Buf w.heap.size v3 (base ++ encK y 3) w W3) := by show Buf _ _ _ _ _; rw [ek'.out, ← List.append_assoc]; exact hb3
          have hT3 : Hid (T9 W3 g y) := hT2.keep hk3
          go_roundw
          case rel => exact ⟨3, by omega, rfl, hB3, hT3⟩
          case measure => simp [intOf]
        · have hmv : Hid (∀ u W, Buf w.heap.size u (base ++ encK y 3) w W → Buf w.heap.size u (q2 ++ encR (l.take (k + 1))) w W) := fun u W h => by
            rw [htk.out, ← List.append_assoc, hbase]
            exact h
          go_wp2_with fail
          exact ⟨⟨k + 1, by omega, by go_num, hmv.out _ _ hB.out⟩, by simp [intOf]; omega⟩
    · obtain rfl : k = l.length := by omega
      have hbu' := hbu.out
      rw [List.take_length, ← hq] at hbu'
      have e : [UInt8.ofNat (l.length / 256), UInt8.ofNat l.length] ++ encR l = encS l := rfl
      rw [e] at hbu'
      have hcv := hbu'.string (encS_ne l)
      go_wp2_with fail
      go_ret
      exact ⟨rfl, hbu'.2.1⟩
end Go.Proofs.YtaddfndohoppeaaGreatDoor
