import Derived.Test.YtifkcoappflenagGreatDoorMCMergeSidesx0
import Derived.OwnWalk
import Derived.Laws.Rows
import Derived.Test.YtifkcoappflenagGreatDoorMA0x1
import Derived.Deep.RegionHeld3
import Derived.Test.YtifkcoappflenagGreatDoorMA0x3
import Derived.Deep.Draws
import Derived.RegionTactic
import Derived.Test.YtifkcoappflenagGreatDoorMA0x0
import Derived.LaidEql
import Derived.Stop.Asserts
import Derived.RowKitTokens

/- The document's answer (package strataref1): Sorted: each once, rising, one put in behind the other. -/
namespace Go.Proofs.YtifkcoappflenagGreatDoor
open Go Go.RowKit Go.Proofs
set_option synthInstance.maxSize 1000

/-! ### a row of one's own, one triple of it written -/
theorem own_set1 {W : World} {base g cap n sz p : Nat} {e : TypeId} {xs : List Value} (h : W.ownsRow base e sz (.slice (some ⟨g, 0, none⟩) n cap) n xs) (u : Value) :
    (W.setCell ⟨g, p, none⟩ u).ownsRow base e sz (.slice (some ⟨g, 0, none⟩) n cap) n (xs.set p u) := by
  obtain ⟨h1, h2⟩ := h
  refine ⟨by simpa using h1, ?_⟩
  rcases h2 with ⟨h2, _⟩ | ⟨g', cap', cur, hv, hb, hg, hle, hm, hs, ht⟩
  · simp at h2
  · simp only [Value.slice.injEq, Option.some.injEq, Addr.mk.injEq, and_true, true_and] at hv
    obtain ⟨rfl, rfl⟩ := hv
    refine Or.inr ⟨g, cap, cur.setIfInBounds p u, rfl, hb, heap_setCell_same W g p cur e u hg, hle, hm, by simpa using hs, ?_⟩
    rw [Array.toList_setIfInBounds, List.take_set, ht]

theorem own_set {W : World} {base g cap : Nat} {t : List Tr} (h : W.ownsRow base 44 9 (.slice (some ⟨g, 0, none⟩) t.length cap) t.length (cellsT t)) (j : Nat) (x : Tr) :
    (W.setCells g (j * 9) (encTr x)).ownsRow base 44 9 (.slice (some ⟨g, 0, none⟩) t.length cap) t.length (cellsT (t.set j x)) := by
  have key : ∀ (vs : List Value) (p : Nat) (W : World) (xs : List Value), W.ownsRow base 44 9 (.slice (some ⟨g, 0, none⟩) t.length cap) t.length xs →
      ∃ ys, (W.setCells g p vs).ownsRow base 44 9 (.slice (some ⟨g, 0, none⟩) t.length cap) t.length ys ∧ ∀ q, ys[q]? = if p ≤ q ∧ q < p + vs.length ∧ q < xs.length then vs[q - p]? else xs[q]? := by
    intro vs
    induction vs with
    | nil => intro p W xs h; exact ⟨xs, h, fun q => by rw [if_neg (by simp; omega)]⟩
    | cons v r ih =>
      intro p W xs h
      obtain ⟨ys, hy, hq⟩ := ih (p + 1) _ _ (own_set1 (p := p) h v)
      refine ⟨ys, hy, fun q => ?_⟩
      rw [hq q]
      simp only [List.length_set, List.length_cons, List.getElem?_set]
      by_cases e1 : p = q
      · subst e1
        by_cases e2 : p < xs.length
        · rw [if_neg (by omega), if_pos rfl, if_pos e2, if_pos (by omega)]; simp
        · rw [if_neg (by omega), if_pos rfl, if_neg e2, if_neg (by omega)]; simp; omega
      · by_cases e2 : p + 1 ≤ q ∧ q < p + 1 + r.length ∧ q < xs.length
        · rw [if_pos e2, if_pos (by omega), show q - p = (q - (p + 1)) + 1 by omega]; simp
        · rw [if_neg e2, if_neg e1, if_neg (by omega)]
  obtain ⟨ys, hy, hq⟩ := key (encTr x) (j * 9) W _ h
  have e : ys = cellsT (t.set j x) := by
    apply List.ext_getElem?
    intro q
    rw [hq q, encTr_len, cellsT_len]
    by_cases hq9 : q < t.length * 9
    · have c1 := cellsT_at (t.set j x) (q / 9) (by rw [List.length_set]; omega) (q % 9) (by omega)
      have c2 := cellsT_at t (q / 9) (by omega) (q % 9) (by omega)
      rw [show q / 9 * 9 + q % 9 = q by omega] at c1 c2
      rw [c1, c2]
      by_cases hj' : q / 9 = j
      · rw [if_pos (by omega)]
        rw [show q - j * 9 = q % 9 by omega]
        congr 1
        simp [hj']
      · rw [if_neg (by omega)]
        congr 1
        rw [List.getElem_set_ne (by omega)]
    · rw [if_neg (by omega), List.getElem?_eq_none (by rw [cellsT_len]; omega), List.getElem?_eq_none (by rw [cellsT_len, List.length_set]; omega)]
  rw [← e]
  exact hy

theorem own_row {W : World} {base g cap n : Nat} {t : List Tr} (h : W.ownsRow base 44 9 (.slice (some ⟨g, 0, none⟩) n cap) t.length (cellsT t)) : RowR W g 0 t := fun j u hj => by
  have := h.cells (g := g) rfl j u hj
  rwa [Addr.add_lit] at this
theorem own_at {W : World} {base g cap n : Nat} {t : List Tr} (h : W.ownsRow base 44 9 (.slice (some ⟨g, 0, none⟩) n cap) t.length (cellsT t)) (i : Nat) (hi : i < t.length) :
    W.cell? ⟨g, i * 9, none⟩ = some (.int .i64 t[i].1.1) ∧ W.cell? ⟨g, i * 9 + 1, none⟩ = some (.string ⟨t[i].1.2.1.toArray⟩) ∧ W.cell? ⟨g, i * 9 + 2, none⟩ = some (.string ⟨t[i].1.2.2.toArray⟩)
    ∧ W.cell? ⟨g, i * 9 + 3, none⟩ = some (.int .i64 t[i].2.1.1) ∧ W.cell? ⟨g, i * 9 + 4, none⟩ = some (.string ⟨t[i].2.1.2.1.toArray⟩) ∧ W.cell? ⟨g, i * 9 + 5, none⟩ = some (.string ⟨t[i].2.1.2.2.toArray⟩)
    ∧ W.cell? ⟨g, i * 9 + 6, none⟩ = some (.int .i64 t[i].2.2.1) ∧ W.cell? ⟨g, i * 9 + 7, none⟩ = some (.string ⟨t[i].2.2.2.1.toArray⟩) ∧ W.cell? ⟨g, i * 9 + 8, none⟩ = some (.string ⟨t[i].2.2.2.2.toArray⟩) := by
  have := (own_row h).at i hi
  simp only [Nat.zero_add] at this
  exact this
theorem own_some {W : World} {base g cap n : Nat} {t : List Tr} (h : W.ownsRow base 44 9 (.slice (some ⟨g, 0, none⟩) n cap) t.length (cellsT t)) (i : Nat) (hi : i < t.length) :
    ∃ z : Tr, W.cell? ⟨g, i * 9, none⟩ = some (.int .i64 z.1.1) ∧ W.cell? ⟨g, i * 9 + 1, none⟩ = some (.string ⟨z.1.2.1.toArray⟩) ∧ W.cell? ⟨g, i * 9 + 2, none⟩ = some (.string ⟨z.1.2.2.toArray⟩)
    ∧ W.cell? ⟨g, i * 9 + 3, none⟩ = some (.int .i64 z.2.1.1) ∧ W.cell? ⟨g, i * 9 + 4, none⟩ = some (.string ⟨z.2.1.2.1.toArray⟩) ∧ W.cell? ⟨g, i * 9 + 5, none⟩ = some (.string ⟨z.2.1.2.2.toArray⟩)
    ∧ W.cell? ⟨g, i * 9 + 6, none⟩ = some (.int .i64 z.2.2.1) ∧ W.cell? ⟨g, i * 9 + 7, none⟩ = some (.string ⟨z.2.2.2.1.toArray⟩) ∧ W.cell? ⟨g, i * 9 + 8, none⟩ = some (.string ⟨z.2.2.2.2.toArray⟩) := ⟨t[i], own_at h i hi⟩
theorem own_thaw {W : World} {base g cap n m : Nat} {xs : List Value} (h : W.ownsRow base 44 9 (.slice (some ⟨g, 0, none⟩) n cap) m xs) (p : Nat) : W.frozen? ⟨g, p, none⟩ = false := by
  rcases h.2 with ⟨h2, _⟩ | ⟨g', cap', cur, hv, hb, hg, _⟩
  · simp at h2
  · simp only [Value.slice.injEq, Option.some.injEq, Addr.mk.injEq, and_true] at hv
    obtain ⟨rfl, _⟩ := hv
    simp [World.frozen?, hg]
theorem own_thaw9 {W : World} {base g cap n m : Nat} {xs : List Value} (h : W.ownsRow base 44 9 (.slice (some ⟨g, 0, none⟩) n cap) m xs) (j : Nat) : W.frozen? ⟨g, j * 9, none⟩ = false ∧ W.frozen? ⟨g, j * 9 + 1, none⟩ = false ∧ W.frozen? ⟨g, j * 9 + 2, none⟩ = false ∧ W.frozen? ⟨g, j * 9 + 3, none⟩ = false ∧ W.frozen? ⟨g, j * 9 + 4, none⟩ = false ∧ W.frozen? ⟨g, j * 9 + 5, none⟩ = false ∧ W.frozen? ⟨g, j * 9 + 6, none⟩ = false ∧ W.frozen? ⟨g, j * 9 + 7, none⟩ = false ∧ W.frozen? ⟨g, j * 9 + 8, none⟩ = false := ⟨own_thaw h _, own_thaw h _, own_thaw h _, own_thaw h _, own_thaw h _, own_thaw h _, own_thaw h _, own_thaw h _, own_thaw h _⟩
theorem below_set9 {w W : World} {g p : Nat} {x : Tr} (hb : RowKit.Below w.heap.size w W) (hg : w.heap.size ≤ g) : RowKit.Below w.heap.size w (W.setCells g p (encTr x)) :=
  ((((((((hb.setCell (p := ⟨g, p, none⟩) hg _).setCell (p := ⟨g, p + 1, none⟩) hg _).setCell (p := ⟨g, p + 2, none⟩) hg _).setCell (p := ⟨g, p + 3, none⟩) hg _).setCell (p := ⟨g, p + 4, none⟩) hg _).setCell (p := ⟨g, p + 5, none⟩) hg _).setCell (p := ⟨g, p + 6, none⟩) hg _).setCell (p := ⟨g, p + 7, none⟩) hg _).setCell (p := ⟨g, p + 8, none⟩) hg _

theorem own_slS {W : World} {base : Nat} {e : TypeId} {v : Value} {t : List Tr} (h : W.ownsRow base e 9 v t.length (cellsT t)) : ∃ ad cap, v = .slice ad t.length cap ∧ SlT W ad t := by
  have h' := h
  rcases h.2 with ⟨rfl, h0⟩ | ⟨g, cap, cur, rfl, _⟩
  · exact ⟨none, 0, by rw [h0], fun hne => absurd (List.eq_nil_of_length_eq_zero h0) hne⟩
  · refine ⟨some ⟨g, 0, none⟩, cap, rfl, fun _ => ⟨g, 0, rfl, fun j u hj => ?_⟩⟩
    have := h'.cells (g := g) rfl j u hj
    rwa [Addr.add_lit] at this
theorem ownsRow_belowS {W W' : World} {base : Nat} {e : TypeId} {sz : Nat} {v : Value} {n : Nat} {cs : List Value} (h : W.ownsRow base e sz v n cs) (hb : RowKit.Below W.heap.size W W') : W'.ownsRow base e sz v n cs :=
  h.kept (row := none) ⟨hb.os, hb.tape, hb.output, hb.size, fun i hi _ => hb.block i hi⟩ (Classical.em _)

theorem own_succ {W : World} {base : Nat} {e : TypeId} {sz n : Nat} {v : Value} {xs : List Value} (h : W.ownsRow base e sz v (n + 1) xs) : ∃ g cap, v = .slice (some ⟨g, 0, none⟩) (n + 1) cap := by
  rcases h.2 with ⟨_, h0⟩ | ⟨g, cap, cur, rfl, _⟩
  · omega
  · exact ⟨g, cap, rfl⟩

theorem wrapS (n : Nat) (h : n ≤ 1000000) : IntKind.i64.wrap (n : Int) = n := by simp [IntKind.wrap, IntKind.bits, IntKind.signed]; omega

/-! ### where one is put in -/
theorem ins_set (t : List Tr) (j : Nat) (y z : Tr) (hj : j ≤ t.length) : (t.take j ++ y :: t.drop j).set j z = t.take j ++ z :: t.drop j := by
  rw [List.set_append_right _ _ (by simp; omega)]
  simp [Nat.min_eq_left hj]
theorem ins_shift (t : List Tr) (j : Nat) (hj : j + 1 ≤ t.length) : t.take (j + 1) ++ t[j] :: t.drop (j + 1) = t.take j ++ t[j] :: t.drop j := by
  rw [List.take_succ_eq_append_getElem (by omega), List.drop_eq_getElem_cons (i := j) (by omega), List.append_assoc]
  rfl
theorem ins_at (t : List Tr) (j : Nat) (y : Tr) (hj : j + 1 ≤ t.length) : (t.take (j + 1) ++ y :: t.drop (j + 1))[j]'(by simp; omega) = t[j] := by
  rw [List.getElem_append_left (by simp; omega), List.getElem_take]
theorem ins_len (t : List Tr) (j : Nat) (y : Tr) (hj : j ≤ t.length) : (t.take j ++ y :: t.drop j).length = t.length + 1 := by simp; omega
theorem ins_mem (t : List Tr) (k : Nat) (y x : Tr) : x ∈ t.take k ++ y :: t.drop k ↔ x ∈ t ∨ x = y := by
  constructor
  · intro h
    rcases List.mem_append.1 h with h | h
    · exact Or.inl (List.mem_of_mem_take h)
    · rcases List.mem_cons.1 h with h | h
      · exact Or.inr h
      · exact Or.inl (List.mem_of_mem_drop h)
  · rintro (h | h)
    · rw [← List.take_append_drop k t] at h
      rcases List.mem_append.1 h with h | h
      · exact List.mem_append.2 (Or.inl h)
      · exact List.mem_append.2 (Or.inr (List.mem_cons.2 (Or.inr h)))
    · exact List.mem_append.2 (Or.inr (List.mem_cons.2 (Or.inl h)))
theorem ins_rising (t : List Tr) (k : Nat) (y : Tr) (hr : Rising t) (hlo : ∀ m (hm : m < t.length), m < k → cmpTr t[m] y < 0) (hhi : ∀ m (hm : m < t.length), k ≤ m → 0 < cmpTr t[m] y) : Rising (t.take k ++ y :: t.drop k) := by
  have hr' : Rising (t.take k ++ t.drop k) := by rw [List.take_append_drop]; exact hr
  obtain ⟨h1, h2, h3⟩ := List.pairwise_append.1 hr'
  refine List.pairwise_append.2 ⟨h1, List.pairwise_cons.2 ⟨fun z hz => ?_, h2⟩, fun a ha z hz => ?_⟩
  · obtain ⟨m, hm, rfl⟩ := List.getElem_of_mem hz
    rw [List.getElem_drop]
    have hm' : k + m < t.length := by simp at hm; omega
    have h0 := hhi (k + m) hm' (by omega)
    have := cmpTr_neg y t[k + m]
    omega
  · rcases List.mem_cons.1 hz with rfl | hz
    · obtain ⟨m, hm, rfl⟩ := List.getElem_of_mem ha
      rw [List.getElem_take]
      have hm' : m < k ∧ m < t.length := by simp at hm; omega
      exact hlo m hm'.2 hm'.1
    · exact h3 a ha z hz
theorem rise_lo {t : List Tr} (hr : Rising t) (k : Nat) (hk : k < t.length) (y : Tr) (h : cmpTr t[k] y < 0) : ∀ m (hm : m < t.length), m < k + 1 → cmpTr t[m] y < 0 := fun m hm hle => by
  rcases Nat.lt_or_eq_of_le (Nat.le_of_lt_succ hle) with h1 | h1
  · have h2 := List.pairwise_iff_getElem.1 hr m k hm hk h1
    have h3 := cmpTr_trans t[m] t[k] y (by omega) (by omega)
    rcases Int.lt_or_eq_of_le h3 with h4 | h4
    · exact h4
    · have e := (cmpTr_zero _ _).1 h4
      have := cmpTr_neg t[m] t[k]
      rw [e] at this h2
      omega
  · subst h1; exact h

set_option maxHeartbeats 16000000 in
set_option maxRecDepth 100000 in
theorem RSorted_any (ad : Option Addr) (cap : Nat) (l : List Tr) (w : World) (h : SlT w ad l) (hn : l.length ≤ 1000000) :
    Calls Tryz.prog 45 #[.slice ad l.length cap] w fun e w' => ∃ (m : List Tr) (ad' : Option Addr) (c : Nat), e = .returned (.slice ad' m.length c) ∧ SlT w' ad' m ∧ Rising m ∧ (∀ x, x ∈ m ↔ x ∈ l) ∧ m.length ≤ l.length ∧ RowKit.Below w.heap.size w w' := by
  have Hl : Hid (SlT w ad l) := h
  clear h
  obtain ⟨i0, hi0, hz⟩ := Option.map_eq_some_iff.1 infoTr
  simp only [Prod.mk.injEq] at hz
  obtain ⟨hz0, hz1, hz2⟩ := hz
  go_enter Tryz.func45, Tryz.ntmps45
  go_wp2_with fail
  go_loopw [3, 4] (fun v i wr => ∃ (k : Nat) (t : List Tr), k ≤ l.length ∧ i = .int .i64 k ∧ Hid (Rising t ∧ ∀ x, x ∈ t ↔ x ∈ l.take k) ∧ t.length ≤ k ∧ Hid (wr.ownsRow w.heap.size 44 9 v t.length (cellsT t)) ∧ RowKit.Below w.heap.size w wr) (fun _ i wr => l.length - (intOf i).toNat)
  case atStart => exact ⟨0, [], Nat.zero_le _, rfl, ⟨List.Pairwise.nil, by simp⟩, Nat.zero_le _, World.ownsRow_nil _ _ _ _, RowKit.Below.refl _ _⟩
  case round =>
    obtain ⟨i, t, hi', rfl, ht, htl, hown, hbr⟩ := hrel
    obtain ⟨W1, hW1⟩ : ∃ W1, W1 = wr := ⟨_, rfl⟩
    subst hW1
    obtain ⟨at0, ct, rfl, hslt⟩ : ∃ ad cap, _ = Value.slice ad t.length cap ∧ SlT W1 ad t := own_slS hown.out
    by_cases hi : i < l.length
    · have hmem : Hid (∀ x, x ∈ l.take (i + 1) ↔ x ∈ t ∨ x = l[i]) := fun x => by
        rw [List.take_succ_eq_append_getElem hi, List.mem_append, ht.out.2 x, List.mem_singleton]
      have i1 : (i : Int) < (l.length : Int) := by omega
      have i2 : (0 : Int) ≤ (i : Int) := by omega
      have Hslt : Hid (SlT W1 at0 t) := hslt
      have Hri : Hid (Rising t) := ht.out.1
      clear hslt ht
      obtain ⟨b, o, rfl, hr0⟩ := (Hl.out.below hbr).at i hi
      have Hr0 : Hid (RowR W1 b o l) := hr0
      clear hr0
      go_wp2_with fail
      go_loopw [5] (fun kv w2 => ∃ k : Nat, k ≤ t.length ∧ kv = .int .i64 k ∧ Hid (∀ m (hm : m < t.length), k ≤ m → 0 < cmpTr t[m] l[i]) ∧ RowKit.Below W1.heap.size W1 w2) (fun kv w2 => (intOf kv).toNat)
      case atStart => exact ⟨t.length, Nat.le_refl _, rfl, fun m hm h => by omega, RowKit.Below.refl _ _⟩
      case round =>
        obtain ⟨k, hk, rfl, hhi, hb2⟩ := hrel
        rcases Nat.eq_zero_or_pos k with rfl | hpos
        · go_wp2_with fail
          go_region
          go_wp2_with fail
          go_region
          have hBz := hb2.drew.drew
          generalize wr.drew.drew = wz at *
          have hA2 := bstep hbr hBz
          have hzr := hA2.size
          have Hown2 : Hid (wz.ownsRow w.heap.size 44 9 (.slice at0 t.length ct) t.length (cellsT t)) := ownsRow_belowS hown.out hBz
          go_wp2_with (at_builtin; refine wpList_append_own _ rfl _ _ 22 rfl w.heap.size 44 i0 (.agg (encTr zeroTr).toArray) 9 120 Tryz.underlying22 hi0 hz0 hz1 hz2 rfl (by decide) _ _ _ rfl (Hown2.out.alloc _) ⟨wz.heap.size, 0, none⟩ 1 1 (encTr zeroTr) rfl rfl ?c1 ?c2 ?c3 ?c4 ?c5 ?_)
          case c1 =>
            intro i u hi'
            have h9 : i < 9 := (List.getElem?_eq_some_iff.1 hi').1
            rw [Addr.add_lit]
            rcases (by omega : i = 0 ∨ i = 1 ∨ i = 2 ∨ i = 3 ∨ i = 4 ∨ i = 5 ∨ i = 6 ∨ i = 7 ∨ i = 8) with rfl | rfl | rfl | rfl | rfl | rfl | rfl | rfl | rfl
            all_goals
              simp [encTr, zeroTr] at hi'
              subst hi'
              go_simp
          case c2 => exact encTr_one zeroTr
          case c3 => unfold maxLen; omega
          case c4 => omega
          case c5 => simp; omega
          intro v' w9 hown' hgrow _
          have hA9 := (hA2.alloc hzr (.cells (encTr zeroTr).toArray 44)).grown hgrow (by simp; omega) (fun k hk => (Hown2.out.lt k hk).1)
          obtain ⟨g', cap', rfl⟩ := own_succ hown'
          have hg' : w.heap.size ≤ g' := (hown'.lt g' rfl).1
          have Hown9 : Hid (w9.ownsRow w.heap.size 44 9 (.slice (some ⟨g', 0, none⟩) (t.length + 1) cap') (t.length + 1) (cellsT (t.take t.length ++ zeroTr :: t.drop t.length))) := by
            show World.ownsRow _ _ _ _ _ _ _
            rw [List.take_length, List.drop_length]
            simpa [cellsT] using hown'
          clear hown' hgrow Hown2 hA2 hzr hBz hown
          go_wp2_with fail
          go_loopw [6] (fun jv wr => ∃ (j : Nat) (y : Tr), 0 ≤ j ∧ j ≤ t.length ∧ jv = .int .i64 j ∧ Hid (wr.ownsRow w.heap.size 44 9 (.slice (some ⟨g', 0, none⟩) (t.length + 1) cap') (t.length + 1) (cellsT (t.take j ++ y :: t.drop j))) ∧ RowKit.Below w.heap.size w wr) (fun jv wr => (intOf jv).toNat)
          case atStart => exact ⟨t.length, zeroTr, by omega, Nat.le_refl _, by go_num, Hown9.out, hA9⟩
          case round =>
            obtain ⟨j, y, hkj, hjt, rfl, hown4, hA4⟩ := hrel
            have hlen4 := ins_len t j y hjt
            have hown5 := hown4.out
            rw [← hlen4] at hown5
            by_cases hgt : 0 < j
            · obtain ⟨q, rfl⟩ : ∃ q, j = q + 1 := ⟨j - 1, by omega⟩
              obtain ⟨e0, e1, e2, e3, e4, e5, e6, e7, e8⟩ := own_at hown5 q (by omega)
              rw [ins_at t q y hjt] at e0 e1 e2 e3 e4 e5 e6 e7 e8
              obtain ⟨z2, f0, f1, f2, f3, f4, f5, f6, f7, f8⟩ := own_some hown5 (q + 1) (by omega)
              obtain ⟨m0, m1, m2, m3, m4, m5, m6, m7, m8⟩ := own_thaw9 hown5 (q + 1)
              have hnew0 := own_set hown5 (q + 1) t[q]
              rw [hlen4, ins_set t (q + 1) y _ hjt, ins_shift t q hjt] at hnew0
              have hnew : Hid _ := hnew0
              have hwr : IntKind.i64.wrap (((q + 1 : Nat) : Int) - 1) = (q : Int) := by simp [IntKind.wrap, IntKind.bits, IntKind.signed]; omega
              have j0 : (0 : Int) ≤ (q : Int) := by omega
              have j1 : (q : Int) < (t.length : Int) + 1 := by omega
              have j2 : (q : Int) + 1 < (t.length : Int) + 1 := by omega
              clear hown4 hown5 hlen4 hnew0
              generalize t[q] = z at *
              go_wp2_with fail
              exact ⟨⟨q, z, by omega, by omega, rfl, hnew.out, below_set9 hA4 hg'⟩, by simp [intOf]⟩
            · obtain rfl : 0 = j := by omega
              obtain ⟨b', o', hbo, hrow⟩ := (Hl.out.below hA4).at i hi
              simp only [Option.some.injEq, Addr.mk.injEq, and_true] at hbo
              obtain ⟨rfl, rfl⟩ := hbo
              obtain ⟨e0, e1, e2, e3, e4, e5, e6, e7, e8⟩ := hrow.at i hi
              obtain ⟨z2, f0, f1, f2, f3, f4, f5, f6, f7, f8⟩ := own_some hown5 (0) (by omega)
              obtain ⟨m0, m1, m2, m3, m4, m5, m6, m7, m8⟩ := own_thaw9 hown5 (0)
              have hnew0 := own_set hown5 (0) l[i]
              rw [ins_set t (0) y _ hjt] at hnew0
              rw [hlen4] at hnew0
              have hfin : Hid (Rising (t.take (0) ++ l[i] :: t.drop (0)) ∧ ∀ x, x ∈ t.take (0) ++ l[i] :: t.drop (0) ↔ x ∈ l.take (i + 1)) :=
                ⟨ins_rising t (0) l[i] Hri.out (fun m hm h => by omega) hhi.out, fun x => (ins_mem t (0) l[i] x).trans (hmem.out x).symm⟩
              have hlen5 : Hid ((t.take (0) ++ l[i] :: t.drop (0)).length = t.length + 1) := ins_len t (0) l[i] hjt
              have hnew : Hid _ := hnew0
              have j1 : ((0 : Nat) : Int) < (t.length : Int) + 1 := by omega
              have j0 : (0 : Int) ≤ ((0 : Nat) : Int) := by omega
              clear hown4 hown5 hlen4 hnew0 hrow
              simp only [Nat.zero_mul, Nat.zero_add] at f0 f1 f2 f3 f4 f5 f6 f7 f8 m0 m1 m2 m3 m4 m5 m6 m7 m8
              generalize l[i] = z at *
              go_wp2_with fail
              refine ⟨⟨i + 1, t.take (0) ++ z :: t.drop (0), by omega, by go_num, hfin.out, by rw [hlen5.out]; omega, ?_, below_set9 hA4 hg'⟩, by simp [intOf]; omega⟩
              show World.ownsRow _ _ _ _ _ _ _
              rw [hlen5.out]
              exact hnew.out
        · obtain ⟨p, hkp⟩ : ∃ p, k = p + 1 := ⟨k - 1, by omega⟩
          have hpt : p < t.length := by omega
          obtain ⟨g, og, hat, hrg⟩ := (Hslt.out.below hb2).at p hpt
          subst hat
          obtain ⟨c0, c1, c2, c3, c4, c5, c6, c7, c8⟩ := hrg.at p hpt
          obtain ⟨d0, d1, d2, d3, d4, d5, d6, d7, d8⟩ := (Hr0.out.below hb2).at i hi
          have HC := fun W => ROrder_any t[p] l[i] W
          unfold valTr at HC
          have fhi : Hid (0 < cmpTr t[p] l[i] → ∀ m (hm : m < t.length), p ≤ m → 0 < cmpTr t[m] l[i]) := fun h m hm hle => by
            rcases Nat.lt_or_eq_of_le hle with h1 | h1
            · exact hhi.out m hm (by omega)
            · subst h1; exact h
          have flo : Hid (cmpTr t[p] l[i] < 0 → ∀ m (hm : m < t.length), m < k → cmpTr t[m] l[i] < 0) := fun h m hm hlt => rise_lo Hri.out p hpt l[i] h m hm (by omega)
          have feq : Hid (cmpTr t[p] l[i] = 0 → l[i] ∈ t) := fun h => by rw [← (cmpTr_zero _ _).1 h]; exact List.getElem_mem hpt
          have hwr : IntKind.i64.wrap ((k : Int) - 1) = (p : Int) := by rw [show (k : Int) - 1 = (p : Int) by omega]; exact wrapS p (by omega)
          have j0 : (0 : Int) ≤ (p : Int) := by omega
          have j1 : (p : Int) < (t.length : Int) := by omega
          have hd0 : decide (0 < k) = true := by simp; omega
          have hd1 : decide ((k : Int) > 0) = true := by simp; omega
          have Hkp : Hid (k = p + 1) := hkp
          clear hrg hkp hpos
          generalize cmpTr t[p] l[i] = c at HC fhi flo feq
          have Hd : Hid (∀ W', RowKit.Below W1.heap.size W1 W' → RowR W' b o l ∧ SlT W' (some ⟨g, og, none⟩) t) := fun W' h' => ⟨Hr0.out.below h', Hslt.out.below h'⟩
          obtain ⟨x, hx⟩ : ∃ x, x = t[p] := ⟨_, rfl⟩
          obtain ⟨y, hy⟩ : ∃ y, y = l[i] := ⟨_, rfl⟩
          have Hxy : Hid (x = t[p] ∧ y = l[i]) := ⟨hx, hy⟩
          rw [← hx] at c0 c1 c2 c3 c4 c5 c6 c7 c8 HC
          rw [← hy] at d0 d1 d2 d3 d4 d5 d6 d7 d8 HC
          clear hx hy
          cases hcc : decide (c > 0)
          · go_wp2_with fail
            go_region_held3 (fun W => W.cell? ⟨g, og + p * 9, none⟩ = some (.int .i64 x.1.1) ∧ W.cell? ⟨g, og + p * 9 + 1, none⟩ = some (.string ⟨x.1.2.1.toArray⟩) ∧ W.cell? ⟨g, og + p * 9 + 2, none⟩ = some (.string ⟨x.1.2.2.toArray⟩) ∧ W.cell? ⟨g, og + p * 9 + 3, none⟩ = some (.int .i64 x.2.1.1) ∧ W.cell? ⟨g, og + p * 9 + 4, none⟩ = some (.string ⟨x.2.1.2.1.toArray⟩) ∧ W.cell? ⟨g, og + p * 9 + 5, none⟩ = some (.string ⟨x.2.1.2.2.toArray⟩) ∧ W.cell? ⟨g, og + p * 9 + 6, none⟩ = some (.int .i64 x.2.2.1) ∧ W.cell? ⟨g, og + p * 9 + 7, none⟩ = some (.string ⟨x.2.2.2.1.toArray⟩) ∧ W.cell? ⟨g, og + p * 9 + 8, none⟩ = some (.string ⟨x.2.2.2.2.toArray⟩) ∧ W.cell? ⟨b, o + i * 9, none⟩ = some (.int .i64 y.1.1) ∧ W.cell? ⟨b, o + i * 9 + 1, none⟩ = some (.string ⟨y.1.2.1.toArray⟩) ∧ W.cell? ⟨b, o + i * 9 + 2, none⟩ = some (.string ⟨y.1.2.2.toArray⟩) ∧ W.cell? ⟨b, o + i * 9 + 3, none⟩ = some (.int .i64 y.2.1.1) ∧ W.cell? ⟨b, o + i * 9 + 4, none⟩ = some (.string ⟨y.2.1.2.1.toArray⟩) ∧ W.cell? ⟨b, o + i * 9 + 5, none⟩ = some (.string ⟨y.2.1.2.2.toArray⟩) ∧ W.cell? ⟨b, o + i * 9 + 6, none⟩ = some (.int .i64 y.2.2.1) ∧ W.cell? ⟨b, o + i * 9 + 7, none⟩ = some (.string ⟨y.2.2.2.1.toArray⟩) ∧ W.cell? ⟨b, o + i * 9 + 8, none⟩ = some (.string ⟨y.2.2.2.2.toArray⟩)) (first | exact keep18b (by assumption) hb3 | go_keep) (first
              | (go_at_call 19; refine (HC _).mono ?_; rintro e w3 ⟨rfl, hb3⟩))
            have hB3 := bstep hb2.drew hb3
            obtain ⟨hrl, hst⟩ := Hd.out _ hB3
            obtain ⟨g2, og2, hat, hrg⟩ := hst.at p hpt
            simp only [Option.some.injEq, Addr.mk.injEq, and_true] at hat
            obtain ⟨rfl, rfl⟩ := hat
            clear c0 c1 c2 c3 c4 c5 c6 c7 c8 d0 d1 d2 d3 d4 d5 d6 d7 d8
            obtain ⟨c0, c1, c2, c3, c4, c5, c6, c7, c8⟩ := hrg.at p hpt
            obtain ⟨d0, d1, d2, d3, d4, d5, d6, d7, d8⟩ := hrl.at i hi
            rw [← Hxy.out.1] at c0 c1 c2 c3 c4 c5 c6 c7 c8
            rw [← Hxy.out.2] at d0 d1 d2 d3 d4 d5 d6 d7 d8
            clear hrg hrl hst
            have hle : Hid (c ≤ 0) := by simp at hcc; exact hcc
            cases h0 : (c == 0)
            · go_wp2_with fail
              go_region_held3 (fun W => W.cell? ⟨g, og + p * 9, none⟩ = some (.int .i64 x.1.1) ∧ W.cell? ⟨g, og + p * 9 + 1, none⟩ = some (.string ⟨x.1.2.1.toArray⟩) ∧ W.cell? ⟨g, og + p * 9 + 2, none⟩ = some (.string ⟨x.1.2.2.toArray⟩) ∧ W.cell? ⟨g, og + p * 9 + 3, none⟩ = some (.int .i64 x.2.1.1) ∧ W.cell? ⟨g, og + p * 9 + 4, none⟩ = some (.string ⟨x.2.1.2.1.toArray⟩) ∧ W.cell? ⟨g, og + p * 9 + 5, none⟩ = some (.string ⟨x.2.1.2.2.toArray⟩) ∧ W.cell? ⟨g, og + p * 9 + 6, none⟩ = some (.int .i64 x.2.2.1) ∧ W.cell? ⟨g, og + p * 9 + 7, none⟩ = some (.string ⟨x.2.2.2.1.toArray⟩) ∧ W.cell? ⟨g, og + p * 9 + 8, none⟩ = some (.string ⟨x.2.2.2.2.toArray⟩) ∧ W.cell? ⟨b, o + i * 9, none⟩ = some (.int .i64 y.1.1) ∧ W.cell? ⟨b, o + i * 9 + 1, none⟩ = some (.string ⟨y.1.2.1.toArray⟩) ∧ W.cell? ⟨b, o + i * 9 + 2, none⟩ = some (.string ⟨y.1.2.2.toArray⟩) ∧ W.cell? ⟨b, o + i * 9 + 3, none⟩ = some (.int .i64 y.2.1.1) ∧ W.cell? ⟨b, o + i * 9 + 4, none⟩ = some (.string ⟨y.2.1.2.1.toArray⟩) ∧ W.cell? ⟨b, o + i * 9 + 5, none⟩ = some (.string ⟨y.2.1.2.2.toArray⟩) ∧ W.cell? ⟨b, o + i * 9 + 6, none⟩ = some (.int .i64 y.2.2.1) ∧ W.cell? ⟨b, o + i * 9 + 7, none⟩ = some (.string ⟨y.2.2.2.1.toArray⟩) ∧ W.cell? ⟨b, o + i * 9 + 8, none⟩ = some (.string ⟨y.2.2.2.2.toArray⟩)) (first | exact keep18b (by assumption) hb4 | go_keep) (first
                | (go_at_call 19; refine (HC _).mono ?_; rintro e w4 ⟨rfl, hb4⟩))
              have hBz := bstep hB3.drew hb4
              have hlt : Hid (c < 0) := by
                have h1 := hle.out
                have h2 : ¬ c = 0 := by simpa using h0
                show c < 0
                omega
              clear c0 c1 c2 c3 c4 c5 c6 c7 c8 d0 d1 d2 d3 d4 d5 d6 d7 d8 hb4 hB3 HC Hd
              generalize w4 = wz at *
              have hA2 := bstep hbr hBz
              have hzr := hA2.size
              have Hown2 : Hid (wz.ownsRow w.heap.size 44 9 (.slice (some ⟨g, og, none⟩) t.length ct) t.length (cellsT t)) := ownsRow_belowS hown.out hBz
              go_wp2_with (at_builtin; refine wpList_append_own _ rfl _ _ 22 rfl w.heap.size 44 i0 (.agg (encTr zeroTr).toArray) 9 120 Tryz.underlying22 hi0 hz0 hz1 hz2 rfl (by decide) _ _ _ rfl (Hown2.out.alloc _) ⟨wz.heap.size, 0, none⟩ 1 1 (encTr zeroTr) rfl rfl ?c1 ?c2 ?c3 ?c4 ?c5 ?_)
              case c1 =>
                intro i u hi'
                have h9 : i < 9 := (List.getElem?_eq_some_iff.1 hi').1
                rw [Addr.add_lit]
                rcases (by omega : i = 0 ∨ i = 1 ∨ i = 2 ∨ i = 3 ∨ i = 4 ∨ i = 5 ∨ i = 6 ∨ i = 7 ∨ i = 8) with rfl | rfl | rfl | rfl | rfl | rfl | rfl | rfl | rfl
                all_goals
                  simp [encTr, zeroTr] at hi'
                  subst hi'
                  go_simp
              case c2 => exact encTr_one zeroTr
              case c3 => unfold maxLen; omega
              case c4 => omega
              case c5 => simp; omega
              intro v' w9 hown' hgrow _
              have hA9 := (hA2.alloc hzr (.cells (encTr zeroTr).toArray 44)).grown hgrow (by simp; omega) (fun k hk => (Hown2.out.lt k hk).1)
              obtain ⟨g', cap', rfl⟩ := own_succ hown'
              have hg' : w.heap.size ≤ g' := (hown'.lt g' rfl).1
              have Hown9 : Hid (w9.ownsRow w.heap.size 44 9 (.slice (some ⟨g', 0, none⟩) (t.length + 1) cap') (t.length + 1) (cellsT (t.take t.length ++ zeroTr :: t.drop t.length))) := by
                show World.ownsRow _ _ _ _ _ _ _
                rw [List.take_length, List.drop_length]
                simpa [cellsT] using hown'
              clear hown' hgrow Hown2 hA2 hzr hBz hown
              go_wp2_with fail
              go_loopw [6] (fun jv wr => ∃ (j : Nat) (y : Tr), k ≤ j ∧ j ≤ t.length ∧ jv = .int .i64 j ∧ Hid (wr.ownsRow w.heap.size 44 9 (.slice (some ⟨g', 0, none⟩) (t.length + 1) cap') (t.length + 1) (cellsT (t.take j ++ y :: t.drop j))) ∧ RowKit.Below w.heap.size w wr) (fun jv wr => (intOf jv).toNat)
              case atStart => exact ⟨t.length, zeroTr, by omega, Nat.le_refl _, by go_num, Hown9.out, hA9⟩
              case round =>
                obtain ⟨j, y, hkj, hjt, rfl, hown4, hA4⟩ := hrel
                have hlen4 := ins_len t j y hjt
                have hown5 := hown4.out
                rw [← hlen4] at hown5
                by_cases hgt : k < j
                · obtain ⟨q, rfl⟩ : ∃ q, j = q + 1 := ⟨j - 1, by omega⟩
                  obtain ⟨e0, e1, e2, e3, e4, e5, e6, e7, e8⟩ := own_at hown5 q (by omega)
                  rw [ins_at t q y hjt] at e0 e1 e2 e3 e4 e5 e6 e7 e8
                  obtain ⟨z2, f0, f1, f2, f3, f4, f5, f6, f7, f8⟩ := own_some hown5 (q + 1) (by omega)
                  obtain ⟨m0, m1, m2, m3, m4, m5, m6, m7, m8⟩ := own_thaw9 hown5 (q + 1)
                  have hnew0 := own_set hown5 (q + 1) t[q]
                  rw [hlen4, ins_set t (q + 1) y _ hjt, ins_shift t q hjt] at hnew0
                  have hnew : Hid _ := hnew0
                  have hwr : IntKind.i64.wrap (((q + 1 : Nat) : Int) - 1) = (q : Int) := by simp [IntKind.wrap, IntKind.bits, IntKind.signed]; omega
                  have j0 : (0 : Int) ≤ (q : Int) := by omega
                  have j1 : (q : Int) < (t.length : Int) + 1 := by omega
                  have j2 : (q : Int) + 1 < (t.length : Int) + 1 := by omega
                  clear hown4 hown5 hlen4 hnew0
                  generalize t[q] = z at *
                  go_wp2_with fail
                  exact ⟨⟨q, z, by omega, by omega, rfl, hnew.out, below_set9 hA4 hg'⟩, by simp [intOf]⟩
                · obtain rfl : k = j := by omega
                  obtain ⟨b', o', hbo, hrow⟩ := (Hl.out.below hA4).at i hi
                  simp only [Option.some.injEq, Addr.mk.injEq, and_true] at hbo
                  obtain ⟨rfl, rfl⟩ := hbo
                  obtain ⟨e0, e1, e2, e3, e4, e5, e6, e7, e8⟩ := hrow.at i hi
                  obtain ⟨z2, f0, f1, f2, f3, f4, f5, f6, f7, f8⟩ := own_some hown5 (k) (by omega)
                  obtain ⟨m0, m1, m2, m3, m4, m5, m6, m7, m8⟩ := own_thaw9 hown5 (k)
                  have hnew0 := own_set hown5 (k) l[i]
                  rw [ins_set t (k) y _ hjt] at hnew0
                  rw [hlen4] at hnew0
                  have hfin : Hid (Rising (t.take (k) ++ l[i] :: t.drop (k)) ∧ ∀ x, x ∈ t.take (k) ++ l[i] :: t.drop (k) ↔ x ∈ l.take (i + 1)) :=
                    ⟨ins_rising t (k) l[i] Hri.out (flo.out hlt.out) hhi.out, fun x => (ins_mem t (k) l[i] x).trans (hmem.out x).symm⟩
                  have hlen5 : Hid ((t.take (k) ++ l[i] :: t.drop (k)).length = t.length + 1) := ins_len t (k) l[i] hjt
                  have hnew : Hid _ := hnew0
                  have j1 : ((k : Nat) : Int) < (t.length : Int) + 1 := by omega
                  have j0 : (0 : Int) ≤ ((k : Nat) : Int) := by omega
                  clear hown4 hown5 hlen4 hnew0 hrow
                  skip
                  generalize l[i] = z at *
                  go_wp2_with fail
                  refine ⟨⟨i + 1, t.take (k) ++ z :: t.drop (k), by omega, by go_num, hfin.out, by rw [hlen5.out]; omega, ?_, below_set9 hA4 hg'⟩, by simp [intOf]; omega⟩
                  show World.ownsRow _ _ _ _ _ _ _
                  rw [hlen5.out]
                  exact hnew.out
            · go_wp2_with fail
              go_region_held3 (fun W => W.cell? ⟨g, og + p * 9, none⟩ = some (.int .i64 x.1.1) ∧ W.cell? ⟨g, og + p * 9 + 1, none⟩ = some (.string ⟨x.1.2.1.toArray⟩) ∧ W.cell? ⟨g, og + p * 9 + 2, none⟩ = some (.string ⟨x.1.2.2.toArray⟩) ∧ W.cell? ⟨g, og + p * 9 + 3, none⟩ = some (.int .i64 x.2.1.1) ∧ W.cell? ⟨g, og + p * 9 + 4, none⟩ = some (.string ⟨x.2.1.2.1.toArray⟩) ∧ W.cell? ⟨g, og + p * 9 + 5, none⟩ = some (.string ⟨x.2.1.2.2.toArray⟩) ∧ W.cell? ⟨g, og + p * 9 + 6, none⟩ = some (.int .i64 x.2.2.1) ∧ W.cell? ⟨g, og + p * 9 + 7, none⟩ = some (.string ⟨x.2.2.2.1.toArray⟩) ∧ W.cell? ⟨g, og + p * 9 + 8, none⟩ = some (.string ⟨x.2.2.2.2.toArray⟩) ∧ W.cell? ⟨b, o + i * 9, none⟩ = some (.int .i64 y.1.1) ∧ W.cell? ⟨b, o + i * 9 + 1, none⟩ = some (.string ⟨y.1.2.1.toArray⟩) ∧ W.cell? ⟨b, o + i * 9 + 2, none⟩ = some (.string ⟨y.1.2.2.toArray⟩) ∧ W.cell? ⟨b, o + i * 9 + 3, none⟩ = some (.int .i64 y.2.1.1) ∧ W.cell? ⟨b, o + i * 9 + 4, none⟩ = some (.string ⟨y.2.1.2.1.toArray⟩) ∧ W.cell? ⟨b, o + i * 9 + 5, none⟩ = some (.string ⟨y.2.1.2.2.toArray⟩) ∧ W.cell? ⟨b, o + i * 9 + 6, none⟩ = some (.int .i64 y.2.2.1) ∧ W.cell? ⟨b, o + i * 9 + 7, none⟩ = some (.string ⟨y.2.2.2.1.toArray⟩) ∧ W.cell? ⟨b, o + i * 9 + 8, none⟩ = some (.string ⟨y.2.2.2.2.toArray⟩)) (first | exact keep18b (by assumption) hb4 | go_keep) (first
                | (go_at_call 19; refine (HC _).mono ?_; rintro e w4 ⟨rfl, hb4⟩))
              have hBz := bstep hB3.drew hb4
              go_wp2_with fail
              have hin := feq.out (by simpa using h0)
              refine ⟨⟨i + 1, t, by omega, by go_num, ⟨Hri.out, fun x => ?_⟩, by omega, ownsRow_belowS hown.out hBz, bstep hbr hBz⟩, by simp [intOf]; omega⟩
              rw [hmem.out x]
              constructor
              · exact Or.inl
              · rintro (h | h)
                · exact h
                · rw [h]; exact hin
          · go_wp2_with fail
            go_region_held3 (fun W => W.cell? ⟨g, og + p * 9, none⟩ = some (.int .i64 x.1.1) ∧ W.cell? ⟨g, og + p * 9 + 1, none⟩ = some (.string ⟨x.1.2.1.toArray⟩) ∧ W.cell? ⟨g, og + p * 9 + 2, none⟩ = some (.string ⟨x.1.2.2.toArray⟩) ∧ W.cell? ⟨g, og + p * 9 + 3, none⟩ = some (.int .i64 x.2.1.1) ∧ W.cell? ⟨g, og + p * 9 + 4, none⟩ = some (.string ⟨x.2.1.2.1.toArray⟩) ∧ W.cell? ⟨g, og + p * 9 + 5, none⟩ = some (.string ⟨x.2.1.2.2.toArray⟩) ∧ W.cell? ⟨g, og + p * 9 + 6, none⟩ = some (.int .i64 x.2.2.1) ∧ W.cell? ⟨g, og + p * 9 + 7, none⟩ = some (.string ⟨x.2.2.2.1.toArray⟩) ∧ W.cell? ⟨g, og + p * 9 + 8, none⟩ = some (.string ⟨x.2.2.2.2.toArray⟩) ∧ W.cell? ⟨b, o + i * 9, none⟩ = some (.int .i64 y.1.1) ∧ W.cell? ⟨b, o + i * 9 + 1, none⟩ = some (.string ⟨y.1.2.1.toArray⟩) ∧ W.cell? ⟨b, o + i * 9 + 2, none⟩ = some (.string ⟨y.1.2.2.toArray⟩) ∧ W.cell? ⟨b, o + i * 9 + 3, none⟩ = some (.int .i64 y.2.1.1) ∧ W.cell? ⟨b, o + i * 9 + 4, none⟩ = some (.string ⟨y.2.1.2.1.toArray⟩) ∧ W.cell? ⟨b, o + i * 9 + 5, none⟩ = some (.string ⟨y.2.1.2.2.toArray⟩) ∧ W.cell? ⟨b, o + i * 9 + 6, none⟩ = some (.int .i64 y.2.2.1) ∧ W.cell? ⟨b, o + i * 9 + 7, none⟩ = some (.string ⟨y.2.2.2.1.toArray⟩) ∧ W.cell? ⟨b, o + i * 9 + 8, none⟩ = some (.string ⟨y.2.2.2.2.toArray⟩)) (first | exact keep18b (by assumption) hb3 | go_keep) (first
              | (go_at_call 19; refine (HC _).mono ?_; rintro e w3 ⟨rfl, hb3⟩))
            go_wp2
            have hgt : 0 < c := by simpa using hcc
            exact ⟨⟨p, by omega, by first | rfl | go_num, fhi.out hgt, bstep hb2.drew hb3⟩, by have := Hkp.out; simp [intOf]; omega⟩
    · obtain rfl : i = l.length := by omega
      have hfin := ht.out
      rw [List.take_length] at hfin
      have Hfin : Hid _ := hfin
      have Hslt : Hid (SlT W1 at0 t) := hslt
      clear hfin ht hslt
      go_wp2_with fail
      go_ret
      exact ⟨t, at0, ct, rfl, Hslt.out, Hfin.out.1, Hfin.out.2, htl, hbr⟩
end Go.Proofs.YtifkcoappflenagGreatDoor

/- The document's answer (package strataref1): In, Part. -/
namespace Go.Proofs.YtifkcoappflenagGreatDoor
open Go Go.RowKit Go.Proofs
set_option synthInstance.maxSize 1000

theorem filter_stepP (l : List Tr) (p : Tr → Bool) (k : Nat) (h : k < l.length) : (l.take (k + 1)).filter p = (l.take k).filter p ++ (if p l[k] then [l[k]] else []) := by
  rw [List.take_succ_eq_append_getElem h, List.filter_append]
  cases hp : p l[k] <;> simp [hp]
theorem in_none {l : List Tr} {t : Tr} (h : ∀ j (hj : j < l.length), j < l.length → cmpTr l[j] t ≠ 0) : decide (t ∈ l) = false := by
  rw [decide_eq_false_iff_not]
  intro hm
  obtain ⟨j, hj, rfl⟩ := List.getElem_of_mem hm
  exact h j hj hj ((cmpTr_zero _ _).2 rfl)

set_option maxHeartbeats 4000000 in
set_option maxRecDepth 100000 in
theorem RIn_any (ad : Option Addr) (cap : Nat) (l : List Tr) (t : Tr) (w : World) (h : SlT w ad l) (hn : l.length ≤ 9223372036854775807) :
    Calls Tryz.prog 16 #[.slice ad l.length cap, valTr t] w fun e w' => e = .returned (.bool (decide (t ∈ l))) ∧ RowKit.Below w.heap.size w w' := by
  have Hl : Hid (SlT w ad l) := h
  clear h
  unfold valTr
  go_enter Tryz.func16, Tryz.ntmps16
  go_wp2_with fail
  go_loopw [5] (fun i wr => ∃ k : Nat, k ≤ l.length ∧ i = .int .i64 k ∧ Hid (∀ j (hj : j < l.length), j < k → cmpTr l[j] t ≠ 0) ∧ RowKit.Below (w.alloc (.cells (encTr t).toArray 44)).heap.size (w.alloc (.cells (encTr t).toArray 44)) wr) (fun i wr => l.length - (intOf i).toNat)
  case atStart => exact ⟨0, Nat.zero_le _, rfl, fun j hj h => by omega, RowKit.Below.refl _ _⟩
  case round =>
    obtain ⟨k, hk, rfl, hne, hbr⟩ := hrel
    by_cases hlt : k < l.length
    · obtain ⟨b, o, rfl, hrow⟩ := (Hl.out.below (bstep (balloc _ _) hbr)).at k hlt
      obtain ⟨c0, c1, c2, c3, c4, c5, c6, c7, c8⟩ := hrow.at k hlt
      obtain ⟨e0, e1, e2, e3, e4, e5, e6, e7, e8, hz9⟩ := ninebox hbr
      have i0 : (0 : Int) ≤ (k : Int) := by omega
      have i1 : (k : Int) < (l.length : Int) := by omega
      have HC := fun W => ROrder_any l[k] t W
      unfold valTr at HC
      have f0 : Hid (cmpTr l[k] t = 0 → decide (t ∈ l) = true) := fun h => by
        rw [decide_eq_true_eq, ← (cmpTr_zero _ _).1 h]
        exact List.getElem_mem hlt
      have f1 : Hid (cmpTr l[k] t ≠ 0 → ∀ j (hj : j < l.length), j < k + 1 → cmpTr l[j] t ≠ 0) := fun h j hj hle => by
        rcases Nat.lt_or_eq_of_le (Nat.le_of_lt_succ hle) with h1 | h1
        · exact hne.out j hj h1
        · subst h1; exact h
      generalize cmpTr l[k] t = c at HC f0 f1
      generalize l[k] = y at *
      clear hrow
      cases hc : (c == 0)
      · go_wp2_with fail
        go_region_held3 (fun W => W.cell? ⟨b, o + k * 9, none⟩ = some (.int .i64 y.1.1) ∧ W.cell? ⟨b, o + k * 9 + 1, none⟩ = some (.string ⟨y.1.2.1.toArray⟩) ∧ W.cell? ⟨b, o + k * 9 + 2, none⟩ = some (.string ⟨y.1.2.2.toArray⟩) ∧ W.cell? ⟨b, o + k * 9 + 3, none⟩ = some (.int .i64 y.2.1.1) ∧ W.cell? ⟨b, o + k * 9 + 4, none⟩ = some (.string ⟨y.2.1.2.1.toArray⟩) ∧ W.cell? ⟨b, o + k * 9 + 5, none⟩ = some (.string ⟨y.2.1.2.2.toArray⟩) ∧ W.cell? ⟨b, o + k * 9 + 6, none⟩ = some (.int .i64 y.2.2.1) ∧ W.cell? ⟨b, o + k * 9 + 7, none⟩ = some (.string ⟨y.2.2.2.1.toArray⟩) ∧ W.cell? ⟨b, o + k * 9 + 8, none⟩ = some (.string ⟨y.2.2.2.2.toArray⟩) ∧ W.cell? ⟨w.heap.size, 0, none⟩ = some (.int .i64 t.1.1) ∧ W.cell? ⟨w.heap.size, 1, none⟩ = some (.string ⟨t.1.2.1.toArray⟩) ∧ W.cell? ⟨w.heap.size, 2, none⟩ = some (.string ⟨t.1.2.2.toArray⟩) ∧ W.cell? ⟨w.heap.size, 3, none⟩ = some (.int .i64 t.2.1.1) ∧ W.cell? ⟨w.heap.size, 4, none⟩ = some (.string ⟨t.2.1.2.1.toArray⟩) ∧ W.cell? ⟨w.heap.size, 5, none⟩ = some (.string ⟨t.2.1.2.2.toArray⟩) ∧ W.cell? ⟨w.heap.size, 6, none⟩ = some (.int .i64 t.2.2.1) ∧ W.cell? ⟨w.heap.size, 7, none⟩ = some (.string ⟨t.2.2.2.1.toArray⟩) ∧ W.cell? ⟨w.heap.size, 8, none⟩ = some (.string ⟨t.2.2.2.2.toArray⟩)) (first | exact keep18b (by assumption) hb2 | go_keep) (first
          | (go_at_call 19; refine (HC _).mono ?_; rintro e w2 ⟨rfl, hb2⟩))
        go_wp2
        exact ⟨⟨k + 1, by omega, by go_num, f1.out (by simpa using hc), bstep hbr.drew hb2⟩, by simp [intOf]; omega⟩
      · go_wp2_with fail
        go_region_held3 (fun W => W.cell? ⟨b, o + k * 9, none⟩ = some (.int .i64 y.1.1) ∧ W.cell? ⟨b, o + k * 9 + 1, none⟩ = some (.string ⟨y.1.2.1.toArray⟩) ∧ W.cell? ⟨b, o + k * 9 + 2, none⟩ = some (.string ⟨y.1.2.2.toArray⟩) ∧ W.cell? ⟨b, o + k * 9 + 3, none⟩ = some (.int .i64 y.2.1.1) ∧ W.cell? ⟨b, o + k * 9 + 4, none⟩ = some (.string ⟨y.2.1.2.1.toArray⟩) ∧ W.cell? ⟨b, o + k * 9 + 5, none⟩ = some (.string ⟨y.2.1.2.2.toArray⟩) ∧ W.cell? ⟨b, o + k * 9 + 6, none⟩ = some (.int .i64 y.2.2.1) ∧ W.cell? ⟨b, o + k * 9 + 7, none⟩ = some (.string ⟨y.2.2.2.1.toArray⟩) ∧ W.cell? ⟨b, o + k * 9 + 8, none⟩ = some (.string ⟨y.2.2.2.2.toArray⟩) ∧ W.cell? ⟨w.heap.size, 0, none⟩ = some (.int .i64 t.1.1) ∧ W.cell? ⟨w.heap.size, 1, none⟩ = some (.string ⟨t.1.2.1.toArray⟩) ∧ W.cell? ⟨w.heap.size, 2, none⟩ = some (.string ⟨t.1.2.2.toArray⟩) ∧ W.cell? ⟨w.heap.size, 3, none⟩ = some (.int .i64 t.2.1.1) ∧ W.cell? ⟨w.heap.size, 4, none⟩ = some (.string ⟨t.2.1.2.1.toArray⟩) ∧ W.cell? ⟨w.heap.size, 5, none⟩ = some (.string ⟨t.2.1.2.2.toArray⟩) ∧ W.cell? ⟨w.heap.size, 6, none⟩ = some (.int .i64 t.2.2.1) ∧ W.cell? ⟨w.heap.size, 7, none⟩ = some (.string ⟨t.2.2.2.1.toArray⟩) ∧ W.cell? ⟨w.heap.size, 8, none⟩ = some (.string ⟨t.2.2.2.2.toArray⟩)) (first | exact keep18b (by assumption) hb2 | go_keep) (first
          | (go_at_call 19; refine (HC _).mono ?_; rintro e w2 ⟨rfl, hb2⟩))
        go_wp2
        go_ret
        exact ⟨ret_bool (f0.out (by simpa using hc)).symm, bstep (bstep (balloc _ _) hbr.drew) hb2⟩
    · obtain rfl : k = l.length := by omega
      go_wp2_with fail
      go_ret
      exact ⟨ret_bool (in_none hne.out).symm, bstep (balloc _ _) hbr⟩

/-- what of the one is, or is not, in the other -/
def partL (a b : List Tr) (is : Bool) : List Tr := a.filter fun x => decide (x ∈ b) == is
theorem part_both (a b : List Tr) : partL a b true = bothL a b := by unfold partL bothL; congr 1; funext x; simp
theorem part_less (a b : List Tr) : partL a b false = lessL a b := by unfold partL lessL; congr 1; funext x; cases decide (x ∈ b) <;> rfl

end Go.Proofs.YtifkcoappflenagGreatDoor

/- stratasame.Clashes: are two lists of pairs the same? -/
namespace Go.Proofs.YtifkcoappflenagGreatDoor
open Go Go.RowKit Go.Proofs
set_option synthInstance.maxSize 1000

theorem pr_eq (x y : Pr) : decide (x = y) = (eqTB x.1.1 x.1.2.1 x.1.2.2 y.1.1 y.1.2.1 y.1.2.2 && eqTB x.2.1 x.2.2.1 x.2.2.2 y.2.1 y.2.2.1 y.2.2.2) := by
  obtain ⟨⟨k1, s1, l1⟩, ⟨k2, s2, l2⟩⟩ := x
  obtain ⟨⟨k1', s1', l1'⟩, ⟨k2', s2', l2'⟩⟩ := y
  rw [Bool.eq_iff_iff]
  simp only [decide_eq_true_eq, Bool.and_eq_true, eqTB_iff, Prod.mk.injEq]

set_option maxRecDepth 100000 in
set_option maxHeartbeats 1000000 in
theorem equalPair (x y : Pr) (w : World) :
    (Op.equalIn 10000 55 (.agg #[.int .i64 x.1.1, .string ⟨x.1.2.1.toArray⟩, .string ⟨x.1.2.2.toArray⟩, .int .i64 x.2.1, .string ⟨x.2.2.1.toArray⟩, .string ⟨x.2.2.2.toArray⟩]) (.agg #[.int .i64 y.1.1, .string ⟨y.1.2.1.toArray⟩, .string ⟨y.1.2.2.toArray⟩, .int .i64 y.2.1, .string ⟨y.2.2.1.toArray⟩, .string ⟨y.2.2.2.toArray⟩])).run Tryz.prog w = .ok (decide (x = y)) w := by
  have hS : Tryz.prog.underlying 55 = some (.struct (Tryz.prog.fieldsOf 55)) := by kernel_rfl
  rw [show (10000 : Nat) = 9999 + 1 from rfl, run_equalIn_agg w 9999 55 _ _ hS (by kernel_rfl), pr_eq]
  simp only [Program.fieldsOf, Tryz.underlying55]
  unfold eqTB
  go_simp
  by_cases h0 : x.1.1 = y.1.1
  rotate_left
  · simp [h0]
  by_cases h1 : x.1.2.1 = y.1.2.1
  rotate_left
  · simp [h0, h1]
  by_cases h2 : x.1.2.2 = y.1.2.2
  rotate_left
  · simp [h0, h1, h2]
  by_cases h3 : x.2.1 = y.2.1
  rotate_left
  · simp [h0, h1, h2, h3]
  by_cases h4 : x.2.2.1 = y.2.2.1
  rotate_left
  · simp [h0, h1, h2, h3, h4]
  by_cases h5 : x.2.2.2 = y.2.2.2
  rotate_left
  · simp [h0, h1, h2, h3, h4, h5]
  simp [h0, h1, h2, h3, h4, h5]

theorem neqPair (x y : Pr) (w : World) : (binOp .neq 55 (.agg #[.int .i64 x.1.1, .string ⟨x.1.2.1.toArray⟩, .string ⟨x.1.2.2.toArray⟩, .int .i64 x.2.1, .string ⟨x.2.2.1.toArray⟩, .string ⟨x.2.2.2.toArray⟩]) (.agg #[.int .i64 y.1.1, .string ⟨y.1.2.1.toArray⟩, .string ⟨y.1.2.2.toArray⟩, .int .i64 y.2.1, .string ⟨y.2.2.1.toArray⟩, .string ⟨y.2.2.2.toArray⟩])).run Tryz.prog w = .ok (.bool (!decide (x = y))) w := by
  rw [run_neq_struct, equalPair]; rfl

attribute [local go_sem ↓] neqPair

theorem bdNP (w : World) (q : Nat) : RowKit.Below w.heap.size w (w.drewN q) := ⟨rfl, rfl, rfl, Nat.le_refl _, fun _ _ => rfl⟩
theorem take_sameP {l m : List Pr} {k : Nat} (h : l.take k = m.take k) (hl : k < l.length) (hm : k < m.length) (e : l[k] = m[k]) : l.take (k + 1) = m.take (k + 1) := by
  rw [List.take_succ_eq_append_getElem hl, List.take_succ_eq_append_getElem hm, h, e]

set_option maxHeartbeats 2000000 in
set_option maxRecDepth 100000 in
theorem SameClashes_any (ad bd : Option Addr) (ca cb : Nat) (l m : List Pr) (w : World) (hl : SlP w ad l) (hm : SlP w bd m) (h200 : l.length ≤ 1000000) (h200' : m.length ≤ 1000000) :
    Calls Tryz.prog 11 #[.slice ad l.length ca, .slice bd m.length cb] w fun e w' => e = .returned (.bool (decide (l = m))) ∧ RowKit.Below w.heap.size w w' := by
  have Hl : Hid (SlP w ad l) := hl
  have Hm : Hid (SlP w bd m) := hm
  clear hl hm
  by_cases hlen : l.length = m.length
  · have hd : ((l.length : Int) != (m.length : Int)) = false := by simp [hlen]
    have Hlen : Hid (l.length = m.length) := hlen
    clear hlen
    go_enter Tryz.func11, Tryz.ntmps11
    go_wp2_with fail
    go_loopw [5] (fun i wr => ∃ (k q : Nat), k ≤ l.length ∧ i = .int .i64 k ∧ wr = w.drewN q ∧ Hid (l.take k = m.take k)) (fun i wr => l.length - (intOf i).toNat)
    case atStart => exact ⟨0, 0, by omega, rfl, rfl, rfl⟩
    case round =>
      obtain ⟨k, q, hk, rfl, rfl, hs⟩ := hrel
      by_cases hlt : k < l.length
      · have hlt' : k < m.length := by have := Hlen.out; omega
        obtain ⟨b, o, rfl, hr⟩ := Hl.out.at k hlt
        obtain ⟨b', o', rfl, hr'⟩ := Hm.out.at k hlt'
        obtain ⟨c0, c1, c2, c3, c4, c5⟩ := hr.at k hlt
        obtain ⟨d0, d1, d2, d3, d4, d5⟩ := hr'.at k hlt'
        have i0 : (0 : Int) ≤ (k : Int) := by omega
        have i1 : (k : Int) < (l.length : Int) := by omega
        have i2 : (k : Int) < (m.length : Int) := by omega
        clear hr hr'
        by_cases he : l[k] = m[k]
        · have hd2 : decide (l[k] = m[k]) = true := by simpa using he
          have He : Hid (l[k] = m[k]) := he
          clear he
          go_wp2_with fail
          go_region
          go_wp2
          exact ⟨⟨k + 1, q + 1, by omega, by go_num, rfl, take_sameP hs.out hlt hlt' He.out⟩, by simp [intOf]; omega⟩
        · have hd2 : decide (l[k] = m[k]) = false := by simpa using he
          have He : Hid (¬ l[k] = m[k]) := he
          clear he
          go_wp2_with fail
          go_region
          go_wp2
          go_ret
          refine ⟨ret_bool ?_, bdNP _ _⟩
          have : ¬ l = m := fun e => He.out (by subst e; rfl)
          simp [this]
      · have hke : k = l.length := by omega
        go_wp2
        go_ret
        refine ⟨ret_bool ?_, bdNP _ _⟩
        have : l = m := by
          have h := hs.out
          rw [hke, List.take_length, Hlen.out, List.take_length] at h
          exact h
        simp [this]
  · have hd : ((l.length : Int) != (m.length : Int)) = true := by simp; omega
    have hne : Hid (¬ l = m) := fun e => hlen (by rw [e])
    clear hlen
    go_enter Tryz.func11, Tryz.ntmps11
    go_wp2
    go_ret
    exact ⟨ret_bool (by simp [hne.out]), RowKit.Below.refl _ _⟩
end Go.Proofs.YtifkcoappflenagGreatDoor

/- errors.As at a target of type api.Errno, of an error that is one; plain.Told. Go's own text is walked; the facts are on the model's entries for internal/reflectlite at this program's types. -/
namespace Go.Proofs.YtifkcoappflenagGreatDoor
open Go Go.RowKit Go.Extern.Stop Go.Stop Go.Extern

theorem valueOfP (t : Addr) (w : World) : (ReflectliteValue.unpack (.iface 89 (.pointer (some t)))).run Tryz.prog w
    = .ok (.agg #[.pointer (some ⟨2, 89, none⟩), .pointer (some ⟨w.heap.size, 0, none⟩), .int .u64 150]) (w.alloc (.cells #[.pointer (some t)] 89)) := by kernel_rfl
theorem typeP (a : Addr) (w : World) : (ReflectliteValue.methodAny (ReflectliteValue.valueError "reflectlite.Value.Type" 0) (fun t _ _ _ => ReflectliteType.toType t) #[.agg #[.pointer (some ⟨2, 89, none⟩), .pointer (some a), .int .u64 150]]).run Tryz.prog w
    = .ok (.iface 126 (.agg #[.pointer (some ⟨2, 89, none⟩)])) w := by kernel_rfl
theorem kindP (w : World) : ((ReflectliteType.abiMethod fun t => (fun a : Nat => Value.int IntKind.u8 (a : Int)) <$> Rtype.kind t) #[.pointer (some ⟨2, 89, none⟩)]).run Tryz.prog w = .ok (.int .u8 22) w := by kernel_rfl
theorem kindE (w : World) : ((ReflectliteType.abiMethod fun t => (fun a : Nat => Value.int IntKind.u8 (a : Int)) <$> Rtype.kind t) #[.pointer (some ⟨2, 58, none⟩)]).run Tryz.prog w = .ok (.int .u8 2) w := by kernel_rfl
theorem methodKind (h : Value) (w : World) : (Go.method 299 126 (.agg #[h]) "Kind").run Tryz.prog w = .ok (137, h) w := by kernel_rfl
theorem methodElem (h : Value) (w : World) : (Go.method 299 126 (.agg #[h]) "Elem").run Tryz.prog w = .ok (147, .agg #[h]) w := by kernel_rfl
theorem methodImplements (h : Value) (w : World) : (Go.method 299 126 (.agg #[h]) "Implements").run Tryz.prog w = .ok (148, .agg #[h]) w := by kernel_rfl
theorem methodAssignableTo (h : Value) (w : World) : (Go.method 299 126 (.agg #[h]) "AssignableTo").run Tryz.prog w = .ok (145, .agg #[h]) w := by kernel_rfl
theorem rlm (z : Sem Value) (f : TypeId → Addr → Nat → Nat → Sem Value) (v : Value) :
    ReflectliteValue.method z f #[v] = (do match ← ReflectliteValue.parts v with | none => z | some (t, a, fl) => f t a fl (fl % 32)) := rfl
theorem partsP (a : Addr) (w : World) : (ReflectliteValue.parts (.agg #[.pointer (some ⟨2, 89, none⟩), .pointer (some a), .int .u64 150])).run Tryz.prog w = .ok (some (89, a, 150)) w := by kernel_rfl
theorem isNilP (a p : Addr) (W : World) (ha : W.cell? a = some (.pointer (some p))) :
    (ReflectliteValue.method (ReflectliteValue.valueError "reflectlite.Value.IsNil" 0) ReflectliteValue.isNil #[.agg #[.pointer (some ⟨2, 89, none⟩), .pointer (some a), .int .u64 150]]).run Tryz.prog W = .ok (.bool false) W := by
  rw [rlm]
  simp only [Sem.run_bind, partsP, Result.andThen]
  simp [ReflectliteValue.isNil, loadVar, isAgg, underlying, Tryz.underlying89, ha, Result.andThen]
theorem elemTP (w : World) : (ReflectliteType.method ReflectliteType.elem #[.agg #[.pointer (some ⟨2, 89, none⟩)]]).run Tryz.prog w = .ok (.iface 126 (.agg #[.pointer (some ⟨2, 58, none⟩)])) w := by kernel_rfl
theorem implementsE (w : World) : (ReflectliteType.relation "Implements" ReflectliteType.implements_ #[.agg #[.pointer (some ⟨2, 58, none⟩)], .iface 126 (.agg #[.pointer (some ⟨2, 29, none⟩)])]).run Tryz.prog w = .ok (.bool true) w := by kernel_rfl
theorem typeOfE (v : Value) (w : World) : (ReflectliteType.typeOf #[.iface 58 v]).run Tryz.prog w = .ok (.iface 126 (.agg #[.pointer (some ⟨2, 58, none⟩)])) w := by kernel_rfl
theorem assignableE (w : World) : (ReflectliteType.relation "AssignableTo" ReflectliteType.assignableTo #[.agg #[.pointer (some ⟨2, 58, none⟩)], .iface 126 (.agg #[.pointer (some ⟨2, 58, none⟩)])]).run Tryz.prog w = .ok (.bool true) w := by kernel_rfl
theorem valueOfE (n : Int) (w : World) : (ReflectliteValue.unpack (.iface 58 (.int .i64 n))).run Tryz.prog w
    = .ok (.agg #[.pointer (some ⟨2, 58, none⟩), .pointer (some ⟨w.heap.size, 0, none⟩), .int .u64 130]) (w.alloc (.cells #[.int .i64 n] 58)) := by kernel_rfl
theorem elemOfP (w : World) : (Rtype.elem? 89).run Tryz.prog w = .ok (some 58) w := by kernel_rfl
theorem mkE (p : Addr) (w : World) : (ReflectliteValue.mk 58 p ReflectliteValue.flagAddr).run Tryz.prog w = .ok (.agg #[.pointer (some ⟨2, 58, none⟩), .pointer (some p), .int .u64 386]) w := by kernel_rfl
theorem elemVP (a p : Addr) (W : World) (ha : W.cell? a = some (.pointer (some p))) :
    (ReflectliteValue.method (ReflectliteValue.valueError "reflectlite.Value.Elem" 0) ReflectliteValue.elem #[.agg #[.pointer (some ⟨2, 89, none⟩), .pointer (some a), .int .u64 150]]).run Tryz.prog W
      = .ok (.agg #[.pointer (some ⟨2, 58, none⟩), .pointer (some p), .int .u64 386]) W := by
  rw [rlm]
  simp only [Sem.run_bind, partsP, Result.andThen]
  simp [ReflectliteValue.elem, loadVar, isAgg, underlying, Tryz.underlying89, ha, Result.andThen, elemOfP, mkE]
theorem partsEa (a : Addr) (w : World) : (ReflectliteValue.parts (.agg #[.pointer (some ⟨2, 58, none⟩), .pointer (some a), .int .u64 386])).run Tryz.prog w = .ok (some (58, a, 386)) w := by kernel_rfl
theorem partsE (a : Addr) (w : World) : (ReflectliteValue.parts (.agg #[.pointer (some ⟨2, 58, none⟩), .pointer (some a), .int .u64 130])).run Tryz.prog w = .ok (some (58, a, 130)) w := by kernel_rfl
theorem directE (w : World) : (Rtype.directlyAssignable 58 58).run Tryz.prog w = .ok true w := by kernel_rfl
theorem setE (ta b : Addr) (n : Int) (old : Value) (W : World) (hb : W.cell? b = some (.int .i64 n)) (ht : W.cell? ta = some old) (hf : W.frozen? ta = false) :
    (ReflectliteValue.set #[.agg #[.pointer (some ⟨2, 58, none⟩), .pointer (some ta), .int .u64 386], .agg #[.pointer (some ⟨2, 58, none⟩), .pointer (some b), .int .u64 130]]).run Tryz.prog W
      = .ok (.tuple #[]) (W.setCell ta (.int .i64 n)) := by
  change Sem.run _ (ReflectliteValue.parts (.agg #[.pointer (some ⟨2, 58, none⟩), .pointer (some ta), .int .u64 386]) >>= fun p1 => ReflectliteValue.parts (.agg #[.pointer (some ⟨2, 58, none⟩), .pointer (some b), .int .u64 130]) >>= fun p2 => _) _ = _
  simp only [Sem.run_bind, partsEa, partsE, Result.andThen]
  simp [ReflectliteValue.flagAddr, loadVar, isAgg, underlying, Tryz.underlying58, hb, Result.andThen, directE, storeVar, Value.cells, storeCells, Addr.add]
  rw [run_store Tryz.prog W ta _ _ (by rfl)]
  simp [ht, hf]

end Go.Proofs.YtifkcoappflenagGreatDoor

/- errors.As at a target of type api.Errno, of an error that is one: Go's own text, walked; plain.Told. -/
namespace Go.Proofs.YtifkcoappflenagGreatDoor
open Go Go.RowKit Go.Extern.Stop Go.Stop Go.Extern

set_option maxHeartbeats 4000000 in
set_option maxRecDepth 100000 in
theorem as_hit (n : Int) (t : Addr) (old : Value) (w : World) (hg : w.cell? ⟨0, 0, none⟩ = some (.iface 126 (.agg #[.pointer (some ⟨2, 29, none⟩)]))) (ht0 : w.cell? t = some old) (hf0 : w.frozen? t = false) :
    Calls Tryz.prog 48 #[.iface 58 (.int .i64 n), .iface 89 (.pointer (some t))] w fun ev w' => ev = .returned (.bool true) ∧ w' = ((((w.alloc (.cells #[.pointer (some t)] 89)).alloc (.cells #[.pointer (some ⟨2, 89, none⟩), .pointer (some ⟨w.heap.size, 0, none⟩), .int .u64 150] 107)).alloc (.cells #[.pointer (some ⟨2, 89, none⟩), .pointer (some ⟨w.heap.size, 0, none⟩), .int .u64 150] 107)).alloc (.cells #[.int .i64 n] 58)).setCell t (.int .i64 n) := by
  have h1 := @run_callFunc_extern Tryz.prog 65 _ (fun args => ReflectliteValue.unpack (args.getD 0 (.tuple #[]))) Tryz.func65 (by kernel_rfl) (by kernel_rfl) (by kernel_rfl) (by kernel_rfl)
  have h2 := @run_callFunc_extern Tryz.prog 66 _ (ReflectliteValue.methodAny (ReflectliteValue.valueError "reflectlite.Value.Type" 0) (fun t _ _ _ => ReflectliteType.toType t)) Tryz.func66 (by kernel_rfl) (by kernel_rfl) (by kernel_rfl) (by kernel_rfl)
  have h3 := @run_callFunc_extern Tryz.prog 67 _ (ReflectliteValue.method (ReflectliteValue.valueError "reflectlite.Value.IsNil" 0) ReflectliteValue.isNil) Tryz.func67 (by kernel_rfl) (by kernel_rfl) (by kernel_rfl) (by kernel_rfl)
  have h4 := @run_callFunc_extern Tryz.prog 137 _ (ReflectliteType.abiMethod fun t => do pure (.int .u8 (← Rtype.kind t))) Tryz.func137 (by kernel_rfl) (by kernel_rfl) (by kernel_rfl) (by kernel_rfl)
  have h5 := @run_callFunc_extern Tryz.prog 147 _ (ReflectliteType.method ReflectliteType.elem) Tryz.func147 (by kernel_rfl) (by kernel_rfl) (by kernel_rfl) (by kernel_rfl)
  have h6 := @run_callFunc_extern Tryz.prog 148 _ (ReflectliteType.relation "Implements" ReflectliteType.implements_) Tryz.func148 (by kernel_rfl) (by kernel_rfl) (by kernel_rfl) (by kernel_rfl)
  have h7 := @run_callFunc_extern Tryz.prog 81 _ ReflectliteType.typeOf Tryz.func81 (by kernel_rfl) (by kernel_rfl) (by kernel_rfl) (by kernel_rfl)
  have h8 := @run_callFunc_extern Tryz.prog 145 _ (ReflectliteType.relation "AssignableTo" ReflectliteType.assignableTo) Tryz.func145 (by kernel_rfl) (by kernel_rfl) (by kernel_rfl) (by kernel_rfl)
  have h9 := @run_callFunc_extern Tryz.prog 82 _ (ReflectliteValue.method (ReflectliteValue.valueError "reflectlite.Value.Elem" 0) ReflectliteValue.elem) Tryz.func82 (by kernel_rfl) (by kernel_rfl) (by kernel_rfl) (by kernel_rfl)
  have h10 := @run_callFunc_extern Tryz.prog 83 _ ReflectliteValue.set Tryz.func83 (by kernel_rfl) (by kernel_rfl) (by kernel_rfl) (by kernel_rfl)
  have g1 := valueOfP
  have g2 := typeP
  have g3 := kindP
  have g4 := kindE
  have g5 := elemTP
  have g6 := implementsE
  have g7 := typeOfE
  have g8 := assignableE
  have g9 := valueOfE
  have m1 := methodKind
  have m2 := methodElem
  have m3 := methodImplements
  have m4 := methodAssignableTo
  have n8 := isNilP ⟨w.heap.size, 0, none⟩ t ((w.alloc (.cells #[.pointer (some t)] 89)).alloc (.cells #[.pointer (some ⟨2, 89, none⟩), .pointer (some ⟨w.heap.size, 0, none⟩), .int .u64 150] 107)) (by simp)
  have hlt : 0 < w.heap.size := by
    rcases Nat.eq_zero_or_pos w.heap.size with h0 | h
    · simp [World.cell?, h0] at hg
    · exact h
  have hg2 : ((w.alloc (.cells #[.pointer (some t)] 89)).alloc (.cells #[.pointer (some ⟨2, 89, none⟩), .pointer (some ⟨w.heap.size, 0, none⟩), .int .u64 150] 107)).cell? ⟨0, 0, none⟩ = some (.iface 126 (.agg #[.pointer (some ⟨2, 29, none⟩)])) := by
    rw [World.cell?_alloc_lt _ _ ⟨0, 0, none⟩ (by simp), World.cell?_alloc_lt _ _ ⟨0, 0, none⟩ hlt]; exact hg
  have htl : t.block < w.heap.size := by
    rcases Nat.lt_or_ge t.block w.heap.size with h | h
    · exact h
    · simp [World.cell?, Array.getElem?_eq_none h] at ht0
  have el := elemVP ⟨w.heap.size, 0, none⟩ t (((w.alloc (.cells #[.pointer (some t)] 89)).alloc (.cells #[.pointer (some ⟨2, 89, none⟩), .pointer (some ⟨w.heap.size, 0, none⟩), .int .u64 150] 107)).alloc (.cells #[.pointer (some ⟨2, 89, none⟩), .pointer (some ⟨w.heap.size, 0, none⟩), .int .u64 150] 107)) (by rw [World.cell?_alloc_lt _ _ ⟨w.heap.size, 0, none⟩ (by simp; omega)]; simp)
  have st := setE t ⟨w.heap.size + 1 + 1 + 1, 0, none⟩ n old ((((w.alloc (.cells #[.pointer (some t)] 89)).alloc (.cells #[.pointer (some ⟨2, 89, none⟩), .pointer (some ⟨w.heap.size, 0, none⟩), .int .u64 150] 107)).alloc (.cells #[.pointer (some ⟨2, 89, none⟩), .pointer (some ⟨w.heap.size, 0, none⟩), .int .u64 150] 107)).alloc (.cells #[.int .i64 n] 58))
    (by rw [World.cell?_alloc_at _ _ _ _ (by simp)]; rfl)
    (by rw [World.cell?_alloc_lt _ _ t (by simp; omega), World.cell?_alloc_lt _ _ t (by simp; omega), World.cell?_alloc_lt _ _ t (by simp; omega), World.cell?_alloc_lt _ _ t htl]; exact ht0)
    (by rw [World.frozen?_alloc_old _ _ t (by simp; omega), World.frozen?_alloc_old _ _ t (by simp; omega), World.frozen?_alloc_old _ _ t (by simp; omega), World.frozen?_alloc_old _ _ t (Nat.ne_of_lt htl)]; exact hf0)
  go_enter Tryz.func48, Tryz.ntmps48
  go_wp2
  refine wp_loop_rounds 1 ?_
  rw [rounds_succ]
  go_wp2
  go_ret
  exact ⟨rfl, rfl⟩

/-- the error type's variable, as the program lays it -/
def errVar (w : World) : Prop := w.cell? ⟨0, 0, none⟩ = some (.iface 126 (.agg #[.pointer (some ⟨2, 29, none⟩)]))

theorem errVar.below {w w' : World} (h : errVar w) (hb : Below w.heap.size w w') : errVar w' := by
  unfold errVar at *
  have hlt : 0 < w.heap.size := by
    rcases Nat.eq_zero_or_pos w.heap.size with h0 | h'
    · simp [World.cell?, h0] at h
    · exact h'
  rw [hb.cell (p := ⟨0, 0, none⟩) hlt]; exact h

theorem Told_nil (w : World) : Calls Tryz.prog 26 #[.nilIface] w fun e w' => e = .returned (.int .i64 0) ∧ Below w.heap.size w w' := by
  go_enter Tryz.func26, Tryz.ntmps26
  go_wp2
  go_ret
  exact ⟨rfl, Below.refl _ _⟩

set_option maxHeartbeats 1000000 in
theorem Told_hit (n : Int) (w : World) (hg : errVar w) : Calls Tryz.prog 26 #[.iface 58 (.int .i64 n)] w fun e w' => e = .returned (.int .i64 n) ∧ Below w.heap.size w w' := by
  have hgA := hg.below (balloc w (.cells #[.int .i64 0] 58))
  unfold errVar at hgA
  have htA : (w.alloc (.cells #[.int .i64 0] 58)).cell? ⟨w.heap.size, 0, none⟩ = some (.int .i64 0) := by simp
  have hfA : (w.alloc (.cells #[.int .i64 0] 58)).frozen? ⟨w.heap.size, 0, none⟩ = false := by simp
  go_enter Tryz.func26, Tryz.ntmps26
  go_wp2_with fail
  refine (as_hit n _ (.int .i64 0) _ hgA htA hfA).mono ?_
  rintro e w' ⟨rfl, rfl⟩
  go_wp2_with fail
  go_ret
  exact ⟨rfl, bstep (bstep (bstep (bstep (balloc _ _) (balloc _ _)) (balloc _ _)) (balloc _ _)) (balloc _ _)⟩

/-- stratasame.Error: is it the error of that number? -/
theorem SameError_any (m e : Int) (w : World) (hg : errVar w) : Calls Tryz.prog 9 #[errV m, .int .i64 e] w fun r w' => r = .returned (.bool (m == e)) ∧ Below w.heap.size w w' := by
  by_cases h : m = 0
  · subst h
    rw [show errV 0 = .nilIface from rfl]
    go_enter Tryz.func9, Tryz.ntmps9
    go_wp2_with (go_at_call 26; refine (Told_nil _).mono ?_; rintro e w1 ⟨rfl, hb⟩)
    go_ret
    exact ⟨rfl, hb⟩
  · rw [show errV m = .iface 58 (.int .i64 m) from if_neg h]
    go_enter Tryz.func9, Tryz.ntmps9
    go_wp2_with (go_at_call 26; refine (Told_hit m _ hg).mono ?_; rintro e w1 ⟨rfl, hb⟩)
    go_ret
    exact ⟨rfl, hb⟩
end Go.Proofs.YtifkcoappflenagGreatDoor
