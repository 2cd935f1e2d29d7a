import Derived.Test.YtifkcoappflenagGreatDoorMCMergeTellsx0
import Derived.OwnWalk
import Derived.Laws.Rows
import Derived.Test.YtifkcoappflenagGreatDoorMA0x1
import Derived.Deep.RegionHeld3
import Derived.Test.YtifkcoappflenagGreatDoorMA0x2
import Derived.Test.YtifkcoappflenagGreatDoorMA0x3

/- The document's answer (package strataref1): Sorted: each once, rising, one put in behind the other. -/
namespace Go.Proofs.YtifkcoappflenagGreatDoor
open Go Go.RowKit Go.Proofs
set_option synthInstance.maxSize 1000

/-! ### a row of one's own, one triple of it written -/
theorem own_set1 {W : World} {base g cap n sz p : Nat} {e : TypeId} {xs : List Value} (h : W.ownsRow base e sz (.slice (some ⟨g, 0, none⟩) n cap) n xs) (u : Value) :
    (W.setCell ⟨g, p, none⟩ u).ownsRow base e sz (.slice (some ⟨g, 0, none⟩) n cap) n (xs.set p u) := by
  obtain ⟨h1, h2⟩ := h
  refine ⟨by simpa using h1, ?_⟩
  rcases h2 with ⟨h2, _⟩ | ⟨g', cap', cur, hv, hb, hg, hle, hm, hs, ht⟩
  · simp at h2
  · simp only [Value.slice.injEq, Option.some.injEq, Addr.mk.injEq, and_true, true_and] at hv
    obtain ⟨rfl, rfl⟩ := hv
    refine Or.inr ⟨g, cap, cur.setIfInBounds p u, rfl, hb, heap_setCell_same W g p cur e u hg, hle, hm, by simpa using hs, ?_⟩
    rw [Array.toList_setIfInBounds, List.take_set, ht]

theorem own_set {W : World} {base g cap : Nat} {t : List Tr} (h : W.ownsRow base 44 9 (.slice (some ⟨g, 0, none⟩) t.length cap) t.length (cellsT t)) (j : Nat) (x : Tr) :
    (W.setCells g (j * 9) (encTr x)).ownsRow base 44 9 (.slice (some ⟨g, 0, none⟩) t.length cap) t.length (cellsT (t.set j x)) := by
  have key : ∀ (vs : List Value) (p : Nat) (W : World) (xs : List Value), W.ownsRow base 44 9 (.slice (some ⟨g, 0, none⟩) t.length cap) t.length xs →
      ∃ ys, (W.setCells g p vs).ownsRow base 44 9 (.slice (some ⟨g, 0, none⟩) t.length cap) t.length ys ∧ ∀ q, ys[q]? = if p ≤ q ∧ q < p + vs.length ∧ q < xs.length then vs[q - p]? else xs[q]? := by
    intro vs
    induction vs with
    | nil => intro p W xs h; exact ⟨xs, h, fun q => by rw [if_neg (by simp; omega)]⟩
    | cons v r ih =>
      intro p W xs h
      obtain ⟨ys, hy, hq⟩ := ih (p + 1) _ _ (own_set1 (p := p) h v)
      refine ⟨ys, hy, fun q => ?_⟩
      rw [hq q]
      simp only [List.length_set, List.length_cons, List.getElem?_set]
      by_cases e1 : p = q
      · subst e1
        by_cases e2 : p < xs.length
        · rw [if_neg (by omega), if_pos rfl, if_pos e2, if_pos (by omega)]; simp
        · rw [if_neg (by omega), if_pos rfl, if_neg e2, if_neg (by omega)]; simp; omega
      · by_cases e2 : p + 1 ≤ q ∧ q < p + 1 + r.length ∧ q < xs.length
        · rw [if_pos e2, if_pos (by omega), show q - p = (q - (p + 1)) + 1 by omega]; simp
        · rw [if_neg e2, if_neg e1, if_neg (by omega)]
  obtain ⟨ys, hy, hq⟩ := key (encTr x) (j * 9) W _ h
  have e : ys = cellsT (t.set j x) := by
    apply List.ext_getElem?
    intro q
    rw [hq q, encTr_len, cellsT_len]
    by_cases hq9 : q < t.length * 9
    · have c1 := cellsT_at (t.set j x) (q / 9) (by rw [List.length_set]; omega) (q % 9) (by omega)
      have c2 := cellsT_at t (q / 9) (by omega) (q % 9) (by omega)
      rw [show q / 9 * 9 + q % 9 = q by omega] at c1 c2
      rw [c1, c2]
      by_cases hj' : q / 9 = j
      · rw [if_pos (by omega)]
        rw [show q - j * 9 = q % 9 by omega]
        congr 1
        simp [hj']
      · rw [if_neg (by omega)]
        congr 1
        rw [List.getElem_set_ne (by omega)]
    · rw [if_neg (by omega), List.getElem?_eq_none (by rw [cellsT_len]; omega), List.getElem?_eq_none (by rw [cellsT_len, List.length_set]; omega)]
  rw [← e]
  exact hy

theorem own_row {W : World} {base g cap n : Nat} {t : List Tr} (h : W.ownsRow base 44 9 (.slice (some ⟨g, 0, none⟩) n cap) t.length (cellsT t)) : RowR W g 0 t := fun j u hj => by
  have := h.cells (g := g) rfl j u hj
  rwa [Addr.add_lit] at this
theorem own_at {W : World} {base g cap n : Nat} {t : List Tr} (h : W.ownsRow base 44 9 (.slice (some ⟨g, 0, none⟩) n cap) t.length (cellsT t)) (i : Nat) (hi : i < t.length) :
    W.cell? ⟨g, i * 9, none⟩ = some (.int .i64 t[i].1.1) ∧ W.cell? ⟨g, i * 9 + 1, none⟩ = some (.string ⟨t[i].1.2.1.toArray⟩) ∧ W.cell? ⟨g, i * 9 + 2, none⟩ = some (.string ⟨t[i].1.2.2.toArray⟩)
    ∧ W.cell? ⟨g, i * 9 + 3, none⟩ = some (.int .i64 t[i].2.1.1) ∧ W.cell? ⟨g, i * 9 + 4, none⟩ = some (.string ⟨t[i].2.1.2.1.toArray⟩) ∧ W.cell? ⟨g, i * 9 + 5, none⟩ = some (.string ⟨t[i].2.1.2.2.toArray⟩)
    ∧ W.cell? ⟨g, i * 9 + 6, none⟩ = some (.int .i64 t[i].2.2.1) ∧ W.cell? ⟨g, i * 9 + 7, none⟩ = some (.string ⟨t[i].2.2.2.1.toArray⟩) ∧ W.cell? ⟨g, i * 9 + 8, none⟩ = some (.string ⟨t[i].2.2.2.2.toArray⟩) := by
  have := (own_row h).at i hi
  simp only [Nat.zero_add] at this
  exact this
theorem own_some {W : World} {base g cap n : Nat} {t : List Tr} (h : W.ownsRow base 44 9 (.slice (some ⟨g, 0, none⟩) n cap) t.length (cellsT t)) (i : Nat) (hi : i < t.length) :
    ∃ z : Tr, W.cell? ⟨g, i * 9, none⟩ = some (.int .i64 z.1.1) ∧ W.cell? ⟨g, i * 9 + 1, none⟩ = some (.string ⟨z.1.2.1.toArray⟩) ∧ W.cell? ⟨g, i * 9 + 2, none⟩ = some (.string ⟨z.1.2.2.toArray⟩)
    ∧ W.cell? ⟨g, i * 9 + 3, none⟩ = some (.int .i64 z.2.1.1) ∧ W.cell? ⟨g, i * 9 + 4, none⟩ = some (.string ⟨z.2.1.2.1.toArray⟩) ∧ W.cell? ⟨g, i * 9 + 5, none⟩ = some (.string ⟨z.2.1.2.2.toArray⟩)
    ∧ W.cell? ⟨g, i * 9 + 6, none⟩ = some (.int .i64 z.2.2.1) ∧ W.cell? ⟨g, i * 9 + 7, none⟩ = some (.string ⟨z.2.2.2.1.toArray⟩) ∧ W.cell? ⟨g, i * 9 + 8, none⟩ = some (.string ⟨z.2.2.2.2.toArray⟩) := ⟨t[i], own_at h i hi⟩
theorem own_thaw {W : World} {base g cap n m : Nat} {xs : List Value} (h : W.ownsRow base 44 9 (.slice (some ⟨g, 0, none⟩) n cap) m xs) (p : Nat) : W.frozen? ⟨g, p, none⟩ = false := by
  rcases h.2 with ⟨h2, _⟩ | ⟨g', cap', cur, hv, hb, hg, _⟩
  · simp at h2
  · simp only [Value.slice.injEq, Option.some.injEq, Addr.mk.injEq, and_true] at hv
    obtain ⟨rfl, _⟩ := hv
    simp [World.frozen?, hg]
theorem own_thaw9 {W : World} {base g cap n m : Nat} {xs : List Value} (h : W.ownsRow base 44 9 (.slice (some ⟨g, 0, none⟩) n cap) m xs) (j : Nat) : W.frozen? ⟨g, j * 9, none⟩ = false ∧ W.frozen? ⟨g, j * 9 + 1, none⟩ = false ∧ W.frozen? ⟨g, j * 9 + 2, none⟩ = false ∧ W.frozen? ⟨g, j * 9 + 3, none⟩ = false ∧ W.frozen? ⟨g, j * 9 + 4, none⟩ = false ∧ W.frozen? ⟨g, j * 9 + 5, none⟩ = false ∧ W.frozen? ⟨g, j * 9 + 6, none⟩ = false ∧ W.frozen? ⟨g, j * 9 + 7, none⟩ = false ∧ W.frozen? ⟨g, j * 9 + 8, none⟩ = false := ⟨own_thaw h _, own_thaw h _, own_thaw h _, own_thaw h _, own_thaw h _, own_thaw h _, own_thaw h _, own_thaw h _, own_thaw h _⟩
theorem below_set9 {w W : World} {g p : Nat} {x : Tr} (hb : RowKit.Below w.heap.size w W) (hg : w.heap.size ≤ g) : RowKit.Below w.heap.size w (W.setCells g p (encTr x)) :=
  ((((((((hb.setCell (p := ⟨g, p, none⟩) hg _).setCell (p := ⟨g, p + 1, none⟩) hg _).setCell (p := ⟨g, p + 2, none⟩) hg _).setCell (p := ⟨g, p + 3, none⟩) hg _).setCell (p := ⟨g, p + 4, none⟩) hg _).setCell (p := ⟨g, p + 5, none⟩) hg _).setCell (p := ⟨g, p + 6, none⟩) hg _).setCell (p := ⟨g, p + 7, none⟩) hg _).setCell (p := ⟨g, p + 8, none⟩) hg _

theorem own_slS {W : World} {base : Nat} {e : TypeId} {v : Value} {t : List Tr} (h : W.ownsRow base e 9 v t.length (cellsT t)) : ∃ ad cap, v = .slice ad t.length cap ∧ SlT W ad t := by
  have h' := h
  rcases h.2 with ⟨rfl, h0⟩ | ⟨g, cap, cur, rfl, _⟩
  · exact ⟨none, 0, by rw [h0], fun hne => absurd (List.eq_nil_of_length_eq_zero h0) hne⟩
  · refine ⟨some ⟨g, 0, none⟩, cap, rfl, fun _ => ⟨g, 0, rfl, fun j u hj => ?_⟩⟩
    have := h'.cells (g := g) rfl j u hj
    rwa [Addr.add_lit] at this
theorem ownsRow_belowS {W W' : World} {base : Nat} {e : TypeId} {sz : Nat} {v : Value} {n : Nat} {cs : List Value} (h : W.ownsRow base e sz v n cs) (hb : RowKit.Below W.heap.size W W') : W'.ownsRow base e sz v n cs :=
  h.kept (row := none) ⟨hb.os, hb.tape, hb.output, hb.size, fun i hi _ => hb.block i hi⟩ (Classical.em _)

theorem own_succ {W : World} {base : Nat} {e : TypeId} {sz n : Nat} {v : Value} {xs : List Value} (h : W.ownsRow base e sz v (n + 1) xs) : ∃ g cap, v = .slice (some ⟨g, 0, none⟩) (n + 1) cap := by
  rcases h.2 with ⟨_, h0⟩ | ⟨g, cap, cur, rfl, _⟩
  · omega
  · exact ⟨g, cap, rfl⟩

theorem wrapS (n : Nat) (h : n ≤ 1000000) : IntKind.i64.wrap (n : Int) = n := by simp [IntKind.wrap, IntKind.bits, IntKind.signed]; omega

/-! ### where one is put in -/
theorem ins_set (t : List Tr) (j : Nat) (y z : Tr) (hj : j ≤ t.length) : (t.take j ++ y :: t.drop j).set j z = t.take j ++ z :: t.drop j := by
  rw [List.set_append_right _ _ (by simp; omega)]
  simp [Nat.min_eq_left hj]
theorem ins_shift (t : List Tr) (j : Nat) (hj : j + 1 ≤ t.length) : t.take (j + 1) ++ t[j] :: t.drop (j + 1) = t.take j ++ t[j] :: t.drop j := by
  rw [List.take_succ_eq_append_getElem (by omega), List.drop_eq_getElem_cons (i := j) (by omega), List.append_assoc]
  rfl
theorem ins_at (t : List Tr) (j : Nat) (y : Tr) (hj : j + 1 ≤ t.length) : (t.take (j + 1) ++ y :: t.drop (j + 1))[j]'(by simp; omega) = t[j] := by
  rw [List.getElem_append_left (by simp; omega), List.getElem_take]
theorem ins_len (t : List Tr) (j : Nat) (y : Tr) (hj : j ≤ t.length) : (t.take j ++ y :: t.drop j).length = t.length + 1 := by simp; omega
theorem ins_mem (t : List Tr) (k : Nat) (y x : Tr) : x ∈ t.take k ++ y :: t.drop k ↔ x ∈ t ∨ x = y := by
  constructor
  · intro h
    rcases List.mem_append.1 h with h | h
    · exact Or.inl (List.mem_of_mem_take h)
    · rcases List.mem_cons.1 h with h | h
      · exact Or.inr h
      · exact Or.inl (List.mem_of_mem_drop h)
  · rintro (h | h)
    · rw [← List.take_append_drop k t] at h
      rcases List.mem_append.1 h with h | h
      · exact List.mem_append.2 (Or.inl h)
      · exact List.mem_append.2 (Or.inr (List.mem_cons.2 (Or.inr h)))
    · exact List.mem_append.2 (Or.inr (List.mem_cons.2 (Or.inl h)))
theorem ins_rising (t : List Tr) (k : Nat) (y : Tr) (hr : Rising t) (hlo : ∀ m (hm : m < t.length), m < k → cmpTr t[m] y < 0) (hhi : ∀ m (hm : m < t.length), k ≤ m → 0 < cmpTr t[m] y) : Rising (t.take k ++ y :: t.drop k) := by
  have hr' : Rising (t.take k ++ t.drop k) := by rw [List.take_append_drop]; exact hr
  obtain ⟨h1, h2, h3⟩ := List.pairwise_append.1 hr'
  refine List.pairwise_append.2 ⟨h1, List.pairwise_cons.2 ⟨fun z hz => ?_, h2⟩, fun a ha z hz => ?_⟩
  · obtain ⟨m, hm, rfl⟩ := List.getElem_of_mem hz
    rw [List.getElem_drop]
    have hm' : k + m < t.length := by simp at hm; omega
    have h0 := hhi (k + m) hm' (by omega)
    have := cmpTr_neg y t[k + m]
    omega
  · rcases List.mem_cons.1 hz with rfl | hz
    · obtain ⟨m, hm, rfl⟩ := List.getElem_of_mem ha
      rw [List.getElem_take]
      have hm' : m < k ∧ m < t.length := by simp at hm; omega
      exact hlo m hm'.2 hm'.1
    · exact h3 a ha z hz
theorem rise_lo {t : List Tr} (hr : Rising t) (k : Nat) (hk : k < t.length) (y : Tr) (h : cmpTr t[k] y < 0) : ∀ m (hm : m < t.length), m < k + 1 → cmpTr t[m] y < 0 := fun m hm hle => by
  rcases Nat.lt_or_eq_of_le (Nat.le_of_lt_succ hle) with h1 | h1
  · have h2 := List.pairwise_iff_getElem.1 hr m k hm hk h1
    have h3 := cmpTr_trans t[m] t[k] y (by omega) (by omega)
    rcases Int.lt_or_eq_of_le h3 with h4 | h4
    · exact h4
    · have e := (cmpTr_zero _ _).1 h4
      have := cmpTr_neg t[m] t[k]
      rw [e] at this h2
      omega
  · subst h1; exact h

set_option maxHeartbeats 16000000 in
set_option maxRecDepth 100000 in
theorem RSorted_any (ad : Option Addr) (cap : Nat) (l : List Tr) (w : World) (h : SlT w ad l) (hn : l.length ≤ 1000000) :
    Calls Tryz.prog 45 #[.slice ad l.length cap] w fun e w' => ∃ (m : List Tr) (ad' : Option Addr) (c : Nat), e = .returned (.slice ad' m.length c) ∧ SlT w' ad' m ∧ Rising m ∧ (∀ x, x ∈ m ↔ x ∈ l) ∧ m.length ≤ l.length ∧ RowKit.Below w.heap.size w w' := by
  have Hl : Hid (SlT w ad l) := h
  clear h
  obtain ⟨i0, hi0, hz⟩ := Option.map_eq_some_iff.1 infoTr
  simp only [Prod.mk.injEq] at hz
  obtain ⟨hz0, hz1, hz2⟩ := hz
  go_enter Tryz.func45, Tryz.ntmps45
  go_wp2_with fail
  go_loopw [3, 4] (fun v i wr => ∃ (k : Nat) (t : List Tr), k ≤ l.length ∧ i = .int .i64 k ∧ Hid (Rising t ∧ ∀ x, x ∈ t ↔ x ∈ l.take k) ∧ t.length ≤ k ∧ Hid (wr.ownsRow w.heap.size 44 9 v t.length (cellsT t)) ∧ RowKit.Below w.heap.size w wr) (fun _ i wr => l.length - (intOf i).toNat)
  case atStart => exact ⟨0, [], Nat.zero_le _, rfl, ⟨List.Pairwise.nil, by simp⟩, Nat.zero_le _, World.ownsRow_nil _ _ _ _, RowKit.Below.refl _ _⟩
  case round =>
    obtain ⟨i, t, hi', rfl, ht, htl, hown, hbr⟩ := hrel
    obtain ⟨W1, hW1⟩ : ∃ W1, W1 = wr := ⟨_, rfl⟩
    subst hW1
    obtain ⟨at0, ct, rfl, hslt⟩ : ∃ ad cap, _ = Value.slice ad t.length cap ∧ SlT W1 ad t := own_slS hown.out
    by_cases hi : i < l.length
    · have hmem : Hid (∀ x, x ∈ l.take (i + 1) ↔ x ∈ t ∨ x = l[i]) := fun x => by
        rw [List.take_succ_eq_append_getElem hi, List.mem_append, ht.out.2 x, List.mem_singleton]
      have i1 : (i : Int) < (l.length : Int) := by omega
      have i2 : (0 : Int) ≤ (i : Int) := by omega
      have Hslt : Hid (SlT W1 at0 t) := hslt
      have Hri : Hid (Rising t) := ht.out.1
      clear hslt ht
      obtain ⟨b, o, rfl, hr0⟩ := (Hl.out.below hbr).at i hi
      have Hr0 : Hid (RowR W1 b o l) := hr0
      clear hr0
      go_wp2_with fail
      go_loopw [5] (fun kv w2 => ∃ k : Nat, k ≤ t.length ∧ kv = .int .i64 k ∧ Hid (∀ m (hm : m < t.length), k ≤ m → 0 < cmpTr t[m] l[i]) ∧ RowKit.Below W1.heap.size W1 w2) (fun kv w2 => (intOf kv).toNat)
      case atStart => exact ⟨t.length, Nat.le_refl _, rfl, fun m hm h => by omega, RowKit.Below.refl _ _⟩
      case round =>
        obtain ⟨k, hk, rfl, hhi, hb2⟩ := hrel
        rcases Nat.eq_zero_or_pos k with rfl | hpos
        · go_wp2_with fail
          go_region
          go_wp2_with fail
          go_region
          have hBz := hb2.drew.drew
          generalize wr.drew.drew = wz at *
          have hA2 := bstep hbr hBz
          have hzr := hA2.size
          have Hown2 : Hid (wz.ownsRow w.heap.size 44 9 (.slice at0 t.length ct) t.length (cellsT t)) := ownsRow_belowS hown.out hBz
          go_wp2_with (at_builtin; refine wpList_append_own _ rfl _ _ 22 rfl w.heap.size 44 i0 (.agg (encTr zeroTr).toArray) 9 120 Tryz.underlying22 hi0 hz0 hz1 hz2 rfl (by decide) _ _ _ rfl (Hown2.out.alloc _) ⟨wz.heap.size, 0, none⟩ 1 1 (encTr zeroTr) rfl rfl ?c1 ?c2 ?c3 ?c4 ?c5 ?_)
          case c1 =>
            intro i u hi'
            have h9 : i < 9 := (List.getElem?_eq_some_iff.1 hi').1
            rw [Addr.add_lit]
            rcases (by omega : i = 0 ∨ i = 1 ∨ i = 2 ∨ i = 3 ∨ i = 4 ∨ i = 5 ∨ i = 6 ∨ i = 7 ∨ i = 8) with rfl | rfl | rfl | rfl | rfl | rfl | rfl | rfl | rfl
            all_goals
              simp [encTr, zeroTr] at hi'
              subst hi'
              go_simp
          case c2 => exact encTr_one zeroTr
          case c3 => unfold maxLen; omega
          case c4 => omega
          case c5 => simp; omega
          intro v' w9 hown' hgrow _
          have hA9 := (hA2.alloc hzr (.cells (encTr zeroTr).toArray 44)).grown hgrow (by simp; omega) (fun k hk => (Hown2.out.lt k hk).1)
          obtain ⟨g', cap', rfl⟩ := own_succ hown'
          have hg' : w.heap.size ≤ g' := (hown'.lt g' rfl).1
          have Hown9 : Hid (w9.ownsRow w.heap.size 44 9 (.slice (some ⟨g', 0, none⟩) (t.length + 1) cap') (t.length + 1) (cellsT (t.take t.length ++ zeroTr :: t.drop t.length))) := by
            show World.ownsRow _ _ _ _ _ _ _
            rw [List.take_length, List.drop_length]
            simpa [cellsT] using hown'
          clear hown' hgrow Hown2 hA2 hzr hBz hown
          go_wp2_with fail
          go_loopw [6] (fun jv wr => ∃ (j : Nat) (y : Tr), 0 ≤ j ∧ j ≤ t.length ∧ jv = .int .i64 j ∧ Hid (wr.ownsRow w.heap.size 44 9 (.slice (some ⟨g', 0, none⟩) (t.length + 1) cap') (t.length + 1) (cellsT (t.take j ++ y :: t.drop j))) ∧ RowKit.Below w.heap.size w wr) (fun jv wr => (intOf jv).toNat)
          case atStart => exact ⟨t.length, zeroTr, by omega, Nat.le_refl _, by go_num, Hown9.out, hA9⟩
          case round =>
            obtain ⟨j, y, hkj, hjt, rfl, hown4, hA4⟩ := hrel
            have hlen4 := ins_len t j y hjt
            have hown5 := hown4.out
            rw [← hlen4] at hown5
            by_cases hgt : 0 < j
            · obtain ⟨q, rfl⟩ : ∃ q, j = q + 1 := ⟨j - 1, by omega⟩
              obtain ⟨e0, e1, e2, e3, e4, e5, e6, e7, e8⟩ := own_at hown5 q (by omega)
              rw [ins_at t q y hjt] at e0 e1 e2 e3 e4 e5 e6 e7 e8
              obtain ⟨z2, f0, f1, f2, f3, f4, f5, f6, f7, f8⟩ := own_some hown5 (q + 1) (by omega)
              obtain ⟨m0, m1, m2, m3, m4, m5, m6, m7, m8⟩ := own_thaw9 hown5 (q + 1)
              have hnew0 := own_set hown5 (q + 1) t[q]
              rw [hlen4, ins_set t (q + 1) y _ hjt, ins_shift t q hjt] at hnew0
              have hnew : Hid _ := hnew0
              have hwr : IntKind.i64.wrap (((q + 1 : Nat) : Int) - 1) = (q : Int) := by simp [IntKind.wrap, IntKind.bits, IntKind.signed]; omega
              have j0 : (0 : Int) ≤ (q : Int) := by omega
              have j1 : (q : Int) < (t.length : Int) + 1 := by omega
              have j2 : (q : Int) + 1 < (t.length : Int) + 1 := by omega
              clear hown4 hown5 hlen4 hnew0
              generalize t[q] = z at *
              go_wp2_with fail
              exact ⟨⟨q, z, by omega, by omega, rfl, hnew.out, below_set9 hA4 hg'⟩, by simp [intOf]⟩
            · obtain rfl : 0 = j := by omega
              obtain ⟨b', o', hbo, hrow⟩ := (Hl.out.below hA4).at i hi
              simp only [Option.some.injEq, Addr.mk.injEq, and_true] at hbo
              obtain ⟨rfl, rfl⟩ := hbo
              obtain ⟨e0, e1, e2, e3, e4, e5, e6, e7, e8⟩ := hrow.at i hi
              obtain ⟨z2, f0, f1, f2, f3, f4, f5, f6, f7, f8⟩ := own_some hown5 (0) (by omega)
              obtain ⟨m0, m1, m2, m3, m4, m5, m6, m7, m8⟩ := own_thaw9 hown5 (0)
              have hnew0 := own_set hown5 (0) l[i]
              rw [ins_set t (0) y _ hjt] at hnew0
              rw [hlen4] at hnew0
              have hfin : Hid (Rising (t.take (0) ++ l[i] :: t.drop (0)) ∧ ∀ x, x ∈ t.take (0) ++ l[i] :: t.drop (0) ↔ x ∈ l.take (i + 1)) :=
                ⟨ins_rising t (0) l[i] Hri.out (fun m hm h => by omega) hhi.out, fun x => (ins_mem t (0) l[i] x).trans (hmem.out x).symm⟩
              have hlen5 : Hid ((t.take (0) ++ l[i] :: t.drop (0)).length = t.length + 1) := ins_len t (0) l[i] hjt
              have hnew : Hid _ := hnew0
              have j1 : ((0 : Nat) : Int) < (t.length : Int) + 1 := by omega
              have j0 : (0 : Int) ≤ ((0 : Nat) : Int) := by omega
              clear hown4 hown5 hlen4 hnew0 hrow
              simp only [Nat.zero_mul, Nat.zero_add] at f0 f1 f2 f3 f4 f5 f6 f7 f8 m0 m1 m2 m3 m4 m5 m6 m7 m8
              generalize l[i] = z at *
              go_wp2_with fail
              refine ⟨⟨i + 1, t.take (0) ++ z :: t.drop (0), by omega, by go_num, hfin.out, by rw [hlen5.out]; omega, ?_, below_set9 hA4 hg'⟩, by simp [intOf]; omega⟩
              show World.ownsRow _ _ _ _ _ _ _
              rw [hlen5.out]
              exact hnew.out
        · obtain ⟨p, hkp⟩ : ∃ p, k = p + 1 := ⟨k - 1, by omega⟩
          have hpt : p < t.length := by omega
          obtain ⟨g, og, hat, hrg⟩ := (Hslt.out.below hb2).at p hpt
          subst hat
          obtain ⟨c0, c1, c2, c3, c4, c5, c6, c7, c8⟩ := hrg.at p hpt
          obtain ⟨d0, d1, d2, d3, d4, d5, d6, d7, d8⟩ := (Hr0.out.below hb2).at i hi
          have HC := fun W => ROrder_any t[p] l[i] W
          unfold valTr at HC
          have fhi : Hid (0 < cmpTr t[p] l[i] → ∀ m (hm : m < t.length), p ≤ m → 0 < cmpTr t[m] l[i]) := fun h m hm hle => by
            rcases Nat.lt_or_eq_of_le hle with h1 | h1
            · exact hhi.out m hm (by omega)
            · subst h1; exact h
          have flo : Hid (cmpTr t[p] l[i] < 0 → ∀ m (hm : m < t.length), m < k → cmpTr t[m] l[i] < 0) := fun h m hm hlt => rise_lo Hri.out p hpt l[i] h m hm (by omega)
          have feq : Hid (cmpTr t[p] l[i] = 0 → l[i] ∈ t) := fun h => by rw [← (cmpTr_zero _ _).1 h]; exact List.getElem_mem hpt
          have hwr : IntKind.i64.wrap ((k : Int) - 1) = (p : Int) := by rw [show (k : Int) - 1 = (p : Int) by omega]; exact wrapS p (by omega)
          have j0 : (0 : Int) ≤ (p : Int) := by omega
          have j1 : (p : Int) < (t.length : Int) := by omega
          have hd0 : decide (0 < k) = true := by simp; omega
          have hd1 : decide ((k : Int) > 0) = true := by simp; omega
          have Hkp : Hid (k = p + 1) := hkp
          clear hrg hkp hpos
          generalize cmpTr t[p] l[i] = c at HC fhi flo feq
          have Hd : Hid (∀ W', RowKit.Below W1.heap.size W1 W' → RowR W' b o l ∧ SlT W' (some ⟨g, og, none⟩) t) := fun W' h' => ⟨Hr0.out.below h', Hslt.out.below h'⟩
          obtain ⟨x, hx⟩ : ∃ x, x = t[p] := ⟨_, rfl⟩
          obtain ⟨y, hy⟩ : ∃ y, y = l[i] := ⟨_, rfl⟩
          have Hxy : Hid (x = t[p] ∧ y = l[i]) := ⟨hx, hy⟩
          rw [← hx] at c0 c1 c2 c3 c4 c5 c6 c7 c8 HC
          rw [← hy] at d0 d1 d2 d3 d4 d5 d6 d7 d8 HC
          clear hx hy
          cases hcc : decide (c > 0)
          · go_wp2_with fail
            go_region_held3 (fun W => W.cell? ⟨g, og + p * 9, none⟩ = some (.int .i64 x.1.1) ∧ W.cell? ⟨g, og + p * 9 + 1, none⟩ = some (.string ⟨x.1.2.1.toArray⟩) ∧ W.cell? ⟨g, og + p * 9 + 2, none⟩ = some (.string ⟨x.1.2.2.toArray⟩) ∧ W.cell? ⟨g, og + p * 9 + 3, none⟩ = some (.int .i64 x.2.1.1) ∧ W.cell? ⟨g, og + p * 9 + 4, none⟩ = some (.string ⟨x.2.1.2.1.toArray⟩) ∧ W.cell? ⟨g, og + p * 9 + 5, none⟩ = some (.string ⟨x.2.1.2.2.toArray⟩) ∧ W.cell? ⟨g, og + p * 9 + 6, none⟩ = some (.int .i64 x.2.2.1) ∧ W.cell? ⟨g, og + p * 9 + 7, none⟩ = some (.string ⟨x.2.2.2.1.toArray⟩) ∧ W.cell? ⟨g, og + p * 9 + 8, none⟩ = some (.string ⟨x.2.2.2.2.toArray⟩) ∧ W.cell? ⟨b, o + i * 9, none⟩ = some (.int .i64 y.1.1) ∧ W.cell? ⟨b, o + i * 9 + 1, none⟩ = some (.string ⟨y.1.2.1.toArray⟩) ∧ W.cell? ⟨b, o + i * 9 + 2, none⟩ = some (.string ⟨y.1.2.2.toArray⟩) ∧ W.cell? ⟨b, o + i * 9 + 3, none⟩ = some (.int .i64 y.2.1.1) ∧ W.cell? ⟨b, o + i * 9 + 4, none⟩ = some (.string ⟨y.2.1.2.1.toArray⟩) ∧ W.cell? ⟨b, o + i * 9 + 5, none⟩ = some (.string ⟨y.2.1.2.2.toArray⟩) ∧ W.cell? ⟨b, o + i * 9 + 6, none⟩ = some (.int .i64 y.2.2.1) ∧ W.cell? ⟨b, o + i * 9 + 7, none⟩ = some (.string ⟨y.2.2.2.1.toArray⟩) ∧ W.cell? ⟨b, o + i * 9 + 8, none⟩ = some (.string ⟨y.2.2.2.2.toArray⟩)) (first | exact keep18b (by assumption) hb3 | go_keep) (first
              | (go_at_call 19; refine (HC _).mono ?_; rintro e w3 ⟨rfl, hb3⟩))
            have hB3 := bstep hb2.drew hb3
            obtain ⟨hrl, hst⟩ := Hd.out _ hB3
            obtain ⟨g2, og2, hat, hrg⟩ := hst.at p hpt
            simp only [Option.some.injEq, Addr.mk.injEq, and_true] at hat
            obtain ⟨rfl, rfl⟩ := hat
            clear c0 c1 c2 c3 c4 c5 c6 c7 c8 d0 d1 d2 d3 d4 d5 d6 d7 d8
            obtain ⟨c0, c1, c2, c3, c4, c5, c6, c7, c8⟩ := hrg.at p hpt
            obtain ⟨d0, d1, d2, d3, d4, d5, d6, d7, d8⟩ := hrl.at i hi
            rw [← Hxy.out.1] at c0 c1 c2 c3 c4 c5 c6 c7 c8
            rw [← Hxy.out.2] at d0 d1 d2 d3 d4 d5 d6 d7 d8
            clear hrg hrl hst
            have hle : Hid (c ≤ 0) := by simp at hcc; exact hcc
            cases h0 : (c == 0)
            · go_wp2_with fail
              go_region_held3 (fun W => W.cell? ⟨g, og + p * 9, none⟩ = some (.int .i64 x.1.1) ∧ W.cell? ⟨g, og + p * 9 + 1, none⟩ = some (.string ⟨x.1.2.1.toArray⟩) ∧ W.cell? ⟨g, og + p * 9 + 2, none⟩ = some (.string ⟨x.1.2.2.toArray⟩) ∧ W.cell? ⟨g, og + p * 9 + 3, none⟩ = some (.int .i64 x.2.1.1) ∧ W.cell? ⟨g, og + p * 9 + 4, none⟩ = some (.string ⟨x.2.1.2.1.toArray⟩) ∧ W.cell? ⟨g, og + p * 9 + 5, none⟩ = some (.string ⟨x.2.1.2.2.toArray⟩) ∧ W.cell? ⟨g, og + p * 9 + 6, none⟩ = some (.int .i64 x.2.2.1) ∧ W.cell? ⟨g, og + p * 9 + 7, none⟩ = some (.string ⟨x.2.2.2.1.toArray⟩) ∧ W.cell? ⟨g, og + p * 9 + 8, none⟩ = some (.string ⟨x.2.2.2.2.toArray⟩) ∧ W.cell? ⟨b, o + i * 9, none⟩ = some (.int .i64 y.1.1) ∧ W.cell? ⟨b, o + i * 9 + 1, none⟩ = some (.string ⟨y.1.2.1.toArray⟩) ∧ W.cell? ⟨b, o + i * 9 + 2, none⟩ = some (.string ⟨y.1.2.2.toArray⟩) ∧ W.cell? ⟨b, o + i * 9 + 3, none⟩ = some (.int .i64 y.2.1.1) ∧ W.cell? ⟨b, o + i * 9 + 4, none⟩ = some (.string ⟨y.2.1.2.1.toArray⟩) ∧ W.cell? ⟨b, o + i * 9 + 5, none⟩ = some (.string ⟨y.2.1.2.2.toArray⟩) ∧ W.cell? ⟨b, o + i * 9 + 6, none⟩ = some (.int .i64 y.2.2.1) ∧ W.cell? ⟨b, o + i * 9 + 7, none⟩ = some (.string ⟨y.2.2.2.1.toArray⟩) ∧ W.cell? ⟨b, o + i * 9 + 8, none⟩ = some (.string ⟨y.2.2.2.2.toArray⟩)) (first | exact keep18b (by assumption) hb4 | go_keep) (first
                | (go_at_call 19; refine (HC _).mono ?_; rintro e w4 ⟨rfl, hb4⟩))
              have hBz := bstep hB3.drew hb4
              have hlt : Hid (c < 0) := by
                have h1 := hle.out
                have h2 : ¬ c = 0 := by simpa using h0
                show c < 0
                omega
              clear c0 c1 c2 c3 c4 c5 c6 c7 c8 d0 d1 d2 d3 d4 d5 d6 d7 d8 hb4 hB3 HC Hd
              generalize w4 = wz at *
              have hA2 := bstep hbr hBz
              have hzr := hA2.size
              have Hown2 : Hid (wz.ownsRow w.heap.size 44 9 (.slice (some ⟨g, og, none⟩) t.length ct) t.length (cellsT t)) := ownsRow_belowS hown.out hBz
              go_wp2_with (at_builtin; refine wpList_append_own _ rfl _ _ 22 rfl w.heap.size 44 i0 (.agg (encTr zeroTr).toArray) 9 120 Tryz.underlying22 hi0 hz0 hz1 hz2 rfl (by decide) _ _ _ rfl (Hown2.out.alloc _) ⟨wz.heap.size, 0, none⟩ 1 1 (encTr zeroTr) rfl rfl ?c1 ?c2 ?c3 ?c4 ?c5 ?_)
              case c1 =>
                intro i u hi'
                have h9 : i < 9 := (List.getElem?_eq_some_iff.1 hi').1
                rw [Addr.add_lit]
                rcases (by omega : i = 0 ∨ i = 1 ∨ i = 2 ∨ i = 3 ∨ i = 4 ∨ i = 5 ∨ i = 6 ∨ i = 7 ∨ i = 8) with rfl | rfl | rfl | rfl | rfl | rfl | rfl | rfl | rfl
                all_goals
                  simp [encTr, zeroTr] at hi'
                  subst hi'
                  go_simp
              case c2 => exact encTr_one zeroTr
              case c3 => unfold maxLen; omega
              case c4 => omega
              case c5 => simp; omega
              intro v' w9 hown' hgrow _
              have hA9 := (hA2.alloc hzr (.cells (encTr zeroTr).toArray 44)).grown hgrow (by simp; omega) (fun k hk => (Hown2.out.lt k hk).1)
              obtain ⟨g', cap', rfl⟩ := own_succ hown'
              have hg' : w.heap.size ≤ g' := (hown'.lt g' rfl).1
              have Hown9 : Hid (w9.ownsRow w.heap.size 44 9 (.slice (some ⟨g', 0, none⟩) (t.length + 1) cap') (t.length + 1) (cellsT (t.take t.length ++ zeroTr :: t.drop t.length))) := by
                show World.ownsRow _ _ _ _ _ _ _
                rw [List.take_length, List.drop_length]
                simpa [cellsT] using hown'
              clear hown' hgrow Hown2 hA2 hzr hBz hown
              go_wp2_with fail
              go_loopw [6] (fun jv wr => ∃ (j : Nat) (y : Tr), k ≤ j ∧ j ≤ t.length ∧ jv = .int .i64 j ∧ Hid (wr.ownsRow w.heap.size 44 9 (.slice (some ⟨g', 0, none⟩) (t.length + 1) cap') (t.length + 1) (cellsT (t.take j ++ y :: t.drop j))) ∧ RowKit.Below w.heap.size w wr) (fun jv wr => (intOf jv).toNat)
              case atStart => exact ⟨t.length, zeroTr, by omega, Nat.le_refl _, by go_num, Hown9.out, hA9⟩
              case round =>
                obtain ⟨j, y, hkj, hjt, rfl, hown4, hA4⟩ := hrel
                have hlen4 := ins_len t j y hjt
                have hown5 := hown4.out
                rw [← hlen4] at hown5
                by_cases hgt : k < j
                · obtain ⟨q, rfl⟩ : ∃ q, j = q + 1 := ⟨j - 1, by omega⟩
                  obtain ⟨e0, e1, e2, e3, e4, e5, e6, e7, e8⟩ := own_at hown5 q (by omega)
                  rw [ins_at t q y hjt] at e0 e1 e2 e3 e4 e5 e6 e7 e8
                  obtain ⟨z2, f0, f1, f2, f3, f4, f5, f6, f7, f8⟩ := own_some hown5 (q + 1) (by omega)
                  obtain ⟨m0, m1, m2, m3, m4, m5, m6, m7, m8⟩ := own_thaw9 hown5 (q + 1)
                  have hnew0 := own_set hown5 (q + 1) t[q]
                  rw [hlen4, ins_set t (q + 1) y _ hjt, ins_shift t q hjt] at hnew0
                  have hnew : Hid _ := hnew0
                  have hwr : IntKind.i64.wrap (((q + 1 : Nat) : Int) - 1) = (q : Int) := by simp [IntKind.wrap, IntKind.bits, IntKind.signed]; omega
                  have j0 : (0 : Int) ≤ (q : Int) := by omega
                  have j1 : (q : Int) < (t.length : Int) + 1 := by omega
                  have j2 : (q : Int) + 1 < (t.length : Int) + 1 := by omega
                  clear hown4 hown5 hlen4 hnew0
                  generalize t[q] = z at *
                  go_wp2_with fail
                  exact ⟨⟨q, z, by omega, by omega, rfl, hnew.out, below_set9 hA4 hg'⟩, by simp [intOf]⟩
                · obtain rfl : k = j := by omega
                  obtain ⟨b', o', hbo, hrow⟩ := (Hl.out.below hA4).at i hi
                  simp only [Option.some.injEq, Addr.mk.injEq, and_true] at hbo
                  obtain ⟨rfl, rfl⟩ := hbo
                  obtain ⟨e0, e1, e2, e3, e4, e5, e6, e7, e8⟩ := hrow.at i hi
                  obtain ⟨z2, f0, f1, f2, f3, f4, f5, f6, f7, f8⟩ := own_some hown5 (k) (by omega)
                  obtain ⟨m0, m1, m2, m3, m4, m5, m6, m7, m8⟩ := own_thaw9 hown5 (k)
                  have hnew0 := own_set hown5 (k) l[i]
                  rw [ins_set t (k) y _ hjt] at hnew0
                  rw [hlen4] at hnew0
                  have hfin : Hid (Rising (t.take (k) ++ l[i] :: t.drop (k)) ∧ ∀ x, x ∈ t.take (k) ++ l[i] :: t.drop (k) ↔ x ∈ l.take (i + 1)) :=
                    ⟨ins_rising t (k) l[i] Hri.out (flo.out hlt.out) hhi.out, fun x => (ins_mem t (k) l[i] x).trans (hmem.out x).symm⟩
                  have hlen5 : Hid ((t.take (k) ++ l[i] :: t.drop (k)).length = t.length + 1) := ins_len t (k) l[i] hjt
                  have hnew : Hid _ := hnew0
                  have j1 : ((k : Nat) : Int) < (t.length : Int) + 1 := by omega
                  have j0 : (0 : Int) ≤ ((k : Nat) : Int) := by omega
                  clear hown4 hown5 hlen4 hnew0 hrow
                  skip
                  generalize l[i] = z at *
                  go_wp2_with fail
                  refine ⟨⟨i + 1, t.take (k) ++ z :: t.drop (k), by omega, by go_num, hfin.out, by rw [hlen5.out]; omega, ?_, below_set9 hA4 hg'⟩, by simp [intOf]; omega⟩
                  show World.ownsRow _ _ _ _ _ _ _
                  rw [hlen5.out]
                  exact hnew.out
            · go_wp2_with fail
              go_region_held3 (fun W => W.cell? ⟨g, og + p * 9, none⟩ = some (.int .i64 x.1.1) ∧ W.cell? ⟨g, og + p * 9 + 1, none⟩ = some (.string ⟨x.1.2.1.toArray⟩) ∧ W.cell? ⟨g, og + p * 9 + 2, none⟩ = some (.string ⟨x.1.2.2.toArray⟩) ∧ W.cell? ⟨g, og + p * 9 + 3, none⟩ = some (.int .i64 x.2.1.1) ∧ W.cell? ⟨g, og + p * 9 + 4, none⟩ = some (.string ⟨x.2.1.2.1.toArray⟩) ∧ W.cell? ⟨g, og + p * 9 + 5, none⟩ = some (.string ⟨x.2.1.2.2.toArray⟩) ∧ W.cell? ⟨g, og + p * 9 + 6, none⟩ = some (.int .i64 x.2.2.1) ∧ W.cell? ⟨g, og + p * 9 + 7, none⟩ = some (.string ⟨x.2.2.2.1.toArray⟩) ∧ W.cell? ⟨g, og + p * 9 + 8, none⟩ = some (.string ⟨x.2.2.2.2.toArray⟩) ∧ W.cell? ⟨b, o + i * 9, none⟩ = some (.int .i64 y.1.1) ∧ W.cell? ⟨b, o + i * 9 + 1, none⟩ = some (.string ⟨y.1.2.1.toArray⟩) ∧ W.cell? ⟨b, o + i * 9 + 2, none⟩ = some (.string ⟨y.1.2.2.toArray⟩) ∧ W.cell? ⟨b, o + i * 9 + 3, none⟩ = some (.int .i64 y.2.1.1) ∧ W.cell? ⟨b, o + i * 9 + 4, none⟩ = some (.string ⟨y.2.1.2.1.toArray⟩) ∧ W.cell? ⟨b, o + i * 9 + 5, none⟩ = some (.string ⟨y.2.1.2.2.toArray⟩) ∧ W.cell? ⟨b, o + i * 9 + 6, none⟩ = some (.int .i64 y.2.2.1) ∧ W.cell? ⟨b, o + i * 9 + 7, none⟩ = some (.string ⟨y.2.2.2.1.toArray⟩) ∧ W.cell? ⟨b, o + i * 9 + 8, none⟩ = some (.string ⟨y.2.2.2.2.toArray⟩)) (first | exact keep18b (by assumption) hb4 | go_keep) (first
                | (go_at_call 19; refine (HC _).mono ?_; rintro e w4 ⟨rfl, hb4⟩))
              have hBz := bstep hB3.drew hb4
              go_wp2_with fail
              have hin := feq.out (by simpa using h0)
              refine ⟨⟨i + 1, t, by omega, by go_num, ⟨Hri.out, fun x => ?_⟩, by omega, ownsRow_belowS hown.out hBz, bstep hbr hBz⟩, by simp [intOf]; omega⟩
              rw [hmem.out x]
              constructor
              · exact Or.inl
              · rintro (h | h)
                · exact h
                · rw [h]; exact hin
          · go_wp2_with fail
            go_region_held3 (fun W => W.cell? ⟨g, og + p * 9, none⟩ = some (.int .i64 x.1.1) ∧ W.cell? ⟨g, og + p * 9 + 1, none⟩ = some (.string ⟨x.1.2.1.toArray⟩) ∧ W.cell? ⟨g, og + p * 9 + 2, none⟩ = some (.string ⟨x.1.2.2.toArray⟩) ∧ W.cell? ⟨g, og + p * 9 + 3, none⟩ = some (.int .i64 x.2.1.1) ∧ W.cell? ⟨g, og + p * 9 + 4, none⟩ = some (.string ⟨x.2.1.2.1.toArray⟩) ∧ W.cell? ⟨g, og + p * 9 + 5, none⟩ = some (.string ⟨x.2.1.2.2.toArray⟩) ∧ W.cell? ⟨g, og + p * 9 + 6, none⟩ = some (.int .i64 x.2.2.1) ∧ W.cell? ⟨g, og + p * 9 + 7, none⟩ = some (.string ⟨x.2.2.2.1.toArray⟩) ∧ W.cell? ⟨g, og + p * 9 + 8, none⟩ = some (.string ⟨x.2.2.2.2.toArray⟩) ∧ W.cell? ⟨b, o + i * 9, none⟩ = some (.int .i64 y.1.1) ∧ W.cell? ⟨b, o + i * 9 + 1, none⟩ = some (.string ⟨y.1.2.1.toArray⟩) ∧ W.cell? ⟨b, o + i * 9 + 2, none⟩ = some (.string ⟨y.1.2.2.toArray⟩) ∧ W.cell? ⟨b, o + i * 9 + 3, none⟩ = some (.int .i64 y.2.1.1) ∧ W.cell? ⟨b, o + i * 9 + 4, none⟩ = some (.string ⟨y.2.1.2.1.toArray⟩) ∧ W.cell? ⟨b, o + i * 9 + 5, none⟩ = some (.string ⟨y.2.1.2.2.toArray⟩) ∧ W.cell? ⟨b, o + i * 9 + 6, none⟩ = some (.int .i64 y.2.2.1) ∧ W.cell? ⟨b, o + i * 9 + 7, none⟩ = some (.string ⟨y.2.2.2.1.toArray⟩) ∧ W.cell? ⟨b, o + i * 9 + 8, none⟩ = some (.string ⟨y.2.2.2.2.toArray⟩)) (first | exact keep18b (by assumption) hb3 | go_keep) (first
              | (go_at_call 19; refine (HC _).mono ?_; rintro e w3 ⟨rfl, hb3⟩))
            go_wp2
            have hgt : 0 < c := by simpa using hcc
            exact ⟨⟨p, by omega, by first | rfl | go_num, fhi.out hgt, bstep hb2.drew hb3⟩, by have := Hkp.out; simp [intOf]; omega⟩
    · obtain rfl : i = l.length := by omega
      have hfin := ht.out
      rw [List.take_length] at hfin
      have Hfin : Hid _ := hfin
      have Hslt : Hid (SlT W1 at0 t) := hslt
      clear hfin ht hslt
      go_wp2_with fail
      go_ret
      exact ⟨t, at0, ct, rfl, Hslt.out, Hfin.out.1, Hfin.out.2, htl, hbr⟩
end Go.Proofs.YtifkcoappflenagGreatDoor

/- The document's answer (package strataref1): In, Part. -/
namespace Go.Proofs.YtifkcoappflenagGreatDoor
open Go Go.RowKit Go.Proofs
set_option synthInstance.maxSize 1000

theorem filter_stepP (l : List Tr) (p : Tr → Bool) (k : Nat) (h : k < l.length) : (l.take (k + 1)).filter p = (l.take k).filter p ++ (if p l[k] then [l[k]] else []) := by
  rw [List.take_succ_eq_append_getElem h, List.filter_append]
  cases hp : p l[k] <;> simp [hp]
theorem in_none {l : List Tr} {t : Tr} (h : ∀ j (hj : j < l.length), j < l.length → cmpTr l[j] t ≠ 0) : decide (t ∈ l) = false := by
  rw [decide_eq_false_iff_not]
  intro hm
  obtain ⟨j, hj, rfl⟩ := List.getElem_of_mem hm
  exact h j hj hj ((cmpTr_zero _ _).2 rfl)

set_option maxHeartbeats 4000000 in
set_option maxRecDepth 100000 in
theorem RIn_any (ad : Option Addr) (cap : Nat) (l : List Tr) (t : Tr) (w : World) (h : SlT w ad l) (hn : l.length ≤ 9223372036854775807) :
    Calls Tryz.prog 16 #[.slice ad l.length cap, valTr t] w fun e w' => e = .returned (.bool (decide (t ∈ l))) ∧ RowKit.Below w.heap.size w w' := by
  have Hl : Hid (SlT w ad l) := h
  clear h
  unfold valTr
  go_enter Tryz.func16, Tryz.ntmps16
  go_wp2_with fail
  go_loopw [5] (fun i wr => ∃ k : Nat, k ≤ l.length ∧ i = .int .i64 k ∧ Hid (∀ j (hj : j < l.length), j < k → cmpTr l[j] t ≠ 0) ∧ RowKit.Below (w.alloc (.cells (encTr t).toArray 44)).heap.size (w.alloc (.cells (encTr t).toArray 44)) wr) (fun i wr => l.length - (intOf i).toNat)
  case atStart => exact ⟨0, Nat.zero_le _, rfl, fun j hj h => by omega, RowKit.Below.refl _ _⟩
  case round =>
    obtain ⟨k, hk, rfl, hne, hbr⟩ := hrel
    by_cases hlt : k < l.length
    · obtain ⟨b, o, rfl, hrow⟩ := (Hl.out.below (bstep (balloc _ _) hbr)).at k hlt
      obtain ⟨c0, c1, c2, c3, c4, c5, c6, c7, c8⟩ := hrow.at k hlt
      obtain ⟨e0, e1, e2, e3, e4, e5, e6, e7, e8, hz9⟩ := ninebox hbr
      have i0 : (0 : Int) ≤ (k : Int) := by omega
      have i1 : (k : Int) < (l.length : Int) := by omega
      have HC := fun W => ROrder_any l[k] t W
      unfold valTr at HC
      have f0 : Hid (cmpTr l[k] t = 0 → decide (t ∈ l) = true) := fun h => by
        rw [decide_eq_true_eq, ← (cmpTr_zero _ _).1 h]
        exact List.getElem_mem hlt
      have f1 : Hid (cmpTr l[k] t ≠ 0 → ∀ j (hj : j < l.length), j < k + 1 → cmpTr l[j] t ≠ 0) := fun h j hj hle => by
        rcases Nat.lt_or_eq_of_le (Nat.le_of_lt_succ hle) with h1 | h1
        · exact hne.out j hj h1
        · subst h1; exact h
      generalize cmpTr l[k] t = c at HC f0 f1
      generalize l[k] = y at *
      clear hrow
      cases hc : (c == 0)
      · go_wp2_with fail
        go_region_held3 (fun W => W.cell? ⟨b, o + k * 9, none⟩ = some (.int .i64 y.1.1) ∧ W.cell? ⟨b, o + k * 9 + 1, none⟩ = some (.string ⟨y.1.2.1.toArray⟩) ∧ W.cell? ⟨b, o + k * 9 + 2, none⟩ = some (.string ⟨y.1.2.2.toArray⟩) ∧ W.cell? ⟨b, o + k * 9 + 3, none⟩ = some (.int .i64 y.2.1.1) ∧ W.cell? ⟨b, o + k * 9 + 4, none⟩ = some (.string ⟨y.2.1.2.1.toArray⟩) ∧ W.cell? ⟨b, o + k * 9 + 5, none⟩ = some (.string ⟨y.2.1.2.2.toArray⟩) ∧ W.cell? ⟨b, o + k * 9 + 6, none⟩ = some (.int .i64 y.2.2.1) ∧ W.cell? ⟨b, o + k * 9 + 7, none⟩ = some (.string ⟨y.2.2.2.1.toArray⟩) ∧ W.cell? ⟨b, o + k * 9 + 8, none⟩ = some (.string ⟨y.2.2.2.2.toArray⟩) ∧ W.cell? ⟨w.heap.size, 0, none⟩ = some (.int .i64 t.1.1) ∧ W.cell? ⟨w.heap.size, 1, none⟩ = some (.string ⟨t.1.2.1.toArray⟩) ∧ W.cell? ⟨w.heap.size, 2, none⟩ = some (.string ⟨t.1.2.2.toArray⟩) ∧ W.cell? ⟨w.heap.size, 3, none⟩ = some (.int .i64 t.2.1.1) ∧ W.cell? ⟨w.heap.size, 4, none⟩ = some (.string ⟨t.2.1.2.1.toArray⟩) ∧ W.cell? ⟨w.heap.size, 5, none⟩ = some (.string ⟨t.2.1.2.2.toArray⟩) ∧ W.cell? ⟨w.heap.size, 6, none⟩ = some (.int .i64 t.2.2.1) ∧ W.cell? ⟨w.heap.size, 7, none⟩ = some (.string ⟨t.2.2.2.1.toArray⟩) ∧ W.cell? ⟨w.heap.size, 8, none⟩ = some (.string ⟨t.2.2.2.2.toArray⟩)) (first | exact keep18b (by assumption) hb2 | go_keep) (first
          | (go_at_call 19; refine (HC _).mono ?_; rintro e w2 ⟨rfl, hb2⟩))
        go_wp2
        exact ⟨⟨k + 1, by omega, by go_num, f1.out (by simpa using hc), bstep hbr.drew hb2⟩, by simp [intOf]; omega⟩
      · go_wp2_with fail
        go_region_held3 (fun W => W.cell? ⟨b, o + k * 9, none⟩ = some (.int .i64 y.1.1) ∧ W.cell? ⟨b, o + k * 9 + 1, none⟩ = some (.string ⟨y.1.2.1.toArray⟩) ∧ W.cell? ⟨b, o + k * 9 + 2, none⟩ = some (.string ⟨y.1.2.2.toArray⟩) ∧ W.cell? ⟨b, o + k * 9 + 3, none⟩ = some (.int .i64 y.2.1.1) ∧ W.cell? ⟨b, o + k * 9 + 4, none⟩ = some (.string ⟨y.2.1.2.1.toArray⟩) ∧ W.cell? ⟨b, o + k * 9 + 5, none⟩ = some (.string ⟨y.2.1.2.2.toArray⟩) ∧ W.cell? ⟨b, o + k * 9 + 6, none⟩ = some (.int .i64 y.2.2.1) ∧ W.cell? ⟨b, o + k * 9 + 7, none⟩ = some (.string ⟨y.2.2.2.1.toArray⟩) ∧ W.cell? ⟨b, o + k * 9 + 8, none⟩ = some (.string ⟨y.2.2.2.2.toArray⟩) ∧ W.cell? ⟨w.heap.size, 0, none⟩ = some (.int .i64 t.1.1) ∧ W.cell? ⟨w.heap.size, 1, none⟩ = some (.string ⟨t.1.2.1.toArray⟩) ∧ W.cell? ⟨w.heap.size, 2, none⟩ = some (.string ⟨t.1.2.2.toArray⟩) ∧ W.cell? ⟨w.heap.size, 3, none⟩ = some (.int .i64 t.2.1.1) ∧ W.cell? ⟨w.heap.size, 4, none⟩ = some (.string ⟨t.2.1.2.1.toArray⟩) ∧ W.cell? ⟨w.heap.size, 5, none⟩ = some (.string ⟨t.2.1.2.2.toArray⟩) ∧ W.cell? ⟨w.heap.size, 6, none⟩ = some (.int .i64 t.2.2.1) ∧ W.cell? ⟨w.heap.size, 7, none⟩ = some (.string ⟨t.2.2.2.1.toArray⟩) ∧ W.cell? ⟨w.heap.size, 8, none⟩ = some (.string ⟨t.2.2.2.2.toArray⟩)) (first | exact keep18b (by assumption) hb2 | go_keep) (first
          | (go_at_call 19; refine (HC _).mono ?_; rintro e w2 ⟨rfl, hb2⟩))
        go_wp2
        go_ret
        exact ⟨ret_bool (f0.out (by simpa using hc)).symm, bstep (bstep (balloc _ _) hbr.drew) hb2⟩
    · obtain rfl : k = l.length := by omega
      go_wp2_with fail
      go_ret
      exact ⟨ret_bool (in_none hne.out).symm, bstep (balloc _ _) hbr⟩

/-- what of the one is, or is not, in the other -/
def partL (a b : List Tr) (is : Bool) : List Tr := a.filter fun x => decide (x ∈ b) == is
theorem part_both (a b : List Tr) : partL a b true = bothL a b := by unfold partL bothL; congr 1; funext x; simp
theorem part_less (a b : List Tr) : partL a b false = lessL a b := by unfold partL lessL; congr 1; funext x; cases decide (x ∈ b) <;> rfl

end Go.Proofs.YtifkcoappflenagGreatDoor

/- The document's answer (package strataref1): Two, Union. -/
namespace Go.Proofs.YtifkcoappflenagGreatDoor
open Go Go.RowKit Go.Proofs
set_option synthInstance.maxSize 1000

set_option maxHeartbeats 1000000 in
theorem RTwo_any (ad bd : Option Addr) (ca cb : Nat) (a b : List Tr) (w : World) (ha : SlT w ad a) (hb : SlT w bd b) (fa : ∀ x ∈ a, fitTr x) (fb : ∀ x ∈ b, fitTr x) (na : a.length ≤ 9223372036854775807) (nb : b.length ≤ 9223372036854775807) :
    Calls Tryz.prog 5 #[.slice ad a.length ca, .slice bd b.length cb] w fun e w' => e = .returned (.int .i64 (bothN a b)) ∧ RowKit.Below w.heap.size w w' := by
  have H1 := fun W hW => RSet_any ad ca a W hW fa na
  have H2 := fun W hW => RSet_any bd cb b W hW fb nb
  have fin : Hid (bothN a b = if sortedN a = 0 then sortedN b else sortedN a) := rfl
  have Ha : Hid (SlT w ad a) := ha
  have Hb : Hid (SlT w bd b) := hb
  generalize bothN a b = N at *
  generalize sortedN a = n at H1 fin
  generalize sortedN b = m at H2 fin
  clear ha hb fa fb na nb
  cases hn : (n == 0)
  · have f1 : Hid (N = n) := by have h : ¬ n = 0 := by simpa using hn
                                rw [fin.out, if_neg h]; rfl
    go_enter Tryz.func5, Tryz.ntmps5
    go_wp2_with fail
    refine (H1 _ Ha.out).mono ?_
    rintro e w1 ⟨rfl, hb1⟩
    go_wp2_with fail
    go_ret
    exact ⟨ret_i64 f1.out.symm, hb1⟩
  · have f1 : Hid (N = m) := by have h : n = 0 := by simpa using hn
                                rw [fin.out, if_pos h]; rfl
    go_enter Tryz.func5, Tryz.ntmps5
    go_wp2_with fail
    refine (H1 _ Ha.out).mono ?_
    rintro e w1 ⟨rfl, hb1⟩
    go_wp2_with fail
    refine (H2 _ (Hb.out.below hb1)).mono ?_
    rintro e w2 ⟨rfl, hb2⟩
    go_wp2_with fail
    go_ret
    exact ⟨ret_i64 f1.out.symm, bstep hb1 hb2⟩

set_option maxHeartbeats 2000000 in
set_option maxRecDepth 100000 in
theorem RUnionW_any (ad bd : Option Addr) (ca cb : Nat) (a b : List Tr) (w : World) (ha : SlT w ad a) (hb : SlT w bd b) (na : a.length ≤ 1000) (nb : b.length ≤ 1000) :
    Calls Tryz.prog 21 #[.slice ad a.length ca, .slice bd b.length cb] w fun e w' => ∃ (m : List Tr) (ad' : Option Addr) (c : Nat), e = .returned (.slice ad' m.length c) ∧ SlT w' ad' m ∧ JoinOf a b m ∧ RowKit.Below w.heap.size w w' := by
  have Ha : Hid (SlT w ad a) := ha
  have Hb : Hid (SlT w bd b) := hb
  have H : ∀ W am cm, SlT W am (a ++ b) → Calls Tryz.prog 45 #[.slice am (a.length + b.length) cm] W fun e w' => ∃ (m : List Tr) (ad' : Option Addr) (c : Nat), e = .returned (.slice ad' m.length c) ∧ SlT w' ad' m ∧ JoinOf a b m ∧ RowKit.Below W.heap.size W w' := by
    intro W am cm hW
    rw [← List.length_append]
    refine (RSorted_any am cm (a ++ b) W hW (by rw [List.length_append]; omega)).mono ?_
    rintro e w' ⟨m, ad', c, rfl, h1, h2, h3, _, h5⟩
    exact ⟨m, ad', c, rfl, h1, ⟨h2, fun x => by rw [h3, List.mem_append]⟩, h5⟩
  clear ha hb
  have hnil : Hid (w.ownsRow w.heap.size 44 9 (.slice none 0 0) ([] : List Tr).length (cellsT [])) := World.ownsRow_nil _ _ _ _
  generalize JoinOf a b = JO at *
  go_enter Tryz.func21, Tryz.ntmps21
  go_wp2_with (first
    | (at_builtin; refine wpList_append_list _ rfl _ _ rfl w.heap.size _ [] a ad ca rfl rfl hnil.out Ha.out (by simp; omega) (Nat.le_refl _) ?_; clear hnil; intro v1 w1 hown1 hb1
       have hown1' : Hid (w1.ownsRow w.heap.size 44 9 v1 a.length (cellsT a)) := hown1
       have hz1 := hb1.size
       clear hown1)
    | (at_builtin; refine wpList_append_list _ rfl _ _ rfl w.heap.size _ a b bd cb rfl rfl hown1'.out (Hb.out.below hb1) (by omega) hz1 ?_; intro v2 w2 hown2 hb2
       have hown2' : Hid (w2.ownsRow w.heap.size 44 9 v2 (a ++ b).length (cellsT (a ++ b))) := hown2
       obtain ⟨am, cm, hv2, hsl⟩ := own_slS hown2
       have Hsl : Hid (SlT w2 am (a ++ b)) := hsl
       rw [List.length_append] at hv2
       subst hv2
       clear hown2 hsl hown2' hown1'))
  have hB2 := hb1.trans hb2
  refine (H _ am cm Hsl.out).mono ?_
  rintro e w3 ⟨m, ad', c, rfl, h1, h2, h3⟩
  go_wp2_with fail
  go_ret
  exact ⟨m, ad', c, rfl, h1, h2, bstep hB2 h3⟩
theorem RUnion_any (ad bd : Option Addr) (ca cb : Nat) (a b : List Tr) (w : World) (ha : SlT w ad a) (hb : SlT w bd b) (na : a.length ≤ 200) (nb : b.length ≤ 200) :
    Calls Tryz.prog 21 #[.slice ad a.length ca, .slice bd b.length cb] w fun e w' => ∃ (m : List Tr) (ad' : Option Addr) (c : Nat), e = .returned (.slice ad' m.length c) ∧ SlT w' ad' m ∧ JoinOf a b m ∧ RowKit.Below w.heap.size w w' := RUnionW_any ad bd ca cb a b w ha hb (by omega) (by omega)
end Go.Proofs.YtifkcoappflenagGreatDoor

/- The document's answer (package strataref2): same, of, pairs. -/
namespace Go.Proofs.YtifkcoappflenagGreatDoor
open Go Go.RowKit Go.Proofs
set_option synthInstance.maxSize 1000

set_option maxHeartbeats 4000000 in
set_option maxRecDepth 100000 in
theorem RSame_any (ad bd : Option Addr) (ca cb : Nat) (a b : List Tr) (w : World) (ha : SlT w ad a) (hb : SlT w bd b) (na : a.length ≤ 1000000) (nb : b.length ≤ 1000000) :
    Calls Tryz.prog 23 #[.slice ad a.length ca, .slice bd b.length cb] w fun e w' => e = .returned (.bool (decide (a = b))) ∧ RowKit.Below w.heap.size w w' := by
  have Ha : Hid (SlT w ad a) := ha
  have Hb : Hid (SlT w bd b) := hb
  clear ha hb
  by_cases hl : a.length = b.length
  · have hfin : Hid ((∀ j (h1 : j < a.length) (h2 : j < b.length), a[j] = b[j]) → decide (a = b) = true) := fun h => by
      rw [decide_eq_true_eq]
      exact List.ext_getElem hl h
    rw [hl]
    have Hla : Hid (a.length = b.length) := hl
    rw [hl] at na
    clear hl
    go_enter Tryz.func23, Tryz.ntmps23
    go_wp2_with fail
    go_loopw [5] (fun i wr => ∃ k : Nat, k ≤ b.length ∧ i = .int .i64 k ∧ Hid (∀ j (h1 : j < a.length) (h2 : j < b.length), j < k → a[j] = b[j]) ∧ RowKit.Below w.heap.size w wr) (fun i wr => b.length - (intOf i).toNat)
    case atStart => exact ⟨0, Nat.zero_le _, rfl, fun j _ _ h => by omega, RowKit.Below.refl _ _⟩
    case round =>
      obtain ⟨k, hk, rfl, heq, hbr⟩ := hrel
      by_cases hlt : k < b.length
      · have hlt' : k < a.length := by have := Hla.out; omega
        obtain ⟨p, o, rfl, hr1⟩ := (Ha.out.below hbr).at k hlt'
        obtain ⟨q, r, rfl, hr2⟩ := (Hb.out.below hbr).at k hlt
        obtain ⟨c0, c1, c2, c3, c4, c5, c6, c7, c8⟩ := hr1.at k hlt'
        obtain ⟨d0, d1, d2, d3, d4, d5, d6, d7, d8⟩ := hr2.at k hlt
        have i0 : (0 : Int) ≤ (k : Int) := by omega
        have i1 : (k : Int) < (b.length : Int) := by omega
        have HC := fun W => ROrder_any a[k] b[k] W
        unfold valTr at HC
        have f0 : Hid (cmpTr a[k] b[k] ≠ 0 → decide (a = b) = false) := fun h => by
          rw [decide_eq_false_iff_not]
          intro e
          subst e
          exact h ((cmpTr_zero _ _).2 rfl)
        have f1 : Hid (cmpTr a[k] b[k] = 0 → ∀ j (h1 : j < a.length) (h2 : j < b.length), j < k + 1 → a[j] = b[j]) := fun h j h1 h2 hle => by
          rcases Nat.lt_or_eq_of_le (Nat.le_of_lt_succ hle) with h3 | h3
          · exact heq.out j h1 h2 h3
          · subst h3; exact (cmpTr_zero _ _).1 h
        generalize cmpTr a[k] b[k] = c at HC f0 f1
        generalize a[k] = y at *
        generalize b[k] = z at *
        clear hr1 hr2 hlt'
        cases hc : (c == 0)
        · go_wp2_with fail
          go_region_held3 (fun W => W.cell? ⟨p, o + k * 9, none⟩ = some (.int .i64 y.1.1) ∧ W.cell? ⟨p, o + k * 9 + 1, none⟩ = some (.string ⟨y.1.2.1.toArray⟩) ∧ W.cell? ⟨p, o + k * 9 + 2, none⟩ = some (.string ⟨y.1.2.2.toArray⟩) ∧ W.cell? ⟨p, o + k * 9 + 3, none⟩ = some (.int .i64 y.2.1.1) ∧ W.cell? ⟨p, o + k * 9 + 4, none⟩ = some (.string ⟨y.2.1.2.1.toArray⟩) ∧ W.cell? ⟨p, o + k * 9 + 5, none⟩ = some (.string ⟨y.2.1.2.2.toArray⟩) ∧ W.cell? ⟨p, o + k * 9 + 6, none⟩ = some (.int .i64 y.2.2.1) ∧ W.cell? ⟨p, o + k * 9 + 7, none⟩ = some (.string ⟨y.2.2.2.1.toArray⟩) ∧ W.cell? ⟨p, o + k * 9 + 8, none⟩ = some (.string ⟨y.2.2.2.2.toArray⟩) ∧ W.cell? ⟨q, r + k * 9, none⟩ = some (.int .i64 z.1.1) ∧ W.cell? ⟨q, r + k * 9 + 1, none⟩ = some (.string ⟨z.1.2.1.toArray⟩) ∧ W.cell? ⟨q, r + k * 9 + 2, none⟩ = some (.string ⟨z.1.2.2.toArray⟩) ∧ W.cell? ⟨q, r + k * 9 + 3, none⟩ = some (.int .i64 z.2.1.1) ∧ W.cell? ⟨q, r + k * 9 + 4, none⟩ = some (.string ⟨z.2.1.2.1.toArray⟩) ∧ W.cell? ⟨q, r + k * 9 + 5, none⟩ = some (.string ⟨z.2.1.2.2.toArray⟩) ∧ W.cell? ⟨q, r + k * 9 + 6, none⟩ = some (.int .i64 z.2.2.1) ∧ W.cell? ⟨q, r + k * 9 + 7, none⟩ = some (.string ⟨z.2.2.2.1.toArray⟩) ∧ W.cell? ⟨q, r + k * 9 + 8, none⟩ = some (.string ⟨z.2.2.2.2.toArray⟩)) (first | exact keep18b (by assumption) hb2 | go_keep) (first
          | (go_at_call 19; refine (HC _).mono ?_; rintro e w2 ⟨rfl, hb2⟩))
          go_wp2
          go_ret
          exact ⟨ret_bool (f0.out (by simpa using hc)).symm, bstep hbr.drew hb2⟩
        · go_wp2_with fail
          go_region_held3 (fun W => W.cell? ⟨p, o + k * 9, none⟩ = some (.int .i64 y.1.1) ∧ W.cell? ⟨p, o + k * 9 + 1, none⟩ = some (.string ⟨y.1.2.1.toArray⟩) ∧ W.cell? ⟨p, o + k * 9 + 2, none⟩ = some (.string ⟨y.1.2.2.toArray⟩) ∧ W.cell? ⟨p, o + k * 9 + 3, none⟩ = some (.int .i64 y.2.1.1) ∧ W.cell? ⟨p, o + k * 9 + 4, none⟩ = some (.string ⟨y.2.1.2.1.toArray⟩) ∧ W.cell? ⟨p, o + k * 9 + 5, none⟩ = some (.string ⟨y.2.1.2.2.toArray⟩) ∧ W.cell? ⟨p, o + k * 9 + 6, none⟩ = some (.int .i64 y.2.2.1) ∧ W.cell? ⟨p, o + k * 9 + 7, none⟩ = some (.string ⟨y.2.2.2.1.toArray⟩) ∧ W.cell? ⟨p, o + k * 9 + 8, none⟩ = some (.string ⟨y.2.2.2.2.toArray⟩) ∧ W.cell? ⟨q, r + k * 9, none⟩ = some (.int .i64 z.1.1) ∧ W.cell? ⟨q, r + k * 9 + 1, none⟩ = some (.string ⟨z.1.2.1.toArray⟩) ∧ W.cell? ⟨q, r + k * 9 + 2, none⟩ = some (.string ⟨z.1.2.2.toArray⟩) ∧ W.cell? ⟨q, r + k * 9 + 3, none⟩ = some (.int .i64 z.2.1.1) ∧ W.cell? ⟨q, r + k * 9 + 4, none⟩ = some (.string ⟨z.2.1.2.1.toArray⟩) ∧ W.cell? ⟨q, r + k * 9 + 5, none⟩ = some (.string ⟨z.2.1.2.2.toArray⟩) ∧ W.cell? ⟨q, r + k * 9 + 6, none⟩ = some (.int .i64 z.2.2.1) ∧ W.cell? ⟨q, r + k * 9 + 7, none⟩ = some (.string ⟨z.2.2.2.1.toArray⟩) ∧ W.cell? ⟨q, r + k * 9 + 8, none⟩ = some (.string ⟨z.2.2.2.2.toArray⟩)) (first | exact keep18b (by assumption) hb2 | go_keep) (first
          | (go_at_call 19; refine (HC _).mono ?_; rintro e w2 ⟨rfl, hb2⟩))
          go_wp2
          exact ⟨⟨k + 1, by omega, by go_num, f1.out (by simpa using hc), bstep hbr.drew hb2⟩, by simp [intOf]; omega⟩
      · obtain rfl : k = b.length := by omega
        go_wp2_with fail
        go_ret
        exact ⟨ret_bool (hfin.out fun j h1 h2 => heq.out j h1 h2 h2).symm, hbr⟩
  · have hne : Hid (decide (a = b) = false) := by show _ = _; rw [decide_eq_false_iff_not]; intro h; exact hl (by rw [h])
    go_enter Tryz.func23, Tryz.ntmps23
    go_wp2_with fail
    go_ret
    exact ⟨ret_bool hne.out.symm, RowKit.Below.refl _ _⟩

theorem keep15b {W W' : World} {p0 p1 p2 p3 p4 p5 p6 p7 p8 p9 p10 p11 p12 p13 p14 : Addr} {v0 v1 v2 v3 v4 v5 v6 v7 v8 v9 v10 v11 v12 v13 v14 : Value}
    (h : W.cell? p0 = some v0 ∧ W.cell? p1 = some v1 ∧ W.cell? p2 = some v2 ∧ W.cell? p3 = some v3 ∧ W.cell? p4 = some v4 ∧ W.cell? p5 = some v5 ∧ W.cell? p6 = some v6 ∧ W.cell? p7 = some v7 ∧ W.cell? p8 = some v8 ∧ W.cell? p9 = some v9 ∧ W.cell? p10 = some v10 ∧ W.cell? p11 = some v11 ∧ W.cell? p12 = some v12 ∧ W.cell? p13 = some v13 ∧ W.cell? p14 = some v14) (hb : RowKit.Below W.heap.size W W') : W'.cell? p0 = some v0 ∧ W'.cell? p1 = some v1 ∧ W'.cell? p2 = some v2 ∧ W'.cell? p3 = some v3 ∧ W'.cell? p4 = some v4 ∧ W'.cell? p5 = some v5 ∧ W'.cell? p6 = some v6 ∧ W'.cell? p7 = some v7 ∧ W'.cell? p8 = some v8 ∧ W'.cell? p9 = some v9 ∧ W'.cell? p10 = some v10 ∧ W'.cell? p11 = some v11 ∧ W'.cell? p12 = some v12 ∧ W'.cell? p13 = some v13 ∧ W'.cell? p14 = some v14 := by
  have q : ∀ (p : Addr) (v : Value), W.cell? p = some v → W'.cell? p = some v := fun p v hv => (hb.cell (World.block_lt_of_cell? W p hv)).trans hv
  obtain ⟨h0, h1, h2, h3, h4, h5, h6, h7, h8, h9, h10, h11, h12, h13, h14⟩ := h
  exact ⟨q _ _ h0, q _ _ h1, q _ _ h2, q _ _ h3, q _ _ h4, q _ _ h5, q _ _ h6, q _ _ h7, q _ _ h8, q _ _ h9, q _ _ h10, q _ _ h11, q _ _ h12, q _ _ h13, q _ _ h14⟩
theorem ofL_step (l : List Tr) (p : Pr) (k : Nat) (h : k < l.length) : ofL (l.take (k + 1)) p = ofL (l.take k) p ++ (if pairOf l[k] = p then [l[k]] else []) := by
  unfold ofL
  rw [filter_stepP l _ k h]
  by_cases e : pairOf l[k] = p <;> simp [e]

end Go.Proofs.YtifkcoappflenagGreatDoor

/- The document's answer (package strataref2): of. -/
namespace Go.Proofs.YtifkcoappflenagGreatDoor
open Go Go.RowKit Go.Proofs
set_option synthInstance.maxSize 1000

set_option maxHeartbeats 32000000 in
set_option maxRecDepth 100000 in
theorem ROfO_any (ad : Option Addr) (ca : Nat) (l : List Tr) (p : Pr) (w : World) (hl : SlT w ad l) (nl : l.length ≤ 1000) :
    Calls Tryz.prog 22 #[.slice ad l.length ca, valP p] w fun e w' => ∃ ad' c, e = .returned (.slice ad' (ofL l p).length c) ∧ SlT w' ad' (ofL l p) ∧ RowKit.Below w.heap.size w w' ∧ ∃ B, w'.ownsRow B 44 9 (.slice ad' (ofL l p).length c) (ofL l p).length (cellsT (ofL l p)) := by
  obtain ⟨B0, hB0⟩ : ∃ B0, B0 = w.alloc (.cells #[.int .i64 p.1.1, .string ⟨p.1.2.1.toArray⟩, .string ⟨p.1.2.2.toArray⟩, .int .i64 p.2.1, .string ⟨p.2.2.1.toArray⟩, .string ⟨p.2.2.2.toArray⟩] 55) := ⟨_, rfl⟩
  have hw0 : RowKit.Below w.heap.size w B0 := by rw [hB0]; exact balloc _ _
  have HX : Hid (∀ W, RowKit.Below B0.heap.size B0 W → SlT W ad l ∧ RowKit.Below w.heap.size w W) := fun W h => ⟨hl.below (bstep hw0 h), bstep hw0 h⟩
  have HC : Hid (∀ W, RowKit.Below B0.heap.size B0 W → W.cell? ⟨w.heap.size, 0, none⟩ = some (.int .i64 p.1.1) ∧ W.cell? ⟨w.heap.size, 1, none⟩ = some (.string ⟨p.1.2.1.toArray⟩) ∧ W.cell? ⟨w.heap.size, 2, none⟩ = some (.string ⟨p.1.2.2.toArray⟩) ∧ W.cell? ⟨w.heap.size, 3, none⟩ = some (.int .i64 p.2.1) ∧ W.cell? ⟨w.heap.size, 4, none⟩ = some (.string ⟨p.2.2.1.toArray⟩) ∧ W.cell? ⟨w.heap.size, 5, none⟩ = some (.string ⟨p.2.2.2.toArray⟩) ∧ w.heap.size < W.heap.size) := fun W h => by
    have b0 : B0.cell? ⟨w.heap.size, 0, none⟩ = some (.int .i64 p.1.1) := by rw [hB0]; go_simp
    have b1 : B0.cell? ⟨w.heap.size, 1, none⟩ = some (.string ⟨p.1.2.1.toArray⟩) := by rw [hB0]; go_simp
    have b2 : B0.cell? ⟨w.heap.size, 2, none⟩ = some (.string ⟨p.1.2.2.toArray⟩) := by rw [hB0]; go_simp
    have b3 : B0.cell? ⟨w.heap.size, 3, none⟩ = some (.int .i64 p.2.1) := by rw [hB0]; go_simp
    have b4 : B0.cell? ⟨w.heap.size, 4, none⟩ = some (.string ⟨p.2.2.1.toArray⟩) := by rw [hB0]; go_simp
    have b5 : B0.cell? ⟨w.heap.size, 5, none⟩ = some (.string ⟨p.2.2.2.toArray⟩) := by rw [hB0]; go_simp
    have q : ∀ ad v, B0.cell? ad = some v → W.cell? ad = some v := fun ad v hv => (h.cell (World.block_lt_of_cell? _ _ hv)).trans hv
    exact ⟨q _ _ b0, q _ _ b1, q _ _ b2, q _ _ b3, q _ _ b4, q _ _ b5, World.block_lt_of_cell? _ _ (q _ _ b0)⟩
  clear hl hw0
  obtain ⟨i0, hi, hz⟩ := Option.map_eq_some_iff.1 infoTr
  simp only [Prod.mk.injEq] at hz
  obtain ⟨hz0, hz1, hz2⟩ := hz
  unfold valP
  go_enter Tryz.func22, Tryz.ntmps22
  go_wp2_with fail
  rw [← hB0]
  clear hB0
  go_loopw [5, 6] (fun v i wr => ∃ k : Nat, k ≤ l.length ∧ i = .int .i64 k ∧ Hid (wr.ownsRow B0.heap.size 44 9 v (ofL (l.take k) p).length (cellsT (ofL (l.take k) p))) ∧ RowKit.Below B0.heap.size B0 wr) (fun _ i wr => l.length - (intOf i).toNat)
  case atStart => exact ⟨0, Nat.zero_le _, rfl, by show World.ownsRow _ _ _ _ _ _ _; rw [List.take_zero]; exact World.ownsRow_nil _ _ _ _, RowKit.Below.refl _ _⟩
  case round =>
    obtain ⟨k, hk, rfl, hown, hbr⟩ := hrel
    by_cases hlt : k < l.length
    · obtain ⟨g, o, rfl, hr⟩ := (HX.out _ hbr).1.at k hlt
      obtain ⟨c0, c1, c2, c3, c4, c5, c6, c7, c8⟩ := hr.at k hlt
      obtain ⟨e0, e1, e2, e3, e4, e5, hz9⟩ := HC.out _ hbr
      have Hr : Hid (RowR wr g o l) := hr
      have i0' : (0 : Int) ≤ (k : Int) := by omega
      have i1 : (k : Int) < (l.length : Int) := by omega
      have hstep : Hid _ := ofL_step l p k hlt
      have hfil : (ofL (l.take k) p).length ≤ k := Nat.le_trans (ofL_len _ _) (by simp; omega)
      have hzr := hbr.size
      obtain ⟨y, hy⟩ : ∃ y, y = l[k] := ⟨_, rfl⟩
      have Hy : Hid (y = l[k]) := hy
      rw [← hy] at hstep c0 c1 c2 c3 c4 c5 c6 c7 c8
      have H1 := fun W => RCompare_any y.1.1 y.1.2.1 y.1.2.2 p.1.1 p.1.2.1 p.1.2.2 W
      have H2 := fun W => RCompare_any y.2.1.1 y.2.1.2.1 y.2.1.2.2 p.2.1 p.2.2.1 p.2.2.2 W
      have hcp : Hid (pairOf y = p ↔ cmpT y.1.1 y.1.2.1 y.1.2.2 p.1.1 p.1.2.1 p.1.2.2 = 0 ∧ cmpT y.2.1.1 y.2.1.2.1 y.2.1.2.2 p.2.1 p.2.2.1 p.2.2.2 = 0) := cmpT_pair y p
      generalize cmpT y.1.1 y.1.2.1 y.1.2.2 p.1.1 p.1.2.1 p.1.2.2 = d1 at H1 hcp
      generalize cmpT y.2.1.1 y.2.1.2.1 y.2.1.2.2 p.2.1 p.2.2.1 p.2.2.2 = d2 at H2 hcp
      generalize ht : ofL (l.take (k + 1)) p = t1 at hstep
      have Ht : Hid _ := ht
      generalize ofL (l.take k) p = t0 at *
      clear hr ht hy
      have hne := lat_some wr
      have q0 := lat_cell c0
      have q1 := lat_cell c1
      have q2 := lat_cell c2
      have q3 := lat_cell c3
      have q4 := lat_cell c4
      have q5 := lat_cell c5
      have q6 := lat_cell c6
      have q7 := lat_cell c7
      have q8 := lat_cell c8
      have r0 := lat_cell e0
      have r1 := lat_cell e1
      have r2 := lat_cell e2
      have r3 := lat_cell e3
      have r4 := lat_cell e4
      have r5 := lat_cell e5
      clear c0 c1 c2 c3 c4 c5 c6 c7 c8 e0 e1 e2 e3 e4 e5
      by_cases h1 : d1 = 0
      · subst h1
        by_cases h2 : d2 = 0
        · have hs2 : Hid (t1 = t0 ++ [y]) := by have := hstep.out; rw [if_pos (hcp.out.2 ⟨rfl, h2⟩)] at this; exact this
          subst h2
          clear hstep hcp
          go_wp2_with fail
          refine lat_region (by kernel_rfl) (by kernel_rfl) ?_
          repeat (go_big_quiet_step (fail))
          go_big_quiet_step (exact lat_call (H1 _))
          repeat (go_big_quiet_step (fail))
          go_big_quiet_step (exact lat_call (H2 _))
          repeat (go_big_quiet_step (fail))
          refine wpQuiet_nil ?_
          intro w2 hw'
          have hW : RowKit.Below wr.heap.size wr w2 := by obtain ⟨nW, rfl⟩ := hw'; exact nW.low
          clear hw'
          have hrow1 : Hid (w2.ownsRow B0.heap.size 44 9 _ t0.length (cellsT t0)) := ownsRow_belowS hown.out hW
          have hB1 := bstep hbr hW
          have hz1' := hB1.size
          clear hown hz9 H1 H2 q0 q1 q2 q3 q4 q5 q6 q7 q8 r0 r1 r2 r3 r4 r5
          obtain ⟨c0, c1, c2, c3, c4, c5, c6, c7, c8⟩ := (Hr.out.below hW).at k hlt
          rw [← Hy.out] at c0 c1 c2 c3 c4 c5 c6 c7 c8
          go_wp2_with (at_builtin; refine wpList_append_own _ rfl _ _ 22 rfl B0.heap.size 44 i0 (.agg (encTr zeroTr).toArray) 9 120 Tryz.underlying22 hi hz0 hz1 hz2 rfl (by decide) _ _ _ rfl (hrow1.out.alloc _) ⟨w2.heap.size, 0, none⟩ 1 1 (encTr y) rfl rfl ?c1 ?c2 ?c3 ?c4 ?c5 ?_)
          case c1 =>
            intro i u hi'
            have h9 : i < 9 := (List.getElem?_eq_some_iff.1 hi').1
            rw [Addr.add_lit]
            rcases (by omega : i = 0 ∨ i = 1 ∨ i = 2 ∨ i = 3 ∨ i = 4 ∨ i = 5 ∨ i = 6 ∨ i = 7 ∨ i = 8) with rfl | rfl | rfl | rfl | rfl | rfl | rfl | rfl | rfl
            all_goals
              simp [encTr] at hi'
              subst hi'
              go_simp
          case c2 => exact encTr_one y
          case c3 => unfold maxLen; omega
          case c4 => omega
          case c5 => simp; omega
          intro v' w9 hown' hgrow _
          have hbel := (hB1.alloc hz1' (.cells (encTr y).toArray 44)).grown hgrow (by simp; omega) (fun k hk => (hrow1.out.lt k hk).1)
          go_wp2_with fail
          go_roundw
          case rel =>
            refine ⟨k + 1, by omega, by go_num, ?_, hbel⟩
            show World.ownsRow _ _ _ _ _ _ _
            rw [Ht.out, hs2.out]
            simpa [cellsT] using hown'
          case measure => simp [intOf]; omega
        · have hs2 : Hid (t1 = t0) := by have := hstep.out; rw [if_neg (fun h => h2 (hcp.out.1 h).2)] at this; simpa [Hid] using this
          have h2' : (d2 == 0) = false := by simpa using h2
          clear hstep hcp
          go_wp2_with fail
          refine lat_region (by kernel_rfl) (by kernel_rfl) ?_
          repeat (go_big_quiet_step (fail))
          go_big_quiet_step (exact lat_call (H1 _))
          repeat (go_big_quiet_step (fail))
          go_big_quiet_step (exact lat_call (H2 _))
          repeat (go_big_quiet_step (fail))
          refine wpQuiet_nil ?_
          intro w2 hw'
          have hW : RowKit.Below wr.heap.size wr w2 := by obtain ⟨nW, rfl⟩ := hw'; exact nW.low
          clear hw'
          go_wp2_with fail
          go_roundw
          case rel =>
            refine ⟨k + 1, by omega, by go_num, ?_, bstep hbr hW⟩
            show World.ownsRow _ _ _ _ _ _ _
            rw [Ht.out, hs2.out]
            exact ownsRow_belowS hown.out hW
          case measure => simp [intOf]; omega
      · have hs2 : Hid (t1 = t0) := by have := hstep.out; rw [if_neg (fun h => h1 (hcp.out.1 h).1)] at this; simpa [Hid] using this
        have h1' : (d1 == 0) = false := by simpa using h1
        clear hstep hcp
        go_wp2_with fail
        refine lat_region (by kernel_rfl) (by kernel_rfl) ?_
        repeat (go_big_quiet_step (fail))
        go_big_quiet_step (exact lat_call (H1 _))
        repeat (go_big_quiet_step (fail))
        refine wpQuiet_nil ?_
        intro w2 hw'
        have hW : RowKit.Below wr.heap.size wr w2 := by obtain ⟨nW, rfl⟩ := hw'; exact nW.low
        clear hw'
        go_wp2_with fail
        go_roundw
        case rel =>
          refine ⟨k + 1, by omega, by go_num, ?_, bstep hbr hW⟩
          show World.ownsRow _ _ _ _ _ _ _
          rw [Ht.out, hs2.out]
          exact ownsRow_belowS hown.out hW
        case measure => simp [intOf]; omega
    · obtain rfl : k = l.length := by omega
      have hown' := hown.out
      rw [List.take_length] at hown'
      obtain ⟨ad', cap', rfl, hsl⟩ := own_slS hown'
      have Hsl : Hid _ := hsl
      have Hon : Hid (∃ B, wr.ownsRow B 44 9 (.slice ad' (ofL l p).length cap') (ofL l p).length (cellsT (ofL l p))) := ⟨_, hown'⟩
      clear hown' hown hsl
      go_wp2_with fail
      go_ret
      exact ⟨ad', cap', rfl, Hsl.out, (HX.out _ hbr).2, Hon.out⟩

theorem ROf_any (ad : Option Addr) (ca : Nat) (l : List Tr) (p : Pr) (w : World) (hl : SlT w ad l) (nl : l.length ≤ 1000) :
    Calls Tryz.prog 22 #[.slice ad l.length ca, valP p] w fun e w' => ∃ ad' c, e = .returned (.slice ad' (ofL l p).length c) ∧ SlT w' ad' (ofL l p) ∧ RowKit.Below w.heap.size w w' :=
  (ROfO_any ad ca l p w hl nl).mono fun _ _ ⟨ad', c, h1, h2, h3, _⟩ => ⟨ad', c, h1, h2, h3⟩
end Go.Proofs.YtifkcoappflenagGreatDoor
