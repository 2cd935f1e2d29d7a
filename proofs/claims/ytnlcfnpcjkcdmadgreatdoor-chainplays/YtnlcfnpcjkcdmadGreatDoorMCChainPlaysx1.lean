import Derived.Test.YtnlcfnpcjkcdmadGreatDoorMCChainPlaysx0
import Derived.OwnWalk
import Derived.Laws.Rows
import Derived.Test.YtnlcfnpcjkcdmadGreatDoorMA0x2
import Derived.Deep.RegionHeld3
import Derived.Test.YtnlcfnpcjkcdmadGreatDoorMA0x3

/- The document's answer (package strataref1): Sorted: each once, rising, one put in behind the other. -/
namespace Go.Proofs.YtnlcfnpcjkcdmadGreatDoor
open Go Go.RowKit Go.Proofs
set_option synthInstance.maxSize 1000

/-! ### a row of one's own, one triple of it written -/
theorem own_set1 {W : World} {base g cap n sz p : Nat} {e : TypeId} {xs : List Value} (h : W.ownsRow base e sz (.slice (some ⟨g, 0, none⟩) n cap) n xs) (u : Value) :
    (W.setCell ⟨g, p, none⟩ u).ownsRow base e sz (.slice (some ⟨g, 0, none⟩) n cap) n (xs.set p u) := by
  obtain ⟨h1, h2⟩ := h
  refine ⟨by simpa using h1, ?_⟩
  rcases h2 with ⟨h2, _⟩ | ⟨g', cap', cur, hv, hb, hg, hle, hm, hs, ht⟩
  · simp at h2
  · simp only [Value.slice.injEq, Option.some.injEq, Addr.mk.injEq, and_true, true_and] at hv
    obtain ⟨rfl, rfl⟩ := hv
    refine Or.inr ⟨g, cap, cur.setIfInBounds p u, rfl, hb, heap_setCell_same W g p cur e u hg, hle, hm, by simpa using hs, ?_⟩
    rw [Array.toList_setIfInBounds, List.take_set, ht]

theorem own_set {W : World} {base g cap : Nat} {t : List Tr} (h : W.ownsRow base 88 9 (.slice (some ⟨g, 0, none⟩) t.length cap) t.length (cellsT t)) (j : Nat) (x : Tr) :
    (W.setCells g (j * 9) (encTr x)).ownsRow base 88 9 (.slice (some ⟨g, 0, none⟩) t.length cap) t.length (cellsT (t.set j x)) := by
  have key : ∀ (vs : List Value) (p : Nat) (W : World) (xs : List Value), W.ownsRow base 88 9 (.slice (some ⟨g, 0, none⟩) t.length cap) t.length xs →
      ∃ ys, (W.setCells g p vs).ownsRow base 88 9 (.slice (some ⟨g, 0, none⟩) t.length cap) t.length ys ∧ ∀ q, ys[q]? = if p ≤ q ∧ q < p + vs.length ∧ q < xs.length then vs[q - p]? else xs[q]? := by
    intro vs
    induction vs with
    | nil => intro p W xs h; exact ⟨xs, h, fun q => by rw [if_neg (by simp; omega)]⟩
    | cons v r ih =>
      intro p W xs h
      obtain ⟨ys, hy, hq⟩ := ih (p + 1) _ _ (own_set1 (p := p) h v)
      refine ⟨ys, hy, fun q => ?_⟩
      rw [hq q]
      simp only [List.length_set, List.length_cons, List.getElem?_set]
      by_cases e1 : p = q
      · subst e1
        by_cases e2 : p < xs.length
        · rw [if_neg (by omega), if_pos rfl, if_pos e2, if_pos (by omega)]; simp
        · rw [if_neg (by omega), if_pos rfl, if_neg e2, if_neg (by omega)]; simp; omega
      · by_cases e2 : p + 1 ≤ q ∧ q < p + 1 + r.length ∧ q < xs.length
        · rw [if_pos e2, if_pos (by omega), show q - p = (q - (p + 1)) + 1 by omega]; simp
        · rw [if_neg e2, if_neg e1, if_neg (by omega)]
  obtain ⟨ys, hy, hq⟩ := key (encTr x) (j * 9) W _ h
  have e : ys = cellsT (t.set j x) := by
    apply List.ext_getElem?
    intro q
    rw [hq q, encTr_len, cellsT_len]
    by_cases hq9 : q < t.length * 9
    · have c1 := cellsT_at (t.set j x) (q / 9) (by rw [List.length_set]; omega) (q % 9) (by omega)
      have c2 := cellsT_at t (q / 9) (by omega) (q % 9) (by omega)
      rw [show q / 9 * 9 + q % 9 = q by omega] at c1 c2
      rw [c1, c2]
      by_cases hj' : q / 9 = j
      · rw [if_pos (by omega)]
        rw [show q - j * 9 = q % 9 by omega]
        congr 1
        simp [hj']
      · rw [if_neg (by omega)]
        congr 1
        rw [List.getElem_set_ne (by omega)]
    · rw [if_neg (by omega), List.getElem?_eq_none (by rw [cellsT_len]; omega), List.getElem?_eq_none (by rw [cellsT_len, List.length_set]; omega)]
  rw [← e]
  exact hy

theorem own_row {W : World} {base g cap n : Nat} {t : List Tr} (h : W.ownsRow base 88 9 (.slice (some ⟨g, 0, none⟩) n cap) t.length (cellsT t)) : RowR W g 0 t := fun j u hj => by
  have := h.cells (g := g) rfl j u hj
  rwa [Addr.add_lit] at this
theorem own_at {W : World} {base g cap n : Nat} {t : List Tr} (h : W.ownsRow base 88 9 (.slice (some ⟨g, 0, none⟩) n cap) t.length (cellsT t)) (i : Nat) (hi : i < t.length) :
    W.cell? ⟨g, i * 9, none⟩ = some (.int .i64 t[i].1.1) ∧ W.cell? ⟨g, i * 9 + 1, none⟩ = some (.string ⟨t[i].1.2.1.toArray⟩) ∧ W.cell? ⟨g, i * 9 + 2, none⟩ = some (.string ⟨t[i].1.2.2.toArray⟩)
    ∧ W.cell? ⟨g, i * 9 + 3, none⟩ = some (.int .i64 t[i].2.1.1) ∧ W.cell? ⟨g, i * 9 + 4, none⟩ = some (.string ⟨t[i].2.1.2.1.toArray⟩) ∧ W.cell? ⟨g, i * 9 + 5, none⟩ = some (.string ⟨t[i].2.1.2.2.toArray⟩)
    ∧ W.cell? ⟨g, i * 9 + 6, none⟩ = some (.int .i64 t[i].2.2.1) ∧ W.cell? ⟨g, i * 9 + 7, none⟩ = some (.string ⟨t[i].2.2.2.1.toArray⟩) ∧ W.cell? ⟨g, i * 9 + 8, none⟩ = some (.string ⟨t[i].2.2.2.2.toArray⟩) := by
  have := (own_row h).at i hi
  simp only [Nat.zero_add] at this
  exact this
theorem own_some {W : World} {base g cap n : Nat} {t : List Tr} (h : W.ownsRow base 88 9 (.slice (some ⟨g, 0, none⟩) n cap) t.length (cellsT t)) (i : Nat) (hi : i < t.length) :
    ∃ z : Tr, W.cell? ⟨g, i * 9, none⟩ = some (.int .i64 z.1.1) ∧ W.cell? ⟨g, i * 9 + 1, none⟩ = some (.string ⟨z.1.2.1.toArray⟩) ∧ W.cell? ⟨g, i * 9 + 2, none⟩ = some (.string ⟨z.1.2.2.toArray⟩)
    ∧ W.cell? ⟨g, i * 9 + 3, none⟩ = some (.int .i64 z.2.1.1) ∧ W.cell? ⟨g, i * 9 + 4, none⟩ = some (.string ⟨z.2.1.2.1.toArray⟩) ∧ W.cell? ⟨g, i * 9 + 5, none⟩ = some (.string ⟨z.2.1.2.2.toArray⟩)
    ∧ W.cell? ⟨g, i * 9 + 6, none⟩ = some (.int .i64 z.2.2.1) ∧ W.cell? ⟨g, i * 9 + 7, none⟩ = some (.string ⟨z.2.2.2.1.toArray⟩) ∧ W.cell? ⟨g, i * 9 + 8, none⟩ = some (.string ⟨z.2.2.2.2.toArray⟩) := ⟨t[i], own_at h i hi⟩
theorem own_thaw {W : World} {base g cap n m : Nat} {xs : List Value} (h : W.ownsRow base 88 9 (.slice (some ⟨g, 0, none⟩) n cap) m xs) (p : Nat) : W.frozen? ⟨g, p, none⟩ = false := by
  rcases h.2 with ⟨h2, _⟩ | ⟨g', cap', cur, hv, hb, hg, _⟩
  · simp at h2
  · simp only [Value.slice.injEq, Option.some.injEq, Addr.mk.injEq, and_true] at hv
    obtain ⟨rfl, _⟩ := hv
    simp [World.frozen?, hg]
theorem own_thaw9 {W : World} {base g cap n m : Nat} {xs : List Value} (h : W.ownsRow base 88 9 (.slice (some ⟨g, 0, none⟩) n cap) m xs) (j : Nat) : W.frozen? ⟨g, j * 9, none⟩ = false ∧ W.frozen? ⟨g, j * 9 + 1, none⟩ = false ∧ W.frozen? ⟨g, j * 9 + 2, none⟩ = false ∧ W.frozen? ⟨g, j * 9 + 3, none⟩ = false ∧ W.frozen? ⟨g, j * 9 + 4, none⟩ = false ∧ W.frozen? ⟨g, j * 9 + 5, none⟩ = false ∧ W.frozen? ⟨g, j * 9 + 6, none⟩ = false ∧ W.frozen? ⟨g, j * 9 + 7, none⟩ = false ∧ W.frozen? ⟨g, j * 9 + 8, none⟩ = false := ⟨own_thaw h _, own_thaw h _, own_thaw h _, own_thaw h _, own_thaw h _, own_thaw h _, own_thaw h _, own_thaw h _, own_thaw h _⟩
theorem below_set9 {w W : World} {g p : Nat} {x : Tr} (hb : RowKit.Below w.heap.size w W) (hg : w.heap.size ≤ g) : RowKit.Below w.heap.size w (W.setCells g p (encTr x)) :=
  ((((((((hb.setCell (p := ⟨g, p, none⟩) hg _).setCell (p := ⟨g, p + 1, none⟩) hg _).setCell (p := ⟨g, p + 2, none⟩) hg _).setCell (p := ⟨g, p + 3, none⟩) hg _).setCell (p := ⟨g, p + 4, none⟩) hg _).setCell (p := ⟨g, p + 5, none⟩) hg _).setCell (p := ⟨g, p + 6, none⟩) hg _).setCell (p := ⟨g, p + 7, none⟩) hg _).setCell (p := ⟨g, p + 8, none⟩) hg _

theorem own_slS {W : World} {base : Nat} {e : TypeId} {v : Value} {t : List Tr} (h : W.ownsRow base e 9 v t.length (cellsT t)) : ∃ ad cap, v = .slice ad t.length cap ∧ SlT W ad t := by
  have h' := h
  rcases h.2 with ⟨rfl, h0⟩ | ⟨g, cap, cur, rfl, _⟩
  · exact ⟨none, 0, by rw [h0], fun hne => absurd (List.eq_nil_of_length_eq_zero h0) hne⟩
  · refine ⟨some ⟨g, 0, none⟩, cap, rfl, fun _ => ⟨g, 0, rfl, fun j u hj => ?_⟩⟩
    have := h'.cells (g := g) rfl j u hj
    rwa [Addr.add_lit] at this
theorem ownsRow_belowS {W W' : World} {base : Nat} {e : TypeId} {sz : Nat} {v : Value} {n : Nat} {cs : List Value} (h : W.ownsRow base e sz v n cs) (hb : RowKit.Below W.heap.size W W') : W'.ownsRow base e sz v n cs :=
  h.kept (row := none) ⟨hb.os, hb.tape, hb.output, hb.size, fun i hi _ => hb.block i hi⟩ (Classical.em _)

theorem own_succ {W : World} {base : Nat} {e : TypeId} {sz n : Nat} {v : Value} {xs : List Value} (h : W.ownsRow base e sz v (n + 1) xs) : ∃ g cap, v = .slice (some ⟨g, 0, none⟩) (n + 1) cap := by
  rcases h.2 with ⟨_, h0⟩ | ⟨g, cap, cur, rfl, _⟩
  · omega
  · exact ⟨g, cap, rfl⟩

theorem wrapS (n : Nat) (h : n ≤ 1000000) : IntKind.i64.wrap (n : Int) = n := by simp [IntKind.wrap, IntKind.bits, IntKind.signed]; omega

/-! ### where one is put in -/
theorem ins_set (t : List Tr) (j : Nat) (y z : Tr) (hj : j ≤ t.length) : (t.take j ++ y :: t.drop j).set j z = t.take j ++ z :: t.drop j := by
  rw [List.set_append_right _ _ (by simp; omega)]
  simp [Nat.min_eq_left hj]
theorem ins_shift (t : List Tr) (j : Nat) (hj : j + 1 ≤ t.length) : t.take (j + 1) ++ t[j] :: t.drop (j + 1) = t.take j ++ t[j] :: t.drop j := by
  rw [List.take_succ_eq_append_getElem (by omega), List.drop_eq_getElem_cons (i := j) (by omega), List.append_assoc]
  rfl
theorem ins_at (t : List Tr) (j : Nat) (y : Tr) (hj : j + 1 ≤ t.length) : (t.take (j + 1) ++ y :: t.drop (j + 1))[j]'(by simp; omega) = t[j] := by
  rw [List.getElem_append_left (by simp; omega), List.getElem_take]
theorem ins_len (t : List Tr) (j : Nat) (y : Tr) (hj : j ≤ t.length) : (t.take j ++ y :: t.drop j).length = t.length + 1 := by simp; omega
theorem ins_mem (t : List Tr) (k : Nat) (y x : Tr) : x ∈ t.take k ++ y :: t.drop k ↔ x ∈ t ∨ x = y := by
  constructor
  · intro h
    rcases List.mem_append.1 h with h | h
    · exact Or.inl (List.mem_of_mem_take h)
    · rcases List.mem_cons.1 h with h | h
      · exact Or.inr h
      · exact Or.inl (List.mem_of_mem_drop h)
  · rintro (h | h)
    · rw [← List.take_append_drop k t] at h
      rcases List.mem_append.1 h with h | h
      · exact List.mem_append.2 (Or.inl h)
      · exact List.mem_append.2 (Or.inr (List.mem_cons.2 (Or.inr h)))
    · exact List.mem_append.2 (Or.inr (List.mem_cons.2 (Or.inl h)))
theorem ins_rising (t : List Tr) (k : Nat) (y : Tr) (hr : Rising t) (hlo : ∀ m (hm : m < t.length), m < k → cmpTr t[m] y < 0) (hhi : ∀ m (hm : m < t.length), k ≤ m → 0 < cmpTr t[m] y) : Rising (t.take k ++ y :: t.drop k) := by
  have hr' : Rising (t.take k ++ t.drop k) := by rw [List.take_append_drop]; exact hr
  obtain ⟨h1, h2, h3⟩ := List.pairwise_append.1 hr'
  refine List.pairwise_append.2 ⟨h1, List.pairwise_cons.2 ⟨fun z hz => ?_, h2⟩, fun a ha z hz => ?_⟩
  · obtain ⟨m, hm, rfl⟩ := List.getElem_of_mem hz
    rw [List.getElem_drop]
    have hm' : k + m < t.length := by simp at hm; omega
    have h0 := hhi (k + m) hm' (by omega)
    have := cmpTr_neg y t[k + m]
    omega
  · rcases List.mem_cons.1 hz with rfl | hz
    · obtain ⟨m, hm, rfl⟩ := List.getElem_of_mem ha
      rw [List.getElem_take]
      have hm' : m < k ∧ m < t.length := by simp at hm; omega
      exact hlo m hm'.2 hm'.1
    · exact h3 a ha z hz
theorem rise_lo {t : List Tr} (hr : Rising t) (k : Nat) (hk : k < t.length) (y : Tr) (h : cmpTr t[k] y < 0) : ∀ m (hm : m < t.length), m < k + 1 → cmpTr t[m] y < 0 := fun m hm hle => by
  rcases Nat.lt_or_eq_of_le (Nat.le_of_lt_succ hle) with h1 | h1
  · have h2 := List.pairwise_iff_getElem.1 hr m k hm hk h1
    have h3 := cmpTr_trans t[m] t[k] y (by omega) (by omega)
    rcases Int.lt_or_eq_of_le h3 with h4 | h4
    · exact h4
    · have e := (cmpTr_zero _ _).1 h4
      have := cmpTr_neg t[m] t[k]
      rw [e] at this h2
      omega
  · subst h1; exact h

set_option maxHeartbeats 16000000 in
set_option maxRecDepth 100000 in
theorem RSorted_any (ad : Option Addr) (cap : Nat) (l : List Tr) (w : World) (h : SlT w ad l) (hn : l.length ≤ 1000000) :
    Calls Tryz.prog 90 #[.slice ad l.length cap] w fun e w' => ∃ (m : List Tr) (ad' : Option Addr) (c : Nat), e = .returned (.slice ad' m.length c) ∧ SlT w' ad' m ∧ Rising m ∧ (∀ x, x ∈ m ↔ x ∈ l) ∧ m.length ≤ l.length ∧ RowKit.Below w.heap.size w w' := by
  have Hl : Hid (SlT w ad l) := h
  clear h
  obtain ⟨i0, hi0, hz⟩ := Option.map_eq_some_iff.1 infoTr
  simp only [Prod.mk.injEq] at hz
  obtain ⟨hz0, hz1, hz2⟩ := hz
  go_enter Tryz.func90, Tryz.ntmps90
  go_wp2_with fail
  go_loopw [3, 4] (fun v i wr => ∃ (k : Nat) (t : List Tr), k ≤ l.length ∧ i = .int .i64 k ∧ Hid (Rising t ∧ ∀ x, x ∈ t ↔ x ∈ l.take k) ∧ t.length ≤ k ∧ Hid (wr.ownsRow w.heap.size 88 9 v t.length (cellsT t)) ∧ RowKit.Below w.heap.size w wr) (fun _ i wr => l.length - (intOf i).toNat)
  case atStart => exact ⟨0, [], Nat.zero_le _, rfl, ⟨List.Pairwise.nil, by simp⟩, Nat.zero_le _, World.ownsRow_nil _ _ _ _, RowKit.Below.refl _ _⟩
  case round =>
    obtain ⟨i, t, hi', rfl, ht, htl, hown, hbr⟩ := hrel
    obtain ⟨W1, hW1⟩ : ∃ W1, W1 = wr := ⟨_, rfl⟩
    subst hW1
    obtain ⟨at0, ct, rfl, hslt⟩ : ∃ ad cap, _ = Value.slice ad t.length cap ∧ SlT W1 ad t := own_slS hown.out
    by_cases hi : i < l.length
    · have hmem : Hid (∀ x, x ∈ l.take (i + 1) ↔ x ∈ t ∨ x = l[i]) := fun x => by
        rw [List.take_succ_eq_append_getElem hi, List.mem_append, ht.out.2 x, List.mem_singleton]
      have i1 : (i : Int) < (l.length : Int) := by omega
      have i2 : (0 : Int) ≤ (i : Int) := by omega
      have Hslt : Hid (SlT W1 at0 t) := hslt
      have Hri : Hid (Rising t) := ht.out.1
      clear hslt ht
      obtain ⟨b, o, rfl, hr0⟩ := (Hl.out.below hbr).at i hi
      have Hr0 : Hid (RowR W1 b o l) := hr0
      clear hr0
      go_wp2_with fail
      go_loopw [5] (fun kv w2 => ∃ k : Nat, k ≤ t.length ∧ kv = .int .i64 k ∧ Hid (∀ m (hm : m < t.length), k ≤ m → 0 < cmpTr t[m] l[i]) ∧ RowKit.Below W1.heap.size W1 w2) (fun kv w2 => (intOf kv).toNat)
      case atStart => exact ⟨t.length, Nat.le_refl _, rfl, fun m hm h => by omega, RowKit.Below.refl _ _⟩
      case round =>
        obtain ⟨k, hk, rfl, hhi, hb2⟩ := hrel
        rcases Nat.eq_zero_or_pos k with rfl | hpos
        · go_wp2_with fail
          go_region
          go_wp2_with fail
          go_region
          have hBz := hb2.drew.drew
          generalize wr.drew.drew = wz at *
          have hA2 := bstep hbr hBz
          have hzr := hA2.size
          have Hown2 : Hid (wz.ownsRow w.heap.size 88 9 (.slice at0 t.length ct) t.length (cellsT t)) := ownsRow_belowS hown.out hBz
          go_wp2_with (at_builtin; refine wpList_append_own _ rfl _ _ 27 rfl w.heap.size 88 i0 (.agg (encTr zeroTr).toArray) 9 120 Tryz.underlying27 hi0 hz0 hz1 hz2 rfl (by decide) _ _ _ rfl (Hown2.out.alloc _) ⟨wz.heap.size, 0, none⟩ 1 1 (encTr zeroTr) rfl rfl ?c1 ?c2 ?c3 ?c4 ?c5 ?_)
          case c1 =>
            intro i u hi'
            have h9 : i < 9 := (List.getElem?_eq_some_iff.1 hi').1
            rw [Addr.add_lit]
            rcases (by omega : i = 0 ∨ i = 1 ∨ i = 2 ∨ i = 3 ∨ i = 4 ∨ i = 5 ∨ i = 6 ∨ i = 7 ∨ i = 8) with rfl | rfl | rfl | rfl | rfl | rfl | rfl | rfl | rfl
            all_goals
              simp [encTr, zeroTr] at hi'
              subst hi'
              go_simp
          case c2 => exact encTr_one zeroTr
          case c3 => unfold maxLen; omega
          case c4 => omega
          case c5 => simp; omega
          intro v' w9 hown' hgrow _
          have hA9 := (hA2.alloc hzr (.cells (encTr zeroTr).toArray 88)).grown hgrow (by simp; omega) (fun k hk => (Hown2.out.lt k hk).1)
          obtain ⟨g', cap', rfl⟩ := own_succ hown'
          have hg' : w.heap.size ≤ g' := (hown'.lt g' rfl).1
          have Hown9 : Hid (w9.ownsRow w.heap.size 88 9 (.slice (some ⟨g', 0, none⟩) (t.length + 1) cap') (t.length + 1) (cellsT (t.take t.length ++ zeroTr :: t.drop t.length))) := by
            show World.ownsRow _ _ _ _ _ _ _
            rw [List.take_length, List.drop_length]
            simpa [cellsT] using hown'
          clear hown' hgrow Hown2 hA2 hzr hBz hown
          go_wp2_with fail
          go_loopw [6] (fun jv wr => ∃ (j : Nat) (y : Tr), 0 ≤ j ∧ j ≤ t.length ∧ jv = .int .i64 j ∧ Hid (wr.ownsRow w.heap.size 88 9 (.slice (some ⟨g', 0, none⟩) (t.length + 1) cap') (t.length + 1) (cellsT (t.take j ++ y :: t.drop j))) ∧ RowKit.Below w.heap.size w wr) (fun jv wr => (intOf jv).toNat)
          case atStart => exact ⟨t.length, zeroTr, by omega, Nat.le_refl _, by go_num, Hown9.out, hA9⟩
          case round =>
            obtain ⟨j, y, hkj, hjt, rfl, hown4, hA4⟩ := hrel
            have hlen4 := ins_len t j y hjt
            have hown5 := hown4.out
            rw [← hlen4] at hown5
            by_cases hgt : 0 < j
            · obtain ⟨q, rfl⟩ : ∃ q, j = q + 1 := ⟨j - 1, by omega⟩
              obtain ⟨e0, e1, e2, e3, e4, e5, e6, e7, e8⟩ := own_at hown5 q (by omega)
              rw [ins_at t q y hjt] at e0 e1 e2 e3 e4 e5 e6 e7 e8
              obtain ⟨z2, f0, f1, f2, f3, f4, f5, f6, f7, f8⟩ := own_some hown5 (q + 1) (by omega)
              obtain ⟨m0, m1, m2, m3, m4, m5, m6, m7, m8⟩ := own_thaw9 hown5 (q + 1)
              have hnew0 := own_set hown5 (q + 1) t[q]
              rw [hlen4, ins_set t (q + 1) y _ hjt, ins_shift t q hjt] at hnew0
              have hnew : Hid _ := hnew0
              have hwr : IntKind.i64.wrap (((q + 1 : Nat) : Int) - 1) = (q : Int) := by simp [IntKind.wrap, IntKind.bits, IntKind.signed]; omega
              have j0 : (0 : Int) ≤ (q : Int) := by omega
              have j1 : (q : Int) < (t.length : Int) + 1 := by omega
              have j2 : (q : Int) + 1 < (t.length : Int) + 1 := by omega
              clear hown4 hown5 hlen4 hnew0
              generalize t[q] = z at *
              go_wp2_with fail
              exact ⟨⟨q, z, by omega, by omega, rfl, hnew.out, below_set9 hA4 hg'⟩, by simp [intOf]⟩
            · obtain rfl : 0 = j := by omega
              obtain ⟨b', o', hbo, hrow⟩ := (Hl.out.below hA4).at i hi
              simp only [Option.some.injEq, Addr.mk.injEq, and_true] at hbo
              obtain ⟨rfl, rfl⟩ := hbo
              obtain ⟨e0, e1, e2, e3, e4, e5, e6, e7, e8⟩ := hrow.at i hi
              obtain ⟨z2, f0, f1, f2, f3, f4, f5, f6, f7, f8⟩ := own_some hown5 (0) (by omega)
              obtain ⟨m0, m1, m2, m3, m4, m5, m6, m7, m8⟩ := own_thaw9 hown5 (0)
              have hnew0 := own_set hown5 (0) l[i]
              rw [ins_set t (0) y _ hjt] at hnew0
              rw [hlen4] at hnew0
              have hfin : Hid (Rising (t.take (0) ++ l[i] :: t.drop (0)) ∧ ∀ x, x ∈ t.take (0) ++ l[i] :: t.drop (0) ↔ x ∈ l.take (i + 1)) :=
                ⟨ins_rising t (0) l[i] Hri.out (fun m hm h => by omega) hhi.out, fun x => (ins_mem t (0) l[i] x).trans (hmem.out x).symm⟩
              have hlen5 : Hid ((t.take (0) ++ l[i] :: t.drop (0)).length = t.length + 1) := ins_len t (0) l[i] hjt
              have hnew : Hid _ := hnew0
              have j1 : ((0 : Nat) : Int) < (t.length : Int) + 1 := by omega
              have j0 : (0 : Int) ≤ ((0 : Nat) : Int) := by omega
              clear hown4 hown5 hlen4 hnew0 hrow
              simp only [Nat.zero_mul, Nat.zero_add] at f0 f1 f2 f3 f4 f5 f6 f7 f8 m0 m1 m2 m3 m4 m5 m6 m7 m8
              generalize l[i] = z at *
              go_wp2_with fail
              refine ⟨⟨i + 1, t.take (0) ++ z :: t.drop (0), by omega, by go_num, hfin.out, by rw [hlen5.out]; omega, ?_, below_set9 hA4 hg'⟩, by simp [intOf]; omega⟩
              show World.ownsRow _ _ _ _ _ _ _
              rw [hlen5.out]
              exact hnew.out
        · obtain ⟨p, hkp⟩ : ∃ p, k = p + 1 := ⟨k - 1, by omega⟩
          have hpt : p < t.length := by omega
          obtain ⟨g, og, hat, hrg⟩ := (Hslt.out.below hb2).at p hpt
          subst hat
          obtain ⟨c0, c1, c2, c3, c4, c5, c6, c7, c8⟩ := hrg.at p hpt
          obtain ⟨d0, d1, d2, d3, d4, d5, d6, d7, d8⟩ := (Hr0.out.below hb2).at i hi
          have HC := fun W => ROrder_any t[p] l[i] W
          unfold valTr at HC
          have fhi : Hid (0 < cmpTr t[p] l[i] → ∀ m (hm : m < t.length), p ≤ m → 0 < cmpTr t[m] l[i]) := fun h m hm hle => by
            rcases Nat.lt_or_eq_of_le hle with h1 | h1
            · exact hhi.out m hm (by omega)
            · subst h1; exact h
          have flo : Hid (cmpTr t[p] l[i] < 0 → ∀ m (hm : m < t.length), m < k → cmpTr t[m] l[i] < 0) := fun h m hm hlt => rise_lo Hri.out p hpt l[i] h m hm (by omega)
          have feq : Hid (cmpTr t[p] l[i] = 0 → l[i] ∈ t) := fun h => by rw [← (cmpTr_zero _ _).1 h]; exact List.getElem_mem hpt
          have hwr : IntKind.i64.wrap ((k : Int) - 1) = (p : Int) := by rw [show (k : Int) - 1 = (p : Int) by omega]; exact wrapS p (by omega)
          have j0 : (0 : Int) ≤ (p : Int) := by omega
          have j1 : (p : Int) < (t.length : Int) := by omega
          have hd0 : decide (0 < k) = true := by simp; omega
          have hd1 : decide ((k : Int) > 0) = true := by simp; omega
          have Hkp : Hid (k = p + 1) := hkp
          clear hrg hkp hpos
          generalize cmpTr t[p] l[i] = c at HC fhi flo feq
          have Hd : Hid (∀ W', RowKit.Below W1.heap.size W1 W' → RowR W' b o l ∧ SlT W' (some ⟨g, og, none⟩) t) := fun W' h' => ⟨Hr0.out.below h', Hslt.out.below h'⟩
          obtain ⟨x, hx⟩ : ∃ x, x = t[p] := ⟨_, rfl⟩
          obtain ⟨y, hy⟩ : ∃ y, y = l[i] := ⟨_, rfl⟩
          have Hxy : Hid (x = t[p] ∧ y = l[i]) := ⟨hx, hy⟩
          rw [← hx] at c0 c1 c2 c3 c4 c5 c6 c7 c8 HC
          rw [← hy] at d0 d1 d2 d3 d4 d5 d6 d7 d8 HC
          clear hx hy
          cases hcc : decide (c > 0)
          · go_wp2_with fail
            go_region_held3 (fun W => W.cell? ⟨g, og + p * 9, none⟩ = some (.int .i64 x.1.1) ∧ W.cell? ⟨g, og + p * 9 + 1, none⟩ = some (.string ⟨x.1.2.1.toArray⟩) ∧ W.cell? ⟨g, og + p * 9 + 2, none⟩ = some (.string ⟨x.1.2.2.toArray⟩) ∧ W.cell? ⟨g, og + p * 9 + 3, none⟩ = some (.int .i64 x.2.1.1) ∧ W.cell? ⟨g, og + p * 9 + 4, none⟩ = some (.string ⟨x.2.1.2.1.toArray⟩) ∧ W.cell? ⟨g, og + p * 9 + 5, none⟩ = some (.string ⟨x.2.1.2.2.toArray⟩) ∧ W.cell? ⟨g, og + p * 9 + 6, none⟩ = some (.int .i64 x.2.2.1) ∧ W.cell? ⟨g, og + p * 9 + 7, none⟩ = some (.string ⟨x.2.2.2.1.toArray⟩) ∧ W.cell? ⟨g, og + p * 9 + 8, none⟩ = some (.string ⟨x.2.2.2.2.toArray⟩) ∧ W.cell? ⟨b, o + i * 9, none⟩ = some (.int .i64 y.1.1) ∧ W.cell? ⟨b, o + i * 9 + 1, none⟩ = some (.string ⟨y.1.2.1.toArray⟩) ∧ W.cell? ⟨b, o + i * 9 + 2, none⟩ = some (.string ⟨y.1.2.2.toArray⟩) ∧ W.cell? ⟨b, o + i * 9 + 3, none⟩ = some (.int .i64 y.2.1.1) ∧ W.cell? ⟨b, o + i * 9 + 4, none⟩ = some (.string ⟨y.2.1.2.1.toArray⟩) ∧ W.cell? ⟨b, o + i * 9 + 5, none⟩ = some (.string ⟨y.2.1.2.2.toArray⟩) ∧ W.cell? ⟨b, o + i * 9 + 6, none⟩ = some (.int .i64 y.2.2.1) ∧ W.cell? ⟨b, o + i * 9 + 7, none⟩ = some (.string ⟨y.2.2.2.1.toArray⟩) ∧ W.cell? ⟨b, o + i * 9 + 8, none⟩ = some (.string ⟨y.2.2.2.2.toArray⟩)) (first | exact keep18b (by assumption) hb3 | go_keep) (first
              | (go_at_call 46; refine (HC _).mono ?_; rintro e w3 ⟨rfl, hb3⟩))
            have hB3 := bstep hb2.drew hb3
            obtain ⟨hrl, hst⟩ := Hd.out _ hB3
            obtain ⟨g2, og2, hat, hrg⟩ := hst.at p hpt
            simp only [Option.some.injEq, Addr.mk.injEq, and_true] at hat
            obtain ⟨rfl, rfl⟩ := hat
            clear c0 c1 c2 c3 c4 c5 c6 c7 c8 d0 d1 d2 d3 d4 d5 d6 d7 d8
            obtain ⟨c0, c1, c2, c3, c4, c5, c6, c7, c8⟩ := hrg.at p hpt
            obtain ⟨d0, d1, d2, d3, d4, d5, d6, d7, d8⟩ := hrl.at i hi
            rw [← Hxy.out.1] at c0 c1 c2 c3 c4 c5 c6 c7 c8
            rw [← Hxy.out.2] at d0 d1 d2 d3 d4 d5 d6 d7 d8
            clear hrg hrl hst
            have hle : Hid (c ≤ 0) := by simp at hcc; exact hcc
            cases h0 : (c == 0)
            · go_wp2_with fail
              go_region_held3 (fun W => W.cell? ⟨g, og + p * 9, none⟩ = some (.int .i64 x.1.1) ∧ W.cell? ⟨g, og + p * 9 + 1, none⟩ = some (.string ⟨x.1.2.1.toArray⟩) ∧ W.cell? ⟨g, og + p * 9 + 2, none⟩ = some (.string ⟨x.1.2.2.toArray⟩) ∧ W.cell? ⟨g, og + p * 9 + 3, none⟩ = some (.int .i64 x.2.1.1) ∧ W.cell? ⟨g, og + p * 9 + 4, none⟩ = some (.string ⟨x.2.1.2.1.toArray⟩) ∧ W.cell? ⟨g, og + p * 9 + 5, none⟩ = some (.string ⟨x.2.1.2.2.toArray⟩) ∧ W.cell? ⟨g, og + p * 9 + 6, none⟩ = some (.int .i64 x.2.2.1) ∧ W.cell? ⟨g, og + p * 9 + 7, none⟩ = some (.string ⟨x.2.2.2.1.toArray⟩) ∧ W.cell? ⟨g, og + p * 9 + 8, none⟩ = some (.string ⟨x.2.2.2.2.toArray⟩) ∧ W.cell? ⟨b, o + i * 9, none⟩ = some (.int .i64 y.1.1) ∧ W.cell? ⟨b, o + i * 9 + 1, none⟩ = some (.string ⟨y.1.2.1.toArray⟩) ∧ W.cell? ⟨b, o + i * 9 + 2, none⟩ = some (.string ⟨y.1.2.2.toArray⟩) ∧ W.cell? ⟨b, o + i * 9 + 3, none⟩ = some (.int .i64 y.2.1.1) ∧ W.cell? ⟨b, o + i * 9 + 4, none⟩ = some (.string ⟨y.2.1.2.1.toArray⟩) ∧ W.cell? ⟨b, o + i * 9 + 5, none⟩ = some (.string ⟨y.2.1.2.2.toArray⟩) ∧ W.cell? ⟨b, o + i * 9 + 6, none⟩ = some (.int .i64 y.2.2.1) ∧ W.cell? ⟨b, o + i * 9 + 7, none⟩ = some (.string ⟨y.2.2.2.1.toArray⟩) ∧ W.cell? ⟨b, o + i * 9 + 8, none⟩ = some (.string ⟨y.2.2.2.2.toArray⟩)) (first | exact keep18b (by assumption) hb4 | go_keep) (first
                | (go_at_call 46; refine (HC _).mono ?_; rintro e w4 ⟨rfl, hb4⟩))
              have hBz := bstep hB3.drew hb4
              have hlt : Hid (c < 0) := by
                have h1 := hle.out
                have h2 : ¬ c = 0 := by simpa using h0
                show c < 0
                omega
              clear c0 c1 c2 c3 c4 c5 c6 c7 c8 d0 d1 d2 d3 d4 d5 d6 d7 d8 hb4 hB3 HC Hd
              generalize w4 = wz at *
              have hA2 := bstep hbr hBz
              have hzr := hA2.size
              have Hown2 : Hid (wz.ownsRow w.heap.size 88 9 (.slice (some ⟨g, og, none⟩) t.length ct) t.length (cellsT t)) := ownsRow_belowS hown.out hBz
              go_wp2_with (at_builtin; refine wpList_append_own _ rfl _ _ 27 rfl w.heap.size 88 i0 (.agg (encTr zeroTr).toArray) 9 120 Tryz.underlying27 hi0 hz0 hz1 hz2 rfl (by decide) _ _ _ rfl (Hown2.out.alloc _) ⟨wz.heap.size, 0, none⟩ 1 1 (encTr zeroTr) rfl rfl ?c1 ?c2 ?c3 ?c4 ?c5 ?_)
              case c1 =>
                intro i u hi'
                have h9 : i < 9 := (List.getElem?_eq_some_iff.1 hi').1
                rw [Addr.add_lit]
                rcases (by omega : i = 0 ∨ i = 1 ∨ i = 2 ∨ i = 3 ∨ i = 4 ∨ i = 5 ∨ i = 6 ∨ i = 7 ∨ i = 8) with rfl | rfl | rfl | rfl | rfl | rfl | rfl | rfl | rfl
                all_goals
                  simp [encTr, zeroTr] at hi'
                  subst hi'
                  go_simp
              case c2 => exact encTr_one zeroTr
              case c3 => unfold maxLen; omega
              case c4 => omega
              case c5 => simp; omega
              intro v' w9 hown' hgrow _
              have hA9 := (hA2.alloc hzr (.cells (encTr zeroTr).toArray 88)).grown hgrow (by simp; omega) (fun k hk => (Hown2.out.lt k hk).1)
              obtain ⟨g', cap', rfl⟩ := own_succ hown'
              have hg' : w.heap.size ≤ g' := (hown'.lt g' rfl).1
              have Hown9 : Hid (w9.ownsRow w.heap.size 88 9 (.slice (some ⟨g', 0, none⟩) (t.length + 1) cap') (t.length + 1) (cellsT (t.take t.length ++ zeroTr :: t.drop t.length))) := by
                show World.ownsRow _ _ _ _ _ _ _
                rw [List.take_length, List.drop_length]
                simpa [cellsT] using hown'
              clear hown' hgrow Hown2 hA2 hzr hBz hown
              go_wp2_with fail
              go_loopw [6] (fun jv wr => ∃ (j : Nat) (y : Tr), k ≤ j ∧ j ≤ t.length ∧ jv = .int .i64 j ∧ Hid (wr.ownsRow w.heap.size 88 9 (.slice (some ⟨g', 0, none⟩) (t.length + 1) cap') (t.length + 1) (cellsT (t.take j ++ y :: t.drop j))) ∧ RowKit.Below w.heap.size w wr) (fun jv wr => (intOf jv).toNat)
              case atStart => exact ⟨t.length, zeroTr, by omega, Nat.le_refl _, by go_num, Hown9.out, hA9⟩
              case round =>
                obtain ⟨j, y, hkj, hjt, rfl, hown4, hA4⟩ := hrel
                have hlen4 := ins_len t j y hjt
                have hown5 := hown4.out
                rw [← hlen4] at hown5
                by_cases hgt : k < j
                · obtain ⟨q, rfl⟩ : ∃ q, j = q + 1 := ⟨j - 1, by omega⟩
                  obtain ⟨e0, e1, e2, e3, e4, e5, e6, e7, e8⟩ := own_at hown5 q (by omega)
                  rw [ins_at t q y hjt] at e0 e1 e2 e3 e4 e5 e6 e7 e8
                  obtain ⟨z2, f0, f1, f2, f3, f4, f5, f6, f7, f8⟩ := own_some hown5 (q + 1) (by omega)
                  obtain ⟨m0, m1, m2, m3, m4, m5, m6, m7, m8⟩ := own_thaw9 hown5 (q + 1)
                  have hnew0 := own_set hown5 (q + 1) t[q]
                  rw [hlen4, ins_set t (q + 1) y _ hjt, ins_shift t q hjt] at hnew0
                  have hnew : Hid _ := hnew0
                  have hwr : IntKind.i64.wrap (((q + 1 : Nat) : Int) - 1) = (q : Int) := by simp [IntKind.wrap, IntKind.bits, IntKind.signed]; omega
                  have j0 : (0 : Int) ≤ (q : Int) := by omega
                  have j1 : (q : Int) < (t.length : Int) + 1 := by omega
                  have j2 : (q : Int) + 1 < (t.length : Int) + 1 := by omega
                  clear hown4 hown5 hlen4 hnew0
                  generalize t[q] = z at *
                  go_wp2_with fail
                  exact ⟨⟨q, z, by omega, by omega, rfl, hnew.out, below_set9 hA4 hg'⟩, by simp [intOf]⟩
                · obtain rfl : k = j := by omega
                  obtain ⟨b', o', hbo, hrow⟩ := (Hl.out.below hA4).at i hi
                  simp only [Option.some.injEq, Addr.mk.injEq, and_true] at hbo
                  obtain ⟨rfl, rfl⟩ := hbo
                  obtain ⟨e0, e1, e2, e3, e4, e5, e6, e7, e8⟩ := hrow.at i hi
                  obtain ⟨z2, f0, f1, f2, f3, f4, f5, f6, f7, f8⟩ := own_some hown5 (k) (by omega)
                  obtain ⟨m0, m1, m2, m3, m4, m5, m6, m7, m8⟩ := own_thaw9 hown5 (k)
                  have hnew0 := own_set hown5 (k) l[i]
                  rw [ins_set t (k) y _ hjt] at hnew0
                  rw [hlen4] at hnew0
                  have hfin : Hid (Rising (t.take (k) ++ l[i] :: t.drop (k)) ∧ ∀ x, x ∈ t.take (k) ++ l[i] :: t.drop (k) ↔ x ∈ l.take (i + 1)) :=
                    ⟨ins_rising t (k) l[i] Hri.out (flo.out hlt.out) hhi.out, fun x => (ins_mem t (k) l[i] x).trans (hmem.out x).symm⟩
                  have hlen5 : Hid ((t.take (k) ++ l[i] :: t.drop (k)).length = t.length + 1) := ins_len t (k) l[i] hjt
                  have hnew : Hid _ := hnew0
                  have j1 : ((k : Nat) : Int) < (t.length : Int) + 1 := by omega
                  have j0 : (0 : Int) ≤ ((k : Nat) : Int) := by omega
                  clear hown4 hown5 hlen4 hnew0 hrow
                  skip
                  generalize l[i] = z at *
                  go_wp2_with fail
                  refine ⟨⟨i + 1, t.take (k) ++ z :: t.drop (k), by omega, by go_num, hfin.out, by rw [hlen5.out]; omega, ?_, below_set9 hA4 hg'⟩, by simp [intOf]; omega⟩
                  show World.ownsRow _ _ _ _ _ _ _
                  rw [hlen5.out]
                  exact hnew.out
            · go_wp2_with fail
              go_region_held3 (fun W => W.cell? ⟨g, og + p * 9, none⟩ = some (.int .i64 x.1.1) ∧ W.cell? ⟨g, og + p * 9 + 1, none⟩ = some (.string ⟨x.1.2.1.toArray⟩) ∧ W.cell? ⟨g, og + p * 9 + 2, none⟩ = some (.string ⟨x.1.2.2.toArray⟩) ∧ W.cell? ⟨g, og + p * 9 + 3, none⟩ = some (.int .i64 x.2.1.1) ∧ W.cell? ⟨g, og + p * 9 + 4, none⟩ = some (.string ⟨x.2.1.2.1.toArray⟩) ∧ W.cell? ⟨g, og + p * 9 + 5, none⟩ = some (.string ⟨x.2.1.2.2.toArray⟩) ∧ W.cell? ⟨g, og + p * 9 + 6, none⟩ = some (.int .i64 x.2.2.1) ∧ W.cell? ⟨g, og + p * 9 + 7, none⟩ = some (.string ⟨x.2.2.2.1.toArray⟩) ∧ W.cell? ⟨g, og + p * 9 + 8, none⟩ = some (.string ⟨x.2.2.2.2.toArray⟩) ∧ W.cell? ⟨b, o + i * 9, none⟩ = some (.int .i64 y.1.1) ∧ W.cell? ⟨b, o + i * 9 + 1, none⟩ = some (.string ⟨y.1.2.1.toArray⟩) ∧ W.cell? ⟨b, o + i * 9 + 2, none⟩ = some (.string ⟨y.1.2.2.toArray⟩) ∧ W.cell? ⟨b, o + i * 9 + 3, none⟩ = some (.int .i64 y.2.1.1) ∧ W.cell? ⟨b, o + i * 9 + 4, none⟩ = some (.string ⟨y.2.1.2.1.toArray⟩) ∧ W.cell? ⟨b, o + i * 9 + 5, none⟩ = some (.string ⟨y.2.1.2.2.toArray⟩) ∧ W.cell? ⟨b, o + i * 9 + 6, none⟩ = some (.int .i64 y.2.2.1) ∧ W.cell? ⟨b, o + i * 9 + 7, none⟩ = some (.string ⟨y.2.2.2.1.toArray⟩) ∧ W.cell? ⟨b, o + i * 9 + 8, none⟩ = some (.string ⟨y.2.2.2.2.toArray⟩)) (first | exact keep18b (by assumption) hb4 | go_keep) (first
                | (go_at_call 46; refine (HC _).mono ?_; rintro e w4 ⟨rfl, hb4⟩))
              have hBz := bstep hB3.drew hb4
              go_wp2_with fail
              have hin := feq.out (by simpa using h0)
              refine ⟨⟨i + 1, t, by omega, by go_num, ⟨Hri.out, fun x => ?_⟩, by omega, ownsRow_belowS hown.out hBz, bstep hbr hBz⟩, by simp [intOf]; omega⟩
              rw [hmem.out x]
              constructor
              · exact Or.inl
              · rintro (h | h)
                · exact h
                · rw [h]; exact hin
          · go_wp2_with fail
            go_region_held3 (fun W => W.cell? ⟨g, og + p * 9, none⟩ = some (.int .i64 x.1.1) ∧ W.cell? ⟨g, og + p * 9 + 1, none⟩ = some (.string ⟨x.1.2.1.toArray⟩) ∧ W.cell? ⟨g, og + p * 9 + 2, none⟩ = some (.string ⟨x.1.2.2.toArray⟩) ∧ W.cell? ⟨g, og + p * 9 + 3, none⟩ = some (.int .i64 x.2.1.1) ∧ W.cell? ⟨g, og + p * 9 + 4, none⟩ = some (.string ⟨x.2.1.2.1.toArray⟩) ∧ W.cell? ⟨g, og + p * 9 + 5, none⟩ = some (.string ⟨x.2.1.2.2.toArray⟩) ∧ W.cell? ⟨g, og + p * 9 + 6, none⟩ = some (.int .i64 x.2.2.1) ∧ W.cell? ⟨g, og + p * 9 + 7, none⟩ = some (.string ⟨x.2.2.2.1.toArray⟩) ∧ W.cell? ⟨g, og + p * 9 + 8, none⟩ = some (.string ⟨x.2.2.2.2.toArray⟩) ∧ W.cell? ⟨b, o + i * 9, none⟩ = some (.int .i64 y.1.1) ∧ W.cell? ⟨b, o + i * 9 + 1, none⟩ = some (.string ⟨y.1.2.1.toArray⟩) ∧ W.cell? ⟨b, o + i * 9 + 2, none⟩ = some (.string ⟨y.1.2.2.toArray⟩) ∧ W.cell? ⟨b, o + i * 9 + 3, none⟩ = some (.int .i64 y.2.1.1) ∧ W.cell? ⟨b, o + i * 9 + 4, none⟩ = some (.string ⟨y.2.1.2.1.toArray⟩) ∧ W.cell? ⟨b, o + i * 9 + 5, none⟩ = some (.string ⟨y.2.1.2.2.toArray⟩) ∧ W.cell? ⟨b, o + i * 9 + 6, none⟩ = some (.int .i64 y.2.2.1) ∧ W.cell? ⟨b, o + i * 9 + 7, none⟩ = some (.string ⟨y.2.2.2.1.toArray⟩) ∧ W.cell? ⟨b, o + i * 9 + 8, none⟩ = some (.string ⟨y.2.2.2.2.toArray⟩)) (first | exact keep18b (by assumption) hb3 | go_keep) (first
              | (go_at_call 46; refine (HC _).mono ?_; rintro e w3 ⟨rfl, hb3⟩))
            go_wp2
            have hgt : 0 < c := by simpa using hcc
            exact ⟨⟨p, by omega, by first | rfl | go_num, fhi.out hgt, bstep hb2.drew hb3⟩, by have := Hkp.out; simp [intOf]; omega⟩
    · obtain rfl : i = l.length := by omega
      have hfin := ht.out
      rw [List.take_length] at hfin
      have Hfin : Hid _ := hfin
      have Hslt : Hid (SlT W1 at0 t) := hslt
      clear hfin ht hslt
      go_wp2_with fail
      go_ret
      exact ⟨t, at0, ct, rfl, Hslt.out, Hfin.out.1, Hfin.out.2, htl, hbr⟩
end Go.Proofs.YtnlcfnpcjkcdmadGreatDoor

/- The document's answer (package strataref1): In, Part. -/
namespace Go.Proofs.YtnlcfnpcjkcdmadGreatDoor
open Go Go.RowKit Go.Proofs
set_option synthInstance.maxSize 1000

theorem filter_stepP (l : List Tr) (p : Tr → Bool) (k : Nat) (h : k < l.length) : (l.take (k + 1)).filter p = (l.take k).filter p ++ (if p l[k] then [l[k]] else []) := by
  rw [List.take_succ_eq_append_getElem h, List.filter_append]
  cases hp : p l[k] <;> simp [hp]
theorem in_none {l : List Tr} {t : Tr} (h : ∀ j (hj : j < l.length), j < l.length → cmpTr l[j] t ≠ 0) : decide (t ∈ l) = false := by
  rw [decide_eq_false_iff_not]
  intro hm
  obtain ⟨j, hj, rfl⟩ := List.getElem_of_mem hm
  exact h j hj hj ((cmpTr_zero _ _).2 rfl)

set_option maxHeartbeats 4000000 in
set_option maxRecDepth 100000 in
theorem RIn_any (ad : Option Addr) (cap : Nat) (l : List Tr) (t : Tr) (w : World) (h : SlT w ad l) (hn : l.length ≤ 9223372036854775807) :
    Calls Tryz.prog 89 #[.slice ad l.length cap, valTr t] w fun e w' => e = .returned (.bool (decide (t ∈ l))) ∧ RowKit.Below w.heap.size w w' := by
  have Hl : Hid (SlT w ad l) := h
  clear h
  unfold valTr
  go_enter Tryz.func89, Tryz.ntmps89
  go_wp2_with fail
  go_loopw [5] (fun i wr => ∃ k : Nat, k ≤ l.length ∧ i = .int .i64 k ∧ Hid (∀ j (hj : j < l.length), j < k → cmpTr l[j] t ≠ 0) ∧ RowKit.Below (w.alloc (.cells (encTr t).toArray 88)).heap.size (w.alloc (.cells (encTr t).toArray 88)) wr) (fun i wr => l.length - (intOf i).toNat)
  case atStart => exact ⟨0, Nat.zero_le _, rfl, fun j hj h => by omega, RowKit.Below.refl _ _⟩
  case round =>
    obtain ⟨k, hk, rfl, hne, hbr⟩ := hrel
    by_cases hlt : k < l.length
    · obtain ⟨b, o, rfl, hrow⟩ := (Hl.out.below (bstep (balloc _ _) hbr)).at k hlt
      obtain ⟨c0, c1, c2, c3, c4, c5, c6, c7, c8⟩ := hrow.at k hlt
      obtain ⟨e0, e1, e2, e3, e4, e5, e6, e7, e8, hz9⟩ := ninebox hbr
      have i0 : (0 : Int) ≤ (k : Int) := by omega
      have i1 : (k : Int) < (l.length : Int) := by omega
      have HC := fun W => ROrder_any l[k] t W
      unfold valTr at HC
      have f0 : Hid (cmpTr l[k] t = 0 → decide (t ∈ l) = true) := fun h => by
        rw [decide_eq_true_eq, ← (cmpTr_zero _ _).1 h]
        exact List.getElem_mem hlt
      have f1 : Hid (cmpTr l[k] t ≠ 0 → ∀ j (hj : j < l.length), j < k + 1 → cmpTr l[j] t ≠ 0) := fun h j hj hle => by
        rcases Nat.lt_or_eq_of_le (Nat.le_of_lt_succ hle) with h1 | h1
        · exact hne.out j hj h1
        · subst h1; exact h
      generalize cmpTr l[k] t = c at HC f0 f1
      generalize l[k] = y at *
      clear hrow
      cases hc : (c == 0)
      · go_wp2_with fail
        go_region_held3 (fun W => W.cell? ⟨b, o + k * 9, none⟩ = some (.int .i64 y.1.1) ∧ W.cell? ⟨b, o + k * 9 + 1, none⟩ = some (.string ⟨y.1.2.1.toArray⟩) ∧ W.cell? ⟨b, o + k * 9 + 2, none⟩ = some (.string ⟨y.1.2.2.toArray⟩) ∧ W.cell? ⟨b, o + k * 9 + 3, none⟩ = some (.int .i64 y.2.1.1) ∧ W.cell? ⟨b, o + k * 9 + 4, none⟩ = some (.string ⟨y.2.1.2.1.toArray⟩) ∧ W.cell? ⟨b, o + k * 9 + 5, none⟩ = some (.string ⟨y.2.1.2.2.toArray⟩) ∧ W.cell? ⟨b, o + k * 9 + 6, none⟩ = some (.int .i64 y.2.2.1) ∧ W.cell? ⟨b, o + k * 9 + 7, none⟩ = some (.string ⟨y.2.2.2.1.toArray⟩) ∧ W.cell? ⟨b, o + k * 9 + 8, none⟩ = some (.string ⟨y.2.2.2.2.toArray⟩) ∧ W.cell? ⟨w.heap.size, 0, none⟩ = some (.int .i64 t.1.1) ∧ W.cell? ⟨w.heap.size, 1, none⟩ = some (.string ⟨t.1.2.1.toArray⟩) ∧ W.cell? ⟨w.heap.size, 2, none⟩ = some (.string ⟨t.1.2.2.toArray⟩) ∧ W.cell? ⟨w.heap.size, 3, none⟩ = some (.int .i64 t.2.1.1) ∧ W.cell? ⟨w.heap.size, 4, none⟩ = some (.string ⟨t.2.1.2.1.toArray⟩) ∧ W.cell? ⟨w.heap.size, 5, none⟩ = some (.string ⟨t.2.1.2.2.toArray⟩) ∧ W.cell? ⟨w.heap.size, 6, none⟩ = some (.int .i64 t.2.2.1) ∧ W.cell? ⟨w.heap.size, 7, none⟩ = some (.string ⟨t.2.2.2.1.toArray⟩) ∧ W.cell? ⟨w.heap.size, 8, none⟩ = some (.string ⟨t.2.2.2.2.toArray⟩)) (first | exact keep18b (by assumption) hb2 | go_keep) (first
          | (go_at_call 46; refine (HC _).mono ?_; rintro e w2 ⟨rfl, hb2⟩))
        go_wp2
        exact ⟨⟨k + 1, by omega, by go_num, f1.out (by simpa using hc), bstep hbr.drew hb2⟩, by simp [intOf]; omega⟩
      · go_wp2_with fail
        go_region_held3 (fun W => W.cell? ⟨b, o + k * 9, none⟩ = some (.int .i64 y.1.1) ∧ W.cell? ⟨b, o + k * 9 + 1, none⟩ = some (.string ⟨y.1.2.1.toArray⟩) ∧ W.cell? ⟨b, o + k * 9 + 2, none⟩ = some (.string ⟨y.1.2.2.toArray⟩) ∧ W.cell? ⟨b, o + k * 9 + 3, none⟩ = some (.int .i64 y.2.1.1) ∧ W.cell? ⟨b, o + k * 9 + 4, none⟩ = some (.string ⟨y.2.1.2.1.toArray⟩) ∧ W.cell? ⟨b, o + k * 9 + 5, none⟩ = some (.string ⟨y.2.1.2.2.toArray⟩) ∧ W.cell? ⟨b, o + k * 9 + 6, none⟩ = some (.int .i64 y.2.2.1) ∧ W.cell? ⟨b, o + k * 9 + 7, none⟩ = some (.string ⟨y.2.2.2.1.toArray⟩) ∧ W.cell? ⟨b, o + k * 9 + 8, none⟩ = some (.string ⟨y.2.2.2.2.toArray⟩) ∧ W.cell? ⟨w.heap.size, 0, none⟩ = some (.int .i64 t.1.1) ∧ W.cell? ⟨w.heap.size, 1, none⟩ = some (.string ⟨t.1.2.1.toArray⟩) ∧ W.cell? ⟨w.heap.size, 2, none⟩ = some (.string ⟨t.1.2.2.toArray⟩) ∧ W.cell? ⟨w.heap.size, 3, none⟩ = some (.int .i64 t.2.1.1) ∧ W.cell? ⟨w.heap.size, 4, none⟩ = some (.string ⟨t.2.1.2.1.toArray⟩) ∧ W.cell? ⟨w.heap.size, 5, none⟩ = some (.string ⟨t.2.1.2.2.toArray⟩) ∧ W.cell? ⟨w.heap.size, 6, none⟩ = some (.int .i64 t.2.2.1) ∧ W.cell? ⟨w.heap.size, 7, none⟩ = some (.string ⟨t.2.2.2.1.toArray⟩) ∧ W.cell? ⟨w.heap.size, 8, none⟩ = some (.string ⟨t.2.2.2.2.toArray⟩)) (first | exact keep18b (by assumption) hb2 | go_keep) (first
          | (go_at_call 46; refine (HC _).mono ?_; rintro e w2 ⟨rfl, hb2⟩))
        go_wp2
        go_ret
        exact ⟨ret_bool (f0.out (by simpa using hc)).symm, bstep (bstep (balloc _ _) hbr.drew) hb2⟩
    · obtain rfl : k = l.length := by omega
      go_wp2_with fail
      go_ret
      exact ⟨ret_bool (in_none hne.out).symm, bstep (balloc _ _) hbr⟩

/-- what of the one is, or is not, in the other -/
def partL (a b : List Tr) (is : Bool) : List Tr := a.filter fun x => decide (x ∈ b) == is
theorem part_both (a b : List Tr) : partL a b true = bothL a b := by unfold partL bothL; congr 1; funext x; simp
theorem part_less (a b : List Tr) : partL a b false = lessL a b := by unfold partL lessL; congr 1; funext x; cases decide (x ∈ b) <;> rfl

set_option maxHeartbeats 4000000 in
set_option maxRecDepth 100000 in
theorem RPart_any (ad bd : Option Addr) (ca cb : Nat) (a b : List Tr) (is : Bool) (w : World) (ha : SlT w ad a) (hb : SlT w bd b) (na : a.length ≤ 200) (nb : b.length ≤ 200) :
    Calls Tryz.prog 48 #[.slice ad a.length ca, .slice bd b.length cb, .bool is] w fun e w' => ∃ ad' c, e = .returned (.slice ad' (partL a b is).length c) ∧ SlT w' ad' (partL a b is) ∧ RowKit.Below w.heap.size w w' := by
  have Ha : Hid (SlT w ad a) := ha
  have Hb : Hid (SlT w bd b) := hb
  clear ha hb
  obtain ⟨i0, hi, hz⟩ := Option.map_eq_some_iff.1 infoTr
  simp only [Prod.mk.injEq] at hz
  obtain ⟨hz0, hz1, hz2⟩ := hz
  obtain ⟨p, hp⟩ : ∃ p : Tr → Bool, p = fun x => decide (x ∈ b) == is := ⟨_, rfl⟩
  have hpl : Hid (partL a b is = a.filter p) := by rw [hp]; rfl
  have Hp : Hid (∀ x, p x = (decide (x ∈ b) == is)) := fun x => by rw [hp]
  clear hp
  go_enter Tryz.func48, Tryz.ntmps48
  go_wp2_with fail
  go_loopw [7, 8] (fun v i wr => ∃ k : Nat, k ≤ a.length ∧ i = .int .i64 k ∧ Hid (wr.ownsRow w.heap.size 88 9 v ((a.take k).filter p).length (cellsT ((a.take k).filter p))) ∧ RowKit.Below w.heap.size w wr) (fun _ i wr => a.length - (intOf i).toNat)
  case atStart => exact ⟨0, Nat.zero_le _, rfl, by show World.ownsRow _ _ _ _ _ _ _; rw [List.take_zero]; exact World.ownsRow_nil _ _ _ _, RowKit.Below.refl _ _⟩
  case round =>
    obtain ⟨k, hk, rfl, hown, hbr⟩ := hrel
    by_cases hlt : k < a.length
    · obtain ⟨bq, o, rfl, hr⟩ := (Ha.out.below hbr).at k hlt
      obtain ⟨c0, c1, c2, c3, c4, c5, c6, c7, c8⟩ := hr.at k hlt
      have Hr : Hid (RowR wr bq o a) := hr
      have i0' : (0 : Int) ≤ (k : Int) := by omega
      have i1 : (k : Int) < (a.length : Int) := by omega
      have hstep : Hid _ := filter_stepP a p k hlt
      have hfil : ((a.take k).filter p).length ≤ k := Nat.le_trans (List.length_filter_le _ _) (by simp; omega)
      have H := fun W hW => RIn_any bd cb b a[k] W hW (by omega)
      have hpy := Hp.out a[k]
      have hzr := hbr.size
      generalize ht : (a.take (k + 1)).filter p = t1 at hstep
      have Ht : Hid _ := ht
      generalize (a.take k).filter p = t0 at *
      obtain ⟨y, hy⟩ : ∃ y, y = a[k] := ⟨_, rfl⟩
      have Hy : Hid (y = a[k]) := hy
      rw [← hy] at H hpy hstep c0 c1 c2 c3 c4 c5 c6 c7 c8
      unfold valTr at H
      clear hr ht hy
      generalize decide (y ∈ b) = d at *
      have Hpy : Hid (p y = (d == is)) := hpy
      clear hpy
      cases hdi : (d == is)
      · have hs2 : Hid (t1 = t0) := by have := hstep.out; rw [Hpy.out, hdi] at this; simpa [Hid] using this
        go_wp2_with fail
        refine (H _ (Hb.out.below hbr)).mono ?_
        rintro e w1 ⟨rfl, hb1⟩
        go_wp2_with fail
        go_roundw
        case rel =>
          refine ⟨k + 1, by omega, by go_num, ?_, bstep hbr hb1⟩
          show World.ownsRow _ _ _ _ _ _ _
          rw [Ht.out, hs2.out]
          exact ownsRow_belowS hown.out hb1
        case measure => simp [intOf]; omega
      · have hs2 : Hid (t1 = t0 ++ [y]) := by have := hstep.out; rw [Hpy.out, hdi] at this; simpa [Hid] using this
        go_wp2_with fail
        refine (H _ (Hb.out.below hbr)).mono ?_
        rintro e w1 ⟨rfl, hb1⟩
        have hrow1 : Hid (w1.ownsRow w.heap.size 88 9 _ t0.length (cellsT t0)) := ownsRow_belowS hown.out hb1
        have hB1 := bstep hbr hb1
        have hz1' := hB1.size
        clear c0 c1 c2 c3 c4 c5 c6 c7 c8 hown
        obtain ⟨c0, c1, c2, c3, c4, c5, c6, c7, c8⟩ := (Hr.out.below hb1).at k hlt
        rw [← Hy.out] at c0 c1 c2 c3 c4 c5 c6 c7 c8
        go_wp2_with (at_builtin; refine wpList_append_own _ rfl _ _ 27 rfl w.heap.size 88 i0 (.agg (encTr zeroTr).toArray) 9 120 Tryz.underlying27 hi hz0 hz1 hz2 rfl (by decide) _ _ _ rfl (hrow1.out.alloc _) ⟨w1.heap.size, 0, none⟩ 1 1 (encTr y) rfl rfl ?c1 ?c2 ?c3 ?c4 ?c5 ?_)
        case c1 =>
          intro i u hi'
          have h9 : i < 9 := (List.getElem?_eq_some_iff.1 hi').1
          rw [Addr.add_lit]
          rcases (by omega : i = 0 ∨ i = 1 ∨ i = 2 ∨ i = 3 ∨ i = 4 ∨ i = 5 ∨ i = 6 ∨ i = 7 ∨ i = 8) with rfl | rfl | rfl | rfl | rfl | rfl | rfl | rfl | rfl
          all_goals
            simp [encTr] at hi'
            subst hi'
            go_simp
        case c2 => exact encTr_one y
        case c3 => unfold maxLen; omega
        case c4 => omega
        case c5 => simp; omega
        intro v' w9 hown' hgrow _
        have hbel := (hB1.alloc hz1' (.cells (encTr y).toArray 88)).grown hgrow (by simp; omega) (fun k hk => (hrow1.out.lt k hk).1)
        go_wp2_with fail
        go_roundw
        case rel =>
          refine ⟨k + 1, by omega, by go_num, ?_, hbel⟩
          show World.ownsRow _ _ _ _ _ _ _
          rw [Ht.out, hs2.out]
          simpa [cellsT] using hown'
        case measure => simp [intOf]; omega
    · obtain rfl : k = a.length := by omega
      have hown' := hown.out
      rw [List.take_length, ← hpl.out] at hown'
      obtain ⟨ad', cap', rfl, hsl⟩ := own_slS hown'
      have Hsl : Hid _ := hsl
      clear hown' hown hsl
      go_wp2_with fail
      go_ret
      exact ⟨ad', cap', rfl, Hsl.out, hbr⟩

end Go.Proofs.YtnlcfnpcjkcdmadGreatDoor

/- The document's answer (package strataref1): Two, Union. -/
namespace Go.Proofs.YtnlcfnpcjkcdmadGreatDoor
open Go Go.RowKit Go.Proofs
set_option synthInstance.maxSize 1000

set_option maxHeartbeats 1000000 in
theorem RTwo_any (ad bd : Option Addr) (ca cb : Nat) (a b : List Tr) (w : World) (ha : SlT w ad a) (hb : SlT w bd b) (fa : ∀ x ∈ a, fitTr x) (fb : ∀ x ∈ b, fitTr x) (na : a.length ≤ 9223372036854775807) (nb : b.length ≤ 9223372036854775807) :
    Calls Tryz.prog 47 #[.slice ad a.length ca, .slice bd b.length cb] w fun e w' => e = .returned (.int .i64 (bothN a b)) ∧ RowKit.Below w.heap.size w w' := by
  have H1 := fun W hW => RSet_any ad ca a W hW fa na
  have H2 := fun W hW => RSet_any bd cb b W hW fb nb
  have fin : Hid (bothN a b = if sortedN a = 0 then sortedN b else sortedN a) := rfl
  have Ha : Hid (SlT w ad a) := ha
  have Hb : Hid (SlT w bd b) := hb
  generalize bothN a b = N at *
  generalize sortedN a = n at H1 fin
  generalize sortedN b = m at H2 fin
  clear ha hb fa fb na nb
  cases hn : (n == 0)
  · have f1 : Hid (N = n) := by have h : ¬ n = 0 := by simpa using hn
                                rw [fin.out, if_neg h]; rfl
    go_enter Tryz.func47, Tryz.ntmps47
    go_wp2_with fail
    refine (H1 _ Ha.out).mono ?_
    rintro e w1 ⟨rfl, hb1⟩
    go_wp2_with fail
    go_ret
    exact ⟨ret_i64 f1.out.symm, hb1⟩
  · have f1 : Hid (N = m) := by have h : n = 0 := by simpa using hn
                                rw [fin.out, if_pos h]; rfl
    go_enter Tryz.func47, Tryz.ntmps47
    go_wp2_with fail
    refine (H1 _ Ha.out).mono ?_
    rintro e w1 ⟨rfl, hb1⟩
    go_wp2_with fail
    refine (H2 _ (Hb.out.below hb1)).mono ?_
    rintro e w2 ⟨rfl, hb2⟩
    go_wp2_with fail
    go_ret
    exact ⟨ret_i64 f1.out.symm, bstep hb1 hb2⟩

set_option maxHeartbeats 2000000 in
set_option maxRecDepth 100000 in
theorem RUnionW_any (ad bd : Option Addr) (ca cb : Nat) (a b : List Tr) (w : World) (ha : SlT w ad a) (hb : SlT w bd b) (na : a.length ≤ 1000) (nb : b.length ≤ 1000) :
    Calls Tryz.prog 49 #[.slice ad a.length ca, .slice bd b.length cb] w fun e w' => ∃ (m : List Tr) (ad' : Option Addr) (c : Nat), e = .returned (.slice ad' m.length c) ∧ SlT w' ad' m ∧ JoinOf a b m ∧ RowKit.Below w.heap.size w w' := by
  have Ha : Hid (SlT w ad a) := ha
  have Hb : Hid (SlT w bd b) := hb
  have H : ∀ W am cm, SlT W am (a ++ b) → Calls Tryz.prog 90 #[.slice am (a.length + b.length) cm] W fun e w' => ∃ (m : List Tr) (ad' : Option Addr) (c : Nat), e = .returned (.slice ad' m.length c) ∧ SlT w' ad' m ∧ JoinOf a b m ∧ RowKit.Below W.heap.size W w' := by
    intro W am cm hW
    rw [← List.length_append]
    refine (RSorted_any am cm (a ++ b) W hW (by rw [List.length_append]; omega)).mono ?_
    rintro e w' ⟨m, ad', c, rfl, h1, h2, h3, _, h5⟩
    exact ⟨m, ad', c, rfl, h1, ⟨h2, fun x => by rw [h3, List.mem_append]⟩, h5⟩
  clear ha hb
  have hnil : Hid (w.ownsRow w.heap.size 88 9 (.slice none 0 0) ([] : List Tr).length (cellsT [])) := World.ownsRow_nil _ _ _ _
  generalize JoinOf a b = JO at *
  go_enter Tryz.func49, Tryz.ntmps49
  go_wp2_with (first
    | (at_builtin; refine wpList_append_list _ rfl _ _ rfl w.heap.size _ [] a ad ca rfl rfl hnil.out Ha.out (by simp; omega) (Nat.le_refl _) ?_; clear hnil; intro v1 w1 hown1 hb1
       have hown1' : Hid (w1.ownsRow w.heap.size 88 9 v1 a.length (cellsT a)) := hown1
       have hz1 := hb1.size
       clear hown1)
    | (at_builtin; refine wpList_append_list _ rfl _ _ rfl w.heap.size _ a b bd cb rfl rfl hown1'.out (Hb.out.below hb1) (by omega) hz1 ?_; intro v2 w2 hown2 hb2
       have hown2' : Hid (w2.ownsRow w.heap.size 88 9 v2 (a ++ b).length (cellsT (a ++ b))) := hown2
       obtain ⟨am, cm, hv2, hsl⟩ := own_slS hown2
       have Hsl : Hid (SlT w2 am (a ++ b)) := hsl
       rw [List.length_append] at hv2
       subst hv2
       clear hown2 hsl hown2' hown1'))
  have hB2 := hb1.trans hb2
  refine (H _ am cm Hsl.out).mono ?_
  rintro e w3 ⟨m, ad', c, rfl, h1, h2, h3⟩
  go_wp2_with fail
  go_ret
  exact ⟨m, ad', c, rfl, h1, h2, bstep hB2 h3⟩
theorem RUnion_any (ad bd : Option Addr) (ca cb : Nat) (a b : List Tr) (w : World) (ha : SlT w ad a) (hb : SlT w bd b) (na : a.length ≤ 200) (nb : b.length ≤ 200) :
    Calls Tryz.prog 49 #[.slice ad a.length ca, .slice bd b.length cb] w fun e w' => ∃ (m : List Tr) (ad' : Option Addr) (c : Nat), e = .returned (.slice ad' m.length c) ∧ SlT w' ad' m ∧ JoinOf a b m ∧ RowKit.Below w.heap.size w w' := RUnionW_any ad bd ca cb a b w ha hb (by omega) (by omega)
end Go.Proofs.YtnlcfnpcjkcdmadGreatDoor

/- The document's answer (package strataref1): Layer, Apply, Then. -/
namespace Go.Proofs.YtnlcfnpcjkcdmadGreatDoor
open Go Go.RowKit Go.Proofs
set_option synthInstance.maxSize 1000

theorem RLess_any (ad bd : Option Addr) (ca cb : Nat) (a b : List Tr) (w : World) (ha : SlT w ad a) (hb : SlT w bd b) (na : a.length ≤ 200) (nb : b.length ≤ 200) :
    Calls Tryz.prog 48 #[.slice ad a.length ca, .slice bd b.length cb, .bool false] w fun e w' => ∃ ad' c, e = .returned (.slice ad' (lessL a b).length c) ∧ SlT w' ad' (lessL a b) ∧ RowKit.Below w.heap.size w w' := by
  have := RPart_any ad bd ca cb a b false w ha hb na nb
  rw [part_less] at this
  exact this
theorem RBoth_any (ad bd : Option Addr) (ca cb : Nat) (a b : List Tr) (w : World) (ha : SlT w ad a) (hb : SlT w bd b) (na : a.length ≤ 200) (nb : b.length ≤ 200) :
    Calls Tryz.prog 48 #[.slice ad a.length ca, .slice bd b.length cb, .bool true] w fun e w' => ∃ ad' c, e = .returned (.slice ad' (bothL a b).length c) ∧ SlT w' ad' (bothL a b) ∧ RowKit.Below w.heap.size w w' := by
  have := RPart_any ad bd ca cb a b true w ha hb na nb
  rw [part_both] at this
  exact this
theorem both_none {a b : List Tr} : (bothL a b).length = 0 ↔ (bothL b a).length = 0 := by
  have q : ∀ {a b : List Tr}, (bothL a b).length = 0 → (bothL b a).length = 0 := fun {a b} h => by
    rw [List.length_eq_zero_iff, List.eq_nil_iff_forall_not_mem] at h ⊢
    intro x hx
    exact h x (mem_bothL.2 ⟨(mem_bothL.1 hx).2, (mem_bothL.1 hx).1⟩)
  exact ⟨q, q⟩
theorem lenBoth {a b : List Tr} (h : a.length ≤ 200) : (bothL a b).length ≤ 200 := Nat.le_trans (List.length_filter_le _ _) h
theorem lenLess {a b : List Tr} (h : a.length ≤ 200) : (lessL a b).length ≤ 200 := Nat.le_trans (List.length_filter_le _ _) h

set_option maxHeartbeats 2000000 in
set_option maxRecDepth 100000 in
theorem RLayer_any (ad bd : Option Addr) (ca cb : Nat) (a b : List Tr) (w : World) (ha : SlT w ad a) (hb : SlT w bd b) (fa : ∀ x ∈ a, fitTr x) (fb : ∀ x ∈ b, fitTr x) (na : a.length ≤ 9223372036854775807) (nb : b.length ≤ 9223372036854775807) :
    Calls Tryz.prog 16 #[.agg #[.slice ad a.length ca, .slice bd b.length cb]] w fun e w' => e = .returned (.int .i64 (apartN a b)) ∧ RowKit.Below w.heap.size w w' := by
  have H := fun W h1 h2 => RTwo_any ad bd ca cb a b W h1 h2 fa fb na nb
  have HS : Hid (SlT w ad a ∧ SlT w bd b) := ⟨ha, hb⟩
  have fin : Hid (apartN a b = orN (bothN a b) (if (bothL a b).length = 0 then 0 else 7)) := rfl
  have hset := @bothN_zero a b
  generalize apartN a b = N at *
  generalize bothN a b = n at *
  clear ha hb fa fb na nb
  go_enter Tryz.func16, Tryz.ntmps16
  go_wp2_with fail
  refine (H _ (HS.out.1.below (balloc _ _)) (HS.out.2.below (balloc _ _))).mono ?_
  rintro e w1 ⟨rfl, hb1⟩
  have hB1 := bstep (balloc _ _) hb1
  obtain ⟨x0, x1, _, _, _⟩ := twobox hb1
  clear H
  cases hn : (n == 0)
  · have f1 : Hid (N = n) := fin.out.trans (orN_neg (by simpa using hn))
    clear fin hset
    go_wp2_with fail
    go_ret
    exact ⟨ret_i64 f1.out.symm, hB1⟩
  · have h0 : n = 0 := by simpa using hn
    obtain ⟨sa, sb⟩ := hset.1 h0
    have f1 : Hid (N = if (bothL a b).length = 0 then 0 else 7) := fin.out.trans (orN_pos h0)
    have HP := fun W h1 h2 => RBoth_any ad bd ca cb a b W h1 h2 sa.1 sb.1
    have hl := lenBoth (b := b) sa.1
    generalize bothL a b = B at *
    clear fin hset sa sb h0
    go_wp2_with fail
    refine (HP _ (HS.out.1.below hB1) (HS.out.2.below hB1)).mono ?_
    rintro e w2 ⟨aq, cq, rfl, _, hb2⟩
    have hB2 := bstep hB1 hb2
    by_cases hz : B.length = 0
    · have hd : decide (0 < B.length) = false := decide_eq_false (by omega)
      have f2 : Hid (N = 0) := by have := f1.out; rw [if_pos hz] at this; exact this
      clear hz f1
      go_wp2_with fail
      go_ret
      exact ⟨ret_i64 f2.out.symm, hB2⟩
    · have hd : decide (0 < B.length) = true := decide_eq_true (by omega)
      have f2 : Hid (N = 7) := by have := f1.out; rw [if_neg hz] at this; exact this
      clear hz f1
      go_wp2_with fail
      go_ret
      exact ⟨ret_i64 f2.out.symm, hB2⟩

/-- the document's answer to a call: a list and a number -/
def RAns (n : Int) (P : List Tr → Prop) (w : World) (e : Ending) (w' : World) : Prop := RowKit.Below w.heap.size w w' ∧ ∃ (m : List Tr) (ad : Option Addr) (c : Nat), e = .returned (.tuple #[.slice ad m.length c, .int .i64 n]) ∧ SlT w' ad m ∧ P m
theorem RAns.mk {n : Int} {P : List Tr → Prop} {w w' : World} (hb : RowKit.Below w.heap.size w w') (m : List Tr) (ad : Option Addr) (c : Nat) (hs : SlT w' ad m) (hp : P m) : RAns n P w (.returned (.tuple #[.slice ad m.length c, .int .i64 n])) w' := ⟨hb, m, ad, c, rfl, hs, hp⟩
/-- and a layer and a number -/
def RLAns (n : Int) (P : List Tr → List Tr → Prop) (w : World) (e : Ending) (w' : World) : Prop := RowKit.Below w.heap.size w w' ∧ ∃ (m1 : List Tr) (a1 : Option Addr) (c1 : Nat) (m2 : List Tr) (a2 : Option Addr) (c2 : Nat), e = .returned (.tuple #[.agg #[.slice a1 m1.length c1, .slice a2 m2.length c2], .int .i64 n]) ∧ SlT w' a1 m1 ∧ SlT w' a2 m2 ∧ P m1 m2
theorem RLAns.mk {n : Int} {P : List Tr → List Tr → Prop} {w w' : World} (hb : RowKit.Below w.heap.size w w') (m1 : List Tr) (a1 : Option Addr) (c1 : Nat) (m2 : List Tr) (a2 : Option Addr) (c2 : Nat) (h1 : SlT w' a1 m1) (h2 : SlT w' a2 m2) (hp : P m1 m2) : RLAns n P w (.returned (.tuple #[.agg #[.slice a1 m1.length c1, .slice a2 m2.length c2], .int .i64 n])) w' := ⟨hb, m1, a1, c1, m2, a2, c2, rfl, h1, h2, hp⟩

theorem rapply_keep {B : Nat} {sd ad bd : Option Addr} {ca cb : Nat} {s a b : List Tr} {W W' : World} (h : W.cell? ⟨B, 0, none⟩ = some (.slice ad a.length ca) ∧ W.cell? ⟨B, 1, none⟩ = some (.slice bd b.length cb) ∧ SlT W sd s ∧ SlT W ad a ∧ SlT W bd b) (hb : RowKit.Below W.heap.size W W') : W'.cell? ⟨B, 0, none⟩ = some (.slice ad a.length ca) ∧ W'.cell? ⟨B, 1, none⟩ = some (.slice bd b.length cb) ∧ SlT W' sd s ∧ SlT W' ad a ∧ SlT W' bd b :=
  ⟨(hb.cell (World.block_lt_of_cell? W _ h.1)).trans h.1, (hb.cell (World.block_lt_of_cell? W _ h.2.1)).trans h.2.1, h.2.2.1.below hb, h.2.2.2.1.below hb, h.2.2.2.2.below hb⟩

/-- the numbers of Apply, both right -/
theorem applyN_right {s a b : List Tr} (ss : IsSet s) (sa : IsSet a) (sb : IsSet b) (hab : apartN a b = 0) :
    applyN s a b = if (bothL a s).length = 0 then (if (lessL b s).length = 0 then (if (lessL s b).length + (lessL a (lessL s b)).length ≤ 200 then 0 else 4) else 5) else 7 := by
  unfold applyN
  rw [orN_pos (sortedN_set.2 ss), orN_pos hab]
  unfold apartN withinN swapN joinN
  rw [orN_pos (bothN_zero.2 ⟨ss, sa⟩), orN_pos (bothN_zero.2 ⟨sb, ss⟩), orN_pos (bothN_zero.2 ⟨ss, sb⟩), if_pos (bothN_zero.2 ⟨lessSet ss, sa⟩)]
  by_cases h1 : (bothL a s).length = 0
  · rw [if_pos h1, if_pos (both_none.1 h1), orN_pos rfl]
    by_cases h2 : (lessL b s).length = 0
    · rw [if_pos h2, if_pos h2, orN_pos rfl]
    · rw [if_neg h2, if_neg h2, orN_neg (by decide)]
  · rw [if_neg h1, if_neg (fun h => h1 (both_none.2 h)), orN_neg (by decide)]

set_option maxHeartbeats 4000000 in
set_option maxRecDepth 100000 in
theorem RApply_any (sd ad bd : Option Addr) (cs ca cb : Nat) (s a b : List Tr) (w : World) (hs : SlT w sd s) (ha : SlT w ad a) (hb : SlT w bd b) (ss : IsSet s) (sa : IsSet a) (sb : IsSet b) (hab : apartN a b = 0) :
    Calls Tryz.prog 17 #[.slice sd s.length cs, .agg #[.slice ad a.length ca, .slice bd b.length cb]] w (RAns (applyN s a b) (ApplyAns s a b) w) := by
  have HS : Hid (SlT w sd s ∧ SlT w ad a ∧ SlT w bd b) := ⟨hs, ha, hb⟩
  have H1 := fun W h1 h2 => RBoth_any ad sd ca cs a s W h1 h2 sa.1 ss.1
  have H2 := fun W h1 h2 => RLess_any bd sd cb cs b s W h1 h2 sb.1 ss.1
  have H3 := fun (W : World) (h : W.cell? ⟨w.heap.size, 0, none⟩ = some (.slice ad a.length ca) ∧ W.cell? ⟨w.heap.size, 1, none⟩ = some (.slice bd b.length cb) ∧ SlT W sd s ∧ SlT W ad a ∧ SlT W bd b) => RLess_any sd bd cs cb s b W h.2.2.1 h.2.2.2.2 ss.1 sb.1
  have H4 := fun W al cl h1 h2 => RUnion_any al ad cl ca (lessL s b) a W h1 h2 (lenLess ss.1) sa.1
  have fin : Hid (applyN s a b = if (bothL a s).length = 0 then (if (lessL b s).length = 0 then (if (lessL s b).length + (lessL a (lessL s b)).length ≤ 200 then 0 else 4) else 5) else 7) := applyN_right ss sa sb hab
  have hlen : Hid (∀ m, JoinOf (lessL s b) a m → m.length = (lessL s b).length + (lessL a (lessL s b)).length) := fun m hm => hm.len (lessSet ss).2.2 sa.2.2
  have hmax : Hid ((lessL s b).length + (lessL a (lessL s b)).length ≤ 400) := by have h1 := lenLess (b := b) ss.1; have h2 := lenLess (b := lessL s b) sa.1; show _ ≤ _; omega
  have f0 : Hid (∀ n, applyN s a b = n → ¬ n = 0 → ApplyAns s a b []) := fun n h h0 => ⟨fun e => absurd (h.symm.trans e) h0, fun _ => rfl⟩
  have f1 : Hid (∀ m, applyN s a b = 0 → JoinOf (lessL s b) a m → ApplyAns s a b m) := fun m h hm => ⟨fun _ => hm, fun e => absurd h e⟩
  have l1 := lenBoth (b := s) sa.1
  have l2 := lenLess (b := s) sb.1
  generalize applyN s a b = N at *
  generalize ApplyAns s a b = AA at *
  generalize JoinOf (lessL s b) a = JO at *
  generalize (lessL s b).length + (lessL a (lessL s b)).length = K at *
  generalize bothL a s = B1 at *
  generalize lessL b s = B2 at *
  generalize lessL s b = B3 at *
  clear hs ha hb ss sa sb hab
  go_enter Tryz.func17, Tryz.ntmps17
  go_wp2_with fail
  refine (H1 _ (HS.out.2.1.below (balloc _ _)) (HS.out.1.below (balloc _ _))).mono ?_
  rintro e w1 ⟨a1, c1, rfl, _, hb1⟩
  have hB1 := bstep (balloc _ _) hb1
  obtain ⟨x0, x1, _, _, _⟩ := twobox hb1
  clear H1
  by_cases hz1 : B1.length = 0
  · have hd1 : decide (0 < B1.length) = false := decide_eq_false (by omega)
    have g1 : Hid (N = (if B2.length = 0 then (if K ≤ 200 then 0 else 4) else 5)) := by have := fin.out; rw [if_pos hz1] at this; exact this
    clear hz1 fin
    go_wp2_with fail
    refine (H2 _ (HS.out.2.2.below hB1) (HS.out.1.below hB1)).mono ?_
    rintro e w2 ⟨a2, c2, rfl, _, hb2⟩
    have hB2 := bstep hB1 hb2
    have hb2' := bstep hb1 hb2
    clear x0 x1 H2 hb1 hb2
    obtain ⟨x0, x1, _, _, _⟩ := twobox hb2'
    by_cases hz2 : B2.length = 0
    · have hd2 : decide (0 < B2.length) = false := decide_eq_false (by omega)
      have g2 : Hid (N = (if K ≤ 200 then 0 else 4)) := by have := g1.out; rw [if_pos hz2] at this; exact this
      clear hz2 g1
      go_wp2_with fail
      have zs : SlT w2.drew sd s := (HS.out.1.below hB2 : SlT w2 sd s)
      have za : SlT w2.drew ad a := (HS.out.2.1.below hB2 : SlT w2 ad a)
      have zb : SlT w2.drew bd b := (HS.out.2.2.below hB2 : SlT w2 bd b)
      go_region_held3 (fun W => W.cell? ⟨w.heap.size, 0, none⟩ = some (.slice ad a.length ca) ∧ W.cell? ⟨w.heap.size, 1, none⟩ = some (.slice bd b.length cb) ∧ SlT W sd s ∧ SlT W ad a ∧ SlT W bd b) (first | exact rapply_keep (by assumption) hb4 | exact rapply_keep (by assumption) hb3 | go_keep) (first
        | (go_at_call 48; refine (H3 _ (by assumption)).mono ?_; rintro e w3 ⟨a3, c3, rfl, g3, hb3⟩; have za3 : SlT w3 ad a := za.below hb3)
        | (go_at_call 49; refine (H4 _ a3 c3 g3 za3).mono ?_; rintro e w4 ⟨m, a4, c4, rfl, g4, hJ, hb4⟩))
      have hB4 := bstep (bstep hB2.drew hb3) hb4
      have hK := hlen.out m hJ
      have Hm : Hid (SlT w4 a4 m ∧ JO m) := ⟨g4, hJ⟩
      have hmx := hmax.out
      clear g3 za3 g4 hJ zs za zb hlen hmax
      by_cases hz3 : K ≤ 200
      · have hN : N = 0 := by have := g2.out; rw [if_pos hz3] at this; exact this
        have F1 : Hid _ := f1.out m hN Hm.out.2
        have hd3 : decide ((m.length : Int) > 200) = false := decide_eq_false (by omega)
        subst hN
        have hm4 : m.length ≤ 400 := by omega
        clear hz3 g2 hK f0 f1 hmx
        go_wp2_with fail
        exact bodyPost_ret (v := .tuple #[.slice a4 m.length c4, .int .i64 0]) (by simp [results, Tryz.results17, go_sem]) rfl (RAns.mk hB4 m a4 c4 Hm.out.1 F1.out)
      · have hN : N = 4 := by have := g2.out; rw [if_neg hz3] at this; exact this
        have F0 : Hid _ := f0.out _ hN (by decide)
        have hd3 : decide ((m.length : Int) > 200) = true := decide_eq_true (by omega)
        subst hN
        have hm4 : m.length ≤ 400 := by omega
        clear hz3 g2 hK f0 f1 hmx
        go_wp2_with fail
        exact bodyPost_ret (v := .tuple #[.slice none 0 0, .int .i64 4]) (by simp [results, Tryz.results17, go_sem]) rfl (RAns.mk hB4 [] none 0 (slT_nil _ _) F0.out)
    · have hd2 : decide (0 < B2.length) = true := decide_eq_true (by omega)
      have hN : N = 5 := by have := g1.out; rw [if_neg hz2] at this; exact this
      have F0 : Hid _ := f0.out _ hN (by decide)
      subst hN
      clear hz2 g1 f0 f1 H3 H4 hlen hmax
      go_wp2_with fail
      exact bodyPost_ret (v := .tuple #[.slice none 0 0, .int .i64 5]) (by simp [results, Tryz.results17, go_sem]) rfl (RAns.mk hB2 [] none 0 (slT_nil _ _) F0.out)
  · have hd1 : decide (0 < B1.length) = true := decide_eq_true (by omega)
    have hN : N = 7 := by have := fin.out; rw [if_neg hz1] at this; exact this
    have F0 : Hid _ := f0.out _ hN (by decide)
    subst hN
    clear hz1 fin f0 f1 H2 H3 H4 hlen hmax
    go_wp2_with fail
    exact bodyPost_ret (v := .tuple #[.slice none 0 0, .int .i64 7]) (by simp [results, Tryz.results17, go_sem]) rfl (RAns.mk hB1 [] none 0 (slT_nil _ _) F0.out)
end Go.Proofs.YtnlcfnpcjkcdmadGreatDoor
