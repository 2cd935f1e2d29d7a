import Derived.Test.YtnlcfnpcjkcdmafGreatDoorMCPatchTellsx1
import Derived.OwnWalk
import Derived.Laws.Rows
import Derived.Test.YtnlcfnpcjkcdmafGreatDoorMA0x2
import Derived.Deep.RegionHeld3
import Derived.Test.YtnlcfnpcjkcdmafGreatDoorMCPatchTellsx0
import Derived.Test.YtnlcfnpcjkcdmafGreatDoorMCPatchTellsx2
import Derived.Test.YtnlcfnpcjkcdmafGreatDoorMA0x3
import Derived.Test.YtnlcfnpcjkcdmafGreatDoorMA0x5
import Derived.Deep.AppendLies
import Derived.Deep.DeepCutAuto

/- The document's answer (package strataref1): Sorted: each once, rising, one put in behind the other. -/
namespace Go.Proofs.YtnlcfnpcjkcdmafGreatDoor
open Go Go.RowKit Go.Proofs
set_option synthInstance.maxSize 1000

/-! ### a row of one's own, one triple of it written -/
theorem own_set1 {W : World} {base g cap n sz p : Nat} {e : TypeId} {xs : List Value} (h : W.ownsRow base e sz (.slice (some ⟨g, 0, none⟩) n cap) n xs) (u : Value) :
    (W.setCell ⟨g, p, none⟩ u).ownsRow base e sz (.slice (some ⟨g, 0, none⟩) n cap) n (xs.set p u) := by
  obtain ⟨h1, h2⟩ := h
  refine ⟨by simpa using h1, ?_⟩
  rcases h2 with ⟨h2, _⟩ | ⟨g', cap', cur, hv, hb, hg, hle, hm, hs, ht⟩
  · simp at h2
  · simp only [Value.slice.injEq, Option.some.injEq, Addr.mk.injEq, and_true, true_and] at hv
    obtain ⟨rfl, rfl⟩ := hv
    refine Or.inr ⟨g, cap, cur.setIfInBounds p u, rfl, hb, heap_setCell_same W g p cur e u hg, hle, hm, by simpa using hs, ?_⟩
    rw [Array.toList_setIfInBounds, List.take_set, ht]

theorem own_set {W : World} {base g cap : Nat} {t : List Tr} (h : W.ownsRow base 99 9 (.slice (some ⟨g, 0, none⟩) t.length cap) t.length (cellsT t)) (j : Nat) (x : Tr) :
    (W.setCells g (j * 9) (encTr x)).ownsRow base 99 9 (.slice (some ⟨g, 0, none⟩) t.length cap) t.length (cellsT (t.set j x)) := by
  have key : ∀ (vs : List Value) (p : Nat) (W : World) (xs : List Value), W.ownsRow base 99 9 (.slice (some ⟨g, 0, none⟩) t.length cap) t.length xs →
      ∃ ys, (W.setCells g p vs).ownsRow base 99 9 (.slice (some ⟨g, 0, none⟩) t.length cap) t.length ys ∧ ∀ q, ys[q]? = if p ≤ q ∧ q < p + vs.length ∧ q < xs.length then vs[q - p]? else xs[q]? := by
    intro vs
    induction vs with
    | nil => intro p W xs h; exact ⟨xs, h, fun q => by rw [if_neg (by simp; omega)]⟩
    | cons v r ih =>
      intro p W xs h
      obtain ⟨ys, hy, hq⟩ := ih (p + 1) _ _ (own_set1 (p := p) h v)
      refine ⟨ys, hy, fun q => ?_⟩
      rw [hq q]
      simp only [List.length_set, List.length_cons, List.getElem?_set]
      by_cases e1 : p = q
      · subst e1
        by_cases e2 : p < xs.length
        · rw [if_neg (by omega), if_pos rfl, if_pos e2, if_pos (by omega)]; simp
        · rw [if_neg (by omega), if_pos rfl, if_neg e2, if_neg (by omega)]; simp; omega
      · by_cases e2 : p + 1 ≤ q ∧ q < p + 1 + r.length ∧ q < xs.length
        · rw [if_pos e2, if_pos (by omega), show q - p = (q - (p + 1)) + 1 by omega]; simp
        · rw [if_neg e2, if_neg e1, if_neg (by omega)]
  obtain ⟨ys, hy, hq⟩ := key (encTr x) (j * 9) W _ h
  have e : ys = cellsT (t.set j x) := by
    apply List.ext_getElem?
    intro q
    rw [hq q, encTr_len, cellsT_len]
    by_cases hq9 : q < t.length * 9
    · have c1 := cellsT_at (t.set j x) (q / 9) (by rw [List.length_set]; omega) (q % 9) (by omega)
      have c2 := cellsT_at t (q / 9) (by omega) (q % 9) (by omega)
      rw [show q / 9 * 9 + q % 9 = q by omega] at c1 c2
      rw [c1, c2]
      by_cases hj' : q / 9 = j
      · rw [if_pos (by omega)]
        rw [show q - j * 9 = q % 9 by omega]
        congr 1
        simp [hj']
      · rw [if_neg (by omega)]
        congr 1
        rw [List.getElem_set_ne (by omega)]
    · rw [if_neg (by omega), List.getElem?_eq_none (by rw [cellsT_len]; omega), List.getElem?_eq_none (by rw [cellsT_len, List.length_set]; omega)]
  rw [← e]
  exact hy

theorem own_row {W : World} {base g cap n : Nat} {t : List Tr} (h : W.ownsRow base 99 9 (.slice (some ⟨g, 0, none⟩) n cap) t.length (cellsT t)) : RowR W g 0 t := fun j u hj => by
  have := h.cells (g := g) rfl j u hj
  rwa [Addr.add_lit] at this
theorem own_at {W : World} {base g cap n : Nat} {t : List Tr} (h : W.ownsRow base 99 9 (.slice (some ⟨g, 0, none⟩) n cap) t.length (cellsT t)) (i : Nat) (hi : i < t.length) :
    W.cell? ⟨g, i * 9, none⟩ = some (.int .i64 t[i].1.1) ∧ W.cell? ⟨g, i * 9 + 1, none⟩ = some (.string ⟨t[i].1.2.1.toArray⟩) ∧ W.cell? ⟨g, i * 9 + 2, none⟩ = some (.string ⟨t[i].1.2.2.toArray⟩)
    ∧ W.cell? ⟨g, i * 9 + 3, none⟩ = some (.int .i64 t[i].2.1.1) ∧ W.cell? ⟨g, i * 9 + 4, none⟩ = some (.string ⟨t[i].2.1.2.1.toArray⟩) ∧ W.cell? ⟨g, i * 9 + 5, none⟩ = some (.string ⟨t[i].2.1.2.2.toArray⟩)
    ∧ W.cell? ⟨g, i * 9 + 6, none⟩ = some (.int .i64 t[i].2.2.1) ∧ W.cell? ⟨g, i * 9 + 7, none⟩ = some (.string ⟨t[i].2.2.2.1.toArray⟩) ∧ W.cell? ⟨g, i * 9 + 8, none⟩ = some (.string ⟨t[i].2.2.2.2.toArray⟩) := by
  have := (own_row h).at i hi
  simp only [Nat.zero_add] at this
  exact this
theorem own_some {W : World} {base g cap n : Nat} {t : List Tr} (h : W.ownsRow base 99 9 (.slice (some ⟨g, 0, none⟩) n cap) t.length (cellsT t)) (i : Nat) (hi : i < t.length) :
    ∃ z : Tr, W.cell? ⟨g, i * 9, none⟩ = some (.int .i64 z.1.1) ∧ W.cell? ⟨g, i * 9 + 1, none⟩ = some (.string ⟨z.1.2.1.toArray⟩) ∧ W.cell? ⟨g, i * 9 + 2, none⟩ = some (.string ⟨z.1.2.2.toArray⟩)
    ∧ W.cell? ⟨g, i * 9 + 3, none⟩ = some (.int .i64 z.2.1.1) ∧ W.cell? ⟨g, i * 9 + 4, none⟩ = some (.string ⟨z.2.1.2.1.toArray⟩) ∧ W.cell? ⟨g, i * 9 + 5, none⟩ = some (.string ⟨z.2.1.2.2.toArray⟩)
    ∧ W.cell? ⟨g, i * 9 + 6, none⟩ = some (.int .i64 z.2.2.1) ∧ W.cell? ⟨g, i * 9 + 7, none⟩ = some (.string ⟨z.2.2.2.1.toArray⟩) ∧ W.cell? ⟨g, i * 9 + 8, none⟩ = some (.string ⟨z.2.2.2.2.toArray⟩) := ⟨t[i], own_at h i hi⟩
theorem own_thaw {W : World} {base g cap n m : Nat} {xs : List Value} (h : W.ownsRow base 99 9 (.slice (some ⟨g, 0, none⟩) n cap) m xs) (p : Nat) : W.frozen? ⟨g, p, none⟩ = false := by
  rcases h.2 with ⟨h2, _⟩ | ⟨g', cap', cur, hv, hb, hg, _⟩
  · simp at h2
  · simp only [Value.slice.injEq, Option.some.injEq, Addr.mk.injEq, and_true] at hv
    obtain ⟨rfl, _⟩ := hv
    simp [World.frozen?, hg]
theorem own_thaw9 {W : World} {base g cap n m : Nat} {xs : List Value} (h : W.ownsRow base 99 9 (.slice (some ⟨g, 0, none⟩) n cap) m xs) (j : Nat) : W.frozen? ⟨g, j * 9, none⟩ = false ∧ W.frozen? ⟨g, j * 9 + 1, none⟩ = false ∧ W.frozen? ⟨g, j * 9 + 2, none⟩ = false ∧ W.frozen? ⟨g, j * 9 + 3, none⟩ = false ∧ W.frozen? ⟨g, j * 9 + 4, none⟩ = false ∧ W.frozen? ⟨g, j * 9 + 5, none⟩ = false ∧ W.frozen? ⟨g, j * 9 + 6, none⟩ = false ∧ W.frozen? ⟨g, j * 9 + 7, none⟩ = false ∧ W.frozen? ⟨g, j * 9 + 8, none⟩ = false := ⟨own_thaw h _, own_thaw h _, own_thaw h _, own_thaw h _, own_thaw h _, own_thaw h _, own_thaw h _, own_thaw h _, own_thaw h _⟩
theorem below_set9 {w W : World} {g p : Nat} {x : Tr} (hb : RowKit.Below w.heap.size w W) (hg : w.heap.size ≤ g) : RowKit.Below w.heap.size w (W.setCells g p (encTr x)) :=
  ((((((((hb.setCell (p := ⟨g, p, none⟩) hg _).setCell (p := ⟨g, p + 1, none⟩) hg _).setCell (p := ⟨g, p + 2, none⟩) hg _).setCell (p := ⟨g, p + 3, none⟩) hg _).setCell (p := ⟨g, p + 4, none⟩) hg _).setCell (p := ⟨g, p + 5, none⟩) hg _).setCell (p := ⟨g, p + 6, none⟩) hg _).setCell (p := ⟨g, p + 7, none⟩) hg _).setCell (p := ⟨g, p + 8, none⟩) hg _

theorem own_slS {W : World} {base : Nat} {e : TypeId} {v : Value} {t : List Tr} (h : W.ownsRow base e 9 v t.length (cellsT t)) : ∃ ad cap, v = .slice ad t.length cap ∧ SlT W ad t := by
  have h' := h
  rcases h.2 with ⟨rfl, h0⟩ | ⟨g, cap, cur, rfl, _⟩
  · exact ⟨none, 0, by rw [h0], fun hne => absurd (List.eq_nil_of_length_eq_zero h0) hne⟩
  · refine ⟨some ⟨g, 0, none⟩, cap, rfl, fun _ => ⟨g, 0, rfl, fun j u hj => ?_⟩⟩
    have := h'.cells (g := g) rfl j u hj
    rwa [Addr.add_lit] at this
theorem ownsRow_belowS {W W' : World} {base : Nat} {e : TypeId} {sz : Nat} {v : Value} {n : Nat} {cs : List Value} (h : W.ownsRow base e sz v n cs) (hb : RowKit.Below W.heap.size W W') : W'.ownsRow base e sz v n cs :=
  h.kept (row := none) ⟨hb.os, hb.tape, hb.output, hb.size, fun i hi _ => hb.block i hi⟩ (Classical.em _)

theorem own_succ {W : World} {base : Nat} {e : TypeId} {sz n : Nat} {v : Value} {xs : List Value} (h : W.ownsRow base e sz v (n + 1) xs) : ∃ g cap, v = .slice (some ⟨g, 0, none⟩) (n + 1) cap := by
  rcases h.2 with ⟨_, h0⟩ | ⟨g, cap, cur, rfl, _⟩
  · omega
  · exact ⟨g, cap, rfl⟩

theorem wrapS (n : Nat) (h : n ≤ 1000000) : IntKind.i64.wrap (n : Int) = n := by simp [IntKind.wrap, IntKind.bits, IntKind.signed]; omega

/-! ### where one is put in -/
theorem ins_set (t : List Tr) (j : Nat) (y z : Tr) (hj : j ≤ t.length) : (t.take j ++ y :: t.drop j).set j z = t.take j ++ z :: t.drop j := by
  rw [List.set_append_right _ _ (by simp; omega)]
  simp [Nat.min_eq_left hj]
theorem ins_shift (t : List Tr) (j : Nat) (hj : j + 1 ≤ t.length) : t.take (j + 1) ++ t[j] :: t.drop (j + 1) = t.take j ++ t[j] :: t.drop j := by
  rw [List.take_succ_eq_append_getElem (by omega), List.drop_eq_getElem_cons (i := j) (by omega), List.append_assoc]
  rfl
theorem ins_at (t : List Tr) (j : Nat) (y : Tr) (hj : j + 1 ≤ t.length) : (t.take (j + 1) ++ y :: t.drop (j + 1))[j]'(by simp; omega) = t[j] := by
  rw [List.getElem_append_left (by simp; omega), List.getElem_take]
theorem ins_len (t : List Tr) (j : Nat) (y : Tr) (hj : j ≤ t.length) : (t.take j ++ y :: t.drop j).length = t.length + 1 := by simp; omega
theorem ins_mem (t : List Tr) (k : Nat) (y x : Tr) : x ∈ t.take k ++ y :: t.drop k ↔ x ∈ t ∨ x = y := by
  constructor
  · intro h
    rcases List.mem_append.1 h with h | h
    · exact Or.inl (List.mem_of_mem_take h)
    · rcases List.mem_cons.1 h with h | h
      · exact Or.inr h
      · exact Or.inl (List.mem_of_mem_drop h)
  · rintro (h | h)
    · rw [← List.take_append_drop k t] at h
      rcases List.mem_append.1 h with h | h
      · exact List.mem_append.2 (Or.inl h)
      · exact List.mem_append.2 (Or.inr (List.mem_cons.2 (Or.inr h)))
    · exact List.mem_append.2 (Or.inr (List.mem_cons.2 (Or.inl h)))
theorem ins_rising (t : List Tr) (k : Nat) (y : Tr) (hr : Rising t) (hlo : ∀ m (hm : m < t.length), m < k → cmpTr t[m] y < 0) (hhi : ∀ m (hm : m < t.length), k ≤ m → 0 < cmpTr t[m] y) : Rising (t.take k ++ y :: t.drop k) := by
  have hr' : Rising (t.take k ++ t.drop k) := by rw [List.take_append_drop]; exact hr
  obtain ⟨h1, h2, h3⟩ := List.pairwise_append.1 hr'
  refine List.pairwise_append.2 ⟨h1, List.pairwise_cons.2 ⟨fun z hz => ?_, h2⟩, fun a ha z hz => ?_⟩
  · obtain ⟨m, hm, rfl⟩ := List.getElem_of_mem hz
    rw [List.getElem_drop]
    have hm' : k + m < t.length := by simp at hm; omega
    have h0 := hhi (k + m) hm' (by omega)
    have := cmpTr_neg y t[k + m]
    omega
  · rcases List.mem_cons.1 hz with rfl | hz
    · obtain ⟨m, hm, rfl⟩ := List.getElem_of_mem ha
      rw [List.getElem_take]
      have hm' : m < k ∧ m < t.length := by simp at hm; omega
      exact hlo m hm'.2 hm'.1
    · exact h3 a ha z hz
theorem rise_lo {t : List Tr} (hr : Rising t) (k : Nat) (hk : k < t.length) (y : Tr) (h : cmpTr t[k] y < 0) : ∀ m (hm : m < t.length), m < k + 1 → cmpTr t[m] y < 0 := fun m hm hle => by
  rcases Nat.lt_or_eq_of_le (Nat.le_of_lt_succ hle) with h1 | h1
  · have h2 := List.pairwise_iff_getElem.1 hr m k hm hk h1
    have h3 := cmpTr_trans t[m] t[k] y (by omega) (by omega)
    rcases Int.lt_or_eq_of_le h3 with h4 | h4
    · exact h4
    · have e := (cmpTr_zero _ _).1 h4
      have := cmpTr_neg t[m] t[k]
      rw [e] at this h2
      omega
  · subst h1; exact h

set_option maxHeartbeats 16000000 in
set_option maxRecDepth 100000 in
theorem RSorted_any (ad : Option Addr) (cap : Nat) (l : List Tr) (w : World) (h : SlT w ad l) (hn : l.length ≤ 1000000) :
    Calls Tryz.prog 109 #[.slice ad l.length cap] w fun e w' => ∃ (m : List Tr) (ad' : Option Addr) (c : Nat), e = .returned (.slice ad' m.length c) ∧ SlT w' ad' m ∧ Rising m ∧ (∀ x, x ∈ m ↔ x ∈ l) ∧ m.length ≤ l.length ∧ RowKit.Below w.heap.size w w' := by
  have Hl : Hid (SlT w ad l) := h
  clear h
  obtain ⟨i0, hi0, hz⟩ := Option.map_eq_some_iff.1 infoTr
  simp only [Prod.mk.injEq] at hz
  obtain ⟨hz0, hz1, hz2⟩ := hz
  go_enter Tryz.func109, Tryz.ntmps109
  go_wp2_with fail
  go_loopw [3, 4] (fun v i wr => ∃ (k : Nat) (t : List Tr), k ≤ l.length ∧ i = .int .i64 k ∧ Hid (Rising t ∧ ∀ x, x ∈ t ↔ x ∈ l.take k) ∧ t.length ≤ k ∧ Hid (wr.ownsRow w.heap.size 99 9 v t.length (cellsT t)) ∧ RowKit.Below w.heap.size w wr) (fun _ i wr => l.length - (intOf i).toNat)
  case atStart => exact ⟨0, [], Nat.zero_le _, rfl, ⟨List.Pairwise.nil, by simp⟩, Nat.zero_le _, World.ownsRow_nil _ _ _ _, RowKit.Below.refl _ _⟩
  case round =>
    obtain ⟨i, t, hi', rfl, ht, htl, hown, hbr⟩ := hrel
    obtain ⟨W1, hW1⟩ : ∃ W1, W1 = wr := ⟨_, rfl⟩
    subst hW1
    obtain ⟨at0, ct, rfl, hslt⟩ : ∃ ad cap, _ = Value.slice ad t.length cap ∧ SlT W1 ad t := own_slS hown.out
    by_cases hi : i < l.length
    · have hmem : Hid (∀ x, x ∈ l.take (i + 1) ↔ x ∈ t ∨ x = l[i]) := fun x => by
        rw [List.take_succ_eq_append_getElem hi, List.mem_append, ht.out.2 x, List.mem_singleton]
      have i1 : (i : Int) < (l.length : Int) := by omega
      have i2 : (0 : Int) ≤ (i : Int) := by omega
      have Hslt : Hid (SlT W1 at0 t) := hslt
      have Hri : Hid (Rising t) := ht.out.1
      clear hslt ht
      obtain ⟨b, o, rfl, hr0⟩ := (Hl.out.below hbr).at i hi
      have Hr0 : Hid (RowR W1 b o l) := hr0
      clear hr0
      go_wp2_with fail
      go_loopw [5] (fun kv w2 => ∃ k : Nat, k ≤ t.length ∧ kv = .int .i64 k ∧ Hid (∀ m (hm : m < t.length), k ≤ m → 0 < cmpTr t[m] l[i]) ∧ RowKit.Below W1.heap.size W1 w2) (fun kv w2 => (intOf kv).toNat)
      case atStart => exact ⟨t.length, Nat.le_refl _, rfl, fun m hm h => by omega, RowKit.Below.refl _ _⟩
      case round =>
        obtain ⟨k, hk, rfl, hhi, hb2⟩ := hrel
        rcases Nat.eq_zero_or_pos k with rfl | hpos
        · go_wp2_with fail
          go_region
          go_wp2_with fail
          go_region
          have hBz := hb2.drew.drew
          generalize wr.drew.drew = wz at *
          have hA2 := bstep hbr hBz
          have hzr := hA2.size
          have Hown2 : Hid (wz.ownsRow w.heap.size 99 9 (.slice at0 t.length ct) t.length (cellsT t)) := ownsRow_belowS hown.out hBz
          go_wp2_with (at_builtin; refine wpList_append_own _ rfl _ _ 28 rfl w.heap.size 99 i0 (.agg (encTr zeroTr).toArray) 9 120 Tryz.underlying28 hi0 hz0 hz1 hz2 rfl (by decide) _ _ _ rfl (Hown2.out.alloc _) ⟨wz.heap.size, 0, none⟩ 1 1 (encTr zeroTr) rfl rfl ?c1 ?c2 ?c3 ?c4 ?c5 ?_)
          case c1 =>
            intro i u hi'
            have h9 : i < 9 := (List.getElem?_eq_some_iff.1 hi').1
            rw [Addr.add_lit]
            rcases (by omega : i = 0 ∨ i = 1 ∨ i = 2 ∨ i = 3 ∨ i = 4 ∨ i = 5 ∨ i = 6 ∨ i = 7 ∨ i = 8) with rfl | rfl | rfl | rfl | rfl | rfl | rfl | rfl | rfl
            all_goals
              simp [encTr, zeroTr] at hi'
              subst hi'
              go_simp
          case c2 => exact encTr_one zeroTr
          case c3 => unfold maxLen; omega
          case c4 => omega
          case c5 => simp; omega
          intro v' w9 hown' hgrow _
          have hA9 := (hA2.alloc hzr (.cells (encTr zeroTr).toArray 99)).grown hgrow (by simp; omega) (fun k hk => (Hown2.out.lt k hk).1)
          obtain ⟨g', cap', rfl⟩ := own_succ hown'
          have hg' : w.heap.size ≤ g' := (hown'.lt g' rfl).1
          have Hown9 : Hid (w9.ownsRow w.heap.size 99 9 (.slice (some ⟨g', 0, none⟩) (t.length + 1) cap') (t.length + 1) (cellsT (t.take t.length ++ zeroTr :: t.drop t.length))) := by
            show World.ownsRow _ _ _ _ _ _ _
            rw [List.take_length, List.drop_length]
            simpa [cellsT] using hown'
          clear hown' hgrow Hown2 hA2 hzr hBz hown
          go_wp2_with fail
          go_loopw [6] (fun jv wr => ∃ (j : Nat) (y : Tr), 0 ≤ j ∧ j ≤ t.length ∧ jv = .int .i64 j ∧ Hid (wr.ownsRow w.heap.size 99 9 (.slice (some ⟨g', 0, none⟩) (t.length + 1) cap') (t.length + 1) (cellsT (t.take j ++ y :: t.drop j))) ∧ RowKit.Below w.heap.size w wr) (fun jv wr => (intOf jv).toNat)
          case atStart => exact ⟨t.length, zeroTr, by omega, Nat.le_refl _, by go_num, Hown9.out, hA9⟩
          case round =>
            obtain ⟨j, y, hkj, hjt, rfl, hown4, hA4⟩ := hrel
            have hlen4 := ins_len t j y hjt
            have hown5 := hown4.out
            rw [← hlen4] at hown5
            by_cases hgt : 0 < j
            · obtain ⟨q, rfl⟩ : ∃ q, j = q + 1 := ⟨j - 1, by omega⟩
              obtain ⟨e0, e1, e2, e3, e4, e5, e6, e7, e8⟩ := own_at hown5 q (by omega)
              rw [ins_at t q y hjt] at e0 e1 e2 e3 e4 e5 e6 e7 e8
              obtain ⟨z2, f0, f1, f2, f3, f4, f5, f6, f7, f8⟩ := own_some hown5 (q + 1) (by omega)
              obtain ⟨m0, m1, m2, m3, m4, m5, m6, m7, m8⟩ := own_thaw9 hown5 (q + 1)
              have hnew0 := own_set hown5 (q + 1) t[q]
              rw [hlen4, ins_set t (q + 1) y _ hjt, ins_shift t q hjt] at hnew0
              have hnew : Hid _ := hnew0
              have hwr : IntKind.i64.wrap (((q + 1 : Nat) : Int) - 1) = (q : Int) := by simp [IntKind.wrap, IntKind.bits, IntKind.signed]; omega
              have j0 : (0 : Int) ≤ (q : Int) := by omega
              have j1 : (q : Int) < (t.length : Int) + 1 := by omega
              have j2 : (q : Int) + 1 < (t.length : Int) + 1 := by omega
              clear hown4 hown5 hlen4 hnew0
              generalize t[q] = z at *
              go_wp2_with fail
              exact ⟨⟨q, z, by omega, by omega, rfl, hnew.out, below_set9 hA4 hg'⟩, by simp [intOf]⟩
            · obtain rfl : 0 = j := by omega
              obtain ⟨b', o', hbo, hrow⟩ := (Hl.out.below hA4).at i hi
              simp only [Option.some.injEq, Addr.mk.injEq, and_true] at hbo
              obtain ⟨rfl, rfl⟩ := hbo
              obtain ⟨e0, e1, e2, e3, e4, e5, e6, e7, e8⟩ := hrow.at i hi
              obtain ⟨z2, f0, f1, f2, f3, f4, f5, f6, f7, f8⟩ := own_some hown5 (0) (by omega)
              obtain ⟨m0, m1, m2, m3, m4, m5, m6, m7, m8⟩ := own_thaw9 hown5 (0)
              have hnew0 := own_set hown5 (0) l[i]
              rw [ins_set t (0) y _ hjt] at hnew0
              rw [hlen4] at hnew0
              have hfin : Hid (Rising (t.take (0) ++ l[i] :: t.drop (0)) ∧ ∀ x, x ∈ t.take (0) ++ l[i] :: t.drop (0) ↔ x ∈ l.take (i + 1)) :=
                ⟨ins_rising t (0) l[i] Hri.out (fun m hm h => by omega) hhi.out, fun x => (ins_mem t (0) l[i] x).trans (hmem.out x).symm⟩
              have hlen5 : Hid ((t.take (0) ++ l[i] :: t.drop (0)).length = t.length + 1) := ins_len t (0) l[i] hjt
              have hnew : Hid _ := hnew0
              have j1 : ((0 : Nat) : Int) < (t.length : Int) + 1 := by omega
              have j0 : (0 : Int) ≤ ((0 : Nat) : Int) := by omega
              clear hown4 hown5 hlen4 hnew0 hrow
              simp only [Nat.zero_mul, Nat.zero_add] at f0 f1 f2 f3 f4 f5 f6 f7 f8 m0 m1 m2 m3 m4 m5 m6 m7 m8
              generalize l[i] = z at *
              go_wp2_with fail
              refine ⟨⟨i + 1, t.take (0) ++ z :: t.drop (0), by omega, by go_num, hfin.out, by rw [hlen5.out]; omega, ?_, below_set9 hA4 hg'⟩, by simp [intOf]; omega⟩
              show World.ownsRow _ _ _ _ _ _ _
              rw [hlen5.out]
              exact hnew.out
        · obtain ⟨p, hkp⟩ : ∃ p, k = p + 1 := ⟨k - 1, by omega⟩
          have hpt : p < t.length := by omega
          obtain ⟨g, og, hat, hrg⟩ := (Hslt.out.below hb2).at p hpt
          subst hat
          obtain ⟨c0, c1, c2, c3, c4, c5, c6, c7, c8⟩ := hrg.at p hpt
          obtain ⟨d0, d1, d2, d3, d4, d5, d6, d7, d8⟩ := (Hr0.out.below hb2).at i hi
          have HC := fun W => ROrder_any t[p] l[i] W
          unfold valTr at HC
          have fhi : Hid (0 < cmpTr t[p] l[i] → ∀ m (hm : m < t.length), p ≤ m → 0 < cmpTr t[m] l[i]) := fun h m hm hle => by
            rcases Nat.lt_or_eq_of_le hle with h1 | h1
            · exact hhi.out m hm (by omega)
            · subst h1; exact h
          have flo : Hid (cmpTr t[p] l[i] < 0 → ∀ m (hm : m < t.length), m < k → cmpTr t[m] l[i] < 0) := fun h m hm hlt => rise_lo Hri.out p hpt l[i] h m hm (by omega)
          have feq : Hid (cmpTr t[p] l[i] = 0 → l[i] ∈ t) := fun h => by rw [← (cmpTr_zero _ _).1 h]; exact List.getElem_mem hpt
          have hwr : IntKind.i64.wrap ((k : Int) - 1) = (p : Int) := by rw [show (k : Int) - 1 = (p : Int) by omega]; exact wrapS p (by omega)
          have j0 : (0 : Int) ≤ (p : Int) := by omega
          have j1 : (p : Int) < (t.length : Int) := by omega
          have hd0 : decide (0 < k) = true := by simp; omega
          have hd1 : decide ((k : Int) > 0) = true := by simp; omega
          have Hkp : Hid (k = p + 1) := hkp
          clear hrg hkp hpos
          generalize cmpTr t[p] l[i] = c at HC fhi flo feq
          have Hd : Hid (∀ W', RowKit.Below W1.heap.size W1 W' → RowR W' b o l ∧ SlT W' (some ⟨g, og, none⟩) t) := fun W' h' => ⟨Hr0.out.below h', Hslt.out.below h'⟩
          obtain ⟨x, hx⟩ : ∃ x, x = t[p] := ⟨_, rfl⟩
          obtain ⟨y, hy⟩ : ∃ y, y = l[i] := ⟨_, rfl⟩
          have Hxy : Hid (x = t[p] ∧ y = l[i]) := ⟨hx, hy⟩
          rw [← hx] at c0 c1 c2 c3 c4 c5 c6 c7 c8 HC
          rw [← hy] at d0 d1 d2 d3 d4 d5 d6 d7 d8 HC
          clear hx hy
          cases hcc : decide (c > 0)
          · go_wp2_with fail
            go_region_held3 (fun W => W.cell? ⟨g, og + p * 9, none⟩ = some (.int .i64 x.1.1) ∧ W.cell? ⟨g, og + p * 9 + 1, none⟩ = some (.string ⟨x.1.2.1.toArray⟩) ∧ W.cell? ⟨g, og + p * 9 + 2, none⟩ = some (.string ⟨x.1.2.2.toArray⟩) ∧ W.cell? ⟨g, og + p * 9 + 3, none⟩ = some (.int .i64 x.2.1.1) ∧ W.cell? ⟨g, og + p * 9 + 4, none⟩ = some (.string ⟨x.2.1.2.1.toArray⟩) ∧ W.cell? ⟨g, og + p * 9 + 5, none⟩ = some (.string ⟨x.2.1.2.2.toArray⟩) ∧ W.cell? ⟨g, og + p * 9 + 6, none⟩ = some (.int .i64 x.2.2.1) ∧ W.cell? ⟨g, og + p * 9 + 7, none⟩ = some (.string ⟨x.2.2.2.1.toArray⟩) ∧ W.cell? ⟨g, og + p * 9 + 8, none⟩ = some (.string ⟨x.2.2.2.2.toArray⟩) ∧ W.cell? ⟨b, o + i * 9, none⟩ = some (.int .i64 y.1.1) ∧ W.cell? ⟨b, o + i * 9 + 1, none⟩ = some (.string ⟨y.1.2.1.toArray⟩) ∧ W.cell? ⟨b, o + i * 9 + 2, none⟩ = some (.string ⟨y.1.2.2.toArray⟩) ∧ W.cell? ⟨b, o + i * 9 + 3, none⟩ = some (.int .i64 y.2.1.1) ∧ W.cell? ⟨b, o + i * 9 + 4, none⟩ = some (.string ⟨y.2.1.2.1.toArray⟩) ∧ W.cell? ⟨b, o + i * 9 + 5, none⟩ = some (.string ⟨y.2.1.2.2.toArray⟩) ∧ W.cell? ⟨b, o + i * 9 + 6, none⟩ = some (.int .i64 y.2.2.1) ∧ W.cell? ⟨b, o + i * 9 + 7, none⟩ = some (.string ⟨y.2.2.2.1.toArray⟩) ∧ W.cell? ⟨b, o + i * 9 + 8, none⟩ = some (.string ⟨y.2.2.2.2.toArray⟩)) (first | exact keep18b (by assumption) hb3 | go_keep) (first
              | (go_at_call 69; refine (HC _).mono ?_; rintro e w3 ⟨rfl, hb3⟩))
            have hB3 := bstep hb2.drew hb3
            obtain ⟨hrl, hst⟩ := Hd.out _ hB3
            obtain ⟨g2, og2, hat, hrg⟩ := hst.at p hpt
            simp only [Option.some.injEq, Addr.mk.injEq, and_true] at hat
            obtain ⟨rfl, rfl⟩ := hat
            clear c0 c1 c2 c3 c4 c5 c6 c7 c8 d0 d1 d2 d3 d4 d5 d6 d7 d8
            obtain ⟨c0, c1, c2, c3, c4, c5, c6, c7, c8⟩ := hrg.at p hpt
            obtain ⟨d0, d1, d2, d3, d4, d5, d6, d7, d8⟩ := hrl.at i hi
            rw [← Hxy.out.1] at c0 c1 c2 c3 c4 c5 c6 c7 c8
            rw [← Hxy.out.2] at d0 d1 d2 d3 d4 d5 d6 d7 d8
            clear hrg hrl hst
            have hle : Hid (c ≤ 0) := by simp at hcc; exact hcc
            cases h0 : (c == 0)
            · go_wp2_with fail
              go_region_held3 (fun W => W.cell? ⟨g, og + p * 9, none⟩ = some (.int .i64 x.1.1) ∧ W.cell? ⟨g, og + p * 9 + 1, none⟩ = some (.string ⟨x.1.2.1.toArray⟩) ∧ W.cell? ⟨g, og + p * 9 + 2, none⟩ = some (.string ⟨x.1.2.2.toArray⟩) ∧ W.cell? ⟨g, og + p * 9 + 3, none⟩ = some (.int .i64 x.2.1.1) ∧ W.cell? ⟨g, og + p * 9 + 4, none⟩ = some (.string ⟨x.2.1.2.1.toArray⟩) ∧ W.cell? ⟨g, og + p * 9 + 5, none⟩ = some (.string ⟨x.2.1.2.2.toArray⟩) ∧ W.cell? ⟨g, og + p * 9 + 6, none⟩ = some (.int .i64 x.2.2.1) ∧ W.cell? ⟨g, og + p * 9 + 7, none⟩ = some (.string ⟨x.2.2.2.1.toArray⟩) ∧ W.cell? ⟨g, og + p * 9 + 8, none⟩ = some (.string ⟨x.2.2.2.2.toArray⟩) ∧ W.cell? ⟨b, o + i * 9, none⟩ = some (.int .i64 y.1.1) ∧ W.cell? ⟨b, o + i * 9 + 1, none⟩ = some (.string ⟨y.1.2.1.toArray⟩) ∧ W.cell? ⟨b, o + i * 9 + 2, none⟩ = some (.string ⟨y.1.2.2.toArray⟩) ∧ W.cell? ⟨b, o + i * 9 + 3, none⟩ = some (.int .i64 y.2.1.1) ∧ W.cell? ⟨b, o + i * 9 + 4, none⟩ = some (.string ⟨y.2.1.2.1.toArray⟩) ∧ W.cell? ⟨b, o + i * 9 + 5, none⟩ = some (.string ⟨y.2.1.2.2.toArray⟩) ∧ W.cell? ⟨b, o + i * 9 + 6, none⟩ = some (.int .i64 y.2.2.1) ∧ W.cell? ⟨b, o + i * 9 + 7, none⟩ = some (.string ⟨y.2.2.2.1.toArray⟩) ∧ W.cell? ⟨b, o + i * 9 + 8, none⟩ = some (.string ⟨y.2.2.2.2.toArray⟩)) (first | exact keep18b (by assumption) hb4 | go_keep) (first
                | (go_at_call 69; refine (HC _).mono ?_; rintro e w4 ⟨rfl, hb4⟩))
              have hBz := bstep hB3.drew hb4
              have hlt : Hid (c < 0) := by
                have h1 := hle.out
                have h2 : ¬ c = 0 := by simpa using h0
                show c < 0
                omega
              clear c0 c1 c2 c3 c4 c5 c6 c7 c8 d0 d1 d2 d3 d4 d5 d6 d7 d8 hb4 hB3 HC Hd
              generalize w4 = wz at *
              have hA2 := bstep hbr hBz
              have hzr := hA2.size
              have Hown2 : Hid (wz.ownsRow w.heap.size 99 9 (.slice (some ⟨g, og, none⟩) t.length ct) t.length (cellsT t)) := ownsRow_belowS hown.out hBz
              go_wp2_with (at_builtin; refine wpList_append_own _ rfl _ _ 28 rfl w.heap.size 99 i0 (.agg (encTr zeroTr).toArray) 9 120 Tryz.underlying28 hi0 hz0 hz1 hz2 rfl (by decide) _ _ _ rfl (Hown2.out.alloc _) ⟨wz.heap.size, 0, none⟩ 1 1 (encTr zeroTr) rfl rfl ?c1 ?c2 ?c3 ?c4 ?c5 ?_)
              case c1 =>
                intro i u hi'
                have h9 : i < 9 := (List.getElem?_eq_some_iff.1 hi').1
                rw [Addr.add_lit]
                rcases (by omega : i = 0 ∨ i = 1 ∨ i = 2 ∨ i = 3 ∨ i = 4 ∨ i = 5 ∨ i = 6 ∨ i = 7 ∨ i = 8) with rfl | rfl | rfl | rfl | rfl | rfl | rfl | rfl | rfl
                all_goals
                  simp [encTr, zeroTr] at hi'
                  subst hi'
                  go_simp
              case c2 => exact encTr_one zeroTr
              case c3 => unfold maxLen; omega
              case c4 => omega
              case c5 => simp; omega
              intro v' w9 hown' hgrow _
              have hA9 := (hA2.alloc hzr (.cells (encTr zeroTr).toArray 99)).grown hgrow (by simp; omega) (fun k hk => (Hown2.out.lt k hk).1)
              obtain ⟨g', cap', rfl⟩ := own_succ hown'
              have hg' : w.heap.size ≤ g' := (hown'.lt g' rfl).1
              have Hown9 : Hid (w9.ownsRow w.heap.size 99 9 (.slice (some ⟨g', 0, none⟩) (t.length + 1) cap') (t.length + 1) (cellsT (t.take t.length ++ zeroTr :: t.drop t.length))) := by
                show World.ownsRow _ _ _ _ _ _ _
                rw [List.take_length, List.drop_length]
                simpa [cellsT] using hown'
              clear hown' hgrow Hown2 hA2 hzr hBz hown
              go_wp2_with fail
              go_loopw [6] (fun jv wr => ∃ (j : Nat) (y : Tr), k ≤ j ∧ j ≤ t.length ∧ jv = .int .i64 j ∧ Hid (wr.ownsRow w.heap.size 99 9 (.slice (some ⟨g', 0, none⟩) (t.length + 1) cap') (t.length + 1) (cellsT (t.take j ++ y :: t.drop j))) ∧ RowKit.Below w.heap.size w wr) (fun jv wr => (intOf jv).toNat)
              case atStart => exact ⟨t.length, zeroTr, by omega, Nat.le_refl _, by go_num, Hown9.out, hA9⟩
              case round =>
                obtain ⟨j, y, hkj, hjt, rfl, hown4, hA4⟩ := hrel
                have hlen4 := ins_len t j y hjt
                have hown5 := hown4.out
                rw [← hlen4] at hown5
                by_cases hgt : k < j
                · obtain ⟨q, rfl⟩ : ∃ q, j = q + 1 := ⟨j - 1, by omega⟩
                  obtain ⟨e0, e1, e2, e3, e4, e5, e6, e7, e8⟩ := own_at hown5 q (by omega)
                  rw [ins_at t q y hjt] at e0 e1 e2 e3 e4 e5 e6 e7 e8
                  obtain ⟨z2, f0, f1, f2, f3, f4, f5, f6, f7, f8⟩ := own_some hown5 (q + 1) (by omega)
                  obtain ⟨m0, m1, m2, m3, m4, m5, m6, m7, m8⟩ := own_thaw9 hown5 (q + 1)
                  have hnew0 := own_set hown5 (q + 1) t[q]
                  rw [hlen4, ins_set t (q + 1) y _ hjt, ins_shift t q hjt] at hnew0
                  have hnew : Hid _ := hnew0
                  have hwr : IntKind.i64.wrap (((q + 1 : Nat) : Int) - 1) = (q : Int) := by simp [IntKind.wrap, IntKind.bits, IntKind.signed]; omega
                  have j0 : (0 : Int) ≤ (q : Int) := by omega
                  have j1 : (q : Int) < (t.length : Int) + 1 := by omega
                  have j2 : (q : Int) + 1 < (t.length : Int) + 1 := by omega
                  clear hown4 hown5 hlen4 hnew0
                  generalize t[q] = z at *
                  go_wp2_with fail
                  exact ⟨⟨q, z, by omega, by omega, rfl, hnew.out, below_set9 hA4 hg'⟩, by simp [intOf]⟩
                · obtain rfl : k = j := by omega
                  obtain ⟨b', o', hbo, hrow⟩ := (Hl.out.below hA4).at i hi
                  simp only [Option.some.injEq, Addr.mk.injEq, and_true] at hbo
                  obtain ⟨rfl, rfl⟩ := hbo
                  obtain ⟨e0, e1, e2, e3, e4, e5, e6, e7, e8⟩ := hrow.at i hi
                  obtain ⟨z2, f0, f1, f2, f3, f4, f5, f6, f7, f8⟩ := own_some hown5 (k) (by omega)
                  obtain ⟨m0, m1, m2, m3, m4, m5, m6, m7, m8⟩ := own_thaw9 hown5 (k)
                  have hnew0 := own_set hown5 (k) l[i]
                  rw [ins_set t (k) y _ hjt] at hnew0
                  rw [hlen4] at hnew0
                  have hfin : Hid (Rising (t.take (k) ++ l[i] :: t.drop (k)) ∧ ∀ x, x ∈ t.take (k) ++ l[i] :: t.drop (k) ↔ x ∈ l.take (i + 1)) :=
                    ⟨ins_rising t (k) l[i] Hri.out (flo.out hlt.out) hhi.out, fun x => (ins_mem t (k) l[i] x).trans (hmem.out x).symm⟩
                  have hlen5 : Hid ((t.take (k) ++ l[i] :: t.drop (k)).length = t.length + 1) := ins_len t (k) l[i] hjt
                  have hnew : Hid _ := hnew0
                  have j1 : ((k : Nat) : Int) < (t.length : Int) + 1 := by omega
                  have j0 : (0 : Int) ≤ ((k : Nat) : Int) := by omega
                  clear hown4 hown5 hlen4 hnew0 hrow
                  skip
                  generalize l[i] = z at *
                  go_wp2_with fail
                  refine ⟨⟨i + 1, t.take (k) ++ z :: t.drop (k), by omega, by go_num, hfin.out, by rw [hlen5.out]; omega, ?_, below_set9 hA4 hg'⟩, by simp [intOf]; omega⟩
                  show World.ownsRow _ _ _ _ _ _ _
                  rw [hlen5.out]
                  exact hnew.out
            · go_wp2_with fail
              go_region_held3 (fun W => W.cell? ⟨g, og + p * 9, none⟩ = some (.int .i64 x.1.1) ∧ W.cell? ⟨g, og + p * 9 + 1, none⟩ = some (.string ⟨x.1.2.1.toArray⟩) ∧ W.cell? ⟨g, og + p * 9 + 2, none⟩ = some (.string ⟨x.1.2.2.toArray⟩) ∧ W.cell? ⟨g, og + p * 9 + 3, none⟩ = some (.int .i64 x.2.1.1) ∧ W.cell? ⟨g, og + p * 9 + 4, none⟩ = some (.string ⟨x.2.1.2.1.toArray⟩) ∧ W.cell? ⟨g, og + p * 9 + 5, none⟩ = some (.string ⟨x.2.1.2.2.toArray⟩) ∧ W.cell? ⟨g, og + p * 9 + 6, none⟩ = some (.int .i64 x.2.2.1) ∧ W.cell? ⟨g, og + p * 9 + 7, none⟩ = some (.string ⟨x.2.2.2.1.toArray⟩) ∧ W.cell? ⟨g, og + p * 9 + 8, none⟩ = some (.string ⟨x.2.2.2.2.toArray⟩) ∧ W.cell? ⟨b, o + i * 9, none⟩ = some (.int .i64 y.1.1) ∧ W.cell? ⟨b, o + i * 9 + 1, none⟩ = some (.string ⟨y.1.2.1.toArray⟩) ∧ W.cell? ⟨b, o + i * 9 + 2, none⟩ = some (.string ⟨y.1.2.2.toArray⟩) ∧ W.cell? ⟨b, o + i * 9 + 3, none⟩ = some (.int .i64 y.2.1.1) ∧ W.cell? ⟨b, o + i * 9 + 4, none⟩ = some (.string ⟨y.2.1.2.1.toArray⟩) ∧ W.cell? ⟨b, o + i * 9 + 5, none⟩ = some (.string ⟨y.2.1.2.2.toArray⟩) ∧ W.cell? ⟨b, o + i * 9 + 6, none⟩ = some (.int .i64 y.2.2.1) ∧ W.cell? ⟨b, o + i * 9 + 7, none⟩ = some (.string ⟨y.2.2.2.1.toArray⟩) ∧ W.cell? ⟨b, o + i * 9 + 8, none⟩ = some (.string ⟨y.2.2.2.2.toArray⟩)) (first | exact keep18b (by assumption) hb4 | go_keep) (first
                | (go_at_call 69; refine (HC _).mono ?_; rintro e w4 ⟨rfl, hb4⟩))
              have hBz := bstep hB3.drew hb4
              go_wp2_with fail
              have hin := feq.out (by simpa using h0)
              refine ⟨⟨i + 1, t, by omega, by go_num, ⟨Hri.out, fun x => ?_⟩, by omega, ownsRow_belowS hown.out hBz, bstep hbr hBz⟩, by simp [intOf]; omega⟩
              rw [hmem.out x]
              constructor
              · exact Or.inl
              · rintro (h | h)
                · exact h
                · rw [h]; exact hin
          · go_wp2_with fail
            go_region_held3 (fun W => W.cell? ⟨g, og + p * 9, none⟩ = some (.int .i64 x.1.1) ∧ W.cell? ⟨g, og + p * 9 + 1, none⟩ = some (.string ⟨x.1.2.1.toArray⟩) ∧ W.cell? ⟨g, og + p * 9 + 2, none⟩ = some (.string ⟨x.1.2.2.toArray⟩) ∧ W.cell? ⟨g, og + p * 9 + 3, none⟩ = some (.int .i64 x.2.1.1) ∧ W.cell? ⟨g, og + p * 9 + 4, none⟩ = some (.string ⟨x.2.1.2.1.toArray⟩) ∧ W.cell? ⟨g, og + p * 9 + 5, none⟩ = some (.string ⟨x.2.1.2.2.toArray⟩) ∧ W.cell? ⟨g, og + p * 9 + 6, none⟩ = some (.int .i64 x.2.2.1) ∧ W.cell? ⟨g, og + p * 9 + 7, none⟩ = some (.string ⟨x.2.2.2.1.toArray⟩) ∧ W.cell? ⟨g, og + p * 9 + 8, none⟩ = some (.string ⟨x.2.2.2.2.toArray⟩) ∧ W.cell? ⟨b, o + i * 9, none⟩ = some (.int .i64 y.1.1) ∧ W.cell? ⟨b, o + i * 9 + 1, none⟩ = some (.string ⟨y.1.2.1.toArray⟩) ∧ W.cell? ⟨b, o + i * 9 + 2, none⟩ = some (.string ⟨y.1.2.2.toArray⟩) ∧ W.cell? ⟨b, o + i * 9 + 3, none⟩ = some (.int .i64 y.2.1.1) ∧ W.cell? ⟨b, o + i * 9 + 4, none⟩ = some (.string ⟨y.2.1.2.1.toArray⟩) ∧ W.cell? ⟨b, o + i * 9 + 5, none⟩ = some (.string ⟨y.2.1.2.2.toArray⟩) ∧ W.cell? ⟨b, o + i * 9 + 6, none⟩ = some (.int .i64 y.2.2.1) ∧ W.cell? ⟨b, o + i * 9 + 7, none⟩ = some (.string ⟨y.2.2.2.1.toArray⟩) ∧ W.cell? ⟨b, o + i * 9 + 8, none⟩ = some (.string ⟨y.2.2.2.2.toArray⟩)) (first | exact keep18b (by assumption) hb3 | go_keep) (first
              | (go_at_call 69; refine (HC _).mono ?_; rintro e w3 ⟨rfl, hb3⟩))
            go_wp2
            have hgt : 0 < c := by simpa using hcc
            exact ⟨⟨p, by omega, by first | rfl | go_num, fhi.out hgt, bstep hb2.drew hb3⟩, by have := Hkp.out; simp [intOf]; omega⟩
    · obtain rfl : i = l.length := by omega
      have hfin := ht.out
      rw [List.take_length] at hfin
      have Hfin : Hid _ := hfin
      have Hslt : Hid (SlT W1 at0 t) := hslt
      clear hfin ht hslt
      go_wp2_with fail
      go_ret
      exact ⟨t, at0, ct, rfl, Hslt.out, Hfin.out.1, Hfin.out.2, htl, hbr⟩
end Go.Proofs.YtnlcfnpcjkcdmafGreatDoor

/- The document's answer (package strataref1): In, Part. -/
namespace Go.Proofs.YtnlcfnpcjkcdmafGreatDoor
open Go Go.RowKit Go.Proofs
set_option synthInstance.maxSize 1000

theorem filter_stepP (l : List Tr) (p : Tr → Bool) (k : Nat) (h : k < l.length) : (l.take (k + 1)).filter p = (l.take k).filter p ++ (if p l[k] then [l[k]] else []) := by
  rw [List.take_succ_eq_append_getElem h, List.filter_append]
  cases hp : p l[k] <;> simp [hp]
theorem in_none {l : List Tr} {t : Tr} (h : ∀ j (hj : j < l.length), j < l.length → cmpTr l[j] t ≠ 0) : decide (t ∈ l) = false := by
  rw [decide_eq_false_iff_not]
  intro hm
  obtain ⟨j, hj, rfl⟩ := List.getElem_of_mem hm
  exact h j hj hj ((cmpTr_zero _ _).2 rfl)

set_option maxHeartbeats 4000000 in
set_option maxRecDepth 100000 in
theorem RIn_any (ad : Option Addr) (cap : Nat) (l : List Tr) (t : Tr) (w : World) (h : SlT w ad l) (hn : l.length ≤ 9223372036854775807) :
    Calls Tryz.prog 70 #[.slice ad l.length cap, valTr t] w fun e w' => e = .returned (.bool (decide (t ∈ l))) ∧ RowKit.Below w.heap.size w w' := by
  have Hl : Hid (SlT w ad l) := h
  clear h
  unfold valTr
  go_enter Tryz.func70, Tryz.ntmps70
  go_wp2_with fail
  go_loopw [5] (fun i wr => ∃ k : Nat, k ≤ l.length ∧ i = .int .i64 k ∧ Hid (∀ j (hj : j < l.length), j < k → cmpTr l[j] t ≠ 0) ∧ RowKit.Below (w.alloc (.cells (encTr t).toArray 99)).heap.size (w.alloc (.cells (encTr t).toArray 99)) wr) (fun i wr => l.length - (intOf i).toNat)
  case atStart => exact ⟨0, Nat.zero_le _, rfl, fun j hj h => by omega, RowKit.Below.refl _ _⟩
  case round =>
    obtain ⟨k, hk, rfl, hne, hbr⟩ := hrel
    by_cases hlt : k < l.length
    · obtain ⟨b, o, rfl, hrow⟩ := (Hl.out.below (bstep (balloc _ _) hbr)).at k hlt
      obtain ⟨c0, c1, c2, c3, c4, c5, c6, c7, c8⟩ := hrow.at k hlt
      obtain ⟨e0, e1, e2, e3, e4, e5, e6, e7, e8, hz9⟩ := ninebox hbr
      have i0 : (0 : Int) ≤ (k : Int) := by omega
      have i1 : (k : Int) < (l.length : Int) := by omega
      have HC := fun W => ROrder_any l[k] t W
      unfold valTr at HC
      have f0 : Hid (cmpTr l[k] t = 0 → decide (t ∈ l) = true) := fun h => by
        rw [decide_eq_true_eq, ← (cmpTr_zero _ _).1 h]
        exact List.getElem_mem hlt
      have f1 : Hid (cmpTr l[k] t ≠ 0 → ∀ j (hj : j < l.length), j < k + 1 → cmpTr l[j] t ≠ 0) := fun h j hj hle => by
        rcases Nat.lt_or_eq_of_le (Nat.le_of_lt_succ hle) with h1 | h1
        · exact hne.out j hj h1
        · subst h1; exact h
      generalize cmpTr l[k] t = c at HC f0 f1
      generalize l[k] = y at *
      clear hrow
      cases hc : (c == 0)
      · go_wp2_with fail
        go_region_held3 (fun W => W.cell? ⟨b, o + k * 9, none⟩ = some (.int .i64 y.1.1) ∧ W.cell? ⟨b, o + k * 9 + 1, none⟩ = some (.string ⟨y.1.2.1.toArray⟩) ∧ W.cell? ⟨b, o + k * 9 + 2, none⟩ = some (.string ⟨y.1.2.2.toArray⟩) ∧ W.cell? ⟨b, o + k * 9 + 3, none⟩ = some (.int .i64 y.2.1.1) ∧ W.cell? ⟨b, o + k * 9 + 4, none⟩ = some (.string ⟨y.2.1.2.1.toArray⟩) ∧ W.cell? ⟨b, o + k * 9 + 5, none⟩ = some (.string ⟨y.2.1.2.2.toArray⟩) ∧ W.cell? ⟨b, o + k * 9 + 6, none⟩ = some (.int .i64 y.2.2.1) ∧ W.cell? ⟨b, o + k * 9 + 7, none⟩ = some (.string ⟨y.2.2.2.1.toArray⟩) ∧ W.cell? ⟨b, o + k * 9 + 8, none⟩ = some (.string ⟨y.2.2.2.2.toArray⟩) ∧ W.cell? ⟨w.heap.size, 0, none⟩ = some (.int .i64 t.1.1) ∧ W.cell? ⟨w.heap.size, 1, none⟩ = some (.string ⟨t.1.2.1.toArray⟩) ∧ W.cell? ⟨w.heap.size, 2, none⟩ = some (.string ⟨t.1.2.2.toArray⟩) ∧ W.cell? ⟨w.heap.size, 3, none⟩ = some (.int .i64 t.2.1.1) ∧ W.cell? ⟨w.heap.size, 4, none⟩ = some (.string ⟨t.2.1.2.1.toArray⟩) ∧ W.cell? ⟨w.heap.size, 5, none⟩ = some (.string ⟨t.2.1.2.2.toArray⟩) ∧ W.cell? ⟨w.heap.size, 6, none⟩ = some (.int .i64 t.2.2.1) ∧ W.cell? ⟨w.heap.size, 7, none⟩ = some (.string ⟨t.2.2.2.1.toArray⟩) ∧ W.cell? ⟨w.heap.size, 8, none⟩ = some (.string ⟨t.2.2.2.2.toArray⟩)) (first | exact keep18b (by assumption) hb2 | go_keep) (first
          | (go_at_call 69; refine (HC _).mono ?_; rintro e w2 ⟨rfl, hb2⟩))
        go_wp2
        exact ⟨⟨k + 1, by omega, by go_num, f1.out (by simpa using hc), bstep hbr.drew hb2⟩, by simp [intOf]; omega⟩
      · go_wp2_with fail
        go_region_held3 (fun W => W.cell? ⟨b, o + k * 9, none⟩ = some (.int .i64 y.1.1) ∧ W.cell? ⟨b, o + k * 9 + 1, none⟩ = some (.string ⟨y.1.2.1.toArray⟩) ∧ W.cell? ⟨b, o + k * 9 + 2, none⟩ = some (.string ⟨y.1.2.2.toArray⟩) ∧ W.cell? ⟨b, o + k * 9 + 3, none⟩ = some (.int .i64 y.2.1.1) ∧ W.cell? ⟨b, o + k * 9 + 4, none⟩ = some (.string ⟨y.2.1.2.1.toArray⟩) ∧ W.cell? ⟨b, o + k * 9 + 5, none⟩ = some (.string ⟨y.2.1.2.2.toArray⟩) ∧ W.cell? ⟨b, o + k * 9 + 6, none⟩ = some (.int .i64 y.2.2.1) ∧ W.cell? ⟨b, o + k * 9 + 7, none⟩ = some (.string ⟨y.2.2.2.1.toArray⟩) ∧ W.cell? ⟨b, o + k * 9 + 8, none⟩ = some (.string ⟨y.2.2.2.2.toArray⟩) ∧ W.cell? ⟨w.heap.size, 0, none⟩ = some (.int .i64 t.1.1) ∧ W.cell? ⟨w.heap.size, 1, none⟩ = some (.string ⟨t.1.2.1.toArray⟩) ∧ W.cell? ⟨w.heap.size, 2, none⟩ = some (.string ⟨t.1.2.2.toArray⟩) ∧ W.cell? ⟨w.heap.size, 3, none⟩ = some (.int .i64 t.2.1.1) ∧ W.cell? ⟨w.heap.size, 4, none⟩ = some (.string ⟨t.2.1.2.1.toArray⟩) ∧ W.cell? ⟨w.heap.size, 5, none⟩ = some (.string ⟨t.2.1.2.2.toArray⟩) ∧ W.cell? ⟨w.heap.size, 6, none⟩ = some (.int .i64 t.2.2.1) ∧ W.cell? ⟨w.heap.size, 7, none⟩ = some (.string ⟨t.2.2.2.1.toArray⟩) ∧ W.cell? ⟨w.heap.size, 8, none⟩ = some (.string ⟨t.2.2.2.2.toArray⟩)) (first | exact keep18b (by assumption) hb2 | go_keep) (first
          | (go_at_call 69; refine (HC _).mono ?_; rintro e w2 ⟨rfl, hb2⟩))
        go_wp2
        go_ret
        exact ⟨ret_bool (f0.out (by simpa using hc)).symm, bstep (bstep (balloc _ _) hbr.drew) hb2⟩
    · obtain rfl : k = l.length := by omega
      go_wp2_with fail
      go_ret
      exact ⟨ret_bool (in_none hne.out).symm, bstep (balloc _ _) hbr⟩

/-- what of the one is, or is not, in the other -/
def partL (a b : List Tr) (is : Bool) : List Tr := a.filter fun x => decide (x ∈ b) == is
theorem part_both (a b : List Tr) : partL a b true = bothL a b := by unfold partL bothL; congr 1; funext x; simp
theorem part_less (a b : List Tr) : partL a b false = lessL a b := by unfold partL lessL; congr 1; funext x; cases decide (x ∈ b) <;> rfl

set_option maxHeartbeats 4000000 in
set_option maxRecDepth 100000 in
theorem RPart_any (ad bd : Option Addr) (ca cb : Nat) (a b : List Tr) (is : Bool) (w : World) (ha : SlT w ad a) (hb : SlT w bd b) (na : a.length ≤ 200) (nb : b.length ≤ 200) :
    Calls Tryz.prog 64 #[.slice ad a.length ca, .slice bd b.length cb, .bool is] w fun e w' => ∃ ad' c, e = .returned (.slice ad' (partL a b is).length c) ∧ SlT w' ad' (partL a b is) ∧ RowKit.Below w.heap.size w w' := by
  have Ha : Hid (SlT w ad a) := ha
  have Hb : Hid (SlT w bd b) := hb
  clear ha hb
  obtain ⟨i0, hi, hz⟩ := Option.map_eq_some_iff.1 infoTr
  simp only [Prod.mk.injEq] at hz
  obtain ⟨hz0, hz1, hz2⟩ := hz
  obtain ⟨p, hp⟩ : ∃ p : Tr → Bool, p = fun x => decide (x ∈ b) == is := ⟨_, rfl⟩
  have hpl : Hid (partL a b is = a.filter p) := by rw [hp]; rfl
  have Hp : Hid (∀ x, p x = (decide (x ∈ b) == is)) := fun x => by rw [hp]
  clear hp
  go_enter Tryz.func64, Tryz.ntmps64
  go_wp2_with fail
  go_loopw [7, 8] (fun v i wr => ∃ k : Nat, k ≤ a.length ∧ i = .int .i64 k ∧ Hid (wr.ownsRow w.heap.size 99 9 v ((a.take k).filter p).length (cellsT ((a.take k).filter p))) ∧ RowKit.Below w.heap.size w wr) (fun _ i wr => a.length - (intOf i).toNat)
  case atStart => exact ⟨0, Nat.zero_le _, rfl, by show World.ownsRow _ _ _ _ _ _ _; rw [List.take_zero]; exact World.ownsRow_nil _ _ _ _, RowKit.Below.refl _ _⟩
  case round =>
    obtain ⟨k, hk, rfl, hown, hbr⟩ := hrel
    by_cases hlt : k < a.length
    · obtain ⟨bq, o, rfl, hr⟩ := (Ha.out.below hbr).at k hlt
      obtain ⟨c0, c1, c2, c3, c4, c5, c6, c7, c8⟩ := hr.at k hlt
      have Hr : Hid (RowR wr bq o a) := hr
      have i0' : (0 : Int) ≤ (k : Int) := by omega
      have i1 : (k : Int) < (a.length : Int) := by omega
      have hstep : Hid _ := filter_stepP a p k hlt
      have hfil : ((a.take k).filter p).length ≤ k := Nat.le_trans (List.length_filter_le _ _) (by simp; omega)
      have H := fun W hW => RIn_any bd cb b a[k] W hW (by omega)
      have hpy := Hp.out a[k]
      have hzr := hbr.size
      generalize ht : (a.take (k + 1)).filter p = t1 at hstep
      have Ht : Hid _ := ht
      generalize (a.take k).filter p = t0 at *
      obtain ⟨y, hy⟩ : ∃ y, y = a[k] := ⟨_, rfl⟩
      have Hy : Hid (y = a[k]) := hy
      rw [← hy] at H hpy hstep c0 c1 c2 c3 c4 c5 c6 c7 c8
      unfold valTr at H
      clear hr ht hy
      generalize decide (y ∈ b) = d at *
      have Hpy : Hid (p y = (d == is)) := hpy
      clear hpy
      cases hdi : (d == is)
      · have hs2 : Hid (t1 = t0) := by have := hstep.out; rw [Hpy.out, hdi] at this; simpa [Hid] using this
        go_wp2_with fail
        refine (H _ (Hb.out.below hbr)).mono ?_
        rintro e w1 ⟨rfl, hb1⟩
        go_wp2_with fail
        go_roundw
        case rel =>
          refine ⟨k + 1, by omega, by go_num, ?_, bstep hbr hb1⟩
          show World.ownsRow _ _ _ _ _ _ _
          rw [Ht.out, hs2.out]
          exact ownsRow_belowS hown.out hb1
        case measure => simp [intOf]; omega
      · have hs2 : Hid (t1 = t0 ++ [y]) := by have := hstep.out; rw [Hpy.out, hdi] at this; simpa [Hid] using this
        go_wp2_with fail
        refine (H _ (Hb.out.below hbr)).mono ?_
        rintro e w1 ⟨rfl, hb1⟩
        have hrow1 : Hid (w1.ownsRow w.heap.size 99 9 _ t0.length (cellsT t0)) := ownsRow_belowS hown.out hb1
        have hB1 := bstep hbr hb1
        have hz1' := hB1.size
        clear c0 c1 c2 c3 c4 c5 c6 c7 c8 hown
        obtain ⟨c0, c1, c2, c3, c4, c5, c6, c7, c8⟩ := (Hr.out.below hb1).at k hlt
        rw [← Hy.out] at c0 c1 c2 c3 c4 c5 c6 c7 c8
        go_wp2_with (at_builtin; refine wpList_append_own _ rfl _ _ 28 rfl w.heap.size 99 i0 (.agg (encTr zeroTr).toArray) 9 120 Tryz.underlying28 hi hz0 hz1 hz2 rfl (by decide) _ _ _ rfl (hrow1.out.alloc _) ⟨w1.heap.size, 0, none⟩ 1 1 (encTr y) rfl rfl ?c1 ?c2 ?c3 ?c4 ?c5 ?_)
        case c1 =>
          intro i u hi'
          have h9 : i < 9 := (List.getElem?_eq_some_iff.1 hi').1
          rw [Addr.add_lit]
          rcases (by omega : i = 0 ∨ i = 1 ∨ i = 2 ∨ i = 3 ∨ i = 4 ∨ i = 5 ∨ i = 6 ∨ i = 7 ∨ i = 8) with rfl | rfl | rfl | rfl | rfl | rfl | rfl | rfl | rfl
          all_goals
            simp [encTr] at hi'
            subst hi'
            go_simp
        case c2 => exact encTr_one y
        case c3 => unfold maxLen; omega
        case c4 => omega
        case c5 => simp; omega
        intro v' w9 hown' hgrow _
        have hbel := (hB1.alloc hz1' (.cells (encTr y).toArray 99)).grown hgrow (by simp; omega) (fun k hk => (hrow1.out.lt k hk).1)
        go_wp2_with fail
        go_roundw
        case rel =>
          refine ⟨k + 1, by omega, by go_num, ?_, hbel⟩
          show World.ownsRow _ _ _ _ _ _ _
          rw [Ht.out, hs2.out]
          simpa [cellsT] using hown'
        case measure => simp [intOf]; omega
    · obtain rfl : k = a.length := by omega
      have hown' := hown.out
      rw [List.take_length, ← hpl.out] at hown'
      obtain ⟨ad', cap', rfl, hsl⟩ := own_slS hown'
      have Hsl : Hid _ := hsl
      clear hown' hown hsl
      go_wp2_with fail
      go_ret
      exact ⟨ad', cap', rfl, Hsl.out, hbr⟩

end Go.Proofs.YtnlcfnpcjkcdmafGreatDoor

/- The document's ReadPatch in memory: two boxes, two rows. -/
namespace Go.Proofs.YtnlcfnpcjkcdmafGreatDoor
open Go Go.RowKit Go.Proofs
set_option synthInstance.maxSize 1000

/-- a reading in memory: the answer's box, the layer's box and its two rows -/
structure PSt (w W : World) (va vt : Value) (l : LyP) : Prop where
  res : W.heap[w.heap.size]? = some (.cells #[.slice none 0 0, .slice none 0 0] 70)
  blk : W.heap[w.heap.size + 1]? = some (.cells #[va, vt] 70)
  add : W.ownsRow (w.heap.size + 2) 99 9 va l.1.length (cellsT l.1)
  take : W.ownsRow (w.heap.size + 2) 99 9 vt l.2.length (cellsT l.2)
  ne : ∀ j, va.ownBlock = some j → vt.ownBlock ≠ some j
  low : RowKit.Below w.heap.size w W
theorem rowQ_keep {w w' : World} {base : Nat} {e : TypeId} {sz : Nat} {v : Value} {n : Nat} {cs : List Value} (h : w.ownsRow base e sz v n cs) (hb : ∀ j, v.ownBlock = some j → w'.heap[j]? = w.heap[j]?) : w'.ownsRow base e sz v n cs := by
  refine ⟨h.1, ?_⟩
  rcases h.2 with h0 | ⟨g, cap, cur, hv, hg, hm, r⟩
  · exact Or.inl h0
  · exact Or.inr ⟨g, cap, cur, hv, hg, (hb g (by rw [hv]; rfl)).trans hm, r⟩
theorem PSt.lt {w W : World} {va vt : Value} {l : LyP} (h : PSt w W va vt l) : w.heap.size + 1 < W.heap.size := (Array.getElem?_eq_some_iff.1 h.blk).1
theorem PSt.below {w W W' : World} {va vt : Value} {l : LyP} (h : PSt w W va vt l) (hb : RowKit.Below W.heap.size W W') : PSt w W' va vt l := by
  have hz := h.lt
  exact ⟨(hb.block _ (by omega)).trans h.res, (hb.block _ hz).trans h.blk, ownsO_below h.add hb, ownsO_below h.take hb, h.ne, bstep h.low hb⟩
theorem PSt.cells {w W : World} {va vt : Value} {l : LyP} (h : PSt w W va vt l) : W.cell? ⟨w.heap.size, 0, none⟩ = some (.slice none 0 0) ∧ W.cell? ⟨w.heap.size, 1, none⟩ = some (.slice none 0 0) ∧ W.frozen? ⟨w.heap.size, 0, none⟩ = false ∧ W.frozen? ⟨w.heap.size, 1, none⟩ = false ∧ W.cell? ⟨w.heap.size + 1, 0, none⟩ = some va ∧ W.cell? ⟨w.heap.size + 1, 1, none⟩ = some vt ∧ W.frozen? ⟨w.heap.size + 1, 0, none⟩ = false ∧ W.frozen? ⟨w.heap.size + 1, 1, none⟩ = false := by
  have h1 := h.res
  have h2 := h.blk
  refine ⟨?_, ?_, ?_, ?_, ?_, ?_, ?_, ?_⟩ <;> simp [World.cell?, World.frozen?, h1, h2]
theorem PSt.start (w : World) : PSt w ((w.alloc (.cells #[.slice none 0 0, .slice none 0 0] 70)).alloc (.cells #[.slice none 0 0, .slice none 0 0] 70)) (.slice none 0 0) (.slice none 0 0) ([], []) := by
  refine ⟨?_, ?_, World.ownsRow_nil _ _ _ _, World.ownsRow_nil _ _ _ _, fun j hj => (by cases hj), bstep (balloc _ _) (balloc _ _)⟩
  · show ((w.heap.push _).push _)[w.heap.size]? = _
    rw [Array.getElem?_push, if_neg (by simp), Array.getElem?_push, if_pos rfl]
  · show ((w.heap.push _).push _)[w.heap.size + 1]? = _
    rw [Array.getElem?_push, if_pos (by simp)]
/-- one more in the list that is added, in the one that is taken -/
theorem PSt.more {w W W9 : World} {va vt : Value} {l : LyP} {x : Tr} {g cap : Nat} {k : Bool} (h : PSt w W va vt l) (hrow : W9.ownsRow (w.heap.size + 2) 99 9 (.slice (some ⟨g, 0, none⟩) ((mineP l k).length + 1) cap) ((mineP l k).length + 1) (cellsT (mineP l k) ++ encTr x)) (hg : W.grownBy W9 (if k = true then vt else va).ownBlock) (hat : (if k = true then vt else va).ownBlock = some g ∨ W.heap.size ≤ g) :
    PSt w (W9.setCell ⟨w.heap.size + 1, if k = true then 1 else 0, none⟩ (.slice (some ⟨g, 0, none⟩) ((mineP l k).length + 1) cap)) (if k = true then va else .slice (some ⟨g, 0, none⟩) ((mineP l k).length + 1) cap) (if k = true then .slice (some ⟨g, 0, none⟩) ((mineP l k).length + 1) cap else vt) (moreP l k x) := by
  have hz := h.lt
  have hza := fun j hj => (h.add.lt j hj)
  have hzt := fun j hj => (h.take.lt j hj)
  have hg2 : w.heap.size + 2 ≤ g := by
    rcases hat with e | e
    · cases k with
      | true => exact (hzt g e).1
      | false => exact (hza g e).1
    · omega
  have hk : ∀ j, j ≠ w.heap.size + 1 → ∀ (o : Nat) (v : Value), (W9.setCell ⟨w.heap.size + 1, o, none⟩ v).heap[j]? = W9.heap[j]? := fun j hj o v => heap_setCell_other _ _ _ _ hj
  have hn : ∀ j, j < W.heap.size → (if k = true then vt else va).ownBlock ≠ some j → W9.heap[j]? = W.heap[j]? := fun j h1 h2 => hg.block j h1 (fun e => h2 e.symm)
  have e2 : cellsT (mineP l k ++ [x]) = cellsT (mineP l k) ++ encTr x := by simp [cellsT]
  have hlow : RowKit.Below w.heap.size w W9 := h.low.grown hg (by omega) (fun j e => by
    cases k with
    | true => have := (hzt j e).1; omega
    | false => have := (hza j e).1; omega)
  have hb9 : W9.heap[w.heap.size + 1]? = some (.cells #[va, vt] 70) := (hn _ hz (fun e => by
    cases k with
    | true => have := (hzt _ e).1; omega
    | false => have := (hza _ e).1; omega)).trans h.blk
  have hr9 : W9.heap[w.heap.size]? = some (.cells #[.slice none 0 0, .slice none 0 0] 70) := (hn _ (by omega) (fun e => by
    cases k with
    | true => have := (hzt _ e).1; omega
    | false => have := (hza _ e).1; omega)).trans h.res
  cases k with
  | true =>
    simp only [if_true] at hn hat ⊢
    have hm : mineP l true = l.2 := rfl
    rw [hm] at hrow e2 ⊢
    refine ⟨(hk _ (by omega) _ _).trans hr9, ?_, rowQ_keep (w := W) h.add fun j hj => (hk j (by have := (hza j hj).1; omega) _ _).trans (hn j (hza j hj).2 (h.ne j hj)), ?_, fun j hj e => ?_, hlow.setCell (p := ⟨w.heap.size + 1, 1, none⟩) (by show w.heap.size ≤ w.heap.size + 1; omega) _⟩
    · have := heap_setCell_same W9 (w.heap.size + 1) 1 _ _ (.slice (some ⟨g, 0, none⟩) (l.2.length + 1) cap) hb9
      simpa using this
    · show World.ownsRow _ _ _ _ _ (l.2 ++ [x]).length (cellsT (l.2 ++ [x]))
      rw [List.length_append, e2]
      exact rowQ_keep hrow fun j hj => hk j (by have hj : some g = some j := hj; cases hj; omega) _ _
    · have e : some g = some j := e
      cases e
      rcases hat with h1 | h1
      · exact h.ne g hj h1
      · have := (hza g hj).2; omega
  | false =>
    simp only [Bool.false_eq_true, if_false] at hn hat ⊢
    have hm : mineP l false = l.1 := rfl
    rw [hm] at hrow e2 ⊢
    refine ⟨(hk _ (by omega) _ _).trans hr9, ?_, ?_, rowQ_keep (w := W) h.take fun j hj => (hk j (by have := (hzt j hj).1; omega) _ _).trans (hn j (hzt j hj).2 (fun e => h.ne j e hj)), fun j hj e => ?_, hlow.setCell (p := ⟨w.heap.size + 1, 0, none⟩) (by show w.heap.size ≤ w.heap.size + 1; omega) _⟩
    · have := heap_setCell_same W9 (w.heap.size + 1) 0 _ _ (.slice (some ⟨g, 0, none⟩) (l.1.length + 1) cap) hb9
      simpa using this
    · show World.ownsRow _ _ _ _ _ (l.1 ++ [x]).length (cellsT (l.1 ++ [x]))
      rw [List.length_append, e2]
      exact rowQ_keep hrow fun j hj => hk j (by have hj : some g = some j := hj; cases hj; omega) _ _
    · have hj : some g = some j := hj
      cases hj
      rcases hat with h1 | h1
      · exact h.ne g h1 e
      · have := (hzt g e).2; omega

/-- what is answered -/
def ReadPAns (w : World) (s : List UInt8) (e : Ending) (w' : World) : Prop := ∃ a1 c1 a2 c2, e = .returned (.tuple #[.agg #[.slice a1 (parseP s).2.2.1.length c1, .slice a2 (parseP s).2.2.2.length c2], .int .i64 ((parseP s).2.1 : Int), .int .i64 (parseP s).1]) ∧ SlT w' a1 (parseP s).2.2.1 ∧ SlT w' a2 (parseP s).2.2.2 ∧ RowKit.Below w.heap.size w w'
theorem readP_bad {w w' : World} {s : List UInt8} {N : Int} {n : Nat} (h : parseP s = (N, n, ([], []))) (hb : RowKit.Below w.heap.size w w') : ReadPAns w s (.returned (.tuple #[.agg #[.slice none 0 0, .slice none 0 0], .int .i64 (n : Int), .int .i64 N])) w' := by
  unfold ReadPAns
  rw [h]
  exact ⟨none, 0, none, 0, rfl, fun h => absurd rfl h, fun h => absurd rfl h, hb⟩
theorem readP_good {w w' : World} {s : List UInt8} {l : LyP} {a1 a2 : Option Addr} {c1 c2 : Nat} (h : parseP s = (0, 0, l)) (h1 : SlT w' a1 l.1) (h2 : SlT w' a2 l.2) (hb : RowKit.Below w.heap.size w w') : ReadPAns w s (.returned (.tuple #[.agg #[.slice a1 l.1.length c1, .slice a2 l.2.length c2], .int .i64 0, .int .i64 0])) w' := by
  unfold ReadPAns
  rw [h]
  exact ⟨a1, c1, a2, c2, rfl, h1, h2, hb⟩
theorem belowP {w W : World} {b o : Nat} {v : Value} (h : RowKit.Below w.heap.size w W) (hb : w.heap.size ≤ b) : RowKit.Below w.heap.size w (W.setCell ⟨b, o, none⟩ v) := h.setCell (p := ⟨b, o, none⟩) hb v
theorem midP (s : List UInt8) (i j : Nat) : (⟨s.toArray⟩ : ByteArray).extract (i + 2) j = ⟨((s.drop (i + 2)).take (j - (i + 2))).toArray⟩ := by
  rw [mid_extract, List.drop_take]
theorem byte_ne {c : UInt8} {n : Nat} (hn : n < 256) (h : c ≠ UInt8.ofNat n) : (c.toNat : Int) ≠ (n : Int) := fun e => h (UInt8.toNat.inj (by
  have : (UInt8.ofNat n).toNat = n := by simp; omega
  omega))
theorem newTr (W : World) (x : Tr) : ∀ (j : Nat) u, (encTr x)[j]? = some u → (W.alloc (.cells (encTr x).toArray 99)).cell? (Addr.add ⟨W.heap.size, 0, none⟩ j) = some u := fun j u hu => by
  have h9 : j < 9 := (List.getElem?_eq_some_iff.1 hu).1
  rw [Addr.add_lit]
  rcases (by omega : j = 0 ∨ j = 1 ∨ j = 2 ∨ j = 3 ∨ j = 4 ∨ j = 5 ∨ j = 6 ∨ j = 7 ∨ j = 8) with rfl | rfl | rfl | rfl | rfl | rfl | rfl | rfl | rfl
  all_goals
    simp [encTr] at hu
    subst hu
    unfold encTr
    go_simp

theorem slT_of {W : World} {base : Nat} {e : TypeId} {ad : Option Addr} {c : Nat} {t : List Tr} (h : W.ownsRow base e 9 (.slice ad t.length c) t.length (cellsT t)) : SlT W ad t := by
  obtain ⟨ad', c', e, hs⟩ := own_slT h
  obtain ⟨rfl, _, _⟩ := Value.slice.inj e
  exact hs
/-- a triple in a box -/
def TripB (W : World) (b : Nat) (x : Tr) : Prop := ∀ j v, (encTr x)[j]? = some v → W.cell? ⟨b, j, none⟩ = some v
theorem TripB.below {W W' : World} {b : Nat} {x : Tr} (h : TripB W b x) (hb : RowKit.Below W.heap.size W W') : TripB W' b x := fun j v hv => (hb.cell (World.block_lt_of_cell? W _ (h j v hv))).trans (h j v hv)
theorem TripB.new (W : World) (x : Tr) : TripB (W.alloc (.cells (encTr x).toArray 99)) W.heap.size x := fun j v hv => by
  have := newTr W x j v hv
  rw [Addr.add_lit, Nat.zero_add] at this
  exact this
theorem TripB.all {W : World} {b : Nat} {x : Tr} (h : TripB W b x) : W.cell? ⟨b, 0, none⟩ = some (.int .i64 x.1.1) ∧ W.cell? ⟨b, 1, none⟩ = some (.string ⟨x.1.2.1.toArray⟩) ∧ W.cell? ⟨b, 2, none⟩ = some (.string ⟨x.1.2.2.toArray⟩) ∧ W.cell? ⟨b, 3, none⟩ = some (.int .i64 x.2.1.1) ∧ W.cell? ⟨b, 4, none⟩ = some (.string ⟨x.2.1.2.1.toArray⟩) ∧ W.cell? ⟨b, 5, none⟩ = some (.string ⟨x.2.1.2.2.toArray⟩) ∧ W.cell? ⟨b, 6, none⟩ = some (.int .i64 x.2.2.1) ∧ W.cell? ⟨b, 7, none⟩ = some (.string ⟨x.2.2.2.1.toArray⟩) ∧ W.cell? ⟨b, 8, none⟩ = some (.string ⟨x.2.2.2.2.toArray⟩) :=
  ⟨h 0 _ rfl, h 1 _ rfl, h 2 _ rfl, h 3 _ rfl, h 4 _ rfl, h 5 _ rfl, h 6 _ rfl, h 7 _ rfl, h 8 _ rfl⟩
theorem stuck_last {m : List Tr} {x : Tr} {p : Nat} (hp : m.length = p + 1) (hl : p < m.length) : stuckB m x = decide (0 ≤ cmpTr m[p] x) := by
  have hg : m.getLast? = some m[p] := by
    rw [List.getLast?_eq_getElem?, hp, Nat.add_sub_cancel, List.getElem?_eq_getElem hl]
  unfold stuckB
  rw [hg]
theorem more_cells {w W W9 : World} {va vt : Value} {l : LyP} {k : Bool} (h : PSt w W va vt l) (hg : W.grownBy W9 (if k = true then vt else va).ownBlock) : W9.cell? ⟨w.heap.size + 1, 0, none⟩ = some va ∧ W9.cell? ⟨w.heap.size + 1, 1, none⟩ = some vt ∧ W9.frozen? ⟨w.heap.size + 1, 0, none⟩ = false ∧ W9.frozen? ⟨w.heap.size + 1, 1, none⟩ = false ∧ w.heap.size + 1 < W9.heap.size := by
  have hb9 : W9.heap[w.heap.size + 1]? = some (.cells #[va, vt] 70) := (hg.block _ h.lt (fun e => by
    cases k with
    | true => have := (h.take.lt _ e.symm).1; omega
    | false => have := (h.add.lt _ e.symm).1; omega)).trans h.blk
  refine ⟨?_, ?_, ?_, ?_, (Array.getElem?_eq_some_iff.1 hb9).1⟩ <;> simp [World.cell?, World.frozen?, hb9]
theorem trip_stuck {l : LyP} {k : Bool} {x : Tr} (h : stuckB (mineP l k) x = true) : tripP l k x = 6 := by unfold tripP; rw [if_pos h]
theorem trip_in {l : LyP} {k : Bool} {x : Tr} (h : stuckB (mineP l k) x = false) (h2 : x ∈ otherP l k) : tripP l k x = 7 := by unfold tripP; rw [if_neg (by rw [h]; decide), if_pos h2]
theorem trip_full {l : LyP} {k : Bool} {x : Tr} (h : stuckB (mineP l k) x = false) (h2 : ¬ x ∈ otherP l k) (h3 : 200 ≤ (mineP l k).length) : tripP l k x = 4 := by unfold tripP; rw [if_neg (by rw [h]; decide), if_neg h2, if_pos h3]
theorem trip_ok {l : LyP} {k : Bool} {x : Tr} (h : stuckB (mineP l k) x = false) (h2 : ¬ x ∈ otherP l k) (h3 : ¬ 200 ≤ (mineP l k).length) : tripP l k x = 0 := by unfold tripP; rw [if_neg (by rw [h]; decide), if_neg h2, if_neg h3]
end Go.Proofs.YtnlcfnpcjkcdmafGreatDoor
