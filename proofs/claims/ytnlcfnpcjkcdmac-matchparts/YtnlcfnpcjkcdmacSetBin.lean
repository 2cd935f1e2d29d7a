/- slices.BinarySearchFunc at triples, by triple.Compare. -/
import Derived.Test.YtnlcfnpcjkcdmacSetPlain
import Derived.Shelf.SlSortCmp.QuietGrown
namespace Go.Proofs.Ytnlcfnpcjkcdmac
open Go Go.RowKit Go.Proofs Go.Sort
set_option synthInstance.maxSize 1000

theorem bin_step {l : List Tr} (hr : Rising l) (t : Tr) (h : Nat) (hh : h < l.length) :
    (cmpTr l[h] t < 0 → ∀ j (hj : j < l.length), j ≤ h → cmpTr l[j] t < 0) ∧ (0 ≤ cmpTr l[h] t → ∀ j (hj : j < l.length), h ≤ j → 0 ≤ cmpTr l[j] t) := by
  refine ⟨fun hc j hj hle => ?_, fun hc j hj hle => ?_⟩
  · rcases Nat.lt_or_eq_of_le hle with h1 | h1
    · exact cmpTr_lt_trans (List.pairwise_iff_getElem.1 hr j h hj hh h1) hc
    · subst h1; exact hc
  · rcases Nat.lt_or_eq_of_le hle with h1 | h1
    · have h2 := List.pairwise_iff_getElem.1 hr h j hh hj h1
      refine Int.not_lt.1 fun h3 => ?_
      have := cmpTr_lt_trans h2 h3
      omega
    · subst h1; exact hc

theorem bin_found {l : List Tr} (hr : Rising l) (t : Tr) (i : Nat) (hlo : ∀ j (hj : j < l.length), j < i → cmpTr l[j] t < 0) (hhi : ∀ j (hj : j < l.length), i ≤ j → 0 ≤ cmpTr l[j] t) (hi : i < l.length) :
    decide (t ∈ l) = (cmpTr l[i] t == 0) := by
  rw [Bool.eq_iff_iff, decide_eq_true_eq, beq_iff_eq, cmpTr_zero]
  constructor
  · intro h
    obtain ⟨j, hj, rfl⟩ := List.getElem_of_mem h
    rcases Nat.lt_trichotomy j i with h1 | h1 | h1
    · have := hlo j hj h1
      have := (cmpTr_zero l[j] l[j]).2 rfl
      omega
    · subst h1; rfl
    · have h2 := List.pairwise_iff_getElem.1 hr i j hi hj h1
      have := hhi i hi (Nat.le_refl _)
      omega
  · intro h
    rw [← h]
    exact List.getElem_mem hi
theorem bin_none {l : List Tr} (t : Tr) (hlo : ∀ j (hj : j < l.length), j < l.length → cmpTr l[j] t < 0) : decide (t ∈ l) = false := by
  rw [decide_eq_false_iff_not]
  intro h
  obtain ⟨j, hj, rfl⟩ := List.getElem_of_mem h
  have := hlo j hj hj
  have := (cmpTr_zero l[j] l[j]).2 rfl
  omega

set_option maxHeartbeats 4000000 in
set_option maxRecDepth 100000 in
theorem Bin_any (ad : Option Addr) (cap : Nat) (l : List Tr) (t : Tr) (w : World) (h : SlT w ad l) (hr : Rising l) (h200 : l.length ≤ 200) :
    Calls Try.prog 26 #[.slice ad l.length cap, valTr t, .func (.func 25) #[] #[]] w
      fun e w' => ∃ i : Int, e = .returned (.tuple #[.int .i64 i, .bool (decide (t ∈ l))]) ∧ RowKit.Below w.heap.size w w' := by
  have Hl : Hid (SlT w ad l) := h
  have Hr : Hid (Rising l) := hr
  have eg := enters25
  clear h hr
  unfold valTr
  go_enter Try.func26, Try.ntmps26
  go_wp2_with fail
  go_loopw [9, 10] (fun i j wr => ∃ p q : Nat, p ≤ q ∧ q ≤ l.length ∧ i = .int .i64 p ∧ j = .int .i64 q ∧ Hid ((∀ m (hm : m < l.length), m < p → cmpTr l[m] t < 0) ∧ (∀ m (hm : m < l.length), q ≤ m → 0 ≤ cmpTr l[m] t)) ∧ RowKit.Below (w.alloc (.cells (encTr t).toArray 30)).heap.size (w.alloc (.cells (encTr t).toArray 30)) wr) (fun i j wr => (intOf j - intOf i).toNat)
  case atStart => exact ⟨0, l.length, by omega, by omega, rfl, rfl, ⟨fun m hm h => by omega, fun m hm h => by omega⟩, RowKit.Below.refl _ _⟩
  case round =>
    obtain ⟨p, q, hpq, hq, rfl, rfl, hH, hbr⟩ := hrel
    by_cases hlt : p < q
    · obtain ⟨m, hmd⟩ : ∃ m, m = (p + q) / 2 := ⟨_, rfl⟩
      have hpm : p ≤ m := by omega
      have hmq : m < q := by omega
      have hml : m < l.length := by omega
      have hhalf : ((p : Int) + (q : Int)) / 2 = (m : Int) := by omega
      obtain ⟨b, o, rfl, hrow⟩ := (Hl.out.below (bstep (balloc _ _) hbr)).at m hml
      obtain ⟨d0, d1, d2, d3, d4, d5, d6, d7, d8⟩ := hrow.at m hml
      obtain ⟨e0, e1, e2, e3, e4, e5, e6, e7, e8, hz9⟩ := ninebox hbr
      have i0 : (0 : Int) ≤ (m : Int) := by omega
      have i1 : (m : Int) < (l.length : Int) := by omega
      have HC := fun W => CmpTr_any l[m] t W
      obtain ⟨s1, s2⟩ := bin_step Hr.out t m hml
      have S1 : Hid _ := s1
      have S2 : Hid _ := s2
      have Hmd : Hid (m = (p + q) / 2) := hmd
      clear hrow s1 s2 hmd
      unfold valTr at HC
      generalize hcv : cmpTr l[m] t = c at *
      generalize l[m] = y at *
      cases hcc : decide (c < 0)
      · have hcn : Hid (0 ≤ c) := by simp at hcc; exact hcc
        go_wp2_with fail
        go_region_held3 (fun W => W.cell? ⟨b, o + m * 9, none⟩ = some (.int .i64 y.1.1) ∧ W.cell? ⟨b, o + m * 9 + 1, none⟩ = some (.string ⟨y.1.2.1.toArray⟩) ∧ W.cell? ⟨b, o + m * 9 + 2, none⟩ = some (.string ⟨y.1.2.2.toArray⟩) ∧ W.cell? ⟨b, o + m * 9 + 3, none⟩ = some (.int .i64 y.2.1.1) ∧ W.cell? ⟨b, o + m * 9 + 4, none⟩ = some (.string ⟨y.2.1.2.1.toArray⟩) ∧ W.cell? ⟨b, o + m * 9 + 5, none⟩ = some (.string ⟨y.2.1.2.2.toArray⟩) ∧ W.cell? ⟨b, o + m * 9 + 6, none⟩ = some (.int .i64 y.2.2.1) ∧ W.cell? ⟨b, o + m * 9 + 7, none⟩ = some (.string ⟨y.2.2.2.1.toArray⟩) ∧ W.cell? ⟨b, o + m * 9 + 8, none⟩ = some (.string ⟨y.2.2.2.2.toArray⟩) ∧ W.cell? ⟨w.heap.size, 0, none⟩ = some (.int .i64 t.1.1) ∧ W.cell? ⟨w.heap.size, 1, none⟩ = some (.string ⟨t.1.2.1.toArray⟩) ∧ W.cell? ⟨w.heap.size, 2, none⟩ = some (.string ⟨t.1.2.2.toArray⟩) ∧ W.cell? ⟨w.heap.size, 3, none⟩ = some (.int .i64 t.2.1.1) ∧ W.cell? ⟨w.heap.size, 4, none⟩ = some (.string ⟨t.2.1.2.1.toArray⟩) ∧ W.cell? ⟨w.heap.size, 5, none⟩ = some (.string ⟨t.2.1.2.2.toArray⟩) ∧ W.cell? ⟨w.heap.size, 6, none⟩ = some (.int .i64 t.2.2.1) ∧ W.cell? ⟨w.heap.size, 7, none⟩ = some (.string ⟨t.2.2.2.1.toArray⟩) ∧ W.cell? ⟨w.heap.size, 8, none⟩ = some (.string ⟨t.2.2.2.2.toArray⟩)) (first | exact keep18 (by assumption) hb2 | go_keep) (first
          | (go_at_fn 25; refine (HC _).mono ?_; rintro e w2 ⟨rfl, hb2⟩))
        go_wp2
        exact ⟨⟨p, m, hpm, by omega, rfl, rfl, ⟨hH.out.1, fun j hj hle => S2.out hcn.out j hj hle⟩, bstep hbr.drew hb2.below⟩, by simp [intOf]; omega⟩
      · have hcn : Hid (c < 0) := by simpa [Hid] using hcc
        go_wp2_with fail
        go_region_held3 (fun W => W.cell? ⟨b, o + m * 9, none⟩ = some (.int .i64 y.1.1) ∧ W.cell? ⟨b, o + m * 9 + 1, none⟩ = some (.string ⟨y.1.2.1.toArray⟩) ∧ W.cell? ⟨b, o + m * 9 + 2, none⟩ = some (.string ⟨y.1.2.2.toArray⟩) ∧ W.cell? ⟨b, o + m * 9 + 3, none⟩ = some (.int .i64 y.2.1.1) ∧ W.cell? ⟨b, o + m * 9 + 4, none⟩ = some (.string ⟨y.2.1.2.1.toArray⟩) ∧ W.cell? ⟨b, o + m * 9 + 5, none⟩ = some (.string ⟨y.2.1.2.2.toArray⟩) ∧ W.cell? ⟨b, o + m * 9 + 6, none⟩ = some (.int .i64 y.2.2.1) ∧ W.cell? ⟨b, o + m * 9 + 7, none⟩ = some (.string ⟨y.2.2.2.1.toArray⟩) ∧ W.cell? ⟨b, o + m * 9 + 8, none⟩ = some (.string ⟨y.2.2.2.2.toArray⟩) ∧ W.cell? ⟨w.heap.size, 0, none⟩ = some (.int .i64 t.1.1) ∧ W.cell? ⟨w.heap.size, 1, none⟩ = some (.string ⟨t.1.2.1.toArray⟩) ∧ W.cell? ⟨w.heap.size, 2, none⟩ = some (.string ⟨t.1.2.2.toArray⟩) ∧ W.cell? ⟨w.heap.size, 3, none⟩ = some (.int .i64 t.2.1.1) ∧ W.cell? ⟨w.heap.size, 4, none⟩ = some (.string ⟨t.2.1.2.1.toArray⟩) ∧ W.cell? ⟨w.heap.size, 5, none⟩ = some (.string ⟨t.2.1.2.2.toArray⟩) ∧ W.cell? ⟨w.heap.size, 6, none⟩ = some (.int .i64 t.2.2.1) ∧ W.cell? ⟨w.heap.size, 7, none⟩ = some (.string ⟨t.2.2.2.1.toArray⟩) ∧ W.cell? ⟨w.heap.size, 8, none⟩ = some (.string ⟨t.2.2.2.2.toArray⟩)) (first | exact keep18 (by assumption) hb2 | go_keep) (first
          | (go_at_fn 25; refine (HC _).mono ?_; rintro e w2 ⟨rfl, hb2⟩))
        go_wp2
        exact ⟨⟨m + 1, q, by omega, hq, by go_num, rfl, ⟨fun j hj hle => S1.out hcn.out j hj (by omega), hH.out.2⟩, bstep hbr.drew hb2.below⟩, by simp [intOf]; omega⟩
    · obtain rfl : p = q := by omega
      by_cases hpl : p < l.length
      · obtain ⟨b, o, rfl, hrow⟩ := (Hl.out.below (bstep (balloc _ _) hbr)).at p hpl
        obtain ⟨d0, d1, d2, d3, d4, d5, d6, d7, d8⟩ := hrow.at p hpl
        obtain ⟨e0, e1, e2, e3, e4, e5, e6, e7, e8, hz9⟩ := ninebox hbr
        have i0 : (0 : Int) ≤ (p : Int) := by omega
        have i1 : (p : Int) < (l.length : Int) := by omega
        have HC := fun W => CmpTr_any l[p] t W
        have fin : Hid (decide (t ∈ l) = (cmpTr l[p] t == 0)) := bin_found Hr.out t p hH.out.1 hH.out.2 hpl
        clear hrow hH
        unfold valTr at HC
        generalize cmpTr l[p] t = c at *
        generalize l[p] = y at *
        go_wp2_with fail
        go_region_held3 (fun W => W.cell? ⟨b, o + p * 9, none⟩ = some (.int .i64 y.1.1) ∧ W.cell? ⟨b, o + p * 9 + 1, none⟩ = some (.string ⟨y.1.2.1.toArray⟩) ∧ W.cell? ⟨b, o + p * 9 + 2, none⟩ = some (.string ⟨y.1.2.2.toArray⟩) ∧ W.cell? ⟨b, o + p * 9 + 3, none⟩ = some (.int .i64 y.2.1.1) ∧ W.cell? ⟨b, o + p * 9 + 4, none⟩ = some (.string ⟨y.2.1.2.1.toArray⟩) ∧ W.cell? ⟨b, o + p * 9 + 5, none⟩ = some (.string ⟨y.2.1.2.2.toArray⟩) ∧ W.cell? ⟨b, o + p * 9 + 6, none⟩ = some (.int .i64 y.2.2.1) ∧ W.cell? ⟨b, o + p * 9 + 7, none⟩ = some (.string ⟨y.2.2.2.1.toArray⟩) ∧ W.cell? ⟨b, o + p * 9 + 8, none⟩ = some (.string ⟨y.2.2.2.2.toArray⟩) ∧ W.cell? ⟨w.heap.size, 0, none⟩ = some (.int .i64 t.1.1) ∧ W.cell? ⟨w.heap.size, 1, none⟩ = some (.string ⟨t.1.2.1.toArray⟩) ∧ W.cell? ⟨w.heap.size, 2, none⟩ = some (.string ⟨t.1.2.2.toArray⟩) ∧ W.cell? ⟨w.heap.size, 3, none⟩ = some (.int .i64 t.2.1.1) ∧ W.cell? ⟨w.heap.size, 4, none⟩ = some (.string ⟨t.2.1.2.1.toArray⟩) ∧ W.cell? ⟨w.heap.size, 5, none⟩ = some (.string ⟨t.2.1.2.2.toArray⟩) ∧ W.cell? ⟨w.heap.size, 6, none⟩ = some (.int .i64 t.2.2.1) ∧ W.cell? ⟨w.heap.size, 7, none⟩ = some (.string ⟨t.2.2.2.1.toArray⟩) ∧ W.cell? ⟨w.heap.size, 8, none⟩ = some (.string ⟨t.2.2.2.2.toArray⟩)) (first | exact keep18 (by assumption) hb2 | go_keep) (first
          | (go_at_fn 25; refine (HC _).mono ?_; rintro e w2 ⟨rfl, hb2⟩))
        go_wp2
        refine bodyPost_ret (v := .tuple #[.int .i64 p, .bool (decide (t ∈ l))]) (by simp [results, Try.results26, go_sem, fin.out]) rfl ⟨_, rfl, bstep (balloc _ _) (bstep hbr.drew hb2.below)⟩
      · obtain rfl : p = l.length := by omega
        have fin : Hid (decide (t ∈ l) = false) := bin_none t hH.out.1
        clear hH
        go_wp2_with fail
        go_region
        go_wp2
        refine bodyPost_ret (v := .tuple #[.int .i64 l.length, .bool (decide (t ∈ l))]) (by simp [results, Try.results26, go_sem, fin.out]) rfl ⟨_, rfl, bstep (balloc _ _) hbr.drew⟩
end Go.Proofs.Ytnlcfnpcjkcdmac
