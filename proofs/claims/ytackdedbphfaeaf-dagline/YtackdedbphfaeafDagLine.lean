/- stratalaw4.DagLine over a dag's face: the walk. -/
import Derived.Test.YtackdedbphfaeafDagLinePlain
import Derived.Test.YtackdedbphfaeafDHoldsTail
import Derived.Deep.DeepCutAuto
import Derived.Deep.CutBlock
namespace Go.Proofs.Ytackdedbphfaeaf
open Go Go.RowKit Go.Proofs
set_option synthInstance.maxSize 1000

theorem newC_cells (W : World) (p : Int) : ∀ (j : Nat) u, (newC W.heap.size)[j]? = some u → ((W.alloc (.cells #[.int .i64 p] 3)).alloc (.cells #[.slice (some ⟨W.heap.size, 0, none⟩) 1 1, .int .i64 1, .string ⟨#[]⟩] 24)).cell? ((⟨W.heap.size + 1, 0, none⟩ : Addr).add j) = some u := by
  intro j u hu
  have hj : j < 3 := by have := (List.getElem?_eq_some_iff.1 hu).1; simpa [newC] using this
  rw [Addr.add_lit]
  rcases (by omega : j = 0 ∨ j = 1 ∨ j = 2) with rfl | rfl | rfl
  all_goals
    simp [newC] at hu
    subst hu
    go_simp
theorem newC_one (g : Nat) : ∀ u ∈ newC g, u.oneCell' = true := by simp [newC, Value.oneCell']
theorem lineC_next {k : Nat} (h : 1 ≤ k) : lineC (k + 1) = lineC k ++ [oneC ((k : Int) - 1)] := by
  rw [lineC, if_neg (by omega)]
theorem lineC_ne {k : Nat} (h : 1 ≤ k) : lineC k ≠ [] := fun e => by have := congrArg List.length e; rw [lineC_len] at this; simp at this; omega
theorem fork_short {n a b : Nat} : ∀ c ∈ forkC n a b, c.1.length ≤ 2 ∧ c.2.2.length ≤ 24 := by
  have hl : ∀ k, ∀ c ∈ lineC k, c.1.length ≤ 2 ∧ c.2.2.length ≤ 24 := by
    intro k
    induction k with
    | zero => simp [lineC]
    | succ k ih =>
      intro c hc
      unfold lineC at hc
      rcases List.mem_append.1 hc with hc | hc
      · exact ih c hc
      · simp at hc
        subst hc
        split <;> simp [oneC]
  intro c hc
  unfold forkC at hc
  rcases List.mem_append.1 hc with hc | hc
  · rcases List.mem_append.1 hc with hc | hc
    · exact hl n c hc
    · simp at hc; subst hc; simp [oneC]
  · simp at hc; subst hc; simp [oneC]

set_option maxHeartbeats 32000000 in
set_option maxRecDepth 1000000 in
theorem dagLine_any (F : DFace) (n a b : Int) (w : World) :
    Calls Try.prog 3 #[.int .i64 n, .int .i64 a, .int .i64 b] w fun e w' => e = .returned (.bool true) ∧ RowKit.Below w.heap.size w w' := by
  by_cases h1 : n < 1
  · go_enter Try.func3, Try.ntmps3
    go_wp2_with fail
    go_ret
    exact ⟨rfl, RowKit.Below.refl _ w⟩
  by_cases h2 : n > 58
  · go_enter Try.func3, Try.ntmps3
    go_wp2_with fail
    go_ret
    exact ⟨rfl, RowKit.Below.refl _ w⟩
  by_cases h3 : a < 0
  · go_enter Try.func3, Try.ntmps3
    go_wp2_with fail
    go_ret
    exact ⟨rfl, RowKit.Below.refl _ w⟩
  by_cases h4 : a ≥ n
  · go_enter Try.func3, Try.ntmps3
    go_wp2_with fail
    go_ret
    exact ⟨rfl, RowKit.Below.refl _ w⟩
  by_cases h5 : b < 0
  · go_enter Try.func3, Try.ntmps3
    go_wp2_with fail
    go_ret
    exact ⟨rfl, RowKit.Below.refl _ w⟩
  by_cases h6 : b ≥ n
  · go_enter Try.func3, Try.ntmps3
    go_wp2_with fail
    go_ret
    exact ⟨rfl, RowKit.Below.refl _ w⟩
  obtain ⟨N, rfl⟩ : ∃ N : Nat, n = (N : Int) := ⟨n.toNat, by omega⟩
  obtain ⟨i, rfl⟩ : ∃ i : Nat, a = (i : Int) := ⟨a.toNat, by omega⟩
  obtain ⟨j, rfl⟩ : ∃ j : Nat, b = (j : Int) := ⟨b.toNat, by omega⟩
  obtain ⟨i0', hi0, hz0, hz1, hz2⟩ := info_parts infoC
  have hn58 : N ≤ 58 := by omega
  have hiN : i < N := by omega
  have hjN : j < N := by omega
  have hG := forkC_good hn58 hiN hjN
  have hlen := forkC_len N i j
  have HF := hideO (And.intro hn58 (And.intro hiN (And.intro hjN hG)))
  have C1 : Hid (∀ W ad ca, ComsOK W ad ca (forkC N i j) → Calls Try.prog 4 #[.slice ad (forkC N i j).length ca, .int .i64 (i : Int)] W fun e w' => ∃ xd xc, e = .returned (.tuple #[.slice xd (i + 1) xc, .nilIface]) ∧ RowKit.Below W.heap.size W w') := by
    intro W ad ca h
    refine (F.anc W ad ca _ i h).mono ?_
    rintro e w' ⟨xd, xc, x, rfl, x1, _, _, hb, _, _, _⟩
    rw [ancE_good hG (by omega) (by rw [hlen]; omega)] at x1 ⊢
    have hx := x1 rfl
    simp only [Int.toNat_natCast] at hx
    rw [line_up hn58 hiN hjN hx]
    exact ⟨xd, xc, rfl, hb⟩
  have C2 : Hid (∀ W ad ca, ComsOK W ad ca (forkC N i j) → Calls Try.prog 5 #[.slice ad (forkC N i j).length ca, .int .i64 (i : Int), .int .i64 (j : Int)] W fun e w' => ∃ b0 o0 xc, e = .returned (.tuple #[.slice (some ⟨b0, o0, none⟩) 1 xc, .nilIface]) ∧ w'.cell? ⟨b0, o0, none⟩ = some (.int .i64 (lowN i j : Int)) ∧ RowKit.Below W.heap.size W w') := by
    intro W ad ca h
    refine (F.bases W ad ca _ i j h).mono ?_
    rintro e w' ⟨xd, xc, x, rfl, x1, _, x3, hb, _, _, _⟩
    rw [two_good hG (by rw [hlen]; omega) (by rw [hlen]; omega)] at x1 ⊢
    have hx := x1 rfl
    simp only [Int.toNat_natCast] at hx
    obtain rfl := line_base hn58 hiN hjN hx
    obtain ⟨b0, o0, rfl, c0⟩ := x3.natD (k := 0) (by simp)
    exact ⟨b0, o0, xc, rfl, by simpa using c0, hb⟩
  have C3 : Hid (∀ W ad ca, ComsOK W ad ca (forkC N i j) → Calls Try.prog 5 #[.slice ad (forkC N i j).length ca, .int .i64 (N : Int), .int .i64 ((N : Int) + 1)] W fun e w' => ∃ b0 o0 xc, e = .returned (.tuple #[.slice (some ⟨b0, o0, none⟩) 1 xc, .nilIface]) ∧ w'.cell? ⟨b0, o0, none⟩ = some (.int .i64 (lowN i j : Int)) ∧ RowKit.Below W.heap.size W w') := by
    intro W ad ca h
    have hc : ((N : Int) + 1) = ((N + 1 : Nat) : Int) := by omega
    rw [hc]
    refine (F.bases W ad ca _ N ((N + 1 : Nat) : Int) h).mono ?_
    rintro e w' ⟨xd, xc, x, rfl, x1, _, x3, hb, _, _, _⟩
    rw [two_good hG (by rw [hlen]; omega) (by rw [hlen]; omega)] at x1 ⊢
    have hx := x1 rfl
    simp only [Int.toNat_natCast] at hx
    obtain rfl := fork_base hn58 hiN hjN hx
    obtain ⟨b0, o0, rfl, c0⟩ := x3.natD (k := 0) (by simp)
    exact ⟨b0, o0, xc, rfl, by simpa using c0, hb⟩
  clear hG hlen
  go_enter Try.func3, Try.ntmps3
  go_wp2_with fail
  go_loopw [7, 8] (fun v kk wr => ∃ (k : Nat) (cs : List Value), 1 ≤ k ∧ k ≤ N ∧ kk = .int .i64 k ∧ Hid (LineW wr w.heap.size v (lineC k) cs) ∧ Hid (RowKit.Below w.heap.size w wr)) (fun _ kk wr => N - (intOf kk).toNat)
  case atStart => exact ⟨1, _, Nat.le_refl _, by omega, rfl, line_start w, balloc w _⟩
  case round =>
    obtain ⟨k, cs, hk1, hkN, rfl, hL, hbr⟩ := hrel
    by_cases hlt : k < N
    · have k1 : (k : Int) < (N : Int) := by omega
      have ho := hideO ((hL.out.1.alloc (.cells #[.int .i64 ((k : Int) - 1)] 3)).alloc (.cells #[.slice (some ⟨wr.heap.size, 0, none⟩) 1 1, .int .i64 1, .string ⟨#[]⟩] 24))
      have hsz := hbr.out.size
      have hk60 : (lineC k).length ≤ 60 := by rw [lineC_len]; omega
      go_wp2_with (at_builtin; refine wpList_append_own _ rfl _ _ 25 rfl w.heap.size 24 i0' (.agg #[.slice none 0 0, .int .i64 0, .string ⟨#[]⟩]) 3 48 Try.underlying25 hi0 hz0 hz1 hz2 rfl (by decide) _ _ _ rfl ho.out ⟨wr.heap.size + 1, 0, none⟩ 1 1 (newC wr.heap.size) rfl rfl (newC_cells wr _) (newC_one _) (by unfold maxLen; omega) (by omega) (by simp; omega) ?_)
      intro v' w7 h2' h3' _
      have hL7 : Hid (LineW w7 w.heap.size v' (lineC (k + 1)) (cs ++ newC wr.heap.size)) := by
        show LineW _ _ _ _ _
        rw [lineC_next hk1]
        exact line_next hL.out (lineC_ne hk1) h2' h3'
      have hb7 : Hid (RowKit.Below w.heap.size w w7) := (bstep (bstep hbr.out (balloc wr _)) (balloc _ _)).grown h3' (by simp; omega) (fun q hq => (hL.out.1.lt q hq).1)
      clear h2' h3' ho
      go_wp2_with fail
      go_roundw
      case rel => exact ⟨k + 1, _, by omega, by omega, by go_num, hL7, hb7⟩
      case measure => simp [intOf]; omega
    · obtain rfl : k = N := by omega
      have ho := hideO ((hL.out.1.alloc (.cells #[.int .i64 (i : Int)] 3)).alloc (.cells #[.slice (some ⟨wr.heap.size, 0, none⟩) 1 1, .int .i64 1, .string ⟨#[]⟩] 24))
      have hsz := hbr.out.size
      have hk60 : (lineC k).length ≤ 60 := by rw [lineC_len]; omega
      go_wp2_with (at_builtin; refine wpList_append_own _ rfl _ _ 25 rfl w.heap.size 24 i0' (.agg #[.slice none 0 0, .int .i64 0, .string ⟨#[]⟩]) 3 48 Try.underlying25 hi0 hz0 hz1 hz2 rfl (by decide) _ _ _ rfl ho.out ⟨wr.heap.size + 1, 0, none⟩ 1 1 (newC wr.heap.size) rfl rfl (newC_cells wr _) (newC_one _) (by unfold maxLen; omega) (by omega) (by simp; omega) ?_)
      intro v1 w1 h2' h3' _
      have hL1 := hideO (line_next hL.out (lineC_ne hk1) h2' h3')
      have hb1 : Hid (RowKit.Below w.heap.size w w1) := (bstep (bstep hbr.out (balloc wr _)) (balloc _ _)).grown h3' (by simp; omega) (fun q hq => (hL.out.1.lt q hq).1)
      have hs1 := hb1.out.size
      have hl1 : (lineC k ++ [oneC (i : Int)]).length = k + 1 := by rw [List.length_append, lineC_len]; rfl
      have hk61 : (lineC k ++ [oneC (i : Int)]).length ≤ 61 := by rw [hl1]; omega
      clear h2' h3' ho hL hbr
      have ho1 := hideO ((hL1.out.1.alloc (.cells #[.int .i64 (j : Int)] 3)).alloc (.cells #[.slice (some ⟨w1.heap.size, 0, none⟩) 1 1, .int .i64 1, .string ⟨#[]⟩] 24))
      go_wp2_with (at_builtin; refine wpList_append_own _ rfl _ _ 25 rfl w.heap.size 24 i0' (.agg #[.slice none 0 0, .int .i64 0, .string ⟨#[]⟩]) 3 48 Try.underlying25 hi0 hz0 hz1 hz2 rfl (by decide) _ _ _ rfl ho1.out ⟨w1.heap.size + 1, 0, none⟩ 1 1 (newC w1.heap.size) rfl rfl (newC_cells w1 _) (newC_one _) (by unfold maxLen; omega) (by omega) (by simp; omega) ?_)
      intro v2 w2 h2' h3' _
      have hL2 : LineW w2 w.heap.size v2 (forkC k i j) _ := line_next hL1.out (fun e => by rw [e] at hl1; simp at hl1) (by rw [hl1, List.append_assoc]; exact h2') h3'
      have hb2 : Hid (RowKit.Below w.heap.size w w2) := (bstep (bstep hb1.out (balloc w1 _)) (balloc _ _)).grown h3' (by simp; omega) (fun q hq => (hL1.out.1.lt q hq).1)
      obtain ⟨ad, ca, rfl, hok⟩ := line_ok hL2 (fun e => by have := forkC_len k i j; rw [e] at this; simp at this) (by rw [forkC_len]; omega) fork_short
      have hok := hideO hok
      clear h2' h3' ho1 hL1 hb1 hL2
      by_cases hji : j < i
      · have hlow : lowN i j = j := if_pos hji
        have hji' : (j : Int) < (i : Int) := by omega
        rw [hlow] at C2 C3
        clear hlow
        go_wp2_with fail
        refine (C1.out _ ad ca hok.out).mono ?_
        rintro e w3 ⟨xd, xc, rfl, hb3⟩
        have hB3 := hideO (bstep hb2.out hb3)
        have hok3 := hideO (hok.out.below hb3)
        clear hb3 hb2 hok C1
        dsimp only
        go_wp2_with fail
        refine (C2.out _ ad ca hok3.out).mono ?_
        rintro e w4 ⟨b0, o0, yc, rfl, c4, hb4⟩
        have hB4 := hideO (bstep hB3.out hb4)
        have hok4 := hideO (hok3.out.below hb4)
        clear hb4 hB3 hok3 C2
        dsimp only
        go_wp2_with fail
        refine (C3.out _ ad ca hok4.out).mono ?_
        rintro e w5 ⟨b1, o1, zc, rfl, c5, hb5⟩
        have hB5 := hideO (bstep hB4.out hb5)
        have c6 := (hb5.cell (World.block_lt_of_cell? w4 _ c4)).trans c4
        clear hb5 hB4 hok4 C3 c4
        dsimp only
        go_wp2_with fail
        go_ret
        exact ⟨by simp, hB5.out⟩
      · have hlow : lowN i j = i := if_neg hji
        have hji' : ¬ (j : Int) < (i : Int) := by omega
        rw [hlow] at C2 C3
        clear hlow
        go_wp2_with fail
        refine (C1.out _ ad ca hok.out).mono ?_
        rintro e w3 ⟨xd, xc, rfl, hb3⟩
        have hB3 := hideO (bstep hb2.out hb3)
        have hok3 := hideO (hok.out.below hb3)
        clear hb3 hb2 hok C1
        dsimp only
        go_wp2_with fail
        refine (C2.out _ ad ca hok3.out).mono ?_
        rintro e w4 ⟨b0, o0, yc, rfl, c4, hb4⟩
        have hB4 := hideO (bstep hB3.out hb4)
        have hok4 := hideO (hok3.out.below hb4)
        clear hb4 hB3 hok3 C2
        dsimp only
        go_wp2_with fail
        refine (C3.out _ ad ca hok4.out).mono ?_
        rintro e w5 ⟨b1, o1, zc, rfl, c5, hb5⟩
        have hB5 := hideO (bstep hB4.out hb5)
        have c6 := (hb5.cell (World.block_lt_of_cell? w4 _ c4)).trans c4
        clear hb5 hB4 hok4 C3 c4
        dsimp only
        go_wp2_with fail
        go_ret
        exact ⟨by simp, hB5.out⟩
end Go.Proofs.Ytackdedbphfaeaf
