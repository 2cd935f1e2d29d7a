/- stratalaw4.CodeLong: the walk. -/
import Derived.Test.YtkiicgkaadcjmaeCodeOps
import Derived.RegionTactic
namespace Go.Proofs.Ytkiicgkaadcjmae
open Go Go.RowKit Go.Proofs
set_option synthInstance.maxSize 1000

attribute [local go_sem] eql_errV neq_errV guard_errV

theorem encX_long {x : Tr} (h : chkTr x = 0) : (encX x).length = 6 + x.1.2.1.length + x.2.1.2.1.length + x.2.2.2.1.length + x.2.2.2.2.length := by
  obtain ⟨h1, h2, h3, hs⟩ := chk_zero h
  have o1 := (ok_parts (x := x.1) h1).2.2
  have o2 := (ok_parts (x := x.2.1) h2).2.2
  unfold shapeB at hs
  simp at hs
  have e1 : x.1.2.2 = [] := by
    rcases o1 with e | ⟨e, _⟩
    · exact e
    · exact absurd e hs.1
  have e2 : x.2.1.2.2 = [] := by
    rcases o2 with e | ⟨e, _⟩
    · exact e
    · rw [hs.2] at e; simp at e
  simp [encX, encT, e1, e2]
  omega

theorem sorted_nil : sortedN [] = 0 := sortedN_set.2 isSet_nil
theorem setB_nil : setB [] = [0, 0] := by
  unfold setB
  rw [if_pos sorted_nil]
  rfl

set_option maxHeartbeats 8000000 in
set_option maxRecDepth 100000 in
theorem codeLong_any (ad : Option Addr) (ca : Nat) (l : List Tr) (w : World) (h : SlT w ad l) (hfit : ∀ x ∈ l, fitTr x) (hn : l.length ≤ 9223372036854775807) :
    Calls Try.prog 3 #[.slice ad l.length ca] w fun e w' => e = .returned (.bool true) ∧ RowKit.Below w.heap.size w w' := by
  have HF := CSet_any none 0 [] w (fun h => absurd rfl h) (by simp) (by simp)
  rw [setB_nil, sorted_nil] at HF
  have HC := fun W hs => CSet_any ad ca l W hs hfit hn
  have HS := fun W hs => Sorted_any ad ca l W hs hfit hn
  have Hs : Hid (SlT w ad l) := h
  have f0 : Hid (sortedN l = 0 → setB l = encS l ∧ IsSet l) := fun e => ⟨if_pos e, sortedN_set.1 e⟩
  clear h hfit
  generalize sortedN l = N at *
  by_cases hN : N = 0
  · subst hN
    obtain ⟨e0, hset⟩ := f0.out rfl
    rw [e0] at HC
    have hset : Hid (IsSet l) := hset
    have n200 : l.length ≤ 200 := hset.out.1
    have hlen : Hid ((encS l).length = 2 + (encR l).length) := by show _ = _; simp [encS]; omega
    have hbig : (encS l).length ≤ 20000 := by
      have h1 := encR_len l (okTr_set hset.out)
      have h2 := hlen.out
      omega
    clear f0 e0 HS hn
    go_enter Try.func3, Try.ntmps3
    go_wp2_with fail
    refine HF.mono ?_
    rintro e w1 ⟨rfl, hb1⟩
    go_wp2_with fail
    refine (HC w1 (Hs.out.below hb1)).mono ?_
    rintro e w2 ⟨rfl, hb2⟩
    have hB : Hid (RowKit.Below w.heap.size w w2) := bstep hb1 hb2
    have Hs2 : Hid (SlT w2 ad l) := Hs.out.below hB.out
    generalize encS l = E at *
    clear HF HC hb1 hb2 Hs
    go_wp2_with fail
    go_loopw [7, 8] (fun u i wr => ∃ k : Nat, k ≤ l.length ∧ i = .int .i64 k ∧ u = .int .i64 ((2 + (encR (l.take k)).length : Nat) : Int) ∧ ∃ q, wr = w2.drewN q) (fun _ i _ => l.length - (intOf i).toNat)
    case atStart => exact ⟨0, Nat.zero_le _, rfl, by simp [encR], 0, rfl⟩
    case round =>
      obtain ⟨k, hk, rfl, rfl, q, rfl⟩ := hrel
      by_cases hlt : k < l.length
      · obtain ⟨b, o, rfl, hr⟩ := Hs2.out.at k hlt
        obtain ⟨c0, c1, c2, c3, c4, c5, c6, c7, c8⟩ := hr.at k hlt
        have i0' : (0 : Int) ≤ (k : Int) := by omega
        have i1 : (k : Int) < (l.length : Int) := by omega
        have hy := hset.out.2.1 _ (List.getElem_mem hlt)
        have hL := encX_long hy
        have htk : Hid ((encR (l.take (k + 1))).length = (encR (l.take k)).length + (encX l[k]).length) := by show _ = _; unfold encR; rw [List.take_succ_eq_append_getElem hlt, List.flatMap_append, List.length_append]; simp only [List.flatMap_cons, List.flatMap_nil, List.append_nil]
        have hle : (encR (l.take k)).length ≤ 20000 := by
          have h1 := encR_len (l.take k) (fun x hx => okTr_set hset.out x (List.mem_of_mem_take hx))
          have h2 : (l.take k).length ≤ 200 := by rw [List.length_take]; omega
          omega
        generalize (encR (l.take k)).length = t0 at *
        generalize l[k] = y at *
        have hX : Hid ((encX y).length = 6 + y.1.2.1.length + y.2.1.2.1.length + y.2.2.2.1.length + y.2.2.2.2.length) := hL
        obtain ⟨g1, g2, g3, _⟩ := chk_zero hy
        have s1 : y.1.2.1.length ≤ 24 := (ok_parts (x := y.1) g1).2.1
        have s2 : y.2.1.2.1.length ≤ 24 := (ok_parts (x := y.2.1) g2).2.1
        have s3 : y.2.2.2.1.length ≤ 24 := (ok_parts (x := y.2.2) g3).2.1
        have s4 : y.2.2.2.2.length ≤ 2 := by
          rcases (ok_parts (x := y.2.2) g3).2.2 with e | ⟨_, e⟩
          · rw [e]; simp
          · omega
        clear hL hy g1 g2 g3 hr
        go_wp2_with fail
        go_region
        go_wp2_with fail
        go_roundw
        case rel =>
          refine ⟨k + 1, by omega, by go_num, ?_, q + 1, rfl⟩
          rw [htk.out, hX.out]
          congr 1
          omega
        case measure => simp [intOf]; omega
      · obtain rfl : k = l.length := by omega
        rw [List.take_length, ← hlen.out]
        clear hlen
        go_wp2_with fail
        go_ret
        exact ⟨by simp, hB.out.trans ⟨rfl, rfl, rfl, Nat.le_refl _, fun _ _ => rfl⟩⟩
  · have hN' : (N == 0) = false := by simpa using hN
    clear f0
    go_enter Try.func3, Try.ntmps3
    go_wp2_with fail
    refine HF.mono ?_
    rintro e w1 ⟨rfl, hb1⟩
    go_wp2_with fail
    refine (HC w1 (Hs.out.below hb1)).mono ?_
    rintro e w2 ⟨rfl, hb2⟩
    generalize setB l = E at *
    go_wp2_with fail
    refine (HS w2 (Hs.out.below (bstep hb1 hb2))).mono ?_
    rintro e w3 ⟨rfl, hb3⟩
    go_wp2_with fail
    go_ret
    exact ⟨by simp, bstep (bstep hb1 hb2) hb3⟩
end Go.Proofs.Ytkiicgkaadcjmae
