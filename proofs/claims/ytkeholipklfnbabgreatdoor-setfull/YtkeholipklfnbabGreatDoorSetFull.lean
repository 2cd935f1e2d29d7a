/- stratalaw4.SetFull: the walk. -/
import Derived.Test.YtkeholipklfnbabGreatDoorSetFullMany
import Derived.Test.YtkeholipklfnbabGreatDoorAs
import Derived.Deep.DeepCutAuto
namespace Go.Proofs.YtkeholipklfnbabGreatDoor
open Go Go.RowKit Go.Proofs
set_option synthInstance.maxSize 1000

attribute [local go_sem] eql_errV neq_errV guard_errV

/-! ### the second list, as its subjects are written -/
def mixI (k j : Nat) : Tr := if j < k then trI 116 j else trI 115 j
def mixL (B k : Nat) : List Tr := (List.range B).map (mixI k)
theorem mixL_len (B k : Nat) : (mixL B k).length = B := by simp [mixL]
theorem mixL_at (B k i : Nat) (h : i < (mixL B k).length) : (mixL B k)[i] = mixI k i := by simp [mixL]
theorem mixL_start (B : Nat) : mixL B 0 = manyL 115 B := by
  refine List.ext_getElem (by rw [mixL_len, manyL_len]) fun i h1 h2 => ?_
  rw [mixL_at, manyL_at]
  exact if_neg (by omega)
theorem mixL_end (B : Nat) : mixL B B = manyL 116 B := by
  refine List.ext_getElem (by rw [mixL_len, manyL_len]) fun i h1 h2 => ?_
  rw [mixL_at, manyL_at]
  rw [mixL_len] at h1
  exact if_pos h1
theorem mixL_step (B k : Nat) : (mixL B k).set k (nameT 116, nameT 112, textT k) = mixL B (k + 1) := by
  refine List.ext_getElem (by rw [List.length_set, mixL_len, mixL_len]) fun i h1 h2 => ?_
  rw [mixL_at, List.getElem_set]
  by_cases e : k = i
  · subst e
    rw [if_pos rfl]
    exact (if_pos (by omega)).symm
  · rw [if_neg e, mixL_at]
    unfold mixI
    by_cases h : i < k
    · rw [if_pos h, if_pos (by omega)]
    · rw [if_neg h, if_neg (by omega)]
theorem mixL_here (B k : Nat) (hk : k < (mixL B k).length) : (mixL B k)[k] = (nameT 115, nameT 112, textT k) := by
  rw [mixL_at]
  exact if_neg (by omega)

theorem cells_set3 (t : List Tr) (k : Nat) (hk : k < t.length) (x : Tm) (q : Tm × Tm) (hq : t[k].2 = q) :
    (((cellsT t).set (k * 9) (.int .i64 x.1)).set (k * 9 + 1) (.string ⟨x.2.1.toArray⟩)).set (k * 9 + 2) (.string ⟨x.2.2.toArray⟩) = cellsT (t.set k (x, q)) := by
  apply List.ext_getElem?
  intro j
  by_cases hj : j < t.length * 9
  · have c1 := cellsT_at (t.set k (x, q)) (j / 9) (by rw [List.length_set]; omega) (j % 9) (by omega)
    have c2 := cellsT_at t (j / 9) (by omega) (j % 9) (by omega)
    rw [show j / 9 * 9 + j % 9 = j by omega] at c1 c2
    rw [c1]
    simp only [List.getElem?_set, List.length_set, cellsT_len]
    by_cases e : j / 9 = k
    · have e1 : (t.set k (x, q))[j / 9]'(by rw [List.length_set]; omega) = (x, q) := by simp [e]
      rw [e1]
      have e2 : t[j / 9]'(by omega) = (t[k].1, q) := by
        subst e
        rw [← hq]
      rw [e2] at c2
      rcases (by omega : j % 9 = 0 ∨ j % 9 = 1 ∨ j % 9 = 2 ∨ j % 9 = 3 ∨ j % 9 = 4 ∨ j % 9 = 5 ∨ j % 9 = 6 ∨ j % 9 = 7 ∨ j % 9 = 8) with h | h | h | h | h | h | h | h | h
      · rw [if_neg (by omega), if_neg (by omega), if_pos (by omega), if_pos (by omega), h]; rfl
      · rw [if_neg (by omega), if_pos (by omega), if_pos (by omega), h]; rfl
      · rw [if_pos (by omega), if_pos (by omega), h]; rfl
      all_goals
        rw [if_neg (by omega), if_neg (by omega), if_neg (by omega), c2, h]
        rfl
    · have e1 : (t.set k (x, q))[j / 9]'(by rw [List.length_set]; omega) = t[j / 9]'(by omega) := by
        rw [List.getElem_set, if_neg (fun h => e h.symm)]
      rw [e1, if_neg (by omega), if_neg (by omega), if_neg (by omega), c2]
  · have h1 : (cellsT (t.set k (x, q)))[j]? = none := List.getElem?_eq_none (by rw [cellsT_len, List.length_set]; omega)
    rw [h1]
    exact List.getElem?_eq_none (by simp only [List.length_set, cellsT_len]; omega)

theorem risingM_nodup0 {l : List Tm} (h : RisingM l) : l.Nodup := by
  refine List.Pairwise.imp ?_ h
  intro x y hxy e
  subst e
  have := (cmpTm_zero x x).2 rfl
  omega
theorem slT_many {W : World} {base : Nat} {e : TypeId} {v : Value} {n : Nat} {t : List Tr} (hl : t.length = n) (h : W.ownsRow base e 9 v n (cellsT t)) : ∃ ad cap, v = .slice ad n cap ∧ SlT W ad t := by
  subst hl
  exact own_slT h
theorem own_head {W : World} {base : Nat} {e : TypeId} {sz : Nat} {ad : Option Addr} {n c : Nat} {cs : List Value} (h : W.ownsRow base e sz (.slice ad n c) n cs) (hn : 0 < n) : ∃ g, ad = some ⟨g, 0, none⟩ ∧ base ≤ g := by
  rcases h.2 with ⟨h1, h2⟩ | ⟨g, cap, cur, h1, h2, _⟩
  · omega
  · simp only [Value.slice.injEq] at h1
    exact ⟨g, h1.1, h2⟩

set_option maxHeartbeats 8000000 in
set_option maxRecDepth 100000 in
theorem setFull_any (n m : Int) (w : World) (hg : errVar w) (_hn : (Lit.int .i64 n).wf = true) (_hm : (Lit.int .i64 m).wf = true) :
    Calls Tryz.prog 4 #[.int .i64 n, .int .i64 m] w fun e w' => e = .returned (.bool true) ∧ RowKit.Below w.heap.size w w' := by
  have Hg := hideT hg
  clear hg
  by_cases h0 : n < 0
  · go_enter Tryz.func4, Tryz.ntmps4
    go_wp2_with fail
    go_ret
    exact ⟨rfl, RowKit.Below.refl _ _⟩
  by_cases h1 : n > 200
  · go_enter Tryz.func4, Tryz.ntmps4
    go_wp2_with fail
    go_ret
    exact ⟨rfl, RowKit.Below.refl _ _⟩
  by_cases h2 : m < 0
  · go_enter Tryz.func4, Tryz.ntmps4
    go_wp2_with fail
    go_ret
    exact ⟨rfl, RowKit.Below.refl _ _⟩
  by_cases h3 : m > 200
  · go_enter Tryz.func4, Tryz.ntmps4
    go_wp2_with fail
    go_ret
    exact ⟨rfl, RowKit.Below.refl _ _⟩
  obtain ⟨A, rfl⟩ : ∃ A : Nat, n = A := ⟨n.toNat, by omega⟩
  obtain ⟨B, rfl⟩ : ∃ B : Nat, m = B := ⟨m.toNat, by omega⟩
  have hA : A ≤ 200 := by omega
  have hB : B ≤ 200 := by omega
  have M1 := fun W => many_any A W hA
  have M2 := fun W => many_any B W hB
  have NT := fun W => nameS_any [116] W
  go_enter Tryz.func4, Tryz.ntmps4
  go_wp2_with fail
  refine (M1 _).mono ?_
  rintro e w1 ⟨v1, rfl, ho1, hb1⟩
  obtain ⟨ax, cx, rfl, hx⟩ := slT_many (manyL_len 115 A) ho1
  have HX := hideT hx
  clear hx ho1 M1
  go_wp2_with fail
  refine (M2 _).mono ?_
  rintro e w2 ⟨v2, rfl, ho2, hb2⟩
  obtain ⟨ay, cy, rfl, _⟩ := slT_many (manyL_len 115 B) ho2
  rw [← mixL_start] at ho2
  have HO2 := hideT ho2
  clear ho2 M2 h0 h1 h2 h3
  go_wp2_with fail
  go_loopw [7] (fun i W => ∃ k : Nat, k ≤ B ∧ i = .int .i64 k ∧ Hid (W.ownsRow w1.heap.size 26 9 (.slice ay B cy) B (cellsT (mixL B k))) ∧ RowKit.Below w1.heap.size w1 W) (fun i W => B - (intOf i).toNat)
  case atStart => exact ⟨0, Nat.zero_le _, rfl, HO2, hb2⟩
  case round =>
    obtain ⟨k, hk, rfl, hown, hbr⟩ := hrel
    clear HO2
    by_cases hlt : k < B
    · have i0 : (0 : Int) ≤ (k : Int) := by omega
      have i1 : (k : Int) < (B : Int) := by omega
      obtain ⟨g, rfl, hgb⟩ := own_head hown.out (by omega)
      go_wp2_with fail
      refine (NT _).mono ?_
      rintro e w3 ⟨rfl, hb3⟩
      have ho3 := ownsRow_below hown.out hb3
      have hB3 := bstep hbr hb3
      have hlen : (cellsT (mixL B k)).length = B * 9 := by rw [cellsT_len, mixL_len]
      have c0 : ∃ u, w3.cell? ⟨g, k * 9, none⟩ = some u := ⟨_, (ho3.cellAt (k * 9) (by omega)).trans (List.getElem?_eq_getElem (by omega))⟩
      have c1 : ∃ u, w3.cell? ⟨g, k * 9 + 1, none⟩ = some u := ⟨_, (ho3.cellAt (k * 9 + 1) (by omega)).trans (List.getElem?_eq_getElem (by omega))⟩
      have c2 : ∃ u, w3.cell? ⟨g, k * 9 + 2, none⟩ = some u := ⟨_, (ho3.cellAt (k * 9 + 2) (by omega)).trans (List.getElem?_eq_getElem (by omega))⟩
      obtain ⟨u0, c0⟩ := c0
      obtain ⟨u1, c1⟩ := c1
      obtain ⟨u2, c2⟩ := c2
      have f0 := ho3.frozenAt (k * 9)
      have f1 := ho3.frozenAt (k * 9 + 1)
      have f2 := ho3.frozenAt (k * 9 + 2)
      have hnew := hideT (((ho3.stored (k * 9) (.int .i64 1)).1.stored (k * 9 + 1) (.string ⟨#[116]⟩)).1.stored (k * 9 + 2) (.string ⟨#[]⟩)).1
      have hcs := hideT (cells_set3 (mixL B k) k (by rw [mixL_len]; exact hlt) (nameT 116) (nameT 112, textT k) (by rw [mixL_here]))
      have hbn := hideT (((hB3.setCell (p := ⟨g, k * 9, none⟩) hgb (.int .i64 1)).setCell (p := ⟨g, k * 9 + 1, none⟩) hgb (.string ⟨#[116]⟩)).setCell (p := ⟨g, k * 9 + 2, none⟩) hgb (.string ⟨#[]⟩))
      clear hown hbr hb3 ho3 hB3 hlen
      go_wp2_with fail
      go_roundw
      case rel =>
        refine ⟨k + 1, by omega, by go_num, ?_, hbn.out⟩
        show World.ownsRow _ _ _ _ _ _ _
        rw [← mixL_step B k, ← hcs.out]
        exact hnew.out
      case measure => simp [intOf]; omega
    · obtain rfl : k = B := by omega
      have ho := hown.out
      rw [mixL_end] at ho
      obtain ⟨ay', cy', e, hy⟩ := slT_many (manyL_len 116 k) ho
      simp only [Value.slice.injEq, true_and] at e
      obtain ⟨rfl, rfl⟩ := e
      have HY := hideT hy
      have hx2 := hideT (HX.out.below hbr)
      have hBr := bstep hb1 hbr
      have CJ := Join_any' ax ay cx cy (manyL 115 A) (manyL 116 k) wr hx2.out HY.out (manyS hA).fit (manyU hB).fit (by rw [manyL_len]; omega) (by rw [manyL_len]; omega)
      have CT := fun W hW => SetTerms_good ax cx (manyL 115 A) W hW (sortedN_set.2 (manyS hA))
      rw [manyL_len, manyL_len] at CJ
      rw [manyL_len] at CT
      have hjn := hideT (many_join (a := A) (b := k) hA hB)
      have hjl := hideT (fun mm (h : JoinOf (manyL 115 A) (manyL 116 k) mm) => many_join_len hA hB h)
      have htl := hideT (fun (h0 : 0 < A) mm (h1 : RisingM mm) (h2 : ∀ x, x ∈ mm ↔ x ∈ termsOf (manyL 115 A)) => many_terms hA h0 (risingM_nodup0 h1) h2)
      have HGr := hideT (Hg.out.below hBr)
      clear ho hown hy NT HX hb1 hb2 hbr
      unfold Ans at CJ
      by_cases hs : A + k ≤ 200
      · have e0 : joinN (manyL 115 A) (manyL 116 k) = 0 := by rw [hjn.out, if_pos hs]
        have js : ¬ ((A : Int) + (k : Int) > 200) := by omega
        rw [e0, show errV 0 = .nilIface from rfl] at CJ
        go_wp2_with fail
        refine CJ.mono ?_
        rintro e w4 ⟨hb4, mm, aj, cj, rfl, _, hJ⟩
        have hml := hjl.out mm (hJ.1 e0)
        clear hJ CJ
        go_wp2_with fail
        refine (CT _ (hx2.out.below hb4)).mono ?_
        rintro e w5 ⟨bd, c5, zz, rfl, _, hr5, hm5, hb5⟩
        have hB5 := bstep (bstep hBr hb4) hb5
        have hlm : (mm.length : Int) = (A : Int) + (k : Int) := by omega
        by_cases hA0 : 0 < A
        · have hzl := htl.out hA0 zz hr5 hm5
          have j0 : (A : Int) > 0 := by omega
          have hlz : (zz.length : Int) = (A : Int) + 2 := by omega
          clear hr5 hm5 htl hjl hjn CT hx2 HY e0
          generalize zz.length = lz at *
          generalize mm.length = lm at *
          have hq1 : ((lz : Int) != (A : Int) + 2) = false := by simp [hlz]
          have hq2 : ((lm : Int) == (A : Int) + (k : Int)) = true := by simp [hlm]
          clear hzl hml hlz hlm
          go_wp2_with fail
          go_ret
          exact ⟨rfl, hB5⟩
        · obtain rfl : A = 0 := by omega
          clear hr5 hm5 htl hjl hjn CT hx2 HY e0
          generalize zz.length = lz at *
          generalize mm.length = lm at *
          have hq2 : ((lm : Int) == ((0 : Nat) : Int) + (k : Int)) = true := by simp [hlm]
          clear hml hlm
          go_wp2_with fail
          go_ret
          exact ⟨rfl, hB5⟩
      · have e0 : joinN (manyL 115 A) (manyL 116 k) = 4 := by rw [hjn.out, if_neg hs]
        have js : (A : Int) + (k : Int) > 200 := by omega
        have HE := fun W hW => SameError_any 4 4 W hW
        rw [show ((4 : Int) == 4) = true from rfl] at HE
        rw [e0] at CJ
        go_wp2_with fail
        refine CJ.mono ?_
        rintro e w4 ⟨hb4, mm, aj, cj, rfl, _, hJ⟩
        clear hJ CJ
        go_wp2_with fail
        refine (CT _ (hx2.out.below hb4)).mono ?_
        rintro e w5 ⟨bd, c5, zz, rfl, _, hr5, hm5, hb5⟩
        have hb45 := bstep hb4 hb5
        have hB5 := bstep hBr hb45
        have hg5 := HGr.out.below hb45
        by_cases hA0 : 0 < A
        · have hzl := htl.out hA0 zz hr5 hm5
          have j0 : (A : Int) > 0 := by omega
          have hlz : (zz.length : Int) = (A : Int) + 2 := by omega
          clear hr5 hm5 htl hjl hjn CT hx2 HY e0
          generalize zz.length = lz at *
          have hq1 : ((lz : Int) != (A : Int) + 2) = false := by simp [hlz]
          clear hzl hlz
          go_wp2_with fail
          refine (HE _ hg5).mono ?_
          rintro e w6 ⟨rfl, hb6⟩
          go_wp2_with fail
          go_ret
          exact ⟨rfl, bstep hB5 hb6⟩
        · obtain rfl : A = 0 := by omega
          exact absurd hB (by omega)
end Go.Proofs.YtkeholipklfnbabGreatDoor
