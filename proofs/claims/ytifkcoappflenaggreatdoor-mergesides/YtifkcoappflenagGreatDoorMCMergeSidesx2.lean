/- stratalaw2.MergeSides: the walk, over a merge's face. -/
import Derived.Test.YtifkcoappflenagGreatDoorMCMergeSidesx0
import Derived.Test.YtifkcoappflenagGreatDoorMCMergeSidesx1
import Derived.Deep.DeepCutAuto

namespace Go.Proofs.YtifkcoappflenagGreatDoor
open Go Go.RowKit Go.Proofs
set_option synthInstance.maxSize 1000

attribute [local go_sem] eql_errV neq_errV guard_errV

def xS : Tr := ((1, [97], []), (1, [98], []), (1, [99], []))
theorem chk_xS : chkTr xS = 0 := by decide
theorem hideS {p : Prop} (h : p) : Hid p := h
theorem sTr (ad bd : Option Addr) (ca cb : Nat) (l : List Tr) (w : World) (hl : SlT w ad l) (hm : SlT w bd l) (h : l.length ≤ 1000) : Calls Tryz.prog 10 #[.slice ad l.length ca, .slice bd l.length cb] w fun e w' => e = .returned (.bool true) ∧ RowKit.Below w.heap.size w w' := by
  have := SameTriples_any ad bd ca cb l l w hl hm (by omega) (by omega)
  rw [show decide (l = l) = true by simp] at this
  exact this
theorem sCl (ad bd : Option Addr) (ca cb : Nat) (l : List Pr) (w : World) (hl : SlP w ad l) (hm : SlP w bd l) (h : l.length ≤ 1000) : Calls Tryz.prog 11 #[.slice ad l.length ca, .slice bd l.length cb] w fun e w' => e = .returned (.bool true) ∧ RowKit.Below w.heap.size w w' := by
  have := SameClashes_any ad bd ca cb l l w hl hm (by omega) (by omega)
  rw [show decide (l = l) = true by simp] at this
  exact this
theorem bothSet_c (ad bd : Option Addr) (ca cb : Nat) (a b : List Tr) (w : World) (ha : SlT w ad a) (hb : SlT w bd b) (sa : IsSet a) (sb : IsSet b) :
    Calls Tryz.prog 17 #[.slice ad a.length ca, .slice bd b.length cb] w fun e w' => ∃ ad' c', e = .returned (.tuple #[.slice ad' (bothL a b).length c', .nilIface]) ∧ SlT w' ad' (bothL a b) ∧ RowKit.Below w.heap.size w w' := by
  have h0 : bothN a b = 0 := bothN_zero.2 ⟨sa, sb⟩
  refine (Both_any ad bd ca cb a b w ha hb sa.fit sb.fit (by have := sa.1; omega) (by have := sb.1; omega)).mono ?_
  rintro e w' ⟨hb, m, ad', c', rfl, hs, hJ⟩
  unfold BothAns at hJ
  rw [if_pos h0] at hJ
  subst hJ
  exact ⟨ad', c', by rw [h0]; rfl, hs, hb⟩
theorem sl_xS (W : World) : SlT (W.alloc (.cells (encTr xS).toArray 44)) (some ⟨W.heap.size, 0, none⟩) [xS] := fun _ => ⟨W.heap.size, 0, rfl, fun j v hv => by
  have h9 : (encTr xS)[j]? = some v := by simpa [cellsT] using hv
  have hb : (W.alloc (.cells (encTr xS).toArray 44)).heap[W.heap.size]? = some (.cells (encTr xS).toArray 44 (0, 0)) := heap_alloc_new W _
  have : (W.alloc (.cells (encTr xS).toArray 44)).cell? ⟨W.heap.size, 0 + j, none⟩ = (encTr xS)[j]? := by
    unfold World.cell?
    dsimp only
    rw [hb]
    simp
  rw [this]
  exact h9⟩

set_option maxHeartbeats 64000000 in
set_option maxRecDepth 1000000 in
theorem mergeSides_any (M : MFace) (od ad bd : Option Addr) (oc ca cb : Nat) (o a b : List Tr) (w : World) (hev : errVar w) (ho : SetIn w od o) (ha : SetIn w ad a) (hb : SetIn w bd b) :
    Calls Tryz.prog 4 #[.slice od o.length oc, .slice ad a.length ca, .slice bd b.length cb] w fun e w' => e = .returned (.bool true) ∧ RowKit.Below w.heap.size w w' := by
  have HW : Hid (∀ W, RowKit.Below w.heap.size w W → SetIn W od o ∧ SetIn W ad a ∧ SetIn W bd b ∧ errVar W) := fun W h => ⟨ho.below h, ha.below h, hb.below h, hev.below h⟩
  have C1 : ∀ W (xd : Option Addr) (xc : Nat), SetIn W xd [xS] → Calls Tryz.prog 8 #[.slice none 0 0, .slice xd 1 xc, .slice none 0 0] W (MergeAns [] [xS] [] W) := fun W (xd : Option Addr) (xc : Nat) (hx : SetIn W xd [xS]) => M.merge W none xd none 0 xc 0 [] [xS] [] ⟨fun h => absurd rfl h, by simp, by simp⟩ hx ⟨fun h => absurd rfl h, by simp, by simp⟩
  have C2 := fun W (hW : RowKit.Below w.heap.size w W) => M.merge W od ad bd oc ca cb o a b (ho.below hW) (ha.below hW) (hb.below hW)
  have C3 := fun W (hW : RowKit.Below w.heap.size w W) => M.merge W od bd ad oc cb ca o b a (ho.below hW) (hb.below hW) (ha.below hW)
  have C4 := fun W (hW : RowKit.Below w.heap.size w W) => M.merge W od ad od oc ca oc o a o (ho.below hW) (ha.below hW) (ho.below hW)
  have S1 := fun W (hW : RowKit.Below w.heap.size w W) => Sorted_any od oc o W (ho.sl.below hW) ho.fit ho.max
  have S2 := fun W (hW : RowKit.Below w.heap.size w W) => Sorted_any ad ca a W (ha.sl.below hW) ha.fit ha.max
  have S3 := fun W (hW : RowKit.Below w.heap.size w W) => Sorted_any bd cb b W (hb.sl.below hW) hb.fit hb.max
  obtain ⟨f1, f2, f3⟩ := merge_one chk_xS
  obtain ⟨e1, e2, e3⟩ := merge_swap o a b
  have lT := mergeT_len o a b
  have lC := mergeC_len o a b
  unfold MergeAns at C1 C2 C3 C4
  rw [f1, f2, f3, show errV 0 = .nilIface from rfl] at C1
  rw [e1, e2] at C3
  have hs3 : Hid (∀ W, SetIn W none [] ) := fun W => ⟨fun h => absurd rfl h, by simp, by simp⟩
  have e3' : Hid (mergeN o b a = 0 ↔ mergeN o a b = 0) := e3
  have hfit : Hid (fitTr xS) := fit_set (isSet_one chk_xS) xS (by simp)
  clear hev ho ha hb f1 f2 f3 e1 e2 e3
  have hxv : Hid (encTr xS = [.int .i64 1, .string ⟨#[97]⟩, .string ⟨#[]⟩, .int .i64 1, .string ⟨#[98]⟩, .string ⟨#[]⟩, .int .i64 1, .string ⟨#[99]⟩, .string ⟨#[]⟩]) := rfl
  go_enter Tryz.func4, Tryz.ntmps4
  go_wp2_with fail
  have hA : RowKit.Below w.heap.size w ((w.alloc (.cells (encTr xS).toArray 44)).alloc (.cells (encTr xS).toArray 44)) := bstep (balloc _ _) (balloc _ _)
  have hx2 := sl_xS (w.alloc (.cells (encTr xS).toArray 44))
  rw [World.size_alloc] at hx2
  refine (C1 _ (some ⟨w.heap.size + 1, 0, none⟩) 1 ⟨hx2, by simpa using hfit.out, by unfold maxLen; simp⟩).mono ?_
  rintro e w1 ⟨xd, xc, yd, yc, rfl, hx, _, hb1⟩
  have hB1 := bstep hA hb1
  obtain ⟨z0, z1, z2, z3, z4, z5, z6, z7, z8, _⟩ := ninebox (bstep (balloc _ _) hb1)
  obtain ⟨g, off, rfl, hr⟩ := hx (by simp)
  obtain ⟨c0, c1, c2, c3, c4, c5, c6, c7, c8⟩ := hr.at 0 (by simp)
  clear hx2 hA hx hr hb1 C1 hfit
  dsimp only [xS, List.getElem_cons_zero, List.length_cons, List.length_nil] at *
  simp only [Nat.zero_mul, Nat.add_zero] at c0 c1 c2 c3 c4 c5 c6 c7 c8
  go_wp2_with fail
  go_region
  go_wp2_with fail
  clear z0 z1 z2 z3 z4 z5 z6 z7 z8 c0 c1 c2 c3 c4 c5 c6 c7 c8
  have hB1' := hB1.drew
  refine (C2 _ hB1').mono ?_
  rintro e w2 ⟨md, mc, kd, kc, rfl, hm, hk, hb2⟩
  have hB2 := bstep hB1' hb2
  have M2 := hideS (And.intro hm hk)
  clear hm hk hb2 hB1 hB1' C2
  dsimp only
  go_wp2_with fail
  refine (C3 _ hB2).mono ?_
  rintro e w3 ⟨nd, nc, ld, lc, rfl, hn, hl, hb3⟩
  have hB3 := bstep hB2 hb3
  have M3 := hideS (And.intro (And.intro (M2.out.1.below hb3) (M2.out.2.below hb3)) (And.intro hn hl))
  clear hn hl hb3 hB2 C3 M2
  dsimp only
  go_wp2_with fail
  refine (sTr md nd mc nc _ _ M3.out.1.1 M3.out.2.1 (by omega)).mono ?_
  rintro e w4 ⟨rfl, hb4⟩
  dsimp only
  go_wp2_with fail
  refine (sCl kd ld kc lc _ _ (M3.out.1.2.below hb4) (M3.out.2.2.below hb4) lC).mono ?_
  rintro e w5 ⟨rfl, hb5⟩
  have hB5 := (bstep hB3 (bstep hb4 hb5)).drew
  have M5 := hideS (And.intro (M3.out.1.1.below (bstep hb4 hb5)) (M3.out.1.2.below (bstep hb4 hb5)))
  clear M3 hb4 hb5 hB3
  dsimp only
  by_cases hN : mergeN o a b = 0
  · have hN2 : mergeN o b a = 0 := e3'.out.2 hN
    have HN : Hid (mergeN o a b = 0) := hN
    obtain ⟨so, sa, sb⟩ := (merge_ok hN).1
    have z1 := sortedN_set.2 so
    have z2 := sortedN_set.2 sa
    have z3 := sortedN_set.2 sb
    obtain ⟨k1, k2, k3⟩ := merge_base so sa
    have hset : Hid (IsSet (mergeT o a b)) := merge_set hN
    have hin : Hid (∀ x ∈ mergeT o a b, x ∈ a ∨ x ∈ b) := fun x hx => merge_in hN hx
    have hkept : Hid (bothL (bothL a b) (mergeT o a b) = bothL a b) := both_kept hN
    have HS : Hid (IsSet o ∧ IsSet a ∧ IsSet b) := ⟨so, sa, sb⟩
    rw [hN, hN2, show errV 0 = .nilIface from rfl]
    rw [z1, show errV 0 = .nilIface from rfl] at S1
    rw [z2, show errV 0 = .nilIface from rfl] at S2
    rw [z3, show errV 0 = .nilIface from rfl] at S3
    rw [k1, k2, k3, show errV 0 = .nilIface from rfl] at C4
    clear hN hN2 so sa sb z1 z2 z3 k1 k2 k3 e3' lC
    generalize mergeT o a b = m at *
    generalize mergeC o a b = k at *
    go_wp2_with fail
    go_region
    go_wp2_with fail
    refine (S1 _ hB5).mono ?_
    rintro e w6 ⟨rfl, hb6⟩
    have hB6 := bstep hB5 hb6
    dsimp only
    go_wp2_with fail
    refine (S2 _ hB6).mono ?_
    rintro e w7 ⟨rfl, hb7⟩
    have hB7 := bstep hB6 hb7
    dsimp only
    go_wp2_with fail
    refine (S3 _ hB7).mono ?_
    rintro e w8 ⟨rfl, hb8⟩
    have hB8 := bstep hB7 hb8
    have M8 : Hid (SlT w8 md m) := M5.out.1.below (bstep (bstep (bstep ((RowKit.Below.refl _ _).drew) hb6) hb7) hb8)
    clear hb6 hb7 hb8 hB5 hB6 hB7 S1 S2 S3 M5
    dsimp only
    go_wp2_with fail
    refine (C4 _ hB8).mono ?_
    rintro e w9 ⟨pd, pc, qd, qc, rfl, hp, _, hb9⟩
    have hB9 := bstep hB8 hb9
    have M9 : Hid (SlT w9 md m) := M8.out.below hb9
    have la : a.length ≤ 1000 := by have := HS.out.2.1.1; omega
    have hp9 := hideS hp
    clear hp M8 hb9 hB8 C4
    dsimp only
    go_wp2_with fail
    refine (sTr pd ad pc ca _ _ hp9.out (HW.out _ hB9).2.1.sl la).mono ?_
    rintro e w10 ⟨rfl, hb10⟩
    have hB10 := bstep hB9 hb10
    have M10 : Hid (SlT w10 md m) := M9.out.below hb10
    clear hp9 M9 hb10 hB9
    dsimp only
    go_wp2_with fail
    go_loopw [24] (fun i wr => ∃ j : Nat, j ≤ m.length ∧ i = .int .i64 j ∧ RowKit.Below w10.heap.size w10 wr) (fun i wr => m.length - (intOf i).toNat)
    case atStart => exact ⟨0, Nat.zero_le _, rfl, RowKit.Below.refl _ _⟩
    case round =>
      obtain ⟨j, hj, rfl, hbr⟩ := hrel
      have hBr := bstep hB10 hbr
      by_cases hlt : j < m.length
      · obtain ⟨g2, o2, rfl, hrow⟩ := M10.out.at j hlt
        obtain ⟨c0, c1, c2, c3, c4, c5, c6, c7, c8⟩ := (hrow.below hbr).at j hlt
        have i0' : (0 : Int) ≤ (j : Int) := by omega
        have i1 : (j : Int) < (m.length : Int) := by omega
        have hor := hideS (hin.out m[j] (List.getElem_mem hlt))
        have Hrow := hideS hrow
        have R1 := fun W (hW : RowKit.Below w.heap.size w W) => RIn_any ad ca a m[j] W ((HW.out _ hW).2.1.sl) (HW.out _ hW).2.1.max
        have R2 := fun W (hW : RowKit.Below w.heap.size w W) => RIn_any bd cb b m[j] W ((HW.out _ hW).2.2.1.sl) (HW.out _ hW).2.2.1.max
        obtain ⟨y, hy⟩ : ∃ y, y = m[j] := ⟨_, rfl⟩
        have Hy := hideS hy
        rw [← hy] at c0 c1 c2 c3 c4 c5 c6 c7 c8 hor R1 R2
        clear hrow hy
        unfold valTr at R1 R2
        go_wp2_with fail
        refine (R1 _ hBr).mono ?_
        rintro e w11 ⟨rfl, hb11⟩
        have hB11 := bstep hBr hb11
        clear c0 c1 c2 c3 c4 c5 c6 c7 c8
        obtain ⟨c0, c1, c2, c3, c4, c5, c6, c7, c8⟩ := (Hrow.out.below (bstep hbr hb11)).at j hlt
        rw [← Hy.out] at c0 c1 c2 c3 c4 c5 c6 c7 c8
        dsimp only
        go_wp2_with fail
        refine (R2 _ hB11).mono ?_
        rintro e w12 ⟨rfl, hb12⟩
        have hb12' := bstep hbr (bstep hb11 hb12)
        clear c0 c1 c2 c3 c4 c5 c6 c7 c8 R1 R2
        dsimp only
        by_cases hia : y ∈ a
        · have d1 : decide (y ∈ a) = true := by simpa using hia
          rw [d1]
          clear hia hor
          generalize decide (y ∈ b) = d2 at *
          go_wp2_with fail
          exact ⟨⟨j + 1, by omega, by go_num, hb12'⟩, by simp [intOf]; omega⟩
        · have d1 : decide (y ∈ a) = false := by simpa using hia
          have d2 : decide (y ∈ b) = true := by simpa [hia] using hor.out
          rw [d1, d2]
          clear hia hor
          go_wp2_with fail
          exact ⟨⟨j + 1, by omega, by go_num, hb12'⟩, by simp [intOf]; omega⟩
      · obtain rfl : j = m.length := by omega
        have M11 := hideS (M10.out.below hbr)
        go_wp2_with fail
        refine (bothSet_c ad bd ca cb a b _ (HW.out _ hBr).2.1.sl (HW.out _ hBr).2.2.1.sl HS.out.2.1 HS.out.2.2).mono ?_
        rintro e w12 ⟨ud, uc, rfl, hu, hb12⟩
        have hB12 := bstep hBr hb12
        have U12 := hideS hu
        have M12 := hideS (M11.out.below hb12)
        clear hu M11
        dsimp only
        have sB : IsSet (bothL a b) := HS.out.2.1.filter _
        have lB := sB.1
        have HK := bothSet_c ud md uc mc (bothL a b) m _ U12.out M12.out sB hset.out
        rw [hkept.out] at HK
        clear sB
        generalize bothL a b = B at *
        go_wp2_with fail
        refine HK.mono ?_
        rintro e w13 ⟨vd, vc, rfl, hv, hb13⟩
        have hB13 := bstep hB12 hb13
        have V13 := hideS hv
        clear hv HK
        dsimp only
        go_wp2_with fail
        refine (sTr vd ud vc uc _ _ V13.out (U12.out.below hb13) (by omega)).mono ?_
        rintro e w14 ⟨rfl, hb14⟩
        have HSm := Sorted_any md mc m w14 (M12.out.below (bstep hb13 hb14)) (fit_set hset.out) (by omega)
        rw [sortedN_set.2 hset.out, show errV 0 = .nilIface from rfl] at HSm
        dsimp only
        go_wp2_with fail
        refine HSm.mono ?_
        rintro e w15 ⟨rfl, hb15⟩
        dsimp only
        go_wp2_with fail
        go_ret
        exact ⟨rfl, bstep hB13 (bstep hb14 hb15)⟩
  · have hN2 : ¬ mergeN o b a = 0 := fun h => hN (e3'.out.1 h)
    have q1 : (mergeN o a b == 0) = false := by simpa using hN
    have q2 : (mergeN o b a == 0) = false := by simpa using hN2
    have hev5 := hideS (HW.out _ hB5)
    by_cases h3 : threeN o a b = 0
    · obtain ⟨so, sa, sb⟩ := three_zero.1 h3
      have z1 := sortedN_set.2 so
      have z2 := sortedN_set.2 sa
      have z3 := sortedN_set.2 sb
      obtain ⟨k1, k2, k3⟩ := merge_base so sa
      have la : a.length ≤ 1000 := by have := sa.1; omega
      have h9 : Hid ((mergeN o a b == 9) = decide (0 < (mergeC o a b).length)) := merge_nine h3 hN
      rw [z1, show errV 0 = .nilIface from rfl] at S1
      rw [z2, show errV 0 = .nilIface from rfl] at S2
      rw [z3, show errV 0 = .nilIface from rfl] at S3
      rw [k1, k2, k3, show errV 0 = .nilIface from rfl] at C4
      clear hN hN2 so sa sb z1 z2 z3 k1 k2 k3 e3' lC h3
      generalize mergeT o a b = m at *
      generalize mergeC o a b = k at *
      generalize mergeN o a b = N1 at *
      generalize mergeN o b a = N2 at *
      go_wp2_with fail
      go_region
      go_wp2_with fail
      refine (S1 _ hB5).mono ?_
      rintro e w6 ⟨rfl, hb6⟩
      have hB6 := bstep hB5 hb6
      dsimp only
      go_wp2_with fail
      refine (S2 _ hB6).mono ?_
      rintro e w7 ⟨rfl, hb7⟩
      have hB7 := bstep hB6 hb7
      dsimp only
      go_wp2_with fail
      refine (S3 _ hB7).mono ?_
      rintro e w8 ⟨rfl, hb8⟩
      have hB8 := bstep hB7 hb8
      clear hb6 hb7 hb8 hB5 hB6 hB7 S1 S2 S3 M5
      dsimp only
      go_wp2_with fail
      refine (C4 _ hB8).mono ?_
      rintro e w9 ⟨pd, pc, qd, qc, rfl, hp, _, hb9⟩
      have hB9 := bstep hB8 hb9
      have hp9 := hideS hp
      clear hp hb9 hB8 C4
      dsimp only
      go_wp2_with fail
      refine (sTr pd ad pc ca _ _ hp9.out (HW.out _ hB9).2.1.sl la).mono ?_
      rintro e w10 ⟨rfl, hb10⟩
      have hB10 := bstep hB9 hb10
      clear hp9 hb10 hB9
      dsimp only
      go_wp2_with fail
      refine (SameError_any N1 9 _ (HW.out _ hB10).2.2.2).mono ?_
      rintro e w11 ⟨rfl, hb11⟩
      rw [h9.out]
      dsimp only
      cases hk : decide (0 < k.length) with
      | true =>
        go_wp2_with fail
        go_ret
        exact ⟨rfl, bstep hB10 hb11⟩
      | false =>
        go_wp2_with fail
        go_ret
        exact ⟨rfl, bstep hB10 hb11⟩
    · have hthree : Hid (sortedN o ≠ 0 ∨ (sortedN o = 0 ∧ (sortedN a ≠ 0 ∨ (sortedN a = 0 ∧ sortedN b ≠ 0)))) := by
        by_cases c1 : sortedN o = 0
        · by_cases c2 : sortedN a = 0
          · exact .inr ⟨c1, .inr ⟨c2, fun c3 => h3 (three_zero.2 ⟨sortedN_set.1 c1, sortedN_set.1 c2, sortedN_set.1 c3⟩)⟩⟩
          · exact .inr ⟨c1, .inl c2⟩
        · exact .inl c1
      clear hN hN2 e3' lC h3 C4
      generalize mergeT o a b = m at *
      generalize mergeC o a b = k at *
      generalize mergeN o a b = N1 at *
      generalize mergeN o b a = N2 at *
      go_wp2_with fail
      go_region
      go_wp2_with fail
      refine (S1 _ hB5).mono ?_
      rintro e w6 ⟨rfl, hb6⟩
      have hB6 := bstep hB5 hb6
      dsimp only
      rcases hthree.out with c1 | ⟨c1, c2⟩
      · have d1 : (sortedN o == 0) = false := by simpa using c1
        clear hthree c1
        generalize sortedN o = n1 at *
        go_wp2_with fail
        go_ret
        exact ⟨rfl, hB6⟩
      · rw [c1, show errV 0 = .nilIface from rfl]
        go_wp2_with fail
        refine (S2 _ hB6).mono ?_
        rintro e w7 ⟨rfl, hb7⟩
        have hB7 := bstep hB6 hb7
        dsimp only
        rcases c2 with c2 | ⟨c2, c3⟩
        · have d1 : (sortedN a == 0) = false := by simpa using c2
          clear hthree c1 c2
          generalize sortedN a = n1 at *
          go_wp2_with fail
          go_ret
          exact ⟨rfl, hB7⟩
        · rw [c2, show errV 0 = .nilIface from rfl]
          go_wp2_with fail
          refine (S3 _ hB7).mono ?_
          rintro e w8 ⟨rfl, hb8⟩
          have d1 : (sortedN b == 0) = false := by simpa using c3
          clear hthree c1 c2 c3
          generalize sortedN b = n1 at *
          dsimp only
          go_wp2_with fail
          go_ret
          exact ⟨rfl, bstep hB7 hb8⟩
end Go.Proofs.YtifkcoappflenagGreatDoor
