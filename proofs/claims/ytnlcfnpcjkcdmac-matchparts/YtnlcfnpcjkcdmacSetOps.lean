/- Join, Less, Both, Has: what they tell. -/
import Derived.Test.YtnlcfnpcjkcdmacSetPlain
import Derived.Test.YtnlcfnpcjkcdmacSetCat
import Derived.Test.YtnlcfnpcjkcdmacSetBin
import Derived.Laws.EntriesVeiled
namespace Go.Proofs.Ytnlcfnpcjkcdmac
open Go Go.RowKit Go.Proofs
open Go.Maps
set_option synthInstance.maxSize 1000

attribute [local go_sem] eql_errV neq_errV guard_errV

/-- what is wrong with two sets -/
def bothN (a b : List Tr) : Int := if sortedN a = 0 then sortedN b else sortedN a
theorem bothN_zero {a b : List Tr} : bothN a b = 0 ↔ IsSet a ∧ IsSet b := by
  unfold bothN
  by_cases h : sortedN a = 0
  · rw [if_pos h, sortedN_set]
    exact ⟨fun hb => ⟨sortedN_set.1 h, hb⟩, fun hb => hb.2⟩
  · rw [if_neg h]
    exact ⟨fun hb => absurd hb h, fun hb => absurd (sortedN_set.2 hb.1) h⟩

set_option maxHeartbeats 1000000 in
theorem bothSorted_any (ad bd : Option Addr) (ca cb : Nat) (a b : List Tr) (w : World) (ha : SlT w ad a) (hb : SlT w bd b) (fa : ∀ x ∈ a, fitTr x) (fb : ∀ x ∈ b, fitTr x) (na : a.length ≤ 9223372036854775807) (nb : b.length ≤ 9223372036854775807) :
    Calls Try.prog 27 #[.slice ad a.length ca, .slice bd b.length cb] w fun e w' => e = .returned (errV (bothN a b)) ∧ RowKit.Below w.heap.size w w' := by
  have H1 := fun W hW => Sorted_any ad ca a W hW fa na
  have H2 := fun W hW => Sorted_any bd cb b W hW fb nb
  have fin : Hid (bothN a b = if sortedN a = 0 then sortedN b else sortedN a) := rfl
  have Ha : Hid (SlT w ad a) := ha
  have Hb : Hid (SlT w bd b) := hb
  generalize sortedN a = n at H1 fin
  generalize sortedN b = m at H2 fin
  clear ha hb fa fb na nb
  cases hn : (n == 0)
  · go_enter Try.func27, Try.ntmps27
    go_wp2_with fail
    refine (H1 _ Ha.out).mono ?_
    rintro e w1 ⟨rfl, hb1⟩
    go_wp2_with fail
    go_ret
    simp at hn
    exact ⟨ret_val (by rw [fin.out, if_neg hn]; rfl), hb1⟩
  · go_enter Try.func27, Try.ntmps27
    go_wp2_with fail
    refine (H1 _ Ha.out).mono ?_
    rintro e w1 ⟨rfl, hb1⟩
    go_wp2_with fail
    refine (H2 _ (Hb.out.below hb1)).mono ?_
    rintro e w2 ⟨rfl, hb2⟩
    go_wp2_with fail
    go_ret
    simp at hn
    exact ⟨ret_val (by rw [fin.out, if_pos hn]; rfl), bstep hb1 hb2⟩

/-- a call's answer: a list and a number -/
def Ans (n : Int) (P : List Tr → Prop) (w : World) (e : Ending) (w' : World) : Prop := RowKit.Below w.heap.size w w' ∧ ∃ (m : List Tr) (ad : Option Addr) (c : Nat), e = .returned (.tuple #[.slice ad m.length c, errV n]) ∧ SlT w' ad m ∧ P m

theorem Ans.mk {n : Int} {P : List Tr → Prop} {w w' : World} (hb : RowKit.Below w.heap.size w w') (m : List Tr) (ad : Option Addr) (c : Nat) (hs : SlT w' ad m) (hp : P m) : Ans n P w (.returned (.tuple #[.slice ad m.length c, errV n])) w' := ⟨hb, m, ad, c, rfl, hs, hp⟩
theorem slT_nil (W : World) (ad : Option Addr) : SlT W ad [] := fun h => absurd rfl h

def LessAns (a b m : List Tr) : Prop := m = if bothN a b = 0 then lessL a b else []
def BothAns (a b m : List Tr) : Prop := m = if bothN a b = 0 then bothL a b else []

set_option maxHeartbeats 2000000 in
set_option maxRecDepth 100000 in
theorem Less_any (ad bd : Option Addr) (ca cb : Nat) (a b : List Tr) (w : World) (ha : SlT w ad a) (hb : SlT w bd b) (fa : ∀ x ∈ a, fitTr x) (fb : ∀ x ∈ b, fitTr x) (na : a.length ≤ 9223372036854775807) (nb : b.length ≤ 9223372036854775807) :
    Calls Try.prog 33 #[.slice ad a.length ca, .slice bd b.length cb] w (Ans (bothN a b) (LessAns a b) w) := by
  have H := fun W h1 h2 => bothSorted_any ad bd ca cb a b W h1 h2 fa fb na nb
  have Ha : Hid (SlT w ad a) := ha
  have Hb : Hid (SlT w bd b) := hb
  have hz0 := @bothN_zero a b
  have hA0 : Hid (bothN a b ≠ 0 → LessAns a b []) := fun h => by unfold LessAns; rw [if_neg h]
  have hA1 : Hid (bothN a b = 0 → LessAns a b (lessL a b)) := fun h => by unfold LessAns; rw [if_pos h]
  generalize LessAns a b = LA at *
  generalize bothN a b = n at *
  clear ha hb fa fb na nb
  cases hn : (n == 0)
  · clear hz0
    go_enter Try.func33, Try.ntmps33
    go_wp2_with fail
    refine (H _ Ha.out Hb.out).mono ?_
    rintro e w1 ⟨rfl, hb1⟩
    go_wp2_with fail
    refine bodyPost_ret (v := .tuple #[.slice none 0 0, errV n]) (by simp [results, Try.results33, go_sem]) rfl (Ans.mk hb1 [] none 0 (slT_nil _ _) (hA0.out (by simpa using hn)))
  · obtain ⟨sa, sb⟩ := hz0.1 (by simpa using hn)
    have HK := fun W hW (bl : Nat) (hN : NotOK W bl b) => keep_any ad ca 55 bl a (fun x => !decide (x ∈ b)) W hW sa.1 enters55 (fun x hx W' hW' => notLess_any bl b x W' (hN.below hW') (sa.2.1 x hx))
    have HA := fun W hW => asker_any bd cb b W hW sb.2.1 sb.1
    have h0 : n = 0 := by simpa using hn
    have hA2 : Hid _ := hA1.out h0
    clear hA0 hA1
    subst h0
    rw [show errV 0 = .nilIface from rfl] at H
    clear sa sb hz0 hn
    go_enter Try.func33, Try.ntmps33
    go_wp2_with fail
    refine (H _ Ha.out Hb.out).mono ?_
    rintro e w1 ⟨rfl, hb1⟩
    go_wp2_with fail
    refine (HA _ (Hb.out.below hb1)).mono ?_
    rintro e w2 ⟨bx, rfl, hask, hb2⟩
    have hB2 := bstep hb1 hb2
    have Hask : Hid (AskOK w2 bx b) := hask
    clear hask
    go_wp2_with fail
    refine (HK _ ?h1 _ ?h2).mono ?_
    case h1 => exact Ha.out.below (bstep hB2 (balloc _ _))
    case h2 => exact ⟨bx, by go_simp, Hask.out.below (balloc _ _)⟩
    rintro e w3 ⟨ad', c', rfl, hsl, hb3⟩
    go_wp2_with fail
    refine bodyPost_ret (v := .tuple #[.slice ad' (a.filter fun x => !decide (x ∈ b)).length c', .nilIface]) (by simp [results, Try.results33, go_sem]) rfl (Ans.mk (n := 0) (bstep (bstep hB2 (balloc _ _)) hb3) _ ad' c' hsl hA2.out)

set_option maxHeartbeats 2000000 in
set_option maxRecDepth 100000 in
theorem Both_any (ad bd : Option Addr) (ca cb : Nat) (a b : List Tr) (w : World) (ha : SlT w ad a) (hb : SlT w bd b) (fa : ∀ x ∈ a, fitTr x) (fb : ∀ x ∈ b, fitTr x) (na : a.length ≤ 9223372036854775807) (nb : b.length ≤ 9223372036854775807) :
    Calls Try.prog 11 #[.slice ad a.length ca, .slice bd b.length cb] w (Ans (bothN a b) (BothAns a b) w) := by
  have H := fun W h1 h2 => bothSorted_any ad bd ca cb a b W h1 h2 fa fb na nb
  have Ha : Hid (SlT w ad a) := ha
  have Hb : Hid (SlT w bd b) := hb
  have hz0 := @bothN_zero a b
  have hA0 : Hid (bothN a b ≠ 0 → BothAns a b []) := fun h => by unfold BothAns; rw [if_neg h]
  have hA1 : Hid (bothN a b = 0 → BothAns a b (bothL a b)) := fun h => by unfold BothAns; rw [if_pos h]
  generalize BothAns a b = LA at *
  generalize bothN a b = n at *
  clear ha hb fa fb na nb
  cases hn : (n == 0)
  · clear hz0
    go_enter Try.func11, Try.ntmps11
    go_wp2_with fail
    refine (H _ Ha.out Hb.out).mono ?_
    rintro e w1 ⟨rfl, hb1⟩
    go_wp2_with fail
    refine bodyPost_ret (v := .tuple #[.slice none 0 0, errV n]) (by simp [results, Try.results11, go_sem]) rfl (Ans.mk hb1 [] none 0 (slT_nil _ _) (hA0.out (by simpa using hn)))
  · obtain ⟨sa, sb⟩ := hz0.1 (by simpa using hn)
    have HK := fun W hW (bl : Nat) (hN : AskOK W bl b) => keep_any ad ca 50 bl a (fun x => decide (x ∈ b)) W hW sa.1 enters50 (fun x hx W' hW' => ask_any bl b x W' (hN.below hW') (sa.2.1 x hx))
    have HA := fun W hW => asker_any bd cb b W hW sb.2.1 sb.1
    have h0 : n = 0 := by simpa using hn
    have hA2 : Hid _ := hA1.out h0
    clear hA0 hA1
    subst h0
    rw [show errV 0 = .nilIface from rfl] at H
    clear sa sb hz0 hn
    go_enter Try.func11, Try.ntmps11
    go_wp2_with fail
    refine (H _ Ha.out Hb.out).mono ?_
    rintro e w1 ⟨rfl, hb1⟩
    go_wp2_with fail
    refine (HA _ (Hb.out.below hb1)).mono ?_
    rintro e w2 ⟨bx, rfl, hask, hb2⟩
    have hB2 := bstep hb1 hb2
    have Hask : Hid (AskOK w2 bx b) := hask
    clear hask
    go_wp2_with fail
    refine (HK _ (Ha.out.below hB2) _ Hask.out).mono ?_
    rintro e w3 ⟨ad', c', rfl, hsl, hb3⟩
    go_wp2_with fail
    refine bodyPost_ret (v := .tuple #[.slice ad' (a.filter fun x => decide (x ∈ b)).length c', .nilIface]) (by simp [results, Try.results11, go_sem]) rfl (Ans.mk (n := 0) (bstep hB2 hb3) _ ad' c' hsl hA2.out)

/-- what Join tells -/
def joinN (a b : List Tr) : Int := if bothN a b = 0 then (if a.length + (lessL b a).length ≤ 200 then 0 else 4) else bothN a b
def JoinAns (a b m : List Tr) : Prop := (joinN a b = 0 → JoinOf a b m) ∧ (joinN a b ≠ 0 → m = [])

theorem sortN_cat {a b : List Tr} (sa : IsSet a) (sb : IsSet b) : sortN (a ++ lessL b a) = if a.length + (lessL b a).length ≤ 200 then 0 else 4 := by
  have hall : ∀ x ∈ a ++ lessL b a, chkTr x = 0 := fun x hx => by
    rcases List.mem_append.1 hx with h | h
    · exact sa.2.1 x h
    · exact sb.2.1 x (mem_lessL.1 h).1
  by_cases h : a.length + (lessL b a).length ≤ 200
  · rw [if_pos h]
    exact sortN_zero.2 ⟨by rw [List.length_append]; exact h, hall⟩
  · rw [if_neg h]
    unfold sortN faultN
    rw [if_pos (by rw [List.length_append]; omega)]

set_option maxHeartbeats 2000000 in
set_option maxRecDepth 100000 in
theorem Join_any' (ad bd : Option Addr) (ca cb : Nat) (a b : List Tr) (w : World) (ha : SlT w ad a) (hb : SlT w bd b) (fa : ∀ x ∈ a, fitTr x) (fb : ∀ x ∈ b, fitTr x) (na : a.length ≤ 9223372036854775807) (nb : b.length ≤ 9223372036854775807) :
    Calls Try.prog 56 #[.slice ad a.length ca, .slice bd b.length cb] w (Ans (joinN a b) (JoinAns a b) w) := by
  have H := fun W h1 h2 => bothSorted_any ad bd ca cb a b W h1 h2 fa fb na nb
  have Ha : Hid (SlT w ad a) := ha
  have Hb : Hid (SlT w bd b) := hb
  by_cases h0 : bothN a b = 0
  · obtain ⟨sa, sb⟩ := bothN_zero.1 h0
    have hj : joinN a b = if a.length + (lessL b a).length ≤ 200 then 0 else 4 := by unfold joinN; rw [if_pos h0]
    have hjs : joinN a b = sortN (a ++ lessL b a) := by rw [hj, sortN_cat sa sb]
    have HK := fun W hW (bl : Nat) (hN : NotOK W bl a) => keep_any bd cb 67 bl b (fun x => !decide (x ∈ a)) W hW sb.1 enters67 (fun x hx W' hW' => notJoin_any bl a x W' (hN.below hW') (sb.2.1 x hx))
    have HA := fun W hW => asker_any ad ca a W hW sa.2.1 sa.1
    have hle : (lessL b a).length ≤ 200 := Nat.le_trans (List.length_filter_le _ _) sb.1
    have HC := fun W bs am cm h1 h2 h3 h4 => Concat_any bs ad am ca cm a (lessL b a) W h1 h2 h3 h4 sa.1 hle
    have HS : ∀ W am cm, SlT W am (a ++ lessL b a) → Calls Try.prog 68 #[.slice am (a.length + (lessL b a).length) cm] W (Ans (joinN a b) (JoinAns a b) W) := by
      intro W am cm hW
      rw [← List.length_append]
      by_cases hs : sortN (a ++ lessL b a) = 0
      · refine (Sort_good am cm _ W hW hs).mono ?_
        rintro e w' ⟨hb', m, ad', c, rfl, h1, h2, h3, _⟩
        refine ⟨hb', m, ad', c, by rw [hjs, hs]; rfl, h1, fun _ => ⟨h2, fun x => ?_⟩, fun h => absurd (hjs.trans hs) h⟩
        rw [h3, List.mem_append, mem_lessL]
        by_cases hx : x ∈ a <;> simp [hx]
      · have hfit : ∀ x ∈ a ++ lessL b a, fitTr x := fun x hx => by
          rcases List.mem_append.1 hx with h | h
          · exact fa x h
          · exact fb x (mem_lessL.1 h).1
        refine (Sort_bad am cm _ W hW hfit (by rw [List.length_append]; have := sa.1; omega) hs).mono ?_
        rintro e w' ⟨rfl, hb'⟩
        exact ⟨hb', [], none, 0, by rw [hjs]; rfl, slT_nil _ _, fun h => absurd (hjs.symm.trans h) hs, fun _ => rfl⟩
    rw [h0, show errV 0 = .nilIface from rfl] at H
    have Hle : Hid (lessL b a = b.filter fun x => !decide (x ∈ a)) := rfl
    generalize joinN a b = n at *
    clear sa sb h0 hj hjs ha hb fa fb na nb hle
    generalize lessL b a = less at *
    generalize JoinAns a b = JA at *
    rw [← Hle.out] at HK
    have HS' : Hid _ := HS
    clear HS
    go_enter Try.func56, Try.ntmps56
    go_wp2_with fail
    refine (H _ Ha.out Hb.out).mono ?_
    rintro e w1 ⟨rfl, hb1⟩
    go_wp2_with fail
    refine (HA _ (Ha.out.below hb1)).mono ?_
    rintro e w2 ⟨bx, rfl, hask, hb2⟩
    have hB2 := bstep hb1 hb2
    have Hask : Hid (AskOK w2 bx a) := hask
    clear hask
    go_wp2_with fail
    refine (HK _ ?h1 _ ?h2).mono ?_
    case h1 => exact Hb.out.below (bstep hB2 (balloc _ _))
    case h2 => exact ⟨bx, by go_simp, Hask.out.below (balloc _ _)⟩
    rintro e w3 ⟨ad', c', rfl, hsl, hb3⟩
    have hB3 := bstep (bstep hB2 (balloc _ _)) hb3
    have Hsl : Hid (SlT w3 ad' less) := hsl
    clear hsl
    go_wp2_with fail
    refine (HC _ _ ad' c' ?h1 ?h2 ?h3 ?h4).mono ?_
    case h1 => go_simp
    case h2 => go_simp
    case h3 => exact Ha.out.below (bstep hB3 (balloc _ _))
    case h4 => exact Hsl.out.below (balloc _ _)
    rintro e w4 ⟨am, cm, rfl, hcat, hb4⟩
    have hB4 := bstep (bstep hB3 (balloc _ _)) hb4
    have Hcat : Hid (SlT w4 am (a ++ less)) := hcat
    clear hcat
    go_wp2_with fail
    refine (HS'.out _ am cm Hcat.out).mono ?_
    rintro e w5 ⟨hb5, m, ad5, c5, rfl, hm, hJ⟩
    go_wp2_with fail
    exact bodyPost_ret (v := .tuple #[.slice ad5 m.length c5, errV n]) (by simp [results, Try.results56, go_sem]) rfl (Ans.mk (bstep hB4 hb5) m ad5 c5 hm hJ)
  · have hj : Hid (joinN a b = bothN a b) := if_neg h0
    have hj0 : Hid (JoinAns a b []) := ⟨fun h => absurd (hj.out.symm.trans h) h0, fun _ => rfl⟩
    rw [hj.out]
    have hn : (bothN a b == 0) = false := by simpa using h0
    generalize bothN a b = n at *
    generalize JoinAns a b = JA at *
    clear ha hb fa fb na nb hj h0
    go_enter Try.func56, Try.ntmps56
    go_wp2_with fail
    refine (H _ Ha.out Hb.out).mono ?_
    rintro e w1 ⟨rfl, hb1⟩
    go_wp2_with fail
    exact bodyPost_ret (v := .tuple #[.slice none 0 0, errV n]) (by simp [results, Try.results56, go_sem]) rfl (Ans.mk hb1 [] none 0 (slT_nil _ _) hj0.out)

/-- what Has tells -/
def hasN (l : List Tr) (t : Tr) : Int := if sortedN l = 0 then chkTr t else sortedN l

set_option maxHeartbeats 2000000 in
set_option maxRecDepth 100000 in
theorem Has_any (ad : Option Addr) (ca : Nat) (l : List Tr) (t : Tr) (w : World) (hl : SlT w ad l) (fl : ∀ x ∈ l, fitTr x) (ft : fitTr t) (nl : l.length ≤ 9223372036854775807) :
    Calls Try.prog 10 #[.slice ad l.length ca, valTr t] w fun e w' => e = .returned (.tuple #[.bool (decide (hasN l t = 0) && decide (t ∈ l)), errV (hasN l t)]) ∧ RowKit.Below w.heap.size w w' := by
  have H := fun W h1 => Sorted_any ad ca l W h1 fl nl
  have HC := fun W => ChkTr_any t W ft
  have Hl : Hid (SlT w ad l) := hl
  have fin : Hid (hasN l t = if sortedN l = 0 then chkTr t else sortedN l) := rfl
  have hset := @sortedN_set l
  generalize hasN l t = N at *
  generalize sortedN l = n at *
  generalize chkTr t = m at *
  clear hl fl ft nl
  unfold valTr at HC ⊢
  cases hn : (n == 0)
  · have hne : ¬ n = 0 := by simpa using hn
    have hN : Hid (N = n) := by rw [fin.out, if_neg hne]; rfl
    clear hset fin
    rw [hN.out, show (decide (n = 0) && decide (t ∈ l)) = false by simp [hne]]
    clear hne hN
    go_enter Try.func10, Try.ntmps10
    go_wp2_with fail
    refine (H _ (Hl.out.below (balloc _ _))).mono ?_
    rintro e w1 ⟨rfl, hb1⟩
    go_wp2_with fail
    exact bodyPost_ret (v := .tuple #[.bool false, errV n]) (by simp [results, Try.results10, go_sem]) rfl ⟨rfl, bstep (balloc _ _) hb1⟩
  · have hn0 : n = 0 := by simpa using hn
    have hN : Hid (N = m) := by rw [fin.out, if_pos hn0]; rfl
    obtain ⟨s1, s2, s3⟩ := hset.1 hn0
    have HB := fun W h1 => Bin_any ad ca l t W h1 s3 s1
    unfold valTr at HB
    subst hn0
    rw [show errV 0 = .nilIface from rfl] at H
    clear hset fin s1 s2 s3 hn
    rw [hN.out]
    clear hN
    cases hm : (m == 0)
    · have hne : ¬ m = 0 := by simpa using hm
      rw [show (decide (m = 0) && decide (t ∈ l)) = false by simp [hne]]
      clear hne
      go_enter Try.func10, Try.ntmps10
      go_wp2_with fail
      refine (H _ (Hl.out.below (balloc _ _))).mono ?_
      rintro e w1 ⟨rfl, hb1⟩
      obtain ⟨a0, a1, a2, b0, b1, b2, d0, d1, d2, hzz⟩ := ninebox hb1
      go_wp2_with fail
      refine (HC _).mono ?_
      rintro e w2 ⟨rfl, hb2⟩
      go_wp2_with fail
      exact bodyPost_ret (v := .tuple #[.bool false, errV m]) (by simp [results, Try.results10, go_sem]) rfl ⟨rfl, bstep (bstep (balloc _ _) hb1) hb2⟩
    · have hm0 : m = 0 := by simpa using hm
      subst hm0
      rw [show errV 0 = .nilIface from rfl] at HC ⊢
      rw [show (decide ((0 : Int) = 0) && decide (t ∈ l)) = decide (t ∈ l) by simp]
      clear hm
      generalize decide (t ∈ l) = d at *
      go_enter Try.func10, Try.ntmps10
      go_wp2_with fail
      refine (H _ (Hl.out.below (balloc _ _))).mono ?_
      rintro e w1 ⟨rfl, hb1⟩
      obtain ⟨a0, a1, a2, b0, b1, b2, d0, d1, d2, hzz⟩ := ninebox hb1
      go_wp2_with fail
      refine (HC _).mono ?_
      rintro e w2 ⟨rfl, hb2⟩
      have hB2 := bstep hb1 hb2
      clear a0 a1 a2 b0 b1 b2 d0 d1 d2 hzz
      obtain ⟨a0, a1, a2, b0, b1, b2, d0, d1, d2, hzz⟩ := ninebox hB2
      go_wp2_with fail
      refine (HB _ (Hl.out.below (bstep (balloc _ _) hB2))).mono ?_
      rintro e w3 ⟨i, rfl, hb3⟩
      go_wp2_with fail
      exact bodyPost_ret (v := .tuple #[.bool d, .nilIface]) (by simp [results, Try.results10, go_sem]) rfl ⟨rfl, bstep (bstep (balloc _ _) hB2) hb3⟩
end Go.Proofs.Ytnlcfnpcjkcdmac
