import Derived.Test.YtnphjdckdkjopaaGreatDoorMA0x3
import Derived.Test.YtnphjdckdkjopaaGreatDoorMA0x4
import Derived.Laws.EntriesVeiled
import Derived.Deep.RegionHeld3
import Derived.Laws.IdiomStrings
import Derived.Deep.RegionLaw
import Derived.Test.YtnphjdckdkjopaaGreatDoorMA0x1
import Derived.Test.YtnphjdckdkjopaaGreatDoorMA0x0
import Derived.Laws.AppendOwn
import Derived.Maps.AppendAt

/- Join, Less, Both, Has: what they tell. -/
namespace Go.Proofs.YtnphjdckdkjopaaGreatDoor
open Go Go.RowKit Go.Proofs
open Go.Maps
set_option synthInstance.maxSize 1000

attribute [local go_sem] eql_errV neq_errV guard_errV

/-- what is wrong with two sets -/
def bothN (a b : List Tr) : Int := if sortedN a = 0 then sortedN b else sortedN a
theorem bothN_zero {a b : List Tr} : bothN a b = 0 ↔ IsSet a ∧ IsSet b := by
  unfold bothN
  by_cases h : sortedN a = 0
  · rw [if_pos h, sortedN_set]
    exact ⟨fun hb => ⟨sortedN_set.1 h, hb⟩, fun hb => hb.2⟩
  · rw [if_neg h]
    exact ⟨fun hb => absurd hb h, fun hb => absurd (sortedN_set.2 hb.1) h⟩

set_option maxHeartbeats 1000000 in
theorem bothSorted_any (ad bd : Option Addr) (ca cb : Nat) (a b : List Tr) (w : World) (ha : SlT w ad a) (hb : SlT w bd b) (fa : ∀ x ∈ a, fitTr x) (fb : ∀ x ∈ b, fitTr x) (na : a.length ≤ 9223372036854775807) (nb : b.length ≤ 9223372036854775807) :
    Calls Tryz.prog 180 #[.slice ad a.length ca, .slice bd b.length cb] w fun e w' => e = .returned (errV (bothN a b)) ∧ RowKit.Below w.heap.size w w' := by
  have H1 := fun W hW => Sorted_any ad ca a W hW fa na
  have H2 := fun W hW => Sorted_any bd cb b W hW fb nb
  have fin : Hid (bothN a b = if sortedN a = 0 then sortedN b else sortedN a) := rfl
  have Ha : Hid (SlT w ad a) := ha
  have Hb : Hid (SlT w bd b) := hb
  generalize sortedN a = n at H1 fin
  generalize sortedN b = m at H2 fin
  clear ha hb fa fb na nb
  cases hn : (n == 0)
  · go_enter Tryz.func180, Tryz.ntmps180
    go_wp2_with fail
    refine (H1 _ Ha.out).mono ?_
    rintro e w1 ⟨rfl, hb1⟩
    go_wp2_with fail
    go_ret
    simp at hn
    exact ⟨ret_val (by rw [fin.out, if_neg hn]; rfl), hb1⟩
  · go_enter Tryz.func180, Tryz.ntmps180
    go_wp2_with fail
    refine (H1 _ Ha.out).mono ?_
    rintro e w1 ⟨rfl, hb1⟩
    go_wp2_with fail
    refine (H2 _ (Hb.out.below hb1)).mono ?_
    rintro e w2 ⟨rfl, hb2⟩
    go_wp2_with fail
    go_ret
    simp at hn
    exact ⟨ret_val (by rw [fin.out, if_pos hn]; rfl), bstep hb1 hb2⟩

/-- a call's answer: a list and a number -/
def Ans (n : Int) (P : List Tr → Prop) (w : World) (e : Ending) (w' : World) : Prop := RowKit.Below w.heap.size w w' ∧ ∃ (m : List Tr) (ad : Option Addr) (c : Nat), e = .returned (.tuple #[.slice ad m.length c, errV n]) ∧ SlT w' ad m ∧ P m

theorem Ans.mk {n : Int} {P : List Tr → Prop} {w w' : World} (hb : RowKit.Below w.heap.size w w') (m : List Tr) (ad : Option Addr) (c : Nat) (hs : SlT w' ad m) (hp : P m) : Ans n P w (.returned (.tuple #[.slice ad m.length c, errV n])) w' := ⟨hb, m, ad, c, rfl, hs, hp⟩
theorem slT_nil (W : World) (ad : Option Addr) : SlT W ad [] := fun h => absurd rfl h

def LessAns (a b m : List Tr) : Prop := m = if bothN a b = 0 then lessL a b else []
def BothAns (a b m : List Tr) : Prop := m = if bothN a b = 0 then bothL a b else []

set_option maxHeartbeats 2000000 in
set_option maxRecDepth 100000 in
theorem Less_any (ad bd : Option Addr) (ca cb : Nat) (a b : List Tr) (w : World) (ha : SlT w ad a) (hb : SlT w bd b) (fa : ∀ x ∈ a, fitTr x) (fb : ∀ x ∈ b, fitTr x) (na : a.length ≤ 9223372036854775807) (nb : b.length ≤ 9223372036854775807) :
    Calls Tryz.prog 157 #[.slice ad a.length ca, .slice bd b.length cb] w (Ans (bothN a b) (LessAns a b) w) := by
  have H := fun W h1 h2 => bothSorted_any ad bd ca cb a b W h1 h2 fa fb na nb
  have Ha : Hid (SlT w ad a) := ha
  have Hb : Hid (SlT w bd b) := hb
  have hz0 := @bothN_zero a b
  have hA0 : Hid (bothN a b ≠ 0 → LessAns a b []) := fun h => by unfold LessAns; rw [if_neg h]
  have hA1 : Hid (bothN a b = 0 → LessAns a b (lessL a b)) := fun h => by unfold LessAns; rw [if_pos h]
  generalize LessAns a b = LA at *
  generalize bothN a b = n at *
  clear ha hb fa fb na nb
  cases hn : (n == 0)
  · clear hz0
    go_enter Tryz.func157, Tryz.ntmps157
    go_wp2_with fail
    refine (H _ Ha.out Hb.out).mono ?_
    rintro e w1 ⟨rfl, hb1⟩
    go_wp2_with fail
    refine bodyPost_ret (v := .tuple #[.slice none 0 0, errV n]) (by simp [results, Tryz.results157, go_sem]) rfl (Ans.mk hb1 [] none 0 (slT_nil _ _) (hA0.out (by simpa using hn)))
  · obtain ⟨sa, sb⟩ := hz0.1 (by simpa using hn)
    have HK := fun W hW (bl : Nat) (hN : NotOK W bl b) => keep_any ad ca 183 bl a (fun x => !decide (x ∈ b)) W hW sa.1 enters183 (fun x hx W' hW' => notLess_any bl b x W' (hN.below hW') (sa.2.1 x hx))
    have HA := fun W hW => asker_any bd cb b W hW sb.2.1 sb.1
    have h0 : n = 0 := by simpa using hn
    have hA2 : Hid _ := hA1.out h0
    clear hA0 hA1
    subst h0
    rw [show errV 0 = .nilIface from rfl] at H
    clear sa sb hz0 hn
    go_enter Tryz.func157, Tryz.ntmps157
    go_wp2_with fail
    refine (H _ Ha.out Hb.out).mono ?_
    rintro e w1 ⟨rfl, hb1⟩
    go_wp2_with fail
    refine (HA _ (Hb.out.below hb1)).mono ?_
    rintro e w2 ⟨bx, rfl, hask, hb2⟩
    have hB2 := bstep hb1 hb2
    have Hask : Hid (AskOK w2 bx b) := hask
    clear hask
    go_wp2_with fail
    refine (HK _ ?h1 _ ?h2).mono ?_
    case h1 => exact Ha.out.below (bstep hB2 (balloc _ _))
    case h2 => exact ⟨bx, by go_simp, Hask.out.below (balloc _ _)⟩
    rintro e w3 ⟨ad', c', rfl, hsl, hb3⟩
    go_wp2_with fail
    refine bodyPost_ret (v := .tuple #[.slice ad' (a.filter fun x => !decide (x ∈ b)).length c', .nilIface]) (by simp [results, Tryz.results157, go_sem]) rfl (Ans.mk (n := 0) (bstep (bstep hB2 (balloc _ _)) hb3) _ ad' c' hsl hA2.out)

set_option maxHeartbeats 2000000 in
set_option maxRecDepth 100000 in
theorem Both_any (ad bd : Option Addr) (ca cb : Nat) (a b : List Tr) (w : World) (ha : SlT w ad a) (hb : SlT w bd b) (fa : ∀ x ∈ a, fitTr x) (fb : ∀ x ∈ b, fitTr x) (na : a.length ≤ 9223372036854775807) (nb : b.length ≤ 9223372036854775807) :
    Calls Tryz.prog 156 #[.slice ad a.length ca, .slice bd b.length cb] w (Ans (bothN a b) (BothAns a b) w) := by
  have H := fun W h1 h2 => bothSorted_any ad bd ca cb a b W h1 h2 fa fb na nb
  have Ha : Hid (SlT w ad a) := ha
  have Hb : Hid (SlT w bd b) := hb
  have hz0 := @bothN_zero a b
  have hA0 : Hid (bothN a b ≠ 0 → BothAns a b []) := fun h => by unfold BothAns; rw [if_neg h]
  have hA1 : Hid (bothN a b = 0 → BothAns a b (bothL a b)) := fun h => by unfold BothAns; rw [if_pos h]
  generalize BothAns a b = LA at *
  generalize bothN a b = n at *
  clear ha hb fa fb na nb
  cases hn : (n == 0)
  · clear hz0
    go_enter Tryz.func156, Tryz.ntmps156
    go_wp2_with fail
    refine (H _ Ha.out Hb.out).mono ?_
    rintro e w1 ⟨rfl, hb1⟩
    go_wp2_with fail
    refine bodyPost_ret (v := .tuple #[.slice none 0 0, errV n]) (by simp [results, Tryz.results156, go_sem]) rfl (Ans.mk hb1 [] none 0 (slT_nil _ _) (hA0.out (by simpa using hn)))
  · obtain ⟨sa, sb⟩ := hz0.1 (by simpa using hn)
    have HK := fun W hW (bl : Nat) (hN : AskOK W bl b) => keep_any ad ca 210 bl a (fun x => decide (x ∈ b)) W hW sa.1 enters210 (fun x hx W' hW' => ask_any bl b x W' (hN.below hW') (sa.2.1 x hx))
    have HA := fun W hW => asker_any bd cb b W hW sb.2.1 sb.1
    have h0 : n = 0 := by simpa using hn
    have hA2 : Hid _ := hA1.out h0
    clear hA0 hA1
    subst h0
    rw [show errV 0 = .nilIface from rfl] at H
    clear sa sb hz0 hn
    go_enter Tryz.func156, Tryz.ntmps156
    go_wp2_with fail
    refine (H _ Ha.out Hb.out).mono ?_
    rintro e w1 ⟨rfl, hb1⟩
    go_wp2_with fail
    refine (HA _ (Hb.out.below hb1)).mono ?_
    rintro e w2 ⟨bx, rfl, hask, hb2⟩
    have hB2 := bstep hb1 hb2
    have Hask : Hid (AskOK w2 bx b) := hask
    clear hask
    go_wp2_with fail
    refine (HK _ (Ha.out.below hB2) _ Hask.out).mono ?_
    rintro e w3 ⟨ad', c', rfl, hsl, hb3⟩
    go_wp2_with fail
    refine bodyPost_ret (v := .tuple #[.slice ad' (a.filter fun x => decide (x ∈ b)).length c', .nilIface]) (by simp [results, Tryz.results156, go_sem]) rfl (Ans.mk (n := 0) (bstep hB2 hb3) _ ad' c' hsl hA2.out)

/-- what Join tells -/
def joinN (a b : List Tr) : Int := if bothN a b = 0 then (if a.length + (lessL b a).length ≤ 200 then 0 else 4) else bothN a b
def JoinAns (a b m : List Tr) : Prop := (joinN a b = 0 → JoinOf a b m) ∧ (joinN a b ≠ 0 → m = [])

theorem sortN_cat {a b : List Tr} (sa : IsSet a) (sb : IsSet b) : sortN (a ++ lessL b a) = if a.length + (lessL b a).length ≤ 200 then 0 else 4 := by
  have hall : ∀ x ∈ a ++ lessL b a, chkTr x = 0 := fun x hx => by
    rcases List.mem_append.1 hx with h | h
    · exact sa.2.1 x h
    · exact sb.2.1 x (mem_lessL.1 h).1
  by_cases h : a.length + (lessL b a).length ≤ 200
  · rw [if_pos h]
    exact sortN_zero.2 ⟨by rw [List.length_append]; exact h, hall⟩
  · rw [if_neg h]
    unfold sortN faultN
    rw [if_pos (by rw [List.length_append]; omega)]

set_option maxHeartbeats 2000000 in
set_option maxRecDepth 100000 in
theorem Join_any' (ad bd : Option Addr) (ca cb : Nat) (a b : List Tr) (w : World) (ha : SlT w ad a) (hb : SlT w bd b) (fa : ∀ x ∈ a, fitTr x) (fb : ∀ x ∈ b, fitTr x) (na : a.length ≤ 9223372036854775807) (nb : b.length ≤ 9223372036854775807) :
    Calls Tryz.prog 158 #[.slice ad a.length ca, .slice bd b.length cb] w (Ans (joinN a b) (JoinAns a b) w) := by
  have H := fun W h1 h2 => bothSorted_any ad bd ca cb a b W h1 h2 fa fb na nb
  have Ha : Hid (SlT w ad a) := ha
  have Hb : Hid (SlT w bd b) := hb
  by_cases h0 : bothN a b = 0
  · obtain ⟨sa, sb⟩ := bothN_zero.1 h0
    have hj : joinN a b = if a.length + (lessL b a).length ≤ 200 then 0 else 4 := by unfold joinN; rw [if_pos h0]
    have hjs : joinN a b = sortN (a ++ lessL b a) := by rw [hj, sortN_cat sa sb]
    have HK := fun W hW (bl : Nat) (hN : NotOK W bl a) => keep_any bd cb 184 bl b (fun x => !decide (x ∈ a)) W hW sb.1 enters184 (fun x hx W' hW' => notJoin_any bl a x W' (hN.below hW') (sb.2.1 x hx))
    have HA := fun W hW => asker_any ad ca a W hW sa.2.1 sa.1
    have hle : (lessL b a).length ≤ 200 := Nat.le_trans (List.length_filter_le _ _) sb.1
    have HC := fun W bs am cm h1 h2 h3 h4 => Concat_any bs ad am ca cm a (lessL b a) W h1 h2 h3 h4 sa.1 hle
    have HS : ∀ W am cm, SlT W am (a ++ lessL b a) → Calls Tryz.prog 185 #[.slice am (a.length + (lessL b a).length) cm] W (Ans (joinN a b) (JoinAns a b) W) := by
      intro W am cm hW
      rw [← List.length_append]
      by_cases hs : sortN (a ++ lessL b a) = 0
      · refine (Sort_good am cm _ W hW hs).mono ?_
        rintro e w' ⟨hb', m, ad', c, rfl, h1, h2, h3, _⟩
        refine ⟨hb', m, ad', c, by rw [hjs, hs]; rfl, h1, fun _ => ⟨h2, fun x => ?_⟩, fun h => absurd (hjs.trans hs) h⟩
        rw [h3, List.mem_append, mem_lessL]
        by_cases hx : x ∈ a <;> simp [hx]
      · have hfit : ∀ x ∈ a ++ lessL b a, fitTr x := fun x hx => by
          rcases List.mem_append.1 hx with h | h
          · exact fa x h
          · exact fb x (mem_lessL.1 h).1
        refine (Sort_bad am cm _ W hW hfit (by rw [List.length_append]; have := sa.1; omega) hs).mono ?_
        rintro e w' ⟨rfl, hb'⟩
        exact ⟨hb', [], none, 0, by rw [hjs]; rfl, slT_nil _ _, fun h => absurd (hjs.symm.trans h) hs, fun _ => rfl⟩
    rw [h0, show errV 0 = .nilIface from rfl] at H
    have Hle : Hid (lessL b a = b.filter fun x => !decide (x ∈ a)) := rfl
    generalize joinN a b = n at *
    clear sa sb h0 hj hjs ha hb fa fb na nb hle
    generalize lessL b a = less at *
    generalize JoinAns a b = JA at *
    rw [← Hle.out] at HK
    have HS' : Hid _ := HS
    clear HS
    go_enter Tryz.func158, Tryz.ntmps158
    go_wp2_with fail
    refine (H _ Ha.out Hb.out).mono ?_
    rintro e w1 ⟨rfl, hb1⟩
    go_wp2_with fail
    refine (HA _ (Ha.out.below hb1)).mono ?_
    rintro e w2 ⟨bx, rfl, hask, hb2⟩
    have hB2 := bstep hb1 hb2
    have Hask : Hid (AskOK w2 bx a) := hask
    clear hask
    go_wp2_with fail
    refine (HK _ ?h1 _ ?h2).mono ?_
    case h1 => exact Hb.out.below (bstep hB2 (balloc _ _))
    case h2 => exact ⟨bx, by go_simp, Hask.out.below (balloc _ _)⟩
    rintro e w3 ⟨ad', c', rfl, hsl, hb3⟩
    have hB3 := bstep (bstep hB2 (balloc _ _)) hb3
    have Hsl : Hid (SlT w3 ad' less) := hsl
    clear hsl
    go_wp2_with fail
    refine (HC _ _ ad' c' ?h1 ?h2 ?h3 ?h4).mono ?_
    case h1 => go_simp
    case h2 => go_simp
    case h3 => exact Ha.out.below (bstep hB3 (balloc _ _))
    case h4 => exact Hsl.out.below (balloc _ _)
    rintro e w4 ⟨am, cm, rfl, hcat, hb4⟩
    have hB4 := bstep (bstep hB3 (balloc _ _)) hb4
    have Hcat : Hid (SlT w4 am (a ++ less)) := hcat
    clear hcat
    go_wp2_with fail
    refine (HS'.out _ am cm Hcat.out).mono ?_
    rintro e w5 ⟨hb5, m, ad5, c5, rfl, hm, hJ⟩
    go_wp2_with fail
    exact bodyPost_ret (v := .tuple #[.slice ad5 m.length c5, errV n]) (by simp [results, Tryz.results158, go_sem]) rfl (Ans.mk (bstep hB4 hb5) m ad5 c5 hm hJ)
  · have hj : Hid (joinN a b = bothN a b) := if_neg h0
    have hj0 : Hid (JoinAns a b []) := ⟨fun h => absurd (hj.out.symm.trans h) h0, fun _ => rfl⟩
    rw [hj.out]
    have hn : (bothN a b == 0) = false := by simpa using h0
    generalize bothN a b = n at *
    generalize JoinAns a b = JA at *
    clear ha hb fa fb na nb hj h0
    go_enter Tryz.func158, Tryz.ntmps158
    go_wp2_with fail
    refine (H _ Ha.out Hb.out).mono ?_
    rintro e w1 ⟨rfl, hb1⟩
    go_wp2_with fail
    exact bodyPost_ret (v := .tuple #[.slice none 0 0, errV n]) (by simp [results, Tryz.results158, go_sem]) rfl (Ans.mk hb1 [] none 0 (slT_nil _ _) hj0.out)

/-- what Has tells -/
def hasN (l : List Tr) (t : Tr) : Int := if sortedN l = 0 then chkTr t else sortedN l

end Go.Proofs.YtnphjdckdkjopaaGreatDoor

/- Layers: what is wrong with one, what it makes of a set, what is between two sets; the theory. -/
namespace Go.Proofs.YtnphjdckdkjopaaGreatDoor
open Go Go.RowKit Go.Proofs
set_option synthInstance.maxSize 1000

/-- the first that is wrong -/
def orN (a b : Int) : Int := if a = 0 then b else a
theorem orN_zero {a b : Int} : orN a b = 0 ↔ a = 0 ∧ b = 0 := by
  unfold orN
  by_cases h : a = 0
  · rw [if_pos h]; exact ⟨fun e => ⟨h, e⟩, fun e => e.2⟩
  · rw [if_neg h]; exact ⟨fun e => absurd e h, fun e => absurd e.1 h⟩
theorem orN_pos {a b : Int} (h : a = 0) : orN a b = b := if_pos h
theorem orN_neg {a b : Int} (h : ¬ a = 0) : orN a b = a := if_neg h

def apartN (a b : List Tr) : Int := orN (bothN a b) (if (bothL a b).length = 0 then 0 else 7)
def withinN (s t : List Tr) : Int := orN (bothN t s) (if (lessL t s).length = 0 then 0 else 5)
def swapN (s o i : List Tr) : Int := orN (bothN s o) (joinN (lessL s o) i)
def SwapAns (s o i m : List Tr) : Prop := (swapN s o i = 0 → JoinOf (lessL s o) i m) ∧ (swapN s o i ≠ 0 → m = [])
def applyN (s add take : List Tr) : Int := orN (sortedN s) (orN (apartN add take) (orN (apartN s add) (orN (withinN s take) (swapN s take add))))
def ApplyAns (s add take m : List Tr) : Prop := (applyN s add take = 0 → JoinOf (lessL s take) add m) ∧ (applyN s add take ≠ 0 → m = [])
def followsN (a1 a2 b1 b2 : List Tr) : Int := orN (apartN a1 a2) (orN (apartN b1 b2) (orN (apartN a1 b1) (apartN a2 b2)))
def afterN (did undid does undoes : List Tr) : Int := orN (bothN does undid) (swapN did undoes (lessL does undid))
def AfterAns (did undid does undoes m : List Tr) : Prop := (afterN did undid does undoes = 0 → JoinOf (lessL did undoes) (lessL does undid) m) ∧ (afterN did undid does undoes ≠ 0 → m = [])
def thenN (a1 a2 b1 b2 : List Tr) : Int := orN (followsN a1 a2 b1 b2) (orN (afterN a1 a2 b1 b2) (afterN a2 a1 b2 b1))
def ThenAns (a1 a2 b1 b2 m1 m2 : List Tr) : Prop := (thenN a1 a2 b1 b2 = 0 → JoinOf (lessL a1 b2) (lessL b1 a2) m1 ∧ JoinOf (lessL a2 b1) (lessL b2 a1) m2) ∧ (thenN a1 a2 b1 b2 ≠ 0 → m1 = [] ∧ m2 = [])
def BtwAns (a b m1 m2 : List Tr) : Prop := (bothN a b = 0 → m1 = lessL b a ∧ m2 = lessL a b) ∧ (bothN a b ≠ 0 → m1 = [] ∧ m2 = [])
def TurnAns (add take m1 m2 : List Tr) : Prop := (apartN add take = 0 → m1 = take ∧ m2 = add) ∧ (apartN add take ≠ 0 → m1 = [] ∧ m2 = [])

theorem bothN_comm0 {a b : List Tr} (h : bothN a b = 0) : bothN b a = 0 := bothN_zero.2 ⟨(bothN_zero.1 h).2, (bothN_zero.1 h).1⟩
theorem lessSet {a b : List Tr} (h : IsSet a) : IsSet (lessL a b) := h.filter _
theorem bothSet {a b : List Tr} (h : IsSet a) : IsSet (bothL a b) := h.filter _

theorem joinN_of {a b m : List Tr} (sa : IsSet a) (sb : IsSet b) (h : JoinOf a b m) (hm : m.length ≤ 200) : joinN a b = 0 := by
  unfold joinN
  rw [if_pos (bothN_zero.2 ⟨sa, sb⟩), if_pos]
  rw [← h.len sa.2.2 sb.2.2]
  exact hm
theorem apartN_of {a b : List Tr} (sa : IsSet a) (sb : IsSet b) (h : ∀ x, x ∈ a → x ∉ b) : apartN a b = 0 := by
  unfold apartN
  rw [orN_pos (bothN_zero.2 ⟨sa, sb⟩), if_pos]
  rw [List.length_eq_zero_iff, List.eq_nil_iff_forall_not_mem]
  intro x hx
  exact h x (mem_bothL.1 hx).1 (mem_bothL.1 hx).2
theorem withinN_of {s t : List Tr} (ss : IsSet s) (st : IsSet t) (h : ∀ x, x ∈ t → x ∈ s) : withinN s t = 0 := by
  unfold withinN
  rw [orN_pos (bothN_zero.2 ⟨st, ss⟩), if_pos]
  rw [List.length_eq_zero_iff, List.eq_nil_iff_forall_not_mem]
  intro x hx
  exact (mem_lessL.1 hx).2 (h x (mem_lessL.1 hx).1)
theorem swapN_of {s o i m : List Tr} (ss : IsSet s) (so : IsSet o) (si : IsSet i) (h : JoinOf (lessL s o) i m) (hm : m.length ≤ 200) : swapN s o i = 0 := by
  unfold swapN
  rw [orN_pos (bothN_zero.2 ⟨ss, so⟩)]
  exact joinN_of (lessSet ss) si h hm

/-- there: what is between two sets makes of the one the other -/
theorem there {a b : List Tr} (sb : IsSet b) : JoinOf (lessL a (lessL a b)) (lessL b a) b := by
  refine ⟨sb.2.2, fun x => ?_⟩
  simp only [mem_lessL]
  by_cases h1 : x ∈ a <;> by_cases h2 : x ∈ b <;> simp [h1, h2]
theorem btw_check {a b : List Tr} (sa : IsSet a) (sb : IsSet b) : apartN (lessL b a) (lessL a b) = 0 :=
  apartN_of (lessSet sb) (lessSet sa) fun _ h1 h2 => (mem_lessL.1 h1).2 (mem_lessL.1 h2).1
theorem apply_btw {a b : List Tr} (sa : IsSet a) (sb : IsSet b) : applyN a (lessL b a) (lessL a b) = 0 := by
  unfold applyN
  rw [orN_pos (sortedN_set.2 sa), orN_pos (btw_check sa sb), orN_pos (apartN_of sa (lessSet sb) fun _ h1 h2 => (mem_lessL.1 h2).2 h1), orN_pos (withinN_of sa (lessSet sa) fun _ h => (mem_lessL.1 h).1)]
  exact swapN_of sa (lessSet sa) (lessSet sb) (there sb) sb.1
theorem apply_btw_ans {a b m : List Tr} (sa : IsSet a) (sb : IsSet b) (h : ApplyAns a (lessL b a) (lessL a b) m) : m = b :=
  (h.1 (apply_btw sa sb)).unique (there sb)

/-- of three: one behind the other comes to what is between the ends -/
theorem thread {a b c : List Tr} (sc : IsSet c) : JoinOf (lessL (lessL b a) (lessL b c)) (lessL (lessL c b) (lessL a b)) (lessL c a) := by
  refine ⟨(lessSet sc).2.2, fun x => ?_⟩
  simp only [mem_lessL]
  by_cases h1 : x ∈ a <;> by_cases h2 : x ∈ b <;> by_cases h3 : x ∈ c <;> simp [h1, h2, h3]
theorem thread' {a b c : List Tr} (sa : IsSet a) : JoinOf (lessL (lessL a b) (lessL c b)) (lessL (lessL b c) (lessL b a)) (lessL a c) := by
  refine ⟨(lessSet sa).2.2, fun x => ?_⟩
  simp only [mem_lessL]
  by_cases h1 : x ∈ a <;> by_cases h2 : x ∈ b <;> by_cases h3 : x ∈ c <;> simp [h1, h2, h3]
theorem afterN_of {did undid does undoes m : List Tr} (s1 : IsSet did) (s2 : IsSet undid) (s3 : IsSet does) (s4 : IsSet undoes) (h : JoinOf (lessL did undoes) (lessL does undid) m) (hm : m.length ≤ 200) : afterN did undid does undoes = 0 := by
  unfold afterN
  rw [orN_pos (bothN_zero.2 ⟨s3, s2⟩)]
  exact swapN_of s1 s4 (lessSet s3) h hm
theorem then_btw {a b c : List Tr} (sa : IsSet a) (sb : IsSet b) (sc : IsSet c) : thenN (lessL b a) (lessL a b) (lessL c b) (lessL b c) = 0 := by
  unfold thenN followsN
  rw [orN_pos (btw_check sa sb), orN_pos (btw_check sb sc), orN_pos (apartN_of (lessSet sb) (lessSet sc) fun _ h1 h2 => (mem_lessL.1 h2).2 (mem_lessL.1 h1).1),
    orN_pos (apartN_of (lessSet sa) (lessSet sb) fun _ h1 h2 => (mem_lessL.1 h1).2 (mem_lessL.1 h2).1),
    orN_pos (afterN_of (lessSet sb) (lessSet sa) (lessSet sc) (lessSet sb) (thread sc) (lessSet sc).1)]
  exact afterN_of (lessSet sa) (lessSet sb) (lessSet sb) (lessSet sc) (thread' sa) (lessSet sa).1
theorem then_btw_ans {a b c m1 m2 : List Tr} (sa : IsSet a) (sb : IsSet b) (sc : IsSet c) (h : ThenAns (lessL b a) (lessL a b) (lessL c b) (lessL b c) m1 m2) : m1 = lessL c a ∧ m2 = lessL a c :=
  ⟨(h.1 (then_btw sa sb sc)).1.unique (thread sc), (h.1 (then_btw sa sb sc)).2.unique (thread' sa)⟩

/-- a call's answer: a layer and a number -/
def LAns (n : Int) (P : List Tr → List Tr → Prop) (w : World) (e : Ending) (w' : World) : Prop := RowKit.Below w.heap.size w w' ∧ ∃ (m1 : List Tr) (a1 : Option Addr) (c1 : Nat) (m2 : List Tr) (a2 : Option Addr) (c2 : Nat), e = .returned (.tuple #[.agg #[.slice a1 m1.length c1, .slice a2 m2.length c2], errV n]) ∧ SlT w' a1 m1 ∧ SlT w' a2 m2 ∧ P m1 m2
theorem LAns.mk {n : Int} {P : List Tr → List Tr → Prop} {w w' : World} (hb : RowKit.Below w.heap.size w w') (m1 : List Tr) (a1 : Option Addr) (c1 : Nat) (m2 : List Tr) (a2 : Option Addr) (c2 : Nat) (h1 : SlT w' a1 m1) (h2 : SlT w' a2 m2) (hp : P m1 m2) : LAns n P w (.returned (.tuple #[.agg #[.slice a1 m1.length c1, .slice a2 m2.length c2], errV n])) w' := ⟨hb, m1, a1, c1, m2, a2, c2, rfl, h1, h2, hp⟩
end Go.Proofs.YtnphjdckdkjopaaGreatDoor

/- layer: apart, within, Check, swap, fresh, Turn, Between: what they tell. -/
namespace Go.Proofs.YtnphjdckdkjopaaGreatDoor
open Go Go.RowKit Go.Proofs
set_option synthInstance.maxSize 1000

attribute [local go_sem] eql_errV neq_errV guard_errV

/-- a store where a slice lay leaves the rows of triples -/
theorem SlT.put {W : World} {ad : Option Addr} {l : List Tr} (h : SlT W ad l) {p : Addr} {a : Option Addr} {n c : Nat} (hp : W.cell? p = some (.slice a n c)) (v : Value) : SlT (W.setCell p v) ad l := fun hl => by
  obtain ⟨b, o, rfl, hr⟩ := h hl
  refine ⟨b, o, rfl, fun j u hu => ?_⟩
  have hc := hr j u hu
  have hne : p ≠ ⟨b, o + j, none⟩ := by
    rintro rfl
    rw [hp] at hc
    obtain rfl := Option.some.inj hc
    have hm := List.mem_of_getElem? hu
    unfold cellsT at hm
    obtain ⟨x, _, hx⟩ := List.mem_flatMap.1 hm
    simp [encTr] at hx
  rw [World.cell?_setCell_other W p _ v hne]
  exact hc
theorem SlT.put2 {W : World} {ad : Option Addr} {l : List Tr} (h : SlT W ad l) {b : Nat} {a a' : Option Addr} {n c n' c' : Nat} (hp : W.cell? ⟨b, 0, none⟩ = some (.slice a n c)) (hq : W.cell? ⟨b, 1, none⟩ = some (.slice a' n' c')) (u v : Value) : SlT ((W.setCell ⟨b, 0, none⟩ u).setCell ⟨b, 1, none⟩ v) ad l :=
  SlT.put (h.put hp u) (by rw [World.cell?_setCell_other W _ _ u (by simp)]; exact hq) v
theorem below_two {B b : Nat} {w W : World} (h : RowKit.Below B w W) (hb : B ≤ b) (v0 v1 : Value) : RowKit.Below B w ((W.setCell ⟨b, 0, none⟩ v0).setCell ⟨b, 1, none⟩ v1) :=
  (h.setCell (p := ⟨b, 0, none⟩) hb v0).setCell (p := ⟨b, 1, none⟩) hb v1

theorem twobox {w W : World} {T : TypeId} {a0 a1 : Value} (hb : RowKit.Below (w.alloc (.cells #[a0, a1] T)).heap.size (w.alloc (.cells #[a0, a1] T)) W) :
    W.cell? ⟨w.heap.size, 0, none⟩ = some a0 ∧ W.cell? ⟨w.heap.size, 1, none⟩ = some a1 ∧ w.heap.size < W.heap.size ∧ W.frozen? ⟨w.heap.size, 0, none⟩ = false ∧ W.frozen? ⟨w.heap.size, 1, none⟩ = false := by
  obtain ⟨h, h'⟩ := bcell hb
  have hs := hb.size
  refine ⟨?_, ?_, by simp at hs; omega, ?_, ?_⟩
  · rw [h] <;> first | go_simp | (simp <;> omega)
  · rw [h] <;> first | go_simp | (simp <;> omega)
  · rw [h'] <;> first | go_simp | (simp <;> omega)
  · rw [h'] <;> first | go_simp | (simp <;> omega)

set_option maxHeartbeats 2000000 in
set_option maxRecDepth 100000 in
theorem apart_any (ad bd : Option Addr) (ca cb : Nat) (a b : List Tr) (w : World) (ha : SlT w ad a) (hb : SlT w bd b) (fa : ∀ x ∈ a, fitTr x) (fb : ∀ x ∈ b, fitTr x) (na : a.length ≤ 9223372036854775807) (nb : b.length ≤ 9223372036854775807) :
    Calls Tryz.prog 126 #[.slice ad a.length ca, .slice bd b.length cb] w fun e w' => e = .returned (errV (apartN a b)) ∧ RowKit.Below w.heap.size w w' := by
  have H := fun W h1 h2 => Both_any ad bd ca cb a b W h1 h2 fa fb na nb
  have Ha : Hid (SlT w ad a) := ha
  have Hb : Hid (SlT w bd b) := hb
  have fin : Hid (apartN a b = orN (bothN a b) (if (bothL a b).length = 0 then 0 else 7)) := rfl
  have hA : Hid (∀ m, BothAns a b m → bothN a b = 0 → m = bothL a b ∧ m.length ≤ 200) := fun m hm h0 => by
    unfold BothAns at hm
    rw [if_pos h0] at hm
    exact ⟨hm, by rw [hm]; exact Nat.le_trans (List.length_filter_le _ _) (bothN_zero.1 h0).1.1⟩
  generalize apartN a b = N at *
  generalize BothAns a b = BA at *
  generalize bothL a b = B at *
  generalize bothN a b = n at *
  clear ha hb fa fb na nb
  go_enter Tryz.func126, Tryz.ntmps126
  go_wp2_with fail
  refine (H _ Ha.out Hb.out).mono ?_
  rintro e w1 ⟨hb1, m, am, cm, rfl, hm, hBA⟩
  have hA2 := hA.out m hBA
  clear hm hBA hA H
  cases hn : (n == 0)
  · have h0 : ¬ n = 0 := by simpa using hn
    have f1 : Hid (N = n) := fin.out.trans (orN_neg h0)
    clear hA2 h0 fin
    go_wp2_with fail
    go_ret
    exact ⟨ret_val (by rw [f1.out]; rfl), hb1⟩
  · have h0 : n = 0 := by simpa using hn
    obtain ⟨rfl, h200⟩ := hA2 h0
    have f1 : Hid (N = if m.length = 0 then 0 else 7) := fin.out.trans (orN_pos h0)
    subst h0
    rw [show errV 0 = .nilIface from rfl]
    clear hA2 fin hn
    by_cases hz : m.length = 0
    · have hd : decide (0 < m.length) = false := decide_eq_false (by omega)
      have f2 : Hid (N = 0) := by have := f1.out; rw [if_pos hz] at this; exact this
      clear hz f1
      go_wp2_with fail
      go_ret
      exact ⟨ret_val (by rw [f2.out]; rfl), hb1⟩
    · have hd : decide (0 < m.length) = true := decide_eq_true (by omega)
      have f2 : Hid (N = 7) := by have := f1.out; rw [if_neg hz] at this; exact this
      clear hz f1
      go_wp2_with fail
      go_ret
      exact ⟨ret_val (by rw [f2.out]; rfl), hb1⟩

set_option maxHeartbeats 2000000 in
set_option maxRecDepth 100000 in
theorem within_any (ad bd : Option Addr) (ca cb : Nat) (a b : List Tr) (w : World) (ha : SlT w ad a) (hb : SlT w bd b) (fa : ∀ x ∈ a, fitTr x) (fb : ∀ x ∈ b, fitTr x) (na : a.length ≤ 9223372036854775807) (nb : b.length ≤ 9223372036854775807) :
    Calls Tryz.prog 127 #[.slice ad a.length ca, .slice bd b.length cb] w fun e w' => e = .returned (errV (withinN a b)) ∧ RowKit.Below w.heap.size w w' := by
  have H := fun W h1 h2 => Less_any bd ad cb ca b a W h1 h2 fb fa nb na
  have Ha : Hid (SlT w ad a) := ha
  have Hb : Hid (SlT w bd b) := hb
  have fin : Hid (withinN a b = orN (bothN b a) (if (lessL b a).length = 0 then 0 else 5)) := rfl
  have hA : Hid (∀ m, LessAns b a m → bothN b a = 0 → m = lessL b a ∧ m.length ≤ 200) := fun m hm h0 => by
    unfold LessAns at hm
    rw [if_pos h0] at hm
    exact ⟨hm, by rw [hm]; exact Nat.le_trans (List.length_filter_le _ _) (bothN_zero.1 h0).1.1⟩
  generalize withinN a b = N at *
  generalize LessAns b a = BA at *
  generalize lessL b a = B at *
  generalize bothN b a = n at *
  clear ha hb fa fb na nb
  go_enter Tryz.func127, Tryz.ntmps127
  go_wp2_with fail
  refine (H _ Hb.out Ha.out).mono ?_
  rintro e w1 ⟨hb1, m, am, cm, rfl, hm, hBA⟩
  have hA2 := hA.out m hBA
  clear hm hBA hA H
  cases hn : (n == 0)
  · have h0 : ¬ n = 0 := by simpa using hn
    have f1 : Hid (N = n) := fin.out.trans (orN_neg h0)
    clear hA2 h0 fin
    go_wp2_with fail
    go_ret
    exact ⟨ret_val (by rw [f1.out]; rfl), hb1⟩
  · have h0 : n = 0 := by simpa using hn
    obtain ⟨rfl, h200⟩ := hA2 h0
    have f1 : Hid (N = if m.length = 0 then 0 else 5) := fin.out.trans (orN_pos h0)
    subst h0
    rw [show errV 0 = .nilIface from rfl]
    clear hA2 fin hn
    by_cases hz : m.length = 0
    · have hd : decide (0 < m.length) = false := decide_eq_false (by omega)
      have f2 : Hid (N = 0) := by have := f1.out; rw [if_pos hz] at this; exact this
      clear hz f1
      go_wp2_with fail
      go_ret
      exact ⟨ret_val (by rw [f2.out]; rfl), hb1⟩
    · have hd : decide (0 < m.length) = true := decide_eq_true (by omega)
      have f2 : Hid (N = 5) := by have := f1.out; rw [if_neg hz] at this; exact this
      clear hz f1
      go_wp2_with fail
      go_ret
      exact ⟨ret_val (by rw [f2.out]; rfl), hb1⟩

set_option maxHeartbeats 1000000 in
set_option maxRecDepth 100000 in
theorem LCheck_any (ad bd : Option Addr) (ca cb : Nat) (a b : List Tr) (w : World) (ha : SlT w ad a) (hb : SlT w bd b) (fa : ∀ x ∈ a, fitTr x) (fb : ∀ x ∈ b, fitTr x) (na : a.length ≤ 9223372036854775807) (nb : b.length ≤ 9223372036854775807) :
    Calls Tryz.prog 125 #[.agg #[.slice ad a.length ca, .slice bd b.length cb]] w fun e w' => e = .returned (errV (apartN a b)) ∧ RowKit.Below w.heap.size w w' := by
  have H := fun W h1 h2 => apart_any ad bd ca cb a b W h1 h2 fa fb na nb
  have Ha : Hid (SlT w ad a) := ha
  have Hb : Hid (SlT w bd b) := hb
  generalize apartN a b = N at *
  clear ha hb fa fb na nb
  go_enter Tryz.func125, Tryz.ntmps125
  go_wp2_with fail
  refine (H _ (Ha.out.below (balloc _ _)) (Hb.out.below (balloc _ _))).mono ?_
  rintro e w1 ⟨rfl, hb1⟩
  go_wp2_with fail
  go_ret
  exact ⟨rfl, bstep (balloc _ _) hb1⟩

set_option maxHeartbeats 2000000 in
set_option maxRecDepth 100000 in
theorem swap_any (ad bd cd : Option Addr) (ca cb cc : Nat) (a b c : List Tr) (w : World) (ha : SlT w ad a) (hb : SlT w bd b) (hc : SlT w cd c) (fa : ∀ x ∈ a, fitTr x) (fb : ∀ x ∈ b, fitTr x) (fc : ∀ x ∈ c, fitTr x) (na : a.length ≤ 9223372036854775807) (nb : b.length ≤ 9223372036854775807) (nc : c.length ≤ 9223372036854775807) :
    Calls Tryz.prog 128 #[.slice ad a.length ca, .slice bd b.length cb, .slice cd c.length cc] w (Ans (swapN a b c) (SwapAns a b c) w) := by
  have H := fun W h1 h2 => Less_any ad bd ca cb a b W h1 h2 fa fb na nb
  have HJ := fun W al cl h1 h2 => Join_any' al cd cl cc (lessL a b) c W h1 h2 (fun x hx => fa x (mem_lessL.1 hx).1) fc (Nat.le_trans (List.length_filter_le _ _) na) nc
  have Ha : Hid (SlT w ad a) := ha
  have Hb : Hid (SlT w bd b) := hb
  have Hc : Hid (SlT w cd c) := hc
  have f0 : Hid (¬ bothN a b = 0 → swapN a b c = bothN a b ∧ SwapAns a b c []) := fun h0 => by
    have h1 : swapN a b c = bothN a b := orN_neg h0
    exact ⟨h1, fun h => absurd (h1.symm.trans h) h0, fun _ => rfl⟩
  have f1 : Hid (bothN a b = 0 → swapN a b c = joinN (lessL a b) c ∧ ∀ m, JoinAns (lessL a b) c m → SwapAns a b c m) := fun h0 => by
    have h1 : swapN a b c = joinN (lessL a b) c := orN_pos h0
    exact ⟨h1, fun m hm => ⟨fun h => hm.1 (h1.symm.trans h), fun h => hm.2 (fun e => h (h1.trans e))⟩⟩
  have hA : Hid (∀ m, LessAns a b m → bothN a b = 0 → m = lessL a b) := fun m hm h0 => by
    unfold LessAns at hm
    rw [if_pos h0] at hm
    exact hm
  generalize JoinAns (lessL a b) c = JA at *
  generalize joinN (lessL a b) c = j at *
  generalize lessL a b = L at *
  generalize SwapAns a b c = SA at *
  generalize swapN a b c = N at *
  generalize LessAns a b = LA at *
  generalize bothN a b = n at *
  clear ha hb hc fa fb fc na nb nc
  go_enter Tryz.func128, Tryz.ntmps128
  go_wp2_with fail
  refine (H _ Ha.out Hb.out).mono ?_
  rintro e w1 ⟨hb1, m, am, cm, rfl, hm, hLA⟩
  have hA2 := hA.out m hLA
  have Hm : Hid (SlT w1 am m) := hm
  clear hm hLA hA H
  cases hn : (n == 0)
  · have h0 : ¬ n = 0 := by simpa using hn
    have F0 : Hid _ := f0.out h0
    clear hA2 h0 f0 f1 HJ
    go_wp2_with fail
    have hN : N = n := F0.out.1
    rw [hN]
    exact bodyPost_ret (v := .tuple #[.slice none 0 0, errV n]) (by simp [results, Tryz.results128, go_sem]) rfl (Ans.mk hb1 [] none 0 (slT_nil _ _) F0.out.2)
  · have h0 : n = 0 := by simpa using hn
    have F1 : Hid _ := f1.out h0
    obtain rfl := hA2 h0
    subst h0
    rw [show errV 0 = .nilIface from rfl]
    clear hA2 hn f0 f1
    go_wp2_with fail
    refine (HJ _ am cm Hm.out (Hc.out.below hb1)).mono ?_
    rintro e w2 ⟨hb2, q, aq, cq, rfl, hq, hJA⟩
    have Hq : Hid (SlT w2 aq q ∧ JA q) := ⟨hq, hJA⟩
    clear hq hJA HJ
    go_wp2_with fail
    have hN : N = j := F1.out.1
    rw [hN]
    exact bodyPost_ret (v := .tuple #[.slice aq q.length cq, errV j]) (by simp [results, Tryz.results128, go_sem]) rfl (Ans.mk (bstep hb1 hb2) q aq cq Hq.out.1 (F1.out.2 q Hq.out.2))

end Go.Proofs.YtnphjdckdkjopaaGreatDoor

/- code.Set, code.Term, code.Layer: as bytes. -/
namespace Go.Proofs.YtnphjdckdkjopaaGreatDoor
open Go Go.RowKit Go.Proofs
set_option synthInstance.maxSize 1000

def setB (l : List Tr) : List UInt8 := if sortedN l = 0 then encS l else []

attribute [local go_sem] eql_errV neq_errV guard_errV

set_option maxHeartbeats 2000000 in
set_option maxRecDepth 100000 in
theorem CSet_any (ad : Option Addr) (ca : Nat) (l : List Tr) (w : World) (h : SlT w ad l) (hfit : ∀ x ∈ l, fitTr x) (hn : l.length ≤ 9223372036854775807) :
    Calls Tryz.prog 134 #[.slice ad l.length ca] w fun e w' => e = .returned (.tuple #[.string ⟨(setB l).toArray⟩, errV (sortedN l)]) ∧ RowKit.Below w.heap.size w w' := by
  have H := Sorted_any ad ca l w h hfit hn
  have Hs : Hid (SlT w ad l) := h
  have f0 : Hid (sortedN l = 0 → setB l = encS l ∧ l.length ≤ 200 ∧ ∀ x ∈ l, okTr x) := fun e => ⟨if_pos e, (sortedN_set.1 e).1, okTr_set (sortedN_set.1 e)⟩
  have f1 : Hid (¬ sortedN l = 0 → setB l = []) := fun e => if_neg e
  clear h hfit hn
  generalize sortedN l = N at *
  generalize setB l = S at *
  by_cases hN : N = 0
  · subst hN
    obtain ⟨rfl, h2, h3⟩ := f0.out rfl
    have HA := fun W1 (hs : SlT W1 ad l) => addSet_any W1 (.slice none 0 0) [] ad ca l W1 hs h2 h3 (Buf.nil W1) (by simp)
    clear f0 f1 h2 h3
    go_enter Tryz.func134, Tryz.ntmps134
    go_wp2_with fail
    refine H.mono ?_
    rintro e w1 ⟨rfl, hb1⟩
    go_wp2_with fail
    refine (HA w1 (Hs.out.below hb1)).mono ?_
    rintro e w2 ⟨v2, rfl, hb2, _⟩
    have hcv := hb2.string (by simp [encS_ne])
    rw [List.nil_append] at hcv hb2
    go_wp2_with fail
    exact bodyPost_ret (v := .tuple #[.string ⟨(encS l).toArray⟩, .nilIface]) (by simp [results, Tryz.results134, go_sem]) rfl ⟨rfl, bstep hb1 hb2.2.1⟩
  · have e1 := f1.out hN
    subst e1
    have hN' : (N == 0) = false := by simpa using hN
    clear f0 f1
    go_enter Tryz.func134, Tryz.ntmps134
    go_wp2_with fail
    refine H.mono ?_
    rintro e w1 ⟨rfl, hb1⟩
    go_wp2_with fail
    exact bodyPost_ret (v := .tuple #[.string ⟨#[]⟩, errV N]) (by simp [results, Tryz.results134, go_sem]) rfl ⟨rfl, hb1⟩

theorem apart_sets {a b : List Tr} (h : apartN a b = 0) : IsSet a ∧ IsSet b := bothN_zero.1 (orN_zero.1 h).1
def LB (w : World) (g : Nat) (v0 v1 : Value) : Prop := w.heap[g]? = some (Obj.cells #[v0, v1] 162)
theorem LB.keep {w w' : World} {g : Nat} {v0 v1 : Value} (h : LB w g v0 v1) (k : Keep w w') : LB w' g v0 v1 := k _ _ _ _ (by decide) h
theorem LB.all {w : World} {g : Nat} {v0 v1 : Value} (h : LB w g v0 v1) : LB w g v0 v1 ∧ w.cell? ⟨g, 0, none⟩ = some v0 ∧ w.cell? ⟨g, 1, none⟩ = some v1 := by
  refine ⟨h, ?_, ?_⟩
  · rw [cell_of_row w g 0 _ _ _ h]; rfl
  · rw [cell_of_row w g 1 _ _ _ h]; rfl
def layB (a b : List Tr) : List UInt8 := if apartN a b = 0 then encS a ++ encS b else []
theorem encS_len {l : List Tr} (h : IsSet l) : (encS l).length ≤ 20000 := by
  have h1 := encR_len l (okTr_set h)
  have h2 := h.1
  simp [encS]
  omega
set_option maxHeartbeats 2000000 in
set_option maxRecDepth 100000 in
theorem CLayer_any (ad bd : Option Addr) (ca cb : Nat) (a b : List Tr) (w : World) (ha : SlT w ad a) (hb : SlT w bd b) (fa : ∀ x ∈ a, fitTr x) (fb : ∀ x ∈ b, fitTr x) (na : a.length ≤ 9223372036854775807) (nb : b.length ≤ 9223372036854775807) :
    Calls Tryz.prog 162 #[.agg #[.slice ad a.length ca, .slice bd b.length cb]] w fun e w' => e = .returned (.tuple #[.string ⟨(layB a b).toArray⟩, errV (apartN a b)]) ∧ RowKit.Below w.heap.size w w' := by
  have H := fun W h1 h2 => LCheck_any ad bd ca cb a b W h1 h2 fa fb na nb
  have Ha : Hid (SlT w ad a) := ha
  have Hb : Hid (SlT w bd b) := hb
  have f0 : Hid (apartN a b = 0 → layB a b = encS a ++ encS b ∧ IsSet a ∧ IsSet b) := fun e => ⟨if_pos e, apart_sets e⟩
  have f1 : Hid (¬ apartN a b = 0 → layB a b = []) := fun e => if_neg e
  clear ha hb fa fb na nb
  generalize apartN a b = N at *
  generalize layB a b = S at *
  by_cases hN : N = 0
  · subst hN
    obtain ⟨rfl, sa, sb⟩ := f0.out rfl
    have HA := fun W1 (hs : SlT W1 ad a) => addSet_any W1 (.slice none 0 0) [] ad ca a W1 hs sa.1 (okTr_set sa) (Buf.nil W1) (by simp)
    have HB := fun W1 W2 v (hs : SlT W1 bd b) (hv : Buf W1.heap.size v (encS a) W1 W2) => addSet_any W1 v (encS a) bd cb b W2 hs sb.1 (okTr_set sb) hv (by have := encS_len sa; omega)
    clear f0 f1 sa sb
    go_enter Tryz.func162, Tryz.ntmps162
    go_wp2_with fail
    refine (H _ (Ha.out.below (balloc _ _)) (Hb.out.below (balloc _ _))).mono ?_
    rintro e w1 ⟨rfl, hb1⟩
    have hL1 : LB w1 w.heap.size (.slice ad a.length ca) (.slice bd b.length cb) := (hb1.block _ (by simp)).trans (heap_alloc_new w _)
    have hB1 := bstep (balloc _ _) hb1
    have hSa : Hid (SlT w1.drew ad a) := Ha.out.below hB1.drew
    have hSb : Hid (SlT w1.drew bd b) := Hb.out.below hB1.drew
    have hLd : LB w1.drew w.heap.size (.slice ad a.length ca) (.slice bd b.length cb) := hL1
    have x0 : w1.cell? ⟨w.heap.size, 0, none⟩ = some (.slice ad a.length ca) := hL1.all.2.1
    have x1 : w1.cell? ⟨w.heap.size, 1, none⟩ = some (.slice bd b.length cb) := hL1.all.2.2
    have hB1 := hB1.drew
    clear hL1 hb1
    go_wp2_with fail
    go_region_law (first
      | (go_simp; go_at_call_of 165 (Value.slice none 0 0); refine (HA w1.drew hSa.out).mono ?_; rintro e w2 ⟨v2, rfl, hb2, hk1⟩; rw [List.nil_append] at hb2; have hL2 := hLd.keep hk1; have y0 : w2.cell? ⟨w.heap.size, 0, none⟩ = some (.slice ad a.length ca) := hL2.all.2.1; have y1 : w2.cell? ⟨w.heap.size, 1, none⟩ = some (.slice bd b.length cb) := hL2.all.2.2)
      | (go_simp; go_at_call_of 165 (Value.slice bd b.length cb); refine (HB w1.drew w2 v2 hSb.out hb2).mono ?_; rintro e w3 ⟨v3, rfl, hb3, hk2⟩; have hcv := hb3.string (by simp [encS_ne])))
    all_goals go_wp2_with fail
    all_goals
      exact bodyPost_ret (v := .tuple #[.string ⟨(encS a ++ encS b).toArray⟩, .nilIface]) (by simp [results, Tryz.results162, go_sem]) rfl ⟨rfl, bstep hB1 hb3.2.1⟩
  · have e1 := f1.out hN
    subst e1
    have hN' : (N == 0) = false := by simpa using hN
    clear f0 f1
    go_enter Tryz.func162, Tryz.ntmps162
    go_wp2_with fail
    refine (H _ (Ha.out.below (balloc _ _)) (Hb.out.below (balloc _ _))).mono ?_
    rintro e w1 ⟨rfl, hb1⟩
    go_wp2_with fail
    exact bodyPost_ret (v := .tuple #[.string ⟨#[]⟩, errV N]) (by simp [results, Tryz.results162, go_sem]) rfl ⟨rfl, bstep (balloc _ _) hb1⟩
end Go.Proofs.YtnphjdckdkjopaaGreatDoor

/- code's reader: end, take, number, kind, term. -/
namespace Go.Proofs.YtnphjdckdkjopaaGreatDoor
open Go Go.RowKit Go.Proofs
set_option synthInstance.maxSize 1000

/-- a reader at block g: what ended it, what is left -/
def RdAt (w : World) (g : Nat) (s : St) : Prop := w.cell? ⟨g, 0, none⟩ = some (.int .i64 s.1) ∧ w.cell? ⟨g, 1, none⟩ = some (.string ⟨s.2.toArray⟩) ∧ w.frozen? ⟨g, 0, none⟩ = false ∧ w.frozen? ⟨g, 1, none⟩ = false
/-- all but block g is as it was -/
abbrev But (g : Nat) (w w' : World) : Prop := w.grownBy w' (some g)
theorem But.of {g : Nat} {w w' : World} (hb : RowKit.Below w.heap.size w w') : But g w w' := ⟨hb.os, hb.tape, hb.output, hb.size, fun k hk _ => hb.block k hk⟩
theorem But.below {B g : Nat} {a w w' : World} (h : RowKit.Below B a w) (k : But g w w') (hB : B ≤ w.heap.size) (hg : B ≤ g) : RowKit.Below B a w' := h.grown k hB (fun _ e => by injection e with e; omega)
theorem RdAt.lt {w : World} {g : Nat} {s : St} (h : RdAt w g s) : g < w.heap.size := World.block_lt_of_cell? w _ h.1
theorem RdAt.below {w w' : World} {g : Nat} {s : St} (h : RdAt w g s) (hb : RowKit.Below w.heap.size w w') : RdAt w' g s := by
  obtain ⟨k, f⟩ := bcell hb
  have hg := h.lt
  unfold RdAt at h ⊢
  simp only [k _ _ hg, f _ _ hg]
  exact h
theorem But.set {w : World} {g o : Nat} (u : Value) : But g w (w.setCell ⟨g, o, none⟩ u) := by
  have h := (RowKit.Below.refl 0 w).setCell (p := ⟨g, o, none⟩) (Nat.zero_le _) u
  exact ⟨h.os, h.tape, h.output, h.size, fun k _ hk => RowKit.Below.heap_setCell w ⟨g, o, none⟩ u k (fun e => hk (by rw [e]))⟩
theorem RdAt.set0 {w : World} {g : Nat} {s : St} (h : RdAt w g s) (e : Int) : RdAt (w.setCell ⟨g, 0, none⟩ (.int .i64 e)) g (e, s.2) := by
  obtain ⟨c0, c1, f0, f1⟩ := h
  refine ⟨?_, ?_, ?_, ?_⟩ <;> go_simp
theorem RdAt.set1 {w : World} {g : Nat} {s : St} (h : RdAt w g s) (r : List UInt8) : RdAt (w.setCell ⟨g, 1, none⟩ (.string ⟨r.toArray⟩)) g (s.1, r) := by
  obtain ⟨c0, c1, f0, f1⟩ := h
  refine ⟨?_, ?_, ?_, ?_⟩ <;> go_simp

theorem end_any (g : Nat) (s : St) (why : Int) (w : World) (h : RdAt w g s) :
    Calls Tryz.prog 142 #[.pointer (some ⟨g, 0, none⟩), .int .i64 why] w fun e w' => e = .returned (.tuple #[]) ∧ RdAt w' g (endS why s) ∧ But g w w' := by
  have Hr : Hid (RdAt w g s) := h
  obtain ⟨c0, c1, f0, f1⟩ := h
  have hg : g < w.heap.size := Hr.out.lt
  by_cases h0 : s.1 = 0
  · rw [h0] at c0
    go_enter Tryz.func142, Tryz.ntmps142
    go_wp2
    go_end0
    refine ⟨rfl, ?_, ?_⟩
    · have e : endS why s = (why, []) := by unfold endS; rw [if_pos h0]
      rw [e]
      exact (Hr.out.set0 why).set1 []
    · exact (But.set _).trans (But.set _)
  · have h0' : (s.1 == 0) = false := by simpa using h0
    go_enter Tryz.func142, Tryz.ntmps142
    go_wp2
    go_end0
    refine ⟨rfl, ?_, ?_⟩
    · have e : endS why s = (s.1, []) := by unfold endS; rw [if_neg h0]
      rw [e]
      exact Hr.out.set1 []
    · exact But.set _

theorem CloneR_any (l : List UInt8) (w : World) (hl : l.length ≤ 281474976710656) :
    Calls Tryz.prog 30 #[.string ⟨l.toArray⟩] w fun e w' => e = .returned (.string ⟨l.toArray⟩) ∧ RowKit.Below w.heap.size w w' := by
  go_enter Tryz.func30, Tryz.ntmps30
  go_wp2_with (go_at_call 53; refine (Tryz.stringslite_Clone ⟨l.toArray⟩ _ hl).mono ?_; rintro e w' ⟨rfl, hb⟩)
  go_ret
  exact ⟨rfl, hb⟩

theorem takeX (l : List UInt8) (k : Nat) : (⟨l.toArray⟩ : ByteArray).extract 0 k = ⟨(l.take k).toArray⟩ := by
  apply ByteArray.ext
  rw [ByteArray.data_extract]
  simp
theorem dropX (l : List UInt8) (k : Nat) : (⟨l.toArray⟩ : ByteArray).extract k l.length = ⟨(l.drop k).toArray⟩ := by
  apply ByteArray.ext
  rw [ByteArray.data_extract]
  simp
  rw [List.take_of_length_le (by simp)]

set_option maxHeartbeats 2000000 in
set_option maxRecDepth 100000 in
theorem take_any (g : Nat) (s : St) (n : Nat) (w : World) (h : RdAt w g s) (hn : n ≤ 65535) :
    Calls Tryz.prog 173 #[.pointer (some ⟨g, 0, none⟩), .int .i64 n] w fun e w' => e = .returned (.string ⟨(takeS n s).1.toArray⟩) ∧ RdAt w' g (takeS n s).2 ∧ But g w w' := by
  have Hr : Hid (RdAt w g s) := h
  obtain ⟨c0, c1, f0, f1⟩ := h
  have hg : g < w.heap.size := Hr.out.lt
  by_cases hlt : s.2.length < n
  · have e0 : takeS n s = ([], endS 8 s) := if_pos hlt
    have HE := end_any g s 8 w Hr.out
    rw [e0]
    clear e0
    go_enter Tryz.func173, Tryz.ntmps173
    go_wp2_with fail
    refine HE.mono ?_
    rintro e w1 ⟨rfl, hr1, hk1⟩
    go_wp2_with fail
    go_ret
    exact ⟨rfl, hr1, hk1⟩
  · have e0 : takeS n s = (s.2.take n, (s.1, s.2.drop n)) := if_neg hlt
    rw [e0]
    clear e0
    have HC := fun W => CloneR_any (s.2.take n) W (by rw [List.length_take]; omega)
    have t0 := takeX s.2 n
    have d0 := dropX s.2 n
    have hle : n ≤ s.2.length := by omega
    go_enter Tryz.func173, Tryz.ntmps173
    go_wp2_with fail
    refine (HC _).mono ?_
    rintro e w1 ⟨rfl, hb1⟩
    have Hr1 : Hid (RdAt w1 g s) := Hr.out.below hb1
    have hk1 : But g w w1 := But.of hb1
    clear c0 c1 f0 f1 hg Hr HC t0 hb1
    obtain ⟨c0, c1, f0, f1⟩ := Hr1.out
    have hg : g < w1.heap.size := Hr1.out.lt
    go_wp2_with fail
    go_ret
    exact ⟨rfl, Hr1.out.set1 (s.2.drop n), hk1.trans (But.set _)⟩

theorem takeS_len (n : Nat) (s : St) : (takeS n s).1.length ≤ n := by
  unfold takeS
  split
  · simp
  · rw [List.length_take]; omega
theorem takeS_rest (n : Nat) (s : St) : (takeS n s).2.2.length ≤ s.2.length := by
  unfold takeS endS
  split
  · simp
  · simp

theorem bytes_of (l : List UInt8) (w1 : World) : ∃ cap w2, (convert 9 65 (.string ⟨l.toArray⟩)).run Tryz.prog w1 = .ok (.slice (some ⟨w1.heap.size, 0, none⟩) l.length cap) w2 ∧ RowKit.Below w1.heap.size w1 w2 ∧ ∀ j (hj : j < l.length), w2.cell? ⟨w1.heap.size, j, none⟩ = some (.int .u8 (l[j].toNat : Int)) := by
  refine ⟨_, _, run_bytes_of_string (P := Tryz.prog) w1 9 65 5 ⟨l.toArray⟩ Tryz.underlying9 Tryz.underlying65 (by kernel_rfl), (RowKit.Below.refl _ w1).drew.alloc (Nat.le_refl _) _, fun j hj => ?_⟩
  exact (World.cell?_alloc_mark w1.drew _ _ _ j).trans (bytesRow_at ⟨l.toArray⟩ _ j hj)

theorem wrapBits (n : Int) (h0 : 0 ≤ n) (h1 : n < 9223372036854775808) : IntKind.i64.wrap n = n := by
  have e : IntKind.i64.wrap n = if (true && decide (n % 18446744073709551616 ≥ 9223372036854775808)) = true then n % 18446744073709551616 - 18446744073709551616 else n % 18446744073709551616 := rfl
  rw [e, Int.emod_eq_of_lt h0 (by omega), if_neg (by simp; omega)]
theorem or_num (m b : Nat) (hm : m < 256) (hb : b < 256) : bits BinOp.or IntKind.i64 ((m : Int) * 256) (wrap64 (b : Int)) = ((m * 256 + b : Nat) : Int) := by
  have e1 : wrap64 (b : Int) = (b : Int) := by unfold wrap64; omega
  have e2 : m * 256 ||| b = m * 256 + b := by
    have := Nat.shiftLeft_add_eq_or_of_lt (i := 8) (b := b) (by omega) m
    rw [Nat.shiftLeft_eq] at this
    exact this.symm
  have e3 : ((m : Int) * 256) = ((m * 256 : Nat) : Int) := by omega
  rw [e1, e3]
  unfold bits
  have h1 : (BitVec.ofInt IntKind.i64.bits ((m * 256 : Nat) : Int) ||| BitVec.ofInt IntKind.i64.bits (b : Int)).toNat = m * 256 + b := by
    rw [BitVec.ofInt_natCast, BitVec.ofInt_natCast, BitVec.toNat_or, BitVec.toNat_ofNat, BitVec.toNat_ofNat, Nat.mod_eq_of_lt (by show _ < 2 ^ 64; omega), Nat.mod_eq_of_lt (by show _ < 2 ^ 64; omega), e2]
  dsimp only
  rw [h1]
  exact wrapBits _ (by omega) (by omega)

theorem numL_snoc (l : List UInt8) (b : UInt8) : numL (l ++ [b]) = numL l * 256 + b.toNat := by simp [numL]
theorem numL_take (l : List UInt8) (k : Nat) (h : k < l.length) : numL (l.take (k + 1)) = numL (l.take k) * 256 + l[k].toNat := by
  rw [List.take_succ_eq_append_getElem h, numL_snoc]

set_option maxHeartbeats 2000000 in
set_option maxRecDepth 100000 in
theorem number_any (g : Nat) (s : St) (n : Nat) (w : World) (h : RdAt w g s) (hn : n ≤ 2) :
    Calls Tryz.prog 143 #[.pointer (some ⟨g, 0, none⟩), .int .i64 n] w fun e w' => e = .returned (.int .i64 (numL (takeS n s).1)) ∧ RdAt w' g (takeS n s).2 ∧ But g w w' := by
  have HT := take_any g s n w h (by omega)
  have hlen : (takeS n s).1.length ≤ 2 := Nat.le_trans (takeS_len n s) hn
  generalize (takeS n s).1 = l at *
  generalize (takeS n s).2 = s' at *
  clear h hn
  go_enter Tryz.func143, Tryz.ntmps143
  go_wp2_with fail
  refine HT.mono ?_
  rintro e w1 ⟨rfl, hr1, hk1⟩
  obtain ⟨cap, w2, hcv, hb2, hcell⟩ := bytes_of l w1
  have hfin : Hid (RdAt w2 g s' ∧ But g w w2) := ⟨hr1.below hb2, hk1.trans (But.of hb2)⟩
  have hcell : Hid (∀ j (hj : j < l.length), w2.cell? ⟨w1.heap.size, j, none⟩ = some (.int .u8 (l[j].toNat : Int))) := hcell
  clear hr1 hk1 hb2
  go_wp2_with fail
  go_loop [5, 13] (fun u i => ∃ k : Nat, k ≤ l.length ∧ i = .int .i64 k ∧ u = .int .i64 (numL (l.take k) : Nat)) (fun _ i => l.length - (intOf i).toNat)
  case atStart => exact ⟨0, Nat.zero_le _, rfl, rfl⟩
  case round =>
    obtain ⟨k, hk, rfl, rfl⟩ := hrel
    by_cases hlt : k < l.length
    · have c := hcell.out k hlt
      have i0' : (0 : Int) ≤ (k : Int) := by omega
      have i1 : (k : Int) < (l.length : Int) := by omega
      have hst : Hid (numL (l.take (k + 1)) = numL (l.take k) * 256 + l[k].toNat) := numL_take l k hlt
      have hu : numL (l.take k) < 256 := by
        rcases (by omega : k = 0 ∨ k = 1) with rfl | rfl
        · simp [numL]
        · rw [show (1 : Nat) = 0 + 1 from rfl, numL_take l 0 (by omega)]
          have := (l[0]).toNat_lt
          simp [numL]
          omega
      have hb8 := l[k].toNat_lt
      generalize numL (l.take k) = m at *
      have hor : Hid (bits BinOp.or IntKind.i64 ((m : Int) * 256) (l[k].toNat : Int) = ((m * 256 + l[k].toNat : Nat) : Int)) := by show _ = _; rw [← or_num m l[k].toNat hu hb8]; congr 1; unfold wrap64; omega
      go_wp2_with fail
      refine ⟨⟨k + 1, by omega, by go_num, ?_⟩, by simp [intOf]; omega⟩
      rw [hst.out]
      exact congrArg (Value.int .i64) hor.out
    · obtain rfl : k = l.length := by omega
      rw [List.take_length]
      go_wp2_with fail
      go_ret
      exact ⟨rfl, hfin.out⟩

set_option maxHeartbeats 2000000 in
set_option maxRecDepth 100000 in
theorem kind_any (g : Nat) (s : St) (w : World) (h : RdAt w g s) :
    Calls Tryz.prog 174 #[.pointer (some ⟨g, 0, none⟩)] w fun e w' => e = .returned (.tuple #[.int .i64 (kindK (kindS s).1), .int .i64 (kindL (kindS s).1)]) ∧ RdAt w' g (kindS s).2 ∧ But g w w' := by
  have HN := number_any g s 1 w h (by decide)
  have f0 : Hid ((kindS s).1 = numL (takeS 1 s).1 ∧ (kindB' (numL (takeS 1 s).1) = true → (kindS s).2 = (takeS 1 s).2) ∧ (kindB' (numL (takeS 1 s).1) = false → (kindS s).2 = endS 2 (takeS 1 s).2)) := ⟨rfl, fun e => by unfold kindS; dsimp only; rw [if_pos e], fun e => by unfold kindS; dsimp only; rw [if_neg (by rw [e]; decide)]⟩
  have hsm : numL (takeS 1 s).1 < 256 := by
    have hl := takeS_len 1 s
    match (takeS 1 s).1, hl with
    | [], _ => decide
    | [c], _ =>
      have := c.toNat_lt
      rw [numL_one]
      omega
  generalize numL (takeS 1 s).1 = n at *
  generalize (takeS 1 s).2 = s' at *
  obtain ⟨e1, e2, e3⟩ := f0.out
  rw [e1]
  have e2 : Hid _ := e2
  have e3 : Hid _ := e3
  clear f0 e1 h
  rcases (by omega : n = 0 ∨ n = 1 ∨ n = 2 ∨ n = 3 ∨ n = 4 ∨ n = 5 ∨ n = 6 ∨ n = 7 ∨ 8 ≤ n) with rfl | rfl | rfl | rfl | rfl | rfl | rfl | rfl | h8
  · have e3 := e3.out (by decide)
    rw [e3, show kindK 0 = 0 by decide, show kindL 0 = 0 by decide]
    clear e2 e3 hsm
    go_enter Tryz.func174, Tryz.ntmps174
    go_wp2_with fail
    refine HN.mono ?_
    rintro e w1 ⟨rfl, hr1, hk1⟩
    go_wp2_with fail
    refine (end_any g s' 2 w1 hr1).mono ?_
    rintro e w2 ⟨rfl, hr2, hk2⟩
    go_wp2_with fail
    exact bodyPost_ret (v := .tuple #[.int .i64 0, .int .i64 0]) (by simp [results, Tryz.results174, go_sem]) rfl ⟨rfl, hr2, hk1.trans hk2⟩
  · have e2 := e2.out (by decide)
    rw [e2, show kindK 1 = 1 by decide, show kindL 1 = 0 by decide]
    clear e2 e3 hsm
    go_enter Tryz.func174, Tryz.ntmps174
    go_wp2_with fail
    refine HN.mono ?_
    rintro e w1 ⟨rfl, hr1, hk1⟩
    go_wp2_with fail
    exact bodyPost_ret (v := .tuple #[.int .i64 1, .int .i64 0]) (by simp [results, Tryz.results174, go_sem]) rfl ⟨rfl, hr1, hk1⟩
  · have e2 := e2.out (by decide)
    rw [e2, show kindK 2 = 2 by decide, show kindL 2 = 0 by decide]
    clear e2 e3 hsm
    go_enter Tryz.func174, Tryz.ntmps174
    go_wp2_with fail
    refine HN.mono ?_
    rintro e w1 ⟨rfl, hr1, hk1⟩
    go_wp2_with fail
    exact bodyPost_ret (v := .tuple #[.int .i64 2, .int .i64 0]) (by simp [results, Tryz.results174, go_sem]) rfl ⟨rfl, hr1, hk1⟩
  · have e2 := e2.out (by decide)
    rw [e2, show kindK 3 = 3 by decide, show kindL 3 = 0 by decide]
    clear e2 e3 hsm
    go_enter Tryz.func174, Tryz.ntmps174
    go_wp2_with fail
    refine HN.mono ?_
    rintro e w1 ⟨rfl, hr1, hk1⟩
    go_wp2_with fail
    exact bodyPost_ret (v := .tuple #[.int .i64 3, .int .i64 0]) (by simp [results, Tryz.results174, go_sem]) rfl ⟨rfl, hr1, hk1⟩
  · have e3 := e3.out (by decide)
    rw [e3, show kindK 4 = 4 by decide, show kindL 4 = 0 by decide]
    clear e2 e3 hsm
    go_enter Tryz.func174, Tryz.ntmps174
    go_wp2_with fail
    refine HN.mono ?_
    rintro e w1 ⟨rfl, hr1, hk1⟩
    go_wp2_with fail
    refine (end_any g s' 2 w1 hr1).mono ?_
    rintro e w2 ⟨rfl, hr2, hk2⟩
    go_wp2_with fail
    exact bodyPost_ret (v := .tuple #[.int .i64 4, .int .i64 0]) (by simp [results, Tryz.results174, go_sem]) rfl ⟨rfl, hr2, hk1.trans hk2⟩
  · have e3 := e3.out (by decide)
    rw [e3, show kindK 5 = 5 by decide, show kindL 5 = 0 by decide]
    clear e2 e3 hsm
    go_enter Tryz.func174, Tryz.ntmps174
    go_wp2_with fail
    refine HN.mono ?_
    rintro e w1 ⟨rfl, hr1, hk1⟩
    go_wp2_with fail
    refine (end_any g s' 2 w1 hr1).mono ?_
    rintro e w2 ⟨rfl, hr2, hk2⟩
    go_wp2_with fail
    exact bodyPost_ret (v := .tuple #[.int .i64 5, .int .i64 0]) (by simp [results, Tryz.results174, go_sem]) rfl ⟨rfl, hr2, hk1.trans hk2⟩
  · have e3 := e3.out (by decide)
    rw [e3, show kindK 6 = 6 by decide, show kindL 6 = 0 by decide]
    clear e2 e3 hsm
    go_enter Tryz.func174, Tryz.ntmps174
    go_wp2_with fail
    refine HN.mono ?_
    rintro e w1 ⟨rfl, hr1, hk1⟩
    go_wp2_with fail
    refine (end_any g s' 2 w1 hr1).mono ?_
    rintro e w2 ⟨rfl, hr2, hk2⟩
    go_wp2_with fail
    exact bodyPost_ret (v := .tuple #[.int .i64 6, .int .i64 0]) (by simp [results, Tryz.results174, go_sem]) rfl ⟨rfl, hr2, hk1.trans hk2⟩
  · have e2 := e2.out (by decide)
    rw [e2, show kindK 7 = 3 by decide, show kindL 7 = 2 by decide]
    clear e2 e3 hsm
    go_enter Tryz.func174, Tryz.ntmps174
    go_wp2_with fail
    refine HN.mono ?_
    rintro e w1 ⟨rfl, hr1, hk1⟩
    go_wp2_with fail
    exact bodyPost_ret (v := .tuple #[.int .i64 3, .int .i64 2]) (by simp [results, Tryz.results174, go_sem]) rfl ⟨rfl, hr1, hk1⟩
  · have hK : kindK n = n := if_neg (by omega)
    have hL : kindL n = 0 := if_neg (by omega)
    have e3 := e3.out (by unfold kindB'; rw [hK]; simp; omega)
    rw [e3, hK, hL]
    have h7 : ((n : Int) == 7) = false := by simp; omega
    clear hK hL
    clear e2 e3 hsm
    go_enter Tryz.func174, Tryz.ntmps174
    go_wp2_with fail
    refine HN.mono ?_
    rintro e w1 ⟨rfl, hr1, hk1⟩
    go_wp2_with fail
    refine (end_any g s' 2 w1 hr1).mono ?_
    rintro e w2 ⟨rfl, hr2, hk2⟩
    go_wp2_with fail
    exact bodyPost_ret (v := .tuple #[.int .i64 (n : Int), .int .i64 0]) (by simp [results, Tryz.results174, go_sem]) rfl ⟨rfl, hr2, hk1.trans hk2⟩

theorem numL_small {n : Nat} {s : St} (hn : n ≤ 1) : numL (takeS n s).1 < 256 := by
  have hl := Nat.le_trans (takeS_len n s) hn
  match (takeS n s).1, hl with
  | [], _ => decide
  | [c], _ =>
    have := c.toNat_lt
    rw [numL_one]
    omega
theorem kindL_small (n : Nat) : kindL n ≤ 2 := by unfold kindL; split <;> omega

end Go.Proofs.YtnphjdckdkjopaaGreatDoor

/- code's reader: a term. -/
namespace Go.Proofs.YtnphjdckdkjopaaGreatDoor
open Go Go.RowKit Go.Proofs
set_option synthInstance.maxSize 1000

/-- an empty box for a term; a box that holds one -/
def ZB (W : World) (B : Nat) : Prop := W.cell? ⟨B, 0, none⟩ = some (.int .i64 0) ∧ W.cell? ⟨B, 1, none⟩ = some (.string ⟨#[]⟩) ∧ W.cell? ⟨B, 2, none⟩ = some (.string ⟨#[]⟩) ∧ W.frozen? ⟨B, 0, none⟩ = false ∧ W.frozen? ⟨B, 1, none⟩ = false ∧ W.frozen? ⟨B, 2, none⟩ = false
def XB (W : World) (B : Nat) (x : Tm) : Prop := W.cell? ⟨B, 0, none⟩ = some (.int .i64 x.1) ∧ W.cell? ⟨B, 1, none⟩ = some (.string ⟨x.2.1.toArray⟩) ∧ W.cell? ⟨B, 2, none⟩ = some (.string ⟨x.2.2.toArray⟩)
theorem But.far {g : Nat} {w w' : World} (h : But g w w') {B : Nat} (hB : B < w.heap.size) (hg : B ≠ g) : (∀ o, w'.cell? ⟨B, o, none⟩ = w.cell? ⟨B, o, none⟩) ∧ ∀ o, w'.frozen? ⟨B, o, none⟩ = w.frozen? ⟨B, o, none⟩ := by
  have e := h.block B hB (fun e => hg (by injection e))
  exact ⟨fun o => World.cell?_of_block (w := w) (w' := w') (a := ⟨B, o, none⟩) e, fun o => World.frozen?_of_block (w := w) (w' := w') (a := ⟨B, o, none⟩) e⟩
theorem ZB.but {W W' : World} {g B : Nat} (h : ZB W B) (k : But g W W') (hg : B ≠ g) : ZB W' B := by
  obtain ⟨c, f⟩ := k.far (World.block_lt_of_cell? W _ h.1) hg
  unfold ZB at h ⊢
  simp only [c, f]
  exact h
theorem ZB.below {W W' : World} {B : Nat} (h : ZB W B) (hb : RowKit.Below W.heap.size W W') : ZB W' B := by
  have hB : B < W.heap.size := World.block_lt_of_cell? W _ h.1
  exact h.but (g := B + 1) (But.of hb) (by omega)
theorem ZB.new (w : World) : ZB (w.alloc (.cells #[.int .i64 0, .string ⟨#[]⟩, .string ⟨#[]⟩] 39)) w.heap.size := by
  unfold ZB
  refine ⟨?_, ?_, ?_, ?_, ?_, ?_⟩ <;> go_simp
theorem XB.but {W W' : World} {g B : Nat} {x : Tm} (h : XB W B x) (k : But g W W') (hg : B ≠ g) : XB W' B x := by
  obtain ⟨c, _⟩ := k.far (World.block_lt_of_cell? W _ h.1) hg
  unfold XB at h ⊢
  simp only [c]
  exact h
theorem XB.below {W W' : World} {B : Nat} {x : Tm} (h : XB W B x) (hb : RowKit.Below W.heap.size W W') : XB W' B x :=
  h.but (g := B + 1) (But.of hb) (by omega)
theorem XB.new (w : World) (x : Tm) : XB (w.alloc (.cells #[.int .i64 x.1, .string ⟨x.2.1.toArray⟩, .string ⟨x.2.2.toArray⟩] 39)) w.heap.size x := by
  unfold XB
  refine ⟨?_, ?_, ?_⟩ <;> go_simp
theorem RdAt.far {w : World} {g B o : Nat} {s : St} {u : Value} (h : RdAt w g s) (hB : B ≠ g) : RdAt (w.setCell ⟨B, o, none⟩ u) g s := by
  have e := RowKit.Below.heap_setCell w ⟨B, o, none⟩ u g (fun e => hB e.symm)
  have c : ∀ j, (w.setCell ⟨B, o, none⟩ u).cell? ⟨g, j, none⟩ = w.cell? ⟨g, j, none⟩ := fun j => World.cell?_of_block (w := w) (a := ⟨g, j, none⟩) e
  have f : ∀ j, (w.setCell ⟨B, o, none⟩ u).frozen? ⟨g, j, none⟩ = w.frozen? ⟨g, j, none⟩ := fun j => World.frozen?_of_block (w := w) (a := ⟨g, j, none⟩) e
  unfold RdAt at h ⊢
  simp only [c, f]
  exact h
theorem But.fresh {w W : World} {g B o : Nat} {u : Value} (h : But g w W) (hB : w.heap.size ≤ B) : But g w (W.setCell ⟨B, o, none⟩ u) := by
  have q := (RowKit.Below.refl 0 W).setCell (p := ⟨B, o, none⟩) (Nat.zero_le _) u
  exact ⟨q.os.trans h.os, q.tape.trans h.tape, q.output.trans h.output, Nat.le_trans h.size q.size, fun k hk hne => (RowKit.Below.heap_setCell W ⟨B, o, none⟩ u k (by show k ≠ B; omega)).trans (h.block k hk hne)⟩

attribute [local go_sem] eql_errV neq_errV guard_errV

set_option maxHeartbeats 4000000 in
set_option maxRecDepth 100000 in
theorem rterm_any (g : Nat) (s : St) (w : World) (h : RdAt w g s) :
    Calls Tryz.prog 144 #[.pointer (some ⟨g, 0, none⟩)] w fun e w' => e = .returned (.agg #[.int .i64 (termS s).1.1, .string ⟨(termS s).1.2.1.toArray⟩, .string ⟨(termS s).1.2.2.toArray⟩]) ∧ RdAt w' g (termS s).2 ∧ But g w w' := by
  have HK := fun W hW => kind_any g s W hW
  have HL := fun W hW => take_any g (kindS s).2 (kindL (kindS s).1) W hW (by have := kindL_small (kindS s).1; omega)
  have HN := fun W hW => number_any g (langS s).2 1 W hW (by decide)
  have HT := fun W hW => take_any g (takeS 1 (langS s).2).2 (numL (takeS 1 (langS s).2).1) W hW (by have := numL_small (n := 1) (s := (langS s).2) (Nat.le_refl _); omega)
  have hS : (textS (langS s).2).1.length ≤ maxLen := by
    have h1 := takeS_len (numL (takeS 1 (langS s).2).1) (takeS 1 (langS s).2).2
    have h2 := numL_small (n := 1) (s := (langS s).2) (Nat.le_refl _)
    show (takeS _ _).1.length ≤ _
    unfold maxLen
    omega
  have hG : (langS s).1.length ≤ maxLen := by
    have h1 := takeS_len (kindL (kindS s).1) (kindS s).2
    have h2 := kindL_small (kindS s).1
    show (takeS _ _).1.length ≤ _
    unfold maxLen
    omega
  have HC := fun W => Check_any (kindK (kindS s).1) (textS (langS s).2).1 (langS s).1 W hS hG
  have e0 : (termS s).1 = (kindK (kindS s).1, (textS (langS s).2).1, (langS s).1) := rfl
  have e1 : (termS s).2 = if okTm (termS s).1 = 0 then (textS (langS s).2).2 else endS 2 (textS (langS s).2).2 := rfl
  have e2 : checkN (kindK (kindS s).1) (textS (langS s).2).1 (langS s).1 = okTm (termS s).1 := rfl
  rw [e2] at HC
  have f0 : Hid (okTm (termS s).1 = 0 → (termS s).2 = (textS (langS s).2).2) := fun e => by rw [e1, if_pos e]
  have f1 : Hid (¬ okTm (termS s).1 = 0 → (termS s).2 = endS 2 (textS (langS s).2).2) := fun e => by rw [e1, if_neg e]
  generalize okTm (termS s).1 = N at *
  generalize (termS s).2 = fin at *
  rw [e0]
  have e3 : takeS (kindL (kindS s).1) (kindS s).2 = langS s := rfl
  have e4 : takeS (numL (takeS 1 (langS s).2).1) (takeS 1 (langS s).2).2 = textS (langS s).2 := rfl
  rw [e3] at HL
  rw [e4] at HT
  clear e0 e1 e2 e3 e4 hS hG
  dsimp only
  generalize kindK (kindS s).1 = K at *
  generalize kindL (kindS s).1 = m at *
  generalize (kindS s).2 = s1 at *
  generalize (textS (langS s).2).1 = S at *
  generalize (textS (langS s).2).2 = s4 at *
  generalize numL (takeS 1 (langS s).2).1 = q at *
  generalize (takeS 1 (langS s).2).2 = s3 at *
  generalize (langS s).1 = L at *
  generalize (langS s).2 = s2 at *
  have Hr : Hid (RdAt w g s) := h
  clear h
  go_enter Tryz.func144, Tryz.ntmps144
  have hg0 : g < w.heap.size := Hr.out.lt
  go_wp2_with fail
  have hZ0 : Hid (ZB (w.alloc (.cells #[.int .i64 0, .string ⟨#[]⟩, .string ⟨#[]⟩] 39)) w.heap.size) := ZB.new _
  refine (HK _ (Hr.out.below (balloc _ _))).mono ?_
  rintro e w1 ⟨rfl, hr1, hk1⟩
  have hB1 : Hid (But g w w1) := (But.of (balloc _ _)).trans hk1
  have hZ1 : Hid (ZB w1 w.heap.size) := hZ0.out.but hk1 (by omega)
  clear hk1 hZ0 HK
  go_wp2_with fail
  refine (HL _ hr1).mono ?_
  rintro e w2 ⟨rfl, hr2, hk2⟩
  have hB2 : Hid (But g w w2) := hB1.out.trans hk2
  have hZ2 : Hid (ZB w2 w.heap.size) := hZ1.out.but hk2 (by omega)
  clear hk2 hZ1 HL hB1 hr1
  go_wp2_with fail
  refine (HN _ hr2).mono ?_
  rintro e w3 ⟨rfl, hr3, hk3⟩
  have hB3 : Hid (But g w w3) := hB2.out.trans hk3
  have hZ3 : Hid (ZB w3 w.heap.size) := hZ2.out.but hk3 (by omega)
  clear hk3 hZ2 HN hB2 hr2
  go_wp2_with fail
  refine (HT _ hr3).mono ?_
  rintro e w4 ⟨rfl, hr4, hk4⟩
  have hB4 : Hid (But g w w4) := hB3.out.trans hk4
  have hZ4 : Hid (ZB w4 w.heap.size) := hZ3.out.but hk4 (by omega)
  clear hk4 hZ3 HT hB3 hr3
  have hX5 : Hid (XB (w4.alloc (.cells #[.int .i64 K, .string ⟨S.toArray⟩, .string ⟨L.toArray⟩] 39)) w4.heap.size (K, S, L)) := XB.new w4 (K, S, L)
  have hg4 : Hid (g < w4.heap.size) := hr4.lt
  have hw4 : Hid (w.heap.size < w4.heap.size) := World.block_lt_of_cell? w4 _ hZ4.out.1
  go_wp2_with fail
  refine (HC _).mono ?_
  rintro e w5 ⟨rfl, hb5⟩
  have hb45 := bstep (balloc w4 (.cells #[.int .i64 K, .string ⟨S.toArray⟩, .string ⟨L.toArray⟩] 39)) hb5
  have hr5 : Hid (RdAt w5 g s4) := hr4.below hb45
  have hB5 : Hid (But g w w5) := hB4.out.trans (But.of hb45)
  have hZ5 : Hid (ZB w5 w.heap.size) := hZ4.out.below hb45
  have hX5 : Hid (XB w5 w4.heap.size (K, S, L)) := hX5.out.below hb5
  clear hb45 hb5 hZ4 hB4 hr4 HC
  by_cases hN : N = 0
  · subst hN
    have ef := f0.out rfl
    subst ef
    obtain ⟨x0, x1, x2⟩ := hX5.out
    obtain ⟨z0, z1, z2, q0, q1, q2⟩ := hZ5.out
    have hne : w.heap.size ≠ w4.heap.size := by have := hw4.out; omega
    clear f0 f1
    go_wp2_with fail
    exact bodyPost_ret (v := .agg #[.int .i64 K, .string ⟨S.toArray⟩, .string ⟨L.toArray⟩]) (by unfold results; rw [Tryz.results144]; go_simp) rfl ⟨rfl, ((hr5.out.far (by omega)).far (by omega)).far (by omega), ((hB5.out.fresh (Nat.le_refl _)).fresh (Nat.le_refl _)).fresh (Nat.le_refl _)⟩
  · have ef := f1.out hN
    subst ef
    have hN' : (N == 0) = false := by simpa using hN
    clear f0 f1
    go_wp2_with fail
    refine (end_any g s4 2 _ hr5.out).mono ?_
    rintro e w6 ⟨rfl, hr6, hk6⟩
    obtain ⟨x0, x1, x2⟩ := hX5.out.but hk6 (by have := hg4.out; omega)
    obtain ⟨z0, z1, z2, q0, q1, q2⟩ := hZ5.out.but hk6 (by omega)
    have hne : w.heap.size ≠ w4.heap.size := by have := hw4.out; omega
    go_wp2_with fail
    exact bodyPost_ret (v := .agg #[.int .i64 K, .string ⟨S.toArray⟩, .string ⟨L.toArray⟩]) (by unfold results; rw [Tryz.results144]; go_simp) rfl ⟨rfl, ((hr6.far (by omega)).far (by omega)).far (by omega), But.fresh (But.fresh (But.fresh (hB5.out.trans hk6) (Nat.le_refl _)) (Nat.le_refl _)) (Nat.le_refl _)⟩
end Go.Proofs.YtnphjdckdkjopaaGreatDoor
