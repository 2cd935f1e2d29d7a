/- Join, Less, Both, Has: what they tell. -/
import Derived.Test.YtonmmnhikjfibadGreatDoorSetCat
import Derived.Laws.EntriesVeiled
namespace Go.Proofs.YtonmmnhikjfibadGreatDoor
open Go Go.RowKit Go.Proofs Go.Maps
set_option synthInstance.maxSize 1000

attribute [local go_sem] eql_errV neq_errV guard_errV

/-- what is wrong with two sets -/
def bothN (a b : List Tr) : Int := if sortedN a = 0 then sortedN b else sortedN a
theorem bothN_zero {a b : List Tr} : bothN a b = 0 ↔ IsSet a ∧ IsSet b := by
  unfold bothN
  by_cases h : sortedN a = 0
  · rw [if_pos h, sortedN_set]
    exact ⟨fun hb => ⟨sortedN_set.1 h, hb⟩, fun hb => hb.2⟩
  · rw [if_neg h]
    exact ⟨fun hb => absurd hb h, fun hb => absurd (sortedN_set.2 hb.1) h⟩

set_option maxHeartbeats 1000000 in
theorem bothSorted_any (ad bd : Option Addr) (ca cb : Nat) (a b : List Tr) (w : World) (ha : SlT w ad a) (hb : SlT w bd b) (fa : ∀ x ∈ a, fitTr x) (fb : ∀ x ∈ b, fitTr x) (na : a.length ≤ 9223372036854775807) (nb : b.length ≤ 9223372036854775807) :
    Calls Tryz.prog 130 #[.slice ad a.length ca, .slice bd b.length cb] w fun e w' => e = .returned (errV (bothN a b)) ∧ RowKit.Below w.heap.size w w' := by
  have H1 := fun W hW => Sorted_any ad ca a W hW fa na
  have H2 := fun W hW => Sorted_any bd cb b W hW fb nb
  have fin : Hid (bothN a b = if sortedN a = 0 then sortedN b else sortedN a) := rfl
  have Ha : Hid (SlT w ad a) := ha
  have Hb : Hid (SlT w bd b) := hb
  generalize sortedN a = n at H1 fin
  generalize sortedN b = m at H2 fin
  clear ha hb fa fb na nb
  cases hn : (n == 0)
  · go_enter Tryz.func130, Tryz.ntmps130
    go_wp2_with fail
    refine (H1 _ Ha.out).mono ?_
    rintro e w1 ⟨rfl, hb1⟩
    go_wp2_with fail
    go_ret
    simp at hn
    exact ⟨ret_val (by rw [fin.out, if_neg hn]; rfl), hb1⟩
  · go_enter Tryz.func130, Tryz.ntmps130
    go_wp2_with fail
    refine (H1 _ Ha.out).mono ?_
    rintro e w1 ⟨rfl, hb1⟩
    go_wp2_with fail
    refine (H2 _ (Hb.out.below hb1)).mono ?_
    rintro e w2 ⟨rfl, hb2⟩
    go_wp2_with fail
    go_ret
    simp at hn
    exact ⟨ret_val (by rw [fin.out, if_pos hn]; rfl), bstep hb1 hb2⟩

/-- a call's answer: a list and a number -/
def Ans (n : Int) (P : List Tr → Prop) (w : World) (e : Ending) (w' : World) : Prop := RowKit.Below w.heap.size w w' ∧ ∃ (m : List Tr) (ad : Option Addr) (c : Nat), e = .returned (.tuple #[.slice ad m.length c, errV n]) ∧ SlT w' ad m ∧ P m

theorem Ans.mk {n : Int} {P : List Tr → Prop} {w w' : World} (hb : RowKit.Below w.heap.size w w') (m : List Tr) (ad : Option Addr) (c : Nat) (hs : SlT w' ad m) (hp : P m) : Ans n P w (.returned (.tuple #[.slice ad m.length c, errV n])) w' := ⟨hb, m, ad, c, rfl, hs, hp⟩
theorem slT_nil (W : World) (ad : Option Addr) : SlT W ad [] := fun h => absurd rfl h

def LessAns (a b m : List Tr) : Prop := m = if bothN a b = 0 then lessL a b else []
def BothAns (a b m : List Tr) : Prop := m = if bothN a b = 0 then bothL a b else []

set_option maxHeartbeats 2000000 in
set_option maxRecDepth 100000 in
theorem Both_any (ad bd : Option Addr) (ca cb : Nat) (a b : List Tr) (w : World) (ha : SlT w ad a) (hb : SlT w bd b) (fa : ∀ x ∈ a, fitTr x) (fb : ∀ x ∈ b, fitTr x) (na : a.length ≤ 9223372036854775807) (nb : b.length ≤ 9223372036854775807) :
    Calls Tryz.prog 108 #[.slice ad a.length ca, .slice bd b.length cb] w (Ans (bothN a b) (BothAns a b) w) := by
  have H := fun W h1 h2 => bothSorted_any ad bd ca cb a b W h1 h2 fa fb na nb
  have Ha : Hid (SlT w ad a) := ha
  have Hb : Hid (SlT w bd b) := hb
  have hz0 := @bothN_zero a b
  have hA0 : Hid (bothN a b ≠ 0 → BothAns a b []) := fun h => by unfold BothAns; rw [if_neg h]
  have hA1 : Hid (bothN a b = 0 → BothAns a b (bothL a b)) := fun h => by unfold BothAns; rw [if_pos h]
  generalize BothAns a b = LA at *
  generalize bothN a b = n at *
  clear ha hb fa fb na nb
  cases hn : (n == 0)
  · clear hz0
    go_enter Tryz.func108, Tryz.ntmps108
    go_wp2_with fail
    refine (H _ Ha.out Hb.out).mono ?_
    rintro e w1 ⟨rfl, hb1⟩
    go_wp2_with fail
    refine bodyPost_ret (v := .tuple #[.slice none 0 0, errV n]) (by simp [results, Tryz.results108, go_sem]) rfl (Ans.mk hb1 [] none 0 (slT_nil _ _) (hA0.out (by simpa using hn)))
  · obtain ⟨sa, sb⟩ := hz0.1 (by simpa using hn)
    have HK := fun W hW (bl : Nat) (hN : AskOK W bl b) => keep_any ad ca 151 bl a (fun x => decide (x ∈ b)) W hW sa.1 enters151 (fun x hx W' hW' => ask_any bl b x W' (hN.below hW') (sa.2.1 x hx))
    have HA := fun W hW => asker_any bd cb b W hW sb.2.1 sb.1
    have h0 : n = 0 := by simpa using hn
    have hA2 : Hid _ := hA1.out h0
    clear hA0 hA1
    subst h0
    rw [show errV 0 = .nilIface from rfl] at H
    clear sa sb hz0 hn
    go_enter Tryz.func108, Tryz.ntmps108
    go_wp2_with fail
    refine (H _ Ha.out Hb.out).mono ?_
    rintro e w1 ⟨rfl, hb1⟩
    go_wp2_with fail
    refine (HA _ (Hb.out.below hb1)).mono ?_
    rintro e w2 ⟨bx, rfl, hask, hb2⟩
    have hB2 := bstep hb1 hb2
    have Hask : Hid (AskOK w2 bx b) := hask
    clear hask
    go_wp2_with fail
    refine (HK _ (Ha.out.below hB2) _ Hask.out).mono ?_
    rintro e w3 ⟨ad', c', rfl, hsl, hb3⟩
    go_wp2_with fail
    refine bodyPost_ret (v := .tuple #[.slice ad' (a.filter fun x => decide (x ∈ b)).length c', .nilIface]) (by simp [results, Tryz.results108, go_sem]) rfl (Ans.mk (n := 0) (bstep hB2 hb3) _ ad' c' hsl hA2.out)

/-- what Join tells -/
def joinN (a b : List Tr) : Int := if bothN a b = 0 then (if a.length + (lessL b a).length ≤ 200 then 0 else 4) else bothN a b
def JoinAns (a b m : List Tr) : Prop := (joinN a b = 0 → JoinOf a b m) ∧ (joinN a b ≠ 0 → m = [])

theorem sortN_cat {a b : List Tr} (sa : IsSet a) (sb : IsSet b) : sortN (a ++ lessL b a) = if a.length + (lessL b a).length ≤ 200 then 0 else 4 := by
  have hall : ∀ x ∈ a ++ lessL b a, chkTr x = 0 := fun x hx => by
    rcases List.mem_append.1 hx with h | h
    · exact sa.2.1 x h
    · exact sb.2.1 x (mem_lessL.1 h).1
  by_cases h : a.length + (lessL b a).length ≤ 200
  · rw [if_pos h]
    exact sortN_zero.2 ⟨by rw [List.length_append]; exact h, hall⟩
  · rw [if_neg h]
    unfold sortN faultN
    rw [if_pos (by rw [List.length_append]; omega)]

/-- what Has tells -/
def hasN (l : List Tr) (t : Tr) : Int := if sortedN l = 0 then chkTr t else sortedN l

end Go.Proofs.YtonmmnhikjfibadGreatDoor
