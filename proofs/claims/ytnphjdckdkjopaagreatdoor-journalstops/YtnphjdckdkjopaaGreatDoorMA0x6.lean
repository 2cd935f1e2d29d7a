import Derived.Test.YtnphjdckdkjopaaGreatDoorMA0x5
import Derived.Test.YtnphjdckdkjopaaGreatDoorMA0x4
import Derived.Deep.AppendLies
import Derived.Maps.Range
import Derived.Test.YtnphjdckdkjopaaGreatDoorMA0x3
import Derived.Deep.RegionLaw
import Derived.Test.YtnphjdckdkjopaaGreatDoorMA0x0
import Derived.Test.YtnphjdckdkjopaaGreatDoorMA0x1
import Derived.Lib.AtoiAllCases
import Derived.Lib.AtoiTie
import Derived.Lib.LaidTab
import Derived.Lib.ItoaMem

/- code's reader: a set. -/
namespace Go.Proofs.YtnphjdckdkjopaaGreatDoor
open Go Go.RowKit Go.Proofs
set_option synthInstance.maxSize 1000

theorem loopS_step {n : Nat} {s : St} (h : s.1 = 0) : loopS (n + 1) s = ((tripS s).1 :: (loopS n (tripS s).2).1, (loopS n (tripS s).2).2) := if_pos h

/-- what is left of a loop -/
def LeftS (n : Nat) (R : List Tr × St) (t : List Tr) (s : St) : Prop := t.length ≤ n ∧ R = (t ++ (loopS (n - t.length) s).1, (loopS (n - t.length) s).2)
theorem LeftS.start (n : Nat) (s : St) : LeftS n (loopS n s) [] s := ⟨Nat.zero_le _, by simp⟩
theorem LeftS.step {n : Nat} {R : List Tr × St} {t : List Tr} {s : St} (h : LeftS n R t s) (h0 : s.1 = 0) (hl : t.length < n) : LeftS n R (t ++ [(tripS s).1]) (tripS s).2 := by
  refine ⟨by simp; omega, ?_⟩
  obtain ⟨_, e⟩ := h
  have e1 : n - t.length = (n - (t ++ [(tripS s).1]).length) + 1 := by simp; omega
  rw [e1, loopS_step h0] at e
  rw [e]
  simp
theorem LeftS.stop {n : Nat} {R : List Tr × St} {t : List Tr} {s : St} (h : LeftS n R t s) (hs : ¬ s.1 = 0 ∨ t.length = n) : R = (t, s) := by
  obtain ⟨_, e⟩ := h
  rcases hs with h0 | h0
  · rw [loopS_keep h0] at e
    simpa using e
  · rw [h0, Nat.sub_self] at e
    simpa [loopS] using e

theorem own_but {g : Nat} {w w' : World} {B : Nat} {v : Value} {t : List Tr} (h : w.ownsRow B 41 9 v t.length (cellsT t)) (k : But g w w') (hg : g < B) : w'.ownsRow B 41 9 v t.length (cellsT t) :=
  h.kept k (by
    cases hv : v.ownBlock with
    | none => exact Or.inl rfl
    | some q =>
      refine Or.inr (fun e => ?_)
      have := (h.lt q hv).1
      injection e with e
      omega)

theorem RdAt.grown {w w' : World} {g : Nat} {s : St} {row : Option Nat} (h : RdAt w g s) (k : w.grownBy w' row) (hg : some g ≠ row) : RdAt w' g s := by
  have hl := h.lt
  have c : ∀ j, w'.cell? ⟨g, j, none⟩ = w.cell? ⟨g, j, none⟩ := fun j => k.cell_far ⟨g, j, none⟩ hl hg
  have f : ∀ j, w'.frozen? ⟨g, j, none⟩ = w.frozen? ⟨g, j, none⟩ := fun j => k.frozen_far ⟨g, j, none⟩ hl hg
  unfold RdAt at h ⊢
  simp only [c, f]
  exact h

/-- a list that stays when the reader goes on -/
def Far (g : Nat) (w : World) (ad : Option Addr) (l : List Tr) : Prop := ∀ w', But g w w' → SlT w' ad l
theorem Far.sl {g : Nat} {w : World} {ad : Option Addr} {l : List Tr} (h : Far g w ad l) : SlT w ad l := h w (World.grownBy.refl _ _)
theorem Far.but {g : Nat} {w w' : World} {ad : Option Addr} {l : List Tr} (h : Far g w ad l) (k : But g w w') : Far g w' ad l := fun w2 k2 => h w2 (k.trans k2)
theorem Far.nil (g : Nat) (w : World) (ad : Option Addr) : Far g w ad [] := fun _ _ h => absurd rfl h
theorem Far.own {g : Nat} {w : World} {B : Nat} {ad : Option Addr} {c : Nat} {t : List Tr} (h : w.ownsRow B 41 9 (.slice ad t.length c) t.length (cellsT t)) (hg : g < B) : Far g w ad t := fun w' k => by
  obtain ⟨ad', c', e, hs⟩ := own_slT (own_but h k hg)
  injection e with e1 _ _
  rw [e1]
  exact hs

/-- what is answered of a list that is read -/
def RSetAns (g : Nat) (w : World) (R : List Tr × St) (e : Ending) (w' : World) : Prop := ∃ ad c, e = .returned (.slice ad R.1.length c) ∧ Far g w' ad R.1 ∧ RdAt w' g R.2 ∧ But g w w'
theorem RSetAns.mk {g : Nat} {w : World} {l : List Tr} {s : St} {w' : World} (ad : Option Addr) (c : Nat) (h1 : Far g w' ad l) (h2 : RdAt w' g s) (h3 : But g w w') : RSetAns g w (l, s) (.returned (.slice ad l.length c)) w' := ⟨ad, c, rfl, h1, h2, h3⟩
def sliceLen : Value → Nat
  | .slice _ n _ => n
  | _ => 0

set_option maxHeartbeats 8000000 in
set_option maxRecDepth 100000 in
theorem rset_any (g : Nat) (s : St) (w : World) (h : RdAt w g s) :
    Calls Tryz.prog 109 #[.pointer (some ⟨g, 0, none⟩)] w (RSetAns g w (setS s)) := by
  have HN := number_any g s 2 w h (by decide)
  have hg0 : g < w.heap.size := h.lt
  have hz : setS s = loopS (numL (takeS 2 s).1) (if 200 < numL (takeS 2 s).1 then endS 2 (takeS 2 s).2 else (takeS 2 s).2) := rfl
  have hsm : numL (takeS 2 s).1 < 65536 := by
    have hl := takeS_len 2 s
    match (takeS 2 s).1, hl with
    | [], _ => decide
    | [c], _ =>
      have := c.toNat_lt
      rw [numL_one]
      omega
    | [c, d], _ =>
      have := c.toNat_lt
      have := d.toNat_lt
      rw [numL_two]
      omega
  generalize setS s = R at *
  generalize numL (takeS 2 s).1 = n at *
  generalize (takeS 2 s).2 = s1 at *
  obtain ⟨i0, hi, hzz⟩ := Option.map_eq_some_iff.1 infoTr
  simp only [Prod.mk.injEq] at hzz
  obtain ⟨hz0, hz1, hz2⟩ := hzz
  have Hz : Hid (R = loopS n (if 200 < n then endS 2 s1 else s1)) := hz
  clear h hz
  go_enter Tryz.func109, Tryz.ntmps109
  go_wp2_with fail
  refine HN.mono ?_
  rintro e w1 ⟨rfl, hr1, hk1⟩
  clear HN
  by_cases hbig : 200 < n
  · have hz := Hz.out
    rw [if_pos hbig] at hz
    clear Hz
    have hne : ¬ (endS 2 s1).1 = 0 := endS_zero (by decide)
    rw [loopS_keep hne] at hz
    subst hz
    have hne' : ((endS 2 s1).1 == 0) = false := by simpa using hne
    go_wp2_with fail
    refine (end_any g s1 2 w1 hr1).mono ?_
    rintro e w2 ⟨rfl, hr2, hk2⟩
    have hB2 : Hid (But g w w2) := hk1.trans hk2
    have Hr2 : Hid (RdAt w2 g (endS 2 s1)) := hr2
    obtain ⟨c0, _, _, _⟩ := hr2
    generalize endS 2 s1 = s2 at *
    go_wp2_with fail
    go_loopw [4] (fun v wr => v = .slice none 0 0 ∧ wr = w2) (fun _ _ => 0)
    case atStart => exact ⟨rfl, rfl⟩
    case round =>
      obtain ⟨rfl, rfl⟩ := hrel
      have n0 : (0 : Int) < (n : Int) := by omega
      go_wp2_with fail
      exact bodyPost_ret (v := .slice none 0 0) (by simp [results, Tryz.results109, go_sem]) rfl (RSetAns.mk (l := []) none 0 (Far.nil _ _ _) Hr2.out hB2.out)
  · have hz := Hz.out
    rw [if_neg hbig] at hz
    clear Hz
    have hL0 : Hid (LeftS n R [] s1) := by show LeftS n R [] s1; rw [hz]; exact LeftS.start n s1
    clear hz
    go_wp2_with fail
    go_loopw [4] (fun v wr => ∃ (t : List Tr) (s2 : St), t.length ≤ n ∧ Hid (LeftS n R t s2) ∧ Hid (wr.ownsRow w.heap.size 41 9 v t.length (cellsT t)) ∧ RdAt wr g s2 ∧ Hid (But g w wr)) (fun v _ => n - sliceLen v)
    case atStart => exact ⟨[], s1, Nat.zero_le _, hL0, World.ownsRow_nil _ _ _ _, hr1, hk1⟩
    case round =>
      obtain ⟨t, s2, htn, hLe, hown, hr2, hB2⟩ := hrel
      obtain ⟨ad, cap, rfl, _⟩ := own_slT hown.out
      by_cases hlt : t.length < n
      · have i1 : (t.length : Int) < (n : Int) := by omega
        have hg2 := hr2.lt
        by_cases h0 : s2.1 = 0
        · have HT1 := fun W hW => rterm_any g s2 W hW
          have HT2 := fun W hW => rterm_any g (termS s2).2 W hW
          have HT3 := fun W hW => rterm_any g (termS (termS s2).2).2 W hW
          have hLe' : Hid (LeftS n R (t ++ [(tripS s2).1]) (tripS s2).2) := hLe.out.step h0 hlt
          have ey : Hid ((tripS s2).1 = ((termS s2).1, (termS (termS s2).2).1, (termS (termS (termS s2).2).2).1)) := rfl
          have es : Hid ((tripS s2).2 = (termS (termS (termS s2).2).2).2) := rfl
          have Hr2 : Hid (RdAt wr g s2) := hr2
          obtain ⟨c0, _, _, _⟩ := hr2
          rw [h0] at c0
          generalize hy1 : (termS s2).1 = y1 at *
          generalize hy2 : (termS (termS s2).2).1 = y2 at *
          generalize hy3 : (termS (termS (termS s2).2).2).1 = y3 at *
          generalize hq3 : (termS (termS (termS s2).2).2).2 = q3 at *
          generalize hq2 : (termS (termS s2).2).2 = q2 at *
          generalize hq1 : (termS s2).2 = q1 at *
          clear hy1 hy2 hy3 hq1 hq2 hq3 hLe hL0 hr1 hk1
          go_wp2_with fail
          refine (HT1 _ Hr2.out).mono ?_
          rintro e w2 ⟨rfl, hr3, hk2⟩
          go_wp2_with fail
          refine (HT2 _ hr3).mono ?_
          rintro e w3 ⟨rfl, hr4, hk3⟩
          go_wp2_with fail
          refine (HT3 _ hr4).mono ?_
          rintro e w4 ⟨rfl, hr5, hk4⟩
          have hB4 : Hid (But g w w4) := hB2.out.trans ((hk2.trans hk3).trans hk4)
          have ho4 : Hid (w4.ownsRow w.heap.size 41 9 (.slice ad t.length cap) t.length (cellsT t)) := own_but (own_but (own_but hown.out hk2 hg0) hk3 hg0) hk4 hg0
          have hr5' : Hid (RdAt w4 g q3) := hr5
          clear hk2 hk3 hk4 hr3 hr4 hr5 hown HT1 HT2 HT3
          go_wp2_with (at_builtin; refine wpList_append_own _ rfl _ _ 42 rfl w.heap.size 41 i0 (.agg (encTr zeroTr).toArray) 9 120 Tryz.underlying42 hi hz0 hz1 hz2 rfl (by decide) _ _ _ rfl (ho4.out.alloc _) ⟨w4.heap.size, 0, none⟩ 1 1 (encTr (y1, y2, y3)) rfl rfl ?c1 (encTr_one _) (by unfold maxLen; omega) (by omega) (by have := hB4.out.size; simp; omega) ?_)
          case c1 => exact World.news_of_block (cs := (encTr (y1, y2, y3)).toArray) (t := 41) (fr := (0, 0)) (heap_alloc_new w4 _)
          intro v5 w5 ho5 hg5 _
          have hB5 : Hid (But g w w5) := (hB4.out.trans (World.grownBy_alloc w4 _ (some g))).andThen hg5 (fun j hj => Or.inl (ho4.out.lt j hj).1)
          have hr6 : Hid (RdAt w5 g q3) := (hr5'.out.below (balloc _ _)).grown hg5 (fun e => by have := (ho4.out.lt g e.symm).1; omega)
          obtain ⟨ad5, cap5, rfl, _⟩ := own_slT (t := t ++ [(y1, y2, y3)]) (by rw [List.length_append]; simpa [cellsT] using ho5)
          have ho6 : Hid (w5.ownsRow w.heap.size 41 9 (.slice ad5 (t ++ [(y1, y2, y3)]).length cap5) (t ++ [(y1, y2, y3)]).length (cellsT (t ++ [(y1, y2, y3)]))) := by show World.ownsRow _ _ _ _ _ _ _; rw [show (t ++ [(y1, y2, y3)]).length = t.length + 1 by simp] at *; simpa [cellsT] using ho5
          clear ho5 hg5
          go_wp2_with fail
          go_roundw
          case rel =>
            refine ⟨t ++ [(y1, y2, y3)], q3, by simp; omega, ?_, ho6, hr6.out, hB5⟩
            rw [ey.out, es.out] at hLe'
            exact hLe'
          case measure => simp [sliceLen]; omega
        · have h0' : (s2.1 == 0) = false := by simpa using h0
          have hR : R = (t, s2) := hLe.out.stop (Or.inl h0)
          subst hR
          have Hr2 : Hid (RdAt wr g s2) := hr2
          have Hsl : Hid (Far g wr ad t) := Far.own hown.out hg0
          obtain ⟨c0, _, _, _⟩ := hr2
          clear hLe hL0 hr1 hk1 hown
          go_wp2_with fail
          exact bodyPost_ret (v := .slice ad t.length cap) (by simp [results, Tryz.results109, go_sem]) rfl (RSetAns.mk ad cap Hsl.out Hr2.out hB2.out)
      · have hR : R = (t, s2) := hLe.out.stop (Or.inr (by omega))
        subst hR
        have Hr2 : Hid (RdAt wr g s2) := hr2
        have Hsl : Hid (Far g wr ad t) := Far.own hown.out hg0
        have i1 : ¬ (t.length : Int) < (n : Int) := by omega
        clear hLe hL0 hr1 hk1 hown hr2
        go_wp2_with fail
        exact bodyPost_ret (v := .slice ad t.length cap) (by simp [results, Tryz.results109, go_sem]) rfl (RSetAns.mk ad cap Hsl.out Hr2.out hB2.out)
end Go.Proofs.YtnphjdckdkjopaaGreatDoor

/- code.ReadSet. -/
namespace Go.Proofs.YtnphjdckdkjopaaGreatDoor
open Go Go.RowKit Go.Proofs
set_option synthInstance.maxSize 1000

attribute [local go_sem] eql_errV neq_errV guard_errV

theorem fit_term (s : St) : (termS s).1.2.1.length ≤ maxLen ∧ (termS s).1.2.2.length ≤ maxLen := by
  have h1 := takeS_len (numL (takeS 1 (langS s).2).1) (takeS 1 (langS s).2).2
  have h2 := numL_small (n := 1) (s := (langS s).2) (Nat.le_refl _)
  have h3 := takeS_len (kindL (kindS s).1) (kindS s).2
  have h4 := kindL_small (kindS s).1
  have e1 : (termS s).1.2.1 = (takeS (numL (takeS 1 (langS s).2).1) (takeS 1 (langS s).2).2).1 := rfl
  have e2 : (termS s).1.2.2 = (takeS (kindL (kindS s).1) (kindS s).2).1 := rfl
  rw [e1, e2]
  unfold maxLen
  omega
theorem fit_loop (n : Nat) (s : St) : ∀ x ∈ (loopS n s).1, fitTr x := by
  induction n generalizing s with
  | zero => simp [loopS]
  | succ n ih =>
    by_cases h0 : s.1 = 0
    · rw [loopS_step h0]
      intro x hx
      rcases List.mem_cons.1 hx with rfl | hx
      · exact ⟨fit_term _, fit_term _, fit_term _⟩
      · exact ih _ x hx
    · rw [loopS_keep h0]
      simp
theorem len_loop (n : Nat) (s : St) : (loopS n s).1.length ≤ n := by
  induction n generalizing s with
  | zero => simp [loopS]
  | succ n ih =>
    by_cases h0 : s.1 = 0
    · rw [loopS_step h0]
      have := ih (tripS s).2
      simp
      omega
    · rw [loopS_keep h0]
      simp
theorem numL_two_small (s : St) : numL (takeS 2 s).1 < 65536 := by
  have hl := takeS_len 2 s
  match (takeS 2 s).1, hl with
  | [], _ => decide
  | [c], _ =>
    have := c.toNat_lt
    rw [numL_one]
    omega
  | [c, d], _ =>
    have := c.toNat_lt
    have := d.toNat_lt
    rw [numL_two]
    omega
theorem fit_set (s : St) : ∀ x ∈ (setS s).1, fitTr x := fit_loop _ _
theorem len_set (s : St) : (setS s).1.length ≤ 9223372036854775807 := by
  have h1 := len_loop (sizeS s).1 (sizeS s).2
  have h2 := numL_two_small s
  have e : (sizeS s).1 = numL (takeS 2 s).1 := rfl
  show (loopS _ _).1.length ≤ _
  omega

/-- a list that is read, and what is wrong with it -/
def RS1 (g : Nat) (w : World) (l : List Tr) (M : Int) (s : St) (e : Ending) (w' : World) : Prop := ∃ ad c, e = .returned (.tuple #[.slice ad l.length c, errV M]) ∧ SlT w' ad l ∧ RdAt w' g s ∧ But g w w'
set_option maxHeartbeats 2000000 in
set_option maxRecDepth 100000 in
theorem readSet1_any (g : Nat) (s : St) (w : World) (h : RdAt w g s) :
    Calls Tryz.prog 108 #[.pointer (some ⟨g, 0, none⟩)] w (RS1 g w (setS s).1 (sortedN (setS s).1) (setS s).2) := by
  have H := rset_any g s w h
  have HS := fun W ad c hs => Sorted_any ad c (setS s).1 W hs (fit_set s) (len_set s)
  generalize setS s = R at *
  obtain ⟨l, s'⟩ := R
  dsimp only at *
  generalize sortedN l = M at *
  go_enter Tryz.func108, Tryz.ntmps108
  go_wp2_with fail
  refine H.mono ?_
  rintro e w1 ⟨ad, c, rfl, hf1, hr1, hk1⟩
  dsimp only at hf1 hr1
  have hs1 := hf1.sl
  go_wp2_with fail
  refine (HS _ ad c hs1).mono ?_
  rintro e w2 ⟨rfl, hb2⟩
  go_wp2_with fail
  exact bodyPost_ret (v := .tuple #[.slice ad l.length c, errV M]) (by simp [results, Tryz.results108, go_sem]) rfl ⟨ad, c, rfl, hs1.below hb2, hr1.below hb2, hk1.trans (But.of hb2)⟩

def readSetN (b : List UInt8) : Int := wholeN (sortedN (setS (0, b)).1) (setS (0, b)).2
def readSetL (b : List UInt8) : List Tr := if readSetN b = 0 then (setS (0, b)).1 else []
/-- what is answered of bytes that are read as a list -/
def RSAns (N : Int) (l : List Tr) (w : World) (e : Ending) (w' : World) : Prop := RowKit.Below w.heap.size w w' ∧ ∃ ad c, e = .returned (.tuple #[.slice ad l.length c, errV N]) ∧ SlT w' ad l
theorem RSAns.mk {N : Int} {l : List Tr} {w w' : World} (hb : RowKit.Below w.heap.size w w') (ad : Option Addr) (c : Nat) (h : SlT w' ad l) : RSAns N l w (.returned (.tuple #[.slice ad l.length c, errV N])) w' := ⟨hb, ad, c, rfl, h⟩

theorem errV_ne {n : Int} (h : n ≠ 0) : errV n = .iface 72 (.int .i64 n) := if_neg h
theorem wholeN_all {s : St} (h : s.2 = []) : wholeN 0 s = s.1 := if_pos ⟨rfl, h⟩
theorem wholeN_bad {M : Int} {s : St} (h : ¬ (M = 0 ∧ s.2 = [])) : wholeN M s = (endS 2 s).1 := if_neg h
theorem entersRS : ∀ args w, (callFunc 108 args).run Tryz.prog w = .ok (.enter 108 args) w := enters_of Tryz.func108 (by kernel_rfl) rfl
theorem RdAt.new (w : World) (b : List UInt8) (T : TypeId) : RdAt (w.alloc (.cells #[.int .i64 0, .string ⟨b.toArray⟩] T)) w.heap.size (0, b) := by
  unfold RdAt
  refine ⟨?_, ?_, ?_, ?_⟩ <;> go_simp
theorem But.new {w W w' : World} (h : RowKit.Below w.heap.size w W) (k : But w.heap.size W w') : RowKit.Below w.heap.size w w' := But.below h k h.size (Nat.le_refl _)

set_option maxHeartbeats 4000000 in
set_option maxRecDepth 100000 in
theorem wholeSet_any (b : List UInt8) (w : World) :
    Calls Tryz.prog 107 #[.string ⟨b.toArray⟩, .func (.func 108) #[] #[]] w (RSAns (readSetN b) (readSetL b) w) := by
  have H := fun W hW => readSet1_any w.heap.size (0, b) W hW
  have e1 : readSetN b = wholeN (sortedN (setS (0, b)).1) (setS (0, b)).2 := rfl
  have e2 : readSetL b = if readSetN b = 0 then (setS (0, b)).1 else [] := rfl
  generalize readSetL b = L at *
  generalize readSetN b = N at *
  generalize sortedN (setS (0, b)).1 = M at *
  generalize setS (0, b) = R at *
  obtain ⟨l, s⟩ := R
  dsimp only at *
  have E1 : Hid _ := e1
  have E2 : Hid _ := e2
  have eg := entersRS
  clear e1 e2
  go_enter Tryz.func107, Tryz.ntmps107
  go_wp2_with fail
  refine (H _ (RdAt.new w b _)).mono ?_
  rintro e w1 ⟨ad, c, rfl, hs1, hr1, hk1⟩
  have hB1 : Hid (RowKit.Below w.heap.size w w1) := But.new (balloc _ _) hk1
  have hs1 : Hid (SlT w1 ad l) := hs1
  have hr1 : Hid (RdAt w1 w.heap.size s) := hr1
  clear H eg hk1
  by_cases hM : M = 0
  · subst hM
    obtain ⟨c0, c1, _, _⟩ := hr1.out
    by_cases hz : s.2 = []
    · rw [hz] at c1
      have eN : N = s.1 := E1.out.trans (wholeN_all hz)
      by_cases h0 : s.1 = 0
      · have eL : L = l := by rw [E2.out, if_pos (by rw [eN]; exact h0)]
        rw [h0] at c0 eN
        subst eN eL
        clear E1 E2
        go_wp2_with fail
        exact bodyPost_ret (v := .tuple #[.slice ad L.length c, .nilIface]) (by simp [results, Tryz.results107, go_sem]) rfl (RSAns.mk (N := 0) hB1.out ad c hs1.out)
      · have hne : s.1 ≠ 0 := h0
        have hne' : (s.1 == 0) = false := by simpa using hne
        have eL : L = [] := by rw [E2.out, if_neg (by rw [eN]; exact h0)]
        subst eN eL
        clear E1 E2
        go_wp2_with fail
        go_region
        go_wp2_with fail
        exact bodyPost_ret (v := .tuple #[.slice none 0 0, .iface 72 (.int .i64 s.1)]) (by simp [results, Tryz.results107, go_sem]) rfl (by rw [← errV_ne hne]; exact RSAns.mk (l := []) (hB1.out).drew none 0 (fun h => absurd rfl h))
    · obtain ⟨q, r, hqr⟩ : ∃ q r, s.2 = q :: r := by
        cases hh : s.2 with
        | nil => exact absurd hh hz
        | cons q r => exact ⟨q, r, rfl⟩
      rw [hqr] at c1
      have hcase : ¬ ((0 : Int) = 0 ∧ s.2 = []) := fun h => hz h.2
      have hne : (endS 2 s).1 ≠ 0 := endS_zero (by decide)
      have eN : N = (endS 2 s).1 := E1.out.trans (wholeN_bad hcase)
      have eL : L = [] := by rw [E2.out, if_neg (by rw [eN]; exact hne)]
      subst eN eL
      clear E1 E2 hcase
      go_wp2_with fail
      refine (end_any w.heap.size s 2 w1 hr1.out).mono ?_
      rintro e w2 ⟨rfl, hr2, hk2⟩
      have hB2 : Hid (RowKit.Below w.heap.size w w2) := But.new hB1.out hk2
      obtain ⟨c0, _, _, _⟩ := hr2
      have hne' : ((endS 2 s).1 == 0) = false := by simpa using hne
      generalize (endS 2 s).1 = E at *
      go_wp2_with fail
      go_region
      go_wp2_with fail
      exact bodyPost_ret (v := .tuple #[.slice none 0 0, .iface 72 (.int .i64 E)]) (by simp [results, Tryz.results107, go_sem]) rfl (by rw [← errV_ne hne]; exact RSAns.mk (l := []) (hB2.out).drew none 0 (fun h => absurd rfl h))
  · have hM' : (M == 0) = false := by simpa using hM
    have hcase : ¬ (M = 0 ∧ s.2 = []) := fun h => hM h.1
    obtain ⟨c0, c1, _, _⟩ := hr1.out
    have hne : (endS 2 s).1 ≠ 0 := endS_zero (by decide)
    have eN : N = (endS 2 s).1 := E1.out.trans (wholeN_bad hcase)
    have eL : L = [] := by rw [E2.out, if_neg (by rw [eN]; exact hne)]
    subst eN eL
    clear E1 E2 hcase
    go_wp2_with fail
    refine (end_any w.heap.size s 2 w1 hr1.out).mono ?_
    rintro e w2 ⟨rfl, hr2, hk2⟩
    have hB2 : Hid (RowKit.Below w.heap.size w w2) := But.new hB1.out hk2
    obtain ⟨c0, _, _, _⟩ := hr2
    have hne' : ((endS 2 s).1 == 0) = false := by simpa using hne
    generalize (endS 2 s).1 = E at *
    go_wp2_with fail
    go_region
    go_wp2_with fail
    exact bodyPost_ret (v := .tuple #[.slice none 0 0, .iface 72 (.int .i64 E)]) (by simp [results, Tryz.results107, go_sem]) rfl (by rw [← errV_ne hne]; exact RSAns.mk (l := []) (hB2.out).drew none 0 (fun h => absurd rfl h))

set_option maxHeartbeats 1000000 in
theorem ReadSet_any (b : List UInt8) (w : World) :
    Calls Tryz.prog 77 #[.string ⟨b.toArray⟩] w (RSAns (readSetN b) (readSetL b) w) := by
  have H := wholeSet_any b w
  generalize readSetN b = N at *
  generalize readSetL b = L at *
  go_enter Tryz.func77, Tryz.ntmps77
  go_wp2_with fail
  refine H.mono ?_
  rintro e w1 ⟨hb, ad, c, rfl, hs⟩
  go_wp2_with fail
  exact bodyPost_ret (v := .tuple #[.slice ad L.length c, errV N]) (by simp [results, Tryz.results77, go_sem]) rfl (RSAns.mk hb ad c hs)
end Go.Proofs.YtnphjdckdkjopaaGreatDoor

/- code.ReadTerm. -/
namespace Go.Proofs.YtnphjdckdkjopaaGreatDoor
open Go Go.RowKit Go.Proofs
set_option synthInstance.maxSize 1000

attribute [local go_sem] eql_errV neq_errV guard_errV

def readTermN (b : List UInt8) : Int := wholeN 0 (termS (0, b)).2
def readTermX (b : List UInt8) : Tm := if readTermN b = 0 then (termS (0, b)).1 else (0, [], [])
/-- what is answered of bytes that are read as a term -/
def RTAns (N : Int) (x : Tm) (w : World) (e : Ending) (w' : World) : Prop := RowKit.Below w.heap.size w w' ∧ e = .returned (.tuple #[.agg #[.int .i64 x.1, .string ⟨x.2.1.toArray⟩, .string ⟨x.2.2.toArray⟩], errV N])
theorem RTAns.mk {N : Int} {x : Tm} {w w' : World} (hb : RowKit.Below w.heap.size w w') : RTAns N x w (.returned (.tuple #[.agg #[.int .i64 x.1, .string ⟨x.2.1.toArray⟩, .string ⟨x.2.2.toArray⟩], errV N])) w' := ⟨hb, rfl⟩
theorem bset {w W : World} {o : Nat} {u : Value} (h : RowKit.Below w.heap.size w W) : RowKit.Below w.heap.size w (W.setCell ⟨w.heap.size, o, none⟩ u) := h.setCell (p := ⟨w.heap.size, o, none⟩) (Nat.le_refl _) u
theorem RdAt.new1 (w : World) (b : List UInt8) (o : Obj) (T : TypeId) : RdAt ((w.alloc o).alloc (.cells #[.int .i64 0, .string ⟨b.toArray⟩] T)) (w.heap.size + 1) (0, b) := by
  have h := RdAt.new (w.alloc o) b T
  rw [show (w.alloc o).heap.size = w.heap.size + 1 by simp] at h
  exact h
theorem But.new1 {w W w' : World} (h : RowKit.Below w.heap.size w W) (k : But (w.heap.size + 1) W w') : RowKit.Below w.heap.size w w' := But.below h k h.size (Nat.le_succ _)

end Go.Proofs.YtnphjdckdkjopaaGreatDoor

/- code.ReadLayer. -/
namespace Go.Proofs.YtnphjdckdkjopaaGreatDoor
open Go Go.RowKit Go.Proofs
set_option synthInstance.maxSize 1000

attribute [local go_sem] eql_errV neq_errV guard_errV

/-- an empty box for a layer; a box that holds one -/
def ZL (W : World) (B : Nat) : Prop := W.cell? ⟨B, 0, none⟩ = some (.slice none 0 0) ∧ W.cell? ⟨B, 1, none⟩ = some (.slice none 0 0) ∧ W.frozen? ⟨B, 0, none⟩ = false ∧ W.frozen? ⟨B, 1, none⟩ = false
def XL (W : World) (B : Nat) (v0 v1 : Value) : Prop := W.cell? ⟨B, 0, none⟩ = some v0 ∧ W.cell? ⟨B, 1, none⟩ = some v1
theorem ZL.but {W W' : World} {g B : Nat} (h : ZL W B) (k : But g W W') (hg : B ≠ g) : ZL W' B := by
  obtain ⟨c, f⟩ := k.far (World.block_lt_of_cell? W _ h.1) hg
  unfold ZL at h ⊢
  simp only [c, f]
  exact h
theorem ZL.below {W W' : World} {B : Nat} (h : ZL W B) (hb : RowKit.Below W.heap.size W W') : ZL W' B := by
  have hB : B < W.heap.size := World.block_lt_of_cell? W _ h.1
  exact h.but (g := B + 1) (But.of hb) (by omega)
theorem ZL.new (w : World) : ZL (w.alloc (.cells #[.slice none 0 0, .slice none 0 0] 162)) w.heap.size := by
  unfold ZL
  refine ⟨?_, ?_, ?_, ?_⟩ <;> go_simp
theorem XL.but {W W' : World} {g B : Nat} {v0 v1 : Value} (h : XL W B v0 v1) (k : But g W W') (hg : B ≠ g) : XL W' B v0 v1 := by
  obtain ⟨c, _⟩ := k.far (World.block_lt_of_cell? W _ h.1) hg
  unfold XL at h ⊢
  simp only [c]
  exact h
theorem XL.below {W W' : World} {B : Nat} {v0 v1 : Value} (h : XL W B v0 v1) (hb : RowKit.Below W.heap.size W W') : XL W' B v0 v1 :=
  h.but (g := B + 1) (But.of hb) (by omega)
theorem XL.new (w : World) (v0 v1 : Value) : XL (w.alloc (.cells #[v0, v1] 162)) w.heap.size v0 v1 := by
  unfold XL
  refine ⟨?_, ?_⟩ <;> go_simp

/-- a layer that is read, and what is wrong with it -/
def RL1 (g : Nat) (w : World) (l1 l2 : List Tr) (M : Int) (s : St) (e : Ending) (w' : World) : Prop := ∃ a1 k1 a2 k2, e = .returned (.tuple #[.agg #[.slice a1 l1.length k1, .slice a2 l2.length k2], errV M]) ∧ SlT w' a1 l1 ∧ SlT w' a2 l2 ∧ RdAt w' g s ∧ But g w w'
theorem RL1.mk {g : Nat} {w : World} {l1 l2 : List Tr} {M : Int} {s : St} {w' : World} (a1 : Option Addr) (k1 : Nat) (a2 : Option Addr) (k2 : Nat) (h1 : SlT w' a1 l1) (h2 : SlT w' a2 l2) (h3 : RdAt w' g s) (h4 : But g w w') : RL1 g w l1 l2 M s (.returned (.tuple #[.agg #[.slice a1 l1.length k1, .slice a2 l2.length k2], errV M])) w' := ⟨a1, k1, a2, k2, rfl, h1, h2, h3, h4⟩

set_option maxHeartbeats 4000000 in
set_option maxRecDepth 100000 in
theorem readLayer1_any (g : Nat) (s : St) (w : World) (h : RdAt w g s) :
    Calls Tryz.prog 124 #[.pointer (some ⟨g, 0, none⟩)] w (RL1 g w (setS s).1 (setS (setS s).2).1 (apartN (setS s).1 (setS (setS s).2).1) (setS (setS s).2).2) := by
  have H1 := fun W hW => rset_any g s W hW
  have H2 := fun W hW => rset_any g (setS s).2 W hW
  have HC := fun W a1 k1 a2 k2 h1 h2 => LCheck_any a1 a2 k1 k2 (setS s).1 (setS (setS s).2).1 W h1 h2 (fit_set _) (fit_set _) (len_set _) (len_set _)
  have Hr : Hid (RdAt w g s) := h
  have hg0 : g < w.heap.size := h.lt
  generalize apartN (setS s).1 (setS (setS s).2).1 = M at *
  generalize setS (setS s).2 = R2 at *
  generalize setS s = R1 at *
  obtain ⟨l1, s1⟩ := R1
  obtain ⟨l2, s2⟩ := R2
  dsimp only at *
  clear h
  go_enter Tryz.func124, Tryz.ntmps124
  go_wp2_with fail
  have hZ0 : Hid (ZL (w.alloc (.cells #[.slice none 0 0, .slice none 0 0] 162)) w.heap.size) := ZL.new _
  refine (H1 _ (Hr.out.below (balloc _ _))).mono ?_
  rintro e w1 ⟨a1, k1, rfl, hf1, hr1, hk1⟩
  dsimp only at hf1 hr1
  have hB1 : Hid (But g w w1) := (But.of (balloc _ _)).trans hk1
  have hZ1 : Hid (ZL w1 w.heap.size) := hZ0.out.but hk1 (by omega)
  have hf1 : Hid (Far g w1 a1 l1) := hf1
  clear hk1 hZ0 H1
  go_wp2_with fail
  refine (H2 _ hr1).mono ?_
  rintro e w2 ⟨a2, k2, rfl, hf2, hr2, hk2⟩
  dsimp only at hf2 hr2
  have hB2 : Hid (But g w w2) := hB1.out.trans hk2
  have hZ2 : Hid (ZL w2 w.heap.size) := hZ1.out.but hk2 (by omega)
  have hf1 : Hid (Far g w2 a1 l1) := hf1.out.but hk2
  have hf2 : Hid (Far g w2 a2 l2) := hf2
  clear hk2 hZ1 H2 hB1 hr1
  have hb3 := balloc w2 (.cells #[.slice a1 l1.length k1, .slice a2 l2.length k2] 162)
  have hX3 : Hid (XL (w2.alloc (.cells #[.slice a1 l1.length k1, .slice a2 l2.length k2] 162)) w2.heap.size (.slice a1 l1.length k1) (.slice a2 l2.length k2)) := XL.new _ _ _
  have hs3 : Hid (SlT (w2.alloc (.cells #[.slice a1 l1.length k1, .slice a2 l2.length k2] 162)).drew a1 l1 ∧ SlT (w2.alloc (.cells #[.slice a1 l1.length k1, .slice a2 l2.length k2] 162)).drew a2 l2) := ⟨hf1.out.sl.below hb3.drew, hf2.out.sl.below hb3.drew⟩
  have hZ3 : Hid (ZL (w2.alloc (.cells #[.slice a1 l1.length k1, .slice a2 l2.length k2] 162)) w.heap.size) := hZ2.out.below hb3
  have hr3 : Hid (RdAt (w2.alloc (.cells #[.slice a1 l1.length k1, .slice a2 l2.length k2] 162)) g s2) := hr2.below hb3
  have hB3 : Hid (But g w (w2.alloc (.cells #[.slice a1 l1.length k1, .slice a2 l2.length k2] 162))) := hB2.out.trans (But.of hb3)
  have hz2 : Hid (w.heap.size < w2.heap.size) := World.block_lt_of_cell? w2 _ hZ2.out.1
  clear hb3 hf1 hf2 hr2 hB2 hZ2 Hr
  go_wp2_with fail
  generalize w2.alloc (.cells #[.slice a1 l1.length k1, .slice a2 l2.length k2] 162) = w3 at *
  obtain ⟨x0, x1⟩ := hX3.out
  obtain ⟨z0, z1, f0, f1⟩ := hZ3.out
  have hne : w.heap.size ≠ w2.heap.size := by have := hz2.out; omega
  go_region_law (go_simp; go_at_call_of 125 (Value.agg #[.slice a1 l1.length k1, .slice a2 l2.length k2]); refine (HC w3.drew a1 k1 a2 k2 hs3.out.1 hs3.out.2).mono ?_; rintro e w4 ⟨rfl, hb4'⟩; have hb4 : RowKit.Below w3.heap.size w3 w4 := (RowKit.Below.refl _ w3).drew.trans hb4'; have hX4 := hX3.out.below hb4; have hZ4 := hZ3.out.below hb4; obtain ⟨y0, y1⟩ := id hX4; obtain ⟨t0, t1, q0, q1⟩ := id hZ4)
  all_goals go_wp2_with fail
  all_goals
    exact bodyPost_ret (v := .tuple #[.agg #[.slice a1 l1.length k1, .slice a2 l2.length k2], errV M]) (by unfold results; rw [Tryz.results124]; go_simp) rfl (RL1.mk a1 k1 a2 k2 ((hs3.out.1.below hb4').put2 t0 t1 _ _) ((hs3.out.2.below hb4').put2 t0 t1 _ _) (((hr3.out.below hb4).far (by omega)).far (by omega)) (But.fresh (But.fresh (hB3.out.trans (But.of hb4)) (Nat.le_refl _)) (Nat.le_refl _)))

def readLayN (b : List UInt8) : Int := wholeN (apartN (setS (0, b)).1 (setS (setS (0, b)).2).1) (setS (setS (0, b)).2).2
def readLayA (b : List UInt8) : List Tr := if readLayN b = 0 then (setS (0, b)).1 else []
def readLayD (b : List UInt8) : List Tr := if readLayN b = 0 then (setS (setS (0, b)).2).1 else []
/-- what is answered of bytes that are read as a layer -/
def ReadLAns (N : Int) (l1 l2 : List Tr) (w : World) (e : Ending) (w' : World) : Prop := RowKit.Below w.heap.size w w' ∧ ∃ a1 k1 a2 k2, e = .returned (.tuple #[.agg #[.slice a1 l1.length k1, .slice a2 l2.length k2], errV N]) ∧ SlT w' a1 l1 ∧ SlT w' a2 l2
theorem ReadLAns.mk {N : Int} {l1 l2 : List Tr} {w w' : World} (hb : RowKit.Below w.heap.size w w') (a1 : Option Addr) (k1 : Nat) (a2 : Option Addr) (k2 : Nat) (h1 : SlT w' a1 l1) (h2 : SlT w' a2 l2) : ReadLAns N l1 l2 w (.returned (.tuple #[.agg #[.slice a1 l1.length k1, .slice a2 l2.length k2], errV N])) w' := ⟨hb, a1, k1, a2, k2, rfl, h1, h2⟩
theorem entersRL : ∀ args w, (callFunc 124 args).run Tryz.prog w = .ok (.enter 124 args) w := enters_of Tryz.func124 (by kernel_rfl) rfl

set_option maxHeartbeats 4000000 in
set_option maxRecDepth 100000 in
theorem wholeLayer_any (b : List UInt8) (w : World) :
    Calls Tryz.prog 123 #[.string ⟨b.toArray⟩, .func (.func 124) #[] #[]] w (ReadLAns (readLayN b) (readLayA b) (readLayD b) w) := by
  have H := fun W hW => readLayer1_any (w.heap.size + 1) (0, b) W hW
  have e1 : readLayN b = wholeN (apartN (setS (0, b)).1 (setS (setS (0, b)).2).1) (setS (setS (0, b)).2).2 := rfl
  have e2 : readLayA b = if readLayN b = 0 then (setS (0, b)).1 else [] := rfl
  have e3 : readLayD b = if readLayN b = 0 then (setS (setS (0, b)).2).1 else [] := rfl
  generalize readLayA b = A at *
  generalize readLayD b = D at *
  generalize readLayN b = N at *
  generalize apartN (setS (0, b)).1 (setS (setS (0, b)).2).1 = M at *
  generalize setS (setS (0, b)).2 = R2 at *
  generalize setS (0, b) = R1 at *
  obtain ⟨l1, s1⟩ := R1
  obtain ⟨l2, s⟩ := R2
  dsimp only at *
  have E1 : Hid _ := e1
  have E2 : Hid _ := e2
  have E3 : Hid _ := e3
  have eg := entersRL
  clear e1 e2 e3
  go_enter Tryz.func123, Tryz.ntmps123
  go_wp2_with fail
  have hZ0 : Hid (ZL ((w.alloc (.cells #[.slice none 0 0, .slice none 0 0] 162)).alloc (.cells #[.int .i64 0, .string ⟨b.toArray⟩] 226)) w.heap.size) := (ZL.new w).below (balloc _ _)
  refine (H _ (RdAt.new1 w b _ _)).mono ?_
  rintro e w1 ⟨a1, k1, a2, k2, rfl, hs1, hs2, hr1, hk1⟩
  have hZ1 : Hid (ZL w1 w.heap.size) := hZ0.out.but hk1 (by omega)
  have hB1 : Hid (RowKit.Below w.heap.size w w1) := But.new1 (bstep (balloc _ _) (balloc _ _)) hk1
  have hz1 : Hid (w.heap.size + 1 < w1.heap.size) := hr1.lt
  have hb2 := balloc w1 (.cells #[.slice a1 l1.length k1, .slice a2 l2.length k2] 162)
  have hZ2 : Hid (ZL (w1.alloc (.cells #[.slice a1 l1.length k1, .slice a2 l2.length k2] 162)) w.heap.size) := hZ1.out.below hb2
  have hB2 : Hid (RowKit.Below w.heap.size w (w1.alloc (.cells #[.slice a1 l1.length k1, .slice a2 l2.length k2] 162))) := bstep hB1.out hb2
  have hX2 : Hid (XL (w1.alloc (.cells #[.slice a1 l1.length k1, .slice a2 l2.length k2] 162)) w1.heap.size (.slice a1 l1.length k1) (.slice a2 l2.length k2)) := XL.new _ _ _
  have hr2 : Hid (RdAt (w1.alloc (.cells #[.slice a1 l1.length k1, .slice a2 l2.length k2] 162)) (w.heap.size + 1) s) := hr1.below hb2
  have hS2 : Hid (SlT (w1.alloc (.cells #[.slice a1 l1.length k1, .slice a2 l2.length k2] 162)) a1 l1 ∧ SlT (w1.alloc (.cells #[.slice a1 l1.length k1, .slice a2 l2.length k2] 162)) a2 l2) := ⟨hs1.below hb2, hs2.below hb2⟩
  generalize hw2 : w1.alloc (.cells #[.slice a1 l1.length k1, .slice a2 l2.length k2] 162) = w2 at *
  clear H eg hk1 hZ0 hZ1 hB1 hr1 hs1 hs2 hb2
  obtain ⟨c0, c1, _, _⟩ := hr2.out
  by_cases hM : M = 0
  · subst hM
    by_cases hz : s.2 = []
    · rw [hz] at c1
      have eN : N = s.1 := E1.out.trans (wholeN_all hz)
      by_cases h0 : s.1 = 0
      · have eA : A = l1 := by rw [E2.out, if_pos (by rw [eN]; exact h0)]
        have eD : D = l2 := by rw [E3.out, if_pos (by rw [eN]; exact h0)]
        rw [h0] at c0 eN
        subst eN eA eD
        clear E1 E2 E3
        obtain ⟨z0, z1, f0, f1⟩ := hZ2.out
        obtain ⟨x0, x1⟩ := hX2.out
        have hne1 : w.heap.size ≠ w1.heap.size := by have := hz1.out; omega
        go_wp2_with fail
        exact bodyPost_ret (v := .tuple #[.agg #[.slice a1 A.length k1, .slice a2 D.length k2], .nilIface]) (by unfold results; rw [Tryz.results123]; go_simp) rfl (ReadLAns.mk (N := 0) (bset (bset hB2.out)) a1 k1 a2 k2 (hS2.out.1.put2 z0 z1 _ _) (hS2.out.2.put2 z0 z1 _ _))
      · have hne : s.1 ≠ 0 := h0
        have hne' : (s.1 == 0) = false := by simpa using hne
        have eL : A = [] ∧ D = [] := by rw [E2.out, E3.out, if_neg (by rw [eN]; exact hne), if_neg (by rw [eN]; exact hne)]; exact ⟨rfl, rfl⟩
        obtain ⟨rfl, rfl⟩ := eL
        subst eN
        clear E1 E2 E3
        obtain ⟨z0, z1, f0, f1⟩ := hZ2.out
        have hs2 : w.heap.size + 1 < w2.heap.size := hr2.out.lt
        have hs2x : w.heap.size < w2.heap.size := by omega
        go_wp2_with fail
        go_region
        go_wp2_with fail
        exact bodyPost_ret (v := .tuple #[.agg #[.slice none 0 0, .slice none 0 0], .iface 72 (.int .i64 s.1)]) (by unfold results; rw [Tryz.results123]; go_simp) rfl (by rw [← errV_ne hne]; exact ReadLAns.mk (l1 := []) (l2 := []) (by repeat (first | (with_reducible exact hB2.out) | (with_reducible refine RowKit.Below.drew ?_) | (with_reducible refine bset ?_) | (with_reducible refine bstep ?_ (balloc _ _)))) none 0 none 0 (fun h => absurd rfl h) (fun h => absurd rfl h))
    · obtain ⟨q, r, hqr⟩ : ∃ q r, s.2 = q :: r := by
        cases hh : s.2 with
        | nil => exact absurd hh hz
        | cons q r => exact ⟨q, r, rfl⟩
      rw [hqr] at c1
      have hcase : ¬ ((0 : Int) = 0 ∧ s.2 = []) := fun h => hz h.2
      have hne : (endS 2 s).1 ≠ 0 := endS_zero (by decide)
      have eN : N = (endS 2 s).1 := E1.out.trans (wholeN_bad hcase)
      have eL : A = [] ∧ D = [] := by rw [E2.out, E3.out, if_neg (by rw [eN]; exact hne), if_neg (by rw [eN]; exact hne)]; exact ⟨rfl, rfl⟩
      obtain ⟨rfl, rfl⟩ := eL
      subst eN
      clear E1 E2 E3 hcase
      go_wp2_with fail
      refine (end_any (w.heap.size + 1) s 2 w2 hr2.out).mono ?_
      rintro e w3 ⟨rfl, hr3, hk3⟩
      have hB3 : Hid (RowKit.Below w.heap.size w w3) := But.new1 hB2.out hk3
      obtain ⟨z0, z1, f0, f1⟩ := hZ2.out.but hk3 (by omega)
      have hs3 : w.heap.size + 1 < w3.heap.size := hr3.lt
      have hs3x : w.heap.size < w3.heap.size := by omega
      obtain ⟨c0, _, _, _⟩ := hr3
      have hne' : ((endS 2 s).1 == 0) = false := by simpa using hne
      generalize (endS 2 s).1 = E at *
      go_wp2_with fail
      go_region
      go_wp2_with fail
      exact bodyPost_ret (v := .tuple #[.agg #[.slice none 0 0, .slice none 0 0], .iface 72 (.int .i64 E)]) (by unfold results; rw [Tryz.results123]; go_simp) rfl (by rw [← errV_ne hne]; exact ReadLAns.mk (l1 := []) (l2 := []) (by repeat (first | (with_reducible exact hB3.out) | (with_reducible refine RowKit.Below.drew ?_) | (with_reducible refine bset ?_) | (with_reducible refine bstep ?_ (balloc _ _)))) none 0 none 0 (fun h => absurd rfl h) (fun h => absurd rfl h))
  · have hM' : (M == 0) = false := by simpa using hM
    have hcase : ¬ (M = 0 ∧ s.2 = []) := fun h => hM h.1
    have hne : (endS 2 s).1 ≠ 0 := endS_zero (by decide)
    have eN : N = (endS 2 s).1 := E1.out.trans (wholeN_bad hcase)
    have eL : A = [] ∧ D = [] := by rw [E2.out, E3.out, if_neg (by rw [eN]; exact hne), if_neg (by rw [eN]; exact hne)]; exact ⟨rfl, rfl⟩
    obtain ⟨rfl, rfl⟩ := eL
    subst eN
    clear E1 E2 E3 hcase
    go_wp2_with fail
    refine (end_any (w.heap.size + 1) s 2 w2 hr2.out).mono ?_
    rintro e w3 ⟨rfl, hr3, hk3⟩
    have hB3 : Hid (RowKit.Below w.heap.size w w3) := But.new1 hB2.out hk3
    obtain ⟨z0, z1, f0, f1⟩ := hZ2.out.but hk3 (by omega)
    have hs3 : w.heap.size + 1 < w3.heap.size := hr3.lt
    have hs3x : w.heap.size < w3.heap.size := by omega
    obtain ⟨c0, _, _, _⟩ := hr3
    have hne' : ((endS 2 s).1 == 0) = false := by simpa using hne
    generalize (endS 2 s).1 = E at *
    go_wp2_with fail
    go_region
    go_wp2_with fail
    exact bodyPost_ret (v := .tuple #[.agg #[.slice none 0 0, .slice none 0 0], .iface 72 (.int .i64 E)]) (by unfold results; rw [Tryz.results123]; go_simp) rfl (by rw [← errV_ne hne]; exact ReadLAns.mk (l1 := []) (l2 := []) (by repeat (first | (with_reducible exact hB3.out) | (with_reducible refine RowKit.Below.drew ?_) | (with_reducible refine bset ?_) | (with_reducible refine bstep ?_ (balloc _ _)))) none 0 none 0 (fun h => absurd rfl h) (fun h => absurd rfl h))

set_option maxHeartbeats 1000000 in
theorem ReadLayer_any (b : List UInt8) (w : World) :
    Calls Tryz.prog 90 #[.string ⟨b.toArray⟩] w (ReadLAns (readLayN b) (readLayA b) (readLayD b) w) := by
  have H := fun W => wholeLayer_any b W
  generalize readLayN b = N at *
  generalize readLayA b = A at *
  generalize readLayD b = D at *
  go_enter Tryz.func90, Tryz.ntmps90
  go_wp2_with fail
  have hZ0 : Hid (ZL (w.alloc (.cells #[.slice none 0 0, .slice none 0 0] 162)) w.heap.size) := ZL.new _
  refine (H _).mono ?_
  rintro e w1 ⟨hb, a1, k1, a2, k2, rfl, h1, h2⟩
  obtain ⟨z0, z1, f0, f1⟩ := hZ0.out.below hb
  have hB1 : Hid (RowKit.Below w.heap.size w w1) := bstep (balloc _ _) hb
  have HS : Hid (SlT w1 a1 A ∧ SlT w1 a2 D) := ⟨h1, h2⟩
  clear h1 h2
  go_wp2_with fail
  exact bodyPost_ret (v := .tuple #[.agg #[.slice a1 A.length k1, .slice a2 D.length k2], errV N]) (by unfold results; rw [Tryz.results90]; go_simp) rfl (ReadLAns.mk (bset (bset hB1.out)) a1 k1 a2 k2 (HS.out.1.put2 z0 z1 _ _) (HS.out.2.put2 z0 z1 _ _))
end Go.Proofs.YtnphjdckdkjopaaGreatDoor

/- stratalaw1.CodeBack: what is read of what was written. -/
namespace Go.Proofs.YtnphjdckdkjopaaGreatDoor
open Go Go.RowKit Go.Proofs
set_option synthInstance.maxSize 1000

theorem back_term {x : Tm} (h : okTm x = 0) : readTermN (encT x) = 0 ∧ readTermX (encT x) = x := by
  have e := termS_good h []
  rw [List.append_nil] at e
  have h1 : readTermN (encT x) = 0 := by unfold readTermN; rw [e]; rfl
  refine ⟨h1, ?_⟩
  unfold readTermX
  rw [if_pos h1, e]
theorem back_set {l : List Tr} (h : IsSet l) : readSetN (encS l) = 0 ∧ readSetL (encS l) = l := by
  have e := setS_good l h.1 (okTr_set h) []
  rw [List.append_nil] at e
  have h1 : readSetN (encS l) = 0 := by
    unfold readSetN
    rw [e, sortedN_set.2 h]
    rfl
  refine ⟨h1, ?_⟩
  unfold readSetL
  rw [if_pos h1, e]
theorem lay_reads {a d : List Tr} (ha : IsSet a) (hd : IsSet d) (r : List UInt8) : setS (0, encS a ++ encS d ++ r) = (a, (0, encS d ++ r)) ∧ setS (0, encS d ++ r) = (d, (0, r)) := by
  rw [List.append_assoc]
  exact ⟨setS_good a ha.1 (okTr_set ha) _, setS_good d hd.1 (okTr_set hd) _⟩
theorem back_layer {a d : List Tr} (h : apartN a d = 0) : readLayN (encS a ++ encS d) = 0 ∧ readLayA (encS a ++ encS d) = a ∧ readLayD (encS a ++ encS d) = d := by
  obtain ⟨ha, hd⟩ := apart_sets h
  obtain ⟨e1, e2⟩ := lay_reads ha hd []
  rw [List.append_nil] at e1 e2
  rw [List.append_nil] at e1
  have h1 : readLayN (encS a ++ encS d) = 0 := by
    unfold readLayN
    rw [e1]
    dsimp only
    rw [e2]
    dsimp only
    rw [h]
    rfl
  refine ⟨h1, ?_, ?_⟩
  · unfold readLayA
    rw [if_pos h1, e1]
  · unfold readLayD
    rw [if_pos h1, e1]
    dsimp only
    rw [e2]
theorem more_layer {a d : List Tr} (h : apartN a d = 0) {r : List UInt8} (hr : r ≠ []) : readLayN (encS a ++ encS d ++ r) = 2 := by
  obtain ⟨ha, hd⟩ := apart_sets h
  obtain ⟨e1, e2⟩ := lay_reads ha hd r
  unfold readLayN
  rw [e1]
  dsimp only
  rw [e2]
  dsimp only
  rw [h, wholeN_good, if_neg hr]
theorem cut_layer {a d : List Tr} (h : apartN a d = 0) {n : Nat} (hn : n < (encS a ++ encS d).length) : readLayN ((encS a ++ encS d).take n) = 8 := by
  obtain ⟨ha, hd⟩ := apart_sets h
  have key : (setS (setS (0, (encS a ++ encS d).take n)).2).2.1 = 8 := by
    by_cases h1 : n < (encS a).length
    · rw [List.take_append_of_le_length (by omega)]
      have e := setS_short a ha.1 (okTr_set ha) h1
      rw [setS_keep (by rw [e]; decide), e]
    · obtain ⟨m, rfl⟩ : ∃ m, n = (encS a).length + m := ⟨n - (encS a).length, by omega⟩
      rw [List.take_length_add_append, setS_good a ha.1 (okTr_set ha)]
      refine setS_short d hd.1 (okTr_set hd) ?_
      rw [List.length_append] at hn
      omega
  unfold readLayN
  rw [wholeN_keep (by rw [key]; decide), key]
theorem any_set {b : List UInt8} (h : readSetN b = 0) : IsSet (readSetL b) ∧ encS (readSetL b) = b := by
  have h' := h
  unfold readSetN at h'
  obtain ⟨h1, h2⟩ := wholeN_zero h'
  have h3 : (setS (0, b)).2.1 = 0 := by rw [h2]
  obtain ⟨e, -, -⟩ := setS_ok h3
  have e2 : b = encS (setS (0, b)).1 ++ (setS (0, b)).2.2 := congrArg Prod.snd e
  rw [h2, List.append_nil] at e2
  unfold readSetL
  rw [if_pos h]
  exact ⟨sortedN_set.1 h1, e2.symm⟩
theorem appX (a b : List UInt8) : (⟨a.toArray⟩ : ByteArray) ++ (⟨b.toArray⟩ : ByteArray) = ⟨(a ++ b).toArray⟩ := by
  apply ByteArray.ext
  rw [ByteArray.data_append]
  simp
end Go.Proofs.YtnphjdckdkjopaaGreatDoor

/- A journal in plain words: what was done, as records; what is read of them again; what each call makes of it. -/
namespace Go.Proofs.YtnphjdckdkjopaaGreatDoor
open Go Go.RowKit Go.Proofs
set_option synthInstance.maxSize 1000

/-! ### cut at a sign -/
def cutC (c : UInt8) : List UInt8 → Option (List UInt8 × List UInt8)
  | [] => none
  | x :: r => if x = c then some ([], r) else match cutC c r with
    | none => none
    | some (a, b) => some (x :: a, b)
def cutV (c : UInt8) (l : List UInt8) : List UInt8 × List UInt8 × Bool := match cutC c l with
  | none => (l, [], false)
  | some (x, r) => (x, r, true)
theorem cutC_word {c : UInt8} : ∀ (x r : List UInt8), (∀ d ∈ x, d ≠ c) → cutC c (x ++ c :: r) = some (x, r)
  | [], r, _ => by simp [cutC]
  | d :: x, r, h => by
    rw [List.cons_append, cutC, if_neg (h d (by simp)), cutC_word x r fun e he => h e (by simp [he])]
theorem cutC_none {c : UInt8} : ∀ (x : List UInt8), (∀ d ∈ x, d ≠ c) → cutC c x = none
  | [], _ => rfl
  | d :: x, h => by
    rw [cutC, if_neg (h d (by simp)), cutC_none x fun e he => h e (by simp [he])]
theorem cutV_word {c : UInt8} {x r : List UInt8} (h : ∀ d ∈ x, d ≠ c) : cutV c (x ++ c :: r) = (x, r, true) := by
  unfold cutV; rw [cutC_word x r h]
theorem cutV_none {c : UInt8} {x : List UInt8} (h : ∀ d ∈ x, d ≠ c) : cutV c x = (x, [], false) := by
  unfold cutV; rw [cutC_none x h]
theorem cutC_len {c : UInt8} : ∀ {l x r : List UInt8}, cutC c l = some (x, r) → x.length + r.length + 1 = l.length
  | [], x, r, h => by simp [cutC] at h
  | d :: l, x, r, h => by
    unfold cutC at h
    split at h
    · cases h; simp
    · cases hc : cutC c l with
      | none => rw [hc] at h; cases h
      | some a =>
        obtain ⟨y, z⟩ := a
        rw [hc] at h
        simp only [Option.some.injEq, Prod.mk.injEq] at h
        obtain ⟨rfl, rfl⟩ := h
        have := cutC_len hc
        simp only [List.length_cons]
        omega
theorem cutV_len (c : UInt8) (l : List UInt8) : (cutV c l).1.length + (cutV c l).2.1.length ≤ l.length := by
  unfold cutV
  cases h : cutC c l with
  | none => simp
  | some a => obtain ⟨x, r⟩ := a; have := cutC_len h; simp only; omega

/-! ### what is done, and its record -/
/-- kind, name, set, message, number -/
abbrev Dd : Type := List UInt8 × List UInt8 × List Tr × List UInt8 × Int
def comK : List UInt8 := [99, 111, 109, 109, 105, 116]
def brK : List UInt8 := [98, 114, 97, 110, 99, 104]
def doE (R : Rp) (d : Dd) : Int := if d.1 = brK then branchE R d.2.1 d.2.2.2.2 else commitE R d.2.1 d.2.2.1 d.2.2.2.1
def doI (R : Rp) (d : Dd) : Nat := if d.1 = brK then 0 else commitI R d.2.1 d.2.2.1 d.2.2.2.1
def doR (R : Rp) (d : Dd) : Rp := if d.1 = brK then branchR R d.2.1 d.2.2.2.2 else commitR R d.2.1 d.2.2.1 d.2.2.2.1
theorem GoodR.deed {R : Rp} (h : GoodR R) (d : Dd) : GoodR (doR R d) := by
  unfold doR
  split
  · exact h.branch _ _
  · exact h.commit _ _ _
theorem doR_bad {R : Rp} {d : Dd} (h : doE R d ≠ 0) : doR R d = R := by
  unfold doE at h
  unfold doR
  split
  · rename_i e
    rw [if_pos e] at h
    unfold branchR
    rw [if_pos h]
  · rename_i e
    rw [if_neg e] at h
    unfold commitR
    rw [if_pos h]
theorem doI_bad {R : Rp} {d : Dd} (h : doE R d ≠ 0) : doI R d = 0 := by
  unfold doE at h
  unfold doI
  split
  · rfl
  · rename_i e
    rw [if_neg e] at h
    unfold commitI
    rw [if_pos h]
/-- one whose record is read again -/
structure OkD (d : Dd) : Prop where
  name : nameR d.2.1 = true
  kind : (d.1 = brK ∧ d.2.2.1 = [] ∧ d.2.2.2.1 = [] ∧ -9223372036854775808 ≤ d.2.2.2.2 ∧ d.2.2.2.2 ≤ 9223372036854775807) ∨ (d.1 = comK ∧ IsSet d.2.2.1 ∧ msgN d.2.2.2.1 = 0 ∧ d.2.2.2.2 = 0)
def bodyD (d : Dd) : List UInt8 := if d.1 = brK then brK ++ 32 :: (d.2.1 ++ 32 :: Lib.itoa d.2.2.2.2) else comK ++ 32 :: (d.2.1 ++ 32 :: (d.2.2.2.1 ++ 10 :: encS d.2.2.1))
def recD (d : Dd) : List UInt8 := Lib.itoa (bodyD d).length ++ 58 :: bodyD d
def parseD (b : List UInt8) : Bool × Dd :=
  if (cutV 32 b).1 = brK then
    match Lib.atoiAll (cutV 32 (cutV 32 b).2.1).2.1 with
    | .ok v => (true, (cutV 32 b).1, (cutV 32 (cutV 32 b).2.1).1, [], [], v)
    | _ => (false, (cutV 32 b).1, (cutV 32 (cutV 32 b).2.1).1, [], [], 0)
  else (decide (readSetN (cutV 10 (cutV 32 (cutV 32 b).2.1).2.1).2.1 = 0), (cutV 32 b).1, (cutV 32 (cutV 32 b).2.1).1, readSetL (cutV 10 (cutV 32 (cutV 32 b).2.1).2.1).2.1, (cutV 10 (cutV 32 (cutV 32 b).2.1).2.1).1, 0)
theorem name_no {n : List UInt8} (h : nameR n = true) {c : UInt8} (hc : c.toNat < 97) : ∀ d ∈ n, d ≠ c := by
  unfold nameR at h
  simp only [Bool.and_eq_true] at h
  intro d hd e
  subst e
  have h2 := h.2.2
  unfold allB at h2
  rw [List.all_eq_true] at h2
  have h3 := h2 d hd
  unfold letB at h3
  simp only [decide_eq_true_eq] at h3
  omega
theorem name_short {n : List UInt8} (h : nameR n = true) : n.length ≤ 10 := by
  unfold nameR at h
  simp only [Bool.and_eq_true, decide_eq_true_eq] at h
  exact h.2.1
theorem msg_no10 {m : List UInt8} (h : msgN m = 0) : ∀ d ∈ m, d ≠ 10 := by
  intro d hd e
  subst e
  unfold msgN at h
  split at h
  · cases h
  · split at h
    · rename_i hk
      unfold okM at hk
      first
        | (rw [List.all_eq_true] at hk; have := hk _ hd; revert this; decide)
        | (unfold allB at hk; rw [List.all_eq_true] at hk; have := hk _ hd; revert this; decide)
    · cases h
theorem msg_len24 {m : List UInt8} (h : msgN m = 0) : m.length ≤ 24 := by
  unfold msgN at h
  split at h
  · cases h
  · omega
theorem itoa_no (n : Int) {c : UInt8} (hc : c.toNat < 45 ∨ 57 < c.toNat) : ∀ d ∈ Lib.itoa n, d ≠ c := fun d hd e => by
  subst e
  unfold Lib.itoa at hd
  split at hd
  · rcases List.mem_cons.1 hd with h | h
    · subst h
      have : (45 : UInt8).toNat = 45 := rfl
      omega
    · have := dec_mem _ _ (Nat.le_refl _) _ h
      omega
  · have := dec_mem _ _ (Nat.le_refl _) _ hd
    omega
theorem parse_body {d : Dd} (h : OkD d) : parseD (bodyD d) = (true, d) := by
  obtain ⟨k, n, s, m, a⟩ := d
  have hn := h.name
  rcases h.kind with ⟨h1, h2, h3, h4, h5⟩ | ⟨h1, h2, h3, h4⟩
  · dsimp only at h1 h2 h3 h4 h5 hn
    subst h1 h2 h3
    have e1 : cutV 32 (bodyD (brK, n, [], [], a)) = (brK, n ++ 32 :: Lib.itoa a, true) := by
      unfold bodyD
      rw [if_pos rfl]
      exact cutV_word (by decide)
    have e2 : cutV 32 (n ++ 32 :: Lib.itoa a) = (n, Lib.itoa a, true) := cutV_word (name_no hn (by decide))
    unfold parseD
    rw [e1]
    dsimp only
    rw [e2, if_pos rfl]
    dsimp only
    rw [atoi_itoa h4 h5]
  · dsimp only at h1 h2 h3 h4 hn
    subst h1 h4
    have hk : ¬ comK = brK := by decide
    have e1 : cutV 32 (bodyD (comK, n, s, m, 0)) = (comK, n ++ 32 :: (m ++ 10 :: encS s), true) := by
      unfold bodyD
      rw [if_neg hk]
      exact cutV_word (by decide)
    have e2 : cutV 32 (n ++ 32 :: (m ++ 10 :: encS s)) = (n, m ++ 10 :: encS s, true) := cutV_word (name_no hn (by decide))
    have e3 : cutV 10 (m ++ 10 :: encS s) = (m, encS s, true) := cutV_word (msg_no10 h3)
    obtain ⟨b1, b2⟩ := back_set h2
    unfold parseD
    rw [e1]
    dsimp only
    rw [e2, if_neg hk]
    dsimp only
    rw [e3]
    dsimp only
    rw [b1, b2]
    rfl
theorem itoa_len {n : Int} (h0 : -9223372036854775808 ≤ n) (h1 : n ≤ 9223372036854775807) : (Lib.itoa n).length ≤ 20 := by
  have key : ∀ (f u : Nat), u < 10 ^ (f + 1) → (Lib.decDigits u).length ≤ f + 1 := fun f => by
    induction f with
    | zero => intro u hu; rw [Lib.decDigits, dif_pos (by omega)]; simp
    | succ f ih =>
      intro u hu
      by_cases h10 : u < 10
      · rw [Lib.decDigits, dif_pos h10]; simp
      · rw [Lib.decDigits, dif_neg h10, List.length_append]
        have := ih (u / 10) (by rw [Nat.pow_succ] at hu; omega)
        simp only [List.length_singleton]
        omega
  unfold Lib.itoa
  split
  · have := key 18 n.natAbs (by omega)
    simp only [List.length_cons]
    omega
  · have := key 18 n.toNat (by omega)
    omega
theorem body_len {d : Dd} (h : OkD d) : (bodyD d).length ≤ 30000 := by
  obtain ⟨k, n, s, m, a⟩ := d
  have hn := name_short h.name
  unfold bodyD
  rcases h.kind with ⟨h1, h2, h3, h4, h5⟩ | ⟨h1, h2, h3, h4⟩
  · dsimp only at h1 h2 h3 h4 h5 hn
    have := itoa_len h4 h5
    rw [if_pos h1]
    have e : brK.length = 6 := rfl
    simp only [List.length_append, List.length_cons, e]
    omega
  · dsimp only at h1 h2 h3 h4 hn
    have := encS_len h2
    have := msg_len24 h3
    rw [if_neg (by rw [h1]; show ¬ comK = brK; decide)]
    have e : comK.length = 6 := rfl
    simp only [List.length_append, List.length_cons, e]
    omega
theorem rec_len {d : Dd} (h : OkD d) : (recD d).length ≤ 30100 ∧ 2 ≤ (recD d).length := by
  have h1 := body_len h
  have h2 := itoa_len (n := ((bodyD d).length : Int)) (by omega) (by omega)
  have h3 : 6 ≤ (bodyD d).length := by
    unfold bodyD
    split
    · simp [brK]
    · simp [comK]
  unfold recD
  rw [List.length_append, List.length_cons]
  omega

/-! ### the first record of bytes -/
def firstD (b : List UInt8) : List UInt8 × Nat := match Lib.atoiAll (cutV 58 b).1 with
  | .ok v => if ((cutV 58 b).2.1.length : Int) < v then ([], 0) else ((cutV 58 b).2.1.take v.toNat, (cutV 58 b).1.length + 1 + v.toNat)
  | _ => ([], 0)
theorem first_rec {d : Dd} (h : OkD d) (r : List UInt8) : firstD (recD d ++ r) = (bodyD d, (recD d).length) := by
  have h1 := body_len h
  have e : cutV 58 (recD d ++ r) = (Lib.itoa (bodyD d).length, bodyD d ++ r, true) := by
    unfold recD
    rw [List.append_assoc, List.cons_append]
    exact cutV_word (itoa_no _ (by decide))
  unfold firstD
  rw [e]
  dsimp only
  rw [atoi_itoa (by omega) (by omega)]
  dsimp only
  rw [if_neg (by simp only [List.length_append]; omega), Int.toNat_natCast, List.take_left']
  · unfold recD
    rw [List.length_append, List.length_cons]
    congr 1
    omega
  · rfl
/-- a piece of a number is a number, or nothing -/
theorem dec_piece : ∀ (f u : Nat), u ≤ f → 0 < u → ∀ k, k ≤ (Lib.decDigits u).length → k = 0 ∨ ∃ m, 0 < m ∧ m ≤ u ∧ (Lib.decDigits u).take k = Lib.decDigits m
  | 0, u, hf, h0, k, _ => by omega
  | f + 1, u, hf, h0, k, hk => by
    by_cases hlt : k < (Lib.decDigits u).length
    · by_cases h10 : u < 10
      · rw [Lib.decDigits, dif_pos h10] at hlt
        simp at hlt
        exact Or.inl hlt
      · rw [Lib.decDigits, dif_neg h10, List.length_append, List.length_singleton] at hlt
        have hk2 : k ≤ (Lib.decDigits (u / 10)).length := by omega
        rcases dec_piece f (u / 10) (by omega) (by omega) k hk2 with h | ⟨m, h1, h2, h3⟩
        · exact Or.inl h
        · refine Or.inr ⟨m, h1, by omega, ?_⟩
          rw [Lib.decDigits, dif_neg h10, List.take_append_of_le_length hk2]
          exact h3
    · refine Or.inr ⟨u, h0, Nat.le_refl _, ?_⟩
      rw [List.take_of_length_le (by omega)]
theorem itoa_nat (n : Nat) : Lib.itoa (n : Int) = Lib.decDigits n := by
  unfold Lib.itoa
  rw [if_neg (by omega)]
  simp
theorem first_none : firstD [] = ([], 0) := by
  unfold firstD
  have e : cutV 58 [] = ([], [], false) := rfl
  rw [e]
  rfl
theorem first_part {d : Dd} (h : OkD d) {k : Nat} (hk : k < (recD d).length) : firstD ((recD d).take k) = ([], 0) := by
  have h1 := body_len h
  have h3 : 6 ≤ (bodyD d).length := by
    unfold bodyD
    split
    · simp [brK]
    · simp [comK]
  by_cases hs : k ≤ (Lib.itoa (bodyD d).length).length
  · have e : (recD d).take k = (Lib.itoa (bodyD d).length).take k := by
      unfold recD
      exact List.take_append_of_le_length hs
    have hno : ∀ c ∈ (Lib.itoa (bodyD d).length).take k, c ≠ 58 := fun c hc => itoa_no _ (by decide) c (List.mem_of_mem_take hc)
    rw [e]
    unfold firstD
    rw [cutV_none hno]
    dsimp only
    rw [itoa_nat] at hs ⊢
    rcases dec_piece _ _ (Nat.le_refl _) (by omega) k hs with rfl | ⟨m, m1, m2, m3⟩
    · rfl
    · rw [m3, ← itoa_nat, atoi_itoa (by omega) (by omega)]
      dsimp only
      rw [if_pos (by simp; omega)]
  · have e : (recD d).take k = Lib.itoa (bodyD d).length ++ 58 :: (bodyD d).take (k - (Lib.itoa (bodyD d).length).length - 1) := by
      unfold recD
      rw [List.take_append, List.take_of_length_le (by omega)]
      congr 1
      obtain ⟨j, hj⟩ : ∃ j, k - (Lib.itoa (bodyD d).length).length = j + 1 := ⟨k - (Lib.itoa (bodyD d).length).length - 1, by omega⟩
      rw [hj, List.take_succ_cons]
      rfl
    have hl : (recD d).length = (Lib.itoa (bodyD d).length).length + (bodyD d).length + 1 := by
      unfold recD
      rw [List.length_append, List.length_cons]
      omega
    rw [e]
    unfold firstD
    rw [cutV_word (itoa_no _ (by decide))]
    dsimp only
    rw [atoi_itoa (by omega) (by omega)]
    dsimp only
    rw [if_pos (by rw [List.length_take]; omega)]

/-! ### all records -/
def recs (ds : List Dd) : List UInt8 := ds.flatMap recD
theorem recs_app (a b : List Dd) : recs (a ++ b) = recs a ++ recs b := by simp [recs]
theorem recs_cons (d : Dd) (r : List Dd) : recs (d :: r) = recD d ++ recs r := by simp [recs]
theorem recs_len {ds : List Dd} (h : ∀ d ∈ ds, OkD d) : (recs ds).length ≤ ds.length * 30100 := by
  induction ds with
  | nil => simp [recs]
  | cons d r ih =>
    rw [recs_cons, List.length_append, List.length_cons]
    have := ih fun x hx => h x (by simp [hx])
    have := rec_len (h d (by simp))
    omega
def playR (ds : List Dd) : Rp := ds.foldl doR emptyR
theorem play_snoc (ds : List Dd) (d : Dd) : playR (ds ++ [d]) = doR (playR ds) d := by simp [playR]
theorem good_play (ds : List Dd) : GoodR (playR ds) := by
  unfold playR
  have : ∀ R, GoodR R → GoodR (ds.foldl doR R) := by
    induction ds with
    | nil => exact fun R h => h
    | cons d r ih => exact fun R h => ih _ (h.deed d)
  exact this _ goodR_empty
/-- no whole record -/
def Piece (p : List UInt8) : Prop := p = [] ∨ ∃ d k, OkD d ∧ k < (recD d).length ∧ p = (recD d).take k
theorem Piece.first {p : List UInt8} (h : Piece p) : firstD p = ([], 0) := by
  rcases h with rfl | ⟨d, k, h1, h2, rfl⟩
  · exact first_none
  · exact first_part h1 h2
theorem Piece.len {p : List UInt8} (h : Piece p) : p.length ≤ 30100 := by
  rcases h with rfl | ⟨d, k, h1, h2, rfl⟩
  · simp
  · rw [List.length_take]
    have := rec_len h1
    omega
theorem Piece.take {p : List UInt8} (h : Piece p) (t : Nat) : Piece (p.take t) := by
  rcases h with rfl | ⟨d, k, h1, h2, rfl⟩
  · exact Or.inl (by simp)
  · exact Or.inr ⟨d, min t k, h1, by omega, by rw [List.take_take]⟩
/-- how many whole records are in so many bytes -/
def wholeD : List Dd → Nat → Nat
  | [], _ => 0
  | d :: r, t => if (recD d).length ≤ t then wholeD r (t - (recD d).length) + 1 else 0
theorem whole_le : ∀ (ds : List Dd) (t : Nat), wholeD ds t ≤ ds.length
  | [], _ => Nat.le_refl _
  | d :: r, t => by
    unfold wholeD
    split
    · have := whole_le r (t - (recD d).length)
      simp only [List.length_cons]
      omega
    · omega
theorem whole_cut : ∀ {ds : List Dd} {half : List UInt8} (t : Nat), (∀ d ∈ ds, OkD d) → Piece half → ∃ p, Piece p ∧ (recs ds ++ half).take t = recs (ds.take (wholeD ds t)) ++ p
  | [], half, t, _, hp => ⟨half.take t, hp.take t, by simp [recs, wholeD]⟩
  | d :: r, half, t, h, hp => by
    unfold wholeD
    split
    · rename_i hle
      obtain ⟨p, h1, h2⟩ := whole_cut (ds := r) (t - (recD d).length) (fun x hx => h x (by simp [hx])) hp
      refine ⟨p, h1, ?_⟩
      rw [List.take_succ_cons, recs_cons, recs_cons, List.append_assoc, List.take_append, List.take_of_length_le hle, h2, List.append_assoc]
    · rename_i hle
      refine ⟨(recD d).take t, Or.inr ⟨d, t, h d (by simp), by omega, rfl⟩, ?_⟩
      rw [recs_cons, List.append_assoc, List.take_append_of_le_length (by omega)]
      simp [recs]
theorem whole_all : ∀ {ds : List Dd} {t : Nat}, (recs ds).length ≤ t → wholeD ds t = ds.length
  | [], t, _ => rfl
  | d :: r, t, h => by
    rw [recs_cons, List.length_append] at h
    unfold wholeD
    rw [if_pos (by omega), whole_all (ds := r) (by omega)]
    rfl
theorem whole_ge : ∀ {ds : List Dd} {t m : Nat}, m ≤ ds.length → (recs (ds.take m)).length ≤ t → m ≤ wholeD ds t
  | ds, t, 0, _, _ => Nat.zero_le _
  | [], t, m + 1, h, _ => by simp at h
  | d :: r, t, m + 1, hm, h => by
    rw [List.take_succ_cons, recs_cons, List.length_append] at h
    unfold wholeD
    rw [if_pos (by omega)]
    have := whole_ge (ds := r) (t := t - (recD d).length) (m := m) (by simpa using hm) (by omega)
    omega

/-! ### the journal -/
/-- what was done, what there is of the record at which it stopped, how many of what was done are safe, how many steps are ahead of the one at which it stops, whether it has -/
structure Jn where
  ds : List Dd
  half : List UInt8
  sn : Nat
  ahead : Int
  stop : Bool
def Jn.bytes (J : Jn) : List UInt8 := recs J.ds ++ J.half
def Jn.safe (J : Jn) : Nat := (recs (J.ds.take J.sn)).length
def emptyJ : Jn := ⟨[], [], 0, -1, false⟩
structure GoodJ (J : Jn) : Prop where
  ok : ∀ d ∈ J.ds, OkD d
  half : Piece J.half
  whole : J.stop = false → J.half = []
  sn : J.sn ≤ J.ds.length
  low : -9223372036854775808 ≤ J.ahead
  high : J.ahead ≤ 9223372036854775807
theorem goodJ_empty : GoodJ emptyJ := ⟨fun d hd => absurd hd (by simp [emptyJ]), Or.inl rfl, fun _ => rfl, Nat.le_refl _, by decide, by decide⟩
theorem GoodJ.len {J : Jn} (h : GoodJ J) (hd : J.ds.length ≤ 1000) : J.bytes.length ≤ 40000000 := by
  unfold Jn.bytes
  rw [List.length_append]
  have := recs_len h.ok
  have := h.half.len
  omega
theorem Jn.safe_le (J : Jn) : J.safe ≤ (recs J.ds).length := by
  unfold Jn.safe
  conv => rhs; rw [← List.take_append_drop J.sn J.ds, recs_app, List.length_append]
  omega
/-- a step is counted -/
def stepA (a : Int) : Int := if 0 < a then a - 1 else a
def stepS (a : Int) (s : Bool) : Bool := s || decide (a = 0)
def keepJE (J : Jn) (d : Dd) : Int := if J.stop = true then 6 else if doE (playR J.ds) d ≠ 0 then doE (playR J.ds) d else if J.ahead = 0 then 6 else 0
def keepJI (J : Jn) (d : Dd) : Nat := if keepJE J d = 0 then doI (playR J.ds) d else 0
def keepJ (J : Jn) (d : Dd) : Jn := if J.stop = true then J else if doE (playR J.ds) d ≠ 0 then J else if J.ahead = 0 then ⟨J.ds, (recD d).take ((recD d).length / 2), J.sn, J.ahead, true⟩ else ⟨J.ds ++ [d], J.half, J.sn, stepA J.ahead, false⟩
def syncE (J : Jn) : Int := if stepS J.ahead J.stop = true then 6 else 0
def syncJ (J : Jn) : Jn := if stepS J.ahead J.stop = true then ⟨J.ds, J.half, J.sn, stepA J.ahead, true⟩ else ⟨J.ds, J.half, J.ds.length, stepA J.ahead, false⟩
def failJ (J : Jn) (n : Int) : Jn := ⟨J.ds, J.half, J.sn, n, J.stop⟩
/-- how many bytes are there when it crashes -/
def thereJ (J : Jn) (k : Int) : Nat := J.safe + (min (max k 0) ((J.bytes.length : Int) - J.safe)).toNat
def crashJ (J : Jn) (k : Int) : Jn := ⟨J.ds.take (wholeD J.ds (thereJ J k)), [], wholeD J.ds (thereJ J k), -1, false⟩
theorem GoodJ.keep {J : Jn} (h : GoodJ J) {d : Dd} (hd : doE (playR J.ds) d = 0 → OkD d) : GoodJ (keepJ J d) := by
  unfold keepJ
  split
  · exact h
  · rename_i hs
    have hs' : J.stop = false := by simpa using hs
    split
    · exact h
    · rename_i he
      have hd' := hd (Classical.byContradiction fun hh => he hh)
      split
      · exact ⟨h.ok, Or.inr ⟨d, _, hd', by have := rec_len hd'; omega, rfl⟩, fun e => (by cases e), h.sn, h.low, h.high⟩
      · refine ⟨fun x hx => ?_, h.half, fun _ => h.whole hs', by rw [List.length_append]; have := h.sn; dsimp only; omega, ?_, ?_⟩
        · rcases List.mem_append.1 hx with hx | hx
          · exact h.ok x hx
          · rw [List.mem_singleton.1 hx]; exact hd'
        · have := h.low; show _ ≤ stepA _; unfold stepA; split <;> omega
        · have := h.high; show stepA _ ≤ _; unfold stepA; split <;> omega
theorem GoodJ.sync {J : Jn} (h : GoodJ J) : GoodJ (syncJ J) := by
  have h1 := h.low
  have h2 := h.high
  unfold syncJ
  split
  · refine ⟨h.ok, h.half, fun e => (by cases e), h.sn, ?_, ?_⟩
    · show _ ≤ stepA _; unfold stepA; split <;> omega
    · show stepA _ ≤ _; unfold stepA; split <;> omega
  · rename_i hs
    refine ⟨h.ok, h.half, fun _ => h.whole ?_, Nat.le_refl _, ?_, ?_⟩
    · unfold stepS at hs
      simp only [Bool.or_eq_true, not_or, Bool.not_eq_true] at hs
      exact hs.1
    · show _ ≤ stepA _; unfold stepA; split <;> omega
    · show stepA _ ≤ _; unfold stepA; split <;> omega
theorem GoodJ.fail {J : Jn} (h : GoodJ J) {n : Int} (h0 : -9223372036854775808 ≤ n) (h1 : n ≤ 9223372036854775807) : GoodJ (failJ J n) := ⟨h.ok, h.half, h.whole, h.sn, h0, h1⟩
theorem GoodJ.crash {J : Jn} (h : GoodJ J) (k : Int) : GoodJ (crashJ J k) :=
  ⟨fun d hd => h.ok d (List.mem_of_mem_take hd), Or.inl rfl, fun _ => rfl, by show wholeD J.ds (thereJ J k) ≤ (J.ds.take _).length; rw [List.length_take]; have := whole_le J.ds (thereJ J k); omega, by show (-9223372036854775808 : Int) ≤ -1; decide, by show (-1 : Int) ≤ 9223372036854775807; decide⟩
theorem sync_safe {J : Jn} (h : GoodJ J) (he : syncE J = 0) : (syncJ J).safe = J.bytes.length ∧ (syncJ J).bytes = J.bytes := by
  unfold syncE at he
  unfold syncJ
  split at he
  · cases he
  · rename_i hs
    rw [if_neg hs]
    unfold stepS at hs
    simp only [Bool.or_eq_true, not_or, Bool.not_eq_true] at hs
    refine ⟨?_, rfl⟩
    unfold Jn.safe Jn.bytes
    rw [h.whole hs.1]
    simp
end Go.Proofs.YtnphjdckdkjopaaGreatDoor

/- What strconv's Atoi tells of any text, where its two errors are laid. -/
namespace Go.Proofs.YtnphjdckdkjopaaGreatDoor
open Go Go.RowKit Go.Proofs Go.Sort
set_option synthInstance.maxSize 1000

/-- strconv's two errors are laid -/
structure ErrsL (w : World) : Prop where
  syn : ∃ tp p, w.var? Tryz.prog "strconv.ErrSyntax" = some #[.iface tp p]
  rng : ∃ tp p, w.var? Tryz.prog "strconv.ErrRange" = some #[.iface tp p]
theorem errs_below {w w' : World} (h : ErrsL w) (hb : RowKit.Below w.heap.size w w') : ErrsL w' := by
  obtain ⟨a, b, h1⟩ := h.syn
  obtain ⟨c, d, h2⟩ := h.rng
  have e : ∀ {name : String} {cs : Array Value}, w.var? Tryz.prog name = some cs → w'.var? Tryz.prog name = some cs := fun {name cs} h => by
    unfold World.var? at h ⊢
    cases hn : Tryz.prog.globalNamed name with
    | none => rw [hn] at h; simp at h
    | some k =>
      rw [hn] at h
      simp only [Option.bind_some] at h ⊢
      cases hh : w.heap[k]? with
      | none => rw [hh] at h; simp at h
      | some o =>
        rw [hb.block k (Array.getElem?_eq_some_iff.1 hh).1]
        rw [hh] at h ⊢
        exact h
  exact ⟨⟨a, b, e h1⟩, ⟨c, d, e h2⟩⟩
theorem atoiB (x : List UInt8) (w : World) (hx : x.length ≤ 10000000000) (hok : ErrsL w) :
    Calls Tryz.prog 76 #[.string ⟨x.toArray⟩] w fun e w' => RowKit.Below w.heap.size w w' ∧ ((∃ v, Lib.atoiAll x = .ok v ∧ e = .returned (.tuple #[.int .i64 v, .nilIface])) ∨ ((∀ v, Lib.atoiAll x ≠ .ok v) ∧ ∃ v T pe, e = .returned (.tuple #[.int .i64 v, .iface T pe]))) := by
  have hs : (⟨x.toArray⟩ : ByteArray).size = x.length := rfl
  cases ha : Lib.atoiAll x with
  | ok v =>
    refine (Tryz.strconv_Atoi_ok ⟨x.toArray⟩ (by omega) v ha w).mono ?_
    rintro e w' ⟨rfl, h⟩
    refine ⟨?_, Or.inl ⟨v, rfl, rfl⟩⟩
    rcases h with rfl | ⟨t, rfl⟩
    · exact RowKit.Below.refl _ _
    · exact Lib.bytesWorld_below _ _ _
  | «syntax» =>
    obtain ⟨tp, p, hv⟩ := hok.syn
    refine (Tryz.strconv_Atoi_syntax_var ⟨x.toArray⟩ (by omega) ha tp p w hv).mono ?_
    rintro e w' ⟨N, rfl, _, _, hb⟩
    exact ⟨hb, Or.inr ⟨fun v h => (by cases h), _, _, _, rfl⟩⟩
  | range =>
    obtain ⟨tp, p, hv⟩ := hok.rng
    refine (Tryz.strconv_Atoi_range_var ⟨x.toArray⟩ (by omega) ha tp p w hv).mono ?_
    rintro e w' ⟨N, rfl, _, _, hb⟩
    exact ⟨hb, Or.inr ⟨fun v h => (by cases h), _, _, _, rfl⟩⟩
/-- strconv's table and its two errors are laid -/
structure LaidN (w : World) : Prop where
  errs : ErrsL w
  tab : Lib.TabIs Tryz.prog w "internal/strconv.uint64pow10" .u64 Lib.pow10Tab
theorem LaidN.below {w w' : World} (h : LaidN w) (hb : RowKit.Below w.heap.size w w') : LaidN w' := by
  refine ⟨errs_below h.errs hb, ?_⟩
  have e : ∀ {name : String} {cs : Array Value}, w.var? Tryz.prog name = some cs → w'.var? Tryz.prog name = some cs := fun {name cs} h => by
    unfold World.var? at h ⊢
    cases hn : Tryz.prog.globalNamed name with
    | none => rw [hn] at h; simp at h
    | some k =>
      rw [hn] at h
      simp only [Option.bind_some] at h ⊢
      cases hh : w.heap[k]? with
      | none => rw [hh] at h; simp at h
      | some o =>
        rw [hb.block k (Array.getElem?_eq_some_iff.1 hh).1]
        rw [hh] at h ⊢
        exact h
  exact e h.tab
theorem below_grow (w : World) (k : Nat) (os : Array Obj) : RowKit.Below w.heap.size w (grow (w.drewN k) os) :=
  ⟨rfl, rfl, rfl, by show w.heap.size ≤ (w.heap ++ os).size; rw [Array.size_append]; omega, fun j hj => by show (w.heap ++ os)[j]? = _; exact Array.getElem?_append_left hj⟩
theorem itoaB (n : Int) (h0 : -9223372036854775808 ≤ n) (h1 : n ≤ 9223372036854775807) (w : World) (hok : LaidN w) :
    Calls Tryz.prog 100 #[.int .i64 n] w fun e w' => e = .returned (.string ⟨(Lib.itoa n).toArray⟩) ∧ RowKit.Below w.heap.size w w' := by
  refine (Tryz.strconv_Itoa n h0 h1 w hok.tab).mono ?_
  rintro e w' ⟨rfl, k, os, rfl⟩
  exact ⟨rfl, below_grow _ _ _⟩
end Go.Proofs.YtnphjdckdkjopaaGreatDoor
