/- code's reader: a set. -/
import Derived.Test.YtonmmnhikjfibadGreatDoorCodeReader
import Derived.Test.YtonmmnhikjfibadGreatDoorSetKeep
import Derived.Deep.AppendLies
import Derived.Maps.Range
namespace Go.Proofs.YtonmmnhikjfibadGreatDoor
open Go Go.RowKit Go.Proofs
set_option synthInstance.maxSize 1000

theorem loopS_step {n : Nat} {s : St} (h : s.1 = 0) : loopS (n + 1) s = ((tripS s).1 :: (loopS n (tripS s).2).1, (loopS n (tripS s).2).2) := if_pos h

/-- what is left of a loop -/
def LeftS (n : Nat) (R : List Tr × St) (t : List Tr) (s : St) : Prop := t.length ≤ n ∧ R = (t ++ (loopS (n - t.length) s).1, (loopS (n - t.length) s).2)
theorem LeftS.start (n : Nat) (s : St) : LeftS n (loopS n s) [] s := ⟨Nat.zero_le _, by simp⟩
theorem LeftS.step {n : Nat} {R : List Tr × St} {t : List Tr} {s : St} (h : LeftS n R t s) (h0 : s.1 = 0) (hl : t.length < n) : LeftS n R (t ++ [(tripS s).1]) (tripS s).2 := by
  refine ⟨by simp; omega, ?_⟩
  obtain ⟨_, e⟩ := h
  have e1 : n - t.length = (n - (t ++ [(tripS s).1]).length) + 1 := by simp; omega
  rw [e1, loopS_step h0] at e
  rw [e]
  simp
theorem LeftS.stop {n : Nat} {R : List Tr × St} {t : List Tr} {s : St} (h : LeftS n R t s) (hs : ¬ s.1 = 0 ∨ t.length = n) : R = (t, s) := by
  obtain ⟨_, e⟩ := h
  rcases hs with h0 | h0
  · rw [loopS_keep h0] at e
    simpa using e
  · rw [h0, Nat.sub_self] at e
    simpa [loopS] using e

theorem own_but {g : Nat} {w w' : World} {B : Nat} {v : Value} {t : List Tr} (h : w.ownsRow B 88 9 v t.length (cellsT t)) (k : But g w w') (hg : g < B) : w'.ownsRow B 88 9 v t.length (cellsT t) :=
  h.kept k (by
    cases hv : v.ownBlock with
    | none => exact Or.inl rfl
    | some q =>
      refine Or.inr (fun e => ?_)
      have := (h.lt q hv).1
      injection e with e
      omega)

theorem RdAt.grown {w w' : World} {g : Nat} {s : St} {row : Option Nat} (h : RdAt w g s) (k : w.grownBy w' row) (hg : some g ≠ row) : RdAt w' g s := by
  have hl := h.lt
  have c : ∀ j, w'.cell? ⟨g, j, none⟩ = w.cell? ⟨g, j, none⟩ := fun j => k.cell_far ⟨g, j, none⟩ hl hg
  have f : ∀ j, w'.frozen? ⟨g, j, none⟩ = w.frozen? ⟨g, j, none⟩ := fun j => k.frozen_far ⟨g, j, none⟩ hl hg
  unfold RdAt at h ⊢
  simp only [c, f]
  exact h

/-- a list that stays when the reader goes on -/
def Far (g : Nat) (w : World) (ad : Option Addr) (l : List Tr) : Prop := ∀ w', But g w w' → SlT w' ad l
theorem Far.sl {g : Nat} {w : World} {ad : Option Addr} {l : List Tr} (h : Far g w ad l) : SlT w ad l := h w (World.grownBy.refl _ _)
theorem Far.but {g : Nat} {w w' : World} {ad : Option Addr} {l : List Tr} (h : Far g w ad l) (k : But g w w') : Far g w' ad l := fun w2 k2 => h w2 (k.trans k2)
theorem Far.nil (g : Nat) (w : World) (ad : Option Addr) : Far g w ad [] := fun _ _ h => absurd rfl h
theorem Far.own {g : Nat} {w : World} {B : Nat} {ad : Option Addr} {c : Nat} {t : List Tr} (h : w.ownsRow B 88 9 (.slice ad t.length c) t.length (cellsT t)) (hg : g < B) : Far g w ad t := fun w' k => by
  obtain ⟨ad', c', e, hs⟩ := own_slT (own_but h k hg)
  injection e with e1 _ _
  rw [e1]
  exact hs

/-- what is answered of a list that is read -/
def RSetAns (g : Nat) (w : World) (R : List Tr × St) (e : Ending) (w' : World) : Prop := ∃ ad c, e = .returned (.slice ad R.1.length c) ∧ Far g w' ad R.1 ∧ RdAt w' g R.2 ∧ But g w w'
theorem RSetAns.mk {g : Nat} {w : World} {l : List Tr} {s : St} {w' : World} (ad : Option Addr) (c : Nat) (h1 : Far g w' ad l) (h2 : RdAt w' g s) (h3 : But g w w') : RSetAns g w (l, s) (.returned (.slice ad l.length c)) w' := ⟨ad, c, rfl, h1, h2, h3⟩
def sliceLen : Value → Nat
  | .slice _ n _ => n
  | _ => 0

set_option maxHeartbeats 8000000 in
set_option maxRecDepth 100000 in
theorem rset_any (g : Nat) (s : St) (w : World) (h : RdAt w g s) :
    Calls Tryz.prog 69 #[.pointer (some ⟨g, 0, none⟩)] w (RSetAns g w (setS s)) := by
  have HN := number_any g s 2 w h (by decide)
  have hg0 : g < w.heap.size := h.lt
  have hz : setS s = loopS (numL (takeS 2 s).1) (if 200 < numL (takeS 2 s).1 then endS 2 (takeS 2 s).2 else (takeS 2 s).2) := rfl
  have hsm : numL (takeS 2 s).1 < 65536 := by
    have hl := takeS_len 2 s
    match (takeS 2 s).1, hl with
    | [], _ => decide
    | [c], _ =>
      have := c.toNat_lt
      rw [numL_one]
      omega
    | [c, d], _ =>
      have := c.toNat_lt
      have := d.toNat_lt
      rw [numL_two]
      omega
  generalize setS s = R at *
  generalize numL (takeS 2 s).1 = n at *
  generalize (takeS 2 s).2 = s1 at *
  obtain ⟨i0, hi, hzz⟩ := Option.map_eq_some_iff.1 infoTr
  simp only [Prod.mk.injEq] at hzz
  obtain ⟨hz0, hz1, hz2⟩ := hzz
  have Hz : Hid (R = loopS n (if 200 < n then endS 2 s1 else s1)) := hz
  clear h hz
  go_enter Tryz.func69, Tryz.ntmps69
  go_wp2_with fail
  refine HN.mono ?_
  rintro e w1 ⟨rfl, hr1, hk1⟩
  clear HN
  by_cases hbig : 200 < n
  · have hz := Hz.out
    rw [if_pos hbig] at hz
    clear Hz
    have hne : ¬ (endS 2 s1).1 = 0 := endS_zero (by decide)
    rw [loopS_keep hne] at hz
    subst hz
    have hne' : ((endS 2 s1).1 == 0) = false := by simpa using hne
    go_wp2_with fail
    refine (end_any g s1 2 w1 hr1).mono ?_
    rintro e w2 ⟨rfl, hr2, hk2⟩
    have hB2 : Hid (But g w w2) := hk1.trans hk2
    have Hr2 : Hid (RdAt w2 g (endS 2 s1)) := hr2
    obtain ⟨c0, _, _, _⟩ := hr2
    generalize endS 2 s1 = s2 at *
    go_wp2_with fail
    go_loopw [4] (fun v wr => v = .slice none 0 0 ∧ wr = w2) (fun _ _ => 0)
    case atStart => exact ⟨rfl, rfl⟩
    case round =>
      obtain ⟨rfl, rfl⟩ := hrel
      have n0 : (0 : Int) < (n : Int) := by omega
      go_wp2_with fail
      exact bodyPost_ret (v := .slice none 0 0) (by simp [results, Tryz.results69, go_sem]) rfl (RSetAns.mk (l := []) none 0 (Far.nil _ _ _) Hr2.out hB2.out)
  · have hz := Hz.out
    rw [if_neg hbig] at hz
    clear Hz
    have hL0 : Hid (LeftS n R [] s1) := by show LeftS n R [] s1; rw [hz]; exact LeftS.start n s1
    clear hz
    go_wp2_with fail
    go_loopw [4] (fun v wr => ∃ (t : List Tr) (s2 : St), t.length ≤ n ∧ Hid (LeftS n R t s2) ∧ Hid (wr.ownsRow w.heap.size 88 9 v t.length (cellsT t)) ∧ RdAt wr g s2 ∧ Hid (But g w wr)) (fun v _ => n - sliceLen v)
    case atStart => exact ⟨[], s1, Nat.zero_le _, hL0, World.ownsRow_nil _ _ _ _, hr1, hk1⟩
    case round =>
      obtain ⟨t, s2, htn, hLe, hown, hr2, hB2⟩ := hrel
      obtain ⟨ad, cap, rfl, _⟩ := own_slT hown.out
      by_cases hlt : t.length < n
      · have i1 : (t.length : Int) < (n : Int) := by omega
        have hg2 := hr2.lt
        by_cases h0 : s2.1 = 0
        · have HT1 := fun W hW => rterm_any g s2 W hW
          have HT2 := fun W hW => rterm_any g (termS s2).2 W hW
          have HT3 := fun W hW => rterm_any g (termS (termS s2).2).2 W hW
          have hLe' : Hid (LeftS n R (t ++ [(tripS s2).1]) (tripS s2).2) := hLe.out.step h0 hlt
          have ey : Hid ((tripS s2).1 = ((termS s2).1, (termS (termS s2).2).1, (termS (termS (termS s2).2).2).1)) := rfl
          have es : Hid ((tripS s2).2 = (termS (termS (termS s2).2).2).2) := rfl
          have Hr2 : Hid (RdAt wr g s2) := hr2
          obtain ⟨c0, _, _, _⟩ := hr2
          rw [h0] at c0
          generalize hy1 : (termS s2).1 = y1 at *
          generalize hy2 : (termS (termS s2).2).1 = y2 at *
          generalize hy3 : (termS (termS (termS s2).2).2).1 = y3 at *
          generalize hq3 : (termS (termS (termS s2).2).2).2 = q3 at *
          generalize hq2 : (termS (termS s2).2).2 = q2 at *
          generalize hq1 : (termS s2).2 = q1 at *
          clear hy1 hy2 hy3 hq1 hq2 hq3 hLe hL0 hr1 hk1
          go_wp2_with fail
          refine (HT1 _ Hr2.out).mono ?_
          rintro e w2 ⟨rfl, hr3, hk2⟩
          go_wp2_with fail
          refine (HT2 _ hr3).mono ?_
          rintro e w3 ⟨rfl, hr4, hk3⟩
          go_wp2_with fail
          refine (HT3 _ hr4).mono ?_
          rintro e w4 ⟨rfl, hr5, hk4⟩
          have hB4 : Hid (But g w w4) := hB2.out.trans ((hk2.trans hk3).trans hk4)
          have ho4 : Hid (w4.ownsRow w.heap.size 88 9 (.slice ad t.length cap) t.length (cellsT t)) := own_but (own_but (own_but hown.out hk2 hg0) hk3 hg0) hk4 hg0
          have hr5' : Hid (RdAt w4 g q3) := hr5
          clear hk2 hk3 hk4 hr3 hr4 hr5 hown HT1 HT2 HT3
          go_wp2_with (at_builtin; refine wpList_append_own _ rfl _ _ 27 rfl w.heap.size 88 i0 (.agg (encTr zeroTr).toArray) 9 120 Tryz.underlying27 hi hz0 hz1 hz2 rfl (by decide) _ _ _ rfl (ho4.out.alloc _) ⟨w4.heap.size, 0, none⟩ 1 1 (encTr (y1, y2, y3)) rfl rfl ?c1 (encTr_one _) (by unfold maxLen; omega) (by omega) (by have := hB4.out.size; simp; omega) ?_)
          case c1 => exact World.news_of_block (cs := (encTr (y1, y2, y3)).toArray) (t := 88) (fr := (0, 0)) (heap_alloc_new w4 _)
          intro v5 w5 ho5 hg5 _
          have hB5 : Hid (But g w w5) := (hB4.out.trans (World.grownBy_alloc w4 _ (some g))).andThen hg5 (fun j hj => Or.inl (ho4.out.lt j hj).1)
          have hr6 : Hid (RdAt w5 g q3) := (hr5'.out.below (balloc _ _)).grown hg5 (fun e => by have := (ho4.out.lt g e.symm).1; omega)
          obtain ⟨ad5, cap5, rfl, _⟩ := own_slT (t := t ++ [(y1, y2, y3)]) (by rw [List.length_append]; simpa [cellsT] using ho5)
          have ho6 : Hid (w5.ownsRow w.heap.size 88 9 (.slice ad5 (t ++ [(y1, y2, y3)]).length cap5) (t ++ [(y1, y2, y3)]).length (cellsT (t ++ [(y1, y2, y3)]))) := by show World.ownsRow _ _ _ _ _ _ _; rw [show (t ++ [(y1, y2, y3)]).length = t.length + 1 by simp] at *; simpa [cellsT] using ho5
          clear ho5 hg5
          go_wp2_with fail
          go_roundw
          case rel =>
            refine ⟨t ++ [(y1, y2, y3)], q3, by simp; omega, ?_, ho6, hr6.out, hB5⟩
            rw [ey.out, es.out] at hLe'
            exact hLe'
          case measure => simp [sliceLen]; omega
        · have h0' : (s2.1 == 0) = false := by simpa using h0
          have hR : R = (t, s2) := hLe.out.stop (Or.inl h0)
          subst hR
          have Hr2 : Hid (RdAt wr g s2) := hr2
          have Hsl : Hid (Far g wr ad t) := Far.own hown.out hg0
          obtain ⟨c0, _, _, _⟩ := hr2
          clear hLe hL0 hr1 hk1 hown
          go_wp2_with fail
          exact bodyPost_ret (v := .slice ad t.length cap) (by simp [results, Tryz.results69, go_sem]) rfl (RSetAns.mk ad cap Hsl.out Hr2.out hB2.out)
      · have hR : R = (t, s2) := hLe.out.stop (Or.inr (by omega))
        subst hR
        have Hr2 : Hid (RdAt wr g s2) := hr2
        have Hsl : Hid (Far g wr ad t) := Far.own hown.out hg0
        have i1 : ¬ (t.length : Int) < (n : Int) := by omega
        clear hLe hL0 hr1 hk1 hown hr2
        go_wp2_with fail
        exact bodyPost_ret (v := .slice ad t.length cap) (by simp [results, Tryz.results69, go_sem]) rfl (RSetAns.mk ad cap Hsl.out Hr2.out hB2.out)
end Go.Proofs.YtonmmnhikjfibadGreatDoor
