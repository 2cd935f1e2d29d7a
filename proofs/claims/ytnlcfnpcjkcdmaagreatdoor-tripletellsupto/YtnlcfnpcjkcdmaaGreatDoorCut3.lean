/- cut: the texts of three terms. -/
import Derived.Test.YtnlcfnpcjkcdmaaGreatDoorCut
namespace Go.Proofs.YtnlcfnpcjkcdmaaGreatDoor
open Go Go.RowKit Go.Proofs

def cutL (l : List UInt8) : Option (List UInt8 × List UInt8 × List UInt8) := match cutW l with
  | none => none
  | some p => match cutW p.2 with
    | none => none
    | some q => some (p.1, q.1, q.2)

theorem cutW_len {l a r : List UInt8} (h : cutW l = some (a, r)) : l = a ++ 32 :: r := by
  unfold cutW at h
  by_cases hh : Lib.indexByte (l.drop (qEnd l)) 32 < 0
  · rw [if_pos hh] at h; simp at h
  · rw [if_neg hh] at h
    simp only [Option.some.injEq, Prod.mk.injEq] at h
    obtain ⟨rfl, rfl⟩ := h
    have key : ∀ (m : List UInt8), 0 ≤ Lib.indexByte m 32 → m = m.take (Lib.indexByte m 32).toNat ++ 32 :: m.drop ((Lib.indexByte m 32).toNat + 1) := by
      intro m
      induction m with
      | nil => intro h; simp [Lib.indexByte] at h
      | cons b r ih =>
        intro h
        by_cases hb : b = 32
        · subst hb; simp [Lib.indexByte]
        · have hb' : (b == 32) = false := by simpa using hb
          have e : Lib.indexByte (b :: r) 32 = if Lib.indexByte r 32 == -1 then -1 else Lib.indexByte r 32 + 1 := by
            rw [Lib.indexByte, hb']; rfl
          rw [e] at h ⊢
          by_cases hm : Lib.indexByte r 32 = -1
          · rw [hm] at h; simp at h
          · have hm' : (Lib.indexByte r 32 == -1) = false := by simpa using hm
            rw [hm'] at h ⊢
            simp only [Bool.false_eq_true, if_false] at h ⊢
            have hge := Lib.indexByte_ge r 32
            have := ih (by omega)
            rw [show (Lib.indexByte r 32 + 1).toNat = (Lib.indexByte r 32).toNat + 1 by omega]
            simp only [List.take_succ_cons, List.drop_succ_cons, List.cons_append]
            rw [← this]
    have hk := key (l.drop (qEnd l)) (by omega)
    generalize (Lib.indexByte (l.drop (qEnd l)) 32).toNat = n at hk ⊢
    calc l = l.take (qEnd l) ++ l.drop (qEnd l) := (List.take_append_drop _ _).symm
      _ = l.take (qEnd l) ++ ((l.drop (qEnd l)).take n ++ 32 :: (l.drop (qEnd l)).drop (n + 1)) := by rw [← hk]
      _ = l.take (qEnd l + n) ++ 32 :: l.drop (qEnd l + n + 1) := by
        rw [List.take_add, List.drop_drop, List.append_assoc, Nat.add_assoc]
theorem cutL_eq {l a b c : List UInt8} (h : cutL l = some (a, b, c)) : l = a ++ 32 :: b ++ 32 :: c := by
  unfold cutL at h
  cases h1 : cutW l with
  | none => rw [h1] at h; simp at h
  | some p =>
    rw [h1] at h
    simp only at h
    cases h2 : cutW p.2 with
    | none => rw [h2] at h; simp at h
    | some q =>
      rw [h2] at h
      simp only [Option.some.injEq, Prod.mk.injEq] at h
      obtain ⟨rfl, rfl, rfl⟩ := h
      rw [cutW_len (a := p.1) (r := p.2) h1, cutW_len (a := q.1) (r := q.2) h2]
      simp

set_option maxHeartbeats 1000000 in
theorem cut_none (l : List UInt8) (w : World) (hl : l.length ≤ 140737488355328) (h : cutL l = none) :
    Calls Tryz.prog 27 #[.string ⟨l.toArray⟩] w fun e w' => e = .returned (.tuple #[.agg #[.string ⟨#[]⟩, .string ⟨#[]⟩, .string ⟨#[]⟩], .bool false]) ∧ Below w.heap.size w w' := by
  cases h1 : cutW l with
  | none =>
    have H := fun W => cutWord_none l W hl h1
    go_enter Tryz.func27, Tryz.ntmps27
    go_wp2_with fail
    refine (H _).mono ?_
    rintro e w1 ⟨rfl, hb1⟩
    obtain ⟨kc, kf⟩ := bcell hb1
    have hz : w.heap.size < w1.heap.size := by have := hb1.size; simp at this; omega
    go_wp2_with fail
    exact bodyPost_ret (v := .tuple #[.agg #[.string ⟨#[]⟩, .string ⟨#[]⟩, .string ⟨#[]⟩], .bool false]) (by simp [results, Tryz.results27, go_sem, kc]) rfl ⟨rfl, bset3 (bstep (balloc _ _) hb1) _ _ _⟩
  | some p =>
    have h2 : cutW p.2 = none := by
      cases h2 : cutW p.2 with
      | none => rfl
      | some q => simp [cutL, h1, h2] at h
    have hlen := cutW_len (a := p.1) (r := p.2) h1
    have hl2 : p.2.length ≤ 140737488355328 := by rw [hlen] at hl; simp at hl; omega
    have H := fun W => cutWord_some l p.1 p.2 W hl h1
    have H2 := fun W => cutWord_none p.2 W hl2 h2
    clear h hlen hl hl2
    go_enter Tryz.func27, Tryz.ntmps27
    go_wp2_with fail
    refine (H _).mono ?_
    rintro e w1 ⟨rfl, hb1⟩
    go_wp2_with fail
    refine (H2 _).mono ?_
    rintro e w2 ⟨rfl, hb2⟩
    have hB := bstep hb1 hb2
    obtain ⟨kc, kf⟩ := bcell hB
    have hz : w.heap.size < w2.heap.size := by have := hB.size; simp at this; omega
    go_wp2_with fail
    exact bodyPost_ret (v := .tuple #[.agg #[.string ⟨#[]⟩, .string ⟨#[]⟩, .string ⟨#[]⟩], .bool false]) (by simp [results, Tryz.results27, go_sem, kc]) rfl ⟨rfl, bset3 (bstep (balloc _ _) hB) _ _ _⟩

set_option maxHeartbeats 1000000 in
theorem cut_some (l a b c : List UInt8) (w : World) (hl : l.length ≤ 140737488355328) (h : cutL l = some (a, b, c)) :
    Calls Tryz.prog 27 #[.string ⟨l.toArray⟩] w fun e w' => e = .returned (.tuple #[.agg #[.string ⟨a.toArray⟩, .string ⟨b.toArray⟩, .string ⟨c.toArray⟩], .bool true]) ∧ Below w.heap.size w w' := by
  cases h1 : cutW l with
  | none => simp [cutL, h1] at h
  | some p =>
    cases h2 : cutW p.2 with
    | none => simp [cutL, h1, h2] at h
    | some q =>
      simp only [cutL, h1, h2, Option.some.injEq, Prod.mk.injEq] at h
      obtain ⟨rfl, rfl, rfl⟩ := h
      have hlen := cutW_len (a := p.1) (r := p.2) h1
      have hl2 : p.2.length ≤ 140737488355328 := by rw [hlen] at hl; simp at hl; omega
      have H := fun W => cutWord_some l p.1 p.2 W hl h1
      have H2 := fun W => cutWord_some p.2 q.1 q.2 W hl2 h2
      clear hlen hl hl2
      go_enter Tryz.func27, Tryz.ntmps27
      go_wp2_with fail
      refine (H _).mono ?_
      rintro e w1 ⟨rfl, hb1⟩
      go_wp2_with fail
      refine (H2 _).mono ?_
      rintro e w2 ⟨rfl, hb2⟩
      have hB := bstep hb1 hb2
      obtain ⟨kc, kf⟩ := bcell hB
      have hz : w.heap.size < w2.heap.size := by have := hB.size; simp at this; omega
      go_wp2_with fail
      exact bodyPost_ret (v := .tuple #[.agg #[.string ⟨p.1.toArray⟩, .string ⟨q.1.toArray⟩, .string ⟨q.2.toArray⟩], .bool true]) (by simp [results, Tryz.results27, go_sem, kc]) rfl ⟨rfl, bset3 (bstep (balloc _ _) hB) _ _ _⟩
end Go.Proofs.YtnlcfnpcjkcdmaaGreatDoor
