/- Who is above is above: what DagHolds and DagLine ask, in plain words. -/
import Derived.Test.YtackdedbphfaeafDagFace
namespace Go.Proofs.Ytackdedbphfaeaf
open Go Go.RowKit Go.Proofs
set_option synthInstance.maxSize 1000

theorem Up.trans {l : List Cm} {i c k : Nat} (h : Up l i c) (h2 : Up l c k) : Up l i k := fun S h1 hS => h2 S (h S h1 hS) hS
/-- a commit's ancestors are itself and its parents' -/
theorem up_split {l : List Cm} {i k : Nat} : Up l i k ↔ k = i ∨ ∃ p : Nat, (p : Int) ∈ parsOf l i ∧ Up l p k := by
  constructor
  · intro h
    refine h (fun k => k = i ∨ ∃ p : Nat, (p : Int) ∈ parsOf l i ∧ Up l p k) (Or.inl rfl) ?_
    rintro c p (rfl | ⟨q, hq, hu⟩) hp
    · exact Or.inr ⟨p, hp, Up.refl l p⟩
    · exact Or.inr ⟨q, hq, hu.step hp⟩
  · rintro (rfl | ⟨p, hp, hu⟩)
    · exact Up.refl l _
    · exact ((Up.refl l i).step hp).trans hu
theorem isBase_turn {l : List Cm} {a b z : Nat} : isBase l a b z ↔ isBase l b a z :=
  ⟨fun ⟨h1, h2, h3⟩ => ⟨h2, h1, fun c q1 q2 => h3 c q2 q1⟩, fun ⟨h1, h2, h3⟩ => ⟨h2, h1, fun c q1 q2 => h3 c q2 q1⟩⟩
theorem base_turn {l : List Cm} {a b : Nat} {m q : List Nat} (h : baseP l a b m) (k : baseP l b a q) : q = m :=
  rise_unique k.1 h.1 fun z => ((k.2 z).trans isBase_turn).trans (h.2 z).symm
/-- of two bases none is above the other one -/
theorem base_apart {l : List Cm} {a b : Nat} {m : List Nat} (h : baseP l a b m) {y z : Nat} (hy : y ∈ m) (hz : z ∈ m) : Up l z y ↔ y = z := by
  constructor
  · intro hu
    refine Classical.byContradiction fun hne => ?_
    obtain ⟨_, _, h3⟩ := (h.2 y).1 hy
    obtain ⟨k1, k2, _⟩ := (h.2 z).1 hz
    exact h3 z k1 k2 (fun e => hne e.symm) hu
  · rintro rfl
    exact Up.refl l y
theorem rise_single {m : List Nat} {a : Nat} (hm : RiseN m) (h : ∀ z, z ∈ m ↔ z = a) : m = [a] :=
  rise_unique hm (by simp [RiseN]) fun z => by rw [h z]; simp
/-- of two on one line the elder one is the base -/
theorem base_line {l : List Cm} {a b : Nat} {m : List Nat} (hG : GoodC l) (ha : a < l.length) (h : baseP l a b m) (hu : Up l b a) : m = [a] := by
  refine rise_single h.1 fun z => ?_
  rw [h.2 z]
  constructor
  · rintro ⟨h1, h2, h3⟩
    refine Classical.byContradiction fun hne => ?_
    exact h3 a (Up.refl l a) hu (fun e => hne e.symm) h1
  · rintro rfl
    refine ⟨Up.refl l _, hu, fun c h1 _ hne hu2 => ?_⟩
    have q1 := up_le hG ha h1
    have q2 := up_le hG q1.2 hu2
    omega
theorem base_in {l : List Cm} {a b : Nat} {m : List Nat} (hG : GoodC l) (ha : a < l.length) (h : baseP l a b m) {z : Nat} (hz : z ∈ m) : z < l.length ∧ Up l a z ∧ Up l b z := by
  obtain ⟨h1, h2, _⟩ := (h.2 z).1 hz
  exact ⟨(up_le hG ha h1).2, h1, h2⟩
/-- three commits: two of one -/
def onesC : List Cm := [([], 1, []), ([0], 1, []), ([0], 1, [])]
theorem ones_coms : comsN onesC = (0, 0) := by decide
theorem ones_good : GoodC onesC := coms_good.1 (by rw [ones_coms])
theorem ones_up {i k : Nat} (hi : i = 1 ∨ i = 2) : Up onesC i k ↔ k = i ∨ k = 0 := by
  rw [up_split]
  constructor
  · rintro (rfl | ⟨p, hp, hu⟩)
    · exact Or.inl rfl
    · have h0 : p = 0 := by
        rcases hi with rfl | rfl
        · simp [parsOf, onesC] at hp; omega
        · simp [parsOf, onesC] at hp; omega
      subst h0
      exact Or.inr (by have := up_le ones_good (i := 0) (by decide) hu; omega)
  · rintro (rfl | rfl)
    · exact Or.inl rfl
    · refine Or.inr ⟨0, ?_, Up.refl _ _⟩
      rcases hi with rfl | rfl <;> simp [parsOf, onesC]
theorem ones_base {m : List Nat} (h : baseP onesC 1 2 m) : m = [0] := by
  refine rise_single h.1 fun z => ?_
  rw [h.2 z]
  constructor
  · rintro ⟨h1, h2, _⟩
    rw [ones_up (Or.inl rfl)] at h1
    rw [ones_up (Or.inr rfl)] at h2
    omega
  · rintro rfl
    refine ⟨(ones_up (Or.inl rfl)).2 (Or.inr rfl), (ones_up (Or.inr rfl)).2 (Or.inr rfl), fun c h1 h2 hne hu => ?_⟩
    rw [ones_up (Or.inl rfl)] at h1
    rw [ones_up (Or.inr rfl)] at h2
    omega
end Go.Proofs.Ytackdedbphfaeaf
