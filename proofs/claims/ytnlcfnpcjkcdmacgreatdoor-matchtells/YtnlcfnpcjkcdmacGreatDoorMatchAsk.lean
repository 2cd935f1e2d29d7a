/- match.asker: the question whether a triple fits a pattern. -/
import Derived.Test.YtnlcfnpcjkcdmacGreatDoorMatchBind
import Derived.Test.YtnlcfnpcjkcdmacGreatDoorMatchVarsL
import Derived.Deep.RegionHeld3
import Derived.RegionTactic
namespace Go.Proofs.YtnlcfnpcjkcdmacGreatDoor
open Go Go.RowKit Go.Proofs Go.Maps
set_option synthInstance.maxSize 1000

/-! ### the question, slot by slot -/
def termK (t : Tr) (k : Nat) : Tm := if k = 0 then t.1 else if k = 1 then t.2.1 else t.2.2
def stepE (E : Env) (s : Sl) (x : Tm) : Env := if s.1 = [] then E else putE E s.1 x
def wantE (E : Env) (s : Sl) (x : Tm) : Tm := if s.1 = [] then s.2 else getE E s.1 x
def envK (p : Pt) (t : Tr) : Nat → Env
  | 0 => []
  | k + 1 => stepE (envK p t k) (slotK p k) (termK t k)
def fitK (p : Pt) (t : Tr) (k : Nat) : Bool := decide (termK t k = wantE (envK p t k) (slotK p k) (termK t k))
def restF (p : Pt) (t : Tr) (k : Nat) : Bool := if k = 0 then fitK p t 0 && (fitK p t 1 && fitK p t 2) else if k = 1 then fitK p t 1 && fitK p t 2 else if k = 2 then fitK p t 2 else true
theorem restF_step (p : Pt) (t : Tr) (k : Nat) (hk : k < 3) : restF p t k = (fitK p t k && restF p t (k + 1)) := by
  rcases (by omega : k = 0 ∨ k = 1 ∨ k = 2) with rfl | rfl | rfl <;> simp [restF]
theorem putE_len (E : Env) (v : List UInt8) (x : Tm) : (putE E v x).length ≤ E.length + 1 := by
  unfold putE
  split <;> simp
theorem envK_len (p : Pt) (t : Tr) : ∀ k, (envK p t k).length ≤ k
  | 0 => by simp [envK]
  | k + 1 => by
    have := envK_len p t k
    have h2 := putE_len (envK p t k) (slotK p k).1 (termK t k)
    unfold envK stepE
    split <;> omega

theorem fits_env (p : Pt) (t : Tr) : restF p t 0 = fitsB p t := by
  obtain ⟨⟨v0, a0⟩, ⟨v1, a1⟩, ⟨v2, a2⟩⟩ := p
  obtain ⟨x0, x1, x2⟩ := t
  have l1 : ∀ (a b : List UInt8) (x : Tm), lookE [(b, x)] a = if a = b then some x else none := fun a b x => by
    unfold lookE
    simp only [List.lookup]
    by_cases e : a = b
    · subst e; simp
    · rw [if_neg e, show (a == b) = false by simpa using e]
  have l2 : ∀ (a b c : List UInt8) (x y : Tm), lookE [(b, x), (c, y)] a = if a = b then some x else if a = c then some y else none := fun a b c x y => by
    unfold lookE
    simp only [List.lookup]
    by_cases e : a = b
    · subst e; simp
    · rw [if_neg e, show (a == b) = false by simpa using e]
      by_cases e2 : a = c
      · subst e2; simp
      · rw [if_neg e2, show (a == c) = false by simpa using e2]
  have l0 : ∀ a : List UInt8, lookE [] a = none := fun a => rfl
  simp only [restF, fitK, envK, slotK, termK, fitsB, wantE, stepE, getE, putE, if_true]
  by_cases h0 : v0 = []
  · subst h0
    by_cases h1 : v1 = []
    · subst h1
      by_cases h2 : v2 = []
      · subst h2; simp
      · simp [h2, l0]
    · by_cases h2 : v2 = []
      · subst h2; simp [h1, l0]
      · by_cases e : v2 = v1
        · subst e; simp [h1, l0, l1]
        · simp [h1, h2, e, l0, l1]
  · by_cases h1 : v1 = []
    · subst h1
      by_cases h2 : v2 = []
      · subst h2; simp [h0, l0]
      · by_cases e : v2 = v0
        · subst e; simp [h0, l0, l1]
        · simp [h0, h2, e, l0, l1]
    · by_cases e1 : v1 = v0
      · subst e1
        by_cases h2 : v2 = []
        · subst h2; simp [h1, l0, l1]
        · by_cases e : v2 = v1
          · subst e; simp [h1, l0, l1]
          · simp [h1, h2, e, l0, l1]
      · by_cases h2 : v2 = []
        · subst h2; simp [h0, h1, e1, l0, l1]
        · by_cases e : v2 = v0
          · subst e; simp [h0, h1, e1, l0, l1, l2]
          · by_cases e2 : v2 = v1
            · subst e2; simp [h0, h1, e1, l0, l1, l2]
            · simp [h0, h1, h2, e, e1, e2, l0, l1, l2]
end Go.Proofs.YtnlcfnpcjkcdmacGreatDoor
