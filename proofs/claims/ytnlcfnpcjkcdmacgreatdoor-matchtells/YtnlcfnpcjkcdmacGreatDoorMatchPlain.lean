/- Patterns in plain words: what is wrong with one, which variables it has, and whether a triple fits. -/
import Derived.Test.YtnlcfnpcjkcdmacGreatDoorTripleFault
import Derived.Shelf.GgClosure.StringsIndexFunc
import Derived.Laws.RangeString
import Derived.Laws.RangeAny
namespace Go.Proofs.YtnlcfnpcjkcdmacGreatDoor
open Go Go.RowKit Go.Proofs
set_option synthInstance.maxSize 1000

/-- a slot: its variable, its term; a pattern: three slots -/
abbrev Sl := List UInt8 × Tm
abbrev Pt := Sl × Sl × Sl
def tmZero : Tm := (0, [], [])
def tmChk (x : Tm) : Int := checkN x.1 x.2.1 x.2.2

/-- is a text that is not empty a variable? -/
def spellV (v : List UInt8) : Bool := decide (v.length ≤ 10) && allB letB v
/-- what is wrong with a slot; with a pattern -/
def slotN (s : Sl) : Int := if s.1 = [] then tmChk s.2 else if spellV s.1 = false then 2 else if s.2 = tmZero then 0 else 3
def varsN (p : Pt) : Int := if slotN p.1 = 0 then (if slotN p.2.1 = 0 then slotN p.2.2 else slotN p.2.1) else slotN p.1
/-- a pattern's variables, each once -/
def addV (l : List (List UInt8)) (s : Sl) : List (List UInt8) := if s.1 = [] then l else if s.1 ∈ l then l else l ++ [s.1]
def varsL (p : Pt) : List (List UInt8) := addV (addV (addV [] p.1) p.2.1) p.2.2

/-- does a triple fit? -/
def fitsB (p : Pt) (t : Tr) : Bool :=
  (if p.1.1 = [] then decide (t.1 = p.1.2) else true) &&
  ((if p.2.1.1 = [] then decide (t.2.1 = p.2.1.2) else if p.2.1.1 = p.1.1 then decide (t.2.1 = t.1) else true) &&
  (if p.2.2.1 = [] then decide (t.2.2 = p.2.2.2) else if p.2.2.1 = p.1.1 then decide (t.2.2 = t.1) else if p.2.2.1 = p.2.1.1 then decide (t.2.2 = t.2.1) else true))

/-- a rune that is no letter a to z -/
def offR (r : Nat) : Bool := decide (r < 97) || decide (122 < r)

theorem idx_off (s : ByteArray) : ∀ (f pos : Nat), s.size ≤ pos + f → (0 ≤ Lib.idxFuncFrom offR true s f pos ↔ ∃ k, ∃ h : k < s.size, pos ≤ k ∧ letB (s[k].toNat : Int) = false)
  | 0, pos, hf => by
    simp only [Lib.idxFuncFrom]
    constructor
    · intro h; omega
    · rintro ⟨k, h, hk, _⟩; omega
  | f + 1, pos, hf => by
    unfold Lib.idxFuncFrom
    by_cases hp : pos < s.size
    · rw [if_pos hp]
      by_cases hb : s[pos].toNat < 128
      · rw [decode_ascii s pos hp hb]
        simp only
        by_cases ho : offR s[pos].toNat = true
        · rw [if_pos ho]
          refine ⟨fun _ => ⟨pos, hp, Nat.le_refl _, ?_⟩, fun _ => by omega⟩
          simp [offR] at ho
          simp [letB]; omega
        · rw [if_neg ho, idx_off s f (pos + 1) (by omega)]
          constructor
          · rintro ⟨k, h, hk, e⟩; exact ⟨k, h, by omega, e⟩
          · rintro ⟨k, h, hk, e⟩
            refine ⟨k, h, ?_, e⟩
            rcases Nat.lt_or_ge pos k with hlt | hge
            · omega
            · have hkp : k = pos := by omega
              subst hkp
              simp [offR] at ho
              simp [letB] at e
              omega
      · have hh := (decode_high s pos hp (by omega)).1
        have ho : offR (Utf8.decode s pos).1 = true := by simp [offR]; omega
        rw [if_pos ho]
        refine ⟨fun _ => ⟨pos, hp, Nat.le_refl _, ?_⟩, fun _ => by omega⟩
        simp [letB]; omega
    · rw [if_neg hp]
      constructor
      · intro h; omega
      · rintro ⟨k, h, hk, _⟩; omega

theorem offAny (s : ByteArray) : decide (0 ≤ Lib.idxFunc offR true s) = !allB letB s.data.toList := by
  have h := idx_off s s.size 0 (by omega)
  have e : (∃ k, ∃ h : k < s.size, 0 ≤ k ∧ letB (s[k].toNat : Int) = false) ↔ allB letB s.data.toList = false := by
    unfold allB
    rw [List.all_eq_false]
    constructor
    · rintro ⟨k, hk, _, e⟩
      exact ⟨s.data.toList[k]'(by simpa using hk), List.getElem_mem _, by rw [show s.data.toList[k]'(by simpa using hk) = s[k] from rfl, e]; simp⟩
    · rintro ⟨x, hx, e⟩
      obtain ⟨k, hk, rfl⟩ := List.getElem_of_mem hx
      have hk' : k < s.size := by simpa using hk
      exact ⟨k, hk', Nat.zero_le _, by rw [show s[k] = s.data.toList[k] from rfl]; simpa using e⟩
  unfold Lib.idxFunc
  cases ha : allB letB s.data.toList
  · simpa using h.2 (e.2 ha)
  · have : ¬ (0 ≤ Lib.idxFuncFrom offR true s s.size 0) := fun h0 => by
      have := e.1 (h.1 h0)
      rw [ha] at this
      cases this
    simp [this]
end Go.Proofs.YtnlcfnpcjkcdmacGreatDoor
