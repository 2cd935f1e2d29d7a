/- A map whose keys are terms: what a term reads as, and which terms are in it. -/
import Derived.Test.YtkeholipklfnbabGreatDoorSetMap
import Derived.Test.YtkeholipklfnbabGreatDoorTripleArgs
namespace Go.Proofs.YtkeholipklfnbabGreatDoor
open Go Go.RowKit Go.Proofs Go.Maps
set_option synthInstance.maxSize 1000

theorem rowTm : (24 : TypeId) < Tryz.prog.types.size := of_decide_eq_true (by kernel_rfl)
theorem wideTm : (match Tryz.prog.underlying 24 with | some (.array _ _) | some (.struct _) => true | _ => false) = true := by kernel_rfl
set_option maxRecDepth 100000 in
theorem keyedTm : Keyed Tryz.prog 24 := Keyed.of_law (deep_law_laid laidOutP (m := 4) (by omega) rowTm (by kernel_rfl) wideTm)
theorem keyTypeTm : Tryz.prog.keyType 24 = true := by kernel_rfl

def valTm (x : Tm) : Value := .agg #[.int .i64 x.1, .string ⟨x.2.1.toArray⟩, .string ⟨x.2.2.toArray⟩]
def litsTm (x : Tm) : List Lit := [.int .i64 x.1, .string x.2.1, .string x.2.2]
def keyTm (x : Tm) : Lit := .string (keyBytes (litsTm x))
def wfTm (x : Tm) : Prop := (Lit.int .i64 x.1).wf = true ∧ x.2.1.length ≤ maxLen ∧ x.2.2.length ≤ maxLen

theorem keyOf_tm (x : Tm) (h : wfTm x) : keyOf Tryz.prog 24 (valTm x) = some (keyTm x) := by
  have hl := keyLits_term (Tryz.prog.types.size - 1) x.1 x.2.1 x.2.2 h.1 h.2.1 h.2.2
  have hsz : Tryz.prog.types.size - 1 + 2 = Tryz.prog.types.size + 1 := by
    have : 2 ≤ Tryz.prog.types.size := of_decide_eq_true (by kernel_rfl)
    omega
  rw [hsz] at hl
  have hf : (valTm x).formed Tryz.prog 24 = true := by
    simp [Value.formed, Tryz.underlying24, cellsOfTm, valTm]
  unfold keyOf
  rw [Tryz.underlying24]
  simp only [keyTypeTm, hf, Bool.and_self, if_true]
  have hc : (valTm x).cells.toList = [.int .i64 x.1, .string ⟨x.2.1.toArray⟩, .string ⟨x.2.2.toArray⟩] := rfl
  rw [hc, hl]
  rfl

set_option maxRecDepth 100000 in
theorem keyInt_inv {d : Nat} {a : Value} {ls : List Lit} (h : Tryz.prog.keyLits (d + 1) 3 [a] = some ls) : ∃ n, a = .int .i64 n ∧ (Lit.int .i64 n).wf = true ∧ ls = [.int .i64 n] := by
  unfold Program.keyLits at h
  rw [Tryz.underlying3] at h
  cases a <;> simp at h
  obtain ⟨⟨rfl, hw⟩, rfl⟩ := h
  exact ⟨_, rfl, hw, rfl⟩
set_option maxRecDepth 100000 in
theorem keyStr_inv {d : Nat} {a : Value} {ls : List Lit} (h : Tryz.prog.keyLits (d + 1) 9 [a] = some ls) : ∃ s : List UInt8, a = .string ⟨s.toArray⟩ ∧ s.length ≤ maxLen ∧ ls = [.string s] := by
  unfold Program.keyLits at h
  rw [Tryz.underlying9] at h
  cases a <;> simp at h
  obtain ⟨hw, rfl⟩ := h
  exact ⟨_, rfl, by simpa using hw, rfl⟩

set_option maxRecDepth 100000 in
theorem keyOf_tm_inv {v : Value} {kl : Lit} (h : keyOf Tryz.prog 24 v = some kl) : ∃ x : Tm, v = valTm x ∧ kl = keyTm x ∧ wfTm x := by
  unfold keyOf at h
  rw [Tryz.underlying24] at h
  simp only [keyTypeTm, Bool.true_and] at h
  cases hf : v.formed Tryz.prog 24
  · simp [hf] at h
  · simp only [hf, if_true] at h
    cases v <;> simp [Value.formed, Tryz.underlying24, cellsOfTm] at hf
    rename_i cs
    obtain ⟨l, rfl⟩ : ∃ l : List Value, cs = l.toArray := ⟨cs.toList, by simp⟩
    match l, hf with
    | [a, b, c], _ =>
      have hsz : Tryz.prog.types.size + 1 = Tryz.prog.types.size - 1 + 2 := by
        have : 2 ≤ Tryz.prog.types.size := of_decide_eq_true (by kernel_rfl)
        omega
      rw [hsz] at h
      have hc : (Value.agg [a, b, c].toArray).cells.toList = [a, b, c] := rfl
      rw [hc] at h
      generalize Tryz.prog.types.size - 1 = d at h
      unfold Program.keyLits at h
      simp only [Tryz.underlying24, cellsOfTm] at h
      cases h1 : Tryz.prog.keyLits (d + 1) 3 [a] with
      | none => simp [cellsOfInt, cellsOfStr, h1] at h
      | some l1 =>
        cases h2 : Tryz.prog.keyLits (d + 1) 9 [b] with
        | none => simp [cellsOfInt, cellsOfStr, h1, h2] at h
        | some l2 =>
          cases h3 : Tryz.prog.keyLits (d + 1) 9 [c] with
          | none => simp [cellsOfInt, cellsOfStr, h1, h2, h3] at h
          | some l3 =>
            simp [cellsOfInt, cellsOfStr, h1, h2, h3] at h
            obtain ⟨n, rfl, hn, rfl⟩ := keyInt_inv h1
            obtain ⟨s, rfl, hs, rfl⟩ := keyStr_inv h2
            obtain ⟨t, rfl, ht, rfl⟩ := keyStr_inv h3
            exact ⟨(n, s, t), rfl, h.symm, hn, hs, ht⟩

theorem valTm_inj {x y : Tm} (h : valTm x = valTm y) : x = y := by
  obtain ⟨a1, a2, a3⟩ := x
  obtain ⟨b1, b2, b3⟩ := y
  simp only [valTm, Value.agg.injEq, Array.mk.injEq, List.cons.injEq, Value.int.injEq, Value.string.injEq, true_and, and_true] at h
  obtain ⟨h1, h2, h3⟩ := h
  rw [h1, list_of_array h2, list_of_array h3]

theorem keyTm_inj {x y : Tm} (hx : wfTm x) (hy : wfTm y) (e : keyTm x = keyTm y) : x = y := by
  have h1 := keyOf_tm x hx
  have h2 := keyOf_tm y hy
  rw [e] at h1
  exact valTm_inj (keyedTm.inj h1 h2)

theorem sameTm_self (x : Tm) : (keyTm x).sameKey (keyTm x) = true := by
  simp [keyTm, Lit.sameKey]
theorem sameTm_ne {x y : Tm} (h : keyTm x ≠ keyTm y) : (keyTm x).sameKey (keyTm y) = false := by
  have h' : keyBytes (litsTm x) ≠ keyBytes (litsTm y) := fun e => h (by simp [keyTm, e])
  simpa [keyTm, Lit.sameKey] using h'

/-- what has come of a map's keys -/
def CollT {H : Type} (D0 : DataW H) (left : Lit → Bool) (ss : List Tm) : Prop :=
  ss.Nodup ∧ (∀ x ∈ ss, wfTm x) ∧ ∀ x, wfTm x → (x ∈ ss ↔ (Maps.has D0 (keyTm x) = true ∧ left (keyTm x) = false))

theorem CollT.start {H : Type} (D0 : DataW H) : CollT D0 (Maps.has D0) [] := ⟨List.nodup_nil, by simp, fun x _ => by cases Maps.has D0 (keyTm x) <;> simp⟩

theorem CollT.step {H : Type} {D0 : DataW H} {left : Lit → Bool} {ss : List Tm} (h : CollT D0 left ss) {x : Tm} {y : DataW H} (hx : wfTm x) (hlk : left (keyTm x) = true) (hat : ∀ zd, D0.atKey (keyTm x) zd = y) :
    CollT D0 (fun z => left z && !z.sameKey (keyTm x)) (ss ++ [x]) := by
  have hhas : Maps.has D0 (keyTm x) = true := has_true_of_atKey hat
  have hnew : x ∉ ss := fun hm => by have := ((h.2.2 x hx).1 hm).2; rw [hlk] at this; cases this
  refine ⟨List.nodup_append.2 ⟨h.1, by simp, fun a ha b hb => by simp at hb; subst hb; exact fun e => hnew (e ▸ ha)⟩, fun z hz => ?_, fun z hz => ?_⟩
  · rcases List.mem_append.1 hz with hz | hz
    · exact h.2.1 z hz
    · simp at hz; subst hz; exact hx
  · by_cases e : z = x
    · subst e; simp [hhas, sameTm_self]
    · have : keyTm z ≠ keyTm x := fun e' => e (keyTm_inj hz hx e')
      simp [h.2.2 z hz, e, sameTm_ne this]

/-- the map at a block holds just these terms -/
def InMapT (w : World) (b n : Nat) (l : List Tm) : Prop :=
  ∃ D : DataW Unit, w.ownsMap Tryz.prog 24 unitElem b n D ∧ ∀ x, wfTm x → Maps.has D (keyTm x) = decide (x ∈ l)

theorem inMapT_made (w : World) : InMapT (w.alloc (.map #[] 0)) w.heap.size 0 [] :=
  ⟨.map [], World.ownsMap_made _ _ _ _, fun x _ => by simp [Maps.has_eq]⟩

theorem InMapT.below {w w' : World} {b n : Nat} {l : List Tm} (h : InMapT w b n l) (hb : RowKit.Below w.heap.size w w') : InMapT w' b n l := by
  obtain ⟨D, ⟨es, clock, hm, r⟩, hD⟩ := h
  have hlt : b < w.heap.size := (Array.getElem?_eq_some_iff.1 hm).1
  exact ⟨D, ⟨es, clock, (hb.block b hlt).trans hm, r⟩, hD⟩

theorem has_putT {D : DataW Unit} {l : List Tm} {y : Tm} (hm : IsMap D) (hy : wfTm y) (hD : ∀ x, wfTm x → Maps.has D (keyTm x) = decide (x ∈ l)) (d : DataW Unit) :
    ∀ x, wfTm x → Maps.has (D.put (keyTm y) d) (keyTm x) = decide (x ∈ l ++ [y]) := fun x hx => by
  by_cases e : x = y
  · subst e
    rw [Maps.has_put_same hm (keyedTm.key (keyOf_tm x hx))]
    simp
  · rw [Maps.has_put_other (fun e' => e (keyTm_inj hx hy e')), hD x hx]
    simp [e]
end Go.Proofs.YtkeholipklfnbabGreatDoor
