/- stratalaw4's many: triples of one subject and one predicate, and what of them is together. -/
import Derived.Test.YtgdjeohcimkljadGreatDoorTextL
namespace Go.Proofs.YtgdjeohcimkljadGreatDoor
open Go Go.RowKit Go.Proofs
set_option synthInstance.maxSize 1000

def nameT (c : UInt8) : Tm := (1, [c], [])
def trI (s : UInt8) (i : Nat) : Tr := (nameT s, nameT 112, textT i)
def manyL (s : UInt8) (n : Nat) : List Tr := (List.range n).map (trI s)

theorem manyL_len (s : UInt8) (n : Nat) : (manyL s n).length = n := by simp [manyL]
theorem manyL_at (s : UInt8) (n i : Nat) (h : i < (manyL s n).length) : (manyL s n)[i] = trI s i := by simp [manyL]
theorem manyL_succ (s : UInt8) (n : Nat) : manyL s (n + 1) = manyL s n ++ [trI s n] := by simp [manyL, List.range_succ]

set_option maxRecDepth 100000 in
theorem chkS : ∀ i, i < 200 → chkTr (trI 115 i) = 0 := by decide +kernel
set_option maxRecDepth 100000 in
theorem chkU : ∀ i, i < 200 → chkTr (trI 116 i) = 0 := by decide +kernel
set_option maxRecDepth 100000 in
theorem stepS : ∀ i, i < 200 → cmpTr (trI 115 i) (trI 115 (i + 1)) < 0 := by decide +kernel
set_option maxRecDepth 100000 in
theorem stepU : ∀ i, i < 200 → cmpTr (trI 116 i) (trI 116 (i + 1)) < 0 := by decide +kernel

theorem many_set {s : UInt8} {n : Nat} (hn : n ≤ 200) (h1 : ∀ i, i < 200 → chkTr (trI s i) = 0) (h2 : ∀ i, i < 200 → cmpTr (trI s i) (trI s (i + 1)) < 0) : IsSet (manyL s n) := by
  refine ⟨by rw [manyL_len]; exact hn, fun x hx => ?_, rising_of_steps _ fun i h0 hi => ?_⟩
  · obtain ⟨i, hi, rfl⟩ := List.getElem_of_mem hx
    rw [manyL_at]
    rw [manyL_len] at hi
    exact h1 i (by omega)
  · rw [manyL_at, manyL_at]
    rw [manyL_len] at hi
    have := h2 (i - 1) (by omega)
    rwa [show i - 1 + 1 = i by omega] at this

theorem manyS {n : Nat} (hn : n ≤ 200) : IsSet (manyL 115 n) := many_set hn chkS stepS
theorem manyU {n : Nat} (hn : n ≤ 200) : IsSet (manyL 116 n) := many_set hn chkU stepU

theorem many_apart (a b : Nat) : lessL (manyL 116 b) (manyL 115 a) = manyL 116 b := by
  unfold lessL
  rw [List.filter_eq_self]
  intro x hx
  have : x ∉ manyL 115 a := fun hx' => by
    simp only [manyL, List.mem_map] at hx hx'
    obtain ⟨i, _, rfl⟩ := hx
    obtain ⟨j, _, e⟩ := hx'
    simp [trI, nameT] at e
  simpa using this

theorem many_join {a b : Nat} (ha : a ≤ 200) (hb : b ≤ 200) : joinN (manyL 115 a) (manyL 116 b) = if a + b ≤ 200 then 0 else 4 := by
  unfold joinN
  rw [if_pos (bothN_zero.2 ⟨manyS ha, manyU hb⟩), many_apart, manyL_len, manyL_len]

theorem many_join_len {a b : Nat} (ha : a ≤ 200) (hb : b ≤ 200) {m : List Tr} (h : JoinOf (manyL 115 a) (manyL 116 b) m) : m.length = a + b := by
  rw [h.len (manyS ha).2.2 (manyU hb).2.2, many_apart, manyL_len, manyL_len]

theorem textT_nodup {n : Nat} (hn : n ≤ 200) : ((List.range n).map textT).Nodup := by
  have h := rising_nodup (manyS hn).2.2
  have e : manyL 115 n = ((List.range n).map textT).map (fun x => ((nameT 115, nameT 112, x) : Tr)) := by
    simp [manyL, trI, Function.comp_def]
  rw [e] at h
  exact List.Pairwise.of_map _ (fun a b hne e => hne (by rw [e])) h

end Go.Proofs.YtgdjeohcimkljadGreatDoor
