/- StoreFull in plain words: texts of one length, each another one; how many of them there is room for. -/
import Derived.Test.YtpdieckoemfebaeDoorStorePlain
namespace Go.Proofs.YtpdieckoemfebaeDoor
open Go Go.RowKit Go.Proofs
set_option synthInstance.maxSize 1000

def letO (n : Nat) : UInt8 := UInt8.ofNat (97 + n)
def padT (s i : Nat) : List UInt8 := [letO (i / 26 % 26), letO (i % 26)] ++ List.replicate (s - 2) 120
theorem padT_len {s : Nat} (h : 2 ≤ s) (i : Nat) : (padT s i).length = s := by simp [padT]; omega
theorem letO_inj {a b : Nat} (ha : a < 26) (hb : b < 26) (h : letO a = letO b) : a = b := by
  have h' := congrArg UInt8.toNat h
  simp only [letO, UInt8.toNat_ofNat'] at h'
  omega
theorem padT_inj {s i j : Nat} (hi : i < 676) (hj : j < 676) (h : padT s i = padT s j) : i = j := by
  simp only [padT, List.cons_append, List.nil_append, List.cons.injEq] at h
  have h1 := letO_inj (by omega) (by omega) h.1
  have h2 := letO_inj (by omega) (by omega) h.2.1
  omega
def capN (s : Nat) : Nat := min 300 (60000 / s)
def fullL (s i : Nat) : List Ob := (List.range (min i (capN s))).map fun j => (j + 1, padT s j)
theorem fullL_len (s i : Nat) : (fullL s i).length = min i (capN s) := by simp [fullL]
theorem sizeO_map {s : Nat} (h : 2 ≤ s) (k : Nat) : sizeO ((List.range k).map fun j => ((j + 1, padT s j) : Ob)) = k * s := by
  induction k with
  | zero => simp [sizeO]
  | succ k ih =>
    rw [List.range_succ, List.map_append, sizeO_app, ih]
    simp [sizeO, padT_len h]
    rw [Nat.add_mul]
    omega
theorem fullL_size {s : Nat} (h : 2 ≤ s) (i : Nat) : sizeO (fullL s i) = min i (capN s) * s := sizeO_map h _
theorem cap_fits {s i : Nat} (h : 2 ≤ s) : i < capN s ↔ i < 300 ∧ (i + 1) * s ≤ 60000 := by
  unfold capN
  rw [← Nat.le_div_iff_mul_le (by omega)]
  omega
theorem fullL_find {s i : Nat} (hi : i < 676) : findO (fullL s i) (padT s i) = 0 := by
  refine findO_none fun x hx => ?_
  obtain ⟨j, hj, rfl⟩ := List.mem_map.1 hx
  have hj' : j < min i (capN s) := by simpa using hj
  intro e
  have := padT_inj (by omega) hi e
  omega
theorem fullL_found {s i : Nat} (hi : i < capN s) (h6 : i < 676) : findO (fullL s (i + 1)) (padT s i) = i + 1 := by
  have hm : min (i + 1) (capN s) = i + 1 := by omega
  have hlen : i < (fullL s (i + 1)).length := by rw [fullL_len]; omega
  have hget : (fullL s (i + 1))[i] = (i + 1, padT s i) := by simp [fullL]
  have := findO_at (b := padT s i) hlen (fun x hx => ?_) (by rw [hget])
  · rw [this, hget]
  · have hx' : x ∈ fullL s i := by
      have e : (fullL s (i + 1)).take i = fullL s i := by
        unfold fullL
        rw [hm, show min i (capN s) = i by omega, ← List.map_take]
        congr 1
        rw [List.take_range]
        congr 1
        omega
      rw [e] at hx
      exact hx
    obtain ⟨j, hj, rfl⟩ := List.mem_map.1 hx'
    have hj' : j < min i (capN s) := by simpa using hj
    intro e
    have := padT_inj (by omega) h6 e
    omega
theorem fullL_next {s i : Nat} (hi : i < capN s) : fullL s (i + 1) = fullL s i ++ [(i + 1, padT s i)] := by
  unfold fullL
  rw [show min (i + 1) (capN s) = i + 1 by omega, show min i (capN s) = i by omega, List.range_succ, List.map_append]
  rfl
theorem fullL_stay {s i : Nat} (hi : ¬ i < capN s) : fullL s (i + 1) = fullL s i := by
  unfold fullL
  rw [show min (i + 1) (capN s) = min i (capN s) by omega]
theorem fullO_no {s i : Nat} (h : 2 ≤ s) (h9 : s ≤ 1000) (hi : i < capN s) : fullO (fullL s i) (padT s i) = false := by
  obtain ⟨h1, h2⟩ := (cap_fits h).1 hi
  have h3 := fullL_size h i
  have h4 := fullL_len s i
  rw [show min i (capN s) = i by omega] at h3 h4
  rw [Nat.add_mul] at h2
  unfold fullO
  rw [padT_len h, h3, h4, wr64_id (by omega) (by omega)]
  simp
  omega
theorem fullO_yes {s i : Nat} (h : 2 ≤ s) (h9 : s ≤ 1000) (hi : ¬ i < capN s) : fullO (fullL s i) (padT s i) = true := by
  have h3 := fullL_size h i
  have h4 := fullL_len s i
  rw [show min i (capN s) = capN s by omega] at h3 h4
  have hc : ¬ capN s < capN s := by omega
  rw [cap_fits h] at hc
  have hle : capN s * s ≤ 60000 := by
    have : capN s ≤ 60000 / s := by unfold capN; omega
    exact Nat.le_trans (Nat.mul_le_mul_right _ this) (Nat.div_mul_le_self _ _)
  unfold fullO
  rw [padT_len h, h3, h4, wr64_id (by omega) (by omega)]
  rw [Nat.add_mul] at hc
  simp
  omega
/-- what a round puts -/
theorem full_put {s i : Nat} (h : 2 ≤ s) (h9 : s ≤ 1000) (h6 : i < 676) :
    putE (fullL s i) (padT s i) = (if i < capN s then 0 else 4) ∧ putI (min i (capN s)) (fullL s i) (padT s i) = (if i < capN s then i + 1 else 0) ∧ putM (min i (capN s)) (fullL s i) (padT s i) = min (i + 1) (capN s) ∧ putL (min i (capN s)) (fullL s i) (padT s i) = fullL s (i + 1) := by
  have e0 : ¬ findO (fullL s i) (padT s i) ≠ 0 := fun h => h (fullL_find h6)
  unfold putE putI putM putL
  simp only [if_neg e0]
  by_cases hi : i < capN s
  · have e1 : ¬ fullO (fullL s i) (padT s i) = true := by rw [fullO_no h h9 hi]; decide
    simp only [if_neg e1, if_pos hi]
    rw [fullL_next hi, show min i (capN s) = i by omega, show min (i + 1) (capN s) = i + 1 by omega]
    refine ⟨?_, ?_, ?_, ?_⟩ <;> first | rfl | trivial
  · have e1 : fullO (fullL s i) (padT s i) = true := fullO_yes h h9 hi
    simp only [if_pos e1, if_neg hi]
    rw [fullL_stay hi, show min (i + 1) (capN s) = min i (capN s) by omega]
    refine ⟨?_, ?_, ?_, ?_⟩ <;> first | rfl | trivial
/-- what it puts once more -/
theorem full_again {s i : Nat} (h : 2 ≤ s) (h9 : s ≤ 1000) (h6 : i < 676) :
    putE (fullL s (i + 1)) (padT s i) = (if i < capN s then 0 else 4) ∧ putI (min (i + 1) (capN s)) (fullL s (i + 1)) (padT s i) = (if i < capN s then i + 1 else 0) ∧ putM (min (i + 1) (capN s)) (fullL s (i + 1)) (padT s i) = min (i + 1) (capN s) ∧ putL (min (i + 1) (capN s)) (fullL s (i + 1)) (padT s i) = fullL s (i + 1) := by
  by_cases hi : i < capN s
  · have e := fullL_found hi h6
    have e0 : findO (fullL s (i + 1)) (padT s i) ≠ 0 := by rw [e]; omega
    unfold putE putI putM putL
    rw [if_pos e0, if_pos e0, if_pos e0, if_pos e0, if_pos hi, if_pos hi]
    exact ⟨rfl, e, rfl, rfl⟩
  · rw [fullL_stay hi, show min (i + 1) (capN s) = min i (capN s) by omega]
    have := full_put h h9 h6
    rw [fullL_stay hi, show min (i + 1) (capN s) = min i (capN s) by omega] at this
    exact this
end Go.Proofs.YtpdieckoemfebaeDoor
