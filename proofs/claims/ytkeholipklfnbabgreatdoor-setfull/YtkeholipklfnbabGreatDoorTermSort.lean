/- Lists of terms in memory; slices.SortFunc, slices.Collect and slices.SortedFunc at terms. -/
import Derived.Test.YtkeholipklfnbabGreatDoorTermSeq
import Derived.Test.YtkeholipklfnbabGreatDoorSortShelfT
import Derived.Test.YtkeholipklfnbabGreatDoorTripleSame
namespace Go.Proofs.YtkeholipklfnbabGreatDoor
open Go Go.RowKit Go.Proofs Go.Sort Go.Lib
set_option synthInstance.maxSize 1000

def cellsM (l : List Tm) : List Value := l.flatMap encTm
theorem encTm_len (x : Tm) : (encTm x).length = 3 := rfl
theorem encTm_one (x : Tm) : ∀ v ∈ encTm x, v.oneCell' = true := by
  intro v hv
  simp [encTm] at hv
  rcases hv with rfl | rfl | rfl <;> rfl
theorem cellsM_len (l : List Tm) : (cellsM l).length = l.length * 3 := by
  induction l with
  | nil => rfl
  | cons x r ih => simp only [cellsM, List.flatMap_cons, List.length_append, List.length_cons] at *; rw [ih, encTm_len]; omega
theorem cellsM_one (l : List Tm) : ∀ v ∈ cellsM l, v.oneCell' = true := by
  intro v hv
  simp only [cellsM, List.mem_flatMap] at hv
  obtain ⟨x, _, hx⟩ := hv
  exact encTm_one x v hx
theorem cellsM_at (l : List Tm) (i : Nat) (h : i < l.length) (j : Nat) (hj : j < 3) : (cellsM l)[i * 3 + j]? = (encTm l[i])[j]? := by
  induction l generalizing i with
  | nil => simp at h
  | cons x r ih =>
    simp only [cellsM, List.flatMap_cons] at *
    cases i with
    | zero => rw [List.getElem?_append_left (by rw [encTm_len]; omega)]; simp
    | succ n =>
      rw [List.getElem?_append_right (by rw [encTm_len]; omega), encTm_len, show (n + 1) * 3 + j - 3 = n * 3 + j by omega, ih n (by simpa using h)]
      simp

/-- the row of cells at a place is these triples' -/
def RowM (w : World) (b o : Nat) (l : List Tm) : Prop := ∀ j v, (cellsM l)[j]? = some v → w.cell? ⟨b, o + j, none⟩ = some v

theorem RowM.below {w w' : World} {b o : Nat} {l : List Tm} (h : RowM w b o l) (hb : Below w.heap.size w w') : RowM w' b o l := fun j v hv =>
  (hb.cell (World.block_lt_of_cell? w _ (h j v hv))).trans (h j v hv)

theorem RowM.at {w : World} {b o : Nat} {l : List Tm} (h : RowM w b o l) (i : Nat) (hi : i < l.length) :
    w.cell? ⟨b, o + i * 3, none⟩ = some (.int .i64 l[i].1) ∧ w.cell? ⟨b, o + i * 3 + 1, none⟩ = some (.string ⟨l[i].2.1.toArray⟩) ∧ w.cell? ⟨b, o + i * 3 + 2, none⟩ = some (.string ⟨l[i].2.2.toArray⟩) := by
  have q : ∀ j v, j < 3 → (encTm l[i])[j]? = some v → w.cell? ⟨b, o + i * 3 + j, none⟩ = some v := fun j v hj hv => by
    rw [Nat.add_assoc]; exact h _ v (by rw [cellsM_at l i hi j hj]; exact hv)
  exact ⟨q 0 _ (by omega) rfl, q 1 _ (by omega) rfl, q 2 _ (by omega) rfl⟩

def SlM (w : World) (ad : Option Addr) (l : List Tm) : Prop := l ≠ [] → ∃ b o, ad = some ⟨b, o, none⟩ ∧ RowM w b o l
theorem SlM.below {w w' : World} {ad : Option Addr} {l : List Tm} (h : SlM w ad l) (hb : RowKit.Below w.heap.size w w') : SlM w' ad l := fun hl => by
  obtain ⟨b, o, e, r⟩ := h hl
  exact ⟨b, o, e, r.below hb⟩
theorem SlM.at {w : World} {ad : Option Addr} {l : List Tm} (h : SlM w ad l) (i : Nat) (hi : i < l.length) : ∃ b o, ad = some ⟨b, o, none⟩ ∧ RowM w b o l :=
  h (fun e => by rw [e] at hi; simp at hi)
theorem flat_getM (l : List Tm) (j : Nat) (hj : j < l.length * 3) : (cellsM l)[j]? = some (flatK encTm 3 l.toArray)[j]! := by
  have hi : j / 3 < l.length := by omega
  have h1 := cellsM_at l (j / 3) hi (j % 3) (by omega)
  rw [show j / 3 * 3 + j % 3 = j by omega] at h1
  rw [h1, get_flatK _ _ _ j (by simpa using hj), List.getElem?_eq_getElem (by rw [encTm_len]; omega)]
  have e : l.toArray[j / 3]! = l[j / 3] := by rw [getElem!_pos l.toArray (j / 3) (by simpa using hi)]; simp
  rw [e, getElem!_pos (encTm l[j / 3]) (j % 3) (by rw [encTm_len]; omega)]

theorem rowM_holds {w : World} {b o : Nat} {l : List Tm} (h : HoldsK encTm 3 w b o l.toArray) : RowM w b o l := fun j v hv => by
  have hj : j < l.length * 3 := by
    have := (List.getElem?_eq_some_iff.1 hv).1
    rwa [cellsM_len] at this
  rw [flat_getM l j hj] at hv
  rw [(h j (by simpa using hj)).1]
  exact hv
theorem below_sortM {w : World} {b n B : Nat} {d : Array Tm} {os : Array Obj} (hB : B ≤ b) (hBw : B ≤ w.heap.size) : RowKit.Below B w (sortWorldK encTm 3 w b 0 n d os) := by
  refine ⟨rfl, rfl, rfl, ?_, fun k hk => ?_⟩
  · show w.heap.size ≤ (_ ++ os).size
    simp [putRowK, putRow, mapBlock, Sort.ahead]
  · show (_ ++ os)[k]? = _
    rw [Array.getElem?_append_left (by simp [putRowK, putRow, mapBlock, Sort.ahead]; omega)]
    simp only [putRowK, putRow, mapBlock, Sort.ahead, Array.getElem?_modify]
    rw [if_neg (by omega)]
theorem swoTm : SWO (ltOf cmpTm) where
  irrefl x := by simp [ltOf, (cmpTm_zero x x).2 rfl]
  trans x y z h1 h2 := by
    simp only [ltOf, decide_eq_true_eq] at *
    have h := cmpTm_trans x y z (by omega) (by omega)
    by_cases e : cmpTm x z = 0
    · have := (cmpTm_zero x z).1 e
      subst this
      have := cmpTm_neg x y
      omega
    · omega
  ntrans x y z h1 h2 := by
    simp only [ltOf, decide_eq_false_iff_not] at *
    have a := cmpTm_neg x y
    have b := cmpTm_neg y z
    have c := cmpTm_neg x z
    have := cmpTm_trans z y x (by omega) (by omega)
    omega


/-- terms, each above the one ahead -/
def RisingM (m : List Tm) : Prop := m.Pairwise fun x y => cmpTm x y < 0

theorem enters36 : ∀ args w, (callFunc 36 args).run Tryz.prog w = .ok (.enter 36 args) w := enters_of Tryz.func36 (by kernel_rfl) rfl

theorem CmpTm_any (x y : Tm) (w : World) : Calls Tryz.prog 36 #[valTm x, valTm y] w fun e w' => e = .returned (.int .i64 (cmpTm x y)) ∧ Grew w w' :=
  Compare_grew _ _ _ _ _ _ _

theorem SortFuncM_any (b cap : Nat) (d : Array Tm) (w : World) (hH : HoldsK encTm 3 w b 0 d) (hb : b < w.heap.size) (hsz : d.size ≤ 1000) :
    Calls Tryz.prog 52 #[.slice (some ⟨b, 0, none⟩) d.size cap, .func (.func 36) #[] #[]] w
      fun e w' => e = .returned (.tuple #[]) ∧ ∃ d' n os, PermIn 0 d.size d d' ∧ SortedIn (ltOf cmpTm) 0 d.size d' ∧ w' = sortWorldK encTm 3 w b 0 n d' os :=
  AnyQ.slices_SortFunc Tryz.sortTm 3 Tryz.isAgg24 Tryz.sizeOf24 encTm encTm_len encTm_one cmpTm swoTm 36 #[] b 0 cap d w enters36
    (fun _ _ _ _ x y => CmpTm_any x y _) hH hb (by omega)

theorem insertNoneM (w : World) : Calls Tryz.prog 89 #[.slice none 0 0, .int .i64 0, .int .i64 0, .func (.func 36) #[] #[]] w fun e w' => e = .returned (.tuple #[]) ∧ w' = w := by
  go_enter Tryz.func89, Tryz.ntmps89
  go_wp2
  go_loop [8] (fun i => i = .int .i64 1) (fun _ => 0)
  case atStart => rfl
  case round =>
    subst hrel
    go_wp2
    go_end0
    exact ⟨rfl, rfl⟩

theorem pdqNoneM (n : Int) (w : World) : Calls Tryz.prog 68 #[.slice none 0 0, .int .i64 0, .int .i64 0, .int .i64 n, .func (.func 36) #[] #[]] w fun e w' => e = .returned (.tuple #[]) ∧ w' = w := by
  go_enter Tryz.func68, Tryz.ntmps68
  go_wp2
  go_loop [1, 2] (fun a b => a = .int .i64 0 ∧ b = .int .i64 0) (fun _ _ => 0)
  case atStart => exact ⟨rfl, rfl⟩
  case round =>
    obtain ⟨rfl, rfl⟩ := hrel
    go_wp2_with (go_at_call 89; refine (insertNoneM _).mono ?_; rintro e w' ⟨rfl, rfl⟩)
    exact bodyPost_ret (v := .tuple #[]) (by simp [results, Tryz.results68, go_sem]) rfl ⟨rfl, rfl⟩

theorem SortFuncNoneM (w : World) : Calls Tryz.prog 52 #[.slice none 0 0, .func (.func 36) #[] #[]] w fun e w' => e = .returned (.tuple #[]) ∧ w' = w := by
  go_enter Tryz.func52, Tryz.ntmps52
  go_wp2_with (first
    | (go_at_call 62; refine (Tryz.bits_Len 0 _ (by omega) (by omega)).mono ?_; rintro e w' ⟨rfl, rfl⟩)
    | (go_at_call 68; refine (pdqNoneM _ _).mono ?_; rintro e w' ⟨rfl, rfl⟩))
  go_end0
  exact ⟨rfl, rfl⟩

end Go.Proofs.YtkeholipklfnbabGreatDoor
