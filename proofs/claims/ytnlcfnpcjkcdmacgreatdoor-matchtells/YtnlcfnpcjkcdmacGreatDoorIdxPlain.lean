/- A sorted row of places: what it is. -/
import Derived.Test.YtnlcfnpcjkcdmacGreatDoorOrdPlain
import Derived.Shelf.SlSortCmp.Whole1
namespace Go.Proofs.YtnlcfnpcjkcdmacGreatDoor
open Go Go.RowKit Go.Proofs Go.Sort
set_option synthInstance.maxSize 1000

theorem rising_nodupI {l : List Tr} (h : Rising l) {i j : Nat} (hi : i < l.length) (hj : j < l.length) (e : l[i] = l[j]) : i = j := by
  have hp := List.pairwise_iff_getElem.1 h
  have z := (cmpTr_zero l[i] l[i]).2 rfl
  rcases Nat.lt_trichotomy i j with h1 | h1 | h1
  · have := hp i j hi hj h1
    rw [← e] at this
    omega
  · exact h1
  · have := hp j i hj hi h1
    rw [← e] at this
    omega

def allI (n : Nat) : Array (Fin n) := Array.ofFn fun i => i
theorem allI_size (n : Nat) : (allI n).size = n := by simp [allI]
theorem allI_val (n : Nat) : (allI n).toList.map (·.val) = List.range n := by
  apply List.ext_getElem
  · simp [allI]
  · intro i h1 h2
    simp [allI]

theorem places_of {q : Nat × Nat × Nat} (hq : PermQ q) {l : List Tr} (hl : Rising l) [Inhabited (Fin l.length)] {d' : Array (Fin l.length)} (hp : PermIn 0 (allI l.length).size (allI l.length) d')
    (hs : SortedIn (ltOf fun (i j : Fin l.length) => cmpO q l[i] l[j]) 0 (allI l.length).size d') : d'.size = l.length ∧ IsPlaces q l (d'.toList.map (·.val)) := by
  rw [allI_size] at hp hs
  have hsz : d'.size = l.length := by rw [hp.1, allI_size]
  have hperm : (d'.toList.map (·.val)).Perm (List.range l.length) := by
    have h := hp.2.2
    have q : ∀ (a : Array (Fin l.length)), a.size = l.length → (a.extract 0 l.length).toList = a.toList := fun a ha => by
      rw [Array.toList_extract]
      simp [List.take_of_length_le (show a.toList.length ≤ l.length by simp [ha])]
    rw [q d' hsz, q _ (allI_size _)] at h
    have h2 := h.map (fun i : Fin l.length => i.val)
    rwa [allI_val] at h2
  have hnd : (d'.toList.map (·.val)).Nodup := hperm.nodup_iff.2 List.nodup_range
  refine ⟨hsz, List.pairwise_iff_getElem.2 ?_, fun i => by rw [hperm.mem_iff, List.mem_range], by simpa using hsz⟩
  intro i j hi hj hij
  have hi' : i < d'.size := by simpa using hi
  have hj' : j < d'.size := by simpa using hj
  have h1 := hs i j (Nat.zero_le _) hij (by omega)
  rw [getElem!_pos d' i hi', getElem!_pos d' j hj'] at h1
  simp only [ltOf, decide_eq_false_iff_not] at h1
  have h2 := cmpO_neg q l[d'[i]] l[d'[j]]
  have hne : cmpO q l[d'[i]] l[d'[j]] ≠ 0 := fun h0 => by
    have h3 := (cmpO_zero hq _ _).1 h0
    have h4 := rising_nodupI hl d'[i].isLt d'[j].isLt h3
    have h5 := List.pairwise_iff_getElem.1 hnd i j hi hj hij
    exact h5 (by simpa using h4)
  have ei : atL l (d'.toList.map (·.val))[i] = l[d'[i]] := by simp [atL]
  have ej : atL l (d'.toList.map (·.val))[j] = l[d'[j]] := by simp [atL]
  unfold aheadO
  rw [ei, ej]
  omega

theorem below_sort1 {α : Type} [Inhabited α] {enc : α → Value} {w : World} {b n B : Nat} {d : Array α} {os : Array Obj} (hB : B ≤ b) (hBw : B ≤ w.heap.size) : RowKit.Below B w (sortWorld enc w b 0 n d os) := by
  refine ⟨rfl, rfl, rfl, ?_, fun k hk => ?_⟩
  · show w.heap.size ≤ (_ ++ os).size
    simp [putRow, mapBlock, Sort.ahead]
  · show (_ ++ os)[k]? = _
    rw [Array.getElem?_append_left (by simp [putRow, mapBlock, Sort.ahead]; omega)]
    simp only [putRow, mapBlock, Sort.ahead, Array.getElem?_modify]
    rw [if_neg (by omega)]
end Go.Proofs.YtnlcfnpcjkcdmacGreatDoor
