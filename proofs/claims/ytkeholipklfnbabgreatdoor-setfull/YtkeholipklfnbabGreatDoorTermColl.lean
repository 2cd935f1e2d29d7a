/- maps.Keys, slices.Collect and slices.SortedFunc at terms. -/
import Derived.Test.YtkeholipklfnbabGreatDoorTermSort
namespace Go.Proofs.YtkeholipklfnbabGreatDoor
open Go Go.RowKit Go.Proofs Go.Sort Go.Lib Go.Maps
set_option synthInstance.maxSize 1000

theorem entersK : ∀ args w, (callFunc 53 args).run Tryz.prog w = .ok (.enter 53 args) w := enters_of Tryz.func53 (by kernel_rfl) rfl

/-- what SortedFunc is handed: the iterator over the keys of the map at a box -/
def KeysOf (w : World) (bx n : Nat) (l : List Tm) : Prop := ∃ bm, w.cell? ⟨bx, 0, none⟩ = some (.map (some bm)) ∧ InMapT w bm n l

theorem KeysOf.below {w w' : World} {bx n : Nat} {l : List Tm} (h : KeysOf w bx n l) (hb : RowKit.Below w.heap.size w w') : KeysOf w' bx n l := by
  obtain ⟨bm, hc, hm⟩ := h
  exact ⟨bm, (hb.cell (World.block_lt_of_cell? w _ hc)).trans hc, hm.below hb⟩

theorem KeysM_any (bm n : Nat) (l : List Tm) (w : World) (h : InMapT w bm n l) :
    Calls Tryz.prog 35 #[.map (some bm)] w fun e w' => ∃ bx, e = .returned (.func (.func 53) #[] #[.pointer (some ⟨bx, 0, none⟩)]) ∧ KeysOf w' bx n l ∧ RowKit.Below w.heap.size w w' := by
  have H : Hid (InMapT w bm n l) := h
  clear h
  go_enter Tryz.func35, Tryz.ntmps35
  go_wp2
  go_ret
  exact ⟨_, rfl, ⟨bm, by go_simp, H.out.below (balloc _ _)⟩, balloc _ _⟩

theorem CollectM_seq (bx n : Nat) (l : List Tm) (w : World) (h : KeysOf w bx n l) (hw : ∀ x ∈ l, wfTm x) (hn : n ≤ 1000) :
    Calls Tryz.prog 67 #[.slice none 0 0, .func (.func 53) #[] #[.pointer (some ⟨bx, 0, none⟩)]] w
      fun e w' => ∃ (v : Value) (ss : List Tm), e = .returned v ∧ (ss.Nodup ∧ (∀ x, x ∈ ss ↔ x ∈ l)) ∧ w'.ownsRow w.heap.size 24 3 v ss.length (ss.flatMap encTm) ∧ (v = .slice none 0 0 ↔ ss = []) ∧ RowKit.Below w.heap.size w w' := by
  obtain ⟨bm, hc, D, hown, hD⟩ := h
  have hle := hown.size_le
  refine ((callsIn_wide (n := 5)).1 (appendSeqTm_in Fence.wide 5 trivial rfl (by omega) _ _ trivial entersK _ _ (Maps.size D) (by unfold maxLen; omega) (by omega) w
    (keysTm_stops Fence.wide 4 trivial rfl (by omega) bx bm n D w (World.block_lt_of_cell? w _ hc) hc hown))).mono ?_
  rintro e w' ⟨v, ss, rfl, ⟨h1, h2⟩, h3, h4, h5⟩
  refine ⟨v, ss, rfl, ⟨h1, fun x => ?_⟩, h3, h4, h5⟩
  rw [h2 x]
  constructor
  · rintro ⟨a, b⟩; rw [hD x a] at b; simpa using b
  · intro hx; exact ⟨hw x hx, by rw [hD x (hw x hx)]; simpa using hx⟩

theorem CollectM_any (bx n : Nat) (l : List Tm) (w : World) (h : KeysOf w bx n l) (hw : ∀ x ∈ l, wfTm x) (hn : n ≤ 1000) :
    Calls Tryz.prog 51 #[.func (.func 53) #[] #[.pointer (some ⟨bx, 0, none⟩)]] w
      fun e w' => ∃ (v : Value) (ss : List Tm), e = .returned v ∧ (ss.Nodup ∧ (∀ x, x ∈ ss ↔ x ∈ l)) ∧ w'.ownsRow w.heap.size 24 3 v ss.length (ss.flatMap encTm) ∧ (v = .slice none 0 0 ↔ ss = []) ∧ RowKit.Below w.heap.size w w' := by
  have H : Hid (KeysOf w bx n l) := h
  have Hw : Hid (∀ x ∈ l, wfTm x) := hw
  clear h hw
  go_enter Tryz.func51, Tryz.ntmps51
  go_wp2_with (go_at_call 67; refine (CollectM_seq bx n l _ H.out Hw.out hn).mono ?_; rintro e w' ⟨v, ss, rfl, hS, hrow, hnil, hb⟩)
  go_ret
  exact ⟨v, ss, rfl, hS, hrow, hnil, hb⟩

theorem holdsM_of {w : World} {g : Nat} {cur : Array Value} {ss : List Tm} (hgb : w.heap[g]? = some (.cells cur 24 (0, 0))) (ht : cur.toList.take (ss.length * 3) = ss.flatMap encTm) : HoldsK encTm 3 w g 0 ss.toArray := fun j hj => by
  have hj' : j < ss.length * 3 := by simpa using hj
  have h1 := flat_getM ss j hj'
  have h2 : cur.toList[j]? = (cellsM ss)[j]? := by
    rw [show cellsM ss = ss.flatMap encTm from rfl, ← ht, List.getElem?_take, if_pos hj']
  refine ⟨?_, by simp [World.frozen?, hgb]⟩
  have : w.cell? ⟨g, 0 + j, none⟩ = cur.toList[j]? := by simp [World.cell?, hgb]
  rw [this, h2, h1]
  rfl

theorem risingM_of {d : Array Tm} (hs : SortedIn (ltOf cmpTm) 0 d.size d) (hn : d.toList.Nodup) : RisingM d.toList := by
  rw [RisingM, List.pairwise_iff_getElem]
  intro i j hi hj hij
  have hi' : i < d.size := by simpa using hi
  have hj' : j < d.size := by simpa using hj
  have h := hs i j (Nat.zero_le _) hij hj'
  rw [getElem!_pos d j hj', getElem!_pos d i hi'] at h
  simp only [ltOf, decide_eq_false_iff_not] at h
  have h2 := cmpTm_neg d[i] d[j]
  have h3 : cmpTm d[i] d[j] ≠ 0 := fun e => by
    have e' := (cmpTm_zero _ _).1 e
    have := (List.nodup_iff_pairwise_ne.1 hn)
    rw [List.pairwise_iff_getElem] at this
    exact this i j hi hj hij (by simpa using e')
  have e1 : d.toList[i] = d[i] := by simp
  have e2 : d.toList[j] = d[j] := by simp
  rw [e1, e2]
  omega

theorem nodup_len : ∀ (a b : List Tm), a.Nodup → (∀ x ∈ a, x ∈ b) → a.length ≤ b.length
  | [], _, _, _ => Nat.zero_le _
  | x :: r, b, hn, h => by
    have hx : x ∈ b := h x (by simp)
    have hc := List.nodup_cons.1 hn
    have := nodup_len r (b.erase x) hc.2 (fun y hy => (List.mem_erase_of_ne (fun e : y = x => hc.1 (by rw [← e]; exact hy))).2 (h y (by simp [hy])))
    have h2 := List.length_erase_of_mem hx
    have h3 := List.length_pos_of_mem hx
    simp only [List.length_cons]
    omega

theorem SortedFuncM_any (bx n : Nat) (l : List Tm) (w : World) (h : KeysOf w bx n l) (hw : ∀ x ∈ l, wfTm x) (hn : n ≤ 1000) (hl : l.length ≤ 1000) :
    Calls Tryz.prog 34 #[.func (.func 53) #[] #[.pointer (some ⟨bx, 0, none⟩)], .func (.func 36) #[] #[]] w
      fun e w' => ∃ (ad : Option Addr) (c : Nat) (m : List Tm), e = .returned (.slice ad m.length c) ∧ SlM w' ad m ∧ RisingM m ∧ (∀ x, x ∈ m ↔ x ∈ l) ∧ RowKit.Below w.heap.size w w' := by
  have H : Hid (KeysOf w bx n l) := h
  have Hw : Hid (∀ x ∈ l, wfTm x) := hw
  clear h hw
  go_enter Tryz.func34, Tryz.ntmps34
  go_wp2_with (go_at_call 51; refine (CollectM_any bx n l _ H.out Hw.out hn).mono ?_; rintro e w1 ⟨v, ss, rfl, ⟨hnd, hmem⟩, hrow, hnil, hb⟩)
  have hlen : ss.length ≤ 1000 := by
    have : ss.length ≤ l.length := nodup_len _ _ hnd (fun x hx => (hmem x).1 hx)
    omega
  rcases hrow.2 with ⟨rfl, h0⟩ | ⟨g, cap, cur, rfl, hg0, hgb, hcap, _, hcs, htk⟩
  · have hss : ss = [] := List.length_eq_zero_iff.1 h0
    subst hss
    go_wp2_with (go_at_call 52; refine (SortFuncNoneM _).mono ?_; rintro e w2 ⟨rfl, rfl⟩)
    go_ret
    exact ⟨none, 0, [], rfl, fun h => absurd rfl h, List.Pairwise.nil, fun x => hmem x, hb⟩
  · have hH := holdsM_of hgb htk
    have hgl : g < w1.heap.size := (Array.getElem?_eq_some_iff.1 hgb).1
    have hS := SortFuncM_any g cap ss.toArray w1 hH hgl (by simpa using hlen)
    rw [List.size_toArray] at hS
    have HS : Hid (Calls Tryz.prog 52 _ _ _) := hS
    clear hS
    go_wp2_with (go_at_call 52; refine HS.out.mono ?_; rintro e w2 ⟨rfl, d', q, os, hp, hsd, rfl⟩)
    go_ret
    have hds : d'.size = ss.length := by have := hp.1; simpa using this
    have hperm : d'.toList.Perm ss := by
      have := hp.2.2
      rw [show d'.extract 0 ss.length = d' by rw [← hds]; simp] at this
      simpa using this
    have hH3 := holdsK_sortWorldK encTm 3 w1 g 0 q ss.toArray d' os hgl hH (by simpa using hds)
    refine ⟨some ⟨g, 0, none⟩, cap, d'.toList, by simp [hds], fun _ => ⟨g, 0, rfl, rowM_holds (by simpa using hH3)⟩, risingM_of (by rw [hds]; exact hsd) (hperm.nodup_iff.2 hnd), fun x => (hperm.mem_iff).trans (hmem x), hb.trans (below_sortM hg0 hb.size)⟩
end Go.Proofs.YtkeholipklfnbabGreatDoor
