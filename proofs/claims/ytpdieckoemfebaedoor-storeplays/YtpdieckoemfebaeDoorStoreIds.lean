/- store's Ids: the numbers, sorted. -/
import Derived.Test.YtpdieckoemfebaeDoorStoreAsk
import Derived.Test.YtpdieckoemfebaeDoorKeyShelf
namespace Go.Proofs.YtpdieckoemfebaeDoor
open Go Go.RowKit Go.Proofs Go.Maps Go.Sort Go.Shelf
set_option synthInstance.maxSize 1000

theorem sortsI (m : Nat) : AnyZI.SortsIn Tryd.prog Tryd.sortedI_ren Fence.wide m :=
  ⟨fun blk off cap ss W hH hblk hsz => callsIn_wide.2 (Tryd.slices_Sort_int blk off cap ss W hH hblk hsz),
   fun p cap W => callsIn_wide.2 (Tryd.slices_Sort_int_none p cap W)⟩

theorem idsO_rise {n : Nat} {L : List Ob} (hg : GoodO n L) : (idsO L).Pairwise (fun a b => a < b) := by
  unfold idsO
  rw [List.pairwise_map]
  exact hg.rise.imp fun h => by omega
theorem has_wf {w : World} {b n : Nat} {D : DataW Unit} (o : w.ownsMap Tryd.prog 3 objElem b n D) {x : Int} (h : Maps.has D (.int .i64 x) = true) : (Lit.int .i64 x).wf = true := by
  obtain ⟨es, rfl, hko⟩ := o.keysOf
  obtain ⟨p, hp, hs⟩ := List.any_eq_true.1 h
  obtain ⟨v, hv⟩ := hko p hp
  rw [WideAt.sameKey_eq hs] at hv
  obtain ⟨y, _, hy, hl⟩ := Maps.keyOf_int_inv Tryd.underlying3 hv
  cases hy
  exact hl
/-- the keys of the objects' map, sorted, are the numbers -/
theorem keys_ids {w : World} {b n m : Nat} {D : DataW Unit} {L : List Ob} (o : w.ownsMap Tryd.prog 3 objElem b m D) (f : ObjD D L) (hg : GoodO n L) (hn : n ≤ 1000001) {ss : List Int} (hp : ss.Perm (intKeys D)) : ss.mergeSort (fun x y => decide (x ≤ y)) = idsO L := by
  have h1 : (idsO L).Perm (intKeys D) := by
    refine CollectedI.perm (left := fun _ => false) ⟨(idsO_rise hg).imp fun h => by omega, fun x => ?_⟩ o keyedIO Tryd.underlying3 fun _ => rfl
    simp only [and_true]
    constructor
    · intro hx
      obtain ⟨y, hy, rfl⟩ := List.mem_map.1 hx
      have := hg.low y hy
      rw [(f _ (wfO (by omega) (by omega))).1]
      exact getO_isSome.2 ⟨y, hy, rfl⟩
    · intro hx
      rw [(f _ (has_wf o hx)).1] at hx
      obtain ⟨y, hy, e⟩ := getO_isSome.1 hx
      exact List.mem_map.2 ⟨y, hy, e⟩
  have h2 := hp.trans h1.symm
  have tr : ∀ a b c : Int, decide (a ≤ b) = true → decide (b ≤ c) = true → decide (a ≤ c) = true := fun a b c h1 h2 => by simp only [decide_eq_true_eq] at *; omega
  have to : ∀ a b : Int, (decide (a ≤ b) || decide (b ≤ a)) = true := fun a b => by simp only [Bool.or_eq_true, decide_eq_true_eq]; omega
  refine List.Perm.eq_of_pairwise (le := fun a b => decide (a ≤ b) = true) (fun a b _ _ h1 h2 => ?_) (List.pairwise_mergeSort tr to ss) ?_ ((List.mergeSort_perm ss _).trans h2)
  · simp only [decide_eq_true_eq] at h1 h2; omega
  · exact (idsO_rise hg).imp fun h => by simp; omega

set_option maxHeartbeats 1000000 in
set_option maxRecDepth 100000 in
theorem SIds_any (w : World) (s b1 b2 n : Nat) (L : List Ob) (h : SAt w s b1 b2 n L) (hg : GoodO n L) :
    Calls Tryd.prog 18 #[.pointer (some ⟨s, 0, none⟩)] w fun e w' => ∃ a c, e = .returned (.slice a L.length c) ∧ SlI w' a (idsO L) ∧ RowKit.Below w.heap.size w w' ∧ (L ≠ [] → ∀ d, a = some d → w.heap.size ≤ d.block) := by
  refine (callsIn_wide (n := 6)).1 ?_
  have hlt := h.lts
  have hbl := h.lt2
  have c1 := h.c1
  have hbig := h.big
  obtain ⟨D1, D2, o1, o2, f1, f2, hs⟩ := h.two
  have hle := o2.size_le
  have hseq : SeqGives Fence.wide 2 Tryd.prog 32 #[.pointer (some ⟨w.heap.size, 0, none⟩)] encZ (fun ss => ss.Perm (intKeys D2)) (Maps.size D2) (w.alloc (.cells #[.map (some b2)] 57)) :=
    AnyZI.keys_gives (ρ := Tryd.keysI_ren) { Tryd.keysI with } Fence.wide _ trivial rfl (by omega) w.heap.size b2 n D2 _ (by simp) (by simp) (o2.alloc _)
  have cK : ∀ mb W, CallsIn Fence.wide 5 Tryd.prog 26 #[.map mb] W fun e w' => e = .returned (.func (.func 32) #[] #[.pointer (some ⟨W.heap.size, 0, none⟩)]) ∧ w' = W.alloc (.cells #[.map mb] 57) := fun mb W => AnyZI.keys_in Tryd.keysI Fence.wide 5 trivial rfl mb W
  have cS := AnyZI.sorted_in Tryd.sortedI Fence.wide 5 trivial trivial trivial trivial rfl (by omega) (sortsI _) (enters_of Tryd.func31 (by kernel_rfl) rfl) 32 #[.pointer (some ⟨w.heap.size, 0, none⟩)] trivial (enters_of Tryd.func32 (by kernel_rfl) rfl) _ _ (by unfold maxLen; omega) (by omega) _ hseq
  change CallsIn _ _ Tryd.prog 25 _ _ _ at cS
  have hfK : Fence.wide.fn 26 := trivial
  have hfS : Fence.wide.fn 25 := trivial
  have HK : Hid (∀ ss : List Int, ss.Perm (intKeys D2) → ss.mergeSort (fun x y => decide (x ≤ y)) = idsO L) := fun ss hp => keys_ids o2 f2 hg hbig hp
  clear h hg o1 o2 f1 f2 hs hle hseq
  refine callsIn_of_wp Tryd.func18 rfl trivial ?_ rfl
  simp only [Tryd.ntmps18, List.size_toArray, List.length_cons, List.length_nil, Nat.reduceAdd, Nat.reduceSub, Array.replicate_succ, Array.replicate_zero, List.push_toArray, List.append_toArray, List.nil_append, List.cons_append]
  gi_wp2_with (first
    | (gi_at_call 26; refine (cK _ _).mono ?_; rintro e w' ⟨rfl, rfl⟩)
    | (gi_at_call 25; refine cS.mono ?_; rintro e w' ⟨v, ss, rfl, hS, hrow, hnil, hb⟩))
  go_ret
  have hids := HK.out ss hS
  have hlen : ss.length = L.length := by
    have : (ss.mergeSort (fun x y => decide (x ≤ y))).length = ss.length := (List.mergeSort_perm ss _).length_eq
    rw [hids] at this
    simpa [idsO] using this.symm
  rw [hids] at hrow
  have hbb : RowKit.Below w.heap.size w w' := ((RowKit.Below.refl _ w).alloc (Nat.le_refl _) _).trans (hb.mono (by simp))
  rcases hrow.2 with ⟨rfl, h0⟩ | ⟨g, cap, cur, rfl, hgb, hcur, r1, r2, r3, r4⟩
  · have hL : L = [] := List.eq_nil_of_length_eq_zero (by omega)
    subst hL
    exact ⟨none, 0, rfl, fun hne => absurd rfl hne, hbb, fun hne => absurd rfl hne⟩
  · refine ⟨some ⟨g, 0, none⟩, cap, by rw [hlen]; rfl, fun hne => ⟨g, 0, rfl, fun j hj => ?_⟩, hbb, fun _ d hd => ?_⟩
    · have := hrow.cells (g := g) rfl j (.int .i64 (idsO L)[j]) (by simp [encZ, hj])
      rw [Addr.add_lit] at this
      exact this
    · cases hd
      simp at hgb
      show w.heap.size ≤ g
      omega
end Go.Proofs.YtpdieckoemfebaeDoor
