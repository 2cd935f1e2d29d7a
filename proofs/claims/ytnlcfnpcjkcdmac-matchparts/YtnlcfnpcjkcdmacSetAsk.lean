/- asker: a map of a list's triples, and the question whether one is in it. -/
import Derived.Test.YtnlcfnpcjkcdmacSetMap
import Derived.OwnWalk
namespace Go.Proofs.Ytnlcfnpcjkcdmac
open Go Go.RowKit Go.Proofs Go.Maps
set_option synthInstance.maxSize 1000

/-- at a block lies the map of these triples -/
def AskOK (w : World) (bx : Nat) (l : List Tr) : Prop := ∃ bm, w.cell? ⟨bx, 0, none⟩ = some (.map (some bm)) ∧ InMap w bm l

theorem AskOK.below {w w' : World} {bx : Nat} {l : List Tr} (h : AskOK w bx l) (hb : RowKit.Below w.heap.size w w') : AskOK w' bx l := by
  obtain ⟨bm, hc, hm⟩ := h
  exact ⟨bm, (hb.cell (World.block_lt_of_cell? w _ hc)).trans hc, hm.below hb⟩

set_option maxHeartbeats 1000000 in
set_option maxRecDepth 100000 in
theorem ask_any (bx : Nat) (l : List Tr) (x : Tr) (w : World) (h : AskOK w bx l) (hx : chkTr x = 0) :
    Calls Try.prog 50 #[valTr x, .pointer (some ⟨bx, 0, none⟩)] w fun e w' => e = .returned (.bool (decide (x ∈ l))) ∧ RowKit.Below w.heap.size w w' := by
  obtain ⟨bm, hc, D, hown, hD⟩ := h
  have hkey := keyOf_tr x hx
  have hd : Hid (Maps.has D (keyTr x) = decide (x ∈ l)) := hD x hx
  have hbx : bx < w.heap.size := World.block_lt_of_cell? w _ hc
  clear hD
  unfold valTr at hkey ⊢
  go_enter Try.func50, Try.ntmps50
  go_wp2_with (first
    | (at_lookup; refine wpList_lookup_own_unit _ rfl _ _ 89 rfl 30 90 keyedTr Try.underlying89 (zeroUnit _) bm _ _ rfl (hown.alloc _) _ _ rfl hkey ?_))
  go_ret
  exact ⟨ret_bool hd.out, bstep (balloc _ _) (balloc _ _)⟩

theorem enters50 : ∀ args w, (callFunc 50 args).run Try.prog w = .ok (.enter 50 args) w := enters_of Try.func50 (by kernel_rfl) rfl

theorem makeMapHint (n : Int) (w : World) : (Instr.makeMap 89 (some (.int .i64 n))).run Try.prog w = .ok (.map (some w.heap.size)) (w.alloc (.map #[] 0)) := by kernel_rfl

set_option maxHeartbeats 2000000 in
set_option maxRecDepth 100000 in
theorem asker_any (ad : Option Addr) (cap : Nat) (l : List Tr) (w : World) (h : SlT w ad l) (hs : ∀ x ∈ l, chkTr x = 0) (h200 : l.length ≤ 200) :
    Calls Try.prog 29 #[.slice ad l.length cap] w fun e w' => ∃ bx, e = .returned (.func (.func 50) #[] #[.pointer (some ⟨bx, 0, none⟩)]) ∧ AskOK w' bx l ∧ RowKit.Below w.heap.size w w' := by
  have hmm := makeMapHint
  have Hl : Hid (SlT w ad l) := h
  have Hs : Hid (∀ x ∈ l, chkTr x = 0) := hs
  clear h hs
  go_enter Try.func29, Try.ntmps29
  go_wp2_with fail
  go_loopw [11] (fun i wr => ∃ k : Nat, k ≤ l.length ∧ i = .int .i64 k ∧ Hid (InMap wr w.heap.size (l.take k)) ∧ wr.cell? ⟨w.heap.size + 1, 0, none⟩ = some (.map (some w.heap.size)) ∧ RowKit.Below w.heap.size w wr) (fun i wr => l.length - (intOf i).toNat)
  case atStart =>
    refine ⟨0, Nat.zero_le _, rfl, ?_, by go_simp, ?_⟩
    · show InMap _ _ _
      rw [List.take_zero]
      exact (inMap_made w).below (balloc _ _)
    · exact bstep (balloc _ _) (balloc _ _)
  case round =>
    obtain ⟨k, hk, rfl, hin, hcb, hbr⟩ := hrel
    by_cases hlt : k < l.length
    · obtain ⟨b, o, rfl, hr⟩ := (Hl.out.below hbr).at k hlt
      obtain ⟨c0, c1, c2, c3, c4, c5, c6, c7, c8⟩ := hr.at k hlt
      have i0 : (0 : Int) ≤ (k : Int) := by omega
      have i1 : (k : Int) < (l.length : Int) := by omega
      obtain ⟨D, hown0, hD0⟩ := hin.out
      have hlen : (l.take k).length = k := by simp; omega
      rw [hlen] at hown0
      have hown : Hid (wr.ownsMap Try.prog 30 unitElem w.heap.size k D) := hown0
      have hy : Hid (chkTr l[k] = 0) := Hs.out _ (List.getElem_mem hlt)
      have hput : Hid (∀ x, chkTr x = 0 → Maps.has (D.put (keyTr l[k]) (.agg [])) (keyTr x) = decide (x ∈ l.take (k + 1))) := by
        have := has_put hown0.isMap hy.out hD0 (.agg [])
        rw [List.take_succ_eq_append_getElem hlt]
        exact this
      have hkey := keyOf_tr l[k] hy.out
      have hzr := hbr.size
      have hb1 : w.heap.size + 1 < wr.heap.size := World.block_lt_of_cell? wr _ hcb
      clear hr hown0 hD0 hin
      have hlen2 : Hid ((l.take (k + 1)).length = k + 1) := by show _ = _; simp; omega
      generalize l[k] = y at *
      unfold valTr at hkey
      go_wp2_with (first
        | (at_mapUpdate; refine wpList_mapUpdate_own _ rfl _ _ _ 89 rfl 30 90 keyedTr Try.underlying89 (unitElem (H := Unit)) w.heap.size k _ rfl (hown.out.alloc _) (by unfold maxLen; omega) _ _ _ rfl rfl hkey _ [] unitElem_mk ?_; intro w1 hown1 hgrow1))
      go_roundw
      case rel =>
        refine ⟨k + 1, by omega, by go_num, ⟨_, by rw [hlen2.out]; exact hown1, hput.out⟩, ?_, ?_⟩
        · have q := hgrow1.block (w.heap.size + 1) (by simp; omega) (by simp)
          have := (balloc wr (.cells (encTr y).toArray 30)).cell (p := ⟨w.heap.size + 1, 0, none⟩) hb1
          rw [hcb] at this
          simp only [World.cell?] at this ⊢
          rw [q]
          exact this
        · exact (hbr.alloc hzr _).grown hgrow1 (by simp; omega) (fun j hj => by cases hj; exact Nat.le_refl _)
      case measure => simp [intOf]; omega
    · obtain rfl : k = l.length := by omega
      go_wp2_with fail
      go_ret
      refine ⟨w.heap.size + 1, rfl, ⟨w.heap.size, hcb, ?_⟩, hbr⟩
      have := hin.out
      rwa [List.take_length] at this
end Go.Proofs.Ytnlcfnpcjkcdmac
