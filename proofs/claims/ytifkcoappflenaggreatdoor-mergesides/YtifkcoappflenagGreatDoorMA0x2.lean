import Derived.Test.YtifkcoappflenagGreatDoorMA0x1
import Derived.Maps.OwnSet
import Derived.DeepKeys4
import Derived.OwnWalk
import Derived.Lib.AppendZeros
import Derived.Deep.Upon
import Derived.Laws.EntriesVeiled

/- A map whose keys are triples: which triples are in it. -/
namespace Go.Proofs.YtifkcoappflenagGreatDoor
open Go Go.RowKit Go.Proofs Go.Maps
set_option synthInstance.maxSize 1000

theorem laidOutP : laidOutB Tryz.prog = true := by kernel_rfl
theorem rowTr : (44 : TypeId) < Tryz.prog.types.size := of_decide_eq_true (by kernel_rfl)
theorem wideTr : (match Tryz.prog.underlying 44 with | some (.array _ _) | some (.struct _) => true | _ => false) = true := by kernel_rfl
set_option maxRecDepth 100000 in
theorem keyedTr : Keyed Tryz.prog 44 := Keyed.of_law (deep_law_laid laidOutP (m := 4) (by omega) rowTr (by kernel_rfl) wideTr)
theorem cellsOfTr : Tryz.prog.cellsOf 44 = 9 := by kernel_rfl
theorem cellsOfTm : Tryz.prog.cellsOf 42 = 3 := by kernel_rfl
theorem cellsOfInt : Tryz.prog.cellsOf 3 = 1 := by kernel_rfl
theorem cellsOfStr : Tryz.prog.cellsOf 9 = 1 := by kernel_rfl
theorem keyTypeTr : Tryz.prog.keyType 44 = true := by kernel_rfl

theorem keyLits_term (d : Nat) (k : Int) (S L : List UInt8) (hk : (Lit.int .i64 k).wf = true) (hS : S.length ≤ maxLen) (hL : L.length ≤ maxLen) :
    Tryz.prog.keyLits (d + 2) 42 [.int .i64 k, .string ⟨S.toArray⟩, .string ⟨L.toArray⟩] = some [.int .i64 k, .string S, .string L] := by
  have hS' : (⟨S.toArray⟩ : ByteArray).size ≤ maxLen := hS
  have hL' : (⟨L.toArray⟩ : ByteArray).size ≤ maxLen := hL
  have e1 : Tryz.prog.keyLits (d + 1) 3 [.int .i64 k] = some [.int .i64 k] := by
    unfold Program.keyLits; rw [Tryz.underlying3]; simp [hk]
  have e2 : ∀ s : List UInt8, (⟨s.toArray⟩ : ByteArray).size ≤ maxLen → Tryz.prog.keyLits (d + 1) 9 [.string ⟨s.toArray⟩] = some [.string s] := by
    intro s hs
    unfold Program.keyLits; rw [Tryz.underlying9]; simp [hs]
  unfold Program.keyLits
  simp only [Tryz.underlying42, cellsOfTm]
  simp [e1, e2 S hS', e2 L hL', cellsOfInt, cellsOfStr]

/-- what a triple reads as, as a map's key -/
def litsTr (x : Tr) : List Lit := [.int .i64 x.1.1, .string x.1.2.1, .string x.1.2.2, .int .i64 x.2.1.1, .string x.2.1.2.1, .string x.2.1.2.2, .int .i64 x.2.2.1, .string x.2.2.2.1, .string x.2.2.2.2]
def keyTr (x : Tr) : Lit := .string (keyBytes (litsTr x))

theorem keyLits_triple (d : Nat) (x : Tr) (h : chkTr x = 0) : Tryz.prog.keyLits (d + 3) 44 (encTr x) = some (litsTr x) := by
  obtain ⟨h1, h2, h3, _⟩ := chk_zero h
  have q : ∀ k S L, checkN k S L = 0 → (Lit.int .i64 k).wf = true ∧ S.length ≤ maxLen ∧ L.length ≤ maxLen := fun k S L hh => by
    obtain ⟨hk, hS, hsp⟩ := check_zero hh
    have := spell_lang hsp
    refine ⟨?_, by unfold maxLen; omega, by unfold maxLen; omega⟩
    rcases hk with rfl | rfl | rfl <;> decide
  obtain ⟨a1, a2, a3⟩ := q _ _ _ h1
  obtain ⟨b1, b2, b3⟩ := q _ _ _ h2
  obtain ⟨c1, c2, c3⟩ := q _ _ _ h3
  have e1 := keyLits_term d x.1.1 x.1.2.1 x.1.2.2 a1 a2 a3
  have e2 := keyLits_term d x.2.1.1 x.2.1.2.1 x.2.1.2.2 b1 b2 b3
  have e3 := keyLits_term d x.2.2.1 x.2.2.2.1 x.2.2.2.2 c1 c2 c3
  unfold Program.keyLits
  simp only [Tryz.underlying44, cellsOfTr, encTr]
  simp [e1, e2, e3, litsTr, cellsOfTm]

theorem keyOf_tr (x : Tr) (h : chkTr x = 0) : keyOf Tryz.prog 44 (valTr x) = some (keyTr x) := by
  have hl := keyLits_triple (Tryz.prog.types.size - 2) x h
  have hsz : Tryz.prog.types.size - 2 + 3 = Tryz.prog.types.size + 1 := by
    have : 2 ≤ Tryz.prog.types.size := of_decide_eq_true (by kernel_rfl)
    omega
  rw [hsz] at hl
  have hf : (valTr x).formed Tryz.prog 44 = true := by
    simp [Value.formed, Tryz.underlying44, cellsOfTr, valTr]
  unfold keyOf
  rw [Tryz.underlying44]
  simp only [keyTypeTr, hf, Bool.and_self, if_true]
  have hc : (valTr x).cells.toList = encTr x := rfl
  rw [hc, hl]
  rfl

theorem list_of_array {a b : List UInt8} (h : (⟨a.toArray⟩ : ByteArray) = ⟨b.toArray⟩) : a = b := by
  have := congrArg (fun s : ByteArray => s.data.toList) h
  simpa using this

theorem valTr_inj {x y : Tr} (h : valTr x = valTr y) : x = y := by
  obtain ⟨⟨a1, a2, a3⟩, ⟨b1, b2, b3⟩, ⟨c1, c2, c3⟩⟩ := x
  obtain ⟨⟨a1', a2', a3'⟩, ⟨b1', b2', b3'⟩, ⟨c1', c2', c3'⟩⟩ := y
  simp only [valTr, Value.agg.injEq, Array.mk.injEq, List.cons.injEq, Value.int.injEq, Value.string.injEq, true_and, and_true] at h
  obtain ⟨h1, h2, h3, h4, h5, h6, h7, h8, h9⟩ := h
  rw [h1, list_of_array h2, list_of_array h3, h4, list_of_array h5, list_of_array h6, h7, list_of_array h8, list_of_array h9]

theorem keyTr_ne {x y : Tr} (hx : chkTr x = 0) (hy : chkTr y = 0) (h : x ≠ y) : keyTr x ≠ keyTr y := fun e => by
  have h1 := keyOf_tr x hx
  have h2 := keyOf_tr y hy
  rw [e] at h1
  exact h (valTr_inj (keyedTr.inj h1 h2))

/-- the map at a block holds just these triples -/
def InMap (w : World) (b : Nat) (l : List Tr) : Prop :=
  ∃ D : DataW Unit, w.ownsMap Tryz.prog 44 unitElem b l.length D ∧ ∀ x, chkTr x = 0 → Maps.has D (keyTr x) = decide (x ∈ l)

theorem inMap_made (w : World) : InMap (w.alloc (.map #[] 0)) w.heap.size [] :=
  ⟨.map [], World.ownsMap_made _ _ _ _, fun x _ => by simp [Maps.has_eq]⟩

theorem InMap.below {w w' : World} {b : Nat} {l : List Tr} (h : InMap w b l) (hb : RowKit.Below w.heap.size w w') : InMap w' b l := by
  obtain ⟨D, ⟨es, clock, hm, r⟩, hD⟩ := h
  have hlt : b < w.heap.size := (Array.getElem?_eq_some_iff.1 hm).1
  exact ⟨D, ⟨es, clock, (hb.block b hlt).trans hm, r⟩, hD⟩

theorem has_put {D : DataW Unit} {l : List Tr} {y : Tr} (hm : IsMap D) (hy : chkTr y = 0) (hD : ∀ x, chkTr x = 0 → Maps.has D (keyTr x) = decide (x ∈ l)) (d : DataW Unit) :
    ∀ x, chkTr x = 0 → Maps.has (D.put (keyTr y) d) (keyTr x) = decide (x ∈ l ++ [y]) := fun x hx => by
  by_cases e : x = y
  · subst e
    rw [Maps.has_put_same hm (keyedTr.key (keyOf_tr x hx))]
    simp
  · rw [Maps.has_put_other (keyTr_ne hx hy e), hD x hx]
    simp [e]

theorem zeroUnit (w : World) : (zeroValue 67).run Tryz.prog w = .ok (.agg #[]) w := by kernel_rfl
end Go.Proofs.YtifkcoappflenagGreatDoor

/- asker: a map of a list's triples, and the question whether one is in it. -/
namespace Go.Proofs.YtifkcoappflenagGreatDoor
open Go Go.RowKit Go.Proofs Go.Maps
set_option synthInstance.maxSize 1000

/-- at a block lies the map of these triples -/
def AskOK (w : World) (bx : Nat) (l : List Tr) : Prop := ∃ bm, w.cell? ⟨bx, 0, none⟩ = some (.map (some bm)) ∧ InMap w bm l

theorem AskOK.below {w w' : World} {bx : Nat} {l : List Tr} (h : AskOK w bx l) (hb : RowKit.Below w.heap.size w w') : AskOK w' bx l := by
  obtain ⟨bm, hc, hm⟩ := h
  exact ⟨bm, (hb.cell (World.block_lt_of_cell? w _ hc)).trans hc, hm.below hb⟩

set_option maxHeartbeats 1000000 in
set_option maxRecDepth 100000 in
theorem ask_any (bx : Nat) (l : List Tr) (x : Tr) (w : World) (h : AskOK w bx l) (hx : chkTr x = 0) :
    Calls Tryz.prog 58 #[valTr x, .pointer (some ⟨bx, 0, none⟩)] w fun e w' => e = .returned (.bool (decide (x ∈ l))) ∧ RowKit.Below w.heap.size w w' := by
  obtain ⟨bm, hc, D, hown, hD⟩ := h
  have hkey := keyOf_tr x hx
  have hd : Hid (Maps.has D (keyTr x) = decide (x ∈ l)) := hD x hx
  have hbx : bx < w.heap.size := World.block_lt_of_cell? w _ hc
  clear hD
  unfold valTr at hkey ⊢
  go_enter Tryz.func58, Tryz.ntmps58
  go_wp2_with (first
    | (at_lookup; refine wpList_lookup_own_unit _ rfl _ _ 99 rfl 44 67 keyedTr Tryz.underlying99 (zeroUnit _) bm _ _ rfl (hown.alloc _) _ _ rfl hkey ?_))
  go_ret
  exact ⟨ret_bool hd.out, bstep (balloc _ _) (balloc _ _)⟩

theorem enters58 : ∀ args w, (callFunc 58 args).run Tryz.prog w = .ok (.enter 58 args) w := enters_of Tryz.func58 (by kernel_rfl) rfl

theorem makeMapHint (n : Int) (w : World) : (Instr.makeMap 99 (some (.int .i64 n))).run Tryz.prog w = .ok (.map (some w.heap.size)) (w.alloc (.map #[] 0)) := by kernel_rfl

set_option maxHeartbeats 2000000 in
set_option maxRecDepth 100000 in
theorem asker_any (ad : Option Addr) (cap : Nat) (l : List Tr) (w : World) (h : SlT w ad l) (hs : ∀ x ∈ l, chkTr x = 0) (h200 : l.length ≤ 200) :
    Calls Tryz.prog 41 #[.slice ad l.length cap] w fun e w' => ∃ bx, e = .returned (.func (.func 58) #[] #[.pointer (some ⟨bx, 0, none⟩)]) ∧ AskOK w' bx l ∧ RowKit.Below w.heap.size w w' := by
  have hmm := makeMapHint
  have Hl : Hid (SlT w ad l) := h
  have Hs : Hid (∀ x ∈ l, chkTr x = 0) := hs
  clear h hs
  go_enter Tryz.func41, Tryz.ntmps41
  go_wp2_with fail
  go_loopw [11] (fun i wr => ∃ k : Nat, k ≤ l.length ∧ i = .int .i64 k ∧ Hid (InMap wr w.heap.size (l.take k)) ∧ wr.cell? ⟨w.heap.size + 1, 0, none⟩ = some (.map (some w.heap.size)) ∧ RowKit.Below w.heap.size w wr) (fun i wr => l.length - (intOf i).toNat)
  case atStart =>
    refine ⟨0, Nat.zero_le _, rfl, ?_, by go_simp, ?_⟩
    · show InMap _ _ _
      rw [List.take_zero]
      exact (inMap_made w).below (balloc _ _)
    · exact bstep (balloc _ _) (balloc _ _)
  case round =>
    obtain ⟨k, hk, rfl, hin, hcb, hbr⟩ := hrel
    by_cases hlt : k < l.length
    · obtain ⟨b, o, rfl, hr⟩ := (Hl.out.below hbr).at k hlt
      obtain ⟨c0, c1, c2, c3, c4, c5, c6, c7, c8⟩ := hr.at k hlt
      have i0 : (0 : Int) ≤ (k : Int) := by omega
      have i1 : (k : Int) < (l.length : Int) := by omega
      obtain ⟨D, hown0, hD0⟩ := hin.out
      have hlen : (l.take k).length = k := by simp; omega
      rw [hlen] at hown0
      have hown : Hid (wr.ownsMap Tryz.prog 44 unitElem w.heap.size k D) := hown0
      have hy : Hid (chkTr l[k] = 0) := Hs.out _ (List.getElem_mem hlt)
      have hput : Hid (∀ x, chkTr x = 0 → Maps.has (D.put (keyTr l[k]) (.agg [])) (keyTr x) = decide (x ∈ l.take (k + 1))) := by
        have := has_put hown0.isMap hy.out hD0 (.agg [])
        rw [List.take_succ_eq_append_getElem hlt]
        exact this
      have hkey := keyOf_tr l[k] hy.out
      have hzr := hbr.size
      have hb1 : w.heap.size + 1 < wr.heap.size := World.block_lt_of_cell? wr _ hcb
      clear hr hown0 hD0 hin
      have hlen2 : Hid ((l.take (k + 1)).length = k + 1) := by show _ = _; simp; omega
      generalize l[k] = y at *
      unfold valTr at hkey
      go_wp2_with (first
        | (at_mapUpdate; refine wpList_mapUpdate_own _ rfl _ _ _ 99 rfl 44 67 keyedTr Tryz.underlying99 (unitElem (H := Unit)) w.heap.size k _ rfl (hown.out.alloc _) (by unfold maxLen; omega) _ _ _ rfl rfl hkey _ [] unitElem_mk ?_; intro w1 hown1 hgrow1))
      go_roundw
      case rel =>
        refine ⟨k + 1, by omega, by go_num, ⟨_, by rw [hlen2.out]; exact hown1, hput.out⟩, ?_, ?_⟩
        · have q := hgrow1.block (w.heap.size + 1) (by simp; omega) (by simp)
          have := (balloc wr (.cells (encTr y).toArray 44)).cell (p := ⟨w.heap.size + 1, 0, none⟩) hb1
          rw [hcb] at this
          simp only [World.cell?] at this ⊢
          rw [q]
          exact this
        · exact (hbr.alloc hzr _).grown hgrow1 (by simp; omega) (fun j hj => by cases hj; exact Nat.le_refl _)
      case measure => simp [intOf]; omega
    · obtain rfl : k = l.length := by omega
      go_wp2_with fail
      go_ret
      refine ⟨w.heap.size + 1, rfl, ⟨w.heap.size, hcb, ?_⟩, hbr⟩
      have := hin.out
      rwa [List.take_length] at this
end Go.Proofs.YtifkcoappflenagGreatDoor

/- keep: those of a list that are wanted; the questions of Join and Less. -/
namespace Go.Proofs.YtifkcoappflenagGreatDoor
open Go Go.RowKit Go.Proofs Go.Maps
set_option synthInstance.maxSize 1000

/-- at a block lies the question whether a triple is among these -/
def NotOK (w : World) (by1 : Nat) (l : List Tr) : Prop := ∃ bx, w.cell? ⟨by1, 0, none⟩ = some (.func (.func 58) #[] #[.pointer (some ⟨bx, 0, none⟩)]) ∧ AskOK w bx l

theorem NotOK.below {w w' : World} {bx : Nat} {l : List Tr} (h : NotOK w bx l) (hb : RowKit.Below w.heap.size w w') : NotOK w' bx l := by
  obtain ⟨bm, hc, hm⟩ := h
  exact ⟨bm, (hb.cell (World.block_lt_of_cell? w _ hc)).trans hc, hm.below hb⟩

set_option maxHeartbeats 1000000 in
set_option maxRecDepth 100000 in
theorem notLess_any (by1 : Nat) (l : List Tr) (x : Tr) (w : World) (h : NotOK w by1 l) (hx : chkTr x = 0) :
    Calls Tryz.prog 69 #[valTr x, .pointer (some ⟨by1, 0, none⟩)] w fun e w' => e = .returned (.bool (!decide (x ∈ l))) ∧ RowKit.Below w.heap.size w w' := by
  obtain ⟨bx, hc, ha⟩ := h
  have H := fun W (hW : AskOK W bx l) => ask_any bx l x W hW hx
  have Ha : Hid (AskOK w bx l) := ha
  have hbx : by1 < w.heap.size := World.block_lt_of_cell? w _ hc
  have eg := enters58
  generalize decide (x ∈ l) = d at H ⊢
  clear ha hx
  unfold valTr at H ⊢
  go_enter Tryz.func69, Tryz.ntmps69
  go_wp2_with fail
  go_at_fn 58
  refine (H _ (Ha.out.below (balloc _ _))).mono ?_
  rintro e w1 ⟨rfl, hb1⟩
  go_wp2_with fail
  go_ret
  exact ⟨rfl, bstep (balloc _ _) hb1⟩

theorem enters69 : ∀ args w, (callFunc 69 args).run Tryz.prog w = .ok (.enter 69 args) w := enters_of Tryz.func69 (by kernel_rfl) rfl

theorem filter_step (l : List Tr) (p : Tr → Bool) (k : Nat) (h : k < l.length) : (l.take (k + 1)).filter p = (l.take k).filter p ++ (if p l[k] then [l[k]] else []) := by
  rw [List.take_succ_eq_append_getElem h, List.filter_append]
  cases hp : p l[k] <;> simp [hp]

set_option maxHeartbeats 4000000 in
set_option maxRecDepth 100000 in
theorem keep_any (ad : Option Addr) (cap g bl : Nat) (l : List Tr) (p : Tr → Bool) (w : World) (h : SlT w ad l) (h200 : l.length ≤ 200)
    (eg : ∀ args w, (callFunc g args).run Tryz.prog w = .ok (.enter g args) w)
    (hf : ∀ x ∈ l, ∀ W : World, RowKit.Below w.heap.size w W → Calls Tryz.prog g #[valTr x, .pointer (some ⟨bl, 0, none⟩)] W fun e w' => e = .returned (.bool (p x)) ∧ RowKit.Below W.heap.size W w') :
    Calls Tryz.prog 40 #[.slice ad l.length cap, .func (.func g) #[] #[.pointer (some ⟨bl, 0, none⟩)]] w fun e w' => ∃ ad' cap', e = .returned (.slice ad' (l.filter p).length cap') ∧ SlT w' ad' (l.filter p) ∧ RowKit.Below w.heap.size w w' := by
  have Hl : Hid (SlT w ad l) := h
  have Hf : Hid (∀ x ∈ l, ∀ W : World, RowKit.Below w.heap.size w W → Calls Tryz.prog g #[valTr x, .pointer (some ⟨bl, 0, none⟩)] W fun e w' => e = .returned (.bool (p x)) ∧ RowKit.Below W.heap.size W w') := hf
  clear h hf
  obtain ⟨i0, hi, hz⟩ := Option.map_eq_some_iff.1 infoTr
  simp only [Prod.mk.injEq] at hz
  obtain ⟨hz0, hz1, hz2⟩ := hz
  go_enter Tryz.func40, Tryz.ntmps40
  go_wp2_with fail
  go_loopw [5, 10] (fun v i wr => ∃ k : Nat, k ≤ l.length ∧ i = .int .i64 k ∧ Hid (wr.ownsRow w.heap.size 44 9 v ((l.take k).filter p).length (cellsT ((l.take k).filter p))) ∧ RowKit.Below w.heap.size w wr) (fun _ i wr => l.length - (intOf i).toNat)
  case atStart => exact ⟨0, Nat.zero_le _, rfl, by show World.ownsRow _ _ _ _ _ _ _; rw [List.take_zero]; exact World.ownsRow_nil _ _ _ _, RowKit.Below.refl _ _⟩
  case round =>
    obtain ⟨k, hk, rfl, hown, hbr⟩ := hrel
    by_cases hlt : k < l.length
    · obtain ⟨b, o, rfl, hr⟩ := (Hl.out.below hbr).at k hlt
      obtain ⟨c0, c1, c2, c3, c4, c5, c6, c7, c8⟩ := hr.at k hlt
      have i0' : (0 : Int) ≤ (k : Int) := by omega
      have i1 : (k : Int) < (l.length : Int) := by omega
      have hstep : Hid _ := filter_step l p k hlt
      have hfil : ((l.take k).filter p).length ≤ k := Nat.le_trans (List.length_filter_le _ _) (by simp; omega)
      have H := Hf.out l[k] (List.getElem_mem hlt)
      have hzr := hbr.size
      generalize ht : (l.take (k + 1)).filter p = t1 at hstep
      have Ht : Hid _ := ht
      generalize (l.take k).filter p = t0 at *
      generalize l[k] = y at *
      clear hr ht
      cases hp : p y
      · rw [hp] at H
        have hs2 : Hid (t1 = t0) := by have := hstep.out; rw [hp] at this; simpa [Hid] using this
        unfold valTr at H
        go_wp2_with fail
        go_at_fn g
        refine (H _ (bstep hbr (balloc _ _))).mono ?_
        rintro e w1 ⟨rfl, hb1⟩
        go_wp2_with fail
        go_roundw
        case rel =>
          refine ⟨k + 1, by omega, by go_num, ?_, bstep (bstep hbr (balloc _ _)) hb1⟩
          show World.ownsRow _ _ _ _ _ _ _
          rw [Ht.out, hs2.out]
          exact ownsRow_below (hown.out.alloc _) hb1
        case measure => simp [intOf]; omega
      · rw [hp] at H
        have hs2 : Hid (t1 = t0 ++ [y]) := by have := hstep.out; rw [hp] at this; simpa [Hid] using this
        unfold valTr at H
        go_wp2_with fail
        go_at_fn g
        refine (H _ (bstep hbr (balloc _ _))).mono ?_
        rintro e w1 ⟨rfl, hb1⟩
        have hrow1 : Hid (w1.ownsRow w.heap.size 44 9 _ t0.length (cellsT t0)) := ownsRow_below (hown.out.alloc _) hb1
        have hB1 := bstep (bstep hbr (balloc _ _)) hb1
        have hz1' := hB1.size
        obtain ⟨a0, a1, a2, b0, b1, b2, d0, d1, d2, hzz⟩ := ninebox hb1
        clear c0 c1 c2 c3 c4 c5 c6 c7 c8 hown
        go_wp2_with (at_builtin; refine wpList_append_own _ rfl _ _ 22 rfl w.heap.size 44 i0 (.agg (encTr zeroTr).toArray) 9 120 Tryz.underlying22 hi hz0 hz1 hz2 rfl (by decide) _ _ _ rfl (hrow1.out.alloc _) ⟨w1.heap.size, 0, none⟩ 1 1 (encTr y) rfl rfl ?c1 ?c2 ?c3 ?c4 ?c5 ?_)
        case c1 =>
          intro i u hi'
          have h9 : i < 9 := (List.getElem?_eq_some_iff.1 hi').1
          rw [Addr.add_lit]
          rcases (by omega : i = 0 ∨ i = 1 ∨ i = 2 ∨ i = 3 ∨ i = 4 ∨ i = 5 ∨ i = 6 ∨ i = 7 ∨ i = 8) with rfl | rfl | rfl | rfl | rfl | rfl | rfl | rfl | rfl
          all_goals
            simp [encTr] at hi'
            subst hi'
            go_simp
        case c2 => exact encTr_one y
        case c3 => unfold maxLen; omega
        case c4 => omega
        case c5 => simp; omega
        intro v' w9 hown' hgrow _
        have hbel := (hB1.alloc hz1' (.cells (encTr y).toArray 44)).grown hgrow (by simp; omega) (fun k hk => (hrow1.out.lt k hk).1)
        go_wp2_with fail
        go_roundw
        case rel =>
          refine ⟨k + 1, by omega, by go_num, ?_, hbel⟩
          show World.ownsRow _ _ _ _ _ _ _
          rw [Ht.out, hs2.out]
          simpa [cellsT] using hown'
        case measure => simp [intOf]; omega
    · obtain rfl : k = l.length := by omega
      have hown' := hown.out
      rw [List.take_length] at hown'
      obtain ⟨ad', cap', rfl, hsl⟩ := own_slT hown'
      clear hown' hown
      go_wp2_with fail
      go_ret
      exact ⟨ad', cap', rfl, hsl, hbr⟩
end Go.Proofs.YtifkcoappflenagGreatDoor

/- slices.Grow of nothing, slices.Concat of two lists of triples. -/
namespace Go.Proofs.YtifkcoappflenagGreatDoor
open Go Go.RowKit Go.Proofs
set_option synthInstance.maxSize 1000

set_option maxHeartbeats 1000000 in
set_option maxRecDepth 100000 in
theorem Grow_none (w : World) : Calls Tryz.prog 50 #[.slice none 0 0, .int .i64 0] w fun e w' => e = .returned (.slice none 0 0) ∧ w' = w := by
  go_enter Tryz.func50, Tryz.ntmps50
  go_wp2
  go_ret
  exact ⟨rfl, rfl⟩

set_option maxHeartbeats 1000000 in
set_option maxRecDepth 100000 in
theorem Grow_some (n : Nat) (w : World) (hn : 0 < n) (h400 : n ≤ 400) :
    Calls Tryz.prog 50 #[.slice none 0 0, .int .i64 n] w fun e w' => ∃ c, e = .returned (.slice (some ⟨w.heap.size, 0, none⟩) 0 c) ∧ w'.ownsRow w.heap.size 44 9 (.slice (some ⟨w.heap.size, 0, none⟩) 0 c) 0 [] ∧ RowKit.Below w.heap.size w w' := by
  obtain ⟨i0, hi, hz⟩ := Option.map_eq_some_iff.1 infoTr
  simp only [Prod.mk.injEq] at hz
  obtain ⟨hz0, hz1, hz2⟩ := hz
  have hrz := fun ty => Lib.run_append_nil_zeros w 22 3 ty 44 i0 _ .i64 .i64 Tryz.underlying22 Tryz.underlying3 hi hz0 n hn (by rw [hz1]; omega) (by omega) (by rw [hz2]; omega)
  have hge := grownCap_ge w n 0 44
  have hle := grownCap_le_maxLen w n 0 44 (by unfold maxLen; omega)
  generalize grownCap w n 0 44 = c at *
  have hd : decide ((n : Int) > 0) = true := by simp; omega
  have hd0 : decide ((n : Int) < 0) = false := by simp
  have hle' : c ≤ 9223372036854775807 := by unfold maxLen at hle; omega
  go_enter Tryz.func50, Tryz.ntmps50
  go_wp2_with (at_builtin; refine Lib.wpList_append_run _ rfl _ _ _ _ rfl _ _ rfl rfl _ _ (hrz _) ?_)
  go_ret
  refine ⟨c, rfl, ⟨rfl, Or.inr ⟨w.heap.size, c, _, rfl, Nat.le_refl _, (MapKept.heap_alloc w.drew _).1, Nat.zero_le _, hle, ?_, by simp⟩⟩, (RowKit.Below.refl _ _).drew.alloc (Nat.le_refl _) _⟩
  simp [Builtin.zeroCells, encTr]
  omega

theorem append_empty {base n : Nat} {v : Value} {cs : List Value} {W : World} (h : W.ownsRow base 44 9 v n cs) (ad : Option Addr) (cap : Nat) (ty : TypeId) :
    (Builtin.append_ #[22, 22] ty #[v, .slice ad 0 cap]).run Tryz.prog W = .ok v W := by
  obtain ⟨i, hi, hz⟩ := Option.map_eq_some_iff.1 infoTr
  have hf : (Builtin.firstCells i.size 0 (.slice ad 0 cap)).run Tryz.prog W = .ok #[] W := by
    cases ad with
    | none => exact run_firstCells_none W _ _ _ _
    | some a => exact run_firstCells_some (P := Tryz.prog) W i.size 0 a 0 cap [] (by simp) (by simp)
  rcases h.2 with ⟨rfl, h0⟩ | ⟨g, c, cur, rfl, _, _, hle, _⟩
  · simp [Builtin.append_, run_underlying Tryz.underlying22, sizeOf, typeInfo, hi, Builtin.lenOf, hf]
  · simp [Builtin.append_, run_underlying Tryz.underlying22, sizeOf, typeInfo, hi, Builtin.lenOf, hf, hle, storeCells]

/-- an append of a list to a row of one's own, for the walk -/
theorem wpList_append_list {ops : Array Oper} {rest : List Oper} {o : Oper} {a : Act} {Q : Exit → Act → World → Prop} (w : World) (hgd : o.guard = none) (s x : Operand)
    (ho : o.op = .call { callee := .builtin .append, args := #[s, x], argTypes := #[22, 22] })
    (base : Nat) (v : Value) (t l : List Tr) (ad : Option Addr) (c : Nat) (hs : a.eval s = v) (hx : a.eval x = .slice ad l.length c) (hown : w.ownsRow base 44 9 v t.length (cellsT t)) (hl : SlT w ad l)
    (h63 : t.length + l.length ≤ 1000000) (hbase : base ≤ w.heap.size)
    (h : ∀ v' w', w'.ownsRow base 44 9 v' (t ++ l).length (cellsT (t ++ l)) → RowKit.Below base w w' → wpList Tryz.prog ops Q rest (a.put o.dst v') w') : wpList Tryz.prog ops Q (o :: rest) a w := by
  obtain ⟨i0, hi, hz⟩ := Option.map_eq_some_iff.1 infoTr
  simp only [Prod.mk.injEq] at hz
  obtain ⟨hz0, hz1, hz2⟩ := hz
  cases l with
  | nil =>
    refine Lib.wpList_append_run w hgd s x _ _ ho v _ hs hx v w (append_empty hown ad c _) (h v w ?_ (RowKit.Below.refl _ _))
    simpa using hown
  | cons y r =>
    obtain ⟨b, off, rfl, hr⟩ := hl (by simp)
    refine wpList_append_own w hgd s x _ ho base 44 i0 (.agg (encTr zeroTr).toArray) 9 120 Tryz.underlying22 hi hz0 hz1 hz2 rfl (by decide) v t.length (cellsT t) hs hown ⟨b, off, none⟩ (y :: r).length c (cellsT (y :: r)) hx (cellsT_len _) ?_ (cellsT_one _) (by unfold maxLen; omega) (by omega) hbase ?_
    · intro j u hj
      rw [Addr.add_lit]
      exact hr j u hj
    · intro v' w' h2 h3 _
      refine h v' w' ?_ ((RowKit.Below.refl _ _).grown h3 hbase (fun k hk => (hown.lt k hk).1))
      rw [List.length_append]
      simpa [cellsT] using h2

theorem wrapN (n : Nat) (h : n ≤ 1000000) : IntKind.i64.wrap (n : Int) = n := by simp [IntKind.wrap, IntKind.bits, IntKind.signed]; omega

set_option maxHeartbeats 4000000 in
set_option maxRecDepth 100000 in
theorem Concat_any (bs : Nat) (ad ad' : Option Addr) (ca cb : Nat) (l m : List Tr) (w : World) (h0 : w.cell? ⟨bs, 0, none⟩ = some (.slice ad l.length ca)) (h1 : w.cell? ⟨bs, 1, none⟩ = some (.slice ad' m.length cb))
    (hl : SlT w ad l) (hm : SlT w ad' m) (hl2 : l.length ≤ 200) (hm2 : m.length ≤ 200) :
    Calls Tryz.prog 28 #[.slice (some ⟨bs, 0, none⟩) 2 2] w fun e w' => ∃ ad'' c, e = .returned (.slice ad'' (l ++ m).length c) ∧ SlT w' ad'' (l ++ m) ∧ RowKit.Below w.heap.size w w' := by
  have Hl : Hid (SlT w ad l) := hl
  have Hm : Hid (SlT w ad' m) := hm
  have hbs : bs < w.heap.size := World.block_lt_of_cell? w _ h0
  clear hl hm
  go_enter Tryz.func28, Tryz.ntmps28
  go_wp2_with fail
  go_loopw [3, 11] (fun s i wr => ∃ k : Nat, k ≤ 2 ∧ i = .int .i64 k ∧ s = .int .i64 ((if 0 < k then l.length else 0 : Nat) + (if 1 < k then m.length else 0 : Nat) : Int) ∧ w = wr) (fun _ i wr => 2 - (intOf i).toNat)
  case atStart => exact ⟨0, by omega, rfl, rfl, rfl⟩
  case round =>
    obtain ⟨k, hk, rfl, rfl, rfl⟩ := hrel
    rcases (by omega : k = 0 ∨ k = 1 ∨ k = 2) with rfl | rfl | rfl
    · go_wp2_with fail
      exact ⟨⟨1, by omega, rfl, by simp, trivial⟩, by simp [intOf]⟩
    · go_wp2_with fail
      exact ⟨⟨2, by omega, rfl, by simp, trivial⟩, by simp [intOf]⟩
    · have HG : ∀ W : World, Calls Tryz.prog 50 #[.slice none 0 0, .int .i64 ((l.length : Int) + (m.length : Int))] W fun e w' => ∃ v, e = .returned v ∧ w'.ownsRow W.heap.size 44 9 v 0 [] ∧ RowKit.Below W.heap.size W w' := by
        intro W
        by_cases hz : l.length + m.length = 0
        · rw [show (l.length : Int) + (m.length : Int) = 0 by omega]
          refine (Grow_none W).mono ?_
          rintro e w' ⟨rfl, rfl⟩
          exact ⟨_, rfl, World.ownsRow_nil _ _ _ _, RowKit.Below.refl _ _⟩
        · have := Grow_some (l.length + m.length) W (by omega) (by omega)
          rw [show ((l.length + m.length : Nat) : Int) = (l.length : Int) + (m.length : Int) by omega] at this
          refine this.mono ?_
          rintro e w' ⟨c, rfl, h1, h2⟩
          exact ⟨_, rfl, h1, h2⟩
      go_wp2_with fail
      refine (HG _).mono ?_
      rintro e w1 ⟨v, rfl, hown, hb1⟩
      have Hown : Hid (w1.ownsRow w.heap.size 44 9 v 0 []) := hown
      clear hown HG
      go_wp2_with fail
      go_loopw [6, 27] (fun v i wr => ∃ k : Nat, k ≤ 2 ∧ i = .int .i64 k ∧ Hid (wr.ownsRow w.heap.size 44 9 v ((if 0 < k then l else []) ++ (if 1 < k then m else [])).length (cellsT ((if 0 < k then l else []) ++ (if 1 < k then m else [])))) ∧ RowKit.Below w.heap.size w wr) (fun _ i wr => 2 - (intOf i).toNat)
      case atStart => exact ⟨0, by omega, rfl, Hown.out, hb1⟩
      case round =>
        obtain ⟨k, hk, rfl, hown, hbr⟩ := hrel
        have hc0 : wr.cell? ⟨bs, 0, none⟩ = some (.slice ad l.length ca) := (hbr.cell hbs).trans h0
        have hc1 : wr.cell? ⟨bs, 1, none⟩ = some (.slice ad' m.length cb) := (hbr.cell hbs).trans h1
        have hzr := hbr.size
        rcases (by omega : k = 0 ∨ k = 1 ∨ k = 2) with rfl | rfl | rfl
        · have hown' : Hid (wr.ownsRow w.heap.size 44 9 _ ([] : List Tr).length (cellsT [])) := hown.out
          clear hown
          go_wp2_with (at_builtin; refine wpList_append_list _ rfl _ _ rfl w.heap.size _ [] l ad ca rfl rfl hown'.out (Hl.out.below hbr) (by simp; omega) hzr ?_; intro v' w' hown2 hb2)
          exact ⟨⟨1, by omega, rfl, by show World.ownsRow _ _ _ _ _ _ _; simpa using hown2, hbr.trans hb2⟩, by simp [intOf]⟩
        · have hown1 := hown.out
          rw [show ((if 0 < 1 then l else []) ++ (if 1 < 1 then m else [])) = l by simp] at hown1
          have hown' : Hid _ := hown1
          clear hown hown1
          go_wp2_with (at_builtin; refine wpList_append_list _ rfl _ _ rfl w.heap.size _ l m ad' cb rfl rfl hown'.out (Hm.out.below hbr) (by omega) hzr ?_; intro v' w' hown2 hb2)
          exact ⟨⟨2, by omega, rfl, by show World.ownsRow _ _ _ _ _ _ _; simpa using hown2, hbr.trans hb2⟩, by simp [intOf]⟩
        · have hown' := hown.out
          rw [show ((if 0 < 2 then l else []) ++ (if 1 < 2 then m else [])) = l ++ m by simp] at hown'
          obtain ⟨ad'', c, rfl, hsl⟩ := own_slT hown'
          clear hown' hown
          go_wp2_with fail
          go_ret
          exact ⟨ad'', c, rfl, hsl, hbr⟩
end Go.Proofs.YtifkcoappflenagGreatDoor

/- Join, Less, Both, Has: what they tell. -/
namespace Go.Proofs.YtifkcoappflenagGreatDoor
open Go Go.RowKit Go.Proofs
open Go.Maps
set_option synthInstance.maxSize 1000

attribute [local go_sem] eql_errV neq_errV guard_errV

/-- what is wrong with two sets -/
def bothN (a b : List Tr) : Int := if sortedN a = 0 then sortedN b else sortedN a
theorem bothN_zero {a b : List Tr} : bothN a b = 0 ↔ IsSet a ∧ IsSet b := by
  unfold bothN
  by_cases h : sortedN a = 0
  · rw [if_pos h, sortedN_set]
    exact ⟨fun hb => ⟨sortedN_set.1 h, hb⟩, fun hb => hb.2⟩
  · rw [if_neg h]
    exact ⟨fun hb => absurd hb h, fun hb => absurd (sortedN_set.2 hb.1) h⟩

set_option maxHeartbeats 1000000 in
theorem bothSorted_any (ad bd : Option Addr) (ca cb : Nat) (a b : List Tr) (w : World) (ha : SlT w ad a) (hb : SlT w bd b) (fa : ∀ x ∈ a, fitTr x) (fb : ∀ x ∈ b, fitTr x) (na : a.length ≤ 9223372036854775807) (nb : b.length ≤ 9223372036854775807) :
    Calls Tryz.prog 39 #[.slice ad a.length ca, .slice bd b.length cb] w fun e w' => e = .returned (errV (bothN a b)) ∧ RowKit.Below w.heap.size w w' := by
  have H1 := fun W hW => Sorted_any ad ca a W hW fa na
  have H2 := fun W hW => Sorted_any bd cb b W hW fb nb
  have fin : Hid (bothN a b = if sortedN a = 0 then sortedN b else sortedN a) := rfl
  have Ha : Hid (SlT w ad a) := ha
  have Hb : Hid (SlT w bd b) := hb
  generalize sortedN a = n at H1 fin
  generalize sortedN b = m at H2 fin
  clear ha hb fa fb na nb
  cases hn : (n == 0)
  · go_enter Tryz.func39, Tryz.ntmps39
    go_wp2_with fail
    refine (H1 _ Ha.out).mono ?_
    rintro e w1 ⟨rfl, hb1⟩
    go_wp2_with fail
    go_ret
    simp at hn
    exact ⟨ret_val (by rw [fin.out, if_neg hn]; rfl), hb1⟩
  · go_enter Tryz.func39, Tryz.ntmps39
    go_wp2_with fail
    refine (H1 _ Ha.out).mono ?_
    rintro e w1 ⟨rfl, hb1⟩
    go_wp2_with fail
    refine (H2 _ (Hb.out.below hb1)).mono ?_
    rintro e w2 ⟨rfl, hb2⟩
    go_wp2_with fail
    go_ret
    simp at hn
    exact ⟨ret_val (by rw [fin.out, if_pos hn]; rfl), bstep hb1 hb2⟩

/-- a call's answer: a list and a number -/
def Ans (n : Int) (P : List Tr → Prop) (w : World) (e : Ending) (w' : World) : Prop := RowKit.Below w.heap.size w w' ∧ ∃ (m : List Tr) (ad : Option Addr) (c : Nat), e = .returned (.tuple #[.slice ad m.length c, errV n]) ∧ SlT w' ad m ∧ P m

theorem Ans.mk {n : Int} {P : List Tr → Prop} {w w' : World} (hb : RowKit.Below w.heap.size w w') (m : List Tr) (ad : Option Addr) (c : Nat) (hs : SlT w' ad m) (hp : P m) : Ans n P w (.returned (.tuple #[.slice ad m.length c, errV n])) w' := ⟨hb, m, ad, c, rfl, hs, hp⟩
theorem slT_nil (W : World) (ad : Option Addr) : SlT W ad [] := fun h => absurd rfl h

def LessAns (a b m : List Tr) : Prop := m = if bothN a b = 0 then lessL a b else []
def BothAns (a b m : List Tr) : Prop := m = if bothN a b = 0 then bothL a b else []

set_option maxHeartbeats 2000000 in
set_option maxRecDepth 100000 in
theorem Less_any (ad bd : Option Addr) (ca cb : Nat) (a b : List Tr) (w : World) (ha : SlT w ad a) (hb : SlT w bd b) (fa : ∀ x ∈ a, fitTr x) (fb : ∀ x ∈ b, fitTr x) (na : a.length ≤ 9223372036854775807) (nb : b.length ≤ 9223372036854775807) :
    Calls Tryz.prog 49 #[.slice ad a.length ca, .slice bd b.length cb] w (Ans (bothN a b) (LessAns a b) w) := by
  have H := fun W h1 h2 => bothSorted_any ad bd ca cb a b W h1 h2 fa fb na nb
  have Ha : Hid (SlT w ad a) := ha
  have Hb : Hid (SlT w bd b) := hb
  have hz0 := @bothN_zero a b
  have hA0 : Hid (bothN a b ≠ 0 → LessAns a b []) := fun h => by unfold LessAns; rw [if_neg h]
  have hA1 : Hid (bothN a b = 0 → LessAns a b (lessL a b)) := fun h => by unfold LessAns; rw [if_pos h]
  generalize LessAns a b = LA at *
  generalize bothN a b = n at *
  clear ha hb fa fb na nb
  cases hn : (n == 0)
  · clear hz0
    go_enter Tryz.func49, Tryz.ntmps49
    go_wp2_with fail
    refine (H _ Ha.out Hb.out).mono ?_
    rintro e w1 ⟨rfl, hb1⟩
    go_wp2_with fail
    refine bodyPost_ret (v := .tuple #[.slice none 0 0, errV n]) (by simp [results, Tryz.results49, go_sem]) rfl (Ans.mk hb1 [] none 0 (slT_nil _ _) (hA0.out (by simpa using hn)))
  · obtain ⟨sa, sb⟩ := hz0.1 (by simpa using hn)
    have HK := fun W hW (bl : Nat) (hN : NotOK W bl b) => keep_any ad ca 69 bl a (fun x => !decide (x ∈ b)) W hW sa.1 enters69 (fun x hx W' hW' => notLess_any bl b x W' (hN.below hW') (sa.2.1 x hx))
    have HA := fun W hW => asker_any bd cb b W hW sb.2.1 sb.1
    have h0 : n = 0 := by simpa using hn
    have hA2 : Hid _ := hA1.out h0
    clear hA0 hA1
    subst h0
    rw [show errV 0 = .nilIface from rfl] at H
    clear sa sb hz0 hn
    go_enter Tryz.func49, Tryz.ntmps49
    go_wp2_with fail
    refine (H _ Ha.out Hb.out).mono ?_
    rintro e w1 ⟨rfl, hb1⟩
    go_wp2_with fail
    refine (HA _ (Hb.out.below hb1)).mono ?_
    rintro e w2 ⟨bx, rfl, hask, hb2⟩
    have hB2 := bstep hb1 hb2
    have Hask : Hid (AskOK w2 bx b) := hask
    clear hask
    go_wp2_with fail
    refine (HK _ ?h1 _ ?h2).mono ?_
    case h1 => exact Ha.out.below (bstep hB2 (balloc _ _))
    case h2 => exact ⟨bx, by go_simp, Hask.out.below (balloc _ _)⟩
    rintro e w3 ⟨ad', c', rfl, hsl, hb3⟩
    go_wp2_with fail
    refine bodyPost_ret (v := .tuple #[.slice ad' (a.filter fun x => !decide (x ∈ b)).length c', .nilIface]) (by simp [results, Tryz.results49, go_sem]) rfl (Ans.mk (n := 0) (bstep (bstep hB2 (balloc _ _)) hb3) _ ad' c' hsl hA2.out)

set_option maxHeartbeats 2000000 in
set_option maxRecDepth 100000 in
theorem Both_any (ad bd : Option Addr) (ca cb : Nat) (a b : List Tr) (w : World) (ha : SlT w ad a) (hb : SlT w bd b) (fa : ∀ x ∈ a, fitTr x) (fb : ∀ x ∈ b, fitTr x) (na : a.length ≤ 9223372036854775807) (nb : b.length ≤ 9223372036854775807) :
    Calls Tryz.prog 17 #[.slice ad a.length ca, .slice bd b.length cb] w (Ans (bothN a b) (BothAns a b) w) := by
  have H := fun W h1 h2 => bothSorted_any ad bd ca cb a b W h1 h2 fa fb na nb
  have Ha : Hid (SlT w ad a) := ha
  have Hb : Hid (SlT w bd b) := hb
  have hz0 := @bothN_zero a b
  have hA0 : Hid (bothN a b ≠ 0 → BothAns a b []) := fun h => by unfold BothAns; rw [if_neg h]
  have hA1 : Hid (bothN a b = 0 → BothAns a b (bothL a b)) := fun h => by unfold BothAns; rw [if_pos h]
  generalize BothAns a b = LA at *
  generalize bothN a b = n at *
  clear ha hb fa fb na nb
  cases hn : (n == 0)
  · clear hz0
    go_enter Tryz.func17, Tryz.ntmps17
    go_wp2_with fail
    refine (H _ Ha.out Hb.out).mono ?_
    rintro e w1 ⟨rfl, hb1⟩
    go_wp2_with fail
    refine bodyPost_ret (v := .tuple #[.slice none 0 0, errV n]) (by simp [results, Tryz.results17, go_sem]) rfl (Ans.mk hb1 [] none 0 (slT_nil _ _) (hA0.out (by simpa using hn)))
  · obtain ⟨sa, sb⟩ := hz0.1 (by simpa using hn)
    have HK := fun W hW (bl : Nat) (hN : AskOK W bl b) => keep_any ad ca 58 bl a (fun x => decide (x ∈ b)) W hW sa.1 enters58 (fun x hx W' hW' => ask_any bl b x W' (hN.below hW') (sa.2.1 x hx))
    have HA := fun W hW => asker_any bd cb b W hW sb.2.1 sb.1
    have h0 : n = 0 := by simpa using hn
    have hA2 : Hid _ := hA1.out h0
    clear hA0 hA1
    subst h0
    rw [show errV 0 = .nilIface from rfl] at H
    clear sa sb hz0 hn
    go_enter Tryz.func17, Tryz.ntmps17
    go_wp2_with fail
    refine (H _ Ha.out Hb.out).mono ?_
    rintro e w1 ⟨rfl, hb1⟩
    go_wp2_with fail
    refine (HA _ (Hb.out.below hb1)).mono ?_
    rintro e w2 ⟨bx, rfl, hask, hb2⟩
    have hB2 := bstep hb1 hb2
    have Hask : Hid (AskOK w2 bx b) := hask
    clear hask
    go_wp2_with fail
    refine (HK _ (Ha.out.below hB2) _ Hask.out).mono ?_
    rintro e w3 ⟨ad', c', rfl, hsl, hb3⟩
    go_wp2_with fail
    refine bodyPost_ret (v := .tuple #[.slice ad' (a.filter fun x => decide (x ∈ b)).length c', .nilIface]) (by simp [results, Tryz.results17, go_sem]) rfl (Ans.mk (n := 0) (bstep hB2 hb3) _ ad' c' hsl hA2.out)

/-- what Join tells -/
def joinN (a b : List Tr) : Int := if bothN a b = 0 then (if a.length + (lessL b a).length ≤ 200 then 0 else 4) else bothN a b
def JoinAns (a b m : List Tr) : Prop := (joinN a b = 0 → JoinOf a b m) ∧ (joinN a b ≠ 0 → m = [])

theorem sortN_cat {a b : List Tr} (sa : IsSet a) (sb : IsSet b) : sortN (a ++ lessL b a) = if a.length + (lessL b a).length ≤ 200 then 0 else 4 := by
  have hall : ∀ x ∈ a ++ lessL b a, chkTr x = 0 := fun x hx => by
    rcases List.mem_append.1 hx with h | h
    · exact sa.2.1 x h
    · exact sb.2.1 x (mem_lessL.1 h).1
  by_cases h : a.length + (lessL b a).length ≤ 200
  · rw [if_pos h]
    exact sortN_zero.2 ⟨by rw [List.length_append]; exact h, hall⟩
  · rw [if_neg h]
    unfold sortN faultN
    rw [if_pos (by rw [List.length_append]; omega)]

/-- what Has tells -/
def hasN (l : List Tr) (t : Tr) : Int := if sortedN l = 0 then chkTr t else sortedN l

end Go.Proofs.YtifkcoappflenagGreatDoor

/- Layers: what is wrong with one, what it makes of a set, what is between two sets; the theory. -/
namespace Go.Proofs.YtifkcoappflenagGreatDoor
open Go Go.RowKit Go.Proofs
set_option synthInstance.maxSize 1000

/-- the first that is wrong -/
def orN (a b : Int) : Int := if a = 0 then b else a
theorem orN_zero {a b : Int} : orN a b = 0 ↔ a = 0 ∧ b = 0 := by
  unfold orN
  by_cases h : a = 0
  · rw [if_pos h]; exact ⟨fun e => ⟨h, e⟩, fun e => e.2⟩
  · rw [if_neg h]; exact ⟨fun e => absurd e h, fun e => absurd e.1 h⟩
theorem orN_pos {a b : Int} (h : a = 0) : orN a b = b := if_pos h
theorem orN_neg {a b : Int} (h : ¬ a = 0) : orN a b = a := if_neg h

def apartN (a b : List Tr) : Int := orN (bothN a b) (if (bothL a b).length = 0 then 0 else 7)
def withinN (s t : List Tr) : Int := orN (bothN t s) (if (lessL t s).length = 0 then 0 else 5)
def swapN (s o i : List Tr) : Int := orN (bothN s o) (joinN (lessL s o) i)
def SwapAns (s o i m : List Tr) : Prop := (swapN s o i = 0 → JoinOf (lessL s o) i m) ∧ (swapN s o i ≠ 0 → m = [])
def applyN (s add take : List Tr) : Int := orN (sortedN s) (orN (apartN add take) (orN (apartN s add) (orN (withinN s take) (swapN s take add))))
def ApplyAns (s add take m : List Tr) : Prop := (applyN s add take = 0 → JoinOf (lessL s take) add m) ∧ (applyN s add take ≠ 0 → m = [])
def followsN (a1 a2 b1 b2 : List Tr) : Int := orN (apartN a1 a2) (orN (apartN b1 b2) (orN (apartN a1 b1) (apartN a2 b2)))
def afterN (did undid does undoes : List Tr) : Int := orN (bothN does undid) (swapN did undoes (lessL does undid))
def AfterAns (did undid does undoes m : List Tr) : Prop := (afterN did undid does undoes = 0 → JoinOf (lessL did undoes) (lessL does undid) m) ∧ (afterN did undid does undoes ≠ 0 → m = [])
def thenN (a1 a2 b1 b2 : List Tr) : Int := orN (followsN a1 a2 b1 b2) (orN (afterN a1 a2 b1 b2) (afterN a2 a1 b2 b1))
def ThenAns (a1 a2 b1 b2 m1 m2 : List Tr) : Prop := (thenN a1 a2 b1 b2 = 0 → JoinOf (lessL a1 b2) (lessL b1 a2) m1 ∧ JoinOf (lessL a2 b1) (lessL b2 a1) m2) ∧ (thenN a1 a2 b1 b2 ≠ 0 → m1 = [] ∧ m2 = [])
def BtwAns (a b m1 m2 : List Tr) : Prop := (bothN a b = 0 → m1 = lessL b a ∧ m2 = lessL a b) ∧ (bothN a b ≠ 0 → m1 = [] ∧ m2 = [])
def TurnAns (add take m1 m2 : List Tr) : Prop := (apartN add take = 0 → m1 = take ∧ m2 = add) ∧ (apartN add take ≠ 0 → m1 = [] ∧ m2 = [])

theorem bothN_comm0 {a b : List Tr} (h : bothN a b = 0) : bothN b a = 0 := bothN_zero.2 ⟨(bothN_zero.1 h).2, (bothN_zero.1 h).1⟩
theorem lessSet {a b : List Tr} (h : IsSet a) : IsSet (lessL a b) := h.filter _
theorem bothSet {a b : List Tr} (h : IsSet a) : IsSet (bothL a b) := h.filter _

theorem joinN_of {a b m : List Tr} (sa : IsSet a) (sb : IsSet b) (h : JoinOf a b m) (hm : m.length ≤ 200) : joinN a b = 0 := by
  unfold joinN
  rw [if_pos (bothN_zero.2 ⟨sa, sb⟩), if_pos]
  rw [← h.len sa.2.2 sb.2.2]
  exact hm
theorem apartN_of {a b : List Tr} (sa : IsSet a) (sb : IsSet b) (h : ∀ x, x ∈ a → x ∉ b) : apartN a b = 0 := by
  unfold apartN
  rw [orN_pos (bothN_zero.2 ⟨sa, sb⟩), if_pos]
  rw [List.length_eq_zero_iff, List.eq_nil_iff_forall_not_mem]
  intro x hx
  exact h x (mem_bothL.1 hx).1 (mem_bothL.1 hx).2
theorem withinN_of {s t : List Tr} (ss : IsSet s) (st : IsSet t) (h : ∀ x, x ∈ t → x ∈ s) : withinN s t = 0 := by
  unfold withinN
  rw [orN_pos (bothN_zero.2 ⟨st, ss⟩), if_pos]
  rw [List.length_eq_zero_iff, List.eq_nil_iff_forall_not_mem]
  intro x hx
  exact (mem_lessL.1 hx).2 (h x (mem_lessL.1 hx).1)
theorem swapN_of {s o i m : List Tr} (ss : IsSet s) (so : IsSet o) (si : IsSet i) (h : JoinOf (lessL s o) i m) (hm : m.length ≤ 200) : swapN s o i = 0 := by
  unfold swapN
  rw [orN_pos (bothN_zero.2 ⟨ss, so⟩)]
  exact joinN_of (lessSet ss) si h hm

/-- there: what is between two sets makes of the one the other -/
theorem there {a b : List Tr} (sb : IsSet b) : JoinOf (lessL a (lessL a b)) (lessL b a) b := by
  refine ⟨sb.2.2, fun x => ?_⟩
  simp only [mem_lessL]
  by_cases h1 : x ∈ a <;> by_cases h2 : x ∈ b <;> simp [h1, h2]
theorem btw_check {a b : List Tr} (sa : IsSet a) (sb : IsSet b) : apartN (lessL b a) (lessL a b) = 0 :=
  apartN_of (lessSet sb) (lessSet sa) fun _ h1 h2 => (mem_lessL.1 h1).2 (mem_lessL.1 h2).1
theorem apply_btw {a b : List Tr} (sa : IsSet a) (sb : IsSet b) : applyN a (lessL b a) (lessL a b) = 0 := by
  unfold applyN
  rw [orN_pos (sortedN_set.2 sa), orN_pos (btw_check sa sb), orN_pos (apartN_of sa (lessSet sb) fun _ h1 h2 => (mem_lessL.1 h2).2 h1), orN_pos (withinN_of sa (lessSet sa) fun _ h => (mem_lessL.1 h).1)]
  exact swapN_of sa (lessSet sa) (lessSet sb) (there sb) sb.1
theorem apply_btw_ans {a b m : List Tr} (sa : IsSet a) (sb : IsSet b) (h : ApplyAns a (lessL b a) (lessL a b) m) : m = b :=
  (h.1 (apply_btw sa sb)).unique (there sb)

/-- of three: one behind the other comes to what is between the ends -/
theorem thread {a b c : List Tr} (sc : IsSet c) : JoinOf (lessL (lessL b a) (lessL b c)) (lessL (lessL c b) (lessL a b)) (lessL c a) := by
  refine ⟨(lessSet sc).2.2, fun x => ?_⟩
  simp only [mem_lessL]
  by_cases h1 : x ∈ a <;> by_cases h2 : x ∈ b <;> by_cases h3 : x ∈ c <;> simp [h1, h2, h3]
theorem thread' {a b c : List Tr} (sa : IsSet a) : JoinOf (lessL (lessL a b) (lessL c b)) (lessL (lessL b c) (lessL b a)) (lessL a c) := by
  refine ⟨(lessSet sa).2.2, fun x => ?_⟩
  simp only [mem_lessL]
  by_cases h1 : x ∈ a <;> by_cases h2 : x ∈ b <;> by_cases h3 : x ∈ c <;> simp [h1, h2, h3]
theorem afterN_of {did undid does undoes m : List Tr} (s1 : IsSet did) (s2 : IsSet undid) (s3 : IsSet does) (s4 : IsSet undoes) (h : JoinOf (lessL did undoes) (lessL does undid) m) (hm : m.length ≤ 200) : afterN did undid does undoes = 0 := by
  unfold afterN
  rw [orN_pos (bothN_zero.2 ⟨s3, s2⟩)]
  exact swapN_of s1 s4 (lessSet s3) h hm
theorem then_btw {a b c : List Tr} (sa : IsSet a) (sb : IsSet b) (sc : IsSet c) : thenN (lessL b a) (lessL a b) (lessL c b) (lessL b c) = 0 := by
  unfold thenN followsN
  rw [orN_pos (btw_check sa sb), orN_pos (btw_check sb sc), orN_pos (apartN_of (lessSet sb) (lessSet sc) fun _ h1 h2 => (mem_lessL.1 h2).2 (mem_lessL.1 h1).1),
    orN_pos (apartN_of (lessSet sa) (lessSet sb) fun _ h1 h2 => (mem_lessL.1 h1).2 (mem_lessL.1 h2).1),
    orN_pos (afterN_of (lessSet sb) (lessSet sa) (lessSet sc) (lessSet sb) (thread sc) (lessSet sc).1)]
  exact afterN_of (lessSet sa) (lessSet sb) (lessSet sb) (lessSet sc) (thread' sa) (lessSet sa).1
theorem then_btw_ans {a b c m1 m2 : List Tr} (sa : IsSet a) (sb : IsSet b) (sc : IsSet c) (h : ThenAns (lessL b a) (lessL a b) (lessL c b) (lessL b c) m1 m2) : m1 = lessL c a ∧ m2 = lessL a c :=
  ⟨(h.1 (then_btw sa sb sc)).1.unique (thread sc), (h.1 (then_btw sa sb sc)).2.unique (thread' sa)⟩

/-- a call's answer: a layer and a number -/
def LAns (n : Int) (P : List Tr → List Tr → Prop) (w : World) (e : Ending) (w' : World) : Prop := RowKit.Below w.heap.size w w' ∧ ∃ (m1 : List Tr) (a1 : Option Addr) (c1 : Nat) (m2 : List Tr) (a2 : Option Addr) (c2 : Nat), e = .returned (.tuple #[.agg #[.slice a1 m1.length c1, .slice a2 m2.length c2], errV n]) ∧ SlT w' a1 m1 ∧ SlT w' a2 m2 ∧ P m1 m2
theorem LAns.mk {n : Int} {P : List Tr → List Tr → Prop} {w w' : World} (hb : RowKit.Below w.heap.size w w') (m1 : List Tr) (a1 : Option Addr) (c1 : Nat) (m2 : List Tr) (a2 : Option Addr) (c2 : Nat) (h1 : SlT w' a1 m1) (h2 : SlT w' a2 m2) (hp : P m1 m2) : LAns n P w (.returned (.tuple #[.agg #[.slice a1 m1.length c1, .slice a2 m2.length c2], errV n])) w' := ⟨hb, m1, a1, c1, m2, a2, c2, rfl, h1, h2, hp⟩
end Go.Proofs.YtifkcoappflenagGreatDoor

/- Two that came of one: the theory of pairs. -/
namespace Go.Proofs.YtifkcoappflenagGreatDoor
open Go Go.RowKit Go.Proofs
set_option synthInstance.maxSize 1000

/-- a pair: an S and a P -/
abbrev Pr := Tm × Tm
def pairOf (x : Tr) : Pr := (x.1, x.2.1)
def cmpP (p q : Pr) : Int := if cmpTm p.1 q.1 ≠ 0 then cmpTm p.1 q.1 else cmpTm p.2 q.2
def RisingP (l : List Pr) : Prop := l.Pairwise fun p q => cmpP p q < 0

theorem cmpP_zero (p q : Pr) : cmpP p q = 0 ↔ p = q := by
  obtain ⟨a, b⟩ := p
  obtain ⟨c, d⟩ := q
  unfold cmpP
  dsimp only
  split
  · rename_i h
    constructor
    · intro h'; exact absurd h' h
    · intro h'; cases h'; exact absurd ((cmpTm_zero a a).2 rfl) h
  · rename_i h
    have h : cmpTm a c = 0 := by simpa using h
    have := (cmpTm_zero a c).1 h
    subst this
    rw [cmpTm_zero]
    simp
theorem cmpP_neg (p q : Pr) : cmpP p q = - cmpP q p := by
  unfold cmpP
  have h1 := cmpTm_neg p.1 q.1
  have h2 := cmpTm_neg p.2 q.2
  split <;> split <;> omega
theorem cmpP_trans (p q r : Pr) (h1 : cmpP p q ≤ 0) (h2 : cmpP q r ≤ 0) : cmpP p r ≤ 0 := by
  obtain ⟨p1, p2⟩ := p
  obtain ⟨q1, q2⟩ := q
  obtain ⟨r1, r2⟩ := r
  unfold cmpP at *
  dsimp only at *
  have t1 := cmpTm_trans p1 q1 r1
  have t2 := cmpTm_trans p2 q2 r2
  by_cases a : cmpTm p1 q1 = 0
  · have := (cmpTm_zero p1 q1).1 a
    subst this
    rw [if_neg (by simpa using a)] at h1
    by_cases b : cmpTm p1 r1 = 0
    · rw [if_neg (by simpa using b)] at h2 ⊢
      exact t2 h1 h2
    · rw [if_pos b] at h2 ⊢
      exact h2
  · rw [if_pos a] at h1
    by_cases b : cmpTm q1 r1 = 0
    · have := (cmpTm_zero q1 r1).1 b
      subst this
      rw [if_pos a]
      exact h1
    · rw [if_pos b] at h2
      by_cases c : cmpTm p1 r1 = 0
      · have := (cmpTm_zero p1 r1).1 c
        subst this
        have := cmpTm_neg p1 q1
        omega
      · rw [if_pos c]
        exact t1 h1 h2
theorem cmpP_lt_trans {p q r : Pr} (h1 : cmpP p q < 0) (h2 : cmpP q r < 0) : cmpP p r < 0 := by
  have h := cmpP_trans p q r (by omega) (by omega)
  rcases Int.lt_or_eq_of_le h with h | h
  · exact h
  · have e := (cmpP_zero p r).1 h
    subst e
    have := cmpP_neg p q
    omega
theorem cmpTr_of_pair {x y : Tr} (h : cmpP (pairOf x) (pairOf y) < 0) : cmpTr x y < 0 := by
  unfold cmpP pairOf at h
  unfold cmpTr orI
  dsimp only at h
  split at h
  · rename_i h'; rw [if_neg h']; exact h
  · rename_i h'; rw [if_pos (by simpa using h'), if_neg (by omega)]; exact h
theorem pair_of_cmpTr {x y : Tr} (h : cmpTr x y < 0) : cmpP (pairOf x) (pairOf y) ≤ 0 := by
  have := cmpP_neg (pairOf x) (pairOf y)
  by_cases h' : cmpP (pairOf y) (pairOf x) < 0
  · have h2 := cmpTr_of_pair h'
    have := cmpTr_neg x y
    omega
  · omega
theorem risingP_unique : ∀ (m n : List Pr), RisingP m → RisingP n → (∀ x, x ∈ m ↔ x ∈ n) → m = n
  | [], [], _, _, _ => rfl
  | [], y :: n, _, _, h => by have := (h y).2 (by simp); simp at this
  | x :: m, [], _, _, h => by have := (h x).1 (by simp); simp at this
  | x :: m, y :: n, hm, hn, h => by
    obtain ⟨hm1, hm2⟩ := List.pairwise_cons.1 hm
    obtain ⟨hn1, hn2⟩ := List.pairwise_cons.1 hn
    have exy : x = y := by
      have h1 := (h x).1 (by simp)
      have h2 := (h y).2 (by simp)
      rcases List.mem_cons.1 h1 with e | h1
      · exact e
      · rcases List.mem_cons.1 h2 with e | h2
        · exact e.symm
        · have a := hn1 x h1
          have b := hm1 y h2
          have := cmpP_neg x y
          omega
    subst exy
    have irr : cmpP x x = 0 := (cmpP_zero x x).2 rfl
    rw [risingP_unique m n hm2 hn2 fun z => ?_]
    constructor
    · intro hz
      rcases List.mem_cons.1 ((h z).1 (List.mem_cons_of_mem _ hz)) with e | hz'
      · subst e; have := hm1 z hz; omega
      · exact hz'
    · intro hz
      rcases List.mem_cons.1 ((h z).2 (List.mem_cons_of_mem _ hz)) with e | hz'
      · subst e; have := hn1 z hz; omega
      · exact hz'

/-- a pair put where it belongs -/
def putP : List Pr → Pr → List Pr
  | [], p => [p]
  | q :: l, p => if cmpP q p < 0 then q :: putP l p else if q = p then q :: l else p :: q :: l
theorem putP_mem (l : List Pr) (p x : Pr) : x ∈ putP l p ↔ x = p ∨ x ∈ l := by
  induction l with
  | nil => simp [putP]
  | cons q l ih =>
    unfold putP
    split
    · rw [List.mem_cons, ih, List.mem_cons]
      constructor
      · rintro (h | h | h)
        · exact .inr (.inl h)
        · exact .inl h
        · exact .inr (.inr h)
      · rintro (h | h | h)
        · exact .inr (.inl h)
        · exact .inl h
        · exact .inr (.inr h)
    · split
      · rename_i e
        subst e
        simp
      · simp
theorem putP_rising {l : List Pr} (p : Pr) (h : RisingP l) : RisingP (putP l p) := by
  induction l with
  | nil => unfold putP; exact List.pairwise_singleton _ _
  | cons q l ih =>
    obtain ⟨h1, h2⟩ := List.pairwise_cons.1 h
    unfold putP
    split
    · rename_i hq
      refine List.pairwise_cons.2 ⟨fun x hx => ?_, ih h2⟩
      rcases (putP_mem l p x).1 hx with e | hx
      · rw [e]; exact hq
      · exact h1 x hx
    · rename_i hq
      split
      · exact h
      · rename_i hne
        have hz : cmpP q p ≠ 0 := fun h0 => hne ((cmpP_zero q p).1 h0)
        have hn := cmpP_neg q p
        refine List.pairwise_cons.2 ⟨fun x hx => ?_, h⟩
        rcases List.mem_cons.1 hx with e | hx
        · rw [e]; omega
        · exact cmpP_lt_trans (q := q) (by omega) (h1 x hx)
theorem putP_len (l : List Pr) (p : Pr) : (putP l p).length ≤ l.length + 1 := by
  induction l with
  | nil => simp [putP]
  | cons q l ih =>
    unfold putP
    split
    · simp; omega
    · split <;> simp
/-- all the pairs of a list beside those that are there -/
def allP (l : List Pr) (m : List Tr) : List Pr := m.foldl (fun l x => putP l (pairOf x)) l
theorem allP_mem (m : List Tr) : ∀ (l : List Pr) (p : Pr), p ∈ allP l m ↔ p ∈ l ∨ ∃ x ∈ m, pairOf x = p := by
  induction m with
  | nil => intro l p; simp [allP]
  | cons x m ih =>
    intro l p
    show p ∈ allP (putP l (pairOf x)) m ↔ _
    rw [ih, putP_mem]
    constructor
    · rintro ((h | h) | ⟨y, hy, e⟩)
      · exact .inr ⟨x, by simp, h.symm⟩
      · exact .inl h
      · exact .inr ⟨y, by simp [hy], e⟩
    · rintro (h | ⟨y, hy, e⟩)
      · exact .inl (.inr h)
      · rcases List.mem_cons.1 hy with e' | hy
        · subst e'; exact .inl (.inl e.symm)
        · exact .inr ⟨y, hy, e⟩
theorem allP_rising (m : List Tr) : ∀ (l : List Pr), RisingP l → RisingP (allP l m) := by
  induction m with
  | nil => intro l h; exact h
  | cons x m ih => intro l h; exact ih _ (putP_rising _ h)
theorem allP_len (m : List Tr) : ∀ (l : List Pr), (allP l m).length ≤ l.length + m.length := by
  induction m with
  | nil => intro l; simp [allP]
  | cons x m ih =>
    intro l
    have h1 := ih (putP l (pairOf x))
    have h2 := putP_len l (pairOf x)
    show (allP (putP l (pairOf x)) m).length ≤ _
    simp
    omega
def pairs2 (a b : List Tr) : List Pr := allP (allP [] a) b
def pairs3 (o a b : List Tr) : List Pr := allP (allP (allP [] o) a) b
theorem risingP_nil : RisingP [] := List.Pairwise.nil
theorem pairs2_rising (a b : List Tr) : RisingP (pairs2 a b) := allP_rising _ _ (allP_rising _ _ risingP_nil)
theorem pairs3_rising (o a b : List Tr) : RisingP (pairs3 o a b) := allP_rising _ _ (allP_rising _ _ (allP_rising _ _ risingP_nil))
theorem pairs2_mem (a b : List Tr) (p : Pr) : p ∈ pairs2 a b ↔ (∃ x ∈ a, pairOf x = p) ∨ ∃ x ∈ b, pairOf x = p := by
  unfold pairs2; rw [allP_mem, allP_mem]; simp
theorem pairs3_mem (o a b : List Tr) (p : Pr) : p ∈ pairs3 o a b ↔ (∃ x ∈ o, pairOf x = p) ∨ (∃ x ∈ a, pairOf x = p) ∨ ∃ x ∈ b, pairOf x = p := by
  unfold pairs3; rw [allP_mem, allP_mem, allP_mem]; simp [or_assoc]
theorem pairs3_len (o a b : List Tr) : (pairs3 o a b).length ≤ o.length + a.length + b.length := by
  have h1 := allP_len b (allP (allP [] o) a)
  have h2 := allP_len a (allP [] o)
  have h3 := allP_len o []
  unfold pairs3
  simp at h3
  omega
theorem pairs3_comm (o a b : List Tr) : pairs3 o a b = pairs3 o b a := risingP_unique _ _ (pairs3_rising _ _ _) (pairs3_rising _ _ _) fun p => by
  rw [pairs3_mem, pairs3_mem]
  constructor
  · rintro (h | h | h)
    · exact .inl h
    · exact .inr (.inr h)
    · exact .inr (.inl h)
  · rintro (h | h | h)
    · exact .inl h
    · exact .inr (.inr h)
    · exact .inr (.inl h)

/-- the triples of a pair -/
def ofL (m : List Tr) (p : Pr) : List Tr := m.filter fun x => decide (pairOf x = p)
theorem ofL_mem {m : List Tr} {p : Pr} {x : Tr} : x ∈ ofL m p ↔ x ∈ m ∧ pairOf x = p := by simp [ofL]
theorem ofL_rising {m : List Tr} (p : Pr) (h : Rising m) : Rising (ofL m p) := List.Pairwise.filter _ h
def mineL (o a b : List Tr) (first : Bool) (p : Pr) : List Tr :=
  if ofL o p = ofL a p then ofL b p else if ofL o p ≠ ofL b p ∧ ofL a p ≠ ofL b p ∧ first = false then ofL b p else ofL a p
def outL (o a b : List Tr) (first : Bool) : List Tr := (pairs3 o a b).flatMap (mineL o a b first)
def clashL (o a b : List Tr) : List Pr := (pairs3 o a b).filter fun p => decide (ofL o p ≠ ofL a p ∧ ofL o p ≠ ofL b p ∧ ofL a p ≠ ofL b p)
def diffL (a b : List Tr) : List Pr := (pairs2 a b).filter fun p => decide (ofL a p ≠ ofL b p)

theorem mine_or (o a b : List Tr) (first : Bool) (p : Pr) : mineL o a b first p = ofL a p ∨ mineL o a b first p = ofL b p := by
  unfold mineL
  split
  · exact .inr rfl
  · split
    · exact .inr rfl
    · exact .inl rfl
theorem mine_mem {o a b : List Tr} {first : Bool} {p : Pr} {x : Tr} (h : x ∈ mineL o a b first p) : pairOf x = p ∧ (x ∈ a ∨ x ∈ b) := by
  rcases mine_or o a b first p with e | e
  · rw [e, ofL_mem] at h; exact ⟨h.2, .inl h.1⟩
  · rw [e, ofL_mem] at h; exact ⟨h.2, .inr h.1⟩
theorem out_mem {o a b : List Tr} {first : Bool} {x : Tr} : x ∈ outL o a b first ↔ x ∈ mineL o a b first (pairOf x) := by
  unfold outL
  rw [List.mem_flatMap]
  constructor
  · rintro ⟨p, _, hx⟩
    rw [(mine_mem hx).1]; exact hx
  · intro hx
    refine ⟨pairOf x, ?_, hx⟩
    rw [pairs3_mem]
    rcases (mine_mem hx).2 with h | h
    · exact .inr (.inl ⟨x, h, rfl⟩)
    · exact .inr (.inr ⟨x, h, rfl⟩)
theorem flat_rising {l : List Pr} {f : Pr → List Tr} (hl : RisingP l) (hf : ∀ p ∈ l, Rising (f p)) (hp : ∀ p ∈ l, ∀ x ∈ f p, pairOf x = p) : Rising (l.flatMap f) := by
  induction l with
  | nil => exact List.Pairwise.nil
  | cons p l ih =>
    obtain ⟨h1, h2⟩ := List.pairwise_cons.1 hl
    rw [List.flatMap_cons]
    refine List.pairwise_append.2 ⟨hf p (by simp), ih h2 (fun q hq => hf q (by simp [hq])) (fun q hq => hp q (by simp [hq])), fun x hx y hy => ?_⟩
    obtain ⟨q, hq, hy⟩ := List.mem_flatMap.1 hy
    refine cmpTr_of_pair ?_
    rw [hp p (by simp) x hx, hp q (by simp [hq]) y hy]
    exact h1 q hq
theorem out_rising {o a b : List Tr} {first : Bool} (ha : Rising a) (hb : Rising b) : Rising (outL o a b first) :=
  flat_rising (pairs3_rising _ _ _) (fun p _ => by
    rcases mine_or o a b first p with e | e
    · rw [e]; exact ofL_rising p ha
    · rw [e]; exact ofL_rising p hb) (fun _ _ _ hx => (mine_mem hx).1)
theorem out_sub {o a b : List Tr} {first : Bool} {x : Tr} (h : x ∈ outL o a b first) : x ∈ a ∨ x ∈ b := (mine_mem (out_mem.1 h)).2
theorem out_both {o a b : List Tr} {first : Bool} {x : Tr} (ha : x ∈ a) (hb : x ∈ b) : x ∈ outL o a b first := by
  rw [out_mem]
  rcases mine_or o a b first (pairOf x) with e | e
  · rw [e, ofL_mem]; exact ⟨ha, rfl⟩
  · rw [e, ofL_mem]; exact ⟨hb, rfl⟩
/-- merged with what did not change it is the other one -/
theorem out_base {o a : List Tr} {first : Bool} (ho : Rising o) (ha : Rising a) : outL o a o first = a := by
  refine rising_unique _ _ (out_rising ha ho) ha fun x => ?_
  rw [out_mem]
  have : mineL o a o first (pairOf x) = ofL a (pairOf x) := by
    unfold mineL
    split
    · rename_i h; exact h
    · rw [if_neg (fun h => h.1 rfl)]
  rw [this, ofL_mem]
  simp
theorem out_same {o a : List Tr} {first : Bool} (ha : Rising a) : outL o a a first = a := by
  refine rising_unique _ _ (out_rising ha ha) ha fun x => ?_
  rw [out_mem]
  have : mineL o a a first (pairOf x) = ofL a (pairOf x) := by
    rcases mine_or o a a first (pairOf x) with e | e <;> exact e
  rw [this, ofL_mem]
  simp
theorem clash_same (o a : List Tr) : clashL o a a = [] := by
  unfold clashL
  rw [List.filter_eq_nil_iff]
  intro p _ h
  have := of_decide_eq_true h
  exact this.2.2 rfl
theorem clash_base (o a : List Tr) : clashL o a o = [] := by
  unfold clashL
  rw [List.filter_eq_nil_iff]
  intro p _ h
  have := of_decide_eq_true h
  exact this.2.1 rfl
theorem clash_comm (o a b : List Tr) : clashL o a b = clashL o b a := by
  unfold clashL
  rw [pairs3_comm]
  congr 1
  funext p
  congr 1
  apply propext
  constructor
  · rintro ⟨h1, h2, h3⟩; exact ⟨h2, h1, fun h => h3 h.symm⟩
  · rintro ⟨h1, h2, h3⟩; exact ⟨h2, h1, fun h => h3 h.symm⟩
/-- the one that is preferred, either way round -/
theorem out_swap (o a b : List Tr) : outL o a b true = outL o b a false := by
  unfold outL
  rw [pairs3_comm]
  congr 1
  funext p
  unfold mineL
  by_cases h1 : ofL o p = ofL a p
  · by_cases h2 : ofL o p = ofL b p
    · rw [if_pos h1, if_pos h2, ← h1, ← h2]
    · rw [if_pos h1, if_neg h2, if_neg (fun h => h.1 h1)]
  · rw [if_neg h1, if_neg (fun h => by cases h.2.2)]
    by_cases h2 : ofL o p = ofL b p
    · rw [if_pos h2]
    · rw [if_neg h2]
      by_cases h3 : ofL b p = ofL a p
      · rw [if_neg (fun h => h.2.1 h3), h3]
      · rw [if_pos ⟨h1, h3, rfl⟩]
theorem out_free {o a b : List Tr} (h : clashL o a b = []) : outL o a b true = outL o a b false := by
  unfold outL
  have hc : ∀ p ∈ pairs3 o a b, ¬ (ofL o p ≠ ofL a p ∧ ofL o p ≠ ofL b p ∧ ofL a p ≠ ofL b p) := fun p hp hh => by
    unfold clashL at h
    rw [List.filter_eq_nil_iff] at h
    exact h p hp (decide_eq_true hh)
  have : ∀ p ∈ pairs3 o a b, mineL o a b true p = mineL o a b false p := fun p hp => by
    unfold mineL
    by_cases h1 : ofL o p = ofL a p
    · rw [if_pos h1, if_pos h1]
    · rw [if_neg h1, if_neg h1, if_neg (fun h => by cases h.2.2), if_neg (fun hh => hc p hp ⟨h1, hh.1, hh.2.1⟩)]
  generalize pairs3 o a b = l at this
  induction l with
  | nil => rfl
  | cons p l ih =>
    rw [List.flatMap_cons, List.flatMap_cons, this p (by simp), ih fun q hq => this q (by simp [hq])]
theorem out_comm {o a b : List Tr} (h : clashL o a b = []) : outL o a b true = outL o b a true := by
  rw [out_swap o a b]
  exact (out_free ((clash_comm o b a).trans h)).symm
theorem out_len {o a b : List Tr} {first : Bool} (ha : Rising a) (hb : Rising b) : (outL o a b first).length ≤ a.length + b.length := by
  have hn := rising_nodup (out_rising (o := o) (first := first) ha hb)
  have := List.Nodup.length_le_of_subset (l₂ := a ++ b) hn fun x hx => List.mem_append.2 (out_sub hx)
  rw [List.length_append] at this
  exact this
/-- the pairs of a rising list, one after another -/
def pairsS (out : List Pr) (x : Tr) : List Pr := if out.getLast? = some (pairOf x) then out else out ++ [pairOf x]
def pairsL (m : List Tr) : List Pr := m.foldl pairsS []
theorem pairsL_next {m : List Tr} {i : Nat} (h : i < m.length) : pairsL (m.take (i + 1)) = pairsS (pairsL (m.take i)) m[i] := by
  unfold pairsL
  rw [List.take_succ_eq_append_getElem h, List.foldl_append]
  rfl
theorem pairsL_at {m : List Tr} (hm : Rising m) (i : Nat) (hi : i ≤ m.length) : RisingP (pairsL (m.take i)) ∧ (∀ p, p ∈ pairsL (m.take i) ↔ ∃ x ∈ m.take i, pairOf x = p) ∧ (∀ (h : 0 < i), (pairsL (m.take i)).getLast? = some (pairOf (m[i - 1]'(by omega)))) ∧ (pairsL (m.take i)).length ≤ i := by
  induction i with
  | zero => exact ⟨List.Pairwise.nil, fun p => by simp [pairsL], fun h => by omega, by simp [pairsL]⟩
  | succ i ih =>
    obtain ⟨h1, h2, h3, h4⟩ := ih (by omega)
    rw [pairsL_next (by omega)]
    have ht : m.take (i + 1) = m.take i ++ [m[i]'(by omega)] := List.take_succ_eq_append_getElem (by omega)
    unfold pairsS
    by_cases hl : (pairsL (m.take i)).getLast? = some (pairOf (m[i]'(by omega)))
    · rw [if_pos hl]
      refine ⟨h1, fun p => ?_, fun _ => hl, by omega⟩
      rw [h2, ht]
      constructor
      · rintro ⟨x, hx, e⟩; exact ⟨x, List.mem_append.2 (.inl hx), e⟩
      · rintro ⟨x, hx, e⟩
        rcases List.mem_append.1 hx with hx | hx
        · exact ⟨x, hx, e⟩
        · have hx : x = m[i]'(by omega) := by simpa using hx
          subst hx
          have := List.mem_of_getLast? hl
          rw [e] at this
          exact (h2 p).1 this
    · rw [if_neg hl]
      refine ⟨List.pairwise_append.2 ⟨h1, List.pairwise_singleton _ _, fun p hp q hq => ?_⟩, fun p => ?_, fun _ => by simp, by simp; omega⟩
      · have hq : q = pairOf (m[i]'(by omega)) := by simpa using hq
        subst hq
        obtain ⟨x, hx, rfl⟩ := (h2 p).1 hp
        obtain ⟨k, hk, rfl⟩ := List.getElem_of_mem hx
        have hk' : k < i := by rw [List.length_take] at hk; omega
        rw [List.getElem_take]
        have hle : cmpP (pairOf (m[k]'(by omega))) (pairOf (m[i - 1]'(by omega))) ≤ 0 := by
          by_cases e : k = i - 1
          · subst e; rw [(cmpP_zero _ _).2 rfl]; exact Int.le_refl _
          · exact pair_of_cmpTr (List.pairwise_iff_getElem.1 hm k (i - 1) (by omega) (by omega) (by omega))
        have hlt : cmpP (pairOf (m[i - 1]'(by omega))) (pairOf (m[i]'(by omega))) < 0 := by
          have h5 := pair_of_cmpTr (List.pairwise_iff_getElem.1 hm (i - 1) i (by omega) (by omega) (by omega))
          have h6 : cmpP (pairOf (m[i - 1]'(by omega))) (pairOf (m[i]'(by omega))) ≠ 0 := fun h0 => hl (by rw [h3 (by omega), (cmpP_zero _ _).1 h0])
          omega
        by_cases h0 : cmpP (pairOf (m[k]'(by omega))) (pairOf (m[i - 1]'(by omega))) = 0
        · rw [(cmpP_zero _ _).1 h0]; exact hlt
        · exact cmpP_lt_trans (by omega) hlt
      · rw [List.mem_append, h2, ht]
        constructor
        · rintro (⟨x, hx, e⟩ | h)
          · exact ⟨x, List.mem_append.2 (.inl hx), e⟩
          · exact ⟨m[i]'(by omega), List.mem_append.2 (.inr (by simp)), (by simpa using h : p = _).symm⟩
        · rintro ⟨x, hx, e⟩
          rcases List.mem_append.1 hx with hx | hx
          · exact .inl ⟨x, hx, e⟩
          · have hx : x = m[i]'(by omega) := by simpa using hx
            subst hx
            exact .inr (by simp [e])
theorem pairsL_rising {m : List Tr} (hm : Rising m) : RisingP (pairsL m) := by
  have := (pairsL_at hm m.length (Nat.le_refl _)).1
  rwa [List.take_length] at this
theorem pairsL_mem {m : List Tr} (hm : Rising m) (p : Pr) : p ∈ pairsL m ↔ ∃ x ∈ m, pairOf x = p := by
  have := (pairsL_at hm m.length (Nat.le_refl _)).2.1 p
  rwa [List.take_length] at this
theorem pairsL_len {m : List Tr} (hm : Rising m) : (pairsL m).length ≤ m.length := by
  have := (pairsL_at hm m.length (Nat.le_refl _)).2.2.2
  rwa [List.take_length] at this
theorem pairs_two {a b u : List Tr} (hu : JoinOf a b u) : pairsL u = pairs2 a b := risingP_unique _ _ (pairsL_rising hu.1) (pairs2_rising _ _) fun p => by
  rw [pairsL_mem hu.1, pairs2_mem]
  constructor
  · rintro ⟨x, hx, e⟩
    rcases (hu.2 x).1 hx with h | h
    · exact .inl ⟨x, h, e⟩
    · exact .inr ⟨x, h, e⟩
  · rintro (⟨x, hx, e⟩ | ⟨x, hx, e⟩)
    · exact ⟨x, (hu.2 x).2 (.inl hx), e⟩
    · exact ⟨x, (hu.2 x).2 (.inr hx), e⟩
theorem pairs_three {o a b v u : List Tr} (hv : JoinOf o a v) (hu : JoinOf v b u) : pairsL u = pairs3 o a b := risingP_unique _ _ (pairsL_rising hu.1) (pairs3_rising _ _ _) fun p => by
  rw [pairsL_mem hu.1, pairs3_mem]
  constructor
  · rintro ⟨x, hx, e⟩
    rcases (hu.2 x).1 hx with h | h
    · rcases (hv.2 x).1 h with h | h
      · exact .inl ⟨x, h, e⟩
      · exact .inr (.inl ⟨x, h, e⟩)
    · exact .inr (.inr ⟨x, h, e⟩)
  · rintro (⟨x, hx, e⟩ | ⟨x, hx, e⟩ | ⟨x, hx, e⟩)
    · exact ⟨x, (hu.2 x).2 (.inl ((hv.2 x).2 (.inl hx))), e⟩
    · exact ⟨x, (hu.2 x).2 (.inl ((hv.2 x).2 (.inr hx))), e⟩
    · exact ⟨x, (hu.2 x).2 (.inr hx), e⟩

/-- what the calls tell -/
def threeN (o a b : List Tr) : Int := orN (sortedN o) (orN (sortedN a) (sortedN b))
def mergeN (o a b : List Tr) : Int := orN (threeN o a b) (if clashL o a b = [] then (if (outL o a b true).length ≤ 200 then 0 else 4) else 9)
def mergeT (o a b : List Tr) : List Tr := if mergeN o a b = 0 then outL o a b true else []
def mergeC (o a b : List Tr) : List Pr := if threeN o a b = 0 then clashL o a b else []
def preferN (o a b : List Tr) (first : Bool) : Int := orN (threeN o a b) (if (outL o a b first).length ≤ 200 then 0 else 4)
def preferT (o a b : List Tr) (first : Bool) : List Tr := if preferN o a b first = 0 then outL o a b first else []
def pairsC (a b : List Tr) : List Pr := if bothN a b = 0 then diffL a b else []
end Go.Proofs.YtifkcoappflenagGreatDoor
