import Derived.Test.YtnlcfnpcjkcdmafGreatDoorMA0x2
import Derived.Maps.OwnSet
import Derived.DeepKeys4
import Derived.OwnWalk
import Derived.Lib.AppendZeros
import Derived.Deep.Upon
import Derived.Laws.EntriesVeiled
import Derived.Test.YtnlcfnpcjkcdmafGreatDoorMA0x1

/- A map whose keys are triples: which triples are in it. -/
namespace Go.Proofs.YtnlcfnpcjkcdmafGreatDoor
open Go Go.RowKit Go.Proofs Go.Maps
set_option synthInstance.maxSize 1000

theorem laidOutP : laidOutB Tryz.prog = true := by kernel_rfl
theorem rowTr : (99 : TypeId) < Tryz.prog.types.size := of_decide_eq_true (by kernel_rfl)
theorem wideTr : (match Tryz.prog.underlying 99 with | some (.array _ _) | some (.struct _) => true | _ => false) = true := by kernel_rfl
set_option maxRecDepth 100000 in
theorem keyedTr : Keyed Tryz.prog 99 := Keyed.of_law (deep_law_laid laidOutP (m := 4) (by omega) rowTr (by kernel_rfl) wideTr)
theorem cellsOfTr : Tryz.prog.cellsOf 99 = 9 := by kernel_rfl
theorem cellsOfTm : Tryz.prog.cellsOf 95 = 3 := by kernel_rfl
theorem cellsOfInt : Tryz.prog.cellsOf 3 = 1 := by kernel_rfl
theorem cellsOfStr : Tryz.prog.cellsOf 9 = 1 := by kernel_rfl
theorem keyTypeTr : Tryz.prog.keyType 99 = true := by kernel_rfl

theorem keyLits_term (d : Nat) (k : Int) (S L : List UInt8) (hk : (Lit.int .i64 k).wf = true) (hS : S.length ≤ maxLen) (hL : L.length ≤ maxLen) :
    Tryz.prog.keyLits (d + 2) 95 [.int .i64 k, .string ⟨S.toArray⟩, .string ⟨L.toArray⟩] = some [.int .i64 k, .string S, .string L] := by
  have hS' : (⟨S.toArray⟩ : ByteArray).size ≤ maxLen := hS
  have hL' : (⟨L.toArray⟩ : ByteArray).size ≤ maxLen := hL
  have e1 : Tryz.prog.keyLits (d + 1) 3 [.int .i64 k] = some [.int .i64 k] := by
    unfold Program.keyLits; rw [Tryz.underlying3]; simp [hk]
  have e2 : ∀ s : List UInt8, (⟨s.toArray⟩ : ByteArray).size ≤ maxLen → Tryz.prog.keyLits (d + 1) 9 [.string ⟨s.toArray⟩] = some [.string s] := by
    intro s hs
    unfold Program.keyLits; rw [Tryz.underlying9]; simp [hs]
  unfold Program.keyLits
  simp only [Tryz.underlying95, cellsOfTm]
  simp [e1, e2 S hS', e2 L hL', cellsOfInt, cellsOfStr]

/-- what a triple reads as, as a map's key -/
def litsTr (x : Tr) : List Lit := [.int .i64 x.1.1, .string x.1.2.1, .string x.1.2.2, .int .i64 x.2.1.1, .string x.2.1.2.1, .string x.2.1.2.2, .int .i64 x.2.2.1, .string x.2.2.2.1, .string x.2.2.2.2]
def keyTr (x : Tr) : Lit := .string (keyBytes (litsTr x))

theorem keyLits_triple (d : Nat) (x : Tr) (h : chkTr x = 0) : Tryz.prog.keyLits (d + 3) 99 (encTr x) = some (litsTr x) := by
  obtain ⟨h1, h2, h3, _⟩ := chk_zero h
  have q : ∀ k S L, checkN k S L = 0 → (Lit.int .i64 k).wf = true ∧ S.length ≤ maxLen ∧ L.length ≤ maxLen := fun k S L hh => by
    obtain ⟨hk, hS, hsp⟩ := check_zero hh
    have := spell_lang hsp
    refine ⟨?_, by unfold maxLen; omega, by unfold maxLen; omega⟩
    rcases hk with rfl | rfl | rfl <;> decide
  obtain ⟨a1, a2, a3⟩ := q _ _ _ h1
  obtain ⟨b1, b2, b3⟩ := q _ _ _ h2
  obtain ⟨c1, c2, c3⟩ := q _ _ _ h3
  have e1 := keyLits_term d x.1.1 x.1.2.1 x.1.2.2 a1 a2 a3
  have e2 := keyLits_term d x.2.1.1 x.2.1.2.1 x.2.1.2.2 b1 b2 b3
  have e3 := keyLits_term d x.2.2.1 x.2.2.2.1 x.2.2.2.2 c1 c2 c3
  unfold Program.keyLits
  simp only [Tryz.underlying99, cellsOfTr, encTr]
  simp [e1, e2, e3, litsTr, cellsOfTm]

theorem keyOf_tr (x : Tr) (h : chkTr x = 0) : keyOf Tryz.prog 99 (valTr x) = some (keyTr x) := by
  have hl := keyLits_triple (Tryz.prog.types.size - 2) x h
  have hsz : Tryz.prog.types.size - 2 + 3 = Tryz.prog.types.size + 1 := by
    have : 2 ≤ Tryz.prog.types.size := of_decide_eq_true (by kernel_rfl)
    omega
  rw [hsz] at hl
  have hf : (valTr x).formed Tryz.prog 99 = true := by
    simp [Value.formed, Tryz.underlying99, cellsOfTr, valTr]
  unfold keyOf
  rw [Tryz.underlying99]
  simp only [keyTypeTr, hf, Bool.and_self, if_true]
  have hc : (valTr x).cells.toList = encTr x := rfl
  rw [hc, hl]
  rfl

theorem list_of_array {a b : List UInt8} (h : (⟨a.toArray⟩ : ByteArray) = ⟨b.toArray⟩) : a = b := by
  have := congrArg (fun s : ByteArray => s.data.toList) h
  simpa using this

theorem valTr_inj {x y : Tr} (h : valTr x = valTr y) : x = y := by
  obtain ⟨⟨a1, a2, a3⟩, ⟨b1, b2, b3⟩, ⟨c1, c2, c3⟩⟩ := x
  obtain ⟨⟨a1', a2', a3'⟩, ⟨b1', b2', b3'⟩, ⟨c1', c2', c3'⟩⟩ := y
  simp only [valTr, Value.agg.injEq, Array.mk.injEq, List.cons.injEq, Value.int.injEq, Value.string.injEq, true_and, and_true] at h
  obtain ⟨h1, h2, h3, h4, h5, h6, h7, h8, h9⟩ := h
  rw [h1, list_of_array h2, list_of_array h3, h4, list_of_array h5, list_of_array h6, h7, list_of_array h8, list_of_array h9]

theorem keyTr_ne {x y : Tr} (hx : chkTr x = 0) (hy : chkTr y = 0) (h : x ≠ y) : keyTr x ≠ keyTr y := fun e => by
  have h1 := keyOf_tr x hx
  have h2 := keyOf_tr y hy
  rw [e] at h1
  exact h (valTr_inj (keyedTr.inj h1 h2))

/-- the map at a block holds just these triples -/
def InMap (w : World) (b : Nat) (l : List Tr) : Prop :=
  ∃ D : DataW Unit, w.ownsMap Tryz.prog 99 unitElem b l.length D ∧ ∀ x, chkTr x = 0 → Maps.has D (keyTr x) = decide (x ∈ l)

theorem inMap_made (w : World) : InMap (w.alloc (.map #[] 0)) w.heap.size [] :=
  ⟨.map [], World.ownsMap_made _ _ _ _, fun x _ => by simp [Maps.has_eq]⟩

theorem InMap.below {w w' : World} {b : Nat} {l : List Tr} (h : InMap w b l) (hb : RowKit.Below w.heap.size w w') : InMap w' b l := by
  obtain ⟨D, ⟨es, clock, hm, r⟩, hD⟩ := h
  have hlt : b < w.heap.size := (Array.getElem?_eq_some_iff.1 hm).1
  exact ⟨D, ⟨es, clock, (hb.block b hlt).trans hm, r⟩, hD⟩

theorem has_put {D : DataW Unit} {l : List Tr} {y : Tr} (hm : IsMap D) (hy : chkTr y = 0) (hD : ∀ x, chkTr x = 0 → Maps.has D (keyTr x) = decide (x ∈ l)) (d : DataW Unit) :
    ∀ x, chkTr x = 0 → Maps.has (D.put (keyTr y) d) (keyTr x) = decide (x ∈ l ++ [y]) := fun x hx => by
  by_cases e : x = y
  · subst e
    rw [Maps.has_put_same hm (keyedTr.key (keyOf_tr x hx))]
    simp
  · rw [Maps.has_put_other (keyTr_ne hx hy e), hD x hx]
    simp [e]

theorem zeroUnit (w : World) : (zeroValue 275).run Tryz.prog w = .ok (.agg #[]) w := by kernel_rfl
end Go.Proofs.YtnlcfnpcjkcdmafGreatDoor

/- asker: a map of a list's triples, and the question whether one is in it. -/
namespace Go.Proofs.YtnlcfnpcjkcdmafGreatDoor
open Go Go.RowKit Go.Proofs Go.Maps
set_option synthInstance.maxSize 1000

/-- at a block lies the map of these triples -/
def AskOK (w : World) (bx : Nat) (l : List Tr) : Prop := ∃ bm, w.cell? ⟨bx, 0, none⟩ = some (.map (some bm)) ∧ InMap w bm l

theorem AskOK.below {w w' : World} {bx : Nat} {l : List Tr} (h : AskOK w bx l) (hb : RowKit.Below w.heap.size w w') : AskOK w' bx l := by
  obtain ⟨bm, hc, hm⟩ := h
  exact ⟨bm, (hb.cell (World.block_lt_of_cell? w _ hc)).trans hc, hm.below hb⟩

set_option maxHeartbeats 1000000 in
set_option maxRecDepth 100000 in
theorem ask_any (bx : Nat) (l : List Tr) (x : Tr) (w : World) (h : AskOK w bx l) (hx : chkTr x = 0) :
    Calls Tryz.prog 206 #[valTr x, .pointer (some ⟨bx, 0, none⟩)] w fun e w' => e = .returned (.bool (decide (x ∈ l))) ∧ RowKit.Below w.heap.size w w' := by
  obtain ⟨bm, hc, D, hown, hD⟩ := h
  have hkey := keyOf_tr x hx
  have hd : Hid (Maps.has D (keyTr x) = decide (x ∈ l)) := hD x hx
  have hbx : bx < w.heap.size := World.block_lt_of_cell? w _ hc
  clear hD
  unfold valTr at hkey ⊢
  go_enter Tryz.func206, Tryz.ntmps206
  go_wp2_with (first
    | (at_lookup; refine wpList_lookup_own_unit _ rfl _ _ 274 rfl 99 275 keyedTr Tryz.underlying274 (zeroUnit _) bm _ _ rfl (hown.alloc _) _ _ rfl hkey ?_))
  go_ret
  exact ⟨ret_bool hd.out, bstep (balloc _ _) (balloc _ _)⟩

theorem enters206 : ∀ args w, (callFunc 206 args).run Tryz.prog w = .ok (.enter 206 args) w := enters_of Tryz.func206 (by kernel_rfl) rfl

theorem makeMapHint (n : Int) (w : World) : (Instr.makeMap 274 (some (.int .i64 n))).run Tryz.prog w = .ok (.map (some w.heap.size)) (w.alloc (.map #[] 0)) := by kernel_rfl

set_option maxHeartbeats 2000000 in
set_option maxRecDepth 100000 in
theorem asker_any (ad : Option Addr) (cap : Nat) (l : List Tr) (w : World) (h : SlT w ad l) (hs : ∀ x ∈ l, chkTr x = 0) (h200 : l.length ≤ 200) :
    Calls Tryz.prog 174 #[.slice ad l.length cap] w fun e w' => ∃ bx, e = .returned (.func (.func 206) #[] #[.pointer (some ⟨bx, 0, none⟩)]) ∧ AskOK w' bx l ∧ RowKit.Below w.heap.size w w' := by
  have hmm := makeMapHint
  have Hl : Hid (SlT w ad l) := h
  have Hs : Hid (∀ x ∈ l, chkTr x = 0) := hs
  clear h hs
  go_enter Tryz.func174, Tryz.ntmps174
  go_wp2_with fail
  go_loopw [11] (fun i wr => ∃ k : Nat, k ≤ l.length ∧ i = .int .i64 k ∧ Hid (InMap wr w.heap.size (l.take k)) ∧ wr.cell? ⟨w.heap.size + 1, 0, none⟩ = some (.map (some w.heap.size)) ∧ RowKit.Below w.heap.size w wr) (fun i wr => l.length - (intOf i).toNat)
  case atStart =>
    refine ⟨0, Nat.zero_le _, rfl, ?_, by go_simp, ?_⟩
    · show InMap _ _ _
      rw [List.take_zero]
      exact (inMap_made w).below (balloc _ _)
    · exact bstep (balloc _ _) (balloc _ _)
  case round =>
    obtain ⟨k, hk, rfl, hin, hcb, hbr⟩ := hrel
    by_cases hlt : k < l.length
    · obtain ⟨b, o, rfl, hr⟩ := (Hl.out.below hbr).at k hlt
      obtain ⟨c0, c1, c2, c3, c4, c5, c6, c7, c8⟩ := hr.at k hlt
      have i0 : (0 : Int) ≤ (k : Int) := by omega
      have i1 : (k : Int) < (l.length : Int) := by omega
      obtain ⟨D, hown0, hD0⟩ := hin.out
      have hlen : (l.take k).length = k := by simp; omega
      rw [hlen] at hown0
      have hown : Hid (wr.ownsMap Tryz.prog 99 unitElem w.heap.size k D) := hown0
      have hy : Hid (chkTr l[k] = 0) := Hs.out _ (List.getElem_mem hlt)
      have hput : Hid (∀ x, chkTr x = 0 → Maps.has (D.put (keyTr l[k]) (.agg [])) (keyTr x) = decide (x ∈ l.take (k + 1))) := by
        have := has_put hown0.isMap hy.out hD0 (.agg [])
        rw [List.take_succ_eq_append_getElem hlt]
        exact this
      have hkey := keyOf_tr l[k] hy.out
      have hzr := hbr.size
      have hb1 : w.heap.size + 1 < wr.heap.size := World.block_lt_of_cell? wr _ hcb
      clear hr hown0 hD0 hin
      have hlen2 : Hid ((l.take (k + 1)).length = k + 1) := by show _ = _; simp; omega
      generalize l[k] = y at *
      unfold valTr at hkey
      go_wp2_with (first
        | (at_mapUpdate; refine wpList_mapUpdate_own _ rfl _ _ _ 274 rfl 99 275 keyedTr Tryz.underlying274 (unitElem (H := Unit)) w.heap.size k _ rfl (hown.out.alloc _) (by unfold maxLen; omega) _ _ _ rfl rfl hkey _ [] unitElem_mk ?_; intro w1 hown1 hgrow1))
      go_roundw
      case rel =>
        refine ⟨k + 1, by omega, by go_num, ⟨_, by rw [hlen2.out]; exact hown1, hput.out⟩, ?_, ?_⟩
        · have q := hgrow1.block (w.heap.size + 1) (by simp; omega) (by simp)
          have := (balloc wr (.cells (encTr y).toArray 99)).cell (p := ⟨w.heap.size + 1, 0, none⟩) hb1
          rw [hcb] at this
          simp only [World.cell?] at this ⊢
          rw [q]
          exact this
        · exact (hbr.alloc hzr _).grown hgrow1 (by simp; omega) (fun j hj => by cases hj; exact Nat.le_refl _)
      case measure => simp [intOf]; omega
    · obtain rfl : k = l.length := by omega
      go_wp2_with fail
      go_ret
      refine ⟨w.heap.size + 1, rfl, ⟨w.heap.size, hcb, ?_⟩, hbr⟩
      have := hin.out
      rwa [List.take_length] at this
end Go.Proofs.YtnlcfnpcjkcdmafGreatDoor

/- keep: those of a list that are wanted; the questions of Join and Less. -/
namespace Go.Proofs.YtnlcfnpcjkcdmafGreatDoor
open Go Go.RowKit Go.Proofs Go.Maps
set_option synthInstance.maxSize 1000

/-- at a block lies the question whether a triple is among these -/
def NotOK (w : World) (by1 : Nat) (l : List Tr) : Prop := ∃ bx, w.cell? ⟨by1, 0, none⟩ = some (.func (.func 206) #[] #[.pointer (some ⟨bx, 0, none⟩)]) ∧ AskOK w bx l

theorem NotOK.below {w w' : World} {bx : Nat} {l : List Tr} (h : NotOK w bx l) (hb : RowKit.Below w.heap.size w w') : NotOK w' bx l := by
  obtain ⟨bm, hc, hm⟩ := h
  exact ⟨bm, (hb.cell (World.block_lt_of_cell? w _ hc)).trans hc, hm.below hb⟩

set_option maxHeartbeats 1000000 in
set_option maxRecDepth 100000 in
theorem notJoin_any (by1 : Nat) (l : List Tr) (x : Tr) (w : World) (h : NotOK w by1 l) (hx : chkTr x = 0) :
    Calls Tryz.prog 176 #[valTr x, .pointer (some ⟨by1, 0, none⟩)] w fun e w' => e = .returned (.bool (!decide (x ∈ l))) ∧ RowKit.Below w.heap.size w w' := by
  obtain ⟨bx, hc, ha⟩ := h
  have H := fun W (hW : AskOK W bx l) => ask_any bx l x W hW hx
  have Ha : Hid (AskOK w bx l) := ha
  have hbx : by1 < w.heap.size := World.block_lt_of_cell? w _ hc
  have eg := enters206
  generalize decide (x ∈ l) = d at H ⊢
  clear ha hx
  unfold valTr at H ⊢
  go_enter Tryz.func176, Tryz.ntmps176
  go_wp2_with fail
  go_at_fn 206
  refine (H _ (Ha.out.below (balloc _ _))).mono ?_
  rintro e w1 ⟨rfl, hb1⟩
  go_wp2_with fail
  go_ret
  exact ⟨rfl, bstep (balloc _ _) hb1⟩

theorem enters176 : ∀ args w, (callFunc 176 args).run Tryz.prog w = .ok (.enter 176 args) w := enters_of Tryz.func176 (by kernel_rfl) rfl
set_option maxHeartbeats 1000000 in
set_option maxRecDepth 100000 in
theorem notLess_any (by1 : Nat) (l : List Tr) (x : Tr) (w : World) (h : NotOK w by1 l) (hx : chkTr x = 0) :
    Calls Tryz.prog 175 #[valTr x, .pointer (some ⟨by1, 0, none⟩)] w fun e w' => e = .returned (.bool (!decide (x ∈ l))) ∧ RowKit.Below w.heap.size w w' := by
  obtain ⟨bx, hc, ha⟩ := h
  have H := fun W (hW : AskOK W bx l) => ask_any bx l x W hW hx
  have Ha : Hid (AskOK w bx l) := ha
  have hbx : by1 < w.heap.size := World.block_lt_of_cell? w _ hc
  have eg := enters206
  generalize decide (x ∈ l) = d at H ⊢
  clear ha hx
  unfold valTr at H ⊢
  go_enter Tryz.func175, Tryz.ntmps175
  go_wp2_with fail
  go_at_fn 206
  refine (H _ (Ha.out.below (balloc _ _))).mono ?_
  rintro e w1 ⟨rfl, hb1⟩
  go_wp2_with fail
  go_ret
  exact ⟨rfl, bstep (balloc _ _) hb1⟩

theorem enters175 : ∀ args w, (callFunc 175 args).run Tryz.prog w = .ok (.enter 175 args) w := enters_of Tryz.func175 (by kernel_rfl) rfl

theorem filter_step (l : List Tr) (p : Tr → Bool) (k : Nat) (h : k < l.length) : (l.take (k + 1)).filter p = (l.take k).filter p ++ (if p l[k] then [l[k]] else []) := by
  rw [List.take_succ_eq_append_getElem h, List.filter_append]
  cases hp : p l[k] <;> simp [hp]

set_option maxHeartbeats 4000000 in
set_option maxRecDepth 100000 in
theorem keep_any (ad : Option Addr) (cap g bl : Nat) (l : List Tr) (p : Tr → Bool) (w : World) (h : SlT w ad l) (h200 : l.length ≤ 200)
    (eg : ∀ args w, (callFunc g args).run Tryz.prog w = .ok (.enter g args) w)
    (hf : ∀ x ∈ l, ∀ W : World, RowKit.Below w.heap.size w W → Calls Tryz.prog g #[valTr x, .pointer (some ⟨bl, 0, none⟩)] W fun e w' => e = .returned (.bool (p x)) ∧ RowKit.Below W.heap.size W w') :
    Calls Tryz.prog 173 #[.slice ad l.length cap, .func (.func g) #[] #[.pointer (some ⟨bl, 0, none⟩)]] w fun e w' => ∃ ad' cap', e = .returned (.slice ad' (l.filter p).length cap') ∧ SlT w' ad' (l.filter p) ∧ RowKit.Below w.heap.size w w' := by
  have Hl : Hid (SlT w ad l) := h
  have Hf : Hid (∀ x ∈ l, ∀ W : World, RowKit.Below w.heap.size w W → Calls Tryz.prog g #[valTr x, .pointer (some ⟨bl, 0, none⟩)] W fun e w' => e = .returned (.bool (p x)) ∧ RowKit.Below W.heap.size W w') := hf
  clear h hf
  obtain ⟨i0, hi, hz⟩ := Option.map_eq_some_iff.1 infoTr
  simp only [Prod.mk.injEq] at hz
  obtain ⟨hz0, hz1, hz2⟩ := hz
  go_enter Tryz.func173, Tryz.ntmps173
  go_wp2_with fail
  go_loopw [5, 10] (fun v i wr => ∃ k : Nat, k ≤ l.length ∧ i = .int .i64 k ∧ Hid (wr.ownsRow w.heap.size 99 9 v ((l.take k).filter p).length (cellsT ((l.take k).filter p))) ∧ RowKit.Below w.heap.size w wr) (fun _ i wr => l.length - (intOf i).toNat)
  case atStart => exact ⟨0, Nat.zero_le _, rfl, by show World.ownsRow _ _ _ _ _ _ _; rw [List.take_zero]; exact World.ownsRow_nil _ _ _ _, RowKit.Below.refl _ _⟩
  case round =>
    obtain ⟨k, hk, rfl, hown, hbr⟩ := hrel
    by_cases hlt : k < l.length
    · obtain ⟨b, o, rfl, hr⟩ := (Hl.out.below hbr).at k hlt
      obtain ⟨c0, c1, c2, c3, c4, c5, c6, c7, c8⟩ := hr.at k hlt
      have i0' : (0 : Int) ≤ (k : Int) := by omega
      have i1 : (k : Int) < (l.length : Int) := by omega
      have hstep : Hid _ := filter_step l p k hlt
      have hfil : ((l.take k).filter p).length ≤ k := Nat.le_trans (List.length_filter_le _ _) (by simp; omega)
      have H := Hf.out l[k] (List.getElem_mem hlt)
      have hzr := hbr.size
      generalize ht : (l.take (k + 1)).filter p = t1 at hstep
      have Ht : Hid _ := ht
      generalize (l.take k).filter p = t0 at *
      generalize l[k] = y at *
      clear hr ht
      cases hp : p y
      · rw [hp] at H
        have hs2 : Hid (t1 = t0) := by have := hstep.out; rw [hp] at this; simpa [Hid] using this
        unfold valTr at H
        go_wp2_with fail
        go_at_fn g
        refine (H _ (bstep hbr (balloc _ _))).mono ?_
        rintro e w1 ⟨rfl, hb1⟩
        go_wp2_with fail
        go_roundw
        case rel =>
          refine ⟨k + 1, by omega, by go_num, ?_, bstep (bstep hbr (balloc _ _)) hb1⟩
          show World.ownsRow _ _ _ _ _ _ _
          rw [Ht.out, hs2.out]
          exact ownsRow_below (hown.out.alloc _) hb1
        case measure => simp [intOf]; omega
      · rw [hp] at H
        have hs2 : Hid (t1 = t0 ++ [y]) := by have := hstep.out; rw [hp] at this; simpa [Hid] using this
        unfold valTr at H
        go_wp2_with fail
        go_at_fn g
        refine (H _ (bstep hbr (balloc _ _))).mono ?_
        rintro e w1 ⟨rfl, hb1⟩
        have hrow1 : Hid (w1.ownsRow w.heap.size 99 9 _ t0.length (cellsT t0)) := ownsRow_below (hown.out.alloc _) hb1
        have hB1 := bstep (bstep hbr (balloc _ _)) hb1
        have hz1' := hB1.size
        obtain ⟨a0, a1, a2, b0, b1, b2, d0, d1, d2, hzz⟩ := ninebox hb1
        clear c0 c1 c2 c3 c4 c5 c6 c7 c8 hown
        go_wp2_with (at_builtin; refine wpList_append_own _ rfl _ _ 28 rfl w.heap.size 99 i0 (.agg (encTr zeroTr).toArray) 9 120 Tryz.underlying28 hi hz0 hz1 hz2 rfl (by decide) _ _ _ rfl (hrow1.out.alloc _) ⟨w1.heap.size, 0, none⟩ 1 1 (encTr y) rfl rfl ?c1 ?c2 ?c3 ?c4 ?c5 ?_)
        case c1 =>
          intro i u hi'
          have h9 : i < 9 := (List.getElem?_eq_some_iff.1 hi').1
          rw [Addr.add_lit]
          rcases (by omega : i = 0 ∨ i = 1 ∨ i = 2 ∨ i = 3 ∨ i = 4 ∨ i = 5 ∨ i = 6 ∨ i = 7 ∨ i = 8) with rfl | rfl | rfl | rfl | rfl | rfl | rfl | rfl | rfl
          all_goals
            simp [encTr] at hi'
            subst hi'
            go_simp
        case c2 => exact encTr_one y
        case c3 => unfold maxLen; omega
        case c4 => omega
        case c5 => simp; omega
        intro v' w9 hown' hgrow _
        have hbel := (hB1.alloc hz1' (.cells (encTr y).toArray 99)).grown hgrow (by simp; omega) (fun k hk => (hrow1.out.lt k hk).1)
        go_wp2_with fail
        go_roundw
        case rel =>
          refine ⟨k + 1, by omega, by go_num, ?_, hbel⟩
          show World.ownsRow _ _ _ _ _ _ _
          rw [Ht.out, hs2.out]
          simpa [cellsT] using hown'
        case measure => simp [intOf]; omega
    · obtain rfl : k = l.length := by omega
      have hown' := hown.out
      rw [List.take_length] at hown'
      obtain ⟨ad', cap', rfl, hsl⟩ := own_slT hown'
      clear hown' hown
      go_wp2_with fail
      go_ret
      exact ⟨ad', cap', rfl, hsl, hbr⟩
end Go.Proofs.YtnlcfnpcjkcdmafGreatDoor

/- slices.Grow of nothing, slices.Concat of two lists of triples. -/
namespace Go.Proofs.YtnlcfnpcjkcdmafGreatDoor
open Go Go.RowKit Go.Proofs
set_option synthInstance.maxSize 1000

set_option maxHeartbeats 1000000 in
set_option maxRecDepth 100000 in
theorem Grow_none (w : World) : Calls Tryz.prog 210 #[.slice none 0 0, .int .i64 0] w fun e w' => e = .returned (.slice none 0 0) ∧ w' = w := by
  go_enter Tryz.func210, Tryz.ntmps210
  go_wp2
  go_ret
  exact ⟨rfl, rfl⟩

set_option maxHeartbeats 1000000 in
set_option maxRecDepth 100000 in
theorem Grow_some (n : Nat) (w : World) (hn : 0 < n) (h400 : n ≤ 400) :
    Calls Tryz.prog 210 #[.slice none 0 0, .int .i64 n] w fun e w' => ∃ c, e = .returned (.slice (some ⟨w.heap.size, 0, none⟩) 0 c) ∧ w'.ownsRow w.heap.size 99 9 (.slice (some ⟨w.heap.size, 0, none⟩) 0 c) 0 [] ∧ RowKit.Below w.heap.size w w' := by
  obtain ⟨i0, hi, hz⟩ := Option.map_eq_some_iff.1 infoTr
  simp only [Prod.mk.injEq] at hz
  obtain ⟨hz0, hz1, hz2⟩ := hz
  have hrz := fun ty => Lib.run_append_nil_zeros w 28 3 ty 99 i0 _ .i64 .i64 Tryz.underlying28 Tryz.underlying3 hi hz0 n hn (by rw [hz1]; omega) (by omega) (by rw [hz2]; omega)
  have hge := grownCap_ge w n 0 99
  have hle := grownCap_le_maxLen w n 0 99 (by unfold maxLen; omega)
  generalize grownCap w n 0 99 = c at *
  have hd : decide ((n : Int) > 0) = true := by simp; omega
  have hd0 : decide ((n : Int) < 0) = false := by simp
  have hle' : c ≤ 9223372036854775807 := by unfold maxLen at hle; omega
  go_enter Tryz.func210, Tryz.ntmps210
  go_wp2_with (at_builtin; refine Lib.wpList_append_run _ rfl _ _ _ _ rfl _ _ rfl rfl _ _ (hrz _) ?_)
  go_ret
  refine ⟨c, rfl, ⟨rfl, Or.inr ⟨w.heap.size, c, _, rfl, Nat.le_refl _, (MapKept.heap_alloc w.drew _).1, Nat.zero_le _, hle, ?_, by simp⟩⟩, (RowKit.Below.refl _ _).drew.alloc (Nat.le_refl _) _⟩
  simp [Builtin.zeroCells, encTr]
  omega

theorem append_empty {base n : Nat} {v : Value} {cs : List Value} {W : World} (h : W.ownsRow base 99 9 v n cs) (ad : Option Addr) (cap : Nat) (ty : TypeId) :
    (Builtin.append_ #[28, 28] ty #[v, .slice ad 0 cap]).run Tryz.prog W = .ok v W := by
  obtain ⟨i, hi, hz⟩ := Option.map_eq_some_iff.1 infoTr
  have hf : (Builtin.firstCells i.size 0 (.slice ad 0 cap)).run Tryz.prog W = .ok #[] W := by
    cases ad with
    | none => exact run_firstCells_none W _ _ _ _
    | some a => exact run_firstCells_some (P := Tryz.prog) W i.size 0 a 0 cap [] (by simp) (by simp)
  rcases h.2 with ⟨rfl, h0⟩ | ⟨g, c, cur, rfl, _, _, hle, _⟩
  · simp [Builtin.append_, run_underlying Tryz.underlying28, sizeOf, typeInfo, hi, Builtin.lenOf, hf]
  · simp [Builtin.append_, run_underlying Tryz.underlying28, sizeOf, typeInfo, hi, Builtin.lenOf, hf, hle, storeCells]

/-- an append of a list to a row of one's own, for the walk -/
theorem wpList_append_list {ops : Array Oper} {rest : List Oper} {o : Oper} {a : Act} {Q : Exit → Act → World → Prop} (w : World) (hgd : o.guard = none) (s x : Operand)
    (ho : o.op = .call { callee := .builtin .append, args := #[s, x], argTypes := #[28, 28] })
    (base : Nat) (v : Value) (t l : List Tr) (ad : Option Addr) (c : Nat) (hs : a.eval s = v) (hx : a.eval x = .slice ad l.length c) (hown : w.ownsRow base 99 9 v t.length (cellsT t)) (hl : SlT w ad l)
    (h63 : t.length + l.length ≤ 1000000) (hbase : base ≤ w.heap.size)
    (h : ∀ v' w', w'.ownsRow base 99 9 v' (t ++ l).length (cellsT (t ++ l)) → RowKit.Below base w w' → wpList Tryz.prog ops Q rest (a.put o.dst v') w') : wpList Tryz.prog ops Q (o :: rest) a w := by
  obtain ⟨i0, hi, hz⟩ := Option.map_eq_some_iff.1 infoTr
  simp only [Prod.mk.injEq] at hz
  obtain ⟨hz0, hz1, hz2⟩ := hz
  cases l with
  | nil =>
    refine Lib.wpList_append_run w hgd s x _ _ ho v _ hs hx v w (append_empty hown ad c _) (h v w ?_ (RowKit.Below.refl _ _))
    simpa using hown
  | cons y r =>
    obtain ⟨b, off, rfl, hr⟩ := hl (by simp)
    refine wpList_append_own w hgd s x _ ho base 99 i0 (.agg (encTr zeroTr).toArray) 9 120 Tryz.underlying28 hi hz0 hz1 hz2 rfl (by decide) v t.length (cellsT t) hs hown ⟨b, off, none⟩ (y :: r).length c (cellsT (y :: r)) hx (cellsT_len _) ?_ (cellsT_one _) (by unfold maxLen; omega) (by omega) hbase ?_
    · intro j u hj
      rw [Addr.add_lit]
      exact hr j u hj
    · intro v' w' h2 h3 _
      refine h v' w' ?_ ((RowKit.Below.refl _ _).grown h3 hbase (fun k hk => (hown.lt k hk).1))
      rw [List.length_append]
      simpa [cellsT] using h2

theorem wrapN (n : Nat) (h : n ≤ 1000000) : IntKind.i64.wrap (n : Int) = n := by simp [IntKind.wrap, IntKind.bits, IntKind.signed]; omega

set_option maxHeartbeats 4000000 in
set_option maxRecDepth 100000 in
theorem Concat_any (bs : Nat) (ad ad' : Option Addr) (ca cb : Nat) (l m : List Tr) (w : World) (h0 : w.cell? ⟨bs, 0, none⟩ = some (.slice ad l.length ca)) (h1 : w.cell? ⟨bs, 1, none⟩ = some (.slice ad' m.length cb))
    (hl : SlT w ad l) (hm : SlT w ad' m) (hl2 : l.length ≤ 200) (hm2 : m.length ≤ 200) :
    Calls Tryz.prog 178 #[.slice (some ⟨bs, 0, none⟩) 2 2] w fun e w' => ∃ ad'' c, e = .returned (.slice ad'' (l ++ m).length c) ∧ SlT w' ad'' (l ++ m) ∧ RowKit.Below w.heap.size w w' := by
  have Hl : Hid (SlT w ad l) := hl
  have Hm : Hid (SlT w ad' m) := hm
  have hbs : bs < w.heap.size := World.block_lt_of_cell? w _ h0
  clear hl hm
  go_enter Tryz.func178, Tryz.ntmps178
  go_wp2_with fail
  go_loopw [3, 11] (fun s i wr => ∃ k : Nat, k ≤ 2 ∧ i = .int .i64 k ∧ s = .int .i64 ((if 0 < k then l.length else 0 : Nat) + (if 1 < k then m.length else 0 : Nat) : Int) ∧ w = wr) (fun _ i wr => 2 - (intOf i).toNat)
  case atStart => exact ⟨0, by omega, rfl, rfl, rfl⟩
  case round =>
    obtain ⟨k, hk, rfl, rfl, rfl⟩ := hrel
    rcases (by omega : k = 0 ∨ k = 1 ∨ k = 2) with rfl | rfl | rfl
    · go_wp2_with fail
      exact ⟨⟨1, by omega, rfl, by simp, trivial⟩, by simp [intOf]⟩
    · go_wp2_with fail
      exact ⟨⟨2, by omega, rfl, by simp, trivial⟩, by simp [intOf]⟩
    · have HG : ∀ W : World, Calls Tryz.prog 210 #[.slice none 0 0, .int .i64 ((l.length : Int) + (m.length : Int))] W fun e w' => ∃ v, e = .returned v ∧ w'.ownsRow W.heap.size 99 9 v 0 [] ∧ RowKit.Below W.heap.size W w' := by
        intro W
        by_cases hz : l.length + m.length = 0
        · rw [show (l.length : Int) + (m.length : Int) = 0 by omega]
          refine (Grow_none W).mono ?_
          rintro e w' ⟨rfl, rfl⟩
          exact ⟨_, rfl, World.ownsRow_nil _ _ _ _, RowKit.Below.refl _ _⟩
        · have := Grow_some (l.length + m.length) W (by omega) (by omega)
          rw [show ((l.length + m.length : Nat) : Int) = (l.length : Int) + (m.length : Int) by omega] at this
          refine this.mono ?_
          rintro e w' ⟨c, rfl, h1, h2⟩
          exact ⟨_, rfl, h1, h2⟩
      go_wp2_with fail
      refine (HG _).mono ?_
      rintro e w1 ⟨v, rfl, hown, hb1⟩
      have Hown : Hid (w1.ownsRow w.heap.size 99 9 v 0 []) := hown
      clear hown HG
      go_wp2_with fail
      go_loopw [6, 27] (fun v i wr => ∃ k : Nat, k ≤ 2 ∧ i = .int .i64 k ∧ Hid (wr.ownsRow w.heap.size 99 9 v ((if 0 < k then l else []) ++ (if 1 < k then m else [])).length (cellsT ((if 0 < k then l else []) ++ (if 1 < k then m else [])))) ∧ RowKit.Below w.heap.size w wr) (fun _ i wr => 2 - (intOf i).toNat)
      case atStart => exact ⟨0, by omega, rfl, Hown.out, hb1⟩
      case round =>
        obtain ⟨k, hk, rfl, hown, hbr⟩ := hrel
        have hc0 : wr.cell? ⟨bs, 0, none⟩ = some (.slice ad l.length ca) := (hbr.cell hbs).trans h0
        have hc1 : wr.cell? ⟨bs, 1, none⟩ = some (.slice ad' m.length cb) := (hbr.cell hbs).trans h1
        have hzr := hbr.size
        rcases (by omega : k = 0 ∨ k = 1 ∨ k = 2) with rfl | rfl | rfl
        · have hown' : Hid (wr.ownsRow w.heap.size 99 9 _ ([] : List Tr).length (cellsT [])) := hown.out
          clear hown
          go_wp2_with (at_builtin; refine wpList_append_list _ rfl _ _ rfl w.heap.size _ [] l ad ca rfl rfl hown'.out (Hl.out.below hbr) (by simp; omega) hzr ?_; intro v' w' hown2 hb2)
          exact ⟨⟨1, by omega, rfl, by show World.ownsRow _ _ _ _ _ _ _; simpa using hown2, hbr.trans hb2⟩, by simp [intOf]⟩
        · have hown1 := hown.out
          rw [show ((if 0 < 1 then l else []) ++ (if 1 < 1 then m else [])) = l by simp] at hown1
          have hown' : Hid _ := hown1
          clear hown hown1
          go_wp2_with (at_builtin; refine wpList_append_list _ rfl _ _ rfl w.heap.size _ l m ad' cb rfl rfl hown'.out (Hm.out.below hbr) (by omega) hzr ?_; intro v' w' hown2 hb2)
          exact ⟨⟨2, by omega, rfl, by show World.ownsRow _ _ _ _ _ _ _; simpa using hown2, hbr.trans hb2⟩, by simp [intOf]⟩
        · have hown' := hown.out
          rw [show ((if 0 < 2 then l else []) ++ (if 1 < 2 then m else [])) = l ++ m by simp] at hown'
          obtain ⟨ad'', c, rfl, hsl⟩ := own_slT hown'
          clear hown' hown
          go_wp2_with fail
          go_ret
          exact ⟨ad'', c, rfl, hsl, hbr⟩
end Go.Proofs.YtnlcfnpcjkcdmafGreatDoor

/- Join, Less, Both, Has: what they tell. -/
namespace Go.Proofs.YtnlcfnpcjkcdmafGreatDoor
open Go Go.RowKit Go.Proofs
open Go.Maps
set_option synthInstance.maxSize 1000

attribute [local go_sem] eql_errV neq_errV guard_errV

/-- what is wrong with two sets -/
def bothN (a b : List Tr) : Int := if sortedN a = 0 then sortedN b else sortedN a
theorem bothN_zero {a b : List Tr} : bothN a b = 0 ↔ IsSet a ∧ IsSet b := by
  unfold bothN
  by_cases h : sortedN a = 0
  · rw [if_pos h, sortedN_set]
    exact ⟨fun hb => ⟨sortedN_set.1 h, hb⟩, fun hb => hb.2⟩
  · rw [if_neg h]
    exact ⟨fun hb => absurd hb h, fun hb => absurd (sortedN_set.2 hb.1) h⟩

set_option maxHeartbeats 1000000 in
theorem bothSorted_any (ad bd : Option Addr) (ca cb : Nat) (a b : List Tr) (w : World) (ha : SlT w ad a) (hb : SlT w bd b) (fa : ∀ x ∈ a, fitTr x) (fb : ∀ x ∈ b, fitTr x) (na : a.length ≤ 9223372036854775807) (nb : b.length ≤ 9223372036854775807) :
    Calls Tryz.prog 172 #[.slice ad a.length ca, .slice bd b.length cb] w fun e w' => e = .returned (errV (bothN a b)) ∧ RowKit.Below w.heap.size w w' := by
  have H1 := fun W hW => Sorted_any ad ca a W hW fa na
  have H2 := fun W hW => Sorted_any bd cb b W hW fb nb
  have fin : Hid (bothN a b = if sortedN a = 0 then sortedN b else sortedN a) := rfl
  have Ha : Hid (SlT w ad a) := ha
  have Hb : Hid (SlT w bd b) := hb
  generalize sortedN a = n at H1 fin
  generalize sortedN b = m at H2 fin
  clear ha hb fa fb na nb
  cases hn : (n == 0)
  · go_enter Tryz.func172, Tryz.ntmps172
    go_wp2_with fail
    refine (H1 _ Ha.out).mono ?_
    rintro e w1 ⟨rfl, hb1⟩
    go_wp2_with fail
    go_ret
    simp at hn
    exact ⟨ret_val (by rw [fin.out, if_neg hn]; rfl), hb1⟩
  · go_enter Tryz.func172, Tryz.ntmps172
    go_wp2_with fail
    refine (H1 _ Ha.out).mono ?_
    rintro e w1 ⟨rfl, hb1⟩
    go_wp2_with fail
    refine (H2 _ (Hb.out.below hb1)).mono ?_
    rintro e w2 ⟨rfl, hb2⟩
    go_wp2_with fail
    go_ret
    simp at hn
    exact ⟨ret_val (by rw [fin.out, if_pos hn]; rfl), bstep hb1 hb2⟩

/-- a call's answer: a list and a number -/
def Ans (n : Int) (P : List Tr → Prop) (w : World) (e : Ending) (w' : World) : Prop := RowKit.Below w.heap.size w w' ∧ ∃ (m : List Tr) (ad : Option Addr) (c : Nat), e = .returned (.tuple #[.slice ad m.length c, errV n]) ∧ SlT w' ad m ∧ P m

theorem Ans.mk {n : Int} {P : List Tr → Prop} {w w' : World} (hb : RowKit.Below w.heap.size w w') (m : List Tr) (ad : Option Addr) (c : Nat) (hs : SlT w' ad m) (hp : P m) : Ans n P w (.returned (.tuple #[.slice ad m.length c, errV n])) w' := ⟨hb, m, ad, c, rfl, hs, hp⟩
theorem slT_nil (W : World) (ad : Option Addr) : SlT W ad [] := fun h => absurd rfl h

def LessAns (a b m : List Tr) : Prop := m = if bothN a b = 0 then lessL a b else []
def BothAns (a b m : List Tr) : Prop := m = if bothN a b = 0 then bothL a b else []

set_option maxHeartbeats 2000000 in
set_option maxRecDepth 100000 in
theorem Less_any (ad bd : Option Addr) (ca cb : Nat) (a b : List Tr) (w : World) (ha : SlT w ad a) (hb : SlT w bd b) (fa : ∀ x ∈ a, fitTr x) (fb : ∀ x ∈ b, fitTr x) (na : a.length ≤ 9223372036854775807) (nb : b.length ≤ 9223372036854775807) :
    Calls Tryz.prog 133 #[.slice ad a.length ca, .slice bd b.length cb] w (Ans (bothN a b) (LessAns a b) w) := by
  have H := fun W h1 h2 => bothSorted_any ad bd ca cb a b W h1 h2 fa fb na nb
  have Ha : Hid (SlT w ad a) := ha
  have Hb : Hid (SlT w bd b) := hb
  have hz0 := @bothN_zero a b
  have hA0 : Hid (bothN a b ≠ 0 → LessAns a b []) := fun h => by unfold LessAns; rw [if_neg h]
  have hA1 : Hid (bothN a b = 0 → LessAns a b (lessL a b)) := fun h => by unfold LessAns; rw [if_pos h]
  generalize LessAns a b = LA at *
  generalize bothN a b = n at *
  clear ha hb fa fb na nb
  cases hn : (n == 0)
  · clear hz0
    go_enter Tryz.func133, Tryz.ntmps133
    go_wp2_with fail
    refine (H _ Ha.out Hb.out).mono ?_
    rintro e w1 ⟨rfl, hb1⟩
    go_wp2_with fail
    refine bodyPost_ret (v := .tuple #[.slice none 0 0, errV n]) (by simp [results, Tryz.results133, go_sem]) rfl (Ans.mk hb1 [] none 0 (slT_nil _ _) (hA0.out (by simpa using hn)))
  · obtain ⟨sa, sb⟩ := hz0.1 (by simpa using hn)
    have HK := fun W hW (bl : Nat) (hN : NotOK W bl b) => keep_any ad ca 175 bl a (fun x => !decide (x ∈ b)) W hW sa.1 enters175 (fun x hx W' hW' => notLess_any bl b x W' (hN.below hW') (sa.2.1 x hx))
    have HA := fun W hW => asker_any bd cb b W hW sb.2.1 sb.1
    have h0 : n = 0 := by simpa using hn
    have hA2 : Hid _ := hA1.out h0
    clear hA0 hA1
    subst h0
    rw [show errV 0 = .nilIface from rfl] at H
    clear sa sb hz0 hn
    go_enter Tryz.func133, Tryz.ntmps133
    go_wp2_with fail
    refine (H _ Ha.out Hb.out).mono ?_
    rintro e w1 ⟨rfl, hb1⟩
    go_wp2_with fail
    refine (HA _ (Hb.out.below hb1)).mono ?_
    rintro e w2 ⟨bx, rfl, hask, hb2⟩
    have hB2 := bstep hb1 hb2
    have Hask : Hid (AskOK w2 bx b) := hask
    clear hask
    go_wp2_with fail
    refine (HK _ ?h1 _ ?h2).mono ?_
    case h1 => exact Ha.out.below (bstep hB2 (balloc _ _))
    case h2 => exact ⟨bx, by go_simp, Hask.out.below (balloc _ _)⟩
    rintro e w3 ⟨ad', c', rfl, hsl, hb3⟩
    go_wp2_with fail
    refine bodyPost_ret (v := .tuple #[.slice ad' (a.filter fun x => !decide (x ∈ b)).length c', .nilIface]) (by simp [results, Tryz.results133, go_sem]) rfl (Ans.mk (n := 0) (bstep (bstep hB2 (balloc _ _)) hb3) _ ad' c' hsl hA2.out)

set_option maxHeartbeats 2000000 in
set_option maxRecDepth 100000 in
theorem Both_any (ad bd : Option Addr) (ca cb : Nat) (a b : List Tr) (w : World) (ha : SlT w ad a) (hb : SlT w bd b) (fa : ∀ x ∈ a, fitTr x) (fb : ∀ x ∈ b, fitTr x) (na : a.length ≤ 9223372036854775807) (nb : b.length ≤ 9223372036854775807) :
    Calls Tryz.prog 132 #[.slice ad a.length ca, .slice bd b.length cb] w (Ans (bothN a b) (BothAns a b) w) := by
  have H := fun W h1 h2 => bothSorted_any ad bd ca cb a b W h1 h2 fa fb na nb
  have Ha : Hid (SlT w ad a) := ha
  have Hb : Hid (SlT w bd b) := hb
  have hz0 := @bothN_zero a b
  have hA0 : Hid (bothN a b ≠ 0 → BothAns a b []) := fun h => by unfold BothAns; rw [if_neg h]
  have hA1 : Hid (bothN a b = 0 → BothAns a b (bothL a b)) := fun h => by unfold BothAns; rw [if_pos h]
  generalize BothAns a b = LA at *
  generalize bothN a b = n at *
  clear ha hb fa fb na nb
  cases hn : (n == 0)
  · clear hz0
    go_enter Tryz.func132, Tryz.ntmps132
    go_wp2_with fail
    refine (H _ Ha.out Hb.out).mono ?_
    rintro e w1 ⟨rfl, hb1⟩
    go_wp2_with fail
    refine bodyPost_ret (v := .tuple #[.slice none 0 0, errV n]) (by simp [results, Tryz.results132, go_sem]) rfl (Ans.mk hb1 [] none 0 (slT_nil _ _) (hA0.out (by simpa using hn)))
  · obtain ⟨sa, sb⟩ := hz0.1 (by simpa using hn)
    have HK := fun W hW (bl : Nat) (hN : AskOK W bl b) => keep_any ad ca 206 bl a (fun x => decide (x ∈ b)) W hW sa.1 enters206 (fun x hx W' hW' => ask_any bl b x W' (hN.below hW') (sa.2.1 x hx))
    have HA := fun W hW => asker_any bd cb b W hW sb.2.1 sb.1
    have h0 : n = 0 := by simpa using hn
    have hA2 : Hid _ := hA1.out h0
    clear hA0 hA1
    subst h0
    rw [show errV 0 = .nilIface from rfl] at H
    clear sa sb hz0 hn
    go_enter Tryz.func132, Tryz.ntmps132
    go_wp2_with fail
    refine (H _ Ha.out Hb.out).mono ?_
    rintro e w1 ⟨rfl, hb1⟩
    go_wp2_with fail
    refine (HA _ (Hb.out.below hb1)).mono ?_
    rintro e w2 ⟨bx, rfl, hask, hb2⟩
    have hB2 := bstep hb1 hb2
    have Hask : Hid (AskOK w2 bx b) := hask
    clear hask
    go_wp2_with fail
    refine (HK _ (Ha.out.below hB2) _ Hask.out).mono ?_
    rintro e w3 ⟨ad', c', rfl, hsl, hb3⟩
    go_wp2_with fail
    refine bodyPost_ret (v := .tuple #[.slice ad' (a.filter fun x => decide (x ∈ b)).length c', .nilIface]) (by simp [results, Tryz.results132, go_sem]) rfl (Ans.mk (n := 0) (bstep hB2 hb3) _ ad' c' hsl hA2.out)

/-- what Join tells -/
def joinN (a b : List Tr) : Int := if bothN a b = 0 then (if a.length + (lessL b a).length ≤ 200 then 0 else 4) else bothN a b
def JoinAns (a b m : List Tr) : Prop := (joinN a b = 0 → JoinOf a b m) ∧ (joinN a b ≠ 0 → m = [])

theorem sortN_cat {a b : List Tr} (sa : IsSet a) (sb : IsSet b) : sortN (a ++ lessL b a) = if a.length + (lessL b a).length ≤ 200 then 0 else 4 := by
  have hall : ∀ x ∈ a ++ lessL b a, chkTr x = 0 := fun x hx => by
    rcases List.mem_append.1 hx with h | h
    · exact sa.2.1 x h
    · exact sb.2.1 x (mem_lessL.1 h).1
  by_cases h : a.length + (lessL b a).length ≤ 200
  · rw [if_pos h]
    exact sortN_zero.2 ⟨by rw [List.length_append]; exact h, hall⟩
  · rw [if_neg h]
    unfold sortN faultN
    rw [if_pos (by rw [List.length_append]; omega)]

set_option maxHeartbeats 2000000 in
set_option maxRecDepth 100000 in
theorem Join_any' (ad bd : Option Addr) (ca cb : Nat) (a b : List Tr) (w : World) (ha : SlT w ad a) (hb : SlT w bd b) (fa : ∀ x ∈ a, fitTr x) (fb : ∀ x ∈ b, fitTr x) (na : a.length ≤ 9223372036854775807) (nb : b.length ≤ 9223372036854775807) :
    Calls Tryz.prog 134 #[.slice ad a.length ca, .slice bd b.length cb] w (Ans (joinN a b) (JoinAns a b) w) := by
  have H := fun W h1 h2 => bothSorted_any ad bd ca cb a b W h1 h2 fa fb na nb
  have Ha : Hid (SlT w ad a) := ha
  have Hb : Hid (SlT w bd b) := hb
  by_cases h0 : bothN a b = 0
  · obtain ⟨sa, sb⟩ := bothN_zero.1 h0
    have hj : joinN a b = if a.length + (lessL b a).length ≤ 200 then 0 else 4 := by unfold joinN; rw [if_pos h0]
    have hjs : joinN a b = sortN (a ++ lessL b a) := by rw [hj, sortN_cat sa sb]
    have HK := fun W hW (bl : Nat) (hN : NotOK W bl a) => keep_any bd cb 176 bl b (fun x => !decide (x ∈ a)) W hW sb.1 enters176 (fun x hx W' hW' => notJoin_any bl a x W' (hN.below hW') (sb.2.1 x hx))
    have HA := fun W hW => asker_any ad ca a W hW sa.2.1 sa.1
    have hle : (lessL b a).length ≤ 200 := Nat.le_trans (List.length_filter_le _ _) sb.1
    have HC := fun W bs am cm h1 h2 h3 h4 => Concat_any bs ad am ca cm a (lessL b a) W h1 h2 h3 h4 sa.1 hle
    have HS : ∀ W am cm, SlT W am (a ++ lessL b a) → Calls Tryz.prog 177 #[.slice am (a.length + (lessL b a).length) cm] W (Ans (joinN a b) (JoinAns a b) W) := by
      intro W am cm hW
      rw [← List.length_append]
      by_cases hs : sortN (a ++ lessL b a) = 0
      · refine (Sort_good am cm _ W hW hs).mono ?_
        rintro e w' ⟨hb', m, ad', c, rfl, h1, h2, h3, _⟩
        refine ⟨hb', m, ad', c, by rw [hjs, hs]; rfl, h1, fun _ => ⟨h2, fun x => ?_⟩, fun h => absurd (hjs.trans hs) h⟩
        rw [h3, List.mem_append, mem_lessL]
        by_cases hx : x ∈ a <;> simp [hx]
      · have hfit : ∀ x ∈ a ++ lessL b a, fitTr x := fun x hx => by
          rcases List.mem_append.1 hx with h | h
          · exact fa x h
          · exact fb x (mem_lessL.1 h).1
        refine (Sort_bad am cm _ W hW hfit (by rw [List.length_append]; have := sa.1; omega) hs).mono ?_
        rintro e w' ⟨rfl, hb'⟩
        exact ⟨hb', [], none, 0, by rw [hjs]; rfl, slT_nil _ _, fun h => absurd (hjs.symm.trans h) hs, fun _ => rfl⟩
    rw [h0, show errV 0 = .nilIface from rfl] at H
    have Hle : Hid (lessL b a = b.filter fun x => !decide (x ∈ a)) := rfl
    generalize joinN a b = n at *
    clear sa sb h0 hj hjs ha hb fa fb na nb hle
    generalize lessL b a = less at *
    generalize JoinAns a b = JA at *
    rw [← Hle.out] at HK
    have HS' : Hid _ := HS
    clear HS
    go_enter Tryz.func134, Tryz.ntmps134
    go_wp2_with fail
    refine (H _ Ha.out Hb.out).mono ?_
    rintro e w1 ⟨rfl, hb1⟩
    go_wp2_with fail
    refine (HA _ (Ha.out.below hb1)).mono ?_
    rintro e w2 ⟨bx, rfl, hask, hb2⟩
    have hB2 := bstep hb1 hb2
    have Hask : Hid (AskOK w2 bx a) := hask
    clear hask
    go_wp2_with fail
    refine (HK _ ?h1 _ ?h2).mono ?_
    case h1 => exact Hb.out.below (bstep hB2 (balloc _ _))
    case h2 => exact ⟨bx, by go_simp, Hask.out.below (balloc _ _)⟩
    rintro e w3 ⟨ad', c', rfl, hsl, hb3⟩
    have hB3 := bstep (bstep hB2 (balloc _ _)) hb3
    have Hsl : Hid (SlT w3 ad' less) := hsl
    clear hsl
    go_wp2_with fail
    refine (HC _ _ ad' c' ?h1 ?h2 ?h3 ?h4).mono ?_
    case h1 => go_simp
    case h2 => go_simp
    case h3 => exact Ha.out.below (bstep hB3 (balloc _ _))
    case h4 => exact Hsl.out.below (balloc _ _)
    rintro e w4 ⟨am, cm, rfl, hcat, hb4⟩
    have hB4 := bstep (bstep hB3 (balloc _ _)) hb4
    have Hcat : Hid (SlT w4 am (a ++ less)) := hcat
    clear hcat
    go_wp2_with fail
    refine (HS'.out _ am cm Hcat.out).mono ?_
    rintro e w5 ⟨hb5, m, ad5, c5, rfl, hm, hJ⟩
    go_wp2_with fail
    exact bodyPost_ret (v := .tuple #[.slice ad5 m.length c5, errV n]) (by simp [results, Tryz.results134, go_sem]) rfl (Ans.mk (bstep hB4 hb5) m ad5 c5 hm hJ)
  · have hj : Hid (joinN a b = bothN a b) := if_neg h0
    have hj0 : Hid (JoinAns a b []) := ⟨fun h => absurd (hj.out.symm.trans h) h0, fun _ => rfl⟩
    rw [hj.out]
    have hn : (bothN a b == 0) = false := by simpa using h0
    generalize bothN a b = n at *
    generalize JoinAns a b = JA at *
    clear ha hb fa fb na nb hj h0
    go_enter Tryz.func134, Tryz.ntmps134
    go_wp2_with fail
    refine (H _ Ha.out Hb.out).mono ?_
    rintro e w1 ⟨rfl, hb1⟩
    go_wp2_with fail
    exact bodyPost_ret (v := .tuple #[.slice none 0 0, errV n]) (by simp [results, Tryz.results134, go_sem]) rfl (Ans.mk hb1 [] none 0 (slT_nil _ _) hj0.out)

/-- what Has tells -/
def hasN (l : List Tr) (t : Tr) : Int := if sortedN l = 0 then chkTr t else sortedN l

end Go.Proofs.YtnlcfnpcjkcdmafGreatDoor

/- Layers: what is wrong with one, what it makes of a set, what is between two sets; the theory. -/
namespace Go.Proofs.YtnlcfnpcjkcdmafGreatDoor
open Go Go.RowKit Go.Proofs
set_option synthInstance.maxSize 1000

/-- the first that is wrong -/
def orN (a b : Int) : Int := if a = 0 then b else a
theorem orN_zero {a b : Int} : orN a b = 0 ↔ a = 0 ∧ b = 0 := by
  unfold orN
  by_cases h : a = 0
  · rw [if_pos h]; exact ⟨fun e => ⟨h, e⟩, fun e => e.2⟩
  · rw [if_neg h]; exact ⟨fun e => absurd e h, fun e => absurd e.1 h⟩
theorem orN_pos {a b : Int} (h : a = 0) : orN a b = b := if_pos h
theorem orN_neg {a b : Int} (h : ¬ a = 0) : orN a b = a := if_neg h

def apartN (a b : List Tr) : Int := orN (bothN a b) (if (bothL a b).length = 0 then 0 else 7)
def withinN (s t : List Tr) : Int := orN (bothN t s) (if (lessL t s).length = 0 then 0 else 5)
def swapN (s o i : List Tr) : Int := orN (bothN s o) (joinN (lessL s o) i)
def SwapAns (s o i m : List Tr) : Prop := (swapN s o i = 0 → JoinOf (lessL s o) i m) ∧ (swapN s o i ≠ 0 → m = [])
def applyN (s add take : List Tr) : Int := orN (sortedN s) (orN (apartN add take) (orN (apartN s add) (orN (withinN s take) (swapN s take add))))
def ApplyAns (s add take m : List Tr) : Prop := (applyN s add take = 0 → JoinOf (lessL s take) add m) ∧ (applyN s add take ≠ 0 → m = [])
def followsN (a1 a2 b1 b2 : List Tr) : Int := orN (apartN a1 a2) (orN (apartN b1 b2) (orN (apartN a1 b1) (apartN a2 b2)))
def afterN (did undid does undoes : List Tr) : Int := orN (bothN does undid) (swapN did undoes (lessL does undid))
def AfterAns (did undid does undoes m : List Tr) : Prop := (afterN did undid does undoes = 0 → JoinOf (lessL did undoes) (lessL does undid) m) ∧ (afterN did undid does undoes ≠ 0 → m = [])
def thenN (a1 a2 b1 b2 : List Tr) : Int := orN (followsN a1 a2 b1 b2) (orN (afterN a1 a2 b1 b2) (afterN a2 a1 b2 b1))
def ThenAns (a1 a2 b1 b2 m1 m2 : List Tr) : Prop := (thenN a1 a2 b1 b2 = 0 → JoinOf (lessL a1 b2) (lessL b1 a2) m1 ∧ JoinOf (lessL a2 b1) (lessL b2 a1) m2) ∧ (thenN a1 a2 b1 b2 ≠ 0 → m1 = [] ∧ m2 = [])
def BtwAns (a b m1 m2 : List Tr) : Prop := (bothN a b = 0 → m1 = lessL b a ∧ m2 = lessL a b) ∧ (bothN a b ≠ 0 → m1 = [] ∧ m2 = [])
def TurnAns (add take m1 m2 : List Tr) : Prop := (apartN add take = 0 → m1 = take ∧ m2 = add) ∧ (apartN add take ≠ 0 → m1 = [] ∧ m2 = [])

theorem bothN_comm0 {a b : List Tr} (h : bothN a b = 0) : bothN b a = 0 := bothN_zero.2 ⟨(bothN_zero.1 h).2, (bothN_zero.1 h).1⟩
theorem lessSet {a b : List Tr} (h : IsSet a) : IsSet (lessL a b) := h.filter _
theorem bothSet {a b : List Tr} (h : IsSet a) : IsSet (bothL a b) := h.filter _

theorem joinN_of {a b m : List Tr} (sa : IsSet a) (sb : IsSet b) (h : JoinOf a b m) (hm : m.length ≤ 200) : joinN a b = 0 := by
  unfold joinN
  rw [if_pos (bothN_zero.2 ⟨sa, sb⟩), if_pos]
  rw [← h.len sa.2.2 sb.2.2]
  exact hm
theorem apartN_of {a b : List Tr} (sa : IsSet a) (sb : IsSet b) (h : ∀ x, x ∈ a → x ∉ b) : apartN a b = 0 := by
  unfold apartN
  rw [orN_pos (bothN_zero.2 ⟨sa, sb⟩), if_pos]
  rw [List.length_eq_zero_iff, List.eq_nil_iff_forall_not_mem]
  intro x hx
  exact h x (mem_bothL.1 hx).1 (mem_bothL.1 hx).2
theorem withinN_of {s t : List Tr} (ss : IsSet s) (st : IsSet t) (h : ∀ x, x ∈ t → x ∈ s) : withinN s t = 0 := by
  unfold withinN
  rw [orN_pos (bothN_zero.2 ⟨st, ss⟩), if_pos]
  rw [List.length_eq_zero_iff, List.eq_nil_iff_forall_not_mem]
  intro x hx
  exact (mem_lessL.1 hx).2 (h x (mem_lessL.1 hx).1)
theorem swapN_of {s o i m : List Tr} (ss : IsSet s) (so : IsSet o) (si : IsSet i) (h : JoinOf (lessL s o) i m) (hm : m.length ≤ 200) : swapN s o i = 0 := by
  unfold swapN
  rw [orN_pos (bothN_zero.2 ⟨ss, so⟩)]
  exact joinN_of (lessSet ss) si h hm

/-- there: what is between two sets makes of the one the other -/
theorem there {a b : List Tr} (sb : IsSet b) : JoinOf (lessL a (lessL a b)) (lessL b a) b := by
  refine ⟨sb.2.2, fun x => ?_⟩
  simp only [mem_lessL]
  by_cases h1 : x ∈ a <;> by_cases h2 : x ∈ b <;> simp [h1, h2]
theorem btw_check {a b : List Tr} (sa : IsSet a) (sb : IsSet b) : apartN (lessL b a) (lessL a b) = 0 :=
  apartN_of (lessSet sb) (lessSet sa) fun _ h1 h2 => (mem_lessL.1 h1).2 (mem_lessL.1 h2).1
theorem apply_btw {a b : List Tr} (sa : IsSet a) (sb : IsSet b) : applyN a (lessL b a) (lessL a b) = 0 := by
  unfold applyN
  rw [orN_pos (sortedN_set.2 sa), orN_pos (btw_check sa sb), orN_pos (apartN_of sa (lessSet sb) fun _ h1 h2 => (mem_lessL.1 h2).2 h1), orN_pos (withinN_of sa (lessSet sa) fun _ h => (mem_lessL.1 h).1)]
  exact swapN_of sa (lessSet sa) (lessSet sb) (there sb) sb.1
theorem apply_btw_ans {a b m : List Tr} (sa : IsSet a) (sb : IsSet b) (h : ApplyAns a (lessL b a) (lessL a b) m) : m = b :=
  (h.1 (apply_btw sa sb)).unique (there sb)

/-- of three: one behind the other comes to what is between the ends -/
theorem thread {a b c : List Tr} (sc : IsSet c) : JoinOf (lessL (lessL b a) (lessL b c)) (lessL (lessL c b) (lessL a b)) (lessL c a) := by
  refine ⟨(lessSet sc).2.2, fun x => ?_⟩
  simp only [mem_lessL]
  by_cases h1 : x ∈ a <;> by_cases h2 : x ∈ b <;> by_cases h3 : x ∈ c <;> simp [h1, h2, h3]
theorem thread' {a b c : List Tr} (sa : IsSet a) : JoinOf (lessL (lessL a b) (lessL c b)) (lessL (lessL b c) (lessL b a)) (lessL a c) := by
  refine ⟨(lessSet sa).2.2, fun x => ?_⟩
  simp only [mem_lessL]
  by_cases h1 : x ∈ a <;> by_cases h2 : x ∈ b <;> by_cases h3 : x ∈ c <;> simp [h1, h2, h3]
theorem afterN_of {did undid does undoes m : List Tr} (s1 : IsSet did) (s2 : IsSet undid) (s3 : IsSet does) (s4 : IsSet undoes) (h : JoinOf (lessL did undoes) (lessL does undid) m) (hm : m.length ≤ 200) : afterN did undid does undoes = 0 := by
  unfold afterN
  rw [orN_pos (bothN_zero.2 ⟨s3, s2⟩)]
  exact swapN_of s1 s4 (lessSet s3) h hm
theorem then_btw {a b c : List Tr} (sa : IsSet a) (sb : IsSet b) (sc : IsSet c) : thenN (lessL b a) (lessL a b) (lessL c b) (lessL b c) = 0 := by
  unfold thenN followsN
  rw [orN_pos (btw_check sa sb), orN_pos (btw_check sb sc), orN_pos (apartN_of (lessSet sb) (lessSet sc) fun _ h1 h2 => (mem_lessL.1 h2).2 (mem_lessL.1 h1).1),
    orN_pos (apartN_of (lessSet sa) (lessSet sb) fun _ h1 h2 => (mem_lessL.1 h1).2 (mem_lessL.1 h2).1),
    orN_pos (afterN_of (lessSet sb) (lessSet sa) (lessSet sc) (lessSet sb) (thread sc) (lessSet sc).1)]
  exact afterN_of (lessSet sa) (lessSet sb) (lessSet sb) (lessSet sc) (thread' sa) (lessSet sa).1
theorem then_btw_ans {a b c m1 m2 : List Tr} (sa : IsSet a) (sb : IsSet b) (sc : IsSet c) (h : ThenAns (lessL b a) (lessL a b) (lessL c b) (lessL b c) m1 m2) : m1 = lessL c a ∧ m2 = lessL a c :=
  ⟨(h.1 (then_btw sa sb sc)).1.unique (thread sc), (h.1 (then_btw sa sb sc)).2.unique (thread' sa)⟩

/-- a call's answer: a layer and a number -/
def LAns (n : Int) (P : List Tr → List Tr → Prop) (w : World) (e : Ending) (w' : World) : Prop := RowKit.Below w.heap.size w w' ∧ ∃ (m1 : List Tr) (a1 : Option Addr) (c1 : Nat) (m2 : List Tr) (a2 : Option Addr) (c2 : Nat), e = .returned (.tuple #[.agg #[.slice a1 m1.length c1, .slice a2 m2.length c2], errV n]) ∧ SlT w' a1 m1 ∧ SlT w' a2 m2 ∧ P m1 m2
theorem LAns.mk {n : Int} {P : List Tr → List Tr → Prop} {w w' : World} (hb : RowKit.Below w.heap.size w w') (m1 : List Tr) (a1 : Option Addr) (c1 : Nat) (m2 : List Tr) (a2 : Option Addr) (c2 : Nat) (h1 : SlT w' a1 m1) (h2 : SlT w' a2 m2) (hp : P m1 m2) : LAns n P w (.returned (.tuple #[.agg #[.slice a1 m1.length c1, .slice a2 m2.length c2], errV n])) w' := ⟨hb, m1, a1, c1, m2, a2, c2, rfl, h1, h2, hp⟩
end Go.Proofs.YtnlcfnpcjkcdmafGreatDoor

/- A layer as text. -/
namespace Go.Proofs.YtnlcfnpcjkcdmafGreatDoor
open Go Go.RowKit Go.Proofs
set_option synthInstance.maxSize 1000

/-- a layer: what is added, what is taken -/
abbrev LyP := List Tr × List Tr
def markP (t : Bool) : UInt8 := if t = true then 45 else 43
def lineP (t : Bool) (x : Tr) : List UInt8 := markP t :: 32 :: (showTr x ++ [10])
def linesP (t : Bool) (m : List Tr) : List UInt8 := m.flatMap (lineP t)
def patchB (l : LyP) : List UInt8 := linesP true l.2 ++ linesP false l.1
theorem linesP_app (t : Bool) (a b : List Tr) : linesP t (a ++ b) = linesP t a ++ linesP t b := by simp [linesP]
theorem lineP_len (t : Bool) (x : Tr) : 1 ≤ (lineP t x).length := by simp [lineP]
theorem linesP_len (t : Bool) (m : List Tr) : m.length ≤ (linesP t m).length := by
  induction m with
  | nil => simp
  | cons x r ih =>
    have e : linesP t (x :: r) = lineP t x ++ linesP t r := by simp [linesP]
    have := lineP_len t x
    rw [e, List.length_append, List.length_cons]
    omega
/-- a layer that is right -/
structure GoodLy (l : LyP) : Prop where
  add : IsSet l.1
  take : IsSet l.2
  apart : ∀ x ∈ l.1, x ∉ l.2
/-! ### no line is broken -/
theorem allB_ge {p : Int → Bool} (hp : ∀ n, p n = true → 32 ≤ n) {l : List UInt8} (h : allB p l = true) : ∀ c ∈ l, c ≠ 10 := fun c hc e => by
  have h1 : p (c.toNat : Int) = true := by
    unfold allB at h
    rw [List.all_eq_true] at h
    exact h c hc
  have := hp _ h1
  subst e
  simp at this
theorem let_ge (n : Int) (h : letB n = true) : 32 ≤ n := by unfold letB at h; simp at h; omega
theorem name_ge (n : Int) (h : nameB n = true) : 32 ≤ n := by unfold nameB letB digB at h; simp at h; omega
theorem anon_ge (n : Int) (h : anonB n = true) : 32 ≤ n := by unfold anonB letB digB at h; simp at h; omega
theorem text_ge (n : Int) (h : textB n = true) : 32 ≤ n := by unfold textB at h; simp at h; omega
theorem esc_no10 {S : List UInt8} (h : ∀ c ∈ S, c ≠ 10) : ∀ c ∈ escL S, c ≠ 10 := by
  intro c hc
  unfold escL at hc
  obtain ⟨d, hd, hcd⟩ := List.mem_flatMap.1 hc
  split at hcd
  · rcases List.mem_cons.1 hcd with rfl | hcd
    · decide
    · simp at hcd; subst hcd; exact h c hd
  · simp at hcd; subst hcd; exact h c hd
theorem lang_no10 {L : List UInt8} (h : L = [] ∨ langOk L = true) : ∀ c ∈ markL L, c ≠ 10 := by
  cases L with
  | nil => simp [markL]
  | cons a r =>
    rcases h with h | h
    · cases h
    · unfold langOk at h
      simp only [Bool.and_eq_true] at h
      intro c hc
      rcases List.mem_cons.1 (show c ∈ 64 :: a :: r from hc) with rfl | hc
      · decide
      · exact allB_ge let_ge h.2 c hc
theorem term_no10 {k : Int} {S L : List UInt8} (h : checkN k S L = 0) : ∀ c ∈ showL k S L, c ≠ 10 := by
  obtain ⟨hk, _, hsp⟩ := check_zero h
  intro c hc
  unfold showL at hc
  unfold spellB at hsp
  rcases hk with rfl | rfl | rfl
  · simp at hc hsp
    have h2 := hsp.2
    unfold nameOk at h2
    cases S with
    | nil => simp at hc
    | cons a r => simp only [Bool.and_eq_true] at h2; exact allB_ge name_ge h2.2 c hc
  · simp at hc hsp
    rcases hc with rfl | hc
    · decide
    · have h2 := hsp.2
      unfold anonOk at h2
      cases S with
      | nil => simp at hc
      | cons a r => exact allB_ge anon_ge h2 c hc
  · simp at hc hsp
    have hS : ∀ c ∈ S, c ≠ 10 := allB_ge text_ge hsp.2
    have hL : L = [] ∨ langOk L = true := hsp.1
    rcases hc with hc | hc
    · unfold quoteL at hc
      rcases List.mem_cons.1 hc with rfl | hc
      · decide
      · rcases List.mem_append.1 hc with hc | hc
        · exact esc_no10 hS c hc
        · simp at hc; subst hc; decide
    · exact lang_no10 hL c hc
theorem show_no10 (x : Tr) (h : chkTr x = 0) : ∀ c ∈ showTr x, c ≠ 10 := by
  obtain ⟨h1, h2, h3, _⟩ := chk_zero h
  intro c hc
  unfold showTr joinUpto at hc
  simp at hc
  rcases hc with hc | rfl | hc | rfl | hc
  · exact term_no10 h1 c hc
  · decide
  · exact term_no10 h2 c hc
  · decide
  · exact term_no10 h3 c hc
/-! ### a text is short -/
theorem patch_chk {l : LyP} (h : GoodLy l) (x : Tr) (hx : x ∈ l.1 ∨ x ∈ l.2) : chkTr x = 0 := by
  rcases hx with hx | hx
  · exact h.add.2.1 x hx
  · exact h.take.2.1 x hx
theorem show_few {x : Tr} (h : chkTr x = 0) : (showTr x).length ≤ 3002 := by
  obtain ⟨h1, h2, h3, _⟩ := chk_zero h
  have e1 := show_short _ _ _ h1
  have e2 := show_short _ _ _ h2
  have e3 := show_short _ _ _ h3
  unfold showTr joinUpto
  simp
  omega
theorem lines_few (t : Bool) : ∀ (l : List Tr), (∀ x ∈ l, chkTr x = 0) → (linesP t l).length ≤ 3005 * l.length
  | [], _ => by simp [linesP]
  | x :: r, h => by
    have h1 := lines_few t r fun y hy => h y (List.mem_cons_of_mem _ hy)
    have h2 := show_few (h x (List.mem_cons_self ..))
    have e : linesP t (x :: r) = lineP t x ++ linesP t r := by simp [linesP]
    have e2 : (lineP t x).length = (showTr x).length + 3 := by simp [lineP]
    rw [e, List.length_append, List.length_cons]
    omega
theorem patch_len {l : LyP} (h : GoodLy l) : (patchB l).length ≤ 1202000 := by
  have h1 := lines_few false l.1 h.add.2.1
  have h2 := lines_few true l.2 h.take.2.1
  have h3 := h.add.1
  have h4 := h.take.1
  unfold patchB
  rw [List.length_append]
  omega
end Go.Proofs.YtnlcfnpcjkcdmafGreatDoor

/- unquote: up to the quote that ends a text. -/
namespace Go.Proofs.YtnlcfnpcjkcdmafGreatDoor
open Go Go.RowKit Go.Proofs

def unqL : List UInt8 → Option (List UInt8 × List UInt8)
  | [] => none
  | c :: r =>
    if c = 34 then some ([], r)
    else if c = 92 then
      match r with
      | [] => none
      | d :: r' => if markB (d.toNat : Int) then (unqL r').map (fun p => (d :: p.1, p.2)) else none
    else (unqL r).map (fun p => (c :: p.1, p.2))

theorem unqL_cons (c : UInt8) (r : List UInt8) : unqL (c :: r) = if c = 34 then some ([], r) else if c = 92 then (match r with | [] => none | d :: r' => if markB (d.toNat : Int) then (unqL r').map (fun p => (d :: p.1, p.2)) else none) else (unqL r).map (fun p => (c :: p.1, p.2)) := by
  cases r <;> rfl

def unqV (o : Option (List UInt8 × List UInt8)) : Value := match o with
  | none => .tuple #[.string ⟨#[]⟩, .string ⟨#[]⟩, .bool false]
  | some p => .tuple #[.string ⟨p.1.toArray⟩, .string ⟨p.2.toArray⟩, .bool true]

/-- what is read so far, and what is left to read -/
def unqAt (l : List UInt8) (k : Nat) (acc : List UInt8) : Prop := unqL l = (unqL (l.drop k)).map (fun p => (acc ++ p.1, p.2))

theorem unqAt_zero (l : List UInt8) : unqAt l 0 [] := by
  unfold unqAt; simp

theorem drop_at (l : List UInt8) (k : Nat) (h : k < l.length) : l.drop k = l[k] :: l.drop (k + 1) := List.drop_eq_getElem_cons h

theorem unqAt_end (l : List UInt8) (k : Nat) (acc : List UInt8) (h : unqAt l k acc) (hk : l.length ≤ k) : unqL l = none := by
  unfold unqAt at h
  rw [h, List.drop_eq_nil_of_le hk]; rfl

theorem unqAt_quote (l : List UInt8) (k : Nat) (acc : List UInt8) (h : unqAt l k acc) (hk : k < l.length) (hq : l[k] = 34) : unqL l = some (acc, l.drop (k + 1)) := by
  unfold unqAt at h
  rw [h, drop_at l k hk, hq, unqL_cons]; simp

theorem unqAt_plain (l : List UInt8) (k : Nat) (acc : List UInt8) (h : unqAt l k acc) (hk : k < l.length) (hq : l[k] ≠ 34) (hm : l[k] ≠ 92) : unqAt l (k + 1) (acc ++ [l[k]]) := by
  unfold unqAt at h ⊢
  rw [h, drop_at l k hk, unqL_cons, if_neg hq, if_neg hm, Option.map_map]
  congr 1
  funext p
  simp

theorem unqAt_cut (l : List UInt8) (k : Nat) (acc : List UInt8) (h : unqAt l k acc) (hk : k < l.length) (hm : l[k] = 92) (he : k + 1 = l.length) : unqL l = none := by
  unfold unqAt at h
  rw [h, drop_at l k hk, hm, List.drop_eq_nil_of_le (by omega), unqL_cons]; rfl

theorem unqAt_bad (l : List UInt8) (k : Nat) (acc : List UInt8) (h : unqAt l k acc) (hk : k + 1 < l.length) (hm : l[k] = 92) (hb : markB (l[k + 1].toNat : Int) = false) : unqL l = none := by
  unfold unqAt at h
  rw [h, drop_at l k (by omega), hm, drop_at l (k + 1) hk, unqL_cons, if_neg (by decide), if_pos rfl]; simp [hb]

theorem unqAt_mark (l : List UInt8) (k : Nat) (acc : List UInt8) (h : unqAt l k acc) (hk : k + 1 < l.length) (hm : l[k] = 92) (hb : markB (l[k + 1].toNat : Int) = true) : unqAt l (k + 2) (acc ++ [l[k + 1]]) := by
  unfold unqAt at h ⊢
  rw [h, drop_at l k (by omega), hm, drop_at l (k + 1) hk, unqL_cons, if_neg (by decide), if_pos rfl]
  simp only [hb, if_true, Option.map_map]
  congr 1
  funext p
  simp

theorem drop_extract (l : List UInt8) (k : Nat) : (⟨l.toArray⟩ : ByteArray).extract k l.length = ⟨(l.drop k).toArray⟩ := by
  apply ByteArray.ext
  rw [ByteArray.data_extract]
  simp
  exact List.take_of_length_le (by simp)

theorem bdrewB {B : Nat} {w w1 : World} (h : Below B w.drew w1) : Below B w w1 := ⟨h.os, h.tape, h.output, h.size, h.block⟩

theorem byte_eq (c d : UInt8) : ((c.toNat : Int) == (d.toNat : Int)) = (c == d) := by
  rw [Bool.eq_iff_iff]; simp [UInt8.toNat_inj, Int.natCast_inj]

set_option maxHeartbeats 2000000 in
set_option maxRecDepth 100000 in
theorem unquote_any (l : List UInt8) (w : World) (hl : l.length ≤ 140737488355328) :
    Calls Tryz.prog 257 #[.string ⟨l.toArray⟩] w fun e w' => e = .returned (unqV (unqL l)) ∧ Below w.heap.size w w' := by
  have hB0 := Lib.fresh_isBuilder 162 5 w
  go_enter Tryz.func257, Tryz.ntmps257
  go_wp2_with fail
  go_loopw [6] (fun i wr => ∃ (k : Nat) (acc : List UInt8), k ≤ l.length ∧ acc.length ≤ k ∧ i = .int .i64 k ∧ Hid (unqAt l k acc) ∧ Lib.IsBuilder 162 5 w.heap.size w.heap.size (Lib.byteCells acc) wr ∧ Below w.heap.size w wr) (fun i wr => l.length - (intOf i).toNat)
  case atStart => exact ⟨0, [], Nat.zero_le _, Nat.zero_le _, rfl, unqAt_zero l, hB0, balloc _ _⟩
  case round =>
    obtain ⟨k, acc, hk, hacc, rfl, hat, hI, hbr⟩ := hrel
    have hsz := hbr.size
    clear hB0
    by_cases hlt : k < l.length
    · have hidx : ∀ h, (⟨l.toArray⟩ : ByteArray)[k]'h = l[k] := fun _ => rfl
      by_cases hq : l[k] = 34
      · have fin : Hid (unqV (unqL l) = .tuple #[.string ⟨acc.toArray⟩, .string ⟨(l.drop (k + 1)).toArray⟩, .bool true]) := by
          show _ = _; rw [unqAt_quote l k acc hat.out hlt hq]; rfl
        have hq' : ((l[k].toNat : Int) == 34) = true := by rw [hq]; rfl
        clear hq
        go_wp2_with fail
        have hwr : IntKind.i64.wrap ((k : Int) + 1) = (k : Int) + 1 := by rw [IntKind.wrap_i64]; omega
        have hb1 : (k : Int) + 1 ≤ (l.length : Int) := by omega
        go_region_with (first
          | (go_at_call 98; refine (Tryz.Builder_String_any w.heap.size w.heap.size acc wr.drew hI hsz).mono ?_; rintro e w2 ⟨rfl, hb2⟩))
        all_goals
          go_wp2
          go_ret3
          exact ⟨ret_val (by rw [fin.out, ← drop_extract]; rfl), hbr.trans (bdrewB hb2)⟩
      · have hq' : ((l[k].toNat : Int) == 34) = false := by
          have := byte_eq l[k] 34
          rw [show ((34 : UInt8).toNat : Int) = 34 from rfl] at this
          rw [this]; simpa using hq
        by_cases hm : l[k] = 92
        · have hm' : ((l[k].toNat : Int) == 92) = true := by rw [hm]; rfl
          by_cases he : k + 1 = l.length
          · have fin : Hid (unqV (unqL l) = .tuple #[.string ⟨#[]⟩, .string ⟨#[]⟩, .bool false]) := by
              show _ = _; rw [unqAt_cut l k acc hat.out hlt hm he]; rfl
            have he' : (((k : Int) + 1) == (l.length : Int)) = true := by rw [beq_iff_eq]; omega
            clear hq hm he
            go_wp2
            go_ret3
            exact ⟨ret_val fin.out.symm, hbr⟩
          · have he' : (((k : Int) + 1) == (l.length : Int)) = false := by rw [beq_eq_false_iff_ne]; omega
            have hlt1 : k + 1 < l.length := by omega
            have hidx1 : ∀ h, (⟨l.toArray⟩ : ByteArray)[k + 1]'h = l[k + 1] := fun _ => rfl
            cases hb : markB (l[k + 1].toNat : Int)
            · have fin : Hid (unqV (unqL l) = .tuple #[.string ⟨#[]⟩, .string ⟨#[]⟩, .bool false]) := by
                show _ = _; rw [unqAt_bad l k acc hat.out hlt1 hm hb]; rfl
              clear hq hm he
              go_wp2_with (first | (go_at_call 230; refine (isMarked_any _ _).mono ?_; rintro e w' ⟨rfl, rfl⟩))
              go_ret3
              exact ⟨ret_val fin.out.symm, hbr⟩
            · have hnext : Hid (unqAt l (k + 2) (acc ++ [l[k + 1]])) := unqAt_mark l k acc hat.out hlt1 hm hb
              clear hq hm he
              go_wp2_with (first | (go_at_call 230; refine (isMarked_any _ _).mono ?_; rintro e w' ⟨rfl, rfl⟩))
              refine (WriteByte_any w.heap.size w.heap.size _ _ _ hI (by simp [Lib.byteCells]; omega) hsz).mono ?_
              rintro e w2 ⟨rfl, hI2, hb2⟩
              rw [cells_snoc] at hI2
              go_wp2_with fail
              exact ⟨⟨k + 2, _, by omega, by simp; omega, by go_num, hnext, Or.inr hI2, hbr.trans hb2⟩, by simp [intOf]; omega⟩
        · have hm' : ((l[k].toNat : Int) == 92) = false := by
            have := byte_eq l[k] 92
            rw [show ((92 : UInt8).toNat : Int) = 92 from rfl] at this
            rw [this]; simpa using hm
          have hnext : Hid (unqAt l (k + 1) (acc ++ [l[k]])) := unqAt_plain l k acc hat.out hlt hq hm
          clear hq hm
          go_wp2_with fail
          refine (WriteByte_any w.heap.size w.heap.size _ _ _ hI (by simp [Lib.byteCells]; omega) hsz).mono ?_
          rintro e w2 ⟨rfl, hI2, hb2⟩
          rw [cells_snoc] at hI2
          go_wp2_with fail
          exact ⟨⟨k + 1, _, by omega, by simp; omega, by go_num, hnext, Or.inr hI2, hbr.trans hb2⟩, by simp [intOf]; omega⟩
    · have fin : Hid (unqV (unqL l) = .tuple #[.string ⟨#[]⟩, .string ⟨#[]⟩, .bool false]) := by
        show _ = _; rw [unqAt_end l k acc hat.out (by omega)]; rfl
      go_wp2
      go_ret3
      exact ⟨ret_val fin.out.symm, hbr⟩
end Go.Proofs.YtnlcfnpcjkcdmafGreatDoor
