import Derived.Test.YtenakehnnmencahGreatMA0x3
import Derived.OwnWalk
import Derived.Lib.AppendZeros
import Derived.Deep.Upon
import Derived.Laws.EntriesVeiled
import Derived.Test.YtenakehnnmencahGreatMA0x9
import Derived.Test.YtenakehnnmencahGreatMA0x6
import Derived.Deep.RegionHeld3
import Derived.Deep.AppendLies

/- asker: a map of a list's triples, and the question whether one is in it. -/
namespace Go.Proofs.YtenakehnnmencahGreat
open Go Go.RowKit Go.Proofs Go.Maps
set_option synthInstance.maxSize 1000

/-- at a block lies the map of these triples -/
def AskOK (w : World) (bx : Nat) (l : List Tr) : Prop := ∃ bm, w.cell? ⟨bx, 0, none⟩ = some (.map (some bm)) ∧ InMap w bm l

theorem AskOK.below {w w' : World} {bx : Nat} {l : List Tr} (h : AskOK w bx l) (hb : RowKit.Below w.heap.size w w') : AskOK w' bx l := by
  obtain ⟨bm, hc, hm⟩ := h
  exact ⟨bm, (hb.cell (World.block_lt_of_cell? w _ hc)).trans hc, hm.below hb⟩

set_option maxHeartbeats 1000000 in
set_option maxRecDepth 100000 in
theorem ask_any (bx : Nat) (l : List Tr) (x : Tr) (w : World) (h : AskOK w bx l) (hx : chkTr x = 0) :
    Calls Tryz.prog 180 #[valTr x, .pointer (some ⟨bx, 0, none⟩)] w fun e w' => e = .returned (.bool (decide (x ∈ l))) ∧ RowKit.Below w.heap.size w w' := by
  obtain ⟨bm, hc, D, hown, hD⟩ := h
  have hkey := keyOf_tr x hx
  have hd : Hid (Maps.has D (keyTr x) = decide (x ∈ l)) := hD x hx
  have hbx : bx < w.heap.size := World.block_lt_of_cell? w _ hc
  clear hD
  unfold valTr at hkey ⊢
  go_enter Tryz.func180, Tryz.ntmps180
  go_wp2_with (first
    | (at_lookup; refine wpList_lookup_own_unit _ rfl _ _ 237 rfl 30 238 keyedTr Tryz.underlying237 (zeroUnit _) bm _ _ rfl (hown.alloc _) _ _ rfl hkey ?_))
  go_ret
  exact ⟨ret_bool hd.out, bstep (balloc _ _) (balloc _ _)⟩

theorem enters180 : ∀ args w, (callFunc 180 args).run Tryz.prog w = .ok (.enter 180 args) w := enters_of Tryz.func180 (by kernel_rfl) rfl

theorem makeMapHint (n : Int) (w : World) : (Instr.makeMap 237 (some (.int .i64 n))).run Tryz.prog w = .ok (.map (some w.heap.size)) (w.alloc (.map #[] 0)) := by kernel_rfl

set_option maxHeartbeats 2000000 in
set_option maxRecDepth 100000 in
theorem asker_any (ad : Option Addr) (cap : Nat) (l : List Tr) (w : World) (h : SlT w ad l) (hs : ∀ x ∈ l, chkTr x = 0) (h200 : l.length ≤ 200) :
    Calls Tryz.prog 140 #[.slice ad l.length cap] w fun e w' => ∃ bx, e = .returned (.func (.func 180) #[] #[.pointer (some ⟨bx, 0, none⟩)]) ∧ AskOK w' bx l ∧ RowKit.Below w.heap.size w w' := by
  have hmm := makeMapHint
  have Hl : Hid (SlT w ad l) := h
  have Hs : Hid (∀ x ∈ l, chkTr x = 0) := hs
  clear h hs
  go_enter Tryz.func140, Tryz.ntmps140
  go_wp2_with fail
  go_loopw [11] (fun i wr => ∃ k : Nat, k ≤ l.length ∧ i = .int .i64 k ∧ Hid (InMap wr w.heap.size (l.take k)) ∧ wr.cell? ⟨w.heap.size + 1, 0, none⟩ = some (.map (some w.heap.size)) ∧ RowKit.Below w.heap.size w wr) (fun i wr => l.length - (intOf i).toNat)
  case atStart =>
    refine ⟨0, Nat.zero_le _, rfl, ?_, by go_simp, ?_⟩
    · show InMap _ _ _
      rw [List.take_zero]
      exact (inMap_made w).below (balloc _ _)
    · exact bstep (balloc _ _) (balloc _ _)
  case round =>
    obtain ⟨k, hk, rfl, hin, hcb, hbr⟩ := hrel
    by_cases hlt : k < l.length
    · obtain ⟨b, o, rfl, hr⟩ := (Hl.out.below hbr).at k hlt
      obtain ⟨c0, c1, c2, c3, c4, c5, c6, c7, c8⟩ := hr.at k hlt
      have i0 : (0 : Int) ≤ (k : Int) := by omega
      have i1 : (k : Int) < (l.length : Int) := by omega
      obtain ⟨D, hown0, hD0⟩ := hin.out
      have hlen : (l.take k).length = k := by simp; omega
      rw [hlen] at hown0
      have hown : Hid (wr.ownsMap Tryz.prog 30 unitElem w.heap.size k D) := hown0
      have hy : Hid (chkTr l[k] = 0) := Hs.out _ (List.getElem_mem hlt)
      have hput : Hid (∀ x, chkTr x = 0 → Maps.has (D.put (keyTr l[k]) (.agg [])) (keyTr x) = decide (x ∈ l.take (k + 1))) := by
        have := has_put hown0.isMap hy.out hD0 (.agg [])
        rw [List.take_succ_eq_append_getElem hlt]
        exact this
      have hkey := keyOf_tr l[k] hy.out
      have hzr := hbr.size
      have hb1 : w.heap.size + 1 < wr.heap.size := World.block_lt_of_cell? wr _ hcb
      clear hr hown0 hD0 hin
      have hlen2 : Hid ((l.take (k + 1)).length = k + 1) := by show _ = _; simp; omega
      generalize l[k] = y at *
      unfold valTr at hkey
      go_wp2_with (first
        | (at_mapUpdate; refine wpList_mapUpdate_own _ rfl _ _ _ 237 rfl 30 238 keyedTr Tryz.underlying237 (unitElem (H := Unit)) w.heap.size k _ rfl (hown.out.alloc _) (by unfold maxLen; omega) _ _ _ rfl rfl hkey _ [] unitElem_mk ?_; intro w1 hown1 hgrow1))
      go_roundw
      case rel =>
        refine ⟨k + 1, by omega, by go_num, ⟨_, by rw [hlen2.out]; exact hown1, hput.out⟩, ?_, ?_⟩
        · have q := hgrow1.block (w.heap.size + 1) (by simp; omega) (by simp)
          have := (balloc wr (.cells (encTr y).toArray 30)).cell (p := ⟨w.heap.size + 1, 0, none⟩) hb1
          rw [hcb] at this
          simp only [World.cell?] at this ⊢
          rw [q]
          exact this
        · exact (hbr.alloc hzr _).grown hgrow1 (by simp; omega) (fun j hj => by cases hj; exact Nat.le_refl _)
      case measure => simp [intOf]; omega
    · obtain rfl : k = l.length := by omega
      go_wp2_with fail
      go_ret
      refine ⟨w.heap.size + 1, rfl, ⟨w.heap.size, hcb, ?_⟩, hbr⟩
      have := hin.out
      rwa [List.take_length] at this
end Go.Proofs.YtenakehnnmencahGreat

/- keep: those of a list that are wanted; the questions of Join and Less. -/
namespace Go.Proofs.YtenakehnnmencahGreat
open Go Go.RowKit Go.Proofs Go.Maps
set_option synthInstance.maxSize 1000

/-- at a block lies the question whether a triple is among these -/
def NotOK (w : World) (by1 : Nat) (l : List Tr) : Prop := ∃ bx, w.cell? ⟨by1, 0, none⟩ = some (.func (.func 180) #[] #[.pointer (some ⟨bx, 0, none⟩)]) ∧ AskOK w bx l

theorem NotOK.below {w w' : World} {bx : Nat} {l : List Tr} (h : NotOK w bx l) (hb : RowKit.Below w.heap.size w w') : NotOK w' bx l := by
  obtain ⟨bm, hc, hm⟩ := h
  exact ⟨bm, (hb.cell (World.block_lt_of_cell? w _ hc)).trans hc, hm.below hb⟩

set_option maxHeartbeats 1000000 in
set_option maxRecDepth 100000 in
theorem notJoin_any (by1 : Nat) (l : List Tr) (x : Tr) (w : World) (h : NotOK w by1 l) (hx : chkTr x = 0) :
    Calls Tryz.prog 142 #[valTr x, .pointer (some ⟨by1, 0, none⟩)] w fun e w' => e = .returned (.bool (!decide (x ∈ l))) ∧ RowKit.Below w.heap.size w w' := by
  obtain ⟨bx, hc, ha⟩ := h
  have H := fun W (hW : AskOK W bx l) => ask_any bx l x W hW hx
  have Ha : Hid (AskOK w bx l) := ha
  have hbx : by1 < w.heap.size := World.block_lt_of_cell? w _ hc
  have eg := enters180
  generalize decide (x ∈ l) = d at H ⊢
  clear ha hx
  unfold valTr at H ⊢
  go_enter Tryz.func142, Tryz.ntmps142
  go_wp2_with fail
  go_at_fn 180
  refine (H _ (Ha.out.below (balloc _ _))).mono ?_
  rintro e w1 ⟨rfl, hb1⟩
  go_wp2_with fail
  go_ret
  exact ⟨rfl, bstep (balloc _ _) hb1⟩

theorem enters142 : ∀ args w, (callFunc 142 args).run Tryz.prog w = .ok (.enter 142 args) w := enters_of Tryz.func142 (by kernel_rfl) rfl
set_option maxHeartbeats 1000000 in
set_option maxRecDepth 100000 in
theorem notLess_any (by1 : Nat) (l : List Tr) (x : Tr) (w : World) (h : NotOK w by1 l) (hx : chkTr x = 0) :
    Calls Tryz.prog 141 #[valTr x, .pointer (some ⟨by1, 0, none⟩)] w fun e w' => e = .returned (.bool (!decide (x ∈ l))) ∧ RowKit.Below w.heap.size w w' := by
  obtain ⟨bx, hc, ha⟩ := h
  have H := fun W (hW : AskOK W bx l) => ask_any bx l x W hW hx
  have Ha : Hid (AskOK w bx l) := ha
  have hbx : by1 < w.heap.size := World.block_lt_of_cell? w _ hc
  have eg := enters180
  generalize decide (x ∈ l) = d at H ⊢
  clear ha hx
  unfold valTr at H ⊢
  go_enter Tryz.func141, Tryz.ntmps141
  go_wp2_with fail
  go_at_fn 180
  refine (H _ (Ha.out.below (balloc _ _))).mono ?_
  rintro e w1 ⟨rfl, hb1⟩
  go_wp2_with fail
  go_ret
  exact ⟨rfl, bstep (balloc _ _) hb1⟩

theorem enters141 : ∀ args w, (callFunc 141 args).run Tryz.prog w = .ok (.enter 141 args) w := enters_of Tryz.func141 (by kernel_rfl) rfl

theorem filter_step (l : List Tr) (p : Tr → Bool) (k : Nat) (h : k < l.length) : (l.take (k + 1)).filter p = (l.take k).filter p ++ (if p l[k] then [l[k]] else []) := by
  rw [List.take_succ_eq_append_getElem h, List.filter_append]
  cases hp : p l[k] <;> simp [hp]

set_option maxHeartbeats 4000000 in
set_option maxRecDepth 100000 in
theorem keep_any (ad : Option Addr) (cap g bl : Nat) (l : List Tr) (p : Tr → Bool) (w : World) (h : SlT w ad l) (h200 : l.length ≤ 200)
    (eg : ∀ args w, (callFunc g args).run Tryz.prog w = .ok (.enter g args) w)
    (hf : ∀ x ∈ l, ∀ W : World, RowKit.Below w.heap.size w W → Calls Tryz.prog g #[valTr x, .pointer (some ⟨bl, 0, none⟩)] W fun e w' => e = .returned (.bool (p x)) ∧ RowKit.Below W.heap.size W w') :
    Calls Tryz.prog 139 #[.slice ad l.length cap, .func (.func g) #[] #[.pointer (some ⟨bl, 0, none⟩)]] w fun e w' => ∃ ad' cap', e = .returned (.slice ad' (l.filter p).length cap') ∧ SlT w' ad' (l.filter p) ∧ RowKit.Below w.heap.size w w' := by
  have Hl : Hid (SlT w ad l) := h
  have Hf : Hid (∀ x ∈ l, ∀ W : World, RowKit.Below w.heap.size w W → Calls Tryz.prog g #[valTr x, .pointer (some ⟨bl, 0, none⟩)] W fun e w' => e = .returned (.bool (p x)) ∧ RowKit.Below W.heap.size W w') := hf
  clear h hf
  obtain ⟨i0, hi, hz⟩ := Option.map_eq_some_iff.1 infoTr
  simp only [Prod.mk.injEq] at hz
  obtain ⟨hz0, hz1, hz2⟩ := hz
  go_enter Tryz.func139, Tryz.ntmps139
  go_wp2_with fail
  go_loopw [5, 10] (fun v i wr => ∃ k : Nat, k ≤ l.length ∧ i = .int .i64 k ∧ Hid (wr.ownsRow w.heap.size 30 9 v ((l.take k).filter p).length (cellsT ((l.take k).filter p))) ∧ RowKit.Below w.heap.size w wr) (fun _ i wr => l.length - (intOf i).toNat)
  case atStart => exact ⟨0, Nat.zero_le _, rfl, by show World.ownsRow _ _ _ _ _ _ _; rw [List.take_zero]; exact World.ownsRow_nil _ _ _ _, RowKit.Below.refl _ _⟩
  case round =>
    obtain ⟨k, hk, rfl, hown, hbr⟩ := hrel
    by_cases hlt : k < l.length
    · obtain ⟨b, o, rfl, hr⟩ := (Hl.out.below hbr).at k hlt
      obtain ⟨c0, c1, c2, c3, c4, c5, c6, c7, c8⟩ := hr.at k hlt
      have i0' : (0 : Int) ≤ (k : Int) := by omega
      have i1 : (k : Int) < (l.length : Int) := by omega
      have hstep : Hid _ := filter_step l p k hlt
      have hfil : ((l.take k).filter p).length ≤ k := Nat.le_trans (List.length_filter_le _ _) (by simp; omega)
      have H := Hf.out l[k] (List.getElem_mem hlt)
      have hzr := hbr.size
      generalize ht : (l.take (k + 1)).filter p = t1 at hstep
      have Ht : Hid _ := ht
      generalize (l.take k).filter p = t0 at *
      generalize l[k] = y at *
      clear hr ht
      cases hp : p y
      · rw [hp] at H
        have hs2 : Hid (t1 = t0) := by have := hstep.out; rw [hp] at this; simpa [Hid] using this
        unfold valTr at H
        go_wp2_with fail
        go_at_fn g
        refine (H _ (bstep hbr (balloc _ _))).mono ?_
        rintro e w1 ⟨rfl, hb1⟩
        go_wp2_with fail
        go_roundw
        case rel =>
          refine ⟨k + 1, by omega, by go_num, ?_, bstep (bstep hbr (balloc _ _)) hb1⟩
          show World.ownsRow _ _ _ _ _ _ _
          rw [Ht.out, hs2.out]
          exact ownsRow_below (hown.out.alloc _) hb1
        case measure => simp [intOf]; omega
      · rw [hp] at H
        have hs2 : Hid (t1 = t0 ++ [y]) := by have := hstep.out; rw [hp] at this; simpa [Hid] using this
        unfold valTr at H
        go_wp2_with fail
        go_at_fn g
        refine (H _ (bstep hbr (balloc _ _))).mono ?_
        rintro e w1 ⟨rfl, hb1⟩
        have hrow1 : Hid (w1.ownsRow w.heap.size 30 9 _ t0.length (cellsT t0)) := ownsRow_below (hown.out.alloc _) hb1
        have hB1 := bstep (bstep hbr (balloc _ _)) hb1
        have hz1' := hB1.size
        obtain ⟨a0, a1, a2, b0, b1, b2, d0, d1, d2, hzz⟩ := ninebox hb1
        clear c0 c1 c2 c3 c4 c5 c6 c7 c8 hown
        go_wp2_with (at_builtin; refine wpList_append_own _ rfl _ _ 22 rfl w.heap.size 30 i0 (.agg (encTr zeroTr).toArray) 9 120 Tryz.underlying22 hi hz0 hz1 hz2 rfl (by decide) _ _ _ rfl (hrow1.out.alloc _) ⟨w1.heap.size, 0, none⟩ 1 1 (encTr y) rfl rfl ?c1 ?c2 ?c3 ?c4 ?c5 ?_)
        case c1 =>
          intro i u hi'
          have h9 : i < 9 := (List.getElem?_eq_some_iff.1 hi').1
          rw [Addr.add_lit]
          rcases (by omega : i = 0 ∨ i = 1 ∨ i = 2 ∨ i = 3 ∨ i = 4 ∨ i = 5 ∨ i = 6 ∨ i = 7 ∨ i = 8) with rfl | rfl | rfl | rfl | rfl | rfl | rfl | rfl | rfl
          all_goals
            simp [encTr] at hi'
            subst hi'
            go_simp
        case c2 => exact encTr_one y
        case c3 => unfold maxLen; omega
        case c4 => omega
        case c5 => simp; omega
        intro v' w9 hown' hgrow _
        have hbel := (hB1.alloc hz1' (.cells (encTr y).toArray 30)).grown hgrow (by simp; omega) (fun k hk => (hrow1.out.lt k hk).1)
        go_wp2_with fail
        go_roundw
        case rel =>
          refine ⟨k + 1, by omega, by go_num, ?_, hbel⟩
          show World.ownsRow _ _ _ _ _ _ _
          rw [Ht.out, hs2.out]
          simpa [cellsT] using hown'
        case measure => simp [intOf]; omega
    · obtain rfl : k = l.length := by omega
      have hown' := hown.out
      rw [List.take_length] at hown'
      obtain ⟨ad', cap', rfl, hsl⟩ := own_slT hown'
      clear hown' hown
      go_wp2_with fail
      go_ret
      exact ⟨ad', cap', rfl, hsl, hbr⟩
end Go.Proofs.YtenakehnnmencahGreat

/- slices.Grow of nothing, slices.Concat of two lists of triples. -/
namespace Go.Proofs.YtenakehnnmencahGreat
open Go Go.RowKit Go.Proofs
set_option synthInstance.maxSize 1000

set_option maxHeartbeats 1000000 in
set_option maxRecDepth 100000 in
theorem Grow_none (w : World) : Calls Tryz.prog 184 #[.slice none 0 0, .int .i64 0] w fun e w' => e = .returned (.slice none 0 0) ∧ w' = w := by
  go_enter Tryz.func184, Tryz.ntmps184
  go_wp2
  go_ret
  exact ⟨rfl, rfl⟩

set_option maxHeartbeats 1000000 in
set_option maxRecDepth 100000 in
theorem Grow_some (n : Nat) (w : World) (hn : 0 < n) (h400 : n ≤ 400) :
    Calls Tryz.prog 184 #[.slice none 0 0, .int .i64 n] w fun e w' => ∃ c, e = .returned (.slice (some ⟨w.heap.size, 0, none⟩) 0 c) ∧ w'.ownsRow w.heap.size 30 9 (.slice (some ⟨w.heap.size, 0, none⟩) 0 c) 0 [] ∧ RowKit.Below w.heap.size w w' := by
  obtain ⟨i0, hi, hz⟩ := Option.map_eq_some_iff.1 infoTr
  simp only [Prod.mk.injEq] at hz
  obtain ⟨hz0, hz1, hz2⟩ := hz
  have hrz := fun ty => Lib.run_append_nil_zeros w 22 3 ty 30 i0 _ .i64 .i64 Tryz.underlying22 Tryz.underlying3 hi hz0 n hn (by rw [hz1]; omega) (by omega) (by rw [hz2]; omega)
  have hge := grownCap_ge w n 0 30
  have hle := grownCap_le_maxLen w n 0 30 (by unfold maxLen; omega)
  generalize grownCap w n 0 30 = c at *
  have hd : decide ((n : Int) > 0) = true := by simp; omega
  have hd0 : decide ((n : Int) < 0) = false := by simp
  have hle' : c ≤ 9223372036854775807 := by unfold maxLen at hle; omega
  go_enter Tryz.func184, Tryz.ntmps184
  go_wp2_with (at_builtin; refine Lib.wpList_append_run _ rfl _ _ _ _ rfl _ _ rfl rfl _ _ (hrz _) ?_)
  go_ret
  refine ⟨c, rfl, ⟨rfl, Or.inr ⟨w.heap.size, c, _, rfl, Nat.le_refl _, (MapKept.heap_alloc w.drew _).1, Nat.zero_le _, hle, ?_, by simp⟩⟩, (RowKit.Below.refl _ _).drew.alloc (Nat.le_refl _) _⟩
  simp [Builtin.zeroCells, encTr]
  omega

theorem append_empty {base n : Nat} {v : Value} {cs : List Value} {W : World} (h : W.ownsRow base 30 9 v n cs) (ad : Option Addr) (cap : Nat) (ty : TypeId) :
    (Builtin.append_ #[22, 22] ty #[v, .slice ad 0 cap]).run Tryz.prog W = .ok v W := by
  obtain ⟨i, hi, hz⟩ := Option.map_eq_some_iff.1 infoTr
  have hf : (Builtin.firstCells i.size 0 (.slice ad 0 cap)).run Tryz.prog W = .ok #[] W := by
    cases ad with
    | none => exact run_firstCells_none W _ _ _ _
    | some a => exact run_firstCells_some (P := Tryz.prog) W i.size 0 a 0 cap [] (by simp) (by simp)
  rcases h.2 with ⟨rfl, h0⟩ | ⟨g, c, cur, rfl, _, _, hle, _⟩
  · simp [Builtin.append_, run_underlying Tryz.underlying22, sizeOf, typeInfo, hi, Builtin.lenOf, hf]
  · simp [Builtin.append_, run_underlying Tryz.underlying22, sizeOf, typeInfo, hi, Builtin.lenOf, hf, hle, storeCells]

/-- an append of a list to a row of one's own, for the walk -/
theorem wpList_append_list {ops : Array Oper} {rest : List Oper} {o : Oper} {a : Act} {Q : Exit → Act → World → Prop} (w : World) (hgd : o.guard = none) (s x : Operand)
    (ho : o.op = .call { callee := .builtin .append, args := #[s, x], argTypes := #[22, 22] })
    (base : Nat) (v : Value) (t l : List Tr) (ad : Option Addr) (c : Nat) (hs : a.eval s = v) (hx : a.eval x = .slice ad l.length c) (hown : w.ownsRow base 30 9 v t.length (cellsT t)) (hl : SlT w ad l)
    (h63 : t.length + l.length ≤ 1000000) (hbase : base ≤ w.heap.size)
    (h : ∀ v' w', w'.ownsRow base 30 9 v' (t ++ l).length (cellsT (t ++ l)) → RowKit.Below base w w' → wpList Tryz.prog ops Q rest (a.put o.dst v') w') : wpList Tryz.prog ops Q (o :: rest) a w := by
  obtain ⟨i0, hi, hz⟩ := Option.map_eq_some_iff.1 infoTr
  simp only [Prod.mk.injEq] at hz
  obtain ⟨hz0, hz1, hz2⟩ := hz
  cases l with
  | nil =>
    refine Lib.wpList_append_run w hgd s x _ _ ho v _ hs hx v w (append_empty hown ad c _) (h v w ?_ (RowKit.Below.refl _ _))
    simpa using hown
  | cons y r =>
    obtain ⟨b, off, rfl, hr⟩ := hl (by simp)
    refine wpList_append_own w hgd s x _ ho base 30 i0 (.agg (encTr zeroTr).toArray) 9 120 Tryz.underlying22 hi hz0 hz1 hz2 rfl (by decide) v t.length (cellsT t) hs hown ⟨b, off, none⟩ (y :: r).length c (cellsT (y :: r)) hx (cellsT_len _) ?_ (cellsT_one _) (by unfold maxLen; omega) (by omega) hbase ?_
    · intro j u hj
      rw [Addr.add_lit]
      exact hr j u hj
    · intro v' w' h2 h3 _
      refine h v' w' ?_ ((RowKit.Below.refl _ _).grown h3 hbase (fun k hk => (hown.lt k hk).1))
      rw [List.length_append]
      simpa [cellsT] using h2

theorem wrapN (n : Nat) (h : n ≤ 1000000) : IntKind.i64.wrap (n : Int) = n := by simp [IntKind.wrap, IntKind.bits, IntKind.signed]; omega

set_option maxHeartbeats 4000000 in
set_option maxRecDepth 100000 in
theorem Concat_any (bs : Nat) (ad ad' : Option Addr) (ca cb : Nat) (l m : List Tr) (w : World) (h0 : w.cell? ⟨bs, 0, none⟩ = some (.slice ad l.length ca)) (h1 : w.cell? ⟨bs, 1, none⟩ = some (.slice ad' m.length cb))
    (hl : SlT w ad l) (hm : SlT w ad' m) (hl2 : l.length ≤ 200) (hm2 : m.length ≤ 200) :
    Calls Tryz.prog 144 #[.slice (some ⟨bs, 0, none⟩) 2 2] w fun e w' => ∃ ad'' c, e = .returned (.slice ad'' (l ++ m).length c) ∧ SlT w' ad'' (l ++ m) ∧ RowKit.Below w.heap.size w w' := by
  have Hl : Hid (SlT w ad l) := hl
  have Hm : Hid (SlT w ad' m) := hm
  have hbs : bs < w.heap.size := World.block_lt_of_cell? w _ h0
  clear hl hm
  go_enter Tryz.func144, Tryz.ntmps144
  go_wp2_with fail
  go_loopw [3, 11] (fun s i wr => ∃ k : Nat, k ≤ 2 ∧ i = .int .i64 k ∧ s = .int .i64 ((if 0 < k then l.length else 0 : Nat) + (if 1 < k then m.length else 0 : Nat) : Int) ∧ w = wr) (fun _ i wr => 2 - (intOf i).toNat)
  case atStart => exact ⟨0, by omega, rfl, rfl, rfl⟩
  case round =>
    obtain ⟨k, hk, rfl, rfl, rfl⟩ := hrel
    rcases (by omega : k = 0 ∨ k = 1 ∨ k = 2) with rfl | rfl | rfl
    · go_wp2_with fail
      exact ⟨⟨1, by omega, rfl, by simp, trivial⟩, by simp [intOf]⟩
    · go_wp2_with fail
      exact ⟨⟨2, by omega, rfl, by simp, trivial⟩, by simp [intOf]⟩
    · have HG : ∀ W : World, Calls Tryz.prog 184 #[.slice none 0 0, .int .i64 ((l.length : Int) + (m.length : Int))] W fun e w' => ∃ v, e = .returned v ∧ w'.ownsRow W.heap.size 30 9 v 0 [] ∧ RowKit.Below W.heap.size W w' := by
        intro W
        by_cases hz : l.length + m.length = 0
        · rw [show (l.length : Int) + (m.length : Int) = 0 by omega]
          refine (Grow_none W).mono ?_
          rintro e w' ⟨rfl, rfl⟩
          exact ⟨_, rfl, World.ownsRow_nil _ _ _ _, RowKit.Below.refl _ _⟩
        · have := Grow_some (l.length + m.length) W (by omega) (by omega)
          rw [show ((l.length + m.length : Nat) : Int) = (l.length : Int) + (m.length : Int) by omega] at this
          refine this.mono ?_
          rintro e w' ⟨c, rfl, h1, h2⟩
          exact ⟨_, rfl, h1, h2⟩
      go_wp2_with fail
      refine (HG _).mono ?_
      rintro e w1 ⟨v, rfl, hown, hb1⟩
      have Hown : Hid (w1.ownsRow w.heap.size 30 9 v 0 []) := hown
      clear hown HG
      go_wp2_with fail
      go_loopw [6, 27] (fun v i wr => ∃ k : Nat, k ≤ 2 ∧ i = .int .i64 k ∧ Hid (wr.ownsRow w.heap.size 30 9 v ((if 0 < k then l else []) ++ (if 1 < k then m else [])).length (cellsT ((if 0 < k then l else []) ++ (if 1 < k then m else [])))) ∧ RowKit.Below w.heap.size w wr) (fun _ i wr => 2 - (intOf i).toNat)
      case atStart => exact ⟨0, by omega, rfl, Hown.out, hb1⟩
      case round =>
        obtain ⟨k, hk, rfl, hown, hbr⟩ := hrel
        have hc0 : wr.cell? ⟨bs, 0, none⟩ = some (.slice ad l.length ca) := (hbr.cell hbs).trans h0
        have hc1 : wr.cell? ⟨bs, 1, none⟩ = some (.slice ad' m.length cb) := (hbr.cell hbs).trans h1
        have hzr := hbr.size
        rcases (by omega : k = 0 ∨ k = 1 ∨ k = 2) with rfl | rfl | rfl
        · have hown' : Hid (wr.ownsRow w.heap.size 30 9 _ ([] : List Tr).length (cellsT [])) := hown.out
          clear hown
          go_wp2_with (at_builtin; refine wpList_append_list _ rfl _ _ rfl w.heap.size _ [] l ad ca rfl rfl hown'.out (Hl.out.below hbr) (by simp; omega) hzr ?_; intro v' w' hown2 hb2)
          exact ⟨⟨1, by omega, rfl, by show World.ownsRow _ _ _ _ _ _ _; simpa using hown2, hbr.trans hb2⟩, by simp [intOf]⟩
        · have hown1 := hown.out
          rw [show ((if 0 < 1 then l else []) ++ (if 1 < 1 then m else [])) = l by simp] at hown1
          have hown' : Hid _ := hown1
          clear hown hown1
          go_wp2_with (at_builtin; refine wpList_append_list _ rfl _ _ rfl w.heap.size _ l m ad' cb rfl rfl hown'.out (Hm.out.below hbr) (by omega) hzr ?_; intro v' w' hown2 hb2)
          exact ⟨⟨2, by omega, rfl, by show World.ownsRow _ _ _ _ _ _ _; simpa using hown2, hbr.trans hb2⟩, by simp [intOf]⟩
        · have hown' := hown.out
          rw [show ((if 0 < 2 then l else []) ++ (if 1 < 2 then m else [])) = l ++ m by simp] at hown'
          obtain ⟨ad'', c, rfl, hsl⟩ := own_slT hown'
          clear hown' hown
          go_wp2_with fail
          go_ret
          exact ⟨ad'', c, rfl, hsl, hbr⟩
end Go.Proofs.YtenakehnnmencahGreat

/- Join, Less, Both, Has: what they tell. -/
namespace Go.Proofs.YtenakehnnmencahGreat
open Go Go.RowKit Go.Proofs
open Go.Maps
set_option synthInstance.maxSize 1000

attribute [local go_sem] eql_errV neq_errV guard_errV

/-- what is wrong with two sets -/
def bothN (a b : List Tr) : Int := if sortedN a = 0 then sortedN b else sortedN a
theorem bothN_zero {a b : List Tr} : bothN a b = 0 ↔ IsSet a ∧ IsSet b := by
  unfold bothN
  by_cases h : sortedN a = 0
  · rw [if_pos h, sortedN_set]
    exact ⟨fun hb => ⟨sortedN_set.1 h, hb⟩, fun hb => hb.2⟩
  · rw [if_neg h]
    exact ⟨fun hb => absurd hb h, fun hb => absurd (sortedN_set.2 hb.1) h⟩

set_option maxHeartbeats 1000000 in
theorem bothSorted_any (ad bd : Option Addr) (ca cb : Nat) (a b : List Tr) (w : World) (ha : SlT w ad a) (hb : SlT w bd b) (fa : ∀ x ∈ a, fitTr x) (fb : ∀ x ∈ b, fitTr x) (na : a.length ≤ 9223372036854775807) (nb : b.length ≤ 9223372036854775807) :
    Calls Tryz.prog 138 #[.slice ad a.length ca, .slice bd b.length cb] w fun e w' => e = .returned (errV (bothN a b)) ∧ RowKit.Below w.heap.size w w' := by
  have H1 := fun W hW => Sorted_any ad ca a W hW fa na
  have H2 := fun W hW => Sorted_any bd cb b W hW fb nb
  have fin : Hid (bothN a b = if sortedN a = 0 then sortedN b else sortedN a) := rfl
  have Ha : Hid (SlT w ad a) := ha
  have Hb : Hid (SlT w bd b) := hb
  generalize sortedN a = n at H1 fin
  generalize sortedN b = m at H2 fin
  clear ha hb fa fb na nb
  cases hn : (n == 0)
  · go_enter Tryz.func138, Tryz.ntmps138
    go_wp2_with fail
    refine (H1 _ Ha.out).mono ?_
    rintro e w1 ⟨rfl, hb1⟩
    go_wp2_with fail
    go_ret
    simp at hn
    exact ⟨ret_val (by rw [fin.out, if_neg hn]; rfl), hb1⟩
  · go_enter Tryz.func138, Tryz.ntmps138
    go_wp2_with fail
    refine (H1 _ Ha.out).mono ?_
    rintro e w1 ⟨rfl, hb1⟩
    go_wp2_with fail
    refine (H2 _ (Hb.out.below hb1)).mono ?_
    rintro e w2 ⟨rfl, hb2⟩
    go_wp2_with fail
    go_ret
    simp at hn
    exact ⟨ret_val (by rw [fin.out, if_pos hn]; rfl), bstep hb1 hb2⟩

/-- a call's answer: a list and a number -/
def Ans (n : Int) (P : List Tr → Prop) (w : World) (e : Ending) (w' : World) : Prop := RowKit.Below w.heap.size w w' ∧ ∃ (m : List Tr) (ad : Option Addr) (c : Nat), e = .returned (.tuple #[.slice ad m.length c, errV n]) ∧ SlT w' ad m ∧ P m

theorem Ans.mk {n : Int} {P : List Tr → Prop} {w w' : World} (hb : RowKit.Below w.heap.size w w') (m : List Tr) (ad : Option Addr) (c : Nat) (hs : SlT w' ad m) (hp : P m) : Ans n P w (.returned (.tuple #[.slice ad m.length c, errV n])) w' := ⟨hb, m, ad, c, rfl, hs, hp⟩
theorem slT_nil (W : World) (ad : Option Addr) : SlT W ad [] := fun h => absurd rfl h

def LessAns (a b m : List Tr) : Prop := m = if bothN a b = 0 then lessL a b else []
def BothAns (a b m : List Tr) : Prop := m = if bothN a b = 0 then bothL a b else []

set_option maxHeartbeats 2000000 in
set_option maxRecDepth 100000 in
theorem Less_any (ad bd : Option Addr) (ca cb : Nat) (a b : List Tr) (w : World) (ha : SlT w ad a) (hb : SlT w bd b) (fa : ∀ x ∈ a, fitTr x) (fb : ∀ x ∈ b, fitTr x) (na : a.length ≤ 9223372036854775807) (nb : b.length ≤ 9223372036854775807) :
    Calls Tryz.prog 96 #[.slice ad a.length ca, .slice bd b.length cb] w (Ans (bothN a b) (LessAns a b) w) := by
  have H := fun W h1 h2 => bothSorted_any ad bd ca cb a b W h1 h2 fa fb na nb
  have Ha : Hid (SlT w ad a) := ha
  have Hb : Hid (SlT w bd b) := hb
  have hz0 := @bothN_zero a b
  have hA0 : Hid (bothN a b ≠ 0 → LessAns a b []) := fun h => by unfold LessAns; rw [if_neg h]
  have hA1 : Hid (bothN a b = 0 → LessAns a b (lessL a b)) := fun h => by unfold LessAns; rw [if_pos h]
  generalize LessAns a b = LA at *
  generalize bothN a b = n at *
  clear ha hb fa fb na nb
  cases hn : (n == 0)
  · clear hz0
    go_enter Tryz.func96, Tryz.ntmps96
    go_wp2_with fail
    refine (H _ Ha.out Hb.out).mono ?_
    rintro e w1 ⟨rfl, hb1⟩
    go_wp2_with fail
    refine bodyPost_ret (v := .tuple #[.slice none 0 0, errV n]) (by simp [results, Tryz.results96, go_sem]) rfl (Ans.mk hb1 [] none 0 (slT_nil _ _) (hA0.out (by simpa using hn)))
  · obtain ⟨sa, sb⟩ := hz0.1 (by simpa using hn)
    have HK := fun W hW (bl : Nat) (hN : NotOK W bl b) => keep_any ad ca 141 bl a (fun x => !decide (x ∈ b)) W hW sa.1 enters141 (fun x hx W' hW' => notLess_any bl b x W' (hN.below hW') (sa.2.1 x hx))
    have HA := fun W hW => asker_any bd cb b W hW sb.2.1 sb.1
    have h0 : n = 0 := by simpa using hn
    have hA2 : Hid _ := hA1.out h0
    clear hA0 hA1
    subst h0
    rw [show errV 0 = .nilIface from rfl] at H
    clear sa sb hz0 hn
    go_enter Tryz.func96, Tryz.ntmps96
    go_wp2_with fail
    refine (H _ Ha.out Hb.out).mono ?_
    rintro e w1 ⟨rfl, hb1⟩
    go_wp2_with fail
    refine (HA _ (Hb.out.below hb1)).mono ?_
    rintro e w2 ⟨bx, rfl, hask, hb2⟩
    have hB2 := bstep hb1 hb2
    have Hask : Hid (AskOK w2 bx b) := hask
    clear hask
    go_wp2_with fail
    refine (HK _ ?h1 _ ?h2).mono ?_
    case h1 => exact Ha.out.below (bstep hB2 (balloc _ _))
    case h2 => exact ⟨bx, by go_simp, Hask.out.below (balloc _ _)⟩
    rintro e w3 ⟨ad', c', rfl, hsl, hb3⟩
    go_wp2_with fail
    refine bodyPost_ret (v := .tuple #[.slice ad' (a.filter fun x => !decide (x ∈ b)).length c', .nilIface]) (by simp [results, Tryz.results96, go_sem]) rfl (Ans.mk (n := 0) (bstep (bstep hB2 (balloc _ _)) hb3) _ ad' c' hsl hA2.out)

set_option maxHeartbeats 2000000 in
set_option maxRecDepth 100000 in
theorem Both_any (ad bd : Option Addr) (ca cb : Nat) (a b : List Tr) (w : World) (ha : SlT w ad a) (hb : SlT w bd b) (fa : ∀ x ∈ a, fitTr x) (fb : ∀ x ∈ b, fitTr x) (na : a.length ≤ 9223372036854775807) (nb : b.length ≤ 9223372036854775807) :
    Calls Tryz.prog 95 #[.slice ad a.length ca, .slice bd b.length cb] w (Ans (bothN a b) (BothAns a b) w) := by
  have H := fun W h1 h2 => bothSorted_any ad bd ca cb a b W h1 h2 fa fb na nb
  have Ha : Hid (SlT w ad a) := ha
  have Hb : Hid (SlT w bd b) := hb
  have hz0 := @bothN_zero a b
  have hA0 : Hid (bothN a b ≠ 0 → BothAns a b []) := fun h => by unfold BothAns; rw [if_neg h]
  have hA1 : Hid (bothN a b = 0 → BothAns a b (bothL a b)) := fun h => by unfold BothAns; rw [if_pos h]
  generalize BothAns a b = LA at *
  generalize bothN a b = n at *
  clear ha hb fa fb na nb
  cases hn : (n == 0)
  · clear hz0
    go_enter Tryz.func95, Tryz.ntmps95
    go_wp2_with fail
    refine (H _ Ha.out Hb.out).mono ?_
    rintro e w1 ⟨rfl, hb1⟩
    go_wp2_with fail
    refine bodyPost_ret (v := .tuple #[.slice none 0 0, errV n]) (by simp [results, Tryz.results95, go_sem]) rfl (Ans.mk hb1 [] none 0 (slT_nil _ _) (hA0.out (by simpa using hn)))
  · obtain ⟨sa, sb⟩ := hz0.1 (by simpa using hn)
    have HK := fun W hW (bl : Nat) (hN : AskOK W bl b) => keep_any ad ca 180 bl a (fun x => decide (x ∈ b)) W hW sa.1 enters180 (fun x hx W' hW' => ask_any bl b x W' (hN.below hW') (sa.2.1 x hx))
    have HA := fun W hW => asker_any bd cb b W hW sb.2.1 sb.1
    have h0 : n = 0 := by simpa using hn
    have hA2 : Hid _ := hA1.out h0
    clear hA0 hA1
    subst h0
    rw [show errV 0 = .nilIface from rfl] at H
    clear sa sb hz0 hn
    go_enter Tryz.func95, Tryz.ntmps95
    go_wp2_with fail
    refine (H _ Ha.out Hb.out).mono ?_
    rintro e w1 ⟨rfl, hb1⟩
    go_wp2_with fail
    refine (HA _ (Hb.out.below hb1)).mono ?_
    rintro e w2 ⟨bx, rfl, hask, hb2⟩
    have hB2 := bstep hb1 hb2
    have Hask : Hid (AskOK w2 bx b) := hask
    clear hask
    go_wp2_with fail
    refine (HK _ (Ha.out.below hB2) _ Hask.out).mono ?_
    rintro e w3 ⟨ad', c', rfl, hsl, hb3⟩
    go_wp2_with fail
    refine bodyPost_ret (v := .tuple #[.slice ad' (a.filter fun x => decide (x ∈ b)).length c', .nilIface]) (by simp [results, Tryz.results95, go_sem]) rfl (Ans.mk (n := 0) (bstep hB2 hb3) _ ad' c' hsl hA2.out)

/-- what Join tells -/
def joinN (a b : List Tr) : Int := if bothN a b = 0 then (if a.length + (lessL b a).length ≤ 200 then 0 else 4) else bothN a b
def JoinAns (a b m : List Tr) : Prop := (joinN a b = 0 → JoinOf a b m) ∧ (joinN a b ≠ 0 → m = [])

theorem sortN_cat {a b : List Tr} (sa : IsSet a) (sb : IsSet b) : sortN (a ++ lessL b a) = if a.length + (lessL b a).length ≤ 200 then 0 else 4 := by
  have hall : ∀ x ∈ a ++ lessL b a, chkTr x = 0 := fun x hx => by
    rcases List.mem_append.1 hx with h | h
    · exact sa.2.1 x h
    · exact sb.2.1 x (mem_lessL.1 h).1
  by_cases h : a.length + (lessL b a).length ≤ 200
  · rw [if_pos h]
    exact sortN_zero.2 ⟨by rw [List.length_append]; exact h, hall⟩
  · rw [if_neg h]
    unfold sortN faultN
    rw [if_pos (by rw [List.length_append]; omega)]

set_option maxHeartbeats 2000000 in
set_option maxRecDepth 100000 in
theorem Join_any' (ad bd : Option Addr) (ca cb : Nat) (a b : List Tr) (w : World) (ha : SlT w ad a) (hb : SlT w bd b) (fa : ∀ x ∈ a, fitTr x) (fb : ∀ x ∈ b, fitTr x) (na : a.length ≤ 9223372036854775807) (nb : b.length ≤ 9223372036854775807) :
    Calls Tryz.prog 97 #[.slice ad a.length ca, .slice bd b.length cb] w (Ans (joinN a b) (JoinAns a b) w) := by
  have H := fun W h1 h2 => bothSorted_any ad bd ca cb a b W h1 h2 fa fb na nb
  have Ha : Hid (SlT w ad a) := ha
  have Hb : Hid (SlT w bd b) := hb
  by_cases h0 : bothN a b = 0
  · obtain ⟨sa, sb⟩ := bothN_zero.1 h0
    have hj : joinN a b = if a.length + (lessL b a).length ≤ 200 then 0 else 4 := by unfold joinN; rw [if_pos h0]
    have hjs : joinN a b = sortN (a ++ lessL b a) := by rw [hj, sortN_cat sa sb]
    have HK := fun W hW (bl : Nat) (hN : NotOK W bl a) => keep_any bd cb 142 bl b (fun x => !decide (x ∈ a)) W hW sb.1 enters142 (fun x hx W' hW' => notJoin_any bl a x W' (hN.below hW') (sb.2.1 x hx))
    have HA := fun W hW => asker_any ad ca a W hW sa.2.1 sa.1
    have hle : (lessL b a).length ≤ 200 := Nat.le_trans (List.length_filter_le _ _) sb.1
    have HC := fun W bs am cm h1 h2 h3 h4 => Concat_any bs ad am ca cm a (lessL b a) W h1 h2 h3 h4 sa.1 hle
    have HS : ∀ W am cm, SlT W am (a ++ lessL b a) → Calls Tryz.prog 143 #[.slice am (a.length + (lessL b a).length) cm] W (Ans (joinN a b) (JoinAns a b) W) := by
      intro W am cm hW
      rw [← List.length_append]
      by_cases hs : sortN (a ++ lessL b a) = 0
      · refine (Sort_good am cm _ W hW hs).mono ?_
        rintro e w' ⟨hb', m, ad', c, rfl, h1, h2, h3, _⟩
        refine ⟨hb', m, ad', c, by rw [hjs, hs]; rfl, h1, fun _ => ⟨h2, fun x => ?_⟩, fun h => absurd (hjs.trans hs) h⟩
        rw [h3, List.mem_append, mem_lessL]
        by_cases hx : x ∈ a <;> simp [hx]
      · have hfit : ∀ x ∈ a ++ lessL b a, fitTr x := fun x hx => by
          rcases List.mem_append.1 hx with h | h
          · exact fa x h
          · exact fb x (mem_lessL.1 h).1
        refine (Sort_bad am cm _ W hW hfit (by rw [List.length_append]; have := sa.1; omega) hs).mono ?_
        rintro e w' ⟨rfl, hb'⟩
        exact ⟨hb', [], none, 0, by rw [hjs]; rfl, slT_nil _ _, fun h => absurd (hjs.symm.trans h) hs, fun _ => rfl⟩
    rw [h0, show errV 0 = .nilIface from rfl] at H
    have Hle : Hid (lessL b a = b.filter fun x => !decide (x ∈ a)) := rfl
    generalize joinN a b = n at *
    clear sa sb h0 hj hjs ha hb fa fb na nb hle
    generalize lessL b a = less at *
    generalize JoinAns a b = JA at *
    rw [← Hle.out] at HK
    have HS' : Hid _ := HS
    clear HS
    go_enter Tryz.func97, Tryz.ntmps97
    go_wp2_with fail
    refine (H _ Ha.out Hb.out).mono ?_
    rintro e w1 ⟨rfl, hb1⟩
    go_wp2_with fail
    refine (HA _ (Ha.out.below hb1)).mono ?_
    rintro e w2 ⟨bx, rfl, hask, hb2⟩
    have hB2 := bstep hb1 hb2
    have Hask : Hid (AskOK w2 bx a) := hask
    clear hask
    go_wp2_with fail
    refine (HK _ ?h1 _ ?h2).mono ?_
    case h1 => exact Hb.out.below (bstep hB2 (balloc _ _))
    case h2 => exact ⟨bx, by go_simp, Hask.out.below (balloc _ _)⟩
    rintro e w3 ⟨ad', c', rfl, hsl, hb3⟩
    have hB3 := bstep (bstep hB2 (balloc _ _)) hb3
    have Hsl : Hid (SlT w3 ad' less) := hsl
    clear hsl
    go_wp2_with fail
    refine (HC _ _ ad' c' ?h1 ?h2 ?h3 ?h4).mono ?_
    case h1 => go_simp
    case h2 => go_simp
    case h3 => exact Ha.out.below (bstep hB3 (balloc _ _))
    case h4 => exact Hsl.out.below (balloc _ _)
    rintro e w4 ⟨am, cm, rfl, hcat, hb4⟩
    have hB4 := bstep (bstep hB3 (balloc _ _)) hb4
    have Hcat : Hid (SlT w4 am (a ++ less)) := hcat
    clear hcat
    go_wp2_with fail
    refine (HS'.out _ am cm Hcat.out).mono ?_
    rintro e w5 ⟨hb5, m, ad5, c5, rfl, hm, hJ⟩
    go_wp2_with fail
    exact bodyPost_ret (v := .tuple #[.slice ad5 m.length c5, errV n]) (by simp [results, Tryz.results97, go_sem]) rfl (Ans.mk (bstep hB4 hb5) m ad5 c5 hm hJ)
  · have hj : Hid (joinN a b = bothN a b) := if_neg h0
    have hj0 : Hid (JoinAns a b []) := ⟨fun h => absurd (hj.out.symm.trans h) h0, fun _ => rfl⟩
    rw [hj.out]
    have hn : (bothN a b == 0) = false := by simpa using h0
    generalize bothN a b = n at *
    generalize JoinAns a b = JA at *
    clear ha hb fa fb na nb hj h0
    go_enter Tryz.func97, Tryz.ntmps97
    go_wp2_with fail
    refine (H _ Ha.out Hb.out).mono ?_
    rintro e w1 ⟨rfl, hb1⟩
    go_wp2_with fail
    exact bodyPost_ret (v := .tuple #[.slice none 0 0, errV n]) (by simp [results, Tryz.results97, go_sem]) rfl (Ans.mk hb1 [] none 0 (slT_nil _ _) hj0.out)

/-- what Has tells -/
def hasN (l : List Tr) (t : Tr) : Int := if sortedN l = 0 then chkTr t else sortedN l

end Go.Proofs.YtenakehnnmencahGreat

/- stratalaw4's text of a number. -/
namespace Go.Proofs.YtenakehnnmencahGreat
open Go Go.RowKit Go.Proofs
set_option synthInstance.maxSize 1000

def valTmL (x : Tm) : Value := .agg #[.int .i64 x.1, .string ⟨x.2.1.toArray⟩, .string ⟨x.2.2.toArray⟩]
/-- a letter -/
def letN (n : Nat) : UInt8 := UInt8.ofNat (97 + n)
def textT (i : Nat) : Tm := (3, [letN (i / 26 % 26), letN (i % 26)], [])

theorem catB (x y : UInt8) : (⟨#[x]⟩ : ByteArray) ++ ⟨#[y]⟩ = ⟨#[x, y]⟩ := by
  apply ByteArray.ext
  simp [ByteArray.data_append]
theorem hideT {p : Prop} (h : p) : Hid p := h
set_option maxRecDepth 100000 in
theorem sliceA (a : Nat) (h : a < 26) (w : World) : (Instr.sliceAt 9 (.string ⟨#[97, 98, 99, 100, 101, 102, 103, 104, 105, 106, 107, 108, 109, 110, 111, 112, 113, 114, 115, 116, 117, 118, 119, 120, 121, 122]⟩) (some (.int .i64 (a : Int))) (some (.int .i64 ((a : Int) + 1))) none).run Tryz.prog w = .ok (.string ⟨#[letN a]⟩) w := by
  rcases (by omega : a = 0 ∨ a = 1 ∨ a = 2 ∨ a = 3 ∨ a = 4 ∨ a = 5 ∨ a = 6 ∨ a = 7 ∨ a = 8 ∨ a = 9 ∨ a = 10 ∨ a = 11 ∨ a = 12 ∨ a = 13 ∨ a = 14 ∨ a = 15 ∨ a = 16 ∨ a = 17 ∨ a = 18 ∨ a = 19 ∨ a = 20 ∨ a = 21 ∨ a = 22 ∨ a = 23 ∨ a = 24 ∨ a = 25) with rfl | rfl | rfl | rfl | rfl | rfl | rfl | rfl | rfl | rfl | rfl | rfl | rfl | rfl | rfl | rfl | rfl | rfl | rfl | rfl | rfl | rfl | rfl | rfl | rfl | rfl
  all_goals kernel_rfl

set_option maxHeartbeats 2000000 in
set_option maxRecDepth 100000 in
theorem text_any (n : Nat) (w : World) (hn : n ≤ 1000000) : Calls Tryz.prog 15 #[.int .i64 n] w fun e w' => e = .returned (valTmL (textT n)) ∧ RowKit.Below w.heap.size w w' := by
  have ea : ((n : Int) / 26 % 26) = ((n / 26 % 26 : Nat) : Int) := by omega
  have eb : ((n : Int) % 26) = ((n % 26 : Nat) : Int) := by omega
  have sa := sliceA (n / 26 % 26) (by omega)
  have sb := sliceA (n % 26) (by omega)
  have la : n / 26 % 26 < 26 := by omega
  have lb : n % 26 < 26 := by omega
  have fin : Hid (valTmL (textT n) = .agg #[.int .i64 3, .string ⟨#[letN (n / 26 % 26), letN (n % 26)]⟩, .string ⟨#[]⟩]) := rfl
  have EA := hideT ea
  have EB := hideT eb
  clear ea eb
  generalize n / 26 % 26 = a at *
  generalize n % 26 = b at *
  generalize valTmL (textT n) = v at *
  go_enter Tryz.func15, Tryz.ntmps15
  go_wp2_with fail
  rw [EA.out, EB.out]
  go_region
  go_wp2_with fail
  exact bodyPost_ret (v := .agg #[.int .i64 3, .string ((⟨#[letN a]⟩ : ByteArray) ++ ⟨#[letN b]⟩), .string ⟨#[]⟩]) (by unfold results; rw [Tryz.results15]; go_simp) rfl ⟨by rw [fin.out, catB], (balloc _ _).drew⟩
end Go.Proofs.YtenakehnnmencahGreat

/- stratalaw4's many: triples of one subject and one predicate, and what of them is together. -/
namespace Go.Proofs.YtenakehnnmencahGreat
open Go Go.RowKit Go.Proofs
set_option synthInstance.maxSize 1000

def nameT (c : UInt8) : Tm := (1, [c], [])
def trI (s : UInt8) (i : Nat) : Tr := (nameT s, nameT 112, textT i)
def manyL (s : UInt8) (n : Nat) : List Tr := (List.range n).map (trI s)

theorem manyL_len (s : UInt8) (n : Nat) : (manyL s n).length = n := by simp [manyL]
theorem manyL_at (s : UInt8) (n i : Nat) (h : i < (manyL s n).length) : (manyL s n)[i] = trI s i := by simp [manyL]
theorem manyL_succ (s : UInt8) (n : Nat) : manyL s (n + 1) = manyL s n ++ [trI s n] := by simp [manyL, List.range_succ]

set_option maxRecDepth 100000 in
theorem chkS : ∀ i, i < 200 → chkTr (trI 115 i) = 0 := by decide +kernel
set_option maxRecDepth 100000 in
theorem chkU : ∀ i, i < 200 → chkTr (trI 116 i) = 0 := by decide +kernel
set_option maxRecDepth 100000 in
theorem stepS : ∀ i, i < 200 → cmpTr (trI 115 i) (trI 115 (i + 1)) < 0 := by decide +kernel
set_option maxRecDepth 100000 in
theorem stepU : ∀ i, i < 200 → cmpTr (trI 116 i) (trI 116 (i + 1)) < 0 := by decide +kernel

theorem many_set {s : UInt8} {n : Nat} (hn : n ≤ 200) (h1 : ∀ i, i < 200 → chkTr (trI s i) = 0) (h2 : ∀ i, i < 200 → cmpTr (trI s i) (trI s (i + 1)) < 0) : IsSet (manyL s n) := by
  refine ⟨by rw [manyL_len]; exact hn, fun x hx => ?_, rising_of_steps _ fun i h0 hi => ?_⟩
  · obtain ⟨i, hi, rfl⟩ := List.getElem_of_mem hx
    rw [manyL_at]
    rw [manyL_len] at hi
    exact h1 i (by omega)
  · rw [manyL_at, manyL_at]
    rw [manyL_len] at hi
    have := h2 (i - 1) (by omega)
    rwa [show i - 1 + 1 = i by omega] at this

theorem manyS {n : Nat} (hn : n ≤ 200) : IsSet (manyL 115 n) := many_set hn chkS stepS
theorem manyU {n : Nat} (hn : n ≤ 200) : IsSet (manyL 116 n) := many_set hn chkU stepU

theorem many_apart (a b : Nat) : lessL (manyL 116 b) (manyL 115 a) = manyL 116 b := by
  unfold lessL
  rw [List.filter_eq_self]
  intro x hx
  have : x ∉ manyL 115 a := fun hx' => by
    simp only [manyL, List.mem_map] at hx hx'
    obtain ⟨i, _, rfl⟩ := hx
    obtain ⟨j, _, e⟩ := hx'
    simp [trI, nameT] at e
  simpa using this

theorem many_join {a b : Nat} (ha : a ≤ 200) (hb : b ≤ 200) : joinN (manyL 115 a) (manyL 116 b) = if a + b ≤ 200 then 0 else 4 := by
  unfold joinN
  rw [if_pos (bothN_zero.2 ⟨manyS ha, manyU hb⟩), many_apart, manyL_len, manyL_len]

theorem many_join_len {a b : Nat} (ha : a ≤ 200) (hb : b ≤ 200) {m : List Tr} (h : JoinOf (manyL 115 a) (manyL 116 b) m) : m.length = a + b := by
  rw [h.len (manyS ha).2.2 (manyU hb).2.2, many_apart, manyL_len, manyL_len]

theorem textT_nodup {n : Nat} (hn : n ≤ 200) : ((List.range n).map textT).Nodup := by
  have h := rising_nodup (manyS hn).2.2
  have e : manyL 115 n = ((List.range n).map textT).map (fun x => ((nameT 115, nameT 112, x) : Tr)) := by
    simp [manyL, trI, Function.comp_def]
  rw [e] at h
  exact List.Pairwise.of_map _ (fun a b hne e => hne (by rw [e])) h

end Go.Proofs.YtenakehnnmencahGreat

/- What SolveTurns says, in plain lists: the one order is the other one turned. -/
namespace Go.Proofs.YtenakehnnmencahGreat
open Go Go.RowKit Go.Proofs
set_option synthInstance.maxSize 1000

def turnP0 : Pt := (([], nameT 115), ([], nameT 112), ([111], tmZero))
def turnQ0 : Qu := ⟨[[111]], [turnP0], [111], true, false, -1⟩
def turnQ (p : Pt) (v : List UInt8) (d : Bool) : Qu := ⟨[v], [p], v, d, true, -1⟩
set_option maxRecDepth 100000 in
theorem turn0N : solveN (manyL 115 3) turnQ0 = 0 := by decide +kernel
set_option maxRecDepth 100000 in
theorem turn0L : solveL (manyL 115 3) turnQ0 = [[textT 2], [textT 1], [textT 0]] := by decide +kernel
theorem turn0fit : FitQ turnQ0 := by
  refine ⟨by simp [turnQ0], by simp [turnQ0], ?_, ?_, by simp [turnQ0]; unfold maxLen; omega, by decide⟩
  · intro v hv
    simp [turnQ0] at hv
    subst hv
    simp; unfold maxLen; omega
  · intro p hp
    simp [turnQ0] at hp
    subst hp
    refine ⟨⟨?_, ?_, ?_⟩, ⟨?_, ?_, ?_⟩, ⟨?_, ?_, ?_⟩⟩ <;> (simp [turnP0, nameT, tmZero]; try (unfold maxLen; omega))
theorem turn_fit {p : Pt} {v : List UInt8} (hp : fitPt p) (hv : v ∈ varsL p) (d : Bool) : FitQ (turnQ p v d) := by
  have hl : v.length ≤ maxLen := by
    rcases (varsL_mem.1 hv).2 with h | h | h
    · rw [h]; exact hp.1.1
    · rw [h]; exact hp.2.1.1
    · rw [h]; exact hp.2.2.1
  refine ⟨by simp [turnQ], by simp [turnQ], ?_, ?_, hl, (by decide : (Lit.int .i64 (-1)).wf = true)⟩
  · intro x hx
    simp [turnQ] at hx
    subst hx
    exact hl
  · intro x hx
    simp [turnQ] at hx
    subst hx
    exact hp
theorem turn_addAll : ∀ (l o : List (List UInt8)), (addAll o l).length ≤ o.length + l.length
  | [], o => by simp [addAll]
  | v :: r, o => by
    unfold addAll
    refine Nat.le_trans (turn_addAll r _) ?_
    split <;> simp <;> omega
theorem turn_addV (l : List (List UInt8)) (s : Sl) : (addV l s).length ≤ l.length + 1 := by
  unfold addV
  repeat' split
  all_goals simp
theorem turn_few (p : Pt) : (partsV [] [p]).length ≤ 8 := by
  have h := turn_addAll (varsL p) []
  have h1 := turn_addV [] p.1
  have h2 := turn_addV (addV [] p.1) p.2.1
  have h3 := turn_addV (addV (addV [] p.1) p.2.1) p.2.2
  have e : partsV [] [p] = addAll [] (varsL p) := rfl
  rw [e]
  unfold varsL at *
  simp at h h1
  omega
theorem turn_ask {p : Pt} {v : List UInt8} (h0 : varsN p = 0) (hv : v ∈ varsL p) (d : Bool) : askN (turnQ p v d) = 0 := by
  have hV : ∀ x, x ∈ varsL p → x ∈ partsV [] [p] := fun x hx => partsV_mem.2 (.inr ⟨p, by simp, hx⟩)
  have h8 : (partsV [] [p]).length ≤ 8 := turn_few p
  have hne : v ≠ [] := (varsL_mem.1 hv).1
  unfold askN turnQ
  simp only [List.length_cons, List.length_nil, partsN, h0]
  rw [if_neg (by omega), if_neg (by simp), if_neg (by simp), if_neg (by omega), if_neg (by simp), if_neg (by simp; exact hV v hv), if_neg (by simp), if_neg (by simp), if_neg (by simp [hne]), if_neg (by omega)]
theorem turn_N {l : List Tr} {p : Pt} {v : List UInt8} (h0 : varsN p = 0) (hv : v ∈ varsL p) : solveN l (turnQ p v true) = solveN l (turnQ p v false) := by
  unfold solveN
  rw [turn_ask h0 hv, turn_ask h0 hv]
  rfl
theorem turn_where (v : List UInt8) : whereV [v] v = some 0 := by simp [whereV]
theorem turn_rows {l : List Tr} {p : Pt} {v : List UInt8} {d : Bool} (h : solveN l (turnQ p v d) = 0) : ∃ vars rows, answersL l [p] = some (vars, rows) ∧ solveL l (turnQ p v d) = sortR (aheadB (some 0) d) true (rows.map (projR vars [v])) := by
  obtain ⟨_, _, vars, rows, ha⟩ := solve_good h
  have ha' : answersL l [p] = some (vars, rows) := ha
  refine ⟨vars, rows, ha', ?_⟩
  unfold solveL
  rw [if_pos h]
  unfold solveA ltQ
  simp only [turnQ, ha', turn_where, limR]
  rw [if_neg (by omega)]
theorem turn_L {l : List Tr} {p : Pt} {v : List UInt8} (h0 : varsN p = 0) (hv : v ∈ varsL p) (h : solveN l (turnQ p v false) = 0) : solveL l (turnQ p v true) = (solveL l (turnQ p v false)).reverse := by
  obtain ⟨vars, rows, ha, e⟩ := turn_rows h
  obtain ⟨vars', rows', ha', e'⟩ := turn_rows ((turn_N h0 hv).trans h)
  rw [ha] at ha'
  injection ha' with ha'
  injection ha' with h1 h2
  subst h1
  subst h2
  rw [e, e']
  exact turned_rows (proj_len vars [v] rows)
theorem turn_len {l : List Tr} {p : Pt} {v : List UInt8} (h : solveN l (turnQ p v false) = 0) : ∀ r ∈ solveL l (turnQ p v false), r.length = 1 := by
  obtain ⟨vars, rows, _, e⟩ := turn_rows h
  intro r hr
  rw [e] at hr
  exact proj_len vars [v] rows r (sort_mem.1 hr)
end Go.Proofs.YtenakehnnmencahGreat

/- stratalaw4's name and many. -/
namespace Go.Proofs.YtenakehnnmencahGreat
open Go Go.RowKit Go.Proofs
set_option synthInstance.maxSize 1000

theorem nameS_any (S : List UInt8) (w : World) : Calls Tryz.prog 13 #[.string ⟨S.toArray⟩] w
    fun e w' => e = .returned (.agg #[.int .i64 1, .string ⟨S.toArray⟩, .string ⟨#[]⟩]) ∧ RowKit.Below w.heap.size w w' := by
  go_enter Tryz.func13, Tryz.ntmps13
  go_wp2
  refine bodyPost_ret (v := .agg #[.int .i64 1, .string ⟨S.toArray⟩, .string ⟨#[]⟩]) (by simp [results, Tryz.results13, go_sem]) rfl ⟨rfl, balloc _ _⟩

theorem mKeepM {W W' : World} {p0 p1 p2 : Addr} {v0 v1 v2 : Value} {base : Nat} {e : TypeId} {sz : Nat} {v : Value} {n : Nat} {cs : List Value}
    (h : W.cell? p0 = some v0 ∧ W.cell? p1 = some v1 ∧ W.cell? p2 = some v2 ∧ W.ownsRow base e sz v n cs) (hb : RowKit.Below W.heap.size W W') : W'.cell? p0 = some v0 ∧ W'.cell? p1 = some v1 ∧ W'.cell? p2 = some v2 ∧ W'.ownsRow base e sz v n cs :=
  ⟨(hb.cell (World.block_lt_of_cell? W _ h.1)).trans h.1, (hb.cell (World.block_lt_of_cell? W _ h.2.1)).trans h.2.1, (hb.cell (World.block_lt_of_cell? W _ h.2.2.1)).trans h.2.2.1, ownsRow_below h.2.2.2 hb⟩

theorem mKeepS {W W' : World} {B : Nat} {p0 p1 p2 : Addr} {v0 v1 v2 : Value} (h : W.cell? p0 = some v0 ∧ W.cell? p1 = some v1 ∧ W.cell? p2 = some v2 ∧ B < W.heap.size) (hb : RowKit.Below W.heap.size W W') : W'.cell? p0 = some v0 ∧ W'.cell? p1 = some v1 ∧ W'.cell? p2 = some v2 ∧ B < W'.heap.size :=
  ⟨(hb.cell (World.block_lt_of_cell? W _ h.1)).trans h.1, (hb.cell (World.block_lt_of_cell? W _ h.2.1)).trans h.2.1, (hb.cell (World.block_lt_of_cell? W _ h.2.2.1)).trans h.2.2.1, Nat.lt_of_lt_of_le h.2.2.2 hb.size⟩
theorem mKeepA {W : World} {B : Nat} {p0 p1 p2 : Addr} {v0 v1 v2 : Value} (h : W.cell? p0 = some v0 ∧ W.cell? p1 = some v1 ∧ W.cell? p2 = some v2 ∧ B < W.heap.size) (o : Obj) : (W.alloc o).cell? p0 = some v0 ∧ (W.alloc o).cell? p1 = some v1 ∧ (W.alloc o).cell? p2 = some v2 ∧ B < (W.alloc o).heap.size := mKeepS h (balloc W o)
theorem mKeepG {W W' : World} {B : Nat} {v0 v1 v2 : Value} {row : Option Nat} (h : W.cell? ⟨B, 0, none⟩ = some v0 ∧ W.cell? ⟨B, 1, none⟩ = some v1 ∧ W.cell? ⟨B, 2, none⟩ = some v2 ∧ B < W.heap.size) (hg : W.grownBy W' row) (hne : row ≠ some B) : W'.cell? ⟨B, 0, none⟩ = some v0 ∧ W'.cell? ⟨B, 1, none⟩ = some v1 ∧ W'.cell? ⟨B, 2, none⟩ = some v2 ∧ B < W'.heap.size :=
  ⟨hg.cell h.1 (Ne.symm hne), hg.cell h.2.1 (Ne.symm hne), hg.cell h.2.2.1 (Ne.symm hne), Nat.lt_of_lt_of_le h.2.2.2 hg.size⟩

set_option maxHeartbeats 4000000 in
set_option maxRecDepth 100000 in
theorem many_any (n : Nat) (w : World) (hn : n ≤ 200) : Calls Tryz.prog 14 #[.int .i64 n] w
    fun e w' => ∃ v, e = .returned v ∧ w'.ownsRow w.heap.size 30 9 v n (cellsT (manyL 115 n)) ∧ RowKit.Below w.heap.size w w' := by
  obtain ⟨i0, hi, hz⟩ := Option.map_eq_some_iff.1 infoTr
  simp only [Prod.mk.injEq] at hz
  obtain ⟨hz0, hz1, hz2⟩ := hz
  have NS := fun W => nameS_any [115] W
  have NP := fun W => nameS_any [112] W
  go_enter Tryz.func14, Tryz.ntmps14
  go_wp2_with fail
  go_loopw [3, 4] (fun v i wr => ∃ k : Nat, k ≤ n ∧ i = .int .i64 k ∧ Hid (wr.ownsRow w.heap.size 30 9 v k (cellsT (manyL 115 k))) ∧ RowKit.Below w.heap.size w wr) (fun _ i wr => n - (intOf i).toNat)
  case atStart => exact ⟨0, Nat.zero_le _, rfl, World.ownsRow_nil _ _ _ _, RowKit.Below.refl _ _⟩
  case round =>
    obtain ⟨k, hk, rfl, hown, hbr⟩ := hrel
    by_cases hlt : k < n
    · have i1 : (k : Int) < (n : Int) := by omega
      have HT := text_any k wr (by omega)
      have hnew : Hid (manyL 115 (k + 1) = manyL 115 k ++ [(nameT 115, nameT 112, textT k)]) := manyL_succ 115 k
      generalize textT k = y at *
      generalize manyL 115 k = t0 at *
      unfold valTmL at HT
      go_wp2_with fail
      refine HT.mono ?_
      rintro e w1 ⟨rfl, hb1⟩
      have hB1 := bstep hbr hb1
      have ho1 := hideT (ownsRow_below hown.out hb1)
      have hz1' := hB1.size
      clear HT hown hb1 hbr
      go_wp2_with fail
      have hne : u3.ownBlock ≠ some w1.heap.size := fun e => by have := (ho1.out.lt _ e).2; omega
      go_region_held3 (fun W => W.cell? ⟨w1.heap.size, 0, none⟩ = some (.int .i64 y.1) ∧ W.cell? ⟨w1.heap.size, 1, none⟩ = some (.string ⟨y.2.1.toArray⟩) ∧ W.cell? ⟨w1.heap.size, 2, none⟩ = some (.string ⟨y.2.2.toArray⟩) ∧ w1.heap.size < W.heap.size)
        (first
          | (refine mKeepG ?_ hgrow hne; assumption)
          | (refine mKeepS ?_ hb3; assumption)
          | (refine mKeepS ?_ hb2; assumption)
          | (refine mKeepA ?_ _; assumption)
          | (refine ⟨?_, ?_, ?_, ?_⟩ <;> first | (go_simp; done) | (simp; done)))
        (first
          | (go_at_call_of 13 (Value.string ⟨#[115]⟩); refine (NS _).mono ?_; rintro e w2 ⟨rfl, hb2⟩)
          | (go_at_call_of 13 (Value.string ⟨#[112]⟩); refine (NP _).mono ?_; rintro e w3 ⟨rfl, hb3⟩)
          | (refine step_append_lies _ (by rfl) _ _ _ (by rfl) w.heap.size 30 i0 _ 9 120 Tryz.underlying22 hi hz0 hz1 hz2 rfl (by omega) u3 k (cellsT t0) (by rfl) ((ownsRow_below (ownsRow_below (ho1.out.alloc _).drew hb2) hb3).alloc _)
              ⟨w3.heap.size, 0, none⟩ 1 1 (encTr (nameT 115, nameT 112, y)) (by rfl) (by rfl) (World.news_of_block (cs := (encTr (nameT 115, nameT 112, y)).toArray) (t := 30) (fr := (0, 0)) (heap_alloc_new w3 _)) (encTr_one _)
              (by omega) (by unfold maxLen; omega) (by omega) (by have h1 := hb2.size; have h2 := hb3.size; simp at h1 h2 ⊢; omega) (w3.heap.size + 1) (by simp) ?_; intro gg cap w4 hown4 hgrow hat hlt4))
      have hB4 : RowKit.Below w.heap.size w w4 := by
        have hb12 := bstep (bstep (bstep hB1 (balloc _ _)).drew hb2) hb3
        exact (bstep hb12 (balloc _ _)).grown hgrow (by have := hb12.size; simp; omega) (fun j hj => (ho1.out.lt j hj).1)
      go_wp2_with fail
      go_roundw
      case rel =>
        refine ⟨k + 1, by omega, by go_num, ?_, hB4⟩
        show World.ownsRow _ _ _ _ _ _ _
        rw [hnew.out]
        simpa [cellsT] using hown4
      case measure => simp [intOf]; omega
    · obtain rfl : k = n := by omega
      go_wp2_with fail
      go_ret
      exact ⟨_, rfl, hown.out, hbr⟩
end Go.Proofs.YtenakehnnmencahGreat
