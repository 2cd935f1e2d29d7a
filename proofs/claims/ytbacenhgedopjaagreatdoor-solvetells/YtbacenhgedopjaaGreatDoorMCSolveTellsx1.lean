import Derived.Test.YtbacenhgedopjaaGreatDoorMCSolveTellsx0
import Derived.OwnWalk
import Derived.Test.YtbacenhgedopjaaGreatDoorMA0x4
import Derived.Test.YtbacenhgedopjaaGreatDoorMA0x6
import Derived.Maps.AppendAt
import Derived.Test.YtbacenhgedopjaaGreatDoorRows
import Derived.WalkKit
import Derived.Test.YtbacenhgedopjaaGreatDoorMA0x5
import Derived.Deep.DeepCutAuto
import Derived.Deep.CutBlock

/- The document's Match: those of a set that fit. -/
namespace Go.Proofs.YtbacenhgedopjaaGreatDoor
open Go Go.RowKit Go.Proofs Go.Maps
set_option synthInstance.maxSize 1000

theorem keep21 {W W' : World} {p0 p1 p2 p3 p4 p5 p6 p7 p8 p9 p10 p11 p12 p13 p14 p15 p16 p17 p18 p19 p20 : Addr} {v0 v1 v2 v3 v4 v5 v6 v7 v8 v9 v10 v11 v12 v13 v14 v15 v16 v17 v18 v19 v20 : Value}
    (h : W.cell? p0 = some v0 ∧ W.cell? p1 = some v1 ∧ W.cell? p2 = some v2 ∧ W.cell? p3 = some v3 ∧ W.cell? p4 = some v4 ∧ W.cell? p5 = some v5 ∧ W.cell? p6 = some v6 ∧ W.cell? p7 = some v7 ∧ W.cell? p8 = some v8 ∧ W.cell? p9 = some v9 ∧ W.cell? p10 = some v10 ∧ W.cell? p11 = some v11 ∧ W.cell? p12 = some v12 ∧ W.cell? p13 = some v13 ∧ W.cell? p14 = some v14 ∧ W.cell? p15 = some v15 ∧ W.cell? p16 = some v16 ∧ W.cell? p17 = some v17 ∧ W.cell? p18 = some v18 ∧ W.cell? p19 = some v19 ∧ W.cell? p20 = some v20) (hb : Below W.heap.size W W') :
    W'.cell? p0 = some v0 ∧ W'.cell? p1 = some v1 ∧ W'.cell? p2 = some v2 ∧ W'.cell? p3 = some v3 ∧ W'.cell? p4 = some v4 ∧ W'.cell? p5 = some v5 ∧ W'.cell? p6 = some v6 ∧ W'.cell? p7 = some v7 ∧ W'.cell? p8 = some v8 ∧ W'.cell? p9 = some v9 ∧ W'.cell? p10 = some v10 ∧ W'.cell? p11 = some v11 ∧ W'.cell? p12 = some v12 ∧ W'.cell? p13 = some v13 ∧ W'.cell? p14 = some v14 ∧ W'.cell? p15 = some v15 ∧ W'.cell? p16 = some v16 ∧ W'.cell? p17 = some v17 ∧ W'.cell? p18 = some v18 ∧ W'.cell? p19 = some v19 ∧ W'.cell? p20 = some v20 := by
  have q : ∀ {p : Addr} {v : Value}, W.cell? p = some v → W'.cell? p = some v := fun {p v} hp => (hb.cell (World.block_lt_of_cell? W _ hp)).trans hp
  exact ⟨q h.1, q h.2.1, q h.2.2.1, q h.2.2.2.1, q h.2.2.2.2.1, q h.2.2.2.2.2.1, q h.2.2.2.2.2.2.1, q h.2.2.2.2.2.2.2.1, q h.2.2.2.2.2.2.2.2.1, q h.2.2.2.2.2.2.2.2.2.1, q h.2.2.2.2.2.2.2.2.2.2.1, q h.2.2.2.2.2.2.2.2.2.2.2.1, q h.2.2.2.2.2.2.2.2.2.2.2.2.1, q h.2.2.2.2.2.2.2.2.2.2.2.2.2.1, q h.2.2.2.2.2.2.2.2.2.2.2.2.2.2.1, q h.2.2.2.2.2.2.2.2.2.2.2.2.2.2.2.1, q h.2.2.2.2.2.2.2.2.2.2.2.2.2.2.2.2.1, q h.2.2.2.2.2.2.2.2.2.2.2.2.2.2.2.2.2.1, q h.2.2.2.2.2.2.2.2.2.2.2.2.2.2.2.2.2.2.1, q h.2.2.2.2.2.2.2.2.2.2.2.2.2.2.2.2.2.2.2.1, q h.2.2.2.2.2.2.2.2.2.2.2.2.2.2.2.2.2.2.2.2⟩

set_option maxHeartbeats 8000000 in
set_option maxRecDepth 100000 in
theorem RMatchO_any (ad : Option Addr) (cap : Nat) (l : List Tr) (p : Pt) (w : World) (h : SlT w ad l) (h200 : l.length ≤ 200) :
    Calls Tryz.prog 20 #[.slice ad l.length cap, valPt p] w fun e w' => Below w.heap.size w w' ∧ ∃ v, e = .returned v ∧ w'.ownsRow (w.heap.size + 1) 58 9 v (matchL l p).length (cellsT (matchL l p)) := by
  have HF := fun x W => RFits_any x p W
  have Hl : Hid (SlT w ad l) := h
  obtain ⟨i0, hi, hz⟩ := Option.map_eq_some_iff.1 infoTr
  simp only [Prod.mk.injEq] at hz
  obtain ⟨hz0, hz1, hz2⟩ := hz
  have HPB : Hid (PatAt (w.alloc (.cells (encPt p).toArray 32)) w.heap.size p) := patBox w p 32
  have hW0 := balloc w (.cells (encPt p).toArray 32)
  have Hl0 : Hid (SlT (w.alloc (.cells (encPt p).toArray 32)) ad l) := h.below hW0
  clear h
  have hml : Hid (matchL l p = l.filter (fitsB p)) := rfl
  generalize matchL l p = ML at *
  unfold valPt at HF ⊢
  go_enter Tryz.func20, Tryz.ntmps20
  go_wp2_with fail
  go_loopw [5, 6] (fun v i wr => ∃ k : Nat, k ≤ l.length ∧ i = .int .i64 k ∧ Hid (wr.ownsRow (w.heap.size + 1) 58 9 v ((l.take k).filter (fitsB p)).length (cellsT ((l.take k).filter (fitsB p)))) ∧ Below (w.heap.size + 1) (w.alloc (.cells (encPt p).toArray 32)) wr) (fun _ i wr => l.length - (intOf i).toNat)
  case atStart => exact ⟨0, Nat.zero_le _, rfl, by show World.ownsRow _ _ _ _ _ _ _; rw [List.take_zero]; exact World.ownsRow_nil _ _ _ _, Below.refl _ _⟩
  case round =>
    obtain ⟨k, hk, rfl, hown, hbr0⟩ := hrel
    have hbr : Below (w.alloc (.cells (encPt p).toArray 32)).heap.size (w.alloc (.cells (encPt p).toArray 32)) wr := by simpa using hbr0
    have hzr : w.heap.size + 1 ≤ wr.heap.size := by have := hbr.size; simpa using this
    by_cases hlt : k < l.length
    · obtain ⟨b, o, rfl, hr⟩ := (Hl0.out.below hbr).at k hlt
      obtain ⟨c0, c1, c2, c3, c4, c5, c6, c7, c8⟩ := hr.at k hlt
      obtain ⟨p0, p1, p2, p3, p4, p5, p6, p7, p8, p9, p10, p11⟩ := (HPB.out.below hbr).all
      have i0' : (0 : Int) ≤ (k : Int) := by omega
      have i1 : (k : Int) < (l.length : Int) := by omega
      have hstep : Hid _ := filter_stepM l (fitsB p) k hlt
      have hfil : ((l.take k).filter (fitsB p)).length ≤ k := Nat.le_trans (List.length_filter_le _ _) (by simp; omega)
      have H := fun W => HF l[k] W
      generalize ht : (l.take (k + 1)).filter (fitsB p) = t1 at hstep
      have Ht : Hid _ := ht
      generalize (l.take k).filter (fitsB p) = t0 at *
      generalize l[k] = y at *
      clear hr ht hbr0
      cases hp : fitsB p y
      · rw [hp] at H
        have hs2 : Hid (t1 = t0) := by have := hstep.out; rw [hp] at this; simpa [Hid] using this
        unfold valTr at H
        go_wp2_with fail
        go_region_held3 (fun W => W.cell? ⟨b, o + k * 9, none⟩ = some (.int .i64 y.1.1) ∧ W.cell? ⟨b, o + k * 9 + 1, none⟩ = some (.string ⟨y.1.2.1.toArray⟩) ∧ W.cell? ⟨b, o + k * 9 + 2, none⟩ = some (.string ⟨y.1.2.2.toArray⟩) ∧ W.cell? ⟨b, o + k * 9 + 3, none⟩ = some (.int .i64 y.2.1.1) ∧ W.cell? ⟨b, o + k * 9 + 4, none⟩ = some (.string ⟨y.2.1.2.1.toArray⟩) ∧ W.cell? ⟨b, o + k * 9 + 5, none⟩ = some (.string ⟨y.2.1.2.2.toArray⟩) ∧ W.cell? ⟨b, o + k * 9 + 6, none⟩ = some (.int .i64 y.2.2.1) ∧ W.cell? ⟨b, o + k * 9 + 7, none⟩ = some (.string ⟨y.2.2.2.1.toArray⟩) ∧ W.cell? ⟨b, o + k * 9 + 8, none⟩ = some (.string ⟨y.2.2.2.2.toArray⟩) ∧ W.cell? ⟨w.heap.size, 0, none⟩ = some (.string ⟨p.1.1.toArray⟩) ∧ W.cell? ⟨w.heap.size, 1, none⟩ = some (.int .i64 p.1.2.1) ∧ W.cell? ⟨w.heap.size, 2, none⟩ = some (.string ⟨p.1.2.2.1.toArray⟩) ∧ W.cell? ⟨w.heap.size, 3, none⟩ = some (.string ⟨p.1.2.2.2.toArray⟩) ∧ W.cell? ⟨w.heap.size, 4, none⟩ = some (.string ⟨p.2.1.1.toArray⟩) ∧ W.cell? ⟨w.heap.size, 5, none⟩ = some (.int .i64 p.2.1.2.1) ∧ W.cell? ⟨w.heap.size, 6, none⟩ = some (.string ⟨p.2.1.2.2.1.toArray⟩) ∧ W.cell? ⟨w.heap.size, 7, none⟩ = some (.string ⟨p.2.1.2.2.2.toArray⟩) ∧ W.cell? ⟨w.heap.size, 8, none⟩ = some (.string ⟨p.2.2.1.toArray⟩) ∧ W.cell? ⟨w.heap.size, 9, none⟩ = some (.int .i64 p.2.2.2.1) ∧ W.cell? ⟨w.heap.size, 10, none⟩ = some (.string ⟨p.2.2.2.2.1.toArray⟩) ∧ W.cell? ⟨w.heap.size, 11, none⟩ = some (.string ⟨p.2.2.2.2.2.toArray⟩)) (first | exact keep21 (by assumption) hb4 | go_keep) (first
          | (go_at_call 42; refine (H _).mono ?_; rintro e w4 ⟨rfl, hb4⟩))
        go_wp2_with fail
        go_roundw
        case rel =>
          refine ⟨k + 1, by omega, by go_num, ?_, by have := bstep hbr.drew hb4; simpa using this⟩
          show World.ownsRow _ _ _ _ _ _ _
          rw [Ht.out, hs2.out]
          exact ownsRow_belowV (ownsRow_belowV hown.out (Below.refl _ _).drew) hb4
        case measure => simp [intOf]; omega
      · rw [hp] at H
        have hs2 : Hid (t1 = t0 ++ [y]) := by have := hstep.out; rw [hp] at this; simpa [Hid] using this
        unfold valTr at H
        go_wp2_with fail
        go_region_held3 (fun W => W.cell? ⟨b, o + k * 9, none⟩ = some (.int .i64 y.1.1) ∧ W.cell? ⟨b, o + k * 9 + 1, none⟩ = some (.string ⟨y.1.2.1.toArray⟩) ∧ W.cell? ⟨b, o + k * 9 + 2, none⟩ = some (.string ⟨y.1.2.2.toArray⟩) ∧ W.cell? ⟨b, o + k * 9 + 3, none⟩ = some (.int .i64 y.2.1.1) ∧ W.cell? ⟨b, o + k * 9 + 4, none⟩ = some (.string ⟨y.2.1.2.1.toArray⟩) ∧ W.cell? ⟨b, o + k * 9 + 5, none⟩ = some (.string ⟨y.2.1.2.2.toArray⟩) ∧ W.cell? ⟨b, o + k * 9 + 6, none⟩ = some (.int .i64 y.2.2.1) ∧ W.cell? ⟨b, o + k * 9 + 7, none⟩ = some (.string ⟨y.2.2.2.1.toArray⟩) ∧ W.cell? ⟨b, o + k * 9 + 8, none⟩ = some (.string ⟨y.2.2.2.2.toArray⟩) ∧ W.cell? ⟨w.heap.size, 0, none⟩ = some (.string ⟨p.1.1.toArray⟩) ∧ W.cell? ⟨w.heap.size, 1, none⟩ = some (.int .i64 p.1.2.1) ∧ W.cell? ⟨w.heap.size, 2, none⟩ = some (.string ⟨p.1.2.2.1.toArray⟩) ∧ W.cell? ⟨w.heap.size, 3, none⟩ = some (.string ⟨p.1.2.2.2.toArray⟩) ∧ W.cell? ⟨w.heap.size, 4, none⟩ = some (.string ⟨p.2.1.1.toArray⟩) ∧ W.cell? ⟨w.heap.size, 5, none⟩ = some (.int .i64 p.2.1.2.1) ∧ W.cell? ⟨w.heap.size, 6, none⟩ = some (.string ⟨p.2.1.2.2.1.toArray⟩) ∧ W.cell? ⟨w.heap.size, 7, none⟩ = some (.string ⟨p.2.1.2.2.2.toArray⟩) ∧ W.cell? ⟨w.heap.size, 8, none⟩ = some (.string ⟨p.2.2.1.toArray⟩) ∧ W.cell? ⟨w.heap.size, 9, none⟩ = some (.int .i64 p.2.2.2.1) ∧ W.cell? ⟨w.heap.size, 10, none⟩ = some (.string ⟨p.2.2.2.2.1.toArray⟩) ∧ W.cell? ⟨w.heap.size, 11, none⟩ = some (.string ⟨p.2.2.2.2.2.toArray⟩)) (first | exact keep21 (by assumption) hb4 | go_keep) (first
          | (go_at_call 42; refine (H _).mono ?_; rintro e w4 ⟨rfl, hb4⟩))
        have hB1 := bstep hbr.drew hb4
        have hz1' : w.heap.size + 1 ≤ w4.heap.size := by have := hB1.size; simpa using this
        have hrow1 : Hid (w4.ownsRow (w.heap.size + 1) 58 9 _ t0.length (cellsT t0)) := ownsRow_belowV (ownsRow_belowV hown.out (Below.refl _ _).drew) hb4
        have d0 := (hb4.cell (World.block_lt_of_cell? wr _ c0)).trans c0
        have d1 := (hb4.cell (World.block_lt_of_cell? wr _ c1)).trans c1
        have d2 := (hb4.cell (World.block_lt_of_cell? wr _ c2)).trans c2
        have d3 := (hb4.cell (World.block_lt_of_cell? wr _ c3)).trans c3
        have d4 := (hb4.cell (World.block_lt_of_cell? wr _ c4)).trans c4
        have d5 := (hb4.cell (World.block_lt_of_cell? wr _ c5)).trans c5
        have d6 := (hb4.cell (World.block_lt_of_cell? wr _ c6)).trans c6
        have d7 := (hb4.cell (World.block_lt_of_cell? wr _ c7)).trans c7
        have d8 := (hb4.cell (World.block_lt_of_cell? wr _ c8)).trans c8
        clear c0 c1 c2 c3 c4 c5 c6 c7 c8 p0 p1 p2 p3 p4 p5 p6 p7 p8 p9 p10 p11 hown
        go_wp2_with (at_builtin; refine wpList_append_own _ rfl _ _ 22 rfl (w.heap.size + 1) 58 i0 (.agg (encTr zeroTr).toArray) 9 120 Tryz.underlying22 hi hz0 hz1 hz2 rfl (by decide) _ _ _ rfl (hrow1.out.alloc _) ⟨w4.heap.size, 0, none⟩ 1 1 (encTr y) rfl rfl ?c1 ?c2 ?c3 ?c4 ?c5 ?_)
        case c1 =>
          intro i u hi'
          have h9 : i < 9 := (List.getElem?_eq_some_iff.1 hi').1
          rw [Addr.add_lit]
          rcases (by omega : i = 0 ∨ i = 1 ∨ i = 2 ∨ i = 3 ∨ i = 4 ∨ i = 5 ∨ i = 6 ∨ i = 7 ∨ i = 8) with rfl | rfl | rfl | rfl | rfl | rfl | rfl | rfl | rfl
          all_goals
            simp [encTr] at hi'
            subst hi'
            go_simp
        case c2 => exact encTr_one y
        case c3 => unfold maxLen; omega
        case c4 => omega
        case c5 => simp; omega
        intro v' w9 hown' hgrow _
        have hB1' : Below (w.heap.size + 1) (w.alloc (.cells (encPt p).toArray 32)) w4 := by simpa using hB1
        have hbel := (hB1'.alloc hz1' (.cells (encTr y).toArray 58)).grown hgrow (by simp; omega) (fun k hk => (hrow1.out.lt k hk).1)
        go_wp2_with fail
        go_roundw
        case rel =>
          refine ⟨k + 1, by omega, by go_num, ?_, hbel⟩
          show World.ownsRow _ _ _ _ _ _ _
          rw [Ht.out, hs2.out]
          simpa [cellsT] using hown'
        case measure => simp [intOf]; omega
    · obtain rfl : k = l.length := by omega
      have hown' := hown.out
      rw [List.take_length, ← hml.out] at hown'
      obtain ⟨ad', cap', rfl, hsl⟩ := own_slM3 hown'
      have Hsl : Hid (wr.ownsRow (w.heap.size + 1) 58 9 (.slice ad' ML.length cap') ML.length (cellsT ML)) := hown'
      clear hown' hown hsl
      go_wp2_with fail
      go_ret
      exact ⟨hW0.trans (hbr.mono (by simp)), _, rfl, Hsl.out⟩
theorem RMatch_any (ad : Option Addr) (cap : Nat) (l : List Tr) (p : Pt) (w : World) (h : SlT w ad l) (h200 : l.length ≤ 200) :
    Calls Tryz.prog 20 #[.slice ad l.length cap, valPt p] w fun e w' => Below w.heap.size w w' ∧ ∃ ad' cap', e = .returned (.slice ad' (matchL l p).length cap') ∧ SlT w' ad' (matchL l p) :=
  (RMatchO_any ad cap l p w h h200).mono fun e w' ⟨hb, v, he, ho⟩ => by
    obtain ⟨ad', cap', rfl, hs⟩ := own_slM3 ho
    exact ⟨hb, ad', cap', he, hs⟩
end Go.Proofs.YtbacenhgedopjaaGreatDoor

/- Appends to a row of terms, and to a row of such rows, of one's own. -/
namespace Go.Proofs.YtbacenhgedopjaaGreatDoor
open Go Go.RowKit Go.Proofs Go.Maps
set_option synthInstance.maxSize 1000

theorem append_emptyQ {W : World} {base : Nat} {v : Value} {t : List Tm} (h : W.ownsRow base 28 3 v t.length (cellsQ t)) (ad : Option Addr) (c : Nat) (ty : TypeId) : (Builtin.append_ #[33, 33] ty #[v, .slice ad 0 c]).run Tryz.prog W = .ok v W := by
  obtain ⟨i, hi, hz⟩ := Option.map_eq_some_iff.1 infoQ
  have hf : (Builtin.firstCells i.size 0 (.slice ad 0 c)).run Tryz.prog W = .ok #[] W := by
    cases ad with
    | none => exact run_firstCells_none W _ _ _ _
    | some a => exact run_firstCells_some (P := Tryz.prog) W i.size 0 a 0 c [] (by simp) (by simp)
  rcases h.2 with ⟨rfl, h0⟩ | ⟨g, cc, cur, rfl, _, _, hle, _⟩
  · simp [Builtin.append_, run_underlying Tryz.underlying33, sizeOf, typeInfo, hi, Builtin.lenOf, hf]
  · simp [Builtin.append_, run_underlying Tryz.underlying33, sizeOf, typeInfo, hi, Builtin.lenOf, hf, hle, storeCells]
/-- an append of a list of terms to a row of one's own: just that row turns -/
theorem wpList_append_termsQ {ops : Array Oper} {rest : List Oper} {o : Oper} {a : Act} {Q : Exit → Act → World → Prop} (w : World) (hgd : o.guard = none) (s x : Operand)
    (ho : o.op = .call { callee := .builtin .append, args := #[s, x], argTypes := #[33, 33] })
    (base : Nat) (v : Value) (t l : List Tm) (ad : Option Addr) (c : Nat) (hs : a.eval s = v) (hx : a.eval x = .slice ad l.length c) (hown : w.ownsRow base 28 3 v t.length (cellsQ t)) (hl : SlQ w ad l)
    (h63 : t.length + l.length ≤ 1000000) (hbase : base ≤ w.heap.size)
    (h : ∀ v' w', w'.ownsRow base 28 3 v' (t ++ l).length (cellsQ (t ++ l)) → w.grownBy w' v.ownBlock → (v'.ownBlock = v.ownBlock ∨ v'.ownBlock = some w.heap.size) → wpList Tryz.prog ops Q rest (a.put o.dst v') w') : wpList Tryz.prog ops Q (o :: rest) a w := by
  obtain ⟨i0, hi, hz⟩ := Option.map_eq_some_iff.1 infoQ
  simp only [Prod.mk.injEq] at hz
  obtain ⟨hz0, hz1, hz2⟩ := hz
  cases l with
  | nil =>
    refine Lib.wpList_append_run w hgd s x _ _ ho v _ hs hx v w (append_emptyQ hown ad c _) (h v w ?_ (World.grownBy.refl _ _) (Or.inl rfl))
    simpa using hown
  | cons y r =>
    obtain ⟨b, off, rfl, hr⟩ := hl (by simp)
    refine wpList_append_own_at w hgd s x _ ho base 28 i0 (.agg (encQ tmZero).toArray) 3 40 Tryz.underlying33 hi hz0 hz1 hz2 rfl (by decide) v t.length (cellsQ t) hs hown ⟨b, off, none⟩ (y :: r).length c (cellsQ (y :: r)) hx (cellsQ_len _) ?_ ?_ (by unfold maxLen; omega) (by omega) hbase ?_
    · intro j u hj
      rw [Addr.add_lit]
      exact hr j u hj
    · intro u hu
      obtain ⟨z, _, hz⟩ := List.mem_flatMap.1 hu
      exact encQ_one z u hz
    · intro v' w' h2 h3 _ h5
      refine h v' w' ?_ h3 h5
      rw [List.length_append, cellsQ_app]
      exact h2
theorem infoR : (Tryz.prog.info? 33).map (fun i => (i.zero, i.size, i.bytes)) = some (some (.slice none 0 0), 1, 24) := by kernel_rfl
/-- an append of a row to a row of rows -/
theorem wpList_append_rowQ {ops : Array Oper} {rest : List Oper} {o : Oper} {a : Act} {Q : Exit → Act → World → Prop} (w : World) (hgd : o.guard = none) (s x : Operand)
    (ho : o.op = .call { callee := .builtin .append, args := #[s, x], argTypes := #[36, 36] })
    (base B : Nat) (v : Value) (n : Nat) (vs : List Value) (u : Value) (hs : a.eval s = v) (hx : a.eval x = .slice (some ⟨B, 0, none⟩) 1 1) (hown : w.ownsRow base 33 1 v n vs)
    (hy : w.cell? ⟨B, 0, none⟩ = some u) (hone : u.oneCell' = true) (h63 : n ≤ 1000000) (hbase : base ≤ w.heap.size)
    (h : ∀ v' w', w'.ownsRow base 33 1 v' (n + 1) (vs ++ [u]) → w.grownBy w' v.ownBlock → (v'.ownBlock = v.ownBlock ∨ v'.ownBlock = some w.heap.size) → wpList Tryz.prog ops Q rest (a.put o.dst v') w') : wpList Tryz.prog ops Q (o :: rest) a w := by
  obtain ⟨i0, hi, hz⟩ := Option.map_eq_some_iff.1 infoR
  simp only [Prod.mk.injEq] at hz
  obtain ⟨hz0, hz1, hz2⟩ := hz
  refine wpList_append_own_at _ hgd s x _ ho base 33 i0 (.slice none 0 0) 1 24 Tryz.underlying36 hi hz0 hz1 hz2 rfl (by decide) v n vs hs hown ⟨B, 0, none⟩ 1 1 [u] hx rfl ?_ (fun z hz => by simp at hz; subst hz; exact hone) (by unfold maxLen; omega) (by omega) hbase ?_
  · intro j z hj
    have h1 : j < 1 := (List.getElem?_eq_some_iff.1 hj).1
    obtain rfl : j = 0 := by omega
    simp at hj
    subst hj
    rw [Addr.add_lit]
    exact hy
  · intro v' w' h2 h3 _ h5
    exact h v' w' h2 h3 h5
end Go.Proofs.YtbacenhgedopjaaGreatDoor

/- A law's code, in pieces. -/
namespace Go.Proofs.YtbacenhgedopjaaGreatDoor
open Go Go.Proofs

/-- the first region of a piece of code, and the piece that begins with one -/
def leftmost : Code → Option Nat
  | .region n _ _ => some n
  | .seq a _ => leftmost a
  | .block _ c => leftmost c
  | .loop c => leftmost c
  | .scope c => leftmost c
  | _ => none
def findAt (n : Nat) : Code → Option Code
  | .region m o b => if m = n then some (.region m o b) else none
  | .seq a b => if leftmost a = some n then some (.seq a b) else match findAt n a with
    | some c => some c
    | none => findAt n b
  | .block m c => if leftmost c = some n then some (.block m c) else findAt n c
  | .loop c => if leftmost c = some n then some (.loop c) else findAt n c
  | .scope c => if leftmost c = some n then some (.scope c) else findAt n c
  | .cond _ a b => match findAt n a with
    | some c => some c
    | none => findAt n b
  | _ => none
def codeOf (b : Option Code) (n : Nat) : Code := ((b.bind (findAt n)).getD .skip)
/-- a region alone -/
def regAt (n : Nat) : Code → Option Code
  | .region m o b => if m = n then some (.region m o b) else none
  | .seq a b => match regAt n a with
    | some c => some c
    | none => regAt n b
  | .block _ c => regAt n c
  | .loop c => regAt n c
  | .scope c => regAt n c
  | .cond _ a b => match regAt n a with
    | some c => some c
    | none => regAt n b
  | _ => none
def regOf (b : Option Code) (n : Nat) : Code := ((b.bind (regAt n)).getD .skip)
theorem go_on {P : Program} {c : Code} {Q0 : Exit → Act → World → Prop} {K : Act → World → Prop} {a : Act} {w : World} (h : ∀ a w, Code.wp P c Q0 a w → K a w) (hc : Code.wp P c Q0 a w) : K a w := h a w hc
end Go.Proofs.YtbacenhgedopjaaGreatDoor

/- The document's Answers: a row made longer by what is new, and laid behind the others. -/
namespace Go.Proofs.YtbacenhgedopjaaGreatDoor
open Go Go.RowKit Go.Proofs Go.Maps
set_option synthInstance.maxSize 1000
attribute [local go_sem ↓] eqlStr

theorem hideA {p : Prop} (h : p) : Hid p := h
theorem trip_part {W : World} {xb : Nat} {y : Tr} (h : TripAt W xb y) {g : Nat} (hg : g < 3) : W.cell? ⟨xb, g * 3, none⟩ = some (.int .i64 (partK y g).1) ∧ W.cell? ⟨xb, g * 3 + 1, none⟩ = some (.string ⟨(partK y g).2.1.toArray⟩) ∧ W.cell? ⟨xb, g * 3 + 2, none⟩ = some (.string ⟨(partK y g).2.2.toArray⟩) := by
  rcases (by omega : g = 0 ∨ g = 1 ∨ g = 2) with rfl | rfl | rfl
  all_goals exact ⟨h _ _ rfl, h _ _ rfl, h _ _ rfl⟩
theorem pat_slot {W : World} {sb : Nat} {p : Pt} (h : PatAt W sb p) {g : Nat} (hg : g < 3) : W.cell? ⟨sb, g * 4, none⟩ = some (.string ⟨(slotV p g).toArray⟩) := by
  rcases (by omega : g = 0 ∨ g = 1 ∨ g = 2) with rfl | rfl | rfl
  all_goals exact h _ _ rfl
/-- a row that is being made: of its own, and a triple's and a pattern's boxes beside it -/
structure PickSt (W1 wk : World) (rv : Value) (xb sb : Nat) (y : Tr) (p : Pt) (row : List Tm) : Prop where
  own : wk.ownsRow W1.heap.size 28 3 rv row.length (cellsQ row)
  bel : RowKit.Below W1.heap.size W1 wk
  nx : rv.ownBlock ≠ some xb
  ns : rv.ownBlock ≠ some sb
  tx : TripAt wk xb y
  sx : PatAt wk sb p
theorem PickSt.below {W1 wk W' : World} {rv : Value} {xb sb : Nat} {y : Tr} {p : Pt} {row : List Tm} (h : PickSt W1 wk rv xb sb y p row) (hb : RowKit.Below wk.heap.size wk W') : PickSt W1 W' rv xb sb y p row :=
  ⟨ownsRow_belowV h.own hb, bstep h.bel hb, h.nx, h.ns, h.tx.below hb, h.sx.below hb⟩
theorem PickSt.push {W1 wk w4 : World} {rv rv' : Value} {xb sb : Nat} {y : Tr} {p : Pt} {row : List Tm} {t : Tm} (h : PickSt W1 wk rv xb sb y p row) (hv : w4.ownsRow W1.heap.size 28 3 rv' (row ++ [t]).length (cellsQ (row ++ [t]))) (hg : wk.grownBy w4 rv.ownBlock) (ho : rv'.ownBlock = rv.ownBlock ∨ rv'.ownBlock = some wk.heap.size) : PickSt W1 w4 rv' xb sb y p (row ++ [t]) := by
  have lx : xb < wk.heap.size := World.block_lt_of_cell? _ _ (h.tx 0 _ rfl)
  have ls : sb < wk.heap.size := h.sx.lt
  have k : ∀ b, b < wk.heap.size → rv.ownBlock ≠ some b → ∀ j, w4.cell? ⟨b, j, none⟩ = wk.cell? ⟨b, j, none⟩ := fun b hb hn j => World.cell?_of_block (w := wk) (hg.block b hb (fun e => hn e.symm))
  refine ⟨hv, h.bel.grown hg h.bel.size (fun g hg => (h.own.lt g hg).1), ?_, ?_, fun j v hj => (k xb lx h.nx j).trans (h.tx j v hj), fun j v hj => (k sb ls h.ns j).trans (h.sx j v hj)⟩
  · rcases ho with e | e
    · rw [e]; exact h.nx
    · rw [e]; intro e2; have := Option.some.inj e2; omega
  · rcases ho with e | e
    · rw [e]; exact h.ns
    · rw [e]; intro e2; have := Option.some.inj e2; omega
theorem slQ_one {W : World} {b : Nat} {x : Tm} (h0 : W.cell? ⟨b, 0, none⟩ = some (.int .i64 x.1)) (h1 : W.cell? ⟨b, 1, none⟩ = some (.string ⟨x.2.1.toArray⟩)) (h2 : W.cell? ⟨b, 2, none⟩ = some (.string ⟨x.2.2.toArray⟩)) : SlQ W (some ⟨b, 0, none⟩) [x] := fun _ => ⟨b, 0, rfl, fun j v hj => by
  rw [Nat.zero_add]
  have h3 : j < 3 := by have := (List.getElem?_eq_some_iff.1 hj).1; rw [cellsQ_len] at this; simpa using this
  rcases (by omega : j = 0 ∨ j = 1 ∨ j = 2) with rfl | rfl | rfl
  all_goals
    simp [cellsQ, encQ] at hj
    subst hj
    assumption⟩

set_option maxHeartbeats 16000000 in
set_option maxRecDepth 1000000 in
theorem ansPick (Q0 : Exit → Act → World → Prop) (u0 u1 u2 u3 u4 u5 u6 u7 u8 u9 u10 u11 u12 u14 u15 u17 u18 u19 u20 u21 u25 u26 u27 u28 u29 u30 u31 u32 u33 u34 u35 u36 u37 u38 u39 u40 u41 u42 u43 u44 u45 u46 u47 u48 u49 u50 u51 u52 u53 u54 u55 u56 u57 u58 u59 u60 u61 u62 u63 u64 u65 u66 u67 u68 u69 u70 u71 u72 u73 u74 u75 u76 u77 u78 u79 u80 u81 u82 u83 u84 u85 u86 u87 u88 u89 u90 u91 u92 u93 u94 u95 u96 u97 u98 u99 u100 u101 u102 u103 u104 u105 u106 u107 u108 u109 u110 u111 u112 u113 u114 u115 u116 u117 u118 u119 u120 u121 u122 u123 u124 u125 u126 u127 u128 u129 u130 u131 u132 u133 u134 u135 u136 u137 u138 u139 u140 u141 u142 u143 u144 nx rv : Value) (fd : Option Addr) (fc xb sb B mn : Nat) (mv : Value) (mcs us : List Value) (vars fresh : List (List UInt8)) (L : List (List Tm)) (r : List Tm) (y : Tr) (p : Pt) (W1 W : World)
    (hB : B ≤ W1.heap.size) (HN : OwnR W1 B nx L us) (Hm : W1.ownsRow B 58 9 mv mn mcs) (hst : PickSt W1 W rv xb sb y p r) (hfs : SlW W1 fd fresh) (hfr : fresh = freshV vars p) (h3 : fresh.length ≤ 3) (hr : r.length ≤ 100) (hL : L.length ≤ 1000)
    (hQ : ∀ (x22 x25 x26 x104 x105 x106 x107 x108 x109 x110 x111 x112 x113 x114 x115 x116 x117 x118 x119 x120 x121 x122 x123 x124 x125 x126 x127 x128 x129 x130 x131 x132 x133 x134 nx' u : Value) (W' : World), OwnR W' B nx' (L ++ [extR vars p r y]) (us ++ [u]) → W'.ownsRow B 58 9 mv mn mcs → RowKit.Below B W1 W' → Q0 .normal ⟨#[u0, u1, u2, u3, u4, u5, u6, u7, u8, u9, u10, u11, u12, nx', u14, u15, .slice fd fresh.length fc, u17, u18, u19, u20, u21, x22, .slice (some ⟨xb, 0, none⟩) 3 3, .slice (some ⟨sb, 0, none⟩) 3 3, x25, x26, u27, u28, u29, u30, u31, u32, u33, u34, u35, u36, u37, u38, u39, u40, u41, u42, u43, u44, u45, u46, u47, u48, u49, u50, u51, u52, u53, u54, u55, u56, u57, u58, u59, u60, u61, u62, u63, u64, u65, u66, u67, u68, u69, u70, u71, u72, u73, u74, u75, u76, u77, u78, u79, u80, u81, u82, u83, u84, u85, u86, u87, u88, u89, u90, u91, u92, u93, u94, u95, u96, u97, u98, u99, u100, u101, u102, u103, x104, x105, x106, x107, x108, x109, x110, x111, x112, x113, x114, x115, x116, x117, x118, x119, x120, x121, x122, x123, x124, x125, x126, x127, x128, x129, x130, x131, x132, x133, x134, u135, u136, u137, u138, u139, u140, u141, u142, u143, u144], []⟩ W') :
    Code.wp Tryz.prog (codeOf Tryz.f6.body 29) Q0 ⟨#[u0, u1, u2, u3, u4, u5, u6, u7, u8, u9, u10, u11, u12, nx, u14, u15, .slice fd fresh.length fc, u17, u18, u19, u20, u21, rv, .slice (some ⟨xb, 0, none⟩) 3 3, .slice (some ⟨sb, 0, none⟩) 3 3, u25, u26, u27, u28, u29, u30, u31, u32, u33, u34, u35, u36, u37, u38, u39, u40, u41, u42, u43, u44, u45, u46, u47, u48, u49, u50, u51, u52, u53, u54, u55, u56, u57, u58, u59, u60, u61, u62, u63, u64, u65, u66, u67, u68, u69, u70, u71, u72, u73, u74, u75, u76, u77, u78, u79, u80, u81, u82, u83, u84, u85, u86, u87, u88, u89, u90, u91, u92, u93, u94, u95, u96, u97, u98, u99, u100, u101, u102, u103, u104, u105, u106, u107, u108, u109, u110, u111, u112, u113, u114, u115, u116, u117, u118, u119, u120, u121, u122, u123, u124, u125, u126, u127, u128, u129, u130, u131, u132, u133, u134, u135, u136, u137, u138, u139, u140, u141, u142, u143, u144], []⟩ W := by
  have HQ := hideA hQ
  have HN1 := hideA HN
  have Hm1 := hideA Hm
  have Hst := hideA hst
  have Hfs := hideA hfs
  have Hfr := hideA hfr
  clear hQ HN Hm hst hfs hfr
  conv => arg 2; whnf
  dsimp only
  go_upto_block 8 with fail
  go_cut [22, 25, 26] from 104 to 130 (fun v _ _ W' => Hid (PickSt W1 W' v xb sb y p (extR vars p r y)))
  case first =>
    go_wp2_with fail
    go_loopw [22, 25, 26] (fun v ii _ wk => ∃ f : Nat, f ≤ fresh.length ∧ ii = .int .i64 f ∧ Hid (PickSt W1 wk v xb sb y p (rowK p y r fresh f))) (fun _ ii _ wk => fresh.length - (intOf ii).toNat)
    case atStart => exact ⟨0, Nat.zero_le _, rfl, by show PickSt _ _ _ _ _ _ _ _; rw [rowK_zero]; exact Hst.out⟩
    case round =>
      obtain ⟨f, hf, rfl, hst⟩ := hrel
      by_cases hlt : f < fresh.length
      · have t1 : decide ((f : Int) < (fresh.length : Int)) = true := by simp; omega
        obtain ⟨fb, fo, rfl, hfc⟩ := (Hfs.out.below hst.out.bel).at f hlt
        have Hfc := hideA hfc
        have f0 : (0 : Int) ≤ (f : Int) := by omega
        have f1 : (f : Int) < (fresh.length : Int) := by omega
        have Hnx := hideA (rowK_next (p := p) (t := y) (r := r) hlt)
        have hmem : fresh[f] ∈ freshV vars p := by rw [← Hfr.out]; exact List.getElem_mem hlt
        have Hfound := hideA (pick_found hmem)
        have hlen := rowK_len p y r fresh f
        generalize hr1 : rowK p y r fresh (f + 1) = row1 at *
        have Hr1 := hideA hr1
        clear hr1
        generalize rowK p y r fresh f = row0 at *
        generalize fresh[f] = vf at *
        clear hfc hmem
        generalize fresh.length = nf at *
        go_wp2_with fail
        go_loopw [22, 26] (fun v gg wk => ∃ g : Nat, g ≤ 3 ∧ gg = .int .i64 g ∧ Hid (PickSt W1 wk v xb sb y p row0) ∧ Hid (∀ j, j < g → slotV p j ≠ vf) ∧ Hid (RowKit.Below wr.heap.size wr wk)) (fun _ gg wk => 3 - (intOf gg).toNat)
        case atStart => exact ⟨0, by omega, rfl, hst, fun j hj => absurd hj (Nat.not_lt_zero j), RowKit.Below.refl _ _⟩
        case round =>
          obtain ⟨g, hg, rfl, hs2, hno, hbg⟩ := hrel
          by_cases hg3 : g < 3
          · have t2 : decide ((g : Int) < 3) = true := by simp; omega
            have t2' : decide (g < 3) = true := by simp; omega
            have g0 : (0 : Int) ≤ (g : Int) := by omega
            have g1 : (g : Int) < 3 := by omega
            have c0 := pat_slot hs2.out.sx hg3
            have c1 := (hbg.out.cell (World.block_lt_of_cell? _ _ Hfc.out)).trans Hfc.out
            by_cases he : slotV p g = vf
            · have Hpk := hideA (pick_first (t := y) hg3 he hno.out)
              have te : (slotV p g == vf) = true := by simpa using he
              generalize slotV p g = sv at *
              go_wp2_with fail
              go_region
              have hsA := hideA (fun o => hs2.out.below ((balloc wr o).drew))
              obtain ⟨k0, k1, k2⟩ := trip_part hs2.out.tx hg3
              have Hrow := hideA (show row1 = row0 ++ [partK y g] by rw [Hnx.out, Hpk.out])
              have hzz := hs2.out.bel.size
              clear c0 c1 Hpk Hnx
              generalize partK y g = tt at *
              go_wp2_with (at_builtin; refine wpList_append_termsQ _ rfl _ _ rfl W1.heap.size _ row0 [tt] (some ⟨wr.heap.size, 0, none⟩) 1 rfl rfl (hsA.out _).own (slQ_one (by go_simp) (by go_simp) (by go_simp)) (by simp; omega) (by simp; omega) ?_; intro v' w4 hv4 hg4 hat4)
              have hst4 := hideA (show PickSt W1 w4 v' xb sb y p row1 by rw [Hrow.out]; exact (hsA.out _).push hv4 hg4 hat4)
              clear hv4 hg4 hat4 k0 k1 k2
              go_wp2_with fail
              go_roundw
              case rel => exact ⟨f + 1, by omega, by go_num, by show PickSt _ _ _ _ _ _ _ _; rw [Hr1.out]; exact hst4.out⟩
              case measure => simp [intOf]; omega
            · have te : (slotV p g == vf) = false := by simpa using he
              have Hno2 := hideA (show ∀ j, j < g + 1 → slotV p j ≠ vf from fun j hj => by
                by_cases hj2 : j < g
                · exact hno.out j hj2
                · obtain rfl : j = g := by omega
                  exact he)
              generalize slotV p g = sv at c0 te
              go_wp2_with fail
              go_region
              go_wp2_with fail
              go_roundw
              case rel => first | exact ⟨g + 1, by omega, by go_num, hs2.out.below (RowKit.Below.refl _ _).drew, Hno2, bstep hbg.out (RowKit.Below.refl _ _).drew⟩ | ((repeat apply Exists.intro); refine ⟨⟨g + 1, by omega, ?_, hs2.out.below (RowKit.Below.refl _ _).drew, Hno2, bstep hbg.out (RowKit.Below.refl _ _).drew⟩, rfl⟩; go_num)
              case measure => simp [intOf]; omega
          · exfalso
            exact Hfound.out fun j hj => hno.out j (by omega)
      · have t1 : decide ((f : Int) < (fresh.length : Int)) = false := by simp; omega
        have hfe : Hid (rowK p y r fresh f = extR vars p r y) := by
          show _ = _
          have : f = fresh.length := by omega
          rw [this, Hfr.out]
          exact rowK_all vars p y r
        go_wp2_with fail
        go_meet
        case rel => show PickSt _ _ _ _ _ _ _ _; rw [← hfe.out]; exact hst.out
  case rest =>
    have hst := hcut
    obtain ⟨rd, rc, rfl, hsl⟩ := own_slQ hst.out.own
    have hsA := hideA (fun o => hst.out.below (balloc wc o))
    have hzz := hst.out.bel.size
    clear hsl
    go_wp2_with (at_builtin; refine wpList_append_rowQ _ rfl _ _ rfl B wc.heap.size nx L.length us (.slice rd (extR vars p r y).length rc) rfl rfl ((HN1.out.below (hsA.out _).bel).row) (by go_simp) rfl (by omega) (by have := (hsA.out (.cells #[] 0)).bel.size; simp at this ⊢; omega) ?_; intro v' w4 hv4 hg4 hat4)
    have hA := hsA.out (.cells #[.slice rd (extR vars p r y).length rc] 33)
    have hN0 := HN1.out.below hA.bel
    have hN := OwnR.push (r := extR vars p r y) hN0 (own_mono hA.own hB) (by rw [List.length_append]; exact hv4) hg4
    have hM := (ownsRow_belowV Hm1.out hA.bel).kept hg4 (own_types hN0.row (ownsRow_belowV Hm1.out hA.bel) (by decide))
    have hBl : RowKit.Below B W1 w4 := (hA.bel.mono hB).grown hg4 (Nat.le_trans hB hA.bel.size) (fun g hg => (hN0.row.lt g hg).1)
    exact HQ.out _ _ _ _ _ _ _ _ _ _ _ _ _ _ _ _ _ _ _ _ _ _ _ _ _ _ _ _ _ _ _ _ _ _ v' _ w4 hN hM hBl
end Go.Proofs.YtbacenhgedopjaaGreatDoor

/- The document's Answers: of one row and one triple that matches, the row that comes of both. -/
namespace Go.Proofs.YtbacenhgedopjaaGreatDoor
open Go Go.RowKit Go.Proofs Go.Maps
set_option synthInstance.maxSize 1000

theorem RSlotsN_any (p : Pt) (w : World) : Calls Tryz.prog 22 #[valPt p] w fun e w' => ∃ b, e = .returned (.slice (some ⟨b, 0, none⟩) 3 3) ∧ PatAt w' b p ∧ RowKit.Below w.heap.size w w' ∧ w.heap.size ≤ b := by
  have HB : PatAt ((w.alloc (.cells (encPt p).toArray 32)).alloc (.cells (encPt p).toArray 30)) (w.heap.size + 1) p := by
    have := patBox (w.alloc (.cells (encPt p).toArray 32)) p 30
    simpa using this
  unfold valPt
  go_enter Tryz.func22, Tryz.ntmps22
  go_wp2_with fail
  go_ret
  exact ⟨_, rfl, HB, bstep (balloc _ _) (balloc _ _), Nat.le_succ _⟩
theorem RThreeN_any (t : Tr) (w : World) : Calls Tryz.prog 21 #[valTr t] w fun e w' => ∃ b, e = .returned (.slice (some ⟨b, 0, none⟩) 3 3) ∧ TripAt w' b t ∧ RowKit.Below w.heap.size w w' ∧ w.heap.size ≤ b := by
  have HB : TripAt ((w.alloc (.cells (encTr t).toArray 58)).alloc (.cells (encTr t).toArray 28)) (w.heap.size + 1) t := by
    have := tripBox (w.alloc (.cells (encTr t).toArray 58)) t 28
    simpa using this
  unfold valTr
  go_enter Tryz.func21, Tryz.ntmps21
  go_wp2_with fail
  go_ret
  exact ⟨_, rfl, HB, bstep (balloc _ _) (balloc _ _), Nat.le_succ _⟩
theorem wrapA (k : Nat) (h : k ≤ 1000000) : wrap64 ((k : Int) + 1) = ((k + 1 : Nat) : Int) := by unfold wrap64; omega
theorem cell_bA {W W' : World} {a : Addr} {v : Value} (h : W.cell? a = some v) (hb : RowKit.Below W.heap.size W W') : W'.cell? a = some v := (hb.cell (World.block_lt_of_cell? _ _ h)).trans h

set_option maxHeartbeats 16000000 in
set_option maxRecDepth 1000000 in
theorem ansRow (Q0 : Exit → Act → World → Prop) (u0 u1 u2 u3 u4 u5 u6 u7 u8 u10 u11 u14 u15 u17 u18 u22 u23 u24 u25 u26 u27 u28 u29 u30 u31 u32 u33 u34 u35 u36 u37 u38 u39 u40 u41 u42 u43 u44 u45 u46 u47 u48 u49 u50 u51 u52 u53 u54 u55 u56 u57 u58 u59 u60 u61 u62 u63 u64 u65 u66 u67 u68 u69 u70 u71 u72 u73 u74 u75 u76 u77 u78 u79 u80 u81 u82 u83 u84 u85 u86 u87 u88 u89 u90 u91 u92 u93 u94 u95 u96 u97 u98 u99 u100 u101 u102 u103 u104 u105 u106 u107 u108 u109 u110 u111 u112 u113 u114 u115 u116 u117 u118 u119 u120 u121 u122 u123 u124 u125 u126 u127 u128 u129 u130 u131 u132 u133 u134 u135 u136 u137 u138 u139 u140 u141 u142 u143 u144 nx : Value) (fd rd : Option Addr) (fc rc rb ro nr yc pb mb mo nm mc j k B mn : Nat) (mv : Value) (mcs us : List Value) (vars fresh : List (List UInt8)) (L : List (List Tm)) (r : List Tm) (y : Tr) (p : Pt) (W : World)
    (hB : B ≤ W.heap.size) (HN : OwnR W B nx L us) (Hm : W.ownsRow B 58 9 mv mn mcs) (hcr : W.cell? ⟨rb, ro + j, none⟩ = some (.slice rd r.length rc)) (hsr : SlQ W rd r) (hy : W.cell? ⟨mb, mo + k * 9, none⟩ = some (.int .i64 y.1.1) ∧ W.cell? ⟨mb, mo + k * 9 + 1, none⟩ = some (.string ⟨y.1.2.1.toArray⟩) ∧ W.cell? ⟨mb, mo + k * 9 + 2, none⟩ = some (.string ⟨y.1.2.2.toArray⟩) ∧ W.cell? ⟨mb, mo + k * 9 + 3, none⟩ = some (.int .i64 y.2.1.1) ∧ W.cell? ⟨mb, mo + k * 9 + 4, none⟩ = some (.string ⟨y.2.1.2.1.toArray⟩) ∧ W.cell? ⟨mb, mo + k * 9 + 5, none⟩ = some (.string ⟨y.2.1.2.2.toArray⟩) ∧ W.cell? ⟨mb, mo + k * 9 + 6, none⟩ = some (.int .i64 y.2.2.1) ∧ W.cell? ⟨mb, mo + k * 9 + 7, none⟩ = some (.string ⟨y.2.2.2.1.toArray⟩) ∧ W.cell? ⟨mb, mo + k * 9 + 8, none⟩ = some (.string ⟨y.2.2.2.2.toArray⟩)) (hp : PatAt W pb p) (hfs : SlW W fd fresh) (hfr : fresh = freshV vars p) (h3 : fresh.length ≤ 3) (hr : r.length ≤ 90) (hL : L.length ≤ 1000) (hj : j < nr) (hk : k < nm) (hk6 : k ≤ 1000000)
    (hQ : ∀ (x22 x23 x24 x25 x26 x89 x90 x91 x92 x93 x94 x95 x96 x97 x98 x99 x100 x101 x102 x103 x104 x105 x106 x107 x108 x109 x110 x111 x112 x113 x114 x115 x116 x117 x118 x119 x120 x121 x122 x123 x124 x125 x126 x127 x128 x129 x130 x131 x132 x133 x134 nx' u : Value) (W' : World), OwnR W' B nx' (L ++ [extR vars p r y]) (us ++ [u]) → W'.ownsRow B 58 9 mv mn mcs → RowKit.Below B W W' → Q0 .normal ⟨#[u0, u1, u2, u3, u4, u5, u6, u7, u8, .slice (some ⟨rb, ro, none⟩) nr yc, u10, u11, .pointer (some ⟨pb, 0, none⟩), nx', u14, u15, .slice fd fresh.length fc, u17, u18, .int .i64 (j : Int), .slice (some ⟨mb, mo, none⟩) nm mc, .int .i64 ((k + 1 : Nat) : Int), x22, x23, x24, x25, x26, u27, u28, u29, u30, u31, u32, u33, u34, u35, u36, u37, u38, u39, u40, u41, u42, u43, u44, u45, u46, u47, u48, u49, u50, u51, u52, u53, u54, u55, u56, u57, u58, u59, u60, u61, u62, u63, u64, u65, u66, u67, u68, u69, u70, u71, u72, u73, u74, u75, u76, u77, u78, u79, u80, u81, u82, u83, u84, u85, u86, u87, u88, x89, x90, x91, x92, x93, x94, x95, x96, x97, x98, x99, x100, x101, x102, x103, x104, x105, x106, x107, x108, x109, x110, x111, x112, x113, x114, x115, x116, x117, x118, x119, x120, x121, x122, x123, x124, x125, x126, x127, x128, x129, x130, x131, x132, x133, x134, u135, u136, u137, u138, u139, u140, u141, u142, u143, u144], []⟩ W') :
    Code.wp Tryz.prog (codeOf Tryz.f6.body 25) Q0 ⟨#[u0, u1, u2, u3, u4, u5, u6, u7, u8, .slice (some ⟨rb, ro, none⟩) nr yc, u10, u11, .pointer (some ⟨pb, 0, none⟩), nx, u14, u15, .slice fd fresh.length fc, u17, u18, .int .i64 (j : Int), .slice (some ⟨mb, mo, none⟩) nm mc, .int .i64 (k : Int), u22, u23, u24, u25, u26, u27, u28, u29, u30, u31, u32, u33, u34, u35, u36, u37, u38, u39, u40, u41, u42, u43, u44, u45, u46, u47, u48, u49, u50, u51, u52, u53, u54, u55, u56, u57, u58, u59, u60, u61, u62, u63, u64, u65, u66, u67, u68, u69, u70, u71, u72, u73, u74, u75, u76, u77, u78, u79, u80, u81, u82, u83, u84, u85, u86, u87, u88, u89, u90, u91, u92, u93, u94, u95, u96, u97, u98, u99, u100, u101, u102, u103, u104, u105, u106, u107, u108, u109, u110, u111, u112, u113, u114, u115, u116, u117, u118, u119, u120, u121, u122, u123, u124, u125, u126, u127, u128, u129, u130, u131, u132, u133, u134, u135, u136, u137, u138, u139, u140, u141, u142, u143, u144], []⟩ W := by
  have HQ := hideA hQ
  have HN1 := hideA HN
  have Hm1 := hideA Hm
  have Hfs := hideA hfs
  have Hfr := hideA hfr
  have Hp := hideA hp
  have Hy := hideA hy
  have Hsr := hideA hsr
  have j0 : (0 : Int) ≤ (j : Int) := by omega
  have j1 : (j : Int) < (nr : Int) := by omega
  have k0 : (0 : Int) ≤ (k : Int) := by omega
  have k1 : (k : Int) < (nm : Int) := by omega
  clear hQ HN Hm hfs hfr hp hy hsr
  conv => arg 2; whnf
  dsimp only
  go_upto_region 27 with (at_builtin; refine wpList_append_termsQ _ rfl _ _ rfl W.heap.size _ [] r rd rc rfl rfl (World.ownsRow_nil _ _ _ _) Hsr.out (by simp; omega) (Nat.le_refl _) ?_; intro v4 w4 hv4 hg4 hat4)
  have hb4 : RowKit.Below W.heap.size W w4 := (RowKit.Below.refl _ W).grown hg4 (Nat.le_refl _) (fun g hg => by cases hg)
  rw [List.nil_append] at hv4
  obtain ⟨b0, b1, b2, b3, b4, b5, b6, b7, b8⟩ := Hy.out
  have c0 := cell_bA b0 hb4
  have c1 := cell_bA b1 hb4
  have c2 := cell_bA b2 hb4
  have c3 := cell_bA b3 hb4
  have c4 := cell_bA b4 hb4
  have c5 := cell_bA b5 hb4
  have c6 := cell_bA b6 hb4
  have c7 := cell_bA b7 hb4
  have c8 := cell_bA b8 hb4
  have HT := RThreeN_any y w4
  have Hv4 := hideA hv4
  have Hb4 := hideA hb4
  clear b0 b1 b2 b3 b4 b5 b6 b7 b8 hv4 hg4 hat4 hb4 hcr
  unfold valTr at HT
  go_wp2_with fail
  refine HT.mono ?_
  rintro e w5 ⟨xb, rfl, htx, hb5, hxb⟩
  have Htx := hideA htx
  have Hb5 := hideA (bstep Hb4.out hb5)
  have Hv5 := hideA (ownsRow_belowV Hv4.out hb5)
  have hvx : v4.ownBlock ≠ some xb := fun e => by have := (Hv4.out.lt _ e).2; omega
  obtain ⟨p0, p1, p2, p3, p4, p5, p6, p7, p8, p9, p10, p11⟩ := (Hp.out.below Hb5.out).all
  have HSl := RSlotsN_any p w5
  have hz5 := hb5.size
  clear HT htx hb5 c0 c1 c2 c3 c4 c5 c6 c7 c8 Hb4
  unfold valPt at HSl
  dsimp only
  go_upto_region 28 with fail
  go_cut [24] from 102 to 103 (fun v W' => ∃ sb, v = .slice (some ⟨sb, 0, none⟩) 3 3 ∧ Hid (PatAt W' sb p) ∧ Hid (RowKit.Below w5.heap.size w5 W') ∧ w5.heap.size ≤ sb)
  case first =>
    go_wp2_with fail
    refine HSl.mono ?_
    rintro e w6 ⟨sb, rfl, hsx, hb6, hsb⟩
    have Hsx := hideA hsx
    have Hb6 := hideA hb6
    clear hsx hb6 HSl p0 p1 p2 p3 p4 p5 p6 p7 p8 p9 p10 p11
    dsimp only
    go_wp2_with fail
    go_meet
    case rel => exact ⟨sb, rfl, Hsx, Hb6, hsb⟩
  case rest =>
    obtain ⟨sb, rfl, hsx, hb6, hsb⟩ := hcut
    have hvs : v4.ownBlock ≠ some sb := fun e => by have := (Hv4.out.lt _ e).2; omega
    have hst : PickSt W wc v4 xb sb y p r := ⟨ownsRow_belowV Hv5.out hb6.out, bstep Hb5.out hb6.out, hvx, hvs, Htx.out.below hb6.out, hsx.out⟩
    refine go_on (by assumption) ?_
    refine ansPick _ _ _ _ _ _ _ _ _ _ _ _ _ _ _ _ _ _ _ _ _ _ _ _ _ _ _ _ _ _ _ _ _ _ _ _ _ _ _ _ _ _ _ _ _ _ _ _ _ _ _ _ _ _ _ _ _ _ _ _ _ _ _ _ _ _ _ _ _ _ _ _ _ _ _ _ _ _ _ _ _ _ _ _ _ _ _ _ _ _ _ _ _ _ _ _ _ _ _ _ _ _ _ _ _ _ _ _ _ _ _ _ _ _ _ _ _ _ _ _ _ _ _ _ _ _ _ _ _ _ _ _ _ _ _ _ _ _ _ _ _ nx v4 fd fc xb sb B mn mv mcs us vars fresh L r y p W wc hB HN1.out Hm1.out hst Hfs.out Hfr.out h3 (by omega) hL ?_
    intros
    rename_i nx' u W' h1 h2 h3
    go_wp2_with fail
    exact HQ.out _ _ _ _ _ _ _ _ _ _ _ _ _ _ _ _ _ _ _ _ _ _ _ _ _ _ _ _ _ _ _ _ _ _ _ _ _ _ _ _ _ _ _ _ _ _ _ _ _ _ _ nx' u W' h1 h2 h3
end Go.Proofs.YtbacenhgedopjaaGreatDoor
