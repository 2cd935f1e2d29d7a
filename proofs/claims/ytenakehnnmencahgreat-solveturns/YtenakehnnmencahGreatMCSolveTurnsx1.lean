/- stratalaw4.SolveTurns: the walk. -/
import Derived.Test.YtenakehnnmencahGreatMA0x11
import Derived.Test.YtenakehnnmencahGreatMCSolveTurnsx0

namespace Go.Proofs.YtenakehnnmencahGreat
open Go Go.RowKit Go.Proofs Go.Maps
set_option synthInstance.maxSize 1000
attribute [local go_sem] eql_errV neq_errV guard_errV
attribute [local go_sem ↓] neqTerm

theorem hideU {p : Prop} (h : p) : Hid p := h
theorem eqTB_self (x : Tm) : eqTB x.1 x.2.1 x.2.2 x.1 x.2.1 x.2.2 = true := by simp [eqTB]
theorem solveFact (xd vd pd : Option Addr) (xc vc pc : Nat) (w : World) (hx : SlT w xd (manyL 115 3)) (hv : SlW w vd [[111]]) (hp : SlPt w pd [turnP0]) (hc : 1 ≤ vc) :
    Calls Tryz.prog 6 #[.slice xd 3 xc, .agg #[.slice vd 1 vc, .slice pd 1 pc, .string ⟨#[111]⟩, .bool true, .bool false, .int .i64 (-1)]] w fun e w' => RowKit.Below w.heap.size w w' ∧ ∃ ad c, e = .returned (.tuple #[.slice ad 3 c, .nilIface]) ∧ SlR w' ad [[textT 2], [textT 1], [textT 0]] := by
  have := Solve_any xd xc (manyL 115 3) turnQ0 vd pd vc pc w hx (manyS (by omega)).fit (by rw [manyL_len]; omega) ⟨hv, hp⟩ turn0fit hc
  unfold SolveAns at this
  rw [turn0N, turn0L] at this
  exact this
theorem solveTurn (ad vd pd : Option Addr) (ca vc pc : Nat) (l : List Tr) (p : Pt) (v : List UInt8) (d : Bool) (w : World) (h : SlT w ad l) (hfit : ∀ x ∈ l, fitTr x) (hn : l.length ≤ 9223372036854775807) (hp : fitPt p) (hm : v ∈ varsL p) (hv : SlW w vd [v]) (hpd : SlPt w pd [p]) (hc : 1 ≤ vc) :
    Calls Tryz.prog 6 #[.slice ad l.length ca, .agg #[.slice vd 1 vc, .slice pd 1 pc, .string ⟨v.toArray⟩, .bool d, .bool true, .int .i64 (-1)]] w fun e w' => RowKit.Below w.heap.size w w' ∧ ∃ ad c, e = .returned (.tuple #[.slice ad (solveL l (turnQ p v d)).length c, errV (solveN l (turnQ p v d))]) ∧ SlR w' ad (solveL l (turnQ p v d)) :=
  Solve_any ad ca l (turnQ p v d) vd pd vc pc w h hfit hn ⟨hv, hpd⟩ (turn_fit hp hm d) hc

theorem slPt_one {w : World} {b : Nat} {p : Pt} (h : PatAt w b p) : SlPt w (some ⟨b, 0, none⟩) [p] := fun _ => ⟨b, 0, rfl, fun j v hj => by rw [Nat.zero_add]; exact h j v (by simpa [cellsPt] using hj)⟩
theorem slW_one {w : World} {b : Nat} {v : List UInt8} (h : w.cell? ⟨b, 0, none⟩ = some (.string ⟨v.toArray⟩)) : SlW w (some ⟨b, 0, none⟩) [v] := fun _ => ⟨b, 0, rfl, fun j hj => by
  obtain rfl : j = 0 := by simpa using hj
  exact h⟩
theorem turnB6 {W W' : World} {B : Nat} {v0 v1 v2 v3 v4 v5 : Value} (h : W.cell? ⟨B, 0, none⟩ = some v0 ∧ W.cell? ⟨B, 1, none⟩ = some v1 ∧ W.cell? ⟨B, 2, none⟩ = some v2 ∧ W.cell? ⟨B, 3, none⟩ = some v3 ∧ W.cell? ⟨B, 4, none⟩ = some v4 ∧ W.cell? ⟨B, 5, none⟩ = some v5) (hb : RowKit.Below W.heap.size W W') :
    W'.cell? ⟨B, 0, none⟩ = some v0 ∧ W'.cell? ⟨B, 1, none⟩ = some v1 ∧ W'.cell? ⟨B, 2, none⟩ = some v2 ∧ W'.cell? ⟨B, 3, none⟩ = some v3 ∧ W'.cell? ⟨B, 4, none⟩ = some v4 ∧ W'.cell? ⟨B, 5, none⟩ = some v5 :=
  have s : ∀ {a : Addr} {v : Value}, W.cell? a = some v → W'.cell? a = some v := fun c => (hb.cell (World.block_lt_of_cell? W _ c)).trans c
  ⟨s h.1, s h.2.1, s h.2.2.1, s h.2.2.2.1, s h.2.2.2.2.1, s h.2.2.2.2.2⟩
theorem turnB4 {W W' : World} {a0 a1 a2 a3 : Addr} {v0 v1 v2 v3 : Value} (h : W.cell? a0 = some v0 ∧ W.cell? a1 = some v1 ∧ W.cell? a2 = some v2 ∧ W.cell? a3 = some v3) (hb : RowKit.Below W.heap.size W W') :
    W'.cell? a0 = some v0 ∧ W'.cell? a1 = some v1 ∧ W'.cell? a2 = some v2 ∧ W'.cell? a3 = some v3 :=
  have s : ∀ {a : Addr} {v : Value}, W.cell? a = some v → W'.cell? a = some v := fun c => (hb.cell (World.block_lt_of_cell? W _ c)).trans c
  ⟨s h.1, s h.2.1, s h.2.2.1, s h.2.2.2⟩
/-- a block's cells may be written -/
def Wet (W : World) (B n : Nat) : Prop := ∀ j, j < n → W.frozen? ⟨B, j, none⟩ = false
theorem Wet.below {W W' : World} {B n : Nat} (h : Wet W B n) (hl : B < W.heap.size) (hb : RowKit.Below W.heap.size W W') : Wet W' B n := fun j hj => (hb.frozen hl).trans (h j hj)

theorem cell_write {w : World} {a c : Addr} {x : Value} {bo : Bool} (ha : w.cell? a = some (.bool bo)) (hc : w.cell? c = some x) (hx : x ≠ .bool bo) (u : Value) : (w.setCell a u).cell? c = some x := by
  refine (World.cell?_setCell_other w _ _ _ (fun h => ?_)).trans hc
  subst h
  rw [ha] at hc
  injection hc with hc
  exact hx hc.symm
theorem encQ_nb {bo : Bool} {l : List Tm} {j : Nat} {v : Value} (h : (cellsQ l)[j]? = some v) : v ≠ .bool bo := by
  have hm := List.mem_of_getElem? h
  obtain ⟨x, _, hx⟩ := List.mem_flatMap.1 hm
  simp [encQ] at hx
  rcases hx with rfl | rfl | rfl <;> simp
theorem encPt_nb {bo : Bool} {l : List Pt} {j : Nat} {v : Value} (h : (cellsPt l)[j]? = some v) : v ≠ .bool bo := by
  have hm := List.mem_of_getElem? h
  obtain ⟨x, _, hx⟩ := List.mem_flatMap.1 hm
  simp [encPt] at hx
  rcases hx with rfl | rfl | rfl | rfl | rfl | rfl | rfl | rfl | rfl | rfl | rfl | rfl <;> simp
theorem SlR.write {w : World} {ad : Option Addr} {L : List (List Tm)} {a : Addr} {bo : Bool} (h : SlR w ad L) (ha : w.cell? a = some (.bool bo)) (u : Value) : SlR (w.setCell a u) ad L := fun hl => by
  obtain ⟨b, o, e, r⟩ := h hl
  refine ⟨b, o, e, fun j hj => ?_⟩
  obtain ⟨rd, rc, c, s⟩ := r j hj
  refine ⟨rd, rc, cell_write ha c (by simp) u, fun hq => ?_⟩
  obtain ⟨b', o', e', r'⟩ := s hq
  exact ⟨b', o', e', fun j v hv => cell_write ha (r' j v hv) (encQ_nb hv) u⟩
theorem SlW.write {w : World} {ad : Option Addr} {L : List (List UInt8)} {a : Addr} {bo : Bool} (h : SlW w ad L) (ha : w.cell? a = some (.bool bo)) (u : Value) : SlW (w.setCell a u) ad L := fun hl => by
  obtain ⟨b, o, e, r⟩ := h hl
  exact ⟨b, o, e, fun j hj => cell_write ha (r j hj) (by simp [encV]) u⟩
theorem SlPt.write {w : World} {ad : Option Addr} {L : List Pt} {a : Addr} {bo : Bool} (h : SlPt w ad L) (ha : w.cell? a = some (.bool bo)) (u : Value) : SlPt (w.setCell a u) ad L := fun hl => by
  obtain ⟨b, o, e, r⟩ := h hl
  exact ⟨b, o, e, fun j v hv => cell_write ha (r j v hv) (encPt_nb hv) u⟩
theorem turn_500 {l : List Tr} {p : Pt} {v : List UInt8} (h : solveN l (turnQ p v false) = 0) : (solveL l (turnQ p v false)).length ≤ 500 := by
  obtain ⟨vars, rows, ha, e⟩ := turn_rows h
  rw [e]
  refine Nat.le_trans (once_le _ _ (sort_once _ _) fun x hx => sort_mem.1 hx) ?_
  rw [List.length_map]
  exact (answersL_ok ha).2

set_option maxHeartbeats 16000000 in
set_option maxRecDepth 1000000 in
theorem solveTurns_any (ad : Option Addr) (ca : Nat) (l : List Tr) (p : Pt) (w : World) (h : SlT w ad l) (hfit : ∀ x ∈ l, fitTr x) (hn : l.length ≤ 9223372036854775807) (hp : fitPt p) :
    Calls Tryz.prog 4 #[.slice ad l.length ca, valPt p] w fun e w' => e = .returned (.bool true) ∧ RowKit.Below w.heap.size w w' := by
  have HW : Hid (∀ W, RowKit.Below w.heap.size w W → SlT W ad l) := fun W hb => h.below hb
  have NS := fun W => nameS_any [115] W
  have NP := fun W => nameS_any [112] W
  have CM := fun W => many_any 3 W (by omega)
  have CT := fun W => text_any 2 W (by omega)
  have CV := fun W => VarsO_any p W hp
  have HT : Hid (∀ W vd pd vc pc v d, RowKit.Below w.heap.size w W → v ∈ varsL p → SlW W vd [v] → SlPt W pd [p] → 1 ≤ vc → Calls Tryz.prog 6 #[.slice ad l.length ca, .agg #[.slice vd 1 vc, .slice pd 1 pc, .string ⟨v.toArray⟩, .bool d, .bool true, .int .i64 (-1)]] W fun e w' => RowKit.Below W.heap.size W w' ∧ ∃ ad c, e = .returned (.tuple #[.slice ad (solveL l (turnQ p v d)).length c, errV (solveN l (turnQ p v d))]) ∧ SlR w' ad (solveL l (turnQ p v d))) :=
    fun W vd pd vc pc v d hb hm hv hpd hc => solveTurn ad vd pd ca vc pc l p v d W (h.below hb) hfit hn hp hm hv hpd hc
  have hb0 := patBox w p 34
  have Hb0 := hideU hb0
  unfold valPt at CV ⊢
  unfold valTmL at CT
  clear h hfit hn hp hb0
  go_enter Tryz.func4, Tryz.ntmps4
  go_wp2_with fail
  refine (NS _).mono ?_
  rintro e w1 ⟨rfl, hb1⟩
  dsimp only
  go_wp2_with fail
  refine (NP _).mono ?_
  rintro e w2 ⟨rfl, hb2⟩
  have hB1 := bstep (bstep (balloc w _) (balloc _ _)) hb1
  have hB2 := bstep hB1 hb2
  have hP2 := hideU (Hb0.out.below (bstep (bstep (balloc _ _) hb1) hb2))
  have hV2 := hideU (show SlW w2 (some ⟨w.heap.size + 1, 0, none⟩) [[111]] from fun _ => ⟨_, _, rfl, fun j hj => by
    obtain rfl : j = 0 := by simpa using hj
    have c0 : ((w.alloc (.cells (encPt p).toArray 34)).alloc (.cells #[.string ⟨#[111]⟩] 9)).cell? ⟨w.heap.size + 1, 0, none⟩ = some (.string ⟨#[111]⟩) := by go_simp
    exact ((bstep hb1 hb2).cell (World.block_lt_of_cell? _ _ c0)).trans c0⟩)
  dsimp only
  clear NS NP
  go_wp2_with fail
  obtain ⟨W3, hW3⟩ : ∃ W3, W3 = (w2.alloc (.cells #[.string ⟨#[]⟩, .int .i64 1, .string ⟨#[115]⟩, .string ⟨#[]⟩, .string ⟨#[]⟩, .int .i64 1, .string ⟨#[112]⟩, .string ⟨#[]⟩, .string ⟨#[111]⟩, .int .i64 0, .string ⟨#[]⟩, .string ⟨#[]⟩] 34)).alloc (.cells #[.slice (some ⟨w.heap.size + 1, 0, none⟩) 1 1, .slice (some ⟨w2.heap.size, 0, none⟩) 1 1, .string ⟨#[111]⟩, .bool true, .bool false, .int .i64 (-1)] 26) := ⟨_, rfl⟩
  have hb3 : RowKit.Below w2.heap.size w2 W3 := by rw [hW3]; exact bstep (balloc _ _) (balloc _ _)
  have hB3 := bstep hB2 hb3
  have hB2z := hB2.size
  have hP3 := hideU (hP2.out.below hb3)
  have hV3 := hideU (hV2.out.below hb3)
  have hp0 : PatAt (w2.alloc (.cells (encPt turnP0).toArray 34)) w2.heap.size turnP0 := patBox w2 turnP0 34
  have hQ3 := hideU (slPt_one (show PatAt W3 w2.heap.size turnP0 by rw [hW3]; exact hp0.below (balloc _ _)))
  have hz3 : w2.heap.size + 1 < W3.heap.size := by rw [hW3]; simp
  have hx3 : W3.cell? ⟨w2.heap.size + 1, 0, none⟩ = some (.slice (some ⟨w.heap.size + 1, 0, none⟩) 1 1) ∧ W3.cell? ⟨w2.heap.size + 1, 1, none⟩ = some (.slice (some ⟨w2.heap.size, 0, none⟩) 1 1) ∧ W3.cell? ⟨w2.heap.size + 1, 2, none⟩ = some (.string ⟨#[111]⟩) ∧ W3.cell? ⟨w2.heap.size + 1, 3, none⟩ = some (.bool true) ∧ W3.cell? ⟨w2.heap.size + 1, 4, none⟩ = some (.bool false) ∧ W3.cell? ⟨w2.heap.size + 1, 5, none⟩ = some (.int .i64 (-1)) := by
    rw [hW3]; refine ⟨?_, ?_, ?_, ?_, ?_, ?_⟩ <;> go_simp
  have hw3 := hideU (show Wet W3 (w2.heap.size + 1) 6 by
    rw [hW3]
    intro j hj
    rcases (by omega : j = 0 ∨ j = 1 ∨ j = 2 ∨ j = 3 ∨ j = 4 ∨ j = 5) with rfl | rfl | rfl | rfl | rfl | rfl <;> go_simp)
  rw [← hW3]
  clear hW3 hp0 hb1 hb2 hb3 hB1 hB2 hP2 hV2 Hb0
  have hgB : w.heap.size < w2.heap.size + 1 := by have := hB2z; omega
  generalize hn1 : w2.heap.size + 1 = nB at *
  generalize hn2 : w.heap.size + 1 = nV at *
  generalize hn3 : w2.heap.size = nP at *
  clear hn1 hn2 hn3 hB2z
  have Hx3 := hideU hx3
  go_region_held3 (fun W => W.cell? ⟨nB, 0, none⟩ = some (.slice (some ⟨nV, 0, none⟩) 1 1) ∧ W.cell? ⟨nB, 1, none⟩ = some (.slice (some ⟨nP, 0, none⟩) 1 1) ∧ W.cell? ⟨nB, 2, none⟩ = some (.string ⟨#[111]⟩) ∧ W.cell? ⟨nB, 3, none⟩ = some (.bool true) ∧ W.cell? ⟨nB, 4, none⟩ = some (.bool false) ∧ W.cell? ⟨nB, 5, none⟩ = some (.int .i64 (-1)))
    (first
      | exact Hx3.out
      | exact turnB6 Hx3.out (RowKit.Below.refl _ _).drew
      | exact turnB6 (by assumption) hb5
      | exact turnB6 (by assumption) hb4)
    (first
      | (go_at_call 14; refine (CM _).mono ?_; rintro e w4 ⟨v, rfl, hv, hb4⟩; obtain ⟨xd, xc, rfl, hsl⟩ := own_slT (t := manyL 115 3) (by rw [manyL_len]; exact hv); have Hsl := hideU hsl; clear hv hsl)
      | (go_at_call 6; refine (solveFact xd (some ⟨nV, 0, none⟩) (some ⟨nP, 0, none⟩) xc 1 1 _ Hsl.out (hV3.out.below (bstep (RowKit.Below.refl _ _).drew hb4)) (hQ3.out.below (bstep (RowKit.Below.refl _ _).drew hb4)) (Nat.le_refl 1)).mono ?_; rintro e w5 ⟨hb5, yd, yc, rfl, hy⟩; have Hy := hideU hy; clear hy))
  have hb35 : RowKit.Below W3.heap.size W3 w5 := bstep (bstep (RowKit.Below.refl _ _).drew hb4) hb5
  clear hb4 hb5 Hsl CM hV3 hQ3
  obtain ⟨b, o, rd, rc, rfl, c0, hq⟩ := Hy.out.at 0 (by simp)
  obtain ⟨b', o', rfl, d0, d1, d2⟩ := hq.at 0 (by simp)
  dsimp only [List.getElem_cons_zero, List.length_cons, List.length_nil] at c0 d0 d1 d2
  simp only [Nat.zero_mul, Nat.add_zero, Nat.zero_add] at c0 d0 d1 d2
  have tE := eqTB_self (textT 2)
  clear hq Hy hx3
  generalize textT 2 = y at *
  have Hc := hideU (And.intro c0 (And.intro d0 (And.intro d1 d2)))
  go_wp2_with fail
  go_region_held3 (fun W => W.cell? ⟨b, o, none⟩ = some (.slice (some ⟨b', o', none⟩) 1 rc) ∧ W.cell? ⟨b', o', none⟩ = some (.int .i64 y.1) ∧ W.cell? ⟨b', o' + 1, none⟩ = some (.string ⟨y.2.1.toArray⟩) ∧ W.cell? ⟨b', o' + 2, none⟩ = some (.string ⟨y.2.2.toArray⟩))
    (first
      | exact Hc.out
      | exact turnB4 Hc.out (RowKit.Below.refl _ _).drew
      | exact turnB4 (by assumption) hb6)
    (first
      | (go_at_call 15; refine (CT _).mono ?_; rintro e w6 ⟨rfl, hb6⟩))
  have hb36 : RowKit.Below W3.heap.size W3 w6 := bstep (bstep hb35 (RowKit.Below.refl _ _).drew) hb6
  have hB6 := bstep hB3 hb36
  have hP6 := hP3.out.below hb36
  have hP6' := hideU hP6
  obtain ⟨p0, p1, p2, p3, p4, p5, p6, p7, p8, p9, p10, p11⟩ := hP6.all
  have Hx6 := hideU (turnB6 Hx3.out hb36)
  have hw6 := hideU (hw3.out.below hz3 hb36)
  have hz6 : nB < w6.heap.size := Nat.lt_of_lt_of_le hz3 hb36.size
  clear hP6 hP3 hb35 hb6 hb36 Hx3 hw3 hz3 hB3 c0 d0 d1 d2 Hc CT
  go_wp2_with fail
  refine (CV _).mono ?_
  rintro e w7 ⟨hb7, m, md, mc, rfl, hm, hA⟩
  have hB7 := bstep hB6 hb7
  have hP7 := hP6'.out.below hb7
  have Hx7 := hideU (turnB6 Hx6.out hb7)
  have hw7 := hideU (hw6.out.below hz6 hb7)
  have hz7 : nB < w7.heap.size := Nat.lt_of_lt_of_le hz6 hb7.size
  have Hm := hideU hm
  unfold VarsAns at hA
  clear hm p0 p1 p2 p3 p4 p5 p6 p7 p8 p9 p10 p11 hP6' hB6 hb7 Hx6 hw6 CV tE
  dsimp only
  by_cases h0 : varsN p = 0
  · rw [if_pos h0] at hA
    rw [h0, show errV 0 = .nilIface from rfl]
    cases hvl : varsL p with
    | nil =>
      rw [hvl] at hA
      subst hA
      dsimp only [List.length_nil]
      go_wp2_with fail
      go_ret
      exact ⟨rfl, hB7⟩
    | cons v vs =>
      have hm0 : v ∈ varsL p := by rw [hvl]; simp
      rw [hvl] at hA
      subst hA
      obtain ⟨bv, rfl, r0, hcap, hbn⟩ : ∃ bv, md = some ⟨bv, 0, none⟩ ∧ w7.cell? ⟨bv, 0, none⟩ = some (.string ⟨v.toArray⟩) ∧ 1 ≤ mc ∧ nB < bv := by
        obtain ⟨ad', cap', e2, hs⟩ := own_v Hm.out
        injection e2 with e3 _ _
        subst e3
        obtain ⟨bv, rfl, r⟩ := hs (by simp)
        refine ⟨bv, rfl, r 0 (by simp), ?_⟩
        rcases Hm.out.2 with ⟨_, h⟩ | ⟨g, cap, cur, e, hg, _, hle, _⟩
        · simp at h
        · injection e with e3 _ e4
          injection e3 with e3
          injection e3 with e3 _ _
          rw [e4, e3]
          simp at hle
          exact ⟨by omega, by omega⟩
      obtain ⟨k, hk⟩ : ∃ k, k = (v :: vs).length := ⟨_, rfl⟩
      have hk1 : 1 ≤ k := by rw [hk]; simp
      rw [← hk]
      have t1 : ((k : Int) == 0) = false := by simp; omega
      have i1 : (0 : Int) < (k : Int) := by omega
      have l0 : (0 : Int) ≤ 1 := by omega
      have l1 : (1 : Int) ≤ (mc : Int) := by omega
      obtain ⟨p0, p1, p2, p3, p4, p5, p6, p7, p8, p9, p10, p11⟩ := hP7.all
      have hP7' := hideU hP7
      obtain ⟨x0, x1, x2, x3, x4, x5⟩ := Hx7.out
      have f0 := hw7.out 0 (by omega)
      have f1 := hw7.out 1 (by omega)
      have f2 := hw7.out 2 (by omega)
      have f3 := hw7.out 3 (by omega)
      have f4 := hw7.out 4 (by omega)
      have f5 := hw7.out 5 (by omega)
      have hN := turn_N (l := l) h0 hm0
      have hR := hideU (fun h => turn_L (l := l) h0 hm0 h)
      have hL := hideU (fun h => turn_len (l := l) (p := p) (v := v) h)
      have k0 : 0 < k := hk1
      have hbv := World.block_lt_of_cell? w7 _ r0
      have hpw := World.block_lt_of_cell? w7 _ p0
      dsimp only at hbv hpw
      have n0 : bv ≠ w7.heap.size := by omega
      have n1 : nB ≠ w7.heap.size := by omega
      have n2 : w.heap.size ≠ w7.heap.size := by omega
      clear hk Hm hvl h0 hP7
      go_wp2_with fail
      go_region
      have hH := hideU (fun h => turn_500 (l := l) (p := p) (v := v) h)
      obtain ⟨X, hX⟩ : ∃ X, X = (((((w7.setCell ⟨nB, 0, none⟩ (.slice (some ⟨bv, 0, none⟩) 1 mc)).setCell ⟨nB, 1, none⟩ (.slice (some ⟨w7.heap.size, 0, none⟩) 1 1)).setCell ⟨nB, 2, none⟩ (.string ⟨v.toArray⟩)).setCell ⟨nB, 3, none⟩ (.bool false)).setCell ⟨nB, 4, none⟩ (.bool true)).setCell ⟨nB, 5, none⟩ (.int .i64 (-1)) := ⟨_, rfl⟩
      have hXz : X.heap.size = w7.heap.size := by rw [hX]; simp
      have hgB' : w.heap.size ≤ nB := by omega
      have hBX : RowKit.Below w.heap.size w X := by
        rw [hX]
        exact (((((hB7.setCell (p := ⟨nB, 0, none⟩) hgB' _).setCell (p := ⟨nB, 1, none⟩) hgB' _).setCell (p := ⟨nB, 2, none⟩) hgB' _).setCell (p := ⟨nB, 3, none⟩) hgB' _).setCell (p := ⟨nB, 4, none⟩) hgB' _).setCell (p := ⟨nB, 5, none⟩) hgB' _
      have hnv : bv ≠ nB := by omega
      have rX : X.cell? ⟨bv, 0, none⟩ = some (.string ⟨v.toArray⟩) := by rw [hX]; go_simp
      have xX : X.cell? ⟨nB, 0, none⟩ = some (.slice (some ⟨bv, 0, none⟩) 1 mc) ∧ X.cell? ⟨nB, 1, none⟩ = some (.slice (some ⟨w7.heap.size, 0, none⟩) 1 1) ∧ X.cell? ⟨nB, 2, none⟩ = some (.string ⟨v.toArray⟩) ∧ X.cell? ⟨nB, 3, none⟩ = some (.bool false) ∧ X.cell? ⟨nB, 4, none⟩ = some (.bool true) ∧ X.cell? ⟨nB, 5, none⟩ = some (.int .i64 (-1)) := by
        rw [hX]; refine ⟨?_, ?_, ?_, ?_, ?_, ?_⟩ <;> go_simp
      have fX : Wet X nB 6 := by
        rw [hX]
        intro j hj
        simp only [World.frozen?_setCell]
        exact hw7.out j hj
      rw [← hX]
      clear hX x0 x1 x2 x3 x4 x5 f0 f1 f2 f3 f4 f5 r0 p0 p1 p2 p3 p4 p5 p6 p7 p8 p9 p10 p11 Hx7 hw7 hB7 hP7'
      obtain ⟨W8, hW8⟩ : ∃ W8, W8 = (X.alloc (.cells #[.string ⟨p.1.1.toArray⟩, .int .i64 p.1.2.1, .string ⟨p.1.2.2.1.toArray⟩, .string ⟨p.1.2.2.2.toArray⟩, .string ⟨p.2.1.1.toArray⟩, .int .i64 p.2.1.2.1, .string ⟨p.2.1.2.2.1.toArray⟩, .string ⟨p.2.1.2.2.2.toArray⟩, .string ⟨p.2.2.1.toArray⟩, .int .i64 p.2.2.2.1, .string ⟨p.2.2.2.2.1.toArray⟩, .string ⟨p.2.2.2.2.2.toArray⟩] 34)).drew := ⟨_, rfl⟩
      have hb8 : RowKit.Below X.heap.size X W8 := by rw [hW8]; exact (balloc _ _).drew
      have hQ8 : PatAt W8 w7.heap.size p := by
        have hp0 : PatAt (X.alloc (.cells (encPt p).toArray 34)) X.heap.size p := patBox X p 34
        rw [← hXz, hW8]
        exact hp0.below (RowKit.Below.refl _ _).drew
      rw [← hW8]
      clear hW8
      have hB8 := bstep hBX hb8
      have hV8 := hideU (slW_one ((hb8.cell (World.block_lt_of_cell? X _ rX)).trans rX))
      have hQ8' := hideU (slPt_one hQ8)
      have hx8 := turnB6 xX hb8
      have hz8 : nB < X.heap.size := by omega
      have hw8 := hideU (fX.below hz8 hb8)
      have hz8' : nB < W8.heap.size := Nat.lt_of_lt_of_le hz8 hb8.size
      have Hx8 := hideU hx8
      obtain ⟨x0, x1, x2, x3, x4, x5⟩ := hx8
      clear rX xX fX hBX hb8 hQ8 hXz hz8
      generalize w7.heap.size = nQ at *
      go_wp2_with fail
      refine (HT.out W8 _ _ _ _ v false hB8 hm0 hV8.out hQ8'.out hcap).mono ?_
      rintro e w9 ⟨hb9, ud, uc, rfl, hu⟩
      have hB9 := bstep hB8 hb9
      have hx9 := turnB6 Hx8.out hb9
      have f3 := hw8.out.below hz8' hb9 3 (by omega)
      have Hx9 := hideU hx9
      obtain ⟨y0, y1, y2, y3, y4, y5⟩ := hx9
      have hV10 := hideU ((hV8.out.below hb9).write y3 (.bool true))
      have hQ10 := hideU ((hQ8'.out.below hb9).write y3 (.bool true))
      have hu10 := hideU (hu.write y3 (.bool true))
      have hB10 := hB9.setCell (p := ⟨nB, 3, none⟩) hgB' (.bool true)
      clear x0 x1 x2 x3 x4 x5 hb9 hV8 hQ8' hw8 hz8' Hx8 Hx9 hB8 hB9 hu
      dsimp only
      go_wp2_with fail
      refine (HT.out (w9.setCell ⟨nB, 3, none⟩ (.bool true)) _ _ _ _ v true hB10 hm0 hV10.out hQ10.out hcap).mono ?_
      rintro e w11 ⟨hb11, dd, dc, rfl, hd⟩
      have hB11 := bstep hB10 hb11
      have Hu := hideU (hu10.out.below hb11)
      have Hd := hideU hd
      clear hd hu10 hb11 hB10 y0 y1 y2 y3 y4 y5 f3 hV10 hQ10 HT HW
      rw [hN]
      dsimp only
      by_cases hs : solveN l (turnQ p v false) = 0
      · have hR' := hR.out hs
        have hL' := hideU (hL.out hs)
        have hH' := hH.out hs
        rw [hR'] at Hd ⊢
        rw [hs, show errV 0 = .nilIface from rfl, List.length_reverse]
        clear hR hL hH hs hN hR'
        generalize solveL l (turnQ p v false) = U at *
        obtain ⟨n, hn⟩ : ∃ n, n = U.length := ⟨_, rfl⟩
        rw [← hn]
        rw [← hn] at hH'
        have tn : ((n : Int) == (n : Int)) = true := by simp
        go_wp2_with fail
        go_loopw [14] (fun i wr => ∃ k : Nat, k ≤ n ∧ i = .int .i64 k ∧ Hid (RowKit.Below w11.heap.size w11 wr)) (fun i wr => n - (intOf i).toNat)
        case atStart => exact ⟨0, Nat.zero_le _, rfl, RowKit.Below.refl _ _⟩
        case round =>
          obtain ⟨k, hk, rfl, hwr⟩ := hrel
          by_cases hlt : k < n
          · have t2 : decide ((k : Int) < (n : Int)) = true := by simp; omega
            have i2 : (0 : Int) ≤ (k : Int) := by omega
            have i3 : (k : Int) < (n : Int) := by omega
            obtain ⟨j, hj⟩ : ∃ j, j = n - 1 - k := ⟨_, rfl⟩
            have e1 : (n : Int) - 1 - (k : Int) = (j : Int) := by omega
            have j0 : (0 : Int) ≤ (j : Int) := by omega
            have j1 : (j : Int) < (n : Int) := by omega
            have j2 : j < n := by omega
            have hk' : k < U.length := by omega
            have hj' : j < U.reverse.length := by rw [List.length_reverse]; omega
            obtain ⟨b1, o1, rd1, rc1, rfl, c1, q1⟩ := (Hu.out.below hwr.out).at k hk'
            obtain ⟨b2, o2, rd2, rc2, rfl, c2, q2⟩ := (Hd.out.below hwr.out).at j hj'
            have hrev : U.reverse[j]'hj' = U[k]'hk' := by rw [List.getElem_reverse]; congr 1; omega
            rw [hrev] at c2 q2
            obtain ⟨x, hx⟩ : ∃ x, U[k]'hk' = [x] := List.length_eq_one_iff.1 (hL'.out _ (List.getElem_mem _))
            rw [hx] at c1 c2 q1 q2
            obtain ⟨b3, o3, rfl, d0, d1, d2⟩ := q1.at 0 (by simp)
            obtain ⟨b4, o4, rfl, g0, g1, g2⟩ := q2.at 0 (by simp)
            simp only [List.getElem_cons_zero, List.length_cons, List.length_nil, Nat.zero_mul, Nat.add_zero, Nat.zero_add] at c1 c2 d0 d1 d2 g0 g1 g2
            have tE := eqTB_self x
            have c3 : wr.cell? ⟨b2, o2 + (U.length - 1 - k), none⟩ = some (.slice (some ⟨b4, o4, none⟩) 1 rc2) := by rw [show U.length - 1 - k = j by omega]; exact c2
            clear hj hrev hx q1 q2 hj' hk' e1 j0 j1 c2
            go_wp2_with fail
            go_region
            go_wp2_with fail
            go_roundw
            case rel => exact ⟨k + 1, by omega, by go_num, hwr.out.drew⟩
            case measure => simp [intOf]; omega
          · obtain rfl : k = n := by omega
            have t2 : decide ((k : Int) < (k : Int)) = false := by simp
            go_wp2_with fail
            go_ret
            exact ⟨rfl, bstep hB11 hwr.out⟩
      · have e1 : (solveN l (turnQ p v false) == 0) = false := by simpa using hs
        clear hR hL hH hs hN Hu Hd
        generalize solveN l (turnQ p v false) = n at *
        generalize solveL l (turnQ p v false) = U at *
        generalize solveL l (turnQ p v true) = U' at *
        go_wp2_with fail
        go_ret
        exact ⟨rfl, hB11⟩
  · have d1 : (varsN p == 0) = false := by simpa using h0
    clear hA Hm h0
    generalize varsN p = n at *
    go_wp2_with fail
    go_ret
    exact ⟨rfl, hB7⟩
end Go.Proofs.YtenakehnnmencahGreat
