/- The document's answer (package strataref1): shape, Triple, Order, Set. -/
import Derived.Test.YtnlcfnpcjkcdmacGreatDoorRefTerm
import Derived.Test.YtnlcfnpcjkcdmacGreatDoorTripleSort
import Derived.Deep.RegionHeld3
namespace Go.Proofs.YtnlcfnpcjkcdmacGreatDoor
open Go Go.RowKit Go.Proofs
set_option synthInstance.maxSize 1000

set_option maxHeartbeats 1000000 in
theorem RShape_any (x : Tr) (w : World) : Calls Tryz.prog 64 #[valTr x] w fun e w' => e = .returned (.bool (!shapeB x.1.1 x.2.1.1)) ∧ RowKit.Below w.heap.size w w' := by
  have fin2 : Hid (shapeB x.1.1 x.2.1.1 = ((x.1.1 == 3) || !(x.2.1.1 == 1))) := rfl
  unfold valTr
  cases h3 : (x.1.1 == 3)
  · cases h1 : (x.2.1.1 == 1)
    all_goals
      have h3' : (x.1.1 != 3) = true := by simp [bne, h3]
      go_enter Tryz.func64, Tryz.ntmps64
      go_wp2_with fail
      go_ret
      exact ⟨ret_bool (by rw [fin2.out, h3]; simp [h1]), balloc _ _⟩
  · have h3' : (x.1.1 != 3) = false := by simp [bne, h3]
    go_enter Tryz.func64, Tryz.ntmps64
    go_wp2_with fail
    go_ret
    exact ⟨ret_bool (by rw [fin2.out, h3]; rfl), balloc _ _⟩

set_option maxHeartbeats 4000000 in
set_option maxRecDepth 100000 in
theorem RTriple_any (x : Tr) (w : World) (hx : fitTr x) : Calls Tryz.prog 37 #[valTr x] w fun e w' => e = .returned (.int .i64 (chkTr x)) ∧ RowKit.Below w.heap.size w w' := by
  have H1 := fun W => RTerm_any x.1.1 x.1.2.1 x.1.2.2 W hx.1.1 hx.1.2
  have H2 := fun W => RTerm_any x.2.1.1 x.2.1.2.1 x.2.1.2.2 W hx.2.1.1 hx.2.1.2
  have H3 := fun W => RTerm_any x.2.2.1 x.2.2.2.1 x.2.2.2.2 W hx.2.2.1 hx.2.2.2
  have HS := fun W => RShape_any x W
  have fin : Hid (chkTr x = if checkN x.1.1 x.1.2.1 x.1.2.2 = 0 then (if checkN x.2.1.1 x.2.1.2.1 x.2.1.2.2 = 0 then (if checkN x.2.2.1 x.2.2.2.1 x.2.2.2.2 = 0 then (if shapeB x.1.1 x.2.1.1 = true then 3 else 0) else checkN x.2.2.1 x.2.2.2.1 x.2.2.2.2) else checkN x.2.1.1 x.2.1.2.1 x.2.1.2.2) else checkN x.1.1 x.1.2.1 x.1.2.2) := rfl
  generalize chkTr x = N at *
  generalize checkN x.1.1 x.1.2.1 x.1.2.2 = c1 at *
  generalize checkN x.2.1.1 x.2.1.2.1 x.2.1.2.2 = c2 at *
  generalize checkN x.2.2.1 x.2.2.2.1 x.2.2.2.2 = c3 at *
  generalize shapeB x.1.1 x.2.1.1 = sh at *
  clear hx
  unfold valTr at HS ⊢
  cases h1 : (c1 == 0)
  · have fin1 : Hid (N = c1) := by have h : ¬ c1 = 0 := by simpa using h1
                                   rw [fin.out, if_neg h]; rfl
    go_enter Tryz.func37, Tryz.ntmps37
    go_wp2_with fail
    refine (H1 _).mono ?_
    rintro e w1 ⟨rfl, hb1⟩
    obtain ⟨a0, a1, a2, b0, b1, b2, d0, d1, d2, hzz⟩ := ninebox hb1
    go_wp2_with fail
    refine (HS _).mono ?_
    rintro e w2 ⟨rfl, hb2⟩
    go_wp2_with fail
    go_ret
    exact ⟨ret_i64 fin1.out.symm, bstep (bstep (balloc _ _) hb1) hb2⟩
  · have e1 : c1 = 0 := by simpa using h1
    cases h2 : (c2 == 0)
    · have fin1 : Hid (N = c2) := by have h : ¬ c2 = 0 := by simpa using h2
                                     rw [fin.out, if_pos e1, if_neg h]; rfl
      clear e1
      go_enter Tryz.func37, Tryz.ntmps37
      go_wp2_with fail
      refine (H1 _).mono ?_
      rintro e w1 ⟨rfl, hb1⟩
      obtain ⟨a0, a1, a2, b0, b1, b2, d0, d1, d2, hzz⟩ := ninebox hb1
      go_wp2_with fail
      refine (H2 _).mono ?_
      rintro e w2 ⟨rfl, hb2⟩
      have hB := bstep hb1 hb2
      clear a0 a1 a2 b0 b1 b2 d0 d1 d2 hzz
      obtain ⟨a0, a1, a2, b0, b1, b2, d0, d1, d2, hzz⟩ := ninebox hB
      go_wp2_with fail
      refine (HS _).mono ?_
      rintro e w3 ⟨rfl, hb3⟩
      go_wp2_with fail
      go_ret
      exact ⟨ret_i64 fin1.out.symm, bstep (bstep (balloc _ _) hB) hb3⟩
    · have e2 : c2 = 0 := by simpa using h2
      have fin3 : Hid (N = if c3 = 0 then (if sh = true then 3 else 0) else c3) := by rw [fin.out, if_pos e1, if_pos e2]; rfl
      clear fin e1 e2
      cases h3 : (c3 == 0)
      · have fin1 : Hid (N = c3) := by have h : ¬ c3 = 0 := by simpa using h3
                                       rw [fin3.out, if_neg h]; rfl
        go_enter Tryz.func37, Tryz.ntmps37
        go_wp2_with fail
        refine (H1 _).mono ?_
        rintro e w1 ⟨rfl, hb1⟩
        obtain ⟨a0, a1, a2, b0, b1, b2, d0, d1, d2, hzz⟩ := ninebox hb1
        go_wp2_with fail
        refine (H2 _).mono ?_
        rintro e w2 ⟨rfl, hb2⟩
        have hB := bstep hb1 hb2
        clear a0 a1 a2 b0 b1 b2 d0 d1 d2 hzz
        obtain ⟨a0, a1, a2, b0, b1, b2, d0, d1, d2, hzz⟩ := ninebox hB
        go_wp2_with fail
        refine (H3 _).mono ?_
        rintro e w3 ⟨rfl, hb3⟩
        have hB3 := bstep hB hb3
        clear a0 a1 a2 b0 b1 b2 d0 d1 d2 hzz
        obtain ⟨a0, a1, a2, b0, b1, b2, d0, d1, d2, hzz⟩ := ninebox hB3
        go_wp2_with fail
        refine (HS _).mono ?_
        rintro e w4 ⟨rfl, hb4⟩
        go_wp2_with fail
        go_ret
        exact ⟨ret_i64 fin1.out.symm, bstep (bstep (balloc _ _) hB3) hb4⟩
      · have fin1 : Hid (N = if sh = true then 3 else 0) := by have h : c3 = 0 := by simpa using h3
                                                               rw [fin3.out, if_pos h]; rfl
        have e3 : c3 = 0 := by simpa using h3
        subst e3
        cases sh
        all_goals
          go_enter Tryz.func37, Tryz.ntmps37
          go_wp2_with fail
          refine (H1 _).mono ?_
          rintro e w1 ⟨rfl, hb1⟩
          obtain ⟨a0, a1, a2, b0, b1, b2, d0, d1, d2, hzz⟩ := ninebox hb1
          go_wp2_with fail
          refine (H2 _).mono ?_
          rintro e w2 ⟨rfl, hb2⟩
          have hB := bstep hb1 hb2
          clear a0 a1 a2 b0 b1 b2 d0 d1 d2 hzz
          obtain ⟨a0, a1, a2, b0, b1, b2, d0, d1, d2, hzz⟩ := ninebox hB
          go_wp2_with fail
          refine (H3 _).mono ?_
          rintro e w3 ⟨rfl, hb3⟩
          have hB3 := bstep hB hb3
          clear a0 a1 a2 b0 b1 b2 d0 d1 d2 hzz
          obtain ⟨a0, a1, a2, b0, b1, b2, d0, d1, d2, hzz⟩ := ninebox hB3
          go_wp2_with fail
          refine (HS _).mono ?_
          rintro e w4 ⟨rfl, hb4⟩
          go_wp2_with fail
          go_ret
          exact ⟨ret_i64 (by rw [fin1.out]; rfl), bstep (bstep (balloc _ _) hB3) hb4⟩

/-- two boxes of nine cells, behind calls -/
theorem ninebox2 {w W : World} {T : TypeId} {o : Obj} {a0 a1 a2 b0 b1 b2 c0 c1 c2 : Value}
    (hb : Below ((w.alloc (.cells #[a0, a1, a2, b0, b1, b2, c0, c1, c2] T)).alloc o).heap.size ((w.alloc (.cells #[a0, a1, a2, b0, b1, b2, c0, c1, c2] T)).alloc o) W) :
    W.cell? ⟨w.heap.size, 0, none⟩ = some a0 ∧ W.cell? ⟨w.heap.size, 1, none⟩ = some a1 ∧ W.cell? ⟨w.heap.size, 2, none⟩ = some a2 ∧ W.cell? ⟨w.heap.size, 3, none⟩ = some b0 ∧ W.cell? ⟨w.heap.size, 4, none⟩ = some b1 ∧ W.cell? ⟨w.heap.size, 5, none⟩ = some b2 ∧ W.cell? ⟨w.heap.size, 6, none⟩ = some c0 ∧ W.cell? ⟨w.heap.size, 7, none⟩ = some c1 ∧ W.cell? ⟨w.heap.size, 8, none⟩ = some c2 ∧ w.heap.size < W.heap.size :=
  ninebox (bstep (balloc _ _) hb)
theorem ninebox2' {w W : World} {T : TypeId} {o : Obj} {a0 a1 a2 b0 b1 b2 c0 c1 c2 : Value}
    (hb : Below ((w.alloc o).alloc (.cells #[a0, a1, a2, b0, b1, b2, c0, c1, c2] T)).heap.size ((w.alloc o).alloc (.cells #[a0, a1, a2, b0, b1, b2, c0, c1, c2] T)) W) :
    W.cell? ⟨w.heap.size + 1, 0, none⟩ = some a0 ∧ W.cell? ⟨w.heap.size + 1, 1, none⟩ = some a1 ∧ W.cell? ⟨w.heap.size + 1, 2, none⟩ = some a2 ∧ W.cell? ⟨w.heap.size + 1, 3, none⟩ = some b0 ∧ W.cell? ⟨w.heap.size + 1, 4, none⟩ = some b1 ∧ W.cell? ⟨w.heap.size + 1, 5, none⟩ = some b2 ∧ W.cell? ⟨w.heap.size + 1, 6, none⟩ = some c0 ∧ W.cell? ⟨w.heap.size + 1, 7, none⟩ = some c1 ∧ W.cell? ⟨w.heap.size + 1, 8, none⟩ = some c2 ∧ w.heap.size + 1 < W.heap.size := by
  have := ninebox hb
  rw [World.size_alloc] at this
  exact this

set_option maxHeartbeats 4000000 in
set_option maxRecDepth 100000 in
theorem ROrder_any (x y : Tr) (w : World) : Calls Tryz.prog 38 #[valTr x, valTr y] w fun e w' => e = .returned (.int .i64 (cmpTr x y)) ∧ RowKit.Below w.heap.size w w' := by
  have H1 := fun W => RCompare_any x.1.1 x.1.2.1 x.1.2.2 y.1.1 y.1.2.1 y.1.2.2 W
  have H2 := fun W => RCompare_any x.2.1.1 x.2.1.2.1 x.2.1.2.2 y.2.1.1 y.2.1.2.1 y.2.1.2.2 W
  have H3 := fun W => RCompare_any x.2.2.1 x.2.2.2.1 x.2.2.2.2 y.2.2.1 y.2.2.2.1 y.2.2.2.2 W
  have fin : Hid (cmpTr x y = orI (cmpT x.1.1 x.1.2.1 x.1.2.2 y.1.1 y.1.2.1 y.1.2.2) (cmpT x.2.1.1 x.2.1.2.1 x.2.1.2.2 y.2.1.1 y.2.1.2.1 y.2.1.2.2) (cmpT x.2.2.1 x.2.2.2.1 x.2.2.2.2 y.2.2.1 y.2.2.2.1 y.2.2.2.2)) := rfl
  generalize cmpTr x y = N at *
  generalize cmpT x.1.1 x.1.2.1 x.1.2.2 y.1.1 y.1.2.1 y.1.2.2 = c1 at *
  generalize cmpT x.2.1.1 x.2.1.2.1 x.2.1.2.2 y.2.1.1 y.2.1.2.1 y.2.1.2.2 = c2 at *
  generalize cmpT x.2.2.1 x.2.2.2.1 x.2.2.2.2 y.2.2.1 y.2.2.2.1 y.2.2.2.2 = c3 at *
  unfold valTr
  cases h1 : (c1 == 0)
  · have fin1 : Hid (N = c1) := by have h : ¬ c1 = 0 := by simpa using h1
                                   rw [fin.out]; unfold orI; rw [if_neg h]; rfl
    go_enter Tryz.func38, Tryz.ntmps38
    go_wp2_with fail
    refine (H1 _).mono ?_
    rintro e w1 ⟨rfl, hb1⟩
    go_wp2_with fail
    go_ret
    exact ⟨ret_i64 fin1.out.symm, bstep (bstep (balloc _ _) (balloc _ _)) hb1⟩
  · have e1 : c1 = 0 := by simpa using h1
    cases h2 : (c2 == 0)
    · have fin1 : Hid (N = c2) := by have h : ¬ c2 = 0 := by simpa using h2
                                     rw [fin.out]; unfold orI; rw [if_pos e1, if_neg h]; rfl
      clear e1
      go_enter Tryz.func38, Tryz.ntmps38
      go_wp2_with fail
      refine (H1 _).mono ?_
      rintro e w1 ⟨rfl, hb1⟩
      obtain ⟨a0, a1, a2, b0, b1, b2, d0, d1, d2, hzz⟩ := ninebox2 hb1
      obtain ⟨a0', a1', a2', b0', b1', b2', d0', d1', d2', hzz'⟩ := ninebox2' hb1
      go_wp2_with fail
      refine (H2 _).mono ?_
      rintro e w2 ⟨rfl, hb2⟩
      go_wp2_with fail
      go_ret
      exact ⟨ret_i64 fin1.out.symm, bstep (bstep (bstep (balloc _ _) (balloc _ _)) hb1) hb2⟩
    · have e2 : c2 = 0 := by simpa using h2
      have fin1 : Hid (N = c3) := by rw [fin.out]; unfold orI; rw [if_pos e1, if_pos e2]; rfl
      clear e1 e2
      go_enter Tryz.func38, Tryz.ntmps38
      go_wp2_with fail
      refine (H1 _).mono ?_
      rintro e w1 ⟨rfl, hb1⟩
      obtain ⟨a0, a1, a2, b0, b1, b2, d0, d1, d2, hzz⟩ := ninebox2 hb1
      obtain ⟨a0', a1', a2', b0', b1', b2', d0', d1', d2', hzz'⟩ := ninebox2' hb1
      go_wp2_with fail
      refine (H2 _).mono ?_
      rintro e w2 ⟨rfl, hb2⟩
      have hB := bstep hb1 hb2
      clear a0 a1 a2 b0 b1 b2 d0 d1 d2 hzz a0' a1' a2' b0' b1' b2' d0' d1' d2' hzz'
      obtain ⟨a0, a1, a2, b0, b1, b2, d0, d1, d2, hzz⟩ := ninebox2 hB
      obtain ⟨a0', a1', a2', b0', b1', b2', d0', d1', d2', hzz'⟩ := ninebox2' hB
      go_wp2_with fail
      refine (H3 _).mono ?_
      rintro e w3 ⟨rfl, hb3⟩
      go_wp2_with fail
      go_ret
      exact ⟨ret_i64 fin1.out.symm, bstep (bstep (bstep (balloc _ _) (balloc _ _)) hB) hb3⟩

/-- eighteen cells, behind a call that turned nothing old -/
theorem keep18b {W W' : World} {p0 p1 p2 p3 p4 p5 p6 p7 p8 p9 p10 p11 p12 p13 p14 p15 p16 p17 : Addr} {v0 v1 v2 v3 v4 v5 v6 v7 v8 v9 v10 v11 v12 v13 v14 v15 v16 v17 : Value}
    (h : W.cell? p0 = some v0 ∧ W.cell? p1 = some v1 ∧ W.cell? p2 = some v2 ∧ W.cell? p3 = some v3 ∧ W.cell? p4 = some v4 ∧ W.cell? p5 = some v5 ∧ W.cell? p6 = some v6 ∧ W.cell? p7 = some v7 ∧ W.cell? p8 = some v8 ∧ W.cell? p9 = some v9 ∧ W.cell? p10 = some v10 ∧ W.cell? p11 = some v11 ∧ W.cell? p12 = some v12 ∧ W.cell? p13 = some v13 ∧ W.cell? p14 = some v14 ∧ W.cell? p15 = some v15 ∧ W.cell? p16 = some v16 ∧ W.cell? p17 = some v17) (hb : RowKit.Below W.heap.size W W') : W'.cell? p0 = some v0 ∧ W'.cell? p1 = some v1 ∧ W'.cell? p2 = some v2 ∧ W'.cell? p3 = some v3 ∧ W'.cell? p4 = some v4 ∧ W'.cell? p5 = some v5 ∧ W'.cell? p6 = some v6 ∧ W'.cell? p7 = some v7 ∧ W'.cell? p8 = some v8 ∧ W'.cell? p9 = some v9 ∧ W'.cell? p10 = some v10 ∧ W'.cell? p11 = some v11 ∧ W'.cell? p12 = some v12 ∧ W'.cell? p13 = some v13 ∧ W'.cell? p14 = some v14 ∧ W'.cell? p15 = some v15 ∧ W'.cell? p16 = some v16 ∧ W'.cell? p17 = some v17 := by
  have q : ∀ (p : Addr) (v : Value), W.cell? p = some v → W'.cell? p = some v := fun p v hv => (hb.cell (World.block_lt_of_cell? W p hv)).trans hv
  obtain ⟨h0, h1, h2, h3, h4, h5, h6, h7, h8, h9, h10, h11, h12, h13, h14, h15, h16, h17⟩ := h
  exact ⟨q _ _ h0, q _ _ h1, q _ _ h2, q _ _ h3, q _ _ h4, q _ _ h5, q _ _ h6, q _ _ h7, q _ _ h8, q _ _ h9, q _ _ h10, q _ _ h11, q _ _ h12, q _ _ h13, q _ _ h14, q _ _ h15, q _ _ h16, q _ _ h17⟩

set_option maxHeartbeats 8000000 in
set_option maxRecDepth 100000 in
theorem RSet_any (ad : Option Addr) (cap : Nat) (l : List Tr) (w : World) (h : SlT w ad l) (hfit : ∀ x ∈ l, fitTr x) (hn : l.length ≤ 9223372036854775807) :
    Calls Tryz.prog 9 #[.slice ad l.length cap] w fun e w' => e = .returned (.int .i64 (sortedN l)) ∧ RowKit.Below w.heap.size w w' := by
  have Hl : Hid (SlT w ad l) := h
  have Hf : Hid (∀ x ∈ l, fitTr x) := hfit
  clear h hfit
  by_cases h200 : 200 < l.length
  · have fin : Hid (sortedN l = 4) := if_pos h200
    have h200' : decide ((l.length : Int) > 200) = true := by simp; omega
    go_enter Tryz.func9, Tryz.ntmps9
    go_wp2
    go_ret
    exact ⟨ret_i64 (by rw [fin.out]), RowKit.Below.refl _ _⟩
  · have fin : Hid (sortedN l = firstUpto (stepN l) l.length) := if_neg h200
    have h200' : decide ((l.length : Int) > 200) = false := by simp; omega
    go_enter Tryz.func9, Tryz.ntmps9
    go_wp2_with fail
    go_loopw [3] (fun i wr => ∃ k : Nat, k ≤ l.length ∧ i = .int .i64 k ∧ firstUpto (stepN l) k = 0 ∧ RowKit.Below w.heap.size w wr) (fun i wr => l.length - (intOf i).toNat)
    case atStart => exact ⟨0, Nat.zero_le _, rfl, rfl, RowKit.Below.refl _ _⟩
    case round =>
      obtain ⟨i, hi', rfl, hz0, hbr⟩ := hrel
      have hz : Hid (firstUpto (stepN l) i = 0) := hz0
      clear hz0
      by_cases hi : i < l.length
      · obtain ⟨b, o, rfl, hr⟩ := (Hl.out.below hbr).at i hi
        obtain ⟨c0, c1, c2, c3, c4, c5, c6, c7, c8⟩ := hr.at i hi
        have Hr : Hid (RowR wr b o l) := hr
        have H := fun W => RTriple_any l[i] W (Hf.out _ (List.getElem_mem hi))
        unfold valTr at H
        have i0 : (0 : Int) ≤ (i : Int) := by omega
        have i1 : (i : Int) < (l.length : Int) := by omega
        have hnext : Hid (firstUpto (stepN l) (i + 1) = stepN l i) := by show _ = _; rw [firstUpto, if_pos hz.out]
        have hend : Hid (stepN l i ≠ 0 → sortedN l = stepN l i) := fun hne => by
          rw [fin.out, ← hnext.out]
          exact firstUpto_mono _ _ _ (by rw [hnext.out]; exact hne) hi
        clear hr
        cases hc : (chkTr l[i] == 0)
        · have fs : Hid (stepN l i = chkTr l[i]) := by simp at hc; simp [Hid, stepN, hi, hc]
          have hne : (chkTr l[i] != 0) = true := by simp [bne, hc]
          have hn0 : Hid (stepN l i ≠ 0) := by show _ ≠ _; rw [fs.out]; simpa using hc
          generalize l[i] = y at *
          go_wp2_with fail
          refine (H _).mono ?_
          rintro e w1 ⟨rfl, hb1⟩
          go_wp2_with fail
          go_ret
          exact ⟨ret_i64 (by rw [hend.out hn0.out, fs.out]), bstep hbr hb1⟩
        · have hce : chkTr l[i] = 0 := by simpa using hc
          rw [hce] at H
          by_cases h0 : i = 0
          · subst h0
            have fs : Hid (stepN l 0 = 0) := by simp [Hid, stepN, hi, hce]
            clear hc hce
            generalize l[0] = y at *
            simp only [Nat.zero_mul, Nat.add_zero] at c0 c1 c2 c3 c4 c5 c6 c7 c8
            go_wp2_with fail
            refine (H _).mono ?_
            rintro e w1 ⟨rfl, hb1⟩
            clear c0 c1 c2 c3 c4 c5 c6 c7 c8
            go_wp2_with fail
            go_region
            go_wp2
            exact ⟨⟨1, by omega, by go_num, by rw [hnext.out, fs.out], bstep hbr hb1.drew⟩, by simp [intOf]; omega⟩
          · obtain ⟨k, hk0⟩ : ∃ k, i = k + 1 := ⟨i - 1, by omega⟩
            have hk : k < l.length := by omega
            have fs : Hid (stepN l i = if 0 ≤ cmpTr l[k] l[i] then 6 else 0) := by
              subst hk0; simp [Hid, stepN, hi, hce]
            have HC := fun W => ROrder_any l[k] l[i] W
            unfold valTr at HC
            generalize cmpTr l[k] l[i] = c at HC fs
            have hwr : IntKind.i64.wrap ((i : Int) - 1) = (k : Int) := by subst hk0; simp [IntKind.wrap, IntKind.bits, IntKind.signed]; omega
            have i2 : (0 : Int) ≤ (k : Int) := by omega
            have i3 : (k : Int) < (l.length : Int) := by omega
            have hd : decide (0 < i) = true := by simp; omega
            have hd' : decide ((i : Int) > 0) = true := by simp; omega
            have Hk : Hid (i = k + 1) := hk0
            clear hk0 h0 hc hce
            go_wp2_with fail
            refine (H _).mono ?_
            rintro e w1 ⟨rfl, hb1⟩
            clear c0 c1 c2 c3 c4 c5 c6 c7 c8
            obtain ⟨c0, c1, c2, c3, c4, c5, c6, c7, c8⟩ := (Hr.out.below hb1).at i hi
            obtain ⟨d0, d1, d2, d3, d4, d5, d6, d7, d8⟩ := (Hr.out.below hb1).at k hk
            generalize l[i] = y at *
            generalize l[k] = x at *
            clear H
            cases hcc : decide (c ≥ 0)
            · have fs0 : Hid (stepN l i = 0) := by have := fs.out; simp at hcc; rw [if_neg (by omega)] at this; exact this
              go_wp2_with fail
              go_region_held3 (fun W => W.cell? ⟨b, o + k * 9, none⟩ = some (.int .i64 x.1.1) ∧ W.cell? ⟨b, o + k * 9 + 1, none⟩ = some (.string ⟨x.1.2.1.toArray⟩) ∧ W.cell? ⟨b, o + k * 9 + 2, none⟩ = some (.string ⟨x.1.2.2.toArray⟩) ∧ W.cell? ⟨b, o + k * 9 + 3, none⟩ = some (.int .i64 x.2.1.1) ∧ W.cell? ⟨b, o + k * 9 + 4, none⟩ = some (.string ⟨x.2.1.2.1.toArray⟩) ∧ W.cell? ⟨b, o + k * 9 + 5, none⟩ = some (.string ⟨x.2.1.2.2.toArray⟩) ∧ W.cell? ⟨b, o + k * 9 + 6, none⟩ = some (.int .i64 x.2.2.1) ∧ W.cell? ⟨b, o + k * 9 + 7, none⟩ = some (.string ⟨x.2.2.2.1.toArray⟩) ∧ W.cell? ⟨b, o + k * 9 + 8, none⟩ = some (.string ⟨x.2.2.2.2.toArray⟩) ∧ W.cell? ⟨b, o + i * 9, none⟩ = some (.int .i64 y.1.1) ∧ W.cell? ⟨b, o + i * 9 + 1, none⟩ = some (.string ⟨y.1.2.1.toArray⟩) ∧ W.cell? ⟨b, o + i * 9 + 2, none⟩ = some (.string ⟨y.1.2.2.toArray⟩) ∧ W.cell? ⟨b, o + i * 9 + 3, none⟩ = some (.int .i64 y.2.1.1) ∧ W.cell? ⟨b, o + i * 9 + 4, none⟩ = some (.string ⟨y.2.1.2.1.toArray⟩) ∧ W.cell? ⟨b, o + i * 9 + 5, none⟩ = some (.string ⟨y.2.1.2.2.toArray⟩) ∧ W.cell? ⟨b, o + i * 9 + 6, none⟩ = some (.int .i64 y.2.2.1) ∧ W.cell? ⟨b, o + i * 9 + 7, none⟩ = some (.string ⟨y.2.2.2.1.toArray⟩) ∧ W.cell? ⟨b, o + i * 9 + 8, none⟩ = some (.string ⟨y.2.2.2.2.toArray⟩)) (first | exact keep18b (by assumption) hb2 | go_keep) (first
                | (go_at_call 38; refine (HC _).mono ?_; rintro e w2 ⟨rfl, hb2⟩))
              go_wp2
              exact ⟨⟨i + 1, by omega, by go_num, by rw [hnext.out, fs0.out], bstep (bstep hbr hb1.drew) hb2⟩, by simp [intOf]; omega⟩
            · have fs0 : Hid (stepN l i = 6) := by have := fs.out; simp at hcc; rw [if_pos (by omega)] at this; exact this
              go_wp2_with fail
              go_region_held3 (fun W => W.cell? ⟨b, o + k * 9, none⟩ = some (.int .i64 x.1.1) ∧ W.cell? ⟨b, o + k * 9 + 1, none⟩ = some (.string ⟨x.1.2.1.toArray⟩) ∧ W.cell? ⟨b, o + k * 9 + 2, none⟩ = some (.string ⟨x.1.2.2.toArray⟩) ∧ W.cell? ⟨b, o + k * 9 + 3, none⟩ = some (.int .i64 x.2.1.1) ∧ W.cell? ⟨b, o + k * 9 + 4, none⟩ = some (.string ⟨x.2.1.2.1.toArray⟩) ∧ W.cell? ⟨b, o + k * 9 + 5, none⟩ = some (.string ⟨x.2.1.2.2.toArray⟩) ∧ W.cell? ⟨b, o + k * 9 + 6, none⟩ = some (.int .i64 x.2.2.1) ∧ W.cell? ⟨b, o + k * 9 + 7, none⟩ = some (.string ⟨x.2.2.2.1.toArray⟩) ∧ W.cell? ⟨b, o + k * 9 + 8, none⟩ = some (.string ⟨x.2.2.2.2.toArray⟩) ∧ W.cell? ⟨b, o + i * 9, none⟩ = some (.int .i64 y.1.1) ∧ W.cell? ⟨b, o + i * 9 + 1, none⟩ = some (.string ⟨y.1.2.1.toArray⟩) ∧ W.cell? ⟨b, o + i * 9 + 2, none⟩ = some (.string ⟨y.1.2.2.toArray⟩) ∧ W.cell? ⟨b, o + i * 9 + 3, none⟩ = some (.int .i64 y.2.1.1) ∧ W.cell? ⟨b, o + i * 9 + 4, none⟩ = some (.string ⟨y.2.1.2.1.toArray⟩) ∧ W.cell? ⟨b, o + i * 9 + 5, none⟩ = some (.string ⟨y.2.1.2.2.toArray⟩) ∧ W.cell? ⟨b, o + i * 9 + 6, none⟩ = some (.int .i64 y.2.2.1) ∧ W.cell? ⟨b, o + i * 9 + 7, none⟩ = some (.string ⟨y.2.2.2.1.toArray⟩) ∧ W.cell? ⟨b, o + i * 9 + 8, none⟩ = some (.string ⟨y.2.2.2.2.toArray⟩)) (first | exact keep18b (by assumption) hb2 | go_keep) (first
                | (go_at_call 38; refine (HC _).mono ?_; rintro e w2 ⟨rfl, hb2⟩))
              go_wp2
              go_ret
              exact ⟨ret_i64 (by rw [hend.out (by rw [fs0.out]; decide), fs0.out]), bstep (bstep hbr hb1.drew) hb2⟩
      · obtain rfl : i = l.length := by omega
        go_wp2_with fail
        go_ret
        exact ⟨ret_i64 (by rw [fin.out, hz.out]), hbr⟩
end Go.Proofs.YtnlcfnpcjkcdmacGreatDoor
