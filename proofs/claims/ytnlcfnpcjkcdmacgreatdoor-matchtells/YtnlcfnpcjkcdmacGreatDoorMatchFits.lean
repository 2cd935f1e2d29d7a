/- match.asker and its closure: the walk. -/
import Derived.Test.YtnlcfnpcjkcdmacGreatDoorMatchAsk
namespace Go.Proofs.YtnlcfnpcjkcdmacGreatDoor
open Go Go.RowKit Go.Proofs Go.Maps
set_option synthInstance.maxSize 1000

attribute [local go_sem ↓] neqTerm

/-- at a block lies the pattern -/
def PatAt (w : World) (bx : Nat) (p : Pt) : Prop := ∀ j v, (encPt p)[j]? = some v → w.cell? ⟨bx, j, none⟩ = some v
theorem PatAt.lt {w : World} {bx : Nat} {p : Pt} (h : PatAt w bx p) : bx < w.heap.size := World.block_lt_of_cell? w _ (h 0 _ rfl)
theorem PatAt.far {w w' : World} {bx B : Nat} {p : Pt} (h : PatAt w bx p) (hb : Below B w w') (hB : bx < B) : PatAt w' bx p := fun j v hv => (hb.cell (by exact hB)).trans (h j v hv)
theorem PatAt.below {w w' : World} {bx : Nat} {p : Pt} (h : PatAt w bx p) (hb : Below w.heap.size w w') : PatAt w' bx p := h.far hb h.lt
theorem PatAt.at {w : World} {bx : Nat} {p : Pt} (h : PatAt w bx p) (k : Nat) (hk : k < 3) :
    w.cell? ⟨bx, k * 4, none⟩ = some (.string ⟨(slotK p k).1.toArray⟩) ∧ w.cell? ⟨bx, k * 4 + 1, none⟩ = some (.int .i64 (slotK p k).2.1) ∧ w.cell? ⟨bx, k * 4 + 2, none⟩ = some (.string ⟨(slotK p k).2.2.1.toArray⟩) ∧ w.cell? ⟨bx, k * 4 + 3, none⟩ = some (.string ⟨(slotK p k).2.2.2.toArray⟩) := by
  rcases (by omega : k = 0 ∨ k = 1 ∨ k = 2) with rfl | rfl | rfl
  all_goals exact ⟨h _ _ rfl, h _ _ rfl, h _ _ rfl, h _ _ rfl⟩

theorem indexTm (t : Tr) (k : Nat) (hk : k < 3) (w : World) : (Instr.index 93 (valTr t) (.int .i64 k)).run Tryz.prog w = .ok (.agg #[.int .i64 (termK t k).1, .string ⟨(termK t k).2.1.toArray⟩, .string ⟨(termK t k).2.2.toArray⟩]) w := by
  rcases (by omega : k = 0 ∨ k = 1 ∨ k = 2) with rfl | rfl | rfl <;> kernel_rfl
theorem makeBound (w : World) : (Instr.makeMap 118 none).run Tryz.prog w = .ok (.map (some w.heap.size)) (w.alloc (.map #[] 0)) := by kernel_rfl

theorem sixbox {w W : World} {T T' : TypeId} {a0 a1 a2 b0 b1 b2 : Value} (hb : Below ((w.alloc (.cells #[a0, a1, a2] T)).alloc (.cells #[b0, b1, b2] T')).heap.size ((w.alloc (.cells #[a0, a1, a2] T)).alloc (.cells #[b0, b1, b2] T')) W) :
    (W.cell? ⟨w.heap.size, 0, none⟩ = some a0 ∧ W.cell? ⟨w.heap.size, 1, none⟩ = some a1 ∧ W.cell? ⟨w.heap.size, 2, none⟩ = some a2) ∧ (W.cell? ⟨w.heap.size + 1, 0, none⟩ = some b0 ∧ W.cell? ⟨w.heap.size + 1, 1, none⟩ = some b1 ∧ W.cell? ⟨w.heap.size + 1, 2, none⟩ = some b2) ∧
    (W.frozen? ⟨w.heap.size + 1, 0, none⟩ = false ∧ W.frozen? ⟨w.heap.size + 1, 1, none⟩ = false ∧ W.frozen? ⟨w.heap.size + 1, 2, none⟩ = false) ∧ w.heap.size + 1 < W.heap.size := by
  obtain ⟨h, f⟩ := bcell hb
  have hs := hb.size
  refine ⟨⟨?_, ?_, ?_⟩, ⟨?_, ?_, ?_⟩, ⟨?_, ?_, ?_⟩, by simp at hs; omega⟩
  all_goals
    first
    | (rw [h _ _ (by simp; omega)]; go_simp)
    | (rw [f _ _ (by simp; omega)]; go_simp)
    | (rw [h _ _ (by simp)]; go_simp)
    | (rw [f _ _ (by simp)]; go_simp)

/-- what bind, and a store apart, leave of four cells -/
theorem keepB {W W' : World} {bm : Nat} {p0 p1 p2 p3 : Addr} {v0 v1 v2 v3 : Value} (h : W.cell? p0 = some v0 ∧ W.cell? p1 = some v1 ∧ W.cell? p2 = some v2 ∧ W.cell? p3 = some v3)
    (g : W.grownBy W' (some bm)) (n0 : p0.block ≠ bm) (n1 : p1.block ≠ bm) (n2 : p2.block ≠ bm) (n3 : p3.block ≠ bm) :
    W'.cell? p0 = some v0 ∧ W'.cell? p1 = some v1 ∧ W'.cell? p2 = some v2 ∧ W'.cell? p3 = some v3 := by
  have e : ∀ {p : Addr} {v : Value}, W.cell? p = some v → p.block ≠ bm → W'.cell? p = some v := fun {p v} hp hn => by
    have hb := g.block p.block (World.block_lt_of_cell? W _ hp) (fun e => hn (by simpa using e))
    exact (World.cell?_of_block (w := W) hb).trans hp
  exact ⟨e h.1 n0, e h.2.1 n1, e h.2.2.1 n2, e h.2.2.2 n3⟩
theorem keepS {W : World} {q p0 p1 p2 p3 : Addr} {u v0 v1 v2 v3 : Value} (h : W.cell? p0 = some v0 ∧ W.cell? p1 = some v1 ∧ W.cell? p2 = some v2 ∧ W.cell? p3 = some v3)
    (n0 : p0.block ≠ q.block) (n1 : p1.block ≠ q.block) (n2 : p2.block ≠ q.block) (n3 : p3.block ≠ q.block) :
    (W.setCell q u).cell? p0 = some v0 ∧ (W.setCell q u).cell? p1 = some v1 ∧ (W.setCell q u).cell? p2 = some v2 ∧ (W.setCell q u).cell? p3 = some v3 := by
  have e : ∀ {p : Addr} {v : Value}, W.cell? p = some v → p.block ≠ q.block → (W.setCell q u).cell? p = some v := fun {p v} hp hn => by
    rw [World.cell?_setCell_other W q p u (fun e => hn (by rw [e]))]
    exact hp
  exact ⟨e h.1 n0, e h.2.1 n1, e h.2.2.1 n2, e h.2.2.2 n3⟩

theorem put3 {W : World} {b : Nat} {a0 a1 a2 : Value} (u0 u1 u2 : Value) (h0 : W.cell? ⟨b, 0, none⟩ = some a0) (h1 : W.cell? ⟨b, 1, none⟩ = some a1) (h2 : W.cell? ⟨b, 2, none⟩ = some a2) :
    (((W.setCell ⟨b, 0, none⟩ u0).setCell ⟨b, 1, none⟩ u1).setCell ⟨b, 2, none⟩ u2).cell? ⟨b, 0, none⟩ = some u0 ∧ (((W.setCell ⟨b, 0, none⟩ u0).setCell ⟨b, 1, none⟩ u1).setCell ⟨b, 2, none⟩ u2).cell? ⟨b, 1, none⟩ = some u1 ∧ (((W.setCell ⟨b, 0, none⟩ u0).setCell ⟨b, 1, none⟩ u1).setCell ⟨b, 2, none⟩ u2).cell? ⟨b, 2, none⟩ = some u2 := by
  have o : ∀ (V : World) (i j : Nat) (u : Value), i ≠ j → (V.setCell ⟨b, i, none⟩ u).cell? ⟨b, j, none⟩ = V.cell? ⟨b, j, none⟩ := fun V i j u hne => World.cell?_setCell_other V _ _ u (fun e => hne (congrArg Addr.off e))
  refine ⟨?_, ?_, ?_⟩
  · rw [o _ 2 0 _ (by omega), o _ 1 0 _ (by omega), World.cell?_setCell_same W _ u0 h0]
  · rw [o _ 2 1 _ (by omega), World.cell?_setCell_same _ _ u1 ((o _ 0 1 _ (by omega)).trans h1)]
  · rw [World.cell?_setCell_same _ _ u2 ((o _ 1 2 _ (by omega)).trans ((o _ 0 2 _ (by omega)).trans h2))]

set_option maxHeartbeats 4000000 in
set_option maxRecDepth 100000 in
theorem fits_any (bx : Nat) (p : Pt) (t : Tr) (w : World) (h : PatAt w bx p) (hp : fitPt p) :
    Calls Tryz.prog 71 #[valTr t, .pointer (some ⟨bx, 0, none⟩)] w fun e w' => e = .returned (.bool (fitsB p t)) ∧ Below w.heap.size w w' := by
  have HT := termsOf_any t
  have Hp : Hid (fitPt p) := hp
  have hbx := h.lt
  have Ha : Hid (PatAt w bx p) := h
  have HX : Hid (∀ k : Nat, k < 3 → ∀ W, (Instr.index 93 (valTr t) (.int .i64 k)).run Tryz.prog W = .ok (.agg #[.int .i64 (termK t k).1, .string ⟨(termK t k).2.1.toArray⟩, .string ⟨(termK t k).2.2.toArray⟩]) W) := indexTm t
  have hmk := makeBound
  have fin : Hid (fitsB p t = restF p t 0) := (fits_env p t).symm
  clear hp h
  generalize fitsB p t = ans at *
  unfold valTr at HT HX ⊢
  go_enter Tryz.func71, Tryz.ntmps71
  go_wp2_with fail
  refine (HT _).mono ?_
  rintro e w1 ⟨rfl, hg1⟩
  have hb1 := hg1.below
  have hB1 : Below w.heap.size w w1 := bstep (bstep (balloc _ _) (balloc _ _)) hb1
  have hbd1 : Hid (BoundAt w1 (w.heap.size + 1) []) := by
    show BoundAt _ _ _
    have := (boundAt_made (w.alloc (.cells (encTr t).toArray 82))).below hb1
    simpa using this
  go_wp2_with fail
  go_loopw [11] (fun i wr => ∃ k : Nat, k ≤ 3 ∧ i = .int .i64 k ∧ Hid (BoundAt wr (w.heap.size + 1) (envK p t k)) ∧ Hid (ans = restF p t k) ∧ Below w.heap.size w wr) (fun i wr => 3 - (intOf i).toNat)
  case atStart => exact ⟨0, by omega, rfl, hbd1.out, fin.out, hB1⟩
  case round =>
    clear hbd1 hB1 hb1 hg1 HT
    obtain ⟨k, hk, rfl, hbd, hrest, hbr⟩ := hrel
    by_cases hlt : k < 3
    · have hix := HX.out k hlt
      have i1 : (k : Int) < 3 := by omega
      have i0 : (0 : Int) ≤ (k : Int) := by omega
      have hst : Hid _ := restF_step p t k hlt
      have hfk : Hid (fitK p t k = decide (termK t k = wantE (envK p t k) (slotK p k) (termK t k))) := rfl
      have hen : Hid (envK p t (k + 1) = stepE (envK p t k) (slotK p k) (termK t k)) := rfl
      have hel : (envK p t k).length ≤ 1000 := by have := envK_len p t k; omega
      have hfs : Hid (fitSl (slotK p k)) := fit_slotK Hp.out k
      have hzr := hbr.size
      have hbm := hbd.out.lt
      have hbxr : bx < wr.heap.size := by omega
      have Har : Hid (PatAt wr bx p) := Ha.out.far hbr hbx
      obtain ⟨c0, c1, c2, c3⟩ := Har.out.at k hlt
      generalize hEE : envK p t (k + 1) = E' at *
      have HEE : Hid _ := hEE
      clear hEE
      generalize envK p t k = E at *
      generalize fitK p t k = fk at *
      generalize slotK p k = s at *
      generalize termK t k = x at *
      obtain ⟨v, kk, S, L⟩ := s
      have HV := fun W => isVar_any v kk S L W
      dsimp only at c0 c1 c2 c3
      have c4 : wr.cell? ⟨bx, k * 4 + 1 + 1, none⟩ = some (.string ⟨S.toArray⟩) := c2
      have c5 : wr.cell? ⟨bx, k * 4 + 1 + 2, none⟩ = some (.string ⟨L.toArray⟩) := c3
      cases hve : v.isEmpty
      rotate_left
      · obtain rfl : v = [] := by simpa using hve
        rw [show (!([] : List UInt8).isEmpty) = false from rfl] at HV
        have hf2 : Hid (fk = eqTB x.1 x.2.1 x.2.2 kk S L) := by
          show _ = _
          rw [hfk.out, show eqTB x.1 x.2.1 x.2.2 kk S L = decide (x = (kk, S, L)) from eqTB_tm x (kk, S, L)]
          rfl
        have he2 : Hid (E' = E) := hen.out
        clear hve hfk hen
        cases hq : eqTB x.1 x.2.1 x.2.2 kk S L
        · go_wp2_with fail
          refine (HV _).mono ?_
          rintro e w2 ⟨rfl, hb2⟩
          obtain ⟨⟨a0, a1, a2⟩, ⟨b0, b1, b2⟩, _, hz2⟩ := sixbox hb2
          go_wp2_with fail
          go_ret
          exact ⟨ret_bool (by rw [hrest.out, hst.out, hf2.out, hq]; rfl), bstep (bstep (bstep hbr (balloc _ _)) (balloc _ _)) hb2⟩
        · go_wp2_with fail
          refine (HV _).mono ?_
          rintro e w2 ⟨rfl, hb2⟩
          obtain ⟨⟨a0, a1, a2⟩, ⟨b0, b1, b2⟩, _, hz2⟩ := sixbox hb2
          go_wp2_with fail
          go_roundw
          case rel =>
            refine ⟨k + 1, by omega, by go_num, ?_, ?_, bstep (bstep (bstep hbr (balloc _ _)) (balloc _ _)) hb2⟩
            · show BoundAt _ _ _
              rw [HEE.out, he2.out]
              exact ((hbd.out.below (balloc _ _)).below (balloc _ _)).below hb2
            · show _ = _
              rw [hrest.out, hst.out, hf2.out, hq]; rfl
          case measure => simp [intOf]; omega
      · have hvn : ¬ v = [] := by simpa using hve
        rw [hve, show (!false) = true from rfl] at HV
        have hvl : v.length ≤ maxLen := hfs.out.1
        have hf2 : Hid (fk = eqTB x.1 x.2.1 x.2.2 (getE E v x).1 (getE E v x).2.1 (getE E v x).2.2) := by
          show _ = _
          rw [hfk.out, eqTB_tm]
          unfold wantE
          rw [if_neg hvn]
        have he2 : Hid (E' = putE E v x) := by show _ = _; rw [hen.out]; exact if_neg hvn
        have HB := fun W (hW : BoundAt W (w.heap.size + 1) E) => bind_any (w.heap.size + 1) E v x W hW hvl hel
        generalize getE E v x = y at *
        generalize putE E v x = E2 at *
        unfold valTermM at HB
        have nbx : bx ≠ w.heap.size + 1 := by omega
        have nwr : wr.heap.size ≠ w.heap.size + 1 := by omega
        have nwr1 : wr.heap.size + 1 ≠ w.heap.size + 1 := by omega
        have nb1 : bx ≠ wr.heap.size + 1 := by omega
        have nw1 : wr.heap.size ≠ wr.heap.size + 1 := by omega
        clear hve hfk hen hvn hvl
        go_wp2_with fail
        refine (HV _).mono ?_
        rintro e w2 ⟨rfl, hb2⟩
        obtain ⟨⟨a0, a1, a2⟩, ⟨b0, b1, b2⟩, ⟨f0, f1, f2⟩, hz2⟩ := sixbox hb2
        have hw2 : Below wr.heap.size wr w2 := bstep (bstep (balloc _ _) (balloc _ _)) hb2
        have d0 : w2.cell? ⟨bx, k * 4, none⟩ = some (.string ⟨v.toArray⟩) := (hw2.cell (by exact hbxr)).trans c0
        have hbd2 : Hid (BoundAt w2 (w.heap.size + 1) E) := hbd.out.below hw2
        have hbr2 := bstep hbr hw2
        have hzz := hbr2.size
        clear c0 c1 c2 c3 c4 c5 hbd hb2 hw2 HV
        go_wp2_with fail
        go_region_held3 (fun W => W.cell? ⟨bx, k * 4, none⟩ = some (.string ⟨v.toArray⟩) ∧ W.cell? ⟨wr.heap.size, 0, none⟩ = some (.int .i64 x.1) ∧ W.cell? ⟨wr.heap.size, 1, none⟩ = some (.string ⟨x.2.1.toArray⟩) ∧ W.cell? ⟨wr.heap.size, 2, none⟩ = some (.string ⟨x.2.2.toArray⟩)) (first
          | exact keepB (by assumption) hg3 nbx nwr nwr nwr
          | exact keepS (keepS (keepS (by assumption) nb1 nw1 nw1 nw1) nb1 nw1 nw1 nw1) nb1 nw1 nw1 nw1
          | exact keepS (by assumption) nb1 nw1 nw1 nw1
          | go_keep) (first
          | (go_at_call 72; refine (HB _ (by first | exact hbd2.out | exact hbd2.out.below (Below.refl _ _).drew | exact hbd2.out.below (Below.refl _ _).drew.drew)).mono ?_; rintro e w3 ⟨rfl, hbd3, hg3⟩; have q0 := (grown_far hg3 (b := wr.heap.size + 1) hz2 nwr1 0).1.trans b0; have q1 := (grown_far hg3 (b := wr.heap.size + 1) hz2 nwr1 1).1.trans b1; have q2 := (grown_far hg3 (b := wr.heap.size + 1) hz2 nwr1 2).1.trans b2; have g0 := (grown_far hg3 (b := wr.heap.size + 1) hz2 nwr1 0).2.trans f0; have g1 := (grown_far hg3 (b := wr.heap.size + 1) hz2 nwr1 1).2.trans f1; have g2 := (grown_far hg3 (b := wr.heap.size + 1) hz2 nwr1 2).2.trans f2))
        rename_i hHeld
        obtain ⟨_, x0, x1, x2⟩ := hHeld
        obtain ⟨y0, y1, y2⟩ := put3 (.int .i64 y.1) (.string ⟨y.2.1.toArray⟩) (.string ⟨y.2.2.toArray⟩) q0 q1 q2
        have hB3 : Below w.heap.size w w3 := hbr2.drew.grown hg3 (by exact hzz) (fun j hj => by cases hj; omega)
        have hBf := ((hB3.setCell (p := ⟨wr.heap.size + 1, 0, none⟩) (by show w.heap.size ≤ wr.heap.size + 1; omega) (.int .i64 y.1)).setCell (p := ⟨wr.heap.size + 1, 1, none⟩) (by show w.heap.size ≤ wr.heap.size + 1; omega) (.string ⟨y.2.1.toArray⟩)).setCell (p := ⟨wr.heap.size + 1, 2, none⟩) (by show w.heap.size ≤ wr.heap.size + 1; omega) (.string ⟨y.2.2.toArray⟩)
        have hbdf0 := hbd3.far (((((Below.refl (w.heap.size + 2) w3).setCell (p := ⟨wr.heap.size + 1, 0, none⟩) (by show w.heap.size + 2 ≤ wr.heap.size + 1; omega) (.int .i64 y.1)).setCell (p := ⟨wr.heap.size + 1, 1, none⟩) (by show w.heap.size + 2 ≤ wr.heap.size + 1; omega) (.string ⟨y.2.1.toArray⟩)).setCell (p := ⟨wr.heap.size + 1, 2, none⟩) (by show w.heap.size + 2 ≤ wr.heap.size + 1; omega) (.string ⟨y.2.2.toArray⟩))) (by omega)
        have hbdf : Hid _ := hbdf0
        clear hbdf0 hbd3 hg3 hB3 q0 q1 q2 g0 g1 g2 a0 a1 a2 b0 b1 b2 f0 f1 f2 d0 hbd2 HB
        generalize ((w3.setCell ⟨wr.heap.size + 1, 0, none⟩ (.int .i64 y.1)).setCell ⟨wr.heap.size + 1, 1, none⟩ (.string ⟨y.2.1.toArray⟩)).setCell ⟨wr.heap.size + 1, 2, none⟩ (.string ⟨y.2.2.toArray⟩) = W at *
        cases hq : eqTB x.1 x.2.1 x.2.2 y.1 y.2.1 y.2.2
        · go_wp2_with fail
          go_ret
          exact ⟨ret_bool (by rw [hrest.out, hst.out, hf2.out, hq]; rfl), hBf⟩
        · go_wp2_with fail
          go_roundw
          case rel =>
            refine ⟨k + 1, by omega, by go_num, ?_, ?_, hBf⟩
            · show BoundAt _ _ _
              rw [HEE.out, he2.out]
              exact hbdf.out
            · show _ = _
              rw [hrest.out, hst.out, hf2.out, hq]; rfl
          case measure => simp [intOf]; omega
    · obtain rfl : k = 3 := by omega
      go_wp2_with fail
      go_ret
      exact ⟨ret_bool (by rw [hrest.out]; rfl), hbr⟩

theorem enters71 : ∀ args w, (callFunc 71 args).run Tryz.prog w = .ok (.enter 71 args) w := enters_of Tryz.func71 (by kernel_rfl) rfl

theorem askerM_any (p : Pt) (w : World) : Calls Tryz.prog 41 #[valPt p] w fun e w' => ∃ bx, e = .returned (.func (.func 71) #[] #[.pointer (some ⟨bx, 0, none⟩)]) ∧ PatAt w' bx p ∧ Below w.heap.size w w' := by
  have HS := slotsOf_any p
  unfold valPt at HS ⊢
  go_enter Tryz.func41, Tryz.ntmps41
  go_wp2_with fail
  refine (HS _).mono ?_
  rintro e w1 ⟨rfl, hb1⟩
  go_wp2_with fail
  go_ret
  refine ⟨w1.heap.size, rfl, fun j v hj => ?_, bstep (bstep (balloc _ _) hb1) (balloc _ _)⟩
  have h12 : j < 12 := (List.getElem?_eq_some_iff.1 hj).1
  rcases (by omega : j = 0 ∨ j = 1 ∨ j = 2 ∨ j = 3 ∨ j = 4 ∨ j = 5 ∨ j = 6 ∨ j = 7 ∨ j = 8 ∨ j = 9 ∨ j = 10 ∨ j = 11) with rfl | rfl | rfl | rfl | rfl | rfl | rfl | rfl | rfl | rfl | rfl | rfl
  all_goals
    simp [encPt] at hj
    subst hj
    go_simp
end Go.Proofs.YtnlcfnpcjkcdmacGreatDoor
