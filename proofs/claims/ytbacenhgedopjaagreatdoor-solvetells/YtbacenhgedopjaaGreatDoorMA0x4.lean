import Derived.Test.YtbacenhgedopjaaGreatDoorMA0x3
import Derived.Deep.RegionHeld3
import Derived.RegionTactic
import Derived.Test.YtbacenhgedopjaaGreatDoorMA0x2
import Derived.OwnWalk
import Derived.Test.YtbacenhgedopjaaGreatDoorMA0x0

/- match.asker: the question whether a triple fits a pattern. -/
namespace Go.Proofs.YtbacenhgedopjaaGreatDoor
open Go Go.RowKit Go.Proofs Go.Maps
set_option synthInstance.maxSize 1000

/-! ### the question, slot by slot -/
def termK (t : Tr) (k : Nat) : Tm := if k = 0 then t.1 else if k = 1 then t.2.1 else t.2.2
def stepE (E : Env) (s : Sl) (x : Tm) : Env := if s.1 = [] then E else putEn E s.1 x
def wantE (E : Env) (s : Sl) (x : Tm) : Tm := if s.1 = [] then s.2 else getEn E s.1 x
def envK (p : Pt) (t : Tr) : Nat → Env
  | 0 => []
  | k + 1 => stepE (envK p t k) (slotK p k) (termK t k)
def fitK (p : Pt) (t : Tr) (k : Nat) : Bool := decide (termK t k = wantE (envK p t k) (slotK p k) (termK t k))
def restF (p : Pt) (t : Tr) (k : Nat) : Bool := if k = 0 then fitK p t 0 && (fitK p t 1 && fitK p t 2) else if k = 1 then fitK p t 1 && fitK p t 2 else if k = 2 then fitK p t 2 else true
theorem restF_step (p : Pt) (t : Tr) (k : Nat) (hk : k < 3) : restF p t k = (fitK p t k && restF p t (k + 1)) := by
  rcases (by omega : k = 0 ∨ k = 1 ∨ k = 2) with rfl | rfl | rfl <;> simp [restF]
theorem putE_len (E : Env) (v : List UInt8) (x : Tm) : (putEn E v x).length ≤ E.length + 1 := by
  unfold putEn
  split <;> simp
theorem envK_len (p : Pt) (t : Tr) : ∀ k, (envK p t k).length ≤ k
  | 0 => by simp [envK]
  | k + 1 => by
    have := envK_len p t k
    have h2 := putE_len (envK p t k) (slotK p k).1 (termK t k)
    unfold envK stepE
    split <;> omega

theorem fits_env (p : Pt) (t : Tr) : restF p t 0 = fitsB p t := by
  obtain ⟨⟨v0, a0⟩, ⟨v1, a1⟩, ⟨v2, a2⟩⟩ := p
  obtain ⟨x0, x1, x2⟩ := t
  have l1 : ∀ (a b : List UInt8) (x : Tm), lookE [(b, x)] a = if a = b then some x else none := fun a b x => by
    unfold lookE
    simp only [List.lookup]
    by_cases e : a = b
    · subst e; simp
    · rw [if_neg e, show (a == b) = false by simpa using e]
  have l2 : ∀ (a b c : List UInt8) (x y : Tm), lookE [(b, x), (c, y)] a = if a = b then some x else if a = c then some y else none := fun a b c x y => by
    unfold lookE
    simp only [List.lookup]
    by_cases e : a = b
    · subst e; simp
    · rw [if_neg e, show (a == b) = false by simpa using e]
      by_cases e2 : a = c
      · subst e2; simp
      · rw [if_neg e2, show (a == c) = false by simpa using e2]
  have l0 : ∀ a : List UInt8, lookE [] a = none := fun a => rfl
  simp only [restF, fitK, envK, slotK, termK, fitsB, wantE, stepE, getEn, putEn, if_true]
  by_cases h0 : v0 = []
  · subst h0
    by_cases h1 : v1 = []
    · subst h1
      by_cases h2 : v2 = []
      · subst h2; simp
      · simp [h2, l0]
    · by_cases h2 : v2 = []
      · subst h2; simp [h1, l0]
      · by_cases e : v2 = v1
        · subst e; simp [h1, l0, l1]
        · simp [h1, h2, e, l0, l1]
  · by_cases h1 : v1 = []
    · subst h1
      by_cases h2 : v2 = []
      · subst h2; simp [h0, l0]
      · by_cases e : v2 = v0
        · subst e; simp [h0, l0, l1]
        · simp [h0, h2, e, l0, l1]
    · by_cases e1 : v1 = v0
      · subst e1
        by_cases h2 : v2 = []
        · subst h2; simp [h1, l0, l1]
        · by_cases e : v2 = v1
          · subst e; simp [h1, l0, l1]
          · simp [h1, h2, e, l0, l1]
      · by_cases h2 : v2 = []
        · subst h2; simp [h0, h1, e1, l0, l1]
        · by_cases e : v2 = v0
          · subst e; simp [h0, h1, e1, l0, l1, l2]
          · by_cases e2 : v2 = v1
            · subst e2; simp [h0, h1, e1, l0, l1, l2]
            · simp [h0, h1, h2, e, e1, e2, l0, l1, l2]
end Go.Proofs.YtbacenhgedopjaaGreatDoor

/- match.asker and its closure: the walk. -/
namespace Go.Proofs.YtbacenhgedopjaaGreatDoor
open Go Go.RowKit Go.Proofs Go.Maps
set_option synthInstance.maxSize 1000

attribute [local go_sem ↓] neqTerm

/-- at a block lies the pattern -/
def PatAt (w : World) (bx : Nat) (p : Pt) : Prop := ∀ j v, (encPt p)[j]? = some v → w.cell? ⟨bx, j, none⟩ = some v
theorem PatAt.lt {w : World} {bx : Nat} {p : Pt} (h : PatAt w bx p) : bx < w.heap.size := World.block_lt_of_cell? w _ (h 0 _ rfl)
theorem PatAt.far {w w' : World} {bx B : Nat} {p : Pt} (h : PatAt w bx p) (hb : Below B w w') (hB : bx < B) : PatAt w' bx p := fun j v hv => (hb.cell (by exact hB)).trans (h j v hv)
theorem PatAt.below {w w' : World} {bx : Nat} {p : Pt} (h : PatAt w bx p) (hb : Below w.heap.size w w') : PatAt w' bx p := h.far hb h.lt
theorem PatAt.at {w : World} {bx : Nat} {p : Pt} (h : PatAt w bx p) (k : Nat) (hk : k < 3) :
    w.cell? ⟨bx, k * 4, none⟩ = some (.string ⟨(slotK p k).1.toArray⟩) ∧ w.cell? ⟨bx, k * 4 + 1, none⟩ = some (.int .i64 (slotK p k).2.1) ∧ w.cell? ⟨bx, k * 4 + 2, none⟩ = some (.string ⟨(slotK p k).2.2.1.toArray⟩) ∧ w.cell? ⟨bx, k * 4 + 3, none⟩ = some (.string ⟨(slotK p k).2.2.2.toArray⟩) := by
  rcases (by omega : k = 0 ∨ k = 1 ∨ k = 2) with rfl | rfl | rfl
  all_goals exact ⟨h _ _ rfl, h _ _ rfl, h _ _ rfl, h _ _ rfl⟩

theorem indexTm (t : Tr) (k : Nat) (hk : k < 3) (w : World) : (Instr.index 122 (valTr t) (.int .i64 k)).run Tryz.prog w = .ok (.agg #[.int .i64 (termK t k).1, .string ⟨(termK t k).2.1.toArray⟩, .string ⟨(termK t k).2.2.toArray⟩]) w := by
  rcases (by omega : k = 0 ∨ k = 1 ∨ k = 2) with rfl | rfl | rfl <;> kernel_rfl
theorem makeBound (w : World) : (Instr.makeMap 74 none).run Tryz.prog w = .ok (.map (some w.heap.size)) (w.alloc (.map #[] 0)) := by kernel_rfl

theorem sixbox {w W : World} {T T' : TypeId} {a0 a1 a2 b0 b1 b2 : Value} (hb : Below ((w.alloc (.cells #[a0, a1, a2] T)).alloc (.cells #[b0, b1, b2] T')).heap.size ((w.alloc (.cells #[a0, a1, a2] T)).alloc (.cells #[b0, b1, b2] T')) W) :
    (W.cell? ⟨w.heap.size, 0, none⟩ = some a0 ∧ W.cell? ⟨w.heap.size, 1, none⟩ = some a1 ∧ W.cell? ⟨w.heap.size, 2, none⟩ = some a2) ∧ (W.cell? ⟨w.heap.size + 1, 0, none⟩ = some b0 ∧ W.cell? ⟨w.heap.size + 1, 1, none⟩ = some b1 ∧ W.cell? ⟨w.heap.size + 1, 2, none⟩ = some b2) ∧
    (W.frozen? ⟨w.heap.size + 1, 0, none⟩ = false ∧ W.frozen? ⟨w.heap.size + 1, 1, none⟩ = false ∧ W.frozen? ⟨w.heap.size + 1, 2, none⟩ = false) ∧ w.heap.size + 1 < W.heap.size := by
  obtain ⟨h, f⟩ := bcell hb
  have hs := hb.size
  refine ⟨⟨?_, ?_, ?_⟩, ⟨?_, ?_, ?_⟩, ⟨?_, ?_, ?_⟩, by simp at hs; omega⟩
  all_goals
    first
    | (rw [h _ _ (by simp; omega)]; go_simp)
    | (rw [f _ _ (by simp; omega)]; go_simp)
    | (rw [h _ _ (by simp)]; go_simp)
    | (rw [f _ _ (by simp)]; go_simp)

/-- what bind, and a store apart, leave of four cells -/
theorem keepB {W W' : World} {bm : Nat} {p0 p1 p2 p3 : Addr} {v0 v1 v2 v3 : Value} (h : W.cell? p0 = some v0 ∧ W.cell? p1 = some v1 ∧ W.cell? p2 = some v2 ∧ W.cell? p3 = some v3)
    (g : W.grownBy W' (some bm)) (n0 : p0.block ≠ bm) (n1 : p1.block ≠ bm) (n2 : p2.block ≠ bm) (n3 : p3.block ≠ bm) :
    W'.cell? p0 = some v0 ∧ W'.cell? p1 = some v1 ∧ W'.cell? p2 = some v2 ∧ W'.cell? p3 = some v3 := by
  have e : ∀ {p : Addr} {v : Value}, W.cell? p = some v → p.block ≠ bm → W'.cell? p = some v := fun {p v} hp hn => by
    have hb := g.block p.block (World.block_lt_of_cell? W _ hp) (fun e => hn (by simpa using e))
    exact (World.cell?_of_block (w := W) hb).trans hp
  exact ⟨e h.1 n0, e h.2.1 n1, e h.2.2.1 n2, e h.2.2.2 n3⟩
theorem keepS {W : World} {q p0 p1 p2 p3 : Addr} {u v0 v1 v2 v3 : Value} (h : W.cell? p0 = some v0 ∧ W.cell? p1 = some v1 ∧ W.cell? p2 = some v2 ∧ W.cell? p3 = some v3)
    (n0 : p0.block ≠ q.block) (n1 : p1.block ≠ q.block) (n2 : p2.block ≠ q.block) (n3 : p3.block ≠ q.block) :
    (W.setCell q u).cell? p0 = some v0 ∧ (W.setCell q u).cell? p1 = some v1 ∧ (W.setCell q u).cell? p2 = some v2 ∧ (W.setCell q u).cell? p3 = some v3 := by
  have e : ∀ {p : Addr} {v : Value}, W.cell? p = some v → p.block ≠ q.block → (W.setCell q u).cell? p = some v := fun {p v} hp hn => by
    rw [World.cell?_setCell_other W q p u (fun e => hn (by rw [e]))]
    exact hp
  exact ⟨e h.1 n0, e h.2.1 n1, e h.2.2.1 n2, e h.2.2.2 n3⟩

theorem put3 {W : World} {b : Nat} {a0 a1 a2 : Value} (u0 u1 u2 : Value) (h0 : W.cell? ⟨b, 0, none⟩ = some a0) (h1 : W.cell? ⟨b, 1, none⟩ = some a1) (h2 : W.cell? ⟨b, 2, none⟩ = some a2) :
    (((W.setCell ⟨b, 0, none⟩ u0).setCell ⟨b, 1, none⟩ u1).setCell ⟨b, 2, none⟩ u2).cell? ⟨b, 0, none⟩ = some u0 ∧ (((W.setCell ⟨b, 0, none⟩ u0).setCell ⟨b, 1, none⟩ u1).setCell ⟨b, 2, none⟩ u2).cell? ⟨b, 1, none⟩ = some u1 ∧ (((W.setCell ⟨b, 0, none⟩ u0).setCell ⟨b, 1, none⟩ u1).setCell ⟨b, 2, none⟩ u2).cell? ⟨b, 2, none⟩ = some u2 := by
  have o : ∀ (V : World) (i j : Nat) (u : Value), i ≠ j → (V.setCell ⟨b, i, none⟩ u).cell? ⟨b, j, none⟩ = V.cell? ⟨b, j, none⟩ := fun V i j u hne => World.cell?_setCell_other V _ _ u (fun e => hne (congrArg Addr.off e))
  refine ⟨?_, ?_, ?_⟩
  · rw [o _ 2 0 _ (by omega), o _ 1 0 _ (by omega), World.cell?_setCell_same W _ u0 h0]
  · rw [o _ 2 1 _ (by omega), World.cell?_setCell_same _ _ u1 ((o _ 0 1 _ (by omega)).trans h1)]
  · rw [World.cell?_setCell_same _ _ u2 ((o _ 1 2 _ (by omega)).trans ((o _ 0 2 _ (by omega)).trans h2))]

set_option maxHeartbeats 4000000 in
set_option maxRecDepth 100000 in
theorem fits_any (bx : Nat) (p : Pt) (t : Tr) (w : World) (h : PatAt w bx p) (hp : fitPt p) :
    Calls Tryz.prog 122 #[valTr t, .pointer (some ⟨bx, 0, none⟩)] w fun e w' => e = .returned (.bool (fitsB p t)) ∧ Below w.heap.size w w' := by
  have HT := termsOf_any t
  have Hp : Hid (fitPt p) := hp
  have hbx := h.lt
  have Ha : Hid (PatAt w bx p) := h
  have HX : Hid (∀ k : Nat, k < 3 → ∀ W, (Instr.index 122 (valTr t) (.int .i64 k)).run Tryz.prog W = .ok (.agg #[.int .i64 (termK t k).1, .string ⟨(termK t k).2.1.toArray⟩, .string ⟨(termK t k).2.2.toArray⟩]) W) := indexTm t
  have hmk := makeBound
  have fin : Hid (fitsB p t = restF p t 0) := (fits_env p t).symm
  clear hp h
  generalize fitsB p t = ans at *
  unfold valTr at HT HX ⊢
  go_enter Tryz.func122, Tryz.ntmps122
  go_wp2_with fail
  refine (HT _).mono ?_
  rintro e w1 ⟨rfl, hg1⟩
  have hb1 := hg1.below
  have hB1 : Below w.heap.size w w1 := bstep (bstep (balloc _ _) (balloc _ _)) hb1
  have hbd1 : Hid (BoundAt w1 (w.heap.size + 1) []) := by
    show BoundAt _ _ _
    have := (boundAt_made (w.alloc (.cells (encTr t).toArray 58))).below hb1
    simpa using this
  go_wp2_with fail
  go_loopw [11] (fun i wr => ∃ k : Nat, k ≤ 3 ∧ i = .int .i64 k ∧ Hid (BoundAt wr (w.heap.size + 1) (envK p t k)) ∧ Hid (ans = restF p t k) ∧ Below w.heap.size w wr) (fun i wr => 3 - (intOf i).toNat)
  case atStart => exact ⟨0, by omega, rfl, hbd1.out, fin.out, hB1⟩
  case round =>
    clear hbd1 hB1 hb1 hg1 HT
    obtain ⟨k, hk, rfl, hbd, hrest, hbr⟩ := hrel
    by_cases hlt : k < 3
    · have hix := HX.out k hlt
      have i1 : (k : Int) < 3 := by omega
      have i0 : (0 : Int) ≤ (k : Int) := by omega
      have hst : Hid _ := restF_step p t k hlt
      have hfk : Hid (fitK p t k = decide (termK t k = wantE (envK p t k) (slotK p k) (termK t k))) := rfl
      have hen : Hid (envK p t (k + 1) = stepE (envK p t k) (slotK p k) (termK t k)) := rfl
      have hel : (envK p t k).length ≤ 1000 := by have := envK_len p t k; omega
      have hfs : Hid (fitSl (slotK p k)) := fit_slotK Hp.out k
      have hzr := hbr.size
      have hbm := hbd.out.lt
      have hbxr : bx < wr.heap.size := by omega
      have Har : Hid (PatAt wr bx p) := Ha.out.far hbr hbx
      obtain ⟨c0, c1, c2, c3⟩ := Har.out.at k hlt
      generalize hEE : envK p t (k + 1) = E' at *
      have HEE : Hid _ := hEE
      clear hEE
      generalize envK p t k = E at *
      generalize fitK p t k = fk at *
      generalize slotK p k = s at *
      generalize termK t k = x at *
      obtain ⟨v, kk, S, L⟩ := s
      have HV := fun W => isVar_any v kk S L W
      dsimp only at c0 c1 c2 c3
      have c4 : wr.cell? ⟨bx, k * 4 + 1 + 1, none⟩ = some (.string ⟨S.toArray⟩) := c2
      have c5 : wr.cell? ⟨bx, k * 4 + 1 + 2, none⟩ = some (.string ⟨L.toArray⟩) := c3
      cases hve : v.isEmpty
      rotate_left
      · obtain rfl : v = [] := by simpa using hve
        rw [show (!([] : List UInt8).isEmpty) = false from rfl] at HV
        have hf2 : Hid (fk = eqTB x.1 x.2.1 x.2.2 kk S L) := by
          show _ = _
          rw [hfk.out, show eqTB x.1 x.2.1 x.2.2 kk S L = decide (x = (kk, S, L)) from eqTB_tm x (kk, S, L)]
          rfl
        have he2 : Hid (E' = E) := hen.out
        clear hve hfk hen
        cases hq : eqTB x.1 x.2.1 x.2.2 kk S L
        · go_wp2_with fail
          refine (HV _).mono ?_
          rintro e w2 ⟨rfl, hb2⟩
          obtain ⟨⟨a0, a1, a2⟩, ⟨b0, b1, b2⟩, _, hz2⟩ := sixbox hb2
          go_wp2_with fail
          go_ret
          exact ⟨ret_bool (by rw [hrest.out, hst.out, hf2.out, hq]; rfl), bstep (bstep (bstep hbr (balloc _ _)) (balloc _ _)) hb2⟩
        · go_wp2_with fail
          refine (HV _).mono ?_
          rintro e w2 ⟨rfl, hb2⟩
          obtain ⟨⟨a0, a1, a2⟩, ⟨b0, b1, b2⟩, _, hz2⟩ := sixbox hb2
          go_wp2_with fail
          go_roundw
          case rel =>
            refine ⟨k + 1, by omega, by go_num, ?_, ?_, bstep (bstep (bstep hbr (balloc _ _)) (balloc _ _)) hb2⟩
            · show BoundAt _ _ _
              rw [HEE.out, he2.out]
              exact ((hbd.out.below (balloc _ _)).below (balloc _ _)).below hb2
            · show _ = _
              rw [hrest.out, hst.out, hf2.out, hq]; rfl
          case measure => simp [intOf]; omega
      · have hvn : ¬ v = [] := by simpa using hve
        rw [hve, show (!false) = true from rfl] at HV
        have hvl : v.length ≤ maxLen := hfs.out.1
        have hf2 : Hid (fk = eqTB x.1 x.2.1 x.2.2 (getEn E v x).1 (getEn E v x).2.1 (getEn E v x).2.2) := by
          show _ = _
          rw [hfk.out, eqTB_tm]
          unfold wantE
          rw [if_neg hvn]
        have he2 : Hid (E' = putEn E v x) := by show _ = _; rw [hen.out]; exact if_neg hvn
        have HB := fun W (hW : BoundAt W (w.heap.size + 1) E) => bind_any (w.heap.size + 1) E v x W hW hvl hel
        generalize getEn E v x = y at *
        generalize putEn E v x = E2 at *
        unfold valTermM at HB
        have nbx : bx ≠ w.heap.size + 1 := by omega
        have nwr : wr.heap.size ≠ w.heap.size + 1 := by omega
        have nwr1 : wr.heap.size + 1 ≠ w.heap.size + 1 := by omega
        have nb1 : bx ≠ wr.heap.size + 1 := by omega
        have nw1 : wr.heap.size ≠ wr.heap.size + 1 := by omega
        clear hve hfk hen hvn hvl
        go_wp2_with fail
        refine (HV _).mono ?_
        rintro e w2 ⟨rfl, hb2⟩
        obtain ⟨⟨a0, a1, a2⟩, ⟨b0, b1, b2⟩, ⟨f0, f1, f2⟩, hz2⟩ := sixbox hb2
        have hw2 : Below wr.heap.size wr w2 := bstep (bstep (balloc _ _) (balloc _ _)) hb2
        have d0 : w2.cell? ⟨bx, k * 4, none⟩ = some (.string ⟨v.toArray⟩) := (hw2.cell (by exact hbxr)).trans c0
        have hbd2 : Hid (BoundAt w2 (w.heap.size + 1) E) := hbd.out.below hw2
        have hbr2 := bstep hbr hw2
        have hzz := hbr2.size
        clear c0 c1 c2 c3 c4 c5 hbd hb2 hw2 HV
        go_wp2_with fail
        go_region_held3 (fun W => W.cell? ⟨bx, k * 4, none⟩ = some (.string ⟨v.toArray⟩) ∧ W.cell? ⟨wr.heap.size, 0, none⟩ = some (.int .i64 x.1) ∧ W.cell? ⟨wr.heap.size, 1, none⟩ = some (.string ⟨x.2.1.toArray⟩) ∧ W.cell? ⟨wr.heap.size, 2, none⟩ = some (.string ⟨x.2.2.toArray⟩)) (first
          | exact keepB (by assumption) hg3 nbx nwr nwr nwr
          | exact keepS (keepS (keepS (by assumption) nb1 nw1 nw1 nw1) nb1 nw1 nw1 nw1) nb1 nw1 nw1 nw1
          | exact keepS (by assumption) nb1 nw1 nw1 nw1
          | go_keep) (first
          | (go_at_call 124; refine (HB _ (by first | exact hbd2.out | exact hbd2.out.below (Below.refl _ _).drew | exact hbd2.out.below (Below.refl _ _).drew.drew)).mono ?_; rintro e w3 ⟨rfl, hbd3, hg3⟩; have q0 := (grown_far hg3 (b := wr.heap.size + 1) hz2 nwr1 0).1.trans b0; have q1 := (grown_far hg3 (b := wr.heap.size + 1) hz2 nwr1 1).1.trans b1; have q2 := (grown_far hg3 (b := wr.heap.size + 1) hz2 nwr1 2).1.trans b2; have g0 := (grown_far hg3 (b := wr.heap.size + 1) hz2 nwr1 0).2.trans f0; have g1 := (grown_far hg3 (b := wr.heap.size + 1) hz2 nwr1 1).2.trans f1; have g2 := (grown_far hg3 (b := wr.heap.size + 1) hz2 nwr1 2).2.trans f2))
        rename_i hHeld
        obtain ⟨_, x0, x1, x2⟩ := hHeld
        obtain ⟨y0, y1, y2⟩ := put3 (.int .i64 y.1) (.string ⟨y.2.1.toArray⟩) (.string ⟨y.2.2.toArray⟩) q0 q1 q2
        have hB3 : Below w.heap.size w w3 := hbr2.drew.grown hg3 (by exact hzz) (fun j hj => by cases hj; omega)
        have hBf := ((hB3.setCell (p := ⟨wr.heap.size + 1, 0, none⟩) (by show w.heap.size ≤ wr.heap.size + 1; omega) (.int .i64 y.1)).setCell (p := ⟨wr.heap.size + 1, 1, none⟩) (by show w.heap.size ≤ wr.heap.size + 1; omega) (.string ⟨y.2.1.toArray⟩)).setCell (p := ⟨wr.heap.size + 1, 2, none⟩) (by show w.heap.size ≤ wr.heap.size + 1; omega) (.string ⟨y.2.2.toArray⟩)
        have hbdf0 := hbd3.far (((((Below.refl (w.heap.size + 2) w3).setCell (p := ⟨wr.heap.size + 1, 0, none⟩) (by show w.heap.size + 2 ≤ wr.heap.size + 1; omega) (.int .i64 y.1)).setCell (p := ⟨wr.heap.size + 1, 1, none⟩) (by show w.heap.size + 2 ≤ wr.heap.size + 1; omega) (.string ⟨y.2.1.toArray⟩)).setCell (p := ⟨wr.heap.size + 1, 2, none⟩) (by show w.heap.size + 2 ≤ wr.heap.size + 1; omega) (.string ⟨y.2.2.toArray⟩))) (by omega)
        have hbdf : Hid _ := hbdf0
        clear hbdf0 hbd3 hg3 hB3 q0 q1 q2 g0 g1 g2 a0 a1 a2 b0 b1 b2 f0 f1 f2 d0 hbd2 HB
        generalize ((w3.setCell ⟨wr.heap.size + 1, 0, none⟩ (.int .i64 y.1)).setCell ⟨wr.heap.size + 1, 1, none⟩ (.string ⟨y.2.1.toArray⟩)).setCell ⟨wr.heap.size + 1, 2, none⟩ (.string ⟨y.2.2.toArray⟩) = W at *
        cases hq : eqTB x.1 x.2.1 x.2.2 y.1 y.2.1 y.2.2
        · go_wp2_with fail
          go_ret
          exact ⟨ret_bool (by rw [hrest.out, hst.out, hf2.out, hq]; rfl), hBf⟩
        · go_wp2_with fail
          go_roundw
          case rel =>
            refine ⟨k + 1, by omega, by go_num, ?_, ?_, hBf⟩
            · show BoundAt _ _ _
              rw [HEE.out, he2.out]
              exact hbdf.out
            · show _ = _
              rw [hrest.out, hst.out, hf2.out, hq]; rfl
          case measure => simp [intOf]; omega
    · obtain rfl : k = 3 := by omega
      go_wp2_with fail
      go_ret
      exact ⟨ret_bool (by rw [hrest.out]; rfl), hbr⟩

theorem enters122 : ∀ args w, (callFunc 122 args).run Tryz.prog w = .ok (.enter 122 args) w := enters_of Tryz.func122 (by kernel_rfl) rfl

theorem askerM_any (p : Pt) (w : World) : Calls Tryz.prog 98 #[valPt p] w fun e w' => ∃ bx, e = .returned (.func (.func 122) #[] #[.pointer (some ⟨bx, 0, none⟩)]) ∧ PatAt w' bx p ∧ Below w.heap.size w w' := by
  have HS := slotsOf_any p
  unfold valPt at HS ⊢
  go_enter Tryz.func98, Tryz.ntmps98
  go_wp2_with fail
  refine (HS _).mono ?_
  rintro e w1 ⟨rfl, hb1⟩
  go_wp2_with fail
  go_ret
  refine ⟨w1.heap.size, rfl, fun j v hj => ?_, bstep (bstep (balloc _ _) hb1) (balloc _ _)⟩
  have h12 : j < 12 := (List.getElem?_eq_some_iff.1 hj).1
  rcases (by omega : j = 0 ∨ j = 1 ∨ j = 2 ∨ j = 3 ∨ j = 4 ∨ j = 5 ∨ j = 6 ∨ j = 7 ∨ j = 8 ∨ j = 9 ∨ j = 10 ∨ j = 11) with rfl | rfl | rfl | rfl | rfl | rfl | rfl | rfl | rfl | rfl | rfl | rfl
  all_goals
    simp [encPt] at hj
    subst hj
    go_simp
end Go.Proofs.YtbacenhgedopjaaGreatDoor

/- Lists of texts and of patterns in memory; a question as a value. -/
namespace Go.Proofs.YtbacenhgedopjaaGreatDoor
open Go Go.RowKit Go.Proofs Go.Maps
set_option synthInstance.maxSize 1000

/-- a slice holds a list of texts, wherever it begins -/
def SlW (w : World) (ad : Option Addr) (l : List (List UInt8)) : Prop := l ≠ [] → ∃ b o, ad = some ⟨b, o, none⟩ ∧ ∀ j (hj : j < l.length), w.cell? ⟨b, o + j, none⟩ = some (encV l[j])
theorem SlW.below {w w' : World} {ad : Option Addr} {l : List (List UInt8)} (h : SlW w ad l) (hb : RowKit.Below w.heap.size w w') : SlW w' ad l := fun hl => by
  obtain ⟨b, o, e, r⟩ := h hl
  exact ⟨b, o, e, fun j hj => (hb.cell (World.block_lt_of_cell? w _ (r j hj))).trans (r j hj)⟩
theorem SlW.at {w : World} {ad : Option Addr} {l : List (List UInt8)} (h : SlW w ad l) (k : Nat) (hk : k < l.length) : ∃ b o, ad = some ⟨b, o, none⟩ ∧ w.cell? ⟨b, o + k, none⟩ = some (.string ⟨l[k].toArray⟩) := by
  obtain ⟨b, o, e, r⟩ := h (fun e => by rw [e] at hk; simp at hk)
  exact ⟨b, o, e, r k hk⟩
theorem slW_nil (W : World) (ad : Option Addr) : SlW W ad [] := fun h => absurd rfl h
theorem SlV.w {w : World} {ad : Option Addr} {l : List (List UInt8)} (h : SlV w ad l) : SlW w ad l := fun hl => by
  obtain ⟨b, e, r⟩ := h hl
  exact ⟨b, 0, e, fun j hj => by rw [Nat.zero_add]; exact r j hj⟩
theorem SlW.take {w : World} {ad : Option Addr} {l : List (List UInt8)} (h : SlW w ad l) (k : Nat) : SlW w ad (l.take k) := fun hl => by
  have hne : l ≠ [] := fun e => by rw [e] at hl; simp at hl
  obtain ⟨b, o, e, r⟩ := h hne
  refine ⟨b, o, e, fun j hj => ?_⟩
  rw [List.length_take] at hj
  rw [List.getElem_take]
  exact r j (by omega)
theorem own_w {W : World} {base : Nat} {v : Value} {t : List (List UInt8)} (h : W.ownsRow base 9 1 v t.length (t.map encV)) : ∃ ad cap, v = .slice ad t.length cap ∧ SlW W ad t := by
  obtain ⟨ad, cap, e, hs⟩ := own_v h
  exact ⟨ad, cap, e, hs.w⟩

/-- the patterns of a list, cell by cell -/
def cellsPt (l : List Pt) : List Value := l.flatMap encPt
theorem encPt_len (x : Pt) : (encPt x).length = 12 := rfl
theorem encPt_one (x : Pt) : ∀ v ∈ encPt x, v.oneCell' = true := by
  intro v hv
  simp [encPt] at hv
  rcases hv with rfl | rfl | rfl | rfl | rfl | rfl | rfl | rfl | rfl | rfl | rfl | rfl <;> rfl
theorem cellsPt_len (l : List Pt) : (cellsPt l).length = l.length * 12 := by
  induction l with
  | nil => rfl
  | cons x r ih => simp only [cellsPt, List.flatMap_cons, List.length_append, List.length_cons] at *; rw [ih, encPt_len]; omega
theorem cellsPt_at (l : List Pt) (i : Nat) (h : i < l.length) (j : Nat) (hj : j < 12) : (cellsPt l)[i * 12 + j]? = (encPt l[i])[j]? := by
  induction l generalizing i with
  | nil => simp at h
  | cons x r ih =>
    simp only [cellsPt, List.flatMap_cons] at *
    cases i with
    | zero => rw [List.getElem?_append_left (by rw [encPt_len]; omega)]; simp
    | succ n =>
      rw [List.getElem?_append_right (by rw [encPt_len]; omega), encPt_len, show (n + 1) * 12 + j - 12 = n * 12 + j by omega, ih n (by simpa using h)]
      simp
def RowPt (w : World) (b o : Nat) (l : List Pt) : Prop := ∀ j v, (cellsPt l)[j]? = some v → w.cell? ⟨b, o + j, none⟩ = some v
theorem RowPt.below {w w' : World} {b o : Nat} {l : List Pt} (h : RowPt w b o l) (hb : RowKit.Below w.heap.size w w') : RowPt w' b o l := fun j v hv =>
  (hb.cell (World.block_lt_of_cell? w _ (h j v hv))).trans (h j v hv)
theorem RowPt.at {w : World} {b o : Nat} {l : List Pt} (h : RowPt w b o l) (i : Nat) (hi : i < l.length) : ∀ j v, (encPt l[i])[j]? = some v → w.cell? ⟨b, o + i * 12 + j, none⟩ = some v := fun j v hv => by
  have hj : j < 12 := (List.getElem?_eq_some_iff.1 hv).1
  rw [Nat.add_assoc]
  exact h _ v (by rw [cellsPt_at l i hi j hj]; exact hv)
/-- a slice holds a list of patterns -/
def SlPt (w : World) (ad : Option Addr) (l : List Pt) : Prop := l ≠ [] → ∃ b o, ad = some ⟨b, o, none⟩ ∧ RowPt w b o l
theorem SlPt.below {w w' : World} {ad : Option Addr} {l : List Pt} (h : SlPt w ad l) (hb : RowKit.Below w.heap.size w w') : SlPt w' ad l := fun hl => by
  obtain ⟨b, o, e, r⟩ := h hl
  exact ⟨b, o, e, r.below hb⟩
theorem SlPt.at {w : World} {ad : Option Addr} {l : List Pt} (h : SlPt w ad l) (i : Nat) (hi : i < l.length) : ∃ b o, ad = some ⟨b, o, none⟩ ∧ RowPt w b o l :=
  h (fun e => by rw [e] at hi; simp at hi)
theorem slPt_nil (W : World) (ad : Option Addr) : SlPt W ad [] := fun h => absurd rfl h
theorem own_slPt {W : World} {base : Nat} {e : TypeId} {v : Value} {t : List Pt} (h : W.ownsRow base e 12 v t.length (cellsPt t)) : ∃ ad cap, v = .slice ad t.length cap ∧ SlPt W ad t := by
  have h' := h
  rcases h.2 with ⟨rfl, h0⟩ | ⟨g, cap, cur, rfl, _⟩
  · exact ⟨none, 0, by rw [h0], fun hne => absurd (List.eq_nil_of_length_eq_zero h0) hne⟩
  · refine ⟨some ⟨g, 0, none⟩, cap, rfl, fun _ => ⟨g, 0, rfl, fun j u hj => ?_⟩⟩
    have := h'.cells (g := g) rfl j u hj
    rwa [Addr.add_lit] at this
theorem infoPt : (Tryz.prog.info? 32).map (fun i => (i.zero, i.size, i.bytes)) = some (some (.agg (encPt (([], tmZero), ([], tmZero), ([], tmZero))).toArray), 12, 168) := by kernel_rfl

/-- a question as a value: where its lists lie -/
def valQ (q : Qu) (vd : Option Addr) (vc : Nat) (pd : Option Addr) (pc : Nat) : Value := .agg #[.slice vd q.vars.length vc, .slice pd q.parts.length pc, .string ⟨q.order.toArray⟩, .bool q.down, .bool q.dist, .int .i64 q.lim]
/-- a question that is handed in, or answered -/
structure QuIn (w : World) (q : Qu) (vd pd : Option Addr) : Prop where
  vars : SlW w vd q.vars
  parts : SlPt w pd q.parts
theorem QuIn.below {w w' : World} {q : Qu} {vd pd : Option Addr} (h : QuIn w q vd pd) (hb : RowKit.Below w.heap.size w w') : QuIn w' q vd pd := ⟨h.vars.below hb, h.parts.below hb⟩
theorem hideQ {p : Prop} (h : p) : Hid p := h
/-- a question's box -/
structure BoxQ (w : World) (b : Nat) (q : Qu) (vd pd : Option Addr) (vc pc : Nat) : Prop where
  c0 : w.cell? ⟨b, 0, none⟩ = some (.slice vd q.vars.length vc)
  c1 : w.cell? ⟨b, 1, none⟩ = some (.slice pd q.parts.length pc)
  c2 : w.cell? ⟨b, 2, none⟩ = some (.string ⟨q.order.toArray⟩)
  c3 : w.cell? ⟨b, 3, none⟩ = some (.bool q.down)
  c4 : w.cell? ⟨b, 4, none⟩ = some (.bool q.dist)
  c5 : w.cell? ⟨b, 5, none⟩ = some (.int .i64 q.lim)
theorem BoxQ.below {w w' : World} {b : Nat} {q : Qu} {vd pd : Option Addr} {vc pc : Nat} (h : BoxQ w b q vd pd vc pc) (hb : RowKit.Below w.heap.size w w') : BoxQ w' b q vd pd vc pc := by
  have s : ∀ j v, w.cell? ⟨b, j, none⟩ = some v → w'.cell? ⟨b, j, none⟩ = some v := fun j v hv => (hb.cell (World.block_lt_of_cell? w _ hv)).trans hv
  exact ⟨s _ _ h.c0, s _ _ h.c1, s _ _ h.c2, s _ _ h.c3, s _ _ h.c4, s _ _ h.c5⟩
theorem boxQ_new (w : World) (q : Qu) (vd pd : Option Addr) (vc pc : Nat) : BoxQ (w.alloc (.cells #[.slice vd q.vars.length vc, .slice pd q.parts.length pc, .string ⟨q.order.toArray⟩, .bool q.down, .bool q.dist, .int .i64 q.lim] 26)) w.heap.size q vd pd vc pc :=
  ⟨by go_simp, by go_simp, by go_simp, by go_simp, by go_simp, by go_simp⟩
/-- its texts and lists are no longer than such may be -/
structure FitQ (q : Qu) : Prop where
  vl : q.vars.length ≤ 9223372036854775807
  pl : q.parts.length ≤ 9223372036854775807
  vt : ∀ v ∈ q.vars, v.length ≤ maxLen
  pt : ∀ p ∈ q.parts, fitPt p
  ord : q.order.length ≤ maxLen
  lim : (Lit.int .i64 q.lim).wf = true
end Go.Proofs.YtbacenhgedopjaaGreatDoor

/- Rows of terms, and lists of such rows, in memory. -/
namespace Go.Proofs.YtbacenhgedopjaaGreatDoor
open Go Go.RowKit Go.Proofs Go.Maps
set_option synthInstance.maxSize 1000

def encQ (x : Tm) : List Value := [.int .i64 x.1, .string ⟨x.2.1.toArray⟩, .string ⟨x.2.2.toArray⟩]
def valTQ (x : Tm) : Value := .agg #[.int .i64 x.1, .string ⟨x.2.1.toArray⟩, .string ⟨x.2.2.toArray⟩]
def cellsQ (l : List Tm) : List Value := l.flatMap encQ
theorem encQ_len (x : Tm) : (encQ x).length = 3 := rfl
theorem encQ_one (x : Tm) : ∀ v ∈ encQ x, v.oneCell' = true := by
  intro v hv
  simp [encQ] at hv
  rcases hv with rfl | rfl | rfl <;> rfl
theorem cellsQ_len (l : List Tm) : (cellsQ l).length = l.length * 3 := by
  induction l with
  | nil => rfl
  | cons x r ih => simp only [cellsQ, List.flatMap_cons, List.length_append, List.length_cons] at *; rw [ih, encQ_len]; omega
theorem cellsQ_at (l : List Tm) (i : Nat) (h : i < l.length) (j : Nat) (hj : j < 3) : (cellsQ l)[i * 3 + j]? = (encQ l[i])[j]? := by
  induction l generalizing i with
  | nil => simp at h
  | cons x r ih =>
    simp only [cellsQ, List.flatMap_cons] at *
    cases i with
    | zero => rw [List.getElem?_append_left (by rw [encQ_len]; omega)]; simp
    | succ n =>
      rw [List.getElem?_append_right (by rw [encQ_len]; omega), encQ_len, show (n + 1) * 3 + j - 3 = n * 3 + j by omega, ih n (by simpa using h)]
      simp
theorem cellsQ_app (a b : List Tm) : cellsQ (a ++ b) = cellsQ a ++ cellsQ b := by simp [cellsQ]
/-- a slice holds a list of terms -/
def SlQ (w : World) (ad : Option Addr) (l : List Tm) : Prop := l ≠ [] → ∃ b o, ad = some ⟨b, o, none⟩ ∧ ∀ j v, (cellsQ l)[j]? = some v → w.cell? ⟨b, o + j, none⟩ = some v
theorem SlQ.below {w w' : World} {ad : Option Addr} {l : List Tm} (h : SlQ w ad l) (hb : RowKit.Below w.heap.size w w') : SlQ w' ad l := fun hl => by
  obtain ⟨b, o, e, r⟩ := h hl
  exact ⟨b, o, e, fun j v hv => (hb.cell (World.block_lt_of_cell? w _ (r j v hv))).trans (r j v hv)⟩
theorem SlQ.at {w : World} {ad : Option Addr} {l : List Tm} (h : SlQ w ad l) (k : Nat) (hk : k < l.length) : ∃ b o, ad = some ⟨b, o, none⟩ ∧ w.cell? ⟨b, o + k * 3, none⟩ = some (.int .i64 l[k].1) ∧ w.cell? ⟨b, o + k * 3 + 1, none⟩ = some (.string ⟨l[k].2.1.toArray⟩) ∧ w.cell? ⟨b, o + k * 3 + 2, none⟩ = some (.string ⟨l[k].2.2.toArray⟩) := by
  obtain ⟨b, o, e, r⟩ := h (fun e => by rw [e] at hk; simp at hk)
  have hx : ∀ j (hj : j < 3) v, (encQ l[k])[j]? = some v → w.cell? ⟨b, o + k * 3 + j, none⟩ = some v := fun j hj v hv => by
    rw [Nat.add_assoc]
    exact r _ v (by rw [cellsQ_at l k hk j hj]; exact hv)
  exact ⟨b, o, e, hx 0 (by omega) _ rfl, hx 1 (by omega) _ rfl, hx 2 (by omega) _ rfl⟩
theorem slQ_nil (W : World) (ad : Option Addr) : SlQ W ad [] := fun h => absurd rfl h
theorem own_slQ {W : World} {base : Nat} {e : TypeId} {v : Value} {t : List Tm} (h : W.ownsRow base e 3 v t.length (cellsQ t)) : ∃ ad cap, v = .slice ad t.length cap ∧ SlQ W ad t := by
  have h' := h
  rcases h.2 with ⟨rfl, h0⟩ | ⟨g, cap, cur, rfl, _⟩
  · exact ⟨none, 0, by rw [h0], fun hne => absurd (List.eq_nil_of_length_eq_zero h0) hne⟩
  · refine ⟨some ⟨g, 0, none⟩, cap, rfl, fun _ => ⟨g, 0, rfl, fun j u hj => ?_⟩⟩
    have := h'.cells (g := g) rfl j u hj
    rwa [Addr.add_lit] at this
theorem infoQ : (Tryz.prog.info? 28).map (fun i => (i.zero, i.size, i.bytes)) = some (some (.agg (encQ tmZero).toArray), 3, 40) := by kernel_rfl
/-- a slice holds a list of rows -/
def SlR (w : World) (ad : Option Addr) (L : List (List Tm)) : Prop := L ≠ [] → ∃ b o, ad = some ⟨b, o, none⟩ ∧ ∀ j (hj : j < L.length), ∃ rd rc, w.cell? ⟨b, o + j, none⟩ = some (.slice rd L[j].length rc) ∧ SlQ w rd L[j]
theorem SlR.below {w w' : World} {ad : Option Addr} {L : List (List Tm)} (h : SlR w ad L) (hb : RowKit.Below w.heap.size w w') : SlR w' ad L := fun hl => by
  obtain ⟨b, o, e, r⟩ := h hl
  refine ⟨b, o, e, fun j hj => ?_⟩
  obtain ⟨rd, rc, c, s⟩ := r j hj
  exact ⟨rd, rc, (hb.cell (World.block_lt_of_cell? w _ c)).trans c, s.below hb⟩
theorem SlR.at {w : World} {ad : Option Addr} {L : List (List Tm)} (h : SlR w ad L) (k : Nat) (hk : k < L.length) : ∃ b o rd rc, ad = some ⟨b, o, none⟩ ∧ w.cell? ⟨b, o + k, none⟩ = some (.slice rd L[k].length rc) ∧ SlQ w rd L[k] := by
  obtain ⟨b, o, e, r⟩ := h (fun e => by rw [e] at hk; simp at hk)
  obtain ⟨rd, rc, c, s⟩ := r k hk
  exact ⟨b, o, rd, rc, e, c, s⟩
theorem slR_nil (W : World) (ad : Option Addr) : SlR W ad [] := fun h => absurd rfl h
/-- rows of one's own: a row of slices, each a row of terms; none of them is another one's -/
structure OwnR (W : World) (B : Nat) (v : Value) (L : List (List Tm)) (vs : List Value) : Prop where
  len : vs.length = L.length
  row : W.ownsRow B 33 1 v L.length vs
  each : ∀ j (h : j < L.length), W.ownsRow B 28 3 (vs[j]'(by omega)) L[j].length (cellsQ L[j])
theorem types_ne : (33 : Nat) ≠ 28 := by decide
/-- what owns blocks of two types shares none -/
theorem own_types {W : World} {B e e' s s' n n' : Nat} {v v' : Value} {cs cs' : List Value} (h : W.ownsRow B e s v n cs) (h' : W.ownsRow B e' s' v' n' cs') (hne : e ≠ e') : v'.ownBlock = none ∨ v'.ownBlock ≠ v.ownBlock := by
  rcases h'.2 with ⟨rfl, _⟩ | ⟨g', c', cur', rfl, _, hg', _⟩
  · exact Or.inl rfl
  · right
    intro hq
    rcases h.2 with ⟨rfl, _⟩ | ⟨g, c, cur, rfl, _, hg, _⟩
    · cases hq
    · have e1 : g' = g := by simpa [Value.ownBlock] using hq
      rw [e1, hg] at hg'
      injection hg' with hg'
      injection hg' with _ h2 _
      exact hne h2
theorem OwnR.below {W W' : World} {B : Nat} {v : Value} {L : List (List Tm)} {vs : List Value} (h : OwnR W B v L vs) (hb : RowKit.Below W.heap.size W W') : OwnR W' B v L vs := ⟨h.len, ownsRow_belowV h.row hb, fun j hj => ownsRow_belowV (h.each j hj) hb⟩
theorem OwnR.nil (W : World) (B : Nat) : OwnR W B (.slice none 0 0) [] [] := ⟨rfl, World.ownsRow_nil _ _ _ _, fun j h => by simp at h⟩
/-- one row more: the list of rows grew, the row was there -/
theorem OwnR.push {W W' : World} {B : Nat} {v v' : Value} {L : List (List Tm)} {vs : List Value} {r : List Tm} {u : Value} (h : OwnR W B v L vs) (hr : W.ownsRow B 28 3 u r.length (cellsQ r)) (hrow : W'.ownsRow B 33 1 v' (L ++ [r]).length (vs ++ [u])) (hg : W.grownBy W' v.ownBlock) : OwnR W' B v' (L ++ [r]) (vs ++ [u]) := by
  refine ⟨by simp [h.len], hrow, fun j hj => ?_⟩
  by_cases hjl : j < L.length
  · have e1 : (L ++ [r])[j] = L[j] := List.getElem_append_left hjl
    have e2 : (vs ++ [u])[j]'(by simp; have := h.len; omega) = vs[j]'(by have := h.len; omega) := List.getElem_append_left (by have := h.len; omega)
    rw [e1, e2]
    exact (h.each j hjl).kept hg (own_types h.row (h.each j hjl) types_ne)
  · have hjj : j = L.length := by simp at hj; omega
    subst hjj
    have e1 : (L ++ [r])[L.length] = r := by simp
    have e2 : (vs ++ [u])[L.length]'(by simp [h.len]) = u := by
      have := h.len
      rw [List.getElem_append_right (by omega)]
      simp [this]
    rw [e1, e2]
    exact hr.kept hg (own_types h.row hr types_ne)
theorem OwnR.sl {W : World} {B : Nat} {v : Value} {L : List (List Tm)} {vs : List Value} (h : OwnR W B v L vs) : ∃ ad cap, v = .slice ad L.length cap ∧ SlR W ad L := by
  rcases h.row.2 with ⟨rfl, h0⟩ | ⟨g, cap, cur, rfl, _⟩
  · exact ⟨none, 0, by rw [h0], fun hne => absurd (List.eq_nil_of_length_eq_zero h0) hne⟩
  · refine ⟨some ⟨g, 0, none⟩, cap, rfl, fun _ => ⟨g, 0, rfl, fun j hj => ?_⟩⟩
    have hjv : j < vs.length := by have := h.len; omega
    have hc := h.row.cells (g := g) rfl j vs[j] (List.getElem?_eq_getElem hjv)
    rw [Addr.add_lit] at hc
    obtain ⟨rd, rc, e, s⟩ := own_slQ (h.each j hj)
    rw [e] at hc
    exact ⟨rd, rc, hc, s⟩
end Go.Proofs.YtbacenhgedopjaaGreatDoor

/- match.Match and match.Count. -/
namespace Go.Proofs.YtbacenhgedopjaaGreatDoor
open Go Go.RowKit Go.Proofs Go.Maps
set_option synthInstance.maxSize 1000

attribute [local go_sem] eql_errV neq_errV guard_errV

/-- what Match tells, and which it is -/
def matchN (l : List Tr) (p : Pt) : Int := if sortedN l = 0 then varsN p else sortedN l
def matchL (l : List Tr) (p : Pt) : List Tr := l.filter (fitsB p)
def MatchAns (l : List Tr) (p : Pt) (m : List Tr) : Prop := m = if matchN l p = 0 then matchL l p else []

theorem patBox (w : World) (p : Pt) (T : TypeId) : PatAt (w.alloc (.cells (encPt p).toArray T)) w.heap.size p := fun j v hj => by
  have h12 : j < 12 := (List.getElem?_eq_some_iff.1 hj).1
  rcases (by omega : j = 0 ∨ j = 1 ∨ j = 2 ∨ j = 3 ∨ j = 4 ∨ j = 5 ∨ j = 6 ∨ j = 7 ∨ j = 8 ∨ j = 9 ∨ j = 10 ∨ j = 11) with rfl | rfl | rfl | rfl | rfl | rfl | rfl | rfl | rfl | rfl | rfl | rfl
  all_goals
    simp [encPt] at hj
    subst hj
    simp only [encPt]
    go_simp
theorem PatAt.all {w : World} {b : Nat} {p : Pt} (h : PatAt w b p) :
    w.cell? ⟨b, 0, none⟩ = some (.string ⟨p.1.1.toArray⟩) ∧ w.cell? ⟨b, 1, none⟩ = some (.int .i64 p.1.2.1) ∧ w.cell? ⟨b, 2, none⟩ = some (.string ⟨p.1.2.2.1.toArray⟩) ∧ w.cell? ⟨b, 3, none⟩ = some (.string ⟨p.1.2.2.2.toArray⟩) ∧
    w.cell? ⟨b, 4, none⟩ = some (.string ⟨p.2.1.1.toArray⟩) ∧ w.cell? ⟨b, 5, none⟩ = some (.int .i64 p.2.1.2.1) ∧ w.cell? ⟨b, 6, none⟩ = some (.string ⟨p.2.1.2.2.1.toArray⟩) ∧ w.cell? ⟨b, 7, none⟩ = some (.string ⟨p.2.1.2.2.2.toArray⟩) ∧
    w.cell? ⟨b, 8, none⟩ = some (.string ⟨p.2.2.1.toArray⟩) ∧ w.cell? ⟨b, 9, none⟩ = some (.int .i64 p.2.2.2.1) ∧ w.cell? ⟨b, 10, none⟩ = some (.string ⟨p.2.2.2.2.1.toArray⟩) ∧ w.cell? ⟨b, 11, none⟩ = some (.string ⟨p.2.2.2.2.2.toArray⟩) :=
  ⟨h _ _ rfl, h _ _ rfl, h _ _ rfl, h _ _ rfl, h _ _ rfl, h _ _ rfl, h _ _ rfl, h _ _ rfl, h _ _ rfl, h _ _ rfl, h _ _ rfl, h _ _ rfl⟩

theorem own_slM3 {W : World} {base : Nat} {e : TypeId} {v : Value} {t : List Tr} (h : W.ownsRow base e 9 v t.length (cellsT t)) : ∃ ad cap, v = .slice ad t.length cap ∧ SlT W ad t := by
  have h' := h
  rcases h.2 with ⟨rfl, h0⟩ | ⟨g, cap, cur, rfl, _⟩
  · exact ⟨none, 0, by rw [h0], fun hne => absurd (List.eq_nil_of_length_eq_zero h0) hne⟩
  · refine ⟨some ⟨g, 0, none⟩, cap, rfl, fun _ => ⟨g, 0, rfl, fun j u hj => ?_⟩⟩
    have := h'.cells (g := g) rfl j u hj
    rwa [Addr.add_lit] at this
theorem filter_stepM (l : List Tr) (p : Tr → Bool) (k : Nat) (h : k < l.length) : (l.take (k + 1)).filter p = (l.take k).filter p ++ (if p l[k] then [l[k]] else []) := by
  rw [List.take_succ_eq_append_getElem h, List.filter_append]
  cases hp : p l[k] <;> simp [hp]

set_option maxHeartbeats 8000000 in
set_option maxRecDepth 100000 in
theorem Match_any (ad : Option Addr) (cap : Nat) (l : List Tr) (p : Pt) (w : World) (h : SlT w ad l) (hfit : ∀ x ∈ l, fitTr x) (hp : fitPt p) (hn : l.length ≤ 9223372036854775807) :
    Calls Tryz.prog 69 #[.slice ad l.length cap, valPt p] w fun e w' => Below w.heap.size w w' ∧ ∃ m ad' cap', e = .returned (.tuple #[.slice ad' m.length cap', errV (matchN l p)]) ∧ SlT w' ad' m ∧ MatchAns l p m := by
  have HS := fun W hW => Sorted_any ad cap l W hW hfit hn
  have HV := fun W => Vars_any p W hp
  have HA := fun W => askerM_any p W
  have HF := fun bx x W (hW : PatAt W bx p) => fits_any bx p x W hW hp
  have Hl : Hid (SlT w ad l) := h
  have Hset : Hid (sortedN l = 0 → l.length ≤ 200) := fun h => (sortedN_set.1 h).1
  have fin : Hid (matchN l p = if sortedN l = 0 then varsN p else sortedN l) := rfl
  have hA : Hid (∀ m, (m = if matchN l p = 0 then matchL l p else []) → MatchAns l p m) := fun m h => h
  obtain ⟨i0, hi, hz⟩ := Option.map_eq_some_iff.1 infoTr
  simp only [Prod.mk.injEq] at hz
  obtain ⟨hz0, hz1, hz2⟩ := hz
  clear h hfit hp hn
  generalize MatchAns l p = A at *
  generalize matchN l p = N at *
  unfold valPt at HV HA ⊢
  cases hs : (sortedN l == 0)
  · go_enter Tryz.func69, Tryz.ntmps69
    go_wp2_with fail
    refine (HS _ (Hl.out.below (balloc _ _))).mono ?_
    rintro e w1 ⟨rfl, hb1⟩
    go_wp2_with fail
    simp at hs
    have hN : N = sortedN l := by rw [fin.out, if_neg hs]
    exact bodyPost_ret (v := .tuple #[.slice none 0 0, errV (sortedN l)]) (by simp [results, Tryz.results69, go_sem]) rfl ⟨bstep (balloc _ _) hb1, [], none, 0, by rw [hN]; rfl, fun h => absurd rfl h, hA.out _ (by rw [hN, if_neg hs])⟩
  · have hs0 : sortedN l = 0 := by simpa using hs
    have h200 := Hset.out hs0
    have hN : Hid (N = varsN p) := by show _ = _; rw [fin.out, if_pos hs0]
    clear hs0 Hset fin
    cases hv : (varsN p == 0)
    · go_enter Tryz.func69, Tryz.ntmps69
      go_wp2_with fail
      refine (HS _ (Hl.out.below (balloc _ _))).mono ?_
      rintro e w1 ⟨rfl, hb1⟩
      obtain ⟨p0, p1, p2, p3, p4, p5, p6, p7, p8, p9, p10, p11⟩ := ((patBox w p 32).below hb1).all
      go_wp2_with fail
      refine (HV _).mono ?_
      rintro e w2 ⟨hb2, m, ad', c', rfl, hm, hans⟩
      clear p0 p1 p2 p3 p4 p5 p6 p7 p8 p9 p10 p11
      go_wp2_with fail
      simp at hv
      exact bodyPost_ret (v := .tuple #[.slice none 0 0, errV (varsN p)]) (by simp [results, Tryz.results69, go_sem]) rfl ⟨bstep (bstep (balloc _ _) hb1) hb2, [], none, 0, by rw [hN.out]; rfl, fun h => absurd rfl h, hA.out _ (by rw [hN.out, if_neg hv])⟩
    · have hv0 : Hid (N = 0) := by show _ = _; rw [hN.out]; simpa using hv
      go_enter Tryz.func69, Tryz.ntmps69
      go_wp2_with fail
      refine (HS _ (Hl.out.below (balloc _ _))).mono ?_
      rintro e w1 ⟨rfl, hb1⟩
      have hpb : Hid (PatAt w1 w.heap.size p) := (patBox w p 32).below hb1
      obtain ⟨p0, p1, p2, p3, p4, p5, p6, p7, p8, p9, p10, p11⟩ := hpb.out.all
      go_wp2_with fail
      refine (HV _).mono ?_
      rintro e w2 ⟨hb2, m, ad', c', rfl, hm, hans⟩
      clear p0 p1 p2 p3 p4 p5 p6 p7 p8 p9 p10 p11 hm hans
      obtain ⟨p0, p1, p2, p3, p4, p5, p6, p7, p8, p9, p10, p11⟩ := (hpb.out.below hb2).all
      go_wp2_with fail
      refine (HA _).mono ?_
      rintro e w3 ⟨bx, rfl, hpat, hb3⟩
      have Hpat : Hid (PatAt w3 bx p) := hpat
      have hB3 : Hid (Below w.heap.size w w3) := bstep (bstep (bstep (balloc _ _) hb1) hb2) hb3
      have Hl3 : Hid (SlT w3 ad l) := Hl.out.below hB3.out
      have eg := enters122
      clear p0 p1 p2 p3 p4 p5 p6 p7 p8 p9 p10 p11 hpat hb1 hb2 hb3 hpb HS HV HA hs hv
      go_wp2_with fail
      go_loopw [9, 30] (fun v i wr => ∃ k : Nat, k ≤ l.length ∧ i = .int .i64 k ∧ Hid (wr.ownsRow w3.heap.size 58 9 v ((l.take k).filter (fitsB p)).length (cellsT ((l.take k).filter (fitsB p)))) ∧ Below w3.heap.size w3 wr) (fun _ i wr => l.length - (intOf i).toNat)
      case atStart => exact ⟨0, Nat.zero_le _, rfl, by show World.ownsRow _ _ _ _ _ _ _; rw [List.take_zero]; exact World.ownsRow_nil _ _ _ _, Below.refl _ _⟩
      case round =>
        obtain ⟨k, hk, rfl, hown, hbr⟩ := hrel
        by_cases hlt : k < l.length
        · obtain ⟨b, o, rfl, hr⟩ := (Hl3.out.below hbr).at k hlt
          obtain ⟨c0, c1, c2, c3, c4, c5, c6, c7, c8⟩ := hr.at k hlt
          have i0' : (0 : Int) ≤ (k : Int) := by omega
          have i1 : (k : Int) < (l.length : Int) := by omega
          have hstep : Hid _ := filter_stepM l (fitsB p) k hlt
          have hfil : ((l.take k).filter (fitsB p)).length ≤ k := Nat.le_trans (List.length_filter_le _ _) (by simp; omega)
          have H := fun W (hW : PatAt W bx p) => HF bx l[k] W hW
          have hzr := hbr.size
          generalize ht : (l.take (k + 1)).filter (fitsB p) = t1 at hstep
          have Ht : Hid _ := ht
          generalize (l.take k).filter (fitsB p) = t0 at *
          generalize l[k] = y at *
          clear hr ht
          cases hp : fitsB p y
          · rw [hp] at H
            have hs2 : Hid (t1 = t0) := by have := hstep.out; rw [hp] at this; simpa [Hid] using this
            unfold valTr at H
            go_wp2_with fail
            go_at_fn 122
            refine (H _ (Hpat.out.below (bstep hbr (balloc _ _)))).mono ?_
            rintro e w4 ⟨rfl, hb4⟩
            go_wp2_with fail
            go_roundw
            case rel =>
              refine ⟨k + 1, by omega, by go_num, ?_, bstep (bstep hbr (balloc _ _)) hb4⟩
              show World.ownsRow _ _ _ _ _ _ _
              rw [Ht.out, hs2.out]
              exact ownsRow_belowV (hown.out.alloc _) hb4
            case measure => simp [intOf]; omega
          · rw [hp] at H
            have hs2 : Hid (t1 = t0 ++ [y]) := by have := hstep.out; rw [hp] at this; simpa [Hid] using this
            unfold valTr at H
            go_wp2_with fail
            go_at_fn 122
            refine (H _ (Hpat.out.below (bstep hbr (balloc _ _)))).mono ?_
            rintro e w4 ⟨rfl, hb4⟩
            have hrow1 : Hid (w4.ownsRow w3.heap.size 58 9 _ t0.length (cellsT t0)) := ownsRow_belowV (hown.out.alloc _) hb4
            have hB1 := bstep (bstep hbr (balloc _ _)) hb4
            have hz1' := hB1.size
            obtain ⟨a0, a1, a2, b0, b1, b2, d0, d1, d2, hzz⟩ := ninebox hb4
            clear c0 c1 c2 c3 c4 c5 c6 c7 c8 hown
            go_wp2_with (at_builtin; refine wpList_append_own _ rfl _ _ 22 rfl w3.heap.size 58 i0 (.agg (encTr zeroTr).toArray) 9 120 Tryz.underlying22 hi hz0 hz1 hz2 rfl (by decide) _ _ _ rfl (hrow1.out.alloc _) ⟨w4.heap.size, 0, none⟩ 1 1 (encTr y) rfl rfl ?c1 ?c2 ?c3 ?c4 ?c5 ?_)
            case c1 =>
              intro i u hi'
              have h9 : i < 9 := (List.getElem?_eq_some_iff.1 hi').1
              rw [Addr.add_lit]
              rcases (by omega : i = 0 ∨ i = 1 ∨ i = 2 ∨ i = 3 ∨ i = 4 ∨ i = 5 ∨ i = 6 ∨ i = 7 ∨ i = 8) with rfl | rfl | rfl | rfl | rfl | rfl | rfl | rfl | rfl
              all_goals
                simp [encTr] at hi'
                subst hi'
                go_simp
            case c2 => exact encTr_one y
            case c3 => unfold maxLen; omega
            case c4 => omega
            case c5 => simp; omega
            intro v' w9 hown' hgrow _
            have hbel := (hB1.alloc hz1' (.cells (encTr y).toArray 58)).grown hgrow (by simp; omega) (fun k hk => (hrow1.out.lt k hk).1)
            go_wp2_with fail
            go_roundw
            case rel =>
              refine ⟨k + 1, by omega, by go_num, ?_, hbel⟩
              show World.ownsRow _ _ _ _ _ _ _
              rw [Ht.out, hs2.out]
              simpa [cellsT] using hown'
            case measure => simp [intOf]; omega
        · obtain rfl : k = l.length := by omega
          have hown' := hown.out
          rw [List.take_length] at hown'
          obtain ⟨ad', cap', rfl, hsl⟩ := own_slM3 hown'
          have Hsl : Hid (SlT wr ad' (matchL l p)) := hsl
          clear hown' hown hsl
          rw [show l.filter (fitsB p) = matchL l p from rfl]
          go_wp2_with fail
          exact bodyPost_ret (v := .tuple #[.slice ad' (matchL l p).length cap', .nilIface]) (by simp [results, Tryz.results69, go_sem]) rfl ⟨hB3.out.trans (hbr.mono hB3.out.size), matchL l p, ad', cap', by rw [hv0.out]; rfl, Hsl.out, hA.out _ (by rw [hv0.out]; rfl)⟩

/-- how many -/
def CountAns (l : List Tr) (p : Pt) : Nat := if matchN l p = 0 then (matchL l p).length else 0
end Go.Proofs.YtbacenhgedopjaaGreatDoor

/- A triple in a box; texts held against texts. -/
namespace Go.Proofs.YtbacenhgedopjaaGreatDoor
open Go Go.RowKit Go.Proofs Go.Maps
set_option synthInstance.maxSize 1000

def TripAt (w : World) (b : Nat) (t : Tr) : Prop := ∀ j v, (encTr t)[j]? = some v → w.cell? ⟨b, j, none⟩ = some v
theorem TripAt.below {w w' : World} {b : Nat} {t : Tr} (h : TripAt w b t) (hb : Below w.heap.size w w') : TripAt w' b t := fun j v hv => (hb.cell (World.block_lt_of_cell? w _ (h j v hv))).trans (h j v hv)
theorem tripBox (w : World) (t : Tr) (T : TypeId) : TripAt (w.alloc (.cells (encTr t).toArray T)) w.heap.size t := fun j v hj => by
  have h9 : j < 9 := (List.getElem?_eq_some_iff.1 hj).1
  rcases (by omega : j = 0 ∨ j = 1 ∨ j = 2 ∨ j = 3 ∨ j = 4 ∨ j = 5 ∨ j = 6 ∨ j = 7 ∨ j = 8) with rfl | rfl | rfl | rfl | rfl | rfl | rfl | rfl | rfl
  all_goals
    simp [encTr] at hj
    subst hj
    simp only [encTr]
    go_simp
theorem TripAt.all {w : World} {b : Nat} {t : Tr} (h : TripAt w b t) :
    w.cell? ⟨b, 0, none⟩ = some (.int .i64 t.1.1) ∧ w.cell? ⟨b, 1, none⟩ = some (.string ⟨t.1.2.1.toArray⟩) ∧ w.cell? ⟨b, 2, none⟩ = some (.string ⟨t.1.2.2.toArray⟩) ∧
    w.cell? ⟨b, 3, none⟩ = some (.int .i64 t.2.1.1) ∧ w.cell? ⟨b, 4, none⟩ = some (.string ⟨t.2.1.2.1.toArray⟩) ∧ w.cell? ⟨b, 5, none⟩ = some (.string ⟨t.2.1.2.2.toArray⟩) ∧
    w.cell? ⟨b, 6, none⟩ = some (.int .i64 t.2.2.1) ∧ w.cell? ⟨b, 7, none⟩ = some (.string ⟨t.2.2.2.1.toArray⟩) ∧ w.cell? ⟨b, 8, none⟩ = some (.string ⟨t.2.2.2.2.toArray⟩) :=
  ⟨h _ _ rfl, h _ _ rfl, h _ _ rfl, h _ _ rfl, h _ _ rfl, h _ _ rfl, h _ _ rfl, h _ _ rfl, h _ _ rfl⟩
theorem neqEmpty (v : List UInt8) (w : World) : (binOp .neq 9 (.string ⟨v.toArray⟩) (.string ⟨#[]⟩)).run Tryz.prog w = .ok (.bool (!v.isEmpty)) w := by
  cases v with
  | nil => kernel_rfl
  | cons c r => go_simp
theorem eqlEmpty (v : List UInt8) (w : World) : (binOp .eql 9 (.string ⟨v.toArray⟩) (.string ⟨#[]⟩)).run Tryz.prog w = .ok (.bool v.isEmpty) w := by
  cases v with
  | nil => kernel_rfl
  | cons c r => go_simp
theorem eqlStr (a b : List UInt8) (w : World) : (binOp .eql 9 (.string ⟨a.toArray⟩) (.string ⟨b.toArray⟩)).run Tryz.prog w = .ok (.bool (decide (a = b))) w := by
  by_cases h : a = b
  · subst h; go_simp
  · have h' : ¬ (⟨a.toArray⟩ : ByteArray) = ⟨b.toArray⟩ := fun e => h (by have := congrArg (fun s : ByteArray => s.data.toList) e; simpa using this)
    go_simp
theorem neqStr (a b : List UInt8) (w : World) : (binOp .neq 9 (.string ⟨a.toArray⟩) (.string ⟨b.toArray⟩)).run Tryz.prog w = .ok (.bool (!decide (a = b))) w := by
  by_cases h : a = b
  · subst h; go_simp
  · have h' : ¬ (⟨a.toArray⟩ : ByteArray) = ⟨b.toArray⟩ := fun e => h (by have := congrArg (fun s : ByteArray => s.data.toList) e; simpa using this)
    go_simp
end Go.Proofs.YtbacenhgedopjaaGreatDoor

/- The document's answer (package strataref1): letter, digit, Letters, right. -/
namespace Go.Proofs.YtbacenhgedopjaaGreatDoor
open Go Go.RowKit Go.Proofs

theorem letter_any (n : Int) (w : World) :
    Calls Tryz.prog 55 #[.int .u8 n] w fun e w' => e = .returned (.bool (letB n)) ∧ w' = w := by
  by_cases h1 : 97 ≤ n
  all_goals
    go_enter Tryz.func55, Tryz.ntmps55
    go_wp2
    go_ret
    exact ⟨ret_bool (by first | exact decide_eq_decide.2 (by omega) | exact (decide_eq_false (by omega)).symm), rfl⟩

theorem digit_any (n : Int) (w : World) :
    Calls Tryz.prog 56 #[.int .u8 n] w fun e w' => e = .returned (.bool (digB n)) ∧ w' = w := by
  by_cases h1 : 48 ≤ n
  all_goals
    go_enter Tryz.func56, Tryz.ntmps56
    go_wp2
    go_ret
    exact ⟨ret_bool (by first | exact decide_eq_decide.2 (by omega) | exact (decide_eq_false (by omega)).symm), rfl⟩

theorem allL_take (p : Int → Bool) (S : List UInt8) (k : Nat) (h : k < S.length) : allB p (S.take (k + 1)) = (allB p (S.take k) && p (S[k].toNat : Int)) := by
  unfold allB
  rw [List.take_succ_eq_append_getElem h]
  simp only [List.all_append, List.all_cons, List.all_nil, Bool.and_true]

theorem allL_false (p : Int → Bool) (S : List UInt8) (k : Nat) (h : k < S.length) (hp : p (S[k].toNat : Int) = false) : allB p S = false := by
  unfold allB
  rw [List.all_eq_false]
  exact ⟨S[k], List.getElem_mem _, by rw [hp]; simp⟩

/-- one to two letters -/
def lettersB (L : List UInt8) : Bool := !L.isEmpty && (decide (L.length ≤ 2) && allB letB L)

set_option maxHeartbeats 400000 in
theorem Letters_any (L : List UInt8) (w : World) (hl : L.length ≤ maxLen) :
    Calls Tryz.prog 35 #[.string ⟨L.toArray⟩, .int .i64 2] w fun e w' => e = .returned (.bool (lettersB L)) ∧ w' = w := by
  unfold maxLen at hl
  cases L with
  | nil =>
    go_enter Tryz.func35, Tryz.ntmps35
    go_wp2
    go_ret
    exact ⟨rfl, rfl⟩
  | cons c r =>
    have fin : Hid (lettersB (c :: r) = (decide ((c :: r).length ≤ 2) && allB letB (c :: r))) := rfl
    generalize hL : c :: r = L at *
    have hne : ¬ L = [] := by rw [← hL]; simp
    have hne' : L.isEmpty = false := by rw [← hL]; rfl
    clear hL
    by_cases h2 : L.length ≤ 2
    · go_enter Tryz.func35, Tryz.ntmps35
      go_wp2
      go_loop [5] (fun i => ∃ k : Nat, k ≤ L.length ∧ i = .int .i64 k ∧ Hid (allB letB (L.take k) = true)) (fun i => L.length - (intOf i).toNat)
      case atStart => exact ⟨0, Nat.zero_le _, rfl, rfl⟩
      case round =>
        obtain ⟨k, hk, rfl, hall⟩ := hrel
        by_cases hlt : k < L.length
        · have hidx : ∀ h, (⟨L.toArray⟩ : ByteArray)[k]'h = L[k] := fun _ => rfl
          cases hp : letB (L[k].toNat : Int)
          · go_wp2_with (go_at_call 55; refine (letter_any _ _).mono ?_; rintro e w' ⟨rfl, rfl⟩)
            go_ret
            exact ⟨ret_bool (by rw [fin.out, allL_false letB L k hlt hp]; simp), rfl⟩
          · go_wp2_with (go_at_call 55; refine (letter_any _ _).mono ?_; rintro e w' ⟨rfl, rfl⟩)
            refine ⟨⟨k + 1, by omega, by go_num, ?_⟩, by simp [intOf]; omega⟩
            show _ = _
            rw [allL_take letB L k hlt, hall.out, hp]; rfl
        · go_wp2
          go_ret
          have e := hall.out
          rw [List.take_of_length_le (by omega)] at e
          exact ⟨ret_bool (by rw [fin.out, e]; simp [h2]), rfl⟩
    · go_enter Tryz.func35, Tryz.ntmps35
      go_wp2
      go_ret
      exact ⟨ret_bool (by rw [fin.out]; simp [h2]), rfl⟩

set_option maxHeartbeats 1000000 in
theorem right_text (S : List UInt8) (w : World) (hl : S.length ≤ maxLen) :
    Calls Tryz.prog 34 #[.int .i64 3, .string ⟨S.toArray⟩] w fun e w' => e = .returned (.bool (textOk S)) ∧ w' = w := by
  unfold maxLen at hl
  cases S with
  | nil =>
    go_enter Tryz.func34, Tryz.ntmps34
    go_wp2
    go_ret
    exact ⟨rfl, rfl⟩
  | cons c r =>
    have fin : Hid (textOk (c :: r) = allB textB (c :: r)) := rfl
    generalize hL : c :: r = L at *
    have hne : ¬ L = [] := by rw [← hL]; simp
    have hne' : L.isEmpty = false := by rw [← hL]; rfl
    clear hL
    go_enter Tryz.func34, Tryz.ntmps34
    go_wp2
    go_loop [5] (fun i => ∃ k : Nat, k ≤ L.length ∧ i = .int .i64 k ∧ Hid (allB textB (L.take k) = true)) (fun i => L.length - (intOf i).toNat)
    case atStart => exact ⟨0, Nat.zero_le _, rfl, rfl⟩
    case round =>
      obtain ⟨k, hk, rfl, hall⟩ := hrel
      by_cases hlt : k < L.length
      · have hidx : ∀ h, (⟨L.toArray⟩ : ByteArray)[k]'h = L[k] := fun _ => rfl
        have ht : Hid (textB (L[k].toNat : Int) = decide (32 ≤ (L[k].toNat : Int) ∧ (L[k].toNat : Int) ≤ 126)) := rfl
        by_cases h1 : (L[k].toNat : Int) < 32
        · go_wp2_with (first
            | (go_at_call 55; refine (letter_any _ _).mono ?_; rintro e w' ⟨rfl, rfl⟩)
            | (go_at_call 56; refine (digit_any _ _).mono ?_; rintro e w' ⟨rfl, rfl⟩))
          go_ret
          exact ⟨ret_bool (by rw [fin.out, allL_false textB L k hlt (by rw [ht.out]; simp; omega)]), rfl⟩
        · by_cases h2 : 126 < (L[k].toNat : Int)
          · go_wp2_with (first
              | (go_at_call 55; refine (letter_any _ _).mono ?_; rintro e w' ⟨rfl, rfl⟩)
              | (go_at_call 56; refine (digit_any _ _).mono ?_; rintro e w' ⟨rfl, rfl⟩))
            go_ret
            exact ⟨ret_bool (by rw [fin.out, allL_false textB L k hlt (by rw [ht.out]; simp; omega)]), rfl⟩
          · go_wp2_with (first
              | (go_at_call 55; refine (letter_any _ _).mono ?_; rintro e w' ⟨rfl, rfl⟩)
              | (go_at_call 56; refine (digit_any _ _).mono ?_; rintro e w' ⟨rfl, rfl⟩))
            refine ⟨⟨k + 1, by omega, by go_num, ?_⟩, by simp [intOf]; omega⟩
            show _ = _
            rw [allL_take textB L k hlt, hall.out, ht.out]
            simp; omega
      · go_wp2
        go_ret
        have e := hall.out
        rw [List.take_of_length_le (by omega)] at e
        exact ⟨ret_bool (by rw [fin.out, e]), rfl⟩
end Go.Proofs.YtbacenhgedopjaaGreatDoor

/- The document's answer (package strataref1): right at a name and at an anonymous one; Term. -/
namespace Go.Proofs.YtbacenhgedopjaaGreatDoor
open Go Go.RowKit Go.Proofs

theorem anonOk_eq (L : List UInt8) (h : ¬ L = []) : anonOk L = allB anonB L := by cases L <;> simp_all [anonOk]
theorem nameOk_eq (L : List UInt8) (h : 0 < L.length) : nameOk L = (letB (L[0].toNat : Int) && allB nameB L) := by
  cases L with
  | nil => simp at h
  | cons => rfl

set_option maxHeartbeats 1000000 in
theorem right_anon (L : List UInt8) (w : World) (hl : L.length ≤ maxLen) :
    Calls Tryz.prog 34 #[.int .i64 2, .string ⟨L.toArray⟩] w fun e w' => e = .returned (.bool (anonOk L)) ∧ w' = w := by
  unfold maxLen at hl
  by_cases hne : L = []
  · subst hne
    go_enter Tryz.func34, Tryz.ntmps34
    go_wp2
    go_ret
    exact ⟨rfl, rfl⟩
  · have fin : Hid (anonOk L = allB anonB L) := anonOk_eq L hne
    have hne' : L.isEmpty = false := by simpa using hne
    go_enter Tryz.func34, Tryz.ntmps34
    go_wp2
    go_loop [5] (fun i => ∃ k : Nat, k ≤ L.length ∧ i = .int .i64 k ∧ Hid (allB anonB (L.take k) = true)) (fun i => L.length - (intOf i).toNat)
    case atStart => exact ⟨0, Nat.zero_le _, rfl, rfl⟩
    case round =>
      obtain ⟨k, hk, rfl, hall⟩ := hrel
      by_cases hlt : k < L.length
      · have hidx : ∀ h, (⟨L.toArray⟩ : ByteArray)[k]'h = L[k] := fun _ => rfl
        have ht : Hid (anonB (L[k].toNat : Int) = (letB (L[k].toNat : Int) || digB (L[k].toNat : Int))) := rfl
        cases ha : letB (L[k].toNat : Int)
        · cases hd : digB (L[k].toNat : Int)
          · go_wp2_with (first
              | (go_at_call 55; refine (letter_any _ _).mono ?_; rintro e w' ⟨rfl, rfl⟩)
              | (go_at_call 56; refine (digit_any _ _).mono ?_; rintro e w' ⟨rfl, rfl⟩))
            go_ret
            exact ⟨ret_bool (by rw [fin.out, allL_false anonB L k hlt (by rw [ht.out, ha, hd]; rfl)]), rfl⟩
          · go_wp2_with (first
              | (go_at_call 55; refine (letter_any _ _).mono ?_; rintro e w' ⟨rfl, rfl⟩)
              | (go_at_call 56; refine (digit_any _ _).mono ?_; rintro e w' ⟨rfl, rfl⟩))
            refine ⟨⟨k + 1, by omega, by go_num, ?_⟩, by simp [intOf]; omega⟩
            show _ = _
            rw [allL_take anonB L k hlt, hall.out, ht.out, ha, hd]; rfl
        · go_wp2_with (first
            | (go_at_call 55; refine (letter_any _ _).mono ?_; rintro e w' ⟨rfl, rfl⟩)
            | (go_at_call 56; refine (digit_any _ _).mono ?_; rintro e w' ⟨rfl, rfl⟩))
          refine ⟨⟨k + 1, by omega, by go_num, ?_⟩, by simp [intOf]; omega⟩
          show _ = _
          rw [allL_take anonB L k hlt, hall.out, ht.out, ha]; rfl
      · go_wp2
        go_ret
        have e := hall.out
        rw [List.take_of_length_le (by omega)] at e
        exact ⟨ret_bool (by rw [fin.out, e]), rfl⟩

set_option maxHeartbeats 2000000 in
theorem right_name (L : List UInt8) (w : World) (hl : L.length ≤ maxLen) :
    Calls Tryz.prog 34 #[.int .i64 1, .string ⟨L.toArray⟩] w fun e w' => e = .returned (.bool (nameOk L)) ∧ w' = w := by
  unfold maxLen at hl
  by_cases hne : L = []
  · subst hne
    go_enter Tryz.func34, Tryz.ntmps34
    go_wp2
    go_ret
    exact ⟨rfl, rfl⟩
  · have hpos : 0 < L.length := List.length_pos_iff.2 hne
    have fin : Hid (nameOk L = (letB (L[0].toNat : Int) && allB nameB L)) := nameOk_eq L hpos
    have hne' : L.isEmpty = false := by simpa using hne
    go_enter Tryz.func34, Tryz.ntmps34
    go_wp2
    go_loop [5] (fun i => ∃ k : Nat, k ≤ L.length ∧ i = .int .i64 k ∧ Hid (allB nameB (L.take k) = true ∧ (0 < k → letB (L[0].toNat : Int) = true))) (fun i => L.length - (intOf i).toNat)
    case atStart => exact ⟨0, Nat.zero_le _, rfl, rfl, by omega⟩
    case round =>
      obtain ⟨k, hk, rfl, hall⟩ := hrel
      by_cases hlt : k < L.length
      · have hidx : ∀ h, (⟨L.toArray⟩ : ByteArray)[k]'h = L[k] := fun _ => rfl
        have ht : Hid (nameB (L[k].toNat : Int) = (letB (L[k].toNat : Int) || digB (L[k].toNat : Int) || decide ((L[k].toNat : Int) = 58 ∨ (L[k].toNat : Int) = 47 ∨ (L[k].toNat : Int) = 46))) := rfl
        cases ha : letB (L[k].toNat : Int)
        · by_cases h0 : k = 0
          · subst h0
            have hi : (((0 : Nat) : Int) == 0) = true := rfl
            go_wp2_with (first
              | (go_at_call 55; refine (letter_any _ _).mono ?_; rintro e w' ⟨rfl, rfl⟩)
              | (go_at_call 56; refine (digit_any _ _).mono ?_; rintro e w' ⟨rfl, rfl⟩))
            go_ret
            exact ⟨ret_bool (by rw [fin.out, ha]; rfl), rfl⟩
          · have hi : ((k : Int) == 0) = false := by rw [beq_eq_false_iff_ne]; omega
            have h0' : Hid (letB (L[0].toNat : Int) = true) := hall.out.2 (by omega)
            clear h0
            cases hd : digB (L[k].toNat : Int)
            · cases h58 : ((L[k].toNat : Int) != 58)
              · go_wp2_with (first
                  | (go_at_call 55; refine (letter_any _ _).mono ?_; rintro e w' ⟨rfl, rfl⟩)
                  | (go_at_call 56; refine (digit_any _ _).mono ?_; rintro e w' ⟨rfl, rfl⟩))
                refine ⟨⟨k + 1, by omega, by go_num, ?_, fun _ => h0'.out⟩, by simp [intOf]; omega⟩
                simp at h58
                rw [allL_take nameB L k hlt, hall.out.1, ht.out]; simp [h58]
              · cases h47 : ((L[k].toNat : Int) != 47)
                · go_wp2_with (first
                    | (go_at_call 55; refine (letter_any _ _).mono ?_; rintro e w' ⟨rfl, rfl⟩)
                    | (go_at_call 56; refine (digit_any _ _).mono ?_; rintro e w' ⟨rfl, rfl⟩))
                  refine ⟨⟨k + 1, by omega, by go_num, ?_, fun _ => h0'.out⟩, by simp [intOf]; omega⟩
                  simp at h47
                  rw [allL_take nameB L k hlt, hall.out.1, ht.out]; simp [h47]
                · cases h46 : ((L[k].toNat : Int) != 46)
                  · go_wp2_with (first
                      | (go_at_call 55; refine (letter_any _ _).mono ?_; rintro e w' ⟨rfl, rfl⟩)
                      | (go_at_call 56; refine (digit_any _ _).mono ?_; rintro e w' ⟨rfl, rfl⟩))
                    refine ⟨⟨k + 1, by omega, by go_num, ?_, fun _ => h0'.out⟩, by simp [intOf]; omega⟩
                    simp at h46
                    rw [allL_take nameB L k hlt, hall.out.1, ht.out]; simp [h46]
                  · go_wp2_with (first
                      | (go_at_call 55; refine (letter_any _ _).mono ?_; rintro e w' ⟨rfl, rfl⟩)
                      | (go_at_call 56; refine (digit_any _ _).mono ?_; rintro e w' ⟨rfl, rfl⟩))
                    go_ret
                    simp at h58 h47 h46
                    exact ⟨ret_bool (by rw [fin.out, allL_false nameB L k hlt (by rw [ht.out, ha, hd]; simp [h58, h47, h46])]; simp), rfl⟩
            · go_wp2_with (first
                | (go_at_call 55; refine (letter_any _ _).mono ?_; rintro e w' ⟨rfl, rfl⟩)
                | (go_at_call 56; refine (digit_any _ _).mono ?_; rintro e w' ⟨rfl, rfl⟩))
              refine ⟨⟨k + 1, by omega, by go_num, ?_, fun _ => h0'.out⟩, by simp [intOf]; omega⟩
              rw [allL_take nameB L k hlt, hall.out.1, ht.out, ha, hd]; rfl
        · go_wp2_with (first
            | (go_at_call 55; refine (letter_any _ _).mono ?_; rintro e w' ⟨rfl, rfl⟩)
            | (go_at_call 56; refine (digit_any _ _).mono ?_; rintro e w' ⟨rfl, rfl⟩))
          refine ⟨⟨k + 1, by omega, by go_num, ?_, fun _ => ?_⟩, by simp [intOf]; omega⟩
          · rw [allL_take nameB L k hlt, hall.out.1, ht.out, ha]; rfl
          · by_cases h0 : k = 0
            · subst h0; exact ha
            · exact hall.out.2 (by omega)
      · go_wp2
        go_ret
        have e := hall.out.1
        rw [List.take_of_length_le (by omega)] at e
        exact ⟨ret_bool (by rw [fin.out, e, hall.out.2 (by omega)]; rfl), rfl⟩
end Go.Proofs.YtbacenhgedopjaaGreatDoor
