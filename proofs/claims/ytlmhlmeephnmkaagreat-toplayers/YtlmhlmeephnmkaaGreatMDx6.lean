import Derived.Test.YtlmhlmeephnmkaaGreatMCTopLayersx1
import Derived.Test.YtlmhlmeephnmkaaGreatMDx5
import Derived.Test.YtlmhlmeephnmkaaGreatMDx1
import Derived.Test.YtlmhlmeephnmkaaGreatMCTopLayersx3
import Derived.Test.YtlmhlmeephnmkaaGreatMA0x4
import Derived.Deep.DeepCutAuto
import Derived.Test.YtlmhlmeephnmkaaGreatMA0x0
import Derived.LaidEql
import Derived.Stop.Asserts
import Derived.RowKitTokens

/- TopLayers' closed fact: what is committed is asked. -/
namespace Go.Proofs.YtlmhlmeephnmkaaGreat
open Go Go.RowKit Go.Proofs
set_option synthInstance.maxSize 1000
attribute [local go_sem] eql_errV neq_errV guard_errV
attribute [local go_sem ↓] eqlTerm

def oneT : Tr := ((1, [97], []), (1, [98], []), (3, [99], []))
def oneP : Pt := (([], (1, [97], [])), ([], (1, [98], [])), ([120], tmZero))
def oneQ : Qu := ⟨[[120]], [oneP], [], false, false, -1⟩
set_option maxRecDepth 100000 in
theorem oneN : solveN [oneT] oneQ = 0 := by decide +kernel
set_option maxRecDepth 100000 in
theorem oneL : solveL [oneT] oneQ = [[(3, [99], [])]] := by decide +kernel
set_option maxRecDepth 100000 in
theorem oneE : commitE emptyR [109] [oneT] [] = 0 := by decide +kernel
theorem oneFit : FitQ oneQ := by
  refine ⟨by simp [oneQ], by simp [oneQ], ?_, ?_, by simp [oneQ], by decide⟩
  · intro v hv
    simp [oneQ] at hv
    subst hv
    simp; unfold maxLen; omega
  · intro p hp
    simp [oneQ] at hp
    subst hp
    refine ⟨⟨?_, ?_, ?_⟩, ⟨?_, ?_, ?_⟩, ⟨?_, ?_, ?_⟩⟩ <;> (simp [oneP, tmZero]; try (unfold maxLen; omega))
theorem oneTr : ∀ x ∈ [oneT], fitTr x := fun x hx => by
  simp at hx
  subst hx
  refine ⟨⟨?_, ?_⟩, ⟨?_, ?_⟩, ⟨?_, ?_⟩⟩ <;> (simp [oneT]; try (unfold maxLen; omega))
theorem oneSolve (xd vd pd : Option Addr) (xc vc pc : Nat) (w : World) (hx : SlT w xd [oneT]) (hv : SlW w vd [[120]]) (hp : SlPt w pd [oneP]) (hc : 1 ≤ vc) :
    Calls Tryz.prog 19 #[.slice xd 1 xc, .agg #[.slice vd 1 vc, .slice pd 1 pc, .string ⟨#[]⟩, .bool false, .bool false, .int .i64 (-1)]] w fun e w' => RowKit.Below w.heap.size w w' ∧ ∃ ad c, e = .returned (.tuple #[.slice ad 1 c, .nilIface]) ∧ SlR w' ad [[(3, [99], [])]] := by
  have := Solve_any xd xc [oneT] oneQ vd pd vc pc w hx oneTr (by simp) ⟨hv, hp⟩ oneFit hc
  unfold SolveAns at this
  rw [oneN, oneL] at this
  exact this.mono fun e w' ⟨h1, ad, c, h2, h3, _⟩ => ⟨h1, ad, c, h2, h3⟩
theorem slPt_oneT {w : World} {b : Nat} {p : Pt} (h : ∀ j v, (encPt p)[j]? = some v → w.cell? ⟨b, j, none⟩ = some v) : SlPt w (some ⟨b, 0, none⟩) [p] := fun _ => ⟨b, 0, rfl, fun j v hj => by rw [Nat.zero_add]; exact h j v (by simpa [cellsPt] using hj)⟩
theorem slW_oneT {w : World} {b : Nat} {v : List UInt8} (h : w.cell? ⟨b, 0, none⟩ = some (.string ⟨v.toArray⟩)) : SlW w (some ⟨b, 0, none⟩) [v] := fun _ => ⟨b, 0, rfl, fun j hj => by
  obtain rfl : j = 0 := by simpa using hj
  exact h⟩
theorem hide1 {p : Prop} (h : p) : Hid p := h
def oneW (w : World) : World := (w.alloc (.cells #[.int .i64 1, .string ⟨#[97]⟩, .string ⟨#[]⟩, .int .i64 1, .string ⟨#[98]⟩, .string ⟨#[]⟩, .int .i64 3, .string ⟨#[99]⟩, .string ⟨#[]⟩] 58)).alloc (.cells #[.int .i64 1, .string ⟨#[97]⟩, .string ⟨#[]⟩, .int .i64 1, .string ⟨#[98]⟩, .string ⟨#[]⟩, .int .i64 3, .string ⟨#[99]⟩, .string ⟨#[]⟩] 58)
def CellsO (W : World) (b : Nat) : Prop := ∀ j v, (encTr oneT)[j]? = some v → W.cell? ⟨b, j, none⟩ = some v
theorem CellsO.all {W : World} {b : Nat} (h : CellsO W b) : W.cell? ⟨b, 0, none⟩ = some (.int .i64 1) ∧ W.cell? ⟨b, 1, none⟩ = some (.string ⟨#[97]⟩) ∧ W.cell? ⟨b, 2, none⟩ = some (.string ⟨#[]⟩) ∧ W.cell? ⟨b, 3, none⟩ = some (.int .i64 1) ∧ W.cell? ⟨b, 4, none⟩ = some (.string ⟨#[98]⟩) ∧ W.cell? ⟨b, 5, none⟩ = some (.string ⟨#[]⟩) ∧ W.cell? ⟨b, 6, none⟩ = some (.int .i64 3) ∧ W.cell? ⟨b, 7, none⟩ = some (.string ⟨#[99]⟩) ∧ W.cell? ⟨b, 8, none⟩ = some (.string ⟨#[]⟩) :=
  ⟨h 0 _ rfl, h 1 _ rfl, h 2 _ rfl, h 3 _ rfl, h 4 _ rfl, h 5 _ rfl, h 6 _ rfl, h 7 _ rfl, h 8 _ rfl⟩
theorem CellsO.below {W W' : World} {b : Nat} (h : CellsO W b) (hb : RowKit.Below W.heap.size W W') : CellsO W' b := fun j v hv => (hb.cell (World.block_lt_of_cell? _ _ (h j v hv))).trans (h j v hv)
theorem oneW_has (w : World) : CellsO (oneW w) w.heap.size ∧ SlT (oneW w) (some ⟨w.heap.size + 1, 0, none⟩) [oneT] ∧ RowKit.Below w.heap.size w (oneW w) ∧ (oneW w).heap.size = w.heap.size + 2 := by
  refine ⟨?_, ?_, bstep (balloc _ _) (balloc _ _), ?_⟩
  · intro j v hj
    unfold oneW
    have h9 : j < 9 := (List.getElem?_eq_some_iff.1 hj).1
    rcases (by omega : j = 0 ∨ j = 1 ∨ j = 2 ∨ j = 3 ∨ j = 4 ∨ j = 5 ∨ j = 6 ∨ j = 7 ∨ j = 8) with rfl | rfl | rfl | rfl | rfl | rfl | rfl | rfl | rfl
    all_goals
      simp [encTr, oneT] at hj
      subst hj
      go_simp
  · intro _
    refine ⟨w.heap.size + 1, 0, rfl, fun j v hj => ?_⟩
    rw [Nat.zero_add]
    unfold oneW
    have h9 : j < 9 := (List.getElem?_eq_some_iff.1 hj).1
    rcases (by omega : j = 0 ∨ j = 1 ∨ j = 2 ∨ j = 3 ∨ j = 4 ∨ j = 5 ∨ j = 6 ∨ j = 7 ∨ j = 8) with rfl | rfl | rfl | rfl | rfl | rfl | rfl | rfl | rfl
    all_goals
      simp [cellsT, encTr, oneT] at hj
      subst hj
      go_simp
  · unfold oneW
    simp only [World.size_alloc]
def oneV (w : World) : World := ((w.alloc (.cells #[.string ⟨#[120]⟩] 9)).alloc (.cells #[.string ⟨#[]⟩, .int .i64 1, .string ⟨#[97]⟩, .string ⟨#[]⟩, .string ⟨#[]⟩, .int .i64 1, .string ⟨#[98]⟩, .string ⟨#[]⟩, .string ⟨#[120]⟩, .int .i64 0, .string ⟨#[]⟩, .string ⟨#[]⟩] 63)).alloc (.cells #[.slice (some ⟨w.heap.size, 0, none⟩) 1 1, .slice (some ⟨w.heap.size + 1, 0, none⟩) 1 1, .string ⟨#[]⟩, .bool false, .bool false, .int .i64 (-1)] 66)
theorem oneV_has (w : World) : SlW (oneV w) (some ⟨w.heap.size, 0, none⟩) [[120]] ∧ SlPt (oneV w) (some ⟨w.heap.size + 1, 0, none⟩) [oneP] ∧ RowKit.Below w.heap.size w (oneV w) := by
  refine ⟨slW_oneT ?_, slPt_oneT fun j v hj => ?_, bstep (bstep (balloc _ _) (balloc _ _)) (balloc _ _)⟩
  · unfold oneV
    go_simp
  · unfold oneV
    have h12 : j < 12 := (List.getElem?_eq_some_iff.1 hj).1
    rcases (by omega : j = 0 ∨ j = 1 ∨ j = 2 ∨ j = 3 ∨ j = 4 ∨ j = 5 ∨ j = 6 ∨ j = 7 ∨ j = 8 ∨ j = 9 ∨ j = 10 ∨ j = 11) with rfl | rfl | rfl | rfl | rfl | rfl | rfl | rfl | rfl | rfl | rfl | rfl
    all_goals
      simp [encPt, oneP, tmZero] at hj
      subst hj
      go_simp

set_option maxHeartbeats 16000000 in
set_option maxRecDepth 1000000 in
theorem topOne_any (F : RFace) (w : World) (hlim : 1 ≤ F.lim) : Calls Tryz.prog 4 #[] w fun e w' => e = .returned (.bool true) ∧ RowKit.Below w.heap.size w w' := by
  have HN := F.new w
  go_enter Tryz.func4, Tryz.ntmps4
  go_wp2_with fail
  refine HN.mono ?_
  rintro e w1 ⟨r, O, rfl, hA, hb1, hO⟩
  obtain ⟨o1, o2, o3, o4⟩ := oneW_has w1
  obtain ⟨y, nx⟩ := TLine.empty.next oneE
  have HC := F.commit (oneW w1) r O emptyR [109] (some ⟨w1.heap.size + 1, 0, none⟩) 1 [oneT] [] (F.below hA o3) goodR_empty ⟨o2, Nat.le_refl 1, oneTr, by unfold maxLen; simp, fun _ d hd hOd => by
    cases hd
    have h9 : w1.heap.size + 1 < w1.heap.size := F.own hA _ hOd
    omega⟩ hlim (Nat.zero_le _)
  rw [oneE, nx.num] at HC
  have hg := nx.line.good
  have hgr : graphE (commitR emptyR [109] [oneT] []) 0 = 0 ∧ graphL (commitR emptyR [109] [oneT] []) 0 = [oneT] := by
    have hin : inR (commitR emptyR [109] [oneT] []) 0 = true := inR_iff.2 ⟨by omega, by rw [nx.coms]; simp⟩
    refine ⟨by unfold graphE; rw [if_pos hin], ?_⟩
    unfold graphL
    rw [if_pos hin, nx.gr]
    rfl
  generalize commitR emptyR [109] [oneT] [] = R1 at *
  have HG := fun W O' (h : F.At W r O' R1) => F.graph W r O' R1 0 h hg
  rw [hgr.1, hgr.2] at HG
  have Ho1 := hide1 o1
  have Ho4 := hide1 o4
  have hB1 := hide1 (bstep hb1 o3)
  have hOw := hide1 (fun j (hj : O j) => F.own hA j hj)
  clear HN hg hgr nx o1 o2 o3 o4 hb1 hA
  have HC2 : Calls Tryz.prog 7 #[.pointer (some ⟨r, 0, none⟩), .string ⟨#[109]⟩, .slice (some ⟨w1.heap.size + 1, 0, none⟩) 1 1, .string ⟨#[]⟩] (oneW w1) fun e w' => e = .returned (.tuple #[.int .i64 0, .nilIface]) ∧ ∃ O' : Nat → Prop, F.At w' r O' R1 ∧ Offs O (oneW w1) w' ∧ ∀ j, O' j → O j ∨ (oneW w1).heap.size ≤ j := HC
  have hOl := hide1 hO
  clear HC hO
  dsimp only
  go_wp2_with fail
  refine HC2.mono ?_
  rintro e w4 ⟨rfl, O', hA', ho, _⟩
  have B4 := hide1 (hB1.out.trans (ho.below hOl.out hB1.out.size))
  have X4 := hide1 (show CellsO w4 w1.heap.size from fun j v hv => (World.cell?_of_block (w := oneW w1) (ho.block w1.heap.size (by rw [Ho4.out]; omega) (fun hj => by have := hOw.out _ hj; omega))).trans (Ho1.out j v hv))
  have HA' := hide1 hA'
  clear HC2 ho hA' hB1 Ho1 Ho4 hOw hOl
  dsimp only
  go_wp2_with fail
  refine (HG _ O' HA'.out).mono ?_
  rintro e w5 ⟨gd, gc, rfl, hgs, hb5⟩
  have B5 := hide1 (bstep B4.out hb5)
  have X5 := hide1 (X4.out.below hb5)
  obtain ⟨v1, v2, v3⟩ := oneV_has w5
  have HSv := oneSolve gd (some ⟨w5.heap.size, 0, none⟩) (some ⟨w5.heap.size + 1, 0, none⟩) gc 1 1 (oneV w5) (hgs.below v3) v1 v2 (Nat.le_refl 1)
  have B6 := hide1 (bstep B5.out v3)
  have X6 := hide1 (X5.out.below v3)
  have XA := fun o => (X5.out.below (balloc w5 o)).all
  have x0 := fun o => (XA o).1
  have x1 := fun o => (XA o).2.1
  have x2 := fun o => (XA o).2.2.1
  have x3 := fun o => (XA o).2.2.2.1
  have x4 := fun o => (XA o).2.2.2.2.1
  have x5 := fun o => (XA o).2.2.2.2.2.1
  clear XA
  clear HG HA' B4 X4 hb5 v1 v2 v3 hgs B5 X5
  dsimp only [errV, List.length_cons, List.length_nil]
  go_wp2_with fail
  refine HSv.mono ?_
  rintro e w7 ⟨hb7, ad, c, rfl, hr⟩
  obtain ⟨b1, o1, rd, rc, rfl, k1, s1⟩ := hr.at 0 (by simp)
  obtain ⟨b2, o2, rfl, k2, k3, k4⟩ := s1.at 0 (by simp)
  simp only [List.getElem_cons_zero, List.length_cons, List.length_nil, Nat.zero_mul, Nat.add_zero, Nat.zero_add] at k1 k2 k3 k4
  have hB7 := bstep B6.out hb7
  obtain ⟨z0, z1, z2, z3, z4, z5, z6, z7, z8⟩ := (X6.out.below hb7).all
  obtain ⟨y, hy⟩ : ∃ y : Tm, y = (3, [99], []) := ⟨_, rfl⟩
  have g2 : w7.cell? ⟨b2, o2, none⟩ = some (.int .i64 y.1) := by rw [hy]; exact k2
  have g3 : w7.cell? ⟨b2, o2 + 1, none⟩ = some (.string ⟨y.2.1.toArray⟩) := by rw [hy]; exact k3
  have g4 : w7.cell? ⟨b2, o2 + 2, none⟩ = some (.string ⟨y.2.2.toArray⟩) := by rw [hy]; exact k4
  have h6 : w7.cell? ⟨w1.heap.size, 6, none⟩ = some (.int .i64 y.1) := by rw [hy]; exact z6
  have h7 : w7.cell? ⟨w1.heap.size, 7, none⟩ = some (.string ⟨y.2.1.toArray⟩) := by rw [hy]; exact z7
  have h8 : w7.cell? ⟨w1.heap.size, 8, none⟩ = some (.string ⟨y.2.2.toArray⟩) := by rw [hy]; exact z8
  have tE : eqTB y.1 y.2.1 y.2.2 y.1 y.2.1 y.2.2 = true := by simp [eqTB]
  clear HSv hr s1 k2 k3 k4 z0 z1 z2 z3 z4 z5 z6 z7 z8 hy x0 x1 x2 x3 x4 x5 B6 X6 hb7
  dsimp only
  go_wp2_with fail
  go_region
  go_wp2
  go_ret
  exact ⟨rfl, hB7.drew⟩
end Go.Proofs.YtlmhlmeephnmkaaGreat

/- The program's patch: printLines, Print. -/
namespace Go.Proofs.YtlmhlmeephnmkaaGreat
open Go Go.RowKit Go.Proofs
set_option synthInstance.maxSize 1000
attribute [local go_sem] eql_errV neq_errV guard_errV

theorem linesP_step (t : Bool) (m : List Tr) (k : Nat) (h : k < m.length) : linesP t (m.take (k + 1)) = linesP t (m.take k) ++ lineP t m[k] := by
  rw [List.take_succ_eq_append_getElem h, linesP_app]
  simp [linesP]
theorem strL (a b c : List UInt8) : ((⟨a.toArray⟩ : ByteArray) ++ (⟨b.toArray⟩ : ByteArray)) ++ (⟨c.toArray⟩ : ByteArray) = ⟨(a ++ b ++ c).toArray⟩ := by rw [str_app, str_app]

theorem rowB_below {W W' : World} {base : Nat} {e : TypeId} {sz : Nat} {v : Value} {n : Nat} {cs : List Value} (h : W.ownsRow base e sz v n cs) (hb : RowKit.Below W.heap.size W W') : W'.ownsRow base e sz v n cs :=
  h.kept (row := none) ⟨hb.os, hb.tape, hb.output, hb.size, fun i hi _ => hb.block i hi⟩ (Classical.em _)
theorem builder_below {T e : TypeId} {B b : Nat} {bs : List Value} {w w' : World} (h : Lib.IsBuilder T e B b bs w) (hb : RowKit.Below w.heap.size w w') : Lib.IsBuilder T e B b bs w' := by
  rcases h with h | h
  · have hl := h.lt
    obtain ⟨h1, v, h2, h3, h4⟩ := h
    exact .inl ⟨h1, v, (hb.block _ hl).trans h2, rowB_below h3 hb, h4⟩
  · have hl := h.lt
    obtain ⟨h1, v, h2, h3, h4⟩ := h
    exact .inr ⟨h1, v, (hb.block _ hl).trans h2, rowB_below h3 hb, h4⟩

set_option maxHeartbeats 4000000 in
set_option maxRecDepth 100000 in
theorem PLines_any (t : Bool) (ad : Option Addr) (ca : Nat) (m : List Tr) (w : World) (h : SlT w ad m) (hc : ∀ x ∈ m, chkTr x = 0) (hf : ∀ x ∈ m, fitTr x) (hm : m.length ≤ 200) :
    Calls Tryz.prog 36 #[.string ⟨#[markP t, 32]⟩, .slice ad m.length ca] w fun e w' => e = .returned (.tuple #[.string ⟨(linesP t m).toArray⟩, .nilIface]) ∧ RowKit.Below w.heap.size w w' := by
  have Hl : Hid (SlT w ad m) := h
  have Hc : Hid (∀ x ∈ m, chkTr x = 0) := hc
  have Hf : Hid (∀ x ∈ m, fitTr x) := hf
  have hB0 := Lib.fresh_isBuilder 136 5 w
  have HB0 : Hid _ := hB0
  clear h hc hf hB0
  go_enter Tryz.func36, Tryz.ntmps36
  go_wp2_with fail
  go_loopw [13] (fun i wr => ∃ k : Nat, k ≤ m.length ∧ i = .int .i64 k ∧ Hid (Lib.IsBuilder 136 5 w.heap.size w.heap.size (Lib.byteCells (linesP t (m.take k))) wr) ∧ RowKit.Below w.heap.size w wr) (fun i wr => m.length - (intOf i).toNat)
  case atStart => exact ⟨0, Nat.zero_le _, rfl, HB0.out, balloc _ _⟩
  case round =>
    obtain ⟨k, hk, rfl, hI, hbr⟩ := hrel
    by_cases hlt : k < m.length
    · obtain ⟨b, o, rfl, hr⟩ := (Hl.out.below hbr).at k hlt
      obtain ⟨d0, d1, d2, d3, d4, d5, d6, d7, d8⟩ := hr.at k hlt
      have i0 : (0 : Int) ≤ (k : Int) := by omega
      have i1 : (k : Int) < (m.length : Int) := by omega
      have hstep : Hid _ := linesP_step t m k hlt
      have hfew : Hid (_ ≤ _) := lines_few t (m.take k) fun x hx => Hc.out x (List.mem_of_mem_take hx)
      have hshow := show_few (Hc.out m[k] (List.getElem_mem hlt))
      have HP := fun W => TPrint_good m[k] W (Hf.out m[k] (List.getElem_mem hlt)) (Hc.out m[k] (List.getElem_mem hlt))
      have hzr := hbr.size
      unfold valTr at HP
      generalize m[k] = y at *
      clear hr
      go_wp2_with fail
      refine (HP _).mono ?_
      rintro e w1 ⟨rfl, hb1⟩
      dsimp only
      go_wp2_with fail
      have hcat : ((⟨#[markP t, 32]⟩ : ByteArray) ++ (⟨(showTr y).toArray⟩ : ByteArray)) ++ (⟨#[10]⟩ : ByteArray) = ⟨(lineP t y).toArray⟩ := (strL [markP t, 32] (showTr y) [10]).trans (by simp [lineP])
      rw [hcat]
      have hB1 : RowKit.Below wr.heap.size wr w1 := bstep (balloc _ _) hb1
      have hI1 := builder_below hI.out hB1
      have hlen : (linesP t (m.take k)).length + (lineP t y).length ≤ 140737488355328 := by
        have h1 := hfew.out
        have h2 : (m.take k).length ≤ k := List.length_take_le _ _
        have h3 : (lineP t y).length = (showTr y).length + 3 := by simp [lineP]
        omega
      have hz1 : w.heap.size ≤ w1.heap.size := Nat.le_trans hzr hB1.size
      have hbr1 := bstep hbr hB1
      refine (WriteString_any w.heap.size w.heap.size _ _ _ hI1 hlen hz1).mono ?_
      clear hI1 hlen hcat hI
      rintro e w2 ⟨⟨v, rfl⟩, hI2, hb2⟩
      rw [← hstep.out] at hI2
      have HI2 : Hid _ := hI2
      clear hI2
      dsimp only
      go_wp2_with fail
      exact ⟨⟨k + 1, by omega, by go_num, Or.inr HI2.out, hbr1.trans hb2⟩, by simp [intOf]; omega⟩
    · obtain rfl : k = m.length := by omega
      have hI' := hI.out
      rw [List.take_length] at hI'
      have hsz := hbr.size
      go_wp2_with fail
      refine (Tryz.Builder_String_any w.heap.size w.heap.size _ _ hI' hsz).mono ?_
      rintro e w3 ⟨rfl, hb3⟩
      go_wp2_with fail
      exact bodyPost_ret (v := .tuple #[.string ⟨(linesP t m).toArray⟩, .nilIface]) (by simp [results, Tryz.results36, go_sem]) rfl ⟨rfl, hbr.trans hb3⟩

set_option maxHeartbeats 4000000 in
set_option maxRecDepth 100000 in
theorem PPrint_any (a1 a2 : Option Addr) (c1 c2 : Nat) (l : LyP) (w : World) (h : LayIn w a1 a2 l) :
    Calls Tryz.prog 14 #[.agg #[.slice a1 l.1.length c1, .slice a2 l.2.length c2]] w fun e w' => e = .returned (.tuple #[.string ⟨(printP l).toArray⟩, errV (apartN l.1 l.2)]) ∧ RowKit.Below w.heap.size w w' := by
  have n1 := h.lenA
  have n2 := h.lenT
  unfold maxLen at n1 n2
  have HC := fun W (hW : RowKit.Below w.heap.size w W) => LCheck_any a1 a2 c1 c2 l.1 l.2 W (h.add.below hW) (h.take.below hW) h.fitA h.fitT (by omega) (by omega)
  by_cases h0 : apartN l.1 l.2 = 0
  · have hg := apart_good.1 h0
    have hp : printP l = linesP true l.2 ++ linesP false l.1 := if_pos h0
    have f1 := lines_few true l.2 hg.take.2.1
    have f2 := lines_few false l.1 hg.add.2.1
    have g1 := hg.add.1
    have g2 := hg.take.1
    have HT : ∀ W, RowKit.Below w.heap.size w W → Calls Tryz.prog 36 #[.string ⟨#[45, 32]⟩, .slice a2 l.2.length c2] W fun e w' => e = .returned (.tuple #[.string ⟨(linesP true l.2).toArray⟩, .nilIface]) ∧ RowKit.Below W.heap.size W w' := fun W hW => PLines_any true a2 c2 l.2 W (h.take.below hW) hg.take.2.1 h.fitT hg.take.1
    have HA : ∀ W, RowKit.Below w.heap.size w W → Calls Tryz.prog 36 #[.string ⟨#[43, 32]⟩, .slice a1 l.1.length c1] W fun e w' => e = .returned (.tuple #[.string ⟨(linesP false l.1).toArray⟩, .nilIface]) ∧ RowKit.Below W.heap.size W w' := fun W hW => PLines_any false a1 c1 l.1 W (h.add.below hW) hg.add.2.1 h.fitA hg.add.1
    rw [h0] at HC ⊢
    rw [hp]
    rw [show errV 0 = .nilIface from rfl] at HC ⊢
    clear h hg hp h0
    generalize linesP true l.2 = x at *
    generalize linesP false l.1 = y at *
    have lx : x.length ≤ 1000000 := by omega
    have ly : y.length ≤ 1000000 := by omega
    have fin : Hid ((⟨x.toArray⟩ : ByteArray) ++ (⟨y.toArray⟩ : ByteArray) = ⟨(x ++ y).toArray⟩) := str_app x y
    generalize x ++ y = xy at *
    clear f1 f2 g1 g2
    go_enter Tryz.func14, Tryz.ntmps14
    go_wp2_with fail
    refine (HC _ (balloc _ _)).mono ?_
    rintro e w1 ⟨rfl, hb1⟩
    have hB1 := bstep (balloc _ _) hb1
    obtain ⟨z0, z1, hz, _, _⟩ := twobox hb1
    dsimp only
    go_wp2_with fail
    refine (HT _ hB1).mono ?_
    rintro e w2 ⟨rfl, hb2⟩
    have hB2 := bstep hB1 hb2
    obtain ⟨kc, _⟩ := bcell hb2
    have y0 := (kc _ 0 hz).trans z0
    have y1 := (kc _ 1 hz).trans z1
    clear kc z0 z1
    dsimp only
    go_wp2_with fail
    refine (HA _ hB2).mono ?_
    rintro e w3 ⟨rfl, hb3⟩
    dsimp only
    go_wp2_with fail
    exact bodyPost_ret (v := .tuple #[.string ⟨xy.toArray⟩, .nilIface]) (by simp [results, Tryz.results14, go_sem, fin.out]) rfl ⟨rfl, bstep hB2 hb3⟩
  · have hp : printP l = [] := if_neg h0
    have hN : (apartN l.1 l.2 == 0) = false := by simpa using h0
    rw [hp]
    clear h h0 hp
    generalize apartN l.1 l.2 = N at *
    go_enter Tryz.func14, Tryz.ntmps14
    go_wp2_with fail
    refine (HC _ (balloc _ _)).mono ?_
    rintro e w1 ⟨rfl, hb1⟩
    dsimp only
    go_wp2_with fail
    exact bodyPost_ret (v := .tuple #[.string ⟨#[]⟩, errV N]) (by simp [results, Tryz.results14, go_sem]) rfl ⟨rfl, bstep (balloc _ _) hb1⟩
end Go.Proofs.YtlmhlmeephnmkaaGreat

/- A text read line by line, in plain words: what each line does to the layer so far. -/
namespace Go.Proofs.YtlmhlmeephnmkaaGreat
open Go Go.RowKit Go.Proofs
set_option synthInstance.maxSize 1000

/-- what is wrong with a line that has its end -/
def lineE (l : LyP) (x : List UInt8) : Int := if x.getLast? = some 10 then lineN l x.dropLast else 2
def lineY (l : LyP) (x : List UInt8) : LyP := lineL l x.dropLast
/-- lines that are all right: what they come to -/
def okFrom : LyP → List (List UInt8) → Option LyP
  | l, [] => some l
  | l, x :: r => if lineE l x = 0 then okFrom (lineY l x) r else none
theorem okFrom_snoc (a : List (List UInt8)) (x : List UInt8) : ∀ (l m : LyP), okFrom l a = some m → okFrom l (a ++ [x]) = if lineE m x = 0 then some (lineY m x) else none := by
  induction a with
  | nil => intro l m h; simp only [okFrom, Option.some.injEq] at h; subst h; simp [okFrom]
  | cons y r ih =>
    intro l m h
    unfold okFrom at h
    split at h
    · rename_i hy
      rw [List.cons_append, okFrom, if_pos hy]
      exact ih _ _ h
    · cases h
theorem lineE_end (l : LyP) (u : List UInt8) : lineE l (u ++ [10]) = lineN l u ∧ lineY l (u ++ [10]) = lineL l u := by
  unfold lineE lineY
  simp
theorem lineE_no {l : LyP} {x : List UInt8} (h : ∀ c ∈ x, c ≠ 10) : lineE l x = 2 := by
  unfold lineE
  rw [if_neg]
  intro e
  exact h 10 (List.mem_of_getLast? e) rfl
theorem readF_done (f : Nat) : ∀ (s : List UInt8) (l m : LyP) (n : Nat), s.length ≤ f → okFrom l (lnsF f s) = some m → readF f s l n = (0, 0, m) := by
  induction f with
  | zero =>
    intro s l m n hs h
    have : s = [] := List.eq_nil_of_length_eq_zero (by omega)
    subst this
    simp [lnsF, okFrom] at h
    subst h
    rfl
  | succ f ih =>
    intro s l m n hs h
    cases s with
    | nil =>
      rw [lnsF_nil] at h
      simp [okFrom] at h
      subst h
      rfl
    | cons c r =>
      rw [lnsF_cons] at h
      rw [readF_cons]
      cases hc : cutN (c :: r) with
      | none =>
        rw [hc] at h
        dsimp only at h
        rw [okFrom, lineE_no (cutN_none hc), if_neg (by decide)] at h
        cases h
      | some p =>
        obtain ⟨u, t⟩ := p
        have hl := cutN_len hc
        rw [hc] at h
        dsimp only at h ⊢
        rw [okFrom, (lineE_end l u).1, (lineE_end l u).2] at h
        split at h
        · rename_i h0
          rw [if_neg (by simp [h0])]
          exact ih t _ m (n + 1) (by omega) h
        · cases h
theorem readF_stop (f : Nat) : ∀ (s : List UInt8) (l m : LyP) (n : Nat) (q : List (List UInt8)) (x : List UInt8), s.length ≤ f → q ++ [x] <+: lnsF f s → okFrom l q = some m → lineE m x ≠ 0 → readF f s l n = (lineE m x, n + q.length, ([], [])) := by
  induction f with
  | zero =>
    intro s l m n q x hs hp _ _
    simp [lnsF] at hp
  | succ f ih =>
    intro s l m n q x hs hp hq hx
    cases s with
    | nil => rw [lnsF_nil] at hp; simp at hp
    | cons c r =>
      rw [lnsF_cons] at hp
      rw [readF_cons]
      cases hc : cutN (c :: r) with
      | none =>
        rw [hc] at hp
        dsimp only at hp ⊢
        cases q with
        | nil =>
          simp only [okFrom, Option.some.injEq] at hq
          subst hq
          obtain ⟨z, hz⟩ := hp
          simp at hz
          obtain ⟨rfl, _⟩ := hz
          rw [lineE_no (cutN_none hc)]
          simp
        | cons y q' =>
          obtain ⟨z, hz⟩ := hp
          have := congrArg List.length hz
          simp at this
      | some p =>
        obtain ⟨u, t⟩ := p
        have hl := cutN_len hc
        rw [hc] at hp
        dsimp only at hp ⊢
        cases q with
        | nil =>
          simp only [okFrom, Option.some.injEq] at hq
          subst hq
          obtain ⟨z, hz⟩ := hp
          simp at hz
          obtain ⟨rfl, _⟩ := hz
          rw [(lineE_end l u).1] at hx ⊢
          rw [if_pos hx]
          rfl
        | cons y q' =>
          obtain ⟨z, hz⟩ := hp
          simp only [List.cons_append, List.cons.injEq] at hz
          obtain ⟨rfl, hz⟩ := hz
          rw [okFrom, (lineE_end l u).1, (lineE_end l u).2] at hq
          split at hq
          · rename_i h0
            rw [if_neg (by simp [h0])]
            have := ih t _ m (n + 1) q' x (by omega) ⟨z, hz⟩ hq hx
            rw [this, List.length_cons]
            simp [Nat.add_assoc, Nat.add_comm 1]
          · cases hq
theorem parse_done {s : List UInt8} {m : LyP} (h : okFrom ([], []) (lns s) = some m) : parseP s = (0, 0, m) := readF_done _ s _ m 0 (Nat.le_refl _) h
theorem parse_stop {s x : List UInt8} {m : LyP} {q : List (List UInt8)} (hp : q ++ [x] <+: lns s) (hq : okFrom ([], []) q = some m) (hx : lineE m x ≠ 0) : parseP s = (lineE m x, q.length, ([], [])) := by
  have := readF_stop s.length s ([], []) m 0 q x (Nat.le_refl _) hp hq hx
  rw [Nat.zero_add] at this
  exact this
/-- a layer of lines that are right is right -/
theorem okFrom_good : ∀ (q : List (List UInt8)) (l m : LyP), GoodLy l → okFrom l q = some m → GoodLy m ∧ m.1.length + m.2.length = l.1.length + l.2.length + q.length := by
  intro q
  induction q with
  | nil => intro l m h e; simp only [okFrom, Option.some.injEq] at e; subst e; exact ⟨h, by simp⟩
  | cons x r ih =>
    intro l m h e
    rw [okFrom] at e
    split at e
    · rename_i h0
      have hN : lineN l x.dropLast = 0 := by
        unfold lineE at h0
        split at h0
        · exact h0
        · cases h0
      obtain ⟨g, e2⟩ := ih _ m (line_ok hN h).1 e
      refine ⟨g, e2.trans ?_⟩
      have : (lineY l x).1.length + (lineY l x).2.length = l.1.length + l.2.length + 1 := by
        unfold lineY lineL
        unfold lineN at hN
        cases hf : formP l x.dropLast with
        | none => rw [hf] at hN; cases hN
        | some p =>
          obtain ⟨k, t⟩ := p
          dsimp only
          unfold moreP
          split <;> simp <;> omega
      rw [List.length_cons]
      show (lineY l x).1.length + (lineY l x).2.length + r.length = _
      omega
    · cases e
theorem good_nil : GoodLy ([], []) := ⟨⟨by simp, by simp, List.Pairwise.nil⟩, ⟨by simp, by simp, List.Pairwise.nil⟩, by simp⟩
end Go.Proofs.YtlmhlmeephnmkaaGreat

/- errors.Is of an Errno against ErrFull: Go's own text, walked. -/
namespace Go.Proofs.YtlmhlmeephnmkaaGreat
open Go Go.RowKit Go.Extern.Stop Go.Stop Go.Extern

theorem typeOfF (v : Value) (w : World) : (ReflectliteType.typeOf #[.iface 82 v]).run Tryz.prog w = .ok (.iface 285 (.agg #[.pointer (some ⟨1, 82, none⟩)])) w := by kernel_rfl
theorem methodComparable (h : Value) (w : World) : (Go.method 427 285 (.agg #[h]) "Comparable").run Tryz.prog w = .ok (268, .agg #[h]) w := by kernel_rfl
theorem comparableE (w : World) : (ReflectliteType.method (fun t => do Rtype.noPackHeld "Comparable" t; (fun a : TypeInfo => Value.bool a.comparable) <$> typeInfo t) #[.agg #[.pointer (some ⟨1, 82, none⟩)]]).run Tryz.prog w = .ok (.bool true) w := by kernel_rfl

theorem eqlNilE (n : Int) (w : World) : (binOp .eql 28 .nilIface (.iface 82 (.int .i64 n))).run Tryz.prog w = .ok (.bool false) w := by kernel_rfl
theorem eqlEE (n m : Int) (w : World) : (binOp .eql 28 (.iface 82 (.int .i64 n)) (.iface 82 (.int .i64 m))).run Tryz.prog w = .ok (.bool (n == m)) w := by kernel_rfl
theorem assertIs (n : Int) (w : World) : (Instr.typeAssert (.iface 82 (.int .i64 n)) 28 287 true).run Tryz.prog w = .ok (.tuple #[.nilIface, .bool false]) w := run_typeAssert_lacksB Tryz.underlying287 (by kernel_rfl) (by kernel_rfl) _ _ w
theorem assertOne (n : Int) (w : World) : (Instr.typeAssert (.iface 82 (.int .i64 n)) 28 290 true).run Tryz.prog w = .ok (.tuple #[.nilIface, .bool false]) w := run_typeAssert_lacksB Tryz.underlying290 (by kernel_rfl) (by kernel_rfl) _ _ w
theorem assertMany (n : Int) (w : World) : (Instr.typeAssert (.iface 82 (.int .i64 n)) 28 292 true).run Tryz.prog w = .ok (.tuple #[.nilIface, .bool false]) w := run_typeAssert_lacksB Tryz.underlying292 (by kernel_rfl) (by kernel_rfl) _ _ w
attribute [local go_sem] eqlNilE eqlEE assertIs assertOne assertMany

set_option maxHeartbeats 1000000 in
set_option maxRecDepth 100000 in
theorem is_any (n : Int) (w : World) : Calls Tryz.prog 235 #[.iface 82 (.int .i64 n), .iface 82 (.int .i64 4), .bool true] w fun e w' => e = .returned (.bool (n == 4)) ∧ w' = w := by
  by_cases h : n = 4
  · subst h
    go_enter Tryz.func235, Tryz.ntmps235
    go_wp2
    refine wp_loop_rounds 1 ?_
    rw [rounds_succ]
    go_wp2
    go_ret
    exact ⟨rfl, rfl⟩
  · have h' : (n == 4) = false := by simpa using h
    go_enter Tryz.func235, Tryz.ntmps235
    go_wp2
    refine wp_loop_rounds 1 ?_
    rw [rounds_succ]
    go_wp2
    go_ret
    exact ⟨by rw [h']; rfl, rfl⟩

set_option maxHeartbeats 1000000 in
set_option maxRecDepth 100000 in
theorem Is_any (n : Int) (w : World) : Calls Tryz.prog 216 #[errV n, .iface 82 (.int .i64 4)] w fun e w' => e = .returned (.bool (n == 4)) ∧ w' = w := by
  have h7 := @run_callFunc_extern Tryz.prog 234 _ ReflectliteType.typeOf Tryz.func234 (by kernel_rfl) (by kernel_rfl) (by kernel_rfl) (by kernel_rfl)
  have h8 := @run_callFunc_extern Tryz.prog 268 _ (ReflectliteType.method (fun t => do Rtype.noPackHeld "Comparable" t; pure (.bool (← typeInfo t).comparable))) Tryz.func268 (by kernel_rfl) (by kernel_rfl) (by kernel_rfl) (by kernel_rfl)
  have g7 := typeOfF
  have g8 := comparableE
  have m1 := methodComparable
  by_cases h : n = 0
  · subst h
    rw [show errV 0 = .nilIface from rfl]
    go_enter Tryz.func216, Tryz.ntmps216
    go_wp2
    go_ret
    exact ⟨rfl, rfl⟩
  · rw [show errV n = .iface 82 (.int .i64 n) from if_neg h]
    go_enter Tryz.func216, Tryz.ntmps216
    go_wp2_with (go_at_call 235; refine (is_any n _).mono ?_; rintro e w' ⟨rfl, rfl⟩)
    go_ret
    exact ⟨rfl, rfl⟩
end Go.Proofs.YtlmhlmeephnmkaaGreat

/- parseTerms: three texts read, of whatever length; textFault: a length and a place that are both wrong. -/
namespace Go.Proofs.YtlmhlmeephnmkaaGreat
open Go Go.RowKit Go.Proofs
set_option synthInstance.maxSize 1000

attribute [local go_sem] eql_errV neq_errV guard_errV

theorem str0 (a b c : Value) (w : World) : (Instr.index 235 (.agg #[a, b, c]) (.int .i64 0)).run Tryz.prog w = .ok a w := by kernel_rfl
theorem str1 (a b c : Value) (w : World) : (Instr.index 235 (.agg #[a, b, c]) (.int .i64 1)).run Tryz.prog w = .ok b w := by kernel_rfl
theorem str2 (a b c : Value) (w : World) : (Instr.index 235 (.agg #[a, b, c]) (.int .i64 2)).run Tryz.prog w = .ok c w := by kernel_rfl
attribute [local go_sem] str0 str1 str2

set_option maxHeartbeats 4000000 in
set_option maxRecDepth 100000 in
theorem textFault_any (x : Tr) (w : World) (hx : fitTr x) : Calls Tryz.prog 180 #[valTr x] w fun e w' => e = .returned (errV (textN x)) ∧ Below w.heap.size w w' := by
  have H := fun W => ChkTr_any x W hx
  have HM := fun W => misplaced_any x.1.1 x.1.2.1 x.1.2.2 x.2.1.1 x.2.1.2.1 x.2.1.2.2 x.2.2.1 x.2.2.2.1 x.2.2.2.2 W
  have fin : Hid (textN x = if (chkTr x == 4 && shapeB x.1.1 x.2.1.1) = true then 2 else chkTr x) := rfl
  generalize textN x = N at fin ⊢
  generalize chkTr x = n at H fin
  generalize shapeB x.1.1 x.2.1.1 = sh at HM fin
  clear hx
  unfold valTr at H ⊢
  cases h4 : (n == 4)
  · go_enter Tryz.func180, Tryz.ntmps180
    go_wp2_with fail
    refine (H _).mono ?_
    rintro e w1 ⟨rfl, hb1⟩
    have hB := bstep (balloc _ _) hb1
    go_wp2_with fail
    refine (Is_any n _).mono ?_
    rintro e w2 ⟨rfl, rfl⟩
    go_wp2_with fail
    go_ret
    exact ⟨ret_val (by rw [fin.out, h4]; rfl), hB⟩
  · cases sh
    all_goals
      go_enter Tryz.func180, Tryz.ntmps180
      go_wp2_with fail
      refine (H _).mono ?_
      rintro e w1 ⟨rfl, hb1⟩
      have hB := bstep (balloc _ _) hb1
      obtain ⟨a0, a1, a2, b0, b1, b2, d0, d1, d2, hz1⟩ := ninebox hb1
      go_wp2_with fail
      refine (Is_any n _).mono ?_
      rintro e w2 ⟨rfl, rfl⟩
      go_wp2_with fail
      refine (HM _).mono ?_
      rintro e w3 ⟨rfl, hb3⟩
      go_wp2_with fail
      go_ret
      exact ⟨ret_val (by rw [fin.out, h4]; rfl), bstep hB hb3⟩

set_option maxHeartbeats 16000000 in
set_option maxRecDepth 100000 in
theorem parseTerms_any (a b c : List UInt8) (w : World) (ha : a.length ≤ 140737488355328) (hb : b.length ≤ 140737488355328) (hc : c.length ≤ 140737488355328) :
    Calls Tryz.prog 179 #[.agg #[.string ⟨a.toArray⟩, .string ⟨b.toArray⟩, .string ⟨c.toArray⟩]] w
      fun e w' => e = .returned (.tuple #[valTr (if ptN (anyN a) (anyN b) (anyN c) = 0 then tripleOf a b c else zeroTr), errV (ptN (anyN a) (anyN b) (anyN c))]) ∧ Below w.heap.size w w' := by
  have P1 := fun W => Any_any a W ha
  have P2 := fun W => Any_any b W hb
  have P3 := fun W => Any_any c W hc
  have fin : Hid (tripleOf a b c = ⟨⟨(anyT a).1, (anyT a).2.1, (anyT a).2.2⟩, ⟨(anyT b).1, (anyT b).2.1, (anyT b).2.2⟩, ⟨(anyT c).1, (anyT c).2.1, (anyT c).2.2⟩⟩) := rfl
  simp only [termV] at P1 P2 P3
  generalize anyT a = t1 at P1 fin
  generalize anyT b = t2 at P2 fin
  generalize anyT c = t3 at P3 fin
  generalize anyN a = n1 at P1 ⊢
  generalize anyN b = n2 at P2 ⊢
  generalize anyN c = n3 at P3 ⊢
  generalize tripleOf a b c = T at fin ⊢
  generalize hR : valTr (if ptN n1 n2 n3 = 0 then T else zeroTr) = R
  generalize hN : ptN n1 n2 n3 = N
  have finR : Hid (valTr (if N = 0 then T else zeroTr) = R) := by rw [← hN]; exact hR
  have finN : Hid (ptN n1 n2 n3 = N) := hN
  clear hR hN
  clear ha hb hc
  go_enter Tryz.func179, Tryz.ntmps179
  go_wp2_with fail
  go_loopw [10] (fun i wr => ∃ k : Nat, k ≤ 3 ∧ i = .int .i64 k ∧ Hid ((0 < k → n1 = 0) ∧ (1 < k → n2 = 0) ∧ (2 < k → n3 = 0)) ∧ w.heap.size + 1 + 1 < wr.heap.size ∧ Below (w.heap.size + 1 + 1) (((w.alloc (.cells #[.string ⟨a.toArray⟩, .string ⟨b.toArray⟩, .string ⟨c.toArray⟩] 235)).alloc (.cells #[.int .i64 0, .string ⟨#[]⟩, .string ⟨#[]⟩, .int .i64 0, .string ⟨#[]⟩, .string ⟨#[]⟩, .int .i64 0, .string ⟨#[]⟩, .string ⟨#[]⟩] 58)).alloc (.cells #[.int .i64 0, .string ⟨#[]⟩, .string ⟨#[]⟩, .int .i64 0, .string ⟨#[]⟩, .string ⟨#[]⟩, .int .i64 0, .string ⟨#[]⟩, .string ⟨#[]⟩] 153)) wr ∧ wr.cell? ⟨w.heap.size + 1 + 1, 0, none⟩ = some (.int .i64 ((if 0 < k then t1.1 else 0))) ∧ wr.cell? ⟨w.heap.size + 1 + 1, 1, none⟩ = some (.string ⟨((if 0 < k then t1.2.1 else [])).toArray⟩) ∧ wr.cell? ⟨w.heap.size + 1 + 1, 2, none⟩ = some (.string ⟨((if 0 < k then t1.2.2 else [])).toArray⟩) ∧ wr.cell? ⟨w.heap.size + 1 + 1, 3, none⟩ = some (.int .i64 ((if 1 < k then t2.1 else 0))) ∧ wr.cell? ⟨w.heap.size + 1 + 1, 4, none⟩ = some (.string ⟨((if 1 < k then t2.2.1 else [])).toArray⟩) ∧ wr.cell? ⟨w.heap.size + 1 + 1, 5, none⟩ = some (.string ⟨((if 1 < k then t2.2.2 else [])).toArray⟩) ∧ wr.cell? ⟨w.heap.size + 1 + 1, 6, none⟩ = some (.int .i64 ((if 2 < k then t3.1 else 0))) ∧ wr.cell? ⟨w.heap.size + 1 + 1, 7, none⟩ = some (.string ⟨((if 2 < k then t3.2.1 else [])).toArray⟩) ∧ wr.cell? ⟨w.heap.size + 1 + 1, 8, none⟩ = some (.string ⟨((if 2 < k then t3.2.2 else [])).toArray⟩) ∧ wr.frozen? ⟨w.heap.size + 1 + 1, 0, none⟩ = false ∧ wr.frozen? ⟨w.heap.size + 1 + 1, 1, none⟩ = false ∧ wr.frozen? ⟨w.heap.size + 1 + 1, 2, none⟩ = false ∧ wr.frozen? ⟨w.heap.size + 1 + 1, 3, none⟩ = false ∧ wr.frozen? ⟨w.heap.size + 1 + 1, 4, none⟩ = false ∧ wr.frozen? ⟨w.heap.size + 1 + 1, 5, none⟩ = false ∧ wr.frozen? ⟨w.heap.size + 1 + 1, 6, none⟩ = false ∧ wr.frozen? ⟨w.heap.size + 1 + 1, 7, none⟩ = false ∧ wr.frozen? ⟨w.heap.size + 1 + 1, 8, none⟩ = false) (fun i wr => 3 - (intOf i).toNat)
  case atStart => exact ⟨0, by omega, rfl, ⟨by omega, by omega, by omega⟩, by simp, Below.refl _ _, by go_simp, by go_simp, by go_simp, by go_simp, by go_simp, by go_simp, by go_simp, by go_simp, by go_simp, by go_simp, by go_simp, by go_simp, by go_simp, by go_simp, by go_simp, by go_simp, by go_simp, by go_simp⟩
  case round =>
    obtain ⟨k, hk, rfl, hH, hz, hbr, e0, e1, e2, e3, e4, e5, e6, e7, e8, f0, f1, f2, f3, f4, f5, f6, f7, f8⟩ := hrel
    rcases (by omega : k = 0 ∨ k = 1 ∨ k = 2 ∨ k = 3) with rfl | rfl | rfl | rfl
    · replace e0 : wr.cell? ⟨w.heap.size + 1 + 1, 0, none⟩ = some (.int .i64 (0)) := e0
      replace e1 : wr.cell? ⟨w.heap.size + 1 + 1, 1, none⟩ = some (.string ⟨(([] : List UInt8)).toArray⟩) := e1
      replace e2 : wr.cell? ⟨w.heap.size + 1 + 1, 2, none⟩ = some (.string ⟨(([] : List UInt8)).toArray⟩) := e2
      replace e3 : wr.cell? ⟨w.heap.size + 1 + 1, 3, none⟩ = some (.int .i64 (0)) := e3
      replace e4 : wr.cell? ⟨w.heap.size + 1 + 1, 4, none⟩ = some (.string ⟨(([] : List UInt8)).toArray⟩) := e4
      replace e5 : wr.cell? ⟨w.heap.size + 1 + 1, 5, none⟩ = some (.string ⟨(([] : List UInt8)).toArray⟩) := e5
      replace e6 : wr.cell? ⟨w.heap.size + 1 + 1, 6, none⟩ = some (.int .i64 (0)) := e6
      replace e7 : wr.cell? ⟨w.heap.size + 1 + 1, 7, none⟩ = some (.string ⟨(([] : List UInt8)).toArray⟩) := e7
      replace e8 : wr.cell? ⟨w.heap.size + 1 + 1, 8, none⟩ = some (.string ⟨(([] : List UInt8)).toArray⟩) := e8
      go_wp2_with fail
      refine (P1 _).mono ?_
      rintro e w1 ⟨rfl, hb1⟩
      obtain ⟨kc, kf⟩ := bcell hb1
      have hz2 : w.heap.size + 1 + 1 < w1.heap.size := by have := hb1.size; omega
      have g0 := (kc _ 0 hz).trans e0
      have g1 := (kc _ 1 hz).trans e1
      have g2 := (kc _ 2 hz).trans e2
      have g3 := (kc _ 3 hz).trans e3
      have g4 := (kc _ 4 hz).trans e4
      have g5 := (kc _ 5 hz).trans e5
      have g6 := (kc _ 6 hz).trans e6
      have g7 := (kc _ 7 hz).trans e7
      have g8 := (kc _ 8 hz).trans e8
      have m0 := (kf _ 0 hz).trans f0
      have m1 := (kf _ 1 hz).trans f1
      have m2 := (kf _ 2 hz).trans f2
      have m3 := (kf _ 3 hz).trans f3
      have m4 := (kf _ 4 hz).trans f4
      have m5 := (kf _ 5 hz).trans f5
      have m6 := (kf _ 6 hz).trans f6
      have m7 := (kf _ 7 hz).trans f7
      have m8 := (kf _ 8 hz).trans f8
      have hB1 := hbr.trans (hb1.mono (by omega))
      have hz3 : w.heap.size + 1 < w1.heap.size := by omega
      clear kc kf
      cases h0 : (n1 == 0)
      · have q1 := fun o => hB1.cell (p := ⟨w.heap.size + 1, o, none⟩) (by show w.heap.size + 1 < w.heap.size + 1 + 1; omega)
        have q2 := fun o => hB1.frozen (p := ⟨w.heap.size + 1, o, none⟩) (by show w.heap.size + 1 < w.heap.size + 1 + 1; omega)
        have z0 : w1.cell? ⟨w.heap.size + 1, 0, none⟩ = some (Value.int .i64 0) := (q1 0).trans (by go_simp)
        have y0 : w1.frozen? ⟨w.heap.size + 1, 0, none⟩ = false := (q2 0).trans (by go_simp)
        have z1 : w1.cell? ⟨w.heap.size + 1, 1, none⟩ = some (Value.string ⟨#[]⟩) := (q1 1).trans (by go_simp)
        have y1 : w1.frozen? ⟨w.heap.size + 1, 1, none⟩ = false := (q2 1).trans (by go_simp)
        have z2 : w1.cell? ⟨w.heap.size + 1, 2, none⟩ = some (Value.string ⟨#[]⟩) := (q1 2).trans (by go_simp)
        have y2 : w1.frozen? ⟨w.heap.size + 1, 2, none⟩ = false := (q2 2).trans (by go_simp)
        have z3 : w1.cell? ⟨w.heap.size + 1, 3, none⟩ = some (Value.int .i64 0) := (q1 3).trans (by go_simp)
        have y3 : w1.frozen? ⟨w.heap.size + 1, 3, none⟩ = false := (q2 3).trans (by go_simp)
        have z4 : w1.cell? ⟨w.heap.size + 1, 4, none⟩ = some (Value.string ⟨#[]⟩) := (q1 4).trans (by go_simp)
        have y4 : w1.frozen? ⟨w.heap.size + 1, 4, none⟩ = false := (q2 4).trans (by go_simp)
        have z5 : w1.cell? ⟨w.heap.size + 1, 5, none⟩ = some (Value.string ⟨#[]⟩) := (q1 5).trans (by go_simp)
        have y5 : w1.frozen? ⟨w.heap.size + 1, 5, none⟩ = false := (q2 5).trans (by go_simp)
        have z6 : w1.cell? ⟨w.heap.size + 1, 6, none⟩ = some (Value.int .i64 0) := (q1 6).trans (by go_simp)
        have y6 : w1.frozen? ⟨w.heap.size + 1, 6, none⟩ = false := (q2 6).trans (by go_simp)
        have z7 : w1.cell? ⟨w.heap.size + 1, 7, none⟩ = some (Value.string ⟨#[]⟩) := (q1 7).trans (by go_simp)
        have y7 : w1.frozen? ⟨w.heap.size + 1, 7, none⟩ = false := (q2 7).trans (by go_simp)
        have z8 : w1.cell? ⟨w.heap.size + 1, 8, none⟩ = some (Value.string ⟨#[]⟩) := (q1 8).trans (by go_simp)
        have y8 : w1.frozen? ⟨w.heap.size + 1, 8, none⟩ = false := (q2 8).trans (by go_simp)
        clear q1 q2
        go_wp2_with fail
        have hne : ¬ n1 = 0 := by simpa using h0
        have fin2 : ptN n1 n2 n3 = n1 := by
          have hh := hH.out
          unfold ptN
          rw [if_neg hne]
        refine bodyPost_ret (v := .tuple #[valTr zeroTr, errV n1]) (by unfold results valTr zeroTr; rw [Tryz.results179]; go_simp) rfl ⟨ret_val (by rw [← finR.out, ← finN.out, fin2, if_neg hne]), ?_⟩
        exact (((((((((((bstep (bstep (balloc _ _) (balloc _ _)) (balloc _ _)).trans (hB1.mono (by omega))).setCell (p := ⟨w.heap.size + 1, 0, none⟩) (show w.heap.size ≤ w.heap.size + 1 by omega) _).setCell (p := ⟨w.heap.size + 1, 1, none⟩) (show w.heap.size ≤ w.heap.size + 1 by omega) _).setCell (p := ⟨w.heap.size + 1, 2, none⟩) (show w.heap.size ≤ w.heap.size + 1 by omega) _).setCell (p := ⟨w.heap.size + 1, 3, none⟩) (show w.heap.size ≤ w.heap.size + 1 by omega) _).setCell (p := ⟨w.heap.size + 1, 4, none⟩) (show w.heap.size ≤ w.heap.size + 1 by omega) _).setCell (p := ⟨w.heap.size + 1, 5, none⟩) (show w.heap.size ≤ w.heap.size + 1 by omega) _).setCell (p := ⟨w.heap.size + 1, 6, none⟩) (show w.heap.size ≤ w.heap.size + 1 by omega) _).setCell (p := ⟨w.heap.size + 1, 7, none⟩) (show w.heap.size ≤ w.heap.size + 1 by omega) _).setCell (p := ⟨w.heap.size + 1, 8, none⟩) (show w.heap.size ≤ w.heap.size + 1 by omega) _).alloc (by simp; omega) _
      · go_wp2_with fail
        simp at h0
        refine ⟨⟨1, by omega, by go_num, ?_, by simp; omega, (((hB1.setCell (p := ⟨w.heap.size + 1 + 1, 0, none⟩) (Nat.le_refl _) _).setCell (p := ⟨w.heap.size + 1 + 1, 1, none⟩) (Nat.le_refl _) _).setCell (p := ⟨w.heap.size + 1 + 1, 2, none⟩) (Nat.le_refl _) _).alloc (by simp; omega) _, by go_simp, by go_simp, by go_simp, by go_simp, by go_simp, by go_simp, by go_simp, by go_simp, by go_simp, by go_simp, by go_simp, by go_simp, by go_simp, by go_simp, by go_simp, by go_simp, by go_simp, by go_simp⟩, by simp [intOf]⟩
        have hh := hH.out
        exact ⟨fun _ => h0, fun _ => by omega, fun _ => by omega⟩
    · replace e0 : wr.cell? ⟨w.heap.size + 1 + 1, 0, none⟩ = some (.int .i64 (t1.1)) := e0
      replace e1 : wr.cell? ⟨w.heap.size + 1 + 1, 1, none⟩ = some (.string ⟨(t1.2.1).toArray⟩) := e1
      replace e2 : wr.cell? ⟨w.heap.size + 1 + 1, 2, none⟩ = some (.string ⟨(t1.2.2).toArray⟩) := e2
      replace e3 : wr.cell? ⟨w.heap.size + 1 + 1, 3, none⟩ = some (.int .i64 (0)) := e3
      replace e4 : wr.cell? ⟨w.heap.size + 1 + 1, 4, none⟩ = some (.string ⟨(([] : List UInt8)).toArray⟩) := e4
      replace e5 : wr.cell? ⟨w.heap.size + 1 + 1, 5, none⟩ = some (.string ⟨(([] : List UInt8)).toArray⟩) := e5
      replace e6 : wr.cell? ⟨w.heap.size + 1 + 1, 6, none⟩ = some (.int .i64 (0)) := e6
      replace e7 : wr.cell? ⟨w.heap.size + 1 + 1, 7, none⟩ = some (.string ⟨(([] : List UInt8)).toArray⟩) := e7
      replace e8 : wr.cell? ⟨w.heap.size + 1 + 1, 8, none⟩ = some (.string ⟨(([] : List UInt8)).toArray⟩) := e8
      go_wp2_with fail
      refine (P2 _).mono ?_
      rintro e w1 ⟨rfl, hb1⟩
      obtain ⟨kc, kf⟩ := bcell hb1
      have hz2 : w.heap.size + 1 + 1 < w1.heap.size := by have := hb1.size; omega
      have g0 := (kc _ 0 hz).trans e0
      have g1 := (kc _ 1 hz).trans e1
      have g2 := (kc _ 2 hz).trans e2
      have g3 := (kc _ 3 hz).trans e3
      have g4 := (kc _ 4 hz).trans e4
      have g5 := (kc _ 5 hz).trans e5
      have g6 := (kc _ 6 hz).trans e6
      have g7 := (kc _ 7 hz).trans e7
      have g8 := (kc _ 8 hz).trans e8
      have m0 := (kf _ 0 hz).trans f0
      have m1 := (kf _ 1 hz).trans f1
      have m2 := (kf _ 2 hz).trans f2
      have m3 := (kf _ 3 hz).trans f3
      have m4 := (kf _ 4 hz).trans f4
      have m5 := (kf _ 5 hz).trans f5
      have m6 := (kf _ 6 hz).trans f6
      have m7 := (kf _ 7 hz).trans f7
      have m8 := (kf _ 8 hz).trans f8
      have hB1 := hbr.trans (hb1.mono (by omega))
      have hz3 : w.heap.size + 1 < w1.heap.size := by omega
      clear kc kf
      cases h0 : (n2 == 0)
      · have q1 := fun o => hB1.cell (p := ⟨w.heap.size + 1, o, none⟩) (by show w.heap.size + 1 < w.heap.size + 1 + 1; omega)
        have q2 := fun o => hB1.frozen (p := ⟨w.heap.size + 1, o, none⟩) (by show w.heap.size + 1 < w.heap.size + 1 + 1; omega)
        have z0 : w1.cell? ⟨w.heap.size + 1, 0, none⟩ = some (Value.int .i64 0) := (q1 0).trans (by go_simp)
        have y0 : w1.frozen? ⟨w.heap.size + 1, 0, none⟩ = false := (q2 0).trans (by go_simp)
        have z1 : w1.cell? ⟨w.heap.size + 1, 1, none⟩ = some (Value.string ⟨#[]⟩) := (q1 1).trans (by go_simp)
        have y1 : w1.frozen? ⟨w.heap.size + 1, 1, none⟩ = false := (q2 1).trans (by go_simp)
        have z2 : w1.cell? ⟨w.heap.size + 1, 2, none⟩ = some (Value.string ⟨#[]⟩) := (q1 2).trans (by go_simp)
        have y2 : w1.frozen? ⟨w.heap.size + 1, 2, none⟩ = false := (q2 2).trans (by go_simp)
        have z3 : w1.cell? ⟨w.heap.size + 1, 3, none⟩ = some (Value.int .i64 0) := (q1 3).trans (by go_simp)
        have y3 : w1.frozen? ⟨w.heap.size + 1, 3, none⟩ = false := (q2 3).trans (by go_simp)
        have z4 : w1.cell? ⟨w.heap.size + 1, 4, none⟩ = some (Value.string ⟨#[]⟩) := (q1 4).trans (by go_simp)
        have y4 : w1.frozen? ⟨w.heap.size + 1, 4, none⟩ = false := (q2 4).trans (by go_simp)
        have z5 : w1.cell? ⟨w.heap.size + 1, 5, none⟩ = some (Value.string ⟨#[]⟩) := (q1 5).trans (by go_simp)
        have y5 : w1.frozen? ⟨w.heap.size + 1, 5, none⟩ = false := (q2 5).trans (by go_simp)
        have z6 : w1.cell? ⟨w.heap.size + 1, 6, none⟩ = some (Value.int .i64 0) := (q1 6).trans (by go_simp)
        have y6 : w1.frozen? ⟨w.heap.size + 1, 6, none⟩ = false := (q2 6).trans (by go_simp)
        have z7 : w1.cell? ⟨w.heap.size + 1, 7, none⟩ = some (Value.string ⟨#[]⟩) := (q1 7).trans (by go_simp)
        have y7 : w1.frozen? ⟨w.heap.size + 1, 7, none⟩ = false := (q2 7).trans (by go_simp)
        have z8 : w1.cell? ⟨w.heap.size + 1, 8, none⟩ = some (Value.string ⟨#[]⟩) := (q1 8).trans (by go_simp)
        have y8 : w1.frozen? ⟨w.heap.size + 1, 8, none⟩ = false := (q2 8).trans (by go_simp)
        clear q1 q2
        go_wp2_with fail
        have hne : ¬ n2 = 0 := by simpa using h0
        have fin2 : ptN n1 n2 n3 = n2 := by
          have hh := hH.out
          unfold ptN
          rw [if_pos (hh.1 (by omega)), if_neg hne]
        refine bodyPost_ret (v := .tuple #[valTr zeroTr, errV n2]) (by unfold results valTr zeroTr; rw [Tryz.results179]; go_simp) rfl ⟨ret_val (by rw [← finR.out, ← finN.out, fin2, if_neg hne]), ?_⟩
        exact (((((((((((bstep (bstep (balloc _ _) (balloc _ _)) (balloc _ _)).trans (hB1.mono (by omega))).setCell (p := ⟨w.heap.size + 1, 0, none⟩) (show w.heap.size ≤ w.heap.size + 1 by omega) _).setCell (p := ⟨w.heap.size + 1, 1, none⟩) (show w.heap.size ≤ w.heap.size + 1 by omega) _).setCell (p := ⟨w.heap.size + 1, 2, none⟩) (show w.heap.size ≤ w.heap.size + 1 by omega) _).setCell (p := ⟨w.heap.size + 1, 3, none⟩) (show w.heap.size ≤ w.heap.size + 1 by omega) _).setCell (p := ⟨w.heap.size + 1, 4, none⟩) (show w.heap.size ≤ w.heap.size + 1 by omega) _).setCell (p := ⟨w.heap.size + 1, 5, none⟩) (show w.heap.size ≤ w.heap.size + 1 by omega) _).setCell (p := ⟨w.heap.size + 1, 6, none⟩) (show w.heap.size ≤ w.heap.size + 1 by omega) _).setCell (p := ⟨w.heap.size + 1, 7, none⟩) (show w.heap.size ≤ w.heap.size + 1 by omega) _).setCell (p := ⟨w.heap.size + 1, 8, none⟩) (show w.heap.size ≤ w.heap.size + 1 by omega) _).alloc (by simp; omega) _
      · go_wp2_with fail
        simp at h0
        refine ⟨⟨2, by omega, by go_num, ?_, by simp; omega, (((hB1.setCell (p := ⟨w.heap.size + 1 + 1, 3, none⟩) (Nat.le_refl _) _).setCell (p := ⟨w.heap.size + 1 + 1, 4, none⟩) (Nat.le_refl _) _).setCell (p := ⟨w.heap.size + 1 + 1, 5, none⟩) (Nat.le_refl _) _).alloc (by simp; omega) _, by go_simp, by go_simp, by go_simp, by go_simp, by go_simp, by go_simp, by go_simp, by go_simp, by go_simp, by go_simp, by go_simp, by go_simp, by go_simp, by go_simp, by go_simp, by go_simp, by go_simp, by go_simp⟩, by simp [intOf]⟩
        have hh := hH.out
        exact ⟨fun _ => hh.1 (by omega), fun _ => h0, fun _ => by omega⟩
    · replace e0 : wr.cell? ⟨w.heap.size + 1 + 1, 0, none⟩ = some (.int .i64 (t1.1)) := e0
      replace e1 : wr.cell? ⟨w.heap.size + 1 + 1, 1, none⟩ = some (.string ⟨(t1.2.1).toArray⟩) := e1
      replace e2 : wr.cell? ⟨w.heap.size + 1 + 1, 2, none⟩ = some (.string ⟨(t1.2.2).toArray⟩) := e2
      replace e3 : wr.cell? ⟨w.heap.size + 1 + 1, 3, none⟩ = some (.int .i64 (t2.1)) := e3
      replace e4 : wr.cell? ⟨w.heap.size + 1 + 1, 4, none⟩ = some (.string ⟨(t2.2.1).toArray⟩) := e4
      replace e5 : wr.cell? ⟨w.heap.size + 1 + 1, 5, none⟩ = some (.string ⟨(t2.2.2).toArray⟩) := e5
      replace e6 : wr.cell? ⟨w.heap.size + 1 + 1, 6, none⟩ = some (.int .i64 (0)) := e6
      replace e7 : wr.cell? ⟨w.heap.size + 1 + 1, 7, none⟩ = some (.string ⟨(([] : List UInt8)).toArray⟩) := e7
      replace e8 : wr.cell? ⟨w.heap.size + 1 + 1, 8, none⟩ = some (.string ⟨(([] : List UInt8)).toArray⟩) := e8
      go_wp2_with fail
      refine (P3 _).mono ?_
      rintro e w1 ⟨rfl, hb1⟩
      obtain ⟨kc, kf⟩ := bcell hb1
      have hz2 : w.heap.size + 1 + 1 < w1.heap.size := by have := hb1.size; omega
      have g0 := (kc _ 0 hz).trans e0
      have g1 := (kc _ 1 hz).trans e1
      have g2 := (kc _ 2 hz).trans e2
      have g3 := (kc _ 3 hz).trans e3
      have g4 := (kc _ 4 hz).trans e4
      have g5 := (kc _ 5 hz).trans e5
      have g6 := (kc _ 6 hz).trans e6
      have g7 := (kc _ 7 hz).trans e7
      have g8 := (kc _ 8 hz).trans e8
      have m0 := (kf _ 0 hz).trans f0
      have m1 := (kf _ 1 hz).trans f1
      have m2 := (kf _ 2 hz).trans f2
      have m3 := (kf _ 3 hz).trans f3
      have m4 := (kf _ 4 hz).trans f4
      have m5 := (kf _ 5 hz).trans f5
      have m6 := (kf _ 6 hz).trans f6
      have m7 := (kf _ 7 hz).trans f7
      have m8 := (kf _ 8 hz).trans f8
      have hB1 := hbr.trans (hb1.mono (by omega))
      have hz3 : w.heap.size + 1 < w1.heap.size := by omega
      clear kc kf
      cases h0 : (n3 == 0)
      · have q1 := fun o => hB1.cell (p := ⟨w.heap.size + 1, o, none⟩) (by show w.heap.size + 1 < w.heap.size + 1 + 1; omega)
        have q2 := fun o => hB1.frozen (p := ⟨w.heap.size + 1, o, none⟩) (by show w.heap.size + 1 < w.heap.size + 1 + 1; omega)
        have z0 : w1.cell? ⟨w.heap.size + 1, 0, none⟩ = some (Value.int .i64 0) := (q1 0).trans (by go_simp)
        have y0 : w1.frozen? ⟨w.heap.size + 1, 0, none⟩ = false := (q2 0).trans (by go_simp)
        have z1 : w1.cell? ⟨w.heap.size + 1, 1, none⟩ = some (Value.string ⟨#[]⟩) := (q1 1).trans (by go_simp)
        have y1 : w1.frozen? ⟨w.heap.size + 1, 1, none⟩ = false := (q2 1).trans (by go_simp)
        have z2 : w1.cell? ⟨w.heap.size + 1, 2, none⟩ = some (Value.string ⟨#[]⟩) := (q1 2).trans (by go_simp)
        have y2 : w1.frozen? ⟨w.heap.size + 1, 2, none⟩ = false := (q2 2).trans (by go_simp)
        have z3 : w1.cell? ⟨w.heap.size + 1, 3, none⟩ = some (Value.int .i64 0) := (q1 3).trans (by go_simp)
        have y3 : w1.frozen? ⟨w.heap.size + 1, 3, none⟩ = false := (q2 3).trans (by go_simp)
        have z4 : w1.cell? ⟨w.heap.size + 1, 4, none⟩ = some (Value.string ⟨#[]⟩) := (q1 4).trans (by go_simp)
        have y4 : w1.frozen? ⟨w.heap.size + 1, 4, none⟩ = false := (q2 4).trans (by go_simp)
        have z5 : w1.cell? ⟨w.heap.size + 1, 5, none⟩ = some (Value.string ⟨#[]⟩) := (q1 5).trans (by go_simp)
        have y5 : w1.frozen? ⟨w.heap.size + 1, 5, none⟩ = false := (q2 5).trans (by go_simp)
        have z6 : w1.cell? ⟨w.heap.size + 1, 6, none⟩ = some (Value.int .i64 0) := (q1 6).trans (by go_simp)
        have y6 : w1.frozen? ⟨w.heap.size + 1, 6, none⟩ = false := (q2 6).trans (by go_simp)
        have z7 : w1.cell? ⟨w.heap.size + 1, 7, none⟩ = some (Value.string ⟨#[]⟩) := (q1 7).trans (by go_simp)
        have y7 : w1.frozen? ⟨w.heap.size + 1, 7, none⟩ = false := (q2 7).trans (by go_simp)
        have z8 : w1.cell? ⟨w.heap.size + 1, 8, none⟩ = some (Value.string ⟨#[]⟩) := (q1 8).trans (by go_simp)
        have y8 : w1.frozen? ⟨w.heap.size + 1, 8, none⟩ = false := (q2 8).trans (by go_simp)
        clear q1 q2
        go_wp2_with fail
        have hne : ¬ n3 = 0 := by simpa using h0
        have fin2 : ptN n1 n2 n3 = n3 := by
          have hh := hH.out
          unfold ptN
          rw [if_pos (hh.1 (by omega)), if_pos (hh.2.1 (by omega))]
        refine bodyPost_ret (v := .tuple #[valTr zeroTr, errV n3]) (by unfold results valTr zeroTr; rw [Tryz.results179]; go_simp) rfl ⟨ret_val (by rw [← finR.out, ← finN.out, fin2, if_neg hne]), ?_⟩
        exact (((((((((((bstep (bstep (balloc _ _) (balloc _ _)) (balloc _ _)).trans (hB1.mono (by omega))).setCell (p := ⟨w.heap.size + 1, 0, none⟩) (show w.heap.size ≤ w.heap.size + 1 by omega) _).setCell (p := ⟨w.heap.size + 1, 1, none⟩) (show w.heap.size ≤ w.heap.size + 1 by omega) _).setCell (p := ⟨w.heap.size + 1, 2, none⟩) (show w.heap.size ≤ w.heap.size + 1 by omega) _).setCell (p := ⟨w.heap.size + 1, 3, none⟩) (show w.heap.size ≤ w.heap.size + 1 by omega) _).setCell (p := ⟨w.heap.size + 1, 4, none⟩) (show w.heap.size ≤ w.heap.size + 1 by omega) _).setCell (p := ⟨w.heap.size + 1, 5, none⟩) (show w.heap.size ≤ w.heap.size + 1 by omega) _).setCell (p := ⟨w.heap.size + 1, 6, none⟩) (show w.heap.size ≤ w.heap.size + 1 by omega) _).setCell (p := ⟨w.heap.size + 1, 7, none⟩) (show w.heap.size ≤ w.heap.size + 1 by omega) _).setCell (p := ⟨w.heap.size + 1, 8, none⟩) (show w.heap.size ≤ w.heap.size + 1 by omega) _).alloc (by simp; omega) _
      · go_wp2_with fail
        simp at h0
        refine ⟨⟨3, by omega, by go_num, ?_, by simp; omega, (((hB1.setCell (p := ⟨w.heap.size + 1 + 1, 6, none⟩) (Nat.le_refl _) _).setCell (p := ⟨w.heap.size + 1 + 1, 7, none⟩) (Nat.le_refl _) _).setCell (p := ⟨w.heap.size + 1 + 1, 8, none⟩) (Nat.le_refl _) _).alloc (by simp; omega) _, by go_simp, by go_simp, by go_simp, by go_simp, by go_simp, by go_simp, by go_simp, by go_simp, by go_simp, by go_simp, by go_simp, by go_simp, by go_simp, by go_simp, by go_simp, by go_simp, by go_simp, by go_simp⟩, by simp [intOf]⟩
        have hh := hH.out
        exact ⟨fun _ => hh.1 (by omega), fun _ => hh.2.1 (by omega), fun _ => h0⟩
    · replace e0 : wr.cell? ⟨w.heap.size + 1 + 1, 0, none⟩ = some (.int .i64 (t1.1)) := e0
      replace e1 : wr.cell? ⟨w.heap.size + 1 + 1, 1, none⟩ = some (.string ⟨(t1.2.1).toArray⟩) := e1
      replace e2 : wr.cell? ⟨w.heap.size + 1 + 1, 2, none⟩ = some (.string ⟨(t1.2.2).toArray⟩) := e2
      replace e3 : wr.cell? ⟨w.heap.size + 1 + 1, 3, none⟩ = some (.int .i64 (t2.1)) := e3
      replace e4 : wr.cell? ⟨w.heap.size + 1 + 1, 4, none⟩ = some (.string ⟨(t2.2.1).toArray⟩) := e4
      replace e5 : wr.cell? ⟨w.heap.size + 1 + 1, 5, none⟩ = some (.string ⟨(t2.2.2).toArray⟩) := e5
      replace e6 : wr.cell? ⟨w.heap.size + 1 + 1, 6, none⟩ = some (.int .i64 (t3.1)) := e6
      replace e7 : wr.cell? ⟨w.heap.size + 1 + 1, 7, none⟩ = some (.string ⟨(t3.2.1).toArray⟩) := e7
      replace e8 : wr.cell? ⟨w.heap.size + 1 + 1, 8, none⟩ = some (.string ⟨(t3.2.2).toArray⟩) := e8
      have q1 := fun o => hbr.cell (p := ⟨w.heap.size + 1, o, none⟩) (by show w.heap.size + 1 < w.heap.size + 1 + 1; omega)
      have q2 := fun o => hbr.frozen (p := ⟨w.heap.size + 1, o, none⟩) (by show w.heap.size + 1 < w.heap.size + 1 + 1; omega)
      have z0 : wr.cell? ⟨w.heap.size + 1, 0, none⟩ = some (Value.int .i64 0) := (q1 0).trans (by go_simp)
      have y0 : wr.frozen? ⟨w.heap.size + 1, 0, none⟩ = false := (q2 0).trans (by go_simp)
      have z1 : wr.cell? ⟨w.heap.size + 1, 1, none⟩ = some (Value.string ⟨#[]⟩) := (q1 1).trans (by go_simp)
      have y1 : wr.frozen? ⟨w.heap.size + 1, 1, none⟩ = false := (q2 1).trans (by go_simp)
      have z2 : wr.cell? ⟨w.heap.size + 1, 2, none⟩ = some (Value.string ⟨#[]⟩) := (q1 2).trans (by go_simp)
      have y2 : wr.frozen? ⟨w.heap.size + 1, 2, none⟩ = false := (q2 2).trans (by go_simp)
      have z3 : wr.cell? ⟨w.heap.size + 1, 3, none⟩ = some (Value.int .i64 0) := (q1 3).trans (by go_simp)
      have y3 : wr.frozen? ⟨w.heap.size + 1, 3, none⟩ = false := (q2 3).trans (by go_simp)
      have z4 : wr.cell? ⟨w.heap.size + 1, 4, none⟩ = some (Value.string ⟨#[]⟩) := (q1 4).trans (by go_simp)
      have y4 : wr.frozen? ⟨w.heap.size + 1, 4, none⟩ = false := (q2 4).trans (by go_simp)
      have z5 : wr.cell? ⟨w.heap.size + 1, 5, none⟩ = some (Value.string ⟨#[]⟩) := (q1 5).trans (by go_simp)
      have y5 : wr.frozen? ⟨w.heap.size + 1, 5, none⟩ = false := (q2 5).trans (by go_simp)
      have z6 : wr.cell? ⟨w.heap.size + 1, 6, none⟩ = some (Value.int .i64 0) := (q1 6).trans (by go_simp)
      have y6 : wr.frozen? ⟨w.heap.size + 1, 6, none⟩ = false := (q2 6).trans (by go_simp)
      have z7 : wr.cell? ⟨w.heap.size + 1, 7, none⟩ = some (Value.string ⟨#[]⟩) := (q1 7).trans (by go_simp)
      have y7 : wr.frozen? ⟨w.heap.size + 1, 7, none⟩ = false := (q2 7).trans (by go_simp)
      have z8 : wr.cell? ⟨w.heap.size + 1, 8, none⟩ = some (Value.string ⟨#[]⟩) := (q1 8).trans (by go_simp)
      have y8 : wr.frozen? ⟨w.heap.size + 1, 8, none⟩ = false := (q2 8).trans (by go_simp)
      clear q1 q2
      have hh := hH.out
      have HL : Hid (ptN n1 n2 n3 = 0) := by
        show ptN n1 n2 n3 = 0
        unfold ptN
        rw [if_pos (hh.1 (by omega)), if_pos (hh.2.1 (by omega))]
        exact hh.2.2 (by omega)
      clear hh hH
      go_wp2_with fail
      have hN0 : N = 0 := by rw [← finN.out]; exact HL.out
      refine bodyPost_ret (v := .tuple #[valTr T, .nilIface]) (by rw [fin.out]; simp [results, Tryz.results179, go_sem, valTr, z0, z1, z2, z3, z4, z5, z6, z7, z8]) rfl ⟨ret_val (by rw [← finR.out, hN0]; rfl), ?_⟩
      exact (((((((((((bstep (bstep (balloc _ _) (balloc _ _)) (balloc _ _)).trans (hbr.mono (by omega))).setCell (p := ⟨w.heap.size + 1, 0, none⟩) (show w.heap.size ≤ w.heap.size + 1 by omega) _).setCell (p := ⟨w.heap.size + 1, 1, none⟩) (show w.heap.size ≤ w.heap.size + 1 by omega) _).setCell (p := ⟨w.heap.size + 1, 2, none⟩) (show w.heap.size ≤ w.heap.size + 1 by omega) _).setCell (p := ⟨w.heap.size + 1, 3, none⟩) (show w.heap.size ≤ w.heap.size + 1 by omega) _).setCell (p := ⟨w.heap.size + 1, 4, none⟩) (show w.heap.size ≤ w.heap.size + 1 by omega) _).setCell (p := ⟨w.heap.size + 1, 5, none⟩) (show w.heap.size ≤ w.heap.size + 1 by omega) _).setCell (p := ⟨w.heap.size + 1, 6, none⟩) (show w.heap.size ≤ w.heap.size + 1 by omega) _).setCell (p := ⟨w.heap.size + 1, 7, none⟩) (show w.heap.size ≤ w.heap.size + 1 by omega) _).setCell (p := ⟨w.heap.size + 1, 8, none⟩) (show w.heap.size ≤ w.heap.size + 1 by omega) _)
end Go.Proofs.YtlmhlmeephnmkaaGreat
