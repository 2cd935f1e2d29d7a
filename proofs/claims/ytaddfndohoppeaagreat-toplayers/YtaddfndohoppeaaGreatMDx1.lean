import Derived.Test.YtaddfndohoppeaaGreatMDx0
import Derived.Test.YtaddfndohoppeaaGreatMA1x0
import Derived.Maps.RangeWalk
import Derived.Laws.MakeOwn
import Derived.Laws.OwnMore
import Derived.Deep.WholeRow
import Derived.Deep.DeepCutAuto
import Derived.Deep.CutBlock
import Derived.Test.YtaddfndohoppeaaGreatMA0x3
import Derived.WideKeyEntry
import Derived.Shelf.SlMaps.Clone
import Derived.Maps.Ext
import Derived.Laws.IdiomRangeMap
import Derived.Test.YtaddfndohoppeaaGreatMCTopLayersx2
import Derived.Lib.AppendZeros

/- A triple in a box; texts held against texts. -/
namespace Go.Proofs.YtaddfndohoppeaaGreat
open Go Go.RowKit Go.Proofs Go.Maps
set_option synthInstance.maxSize 1000

def TripAt (w : World) (b : Nat) (t : Tr) : Prop := ∀ j v, (encTr t)[j]? = some v → w.cell? ⟨b, j, none⟩ = some v
theorem TripAt.below {w w' : World} {b : Nat} {t : Tr} (h : TripAt w b t) (hb : Below w.heap.size w w') : TripAt w' b t := fun j v hv => (hb.cell (World.block_lt_of_cell? w _ (h j v hv))).trans (h j v hv)
theorem TripAt.all {w : World} {b : Nat} {t : Tr} (h : TripAt w b t) :
    w.cell? ⟨b, 0, none⟩ = some (.int .i64 t.1.1) ∧ w.cell? ⟨b, 1, none⟩ = some (.string ⟨t.1.2.1.toArray⟩) ∧ w.cell? ⟨b, 2, none⟩ = some (.string ⟨t.1.2.2.toArray⟩) ∧
    w.cell? ⟨b, 3, none⟩ = some (.int .i64 t.2.1.1) ∧ w.cell? ⟨b, 4, none⟩ = some (.string ⟨t.2.1.2.1.toArray⟩) ∧ w.cell? ⟨b, 5, none⟩ = some (.string ⟨t.2.1.2.2.toArray⟩) ∧
    w.cell? ⟨b, 6, none⟩ = some (.int .i64 t.2.2.1) ∧ w.cell? ⟨b, 7, none⟩ = some (.string ⟨t.2.2.2.1.toArray⟩) ∧ w.cell? ⟨b, 8, none⟩ = some (.string ⟨t.2.2.2.2.toArray⟩) :=
  ⟨h _ _ rfl, h _ _ rfl, h _ _ rfl, h _ _ rfl, h _ _ rfl, h _ _ rfl, h _ _ rfl, h _ _ rfl, h _ _ rfl⟩
theorem neqEmpty (v : List UInt8) (w : World) : (binOp .neq 9 (.string ⟨v.toArray⟩) (.string ⟨#[]⟩)).run Tryz.prog w = .ok (.bool (!v.isEmpty)) w := by
  cases v with
  | nil => kernel_rfl
  | cons c r => go_simp
theorem eqlEmpty (v : List UInt8) (w : World) : (binOp .eql 9 (.string ⟨v.toArray⟩) (.string ⟨#[]⟩)).run Tryz.prog w = .ok (.bool v.isEmpty) w := by
  cases v with
  | nil => kernel_rfl
  | cons c r => go_simp
end Go.Proofs.YtaddfndohoppeaaGreat

/- What gives variables terms, in plain words. -/
namespace Go.Proofs.YtaddfndohoppeaaGreat
open Go Go.RowKit Go.Proofs
set_option synthInstance.maxSize 1000

/-! ### what gives variables terms -/
abbrev Ev := List UInt8 → Option Tm
/-- what a triple gives to a pattern's variables: the last counts -/
def evT (p : Pt) (t : Tr) : Ev := fun v => if v = [] then none else if v = p.2.2.1 then some t.2.2 else if v = p.2.1.1 then some t.2.1 else if v = p.1.1 then some t.1 else none
def bothE (f g : Ev) : Ev := fun v => match g v with
  | some x => some x
  | none => f v
def noneE : Ev := fun _ => none
def putEv (f : Ev) (v : List UInt8) (x : Tm) : Ev := fun u => if u = v then some x else f u
def nthE (sh : List (List UInt8)) (f : Ev) (i : Nat) : Tm := match sh[i]? with
  | some v => (f v).getD tmZero
  | none => tmZero
/-- what an answer gives to at most three variables -/
def keyT (sh : List (List UInt8)) (f : Ev) : Tr := (nthE sh f 0, nthE sh f 1, nthE sh f 2)
end Go.Proofs.YtaddfndohoppeaaGreat

/- Answers of package solve: maps from variables to terms; give, fill, answerOf. -/
namespace Go.Proofs.YtaddfndohoppeaaGreat
open Go Go.RowKit Go.Proofs Go.Maps
set_option synthInstance.maxSize 1000
attribute [local go_sem ↓] eqlEmpty neqEmpty

theorem hideE {p : Prop} (h : p) : Hid p := h
theorem below_grownE {B b : Nat} {a w w' : World} (h : RowKit.Below B a w) (g : w.grownBy w' (some b)) (hB : B ≤ b) (hs : B ≤ a.heap.size) : RowKit.Below B a w' :=
  ⟨g.os.trans h.os, g.tape.trans h.tape, g.output.trans h.output, Nat.le_trans h.size g.size, fun i hi => (g.block i (by have := h.size; omega) (fun e => by simp at e; omega)).trans (h.block i hi)⟩
/-- the map at a block gives variables terms -/
def EvAt (w : World) (bm n : Nat) (f : Ev) : Prop :=
  ∃ D : DataW Unit, w.ownsMap Tryz.prog 9 termElemM bm n D ∧ ∀ v : List UInt8, v.length ≤ maxLen → Maps.has D (.string v) = (f v).isSome ∧ D.atKey (.string v) (encDM tmZero) = encDM ((f v).getD tmZero)
theorem EvAt.below {w w' : World} {bm n : Nat} {f : Ev} (h : EvAt w bm n f) (hb : RowKit.Below w.heap.size w w') : EvAt w' bm n f := by
  obtain ⟨D, o, g⟩ := h
  exact ⟨D, ownsMap_belowM o hb, g⟩
theorem EvAt.lt {w : World} {bm n : Nat} {f : Ev} (h : EvAt w bm n f) : bm < w.heap.size := by
  obtain ⟨D, o, g⟩ := h
  exact o.lt
theorem EvAt.far {w w' : World} {bm n B : Nat} {f : Ev} (h : EvAt w bm n f) (hb : RowKit.Below B w w') (hB : bm < B) : EvAt w' bm n f := by
  obtain ⟨D, ⟨es, clock, hm, r⟩, g⟩ := h
  exact ⟨D, ⟨es, clock, (hb.block bm hB).trans hm, r⟩, g⟩
theorem EvAt.kept {w w' : World} {bm n : Nat} {f : Ev} {row : Option Nat} (h : EvAt w bm n f) (hg : w.grownBy w' row) (hne : some bm ≠ row) : EvAt w' bm n f := by
  obtain ⟨D, o, g⟩ := h
  exact ⟨D, o.kept hg hne, g⟩
theorem EvAt.mono {w : World} {bm n m : Nat} {f : Ev} (h : EvAt w bm n f) (hn : n ≤ m) : EvAt w bm m f := by
  obtain ⟨D, o, g⟩ := h
  exact ⟨D, o.mono hn, g⟩
theorem evAt_made (w : World) : EvAt (w.alloc (.map #[] 0)) w.heap.size 0 noneE :=
  ⟨.map [], World.ownsMap_made _ _ _ _, fun v _ => ⟨by simp [Maps.has_eq, noneE], by simp [DataW.atKey, noneE]⟩⟩
theorem makeAns (w : World) : (Instr.makeMap 101 none).run Tryz.prog w = .ok (.map (some w.heap.size)) (w.alloc (.map #[] 0)) := by kernel_rfl

theorem look_ev {bm n : Nat} {f : Ev} {w : World} (h : EvAt w bm n f) (v : List UInt8) (hv : v.length ≤ maxLen) :
    (Instr.lookup 101 (.map (some bm)) (.string ⟨v.toArray⟩) true).run Tryz.prog w = .ok (.tuple #[valTermM ((f v).getD tmZero), .bool (f v).isSome]) w := by
  obtain ⟨D, o, g⟩ := h
  obtain ⟨u, ps, hrun, hu⟩ := o.look_ok keyedStr Tryz.underlying101 (zeroTmV w) (termElemM_mk tmZero) (keyOf_v v hv)
  rw [(g v hv).2] at hu
  rw [hrun, (g v hv).1, termElemM_inv hu]
theorem look0_ev {bm n : Nat} {f : Ev} {w : World} (h : EvAt w bm n f) (v : List UInt8) (hv : v.length ≤ maxLen) :
    (Instr.lookup 101 (.map (some bm)) (.string ⟨v.toArray⟩) false).run Tryz.prog w = .ok (valTermM ((f v).getD tmZero)) w := by
  obtain ⟨D, o, g⟩ := h
  obtain ⟨u, ps, hrun, hu⟩ := o.lookup keyedStr Tryz.underlying101 (zeroTmV w) (termElemM_mk tmZero) (keyOf_v v hv)
  rw [(g v hv).2] at hu
  rw [hrun, termElemM_inv hu]
theorem wpList_look_ev (w : World) {ops : Array Oper} {rest : List Oper} {o : Oper} {a : Act} {Q : Exit → Act → World → Prop}
    (hg : o.guard = none) (m x : Operand) (hop : o.op = Op.lookup 101 m x true) (bm n : Nat) (f : Ev) (hm : a.eval m = .map (some bm)) (h : EvAt w bm n f)
    (v : List UInt8) (hv : v.length ≤ maxLen) (hx : a.eval x = .string ⟨v.toArray⟩) (y : Tm) (b : Bool) (hy : (f v).getD tmZero = y) (hb : (f v).isSome = b)
    (hK : wpList Tryz.prog ops Q rest (a.put o.dst (.tuple #[.agg #[.int .i64 y.1, .string ⟨y.2.1.toArray⟩, .string ⟨y.2.2.toArray⟩], .bool b])) w) : wpList Tryz.prog ops Q (o :: rest) a w := by
  refine wpList_plain hg fun K' hK' => ?_
  have hrun := look_ev h v hv
  rw [hy, hb] at hrun
  unfold Oper.wp
  simp [execOp, hop, hm, hx, hrun, Result.andThen]
  exact hK' _ _ hK
theorem wpList_look0_ev (w : World) {ops : Array Oper} {rest : List Oper} {o : Oper} {a : Act} {Q : Exit → Act → World → Prop}
    (hg : o.guard = none) (m x : Operand) (hop : o.op = Op.lookup 101 m x false) (bm n : Nat) (f : Ev) (hm : a.eval m = .map (some bm)) (h : EvAt w bm n f)
    (v : List UInt8) (hv : v.length ≤ maxLen) (hx : a.eval x = .string ⟨v.toArray⟩) (y : Tm) (hy : (f v).getD tmZero = y)
    (hK : wpList Tryz.prog ops Q rest (a.put o.dst (.agg #[.int .i64 y.1, .string ⟨y.2.1.toArray⟩, .string ⟨y.2.2.toArray⟩])) w) : wpList Tryz.prog ops Q (o :: rest) a w := by
  refine wpList_plain hg fun K' hK' => ?_
  have hrun := look0_ev h v hv
  rw [hy] at hrun
  unfold Oper.wp
  simp [execOp, hop, hm, hx, hrun, Result.andThen]
  exact hK' _ _ hK
theorem put_ev {f : Ev} {v : List UInt8} {x : Tm} {D : DataW Unit} (hv : v.length ≤ maxLen) (m1 : IsMap D)
    (g : ∀ v : List UInt8, v.length ≤ maxLen → Maps.has D (.string v) = (f v).isSome ∧ D.atKey (.string v) (encDM tmZero) = encDM ((f v).getD tmZero)) :
    ∀ u : List UInt8, u.length ≤ maxLen → Maps.has (D.put (.string v) (encDM x)) (.string u) = (putEv f v x u).isSome ∧ (D.put (.string v) (encDM x)).atKey (.string u) (encDM tmZero) = encDM ((putEv f v x u).getD tmZero) := fun u hu => by
  have hk := keyedStr.key (keyOf_v v hv)
  unfold putEv
  by_cases e : u = v
  · subst e
    rw [Maps.has_put_same m1 hk, Maps.atKey_put_same m1 hk, if_pos rfl]
    exact ⟨rfl, rfl⟩
  · have hne : (Lit.string u) ≠ (Lit.string v) := fun e' => e (by simpa using e')
    rw [Maps.has_put_other hne, Maps.atKey_put_other hne, if_neg e]
    exact g u hu
theorem wpList_put_ev (w : World) {ops : Array Oper} {rest : List Oper} {o : Oper} {a : Act} {Q : Exit → Act → World → Prop}
    (hg : o.guard = none) (m x vo : Operand) (hop : o.op = Op.mapUpdate 101 m x vo) (bm n : Nat) (f : Ev) (hm : a.eval m = .map (some bm)) (h : EvAt w bm n f) (hn : n < maxLen)
    (v : List UInt8) (hv : v.length ≤ maxLen) (hx : a.eval x = .string ⟨v.toArray⟩) (y : Tm) (hy : a.eval vo = .agg #[.int .i64 y.1, .string ⟨y.2.1.toArray⟩, .string ⟨y.2.2.toArray⟩])
    (hK : ∀ w', EvAt w' bm (n + 1) (putEv f v y) → w.grownBy w' (some bm) → wpList Tryz.prog ops Q rest (a.put o.dst undef) w') : wpList Tryz.prog ops Q (o :: rest) a w := by
  obtain ⟨D, own, g⟩ := h
  exact wpList_mapUpdate_own w hg m x vo 101 hop 9 56 keyedStr Tryz.underlying101 termElemM bm n D hm own hn _ _ _ hx hy (keyOf_v v hv) _ [] (termElemM_mk y)
    (fun w' o' g' => hK w' ⟨_, o', put_ev hv own.isMap g⟩ g')

/-! ### fill -/
/-! ### give -/
/-! ### what a triple gives -/
def stepV (f : Ev) (s : Sl) (x : Tm) : Ev := if s.1 = [] then f else putEv f s.1 x
def evK (p : Pt) (t : Tr) : Nat → Ev
  | 0 => noneE
  | k + 1 => stepV (evK p t k) (slotK p k) (termK t k)
theorem evK_all (p : Pt) (t : Tr) : evK p t 3 = evT p t := by
  obtain ⟨⟨a, x⟩, ⟨b, y⟩, ⟨c, z⟩⟩ := p
  show stepV (stepV (stepV noneE (a, x) t.1) (b, y) t.2.1) (c, z) t.2.2 = _
  funext v
  by_cases h1 : a = [] <;> by_cases h2 : b = [] <;> by_cases h3 : c = [] <;> simp only [stepV, evT, h1, h2, h3, if_true, if_false] <;> simp only [putEv, noneE] <;> grind
theorem evAt_made3 (w : World) (o1 o2 o3 : Obj) : EvAt ((((w.alloc o1).alloc o2).alloc (.map #[] 0)).alloc o3) (w.heap.size + 2) 0 noneE := by
  have := (evAt_made ((w.alloc o1).alloc o2)).below (balloc _ o3)
  simpa using this
theorem patAt_made3 (w : World) (o1 o2 o3 : Obj) (p : Pt) (T : TypeId) : PatAt ((((w.alloc o1).alloc o2).alloc o3).alloc (.cells (encPt p).toArray T)) (w.heap.size + 3) p := fun j v hv => by
  have hh := heap_alloc_last (((w.alloc o1).alloc o2).alloc o3) (.cells (encPt p).toArray T)
  have e : (((w.alloc o1).alloc o2).alloc o3).heap.size = w.heap.size + 3 := by simp
  rw [e] at hh
  rw [cell_of_row _ _ j _ T (0, 0) hh, List.getElem?_toArray]
  exact hv
set_option maxHeartbeats 4000000 in
set_option maxRecDepth 100000 in
theorem answerOf_any (p : Pt) (t : Tr) (w : World) (hp : fitPt p) :
    Calls Tryz.prog 110 #[valPt p, valTr t] w fun e w' => e = .returned (.map (some (w.heap.size + 2))) ∧ EvAt w' (w.heap.size + 2) 3 (evT p t) ∧ RowKit.Below w.heap.size w w' := by
  have Hp := hideE hp
  have HX : Hid (∀ k : Nat, k < 3 → ∀ W, (Instr.index 156 (valTr t) (.int .i64 k)).run Tryz.prog W = .ok (.agg #[.int .i64 (termK t k).1, .string ⟨(termK t k).2.1.toArray⟩, .string ⟨(termK t k).2.2.toArray⟩]) W) := indexTm t
  have hmk := makeAns
  have hE0 := fun o1 o2 o3 => evAt_made3 w o1 o2 o3
  have hP0 := fun o1 o2 o3 => patAt_made3 w o1 o2 o3 p 222
  have fin := hideE (evK_all p t)
  have HE0 := hideE hE0
  have HP0 := hideE hP0
  clear hE0 hP0
  unfold valTr at HX ⊢
  unfold valPt
  clear hp
  go_enter Tryz.func110, Tryz.ntmps110
  go_wp2_with fail
  go_loopw [25] (fun i wr => ∃ k : Nat, k ≤ 3 ∧ i = .int .i64 k ∧ Hid (EvAt wr (w.heap.size + 2) k (evK p t k)) ∧ Hid (PatAt wr (w.heap.size + 3) p) ∧ RowKit.Below w.heap.size w wr) (fun i wr => 3 - (intOf i).toNat)
  case atStart => exact ⟨0, by omega, rfl, HE0.out _ _ _, HP0.out _ _ _, bstep (bstep (bstep (balloc _ _) (balloc _ _)) (balloc _ _)) (balloc _ _)⟩
  case round =>
    clear HE0 HP0
    obtain ⟨k, hk, rfl, hE, hP, hbr⟩ := hrel
    by_cases hlt : k < 3
    · have hix := HX.out k hlt
      have t1 : decide ((k : Int) < 3) = true := by simp; omega
      have i0 : (0 : Int) ≤ (k : Int) := by omega
      have i1 : (k : Int) < 3 := by omega
      have hst := hideE (show evK p t (k + 1) = stepV (evK p t k) (slotK p k) (termK t k) from rfl)
      have hfs := hideE (fit_slotK Hp.out k)
      have hzr := hbr.size
      obtain ⟨c0, _, _, _⟩ := hP.out.at k hlt
      generalize hEE : evK p t (k + 1) = E' at *
      have HEE := hideE hEE
      clear hEE
      generalize evK p t k = E at *
      generalize slotK p k = s at *
      generalize termK t k = x at *
      obtain ⟨v, y⟩ := s
      have c0' : wr.cell? ⟨w.heap.size + 1 + 1 + 1, k * 4, none⟩ = some (.string ⟨v.toArray⟩) := c0
      have hl3 : w.heap.size + 1 + 1 + 1 < wr.heap.size := hP.out.lt
      clear c0
      cases hve : v.isEmpty
      · have hE2 := hideE (show E' = putEv E v x by rw [hst.out]; unfold stepV; rw [if_neg (by simpa using hve)])
        clear hst
        go_wp2_with (first
          | (at_mapUpdate; refine wpList_put_ev _ rfl _ _ _ rfl (w.heap.size + 2) k E rfl (hE.out.below (balloc _ _)) (by unfold maxLen; omega) v hfs.out.1 rfl x rfl ?_; intro w1 he1 hg1))
        go_roundw
        case rel =>
          have hP1 : PatAt w1 (w.heap.size + 3) p := fun j u hj => (grown_far hg1 (b := w.heap.size + 3) (by have := hP.out.lt; simp; omega) (by omega) j).1.trans ((hP.out.below (balloc _ _)) j u hj)
          exact ⟨k + 1, by omega, by go_num, by show EvAt _ _ _ _; rw [HEE.out, hE2.out]; exact he1, hP1, below_grownE (bstep hbr (balloc _ _)) hg1 (by omega) (Nat.le_refl _)⟩
        case measure => simp [intOf]; omega
      · have hE2 := hideE (show E' = E by rw [hst.out]; unfold stepV; rw [if_pos (by simpa using hve)])
        clear hst
        go_wp2_with fail
        go_roundw
        case rel => exact ⟨k + 1, by omega, by go_num, by show EvAt _ _ _ _; rw [HEE.out, hE2.out]; exact (hE.out.below (balloc _ _)).mono (by omega), hP.out.below (balloc _ _), bstep hbr (balloc _ _)⟩
        case measure => simp [intOf]; omega
    · obtain rfl : k = 3 := by omega
      go_wp2_with fail
      go_ret
      exact ⟨rfl, by rw [← fin.out]; exact hE.out, hbr⟩
end Go.Proofs.YtaddfndohoppeaaGreat

/- Lists of answers: solve.answersToPart. -/
namespace Go.Proofs.YtaddfndohoppeaaGreat
open Go Go.RowKit Go.Proofs Go.Maps
set_option synthInstance.maxSize 1000
attribute [local go_sem] eql_errV neq_errV guard_errV

/-- a slice holds answers -/
def SlE (w : World) (ad : Option Addr) (n : Nat) (L : List Ev) : Prop := L ≠ [] → ∃ b o, ad = some ⟨b, o, none⟩ ∧ ∀ j (hj : j < L.length), ∃ bm, w.cell? ⟨b, o + j, none⟩ = some (.map (some bm)) ∧ EvAt w bm n L[j]
theorem SlE.below {w w' : World} {ad : Option Addr} {n : Nat} {L : List Ev} (h : SlE w ad n L) (hb : RowKit.Below w.heap.size w w') : SlE w' ad n L := fun hl => by
  obtain ⟨b, o, e, r⟩ := h hl
  refine ⟨b, o, e, fun j hj => ?_⟩
  obtain ⟨bm, c, s⟩ := r j hj
  exact ⟨bm, (hb.cell (World.block_lt_of_cell? w _ c)).trans c, s.below hb⟩
theorem SlE.at {w : World} {ad : Option Addr} {n : Nat} {L : List Ev} (h : SlE w ad n L) (k : Nat) (hk : k < L.length) : ∃ b o bm, ad = some ⟨b, o, none⟩ ∧ w.cell? ⟨b, o + k, none⟩ = some (.map (some bm)) ∧ EvAt w bm n L[k] := by
  obtain ⟨b, o, e, r⟩ := h (fun e => by rw [e] at hk; simp at hk)
  obtain ⟨bm, c, s⟩ := r k hk
  exact ⟨b, o, bm, e, c, s⟩
theorem slE_nil (W : World) (ad : Option Addr) (n : Nat) : SlE W ad n [] := fun h => absurd rfl h
theorem EvAt.setCell {w : World} {bm n : Nat} {f : Ev} (h : EvAt w bm n f) {a : Addr} (ha : bm ≠ a.block) (u : Value) : EvAt (w.setCell a u) bm n f := by
  obtain ⟨D, o, g⟩ := h
  exact ⟨D, o.setCell ha u, g⟩
/-- a row of answers, laid as far as k -/
structure LaidE (W : World) (g k n : Nat) (L : List Ev) : Prop where
  low : ∀ j (_ : j < k) (hL : j < L.length), ∃ bm, W.cell? ⟨g, j, none⟩ = some (.map (some bm)) ∧ bm ≠ g ∧ EvAt W bm n L[j]
  all : ∀ j, j < L.length → (∃ u, W.cell? ⟨g, j, none⟩ = some u) ∧ W.frozen? ⟨g, j, none⟩ = false
theorem LaidE.below {W W' : World} {g k n : Nat} {L : List Ev} (h : LaidE W g k n L) (hb : RowKit.Below W.heap.size W W') : LaidE W' g k n L := by
  refine ⟨fun j hj hL => ?_, fun j hj => ?_⟩
  · obtain ⟨bm, c, ne, s⟩ := h.low j hj hL
    exact ⟨bm, (hb.cell (World.block_lt_of_cell? W _ c)).trans c, ne, s.below hb⟩
  · obtain ⟨⟨u, c⟩, f⟩ := h.all j hj
    have hlt := World.block_lt_of_cell? W _ c
    exact ⟨⟨u, (hb.cell hlt).trans c⟩, (hb.frozen hlt).trans f⟩
theorem LaidE.step {W : World} {g k n bm : Nat} {L : List Ev} (h : LaidE W g k n L) (hk : k < L.length) (hne : bm ≠ g) (he : EvAt W bm n L[k]) : LaidE (W.setCell ⟨g, k, none⟩ (.map (some bm))) g (k + 1) n L := by
  refine ⟨fun j hj hL => ?_, fun j hj => ?_⟩
  · by_cases e : j = k
    · subst e
      obtain ⟨⟨u, c⟩, f⟩ := h.all j hL
      exact ⟨bm, World.cell?_setCell_same W _ _ c, hne, he.setCell hne _⟩
    · obtain ⟨b', c, ne, s⟩ := h.low j (by omega) hL
      exact ⟨b', (World.cell?_setCell_other W _ _ _ (fun h => e (by simpa using congrArg Addr.off h.symm))).trans c, ne, s.setCell ne _⟩
  · obtain ⟨⟨u, c⟩, f⟩ := h.all j hj
    refine ⟨?_, by rw [World.frozen?_setCell]; exact f⟩
    by_cases e : j = k
    · subst e
      exact ⟨_, World.cell?_setCell_same W _ _ c⟩
    · exact ⟨u, (World.cell?_setCell_other W _ _ _ (fun h => e (by simpa using congrArg Addr.off h.symm))).trans c⟩
theorem LaidE.sl {W : World} {g n : Nat} {L : List Ev} (h : LaidE W g L.length n L) : SlE W (some ⟨g, 0, none⟩) n L := fun _ => ⟨g, 0, rfl, fun j hj => by
  obtain ⟨bm, c, _, s⟩ := h.low j hj hj
  exact ⟨bm, by rw [Nat.zero_add]; exact c, s⟩⟩
theorem laidE_made (W : World) (n : Nat) (L : List Ev) (T : TypeId) : LaidE (W.alloc (.cells (madeCells #[.map none] L.length) T)) W.heap.size 0 n L := by
  refine ⟨fun j hj => by omega, fun j hj => ?_⟩
  have hh := heap_alloc_last W (.cells (madeCells #[.map none] L.length) T)
  refine ⟨⟨.map none, ?_⟩, frozen_of_row _ _ j _ T hh⟩
  rw [cell_of_row _ _ j _ T (0, 0) hh, ← Array.getElem?_toList, toList_madeCells_one]
  simp [hj]
theorem infoE : (Tryz.prog.info? 101).map (fun i => (i.zero, i.size, i.bytes)) = some (some (.map none), 1, 8) := by kernel_rfl
theorem makeEs (n : Nat) (w : World) (h : n ≤ 100000) : (Instr.makeSlice 97 (.int .i64 (n : Int)) (.int .i64 (n : Int))).run Tryz.prog w = .ok (.slice (some ⟨w.heap.size, 0, none⟩) n n) (w.alloc (.cells (madeCells #[.map none] n) 101)) := by
  obtain ⟨i, hi, hz⟩ := Option.map_eq_some_iff.1 infoE
  simp only [Prod.mk.injEq] at hz
  obtain ⟨h1, h2, h3⟩ := hz
  have := run_make (P := Tryz.prog) w 97 101 i _ Tryz.underlying97 hi h1 .i64 .i64 (n : Int) (n : Int) (by omega) (Int.le_refl _) (by rw [h3]; omega) (by omega)
  rw [h2] at this
  simpa [Value.cells] using this
set_option maxHeartbeats 4000000 in
set_option maxRecDepth 100000 in
theorem answersToPart_any (ad : Option Addr) (ca : Nat) (S : List Tr) (p : Pt) (w : World) (h : SlT w ad S) (hfit : ∀ x ∈ S, fitTr x) (hp : fitPt p) (hS : S.length ≤ 200) (hN : matchN S p = 0) :
    Calls Tryz.prog 71 #[.slice ad S.length ca, valPt p] w fun e w' => RowKit.Below w.heap.size w w' ∧ ∃ ad' c', e = .returned (.tuple #[.slice ad' (matchL S p).length c', .nilIface]) ∧ SlE w' ad' 3 ((matchL S p).map (evT p)) := by
  have HM := fun W hW => Match_any ad ca S p W hW hfit hp (by omega)
  have HA := fun t W => answerOf_any p t W hp
  have Hh := hideE h
  have hlen : (matchL S p).length ≤ 200 := Nat.le_trans (List.length_filter_le _ _) hS
  have hm : ∀ m, MatchAns S p m → m = matchL S p := fun m h => by unfold MatchAns at h; rw [if_pos hN] at h; exact h
  have Hm := hideE hm
  rw [hN] at HM
  have hb0 := patBox w p 63
  have Hb0 := hideE hb0
  clear h hfit hS hm hN hb0 hp
  unfold valPt at HM HA ⊢
  generalize hMM : matchL S p = M at *
  clear hMM
  go_enter Tryz.func71, Tryz.ntmps71
  go_wp2_with fail
  refine (HM _ (Hh.out.below (balloc _ _))).mono ?_
  rintro e w1 ⟨hb1, m, ad1, c1, rfl, hs1, hA⟩
  obtain rfl := Hm.out m hA
  have hmk := fun W => makeEs m.length W (by omega)
  have hP1 := hideE (Hb0.out.below hb1)
  have hB1 := bstep (balloc _ _) hb1
  have Hs1 := hideE hs1
  clear hs1 HM Hh hA Hm Hb0
  have hL0 := hideE (laidE_made w1 3 (m.map (evT p)) 101)
  rw [show (m.map (evT p)).length = m.length by simp] at hL0
  dsimp only
  go_wp2_with fail
  obtain ⟨W1, hW1⟩ : ∃ W1, W1 = w1.alloc (.cells (madeCells #[.map none] m.length) 101) := ⟨_, rfl⟩
  rw [← hW1] at hL0 ⊢
  have hB2 : RowKit.Below w1.heap.size w1 W1 := by rw [hW1]; exact balloc _ _
  have hz1 := hb1.size
  have hz2 : w1.heap.size < W1.heap.size := by rw [hW1]; simp
  clear hW1
  go_loopw [25] (fun i wr => ∃ k : Nat, k ≤ m.length ∧ i = .int .i64 k ∧ Hid (LaidE wr w1.heap.size k 3 (m.map (evT p))) ∧ RowKit.Below w1.heap.size w1 wr) (fun i wr => m.length - (intOf i).toNat)
  case atStart => exact ⟨0, Nat.zero_le _, rfl, hL0.out, hB2⟩
  case round =>
    clear hL0
    obtain ⟨k, hk, rfl, hL, hbr⟩ := hrel
    by_cases hlt : k < m.length
    · have t1 : decide ((k : Int) < (m.length : Int)) = true := by simp; omega
      have i0 : (0 : Int) ≤ (k : Int) := by omega
      have i1 : (k : Int) < (m.length : Int) := by omega
      have hPr := hP1.out.far hbr hP1.out.lt
      obtain ⟨p0, p1, p2, p3, p4, p5, p6, p7, p8, p9, p10, p11⟩ := hPr.all
      obtain ⟨b, o, rfl, hr⟩ := (Hs1.out.below hbr).at k hlt
      obtain ⟨q0, q1, q2, q3, q4, q5, q6, q7, q8⟩ := hr.at k hlt
      have HT := HA m[k]
      have hek : (m.map (evT p))[k]'(by simpa using hlt) = evT p m[k] := by simp
      have Hek := hideE hek
      clear hek
      unfold valTr at HT
      have hzr := hbr.size
      have hbl := World.block_lt_of_cell? wr _ q0
      have hpl := hPr.lt
      obtain ⟨⟨u, cu⟩, fu⟩ := hL.out.all k (by simpa using hlt)
      have hgl := World.block_lt_of_cell? wr _ cu
      clear hPr hr
      go_wp2_with fail
      refine (HT _).mono ?_
      rintro e w2 ⟨rfl, he2, hb2⟩
      have hb3 := bstep (balloc wr (.cells (encTr m[k]).toArray 58)) hb2
      have hL2 := hideE (hL.out.below hb3)
      obtain ⟨⟨u2, cu2⟩, fu2⟩ := hL2.out.all k (by simpa using hlt)
      have hL3 := hideE (hL2.out.step (by simpa using hlt) (bm := wr.heap.size + 1 + 2) (by omega) (by rw [Hek.out]; simpa using he2))
      have hbf := bstep hbr hb3
      clear he2 hb2 hb3 hL2
      dsimp only
      go_wp2_with fail
      go_roundw
      case rel => exact ⟨k + 1, by omega, by go_num, hL3, hbf.setCell (p := ⟨w1.heap.size, k, none⟩) (Nat.le_refl _) _⟩
      case measure => simp [intOf]; omega
    · obtain rfl : k = m.length := by omega
      have t1 : decide ((m.length : Int) < (m.length : Int)) = false := by simp
      go_wp2_with fail
      refine bodyPost_ret (v := .tuple #[.slice (some ⟨w1.heap.size, 0, none⟩) m.length m.length, .nilIface]) (by simp [results, Tryz.results71, go_sem]) rfl ⟨bstep hB1 hbr, _, _, rfl, LaidE.sl ?_⟩
      simpa using hL.out
end Go.Proofs.YtaddfndohoppeaaGreat

/- A map from three terms to lists of answers: those that have a key in common. -/
namespace Go.Proofs.YtaddfndohoppeaaGreat
open Go Go.RowKit Go.Proofs Go.Maps
open Go.WideMaps (KeyLaw)
open Go.WideElems (Fit)
open Go.ChangeMaps (setBlock heap_setBlock_same heap_setBlock_other)
set_option synthInstance.maxSize 1000

/-! ### three terms as a key -/
def wfK (x : Tm) : Prop := (Lit.int .i64 x.1).wf = true ∧ x.2.1.length ≤ maxLen ∧ x.2.2.length ≤ maxLen
def wf3 (x : Tr) : Prop := wfK x.1 ∧ wfK x.2.1 ∧ wfK x.2.2
theorem rowA3 : (156 : TypeId) < Tryz.prog.types.size := of_decide_eq_true (by kernel_rfl)
theorem wideA3 : (match Tryz.prog.underlying 156 with | some (.array _ _) | some (.struct _) => true | _ => false) = true := by kernel_rfl
set_option maxRecDepth 100000 in
theorem lawA3 : KeyLaw Tryz.prog 156 := deep_law_laid laidOutP (m := 4) (by omega) rowA3 (by kernel_rfl) wideA3
theorem keyedA3 : Keyed Tryz.prog 156 := Keyed.of_law lawA3
theorem cellsOfA3 : Tryz.prog.cellsOf 156 = 9 := by kernel_rfl
theorem keyTypeA3 : Tryz.prog.keyType 156 = true := by kernel_rfl
theorem keyLits_three (d : Nat) (x : Tr) (h : wf3 x) : Tryz.prog.keyLits (d + 3) 156 (encTr x) = some (litsTr x) := by
  obtain ⟨⟨a1, a2, a3⟩, ⟨b1, b2, b3⟩, ⟨c1, c2, c3⟩⟩ := h
  have e1 := keyLits_term d x.1.1 x.1.2.1 x.1.2.2 a1 a2 a3
  have e2 := keyLits_term d x.2.1.1 x.2.1.2.1 x.2.1.2.2 b1 b2 b3
  have e3 := keyLits_term d x.2.2.1 x.2.2.2.1 x.2.2.2.2 c1 c2 c3
  unfold Program.keyLits
  simp only [Tryz.underlying156, cellsOfA3, encTr]
  simp [e1, e2, e3, litsTr, cellsOfTm, List.range, List.range.loop]
theorem keyOf_three (x : Tr) (h : wf3 x) : keyOf Tryz.prog 156 (valTr x) = some (keyTr x) := by
  have hl := keyLits_three (Tryz.prog.types.size - 2) x h
  have hsz : Tryz.prog.types.size - 2 + 3 = Tryz.prog.types.size + 1 := by
    have : 2 ≤ Tryz.prog.types.size := of_decide_eq_true (by kernel_rfl)
    omega
  rw [hsz] at hl
  have hf : (valTr x).formed Tryz.prog 156 = true := by
    simp [Value.formed, Tryz.underlying156, cellsOfA3, valTr]
  unfold keyOf
  rw [Tryz.underlying156]
  simp only [keyTypeA3, hf, Bool.and_self, if_true]
  have hc : (valTr x).cells.toList = encTr x := rfl
  rw [hc, hl]
  rfl
theorem keyThree_ne {x y : Tr} (hx : wf3 x) (hy : wf3 y) (h : x ≠ y) : keyTr x ≠ keyTr y := fun e => by
  have h1 := keyOf_three x hx
  have h2 := keyOf_three y hy
  rw [e] at h1
  exact h (valTr_inj (keyedA3.inj h1 h2))

/-! ### elements that are slices: what they say of where they lie -/
def encHd : Value → DataW Unit
  | .slice none n c => .agg [.lit (.bool false), .lit (.int .i64 n), .lit (.int .i64 c)]
  | .slice (some ⟨b, o, none⟩) n c => .agg [.lit (.bool true), .lit (.int .i64 b), .lit (.int .i64 o), .lit (.int .i64 n), .lit (.int .i64 c)]
  | _ => .nil
def isHd : Value → Bool
  | .slice none _ _ => true
  | .slice (some ⟨_, _, none⟩) _ _ => true
  | _ => false
def hdElem (v : Value) : Option (DataW Unit × List MemPlace) := if isHd v = true then some (encHd v, []) else none
theorem hdElem_mk {v : Value} (h : isHd v = true) : hdElem v = some (encHd v, []) := if_pos h
theorem hdElem_inv {v u : Value} {ps : List MemPlace} (h : hdElem v = some (encHd u, ps)) (hu : isHd u = true) : v = u := by
  unfold hdElem at h
  split at h
  · rename_i hv
    simp only [Option.some.injEq, Prod.mk.injEq] at h
    have e := h.1
    unfold isHd at hv hu
    split at hv
    · split at hu
      · simp [encHd] at e
        simp
        omega
      · simp [encHd] at e
      · cases hu
    · split at hu
      · simp [encHd] at e
      · simp [encHd] at e
        simp
        omega
      · cases hu
    · cases hv
  · cases h
theorem isHd_own {w : World} {base e size n : Nat} {v : Value} {xs : List Value} (h : w.ownsRow base e size v n xs) : isHd v = true := by
  rcases h.2 with ⟨rfl, _⟩ | ⟨g, cap, cur, rfl, _⟩ <;> rfl
theorem zeroHd (w : World) : (zeroValue 97).run Tryz.prog w = .ok (.slice none 0 0) w := by kernel_rfl

/-- the map at a block has these slices -/
def GrpAt (w : World) (b n : Nat) (hd : Tr → Value) : Prop := ∃ D : DataW Unit, w.ownsMap Tryz.prog 156 hdElem b n D ∧ ∀ k, wf3 k → isHd (hd k) = true ∧ D.atKey (keyTr k) (encHd (.slice none 0 0)) = encHd (hd k)
theorem grpAt_made (w : World) : GrpAt (w.alloc (.map #[] 0)) w.heap.size 0 (fun _ => .slice none 0 0) := ⟨.map [], World.ownsMap_made _ _ _ _, fun k _ => ⟨rfl, by simp [DataW.atKey]⟩⟩
theorem GrpAt.lt {w : World} {b n : Nat} {hd : Tr → Value} (h : GrpAt w b n hd) : b < w.heap.size := by
  obtain ⟨D, o, g⟩ := h
  exact o.lt
theorem GrpAt.kept {w w' : World} {b n : Nat} {hd : Tr → Value} {row : Option Nat} (h : GrpAt w b n hd) (hg : w.grownBy w' row) (hne : some b ≠ row) : GrpAt w' b n hd := by
  obtain ⟨D, o, g⟩ := h
  exact ⟨D, o.kept hg hne, g⟩
theorem GrpAt.below {w w' : World} {b n : Nat} {hd : Tr → Value} (h : GrpAt w b n hd) (hb : RowKit.Below w.heap.size w w') : GrpAt w' b n hd := by
  obtain ⟨D, o, g⟩ := h
  exact ⟨D, ownsMap_belowM o hb, g⟩
theorem GrpAt.mono {w : World} {b n m : Nat} {hd : Tr → Value} (h : GrpAt w b n hd) (hn : n ≤ m) : GrpAt w b m hd := by
  obtain ⟨D, o, g⟩ := h
  exact ⟨D, o.mono hn, g⟩
theorem grp_look {w : World} {b n : Nat} {hd : Tr → Value} (h : GrpAt w b n hd) (k : Tr) (hk : wf3 k) :
    (Instr.lookup 185 (.map (some b)) (valTr k) false).run Tryz.prog w = .ok (hd k) w := by
  obtain ⟨D, o, g⟩ := h
  obtain ⟨u, ps, hrun, hu⟩ := o.lookup keyedA3 Tryz.underlying185 (zeroHd w) (hdElem_mk (v := .slice none 0 0) rfl) (keyOf_three k hk)
  rw [(g k hk).2] at hu
  rw [hrun, hdElem_inv hu (g k hk).1]
theorem grp_entry {w : World} {b n : Nat} {hd : Tr → Value} (h : GrpAt w b n hd) (hn : n < maxLen) (k : Tr) (hk : wf3 k) :
    ∃ (st : Nat) (w1 : World), (Instr.mapEntry 185 (.map (some b)) (valTr k)).run Tryz.prog w = .ok (.tuple #[hd k, goInt st]) w1 ∧ w.grownBy w1 (some b) ∧ w1.heap.size = w.heap.size ∧
      ∀ (w2 : World) (val : Value), w2.heap[b]? = w1.heap[b]? → isHd val = true → ∃ w3, (Instr.entryStore 185 (.map (some b)) (goInt st) val).run Tryz.prog w2 = .ok () w3 ∧ GrpAt w3 b (n + 1) (fun k' => if k' = k then val else hd k') ∧ w2.grownBy w3 (some b) := by
  obtain ⟨D, own, g⟩ := h
  have hkey := keyOf_three k hk
  have own' := own
  obtain ⟨es, clock, hb, F, hs, hD⟩ := own'
  obtain ⟨v0, st, es1, clock1, hrun, hv0, hback⟩ := WideElems.entry_then_store lawA3 Tryz.underlying185 (fun u => zeroHd u) hb F hkey
  have hv : v0 = hd k := by
    have gk := g k hk
    rw [hD] at gk
    rcases Maps.fit_look false keyedA3 Tryz.underlying185 (zeroHd w) hb F hkey with ⟨_, hno, hat⟩ | ⟨e0, y, hm0, hk0, _, hy, hat, _⟩
    · rcases hv0 with ⟨e1, he1, hke, _⟩ | ⟨_, rfl⟩
      · exact absurd hke (hno e1 he1)
      · rw [hat] at gk
        exact hdElem_inv (ps := []) (by rw [← gk.2]; rfl) gk.1
    · rcases hv0 with ⟨e1, he1, hke, rfl⟩ | ⟨hno, _⟩
      · have he : e1 = e0 := by
          have hn2 : es.toList.Pairwise (fun x y => x.key ≠ y.key) := ((MapKept.stamped_iff es clock).1 F.stamped).2.2
          obtain ⟨i, hi, rfl⟩ := List.getElem_of_mem he1
          obtain ⟨j, hj, rfl⟩ := List.getElem_of_mem hm0
          have hp := List.pairwise_iff_getElem.1 hn2
          rcases Nat.lt_trichotomy i j with h | h | h
          · exact absurd (hke.trans hk0.symm) (hp i j hi hj h)
          · subst h; rfl
          · exact absurd (hk0.trans hke.symm) (hp j i hj hi h)
        subst he
        rw [hat] at gk
        obtain ⟨y1, y2⟩ := y
        have e2 : y1 = encHd (hd k) := gk.2
        exact hdElem_inv (ps := y2) (by rw [hy, e2]) gk.1
      · exact absurd hk0 (hno e0 hm0)
  subst hv
  refine ⟨st, _, hrun, ⟨rfl, rfl, rfl, by simp [setBlock], fun i _ hi => heap_setBlock_other hb _ (fun e => hi (by rw [e]))⟩, by simp [setBlock], fun w2 val hw2 hval => ?_⟩
  replace hw2 : w2.heap[b]? = some (.map es1 clock1) := hw2.trans (heap_setBlock_same hb _)
  obtain ⟨es', clock', hst, hup⟩ := hback w2 val hw2
  obtain ⟨w', hup', hown', _⟩ := own.update keyedA3 Tryz.underlying185 hn hkey (hdElem_mk hval)
  rw [hup] at hup'
  obtain rfl : setBlock w b (.map es' clock') = w' := by simpa using hup'
  refine ⟨_, hst, ⟨D.put (keyTr k) (encHd val), ?_, fun k' hk' => ?_⟩, ⟨rfl, rfl, rfl, by simp [setBlock], fun i _ hi => heap_setBlock_other hw2 _ (fun e => hi (by rw [e]))⟩⟩
  · obtain ⟨es2, clock2, hb2, r⟩ := hown'
    exact ⟨es2, clock2, (heap_setBlock_same hw2 _).trans ((heap_setBlock_same hb _).symm.trans hb2), r⟩
  · by_cases e : k' = k
    · subst e
      dsimp only
      rw [if_pos rfl]
      exact ⟨hval, Maps.atKey_put_same own.isMap (keyedA3.key hkey) _ _⟩
    · dsimp only
      rw [if_neg e, Maps.atKey_put_other (keyThree_ne hk' hk e)]
      exact g k' hk'
end Go.Proofs.YtaddfndohoppeaaGreat

/- maps.Clone and maps.Copy at answers; solve.both. -/
namespace Go.Proofs.YtaddfndohoppeaaGreat
open Go Go.RowKit Go.Proofs Go.Maps
set_option synthInstance.maxSize 1000

theorem EvAt.same {w : World} {bm n : Nat} {f g : Ev} (h : EvAt w bm n f) (e : ∀ v : List UInt8, v.length ≤ maxLen → f v = g v) : EvAt w bm n g := by
  obtain ⟨D, o, k⟩ := h
  exact ⟨D, o, fun v hv => by rw [← e v hv]; exact k v hv⟩
theorem termElemM_form {v : Value} {y : DataW Unit × List MemPlace} (h : termElemM v = some y) : ∃ c : Tm, v = .agg #[.int .i64 c.1, .string ⟨c.2.1.toArray⟩, .string ⟨c.2.2.toArray⟩] ∧ y = (encDM c, []) := by
  unfold termElemM at h
  split at h
  · rename_i cs
    split at h
    · rename_i k S L hcs
      injection h with h
      obtain ⟨l, rfl⟩ : ∃ l : List Value, cs = l.toArray := ⟨cs.toList, by simp⟩
      simp at hcs
      subst hcs
      exact ⟨(k, S.data.toList, L.data.toList), rfl, h.symm⟩
    · cases h
  · cases h
theorem keyOf_string_invE {P : Program} {k : TypeId} (hk : P.underlying k = some .string) {key : Value} {kl : Lit} (h : keyOf P k key = some kl) : ∃ v : List UInt8, key = .string ⟨v.toArray⟩ ∧ kl = .string v ∧ v.length ≤ maxLen := by
  cases key <;> simp [keyOf, hk, mapKey] at h
  rename_i s
  obtain ⟨h1, h2⟩ := h
  exact ⟨s.data.toList, rfl, h2.symm, h1⟩
theorem keyOf_v_inv {key : Value} {kl : Lit} (h : keyOf Tryz.prog 9 key = some kl) : ∃ v : List UInt8, key = .string ⟨v.toArray⟩ ∧ kl = .string v ∧ v.length ≤ maxLen := keyOf_string_invE Tryz.underlying9 h
set_option maxHeartbeats 2000000 in
set_option maxRecDepth 100000 in
theorem CloneE_any (b : Nat) (es : Array MapEntry) (clock : Nat) (w : World) (hb : w.heap[b]? = some (.map es clock)) :
    Calls Tryz.prog 157 #[.map (some b)] w fun e w' => e = .returned (.map (some w.heap.size)) ∧ w' = w.alloc (.map es clock) := by
  have hq := fun w => run_eql_map_nil_sl (P := Tryz.prog) w 101 _ _ (some b) Tryz.underlying101
  go_enter Tryz.func157, Tryz.ntmps157
  go_wp2
  rw [run_callFunc_extern Tryz.func194 (by kernel_rfl) (by kernel_rfl) (by kernel_rfl) (e := Extern.MapsClone.clone) (by kernel_rfl), run_maps_clone_sl w 101 hb]
  simp only [Result.andThen]
  rw [Oper.upon_value]
  go_wp2
  rw [run_typeAssert_map_sl _ 101 _ _ _ _ Tryz.underlying101]
  simp only [Result.andThen]
  rw [Oper.upon_value]
  go_wp2
  go_ret
  exact ⟨rfl, rfl⟩
theorem CloneM_any (b n : Nat) (f : Ev) (w : World) (h : EvAt w b n f) :
    Calls Tryz.prog 157 #[.map (some b)] w fun e w' => e = .returned (.map (some w.heap.size)) ∧ EvAt w' w.heap.size n f ∧ RowKit.Below w.heap.size w w' := by
  obtain ⟨D, ⟨es, clock, hb, r⟩, k⟩ := h
  refine (CloneE_any b es clock w hb).mono ?_
  rintro e w' ⟨rfl, rfl⟩
  exact ⟨rfl, ⟨D, ⟨es, clock, (MapKept.heap_alloc w _).1, r⟩, k⟩, balloc _ _⟩
/-- as far as the range has come -/
def MergedE (h f g : Ev) (left : Lit → Bool) : Prop := ∀ v : List UInt8, v.length ≤ maxLen → h v = if (g v).isSome = true ∧ left (.string v) = false then g v else f v
set_option maxHeartbeats 4000000 in
set_option maxRecDepth 100000 in
theorem Copy_any (bd bs nd ns : Nat) (f g : Ev) (w : World) (hd : EvAt w bd nd f) (hs : EvAt w bs ns g) (hne : bd ≠ bs) (hroom : nd + ns < 1000000) :
    Calls Tryz.prog 158 #[.map (some bd), .map (some bs)] w fun e w' => e = .returned (.tuple #[]) ∧ EvAt w' bd (nd + ns) (bothE f g) ∧ w.grownBy w' (some bd) := by
  have hbd := hd.lt
  have hbs := hs.lt
  have Hd := hideE hd
  obtain ⟨Ds, os, ks⟩ := hs
  have Ks := hideE ks
  have hsz : Maps.size Ds ≤ ns := os.size_le
  clear hd ks
  go_enter Tryz.func158, Tryz.ntmps158
  go_wp2_with (at_range; refine wpList_range_own _ rfl _ 101 rfl 9 56 keyedStr Tryz.underlying101 termElemM bs ns Ds rfl os ?_; intro w0 hrg0 hg0 hs0)
  go_frame
  go_loopw [8] (fun _ wr => ∃ (left : Lit → Bool) (cnt : Nat) (h : Ev), wr.ranges Tryz.prog 9 termElemM bs w.heap.size ns Ds left cnt ∧ cnt ≤ Maps.size Ds ∧ Hid (EvAt wr bd (nd + (Maps.size Ds - cnt)) h) ∧ Hid (MergedE h f g left) ∧ w.grownBy wr (some bd))
    (fun _ wr => wr.rangeLeft bs w.heap.size)
  case atStart =>
    refine ⟨_, _, f, hrg0, Nat.le_refl _, ((Hd.out.kept hg0 (by simp)).mono (by omega)), ?_, hg0.but _⟩
    intro v hv
    rw [if_neg]
    rintro ⟨h1, h2⟩
    rw [(Ks.out v hv).1, h1] at h2
    cases h2
  case round =>
    obtain ⟨left, cnt, h, hrg, hcs, hout, hM, hgw⟩ := hrel
    go_wp2_with (at_next; refine wpList_next_ranges _ rfl _ rfl 9 keyedStr termElemM (fun v : List UInt8 => .string ⟨v.toArray⟩) (fun c : Tm => .agg #[.int .i64 c.1, .string ⟨c.2.1.toArray⟩, .string ⟨c.2.2.toArray⟩]) (fun key kl hk => by obtain ⟨x, hx, _⟩ := keyOf_v_inv hk; exact ⟨x, hx⟩) (fun v y hy => by obtain ⟨c, hc, _⟩ := termElemM_form hy; exact ⟨c, hc⟩) bs w.heap.size ns Ds left cnt rfl hrg ?_ ?_)
    · intro hc0 hl0
      go_wp2
      go_end0
      refine ⟨rfl, (hout.out.mono (by omega)).same (fun v hv => ?_), hgw⟩
      rw [hM.out v hv, hl0]
      unfold bothE
      cases hgv : g v <;> simp
    · intro v ck cS cL kl yd yp w1 cnt1 hkey hlx hv hat hrg1 hlt hg1 hs1 hen
      obtain ⟨v', ev, rfl, hvl⟩ := keyOf_v_inv hkey
      obtain rfl : v = v' := by simpa using ev
      clear ev
      have hout1 := hideE (hout.out.kept hg1 (fun e => by have := Option.some.inj e; omega))
      obtain ⟨c', ec, ey⟩ := termElemM_form hv
      have hg' : g v = some (ck, cS, cL) := by
        have e1 : c' = (ck, cS, cL) := by
          obtain ⟨a, b, c⟩ := c'
          simp at ec
          simp [ec]
        rw [e1] at ey
        have h1 := has_true_of_atKey hat
        rw [(Ks.out v hvl).1] at h1
        have h2 := (Ks.out v hvl).2
        rw [hat] at h2
        have h3 : yd = encDM (ck, cS, cL) := (Prod.mk.inj ey).1
        rw [h3] at h2
        have h4 := encDM_inj h2
        cases hgv : g v with
        | none => rw [hgv] at h1; cases h1
        | some z => rw [hgv] at h4; rw [h4]; rfl
      clear hv ec ey hat
      have hbr : bd < wr.heap.size := hout.out.lt
      obtain ⟨cc, rfl, rfl, rfl⟩ : ∃ cc : Tm, ck = cc.1 ∧ cS = cc.2.1 ∧ cL = cc.2.2 := ⟨(ck, cS, cL), rfl, rfl, rfl⟩
      go_wp2_with (first
        | (at_mapUpdate; go_loud (refine wpList_put_ev _ rfl _ _ _ rfl bd (nd + (Maps.size Ds - cnt)) h rfl (hout1.out.below (balloc _ _)) (by unfold maxLen; omega) v hvl rfl cc rfl ?_); intro w2 hout2 hg2))
      have hrg2 := (hrg1.alloc _).kept hg2 (fun e => hne (Option.some.inj e).symm) (fun e => by have := Option.some.inj e; omega)
      have hMM : Hid (MergedE (putEv h v cc) f g (fun z => left z && !z.sameKey (.string v))) := by
        intro u hu
        unfold putEv
        by_cases e : u = v
        · subst e
          rw [if_pos rfl, if_pos ⟨by rw [hg']; rfl, by simp [Lit.sameKey]⟩, hg']
        · rw [if_neg e, hM.out u hu]
          have hne2 : (Lit.string u).sameKey (Lit.string v) = false := Maps.sameKey_ne (fun e' => e (by simpa using e'))
          show _ = if (g u).isSome = true ∧ (left (Lit.string u) && !(Lit.string u).sameKey (Lit.string v)) = false then g u else f u
          rw [hne2]
          simp
      have hgg := ((hgw.andThen hg1 (fun j hj => .inl (by cases hj; exact Nat.le_refl _))).andThen (World.grownBy_alloc _ (.cells #[.int .i64 cc.1, .string ⟨cc.2.1.toArray⟩, .string ⟨cc.2.2.toArray⟩] 56) (some bd)) (fun j hj => .inr hj)).andThen hg2 (fun j hj => .inr hj)
      have hou : Hid (EvAt w2 bd (nd + (Maps.size Ds - cnt1)) (putEv h v cc)) := hout2.mono (by omega)
      have hc1 : cnt1 ≤ Maps.size Ds := by omega
      go_roundw
      case rel => first | exact ⟨_, cnt1, _, hrg2, hc1, hou, hMM, hgg⟩ | ((repeat apply Exists.intro); exact ⟨⟨_, cnt1, _, hrg2, hc1, hou, hMM, hgg⟩, rfl⟩)
      case measure => rw [hrg2.left_eq, hrg.left_eq]; exact hlt
theorem both_any (bx bg nx ng : Nat) (f g : Ev) (w : World) (hx : EvAt w bx nx f) (hg : EvAt w bg ng g) (hroom : nx + ng < 1000000) :
    Calls Tryz.prog 112 #[.map (some bx), .map (some bg)] w fun e w' => e = .returned (.map (some w.heap.size)) ∧ EvAt w' w.heap.size (nx + ng) (bothE f g) ∧ RowKit.Below w.heap.size w w' := by
  have HC := CloneM_any bx nx f w hx
  have Hg := hideE hg
  have hlt := hg.lt
  clear hx hg
  go_enter Tryz.func112, Tryz.ntmps112
  go_wp2_with fail
  refine HC.mono ?_
  rintro e w1 ⟨rfl, he1, hb1⟩
  have HY := Copy_any w.heap.size bg nx ng f g w1 he1 (Hg.out.below hb1) (by omega) hroom
  clear he1
  go_wp2_with fail
  refine HY.mono ?_
  rintro e w2 ⟨rfl, he2, hg2⟩
  go_wp2_with fail
  go_ret
  exact ⟨rfl, he2, below_grownE hb1 hg2 (Nat.le_refl _) (Nat.le_refl _)⟩
end Go.Proofs.YtaddfndohoppeaaGreat

/- Questions in plain words: what is wrong with one, as words and text, and what is read of a text; plain lists, no program. -/
namespace Go.Proofs.YtaddfndohoppeaaGreat
open Go Go.RowKit Go.Proofs
set_option synthInstance.maxSize 1000

/-- a question: what is told, the parts, by which variable, down, each once, how many -/
structure Qu where
  vars : List (List UInt8)
  parts : List Pt
  order : List UInt8
  down : Bool
  dist : Bool
  lim : Int

/-! ### what is wrong -/
def addAll : List (List UInt8) → List (List UInt8) → List (List UInt8)
  | o, [] => o
  | o, v :: r => addAll (if v ∈ o then o else o ++ [v]) r
def partsV : List (List UInt8) → List Pt → List (List UInt8)
  | o, [] => o
  | o, p :: r => partsV (addAll o (varsL p)) r
def partsN : List Pt → Int
  | [] => 0
  | p :: r => if varsN p = 0 then partsN r else varsN p
def askN (q : Qu) : Int :=
  if 6 < q.parts.length then 4 else if q.parts = [] then 5 else if partsN q.parts ≠ 0 then partsN q.parts else if 8 < (partsV [] q.parts).length then 4
  else if q.vars = [] then 5 else if (∃ v ∈ q.vars, v ∉ partsV [] q.parts) then 5 else if ¬ q.vars.Nodup then 7 else if q.order ≠ [] ∧ q.order ∉ q.vars then 5
  else if q.down = true ∧ q.order = [] then 3 else if q.lim < -1 ∨ 500 < q.lim then 1 else 0

theorem mem_addV {l : List (List UInt8)} {s : Sl} {v : List UInt8} (h : v ∈ addV l s) : v ∈ l ∨ (v = s.1 ∧ s.1 ≠ []) := by
  unfold addV at h
  split at h
  · exact .inl h
  · split at h
    · exact .inl h
    · rename_i h1 _
      rcases List.mem_append.1 h with h | h
      · exact .inl h
      · exact .inr ⟨by simpa using h, h1⟩
theorem slot_spell {s : Sl} (h : slotN s = 0) (hs : s.1 ≠ []) : spellV s.1 = true ∧ s.2 = tmZero := by
  unfold slotN at h
  rw [if_neg hs] at h
  split at h
  · omega
  · rename_i h1
    split at h
    · rename_i h2; exact ⟨by simpa using h1, h2⟩
    · omega
theorem vars_zero {p : Pt} (h : varsN p = 0) : slotN p.1 = 0 ∧ slotN p.2.1 = 0 ∧ slotN p.2.2 = 0 := by
  unfold varsN at h
  split at h
  · rename_i h1
    split at h
    · rename_i h2; exact ⟨h1, h2, h⟩
    · rename_i h2; exact absurd h h2
  · rename_i h1; exact absurd h h1
theorem mem_varsL {p : Pt} (hp : varsN p = 0) {v : List UInt8} (h : v ∈ varsL p) : v ≠ [] ∧ spellV v = true := by
  obtain ⟨h1, h2, h3⟩ := vars_zero hp
  unfold varsL at h
  rcases mem_addV h with h | ⟨rfl, g⟩
  · rcases mem_addV h with h | ⟨rfl, g⟩
    · rcases mem_addV h with h | ⟨rfl, g⟩
      · cases h
      · exact ⟨g, (slot_spell h1 g).1⟩
    · exact ⟨g, (slot_spell h2 g).1⟩
  · exact ⟨g, (slot_spell h3 g).1⟩
theorem mem_addAll : ∀ {l o : List (List UInt8)} {v : List UInt8}, v ∈ addAll o l → v ∈ o ∨ v ∈ l
  | [], o, v, h => .inl h
  | x :: r, o, v, h => by
    rcases mem_addAll (l := r) h with h | h
    · split at h
      · exact .inl h
      · rcases List.mem_append.1 h with h | h
        · exact .inl h
        · exact .inr (by simp at h; simp [h])
    · exact .inr (by simp [h])
theorem mem_partsV : ∀ {l : List Pt} {o : List (List UInt8)} {v : List UInt8}, partsN l = 0 → v ∈ partsV o l → v ∈ o ∨ (v ≠ [] ∧ spellV v = true)
  | [], o, v, _, h => .inl h
  | p :: r, o, v, hN, h => by
    unfold partsN at hN
    split at hN
    · rename_i hp
      rcases mem_partsV (l := r) hN h with h | h
      · rcases mem_addAll h with h | h
        · exact .inl h
        · exact .inr (mem_varsL hp h)
      · exact .inr h
    · rename_i hp; exact absurd hN hp
theorem parts_zero : ∀ {l : List Pt}, partsN l = 0 → ∀ p ∈ l, varsN p = 0
  | [], _, p, h => by cases h
  | x :: r, hN, p, h => by
    unfold partsN at hN
    split at hN
    · rename_i hp
      rcases List.mem_cons.1 h with rfl | h
      · exact hp
      · exact parts_zero hN p h
    · rename_i hp; exact absurd hN hp
/-- a question that is right -/
structure GoodQ (q : Qu) : Prop where
  six : q.parts.length ≤ 6
  some : q.parts ≠ []
  parts : ∀ p ∈ q.parts, varsN p = 0
  eight : (partsV [] q.parts).length ≤ 8
  told : q.vars ≠ []
  within : ∀ v ∈ q.vars, v ∈ partsV [] q.parts
  vars : ∀ v ∈ q.vars, v ≠ [] ∧ spellV v = true
  once : q.vars.Nodup
  order : q.order = [] ∨ q.order ∈ q.vars
  down : q.down = true → q.order ≠ []
  lim : -1 ≤ q.lim ∧ q.lim ≤ 500
theorem ask_good {q : Qu} (h : askN q = 0) : GoodQ q := by
  unfold askN at h
  split at h
  · omega
  rename_i h1
  split at h
  · omega
  rename_i h2
  split at h
  · rename_i h3; exact absurd h h3
  rename_i h3
  split at h
  · omega
  rename_i h4
  split at h
  · omega
  rename_i h5
  split at h
  · omega
  rename_i h6
  split at h
  · omega
  rename_i h7
  split at h
  · omega
  rename_i h8
  split at h
  · omega
  rename_i h9
  split at h
  · omega
  rename_i h10
  have hw : ∀ v ∈ q.vars, v ∈ partsV [] q.parts := fun v hv => Classical.byContradiction fun hn => h6 ⟨v, hv, hn⟩
  have hN : partsN q.parts = 0 := Classical.byContradiction h3
  refine ⟨by omega, h2, parts_zero hN, by omega, h5, hw, fun v hv => ?_, Classical.byContradiction h7, ?_, fun hd ho => h9 ⟨hd, ho⟩, by omega⟩
  · rcases mem_partsV hN (hw v hv) with h | h
    · cases h
    · exact h
  · by_cases ho : q.order = []
    · exact .inl ho
    · exact .inr (Classical.byContradiction fun hn => h8 ⟨ho, hn⟩)

/-! ### as words -/
/-! ### reading words: what is left, and whether it went wrong -/
/-! ### what is written is read -/
/-! ### what is read is written -/
/-! ### words and text -/
/-! ### a question as text, a text as a question -/
end Go.Proofs.YtaddfndohoppeaaGreat

/- Lists of texts and of patterns in memory; a question as a value. -/
namespace Go.Proofs.YtaddfndohoppeaaGreat
open Go Go.RowKit Go.Proofs Go.Maps
set_option synthInstance.maxSize 1000

/-- a slice holds a list of texts, wherever it begins -/
def SlW (w : World) (ad : Option Addr) (l : List (List UInt8)) : Prop := l ≠ [] → ∃ b o, ad = some ⟨b, o, none⟩ ∧ ∀ j (hj : j < l.length), w.cell? ⟨b, o + j, none⟩ = some (encV l[j])
theorem SlW.below {w w' : World} {ad : Option Addr} {l : List (List UInt8)} (h : SlW w ad l) (hb : RowKit.Below w.heap.size w w') : SlW w' ad l := fun hl => by
  obtain ⟨b, o, e, r⟩ := h hl
  exact ⟨b, o, e, fun j hj => (hb.cell (World.block_lt_of_cell? w _ (r j hj))).trans (r j hj)⟩
theorem SlW.at {w : World} {ad : Option Addr} {l : List (List UInt8)} (h : SlW w ad l) (k : Nat) (hk : k < l.length) : ∃ b o, ad = some ⟨b, o, none⟩ ∧ w.cell? ⟨b, o + k, none⟩ = some (.string ⟨l[k].toArray⟩) := by
  obtain ⟨b, o, e, r⟩ := h (fun e => by rw [e] at hk; simp at hk)
  exact ⟨b, o, e, r k hk⟩
theorem slW_nil (W : World) (ad : Option Addr) : SlW W ad [] := fun h => absurd rfl h
theorem SlV.w {w : World} {ad : Option Addr} {l : List (List UInt8)} (h : SlV w ad l) : SlW w ad l := fun hl => by
  obtain ⟨b, e, r⟩ := h hl
  exact ⟨b, 0, e, fun j hj => by rw [Nat.zero_add]; exact r j hj⟩
theorem SlW.take {w : World} {ad : Option Addr} {l : List (List UInt8)} (h : SlW w ad l) (k : Nat) : SlW w ad (l.take k) := fun hl => by
  have hne : l ≠ [] := fun e => by rw [e] at hl; simp at hl
  obtain ⟨b, o, e, r⟩ := h hne
  refine ⟨b, o, e, fun j hj => ?_⟩
  rw [List.length_take] at hj
  rw [List.getElem_take]
  exact r j (by omega)
/-- the patterns of a list, cell by cell -/
def cellsPt (l : List Pt) : List Value := l.flatMap encPt
theorem encPt_len (x : Pt) : (encPt x).length = 12 := rfl
theorem cellsPt_at (l : List Pt) (i : Nat) (h : i < l.length) (j : Nat) (hj : j < 12) : (cellsPt l)[i * 12 + j]? = (encPt l[i])[j]? := by
  induction l generalizing i with
  | nil => simp at h
  | cons x r ih =>
    simp only [cellsPt, List.flatMap_cons] at *
    cases i with
    | zero => rw [List.getElem?_append_left (by rw [encPt_len]; omega)]; simp
    | succ n =>
      rw [List.getElem?_append_right (by rw [encPt_len]; omega), encPt_len, show (n + 1) * 12 + j - 12 = n * 12 + j by omega, ih n (by simpa using h)]
      simp
def RowPt (w : World) (b o : Nat) (l : List Pt) : Prop := ∀ j v, (cellsPt l)[j]? = some v → w.cell? ⟨b, o + j, none⟩ = some v
theorem RowPt.below {w w' : World} {b o : Nat} {l : List Pt} (h : RowPt w b o l) (hb : RowKit.Below w.heap.size w w') : RowPt w' b o l := fun j v hv =>
  (hb.cell (World.block_lt_of_cell? w _ (h j v hv))).trans (h j v hv)
theorem RowPt.at {w : World} {b o : Nat} {l : List Pt} (h : RowPt w b o l) (i : Nat) (hi : i < l.length) : ∀ j v, (encPt l[i])[j]? = some v → w.cell? ⟨b, o + i * 12 + j, none⟩ = some v := fun j v hv => by
  have hj : j < 12 := (List.getElem?_eq_some_iff.1 hv).1
  rw [Nat.add_assoc]
  exact h _ v (by rw [cellsPt_at l i hi j hj]; exact hv)
/-- a slice holds a list of patterns -/
def SlPt (w : World) (ad : Option Addr) (l : List Pt) : Prop := l ≠ [] → ∃ b o, ad = some ⟨b, o, none⟩ ∧ RowPt w b o l
theorem SlPt.below {w w' : World} {ad : Option Addr} {l : List Pt} (h : SlPt w ad l) (hb : RowKit.Below w.heap.size w w') : SlPt w' ad l := fun hl => by
  obtain ⟨b, o, e, r⟩ := h hl
  exact ⟨b, o, e, r.below hb⟩
theorem SlPt.at {w : World} {ad : Option Addr} {l : List Pt} (h : SlPt w ad l) (i : Nat) (hi : i < l.length) : ∃ b o, ad = some ⟨b, o, none⟩ ∧ RowPt w b o l :=
  h (fun e => by rw [e] at hi; simp at hi)
/-- a question as a value: where its lists lie -/
def valQ (q : Qu) (vd : Option Addr) (vc : Nat) (pd : Option Addr) (pc : Nat) : Value := .agg #[.slice vd q.vars.length vc, .slice pd q.parts.length pc, .string ⟨q.order.toArray⟩, .bool q.down, .bool q.dist, .int .i64 q.lim]
/-- a question that is handed in, or answered -/
structure QuIn (w : World) (q : Qu) (vd pd : Option Addr) : Prop where
  vars : SlW w vd q.vars
  parts : SlPt w pd q.parts
theorem QuIn.below {w w' : World} {q : Qu} {vd pd : Option Addr} (h : QuIn w q vd pd) (hb : RowKit.Below w.heap.size w w') : QuIn w' q vd pd := ⟨h.vars.below hb, h.parts.below hb⟩
theorem hideQ {p : Prop} (h : p) : Hid p := h
/-- a question's box -/
structure BoxQ (w : World) (b : Nat) (q : Qu) (vd pd : Option Addr) (vc pc : Nat) : Prop where
  c0 : w.cell? ⟨b, 0, none⟩ = some (.slice vd q.vars.length vc)
  c1 : w.cell? ⟨b, 1, none⟩ = some (.slice pd q.parts.length pc)
  c2 : w.cell? ⟨b, 2, none⟩ = some (.string ⟨q.order.toArray⟩)
  c3 : w.cell? ⟨b, 3, none⟩ = some (.bool q.down)
  c4 : w.cell? ⟨b, 4, none⟩ = some (.bool q.dist)
  c5 : w.cell? ⟨b, 5, none⟩ = some (.int .i64 q.lim)
theorem BoxQ.below {w w' : World} {b : Nat} {q : Qu} {vd pd : Option Addr} {vc pc : Nat} (h : BoxQ w b q vd pd vc pc) (hb : RowKit.Below w.heap.size w w') : BoxQ w' b q vd pd vc pc := by
  have s : ∀ j v, w.cell? ⟨b, j, none⟩ = some v → w'.cell? ⟨b, j, none⟩ = some v := fun j v hv => (hb.cell (World.block_lt_of_cell? w _ hv)).trans hv
  exact ⟨s _ _ h.c0, s _ _ h.c1, s _ _ h.c2, s _ _ h.c3, s _ _ h.c4, s _ _ h.c5⟩
theorem boxQ_new (w : World) (q : Qu) (vd pd : Option Addr) (vc pc : Nat) : BoxQ (w.alloc (.cells #[.slice vd q.vars.length vc, .slice pd q.parts.length pc, .string ⟨q.order.toArray⟩, .bool q.down, .bool q.dist, .int .i64 q.lim] 66)) w.heap.size q vd pd vc pc :=
  ⟨by go_simp, by go_simp, by go_simp, by go_simp, by go_simp, by go_simp⟩
/-- its texts and lists are no longer than such may be -/
structure FitQ (q : Qu) : Prop where
  vl : q.vars.length ≤ 9223372036854775807
  pl : q.parts.length ≤ 9223372036854775807
  vt : ∀ v ∈ q.vars, v.length ≤ maxLen
  pt : ∀ p ∈ q.parts, fitPt p
  ord : q.order.length ≤ maxLen
  lim : (Lit.int .i64 q.lim).wf = true
end Go.Proofs.YtaddfndohoppeaaGreat

/- An append of a list of texts to a row of one's own. -/
namespace Go.Proofs.YtaddfndohoppeaaGreat
open Go Go.RowKit Go.Proofs Go.Maps
set_option synthInstance.maxSize 1000

theorem append_emptyW {W : World} {base : Nat} {v : Value} {t : List (List UInt8)} (h : W.ownsRow base 9 1 v t.length (t.map encV)) (ad : Option Addr) (c : Nat) (ty : TypeId) : (Builtin.append_ #[59, 59] ty #[v, .slice ad 0 c]).run Tryz.prog W = .ok v W := by
  obtain ⟨i, hi, hz⟩ := Option.map_eq_some_iff.1 infoStrV
  have hf : (Builtin.firstCells i.size 0 (.slice ad 0 c)).run Tryz.prog W = .ok #[] W := by
    cases ad with
    | none => exact run_firstCells_none W _ _ _ _
    | some a => exact run_firstCells_some (P := Tryz.prog) W i.size 0 a 0 c [] (by simp) (by simp)
  rcases h.2 with ⟨rfl, h0⟩ | ⟨g, cc, cur, rfl, _, _, hle, _⟩
  · simp [Builtin.append_, run_underlying Tryz.underlying59, sizeOf, typeInfo, hi, Builtin.lenOf, hf]
  · simp [Builtin.append_, run_underlying Tryz.underlying59, sizeOf, typeInfo, hi, Builtin.lenOf, hf, hle, storeCells]
/-- an append of a list of texts to a row of one's own: just that row turns -/
theorem wpList_append_textsW {ops : Array Oper} {rest : List Oper} {o : Oper} {a : Act} {Q : Exit → Act → World → Prop} (w : World) (hgd : o.guard = none) (s x : Operand)
    (ho : o.op = .call { callee := .builtin .append, args := #[s, x], argTypes := #[59, 59] })
    (base : Nat) (v : Value) (t l : List (List UInt8)) (ad : Option Addr) (c : Nat) (hs : a.eval s = v) (hx : a.eval x = .slice ad l.length c) (hown : w.ownsRow base 9 1 v t.length (t.map encV)) (hl : SlW w ad l)
    (h63 : t.length + l.length ≤ 1000000) (hbase : base ≤ w.heap.size)
    (h : ∀ v' w', w'.ownsRow base 9 1 v' (t ++ l).length ((t ++ l).map encV) → w.grownBy w' v.ownBlock → wpList Tryz.prog ops Q rest (a.put o.dst v') w') : wpList Tryz.prog ops Q (o :: rest) a w := by
  obtain ⟨i0, hi, hz⟩ := Option.map_eq_some_iff.1 infoStrV
  simp only [Prod.mk.injEq] at hz
  obtain ⟨hz0, hz1, hz2⟩ := hz
  cases l with
  | nil =>
    refine Lib.wpList_append_run w hgd s x _ _ ho v _ hs hx v w (append_emptyW hown ad c _) (h v w ?_ (World.grownBy.refl _ _))
    simpa using hown
  | cons y r =>
    obtain ⟨b, off, rfl, hr⟩ := hl (by simp)
    refine wpList_append_own w hgd s x _ ho base 9 i0 (.string ByteArray.empty) 1 16 Tryz.underlying59 hi hz0 hz1 hz2 rfl (by decide) v t.length (t.map encV) hs hown ⟨b, off, none⟩ (y :: r).length c ((y :: r).map encV) hx (by simp) ?_ (fun u hu => by obtain ⟨z, _, rfl⟩ := List.mem_map.1 hu; rfl) (by unfold maxLen; omega) (by omega) hbase ?_
    · intro j u hj
      have hj' : j < (y :: r).length := by have := (List.getElem?_eq_some_iff.1 hj).1; simpa using this
      rw [Addr.add_lit, hr j hj']
      rw [List.getElem?_map, List.getElem?_eq_getElem hj'] at hj
      exact hj
    · intro v' w' h2 h3 _
      refine h v' w' ?_ h3
      rw [List.length_append]
      simpa using h2
end Go.Proofs.YtaddfndohoppeaaGreat
