import Derived.Test.YtbacenhgedopjaaGreatDoorMA0x4
import Derived.Test.YtbacenhgedopjaaGreatDoorMA0x6
import Derived.Maps.RangeWalk
import Derived.Laws.MakeOwn
import Derived.Laws.OwnMore
import Derived.Deep.WholeRow
import Derived.Deep.DeepCutAuto
import Derived.Deep.CutBlock
import Derived.WideKeyEntry
import Derived.Shelf.SlMaps.Clone
import Derived.Maps.Ext
import Derived.Laws.IdiomRangeMap
import Derived.Test.YtbacenhgedopjaaGreatDoorMA0x0
import Derived.Shelf.SlSortCmp.WholeK
import Derived.Laws.EntriesVeiled
import Derived.RangeFuncBox

/- Answers of package solve: maps from variables to terms; give, fill, answerOf. -/
namespace Go.Proofs.YtbacenhgedopjaaGreatDoor
open Go Go.RowKit Go.Proofs Go.Maps
set_option synthInstance.maxSize 1000
attribute [local go_sem ↓] eqlEmpty neqEmpty

theorem hideE {p : Prop} (h : p) : Hid p := h
theorem below_grownE {B b : Nat} {a w w' : World} (h : RowKit.Below B a w) (g : w.grownBy w' (some b)) (hB : B ≤ b) (hs : B ≤ a.heap.size) : RowKit.Below B a w' :=
  ⟨g.os.trans h.os, g.tape.trans h.tape, g.output.trans h.output, Nat.le_trans h.size g.size, fun i hi => (g.block i (by have := h.size; omega) (fun e => by simp at e; omega)).trans (h.block i hi)⟩
/-- the map at a block gives variables terms -/
def EvAt (w : World) (bm n : Nat) (f : Ev) : Prop :=
  ∃ D : DataW Unit, w.ownsMap Tryz.prog 9 termElemM bm n D ∧ ∀ v : List UInt8, v.length ≤ maxLen → Maps.has D (.string v) = (f v).isSome ∧ D.atKey (.string v) (encDM tmZero) = encDM ((f v).getD tmZero)
theorem EvAt.below {w w' : World} {bm n : Nat} {f : Ev} (h : EvAt w bm n f) (hb : RowKit.Below w.heap.size w w') : EvAt w' bm n f := by
  obtain ⟨D, o, g⟩ := h
  exact ⟨D, ownsMap_belowM o hb, g⟩
theorem EvAt.lt {w : World} {bm n : Nat} {f : Ev} (h : EvAt w bm n f) : bm < w.heap.size := by
  obtain ⟨D, o, g⟩ := h
  exact o.lt
theorem EvAt.far {w w' : World} {bm n B : Nat} {f : Ev} (h : EvAt w bm n f) (hb : RowKit.Below B w w') (hB : bm < B) : EvAt w' bm n f := by
  obtain ⟨D, ⟨es, clock, hm, r⟩, g⟩ := h
  exact ⟨D, ⟨es, clock, (hb.block bm hB).trans hm, r⟩, g⟩
theorem EvAt.kept {w w' : World} {bm n : Nat} {f : Ev} {row : Option Nat} (h : EvAt w bm n f) (hg : w.grownBy w' row) (hne : some bm ≠ row) : EvAt w' bm n f := by
  obtain ⟨D, o, g⟩ := h
  exact ⟨D, o.kept hg hne, g⟩
theorem EvAt.mono {w : World} {bm n m : Nat} {f : Ev} (h : EvAt w bm n f) (hn : n ≤ m) : EvAt w bm m f := by
  obtain ⟨D, o, g⟩ := h
  exact ⟨D, o.mono hn, g⟩
theorem evAt_made (w : World) : EvAt (w.alloc (.map #[] 0)) w.heap.size 0 noneE :=
  ⟨.map [], World.ownsMap_made _ _ _ _, fun v _ => ⟨by simp [Maps.has_eq, noneE], by simp [DataW.atKey, noneE]⟩⟩
theorem makeAns (w : World) : (Instr.makeMap 75 none).run Tryz.prog w = .ok (.map (some w.heap.size)) (w.alloc (.map #[] 0)) := by kernel_rfl

theorem look_ev {bm n : Nat} {f : Ev} {w : World} (h : EvAt w bm n f) (v : List UInt8) (hv : v.length ≤ maxLen) :
    (Instr.lookup 75 (.map (some bm)) (.string ⟨v.toArray⟩) true).run Tryz.prog w = .ok (.tuple #[valTermM ((f v).getD tmZero), .bool (f v).isSome]) w := by
  obtain ⟨D, o, g⟩ := h
  obtain ⟨u, ps, hrun, hu⟩ := o.look_ok keyedStr Tryz.underlying75 (zeroTmV w) (termElemM_mk tmZero) (keyOf_v v hv)
  rw [(g v hv).2] at hu
  rw [hrun, (g v hv).1, termElemM_inv hu]
theorem look0_ev {bm n : Nat} {f : Ev} {w : World} (h : EvAt w bm n f) (v : List UInt8) (hv : v.length ≤ maxLen) :
    (Instr.lookup 75 (.map (some bm)) (.string ⟨v.toArray⟩) false).run Tryz.prog w = .ok (valTermM ((f v).getD tmZero)) w := by
  obtain ⟨D, o, g⟩ := h
  obtain ⟨u, ps, hrun, hu⟩ := o.lookup keyedStr Tryz.underlying75 (zeroTmV w) (termElemM_mk tmZero) (keyOf_v v hv)
  rw [(g v hv).2] at hu
  rw [hrun, termElemM_inv hu]
theorem wpList_look_ev (w : World) {ops : Array Oper} {rest : List Oper} {o : Oper} {a : Act} {Q : Exit → Act → World → Prop}
    (hg : o.guard = none) (m x : Operand) (hop : o.op = Op.lookup 75 m x true) (bm n : Nat) (f : Ev) (hm : a.eval m = .map (some bm)) (h : EvAt w bm n f)
    (v : List UInt8) (hv : v.length ≤ maxLen) (hx : a.eval x = .string ⟨v.toArray⟩) (y : Tm) (b : Bool) (hy : (f v).getD tmZero = y) (hb : (f v).isSome = b)
    (hK : wpList Tryz.prog ops Q rest (a.put o.dst (.tuple #[.agg #[.int .i64 y.1, .string ⟨y.2.1.toArray⟩, .string ⟨y.2.2.toArray⟩], .bool b])) w) : wpList Tryz.prog ops Q (o :: rest) a w := by
  refine wpList_plain hg fun K' hK' => ?_
  have hrun := look_ev h v hv
  rw [hy, hb] at hrun
  unfold Oper.wp
  simp [execOp, hop, hm, hx, hrun, Result.andThen]
  exact hK' _ _ hK
theorem wpList_look0_ev (w : World) {ops : Array Oper} {rest : List Oper} {o : Oper} {a : Act} {Q : Exit → Act → World → Prop}
    (hg : o.guard = none) (m x : Operand) (hop : o.op = Op.lookup 75 m x false) (bm n : Nat) (f : Ev) (hm : a.eval m = .map (some bm)) (h : EvAt w bm n f)
    (v : List UInt8) (hv : v.length ≤ maxLen) (hx : a.eval x = .string ⟨v.toArray⟩) (y : Tm) (hy : (f v).getD tmZero = y)
    (hK : wpList Tryz.prog ops Q rest (a.put o.dst (.agg #[.int .i64 y.1, .string ⟨y.2.1.toArray⟩, .string ⟨y.2.2.toArray⟩])) w) : wpList Tryz.prog ops Q (o :: rest) a w := by
  refine wpList_plain hg fun K' hK' => ?_
  have hrun := look0_ev h v hv
  rw [hy] at hrun
  unfold Oper.wp
  simp [execOp, hop, hm, hx, hrun, Result.andThen]
  exact hK' _ _ hK
theorem put_ev {f : Ev} {v : List UInt8} {x : Tm} {D : DataW Unit} (hv : v.length ≤ maxLen) (m1 : IsMap D)
    (g : ∀ v : List UInt8, v.length ≤ maxLen → Maps.has D (.string v) = (f v).isSome ∧ D.atKey (.string v) (encDM tmZero) = encDM ((f v).getD tmZero)) :
    ∀ u : List UInt8, u.length ≤ maxLen → Maps.has (D.put (.string v) (encDM x)) (.string u) = (putEv f v x u).isSome ∧ (D.put (.string v) (encDM x)).atKey (.string u) (encDM tmZero) = encDM ((putEv f v x u).getD tmZero) := fun u hu => by
  have hk := keyedStr.key (keyOf_v v hv)
  unfold putEv
  by_cases e : u = v
  · subst e
    rw [Maps.has_put_same m1 hk, Maps.atKey_put_same m1 hk, if_pos rfl]
    exact ⟨rfl, rfl⟩
  · have hne : (Lit.string u) ≠ (Lit.string v) := fun e' => e (by simpa using e')
    rw [Maps.has_put_other hne, Maps.atKey_put_other hne, if_neg e]
    exact g u hu
theorem wpList_put_ev (w : World) {ops : Array Oper} {rest : List Oper} {o : Oper} {a : Act} {Q : Exit → Act → World → Prop}
    (hg : o.guard = none) (m x vo : Operand) (hop : o.op = Op.mapUpdate 75 m x vo) (bm n : Nat) (f : Ev) (hm : a.eval m = .map (some bm)) (h : EvAt w bm n f) (hn : n < maxLen)
    (v : List UInt8) (hv : v.length ≤ maxLen) (hx : a.eval x = .string ⟨v.toArray⟩) (y : Tm) (hy : a.eval vo = .agg #[.int .i64 y.1, .string ⟨y.2.1.toArray⟩, .string ⟨y.2.2.toArray⟩])
    (hK : ∀ w', EvAt w' bm (n + 1) (putEv f v y) → w.grownBy w' (some bm) → wpList Tryz.prog ops Q rest (a.put o.dst undef) w') : wpList Tryz.prog ops Q (o :: rest) a w := by
  obtain ⟨D, own, g⟩ := h
  exact wpList_mapUpdate_own w hg m x vo 75 hop 9 28 keyedStr Tryz.underlying75 termElemM bm n D hm own hn _ _ _ hx hy (keyOf_v v hv) _ [] (termElemM_mk y)
    (fun w' o' g' => hK w' ⟨_, o', put_ev hv own.isMap g⟩ g')

/-! ### fill -/
def fillE (f : Ev) (s : Sl) : Sl := match f s.1 with
  | some x => ([], x)
  | none => s
set_option maxHeartbeats 2000000 in
set_option maxRecDepth 100000 in
theorem fill_any (bm n : Nat) (f : Ev) (s : Sl) (w : World) (h : EvAt w bm n f) (hs : s.1.length ≤ maxLen) :
    Calls Tryz.prog 40 #[.map (some bm), .agg #[.string ⟨s.1.toArray⟩, .int .i64 s.2.1, .string ⟨s.2.2.1.toArray⟩, .string ⟨s.2.2.2.toArray⟩]] w
      fun e w' => e = .returned (.agg #[.string ⟨(fillE f s).1.toArray⟩, .int .i64 (fillE f s).2.1, .string ⟨(fillE f s).2.2.1.toArray⟩, .string ⟨(fillE f s).2.2.2.toArray⟩]) ∧ RowKit.Below w.heap.size w w' := by
  obtain ⟨v, k, S, L⟩ := s
  dsimp only at hs ⊢
  have H : Hid (EvAt w bm n f) := h
  clear h
  cases hl : f v with
  | none =>
    have e1 : fillE f (v, k, S, L) = (v, k, S, L) := by simp [fillE, hl]
    rw [e1]
    clear e1
    have Hl : Hid (f v = none) := hl
    clear hl
    go_enter Tryz.func40, Tryz.ntmps40
    go_wp2_with (first
      | (at_lookup; refine wpList_look_ev _ rfl _ _ rfl bm n f rfl ((H.out.below (balloc _ _)).below (balloc _ _)) v hs rfl tmZero false (by rw [Hl.out]; rfl) (by rw [Hl.out]; rfl) ?_))
    refine bodyPost_ret (v := .agg #[.string ⟨v.toArray⟩, .int .i64 k, .string ⟨S.toArray⟩, .string ⟨L.toArray⟩]) (by unfold results; rw [Tryz.results40]; go_simp) rfl ⟨rfl, bstep (bstep (balloc _ _) (balloc _ _)) (balloc _ _)⟩
  | some x =>
    have e1 : fillE f (v, k, S, L) = ([], x) := by simp [fillE, hl]
    rw [e1]
    clear e1
    have Hl : Hid (f v = some x) := hl
    clear hl
    go_enter Tryz.func40, Tryz.ntmps40
    go_wp2_with (first
      | (at_lookup; refine wpList_look_ev _ rfl _ _ rfl bm n f rfl ((H.out.below (balloc _ _)).below (balloc _ _)) v hs rfl x true (by rw [Hl.out]; rfl) (by rw [Hl.out]; rfl) ?_))
    refine bodyPost_ret (v := .agg #[.string ⟨#[]⟩, .int .i64 x.1, .string ⟨x.2.1.toArray⟩, .string ⟨x.2.2.toArray⟩]) (by unfold results; rw [Tryz.results40]; go_simp) rfl ⟨rfl, bstep (bstep (balloc _ _) (balloc _ _)) (balloc _ _)⟩

/-! ### give -/
def giveE (f : Ev) (v : List UInt8) (x : Tm) : Ev := if (f v).isSome = true then f else putEv f v x
set_option maxHeartbeats 2000000 in
set_option maxRecDepth 100000 in
theorem give_any (bm n : Nat) (f : Ev) (v : List UInt8) (x : Tm) (w : World) (h : EvAt w bm n f) (hn : n < maxLen) (hv : v.length ≤ maxLen) :
    Calls Tryz.prog 39 #[.map (some bm), .string ⟨v.toArray⟩, valTermM x] w fun e w' => e = .returned (.tuple #[]) ∧ EvAt w' bm (n + 1) (giveE f v x) ∧ w.grownBy w' (some bm) := by
  have H := hideE h
  clear h
  unfold valTermM
  cases hl : f v with
  | some y =>
    have e1 : giveE f v x = f := by simp [giveE, hl]
    rw [e1]
    clear e1
    have Hl := hideE hl
    clear hl
    go_enter Tryz.func39, Tryz.ntmps39
    go_wp2_with (first
      | (at_lookup; refine wpList_look_ev _ rfl _ _ rfl bm n f rfl (H.out.below (balloc _ _)) v hv rfl y true (by rw [Hl.out]; rfl) (by rw [Hl.out]; rfl) ?_))
    go_end0
    have hB : RowKit.Below w.heap.size w _ := bstep (balloc w (.cells #[.int .i64 x.1, .string ⟨x.2.1.toArray⟩, .string ⟨x.2.2.toArray⟩] 28)) (balloc _ (.cells #[.int .i64 y.1, .string ⟨y.2.1.toArray⟩, .string ⟨y.2.2.toArray⟩] 28))
    exact ⟨rfl, (H.out.below hB).mono (by omega), grownBy_below hB⟩
  | none =>
    have e1 : giveE f v x = putEv f v x := by simp [giveE, hl]
    rw [e1]
    clear e1
    have Hl := hideE hl
    clear hl
    go_enter Tryz.func39, Tryz.ntmps39
    go_wp2_with (first
      | (at_lookup; refine wpList_look_ev _ rfl _ _ rfl bm n f rfl (H.out.below (balloc _ _)) v hv rfl tmZero false (by rw [Hl.out]; rfl) (by rw [Hl.out]; rfl) ?_)
      | (at_mapUpdate; refine wpList_put_ev _ rfl _ _ _ rfl bm n f rfl ((H.out.below (balloc _ _)).below (balloc _ _)) hn v hv rfl x rfl ?_; intro w1 he1 hg1))
    go_end0
    have hB : RowKit.Below w.heap.size w _ := bstep (balloc w (.cells #[.int .i64 x.1, .string ⟨x.2.1.toArray⟩, .string ⟨x.2.2.toArray⟩] 28)) (balloc _ (.cells #[.int .i64 tmZero.1, .string ⟨tmZero.2.1.toArray⟩, .string ⟨tmZero.2.2.toArray⟩] 28))
    exact ⟨rfl, he1, grownBy_trans (grownBy_below hB) hg1⟩

/-! ### what a triple gives -/
def stepV (f : Ev) (s : Sl) (x : Tm) : Ev := if s.1 = [] then f else putEv f s.1 x
def evK (p : Pt) (t : Tr) : Nat → Ev
  | 0 => noneE
  | k + 1 => stepV (evK p t k) (slotK p k) (termK t k)
theorem evK_all (p : Pt) (t : Tr) : evK p t 3 = evT p t := by
  obtain ⟨⟨a, x⟩, ⟨b, y⟩, ⟨c, z⟩⟩ := p
  show stepV (stepV (stepV noneE (a, x) t.1) (b, y) t.2.1) (c, z) t.2.2 = _
  funext v
  by_cases h1 : a = [] <;> by_cases h2 : b = [] <;> by_cases h3 : c = [] <;> simp only [stepV, evT, h1, h2, h3, if_true, if_false] <;> simp only [putEv, noneE] <;> grind
theorem evAt_made3 (w : World) (o1 o2 o3 : Obj) : EvAt ((((w.alloc o1).alloc o2).alloc (.map #[] 0)).alloc o3) (w.heap.size + 2) 0 noneE := by
  have := (evAt_made ((w.alloc o1).alloc o2)).below (balloc _ o3)
  simpa using this
theorem patAt_made3 (w : World) (o1 o2 o3 : Obj) (p : Pt) (T : TypeId) : PatAt ((((w.alloc o1).alloc o2).alloc o3).alloc (.cells (encPt p).toArray T)) (w.heap.size + 3) p := fun j v hv => by
  have hh := heap_alloc_last (((w.alloc o1).alloc o2).alloc o3) (.cells (encPt p).toArray T)
  have e : (((w.alloc o1).alloc o2).alloc o3).heap.size = w.heap.size + 3 := by simp
  rw [e] at hh
  rw [cell_of_row _ _ j _ T (0, 0) hh, List.getElem?_toArray]
  exact hv
set_option maxHeartbeats 4000000 in
set_option maxRecDepth 100000 in
theorem answerOf_any (p : Pt) (t : Tr) (w : World) (hp : fitPt p) :
    Calls Tryz.prog 70 #[valPt p, valTr t] w fun e w' => e = .returned (.map (some (w.heap.size + 2))) ∧ EvAt w' (w.heap.size + 2) 3 (evT p t) ∧ RowKit.Below w.heap.size w w' := by
  have Hp := hideE hp
  have HX : Hid (∀ k : Nat, k < 3 → ∀ W, (Instr.index 122 (valTr t) (.int .i64 k)).run Tryz.prog W = .ok (.agg #[.int .i64 (termK t k).1, .string ⟨(termK t k).2.1.toArray⟩, .string ⟨(termK t k).2.2.toArray⟩]) W) := indexTm t
  have hmk := makeAns
  have hE0 := fun o1 o2 o3 => evAt_made3 w o1 o2 o3
  have hP0 := fun o1 o2 o3 => patAt_made3 w o1 o2 o3 p 107
  have fin := hideE (evK_all p t)
  have HE0 := hideE hE0
  have HP0 := hideE hP0
  clear hE0 hP0
  unfold valTr at HX ⊢
  unfold valPt
  clear hp
  go_enter Tryz.func70, Tryz.ntmps70
  go_wp2_with fail
  go_loopw [25] (fun i wr => ∃ k : Nat, k ≤ 3 ∧ i = .int .i64 k ∧ Hid (EvAt wr (w.heap.size + 2) k (evK p t k)) ∧ Hid (PatAt wr (w.heap.size + 3) p) ∧ RowKit.Below w.heap.size w wr) (fun i wr => 3 - (intOf i).toNat)
  case atStart => exact ⟨0, by omega, rfl, HE0.out _ _ _, HP0.out _ _ _, bstep (bstep (bstep (balloc _ _) (balloc _ _)) (balloc _ _)) (balloc _ _)⟩
  case round =>
    clear HE0 HP0
    obtain ⟨k, hk, rfl, hE, hP, hbr⟩ := hrel
    by_cases hlt : k < 3
    · have hix := HX.out k hlt
      have t1 : decide ((k : Int) < 3) = true := by simp; omega
      have i0 : (0 : Int) ≤ (k : Int) := by omega
      have i1 : (k : Int) < 3 := by omega
      have hst := hideE (show evK p t (k + 1) = stepV (evK p t k) (slotK p k) (termK t k) from rfl)
      have hfs := hideE (fit_slotK Hp.out k)
      have hzr := hbr.size
      obtain ⟨c0, _, _, _⟩ := hP.out.at k hlt
      generalize hEE : evK p t (k + 1) = E' at *
      have HEE := hideE hEE
      clear hEE
      generalize evK p t k = E at *
      generalize slotK p k = s at *
      generalize termK t k = x at *
      obtain ⟨v, y⟩ := s
      have c0' : wr.cell? ⟨w.heap.size + 1 + 1 + 1, k * 4, none⟩ = some (.string ⟨v.toArray⟩) := c0
      have hl3 : w.heap.size + 1 + 1 + 1 < wr.heap.size := hP.out.lt
      clear c0
      cases hve : v.isEmpty
      · have hE2 := hideE (show E' = putEv E v x by rw [hst.out]; unfold stepV; rw [if_neg (by simpa using hve)])
        clear hst
        go_wp2_with (first
          | (at_mapUpdate; refine wpList_put_ev _ rfl _ _ _ rfl (w.heap.size + 2) k E rfl (hE.out.below (balloc _ _)) (by unfold maxLen; omega) v hfs.out.1 rfl x rfl ?_; intro w1 he1 hg1))
        go_roundw
        case rel =>
          have hP1 : PatAt w1 (w.heap.size + 3) p := fun j u hj => (grown_far hg1 (b := w.heap.size + 3) (by have := hP.out.lt; simp; omega) (by omega) j).1.trans ((hP.out.below (balloc _ _)) j u hj)
          exact ⟨k + 1, by omega, by go_num, by show EvAt _ _ _ _; rw [HEE.out, hE2.out]; exact he1, hP1, below_grownE (bstep hbr (balloc _ _)) hg1 (by omega) (Nat.le_refl _)⟩
        case measure => simp [intOf]; omega
      · have hE2 := hideE (show E' = E by rw [hst.out]; unfold stepV; rw [if_pos (by simpa using hve)])
        clear hst
        go_wp2_with fail
        go_roundw
        case rel => exact ⟨k + 1, by omega, by go_num, by show EvAt _ _ _ _; rw [HEE.out, hE2.out]; exact (hE.out.below (balloc _ _)).mono (by omega), hP.out.below (balloc _ _), bstep hbr (balloc _ _)⟩
        case measure => simp [intOf]; omega
    · obtain rfl : k = 3 := by omega
      go_wp2_with fail
      go_ret
      exact ⟨rfl, by rw [← fin.out]; exact hE.out, hbr⟩
end Go.Proofs.YtbacenhgedopjaaGreatDoor

/- Lists of answers: solve.answersToPart. -/
namespace Go.Proofs.YtbacenhgedopjaaGreatDoor
open Go Go.RowKit Go.Proofs Go.Maps
set_option synthInstance.maxSize 1000
attribute [local go_sem] eql_errV neq_errV guard_errV

/-- a slice holds answers -/
def SlE (w : World) (ad : Option Addr) (n : Nat) (L : List Ev) : Prop := L ≠ [] → ∃ b o, ad = some ⟨b, o, none⟩ ∧ ∀ j (hj : j < L.length), ∃ bm, w.cell? ⟨b, o + j, none⟩ = some (.map (some bm)) ∧ EvAt w bm n L[j]
theorem SlE.below {w w' : World} {ad : Option Addr} {n : Nat} {L : List Ev} (h : SlE w ad n L) (hb : RowKit.Below w.heap.size w w') : SlE w' ad n L := fun hl => by
  obtain ⟨b, o, e, r⟩ := h hl
  refine ⟨b, o, e, fun j hj => ?_⟩
  obtain ⟨bm, c, s⟩ := r j hj
  exact ⟨bm, (hb.cell (World.block_lt_of_cell? w _ c)).trans c, s.below hb⟩
theorem SlE.at {w : World} {ad : Option Addr} {n : Nat} {L : List Ev} (h : SlE w ad n L) (k : Nat) (hk : k < L.length) : ∃ b o bm, ad = some ⟨b, o, none⟩ ∧ w.cell? ⟨b, o + k, none⟩ = some (.map (some bm)) ∧ EvAt w bm n L[k] := by
  obtain ⟨b, o, e, r⟩ := h (fun e => by rw [e] at hk; simp at hk)
  obtain ⟨bm, c, s⟩ := r k hk
  exact ⟨b, o, bm, e, c, s⟩
theorem slE_nil (W : World) (ad : Option Addr) (n : Nat) : SlE W ad n [] := fun h => absurd rfl h
theorem EvAt.setCell {w : World} {bm n : Nat} {f : Ev} (h : EvAt w bm n f) {a : Addr} (ha : bm ≠ a.block) (u : Value) : EvAt (w.setCell a u) bm n f := by
  obtain ⟨D, o, g⟩ := h
  exact ⟨D, o.setCell ha u, g⟩
/-- a row of answers, laid as far as k -/
structure LaidE (W : World) (g k n : Nat) (L : List Ev) : Prop where
  low : ∀ j (_ : j < k) (hL : j < L.length), ∃ bm, W.cell? ⟨g, j, none⟩ = some (.map (some bm)) ∧ bm ≠ g ∧ EvAt W bm n L[j]
  all : ∀ j, j < L.length → (∃ u, W.cell? ⟨g, j, none⟩ = some u) ∧ W.frozen? ⟨g, j, none⟩ = false
theorem LaidE.below {W W' : World} {g k n : Nat} {L : List Ev} (h : LaidE W g k n L) (hb : RowKit.Below W.heap.size W W') : LaidE W' g k n L := by
  refine ⟨fun j hj hL => ?_, fun j hj => ?_⟩
  · obtain ⟨bm, c, ne, s⟩ := h.low j hj hL
    exact ⟨bm, (hb.cell (World.block_lt_of_cell? W _ c)).trans c, ne, s.below hb⟩
  · obtain ⟨⟨u, c⟩, f⟩ := h.all j hj
    have hlt := World.block_lt_of_cell? W _ c
    exact ⟨⟨u, (hb.cell hlt).trans c⟩, (hb.frozen hlt).trans f⟩
theorem LaidE.step {W : World} {g k n bm : Nat} {L : List Ev} (h : LaidE W g k n L) (hk : k < L.length) (hne : bm ≠ g) (he : EvAt W bm n L[k]) : LaidE (W.setCell ⟨g, k, none⟩ (.map (some bm))) g (k + 1) n L := by
  refine ⟨fun j hj hL => ?_, fun j hj => ?_⟩
  · by_cases e : j = k
    · subst e
      obtain ⟨⟨u, c⟩, f⟩ := h.all j hL
      exact ⟨bm, World.cell?_setCell_same W _ _ c, hne, he.setCell hne _⟩
    · obtain ⟨b', c, ne, s⟩ := h.low j (by omega) hL
      exact ⟨b', (World.cell?_setCell_other W _ _ _ (fun h => e (by simpa using congrArg Addr.off h.symm))).trans c, ne, s.setCell ne _⟩
  · obtain ⟨⟨u, c⟩, f⟩ := h.all j hj
    refine ⟨?_, by rw [World.frozen?_setCell]; exact f⟩
    by_cases e : j = k
    · subst e
      exact ⟨_, World.cell?_setCell_same W _ _ c⟩
    · exact ⟨u, (World.cell?_setCell_other W _ _ _ (fun h => e (by simpa using congrArg Addr.off h.symm))).trans c⟩
theorem LaidE.sl {W : World} {g n : Nat} {L : List Ev} (h : LaidE W g L.length n L) : SlE W (some ⟨g, 0, none⟩) n L := fun _ => ⟨g, 0, rfl, fun j hj => by
  obtain ⟨bm, c, _, s⟩ := h.low j hj hj
  exact ⟨bm, by rw [Nat.zero_add]; exact c, s⟩⟩
theorem laidE_made (W : World) (n : Nat) (L : List Ev) (T : TypeId) : LaidE (W.alloc (.cells (madeCells #[.map none] L.length) T)) W.heap.size 0 n L := by
  refine ⟨fun j hj => by omega, fun j hj => ?_⟩
  have hh := heap_alloc_last W (.cells (madeCells #[.map none] L.length) T)
  refine ⟨⟨.map none, ?_⟩, frozen_of_row _ _ j _ T hh⟩
  rw [cell_of_row _ _ j _ T (0, 0) hh, ← Array.getElem?_toList, toList_madeCells_one]
  simp [hj]
theorem infoE : (Tryz.prog.info? 75).map (fun i => (i.zero, i.size, i.bytes)) = some (some (.map none), 1, 8) := by kernel_rfl
theorem makeEs (n : Nat) (w : World) (h : n ≤ 100000) : (Instr.makeSlice 70 (.int .i64 (n : Int)) (.int .i64 (n : Int))).run Tryz.prog w = .ok (.slice (some ⟨w.heap.size, 0, none⟩) n n) (w.alloc (.cells (madeCells #[.map none] n) 75)) := by
  obtain ⟨i, hi, hz⟩ := Option.map_eq_some_iff.1 infoE
  simp only [Prod.mk.injEq] at hz
  obtain ⟨h1, h2, h3⟩ := hz
  have := run_make (P := Tryz.prog) w 70 75 i _ Tryz.underlying70 hi h1 .i64 .i64 (n : Int) (n : Int) (by omega) (Int.le_refl _) (by rw [h3]; omega) (by omega)
  rw [h2] at this
  simpa [Value.cells] using this
set_option maxHeartbeats 4000000 in
set_option maxRecDepth 100000 in
theorem answersToPart_any (ad : Option Addr) (ca : Nat) (S : List Tr) (p : Pt) (w : World) (h : SlT w ad S) (hfit : ∀ x ∈ S, fitTr x) (hp : fitPt p) (hS : S.length ≤ 200) (hN : matchN S p = 0) :
    Calls Tryz.prog 45 #[.slice ad S.length ca, valPt p] w fun e w' => RowKit.Below w.heap.size w w' ∧ ∃ ad' c', e = .returned (.tuple #[.slice ad' (matchL S p).length c', .nilIface]) ∧ SlE w' ad' 3 ((matchL S p).map (evT p)) := by
  have HM := fun W hW => Match_any ad ca S p W hW hfit hp (by omega)
  have HA := fun t W => answerOf_any p t W hp
  have Hh := hideE h
  have hlen : (matchL S p).length ≤ 200 := Nat.le_trans (List.length_filter_le _ _) hS
  have hm : ∀ m, MatchAns S p m → m = matchL S p := fun m h => by unfold MatchAns at h; rw [if_pos hN] at h; exact h
  have Hm := hideE hm
  rw [hN] at HM
  have hb0 := patBox w p 32
  have Hb0 := hideE hb0
  clear h hfit hS hm hN hb0 hp
  unfold valPt at HM HA ⊢
  generalize hMM : matchL S p = M at *
  clear hMM
  go_enter Tryz.func45, Tryz.ntmps45
  go_wp2_with fail
  refine (HM _ (Hh.out.below (balloc _ _))).mono ?_
  rintro e w1 ⟨hb1, m, ad1, c1, rfl, hs1, hA⟩
  obtain rfl := Hm.out m hA
  have hmk := fun W => makeEs m.length W (by omega)
  have hP1 := hideE (Hb0.out.below hb1)
  have hB1 := bstep (balloc _ _) hb1
  have Hs1 := hideE hs1
  clear hs1 HM Hh hA Hm Hb0
  have hL0 := hideE (laidE_made w1 3 (m.map (evT p)) 75)
  rw [show (m.map (evT p)).length = m.length by simp] at hL0
  dsimp only
  go_wp2_with fail
  obtain ⟨W1, hW1⟩ : ∃ W1, W1 = w1.alloc (.cells (madeCells #[.map none] m.length) 75) := ⟨_, rfl⟩
  rw [← hW1] at hL0 ⊢
  have hB2 : RowKit.Below w1.heap.size w1 W1 := by rw [hW1]; exact balloc _ _
  have hz1 := hb1.size
  have hz2 : w1.heap.size < W1.heap.size := by rw [hW1]; simp
  clear hW1
  go_loopw [25] (fun i wr => ∃ k : Nat, k ≤ m.length ∧ i = .int .i64 k ∧ Hid (LaidE wr w1.heap.size k 3 (m.map (evT p))) ∧ RowKit.Below w1.heap.size w1 wr) (fun i wr => m.length - (intOf i).toNat)
  case atStart => exact ⟨0, Nat.zero_le _, rfl, hL0.out, hB2⟩
  case round =>
    clear hL0
    obtain ⟨k, hk, rfl, hL, hbr⟩ := hrel
    by_cases hlt : k < m.length
    · have t1 : decide ((k : Int) < (m.length : Int)) = true := by simp; omega
      have i0 : (0 : Int) ≤ (k : Int) := by omega
      have i1 : (k : Int) < (m.length : Int) := by omega
      have hPr := hP1.out.far hbr hP1.out.lt
      obtain ⟨p0, p1, p2, p3, p4, p5, p6, p7, p8, p9, p10, p11⟩ := hPr.all
      obtain ⟨b, o, rfl, hr⟩ := (Hs1.out.below hbr).at k hlt
      obtain ⟨q0, q1, q2, q3, q4, q5, q6, q7, q8⟩ := hr.at k hlt
      have HT := HA m[k]
      have hek : (m.map (evT p))[k]'(by simpa using hlt) = evT p m[k] := by simp
      have Hek := hideE hek
      clear hek
      unfold valTr at HT
      have hzr := hbr.size
      have hbl := World.block_lt_of_cell? wr _ q0
      have hpl := hPr.lt
      obtain ⟨⟨u, cu⟩, fu⟩ := hL.out.all k (by simpa using hlt)
      have hgl := World.block_lt_of_cell? wr _ cu
      clear hPr hr
      go_wp2_with fail
      refine (HT _).mono ?_
      rintro e w2 ⟨rfl, he2, hb2⟩
      have hb3 := bstep (balloc wr (.cells (encTr m[k]).toArray 58)) hb2
      have hL2 := hideE (hL.out.below hb3)
      obtain ⟨⟨u2, cu2⟩, fu2⟩ := hL2.out.all k (by simpa using hlt)
      have hL3 := hideE (hL2.out.step (by simpa using hlt) (bm := wr.heap.size + 1 + 2) (by omega) (by rw [Hek.out]; simpa using he2))
      have hbf := bstep hbr hb3
      clear he2 hb2 hb3 hL2
      dsimp only
      go_wp2_with fail
      go_roundw
      case rel => exact ⟨k + 1, by omega, by go_num, hL3, hbf.setCell (p := ⟨w1.heap.size, k, none⟩) (Nat.le_refl _) _⟩
      case measure => simp [intOf]; omega
    · obtain rfl : k = m.length := by omega
      have t1 : decide ((m.length : Int) < (m.length : Int)) = false := by simp
      go_wp2_with fail
      refine bodyPost_ret (v := .tuple #[.slice (some ⟨w1.heap.size, 0, none⟩) m.length m.length, .nilIface]) (by simp [results, Tryz.results45, go_sem]) rfl ⟨bstep hB1 hbr, _, _, rfl, LaidE.sl ?_⟩
      simpa using hL.out
end Go.Proofs.YtbacenhgedopjaaGreatDoor

/- A map from three terms to lists of answers: those that have a key in common. -/
namespace Go.Proofs.YtbacenhgedopjaaGreatDoor
open Go Go.RowKit Go.Proofs Go.Maps
open Go.WideMaps (KeyLaw)
open Go.WideElems (Fit)
open Go.ChangeMaps (setBlock heap_setBlock_same heap_setBlock_other)
set_option synthInstance.maxSize 1000

/-! ### three terms as a key -/
def wfK (x : Tm) : Prop := (Lit.int .i64 x.1).wf = true ∧ x.2.1.length ≤ maxLen ∧ x.2.2.length ≤ maxLen
def wf3 (x : Tr) : Prop := wfK x.1 ∧ wfK x.2.1 ∧ wfK x.2.2
theorem rowA3 : (122 : TypeId) < Tryz.prog.types.size := of_decide_eq_true (by kernel_rfl)
theorem wideA3 : (match Tryz.prog.underlying 122 with | some (.array _ _) | some (.struct _) => true | _ => false) = true := by kernel_rfl
set_option maxRecDepth 100000 in
theorem lawA3 : KeyLaw Tryz.prog 122 := deep_law_laid laidOutP (m := 4) (by omega) rowA3 (by kernel_rfl) wideA3
theorem keyedA3 : Keyed Tryz.prog 122 := Keyed.of_law lawA3
theorem cellsOfA3 : Tryz.prog.cellsOf 122 = 9 := by kernel_rfl
theorem keyTypeA3 : Tryz.prog.keyType 122 = true := by kernel_rfl
theorem keyLits_three (d : Nat) (x : Tr) (h : wf3 x) : Tryz.prog.keyLits (d + 3) 122 (encTr x) = some (litsTr x) := by
  obtain ⟨⟨a1, a2, a3⟩, ⟨b1, b2, b3⟩, ⟨c1, c2, c3⟩⟩ := h
  have e1 := keyLits_term d x.1.1 x.1.2.1 x.1.2.2 a1 a2 a3
  have e2 := keyLits_term d x.2.1.1 x.2.1.2.1 x.2.1.2.2 b1 b2 b3
  have e3 := keyLits_term d x.2.2.1 x.2.2.2.1 x.2.2.2.2 c1 c2 c3
  unfold Program.keyLits
  simp only [Tryz.underlying122, cellsOfA3, encTr]
  simp [e1, e2, e3, litsTr, cellsOfTm, List.range, List.range.loop]
theorem keyOf_three (x : Tr) (h : wf3 x) : keyOf Tryz.prog 122 (valTr x) = some (keyTr x) := by
  have hl := keyLits_three (Tryz.prog.types.size - 2) x h
  have hsz : Tryz.prog.types.size - 2 + 3 = Tryz.prog.types.size + 1 := by
    have : 2 ≤ Tryz.prog.types.size := of_decide_eq_true (by kernel_rfl)
    omega
  rw [hsz] at hl
  have hf : (valTr x).formed Tryz.prog 122 = true := by
    simp [Value.formed, Tryz.underlying122, cellsOfA3, valTr]
  unfold keyOf
  rw [Tryz.underlying122]
  simp only [keyTypeA3, hf, Bool.and_self, if_true]
  have hc : (valTr x).cells.toList = encTr x := rfl
  rw [hc, hl]
  rfl
theorem keyThree_ne {x y : Tr} (hx : wf3 x) (hy : wf3 y) (h : x ≠ y) : keyTr x ≠ keyTr y := fun e => by
  have h1 := keyOf_three x hx
  have h2 := keyOf_three y hy
  rw [e] at h1
  exact h (valTr_inj (keyedA3.inj h1 h2))

/-! ### elements that are slices: what they say of where they lie -/
def encHd : Value → DataW Unit
  | .slice none n c => .agg [.lit (.bool false), .lit (.int .i64 n), .lit (.int .i64 c)]
  | .slice (some ⟨b, o, none⟩) n c => .agg [.lit (.bool true), .lit (.int .i64 b), .lit (.int .i64 o), .lit (.int .i64 n), .lit (.int .i64 c)]
  | _ => .nil
def isHd : Value → Bool
  | .slice none _ _ => true
  | .slice (some ⟨_, _, none⟩) _ _ => true
  | _ => false
def hdElem (v : Value) : Option (DataW Unit × List MemPlace) := if isHd v = true then some (encHd v, []) else none
theorem hdElem_mk {v : Value} (h : isHd v = true) : hdElem v = some (encHd v, []) := if_pos h
theorem hdElem_inv {v u : Value} {ps : List MemPlace} (h : hdElem v = some (encHd u, ps)) (hu : isHd u = true) : v = u := by
  unfold hdElem at h
  split at h
  · rename_i hv
    simp only [Option.some.injEq, Prod.mk.injEq] at h
    have e := h.1
    unfold isHd at hv hu
    split at hv
    · split at hu
      · simp [encHd] at e
        simp
        omega
      · simp [encHd] at e
      · cases hu
    · split at hu
      · simp [encHd] at e
      · simp [encHd] at e
        simp
        omega
      · cases hu
    · cases hv
  · cases h
theorem isHd_own {w : World} {base e size n : Nat} {v : Value} {xs : List Value} (h : w.ownsRow base e size v n xs) : isHd v = true := by
  rcases h.2 with ⟨rfl, _⟩ | ⟨g, cap, cur, rfl, _⟩ <;> rfl
theorem zeroHd (w : World) : (zeroValue 70).run Tryz.prog w = .ok (.slice none 0 0) w := by kernel_rfl

/-- the map at a block has these slices -/
def GrpAt (w : World) (b n : Nat) (hd : Tr → Value) : Prop := ∃ D : DataW Unit, w.ownsMap Tryz.prog 122 hdElem b n D ∧ ∀ k, wf3 k → isHd (hd k) = true ∧ D.atKey (keyTr k) (encHd (.slice none 0 0)) = encHd (hd k)
theorem grpAt_made (w : World) : GrpAt (w.alloc (.map #[] 0)) w.heap.size 0 (fun _ => .slice none 0 0) := ⟨.map [], World.ownsMap_made _ _ _ _, fun k _ => ⟨rfl, by simp [DataW.atKey]⟩⟩
theorem GrpAt.lt {w : World} {b n : Nat} {hd : Tr → Value} (h : GrpAt w b n hd) : b < w.heap.size := by
  obtain ⟨D, o, g⟩ := h
  exact o.lt
theorem GrpAt.kept {w w' : World} {b n : Nat} {hd : Tr → Value} {row : Option Nat} (h : GrpAt w b n hd) (hg : w.grownBy w' row) (hne : some b ≠ row) : GrpAt w' b n hd := by
  obtain ⟨D, o, g⟩ := h
  exact ⟨D, o.kept hg hne, g⟩
theorem GrpAt.below {w w' : World} {b n : Nat} {hd : Tr → Value} (h : GrpAt w b n hd) (hb : RowKit.Below w.heap.size w w') : GrpAt w' b n hd := by
  obtain ⟨D, o, g⟩ := h
  exact ⟨D, ownsMap_belowM o hb, g⟩
theorem GrpAt.mono {w : World} {b n m : Nat} {hd : Tr → Value} (h : GrpAt w b n hd) (hn : n ≤ m) : GrpAt w b m hd := by
  obtain ⟨D, o, g⟩ := h
  exact ⟨D, o.mono hn, g⟩
theorem grp_look {w : World} {b n : Nat} {hd : Tr → Value} (h : GrpAt w b n hd) (k : Tr) (hk : wf3 k) :
    (Instr.lookup 121 (.map (some b)) (valTr k) false).run Tryz.prog w = .ok (hd k) w := by
  obtain ⟨D, o, g⟩ := h
  obtain ⟨u, ps, hrun, hu⟩ := o.lookup keyedA3 Tryz.underlying121 (zeroHd w) (hdElem_mk (v := .slice none 0 0) rfl) (keyOf_three k hk)
  rw [(g k hk).2] at hu
  rw [hrun, hdElem_inv hu (g k hk).1]
theorem grp_entry {w : World} {b n : Nat} {hd : Tr → Value} (h : GrpAt w b n hd) (hn : n < maxLen) (k : Tr) (hk : wf3 k) :
    ∃ (st : Nat) (w1 : World), (Instr.mapEntry 121 (.map (some b)) (valTr k)).run Tryz.prog w = .ok (.tuple #[hd k, goInt st]) w1 ∧ w.grownBy w1 (some b) ∧ w1.heap.size = w.heap.size ∧
      ∀ (w2 : World) (val : Value), w2.heap[b]? = w1.heap[b]? → isHd val = true → ∃ w3, (Instr.entryStore 121 (.map (some b)) (goInt st) val).run Tryz.prog w2 = .ok () w3 ∧ GrpAt w3 b (n + 1) (fun k' => if k' = k then val else hd k') ∧ w2.grownBy w3 (some b) := by
  obtain ⟨D, own, g⟩ := h
  have hkey := keyOf_three k hk
  have own' := own
  obtain ⟨es, clock, hb, F, hs, hD⟩ := own'
  obtain ⟨v0, st, es1, clock1, hrun, hv0, hback⟩ := WideElems.entry_then_store lawA3 Tryz.underlying121 (fun u => zeroHd u) hb F hkey
  have hv : v0 = hd k := by
    have gk := g k hk
    rw [hD] at gk
    rcases Maps.fit_look false keyedA3 Tryz.underlying121 (zeroHd w) hb F hkey with ⟨_, hno, hat⟩ | ⟨e0, y, hm0, hk0, _, hy, hat, _⟩
    · rcases hv0 with ⟨e1, he1, hke, _⟩ | ⟨_, rfl⟩
      · exact absurd hke (hno e1 he1)
      · rw [hat] at gk
        exact hdElem_inv (ps := []) (by rw [← gk.2]; rfl) gk.1
    · rcases hv0 with ⟨e1, he1, hke, rfl⟩ | ⟨hno, _⟩
      · have he : e1 = e0 := by
          have hn2 : es.toList.Pairwise (fun x y => x.key ≠ y.key) := ((MapKept.stamped_iff es clock).1 F.stamped).2.2
          obtain ⟨i, hi, rfl⟩ := List.getElem_of_mem he1
          obtain ⟨j, hj, rfl⟩ := List.getElem_of_mem hm0
          have hp := List.pairwise_iff_getElem.1 hn2
          rcases Nat.lt_trichotomy i j with h | h | h
          · exact absurd (hke.trans hk0.symm) (hp i j hi hj h)
          · subst h; rfl
          · exact absurd (hk0.trans hke.symm) (hp j i hj hi h)
        subst he
        rw [hat] at gk
        obtain ⟨y1, y2⟩ := y
        have e2 : y1 = encHd (hd k) := gk.2
        exact hdElem_inv (ps := y2) (by rw [hy, e2]) gk.1
      · exact absurd hk0 (hno e0 hm0)
  subst hv
  refine ⟨st, _, hrun, ⟨rfl, rfl, rfl, by simp [setBlock], fun i _ hi => heap_setBlock_other hb _ (fun e => hi (by rw [e]))⟩, by simp [setBlock], fun w2 val hw2 hval => ?_⟩
  replace hw2 : w2.heap[b]? = some (.map es1 clock1) := hw2.trans (heap_setBlock_same hb _)
  obtain ⟨es', clock', hst, hup⟩ := hback w2 val hw2
  obtain ⟨w', hup', hown', _⟩ := own.update keyedA3 Tryz.underlying121 hn hkey (hdElem_mk hval)
  rw [hup] at hup'
  obtain rfl : setBlock w b (.map es' clock') = w' := by simpa using hup'
  refine ⟨_, hst, ⟨D.put (keyTr k) (encHd val), ?_, fun k' hk' => ?_⟩, ⟨rfl, rfl, rfl, by simp [setBlock], fun i _ hi => heap_setBlock_other hw2 _ (fun e => hi (by rw [e]))⟩⟩
  · obtain ⟨es2, clock2, hb2, r⟩ := hown'
    exact ⟨es2, clock2, (heap_setBlock_same hw2 _).trans ((heap_setBlock_same hb _).symm.trans hb2), r⟩
  · by_cases e : k' = k
    · subst e
      dsimp only
      rw [if_pos rfl]
      exact ⟨hval, Maps.atKey_put_same own.isMap (keyedA3.key hkey) _ _⟩
    · dsimp only
      rw [if_neg e, Maps.atKey_put_other (keyThree_ne hk' hk e)]
      exact g k' hk'
end Go.Proofs.YtbacenhgedopjaaGreatDoor

/- maps.Clone and maps.Copy at answers; solve.both. -/
namespace Go.Proofs.YtbacenhgedopjaaGreatDoor
open Go Go.RowKit Go.Proofs Go.Maps
set_option synthInstance.maxSize 1000

theorem EvAt.same {w : World} {bm n : Nat} {f g : Ev} (h : EvAt w bm n f) (e : ∀ v : List UInt8, v.length ≤ maxLen → f v = g v) : EvAt w bm n g := by
  obtain ⟨D, o, k⟩ := h
  exact ⟨D, o, fun v hv => by rw [← e v hv]; exact k v hv⟩
theorem termElemM_form {v : Value} {y : DataW Unit × List MemPlace} (h : termElemM v = some y) : ∃ c : Tm, v = .agg #[.int .i64 c.1, .string ⟨c.2.1.toArray⟩, .string ⟨c.2.2.toArray⟩] ∧ y = (encDM c, []) := by
  unfold termElemM at h
  split at h
  · rename_i cs
    split at h
    · rename_i k S L hcs
      injection h with h
      obtain ⟨l, rfl⟩ : ∃ l : List Value, cs = l.toArray := ⟨cs.toList, by simp⟩
      simp at hcs
      subst hcs
      exact ⟨(k, S.data.toList, L.data.toList), rfl, h.symm⟩
    · cases h
  · cases h
theorem keyOf_string_invE {P : Program} {k : TypeId} (hk : P.underlying k = some .string) {key : Value} {kl : Lit} (h : keyOf P k key = some kl) : ∃ v : List UInt8, key = .string ⟨v.toArray⟩ ∧ kl = .string v ∧ v.length ≤ maxLen := by
  cases key <;> simp [keyOf, hk, mapKey] at h
  rename_i s
  obtain ⟨h1, h2⟩ := h
  exact ⟨s.data.toList, rfl, h2.symm, h1⟩
theorem keyOf_v_inv {key : Value} {kl : Lit} (h : keyOf Tryz.prog 9 key = some kl) : ∃ v : List UInt8, key = .string ⟨v.toArray⟩ ∧ kl = .string v ∧ v.length ≤ maxLen := keyOf_string_invE Tryz.underlying9 h
set_option maxHeartbeats 2000000 in
set_option maxRecDepth 100000 in
theorem CloneE_any (b : Nat) (es : Array MapEntry) (clock : Nat) (w : World) (hb : w.heap[b]? = some (.map es clock)) :
    Calls Tryz.prog 101 #[.map (some b)] w fun e w' => e = .returned (.map (some w.heap.size)) ∧ w' = w.alloc (.map es clock) := by
  have hq := fun w => run_eql_map_nil_sl (P := Tryz.prog) w 75 _ _ (some b) Tryz.underlying75
  go_enter Tryz.func101, Tryz.ntmps101
  go_wp2
  rw [run_callFunc_extern Tryz.func126 (by kernel_rfl) (by kernel_rfl) (by kernel_rfl) (e := Extern.MapsClone.clone) (by kernel_rfl), run_maps_clone_sl w 75 hb]
  simp only [Result.andThen]
  rw [Oper.upon_value]
  go_wp2
  rw [run_typeAssert_map_sl _ 75 _ _ _ _ Tryz.underlying75]
  simp only [Result.andThen]
  rw [Oper.upon_value]
  go_wp2
  go_ret
  exact ⟨rfl, rfl⟩
theorem CloneM_any (b n : Nat) (f : Ev) (w : World) (h : EvAt w b n f) :
    Calls Tryz.prog 101 #[.map (some b)] w fun e w' => e = .returned (.map (some w.heap.size)) ∧ EvAt w' w.heap.size n f ∧ RowKit.Below w.heap.size w w' := by
  obtain ⟨D, ⟨es, clock, hb, r⟩, k⟩ := h
  refine (CloneE_any b es clock w hb).mono ?_
  rintro e w' ⟨rfl, rfl⟩
  exact ⟨rfl, ⟨D, ⟨es, clock, (MapKept.heap_alloc w _).1, r⟩, k⟩, balloc _ _⟩
/-- as far as the range has come -/
def MergedE (h f g : Ev) (left : Lit → Bool) : Prop := ∀ v : List UInt8, v.length ≤ maxLen → h v = if (g v).isSome = true ∧ left (.string v) = false then g v else f v
set_option maxHeartbeats 4000000 in
set_option maxRecDepth 100000 in
theorem Copy_any (bd bs nd ns : Nat) (f g : Ev) (w : World) (hd : EvAt w bd nd f) (hs : EvAt w bs ns g) (hne : bd ≠ bs) (hroom : nd + ns < 1000000) :
    Calls Tryz.prog 102 #[.map (some bd), .map (some bs)] w fun e w' => e = .returned (.tuple #[]) ∧ EvAt w' bd (nd + ns) (bothE f g) ∧ w.grownBy w' (some bd) := by
  have hbd := hd.lt
  have hbs := hs.lt
  have Hd := hideE hd
  obtain ⟨Ds, os, ks⟩ := hs
  have Ks := hideE ks
  have hsz : Maps.size Ds ≤ ns := os.size_le
  clear hd ks
  go_enter Tryz.func102, Tryz.ntmps102
  go_wp2_with (at_range; refine wpList_range_own _ rfl _ 75 rfl 9 28 keyedStr Tryz.underlying75 termElemM bs ns Ds rfl os ?_; intro w0 hrg0 hg0 hs0)
  go_frame
  go_loopw [8] (fun _ wr => ∃ (left : Lit → Bool) (cnt : Nat) (h : Ev), wr.ranges Tryz.prog 9 termElemM bs w.heap.size ns Ds left cnt ∧ cnt ≤ Maps.size Ds ∧ Hid (EvAt wr bd (nd + (Maps.size Ds - cnt)) h) ∧ Hid (MergedE h f g left) ∧ w.grownBy wr (some bd))
    (fun _ wr => wr.rangeLeft bs w.heap.size)
  case atStart =>
    refine ⟨_, _, f, hrg0, Nat.le_refl _, ((Hd.out.kept hg0 (by simp)).mono (by omega)), ?_, hg0.but _⟩
    intro v hv
    rw [if_neg]
    rintro ⟨h1, h2⟩
    rw [(Ks.out v hv).1, h1] at h2
    cases h2
  case round =>
    obtain ⟨left, cnt, h, hrg, hcs, hout, hM, hgw⟩ := hrel
    go_wp2_with (at_next; refine wpList_next_ranges _ rfl _ rfl 9 keyedStr termElemM (fun v : List UInt8 => .string ⟨v.toArray⟩) (fun c : Tm => .agg #[.int .i64 c.1, .string ⟨c.2.1.toArray⟩, .string ⟨c.2.2.toArray⟩]) (fun key kl hk => by obtain ⟨x, hx, _⟩ := keyOf_v_inv hk; exact ⟨x, hx⟩) (fun v y hy => by obtain ⟨c, hc, _⟩ := termElemM_form hy; exact ⟨c, hc⟩) bs w.heap.size ns Ds left cnt rfl hrg ?_ ?_)
    · intro hc0 hl0
      go_wp2
      go_end0
      refine ⟨rfl, (hout.out.mono (by omega)).same (fun v hv => ?_), hgw⟩
      rw [hM.out v hv, hl0]
      unfold bothE
      cases hgv : g v <;> simp
    · intro v ck cS cL kl yd yp w1 cnt1 hkey hlx hv hat hrg1 hlt hg1 hs1 hen
      obtain ⟨v', ev, rfl, hvl⟩ := keyOf_v_inv hkey
      obtain rfl : v = v' := by simpa using ev
      clear ev
      have hout1 := hideE (hout.out.kept hg1 (fun e => by have := Option.some.inj e; omega))
      obtain ⟨c', ec, ey⟩ := termElemM_form hv
      have hg' : g v = some (ck, cS, cL) := by
        have e1 : c' = (ck, cS, cL) := by
          obtain ⟨a, b, c⟩ := c'
          simp at ec
          simp [ec]
        rw [e1] at ey
        have h1 := has_true_of_atKey hat
        rw [(Ks.out v hvl).1] at h1
        have h2 := (Ks.out v hvl).2
        rw [hat] at h2
        have h3 : yd = encDM (ck, cS, cL) := (Prod.mk.inj ey).1
        rw [h3] at h2
        have h4 := encDM_inj h2
        cases hgv : g v with
        | none => rw [hgv] at h1; cases h1
        | some z => rw [hgv] at h4; rw [h4]; rfl
      clear hv ec ey hat
      have hbr : bd < wr.heap.size := hout.out.lt
      obtain ⟨cc, rfl, rfl, rfl⟩ : ∃ cc : Tm, ck = cc.1 ∧ cS = cc.2.1 ∧ cL = cc.2.2 := ⟨(ck, cS, cL), rfl, rfl, rfl⟩
      go_wp2_with (first
        | (at_mapUpdate; go_loud (refine wpList_put_ev _ rfl _ _ _ rfl bd (nd + (Maps.size Ds - cnt)) h rfl (hout1.out.below (balloc _ _)) (by unfold maxLen; omega) v hvl rfl cc rfl ?_); intro w2 hout2 hg2))
      have hrg2 := (hrg1.alloc _).kept hg2 (fun e => hne (Option.some.inj e).symm) (fun e => by have := Option.some.inj e; omega)
      have hMM : Hid (MergedE (putEv h v cc) f g (fun z => left z && !z.sameKey (.string v))) := by
        intro u hu
        unfold putEv
        by_cases e : u = v
        · subst e
          rw [if_pos rfl, if_pos ⟨by rw [hg']; rfl, by simp [Lit.sameKey]⟩, hg']
        · rw [if_neg e, hM.out u hu]
          have hne2 : (Lit.string u).sameKey (Lit.string v) = false := Maps.sameKey_ne (fun e' => e (by simpa using e'))
          show _ = if (g u).isSome = true ∧ (left (Lit.string u) && !(Lit.string u).sameKey (Lit.string v)) = false then g u else f u
          rw [hne2]
          simp
      have hgg := ((hgw.andThen hg1 (fun j hj => .inl (by cases hj; exact Nat.le_refl _))).andThen (World.grownBy_alloc _ (.cells #[.int .i64 cc.1, .string ⟨cc.2.1.toArray⟩, .string ⟨cc.2.2.toArray⟩] 28) (some bd)) (fun j hj => .inr hj)).andThen hg2 (fun j hj => .inr hj)
      have hou : Hid (EvAt w2 bd (nd + (Maps.size Ds - cnt1)) (putEv h v cc)) := hout2.mono (by omega)
      have hc1 : cnt1 ≤ Maps.size Ds := by omega
      go_roundw
      case rel => first | exact ⟨_, cnt1, _, hrg2, hc1, hou, hMM, hgg⟩ | ((repeat apply Exists.intro); exact ⟨⟨_, cnt1, _, hrg2, hc1, hou, hMM, hgg⟩, rfl⟩)
      case measure => rw [hrg2.left_eq, hrg.left_eq]; exact hlt
theorem both_any (bx bg nx ng : Nat) (f g : Ev) (w : World) (hx : EvAt w bx nx f) (hg : EvAt w bg ng g) (hroom : nx + ng < 1000000) :
    Calls Tryz.prog 72 #[.map (some bx), .map (some bg)] w fun e w' => e = .returned (.map (some w.heap.size)) ∧ EvAt w' w.heap.size (nx + ng) (bothE f g) ∧ RowKit.Below w.heap.size w w' := by
  have HC := CloneM_any bx nx f w hx
  have Hg := hideE hg
  have hlt := hg.lt
  clear hx hg
  go_enter Tryz.func72, Tryz.ntmps72
  go_wp2_with fail
  refine HC.mono ?_
  rintro e w1 ⟨rfl, he1, hb1⟩
  have HY := Copy_any w.heap.size bg nx ng f g w1 he1 (Hg.out.below hb1) (by omega) hroom
  clear he1
  go_wp2_with fail
  refine HY.mono ?_
  rintro e w2 ⟨rfl, he2, hg2⟩
  go_wp2_with fail
  go_ret
  exact ⟨rfl, he2, below_grownE hb1 hg2 (Nat.le_refl _) (Nat.le_refl _)⟩
end Go.Proofs.YtbacenhgedopjaaGreatDoor

/- solve.keyer: the variables that two answers share. -/
namespace Go.Proofs.YtbacenhgedopjaaGreatDoor
open Go Go.RowKit Go.Proofs Go.Maps Go.Sort
set_option synthInstance.maxSize 1000

theorem grown_cellE {W w1 : World} {row : Option Nat} {b : Nat} (h : W.grownBy w1 row) (hb : b < W.heap.size) (hne : some b ≠ row) (o : Nat) : w1.cell? ⟨b, o, none⟩ = W.cell? ⟨b, o, none⟩ ∧ w1.frozen? ⟨b, o, none⟩ = W.frozen? ⟨b, o, none⟩ := by
  have e := h.block b hb hne
  refine ⟨World.cell?_of_block (w := W) e, ?_⟩
  simp only [World.frozen?]
  rw [e]
theorem own_aboveE {w : World} {base e size n B : Nat} {v : Value} {xs : List Value} (h : w.ownsRow base e size v n xs) (hB : B < base) : some B ≠ v.ownBlock := fun q => by
  have := (h.lt B q.symm).1
  omega
theorem own_form {w : World} {base e size n : Nat} {v : Value} {xs : List Value} (h : w.ownsRow base e size v n xs) : ∃ ad c, v = .slice ad n c := by
  rcases h.2 with ⟨rfl, h0⟩ | ⟨g, cap, cur, rfl, _⟩
  · exact ⟨none, 0, by rw [h0]⟩
  · exact ⟨_, _, rfl⟩
/-- the names that the range has come by and that the other has, too -/
def CollE (f g : Ev) (left : Lit → Bool) (ss : List (List UInt8)) : Prop := ss.Nodup ∧ (∀ v ∈ ss, v.length ≤ maxLen) ∧ ∀ v : List UInt8, v.length ≤ maxLen → (v ∈ ss ↔ (g v).isSome = true ∧ left (.string v) = false ∧ (f v).isSome = true)
theorem CollE.step {f g : Ev} {left : Lit → Bool} {ss : List (List UInt8)} (h : CollE f g left ss) {v : List UInt8} (hv : v.length ≤ maxLen) (hl : left (.string v) = true) (hg : (g v).isSome = true) : CollE f g (fun z => left z && !z.sameKey (.string v)) (if (f v).isSome = true then ss ++ [v] else ss) := by
  obtain ⟨h1, h2, h3⟩ := h
  have hself : (Lit.string v).sameKey (.string v) = true := by simp [Lit.sameKey]
  have hoth : ∀ u, u ≠ v → (Lit.string u).sameKey (.string v) = false := fun u hu => Maps.sameKey_ne (fun e' => hu (by simpa using e'))
  have hnot : v ∉ ss := fun hm => by
    have := ((h3 v hv).1 hm).2.1
    rw [hl] at this
    cases this
  by_cases hf : (f v).isSome = true
  · rw [if_pos hf]
    refine ⟨?_, ?_, fun u hu => ?_⟩
    · rw [List.nodup_append]
      refine ⟨h1, by simp, fun a ha b hb e => ?_⟩
      simp at hb
      subst hb
      exact hnot (e ▸ ha)
    · intro u hu
      rw [List.mem_append, List.mem_singleton] at hu
      rcases hu with hu | rfl
      · exact h2 u hu
      · exact hv
    · rw [List.mem_append, List.mem_singleton]
      by_cases e : u = v
      · subst e
        simp [hself, hg, hf]
      · rw [h3 u hu]
        simp [hoth u e, e]
  · rw [if_neg hf]
    refine ⟨h1, h2, fun u hu => ?_⟩
    by_cases e : u = v
    · subst e
      simp [hnot, hf]
    · rw [h3 u hu]
      simp [hoth u e]
/-- the shared variables, in a box -/
def KeyAt (w : World) (B : Nat) (sh : List (List UInt8)) : Prop := ∃ ad c, w.cell? ⟨B, 0, none⟩ = some (.slice ad sh.length c) ∧ SlW w ad sh
theorem KeyAt.below {w w' : World} {B : Nat} {sh : List (List UInt8)} (h : KeyAt w B sh) (hb : RowKit.Below w.heap.size w w') : KeyAt w' B sh := by
  obtain ⟨ad, c, h1, h2⟩ := h
  exact ⟨ad, c, (hb.cell (World.block_lt_of_cell? w _ h1)).trans h1, h2.below hb⟩
def KeyerAns (f g : Ev) (w : World) (e : Ending) (w' : World) : Prop := RowKit.Below w.heap.size w w' ∧ ∃ sh B, e = .returned (.func (.func 100) #[] #[.pointer (some ⟨B, 0, none⟩)]) ∧ KeyAt w' B sh ∧ sh.Nodup ∧ (∀ v ∈ sh, v.length ≤ maxLen) ∧ ∀ v : List UInt8, v.length ≤ maxLen → (v ∈ sh ↔ (g v).isSome = true ∧ (f v).isSome = true)
/-- a row of texts, sorted -/
theorem sortTexts_any (base g cap : Nat) (ss : List (List UInt8)) (w : World) (hown : w.ownsRow base 9 1 (.slice (some ⟨g, 0, none⟩) ss.length cap) ss.length (ss.map encV)) (h63 : ss.length ≤ 1000000) :
    Calls Tryz.prog 99 #[.slice (some ⟨g, 0, none⟩) ss.length cap] w fun e w' => e = .returned (.tuple #[]) ∧ RowKit.Below g w w' ∧ SlW w' (some ⟨g, 0, none⟩) (ss.mergeSort fun x y => decide (x ≤ y)) := by
  have hg : g < w.heap.size := (hown.lt g rfl).2
  have hH : Holds encStr w g 0 ss.toArray := fun j hj => by
    have hj' : j < ss.length := by simpa using hj
    rw [Nat.zero_add]
    refine ⟨?_, hown.frozenAt j⟩
    rw [hown.cellAt j (by omega), List.getElem?_map, List.getElem?_eq_getElem hj', getElem!_pos ss.toArray j hj]
    simp [encV]
  refine (Tryz.slices_Sort_string g 0 cap ss w hH hg (by omega)).mono ?_
  rintro e w' ⟨rfl, n, os, rfl⟩
  have hd := holds_sortWorld encStr w g 0 n ss.toArray (ss.mergeSort fun x y => decide (x ≤ y)).toArray os hg hH (by simp)
  refine ⟨rfl, ?_, fun _ => ⟨g, 0, rfl, fun j hj => ?_⟩⟩
  · refine ⟨rfl, rfl, rfl, ?_, fun k hk => ?_⟩
    · show w.heap.size ≤ (_ ++ os).size
      simp [putRow, mapBlock, Sort.ahead]
    · show (_ ++ os)[k]? = _
      rw [Array.getElem?_append_left (by simp [putRow, mapBlock, Sort.ahead]; omega)]
      simp only [putRow, mapBlock, Sort.ahead, Array.getElem?_modify]
      rw [if_neg (by omega)]
  · have := (hd j (by simpa using hj)).1
    rw [getElem!_pos _ j (by simpa using hj)] at this
    rw [Nat.zero_add] at this
    rw [Nat.zero_add]
    refine Eq.trans this ?_
    simp [encV]
set_option maxHeartbeats 4000000 in
set_option maxRecDepth 100000 in
theorem keyer_any (bx bg nx ng : Nat) (f g : Ev) (w : World) (hx : EvAt w bx nx f) (hg : EvAt w bg ng g) (hroom : ng ≤ 1000) :
    Calls Tryz.prog 71 #[.map (some bx), .map (some bg)] w (KeyerAns f g w) := by
  have hbx := hx.lt
  have hbg := hg.lt
  have Hx := hideE hx
  obtain ⟨Dg, og, kg⟩ := hg
  have Kg := hideE kg
  have hsz : Maps.size Dg ≤ ng := og.size_le
  obtain ⟨W0, hW0⟩ : ∃ W0, W0 = w.alloc (.cells #[.slice none 0 0] 23) := ⟨_, rfl⟩
  have hB0 : RowKit.Below w.heap.size w W0 := by rw [hW0]; exact balloc _ _
  have hz0 : W0.heap.size = w.heap.size + 1 := by rw [hW0]; simp
  have c0 : W0.cell? ⟨w.heap.size, 0, none⟩ = some (.slice none 0 0) := by rw [hW0]; go_simp
  have f0 : W0.frozen? ⟨w.heap.size, 0, none⟩ = false := by rw [hW0]; go_simp
  have og0 : W0.ownsMap Tryz.prog 9 termElemM bg ng Dg := by rw [hW0]; exact og.alloc _
  have HQ := hideE (show ∀ e w', KeyerAns f g w e w' → KeyerAns f g w e w' from fun _ _ h => h)
  generalize hQ : KeyerAns f g w = Q at HQ ⊢
  rw [← hQ] at HQ
  have HQ2 : Hid (∀ e w', KeyerAns f g w e w' → Q e w') := fun e w' h => by rw [← hQ]; exact h
  clear hx kg hQ HQ
  go_enter Tryz.func71, Tryz.ntmps71
  go_upto_region 2 with fail
  rw [← hW0]
  clear hW0
  go_wp2_with (at_range; refine wpList_range_own _ rfl _ 75 rfl 9 28 keyedStr Tryz.underlying75 termElemM bg ng Dg rfl og0 ?_; intro w0 hrg0 hg0 hs0)
  go_frame
  rw [hz0] at hrg0 ⊢
  go_loopw [11] (fun _ wr => ∃ (left : Lit → Bool) (cnt : Nat) (ss : List (List UInt8)) (v : Value), wr.ranges Tryz.prog 9 termElemM bg (w.heap.size + 1) ng Dg left cnt ∧ ss.length + cnt ≤ Maps.size Dg ∧ wr.cell? ⟨w.heap.size, 0, none⟩ = some v ∧ wr.frozen? ⟨w.heap.size, 0, none⟩ = false ∧ Hid (wr.ownsRow (w.heap.size + 2) 9 1 v ss.length (ss.map encV)) ∧ Hid (CollE f g left ss) ∧ RowKit.Below w.heap.size w wr)
    (fun _ wr => wr.rangeLeft bg (w.heap.size + 1))
  case atStart =>
    obtain ⟨e1, e2⟩ := grown_cellE hg0 (b := w.heap.size) (by omega) (by simp) 0
    refine ⟨_, _, [], _, hrg0, by simp, e1.trans c0, e2.trans f0, World.ownsRow_nil _ _ _ _, ⟨List.nodup_nil, by simp, fun v hv => ?_⟩, hB0.grown hg0 (by omega) (fun k e => by cases e)⟩
    rw [(Kg.out v hv).1]
    simp
    intro h1 h2
    rw [h2] at h1
    cases h1
  case round =>
    clear og og0 hrg0 hg0 c0 f0
    obtain ⟨left, cnt, ss, v, hrg, hcs, hc, hf, hown, hC, hbr⟩ := hrel
    have hzr := hbr.size
    have hrl := hrg.lt
    go_wp2_with (at_next; refine wpList_next_ranges _ rfl _ rfl 9 keyedStr termElemM (fun v : List UInt8 => .string ⟨v.toArray⟩) (fun c : Tm => .agg #[.int .i64 c.1, .string ⟨c.2.1.toArray⟩, .string ⟨c.2.2.toArray⟩]) (fun key kl hk => by obtain ⟨x, hx, _⟩ := keyOf_v_inv hk; exact ⟨x, hx⟩) (fun v y hy => by obtain ⟨c, hc, _⟩ := termElemM_form hy; exact ⟨c, hc⟩) bg (w.heap.size + 1) ng Dg left cnt rfl hrg ?_ ?_)
    · intro hc0 hl0
      have hfin : Hid (ss.Nodup ∧ (∀ v ∈ ss, v.length ≤ maxLen) ∧ ∀ v : List UInt8, v.length ≤ maxLen → (v ∈ ss ↔ (g v).isSome = true ∧ (f v).isSome = true)) := ⟨hC.out.1, hC.out.2.1, fun u hu => by rw [hC.out.2.2 u hu, hl0]; simp⟩
      rcases hown.out.2 with ⟨rfl, h0⟩ | ⟨g', cap, cur, rfl, hg'⟩
      · obtain rfl : ss = [] := List.eq_nil_of_length_eq_zero h0
        clear h0 hC hown hrg hcs
        go_wp2_with (go_at_call 99; refine (Tryz.slices_Sort_string_none none 0 _).mono ?_; rintro e w' ⟨rfl, rfl⟩)
        exact HQ2.out _ _ ⟨hbr, [], w.heap.size, rfl, ⟨none, 0, hc, fun h => absurd rfl h⟩, hfin.out⟩
      · have hs63 : ss.length ≤ 1000000 := by omega
        have HS := sortTexts_any _ g' cap ss wr hown.out hs63
        have hgg := (hown.out.lt g' rfl).1
        clear hg' hC hown hrg hcs
        go_wp2_with fail
        refine HS.mono ?_
        rintro e w1 ⟨rfl, hb1, hs1⟩
        dsimp only
        go_wp2_with fail
        refine HQ2.out _ _ ⟨hbr.trans (hb1.mono (by omega)), ss.mergeSort fun x y => decide (x ≤ y), w.heap.size, rfl, ⟨some ⟨g', 0, none⟩, cap, ?_, hs1⟩, ?_, ?_, ?_⟩
        · rw [List.length_mergeSort]
          exact (hb1.cell (by show w.heap.size < g'; omega)).trans hc
        · exact (List.mergeSort_perm _ _).nodup_iff.2 hfin.out.1
        · intro u hu
          exact hfin.out.2.1 u ((List.mergeSort_perm _ _).mem_iff.1 hu)
        · intro u hu
          rw [(List.mergeSort_perm _ _).mem_iff]
          exact hfin.out.2.2 u hu
    · intro nm ck cS cL kl yd yp w1 cnt1 hkey hlx hv hat hrg1 hlt hg1 hs1 hen
      obtain ⟨v', ev, rfl, hvl⟩ := keyOf_v_inv hkey
      obtain rfl : nm = v' := by simpa using ev
      clear ev
      have hgn : (g nm).isSome = true := by
        have h1 := has_true_of_atKey hat
        rw [(Kg.out nm hvl).1] at h1
        exact h1
      have hE1 := hideE ((Hx.out.far hbr hbx).kept hg1 (fun e => by have := Option.some.inj e; omega))
      obtain ⟨e1, e2⟩ := grown_cellE hg1 (b := w.heap.size) (by omega) (fun e => by have := Option.some.inj e; omega) 0
      have hc1 := e1.trans hc
      have hf1 := e2.trans hf
      have hown1 := hideE (hown.out.kept hg1 (by
        rcases hb : v.ownBlock with _ | k
        · exact Or.inl rfl
        · refine Or.inr (fun e => ?_)
          have := (hown.out.lt k hb).1
          have := Option.some.inj e
          omega))
      have hB1 := hbr.grown hg1 (by omega) (fun k e => by have := Option.some.inj e; omega)
      have hC1 := hideE (hC.out.step hvl hlx hgn)
      have hle := hrg.left_eq
      have hw1 : w.heap.size < w1.heap.size := by omega
      have hw2 : w.heap.size + 2 ≤ w1.heap.size := by omega
      clear hv hat hkey hrg hc hf e1 e2 hown hC hgn hlx hs1
      cases hfn : f nm with
      | none =>
        rw [hfn] at hC1
        have HC2 : Hid (CollE f g (fun z => left z && !z.sameKey (.string nm)) ss) := hC1.out
        have Hfn := hideE hfn
        clear hfn hC1
        go_wp2_with (first
          | (at_lookup; refine wpList_look_ev _ rfl _ _ rfl bx nx f rfl hE1.out nm hvl rfl tmZero false (by rw [Hfn.out]; rfl) (by rw [Hfn.out]; rfl) ?_))
        have hrg2 := hrg1.alloc (.cells #[.int .i64 tmZero.1, .string ⟨tmZero.2.1.toArray⟩, .string ⟨tmZero.2.2.toArray⟩] 28)
        go_roundw
        case rel => first | exact ⟨_, cnt1, ss, v, hrg2, by omega, ((balloc w1 _).cell hw1).trans hc1, ((balloc w1 _).frozen hw1).trans hf1, hown1.out.alloc _, HC2.out, bstep hB1 (balloc _ _)⟩ | ((repeat apply Exists.intro); exact ⟨⟨_, cnt1, ss, v, hrg2, by omega, ((balloc w1 _).cell hw1).trans hc1, ((balloc w1 _).frozen hw1).trans hf1, hown1.out.alloc _, HC2.out, bstep hB1 (balloc _ _)⟩, rfl⟩)
        case measure => rw [hrg2.left_eq, hle]; exact hlt
      | some y =>
        rw [hfn] at hC1
        have HC2 : Hid (CollE f g (fun z => left z && !z.sameKey (.string nm)) (ss ++ [nm])) := hC1.out
        have Hfn := hideE hfn
        clear hfn hC1
        obtain ⟨W2, hW2⟩ : ∃ W2, W2 = (w1.alloc (.cells #[.int .i64 y.1, .string ⟨y.2.1.toArray⟩, .string ⟨y.2.2.toArray⟩] 28)).alloc (.cells #[.string ⟨nm.toArray⟩] 9) := ⟨_, rfl⟩
        have hB12 : RowKit.Below w1.heap.size w1 W2 := by rw [hW2]; exact bstep (balloc _ _) (balloc _ _)
        have hz2 : w.heap.size + 2 ≤ W2.heap.size := by rw [hW2]; simp; omega
        have hown2 : W2.ownsRow (w.heap.size + 2) 9 1 v ss.length (ss.map encV) := by rw [hW2]; exact (hown1.out.alloc _).alloc _
        have hrg2 : W2.ranges Tryz.prog 9 termElemM bg (w.heap.size + 1) ng Dg (fun z => left z && !z.sameKey (.string nm)) cnt1 := by rw [hW2]; exact (hrg1.alloc _).alloc _
        have hc2 := (hB12.cell (p := ⟨w.heap.size, 0, none⟩) hw1).trans hc1
        have hf2 := (hB12.frozen (p := ⟨w.heap.size, 0, none⟩) hw1).trans hf1
        have hsl : SlW W2 (some ⟨w1.heap.size + 1, 0, none⟩) [nm] := fun _ => ⟨_, _, rfl, fun j hj => by
          obtain rfl : j = 0 := by simpa using hj
          rw [hW2]
          go_simp
          rfl⟩
        have hs63 : ss.length + [nm].length ≤ 1000000 := by simp; omega
        go_wp2_with (first
          | (at_lookup; refine wpList_look_ev _ rfl _ _ rfl bx nx f rfl hE1.out nm hvl rfl y true (by rw [Hfn.out]; rfl) (by rw [Hfn.out]; rfl) ?_)
          | (at_builtin; rw [← hW2]; go_loud (refine wpList_append_textsW _ rfl _ _ rfl (w.heap.size + 2) v ss [nm] (some ⟨w1.heap.size + 1, 0, none⟩) 1 rfl rfl hown2 hsl hs63 hz2 ?_); intro v' w3 hown3 hg3; have hc3 := (grown_cellE hg3 (b := w.heap.size) (by omega) (own_aboveE hown2 (by omega)) 0).1.trans hc2; have hf3 := (grown_cellE hg3 (b := w.heap.size) (by omega) (own_aboveE hown2 (by omega)) 0).2.trans hf2; obtain ⟨n3, hn3⟩ : ∃ n3, n3 = (ss ++ [nm]).length := ⟨_, rfl⟩; rw [← hn3] at hown3; have Hn3 := hideE hn3; clear hn3; obtain ⟨av, cv, rfl⟩ := own_form hown3))
        have hrg3 := (hrg2.kept hg3 (own_aboveE hown2 (by omega)) (own_aboveE hown2 (by omega))).kept (grownBy_setCell' w3 w.heap.size (.slice av n3 cv)) (fun e => by have := Option.some.inj e; omega) (fun e => by have := Option.some.inj e; omega)
        have hown4 := hown3.kept (grownBy_setCell' w3 w.heap.size (.slice av n3 cv)) (by
          rcases hb : (Value.slice av n3 cv).ownBlock with _ | k
          · exact Or.inl rfl
          · refine Or.inr (fun e => ?_)
            have := (hown3.lt k hb).1
            have := Option.some.inj e
            omega)
        have hcf := World.cell?_setCell_same w3 ⟨w.heap.size, 0, none⟩ (.slice av n3 cv) hc3
        have hff : (w3.setCell ⟨w.heap.size, 0, none⟩ (.slice av n3 cv)).frozen? ⟨w.heap.size, 0, none⟩ = false := by rw [World.frozen?_setCell]; exact hf3
        have hBf := ((hB1.trans (hB12.mono hB1.size)).grown hg3 (by omega) (fun k e => by have := (hown2.lt k e).1; omega)).setCell (p := ⟨w.heap.size, 0, none⟩) (Nat.le_refl _) (.slice av n3 cv)
        have hown5 : Hid (World.ownsRow (w3.setCell ⟨w.heap.size, 0, none⟩ (.slice av n3 cv)) (w.heap.size + 2) 9 1 (.slice av n3 cv) (ss ++ [nm]).length ((ss ++ [nm]).map encV)) := by show World.ownsRow _ _ _ _ _ _ _; rw [← Hn3.out]; exact hown4
        have hcl : (ss ++ [nm]).length + cnt1 ≤ Maps.size Dg := by rw [List.length_append]; simp only [List.length_cons, List.length_nil]; omega
        go_roundw
        case rel => exact ⟨_, cnt1, ss ++ [nm], .slice av n3 cv, hrg3, hcl, hcf, hff, hown5, HC2.out, hBf⟩
        case measure => rw [hrg3.left_eq, hle]; exact hlt
end Go.Proofs.YtbacenhgedopjaaGreatDoor

/- A row of terms that is written one by one; the terms that an answer gives to some variables. -/
namespace Go.Proofs.YtbacenhgedopjaaGreatDoor
open Go Go.RowKit Go.Proofs Go.Maps
set_option synthInstance.maxSize 1000

/-- the cells of a block, from its first on, are a list's, and may be written -/
def RowQ (W : World) (g : Nat) (L : List Tm) : Prop := ∀ j v, (cellsQ L)[j]? = some v → W.cell? ⟨g, j, none⟩ = some v ∧ W.frozen? ⟨g, j, none⟩ = false
theorem RowQ.at {W : World} {g : Nat} {L : List Tm} (h : RowQ W g L) (k : Nat) (hk : k < L.length) :
    (W.cell? ⟨g, k * 3, none⟩ = some (.int .i64 L[k].1) ∧ W.cell? ⟨g, k * 3 + 1, none⟩ = some (.string ⟨L[k].2.1.toArray⟩) ∧ W.cell? ⟨g, k * 3 + 2, none⟩ = some (.string ⟨L[k].2.2.toArray⟩)) ∧
    (W.frozen? ⟨g, k * 3, none⟩ = false ∧ W.frozen? ⟨g, k * 3 + 1, none⟩ = false ∧ W.frozen? ⟨g, k * 3 + 2, none⟩ = false) := by
  have q := fun c (hc : c < 3) v (hv : (encQ L[k])[c]? = some v) => h (k * 3 + c) v (by rw [cellsQ_at L k hk c hc]; exact hv)
  exact ⟨⟨(q 0 (by omega) _ rfl).1, (q 1 (by omega) _ rfl).1, (q 2 (by omega) _ rfl).1⟩, ⟨(q 0 (by omega) _ rfl).2, (q 1 (by omega) _ rfl).2, (q 2 (by omega) _ rfl).2⟩⟩
theorem RowQ.sl {W : World} {g : Nat} {L : List Tm} (h : RowQ W g L) : SlQ W (some ⟨g, 0, none⟩) L := fun _ => ⟨g, 0, rfl, fun j v hv => by rw [Nat.zero_add]; exact (h j v hv).1⟩
theorem RowQ.set {W : World} {g k : Nat} {L : List Tm} (h : RowQ W g L) (x : Tm) :
    RowQ (((W.setCell ⟨g, k * 3, none⟩ (.int .i64 x.1)).setCell ⟨g, k * 3 + 1, none⟩ (.string ⟨x.2.1.toArray⟩)).setCell ⟨g, k * 3 + 2, none⟩ (.string ⟨x.2.2.toArray⟩)) g (L.set k x) := fun j v hv => by
  have hj : j < L.length * 3 := by
    have := (List.getElem?_eq_some_iff.1 hv).1
    rwa [cellsQ_len, List.length_set] at this
  have hi : j / 3 < L.length := by omega
  have hv2 := hv
  rw [show j = j / 3 * 3 + j % 3 by omega, cellsQ_at (L.set k x) (j / 3) (by rw [List.length_set]; exact hi) (j % 3) (by omega)] at hv2
  have o : ∀ (V : World) (i : Nat) (u : Value), i ≠ j → (V.setCell ⟨g, i, none⟩ u).cell? ⟨g, j, none⟩ = V.cell? ⟨g, j, none⟩ := fun V i u hne => World.cell?_setCell_other V _ _ u (fun e => hne (congrArg Addr.off e))
  obtain ⟨v0, hv0⟩ : ∃ v0, (cellsQ L)[j]? = some v0 := ⟨_, List.getElem?_eq_getElem (by rw [cellsQ_len]; exact hj)⟩
  obtain ⟨c0, f0⟩ := h j v0 hv0
  refine ⟨?_, by rw [World.frozen?_setCell, World.frozen?_setCell, World.frozen?_setCell]; exact f0⟩
  by_cases e : j / 3 = k
  · rw [List.getElem_set, if_pos e.symm] at hv2
    rcases (by omega : j % 3 = 0 ∨ j % 3 = 1 ∨ j % 3 = 2) with r | r | r
    · rw [r] at hv2
      have ev : v = .int .i64 x.1 := by simpa [encQ] using hv2.symm
      have ej : j = k * 3 := by omega
      subst ev
      rw [o _ _ _ (by omega), o _ _ _ (by omega), ej]
      rw [ej] at c0
      exact World.cell?_setCell_same W _ _ c0
    · rw [r] at hv2
      have ev : v = .string ⟨x.2.1.toArray⟩ := by simpa [encQ] using hv2.symm
      have ej : j = k * 3 + 1 := by omega
      subst ev
      rw [o _ _ _ (by omega), ej]
      rw [ej] at c0
      exact World.cell?_setCell_same _ _ _ ((World.cell?_setCell_other W _ _ _ (fun e => by have := congrArg Addr.off e; simp at this)).trans c0)
    · rw [r] at hv2
      have ev : v = .string ⟨x.2.2.toArray⟩ := by simpa [encQ] using hv2.symm
      have ej : j = k * 3 + 2 := by omega
      subst ev
      rw [ej]
      rw [ej] at c0
      exact World.cell?_setCell_same _ _ _ ((World.cell?_setCell_other _ _ _ _ (fun e => by have := congrArg Addr.off e; simp at this)).trans ((World.cell?_setCell_other W _ _ _ (fun e => by have := congrArg Addr.off e; simp at this)).trans c0))
  · rw [List.getElem_set, if_neg (fun h => e h.symm)] at hv2
    rw [o _ _ _ (by omega), o _ _ _ (by omega), o _ _ _ (by omega), c0, ← hv0]
    rw [show j = j / 3 * 3 + j % 3 by omega, cellsQ_at L (j / 3) hi (j % 3) (by omega), hv2]
theorem rowQ_made (W : World) (n : Nat) (T : TypeId) : RowQ (W.alloc (.cells (madeCells (encQ tmZero).toArray (n * 3)) T)) W.heap.size (List.replicate n tmZero) := fun j v hv => by
  have hh := heap_alloc_last W (.cells (madeCells (encQ tmZero).toArray (n * 3)) T)
  have hj : j < n * 3 := by
    have := (List.getElem?_eq_some_iff.1 hv).1
    rwa [cellsQ_len, List.length_replicate] at this
  refine ⟨?_, frozen_of_row _ _ j _ T hh⟩
  rw [cell_of_row _ _ j _ T (0, 0) hh]
  rw [show j = j / 3 * 3 + j % 3 by omega, cellsQ_at _ (j / 3) (by simp; omega) (j % 3) (by omega)] at hv
  simp only [List.getElem_replicate] at hv
  rw [← hv]
  have h3 : (encQ tmZero).toArray.size = 3 := rfl
  simp only [madeCells, h3]
  rw [Array.getElem?_map, Array.getElem?_range, if_pos (by simpa using hj)]
  rcases (by omega : j % 3 = 0 ∨ j % 3 = 1 ∨ j % 3 = 2) with r | r | r <;> simp [r, encQ]
theorem makeTms (n : Nat) (w : World) (h : n ≤ 100000) : (Instr.makeSlice 33 (.int .i64 (n : Int)) (.int .i64 (n : Int))).run Tryz.prog w = .ok (.slice (some ⟨w.heap.size, 0, none⟩) n n) (w.alloc (.cells (madeCells (encQ tmZero).toArray (n * 3)) 28)) := by
  obtain ⟨i, hi, hz⟩ := Option.map_eq_some_iff.1 infoQ
  simp only [Prod.mk.injEq] at hz
  obtain ⟨h1, h2, h3⟩ := hz
  have := run_make (P := Tryz.prog) w 33 28 i _ Tryz.underlying33 hi h1 .i64 .i64 (n : Int) (n : Int) (by omega) (Int.le_refl _) (by rw [h3]; omega) (by omega)
  rw [h2] at this
  simpa [Value.cells] using this
def termsE (f : Ev) (names : List (List UInt8)) : List Tm := names.map fun v => (f v).getD tmZero
def termsK (f : Ev) (names : List (List UInt8)) (k : Nat) : List Tm := termsE f (names.take k) ++ List.replicate (names.length - k) tmZero
theorem termsK_len (f : Ev) (names : List (List UInt8)) (k : Nat) (h : k ≤ names.length) : (termsK f names k).length = names.length := by
  simp [termsK, termsE]; omega
theorem termsK_next {f : Ev} {names : List (List UInt8)} {k : Nat} (h : k < names.length) : (termsK f names k).set k ((f names[k]).getD tmZero) = termsK f names (k + 1) := by
  unfold termsK termsE
  obtain ⟨m, hm⟩ : ∃ m, names.length - k = m + 1 := ⟨names.length - k - 1, by omega⟩
  have hm2 : names.length - (k + 1) = m := by omega
  have hk : (List.map (fun v => (f v).getD tmZero) (names.take k)).length = k := by simp; omega
  rw [hm, hm2, List.replicate_succ, List.set_append_right _ _ (by omega), hk, Nat.sub_self, List.set_cons_zero, List.take_succ_eq_append_getElem h, List.map_append, List.append_assoc]
  rfl
theorem termsK_all (f : Ev) (names : List (List UInt8)) : termsK f names names.length = termsE f names := by simp [termsK, termsE]
set_option maxHeartbeats 4000000 in
set_option maxRecDepth 100000 in
theorem terms_any (bm n : Nat) (f : Ev) (vd : Option Addr) (vc : Nat) (names : List (List UInt8)) (w : World) (h : EvAt w bm n f) (hv : SlW w vd names) (hn : ∀ v ∈ names, v.length ≤ maxLen) (h1 : names.length ≤ 100000) :
    Calls Tryz.prog 27 #[.map (some bm), .slice vd names.length vc] w fun e w' => e = .returned (.slice (some ⟨w.heap.size, 0, none⟩) names.length names.length) ∧ RowQ w' w.heap.size (termsE f names) ∧ RowKit.Below w.heap.size w w' := by
  have hmk := fun W => makeTms names.length W h1
  have HE := hideE h
  have HV := hideE hv
  have HN := hideE hn
  clear h hv hn
  obtain ⟨W0, hW0⟩ : ∃ W0, W0 = w.alloc (.cells (madeCells (encQ tmZero).toArray (names.length * 3)) 28) := ⟨_, rfl⟩
  have hR0 := hideE (rowQ_made w names.length 28)
  have hB0 : RowKit.Below w.heap.size w W0 := by rw [hW0]; exact balloc _ _
  go_enter Tryz.func27, Tryz.ntmps27
  go_upto_region 2 with fail
  rw [← hW0] at hR0 ⊢
  clear hW0
  go_wp2_with fail
  go_loopw [13] (fun i wr => ∃ k : Nat, k ≤ names.length ∧ i = .int .i64 k ∧ Hid (RowQ wr w.heap.size (termsK f names k)) ∧ RowKit.Below w.heap.size w wr) (fun i wr => names.length - (intOf i).toNat)
  case atStart => exact ⟨0, Nat.zero_le _, rfl, by show RowQ _ _ _; simpa [termsK, termsE] using hR0.out, hB0⟩
  case round =>
    clear hR0 hB0
    obtain ⟨k, hk, rfl, hR, hbr⟩ := hrel
    by_cases hlt : k < names.length
    · have t1 : decide ((k : Int) < (names.length : Int)) = true := by simp; omega
      have i0 : (0 : Int) ≤ (k : Int) := by omega
      have i1 : (k : Int) < (names.length : Int) := by omega
      obtain ⟨b, o, rfl, ck⟩ := (HV.out.below hbr).at k hlt
      have hvk := HN.out _ (List.getElem_mem hlt)
      have hNx := hideE (hR.out.set (k := k) ((f names[k]).getD tmZero))
      rw [termsK_next hlt] at hNx
      obtain ⟨⟨c0, c1, c2⟩, f0, f1, f2⟩ := hR.out.at k (by rw [termsK_len f names k hk]; exact hlt)
      generalize hy : (f names[k]).getD tmZero = y at *
      go_wp2_with (first
        | (at_lookup; refine wpList_look0_ev _ rfl _ _ rfl bm n f rfl (HE.out.far hbr HE.out.lt) names[k] hvk rfl y hy ?_))
      go_roundw
      case rel => exact ⟨k + 1, by omega, by go_num, hNx.out, ((hbr.setCell (p := ⟨w.heap.size, k * 3, none⟩) (Nat.le_refl _) _).setCell (p := ⟨w.heap.size, k * 3 + 1, none⟩) (Nat.le_refl _) _).setCell (p := ⟨w.heap.size, k * 3 + 2, none⟩) (Nat.le_refl _) _⟩
      case measure => simp [intOf]; omega
    · obtain rfl : k = names.length := by omega
      have t1 : decide ((names.length : Int) < (names.length : Int)) = false := by simp
      go_wp2_with fail
      go_ret
      exact ⟨rfl, by rw [← termsK_all]; exact hR.out, hbr⟩
end Go.Proofs.YtbacenhgedopjaaGreatDoor
