/- match.bind: which term a variable has; a map whose keys are texts and whose elements are terms. -/
import Derived.Test.YtnlcfnpcjkcdmacGreatDoorMatchFault
import Derived.Maps.OwnSet
import Derived.DeepKeys4
import Derived.OwnWalk
namespace Go.Proofs.YtnlcfnpcjkcdmacGreatDoor
open Go Go.RowKit Go.Proofs Go.Maps
set_option synthInstance.maxSize 1000

/-- what variables have -/
abbrev Env := List (List UInt8 × Tm)
def lookE (E : Env) (v : List UInt8) : Option Tm := E.lookup v
def putE (E : Env) (v : List UInt8) (x : Tm) : Env := if (lookE E v).isSome then E else E ++ [(v, x)]
def getE (E : Env) (v : List UInt8) (x : Tm) : Tm := (lookE E v).getD x

theorem lookE_put (E : Env) (v : List UInt8) (x : Tm) (h : lookE E v = none) (u : List UInt8) : lookE (E ++ [(v, x)]) u = if u = v then some x else lookE E u := by
  unfold lookE at *
  induction E with
  | nil =>
    by_cases e : u = v
    · subst e; simp
    · simp only [List.nil_append, List.lookup]
      rw [if_neg e, show (u == v) = false by simpa using e]
  | cons a r ih =>
    obtain ⟨n, y⟩ := a
    simp only [List.cons_append, List.lookup] at h ⊢
    cases hn : (v == n)
    · rw [hn] at h
      cases hu : (u == n)
      · exact ih h
      · have e1 : u = n := by simpa using hu
        have e2 : ¬ v = n := by simpa using hn
        rw [if_neg (show ¬ u = v from fun e => e2 (e.symm.trans e1))]
    · rw [hn] at h; simp at h

/-! ### elements that are terms -/
def encDM (x : Tm) : DataW Unit := .agg [.lit (.int .i64 x.1), .lit (.string x.2.1), .lit (.string x.2.2)]
def termElemM (v : Value) : Option (DataW Unit × List MemPlace) :=
  match v with
  | .agg cs => match cs.toList with
    | [.int .i64 k, .string S, .string L] => some (encDM (k, S.data.toList, L.data.toList), [])
    | _ => none
  | _ => none
theorem termElemM_mk (x : Tm) : termElemM (valTermM x) = some (encDM x, []) := by
  simp [termElemM, valTermM]
theorem encDM_inj {x y : Tm} (h : encDM x = encDM y) : x = y := by
  obtain ⟨a1, a2, a3⟩ := x
  obtain ⟨b1, b2, b3⟩ := y
  simp only [encDM, DataW.agg.injEq, List.cons.injEq, DataW.lit.injEq, Lit.int.injEq, Lit.string.injEq, true_and, and_true] at h
  obtain ⟨rfl, rfl, rfl⟩ := h
  rfl
theorem termElemM_inv {v : Value} {x : Tm} {ps : List MemPlace} (h : termElemM v = some (encDM x, ps)) : v = valTermM x := by
  unfold termElemM at h
  split at h
  · rename_i cs
    split at h
    · rename_i k S L hcs
      simp only [Option.some.injEq, Prod.mk.injEq] at h
      have := encDM_inj h.1
      subst this
      obtain ⟨l, rfl⟩ : ∃ l : List Value, cs = l.toArray := ⟨cs.toList, by simp⟩
      simp at hcs
      subst hcs
      rfl
    · cases h
  · cases h

theorem keyedStr : Keyed Tryz.prog 9 := string_keyed Tryz.underlying9
theorem keyOf_v (v : List UInt8) (hv : v.length ≤ maxLen) : keyOf Tryz.prog 9 (.string ⟨v.toArray⟩) = some (.string v) := by
  have h' : (⟨v.toArray⟩ : ByteArray).size ≤ maxLen := hv
  simp [keyOf, Tryz.underlying9, mapKey, h']
theorem zeroTmV (w : World) : (zeroValue 24).run Tryz.prog w = .ok (valTermM tmZero) w := by kernel_rfl

/-- the map at a block holds what variables have -/
def BoundAt (w : World) (bm : Nat) (E : Env) : Prop :=
  ∃ D : DataW Unit, w.ownsMap Tryz.prog 9 termElemM bm E.length D ∧ ∀ v : List UInt8, v.length ≤ maxLen → Maps.has D (.string v) = (lookE E v).isSome ∧ D.atKey (.string v) (encDM tmZero) = encDM ((lookE E v).getD tmZero)

theorem ownsMap_belowM {H : Type} {R : Value → Option (DataW H × List MemPlace)} {k : TypeId} {w w' : World} {b n : Nat} {D : DataW H} (h : w.ownsMap Tryz.prog k R b n D) (hb : RowKit.Below w.heap.size w w') : w'.ownsMap Tryz.prog k R b n D := by
  obtain ⟨es, clock, hm, r⟩ := h
  have hlt : b < w.heap.size := (Array.getElem?_eq_some_iff.1 hm).1
  exact ⟨es, clock, (hb.block b hlt).trans hm, r⟩
theorem BoundAt.below {w w' : World} {bm : Nat} {E : Env} (h : BoundAt w bm E) (hb : RowKit.Below w.heap.size w w') : BoundAt w' bm E := by
  obtain ⟨D, o, f⟩ := h
  exact ⟨D, ownsMap_belowM o hb, f⟩
theorem BoundAt.lt {w : World} {bm : Nat} {E : Env} (h : BoundAt w bm E) : bm < w.heap.size := by
  obtain ⟨D, ⟨es, clock, hm, r⟩, f⟩ := h
  exact (Array.getElem?_eq_some_iff.1 hm).1
theorem boundAt_made (w : World) : BoundAt (w.alloc (.map #[] 0)) w.heap.size [] :=
  ⟨.map [], World.ownsMap_made _ _ _ _, fun v _ => ⟨by simp [Maps.has_eq, lookE], by simp [DataW.atKey, lookE]⟩⟩

theorem look_bound {bm : Nat} {E : Env} {w : World} (h : BoundAt w bm E) (v : List UInt8) (hv : v.length ≤ maxLen) :
    (Instr.lookup 118 (.map (some bm)) (.string ⟨v.toArray⟩) true).run Tryz.prog w = .ok (.tuple #[valTermM ((lookE E v).getD tmZero), .bool (lookE E v).isSome]) w := by
  obtain ⟨D, o, f⟩ := h
  obtain ⟨u, ps, hrun, hu⟩ := o.look_ok keyedStr Tryz.underlying118 (zeroTmV w) (termElemM_mk tmZero) (keyOf_v v hv)
  rw [(f v hv).2] at hu
  rw [hrun, (f v hv).1, termElemM_inv hu]

theorem wpList_look_bound (w : World) {ops : Array Oper} {rest : List Oper} {o : Oper} {a : Act} {Q : Exit → Act → World → Prop}
    (hg : o.guard = none) (m x : Operand) (hop : o.op = Op.lookup 118 m x true) (bm : Nat) (E : Env) (hm : a.eval m = .map (some bm)) (h : BoundAt w bm E)
    (v : List UInt8) (hv : v.length ≤ maxLen) (hx : a.eval x = .string ⟨v.toArray⟩) (y : Tm) (b : Bool) (hy : (lookE E v).getD tmZero = y) (hb : (lookE E v).isSome = b)
    (hK : wpList Tryz.prog ops Q rest (a.put o.dst (.tuple #[.agg #[.int .i64 y.1, .string ⟨y.2.1.toArray⟩, .string ⟨y.2.2.toArray⟩], .bool b])) w) : wpList Tryz.prog ops Q (o :: rest) a w := by
  refine wpList_plain hg fun K' hK' => ?_
  have hrun := look_bound h v hv
  rw [hy, hb] at hrun
  unfold Oper.wp
  simp [execOp, hop, hm, hx, hrun, Result.andThen]
  exact hK' _ _ hK

/-- one more variable -/
theorem bound_put {E : Env} {v : List UInt8} {x : Tm} {D : DataW Unit} (hv : v.length ≤ maxLen) (hn : lookE E v = none) (m1 : IsMap D)
    (f : ∀ v : List UInt8, v.length ≤ maxLen → Maps.has D (.string v) = (lookE E v).isSome ∧ D.atKey (.string v) (encDM tmZero) = encDM ((lookE E v).getD tmZero)) :
    ∀ u : List UInt8, u.length ≤ maxLen → Maps.has (D.put (.string v) (encDM x)) (.string u) = (lookE (E ++ [(v, x)]) u).isSome ∧ (D.put (.string v) (encDM x)).atKey (.string u) (encDM tmZero) = encDM ((lookE (E ++ [(v, x)]) u).getD tmZero) := fun u hu => by
  have hk := keyedStr.key (keyOf_v v hv)
  rw [lookE_put E v x hn u]
  by_cases e : u = v
  · subst e
    rw [Maps.has_put_same m1 hk, Maps.atKey_put_same m1 hk, if_pos rfl]
    exact ⟨rfl, rfl⟩
  · have hne : (Lit.string u) ≠ (Lit.string v) := fun e' => e (by simpa using e')
    rw [Maps.has_put_other hne, Maps.atKey_put_other hne, if_neg e]
    exact f u hu

theorem grownBy_below {w w' : World} {r : Option Nat} (hb : RowKit.Below w.heap.size w w') : w.grownBy w' r := ⟨hb.os, hb.tape, hb.output, hb.size, fun i hi _ => hb.block i hi⟩
theorem grownBy_trans {a b c : World} {r : Option Nat} (h : a.grownBy b r) (k : b.grownBy c r) : a.grownBy c r :=
  ⟨k.os.trans h.os, k.tape.trans h.tape, k.output.trans h.output, Nat.le_trans h.size k.size, fun i hi hr => (k.block i (Nat.lt_of_lt_of_le hi h.size) hr).trans (h.block i hi hr)⟩

theorem grown_far {W w1 : World} {bm b : Nat} (h : W.grownBy w1 (some bm)) (hb : b < W.heap.size) (hne : b ≠ bm) (o : Nat) : w1.cell? ⟨b, o, none⟩ = W.cell? ⟨b, o, none⟩ ∧ w1.frozen? ⟨b, o, none⟩ = W.frozen? ⟨b, o, none⟩ := by
  have e := h.block b hb (fun e => hne (by simpa using e))
  refine ⟨World.cell?_of_block (w := W) e, ?_⟩
  simp only [World.frozen?]
  rw [e]
theorem grown_mid {w W w1 w2 : World} {bm : Nat} (h1 : RowKit.Below w.heap.size w W) (h2 : W.grownBy w1 (some bm)) (h3 : RowKit.Below w.heap.size w1 w2) : w.grownBy w2 (some bm) :=
  ⟨h3.os.trans (h2.os.trans h1.os), h3.tape.trans (h2.tape.trans h1.tape), h3.output.trans (h2.output.trans h1.output), Nat.le_trans (Nat.le_trans h1.size h2.size) h3.size,
    fun i hi hr => (h3.block i hi).trans ((h2.block i (Nat.lt_of_lt_of_le hi h1.size) hr).trans (h1.block i hi))⟩
theorem BoundAt.far {w w' : World} {bm B : Nat} {E : Env} (h : BoundAt w bm E) (hb : RowKit.Below B w w') (hB : bm < B) : BoundAt w' bm E := by
  obtain ⟨D, ⟨es, clock, hm, r⟩, f⟩ := h
  exact ⟨D, ⟨es, clock, (hb.block bm hB).trans hm, r⟩, f⟩

set_option maxHeartbeats 2000000 in
set_option maxRecDepth 100000 in
theorem bind_any (bm : Nat) (E : Env) (v : List UInt8) (x : Tm) (w : World) (h : BoundAt w bm E) (hv : v.length ≤ maxLen) (hE : E.length ≤ 1000) :
    Calls Tryz.prog 72 #[.map (some bm), .string ⟨v.toArray⟩, valTermM x] w fun e w' => e = .returned (valTermM (getE E v x)) ∧ BoundAt w' bm (putE E v x) ∧ w.grownBy w' (some bm) := by
  have hlt := h.lt
  have Hb : Hid (BoundAt w bm E) := h
  clear h
  cases hl : lookE E v with
  | some y =>
    have e1 : getE E v x = y := by simp [getE, hl]
    have e2 : putE E v x = E := by simp [putE, hl]
    rw [e1, e2]
    clear e1 e2
    have Hl : Hid (lookE E v = some y) := hl
    clear hl
    unfold valTermM
    go_enter Tryz.func72, Tryz.ntmps72
    go_wp2_with (first
      | (at_lookup; refine wpList_look_bound _ rfl _ _ rfl bm E rfl ((Hb.out.below (balloc _ _)).below (balloc _ _)) v hv rfl y true (by rw [Hl.out]; rfl) (by rw [Hl.out]; rfl) ?_))
    have hB : RowKit.Below w.heap.size w _ := bstep (bstep (balloc w (.cells #[.int .i64 x.1, .string ⟨x.2.1.toArray⟩, .string ⟨x.2.2.toArray⟩] 24)) (balloc _ (.cells #[.int .i64 y.1, .string ⟨y.2.1.toArray⟩, .string ⟨y.2.2.toArray⟩] 24))) (balloc _ (.cells #[.int .i64 y.1, .string ⟨y.2.1.toArray⟩, .string ⟨y.2.2.toArray⟩] 24))
    exact bodyPost_ret (v := .agg #[.int .i64 y.1, .string ⟨y.2.1.toArray⟩, .string ⟨y.2.2.toArray⟩]) (by unfold results; rw [Tryz.results72]; go_simp) rfl ⟨rfl, Hb.out.below hB, grownBy_below hB⟩
  | none =>
    have e1 : getE E v x = x := by simp [getE, hl]
    have e2 : putE E v x = E ++ [(v, x)] := by simp [putE, hl]
    rw [e1, e2]
    clear e1 e2
    have Hl : Hid (lookE E v = none) := hl
    clear hl
    unfold valTermM
    have helem := termElemM_mk x
    unfold valTermM at helem
    obtain ⟨D, hown0, hf0⟩ := Hb.out
    have hown : Hid (w.ownsMap Tryz.prog 9 termElemM bm E.length D) := hown0
    have hf : Hid (∀ v : List UInt8, v.length ≤ maxLen → Maps.has D (.string v) = (lookE E v).isSome ∧ D.atKey (.string v) (encDM tmZero) = encDM ((lookE E v).getD tmZero)) := hf0
    have hkey := keyOf_v v hv
    clear hown0 hf0
    go_enter Tryz.func72, Tryz.ntmps72
    go_wp2_with (first
      | (at_lookup; refine wpList_look_bound _ rfl _ _ rfl bm E rfl ((Hb.out.below (balloc _ _)).below (balloc _ _)) v hv rfl tmZero false (by rw [Hl.out]; rfl) (by rw [Hl.out]; rfl) ?_)
      | (at_mapUpdate; refine wpList_mapUpdate_own _ rfl _ _ _ 118 rfl 9 24 keyedStr Tryz.underlying118 (termElemM) bm E.length _ rfl (((hown.out.alloc _).alloc _).alloc _) (by unfold maxLen; omega) _ _ _ rfl rfl hkey _ [] helem ?_; intro w1 hown1 hgrow1
         obtain ⟨c0, _⟩ := grown_far hgrow1 (b := w.heap.size) (by simp; omega) (by omega) 0
         obtain ⟨c1, _⟩ := grown_far hgrow1 (b := w.heap.size) (by simp; omega) (by omega) 1
         obtain ⟨c2, _⟩ := grown_far hgrow1 (b := w.heap.size) (by simp; omega) (by omega) 2
         obtain ⟨d0, f0⟩ := grown_far hgrow1 (b := w.heap.size + 1) (by simp) (by omega) 0
         obtain ⟨d1, f1⟩ := grown_far hgrow1 (b := w.heap.size + 1) (by simp) (by omega) 1
         obtain ⟨d2, f2⟩ := grown_far hgrow1 (b := w.heap.size + 1) (by simp) (by omega) 2
         have Hg : Hid (World.grownBy _ w1 (some bm)) := hgrow1
         have Ho : Hid (w1.ownsMap _ _ _ _ _ _) := hown1
         clear hgrow1 hown1))
    have hB0 : RowKit.Below w.heap.size w _ := bstep (bstep (balloc w (.cells #[.int .i64 x.1, .string ⟨x.2.1.toArray⟩, .string ⟨x.2.2.toArray⟩] 24)) (balloc _ (.cells #[.int .i64 0, .string ⟨#[]⟩, .string ⟨#[]⟩] 24))) (balloc _ (.cells #[.int .i64 0, .string ⟨#[]⟩, .string ⟨#[]⟩] 24))
    have hB3 : RowKit.Below w.heap.size w1 _ := (((RowKit.Below.refl w.heap.size w1).setCell (p := ⟨w.heap.size + 1, 0, none⟩) (by show w.heap.size ≤ w.heap.size + 1; omega) (.int .i64 x.1)).setCell (p := ⟨w.heap.size + 1, 1, none⟩) (by show w.heap.size ≤ w.heap.size + 1; omega) (.string ⟨x.2.1.toArray⟩)).setCell (p := ⟨w.heap.size + 1, 2, none⟩) (by show w.heap.size ≤ w.heap.size + 1; omega) (.string ⟨x.2.2.toArray⟩)
    have hfin : BoundAt w1 bm (E ++ [(v, x)]) := ⟨_, by rw [List.length_append]; exact Ho.out, bound_put hv Hl.out hown.out.isMap hf.out⟩
    exact bodyPost_ret (v := .agg #[.int .i64 x.1, .string ⟨x.2.1.toArray⟩, .string ⟨x.2.2.toArray⟩]) (by unfold results; rw [Tryz.results72]; go_simp) rfl ⟨rfl, hfin.far hB3 hlt, grown_mid hB0 Hg.out hB3⟩
end Go.Proofs.YtnlcfnpcjkcdmacGreatDoor
