import Derived.Test.YtpomdoelihmebaaGreatDoorMA1x2
import Derived.Test.YtpomdoelihmebaaGreatDoorMA0x0
import Derived.Lib.AppendZeros
import Derived.Deep.Upon
import Derived.Test.YtpomdoelihmebaaGreatDoorMA0x3
import Derived.Test.YtpomdoelihmebaaGreatDoorMA0x2
import Derived.Shelf.GgClosure.StringsIndexFunc
import Derived.Laws.RangeString
import Derived.Laws.RangeAny

/- repo's fresh, and the test of find: a commit in memory of its own; is it the one that is there already? -/
namespace Go.Proofs.YtpomdoelihmebaaGreatDoor
open Go Go.RowKit Go.Proofs Go.Maps
set_option synthInstance.maxSize 1000


theorem prow_form {W : World} {base : Nat} {e : TypeId} {sz : Nat} {v : Value} {n : Nat} {cs : List Value} (h : W.ownsRow base e sz v n cs) : ∃ ad cap, v = .slice ad n cap := by
  rcases h.2 with ⟨rfl, h0⟩ | ⟨g, cap, cur, rfl, _⟩
  · exact ⟨none, 0, by rw [h0]⟩
  · exact ⟨_, _, rfl⟩
theorem prow_at {W : World} {base : Nat} {e : TypeId} {sz : Nat} {v : Value} {n : Nat} {cs : List Value} (h : W.ownsRow base e sz v n cs) (hn : 0 < n) : ∃ g cap, v = .slice (some ⟨g, 0, none⟩) n cap ∧ n ≤ cap ∧ ∀ (k : Nat) (x : Value), cs[k]? = some x → W.cell? ⟨g, k, none⟩ = some x := by
  rcases h.2 with ⟨rfl, h0⟩ | ⟨g, cap, cur, rfl, hg, hm, h3, h4, h5, h6⟩
  · omega
  · refine ⟨g, cap, rfl, by omega, fun k x hk => ?_⟩
    have := h.cells (g := g) rfl k x hk
    rw [Addr.add_lit] at this
    simpa using this
/-! ### numbers in memory of their own -/
def cellsZ (m : List Int) : List Value := m.map fun j => Value.int .i64 j
theorem infoZ : (Tryz.prog.info? 3).map (fun i => (i.zero, i.size, i.bytes)) = some (some (.int .i64 0), 1, 8) := by kernel_rfl
theorem append_noneZ (W : World) (ad : Option Addr) (cap : Nat) (ty : TypeId) :
    (Builtin.append_ #[48, 48] ty #[.slice none 0 0, .slice ad 0 cap]).run Tryz.prog W = .ok (.slice none 0 0) W := by
  obtain ⟨i, hi, hz⟩ := Option.map_eq_some_iff.1 infoZ
  have hf : (Builtin.firstCells i.size 0 (.slice ad 0 cap)).run Tryz.prog W = .ok #[] W := by
    cases ad with
    | none => exact run_firstCells_none W _ _ _ _
    | some a => exact run_firstCells_some (P := Tryz.prog) W i.size 0 a 0 cap [] (by simp) (by simp)
  simp [Builtin.append_, run_underlying Tryz.underlying48, sizeOf, typeInfo, hi, Builtin.lenOf, hf]
/-- what an append to nothing leaves -/
def NewZ (w : World) (l : List Int) (ad : Option Addr) (c : Nat) (w' : World) : Prop := SlI w' ad l ∧ l.length ≤ c ∧ (l ≠ [] → ∀ d, ad = some d → w.heap.size ≤ d.block) ∧ RowKit.Below w.heap.size w w'
theorem wpList_append_nilZ {ops : Array Oper} {rest : List Oper} {o : Oper} {a : Act} {Q : Exit → Act → World → Prop} (w : World) (hgd : o.guard = none) (s x : Operand)
    (ho : o.op = .call { callee := .builtin .append, args := #[s, x], argTypes := #[48, 48] })
    (l : List Int) (ad : Option Addr) (c : Nat) (hs : a.eval s = .slice none 0 0) (hx : a.eval x = .slice ad l.length c) (hl : SlI w ad l) (h63 : l.length ≤ 1000000)
    (h : ∀ ad' c' w', NewZ w l ad' c' w' → wpList Tryz.prog ops Q rest (a.put o.dst (.slice ad' l.length c')) w') : wpList Tryz.prog ops Q (o :: rest) a w := by
  obtain ⟨i0, hi, hz⟩ := Option.map_eq_some_iff.1 infoZ
  simp only [Prod.mk.injEq] at hz
  obtain ⟨hz0, hz1, hz2⟩ := hz
  cases l with
  | nil =>
    exact Lib.wpList_append_run w hgd s x _ _ ho _ _ hs hx (.slice none 0 0) w (append_noneZ w ad c _) (h none 0 w ⟨fun h => absurd rfl h, Nat.le_refl _, fun h => absurd rfl h, RowKit.Below.refl _ _⟩)
  | cons y r =>
    obtain ⟨b, off, rfl, hr⟩ := hl (by simp)
    refine wpList_append_own w hgd s x _ ho w.heap.size 3 i0 (.int .i64 0) 1 8 Tryz.underlying48 hi hz0 hz1 hz2 rfl (by decide) (.slice none 0 0) 0 [] hs (World.ownsRow_nil _ _ _ _) ⟨b, off, none⟩ (y :: r).length c (cellsZ (y :: r)) hx (by simp [cellsZ]) ?_ ?_ (by unfold maxLen; omega) (by omega) (Nat.le_refl _) ?_
    · intro j u hj
      rw [Addr.add_lit]
      have hj' : j < (y :: r).length := by have := (List.getElem?_eq_some_iff.1 hj).1; simpa [cellsZ] using this
      have e : u = .int .i64 (y :: r)[j] := by
        have := (List.getElem?_eq_some_iff.1 hj).2
        rw [← this]
        simp only [cellsZ, List.getElem_map]
      rw [e]
      exact hr j hj'
    · intro v hv
      obtain ⟨j, _, rfl⟩ := List.mem_map.1 hv
      rfl
    · intro v' w' h2 h3 _
      rw [List.nil_append, Nat.zero_add] at h2
      have hb : RowKit.Below w.heap.size w w' := (RowKit.Below.refl _ _).grown h3 (Nat.le_refl _) (fun k hk => by cases hk)
      obtain ⟨g, cap, rfl, hcap, hx⟩ := prow_at h2 (by simp)
      refine h _ _ _ ⟨fun _ => ⟨g, 0, rfl, fun j hj => ?_⟩, hcap, fun _ d hd => ?_, hb⟩
      · have := hx j (.int .i64 (y :: r)[j]) (by simp only [cellsZ, List.getElem?_map, List.getElem?_eq_getElem hj, Option.map_some])
        simpa using this
      · cases hd
        exact (h2.lt g rfl).1

/-- a commit in memory of its own -/
def FreshC (w : World) (ps : List Int) (y : Int) (t : List UInt8) (e : Ending) (w' : World) : Prop := ∃ a c, e = .returned (.agg #[.slice a ps.length c, .int .i64 y, .string ⟨t.toArray⟩]) ∧ NewZ w ps a c w'
theorem NewZ.later {w W w1 w' : World} {l : List Int} {ad : Option Addr} {c : Nat} (h : NewZ W l ad c w1) (hw : RowKit.Below w.heap.size w W) (hb : RowKit.Below w.heap.size w w') (hs : SlI w' ad l) : NewZ w l ad c w' :=
  ⟨hs, h.2.1, fun hl d hd => Nat.le_trans hw.size (h.2.2.1 hl d hd), hb⟩
/-- numbers lie in no block that holds a struct of a commit's kind -/
theorem SlI.put0 {w : World} {ad : Option Addr} {l : List Int} (h : SlI w ad l) {b k : Nat} {v u : Value} (hc : w.cell? ⟨b, k, none⟩ = some v) (hv : ∀ z, v ≠ .int .i64 z) : SlI (w.setCell ⟨b, k, none⟩ u) ad l := fun hl => by
  obtain ⟨p, o, e, h1⟩ := h hl
  refine ⟨p, o, e, fun j hj => ?_⟩
  rw [World.cell?_setCell_other]
  · exact h1 j hj
  · intro e2
    have := h1 j hj
    rw [← e2, hc] at this
    exact hv _ (Option.some.inj this)
theorem SlI.off {w : World} {ad : Option Addr} {l : List Int} (h : SlI w ad l) {b k : Nat} {u : Value} (hb : l ≠ [] → ∀ d, ad = some d → d.block ≠ b) : SlI (w.setCell ⟨b, k, none⟩ u) ad l := fun hl => by
  obtain ⟨p, o, e, h1⟩ := h hl
  refine ⟨p, o, e, fun j hj => ?_⟩
  rw [World.cell?_setCell_other]
  · exact h1 j hj
  · intro e2
    cases e2
    exact hb hl _ e rfl

theorem blk3 {W : World} {B : Nat} {u v x : Value} {T : TypeId} (h : W.heap[B]? = some (.cells #[u, v, x] T)) : W.cell? ⟨B, 0, none⟩ = some u ∧ W.cell? ⟨B, 1, none⟩ = some v ∧ W.cell? ⟨B, 2, none⟩ = some x ∧ W.frozen? ⟨B, 0, none⟩ = false ∧ W.frozen? ⟨B, 1, none⟩ = false ∧ W.frozen? ⟨B, 2, none⟩ = false ∧ B < W.heap.size := by
  refine ⟨?_, ?_, ?_, ?_, ?_, ?_, (Array.getElem?_eq_some_iff.1 h).1⟩ <;> simp [World.cell?, World.frozen?, h]
theorem two3 (w : World) (u v x u' v' x' : Value) (T : TypeId) : ((w.alloc (.cells #[u, v, x] T)).alloc (.cells #[u', v', x'] T)).heap[w.heap.size]? = some (.cells #[u, v, x] T) ∧ ((w.alloc (.cells #[u, v, x] T)).alloc (.cells #[u', v', x'] T)).heap[w.heap.size + 1]? = some (.cells #[u', v', x'] T) := by
  constructor
  · show ((w.heap.push _).push _)[w.heap.size]? = _
    rw [Array.getElem?_push, if_neg (by simp), Array.getElem?_push, if_pos rfl]
  · show ((w.heap.push _).push _)[w.heap.size + 1]? = _
    rw [Array.getElem?_push, if_pos (by simp)]

theorem belowQ {w W : World} {b o : Nat} {v : Value} (h : RowKit.Below w.heap.size w W) (hb : w.heap.size ≤ b) : RowKit.Below w.heap.size w (W.setCell ⟨b, o, none⟩ v) := h.setCell (p := ⟨b, o, none⟩) hb v
set_option maxHeartbeats 4000000 in
set_option maxRecDepth 100000 in
theorem Qfresh_any (a : Option Addr) (ca : Nat) (ps : List Int) (y : Int) (t : List UInt8) (w : World) (hs : SlI w a ps) (hl : ps.length ≤ 1000000) (ht : t.length ≤ 281474976710656) :
    Calls Tryz.prog 50 #[.agg #[.slice a ps.length ca, .int .i64 y, .string ⟨t.toArray⟩]] w (FreshC w ps y t) := by
  have HS := hideO hs
  have HL := hideO hl
  clear hs hl
  go_enter Tryz.func50, Tryz.ntmps50
  have hW0 := hideO (bstep (balloc w (.cells #[.slice a ps.length ca, .int .i64 y, .string ⟨t.toArray⟩] 99)) (balloc (w.alloc (.cells #[.slice a ps.length ca, .int .i64 y, .string ⟨t.toArray⟩] 99)) (.cells #[.slice none 0 0, .int .i64 0, .string ⟨#[]⟩] 99)))
  have hT := hideO (two3 w (.slice a ps.length ca) (.int .i64 y) (.string ⟨t.toArray⟩) (.slice none 0 0) (.int .i64 0) (.string ⟨#[]⟩) 99)
  have hz : ((w.alloc (.cells #[.slice a ps.length ca, .int .i64 y, .string ⟨t.toArray⟩] 99)).alloc (.cells #[.slice none 0 0, .int .i64 0, .string ⟨#[]⟩] 99)).heap.size = w.heap.size + 2 := by simp
  go_wp2_with (at_builtin; refine wpList_append_nilZ _ rfl _ _ rfl ps a ca rfl rfl (HS.out.below hW0.out) HL.out ?_; intro ad c w1 hN; have hN1 := hideO hN; have b0 := (hN.2.2.2.block w.heap.size (by rw [hz]; omega)).trans hT.out.1; have b1 := hideO ((hN.2.2.2.block (w.heap.size + 1) (by rw [hz]; omega)).trans hT.out.2); clear hN; obtain ⟨p0, p1, p2, f0, f1, f2, z0⟩ := blk3 b0; have B0 := hideO b0; clear b0)
  have hfr : Hid (ps ≠ [] → ∀ d, ad = some d → w.heap.size + 2 ≤ d.block) := fun hne d hd => by have := hN1.out.2.2.1 hne d hd; rw [hz] at this; exact this
  have hB1 : Hid (RowKit.Below w.heap.size w (w1.setCell ⟨w.heap.size, 0, none⟩ (.slice ad ps.length c))) := ((hW0.out.trans (hN1.out.2.2.2.mono (by rw [hz]; omega)))).setCell (p := ⟨w.heap.size, 0, none⟩) (Nat.le_refl _) _
  have hS1 : Hid (SlI (w1.setCell ⟨w.heap.size, 0, none⟩ (.slice ad ps.length c)) ad ps) := hN1.out.1.off fun hne d hd e => by have := hfr.out hne d hd; omega
  have hcap : Hid (ps.length ≤ c) := hN1.out.2.1
  have d0 : (w1.setCell ⟨w.heap.size, 0, none⟩ (.slice ad ps.length c)).heap[w.heap.size]? = some (.cells #[.slice ad ps.length c, .int .i64 y, .string ⟨t.toArray⟩] 99) := by
    have := heap_setCell_same w1 w.heap.size 0 _ _ (.slice ad ps.length c) B0.out
    simpa using this
  have d1 : (w1.setCell ⟨w.heap.size, 0, none⟩ (.slice ad ps.length c)).heap[w.heap.size + 1]? = some (.cells #[.slice none 0 0, .int .i64 0, .string ⟨#[]⟩] 99) := (heap_setCell_other w1 ⟨w.heap.size, 0, none⟩ (w.heap.size + 1) _ (by simp)).trans b1.out
  clear hN1 hT HS hW0 B0 b1 hz p0 p1 p2 f0 f1 f2 z0
  generalize w1.setCell ⟨w.heap.size, 0, none⟩ (.slice ad ps.length c) = W1 at *
  obtain ⟨p0, p1, p2, f0, f1, f2, z0⟩ := blk3 d0
  have D0 := hideO d0
  have D1 := hideO d1
  clear d0 d1
  go_wp2_with (go_at_call 40; refine (SClone_any t _ ht).mono ?_; rintro e w2 ⟨rfl, hb2⟩; dsimp only; have e0 := hideO ((hb2.block w.heap.size z0).trans D0.out); have e1 := hideO ((hb2.block (w.heap.size + 1) (Array.getElem?_eq_some_iff.1 D1.out).1).trans D1.out); obtain ⟨q0, q1, q2, g0, g1, g2, y0⟩ := blk3 e0.out; obtain ⟨r0, r1, r2, h0, h1, h2, y1⟩ := blk3 e1.out; have hB2 := hideO (bstep hB1.out hb2); have hS2 := hideO (hS1.out.below hb2); clear hb2)
  have hne : w.heap.size ≠ w.heap.size + 1 := by omega
  have hne' : w.heap.size + 1 ≠ w.heap.size := by omega
  clear D0 D1 p0 p1 p2 f0 f1 f2 z0 hB1 hS1
  exact bodyPost_ret (v := .agg #[.slice ad ps.length c, .int .i64 y, .string ⟨t.toArray⟩]) (by unfold results; rw [Tryz.results50]; go_simp) rfl ⟨ad, c, rfl, by repeat (first | (with_reducible exact hS2.out) | (refine SlI.off ?_ (fun hne d hd e => by have := hfr.out hne d hd; omega))), hcap.out, fun hne d hd => by have := hfr.out hne d hd; omega, by repeat (first | (with_reducible exact hB2.out) | (refine belowQ ?_ (by omega)))⟩

/-! ### two rows of numbers -/
theorem ret_boolQ {a b : Bool} (h : a = b) : Ending.returned (.bool a) = .returned (.bool b) := by rw [h]
set_option maxHeartbeats 4000000 in
set_option maxRecDepth 100000 in
theorem QEqual_any (a b : Option Addr) (ca cb : Nat) (x y : List Int) (w : World) (hx : SlI w a x) (hy : SlI w b y) (nx : x.length ≤ maxLen) (ny : y.length ≤ maxLen) :
    Calls Tryz.prog 117 #[.slice a x.length ca, .slice b y.length cb] w fun e w' => e = .returned (.bool (decide (x = y))) ∧ RowKit.Below w.heap.size w w' := by
  have Hx := hideO hx
  have Hy := hideO hy
  unfold maxLen at nx ny
  clear hx hy
  by_cases hlen : x.length = y.length
  · have hd : ((x.length : Int) != (y.length : Int)) = false := by simp [hlen]
    have Hlen := hideO hlen
    clear hlen
    go_enter Tryz.func117, Tryz.ntmps117
    go_wp2_with fail
    go_loopw [13] (fun i wr => ∃ k : Nat, k ≤ x.length ∧ i = .int .i64 k ∧ Hid (x.take k = y.take k) ∧ RowKit.Below w.heap.size w wr) (fun i wr => x.length - (intOf i).toNat)
    case atStart => exact ⟨0, Nat.zero_le _, rfl, rfl, RowKit.Below.refl _ _⟩
    case round =>
      obtain ⟨k, hk, rfl, hs, hbr⟩ := hrel
      by_cases hlt : k < x.length
      · have hlt' : k < y.length := by have := Hlen.out; omega
        obtain ⟨p, o, rfl, c0⟩ := (Hx.out.below hbr).at hlt
        obtain ⟨q, r, rfl, c1⟩ := (Hy.out.below hbr).at hlt'
        have i0 : (0 : Int) ≤ (k : Int) := by omega
        have i1 : (k : Int) < (x.length : Int) := by omega
        have i2 : (k : Int) < (y.length : Int) := by omega
        have f1 : Hid (x[k] = y[k] → x.take (k + 1) = y.take (k + 1)) := fun h => by
          rw [List.take_succ_eq_append_getElem hlt, List.take_succ_eq_append_getElem hlt', hs.out, h]
        have f0 : Hid (x[k] ≠ y[k] → decide (x = y) = false) := fun h => by
          rw [decide_eq_false_iff_not]
          intro e
          subst e
          exact h rfl
        have hbd := hideO hbr.drew
        clear hs Hx Hy Hlen
        generalize x[k] = u at *
        generalize y[k] = v at *
        by_cases hc : u = v
        · have hcc : (u != v) = false := by simpa using hc
          have hf := hideO (f1.out hc)
          clear f0 f1 hc
          go_wp2_with fail
          go_region
          go_wp2_with fail
          go_roundw
          case rel => exact ⟨k + 1, by omega, by go_num, hf, hbd.out⟩
          case measure => simp [intOf]; omega
        · have hcc : (u != v) = true := by simpa using hc
          have hf := hideO (f0.out hc)
          clear f0 f1 hc
          go_wp2_with fail
          go_region
          go_wp2_with fail
          go_ret
          exact ⟨ret_boolQ hf.out.symm, hbd.out⟩
      · obtain rfl : k = x.length := by omega
        have hyes : Hid (decide (x = y) = true) := decide_eq_true (by
          have h1 := hs.out
          rw [List.take_length, Hlen.out, List.take_length] at h1
          exact h1)
        clear hs
        go_wp2_with fail
        go_ret
        exact ⟨ret_boolQ hyes.out.symm, hbr⟩
  · have hd : ((x.length : Int) != (y.length : Int)) = true := by simp; omega
    have hno : Hid (decide (x = y) = false) := by
      show _ = _
      rw [decide_eq_false_iff_not]
      rintro rfl
      exact hlen rfl
    go_enter Tryz.func117, Tryz.ntmps117
    go_wp2_with fail
    go_ret
    exact ⟨ret_boolQ hno.out.symm, RowKit.Below.refl _ _⟩

/-! ### the commit that is there already -/
def findP : List Cm → Int → List UInt8 → List Int → Option Nat
  | [], _, _, _ => none
  | c :: r, y, m, ps => if c.2.1 = y ∧ c.2.2 = m ∧ c.1 = ps then some 0 else (findP r y m ps).map fun k => k + 1
def hitB (c : Cm) (id : Int) (t : List UInt8) (ps : List Int) : Bool := decide (c.2.1 = id) && (decide (c.2.2 = t) && decide (c.1 = ps))
theorem hitB_iff {c : Cm} {id : Int} {t : List UInt8} {ps : List Int} : hitB c id t ps = true ↔ c.2.1 = id ∧ c.2.2 = t ∧ c.1 = ps := by unfold hitB; simp
theorem findP_at {l : List Cm} {id : Int} {t : List UInt8} {ps : List Int} {k : Nat} (hk : k < l.length) (hn : ∀ (j : Nat) (hj : j < l.length), j < k → hitB l[j] id t ps = false) (h : hitB l[k] id t ps = true) : findP l id t ps = some k := by
  induction l generalizing k with
  | nil => simp at hk
  | cons c r ih =>
    cases k with
    | zero => unfold findP; rw [if_pos (hitB_iff.1 (by simpa using h))]
    | succ n =>
      have h0 : hitB c id t ps = false := hn 0 (by simp) (by omega)
      unfold findP
      rw [if_neg (fun h' => by rw [hitB_iff.2 h'] at h0; cases h0), ih (k := n) (by simpa using hk) (fun j hj hjn => by have := hn (j + 1) (by simpa using hj) (by omega); simpa using this) (by simpa using h)]
      rfl
theorem findP_none {l : List Cm} {id : Int} {t : List UInt8} {ps : List Int} (hn : ∀ (j : Nat) (hj : j < l.length), hitB l[j] id t ps = false) : findP l id t ps = none := by
  induction l with
  | nil => rfl
  | cons c r ih =>
    have h0 : hitB c id t ps = false := hn 0 (by simp)
    unfold findP
    rw [if_neg (fun h' => by rw [hitB_iff.2 h'] at h0; cases h0), ih fun j hj => by have := hn (j + 1) (by simpa using hj); simpa using this]
    rfl
def idxI : Option Nat → Int
  | none => -1
  | some k => (k : Int)
/-- what the test looks at -/
structure FindG (W : World) (B1 B2 B3 : Nat) (id : Int) (t : List UInt8) (pd : Option Addr) (pc : Nat) (ps : List Int) : Prop where
  c1 : W.cell? ⟨B1, 0, none⟩ = some (.int .i64 id)
  c2 : W.cell? ⟨B2, 0, none⟩ = some (.string ⟨t.toArray⟩)
  c3 : W.cell? ⟨B3, 0, none⟩ = some (.slice pd ps.length pc)
  sl : SlI W pd ps
  len : ps.length ≤ maxLen
theorem FindG.below {W W' : World} {B1 B2 B3 : Nat} {id : Int} {t : List UInt8} {pd : Option Addr} {pc : Nat} {ps : List Int} (h : FindG W B1 B2 B3 id t pd pc ps) (hb : RowKit.Below W.heap.size W W') : FindG W' B1 B2 B3 id t pd pc ps :=
  ⟨(hb.cell (World.block_lt_of_cell? W _ h.c1)).trans h.c1, (hb.cell (World.block_lt_of_cell? W _ h.c2)).trans h.c2, (hb.cell (World.block_lt_of_cell? W _ h.c3)).trans h.c3, h.sl.below hb, h.len⟩

theorem eqlStrQ (a b : List UInt8) (w : World) : (binOp .eql 9 (.string ⟨a.toArray⟩) (.string ⟨b.toArray⟩)).run Tryz.prog w = .ok (.bool (decide (a = b))) w := by
  by_cases h : a = b
  · subst h; go_simp
  · have h' : ¬ (⟨a.toArray⟩ : ByteArray) = ⟨b.toArray⟩ := fun e => h (by have := congrArg (fun s : ByteArray => s.data.toList) e; simpa using this)
    go_simp
theorem eqlSelfQ (v : List UInt8) (w : World) : (binOp .eql 9 (.string ⟨v.toArray⟩) (.string ⟨v.toArray⟩)).run Tryz.prog w = .ok (.bool true) w := by rw [eqlStrQ]; simp
theorem eqlOtherQ (a b : List UInt8) (h : (a == b) = false) (w : World) : (binOp .eql 9 (.string ⟨a.toArray⟩) (.string ⟨b.toArray⟩)).run Tryz.prog w = .ok (.bool false) w := by rw [eqlStrQ]; simp at h; simp [h]
attribute [local go_sem ↓] eqlSelfQ eqlOtherQ
set_option maxHeartbeats 4000000 in
set_option maxRecDepth 100000 in
theorem Qfind1_any (W : World) (B1 B2 B3 : Nat) (id : Int) (t : List UInt8) (pd : Option Addr) (pc : Nat) (ps : List Int) (a : Option Addr) (ca : Nat) (qs : List Int) (y : Int) (m : List UInt8) (h : FindG W B1 B2 B3 id t pd pc ps) (hq : SlI W a qs) (hl : qs.length ≤ maxLen) :
    Calls Tryz.prog 116 #[.agg #[.slice a qs.length ca, .int .i64 y, .string ⟨m.toArray⟩], .pointer (some ⟨B1, 0, none⟩), .pointer (some ⟨B2, 0, none⟩), .pointer (some ⟨B3, 0, none⟩)] W fun e w' => e = .returned (.bool (hitB (qs, y, m) id t ps)) ∧ RowKit.Below W.heap.size W w' := by
  have HE := fun W' (hW : RowKit.Below W.heap.size W W') => QEqual_any a pd ca pc qs ps W' (hq.below hW) (h.sl.below hW) hl h.len
  have c1 := h.c1
  have c2 := h.c2
  have c3 := h.c3
  have z1 := World.block_lt_of_cell? _ _ c1
  have z2 := World.block_lt_of_cell? _ _ c2
  have z3 := World.block_lt_of_cell? _ _ c3
  have z1 : B1 < W.heap.size := z1
  have z2 : B2 < W.heap.size := z2
  have z3 : B3 < W.heap.size := z3
  have n1 : B1 ≠ W.heap.size := by omega
  have n2 : B2 ≠ W.heap.size := by omega
  have n3 : B3 ≠ W.heap.size := by omega
  have fin : Hid (hitB (qs, y, m) id t ps = (decide (y = id) && (decide (m = t) && decide (qs = ps)))) := rfl
  generalize hitB (qs, y, m) id t ps = v at *
  clear h hq hl
  by_cases h1 : y = id
  · subst h1
    by_cases h2 : m = t
    · subst h2
      generalize decide (qs = ps) = d at *
      go_enter Tryz.func116, Tryz.ntmps116
      go_wp2_with (go_at_call 117; refine (HE _ (balloc _ _)).mono ?_; rintro e w1 ⟨rfl, hb1⟩; dsimp only)
      go_ret
      exact ⟨ret_boolQ (by rw [fin.out]; simp), bstep (balloc _ _) hb1⟩
    · have h2' : (m == t) = false := by simpa using h2
      clear HE
      go_enter Tryz.func116, Tryz.ntmps116
      go_wp2_with fail
      go_ret
      exact ⟨ret_boolQ (by rw [fin.out]; simp [h2]), balloc _ _⟩
  · have h1' : (y == id) = false := by simpa using h1
    clear HE
    go_enter Tryz.func116, Tryz.ntmps116
    go_wp2_with fail
    go_ret
    exact ⟨ret_boolQ (by rw [fin.out]; simp [h1]), balloc _ _⟩
theorem entersFind : ∀ args w, (callFunc 116 args).run Tryz.prog w = .ok (.enter 116 args) w := enters_of Tryz.func116 (by kernel_rfl) rfl
end Go.Proofs.YtpomdoelihmebaaGreatDoor

/- A repo's commits and its objects: each commit's layer is the object of what has changed from its first parent's graph. -/
namespace Go.Proofs.YtpomdoelihmebaaGreatDoor
open Go Go.RowKit Go.Proofs
set_option synthInstance.maxSize 1000

def Linked (R : Rp) : Prop := ∀ (i : Nat) (c : Cm) (g : List Tr), R.coms[i]? = some c → R.gr[i]? = some g → getO R.L c.2.1 = some (bytesR R c.1 g)
theorem linked_empty : Linked emptyR := fun i c g h => by simp [emptyR] at h
theorem bytes_from {R R' : Rp} {ps : List Int} (h : fromR R' ps = fromR R ps) (s : List Tr) : bytesR R' ps s = bytesR R ps s := by unfold bytesR; rw [h]
theorem from_eq {R R' : Rp} (h : R'.gr = R.gr) (ps : List Int) : fromR R' ps = fromR R ps := by unfold fromR; rw [h]
/-- branches alone have turned -/
theorem Linked.same {R R' : Rp} (h : Linked R) (h1 : R'.L = R.L) (h2 : R'.coms = R.coms) (h3 : R'.gr = R.gr) : Linked R' := fun i c g hc hg => by
  rw [h2] at hc
  rw [h3] at hg
  rw [h1, bytes_from (from_eq h3 c.1)]
  exact h i c g hc hg
theorem Linked.lead {R : Rp} (h : Linked R) (b : List UInt8) (t : Nat) : Linked (leadTo R b t) := h.same rfl rfl rfl

theorem pfrom_set {R : Rp} (h : GoodR R) (ps : List Int) : IsSet (fromR R ps) := by
  unfold fromR
  cases ps with
  | nil => exact isSet_nil
  | cons p r =>
    dsimp only
    cases hg : R.gr[p.toNat]? with
    | none => exact isSet_nil
    | some g => exact h.sets g (List.mem_of_getElem? hg)
/-- what has changed tells what came of it -/
theorem bytes_inj {f g s : List Tr} (sf : IsSet f) (sg : IsSet g) (ss : IsSet s) (h : encS (lessL g f) ++ encS (lessL f g) = encS (lessL s f) ++ encS (lessL f s)) : g = s := by
  obtain ⟨_, a1, d1⟩ := back_layer (btw_check sf sg)
  obtain ⟨_, a2, d2⟩ := back_layer (btw_check sf ss)
  rw [h, a2] at a1
  rw [h, d2] at d1
  refine apply_btw_ans sf ss (m := g) ⟨fun _ => ?_, fun hne => absurd (apply_btw sf ss) hne⟩
  have := there (a := f) sg
  rw [← a1, ← d1] at this
  exact this
theorem put_old {n : Nat} {L : List Ob} {b t : List UInt8} {z : Int} (hg : GoodO n L) (h : getO L z = some t) : getO (putL n L b) z = some t := by
  unfold putL
  split
  · exact h
  · split
    · exact h
    · rw [getO_snoc fun x hx => (hg.low x hx).2]
      split
      · rename_i e
        obtain ⟨x, hx, e1, _⟩ := getO_some h
        have := hg.low x hx
        omega
      · exact h
theorem find_get {n : Nat} {L : List Ob} {b : List UInt8} (hg : GoodO n L) (h : findO L b ≠ 0) : getO L (findO L b : Int) = some b := by
  obtain ⟨x, hx, rfl⟩ := (findO_mem fun y hy => (hg.low y hy).1).1 h
  rw [findO_in hg.once hx]
  exact getO_mem hg.rise hx
theorem get_find {n : Nat} {L : List Ob} {b : List UInt8} {z : Int} (hg : GoodO n L) (h : getO L z = some b) : (findO L b : Int) = z ∧ findO L b ≠ 0 := by
  obtain ⟨x, hx, e1, rfl⟩ := getO_some h
  have := hg.low x hx
  rw [findO_in hg.once hx]
  exact ⟨e1, by omega⟩
theorem put_new {n : Nat} {L : List Ob} {b : List UInt8} (hg : GoodO n L) (he : putE L b = 0) : getO (putL n L b) (putI n L b : Int) = some b := by
  unfold putE at he
  unfold putL putI
  by_cases h0 : findO L b ≠ 0
  · simp only [if_pos h0]
    exact find_get hg h0
  · simp only [if_neg h0] at he ⊢
    by_cases h1 : fullO L b = true
    · rw [if_pos h1] at he; cases he
    · simp only [if_neg h1]
      rw [getO_snoc fun x hx => (hg.low x hx).2, if_pos rfl]
theorem range_par {c : Cm} {i : Nat} (h : comN c i = 0) : ∀ p ∈ c.1, 0 ≤ p ∧ p < (i : Int) := by
  unfold comN at h
  split at h
  · cases h
  · split at h
    · cases h
    · rename_i h2
      have : rangeB c.1 i = true := by simpa using h2
      unfold rangeB at this
      rw [List.all_eq_true] at this
      intro p hp
      simpa using this p hp
theorem from_more {R : Rp} {ps : List Int} {s : List Tr} (h : ∀ p ∈ ps, 0 ≤ p ∧ p < (R.gr.length : Int)) (n : Nat) (L : List Ob) (cs : List Cm) (rf : List Rf) : fromR ⟨n, L, cs, R.gr ++ [s], rf⟩ ps = fromR R ps := by
  unfold fromR
  cases ps with
  | nil => rfl
  | cons p r =>
    dsimp only
    have := h p (by simp)
    rw [List.getElem?_append_left (by omega)]
theorem Linked.add {R : Rp} (hl : Linked R) (h : GoodR R) {ps : List Int} {s : List Tr} {m : List UInt8} (hp : okPar R.coms.length ps) : Linked (addR R ps s m) := by
  unfold addR
  split
  · exact hl
  · split
    · exact hl
    · rename_i h60
      split
      · exact hl
      · rename_i he
        have he0 : putE R.L (bytesR R ps s) = 0 := Classical.byContradiction he
        have hlen := h.len
        intro i c g hc hg
        dsimp only at hc hg ⊢
        by_cases hi : i < R.coms.length
        · rw [List.getElem?_append_left hi] at hc
          rw [List.getElem?_append_left (by omega)] at hg
          have hr : ∀ p ∈ c.1, 0 ≤ p ∧ p < (R.gr.length : Int) := fun p hp' => by
            have e : c = R.coms[i] := (List.getElem?_eq_some_iff.1 hc).2.symm
            have := range_par (h.coms.2 i hi) p (by rw [← e]; exact hp')
            omega
          rw [bytes_from (from_more hr _ _ _ _)]
          exact put_old h.store (hl i c g hc hg)
        · have hlt : i < (R.coms ++ [(ps, (putI R.n R.L (bytesR R ps s) : Int), m)]).length := (List.getElem?_eq_some_iff.1 hc).1
          simp at hlt
          obtain rfl : i = R.coms.length := by omega
          rw [List.getElem?_append_right (Nat.le_refl _)] at hc
          rw [← hlen, List.getElem?_append_right (Nat.le_refl _)] at hg
          simp at hc hg
          subst hc hg
          dsimp only
          rw [bytes_from (from_more (fun p hp' => by have := hp.2.1 p hp'; omega) _ _ _ _)]
          exact put_new h.store he0

/-! ### the commit that is there already -/
theorem findC_findP {cl : List Cm} {gl : List (List Tr)} {ps : List Int} {s : List Tr} {m : List UInt8} {y : Int} (hlen : gl.length = cl.length) (h : ∀ (i : Nat) (c : Cm) (g : List Tr), cl[i]? = some c → gl[i]? = some g → ((c.2.2 = m ∧ c.1 = ps ∧ g = s) ↔ (c.2.1 = y ∧ c.2.2 = m ∧ c.1 = ps))) : findC cl gl ps s m = findP cl y m ps := by
  induction cl generalizing gl with
  | nil => cases gl <;> rfl
  | cons c r ih =>
    cases gl with
    | nil => simp at hlen
    | cons g gr =>
      unfold findC findP
      have h0 := h 0 c g rfl rfl
      have := ih (gl := gr) (by simpa using hlen) fun i c' g' h1 h2 => h (i + 1) c' g' (by simpa using h1) (by simpa using h2)
      rw [this]
      by_cases hq : c.2.2 = m ∧ c.1 = ps ∧ g = s
      · rw [if_pos hq, if_pos (h0.1 hq)]
      · rw [if_neg hq, if_neg (fun h' => hq (h0.2 h'))]
theorem pfindC_none {cl : List Cm} {gl : List (List Tr)} {ps : List Int} {s : List Tr} {m : List UInt8} (h : ∀ (i : Nat) (c : Cm) (g : List Tr), cl[i]? = some c → gl[i]? = some g → ¬ (c.2.2 = m ∧ c.1 = ps ∧ g = s)) : findC cl gl ps s m = none := by
  induction cl generalizing gl with
  | nil => cases gl <;> rfl
  | cons c r ih =>
    cases gl with
    | nil => rfl
    | cons g gr =>
      unfold findC
      rw [if_neg (h 0 c g rfl rfl), ih fun i c' g' h1 h2 => h (i + 1) c' g' (by simpa using h1) (by simpa using h2)]
      rfl
theorem find_link {R : Rp} (hl : Linked R) (h : GoodR R) {ps : List Int} {s : List Tr} {m : List UInt8} (hs : IsSet s) :
    findC R.coms R.gr ps s m = if findO R.L (bytesR R ps s) = 0 then none else findP R.coms (findO R.L (bytesR R ps s) : Int) m ps := by
  split
  · rename_i h0
    refine pfindC_none fun i c g hc hg => ?_
    rintro ⟨_, rfl, rfl⟩
    exact (get_find h.store (hl i c g hc hg)).2 h0
  · rename_i h0
    refine findC_findP h.len fun i c g hc hg => ?_
    constructor
    · rintro ⟨e1, rfl, rfl⟩
      exact ⟨(get_find h.store (hl i c g hc hg)).1.symm, e1, rfl⟩
    · rintro ⟨e1, e2, rfl⟩
      refine ⟨e2, rfl, ?_⟩
      have k1 := hl i c g hc hg
      rw [e1, find_get h.store h0] at k1
      have k2 : bytesR R c.1 s = bytesR R c.1 g := Option.some.inj k1
      exact (bytes_inj (pfrom_set h c.1) hs (h.sets g (List.mem_of_getElem? hg)) k2).symm
/-- a commit's bytes are short, and they are read as they were -/
theorem bytes_read {R : Rp} (h : GoodR R) {ps : List Int} {g : List Tr} (hg : IsSet g) : readLayN (bytesR R ps g) = 0 ∧ readLayA (bytesR R ps g) = lessL g (fromR R ps) ∧ readLayD (bytesR R ps g) = lessL (fromR R ps) g := back_layer (btw_check (pfrom_set h ps) hg)
theorem bytes_short {R : Rp} (h : GoodR R) {ps : List Int} {g : List Tr} (hg : IsSet g) : (bytesR R ps g).length ≤ 40000 := by
  have h1 := encS_len (lessSet (b := fromR R ps) hg)
  have h2 := encS_len (lessSet (b := g) (pfrom_set h ps))
  unfold bytesR
  rw [List.length_append]
  omega
end Go.Proofs.YtpomdoelihmebaaGreatDoor

/- store's hasRoom: whether one more may come. -/
namespace Go.Proofs.YtpomdoelihmebaaGreatDoor
open Go Go.RowKit Go.Proofs Go.Maps
set_option synthInstance.maxSize 1000

/-- who comes in a range over the objects is one of them -/
theorem came_in {D : DataW Unit} {L : List Ob} (f : ObjD D L) {x : Int} (hw : (Lit.int .i64 x).wf = true) {c : List UInt8} (hat : ∀ zd, D.atKey (.int .i64 x) zd = encOb c) : getO L x = some c := by
  have h1 := (f x hw).1
  have h2 := (f x hw).2
  rw [hat] at h2
  cases hg : getO L x with
  | some b =>
    rw [hg] at h2
    rw [encOb_inj h2]
    rfl
  | none =>
    exfalso
    rw [hg] at h1
    have q1 := Maps.atKey_of_not_has h1 (encOb [])
    have q2 := Maps.atKey_of_not_has h1 (encOb [0])
    rw [hat] at q1 q2
    have := encOb_inj (q1.symm.trans q2)
    cases this
theorem at_in {D : DataW Unit} {L : List Ob} (f : ObjD D L) {key : Value} {kl : Lit} (hkey : keyOf Tryz.prog 3 key = some kl) {x : Int} (hx : key = .int .i64 x) {c : List UInt8} {yd : DataW Unit} {yp : List MemPlace} (hv : objElem (.agg #[.string ⟨c.toArray⟩]) = some (yd, yp)) (hat : ∀ zd, D.atKey kl zd = yd) :
    ∃ k : Nat, x = (k : Int) ∧ (k, c) ∈ L ∧ kl = kO (k, c) ∧ (kO (k, c)).wf = true := by
  subst hx
  obtain ⟨x', e, rfl, hw⟩ := Maps.keyOf_int_inv Tryz.underlying3 hkey
  cases e
  have hv' : some (encOb c, []) = some (yd, yp) := (objElem_mk c).symm.trans hv
  simp only [Option.some.injEq, Prod.mk.injEq] at hv'
  obtain ⟨rfl, rfl⟩ := hv'
  obtain ⟨y, hy, e1, e2⟩ := getO_some (came_in f hw hat)
  subst e2
  refine ⟨y.1, e1.symm, hy, ?_, ?_⟩
  · unfold kO; rw [e1]
  · unfold kO; rw [e1]; exact hw

theorem wrapSum (a b c : Nat) : RowKit.wrap64 (wr64 ((a + b : Nat) : Int) + (c : Int)) = wr64 ((a + (b + c) : Nat) : Int) := by
  simp only [RowKit.wrap64]
  rw [show ((a + (b + c) : Nat) : Int) = ((a + b : Nat) : Int) + (c : Int) by omega]
  exact wr64_add _ _
set_option maxHeartbeats 4000000 in
set_option maxRecDepth 100000 in
theorem Sroom_any (w : World) (s b1 b2 n : Nat) (L : List Ob) (b : List UInt8) (h : SAt w s b1 b2 n L) (hg : GoodO n L) (hb : b.length ≤ reachBytes) :
    Calls Tryz.prog 118 #[.pointer (some ⟨s, 0, none⟩), .string ⟨b.toArray⟩] w fun e w' => e = .returned (.bool (!fullO L b)) ∧ RowKit.Below w.heap.size w w' := by
  have H : Hid (SAt w s b1 b2 n L) := h
  have hlt := h.lts
  have hl2 := h.lt2
  have c1 := h.c1
  obtain ⟨D1, D2, o1, o2, f1, f2, hsz⟩ := h.two
  have F2 : Hid (ObjD D2 L) := f2
  have HG : Hid (GoodO n L) := hg
  unfold reachBytes at hb
  clear h o1 f1 f2 hsz hg
  go_enter Tryz.func118, Tryz.ntmps118
  go_wp2_with (at_range; refine wpList_range_own _ rfl _ 106 rfl 3 130 keyedIO Tryz.underlying106 objElem b2 n D2 rfl o2 ?_; intro w0 hrg0 hg0 hs0)
  go_frame
  go_loopw [5] (fun z wr => ∃ (left : Lit → Bool) (cnt : Nat) (u : Int), wr.ranges Tryz.prog 3 objElem b2 w.heap.size n D2 left cnt ∧ z = .int .i64 u ∧ Hid (u = wr64 (b.length + cameO L left : Nat)) ∧ RowKit.Below w.heap.size w wr)
    (fun _ wr => wr.rangeLeft b2 w.heap.size)
  case atStart =>
    refine ⟨_, _, _, hrg0, rfl, ?_, (RowKit.Below.refl _ w).grown hg0 (Nat.le_refl _) (fun k e => by cases e)⟩
    show _ = _
    rw [cameO_start fun x hx => ?_, wr64_id (by omega) (by omega)]
    · rfl
    · have hx' := HG.out.low x hx
      have hbig := H.out.big
      rw [show kO x = .int .i64 (x.1 : Int) from rfl, (F2.out _ (wfO (by omega) (by omega))).1]
      exact getO_isSome.2 ⟨x, hx, rfl⟩
  case round =>
    obtain ⟨left, cnt, u, hrg, rfl, hu, hbr⟩ := hrel
    go_wp2_with (at_next; refine wpList_next_ranges _ rfl _ rfl 3 keyedIO objElem (fun x : Int => .int .i64 x) (fun c : List UInt8 => .agg #[.string ⟨c.toArray⟩]) (fun key kl hk => by obtain ⟨x, hx, _⟩ := Maps.keyOf_int_inv Tryz.underlying3 hk; exact ⟨x, hx⟩) (fun v y hy => by obtain ⟨c, hc, _⟩ := objElem_form hy; exact ⟨c, hc⟩) b2 w.heap.size n D2 left cnt rfl hrg ?_ ?_)
    · intro hc0 hl0
      have HS := H.out.below hbr
      have HL := SLen_any _ s b1 b2 n L HS
      have hfin : Hid ((!fullO L b) = (decide ((L.length : Int) < 300) && decide (u ≤ 60000))) := by
        have hz := hu.out
        rw [cameO_end hl0] at hz
        show _ = _
        unfold fullO
        rw [← hz]
        by_cases q1 : (L.length : Int) < 300
        · by_cases q2 : u ≤ 60000
          · rw [decide_eq_true q1, decide_eq_true q2, decide_eq_false (by omega)]; rfl
          · rw [decide_eq_true q1, decide_eq_false q2, decide_eq_true (by omega)]; rfl
        · rw [decide_eq_false q1, decide_eq_true (by omega)]; rfl
      clear HS hrg hu
      by_cases q1 : (L.length : Int) < 300
      · go_wp2_with (go_at_call 152; refine HL.mono ?_; rintro e w' ⟨rfl, rfl⟩; dsimp only)
        go_ret
        refine ⟨?_, hbr⟩
        rw [hfin.out, decide_eq_true q1]
        simp
      · go_wp2_with (go_at_call 152; refine HL.mono ?_; rintro e w' ⟨rfl, rfl⟩; dsimp only)
        go_ret
        refine ⟨?_, hbr⟩
        rw [hfin.out, decide_eq_false (show ¬ ((L.length : Int) < 300) by omega)]
        simp
    · intro x c kl yd yp w2 cnt2 hkey hlk hv hat hrg2 hlt2 hg2 hs2 hen
      obtain ⟨k, rfl, hk, rfl, hw⟩ := at_in F2.out hkey rfl hv hat
      have hstep := cameO_step HG.out.rise hk hw hlk
      have hb3 := bstep (hbr.grown hg2 hbr.size (fun j e => by cases e; exact Nat.le_refl _)) (balloc w2 (.cells #[.string ⟨c.toArray⟩] 130))
      have hrg3 := hrg2.alloc (.cells #[.string ⟨c.toArray⟩] 130)
      have hle := hrg.left_eq
      clear hs2 hkey hat hv hrg hg2 hrg2
      go_wp2_with fail
      go_roundw
      case rel =>
        refine ⟨_, cnt2, _, hrg3, rfl, ?_, hb3⟩
        show _ = _
        rw [hstep, hu.out]
        exact wrapSum _ _ _
      case measure => rw [hrg3.left_eq, hle]; exact hlt2
end Go.Proofs.YtpomdoelihmebaaGreatDoor

/- store's Put. -/
namespace Go.Proofs.YtpomdoelihmebaaGreatDoor
open Go Go.RowKit Go.Proofs Go.Maps
set_option synthInstance.maxSize 1000

theorem Offs.blk {O : Nat → Prop} {w w' : World} {b : Nat} (hg : w.grownBy w' (some b)) (hb : O b) : Offs O w w' := Offs.of_grown hg fun k e => by cases e; exact hb
theorem Offs.set {O : Nat → Prop} {w : World} {p : Addr} {v : Value} (hp : O p.block) : Offs O w (w.setCell p v) :=
  ⟨rfl, rfl, rfl, by simp, fun k _ hO => heap_setCell_other _ _ _ _ fun e => hO (e ▸ hp)⟩

set_option maxHeartbeats 4000000 in
set_option maxRecDepth 100000 in
theorem SPut_any (w : World) (s b1 b2 n : Nat) (L : List Ob) (b : List UInt8) (h : SAt w s b1 b2 n L) (hg : GoodO n L) (hn : n ≤ 1000000) (hb : b.length ≤ reachBytes) :
    Calls Tryz.prog 82 #[.pointer (some ⟨s, 0, none⟩), .string ⟨b.toArray⟩] w fun e w' => e = .returned (.tuple #[.int .i64 (putI n L b : Int), errV (putE L b)]) ∧ SAt w' s b1 b2 (putM n L b) (putL n L b) ∧ Offs (ownO s b1 b2) w w' := by
  have hml : b.length ≤ maxLen := by unfold reachBytes at hb; unfold maxLen; omega
  have hcl : b.length ≤ 281474976710656 := by unfold reachBytes at hb; omega
  have hlk := look_num h b hml
  have H : Hid (SAt w s b1 b2 n L) := h
  have HG : Hid (GoodO n L) := hg
  have hlt := h.lts
  have c0 := h.c0
  by_cases hf : findO L b ≠ 0
  · have e1 : putI n L b = findO L b := if_pos hf
    have e2 : putE L b = 0 := if_pos hf
    have e3 : putM n L b = n := if_pos hf
    have e4 : putL n L b = L := if_pos hf
    rw [e1, e2, e3, e4]
    rw [decide_eq_true hf] at hlk
    clear e1 e2 e3 e4 hf h hg HG hb hml hcl
    generalize findO L b = k at *
    go_enter Tryz.func82, Tryz.ntmps82
    go_wp2_with fail
    exact bodyPost_ret (v := .tuple #[.int .i64 (k : Int), .nilIface]) (by unfold results; rw [Tryz.results82]; go_simp) rfl ⟨rfl, H.out, Offs.of_below (RowKit.Below.refl _ w)⟩
  · have hf0 : findO L b = 0 := by simpa using hf
    have e1 : putI n L b = if fullO L b = true then 0 else n + 1 := if_neg hf
    have e2 : putE L b = if fullO L b = true then 4 else 0 := if_neg hf
    have e3 : putM n L b = if fullO L b = true then n else n + 1 := if_neg hf
    have e4 : putL n L b = if fullO L b = true then L else L ++ [(n + 1, b)] := if_neg hf
    rw [e1, e2, e3, e4]
    rw [hf0] at hlk
    have hroom := Sroom_any w s b1 b2 n L b h hg hb
    have HF : Hid (findO L b = 0) := hf0
    have HB : Hid (b.length ≤ reachBytes) := hb
    clear e1 e2 e3 e4 hf hf0 h hg hb
    cases hfull : fullO L b with
    | true =>
      rw [hfull] at hroom
      simp only [if_true]
      clear hfull
      go_enter Tryz.func82, Tryz.ntmps82
      go_wp2_with (go_at_call 118; refine hroom.mono ?_; rintro e w1 ⟨rfl, hb1⟩; dsimp only)
      exact bodyPost_ret (v := .tuple #[.int .i64 0, .iface 75 (.int .i64 4)]) (by unfold results; rw [Tryz.results82]; go_simp) rfl ⟨rfl, H.out.below hb1, Offs.of_below hb1⟩
    | false =>
      rw [hfull] at hroom
      simp only [Bool.false_eq_true, if_false]
      clear hfull
      have c2 : ∀ W, RowKit.Below w.heap.size w W → W.cell? ⟨s, 2, none⟩ = some (.int .i64 (n : Int)) ∧ W.frozen? ⟨s, 2, none⟩ = false := fun W hW => ⟨(H.out.below hW).c2, (H.out.below hW).fz⟩
      go_enter Tryz.func82, Tryz.ntmps82
      go_wp2_with (first
        | (go_at_call 118; refine hroom.mono ?_; rintro e w1 ⟨rfl, hb1⟩; dsimp only)
        | (go_at_call 40; refine (SClone_any b _ hcl).mono ?_; rintro e w2 ⟨rfl, hb2⟩; dsimp only
           have hbW := bstep hb1 hb2
           obtain ⟨cc2, cf2⟩ := c2 _ hbW
           have hlt2 : s < w2.heap.size := by have := hbW.size; omega))
      clear hlk hroom c2 cc2 cf2 c0 hb1 hb2
      have HS := H.out.below hbW
      have hO : Offs (ownO s b1 b2) w (w2.setCell ⟨s, 2, none⟩ (.int .i64 ((n : Int) + 1))) := (Offs.of_below hbW).trans (Offs.set (O := ownO s b1 b2) (Or.inl rfl)) fun _ h => Or.inl h
      have k0 : (w2.setCell ⟨s, 2, none⟩ (.int .i64 ((n : Int) + 1))).cell? ⟨s, 0, none⟩ = some (.map (some b1)) := by rw [World.cell?_setCell_other _ _ _ _ (by simp)]; exact HS.c0
      have k1 : (w2.setCell ⟨s, 2, none⟩ (.int .i64 ((n : Int) + 1))).cell? ⟨s, 1, none⟩ = some (.map (some b2)) := by rw [World.cell?_setCell_other _ _ _ _ (by simp)]; exact HS.c1
      have k2 : (w2.setCell ⟨s, 2, none⟩ (.int .i64 ((n : Int) + 1))).cell? ⟨s, 2, none⟩ = some (.int .i64 ((n : Int) + 1)) := World.cell?_setCell_same _ _ _ HS.c2
      have kf : (w2.setCell ⟨s, 2, none⟩ (.int .i64 ((n : Int) + 1))).frozen? ⟨s, 2, none⟩ = false := by rw [World.frozen?_setCell]; exact HS.fz
      obtain ⟨D1, D2, o1, o2, f1, f2, hs⟩ := HS.two
      have p1 := o1.setCell (a := ⟨s, 2, none⟩) (Ne.symm HS.n1) (.int .i64 ((n : Int) + 1))
      have p2 := o2.setCell (a := ⟨s, 2, none⟩) (Ne.symm HS.n2) (.int .i64 ((n : Int) + 1))
      clear o1 o2
      generalize w2.setCell ⟨s, 2, none⟩ (.int .i64 ((n : Int) + 1)) = W at *
      have hzW : s < W.heap.size := World.block_lt_of_cell? W _ k0
      have hw1 : (Lit.int .i64 ((n : Int) + 1)).wf = true := wfO (by omega) (by omega)
      obtain ⟨W4, hr4, o14, g4⟩ := World.ownsMap.update (w := W.drew) p1.drew keyedSO Tryz.underlying71 (by unfold maxLen; omega) (keyS b hml) (plainElem_int Tryz.underlying3 hw1)
      have o24 := (World.ownsMap.drew p2).kept g4 (by simp; exact Ne.symm HS.ne)
      obtain ⟨W5, hr5, o25, g5⟩ := World.ownsMap.update (w := W4.drew) o24.drew keyedIO Tryz.underlying106 (by unfold maxLen; omega) (keyN hw1) (objElem_mk b)
      have o15 := (World.ownsMap.drew o14).kept g5 (by simp; exact HS.ne)
      have q4 : W4.heap[s]? = W.heap[s]? := g4.block s hzW (by simp; exact HS.n1)
      have q5 : W5.heap[s]? = W.heap[s]? := (g5.block s (Nat.lt_of_lt_of_le hzW g4.size) (by simp; exact HS.n2)).trans q4
      have z4 : s < W4.heap.size := Nat.lt_of_lt_of_le hzW g4.size
      have z5 : s < W5.heap.size := Nat.lt_of_lt_of_le z4 g5.size
      have hfin : Hid (SAt W5 s b1 b2 (n + 1) (L ++ [(n + 1, b)])) := by
        have ft := o24.tidy keyedIO
        refine ⟨HS.ne, HS.n1, HS.n2, (World.cell?_of_block (w := W) q5).trans k0, (World.cell?_of_block (w := W) q5).trans k1, (World.cell?_of_block (w := W) q5).trans k2, (World.frozen?_of_block (w := W) q5).trans kf, ⟨_, _, o15, o25, ?_, ?_, ?_⟩, ?_, by omega⟩
        · exact f1.put p1.isMap HF.out (fun x hx => (HG.out.low x hx).1) hml
        · exact f2.put p2.isMap fun x hx => (HG.out.low x hx).2
        · exact f2.size_put ft (fun x hx => (HG.out.low x hx).2) hn hs
        · intro x hx
          rcases List.mem_append.1 hx with hx | hx
          · exact HS.short x hx
          · simp at hx; subst hx; exact HB.out
      have hoff : Hid (Offs (ownO s b1 b2) w W5) := by
        have a1 : Offs (ownO s b1 b2) W W4 := (Offs.of_below (RowKit.Below.refl _ W).drew).trans (Offs.blk (O := ownO s b1 b2) g4 (Or.inr (Or.inl rfl))) fun _ h => Or.inl h
        have a2 : Offs (ownO s b1 b2) W4 W5 := (Offs.of_below (RowKit.Below.refl _ W4).drew).trans (Offs.blk (O := ownO s b1 b2) g5 (Or.inr (Or.inr rfl))) fun _ h => Or.inl h
        exact (hO.trans a1 fun _ h => Or.inl h).trans a2 fun _ h => Or.inl h
      have d1 : W4.cell? ⟨s, 1, none⟩ = some (.map (some b2)) := (World.cell?_of_block (w := W) q4).trans k1
      have d2 : W4.cell? ⟨s, 2, none⟩ = some (.int .i64 ((n : Int) + 1)) := (World.cell?_of_block (w := W) q4).trans k2
      have d5 : W5.cell? ⟨s, 2, none⟩ = some (.int .i64 ((n : Int) + 1)) := (World.cell?_of_block (w := W) q5).trans k2
      clear o14 o24 o25 o15 g4 g5 q4 q5 p1 p2 f1 f2 hs HS hO hbW HF HB HG H hml hcl k1 kf hw1 hlt2
      unfold valOb at hr5
      go_region
      go_wp2_with fail
      go_region
      go_wp2_with fail
      exact bodyPost_ret (v := .tuple #[.int .i64 ((n + 1 : Nat) : Int), .nilIface]) (by unfold results; rw [Tryz.results82]; go_simp) rfl ⟨rfl, hfin.out, hoff.out⟩
end Go.Proofs.YtpomdoelihmebaaGreatDoor

/- The program's store keeps the face's contracts. -/
namespace Go.Proofs.YtpomdoelihmebaaGreatDoor
open Go Go.RowKit Go.Proofs Go.Maps
set_option synthInstance.maxSize 1000

def theFace : Face := {
  lim := reachBytes
  At := StoreAt
  own := by
    rintro w s O n L ⟨b1, b2, h, hO⟩ j hj
    rcases (hO j).1 hj with rfl | rfl | rfl
    · exact h.lts
    · exact h.lt1
    · exact h.lt2
  keep := by
    rintro w w' s O n L ⟨b1, b2, h, hO⟩ hk
    exact ⟨b1, b2, h.kept (hk _ ((hO _).2 (Or.inl rfl))) (hk _ ((hO _).2 (Or.inr (Or.inl rfl)))) (hk _ ((hO _).2 (Or.inr (Or.inr rfl)))), hO⟩
  new := by
    intro w
    refine (SNew_any w).mono ?_
    rintro e w' ⟨rfl, h, hb⟩
    refine ⟨_, ownO (w.heap.size + 2) w.heap.size (w.heap.size + 1), rfl, ⟨_, _, h, fun _ => Iff.rfl⟩, hb, fun j hj => ?_⟩
    rcases hj with rfl | rfl | rfl <;> omega
  put := by
    rintro w s O n L b ⟨b1, b2, h, hO⟩ hg hn hb
    refine (SPut_any w s b1 b2 n L b h hg hn hb).mono ?_
    rintro e w' ⟨rfl, h', ho⟩
    exact ⟨rfl, O, ⟨b1, b2, h', hO⟩, ho.mono fun j hj => Or.inl ((hO j).2 hj), fun j hj => Or.inl hj⟩
  get := by
    rintro w s O n L id ⟨b1, b2, h, hO⟩ hg
    exact SGet_any w s b1 b2 n L id h hg.low
  find := by
    rintro w s O n L b ⟨b1, b2, h, hO⟩ hg hb
    exact SFind_any w s b1 b2 n L b h (by unfold reachBytes at hb; unfold maxLen; omega)
  len := by
    rintro w s O n L ⟨b1, b2, h, hO⟩ hg
    refine (SLen_any w s b1 b2 n L h).mono ?_
    rintro e w' ⟨rfl, rfl⟩
    exact ⟨rfl, RowKit.Below.refl _ _⟩
}
theorem theFace_lim : theFace.lim = reachBytes := rfl
end Go.Proofs.YtpomdoelihmebaaGreatDoor

/- The program's repo in memory: its store, its commits, its branches by name. -/
namespace Go.Proofs.YtpomdoelihmebaaGreatDoor
open Go Go.RowKit Go.Proofs Go.Maps
set_option synthInstance.maxSize 1000

/-! ### branches in a map -/
theorem patR_some {l : List Rf} {b : List UInt8} (h : 0 ≤ atR l b) : ∃ n : Nat, atR l b = (n : Int) := ⟨(atR l b).toNat, by omega⟩
theorem patR_none {l : List Rf} {b : List UInt8} (h : ¬ 0 ≤ atR l b) : atR l b = -1 := by have := atR_ge l b; omega
theorem patR_lead {l : List Rf} (hl : ByName l) (b : List UInt8) (t : Nat) (x : List UInt8) : atR (leadR l b t) x = if x = b then (t : Int) else atR l x := by
  split
  · rename_i e
    subst e
    exact (atR_mem (hl.lead x t)).2 (mem_lead.2 (Or.inl rfl))
  · rename_i e
    by_cases h0 : 0 ≤ atR l x
    · obtain ⟨n, hn⟩ := patR_some h0
      rw [hn]
      exact (atR_mem (hl.lead b t)).2 (mem_lead.2 (Or.inr ⟨(atR_mem hl).1 hn, e⟩))
    · rw [patR_none h0]
      refine patR_none fun h1 => ?_
      have hno := atR_neg.1 (show atR l x < 0 by omega)
      have : atR (leadR l b t) x < 0 := atR_neg.2 fun y hy hx => by
        rcases mem_lead.1 hy with rfl | ⟨h2, _⟩
        · exact e hx.symm
        · exact hno y h2 hx
      omega
theorem patR_drop {l : List Rf} (hl : ByName l) (b x : List UInt8) : atR (dropL l b) x = if x = b then -1 else atR l x := by
  split
  · rename_i e
    subst e
    refine patR_none fun h1 => ?_
    have : atR (dropL l x) x < 0 := atR_neg.2 fun y hy => by simpa using (List.mem_filter.1 hy).2
    omega
  · rename_i e
    by_cases h0 : 0 ≤ atR l x
    · obtain ⟨n, hn⟩ := patR_some h0
      rw [hn]
      exact (atR_mem (hl.drop b)).2 (List.mem_filter.2 ⟨(atR_mem hl).1 hn, by simpa using e⟩)
    · rw [patR_none h0]
      refine patR_none fun h1 => ?_
      have hno := atR_neg.1 (show atR l x < 0 by omega)
      have : atR (dropL l b) x < 0 := atR_neg.2 fun y hy => hno y (List.mem_filter.1 hy).1
      omega
theorem pdrop_one {l : List Rf} (hl : ByName l) {b : List UInt8} (h : 0 ≤ atR l b) : (dropL l b).length + 1 = l.length := by
  induction l with
  | nil => simp [atR] at h
  | cons x r ih =>
    obtain ⟨h1, h2⟩ := List.pairwise_cons.1 hl
    unfold dropL
    rw [List.filter_cons]
    by_cases e : x.1 = b
    · rw [if_neg (by simpa using e)]
      have : (r.filter fun x => decide (x.1 ≠ b)) = r := List.filter_eq_self.2 fun y hy => by
        have h9 := h1 y hy
        simp only [decide_eq_true_eq]
        rintro rfl
        rw [e] at h9
        exact List.lt_irrefl _ h9
      rw [this]
      rfl
    · rw [if_pos (by simpa using e)]
      unfold atR at h
      rw [if_neg e] at h
      have := ih h2 h
      unfold dropL at this
      simp only [List.length_cons]
      omega
def brI (l : List Rf) (t : List UInt8) : Int := if 0 ≤ atR l t then atR l t else 0
def BrD (D : DataW Unit) (l : List Rf) : Prop := ∀ t : List UInt8, t.length ≤ maxLen → Maps.has D (.string t) = decide (0 ≤ atR l t) ∧ D.atKey (.string t) (.lit (.int .i64 0)) = .lit (.int .i64 (brI l t))
theorem BrD.nil : BrD (.map []) [] := fun t _ => ⟨by simp [Maps.has_eq, atR], by simp [DataW.atKey, brI, atR]⟩
theorem BrD.put {D : DataW Unit} {l : List Rf} (h : BrD D l) (hm : IsMap D) (hl : ByName l) {b : List UInt8} (hb : b.length ≤ maxLen) (t : Nat) : BrD (D.put (.string b) (.lit (.int .i64 (t : Int)))) (leadR l b t) := by
  intro x hx
  unfold brI
  rw [patR_lead hl]
  by_cases e : x = b
  · subst e
    have hk := keyedSO.key (keyS x hb)
    rw [Maps.has_put_same hm hk, Maps.atKey_put_same hm hk, if_pos rfl]
    exact ⟨by simp, by rw [if_pos (by omega)]⟩
  · have hne : (Lit.string x) ≠ (Lit.string b) := fun e' => e (by simpa using e')
    rw [Maps.has_put_other hne, Maps.atKey_put_other hne, if_neg e]
    exact h x hx
theorem BrD.less {D : DataW Unit} {l : List Rf} (h : BrD D l) (hl : ByName l) (b : List UInt8) : BrD (D.del (.string b)) (dropL l b) := by
  intro x hx
  unfold brI
  rw [patR_drop hl]
  by_cases e : x = b
  · subst e
    rw [Maps.has_del_same, Maps.atKey_del_same, if_pos rfl]
    exact ⟨by simp, by rw [if_neg (by omega)]⟩
  · have hne : (Lit.string x) ≠ (Lit.string b) := fun e' => e (by simpa using e')
    rw [Maps.has_del_other hne, Maps.atKey_del_other hne, if_neg e]
    exact h x hx
theorem BrD.size_put {D : DataW Unit} {l : List Rf} (h : BrD D l) (ht : Tidy D) (hl : ByName l) {b : List UInt8} (hb : b.length ≤ maxLen) (t : Nat) (hs : Maps.size D = l.length) : Maps.size (D.put (.string b) (.lit (.int .i64 (t : Int)))) = (leadR l b t).length := by
  rw [Maps.size_put ht, (h b hb).1, hs, lead_len]
  by_cases h0 : 0 ≤ atR l b
  · have := pdrop_one hl h0
    rw [decide_eq_true h0]
    simp only [if_true]
    omega
  · rw [decide_eq_false h0, drop_len_none (by omega)]
    simp
theorem BrD.size_less {D : DataW Unit} {l : List Rf} (h : BrD D l) (ht : Tidy D) (hl : ByName l) {b : List UInt8} (hb : b.length ≤ maxLen) (h0 : 0 ≤ atR l b) (hs : Maps.size D = l.length) : Maps.size (D.del (.string b)) = (dropL l b).length := by
  have h1 := Maps.size_del (k := .string b) ht
  have h2 := pdrop_one hl h0
  rw [(h b hb).1, decide_eq_true h0, hs] at h1
  simp only [if_true] at h1
  omega
theorem own_few {R : Value → Option (DataW Unit × List MemPlace)} {k : TypeId} {w : World} {b n : Nat} {D : DataW Unit} (h : w.ownsMap Tryz.prog k R b n D) (hs : Maps.size D ≤ 100) : w.ownsMap Tryz.prog k R b 100 D := by
  obtain ⟨es, clock, hm, F, hn, rfl⟩ := h
  refine ⟨es, clock, hm, F, ?_, rfl⟩
  have e : Maps.size (.map ((es.toList.map (Go.WideElems.rg Tryz.prog k R)).foldr DataW.insert [])) = es.size := by
    show ((es.toList.map (Go.WideElems.rg Tryz.prog k R)).foldr DataW.insert []).length = es.size
    rw [length_sorted]
    simp
  omega

/-! ### the repo -/
/-- commits in a row of one's own, the parents' numbers in blocks of P -/
def ComRow (w : World) (cv : Value) (l : List Cm) (P : Nat → Prop) : Prop := ∃ cs : List Value, w.ownsRow 0 99 3 cv l.length cs ∧ ∀ (i : Nat) (hi : i < l.length), ∃ a c, cs[i * 3]? = some (.slice a l[i].1.length c) ∧ cs[i * 3 + 1]? = some (.int .i64 l[i].2.1) ∧ cs[i * 3 + 2]? = some (.string ⟨l[i].2.2.toArray⟩) ∧ SlI w a l[i].1 ∧ l[i].1.length ≤ c ∧ (l[i].1 ≠ [] → ∀ d, a = some d → P d.block)
def BrMap (w : World) (bm : Nat) (l : List Rf) : Prop := ∃ D : DataW Unit, w.ownsMap Tryz.prog 9 (plainElem Tryz.prog 3) bm 100 D ∧ BrD D l ∧ Maps.size D = l.length
/-- the repo at block r: its store at s, its branches at bm -/
structure RpW (w : World) (r s bm : Nat) (cv : Value) (OS P : Nat → Prop) (R : Rp) : Prop where
  blk : w.heap[r]? = some (.cells #[.pointer (some ⟨s, 0, none⟩), cv, .map (some bm)] 73)
  st : theFace.At w s OS R.n R.L
  com : ComRow w cv R.coms P
  map : BrMap w bm R.refs
  link : Linked R
  plt : ∀ j, P j → j < w.heap.size
  ap1 : ¬ OS r ∧ ¬ OS bm ∧ r ≠ bm
  ap2 : ∀ j, cv.ownBlock = some j → ¬ OS j ∧ j ≠ r ∧ j ≠ bm ∧ ¬ P j
  ap3 : ∀ j, P j → ¬ OS j ∧ j ≠ r ∧ j ≠ bm
def RpO (r bm : Nat) (cv : Value) (OS P : Nat → Prop) (j : Nat) : Prop := j = r ∨ j = bm ∨ cv.ownBlock = some j ∨ P j ∨ OS j
theorem RpW.lt {w : World} {r s bm : Nat} {cv : Value} {OS P : Nat → Prop} {R : Rp} (h : RpW w r s bm cv OS P R) : r < w.heap.size := (Array.getElem?_eq_some_iff.1 h.blk).1
theorem RpW.own {w : World} {r s bm : Nat} {cv : Value} {OS P : Nat → Prop} {R : Rp} (h : RpW w r s bm cv OS P R) : ∀ j, RpO r bm cv OS P j → j < w.heap.size := by
  obtain ⟨cs, hc, _⟩ := h.com
  obtain ⟨D, ho, _⟩ := h.map
  rintro j (rfl | rfl | hj | hj | hj)
  · exact h.lt
  · exact ho.lt
  · exact (hc.lt j hj).2
  · exact h.plt j hj
  · exact theFace.own h.st j hj
theorem prow_keep {w w' : World} {base : Nat} {e : TypeId} {sz : Nat} {v : Value} {n : Nat} {cs : List Value} (h : w.ownsRow base e sz v n cs) (hb : ∀ j, v.ownBlock = some j → w'.heap[j]? = w.heap[j]?) : w'.ownsRow base e sz v n cs := by
  refine ⟨h.1, ?_⟩
  rcases h.2 with h0 | ⟨g, cap, cur, hv, hg, hm, r⟩
  · exact Or.inl h0
  · exact Or.inr ⟨g, cap, cur, hv, hg, (hb g (by rw [hv]; rfl)).trans hm, r⟩
theorem psl_keep {w w' : World} {ad : Option Addr} {l : List Int} (h : SlI w ad l) (hb : l ≠ [] → ∀ d, ad = some d → w'.heap[d.block]? = w.heap[d.block]?) : SlI w' ad l := fun hl => by
  obtain ⟨b, o, e, h1⟩ := h hl
  have q := hb hl _ e
  exact ⟨b, o, e, fun j hj => (World.cell?_of_block (w := w) (a := ⟨b, o + j, none⟩) q).trans (h1 j hj)⟩
theorem ComRow.keep {w w' : World} {cv : Value} {l : List Cm} {P : Nat → Prop} (h : ComRow w cv l P) (h1 : ∀ j, cv.ownBlock = some j → w'.heap[j]? = w.heap[j]?) (h2 : ∀ j, P j → w'.heap[j]? = w.heap[j]?) : ComRow w' cv l P := by
  obtain ⟨cs, hc, hc2⟩ := h
  refine ⟨cs, prow_keep hc h1, fun i hi => ?_⟩
  obtain ⟨a, c, q1, q2, q3, q4, q5, q6⟩ := hc2 i hi
  exact ⟨a, c, q1, q2, q3, psl_keep q4 fun hl d hd => h2 _ (q6 hl d hd), q5, q6⟩
theorem BrMap.keep {w w' : World} {bm : Nat} {l : List Rf} (h : BrMap w bm l) (hb : w'.heap[bm]? = w.heap[bm]?) : BrMap w' bm l := by
  obtain ⟨D, ho, r⟩ := h
  exact ⟨D, ownsMap_block ho hb, r⟩
theorem RpW.keep {w w' : World} {r s bm : Nat} {cv : Value} {OS P : Nat → Prop} {R : Rp} (h : RpW w r s bm cv OS P R) (hb : ∀ j, RpO r bm cv OS P j → w'.heap[j]? = w.heap[j]?) : RpW w' r s bm cv OS P R :=
  ⟨(hb r (Or.inl rfl)).trans h.blk, theFace.keep h.st fun j hj => hb j (Or.inr (Or.inr (Or.inr (Or.inr hj)))), h.com.keep (fun j hj => hb j (Or.inr (Or.inr (Or.inl hj)))) (fun j hj => hb j (Or.inr (Or.inr (Or.inr (Or.inl hj))))), h.map.keep (hb bm (Or.inr (Or.inl rfl))), h.link,
   fun j hj => by
     have h1 := h.plt j hj
     have h2 := hb j (Or.inr (Or.inr (Or.inr (Or.inl hj))))
     obtain ⟨o, ho⟩ : ∃ o, w.heap[j]? = some o := ⟨w.heap[j], Array.getElem?_eq_getElem h1⟩
     exact (Array.getElem?_eq_some_iff.1 (h2.trans ho)).1,
   h.ap1, h.ap2, h.ap3⟩
theorem RpW.below {w w' : World} {r s bm : Nat} {cv : Value} {OS P : Nat → Prop} {R : Rp} (h : RpW w r s bm cv OS P R) (hb : RowKit.Below w.heap.size w w') : RpW w' r s bm cv OS P R :=
  h.keep fun j hj => hb.block j (h.own j hj)
theorem RpW.cells {w : World} {r s bm : Nat} {cv : Value} {OS P : Nat → Prop} {R : Rp} (h : RpW w r s bm cv OS P R) : w.cell? ⟨r, 0, none⟩ = some (.pointer (some ⟨s, 0, none⟩)) ∧ w.cell? ⟨r, 1, none⟩ = some cv ∧ w.cell? ⟨r, 2, none⟩ = some (.map (some bm)) ∧ w.frozen? ⟨r, 1, none⟩ = false := by
  have h := h.blk
  refine ⟨?_, ?_, ?_, ?_⟩ <;> simp [World.cell?, World.frozen?, h]
/-- what a caller of the repo knows of it -/
def RepAt (w : World) (r : Nat) (O : Nat → Prop) (R : Rp) : Prop := ∃ s bm cv OS P, RpW w r s bm cv OS P R ∧ ∀ j, O j ↔ RpO r bm cv OS P j

/-- the commits' slice -/
theorem ComRow.form {w : World} {cv : Value} {l : List Cm} {P : Nat → Prop} (h : ComRow w cv l P) : ∃ ad cap, cv = .slice ad l.length cap := by
  obtain ⟨cs, hc, _⟩ := h
  exact prow_form hc
end Go.Proofs.YtpomdoelihmebaaGreatDoor

/- Patterns in plain words: what is wrong with one, which variables it has, and whether a triple fits. -/
namespace Go.Proofs.YtpomdoelihmebaaGreatDoor
open Go Go.RowKit Go.Proofs
set_option synthInstance.maxSize 1000

/-- a slot: its variable, its term; a pattern: three slots -/
abbrev Sl := List UInt8 × Tm
abbrev Pt := Sl × Sl × Sl
def tmZero : Tm := (0, [], [])
def tmChk (x : Tm) : Int := checkN x.1 x.2.1 x.2.2

/-- is a text that is not empty a variable? -/
def spellV (v : List UInt8) : Bool := decide (v.length ≤ 10) && allB letB v
/-- what is wrong with a slot; with a pattern -/
def slotN (s : Sl) : Int := if s.1 = [] then tmChk s.2 else if spellV s.1 = false then 2 else if s.2 = tmZero then 0 else 3
def varsN (p : Pt) : Int := if slotN p.1 = 0 then (if slotN p.2.1 = 0 then slotN p.2.2 else slotN p.2.1) else slotN p.1
/-- a pattern's variables, each once -/
def addV (l : List (List UInt8)) (s : Sl) : List (List UInt8) := if s.1 = [] then l else if s.1 ∈ l then l else l ++ [s.1]
def varsL (p : Pt) : List (List UInt8) := addV (addV (addV [] p.1) p.2.1) p.2.2

/-- does a triple fit? -/
def fitsB (p : Pt) (t : Tr) : Bool :=
  (if p.1.1 = [] then decide (t.1 = p.1.2) else true) &&
  ((if p.2.1.1 = [] then decide (t.2.1 = p.2.1.2) else if p.2.1.1 = p.1.1 then decide (t.2.1 = t.1) else true) &&
  (if p.2.2.1 = [] then decide (t.2.2 = p.2.2.2) else if p.2.2.1 = p.1.1 then decide (t.2.2 = t.1) else if p.2.2.1 = p.2.1.1 then decide (t.2.2 = t.2.1) else true))

/-- a rune that is no letter a to z -/
def offR (r : Nat) : Bool := decide (r < 97) || decide (122 < r)

theorem idx_off (s : ByteArray) : ∀ (f pos : Nat), s.size ≤ pos + f → (0 ≤ Lib.idxFuncFrom offR true s f pos ↔ ∃ k, ∃ h : k < s.size, pos ≤ k ∧ letB (s[k].toNat : Int) = false)
  | 0, pos, hf => by
    simp only [Lib.idxFuncFrom]
    constructor
    · intro h; omega
    · rintro ⟨k, h, hk, _⟩; omega
  | f + 1, pos, hf => by
    unfold Lib.idxFuncFrom
    by_cases hp : pos < s.size
    · rw [if_pos hp]
      by_cases hb : s[pos].toNat < 128
      · rw [decode_ascii s pos hp hb]
        simp only
        by_cases ho : offR s[pos].toNat = true
        · rw [if_pos ho]
          refine ⟨fun _ => ⟨pos, hp, Nat.le_refl _, ?_⟩, fun _ => by omega⟩
          simp [offR] at ho
          simp [letB]; omega
        · rw [if_neg ho, idx_off s f (pos + 1) (by omega)]
          constructor
          · rintro ⟨k, h, hk, e⟩; exact ⟨k, h, by omega, e⟩
          · rintro ⟨k, h, hk, e⟩
            refine ⟨k, h, ?_, e⟩
            rcases Nat.lt_or_ge pos k with hlt | hge
            · omega
            · have hkp : k = pos := by omega
              subst hkp
              simp [offR] at ho
              simp [letB] at e
              omega
      · have hh := (decode_high s pos hp (by omega)).1
        have ho : offR (Utf8.decode s pos).1 = true := by simp [offR]; omega
        rw [if_pos ho]
        refine ⟨fun _ => ⟨pos, hp, Nat.le_refl _, ?_⟩, fun _ => by omega⟩
        simp [letB]; omega
    · rw [if_neg hp]
      constructor
      · intro h; omega
      · rintro ⟨k, h, hk, _⟩; omega

theorem offAny (s : ByteArray) : decide (0 ≤ Lib.idxFunc offR true s) = !allB letB s.data.toList := by
  have h := idx_off s s.size 0 (by omega)
  have e : (∃ k, ∃ h : k < s.size, 0 ≤ k ∧ letB (s[k].toNat : Int) = false) ↔ allB letB s.data.toList = false := by
    unfold allB
    rw [List.all_eq_false]
    constructor
    · rintro ⟨k, hk, _, e⟩
      exact ⟨s.data.toList[k]'(by simpa using hk), List.getElem_mem _, by rw [show s.data.toList[k]'(by simpa using hk) = s[k] from rfl, e]; simp⟩
    · rintro ⟨x, hx, e⟩
      obtain ⟨k, hk, rfl⟩ := List.getElem_of_mem hx
      have hk' : k < s.size := by simpa using hk
      exact ⟨k, hk', Nat.zero_le _, by rw [show s[k] = s.data.toList[k] from rfl]; simpa using e⟩
  unfold Lib.idxFunc
  cases ha : allB letB s.data.toList
  · simpa using h.2 (e.2 ha)
  · have : ¬ (0 ≤ Lib.idxFuncFrom offR true s s.size 0) := fun h0 => by
      have := e.1 (h.1 h0)
      rw [ha] at this
      cases this
    simp [this]
end Go.Proofs.YtpomdoelihmebaaGreatDoor
