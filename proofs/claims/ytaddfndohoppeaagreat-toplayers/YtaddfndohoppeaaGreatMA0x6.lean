import Derived.Test.YtaddfndohoppeaaGreatMA0x5
import Derived.Test.YtaddfndohoppeaaGreatMA0x0
import Derived.Lib.AppendZeros
import Derived.Deep.Upon
import Derived.Test.YtaddfndohoppeaaGreatMA0x2
import Derived.Test.YtaddfndohoppeaaGreatMA0x4
import Derived.Deep.RegionHeld3

/- repo's fresh, and the test of find: a commit in memory of its own; is it the one that is there already? -/
namespace Go.Proofs.YtaddfndohoppeaaGreat
open Go Go.RowKit Go.Proofs Go.Maps
set_option synthInstance.maxSize 1000


theorem prow_form {W : World} {base : Nat} {e : TypeId} {sz : Nat} {v : Value} {n : Nat} {cs : List Value} (h : W.ownsRow base e sz v n cs) : ∃ ad cap, v = .slice ad n cap := by
  rcases h.2 with ⟨rfl, h0⟩ | ⟨g, cap, cur, rfl, _⟩
  · exact ⟨none, 0, by rw [h0]⟩
  · exact ⟨_, _, rfl⟩
theorem prow_at {W : World} {base : Nat} {e : TypeId} {sz : Nat} {v : Value} {n : Nat} {cs : List Value} (h : W.ownsRow base e sz v n cs) (hn : 0 < n) : ∃ g cap, v = .slice (some ⟨g, 0, none⟩) n cap ∧ n ≤ cap ∧ ∀ (k : Nat) (x : Value), cs[k]? = some x → W.cell? ⟨g, k, none⟩ = some x := by
  rcases h.2 with ⟨rfl, h0⟩ | ⟨g, cap, cur, rfl, hg, hm, h3, h4, h5, h6⟩
  · omega
  · refine ⟨g, cap, rfl, by omega, fun k x hk => ?_⟩
    have := h.cells (g := g) rfl k x hk
    rw [Addr.add_lit] at this
    simpa using this
/-! ### numbers in memory of their own -/
def cellsZ (m : List Int) : List Value := m.map fun j => Value.int .i64 j
theorem infoZ : (Tryz.prog.info? 3).map (fun i => (i.zero, i.size, i.bytes)) = some (some (.int .i64 0), 1, 8) := by kernel_rfl
theorem append_noneZ (W : World) (ad : Option Addr) (cap : Nat) (ty : TypeId) :
    (Builtin.append_ #[38, 38] ty #[.slice none 0 0, .slice ad 0 cap]).run Tryz.prog W = .ok (.slice none 0 0) W := by
  obtain ⟨i, hi, hz⟩ := Option.map_eq_some_iff.1 infoZ
  have hf : (Builtin.firstCells i.size 0 (.slice ad 0 cap)).run Tryz.prog W = .ok #[] W := by
    cases ad with
    | none => exact run_firstCells_none W _ _ _ _
    | some a => exact run_firstCells_some (P := Tryz.prog) W i.size 0 a 0 cap [] (by simp) (by simp)
  simp [Builtin.append_, run_underlying Tryz.underlying38, sizeOf, typeInfo, hi, Builtin.lenOf, hf]
/-- what an append to nothing leaves -/
def NewZ (w : World) (l : List Int) (ad : Option Addr) (c : Nat) (w' : World) : Prop := SlI w' ad l ∧ l.length ≤ c ∧ (l ≠ [] → ∀ d, ad = some d → w.heap.size ≤ d.block) ∧ RowKit.Below w.heap.size w w'
theorem wpList_append_nilZ {ops : Array Oper} {rest : List Oper} {o : Oper} {a : Act} {Q : Exit → Act → World → Prop} (w : World) (hgd : o.guard = none) (s x : Operand)
    (ho : o.op = .call { callee := .builtin .append, args := #[s, x], argTypes := #[38, 38] })
    (l : List Int) (ad : Option Addr) (c : Nat) (hs : a.eval s = .slice none 0 0) (hx : a.eval x = .slice ad l.length c) (hl : SlI w ad l) (h63 : l.length ≤ 1000000)
    (h : ∀ ad' c' w', NewZ w l ad' c' w' → wpList Tryz.prog ops Q rest (a.put o.dst (.slice ad' l.length c')) w') : wpList Tryz.prog ops Q (o :: rest) a w := by
  obtain ⟨i0, hi, hz⟩ := Option.map_eq_some_iff.1 infoZ
  simp only [Prod.mk.injEq] at hz
  obtain ⟨hz0, hz1, hz2⟩ := hz
  cases l with
  | nil =>
    exact Lib.wpList_append_run w hgd s x _ _ ho _ _ hs hx (.slice none 0 0) w (append_noneZ w ad c _) (h none 0 w ⟨fun h => absurd rfl h, Nat.le_refl _, fun h => absurd rfl h, RowKit.Below.refl _ _⟩)
  | cons y r =>
    obtain ⟨b, off, rfl, hr⟩ := hl (by simp)
    refine wpList_append_own w hgd s x _ ho w.heap.size 3 i0 (.int .i64 0) 1 8 Tryz.underlying38 hi hz0 hz1 hz2 rfl (by decide) (.slice none 0 0) 0 [] hs (World.ownsRow_nil _ _ _ _) ⟨b, off, none⟩ (y :: r).length c (cellsZ (y :: r)) hx (by simp [cellsZ]) ?_ ?_ (by unfold maxLen; omega) (by omega) (Nat.le_refl _) ?_
    · intro j u hj
      rw [Addr.add_lit]
      have hj' : j < (y :: r).length := by have := (List.getElem?_eq_some_iff.1 hj).1; simpa [cellsZ] using this
      have e : u = .int .i64 (y :: r)[j] := by
        have := (List.getElem?_eq_some_iff.1 hj).2
        rw [← this]
        simp only [cellsZ, List.getElem_map]
      rw [e]
      exact hr j hj'
    · intro v hv
      obtain ⟨j, _, rfl⟩ := List.mem_map.1 hv
      rfl
    · intro v' w' h2 h3 _
      rw [List.nil_append, Nat.zero_add] at h2
      have hb : RowKit.Below w.heap.size w w' := (RowKit.Below.refl _ _).grown h3 (Nat.le_refl _) (fun k hk => by cases hk)
      obtain ⟨g, cap, rfl, hcap, hx⟩ := prow_at h2 (by simp)
      refine h _ _ _ ⟨fun _ => ⟨g, 0, rfl, fun j hj => ?_⟩, hcap, fun _ d hd => ?_, hb⟩
      · have := hx j (.int .i64 (y :: r)[j]) (by simp only [cellsZ, List.getElem?_map, List.getElem?_eq_getElem hj, Option.map_some])
        simpa using this
      · cases hd
        exact (h2.lt g rfl).1

/-- a commit in memory of its own -/
def FreshC (w : World) (ps : List Int) (y : Int) (t : List UInt8) (e : Ending) (w' : World) : Prop := ∃ a c, e = .returned (.agg #[.slice a ps.length c, .int .i64 y, .string ⟨t.toArray⟩]) ∧ NewZ w ps a c w'
theorem NewZ.later {w W w1 w' : World} {l : List Int} {ad : Option Addr} {c : Nat} (h : NewZ W l ad c w1) (hw : RowKit.Below w.heap.size w W) (hb : RowKit.Below w.heap.size w w') (hs : SlI w' ad l) : NewZ w l ad c w' :=
  ⟨hs, h.2.1, fun hl d hd => Nat.le_trans hw.size (h.2.2.1 hl d hd), hb⟩
theorem SlI.off {w : World} {ad : Option Addr} {l : List Int} (h : SlI w ad l) {b k : Nat} {u : Value} (hb : l ≠ [] → ∀ d, ad = some d → d.block ≠ b) : SlI (w.setCell ⟨b, k, none⟩ u) ad l := fun hl => by
  obtain ⟨p, o, e, h1⟩ := h hl
  refine ⟨p, o, e, fun j hj => ?_⟩
  rw [World.cell?_setCell_other]
  · exact h1 j hj
  · intro e2
    cases e2
    exact hb hl _ e rfl

theorem blk3 {W : World} {B : Nat} {u v x : Value} {T : TypeId} (h : W.heap[B]? = some (.cells #[u, v, x] T)) : W.cell? ⟨B, 0, none⟩ = some u ∧ W.cell? ⟨B, 1, none⟩ = some v ∧ W.cell? ⟨B, 2, none⟩ = some x ∧ W.frozen? ⟨B, 0, none⟩ = false ∧ W.frozen? ⟨B, 1, none⟩ = false ∧ W.frozen? ⟨B, 2, none⟩ = false ∧ B < W.heap.size := by
  refine ⟨?_, ?_, ?_, ?_, ?_, ?_, (Array.getElem?_eq_some_iff.1 h).1⟩ <;> simp [World.cell?, World.frozen?, h]
theorem two3 (w : World) (u v x u' v' x' : Value) (T : TypeId) : ((w.alloc (.cells #[u, v, x] T)).alloc (.cells #[u', v', x'] T)).heap[w.heap.size]? = some (.cells #[u, v, x] T) ∧ ((w.alloc (.cells #[u, v, x] T)).alloc (.cells #[u', v', x'] T)).heap[w.heap.size + 1]? = some (.cells #[u', v', x'] T) := by
  constructor
  · show ((w.heap.push _).push _)[w.heap.size]? = _
    rw [Array.getElem?_push, if_neg (by simp), Array.getElem?_push, if_pos rfl]
  · show ((w.heap.push _).push _)[w.heap.size + 1]? = _
    rw [Array.getElem?_push, if_pos (by simp)]

theorem belowQ {w W : World} {b o : Nat} {v : Value} (h : RowKit.Below w.heap.size w W) (hb : w.heap.size ≤ b) : RowKit.Below w.heap.size w (W.setCell ⟨b, o, none⟩ v) := h.setCell (p := ⟨b, o, none⟩) hb v
set_option maxHeartbeats 4000000 in
set_option maxRecDepth 100000 in
theorem Qfresh_any (a : Option Addr) (ca : Nat) (ps : List Int) (y : Int) (t : List UInt8) (w : World) (hs : SlI w a ps) (hl : ps.length ≤ 1000000) (ht : t.length ≤ 281474976710656) :
    Calls Tryz.prog 25 #[.agg #[.slice a ps.length ca, .int .i64 y, .string ⟨t.toArray⟩]] w (FreshC w ps y t) := by
  have HS := hideO hs
  have HL := hideO hl
  clear hs hl
  go_enter Tryz.func25, Tryz.ntmps25
  have hW0 := hideO (bstep (balloc w (.cells #[.slice a ps.length ca, .int .i64 y, .string ⟨t.toArray⟩] 40)) (balloc (w.alloc (.cells #[.slice a ps.length ca, .int .i64 y, .string ⟨t.toArray⟩] 40)) (.cells #[.slice none 0 0, .int .i64 0, .string ⟨#[]⟩] 40)))
  have hT := hideO (two3 w (.slice a ps.length ca) (.int .i64 y) (.string ⟨t.toArray⟩) (.slice none 0 0) (.int .i64 0) (.string ⟨#[]⟩) 40)
  have hz : ((w.alloc (.cells #[.slice a ps.length ca, .int .i64 y, .string ⟨t.toArray⟩] 40)).alloc (.cells #[.slice none 0 0, .int .i64 0, .string ⟨#[]⟩] 40)).heap.size = w.heap.size + 2 := by simp
  go_wp2_with (at_builtin; refine wpList_append_nilZ _ rfl _ _ rfl ps a ca rfl rfl (HS.out.below hW0.out) HL.out ?_; intro ad c w1 hN; have hN1 := hideO hN; have b0 := (hN.2.2.2.block w.heap.size (by rw [hz]; omega)).trans hT.out.1; have b1 := hideO ((hN.2.2.2.block (w.heap.size + 1) (by rw [hz]; omega)).trans hT.out.2); clear hN; obtain ⟨p0, p1, p2, f0, f1, f2, z0⟩ := blk3 b0; have B0 := hideO b0; clear b0)
  have hfr : Hid (ps ≠ [] → ∀ d, ad = some d → w.heap.size + 2 ≤ d.block) := fun hne d hd => by have := hN1.out.2.2.1 hne d hd; rw [hz] at this; exact this
  have hB1 : Hid (RowKit.Below w.heap.size w (w1.setCell ⟨w.heap.size, 0, none⟩ (.slice ad ps.length c))) := ((hW0.out.trans (hN1.out.2.2.2.mono (by rw [hz]; omega)))).setCell (p := ⟨w.heap.size, 0, none⟩) (Nat.le_refl _) _
  have hS1 : Hid (SlI (w1.setCell ⟨w.heap.size, 0, none⟩ (.slice ad ps.length c)) ad ps) := hN1.out.1.off fun hne d hd e => by have := hfr.out hne d hd; omega
  have hcap : Hid (ps.length ≤ c) := hN1.out.2.1
  have d0 : (w1.setCell ⟨w.heap.size, 0, none⟩ (.slice ad ps.length c)).heap[w.heap.size]? = some (.cells #[.slice ad ps.length c, .int .i64 y, .string ⟨t.toArray⟩] 40) := by
    have := heap_setCell_same w1 w.heap.size 0 _ _ (.slice ad ps.length c) B0.out
    simpa using this
  have d1 : (w1.setCell ⟨w.heap.size, 0, none⟩ (.slice ad ps.length c)).heap[w.heap.size + 1]? = some (.cells #[.slice none 0 0, .int .i64 0, .string ⟨#[]⟩] 40) := (heap_setCell_other w1 ⟨w.heap.size, 0, none⟩ (w.heap.size + 1) _ (by simp)).trans b1.out
  clear hN1 hT HS hW0 B0 b1 hz p0 p1 p2 f0 f1 f2 z0
  generalize w1.setCell ⟨w.heap.size, 0, none⟩ (.slice ad ps.length c) = W1 at *
  obtain ⟨p0, p1, p2, f0, f1, f2, z0⟩ := blk3 d0
  have D0 := hideO d0
  have D1 := hideO d1
  clear d0 d1
  go_wp2_with (go_at_call 57; refine (SClone_any t _ ht).mono ?_; rintro e w2 ⟨rfl, hb2⟩; dsimp only; have e0 := hideO ((hb2.block w.heap.size z0).trans D0.out); have e1 := hideO ((hb2.block (w.heap.size + 1) (Array.getElem?_eq_some_iff.1 D1.out).1).trans D1.out); obtain ⟨q0, q1, q2, g0, g1, g2, y0⟩ := blk3 e0.out; obtain ⟨r0, r1, r2, h0, h1, h2, y1⟩ := blk3 e1.out; have hB2 := hideO (bstep hB1.out hb2); have hS2 := hideO (hS1.out.below hb2); clear hb2)
  have hne : w.heap.size ≠ w.heap.size + 1 := by omega
  have hne' : w.heap.size + 1 ≠ w.heap.size := by omega
  clear D0 D1 p0 p1 p2 f0 f1 f2 z0 hB1 hS1
  exact bodyPost_ret (v := .agg #[.slice ad ps.length c, .int .i64 y, .string ⟨t.toArray⟩]) (by unfold results; rw [Tryz.results25]; go_simp) rfl ⟨ad, c, rfl, by repeat (first | (with_reducible exact hS2.out) | (refine SlI.off ?_ (fun hne d hd e => by have := hfr.out hne d hd; omega))), hcap.out, fun hne d hd => by have := hfr.out hne d hd; omega, by repeat (first | (with_reducible exact hB2.out) | (refine belowQ ?_ (by omega)))⟩

/-! ### two rows of numbers -/
theorem ret_boolQ {a b : Bool} (h : a = b) : Ending.returned (.bool a) = .returned (.bool b) := by rw [h]
set_option maxHeartbeats 4000000 in
set_option maxRecDepth 100000 in
theorem QEqual_any (a b : Option Addr) (ca cb : Nat) (x y : List Int) (w : World) (hx : SlI w a x) (hy : SlI w b y) (nx : x.length ≤ maxLen) (ny : y.length ≤ maxLen) :
    Calls Tryz.prog 136 #[.slice a x.length ca, .slice b y.length cb] w fun e w' => e = .returned (.bool (decide (x = y))) ∧ RowKit.Below w.heap.size w w' := by
  have Hx := hideO hx
  have Hy := hideO hy
  unfold maxLen at nx ny
  clear hx hy
  by_cases hlen : x.length = y.length
  · have hd : ((x.length : Int) != (y.length : Int)) = false := by simp [hlen]
    have Hlen := hideO hlen
    clear hlen
    go_enter Tryz.func136, Tryz.ntmps136
    go_wp2_with fail
    go_loopw [13] (fun i wr => ∃ k : Nat, k ≤ x.length ∧ i = .int .i64 k ∧ Hid (x.take k = y.take k) ∧ RowKit.Below w.heap.size w wr) (fun i wr => x.length - (intOf i).toNat)
    case atStart => exact ⟨0, Nat.zero_le _, rfl, rfl, RowKit.Below.refl _ _⟩
    case round =>
      obtain ⟨k, hk, rfl, hs, hbr⟩ := hrel
      by_cases hlt : k < x.length
      · have hlt' : k < y.length := by have := Hlen.out; omega
        obtain ⟨p, o, rfl, c0⟩ := (Hx.out.below hbr).at hlt
        obtain ⟨q, r, rfl, c1⟩ := (Hy.out.below hbr).at hlt'
        have i0 : (0 : Int) ≤ (k : Int) := by omega
        have i1 : (k : Int) < (x.length : Int) := by omega
        have i2 : (k : Int) < (y.length : Int) := by omega
        have f1 : Hid (x[k] = y[k] → x.take (k + 1) = y.take (k + 1)) := fun h => by
          rw [List.take_succ_eq_append_getElem hlt, List.take_succ_eq_append_getElem hlt', hs.out, h]
        have f0 : Hid (x[k] ≠ y[k] → decide (x = y) = false) := fun h => by
          rw [decide_eq_false_iff_not]
          intro e
          subst e
          exact h rfl
        have hbd := hideO hbr.drew
        clear hs Hx Hy Hlen
        generalize x[k] = u at *
        generalize y[k] = v at *
        by_cases hc : u = v
        · have hcc : (u != v) = false := by simpa using hc
          have hf := hideO (f1.out hc)
          clear f0 f1 hc
          go_wp2_with fail
          go_region
          go_wp2_with fail
          go_roundw
          case rel => exact ⟨k + 1, by omega, by go_num, hf, hbd.out⟩
          case measure => simp [intOf]; omega
        · have hcc : (u != v) = true := by simpa using hc
          have hf := hideO (f0.out hc)
          clear f0 f1 hc
          go_wp2_with fail
          go_region
          go_wp2_with fail
          go_ret
          exact ⟨ret_boolQ hf.out.symm, hbd.out⟩
      · obtain rfl : k = x.length := by omega
        have hyes : Hid (decide (x = y) = true) := decide_eq_true (by
          have h1 := hs.out
          rw [List.take_length, Hlen.out, List.take_length] at h1
          exact h1)
        clear hs
        go_wp2_with fail
        go_ret
        exact ⟨ret_boolQ hyes.out.symm, hbr⟩
  · have hd : ((x.length : Int) != (y.length : Int)) = true := by simp; omega
    have hno : Hid (decide (x = y) = false) := by
      show _ = _
      rw [decide_eq_false_iff_not]
      rintro rfl
      exact hlen rfl
    go_enter Tryz.func136, Tryz.ntmps136
    go_wp2_with fail
    go_ret
    exact ⟨ret_boolQ hno.out.symm, RowKit.Below.refl _ _⟩

/-! ### the commit that is there already -/
def findP : List Cm → Int → List UInt8 → List Int → Option Nat
  | [], _, _, _ => none
  | c :: r, y, m, ps => if c.2.1 = y ∧ c.2.2 = m ∧ c.1 = ps then some 0 else (findP r y m ps).map fun k => k + 1
def hitB (c : Cm) (id : Int) (t : List UInt8) (ps : List Int) : Bool := decide (c.2.1 = id) && (decide (c.2.2 = t) && decide (c.1 = ps))
theorem hitB_iff {c : Cm} {id : Int} {t : List UInt8} {ps : List Int} : hitB c id t ps = true ↔ c.2.1 = id ∧ c.2.2 = t ∧ c.1 = ps := by unfold hitB; simp
def idxI : Option Nat → Int
  | none => -1
  | some k => (k : Int)
/-- what the test looks at -/
structure FindG (W : World) (B1 B2 B3 : Nat) (id : Int) (t : List UInt8) (pd : Option Addr) (pc : Nat) (ps : List Int) : Prop where
  c1 : W.cell? ⟨B1, 0, none⟩ = some (.int .i64 id)
  c2 : W.cell? ⟨B2, 0, none⟩ = some (.string ⟨t.toArray⟩)
  c3 : W.cell? ⟨B3, 0, none⟩ = some (.slice pd ps.length pc)
  sl : SlI W pd ps
  len : ps.length ≤ maxLen
theorem FindG.below {W W' : World} {B1 B2 B3 : Nat} {id : Int} {t : List UInt8} {pd : Option Addr} {pc : Nat} {ps : List Int} (h : FindG W B1 B2 B3 id t pd pc ps) (hb : RowKit.Below W.heap.size W W') : FindG W' B1 B2 B3 id t pd pc ps :=
  ⟨(hb.cell (World.block_lt_of_cell? W _ h.c1)).trans h.c1, (hb.cell (World.block_lt_of_cell? W _ h.c2)).trans h.c2, (hb.cell (World.block_lt_of_cell? W _ h.c3)).trans h.c3, h.sl.below hb, h.len⟩

theorem eqlStrQ (a b : List UInt8) (w : World) : (binOp .eql 9 (.string ⟨a.toArray⟩) (.string ⟨b.toArray⟩)).run Tryz.prog w = .ok (.bool (decide (a = b))) w := by
  by_cases h : a = b
  · subst h; go_simp
  · have h' : ¬ (⟨a.toArray⟩ : ByteArray) = ⟨b.toArray⟩ := fun e => h (by have := congrArg (fun s : ByteArray => s.data.toList) e; simpa using this)
    go_simp
theorem eqlSelfQ (v : List UInt8) (w : World) : (binOp .eql 9 (.string ⟨v.toArray⟩) (.string ⟨v.toArray⟩)).run Tryz.prog w = .ok (.bool true) w := by rw [eqlStrQ]; simp
theorem eqlOtherQ (a b : List UInt8) (h : (a == b) = false) (w : World) : (binOp .eql 9 (.string ⟨a.toArray⟩) (.string ⟨b.toArray⟩)).run Tryz.prog w = .ok (.bool false) w := by rw [eqlStrQ]; simp at h; simp [h]
attribute [local go_sem ↓] eqlSelfQ eqlOtherQ
set_option maxHeartbeats 4000000 in
set_option maxRecDepth 100000 in
theorem Qfind1_any (W : World) (B1 B2 B3 : Nat) (id : Int) (t : List UInt8) (pd : Option Addr) (pc : Nat) (ps : List Int) (a : Option Addr) (ca : Nat) (qs : List Int) (y : Int) (m : List UInt8) (h : FindG W B1 B2 B3 id t pd pc ps) (hq : SlI W a qs) (hl : qs.length ≤ maxLen) :
    Calls Tryz.prog 135 #[.agg #[.slice a qs.length ca, .int .i64 y, .string ⟨m.toArray⟩], .pointer (some ⟨B1, 0, none⟩), .pointer (some ⟨B2, 0, none⟩), .pointer (some ⟨B3, 0, none⟩)] W fun e w' => e = .returned (.bool (hitB (qs, y, m) id t ps)) ∧ RowKit.Below W.heap.size W w' := by
  have HE := fun W' (hW : RowKit.Below W.heap.size W W') => QEqual_any a pd ca pc qs ps W' (hq.below hW) (h.sl.below hW) hl h.len
  have c1 := h.c1
  have c2 := h.c2
  have c3 := h.c3
  have z1 := World.block_lt_of_cell? _ _ c1
  have z2 := World.block_lt_of_cell? _ _ c2
  have z3 := World.block_lt_of_cell? _ _ c3
  have z1 : B1 < W.heap.size := z1
  have z2 : B2 < W.heap.size := z2
  have z3 : B3 < W.heap.size := z3
  have n1 : B1 ≠ W.heap.size := by omega
  have n2 : B2 ≠ W.heap.size := by omega
  have n3 : B3 ≠ W.heap.size := by omega
  have fin : Hid (hitB (qs, y, m) id t ps = (decide (y = id) && (decide (m = t) && decide (qs = ps)))) := rfl
  generalize hitB (qs, y, m) id t ps = v at *
  clear h hq hl
  by_cases h1 : y = id
  · subst h1
    by_cases h2 : m = t
    · subst h2
      generalize decide (qs = ps) = d at *
      go_enter Tryz.func135, Tryz.ntmps135
      go_wp2_with (go_at_call 136; refine (HE _ (balloc _ _)).mono ?_; rintro e w1 ⟨rfl, hb1⟩; dsimp only)
      go_ret
      exact ⟨ret_boolQ (by rw [fin.out]; simp), bstep (balloc _ _) hb1⟩
    · have h2' : (m == t) = false := by simpa using h2
      clear HE
      go_enter Tryz.func135, Tryz.ntmps135
      go_wp2_with fail
      go_ret
      exact ⟨ret_boolQ (by rw [fin.out]; simp [h2]), balloc _ _⟩
  · have h1' : (y == id) = false := by simpa using h1
    clear HE
    go_enter Tryz.func135, Tryz.ntmps135
    go_wp2_with fail
    go_ret
    exact ⟨ret_boolQ (by rw [fin.out]; simp [h1]), balloc _ _⟩
theorem entersFind : ∀ args w, (callFunc 135 args).run Tryz.prog w = .ok (.enter 135 args) w := enters_of Tryz.func135 (by kernel_rfl) rfl
end Go.Proofs.YtaddfndohoppeaaGreat

/- A repo's commits and its objects: each commit's layer is the object of what has changed from its first parent's graph. -/
namespace Go.Proofs.YtaddfndohoppeaaGreat
open Go Go.RowKit Go.Proofs
set_option synthInstance.maxSize 1000

def Linked (R : Rp) : Prop := ∀ (i : Nat) (c : Cm) (g : List Tr), R.coms[i]? = some c → R.gr[i]? = some g → getO R.L c.2.1 = some (bytesR R c.1 g)
theorem linked_empty : Linked emptyR := fun i c g h => by simp [emptyR] at h
theorem bytes_from {R R' : Rp} {ps : List Int} (h : fromR R' ps = fromR R ps) (s : List Tr) : bytesR R' ps s = bytesR R ps s := by unfold bytesR; rw [h]
theorem from_eq {R R' : Rp} (h : R'.gr = R.gr) (ps : List Int) : fromR R' ps = fromR R ps := by unfold fromR; rw [h]
/-- branches alone have turned -/
theorem Linked.same {R R' : Rp} (h : Linked R) (h1 : R'.L = R.L) (h2 : R'.coms = R.coms) (h3 : R'.gr = R.gr) : Linked R' := fun i c g hc hg => by
  rw [h2] at hc
  rw [h3] at hg
  rw [h1, bytes_from (from_eq h3 c.1)]
  exact h i c g hc hg
theorem Linked.lead {R : Rp} (h : Linked R) (b : List UInt8) (t : Nat) : Linked (leadTo R b t) := h.same rfl rfl rfl

theorem pfrom_set {R : Rp} (h : GoodR R) (ps : List Int) : IsSet (fromR R ps) := by
  unfold fromR
  cases ps with
  | nil => exact isSet_nil
  | cons p r =>
    dsimp only
    cases hg : R.gr[p.toNat]? with
    | none => exact isSet_nil
    | some g => exact h.sets g (List.mem_of_getElem? hg)
/-- what has changed tells what came of it -/
theorem bytes_inj {f g s : List Tr} (sf : IsSet f) (sg : IsSet g) (ss : IsSet s) (h : encS (lessL g f) ++ encS (lessL f g) = encS (lessL s f) ++ encS (lessL f s)) : g = s := by
  obtain ⟨_, a1, d1⟩ := back_layer (btw_check sf sg)
  obtain ⟨_, a2, d2⟩ := back_layer (btw_check sf ss)
  rw [h, a2] at a1
  rw [h, d2] at d1
  refine apply_btw_ans sf ss (m := g) ⟨fun _ => ?_, fun hne => absurd (apply_btw sf ss) hne⟩
  have := there (a := f) sg
  rw [← a1, ← d1] at this
  exact this
theorem put_old {n : Nat} {L : List Ob} {b t : List UInt8} {z : Int} (hg : GoodO n L) (h : getO L z = some t) : getO (putL n L b) z = some t := by
  unfold putL
  split
  · exact h
  · split
    · exact h
    · rw [getO_snoc fun x hx => (hg.low x hx).2]
      split
      · rename_i e
        obtain ⟨x, hx, e1, _⟩ := getO_some h
        have := hg.low x hx
        omega
      · exact h
theorem find_get {n : Nat} {L : List Ob} {b : List UInt8} (hg : GoodO n L) (h : findO L b ≠ 0) : getO L (findO L b : Int) = some b := by
  obtain ⟨x, hx, rfl⟩ := (findO_mem fun y hy => (hg.low y hy).1).1 h
  rw [findO_in hg.once hx]
  exact getO_mem hg.rise hx
theorem get_find {n : Nat} {L : List Ob} {b : List UInt8} {z : Int} (hg : GoodO n L) (h : getO L z = some b) : (findO L b : Int) = z ∧ findO L b ≠ 0 := by
  obtain ⟨x, hx, e1, rfl⟩ := getO_some h
  have := hg.low x hx
  rw [findO_in hg.once hx]
  exact ⟨e1, by omega⟩
theorem put_new {n : Nat} {L : List Ob} {b : List UInt8} (hg : GoodO n L) (he : putE L b = 0) : getO (putL n L b) (putI n L b : Int) = some b := by
  unfold putE at he
  unfold putL putI
  by_cases h0 : findO L b ≠ 0
  · simp only [if_pos h0]
    exact find_get hg h0
  · simp only [if_neg h0] at he ⊢
    by_cases h1 : fullO L b = true
    · rw [if_pos h1] at he; cases he
    · simp only [if_neg h1]
      rw [getO_snoc fun x hx => (hg.low x hx).2, if_pos rfl]
theorem range_par {c : Cm} {i : Nat} (h : comN c i = 0) : ∀ p ∈ c.1, 0 ≤ p ∧ p < (i : Int) := by
  unfold comN at h
  split at h
  · cases h
  · split at h
    · cases h
    · rename_i h2
      have : rangeB c.1 i = true := by simpa using h2
      unfold rangeB at this
      rw [List.all_eq_true] at this
      intro p hp
      simpa using this p hp
theorem from_more {R : Rp} {ps : List Int} {s : List Tr} (h : ∀ p ∈ ps, 0 ≤ p ∧ p < (R.gr.length : Int)) (n : Nat) (L : List Ob) (cs : List Cm) (rf : List Rf) : fromR ⟨n, L, cs, R.gr ++ [s], rf⟩ ps = fromR R ps := by
  unfold fromR
  cases ps with
  | nil => rfl
  | cons p r =>
    dsimp only
    have := h p (by simp)
    rw [List.getElem?_append_left (by omega)]
theorem Linked.add {R : Rp} (hl : Linked R) (h : GoodR R) {ps : List Int} {s : List Tr} {m : List UInt8} (hp : okPar R.coms.length ps) : Linked (addR R ps s m) := by
  unfold addR
  split
  · exact hl
  · split
    · exact hl
    · rename_i h60
      split
      · exact hl
      · rename_i he
        have he0 : putE R.L (bytesR R ps s) = 0 := Classical.byContradiction he
        have hlen := h.len
        intro i c g hc hg
        dsimp only at hc hg ⊢
        by_cases hi : i < R.coms.length
        · rw [List.getElem?_append_left hi] at hc
          rw [List.getElem?_append_left (by omega)] at hg
          have hr : ∀ p ∈ c.1, 0 ≤ p ∧ p < (R.gr.length : Int) := fun p hp' => by
            have e : c = R.coms[i] := (List.getElem?_eq_some_iff.1 hc).2.symm
            have := range_par (h.coms.2 i hi) p (by rw [← e]; exact hp')
            omega
          rw [bytes_from (from_more hr _ _ _ _)]
          exact put_old h.store (hl i c g hc hg)
        · have hlt : i < (R.coms ++ [(ps, (putI R.n R.L (bytesR R ps s) : Int), m)]).length := (List.getElem?_eq_some_iff.1 hc).1
          simp at hlt
          obtain rfl : i = R.coms.length := by omega
          rw [List.getElem?_append_right (Nat.le_refl _)] at hc
          rw [← hlen, List.getElem?_append_right (Nat.le_refl _)] at hg
          simp at hc hg
          subst hc hg
          dsimp only
          rw [bytes_from (from_more (fun p hp' => by have := hp.2.1 p hp'; omega) _ _ _ _)]
          exact put_new h.store he0

/-! ### the commit that is there already -/
theorem findC_findP {cl : List Cm} {gl : List (List Tr)} {ps : List Int} {s : List Tr} {m : List UInt8} {y : Int} (hlen : gl.length = cl.length) (h : ∀ (i : Nat) (c : Cm) (g : List Tr), cl[i]? = some c → gl[i]? = some g → ((c.2.2 = m ∧ c.1 = ps ∧ g = s) ↔ (c.2.1 = y ∧ c.2.2 = m ∧ c.1 = ps))) : findC cl gl ps s m = findP cl y m ps := by
  induction cl generalizing gl with
  | nil => cases gl <;> rfl
  | cons c r ih =>
    cases gl with
    | nil => simp at hlen
    | cons g gr =>
      unfold findC findP
      have h0 := h 0 c g rfl rfl
      have := ih (gl := gr) (by simpa using hlen) fun i c' g' h1 h2 => h (i + 1) c' g' (by simpa using h1) (by simpa using h2)
      rw [this]
      by_cases hq : c.2.2 = m ∧ c.1 = ps ∧ g = s
      · rw [if_pos hq, if_pos (h0.1 hq)]
      · rw [if_neg hq, if_neg (fun h' => hq (h0.2 h'))]
theorem pfindC_none {cl : List Cm} {gl : List (List Tr)} {ps : List Int} {s : List Tr} {m : List UInt8} (h : ∀ (i : Nat) (c : Cm) (g : List Tr), cl[i]? = some c → gl[i]? = some g → ¬ (c.2.2 = m ∧ c.1 = ps ∧ g = s)) : findC cl gl ps s m = none := by
  induction cl generalizing gl with
  | nil => cases gl <;> rfl
  | cons c r ih =>
    cases gl with
    | nil => rfl
    | cons g gr =>
      unfold findC
      rw [if_neg (h 0 c g rfl rfl), ih fun i c' g' h1 h2 => h (i + 1) c' g' (by simpa using h1) (by simpa using h2)]
      rfl
theorem find_link {R : Rp} (hl : Linked R) (h : GoodR R) {ps : List Int} {s : List Tr} {m : List UInt8} (hs : IsSet s) :
    findC R.coms R.gr ps s m = if findO R.L (bytesR R ps s) = 0 then none else findP R.coms (findO R.L (bytesR R ps s) : Int) m ps := by
  split
  · rename_i h0
    refine pfindC_none fun i c g hc hg => ?_
    rintro ⟨_, rfl, rfl⟩
    exact (get_find h.store (hl i c g hc hg)).2 h0
  · rename_i h0
    refine findC_findP h.len fun i c g hc hg => ?_
    constructor
    · rintro ⟨e1, rfl, rfl⟩
      exact ⟨(get_find h.store (hl i c g hc hg)).1.symm, e1, rfl⟩
    · rintro ⟨e1, e2, rfl⟩
      refine ⟨e2, rfl, ?_⟩
      have k1 := hl i c g hc hg
      rw [e1, find_get h.store h0] at k1
      have k2 : bytesR R c.1 s = bytesR R c.1 g := Option.some.inj k1
      exact (bytes_inj (pfrom_set h c.1) hs (h.sets g (List.mem_of_getElem? hg)) k2).symm
/-- a commit's bytes are short, and they are read as they were -/
theorem bytes_read {R : Rp} (h : GoodR R) {ps : List Int} {g : List Tr} (hg : IsSet g) : readLayN (bytesR R ps g) = 0 ∧ readLayA (bytesR R ps g) = lessL g (fromR R ps) ∧ readLayD (bytesR R ps g) = lessL (fromR R ps) g := back_layer (btw_check (pfrom_set h ps) hg)
theorem bytes_short {R : Rp} (h : GoodR R) {ps : List Int} {g : List Tr} (hg : IsSet g) : (bytesR R ps g).length ≤ 40000 := by
  have h1 := encS_len (lessSet (b := fromR R ps) hg)
  have h2 := encS_len (lessSet (b := g) (pfrom_set h ps))
  unfold bytesR
  rw [List.length_append]
  omega
end Go.Proofs.YtaddfndohoppeaaGreat

/- A repo's face: what the laws ask of the program's repo, whatever it is made of. -/
namespace Go.Proofs.YtaddfndohoppeaaGreat
open Go Go.RowKit Go.Proofs
set_option synthInstance.maxSize 1000

/-- branches in a list that a caller holds -/
def SlF (w : World) (ad : Option Addr) (l : List Rf) : Prop := l ≠ [] → ∃ b o, ad = some ⟨b, o, none⟩ ∧ ∀ (i : Nat) (hi : i < l.length), w.cell? ⟨b, o + i * 2, none⟩ = some (.string ⟨l[i].1.toArray⟩) ∧ w.cell? ⟨b, o + i * 2 + 1, none⟩ = some (.int .i64 (l[i].2 : Int))
theorem SlF.below {w w' : World} {ad : Option Addr} {l : List Rf} (h : SlF w ad l) (hb : RowKit.Below w.heap.size w w') : SlF w' ad l := fun hl => by
  obtain ⟨b, o, e, h1⟩ := h hl
  refine ⟨b, o, e, fun i hi => ?_⟩
  obtain ⟨h2, h3⟩ := h1 i hi
  exact ⟨(hb.cell (World.block_lt_of_cell? w _ h2)).trans h2, (hb.cell (World.block_lt_of_cell? w _ h3)).trans h3⟩
theorem SlF.at {w : World} {ad : Option Addr} {l : List Rf} (h : SlF w ad l) {i : Nat} (hi : i < l.length) : ∃ b o, ad = some ⟨b, o, none⟩ ∧ w.cell? ⟨b, o + i * 2, none⟩ = some (.string ⟨l[i].1.toArray⟩) ∧ w.cell? ⟨b, o + i * 2 + 1, none⟩ = some (.int .i64 (l[i].2 : Int)) := by
  obtain ⟨b, o, e, h1⟩ := h (fun e => by rw [e] at hi; simp at hi)
  exact ⟨b, o, e, h1 i hi⟩
def objE (L : List Ob) (id : Int) : Int := if (getO L id).isSome = true then 0 else 5
def objB (L : List Ob) (id : Int) : List UInt8 := (getO L id).getD []
/-- a set that a caller hands in: it lies in none of the blocks O -/
structure SetArg (w : World) (O : Nat → Prop) (ad : Option Addr) (ca : Nat) (s : List Tr) : Prop where
  sl : SlT w ad s
  cap : s.length ≤ ca
  fit : ∀ x ∈ s, fitTr x
  len : s.length ≤ maxLen
  low : s ≠ [] → ∀ d, ad = some d → ¬ O d.block
/-- a set that lies there from the beginning on -/
structure SetIn (w : World) (ad : Option Addr) (ca : Nat) (s : List Tr) : Prop where
  sl : SlT w ad s
  cap : s.length ≤ ca
  fit : ∀ x ∈ s, fitTr x
  len : s.length ≤ maxLen
  low : s ≠ [] → ∀ d, ad = some d → d.block < w.heap.size
/-- the program's repo: where it lies, which blocks it owns (it keeps no list of a caller's), and what its calls answer; texts of up to 'lim' bytes -/
structure RFace where
  lim : Nat
  At : World → Nat → (Nat → Prop) → Rp → Prop
  own : ∀ {w : World} {r : Nat} {O : Nat → Prop} {R : Rp}, At w r O R → ∀ j, O j → j < w.heap.size
  keep : ∀ {w w' : World} {r : Nat} {O : Nat → Prop} {R : Rp}, At w r O R → (∀ j, O j → w'.heap[j]? = w.heap[j]?) → At w' r O R
  new : ∀ (w : World), Calls Tryz.prog 5 #[] w fun e w' => ∃ (r : Nat) (O : Nat → Prop), e = .returned (.pointer (some ⟨r, 0, none⟩)) ∧ At w' r O emptyR ∧ RowKit.Below w.heap.size w w' ∧ ∀ j, O j → w.heap.size ≤ j
  commit : ∀ (w : World) (r : Nat) (O : Nat → Prop) (R : Rp) (b : List UInt8) (ad : Option Addr) (ca : Nat) (s : List Tr) (t : List UInt8), At w r O R → GoodR R → SetArg w O ad ca s → b.length ≤ lim → t.length ≤ lim →
    Calls Tryz.prog 7 #[.pointer (some ⟨r, 0, none⟩), .string ⟨b.toArray⟩, .slice ad s.length ca, .string ⟨t.toArray⟩] w fun e w' => e = .returned (.tuple #[.int .i64 (commitI R b s t : Int), errV (commitE R b s t)]) ∧ ∃ O' : Nat → Prop, At w' r O' (commitR R b s t) ∧ Offs O w w' ∧ ∀ j, O' j → O j ∨ w.heap.size ≤ j
  graph : ∀ (w : World) (r : Nat) (O : Nat → Prop) (R : Rp) (a : Int), At w r O R → GoodR R →
    Calls Tryz.prog 11 #[.pointer (some ⟨r, 0, none⟩), .int .i64 a] w fun e w' => ∃ ad ca, e = .returned (.tuple #[.slice ad (graphL R a).length ca, errV (graphE R a)]) ∧ SlT w' ad (graphL R a) ∧ RowKit.Below w.heap.size w w'
  commits : ∀ (w : World) (r : Nat) (O : Nat → Prop) (R : Rp), At w r O R → GoodR R →
    Calls Tryz.prog 8 #[.pointer (some ⟨r, 0, none⟩)] w fun e w' => ∃ ad ca, e = .returned (.slice ad R.coms.length ca) ∧ R.coms.length ≤ ca ∧ SlC w' ad R.coms ∧ (∀ b o, ad = some ⟨b, o, none⟩ → ∀ i, i < R.coms.length → ∀ a n c, w'.cell? ⟨b, o + i * 3, none⟩ = some (.slice a n c) → n ≤ c) ∧ RowKit.Below w.heap.size w w'
  object : ∀ (w : World) (r : Nat) (O : Nat → Prop) (R : Rp) (id : Int), At w r O R → GoodR R →
    Calls Tryz.prog 9 #[.pointer (some ⟨r, 0, none⟩), .int .i64 id] w fun e w' => e = .returned (.tuple #[.string ⟨(objB R.L id).toArray⟩, errV (objE R.L id)]) ∧ RowKit.Below w.heap.size w w'

theorem RFace.below (F : RFace) {w w' : World} {r : Nat} {O : Nat → Prop} {R : Rp} (h : F.At w r O R) (hb : RowKit.Below w.heap.size w w') : F.At w' r O R :=
  F.keep h fun j hj => hb.block j (F.own h j hj)
end Go.Proofs.YtaddfndohoppeaaGreat

/- layer: Between, after, follows, Then, Apply: what they tell. -/
namespace Go.Proofs.YtaddfndohoppeaaGreat
open Go Go.RowKit Go.Proofs
set_option synthInstance.maxSize 1000

attribute [local go_sem] eql_errV neq_errV guard_errV

set_option maxHeartbeats 4000000 in
set_option maxRecDepth 100000 in
theorem LBetween_any (ad bd : Option Addr) (ca cb : Nat) (a b : List Tr) (w : World) (ha : SlT w ad a) (hb : SlT w bd b) (fa : ∀ x ∈ a, fitTr x) (fb : ∀ x ∈ b, fitTr x) (na : a.length ≤ 9223372036854775807) (nb : b.length ≤ 9223372036854775807) :
    Calls Tryz.prog 85 #[.slice ad a.length ca, .slice bd b.length cb] w (LAns (bothN a b) (BtwAns a b) w) := by
  have H1 := fun W h1 h2 => Less_any ad bd ca cb a b W h1 h2 fa fb na nb
  have H2 := fun W h1 h2 => Less_any bd ad cb ca b a W h1 h2 fb fa nb na
  have Ha : Hid (SlT w ad a) := ha
  have Hb : Hid (SlT w bd b) := hb
  have f0 : Hid (¬ bothN a b = 0 → BtwAns a b [] []) := fun h0 => ⟨fun h => absurd h h0, fun _ => ⟨rfl, rfl⟩⟩
  have f1 : Hid (bothN a b = 0 → bothN b a = 0 ∧ ∀ m m', LessAns a b m → LessAns b a m' → BtwAns a b m' m) := fun h0 => by
    refine ⟨bothN_comm0 h0, fun m m' h1 h2 => ⟨fun _ => ?_, fun h => absurd h0 h⟩⟩
    unfold LessAns at h1 h2
    rw [if_pos h0] at h1
    rw [if_pos (bothN_comm0 h0)] at h2
    exact ⟨h2, h1⟩
  generalize BtwAns a b = TA at *
  generalize LessAns a b = LA at *
  generalize LessAns b a = LB at *
  generalize bothN a b = n at *
  generalize bothN b a = n' at *
  clear ha hb fa fb na nb
  go_enter Tryz.func85, Tryz.ntmps85
  go_wp2_with fail
  refine (H1 _ (Ha.out.below (balloc _ _)) (Hb.out.below (balloc _ _))).mono ?_
  rintro e w1 ⟨hb1, m, am, cm, rfl, hm, hLA⟩
  have hB1 := bstep (balloc _ _) hb1
  obtain ⟨y0, y1, hz2, y2, y3⟩ := twobox hb1
  have Hm : Hid (SlT w1 am m ∧ LA m) := ⟨hm, hLA⟩
  clear hm hLA H1
  cases hn : (n == 0)
  · have h0 : ¬ n = 0 := by simpa using hn
    have F0 : Hid _ := f0.out h0
    clear h0 f0 f1 H2
    go_wp2_with fail
    exact bodyPost_ret (v := .tuple #[.agg #[.slice none 0 0, .slice none 0 0], errV n]) (by unfold results; rw [Tryz.results85]; go_simp) rfl (LAns.mk (below_two hB1 (Nat.le_refl _) _ _) [] none 0 [] none 0 (slT_nil _ _) (slT_nil _ _) F0.out)
  · have h0 : n = 0 := by simpa using hn
    obtain ⟨hn', F1⟩ := f1.out h0
    have F2 : Hid _ := F1
    subst h0
    subst hn'
    rw [show errV 0 = .nilIface from rfl]
    clear hn f0 f1 F1
    go_wp2_with fail
    refine (H2 _ (Hb.out.below hB1) (Ha.out.below hB1)).mono ?_
    rintro e w2 ⟨hb2, q, aq, cq, rfl, hq, hLB⟩
    rw [show errV 0 = .nilIface from rfl]
    have hB2 := bstep hB1 hb2
    have hBx := bstep hb1 hb2
    clear y0 y1 hz2 y2 y3
    obtain ⟨y0, y1, hz2, y2, y3⟩ := twobox hBx
    have Hq : Hid (SlT w2 am m ∧ SlT w2 aq q ∧ LB q ∧ LA m) := ⟨Hm.out.1.below hb2, hq, hLB, Hm.out.2⟩
    clear hq hLB Hm hb1 hb2 H2
    go_wp2_with fail
    exact bodyPost_ret (v := .tuple #[.agg #[.slice aq q.length cq, .slice am m.length cm], .nilIface]) (by unfold results; rw [Tryz.results85]; go_simp) rfl (LAns.mk (n := 0) (below_two hB2 (Nat.le_refl _) _ _) q aq cq m am cm (Hq.out.2.1.put2 y0 y1 _ _) (Hq.out.1.put2 y0 y1 _ _) (F2.out m q Hq.out.2.2.2 Hq.out.2.2.1))
end Go.Proofs.YtaddfndohoppeaaGreat

/- layer: Turn, Between, after: what they tell. -/
namespace Go.Proofs.YtaddfndohoppeaaGreat
open Go Go.RowKit Go.Proofs
set_option synthInstance.maxSize 1000

attribute [local go_sem] eql_errV neq_errV guard_errV

end Go.Proofs.YtaddfndohoppeaaGreat

/- layer: follows, Then, Apply: what they tell. -/
namespace Go.Proofs.YtaddfndohoppeaaGreat
open Go Go.RowKit Go.Proofs
set_option synthInstance.maxSize 1000

attribute [local go_sem] eql_errV neq_errV guard_errV


set_option maxHeartbeats 4000000 in
set_option maxRecDepth 100000 in
theorem LApply_any (sd ad bd : Option Addr) (cs ca cb : Nat) (s a b : List Tr) (w : World) (hs : SlT w sd s) (ha : SlT w ad a) (hb : SlT w bd b) (fs : ∀ x ∈ s, fitTr x) (fa : ∀ x ∈ a, fitTr x) (fb : ∀ x ∈ b, fitTr x) (ns : s.length ≤ 9223372036854775807) (na : a.length ≤ 9223372036854775807) (nb : b.length ≤ 9223372036854775807) :
    Calls Tryz.prog 12 #[.slice sd s.length cs, .agg #[.slice ad a.length ca, .slice bd b.length cb]] w (Ans (applyN s a b) (ApplyAns s a b) w) := by
  have H1 := fun W h1 => Sorted_any sd cs s W h1 fs ns
  have H2 := fun W h1 h2 => LCheck_any ad bd ca cb a b W h1 h2 fa fb na nb
  have H3 := fun W h1 h2 => apart_any sd ad cs ca s a W h1 h2 fs fa ns na
  have H4 := fun W h1 h2 => within_any sd bd cs cb s b W h1 h2 fs fb ns nb
  have H5 := fun W h1 h2 h3 => swap_any sd bd ad cs cb ca s b a W h1 h2 h3 fs fb fa ns nb na
  have HS : Hid (SlT w sd s ∧ SlT w ad a ∧ SlT w bd b) := ⟨hs, ha, hb⟩
  have fin : Hid (applyN s a b = orN (sortedN s) (orN (apartN a b) (orN (apartN s a) (orN (withinN s b) (swapN s b a))))) := rfl
  have f0 : Hid (∀ n, applyN s a b = n → ¬ n = 0 → ApplyAns s a b []) := fun n h h0 => ⟨fun e => absurd (h.symm.trans e) h0, fun _ => rfl⟩
  have f1 : Hid (applyN s a b = swapN s b a → ∀ m, SwapAns s b a m → ApplyAns s a b m) := fun h m hm => ⟨fun e => hm.1 (h.symm.trans e), fun e => hm.2 (fun e' => e (h.trans e'))⟩
  generalize ApplyAns s a b = AA at *
  generalize SwapAns s b a = SA at *
  generalize applyN s a b = N at *
  generalize sortedN s = n1 at *
  generalize apartN a b = n2 at *
  generalize apartN s a = n3 at *
  generalize withinN s b = n4 at *
  generalize swapN s b a = n5 at *
  clear hs ha hb fs fa fb ns na nb
  go_enter Tryz.func12, Tryz.ntmps12
  go_wp2_with fail
  refine (H1 _ (HS.out.1.below (balloc _ _))).mono ?_
  rintro e w1 ⟨rfl, hb1⟩
  have hB1 := bstep (balloc _ _) hb1
  obtain ⟨x0, x1, hz1, _, _⟩ := twobox hb1
  clear H1
  cases hn1 : (n1 == 0)
  · have h0 : ¬ n1 = 0 := by simpa using hn1
    have hN := fin.out.trans (orN_neg h0)
    have F0 : Hid _ := f0.out _ hN h0
    subst hN
    clear fin f0 f1 H2 H3 H4 H5 h0
    go_wp2_with fail
    exact bodyPost_ret (v := .tuple #[.slice none 0 0, errV N]) (by simp [results, Tryz.results12, go_sem]) rfl (Ans.mk hB1 [] none 0 (slT_nil _ _) F0.out)
  · have g1 : Hid (N = orN n2 (orN n3 (orN n4 n5))) := fin.out.trans (orN_pos (by simpa using hn1))
    clear fin
    go_wp2_with fail
    refine (H2 _ (HS.out.2.1.below hB1) (HS.out.2.2.below hB1)).mono ?_
    rintro e w2 ⟨rfl, hb2⟩
    have hB2 := bstep hB1 hb2
    have hb2' := bstep hb1 hb2
    clear x0 x1 hz1 H2 hb1 hb2
    obtain ⟨x0, x1, hz1, _, _⟩ := twobox hb2'
    cases hn2 : (n2 == 0)
    · have h0 : ¬ n2 = 0 := by simpa using hn2
      have hN := g1.out.trans (orN_neg h0)
      have F0 : Hid _ := f0.out _ hN h0
      subst hN
      clear g1 f0 f1 H3 H4 H5 h0
      go_wp2_with fail
      exact bodyPost_ret (v := .tuple #[.slice none 0 0, errV N]) (by simp [results, Tryz.results12, go_sem]) rfl (Ans.mk hB2 [] none 0 (slT_nil _ _) F0.out)
    · have g2 : Hid (N = orN n3 (orN n4 n5)) := g1.out.trans (orN_pos (by simpa using hn2))
      clear g1
      go_wp2_with fail
      refine (H3 _ (HS.out.1.below hB2) (HS.out.2.1.below hB2)).mono ?_
      rintro e w3 ⟨rfl, hb3⟩
      have hB3 := bstep hB2 hb3
      have hb3' := bstep hb2' hb3
      clear x0 x1 hz1 H3 hb2' hb3
      obtain ⟨x0, x1, hz1, _, _⟩ := twobox hb3'
      cases hn3 : (n3 == 0)
      · have h0 : ¬ n3 = 0 := by simpa using hn3
        have hN := g2.out.trans (orN_neg h0)
        have F0 : Hid _ := f0.out _ hN h0
        subst hN
        clear g2 f0 f1 H4 H5 h0
        go_wp2_with fail
        exact bodyPost_ret (v := .tuple #[.slice none 0 0, errV N]) (by simp [results, Tryz.results12, go_sem]) rfl (Ans.mk hB3 [] none 0 (slT_nil _ _) F0.out)
      · have g3 : Hid (N = orN n4 n5) := g2.out.trans (orN_pos (by simpa using hn3))
        clear g2
        go_wp2_with fail
        refine (H4 _ (HS.out.1.below hB3) (HS.out.2.2.below hB3)).mono ?_
        rintro e w4 ⟨rfl, hb4⟩
        have hB4 := bstep hB3 hb4
        have hb4' := bstep hb3' hb4
        clear x0 x1 hz1 H4 hb3' hb4
        obtain ⟨x0, x1, hz1, _, _⟩ := twobox hb4'
        cases hn4 : (n4 == 0)
        · have h0 : ¬ n4 = 0 := by simpa using hn4
          have hN := g3.out.trans (orN_neg h0)
          have F0 : Hid _ := f0.out _ hN h0
          subst hN
          clear g3 f0 f1 H5 h0
          go_wp2_with fail
          exact bodyPost_ret (v := .tuple #[.slice none 0 0, errV N]) (by simp [results, Tryz.results12, go_sem]) rfl (Ans.mk hB4 [] none 0 (slT_nil _ _) F0.out)
        · have hN := g3.out.trans (orN_pos (by simpa using hn4))
          have F1 : Hid _ := f1.out hN
          subst hN
          clear g3 f0 f1
          go_wp2_with fail
          refine (H5 _ (HS.out.1.below hB4) (HS.out.2.2.below hB4) (HS.out.2.1.below hB4)).mono ?_
          rintro e w5 ⟨hb5, q, aq, cq, rfl, hq, hSA⟩
          have Hq : Hid (SlT w5 aq q ∧ SA q) := ⟨hq, hSA⟩
          clear hq hSA H5
          go_wp2_with fail
          exact bodyPost_ret (v := .tuple #[.slice aq q.length cq, errV N]) (by simp [results, Tryz.results12, go_sem]) rfl (Ans.mk (bstep hB4 hb5) q aq cq Hq.out.1 (F1.out q Hq.out.2))
end Go.Proofs.YtaddfndohoppeaaGreat

/- layer.Then: what it tells; stratasame.Layer. -/
namespace Go.Proofs.YtaddfndohoppeaaGreat
open Go Go.RowKit Go.Proofs
set_option synthInstance.maxSize 1000

attribute [local go_sem] eql_errV neq_errV guard_errV

end Go.Proofs.YtaddfndohoppeaaGreat

/- layer's calls where nothing is wrong: between two sets and three. -/
namespace Go.Proofs.YtaddfndohoppeaaGreat
open Go Go.RowKit Go.Proofs
set_option synthInstance.maxSize 1000

/-- a layer's answer that is right -/
def LOk (w : World) (m1 m2 : List Tr) (e : Ending) (w' : World) : Prop := RowKit.Below w.heap.size w w' ∧ ∃ (a1 : Option Addr) (c1 : Nat) (a2 : Option Addr) (c2 : Nat), e = .returned (.tuple #[.agg #[.slice a1 m1.length c1, .slice a2 m2.length c2], .nilIface]) ∧ SlT w' a1 m1 ∧ SlT w' a2 m2
/-- a list's answer that is right -/
def TOk (w : World) (m : List Tr) (e : Ending) (w' : World) : Prop := RowKit.Below w.heap.size w w' ∧ ∃ (a1 : Option Addr) (c1 : Nat), e = .returned (.tuple #[.slice a1 m.length c1, .nilIface]) ∧ SlT w' a1 m

theorem setLen {a : List Tr} (h : IsSet a) : a.length ≤ 9223372036854775807 := by have := h.1; omega

theorem BtwGood_any (ad bd : Option Addr) (ca cb : Nat) (a b : List Tr) (w : World) (ha : SlT w ad a) (hb : SlT w bd b) (sa : IsSet a) (sb : IsSet b) :
    Calls Tryz.prog 85 #[.slice ad a.length ca, .slice bd b.length cb] w (LOk w (lessL b a) (lessL a b)) := by
  have h0 : bothN a b = 0 := bothN_zero.2 ⟨sa, sb⟩
  refine (LBetween_any ad bd ca cb a b w ha hb sa.fit sb.fit (setLen sa) (setLen sb)).mono ?_
  rintro e w' ⟨hb', m1, a1, c1, m2, a2, c2, rfl, h1, h2, hA, _⟩
  obtain ⟨rfl, rfl⟩ := hA h0
  exact ⟨hb', a1, c1, a2, c2, by rw [h0]; rfl, h1, h2⟩
theorem ApplyGood_any (ad a1 a2 : Option Addr) (ca c1 c2 : Nat) (a b : List Tr) (w : World) (ha : SlT w ad a) (h1 : SlT w a1 (lessL b a)) (h2 : SlT w a2 (lessL a b)) (sa : IsSet a) (sb : IsSet b) :
    Calls Tryz.prog 12 #[.slice ad a.length ca, .agg #[.slice a1 (lessL b a).length c1, .slice a2 (lessL a b).length c2]] w (TOk w b) := by
  have h0 := apply_btw sa sb
  have s1 : IsSet (lessL b a) := lessSet sb
  have s2 : IsSet (lessL a b) := lessSet sa
  refine (LApply_any ad a1 a2 ca c1 c2 a (lessL b a) (lessL a b) w ha h1 h2 sa.fit s1.fit s2.fit (setLen sa) (setLen s1) (setLen s2)).mono ?_
  rintro e w' ⟨hb', m, am, cm, rfl, hm, hA⟩
  obtain rfl := apply_btw_ans sa sb hA
  exact ⟨hb', am, cm, by rw [h0]; rfl, hm⟩
theorem SameGood_any (ad bd : Option Addr) (ca cb : Nat) (l : List Tr) (w : World) (hl : SlT w ad l) (hm : SlT w bd l) (sl : IsSet l) :
    Calls Tryz.prog 13 #[.slice ad l.length ca, .slice bd l.length cb] w fun e w' => e = .returned (.bool true) ∧ RowKit.Below w.heap.size w w' := by
  have := SameTriples_any ad bd ca cb l l w hl hm (by have := sl.1; omega) (by have := sl.1; omega)
  rw [show decide (l = l) = true by simp] at this
  exact this

/-- a layer in a box -/
def BoxL (W : World) (b : Nat) (v0 v1 : Value) : Prop := W.cell? ⟨b, 0, none⟩ = some v0 ∧ W.cell? ⟨b, 1, none⟩ = some v1
theorem BoxL.below {W W' : World} {b : Nat} {v0 v1 : Value} (h : BoxL W b v0 v1) (hb : RowKit.Below W.heap.size W W') : BoxL W' b v0 v1 :=
  ⟨(hb.cell (World.block_lt_of_cell? W _ h.1)).trans h.1, (hb.cell (World.block_lt_of_cell? W _ h.2)).trans h.2⟩
theorem BoxL.new (w : World) (v0 v1 : Value) (T : TypeId) : BoxL (w.alloc (.cells #[v0, v1] T)) w.heap.size v0 v1 := ⟨by go_simp, by go_simp⟩
end Go.Proofs.YtaddfndohoppeaaGreat
