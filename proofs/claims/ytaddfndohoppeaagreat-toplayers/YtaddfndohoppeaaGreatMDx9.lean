import Derived.Test.YtaddfndohoppeaaGreatMCTopLayersx3
import Derived.Test.YtaddfndohoppeaaGreatMDx8
import Derived.Test.YtaddfndohoppeaaGreatMA0x0
import Derived.Laws.DeepStrings4
import Derived.RegionTactic
import Derived.RangeFuncBound
import Derived.RangeFuncCalls
import Derived.Shelf.Abstract
import Derived.Shelf.AbstractIn
import Derived.Shelf.RegionOpen
import Derived.WalkKit
import Derived.OwnWalkIn
import Derived.TacticsInMore
import Derived.RegionIn
import Derived.LoopNIn
import Derived.LoopIn
import Derived.Test.YtaddfndohoppeaaGreatMDx6
import Derived.Test.YtaddfndohoppeaaGreatMA0x6
import Derived.Test.YtaddfndohoppeaaGreatRows
import Derived.ProofKit
import Derived.OpenShut
import Derived.ShutString
import Derived.SizedLaws
import Derived.Lib.SmallJoins
import Derived.Test.YtaddfndohoppeaaGreatMA0x2
import Derived.Deep.Slices
import Derived.Deep.Strs
import Derived.Carry
import Derived.Deep.Matrix
import Derived.WideShapes
import Derived.ChangeSlices

/- strings.Lines: its iterator hands over a text's lines, one by one. -/
namespace Go.Proofs.YtaddfndohoppeaaGreat
open Go Go.RowKit Go.Proofs Go.Shelf
set_option synthInstance.maxSize 1000

theorem index_no10 {s : List UInt8} (h : cutN s = none) : Lib.indexByte s 10 = -1 := by
  induction s with
  | nil => rfl
  | cons c r ih =>
    unfold cutN at h
    split at h
    · cases h
    · rename_i hc
      have h' : cutN r = none := by
        cases hr : cutN r with
        | none => rfl
        | some p => rw [hr] at h; cases h
      unfold Lib.indexByte
      rw [if_neg (by simpa using hc), ih h']
      rfl
theorem index_some {s u t : List UInt8} (h : cutN s = some (u, t)) : Lib.indexByte s 10 = (u.length : Int) ∧ s.take (u.length + 1) = u ++ [10] ∧ s.drop (u.length + 1) = t := by
  obtain ⟨rfl, hu⟩ := cutN_some h
  refine ⟨?_, ?_, ?_⟩
  · clear h
    induction u with
    | nil => rfl
    | cons c r ih =>
      have hc := hu c (List.mem_cons_self ..)
      have e := ih fun d hd => hu d (List.mem_cons_of_mem _ hd)
      rw [List.cons_append]
      unfold Lib.indexByte
      rw [if_neg (by simpa using hc), e, if_neg (by simp), List.length_cons]
      omega
  · rw [List.take_append]; simp [List.take_of_length_le]
  · rw [List.drop_append]; simp
theorem takeLX (l : List UInt8) (k : Nat) : (⟨l.toArray⟩ : ByteArray).extract 0 k = ⟨(l.take k).toArray⟩ := by
  apply ByteArray.ext
  rw [ByteArray.data_extract]
  simp
theorem dropLX (l : List UInt8) (k : Nat) : (⟨l.toArray⟩ : ByteArray).extract k l.length = ⟨(l.drop k).toArray⟩ := by
  apply ByteArray.ext
  rw [ByteArray.data_extract]
  simp
  exact List.take_of_length_le (by simp)
/-- a line: no longer than a text may be -/
abbrev Ln := { x : List UInt8 // x.length ≤ 140737488355328 }
def valLn (x : Ln) : Array Value := #[.string ⟨x.1.toArray⟩]
/-- the box of what is left -/
def LeftBox (W : World) (B : Nat) (r : List UInt8) : Prop := W.heap[B]? = some (.cells #[.string ⟨r.toArray⟩] 9 (0, 0))
def leftAt (B : Nat) (W : World) : Nat := match W.cell? ⟨B, 0, none⟩ with
  | some (.string s) => s.size
  | _ => 0
theorem LeftBox.cell {W : World} {B : Nat} {r : List UInt8} (h : LeftBox W B r) : W.cell? ⟨B, 0, none⟩ = some (.string ⟨r.toArray⟩) := by simp [World.cell?, show W.heap[B]? = _ from h]
theorem LeftBox.frozen {W : World} {B : Nat} {r : List UInt8} (h : LeftBox W B r) : W.frozen? ⟨B, 0, none⟩ = false := by simp [World.frozen?, show W.heap[B]? = _ from h]
theorem LeftBox.left {W : World} {B : Nat} {r : List UInt8} (h : LeftBox W B r) : leftAt B W = r.length := by
  unfold leftAt
  rw [h.cell]
  rfl
theorem LeftBox.put {W : World} {B : Nat} {r : List UInt8} (h : LeftBox W B r) (t : List UInt8) : LeftBox (W.setCell ⟨B, 0, none⟩ (.string ⟨t.toArray⟩)) B t := Boxed.set (.string ⟨t.toArray⟩) h
theorem LeftBox.drew {W : World} {B : Nat} {r : List UInt8} (h : LeftBox W B r) : LeftBox W.drew B r := h

theorem Lines_any (s : List UInt8) (w : World) : Calls Tryz.prog 68 #[.string ⟨s.toArray⟩] w fun e w' => e = .returned (.func (.func 101) #[] #[.pointer (some ⟨w.heap.size, 0, none⟩)]) ∧ w' = w.alloc (.cells #[.string ⟨s.toArray⟩] 9) := by
  go_enter Tryz.func68, Tryz.ntmps68
  go_wp2
  go_ret
  exact ⟨rfl, rfl⟩

set_option maxRecDepth 100000 in
set_option maxHeartbeats 4000000 in
theorem lines_box (n : Nat) (Bs : Nat) (s : List UInt8) (w : World) (hs : s.length ≤ 140737488355328) (hB : LeftBox w Bs s) :
    SeqBox Fence.wide n Tryz.prog 101 #[.pointer (some ⟨Bs, 0, none⟩)] valLn Bs (fun xs => xs.map (·.1) = lns s) (fun xs => xs.map (·.1) <+: lns s) w := fun l J K W hW hJ hK hY h0 => by
  have hB0 : LeftBox W Bs s := hW.trans hB
  have hI : ∀ (r : List UInt8) (V : World), Calls Tryz.prog 102 #[.string ⟨r.toArray⟩, .int .u8 10] V fun e w' => e = .returned (.int .i64 (Lib.indexByte r 10)) ∧ w' = V := fun r V => Tryz.strings_IndexByte ⟨r.toArray⟩ 10 V
  refine callsIn_of_wp Tryz.func101 rfl trivial ?_ rfl
  simp only [Tryz.ntmps101, List.size_toArray, List.length_cons, List.length_nil, Nat.reduceAdd, Nat.reduceSub, Array.replicate_succ, Array.replicate_zero, List.push_toArray, List.append_toArray, List.nil_append, List.cons_append]
  gi_wp2
  gi_loopw [3] (fun _ wr => ∃ (pre : List Ln) (r : List UInt8), r.length ≤ s.length ∧ Hid (lns s = pre.map (·.1) ++ lns r) ∧ LeftBox wr Bs r ∧ J pre wr) (fun _ wr => leftAt Bs wr)
  case atStart => exact ⟨[], s, Nat.le_refl _, by simp [Hid], hB0, h0⟩
  case round =>
    obtain ⟨pre, r, hr, hl, hb, hj⟩ := hrel
    have hc := hb.cell
    have hf := hb.frozen
    by_cases hne : r = []
    · subst hne
      gi_wp2
      go_end0
      exact ⟨⟨_, rfl⟩, .inl ⟨pre, by have := hl.out; rw [lns_nil, List.append_nil] at this; exact this.symm, hj⟩⟩
    · have hpos : (0 : Int) < (r.length : Int) := by cases r with
        | nil => exact absurd rfl hne
        | cons c t => simp
      cases hcut : cutN r with
      | none =>
        have hi := hI r
        rw [index_no10 hcut] at hi
        have hb2 := hb.put []
        have hj2 : J pre (wr.setCell ⟨Bs, 0, none⟩ (.string ⟨([] : List UInt8).toArray⟩)) := hJ _ _ _ _ hj (grownBy_setCell' wr Bs _) fun x e => by cases e; rfl
        obtain ⟨fn, tmps, assign, body, hy, hR⟩ := hY pre ⟨r, by omega⟩ _ hj2
        dsimp only [valLn] at hy
        have hlast : Hid (lns s = (pre ++ [(⟨r, by omega⟩ : Ln)]).map (·.1) ++ lns []) := by have := hl.out; rw [lns_one hne hcut] at this; simpa [Hid, lns_nil] using this
        gi_wp2
        refine ⟨trivial, fun h => by simp [Fence.wide] at h, (callsIn_wide.2 (hi _)).mono ?_⟩
        rintro e w' ⟨rfl, hw⟩
        rw [hw]
        clear hw
        gi_wp2
        refine ⟨fun h => by simp [Fence.wide] at h, hR.mono ?_⟩
        rintro e W3 (⟨rfl, hJ3, hk3⟩ | ⟨rfl, hK3⟩)
        · have hb3 : LeftBox W3 Bs [] := hk3.trans hb2
          gi_wp2
          go_roundw
          case rel => exact ⟨_, [], by simp, hlast, hb3, hJ3⟩
          case measure => rw [hb3.left, hb.left]; simp; omega
        · gi_wp2
          refine bodyPost_ret (results_none rfl _ _ _) rfl ?_
          exact ⟨⟨_, rfl⟩, .inr ⟨_, ⟨_, hlast.out.symm⟩, hK3⟩⟩
      | some p =>
        obtain ⟨u, t⟩ := p
        obtain ⟨e1, e2, e3⟩ := index_some hcut
        have hlen := cutN_len hcut
        have hi := hI r
        rw [e1] at hi
        have hx1 := takeLX r (u.length + 1)
        have hx2 := dropLX r (u.length + 1)
        rw [e2] at hx1
        rw [e3] at hx2
        obtain ⟨m, hm⟩ : ∃ m : Nat, m = u.length := ⟨_, rfl⟩
        rw [← hm] at hi hx1 hx2 hlen
        have i0 : (0 : Int) ≤ (m : Int) := by omega
        have i1 : ((m + 1 : Nat) : Int) ≤ (r.length : Int) := by omega
        have i2 : m + 1 ≤ r.length := by omega
        have i3 : (0 : Int) ≤ ((m + 1 : Nat) : Int) := by omega
        have w1 : IntKind.i64.wrap ((m : Int) + 1) = ((m + 1 : Nat) : Int) := by simp [IntKind.wrap, IntKind.bits, IntKind.signed]; omega
        have hb2 := (hb.put t).drew
        have hj2 : J pre (wr.setCell ⟨Bs, 0, none⟩ (.string ⟨t.toArray⟩)).drew := hJ _ _ _ (some Bs) hj ⟨rfl, rfl, rfl, (grownBy_setCell' wr Bs _).size, (grownBy_setCell' wr Bs (.string ⟨t.toArray⟩)).block⟩ fun x e => by cases e; rfl
        have hul : (u ++ [10]).length ≤ 140737488355328 := by simp; omega
        obtain ⟨fn, tmps, assign, body, hy, hR⟩ := hY pre ⟨u ++ [10], hul⟩ _ hj2
        dsimp only [valLn] at hy
        have hmore : Hid (lns s = (pre ++ [(⟨u ++ [10], hul⟩ : Ln)]).map (·.1) ++ lns t) := by have := hl.out; rw [lns_more hcut] at this; simpa [Hid] using this
        have Hlen : Hid (t.length < r.length) := by show t.length < r.length; omega
        have Htl : Hid (t.length ≤ s.length) := by show t.length ≤ s.length; omega
        clear e1 e2 e3 hm hlen
        gi_wp2
        refine ⟨trivial, fun h => by simp [Fence.wide] at h, (callsIn_wide.2 (hi _)).mono ?_⟩
        rintro e w' ⟨rfl, hw⟩
        rw [hw]
        clear hw
        gi_wp2
        gi_region
        gi_wp2
        refine ⟨fun h => by simp [Fence.wide] at h, hR.mono ?_⟩
        rintro e W3 (⟨rfl, hJ3, hk3⟩ | ⟨rfl, hK3⟩)
        · have hb3 : LeftBox W3 Bs t := hk3.trans hb2
          gi_wp2
          go_roundw
          case rel => exact ⟨_, t, Htl.out, hmore, hb3, hJ3⟩
          case measure => rw [hb3.left, hb.left]; exact Hlen.out
        · gi_wp2
          refine bodyPost_ret (results_none rfl _ _ _) rfl ?_
          exact ⟨⟨_, rfl⟩, .inr ⟨_, ⟨_, hmore.out.symm⟩, hK3⟩⟩
end Go.Proofs.YtaddfndohoppeaaGreat

/- The program's patch: Parse. -/
namespace Go.Proofs.YtaddfndohoppeaaGreat
open Go Go.RowKit Go.Proofs Go.Shelf
set_option synthInstance.maxSize 1000
attribute [local go_sem] eql_errV neq_errV guard_errV
attribute [local go_sem] Oper.semAt_some

/-- between two lines: the boxes of what is answered, of the layer, of the number; the rows are one's own -/
structure ParSt (w W : World) (l : LyP) (n : Nat) (a1 : Option Addr) (c1 : Nat) (a2 : Option Addr) (c2 : Nat) : Prop where
  r0 : W.heap[w.heap.size]? = some (.cells #[.slice none 0 0, .slice none 0 0] 42 (0, 0))
  r1 : W.heap[w.heap.size + 1]? = some (.cells #[.int .i64 0] 3 (0, 0))
  r2 : W.heap[w.heap.size + 2]? = some (.cells #[.nilIface] 28 (0, 0))
  lay : W.heap[w.heap.size + 3]? = some (.cells #[.slice a1 l.1.length c1, .slice a2 l.2.length c2] 42 (0, 0))
  num : W.heap[w.heap.size + 4]? = some (.cells #[.int .i64 (n : Int)] 3 (0, 0))
  own : LyOwn (w.heap.size + 6) W (.slice a1 l.1.length c1) (.slice a2 l.2.length c2) l
  low : RowKit.Below w.heap.size w W
  big : w.heap.size + 6 ≤ W.heap.size
theorem own_ge {W : World} {B n : Nat} {v : Value} {xs : List Value} (hr : W.ownsRow B 58 9 v n xs) {j : Nat} (hj : v.ownBlock = some j) : B ≤ j := (hr.lt j hj).1
theorem own_cells {W : World} {B n : Nat} {v : Value} {xs : List Value} (hr : W.ownsRow B 58 9 v n xs) {j : Nat} (hj : v.ownBlock = some j) : ∃ o : Obj, W.heap[j]? = some o ∧ o.isCells = true := by
  rcases hr.2 with ⟨rfl, _⟩ | ⟨g, cap, cur, rfl, _, hgb, _⟩
  · cases hj
  · obtain rfl : g = j := by simpa [Value.ownBlock] using hj
    exact ⟨_, hgb, rfl⟩
theorem own_steady {A : World} {D n : Nat} {v : Value} {xs : List Value} {row : Option Nat} (h : A.ownsRow D 58 9 v n xs) (hr : ∀ r, row = some r → r < D ∨ ∃ o : Obj, A.heap[r]? = some o ∧ o.isCells = false) : ∀ j, row = some j → v.ownBlock ≠ some j := fun j e ej => by
  rcases hr j e with h1 | ⟨o, ho, hc⟩
  · have := own_ge h ej; omega
  · obtain ⟨o', ho', hc'⟩ := own_cells h ej
    rw [ho] at ho'
    cases ho'
    rw [hc] at hc'
    cases hc'
theorem ParSt.steady {w A B : World} {l : LyP} {n : Nat} {a1 : Option Addr} {c1 : Nat} {a2 : Option Addr} {c2 : Nat} {row : Option Nat} (h : ParSt w A l n a1 c1 a2 c2) (hg : A.grownBy B row) (hr : ∀ r, row = some r → r = w.heap.size + 5 ∨ (w.heap.size + 6 ≤ r ∧ ∃ o : Obj, A.heap[r]? = some o ∧ o.isCells = false)) : ParSt w B l n a1 c1 a2 c2 := by
  have hr' : ∀ r, row = some r → r < w.heap.size + 6 ∨ ∃ o : Obj, A.heap[r]? = some o ∧ o.isCells = false := fun r e => by
    rcases hr r e with h1 | h1
    · exact .inl (by omega)
    · exact .inr h1.2
  have q : ∀ {k : Nat} {o : Obj}, k < w.heap.size + 5 → A.heap[k]? = some o → B.heap[k]? = some o := fun hk ho => (hg.block _ (Array.getElem?_eq_some_iff.1 ho).1 (fun e => by rcases hr _ e.symm with h | h <;> omega)).trans ho
  have low : RowKit.Below w.heap.size w B := h.low.grown hg h.low.size (fun k e => by rcases hr k e with h | h <;> omega)
  exact ⟨q (by omega) h.r0, q (by omega) h.r1, q (by omega) h.r2, q (by omega) h.lay, q (by omega) h.num, ⟨own_stay h.own.add hg (own_steady h.own.add hr'), own_stay h.own.take hg (own_steady h.own.take hr'), h.own.ne⟩, low, Nat.le_trans h.big hg.size⟩
/-- a line was wrong: what is answered stands -/
def ParBad (w W : World) (n : Nat) (N : Int) : Prop := W.heap[w.heap.size]? = some (.cells #[.slice none 0 0, .slice none 0 0] 42 (0, 0)) ∧ W.heap[w.heap.size + 1]? = some (.cells #[.int .i64 (n : Int)] 3 (0, 0)) ∧ W.heap[w.heap.size + 2]? = some (.cells #[errV N] 28 (0, 0)) ∧ RowKit.Below w.heap.size w W
theorem ParBad.steady {w A B : World} {n : Nat} {N : Int} {row : Option Nat} (h : ParBad w A n N) (hg : A.grownBy B row) (hr : ∀ r, row = some r → w.heap.size + 3 ≤ r) : ParBad w B n N := by
  have q : ∀ {k : Nat} {o : Obj}, k < w.heap.size + 3 → A.heap[k]? = some o → B.heap[k]? = some o := fun hk ho => (hg.block _ (Array.getElem?_eq_some_iff.1 ho).1 (fun e => by have := hr _ e.symm; omega)).trans ho
  exact ⟨q (by omega) h.1, q (by omega) h.2.1, q (by omega) h.2.2.1, h.2.2.2.grown hg h.2.2.2.size (fun k e => by have := hr k e; omega)⟩
theorem box1_set {W : World} {b : Nat} {p : Value} {T : TypeId} (h : W.heap[b]? = some (.cells #[p] T (0, 0))) (u : Value) : (W.setCell ⟨b, 0, none⟩ u).heap[b]? = some (.cells #[u] T (0, 0)) := Boxed.set u h
theorem box2_set {W : World} {b : Nat} {p q : Value} {T : TypeId} (h : W.heap[b]? = some (.cells #[p, q] T (0, 0))) (u v : Value) : ((W.setCell ⟨b, 0, none⟩ u).setCell ⟨b, 1, none⟩ v).heap[b]? = some (.cells #[u, v] T (0, 0)) := by
  obtain ⟨hlt, hk⟩ := Array.getElem?_eq_some_iff.1 h
  have h1 : (W.setCell ⟨b, 0, none⟩ u).heap[b]? = some (.cells #[u, q] T (0, 0)) := by
    show (W.heap.modify b _)[b]? = _
    rw [Array.getElem?_eq_getElem (by rw [Array.size_modify]; exact hlt), Array.getElem_modify_self, hk]
    rfl
  obtain ⟨hlt1, hk1⟩ := Array.getElem?_eq_some_iff.1 h1
  show ((W.setCell ⟨b, 0, none⟩ u).heap.modify b _)[b]? = _
  rw [Array.getElem?_eq_getElem (by rw [Array.size_modify]; exact hlt1), Array.getElem_modify_self, hk1]
  rfl
theorem boxI {W : World} {b : Nat} {p : Value} {T : TypeId} (h : W.heap[b]? = some (.cells #[p] T (0, 0))) : W.cell? ⟨b, 0, none⟩ = some p ∧ W.frozen? ⟨b, 0, none⟩ = false ∧ b < W.heap.size :=
  ⟨by simp [World.cell?, h], by simp [World.frozen?, h], (Array.getElem?_eq_some_iff.1 h).1⟩
/-- one line more -/
theorem ParSt.next0 {w W w3 : World} {l m : LyP} {n : Nat} {a1 : Option Addr} {c1 : Nat} {a2 : Option Addr} {c2 : Nat} {d1 : Option Addr} {e1 : Nat} {d2 : Option Addr} {e2 : Nat} (h : ParSt w W l n a1 c1 a2 c2)
    (hown : LyOwn (w.heap.size + 6) w3 (.slice d1 m.1.length e1) (.slice d2 m.2.length e2) m) {row : Option Nat} (hg : W.grownBy w3 row) (hr : ∀ j, row = some j → (Value.slice a1 l.1.length c1).ownBlock = some j ∨ (Value.slice a2 l.2.length c2).ownBlock = some j) (hn : ((n + 1 : Nat) : Int) = (n : Int) + 1) :
    KeepsFrom (w.heap.size + 6) W (((w3.setCell ⟨w.heap.size + 3, 0, none⟩ (.slice d1 m.1.length e1)).setCell ⟨w.heap.size + 3, 1, none⟩ (.slice d2 m.2.length e2)).setCell ⟨w.heap.size + 4, 0, none⟩ (.int .i64 ((n : Int) + 1))) ∧
    (((w3.setCell ⟨w.heap.size + 3, 0, none⟩ (.slice d1 m.1.length e1)).setCell ⟨w.heap.size + 3, 1, none⟩ (.slice d2 m.2.length e2)).setCell ⟨w.heap.size + 4, 0, none⟩ (.int .i64 ((n : Int) + 1))).heap[w.heap.size + 5]? = W.heap[w.heap.size + 5]? ∧
    ParSt w (((w3.setCell ⟨w.heap.size + 3, 0, none⟩ (.slice d1 m.1.length e1)).setCell ⟨w.heap.size + 3, 1, none⟩ (.slice d2 m.2.length e2)).setCell ⟨w.heap.size + 4, 0, none⟩ (.int .i64 ((n : Int) + 1))) m (n + 1) d1 e1 d2 e2 := by
  have hrow : ∀ j, row = some j → w.heap.size + 6 ≤ j ∧ ∃ o : Obj, W.heap[j]? = some o ∧ o.isCells = true := fun j e => by
    rcases hr j e with h1 | h1
    · exact ⟨own_ge h.own.add h1, own_cells h.own.add h1⟩
    · exact ⟨own_ge h.own.take h1, own_cells h.own.take h1⟩
  have h3 : ∀ {k : Nat}, k < W.heap.size → some k ≠ row → w3.heap[k]? = W.heap[k]? := fun hk hne => hg.block _ hk hne
  have hlow : ∀ {k : Nat}, k < w.heap.size + 6 → some k ≠ row := fun hk e => by have := (hrow _ e.symm).1; omega
  have hbig := h.big
  have b3 : w3.heap[w.heap.size + 3]? = some (.cells #[.slice a1 l.1.length c1, .slice a2 l.2.length c2] 42 (0, 0)) := (h3 (by omega) (hlow (by omega))).trans h.lay
  have b4 : w3.heap[w.heap.size + 4]? = some (.cells #[.int .i64 (n : Int)] 3 (0, 0)) := (h3 (by omega) (hlow (by omega))).trans h.num
  have bo : ∀ {k : Nat}, k < w.heap.size + 6 → k ≠ w.heap.size + 3 → k ≠ w.heap.size + 4 → w3.heap[k]? = W.heap[k]? := fun h1 _ _ => h3 (by omega) (hlow h1)
  have low3 : RowKit.Below w.heap.size w w3 := h.low.grown hg h.low.size (fun k e => by have := (hrow k e).1; omega)
  have sz3 : w.heap.size + 6 ≤ w3.heap.size := by have := hg.size; omega
  have own3 : LyOwn (w.heap.size + 6) w3 (.slice d1 m.1.length e1) (.slice d2 m.2.length e2) m := hown
  have szW : W.heap.size ≤ w3.heap.size := by have := hg.size; omega
  clear hg hr hown
  generalize w3 = S at *
  have g4 : S.grownBy ((S.setCell ⟨w.heap.size + 3, 0, none⟩ (.slice d1 m.1.length e1)).setCell ⟨w.heap.size + 3, 1, none⟩ (.slice d2 m.2.length e2)) (some (w.heap.size + 3)) := (grown_set _ _ _ _).trans (grown_set _ _ _ _)
  have c3 := box2_set b3 (.slice d1 m.1.length e1) (.slice d2 m.2.length e2)
  generalize (S.setCell ⟨w.heap.size + 3, 0, none⟩ (.slice d1 m.1.length e1)).setCell ⟨w.heap.size + 3, 1, none⟩ (.slice d2 m.2.length e2) = S2 at *
  have b4' : S2.heap[w.heap.size + 4]? = some (.cells #[.int .i64 (n : Int)] 3 (0, 0)) := (g4.block _ (by omega) (by simp)).trans b4
  have g5 := grown_set S2 (w.heap.size + 4) 0 (.int .i64 ((n : Int) + 1))
  have c4 := box1_set b4' (.int .i64 ((n : Int) + 1))
  generalize S2.setCell ⟨w.heap.size + 4, 0, none⟩ (.int .i64 ((n : Int) + 1)) = S3 at *
  have s2 : S.heap.size ≤ S2.heap.size := g4.size
  have s3 : S2.heap.size ≤ S3.heap.size := g5.size
  have ho : ∀ {k : Nat}, k < S.heap.size → k ≠ w.heap.size + 3 → k ≠ w.heap.size + 4 → S3.heap[k]? = S.heap[k]? := fun hk n3 n4 => (g5.block _ (by omega) (by simpa using n4)).trans (g4.block _ hk (by simpa using n3))
  refine ⟨⟨?_, fun k o hk hko hc => ?_⟩, (ho (by omega) (by omega) (by omega)).trans (bo (by omega) (by omega) (by omega)), ?_⟩
  · have : W.heap.size ≤ S.heap.size := szW
    omega
  · have hlt := (Array.getElem?_eq_some_iff.1 hko).1
    have hne : some k ≠ row := fun e => by
      obtain ⟨_, o', ho', hc'⟩ := hrow k e.symm
      rw [hko] at ho'
      cases ho'
      rw [hc] at hc'
      cases hc'
    exact ((ho (by omega) (by omega) (by omega)).trans (h3 hlt hne)).trans hko
  · have q : ∀ {k : Nat} {o : Obj}, k < w.heap.size + 3 → W.heap[k]? = some o → S3.heap[k]? = some o := fun hk hko => ((ho (by omega) (by omega) (by omega)).trans (bo (by omega) (by omega) (by omega))).trans hko
    refine ⟨q (by omega) h.r0, q (by omega) h.r1, q (by omega) h.r2, (g5.block _ (by omega) (by simp)).trans c3, by rw [hn]; exact c4, (own3.stay g4 fun j e => ?_).stay g5 fun j e => ?_, (low3.grown g4 low3.size (fun k e => by cases e; omega)).grown g5 (by omega) (fun k e => by cases e; omega), by omega⟩
    · cases e
      exact ⟨fun e2 => by have := own_ge own3.add e2; omega, fun e2 => by have := own_ge own3.take e2; omega⟩
    · cases e
      exact ⟨fun e2 => by have := own_ge own3.add e2; omega, fun e2 => by have := own_ge own3.take e2; omega⟩

theorem ParSt.next {w W w3 : World} {l m : LyP} {n : Nat} {a1 : Option Addr} {c1 : Nat} {a2 : Option Addr} {c2 : Nat} {d1 : Option Addr} {e1 : Nat} {d2 : Option Addr} {e2 : Nat} (h : ParSt w W l n a1 c1 a2 c2)
    (hown : LyOwn (w.heap.size + 6) w3 (.slice d1 m.1.length e1) (.slice d2 m.2.length e2) m) {row : Option Nat} (hg : W.grownBy w3 row) (hr : ∀ j, row = some j → (Value.slice a1 l.1.length c1).ownBlock = some j ∨ (Value.slice a2 l.2.length c2).ownBlock = some j) (hn : ((n + 1 : Nat) : Int) = (n : Int) + 1) (box : Obj) :
    KeepsFrom (w.heap.size + 6) W ((((w3.setCell ⟨w.heap.size + 3, 0, none⟩ (.slice d1 m.1.length e1)).setCell ⟨w.heap.size + 3, 1, none⟩ (.slice d2 m.2.length e2)).setCell ⟨w.heap.size + 4, 0, none⟩ (.int .i64 ((n : Int) + 1))).alloc box) ∧ ((((w3.setCell ⟨w.heap.size + 3, 0, none⟩ (.slice d1 m.1.length e1)).setCell ⟨w.heap.size + 3, 1, none⟩ (.slice d2 m.2.length e2)).setCell ⟨w.heap.size + 4, 0, none⟩ (.int .i64 ((n : Int) + 1))).alloc box).heap[w.heap.size + 5]? = W.heap[w.heap.size + 5]? ∧ ParSt w ((((w3.setCell ⟨w.heap.size + 3, 0, none⟩ (.slice d1 m.1.length e1)).setCell ⟨w.heap.size + 3, 1, none⟩ (.slice d2 m.2.length e2)).setCell ⟨w.heap.size + 4, 0, none⟩ (.int .i64 ((n : Int) + 1))).alloc box) m (n + 1) d1 e1 d2 e2 := by
  obtain ⟨h1, h2, h3⟩ := h.next0 hown hg hr hn
  exact ⟨h1.trans ((KeepsOthers.alloc _ _).from _), (Below.heap_alloc _ _ _ (by have := h3.big; omega)).trans h2, h3.steady (World.grownBy_alloc _ _ none) (fun r e => by cases e)⟩
theorem parBad_fin {w W w3 : World} {l : LyP} {n : Nat} {a1 : Option Addr} {c1 : Nat} {a2 : Option Addr} {c2 : Nat} {N : Int} (h : ParSt w w3 l n a1 c1 a2 c2) (hb : RowKit.Below W.heap.size W w3) (hE : errV N = .iface 82 (.int .i64 N)) (box : Obj) :
    KeepsFrom (w.heap.size + 6) W (((((w3.setCell ⟨w.heap.size, 0, none⟩ (.slice none 0 0)).setCell ⟨w.heap.size, 1, none⟩ (.slice none 0 0)).setCell ⟨w.heap.size + 1, 0, none⟩ (.int .i64 (n : Int))).setCell ⟨w.heap.size + 2, 0, none⟩ (.iface 82 (.int .i64 N))).alloc box).drew ∧
    ParBad w (((((w3.setCell ⟨w.heap.size, 0, none⟩ (.slice none 0 0)).setCell ⟨w.heap.size, 1, none⟩ (.slice none 0 0)).setCell ⟨w.heap.size + 1, 0, none⟩ (.int .i64 (n : Int))).setCell ⟨w.heap.size + 2, 0, none⟩ (.iface 82 (.int .i64 N))).alloc box).drew n N := by
  have hbig := h.big
  have g1 : w3.grownBy ((w3.setCell ⟨w.heap.size, 0, none⟩ (.slice none 0 0)).setCell ⟨w.heap.size, 1, none⟩ (.slice none 0 0)) (some w.heap.size) := (grown_set _ _ _ _).trans (grown_set _ _ _ _)
  have c1' := box2_set h.r0 (.slice none 0 0) (.slice none 0 0)
  generalize (w3.setCell ⟨w.heap.size, 0, none⟩ (.slice none 0 0)).setCell ⟨w.heap.size, 1, none⟩ (.slice none 0 0) = S1 at *
  have s1 := g1.size
  have g2 := grown_set S1 (w.heap.size + 1) 0 (.int .i64 (n : Int))
  have c2' := box1_set (((g1.block _ (by omega) (by simp)).trans h.r1)) (.int .i64 (n : Int))
  have k2 : (S1.setCell ⟨w.heap.size + 1, 0, none⟩ (.int .i64 (n : Int))).heap[w.heap.size + 2]? = some (.cells #[.nilIface] 28 (0, 0)) := (g2.block _ (by omega) (by simp)).trans ((g1.block _ (by omega) (by simp)).trans h.r2)
  generalize S1.setCell ⟨w.heap.size + 1, 0, none⟩ (.int .i64 (n : Int)) = S2 at *
  have s2 := g2.size
  have g3 := grown_set S2 (w.heap.size + 2) 0 (.iface 82 (.int .i64 N))
  have c3' := box1_set k2 (.iface 82 (.int .i64 N))
  generalize S2.setCell ⟨w.heap.size + 2, 0, none⟩ (.iface 82 (.int .i64 N)) = S3 at *
  have s3 := g3.size
  have ho : ∀ {k : Nat}, k < w3.heap.size → w.heap.size + 3 ≤ k → (S3.alloc box).drew.heap[k]? = w3.heap[k]? := fun {k} hk h3 => by
    show (S3.alloc box).heap[k]? = _
    exact (Below.heap_alloc _ _ _ (by omega)).trans ((g3.block _ (by omega) (by simp; omega)).trans ((g2.block _ (by omega) (by simp; omega)).trans (g1.block _ hk (by simp; omega))))
  have al : ∀ {k : Nat} {o : Obj}, S3.heap[k]? = some o → (S3.alloc box).drew.heap[k]? = some o := fun {k o} hk => by
    show (S3.alloc box).heap[k]? = _
    exact (Below.heap_alloc _ _ _ (Array.getElem?_eq_some_iff.1 hk).1).trans hk
  refine ⟨⟨?_, fun k o hk hko _ => ?_⟩, al ((g3.block _ (by omega) (by simp)).trans ((g2.block _ (by omega) (by simp)).trans c1')), al ((g3.block _ (by omega) (by simp)).trans c2'), by rw [hE]; exact al c3', ?_⟩
  · have := hb.size
    show W.heap.size ≤ (S3.alloc box).heap.size
    simp
    omega
  · have hlt := (Array.getElem?_eq_some_iff.1 hko).1
    exact (ho (by have := hb.size; omega) (by omega)).trans ((hb.block _ hlt).trans hko)
  · exact ((((h.low.grown g1 h.low.size (fun k e => by cases e; omega)).grown g2 (by omega) (fun k e => by cases e; omega)).grown g3 (by omega) (fun k e => by cases e; omega)).alloc (by omega) _).drew

theorem putK {V : World} {b D : Nat} {o o' : Obj} (h : V.heap[b]? = some o) (hb : b ≠ D) : (V.putObj D o').heap[b]? = some o := (World.putObj_heap_other hb).trans h
/-- what is answered of lines that are all right -/
theorem parDone {w W : World} {s : List UInt8} {l : LyP} {n : Nat} {a1 : Option Addr} {c1 : Nat} {a2 : Option Addr} {c2 : Nat} (h : ParSt w W l n a1 c1 a2 c2) (hK : W.heap[w.heap.size + 6]? = some (.deferred (some []))) (hp : parseP s = (0, 0, l)) (V : World) (hV : V = (((W.setCell ⟨w.heap.size, 0, none⟩ (.slice a1 l.1.length c1)).setCell ⟨w.heap.size, 1, none⟩ (.slice a2 l.2.length c2)).setCell ⟨w.heap.size + 1, 0, none⟩ (.int .i64 0)).setCell ⟨w.heap.size + 2, 0, none⟩ .nilIface) :
    V.heap[w.heap.size]? = some (.cells #[.slice a1 l.1.length c1, .slice a2 l.2.length c2] 42 (0, 0)) ∧ V.heap[w.heap.size + 1]? = some (.cells #[.int .i64 0] 3 (0, 0)) ∧ V.heap[w.heap.size + 2]? = some (.cells #[.nilIface] 28 (0, 0)) ∧ V.heap[w.heap.size + 6]? = some (.deferred (some [])) ∧
    ParseAns s w (.returned (.tuple #[.agg #[.slice a1 l.1.length c1, .slice a2 l.2.length c2], .int .i64 0, .nilIface])) (V.putObj (w.heap.size + 6) (.deferred none)) := by
  have hbig := h.big
  have hD := (Array.getElem?_eq_some_iff.1 hK).1
  have g1 : W.grownBy ((W.setCell ⟨w.heap.size, 0, none⟩ (.slice a1 l.1.length c1)).setCell ⟨w.heap.size, 1, none⟩ (.slice a2 l.2.length c2)) (some w.heap.size) := (grown_set _ _ _ _).trans (grown_set _ _ _ _)
  have c1' := box2_set h.r0 (.slice a1 l.1.length c1) (.slice a2 l.2.length c2)
  generalize (W.setCell ⟨w.heap.size, 0, none⟩ (.slice a1 l.1.length c1)).setCell ⟨w.heap.size, 1, none⟩ (.slice a2 l.2.length c2) = S1 at *
  have s1 := g1.size
  have g2 := grown_set S1 (w.heap.size + 1) 0 (.int .i64 0)
  have c2' := box1_set (((g1.block _ (by omega) (by simp)).trans h.r1)) (.int .i64 0)
  have k2 : (S1.setCell ⟨w.heap.size + 1, 0, none⟩ (.int .i64 0)).heap[w.heap.size + 2]? = some (.cells #[.nilIface] 28 (0, 0)) := (g2.block _ (by omega) (by simp)).trans ((g1.block _ (by omega) (by simp)).trans h.r2)
  generalize S1.setCell ⟨w.heap.size + 1, 0, none⟩ (.int .i64 0) = S2 at *
  have s2 := g2.size
  have g3 := grown_set S2 (w.heap.size + 2) 0 .nilIface
  have c3' := box1_set k2 .nilIface
  generalize S2.setCell ⟨w.heap.size + 2, 0, none⟩ .nilIface = S3 at *
  subst hV
  have s3 := g3.size
  have hK3 : V.heap[w.heap.size + 6]? = some (.deferred (some [])) := (g3.block _ (by omega) (by simp)).trans ((g2.block _ (by omega) (by simp)).trans ((g1.block _ (by omega) (by simp)).trans hK))
  have low : RowKit.Below w.heap.size w V := ((h.low.grown g1 h.low.size (fun k e => by cases e; omega)).grown g2 (by omega) (fun k e => by cases e; omega)).grown g3 (by omega) (fun k e => by cases e; omega)
  have lt : ∀ (j k : Nat), some j = some k → k < w.heap.size + 6 → j < w.heap.size + 6 ∨ ∃ o : Obj, W.heap[j]? = some o ∧ o.isCells = false := fun j k e hk => by cases e; exact .inl hk
  have own1 : ∀ {v : Value} {n : Nat} {xs : List Value}, W.ownsRow (w.heap.size + 6) 58 9 v n xs → (V.putObj (w.heap.size + 6) (.deferred none)).ownsRow (w.heap.size + 6) 58 9 v n xs := fun {v n xs} ho => by
    have ge : ∀ j, v.ownBlock = some j → w.heap.size + 6 ≤ j := fun j e => own_ge ho e
    have o1 := own_stay ho g1 fun j e e2 => by cases e; have := ge _ e2; omega
    have o2 := own_stay o1 g2 fun j e e2 => by cases e; have := ge _ e2; omega
    have o3 := own_stay o2 g3 fun j e e2 => by cases e; have := ge _ e2; omega
    exact ownsRow_putObj o3 _ hK3 rfl
  have sl : ∀ {ad : Option Addr} {c : Nat} {m : List Tr}, W.ownsRow (w.heap.size + 6) 58 9 (.slice ad m.length c) m.length (cellsT m) → SlT (V.putObj (w.heap.size + 6) (.deferred none)) ad m := fun {ad c m} ho => by
    obtain ⟨ad', c', e, hs⟩ := own_slT (own1 ho)
    rw [(Value.slice.inj e).1]
    exact hs
  refine ⟨(g3.block _ (by omega) (by simp)).trans ((g2.block _ (by omega) (by simp)).trans c1'), (g3.block _ (by omega) (by simp)).trans c2', c3', hK3, ?_⟩
  unfold ParseAns
  rw [hp]
  exact ⟨a1, c1, a2, c2, rfl, sl h.own.add, sl h.own.take, low.grown (grownBy_putObj' _ _ _) low.size (fun k e => by cases e; omega)⟩
theorem parStop {w W : World} {s : List UInt8} {n : Nat} {N : Int} (h : ParBad w W n N) (hp : parseP s = (N, n, ([], []))) : ParseAns s w (.returned (.tuple #[.agg #[.slice none 0 0, .slice none 0 0], .int .i64 (n : Int), errV N])) (W.putObj (w.heap.size + 6) (.deferred none)) := by
  unfold ParseAns
  rw [hp]
  exact ⟨none, 0, none, 0, rfl, fun h => absurd rfl h, fun h => absurd rfl h, h.2.2.2.grown (grownBy_putObj' _ _ _) h.2.2.2.size (fun k e => by cases e; omega)⟩

/-- between two rounds -/
def ParI (w : World) (xs : List Ln) (W : World) : Prop := ∃ l a1 c1 a2 c2, okFrom ([], []) (xs.map (·.1)) = some l ∧ ParSt w W l xs.length a1 c1 a2 c2
/-- a round has told what is wrong -/
def ParX (w : World) (xs : List Ln) (W : World) : Prop := ∃ (q : List Ln) (x : Ln) (l : LyP), xs = q ++ [x] ∧ okFrom ([], []) (q.map (·.1)) = some l ∧ lineE l x.1 ≠ 0 ∧ ParBad w W q.length (lineE l x.1)
theorem ParI.steady (w : World) : Steady (w.heap.size + 6) (w.heap.size + 5) (ParI w) := fun _ _ _ _ hs hg hr => by
  obtain ⟨l, a1, c1, a2, c2, h1, h2⟩ := hs
  exact ⟨l, a1, c1, a2, c2, h1, h2.steady hg hr⟩
theorem ParX.steady (w : World) : Steady (w.heap.size + 6) (w.heap.size + 5) (ParX w) := fun _ _ _ _ hs hg hr => by
  obtain ⟨q, x, l, h1, h2, h3, h4⟩ := hs
  exact ⟨q, x, l, h1, h2, h3, h4.steady hg fun r e => by rcases hr r e with h | h <;> omega⟩

theorem parStart (w : World) (s : List UInt8) : ParSt w ((((((w.alloc (.cells #[.slice none 0 0, .slice none 0 0] 42)).alloc (.cells #[.int .i64 0] 3)).alloc (.cells #[.nilIface] 28)).alloc (.cells #[.slice none 0 0, .slice none 0 0] 42)).alloc (.cells #[.int .i64 0] 3)).alloc (.cells #[.string ⟨s.toArray⟩] 9)) ([], []) 0 none 0 none 0 ∧ LeftBox ((((((w.alloc (.cells #[.slice none 0 0, .slice none 0 0] 42)).alloc (.cells #[.int .i64 0] 3)).alloc (.cells #[.nilIface] 28)).alloc (.cells #[.slice none 0 0, .slice none 0 0] 42)).alloc (.cells #[.int .i64 0] 3)).alloc (.cells #[.string ⟨s.toArray⟩] 9)) (w.heap.size + 5) s := by
  have al : ∀ (V : World) (o : Obj) (k : Nat) (x : Obj), V.heap[k]? = some x → (V.alloc o).heap[k]? = some x := fun V o k x h => (Below.heap_alloc _ _ _ (Array.getElem?_eq_some_iff.1 h).1).trans h
  have nw : ∀ (V : World) (o : Obj) (k : Nat), V.heap.size = k → (V.alloc o).heap[k]? = some o := fun V o k h => by subst h; exact World.alloc_heap_new V o
  refine ⟨⟨al _ _ _ _ (al _ _ _ _ (al _ _ _ _ (al _ _ _ _ (al _ _ _ _ (nw _ _ _ rfl))))), al _ _ _ _ (al _ _ _ _ (al _ _ _ _ (al _ _ _ _ (nw _ _ _ (by simp))))), al _ _ _ _ (al _ _ _ _ (al _ _ _ _ (nw _ _ _ (by simp)))), al _ _ _ _ (al _ _ _ _ (nw _ _ _ (by simp))), al _ _ _ _ (nw _ _ _ (by simp)), LyOwn.nil _ _, ?_, by simp⟩, nw _ _ _ (by simp)⟩
  exact bstep (bstep (bstep (bstep (bstep (balloc _ _) (balloc _ _)) (balloc _ _)) (balloc _ _)) (balloc _ _)) (balloc _ _)

set_option maxHeartbeats 16000000 in
set_option maxRecDepth 100000 in
theorem PParse_any (s : List UInt8) (w : World) (hs : s.length ≤ 140737488355328) :
    Calls Tryz.prog 37 #[.string ⟨s.toArray⟩] w (ParseAns s w) := by
  refine (callsIn_wide (n := 5)).1 ?_
  refine callsIn_of_wp_marks Tryz.func37 rfl trivial ?_ rfl
  simp only [Tryz.ntmps37, List.size_toArray, List.length_cons, List.length_nil, Nat.reduceAdd, Nat.reduceSub, Array.replicate_succ, Array.replicate_zero, List.push_toArray, List.append_toArray, List.nil_append, List.cons_append]
  gi_wp2
  refine ⟨trivial, (callsIn_wide.2 (Lines_any s _)).mono ?_⟩
  rintro e w1 ⟨rfl, hw1⟩
  rw [hw1]
  clear hw1
  gi_wp2
  simp only [Nat.add_assoc, Nat.reduceAdd]
  have hst := parStart w s
  have hsz : ((((((w.alloc (.cells #[.slice none 0 0, .slice none 0 0] 42)).alloc (.cells #[.int .i64 0] 3)).alloc (.cells #[.nilIface] 28)).alloc (.cells #[.slice none 0 0, .slice none 0 0] 42)).alloc (.cells #[.int .i64 0] 3)).alloc (.cells #[.string ⟨s.toArray⟩] 9)).heap.size = w.heap.size + 6 := by simp
  obtain ⟨W0, hW0⟩ : ∃ W0, ((((((w.alloc (.cells #[.slice none 0 0, .slice none 0 0] 42)).alloc (.cells #[.int .i64 0] 3)).alloc (.cells #[.nilIface] 28)).alloc (.cells #[.slice none 0 0, .slice none 0 0] 42)).alloc (.cells #[.int .i64 0] 3)).alloc (.cells #[.string ⟨s.toArray⟩] 9)) = W0 := ⟨_, rfl⟩
  rw [hW0] at hst hsz ⊢
  clear hW0
  obtain ⟨hst, hbx⟩ := hst
  refine range_box rfl (by decide) (gf := 101) (lb := #[.pointer (some ⟨w.heap.size + 5, 0, none⟩)]) rfl trivial (enters_of Tryz.func101 (by kernel_rfl) rfl) (enc := valLn) (Bs := w.heap.size + 5) (by omega) (lines_box 4 (w.heap.size + 5) s W0 hs hbx) (fun _ => rfl) (ParI w) (ParX w) (by rw [hsz]; exact ParI.steady w) (by rw [hsz]; exact ParX.steady w) ⟨([], []), none, 0, none, 0, rfl, hst⟩
    (fun x => { tmps := #[.string ⟨s.toArray⟩, undef, .pointer (some ⟨w.heap.size, 0, none⟩), .pointer (some ⟨w.heap.size + 1, 0, none⟩), .pointer (some ⟨w.heap.size + 2, 0, none⟩), .pointer (some ⟨w.heap.size + 3, 0, none⟩), .pointer (some ⟨w.heap.size + 4, 0, none⟩), .string ⟨x.1.toArray⟩, undef, undef, .string ⟨s.toArray⟩, .func (.func 101) #[] #[.pointer (some ⟨w.heap.size + 5, 0, none⟩)], .string ⟨x.1.toArray⟩, undef, undef, undef, undef, undef, undef, undef, undef, undef, undef, undef, undef, undef, undef, undef], defers := [] }) ?assign ?body ?done ?stop
  case assign =>
    intro l x W K hK
    unfold valLn
    gi_wp2
    exact hK
  case body =>
    rintro l0 pre x W ⟨l, a1, c1, a2, c2, hok, hP⟩
    rw [hsz]
    have hgood := (okFrom_good _ _ _ good_nil hok).1
    obtain ⟨q0, q1, q2, q3, q4⟩ := boxL hP.lay
    obtain ⟨n0, n1, n2⟩ := boxI hP.num
    have HL := PLine_any (w.heap.size + 6) a1 a2 c1 c2 l x.1 W hP.own hgood x.2 hP.big
    gi_wp2
    refine ⟨trivial, (CallsIn.inRound l0 (callsIn_wide.2 HL)).mono ?_⟩
    clear HL q0 q1 q2 q3 q4 n0 n1 n2
    rintro e w3 (⟨hne, d1, m1, e1, d2, m2, e2, rfl, hb3⟩ | ⟨h0, d1, e1, d2, e2, rfl, hown3, row, hg3, hrow3, _⟩)
    · have hP3 : ParSt w w3 l pre.length a1 c1 a2 c2 := hP.steady (grown_belowN hb3 none) (fun r e => by cases e)
      obtain ⟨n0, n1, n2⟩ := boxI hP3.num
      obtain ⟨p0, p1, p2, p3, p4⟩ := boxL hP3.r0
      obtain ⟨r0, r1, r2⟩ := boxI hP3.r1
      obtain ⟨t0, t1, t2⟩ := boxI hP3.r2
      have hE : errV (lineE l x.1) = .iface 82 (.int .i64 (lineE l x.1)) := if_neg hne
      have HE : Hid (errV (lineE l x.1) = .iface 82 (.int .i64 (lineE l x.1))) := hE
      rw [hE]
      clear hE
      have HP3 : Hid (ParSt w w3 l pre.length a1 c1 a2 c2) := hP3
      have Hb3 : Hid (RowKit.Below W.heap.size W w3) := hb3
      have Hbad : Hid (∀ a V, KeepsFrom (w.heap.size + 6) W V → ParBad w V pre.length (lineE l x.1) → boxPost (w.heap.size + 6) (w.heap.size + 5) (ParI w) (ParX w) (pre ++ [x]) W .ret a V) := fun _ V h1 h2 => ⟨h1, pre, x, l, rfl, hok, hne, h2⟩
      generalize lineE l x.1 = N at *
      clear hP3 hb3 hok hgood hP hne
      have hmx : Tryz.prog.follows .mixedOrders = true := by kernel_rfl
      gi_wp2
      gi_region_with_o (fail)
      all_goals gi_wp2
      all_goals exact Hbad.out _ _ (parBad_fin HP3.out Hb3.out HE.out _).1 (parBad_fin HP3.out Hb3.out HE.out _).2
    · have hP0 : Hid (ParSt w W l pre.length a1 c1 a2 c2) := hP
      have hnn : ((pre.length + 1 : Nat) : Int) = (pre.length : Int) + 1 := by omega
      have hfin := hP.next hown3 hg3 hrow3 hnn (.cells #[.slice d1 (lineY l x.1).1.length e1, .slice d2 (lineY l x.1).2.length e2] 42)
      have hq : ∀ {k : Nat} {o : Obj}, k < w.heap.size + 6 → W.heap[k]? = some o → w3.heap[k]? = some o := fun hk ho => (hg3.block _ (Array.getElem?_eq_some_iff.1 ho).1 (fun e => by
        rcases hrow3 _ e.symm with h1 | h1
        · have := own_ge hP.own.add h1; omega
        · have := own_ge hP.own.take h1; omega)).trans ho
      obtain ⟨n0, n1, n2⟩ := boxI (hq (by omega) hP.num)
      obtain ⟨p0, p1, p2, p3, p4⟩ := boxL (hq (by omega) hP.lay)
      have hgood2 : Hid (∀ a V, KeepsFrom (w.heap.size + 6) W V → V.heap[w.heap.size + 5]? = W.heap[w.heap.size + 5]? → ParSt w V (lineY l x.1) (pre.length + 1) d1 e1 d2 e2 → boxPost (w.heap.size + 6) (w.heap.size + 5) (ParI w) (ParX w) (pre ++ [x]) W .normal a V) := fun _ V h1 h2 h3 => ⟨h1, h2, lineY l x.1, d1, e1, d2, e2, by rw [List.map_append]; exact (okFrom_snoc _ _ _ _ hok).trans (if_pos h0), by simpa using h3⟩
      have Hfin : Hid _ := hfin
      have wn : IntKind.i64.wrap ((pre.length : Int) + 1) = (pre.length : Int) + 1 := by
        have := (okFrom_good _ _ _ good_nil hok).2
        have h1 := hgood.add.1
        have h2 := hgood.take.1
        simp at this
        simp [IntKind.wrap, IntKind.bits, IntKind.signed]
        omega
      clear hfin hP hok hown3 hg3 hrow3 hgood h0 hnn hq
      generalize lineY l x.1 = m at *
      gi_wp2
      exact hgood2.out _ _ Hfin.out.1 Hfin.out.2.1 Hfin.out.2.2
  case done =>
    rintro xs W hS ⟨l, a1, c1, a2, c2, hok, hP⟩ hK
    rw [hsz] at hK ⊢
    rw [hS] at hok
    have hans : Hid (parseP s = (0, 0, l)) := parse_done hok
    have HP : Hid (ParSt w W l xs.length a1 c1 a2 c2) := hP
    obtain ⟨p0, p1, p2, p3, p4⟩ := boxL hP.lay
    obtain ⟨o0, o1, o2, o3, o4⟩ := boxL hP.r0
    obtain ⟨r0, r1, r2⟩ := boxI hP.r1
    obtain ⟨t0, t1, t2⟩ := boxI hP.r2
    clear hok hP hS hst hbx
    gi_wp2
    obtain ⟨h0, h1, h2, h6, hA⟩ := parDone HP.out hK hans.out _ rfl
    refine ⟨by simp, .inl ⟨_, _, rfl, run_takeDeferred h6, ?_⟩⟩
    obtain ⟨z0, z1, _, _, _⟩ := boxL (putK (D := w.heap.size + 6) (o' := .deferred none) h0 (by omega))
    obtain ⟨y0, _, _⟩ := boxI (putK (D := w.heap.size + 6) (o' := .deferred none) h1 (by omega))
    obtain ⟨x0, _, _⟩ := boxI (putK (D := w.heap.size + 6) (o' := .deferred none) h2 (by omega))
    clear h0 h1 h2 h6 p0 p1 p2 p3 p4 o0 o1 o2 o3 o4 r0 r1 r2 t0 t1 t2 hK
    generalize World.putObj _ _ _ = V at *
    refine ⟨.tuple #[.agg #[.slice a1 l.1.length c1, .slice a2 l.2.length c2], .int .i64 0, .nilIface], ?_, hA⟩
    unfold results
    rw [Tryz.results37]
    go_simp
  case stop =>
    rintro xs W hT ⟨q, x, l, rfl, hok, hne, hB⟩ hK
    rw [hsz] at hK ⊢
    have hans : Hid (parseP s = (lineE l x.1, q.length, ([], []))) := parse_stop (by simpa using hT) hok hne |>.trans (by simp)
    clear hok hne hT hst hbx
    generalize lineE l x.1 = N at *
    gi_wp2
    refine ⟨by simp, .inl ⟨_, _, rfl, run_takeDeferred hK, ?_⟩⟩
    have hA := parStop hB hans.out
    obtain ⟨z0, z1, _, _, _⟩ := boxL (putK (D := w.heap.size + 6) (o' := .deferred none) hB.1 (by omega))
    obtain ⟨y0, _, _⟩ := boxI (putK (D := w.heap.size + 6) (o' := .deferred none) hB.2.1 (by omega))
    obtain ⟨x0, _, _⟩ := boxI (putK (D := w.heap.size + 6) (o' := .deferred none) hB.2.2.1 (by omega))
    clear hB hK
    generalize World.putObj _ _ _ = V at *
    refine ⟨.tuple #[.agg #[.slice none 0 0, .slice none 0 0], .int .i64 (q.length : Int), errV N], ?_, hA⟩
    unfold results
    rw [Tryz.results37]
    go_simp
end Go.Proofs.YtaddfndohoppeaaGreat

/- The program's patch keeps the face that the laws ask of it. -/
namespace Go.Proofs.YtaddfndohoppeaaGreat
open Go Go.RowKit Go.Proofs
set_option synthInstance.maxSize 1000
attribute [local go_sem] eql_errV neq_errV guard_errV

theorem countN_line {u : List UInt8} (h : ∀ c ∈ u, c ≠ 10) (r : List UInt8) : countN (u ++ 10 :: r) = countN r + 1 := by
  unfold countN
  rw [List.filter_append]
  have e : u.filter (fun c => decide (c = 10)) = [] := List.filter_eq_nil_iff.2 fun c hc => by simpa using h c hc
  rw [e]
  simp
theorem countN_lines (t : Bool) (m : List Tr) (h : ∀ x ∈ m, chkTr x = 0) (r : List UInt8) : countN (linesP t m ++ r) = m.length + countN r := by
  induction m with
  | nil => simp [linesP]
  | cons x k ih =>
    have e : linesP t (x :: k) ++ r = (markP t :: 32 :: showTr x) ++ 10 :: (linesP t k ++ r) := by simp [linesP, lineP]
    rw [e, countN_line, ih fun y hy => h y (List.mem_cons_of_mem _ hy), List.length_cons]
    · omega
    · intro c hc
      rcases List.mem_cons.1 hc with rfl | hc
      · cases t <;> decide
      · rcases List.mem_cons.1 hc with rfl | hc
        · decide
        · exact show_no10 x (h x (List.mem_cons_self ..)) c hc
theorem count_parse {s : List UInt8} (h : (parseP s).1 = 0) : countN s = (parseP s).2.2.2.length + (parseP s).2.2.1.length := by
  obtain ⟨hg, hs⟩ := parse_ok h
  have h1 := countN_lines true (parseP s).2.2.2 hg.take.2.1 (linesP false (parseP s).2.2.1)
  have h2 := countN_lines false (parseP s).2.2.1 hg.add.2.1 []
  rw [List.append_nil] at h2
  have e : countN s = countN (linesP true (parseP s).2.2.2 ++ linesP false (parseP s).2.2.1) := congrArg countN hs.symm
  rw [e, h1, h2]
  simp [countN]
theorem fit_chkP {x : Tr} (h : chkTr x = 0) : fitTr x := by
  obtain ⟨h1, h2, h3, _⟩ := chk_zero h
  have q : ∀ (k : Int) (S L : List UInt8), checkN k S L = 0 → S.length ≤ maxLen ∧ L.length ≤ maxLen := fun k S L hc => by
    obtain ⟨_, hS, hsp⟩ := check_zero hc
    have := spell_lang hsp
    unfold maxLen
    omega
  exact ⟨q _ _ _ h1, q _ _ _ h2, q _ _ _ h3⟩

set_option maxHeartbeats 8000000 in
set_option maxRecDepth 100000 in
theorem PApply_any (ad : Option Addr) (ca : Nat) (m : List Tr) (s : List UInt8) (w : World) (hm : SlT w ad m) (fm : ∀ x ∈ m, fitTr x) (nm : m.length ≤ maxLen) (hs : s.length ≤ 140737488355328) :
    Calls Tryz.prog 15 #[.slice ad m.length ca, .string ⟨s.toArray⟩] w (ApplyAnsP m s w) := by
  have HP := fun W => PParse_any s W hs
  unfold maxLen at nm
  by_cases h0 : (parseP s).1 = 0
  · have hg := (parse_ok h0).1
    have hcnt : Hid (countN s = (parseP s).2.2.2.length + (parseP s).2.2.1.length) := count_parse h0
    have hI0 : (parseP s).2.1 = 0 := by
      have := parse_back hg
      rw [(parse_ok h0).2] at this
      rw [this]
    have HA := fun (a1 a2 : Option Addr) (c1 c2 : Nat) (W : World) (hW : RowKit.Below w.heap.size w W) (h1 : SlT W a1 (parseP s).2.2.1) (h2 : SlT W a2 (parseP s).2.2.2) => LApply_any ad a1 a2 ca c1 c2 m (parseP s).2.2.1 (parseP s).2.2.2 W (hm.below hW) h1 h2 fm (fun x hx => fit_chkP (hg.add.2.1 x hx)) (fun x hx => fit_chkP (hg.take.2.1 x hx)) (by omega) (by have := hg.add.1; omega) (by have := hg.take.1; omega)
    have g1 := hg.add.1
    have g2 := hg.take.1
    have Hgood : Hid (∀ (t : List Tr) (a : Option Addr) (c : Nat) (w' : World), applyN m (parseP s).2.2.1 (parseP s).2.2.2 = 0 → ApplyAns m (parseP s).2.2.1 (parseP s).2.2.2 t → SlT w' a t → RowKit.Below w.heap.size w w' → ApplyAnsP m s w (.returned (.tuple #[.slice a t.length c, .int .i64 0, .nilIface])) w') := fun t a c w' hz hA hsl hb => by
      have e1 : applyE m s = 0 := by unfold applyE; rw [if_neg (by simpa using h0)]; exact hz
      have e2 : applyI m s = 0 := by unfold applyI; rw [if_neg (by simpa using h0), if_neg (by simpa using hz)]
      unfold ApplyAnsP
      rw [e1, e2]
      exact ⟨t, a, c, rfl, ⟨fun _ => hA.1 hz, fun hne => absurd e1 hne⟩, hsl, hb⟩
    have Hbad : Hid (∀ (w' : World), applyN m (parseP s).2.2.1 (parseP s).2.2.2 ≠ 0 → RowKit.Below w.heap.size w w' → ApplyAnsP m s w (.returned (.tuple #[.slice none 0 0, .int .i64 (((parseP s).2.2.2.length : Int) + ((parseP s).2.2.1.length : Int)), errV (applyN m (parseP s).2.2.1 (parseP s).2.2.2)])) w') := fun w' hz hb => by
      have e1 : applyE m s = applyN m (parseP s).2.2.1 (parseP s).2.2.2 := by unfold applyE; rw [if_neg (by simpa using h0)]
      have e2 : (applyI m s : Int) = ((parseP s).2.2.2.length : Int) + ((parseP s).2.2.1.length : Int) := by unfold applyI; rw [if_neg (by simpa using h0), if_pos hz, hcnt.out]; omega
      unfold ApplyAnsP
      rw [e1, e2]
      exact ⟨[], none, 0, rfl, ⟨fun hh => absurd (e1.symm.trans hh) hz, fun _ => rfl⟩, fun h => absurd rfl h, hb⟩
    unfold ParseAns at HP
    rw [h0, hI0, show errV 0 = .nilIface from rfl] at HP
    clear hcnt hI0 hg h0 hm fm
    generalize ApplyAnsP m s w = Q at *
    generalize (parseP s).2.2.1 = x at *
    generalize (parseP s).2.2.2 = y at *
    have wl : IntKind.i64.wrap ((y.length : Int) + (x.length : Int)) = (y.length : Int) + (x.length : Int) := by simp [IntKind.wrap, IntKind.bits, IntKind.signed]; omega
    go_enter Tryz.func15, Tryz.ntmps15
    go_wp2_with fail
    refine (HP _).mono ?_
    rintro e w1 ⟨a1, c1, a2, c2, rfl, hs1, hs2, hb1⟩
    have HS : Hid (SlT w1 a1 x ∧ SlT w1 a2 y) := ⟨hs1, hs2⟩
    clear hs1 hs2
    dsimp only
    go_wp2_with fail
    have hB2 := bstep hb1 (balloc w1 (.cells #[.slice a1 x.length c1, .slice a2 y.length c2] 42))
    refine (HA a1 a2 c1 c2 _ hB2 (HS.out.1.below (balloc _ _)) (HS.out.2.below (balloc _ _))).mono ?_
    rintro e w2 ⟨hb2, t, a, c, rfl, hst, hA⟩
    obtain ⟨z0, z1, hz, _, _⟩ := twobox hb2
    have hB3 := bstep hB2 hb2
    have HR : Hid (SlT w2 a t ∧ ApplyAns m x y t) := ⟨hst, hA⟩
    clear hst hA HA HP HS
    by_cases hn : applyN m x y = 0
    · have Hfin : Hid _ := Hgood.out t a c w2 hn HR.out.2 HR.out.1 hB3
      rw [hn, show errV 0 = .nilIface from rfl]
      clear hn HR Hgood Hbad
      dsimp only
      go_wp2_with fail
      exact bodyPost_ret (v := .tuple #[.slice a t.length c, .int .i64 0, .nilIface]) (by simp [results, Tryz.results15, go_sem]) rfl Hfin.out
    · have Hfin : Hid (∀ w', RowKit.Below w.heap.size w w' → _) := fun w' hb => Hbad.out w' hn hb
      have hn' : (applyN m x y == 0) = false := by simpa using hn
      clear hn HR Hgood Hbad
      generalize applyN m x y = N at *
      dsimp only
      go_wp2_with fail
      go_region
      go_wp2_with fail
      exact bodyPost_ret (v := .tuple #[.slice none 0 0, .int .i64 ((y.length : Int) + (x.length : Int)), errV N]) (by simp [results, Tryz.results15, go_sem]) rfl (Hfin.out _ hB3.drew)
  · have hN : ((parseP s).1 == 0) = false := by simpa using h0
    have Hbad : Hid (∀ (w' : World), RowKit.Below w.heap.size w w' → ApplyAnsP m s w (.returned (.tuple #[.slice none 0 0, .int .i64 ((parseP s).2.1 : Int), errV (parseP s).1])) w') := fun w' hb => by
      have e1 : applyE m s = (parseP s).1 := by unfold applyE; rw [if_pos h0]
      have e2 : applyI m s = (parseP s).2.1 := by unfold applyI; rw [if_pos h0]
      unfold ApplyAnsP
      rw [e1, e2]
      exact ⟨[], none, 0, rfl, ⟨fun hh => absurd (e1.symm.trans hh) h0, fun _ => rfl⟩, fun h => absurd rfl h, hb⟩
    unfold ParseAns at HP
    clear h0 hm fm
    generalize ApplyAnsP m s w = Q at *
    generalize (parseP s).2.2.1 = x at *
    generalize (parseP s).2.2.2 = y at *
    generalize (parseP s).2.1 = n at *
    generalize (parseP s).1 = N at *
    go_enter Tryz.func15, Tryz.ntmps15
    go_wp2_with fail
    refine (HP _).mono ?_
    rintro e w1 ⟨a1, c1, a2, c2, rfl, _, _, hb1⟩
    dsimp only
    go_wp2_with fail
    exact bodyPost_ret (v := .tuple #[.slice none 0 0, .int .i64 (n : Int), errV N]) (by simp [results, Tryz.results15, go_sem]) rfl (Hbad.out _ (bstep hb1 (balloc _ _)))

def thePatch : PFace where
  lim := reachBytes
  print := fun w a1 a2 c1 c2 l h => PPrint_any a1 a2 c1 c2 l w h
  parse := fun w s hs => PParse_any s w (Nat.le_trans hs (by decide))
  apply := fun w ad ca m s h1 h2 h3 h4 => PApply_any ad ca m s w h1 h2 h3 (Nat.le_trans h4 (by decide))
theorem thePatch_lim : thePatch.lim = reachBytes := rfl
end Go.Proofs.YtaddfndohoppeaaGreat

/- A term that is an argument: opened, and read again. -/
namespace Go.Proofs.YtaddfndohoppeaaGreat
open Go Go.ChangeShapes Go.WideShapes Go.ChangeAt Go.RowKit Go.Joins
open Go.ChangeMaps (open_string shut_string)

theorem own : ownKnob Tryz.prog.godebug = none := by kernel_rfl
theorem cellsTerm : Tryz.prog.cellsOf 56 = 3 := by kernel_rfl

end Go.Proofs.YtaddfndohoppeaaGreat

/- A triple, and a list of triples, that is an argument: opened. -/
namespace Go.Proofs.YtaddfndohoppeaaGreat
open Go Go.ChangeShapes Go.WideShapes Go.ChangeAt Go.RowKit Go.Joins Go.Deep
set_option synthInstance.maxSize 1000

theorem cellsTriple : Tryz.prog.cellsOf 58 = 9 := by kernel_rfl

def fitTm (x : Tm) : Prop := x.2.1.length ≤ maxLen ∧ x.2.2.length ≤ maxLen
def encTm (x : Tm) : List Value := [.int .i64 x.1, .string ⟨x.2.1.toArray⟩, .string ⟨x.2.2.toArray⟩]

theorem cellsInt : Tryz.prog.cellsOf 3 = 1 := by kernel_rfl
theorem cellsStr : Tryz.prog.cellsOf 9 = 1 := by kernel_rfl

set_option maxRecDepth 100000 in
theorem down_term {H : Type} {enc : TypeId × Value → H} {W : World} {base n : Nat} {spare : Nat → Bool} {held : Bool} {cs : List Value} {y : DataW H × List MemPlace}
    (h : DataW.trod enc Tryz.prog W base spare held n 56 cs = some y) : ∃ x : Tm, cs = encTm x ∧ fitTm x := by
  obtain ⟨y0, y1, y2, m, _, hl, h0, h1, h2⟩ := trod_struct3 Tryz.underlying56 h
  rw [cellsTerm] at hl
  match cs, hl with
  | [c0, c1, c2], _ =>
    simp only [cellsInt, cellsStr, List.drop_zero, List.drop_succ_cons, List.take_succ_cons, List.take_zero] at h0 h1 h2
    obtain ⟨k, e0, _, wk⟩ := DataW.trod_int Tryz.underlying3 h0
    obtain ⟨s, e1, _, ws⟩ := DataW.trod_string Tryz.underlying9 h1
    obtain ⟨l, e2, _, wl⟩ := DataW.trod_string Tryz.underlying9 h2
    simp at e0 e1 e2
    subst e0 e1 e2
    exact ⟨⟨k, s.data.toList, l.data.toList⟩, rfl, by simpa using ws, by simpa using wl⟩

set_option maxRecDepth 100000 in
theorem down_triple {H : Type} {enc : TypeId × Value → H} {W : World} {base n : Nat} {spare : Nat → Bool} {held : Bool} {cs : List Value} {y : DataW H × List MemPlace}
    (h : DataW.trod enc Tryz.prog W base spare held n 58 cs = some y) : ∃ x : Tr, cs = encTr x ∧ fitTr x := by
  obtain ⟨y0, y1, y2, m, _, hl, h0, h1, h2⟩ := trod_struct3 Tryz.underlying58 h
  rw [cellsTriple] at hl
  match cs, hl with
  | [c0, c1, c2, c3, c4, c5, c6, c7, c8], _ =>
    simp only [cellsTerm, List.drop_zero, List.drop_succ_cons, List.take_succ_cons, List.take_zero] at h0 h1 h2
    obtain ⟨a, ea, fa⟩ := down_term h0
    obtain ⟨b, eb, fb⟩ := down_term h1
    obtain ⟨c, ec, fc⟩ := down_term h2
    simp only [encTm, List.cons.injEq, and_true] at ea eb ec
    obtain ⟨rfl, rfl, rfl⟩ := ea
    obtain ⟨rfl, rfl, rfl⟩ := eb
    obtain ⟨rfl, rfl, rfl⟩ := ec
    exact ⟨⟨a, b, c⟩, rfl, fa, fb, fc⟩

end Go.Proofs.YtaddfndohoppeaaGreat

/- Lists of texts, and of lists of numbers, that are arguments: opened. -/
namespace Go.Proofs.YtaddfndohoppeaaGreat
open Go Go.ChangeShapes Go.WideShapes Go.ChangeAt Go.RowKit Go.Joins Go.Deep
set_option synthInstance.maxSize 1000

end Go.Proofs.YtaddfndohoppeaaGreat

/- Lists of sets that are arguments: opened. -/
namespace Go.Proofs.YtaddfndohoppeaaGreat
open Go Go.ChangeShapes Go.WideShapes Go.ChangeAt Go.RowKit Go.Joins Go.Deep
set_option synthInstance.maxSize 1000

theorem cellsTrs : Tryz.prog.cellsOf 33 = 1 := by kernel_rfl
theorem sl_low {W : World} {ad : Option Addr} {l : List Tr} (h : SlT W ad l) : l ≠ [] → ∀ d, ad = some d → d.block < W.heap.size := fun hne d hd => by
  obtain ⟨b, o, e, hr⟩ := h hne
  rw [hd] at e
  cases e
  cases l with
  | nil => exact absurd rfl hne
  | cons x r =>
    have := hr 0 (.int .i64 x.1.1) (by simp [cellsT, encTr])
    exact World.block_lt_of_cell? W _ this
theorem down_set {H : Type} {enc : TypeId × Value → H} {W : World} {base n : Nat} {spare : Nat → Bool} {held : Bool} {cs : List Value} {y : DataW H × List MemPlace}
    (hf : DataW.trod enc Tryz.prog W base spare held n 33 cs = some y) :
    ∃ (ad : Option Addr) (cap : Nat) (l : List Tr), cs = [.slice ad l.length cap] ∧ SetIn W ad cap l := by
  rcases open_slice Tryz.underlying33 hf with ⟨hcs, _⟩ | ⟨a', len, cap, m, n, D, Pl, hcs, _, hl, hm, hmm, _, hx⟩
  · exact ⟨none, 0, [], hcs, fun h => absurd rfl h, by simp, by simp, by simp, fun h => absurd rfl h⟩
  · have hlm : len ≤ m := by rw [hmm]; split <;> omega
    have each : ∀ i, i < len → ∃ x : Tr, fitTr x ∧ ∀ j v, (encTr x)[j]? = some v → W.cell? (a'.add (i * 9 + j)) = some v := by
      intro i hi
      obtain ⟨cs', h1, h2⟩ := hx i (by omega)
      rw [cellsTriple] at h1
      obtain ⟨_, hlen, hcell⟩ := World.cells?_some h1
      obtain ⟨x, rfl, fx⟩ := down_triple h2
      refine ⟨x, fx, fun j v hj => ?_⟩
      have hj9 : j < 9 := (List.getElem?_eq_some_iff.1 hj).1
      have := hcell j (by omega)
      rw [add_add] at this
      rw [this]
      exact hj
    obtain ⟨q, hq⟩ := choose_lt each
    have hlen : ((List.range len).map q).length = len := by simp
    have hsl : SlT W (some a') ((List.range len).map q) := fun hne => by
      have hpos : 0 < len := by
        rcases Nat.eq_zero_or_pos len with h0 | h0
        · subst h0; simp at hne
        · exact h0
      have hc := (hq 0 hpos).2 0 _ rfl
      obtain ⟨b, o, s⟩ := a'
      cases s with
      | some s =>
        exfalso
        unfold World.cell? Addr.add at hc
        revert hc
        split <;> simp
      | none =>
        refine ⟨b, o, rfl, fun j v hj => ?_⟩
        have hjl : j < len * 9 := by
          have := (List.getElem?_eq_some_iff.1 hj).1
          rwa [cellsT_len, hlen] at this
        have hi : j / 9 < len := by omega
        have h1 := cellsT_at ((List.range len).map q) (j / 9) (by rw [hlen]; exact hi) (j % 9) (by omega)
        rw [show j / 9 * 9 + j % 9 = j by omega, hj] at h1
        have h2 := (hq (j / 9) hi).2 (j % 9) v (by rw [h1]; simp)
        rw [show j / 9 * 9 + j % 9 = j by omega, Addr.add_lit] at h2
        exact h2
    refine ⟨some a', cap, (List.range len).map q, by rw [hlen]; exact hcs, hsl, by rw [hlen]; exact hl, fun x hx => ?_, by rw [hlen]; omega, sl_low hsl⟩
    obtain ⟨i, hi, rfl⟩ := List.mem_map.1 hx
    exact (hq i (List.mem_range.1 hi)).1

set_option maxRecDepth 100000 in
theorem open_sets {H : Type} {enc : TypeId × Value → H} {W : World} {base b0 : Nat} {spare : Nat → Bool} {held : Bool} {r : Reach} {v : Value} {d : DataW H} {p : List MemPlace}
    (hv : Value.okWide Tryz.prog W r b0 22 v) (h : DataW.Trod enc Tryz.prog W base spare held 22 v d p) :
    ∃ (ad : Option Addr) (cap : Nat) (S : List (List Tr)), v = .slice ad S.length cap ∧ (S ≠ [] → ∃ b o, ad = some ⟨b, o, none⟩ ∧ ∀ (i : Nat) (hi : i < S.length), ∃ a c, W.cell? ⟨b, o + i, none⟩ = some (.slice a S[i].length c) ∧ SetIn W a c S[i]) ∧ S.length ≤ maxLen := by
  obtain ⟨a, len, cap, rfl⟩ := okWide_slice Tryz.underlying22 hv
  obtain ⟨fuel, hf⟩ := h
  rcases open_slice Tryz.underlying22 hf with ⟨hcs, _⟩ | ⟨a', len', cap', m, n, D, Pl, hcs, _, hl, hm, hmm, _, hx⟩
  · simp [Value.cells] at hcs
    obtain ⟨rfl, rfl, rfl⟩ := hcs
    exact ⟨none, 0, [], rfl, fun h => absurd rfl h, by simp⟩
  · simp [Value.cells] at hcs
    obtain ⟨rfl, rfl, rfl⟩ := hcs
    have hlm : len ≤ m := by rw [hmm]; split <;> omega
    have each : ∀ i, i < len → ∃ x : List Tr, ∃ a1 c1, W.cell? (a'.add i) = some (.slice a1 x.length c1) ∧ SetIn W a1 c1 x := by
      intro i hi
      obtain ⟨cs', h1, h2⟩ := hx i (by omega)
      rw [cellsTrs] at h1
      obtain ⟨_, hlen, hcell⟩ := World.cells?_some h1
      obtain ⟨a1, c1, x1, e1, s1⟩ := down_set h2
      subst e1
      have g0 := hcell 0 (by omega)
      rw [add_add] at g0
      exact ⟨x1, a1, c1, by simpa using g0, s1⟩
    obtain ⟨q, hq⟩ := choose_lt each
    have hlen : ((List.range len).map q).length = len := by simp
    refine ⟨some a', cap, (List.range len).map q, by rw [hlen], fun hne => ?_, by rw [hlen]; omega⟩
    have hpos : 0 < len := by
      rcases Nat.eq_zero_or_pos len with h0 | h0
      · subst h0; simp at hne
      · exact h0
    obtain ⟨_, _, hc, _⟩ := hq 0 hpos
    obtain ⟨b, o, s⟩ := a'
    cases s with
    | some s =>
      exfalso
      unfold World.cell? Addr.add at hc
      revert hc
      split <;> simp
    | none =>
      refine ⟨b, o, rfl, fun i hi => ?_⟩
      rw [hlen] at hi
      obtain ⟨a1, c1, h1, h2⟩ := hq i hi
      have e : ((List.range len).map q)[i]'(by rw [hlen]; exact hi) = q i := by simp
      rw [e]
      rw [Addr.add_lit] at h1
      exact ⟨a1, c1, h1, h2⟩
end Go.Proofs.YtaddfndohoppeaaGreat
