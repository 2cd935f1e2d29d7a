import Derived.Test.YtlmhlmeephnmkaaGreatMDx7
import Derived.Maps.Range
import Derived.Test.YtlmhlmeephnmkaaGreatMCTopLayersx3
import Derived.Test.YtlmhlmeephnmkaaGreatMA0x0
import Derived.Laws.DeepStrings4
import Derived.RegionTactic
import Derived.RangeFuncBound
import Derived.RangeFuncCalls
import Derived.Shelf.Abstract
import Derived.Shelf.AbstractIn
import Derived.Shelf.RegionOpen
import Derived.WalkKit
import Derived.OwnWalkIn
import Derived.TacticsInMore
import Derived.RegionIn
import Derived.LoopNIn
import Derived.LoopIn

/- The program's patch: withLine: a layer with what one more line says. -/
namespace Go.Proofs.YtlmhlmeephnmkaaGreat
open Go Go.RowKit Go.Proofs
set_option synthInstance.maxSize 1000
attribute [local go_sem] eql_errV neq_errV guard_errV

/-- a layer whose two rows are one's own, apart from each other -/
structure LyOwn (B : Nat) (w : World) (v1 v2 : Value) (l : LyP) : Prop where
  add : w.ownsRow B 58 9 v1 l.1.length (cellsT l.1)
  take : w.ownsRow B 58 9 v2 l.2.length (cellsT l.2)
  ne : ∀ j, v1.ownBlock = some j → v2.ownBlock ≠ some j
theorem LyOwn.nil (B : Nat) (w : World) : LyOwn B w (.slice none 0 0) (.slice none 0 0) ([], []) := ⟨World.ownsRow_nil _ _ _ _, World.ownsRow_nil _ _ _ _, fun j h => by cases h⟩
/-- it stays where its blocks do -/
theorem own_stay {w w' : World} {B : Nat} {v : Value} {n : Nat} {cs : List Value} (h : w.ownsRow B 58 9 v n cs) {row : Option Nat} (hg : w.grownBy w' row) (hr : ∀ j, row = some j → v.ownBlock ≠ some j) : w'.ownsRow B 58 9 v n cs :=
  h.kept hg (by
    cases hv : v.ownBlock with
    | none => exact .inl rfl
    | some q => exact .inr fun e => hr q e.symm hv)
theorem LyOwn.stay {B : Nat} {w w' : World} {v1 v2 : Value} {l : LyP} (h : LyOwn B w v1 v2 l) {row : Option Nat} (hg : w.grownBy w' row) (hr : ∀ j, row = some j → v1.ownBlock ≠ some j ∧ v2.ownBlock ≠ some j) : LyOwn B w' v1 v2 l :=
  ⟨own_stay h.add hg fun j e => (hr j e).1, own_stay h.take hg fun j e => (hr j e).2, h.ne⟩
theorem grown_set (W : World) (b o : Nat) (v : Value) : W.grownBy (W.setCell ⟨b, o, none⟩ v) (some b) :=
  ⟨rfl, rfl, rfl, (KeepsWalks.setCell W _ v).size, fun k _ hk => Below.heap_setCell _ _ _ k (fun e => hk (by rw [e]))⟩
theorem row_not {W : World} {b : Nat} {cs : Array Value} {t : TypeId} {fr : Nat × Nat} (hb : W.heap[b]? = some (.cells cs t fr)) (ht : t ≠ 58) {B n : Nat} {v : Value} {xs : List Value} (hr : W.ownsRow B 58 9 v n xs) : v.ownBlock ≠ some b := by
  rcases hr.2 with ⟨rfl, _⟩ | ⟨g, cap, cur, rfl, _, hgb, _⟩
  · simp [Value.ownBlock]
  · intro e'
    obtain rfl : g = b := by simpa [Value.ownBlock] using e'
    have := hb.symm.trans hgb
    simp at this
    exact ht this.2.1
theorem own_old {W : World} {B n : Nat} {v : Value} {xs : List Value} (hr : W.ownsRow B 58 9 v n xs) {j : Nat} (hj : v.ownBlock = some j) : j < W.heap.size := (hr.lt j hj).2

theorem CutSuf_any (s p : List UInt8) (W : World) (hs : s.length ≤ 9223372036854775807) : Calls Tryz.prog 100 #[.string ⟨s.toArray⟩, .string ⟨p.toArray⟩] W fun e w' => e = .returned (.tuple #[.string ⟨(Lib.trimSuffix s p).toArray⟩, .bool (Lib.hasSuffix s p)]) ∧ w' = W := Tryz.strings_CutSuffix ⟨s.toArray⟩ ⟨p.toArray⟩ W hs
theorem CutPre_any (s p : List UInt8) (W : World) : Calls Tryz.prog 101 #[.string ⟨s.toArray⟩, .string ⟨p.toArray⟩] W fun e w' => e = .returned (.tuple #[.string ⟨(Lib.trimPrefix s p).toArray⟩, .bool (Lib.hasPrefix s p)]) ∧ w' = W := Tryz.strings_CutPrefix ⟨s.toArray⟩ ⟨p.toArray⟩ W
theorem suf_yes (u : List UInt8) : Lib.hasSuffix (u ++ [10]) [10] = true ∧ Lib.trimSuffix (u ++ [10]) [10] = u := by
  have h : Lib.hasSuffix (u ++ [10]) [10] = true := by unfold Lib.hasSuffix; rw [List.isSuffixOf_iff_suffix]; exact ⟨u, rfl⟩
  refine ⟨h, ?_⟩
  unfold Lib.trimSuffix
  rw [if_pos h]
  simp
theorem suf_no {s : List UInt8} (h : s.getLast? ≠ some 10) : Lib.hasSuffix s [10] = false ∧ Lib.trimSuffix s [10] = s := by
  have h2 : Lib.hasSuffix s [10] = false := by
    rw [Bool.eq_false_iff]
    intro e
    unfold Lib.hasSuffix at e
    rw [List.isSuffixOf_iff_suffix] at e
    obtain ⟨t, rfl⟩ := e
    exact h (by simp)
  exact ⟨h2, by unfold Lib.trimSuffix; rw [h2]; rfl⟩
theorem pre_yes (c : UInt8) (t : List UInt8) : Lib.hasPrefix (c :: 32 :: t) [c, 32] = true ∧ Lib.trimPrefix (c :: 32 :: t) [c, 32] = t := by
  have h : Lib.hasPrefix (c :: 32 :: t) [c, 32] = true := by unfold Lib.hasPrefix; rw [List.isPrefixOf_iff_prefix]; exact ⟨t, rfl⟩
  refine ⟨h, ?_⟩
  unfold Lib.trimPrefix
  rw [if_pos h]
  rfl
theorem pre_no {u : List UInt8} {c : UInt8} (h : ∀ t, u ≠ c :: 32 :: t) : Lib.hasPrefix u [c, 32] = false := by
  rw [Bool.eq_false_iff]
  intro e
  unfold Lib.hasPrefix at e
  rw [List.isPrefixOf_iff_prefix] at e
  obtain ⟨t, rfl⟩ := e
  exact h t rfl
theorem line_add (l : LyP) (t : List UInt8) : lineN l (43 :: 32 :: t) = saidN l.1 l.2 t ∧ lineL l (43 :: 32 :: t) = (l.1 ++ [tparseT t], l.2) := by
  have hf : formP l (43 :: 32 :: t) = some (false, t) := by unfold formP; simp
  unfold lineN lineL
  rw [hf]
  exact ⟨rfl, rfl⟩
theorem line_take {l : LyP} (h : l.1 = []) (t : List UInt8) : lineN l (45 :: 32 :: t) = saidN l.2 l.1 t ∧ lineL l (45 :: 32 :: t) = (l.1, l.2 ++ [tparseT t]) := by
  have hf : formP l (45 :: 32 :: t) = some (true, t) := by unfold formP; simp [h]
  unfold lineN lineL
  rw [hf]
  exact ⟨rfl, rfl⟩
theorem line_late {l : LyP} (h : l.1 ≠ []) (t : List UInt8) : lineN l (45 :: 32 :: t) = 2 := by
  have hf : formP l (45 :: 32 :: t) = none := by unfold formP; simp [h]
  unfold lineN
  rw [hf]
theorem line_neither {l : LyP} {u : List UInt8} (h1 : ∀ t, u ≠ 43 :: 32 :: t) (h2 : ∀ t, u ≠ 45 :: 32 :: t) : lineN l u = 2 := by
  have hf : formP l u = none := by
    unfold formP
    split
    · rename_i c d t
      split
      · rename_i hcd
        obtain ⟨rfl, rfl | ⟨rfl, _⟩⟩ := hcd
        · exact absurd rfl (h1 t)
        · exact absurd rfl (h2 t)
      · rfl
    · rfl
  unfold lineN
  rw [hf]

/-- what is answered: an error, or the layer with one triple more -/
def LineAns (B : Nat) (v1 v2 : Value) (l : LyP) (s : List UInt8) (w : World) (e : Ending) (w' : World) : Prop :=
  (lineE l s ≠ 0 ∧ ∃ a1 n1 c1 a2 n2 c2, e = .returned (.tuple #[.agg #[.slice a1 n1 c1, .slice a2 n2 c2], errV (lineE l s)]) ∧ RowKit.Below w.heap.size w w') ∨
  (lineE l s = 0 ∧ ∃ a1 c1 a2 c2, e = .returned (.tuple #[.agg #[.slice a1 (lineY l s).1.length c1, .slice a2 (lineY l s).2.length c2], .nilIface]) ∧ LyOwn B w' (.slice a1 (lineY l s).1.length c1) (.slice a2 (lineY l s).2.length c2) (lineY l s) ∧
    ∃ row, w.grownBy w' row ∧ (∀ j, row = some j → v1.ownBlock = some j ∨ v2.ownBlock = some j) ∧
      ∀ j, (Value.slice a1 (lineY l s).1.length c1).ownBlock = some j ∨ (Value.slice a2 (lineY l s).2.length c2).ownBlock = some j → v1.ownBlock = some j ∨ v2.ownBlock = some j ∨ w.heap.size ≤ j)
theorem LineAns.bad {B : Nat} {v1 v2 : Value} {l : LyP} {s : List UInt8} {w w' : World} {N : Int} (h : lineE l s = N) (h0 : N ≠ 0) {a1 a2 : Option Addr} {n1 c1 n2 c2 : Nat} (hb : RowKit.Below w.heap.size w w') : LineAns B v1 v2 l s w (.returned (.tuple #[.agg #[.slice a1 n1 c1, .slice a2 n2 c2], errV N])) w' := by
  subst h
  exact .inl ⟨h0, a1, n1, c1, a2, n2, c2, rfl, hb⟩

set_option maxHeartbeats 8000000 in
set_option maxRecDepth 100000 in
theorem PLine_none (B : Nat) (a1 a2 : Option Addr) (c1 c2 : Nat) (l : LyP) (s : List UInt8) (w : World) (hs : s.length ≤ 140737488355328) (h10 : s.getLast? ≠ some 10) :
    Calls Tryz.prog 67 #[.agg #[.slice a1 l.1.length c1, .slice a2 l.2.length c2], .string ⟨s.toArray⟩] w (LineAns B (.slice a1 l.1.length c1) (.slice a2 l.2.length c2) l s w) := by
  have HS : ∀ W, Calls Tryz.prog 100 #[.string ⟨s.toArray⟩, .string ⟨#[10]⟩] W fun e w' => e = .returned (.tuple #[.string ⟨s.toArray⟩, .bool false]) ∧ w' = W := fun W => by
    have := Tryz.strings_CutSuffix ⟨s.toArray⟩ ⟨#[10]⟩ W (by simp [ByteArray.size]; omega)
    simpa [(suf_no h10).1, (suf_no h10).2] using this
  have fin : Hid (∀ w', RowKit.Below w.heap.size w w' → LineAns B (.slice a1 l.1.length c1) (.slice a2 l.2.length c2) l s w (.returned (.tuple #[.agg #[.slice none 0 0, .slice none 0 0], errV 2])) w') := fun w' hb => LineAns.bad (by unfold lineE; rw [if_neg h10]) (by decide) hb
  generalize LineAns B (.slice a1 l.1.length c1) (.slice a2 l.2.length c2) l s w = Q at *
  go_enter Tryz.func67, Tryz.ntmps67
  go_wp2_with (first | (go_at_call 100; refine (HS _).mono ?_; rintro e w' ⟨rfl, rfl⟩))
  exact bodyPost_ret (v := .tuple #[.agg #[.slice none 0 0, .slice none 0 0], errV 2]) (by unfold results; rw [Tryz.results67]; go_simp; rfl) rfl (fin.out _ (bstep (balloc _ _) (balloc _ _)))

/-- the two boxes of a call stay -/
theorem boxesL {w w3 : World} {p q r t : Value} {T : TypeId} {row : Option Nat} (hg : ((w.alloc (.cells #[p, q] T)).alloc (.cells #[r, t] T)).grownBy w3 row) (hr : ∀ j, row = some j → j < w.heap.size) :
    w3.heap[w.heap.size]? = some (.cells #[p, q] T (0, 0)) ∧ w3.heap[w.heap.size + 1]? = some (.cells #[r, t] T (0, 0)) := by
  have n1 : some w.heap.size ≠ row := fun e => by have := hr _ e.symm; omega
  have n2 : some (w.heap.size + 1) ≠ row := fun e => by have := hr _ e.symm; omega
  refine ⟨(hg.block _ (by simp; omega) n1).trans ?_, (hg.block _ (by simp) n2).trans ?_⟩
  · exact (Below.heap_alloc _ _ _ (by simp)).trans (World.alloc_heap_new w _)
  · have := World.alloc_heap_new (w.alloc (.cells #[p, q] T)) (.cells #[r, t] T)
    rwa [World.size_alloc] at this
theorem boxL {W : World} {b : Nat} {p q : Value} {T : TypeId} (h : W.heap[b]? = some (.cells #[p, q] T (0, 0))) : W.cell? ⟨b, 0, none⟩ = some p ∧ W.cell? ⟨b, 1, none⟩ = some q ∧ W.frozen? ⟨b, 0, none⟩ = false ∧ W.frozen? ⟨b, 1, none⟩ = false ∧ b < W.heap.size :=
  ⟨by simp [World.cell?, h], by simp [World.cell?, h], by simp [World.frozen?, h], by simp [World.frozen?, h], (Array.getElem?_eq_some_iff.1 h).1⟩
/-- the row that grew, and the other one, behind the answer's box -/
theorem finL {B : Nat} {w w3 : World} {o1 o2 : Obj} {v1 v2 : Value} {m k : List Tr} {x : Tr} {g cap : Nat} {cs : Array Value} (h2 : w.ownsRow B 58 9 v2 k.length (cellsT k)) (hne : ∀ j, v1.ownBlock = some j → v2.ownBlock ≠ some j)
    (hg : ((w.alloc o1).alloc o2).grownBy w3 v1.ownBlock) (hrow : w3.ownsRow B 58 9 (.slice (some ⟨g, 0, none⟩) (m.length + 1) cap) (m.length + 1) (cellsT (m ++ [x]))) (hat : v1.ownBlock = some g ∨ ((w.alloc o1).alloc o2).heap.size ≤ g)
    (hbox : w3.heap[w.heap.size + 1]? = some (.cells cs 42 (0, 0))) (u1 u2 : Value) :
    ((w3.setCell ⟨w.heap.size + 1, 0, none⟩ u1).setCell ⟨w.heap.size + 1, 1, none⟩ u2).ownsRow B 58 9 (.slice (some ⟨g, 0, none⟩) (m.length + 1) cap) (m.length + 1) (cellsT (m ++ [x])) ∧
    ((w3.setCell ⟨w.heap.size + 1, 0, none⟩ u1).setCell ⟨w.heap.size + 1, 1, none⟩ u2).ownsRow B 58 9 v2 k.length (cellsT k) ∧ v2.ownBlock ≠ some g ∧
    w.grownBy ((w3.setCell ⟨w.heap.size + 1, 0, none⟩ u1).setCell ⟨w.heap.size + 1, 1, none⟩ u2) v1.ownBlock ∧ (v1.ownBlock = some g ∨ w.heap.size ≤ g) := by
  have ng := row_not hbox (by decide) hrow
  have hs : ∀ W : World, W.grownBy ((W.setCell ⟨w.heap.size + 1, 0, none⟩ u1).setCell ⟨w.heap.size + 1, 1, none⟩ u2) (some (w.heap.size + 1)) := fun W => (grown_set W _ _ _).trans (grown_set _ _ _ _)
  have o2' : ∀ j, v2.ownBlock = some j → j < w.heap.size := fun j e => own_old h2 e
  have g0 : w.grownBy ((w.alloc o1).alloc o2) v1.ownBlock := (World.grownBy_alloc _ _ _).trans (World.grownBy_alloc _ _ _)
  have hsz : ((w.alloc o1).alloc o2).heap.size = w.heap.size + 2 := by simp
  refine ⟨own_stay hrow (hs w3) fun j e => ?_, own_stay (own_stay (own_stay h2 g0 fun j e => hne j e) hg fun j e => hne j e) (hs w3) fun j e e2 => ?_, fun e => ?_, (g0.trans hg).andThen (hs w3) fun j e => ?_, or_rightN hat fun e => by omega⟩
  · cases e; exact ng
  · cases e; have := o2' _ e2; omega
  · rcases hat with hat | hat
    · exact hne g hat e
    · have := o2' _ e; omega
  · cases e; exact .inl (by omega)
theorem LineAns.add {B : Nat} {v1 : Value} {a2 : Option Addr} {c2 : Nat} {l : LyP} {s : List UInt8} {x : Tr} {w w9 : World} {g cap : Nat} (hE : lineE l s = 0) (hY : lineY l s = (l.1 ++ [x], l.2))
    (hf : w9.ownsRow B 58 9 (.slice (some ⟨g, 0, none⟩) (l.1.length + 1) cap) (l.1.length + 1) (cellsT (l.1 ++ [x])) ∧ w9.ownsRow B 58 9 (.slice a2 l.2.length c2) l.2.length (cellsT l.2) ∧ (Value.slice a2 l.2.length c2).ownBlock ≠ some g ∧ w.grownBy w9 v1.ownBlock ∧ (v1.ownBlock = some g ∨ w.heap.size ≤ g)) :
    LineAns B v1 (.slice a2 l.2.length c2) l s w (.returned (.tuple #[.agg #[.slice (some ⟨g, 0, none⟩) (l.1.length + 1) cap, .slice a2 l.2.length c2], .nilIface])) w9 := by
  obtain ⟨h1, h2, h3, h4, h5⟩ := hf
  have e1 : (l.1 ++ [x]).length = l.1.length + 1 := by simp
  refine .inr ⟨hE, ?_⟩
  rw [hY]
  refine ⟨some ⟨g, 0, none⟩, cap, a2, c2, by rw [e1], ⟨by rw [e1]; exact h1, h2, fun j e => ?_⟩, v1.ownBlock, h4, fun j e => .inl e, fun j e => ?_⟩
  · obtain rfl : g = j := by simpa [Value.ownBlock] using e
    exact h3
  · rcases e with e | e
    · obtain rfl : g = j := by simpa [Value.ownBlock] using e
      rcases h5 with h5 | h5
      · exact .inl h5
      · exact .inr (.inr h5)
    · exact .inr (.inl e)
theorem LineAns.take {B : Nat} {v2 : Value} {a1 : Option Addr} {c1 : Nat} {l : LyP} {s : List UInt8} {x : Tr} {w w9 : World} {g cap : Nat} (hE : lineE l s = 0) (hY : lineY l s = (l.1, l.2 ++ [x]))
    (hf : w9.ownsRow B 58 9 (.slice (some ⟨g, 0, none⟩) (l.2.length + 1) cap) (l.2.length + 1) (cellsT (l.2 ++ [x])) ∧ w9.ownsRow B 58 9 (.slice a1 l.1.length c1) l.1.length (cellsT l.1) ∧ (Value.slice a1 l.1.length c1).ownBlock ≠ some g ∧ w.grownBy w9 v2.ownBlock ∧ (v2.ownBlock = some g ∨ w.heap.size ≤ g)) :
    LineAns B (.slice a1 l.1.length c1) v2 l s w (.returned (.tuple #[.agg #[.slice a1 l.1.length c1, .slice (some ⟨g, 0, none⟩) (l.2.length + 1) cap], .nilIface])) w9 := by
  obtain ⟨h1, h2, h3, h4, h5⟩ := hf
  have e1 : (l.2 ++ [x]).length = l.2.length + 1 := by simp
  refine .inr ⟨hE, ?_⟩
  rw [hY]
  refine ⟨a1, c1, some ⟨g, 0, none⟩, cap, by rw [e1], ⟨h2, by rw [e1]; exact h1, fun j e e2 => ?_⟩, v2.ownBlock, h4, fun j e => .inr e, fun j e => ?_⟩
  · obtain rfl : g = j := by simpa [Value.ownBlock] using e2
    exact h3 e
  · rcases e with e | e
    · exact .inl e
    · obtain rfl : g = j := by simpa [Value.ownBlock] using e
      rcases h5 with h5 | h5
      · exact .inr (.inl h5)
      · exact .inr (.inr h5)

set_option maxHeartbeats 16000000 in
set_option maxRecDepth 100000 in
theorem PLine_add (B : Nat) (a1 a2 : Option Addr) (c1 c2 : Nat) (l : LyP) (t : List UInt8) (w : World) (h : LyOwn B w (.slice a1 l.1.length c1) (.slice a2 l.2.length c2) l) (hl : GoodLy l) (hs : t.length + 3 ≤ 140737488355328) (hB : B ≤ w.heap.size) :
    Calls Tryz.prog 67 #[.agg #[.slice a1 l.1.length c1, .slice a2 l.2.length c2], .string ⟨(43 :: 32 :: t ++ [10]).toArray⟩] w (LineAns B (.slice a1 l.1.length c1) (.slice a2 l.2.length c2) l (43 :: 32 :: t ++ [10]) w) := by
  have HS : ∀ W, Calls Tryz.prog 100 #[.string ⟨(43 :: 32 :: t ++ [10]).toArray⟩, .string ⟨#[10]⟩] W fun e w' => e = .returned (.tuple #[.string ⟨(43 :: 32 :: t).toArray⟩, .bool true]) ∧ w' = W := fun W => by
    have := CutSuf_any (43 :: 32 :: t ++ [10]) [10] W (by simp; omega)
    rw [(suf_yes (43 :: 32 :: t)).1, (suf_yes (43 :: 32 :: t)).2] at this
    exact this
  have HP : ∀ W, Calls Tryz.prog 101 #[.string ⟨(43 :: 32 :: t).toArray⟩, .string ⟨#[43, 32]⟩] W fun e w' => e = .returned (.tuple #[.string ⟨t.toArray⟩, .bool true]) ∧ w' = W := fun W => by
    have := CutPre_any (43 :: 32 :: t) [43, 32] W
    rw [(pre_yes 43 t).1, (pre_yes 43 t).2] at this
    exact this
  have HN := fun (W : World) (h1 : W.ownsRow B 58 9 (.slice a1 l.1.length c1) l.1.length (cellsT l.1)) (h2 : SlT W a2 l.2) (h3 : B ≤ W.heap.size) => PNext_any B a1 c1 l.1 a2 c2 l.2 t W h1 h2 hl.take.2.2 hl.take.1 hl.add.1 (by omega) h3
  have e1 : lineE l (43 :: 32 :: t ++ [10]) = saidN l.1 l.2 t := (lineE_end l (43 :: 32 :: t)).1.trans (line_add l t).1
  have e2 : lineY l (43 :: 32 :: t ++ [10]) = (l.1 ++ [tparseT t], l.2) := (lineE_end l (43 :: 32 :: t)).2.trans (line_add l t).2
  have Hbad : Hid (∀ w', saidN l.1 l.2 t ≠ 0 → RowKit.Below w.heap.size w w' → LineAns B (.slice a1 l.1.length c1) (.slice a2 l.2.length c2) l (43 :: 32 :: t ++ [10]) w (.returned (.tuple #[.agg #[.slice none 0 0, .slice a2 l.2.length c2], errV (saidN l.1 l.2 t)])) w') := fun w' h0 hb => LineAns.bad e1 h0 hb
  have Hgood : Hid (∀ g cap w9, saidN l.1 l.2 t = 0 → _ → LineAns B (.slice a1 l.1.length c1) (.slice a2 l.2.length c2) l (43 :: 32 :: t ++ [10]) w (.returned (.tuple #[.agg #[.slice (some ⟨g, 0, none⟩) (l.1.length + 1) cap, .slice a2 l.2.length c2], .nilIface])) w9) := fun g cap w9 h0 hf => LineAns.add (e1.trans h0) e2 hf
  have Hown : Hid (LyOwn B w (.slice a1 l.1.length c1) (.slice a2 l.2.length c2) l) := h
  have hrow : ∀ j, (Value.slice a1 l.1.length c1).ownBlock = some j → j < w.heap.size := fun j e => own_old h.add e
  clear e1 e2 h hl
  generalize LineAns B (.slice a1 l.1.length c1) (.slice a2 l.2.length c2) l (43 :: 32 :: t ++ [10]) w = Q at *
  generalize (43 :: 32 :: t ++ [10]) = s0 at *
  generalize (43 :: 32 :: t) = s1 at *
  go_enter Tryz.func67, Tryz.ntmps67
  go_wp2_with (first
    | (go_at_call 100; refine (HS _).mono ?_; rintro e w' ⟨rfl, rfl⟩; dsimp only)
    | (go_at_call 101; refine (HP _).mono ?_; rintro e w' ⟨rfl, rfl⟩; dsimp only))
  have hA : RowKit.Below w.heap.size w ((w.alloc (.cells #[.slice a1 l.1.length c1, .slice a2 l.2.length c2] 42)).alloc (.cells #[.slice none 0 0, .slice none 0 0] 42)) := bstep (balloc _ _) (balloc _ _)
  obtain ⟨_, _, e3, hsl⟩ := own_slT (ownsRow_below Hown.out.take hA)
  have e4 := (Value.slice.inj e3).1
  rw [← e4] at hsl
  clear e3 e4
  refine (HN _ (ownsRow_below Hown.out.add hA) hsl (by simp; omega)).mono ?_
  rintro e w3 (⟨h0, rfl, hb3⟩ | ⟨h0, g, cap, rfl, hown3, hg3, hat3⟩)
  · obtain ⟨b1, b2⟩ := boxesL (grown_belowN hb3 none) (fun j e => by cases e)
    obtain ⟨q0, q1, _, _, q4⟩ := boxL b1
    obtain ⟨r0, r1, r2, r3, r4⟩ := boxL b2
    have H0 : Hid (saidN l.1 l.2 t ≠ 0) := h0
    have hb9 : RowKit.Below w.heap.size w w3 := bstep hA hb3
    clear b1 b2 h0 hsl hb3
    generalize saidN l.1 l.2 t = N at *
    dsimp only
    go_wp2_with fail
    refine bodyPost_ret (v := .tuple #[.agg #[.slice none 0 0, .slice a2 l.2.length c2], errV N]) (by unfold results; rw [Tryz.results67]; go_simp) rfl ?_
    exact Hbad.out _ H0.out ((hb9.setCell (p := ⟨w.heap.size + 1, 0, none⟩) (by simp) _).setCell (p := ⟨w.heap.size + 1, 1, none⟩) (by simp) _)
  · obtain ⟨b1, b2⟩ := boxesL hg3 hrow
    obtain ⟨q0, q1, _, _, q4⟩ := boxL b1
    obtain ⟨r0, r1, r2, r3, r4⟩ := boxL b2
    have hfin := fun u1 u2 => finL Hown.out.take (Hown.out.ne) hg3 hown3 hat3 b2 u1 u2
    have H0 : Hid (saidN l.1 l.2 t = 0) := h0
    have Hfin : Hid _ := hfin
    clear b1 b2 h0 hsl hg3 hown3 hat3 hfin hrow
    dsimp only
    go_wp2_with fail
    refine bodyPost_ret (v := .tuple #[.agg #[.slice (some ⟨g, 0, none⟩) (l.1.length + 1) cap, .slice a2 l.2.length c2], .nilIface]) (by unfold results; rw [Tryz.results67]; go_simp) rfl ?_
    exact Hgood.out g cap _ H0.out (Hfin.out _ _)

set_option maxHeartbeats 16000000 in
set_option maxRecDepth 100000 in
theorem PLine_take (B : Nat) (a1 a2 : Option Addr) (c1 c2 : Nat) (l : LyP) (t : List UInt8) (w : World) (h : LyOwn B w (.slice a1 l.1.length c1) (.slice a2 l.2.length c2) l) (hl : GoodLy l) (h1 : l.1 = []) (hs : t.length + 3 ≤ 140737488355328) (hB : B ≤ w.heap.size) :
    Calls Tryz.prog 67 #[.agg #[.slice a1 l.1.length c1, .slice a2 l.2.length c2], .string ⟨(45 :: 32 :: t ++ [10]).toArray⟩] w (LineAns B (.slice a1 l.1.length c1) (.slice a2 l.2.length c2) l (45 :: 32 :: t ++ [10]) w) := by
  have HS : ∀ W, Calls Tryz.prog 100 #[.string ⟨(45 :: 32 :: t ++ [10]).toArray⟩, .string ⟨#[10]⟩] W fun e w' => e = .returned (.tuple #[.string ⟨(45 :: 32 :: t).toArray⟩, .bool true]) ∧ w' = W := fun W => by
    have := CutSuf_any (45 :: 32 :: t ++ [10]) [10] W (by simp; omega)
    rw [(suf_yes (45 :: 32 :: t)).1, (suf_yes (45 :: 32 :: t)).2] at this
    exact this
  have HQ2 : ∀ W, Calls Tryz.prog 101 #[.string ⟨(45 :: 32 :: t).toArray⟩, .string ⟨#[43, 32]⟩] W fun e w' => e = .returned (.tuple #[.string ⟨(Lib.trimPrefix (45 :: 32 :: t) [43, 32]).toArray⟩, .bool false]) ∧ w' = W := fun W => by
    have := CutPre_any (45 :: 32 :: t) [43, 32] W
    rw [pre_no (u := 45 :: 32 :: t) (c := 43) (by simp)] at this
    exact this
  generalize Lib.trimPrefix (45 :: 32 :: t) [43, 32] = junk at HQ2
  have HP : ∀ W, Calls Tryz.prog 101 #[.string ⟨(45 :: 32 :: t).toArray⟩, .string ⟨#[45, 32]⟩] W fun e w' => e = .returned (.tuple #[.string ⟨t.toArray⟩, .bool true]) ∧ w' = W := fun W => by
    have := CutPre_any (45 :: 32 :: t) [45, 32] W
    rw [(pre_yes 45 t).1, (pre_yes 45 t).2] at this
    exact this
  have HN := fun (W : World) (h1 : W.ownsRow B 58 9 (.slice a2 l.2.length c2) l.2.length (cellsT l.2)) (h2 : SlT W a1 l.1) (h3 : B ≤ W.heap.size) => PNext_any B a2 c2 l.2 a1 c1 l.1 t W h1 h2 hl.add.2.2 hl.add.1 hl.take.1 (by omega) h3
  have e1 : lineE l (45 :: 32 :: t ++ [10]) = saidN l.2 l.1 t := (lineE_end l (45 :: 32 :: t)).1.trans (line_take h1 t).1
  have e2 : lineY l (45 :: 32 :: t ++ [10]) = (l.1, l.2 ++ [tparseT t]) := (lineE_end l (45 :: 32 :: t)).2.trans (line_take h1 t).2
  have Hbad : Hid (∀ w', saidN l.2 l.1 t ≠ 0 → RowKit.Below w.heap.size w w' → LineAns B (.slice a1 l.1.length c1) (.slice a2 l.2.length c2) l (45 :: 32 :: t ++ [10]) w (.returned (.tuple #[.agg #[.slice a1 l.1.length c1, .slice none 0 0], errV (saidN l.2 l.1 t)])) w') := fun w' h0 hb => LineAns.bad e1 h0 hb
  have Hgood : Hid (∀ g cap w9, saidN l.2 l.1 t = 0 → _ → LineAns B (.slice a1 l.1.length c1) (.slice a2 l.2.length c2) l (45 :: 32 :: t ++ [10]) w (.returned (.tuple #[.agg #[.slice a1 l.1.length c1, .slice (some ⟨g, 0, none⟩) (l.2.length + 1) cap], .nilIface])) w9) := fun g cap w9 h0 hf => LineAns.take (e1.trans h0) e2 hf
  have Hown : Hid (LyOwn B w (.slice a1 l.1.length c1) (.slice a2 l.2.length c2) l) := h
  have hrow : ∀ j, (Value.slice a2 l.2.length c2).ownBlock = some j → j < w.heap.size := fun j e => own_old h.take e
  have hn1 : ¬ ((0 : Int) < (l.1.length : Int)) := by rw [h1]; simp
  have hn2 : decide (0 < l.1.length) = false := by rw [h1]; rfl
  clear e1 e2 h hl h1
  generalize LineAns B (.slice a1 l.1.length c1) (.slice a2 l.2.length c2) l (45 :: 32 :: t ++ [10]) w = Q at *
  generalize (45 :: 32 :: t ++ [10]) = s0 at *
  generalize (45 :: 32 :: t) = s1 at *
  go_enter Tryz.func67, Tryz.ntmps67
  go_wp2_with (first
    | (go_at_call 100; refine (HS _).mono ?_; rintro e w' ⟨rfl, rfl⟩; dsimp only))
  refine (HQ2 _).mono ?_
  rintro e w' ⟨rfl, hw'⟩
  rw [hw']
  clear hw' w'
  dsimp only
  go_wp2_with fail
  refine (HP _).mono ?_
  rintro e w' ⟨rfl, hw'⟩
  rw [hw']
  clear hw' w'
  dsimp only
  go_wp2_with fail
  have hA : RowKit.Below w.heap.size w ((w.alloc (.cells #[.slice a1 l.1.length c1, .slice a2 l.2.length c2] 42)).alloc (.cells #[.slice none 0 0, .slice none 0 0] 42)) := bstep (balloc _ _) (balloc _ _)
  obtain ⟨_, _, e3, hsl⟩ := own_slT (ownsRow_below Hown.out.add hA)
  have e4 := (Value.slice.inj e3).1
  rw [← e4] at hsl
  clear e3 e4
  refine (HN _ (ownsRow_below Hown.out.take hA) hsl (by simp; omega)).mono ?_
  rintro e w3 (⟨h0, rfl, hb3⟩ | ⟨h0, g, cap, rfl, hown3, hg3, hat3⟩)
  · obtain ⟨b1, b2⟩ := boxesL (grown_belowN hb3 none) (fun j e => by cases e)
    obtain ⟨q0, q1, _, _, q4⟩ := boxL b1
    obtain ⟨r0, r1, r2, r3, r4⟩ := boxL b2
    have H0 : Hid (saidN l.2 l.1 t ≠ 0) := h0
    have hb9 : RowKit.Below w.heap.size w w3 := bstep hA hb3
    clear b1 b2 h0 hsl hb3
    generalize saidN l.2 l.1 t = N at *
    dsimp only
    go_wp2_with fail
    refine bodyPost_ret (v := .tuple #[.agg #[.slice a1 l.1.length c1, .slice none 0 0], errV N]) (by unfold results; rw [Tryz.results67]; go_simp) rfl ?_
    exact Hbad.out _ H0.out ((hb9.setCell (p := ⟨w.heap.size + 1, 0, none⟩) (by simp) _).setCell (p := ⟨w.heap.size + 1, 1, none⟩) (by simp) _)
  · obtain ⟨b1, b2⟩ := boxesL hg3 hrow
    obtain ⟨q0, q1, _, _, q4⟩ := boxL b1
    obtain ⟨r0, r1, r2, r3, r4⟩ := boxL b2
    have hfin := fun u1 u2 => finL Hown.out.add (fun j e e2 => Hown.out.ne j e2 e) hg3 hown3 hat3 b2 u1 u2
    have H0 : Hid (saidN l.2 l.1 t = 0) := h0
    have Hfin : Hid _ := hfin
    clear b1 b2 h0 hsl hg3 hown3 hat3 hfin hrow
    dsimp only
    go_wp2_with fail
    refine bodyPost_ret (v := .tuple #[.agg #[.slice a1 l.1.length c1, .slice (some ⟨g, 0, none⟩) (l.2.length + 1) cap], .nilIface]) (by unfold results; rw [Tryz.results67]; go_simp) rfl ?_
    exact Hgood.out g cap _ H0.out (Hfin.out _ _)

set_option maxHeartbeats 16000000 in
set_option maxRecDepth 100000 in
theorem PLine_other (B : Nat) (a1 a2 : Option Addr) (c1 c2 : Nat) (l : LyP) (u : List UInt8) (w : World) (hs : u.length + 1 ≤ 140737488355328) (hp1 : Lib.hasPrefix u [43, 32] = false) (hp2 : Lib.hasPrefix u [45, 32] = false) (hN : lineN l u = 2) :
    Calls Tryz.prog 67 #[.agg #[.slice a1 l.1.length c1, .slice a2 l.2.length c2], .string ⟨(u ++ [10]).toArray⟩] w (LineAns B (.slice a1 l.1.length c1) (.slice a2 l.2.length c2) l (u ++ [10]) w) := by
  have HS : ∀ W, Calls Tryz.prog 100 #[.string ⟨(u ++ [10]).toArray⟩, .string ⟨#[10]⟩] W fun e w' => e = .returned (.tuple #[.string ⟨u.toArray⟩, .bool true]) ∧ w' = W := fun W => by
    have := CutSuf_any (u ++ [10]) [10] W (by simp; omega)
    rw [(suf_yes u).1, (suf_yes u).2] at this
    exact this
  have HQ2 : ∀ W, Calls Tryz.prog 101 #[.string ⟨u.toArray⟩, .string ⟨#[43, 32]⟩] W fun e w' => e = .returned (.tuple #[.string ⟨(Lib.trimPrefix u [43, 32]).toArray⟩, .bool false]) ∧ w' = W := fun W => by
    have := CutPre_any u [43, 32] W
    rw [hp1] at this
    exact this
  have HP : ∀ W, Calls Tryz.prog 101 #[.string ⟨u.toArray⟩, .string ⟨#[45, 32]⟩] W fun e w' => e = .returned (.tuple #[.string ⟨(Lib.trimPrefix u [45, 32]).toArray⟩, .bool false]) ∧ w' = W := fun W => by
    have := CutPre_any u [45, 32] W
    rw [hp2] at this
    exact this
  generalize Lib.trimPrefix u [43, 32] = junk at HQ2
  generalize Lib.trimPrefix u [45, 32] = t at HP
  have fin : Hid (∀ w', RowKit.Below w.heap.size w w' → LineAns B (.slice a1 l.1.length c1) (.slice a2 l.2.length c2) l (u ++ [10]) w (.returned (.tuple #[.agg #[.slice none 0 0, .slice none 0 0], errV 2])) w') := fun w' hb => LineAns.bad ((lineE_end l u).1.trans hN) (by decide) hb
  clear hN hp1 hp2
  generalize LineAns B (.slice a1 l.1.length c1) (.slice a2 l.2.length c2) l (u ++ [10]) w = Q at *
  generalize u ++ [10] = s0 at *
  go_enter Tryz.func67, Tryz.ntmps67
  go_wp2_with (first
    | (go_at_call 100; refine (HS _).mono ?_; rintro e w' ⟨rfl, rfl⟩; dsimp only))
  refine (HQ2 _).mono ?_
  rintro e w' ⟨rfl, hw'⟩
  rw [hw']
  clear hw' w'
  dsimp only
  go_wp2_with fail
  refine (HP _).mono ?_
  rintro e w' ⟨rfl, hw'⟩
  rw [hw']
  clear hw' w'
  dsimp only
  go_wp2_with fail
  exact bodyPost_ret (v := .tuple #[.agg #[.slice none 0 0, .slice none 0 0], errV 2]) (by unfold results; rw [Tryz.results67]; go_simp; rfl) rfl (fin.out _ (bstep (balloc _ _) (balloc _ _)))

set_option maxHeartbeats 16000000 in
set_option maxRecDepth 100000 in
theorem PLine_late (B : Nat) (a1 a2 : Option Addr) (c1 c2 : Nat) (l : LyP) (u : List UInt8) (w : World) (hs : u.length + 1 ≤ 140737488355328) (hp1 : Lib.hasPrefix u [43, 32] = false) (hp2 : Lib.hasPrefix u [45, 32] = true) (h1 : l.1 ≠ []) (hN : lineN l u = 2) :
    Calls Tryz.prog 67 #[.agg #[.slice a1 l.1.length c1, .slice a2 l.2.length c2], .string ⟨(u ++ [10]).toArray⟩] w (LineAns B (.slice a1 l.1.length c1) (.slice a2 l.2.length c2) l (u ++ [10]) w) := by
  have HS : ∀ W, Calls Tryz.prog 100 #[.string ⟨(u ++ [10]).toArray⟩, .string ⟨#[10]⟩] W fun e w' => e = .returned (.tuple #[.string ⟨u.toArray⟩, .bool true]) ∧ w' = W := fun W => by
    have := CutSuf_any (u ++ [10]) [10] W (by simp; omega)
    rw [(suf_yes u).1, (suf_yes u).2] at this
    exact this
  have HQ2 : ∀ W, Calls Tryz.prog 101 #[.string ⟨u.toArray⟩, .string ⟨#[43, 32]⟩] W fun e w' => e = .returned (.tuple #[.string ⟨(Lib.trimPrefix u [43, 32]).toArray⟩, .bool false]) ∧ w' = W := fun W => by
    have := CutPre_any u [43, 32] W
    rw [hp1] at this
    exact this
  have HP : ∀ W, Calls Tryz.prog 101 #[.string ⟨u.toArray⟩, .string ⟨#[45, 32]⟩] W fun e w' => e = .returned (.tuple #[.string ⟨(Lib.trimPrefix u [45, 32]).toArray⟩, .bool true]) ∧ w' = W := fun W => by
    have := CutPre_any u [45, 32] W
    rw [hp2] at this
    exact this
  generalize Lib.trimPrefix u [43, 32] = junk at HQ2
  generalize Lib.trimPrefix u [45, 32] = t at HP
  have fin : Hid (∀ w', RowKit.Below w.heap.size w w' → LineAns B (.slice a1 l.1.length c1) (.slice a2 l.2.length c2) l (u ++ [10]) w (.returned (.tuple #[.agg #[.slice none 0 0, .slice none 0 0], errV 2])) w') := fun w' hb => LineAns.bad ((lineE_end l u).1.trans hN) (by decide) hb
  have hn1 : (0 : Int) < (l.1.length : Int) := by have := List.length_pos_iff.2 h1; omega
  have hn2 : decide (0 < l.1.length) = true := by simpa using List.length_pos_iff.2 h1
  clear h1
  clear hN hp1 hp2
  generalize LineAns B (.slice a1 l.1.length c1) (.slice a2 l.2.length c2) l (u ++ [10]) w = Q at *
  generalize u ++ [10] = s0 at *
  go_enter Tryz.func67, Tryz.ntmps67
  go_wp2_with (first
    | (go_at_call 100; refine (HS _).mono ?_; rintro e w' ⟨rfl, rfl⟩; dsimp only))
  refine (HQ2 _).mono ?_
  rintro e w' ⟨rfl, hw'⟩
  rw [hw']
  clear hw' w'
  dsimp only
  go_wp2_with fail
  refine (HP _).mono ?_
  rintro e w' ⟨rfl, hw'⟩
  rw [hw']
  clear hw' w'
  dsimp only
  go_wp2_with fail
  exact bodyPost_ret (v := .tuple #[.agg #[.slice none 0 0, .slice none 0 0], errV 2]) (by unfold results; rw [Tryz.results67]; go_simp; rfl) rfl (fin.out _ (bstep (balloc _ _) (balloc _ _)))

theorem PLine_any (B : Nat) (a1 a2 : Option Addr) (c1 c2 : Nat) (l : LyP) (s : List UInt8) (w : World) (h : LyOwn B w (.slice a1 l.1.length c1) (.slice a2 l.2.length c2) l) (hl : GoodLy l) (hs : s.length ≤ 140737488355328) (hB : B ≤ w.heap.size) :
    Calls Tryz.prog 67 #[.agg #[.slice a1 l.1.length c1, .slice a2 l.2.length c2], .string ⟨s.toArray⟩] w (LineAns B (.slice a1 l.1.length c1) (.slice a2 l.2.length c2) l s w) := by
  by_cases h10 : s.getLast? = some 10
  · obtain ⟨u, rfl⟩ := List.getLast?_eq_some_iff.1 h10
    simp only [List.length_append, List.length_cons, List.length_nil] at hs
    by_cases hp : ∃ t, u = 43 :: 32 :: t
    · obtain ⟨t, rfl⟩ := hp
      simp only [List.length_cons] at hs
      exact PLine_add B a1 a2 c1 c2 l t w h hl (by omega) hB
    · have hp' : ∀ t, u ≠ 43 :: 32 :: t := fun t e => hp ⟨t, e⟩
      by_cases hq : ∃ t, u = 45 :: 32 :: t
      · obtain ⟨t, rfl⟩ := hq
        simp only [List.length_cons] at hs
        by_cases h1 : l.1 = []
        · exact PLine_take B a1 a2 c1 c2 l t w h hl h1 (by omega) hB
        · exact PLine_late B a1 a2 c1 c2 l _ w (by simp only [List.length_cons]; omega) (pre_no hp') (pre_yes 45 t).1 h1 (line_late h1 t)
      · have hq' : ∀ t, u ≠ 45 :: 32 :: t := fun t e => hq ⟨t, e⟩
        exact PLine_other B a1 a2 c1 c2 l u w (by omega) (pre_no hp') (pre_no hq') (line_neither hp' hq')
  · exact PLine_none B a1 a2 c1 c2 l s w hs h10
end Go.Proofs.YtlmhlmeephnmkaaGreat

/- strings.Lines: its iterator hands over a text's lines, one by one. -/
namespace Go.Proofs.YtlmhlmeephnmkaaGreat
open Go Go.RowKit Go.Proofs Go.Shelf
set_option synthInstance.maxSize 1000

theorem index_no10 {s : List UInt8} (h : cutN s = none) : Lib.indexByte s 10 = -1 := by
  induction s with
  | nil => rfl
  | cons c r ih =>
    unfold cutN at h
    split at h
    · cases h
    · rename_i hc
      have h' : cutN r = none := by
        cases hr : cutN r with
        | none => rfl
        | some p => rw [hr] at h; cases h
      unfold Lib.indexByte
      rw [if_neg (by simpa using hc), ih h']
      rfl
theorem index_some {s u t : List UInt8} (h : cutN s = some (u, t)) : Lib.indexByte s 10 = (u.length : Int) ∧ s.take (u.length + 1) = u ++ [10] ∧ s.drop (u.length + 1) = t := by
  obtain ⟨rfl, hu⟩ := cutN_some h
  refine ⟨?_, ?_, ?_⟩
  · clear h
    induction u with
    | nil => rfl
    | cons c r ih =>
      have hc := hu c (List.mem_cons_self ..)
      have e := ih fun d hd => hu d (List.mem_cons_of_mem _ hd)
      rw [List.cons_append]
      unfold Lib.indexByte
      rw [if_neg (by simpa using hc), e, if_neg (by simp), List.length_cons]
      omega
  · rw [List.take_append]; simp [List.take_of_length_le]
  · rw [List.drop_append]; simp
theorem takeLX (l : List UInt8) (k : Nat) : (⟨l.toArray⟩ : ByteArray).extract 0 k = ⟨(l.take k).toArray⟩ := by
  apply ByteArray.ext
  rw [ByteArray.data_extract]
  simp
theorem dropLX (l : List UInt8) (k : Nat) : (⟨l.toArray⟩ : ByteArray).extract k l.length = ⟨(l.drop k).toArray⟩ := by
  apply ByteArray.ext
  rw [ByteArray.data_extract]
  simp
  exact List.take_of_length_le (by simp)
/-- a line: no longer than a text may be -/
abbrev Ln := { x : List UInt8 // x.length ≤ 140737488355328 }
def valLn (x : Ln) : Array Value := #[.string ⟨x.1.toArray⟩]
/-- the box of what is left -/
def LeftBox (W : World) (B : Nat) (r : List UInt8) : Prop := W.heap[B]? = some (.cells #[.string ⟨r.toArray⟩] 9 (0, 0))
def leftAt (B : Nat) (W : World) : Nat := match W.cell? ⟨B, 0, none⟩ with
  | some (.string s) => s.size
  | _ => 0
theorem LeftBox.cell {W : World} {B : Nat} {r : List UInt8} (h : LeftBox W B r) : W.cell? ⟨B, 0, none⟩ = some (.string ⟨r.toArray⟩) := by simp [World.cell?, show W.heap[B]? = _ from h]
theorem LeftBox.frozen {W : World} {B : Nat} {r : List UInt8} (h : LeftBox W B r) : W.frozen? ⟨B, 0, none⟩ = false := by simp [World.frozen?, show W.heap[B]? = _ from h]
theorem LeftBox.left {W : World} {B : Nat} {r : List UInt8} (h : LeftBox W B r) : leftAt B W = r.length := by
  unfold leftAt
  rw [h.cell]
  rfl
theorem LeftBox.put {W : World} {B : Nat} {r : List UInt8} (h : LeftBox W B r) (t : List UInt8) : LeftBox (W.setCell ⟨B, 0, none⟩ (.string ⟨t.toArray⟩)) B t := Boxed.set (.string ⟨t.toArray⟩) h
theorem LeftBox.drew {W : World} {B : Nat} {r : List UInt8} (h : LeftBox W B r) : LeftBox W.drew B r := h

theorem Lines_any (s : List UInt8) (w : World) : Calls Tryz.prog 66 #[.string ⟨s.toArray⟩] w fun e w' => e = .returned (.func (.func 98) #[] #[.pointer (some ⟨w.heap.size, 0, none⟩)]) ∧ w' = w.alloc (.cells #[.string ⟨s.toArray⟩] 9) := by
  go_enter Tryz.func66, Tryz.ntmps66
  go_wp2
  go_ret
  exact ⟨rfl, rfl⟩

set_option maxRecDepth 100000 in
set_option maxHeartbeats 4000000 in
theorem lines_box (n : Nat) (Bs : Nat) (s : List UInt8) (w : World) (hs : s.length ≤ 140737488355328) (hB : LeftBox w Bs s) :
    SeqBox Fence.wide n Tryz.prog 98 #[.pointer (some ⟨Bs, 0, none⟩)] valLn Bs (fun xs => xs.map (·.1) = lns s) (fun xs => xs.map (·.1) <+: lns s) w := fun l J K W hW hJ hK hY h0 => by
  have hB0 : LeftBox W Bs s := hW.trans hB
  have hI : ∀ (r : List UInt8) (V : World), Calls Tryz.prog 99 #[.string ⟨r.toArray⟩, .int .u8 10] V fun e w' => e = .returned (.int .i64 (Lib.indexByte r 10)) ∧ w' = V := fun r V => Tryz.strings_IndexByte ⟨r.toArray⟩ 10 V
  refine callsIn_of_wp Tryz.func98 rfl trivial ?_ rfl
  simp only [Tryz.ntmps98, List.size_toArray, List.length_cons, List.length_nil, Nat.reduceAdd, Nat.reduceSub, Array.replicate_succ, Array.replicate_zero, List.push_toArray, List.append_toArray, List.nil_append, List.cons_append]
  gi_wp2
  gi_loopw [3] (fun _ wr => ∃ (pre : List Ln) (r : List UInt8), r.length ≤ s.length ∧ Hid (lns s = pre.map (·.1) ++ lns r) ∧ LeftBox wr Bs r ∧ J pre wr) (fun _ wr => leftAt Bs wr)
  case atStart => exact ⟨[], s, Nat.le_refl _, by simp [Hid], hB0, h0⟩
  case round =>
    obtain ⟨pre, r, hr, hl, hb, hj⟩ := hrel
    have hc := hb.cell
    have hf := hb.frozen
    by_cases hne : r = []
    · subst hne
      gi_wp2
      go_end0
      exact ⟨⟨_, rfl⟩, .inl ⟨pre, by have := hl.out; rw [lns_nil, List.append_nil] at this; exact this.symm, hj⟩⟩
    · have hpos : (0 : Int) < (r.length : Int) := by cases r with
        | nil => exact absurd rfl hne
        | cons c t => simp
      cases hcut : cutN r with
      | none =>
        have hi := hI r
        rw [index_no10 hcut] at hi
        have hb2 := hb.put []
        have hj2 : J pre (wr.setCell ⟨Bs, 0, none⟩ (.string ⟨([] : List UInt8).toArray⟩)) := hJ _ _ _ _ hj (grownBy_setCell' wr Bs _) fun x e => by cases e; rfl
        obtain ⟨fn, tmps, assign, body, hy, hR⟩ := hY pre ⟨r, by omega⟩ _ hj2
        dsimp only [valLn] at hy
        have hlast : Hid (lns s = (pre ++ [(⟨r, by omega⟩ : Ln)]).map (·.1) ++ lns []) := by have := hl.out; rw [lns_one hne hcut] at this; simpa [Hid, lns_nil] using this
        gi_wp2
        refine ⟨trivial, fun h => by simp [Fence.wide] at h, (callsIn_wide.2 (hi _)).mono ?_⟩
        rintro e w' ⟨rfl, hw⟩
        rw [hw]
        clear hw
        gi_wp2
        refine ⟨fun h => by simp [Fence.wide] at h, hR.mono ?_⟩
        rintro e W3 (⟨rfl, hJ3, hk3⟩ | ⟨rfl, hK3⟩)
        · have hb3 : LeftBox W3 Bs [] := hk3.trans hb2
          gi_wp2
          go_roundw
          case rel => exact ⟨_, [], by simp, hlast, hb3, hJ3⟩
          case measure => rw [hb3.left, hb.left]; simp; omega
        · gi_wp2
          refine bodyPost_ret (results_none rfl _ _ _) rfl ?_
          exact ⟨⟨_, rfl⟩, .inr ⟨_, ⟨_, hlast.out.symm⟩, hK3⟩⟩
      | some p =>
        obtain ⟨u, t⟩ := p
        obtain ⟨e1, e2, e3⟩ := index_some hcut
        have hlen := cutN_len hcut
        have hi := hI r
        rw [e1] at hi
        have hx1 := takeLX r (u.length + 1)
        have hx2 := dropLX r (u.length + 1)
        rw [e2] at hx1
        rw [e3] at hx2
        obtain ⟨m, hm⟩ : ∃ m : Nat, m = u.length := ⟨_, rfl⟩
        rw [← hm] at hi hx1 hx2 hlen
        have i0 : (0 : Int) ≤ (m : Int) := by omega
        have i1 : ((m + 1 : Nat) : Int) ≤ (r.length : Int) := by omega
        have i2 : m + 1 ≤ r.length := by omega
        have i3 : (0 : Int) ≤ ((m + 1 : Nat) : Int) := by omega
        have w1 : IntKind.i64.wrap ((m : Int) + 1) = ((m + 1 : Nat) : Int) := by simp [IntKind.wrap, IntKind.bits, IntKind.signed]; omega
        have hb2 := (hb.put t).drew
        have hj2 : J pre (wr.setCell ⟨Bs, 0, none⟩ (.string ⟨t.toArray⟩)).drew := hJ _ _ _ (some Bs) hj ⟨rfl, rfl, rfl, (grownBy_setCell' wr Bs _).size, (grownBy_setCell' wr Bs (.string ⟨t.toArray⟩)).block⟩ fun x e => by cases e; rfl
        have hul : (u ++ [10]).length ≤ 140737488355328 := by simp; omega
        obtain ⟨fn, tmps, assign, body, hy, hR⟩ := hY pre ⟨u ++ [10], hul⟩ _ hj2
        dsimp only [valLn] at hy
        have hmore : Hid (lns s = (pre ++ [(⟨u ++ [10], hul⟩ : Ln)]).map (·.1) ++ lns t) := by have := hl.out; rw [lns_more hcut] at this; simpa [Hid] using this
        have Hlen : Hid (t.length < r.length) := by show t.length < r.length; omega
        have Htl : Hid (t.length ≤ s.length) := by show t.length ≤ s.length; omega
        clear e1 e2 e3 hm hlen
        gi_wp2
        refine ⟨trivial, fun h => by simp [Fence.wide] at h, (callsIn_wide.2 (hi _)).mono ?_⟩
        rintro e w' ⟨rfl, hw⟩
        rw [hw]
        clear hw
        gi_wp2
        gi_region
        gi_wp2
        refine ⟨fun h => by simp [Fence.wide] at h, hR.mono ?_⟩
        rintro e W3 (⟨rfl, hJ3, hk3⟩ | ⟨rfl, hK3⟩)
        · have hb3 : LeftBox W3 Bs t := hk3.trans hb2
          gi_wp2
          go_roundw
          case rel => exact ⟨_, t, Htl.out, hmore, hb3, hJ3⟩
          case measure => rw [hb3.left, hb.left]; exact Hlen.out
        · gi_wp2
          refine bodyPost_ret (results_none rfl _ _ _) rfl ?_
          exact ⟨⟨_, rfl⟩, .inr ⟨_, ⟨_, hmore.out.symm⟩, hK3⟩⟩
end Go.Proofs.YtlmhlmeephnmkaaGreat
