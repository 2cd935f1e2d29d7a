/- Both stores side by side, the document's and the program's. -/
import Derived.Test.YtpdieckoemfebaeDoorStoreFace
import Derived.Test.YtpdieckoemfebaeDoorRefStoreKeep
import Derived.Test.YtpdieckoemfebaeDoorAs
namespace Go.Proofs.YtpdieckoemfebaeDoor
open Go Go.RowKit Go.Proofs
set_option synthInstance.maxSize 1000

/-- two numbers in a block -/
def Num2 (W : World) (b : Nat) (x y : Int) : Prop := W.cell? ⟨b, 0, none⟩ = some (.int .i64 x) ∧ W.cell? ⟨b, 1, none⟩ = some (.int .i64 y) ∧ W.frozen? ⟨b, 0, none⟩ = false ∧ W.frozen? ⟨b, 1, none⟩ = false
theorem Num2.keep {W W' : World} {b : Nat} {x y : Int} (h : Num2 W b x y) (hb : W'.heap[b]? = W.heap[b]?) : Num2 W' b x y := by
  have k : ∀ o, W'.cell? ⟨b, o, none⟩ = W.cell? ⟨b, o, none⟩ := fun o => World.cell?_of_block (w := W) hb
  have f : ∀ o, W'.frozen? ⟨b, o, none⟩ = W.frozen? ⟨b, o, none⟩ := fun o => World.frozen?_of_block (w := W) hb
  unfold Num2 at h ⊢
  simp only [k, f]
  exact h
theorem Num2.lt {W : World} {b : Nat} {x y : Int} (h : Num2 W b x y) : b < W.heap.size := World.block_lt_of_cell? W _ h.1
theorem Num2.new (w : World) : Num2 (w.alloc (.cells #[.int .i64 0, .int .i64 0] 40)) w.heap.size 0 0 := by
  unfold Num2
  refine ⟨?_, ?_, ?_, ?_⟩ <;> go_simp
theorem Num2.set0 {W : World} {b : Nat} {x y : Int} (h : Num2 W b x y) (u : Int) : Num2 (W.setCell ⟨b, 0, none⟩ (.int .i64 u)) b u y := by
  obtain ⟨h0, h1, h3, h4⟩ := h
  refine ⟨World.cell?_setCell_same' _ _ _ (by rw [h0]; rfl), ?_, ?_, ?_⟩
  · rw [World.cell?_setCell_other _ _ _ _ (by simp)]; exact h1
  · rw [World.frozen?_setCell]; exact h3
  · rw [World.frozen?_setCell]; exact h4
theorem Num2.set1 {W : World} {b : Nat} {x y : Int} (h : Num2 W b x y) (u : Int) : Num2 (W.setCell ⟨b, 1, none⟩ (.int .i64 u)) b x u := by
  obtain ⟨h0, h1, h3, h4⟩ := h
  refine ⟨?_, World.cell?_setCell_same' _ _ _ (by rw [h1]; rfl), ?_, ?_⟩
  · rw [World.cell?_setCell_other _ _ _ _ (by simp)]; exact h0
  · rw [World.frozen?_setCell]; exact h3
  · rw [World.frozen?_setCell]; exact h4

/-- both stores: the document's has n1, L1; the program's n2, L2 -/
def Both (F : Face) (w0 : World) (s m : Nat) (n1 : Nat) (L1 : List Ob) (n2 : Nat) (L2 : List Ob) (v : Value) (O : Nat → Prop) (W : World) : Prop :=
  RAt W m v n1 L1 ∧ F.At W s O n2 L2 ∧ RowKit.Below w0.heap.size w0 W ∧ w0.heap.size ≤ m ∧ (∀ j, O j → w0.heap.size ≤ j) ∧ (∀ j, O j → ¬ ROwn m v j)
theorem Both.below {F : Face} {w0 : World} {s m n1 n2 : Nat} {L1 L2 : List Ob} {v : Value} {O : Nat → Prop} {W W' : World} (h : Both F w0 s m n1 L1 n2 L2 v O W) (hb : RowKit.Below W.heap.size W W') : Both F w0 s m n1 L1 n2 L2 v O W' :=
  ⟨h.1.below hb, F.below h.2.1 hb, bstep h.2.2.1 hb, h.2.2.2⟩
/-- a change of the document's store -/
theorem Both.ref {F : Face} {w0 : World} {s m n1 n2 n1' : Nat} {L1 L2 L1' : List Ob} {v v' : Value} {O : Nat → Prop} {W W' : World} (h : Both F w0 s m n1 L1 n2 L2 v O W) (hR : RAt W' m v' n1' L1') (ho : Offs (ROwn m v) W W') (hn : ∀ j, ROwn m v' j → ROwn m v j ∨ W.heap.size ≤ j) : Both F w0 s m n1' L1' n2 L2 v' O W' := by
  obtain ⟨h1, h2, h3, h4, h5, h6⟩ := h
  refine ⟨hR, F.keep h2 fun j hj => ho.block j (F.own h2 j hj) (h6 j hj), h3.trans (ho.below (fun j hj => Nat.le_trans h4 (h1.own j hj).1) h3.size), h4, h5, fun j hj hr => ?_⟩
  rcases hn j hr with hr | hr
  · exact h6 j hj hr
  · have := F.own h2 j hj; omega
/-- a change of the program's store -/
theorem Both.prog {F : Face} {w0 : World} {s m n1 n2 n2' : Nat} {L1 L2 L2' : List Ob} {v : Value} {O O' : Nat → Prop} {W W' : World} (h : Both F w0 s m n1 L1 n2 L2 v O W) (hA : F.At W' s O' n2' L2') (ho : Offs O W W') (hn : ∀ j, O' j → O j ∨ W.heap.size ≤ j) : Both F w0 s m n1 L1 n2' L2' v O' W' := by
  obtain ⟨h1, h2, h3, h4, h5, h6⟩ := h
  refine ⟨h1.keep fun j hj => ho.block j (h1.own j hj).2 (fun h' => h6 j h' hj), hA, h3.trans (ho.below h5 h3.size), h4, fun j hj => ?_, fun j hj hr => ?_⟩
  · rcases hn j hj with hj | hj
    · exact h5 j hj
    · exact Nat.le_trans h3.size hj
  · rcases hn j hj with hj | hj
    · exact h6 j hj hr
    · have := (h1.own j hr).2; omega

/-- both stores, and the block of two numbers -/
def PS (F : Face) (w0 : World) (s m bv : Nat) (x y : Int) (n1 : Nat) (L1 : List Ob) (n2 : Nat) (L2 : List Ob) (W : World) : Prop :=
  ∃ (v : Value) (O : Nat → Prop), Both F w0 s m n1 L1 n2 L2 v O W ∧ Num2 W bv x y ∧ ¬ O bv ∧ ¬ ROwn m v bv ∧ w0.heap.size ≤ bv
/-- both stores alone -/
def PB (F : Face) (w0 : World) (s m : Nat) (n : Nat) (L : List Ob) (W : World) : Prop := ∃ (v : Value) (O : Nat → Prop), Both F w0 s m n L n L v O W
section
variable {F : Face} {w0 : World} {s m bv n1 n2 : Nat} {x y : Int} {L1 L2 : List Ob} {W W' : World}
theorem PS.drop {n : Nat} {L : List Ob} (h : PS F w0 s m bv x y n L n L W) : PB F w0 s m n L W := by
  obtain ⟨v, O, h, _⟩ := h
  exact ⟨v, O, h⟩
theorem PB.below {n : Nat} {L : List Ob} (h : PB F w0 s m n L W) (hb : RowKit.Below W.heap.size W W') : PB F w0 s m n L W' := by
  obtain ⟨v, O, h⟩ := h
  exact ⟨v, O, h.below hb⟩
theorem PB.low {n : Nat} {L : List Ob} (h : PB F w0 s m n L W) : RowKit.Below w0.heap.size w0 W := by
  obtain ⟨v, O, h⟩ := h
  exact h.2.2.1
theorem PB.box {n : Nat} {L : List Ob} (h : PB F w0 s m n L W) (hb : RowKit.Below W.heap.size W W') (hn : Num2 W' W.heap.size x y) : PS F w0 s m W.heap.size x y n L n L W' := by
  obtain ⟨v, O, h⟩ := h
  refine ⟨v, O, h.below hb, hn, fun hO => ?_, fun hR => ?_, h.2.2.1.size⟩
  · have := F.own h.2.1 _ hO; omega
  · have := (h.1.own _ hR).2; omega
theorem PS.below (h : PS F w0 s m bv x y n1 L1 n2 L2 W) (hb : RowKit.Below W.heap.size W W') : PS F w0 s m bv x y n1 L1 n2 L2 W' := by
  obtain ⟨v, O, h1, h2, h3⟩ := h
  exact ⟨v, O, h1.below hb, h2.keep (hb.block _ h2.lt), h3⟩
theorem PS.low (h : PS F w0 s m bv x y n1 L1 n2 L2 W) : RowKit.Below w0.heap.size w0 W := by
  obtain ⟨v, O, h1, _⟩ := h
  exact h1.2.2.1
theorem PS.num (h : PS F w0 s m bv x y n1 L1 n2 L2 W) : W.cell? ⟨bv, 0, none⟩ = some (.int .i64 x) ∧ W.cell? ⟨bv, 1, none⟩ = some (.int .i64 y) := by
  obtain ⟨v, O, h1, h2, _⟩ := h
  exact ⟨h2.1, h2.2.1⟩
theorem PS.rput (b : List UInt8) (h : PS F w0 s m bv x y n1 L1 n2 L2 W) (hL : L1.length ≤ 1000) (hn : n1 ≤ 1000000) (hb : b.length ≤ 9223372036854775807) :
    Calls Tryd.prog 10 #[.pointer (some ⟨m, 0, none⟩), .string ⟨b.toArray⟩] W fun e W' => e = .returned (.tuple #[.int .i64 (putI n1 L1 b : Int), .int .i64 (putE L1 b)]) ∧ PS F w0 s m bv x y (putM n1 L1 b) (putL n1 L1 b) n2 L2 W' := by
  obtain ⟨v, O, h1, h2, h3, h4, h5⟩ := h
  refine (RPut_any m v n1 L1 b W h1.1 hL hn hb).mono ?_
  rintro e W' ⟨rfl, v', hR, ho, hg⟩
  refine ⟨rfl, v', O, h1.ref hR ho hg, h2.keep (ho.block _ h2.lt h4), h3, fun hr => ?_, h5⟩
  rcases hg _ hr with hr | hr
  · exact h4 hr
  · have := h2.lt; omega
theorem PS.rkeep (ad : Option Addr) (ca : Nat) (ids : List Int) (h : PS F w0 s m bv x y n1 L1 n2 L2 W) (hi : SlI W ad ids) (hL : L1.length ≤ 1000) (hI : ids.length ≤ 9223372036854775807) :
    Calls Tryd.prog 11 #[.pointer (some ⟨m, 0, none⟩), .slice ad ids.length ca] W fun e W' => e = .returned (.tuple #[.int .i64 (keepI L1 ids : Int), .int .i64 (keepE L1 ids)]) ∧ PS F w0 s m bv x y n1 (keepL L1 ids) n2 L2 W' := by
  obtain ⟨v, O, h1, h2, h3, h4, h5⟩ := h
  refine (RKeep_any m v n1 L1 ad ca ids W h1.1 hi hL hI).mono ?_
  rintro e W' ⟨rfl, v', hR, ho, hg⟩
  refine ⟨rfl, v', O, h1.ref hR ho hg, h2.keep (ho.block _ h2.lt h4), h3, fun hr => ?_, h5⟩
  rcases hg _ hr with hr | hr
  · exact h4 hr
  · have := h2.lt; omega
theorem PS.rget (id : Int) (h : PS F w0 s m bv x y n1 L1 n2 L2 W) (hL : L1.length ≤ 1000) :
    Calls Tryd.prog 13 #[.pointer (some ⟨m, 0, none⟩), .int .i64 id] W fun e W' => e = .returned (.tuple #[.string ⟨(getB L1 id).toArray⟩, .int .i64 (getE L1 id)]) ∧ W' = W := by
  obtain ⟨v, O, h1, _⟩ := h
  refine (RGet_any m v n1 L1 id W h1.1 hL).mono ?_
  rintro e W' ⟨rfl, rfl⟩
  refine ⟨?_, rfl⟩
  unfold getB getE gotV
  cases getO L1 id <;> rfl
theorem PS.rfind (b : List UInt8) (h : PS F w0 s m bv x y n1 L1 n2 L2 W) (hL : L1.length ≤ 1000) :
    Calls Tryd.prog 15 #[.pointer (some ⟨m, 0, none⟩), .string ⟨b.toArray⟩] W fun e W' => e = .returned (.int .i64 (findO L1 b : Int)) ∧ W' = W := by
  obtain ⟨v, O, h1, _⟩ := h
  exact RFind_any m v n1 L1 b W h1.1 hL
theorem PS.put (b : List UInt8) (h : PS F w0 s m bv x y n1 L1 n2 L2 W) (hg : GoodO n2 L2) (hn : n2 ≤ 1000000) (hb : b.length ≤ F.lim) :
    Calls Tryd.prog 7 #[.pointer (some ⟨s, 0, none⟩), .string ⟨b.toArray⟩] W fun e W' => e = .returned (.tuple #[.int .i64 (putI n2 L2 b : Int), errV (putE L2 b)]) ∧ PS F w0 s m bv x y n1 L1 (putM n2 L2 b) (putL n2 L2 b) W' := by
  obtain ⟨v, O, h1, h2, h3, h4, h5⟩ := h
  refine (F.put W s O n2 L2 b h1.2.1 hg hn hb).mono ?_
  rintro e W' ⟨rfl, O', hA, ho, hj⟩
  refine ⟨rfl, v, O', h1.prog hA ho hj, h2.keep (ho.block _ h2.lt h3), fun hr => ?_, h4, h5⟩
  rcases hj _ hr with hr | hr
  · exact h3 hr
  · have := h2.lt; omega
theorem PS.kept (ad : Option Addr) (ca : Nat) (ids : List Int) (h : PS F w0 s m bv x y n1 L1 n2 L2 W) (hg : GoodO n2 L2) (hi : SlI w0 ad ids) (hI : ids.length ≤ 9223372036854775807) (hc : ids.length ≤ ca) :
    Calls Tryd.prog 12 #[.pointer (some ⟨s, 0, none⟩), .slice ad ids.length ca] W fun e W' => e = .returned (.tuple #[.int .i64 (keepI L2 ids : Int), errV (keepE L2 ids)]) ∧ PS F w0 s m bv x y n1 L1 n2 (keepL L2 ids) W' := by
  obtain ⟨v, O, h1, h2, h3, h4, h5⟩ := h
  refine (F.kept W s O n2 L2 ad ca ids h1.2.1 hg (hi.below h1.2.2.1) hI hc (fun b hne hb hO => ?_)).mono ?_
  · obtain ⟨b', o', e', hc'⟩ := hi hne
    have hlt := World.block_lt_of_cell? w0 _ (hc' 0 (List.length_pos_iff.2 hne))
    rw [e'] at hb
    cases hb
    have := h1.2.2.2.2.1 _ hO
    have hlt' : b' < w0.heap.size := hlt
    have : w0.heap.size ≤ b' := this
    omega
  rintro e W' ⟨rfl, O', hA, ho, hj⟩
  refine ⟨rfl, v, O', h1.prog hA ho hj, h2.keep (ho.block _ h2.lt h3), fun hr => ?_, h4, h5⟩
  rcases hj _ hr with hr | hr
  · exact h3 hr
  · have := h2.lt; omega
theorem PS.get (id : Int) (h : PS F w0 s m bv x y n1 L1 n2 L2 W) (hg : GoodO n2 L2) :
    Calls Tryd.prog 14 #[.pointer (some ⟨s, 0, none⟩), .int .i64 id] W fun e W' => e = .returned (.tuple #[.string ⟨(getB L2 id).toArray⟩, errV (getE L2 id)]) ∧ PS F w0 s m bv x y n1 L1 n2 L2 W' := by
  have h0 := h
  obtain ⟨v, O, h1, _⟩ := h
  refine (F.get W s O n2 L2 id h1.2.1 hg).mono ?_
  rintro e W' ⟨rfl, hb⟩
  exact ⟨rfl, h0.below hb⟩
theorem PS.find (b : List UInt8) (h : PS F w0 s m bv x y n1 L1 n2 L2 W) (hg : GoodO n2 L2) (hb : b.length ≤ F.lim) :
    Calls Tryd.prog 16 #[.pointer (some ⟨s, 0, none⟩), .string ⟨b.toArray⟩] W fun e W' => e = .returned (.tuple #[.int .i64 (findO L2 b : Int), errV (findE L2 b)]) ∧ PS F w0 s m bv x y n1 L1 n2 L2 W' := by
  have h0 := h
  obtain ⟨v, O, h1, _⟩ := h
  refine (F.find W s O n2 L2 b h1.2.1 hg hb).mono ?_
  rintro e W' ⟨rfl, hb⟩
  exact ⟨rfl, h0.below hb⟩
theorem PS.len (h : PS F w0 s m bv x y n1 L1 n2 L2 W) (hg : GoodO n2 L2) :
    Calls Tryd.prog 9 #[.pointer (some ⟨s, 0, none⟩)] W fun e W' => e = .returned (.int .i64 (L2.length : Int)) ∧ RowKit.Below W.heap.size W W' := by
  obtain ⟨v, O, h1, _⟩ := h
  exact F.len W s O n2 L2 h1.2.1 hg
theorem PS.hold {u : Value} {a : Addr} (h : PS F w0 s m bv x y n1 L1 n2 L2 W ∧ W.cell? a = some u) (hb : RowKit.Below W.heap.size W W') : PS F w0 s m bv x y n1 L1 n2 L2 W' ∧ W'.cell? a = some u :=
  ⟨h.1.below hb, (hb.cell (World.block_lt_of_cell? W _ h.2)).trans h.2⟩
theorem PS.ids (h : PS F w0 s m bv x y n1 L1 n2 L2 W) (hg : GoodO n2 L2) :
    Calls Tryd.prog 18 #[.pointer (some ⟨s, 0, none⟩)] W fun e W' => ∃ a c, e = .returned (.slice a L2.length c) ∧ SlI W' a (idsO L2) ∧ RowKit.Below W.heap.size W W' := by
  obtain ⟨v, O, h1, _⟩ := h
  refine (F.ids W s O n2 L2 h1.2.1 hg).mono ?_
  rintro e W' ⟨a, c, h2, h3, h4, _⟩
  exact ⟨a, c, h2, h3, h4⟩
/-- the document's list, read by the law itself -/
theorem PS.list (h : PS F w0 s m bv x y n1 L1 n2 L2 W) : ∃ ad cap, W.cell? ⟨m, 1, none⟩ = some (.slice ad L1.length cap) ∧ ∀ (k : Nat) (hk : k < L1.length), ∃ g, ad = some ⟨g, 0, none⟩ ∧ W.cell? ⟨g, k * 2, none⟩ = some (.int .i64 (L1[k].1 : Int)) := by
  obtain ⟨v, O, h1, _⟩ := h
  obtain ⟨ad, cap, rfl⟩ := ownO_form h1.1.2
  refine ⟨ad, cap, h1.1.cells.2.1, fun k hk => ?_⟩
  obtain ⟨g, cap', e1, c0, _⟩ := ownO_at h1.1.2 k hk
  obtain ⟨e2, _, _⟩ := Value.slice.inj e1
  exact ⟨g, e2, c0⟩
end
end Go.Proofs.YtpdieckoemfebaeDoor
