import Derived.Test.YtaddfndohoppeaaGreatMA0x2
import Derived.Lib.BufSteps
import Derived.Deep.RegionHeld3
import Derived.Laws.IdiomStrings
import Derived.Deep.RegionLaw
import Derived.Test.YtaddfndohoppeaaGreatMA0x4
import Derived.Test.YtaddfndohoppeaaGreatMA0x0
import Derived.Maps.OwnSet
import Derived.Maps.RangeWalk
import Derived.Maps.StringElems
import Derived.StringKeys

/- code.addTerm: a term behind bytes that the call owns. -/
namespace Go.Proofs.YtaddfndohoppeaaGreat
open Go Go.RowKit Go.Proofs
set_option synthInstance.maxSize 1000

def bytesV (l : List UInt8) : List Value := l.map fun b => Value.int .u8 b.toNat
theorem bytesV_app (a b : List UInt8) : bytesV (a ++ b) = bytesV a ++ bytesV b := by simp [bytesV]
theorem infoU8 : (Tryz.prog.info? 5).map (fun i => (i.zero, i.size, i.bytes)) = some (some (.int .u8 0), 1, 1) := by kernel_rfl

/-- bytes that a slice owns, in a block from B on; below B nothing has turned since W0 -/
def Buf (B : Nat) (v : Value) (l : List UInt8) (W0 w : World) : Prop := Lib.OwnBuf B 5 v l.length (bytesV l) W0 w
/-- blocks of another type are as they were -/
def Keep (w w' : World) : Prop := ∀ (g : Nat) (C : Array Value) (t : TypeId) (fz : Nat × Nat), t ≠ 5 → w.heap[g]? = some (Obj.cells C t fz) → w'.heap[g]? = some (Obj.cells C t fz)
theorem Keep.refl (w : World) : Keep w w := fun _ _ _ _ _ h => h
theorem Keep.trans {a b c : World} (h : Keep a b) (k : Keep b c) : Keep a c := fun g C t fz ht hg => k g C t fz ht (h g C t fz ht hg)
theorem Keep.alloc (w : World) (o : Obj) : Keep w (w.alloc o) := fun g C t fz _ h => by
  have hl : g < w.heap.size := (Array.getElem?_eq_some_iff.1 h).1
  rw [RowKit.Below.heap_alloc w o g hl]
  exact h
theorem Keep.grown {w w' : World} {B : Nat} {v : Value} {n : Nat} {xs : List Value} (ho : w.ownsRowF B 5 1 v n xs) (hg : w.grownBy w' v.ownBlock) : Keep w w' := fun g C t fz ht h => by
  have hl : g < w.heap.size := (Array.getElem?_eq_some_iff.1 h).1
  rw [hg.block g hl]
  · exact h
  · intro e
    rcases ho.2 with ⟨rfl, _⟩ | ⟨q, cap, cur, f2, rfl, _, hq, _⟩
    · simp [Value.ownBlock] at e
    · simp [Value.ownBlock] at e
      subst e
      rw [hq] at h
      injection h with h
      injection h with _ h2 _
      exact ht h2.symm

theorem app_byte {ops : Array Oper} {rest : List Oper} {o : Oper} {a : Act} {Q : Exit → Act → World → Prop} (hgd : o.guard = none) (s x : Operand)
    (ho : o.op = .call { callee := .builtin .append, args := #[s, x], argTypes := #[136, 136] })
    (B : Nat) (v : Value) (l : List UInt8) (hs : a.eval s = v) (W0 w0 : World) (c : Int) (hb : Buf B v l W0 w0) (m : Nat)
    (hx : a.eval x = .slice (some ⟨m, 0, none⟩) 1 1) (hm : m = w0.heap.size) (c8 : UInt8) (hc : c = (c8.toNat : Int)) (hlen : l.length ≤ 1000000)
    (h : ∀ v' w', Buf B v' (l ++ [c8]) W0 w' → Keep w0 w' → wpList Tryz.prog ops Q rest (a.put o.dst v') w') : wpList Tryz.prog ops Q (o :: rest) a (w0.alloc (.cells #[.int .u8 c] 5)) := by
  obtain ⟨i0, hi0, hz⟩ := Option.map_eq_some_iff.1 infoU8
  have hz0 : i0.zero = some (.int .u8 0) := congrArg Prod.fst hz
  have hz1 : i0.size = 1 := congrArg (fun p => p.2.1) hz
  have hz2 : i0.bytes = 1 := congrArg (fun p => p.2.2) hz
  subst hm
  have hb' : Lib.OwnBuf _ _ _ _ _ _ _ := Lib.OwnBuf.alloc hb (.cells #[.int .u8 c] 5)
  refine wpList_append_ownF _ hgd s x 136 ho B 5 i0 (.int .u8 0) 1 1 Tryz.underlying136 hi0 hz0 hz1 hz2 rfl (by decide) v l.length (bytesV l) hs hb'.1 ⟨w0.heap.size, 0, none⟩ 1 1 [.int .u8 c] hx rfl ?_ ?_ (by unfold maxLen; omega) (by omega) hb'.2.2 ?_
  · intro j u hj
    match j, hj with
    | 0, hj => simp at hj; subst hj; simp [Addr.add]
    | (j + 1), hj => simp at hj
  · intro u hu; simp at hu; subst hu; rfl
  · intro v' w' ho' hg _
    refine h v' w' ?_ ((Keep.alloc _ _).trans (Keep.grown hb'.1 hg))
    have h2 := Lib.OwnBuf.grown hb' ho' hg
    unfold Buf
    rw [List.length_append, bytesV_app]
    subst hc
    exact h2

theorem app_text {ops : Array Oper} {rest : List Oper} {o : Oper} {a : Act} {Q : Exit → Act → World → Prop} {w : World} (hgd : o.guard = none) (sl x : Operand)
    (ho : o.op = .call { callee := .builtin .append, args := #[sl, x], argTypes := #[136, 9] })
    (B : Nat) (v : Value) (l : List UInt8) (hs : a.eval sl = v) (W0 : World) (hb : Buf B v l W0 w) (s : List UInt8) (hx : a.eval x = .string ⟨s.toArray⟩) (hlen : l.length + s.length ≤ 1000000)
    (h : ∀ v' w', Buf B v' (l ++ s) W0 w' → Keep w w' → wpList Tryz.prog ops Q rest (a.put o.dst v') w') : wpList Tryz.prog ops Q (o :: rest) a w := by
  obtain ⟨i0, hi0, hz⟩ := Option.map_eq_some_iff.1 infoU8
  have hz0 : i0.zero = some (.int .u8 0) := congrArg Prod.fst hz
  have hz1 : i0.size = 1 := congrArg (fun p => p.2.1) hz
  have hz2 : i0.bytes = 1 := congrArg (fun p => p.2.2) hz
  have hsz : (⟨s.toArray⟩ : ByteArray).size = s.length := rfl
  refine Lib.wpList_append_own_stringF w hgd sl x 136 9 ho B 5 i0 Tryz.underlying136 Tryz.underlying9 hi0 hz0 hz1 hz2 v l.length (bytesV l) hs hb.1 ⟨s.toArray⟩ hx (by rw [hsz]; unfold maxLen; omega) (by rw [hsz]; omega) hb.2.2 ?_
  intro v' w' ho' hg _
  refine h v' w' ?_ (Keep.grown hb.1 hg)
  have h2 := Lib.OwnBuf.grown hb ho' hg
  unfold Buf
  rw [List.length_append, bytesV_app]
  exact h2

/-- a term in a box -/
def TBox (w : World) (g : Nat) (x : Tm) : Prop := w.heap[g]? = some (Obj.cells #[.int .i64 x.1, .string ⟨x.2.1.toArray⟩, .string ⟨x.2.2.toArray⟩] 56)
theorem TBox.keep {w w' : World} {g : Nat} {x : Tm} (h : TBox w g x) (k : Keep w w') : TBox w' g x := k _ _ _ _ (by decide) h
theorem TBox.c0 {w : World} {g : Nat} {x : Tm} (h : TBox w g x) : w.cell? ⟨g, 0, none⟩ = some (.int .i64 x.1) := by rw [cell_of_row w g 0 _ _ _ h]; rfl
theorem TBox.c1 {w : World} {g : Nat} {x : Tm} (h : TBox w g x) : w.cell? ⟨g, 1, none⟩ = some (.string ⟨x.2.1.toArray⟩) := by rw [cell_of_row w g 1 _ _ _ h]; rfl
theorem TBox.c2 {w : World} {g : Nat} {x : Tm} (h : TBox w g x) : w.cell? ⟨g, 2, none⟩ = some (.string ⟨x.2.2.toArray⟩) := by rw [cell_of_row w g 2 _ _ _ h]; rfl
theorem Buf.alloc {B : Nat} {v : Value} {l : List UInt8} {W0 w : World} (h : Buf B v l W0 w) (o : Obj) : Buf B v l W0 (w.alloc o) := Lib.OwnBuf.alloc h o

set_option maxHeartbeats 4000000 in
set_option maxRecDepth 100000 in
theorem addTerm_any (B : Nat) (v : Value) (l : List UInt8) (W0 : World) (x : Tm) (w : World) (hx : okTm x = 0) (hb : Buf B v l W0 w) (hl : l.length ≤ 900000) :
    Calls Tryz.prog 173 #[v, .agg #[.int .i64 x.1, .string ⟨x.2.1.toArray⟩, .string ⟨x.2.2.toArray⟩]] w fun e w' => ∃ v', e = .returned v' ∧ Buf B v' (l ++ encT x) W0 w' ∧ Keep w w' := by
  obtain ⟨hk, hS, hL⟩ := ok_parts hx
  obtain ⟨k, S, L⟩ := x
  dsimp only at hk hS hL ⊢
  have hb0 : Buf B v l W0 (w.alloc (.cells #[.int .i64 k, .string ⟨S.toArray⟩, .string ⟨L.toArray⟩] 56)) := hb.alloc _
  have hT : TBox (w.alloc (.cells #[.int .i64 k, .string ⟨S.toArray⟩, .string ⟨L.toArray⟩] 56)) w.heap.size (k, S, L) := heap_alloc_new w _
  have hK0 : Hid (Keep w (w.alloc (.cells #[.int .i64 k, .string ⟨S.toArray⟩, .string ⟨L.toArray⟩] 56))) := Keep.alloc _ _
  have hc8 : Hid ((S.length : Int) = ((UInt8.ofNat S.length).toNat : Int)) := by show _ = _; rw [toNat_ofNat (by omega)]
  clear hb hx
  rcases hL with rfl | ⟨rfl, hL⟩
  · rcases hk with rfl | rfl | rfl
    · go_enter Tryz.func173, Tryz.ntmps173
      go_wp2_with (at_builtin; first
        | (refine app_text rfl _ _ rfl B v3 (l ++ [1] ++ [] ++ [UInt8.ofNat S.length]) (by rfl) W0 hb3 S (by rfl) (by simp; omega) ?_; intro v4 w4 hb4 hk4)
        | (refine app_byte rfl _ _ rfl B v2 (l ++ [1] ++ []) (by rfl) W0 _ _ hb2 _ (by rfl) (by simp) (UInt8.ofNat S.length) hc8.out (by simp; omega) ?_; intro v3 w3 hb3 hk3; have hT3 := hT2.keep hk3; have f1 : w3.cell? ⟨w.heap.size, 1, none⟩ = some (.string ⟨S.toArray⟩) := hT3.c1)
        | (refine app_text rfl _ _ rfl B v1 (l ++ [1]) (by rfl) W0 hb1 [] (by rfl) (by simp; omega) ?_; intro v2 w2 hb2 hk2; have hT2 := hT1.keep hk2; have e1 : w2.cell? ⟨w.heap.size, 1, none⟩ = some (.string ⟨S.toArray⟩) := hT2.c1)
        | (refine app_byte rfl _ _ rfl B v l (by rfl) W0 _ _ hb0 _ (by rfl) (by simp) 1 rfl (by omega) ?_; intro v1 w1 hb1 hk1; have hT1 := hT.keep hk1; have d2 : w1.cell? ⟨w.heap.size, 2, none⟩ = some (.string ⟨#[]⟩) := hT1.c2))
      go_ret
      refine ⟨v4, rfl, ?_, ((hK0.out.trans hk1).trans hk2).trans (hk3.trans hk4)⟩
      have e : l ++ encT (1, S, []) = l ++ [1] ++ [] ++ [UInt8.ofNat S.length] ++ S := by simp [encT]
      rw [e]
      exact hb4
    · go_enter Tryz.func173, Tryz.ntmps173
      go_wp2_with (at_builtin; first
        | (refine app_text rfl _ _ rfl B v3 (l ++ [2] ++ [] ++ [UInt8.ofNat S.length]) (by rfl) W0 hb3 S (by rfl) (by simp; omega) ?_; intro v4 w4 hb4 hk4)
        | (refine app_byte rfl _ _ rfl B v2 (l ++ [2] ++ []) (by rfl) W0 _ _ hb2 _ (by rfl) (by simp) (UInt8.ofNat S.length) hc8.out (by simp; omega) ?_; intro v3 w3 hb3 hk3; have hT3 := hT2.keep hk3; have f1 : w3.cell? ⟨w.heap.size, 1, none⟩ = some (.string ⟨S.toArray⟩) := hT3.c1)
        | (refine app_text rfl _ _ rfl B v1 (l ++ [2]) (by rfl) W0 hb1 [] (by rfl) (by simp; omega) ?_; intro v2 w2 hb2 hk2; have hT2 := hT1.keep hk2; have e1 : w2.cell? ⟨w.heap.size, 1, none⟩ = some (.string ⟨S.toArray⟩) := hT2.c1)
        | (refine app_byte rfl _ _ rfl B v l (by rfl) W0 _ _ hb0 _ (by rfl) (by simp) 2 rfl (by omega) ?_; intro v1 w1 hb1 hk1; have hT1 := hT.keep hk1; have d2 : w1.cell? ⟨w.heap.size, 2, none⟩ = some (.string ⟨#[]⟩) := hT1.c2))
      go_ret
      refine ⟨v4, rfl, ?_, ((hK0.out.trans hk1).trans hk2).trans (hk3.trans hk4)⟩
      have e : l ++ encT (2, S, []) = l ++ [2] ++ [] ++ [UInt8.ofNat S.length] ++ S := by simp [encT]
      rw [e]
      exact hb4
    · go_enter Tryz.func173, Tryz.ntmps173
      go_wp2_with (at_builtin; first
        | (refine app_text rfl _ _ rfl B v3 (l ++ [3] ++ [] ++ [UInt8.ofNat S.length]) (by rfl) W0 hb3 S (by rfl) (by simp; omega) ?_; intro v4 w4 hb4 hk4)
        | (refine app_byte rfl _ _ rfl B v2 (l ++ [3] ++ []) (by rfl) W0 _ _ hb2 _ (by rfl) (by simp) (UInt8.ofNat S.length) hc8.out (by simp; omega) ?_; intro v3 w3 hb3 hk3; have hT3 := hT2.keep hk3; have f1 : w3.cell? ⟨w.heap.size, 1, none⟩ = some (.string ⟨S.toArray⟩) := hT3.c1)
        | (refine app_text rfl _ _ rfl B v1 (l ++ [3]) (by rfl) W0 hb1 [] (by rfl) (by simp; omega) ?_; intro v2 w2 hb2 hk2; have hT2 := hT1.keep hk2; have e1 : w2.cell? ⟨w.heap.size, 1, none⟩ = some (.string ⟨S.toArray⟩) := hT2.c1)
        | (refine app_byte rfl _ _ rfl B v l (by rfl) W0 _ _ hb0 _ (by rfl) (by simp) 3 rfl (by omega) ?_; intro v1 w1 hb1 hk1; have hT1 := hT.keep hk1; have d2 : w1.cell? ⟨w.heap.size, 2, none⟩ = some (.string ⟨#[]⟩) := hT1.c2))
      go_ret
      refine ⟨v4, rfl, ?_, ((hK0.out.trans hk1).trans hk2).trans (hk3.trans hk4)⟩
      have e : l ++ encT (3, S, []) = l ++ [3] ++ [] ++ [UInt8.ofNat S.length] ++ S := by simp [encT]
      rw [e]
      exact hb4
  · obtain ⟨p, q, rfl⟩ : ∃ p q, L = [p, q] := by
      match L, hL with
      | [p, q], _ => exact ⟨p, q, rfl⟩
    clear hL hk
    go_enter Tryz.func173, Tryz.ntmps173
    go_wp2_with (at_builtin; first
      | (refine app_text rfl _ _ rfl B v3 (l ++ [7] ++ [p, q] ++ [UInt8.ofNat S.length]) (by rfl) W0 hb3 S (by rfl) (by simp; omega) ?_; intro v4 w4 hb4 hk4)
      | (refine app_byte rfl _ _ rfl B v2 (l ++ [7] ++ [p, q]) (by rfl) W0 _ _ hb2 _ (by rfl) (by simp) (UInt8.ofNat S.length) hc8.out (by simp; omega) ?_; intro v3 w3 hb3 hk3; have hT3 := hT2.keep hk3; have f1 : w3.cell? ⟨w.heap.size, 1, none⟩ = some (.string ⟨S.toArray⟩) := hT3.c1)
      | (refine app_text rfl _ _ rfl B v1 (l ++ [7]) (by rfl) W0 hb1 [p, q] (by rfl) (by simp; omega) ?_; intro v2 w2 hb2 hk2; have hT2 := hT1.keep hk2; have e1 : w2.cell? ⟨w.heap.size, 1, none⟩ = some (.string ⟨S.toArray⟩) := hT2.c1)
      | (refine app_byte rfl _ _ rfl B v l (by rfl) W0 _ _ hb0 _ (by rfl) (by simp) 7 rfl (by omega) ?_; intro v1 w1 hb1 hk1; have hT1 := hT.keep hk1; have d2 : w1.cell? ⟨w.heap.size, 2, none⟩ = some (.string ⟨#[p, q]⟩) := hT1.c2))
    go_ret
    refine ⟨v4, rfl, ?_, ((hK0.out.trans hk1).trans hk2).trans (hk3.trans hk4)⟩
    have e : l ++ encT (3, S, [p, q]) = l ++ [7] ++ [p, q] ++ [UInt8.ofNat S.length] ++ S := by simp [encT]
    rw [e]
    exact hb4
end Go.Proofs.YtaddfndohoppeaaGreat

/- code.addSet: a set behind bytes that the call owns. -/
namespace Go.Proofs.YtaddfndohoppeaaGreat
open Go Go.RowKit Go.Proofs
set_option synthInstance.maxSize 1000

theorem app_two {ops : Array Oper} {rest : List Oper} {o : Oper} {a : Act} {Q : Exit → Act → World → Prop} (hgd : o.guard = none) (s x : Operand)
    (ho : o.op = .call { callee := .builtin .append, args := #[s, x], argTypes := #[136, 136] })
    (B : Nat) (v : Value) (l : List UInt8) (hs : a.eval s = v) (W0 w0 : World) (c d : Int) (hb : Buf B v l W0 w0) (m : Nat)
    (hx : a.eval x = .slice (some ⟨m, 0, none⟩) 2 2) (hm : m = w0.heap.size) (c8 d8 : UInt8) (hc : c = (c8.toNat : Int)) (hd : d = (d8.toNat : Int)) (hlen : l.length ≤ 1000000)
    (h : ∀ v' w', Buf B v' (l ++ [c8, d8]) W0 w' → Keep w0 w' → wpList Tryz.prog ops Q rest (a.put o.dst v') w') : wpList Tryz.prog ops Q (o :: rest) a (w0.alloc (.cells #[.int .u8 c, .int .u8 d] 5)) := by
  obtain ⟨i0, hi0, hz⟩ := Option.map_eq_some_iff.1 infoU8
  have hz0 : i0.zero = some (.int .u8 0) := congrArg Prod.fst hz
  have hz1 : i0.size = 1 := congrArg (fun p => p.2.1) hz
  have hz2 : i0.bytes = 1 := congrArg (fun p => p.2.2) hz
  subst hm
  have hb' : Lib.OwnBuf _ _ _ _ _ _ _ := Lib.OwnBuf.alloc hb (.cells #[.int .u8 c, .int .u8 d] 5)
  refine wpList_append_ownF _ hgd s x 136 ho B 5 i0 (.int .u8 0) 1 1 Tryz.underlying136 hi0 hz0 hz1 hz2 rfl (by decide) v l.length (bytesV l) hs hb'.1 ⟨w0.heap.size, 0, none⟩ 2 2 [.int .u8 c, .int .u8 d] hx rfl ?_ ?_ (by unfold maxLen; omega) (by omega) hb'.2.2 ?_
  · intro j u hj
    match j, hj with
    | 0, hj => simp at hj; subst hj; simp [Addr.add]
    | 1, hj => simp at hj; subst hj; simp [Addr.add]
    | (j + 2), hj => simp at hj
  · intro u hu
    simp at hu
    rcases hu with rfl | rfl <;> rfl
  · intro v' w' ho' hg _
    refine h v' w' ?_ ((Keep.alloc _ _).trans (Keep.grown hb'.1 hg))
    have h2 := Lib.OwnBuf.grown hb' ho' hg
    unfold Buf
    rw [List.length_append, bytesV_app]
    subst hc hd
    exact h2

/-- a triple in a box -/
def N9 (w : World) (g : Nat) (y : Tr) : Prop := w.heap[g]? = some (Obj.cells (encTr y).toArray 58)
theorem N9.keep {w w' : World} {g : Nat} {y : Tr} (h : N9 w g y) (k : Keep w w') : N9 w' g y := k _ _ _ _ (by decide) h
def C9 (W : World) (n : Nat) (y : Tr) : Prop := W.cell? ⟨n, 0, none⟩ = some (.int .i64 y.1.1) ∧ W.cell? ⟨n, 1, none⟩ = some (.string ⟨y.1.2.1.toArray⟩) ∧ W.cell? ⟨n, 2, none⟩ = some (.string ⟨y.1.2.2.toArray⟩) ∧ W.cell? ⟨n, 3, none⟩ = some (.int .i64 y.2.1.1) ∧ W.cell? ⟨n, 4, none⟩ = some (.string ⟨y.2.1.2.1.toArray⟩) ∧ W.cell? ⟨n, 5, none⟩ = some (.string ⟨y.2.1.2.2.toArray⟩) ∧ W.cell? ⟨n, 6, none⟩ = some (.int .i64 y.2.2.1) ∧ W.cell? ⟨n, 7, none⟩ = some (.string ⟨y.2.2.2.1.toArray⟩) ∧ W.cell? ⟨n, 8, none⟩ = some (.string ⟨y.2.2.2.2.toArray⟩)
theorem N9.all {W : World} {n : Nat} {y : Tr} (h : N9 W n y) : N9 W n y ∧ C9 W n y := by
  refine ⟨h, ?_⟩
  unfold C9
  simp only [cell_of_row W n _ _ _ _ h]
  exact ⟨rfl, rfl, rfl, rfl, rfl, rfl, rfl, rfl, rfl⟩

theorem encT_len {x : Tm} (h : okTm x = 0) : (encT x).length ≤ 28 := by
  obtain ⟨-, hS, hL⟩ := ok_parts h
  have : x.2.2.length ≤ 2 := by
    rcases hL with e | ⟨_, e⟩
    · rw [e]; simp
    · omega
  simp [encT]
  omega
theorem encX_len {x : Tr} (h : okTr x) : (encX x).length ≤ 84 := by
  have h1 := encT_len h.1
  have h2 := encT_len h.2.1
  have h3 := encT_len h.2.2
  simp [encX]
  omega
theorem encR_len (l : List Tr) (h : ∀ x ∈ l, okTr x) : (encR l).length ≤ 84 * l.length := by
  induction l with
  | nil => simp [encR]
  | cons x l ih =>
    have h1 := encX_len (h x (List.mem_cons_self ..))
    have h2 := ih (fun y hy => h y (List.mem_cons_of_mem _ hy))
    rw [show encR (x :: l) = encX x ++ encR l by simp [encR], List.length_append, List.length_cons]
    omega

set_option maxHeartbeats 8000000 in
set_option maxRecDepth 100000 in
theorem addSet_any (W0 : World) (v : Value) (pre : List UInt8) (ad : Option Addr) (ca : Nat) (l : List Tr) (w : World) (hl : SlT W0 ad l) (hn : l.length ≤ 200) (hok : ∀ x ∈ l, okTr x) (hb : Buf W0.heap.size v pre W0 w) (hp : pre.length ≤ 100000) :
    Calls Tryz.prog 132 #[v, .slice ad l.length ca] w fun e w' => ∃ v', e = .returned v' ∧ Buf W0.heap.size v' (pre ++ encS l) W0 w' ∧ Keep w w' := by
  have Hl : Hid (SlT W0 ad l) := hl
  have Hok : Hid (∀ x ∈ l, okTr x) := hok
  have HA := addTerm_any W0.heap.size
  have hc : Hid ((l.length : Int) / 256 = ((UInt8.ofNat (l.length / 256)).toNat : Int)) := by show _ = _; rw [toNat_ofNat (by omega)]; omega
  have hd : Hid ((l.length : Int) = ((UInt8.ofNat l.length).toNat : Int)) := by show _ = _; rw [toNat_ofNat (by omega)]
  clear hl hok
  go_enter Tryz.func132, Tryz.ntmps132
  go_wp2_with (at_builtin; refine app_two rfl _ _ rfl W0.heap.size v pre (by rfl) W0 _ _ _ hb _ (by rfl) (by simp) (UInt8.ofNat (l.length / 256)) (UInt8.ofNat l.length) hc.out hd.out (by omega) ?_; intro v1 w1 hb1 hk1)
  generalize hq : [UInt8.ofNat (l.length / 256), UInt8.ofNat l.length] = q2 at *
  have hq2 : q2.length = 2 := by rw [← hq]; rfl
  go_loopw [0, 19] (fun u i wr => ∃ k : Nat, k ≤ l.length ∧ i = .int .i64 k ∧ Hid (Buf W0.heap.size u (pre ++ q2 ++ encR (l.take k)) W0 wr) ∧ Hid (Keep w wr)) (fun _ i _ => l.length - (intOf i).toNat)
  case atStart => exact ⟨0, Nat.zero_le _, rfl, by show Buf _ _ _ _ _; simpa [encR] using hb1, hk1⟩
  case round =>
    obtain ⟨k, hk, rfl, hbu, hkr⟩ := hrel
    by_cases hlt : k < l.length
    · obtain ⟨b, o, rfl, hr⟩ := (Hl.out.below hbu.out.2.1).at k hlt
      obtain ⟨c0, c1, c2, c3, c4, c5, c6, c7, c8⟩ := hr.at k hlt
      have i0' : (0 : Int) ≤ (k : Int) := by omega
      have i1 : (k : Int) < (l.length : Int) := by omega
      have hy := Hok.out _ (List.getElem_mem hlt)
      have htk : Hid (encR (l.take (k + 1)) = encR (l.take k) ++ encX l[k]) := by show encR _ = _; unfold encR; rw [List.take_succ_eq_append_getElem hlt, List.flatMap_append]; simp only [List.flatMap_cons, List.flatMap_nil, List.append_nil]
      have hlen : Hid ((pre ++ q2 ++ encR (l.take k)).length ≤ 120000) := by
        show _ ≤ _
        have h1 := encR_len (l.take k) (fun x hx => Hok.out x (List.mem_of_mem_take hx))
        have h2 : (l.take k).length ≤ 200 := by rw [List.length_take]; omega
        simp only [List.length_append]
        omega
      generalize hbase : pre ++ q2 ++ encR (l.take k) = base at *
      generalize encR (l.take k) = t0 at *
      generalize l[k] = y at *
      have HN : Hid (N9 (wr.alloc (.cells #[.int .i64 y.1.1, .string ⟨y.1.2.1.toArray⟩, .string ⟨y.1.2.2.toArray⟩, .int .i64 y.2.1.1, .string ⟨y.2.1.2.1.toArray⟩, .string ⟨y.2.1.2.2.toArray⟩, .int .i64 y.2.2.1, .string ⟨y.2.2.2.1.toArray⟩, .string ⟨y.2.2.2.2.toArray⟩] 58)) wr.heap.size y) := heap_alloc_new wr _
      have HB : Hid (Buf W0.heap.size _ base W0 (wr.alloc (.cells #[.int .i64 y.1.1, .string ⟨y.1.2.1.toArray⟩, .string ⟨y.1.2.2.toArray⟩, .int .i64 y.2.1.1, .string ⟨y.2.1.2.1.toArray⟩, .string ⟨y.2.1.2.2.toArray⟩, .int .i64 y.2.2.1, .string ⟨y.2.2.2.1.toArray⟩, .string ⟨y.2.2.2.2.toArray⟩] 58))) := hbu.out.alloc _
      have HK : Hid (Keep w (wr.alloc (.cells #[.int .i64 y.1.1, .string ⟨y.1.2.1.toArray⟩, .string ⟨y.1.2.2.toArray⟩, .int .i64 y.2.1.1, .string ⟨y.2.1.2.1.toArray⟩, .string ⟨y.2.1.2.2.toArray⟩, .int .i64 y.2.2.1, .string ⟨y.2.2.2.1.toArray⟩, .string ⟨y.2.2.2.2.toArray⟩] 58))) := hkr.out.trans (Keep.alloc _ _)
      clear hr hb1 hk1 hq hb
      go_wp2_with fail
      obtain ⟨v1, hv1⟩ : ∃ v1, v1 = (wr.alloc (.cells #[.int .i64 y.1.1, .string ⟨y.1.2.1.toArray⟩, .string ⟨y.1.2.2.toArray⟩, .int .i64 y.2.1.1, .string ⟨y.2.1.2.1.toArray⟩, .string ⟨y.2.1.2.2.toArray⟩, .int .i64 y.2.2.1, .string ⟨y.2.2.2.1.toArray⟩, .string ⟨y.2.2.2.2.toArray⟩] 58)) := ⟨_, rfl⟩
      rw [← hv1] at HN HB HK ⊢
      have HNd : N9 v1.drew wr.heap.size y := HN.out
      have HBd : Hid (Buf W0.heap.size _ base W0 v1.drew) := Lib.OwnBuf.drewN HB.out 1
      clear hv1 c0 c1 c2 c3 c4 c5 c6 c7 c8 hbu hkr
      go_region_held3 (fun W => N9 W wr.heap.size y ∧ W.cell? ⟨wr.heap.size, 0, none⟩ = some (.int .i64 y.1.1) ∧ W.cell? ⟨wr.heap.size, 1, none⟩ = some (.string ⟨y.1.2.1.toArray⟩) ∧ W.cell? ⟨wr.heap.size, 2, none⟩ = some (.string ⟨y.1.2.2.toArray⟩) ∧ W.cell? ⟨wr.heap.size, 3, none⟩ = some (.int .i64 y.2.1.1) ∧ W.cell? ⟨wr.heap.size, 4, none⟩ = some (.string ⟨y.2.1.2.1.toArray⟩) ∧ W.cell? ⟨wr.heap.size, 5, none⟩ = some (.string ⟨y.2.1.2.2.toArray⟩) ∧ W.cell? ⟨wr.heap.size, 6, none⟩ = some (.int .i64 y.2.2.1) ∧ W.cell? ⟨wr.heap.size, 7, none⟩ = some (.string ⟨y.2.2.2.1.toArray⟩) ∧ W.cell? ⟨wr.heap.size, 8, none⟩ = some (.string ⟨y.2.2.2.2.toArray⟩)) ((refine N9.all ?_; repeat (first | (with_reducible exact HNd) | (with_reducible refine N9.keep ?_ hk1) | (with_reducible refine N9.keep ?_ hk2) | (with_reducible refine N9.keep ?_ hk3) | (with_reducible exact And.left (by assumption))))) (first
        | (go_at_call_of 173 (Value.agg #[.int .i64 y.1.1, .string ⟨y.1.2.1.toArray⟩, .string ⟨y.1.2.2.toArray⟩]); refine (HA _ base W0 y.1 _ hy.1 HBd.out (by have := hlen.out; omega)).mono ?_; rintro e w1 ⟨u1, rfl, hb1, hk1⟩)
        | (go_at_call_of 173 (Value.agg #[.int .i64 y.2.1.1, .string ⟨y.2.1.2.1.toArray⟩, .string ⟨y.2.1.2.2.toArray⟩]); refine (HA _ (base ++ encT y.1) W0 y.2.1 _ hy.2.1 hb1 (by have := hlen.out; have := encT_len hy.1; simp only [List.length_append]; omega)).mono ?_; rintro e w2 ⟨u2, rfl, hb2, hk2⟩)
        | (go_at_call_of 173 (Value.agg #[.int .i64 y.2.2.1, .string ⟨y.2.2.2.1.toArray⟩, .string ⟨y.2.2.2.2.toArray⟩]); refine (HA _ (base ++ encT y.1 ++ encT y.2.1) W0 y.2.2 _ hy.2.2 hb2 (by have := hlen.out; have := encT_len hy.1; have := encT_len hy.2.1; simp only [List.length_append]; omega)).mono ?_; rintro e w3 ⟨u3, rfl, hb3, hk3⟩))
      go_wp2_with fail
      go_roundw
      case rel =>
        refine ⟨k + 1, by omega, by go_num, ?_, ((HK.out.trans hk1).trans hk2).trans hk3⟩
        show Buf _ _ _ _ _
        rw [htk.out, ← List.append_assoc, hbase]
        rw [show base ++ encX y = base ++ encT y.1 ++ encT y.2.1 ++ encT y.2.2 by simp [encX]]
        exact hb3
      case measure => simp [intOf]; omega
    · obtain rfl : k = l.length := by omega
      go_wp2_with fail
      go_ret
      refine ⟨_, rfl, ?_, hkr.out⟩
      have := hbu.out
      rw [List.take_length, ← hq] at this
      rw [show pre ++ encS l = pre ++ [UInt8.ofNat (l.length / 256), UInt8.ofNat l.length] ++ encR l by simp [encS]]
      exact this
end Go.Proofs.YtaddfndohoppeaaGreat

/- Bytes that a call owns, as a text; sets are right. -/
namespace Go.Proofs.YtaddfndohoppeaaGreat
open Go Go.RowKit Go.Proofs
set_option synthInstance.maxSize 1000

theorem u8U : Tryz.prog.underlying 5 = some (.int .u8) := by kernel_rfl
theorem Buf.string {B : Nat} {v : Value} {l : List UInt8} {W0 w : World} (h : Buf B v l W0 w) (hne : l ≠ []) : (convert 136 9 v).run Tryz.prog w = .ok (.string ⟨l.toArray⟩) w := by
  have h1 := h.1
  rcases h1.2 with ⟨_, h0⟩ | ⟨g, cap, cur, fz, rfl, _, hg, _⟩
  · exact absurd (List.eq_nil_of_length_eq_zero h0) hne
  · refine run_convert_bytes_back w 136 9 5 ⟨g, 0, none⟩ cap l Tryz.underlying136 u8U Tryz.underlying9 ?_
    intro j hj
    refine h1.cells (g := g) rfl j _ ?_
    simp [bytesV, hj]
theorem Buf.nil (w : World) : Buf w.heap.size (.slice none 0 0) [] w w := ⟨World.ownsRowF_nil _ _ _ _, RowKit.Below.refl _ _, Nat.le_refl _⟩
theorem encS_ne (l : List Tr) : encS l ≠ [] := by simp [encS]
theorem okTr_chk {x : Tr} (h : chkTr x = 0) : okTr x := by
  obtain ⟨h1, h2, h3, _⟩ := chk_zero h
  exact ⟨h1, h2, h3⟩
theorem okTr_set {l : List Tr} (h : IsSet l) : ∀ x ∈ l, okTr x := fun x hx => okTr_chk (h.2.1 x hx)
end Go.Proofs.YtaddfndohoppeaaGreat

/- code.Set, code.Term, code.Layer: as bytes. -/
namespace Go.Proofs.YtaddfndohoppeaaGreat
open Go Go.RowKit Go.Proofs
set_option synthInstance.maxSize 1000

attribute [local go_sem] eql_errV neq_errV guard_errV

theorem apart_sets {a b : List Tr} (h : apartN a b = 0) : IsSet a ∧ IsSet b := bothN_zero.1 (orN_zero.1 h).1
def LB (w : World) (g : Nat) (v0 v1 : Value) : Prop := w.heap[g]? = some (Obj.cells #[v0, v1] 42)
theorem LB.keep {w w' : World} {g : Nat} {v0 v1 : Value} (h : LB w g v0 v1) (k : Keep w w') : LB w' g v0 v1 := k _ _ _ _ (by decide) h
theorem LB.all {w : World} {g : Nat} {v0 v1 : Value} (h : LB w g v0 v1) : LB w g v0 v1 ∧ w.cell? ⟨g, 0, none⟩ = some v0 ∧ w.cell? ⟨g, 1, none⟩ = some v1 := by
  refine ⟨h, ?_, ?_⟩
  · rw [cell_of_row w g 0 _ _ _ h]; rfl
  · rw [cell_of_row w g 1 _ _ _ h]; rfl
def layB (a b : List Tr) : List UInt8 := if apartN a b = 0 then encS a ++ encS b else []
theorem encS_len {l : List Tr} (h : IsSet l) : (encS l).length ≤ 20000 := by
  have h1 := encR_len l (okTr_set h)
  have h2 := h.1
  simp [encS]
  omega
set_option maxHeartbeats 2000000 in
set_option maxRecDepth 100000 in
theorem CLayer_any (ad bd : Option Addr) (ca cb : Nat) (a b : List Tr) (w : World) (ha : SlT w ad a) (hb : SlT w bd b) (fa : ∀ x ∈ a, fitTr x) (fb : ∀ x ∈ b, fitTr x) (na : a.length ≤ 9223372036854775807) (nb : b.length ≤ 9223372036854775807) :
    Calls Tryz.prog 86 #[.agg #[.slice ad a.length ca, .slice bd b.length cb]] w fun e w' => e = .returned (.tuple #[.string ⟨(layB a b).toArray⟩, errV (apartN a b)]) ∧ RowKit.Below w.heap.size w w' := by
  have H := fun W h1 h2 => LCheck_any ad bd ca cb a b W h1 h2 fa fb na nb
  have Ha : Hid (SlT w ad a) := ha
  have Hb : Hid (SlT w bd b) := hb
  have f0 : Hid (apartN a b = 0 → layB a b = encS a ++ encS b ∧ IsSet a ∧ IsSet b) := fun e => ⟨if_pos e, apart_sets e⟩
  have f1 : Hid (¬ apartN a b = 0 → layB a b = []) := fun e => if_neg e
  clear ha hb fa fb na nb
  generalize apartN a b = N at *
  generalize layB a b = S at *
  by_cases hN : N = 0
  · subst hN
    obtain ⟨rfl, sa, sb⟩ := f0.out rfl
    have HA := fun W1 (hs : SlT W1 ad a) => addSet_any W1 (.slice none 0 0) [] ad ca a W1 hs sa.1 (okTr_set sa) (Buf.nil W1) (by simp)
    have HB := fun W1 W2 v (hs : SlT W1 bd b) (hv : Buf W1.heap.size v (encS a) W1 W2) => addSet_any W1 v (encS a) bd cb b W2 hs sb.1 (okTr_set sb) hv (by have := encS_len sa; omega)
    clear f0 f1 sa sb
    go_enter Tryz.func86, Tryz.ntmps86
    go_wp2_with fail
    refine (H _ (Ha.out.below (balloc _ _)) (Hb.out.below (balloc _ _))).mono ?_
    rintro e w1 ⟨rfl, hb1⟩
    have hL1 : LB w1 w.heap.size (.slice ad a.length ca) (.slice bd b.length cb) := (hb1.block _ (by simp)).trans (heap_alloc_new w _)
    have hB1 := bstep (balloc _ _) hb1
    have hSa : Hid (SlT w1.drew ad a) := Ha.out.below hB1.drew
    have hSb : Hid (SlT w1.drew bd b) := Hb.out.below hB1.drew
    have hLd : LB w1.drew w.heap.size (.slice ad a.length ca) (.slice bd b.length cb) := hL1
    have x0 : w1.cell? ⟨w.heap.size, 0, none⟩ = some (.slice ad a.length ca) := hL1.all.2.1
    have x1 : w1.cell? ⟨w.heap.size, 1, none⟩ = some (.slice bd b.length cb) := hL1.all.2.2
    have hB1 := hB1.drew
    clear hL1 hb1
    go_wp2_with fail
    go_region_law (first
      | (go_simp; go_at_call_of 132 (Value.slice none 0 0); refine (HA w1.drew hSa.out).mono ?_; rintro e w2 ⟨v2, rfl, hb2, hk1⟩; rw [List.nil_append] at hb2; have hL2 := hLd.keep hk1; have y0 : w2.cell? ⟨w.heap.size, 0, none⟩ = some (.slice ad a.length ca) := hL2.all.2.1; have y1 : w2.cell? ⟨w.heap.size, 1, none⟩ = some (.slice bd b.length cb) := hL2.all.2.2)
      | (go_simp; go_at_call_of 132 (Value.slice bd b.length cb); refine (HB w1.drew w2 v2 hSb.out hb2).mono ?_; rintro e w3 ⟨v3, rfl, hb3, hk2⟩; have hcv := hb3.string (by simp [encS_ne])))
    all_goals go_wp2_with fail
    all_goals
      exact bodyPost_ret (v := .tuple #[.string ⟨(encS a ++ encS b).toArray⟩, .nilIface]) (by simp [results, Tryz.results86, go_sem]) rfl ⟨rfl, bstep hB1 hb3.2.1⟩
  · have e1 := f1.out hN
    subst e1
    have hN' : (N == 0) = false := by simpa using hN
    clear f0 f1
    go_enter Tryz.func86, Tryz.ntmps86
    go_wp2_with fail
    refine (H _ (Ha.out.below (balloc _ _)) (Hb.out.below (balloc _ _))).mono ?_
    rintro e w1 ⟨rfl, hb1⟩
    go_wp2_with fail
    exact bodyPost_ret (v := .tuple #[.string ⟨#[]⟩, errV N]) (by simp [results, Tryz.results86, go_sem]) rfl ⟨rfl, bstep (balloc _ _) hb1⟩
end Go.Proofs.YtaddfndohoppeaaGreat

/- stratalaw1.CodeBack: what is read of what was written. -/
namespace Go.Proofs.YtaddfndohoppeaaGreat
open Go Go.RowKit Go.Proofs
set_option synthInstance.maxSize 1000

theorem lay_reads {a d : List Tr} (ha : IsSet a) (hd : IsSet d) (r : List UInt8) : setS (0, encS a ++ encS d ++ r) = (a, (0, encS d ++ r)) ∧ setS (0, encS d ++ r) = (d, (0, r)) := by
  rw [List.append_assoc]
  exact ⟨setS_good a ha.1 (okTr_set ha) _, setS_good d hd.1 (okTr_set hd) _⟩
theorem back_layer {a d : List Tr} (h : apartN a d = 0) : readLayN (encS a ++ encS d) = 0 ∧ readLayA (encS a ++ encS d) = a ∧ readLayD (encS a ++ encS d) = d := by
  obtain ⟨ha, hd⟩ := apart_sets h
  obtain ⟨e1, e2⟩ := lay_reads ha hd []
  rw [List.append_nil] at e1 e2
  rw [List.append_nil] at e1
  have h1 : readLayN (encS a ++ encS d) = 0 := by
    unfold readLayN
    rw [e1]
    dsimp only
    rw [e2]
    dsimp only
    rw [h]
    rfl
  refine ⟨h1, ?_, ?_⟩
  · unfold readLayA
    rw [if_pos h1, e1]
  · unfold readLayD
    rw [if_pos h1, e1]
    dsimp only
    rw [e2]
end Go.Proofs.YtaddfndohoppeaaGreat

/- A store's face: what the laws ask of the program's store, whatever it is made of. -/
namespace Go.Proofs.YtaddfndohoppeaaGreat
open Go Go.RowKit Go.Proofs
set_option synthInstance.maxSize 1000

def getE (L : List Ob) (id : Int) : Int := if (getO L id).isSome = true then 0 else 5
def getB (L : List Ob) (id : Int) : List UInt8 := (getO L id).getD []
def findE (L : List Ob) (b : List UInt8) : Int := if findO L b = 0 then 5 else 0
/-- the program's store: where it lies, which blocks it owns, and what its calls answer; texts of up to 'lim' bytes -/
structure Face where
  lim : Nat
  At : World → Nat → (Nat → Prop) → Nat → List Ob → Prop
  own : ∀ {w : World} {s : Nat} {O : Nat → Prop} {n : Nat} {L : List Ob}, At w s O n L → ∀ j, O j → j < w.heap.size
  keep : ∀ {w w' : World} {s : Nat} {O : Nat → Prop} {n : Nat} {L : List Ob}, At w s O n L → (∀ j, O j → w'.heap[j]? = w.heap[j]?) → At w' s O n L
  new : ∀ w : World, Calls Tryz.prog 20 #[] w fun e w' => ∃ (s : Nat) (O : Nat → Prop), e = .returned (.pointer (some ⟨s, 0, none⟩)) ∧ At w' s O 0 [] ∧ RowKit.Below w.heap.size w w' ∧ ∀ j, O j → w.heap.size ≤ j
  put : ∀ (w : World) (s : Nat) (O : Nat → Prop) (n : Nat) (L : List Ob) (b : List UInt8), At w s O n L → GoodO n L → n ≤ 1000000 → b.length ≤ lim →
    Calls Tryz.prog 88 #[.pointer (some ⟨s, 0, none⟩), .string ⟨b.toArray⟩] w fun e w' => e = .returned (.tuple #[.int .i64 (putI n L b : Int), errV (putE L b)]) ∧ ∃ O' : Nat → Prop, At w' s O' (putM n L b) (putL n L b) ∧ Offs O w w' ∧ ∀ j, O' j → O j ∨ w.heap.size ≤ j
  get : ∀ (w : World) (s : Nat) (O : Nat → Prop) (n : Nat) (L : List Ob) (id : Int), At w s O n L → GoodO n L →
    Calls Tryz.prog 26 #[.pointer (some ⟨s, 0, none⟩), .int .i64 id] w fun e w' => e = .returned (.tuple #[.string ⟨(getB L id).toArray⟩, errV (getE L id)]) ∧ RowKit.Below w.heap.size w w'
  find : ∀ (w : World) (s : Nat) (O : Nat → Prop) (n : Nat) (L : List Ob) (b : List UInt8), At w s O n L → GoodO n L → b.length ≤ lim →
    Calls Tryz.prog 133 #[.pointer (some ⟨s, 0, none⟩), .string ⟨b.toArray⟩] w fun e w' => e = .returned (.tuple #[.int .i64 (findO L b : Int), errV (findE L b)]) ∧ RowKit.Below w.heap.size w w'
  len : ∀ (w : World) (s : Nat) (O : Nat → Prop) (n : Nat) (L : List Ob), At w s O n L → GoodO n L →
    Calls Tryz.prog 174 #[.pointer (some ⟨s, 0, none⟩)] w fun e w' => e = .returned (.int .i64 (L.length : Int)) ∧ RowKit.Below w.heap.size w w'

theorem Face.below (F : Face) {w w' : World} {s : Nat} {O : Nat → Prop} {n : Nat} {L : List Ob} (h : F.At w s O n L) (hb : RowKit.Below w.heap.size w w') : F.At w' s O n L := F.keep h fun j hj => hb.block j (F.own h j hj)

/-- the program's store alone -/
def SB (F : Face) (w0 : World) (s n : Nat) (L : List Ob) (W : World) : Prop := ∃ O : Nat → Prop, F.At W s O n L ∧ RowKit.Below w0.heap.size w0 W ∧ ∀ j, O j → w0.heap.size ≤ j
theorem SB.below {F : Face} {w0 : World} {s n : Nat} {L : List Ob} {W W' : World} (h : SB F w0 s n L W) (hb : RowKit.Below W.heap.size W W') : SB F w0 s n L W' := by
  obtain ⟨O, h1, h2, h3⟩ := h
  exact ⟨O, F.below h1 hb, bstep h2 hb, h3⟩
theorem SB.low {F : Face} {w0 : World} {s n : Nat} {L : List Ob} {W : World} (h : SB F w0 s n L W) : RowKit.Below w0.heap.size w0 W := by
  obtain ⟨O, h1, h2, h3⟩ := h
  exact h2
theorem SB.put {F : Face} {w0 : World} {s n : Nat} {L : List Ob} {W : World} (b : List UInt8) (h : SB F w0 s n L W) (hg : GoodO n L) (hn : n ≤ 1000000) (hb : b.length ≤ F.lim) :
    Calls Tryz.prog 88 #[.pointer (some ⟨s, 0, none⟩), .string ⟨b.toArray⟩] W fun e W' => e = .returned (.tuple #[.int .i64 (putI n L b : Int), errV (putE L b)]) ∧ SB F w0 s (putM n L b) (putL n L b) W' := by
  obtain ⟨O, h1, h2, h3⟩ := h
  refine (F.put W s O n L b h1 hg hn hb).mono ?_
  rintro e W' ⟨rfl, O', hA, ho, hj⟩
  refine ⟨rfl, O', hA, h2.trans (ho.below h3 h2.size), fun j hj' => ?_⟩
  rcases hj j hj' with h | h
  · exact h3 j h
  · exact Nat.le_trans h2.size h
theorem SB.len {F : Face} {w0 : World} {s n : Nat} {L : List Ob} {W : World} (h : SB F w0 s n L W) (hg : GoodO n L) :
    Calls Tryz.prog 174 #[.pointer (some ⟨s, 0, none⟩)] W fun e W' => e = .returned (.int .i64 (L.length : Int)) ∧ RowKit.Below W.heap.size W W' := by
  obtain ⟨O, h1, h2, h3⟩ := h
  exact F.len W s O n L h1 hg
end Go.Proofs.YtaddfndohoppeaaGreat

/- Objects by number and numbers by object: two maps that stand for a store's list; look-ups, one more, one less, gone over. -/
namespace Go.Proofs.YtaddfndohoppeaaGreat
open Go Go.RowKit Go.Proofs Go.Maps
set_option synthInstance.maxSize 1000

theorem wfO {n : Int} (h0 : -9223372036854775808 ≤ n) (h1 : n ≤ 9223372036854775807) : (Lit.int .i64 n).wf = true := by
  have a : IntKind.i64.min = -9223372036854775808 := by decide
  have b : IntKind.i64.max = 9223372036854775807 := by decide
  simp only [Lit.wf, a, b, Bool.and_eq_true, decide_eq_true_eq]; omega
theorem keyedIO : Keyed Tryz.prog 3 := int_keyed Tryz.underlying3
theorem keyedSO : Keyed Tryz.prog 9 := string_keyed Tryz.underlying9
theorem keyS (t : List UInt8) (h : t.length ≤ maxLen) : keyOf Tryz.prog 9 (.string ⟨t.toArray⟩) = some (.string t) := by
  have := Go.WideMaps.keyOf_string_mk (P := Tryz.prog) (k := 9) Tryz.underlying9 (s := ⟨t.toArray⟩) (by simpa [ByteArray.size] using h)
  simpa using this
theorem keyN {n : Int} (h : (Lit.int .i64 n).wf = true) : keyOf Tryz.prog 3 (.int .i64 n) = some (.int .i64 n) := keyOf_int_mk Tryz.underlying3 h

/-- an object as the map has it: a struct of one text -/
def encOb (b : List UInt8) : DataW Unit := .agg [.lit (.string b)]
def valOb (b : List UInt8) : Value := .agg #[.string ⟨b.toArray⟩]
def objElem (v : Value) : Option (DataW Unit × List MemPlace) :=
  match v with
  | .agg cs => match cs.toList with
    | [.string S] => some (encOb S.data.toList, [])
    | _ => none
  | _ => none
theorem objElem_mk (b : List UInt8) : objElem (valOb b) = some (encOb b, []) := by simp [objElem, valOb]
theorem encOb_inj {x y : List UInt8} (h : encOb x = encOb y) : x = y := by
  simpa [encOb] using h
theorem objElem_form {v : Value} {y : DataW Unit × List MemPlace} (h : objElem v = some y) : ∃ b, v = valOb b ∧ y = (encOb b, []) := by
  unfold objElem at h
  split at h
  · rename_i cs
    split at h
    · rename_i S hcs
      obtain ⟨l, rfl⟩ : ∃ l : List Value, cs = l.toArray := ⟨cs.toList, by simp⟩
      simp at hcs
      subst hcs
      simp only [Option.some.injEq] at h
      exact ⟨S.data.toList, by simp [valOb], h.symm⟩
    · cases h
  · cases h
theorem objElem_inv {v : Value} {b : List UInt8} {ps : List MemPlace} (h : objElem v = some (encOb b, ps)) : v = valOb b := by
  obtain ⟨c, rfl, e⟩ := objElem_form h
  simp only [Prod.mk.injEq] at e
  rw [encOb_inj e.1]

/-- the numbers by object -/
def NumD (D : DataW Unit) (L : List Ob) : Prop := ∀ t : List UInt8, t.length ≤ maxLen → Maps.has D (.string t) = decide (findO L t ≠ 0) ∧ D.atKey (.string t) (.lit (.int .i64 0)) = .lit (.int .i64 (findO L t : Int))
/-- the objects by number -/
def ObjD (D : DataW Unit) (L : List Ob) : Prop := ∀ n : Int, (Lit.int .i64 n).wf = true → Maps.has D (.int .i64 n) = (getO L n).isSome ∧ D.atKey (.int .i64 n) (encOb []) = encOb ((getO L n).getD [])

theorem NumD.nil : NumD (.map []) [] := fun t _ => ⟨by simp [Maps.has_eq, findO], by simp [DataW.atKey, findO]⟩
theorem ObjD.nil : ObjD (.map []) [] := fun n _ => ⟨by simp [Maps.has_eq, getO], by simp [DataW.atKey, getO]⟩

theorem findO_snoc {L : List Ob} {n : Nat} {b t : List UInt8} (hn : findO L b = 0) (hl : ∀ x ∈ L, 1 ≤ x.1) : findO (L ++ [(n + 1, b)]) t = if t = b then n + 1 else findO L t := by
  induction L with
  | nil =>
    simp only [List.nil_append, findO]
    by_cases e : t = b
    · rw [if_pos e.symm, if_pos e]
    · rw [if_neg (fun h => e h.symm), if_neg e]
  | cons x r ih =>
    have hx := hl x (by simp)
    simp only [List.cons_append, findO]
    unfold findO at hn
    by_cases e : x.2 = b
    · rw [if_pos e] at hn; omega
    · rw [if_neg e] at hn
      rw [ih hn fun y hy => hl y (List.mem_cons_of_mem _ hy)]
      by_cases e2 : x.2 = t
      · rw [if_pos e2, if_pos e2, if_neg (fun h => e (e2.trans h))]
      · rw [if_neg e2, if_neg e2]
theorem getO_snoc {L : List Ob} {n : Nat} {b : List UInt8} {z : Int} (hl : ∀ x ∈ L, x.1 ≤ n) : getO (L ++ [(n + 1, b)]) z = if z = ((n + 1 : Nat) : Int) then some b else getO L z := by
  induction L with
  | nil =>
    simp only [List.nil_append, getO]
    by_cases e : z = ((n + 1 : Nat) : Int)
    · rw [if_pos e.symm, if_pos e]
    · rw [if_neg (fun h => e h.symm), if_neg e]
  | cons x r ih =>
    have hx := hl x (by simp)
    simp only [List.cons_append, getO]
    rw [ih fun y hy => hl y (List.mem_cons_of_mem _ hy)]
    by_cases e2 : (x.1 : Int) = z
    · rw [if_pos e2, if_pos e2, if_neg (by omega)]
    · rw [if_neg e2, if_neg e2]
/-- one more -/
theorem NumD.put {D : DataW Unit} {L : List Ob} (h : NumD D L) (hm : IsMap D) {n : Nat} {b : List UInt8} (hn : findO L b = 0) (hl : ∀ x ∈ L, 1 ≤ x.1) (hb : b.length ≤ maxLen) : NumD (D.put (.string b) (.lit (.int .i64 ((n + 1 : Nat) : Int)))) (L ++ [(n + 1, b)]) := by
  intro t ht
  rw [findO_snoc hn hl]
  by_cases e : t = b
  · subst e
    have hk := keyedSO.key (keyS t hb)
    rw [Maps.has_put_same hm hk, Maps.atKey_put_same hm hk, if_pos rfl]
    exact ⟨by simp, rfl⟩
  · have hne : (Lit.string t) ≠ (Lit.string b) := fun e' => e (by simpa using e')
    rw [Maps.has_put_other hne, Maps.atKey_put_other hne, if_neg e]
    exact h t ht
theorem ObjD.put {D : DataW Unit} {L : List Ob} (h : ObjD D L) (hm : IsMap D) {n : Nat} {b : List UInt8} (hl : ∀ x ∈ L, x.1 ≤ n) : ObjD (D.put (.int .i64 ((n + 1 : Nat) : Int)) (encOb b)) (L ++ [(n + 1, b)]) := by
  intro z hz
  rw [getO_snoc hl]
  by_cases e : z = ((n + 1 : Nat) : Int)
  · subst e
    have hk := keyedIO.key (keyN hz)
    rw [Maps.has_put_same hm hk, Maps.atKey_put_same hm hk, if_pos rfl]
    exact ⟨rfl, rfl⟩
  · have hne : (Lit.int .i64 z) ≠ (Lit.int .i64 ((n + 1 : Nat) : Int)) := fun e' => e (by simpa using e')
    rw [Maps.has_put_other hne, Maps.atKey_put_other hne, if_neg e]
    exact h z hz
theorem ObjD.size_put {D : DataW Unit} {L : List Ob} (h : ObjD D L) (ht : Tidy D) {n : Nat} {b : List UInt8} (hl : ∀ x ∈ L, x.1 ≤ n) (hn : n ≤ 1000000) (hs : Maps.size D = L.length) : Maps.size (D.put (.int .i64 ((n + 1 : Nat) : Int)) (encOb b)) = (L ++ [(n + 1, b)]).length := by
  have hno : Maps.has D (.int .i64 ((n + 1 : Nat) : Int)) = false := by
    rw [(h _ (wfO (by omega) (by omega))).1, getO_none fun x hx => by have := hl x hx; omega]
    rfl
  rw [Maps.size_put ht, hno, hs]
  simp

/-- one less: the object of number a -/
def lessO (L : List Ob) (a : Nat) : List Ob := L.filter fun x => decide (x.1 ≠ a)
theorem findO_less {L : List Ob} {a : Nat} {b t : List UInt8} (ho : L.Pairwise fun x y => x.2 ≠ y.2) (ha : (a, b) ∈ L) (hr : L.Pairwise fun x y => x.1 < y.1) : findO (lessO L a) t = if t = b then 0 else findO L t := by
  by_cases e : t = b
  · rw [if_pos e]
    refine findO_none fun x hx => ?_
    obtain ⟨h1, h2⟩ := List.mem_filter.1 hx
    intro e2
    have q1 := findO_in ho h1
    have q2 := findO_in ho ha
    have q3 : x.1 = a := by
      rw [← q1, e2, e]
      exact q2
    simp [q3] at h2
  · rw [if_neg e]
    clear ho
    induction L with
    | nil => rfl
    | cons x r ih =>
      obtain ⟨r1, r2⟩ := List.pairwise_cons.1 hr
      unfold lessO
      rw [List.filter_cons]
      rcases List.mem_cons.1 ha with rfl | ha
      · rw [if_neg (by simp)]
        have : (r.filter fun x => decide (x.1 ≠ a)) = r := List.filter_eq_self.2 fun y hy => by have h9 : a < y.1 := r1 y hy; simp; omega
        rw [this]
        conv => rhs; unfold findO
        rw [if_neg (fun h => e h.symm)]
      · have hx : x.1 < a := r1 _ ha
        rw [if_pos (by simp; omega)]
        unfold findO
        have := ih ha r2
        unfold lessO at this
        rw [this]
theorem getO_less {L : List Ob} {a : Nat} {z : Int} : getO (lessO L a) z = if z = (a : Int) then none else getO L z := by
  by_cases e : z = (a : Int)
  · rw [if_pos e]
    refine getO_none fun x hx => ?_
    obtain ⟨h1, h2⟩ := List.mem_filter.1 hx
    simp at h2
    omega
  · rw [if_neg e]
    induction L with
    | nil => rfl
    | cons x r ih =>
      unfold lessO
      rw [List.filter_cons]
      unfold lessO at ih
      split
      · unfold getO
        rw [ih]
      · rename_i h
        simp at h
        rw [ih]
        conv => rhs; unfold getO
        rw [if_neg (by omega)]
theorem NumD.less {D : DataW Unit} {L : List Ob} (h : NumD D L) {a : Nat} {b : List UInt8} (ho : L.Pairwise fun x y => x.2 ≠ y.2) (hr : L.Pairwise fun x y => x.1 < y.1) (ha : (a, b) ∈ L) : NumD (D.del (.string b)) (lessO L a) := by
  intro t ht
  rw [findO_less ho ha hr]
  by_cases e : t = b
  · subst e
    rw [Maps.has_del_same, Maps.atKey_del_same, if_pos rfl]
    exact ⟨by simp, rfl⟩
  · have hne : (Lit.string t) ≠ (Lit.string b) := fun e' => e (by simpa using e')
    rw [Maps.has_del_other hne, Maps.atKey_del_other hne, if_neg e]
    exact h t ht
theorem ObjD.less {D : DataW Unit} {L : List Ob} (h : ObjD D L) (a : Nat) : ObjD (D.del (.int .i64 (a : Int))) (lessO L a) := by
  intro z hz
  rw [getO_less]
  by_cases e : z = (a : Int)
  · subst e
    rw [Maps.has_del_same, Maps.atKey_del_same, if_pos rfl]
    exact ⟨rfl, rfl⟩
  · have hne : (Lit.int .i64 z) ≠ (Lit.int .i64 (a : Int)) := fun e' => e (by simpa using e')
    rw [Maps.has_del_other hne, Maps.atKey_del_other hne, if_neg e]
    exact h z hz
theorem getO_isSome {L : List Ob} {z : Int} : (getO L z).isSome = true ↔ ∃ x ∈ L, (x.1 : Int) = z := by
  constructor
  · intro h
    obtain ⟨b, hb⟩ := Option.isSome_iff_exists.1 h
    obtain ⟨x, hx, e, _⟩ := getO_some hb
    exact ⟨x, hx, e⟩
  · rintro ⟨x, hx, e⟩
    cases hg : getO L z with
    | some b => rfl
    | none =>
      exfalso
      induction L with
      | nil => simp at hx
      | cons y r ih =>
        unfold getO at hg
        split at hg
        · cases hg
        · rename_i hne
          rcases List.mem_cons.1 hx with rfl | hx
          · exact hne e
          · exact ih hx hg
/-! ### gone over: whoever is still to come -/
def kO (x : Ob) : Lit := .int .i64 (x.1 : Int)
theorem kO_same {x y : Ob} (hw : (kO y).wf = true) : (kO x).sameKey (kO y) = decide (x.1 = y.1) := by
  by_cases e : x.1 = y.1
  · rw [decide_eq_true e]
    have : kO x = kO y := by unfold kO; rw [e]
    rw [this]
    exact WideAt.sameKey_self (keyedIO.key (keyN hw))
  · rw [decide_eq_false e]
    exact Maps.sameKey_ne fun h => e (by simp only [kO, Lit.int.injEq, true_and] at h; exact Int.ofNat.inj h)
/-- the bytes of those that have come -/
def cameO (L : List Ob) (left : Lit → Bool) : Nat := sizeO (L.filter fun x => !left (kO x))
theorem cameO_step {L : List Ob} {left : Lit → Bool} {x : Ob} (hr : L.Pairwise fun x y => x.1 < y.1) (hx : x ∈ L) (hw : (kO x).wf = true) (hl : left (kO x) = true) : cameO L (fun z => left z && !z.sameKey (kO x)) = cameO L left + x.2.length := by
  unfold cameO
  induction L with
  | nil => simp at hx
  | cons y r ih =>
    obtain ⟨r1, r2⟩ := List.pairwise_cons.1 hr
    rw [List.filter_cons, List.filter_cons]
    rcases List.mem_cons.1 hx with rfl | hx
    · have e1 : (kO x).sameKey (kO x) = true := by rw [kO_same hw]; simp
      rw [if_pos (by simp [e1]), if_neg (by simp [hl])]
      have e2 : (r.filter fun y => !(left (kO y) && !(kO y).sameKey (kO x))) = r.filter fun y => !left (kO y) := by
        refine List.filter_congr fun y hy => ?_
        have := r1 y hy
        rw [kO_same hw, decide_eq_false (by omega)]
        simp
      rw [e2]
      simp [sizeO]
      omega
    · have h9 := r1 x hx
      have ih' := ih r2 hx
      have e1 : (kO y).sameKey (kO x) = false := by rw [kO_same hw]; simp; omega
      simp only [e1, Bool.not_false, Bool.and_true]
      by_cases hy : left (kO y) = true
      · simp only [hy, Bool.not_true, Bool.false_eq_true, if_false]
        exact ih'
      · have hy' : left (kO y) = false := by simpa using hy
        simp only [hy', Bool.not_false, if_true]
        simp only [sizeO, List.map_cons, List.sum_cons] at ih' ⊢
        omega
theorem cameO_start {L : List Ob} {left : Lit → Bool} (h : ∀ x ∈ L, left (kO x) = true) : cameO L left = 0 := by
  unfold cameO
  rw [List.filter_eq_nil_iff.2 fun x hx => by simp [h x hx]]
  rfl
theorem cameO_end {L : List Ob} {left : Lit → Bool} (h : ∀ k, left k = false) : cameO L left = sizeO L := by
  unfold cameO
  rw [List.filter_eq_self.2 fun x hx => by simp [h]]
end Go.Proofs.YtaddfndohoppeaaGreat

/- The program's store in memory; New, Len, Find, Get, has: what they tell. -/
namespace Go.Proofs.YtaddfndohoppeaaGreat
open Go Go.RowKit Go.Proofs Go.Maps
set_option synthInstance.maxSize 1000

/-- the store at block s: its two maps, and the last number -/
structure SAt (w : World) (s b1 b2 n : Nat) (L : List Ob) : Prop where
  ne : b1 ≠ b2
  n1 : s ≠ b1
  n2 : s ≠ b2
  c0 : w.cell? ⟨s, 0, none⟩ = some (.map (some b1))
  c1 : w.cell? ⟨s, 1, none⟩ = some (.map (some b2))
  c2 : w.cell? ⟨s, 2, none⟩ = some (.int .i64 (n : Int))
  fz : w.frozen? ⟨s, 2, none⟩ = false
  two : ∃ D1 D2 : DataW Unit, w.ownsMap Tryz.prog 9 (plainElem Tryz.prog 3) b1 n D1 ∧ w.ownsMap Tryz.prog 3 objElem b2 n D2 ∧ NumD D1 L ∧ ObjD D2 L ∧ Maps.size D2 = L.length
  short : ∀ x ∈ L, x.2.length ≤ reachBytes
  big : n ≤ 1000001

theorem ownsMap_block {H : Type} {R : Value → Option (DataW H × List MemPlace)} {k : TypeId} {w w' : World} {b n : Nat} {D : DataW H} (h : w.ownsMap Tryz.prog k R b n D) (hb : w'.heap[b]? = w.heap[b]?) : w'.ownsMap Tryz.prog k R b n D := by
  obtain ⟨es, clock, hm, r⟩ := h
  exact ⟨es, clock, hb.trans hm, r⟩
theorem SAt.kept {w w' : World} {s b1 b2 n : Nat} {L : List Ob} (h : SAt w s b1 b2 n L) (hs : w'.heap[s]? = w.heap[s]?) (h1 : w'.heap[b1]? = w.heap[b1]?) (h2 : w'.heap[b2]? = w.heap[b2]?) : SAt w' s b1 b2 n L := by
  obtain ⟨D1, D2, o1, o2, r⟩ := h.two
  exact ⟨h.ne, h.n1, h.n2, (World.cell?_of_block (w := w) hs).trans h.c0, (World.cell?_of_block (w := w) hs).trans h.c1, (World.cell?_of_block (w := w) hs).trans h.c2, (World.frozen?_of_block (w := w) hs).trans h.fz, ⟨D1, D2, ownsMap_block o1 h1, ownsMap_block o2 h2, r⟩, h.short, h.big⟩
theorem SAt.lts {w : World} {s b1 b2 n : Nat} {L : List Ob} (h : SAt w s b1 b2 n L) : s < w.heap.size := World.block_lt_of_cell? w _ h.c0
theorem SAt.lt1 {w : World} {s b1 b2 n : Nat} {L : List Ob} (h : SAt w s b1 b2 n L) : b1 < w.heap.size := by
  obtain ⟨D1, D2, o1, o2, r⟩ := h.two
  exact o1.lt
theorem SAt.lt2 {w : World} {s b1 b2 n : Nat} {L : List Ob} (h : SAt w s b1 b2 n L) : b2 < w.heap.size := by
  obtain ⟨D1, D2, o1, o2, r⟩ := h.two
  exact o2.lt
theorem SAt.below {w w' : World} {s b1 b2 n : Nat} {L : List Ob} (h : SAt w s b1 b2 n L) (hb : RowKit.Below w.heap.size w w') : SAt w' s b1 b2 n L :=
  h.kept (hb.block s h.lts) (hb.block b1 h.lt1) (hb.block b2 h.lt2)

def ownO (s b1 b2 : Nat) (j : Nat) : Prop := j = s ∨ j = b1 ∨ j = b2
def StoreAt (w : World) (s : Nat) (O : Nat → Prop) (n : Nat) (L : List Ob) : Prop := ∃ b1 b2, SAt w s b1 b2 n L ∧ ∀ j, O j ↔ ownO s b1 b2 j

theorem makeNums (w : World) : (Instr.makeMap 73 none).run Tryz.prog w = .ok (.map (some w.heap.size)) (w.alloc (.map #[] 0)) := by kernel_rfl
theorem makeObjs (w : World) : (Instr.makeMap 108 none).run Tryz.prog w = .ok (.map (some w.heap.size)) (w.alloc (.map #[] 0)) := by kernel_rfl
theorem zeroNum (w : World) : (zeroValue 3).run Tryz.prog w = .ok (.int .i64 0) w := by kernel_rfl
theorem zeroObj (w : World) : (zeroValue 124).run Tryz.prog w = .ok (valOb []) w := by kernel_rfl

/-- a look-up in either map -/
theorem look_num {w : World} {s b1 b2 n : Nat} {L : List Ob} (h : SAt w s b1 b2 n L) (t : List UInt8) (ht : t.length ≤ maxLen) :
    (Instr.lookup 73 (.map (some b1)) (.string ⟨t.toArray⟩) true).run Tryz.prog w = .ok (.tuple #[.int .i64 (findO L t : Int), .bool (decide (findO L t ≠ 0))]) w := by
  obtain ⟨D1, D2, o1, o2, f1, f2, hs⟩ := h.two
  obtain ⟨v, ps, hrun, hv⟩ := o1.look_ok keyedSO Tryz.underlying73 (zeroNum w) (plainElem_int Tryz.underlying3 (by decide)) (keyS t ht)
  rw [(f1 t ht).2] at hv
  obtain ⟨a, rfl, ha, _⟩ := plainElem_int_inv Tryz.underlying3 hv
  simp only [Prod.mk.injEq, DataW.lit.injEq, Lit.int.injEq, true_and] at ha
  rw [hrun, (f1 t ht).1, ha.1]
theorem not_wf {z : Int} (hz : (Lit.int .i64 z).wf ≠ true) {n : Nat} (hn : n ≤ 1000001) : ∀ x : Ob, 1 ≤ x.1 ∧ x.1 ≤ n → (x.1 : Int) ≠ z := fun x hx e => hz (by rw [← e]; exact wfO (by omega) (by omega))
theorem look_obj {w : World} {s b1 b2 n : Nat} {L : List Ob} (h : SAt w s b1 b2 n L) (hg : ∀ x ∈ L, 1 ≤ x.1 ∧ x.1 ≤ n) (z : Int) :
    (Instr.lookup 108 (.map (some b2)) (.int .i64 z) true).run Tryz.prog w = .ok (.tuple #[valOb ((getO L z).getD []), .bool (getO L z).isSome]) w := by
  obtain ⟨D1, D2, o1, o2, f1, f2, hs⟩ := h.two
  by_cases hz : (Lit.int .i64 z).wf = true
  · obtain ⟨v, ps, hrun, hv⟩ := o2.look_ok keyedIO Tryz.underlying108 (zeroObj w) (objElem_mk []) (keyN hz)
    rw [(f2 z hz).2] at hv
    rw [hrun, (f2 z hz).1, objElem_inv hv]
  · have hno : getO L z = none := getO_none fun x hx => not_wf hz h.big x (hg x hx)
    rw [hno]
    obtain ⟨es, clock, hb, F, _⟩ := o2
    have hks : ∀ y ∈ es.toList, MapKept.IsKey (.int .i64) y.key := fun y hy => by
      obtain ⟨l, hl⟩ := F.keys y hy
      obtain ⟨x, hx, _⟩ := Maps.keyOf_int_inv Tryz.underlying3 hl
      rw [hx]
      rfl
    rcases MapKept.findNow_spec (d := .int .i64) (k := .int .i64 z) rfl es.toList 0 hks with ⟨h1, h2⟩ | ⟨j, e0, h1, h2, h3⟩
    · simp [Instr.lookup, run_underlying Tryz.underlying108, MapKept.run_getObj_map hb, MapKept.run_checkKey (k := .int .i64 z) Tryz.underlying3 rfl _ 9999, MapKept.run_findKey Tryz.underlying3 h1, Result.andThen]
      rfl
    · exfalso
      obtain ⟨l, hl⟩ := F.keys e0 (List.mem_of_getElem? h2)
      obtain ⟨x, hx, _, hw⟩ := Maps.keyOf_int_inv Tryz.underlying3 hl
      rw [h3] at hx
      cases hx
      exact hz hw

set_option maxHeartbeats 1000000 in
theorem SNew_any (w : World) : Calls Tryz.prog 20 #[] w fun e w' => e = .returned (.pointer (some ⟨w.heap.size + 2, 0, none⟩)) ∧ SAt w' (w.heap.size + 2) w.heap.size (w.heap.size + 1) 0 [] ∧ RowKit.Below w.heap.size w w' := by
  have h1 := makeNums
  have h2 := makeObjs
  go_enter Tryz.func20, Tryz.ntmps20
  go_wp2_with fail
  go_ret
  refine ⟨by simp, ⟨by omega, by omega, by omega, by go_simp, by go_simp, by go_simp, by go_simp, ⟨.map [], .map [], ?_, ?_, NumD.nil, ObjD.nil, rfl⟩, by simp, by omega⟩, ?_⟩
  · exact ((World.ownsMap_made _ _ _ _).alloc _).alloc _
  · have := (World.ownsMap_made (w.alloc (.map #[] 0)) Tryz.prog 3 objElem).alloc (.cells #[.map (some w.heap.size), .map (some (w.heap.size + 1)), .int .i64 0] 110)
    simpa using this
  · exact bstep (bstep (balloc _ _) (balloc _ _)) (balloc _ _)

theorem SLen_any (w : World) (s b1 b2 n : Nat) (L : List Ob) (h : SAt w s b1 b2 n L) :
    Calls Tryz.prog 174 #[.pointer (some ⟨s, 0, none⟩)] w fun e w' => e = .returned (.int .i64 (L.length : Int)) ∧ w' = w := by
  obtain ⟨D1, D2, o1, o2, f1, f2, hs⟩ := h.two
  have c1 := h.c1
  rw [← hs]
  clear h f1 f2 o1 hs
  go_enter Tryz.func174, Tryz.ntmps174
  go_wp2_with (at_len; refine wpList_len_own _ rfl _ 108 rfl 3 124 Tryz.underlying108 _ b2 _ D2 rfl o2 ?_)
  go_ret
  exact ⟨rfl, rfl⟩

theorem SClone_any (l : List UInt8) (w : World) (hl : l.length ≤ 281474976710656) :
    Calls Tryz.prog 57 #[.string ⟨l.toArray⟩] w fun e w' => e = .returned (.string ⟨l.toArray⟩) ∧ RowKit.Below w.heap.size w w' := by
  go_enter Tryz.func57, Tryz.ntmps57
  go_wp2_with (go_at_call 89; refine (Tryz.stringslite_Clone ⟨l.toArray⟩ _ hl).mono ?_; rintro e w' ⟨rfl, hb⟩)
  go_ret
  exact ⟨rfl, hb⟩

set_option maxHeartbeats 1000000 in
set_option maxRecDepth 100000 in
theorem SFind_any (w : World) (s b1 b2 n : Nat) (L : List Ob) (t : List UInt8) (h : SAt w s b1 b2 n L) (ht : t.length ≤ maxLen) :
    Calls Tryz.prog 133 #[.pointer (some ⟨s, 0, none⟩), .string ⟨t.toArray⟩] w fun e w' => e = .returned (.tuple #[.int .i64 (findO L t : Int), errV (findE L t)]) ∧ RowKit.Below w.heap.size w w' := by
  have hl := look_num h t ht
  have hlt := h.lts
  have c0 := h.c0
  have e2 : Hid (findE L t = if findO L t = 0 then 5 else 0) := rfl
  clear h ht
  generalize findE L t = m at *
  generalize findO L t = k at *
  by_cases hk : k = 0
  · have hm : m = 5 := by rw [e2.out, if_pos hk]
    subst hm hk
    clear e2
    go_enter Tryz.func133, Tryz.ntmps133
    go_wp2_with fail
    exact bodyPost_ret (v := .tuple #[.int .i64 0, .iface 82 (.int .i64 5)]) (by unfold results; rw [Tryz.results133]; go_simp) rfl ⟨rfl, RowKit.Below.refl _ w⟩
  · have hm : m = 0 := by rw [e2.out, if_neg hk]
    subst hm
    rw [decide_eq_true hk] at hl
    clear e2 hk
    go_enter Tryz.func133, Tryz.ntmps133
    go_wp2_with fail
    exact bodyPost_ret (v := .tuple #[.int .i64 (k : Int), .nilIface]) (by unfold results; rw [Tryz.results133]; go_simp) rfl ⟨rfl, RowKit.Below.refl _ w⟩
set_option maxHeartbeats 1000000 in
set_option maxRecDepth 100000 in
theorem SGet_any (w : World) (s b1 b2 n : Nat) (L : List Ob) (z : Int) (h : SAt w s b1 b2 n L) (hg : ∀ x ∈ L, 1 ≤ x.1 ∧ x.1 ≤ n) :
    Calls Tryz.prog 26 #[.pointer (some ⟨s, 0, none⟩), .int .i64 z] w fun e w' => e = .returned (.tuple #[.string ⟨(getB L z).toArray⟩, errV (getE L z)]) ∧ RowKit.Below w.heap.size w w' := by
  have hl := look_obj h hg z
  have hlt := h.lts
  have c1 := h.c1
  have e1 : Hid (getB L z = (getO L z).getD []) := rfl
  have e2 : Hid (getE L z = if (getO L z).isSome = true then 0 else 5) := rfl
  have e3 : ((getO L z).getD []).length ≤ 281474976710656 := by
    cases hb : getO L z with
    | none => simp
    | some b =>
      obtain ⟨x, hx, _, rfl⟩ := getO_some hb
      have := h.short x hx
      unfold reachBytes at this
      simp
      omega
  clear h hg
  generalize getE L z = m at *
  generalize getB L z = u at *
  generalize getO L z = k at *
  unfold valOb at hl
  obtain rfl : u = k.getD [] := e1.out
  clear e1
  cases k with
  | none =>
    have hm : m = 5 := by rw [e2.out]; rfl
    subst hm
    clear e2 e3
    simp only [Option.getD_none, Option.isSome_none] at hl ⊢
    go_enter Tryz.func26, Tryz.ntmps26
    go_wp2_with fail
    exact bodyPost_ret (v := .tuple #[.string ⟨#[]⟩, .iface 82 (.int .i64 5)]) (by unfold results; rw [Tryz.results26]; go_simp) rfl ⟨rfl, balloc _ _⟩
  | some b =>
    have hm : m = 0 := by rw [e2.out]; rfl
    subst hm
    clear e2
    simp only [Option.getD_some, Option.isSome_some] at hl e3 ⊢
    go_enter Tryz.func26, Tryz.ntmps26
    go_wp2_with (go_at_call 57; refine (SClone_any b _ e3).mono ?_; rintro e w' ⟨rfl, hb⟩)
    exact bodyPost_ret (v := .tuple #[.string ⟨b.toArray⟩, .nilIface]) (by unfold results; rw [Tryz.results26]; go_simp) rfl ⟨rfl, bstep (balloc _ _) hb⟩
end Go.Proofs.YtaddfndohoppeaaGreat
