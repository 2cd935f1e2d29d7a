import Derived.Test.YtaddfndohoppeaaGreatDoorMA0x3
import Derived.Lib.BufSteps
import Derived.Deep.RegionHeld3
import Derived.Laws.IdiomStrings

/- code.addTerm: a term behind bytes that the call owns. -/
namespace Go.Proofs.YtaddfndohoppeaaGreatDoor
open Go Go.RowKit Go.Proofs
set_option synthInstance.maxSize 1000

def bytesV (l : List UInt8) : List Value := l.map fun b => Value.int .u8 b.toNat
theorem bytesV_len (l : List UInt8) : (bytesV l).length = l.length := by simp [bytesV]
theorem bytesV_app (a b : List UInt8) : bytesV (a ++ b) = bytesV a ++ bytesV b := by simp [bytesV]
theorem infoU8 : (Tryz.prog.info? 5).map (fun i => (i.zero, i.size, i.bytes)) = some (some (.int .u8 0), 1, 1) := by kernel_rfl

/-- bytes that a slice owns, in a block from B on; below B nothing has turned since W0 -/
def Buf (B : Nat) (v : Value) (l : List UInt8) (W0 w : World) : Prop := Lib.OwnBuf B 5 v l.length (bytesV l) W0 w
/-- blocks of another type are as they were -/
def Keep (w w' : World) : Prop := ∀ (g : Nat) (C : Array Value) (t : TypeId) (fz : Nat × Nat), t ≠ 5 → w.heap[g]? = some (Obj.cells C t fz) → w'.heap[g]? = some (Obj.cells C t fz)
theorem Keep.refl (w : World) : Keep w w := fun _ _ _ _ _ h => h
theorem Keep.trans {a b c : World} (h : Keep a b) (k : Keep b c) : Keep a c := fun g C t fz ht hg => k g C t fz ht (h g C t fz ht hg)
theorem Keep.alloc (w : World) (o : Obj) : Keep w (w.alloc o) := fun g C t fz _ h => by
  have hl : g < w.heap.size := (Array.getElem?_eq_some_iff.1 h).1
  rw [RowKit.Below.heap_alloc w o g hl]
  exact h
theorem Keep.grown {w w' : World} {B : Nat} {v : Value} {n : Nat} {xs : List Value} (ho : w.ownsRowF B 5 1 v n xs) (hg : w.grownBy w' v.ownBlock) : Keep w w' := fun g C t fz ht h => by
  have hl : g < w.heap.size := (Array.getElem?_eq_some_iff.1 h).1
  rw [hg.block g hl]
  · exact h
  · intro e
    rcases ho.2 with ⟨rfl, _⟩ | ⟨q, cap, cur, f2, rfl, _, hq, _⟩
    · simp [Value.ownBlock] at e
    · simp [Value.ownBlock] at e
      subst e
      rw [hq] at h
      injection h with h
      injection h with _ h2 _
      exact ht h2.symm

theorem app_byte {ops : Array Oper} {rest : List Oper} {o : Oper} {a : Act} {Q : Exit → Act → World → Prop} (hgd : o.guard = none) (s x : Operand)
    (ho : o.op = .call { callee := .builtin .append, args := #[s, x], argTypes := #[132, 132] })
    (B : Nat) (v : Value) (l : List UInt8) (hs : a.eval s = v) (W0 w0 : World) (c : Int) (hb : Buf B v l W0 w0) (m : Nat)
    (hx : a.eval x = .slice (some ⟨m, 0, none⟩) 1 1) (hm : m = w0.heap.size) (c8 : UInt8) (hc : c = (c8.toNat : Int)) (hlen : l.length ≤ 1000000)
    (h : ∀ v' w', Buf B v' (l ++ [c8]) W0 w' → Keep w0 w' → wpList Tryz.prog ops Q rest (a.put o.dst v') w') : wpList Tryz.prog ops Q (o :: rest) a (w0.alloc (.cells #[.int .u8 c] 5)) := by
  obtain ⟨i0, hi0, hz⟩ := Option.map_eq_some_iff.1 infoU8
  have hz0 : i0.zero = some (.int .u8 0) := congrArg Prod.fst hz
  have hz1 : i0.size = 1 := congrArg (fun p => p.2.1) hz
  have hz2 : i0.bytes = 1 := congrArg (fun p => p.2.2) hz
  subst hm
  have hb' : Lib.OwnBuf _ _ _ _ _ _ _ := Lib.OwnBuf.alloc hb (.cells #[.int .u8 c] 5)
  refine wpList_append_ownF _ hgd s x 132 ho B 5 i0 (.int .u8 0) 1 1 Tryz.underlying132 hi0 hz0 hz1 hz2 rfl (by decide) v l.length (bytesV l) hs hb'.1 ⟨w0.heap.size, 0, none⟩ 1 1 [.int .u8 c] hx rfl ?_ ?_ (by unfold maxLen; omega) (by omega) hb'.2.2 ?_
  · intro j u hj
    match j, hj with
    | 0, hj => simp at hj; subst hj; simp [Addr.add]
    | (j + 1), hj => simp at hj
  · intro u hu; simp at hu; subst hu; rfl
  · intro v' w' ho' hg _
    refine h v' w' ?_ ((Keep.alloc _ _).trans (Keep.grown hb'.1 hg))
    have h2 := Lib.OwnBuf.grown hb' ho' hg
    unfold Buf
    rw [List.length_append, bytesV_app]
    subst hc
    exact h2

theorem app_text {ops : Array Oper} {rest : List Oper} {o : Oper} {a : Act} {Q : Exit → Act → World → Prop} {w : World} (hgd : o.guard = none) (sl x : Operand)
    (ho : o.op = .call { callee := .builtin .append, args := #[sl, x], argTypes := #[132, 9] })
    (B : Nat) (v : Value) (l : List UInt8) (hs : a.eval sl = v) (W0 : World) (hb : Buf B v l W0 w) (s : List UInt8) (hx : a.eval x = .string ⟨s.toArray⟩) (hlen : l.length + s.length ≤ 1000000)
    (h : ∀ v' w', Buf B v' (l ++ s) W0 w' → Keep w w' → wpList Tryz.prog ops Q rest (a.put o.dst v') w') : wpList Tryz.prog ops Q (o :: rest) a w := by
  obtain ⟨i0, hi0, hz⟩ := Option.map_eq_some_iff.1 infoU8
  have hz0 : i0.zero = some (.int .u8 0) := congrArg Prod.fst hz
  have hz1 : i0.size = 1 := congrArg (fun p => p.2.1) hz
  have hz2 : i0.bytes = 1 := congrArg (fun p => p.2.2) hz
  have hsz : (⟨s.toArray⟩ : ByteArray).size = s.length := rfl
  refine Lib.wpList_append_own_stringF w hgd sl x 132 9 ho B 5 i0 Tryz.underlying132 Tryz.underlying9 hi0 hz0 hz1 hz2 v l.length (bytesV l) hs hb.1 ⟨s.toArray⟩ hx (by rw [hsz]; unfold maxLen; omega) (by rw [hsz]; omega) hb.2.2 ?_
  intro v' w' ho' hg _
  refine h v' w' ?_ (Keep.grown hb.1 hg)
  have h2 := Lib.OwnBuf.grown hb ho' hg
  unfold Buf
  rw [List.length_append, bytesV_app]
  exact h2

/-- a term in a box -/
def TBox (w : World) (g : Nat) (x : Tm) : Prop := w.heap[g]? = some (Obj.cells #[.int .i64 x.1, .string ⟨x.2.1.toArray⟩, .string ⟨x.2.2.toArray⟩] 89)
theorem TBox.keep {w w' : World} {g : Nat} {x : Tm} (h : TBox w g x) (k : Keep w w') : TBox w' g x := k _ _ _ _ (by decide) h
theorem TBox.c0 {w : World} {g : Nat} {x : Tm} (h : TBox w g x) : w.cell? ⟨g, 0, none⟩ = some (.int .i64 x.1) := by rw [cell_of_row w g 0 _ _ _ h]; rfl
theorem TBox.c1 {w : World} {g : Nat} {x : Tm} (h : TBox w g x) : w.cell? ⟨g, 1, none⟩ = some (.string ⟨x.2.1.toArray⟩) := by rw [cell_of_row w g 1 _ _ _ h]; rfl
theorem TBox.c2 {w : World} {g : Nat} {x : Tm} (h : TBox w g x) : w.cell? ⟨g, 2, none⟩ = some (.string ⟨x.2.2.toArray⟩) := by rw [cell_of_row w g 2 _ _ _ h]; rfl
theorem Buf.alloc {B : Nat} {v : Value} {l : List UInt8} {W0 w : World} (h : Buf B v l W0 w) (o : Obj) : Buf B v l W0 (w.alloc o) := Lib.OwnBuf.alloc h o

set_option maxHeartbeats 4000000 in
set_option maxRecDepth 100000 in
theorem addTerm_any (B : Nat) (v : Value) (l : List UInt8) (W0 : World) (x : Tm) (w : World) (hx : okTm x = 0) (hb : Buf B v l W0 w) (hl : l.length ≤ 900000) :
    Calls Tryz.prog 148 #[v, .agg #[.int .i64 x.1, .string ⟨x.2.1.toArray⟩, .string ⟨x.2.2.toArray⟩]] w fun e w' => ∃ v', e = .returned v' ∧ Buf B v' (l ++ encT x) W0 w' ∧ Keep w w' := by
  obtain ⟨hk, hS, hL⟩ := ok_parts hx
  obtain ⟨k, S, L⟩ := x
  dsimp only at hk hS hL ⊢
  have hb0 : Buf B v l W0 (w.alloc (.cells #[.int .i64 k, .string ⟨S.toArray⟩, .string ⟨L.toArray⟩] 89)) := hb.alloc _
  have hT : TBox (w.alloc (.cells #[.int .i64 k, .string ⟨S.toArray⟩, .string ⟨L.toArray⟩] 89)) w.heap.size (k, S, L) := heap_alloc_new w _
  have hK0 : Hid (Keep w (w.alloc (.cells #[.int .i64 k, .string ⟨S.toArray⟩, .string ⟨L.toArray⟩] 89))) := Keep.alloc _ _
  have hc8 : Hid ((S.length : Int) = ((UInt8.ofNat S.length).toNat : Int)) := by show _ = _; rw [toNat_ofNat (by omega)]
  clear hb hx
  rcases hL with rfl | ⟨rfl, hL⟩
  · rcases hk with rfl | rfl | rfl
    · go_enter Tryz.func148, Tryz.ntmps148
      go_wp2_with (at_builtin; first
        | (refine app_text rfl _ _ rfl B v3 (l ++ [1] ++ [] ++ [UInt8.ofNat S.length]) (by rfl) W0 hb3 S (by rfl) (by simp; omega) ?_; intro v4 w4 hb4 hk4)
        | (refine app_byte rfl _ _ rfl B v2 (l ++ [1] ++ []) (by rfl) W0 _ _ hb2 _ (by rfl) (by simp) (UInt8.ofNat S.length) hc8.out (by simp; omega) ?_; intro v3 w3 hb3 hk3; have hT3 := hT2.keep hk3; have f1 : w3.cell? ⟨w.heap.size, 1, none⟩ = some (.string ⟨S.toArray⟩) := hT3.c1)
        | (refine app_text rfl _ _ rfl B v1 (l ++ [1]) (by rfl) W0 hb1 [] (by rfl) (by simp; omega) ?_; intro v2 w2 hb2 hk2; have hT2 := hT1.keep hk2; have e1 : w2.cell? ⟨w.heap.size, 1, none⟩ = some (.string ⟨S.toArray⟩) := hT2.c1)
        | (refine app_byte rfl _ _ rfl B v l (by rfl) W0 _ _ hb0 _ (by rfl) (by simp) 1 rfl (by omega) ?_; intro v1 w1 hb1 hk1; have hT1 := hT.keep hk1; have d2 : w1.cell? ⟨w.heap.size, 2, none⟩ = some (.string ⟨#[]⟩) := hT1.c2))
      go_ret
      refine ⟨v4, rfl, ?_, ((hK0.out.trans hk1).trans hk2).trans (hk3.trans hk4)⟩
      have e : l ++ encT (1, S, []) = l ++ [1] ++ [] ++ [UInt8.ofNat S.length] ++ S := by simp [encT]
      rw [e]
      exact hb4
    · go_enter Tryz.func148, Tryz.ntmps148
      go_wp2_with (at_builtin; first
        | (refine app_text rfl _ _ rfl B v3 (l ++ [2] ++ [] ++ [UInt8.ofNat S.length]) (by rfl) W0 hb3 S (by rfl) (by simp; omega) ?_; intro v4 w4 hb4 hk4)
        | (refine app_byte rfl _ _ rfl B v2 (l ++ [2] ++ []) (by rfl) W0 _ _ hb2 _ (by rfl) (by simp) (UInt8.ofNat S.length) hc8.out (by simp; omega) ?_; intro v3 w3 hb3 hk3; have hT3 := hT2.keep hk3; have f1 : w3.cell? ⟨w.heap.size, 1, none⟩ = some (.string ⟨S.toArray⟩) := hT3.c1)
        | (refine app_text rfl _ _ rfl B v1 (l ++ [2]) (by rfl) W0 hb1 [] (by rfl) (by simp; omega) ?_; intro v2 w2 hb2 hk2; have hT2 := hT1.keep hk2; have e1 : w2.cell? ⟨w.heap.size, 1, none⟩ = some (.string ⟨S.toArray⟩) := hT2.c1)
        | (refine app_byte rfl _ _ rfl B v l (by rfl) W0 _ _ hb0 _ (by rfl) (by simp) 2 rfl (by omega) ?_; intro v1 w1 hb1 hk1; have hT1 := hT.keep hk1; have d2 : w1.cell? ⟨w.heap.size, 2, none⟩ = some (.string ⟨#[]⟩) := hT1.c2))
      go_ret
      refine ⟨v4, rfl, ?_, ((hK0.out.trans hk1).trans hk2).trans (hk3.trans hk4)⟩
      have e : l ++ encT (2, S, []) = l ++ [2] ++ [] ++ [UInt8.ofNat S.length] ++ S := by simp [encT]
      rw [e]
      exact hb4
    · go_enter Tryz.func148, Tryz.ntmps148
      go_wp2_with (at_builtin; first
        | (refine app_text rfl _ _ rfl B v3 (l ++ [3] ++ [] ++ [UInt8.ofNat S.length]) (by rfl) W0 hb3 S (by rfl) (by simp; omega) ?_; intro v4 w4 hb4 hk4)
        | (refine app_byte rfl _ _ rfl B v2 (l ++ [3] ++ []) (by rfl) W0 _ _ hb2 _ (by rfl) (by simp) (UInt8.ofNat S.length) hc8.out (by simp; omega) ?_; intro v3 w3 hb3 hk3; have hT3 := hT2.keep hk3; have f1 : w3.cell? ⟨w.heap.size, 1, none⟩ = some (.string ⟨S.toArray⟩) := hT3.c1)
        | (refine app_text rfl _ _ rfl B v1 (l ++ [3]) (by rfl) W0 hb1 [] (by rfl) (by simp; omega) ?_; intro v2 w2 hb2 hk2; have hT2 := hT1.keep hk2; have e1 : w2.cell? ⟨w.heap.size, 1, none⟩ = some (.string ⟨S.toArray⟩) := hT2.c1)
        | (refine app_byte rfl _ _ rfl B v l (by rfl) W0 _ _ hb0 _ (by rfl) (by simp) 3 rfl (by omega) ?_; intro v1 w1 hb1 hk1; have hT1 := hT.keep hk1; have d2 : w1.cell? ⟨w.heap.size, 2, none⟩ = some (.string ⟨#[]⟩) := hT1.c2))
      go_ret
      refine ⟨v4, rfl, ?_, ((hK0.out.trans hk1).trans hk2).trans (hk3.trans hk4)⟩
      have e : l ++ encT (3, S, []) = l ++ [3] ++ [] ++ [UInt8.ofNat S.length] ++ S := by simp [encT]
      rw [e]
      exact hb4
  · obtain ⟨p, q, rfl⟩ : ∃ p q, L = [p, q] := by
      match L, hL with
      | [p, q], _ => exact ⟨p, q, rfl⟩
    clear hL hk
    go_enter Tryz.func148, Tryz.ntmps148
    go_wp2_with (at_builtin; first
      | (refine app_text rfl _ _ rfl B v3 (l ++ [7] ++ [p, q] ++ [UInt8.ofNat S.length]) (by rfl) W0 hb3 S (by rfl) (by simp; omega) ?_; intro v4 w4 hb4 hk4)
      | (refine app_byte rfl _ _ rfl B v2 (l ++ [7] ++ [p, q]) (by rfl) W0 _ _ hb2 _ (by rfl) (by simp) (UInt8.ofNat S.length) hc8.out (by simp; omega) ?_; intro v3 w3 hb3 hk3; have hT3 := hT2.keep hk3; have f1 : w3.cell? ⟨w.heap.size, 1, none⟩ = some (.string ⟨S.toArray⟩) := hT3.c1)
      | (refine app_text rfl _ _ rfl B v1 (l ++ [7]) (by rfl) W0 hb1 [p, q] (by rfl) (by simp; omega) ?_; intro v2 w2 hb2 hk2; have hT2 := hT1.keep hk2; have e1 : w2.cell? ⟨w.heap.size, 1, none⟩ = some (.string ⟨S.toArray⟩) := hT2.c1)
      | (refine app_byte rfl _ _ rfl B v l (by rfl) W0 _ _ hb0 _ (by rfl) (by simp) 7 rfl (by omega) ?_; intro v1 w1 hb1 hk1; have hT1 := hT.keep hk1; have d2 : w1.cell? ⟨w.heap.size, 2, none⟩ = some (.string ⟨#[p, q]⟩) := hT1.c2))
    go_ret
    refine ⟨v4, rfl, ?_, ((hK0.out.trans hk1).trans hk2).trans (hk3.trans hk4)⟩
    have e : l ++ encT (3, S, [p, q]) = l ++ [7] ++ [p, q] ++ [UInt8.ofNat S.length] ++ S := by simp [encT]
    rw [e]
    exact hb4
end Go.Proofs.YtaddfndohoppeaaGreatDoor

/- code.addSet: a set behind bytes that the call owns. -/
namespace Go.Proofs.YtaddfndohoppeaaGreatDoor
open Go Go.RowKit Go.Proofs
set_option synthInstance.maxSize 1000

theorem app_two {ops : Array Oper} {rest : List Oper} {o : Oper} {a : Act} {Q : Exit → Act → World → Prop} (hgd : o.guard = none) (s x : Operand)
    (ho : o.op = .call { callee := .builtin .append, args := #[s, x], argTypes := #[132, 132] })
    (B : Nat) (v : Value) (l : List UInt8) (hs : a.eval s = v) (W0 w0 : World) (c d : Int) (hb : Buf B v l W0 w0) (m : Nat)
    (hx : a.eval x = .slice (some ⟨m, 0, none⟩) 2 2) (hm : m = w0.heap.size) (c8 d8 : UInt8) (hc : c = (c8.toNat : Int)) (hd : d = (d8.toNat : Int)) (hlen : l.length ≤ 1000000)
    (h : ∀ v' w', Buf B v' (l ++ [c8, d8]) W0 w' → Keep w0 w' → wpList Tryz.prog ops Q rest (a.put o.dst v') w') : wpList Tryz.prog ops Q (o :: rest) a (w0.alloc (.cells #[.int .u8 c, .int .u8 d] 5)) := by
  obtain ⟨i0, hi0, hz⟩ := Option.map_eq_some_iff.1 infoU8
  have hz0 : i0.zero = some (.int .u8 0) := congrArg Prod.fst hz
  have hz1 : i0.size = 1 := congrArg (fun p => p.2.1) hz
  have hz2 : i0.bytes = 1 := congrArg (fun p => p.2.2) hz
  subst hm
  have hb' : Lib.OwnBuf _ _ _ _ _ _ _ := Lib.OwnBuf.alloc hb (.cells #[.int .u8 c, .int .u8 d] 5)
  refine wpList_append_ownF _ hgd s x 132 ho B 5 i0 (.int .u8 0) 1 1 Tryz.underlying132 hi0 hz0 hz1 hz2 rfl (by decide) v l.length (bytesV l) hs hb'.1 ⟨w0.heap.size, 0, none⟩ 2 2 [.int .u8 c, .int .u8 d] hx rfl ?_ ?_ (by unfold maxLen; omega) (by omega) hb'.2.2 ?_
  · intro j u hj
    match j, hj with
    | 0, hj => simp at hj; subst hj; simp [Addr.add]
    | 1, hj => simp at hj; subst hj; simp [Addr.add]
    | (j + 2), hj => simp at hj
  · intro u hu
    simp at hu
    rcases hu with rfl | rfl <;> rfl
  · intro v' w' ho' hg _
    refine h v' w' ?_ ((Keep.alloc _ _).trans (Keep.grown hb'.1 hg))
    have h2 := Lib.OwnBuf.grown hb' ho' hg
    unfold Buf
    rw [List.length_append, bytesV_app]
    subst hc hd
    exact h2

/-- a triple in a box -/
def N9 (w : World) (g : Nat) (y : Tr) : Prop := w.heap[g]? = some (Obj.cells (encTr y).toArray 91)
theorem N9.keep {w w' : World} {g : Nat} {y : Tr} (h : N9 w g y) (k : Keep w w') : N9 w' g y := k _ _ _ _ (by decide) h
def C9 (W : World) (n : Nat) (y : Tr) : Prop := W.cell? ⟨n, 0, none⟩ = some (.int .i64 y.1.1) ∧ W.cell? ⟨n, 1, none⟩ = some (.string ⟨y.1.2.1.toArray⟩) ∧ W.cell? ⟨n, 2, none⟩ = some (.string ⟨y.1.2.2.toArray⟩) ∧ W.cell? ⟨n, 3, none⟩ = some (.int .i64 y.2.1.1) ∧ W.cell? ⟨n, 4, none⟩ = some (.string ⟨y.2.1.2.1.toArray⟩) ∧ W.cell? ⟨n, 5, none⟩ = some (.string ⟨y.2.1.2.2.toArray⟩) ∧ W.cell? ⟨n, 6, none⟩ = some (.int .i64 y.2.2.1) ∧ W.cell? ⟨n, 7, none⟩ = some (.string ⟨y.2.2.2.1.toArray⟩) ∧ W.cell? ⟨n, 8, none⟩ = some (.string ⟨y.2.2.2.2.toArray⟩)
theorem N9.all {W : World} {n : Nat} {y : Tr} (h : N9 W n y) : N9 W n y ∧ C9 W n y := by
  refine ⟨h, ?_⟩
  unfold C9
  simp only [cell_of_row W n _ _ _ _ h]
  exact ⟨rfl, rfl, rfl, rfl, rfl, rfl, rfl, rfl, rfl⟩

theorem encT_len {x : Tm} (h : okTm x = 0) : (encT x).length ≤ 28 := by
  obtain ⟨-, hS, hL⟩ := ok_parts h
  have : x.2.2.length ≤ 2 := by
    rcases hL with e | ⟨_, e⟩
    · rw [e]; simp
    · omega
  simp [encT]
  omega
theorem encX_len {x : Tr} (h : okTr x) : (encX x).length ≤ 84 := by
  have h1 := encT_len h.1
  have h2 := encT_len h.2.1
  have h3 := encT_len h.2.2
  simp [encX]
  omega
theorem encR_len (l : List Tr) (h : ∀ x ∈ l, okTr x) : (encR l).length ≤ 84 * l.length := by
  induction l with
  | nil => simp [encR]
  | cons x l ih =>
    have h1 := encX_len (h x (List.mem_cons_self ..))
    have h2 := ih (fun y hy => h y (List.mem_cons_of_mem _ hy))
    rw [show encR (x :: l) = encX x ++ encR l by simp [encR], List.length_append, List.length_cons]
    omega

set_option maxHeartbeats 8000000 in
set_option maxRecDepth 100000 in
theorem addSet_any (W0 : World) (v : Value) (pre : List UInt8) (ad : Option Addr) (ca : Nat) (l : List Tr) (w : World) (hl : SlT W0 ad l) (hn : l.length ≤ 200) (hok : ∀ x ∈ l, okTr x) (hb : Buf W0.heap.size v pre W0 w) (hp : pre.length ≤ 100000) :
    Calls Tryz.prog 110 #[v, .slice ad l.length ca] w fun e w' => ∃ v', e = .returned v' ∧ Buf W0.heap.size v' (pre ++ encS l) W0 w' ∧ Keep w w' := by
  have Hl : Hid (SlT W0 ad l) := hl
  have Hok : Hid (∀ x ∈ l, okTr x) := hok
  have HA := addTerm_any W0.heap.size
  have hc : Hid ((l.length : Int) / 256 = ((UInt8.ofNat (l.length / 256)).toNat : Int)) := by show _ = _; rw [toNat_ofNat (by omega)]; omega
  have hd : Hid ((l.length : Int) = ((UInt8.ofNat l.length).toNat : Int)) := by show _ = _; rw [toNat_ofNat (by omega)]
  clear hl hok
  go_enter Tryz.func110, Tryz.ntmps110
  go_wp2_with (at_builtin; refine app_two rfl _ _ rfl W0.heap.size v pre (by rfl) W0 _ _ _ hb _ (by rfl) (by simp) (UInt8.ofNat (l.length / 256)) (UInt8.ofNat l.length) hc.out hd.out (by omega) ?_; intro v1 w1 hb1 hk1)
  generalize hq : [UInt8.ofNat (l.length / 256), UInt8.ofNat l.length] = q2 at *
  have hq2 : q2.length = 2 := by rw [← hq]; rfl
  go_loopw [0, 19] (fun u i wr => ∃ k : Nat, k ≤ l.length ∧ i = .int .i64 k ∧ Hid (Buf W0.heap.size u (pre ++ q2 ++ encR (l.take k)) W0 wr) ∧ Hid (Keep w wr)) (fun _ i _ => l.length - (intOf i).toNat)
  case atStart => exact ⟨0, Nat.zero_le _, rfl, by show Buf _ _ _ _ _; simpa [encR] using hb1, hk1⟩
  case round =>
    obtain ⟨k, hk, rfl, hbu, hkr⟩ := hrel
    by_cases hlt : k < l.length
    · obtain ⟨b, o, rfl, hr⟩ := (Hl.out.below hbu.out.2.1).at k hlt
      obtain ⟨c0, c1, c2, c3, c4, c5, c6, c7, c8⟩ := hr.at k hlt
      have i0' : (0 : Int) ≤ (k : Int) := by omega
      have i1 : (k : Int) < (l.length : Int) := by omega
      have hy := Hok.out _ (List.getElem_mem hlt)
      have htk : Hid (encR (l.take (k + 1)) = encR (l.take k) ++ encX l[k]) := by show encR _ = _; unfold encR; rw [List.take_succ_eq_append_getElem hlt, List.flatMap_append]; simp only [List.flatMap_cons, List.flatMap_nil, List.append_nil]
      have hlen : Hid ((pre ++ q2 ++ encR (l.take k)).length ≤ 120000) := by
        show _ ≤ _
        have h1 := encR_len (l.take k) (fun x hx => Hok.out x (List.mem_of_mem_take hx))
        have h2 : (l.take k).length ≤ 200 := by rw [List.length_take]; omega
        simp only [List.length_append]
        omega
      generalize hbase : pre ++ q2 ++ encR (l.take k) = base at *
      generalize encR (l.take k) = t0 at *
      generalize l[k] = y at *
      have HN : Hid (N9 (wr.alloc (.cells #[.int .i64 y.1.1, .string ⟨y.1.2.1.toArray⟩, .string ⟨y.1.2.2.toArray⟩, .int .i64 y.2.1.1, .string ⟨y.2.1.2.1.toArray⟩, .string ⟨y.2.1.2.2.toArray⟩, .int .i64 y.2.2.1, .string ⟨y.2.2.2.1.toArray⟩, .string ⟨y.2.2.2.2.toArray⟩] 91)) wr.heap.size y) := heap_alloc_new wr _
      have HB : Hid (Buf W0.heap.size _ base W0 (wr.alloc (.cells #[.int .i64 y.1.1, .string ⟨y.1.2.1.toArray⟩, .string ⟨y.1.2.2.toArray⟩, .int .i64 y.2.1.1, .string ⟨y.2.1.2.1.toArray⟩, .string ⟨y.2.1.2.2.toArray⟩, .int .i64 y.2.2.1, .string ⟨y.2.2.2.1.toArray⟩, .string ⟨y.2.2.2.2.toArray⟩] 91))) := hbu.out.alloc _
      have HK : Hid (Keep w (wr.alloc (.cells #[.int .i64 y.1.1, .string ⟨y.1.2.1.toArray⟩, .string ⟨y.1.2.2.toArray⟩, .int .i64 y.2.1.1, .string ⟨y.2.1.2.1.toArray⟩, .string ⟨y.2.1.2.2.toArray⟩, .int .i64 y.2.2.1, .string ⟨y.2.2.2.1.toArray⟩, .string ⟨y.2.2.2.2.toArray⟩] 91))) := hkr.out.trans (Keep.alloc _ _)
      clear hr hb1 hk1 hq hb
      go_wp2_with fail
      obtain ⟨v1, hv1⟩ : ∃ v1, v1 = (wr.alloc (.cells #[.int .i64 y.1.1, .string ⟨y.1.2.1.toArray⟩, .string ⟨y.1.2.2.toArray⟩, .int .i64 y.2.1.1, .string ⟨y.2.1.2.1.toArray⟩, .string ⟨y.2.1.2.2.toArray⟩, .int .i64 y.2.2.1, .string ⟨y.2.2.2.1.toArray⟩, .string ⟨y.2.2.2.2.toArray⟩] 91)) := ⟨_, rfl⟩
      rw [← hv1] at HN HB HK ⊢
      have HNd : N9 v1.drew wr.heap.size y := HN.out
      have HBd : Hid (Buf W0.heap.size _ base W0 v1.drew) := Lib.OwnBuf.drewN HB.out 1
      clear hv1 c0 c1 c2 c3 c4 c5 c6 c7 c8 hbu hkr
      go_region_held3 (fun W => N9 W wr.heap.size y ∧ W.cell? ⟨wr.heap.size, 0, none⟩ = some (.int .i64 y.1.1) ∧ W.cell? ⟨wr.heap.size, 1, none⟩ = some (.string ⟨y.1.2.1.toArray⟩) ∧ W.cell? ⟨wr.heap.size, 2, none⟩ = some (.string ⟨y.1.2.2.toArray⟩) ∧ W.cell? ⟨wr.heap.size, 3, none⟩ = some (.int .i64 y.2.1.1) ∧ W.cell? ⟨wr.heap.size, 4, none⟩ = some (.string ⟨y.2.1.2.1.toArray⟩) ∧ W.cell? ⟨wr.heap.size, 5, none⟩ = some (.string ⟨y.2.1.2.2.toArray⟩) ∧ W.cell? ⟨wr.heap.size, 6, none⟩ = some (.int .i64 y.2.2.1) ∧ W.cell? ⟨wr.heap.size, 7, none⟩ = some (.string ⟨y.2.2.2.1.toArray⟩) ∧ W.cell? ⟨wr.heap.size, 8, none⟩ = some (.string ⟨y.2.2.2.2.toArray⟩)) ((refine N9.all ?_; repeat (first | (with_reducible exact HNd) | (with_reducible refine N9.keep ?_ hk1) | (with_reducible refine N9.keep ?_ hk2) | (with_reducible refine N9.keep ?_ hk3) | (with_reducible exact And.left (by assumption))))) (first
        | (go_at_call_of 148 (Value.agg #[.int .i64 y.1.1, .string ⟨y.1.2.1.toArray⟩, .string ⟨y.1.2.2.toArray⟩]); refine (HA _ base W0 y.1 _ hy.1 HBd.out (by have := hlen.out; omega)).mono ?_; rintro e w1 ⟨u1, rfl, hb1, hk1⟩)
        | (go_at_call_of 148 (Value.agg #[.int .i64 y.2.1.1, .string ⟨y.2.1.2.1.toArray⟩, .string ⟨y.2.1.2.2.toArray⟩]); refine (HA _ (base ++ encT y.1) W0 y.2.1 _ hy.2.1 hb1 (by have := hlen.out; have := encT_len hy.1; simp only [List.length_append]; omega)).mono ?_; rintro e w2 ⟨u2, rfl, hb2, hk2⟩)
        | (go_at_call_of 148 (Value.agg #[.int .i64 y.2.2.1, .string ⟨y.2.2.2.1.toArray⟩, .string ⟨y.2.2.2.2.toArray⟩]); refine (HA _ (base ++ encT y.1 ++ encT y.2.1) W0 y.2.2 _ hy.2.2 hb2 (by have := hlen.out; have := encT_len hy.1; have := encT_len hy.2.1; simp only [List.length_append]; omega)).mono ?_; rintro e w3 ⟨u3, rfl, hb3, hk3⟩))
      go_wp2_with fail
      go_roundw
      case rel =>
        refine ⟨k + 1, by omega, by go_num, ?_, ((HK.out.trans hk1).trans hk2).trans hk3⟩
        show Buf _ _ _ _ _
        rw [htk.out, ← List.append_assoc, hbase]
        rw [show base ++ encX y = base ++ encT y.1 ++ encT y.2.1 ++ encT y.2.2 by simp [encX]]
        exact hb3
      case measure => simp [intOf]; omega
    · obtain rfl : k = l.length := by omega
      go_wp2_with fail
      go_ret
      refine ⟨_, rfl, ?_, hkr.out⟩
      have := hbu.out
      rw [List.take_length, ← hq] at this
      rw [show pre ++ encS l = pre ++ [UInt8.ofNat (l.length / 256), UInt8.ofNat l.length] ++ encR l by simp [encS]]
      exact this
end Go.Proofs.YtaddfndohoppeaaGreatDoor

/- Bytes that a call owns, as a text; sets are right. -/
namespace Go.Proofs.YtaddfndohoppeaaGreatDoor
open Go Go.RowKit Go.Proofs
set_option synthInstance.maxSize 1000

theorem u8U : Tryz.prog.underlying 5 = some (.int .u8) := by kernel_rfl
theorem Buf.string {B : Nat} {v : Value} {l : List UInt8} {W0 w : World} (h : Buf B v l W0 w) (hne : l ≠ []) : (convert 132 9 v).run Tryz.prog w = .ok (.string ⟨l.toArray⟩) w := by
  have h1 := h.1
  rcases h1.2 with ⟨_, h0⟩ | ⟨g, cap, cur, fz, rfl, _, hg, _⟩
  · exact absurd (List.eq_nil_of_length_eq_zero h0) hne
  · refine run_convert_bytes_back w 132 9 5 ⟨g, 0, none⟩ cap l Tryz.underlying132 u8U Tryz.underlying9 ?_
    intro j hj
    refine h1.cells (g := g) rfl j _ ?_
    simp [bytesV, hj]
theorem Buf.nil (w : World) : Buf w.heap.size (.slice none 0 0) [] w w := ⟨World.ownsRowF_nil _ _ _ _, RowKit.Below.refl _ _, Nat.le_refl _⟩
theorem encS_ne (l : List Tr) : encS l ≠ [] := by simp [encS]
theorem encT_ne (x : Tm) : encT x ≠ [] := by simp [encT]
theorem okTr_chk {x : Tr} (h : chkTr x = 0) : okTr x := by
  obtain ⟨h1, h2, h3, _⟩ := chk_zero h
  exact ⟨h1, h2, h3⟩
theorem okTr_set {l : List Tr} (h : IsSet l) : ∀ x ∈ l, okTr x := fun x hx => okTr_chk (h.2.1 x hx)
end Go.Proofs.YtaddfndohoppeaaGreatDoor
