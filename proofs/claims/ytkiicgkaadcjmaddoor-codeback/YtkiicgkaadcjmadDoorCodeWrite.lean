/- code.addTerm: a term behind bytes that the call owns. -/
import Derived.Test.YtkiicgkaadcjmadDoorCodePlain
import Derived.Lib.BufSteps
import Derived.Deep.RegionHeld3
namespace Go.Proofs.YtkiicgkaadcjmadDoor
open Go Go.RowKit Go.Proofs
set_option synthInstance.maxSize 1000

def bytesV (l : List UInt8) : List Value := l.map fun b => Value.int .u8 b.toNat
theorem bytesV_len (l : List UInt8) : (bytesV l).length = l.length := by simp [bytesV]
theorem bytesV_app (a b : List UInt8) : bytesV (a ++ b) = bytesV a ++ bytesV b := by simp [bytesV]
theorem infoU8 : (Tryd.prog.info? 5).map (fun i => (i.zero, i.size, i.bytes)) = some (some (.int .u8 0), 1, 1) := by kernel_rfl

/-- bytes that a slice owns, in a block from B on; below B nothing has turned since W0 -/
def Buf (B : Nat) (v : Value) (l : List UInt8) (W0 w : World) : Prop := Lib.OwnBuf B 5 v l.length (bytesV l) W0 w
/-- blocks of another type are as they were -/
def Keep (w w' : World) : Prop := ∀ (g : Nat) (C : Array Value) (t : TypeId) (fz : Nat × Nat), t ≠ 5 → w.heap[g]? = some (Obj.cells C t fz) → w'.heap[g]? = some (Obj.cells C t fz)
theorem Keep.refl (w : World) : Keep w w := fun _ _ _ _ _ h => h
theorem Keep.trans {a b c : World} (h : Keep a b) (k : Keep b c) : Keep a c := fun g C t fz ht hg => k g C t fz ht (h g C t fz ht hg)
theorem Keep.alloc (w : World) (o : Obj) : Keep w (w.alloc o) := fun g C t fz _ h => by
  have hl : g < w.heap.size := (Array.getElem?_eq_some_iff.1 h).1
  rw [RowKit.Below.heap_alloc w o g hl]
  exact h
theorem Keep.grown {w w' : World} {B : Nat} {v : Value} {n : Nat} {xs : List Value} (ho : w.ownsRowF B 5 1 v n xs) (hg : w.grownBy w' v.ownBlock) : Keep w w' := fun g C t fz ht h => by
  have hl : g < w.heap.size := (Array.getElem?_eq_some_iff.1 h).1
  rw [hg.block g hl]
  · exact h
  · intro e
    rcases ho.2 with ⟨rfl, _⟩ | ⟨q, cap, cur, f2, rfl, _, hq, _⟩
    · simp [Value.ownBlock] at e
    · simp [Value.ownBlock] at e
      subst e
      rw [hq] at h
      injection h with h
      injection h with _ h2 _
      exact ht h2.symm

theorem app_byte {ops : Array Oper} {rest : List Oper} {o : Oper} {a : Act} {Q : Exit → Act → World → Prop} (hgd : o.guard = none) (s x : Operand)
    (ho : o.op = .call { callee := .builtin .append, args := #[s, x], argTypes := #[44, 44] })
    (B : Nat) (v : Value) (l : List UInt8) (hs : a.eval s = v) (W0 w0 : World) (c : Int) (hb : Buf B v l W0 w0) (m : Nat)
    (hx : a.eval x = .slice (some ⟨m, 0, none⟩) 1 1) (hm : m = w0.heap.size) (c8 : UInt8) (hc : c = (c8.toNat : Int)) (hlen : l.length ≤ 1000000)
    (h : ∀ v' w', Buf B v' (l ++ [c8]) W0 w' → Keep w0 w' → wpList Tryd.prog ops Q rest (a.put o.dst v') w') : wpList Tryd.prog ops Q (o :: rest) a (w0.alloc (.cells #[.int .u8 c] 5)) := by
  obtain ⟨i0, hi0, hz⟩ := Option.map_eq_some_iff.1 infoU8
  have hz0 : i0.zero = some (.int .u8 0) := congrArg Prod.fst hz
  have hz1 : i0.size = 1 := congrArg (fun p => p.2.1) hz
  have hz2 : i0.bytes = 1 := congrArg (fun p => p.2.2) hz
  subst hm
  have hb' : Lib.OwnBuf _ _ _ _ _ _ _ := Lib.OwnBuf.alloc hb (.cells #[.int .u8 c] 5)
  refine wpList_append_ownF _ hgd s x 44 ho B 5 i0 (.int .u8 0) 1 1 Tryd.underlying44 hi0 hz0 hz1 hz2 rfl (by decide) v l.length (bytesV l) hs hb'.1 ⟨w0.heap.size, 0, none⟩ 1 1 [.int .u8 c] hx rfl ?_ ?_ (by unfold maxLen; omega) (by omega) hb'.2.2 ?_
  · intro j u hj
    match j, hj with
    | 0, hj => simp at hj; subst hj; simp [Addr.add]
    | (j + 1), hj => simp at hj
  · intro u hu; simp at hu; subst hu; rfl
  · intro v' w' ho' hg _
    refine h v' w' ?_ ((Keep.alloc _ _).trans (Keep.grown hb'.1 hg))
    have h2 := Lib.OwnBuf.grown hb' ho' hg
    unfold Buf
    rw [List.length_append, bytesV_app]
    subst hc
    exact h2

theorem app_text {ops : Array Oper} {rest : List Oper} {o : Oper} {a : Act} {Q : Exit → Act → World → Prop} {w : World} (hgd : o.guard = none) (sl x : Operand)
    (ho : o.op = .call { callee := .builtin .append, args := #[sl, x], argTypes := #[44, 9] })
    (B : Nat) (v : Value) (l : List UInt8) (hs : a.eval sl = v) (W0 : World) (hb : Buf B v l W0 w) (s : List UInt8) (hx : a.eval x = .string ⟨s.toArray⟩) (hlen : l.length + s.length ≤ 1000000)
    (h : ∀ v' w', Buf B v' (l ++ s) W0 w' → Keep w w' → wpList Tryd.prog ops Q rest (a.put o.dst v') w') : wpList Tryd.prog ops Q (o :: rest) a w := by
  obtain ⟨i0, hi0, hz⟩ := Option.map_eq_some_iff.1 infoU8
  have hz0 : i0.zero = some (.int .u8 0) := congrArg Prod.fst hz
  have hz1 : i0.size = 1 := congrArg (fun p => p.2.1) hz
  have hz2 : i0.bytes = 1 := congrArg (fun p => p.2.2) hz
  have hsz : (⟨s.toArray⟩ : ByteArray).size = s.length := rfl
  refine Lib.wpList_append_own_stringF w hgd sl x 44 9 ho B 5 i0 Tryd.underlying44 Tryd.underlying9 hi0 hz0 hz1 hz2 v l.length (bytesV l) hs hb.1 ⟨s.toArray⟩ hx (by rw [hsz]; unfold maxLen; omega) (by rw [hsz]; omega) hb.2.2 ?_
  intro v' w' ho' hg _
  refine h v' w' ?_ (Keep.grown hb.1 hg)
  have h2 := Lib.OwnBuf.grown hb ho' hg
  unfold Buf
  rw [List.length_append, bytesV_app]
  exact h2

/-- a term in a box -/
def TBox (w : World) (g : Nat) (x : Tm) : Prop := w.heap[g]? = some (Obj.cells #[.int .i64 x.1, .string ⟨x.2.1.toArray⟩, .string ⟨x.2.2.toArray⟩] 23)
theorem TBox.keep {w w' : World} {g : Nat} {x : Tm} (h : TBox w g x) (k : Keep w w') : TBox w' g x := k _ _ _ _ (by decide) h
theorem TBox.c0 {w : World} {g : Nat} {x : Tm} (h : TBox w g x) : w.cell? ⟨g, 0, none⟩ = some (.int .i64 x.1) := by rw [cell_of_row w g 0 _ _ _ h]; rfl
theorem TBox.c1 {w : World} {g : Nat} {x : Tm} (h : TBox w g x) : w.cell? ⟨g, 1, none⟩ = some (.string ⟨x.2.1.toArray⟩) := by rw [cell_of_row w g 1 _ _ _ h]; rfl
theorem TBox.c2 {w : World} {g : Nat} {x : Tm} (h : TBox w g x) : w.cell? ⟨g, 2, none⟩ = some (.string ⟨x.2.2.toArray⟩) := by rw [cell_of_row w g 2 _ _ _ h]; rfl
theorem Buf.alloc {B : Nat} {v : Value} {l : List UInt8} {W0 w : World} (h : Buf B v l W0 w) (o : Obj) : Buf B v l W0 (w.alloc o) := Lib.OwnBuf.alloc h o

set_option maxHeartbeats 4000000 in
set_option maxRecDepth 100000 in
theorem addTerm_any (B : Nat) (v : Value) (l : List UInt8) (W0 : World) (x : Tm) (w : World) (hx : okTm x = 0) (hb : Buf B v l W0 w) (hl : l.length ≤ 900000) :
    Calls Tryd.prog 14 #[v, .agg #[.int .i64 x.1, .string ⟨x.2.1.toArray⟩, .string ⟨x.2.2.toArray⟩]] w fun e w' => ∃ v', e = .returned v' ∧ Buf B v' (l ++ encT x) W0 w' ∧ Keep w w' := by
  obtain ⟨hk, hS, hL⟩ := ok_parts hx
  obtain ⟨k, S, L⟩ := x
  dsimp only at hk hS hL ⊢
  have hb0 : Buf B v l W0 (w.alloc (.cells #[.int .i64 k, .string ⟨S.toArray⟩, .string ⟨L.toArray⟩] 23)) := hb.alloc _
  have hT : TBox (w.alloc (.cells #[.int .i64 k, .string ⟨S.toArray⟩, .string ⟨L.toArray⟩] 23)) w.heap.size (k, S, L) := heap_alloc_new w _
  have hK0 : Hid (Keep w (w.alloc (.cells #[.int .i64 k, .string ⟨S.toArray⟩, .string ⟨L.toArray⟩] 23))) := Keep.alloc _ _
  have hc8 : Hid ((S.length : Int) = ((UInt8.ofNat S.length).toNat : Int)) := by show _ = _; rw [toNat_ofNat (by omega)]
  clear hb hx
  rcases hL with rfl | ⟨rfl, hL⟩
  · rcases hk with rfl | rfl | rfl
    · go_enter Tryd.func14, Tryd.ntmps14
      go_wp2_with (at_builtin; first
        | (refine app_text rfl _ _ rfl B v3 (l ++ [1] ++ [] ++ [UInt8.ofNat S.length]) (by rfl) W0 hb3 S (by rfl) (by simp; omega) ?_; intro v4 w4 hb4 hk4)
        | (refine app_byte rfl _ _ rfl B v2 (l ++ [1] ++ []) (by rfl) W0 _ _ hb2 _ (by rfl) (by simp) (UInt8.ofNat S.length) hc8.out (by simp; omega) ?_; intro v3 w3 hb3 hk3; have hT3 := hT2.keep hk3; have f1 : w3.cell? ⟨w.heap.size, 1, none⟩ = some (.string ⟨S.toArray⟩) := hT3.c1)
        | (refine app_text rfl _ _ rfl B v1 (l ++ [1]) (by rfl) W0 hb1 [] (by rfl) (by simp; omega) ?_; intro v2 w2 hb2 hk2; have hT2 := hT1.keep hk2; have e1 : w2.cell? ⟨w.heap.size, 1, none⟩ = some (.string ⟨S.toArray⟩) := hT2.c1)
        | (refine app_byte rfl _ _ rfl B v l (by rfl) W0 _ _ hb0 _ (by rfl) (by simp) 1 rfl (by omega) ?_; intro v1 w1 hb1 hk1; have hT1 := hT.keep hk1; have d2 : w1.cell? ⟨w.heap.size, 2, none⟩ = some (.string ⟨#[]⟩) := hT1.c2))
      go_ret
      refine ⟨v4, rfl, ?_, ((hK0.out.trans hk1).trans hk2).trans (hk3.trans hk4)⟩
      have e : l ++ encT (1, S, []) = l ++ [1] ++ [] ++ [UInt8.ofNat S.length] ++ S := by simp [encT]
      rw [e]
      exact hb4
    · go_enter Tryd.func14, Tryd.ntmps14
      go_wp2_with (at_builtin; first
        | (refine app_text rfl _ _ rfl B v3 (l ++ [2] ++ [] ++ [UInt8.ofNat S.length]) (by rfl) W0 hb3 S (by rfl) (by simp; omega) ?_; intro v4 w4 hb4 hk4)
        | (refine app_byte rfl _ _ rfl B v2 (l ++ [2] ++ []) (by rfl) W0 _ _ hb2 _ (by rfl) (by simp) (UInt8.ofNat S.length) hc8.out (by simp; omega) ?_; intro v3 w3 hb3 hk3; have hT3 := hT2.keep hk3; have f1 : w3.cell? ⟨w.heap.size, 1, none⟩ = some (.string ⟨S.toArray⟩) := hT3.c1)
        | (refine app_text rfl _ _ rfl B v1 (l ++ [2]) (by rfl) W0 hb1 [] (by rfl) (by simp; omega) ?_; intro v2 w2 hb2 hk2; have hT2 := hT1.keep hk2; have e1 : w2.cell? ⟨w.heap.size, 1, none⟩ = some (.string ⟨S.toArray⟩) := hT2.c1)
        | (refine app_byte rfl _ _ rfl B v l (by rfl) W0 _ _ hb0 _ (by rfl) (by simp) 2 rfl (by omega) ?_; intro v1 w1 hb1 hk1; have hT1 := hT.keep hk1; have d2 : w1.cell? ⟨w.heap.size, 2, none⟩ = some (.string ⟨#[]⟩) := hT1.c2))
      go_ret
      refine ⟨v4, rfl, ?_, ((hK0.out.trans hk1).trans hk2).trans (hk3.trans hk4)⟩
      have e : l ++ encT (2, S, []) = l ++ [2] ++ [] ++ [UInt8.ofNat S.length] ++ S := by simp [encT]
      rw [e]
      exact hb4
    · go_enter Tryd.func14, Tryd.ntmps14
      go_wp2_with (at_builtin; first
        | (refine app_text rfl _ _ rfl B v3 (l ++ [3] ++ [] ++ [UInt8.ofNat S.length]) (by rfl) W0 hb3 S (by rfl) (by simp; omega) ?_; intro v4 w4 hb4 hk4)
        | (refine app_byte rfl _ _ rfl B v2 (l ++ [3] ++ []) (by rfl) W0 _ _ hb2 _ (by rfl) (by simp) (UInt8.ofNat S.length) hc8.out (by simp; omega) ?_; intro v3 w3 hb3 hk3; have hT3 := hT2.keep hk3; have f1 : w3.cell? ⟨w.heap.size, 1, none⟩ = some (.string ⟨S.toArray⟩) := hT3.c1)
        | (refine app_text rfl _ _ rfl B v1 (l ++ [3]) (by rfl) W0 hb1 [] (by rfl) (by simp; omega) ?_; intro v2 w2 hb2 hk2; have hT2 := hT1.keep hk2; have e1 : w2.cell? ⟨w.heap.size, 1, none⟩ = some (.string ⟨S.toArray⟩) := hT2.c1)
        | (refine app_byte rfl _ _ rfl B v l (by rfl) W0 _ _ hb0 _ (by rfl) (by simp) 3 rfl (by omega) ?_; intro v1 w1 hb1 hk1; have hT1 := hT.keep hk1; have d2 : w1.cell? ⟨w.heap.size, 2, none⟩ = some (.string ⟨#[]⟩) := hT1.c2))
      go_ret
      refine ⟨v4, rfl, ?_, ((hK0.out.trans hk1).trans hk2).trans (hk3.trans hk4)⟩
      have e : l ++ encT (3, S, []) = l ++ [3] ++ [] ++ [UInt8.ofNat S.length] ++ S := by simp [encT]
      rw [e]
      exact hb4
  · obtain ⟨p, q, rfl⟩ : ∃ p q, L = [p, q] := by
      match L, hL with
      | [p, q], _ => exact ⟨p, q, rfl⟩
    clear hL hk
    go_enter Tryd.func14, Tryd.ntmps14
    go_wp2_with (at_builtin; first
      | (refine app_text rfl _ _ rfl B v3 (l ++ [7] ++ [p, q] ++ [UInt8.ofNat S.length]) (by rfl) W0 hb3 S (by rfl) (by simp; omega) ?_; intro v4 w4 hb4 hk4)
      | (refine app_byte rfl _ _ rfl B v2 (l ++ [7] ++ [p, q]) (by rfl) W0 _ _ hb2 _ (by rfl) (by simp) (UInt8.ofNat S.length) hc8.out (by simp; omega) ?_; intro v3 w3 hb3 hk3; have hT3 := hT2.keep hk3; have f1 : w3.cell? ⟨w.heap.size, 1, none⟩ = some (.string ⟨S.toArray⟩) := hT3.c1)
      | (refine app_text rfl _ _ rfl B v1 (l ++ [7]) (by rfl) W0 hb1 [p, q] (by rfl) (by simp; omega) ?_; intro v2 w2 hb2 hk2; have hT2 := hT1.keep hk2; have e1 : w2.cell? ⟨w.heap.size, 1, none⟩ = some (.string ⟨S.toArray⟩) := hT2.c1)
      | (refine app_byte rfl _ _ rfl B v l (by rfl) W0 _ _ hb0 _ (by rfl) (by simp) 7 rfl (by omega) ?_; intro v1 w1 hb1 hk1; have hT1 := hT.keep hk1; have d2 : w1.cell? ⟨w.heap.size, 2, none⟩ = some (.string ⟨#[p, q]⟩) := hT1.c2))
    go_ret
    refine ⟨v4, rfl, ?_, ((hK0.out.trans hk1).trans hk2).trans (hk3.trans hk4)⟩
    have e : l ++ encT (3, S, [p, q]) = l ++ [7] ++ [p, q] ++ [UInt8.ofNat S.length] ++ S := by simp [encT]
    rw [e]
    exact hb4
end Go.Proofs.YtkiicgkaadcjmadDoor
