/- The document's reader (package strataref1): take, num, end. -/
import Derived.Test.YtonmmnhikjfibadGreatDoorCodeRefPlain
import Derived.Test.YtonmmnhikjfibadGreatDoorCodeReader
import Derived.Laws.DeepStrings4
import Derived.RegionTactic
import Derived.Test.YtonmmnhikjfibadGreatDoorRefTerm
import Derived.Deep.DeepCutAuto
namespace Go.Proofs.YtonmmnhikjfibadGreatDoor
open Go Go.RowKit Go.Proofs
set_option synthInstance.maxSize 1000

/-- the document's reader at block g: its bytes, where it is, what ended it -/
def ICells (w : World) (g : Nat) (b : List UInt8) (i : Nat) (e : Int) : Prop := w.cell? ⟨g, 0, none⟩ = some (.string ⟨b.toArray⟩) ∧ w.cell? ⟨g, 1, none⟩ = some (.int .i64 i) ∧ w.cell? ⟨g, 2, none⟩ = some (.int .i64 e) ∧ w.frozen? ⟨g, 1, none⟩ = false ∧ w.frozen? ⟨g, 2, none⟩ = false
def InAt (w : World) (g : Nat) (b : List UInt8) (s : St) : Prop := ∃ i, i ≤ b.length ∧ s.2 = b.drop i ∧ ICells w g b i s.1
theorem InAt.lt {w : World} {g : Nat} {b : List UInt8} {s : St} (h : InAt w g b s) : g < w.heap.size := by
  obtain ⟨i, _, _, c, _⟩ := h
  exact World.block_lt_of_cell? w _ c
theorem ICells.far {w w' : World} {g : Nat} {b : List UInt8} {i : Nat} {e : Int} (h : ICells w g b i e) (hb : w'.heap[g]? = w.heap[g]?) : ICells w' g b i e := by
  have c : ∀ j, w'.cell? ⟨g, j, none⟩ = w.cell? ⟨g, j, none⟩ := fun j => World.cell?_of_block (w := w) (w' := w') (a := ⟨g, j, none⟩) hb
  have f : ∀ j, w'.frozen? ⟨g, j, none⟩ = w.frozen? ⟨g, j, none⟩ := fun j => World.frozen?_of_block (w := w) (w' := w') (a := ⟨g, j, none⟩) hb
  unfold ICells at h ⊢
  simp only [c, f]
  exact h
theorem InAt.far {w w' : World} {g : Nat} {b : List UInt8} {s : St} (h : InAt w g b s) (hb : w'.heap[g]? = w.heap[g]?) : InAt w' g b s := by
  obtain ⟨i, h1, h2, h3⟩ := h
  exact ⟨i, h1, h2, h3.far hb⟩
theorem InAt.below {w w' : World} {g : Nat} {b : List UInt8} {s : St} (h : InAt w g b s) (hb : RowKit.Below w.heap.size w w') : InAt w' g b s := h.far (hb.block g h.lt)
theorem InAt.set {w : World} {g B o : Nat} {b : List UInt8} {s : St} {u : Value} (h : InAt w g b s) (hB : B ≠ g) : InAt (w.setCell ⟨B, o, none⟩ u) g b s := h.far (RowKit.Below.heap_setCell w ⟨B, o, none⟩ u g (fun e => hB e.symm))
theorem InAt.grown {w w' : World} {g : Nat} {b : List UInt8} {s : St} {row : Option Nat} (h : InAt w g b s) (k : w.grownBy w' row) (hg : some g ≠ row) : InAt w' g b s := h.far (k.block g h.lt hg)
theorem ICells.set1 {w : World} {g : Nat} {b : List UInt8} {i : Nat} {e : Int} (h : ICells w g b i e) (j : Nat) : ICells (w.setCell ⟨g, 1, none⟩ (.int .i64 j)) g b j e := by
  obtain ⟨c0, c1, c2, f1, f2⟩ := h
  refine ⟨?_, ?_, ?_, ?_, ?_⟩ <;> go_simp
theorem ICells.set2 {w : World} {g : Nat} {b : List UInt8} {i : Nat} {e : Int} (h : ICells w g b i e) (e' : Int) : ICells (w.setCell ⟨g, 2, none⟩ (.int .i64 e')) g b i e' := by
  obtain ⟨c0, c1, c2, f1, f2⟩ := h
  refine ⟨?_, ?_, ?_, ?_, ?_⟩ <;> go_simp

theorem midX (l : List UInt8) (f n : Nat) : (⟨l.toArray⟩ : ByteArray).extract f (f + n) = ⟨((l.drop f).take n).toArray⟩ := by
  apply ByteArray.ext
  rw [ByteArray.data_extract]
  simp
theorem But.drew {g : Nat} {w W : World} (h : But g w W) : But g w W.drew := ⟨h.os, h.tape, h.output, h.size, h.block⟩

set_option maxHeartbeats 4000000 in
set_option maxRecDepth 100000 in
theorem Itake_any (g : Nat) (b : List UInt8) (s : St) (n : Nat) (w : World) (h : InAt w g b s) (hb : b.length ≤ 9223372036854775807) (hn : n ≤ 65535) :
    Calls Tryz.prog 99 #[.pointer (some ⟨g, 0, none⟩), .int .i64 n] w fun e w' => e = .returned (.string ⟨(rTake n s).1.toArray⟩) ∧ InAt w' g b (rTake n s).2 ∧ But g w w' := by
  have Hi : Hid (InAt w g b s) := h
  have hg := h.lt
  obtain ⟨i, hi, hs, hc⟩ := h
  have Hc : Hid (ICells w g b i s.1) := hc
  obtain ⟨c0, c1, c2, f1, f2⟩ := hc
  have hlen : s.2.length = b.length - i := by rw [hs]; simp
  by_cases h0 : s.1 = 0
  · rw [h0] at c2 Hc
    by_cases hlt : s.2.length < n
    · have e0 : rTake n s = ([], (8, s.2)) := by unfold rTake; rw [if_pos h0, if_pos hlt]
      rw [e0]
      have hd : (n : Int) > (b.length : Int) - (i : Int) := by omega
      have Hf : Hid (s.2 = b.drop i) := hs
      clear e0 hs hlen hlt h0
      go_enter Tryz.func99, Tryz.ntmps99
      go_wp2_with fail
      go_region
      go_wp2_with fail
      go_ret
      exact ⟨rfl, ⟨i, hi, Hf.out, ICells.set2 (w := w.drew) Hc.out 8⟩, (But.drew (World.grownBy.refl _ _)).trans (But.set _)⟩
    · have e0 : rTake n s = (s.2.take n, (0, s.2.drop n)) := by unfold rTake; rw [if_pos h0, if_neg hlt]
      rw [e0]
      have hd : ¬ (n : Int) > (b.length : Int) - (i : Int) := by omega
      have hin : i + n ≤ b.length := by omega
      have Hf : Hid (s.2.drop n = b.drop (i + n)) := by show _ = _; rw [hs, List.drop_drop]
      have ht : s.2.take n = (b.drop i).take n := by rw [hs]
      rw [ht]
      have i1 : (0 : Int) ≤ (i : Int) := by omega
      have i2 : (i : Int) ≤ (i : Int) + (n : Int) := by omega
      have i3 : (i : Int) + (n : Int) ≤ (b.length : Int) := by omega
      clear e0 hs hlen hlt h0 ht
      go_enter Tryz.func99, Tryz.ntmps99
      go_wp2_with fail
      go_region
      go_wp2_with fail
      go_region
      go_wp2_with fail
      go_ret
      exact ⟨ret_val (congrArg Value.string (midX b i n)), ⟨i + n, hin, Hf.out, ICells.set1 (w := w.drew) Hc.out (i + n)⟩, But.drew ((But.drew (World.grownBy.refl _ _)).trans (But.set _))⟩
  · have h0' : (s.1 == 0) = false := by simpa using h0
    rw [rTake_keep h0]
    go_enter Tryz.func99, Tryz.ntmps99
    go_wp2_with fail
    go_region
    go_wp2_with fail
    go_ret
    exact ⟨rfl, Hi.out.below (RowKit.Below.refl _ _).drew, But.drew (World.grownBy.refl _ _)⟩

theorem rTake_len (n : Nat) (s : St) : (rTake n s).1.length ≤ n := by
  unfold rTake
  split
  · split
    · simp
    · rw [List.length_take]; omega
  · simp
theorem rTake_one {s : St} (h : (rTake 1 s).2.1 = 0) : ∃ c, (rTake 1 s).1 = [c] := by
  unfold rTake at h ⊢
  by_cases h0 : s.1 = 0
  · rw [if_pos h0] at h ⊢
    by_cases hl : s.2.length < 1
    · rw [if_pos hl] at h
      simp at h
    · rw [if_neg hl]
      cases hs : s.2 with
      | nil => rw [hs] at hl; simp at hl
      | cons c r => exact ⟨c, rfl⟩
  · rw [if_neg h0] at h
    exact absurd h h0
theorem rTake_none {n : Nat} {s : St} (h : (rTake n s).2.1 ≠ 0) : (rTake n s).1 = [] := by
  unfold rTake at h ⊢
  by_cases h0 : s.1 = 0
  · rw [if_pos h0] at h ⊢
    by_cases hl : s.2.length < n
    · rw [if_pos hl]
    · rw [if_neg hl] at h
      simp at h
  · rw [if_neg h0]

set_option maxHeartbeats 2000000 in
set_option maxRecDepth 100000 in
theorem Inum_any (g : Nat) (b : List UInt8) (s : St) (w : World) (h : InAt w g b s) (hb : b.length ≤ 9223372036854775807) :
    Calls Tryz.prog 98 #[.pointer (some ⟨g, 0, none⟩)] w fun e w' => e = .returned (.int .i64 (rNum s).1) ∧ InAt w' g b (rNum s).2 ∧ But g w w' := by
  have H := Itake_any g b s 1 w h hb (by decide)
  have e0 : rNum s = (numL (rTake 1 s).1, (rTake 1 s).2) := rfl
  rw [e0]
  dsimp only
  by_cases h0 : (rTake 1 s).2.1 = 0
  · obtain ⟨c, hc⟩ := rTake_one h0
    rw [hc] at H ⊢
    rw [numL_one]
    generalize (rTake 1 s).2 = s' at *
    clear e0 hc h
    go_enter Tryz.func98, Tryz.ntmps98
    go_wp2_with fail
    refine H.mono ?_
    rintro e w1 ⟨rfl, hi1, hk1⟩
    have Hi : Hid (InAt w1 g b s') := hi1
    obtain ⟨i, _, _, c0, c1, c2, f1, f2⟩ := hi1
    rw [h0] at c2
    have h8 := c.toNat_lt
    go_wp2_with fail
    go_ret
    exact ⟨(show Ending.returned (Value.int .i64 (wrap64 (c.toNat : Int))) = .returned (.int .i64 (c.toNat : Int)) by rw [show wrap64 (c.toNat : Int) = c.toNat by unfold wrap64; omega]), Hi.out, hk1⟩
  · have hn := rTake_none h0
    rw [hn] at H ⊢
    have h0' : ((rTake 1 s).2.1 == 0) = false := by simpa using h0
    generalize (rTake 1 s).2 = s' at *
    clear e0 hn h
    go_enter Tryz.func98, Tryz.ntmps98
    go_wp2_with fail
    refine H.mono ?_
    rintro e w1 ⟨rfl, hi1, hk1⟩
    have Hi : Hid (InAt w1 g b s') := hi1
    obtain ⟨i, _, _, c0, c1, c2, f1, f2⟩ := hi1
    go_wp2_with fail
    go_ret
    exact ⟨rfl, Hi.out, hk1⟩

set_option maxHeartbeats 2000000 in
set_option maxRecDepth 100000 in
theorem Iend_any (g : Nat) (b : List UInt8) (s : St) (w : World) (h : InAt w g b s) :
    Calls Tryz.prog 62 #[.pointer (some ⟨g, 0, none⟩)] w fun e w' => e = .returned (.int .i64 (rEnd s)) ∧ But g w w' := by
  obtain ⟨i, hi, hs, c0, c1, c2, f1, f2⟩ := h
  by_cases h0 : s.1 = 0
  · rw [h0] at c2
    by_cases hl : i < b.length
    · have e0 : rEnd s = 2 := if_pos ⟨h0, by rw [hs]; intro e; have := congrArg List.length e; simp at this; omega⟩
      have i1 : (i : Int) < (b.length : Int) := by omega
      rw [e0]
      clear e0 hs h0
      go_enter Tryz.func62, Tryz.ntmps62
      go_wp2_with fail
      go_region
      go_wp2_with fail
      go_ret
      exact ⟨rfl, (But.drew (World.grownBy.refl _ _)).trans (But.set _)⟩
    · have e0 : rEnd s = 0 := by unfold rEnd; rw [if_neg (fun q => q.2 (by rw [hs]; simp; omega)), h0]
      have i1 : ¬ (i : Int) < (b.length : Int) := by omega
      rw [e0]
      clear e0 hs h0
      go_enter Tryz.func62, Tryz.ntmps62
      go_wp2_with fail
      go_region
      go_wp2_with fail
      go_ret
      exact ⟨rfl, But.drew (World.grownBy.refl _ _)⟩
  · have h0' : (s.1 == 0) = false := by simpa using h0
    have e0 : rEnd s = s.1 := if_neg (fun q => h0 q.1)
    rw [e0]
    clear e0 hs h0
    go_enter Tryz.func62, Tryz.ntmps62
    go_wp2_with fail
    go_region
    go_wp2_with fail
    go_ret
    exact ⟨rfl, But.drew (World.grownBy.refl _ _)⟩
end Go.Proofs.YtonmmnhikjfibadGreatDoor

/- The document's reader: a term. -/
namespace Go.Proofs.YtonmmnhikjfibadGreatDoor
open Go Go.RowKit Go.Proofs
set_option synthInstance.maxSize 1000

theorem rNum_small (s : St) : (rNum s).1 < 256 := by
  have hl := rTake_len 1 s
  show numL (rTake 1 s).1 < 256
  match (rTake 1 s).1, hl with
  | [], _ => decide
  | [c], _ =>
    have := c.toNat_lt
    rw [numL_one]
    omega
theorem kindB'_val (n : Nat) : kindB' n = true ↔ (1 ≤ n ∧ n ≤ 3) ∨ n = 7 := by
  unfold kindB' kindK
  by_cases h : n = 7
  · simp [h]
  · rw [if_neg h]
    simp
    omega
/-- a box for a term -/
def TB (W : World) (B : Nat) (x : Tm) : Prop := W.cell? ⟨B, 0, none⟩ = some (.int .i64 x.1) ∧ W.cell? ⟨B, 1, none⟩ = some (.string ⟨x.2.1.toArray⟩) ∧ W.cell? ⟨B, 2, none⟩ = some (.string ⟨x.2.2.toArray⟩) ∧ W.frozen? ⟨B, 0, none⟩ = false ∧ W.frozen? ⟨B, 1, none⟩ = false ∧ W.frozen? ⟨B, 2, none⟩ = false
theorem TB.far {W W' : World} {B : Nat} {x : Tm} (h : TB W B x) (hb : W'.heap[B]? = W.heap[B]?) : TB W' B x := by
  have c : ∀ j, W'.cell? ⟨B, j, none⟩ = W.cell? ⟨B, j, none⟩ := fun j => World.cell?_of_block (w := W) (w' := W') (a := ⟨B, j, none⟩) hb
  have f : ∀ j, W'.frozen? ⟨B, j, none⟩ = W.frozen? ⟨B, j, none⟩ := fun j => World.frozen?_of_block (w := W) (w' := W') (a := ⟨B, j, none⟩) hb
  unfold TB at h ⊢
  simp only [c, f]
  exact h
theorem TB.lt {W : World} {B : Nat} {x : Tm} (h : TB W B x) : B < W.heap.size := World.block_lt_of_cell? W _ h.1
theorem TB.but {W W' : World} {g B : Nat} {x : Tm} (h : TB W B x) (k : But g W W') (hg : B ≠ g) : TB W' B x := h.far (k.block B h.lt (fun e => hg (by injection e)))
theorem TB.below {W W' : World} {B : Nat} {x : Tm} (h : TB W B x) (hb : RowKit.Below W.heap.size W W') : TB W' B x := h.far (hb.block B h.lt)
theorem TB.set {W : World} {B C o : Nat} {x : Tm} {u : Value} (h : TB W B x) (hC : C ≠ B) : TB (W.setCell ⟨C, o, none⟩ u) B x := h.far (RowKit.Below.heap_setCell W ⟨C, o, none⟩ u B (fun e => hC e.symm))
theorem TB.new (w : World) (x : Tm) : TB (w.alloc (.cells #[.int .i64 x.1, .string ⟨x.2.1.toArray⟩, .string ⟨x.2.2.toArray⟩] 43)) w.heap.size x := by
  unfold TB
  refine ⟨?_, ?_, ?_, ?_, ?_, ?_⟩ <;> go_simp
theorem TB.put0 {W : World} {B : Nat} {x : Tm} (h : TB W B x) (k : Int) : TB (W.setCell ⟨B, 0, none⟩ (.int .i64 k)) B (k, x.2) := by
  obtain ⟨c0, c1, c2, f0, f1, f2⟩ := h
  refine ⟨?_, ?_, ?_, ?_, ?_, ?_⟩ <;> go_simp
theorem TB.put1 {W : World} {B : Nat} {x : Tm} (h : TB W B x) (S : List UInt8) : TB (W.setCell ⟨B, 1, none⟩ (.string ⟨S.toArray⟩)) B (x.1, S, x.2.2) := by
  obtain ⟨c0, c1, c2, f0, f1, f2⟩ := h
  refine ⟨?_, ?_, ?_, ?_, ?_, ?_⟩ <;> go_simp
theorem TB.put2 {W : World} {B : Nat} {x : Tm} (h : TB W B x) (L : List UInt8) : TB (W.setCell ⟨B, 2, none⟩ (.string ⟨L.toArray⟩)) B (x.1, x.2.1, L) := by
  obtain ⟨c0, c1, c2, f0, f1, f2⟩ := h
  refine ⟨?_, ?_, ?_, ?_, ?_, ?_⟩ <;> go_simp
theorem TB.zero {W : World} {B : Nat} (h : ZB W B) : TB W B (0, [], []) := h
theorem rTake_zero (s : St) : rTake 0 s = ([], s) := by
  unfold rTake
  split
  · rename_i h
    rw [if_neg (by omega)]
    simp
    rw [← h]
  · rfl
theorem rLang_none {s : St} (h : ¬ (rKind s).1 = 7) : rLang s = ([], (rKind s).2) := by
  unfold rLang
  rw [show kindL (rKind s).1 = 0 from if_neg h, rTake_zero]
theorem rLang_two {s : St} (h : (rKind s).1 = 7) : rLang s = rTake 2 (rKind s).2 := by
  unfold rLang
  rw [show kindL (rKind s).1 = 2 from if_pos h]
theorem rTerm_is {s : St} {x : Tm} {q r : St} (h : rRaw s = x) (hq : (rText (rLang s).2).2 = q) (h0 : okTm x = 0 → r = q) (h1 : ¬ okTm x = 0 → r = rBad 2 q) : rTerm s = (x, r) := by
  unfold rTerm
  rw [h, hq]
  split
  · rename_i e; rw [h0 e]
  · rename_i e; rw [h1 e]

set_option maxHeartbeats 16000000 in
set_option maxRecDepth 100000 in
theorem ITerm_any (g : Nat) (b : List UInt8) (s : St) (w : World) (h : InAt w g b s) (hb : b.length ≤ 9223372036854775807) :
    Calls Tryz.prog 61 #[.pointer (some ⟨g, 0, none⟩)] w fun e w' => e = .returned (.agg #[.int .i64 (rTerm s).1.1, .string ⟨(rTerm s).1.2.1.toArray⟩, .string ⟨(rTerm s).1.2.2.toArray⟩]) ∧ InAt w' g b (rTerm s).2 ∧ But g w w' := by
  have HN1 := fun W hW => Inum_any g b s W hW hb
  have HL := fun W hW => Itake_any g b (rKind s).2 2 W hW hb (by decide)
  have HN2 := fun W hW => Inum_any g b (rLang s).2 W hW hb
  have HS2 := fun W hW => Itake_any g b (rNum (rLang s).2).2 (rNum (rLang s).2).1 W hW hb (by have := rNum_small (rLang s).2; omega)
  have hS : (rText (rLang s).2).1.length ≤ maxLen := by
    have h1 := rTake_len (rNum (rLang s).2).1 (rNum (rLang s).2).2
    have h2 := rNum_small (rLang s).2
    show (rTake _ _).1.length ≤ _
    unfold maxLen
    omega
  have hG : (rLang s).1.length ≤ maxLen := by
    have h1 := rTake_len (kindL (rKind s).1) (rKind s).2
    have h2 := kindL_small (rKind s).1
    show (rTake _ _).1.length ≤ _
    unfold maxLen
    omega
  have HC := fun W => RTerm_any (kindK (rKind s).1) (rText (rLang s).2).1 (rLang s).1 W hS hG
  have e0 : (rTerm s).1 = (kindK (rKind s).1, (rText (rLang s).2).1, (rLang s).1) := rfl
  have e1 : (rTerm s).2 = if okTm (rTerm s).1 = 0 then (rText (rLang s).2).2 else rBad 2 (rText (rLang s).2).2 := rfl
  have e2 : checkN (kindK (rKind s).1) (rText (rLang s).2).1 (rLang s).1 = okTm (rTerm s).1 := rfl
  rw [e2] at HC
  have hr0 : Hid (okTm (rTerm s).1 = 0 → (rTerm s).2 = (rText (rLang s).2).2) := fun e => by rw [e1, if_pos e]
  have hr1 : Hid (¬ okTm (rTerm s).1 = 0 → (rTerm s).2 = rBad 2 (rText (rLang s).2).2) := fun e => by rw [e1, if_neg e]
  have hkind : Hid ((rKind s).1 = (rNum s).1 ∧ (kindB' (rNum s).1 = true → (rKind s).2 = (rNum s).2) ∧ (kindB' (rNum s).1 = false → (rKind s).2 = rBad 2 (rNum s).2)) := ⟨rfl, fun e => by unfold rKind; dsimp only; rw [if_pos e], fun e => by unfold rKind; dsimp only; rw [if_neg (by rw [e]; decide)]⟩
  have hlang : Hid ((¬ (rNum s).1 = 7 → rLang s = ([], (rKind s).2)) ∧ ((rNum s).1 = 7 → rLang s = rTake 2 (rKind s).2)) := ⟨fun e => rLang_none e, fun e => rLang_two e⟩
  have hn8 := rNum_small s
  have hKn : Hid (kindK (rKind s).1 = if (rNum s).1 = 7 then 3 else ((rNum s).1 : Int)) := rfl
  generalize okTm (rTerm s).1 = M at *
  generalize (rTerm s).2 = fin at *
  rw [e0]
  have e4 : rTake (rNum (rLang s).2).1 (rNum (rLang s).2).2 = rText (rLang s).2 := rfl
  rw [e4] at HS2
  clear e0 e1 e2 e4 hS hG
  dsimp only
  generalize rText (rLang s).2 = X at *
  obtain ⟨S, s6⟩ := X
  generalize kindK (rKind s).1 = K at *
  generalize (rNum (rLang s).2).2 = s5 at *
  generalize (rNum (rLang s).2).1 = m at *
  generalize rLang s = Y at *
  obtain ⟨L, s4⟩ := Y
  generalize (rKind s).1 = n' at *
  generalize (rKind s).2 = s3 at *
  generalize (rNum s).2 = s1 at *
  generalize (rNum s).1 = n at *
  dsimp only at *
  have Hi : Hid (InAt w g b s) := h
  have hRg : w.heap.size ≠ g := by have := h.lt; omega
  clear h
  go_enter Tryz.func61, Tryz.ntmps61
  go_wp2_with fail
  have hZ0 : Hid (ZB (w.alloc (.cells #[.int .i64 0, .string ⟨#[]⟩, .string ⟨#[]⟩] 43)) w.heap.size) := ZB.new _
  refine (HN1 _ (Hi.out.below (balloc _ _))).mono ?_
  rintro e W1 ⟨rfl, hi1, hk1⟩
  have hB : Hid (But g w W1) := (But.of (balloc _ _)).trans hk1
  have hZ : Hid (ZB W1 w.heap.size) := hZ0.out.but hk1 hRg
  have hI : Hid (InAt W1 g b s1) := hi1
  clear hk1 hZ0 HN1 Hi
  obtain ⟨i, hi, hs, c0, c1, c2, f1, f2⟩ := hi1
  go_upto_region 2 with fail
  go_cut [24] (fun v W => v = .bool (decide (s1.1 = 0) && !kindB' n) ∧ W = W1)
  case first =>
    clear HL HN2 HS2 HC hr0 hr1
    by_cases h1 : s1.1 = 0
    · rw [h1] at c2
      rcases (by omega : n = 0 ∨ (1 ≤ n ∧ n ≤ 3) ∨ (4 ≤ n ∧ n ≠ 7) ∨ n = 7) with rfl | ⟨ha, hc⟩ | ⟨ha, hc⟩ | rfl
      · have hv : Hid ((decide (s1.1 = 0) && !kindB' 0) = true) := by show _ = _; rw [h1]; decide
        go_wp2_with fail
        go_meet
        case rel => exact ⟨by rw [hv.out], rfl⟩
      · have hv : Hid ((decide (s1.1 = 0) && !kindB' n) = false) := by show _ = _; rw [(kindB'_val n).2 (Or.inl ⟨ha, hc⟩)]; simp
        have i1 : ¬ (n : Int) < 1 := by omega
        have i2 : ¬ (n : Int) > 3 := by omega
        go_wp2_with fail
        go_meet
        case rel => exact ⟨by rw [hv.out], rfl⟩
      · have hv : Hid ((decide (s1.1 = 0) && !kindB' n) = true) := by
          show _ = _
          rw [h1, show kindB' n = false from Bool.eq_false_iff.2 (fun e => by have := (kindB'_val n).1 e; omega)]
          rfl
        have i1 : ¬ (n : Int) < 1 := by omega
        have i2 : (n : Int) > 3 := by omega
        have i3 : Hid (((n : Int) != 7) = true) := by show _ = _; simp; omega
        go_wp2_with fail
        go_meet
        case rel => exact ⟨by rw [hv.out, i3.out], rfl⟩
      · have hv : Hid ((decide (s1.1 = 0) && !kindB' 7) = false) := by show _ = _; rw [show kindB' 7 = true by decide]; simp
        go_wp2_with fail
        go_meet
        case rel => exact ⟨by rw [hv.out], rfl⟩
    · have hv : Hid ((decide (s1.1 = 0) && !kindB' n) = false) := by show _ = _; rw [decide_eq_false h1]; rfl
      have h1' : (s1.1 == 0) = false := by simpa using h1
      go_wp2_with fail
      go_meet
      case rel => exact ⟨by rw [hv.out], rfl⟩
  case rest =>
    obtain ⟨rfl, rfl⟩ := hcut
    go_upto_if 24 with fail
    go_cut [25] (fun _ W => Hid (InAt W g b s3) ∧ Hid (But g w W) ∧ Hid (ZB W w.heap.size))
    case first =>
      clear HL HN2 HS2 HC hr0 hr1
      have hg1 := hI.out.lt
      cases hk : kindB' n
      · have e3 := hkind.out.2.2 hk
        by_cases h1 : s1.1 = 0
        · have hv : (decide (s1.1 = 0) && !false) = true := by rw [h1]; rfl
          rw [hv]
          have hI3 : Hid (InAt (wc.setCell ⟨g, 2, none⟩ (.int .i64 2)) g b s3) := ⟨i, hi, by rw [e3]; exact hs, by rw [e3]; unfold rBad; rw [if_pos h1]; exact ICells.set2 ⟨c0, c1, c2, f1, f2⟩ 2⟩
          have hB3 : Hid (But g w (wc.setCell ⟨g, 2, none⟩ (.int .i64 2))) := hB.out.trans (But.set _)
          have hZ3 : Hid (ZB (wc.setCell ⟨g, 2, none⟩ (.int .i64 2)) w.heap.size) := hZ.out.but (But.set _) hRg
          go_wp2_with fail
          go_meet
          case rel => exact ⟨hI3, hB3, hZ3⟩
        · have hv : (decide (s1.1 = 0) && !false) = false := by rw [decide_eq_false h1]; rfl
          rw [hv]
          rw [rBad_keep h1] at e3
          subst e3
          go_wp2_with fail
          go_meet
          case rel => exact ⟨hI, hB, hZ⟩
      · have e3 := hkind.out.2.1 hk
        have hv : (decide (s1.1 = 0) && !true) = false := by simp
        rw [hv]
        subst e3
        go_wp2_with fail
        go_meet
        case rel => exact ⟨hI, hB, hZ⟩
    case rest =>
      obtain ⟨hI, hB, hZ⟩ := hcut
      clear c0 c1 c2 f1 f2 hi hs
      generalize wc = W3 at *
      have hgW : g < W3.heap.size := hI.out.lt
      have hRW : w.heap.size < W3.heap.size := TB.lt (TB.zero hZ.out)
      have hT : Hid (TB (W3.alloc (.cells #[.int .i64 (n : Int), .string ⟨#[]⟩, .string ⟨#[]⟩] 43)) W3.heap.size ((n : Int), [], [])) := TB.new W3 ((n : Int), [], [])
      have hb3 := balloc W3 (.cells #[.int .i64 (n : Int), .string ⟨#[]⟩, .string ⟨#[]⟩] 43)
      have hI : Hid (InAt (W3.alloc (.cells #[.int .i64 (n : Int), .string ⟨#[]⟩, .string ⟨#[]⟩] 43)) g b s3) := hI.out.below hb3
      have hB : Hid (But g w (W3.alloc (.cells #[.int .i64 (n : Int), .string ⟨#[]⟩, .string ⟨#[]⟩] 43))) := hB.out.trans (But.of hb3)
      have hZ : Hid (ZB (W3.alloc (.cells #[.int .i64 (n : Int), .string ⟨#[]⟩, .string ⟨#[]⟩] 43)) w.heap.size) := hZ.out.below hb3
      have hTg : W3.heap.size ≠ g := by omega
      have hTR : W3.heap.size ≠ w.heap.size := by omega
      have hTw : w.heap.size ≤ W3.heap.size := by omega
      clear hb3 hgW hRW
      go_upto_if 31 with fail
      generalize W3.alloc (.cells #[.int .i64 (n : Int), .string ⟨#[]⟩, .string ⟨#[]⟩] 43) = W4 at *
      generalize W3.heap.size = T at *
      go_cut [32] (fun _ W => Hid (InAt W g b s4) ∧ Hid (But g w W) ∧ Hid (ZB W w.heap.size) ∧ Hid (TB W T (K, [], L)))
      case first =>
        clear HN2 HS2 HC hr0 hr1
        by_cases h7 : n = 7
        · subst h7
          have eK : K = 3 := hKn.out
          have eL := hlang.out.2 rfl
          rw [← eL] at HL
          dsimp only at HL
          subst eK
          obtain ⟨t0, t1, t2, q0, q1, q2⟩ := id hT.out
          have zT : T < W4.heap.size := hT.out.lt
          have hI5 : InAt (W4.setCell ⟨T, 0, none⟩ (.int .i64 3)) g b s3 := hI.out.set hTg
          have hB5 : Hid (But g w (W4.setCell ⟨T, 0, none⟩ (.int .i64 3))) := hB.out.fresh hTw
          have hT5 : TB (W4.setCell ⟨T, 0, none⟩ (.int .i64 3)) T (3, [], []) := hT.out.put0 3
          have hZ5 : ZB (W4.setCell ⟨T, 0, none⟩ (.int .i64 3)) w.heap.size := TB.set (TB.zero hZ.out) hTR
          go_wp2_with fail
          refine (HL _ hI5).mono ?_
          rintro e W6 ⟨rfl, hi6, hk6⟩
          have hB6 : Hid (But g w W6) := hB5.out.trans hk6
          have hT6 := hT5.but hk6 hTg
          have hZ6 := hZ5.but hk6 hRg
          have zT6 : T < W6.heap.size := hT6.lt
          have hI7 : Hid (InAt (W6.setCell ⟨T, 2, none⟩ (.string ⟨L.toArray⟩)) g b s4) := hi6.set hTg
          have hB7 : Hid (But g w (W6.setCell ⟨T, 2, none⟩ (.string ⟨L.toArray⟩))) := hB6.out.fresh hTw
          have hT7 : Hid (TB (W6.setCell ⟨T, 2, none⟩ (.string ⟨L.toArray⟩)) T (3, [], L)) := hT6.put2 L
          have hZ7 : Hid (ZB (W6.setCell ⟨T, 2, none⟩ (.string ⟨L.toArray⟩)) w.heap.size) := TB.set (TB.zero hZ6) hTR
          obtain ⟨t0, t1, t2, q0, q1, q2⟩ := id hT6
          go_wp2_with fail
          go_meet
          case rel => exact ⟨hI7, hB7, hZ7, hT7⟩
        · have eK : K = (n : Int) := by rw [hKn.out, if_neg h7]
          have eL := hlang.out.1 h7
          injection eL with eL1 eL2
          subst eK eL1 eL2
          have h7' : ((n : Int) == 7) = false := by simp; omega
          go_wp2_with fail
          go_meet
          case rel => exact ⟨hI, hB, hZ, hT⟩
      case rest =>
        obtain ⟨hI, hB, hZ, hT⟩ := hcut
        clear hKn hlang hkind HL
        generalize wc = W5 at *
        go_wp2_with fail
        refine (HN2 _ hI.out).mono ?_
        rintro e W6 ⟨rfl, hi6, hk6⟩
        have hB : Hid (But g w W6) := hB.out.trans hk6
        have hT : Hid (TB W6 T (K, [], L)) := hT.out.but hk6 hTg
        have hZ : Hid (ZB W6 w.heap.size) := hZ.out.but hk6 hRg
        clear hk6 HN2 hI
        go_wp2_with fail
        refine (HS2 _ hi6).mono ?_
        rintro e W7 ⟨rfl, hi7, hk7⟩
        have hB : Hid (But g w W7) := hB.out.trans hk7
        have hT : Hid (TB W7 T (K, [], L)) := hT.out.but hk7 hTg
        have hZ : Hid (ZB W7 w.heap.size) := hZ.out.but hk7 hRg
        clear hi6 hk7 HS2
        try dsimp only at hi7
        obtain ⟨t0, t1, t2, q0, q1, q2⟩ := id hT.out
        have zT : T < W7.heap.size := hT.out.lt
        have hI : Hid (InAt (W7.setCell ⟨T, 1, none⟩ (.string ⟨S.toArray⟩)) g b s6) := hi7.set hTg
        have hB : Hid (But g w (W7.setCell ⟨T, 1, none⟩ (.string ⟨S.toArray⟩))) := hB.out.fresh hTw
        have hT : Hid (TB (W7.setCell ⟨T, 1, none⟩ (.string ⟨S.toArray⟩)) T (K, S, L)) := hT.out.put1 S
        have hZ : Hid (ZB (W7.setCell ⟨T, 1, none⟩ (.string ⟨S.toArray⟩)) w.heap.size) := TB.set (TB.zero hZ.out) hTR
        clear hi7
        go_upto_region 10 with fail
        clear t0 t1 t2 q0 q1 q2 zT
        generalize W7.setCell ⟨T, 1, none⟩ (.string ⟨S.toArray⟩) = W8 at *
        obtain ⟨t0, t1, t2, q0, q1, q2⟩ := id hT.out
        obtain ⟨z0, z1, z2, y0, y1, y2⟩ := id hZ.out
        obtain ⟨i', hi', hs', c0, c1, c2, f1, f2⟩ := id hI.out
        try dsimp only at t0 t1 t2
        by_cases h6 : s6.1 = 0
        · rw [h6] at c2
          by_cases hM : M = 0
          · have er := hr0.out hM
            subst er hM
            go_wp2_with fail
            refine (HC _).mono ?_
            rintro e V1 ⟨rfl, hbV⟩
            have hI1 : Hid (InAt V1 g b fin) := hI.out.below hbV
            have hB1 : Hid (But g w V1) := hB.out.trans (But.of hbV)
            obtain ⟨t0, t1, t2, q0, q1, q2⟩ := hT.out.below hbV
            obtain ⟨z0, z1, z2, y0, y1, y2⟩ := hZ.out.below hbV
            go_wp2_with fail
            exact bodyPost_ret (v := .agg #[.int .i64 K, .string ⟨S.toArray⟩, .string ⟨L.toArray⟩]) (by unfold results; rw [Tryz.results61]; go_simp) rfl ⟨rfl, InAt.set (InAt.set (InAt.set hI1.out hRg) hRg) hRg, But.fresh (But.fresh (But.fresh hB1.out (Nat.le_refl _)) (Nat.le_refl _)) (Nat.le_refl _)⟩
          · have er := hr1.out hM
            have hM' : (M == 0) = false := by simpa using hM
            subst er
            go_wp2_with fail
            refine (HC _).mono ?_
            rintro e V1 ⟨rfl, hbV⟩
            have hI1 : Hid (InAt V1 g b s6) := hI.out.below hbV
            have hB1 : Hid (But g w V1) := hB.out.trans (But.of hbV)
            have hT1 : TB V1 T (K, S, L) := hT.out.below hbV
            have hZ1 : ZB V1 w.heap.size := hZ.out.below hbV
            obtain ⟨j, hj, hsj, c0', c1', c2', f1', f2'⟩ := id hI1.out
            have hI2 : Hid (InAt (V1.setCell ⟨g, 2, none⟩ (.int .i64 2)) g b (rBad 2 s6)) := ⟨j, hj, hsj, by unfold rBad; rw [if_pos h6]; exact ICells.set2 ⟨c0', c1', c2', f1', f2'⟩ 2⟩
            have hB2 : Hid (But g w (V1.setCell ⟨g, 2, none⟩ (.int .i64 2))) := hB1.out.trans (But.set _)
            obtain ⟨t0, t1, t2, q0, q1, q2⟩ := hT1
            obtain ⟨z0, z1, z2, y0, y1, y2⟩ := hZ1
            have hgT : g ≠ T := fun e => hTg e.symm
            have hgR : g ≠ w.heap.size := fun e => hRg e.symm
            go_wp2_with fail
            exact bodyPost_ret (v := .agg #[.int .i64 K, .string ⟨S.toArray⟩, .string ⟨L.toArray⟩]) (by unfold results; rw [Tryz.results61]; go_simp) rfl ⟨rfl, InAt.set (InAt.set (InAt.set hI2.out hRg) hRg) hRg, But.fresh (But.fresh (But.fresh hB2.out (Nat.le_refl _)) (Nat.le_refl _)) (Nat.le_refl _)⟩
        · have h6' : (s6.1 == 0) = false := by simpa using h6
          have er : fin = s6 := by
            by_cases hM : M = 0
            · exact hr0.out hM
            · rw [hr1.out hM, rBad_keep h6]
          subst er
          go_wp2_with fail
          exact bodyPost_ret (v := .agg #[.int .i64 K, .string ⟨S.toArray⟩, .string ⟨L.toArray⟩]) (by unfold results; rw [Tryz.results61]; go_simp) rfl ⟨rfl, InAt.set (InAt.set (InAt.set hI.out hRg) hRg) hRg, But.fresh (But.fresh (But.fresh hB.out (Nat.le_refl _)) (Nat.le_refl _)) (Nat.le_refl _)⟩
end Go.Proofs.YtonmmnhikjfibadGreatDoor
