/- code's reader: end, take, number, kind, term. -/
import Derived.Test.YtonmmnhikjfibadGreatDoorCodePlain
import Derived.Test.YtonmmnhikjfibadGreatDoorShelf
import Derived.Test.YtonmmnhikjfibadGreatDoorErrEq
import Derived.Laws.IdiomStrings
import Derived.Laws.AppendOwn
import Derived.Maps.AppendAt
namespace Go.Proofs.YtonmmnhikjfibadGreatDoor
open Go Go.RowKit Go.Proofs
set_option synthInstance.maxSize 1000

/-- a reader at block g: what ended it, what is left -/
def RdAt (w : World) (g : Nat) (s : St) : Prop := w.cell? ⟨g, 0, none⟩ = some (.int .i64 s.1) ∧ w.cell? ⟨g, 1, none⟩ = some (.string ⟨s.2.toArray⟩) ∧ w.frozen? ⟨g, 0, none⟩ = false ∧ w.frozen? ⟨g, 1, none⟩ = false
/-- all but block g is as it was -/
abbrev But (g : Nat) (w w' : World) : Prop := w.grownBy w' (some g)
theorem But.of {g : Nat} {w w' : World} (hb : RowKit.Below w.heap.size w w') : But g w w' := ⟨hb.os, hb.tape, hb.output, hb.size, fun k hk _ => hb.block k hk⟩
theorem But.below {B g : Nat} {a w w' : World} (h : RowKit.Below B a w) (k : But g w w') (hB : B ≤ w.heap.size) (hg : B ≤ g) : RowKit.Below B a w' := h.grown k hB (fun _ e => by injection e with e; omega)
theorem RdAt.lt {w : World} {g : Nat} {s : St} (h : RdAt w g s) : g < w.heap.size := World.block_lt_of_cell? w _ h.1
theorem RdAt.below {w w' : World} {g : Nat} {s : St} (h : RdAt w g s) (hb : RowKit.Below w.heap.size w w') : RdAt w' g s := by
  obtain ⟨k, f⟩ := bcell hb
  have hg := h.lt
  unfold RdAt at h ⊢
  simp only [k _ _ hg, f _ _ hg]
  exact h
theorem But.set {w : World} {g o : Nat} (u : Value) : But g w (w.setCell ⟨g, o, none⟩ u) := by
  have h := (RowKit.Below.refl 0 w).setCell (p := ⟨g, o, none⟩) (Nat.zero_le _) u
  exact ⟨h.os, h.tape, h.output, h.size, fun k _ hk => RowKit.Below.heap_setCell w ⟨g, o, none⟩ u k (fun e => hk (by rw [e]))⟩
theorem RdAt.set0 {w : World} {g : Nat} {s : St} (h : RdAt w g s) (e : Int) : RdAt (w.setCell ⟨g, 0, none⟩ (.int .i64 e)) g (e, s.2) := by
  obtain ⟨c0, c1, f0, f1⟩ := h
  refine ⟨?_, ?_, ?_, ?_⟩ <;> go_simp
theorem RdAt.set1 {w : World} {g : Nat} {s : St} (h : RdAt w g s) (r : List UInt8) : RdAt (w.setCell ⟨g, 1, none⟩ (.string ⟨r.toArray⟩)) g (s.1, r) := by
  obtain ⟨c0, c1, f0, f1⟩ := h
  refine ⟨?_, ?_, ?_, ?_⟩ <;> go_simp

theorem end_any (g : Nat) (s : St) (why : Int) (w : World) (h : RdAt w g s) :
    Calls Tryz.prog 100 #[.pointer (some ⟨g, 0, none⟩), .int .i64 why] w fun e w' => e = .returned (.tuple #[]) ∧ RdAt w' g (endS why s) ∧ But g w w' := by
  have Hr : Hid (RdAt w g s) := h
  obtain ⟨c0, c1, f0, f1⟩ := h
  have hg : g < w.heap.size := Hr.out.lt
  by_cases h0 : s.1 = 0
  · rw [h0] at c0
    go_enter Tryz.func100, Tryz.ntmps100
    go_wp2
    go_end0
    refine ⟨rfl, ?_, ?_⟩
    · have e : endS why s = (why, []) := by unfold endS; rw [if_pos h0]
      rw [e]
      exact (Hr.out.set0 why).set1 []
    · exact (But.set _).trans (But.set _)
  · have h0' : (s.1 == 0) = false := by simpa using h0
    go_enter Tryz.func100, Tryz.ntmps100
    go_wp2
    go_end0
    refine ⟨rfl, ?_, ?_⟩
    · have e : endS why s = (s.1, []) := by unfold endS; rw [if_neg h0]
      rw [e]
      exact Hr.out.set1 []
    · exact But.set _

theorem CloneR_any (l : List UInt8) (w : World) (hl : l.length ≤ 281474976710656) :
    Calls Tryz.prog 107 #[.string ⟨l.toArray⟩] w fun e w' => e = .returned (.string ⟨l.toArray⟩) ∧ RowKit.Below w.heap.size w w' := by
  go_enter Tryz.func107, Tryz.ntmps107
  go_wp2_with (go_at_call 129; refine (Tryz.stringslite_Clone ⟨l.toArray⟩ _ hl).mono ?_; rintro e w' ⟨rfl, hb⟩)
  go_ret
  exact ⟨rfl, hb⟩

theorem takeX (l : List UInt8) (k : Nat) : (⟨l.toArray⟩ : ByteArray).extract 0 k = ⟨(l.take k).toArray⟩ := by
  apply ByteArray.ext
  rw [ByteArray.data_extract]
  simp
theorem dropX (l : List UInt8) (k : Nat) : (⟨l.toArray⟩ : ByteArray).extract k l.length = ⟨(l.drop k).toArray⟩ := by
  apply ByteArray.ext
  rw [ByteArray.data_extract]
  simp
  rw [List.take_of_length_le (by simp)]

set_option maxHeartbeats 2000000 in
set_option maxRecDepth 100000 in
theorem take_any (g : Nat) (s : St) (n : Nat) (w : World) (h : RdAt w g s) (hn : n ≤ 65535) :
    Calls Tryz.prog 102 #[.pointer (some ⟨g, 0, none⟩), .int .i64 n] w fun e w' => e = .returned (.string ⟨(takeS n s).1.toArray⟩) ∧ RdAt w' g (takeS n s).2 ∧ But g w w' := by
  have Hr : Hid (RdAt w g s) := h
  obtain ⟨c0, c1, f0, f1⟩ := h
  have hg : g < w.heap.size := Hr.out.lt
  by_cases hlt : s.2.length < n
  · have e0 : takeS n s = ([], endS 8 s) := if_pos hlt
    have HE := end_any g s 8 w Hr.out
    rw [e0]
    clear e0
    go_enter Tryz.func102, Tryz.ntmps102
    go_wp2_with fail
    refine HE.mono ?_
    rintro e w1 ⟨rfl, hr1, hk1⟩
    go_wp2_with fail
    go_ret
    exact ⟨rfl, hr1, hk1⟩
  · have e0 : takeS n s = (s.2.take n, (s.1, s.2.drop n)) := if_neg hlt
    rw [e0]
    clear e0
    have HC := fun W => CloneR_any (s.2.take n) W (by rw [List.length_take]; omega)
    have t0 := takeX s.2 n
    have d0 := dropX s.2 n
    have hle : n ≤ s.2.length := by omega
    go_enter Tryz.func102, Tryz.ntmps102
    go_wp2_with fail
    refine (HC _).mono ?_
    rintro e w1 ⟨rfl, hb1⟩
    have Hr1 : Hid (RdAt w1 g s) := Hr.out.below hb1
    have hk1 : But g w w1 := But.of hb1
    clear c0 c1 f0 f1 hg Hr HC t0 hb1
    obtain ⟨c0, c1, f0, f1⟩ := Hr1.out
    have hg : g < w1.heap.size := Hr1.out.lt
    go_wp2_with fail
    go_ret
    exact ⟨rfl, Hr1.out.set1 (s.2.drop n), hk1.trans (But.set _)⟩

theorem takeS_len (n : Nat) (s : St) : (takeS n s).1.length ≤ n := by
  unfold takeS
  split
  · simp
  · rw [List.length_take]; omega
theorem takeS_rest (n : Nat) (s : St) : (takeS n s).2.2.length ≤ s.2.length := by
  unfold takeS endS
  split
  · simp
  · simp

theorem bytes_of (l : List UInt8) (w1 : World) : ∃ cap w2, (convert 9 107 (.string ⟨l.toArray⟩)).run Tryz.prog w1 = .ok (.slice (some ⟨w1.heap.size, 0, none⟩) l.length cap) w2 ∧ RowKit.Below w1.heap.size w1 w2 ∧ ∀ j (hj : j < l.length), w2.cell? ⟨w1.heap.size, j, none⟩ = some (.int .u8 (l[j].toNat : Int)) := by
  refine ⟨_, _, run_bytes_of_string (P := Tryz.prog) w1 9 107 5 ⟨l.toArray⟩ Tryz.underlying9 Tryz.underlying107 (by kernel_rfl), (RowKit.Below.refl _ w1).drew.alloc (Nat.le_refl _) _, fun j hj => ?_⟩
  exact (World.cell?_alloc_mark w1.drew _ _ _ j).trans (bytesRow_at ⟨l.toArray⟩ _ j hj)

theorem wrapBits (n : Int) (h0 : 0 ≤ n) (h1 : n < 9223372036854775808) : IntKind.i64.wrap n = n := by
  have e : IntKind.i64.wrap n = if (true && decide (n % 18446744073709551616 ≥ 9223372036854775808)) = true then n % 18446744073709551616 - 18446744073709551616 else n % 18446744073709551616 := rfl
  rw [e, Int.emod_eq_of_lt h0 (by omega), if_neg (by simp; omega)]
theorem or_num (m b : Nat) (hm : m < 256) (hb : b < 256) : bits BinOp.or IntKind.i64 ((m : Int) * 256) (wrap64 (b : Int)) = ((m * 256 + b : Nat) : Int) := by
  have e1 : wrap64 (b : Int) = (b : Int) := by unfold wrap64; omega
  have e2 : m * 256 ||| b = m * 256 + b := by
    have := Nat.shiftLeft_add_eq_or_of_lt (i := 8) (b := b) (by omega) m
    rw [Nat.shiftLeft_eq] at this
    exact this.symm
  have e3 : ((m : Int) * 256) = ((m * 256 : Nat) : Int) := by omega
  rw [e1, e3]
  unfold bits
  have h1 : (BitVec.ofInt IntKind.i64.bits ((m * 256 : Nat) : Int) ||| BitVec.ofInt IntKind.i64.bits (b : Int)).toNat = m * 256 + b := by
    rw [BitVec.ofInt_natCast, BitVec.ofInt_natCast, BitVec.toNat_or, BitVec.toNat_ofNat, BitVec.toNat_ofNat, Nat.mod_eq_of_lt (by show _ < 2 ^ 64; omega), Nat.mod_eq_of_lt (by show _ < 2 ^ 64; omega), e2]
  dsimp only
  rw [h1]
  exact wrapBits _ (by omega) (by omega)

theorem numL_snoc (l : List UInt8) (b : UInt8) : numL (l ++ [b]) = numL l * 256 + b.toNat := by simp [numL]
theorem numL_take (l : List UInt8) (k : Nat) (h : k < l.length) : numL (l.take (k + 1)) = numL (l.take k) * 256 + l[k].toNat := by
  rw [List.take_succ_eq_append_getElem h, numL_snoc]

set_option maxHeartbeats 2000000 in
set_option maxRecDepth 100000 in
theorem number_any (g : Nat) (s : St) (n : Nat) (w : World) (h : RdAt w g s) (hn : n ≤ 2) :
    Calls Tryz.prog 103 #[.pointer (some ⟨g, 0, none⟩), .int .i64 n] w fun e w' => e = .returned (.int .i64 (numL (takeS n s).1)) ∧ RdAt w' g (takeS n s).2 ∧ But g w w' := by
  have HT := take_any g s n w h (by omega)
  have hlen : (takeS n s).1.length ≤ 2 := Nat.le_trans (takeS_len n s) hn
  generalize (takeS n s).1 = l at *
  generalize (takeS n s).2 = s' at *
  clear h hn
  go_enter Tryz.func103, Tryz.ntmps103
  go_wp2_with fail
  refine HT.mono ?_
  rintro e w1 ⟨rfl, hr1, hk1⟩
  obtain ⟨cap, w2, hcv, hb2, hcell⟩ := bytes_of l w1
  have hfin : Hid (RdAt w2 g s' ∧ But g w w2) := ⟨hr1.below hb2, hk1.trans (But.of hb2)⟩
  have hcell : Hid (∀ j (hj : j < l.length), w2.cell? ⟨w1.heap.size, j, none⟩ = some (.int .u8 (l[j].toNat : Int))) := hcell
  clear hr1 hk1 hb2
  go_wp2_with fail
  go_loop [5, 13] (fun u i => ∃ k : Nat, k ≤ l.length ∧ i = .int .i64 k ∧ u = .int .i64 (numL (l.take k) : Nat)) (fun _ i => l.length - (intOf i).toNat)
  case atStart => exact ⟨0, Nat.zero_le _, rfl, rfl⟩
  case round =>
    obtain ⟨k, hk, rfl, rfl⟩ := hrel
    by_cases hlt : k < l.length
    · have c := hcell.out k hlt
      have i0' : (0 : Int) ≤ (k : Int) := by omega
      have i1 : (k : Int) < (l.length : Int) := by omega
      have hst : Hid (numL (l.take (k + 1)) = numL (l.take k) * 256 + l[k].toNat) := numL_take l k hlt
      have hu : numL (l.take k) < 256 := by
        rcases (by omega : k = 0 ∨ k = 1) with rfl | rfl
        · simp [numL]
        · rw [show (1 : Nat) = 0 + 1 from rfl, numL_take l 0 (by omega)]
          have := (l[0]).toNat_lt
          simp [numL]
          omega
      have hb8 := l[k].toNat_lt
      generalize numL (l.take k) = m at *
      have hor : Hid (bits BinOp.or IntKind.i64 ((m : Int) * 256) (l[k].toNat : Int) = ((m * 256 + l[k].toNat : Nat) : Int)) := by show _ = _; rw [← or_num m l[k].toNat hu hb8]; congr 1; unfold wrap64; omega
      go_wp2_with fail
      refine ⟨⟨k + 1, by omega, by go_num, ?_⟩, by simp [intOf]; omega⟩
      rw [hst.out]
      exact congrArg (Value.int .i64) hor.out
    · obtain rfl : k = l.length := by omega
      rw [List.take_length]
      go_wp2_with fail
      go_ret
      exact ⟨rfl, hfin.out⟩

set_option maxHeartbeats 2000000 in
set_option maxRecDepth 100000 in
theorem kind_any (g : Nat) (s : St) (w : World) (h : RdAt w g s) :
    Calls Tryz.prog 101 #[.pointer (some ⟨g, 0, none⟩)] w fun e w' => e = .returned (.tuple #[.int .i64 (kindK (kindS s).1), .int .i64 (kindL (kindS s).1)]) ∧ RdAt w' g (kindS s).2 ∧ But g w w' := by
  have HN := number_any g s 1 w h (by decide)
  have f0 : Hid ((kindS s).1 = numL (takeS 1 s).1 ∧ (kindB' (numL (takeS 1 s).1) = true → (kindS s).2 = (takeS 1 s).2) ∧ (kindB' (numL (takeS 1 s).1) = false → (kindS s).2 = endS 2 (takeS 1 s).2)) := ⟨rfl, fun e => by unfold kindS; dsimp only; rw [if_pos e], fun e => by unfold kindS; dsimp only; rw [if_neg (by rw [e]; decide)]⟩
  have hsm : numL (takeS 1 s).1 < 256 := by
    have hl := takeS_len 1 s
    match (takeS 1 s).1, hl with
    | [], _ => decide
    | [c], _ =>
      have := c.toNat_lt
      rw [numL_one]
      omega
  generalize numL (takeS 1 s).1 = n at *
  generalize (takeS 1 s).2 = s' at *
  obtain ⟨e1, e2, e3⟩ := f0.out
  rw [e1]
  have e2 : Hid _ := e2
  have e3 : Hid _ := e3
  clear f0 e1 h
  rcases (by omega : n = 0 ∨ n = 1 ∨ n = 2 ∨ n = 3 ∨ n = 4 ∨ n = 5 ∨ n = 6 ∨ n = 7 ∨ 8 ≤ n) with rfl | rfl | rfl | rfl | rfl | rfl | rfl | rfl | h8
  · have e3 := e3.out (by decide)
    rw [e3, show kindK 0 = 0 by decide, show kindL 0 = 0 by decide]
    clear e2 e3 hsm
    go_enter Tryz.func101, Tryz.ntmps101
    go_wp2_with fail
    refine HN.mono ?_
    rintro e w1 ⟨rfl, hr1, hk1⟩
    go_wp2_with fail
    refine (end_any g s' 2 w1 hr1).mono ?_
    rintro e w2 ⟨rfl, hr2, hk2⟩
    go_wp2_with fail
    exact bodyPost_ret (v := .tuple #[.int .i64 0, .int .i64 0]) (by simp [results, Tryz.results101, go_sem]) rfl ⟨rfl, hr2, hk1.trans hk2⟩
  · have e2 := e2.out (by decide)
    rw [e2, show kindK 1 = 1 by decide, show kindL 1 = 0 by decide]
    clear e2 e3 hsm
    go_enter Tryz.func101, Tryz.ntmps101
    go_wp2_with fail
    refine HN.mono ?_
    rintro e w1 ⟨rfl, hr1, hk1⟩
    go_wp2_with fail
    exact bodyPost_ret (v := .tuple #[.int .i64 1, .int .i64 0]) (by simp [results, Tryz.results101, go_sem]) rfl ⟨rfl, hr1, hk1⟩
  · have e2 := e2.out (by decide)
    rw [e2, show kindK 2 = 2 by decide, show kindL 2 = 0 by decide]
    clear e2 e3 hsm
    go_enter Tryz.func101, Tryz.ntmps101
    go_wp2_with fail
    refine HN.mono ?_
    rintro e w1 ⟨rfl, hr1, hk1⟩
    go_wp2_with fail
    exact bodyPost_ret (v := .tuple #[.int .i64 2, .int .i64 0]) (by simp [results, Tryz.results101, go_sem]) rfl ⟨rfl, hr1, hk1⟩
  · have e2 := e2.out (by decide)
    rw [e2, show kindK 3 = 3 by decide, show kindL 3 = 0 by decide]
    clear e2 e3 hsm
    go_enter Tryz.func101, Tryz.ntmps101
    go_wp2_with fail
    refine HN.mono ?_
    rintro e w1 ⟨rfl, hr1, hk1⟩
    go_wp2_with fail
    exact bodyPost_ret (v := .tuple #[.int .i64 3, .int .i64 0]) (by simp [results, Tryz.results101, go_sem]) rfl ⟨rfl, hr1, hk1⟩
  · have e3 := e3.out (by decide)
    rw [e3, show kindK 4 = 4 by decide, show kindL 4 = 0 by decide]
    clear e2 e3 hsm
    go_enter Tryz.func101, Tryz.ntmps101
    go_wp2_with fail
    refine HN.mono ?_
    rintro e w1 ⟨rfl, hr1, hk1⟩
    go_wp2_with fail
    refine (end_any g s' 2 w1 hr1).mono ?_
    rintro e w2 ⟨rfl, hr2, hk2⟩
    go_wp2_with fail
    exact bodyPost_ret (v := .tuple #[.int .i64 4, .int .i64 0]) (by simp [results, Tryz.results101, go_sem]) rfl ⟨rfl, hr2, hk1.trans hk2⟩
  · have e3 := e3.out (by decide)
    rw [e3, show kindK 5 = 5 by decide, show kindL 5 = 0 by decide]
    clear e2 e3 hsm
    go_enter Tryz.func101, Tryz.ntmps101
    go_wp2_with fail
    refine HN.mono ?_
    rintro e w1 ⟨rfl, hr1, hk1⟩
    go_wp2_with fail
    refine (end_any g s' 2 w1 hr1).mono ?_
    rintro e w2 ⟨rfl, hr2, hk2⟩
    go_wp2_with fail
    exact bodyPost_ret (v := .tuple #[.int .i64 5, .int .i64 0]) (by simp [results, Tryz.results101, go_sem]) rfl ⟨rfl, hr2, hk1.trans hk2⟩
  · have e3 := e3.out (by decide)
    rw [e3, show kindK 6 = 6 by decide, show kindL 6 = 0 by decide]
    clear e2 e3 hsm
    go_enter Tryz.func101, Tryz.ntmps101
    go_wp2_with fail
    refine HN.mono ?_
    rintro e w1 ⟨rfl, hr1, hk1⟩
    go_wp2_with fail
    refine (end_any g s' 2 w1 hr1).mono ?_
    rintro e w2 ⟨rfl, hr2, hk2⟩
    go_wp2_with fail
    exact bodyPost_ret (v := .tuple #[.int .i64 6, .int .i64 0]) (by simp [results, Tryz.results101, go_sem]) rfl ⟨rfl, hr2, hk1.trans hk2⟩
  · have e2 := e2.out (by decide)
    rw [e2, show kindK 7 = 3 by decide, show kindL 7 = 2 by decide]
    clear e2 e3 hsm
    go_enter Tryz.func101, Tryz.ntmps101
    go_wp2_with fail
    refine HN.mono ?_
    rintro e w1 ⟨rfl, hr1, hk1⟩
    go_wp2_with fail
    exact bodyPost_ret (v := .tuple #[.int .i64 3, .int .i64 2]) (by simp [results, Tryz.results101, go_sem]) rfl ⟨rfl, hr1, hk1⟩
  · have hK : kindK n = n := if_neg (by omega)
    have hL : kindL n = 0 := if_neg (by omega)
    have e3 := e3.out (by unfold kindB'; rw [hK]; simp; omega)
    rw [e3, hK, hL]
    have h7 : ((n : Int) == 7) = false := by simp; omega
    clear hK hL
    clear e2 e3 hsm
    go_enter Tryz.func101, Tryz.ntmps101
    go_wp2_with fail
    refine HN.mono ?_
    rintro e w1 ⟨rfl, hr1, hk1⟩
    go_wp2_with fail
    refine (end_any g s' 2 w1 hr1).mono ?_
    rintro e w2 ⟨rfl, hr2, hk2⟩
    go_wp2_with fail
    exact bodyPost_ret (v := .tuple #[.int .i64 (n : Int), .int .i64 0]) (by simp [results, Tryz.results101, go_sem]) rfl ⟨rfl, hr2, hk1.trans hk2⟩

theorem numL_small {n : Nat} {s : St} (hn : n ≤ 1) : numL (takeS n s).1 < 256 := by
  have hl := Nat.le_trans (takeS_len n s) hn
  match (takeS n s).1, hl with
  | [], _ => decide
  | [c], _ =>
    have := c.toNat_lt
    rw [numL_one]
    omega
theorem kindL_small (n : Nat) : kindL n ≤ 2 := by unfold kindL; split <;> omega

end Go.Proofs.YtonmmnhikjfibadGreatDoor

/- code's reader: a term. -/
namespace Go.Proofs.YtonmmnhikjfibadGreatDoor
open Go Go.RowKit Go.Proofs
set_option synthInstance.maxSize 1000

/-- an empty box for a term; a box that holds one -/
def ZB (W : World) (B : Nat) : Prop := W.cell? ⟨B, 0, none⟩ = some (.int .i64 0) ∧ W.cell? ⟨B, 1, none⟩ = some (.string ⟨#[]⟩) ∧ W.cell? ⟨B, 2, none⟩ = some (.string ⟨#[]⟩) ∧ W.frozen? ⟨B, 0, none⟩ = false ∧ W.frozen? ⟨B, 1, none⟩ = false ∧ W.frozen? ⟨B, 2, none⟩ = false
def XB (W : World) (B : Nat) (x : Tm) : Prop := W.cell? ⟨B, 0, none⟩ = some (.int .i64 x.1) ∧ W.cell? ⟨B, 1, none⟩ = some (.string ⟨x.2.1.toArray⟩) ∧ W.cell? ⟨B, 2, none⟩ = some (.string ⟨x.2.2.toArray⟩)
theorem But.far {g : Nat} {w w' : World} (h : But g w w') {B : Nat} (hB : B < w.heap.size) (hg : B ≠ g) : (∀ o, w'.cell? ⟨B, o, none⟩ = w.cell? ⟨B, o, none⟩) ∧ ∀ o, w'.frozen? ⟨B, o, none⟩ = w.frozen? ⟨B, o, none⟩ := by
  have e := h.block B hB (fun e => hg (by injection e))
  exact ⟨fun o => World.cell?_of_block (w := w) (w' := w') (a := ⟨B, o, none⟩) e, fun o => World.frozen?_of_block (w := w) (w' := w') (a := ⟨B, o, none⟩) e⟩
theorem ZB.but {W W' : World} {g B : Nat} (h : ZB W B) (k : But g W W') (hg : B ≠ g) : ZB W' B := by
  obtain ⟨c, f⟩ := k.far (World.block_lt_of_cell? W _ h.1) hg
  unfold ZB at h ⊢
  simp only [c, f]
  exact h
theorem ZB.below {W W' : World} {B : Nat} (h : ZB W B) (hb : RowKit.Below W.heap.size W W') : ZB W' B := by
  have hB : B < W.heap.size := World.block_lt_of_cell? W _ h.1
  exact h.but (g := B + 1) (But.of hb) (by omega)
theorem ZB.new (w : World) : ZB (w.alloc (.cells #[.int .i64 0, .string ⟨#[]⟩, .string ⟨#[]⟩] 43)) w.heap.size := by
  unfold ZB
  refine ⟨?_, ?_, ?_, ?_, ?_, ?_⟩ <;> go_simp
theorem XB.but {W W' : World} {g B : Nat} {x : Tm} (h : XB W B x) (k : But g W W') (hg : B ≠ g) : XB W' B x := by
  obtain ⟨c, _⟩ := k.far (World.block_lt_of_cell? W _ h.1) hg
  unfold XB at h ⊢
  simp only [c]
  exact h
theorem XB.below {W W' : World} {B : Nat} {x : Tm} (h : XB W B x) (hb : RowKit.Below W.heap.size W W') : XB W' B x :=
  h.but (g := B + 1) (But.of hb) (by omega)
theorem XB.new (w : World) (x : Tm) : XB (w.alloc (.cells #[.int .i64 x.1, .string ⟨x.2.1.toArray⟩, .string ⟨x.2.2.toArray⟩] 43)) w.heap.size x := by
  unfold XB
  refine ⟨?_, ?_, ?_⟩ <;> go_simp
theorem RdAt.far {w : World} {g B o : Nat} {s : St} {u : Value} (h : RdAt w g s) (hB : B ≠ g) : RdAt (w.setCell ⟨B, o, none⟩ u) g s := by
  have e := RowKit.Below.heap_setCell w ⟨B, o, none⟩ u g (fun e => hB e.symm)
  have c : ∀ j, (w.setCell ⟨B, o, none⟩ u).cell? ⟨g, j, none⟩ = w.cell? ⟨g, j, none⟩ := fun j => World.cell?_of_block (w := w) (a := ⟨g, j, none⟩) e
  have f : ∀ j, (w.setCell ⟨B, o, none⟩ u).frozen? ⟨g, j, none⟩ = w.frozen? ⟨g, j, none⟩ := fun j => World.frozen?_of_block (w := w) (a := ⟨g, j, none⟩) e
  unfold RdAt at h ⊢
  simp only [c, f]
  exact h
theorem But.fresh {w W : World} {g B o : Nat} {u : Value} (h : But g w W) (hB : w.heap.size ≤ B) : But g w (W.setCell ⟨B, o, none⟩ u) := by
  have q := (RowKit.Below.refl 0 W).setCell (p := ⟨B, o, none⟩) (Nat.zero_le _) u
  exact ⟨q.os.trans h.os, q.tape.trans h.tape, q.output.trans h.output, Nat.le_trans h.size q.size, fun k hk hne => (RowKit.Below.heap_setCell W ⟨B, o, none⟩ u k (by show k ≠ B; omega)).trans (h.block k hk hne)⟩

attribute [local go_sem] eql_errV neq_errV guard_errV

set_option maxHeartbeats 4000000 in
set_option maxRecDepth 100000 in
theorem rterm_any (g : Nat) (s : St) (w : World) (h : RdAt w g s) :
    Calls Tryz.prog 65 #[.pointer (some ⟨g, 0, none⟩)] w fun e w' => e = .returned (.agg #[.int .i64 (termS s).1.1, .string ⟨(termS s).1.2.1.toArray⟩, .string ⟨(termS s).1.2.2.toArray⟩]) ∧ RdAt w' g (termS s).2 ∧ But g w w' := by
  have HK := fun W hW => kind_any g s W hW
  have HL := fun W hW => take_any g (kindS s).2 (kindL (kindS s).1) W hW (by have := kindL_small (kindS s).1; omega)
  have HN := fun W hW => number_any g (langS s).2 1 W hW (by decide)
  have HT := fun W hW => take_any g (takeS 1 (langS s).2).2 (numL (takeS 1 (langS s).2).1) W hW (by have := numL_small (n := 1) (s := (langS s).2) (Nat.le_refl _); omega)
  have hS : (textS (langS s).2).1.length ≤ maxLen := by
    have h1 := takeS_len (numL (takeS 1 (langS s).2).1) (takeS 1 (langS s).2).2
    have h2 := numL_small (n := 1) (s := (langS s).2) (Nat.le_refl _)
    show (takeS _ _).1.length ≤ _
    unfold maxLen
    omega
  have hG : (langS s).1.length ≤ maxLen := by
    have h1 := takeS_len (kindL (kindS s).1) (kindS s).2
    have h2 := kindL_small (kindS s).1
    show (takeS _ _).1.length ≤ _
    unfold maxLen
    omega
  have HC := fun W => Check_any (kindK (kindS s).1) (textS (langS s).2).1 (langS s).1 W hS hG
  have e0 : (termS s).1 = (kindK (kindS s).1, (textS (langS s).2).1, (langS s).1) := rfl
  have e1 : (termS s).2 = if okTm (termS s).1 = 0 then (textS (langS s).2).2 else endS 2 (textS (langS s).2).2 := rfl
  have e2 : checkN (kindK (kindS s).1) (textS (langS s).2).1 (langS s).1 = okTm (termS s).1 := rfl
  rw [e2] at HC
  have f0 : Hid (okTm (termS s).1 = 0 → (termS s).2 = (textS (langS s).2).2) := fun e => by rw [e1, if_pos e]
  have f1 : Hid (¬ okTm (termS s).1 = 0 → (termS s).2 = endS 2 (textS (langS s).2).2) := fun e => by rw [e1, if_neg e]
  generalize okTm (termS s).1 = N at *
  generalize (termS s).2 = fin at *
  rw [e0]
  have e3 : takeS (kindL (kindS s).1) (kindS s).2 = langS s := rfl
  have e4 : takeS (numL (takeS 1 (langS s).2).1) (takeS 1 (langS s).2).2 = textS (langS s).2 := rfl
  rw [e3] at HL
  rw [e4] at HT
  clear e0 e1 e2 e3 e4 hS hG
  dsimp only
  generalize kindK (kindS s).1 = K at *
  generalize kindL (kindS s).1 = m at *
  generalize (kindS s).2 = s1 at *
  generalize (textS (langS s).2).1 = S at *
  generalize (textS (langS s).2).2 = s4 at *
  generalize numL (takeS 1 (langS s).2).1 = q at *
  generalize (takeS 1 (langS s).2).2 = s3 at *
  generalize (langS s).1 = L at *
  generalize (langS s).2 = s2 at *
  have Hr : Hid (RdAt w g s) := h
  clear h
  go_enter Tryz.func65, Tryz.ntmps65
  have hg0 : g < w.heap.size := Hr.out.lt
  go_wp2_with fail
  have hZ0 : Hid (ZB (w.alloc (.cells #[.int .i64 0, .string ⟨#[]⟩, .string ⟨#[]⟩] 43)) w.heap.size) := ZB.new _
  refine (HK _ (Hr.out.below (balloc _ _))).mono ?_
  rintro e w1 ⟨rfl, hr1, hk1⟩
  have hB1 : Hid (But g w w1) := (But.of (balloc _ _)).trans hk1
  have hZ1 : Hid (ZB w1 w.heap.size) := hZ0.out.but hk1 (by omega)
  clear hk1 hZ0 HK
  go_wp2_with fail
  refine (HL _ hr1).mono ?_
  rintro e w2 ⟨rfl, hr2, hk2⟩
  have hB2 : Hid (But g w w2) := hB1.out.trans hk2
  have hZ2 : Hid (ZB w2 w.heap.size) := hZ1.out.but hk2 (by omega)
  clear hk2 hZ1 HL hB1 hr1
  go_wp2_with fail
  refine (HN _ hr2).mono ?_
  rintro e w3 ⟨rfl, hr3, hk3⟩
  have hB3 : Hid (But g w w3) := hB2.out.trans hk3
  have hZ3 : Hid (ZB w3 w.heap.size) := hZ2.out.but hk3 (by omega)
  clear hk3 hZ2 HN hB2 hr2
  go_wp2_with fail
  refine (HT _ hr3).mono ?_
  rintro e w4 ⟨rfl, hr4, hk4⟩
  have hB4 : Hid (But g w w4) := hB3.out.trans hk4
  have hZ4 : Hid (ZB w4 w.heap.size) := hZ3.out.but hk4 (by omega)
  clear hk4 hZ3 HT hB3 hr3
  have hX5 : Hid (XB (w4.alloc (.cells #[.int .i64 K, .string ⟨S.toArray⟩, .string ⟨L.toArray⟩] 43)) w4.heap.size (K, S, L)) := XB.new w4 (K, S, L)
  have hg4 : Hid (g < w4.heap.size) := hr4.lt
  have hw4 : Hid (w.heap.size < w4.heap.size) := World.block_lt_of_cell? w4 _ hZ4.out.1
  go_wp2_with fail
  refine (HC _).mono ?_
  rintro e w5 ⟨rfl, hb5⟩
  have hb45 := bstep (balloc w4 (.cells #[.int .i64 K, .string ⟨S.toArray⟩, .string ⟨L.toArray⟩] 43)) hb5
  have hr5 : Hid (RdAt w5 g s4) := hr4.below hb45
  have hB5 : Hid (But g w w5) := hB4.out.trans (But.of hb45)
  have hZ5 : Hid (ZB w5 w.heap.size) := hZ4.out.below hb45
  have hX5 : Hid (XB w5 w4.heap.size (K, S, L)) := hX5.out.below hb5
  clear hb45 hb5 hZ4 hB4 hr4 HC
  by_cases hN : N = 0
  · subst hN
    have ef := f0.out rfl
    subst ef
    obtain ⟨x0, x1, x2⟩ := hX5.out
    obtain ⟨z0, z1, z2, q0, q1, q2⟩ := hZ5.out
    have hne : w.heap.size ≠ w4.heap.size := by have := hw4.out; omega
    clear f0 f1
    go_wp2_with fail
    exact bodyPost_ret (v := .agg #[.int .i64 K, .string ⟨S.toArray⟩, .string ⟨L.toArray⟩]) (by unfold results; rw [Tryz.results65]; go_simp) rfl ⟨rfl, ((hr5.out.far (by omega)).far (by omega)).far (by omega), ((hB5.out.fresh (Nat.le_refl _)).fresh (Nat.le_refl _)).fresh (Nat.le_refl _)⟩
  · have ef := f1.out hN
    subst ef
    have hN' : (N == 0) = false := by simpa using hN
    clear f0 f1
    go_wp2_with fail
    refine (end_any g s4 2 _ hr5.out).mono ?_
    rintro e w6 ⟨rfl, hr6, hk6⟩
    obtain ⟨x0, x1, x2⟩ := hX5.out.but hk6 (by have := hg4.out; omega)
    obtain ⟨z0, z1, z2, q0, q1, q2⟩ := hZ5.out.but hk6 (by omega)
    have hne : w.heap.size ≠ w4.heap.size := by have := hw4.out; omega
    go_wp2_with fail
    exact bodyPost_ret (v := .agg #[.int .i64 K, .string ⟨S.toArray⟩, .string ⟨L.toArray⟩]) (by unfold results; rw [Tryz.results65]; go_simp) rfl ⟨rfl, ((hr6.far (by omega)).far (by omega)).far (by omega), But.fresh (But.fresh (But.fresh (hB5.out.trans hk6) (Nat.le_refl _)) (Nat.le_refl _)) (Nat.le_refl _)⟩
end Go.Proofs.YtonmmnhikjfibadGreatDoor
