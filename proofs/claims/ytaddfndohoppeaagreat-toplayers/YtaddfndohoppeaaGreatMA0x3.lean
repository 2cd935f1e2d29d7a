import Derived.Test.YtaddfndohoppeaaGreatMA0x2
import Derived.Test.YtaddfndohoppeaaGreatMA0x0
import Derived.Laws.IdiomStrings
import Derived.Laws.AppendOwn
import Derived.Maps.AppendAt
import Derived.Maps.OwnSet
import Derived.DeepKeys4
import Derived.OwnWalk
import Derived.Deep.AppendLies
import Derived.Maps.Range

/- code's reader: end, take, number, kind, term. -/
namespace Go.Proofs.YtaddfndohoppeaaGreat
open Go Go.RowKit Go.Proofs
set_option synthInstance.maxSize 1000

/-- a reader at block g: what ended it, what is left -/
def RdAt (w : World) (g : Nat) (s : St) : Prop := w.cell? ⟨g, 0, none⟩ = some (.int .i64 s.1) ∧ w.cell? ⟨g, 1, none⟩ = some (.string ⟨s.2.toArray⟩) ∧ w.frozen? ⟨g, 0, none⟩ = false ∧ w.frozen? ⟨g, 1, none⟩ = false
/-- all but block g is as it was -/
abbrev But (g : Nat) (w w' : World) : Prop := w.grownBy w' (some g)
theorem But.of {g : Nat} {w w' : World} (hb : RowKit.Below w.heap.size w w') : But g w w' := ⟨hb.os, hb.tape, hb.output, hb.size, fun k hk _ => hb.block k hk⟩
theorem But.below {B g : Nat} {a w w' : World} (h : RowKit.Below B a w) (k : But g w w') (hB : B ≤ w.heap.size) (hg : B ≤ g) : RowKit.Below B a w' := h.grown k hB (fun _ e => by injection e with e; omega)
theorem RdAt.lt {w : World} {g : Nat} {s : St} (h : RdAt w g s) : g < w.heap.size := World.block_lt_of_cell? w _ h.1
theorem RdAt.below {w w' : World} {g : Nat} {s : St} (h : RdAt w g s) (hb : RowKit.Below w.heap.size w w') : RdAt w' g s := by
  obtain ⟨k, f⟩ := bcell hb
  have hg := h.lt
  unfold RdAt at h ⊢
  simp only [k _ _ hg, f _ _ hg]
  exact h
theorem But.set {w : World} {g o : Nat} (u : Value) : But g w (w.setCell ⟨g, o, none⟩ u) := by
  have h := (RowKit.Below.refl 0 w).setCell (p := ⟨g, o, none⟩) (Nat.zero_le _) u
  exact ⟨h.os, h.tape, h.output, h.size, fun k _ hk => RowKit.Below.heap_setCell w ⟨g, o, none⟩ u k (fun e => hk (by rw [e]))⟩
theorem RdAt.set0 {w : World} {g : Nat} {s : St} (h : RdAt w g s) (e : Int) : RdAt (w.setCell ⟨g, 0, none⟩ (.int .i64 e)) g (e, s.2) := by
  obtain ⟨c0, c1, f0, f1⟩ := h
  refine ⟨?_, ?_, ?_, ?_⟩ <;> go_simp
theorem RdAt.set1 {w : World} {g : Nat} {s : St} (h : RdAt w g s) (r : List UInt8) : RdAt (w.setCell ⟨g, 1, none⟩ (.string ⟨r.toArray⟩)) g (s.1, r) := by
  obtain ⟨c0, c1, f0, f1⟩ := h
  refine ⟨?_, ?_, ?_, ?_⟩ <;> go_simp

theorem end_any (g : Nat) (s : St) (why : Int) (w : World) (h : RdAt w g s) :
    Calls Tryz.prog 58 #[.pointer (some ⟨g, 0, none⟩), .int .i64 why] w fun e w' => e = .returned (.tuple #[]) ∧ RdAt w' g (endS why s) ∧ But g w w' := by
  have Hr : Hid (RdAt w g s) := h
  obtain ⟨c0, c1, f0, f1⟩ := h
  have hg : g < w.heap.size := Hr.out.lt
  by_cases h0 : s.1 = 0
  · rw [h0] at c0
    go_enter Tryz.func58, Tryz.ntmps58
    go_wp2
    go_end0
    refine ⟨rfl, ?_, ?_⟩
    · have e : endS why s = (why, []) := by unfold endS; rw [if_pos h0]
      rw [e]
      exact (Hr.out.set0 why).set1 []
    · exact (But.set _).trans (But.set _)
  · have h0' : (s.1 == 0) = false := by simpa using h0
    go_enter Tryz.func58, Tryz.ntmps58
    go_wp2
    go_end0
    refine ⟨rfl, ?_, ?_⟩
    · have e : endS why s = (s.1, []) := by unfold endS; rw [if_neg h0]
      rw [e]
      exact Hr.out.set1 []
    · exact But.set _

theorem CloneR_any (l : List UInt8) (w : World) (hl : l.length ≤ 281474976710656) :
    Calls Tryz.prog 57 #[.string ⟨l.toArray⟩] w fun e w' => e = .returned (.string ⟨l.toArray⟩) ∧ RowKit.Below w.heap.size w w' := by
  go_enter Tryz.func57, Tryz.ntmps57
  go_wp2_with (go_at_call 89; refine (Tryz.stringslite_Clone ⟨l.toArray⟩ _ hl).mono ?_; rintro e w' ⟨rfl, hb⟩)
  go_ret
  exact ⟨rfl, hb⟩

theorem takeX (l : List UInt8) (k : Nat) : (⟨l.toArray⟩ : ByteArray).extract 0 k = ⟨(l.take k).toArray⟩ := by
  apply ByteArray.ext
  rw [ByteArray.data_extract]
  simp
theorem dropX (l : List UInt8) (k : Nat) : (⟨l.toArray⟩ : ByteArray).extract k l.length = ⟨(l.drop k).toArray⟩ := by
  apply ByteArray.ext
  rw [ByteArray.data_extract]
  simp
  rw [List.take_of_length_le (by simp)]

set_option maxHeartbeats 2000000 in
set_option maxRecDepth 100000 in
theorem take_any (g : Nat) (s : St) (n : Nat) (w : World) (h : RdAt w g s) (hn : n ≤ 65535) :
    Calls Tryz.prog 90 #[.pointer (some ⟨g, 0, none⟩), .int .i64 n] w fun e w' => e = .returned (.string ⟨(takeS n s).1.toArray⟩) ∧ RdAt w' g (takeS n s).2 ∧ But g w w' := by
  have Hr : Hid (RdAt w g s) := h
  obtain ⟨c0, c1, f0, f1⟩ := h
  have hg : g < w.heap.size := Hr.out.lt
  by_cases hlt : s.2.length < n
  · have e0 : takeS n s = ([], endS 8 s) := if_pos hlt
    have HE := end_any g s 8 w Hr.out
    rw [e0]
    clear e0
    go_enter Tryz.func90, Tryz.ntmps90
    go_wp2_with fail
    refine HE.mono ?_
    rintro e w1 ⟨rfl, hr1, hk1⟩
    go_wp2_with fail
    go_ret
    exact ⟨rfl, hr1, hk1⟩
  · have e0 : takeS n s = (s.2.take n, (s.1, s.2.drop n)) := if_neg hlt
    rw [e0]
    clear e0
    have HC := fun W => CloneR_any (s.2.take n) W (by rw [List.length_take]; omega)
    have t0 := takeX s.2 n
    have d0 := dropX s.2 n
    have hle : n ≤ s.2.length := by omega
    go_enter Tryz.func90, Tryz.ntmps90
    go_wp2_with fail
    refine (HC _).mono ?_
    rintro e w1 ⟨rfl, hb1⟩
    have Hr1 : Hid (RdAt w1 g s) := Hr.out.below hb1
    have hk1 : But g w w1 := But.of hb1
    clear c0 c1 f0 f1 hg Hr HC t0 hb1
    obtain ⟨c0, c1, f0, f1⟩ := Hr1.out
    have hg : g < w1.heap.size := Hr1.out.lt
    go_wp2_with fail
    go_ret
    exact ⟨rfl, Hr1.out.set1 (s.2.drop n), hk1.trans (But.set _)⟩

theorem takeS_len (n : Nat) (s : St) : (takeS n s).1.length ≤ n := by
  unfold takeS
  split
  · simp
  · rw [List.length_take]; omega
theorem bytes_of (l : List UInt8) (w1 : World) : ∃ cap w2, (convert 9 136 (.string ⟨l.toArray⟩)).run Tryz.prog w1 = .ok (.slice (some ⟨w1.heap.size, 0, none⟩) l.length cap) w2 ∧ RowKit.Below w1.heap.size w1 w2 ∧ ∀ j (hj : j < l.length), w2.cell? ⟨w1.heap.size, j, none⟩ = some (.int .u8 (l[j].toNat : Int)) := by
  refine ⟨_, _, run_bytes_of_string (P := Tryz.prog) w1 9 136 5 ⟨l.toArray⟩ Tryz.underlying9 Tryz.underlying136 (by kernel_rfl), (RowKit.Below.refl _ w1).drew.alloc (Nat.le_refl _) _, fun j hj => ?_⟩
  exact (World.cell?_alloc_mark w1.drew _ _ _ j).trans (bytesRow_at ⟨l.toArray⟩ _ j hj)

theorem wrapBits (n : Int) (h0 : 0 ≤ n) (h1 : n < 9223372036854775808) : IntKind.i64.wrap n = n := by
  have e : IntKind.i64.wrap n = if (true && decide (n % 18446744073709551616 ≥ 9223372036854775808)) = true then n % 18446744073709551616 - 18446744073709551616 else n % 18446744073709551616 := rfl
  rw [e, Int.emod_eq_of_lt h0 (by omega), if_neg (by simp; omega)]
theorem or_num (m b : Nat) (hm : m < 256) (hb : b < 256) : bits BinOp.or IntKind.i64 ((m : Int) * 256) (wrap64 (b : Int)) = ((m * 256 + b : Nat) : Int) := by
  have e1 : wrap64 (b : Int) = (b : Int) := by unfold wrap64; omega
  have e2 : m * 256 ||| b = m * 256 + b := by
    have := Nat.shiftLeft_add_eq_or_of_lt (i := 8) (b := b) (by omega) m
    rw [Nat.shiftLeft_eq] at this
    exact this.symm
  have e3 : ((m : Int) * 256) = ((m * 256 : Nat) : Int) := by omega
  rw [e1, e3]
  unfold bits
  have h1 : (BitVec.ofInt IntKind.i64.bits ((m * 256 : Nat) : Int) ||| BitVec.ofInt IntKind.i64.bits (b : Int)).toNat = m * 256 + b := by
    rw [BitVec.ofInt_natCast, BitVec.ofInt_natCast, BitVec.toNat_or, BitVec.toNat_ofNat, BitVec.toNat_ofNat, Nat.mod_eq_of_lt (by show _ < 2 ^ 64; omega), Nat.mod_eq_of_lt (by show _ < 2 ^ 64; omega), e2]
  dsimp only
  rw [h1]
  exact wrapBits _ (by omega) (by omega)

theorem numL_snoc (l : List UInt8) (b : UInt8) : numL (l ++ [b]) = numL l * 256 + b.toNat := by simp [numL]
theorem numL_take (l : List UInt8) (k : Nat) (h : k < l.length) : numL (l.take (k + 1)) = numL (l.take k) * 256 + l[k].toNat := by
  rw [List.take_succ_eq_append_getElem h, numL_snoc]

set_option maxHeartbeats 2000000 in
set_option maxRecDepth 100000 in
theorem number_any (g : Nat) (s : St) (n : Nat) (w : World) (h : RdAt w g s) (hn : n ≤ 2) :
    Calls Tryz.prog 59 #[.pointer (some ⟨g, 0, none⟩), .int .i64 n] w fun e w' => e = .returned (.int .i64 (numL (takeS n s).1)) ∧ RdAt w' g (takeS n s).2 ∧ But g w w' := by
  have HT := take_any g s n w h (by omega)
  have hlen : (takeS n s).1.length ≤ 2 := Nat.le_trans (takeS_len n s) hn
  generalize (takeS n s).1 = l at *
  generalize (takeS n s).2 = s' at *
  clear h hn
  go_enter Tryz.func59, Tryz.ntmps59
  go_wp2_with fail
  refine HT.mono ?_
  rintro e w1 ⟨rfl, hr1, hk1⟩
  obtain ⟨cap, w2, hcv, hb2, hcell⟩ := bytes_of l w1
  have hfin : Hid (RdAt w2 g s' ∧ But g w w2) := ⟨hr1.below hb2, hk1.trans (But.of hb2)⟩
  have hcell : Hid (∀ j (hj : j < l.length), w2.cell? ⟨w1.heap.size, j, none⟩ = some (.int .u8 (l[j].toNat : Int))) := hcell
  clear hr1 hk1 hb2
  go_wp2_with fail
  go_loop [5, 13] (fun u i => ∃ k : Nat, k ≤ l.length ∧ i = .int .i64 k ∧ u = .int .i64 (numL (l.take k) : Nat)) (fun _ i => l.length - (intOf i).toNat)
  case atStart => exact ⟨0, Nat.zero_le _, rfl, rfl⟩
  case round =>
    obtain ⟨k, hk, rfl, rfl⟩ := hrel
    by_cases hlt : k < l.length
    · have c := hcell.out k hlt
      have i0' : (0 : Int) ≤ (k : Int) := by omega
      have i1 : (k : Int) < (l.length : Int) := by omega
      have hst : Hid (numL (l.take (k + 1)) = numL (l.take k) * 256 + l[k].toNat) := numL_take l k hlt
      have hu : numL (l.take k) < 256 := by
        rcases (by omega : k = 0 ∨ k = 1) with rfl | rfl
        · simp [numL]
        · rw [show (1 : Nat) = 0 + 1 from rfl, numL_take l 0 (by omega)]
          have := (l[0]).toNat_lt
          simp [numL]
          omega
      have hb8 := l[k].toNat_lt
      generalize numL (l.take k) = m at *
      have hor : Hid (bits BinOp.or IntKind.i64 ((m : Int) * 256) (l[k].toNat : Int) = ((m * 256 + l[k].toNat : Nat) : Int)) := by show _ = _; rw [← or_num m l[k].toNat hu hb8]; congr 1; unfold wrap64; omega
      go_wp2_with fail
      refine ⟨⟨k + 1, by omega, by go_num, ?_⟩, by simp [intOf]; omega⟩
      rw [hst.out]
      exact congrArg (Value.int .i64) hor.out
    · obtain rfl : k = l.length := by omega
      rw [List.take_length]
      go_wp2_with fail
      go_ret
      exact ⟨rfl, hfin.out⟩

set_option maxHeartbeats 2000000 in
set_option maxRecDepth 100000 in
theorem kind_any (g : Nat) (s : St) (w : World) (h : RdAt w g s) :
    Calls Tryz.prog 91 #[.pointer (some ⟨g, 0, none⟩)] w fun e w' => e = .returned (.tuple #[.int .i64 (kindK (kindS s).1), .int .i64 (kindL (kindS s).1)]) ∧ RdAt w' g (kindS s).2 ∧ But g w w' := by
  have HN := number_any g s 1 w h (by decide)
  have f0 : Hid ((kindS s).1 = numL (takeS 1 s).1 ∧ (kindB' (numL (takeS 1 s).1) = true → (kindS s).2 = (takeS 1 s).2) ∧ (kindB' (numL (takeS 1 s).1) = false → (kindS s).2 = endS 2 (takeS 1 s).2)) := ⟨rfl, fun e => by unfold kindS; dsimp only; rw [if_pos e], fun e => by unfold kindS; dsimp only; rw [if_neg (by rw [e]; decide)]⟩
  have hsm : numL (takeS 1 s).1 < 256 := by
    have hl := takeS_len 1 s
    match (takeS 1 s).1, hl with
    | [], _ => decide
    | [c], _ =>
      have := c.toNat_lt
      rw [numL_one]
      omega
  generalize numL (takeS 1 s).1 = n at *
  generalize (takeS 1 s).2 = s' at *
  obtain ⟨e1, e2, e3⟩ := f0.out
  rw [e1]
  have e2 : Hid _ := e2
  have e3 : Hid _ := e3
  clear f0 e1 h
  rcases (by omega : n = 0 ∨ n = 1 ∨ n = 2 ∨ n = 3 ∨ n = 4 ∨ n = 5 ∨ n = 6 ∨ n = 7 ∨ 8 ≤ n) with rfl | rfl | rfl | rfl | rfl | rfl | rfl | rfl | h8
  · have e3 := e3.out (by decide)
    rw [e3, show kindK 0 = 0 by decide, show kindL 0 = 0 by decide]
    clear e2 e3 hsm
    go_enter Tryz.func91, Tryz.ntmps91
    go_wp2_with fail
    refine HN.mono ?_
    rintro e w1 ⟨rfl, hr1, hk1⟩
    go_wp2_with fail
    refine (end_any g s' 2 w1 hr1).mono ?_
    rintro e w2 ⟨rfl, hr2, hk2⟩
    go_wp2_with fail
    exact bodyPost_ret (v := .tuple #[.int .i64 0, .int .i64 0]) (by simp [results, Tryz.results91, go_sem]) rfl ⟨rfl, hr2, hk1.trans hk2⟩
  · have e2 := e2.out (by decide)
    rw [e2, show kindK 1 = 1 by decide, show kindL 1 = 0 by decide]
    clear e2 e3 hsm
    go_enter Tryz.func91, Tryz.ntmps91
    go_wp2_with fail
    refine HN.mono ?_
    rintro e w1 ⟨rfl, hr1, hk1⟩
    go_wp2_with fail
    exact bodyPost_ret (v := .tuple #[.int .i64 1, .int .i64 0]) (by simp [results, Tryz.results91, go_sem]) rfl ⟨rfl, hr1, hk1⟩
  · have e2 := e2.out (by decide)
    rw [e2, show kindK 2 = 2 by decide, show kindL 2 = 0 by decide]
    clear e2 e3 hsm
    go_enter Tryz.func91, Tryz.ntmps91
    go_wp2_with fail
    refine HN.mono ?_
    rintro e w1 ⟨rfl, hr1, hk1⟩
    go_wp2_with fail
    exact bodyPost_ret (v := .tuple #[.int .i64 2, .int .i64 0]) (by simp [results, Tryz.results91, go_sem]) rfl ⟨rfl, hr1, hk1⟩
  · have e2 := e2.out (by decide)
    rw [e2, show kindK 3 = 3 by decide, show kindL 3 = 0 by decide]
    clear e2 e3 hsm
    go_enter Tryz.func91, Tryz.ntmps91
    go_wp2_with fail
    refine HN.mono ?_
    rintro e w1 ⟨rfl, hr1, hk1⟩
    go_wp2_with fail
    exact bodyPost_ret (v := .tuple #[.int .i64 3, .int .i64 0]) (by simp [results, Tryz.results91, go_sem]) rfl ⟨rfl, hr1, hk1⟩
  · have e3 := e3.out (by decide)
    rw [e3, show kindK 4 = 4 by decide, show kindL 4 = 0 by decide]
    clear e2 e3 hsm
    go_enter Tryz.func91, Tryz.ntmps91
    go_wp2_with fail
    refine HN.mono ?_
    rintro e w1 ⟨rfl, hr1, hk1⟩
    go_wp2_with fail
    refine (end_any g s' 2 w1 hr1).mono ?_
    rintro e w2 ⟨rfl, hr2, hk2⟩
    go_wp2_with fail
    exact bodyPost_ret (v := .tuple #[.int .i64 4, .int .i64 0]) (by simp [results, Tryz.results91, go_sem]) rfl ⟨rfl, hr2, hk1.trans hk2⟩
  · have e3 := e3.out (by decide)
    rw [e3, show kindK 5 = 5 by decide, show kindL 5 = 0 by decide]
    clear e2 e3 hsm
    go_enter Tryz.func91, Tryz.ntmps91
    go_wp2_with fail
    refine HN.mono ?_
    rintro e w1 ⟨rfl, hr1, hk1⟩
    go_wp2_with fail
    refine (end_any g s' 2 w1 hr1).mono ?_
    rintro e w2 ⟨rfl, hr2, hk2⟩
    go_wp2_with fail
    exact bodyPost_ret (v := .tuple #[.int .i64 5, .int .i64 0]) (by simp [results, Tryz.results91, go_sem]) rfl ⟨rfl, hr2, hk1.trans hk2⟩
  · have e3 := e3.out (by decide)
    rw [e3, show kindK 6 = 6 by decide, show kindL 6 = 0 by decide]
    clear e2 e3 hsm
    go_enter Tryz.func91, Tryz.ntmps91
    go_wp2_with fail
    refine HN.mono ?_
    rintro e w1 ⟨rfl, hr1, hk1⟩
    go_wp2_with fail
    refine (end_any g s' 2 w1 hr1).mono ?_
    rintro e w2 ⟨rfl, hr2, hk2⟩
    go_wp2_with fail
    exact bodyPost_ret (v := .tuple #[.int .i64 6, .int .i64 0]) (by simp [results, Tryz.results91, go_sem]) rfl ⟨rfl, hr2, hk1.trans hk2⟩
  · have e2 := e2.out (by decide)
    rw [e2, show kindK 7 = 3 by decide, show kindL 7 = 2 by decide]
    clear e2 e3 hsm
    go_enter Tryz.func91, Tryz.ntmps91
    go_wp2_with fail
    refine HN.mono ?_
    rintro e w1 ⟨rfl, hr1, hk1⟩
    go_wp2_with fail
    exact bodyPost_ret (v := .tuple #[.int .i64 3, .int .i64 2]) (by simp [results, Tryz.results91, go_sem]) rfl ⟨rfl, hr1, hk1⟩
  · have hK : kindK n = n := if_neg (by omega)
    have hL : kindL n = 0 := if_neg (by omega)
    have e3 := e3.out (by unfold kindB'; rw [hK]; simp; omega)
    rw [e3, hK, hL]
    have h7 : ((n : Int) == 7) = false := by simp; omega
    clear hK hL
    clear e2 e3 hsm
    go_enter Tryz.func91, Tryz.ntmps91
    go_wp2_with fail
    refine HN.mono ?_
    rintro e w1 ⟨rfl, hr1, hk1⟩
    go_wp2_with fail
    refine (end_any g s' 2 w1 hr1).mono ?_
    rintro e w2 ⟨rfl, hr2, hk2⟩
    go_wp2_with fail
    exact bodyPost_ret (v := .tuple #[.int .i64 (n : Int), .int .i64 0]) (by simp [results, Tryz.results91, go_sem]) rfl ⟨rfl, hr2, hk1.trans hk2⟩

theorem numL_small {n : Nat} {s : St} (hn : n ≤ 1) : numL (takeS n s).1 < 256 := by
  have hl := Nat.le_trans (takeS_len n s) hn
  match (takeS n s).1, hl with
  | [], _ => decide
  | [c], _ =>
    have := c.toNat_lt
    rw [numL_one]
    omega
theorem kindL_small (n : Nat) : kindL n ≤ 2 := by unfold kindL; split <;> omega

end Go.Proofs.YtaddfndohoppeaaGreat

/- code's reader: a term. -/
namespace Go.Proofs.YtaddfndohoppeaaGreat
open Go Go.RowKit Go.Proofs
set_option synthInstance.maxSize 1000

/-- an empty box for a term; a box that holds one -/
def ZB (W : World) (B : Nat) : Prop := W.cell? ⟨B, 0, none⟩ = some (.int .i64 0) ∧ W.cell? ⟨B, 1, none⟩ = some (.string ⟨#[]⟩) ∧ W.cell? ⟨B, 2, none⟩ = some (.string ⟨#[]⟩) ∧ W.frozen? ⟨B, 0, none⟩ = false ∧ W.frozen? ⟨B, 1, none⟩ = false ∧ W.frozen? ⟨B, 2, none⟩ = false
def XB (W : World) (B : Nat) (x : Tm) : Prop := W.cell? ⟨B, 0, none⟩ = some (.int .i64 x.1) ∧ W.cell? ⟨B, 1, none⟩ = some (.string ⟨x.2.1.toArray⟩) ∧ W.cell? ⟨B, 2, none⟩ = some (.string ⟨x.2.2.toArray⟩)
theorem But.far {g : Nat} {w w' : World} (h : But g w w') {B : Nat} (hB : B < w.heap.size) (hg : B ≠ g) : (∀ o, w'.cell? ⟨B, o, none⟩ = w.cell? ⟨B, o, none⟩) ∧ ∀ o, w'.frozen? ⟨B, o, none⟩ = w.frozen? ⟨B, o, none⟩ := by
  have e := h.block B hB (fun e => hg (by injection e))
  exact ⟨fun o => World.cell?_of_block (w := w) (w' := w') (a := ⟨B, o, none⟩) e, fun o => World.frozen?_of_block (w := w) (w' := w') (a := ⟨B, o, none⟩) e⟩
theorem ZB.but {W W' : World} {g B : Nat} (h : ZB W B) (k : But g W W') (hg : B ≠ g) : ZB W' B := by
  obtain ⟨c, f⟩ := k.far (World.block_lt_of_cell? W _ h.1) hg
  unfold ZB at h ⊢
  simp only [c, f]
  exact h
theorem ZB.below {W W' : World} {B : Nat} (h : ZB W B) (hb : RowKit.Below W.heap.size W W') : ZB W' B := by
  have hB : B < W.heap.size := World.block_lt_of_cell? W _ h.1
  exact h.but (g := B + 1) (But.of hb) (by omega)
theorem ZB.new (w : World) : ZB (w.alloc (.cells #[.int .i64 0, .string ⟨#[]⟩, .string ⟨#[]⟩] 56)) w.heap.size := by
  unfold ZB
  refine ⟨?_, ?_, ?_, ?_, ?_, ?_⟩ <;> go_simp
theorem XB.but {W W' : World} {g B : Nat} {x : Tm} (h : XB W B x) (k : But g W W') (hg : B ≠ g) : XB W' B x := by
  obtain ⟨c, _⟩ := k.far (World.block_lt_of_cell? W _ h.1) hg
  unfold XB at h ⊢
  simp only [c]
  exact h
theorem XB.below {W W' : World} {B : Nat} {x : Tm} (h : XB W B x) (hb : RowKit.Below W.heap.size W W') : XB W' B x :=
  h.but (g := B + 1) (But.of hb) (by omega)
theorem XB.new (w : World) (x : Tm) : XB (w.alloc (.cells #[.int .i64 x.1, .string ⟨x.2.1.toArray⟩, .string ⟨x.2.2.toArray⟩] 56)) w.heap.size x := by
  unfold XB
  refine ⟨?_, ?_, ?_⟩ <;> go_simp
theorem RdAt.far {w : World} {g B o : Nat} {s : St} {u : Value} (h : RdAt w g s) (hB : B ≠ g) : RdAt (w.setCell ⟨B, o, none⟩ u) g s := by
  have e := RowKit.Below.heap_setCell w ⟨B, o, none⟩ u g (fun e => hB e.symm)
  have c : ∀ j, (w.setCell ⟨B, o, none⟩ u).cell? ⟨g, j, none⟩ = w.cell? ⟨g, j, none⟩ := fun j => World.cell?_of_block (w := w) (a := ⟨g, j, none⟩) e
  have f : ∀ j, (w.setCell ⟨B, o, none⟩ u).frozen? ⟨g, j, none⟩ = w.frozen? ⟨g, j, none⟩ := fun j => World.frozen?_of_block (w := w) (a := ⟨g, j, none⟩) e
  unfold RdAt at h ⊢
  simp only [c, f]
  exact h
theorem But.fresh {w W : World} {g B o : Nat} {u : Value} (h : But g w W) (hB : w.heap.size ≤ B) : But g w (W.setCell ⟨B, o, none⟩ u) := by
  have q := (RowKit.Below.refl 0 W).setCell (p := ⟨B, o, none⟩) (Nat.zero_le _) u
  exact ⟨q.os.trans h.os, q.tape.trans h.tape, q.output.trans h.output, Nat.le_trans h.size q.size, fun k hk hne => (RowKit.Below.heap_setCell W ⟨B, o, none⟩ u k (by show k ≠ B; omega)).trans (h.block k hk hne)⟩

attribute [local go_sem] eql_errV neq_errV guard_errV

set_option maxHeartbeats 4000000 in
set_option maxRecDepth 100000 in
theorem rterm_any (g : Nat) (s : St) (w : World) (h : RdAt w g s) :
    Calls Tryz.prog 60 #[.pointer (some ⟨g, 0, none⟩)] w fun e w' => e = .returned (.agg #[.int .i64 (termS s).1.1, .string ⟨(termS s).1.2.1.toArray⟩, .string ⟨(termS s).1.2.2.toArray⟩]) ∧ RdAt w' g (termS s).2 ∧ But g w w' := by
  have HK := fun W hW => kind_any g s W hW
  have HL := fun W hW => take_any g (kindS s).2 (kindL (kindS s).1) W hW (by have := kindL_small (kindS s).1; omega)
  have HN := fun W hW => number_any g (langS s).2 1 W hW (by decide)
  have HT := fun W hW => take_any g (takeS 1 (langS s).2).2 (numL (takeS 1 (langS s).2).1) W hW (by have := numL_small (n := 1) (s := (langS s).2) (Nat.le_refl _); omega)
  have hS : (textS (langS s).2).1.length ≤ maxLen := by
    have h1 := takeS_len (numL (takeS 1 (langS s).2).1) (takeS 1 (langS s).2).2
    have h2 := numL_small (n := 1) (s := (langS s).2) (Nat.le_refl _)
    show (takeS _ _).1.length ≤ _
    unfold maxLen
    omega
  have hG : (langS s).1.length ≤ maxLen := by
    have h1 := takeS_len (kindL (kindS s).1) (kindS s).2
    have h2 := kindL_small (kindS s).1
    show (takeS _ _).1.length ≤ _
    unfold maxLen
    omega
  have HC := fun W => Check_any (kindK (kindS s).1) (textS (langS s).2).1 (langS s).1 W hS hG
  have e0 : (termS s).1 = (kindK (kindS s).1, (textS (langS s).2).1, (langS s).1) := rfl
  have e1 : (termS s).2 = if okTm (termS s).1 = 0 then (textS (langS s).2).2 else endS 2 (textS (langS s).2).2 := rfl
  have e2 : checkN (kindK (kindS s).1) (textS (langS s).2).1 (langS s).1 = okTm (termS s).1 := rfl
  rw [e2] at HC
  have f0 : Hid (okTm (termS s).1 = 0 → (termS s).2 = (textS (langS s).2).2) := fun e => by rw [e1, if_pos e]
  have f1 : Hid (¬ okTm (termS s).1 = 0 → (termS s).2 = endS 2 (textS (langS s).2).2) := fun e => by rw [e1, if_neg e]
  generalize okTm (termS s).1 = N at *
  generalize (termS s).2 = fin at *
  rw [e0]
  have e3 : takeS (kindL (kindS s).1) (kindS s).2 = langS s := rfl
  have e4 : takeS (numL (takeS 1 (langS s).2).1) (takeS 1 (langS s).2).2 = textS (langS s).2 := rfl
  rw [e3] at HL
  rw [e4] at HT
  clear e0 e1 e2 e3 e4 hS hG
  dsimp only
  generalize kindK (kindS s).1 = K at *
  generalize kindL (kindS s).1 = m at *
  generalize (kindS s).2 = s1 at *
  generalize (textS (langS s).2).1 = S at *
  generalize (textS (langS s).2).2 = s4 at *
  generalize numL (takeS 1 (langS s).2).1 = q at *
  generalize (takeS 1 (langS s).2).2 = s3 at *
  generalize (langS s).1 = L at *
  generalize (langS s).2 = s2 at *
  have Hr : Hid (RdAt w g s) := h
  clear h
  go_enter Tryz.func60, Tryz.ntmps60
  have hg0 : g < w.heap.size := Hr.out.lt
  go_wp2_with fail
  have hZ0 : Hid (ZB (w.alloc (.cells #[.int .i64 0, .string ⟨#[]⟩, .string ⟨#[]⟩] 56)) w.heap.size) := ZB.new _
  refine (HK _ (Hr.out.below (balloc _ _))).mono ?_
  rintro e w1 ⟨rfl, hr1, hk1⟩
  have hB1 : Hid (But g w w1) := (But.of (balloc _ _)).trans hk1
  have hZ1 : Hid (ZB w1 w.heap.size) := hZ0.out.but hk1 (by omega)
  clear hk1 hZ0 HK
  go_wp2_with fail
  refine (HL _ hr1).mono ?_
  rintro e w2 ⟨rfl, hr2, hk2⟩
  have hB2 : Hid (But g w w2) := hB1.out.trans hk2
  have hZ2 : Hid (ZB w2 w.heap.size) := hZ1.out.but hk2 (by omega)
  clear hk2 hZ1 HL hB1 hr1
  go_wp2_with fail
  refine (HN _ hr2).mono ?_
  rintro e w3 ⟨rfl, hr3, hk3⟩
  have hB3 : Hid (But g w w3) := hB2.out.trans hk3
  have hZ3 : Hid (ZB w3 w.heap.size) := hZ2.out.but hk3 (by omega)
  clear hk3 hZ2 HN hB2 hr2
  go_wp2_with fail
  refine (HT _ hr3).mono ?_
  rintro e w4 ⟨rfl, hr4, hk4⟩
  have hB4 : Hid (But g w w4) := hB3.out.trans hk4
  have hZ4 : Hid (ZB w4 w.heap.size) := hZ3.out.but hk4 (by omega)
  clear hk4 hZ3 HT hB3 hr3
  have hX5 : Hid (XB (w4.alloc (.cells #[.int .i64 K, .string ⟨S.toArray⟩, .string ⟨L.toArray⟩] 56)) w4.heap.size (K, S, L)) := XB.new w4 (K, S, L)
  have hg4 : Hid (g < w4.heap.size) := hr4.lt
  have hw4 : Hid (w.heap.size < w4.heap.size) := World.block_lt_of_cell? w4 _ hZ4.out.1
  go_wp2_with fail
  refine (HC _).mono ?_
  rintro e w5 ⟨rfl, hb5⟩
  have hb45 := bstep (balloc w4 (.cells #[.int .i64 K, .string ⟨S.toArray⟩, .string ⟨L.toArray⟩] 56)) hb5
  have hr5 : Hid (RdAt w5 g s4) := hr4.below hb45
  have hB5 : Hid (But g w w5) := hB4.out.trans (But.of hb45)
  have hZ5 : Hid (ZB w5 w.heap.size) := hZ4.out.below hb45
  have hX5 : Hid (XB w5 w4.heap.size (K, S, L)) := hX5.out.below hb5
  clear hb45 hb5 hZ4 hB4 hr4 HC
  by_cases hN : N = 0
  · subst hN
    have ef := f0.out rfl
    subst ef
    obtain ⟨x0, x1, x2⟩ := hX5.out
    obtain ⟨z0, z1, z2, q0, q1, q2⟩ := hZ5.out
    have hne : w.heap.size ≠ w4.heap.size := by have := hw4.out; omega
    clear f0 f1
    go_wp2_with fail
    exact bodyPost_ret (v := .agg #[.int .i64 K, .string ⟨S.toArray⟩, .string ⟨L.toArray⟩]) (by unfold results; rw [Tryz.results60]; go_simp) rfl ⟨rfl, ((hr5.out.far (by omega)).far (by omega)).far (by omega), ((hB5.out.fresh (Nat.le_refl _)).fresh (Nat.le_refl _)).fresh (Nat.le_refl _)⟩
  · have ef := f1.out hN
    subst ef
    have hN' : (N == 0) = false := by simpa using hN
    clear f0 f1
    go_wp2_with fail
    refine (end_any g s4 2 _ hr5.out).mono ?_
    rintro e w6 ⟨rfl, hr6, hk6⟩
    obtain ⟨x0, x1, x2⟩ := hX5.out.but hk6 (by have := hg4.out; omega)
    obtain ⟨z0, z1, z2, q0, q1, q2⟩ := hZ5.out.but hk6 (by omega)
    have hne : w.heap.size ≠ w4.heap.size := by have := hw4.out; omega
    go_wp2_with fail
    exact bodyPost_ret (v := .agg #[.int .i64 K, .string ⟨S.toArray⟩, .string ⟨L.toArray⟩]) (by unfold results; rw [Tryz.results60]; go_simp) rfl ⟨rfl, ((hr6.far (by omega)).far (by omega)).far (by omega), But.fresh (But.fresh (But.fresh (hB5.out.trans hk6) (Nat.le_refl _)) (Nat.le_refl _)) (Nat.le_refl _)⟩
end Go.Proofs.YtaddfndohoppeaaGreat

/- A map whose keys are triples: which triples are in it. -/
namespace Go.Proofs.YtaddfndohoppeaaGreat
open Go Go.RowKit Go.Proofs Go.Maps
set_option synthInstance.maxSize 1000

theorem laidOutP : laidOutB Tryz.prog = true := by kernel_rfl
theorem rowTr : (58 : TypeId) < Tryz.prog.types.size := of_decide_eq_true (by kernel_rfl)
theorem wideTr : (match Tryz.prog.underlying 58 with | some (.array _ _) | some (.struct _) => true | _ => false) = true := by kernel_rfl
set_option maxRecDepth 100000 in
theorem keyedTr : Keyed Tryz.prog 58 := Keyed.of_law (deep_law_laid laidOutP (m := 4) (by omega) rowTr (by kernel_rfl) wideTr)
theorem cellsOfTr : Tryz.prog.cellsOf 58 = 9 := by kernel_rfl
theorem cellsOfTm : Tryz.prog.cellsOf 56 = 3 := by kernel_rfl
theorem cellsOfInt : Tryz.prog.cellsOf 3 = 1 := by kernel_rfl
theorem cellsOfStr : Tryz.prog.cellsOf 9 = 1 := by kernel_rfl
theorem keyTypeTr : Tryz.prog.keyType 58 = true := by kernel_rfl

theorem keyLits_term (d : Nat) (k : Int) (S L : List UInt8) (hk : (Lit.int .i64 k).wf = true) (hS : S.length ≤ maxLen) (hL : L.length ≤ maxLen) :
    Tryz.prog.keyLits (d + 2) 56 [.int .i64 k, .string ⟨S.toArray⟩, .string ⟨L.toArray⟩] = some [.int .i64 k, .string S, .string L] := by
  have hS' : (⟨S.toArray⟩ : ByteArray).size ≤ maxLen := hS
  have hL' : (⟨L.toArray⟩ : ByteArray).size ≤ maxLen := hL
  have e1 : Tryz.prog.keyLits (d + 1) 3 [.int .i64 k] = some [.int .i64 k] := by
    unfold Program.keyLits; rw [Tryz.underlying3]; simp [hk]
  have e2 : ∀ s : List UInt8, (⟨s.toArray⟩ : ByteArray).size ≤ maxLen → Tryz.prog.keyLits (d + 1) 9 [.string ⟨s.toArray⟩] = some [.string s] := by
    intro s hs
    unfold Program.keyLits; rw [Tryz.underlying9]; simp [hs]
  unfold Program.keyLits
  simp only [Tryz.underlying56, cellsOfTm]
  simp [e1, e2 S hS', e2 L hL', cellsOfInt, cellsOfStr]

/-- what a triple reads as, as a map's key -/
def litsTr (x : Tr) : List Lit := [.int .i64 x.1.1, .string x.1.2.1, .string x.1.2.2, .int .i64 x.2.1.1, .string x.2.1.2.1, .string x.2.1.2.2, .int .i64 x.2.2.1, .string x.2.2.2.1, .string x.2.2.2.2]
def keyTr (x : Tr) : Lit := .string (keyBytes (litsTr x))

theorem keyLits_triple (d : Nat) (x : Tr) (h : chkTr x = 0) : Tryz.prog.keyLits (d + 3) 58 (encTr x) = some (litsTr x) := by
  obtain ⟨h1, h2, h3, _⟩ := chk_zero h
  have q : ∀ k S L, checkN k S L = 0 → (Lit.int .i64 k).wf = true ∧ S.length ≤ maxLen ∧ L.length ≤ maxLen := fun k S L hh => by
    obtain ⟨hk, hS, hsp⟩ := check_zero hh
    have := spell_lang hsp
    refine ⟨?_, by unfold maxLen; omega, by unfold maxLen; omega⟩
    rcases hk with rfl | rfl | rfl <;> decide
  obtain ⟨a1, a2, a3⟩ := q _ _ _ h1
  obtain ⟨b1, b2, b3⟩ := q _ _ _ h2
  obtain ⟨c1, c2, c3⟩ := q _ _ _ h3
  have e1 := keyLits_term d x.1.1 x.1.2.1 x.1.2.2 a1 a2 a3
  have e2 := keyLits_term d x.2.1.1 x.2.1.2.1 x.2.1.2.2 b1 b2 b3
  have e3 := keyLits_term d x.2.2.1 x.2.2.2.1 x.2.2.2.2 c1 c2 c3
  unfold Program.keyLits
  simp only [Tryz.underlying58, cellsOfTr, encTr]
  simp [e1, e2, e3, litsTr, cellsOfTm]

theorem keyOf_tr (x : Tr) (h : chkTr x = 0) : keyOf Tryz.prog 58 (valTr x) = some (keyTr x) := by
  have hl := keyLits_triple (Tryz.prog.types.size - 2) x h
  have hsz : Tryz.prog.types.size - 2 + 3 = Tryz.prog.types.size + 1 := by
    have : 2 ≤ Tryz.prog.types.size := of_decide_eq_true (by kernel_rfl)
    omega
  rw [hsz] at hl
  have hf : (valTr x).formed Tryz.prog 58 = true := by
    simp [Value.formed, Tryz.underlying58, cellsOfTr, valTr]
  unfold keyOf
  rw [Tryz.underlying58]
  simp only [keyTypeTr, hf, Bool.and_self, if_true]
  have hc : (valTr x).cells.toList = encTr x := rfl
  rw [hc, hl]
  rfl

theorem list_of_array {a b : List UInt8} (h : (⟨a.toArray⟩ : ByteArray) = ⟨b.toArray⟩) : a = b := by
  have := congrArg (fun s : ByteArray => s.data.toList) h
  simpa using this

theorem valTr_inj {x y : Tr} (h : valTr x = valTr y) : x = y := by
  obtain ⟨⟨a1, a2, a3⟩, ⟨b1, b2, b3⟩, ⟨c1, c2, c3⟩⟩ := x
  obtain ⟨⟨a1', a2', a3'⟩, ⟨b1', b2', b3'⟩, ⟨c1', c2', c3'⟩⟩ := y
  simp only [valTr, Value.agg.injEq, Array.mk.injEq, List.cons.injEq, Value.int.injEq, Value.string.injEq, true_and, and_true] at h
  obtain ⟨h1, h2, h3, h4, h5, h6, h7, h8, h9⟩ := h
  rw [h1, list_of_array h2, list_of_array h3, h4, list_of_array h5, list_of_array h6, h7, list_of_array h8, list_of_array h9]

theorem keyTr_ne {x y : Tr} (hx : chkTr x = 0) (hy : chkTr y = 0) (h : x ≠ y) : keyTr x ≠ keyTr y := fun e => by
  have h1 := keyOf_tr x hx
  have h2 := keyOf_tr y hy
  rw [e] at h1
  exact h (valTr_inj (keyedTr.inj h1 h2))

/-- the map at a block holds just these triples -/
def InMap (w : World) (b : Nat) (l : List Tr) : Prop :=
  ∃ D : DataW Unit, w.ownsMap Tryz.prog 58 unitElem b l.length D ∧ ∀ x, chkTr x = 0 → Maps.has D (keyTr x) = decide (x ∈ l)

theorem inMap_made (w : World) : InMap (w.alloc (.map #[] 0)) w.heap.size [] :=
  ⟨.map [], World.ownsMap_made _ _ _ _, fun x _ => by simp [Maps.has_eq]⟩

theorem InMap.below {w w' : World} {b : Nat} {l : List Tr} (h : InMap w b l) (hb : RowKit.Below w.heap.size w w') : InMap w' b l := by
  obtain ⟨D, ⟨es, clock, hm, r⟩, hD⟩ := h
  have hlt : b < w.heap.size := (Array.getElem?_eq_some_iff.1 hm).1
  exact ⟨D, ⟨es, clock, (hb.block b hlt).trans hm, r⟩, hD⟩

theorem has_put {D : DataW Unit} {l : List Tr} {y : Tr} (hm : IsMap D) (hy : chkTr y = 0) (hD : ∀ x, chkTr x = 0 → Maps.has D (keyTr x) = decide (x ∈ l)) (d : DataW Unit) :
    ∀ x, chkTr x = 0 → Maps.has (D.put (keyTr y) d) (keyTr x) = decide (x ∈ l ++ [y]) := fun x hx => by
  by_cases e : x = y
  · subst e
    rw [Maps.has_put_same hm (keyedTr.key (keyOf_tr x hx))]
    simp
  · rw [Maps.has_put_other (keyTr_ne hx hy e), hD x hx]
    simp [e]

theorem zeroUnit (w : World) : (zeroValue 208).run Tryz.prog w = .ok (.agg #[]) w := by kernel_rfl
end Go.Proofs.YtaddfndohoppeaaGreat

/- asker: a map of a list's triples, and the question whether one is in it. -/
namespace Go.Proofs.YtaddfndohoppeaaGreat
open Go Go.RowKit Go.Proofs Go.Maps
set_option synthInstance.maxSize 1000

/-- at a block lies the map of these triples -/
def AskOK (w : World) (bx : Nat) (l : List Tr) : Prop := ∃ bm, w.cell? ⟨bx, 0, none⟩ = some (.map (some bm)) ∧ InMap w bm l

theorem AskOK.below {w w' : World} {bx : Nat} {l : List Tr} (h : AskOK w bx l) (hb : RowKit.Below w.heap.size w w') : AskOK w' bx l := by
  obtain ⟨bm, hc, hm⟩ := h
  exact ⟨bm, (hb.cell (World.block_lt_of_cell? w _ hc)).trans hc, hm.below hb⟩

set_option maxHeartbeats 1000000 in
set_option maxRecDepth 100000 in
theorem ask_any (bx : Nat) (l : List Tr) (x : Tr) (w : World) (h : AskOK w bx l) (hx : chkTr x = 0) :
    Calls Tryz.prog 138 #[valTr x, .pointer (some ⟨bx, 0, none⟩)] w fun e w' => e = .returned (.bool (decide (x ∈ l))) ∧ RowKit.Below w.heap.size w w' := by
  obtain ⟨bm, hc, D, hown, hD⟩ := h
  have hkey := keyOf_tr x hx
  have hd : Hid (Maps.has D (keyTr x) = decide (x ∈ l)) := hD x hx
  have hbx : bx < w.heap.size := World.block_lt_of_cell? w _ hc
  clear hD
  unfold valTr at hkey ⊢
  go_enter Tryz.func138, Tryz.ntmps138
  go_wp2_with (first
    | (at_lookup; refine wpList_lookup_own_unit _ rfl _ _ 207 rfl 58 208 keyedTr Tryz.underlying207 (zeroUnit _) bm _ _ rfl (hown.alloc _) _ _ rfl hkey ?_))
  go_ret
  exact ⟨ret_bool hd.out, bstep (balloc _ _) (balloc _ _)⟩

theorem enters138 : ∀ args w, (callFunc 138 args).run Tryz.prog w = .ok (.enter 138 args) w := enters_of Tryz.func138 (by kernel_rfl) rfl

theorem makeMapHint (n : Int) (w : World) : (Instr.makeMap 207 (some (.int .i64 n))).run Tryz.prog w = .ok (.map (some w.heap.size)) (w.alloc (.map #[] 0)) := by kernel_rfl

set_option maxHeartbeats 2000000 in
set_option maxRecDepth 100000 in
theorem asker_any (ad : Option Addr) (cap : Nat) (l : List Tr) (w : World) (h : SlT w ad l) (hs : ∀ x ∈ l, chkTr x = 0) (h200 : l.length ≤ 200) :
    Calls Tryz.prog 94 #[.slice ad l.length cap] w fun e w' => ∃ bx, e = .returned (.func (.func 138) #[] #[.pointer (some ⟨bx, 0, none⟩)]) ∧ AskOK w' bx l ∧ RowKit.Below w.heap.size w w' := by
  have hmm := makeMapHint
  have Hl : Hid (SlT w ad l) := h
  have Hs : Hid (∀ x ∈ l, chkTr x = 0) := hs
  clear h hs
  go_enter Tryz.func94, Tryz.ntmps94
  go_wp2_with fail
  go_loopw [11] (fun i wr => ∃ k : Nat, k ≤ l.length ∧ i = .int .i64 k ∧ Hid (InMap wr w.heap.size (l.take k)) ∧ wr.cell? ⟨w.heap.size + 1, 0, none⟩ = some (.map (some w.heap.size)) ∧ RowKit.Below w.heap.size w wr) (fun i wr => l.length - (intOf i).toNat)
  case atStart =>
    refine ⟨0, Nat.zero_le _, rfl, ?_, by go_simp, ?_⟩
    · show InMap _ _ _
      rw [List.take_zero]
      exact (inMap_made w).below (balloc _ _)
    · exact bstep (balloc _ _) (balloc _ _)
  case round =>
    obtain ⟨k, hk, rfl, hin, hcb, hbr⟩ := hrel
    by_cases hlt : k < l.length
    · obtain ⟨b, o, rfl, hr⟩ := (Hl.out.below hbr).at k hlt
      obtain ⟨c0, c1, c2, c3, c4, c5, c6, c7, c8⟩ := hr.at k hlt
      have i0 : (0 : Int) ≤ (k : Int) := by omega
      have i1 : (k : Int) < (l.length : Int) := by omega
      obtain ⟨D, hown0, hD0⟩ := hin.out
      have hlen : (l.take k).length = k := by simp; omega
      rw [hlen] at hown0
      have hown : Hid (wr.ownsMap Tryz.prog 58 unitElem w.heap.size k D) := hown0
      have hy : Hid (chkTr l[k] = 0) := Hs.out _ (List.getElem_mem hlt)
      have hput : Hid (∀ x, chkTr x = 0 → Maps.has (D.put (keyTr l[k]) (.agg [])) (keyTr x) = decide (x ∈ l.take (k + 1))) := by
        have := has_put hown0.isMap hy.out hD0 (.agg [])
        rw [List.take_succ_eq_append_getElem hlt]
        exact this
      have hkey := keyOf_tr l[k] hy.out
      have hzr := hbr.size
      have hb1 : w.heap.size + 1 < wr.heap.size := World.block_lt_of_cell? wr _ hcb
      clear hr hown0 hD0 hin
      have hlen2 : Hid ((l.take (k + 1)).length = k + 1) := by show _ = _; simp; omega
      generalize l[k] = y at *
      unfold valTr at hkey
      go_wp2_with (first
        | (at_mapUpdate; refine wpList_mapUpdate_own _ rfl _ _ _ 207 rfl 58 208 keyedTr Tryz.underlying207 (unitElem (H := Unit)) w.heap.size k _ rfl (hown.out.alloc _) (by unfold maxLen; omega) _ _ _ rfl rfl hkey _ [] unitElem_mk ?_; intro w1 hown1 hgrow1))
      go_roundw
      case rel =>
        refine ⟨k + 1, by omega, by go_num, ⟨_, by rw [hlen2.out]; exact hown1, hput.out⟩, ?_, ?_⟩
        · have q := hgrow1.block (w.heap.size + 1) (by simp; omega) (by simp)
          have := (balloc wr (.cells (encTr y).toArray 58)).cell (p := ⟨w.heap.size + 1, 0, none⟩) hb1
          rw [hcb] at this
          simp only [World.cell?] at this ⊢
          rw [q]
          exact this
        · exact (hbr.alloc hzr _).grown hgrow1 (by simp; omega) (fun j hj => by cases hj; exact Nat.le_refl _)
      case measure => simp [intOf]; omega
    · obtain rfl : k = l.length := by omega
      go_wp2_with fail
      go_ret
      refine ⟨w.heap.size + 1, rfl, ⟨w.heap.size, hcb, ?_⟩, hbr⟩
      have := hin.out
      rwa [List.take_length] at this
end Go.Proofs.YtaddfndohoppeaaGreat

/- keep: those of a list that are wanted; the questions of Join and Less. -/
namespace Go.Proofs.YtaddfndohoppeaaGreat
open Go Go.RowKit Go.Proofs Go.Maps
set_option synthInstance.maxSize 1000

/-- at a block lies the question whether a triple is among these -/
def NotOK (w : World) (by1 : Nat) (l : List Tr) : Prop := ∃ bx, w.cell? ⟨by1, 0, none⟩ = some (.func (.func 138) #[] #[.pointer (some ⟨bx, 0, none⟩)]) ∧ AskOK w bx l

theorem NotOK.below {w w' : World} {bx : Nat} {l : List Tr} (h : NotOK w bx l) (hb : RowKit.Below w.heap.size w w') : NotOK w' bx l := by
  obtain ⟨bm, hc, hm⟩ := h
  exact ⟨bm, (hb.cell (World.block_lt_of_cell? w _ hc)).trans hc, hm.below hb⟩

set_option maxHeartbeats 1000000 in
set_option maxRecDepth 100000 in
theorem notJoin_any (by1 : Nat) (l : List Tr) (x : Tr) (w : World) (h : NotOK w by1 l) (hx : chkTr x = 0) :
    Calls Tryz.prog 96 #[valTr x, .pointer (some ⟨by1, 0, none⟩)] w fun e w' => e = .returned (.bool (!decide (x ∈ l))) ∧ RowKit.Below w.heap.size w w' := by
  obtain ⟨bx, hc, ha⟩ := h
  have H := fun W (hW : AskOK W bx l) => ask_any bx l x W hW hx
  have Ha : Hid (AskOK w bx l) := ha
  have hbx : by1 < w.heap.size := World.block_lt_of_cell? w _ hc
  have eg := enters138
  generalize decide (x ∈ l) = d at H ⊢
  clear ha hx
  unfold valTr at H ⊢
  go_enter Tryz.func96, Tryz.ntmps96
  go_wp2_with fail
  go_at_fn 138
  refine (H _ (Ha.out.below (balloc _ _))).mono ?_
  rintro e w1 ⟨rfl, hb1⟩
  go_wp2_with fail
  go_ret
  exact ⟨rfl, bstep (balloc _ _) hb1⟩

theorem enters96 : ∀ args w, (callFunc 96 args).run Tryz.prog w = .ok (.enter 96 args) w := enters_of Tryz.func96 (by kernel_rfl) rfl
set_option maxHeartbeats 1000000 in
set_option maxRecDepth 100000 in
theorem notLess_any (by1 : Nat) (l : List Tr) (x : Tr) (w : World) (h : NotOK w by1 l) (hx : chkTr x = 0) :
    Calls Tryz.prog 95 #[valTr x, .pointer (some ⟨by1, 0, none⟩)] w fun e w' => e = .returned (.bool (!decide (x ∈ l))) ∧ RowKit.Below w.heap.size w w' := by
  obtain ⟨bx, hc, ha⟩ := h
  have H := fun W (hW : AskOK W bx l) => ask_any bx l x W hW hx
  have Ha : Hid (AskOK w bx l) := ha
  have hbx : by1 < w.heap.size := World.block_lt_of_cell? w _ hc
  have eg := enters138
  generalize decide (x ∈ l) = d at H ⊢
  clear ha hx
  unfold valTr at H ⊢
  go_enter Tryz.func95, Tryz.ntmps95
  go_wp2_with fail
  go_at_fn 138
  refine (H _ (Ha.out.below (balloc _ _))).mono ?_
  rintro e w1 ⟨rfl, hb1⟩
  go_wp2_with fail
  go_ret
  exact ⟨rfl, bstep (balloc _ _) hb1⟩

theorem enters95 : ∀ args w, (callFunc 95 args).run Tryz.prog w = .ok (.enter 95 args) w := enters_of Tryz.func95 (by kernel_rfl) rfl

theorem filter_step (l : List Tr) (p : Tr → Bool) (k : Nat) (h : k < l.length) : (l.take (k + 1)).filter p = (l.take k).filter p ++ (if p l[k] then [l[k]] else []) := by
  rw [List.take_succ_eq_append_getElem h, List.filter_append]
  cases hp : p l[k] <;> simp [hp]

set_option maxHeartbeats 4000000 in
set_option maxRecDepth 100000 in
theorem keep_any (ad : Option Addr) (cap g bl : Nat) (l : List Tr) (p : Tr → Bool) (w : World) (h : SlT w ad l) (h200 : l.length ≤ 200)
    (eg : ∀ args w, (callFunc g args).run Tryz.prog w = .ok (.enter g args) w)
    (hf : ∀ x ∈ l, ∀ W : World, RowKit.Below w.heap.size w W → Calls Tryz.prog g #[valTr x, .pointer (some ⟨bl, 0, none⟩)] W fun e w' => e = .returned (.bool (p x)) ∧ RowKit.Below W.heap.size W w') :
    Calls Tryz.prog 93 #[.slice ad l.length cap, .func (.func g) #[] #[.pointer (some ⟨bl, 0, none⟩)]] w fun e w' => ∃ ad' cap', e = .returned (.slice ad' (l.filter p).length cap') ∧ SlT w' ad' (l.filter p) ∧ RowKit.Below w.heap.size w w' := by
  have Hl : Hid (SlT w ad l) := h
  have Hf : Hid (∀ x ∈ l, ∀ W : World, RowKit.Below w.heap.size w W → Calls Tryz.prog g #[valTr x, .pointer (some ⟨bl, 0, none⟩)] W fun e w' => e = .returned (.bool (p x)) ∧ RowKit.Below W.heap.size W w') := hf
  clear h hf
  obtain ⟨i0, hi, hz⟩ := Option.map_eq_some_iff.1 infoTr
  simp only [Prod.mk.injEq] at hz
  obtain ⟨hz0, hz1, hz2⟩ := hz
  go_enter Tryz.func93, Tryz.ntmps93
  go_wp2_with fail
  go_loopw [5, 10] (fun v i wr => ∃ k : Nat, k ≤ l.length ∧ i = .int .i64 k ∧ Hid (wr.ownsRow w.heap.size 58 9 v ((l.take k).filter p).length (cellsT ((l.take k).filter p))) ∧ RowKit.Below w.heap.size w wr) (fun _ i wr => l.length - (intOf i).toNat)
  case atStart => exact ⟨0, Nat.zero_le _, rfl, by show World.ownsRow _ _ _ _ _ _ _; rw [List.take_zero]; exact World.ownsRow_nil _ _ _ _, RowKit.Below.refl _ _⟩
  case round =>
    obtain ⟨k, hk, rfl, hown, hbr⟩ := hrel
    by_cases hlt : k < l.length
    · obtain ⟨b, o, rfl, hr⟩ := (Hl.out.below hbr).at k hlt
      obtain ⟨c0, c1, c2, c3, c4, c5, c6, c7, c8⟩ := hr.at k hlt
      have i0' : (0 : Int) ≤ (k : Int) := by omega
      have i1 : (k : Int) < (l.length : Int) := by omega
      have hstep : Hid _ := filter_step l p k hlt
      have hfil : ((l.take k).filter p).length ≤ k := Nat.le_trans (List.length_filter_le _ _) (by simp; omega)
      have H := Hf.out l[k] (List.getElem_mem hlt)
      have hzr := hbr.size
      generalize ht : (l.take (k + 1)).filter p = t1 at hstep
      have Ht : Hid _ := ht
      generalize (l.take k).filter p = t0 at *
      generalize l[k] = y at *
      clear hr ht
      cases hp : p y
      · rw [hp] at H
        have hs2 : Hid (t1 = t0) := by have := hstep.out; rw [hp] at this; simpa [Hid] using this
        unfold valTr at H
        go_wp2_with fail
        go_at_fn g
        refine (H _ (bstep hbr (balloc _ _))).mono ?_
        rintro e w1 ⟨rfl, hb1⟩
        go_wp2_with fail
        go_roundw
        case rel =>
          refine ⟨k + 1, by omega, by go_num, ?_, bstep (bstep hbr (balloc _ _)) hb1⟩
          show World.ownsRow _ _ _ _ _ _ _
          rw [Ht.out, hs2.out]
          exact ownsRow_below (hown.out.alloc _) hb1
        case measure => simp [intOf]; omega
      · rw [hp] at H
        have hs2 : Hid (t1 = t0 ++ [y]) := by have := hstep.out; rw [hp] at this; simpa [Hid] using this
        unfold valTr at H
        go_wp2_with fail
        go_at_fn g
        refine (H _ (bstep hbr (balloc _ _))).mono ?_
        rintro e w1 ⟨rfl, hb1⟩
        have hrow1 : Hid (w1.ownsRow w.heap.size 58 9 _ t0.length (cellsT t0)) := ownsRow_below (hown.out.alloc _) hb1
        have hB1 := bstep (bstep hbr (balloc _ _)) hb1
        have hz1' := hB1.size
        obtain ⟨a0, a1, a2, b0, b1, b2, d0, d1, d2, hzz⟩ := ninebox hb1
        clear c0 c1 c2 c3 c4 c5 c6 c7 c8 hown
        go_wp2_with (at_builtin; refine wpList_append_own _ rfl _ _ 33 rfl w.heap.size 58 i0 (.agg (encTr zeroTr).toArray) 9 120 Tryz.underlying33 hi hz0 hz1 hz2 rfl (by decide) _ _ _ rfl (hrow1.out.alloc _) ⟨w1.heap.size, 0, none⟩ 1 1 (encTr y) rfl rfl ?c1 ?c2 ?c3 ?c4 ?c5 ?_)
        case c1 =>
          intro i u hi'
          have h9 : i < 9 := (List.getElem?_eq_some_iff.1 hi').1
          rw [Addr.add_lit]
          rcases (by omega : i = 0 ∨ i = 1 ∨ i = 2 ∨ i = 3 ∨ i = 4 ∨ i = 5 ∨ i = 6 ∨ i = 7 ∨ i = 8) with rfl | rfl | rfl | rfl | rfl | rfl | rfl | rfl | rfl
          all_goals
            simp [encTr] at hi'
            subst hi'
            go_simp
        case c2 => exact encTr_one y
        case c3 => unfold maxLen; omega
        case c4 => omega
        case c5 => simp; omega
        intro v' w9 hown' hgrow _
        have hbel := (hB1.alloc hz1' (.cells (encTr y).toArray 58)).grown hgrow (by simp; omega) (fun k hk => (hrow1.out.lt k hk).1)
        go_wp2_with fail
        go_roundw
        case rel =>
          refine ⟨k + 1, by omega, by go_num, ?_, hbel⟩
          show World.ownsRow _ _ _ _ _ _ _
          rw [Ht.out, hs2.out]
          simpa [cellsT] using hown'
        case measure => simp [intOf]; omega
    · obtain rfl : k = l.length := by omega
      have hown' := hown.out
      rw [List.take_length] at hown'
      obtain ⟨ad', cap', rfl, hsl⟩ := own_slT hown'
      clear hown' hown
      go_wp2_with fail
      go_ret
      exact ⟨ad', cap', rfl, hsl, hbr⟩
end Go.Proofs.YtaddfndohoppeaaGreat

/- code's reader: a set. -/
namespace Go.Proofs.YtaddfndohoppeaaGreat
open Go Go.RowKit Go.Proofs
set_option synthInstance.maxSize 1000

theorem loopS_step {n : Nat} {s : St} (h : s.1 = 0) : loopS (n + 1) s = ((tripS s).1 :: (loopS n (tripS s).2).1, (loopS n (tripS s).2).2) := if_pos h

/-- what is left of a loop -/
def LeftS (n : Nat) (R : List Tr × St) (t : List Tr) (s : St) : Prop := t.length ≤ n ∧ R = (t ++ (loopS (n - t.length) s).1, (loopS (n - t.length) s).2)
theorem LeftS.start (n : Nat) (s : St) : LeftS n (loopS n s) [] s := ⟨Nat.zero_le _, by simp⟩
theorem LeftS.step {n : Nat} {R : List Tr × St} {t : List Tr} {s : St} (h : LeftS n R t s) (h0 : s.1 = 0) (hl : t.length < n) : LeftS n R (t ++ [(tripS s).1]) (tripS s).2 := by
  refine ⟨by simp; omega, ?_⟩
  obtain ⟨_, e⟩ := h
  have e1 : n - t.length = (n - (t ++ [(tripS s).1]).length) + 1 := by simp; omega
  rw [e1, loopS_step h0] at e
  rw [e]
  simp
theorem LeftS.stop {n : Nat} {R : List Tr × St} {t : List Tr} {s : St} (h : LeftS n R t s) (hs : ¬ s.1 = 0 ∨ t.length = n) : R = (t, s) := by
  obtain ⟨_, e⟩ := h
  rcases hs with h0 | h0
  · rw [loopS_keep h0] at e
    simpa using e
  · rw [h0, Nat.sub_self] at e
    simpa [loopS] using e

theorem own_but {g : Nat} {w w' : World} {B : Nat} {v : Value} {t : List Tr} (h : w.ownsRow B 58 9 v t.length (cellsT t)) (k : But g w w') (hg : g < B) : w'.ownsRow B 58 9 v t.length (cellsT t) :=
  h.kept k (by
    cases hv : v.ownBlock with
    | none => exact Or.inl rfl
    | some q =>
      refine Or.inr (fun e => ?_)
      have := (h.lt q hv).1
      injection e with e
      omega)

theorem RdAt.grown {w w' : World} {g : Nat} {s : St} {row : Option Nat} (h : RdAt w g s) (k : w.grownBy w' row) (hg : some g ≠ row) : RdAt w' g s := by
  have hl := h.lt
  have c : ∀ j, w'.cell? ⟨g, j, none⟩ = w.cell? ⟨g, j, none⟩ := fun j => k.cell_far ⟨g, j, none⟩ hl hg
  have f : ∀ j, w'.frozen? ⟨g, j, none⟩ = w.frozen? ⟨g, j, none⟩ := fun j => k.frozen_far ⟨g, j, none⟩ hl hg
  unfold RdAt at h ⊢
  simp only [c, f]
  exact h

/-- a list that stays when the reader goes on -/
def Far (g : Nat) (w : World) (ad : Option Addr) (l : List Tr) : Prop := ∀ w', But g w w' → SlT w' ad l
theorem Far.sl {g : Nat} {w : World} {ad : Option Addr} {l : List Tr} (h : Far g w ad l) : SlT w ad l := h w (World.grownBy.refl _ _)
theorem Far.but {g : Nat} {w w' : World} {ad : Option Addr} {l : List Tr} (h : Far g w ad l) (k : But g w w') : Far g w' ad l := fun w2 k2 => h w2 (k.trans k2)
theorem Far.nil (g : Nat) (w : World) (ad : Option Addr) : Far g w ad [] := fun _ _ h => absurd rfl h
theorem Far.own {g : Nat} {w : World} {B : Nat} {ad : Option Addr} {c : Nat} {t : List Tr} (h : w.ownsRow B 58 9 (.slice ad t.length c) t.length (cellsT t)) (hg : g < B) : Far g w ad t := fun w' k => by
  obtain ⟨ad', c', e, hs⟩ := own_slT (own_but h k hg)
  injection e with e1 _ _
  rw [e1]
  exact hs

/-- what is answered of a list that is read -/
def RSetAns (g : Nat) (w : World) (R : List Tr × St) (e : Ending) (w' : World) : Prop := ∃ ad c, e = .returned (.slice ad R.1.length c) ∧ Far g w' ad R.1 ∧ RdAt w' g R.2 ∧ But g w w'
theorem RSetAns.mk {g : Nat} {w : World} {l : List Tr} {s : St} {w' : World} (ad : Option Addr) (c : Nat) (h1 : Far g w' ad l) (h2 : RdAt w' g s) (h3 : But g w w') : RSetAns g w (l, s) (.returned (.slice ad l.length c)) w' := ⟨ad, c, rfl, h1, h2, h3⟩
def sliceLen : Value → Nat
  | .slice _ n _ => n
  | _ => 0

set_option maxHeartbeats 8000000 in
set_option maxRecDepth 100000 in
theorem rset_any (g : Nat) (s : St) (w : World) (h : RdAt w g s) :
    Calls Tryz.prog 29 #[.pointer (some ⟨g, 0, none⟩)] w (RSetAns g w (setS s)) := by
  have HN := number_any g s 2 w h (by decide)
  have hg0 : g < w.heap.size := h.lt
  have hz : setS s = loopS (numL (takeS 2 s).1) (if 200 < numL (takeS 2 s).1 then endS 2 (takeS 2 s).2 else (takeS 2 s).2) := rfl
  have hsm : numL (takeS 2 s).1 < 65536 := by
    have hl := takeS_len 2 s
    match (takeS 2 s).1, hl with
    | [], _ => decide
    | [c], _ =>
      have := c.toNat_lt
      rw [numL_one]
      omega
    | [c, d], _ =>
      have := c.toNat_lt
      have := d.toNat_lt
      rw [numL_two]
      omega
  generalize setS s = R at *
  generalize numL (takeS 2 s).1 = n at *
  generalize (takeS 2 s).2 = s1 at *
  obtain ⟨i0, hi, hzz⟩ := Option.map_eq_some_iff.1 infoTr
  simp only [Prod.mk.injEq] at hzz
  obtain ⟨hz0, hz1, hz2⟩ := hzz
  have Hz : Hid (R = loopS n (if 200 < n then endS 2 s1 else s1)) := hz
  clear h hz
  go_enter Tryz.func29, Tryz.ntmps29
  go_wp2_with fail
  refine HN.mono ?_
  rintro e w1 ⟨rfl, hr1, hk1⟩
  clear HN
  by_cases hbig : 200 < n
  · have hz := Hz.out
    rw [if_pos hbig] at hz
    clear Hz
    have hne : ¬ (endS 2 s1).1 = 0 := endS_zero (by decide)
    rw [loopS_keep hne] at hz
    subst hz
    have hne' : ((endS 2 s1).1 == 0) = false := by simpa using hne
    go_wp2_with fail
    refine (end_any g s1 2 w1 hr1).mono ?_
    rintro e w2 ⟨rfl, hr2, hk2⟩
    have hB2 : Hid (But g w w2) := hk1.trans hk2
    have Hr2 : Hid (RdAt w2 g (endS 2 s1)) := hr2
    obtain ⟨c0, _, _, _⟩ := hr2
    generalize endS 2 s1 = s2 at *
    go_wp2_with fail
    go_loopw [4] (fun v wr => v = .slice none 0 0 ∧ wr = w2) (fun _ _ => 0)
    case atStart => exact ⟨rfl, rfl⟩
    case round =>
      obtain ⟨rfl, rfl⟩ := hrel
      have n0 : (0 : Int) < (n : Int) := by omega
      go_wp2_with fail
      exact bodyPost_ret (v := .slice none 0 0) (by simp [results, Tryz.results29, go_sem]) rfl (RSetAns.mk (l := []) none 0 (Far.nil _ _ _) Hr2.out hB2.out)
  · have hz := Hz.out
    rw [if_neg hbig] at hz
    clear Hz
    have hL0 : Hid (LeftS n R [] s1) := by show LeftS n R [] s1; rw [hz]; exact LeftS.start n s1
    clear hz
    go_wp2_with fail
    go_loopw [4] (fun v wr => ∃ (t : List Tr) (s2 : St), t.length ≤ n ∧ Hid (LeftS n R t s2) ∧ Hid (wr.ownsRow w.heap.size 58 9 v t.length (cellsT t)) ∧ RdAt wr g s2 ∧ Hid (But g w wr)) (fun v _ => n - sliceLen v)
    case atStart => exact ⟨[], s1, Nat.zero_le _, hL0, World.ownsRow_nil _ _ _ _, hr1, hk1⟩
    case round =>
      obtain ⟨t, s2, htn, hLe, hown, hr2, hB2⟩ := hrel
      obtain ⟨ad, cap, rfl, _⟩ := own_slT hown.out
      by_cases hlt : t.length < n
      · have i1 : (t.length : Int) < (n : Int) := by omega
        have hg2 := hr2.lt
        by_cases h0 : s2.1 = 0
        · have HT1 := fun W hW => rterm_any g s2 W hW
          have HT2 := fun W hW => rterm_any g (termS s2).2 W hW
          have HT3 := fun W hW => rterm_any g (termS (termS s2).2).2 W hW
          have hLe' : Hid (LeftS n R (t ++ [(tripS s2).1]) (tripS s2).2) := hLe.out.step h0 hlt
          have ey : Hid ((tripS s2).1 = ((termS s2).1, (termS (termS s2).2).1, (termS (termS (termS s2).2).2).1)) := rfl
          have es : Hid ((tripS s2).2 = (termS (termS (termS s2).2).2).2) := rfl
          have Hr2 : Hid (RdAt wr g s2) := hr2
          obtain ⟨c0, _, _, _⟩ := hr2
          rw [h0] at c0
          generalize hy1 : (termS s2).1 = y1 at *
          generalize hy2 : (termS (termS s2).2).1 = y2 at *
          generalize hy3 : (termS (termS (termS s2).2).2).1 = y3 at *
          generalize hq3 : (termS (termS (termS s2).2).2).2 = q3 at *
          generalize hq2 : (termS (termS s2).2).2 = q2 at *
          generalize hq1 : (termS s2).2 = q1 at *
          clear hy1 hy2 hy3 hq1 hq2 hq3 hLe hL0 hr1 hk1
          go_wp2_with fail
          refine (HT1 _ Hr2.out).mono ?_
          rintro e w2 ⟨rfl, hr3, hk2⟩
          go_wp2_with fail
          refine (HT2 _ hr3).mono ?_
          rintro e w3 ⟨rfl, hr4, hk3⟩
          go_wp2_with fail
          refine (HT3 _ hr4).mono ?_
          rintro e w4 ⟨rfl, hr5, hk4⟩
          have hB4 : Hid (But g w w4) := hB2.out.trans ((hk2.trans hk3).trans hk4)
          have ho4 : Hid (w4.ownsRow w.heap.size 58 9 (.slice ad t.length cap) t.length (cellsT t)) := own_but (own_but (own_but hown.out hk2 hg0) hk3 hg0) hk4 hg0
          have hr5' : Hid (RdAt w4 g q3) := hr5
          clear hk2 hk3 hk4 hr3 hr4 hr5 hown HT1 HT2 HT3
          go_wp2_with (at_builtin; refine wpList_append_own _ rfl _ _ 33 rfl w.heap.size 58 i0 (.agg (encTr zeroTr).toArray) 9 120 Tryz.underlying33 hi hz0 hz1 hz2 rfl (by decide) _ _ _ rfl (ho4.out.alloc _) ⟨w4.heap.size, 0, none⟩ 1 1 (encTr (y1, y2, y3)) rfl rfl ?c1 (encTr_one _) (by unfold maxLen; omega) (by omega) (by have := hB4.out.size; simp; omega) ?_)
          case c1 => exact World.news_of_block (cs := (encTr (y1, y2, y3)).toArray) (t := 58) (fr := (0, 0)) (heap_alloc_new w4 _)
          intro v5 w5 ho5 hg5 _
          have hB5 : Hid (But g w w5) := (hB4.out.trans (World.grownBy_alloc w4 _ (some g))).andThen hg5 (fun j hj => Or.inl (ho4.out.lt j hj).1)
          have hr6 : Hid (RdAt w5 g q3) := (hr5'.out.below (balloc _ _)).grown hg5 (fun e => by have := (ho4.out.lt g e.symm).1; omega)
          obtain ⟨ad5, cap5, rfl, _⟩ := own_slT (t := t ++ [(y1, y2, y3)]) (by rw [List.length_append]; simpa [cellsT] using ho5)
          have ho6 : Hid (w5.ownsRow w.heap.size 58 9 (.slice ad5 (t ++ [(y1, y2, y3)]).length cap5) (t ++ [(y1, y2, y3)]).length (cellsT (t ++ [(y1, y2, y3)]))) := by show World.ownsRow _ _ _ _ _ _ _; rw [show (t ++ [(y1, y2, y3)]).length = t.length + 1 by simp] at *; simpa [cellsT] using ho5
          clear ho5 hg5
          go_wp2_with fail
          go_roundw
          case rel =>
            refine ⟨t ++ [(y1, y2, y3)], q3, by simp; omega, ?_, ho6, hr6.out, hB5⟩
            rw [ey.out, es.out] at hLe'
            exact hLe'
          case measure => simp [sliceLen]; omega
        · have h0' : (s2.1 == 0) = false := by simpa using h0
          have hR : R = (t, s2) := hLe.out.stop (Or.inl h0)
          subst hR
          have Hr2 : Hid (RdAt wr g s2) := hr2
          have Hsl : Hid (Far g wr ad t) := Far.own hown.out hg0
          obtain ⟨c0, _, _, _⟩ := hr2
          clear hLe hL0 hr1 hk1 hown
          go_wp2_with fail
          exact bodyPost_ret (v := .slice ad t.length cap) (by simp [results, Tryz.results29, go_sem]) rfl (RSetAns.mk ad cap Hsl.out Hr2.out hB2.out)
      · have hR : R = (t, s2) := hLe.out.stop (Or.inr (by omega))
        subst hR
        have Hr2 : Hid (RdAt wr g s2) := hr2
        have Hsl : Hid (Far g wr ad t) := Far.own hown.out hg0
        have i1 : ¬ (t.length : Int) < (n : Int) := by omega
        clear hLe hL0 hr1 hk1 hown hr2
        go_wp2_with fail
        exact bodyPost_ret (v := .slice ad t.length cap) (by simp [results, Tryz.results29, go_sem]) rfl (RSetAns.mk ad cap Hsl.out Hr2.out hB2.out)
end Go.Proofs.YtaddfndohoppeaaGreat

/- code.ReadSet. -/
namespace Go.Proofs.YtaddfndohoppeaaGreat
open Go Go.RowKit Go.Proofs
set_option synthInstance.maxSize 1000

attribute [local go_sem] eql_errV neq_errV guard_errV

theorem fit_term (s : St) : (termS s).1.2.1.length ≤ maxLen ∧ (termS s).1.2.2.length ≤ maxLen := by
  have h1 := takeS_len (numL (takeS 1 (langS s).2).1) (takeS 1 (langS s).2).2
  have h2 := numL_small (n := 1) (s := (langS s).2) (Nat.le_refl _)
  have h3 := takeS_len (kindL (kindS s).1) (kindS s).2
  have h4 := kindL_small (kindS s).1
  have e1 : (termS s).1.2.1 = (takeS (numL (takeS 1 (langS s).2).1) (takeS 1 (langS s).2).2).1 := rfl
  have e2 : (termS s).1.2.2 = (takeS (kindL (kindS s).1) (kindS s).2).1 := rfl
  rw [e1, e2]
  unfold maxLen
  omega
theorem fit_loop (n : Nat) (s : St) : ∀ x ∈ (loopS n s).1, fitTr x := by
  induction n generalizing s with
  | zero => simp [loopS]
  | succ n ih =>
    by_cases h0 : s.1 = 0
    · rw [loopS_step h0]
      intro x hx
      rcases List.mem_cons.1 hx with rfl | hx
      · exact ⟨fit_term _, fit_term _, fit_term _⟩
      · exact ih _ x hx
    · rw [loopS_keep h0]
      simp
theorem len_loop (n : Nat) (s : St) : (loopS n s).1.length ≤ n := by
  induction n generalizing s with
  | zero => simp [loopS]
  | succ n ih =>
    by_cases h0 : s.1 = 0
    · rw [loopS_step h0]
      have := ih (tripS s).2
      simp
      omega
    · rw [loopS_keep h0]
      simp
theorem numL_two_small (s : St) : numL (takeS 2 s).1 < 65536 := by
  have hl := takeS_len 2 s
  match (takeS 2 s).1, hl with
  | [], _ => decide
  | [c], _ =>
    have := c.toNat_lt
    rw [numL_one]
    omega
  | [c, d], _ =>
    have := c.toNat_lt
    have := d.toNat_lt
    rw [numL_two]
    omega
theorem fit_set (s : St) : ∀ x ∈ (setS s).1, fitTr x := fit_loop _ _
theorem len_set (s : St) : (setS s).1.length ≤ 9223372036854775807 := by
  have h1 := len_loop (sizeS s).1 (sizeS s).2
  have h2 := numL_two_small s
  have e : (sizeS s).1 = numL (takeS 2 s).1 := rfl
  show (loopS _ _).1.length ≤ _
  omega

/-- what is answered of bytes that are read as a list -/
def RSAns (N : Int) (l : List Tr) (w : World) (e : Ending) (w' : World) : Prop := RowKit.Below w.heap.size w w' ∧ ∃ ad c, e = .returned (.tuple #[.slice ad l.length c, errV N]) ∧ SlT w' ad l
theorem RSAns.mk {N : Int} {l : List Tr} {w w' : World} (hb : RowKit.Below w.heap.size w w') (ad : Option Addr) (c : Nat) (h : SlT w' ad l) : RSAns N l w (.returned (.tuple #[.slice ad l.length c, errV N])) w' := ⟨hb, ad, c, rfl, h⟩

theorem errV_ne {n : Int} (h : n ≠ 0) : errV n = .iface 82 (.int .i64 n) := if_neg h
theorem wholeN_all {s : St} (h : s.2 = []) : wholeN 0 s = s.1 := if_pos ⟨rfl, h⟩
theorem wholeN_bad {M : Int} {s : St} (h : ¬ (M = 0 ∧ s.2 = [])) : wholeN M s = (endS 2 s).1 := if_neg h
theorem RdAt.new (w : World) (b : List UInt8) (T : TypeId) : RdAt (w.alloc (.cells #[.int .i64 0, .string ⟨b.toArray⟩] T)) w.heap.size (0, b) := by
  unfold RdAt
  refine ⟨?_, ?_, ?_, ?_⟩ <;> go_simp
theorem But.new {w W w' : World} (h : RowKit.Below w.heap.size w W) (k : But w.heap.size W w') : RowKit.Below w.heap.size w w' := But.below h k h.size (Nat.le_refl _)

end Go.Proofs.YtaddfndohoppeaaGreat

/- code.ReadTerm. -/
namespace Go.Proofs.YtaddfndohoppeaaGreat
open Go Go.RowKit Go.Proofs
set_option synthInstance.maxSize 1000

attribute [local go_sem] eql_errV neq_errV guard_errV

/-- what is answered of bytes that are read as a term -/
def RTAns (N : Int) (x : Tm) (w : World) (e : Ending) (w' : World) : Prop := RowKit.Below w.heap.size w w' ∧ e = .returned (.tuple #[.agg #[.int .i64 x.1, .string ⟨x.2.1.toArray⟩, .string ⟨x.2.2.toArray⟩], errV N])
theorem RTAns.mk {N : Int} {x : Tm} {w w' : World} (hb : RowKit.Below w.heap.size w w') : RTAns N x w (.returned (.tuple #[.agg #[.int .i64 x.1, .string ⟨x.2.1.toArray⟩, .string ⟨x.2.2.toArray⟩], errV N])) w' := ⟨hb, rfl⟩
theorem bset {w W : World} {o : Nat} {u : Value} (h : RowKit.Below w.heap.size w W) : RowKit.Below w.heap.size w (W.setCell ⟨w.heap.size, o, none⟩ u) := h.setCell (p := ⟨w.heap.size, o, none⟩) (Nat.le_refl _) u
theorem RdAt.new1 (w : World) (b : List UInt8) (o : Obj) (T : TypeId) : RdAt ((w.alloc o).alloc (.cells #[.int .i64 0, .string ⟨b.toArray⟩] T)) (w.heap.size + 1) (0, b) := by
  have h := RdAt.new (w.alloc o) b T
  rw [show (w.alloc o).heap.size = w.heap.size + 1 by simp] at h
  exact h
theorem But.new1 {w W w' : World} (h : RowKit.Below w.heap.size w W) (k : But (w.heap.size + 1) W w') : RowKit.Below w.heap.size w w' := But.below h k h.size (Nat.le_succ _)

end Go.Proofs.YtaddfndohoppeaaGreat
