/- (*strings.Builder).WriteString; strings.Join of three texts. -/
import Derived.Test.YtnlcfnpcjkcdmaaGreatDoorPrint
import Derived.Lib.Builder
namespace Go.Proofs.YtnlcfnpcjkcdmaaGreatDoor
open Go Go.RowKit Go.Proofs

theorem infoStr : (Tryz.prog.info? 9).map (fun i => (i.zero, i.size, i.bytes)) = some (some (.string ByteArray.empty), 1, 16) := by kernel_rfl

set_option maxHeartbeats 1000000 in
set_option maxRecDepth 100000 in
theorem WriteString_any (B b : Nat) (bs l : List UInt8) (w : World) (h : Lib.IsBuilder 107 5 B b (Lib.byteCells bs) w) (hlen : bs.length + l.length ≤ 140737488355328) (hBw : B ≤ w.heap.size) :
    Calls Tryz.prog 67 #[.pointer (some ⟨b, 0, none⟩), .string ⟨l.toArray⟩] w fun e w' => (∃ v, e = .returned v) ∧ (Lib.BuilderAt 107 5 B b (.pointer (some ⟨b, 0, none⟩)) (Lib.byteCells (bs ++ l)) w' ∧ Below B w w') := by
  obtain ⟨i0, hi, hz⟩ := Option.map_eq_some_iff.1 infoByte
  simp only [Prod.mk.injEq] at hz
  obtain ⟨hz0, hz1, hz2⟩ := hz
  have hbl : (Lib.byteCells bs).length = bs.length := by simp [Lib.byteCells]
  go_enter Tryz.func67, Tryz.ntmps67
  go_wp2_with (go_at_call 97; refine (copyCheck_any B b (Lib.byteCells bs) _ h).mono ?_)
  rintro e w1 ⟨rfl, h1, hb1⟩
  obtain ⟨hB, v, hbk, hown, hne⟩ := h1
  have c0 : w1.cell? ⟨b, 0, none⟩ = some (.pointer (some ⟨b, 0, none⟩)) := by rw [Lib.cell_of_heap hbk]; rfl
  have c1 : w1.cell? ⟨b, 1, none⟩ = some v := by rw [Lib.cell_of_heap hbk]; rfl
  go_wp2_with (at_builtin; refine Lib.wpList_append_own_string _ rfl _ _ 105 9 rfl B 5 i0 Tryz.underlying105 Tryz.underlying9 hi hz0 hz1 hz2 _ _ _ rfl hown ⟨l.toArray⟩ rfl ?c3 ?c4 ?c5 ?_)
  case c3 => unfold maxLen; simp [ByteArray.size]; omega
  case c4 => simp [ByteArray.size]; omega
  case c5 => have := hb1.size; omega
  intro v' w2 hown' hgrow _
  have hlt : b < w1.heap.size := by
    rcases Nat.lt_or_ge b w1.heap.size with h' | h'
    · exact h'
    · simp [Array.getElem?_eq_none h'] at hbk
  have hb2 : w2.heap[b]? = some (.cells #[.pointer (some ⟨b, 0, none⟩), v] 107 (0, 0)) := by
    rw [hgrow.block b hlt (fun e => hne e.symm)]
    exact hbk
  have d0 : w2.cell? ⟨b, 0, none⟩ = some (.pointer (some ⟨b, 0, none⟩)) := by rw [Lib.cell_of_heap hb2]; rfl
  have d1 : w2.cell? ⟨b, 1, none⟩ = some v := by rw [Lib.cell_of_heap hb2]; rfl
  have f1 : w2.frozen? ⟨b, 1, none⟩ = false := Lib.frozen_of_heap hb2 1
  obtain ⟨ao, n', cap, rfl⟩ : ∃ ao n' cap, v' = .slice ao n' cap := by
    rcases hown'.2 with ⟨hv, _⟩ | ⟨g, cap, cur, hv, _⟩
    · exact ⟨_, _, _, hv⟩
    · exact ⟨_, _, _, hv⟩
  have hcat : Lib.byteCells bs ++ Lib.strCells ⟨l.toArray⟩ = Lib.byteCells (bs ++ l) := by simp [Lib.byteCells, Lib.strCells]
  rw [hcat] at hown'
  go_wp2
  refine bodyPost_ret (v := .tuple #[.int .i64 l.length, .nilIface]) (by simp [results, Tryz.results67, go_sem]) rfl ⟨⟨_, rfl⟩, ?_, ?_⟩
  · exact Lib.BuilderAt.put (T := 107) (e := 5) hB hb2 (bs' := Lib.byteCells (bs ++ l)) (by simpa [Lib.byteCells, ByteArray.size] using hown') neBuilder
  · exact (hb1.grown hgrow (by have := hb1.size; omega) (fun k hk => (hown.lt k hk).1)).setCell (p := ⟨b, 1, none⟩) hB _

theorem Grow_any (b n : Nat) (N : Int) (w : World) (hN : N = (n : Int)) (hbk : w.heap[b]? = some (.cells #[.pointer none, .slice none 0 0] 107 (0, 0))) (hBw : b ≤ w.heap.size) (hn : n ≤ 281474976710656) :
    Calls Tryz.prog 66 #[.pointer (some ⟨b, 0, none⟩), .int .i64 N] w fun e w' => e = .returned (.tuple #[]) ∧ (Lib.BuilderAt 107 5 b b (.pointer (some ⟨b, 0, none⟩)) [] w' ∧ Below b w w') := by
  subst hN
  exact Tryz.Builder_Grow_fresh b b n w (Nat.le_refl _) hbk hBw hn

/-- how long what was counted is -/
def lenUpto (x y z : List UInt8) (k : Nat) : Nat := 2 + (if 0 < k then x.length else 0) + (if 1 < k then y.length else 0) + (if 2 < k then z.length else 0)
/-- what was written -/
def joinUpto (x y z : List UInt8) (k : Nat) : List UInt8 := x ++ (if 0 < k then 32 :: y else []) ++ (if 1 < k then 32 :: z else [])

set_option maxHeartbeats 4000000 in
set_option maxRecDepth 100000 in
theorem Join_any (c : Nat) (x y z : List UInt8) (w : World) (hx : x.length ≤ 1000) (hy : y.length ≤ 1000) (hz : z.length ≤ 1000)
    (h0 : w.cell? ⟨c, 0, none⟩ = some (.string ⟨x.toArray⟩)) (h1 : w.cell? ⟨c, 1, none⟩ = some (.string ⟨y.toArray⟩)) (h2 : w.cell? ⟨c, 2, none⟩ = some (.string ⟨z.toArray⟩)) :
    Calls Tryz.prog 45 #[.slice (some ⟨c, 0, none⟩) 3 3, .string ⟨#[32]⟩] w fun e w' => e = .returned (.string ⟨(joinUpto x y z 2).toArray⟩) ∧ Below w.heap.size w w' := by
  go_enter Tryz.func45, Tryz.ntmps45
  go_wp2
  go_loop [5, 41] (fun n i => ∃ (k : Nat) (N : Int), k ≤ 3 ∧ i = .int .i64 k ∧ n = .int .i64 N ∧ 0 ≤ N ∧ N ≤ 10000 ∧ Hid (N = (lenUpto x y z k : Int))) (fun _ i => 3 - (intOf i).toNat)
  case atStart => exact ⟨0, 2, by omega, rfl, rfl, by omega, by omega, rfl⟩
  case round =>
    obtain ⟨k, N, hk, rfl, rfl, hN0, hN1, hN⟩ := hrel
    have hw1 : IntKind.i64.wrap (9223372036854775807 - N) = 9223372036854775807 - N := by simp [IntKind.wrap, IntKind.bits, IntKind.signed]; omega
    rcases (by omega : k = 0 ∨ k = 1 ∨ k = 2 ∨ k = 3) with rfl | rfl | rfl | rfl
    · have hs : IntKind.i64.wrap (N + (x.length : Int)) = N + (x.length : Int) := by simp [IntKind.wrap, IntKind.bits, IntKind.signed]; omega
      have hd : decide ((x.length : Int) > 9223372036854775807 - N) = false := by simp; omega
      go_wp2
      exact ⟨⟨1, N + x.length, by omega, by go_num, rfl, by omega, by have := hN.out; simp [lenUpto] at this; omega, by have := hN.out; simp [Hid, lenUpto] at this ⊢; omega⟩, by simp [intOf]⟩
    · have hs : IntKind.i64.wrap (N + (y.length : Int)) = N + (y.length : Int) := by simp [IntKind.wrap, IntKind.bits, IntKind.signed]; omega
      have hd : decide ((y.length : Int) > 9223372036854775807 - N) = false := by simp; omega
      go_wp2
      exact ⟨⟨2, N + y.length, by omega, by go_num, rfl, by omega, by have := hN.out; simp [lenUpto] at this; omega, by have := hN.out; simp [Hid, lenUpto] at this ⊢; omega⟩, by simp [intOf]⟩
    · have hs : IntKind.i64.wrap (N + (z.length : Int)) = N + (z.length : Int) := by simp [IntKind.wrap, IntKind.bits, IntKind.signed]; omega
      have hd : decide ((z.length : Int) > 9223372036854775807 - N) = false := by simp; omega
      go_wp2
      exact ⟨⟨3, N + z.length, by omega, by go_num, rfl, by omega, by have := hN.out; simp [lenUpto] at this; omega, by have := hN.out; simp [Hid, lenUpto] at this ⊢; omega⟩, by simp [intOf]⟩
    · clear hw1
      go_wp2_with fail
      refine (Grow_any w.heap.size (lenUpto x y z 3) N _ hN.out (heap_alloc_new w _) (by simp) (by have : lenUpto x y z 3 = 2 + x.length + y.length + z.length := rfl; omega)).mono ?_
      rintro e w1 ⟨rfl, hI1, hb1⟩
      have hbw : Below w.heap.size w w1 := (balloc w _).trans hb1
      have hB1 := hbw.size
      obtain ⟨kc, _⟩ := bcell hbw
      have g0 := hbw.cell (World.block_lt_of_cell? w _ h0) |>.trans h0
      have g1 := hbw.cell (World.block_lt_of_cell? w _ h1) |>.trans h1
      have g2 := hbw.cell (World.block_lt_of_cell? w _ h2) |>.trans h2
      clear hb1 kc
      go_wp2_with fail
      refine (WriteString_any w.heap.size w.heap.size [] x _ (Or.inr hI1) (by simp; omega) hB1).mono ?_
      rintro e w2 ⟨⟨v, rfl⟩, hI2, hb2⟩
      have hbw2 := hbw.trans hb2
      clear hb2 hI1 hbw g0 g1 g2 hB1
      go_wp2_with fail
      go_loopw [65] (fun i wr => ∃ k : Nat, k ≤ 2 ∧ i = .int .i64 k ∧ Lib.IsBuilder 107 5 w.heap.size w.heap.size (Lib.byteCells (joinUpto x y z k)) wr ∧ Below w.heap.size w wr) (fun i wr => 2 - (intOf i).toNat)
      case atStart => exact ⟨0, by omega, rfl, Or.inr (by simpa [joinUpto] using hI2), hbw2⟩
      case round =>
        obtain ⟨k, hk, rfl, hI, hbr⟩ := hrel
        have hB := hbr.size
        have g1 := hbr.cell (World.block_lt_of_cell? w _ h1) |>.trans h1
        have g2 := hbr.cell (World.block_lt_of_cell? w _ h2) |>.trans h2
        rcases (by omega : k = 0 ∨ k = 1 ∨ k = 2) with rfl | rfl | rfl
        · go_wp2_with fail
          refine (WriteString_any w.heap.size w.heap.size _ [32] _ hI (by simp [joinUpto]; omega) hB).mono ?_
          rintro e w3 ⟨⟨v, rfl⟩, hI3, hb3⟩
          have hbr3 := hbr.trans hb3
          have hB3 := hbr3.size
          go_wp2_with fail
          refine (WriteString_any w.heap.size w.heap.size _ y _ (Or.inr hI3) (by simp [joinUpto]; omega) hB3).mono ?_
          rintro e w4 ⟨⟨v, rfl⟩, hI4, hb4⟩
          go_wp2_with fail
          exact ⟨⟨1, by omega, by go_num, Or.inr (by simpa [joinUpto] using hI4), hbr3.trans hb4⟩, by simp [intOf]⟩
        · go_wp2_with fail
          refine (WriteString_any w.heap.size w.heap.size _ [32] _ hI (by simp [joinUpto]; omega) hB).mono ?_
          rintro e w3 ⟨⟨v, rfl⟩, hI3, hb3⟩
          have hbr3 := hbr.trans hb3
          have hB3 := hbr3.size
          go_wp2_with fail
          refine (WriteString_any w.heap.size w.heap.size _ z _ (Or.inr hI3) (by simp [joinUpto]; omega) hB3).mono ?_
          rintro e w4 ⟨⟨v, rfl⟩, hI4, hb4⟩
          go_wp2_with fail
          exact ⟨⟨2, by omega, by go_num, Or.inr (by simpa [joinUpto] using hI4), hbr3.trans hb4⟩, by simp [intOf]⟩
        · go_wp2_with fail
          refine (Tryz.Builder_String_any w.heap.size w.heap.size (joinUpto x y z 2) _ hI hB).mono ?_
          rintro e w3 ⟨rfl, hb3⟩
          go_wp2_with fail
          go_ret
          exact ⟨rfl, hbr.trans hb3⟩
end Go.Proofs.YtnlcfnpcjkcdmaaGreatDoor
