import Derived.Test.YtnlcfnpcjkcdmafGreatDoorMA0x0
import Derived.Deep.RegionWith
import Derived.BigQuiet
import Derived.Lib.Builder
import Derived.Lib.Bytealg
import Derived.Lib.Small
import Derived.Deep.RegionHeld3
import Derived.Sort.Grow
import Derived.Deep.Draws
import Derived.Laws.StructEq

/- Print: a term as text. -/
namespace Go.Proofs.YtnlcfnpcjkcdmafGreatDoor
open Go Go.RowKit Go.Proofs

/-- the text of a right term -/
def showL (k : Int) (S L : List UInt8) : List UInt8 := if k = 2 then 95 :: S else if k = 3 then quoteL S ++ markL L else S
def printL (k : Int) (S L : List UInt8) : List UInt8 := if checkN k S L = 0 then showL k S L else []

theorem str_app2 (c : UInt8) (b : List UInt8) : ((⟨#[c]⟩ : ByteArray) ++ (⟨b.toArray⟩ : ByteArray)) = ⟨(c :: b).toArray⟩ := str_app [c] b

theorem Print_bad (k : Int) (S L : List UInt8) (w : World) (hs : S.length ≤ maxLen) (hl : L.length ≤ maxLen) (h : checkN k S L ≠ 0) :
    Calls Tryz.prog 179 #[.agg #[.int .i64 k, .string ⟨S.toArray⟩, .string ⟨L.toArray⟩]] w fun e w' => e = .returned (.tuple #[.string ⟨#[]⟩, errV (checkN k S L)]) ∧ Below w.heap.size w w' := by
  have he : errV (checkN k S L) = .iface 91 (.int .i64 (checkN k S L)) := by simp [errV, h]
  rw [he]
  have He : Hid (errV (checkN k S L) = .iface 91 (.int .i64 (checkN k S L))) := he
  clear he
  go_enter Tryz.func179, Tryz.ntmps179
  go_wp2_with fail
  refine (Check_any k S L _ hs hl).mono ?_
  rintro e w1 ⟨rfl, hb1⟩
  rw [He.out]
  go_wp2_with fail
  go_ret2
  exact ⟨rfl, bstep (balloc _ _) hb1⟩

set_option maxHeartbeats 2000000 in
theorem Print_text (S L : List UInt8) (w : World) (hS : S.length ≤ 24) (hL : L.length ≤ 2) (He : Hid (errV (checkN 3 S L) = .nilIface)) :
    Calls Tryz.prog 179 #[.agg #[.int .i64 3, .string ⟨S.toArray⟩, .string ⟨L.toArray⟩]] w fun e w' => e = .returned (.tuple #[.string ⟨(showL 3 S L).toArray⟩, .nilIface]) ∧ Below w.heap.size w w' := by
  have hs : S.length ≤ maxLen := by unfold maxLen; omega
  have hl : L.length ≤ maxLen := by unfold maxLen; omega
  have fin : Hid (showL 3 S L = quoteL S ++ markL L) := rfl
  go_enter Tryz.func179, Tryz.ntmps179
  go_wp2_with fail
  refine (Check_any 3 S L _ hs hl).mono ?_
  rintro e w1 ⟨rfl, hb1⟩
  obtain ⟨hc1, hf1⟩ := bcell hb1
  have hz : w.heap.size < w1.heap.size := by have := hb1.size; simp at this; omega
  rw [He.out]
  go_wp2_with fail
  have hcS : w1.cell? ⟨w.heap.size, 1, none⟩ = some (.string ⟨S.toArray⟩) := by rw [hc1 _ _ (by simp)]; simp
  have hcL : w1.cell? ⟨w.heap.size, 2, none⟩ = some (.string ⟨L.toArray⟩) := by rw [hc1 _ _ (by simp)]; simp
  clear hc1 hf1
  have hq := quoteL_len S
  have hm := markL_len L
  go_region_with (first
    | (go_at_call 211; refine (quote_any S _ (by omega)).mono ?_; rintro e w2 ⟨rfl, hb2⟩
       have hcS2 : w2.cell? ⟨w.heap.size, 1, none⟩ = some (.string ⟨S.toArray⟩) := (hb2.cell (p := ⟨w.heap.size, 1, none⟩) hz).trans hcS
       have hcL2 : w2.cell? ⟨w.heap.size, 2, none⟩ = some (.string ⟨L.toArray⟩) := (hb2.cell (p := ⟨w.heap.size, 2, none⟩) hz).trans hcL)
    | (go_at_call 212; refine (langMark_any L _ (by omega)).mono ?_; rintro e w3 ⟨rfl, rfl⟩))
  all_goals
    go_wp2
    go_ret2
    exact ⟨ret_two (by rw [fin.out, ← str_app]; rfl) rfl, bstep (bstep (balloc _ _) hb1) (bdrew hb2)⟩

theorem Print_good (k : Int) (S L : List UInt8) (w : World) (h : checkN k S L = 0) :
    Calls Tryz.prog 179 #[.agg #[.int .i64 k, .string ⟨S.toArray⟩, .string ⟨L.toArray⟩]] w fun e w' => e = .returned (.tuple #[.string ⟨(showL k S L).toArray⟩, .nilIface]) ∧ Below w.heap.size w w' := by
  obtain ⟨hk, hS, hsp⟩ := check_zero h
  have hL := spell_lang hsp
  have hs : S.length ≤ maxLen := by unfold maxLen; omega
  have hl : L.length ≤ maxLen := by unfold maxLen; omega
  have He : Hid (errV (checkN k S L) = .nilIface) := by show _ = _; rw [h]; rfl
  clear h hsp
  rcases hk with rfl | rfl | rfl
  · have fin : Hid (showL 1 S L = S) := rfl
    go_enter Tryz.func179, Tryz.ntmps179
    go_wp2_with fail
    refine (Check_any 1 S L _ hs hl).mono ?_
    rintro e w1 ⟨rfl, hb1⟩
    obtain ⟨hc1, hf1⟩ := bcell hb1
    rw [He.out]
    go_wp2_with fail
    refine (Clone_any S _ (by omega)).mono ?_
    rintro e w2 ⟨rfl, hb2⟩
    go_wp2_with fail
    go_ret2
    exact ⟨ret_two (by rw [fin.out]; rfl) rfl, bstep (bstep (balloc _ _) hb1) hb2⟩
  · have fin : Hid (showL 2 S L = 95 :: S) := rfl
    go_enter Tryz.func179, Tryz.ntmps179
    go_wp2_with fail
    refine (Check_any 2 S L _ hs hl).mono ?_
    rintro e w1 ⟨rfl, hb1⟩
    obtain ⟨hc1, hf1⟩ := bcell hb1
    rw [He.out]
    go_wp2_with fail
    go_ret2
    exact ⟨ret_two (by rw [fin.out, ← str_app2 95 S]; rfl) rfl, bstep (balloc _ _) hb1⟩
  · exact Print_text S L w hS hL He

theorem Print_any (k : Int) (S L : List UInt8) (w : World) (hs : S.length ≤ maxLen) (hl : L.length ≤ maxLen) :
    Calls Tryz.prog 179 #[.agg #[.int .i64 k, .string ⟨S.toArray⟩, .string ⟨L.toArray⟩]] w fun e w' => e = .returned (.tuple #[.string ⟨(printL k S L).toArray⟩, errV (checkN k S L)]) ∧ Below w.heap.size w w' := by
  by_cases h : checkN k S L = 0
  · refine (Print_good k S L w h).mono ?_
    rintro e w' ⟨rfl, hb⟩
    exact ⟨by rw [show printL k S L = showL k S L from if_pos h, h]; rfl, hb⟩
  · refine (Print_bad k S L w hs hl h).mono ?_
    rintro e w' ⟨rfl, hb⟩
    exact ⟨by rw [show printL k S L = [] from if_neg h], hb⟩
end Go.Proofs.YtnlcfnpcjkcdmafGreatDoor

/- (*strings.Builder).WriteString; strings.Join of three texts. -/
namespace Go.Proofs.YtnlcfnpcjkcdmafGreatDoor
open Go Go.RowKit Go.Proofs

theorem infoStr : (Tryz.prog.info? 9).map (fun i => (i.zero, i.size, i.bytes)) = some (some (.string ByteArray.empty), 1, 16) := by kernel_rfl

set_option maxHeartbeats 1000000 in
set_option maxRecDepth 100000 in
theorem WriteString_any (B b : Nat) (bs l : List UInt8) (w : World) (h : Lib.IsBuilder 162 5 B b (Lib.byteCells bs) w) (hlen : bs.length + l.length ≤ 140737488355328) (hBw : B ≤ w.heap.size) :
    Calls Tryz.prog 97 #[.pointer (some ⟨b, 0, none⟩), .string ⟨l.toArray⟩] w fun e w' => (∃ v, e = .returned v) ∧ (Lib.BuilderAt 162 5 B b (.pointer (some ⟨b, 0, none⟩)) (Lib.byteCells (bs ++ l)) w' ∧ Below B w w') := by
  obtain ⟨i0, hi, hz⟩ := Option.map_eq_some_iff.1 infoByte
  simp only [Prod.mk.injEq] at hz
  obtain ⟨hz0, hz1, hz2⟩ := hz
  have hbl : (Lib.byteCells bs).length = bs.length := by simp [Lib.byteCells]
  go_enter Tryz.func97, Tryz.ntmps97
  go_wp2_with (go_at_call 136; refine (copyCheck_any B b (Lib.byteCells bs) _ h).mono ?_)
  rintro e w1 ⟨rfl, h1, hb1⟩
  obtain ⟨hB, v, hbk, hown, hne⟩ := h1
  have c0 : w1.cell? ⟨b, 0, none⟩ = some (.pointer (some ⟨b, 0, none⟩)) := by rw [Lib.cell_of_heap hbk]; rfl
  have c1 : w1.cell? ⟨b, 1, none⟩ = some v := by rw [Lib.cell_of_heap hbk]; rfl
  go_wp2_with (at_builtin; refine Lib.wpList_append_own_string _ rfl _ _ 160 9 rfl B 5 i0 Tryz.underlying160 Tryz.underlying9 hi hz0 hz1 hz2 _ _ _ rfl hown ⟨l.toArray⟩ rfl ?c3 ?c4 ?c5 ?_)
  case c3 => unfold maxLen; simp [ByteArray.size]; omega
  case c4 => simp [ByteArray.size]; omega
  case c5 => have := hb1.size; omega
  intro v' w2 hown' hgrow _
  have hlt : b < w1.heap.size := by
    rcases Nat.lt_or_ge b w1.heap.size with h' | h'
    · exact h'
    · simp [Array.getElem?_eq_none h'] at hbk
  have hb2 : w2.heap[b]? = some (.cells #[.pointer (some ⟨b, 0, none⟩), v] 162 (0, 0)) := by
    rw [hgrow.block b hlt (fun e => hne e.symm)]
    exact hbk
  have d0 : w2.cell? ⟨b, 0, none⟩ = some (.pointer (some ⟨b, 0, none⟩)) := by rw [Lib.cell_of_heap hb2]; rfl
  have d1 : w2.cell? ⟨b, 1, none⟩ = some v := by rw [Lib.cell_of_heap hb2]; rfl
  have f1 : w2.frozen? ⟨b, 1, none⟩ = false := Lib.frozen_of_heap hb2 1
  obtain ⟨ao, n', cap, rfl⟩ : ∃ ao n' cap, v' = .slice ao n' cap := by
    rcases hown'.2 with ⟨hv, _⟩ | ⟨g, cap, cur, hv, _⟩
    · exact ⟨_, _, _, hv⟩
    · exact ⟨_, _, _, hv⟩
  have hcat : Lib.byteCells bs ++ Lib.strCells ⟨l.toArray⟩ = Lib.byteCells (bs ++ l) := by simp [Lib.byteCells, Lib.strCells]
  rw [hcat] at hown'
  go_wp2
  refine bodyPost_ret (v := .tuple #[.int .i64 l.length, .nilIface]) (by simp [results, Tryz.results97, go_sem]) rfl ⟨⟨_, rfl⟩, ?_, ?_⟩
  · exact Lib.BuilderAt.put (T := 162) (e := 5) hB hb2 (bs' := Lib.byteCells (bs ++ l)) (by simpa [Lib.byteCells, ByteArray.size] using hown') neBuilder
  · exact (hb1.grown hgrow (by have := hb1.size; omega) (fun k hk => (hown.lt k hk).1)).setCell (p := ⟨b, 1, none⟩) hB _

theorem Grow_any (b n : Nat) (N : Int) (w : World) (hN : N = (n : Int)) (hbk : w.heap[b]? = some (.cells #[.pointer none, .slice none 0 0] 162 (0, 0))) (hBw : b ≤ w.heap.size) (hn : n ≤ 281474976710656) :
    Calls Tryz.prog 213 #[.pointer (some ⟨b, 0, none⟩), .int .i64 N] w fun e w' => e = .returned (.tuple #[]) ∧ (Lib.BuilderAt 162 5 b b (.pointer (some ⟨b, 0, none⟩)) [] w' ∧ Below b w w') := by
  subst hN
  exact Tryz.Builder_Grow_fresh b b n w (Nat.le_refl _) hbk hBw hn

/-- how long what was counted is -/
def lenUpto (x y z : List UInt8) (k : Nat) : Nat := 2 + (if 0 < k then x.length else 0) + (if 1 < k then y.length else 0) + (if 2 < k then z.length else 0)
/-- what was written -/
def joinUpto (x y z : List UInt8) (k : Nat) : List UInt8 := x ++ (if 0 < k then 32 :: y else []) ++ (if 1 < k then 32 :: z else [])

set_option maxHeartbeats 4000000 in
set_option maxRecDepth 100000 in
theorem Join_any (c : Nat) (x y z : List UInt8) (w : World) (hx : x.length ≤ 1000) (hy : y.length ≤ 1000) (hz : z.length ≤ 1000)
    (h0 : w.cell? ⟨c, 0, none⟩ = some (.string ⟨x.toArray⟩)) (h1 : w.cell? ⟨c, 1, none⟩ = some (.string ⟨y.toArray⟩)) (h2 : w.cell? ⟨c, 2, none⟩ = some (.string ⟨z.toArray⟩)) :
    Calls Tryz.prog 180 #[.slice (some ⟨c, 0, none⟩) 3 3, .string ⟨#[32]⟩] w fun e w' => e = .returned (.string ⟨(joinUpto x y z 2).toArray⟩) ∧ Below w.heap.size w w' := by
  go_enter Tryz.func180, Tryz.ntmps180
  go_wp2
  go_loop [5, 41] (fun n i => ∃ (k : Nat) (N : Int), k ≤ 3 ∧ i = .int .i64 k ∧ n = .int .i64 N ∧ 0 ≤ N ∧ N ≤ 10000 ∧ Hid (N = (lenUpto x y z k : Int))) (fun _ i => 3 - (intOf i).toNat)
  case atStart => exact ⟨0, 2, by omega, rfl, rfl, by omega, by omega, rfl⟩
  case round =>
    obtain ⟨k, N, hk, rfl, rfl, hN0, hN1, hN⟩ := hrel
    have hw1 : IntKind.i64.wrap (9223372036854775807 - N) = 9223372036854775807 - N := by simp [IntKind.wrap, IntKind.bits, IntKind.signed]; omega
    rcases (by omega : k = 0 ∨ k = 1 ∨ k = 2 ∨ k = 3) with rfl | rfl | rfl | rfl
    · have hs : IntKind.i64.wrap (N + (x.length : Int)) = N + (x.length : Int) := by simp [IntKind.wrap, IntKind.bits, IntKind.signed]; omega
      have hd : decide ((x.length : Int) > 9223372036854775807 - N) = false := by simp; omega
      go_wp2
      exact ⟨⟨1, N + x.length, by omega, by go_num, rfl, by omega, by have := hN.out; simp [lenUpto] at this; omega, by have := hN.out; simp [Hid, lenUpto] at this ⊢; omega⟩, by simp [intOf]⟩
    · have hs : IntKind.i64.wrap (N + (y.length : Int)) = N + (y.length : Int) := by simp [IntKind.wrap, IntKind.bits, IntKind.signed]; omega
      have hd : decide ((y.length : Int) > 9223372036854775807 - N) = false := by simp; omega
      go_wp2
      exact ⟨⟨2, N + y.length, by omega, by go_num, rfl, by omega, by have := hN.out; simp [lenUpto] at this; omega, by have := hN.out; simp [Hid, lenUpto] at this ⊢; omega⟩, by simp [intOf]⟩
    · have hs : IntKind.i64.wrap (N + (z.length : Int)) = N + (z.length : Int) := by simp [IntKind.wrap, IntKind.bits, IntKind.signed]; omega
      have hd : decide ((z.length : Int) > 9223372036854775807 - N) = false := by simp; omega
      go_wp2
      exact ⟨⟨3, N + z.length, by omega, by go_num, rfl, by omega, by have := hN.out; simp [lenUpto] at this; omega, by have := hN.out; simp [Hid, lenUpto] at this ⊢; omega⟩, by simp [intOf]⟩
    · clear hw1
      go_wp2_with fail
      refine (Grow_any w.heap.size (lenUpto x y z 3) N _ hN.out (heap_alloc_new w _) (by simp) (by have : lenUpto x y z 3 = 2 + x.length + y.length + z.length := rfl; omega)).mono ?_
      rintro e w1 ⟨rfl, hI1, hb1⟩
      have hbw : Below w.heap.size w w1 := (balloc w _).trans hb1
      have hB1 := hbw.size
      obtain ⟨kc, _⟩ := bcell hbw
      have g0 := hbw.cell (World.block_lt_of_cell? w _ h0) |>.trans h0
      have g1 := hbw.cell (World.block_lt_of_cell? w _ h1) |>.trans h1
      have g2 := hbw.cell (World.block_lt_of_cell? w _ h2) |>.trans h2
      clear hb1 kc
      go_wp2_with fail
      refine (WriteString_any w.heap.size w.heap.size [] x _ (Or.inr hI1) (by simp; omega) hB1).mono ?_
      rintro e w2 ⟨⟨v, rfl⟩, hI2, hb2⟩
      have hbw2 := hbw.trans hb2
      clear hb2 hI1 hbw g0 g1 g2 hB1
      go_wp2_with fail
      go_loopw [65] (fun i wr => ∃ k : Nat, k ≤ 2 ∧ i = .int .i64 k ∧ Lib.IsBuilder 162 5 w.heap.size w.heap.size (Lib.byteCells (joinUpto x y z k)) wr ∧ Below w.heap.size w wr) (fun i wr => 2 - (intOf i).toNat)
      case atStart => exact ⟨0, by omega, rfl, Or.inr (by simpa [joinUpto] using hI2), hbw2⟩
      case round =>
        obtain ⟨k, hk, rfl, hI, hbr⟩ := hrel
        have hB := hbr.size
        have g1 := hbr.cell (World.block_lt_of_cell? w _ h1) |>.trans h1
        have g2 := hbr.cell (World.block_lt_of_cell? w _ h2) |>.trans h2
        rcases (by omega : k = 0 ∨ k = 1 ∨ k = 2) with rfl | rfl | rfl
        · go_wp2_with fail
          refine (WriteString_any w.heap.size w.heap.size _ [32] _ hI (by simp [joinUpto]; omega) hB).mono ?_
          rintro e w3 ⟨⟨v, rfl⟩, hI3, hb3⟩
          have hbr3 := hbr.trans hb3
          have hB3 := hbr3.size
          go_wp2_with fail
          refine (WriteString_any w.heap.size w.heap.size _ y _ (Or.inr hI3) (by simp [joinUpto]; omega) hB3).mono ?_
          rintro e w4 ⟨⟨v, rfl⟩, hI4, hb4⟩
          go_wp2_with fail
          exact ⟨⟨1, by omega, by go_num, Or.inr (by simpa [joinUpto] using hI4), hbr3.trans hb4⟩, by simp [intOf]⟩
        · go_wp2_with fail
          refine (WriteString_any w.heap.size w.heap.size _ [32] _ hI (by simp [joinUpto]; omega) hB).mono ?_
          rintro e w3 ⟨⟨v, rfl⟩, hI3, hb3⟩
          have hbr3 := hbr.trans hb3
          have hB3 := hbr3.size
          go_wp2_with fail
          refine (WriteString_any w.heap.size w.heap.size _ z _ (Or.inr hI3) (by simp [joinUpto]; omega) hB3).mono ?_
          rintro e w4 ⟨⟨v, rfl⟩, hI4, hb4⟩
          go_wp2_with fail
          exact ⟨⟨2, by omega, by go_num, Or.inr (by simpa [joinUpto] using hI4), hbr3.trans hb4⟩, by simp [intOf]⟩
        · go_wp2_with fail
          refine (Tryz.Builder_String_any w.heap.size w.heap.size (joinUpto x y z 2) _ hI hB).mono ?_
          rintro e w3 ⟨rfl, hb3⟩
          go_wp2_with fail
          go_ret
          exact ⟨rfl, hbr.trans hb3⟩
end Go.Proofs.YtnlcfnpcjkcdmafGreatDoor

/- An error against nil; what is kept of three terms that a law has boxed. -/
namespace Go.Proofs.YtnlcfnpcjkcdmafGreatDoor
open Go Go.RowKit Go.Proofs

theorem eql_errV (n : Int) (w : World) : (binOp .eql 25 (errV n) .nilIface).run Tryz.prog w = .ok (.bool (n == 0)) w := by
  unfold errV
  by_cases h : n = 0
  · subst h; rw [if_pos rfl]; go_simp
  · rw [if_neg h]
    have h' : (n == 0) = false := by simpa using h
    rw [h']
    go_simp
theorem neq_errV (n : Int) (w : World) : (binOp .neq 25 (errV n) .nilIface).run Tryz.prog w = .ok (.bool (!(n == 0))) w := by
  unfold errV
  by_cases h : n = 0
  · subst h; rw [if_pos rfl]; go_simp
  · rw [if_neg h]
    have h' : (n == 0) = false := by simpa using h
    rw [h']
    go_simp
theorem guard_errV (op : BinOp) (t : TypeId) (x : Operand) (c : Value) (n : Int) : eqGuard op t x (.const c) (errV n) .nilIface = pure () := by
  unfold errV
  by_cases h : n = 0
  · subst h; rw [if_pos rfl]; exact eqGuard_nil_constR ..
  · rw [if_neg h]; cases op <;> rfl

/-- three terms that were boxed, read later on -/
theorem boxes {w W : World} {T : TypeId} {a0 a1 a2 b0 b1 b2 c0 c1 c2 : Value}
    (hb : Below (((w.alloc (.cells #[a0, a1, a2] T)).alloc (.cells #[b0, b1, b2] T)).alloc (.cells #[c0, c1, c2] T)).heap.size (((w.alloc (.cells #[a0, a1, a2] T)).alloc (.cells #[b0, b1, b2] T)).alloc (.cells #[c0, c1, c2] T)) W) :
    W.cell? ⟨w.heap.size, 0, none⟩ = some a0 ∧ W.cell? ⟨w.heap.size, 1, none⟩ = some a1 ∧ W.cell? ⟨w.heap.size, 2, none⟩ = some a2 ∧
    W.cell? ⟨w.heap.size + 1, 0, none⟩ = some b0 ∧ W.cell? ⟨w.heap.size + 1, 1, none⟩ = some b1 ∧ W.cell? ⟨w.heap.size + 1, 2, none⟩ = some b2 ∧
    W.cell? ⟨w.heap.size + 1 + 1, 0, none⟩ = some c0 ∧ W.cell? ⟨w.heap.size + 1 + 1, 1, none⟩ = some c1 ∧ W.cell? ⟨w.heap.size + 1 + 1, 2, none⟩ = some c2 ∧
    w.heap.size + 1 + 1 < W.heap.size := by
  obtain ⟨h, _⟩ := bcell hb
  have hs := hb.size
  refine ⟨?_, ?_, ?_, ?_, ?_, ?_, ?_, ?_, ?_, by simp at hs; omega⟩
  all_goals
    rw [h]
    · go_simp
    · simp <;> omega
end Go.Proofs.YtnlcfnpcjkcdmafGreatDoor

/- triple.Check: what is wrong with a triple: with S, with P, with O, and then where they stand. -/
namespace Go.Proofs.YtnlcfnpcjkcdmafGreatDoor
open Go Go.RowKit Go.Proofs

/-- the number of the error that triple.Check tells: 0 for none -/
def shapeB (k1 k2 : Int) : Bool := (k1 == 3) || !(k2 == 1)
def check3 (c1 c2 c3 : Int) (k1 k2 : Int) : Int := if c1 = 0 then (if c2 = 0 then (if c3 = 0 then (if shapeB k1 k2 = true then 3 else 0) else c3) else c2) else c1

attribute [local go_sem] eql_errV neq_errV guard_errV

theorem ninebox {w W : World} {T : TypeId} {a0 a1 a2 b0 b1 b2 c0 c1 c2 : Value}
    (hb : Below (w.alloc (.cells #[a0, a1, a2, b0, b1, b2, c0, c1, c2] T)).heap.size (w.alloc (.cells #[a0, a1, a2, b0, b1, b2, c0, c1, c2] T)) W) :
    W.cell? ⟨w.heap.size, 0, none⟩ = some a0 ∧ W.cell? ⟨w.heap.size, 1, none⟩ = some a1 ∧ W.cell? ⟨w.heap.size, 2, none⟩ = some a2 ∧ W.cell? ⟨w.heap.size, 3, none⟩ = some b0 ∧ W.cell? ⟨w.heap.size, 4, none⟩ = some b1 ∧ W.cell? ⟨w.heap.size, 5, none⟩ = some b2 ∧ W.cell? ⟨w.heap.size, 6, none⟩ = some c0 ∧ W.cell? ⟨w.heap.size, 7, none⟩ = some c1 ∧ W.cell? ⟨w.heap.size, 8, none⟩ = some c2 ∧ w.heap.size < W.heap.size := by
  obtain ⟨h, _⟩ := bcell hb
  have hs := hb.size
  refine ⟨?_, ?_, ?_, ?_, ?_, ?_, ?_, ?_, ?_, by simp at hs; omega⟩
  all_goals
    rw [h]
    · go_simp
    · simp <;> omega

set_option maxHeartbeats 1000000 in
theorem misplaced_any (k1 : Int) (S1 L1 : List UInt8) (k2 : Int) (S2 L2 : List UInt8) (k3 : Int) (S3 L3 : List UInt8) (w : World) :
    Calls Tryz.prog 145 #[.agg #[.int .i64 k1, .string ⟨S1.toArray⟩, .string ⟨L1.toArray⟩, .int .i64 k2, .string ⟨S2.toArray⟩, .string ⟨L2.toArray⟩, .int .i64 k3, .string ⟨S3.toArray⟩, .string ⟨L3.toArray⟩]] w
      fun e w' => e = .returned (.bool (shapeB k1 k2)) ∧ Below w.heap.size w w' := by
  have fin2 : Hid (shapeB k1 k2 = ((k1 == 3) || !(k2 == 1))) := rfl
  cases h3 : (k1 == 3)
  · cases h1 : (k2 == 1)
    all_goals
      go_enter Tryz.func145, Tryz.ntmps145
      go_wp2_with fail
      go_ret
      exact ⟨ret_bool (by rw [fin2.out, h3]; rfl), balloc _ _⟩
  · go_enter Tryz.func145, Tryz.ntmps145
    go_wp2_with fail
    go_ret
    exact ⟨ret_bool (by rw [fin2.out, h3]; rfl), balloc _ _⟩

theorem index0 (a0 a1 a2 b0 b1 b2 c0 c1 c2 : Value) (w : World) : (Instr.index 215 (.agg #[a0, a1, a2, b0, b1, b2, c0, c1, c2]) (.int .i64 0)).run Tryz.prog w = .ok (.agg #[a0, a1, a2]) w := by kernel_rfl
theorem index1 (a0 a1 a2 b0 b1 b2 c0 c1 c2 : Value) (w : World) : (Instr.index 215 (.agg #[a0, a1, a2, b0, b1, b2, c0, c1, c2]) (.int .i64 1)).run Tryz.prog w = .ok (.agg #[b0, b1, b2]) w := by kernel_rfl
theorem index2 (a0 a1 a2 b0 b1 b2 c0 c1 c2 : Value) (w : World) : (Instr.index 215 (.agg #[a0, a1, a2, b0, b1, b2, c0, c1, c2]) (.int .i64 2)).run Tryz.prog w = .ok (.agg #[c0, c1, c2]) w := by kernel_rfl
attribute [local go_sem] index0 index1 index2

set_option maxHeartbeats 4000000 in
set_option maxRecDepth 100000 in
theorem TCheck_any (k1 : Int) (S1 L1 : List UInt8) (k2 : Int) (S2 L2 : List UInt8) (k3 : Int) (S3 L3 : List UInt8) (w : World)
    (hs1 : S1.length ≤ maxLen) (hl1 : L1.length ≤ maxLen) (hs2 : S2.length ≤ maxLen) (hl2 : L2.length ≤ maxLen) (hs3 : S3.length ≤ maxLen) (hl3 : L3.length ≤ maxLen) :
    Calls Tryz.prog 113 #[.agg #[.int .i64 k1, .string ⟨S1.toArray⟩, .string ⟨L1.toArray⟩, .int .i64 k2, .string ⟨S2.toArray⟩, .string ⟨L2.toArray⟩, .int .i64 k3, .string ⟨S3.toArray⟩, .string ⟨L3.toArray⟩]] w
      fun e w' => e = .returned (errV (check3 (checkN k1 S1 L1) (checkN k2 S2 L2) (checkN k3 S3 L3) k1 k2)) ∧ Below w.heap.size w w' := by
  have H1 := fun W => Check_any k1 S1 L1 W hs1 hl1
  have H2 := fun W => Check_any k2 S2 L2 W hs2 hl2
  have H3 := fun W => Check_any k3 S3 L3 W hs3 hl3
  generalize checkN k1 S1 L1 = c1 at H1 ⊢
  generalize checkN k2 S2 L2 = c2 at H2 ⊢
  generalize checkN k3 S3 L3 = c3 at H3 ⊢
  have fin : Hid (check3 c1 c2 c3 k1 k2 = if c1 = 0 then (if c2 = 0 then (if c3 = 0 then (if shapeB k1 k2 = true then 3 else 0) else c3) else c2) else c1) := rfl
  clear hs1 hl1 hs2 hl2 hs3 hl3
  go_enter Tryz.func113, Tryz.ntmps113
  go_wp2_with fail
  go_loopw [13] (fun i wr => ∃ k : Int, 0 ≤ k ∧ k ≤ 3 ∧ i = .int .i64 k ∧ Below (w.alloc (.cells #[.int .i64 k1, .string ⟨S1.toArray⟩, .string ⟨L1.toArray⟩, .int .i64 k2, .string ⟨S2.toArray⟩, .string ⟨L2.toArray⟩, .int .i64 k3, .string ⟨S3.toArray⟩, .string ⟨L3.toArray⟩] 99)).heap.size (w.alloc (.cells #[.int .i64 k1, .string ⟨S1.toArray⟩, .string ⟨L1.toArray⟩, .int .i64 k2, .string ⟨S2.toArray⟩, .string ⟨L2.toArray⟩, .int .i64 k3, .string ⟨S3.toArray⟩, .string ⟨L3.toArray⟩] 99)) wr
      ∧ (0 < k → c1 = 0) ∧ (1 < k → c2 = 0) ∧ (2 < k → c3 = 0)) (fun i wr => (3 - intOf i).toNat)
  case atStart => exact ⟨0, by omega, by omega, rfl, Below.refl _ _, by omega, by omega, by omega⟩
  case round =>
    obtain ⟨k, hk, hk', rfl, hbr, q0, q1, q2⟩ := hrel
    rcases (by omega : k = 0 ∨ k = 1 ∨ k = 2 ∨ k = 3) with rfl | rfl | rfl | rfl
    · clear hk hk' q0 q1 q2
      go_wp2_with fail
      refine (H1 _).mono ?_
      rintro e w1 ⟨rfl, hb1⟩
      have hB := bstep (bstep hbr (balloc _ _)) hb1
      cases hc : (c1 == 0)
      · go_wp2_with fail
        go_ret
        simp at hc
        exact ⟨ret_val (by rw [fin.out]; simp [hc]), bstep (balloc _ _) hB⟩
      · go_wp2_with fail
        simp at hc
        exact ⟨⟨1, by omega, by omega, by go_num, hB, fun _ => hc, by omega, by omega⟩, by simp [intOf]⟩
    · have hx : Hid (c1 = 0) := q0 (by omega)
      clear hk hk' q0 q1 q2
      go_wp2_with fail
      refine (H2 _).mono ?_
      rintro e w1 ⟨rfl, hb1⟩
      have hB := bstep (bstep hbr (balloc _ _)) hb1
      cases hc : (c2 == 0)
      · go_wp2_with fail
        go_ret
        simp at hc
        exact ⟨ret_val (by rw [fin.out]; simp [hc, hx.out]), bstep (balloc _ _) hB⟩
      · go_wp2_with fail
        simp at hc
        exact ⟨⟨2, by omega, by omega, by go_num, hB, fun _ => hx.out, fun _ => hc, by omega⟩, by simp [intOf]⟩
    · have hx : Hid (c1 = 0) := q0 (by omega)
      have hy : Hid (c2 = 0) := q1 (by omega)
      clear hk hk' q0 q1 q2
      go_wp2_with fail
      refine (H3 _).mono ?_
      rintro e w1 ⟨rfl, hb1⟩
      have hB := bstep (bstep hbr (balloc _ _)) hb1
      cases hc : (c3 == 0)
      · go_wp2_with fail
        go_ret
        simp at hc
        exact ⟨ret_val (by rw [fin.out]; simp [hc, hx.out, hy.out]), bstep (balloc _ _) hB⟩
      · go_wp2_with fail
        simp at hc
        exact ⟨⟨3, by omega, by omega, by go_num, hB, fun _ => hx.out, fun _ => hy.out, fun _ => hc⟩, by simp [intOf]⟩
    · have hx : Hid (c1 = 0) := q0 (by omega)
      have hy : Hid (c2 = 0) := q1 (by omega)
      have hz : Hid (c3 = 0) := q2 (by omega)
      clear hk hk' q0 q1 q2
      obtain ⟨n0, n1, n2, n3, n4, n5, n6, n7, n8, hz9⟩ := ninebox hbr
      have HM := fun W => misplaced_any k1 S1 L1 k2 S2 L2 k3 S3 L3 W
      generalize shapeB k1 k2 = sh at *
      cases sh
      all_goals
        go_wp2_with fail
        refine (HM _).mono ?_
        rintro e w4 ⟨rfl, hb4⟩
        go_wp2_with fail
        go_ret
        exact ⟨ret_val (by rw [fin.out]; simp [hx.out, hy.out, hz.out]; rfl), bstep (bstep (balloc _ _) hbr) hb4⟩
end Go.Proofs.YtnlcfnpcjkcdmafGreatDoor

/- Compare: by Kind, then S, then Lang. -/
namespace Go.Proofs.YtnlcfnpcjkcdmafGreatDoor
open Go Go.RowKit Go.Proofs

def orI (x y z : Int) : Int := if x = 0 then (if y = 0 then z else y) else x
def cmpT (k : Int) (S L : List UInt8) (k' : Int) (S' L' : List UInt8) : Int := orI (Lib.compareInt k k') (Lib.compareBytes S S') (Lib.compareBytes L L')

theorem ret_int {k : IntKind} {a b : Int} (h : a = b) : Ending.returned (.int k a) = .returned (.int k b) := by rw [h]

set_option maxHeartbeats 1000000 in
theorem Or_any (b : Nat) (x y z : Int) (w : World) (h0 : w.cell? ⟨b, 0, none⟩ = some (.int .i64 x)) (h1 : w.cell? ⟨b, 1, none⟩ = some (.int .i64 y)) (h2 : w.cell? ⟨b, 2, none⟩ = some (.int .i64 z)) :
    Calls Tryz.prog 146 #[.slice (some ⟨b, 0, none⟩) 3 3] w fun e w' => e = .returned (.int .i64 (orI x y z)) ∧ w' = w := by
  have fin : Hid (orI x y z = if x = 0 then (if y = 0 then z else y) else x) := rfl
  go_enter Tryz.func146, Tryz.ntmps146
  go_wp2
  go_loop [8] (fun i => ∃ k : Int, 0 ≤ k ∧ k ≤ 3 ∧ i = .int .i64 k ∧ (0 < k → x = 0) ∧ (1 < k → y = 0) ∧ (2 < k → z = 0)) (fun i => (3 - intOf i).toNat)
  case atStart => exact ⟨0, by omega, by omega, rfl, by omega, by omega, by omega⟩
  case round =>
    obtain ⟨k, hk, hk', rfl, q0, q1, q2⟩ := hrel
    rcases (by omega : k = 0 ∨ k = 1 ∨ k = 2 ∨ k = 3) with rfl | rfl | rfl | rfl
    · clear hk hk' q0 q1 q2
      cases hx : (x != 0)
      · go_wp2
        simp at hx
        exact ⟨⟨1, by omega, by omega, by go_num, by omega, by omega, by omega⟩, by simp [intOf]⟩
      · go_wp2
        go_ret
        simp at hx
        exact ⟨ret_int (by rw [fin.out]; simp [hx]), rfl⟩
    · have hx : Hid (x = 0) := q0 (by omega)
      clear hk hk' q0 q1 q2
      cases hy : (y != 0)
      · go_wp2
        simp at hy
        exact ⟨⟨2, by omega, by omega, by go_num, fun _ => hx.out, by omega, by omega⟩, by simp [intOf]⟩
      · go_wp2
        go_ret
        simp at hy
        exact ⟨ret_int (by rw [fin.out]; simp [hx.out, hy]), rfl⟩
    · have hx : Hid (x = 0) := q0 (by omega)
      have hy : Hid (y = 0) := q1 (by omega)
      clear hk hk' q0 q1 q2
      cases hz : (z != 0)
      · go_wp2
        simp at hz
        exact ⟨⟨3, by omega, by omega, by go_num, fun _ => hx.out, fun _ => hy.out, by omega⟩, by simp [intOf]⟩
      · go_wp2
        go_ret
        exact ⟨ret_int (by rw [fin.out]; simp [hx.out, hy.out]), rfl⟩
    · have hx : Hid (x = 0) := q0 (by omega)
      have hy : Hid (y = 0) := q1 (by omega)
      have hz : Hid (z = 0) := q2 (by omega)
      clear hk hk' q0 q1 q2
      go_wp2
      go_ret
      exact ⟨ret_int (by rw [fin.out]; simp [hx.out, hy.out, hz.out]), rfl⟩

set_option maxHeartbeats 4000000 in
theorem Compare_any (k : Int) (S L : List UInt8) (k' : Int) (S' L' : List UInt8) (w : World) :
    Calls Tryz.prog 147 #[.agg #[.int .i64 k, .string ⟨S.toArray⟩, .string ⟨L.toArray⟩], .agg #[.int .i64 k', .string ⟨S'.toArray⟩, .string ⟨L'.toArray⟩]] w fun e w' => e = .returned (.int .i64 (cmpT k S L k' S' L')) ∧ Below w.heap.size w w' := by
  have fin : Hid (cmpT k S L k' S' L' = orI (Lib.compareInt k k') (Lib.compareBytes S S') (Lib.compareBytes L L')) := rfl
  go_enter Tryz.func147, Tryz.ntmps147
  go_wp2_with fail
  go_region_held3 (fun W => W.cell? ⟨w.heap.size, 0, none⟩ = some (.int .i64 k) ∧ W.cell? ⟨w.heap.size, 1, none⟩ = some (.string ⟨S.toArray⟩) ∧ W.cell? ⟨w.heap.size, 2, none⟩ = some (.string ⟨L.toArray⟩)
      ∧ W.cell? ⟨w.heap.size + 1, 0, none⟩ = some (.int .i64 k') ∧ W.cell? ⟨w.heap.size + 1, 1, none⟩ = some (.string ⟨S'.toArray⟩) ∧ W.cell? ⟨w.heap.size + 1, 2, none⟩ = some (.string ⟨L'.toArray⟩)) (go_keep) (first
    | (go_at_call 193; refine (Tryz.cmp_Compare_int k k' _).mono ?_; rintro e w3 ⟨rfl, rfl⟩)
    | (go_at_call_of 194 (Value.string ⟨S.toArray⟩); refine (Tryz.strings_Compare ⟨S.toArray⟩ ⟨S'.toArray⟩ _).mono ?_; rintro e w3 ⟨rfl, rfl⟩)
    | (go_at_call_of 194 (Value.string ⟨L.toArray⟩); refine (Tryz.strings_Compare ⟨L.toArray⟩ ⟨L'.toArray⟩ _).mono ?_; rintro e w3 ⟨rfl, rfl⟩)
    | (go_at_call 146; refine (Or_any (w.heap.size + 1 + 1) (Lib.compareInt k k') (Lib.compareBytes S S') (Lib.compareBytes L L') _ (by go_simp) (by go_simp) (by go_simp)).mono ?_; rintro e w3 ⟨rfl, rfl⟩))
  go_wp2
  go_ret
  exact ⟨rfl, ((bstep (bstep (balloc _ _) (balloc _ _)) (balloc _ _))).drew⟩
end Go.Proofs.YtnlcfnpcjkcdmafGreatDoor

/- Worlds that have grown by blocks and draws alone; term.Compare and triple.Compare lay such. -/
namespace Go.Proofs.YtnlcfnpcjkcdmafGreatDoor
open Go Go.RowKit Go.Proofs Go.Sort

/-- the world has grown: new blocks behind the heap, and draws; nothing else -/
def Grew (w w' : World) : Prop := ∃ q os, w' = grow (w.drewN q) os
theorem Grew.refl (w : World) : Grew w w := ⟨0, #[], by simp [grow, World.drewN]⟩
theorem Grew.trans {a b c : World} (h : Grew a b) (k : Grew b c) : Grew a c := by
  obtain ⟨q, os, rfl⟩ := h
  obtain ⟨q', os', rfl⟩ := k
  exact ⟨q + q', os ++ os', by simp [grow, World.drewN, Nat.add_assoc, Array.append_assoc]⟩
theorem grew_alloc (w : World) (o : Obj) : Grew w (w.alloc o) := ⟨0, #[o], by rw [alloc_eq_grow]; rfl⟩
theorem grew_drew (w : World) : Grew w w.drew := ⟨1, #[], by rw [grow_empty]; rfl⟩
theorem Grew.below {w w' : World} (h : Grew w w') : Below w.heap.size w w' := by
  obtain ⟨q, os, rfl⟩ := h
  exact ⟨rfl, rfl, rfl, by simp [grow, World.drewN], fun k hk => by simp [grow, World.drewN, Array.getElem?_append, hk]⟩
theorem Grew.drew {w w' : World} (h : Grew w w') : Grew w w'.drew := h.trans (grew_drew _)
theorem Grew.keep {W W' : World} (h : Grew W W') (p : Addr) (v : Value) (hv : W.cell? p = some v) : W'.cell? p = some v := (h.below.cell (World.block_lt_of_cell? W p hv)).trans hv

set_option maxHeartbeats 4000000 in
theorem Compare_grew (k : Int) (S L : List UInt8) (k' : Int) (S' L' : List UInt8) (w : World) :
    Calls Tryz.prog 147 #[.agg #[.int .i64 k, .string ⟨S.toArray⟩, .string ⟨L.toArray⟩], .agg #[.int .i64 k', .string ⟨S'.toArray⟩, .string ⟨L'.toArray⟩]] w fun e w' => e = .returned (.int .i64 (cmpT k S L k' S' L')) ∧ Grew w w' := by
  have fin : Hid (cmpT k S L k' S' L' = orI (Lib.compareInt k k') (Lib.compareBytes S S') (Lib.compareBytes L L')) := rfl
  go_enter Tryz.func147, Tryz.ntmps147
  go_wp2_with fail
  go_region_held3 (fun W => W.cell? ⟨w.heap.size, 0, none⟩ = some (.int .i64 k) ∧ W.cell? ⟨w.heap.size, 1, none⟩ = some (.string ⟨S.toArray⟩) ∧ W.cell? ⟨w.heap.size, 2, none⟩ = some (.string ⟨L.toArray⟩)
      ∧ W.cell? ⟨w.heap.size + 1, 0, none⟩ = some (.int .i64 k') ∧ W.cell? ⟨w.heap.size + 1, 1, none⟩ = some (.string ⟨S'.toArray⟩) ∧ W.cell? ⟨w.heap.size + 1, 2, none⟩ = some (.string ⟨L'.toArray⟩)) (go_keep) (first
    | (go_at_call 193; refine (Tryz.cmp_Compare_int k k' _).mono ?_; rintro e w3 ⟨rfl, rfl⟩)
    | (go_at_call_of 194 (Value.string ⟨S.toArray⟩); refine (Tryz.strings_Compare ⟨S.toArray⟩ ⟨S'.toArray⟩ _).mono ?_; rintro e w3 ⟨rfl, rfl⟩)
    | (go_at_call_of 194 (Value.string ⟨L.toArray⟩); refine (Tryz.strings_Compare ⟨L.toArray⟩ ⟨L'.toArray⟩ _).mono ?_; rintro e w3 ⟨rfl, rfl⟩)
    | (go_at_call 146; refine (Or_any (w.heap.size + 1 + 1) (Lib.compareInt k k') (Lib.compareBytes S S') (Lib.compareBytes L L') _ (by go_simp) (by go_simp) (by go_simp)).mono ?_; rintro e w3 ⟨rfl, rfl⟩))
  go_wp2
  go_ret
  exact ⟨rfl, (((grew_alloc _ _).trans (grew_alloc _ _)).trans (grew_alloc _ _)).drew⟩

/-- eighteen cells, behind a call that lays blocks and draws -/
theorem keep18 {W W' : World} {p0 p1 p2 p3 p4 p5 p6 p7 p8 p9 p10 p11 p12 p13 p14 p15 p16 p17 : Addr} {v0 v1 v2 v3 v4 v5 v6 v7 v8 v9 v10 v11 v12 v13 v14 v15 v16 v17 : Value}
    (h : W.cell? p0 = some v0 ∧ W.cell? p1 = some v1 ∧ W.cell? p2 = some v2 ∧ W.cell? p3 = some v3 ∧ W.cell? p4 = some v4 ∧ W.cell? p5 = some v5 ∧ W.cell? p6 = some v6 ∧ W.cell? p7 = some v7 ∧ W.cell? p8 = some v8 ∧ W.cell? p9 = some v9 ∧ W.cell? p10 = some v10 ∧ W.cell? p11 = some v11 ∧ W.cell? p12 = some v12 ∧ W.cell? p13 = some v13 ∧ W.cell? p14 = some v14 ∧ W.cell? p15 = some v15 ∧ W.cell? p16 = some v16 ∧ W.cell? p17 = some v17) (hb : Grew W W') : W'.cell? p0 = some v0 ∧ W'.cell? p1 = some v1 ∧ W'.cell? p2 = some v2 ∧ W'.cell? p3 = some v3 ∧ W'.cell? p4 = some v4 ∧ W'.cell? p5 = some v5 ∧ W'.cell? p6 = some v6 ∧ W'.cell? p7 = some v7 ∧ W'.cell? p8 = some v8 ∧ W'.cell? p9 = some v9 ∧ W'.cell? p10 = some v10 ∧ W'.cell? p11 = some v11 ∧ W'.cell? p12 = some v12 ∧ W'.cell? p13 = some v13 ∧ W'.cell? p14 = some v14 ∧ W'.cell? p15 = some v15 ∧ W'.cell? p16 = some v16 ∧ W'.cell? p17 = some v17 := by
  have q := hb.keep
  obtain ⟨h0, h1, h2, h3, h4, h5, h6, h7, h8, h9, h10, h11, h12, h13, h14, h15, h16, h17⟩ := h
  exact ⟨q _ _ h0, q _ _ h1, q _ _ h2, q _ _ h3, q _ _ h4, q _ _ h5, q _ _ h6, q _ _ h7, q _ _ h8, q _ _ h9, q _ _ h10, q _ _ h11, q _ _ h12, q _ _ h13, q _ _ h14, q _ _ h15, q _ _ h16, q _ _ h17⟩

set_option maxHeartbeats 8000000 in
set_option maxRecDepth 100000 in
theorem TCompare_grew (xk1 : Int) (xS1 xL1 : List UInt8) (xk2 : Int) (xS2 xL2 : List UInt8) (xk3 : Int) (xS3 xL3 : List UInt8) (yk1 : Int) (yS1 yL1 : List UInt8) (yk2 : Int) (yS2 yL2 : List UInt8) (yk3 : Int) (yS3 yL3 : List UInt8) (w : World) :
    Calls Tryz.prog 114 #[.agg #[.int .i64 xk1, .string ⟨xS1.toArray⟩, .string ⟨xL1.toArray⟩, .int .i64 xk2, .string ⟨xS2.toArray⟩, .string ⟨xL2.toArray⟩, .int .i64 xk3, .string ⟨xS3.toArray⟩, .string ⟨xL3.toArray⟩], .agg #[.int .i64 yk1, .string ⟨yS1.toArray⟩, .string ⟨yL1.toArray⟩, .int .i64 yk2, .string ⟨yS2.toArray⟩, .string ⟨yL2.toArray⟩, .int .i64 yk3, .string ⟨yS3.toArray⟩, .string ⟨yL3.toArray⟩]] w
      fun e w' => e = .returned (.int .i64 (orI (cmpT xk1 xS1 xL1 yk1 yS1 yL1) (cmpT xk2 xS2 xL2 yk2 yS2 yL2) (cmpT xk3 xS3 xL3 yk3 yS3 yL3))) ∧ Grew w w' := by
  have H1 := fun W => Compare_grew xk1 xS1 xL1 yk1 yS1 yL1 W
  have H2 := fun W => Compare_grew xk2 xS2 xL2 yk2 yS2 yL2 W
  have H3 := fun W => Compare_grew xk3 xS3 xL3 yk3 yS3 yL3 W
  generalize cmpT xk1 xS1 xL1 yk1 yS1 yL1 = c1 at H1 ⊢
  generalize cmpT xk2 xS2 xL2 yk2 yS2 yL2 = c2 at H2 ⊢
  generalize cmpT xk3 xS3 xL3 yk3 yS3 yL3 = c3 at H3 ⊢
  go_enter Tryz.func114, Tryz.ntmps114
  go_wp2_with fail
  go_region_held3 (fun W => W.cell? ⟨w.heap.size, 0, none⟩ = some (.int .i64 xk1) ∧ W.cell? ⟨w.heap.size, 1, none⟩ = some (.string ⟨xS1.toArray⟩) ∧ W.cell? ⟨w.heap.size, 2, none⟩ = some (.string ⟨xL1.toArray⟩) ∧ W.cell? ⟨w.heap.size, 3, none⟩ = some (.int .i64 xk2) ∧ W.cell? ⟨w.heap.size, 4, none⟩ = some (.string ⟨xS2.toArray⟩) ∧ W.cell? ⟨w.heap.size, 5, none⟩ = some (.string ⟨xL2.toArray⟩) ∧ W.cell? ⟨w.heap.size, 6, none⟩ = some (.int .i64 xk3) ∧ W.cell? ⟨w.heap.size, 7, none⟩ = some (.string ⟨xS3.toArray⟩) ∧ W.cell? ⟨w.heap.size, 8, none⟩ = some (.string ⟨xL3.toArray⟩) ∧ W.cell? ⟨w.heap.size + 1, 0, none⟩ = some (.int .i64 yk1) ∧ W.cell? ⟨w.heap.size + 1, 1, none⟩ = some (.string ⟨yS1.toArray⟩) ∧ W.cell? ⟨w.heap.size + 1, 2, none⟩ = some (.string ⟨yL1.toArray⟩) ∧ W.cell? ⟨w.heap.size + 1, 3, none⟩ = some (.int .i64 yk2) ∧ W.cell? ⟨w.heap.size + 1, 4, none⟩ = some (.string ⟨yS2.toArray⟩) ∧ W.cell? ⟨w.heap.size + 1, 5, none⟩ = some (.string ⟨yL2.toArray⟩) ∧ W.cell? ⟨w.heap.size + 1, 6, none⟩ = some (.int .i64 yk3) ∧ W.cell? ⟨w.heap.size + 1, 7, none⟩ = some (.string ⟨yS3.toArray⟩) ∧ W.cell? ⟨w.heap.size + 1, 8, none⟩ = some (.string ⟨yL3.toArray⟩)) (first | exact keep18 (by assumption) hb1 | exact keep18 (by assumption) hb2 | exact keep18 (by assumption) hb3 | go_keep) (first
    | (go_at_call_of 147 (Value.agg #[.int .i64 xk1, .string ⟨xS1.toArray⟩, .string ⟨xL1.toArray⟩]); refine (H1 _).mono ?_; rintro e w1 ⟨rfl, hb1⟩)
    | (go_at_call_of 147 (Value.agg #[.int .i64 xk2, .string ⟨xS2.toArray⟩, .string ⟨xL2.toArray⟩]); refine (H2 _).mono ?_; rintro e w2 ⟨rfl, hb2⟩)
    | (go_at_call_of 147 (Value.agg #[.int .i64 xk3, .string ⟨xS3.toArray⟩, .string ⟨xL3.toArray⟩]); refine (H3 _).mono ?_; rintro e w3 ⟨rfl, hb3⟩)
    | (go_at_call 146; refine (Or_any _ c1 c2 c3 _ (by go_simp) (by go_simp) (by go_simp)).mono ?_; rintro e w4 ⟨rfl, rfl⟩))
  go_wp2
  go_ret
  exact ⟨rfl, (((((grew_alloc _ _).trans (grew_alloc _ _)).drew.trans hb1).trans hb2).trans hb3).trans (grew_alloc _ _)⟩
end Go.Proofs.YtnlcfnpcjkcdmafGreatDoor

/- Triples as plain data; a row of them in memory; one that is read at a place. -/
namespace Go.Proofs.YtnlcfnpcjkcdmafGreatDoor
open Go Go.RowKit Go.Proofs

/-- a term: its kind, its text, its language; a triple: three terms -/
abbrev Tm := Int × List UInt8 × List UInt8
abbrev Tr := Tm × Tm × Tm

/-- a triple's nine cells -/
def encTr (x : Tr) : List Value := [.int .i64 x.1.1, .string ⟨x.1.2.1.toArray⟩, .string ⟨x.1.2.2.toArray⟩, .int .i64 x.2.1.1, .string ⟨x.2.1.2.1.toArray⟩, .string ⟨x.2.1.2.2.toArray⟩, .int .i64 x.2.2.1, .string ⟨x.2.2.2.1.toArray⟩, .string ⟨x.2.2.2.2.toArray⟩]
def cellsT (l : List Tr) : List Value := l.flatMap encTr
theorem encTr_len (x : Tr) : (encTr x).length = 9 := rfl
theorem encTr_one (x : Tr) : ∀ v ∈ encTr x, v.oneCell' = true := by
  intro v hv
  simp [encTr] at hv
  rcases hv with rfl | rfl | rfl | rfl | rfl | rfl | rfl | rfl | rfl <;> rfl
theorem cellsT_len (l : List Tr) : (cellsT l).length = l.length * 9 := by
  induction l with
  | nil => rfl
  | cons x r ih => simp only [cellsT, List.flatMap_cons, List.length_append, List.length_cons] at *; rw [ih, encTr_len]; omega
theorem cellsT_one (l : List Tr) : ∀ v ∈ cellsT l, v.oneCell' = true := by
  intro v hv
  simp only [cellsT, List.mem_flatMap] at hv
  obtain ⟨x, _, hx⟩ := hv
  exact encTr_one x v hx
theorem cellsT_at (l : List Tr) (i : Nat) (h : i < l.length) (j : Nat) (hj : j < 9) : (cellsT l)[i * 9 + j]? = (encTr l[i])[j]? := by
  induction l generalizing i with
  | nil => simp at h
  | cons x r ih =>
    simp only [cellsT, List.flatMap_cons] at *
    cases i with
    | zero => rw [List.getElem?_append_left (by rw [encTr_len]; omega)]; simp
    | succ n =>
      rw [List.getElem?_append_right (by rw [encTr_len]; omega), encTr_len, show (n + 1) * 9 + j - 9 = n * 9 + j by omega, ih n (by simpa using h)]
      simp

/-- the row of cells at a place is these triples' -/
def RowR (w : World) (b o : Nat) (l : List Tr) : Prop := ∀ j v, (cellsT l)[j]? = some v → w.cell? ⟨b, o + j, none⟩ = some v

theorem RowR.below {w w' : World} {b o : Nat} {l : List Tr} (h : RowR w b o l) (hb : Below w.heap.size w w') : RowR w' b o l := fun j v hv =>
  (hb.cell (World.block_lt_of_cell? w _ (h j v hv))).trans (h j v hv)

theorem RowR.at {w : World} {b o : Nat} {l : List Tr} (h : RowR w b o l) (i : Nat) (hi : i < l.length) :
    w.cell? ⟨b, o + i * 9, none⟩ = some (.int .i64 l[i].1.1) ∧ w.cell? ⟨b, o + i * 9 + 1, none⟩ = some (.string ⟨l[i].1.2.1.toArray⟩) ∧ w.cell? ⟨b, o + i * 9 + 2, none⟩ = some (.string ⟨l[i].1.2.2.toArray⟩)
    ∧ w.cell? ⟨b, o + i * 9 + 3, none⟩ = some (.int .i64 l[i].2.1.1) ∧ w.cell? ⟨b, o + i * 9 + 4, none⟩ = some (.string ⟨l[i].2.1.2.1.toArray⟩) ∧ w.cell? ⟨b, o + i * 9 + 5, none⟩ = some (.string ⟨l[i].2.1.2.2.toArray⟩)
    ∧ w.cell? ⟨b, o + i * 9 + 6, none⟩ = some (.int .i64 l[i].2.2.1) ∧ w.cell? ⟨b, o + i * 9 + 7, none⟩ = some (.string ⟨l[i].2.2.2.1.toArray⟩) ∧ w.cell? ⟨b, o + i * 9 + 8, none⟩ = some (.string ⟨l[i].2.2.2.2.toArray⟩) := by
  have q : ∀ j v, j < 9 → (encTr l[i])[j]? = some v → w.cell? ⟨b, o + i * 9 + j, none⟩ = some v := fun j v hj hv => by
    rw [Nat.add_assoc]; exact h _ v (by rw [cellsT_at l i hi j hj]; exact hv)
  exact ⟨q 0 _ (by omega) rfl, q 1 _ (by omega) rfl, q 2 _ (by omega) rfl, q 3 _ (by omega) rfl, q 4 _ (by omega) rfl, q 5 _ (by omega) rfl, q 6 _ (by omega) rfl, q 7 _ (by omega) rfl, q 8 _ (by omega) rfl⟩

/-- what is wrong with a triple; which of two is ahead; its texts are no longer than a text may be -/
def chkTr (x : Tr) : Int := check3 (checkN x.1.1 x.1.2.1 x.1.2.2) (checkN x.2.1.1 x.2.1.2.1 x.2.1.2.2) (checkN x.2.2.1 x.2.2.2.1 x.2.2.2.2) x.1.1 x.2.1.1
def cmpTm (x y : Tm) : Int := cmpT x.1 x.2.1 x.2.2 y.1 y.2.1 y.2.2
def cmpTr (x y : Tr) : Int := orI (cmpTm x.1 y.1) (cmpTm x.2.1 y.2.1) (cmpTm x.2.2 y.2.2)
def fitTr (x : Tr) : Prop := (x.1.2.1.length ≤ maxLen ∧ x.1.2.2.length ≤ maxLen) ∧ (x.2.1.2.1.length ≤ maxLen ∧ x.2.1.2.2.length ≤ maxLen) ∧ (x.2.2.2.1.length ≤ maxLen ∧ x.2.2.2.2.length ≤ maxLen)
def valTr (x : Tr) : Value := .agg #[.int .i64 x.1.1, .string ⟨x.1.2.1.toArray⟩, .string ⟨x.1.2.2.toArray⟩, .int .i64 x.2.1.1, .string ⟨x.2.1.2.1.toArray⟩, .string ⟨x.2.1.2.2.toArray⟩, .int .i64 x.2.2.1, .string ⟨x.2.2.2.1.toArray⟩, .string ⟨x.2.2.2.2.toArray⟩]

theorem ChkTr_any (x : Tr) (w : World) (hx : fitTr x) : Calls Tryz.prog 113 #[valTr x] w fun e w' => e = .returned (errV (chkTr x)) ∧ Below w.heap.size w w' :=
  TCheck_any _ _ _ _ _ _ _ _ _ w hx.1.1 hx.1.2 hx.2.1.1 hx.2.1.2 hx.2.2.1 hx.2.2.2
theorem CmpTr_any (x y : Tr) (w : World) : Calls Tryz.prog 114 #[valTr x, valTr y] w fun e w' => e = .returned (.int .i64 (cmpTr x y)) ∧ Grew w w' :=
  TCompare_grew _ _ _ _ _ _ _ _ _ _ _ _ _ _ _ _ _ _ w

set_option maxHeartbeats 1000000 in
theorem sortFault_any (b o cap bl : Nat) (l : List Tr) (i : Nat) (w : World) (hi : i < l.length) (hx : fitTr l[i])
    (hbox : w.cell? ⟨bl, 0, none⟩ = some (.slice (some ⟨b, o, none⟩) l.length cap)) (hrow : RowR w b o l) :
    Calls Tryz.prog 207 #[.int .i64 i, .pointer (some ⟨bl, 0, none⟩)] w fun e w' => e = .returned (errV (chkTr l[i])) ∧ Below w.heap.size w w' := by
  have H := fun W => ChkTr_any l[i] W hx
  obtain ⟨c0, c1, c2, c3, c4, c5, c6, c7, c8⟩ := hrow.at i hi
  clear hrow hx
  go_enter Tryz.func207, Tryz.ntmps207
  go_wp2_with fail
  refine (H _).mono ?_
  rintro e w1 ⟨rfl, hb1⟩
  go_wp2_with fail
  go_ret
  exact ⟨rfl, hb1⟩

theorem chk_zero {x : Tr} (h : chkTr x = 0) : checkN x.1.1 x.1.2.1 x.1.2.2 = 0 ∧ checkN x.2.1.1 x.2.1.2.1 x.2.1.2.2 = 0 ∧ checkN x.2.2.1 x.2.2.2.1 x.2.2.2.2 = 0 ∧ shapeB x.1.1 x.2.1.1 = false := by
  unfold chkTr check3 at h
  by_cases h1 : checkN x.1.1 x.1.2.1 x.1.2.2 = 0
  · rw [if_pos h1] at h
    by_cases h2 : checkN x.2.1.1 x.2.1.2.1 x.2.1.2.2 = 0
    · rw [if_pos h2] at h
      by_cases h3 : checkN x.2.2.1 x.2.2.2.1 x.2.2.2.2 = 0
      · rw [if_pos h3] at h
        cases h4 : shapeB x.1.1 x.2.1.1
        · exact ⟨h1, h2, h3, rfl⟩
        · rw [h4] at h; simp at h
      · rw [if_neg h3] at h; exact absurd h h3
    · rw [if_neg h2] at h; exact absurd h h2
  · rw [if_neg h1] at h; exact absurd h h1

end Go.Proofs.YtnlcfnpcjkcdmafGreatDoor

/- Terms are in one order: plain lists, no program. -/
namespace Go.Proofs.YtnlcfnpcjkcdmafGreatDoor
open Go Go.RowKit Go.Proofs

/-! ### one order -/
theorem cb_zero (a : List UInt8) : ∀ b, Lib.compareBytes a b = 0 ↔ a = b := by
  induction a with
  | nil => intro b; cases b <;> simp [Lib.compareBytes]
  | cons x xs ih =>
    intro b
    cases b with
    | nil => simp [Lib.compareBytes]
    | cons y ys =>
      by_cases h1 : x < y
      · simp [Lib.compareBytes, h1]; intro h; subst h; exact absurd h1 (by simp)
      · by_cases h2 : y < x
        · simp [Lib.compareBytes, h1, h2]; intro h; subst h; exact absurd h2 (by simp)
        · have : x = y := UInt8.le_antisymm (UInt8.not_lt.1 h2) (UInt8.not_lt.1 h1)
          subst this
          simp [Lib.compareBytes, ih]

theorem cb_neg (a : List UInt8) : ∀ b, Lib.compareBytes b a = - Lib.compareBytes a b := by
  induction a with
  | nil => intro b; cases b <;> simp [Lib.compareBytes]
  | cons x xs ih =>
    intro b
    cases b with
    | nil => simp [Lib.compareBytes]
    | cons y ys =>
      by_cases h1 : x < y
      · have h3 : ¬ y < x := fun h => by have := UInt8.lt_iff_toNat_lt.1 h; have := UInt8.lt_iff_toNat_lt.1 h1; omega
        simp [Lib.compareBytes, h1, h3]
      · by_cases h2 : y < x
        · simp [Lib.compareBytes, h1, h2]
        · simp [Lib.compareBytes, h1, h2, ih]

theorem cb_trans (a : List UInt8) : ∀ b c, Lib.compareBytes a b ≤ 0 → Lib.compareBytes b c ≤ 0 → Lib.compareBytes a c ≤ 0 := by
  induction a with
  | nil => intro b c _ _; cases c <;> simp [Lib.compareBytes]
  | cons x xs ih =>
    intro b c h1 h2
    cases b with
    | nil => simp [Lib.compareBytes] at h1
    | cons y ys =>
      cases c with
      | nil => simp [Lib.compareBytes] at h2
      | cons z zs =>
        by_cases a1 : x < y
        · by_cases a2 : y < z
          · have : x < z := UInt8.lt_iff_toNat_lt.2 (by have := UInt8.lt_iff_toNat_lt.1 a1; have := UInt8.lt_iff_toNat_lt.1 a2; omega)
            simp [Lib.compareBytes, this]
          · by_cases a3 : z < y
            · simp [Lib.compareBytes, a2, a3] at h2
            · have : y = z := UInt8.le_antisymm (UInt8.not_lt.1 a3) (UInt8.not_lt.1 a2)
              subst this
              simp [Lib.compareBytes, a1]
        · by_cases a0 : y < x
          · simp [Lib.compareBytes, a1, a0] at h1
          · have : x = y := UInt8.le_antisymm (UInt8.not_lt.1 a0) (UInt8.not_lt.1 a1)
            subst this
            by_cases a2 : x < z
            · simp [Lib.compareBytes, a2]
            · by_cases a3 : z < x
              · simp [Lib.compareBytes, a2, a3] at h2
              · simp only [Lib.compareBytes, a1, a2, a3, if_false] at h1 h2 ⊢
                exact ih ys zs h1 h2

theorem ci_zero (a b : Int) : Lib.compareInt a b = 0 ↔ a = b := by
  unfold Lib.compareInt; split
  · omega
  · split <;> omega
theorem ci_neg (a b : Int) : Lib.compareInt b a = - Lib.compareInt a b := by
  unfold Lib.compareInt
  repeat' split
  all_goals omega
theorem ci_trans (a b c : Int) (h1 : Lib.compareInt a b ≤ 0) (h2 : Lib.compareInt b c ≤ 0) : Lib.compareInt a c ≤ 0 := by
  unfold Lib.compareInt at *
  repeat' split
  all_goals (repeat' split at h1)
  all_goals (repeat' split at h2)
  all_goals omega

theorem cmpT_zero (k : Int) (S L : List UInt8) (k' : Int) (S' L' : List UInt8) : cmpT k S L k' S' L' = 0 ↔ k = k' ∧ S = S' ∧ L = L' := by
  have h1 := ci_zero k k'
  have h2 := cb_zero S S'
  have h3 := cb_zero L L'
  unfold cmpT orI
  by_cases q1 : Lib.compareInt k k' = 0
  · rw [if_pos q1]
    by_cases q2 : Lib.compareBytes S S' = 0
    · rw [if_pos q2]
      exact ⟨fun h => ⟨h1.1 q1, h2.1 q2, h3.1 h⟩, fun h => h3.2 h.2.2⟩
    · rw [if_neg q2]
      exact ⟨fun h => absurd h q2, fun h => absurd (h2.2 h.2.1) q2⟩
  · rw [if_neg q1]
    exact ⟨fun h => absurd h q1, fun h => absurd (h1.2 h.1) q1⟩

theorem cmpT_neg (k : Int) (S L : List UInt8) (k' : Int) (S' L' : List UInt8) : cmpT k S L k' S' L' = - cmpT k' S' L' k S L := by
  unfold cmpT orI
  rw [ci_neg k k', cb_neg S S', cb_neg L L']
  repeat' split
  all_goals omega

theorem orI_le (x y z : Int) : orI x y z ≤ 0 ↔ x < 0 ∨ (x = 0 ∧ (y < 0 ∨ (y = 0 ∧ z ≤ 0))) := by
  unfold orI
  by_cases h : x = 0
  · by_cases h' : y = 0
    · simp [h, h']
    · rw [if_pos h, if_neg h']; omega
  · rw [if_neg h]; omega

theorem cmpT_trans (k1 : Int) (S1 L1 : List UInt8) (k2 : Int) (S2 L2 : List UInt8) (k3 : Int) (S3 L3 : List UInt8)
    (h12 : cmpT k1 S1 L1 k2 S2 L2 ≤ 0) (h23 : cmpT k2 S2 L2 k3 S3 L3 ≤ 0) : cmpT k1 S1 L1 k3 S3 L3 ≤ 0 := by
  have a1 := ci_trans k1 k2 k3
  have a2 := cb_trans S1 S2 S3
  have a3 := cb_trans L1 L2 L3
  have b1 : Lib.compareInt k1 k3 = 0 → Lib.compareInt k2 k3 = - Lib.compareInt k1 k2 := fun h => by
    have := (ci_zero _ _).1 h; subst this; exact ci_neg _ _
  have b2 : Lib.compareBytes S1 S3 = 0 → Lib.compareBytes S2 S3 = - Lib.compareBytes S1 S2 := fun h => by
    have := (cb_zero _ _).1 h; subst this; exact cb_neg _ _
  have c1 : Lib.compareInt k1 k2 = 0 → Lib.compareInt k1 k3 = Lib.compareInt k2 k3 := fun h => by
    have := (ci_zero _ _).1 h; subst this; rfl
  have c2 : Lib.compareBytes S1 S2 = 0 → Lib.compareBytes S1 S3 = Lib.compareBytes S2 S3 := fun h => by
    have := (cb_zero _ _).1 h; subst this; rfl
  unfold cmpT at *
  rw [orI_le] at *
  generalize Lib.compareInt k1 k2 = x12 at *
  generalize Lib.compareInt k2 k3 = x23 at *
  generalize Lib.compareInt k1 k3 = x13 at *
  generalize Lib.compareBytes S1 S2 = y12 at *
  generalize Lib.compareBytes S2 S3 = y23 at *
  generalize Lib.compareBytes S1 S3 = y13 at *
  generalize Lib.compareBytes L1 L2 = z12 at *
  generalize Lib.compareBytes L2 L3 = z23 at *
  generalize Lib.compareBytes L1 L3 = z13 at *
  omega
end Go.Proofs.YtnlcfnpcjkcdmafGreatDoor

/- '==' on two terms; which of two is ahead, in numbers. -/
namespace Go.Proofs.YtnlcfnpcjkcdmafGreatDoor
open Go Go.RowKit Go.Proofs

def eqTB (k : Int) (S L : List UInt8) (k' : Int) (S' L' : List UInt8) : Bool := k == k' && (S == S' && L == L')

theorem eqTB_iff (k : Int) (S L : List UInt8) (k' : Int) (S' L' : List UInt8) : eqTB k S L k' S' L' = true ↔ k = k' ∧ S = S' ∧ L = L' := by simp [eqTB]

theorem toList_mk (l : List UInt8) : (⟨l.toArray⟩ : ByteArray).toList = l := by rw [ByteArray.toList_eq]

theorem equalTerm (k : Int) (S L : List UInt8) (k' : Int) (S' L' : List UInt8) (w : World) :
    (Op.equalIn 10000 95 (.agg #[.int .i64 k, .string ⟨S.toArray⟩, .string ⟨L.toArray⟩]) (.agg #[.int .i64 k', .string ⟨S'.toArray⟩, .string ⟨L'.toArray⟩])).run Tryz.prog w = .ok (eqTB k S L k' S' L') w := by
  have hS : Tryz.prog.underlying 95 = some (.struct (Tryz.prog.fieldsOf 95)) := by kernel_rfl
  rw [show (10000 : Nat) = 9999 + 1 from rfl, run_equalIn_agg w 9999 95 _ _ hS (by kernel_rfl)]
  simp only [Program.fieldsOf, Tryz.underlying95]
  go_simp
  unfold eqTB
  by_cases h1 : k = k' <;> by_cases h2 : S = S' <;> by_cases h3 : L = L' <;> simp [h1, h2, h3]

theorem cb_range (a : List UInt8) : ∀ b, -1 ≤ Lib.compareBytes a b ∧ Lib.compareBytes a b ≤ 1 := by
  induction a with
  | nil => intro b; cases b <;> simp [Lib.compareBytes]
  | cons x xs ih =>
    intro b
    cases b with
    | nil => simp [Lib.compareBytes]
    | cons y ys =>
      by_cases h1 : x < y
      · simp [Lib.compareBytes, h1]
      · by_cases h2 : y < x
        · simp [Lib.compareBytes, h1, h2]
        · simp only [Lib.compareBytes, h1, h2, if_false]; exact ih ys
theorem ci_range (a b : Int) : -1 ≤ Lib.compareInt a b ∧ Lib.compareInt a b ≤ 1 := by
  unfold Lib.compareInt
  repeat' split
  all_goals omega
theorem cmpT_range (k : Int) (S L : List UInt8) (k' : Int) (S' L' : List UInt8) : -1 ≤ cmpT k S L k' S' L' ∧ cmpT k S L k' S' L' ≤ 1 := by
  have h1 := ci_range k k'
  have h2 := cb_range S S'
  have h3 := cb_range L L'
  unfold cmpT orI
  repeat' split
  all_goals omega
theorem cmp_eq (k : Int) (S L : List UInt8) (k' : Int) (S' L' : List UInt8) : (cmpT k S L k' S' L' == 0) = eqTB k S L k' S' L' := by
  rw [Bool.eq_iff_iff, eqTB_iff, beq_iff_eq, cmpT_zero]
theorem cmp_neg_beq (k : Int) (S L : List UInt8) (k' : Int) (S' L' : List UInt8) : (cmpT k S L k' S' L' == - cmpT k' S' L' k S L) = true := by
  rw [beq_iff_eq]; exact cmpT_neg k S L k' S' L'
theorem cmp_tri (k1 : Int) (S1 L1 : List UInt8) (k2 : Int) (S2 L2 : List UInt8) (k3 : Int) (S3 L3 : List UInt8) :
    (0 < cmpT k1 S1 L1 k2 S2 L2) ∨ (¬ 0 < cmpT k1 S1 L1 k2 S2 L2 ∧ 0 < cmpT k2 S2 L2 k3 S3 L3) ∨ (¬ 0 < cmpT k1 S1 L1 k2 S2 L2 ∧ ¬ 0 < cmpT k2 S2 L2 k3 S3 L3 ∧ cmpT k1 S1 L1 k3 S3 L3 ≤ 0) := by
  have := cmpT_trans k1 S1 L1 k2 S2 L2 k3 S3 L3
  omega

end Go.Proofs.YtnlcfnpcjkcdmafGreatDoor

/- triple.Print: the three, a blank between. -/
namespace Go.Proofs.YtnlcfnpcjkcdmafGreatDoor
open Go Go.RowKit Go.Proofs
set_option synthInstance.maxSize 1000

attribute [local go_sem] eql_errV neq_errV guard_errV

theorem show_short (k : Int) (S L : List UInt8) (h : checkN k S L = 0) : (showL k S L).length ≤ 1000 := by
  obtain ⟨_, hS, hsp⟩ := check_zero h
  have hL := spell_lang hsp
  have h1 := quoteL_len S
  have h2 := markL_len L
  unfold showL
  repeat' split
  all_goals (simp; try omega)

theorem mk3 (w : World) : (Instr.makeSlice 38 (.int .i64 3) (.int .i64 3)).run Tryz.prog w = .ok (.slice (some ⟨w.heap.size, 0, none⟩) 3 3) (w.alloc (.cells #[.string ⟨#[]⟩, .string ⟨#[]⟩, .string ⟨#[]⟩] 9)) := by kernel_rfl
attribute [local go_sem] mk3

set_option maxHeartbeats 4000000 in
set_option maxRecDepth 100000 in
theorem printTerms_any (c : Nat) (k1 : Int) (S1 L1 : List UInt8) (k2 : Int) (S2 L2 : List UInt8) (k3 : Int) (S3 L3 : List UInt8) (w : World) (h1 : checkN k1 S1 L1 = 0) (h2 : checkN k2 S2 L2 = 0) (h3 : checkN k3 S3 L3 = 0)
    (a0 : w.cell? ⟨c, 0, none⟩ = some (.int .i64 k1)) (a1 : w.cell? ⟨c, 1, none⟩ = some (.string ⟨S1.toArray⟩)) (a2 : w.cell? ⟨c, 2, none⟩ = some (.string ⟨L1.toArray⟩))
    (b0 : w.cell? ⟨c, 3, none⟩ = some (.int .i64 k2)) (b1 : w.cell? ⟨c, 4, none⟩ = some (.string ⟨S2.toArray⟩)) (b2 : w.cell? ⟨c, 5, none⟩ = some (.string ⟨L2.toArray⟩))
    (d0 : w.cell? ⟨c, 6, none⟩ = some (.int .i64 k3)) (d1 : w.cell? ⟨c, 7, none⟩ = some (.string ⟨S3.toArray⟩)) (d2 : w.cell? ⟨c, 8, none⟩ = some (.string ⟨L3.toArray⟩)) :
    Calls Tryz.prog 135 #[.slice (some ⟨c, 0, none⟩) 3 3] w fun e w' => e = .returned (.tuple #[.string ⟨(joinUpto (showL k1 S1 L1) (showL k2 S2 L2) (showL k3 S3 L3) 2).toArray⟩, .nilIface]) ∧ Below w.heap.size w w' := by
  have P1 := fun W => Print_good k1 S1 L1 W h1
  have P2 := fun W => Print_good k2 S2 L2 W h2
  have P3 := fun W => Print_good k3 S3 L3 W h3
  have l1 := show_short k1 S1 L1 h1
  have l2 := show_short k2 S2 L2 h2
  have l3 := show_short k3 S3 L3 h3
  generalize showL k1 S1 L1 = x at P1 l1 ⊢
  generalize showL k2 S2 L2 = y at P2 l2 ⊢
  generalize showL k3 S3 L3 = z at P3 l3 ⊢
  have KC : Hid (∀ W, Below w.heap.size w W → (W.cell? ⟨c, 0, none⟩ = some (.int .i64 k1) ∧ W.cell? ⟨c, 1, none⟩ = some (.string ⟨S1.toArray⟩) ∧ W.cell? ⟨c, 2, none⟩ = some (.string ⟨L1.toArray⟩) ∧ W.cell? ⟨c, 3, none⟩ = some (.int .i64 k2) ∧ W.cell? ⟨c, 4, none⟩ = some (.string ⟨S2.toArray⟩) ∧ W.cell? ⟨c, 5, none⟩ = some (.string ⟨L2.toArray⟩) ∧ W.cell? ⟨c, 6, none⟩ = some (.int .i64 k3) ∧ W.cell? ⟨c, 7, none⟩ = some (.string ⟨S3.toArray⟩) ∧ W.cell? ⟨c, 8, none⟩ = some (.string ⟨L3.toArray⟩)) ∧ c < w.heap.size) := by
    intro W hb
    have q : ∀ (p : Addr) (v : Value), w.cell? p = some v → W.cell? p = some v := fun p v hv => (hb.cell (World.block_lt_of_cell? w p hv)).trans hv
    exact ⟨⟨q _ _ a0, q _ _ a1, q _ _ a2, q _ _ b0, q _ _ b1, q _ _ b2, q _ _ d0, q _ _ d1, q _ _ d2⟩, World.block_lt_of_cell? w _ a0⟩
  clear a0 a1 a2 b0 b1 b2 d0 d1 d2 h1 h2 h3
  go_enter Tryz.func135, Tryz.ntmps135
  go_wp2_with fail
  go_loopw [14] (fun i wr => ∃ k : Nat, k ≤ 3 ∧ i = .int .i64 k ∧ wr.cell? ⟨w.heap.size, 0, none⟩ = some (.string ⟨(if 0 < k then x else []).toArray⟩) ∧ wr.cell? ⟨w.heap.size, 1, none⟩ = some (.string ⟨(if 1 < k then y else []).toArray⟩) ∧ wr.cell? ⟨w.heap.size, 2, none⟩ = some (.string ⟨(if 2 < k then z else []).toArray⟩)
      ∧ wr.frozen? ⟨w.heap.size, 0, none⟩ = false ∧ wr.frozen? ⟨w.heap.size, 1, none⟩ = false ∧ wr.frozen? ⟨w.heap.size, 2, none⟩ = false ∧ w.heap.size < wr.heap.size ∧ Below w.heap.size w wr) (fun i wr => 3 - (intOf i).toNat)
  case atStart => exact ⟨0, by omega, rfl, by go_simp, by go_simp, by go_simp, by go_simp, by go_simp, by go_simp, by simp, balloc _ _⟩
  case round =>
    obtain ⟨k, hk, rfl, e0, e1, e2, f0, f1, f2, hz, hbr⟩ := hrel
    obtain ⟨⟨a0, a1, a2, b0, b1, b2, d0, d1, d2⟩, hc⟩ := KC.out wr hbr
    have hne : c ≠ w.heap.size := by omega
    rcases (by omega : k = 0 ∨ k = 1 ∨ k = 2 ∨ k = 3) with rfl | rfl | rfl | rfl
    · replace e0 : wr.cell? ⟨w.heap.size, 0, none⟩ = some (.string ⟨(([] : List UInt8)).toArray⟩) := e0
      replace e1 : wr.cell? ⟨w.heap.size, 1, none⟩ = some (.string ⟨(([] : List UInt8)).toArray⟩) := e1
      replace e2 : wr.cell? ⟨w.heap.size, 2, none⟩ = some (.string ⟨(([] : List UInt8)).toArray⟩) := e2
      go_wp2_with fail
      refine (P1 _).mono ?_
      rintro e w1 ⟨rfl, hb1⟩
      have hB := bstep (balloc _ _) hb1
      obtain ⟨kc, kf⟩ := bcell hB
      have g0 := (kc _ 0 hz).trans e0
      have g1 := (kc _ 1 hz).trans e1
      have g2 := (kc _ 2 hz).trans e2
      have m0 := (kf _ 0 hz).trans f0
      have m1 := (kf _ 1 hz).trans f1
      have m2 := (kf _ 2 hz).trans f2
      have hz1 : w.heap.size < w1.heap.size := by have := hB.size; omega
      clear kc kf
      go_wp2_with fail
      exact ⟨⟨1, by omega, by go_num, by go_simp, by go_simp, by go_simp, by go_simp, by go_simp, by go_simp, by simpa using hz1, (bstep hbr hB).setCell (p := ⟨w.heap.size, 0, none⟩) (Nat.le_refl _) _⟩, by simp [intOf]⟩
    · replace e0 : wr.cell? ⟨w.heap.size, 0, none⟩ = some (.string ⟨(x).toArray⟩) := e0
      replace e1 : wr.cell? ⟨w.heap.size, 1, none⟩ = some (.string ⟨(([] : List UInt8)).toArray⟩) := e1
      replace e2 : wr.cell? ⟨w.heap.size, 2, none⟩ = some (.string ⟨(([] : List UInt8)).toArray⟩) := e2
      go_wp2_with fail
      refine (P2 _).mono ?_
      rintro e w1 ⟨rfl, hb1⟩
      have hB := bstep (balloc _ _) hb1
      obtain ⟨kc, kf⟩ := bcell hB
      have g0 := (kc _ 0 hz).trans e0
      have g1 := (kc _ 1 hz).trans e1
      have g2 := (kc _ 2 hz).trans e2
      have m0 := (kf _ 0 hz).trans f0
      have m1 := (kf _ 1 hz).trans f1
      have m2 := (kf _ 2 hz).trans f2
      have hz1 : w.heap.size < w1.heap.size := by have := hB.size; omega
      clear kc kf
      go_wp2_with fail
      exact ⟨⟨2, by omega, by go_num, by go_simp, by go_simp, by go_simp, by go_simp, by go_simp, by go_simp, by simpa using hz1, (bstep hbr hB).setCell (p := ⟨w.heap.size, 1, none⟩) (Nat.le_refl _) _⟩, by simp [intOf]⟩
    · replace e0 : wr.cell? ⟨w.heap.size, 0, none⟩ = some (.string ⟨(x).toArray⟩) := e0
      replace e1 : wr.cell? ⟨w.heap.size, 1, none⟩ = some (.string ⟨(y).toArray⟩) := e1
      replace e2 : wr.cell? ⟨w.heap.size, 2, none⟩ = some (.string ⟨(([] : List UInt8)).toArray⟩) := e2
      go_wp2_with fail
      refine (P3 _).mono ?_
      rintro e w1 ⟨rfl, hb1⟩
      have hB := bstep (balloc _ _) hb1
      obtain ⟨kc, kf⟩ := bcell hB
      have g0 := (kc _ 0 hz).trans e0
      have g1 := (kc _ 1 hz).trans e1
      have g2 := (kc _ 2 hz).trans e2
      have m0 := (kf _ 0 hz).trans f0
      have m1 := (kf _ 1 hz).trans f1
      have m2 := (kf _ 2 hz).trans f2
      have hz1 : w.heap.size < w1.heap.size := by have := hB.size; omega
      clear kc kf
      go_wp2_with fail
      exact ⟨⟨3, by omega, by go_num, by go_simp, by go_simp, by go_simp, by go_simp, by go_simp, by go_simp, by simpa using hz1, (bstep hbr hB).setCell (p := ⟨w.heap.size, 2, none⟩) (Nat.le_refl _) _⟩, by simp [intOf]⟩
    · replace e0 : wr.cell? ⟨w.heap.size, 0, none⟩ = some (.string ⟨(x).toArray⟩) := e0
      replace e1 : wr.cell? ⟨w.heap.size, 1, none⟩ = some (.string ⟨(y).toArray⟩) := e1
      replace e2 : wr.cell? ⟨w.heap.size, 2, none⟩ = some (.string ⟨(z).toArray⟩) := e2
      have HJ := fun W (hb : Below wr.heap.size wr W) => Join_any w.heap.size x y z W l1 l2 l3 ((hb.cell hz).trans e0) ((hb.cell hz).trans e1) ((hb.cell hz).trans e2)
      go_wp2_with fail
      refine (HJ _ (Below.refl _ _)).mono ?_
      rintro e w1 ⟨rfl, hb1⟩
      go_wp2_with fail
      exact bodyPost_ret (v := .tuple #[.string ⟨(joinUpto x y z 2).toArray⟩, .nilIface]) (by simp [results, Tryz.results135, go_sem]) rfl ⟨rfl, bstep hbr hb1⟩

/-- a triple as text -/
def showTr (x : Tr) : List UInt8 := joinUpto (showL x.1.1 x.1.2.1 x.1.2.2) (showL x.2.1.1 x.2.1.2.1 x.2.1.2.2) (showL x.2.2.1 x.2.2.2.1 x.2.2.2.2) 2
theorem TPrint_bad (x : Tr) (w : World) (hx : fitTr x) (h : chkTr x ≠ 0) : Calls Tryz.prog 96 #[valTr x] w fun e w' => e = .returned (.tuple #[.string ⟨#[]⟩, errV (chkTr x)]) ∧ Below w.heap.size w w' := by
  have H := fun W => ChkTr_any x W hx
  have hc : (chkTr x == 0) = false := by simpa using h
  clear h
  unfold valTr at *
  go_enter Tryz.func96, Tryz.ntmps96
  go_wp2_with fail
  refine (H _).mono ?_
  rintro e w1 ⟨rfl, hb1⟩
  go_wp2_with fail
  exact bodyPost_ret (v := .tuple #[.string ⟨#[]⟩, errV (chkTr x)]) (by simp [results, Tryz.results96, go_sem]) rfl ⟨rfl, bstep (balloc _ _) hb1⟩

set_option maxHeartbeats 1000000 in
theorem TPrint_good (x : Tr) (w : World) (hx : fitTr x) (h : chkTr x = 0) : Calls Tryz.prog 96 #[valTr x] w fun e w' => e = .returned (.tuple #[.string ⟨(showTr x).toArray⟩, .nilIface]) ∧ Below w.heap.size w w' := by
  have H := fun W => ChkTr_any x W hx
  rw [h, show errV 0 = .nilIface from rfl] at H
  obtain ⟨h1, h2, h3, _⟩ := chk_zero h
  have HP := fun c W => printTerms_any c x.1.1 x.1.2.1 x.1.2.2 x.2.1.1 x.2.1.2.1 x.2.1.2.2 x.2.2.1 x.2.2.2.1 x.2.2.2.2 W h1 h2 h3
  clear h h1 h2 h3 hx
  have fin : Hid (showTr x = joinUpto (showL x.1.1 x.1.2.1 x.1.2.2) (showL x.2.1.1 x.2.1.2.1 x.2.1.2.2) (showL x.2.2.1 x.2.2.2.1 x.2.2.2.2) 2) := rfl
  unfold valTr at *
  go_enter Tryz.func96, Tryz.ntmps96
  go_wp2_with fail
  refine (H _).mono ?_
  rintro e w1 ⟨rfl, hb1⟩
  obtain ⟨a0, a1, a2, b0, b1, b2, d0, d1, d2, hz⟩ := ninebox hb1
  go_wp2_with fail
  refine (HP w1.heap.size _ (by go_simp) (by go_simp) (by go_simp) (by go_simp) (by go_simp) (by go_simp) (by go_simp) (by go_simp) (by go_simp)).mono ?_
  rintro e w2 ⟨rfl, hb2⟩
  go_wp2_with fail
  exact bodyPost_ret (v := .tuple #[.string ⟨(showTr x).toArray⟩, .nilIface]) (by rw [fin.out]; simp [results, Tryz.results96, go_sem]) rfl ⟨rfl, bstep (bstep (bstep (balloc _ _) hb1) (balloc _ _)) hb2⟩
end Go.Proofs.YtnlcfnpcjkcdmafGreatDoor

/- '==' on two triples. -/
namespace Go.Proofs.YtnlcfnpcjkcdmafGreatDoor
open Go Go.RowKit Go.Proofs

theorem tr_eq (x y : Tr) : decide (x = y) = (eqTB x.1.1 x.1.2.1 x.1.2.2 y.1.1 y.1.2.1 y.1.2.2 && (eqTB x.2.1.1 x.2.1.2.1 x.2.1.2.2 y.2.1.1 y.2.1.2.1 y.2.1.2.2 && eqTB x.2.2.1 x.2.2.2.1 x.2.2.2.2 y.2.2.1 y.2.2.2.1 y.2.2.2.2)) := by
  obtain ⟨⟨k1, s1, l1⟩, ⟨k2, s2, l2⟩, ⟨k3, s3, l3⟩⟩ := x
  obtain ⟨⟨k1', s1', l1'⟩, ⟨k2', s2', l2'⟩, ⟨k3', s3', l3'⟩⟩ := y
  rw [Bool.eq_iff_iff]
  simp only [decide_eq_true_eq, Bool.and_eq_true, eqTB_iff, Prod.mk.injEq]

set_option maxRecDepth 100000 in
set_option maxHeartbeats 1000000 in
theorem equalTriple (x y : Tr) (w : World) :
    (Op.equalIn 10000 99 (.agg #[.int .i64 x.1.1, .string ⟨x.1.2.1.toArray⟩, .string ⟨x.1.2.2.toArray⟩, .int .i64 x.2.1.1, .string ⟨x.2.1.2.1.toArray⟩, .string ⟨x.2.1.2.2.toArray⟩, .int .i64 x.2.2.1, .string ⟨x.2.2.2.1.toArray⟩, .string ⟨x.2.2.2.2.toArray⟩])
      (.agg #[.int .i64 y.1.1, .string ⟨y.1.2.1.toArray⟩, .string ⟨y.1.2.2.toArray⟩, .int .i64 y.2.1.1, .string ⟨y.2.1.2.1.toArray⟩, .string ⟨y.2.1.2.2.toArray⟩, .int .i64 y.2.2.1, .string ⟨y.2.2.2.1.toArray⟩, .string ⟨y.2.2.2.2.toArray⟩])).run Tryz.prog w = .ok (decide (x = y)) w := by
  have hS : Tryz.prog.underlying 99 = some (.struct (Tryz.prog.fieldsOf 99)) := by kernel_rfl
  rw [show (10000 : Nat) = 9999 + 1 from rfl, run_equalIn_agg w 9999 99 _ _ hS (by kernel_rfl), tr_eq]
  simp only [Program.fieldsOf, Tryz.underlying99]
  unfold eqTB
  go_simp
  by_cases h0 : x.1.1 = y.1.1
  rotate_left
  · simp [h0]
  by_cases h1 : x.1.2.1 = y.1.2.1
  rotate_left
  · simp [h0, h1]
  by_cases h2 : x.1.2.2 = y.1.2.2
  rotate_left
  · simp [h0, h1, h2]
  by_cases h3 : x.2.1.1 = y.2.1.1
  rotate_left
  · simp [h0, h1, h2, h3]
  by_cases h4 : x.2.1.2.1 = y.2.1.2.1
  rotate_left
  · simp [h0, h1, h2, h3, h4]
  by_cases h5 : x.2.1.2.2 = y.2.1.2.2
  rotate_left
  · simp [h0, h1, h2, h3, h4, h5]
  by_cases h6 : x.2.2.1 = y.2.2.1
  rotate_left
  · simp [h0, h1, h2, h3, h4, h5, h6]
  by_cases h7 : x.2.2.2.1 = y.2.2.2.1
  rotate_left
  · simp [h0, h1, h2, h3, h4, h5, h6, h7]
  by_cases h8 : x.2.2.2.2 = y.2.2.2.2
  rotate_left
  · simp [h0, h1, h2, h3, h4, h5, h6, h7, h8]
  simp [h0, h1, h2, h3, h4, h5, h6, h7, h8]

theorem eqlTriple (x y : Tr) (w : World) : (binOp .eql 99 (.agg #[.int .i64 x.1.1, .string ⟨x.1.2.1.toArray⟩, .string ⟨x.1.2.2.toArray⟩, .int .i64 x.2.1.1, .string ⟨x.2.1.2.1.toArray⟩, .string ⟨x.2.1.2.2.toArray⟩, .int .i64 x.2.2.1, .string ⟨x.2.2.2.1.toArray⟩, .string ⟨x.2.2.2.2.toArray⟩]) (.agg #[.int .i64 y.1.1, .string ⟨y.1.2.1.toArray⟩, .string ⟨y.1.2.2.toArray⟩, .int .i64 y.2.1.1, .string ⟨y.2.1.2.1.toArray⟩, .string ⟨y.2.1.2.2.toArray⟩, .int .i64 y.2.2.1, .string ⟨y.2.2.2.1.toArray⟩, .string ⟨y.2.2.2.2.toArray⟩])).run Tryz.prog w = .ok (.bool (decide (x = y))) w := by
  rw [run_eql_struct, equalTriple]; rfl
theorem neqTriple (x y : Tr) (w : World) : (binOp .neq 99 (.agg #[.int .i64 x.1.1, .string ⟨x.1.2.1.toArray⟩, .string ⟨x.1.2.2.toArray⟩, .int .i64 x.2.1.1, .string ⟨x.2.1.2.1.toArray⟩, .string ⟨x.2.1.2.2.toArray⟩, .int .i64 x.2.2.1, .string ⟨x.2.2.2.1.toArray⟩, .string ⟨x.2.2.2.2.toArray⟩]) (.agg #[.int .i64 y.1.1, .string ⟨y.1.2.1.toArray⟩, .string ⟨y.1.2.2.toArray⟩, .int .i64 y.2.1.1, .string ⟨y.2.1.2.1.toArray⟩, .string ⟨y.2.1.2.2.toArray⟩, .int .i64 y.2.2.1, .string ⟨y.2.2.2.1.toArray⟩, .string ⟨y.2.2.2.2.toArray⟩])).run Tryz.prog w = .ok (.bool (!decide (x = y))) w := by
  rw [run_neq_struct, equalTriple]; rfl
end Go.Proofs.YtnlcfnpcjkcdmafGreatDoor
