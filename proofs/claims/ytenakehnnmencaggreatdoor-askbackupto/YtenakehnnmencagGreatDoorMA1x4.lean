import Derived.Test.YtenakehnnmencagGreatDoorMA0x4
import Derived.Test.YtenakehnnmencagGreatDoorMA0x5
import Derived.Test.YtenakehnnmencagGreatDoorMA1x1
import Derived.Test.YtenakehnnmencagGreatDoorMA0x2
import Derived.Test.YtenakehnnmencagGreatDoorMA0x6
import Derived.Deep.DeepCutAuto
import Derived.Deep.CutBlock
import Derived.Laws.IdiomStrings
import Derived.Lib.AppendZeros
import Derived.Lib.Builder
import Derived.Test.YtenakehnnmencagGreatDoorMA1x3
import Derived.Test.YtenakehnnmencagGreatDoorMA1x2

/- The words of a question's text, as the program makes them: slotWord, headWords, tailWords. -/
namespace Go.Proofs.YtenakehnnmencagGreatDoor
open Go Go.RowKit Go.Proofs Go.Maps
set_option synthInstance.maxSize 1000

attribute [local go_sem] eql_errV neq_errV guard_errV

theorem catX (c : UInt8) (v : List UInt8) : (⟨#[c]⟩ : ByteArray) ++ ⟨v.toArray⟩ = ⟨(c :: v).toArray⟩ := by
  apply ByteArray.ext
  simp
theorem slotWord_own (s : Sl) (w : World) (h : slotN s = 0) :
    Calls Tryz.prog 126 #[valSl s] w fun e w' => e = .returned (.tuple #[.string ⟨(slotT s).toArray⟩, .nilIface]) ∧ RowKit.Below w.heap.size w w' := by
  obtain ⟨v, k, S, L⟩ := s
  unfold valSl
  dsimp only
  cases v with
  | nil =>
    have hc := slot_term h rfl
    have HP := fun W => Print_good k S L W hc
    have fin : Hid (slotT ([], k, S, L) = showL k S L) := rfl
    generalize slotT ([], k, S, L) = T at *
    clear h hc
    go_enter Tryz.func126, Tryz.ntmps126
    go_wp2_with fail
    refine (HP _).mono ?_
    rintro e w1 ⟨rfl, hb1⟩
    dsimp only
    go_wp2_with fail
    exact bodyPost_ret (v := .tuple #[.string ⟨(showL k S L).toArray⟩, .nilIface]) (by simp [results, Tryz.results126, go_sem]) rfl ⟨by rw [fin.out], bstep (balloc _ _) hb1⟩
  | cons c r =>
    have fin : Hid (slotT (c :: r, k, S, L) = 63 :: c :: r) := rfl
    have hsh := var_short (slot_spell h (by simp)).1
    have hx := catX 63 (c :: r)
    have hsz : ¬ 9223372036854775807 < 1 + (r.length + 1) := by simp at hsh; omega
    generalize slotT (c :: r, k, S, L) = T at *
    clear h hsh
    go_enter Tryz.func126, Tryz.ntmps126
    go_wp2_with fail
    exact bodyPost_ret (v := .tuple #[.string ⟨(63 :: c :: r).toArray⟩, .nilIface]) (by simp [results, Tryz.results126, go_sem]) rfl ⟨by rw [fin.out], balloc _ _⟩
/-- words in a row of one's own -/
def WordsAns (l : List (List UInt8)) (w : World) (e : Ending) (w' : World) : Prop := ∃ v, e = .returned v ∧ w'.ownsRow w.heap.size 9 1 v l.length (l.map encV) ∧ (l = [] → v = .slice none 0 0) ∧ RowKit.Below w.heap.size w w'
theorem own_lit {W : World} {base : Nat} (x : List UInt8) (h : base ≤ W.heap.size) : (W.alloc (.cells #[.string ⟨x.toArray⟩] 9)).ownsRow base 9 1 (.slice (some ⟨W.heap.size, 0, none⟩) 1 1) [x].length ([x].map encV) :=
  ⟨rfl, Or.inr ⟨W.heap.size, 1, #[.string ⟨x.toArray⟩], rfl, h, heap_alloc_new W _, by simp, by unfold maxLen; omega, rfl, rfl⟩⟩
def headL (q : Qu) : List (List UInt8) := wSel :: ((if q.dist = true then [wDist] else []) ++ (q.vars.map varT ++ [wWhere]))
def headK (q : Qu) (k : Nat) : List (List UInt8) := wSel :: ((if q.dist = true then [wDist] else []) ++ (q.vars.take k).map varT)
theorem headK_zero (q : Qu) : headK q 0 = wSel :: (if q.dist = true then [wDist] else []) := by simp [headK]
theorem headK_next (q : Qu) (k : Nat) (h : k < q.vars.length) : headK q (k + 1) = headK q k ++ [varT q.vars[k]] := by
  unfold headK
  rw [List.take_succ_eq_append_getElem h, List.map_append]
  simp only [List.map_cons, List.map_nil, List.cons_append, List.append_assoc]
theorem headK_end (q : Qu) : headL q = headK q q.vars.length ++ [wWhere] := by unfold headL headK; simp
theorem headK_len (q : Qu) (k : Nat) : (headK q k).length ≤ 2 + k := by
  unfold headK
  have h : ((q.vars.take k).map varT).length ≤ k := by rw [List.length_map, List.length_take]; omega
  simp only [List.length_cons, List.length_append]
  split <;> simp at h ⊢ <;> omega
set_option maxHeartbeats 4000000 in
set_option maxRecDepth 100000 in
theorem headWords_own (q : Qu) (vd pd : Option Addr) (vc pc : Nat) (w : World) (h : QuIn w q vd pd) (g : GoodQ q) :
    Calls Tryz.prog 92 #[valQ q vd vc pd pc] w (WordsAns (headL q) w) := by
  obtain ⟨w1, hw1⟩ : ∃ w1, w1 = w.alloc (.cells #[.slice vd q.vars.length vc, .slice pd q.parts.length pc, .string ⟨q.order.toArray⟩, .bool q.down, .bool q.dist, .int .i64 q.lim] 52) := ⟨_, rfl⟩
  have hb1 : RowKit.Below w.heap.size w w1 := by rw [hw1]; exact balloc _ _
  have HB : Hid (BoxQ w1 w.heap.size q vd pd vc pc) := by show BoxQ _ _ _ _ _ _ _; rw [hw1]; exact boxQ_new _ _ _ _ _ _
  have Hin := hideQ (h.below hb1)
  have HW := hideQ hw1
  have hfew := g.few
  have Hv := hideQ g.vars
  obtain ⟨Q, hQ⟩ : ∃ Q, Q = WordsAns (headL q) w := ⟨_, rfl⟩
  have HQ : Hid (∀ e w', WordsAns (headL q) w e w' → Q e w') := fun e w' h => by rw [hQ]; exact h
  rw [← hQ]
  clear hQ h g hw1
  unfold valQ
  go_enter Tryz.func92, Tryz.ntmps92
  go_upto_region 1 with fail
  rw [← HW.out]
  have c4 := HB.out.c4
  have hz1 := hb1.size
  have hlt1 : w.heap.size < w1.heap.size := World.block_lt_of_cell? w1 _ c4
  generalize hd : q.dist = d at *
  have Hd := hideQ hd
  clear hd
  go_upto_if 8 with fail
  go_cut [3] from 9 to 11 (fun v W => Hid (W.ownsRow w1.heap.size 9 1 v (headK q 0).length ((headK q 0).map encV)) ∧ RowKit.Below w1.heap.size w1 W)
  case first =>
    have hlit := hideQ (own_lit (base := w1.heap.size) (W := w1) wSel (Nat.le_refl _))
    have hal : RowKit.Below w1.heap.size w1 (w1.alloc (.cells #[.string ⟨wSel.toArray⟩] 9)) := balloc _ _
    cases d
    · have e0 : Hid (headK q 0 = [[115, 101, 108, 101, 99, 116]]) := by show _ = _; rw [headK_zero, Hd.out]; rfl
      unfold wSel at *
      go_wp2_with fail
      go_meet
      case rel => exact ⟨by rw [e0.out]; exact hlit, hal⟩
    · have e0 : Hid (headK q 0 = [[115, 101, 108, 101, 99, 116]] ++ [[100, 105, 115, 116, 105, 110, 99, 116]]) := by show _ = _; rw [headK_zero, Hd.out]; rfl
      unfold wSel at *
      go_wp2_with (at_builtin; refine wpList_append_text _ rfl _ _ rfl w1.heap.size (w1.heap.size + 1) _ [[115, 101, 108, 101, 99, 116]] [100, 105, 115, 116, 105, 110, 99, 116] rfl rfl (hlit.out.alloc _) (by go_simp) (by simp) (by simp; omega) ?_; intro v' w4 hv4 hg4 hat4)
      have hal2 : RowKit.Below w1.heap.size w1 ((w1.alloc (.cells #[.string ⟨#[115, 101, 108, 101, 99, 116]⟩] 9)).alloc (.cells #[.string ⟨#[100, 105, 115, 116, 105, 110, 99, 116]⟩] 9)) := bnew hal _
      have hbel : RowKit.Below w1.heap.size w1 w4 := hal2.grown hg4 (by simp; omega) (fun j hj => (hlit.out.lt j hj).1)
      have hv5 := hideQ hv4
      clear hv4 hg4 hat4
      go_wp2_with fail
      go_meet
      case rel => exact ⟨by rw [e0.out]; exact hv5, hbel⟩
  case rest =>
    obtain ⟨hrow, hbr⟩ := hcut
    clear c4 Hd
    have k0 := (HB.out.below hbr).c0
    go_wp2_with fail
    go_loopw [3, 15] (fun v i wr => ∃ k : Nat, k ≤ q.vars.length ∧ i = .int .i64 k ∧ Hid (wr.ownsRow w1.heap.size 9 1 v (headK q k).length ((headK q k).map encV)) ∧ RowKit.Below w1.heap.size w1 wr) (fun _ i wr => q.vars.length - (intOf i).toNat)
    case atStart => exact ⟨0, Nat.zero_le _, rfl, hrow, hbr⟩
    case round =>
      obtain ⟨k, hk, rfl, hown, hbi⟩ := hrel
      have hkl := headK_len q k
      have hzi := hbi.size
      by_cases hlt : k < q.vars.length
      · obtain ⟨b, off, rfl, ck⟩ := (Hin.out.vars.below hbi).at k hlt
        have i0 : (0 : Int) ≤ (k : Int) := by omega
        have i1 : (k : Int) < (q.vars.length : Int) := by omega
        have hst := hideQ (headK_next q k hlt)
        have hsh := var_short (Hv.out _ (List.getElem_mem hlt)).2
        have hx := catX 63 q.vars[k]
        have hsz : ¬ 9223372036854775807 < 1 + q.vars[k].length := by omega
        unfold varT at hst
        generalize headK q k = t0 at *
        generalize q.vars[k] = y at *
        go_wp2_with (at_builtin; refine wpList_append_text _ rfl _ _ rfl w1.heap.size wr.heap.size _ t0 (63 :: y) rfl rfl (hown.out.alloc _) (by go_simp) (by omega) (by simp; omega) ?_; intro v' w4 hv4 hg4 hat4)
        have hal : RowKit.Below wr.heap.size wr (wr.alloc (.cells #[.string ⟨(63 :: y).toArray⟩] 9)) := balloc _ _
        have hbel : RowKit.Below w1.heap.size w1 w4 := (bstep hbi hal).grown hg4 (by simp; omega) (fun j hj => (hown.out.lt j hj).1)
        have hv5 := hideQ hv4
        clear hv4 hg4 hat4 ck hx
        go_wp2_with fail
        go_roundw
        case rel => exact ⟨k + 1, by omega, by go_num, by rw [hst.out]; exact hv5, hbel⟩
        case measure => simp [intOf]; omega
      · obtain rfl : k = q.vars.length := by omega
        have he := hideQ (headK_end q)
        generalize headL q = HL at *
        generalize headK q q.vars.length = t0 at *
        unfold wWhere at he
        clear hlt
        go_wp2_with (at_builtin; refine wpList_append_text _ rfl _ _ rfl w1.heap.size wr.heap.size _ t0 [119, 104, 101, 114, 101] rfl rfl (hown.out.alloc _) (by go_simp) (by omega) (by simp; omega) ?_; intro v' w4 hv4 hg4 hat4)
        have hal : RowKit.Below wr.heap.size wr (wr.alloc (.cells #[.string ⟨#[119, 104, 101, 114, 101]⟩] 9)) := balloc _ _
        have hbel : RowKit.Below w1.heap.size w1 w4 := (bstep hbi hal).grown hg4 (by simp; omega) (fun j hj => (hown.out.lt j hj).1)
        refine HQ.out _ _ ⟨v', rfl, by rw [he.out]; exact own_mono hv4 hz1, fun h => ?_, bstep hb1 hbel⟩
        rw [he.out] at h
        simp at h
/-! ### the words of the parts -/
def pW (l : List Pt) (k : Nat) : List (List UInt8) := (partsK 0 (l.take k)).tail
theorem partsK_one (n : Nat) (p : Pt) : partsK n [p] = (if n = 0 then wWhere else wAnd) :: partT p := by
  unfold partsK
  cases n <;> simp [partsK]
theorem partsK_ne {l : List Pt} (h : l ≠ []) : partsK 0 l ≠ [] := by
  rw [partsK_where h]; simp
theorem pW_next (l : List Pt) (k : Nat) (h : k < l.length) : pW l (k + 1) = (pW l k ++ (if k = 0 then [] else [wAnd])) ++ partT l[k] := by
  unfold pW
  rw [List.take_succ_eq_append_getElem h, partsK_app, partsK_one]
  have hl : (l.take k).length = k := by rw [List.length_take]; omega
  rw [hl, Nat.zero_add]
  by_cases h0 : k = 0
  · subst h0
    simp [partsK]
  · rw [if_neg h0, if_neg h0]
    have hne : partsK 0 (l.take k) ≠ [] := partsK_ne (fun e => by rw [e] at hl; simp at hl; omega)
    rw [List.tail_append_of_ne_nil hne]
    simp
theorem pW_end {l : List Pt} (h : l ≠ []) : pW l l.length = partsT l := by
  unfold pW
  rw [List.take_length, partsK_where h]
  rfl
theorem pW_len (l : List Pt) (k : Nat) (h : k ≤ l.length) : (pW l k).length ≤ 4 * k := by
  induction k with
  | zero => simp [pW, partsK]
  | succ n ih =>
    rw [pW_next l n (by omega)]
    have := ih (by omega)
    simp only [List.length_append]
    have h3 : (partT l[n]).length = 3 := rfl
    split <;> simp <;> omega
theorem partT_at (p : Pt) (j : Nat) (h : j < 3) : (partT p).take (j + 1) = (partT p).take j ++ [slotT (slotK p j)] := by
  rcases (by omega : j = 0 ∨ j = 1 ∨ j = 2) with rfl | rfl | rfl <;> rfl
theorem slotK_zero {p : Pt} (h : varsN p = 0) (j : Nat) (hj : j < 3) : slotN (slotK p j) = 0 := by
  obtain ⟨h1, h2, h3⟩ := vars_zero h
  rcases (by omega : j = 0 ∨ j = 1 ∨ j = 2) with rfl | rfl | rfl
  · exact h1
  · exact h2
  · exact h3
def PartWAns (l : List (List UInt8)) (w : World) (e : Ending) (w' : World) : Prop := ∃ v, e = .returned (.tuple #[v, .nilIface]) ∧ w'.ownsRow w.heap.size 9 1 v l.length (l.map encV) ∧ RowKit.Below w.heap.size w w'
set_option maxHeartbeats 8000000 in
set_option maxRecDepth 100000 in
theorem partWords_own (L : List Pt) (pd : Option Addr) (pc : Nat) (w : World) (h : SlPt w pd L) (h6 : L.length ≤ 6) (hne : L ≠ []) (hg : ∀ p ∈ L, varsN p = 0) :
    Calls Tryz.prog 91 #[.slice pd L.length pc] w (PartWAns (partsT L) w) := by
  have Hp := hideQ h
  have Hg := hideQ hg
  have hE := hideQ (pW_end hne)
  obtain ⟨Q, hQ⟩ : ∃ Q, Q = PartWAns (partsT L) w := ⟨_, rfl⟩
  have HQ : Hid (∀ e w', PartWAns (partsT L) w e w' → Q e w') := fun e w' h => by rw [hQ]; exact h
  rw [← hQ]
  clear hQ h hg hne
  go_enter Tryz.func91, Tryz.ntmps91
  go_wp2_with fail
  go_loopw [4, 13] (fun v i wr => ∃ k : Nat, k ≤ L.length ∧ i = .int .i64 k ∧ Hid (wr.ownsRow w.heap.size 9 1 v (pW L k).length ((pW L k).map encV)) ∧ RowKit.Below w.heap.size w wr) (fun _ i wr => L.length - (intOf i).toNat)
  case atStart => exact ⟨0, Nat.zero_le _, rfl, World.ownsRow_nil _ _ _ _, RowKit.Below.refl _ _⟩
  case round =>
    obtain ⟨k, hk, rfl, hown, hbr⟩ := hrel
    have hzr := hbr.size
    have hpl := pW_len L k hk
    by_cases hlt : k < L.length
    · obtain ⟨b, off, rfl, hrow⟩ := (Hp.out.below hbr).at k hlt
      have hat := hrow.at k hlt
      have e0 := hat 0 _ rfl
      have e1 := hat 1 _ rfl
      have e2 := hat 2 _ rfl
      have e3 := hat 3 _ rfl
      have e4 := hat 4 _ rfl
      have e5 := hat 5 _ rfl
      have e6 := hat 6 _ rfl
      have e7 := hat 7 _ rfl
      have e8 := hat 8 _ rfl
      have e9 := hat 9 _ rfl
      have e10 := hat 10 _ rfl
      have e11 := hat 11 _ rfl
      rw [Nat.add_zero] at e0
      have i0 : (0 : Int) ≤ (k : Int) := by omega
      have i1 : (k : Int) < (L.length : Int) := by omega
      have hgp := hideQ (Hg.out _ (List.getElem_mem hlt))
      have hst := hideQ (pW_next L k hlt)
      clear hat hrow
      generalize L[k] = p at *
      obtain ⟨w1, hw1⟩ : ∃ w1, w1 = wr.alloc (.cells #[.string ⟨p.1.1.toArray⟩, .int .i64 p.1.2.1, .string ⟨p.1.2.2.1.toArray⟩, .string ⟨p.1.2.2.2.toArray⟩, .string ⟨p.2.1.1.toArray⟩, .int .i64 p.2.1.2.1, .string ⟨p.2.1.2.2.1.toArray⟩, .string ⟨p.2.1.2.2.2.toArray⟩, .string ⟨p.2.2.1.toArray⟩, .int .i64 p.2.2.2.1, .string ⟨p.2.2.2.2.1.toArray⟩, .string ⟨p.2.2.2.2.2.toArray⟩] 108) := ⟨_, rfl⟩
      have hal1 : RowKit.Below wr.heap.size wr w1 := by rw [hw1]; exact balloc _ _
      have HZ1 := hideQ (show w1.heap.size = wr.heap.size + 1 by rw [hw1]; simp)
      have hz1r : wr.heap.size < w1.heap.size := by have := HZ1.out; omega
      have a0 : w1.cell? ⟨wr.heap.size, 0, none⟩ = some (.string ⟨p.1.1.toArray⟩) := by rw [hw1]; go_simp
      have a1 : w1.cell? ⟨wr.heap.size, 1, none⟩ = some (.int .i64 p.1.2.1) := by rw [hw1]; go_simp
      have a2 : w1.cell? ⟨wr.heap.size, 2, none⟩ = some (.string ⟨p.1.2.2.1.toArray⟩) := by rw [hw1]; go_simp
      have a3 : w1.cell? ⟨wr.heap.size, 3, none⟩ = some (.string ⟨p.1.2.2.2.toArray⟩) := by rw [hw1]; go_simp
      have a4 : w1.cell? ⟨wr.heap.size, 4, none⟩ = some (.string ⟨p.2.1.1.toArray⟩) := by rw [hw1]; go_simp
      have a5 : w1.cell? ⟨wr.heap.size, 5, none⟩ = some (.int .i64 p.2.1.2.1) := by rw [hw1]; go_simp
      have a6 : w1.cell? ⟨wr.heap.size, 6, none⟩ = some (.string ⟨p.2.1.2.2.1.toArray⟩) := by rw [hw1]; go_simp
      have a7 : w1.cell? ⟨wr.heap.size, 7, none⟩ = some (.string ⟨p.2.1.2.2.2.toArray⟩) := by rw [hw1]; go_simp
      have a8 : w1.cell? ⟨wr.heap.size, 8, none⟩ = some (.string ⟨p.2.2.1.toArray⟩) := by rw [hw1]; go_simp
      have a9 : w1.cell? ⟨wr.heap.size, 9, none⟩ = some (.int .i64 p.2.2.2.1) := by rw [hw1]; go_simp
      have a10 : w1.cell? ⟨wr.heap.size, 10, none⟩ = some (.string ⟨p.2.2.2.2.1.toArray⟩) := by rw [hw1]; go_simp
      have a11 : w1.cell? ⟨wr.heap.size, 11, none⟩ = some (.string ⟨p.2.2.2.2.2.toArray⟩) := by rw [hw1]; go_simp
      have HA : Hid (∀ W, RowKit.Below w1.heap.size w1 W → ∀ j v, w1.cell? ⟨wr.heap.size, j, none⟩ = some v → W.cell? ⟨wr.heap.size, j, none⟩ = some v) := fun W hW j v hv => (hW.cell (World.block_lt_of_cell? w1 _ hv)).trans hv
      have HW1 := hideQ hw1
      clear hw1
      go_upto_region 5 with fail
      rw [← HW1.out]
      clear e0 e1 e2 e3 e4 e5 e6 e7 e8 e9 e10 e11
      go_upto_if 19 with fail
      go_cut [4] from 19 to 22 (fun v W => Hid (W.ownsRow w.heap.size 9 1 v (pW L k ++ (if k = 0 then [] else [wAnd])).length ((pW L k ++ (if k = 0 then [] else [wAnd])).map encV)) ∧ Hid (∀ j, W.cell? ⟨wr.heap.size, j, none⟩ = w1.cell? ⟨wr.heap.size, j, none⟩) ∧ RowKit.Below w.heap.size w W)
      case first =>
        clear a0 a1 a2 a3 a4 a5 a6 a7 a8 a9 a10 a11
        have hown1 := hideQ (ownsRow_belowV hown.out hal1)
        by_cases h0 : k = 0
        · have dk : k < 1 := by omega
          have ee : Hid (pW L k ++ (if k = 0 then [] else [wAnd]) = pW L k) := by show _ = _; rw [if_pos h0]; simp
          clear h0
          generalize pW L k = t0 at *
          go_wp2_with fail
          go_meet
          case rel => exact ⟨by rw [ee.out]; exact hown1, fun j => rfl, bstep hbr hal1⟩
        · have dk : 1 ≤ k := by omega
          have ee : Hid (pW L k ++ (if k = 0 then [] else [wAnd]) = pW L k ++ [[97, 110, 100]]) := by show _ = _; rw [if_neg h0]; rfl
          clear h0
          generalize pW L k = t0 at *
          go_wp2_with (at_builtin; refine wpList_append_text _ rfl _ _ rfl w.heap.size w1.heap.size _ t0 [97, 110, 100] rfl rfl (hown1.out.alloc _) (by go_simp) (by omega) (by simp; omega) ?_; intro v' w4 hv4 hg4 hat4)
          have hal : RowKit.Below w1.heap.size w1 (w1.alloc (.cells #[.string ⟨#[97, 110, 100]⟩] 9)) := balloc _ _
          have hbel : RowKit.Below w.heap.size w w4 := (bstep (bstep hbr hal1) hal).grown hg4 (by simp; omega) (fun j hj => (hown1.out.lt j hj).1)
          have hbox : Hid (∀ j, w4.cell? ⟨wr.heap.size, j, none⟩ = w1.cell? ⟨wr.heap.size, j, none⟩) := fun j => by
            have hb : w4.heap[wr.heap.size]? = w1.heap[wr.heap.size]? := (hg4.block _ (by simp; omega) (fun e => by have := (hown.out.lt _ e.symm).2; omega)).trans (RowKit.Below.heap_alloc _ _ _ (by omega))
            simp only [World.cell?]
            rw [hb]
          have hv5 := hideQ hv4
          clear hv4 hg4 hat4
          go_wp2_with fail
          go_meet
          case rel => exact ⟨by rw [ee.out]; exact hv5, hbox, hbel⟩
      case rest =>
        obtain ⟨hrow, hbox, hbel⟩ := hcut
        have b0 := (hbox.out 0).trans a0
        have b1 := (hbox.out 1).trans a1
        have b2 := (hbox.out 2).trans a2
        have b3 := (hbox.out 3).trans a3
        have b4 := (hbox.out 4).trans a4
        have b5 := (hbox.out 5).trans a5
        have b6 := (hbox.out 6).trans a6
        have b7 := (hbox.out 7).trans a7
        have b8 := (hbox.out 8).trans a8
        have b9 := (hbox.out 9).trans a9
        have b10 := (hbox.out 10).trans a10
        have b11 := (hbox.out 11).trans a11
        have htl : (pW L k ++ (if k = 0 then [] else [wAnd])).length ≤ 4 * k + 1 := by
          rw [List.length_append]
          split <;> simp <;> omega
        clear a0 a1 a2 a3 a4 a5 a6 a7 a8 a9 a10 a11 hown HW1 HA
        generalize pW L k ++ (if k = 0 then [] else [wAnd]) = t at *
        go_upto_block 2 with fail
        clear b0 b1 b2 b3 b4 b5 b6 b7 b8 b9 b10 b11
        go_wp2_with fail
        go_loopw [4, 30] (fun v i wi => ∃ j : Nat, j ≤ 3 ∧ i = .int .i64 j ∧ Hid (wi.ownsRow w.heap.size 9 1 v (t ++ (partT p).take j).length ((t ++ (partT p).take j).map encV)) ∧ RowKit.Below w.heap.size w wi) (fun _ i wi => 3 - (intOf i).toNat)
        case atStart => exact ⟨0, by omega, rfl, by simpa using hrow, hbel⟩
        case round =>
          obtain ⟨j, hj, rfl, hown2, hbi⟩ := hrel
          have hzi := hbi.size
          by_cases hjl : j < 3
          · rcases (by omega : j = 0 ∨ j = 1 ∨ j = 2) with rfl | rfl | rfl
            · have HS : ∀ W, Calls Tryz.prog 126 #[valSl p.1] W fun e w' => e = .returned (.tuple #[.string ⟨(slotT p.1).toArray⟩, .nilIface]) ∧ RowKit.Below W.heap.size W w' := fun W => slotWord_own (slotK p 0) W (slotK_zero hgp.out 0 hjl)
              have ee : Hid (t ++ (partT p).take (0 + 1) = (t ++ (partT p).take 0) ++ [slotT p.1]) := by show _ = _; rw [partT_at p 0 hjl, List.append_assoc]; rfl
              have hle : (t ++ (partT p).take 0).length ≤ 100 := by rw [List.length_append, List.length_take]; omega
              generalize t ++ (partT p).take 0 = t0 at *
              generalize slotT p.1 = y at *
              have hix : ∀ W, (Instr.index 179 (valPt p) (.int .i64 0)).run Tryz.prog W = .ok (valSl p.1) W := fun W => indexSl p 0 (by omega) W
              unfold valPt valSl at hix
              unfold valSl at HS
              clear hjl
              go_wp2_with fail
              refine (HS _).mono ?_
              rintro e w2 ⟨rfl, hb2⟩
              dsimp only
              have hal : RowKit.Below w2.heap.size w2 (w2.alloc (.cells #[.string ⟨y.toArray⟩] 9)) := balloc _ _
              have hB2 := bstep (bstep hbi (balloc _ _)) hb2
              have hown3 := hideQ (ownsRow_belowV (hown2.out.alloc _) hb2)
              have hz2 := hB2.size
              clear HS hb2 hown2
              go_wp2_with (at_builtin; refine wpList_append_text _ rfl _ _ rfl w.heap.size w2.heap.size _ t0 y rfl rfl (hown3.out.alloc _) (by go_simp) (by omega) (by simp; omega) ?_; intro v' w4 hv4 hg4 hat4)
              have hbel4 : RowKit.Below w.heap.size w w4 := (bstep hB2 hal).grown hg4 (by simp; omega) (fun j hj => (hown3.out.lt j hj).1)
              have hv5 := hideQ hv4
              clear hv4 hg4 hat4
              go_wp2_with fail
              go_roundw
              case rel => exact ⟨0 + 1, by omega, by go_num, by rw [ee.out]; exact hv5, hbel4⟩
              case measure => simp [intOf]
            · have HS : ∀ W, Calls Tryz.prog 126 #[valSl p.2.1] W fun e w' => e = .returned (.tuple #[.string ⟨(slotT p.2.1).toArray⟩, .nilIface]) ∧ RowKit.Below W.heap.size W w' := fun W => slotWord_own (slotK p 1) W (slotK_zero hgp.out 1 hjl)
              have ee : Hid (t ++ (partT p).take (1 + 1) = (t ++ (partT p).take 1) ++ [slotT p.2.1]) := by show _ = _; rw [partT_at p 1 hjl, List.append_assoc]; rfl
              have hle : (t ++ (partT p).take 1).length ≤ 100 := by rw [List.length_append, List.length_take]; omega
              generalize t ++ (partT p).take 1 = t0 at *
              generalize slotT p.2.1 = y at *
              have hix : ∀ W, (Instr.index 179 (valPt p) (.int .i64 1)).run Tryz.prog W = .ok (valSl p.2.1) W := fun W => indexSl p 1 (by omega) W
              unfold valPt valSl at hix
              unfold valSl at HS
              clear hjl
              go_wp2_with fail
              refine (HS _).mono ?_
              rintro e w2 ⟨rfl, hb2⟩
              dsimp only
              have hal : RowKit.Below w2.heap.size w2 (w2.alloc (.cells #[.string ⟨y.toArray⟩] 9)) := balloc _ _
              have hB2 := bstep (bstep hbi (balloc _ _)) hb2
              have hown3 := hideQ (ownsRow_belowV (hown2.out.alloc _) hb2)
              have hz2 := hB2.size
              clear HS hb2 hown2
              go_wp2_with (at_builtin; refine wpList_append_text _ rfl _ _ rfl w.heap.size w2.heap.size _ t0 y rfl rfl (hown3.out.alloc _) (by go_simp) (by omega) (by simp; omega) ?_; intro v' w4 hv4 hg4 hat4)
              have hbel4 : RowKit.Below w.heap.size w w4 := (bstep hB2 hal).grown hg4 (by simp; omega) (fun j hj => (hown3.out.lt j hj).1)
              have hv5 := hideQ hv4
              clear hv4 hg4 hat4
              go_wp2_with fail
              go_roundw
              case rel => exact ⟨1 + 1, by omega, by go_num, by rw [ee.out]; exact hv5, hbel4⟩
              case measure => simp [intOf]
            · have HS : ∀ W, Calls Tryz.prog 126 #[valSl p.2.2] W fun e w' => e = .returned (.tuple #[.string ⟨(slotT p.2.2).toArray⟩, .nilIface]) ∧ RowKit.Below W.heap.size W w' := fun W => slotWord_own (slotK p 2) W (slotK_zero hgp.out 2 hjl)
              have ee : Hid (t ++ (partT p).take (2 + 1) = (t ++ (partT p).take 2) ++ [slotT p.2.2]) := by show _ = _; rw [partT_at p 2 hjl, List.append_assoc]; rfl
              have hle : (t ++ (partT p).take 2).length ≤ 100 := by rw [List.length_append, List.length_take]; omega
              generalize t ++ (partT p).take 2 = t0 at *
              generalize slotT p.2.2 = y at *
              have hix : ∀ W, (Instr.index 179 (valPt p) (.int .i64 2)).run Tryz.prog W = .ok (valSl p.2.2) W := fun W => indexSl p 2 (by omega) W
              unfold valPt valSl at hix
              unfold valSl at HS
              clear hjl
              go_wp2_with fail
              refine (HS _).mono ?_
              rintro e w2 ⟨rfl, hb2⟩
              dsimp only
              have hal : RowKit.Below w2.heap.size w2 (w2.alloc (.cells #[.string ⟨y.toArray⟩] 9)) := balloc _ _
              have hB2 := bstep (bstep hbi (balloc _ _)) hb2
              have hown3 := hideQ (ownsRow_belowV (hown2.out.alloc _) hb2)
              have hz2 := hB2.size
              clear HS hb2 hown2
              go_wp2_with (at_builtin; refine wpList_append_text _ rfl _ _ rfl w.heap.size w2.heap.size _ t0 y rfl rfl (hown3.out.alloc _) (by go_simp) (by omega) (by simp; omega) ?_; intro v' w4 hv4 hg4 hat4)
              have hbel4 : RowKit.Below w.heap.size w w4 := (bstep hB2 hal).grown hg4 (by simp; omega) (fun j hj => (hown3.out.lt j hj).1)
              have hv5 := hideQ hv4
              clear hv4 hg4 hat4
              go_wp2_with fail
              go_roundw
              case rel => exact ⟨2 + 1, by omega, by go_num, by rw [ee.out]; exact hv5, hbel4⟩
              case measure => simp [intOf]
          · obtain rfl : j = 3 := by omega
            have ee : Hid (pW L (k + 1) = t ++ (partT p).take 3) := hst.out
            go_wp2_with fail
            go_roundw
            case rel => exact ⟨k + 1, by omega, by go_num, by rw [ee.out]; exact hown2, hbi⟩
            case measure => simp [intOf]; omega
    · obtain rfl : k = L.length := by omega
      generalize pW L L.length = t0 at *
      go_wp2_with fail
      exact HQ.out _ _ ⟨_, rfl, by rw [← hE.out]; exact hown.out, hbr⟩
end Go.Proofs.YtenakehnnmencagGreatDoor

/- An append of a list of texts to a row of one's own. -/
namespace Go.Proofs.YtenakehnnmencagGreatDoor
open Go Go.RowKit Go.Proofs Go.Maps
set_option synthInstance.maxSize 1000

theorem append_emptyW {W : World} {base : Nat} {v : Value} {t : List (List UInt8)} (h : W.ownsRow base 9 1 v t.length (t.map encV)) (ad : Option Addr) (c : Nat) (ty : TypeId) : (Builtin.append_ #[49, 49] ty #[v, .slice ad 0 c]).run Tryz.prog W = .ok v W := by
  obtain ⟨i, hi, hz⟩ := Option.map_eq_some_iff.1 infoStrV
  have hf : (Builtin.firstCells i.size 0 (.slice ad 0 c)).run Tryz.prog W = .ok #[] W := by
    cases ad with
    | none => exact run_firstCells_none W _ _ _ _
    | some a => exact run_firstCells_some (P := Tryz.prog) W i.size 0 a 0 c [] (by simp) (by simp)
  rcases h.2 with ⟨rfl, h0⟩ | ⟨g, cc, cur, rfl, _, _, hle, _⟩
  · simp [Builtin.append_, run_underlying Tryz.underlying49, sizeOf, typeInfo, hi, Builtin.lenOf, hf]
  · simp [Builtin.append_, run_underlying Tryz.underlying49, sizeOf, typeInfo, hi, Builtin.lenOf, hf, hle, storeCells]
/-- an append of a list of texts to a row of one's own: just that row turns -/
theorem wpList_append_textsW {ops : Array Oper} {rest : List Oper} {o : Oper} {a : Act} {Q : Exit → Act → World → Prop} (w : World) (hgd : o.guard = none) (s x : Operand)
    (ho : o.op = .call { callee := .builtin .append, args := #[s, x], argTypes := #[49, 49] })
    (base : Nat) (v : Value) (t l : List (List UInt8)) (ad : Option Addr) (c : Nat) (hs : a.eval s = v) (hx : a.eval x = .slice ad l.length c) (hown : w.ownsRow base 9 1 v t.length (t.map encV)) (hl : SlW w ad l)
    (h63 : t.length + l.length ≤ 1000000) (hbase : base ≤ w.heap.size)
    (h : ∀ v' w', w'.ownsRow base 9 1 v' (t ++ l).length ((t ++ l).map encV) → w.grownBy w' v.ownBlock → wpList Tryz.prog ops Q rest (a.put o.dst v') w') : wpList Tryz.prog ops Q (o :: rest) a w := by
  obtain ⟨i0, hi, hz⟩ := Option.map_eq_some_iff.1 infoStrV
  simp only [Prod.mk.injEq] at hz
  obtain ⟨hz0, hz1, hz2⟩ := hz
  cases l with
  | nil =>
    refine Lib.wpList_append_run w hgd s x _ _ ho v _ hs hx v w (append_emptyW hown ad c _) (h v w ?_ (World.grownBy.refl _ _))
    simpa using hown
  | cons y r =>
    obtain ⟨b, off, rfl, hr⟩ := hl (by simp)
    refine wpList_append_own w hgd s x _ ho base 9 i0 (.string ByteArray.empty) 1 16 Tryz.underlying49 hi hz0 hz1 hz2 rfl (by decide) v t.length (t.map encV) hs hown ⟨b, off, none⟩ (y :: r).length c ((y :: r).map encV) hx (by simp) ?_ (fun u hu => by obtain ⟨z, _, rfl⟩ := List.mem_map.1 hu; rfl) (by unfold maxLen; omega) (by omega) hbase ?_
    · intro j u hj
      have hj' : j < (y :: r).length := by have := (List.getElem?_eq_some_iff.1 hj).1; simpa using this
      rw [Addr.add_lit, hr j hj']
      rw [List.getElem?_map, List.getElem?_eq_getElem hj'] at hj
      exact hj
    · intro v' w' h2 h3 _
      refine h v' w' ?_ h3
      rw [List.length_append]
      simpa using h2
end Go.Proofs.YtenakehnnmencagGreatDoor

/- ask.tailWords. -/
namespace Go.Proofs.YtenakehnnmencagGreatDoor
open Go Go.RowKit Go.Proofs Go.Maps
set_option synthInstance.maxSize 1000

/-- two texts in new memory -/
theorem slW_two (W : World) (x y : List UInt8) : SlW (W.alloc (.cells #[.string ⟨x.toArray⟩, .string ⟨y.toArray⟩] 9)) (some ⟨W.heap.size, 0, none⟩) [x, y] := fun _ => ⟨W.heap.size, 0, rfl, fun j hj => by
  rcases (by simp at hj; omega : j = 0 ∨ j = 1) with rfl | rfl
  · show World.cell? _ ⟨W.heap.size, 0, none⟩ = some (.string ⟨x.toArray⟩)
    go_simp
  · show World.cell? _ ⟨W.heap.size, 1, none⟩ = some (.string ⟨y.toArray⟩)
    go_simp⟩
def tailA (q : Qu) : List (List UInt8) := if q.order = [] then [] else [wOrder, varT q.order]
def tailB (q : Qu) : List (List UInt8) := tailA q ++ (if q.down = true then [wDown] else [])
def tailC (q : Qu) : List (List UInt8) := tailB q ++ (if 0 ≤ q.lim then [wLimit, digitsN q.lim.toNat] else [])
theorem tailC_eq {q : Qu} (g : GoodQ q) : tailC q = ordT q ++ limT q := by
  unfold tailC tailB tailA ordT limT
  by_cases ho : q.order = []
  · have hd : q.down = false := by
      cases h : q.down with
      | false => rfl
      | true => exact absurd ho (g.down h)
    simp [ho, hd]
  · simp [ho]
theorem tail_len (q : Qu) : (tailA q).length ≤ 2 ∧ (tailB q).length ≤ 3 ∧ (tailC q).length ≤ 5 := by
  have h1 : (tailA q).length ≤ 2 := by unfold tailA; split <;> simp
  have h2 : (tailB q).length ≤ 3 := by unfold tailB; rw [List.length_append]; split <;> simp <;> omega
  refine ⟨h1, h2, ?_⟩
  unfold tailC
  rw [List.length_append]
  split <;> simp <;> omega
attribute [local go_sem ↓] eqlEmpty neqEmpty
set_option maxHeartbeats 8000000 in
set_option maxRecDepth 100000 in
theorem tailWords_own (q : Qu) (vd pd : Option Addr) (vc pc : Nat) (w : World) (g : GoodQ q)
    (hI : 0 ≤ q.lim → ∀ W, RowKit.Below w.heap.size w W → Calls Tryz.prog 127 #[.int .i64 q.lim] W fun e w' => e = .returned (.string ⟨(digitsN q.lim.toNat).toArray⟩) ∧ RowKit.Below W.heap.size W w') :
    Calls Tryz.prog 93 #[valQ q vd vc pd pc] w (WordsAns (tailC q) w) := by
  obtain ⟨w1, hw1⟩ : ∃ w1, w1 = w.alloc (.cells #[.slice vd q.vars.length vc, .slice pd q.parts.length pc, .string ⟨q.order.toArray⟩, .bool q.down, .bool q.dist, .int .i64 q.lim] 52) := ⟨_, rfl⟩
  have hb1 : RowKit.Below w.heap.size w w1 := by rw [hw1]; exact balloc _ _
  have HB : Hid (BoxQ w1 w.heap.size q vd pd vc pc) := by show BoxQ _ _ _ _ _ _ _; rw [hw1]; exact boxQ_new _ _ _ _ _ _
  have HW := hideQ hw1
  have HI := hideQ hI
  have hz1 := hb1.size
  have Ho := hideQ g.order
  have Hv := hideQ g.vars
  have Hl := hideQ g.lim
  obtain ⟨l1, l2, l3⟩ := tail_len q
  have TA : Hid (tailA q = if q.order = [] then [] else [wOrder, varT q.order]) := rfl
  have TB : Hid (tailB q = tailA q ++ (if q.down = true then [wDown] else [])) := rfl
  have TC : Hid (tailC q = tailB q ++ (if 0 ≤ q.lim then [wLimit, digitsN q.lim.toNat] else [])) := rfl
  obtain ⟨Q, hQ⟩ : ∃ Q, Q = WordsAns (tailC q) w := ⟨_, rfl⟩
  have HQ : Hid (∀ e w', WordsAns (tailC q) w e w' → Q e w') := fun e w' h => by rw [hQ]; exact h
  rw [← hQ]
  clear hQ g hw1 hI
  generalize tailC q = tC at *
  generalize tailB q = tB at *
  generalize tailA q = tA at *
  unfold valQ
  obtain ⟨dn, hdn⟩ : ∃ dn, dn = q.down := ⟨_, rfl⟩
  have Hdn := hideQ hdn
  rw [← hdn] at TB HW ⊢
  clear hdn
  go_enter Tryz.func93, Tryz.ntmps93
  go_upto_region 1 with fail
  rw [← HW.out]
  have c2 := HB.out.c2
  go_upto_if 6 with fail
  go_cut [3] from 6 to 12 (fun v W => Hid (W.ownsRow w1.heap.size 9 1 v tA.length (tA.map encV)) ∧ Hid (tA = [] → v = .slice none 0 0) ∧ RowKit.Below w1.heap.size w1 W)
  case first =>
    cases ho : q.order.isEmpty with
    | true =>
      have e0 : Hid (tA = []) := by show _ = _; rw [TA.out, if_pos (by simpa using ho)]
      clear TB TA
      go_wp2_with fail
      go_meet
      case rel => exact ⟨by rw [e0.out]; exact World.ownsRow_nil _ _ _ _, fun _ => rfl, RowKit.Below.refl _ _⟩
    | false =>
      have hne : q.order ≠ [] := by simpa using ho
      have e0 : Hid (tA = [] ++ [[111, 114, 100, 101, 114], 63 :: q.order]) := by show _ = _; rw [TA.out, if_neg hne]; rfl
      have hsh := var_short (Hv.out _ (Ho.out.resolve_left hne)).2
      have hx := catX 63 q.order
      have hsz : ¬ 9223372036854775807 < 1 + q.order.length := by omega
      clear hne TB TA
      go_wp2_with (at_builtin; refine wpList_append_textsW _ rfl _ _ rfl w1.heap.size _ [] [[111, 114, 100, 101, 114], 63 :: q.order] (some ⟨w1.heap.size, 0, none⟩) 2 rfl rfl (World.ownsRow_nil _ _ _ _) (slW_two w1 [111, 114, 100, 101, 114] (63 :: q.order)) (by simp) (by simp) ?_; intro v' w4 hv4 hg4)
      have hal : RowKit.Below w1.heap.size w1 (w1.alloc (.cells #[.string ⟨#[111, 114, 100, 101, 114]⟩, .string ⟨(63 :: q.order).toArray⟩] 9)) := balloc _ _
      have hbel : RowKit.Below w1.heap.size w1 w4 := hal.grown hg4 (by simp) (fun j hj => by cases hj)
      have hv5 := hideQ hv4
      clear hv4 hg4
      go_wp2_with fail
      go_meet
      case rel => exact ⟨by rw [e0.out]; exact hv5, fun h => (by rw [e0.out] at h; cases h), hbel⟩
  case rest =>
    obtain ⟨hrow, hnil, hbr⟩ := hcut
    clear c2 TA
    have c3 := (HB.out.below hbr).c3
    rw [← Hdn.out] at c3
    have hzr := hbr.size
    go_upto_if 14 with fail
    go_cut [3] from 14 to 17 (fun v W => Hid (W.ownsRow w1.heap.size 9 1 v tB.length (tB.map encV)) ∧ Hid (tB = [] → v = .slice none 0 0) ∧ RowKit.Below w1.heap.size w1 W)
    case first =>
      cases dn with
      | false =>
        have e0 : Hid (tB = tA) := by show _ = _; rw [TB.out, if_neg (by simp)]; simp
        clear TC TB
        go_wp2_with fail
        go_meet
        case rel => exact ⟨by rw [e0.out]; exact hrow, by rw [e0.out]; exact hnil, hbr⟩
      | true =>
        have e0 : Hid (tB = tA ++ [[100, 111, 119, 110]]) := by show _ = _; rw [TB.out, if_pos rfl]; rfl
        clear TC TB
        go_wp2_with (at_builtin; refine wpList_append_text _ rfl _ _ rfl w1.heap.size wc.heap.size _ tA [100, 111, 119, 110] rfl rfl (hrow.out.alloc _) (by go_simp) (by omega) (by simp; omega) ?_; intro v' w4 hv4 hg4 hat4)
        have hal : RowKit.Below wc.heap.size wc (wc.alloc (.cells #[.string ⟨#[100, 111, 119, 110]⟩] 9)) := balloc _ _
        have hbel : RowKit.Below w1.heap.size w1 w4 := (bstep hbr hal).grown hg4 (by simp; omega) (fun j hj => (hrow.out.lt j hj).1)
        have hv5 := hideQ hv4
        clear hv4 hg4 hat4
        go_wp2_with fail
        go_meet
        case rel => exact ⟨by rw [e0.out]; exact hv5, fun h => (by rw [e0.out] at h; simp at h), hbel⟩
    case rest =>
      clear hrow hnil hbr hzr c3
      obtain ⟨hrow, hnil, hbr⟩ := hcut
      have c5 := (HB.out.below hbr).c5
      have hzr := hbr.size
      by_cases hl : 0 ≤ q.lim
      · have dl : (q.lim != -1) = true := by simp; omega
        have dl2 : (q.lim == -1) = false := by simp; omega
        have e0 : Hid (tC = tB ++ [[108, 105, 109, 105, 116], digitsN q.lim.toNat]) := by show _ = _; rw [TC.out, if_pos hl]; rfl
        have HC := HI.out hl _ (bstep hb1 hbr)
        generalize digitsN q.lim.toNat = ds at *
        clear TC HI hl
        go_wp2_with fail
        refine HC.mono ?_
        rintro e w3 ⟨rfl, hb3⟩
        dsimp only
        have hrow3 := hideQ (ownsRow_belowV hrow.out hb3)
        have hz3 := hb3.size
        clear HC
        go_wp2_with (at_builtin; refine wpList_append_textsW _ rfl _ _ rfl w1.heap.size _ tB [[108, 105, 109, 105, 116], ds] (some ⟨w3.heap.size, 0, none⟩) 2 rfl rfl (hrow3.out.alloc _) (slW_two w3 [108, 105, 109, 105, 116] ds) (by simp; omega) (by simp; omega) ?_; intro v' w4 hv4 hg4)
        have hal : RowKit.Below w3.heap.size w3 (w3.alloc (.cells #[.string ⟨#[108, 105, 109, 105, 116]⟩, .string ⟨ds.toArray⟩] 9)) := balloc _ _
        have hbel : RowKit.Below w1.heap.size w1 w4 := (bstep (bstep hbr hb3) hal).grown hg4 (by simp; omega) (fun j hj => (hrow3.out.lt j hj).1)
        refine HQ.out _ _ ⟨v', rfl, by rw [e0.out]; exact own_mono hv4 hz1, fun h => ?_, bstep hb1 hbel⟩
        rw [e0.out] at h
        simp at h
      · have hm : q.lim = -1 := by have := Hl.out; omega
        have e0 : Hid (tC = tB) := by show _ = _; rw [TC.out, if_neg hl]; simp
        rw [hm] at c5
        clear TC HI hl hm
        go_wp2_with fail
        exact HQ.out _ _ ⟨_, rfl, by rw [e0.out]; exact own_mono hrow.out hz1, fun h => hnil.out (by rw [← e0.out]; exact h), bstep hb1 hbr⟩
end Go.Proofs.YtenakehnnmencagGreatDoor

/- (*strings.Builder).WriteString; strings.Join of three texts. -/
namespace Go.Proofs.YtenakehnnmencagGreatDoor
open Go Go.RowKit Go.Proofs

theorem infoStr : (Tryz.prog.info? 9).map (fun i => (i.zero, i.size, i.bytes)) = some (some (.string ByteArray.empty), 1, 16) := by kernel_rfl

set_option maxHeartbeats 1000000 in
set_option maxRecDepth 100000 in
theorem WriteString_any (B b : Nat) (bs l : List UInt8) (w : World) (h : Lib.IsBuilder 188 5 B b (Lib.byteCells bs) w) (hlen : bs.length + l.length ≤ 140737488355328) (hBw : B ≤ w.heap.size) :
    Calls Tryz.prog 129 #[.pointer (some ⟨b, 0, none⟩), .string ⟨l.toArray⟩] w fun e w' => (∃ v, e = .returned v) ∧ (Lib.BuilderAt 188 5 B b (.pointer (some ⟨b, 0, none⟩)) (Lib.byteCells (bs ++ l)) w' ∧ Below B w w') := by
  obtain ⟨i0, hi, hz⟩ := Option.map_eq_some_iff.1 infoByte
  simp only [Prod.mk.injEq] at hz
  obtain ⟨hz0, hz1, hz2⟩ := hz
  have hbl : (Lib.byteCells bs).length = bs.length := by simp [Lib.byteCells]
  go_enter Tryz.func129, Tryz.ntmps129
  go_wp2_with (go_at_call 161; refine (copyCheck_any B b (Lib.byteCells bs) _ h).mono ?_)
  rintro e w1 ⟨rfl, h1, hb1⟩
  obtain ⟨hB, v, hbk, hown, hne⟩ := h1
  have c0 : w1.cell? ⟨b, 0, none⟩ = some (.pointer (some ⟨b, 0, none⟩)) := by rw [Lib.cell_of_heap hbk]; rfl
  have c1 : w1.cell? ⟨b, 1, none⟩ = some v := by rw [Lib.cell_of_heap hbk]; rfl
  go_wp2_with (at_builtin; refine Lib.wpList_append_own_string _ rfl _ _ 186 9 rfl B 5 i0 Tryz.underlying186 Tryz.underlying9 hi hz0 hz1 hz2 _ _ _ rfl hown ⟨l.toArray⟩ rfl ?c3 ?c4 ?c5 ?_)
  case c3 => unfold maxLen; simp [ByteArray.size]; omega
  case c4 => simp [ByteArray.size]; omega
  case c5 => have := hb1.size; omega
  intro v' w2 hown' hgrow _
  have hlt : b < w1.heap.size := by
    rcases Nat.lt_or_ge b w1.heap.size with h' | h'
    · exact h'
    · simp [Array.getElem?_eq_none h'] at hbk
  have hb2 : w2.heap[b]? = some (.cells #[.pointer (some ⟨b, 0, none⟩), v] 188 (0, 0)) := by
    rw [hgrow.block b hlt (fun e => hne e.symm)]
    exact hbk
  have d0 : w2.cell? ⟨b, 0, none⟩ = some (.pointer (some ⟨b, 0, none⟩)) := by rw [Lib.cell_of_heap hb2]; rfl
  have d1 : w2.cell? ⟨b, 1, none⟩ = some v := by rw [Lib.cell_of_heap hb2]; rfl
  have f1 : w2.frozen? ⟨b, 1, none⟩ = false := Lib.frozen_of_heap hb2 1
  obtain ⟨ao, n', cap, rfl⟩ : ∃ ao n' cap, v' = .slice ao n' cap := by
    rcases hown'.2 with ⟨hv, _⟩ | ⟨g, cap, cur, hv, _⟩
    · exact ⟨_, _, _, hv⟩
    · exact ⟨_, _, _, hv⟩
  have hcat : Lib.byteCells bs ++ Lib.strCells ⟨l.toArray⟩ = Lib.byteCells (bs ++ l) := by simp [Lib.byteCells, Lib.strCells]
  rw [hcat] at hown'
  go_wp2
  refine bodyPost_ret (v := .tuple #[.int .i64 l.length, .nilIface]) (by simp [results, Tryz.results129, go_sem]) rfl ⟨⟨_, rfl⟩, ?_, ?_⟩
  · exact Lib.BuilderAt.put (T := 188) (e := 5) hB hb2 (bs' := Lib.byteCells (bs ++ l)) (by simpa [Lib.byteCells, ByteArray.size] using hown') neBuilder
  · exact (hb1.grown hgrow (by have := hb1.size; omega) (fun k hk => (hown.lt k hk).1)).setCell (p := ⟨b, 1, none⟩) hB _

theorem Grow_any (b n : Nat) (N : Int) (w : World) (hN : N = (n : Int)) (hbk : w.heap[b]? = some (.cells #[.pointer none, .slice none 0 0] 188 (0, 0))) (hBw : b ≤ w.heap.size) (hn : n ≤ 281474976710656) :
    Calls Tryz.prog 128 #[.pointer (some ⟨b, 0, none⟩), .int .i64 N] w fun e w' => e = .returned (.tuple #[]) ∧ (Lib.BuilderAt 188 5 b b (.pointer (some ⟨b, 0, none⟩)) [] w' ∧ Below b w w') := by
  subst hN
  exact Tryz.Builder_Grow_fresh b b n w (Nat.le_refl _) hbk hBw hn

/-- how long what was counted is -/
def lenUpto (x y z : List UInt8) (k : Nat) : Nat := 2 + (if 0 < k then x.length else 0) + (if 1 < k then y.length else 0) + (if 2 < k then z.length else 0)
/-- what was written -/
def joinUpto (x y z : List UInt8) (k : Nat) : List UInt8 := x ++ (if 0 < k then 32 :: y else []) ++ (if 1 < k then 32 :: z else [])

set_option maxHeartbeats 4000000 in
set_option maxRecDepth 100000 in
theorem Join_any (c : Nat) (x y z : List UInt8) (w : World) (hx : x.length ≤ 1000) (hy : y.length ≤ 1000) (hz : z.length ≤ 1000)
    (h0 : w.cell? ⟨c, 0, none⟩ = some (.string ⟨x.toArray⟩)) (h1 : w.cell? ⟨c, 1, none⟩ = some (.string ⟨y.toArray⟩)) (h2 : w.cell? ⟨c, 2, none⟩ = some (.string ⟨z.toArray⟩)) :
    Calls Tryz.prog 94 #[.slice (some ⟨c, 0, none⟩) 3 3, .string ⟨#[32]⟩] w fun e w' => e = .returned (.string ⟨(joinUpto x y z 2).toArray⟩) ∧ Below w.heap.size w w' := by
  go_enter Tryz.func94, Tryz.ntmps94
  go_wp2
  go_loop [5, 41] (fun n i => ∃ (k : Nat) (N : Int), k ≤ 3 ∧ i = .int .i64 k ∧ n = .int .i64 N ∧ 0 ≤ N ∧ N ≤ 10000 ∧ Hid (N = (lenUpto x y z k : Int))) (fun _ i => 3 - (intOf i).toNat)
  case atStart => exact ⟨0, 2, by omega, rfl, rfl, by omega, by omega, rfl⟩
  case round =>
    obtain ⟨k, N, hk, rfl, rfl, hN0, hN1, hN⟩ := hrel
    have hw1 : IntKind.i64.wrap (9223372036854775807 - N) = 9223372036854775807 - N := by simp [IntKind.wrap, IntKind.bits, IntKind.signed]; omega
    rcases (by omega : k = 0 ∨ k = 1 ∨ k = 2 ∨ k = 3) with rfl | rfl | rfl | rfl
    · have hs : IntKind.i64.wrap (N + (x.length : Int)) = N + (x.length : Int) := by simp [IntKind.wrap, IntKind.bits, IntKind.signed]; omega
      have hd : decide ((x.length : Int) > 9223372036854775807 - N) = false := by simp; omega
      go_wp2
      exact ⟨⟨1, N + x.length, by omega, by go_num, rfl, by omega, by have := hN.out; simp [lenUpto] at this; omega, by have := hN.out; simp [Hid, lenUpto] at this ⊢; omega⟩, by simp [intOf]⟩
    · have hs : IntKind.i64.wrap (N + (y.length : Int)) = N + (y.length : Int) := by simp [IntKind.wrap, IntKind.bits, IntKind.signed]; omega
      have hd : decide ((y.length : Int) > 9223372036854775807 - N) = false := by simp; omega
      go_wp2
      exact ⟨⟨2, N + y.length, by omega, by go_num, rfl, by omega, by have := hN.out; simp [lenUpto] at this; omega, by have := hN.out; simp [Hid, lenUpto] at this ⊢; omega⟩, by simp [intOf]⟩
    · have hs : IntKind.i64.wrap (N + (z.length : Int)) = N + (z.length : Int) := by simp [IntKind.wrap, IntKind.bits, IntKind.signed]; omega
      have hd : decide ((z.length : Int) > 9223372036854775807 - N) = false := by simp; omega
      go_wp2
      exact ⟨⟨3, N + z.length, by omega, by go_num, rfl, by omega, by have := hN.out; simp [lenUpto] at this; omega, by have := hN.out; simp [Hid, lenUpto] at this ⊢; omega⟩, by simp [intOf]⟩
    · clear hw1
      go_wp2_with fail
      refine (Grow_any w.heap.size (lenUpto x y z 3) N _ hN.out (heap_alloc_new w _) (by simp) (by have : lenUpto x y z 3 = 2 + x.length + y.length + z.length := rfl; omega)).mono ?_
      rintro e w1 ⟨rfl, hI1, hb1⟩
      have hbw : Below w.heap.size w w1 := (balloc w _).trans hb1
      have hB1 := hbw.size
      obtain ⟨kc, _⟩ := bcell hbw
      have g0 := hbw.cell (World.block_lt_of_cell? w _ h0) |>.trans h0
      have g1 := hbw.cell (World.block_lt_of_cell? w _ h1) |>.trans h1
      have g2 := hbw.cell (World.block_lt_of_cell? w _ h2) |>.trans h2
      clear hb1 kc
      go_wp2_with fail
      refine (WriteString_any w.heap.size w.heap.size [] x _ (Or.inr hI1) (by simp; omega) hB1).mono ?_
      rintro e w2 ⟨⟨v, rfl⟩, hI2, hb2⟩
      have hbw2 := hbw.trans hb2
      clear hb2 hI1 hbw g0 g1 g2 hB1
      go_wp2_with fail
      go_loopw [65] (fun i wr => ∃ k : Nat, k ≤ 2 ∧ i = .int .i64 k ∧ Lib.IsBuilder 188 5 w.heap.size w.heap.size (Lib.byteCells (joinUpto x y z k)) wr ∧ Below w.heap.size w wr) (fun i wr => 2 - (intOf i).toNat)
      case atStart => exact ⟨0, by omega, rfl, Or.inr (by simpa [joinUpto] using hI2), hbw2⟩
      case round =>
        obtain ⟨k, hk, rfl, hI, hbr⟩ := hrel
        have hB := hbr.size
        have g1 := hbr.cell (World.block_lt_of_cell? w _ h1) |>.trans h1
        have g2 := hbr.cell (World.block_lt_of_cell? w _ h2) |>.trans h2
        rcases (by omega : k = 0 ∨ k = 1 ∨ k = 2) with rfl | rfl | rfl
        · go_wp2_with fail
          refine (WriteString_any w.heap.size w.heap.size _ [32] _ hI (by simp [joinUpto]; omega) hB).mono ?_
          rintro e w3 ⟨⟨v, rfl⟩, hI3, hb3⟩
          have hbr3 := hbr.trans hb3
          have hB3 := hbr3.size
          go_wp2_with fail
          refine (WriteString_any w.heap.size w.heap.size _ y _ (Or.inr hI3) (by simp [joinUpto]; omega) hB3).mono ?_
          rintro e w4 ⟨⟨v, rfl⟩, hI4, hb4⟩
          go_wp2_with fail
          exact ⟨⟨1, by omega, by go_num, Or.inr (by simpa [joinUpto] using hI4), hbr3.trans hb4⟩, by simp [intOf]⟩
        · go_wp2_with fail
          refine (WriteString_any w.heap.size w.heap.size _ [32] _ hI (by simp [joinUpto]; omega) hB).mono ?_
          rintro e w3 ⟨⟨v, rfl⟩, hI3, hb3⟩
          have hbr3 := hbr.trans hb3
          have hB3 := hbr3.size
          go_wp2_with fail
          refine (WriteString_any w.heap.size w.heap.size _ z _ (Or.inr hI3) (by simp [joinUpto]; omega) hB3).mono ?_
          rintro e w4 ⟨⟨v, rfl⟩, hI4, hb4⟩
          go_wp2_with fail
          exact ⟨⟨2, by omega, by go_num, Or.inr (by simpa [joinUpto] using hI4), hbr3.trans hb4⟩, by simp [intOf]⟩
        · go_wp2_with fail
          refine (Tryz.Builder_String_any w.heap.size w.heap.size (joinUpto x y z 2) _ hI hB).mono ?_
          rintro e w3 ⟨rfl, hb3⟩
          go_wp2_with fail
          go_ret
          exact ⟨rfl, hbr.trans hb3⟩
end Go.Proofs.YtenakehnnmencagGreatDoor

/- strings.Join of a list of words, with blanks between. -/
namespace Go.Proofs.YtenakehnnmencagGreatDoor
open Go Go.RowKit Go.Proofs
set_option synthInstance.maxSize 1000

theorem hideJ {p : Prop} (h : p) : Hid p := h
/-- how long what was counted is -/
def lenN (l : List (List UInt8)) (k : Nat) : Nat := (l.length - 1) + ((l.take k).map List.length).sum
theorem lenN_next (l : List (List UInt8)) (k : Nat) (h : k < l.length) : lenN l (k + 1) = lenN l k + l[k].length := by
  unfold lenN
  rw [List.take_succ_eq_append_getElem h, List.map_append, List.sum_append]
  simp only [List.map_cons, List.map_nil, List.sum_cons, List.sum_nil]
  omega
theorem lenN_le (l : List (List UInt8)) (hw : ∀ x ∈ l, x.length ≤ 10000) (k : Nat) (h : k ≤ l.length) : lenN l k ≤ (l.length - 1) + 10000 * k := by
  induction k with
  | zero => simp [lenN]
  | succ n ih =>
    rw [lenN_next l n (by omega)]
    have h1 := ih (by omega)
    have h2 := hw _ (List.getElem_mem (show n < l.length by omega))
    omega
/-- what was written -/
def joinN (l : List (List UInt8)) (k : Nat) : List UInt8 := l.headD [] ++ tailT (l.tail.take k)
theorem joinN_next (l : List (List UInt8)) (k : Nat) (h : k + 1 < l.length) : joinN l (k + 1) = (joinN l k ++ [32]) ++ l[k + 1] := by
  unfold joinN
  have ht : k < l.tail.length := by simp; omega
  rw [List.take_succ_eq_append_getElem ht, tailT_app]
  have e : l.tail[k] = l[k + 1] := by simp
  rw [e]
  simp [tailT]
theorem joinN_end {l : List (List UInt8)} (h : l ≠ []) : joinN l (l.length - 1) = joinT l := by
  cases l with
  | nil => exact absurd rfl h
  | cons x r =>
    rw [join_tail]
    simp [joinN]
theorem joinN_len (l : List (List UInt8)) (hw : ∀ x ∈ l, x.length ≤ 10000) (k : Nat) (h : k + 1 ≤ l.length) : (joinN l k).length ≤ 10000 + 10001 * k := by
  induction k with
  | zero =>
    cases l with
    | nil => simp at h
    | cons x r =>
      have := hw x (by simp)
      simp [joinN, tailT]
      omega
  | succ n ih =>
    rw [joinN_next l n (by omega)]
    have h1 := ih (by omega)
    have h2 := hw _ (List.getElem_mem (show n + 1 < l.length by omega))
    simp
    omega
set_option maxHeartbeats 4000000 in
set_option maxRecDepth 100000 in
theorem JoinN_any (ad : Option Addr) (cap : Nat) (l : List (List UInt8)) (w : World) (hs : SlW w ad l) (h2 : 2 ≤ l.length) (hl : l.length ≤ 1000) (hw : ∀ x ∈ l, x.length ≤ 10000) (hc : l.length ≤ cap) :
    Calls Tryz.prog 94 #[.slice ad l.length cap, .string ⟨#[32]⟩] w fun e w' => e = .returned (.string ⟨(joinT l).toArray⟩) ∧ Below w.heap.size w w' := by
  obtain ⟨b, o, rfl, hr⟩ := hs (fun e => by rw [e] at h2; simp at h2)
  have HS := hideJ hr
  have Hw := hideJ hw
  have fin := hideJ (joinN_end (l := l) (fun e => by rw [e] at h2; simp at h2))
  have d0 : ((l.length : Int) == 0) = false := by rw [beq_eq_false_iff_ne]; omega
  have d1 : ((l.length : Int) == 1) = false := by rw [beq_eq_false_iff_ne]; omega
  have hdiv : decide (9223372036854775807 / ((l.length : Int) - 1) ≤ 1) = false := by
    have h3 : (2 : Int) ≤ 9223372036854775807 / ((l.length : Int) - 1) := (Int.le_ediv_iff_mul_le (by omega)).2 (by omega)
    simp
    omega
  clear hr hs hw
  go_enter Tryz.func94, Tryz.ntmps94
  go_wp2
  go_loop [5, 41] (fun n i => ∃ (k : Nat) (N : Int), k ≤ l.length ∧ i = .int .i64 k ∧ n = .int .i64 N ∧ 0 ≤ N ∧ N ≤ 11000000 ∧ Hid (N = (lenN l k : Int))) (fun _ i => l.length - (intOf i).toNat)
  case atStart =>
    refine ⟨0, (l.length : Int) - 1, Nat.zero_le _, rfl, by go_num, by omega, by omega, ?_⟩
    show _ = _
    simp [lenN]
    omega
  case round =>
    obtain ⟨k, N, hk, rfl, rfl, hN0, hN1, hN⟩ := hrel
    have hw1 : IntKind.i64.wrap (9223372036854775807 - N) = 9223372036854775807 - N := by simp [IntKind.wrap, IntKind.bits, IntKind.signed]; omega
    by_cases hlt : k < l.length
    · have ck := HS.out k hlt
      have hx := Hw.out _ (List.getElem_mem hlt)
      have hnx := hideJ (lenN_next l k hlt)
      have hle := hideJ (lenN_le l Hw.out (k + 1) (by omega))
      unfold encV at ck
      generalize hX : l[k] = x at *
      have hs : IntKind.i64.wrap (N + (x.length : Int)) = N + (x.length : Int) := by simp [IntKind.wrap, IntKind.bits, IntKind.signed]; omega
      have hd : decide ((x.length : Int) > 9223372036854775807 - N) = false := by simp; omega
      have i0 : (0 : Int) ≤ (k : Int) := by omega
      have i1 : (k : Int) < (l.length : Int) := by omega
      clear hX
      go_wp2
      refine ⟨⟨k + 1, N + x.length, by omega, by go_num, rfl, by omega, ?_, ?_⟩, by simp [intOf]; omega⟩
      · have := hN.out
        have h3 := hle.out
        rw [hnx.out] at h3
        omega
      · show _ = _
        rw [hN.out, hnx.out]
        omega
    · obtain rfl : k = l.length := by omega
      have hle := lenN_le l Hw.out l.length (Nat.le_refl _)
      clear hw1 hlt
      have c0 := HS.out 0 (by omega)
      unfold encV at c0
      rw [Nat.add_zero] at c0
      have hx0 := Hw.out l[0] (List.getElem_mem _)
      have ej : Hid (joinN l 0 = l[0]) := by
        show _ = _
        cases l with
        | nil => simp at h2
        | cons x r => simp [joinN, tailT]
      generalize hX : l[0] = x0 at *
      clear hX
      go_wp2_with fail
      refine (Grow_any w.heap.size (lenN l l.length) N _ hN.out (heap_alloc_new w _) (by simp) (by omega)).mono ?_
      rintro e w1 ⟨rfl, hI1, hb1⟩
      dsimp only
      have hbw : Below w.heap.size w w1 := (balloc w _).trans hb1
      have hB1 := hbw.size
      have g0 := hbw.cell (World.block_lt_of_cell? w _ c0) |>.trans c0
      clear hb1
      have j1 : (0 : Int) < (l.length : Int) := by omega
      go_wp2_with fail
      refine (WriteString_any w.heap.size w.heap.size [] x0 _ (Or.inr hI1) (by simp; omega) hB1).mono ?_
      rintro e w2 ⟨⟨v, rfl⟩, hI2, hb2⟩
      dsimp only
      have hbw2 := hbw.trans hb2
      clear hb2 hI1 hbw g0 hB1
      have j2 : (1 : Int) ≤ (l.length : Int) := by omega
      have j3 : (l.length : Int) ≤ (cap : Int) := by omega
      go_wp2_with fail
      go_loopw [65] (fun i wr => ∃ k : Nat, k + 1 ≤ l.length ∧ i = .int .i64 k ∧ Lib.IsBuilder 188 5 w.heap.size w.heap.size (Lib.byteCells (joinN l k)) wr ∧ Below w.heap.size w wr) (fun i wr => l.length - 1 - (intOf i).toNat)
      case atStart => exact ⟨0, by omega, rfl, Or.inr (by rw [ej.out]; simpa using hI2), hbw2⟩
      case round =>
        obtain ⟨k, hk, rfl, hI, hbr⟩ := hrel
        have hB := hbr.size
        have hjl := joinN_len l Hw.out k hk
        by_cases hlt : k + 1 < l.length
        · have ck0 := HS.out (k + 1) hlt
          have hx := Hw.out _ (List.getElem_mem hlt)
          have hnx := hideJ (joinN_next l k hlt)
          unfold encV at ck0
          generalize hX : l[k + 1] = x at *
          clear hX
          have ck : wr.cell? ⟨b, o + 1 + k, none⟩ = some (.string ⟨x.toArray⟩) := by
            have := hbr.cell (World.block_lt_of_cell? w _ ck0) |>.trans ck0
            rw [show o + (k + 1) = o + 1 + k by omega] at this
            exact this
          have i0 : (0 : Int) ≤ (k : Int) := by omega
          have i1 : (k : Int) < (l.length : Int) - 1 := by omega
          have i2 : k < l.length - 1 := by omega
          generalize joinN l k = jk at *
          go_wp2_with fail
          refine (WriteString_any w.heap.size w.heap.size jk [32] _ hI (by simp; omega) hB).mono ?_
          rintro e w3 ⟨⟨v, rfl⟩, hI3, hb3⟩
          dsimp only
          have hbr3 := hbr.trans hb3
          have hB3 := hbr3.size
          go_wp2_with fail
          refine (WriteString_any w.heap.size w.heap.size (jk ++ [32]) x _ (Or.inr hI3) (by simp; omega) hB3).mono ?_
          rintro e w4 ⟨⟨v, rfl⟩, hI4, hb4⟩
          dsimp only
          go_wp2_with fail
          go_roundw
          case rel => exact ⟨k + 1, by omega, by go_num, Or.inr (by rw [hnx.out]; exact hI4), hbr3.trans hb4⟩
          case measure => simp [intOf]; omega
        · have hkk : k = l.length - 1 := by omega
          have ek : Hid (joinN l k = joinT l) := by show _ = _; rw [hkk]; exact fin.out
          have HB := fun W hW hB => Tryz.Builder_String_any w.heap.size w.heap.size (joinN l k) W hW hB
          rw [ek.out] at HB hI
          have i2 : ¬ k < l.length - 1 := by omega
          have i3 : ¬ (k : Int) < (l.length : Int) - 1 := by omega
          clear hkk
          go_wp2_with fail
          refine (HB _ hI hB).mono ?_
          rintro e w3 ⟨rfl, hb3⟩
          dsimp only
          go_wp2_with fail
          go_ret
          exact ⟨rfl, hbr.trans hb3⟩
end Go.Proofs.YtenakehnnmencagGreatDoor

/- ask.write, ask.Print. -/
namespace Go.Proofs.YtenakehnnmencagGreatDoor
open Go Go.RowKit Go.Proofs Go.Maps
set_option synthInstance.maxSize 1000

attribute [local go_sem] eql_errV neq_errV guard_errV

theorem words_cat {q : Qu} (g : GoodQ q) : (headL q ++ partsT q.parts) ++ tailC q = wordsQ q := by
  rw [tailC_eq g]
  unfold headL wordsQ
  simp
theorem partsT_len : ∀ (l : List Pt), (partsT l).length ≤ 4 * l.length
  | [] => by simp [partsT]
  | p :: r => by
    have := partsT_len r
    unfold partsT
    split
    · simp [partT]; omega
    · simp [partT]; omega
theorem words_few {q : Qu} (g : GoodQ q) : (headL q).length ≤ 20 ∧ (partsT q.parts).length ≤ 24 ∧ (wordsQ q).length ≤ 100 ∧ 2 ≤ (wordsQ q).length := by
  have h1 := g.few
  have h2 := g.six
  have h3 := partsT_len q.parts
  have h4 := (tail_len q).2.2
  have h5 : (headL q).length ≤ 20 := by rw [headK_end]; have := headK_len q q.vars.length; simp; omega
  have h6 := words_cat g
  have h7 : (wordsQ q).length = (headL q).length + (partsT q.parts).length + (tailC q).length := by rw [← h6]; simp; omega
  have h8 : 2 ≤ (headL q).length := by unfold headL; simp; omega
  exact ⟨h5, by omega, by omega, by omega⟩
theorem words_short {q : Qu} (h : askN q = 0) : ∀ x ∈ wordsQ q, x.length ≤ 10000 := fun x hx => Nat.le_trans ((join_len (wordsQ q)).2 x hx) (text_len h)
set_option maxHeartbeats 8000000 in
set_option maxRecDepth 100000 in
theorem write_own (q : Qu) (vd pd : Option Addr) (vc pc : Nat) (w : World) (h : QuIn w q vd pd) (h0 : askN q = 0)
    (hI : 0 ≤ q.lim → ∀ W, RowKit.Below w.heap.size w W → Calls Tryz.prog 127 #[.int .i64 q.lim] W fun e w' => e = .returned (.string ⟨(digitsN q.lim.toNat).toArray⟩) ∧ RowKit.Below W.heap.size W w') :
    Calls Tryz.prog 58 #[valQ q vd vc pd pc] w fun e w' => e = .returned (.tuple #[.string ⟨(textQ q).toArray⟩, .nilIface]) ∧ RowKit.Below w.heap.size w w' := by
  have g := ask_good h0
  obtain ⟨w1, hw1⟩ : ∃ w1, w1 = w.alloc (.cells #[.slice vd q.vars.length vc, .slice pd q.parts.length pc, .string ⟨q.order.toArray⟩, .bool q.down, .bool q.dist, .int .i64 q.lim] 52) := ⟨_, rfl⟩
  have hb1 : RowKit.Below w.heap.size w w1 := by rw [hw1]; exact balloc _ _
  have HB : Hid (BoxQ w1 w.heap.size q vd pd vc pc) := by show BoxQ _ _ _ _ _ _ _; rw [hw1]; exact boxQ_new _ _ _ _ _ _
  have Hin := hideQ (h.below hb1)
  have HW := hideQ hw1
  have HP := partWords_own q.parts pd pc w1 Hin.out.parts g.six g.some g.parts
  have HH := fun W (hW : RowKit.Below w1.heap.size w1 W) => headWords_own q vd pd vc pc W (Hin.out.below hW) g
  have HT := fun W (hW : RowKit.Below w.heap.size w W) => tailWords_own q vd pd vc pc W g (fun hl W' hW' => hI hl W' (bstep hW hW'))
  obtain ⟨f1, f2, f3, f4⟩ := words_few g
  have ft := (tail_len q).2.2
  have fc := hideQ (words_cat g)
  have fs := hideQ (words_short h0)
  have fin : Hid (textQ q = joinT (wordsQ q)) := rfl
  unfold PartWAns at HP
  unfold WordsAns at HH HT
  unfold valQ at HH HT ⊢
  clear h hw1 hI g h0
  generalize textQ q = TX at *
  generalize wordsQ q = WQ at *
  generalize headL q = hL at *
  generalize partsT q.parts = pL at *
  generalize tailC q = tL at *
  go_enter Tryz.func58, Tryz.ntmps58
  go_upto_region 1 with fail
  rw [← HW.out]
  obtain ⟨c0, c1, c2, c3, c4, c5⟩ := HB.out
  go_wp2_with fail
  refine HP.mono ?_
  rintro e w2 ⟨vp, rfl, hp2, hb2⟩
  dsimp only
  obtain ⟨ad, cap, rfl, hsl, hcap⟩ := own_capW hp2
  have hz2 := hb2.size
  clear c0 c1 c2 c3 c4 c5 HP hcap
  obtain ⟨c0, c1, c2, c3, c4, c5⟩ := HB.out.below hb2
  go_wp2_with fail
  refine (HH _ hb2).mono ?_
  rintro e w3 ⟨vh, rfl, hh3, _, hb3⟩
  dsimp only
  have hsl3 := hideQ (hsl.below hb3)
  have hz3 := hb3.size
  have hbb3 := bstep (bstep hb1 hb2) hb3
  clear c0 c1 c2 c3 c4 c5 HH hsl
  go_wp2_with (at_builtin; refine wpList_append_textsW _ rfl _ _ rfl w2.heap.size _ hL pL ad cap rfl rfl hh3 hsl3.out (by omega) (by omega) ?_; intro v4 w4 hv4 hg4; have hbel4 : RowKit.Below w2.heap.size w2 w4 := hb3.grown hg4 hz3 (fun j hj => (hh3.lt j hj).1); obtain ⟨d0, d1, d2, d3, d4, d5⟩ := HB.out.below (bstep hb2 hbel4))
  have hB4 := bstep (bstep hb1 hb2) hbel4
  refine (HT _ hB4).mono ?_
  rintro e w5 ⟨vt, rfl, ht5, _, hb5⟩
  dsimp only
  obtain ⟨ad5, cap5, rfl, hsl5, _⟩ := own_capW ht5
  have hv5 := hideQ (ownsRow_belowV hv4 hb5)
  have Hsl5 := hideQ hsl5
  have hz5 := hb5.size
  have hz4 := hbel4.size
  have hB5 := bstep hB4 hb5
  clear d0 d1 d2 d3 d4 d5 HT hsl5 hh3 hg4 hv4 ht5 hsl3
  go_wp2_with (at_builtin; refine wpList_append_textsW _ rfl _ _ rfl w2.heap.size _ (hL ++ pL) tL ad5 cap5 rfl rfl hv5.out Hsl5.out (by simp; omega) (by omega) ?_; intro v6 w6 hv6 hg6)
  rw [fc.out] at hv6
  have hbel6 : RowKit.Below w2.heap.size w2 w6 := (bstep hbel4 hb5).grown hg6 (by omega) (fun j hj => (hv5.out.lt j hj).1)
  have hB6 := bstep (bstep hb1 hb2) hbel6
  obtain ⟨ad6, cap6, rfl, hsl6, hc6⟩ := own_capW hv6
  refine (JoinN_any ad6 cap6 WQ w6 hsl6 f4 (by omega) fs.out hc6).mono ?_
  rintro e w7 ⟨rfl, hb7⟩
  dsimp only
  go_wp2_with fail
  exact bodyPost_ret (v := .tuple #[.string ⟨(joinT WQ).toArray⟩, .nilIface]) (by simp [results, Tryz.results58, go_sem]) rfl ⟨by rw [fin.out], bstep hB6 hb7⟩
set_option maxHeartbeats 4000000 in
set_option maxRecDepth 100000 in
theorem PrintO_any (q : Qu) (vd pd : Option Addr) (vc pc : Nat) (w : World) (h : QuIn w q vd pd) (hf : FitQ q) (hvc : q.vars.length ≤ vc)
    (hI : 0 ≤ q.lim → q.lim ≤ 500 → ∀ W, RowKit.Below w.heap.size w W → Calls Tryz.prog 127 #[.int .i64 q.lim] W fun e w' => e = .returned (.string ⟨(digitsN q.lim.toNat).toArray⟩) ∧ RowKit.Below W.heap.size W w') :
    Calls Tryz.prog 23 #[valQ q vd vc pd pc] w fun e w' => e = .returned (.tuple #[.string ⟨(printQ q).toArray⟩, errV (askN q)]) ∧ RowKit.Below w.heap.size w w' := by
  obtain ⟨w1, hw1⟩ : ∃ w1, w1 = w.alloc (.cells #[.slice vd q.vars.length vc, .slice pd q.parts.length pc, .string ⟨q.order.toArray⟩, .bool q.down, .bool q.dist, .int .i64 q.lim] 52) := ⟨_, rfl⟩
  have hb1 : RowKit.Below w.heap.size w w1 := by rw [hw1]; exact balloc _ _
  have HB : Hid (BoxQ w1 w.heap.size q vd pd vc pc) := by show BoxQ _ _ _ _ _ _ _; rw [hw1]; exact boxQ_new _ _ _ _ _ _
  have Hin := hideQ (h.below hb1)
  have HW := hideQ hw1
  have HC := CheckO_any q vd pd vc pc w1 Hin.out hf hvc
  have HR := hideQ (fun (h0 : askN q = 0) W (hW : RowKit.Below w1.heap.size w1 W) => write_own q vd pd vc pc W (Hin.out.below hW) h0 (fun hl W' hW' => hI hl (ask_good h0).lim.2 W' (bstep (bstep hb1 hW) hW')))
  have hp : Hid (printQ q = if askN q = 0 then textQ q else []) := rfl
  unfold valQ at HC HR ⊢
  clear h hw1 hI hf
  generalize printQ q = PT at *
  generalize textQ q = TX at *
  generalize hN : askN q = N at *
  clear hN
  go_enter Tryz.func23, Tryz.ntmps23
  go_upto_region 1 with fail
  rw [← HW.out]
  obtain ⟨c0, c1, c2, c3, c4, c5⟩ := HB.out
  go_wp2_with fail
  refine HC.mono ?_
  rintro e w2 ⟨rfl, hb2⟩
  dsimp only
  clear c0 c1 c2 c3 c4 c5 HC
  obtain ⟨c0, c1, c2, c3, c4, c5⟩ := HB.out.below hb2
  by_cases h0 : N = 0
  · subst h0
    have HR2 := HR.out rfl w2 hb2
    go_wp2_with fail
    refine HR2.mono ?_
    rintro e w3 ⟨rfl, hb3⟩
    dsimp only
    go_wp2_with fail
    exact bodyPost_ret (v := .tuple #[.string ⟨TX.toArray⟩, .nilIface]) (by simp [results, Tryz.results23, go_sem]) rfl ⟨by rw [hp.out]; rfl, bstep hb1 (bstep hb2 hb3)⟩
  · have hne : (N == 0) = false := by simpa using h0
    have hne2 : (N != 0) = true := by simpa using h0
    have e1 : Hid (PT = []) := by show _ = _; rw [hp.out, if_neg h0]
    clear h0 HR hp
    go_wp2_with fail
    exact bodyPost_ret (v := .tuple #[.string ⟨#[]⟩, errV N]) (by simp [results, Tryz.results23, go_sem]) rfl ⟨by rw [e1.out], bstep hb1 hb2⟩
end Go.Proofs.YtenakehnnmencagGreatDoor

/- Package ask keeps its face. -/
namespace Go.Proofs.YtenakehnnmencagGreatDoor
open Go Go.RowKit Go.Proofs Go.Maps
set_option synthInstance.maxSize 1000

def theAsk : AFace where
  lim := 100000000
  ok := NumLaid
  keep h hb := h.below hb
  pn := parseON (numBy atoV atoB)
  pp := parseOP (numBy atoV atoB)
  own s := (parse_own ato_ok s).1
  place s h := ((parse_own ato_ok s).2 h).2
  check q vd pd vc pc w _ hin hf hvc _ := CheckO_any q vd pd vc pc w hin hf hvc
  print q vd pd vc pc w hok hin hf hvc _ := PrintO_any q vd pd vc pc w hin hf hvc (fun h0 _ W hW => Itoa_own q.lim h0 (by omega) W (hok.below hW))
  parse s w hok hl := ParseO_any atoV atoB ato_ok s w hl (fun W1 hW1 => readNumber_own W1 (hok.below hW1))
theorem theAsk_lim : 100000000 ≤ theAsk.lim := Nat.le_refl _
end Go.Proofs.YtenakehnnmencagGreatDoor
