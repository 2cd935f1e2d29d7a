/- The document's answer (package strataref2): Bases. -/
import Derived.Test.YtackdedbphfaeaeDoorRefUp
import Derived.Test.YtackdedbphfaeaeDoorDagBase
import Derived.Deep.RegionHeld3
namespace Go.Proofs.YtackdedbphfaeaeDoor
open Go Go.RowKit Go.Proofs
set_option synthInstance.maxSize 1000

/-- what Bases answers -/
def BaseAns (w : World) (l : List Cm) (a b : Nat) (e : Ending) (w' : World) : Prop :=
  ∃ ad c m, e = .returned (.slice ad m.length c) ∧ RiseN m ∧ (∀ z, z ∈ m ↔ isBase l a b z) ∧ SlI w' ad (m.map fun k : Nat => (k : Int)) ∧ RowKit.Below w.heap.size w w' ∧ m.length ≤ 60
theorem has_nat (y : List Nat) (k : Nat) : (y.map fun k : Nat => (k : Int)).contains (k : Int) = decide (k ∈ y) := by
  rw [List.contains_eq_mem, decide_eq_decide, List.mem_map]
  constructor
  · rintro ⟨z, hz, e⟩
    rw [show k = z by omega]; exact hz
  · exact fun h => ⟨k, h, rfl⟩
theorem SlI.nat {W : World} {ad : Option Addr} {m : List Nat} (h : SlI W ad (m.map fun k : Nat => (k : Int))) {k : Nat} (hk : k < m.length) : ∃ b o, ad = some ⟨b, o, none⟩ ∧ W.cell? ⟨b, o + k, none⟩ = some (.int .i64 ((m.getD k 0 : Nat) : Int)) := by
  obtain ⟨b, o, e, h1⟩ := h.at (j := k) (by simpa using hk)
  refine ⟨b, o, e, h1.trans ?_⟩
  rw [List.getD_eq_getElem?_getD, List.getElem?_eq_getElem hk]
  simp
theorem RInN_any (ad : Option Addr) (ca : Nat) (m : List Nat) (n : Nat) (w : World) (h : SlI w ad (m.map fun k : Nat => (k : Int))) (hz : m.length ≤ 60) :
    Calls Tryd.prog 26 #[.slice ad m.length ca, .int .i64 (n : Int)] w fun e w' => e = .returned (.bool (decide (n ∈ m))) ∧ w' = w := by
  have := RIn_any ad ca (m.map fun k : Nat => (k : Int)) (n : Int) w h (by simp; omega)
  rw [has_nat, List.length_map] at this
  exact this

theorem holdC {W W' : World} {ad : Option Addr} {l : List Cm} {p q : Addr} {u v : Value} (h : SlC W ad l ∧ W.cell? p = some u ∧ W.cell? q = some v) (hb : RowKit.Below W.heap.size W W') : SlC W' ad l ∧ W'.cell? p = some u ∧ W'.cell? q = some v :=
  ⟨h.1.below hb, (hb.cell (World.block_lt_of_cell? W _ h.2.1)).trans h.2.1, (hb.cell (World.block_lt_of_cell? W _ h.2.2)).trans h.2.2⟩
set_option maxHeartbeats 8000000 in
set_option maxRecDepth 100000 in
theorem RBases_any (ad : Option Addr) (ca : Nat) (l : List Cm) (a b : Nat) (w : World) (hl : SlC w ad l) (hG : GoodC l) (ha : a < l.length) (hb : b < l.length) :
    Calls Tryd.prog 25 #[.slice ad l.length ca, .int .i64 (a : Int), .int .i64 (b : Int)] w fun e w' => BaseAns w l a b e w' := by
  have HAn := fun (i : Nat) (hi : i < l.length) W (h : SlC W ad l) => RAncestors_any ad ca l i W h hG hi
  have Hl := hideO hl
  have Hup := hideO (fun k => @up_le l hG a k ha)
  obtain ⟨i0', hi0, hz0, hz1, hz2⟩ := info_parts infoU
  have Ha := hideO ha
  have Hb := hideO hb
  clear hl hG ha hb
  go_enter Tryd.func25, Tryd.ntmps25
  go_wp2_with fail
  refine (HAn a Ha.out _ Hl.out).mono ?_
  rintro e w1 ⟨xa, xc, x, rfl, hx, ux, sx, hb1, lx⟩
  have Hx := hideO (And.intro hx (And.intro ux (And.intro sx hb1)))
  clear hx ux sx hb1
  dsimp only
  go_wp2_with fail
  refine (HAn b Hb.out _ (Hl.out.below Hx.out.2.2.2)).mono ?_
  rintro e w2 ⟨ya, yc, y, rfl, hy, uy, sy, hb2, ly⟩
  have Hy := hideO (And.intro uy (And.intro sy hb2))
  have hB2 := hideO (bstep Hx.out.2.2.2 hb2)
  have Hx2 := hideO (Hx.out.2.2.1.below hb2)
  clear hy uy sy hb2
  dsimp only
  go_wp2_with fail
  go_loopw [9, 11] (fun v kk wr => ∃ (k : Nat), k ≤ x.length ∧ kk = .int .i64 k ∧ Hid (wr.ownsRow w2.heap.size 3 1 v (bothN (x.take k) y).length (cellsU (bothN (x.take k) y))) ∧ Hid (RowKit.Below w2.heap.size w2 wr)) (fun _ kk wr => x.length - (intOf kk).toNat)
  case atStart => exact ⟨0, by omega, rfl, World.ownsRow_nil _ _ _ _, RowKit.Below.refl _ _⟩
  case round =>
    obtain ⟨k, hk, rfl, ho, hbw⟩ := hrel
    by_cases hlt : k < x.length
    · obtain ⟨b1, o1, rfl, c1⟩ := (Hx2.out.below hbw.out).nat hlt
      have hxe : x.getD k 0 = x[k] := by rw [List.getD_eq_getElem?_getD, List.getElem?_eq_getElem hlt]; rfl
      have HI := RInN_any ya yc y (x.getD k 0) wr (Hy.out.2.1.below hbw.out) ly
      have hbn := both_next (y := y) hlt
      have hbl := both_len (x.take k) y
      rw [← hxe] at hbn
      have hb60 : (bothN (x.take k) y).length ≤ 60 := by simp at hbl; omega
      have k0 : (0 : Int) ≤ (k : Int) := by omega
      have k1 : (k : Int) < (x.length : Int) := by omega
      clear hxe hbl
      generalize x.getD k 0 = z at *
      by_cases hm : z ∈ y
      · have hbn' : Hid (bothN (x.take (k + 1)) y = bothN (x.take k) y ++ [z]) := by show _ = _; rw [hbn, if_pos hm]
        rw [decide_eq_true hm] at HI
        clear hbn hm
        generalize bothN (x.take k) y = m at *
        go_wp2_with fail
        refine HI.mono ?_
        rintro e w5 ⟨rfl, hw5⟩
        obtain rfl : wr = w5 := hw5.symm
        dsimp only
        go_wp2_with (at_builtin; refine wpList_append_own _ rfl _ _ 41 rfl w2.heap.size 3 i0' (.int .i64 0) 1 8 Tryd.underlying41 hi0 hz0 hz1 hz2 rfl (by decide) _ _ _ rfl (ho.out.alloc _) ⟨wr.heap.size, 0, none⟩ 1 1 [.int .i64 (z : Int)] rfl rfl ?q1 (by simp [Value.oneCell']) (by unfold maxLen; omega) (by omega) (by have := hbw.out.size; simp; omega) ?_)
        intro v' w7 h2 h3 _
        have hb7 : Hid (RowKit.Below w2.heap.size w2 w7) := (hbw.out.trans ((balloc wr _).mono hbw.out.size)).grown h3 (by have := hbw.out.size; simp; omega) (fun j hj => (ho.out.lt j hj).1)
        have ho7 : Hid (w7.ownsRow w2.heap.size 3 1 v' (m ++ [z]).length (cellsU (m ++ [z]))) := by
          show World.ownsRow _ _ _ _ _ _ _
          rw [List.length_append]
          simpa [cellsU] using h2
        clear h2 h3
        go_wp2_with fail
        go_roundw
        case rel => exact ⟨k + 1, by omega, by go_num, by rw [hbn'.out]; exact ho7, hb7⟩
        case measure => simp [intOf]; omega
      · have hbn' : Hid (bothN (x.take (k + 1)) y = bothN (x.take k) y) := by show _ = _; rw [hbn, if_neg hm]; simp
        rw [decide_eq_false hm] at HI
        clear hbn hm
        generalize bothN (x.take k) y = m at *
        go_wp2_with fail
        refine HI.mono ?_
        rintro e w5 ⟨rfl, hw5⟩
        obtain rfl : wr = w5 := hw5.symm
        dsimp only
        go_wp2_with fail
        go_roundw
        case rel => exact ⟨k + 1, by omega, by go_num, by rw [hbn'.out]; exact ho, hbw⟩
        case measure => simp [intOf]; omega
    · obtain rfl : k = x.length := by omega
      rw [List.take_length] at ho
      obtain ⟨ba, bc, hv, sb⟩ := ownU_sl ho.out
      subst hv
      have Hsb := hideO sb
      have hT := hideO (both_rise (y := y) Hx.out.1)
      have hfin : Hid (∀ m, OutsTo l (bothN x y) (bothN x y).length m → ∀ z, z ∈ m ↔ isBase l a b z) := fun m h => outs_base Hx.out.1 Hx.out.2.1 Hy.out.1 h
      have htl : (bothN x y).length ≤ 60 := by have := both_len x y; omega
      have hin : Hid (∀ q, q < (bothN x y).length → (bothN x y).getD q 0 < l.length) := fun q hq => by
        have h1 : (bothN x y).getD q 0 ∈ bothN x y := by rw [List.getD_eq_getElem?_getD, List.getElem?_eq_getElem hq]; exact List.getElem_mem hq
        exact (Hup.out _ ((Hx.out.2.1 _).1 (List.mem_filter.1 h1).1)).2
      have hB3 := hideO (bstep hB2.out (show RowKit.Below w2.heap.size w2 wr from hbw.out))
      clear ho sb hbw hk hlt Hx2
      generalize hW3 : wr = w3 at *
      clear hW3
      generalize bothN x y = t at *
      go_wp2_with fail
      go_loopw [10, 13] (fun v ii wr => ∃ (i : Nat) (m : List Nat), i ≤ t.length ∧ ii = .int .i64 i ∧ Hid (OutsTo l t i m) ∧ Hid (wr.ownsRow w3.heap.size 3 1 v m.length (cellsU m)) ∧ Hid (RowKit.Below w3.heap.size w3 wr)) (fun _ ii wr => t.length - (intOf ii).toNat)
      case atStart => exact ⟨0, [], by omega, rfl, OutsTo.nil l t, World.ownsRow_nil _ _ _ _, RowKit.Below.refl _ _⟩
      case round =>
        obtain ⟨i, m, hi, rfl, hO, ho, hbw⟩ := hrel
        by_cases hit : i < t.length
        · have ii0 : (0 : Int) ≤ (i : Int) := by omega
          have ii1 : (i : Int) < (t.length : Int) := by omega
          obtain ⟨b1, o1, rfl, d0⟩ := Hsb.out.nat hit
          have Hcell : Hid (∀ q, q < t.length → ∀ W', RowKit.Below w3.heap.size w3 W' → W'.cell? ⟨b1, o1 + q, none⟩ = some (.int .i64 ((t.getD q 0 : Nat) : Int))) := fun q hq W' h => by
            obtain ⟨b2, o2, e2, d2⟩ := Hsb.out.nat hq
            cases e2
            exact (h.cell (World.block_lt_of_cell? w3 _ d2)).trans d2
          generalize hW4 : wr = w4 at *
          clear hW4 d0
          go_wp2_with fail
          go_loopw [14, 15] (fun bl kk wr => ∃ (k : Nat) (g : Bool), k ≤ t.length ∧ kk = .int .i64 k ∧ bl = .bool g ∧ Hid (g = true ↔ belowP l t i k) ∧ Hid (RowKit.Below w4.heap.size w4 wr)) (fun _ kk wr => t.length - (intOf kk).toNat)
          case atStart => exact ⟨0, false, by omega, rfl, rfl, ⟨(fun h => by cases h), (fun ⟨r, h, _⟩ => by omega)⟩, RowKit.Below.refl _ _⟩
          case round =>
            obtain ⟨k, g, hk, rfl, rfl, hg, hbk⟩ := hrel
            by_cases hkt : k < t.length
            · have kk0 : (0 : Int) ≤ (k : Int) := by omega
              have kk1 : (k : Int) < (t.length : Int) := by omega
              have hB5 := hideO (bstep hbw.out hbk.out)
              have hS1 : SlC wr.drew ad l ∧ wr.drew.cell? ⟨b1, o1 + k, none⟩ = some (.int .i64 ((t.getD k 0 : Nat) : Int)) ∧ wr.drew.cell? ⟨b1, o1 + i, none⟩ = some (.int .i64 ((t.getD i 0 : Nat) : Int)) :=
                ⟨Hl.out.below (bstep hB3.out (hB5.out.drew)), Hcell.out k hkt _ hB5.out.drew, Hcell.out i hit _ hB5.out.drew⟩
              have HA := HAn (t.getD k 0) (hin.out k hkt)
              have hbn := hideO (@below_next l t i k)
              generalize t.getD k 0 = tk at *
              generalize t.getD i 0 = ti at *
              go_wp2_with fail
              go_region_held3 (fun W => SlC W ad l ∧ W.cell? ⟨b1, o1 + k, none⟩ = some (.int .i64 (tk : Int)) ∧ W.cell? ⟨b1, o1 + i, none⟩ = some (.int .i64 (ti : Int))) (first | exact holdC (by assumption) hb5 | assumption) (first
                | (go_at_call 22; refine (HA _ (And.left (by assumption))).mono ?_; rintro e w5 ⟨a5, c5, m5, rfl, h5, u5, s5, hb5, l5⟩; dsimp only)
                | (go_at_call 26; refine (RInN_any a5 c5 m5 ti _ s5 l5).mono ?_; rintro e w6 ⟨rfl, hw6⟩; obtain rfl : w5 = w6 := hw6.symm; dsimp only))
              have hbk' : Hid (RowKit.Below w4.heap.size w4 w5) := bstep hbk.out.drew hb5
              have hu5 := hideO (u5 ti)
              clear h5 u5 s5 hS1
              cases g with
              | true =>
                have hg' : Hid (true = true ↔ belowP l t i (k + 1)) := ⟨fun _ => hbn.out.2 (Or.inl (hg.out.1 rfl)), fun _ => rfl⟩
                go_wp2_with fail
                go_roundw
                case rel => exact ⟨k + 1, true, by omega, by go_num, rfl, hg', hbk'⟩
                case measure => simp [intOf]; omega
              | false =>
                by_cases hki : k = i
                · have t1 : ((k : Int) != (i : Int)) = false := by simp [hki]
                  have hg' : Hid (false = true ↔ belowP l t i (k + 1)) := ⟨(fun h => by cases h), (fun h => (hbn.out.1 h).elim hg.out.2 (fun h' => absurd hki h'.1))⟩
                  clear hki
                  go_wp2_with fail
                  go_roundw
                  case rel => exact ⟨k + 1, false, by omega, by go_num, rfl, hg', hbk'⟩
                  case measure => simp [intOf]; omega
                · have t1 : ((k : Int) != (i : Int)) = true := by simp; omega
                  by_cases hm : ti ∈ m5
                  · have hg' : Hid (true = true ↔ belowP l t i (k + 1)) := ⟨fun _ => hbn.out.2 (Or.inr ⟨hki, hu5.out.1 hm⟩), fun _ => rfl⟩
                    have t2 : decide (ti ∈ m5) = true := by simpa using hm
                    clear hki
                    go_wp2_with fail
                    go_roundw
                    case rel => exact ⟨k + 1, true, by omega, by go_num, by first | rfl | (simp [hm]), hg', hbk'⟩
                    case measure => simp [intOf]; omega
                  · have hg' : Hid (false = true ↔ belowP l t i (k + 1)) := ⟨(fun h => by cases h), (fun h => (hbn.out.1 h).elim hg.out.2 (fun h' => absurd (hu5.out.2 h'.2) hm))⟩
                    have t2 : decide (ti ∈ m5) = false := by simpa using hm
                    clear hki
                    go_wp2_with fail
                    go_roundw
                    case rel => exact ⟨k + 1, false, by omega, by go_num, by first | rfl | (simp [hm]), hg', hbk'⟩
                    case measure => simp [intOf]; omega
            · obtain rfl : k = t.length := by omega
              have hB5 := hideO (bstep hbw.out hbk.out)
              have hoR := hideO (ownsO_below ho.out (show RowKit.Below w4.heap.size w4 wr from hbk.out))
              cases g with
              | true =>
                have hO' := hideO (hO.out.skip (hg.out.1 rfl))
                go_wp2_with fail
                go_roundw
                case rel => exact ⟨i + 1, m, by omega, by go_num, hO', hoR, hB5⟩
                case measure => simp [intOf]; omega
              | false =>
                have hO' := hideO (hO.out.more hT.out hit (fun h => by have := hg.out.2 h; cases this))
                have d5 := Hcell.out i hit _ hB5.out
                have hm60 : m.length ≤ 60 := by have := hO.out.2.1; omega
                generalize t.getD i 0 = ti at *
                go_wp2_with (at_builtin; refine wpList_append_own _ rfl _ _ 41 rfl w3.heap.size 3 i0' (.int .i64 0) 1 8 Tryd.underlying41 hi0 hz0 hz1 hz2 rfl (by decide) _ _ _ rfl (hoR.out.alloc _) ⟨wr.heap.size, 0, none⟩ 1 1 [.int .i64 (ti : Int)] rfl rfl ?q2 (by simp [Value.oneCell']) (by unfold maxLen; omega) (by omega) (by have := hB5.out.size; simp; omega) ?_)
                case q2 =>
                  intro j u hu
                  have hj : j < 1 := by have := (List.getElem?_eq_some_iff.1 hu).1; simpa using this
                  obtain rfl : j = 0 := by omega
                  rw [Addr.add_lit]
                  simp at hu; subst hu; go_simp
                intro v' w7 h2 h3 _
                have hb7 : Hid (RowKit.Below w3.heap.size w3 w7) := (hB5.out.trans ((balloc wr _).mono hB5.out.size)).grown h3 (by have := hB5.out.size; simp; omega) (fun j hj => (hoR.out.lt j hj).1)
                have ho7 : Hid (w7.ownsRow w3.heap.size 3 1 v' (m ++ [ti]).length (cellsU (m ++ [ti]))) := by
                  show World.ownsRow _ _ _ _ _ _ _
                  rw [List.length_append]
                  simpa [cellsU] using h2
                clear h2 h3
                go_wp2_with fail
                go_roundw
                case rel => exact ⟨i + 1, m ++ [ti], by omega, by go_num, hO', ho7, hb7⟩
                case measure => simp [intOf]; omega
        · obtain rfl : i = t.length := by omega
          obtain ⟨oa, oc, hv, so⟩ := ownU_sl ho.out
          subst hv
          have hans : Hid (BaseAns w l a b (.returned (.slice oa m.length oc)) wr) := ⟨oa, oc, m, rfl, hO.out.1, hfin.out m hO.out, so, bstep hB3.out hbw.out, by have := hO.out.2.1; omega⟩
          clear so
          generalize m.length = ml at *
          go_wp2_with fail
          exact bodyPost_ret (v := .slice oa ml oc) (by simp [results, Tryd.results25, go_sem]) rfl hans.out
end Go.Proofs.YtackdedbphfaeaeDoor
