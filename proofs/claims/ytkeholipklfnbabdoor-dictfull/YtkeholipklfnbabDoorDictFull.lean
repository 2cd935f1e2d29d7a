/- stratalaw4.DictFull: the walk. -/
import Derived.Test.YtkeholipklfnbabDoorDictAdd
import Derived.Test.YtkeholipklfnbabDoorDictEq
import Derived.Test.YtkeholipklfnbabDoorTextT
import Derived.Test.YtkeholipklfnbabDoorAs
import Derived.Deep.DeepCutAuto
import Derived.Deep.CutBlock
import Derived.Deep.RegionHeld3
namespace Go.Proofs.YtkeholipklfnbabDoor
open Go Go.RowKit Go.Proofs Go.Maps
set_option synthInstance.maxSize 1000

attribute [local go_sem] eql_errV neq_errV guard_errV
theorem eqlSelf (a : Int) (w : World) : (binOp .eql 3 (.int .i64 a) (.int .i64 a)).run Tryd.prog w = .ok (.bool true) w := by go_simp
theorem eqlTmSelf (y : Tm) (w : World) : (binOp .eql 23 (.agg #[.int .i64 y.1, .string ⟨y.2.1.toArray⟩, .string ⟨y.2.2.toArray⟩]) (.agg #[.int .i64 y.1, .string ⟨y.2.1.toArray⟩, .string ⟨y.2.2.toArray⟩])).run Tryd.prog w = .ok (.bool true) w := by
  rw [eqlTerm, decide_eq_true rfl]
attribute [local go_sem ↓] eqlSelf eqlTmSelf

/-! ### the terms, as they come -/
def textL (k : Nat) : List Tm := (List.range k).map textT
theorem textL_len (k : Nat) : (textL k).length = k := by simp [textL]
theorem textL_succ (k : Nat) : textL (k + 1) = textL k ++ [textT k] := by simp [textL, List.range_succ]
theorem textL_at (k i : Nat) (h : i < (textL k).length) : (textL k)[i] = textT i := by simp [textL]
theorem letN_inj {a b : Nat} (ha : a < 26) (hb : b < 26) (h : letN a = letN b) : a = b := by
  have := congrArg UInt8.toNat h
  simp [letN, UInt8.toNat_ofNat'] at this
  omega
theorem textT_inj {i j : Nat} (hi : i < 676) (hj : j < 676) (h : textT i = textT j) : i = j := by
  simp only [textT, Prod.mk.injEq, List.cons.injEq, true_and, and_true] at h
  have h1 := letN_inj (by omega) (by omega) h.1
  have h2 := letN_inj (by omega) (by omega) h.2
  omega
theorem textT_not {k i : Nat} (hi : k ≤ i) (h : i < 676) : textT i ∉ textL k := fun hm => by
  simp only [textL, List.mem_map, List.mem_range] at hm
  obtain ⟨j, hj, e⟩ := hm
  have := textT_inj (by omega) h e
  omega
theorem textT_mem {k i : Nat} (hi : i < k) : textT i ∈ textL k := by
  simp only [textL, List.mem_map, List.mem_range]
  exact ⟨i, hi, rfl⟩
set_option maxRecDepth 100000 in
theorem chkText : ∀ i, i < 320 → chkTm (textT i) = 0 := by decide +kernel
theorem textT_fit (i : Nat) : fitTm (textT i) := ⟨by simp [textT, maxLen], by simp [textT, maxLen]⟩
theorem textL_nodup {k : Nat} (h : k ≤ 676) : (textL k).Nodup := by
  induction k with
  | zero => simp [textL]
  | succ k ih =>
    rw [textL_succ, List.nodup_append]
    exact ⟨ih (by omega), by simp, fun a ha b hb => by simp at hb; subst hb; exact fun e => textT_not (Nat.le_refl k) (by omega) (e ▸ ha)⟩

/-- one more, where there is room -/
theorem full_new {i : Nat} (h : i < 300) : addE (textL i) (textT i) = 0 ∧ newL (textL i) (textT i) = textL (i + 1) ∧ newN (textL i) (textT i) = i + 1 := by
  have hn := textT_not (Nat.le_refl i) (by omega : i < 676)
  have ea : addL (textL i) (textT i) = textL (i + 1) := by rw [textL_succ]; exact if_neg hn
  have e0 : addE (textL i) (textT i) = 0 := addE_zero.2 ⟨chkText i (by omega), by rw [ea, textL_len]; omega⟩
  refine ⟨e0, by rw [show newL (textL i) (textT i) = addL (textL i) (textT i) from if_pos e0, ea], ?_⟩
  rw [show newN (textL i) (textT i) = idN (addL (textL i) (textT i)) (textT i) from if_pos e0, ea]
  have := id_at (textL_nodup (by omega : i + 1 ≤ 676)) (i := i) (by rw [textL_len]; omega)
  rwa [textL_at] at this
theorem full_more {i : Nat} (h : 300 ≤ i) (h2 : i < 320) : addE (textL 300) (textT i) = 4 ∧ newL (textL 300) (textT i) = textL 300 ∧ newN (textL 300) (textT i) = 0 := by
  have hn := textT_not h (by omega : i < 676)
  have ea : (addL (textL 300) (textT i)).length = 301 := by rw [addL_len, if_neg hn, textL_len]
  have e0 : addE (textL 300) (textT i) = 4 := by
    unfold addE
    rw [if_pos (chkText i h2), if_neg (by omega)]
  exact ⟨e0, if_neg (by rw [e0]; decide), if_neg (by rw [e0]; decide)⟩
theorem full_again {k i : Nat} (h : i < k) (h2 : k ≤ 300) : addE (textL k) (textT i) = 0 ∧ newL (textL k) (textT i) = textL k ∧ newN (textL k) (textT i) = i + 1 := by
  have hm := textT_mem h
  have ea : addL (textL k) (textT i) = textL k := if_pos hm
  have e0 : addE (textL k) (textT i) = 0 := addE_zero.2 ⟨chkText i (by omega), by rw [ea, textL_len]; omega⟩
  refine ⟨e0, by rw [show newL (textL k) (textT i) = addL (textL k) (textT i) from if_pos e0, ea], ?_⟩
  rw [show newN (textL k) (textT i) = idN (addL (textL k) (textT i)) (textT i) from if_pos e0, ea]
  have := id_at (textL_nodup (by omega : k ≤ 676)) (i := i) (by rw [textL_len]; omega)
  rwa [textL_at] at this

theorem keepF {W W' : World} {n0 : Nat} {L : List Tm} {p0 p1 p2 : Addr} {v0 v1 v2 : Value} (h : W.cell? p0 = some v0 ∧ W.cell? p1 = some v1 ∧ W.cell? p2 = some v2 ∧ DictAt W n0 L) (hb : RowKit.Below W.heap.size W W') : W'.cell? p0 = some v0 ∧ W'.cell? p1 = some v1 ∧ W'.cell? p2 = some v2 ∧ DictAt W' n0 L :=
  ⟨(hb.cell (World.block_lt_of_cell? W _ h.1)).trans h.1, (hb.cell (World.block_lt_of_cell? W _ h.2.1)).trans h.2.1, (hb.cell (World.block_lt_of_cell? W _ h.2.2.1)).trans h.2.2.1, h.2.2.2.below hb⟩
theorem dpart {W : World} {n0 : Nat} {L : List Tm} {p0 p1 p2 : Addr} {v0 v1 v2 : Value} (h : W.cell? p0 = some v0 ∧ W.cell? p1 = some v1 ∧ W.cell? p2 = some v2 ∧ DictAt W n0 L) : DictAt W n0 L := h.2.2.2
theorem hide {p : Prop} (h : p) : Hid p := h

set_option maxHeartbeats 8000000 in
set_option maxRecDepth 100000 in
theorem full_any (n m : Int) (w : World) (hg : errVar w) (hn : (Lit.int .i64 n).wf = true) (hm : (Lit.int .i64 m).wf = true) :
    Calls Tryd.prog 4 #[.int .i64 n, .int .i64 m] w fun e w' => e = .returned (.bool true) ∧ RowKit.Below w.heap.size w w' := by
  have Hg := hide hg
  clear hg
  by_cases h0 : n < 0
  · go_enter Tryd.func4, Tryd.ntmps4
    go_wp2_with fail
    go_ret
    exact ⟨rfl, RowKit.Below.refl _ _⟩
  · by_cases h320 : n > 320
    · go_enter Tryd.func4, Tryd.ntmps4
      go_wp2_with fail
      go_ret
      exact ⟨rfl, RowKit.Below.refl _ _⟩
    · obtain ⟨N, rfl⟩ : ∃ N : Nat, n = N := ⟨n.toNat, by omega⟩
      have hN : N ≤ 320 := by omega
      have i320 : ¬ ((N : Int) > 320) := by omega
      clear h0 h320 hn
      go_enter Tryd.func4, Tryd.ntmps4
      go_wp2_with fail
      refine (New_any _).mono ?_
      rintro e w1 ⟨rfl, hD1, hz1, hb1⟩
      have H0 := hide (show DictAt w1 w.heap.size (textL (min 0 300)) ∧ RowKit.Below w.heap.size w w1 from ⟨hD1, hb1⟩)
      clear hD1 hb1 hz1 i320
      go_wp2_with fail
      go_loopw [6] (fun i W => ∃ k : Nat, k ≤ N ∧ i = .int .i64 k ∧ Hid (DictAt W w.heap.size (textL (min k 300)) ∧ RowKit.Below w.heap.size w W)) (fun i W => N - (intOf i).toNat)
      case atStart => exact ⟨0, Nat.zero_le _, rfl, H0⟩
      case round =>
        obtain ⟨k, hk, rfl, hst⟩ := hrel
        clear H0
        by_cases h1 : k < N
        · have i1 : (k : Int) < (N : Int) := by omega
          have HT := text_any k wr (by omega)
          by_cases h3 : k < 300
          · have i3 : (k : Int) < 300 := by omega
            rw [show min k 300 = k by omega] at hst
            obtain ⟨e1, e2, e3⟩ := full_new h3
            have HA := fun W hW => Add_any w.heap.size (textL k) (textT k) W hW (by rw [textL_len]; omega) (textT_fit k)
            rw [e1, e2, e3, show errV 0 = .nilIface from rfl, show ((k + 1 : Nat) : Int) = (k : Int) + 1 by omega] at HA
            have HE := fun W hW => SameError_any 0 4 W hW
            rw [show errV 0 = .nilIface from rfl, show ((0 : Int) == 4) = false from rfl] at HE
            clear e1 e2 e3
            generalize valTm (textT k) = v at *
            go_wp2_with fail
            refine HT.mono ?_
            rintro e w2 ⟨rfl, hb2⟩
            have hst2 := hide (show DictAt w2 w.heap.size (textL k) ∧ RowKit.Below w.heap.size w w2 from ⟨hst.out.1.below hb2, bstep hst.out.2 hb2⟩)
            clear HT hb2 hst
            go_wp2_with fail
            refine (HA _ hst2.out.1).mono ?_
            rintro e w3 ⟨rfl, hD3, hT3⟩
            have hst3 := hide (show DictAt w3 w.heap.size (textL (k + 1)) ∧ RowKit.Below w.heap.size w w3 from ⟨hD3, hst2.out.2.trans hT3.low⟩)
            clear HA hst2 hD3 hT3
            go_wp2_with fail
            refine (HE _ (Hg.out.below hst3.out.2)).mono ?_
            rintro e w4 ⟨rfl, hb4⟩
            have hst4 := hide (show DictAt w4 w.heap.size (textL (min (k + 1) 300)) ∧ RowKit.Below w.heap.size w w4 by
              rw [show min (k + 1) 300 = k + 1 by omega]; exact ⟨hst3.out.1.below hb4, bstep hst3.out.2 hb4⟩)
            clear HE hst3 hb4
            go_wp2_with fail
            go_roundw
            case rel => exact ⟨k + 1, by omega, by go_num, hst4⟩
            case measure => simp [intOf]; omega
          · have i3 : (300 : Int) ≤ (k : Int) := by omega
            rw [show min k 300 = 300 by omega] at hst
            obtain ⟨e1, e2, e3⟩ := full_more (by omega : 300 ≤ k) (by omega)
            have HA := fun W hW => Add_any w.heap.size (textL 300) (textT k) W hW (by rw [textL_len]; omega) (textT_fit k)
            rw [e1, e2, e3] at HA
            have HE := fun W hW => SameError_any 4 4 W hW
            rw [show ((4 : Int) == 4) = true from rfl] at HE
            clear e1 e2 e3
            generalize valTm (textT k) = v at *
            go_wp2_with fail
            refine HT.mono ?_
            rintro e w2 ⟨rfl, hb2⟩
            have hst2 := hide (show DictAt w2 w.heap.size (textL 300) ∧ RowKit.Below w.heap.size w w2 from ⟨hst.out.1.below hb2, bstep hst.out.2 hb2⟩)
            clear HT hb2 hst
            go_wp2_with fail
            refine (HA _ hst2.out.1).mono ?_
            rintro e w3 ⟨rfl, hD3, hT3⟩
            have hst3 := hide (show DictAt w3 w.heap.size (textL 300) ∧ RowKit.Below w.heap.size w w3 from ⟨hD3, hst2.out.2.trans hT3.low⟩)
            clear HA hst2 hD3 hT3
            go_wp2_with fail
            refine (HE _ (Hg.out.below hst3.out.2)).mono ?_
            rintro e w4 ⟨rfl, hb4⟩
            have hst4 := hide (show DictAt w4 w.heap.size (textL (min (k + 1) 300)) ∧ RowKit.Below w.heap.size w w4 by
              rw [show min (k + 1) 300 = 300 by omega]; exact ⟨hst3.out.1.below hb4, bstep hst3.out.2 hb4⟩)
            clear HE hst3 hb4
            go_wp2_with fail
            go_roundw
            case rel => exact ⟨k + 1, by omega, by go_num, hst4⟩
            case measure => simp [intOf]; omega
        · obtain rfl : k = N := by omega
          by_cases g0 : m < 0
          · go_wp2_with fail
            go_ret
            exact ⟨rfl, hst.out.2⟩
          · by_cases g1 : m ≥ (k : Int)
            · go_wp2_with fail
              go_ret
              exact ⟨rfl, hst.out.2⟩
            · by_cases g2 : m ≥ 300
              · go_wp2_with fail
                go_ret
                exact ⟨rfl, hst.out.2⟩
              · obtain ⟨M, rfl⟩ : ∃ M : Nat, m = M := ⟨m.toNat, by omega⟩
                have hM : M < min k 300 := by omega
                have hle : min k 300 ≤ 300 := by omega
                have j1 : ¬ ((M : Int) ≥ (k : Int)) := by omega
                have j2 : ¬ ((M : Int) ≥ 300) := by omega
                generalize min k 300 = K at *
                obtain ⟨e1, e2, e3⟩ := full_again hM hle
                have HT := fun W => text_any M W (by omega)
                have HA := fun W hW => Add_any w.heap.size (textL K) (textT M) W hW (by rw [textL_len]; omega) (textT_fit M)
                rw [e1, e2, e3, show errV 0 = .nilIface from rfl, show ((M + 1 : Nat) : Int) = (M : Int) + 1 by omega] at HA
                have HR := fun W hW => Term_any w.heap.size (textL K) ((M : Int) + 1) W hW (wf64 (by omega) (by omega))
                rw [atN_at (by rw [textL_len]; exact hM), textL_at, show atE (textL K) ((M : Int) + 1) = 0 from if_pos (by rw [textL_len]; omega), show errV 0 = .nilIface from rfl] at HR
                have HL := fun W hW => Len_any w.heap.size (textL K) W hW
                rw [textL_len] at HL
                have j3 : (K : Int) ≤ 300 := by omega
                clear e1 e2 e3 g0 g1 g2 hm
                generalize textT M = y at *
                unfold valTm at HT HA HR
                go_wp2_with fail
                refine (HT _).mono ?_
                rintro e w2 ⟨rfl, hb2⟩
                have hst2 := hide (show DictAt w2 w.heap.size (textL K) ∧ RowKit.Below w.heap.size w w2 from ⟨hst.out.1.below hb2, bstep hst.out.2 hb2⟩)
                clear hb2 hst
                go_wp2_with fail
                refine (HA _ hst2.out.1).mono ?_
                rintro e w3 ⟨rfl, hD3, hT3⟩
                have hst3 := hide (show DictAt w3 w.heap.size (textL K) ∧ RowKit.Below w.heap.size w w3 from ⟨hD3, hst2.out.2.trans hT3.low⟩)
                clear HA hst2 hD3 hT3
                go_wp2_with fail
                refine (HR _ hst3.out.1).mono ?_
                rintro e w4 ⟨rfl, hb4⟩
                have hst4 := hide (show DictAt w4 w.heap.size (textL K) ∧ RowKit.Below w.heap.size w w4 from ⟨hst3.out.1.below hb4, bstep hst3.out.2 hb4⟩)
                clear HR hst3 hb4
                go_wp2_with fail
                have hDa := hst4.out.1.below (balloc w4 (.cells #[.int .i64 y.1, .string ⟨y.2.1.toArray⟩, .string ⟨y.2.2.toArray⟩] 23))
                have hwrap : IntKind.i64.wrap ((M : Int) + 1) = (M : Int) + 1 := by simp [IntKind.wrap, IntKind.bits, IntKind.signed]; omega
                rw [← hwrap]
                have Hwrap := hide hwrap
                clear hwrap
                go_region_held3 (fun W => W.cell? ⟨w4.heap.size, 0, none⟩ = some (.int .i64 y.1) ∧ W.cell? ⟨w4.heap.size, 1, none⟩ = some (.string ⟨y.2.1.toArray⟩) ∧ W.cell? ⟨w4.heap.size, 2, none⟩ = some (.string ⟨y.2.2.toArray⟩) ∧ DictAt W w.heap.size (textL K)) (first | exact keepF (by assumption) hb5 | assumption | exact ⟨by go_simp, by go_simp, by go_simp, hDa⟩) (first
                  | (go_at_call 6; refine (HT _).mono ?_; rintro e w5 ⟨rfl, hb5⟩)
                  | (go_at_call 13; refine (HL _ (dpart (by assumption))).mono ?_; rintro e w6 ⟨rfl, rfl⟩))
                go_wp2_with fail
                go_ret
                exact ⟨rfl, bstep (bstep hst4.out.2 (balloc _ _)).drew hb5⟩
end Go.Proofs.YtkeholipklfnbabDoor
