/- stratalaw4.ChainFull: the walk. -/
import Derived.Test.YtgdjeohcimkljadGreatDoorChainGood
import Derived.Test.YtgdjeohcimkljadGreatDoorManyL
import Derived.Test.YtgdjeohcimkljadGreatDoorAs
import Derived.Deep.DeepCutAuto
namespace Go.Proofs.YtgdjeohcimkljadGreatDoor
open Go Go.RowKit Go.Proofs
set_option synthInstance.maxSize 1000

theorem less_app {A B : List Tr} (h : (A ++ B).Nodup) : lessL (A ++ B) A = B := by
  unfold lessL
  rw [List.filter_append]
  have h1 : A.filter (fun x => !decide (x ∈ A)) = [] := by
    rw [List.filter_eq_nil_iff]
    intro x hx
    simp [hx]
  have h2 : B.filter (fun x => !decide (x ∈ A)) = B := by
    rw [List.filter_eq_self]
    intro x hx
    have := (List.nodup_append.1 h).2.2
    simp
    intro hA
    exact this x hA x hx rfl
  rw [h1, h2]
  rfl
theorem less_nil {A B : List Tr} (h : ∀ x ∈ A, x ∈ B) : lessL A B = [] := by
  unfold lessL
  rw [List.filter_eq_nil_iff]
  intro x hx
  simp [h x hx]
theorem many_split {a b : Nat} (h : a ≤ b) : ∃ C, manyL 115 b = manyL 115 a ++ C ∧ C.length = b - a := by
  refine ⟨(manyL 115 b).drop a, ?_, by simp [manyL_len]⟩
  have : manyL 115 a = (manyL 115 b).take a := by
    unfold manyL
    rw [← List.map_take, List.take_range, Nat.min_eq_left h]
  rw [this, List.take_append_drop]
theorem many_up {a b : Nat} (h : a ≤ b) (hb : b ≤ 200) : (lessL (manyL 115 b) (manyL 115 a)).length = b - a ∧ lessL (manyL 115 a) (manyL 115 b) = [] := by
  obtain ⟨C, e, hC⟩ := many_split h
  have hn := rising_nodup (manyS hb).2.2
  rw [e] at hn ⊢
  rw [less_app hn]
  exact ⟨hC, less_nil fun x hx => List.mem_append_left _ hx⟩
theorem many_step {k : Nat} (hk : k < 200) : lessL (manyL 115 (k + 1)) (manyL 115 k) = [trI 115 k] ∧ lessL (manyL 115 k) (manyL 115 (k + 1)) = [] := by
  have hn := rising_nodup (manyS (n := k + 1) (by omega)).2.2
  rw [manyL_succ] at hn ⊢
  rw [less_app hn]
  exact ⟨rfl, less_nil fun x hx => List.mem_append_left _ hx⟩

/-- the sets behind so many layers -/
def upL (k : Nat) : List (List Tr) := (List.range (k + 1)).map (manyL 115)
theorem upL_len (k : Nat) : (upL k).length = k + 1 := by simp [upL]
theorem upL_at {k i : Nat} (h : i ≤ k) : (upL k)[i]? = some (manyL 115 i) := by
  unfold upL
  rw [List.getElem?_map, List.getElem?_range (by omega)]
  rfl
theorem upL_succ (k : Nat) : upL (k + 1) = upL k ++ [manyL 115 (k + 1)] := by
  unfold upL
  rw [List.range_succ, List.map_append]
  rfl
theorem upL_last (k : Nat) : (upL k).getLast? = some (manyL 115 k) := by
  rw [List.getLast?_eq_getElem?, upL_len]
  exact upL_at (by omega)
theorem gat_of {gs : List (List Tr)} {k : Nat} {g : List Tr} (h : gs[k]? = some g) : gat gs k = g := by
  have := gat_eq (List.getElem?_eq_some_iff.1 h).1
  rw [h] at this
  exact (Option.some.inj this).symm
/-- behind a Squash of the layers from i + 1 to t of K: the top, and what is below it -/
theorem up_top {K i t : Nat} (h1 : i + 1 ≤ t) (h2 : t ≤ K) : ∃ p, p < K ∧ K - p = (if t = K then t - i else 1) ∧ ∃ j, ((upL K).take (i + 1) ++ (upL K).drop t).length = j + 2 ∧ gat ((upL K).take (i + 1) ++ (upL K).drop t) j = manyL 115 p ∧ gat ((upL K).take (i + 1) ++ (upL K).drop t) (j + 1) = manyL 115 K ∧ ((upL K).take (i + 1) ++ (upL K).drop t).dropLast.length = j + 1 ∧ j + 1 = K - (t - (i + 1)) := by
  have hl : t < (upL K).length := by rw [upL_len]; omega
  have hlen := sq_len (ss := upL K) h1 hl
  rw [upL_len] at hlen
  have top : gat ((upL K).take (i + 1) ++ (upL K).drop t) (K - (t - (i + 1))) = manyL 115 K := by
    have := sq_high (ss := upL K) h1 h2 (by rw [upL_len]; omega)
    rw [gat_of this]
    exact gat_of (upL_at (Nat.le_refl _))
  by_cases e : t = K
  · subst e
    refine ⟨i, by omega, by rw [if_pos rfl], i, by rw [hlen]; omega, ?_, ?_, by rw [List.length_dropLast, hlen]; omega, by omega⟩
    · rw [gat_of (sq_low (ss := upL t) h1 hl (by omega))]
      exact gat_of (upL_at (by omega))
    · rw [show i + 1 = t - (t - (i + 1)) by omega]
      rw [show t - (t - (i + 1)) = i + 1 by omega] at top
      have e1 : t - (t - (i + 1)) = i + 1 := by omega
      rw [e1]
      exact top
  · refine ⟨K - 1, by omega, by rw [if_neg e]; omega, K - 1 - (t - (i + 1)), by rw [hlen]; omega, ?_, ?_, by rw [List.length_dropLast, hlen]; omega, by omega⟩
    · have := sq_high (ss := upL K) (k := K - 1) h1 (by omega) (by rw [upL_len]; omega)
      rw [gat_of this]
      exact gat_of (upL_at (by omega))
    · rw [show K - 1 - (t - (i + 1)) + 1 = K - (t - (i + 1)) by omega]
      exact top

/-- Push of one triple more -/
theorem PushOne_any (n0 : Nat) (v : Value) (k : Nat) (ad : Option Addr) (c : Nat) (w : World) (hk : k < 30) (h : ChainAt w n0 v (upL k)) (hs : SlT w ad [trI 115 k]) :
    Calls Tryz.prog 7 #[.pointer (some ⟨n0, 0, none⟩), .agg #[.slice ad 1 c, .slice none 0 0]] w fun e w' => e = .returned .nilIface ∧ ∃ v', ChainAt w' n0 v' (upL (k + 1)) ∧ Off n0 v w w' := by
  obtain ⟨e1, e2⟩ := many_step (k := k) (by omega)
  have := PushGood_any n0 v (upL k) (manyL 115 k) (manyL 115 (k + 1)) ad none c 0 w h (by rw [upL_len]; omega) (upL_last k) (manyS (by omega)) (by rw [e1]; exact hs) (by rw [e2]; exact slT_nil _ _)
  rw [e1, e2, ← upL_succ] at this
  refine this.mono ?_
  rintro e w' ⟨rfl, v', hC, hO, _⟩
  exact ⟨rfl, v', hC, hO⟩
theorem PushFull_any (n0 : Nat) (v : Value) (ad : Option Addr) (c : Nat) (x : Tr) (w : World) (h : ChainAt w n0 v (upL 30)) (hs : SlT w ad [x]) (fx : fitTr x) :
    Calls Tryz.prog 7 #[.pointer (some ⟨n0, 0, none⟩), .agg #[.slice ad 1 c, .slice none 0 0]] w fun e w' => e = .returned (.iface 73 (.int .i64 4)) ∧ ∃ v', ChainAt w' n0 v' (upL 30) ∧ Off n0 v w w' := by
  have h4 : pushN (upL 30) (manyL 115 30) ([x], []) = 4 := by
    unfold pushN
    rw [if_pos (by rw [upL_len]; omega)]
  refine (Push_any n0 v (upL 30) (manyL 115 30) ad none c 0 ([x], []) w h (by rw [upL_len]; omega) (upL_last 30) hs (slT_nil _ _) (by simpa using fx) (by simp) (by simp) (by simp)).mono ?_
  rintro e w' ⟨rfl, gs', v', hC, hO, _, _, hno⟩
  obtain ⟨rfl, rfl⟩ := hno (by rw [h4]; decide)
  exact ⟨by rw [h4]; rfl, _, hC, hO⟩

theorem row_one {w : World} {b o : Nat} {L : List Tr} (h : RowR w b o L) (i : Nat) (hi : i < L.length) : RowR w b (o + i * 9) [L[i]] := fun j v hj => by
  have h9 : j < 9 := (List.getElem?_eq_some_iff.1 hj).1
  have e : (cellsT [L[i]])[j]? = (encTr L[i])[j]? := by simp [cellsT]
  rw [e] at hj
  have := h (i * 9 + j) v (by rw [cellsT_at L i hi j h9]; exact hj)
  rw [← Nat.add_assoc] at this
  exact this
theorem many_one {w : World} {g i : Nat} (h : SlT w (some ⟨g, 0, none⟩) (manyL 115 40)) (hi : i < 40) : SlT w (some ⟨g, i * 9, none⟩) [trI 115 i] := fun _ => by
  obtain ⟨b, o, e, hr⟩ := h (fun e => by have := congrArg List.length e; rw [manyL_len] at this; simp at this)
  obtain ⟨rfl, rfl, _⟩ := Addr.mk.inj (Option.some.inj e)
  refine ⟨g, i * 9, rfl, ?_⟩
  have := row_one hr i (by rw [manyL_len]; exact hi)
  rw [manyL_at, Nat.zero_add] at this
  exact this
theorem manyRow_any (w : World) : Calls Tryz.prog 6 #[.int .i64 40] w fun e w' => ∃ g cap, e = .returned (.slice (some ⟨g, 0, none⟩) 40 cap) ∧ 40 ≤ cap ∧ SlT w' (some ⟨g, 0, none⟩) (manyL 115 40) ∧ RowKit.Below w.heap.size w w' := by
  refine (many_any 40 w (by omega)).mono ?_
  rintro e w' ⟨v, rfl, ho, hb⟩
  have ho' : w'.ownsRow w.heap.size 72 9 v (manyL 115 40).length (cellsT (manyL 115 40)) := by rw [manyL_len]; exact ho
  obtain ⟨ad, c, rfl, hs⟩ := own_slT ho'
  rcases ho.2 with ⟨_, h0⟩ | ⟨g, cap, cur, hv, _, _, hle, _⟩
  · omega
  · obtain ⟨rfl, _, rfl⟩ := Value.slice.inj hv
    exact ⟨g, c, by rw [manyL_len], hle, hs, hb⟩
theorem upL_zero : upL 0 = [[]] := rfl

attribute [local go_sem] eql_errV neq_errV guard_errV

set_option maxHeartbeats 16000000 in
set_option maxRecDepth 100000 in
theorem chainFull_any (n f t : Int) (w : World) (hg : errVar w) :
    Calls Tryz.prog 3 #[.int .i64 n, .int .i64 f, .int .i64 t] w fun e w' => e = .returned (.bool true) ∧ RowKit.Below w.heap.size w w' := by
  have HN := NewNil_any
  have HM := manyRow_any
  have Hg : Hid (errVar w) := hg
  have E0 := fun W h => SameError_any 0 4 W h
  have E4 := fun W h => SameError_any 4 4 W h
  rw [show errV 0 = .nilIface from rfl, show ((0 : Int) == 4) = false from rfl] at E0
  rw [show errV 4 = .iface 73 (.int .i64 4) from rfl, show ((4 : Int) == 4) = true from rfl] at E4
  clear hg
  by_cases h1 : n < 0
  · have b1 : decide (n < 0) = true := by simpa using h1
    go_enter Tryz.func3, Tryz.ntmps3
    go_wp2_with fail
    refine (HN _).mono ?_
    rintro e w1 ⟨n0, rfl, hn0, hC1, hb1⟩
    clear hC1
    go_wp2_with fail
    exact bodyPost_ret (v := .bool true) (by simp [results, Tryz.results3, go_sem]) rfl ⟨rfl, hb1⟩
  · have b1 : decide (n < 0) = false := by simpa using h1
    by_cases h2 : 40 < n
    · have b2 : decide (40 < n) = true := by simpa using h2
      go_enter Tryz.func3, Tryz.ntmps3
      go_wp2_with fail
      refine (HN _).mono ?_
      rintro e w1 ⟨n0, rfl, hn0, hC1, hb1⟩
      clear hC1
      go_wp2_with fail
      exact bodyPost_ret (v := .bool true) (by simp [results, Tryz.results3, go_sem]) rfl ⟨rfl, hb1⟩
    · have b2 : decide (40 < n) = false := by simpa using h2
      obtain ⟨N, rfl⟩ : ∃ N : Nat, n = (N : Int) := ⟨n.toNat, by omega⟩
      have hN : N ≤ 40 := by omega
      have b3 : ¬ ((N : Int) < 0) := h1
      have b4 : ¬ ((40 : Int) < (N : Int)) := h2
      clear h1 h2
      go_enter Tryz.func3, Tryz.ntmps3
      go_wp2_with fail
      refine (HN _).mono ?_
      rintro e w1 ⟨n0, rfl, hn0, hC1, hb1⟩
      have HC1 : Hid (ChainAt w1 n0 (.slice none 0 0) (upL 0)) := hC1
      have hB1 : Hid (RowKit.Below w.heap.size w w1) := hb1
      clear hC1 hb1 HN
      go_wp2_with fail
      refine (HM _).mono ?_
      rintro e w2 ⟨g, cap, rfl, hcap, hs2, hb2⟩
      have HC2 : Hid (ChainAt w2 n0 (.slice none 0 0) (upL (min 0 30))) := HC1.out.below hb2
      have Hs2 : Hid (SlT w2 (some ⟨g, 0, none⟩) (manyL 115 40)) := hs2
      have hB2 : Hid (RowKit.Below w.heap.size w w2) := bstep hB1.out hb2
      clear hs2 hb2 HC1 hB1 HM b1 b2 b3 b4
      go_wp2_with fail
      go_loopw [10] (fun i wr => ∃ (k : Nat) (v : Value), k ≤ N ∧ i = .int .i64 k ∧ Hid (ChainAt wr n0 v (upL (min k 30))) ∧ Hid (SlT wr (some ⟨g, 0, none⟩) (manyL 115 40)) ∧ Hid (RowKit.Below w.heap.size w wr)) (fun i wr => N - (intOf i).toNat)
      case atStart => exact ⟨0, _, Nat.zero_le _, rfl, HC2, Hs2, hB2⟩
      case round =>
        obtain ⟨k, v, hk, rfl, hCr, hSr, hbr⟩ := hrel
        by_cases hkN : k < N
        · have q0 : (0 : Int) ≤ (k : Int) := by omega
          have q1 : (k : Int) ≤ (k : Int) + 1 := by omega
          have q2 : (k : Int) + 1 ≤ (cap : Int) := by omega
          have q3 : ¬ (cap : Int) = (k : Int) := by omega
          have q4 : (k : Int) < (N : Int) := by omega
          have q5 := wrapN (k + 1) (by omega)
          by_cases h30 : k < 30
          · have t1 : decide ((k : Int) < 30) = true := by simp; omega
            have HP := fun W h1 h2 => PushOne_any n0 v k (some ⟨g, k * 9, none⟩) (cap - k) W h30 h1 h2
            have e1 : min k 30 = k := by omega
            have e2 : min (k + 1) 30 = k + 1 := by omega
            rw [e1] at hCr
            have He2 : Hid (min (k + 1) 30 = k + 1) := e2
            clear e1 e2
            go_wp2_with fail
            refine (HP _ hCr.out (many_one hSr.out (by omega))).mono ?_
            rintro e w3 ⟨rfl, v3, hC3, hO3⟩
            have hB3 : Hid (RowKit.Below w.heap.size w w3) := hbr.out.trans (hO3.below hn0 (hCr.out.low hn0) hbr.out.size)
            have HC3 : Hid (ChainAt w3 n0 v3 (upL (k + 1))) := hC3
            have HS3 : Hid (SlT w3 (some ⟨g, 0, none⟩) (manyL 115 40)) := hO3.rows _ _ hSr.out
            clear hC3 hO3 HP
            go_wp2_with fail
            refine (E0 _ (Hg.out.below hB3.out)).mono ?_
            rintro e w4 ⟨rfl, hb4⟩
            go_wp2_with fail
            go_roundw
            case rel => exact ⟨k + 1, v3, by omega, by go_num, by show ChainAt _ _ _ _; rw [He2.out]; exact HC3.out.below hb4, HS3.out.below hb4, bstep hB3.out hb4⟩
            case measure => simp [intOf]; omega
          · have t1 : decide ((k : Int) < 30) = false := by simp; omega
            have t2 : decide ((30 : Int) ≤ (k : Int)) = true := by simp; omega
            have HP := fun W h1 h2 => PushFull_any n0 v (some ⟨g, k * 9, none⟩) (cap - k) (trI 115 k) W h1 h2 (fit_chk (chkS k (by omega)))
            have e1 : min k 30 = 30 := by omega
            have e2 : min (k + 1) 30 = 30 := by omega
            rw [e1] at hCr
            have He2 : Hid (min (k + 1) 30 = 30) := e2
            clear e1 e2
            go_wp2_with fail
            refine (HP _ hCr.out (many_one hSr.out (by omega))).mono ?_
            rintro e w3 ⟨rfl, v3, hC3, hO3⟩
            have hB3 : Hid (RowKit.Below w.heap.size w w3) := hbr.out.trans (hO3.below hn0 (hCr.out.low hn0) hbr.out.size)
            have HC3 : Hid (ChainAt w3 n0 v3 (upL 30)) := hC3
            have HS3 : Hid (SlT w3 (some ⟨g, 0, none⟩) (manyL 115 40)) := hO3.rows _ _ hSr.out
            clear hC3 hO3 HP
            go_wp2_with fail
            refine (E4 _ (Hg.out.below hB3.out)).mono ?_
            rintro e w4 ⟨rfl, hb4⟩
            go_wp2_with fail
            go_roundw
            case rel => exact ⟨k + 1, v3, by omega, by go_num, by show ChainAt _ _ _ _; rw [He2.out]; exact HC3.out.below hb4, HS3.out.below hb4, bstep hB3.out hb4⟩
            case measure => simp [intOf]; omega
        · obtain rfl : k = N := by omega
          clear hSr hk hkN
          obtain ⟨K, hK⟩ : ∃ K, K = min k 30 := ⟨_, rfl⟩
          have HCr : Hid (ChainAt wr n0 v (upL K)) := by rw [hK]; exact hCr
          have HK : Hid (K = min k 30) := hK
          have hK30 : K ≤ 30 := by omega
          clear hCr hK
          go_upto_if 65 with fail
          go_cut [13] (fun u W => u = .int .i64 (K : Int) ∧ W = wr)
          case first =>
            by_cases h30 : 30 < k
            · have t1 : decide ((30 : Int) < (k : Int)) = true := by simp; omega
              have hKe : K = 30 := by have := HK.out; omega
              subst hKe
              clear HK
              go_wp2_with fail
              go_meet
              exact ⟨rfl, rfl⟩
            · have t1 : decide ((30 : Int) < (k : Int)) = false := by simp; omega
              have hKe : k = K := by have := HK.out; omega
              subst hKe
              clear HK
              go_wp2_with fail
              go_meet
              exact ⟨rfl, rfl⟩
          case rest =>
            obtain ⟨rfl, hwc⟩ := hcut
            subst hwc
            have HG := Graph_any n0 v (upL K) K (manyL 115 K) wc HCr.out (by rw [upL_len]; omega) (upL_at (Nat.le_refl _))
            have HL := fun W h => CLen_any n0 v (upL K) W h (by rw [upL_len]; omega)
            rw [upL_len, Nat.add_sub_cancel] at HL
            unfold TOk at HG
            rw [manyL_len] at HG
            go_wp2_with fail
            refine HG.mono ?_
            rintro e w5 ⟨hb5, a5, c5, rfl, hs5⟩
            have HC5 : Hid (ChainAt w5 n0 v (upL K)) := HCr.out.below hb5
            have hB5 : Hid (RowKit.Below w.heap.size w w5) := bstep hbr.out hb5
            clear hs5 hb5 HG
            go_wp2_with fail
            refine (HL _ HC5.out).mono ?_
            rintro e w6 ⟨rfl, rfl⟩
            clear HL
            by_cases hgood : 1 ≤ f ∧ t ≤ (K : Int) ∧ f ≤ t
            · obtain ⟨g1, g2, g3⟩ := hgood
              obtain ⟨i, rfl⟩ : ∃ i : Nat, f = (i : Int) + 1 := ⟨(f - 1).toNat, by omega⟩
              obtain ⟨u, rfl⟩ : ∃ u : Nat, t = (u : Int) := ⟨t.toNat, by omega⟩
              have hiu : i + 1 ≤ u := by omega
              have huK : u ≤ K := by omega
              have HQ := fun W h => Squash_any n0 v (upL K) i u W h (by rw [upL_len]; omega) hiu (by rw [upL_len]; omega)
              obtain ⟨p, hp, hpd, j, hj, e1, e2, hdl, hjK⟩ := up_top hiu huK
              have HP := fun W v' h => Pop_any n0 v' ((upL K).take (i + 1) ++ (upL K).drop u) j W h (by omega) hj
              obtain ⟨m1, m2⟩ := many_up (a := p) (b := K) (by omega) (by omega)
              have HL2 := fun W v' h => CLen_any n0 v' ((upL K).take (i + 1) ++ (upL K).drop u).dropLast W h (by omega)
              rw [hdl, Nat.add_sub_cancel] at HL2
              simp only [e1, e2, m1, m2] at HP
              clear g1 g2 g3 m1 m2 e1 e2 hj hdl
              go_wp2_with fail
              refine (HQ _ HC5.out).mono ?_
              rintro e w7 ⟨rfl, v7, hC7, hO7, hv7⟩
              have HB7 : Hid (RowKit.Below w.heap.size w w7) := hB5.out.trans (hO7.below hn0 (HC5.out.low hn0) hB5.out.size)
              have HC7 : Hid (ChainAt w7 n0 v7 ((upL K).take (i + 1) ++ (upL K).drop u)) := hC7
              clear hC7 hO7 hv7 HQ
              go_wp2_with fail
              refine (HP _ v7 HC7.out).mono ?_
              rintro e w8 ⟨a1, c1, a2, c2, v8, rfl, hs1, hs2, hsq⟩
              have HB8 : Hid (RowKit.Below w.heap.size w w8) := HB7.out.trans (hsq.2.1.below hn0 (HC7.out.low hn0) HB7.out.size)
              have HC8 : Hid (ChainAt w8 n0 v8 ((upL K).take (i + 1) ++ (upL K).drop u).dropLast) := hsq.1
              clear hs1 hs2 hsq HP HC7 HB7
              generalize hW : K - p = W0 at *
              have Hlen : Hid (W0 = if u = K then u - i else 1) := hpd
              clear hpd hp hW
              go_upto_if 110 with fail
              go_cut [16] (fun x W => x = .int .i64 (W0 : Int) ∧ W = w8.alloc (.cells #[.slice a1 W0 c1, .slice a2 0 c2] 31))
              case first =>
                by_cases huk : u = K
                · subst huk
                  have hw0 : W0 = u - i := by have := Hlen.out; rw [if_pos rfl] at this; exact this
                  have t1 : ((u : Int) == (u : Int)) = true := by simp
                  have hw1 : (u : Int) - ((i : Int) + 1) + 1 = (W0 : Int) := by omega
                  clear hw0 Hlen
                  go_wp2_with fail
                  go_meet
                  exact ⟨by first | rfl | (rw [hw1]) | go_num, rfl⟩
                · have hw0 : W0 = 1 := by have := Hlen.out; rw [if_neg huk] at this; exact this
                  have t1 : ((u : Int) == (K : Int)) = false := by simp; omega
                  subst hw0
                  clear Hlen
                  go_wp2_with fail
                  go_meet
                  exact ⟨rfl, rfl⟩
              case rest =>
                obtain ⟨rfl, hwc⟩ := hcut
                subst hwc
                have hjz : (j : Int) = (K : Int) - ((u : Int) - ((i : Int) + 1)) - 1 := by omega
                have HL3 := HL2 (w8.alloc (.cells #[.slice a1 W0 c1, .slice a2 0 c2] 31)) v8 (HC8.out.below (balloc _ _))
                clear HL2
                go_wp2_with fail
                refine HL3.mono ?_
                rintro e w9 ⟨rfl, rfl⟩
                clear HL3
                go_wp2_with fail
                exact bodyPost_ret (v := .bool true) (by simp [results, Tryz.results3, go_sem]) rfl ⟨rfl, bstep HB8.out (balloc _ _)⟩
            · have hbad : f < 1 ∨ (((upL K).length - 1 : Nat) : Int) < t ∨ t < f := by rw [upL_len, Nat.add_sub_cancel]; omega
              have HQ := SquashBad_any n0 v (upL K) f t w6 HC5.out (by rw [upL_len]; omega) hbad
              have hb3 : f < 1 ∨ (K : Int) < t ∨ t < f := by omega
              clear hgood hbad
              by_cases f1 : f < 1
              · have t1 : decide (f < 1) = true := by simpa using f1
                clear hb3
                go_wp2_with fail
                refine HQ.mono ?_
                rintro e w8 ⟨rfl, rfl⟩
                clear HQ
                go_wp2_with fail
                exact bodyPost_ret (v := .bool true) (by simp [results, Tryz.results3, go_sem]) rfl ⟨rfl, hB5.out⟩
              · have t1 : decide (f < 1) = false := by simpa using f1
                by_cases f2 : (K : Int) < t
                · have t2 : decide ((K : Int) < t) = true := by simpa using f2
                  clear hb3
                  go_wp2_with fail
                  refine HQ.mono ?_
                  rintro e w8 ⟨rfl, rfl⟩
                  clear HQ
                  go_wp2_with fail
                  exact bodyPost_ret (v := .bool true) (by simp [results, Tryz.results3, go_sem]) rfl ⟨rfl, hB5.out⟩
                · have t2 : decide ((K : Int) < t) = false := by simpa using f2
                  have f3 : t < f := by omega
                  have t3 : decide (t < f) = true := by simpa using f3
                  clear hb3
                  go_wp2_with fail
                  refine HQ.mono ?_
                  rintro e w8 ⟨rfl, rfl⟩
                  clear HQ
                  go_wp2_with fail
                  exact bodyPost_ret (v := .bool true) (by simp [results, Tryz.results3, go_sem]) rfl ⟨rfl, hB5.out⟩
end Go.Proofs.YtgdjeohcimkljadGreatDoor
