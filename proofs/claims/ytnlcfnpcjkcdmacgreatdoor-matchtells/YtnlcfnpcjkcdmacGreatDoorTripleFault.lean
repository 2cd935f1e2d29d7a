/- Sorted's closure: what is wrong with the triple at a place: itself, and that it is not above the one ahead; firstFault. -/
import Derived.Test.YtnlcfnpcjkcdmacGreatDoorTripleRow
import Derived.Deep.RegionHeld3
import Derived.RegionTactic
namespace Go.Proofs.YtnlcfnpcjkcdmacGreatDoor
open Go Go.RowKit Go.Proofs Go.Sort

attribute [local go_sem] eql_errV neq_errV guard_errV

/-- what Sorted's closure tells of a place -/
def stepN (l : List Tr) (i : Nat) : Int := if h : i < l.length then (if chkTr l[i] = 0 then (if h0 : 0 < i then (if 0 ≤ cmpTr (l[i - 1]'(by omega)) l[i] then 6 else 0) else 0) else chkTr l[i]) else 0

/-- nineteen cells, behind a call that lays blocks and draws -/
theorem keep19 {W W' : World} {p0 p1 p2 p3 p4 p5 p6 p7 p8 p9 p10 p11 p12 p13 p14 p15 p16 p17 p18 : Addr} {v0 v1 v2 v3 v4 v5 v6 v7 v8 v9 v10 v11 v12 v13 v14 v15 v16 v17 v18 : Value}
    (h : W.cell? p0 = some v0 ∧ W.cell? p1 = some v1 ∧ W.cell? p2 = some v2 ∧ W.cell? p3 = some v3 ∧ W.cell? p4 = some v4 ∧ W.cell? p5 = some v5 ∧ W.cell? p6 = some v6 ∧ W.cell? p7 = some v7 ∧ W.cell? p8 = some v8 ∧ W.cell? p9 = some v9 ∧ W.cell? p10 = some v10 ∧ W.cell? p11 = some v11 ∧ W.cell? p12 = some v12 ∧ W.cell? p13 = some v13 ∧ W.cell? p14 = some v14 ∧ W.cell? p15 = some v15 ∧ W.cell? p16 = some v16 ∧ W.cell? p17 = some v17 ∧ W.cell? p18 = some v18) (hb : Grew W W') : W'.cell? p0 = some v0 ∧ W'.cell? p1 = some v1 ∧ W'.cell? p2 = some v2 ∧ W'.cell? p3 = some v3 ∧ W'.cell? p4 = some v4 ∧ W'.cell? p5 = some v5 ∧ W'.cell? p6 = some v6 ∧ W'.cell? p7 = some v7 ∧ W'.cell? p8 = some v8 ∧ W'.cell? p9 = some v9 ∧ W'.cell? p10 = some v10 ∧ W'.cell? p11 = some v11 ∧ W'.cell? p12 = some v12 ∧ W'.cell? p13 = some v13 ∧ W'.cell? p14 = some v14 ∧ W'.cell? p15 = some v15 ∧ W'.cell? p16 = some v16 ∧ W'.cell? p17 = some v17 ∧ W'.cell? p18 = some v18 := by
  have q := hb.keep
  obtain ⟨h0, h1, h2, h3, h4, h5, h6, h7, h8, h9, h10, h11, h12, h13, h14, h15, h16, h17, h18⟩ := h
  exact ⟨q _ _ h0, q _ _ h1, q _ _ h2, q _ _ h3, q _ _ h4, q _ _ h5, q _ _ h6, q _ _ h7, q _ _ h8, q _ _ h9, q _ _ h10, q _ _ h11, q _ _ h12, q _ _ h13, q _ _ h14, q _ _ h15, q _ _ h16, q _ _ h17, q _ _ h18⟩

set_option maxHeartbeats 4000000 in
set_option maxRecDepth 100000 in
theorem sortedFault_any (b o cap bl : Nat) (l : List Tr) (i : Nat) (w : World) (hi : i < l.length) (h200 : l.length ≤ 200) (hx : fitTr l[i])
    (hbox : w.cell? ⟨bl, 0, none⟩ = some (.slice (some ⟨b, o, none⟩) l.length cap)) (hrow : RowR w b o l) :
    Calls Tryz.prog 68 #[.int .i64 i, .pointer (some ⟨bl, 0, none⟩)] w fun e w' => e = .returned (errV (stepN l i)) ∧ Below w.heap.size w w' := by
  have H := fun W => ChkTr_any l[i] W hx
  have Hrow : Hid (RowR w b o l) := hrow
  obtain ⟨c0, c1, c2, c3, c4, c5, c6, c7, c8⟩ := hrow.at i hi
  clear hrow hx
  cases hc : (chkTr l[i] == 0)
  · have fin : Hid (stepN l i = chkTr l[i]) := by simp at hc; simp [Hid, stepN, hi, hc]
    go_enter Tryz.func68, Tryz.ntmps68
    go_wp2_with fail
    refine (H _).mono ?_
    rintro e w1 ⟨rfl, hb1⟩
    go_wp2_with fail
    go_ret
    exact ⟨ret_val (by rw [fin.out]; rfl), hb1⟩
  · by_cases h0 : i = 0
    · subst h0
      have fin : Hid (stepN l 0 = 0) := by simp at hc; simp [Hid, stepN, hi, hc]
      simp only [Nat.zero_mul, Nat.add_zero] at c0 c1 c2 c3 c4 c5 c6 c7 c8
      go_enter Tryz.func68, Tryz.ntmps68
      go_wp2_with fail
      refine (H _).mono ?_
      rintro e w1 ⟨rfl, hb1⟩
      clear c0 c1 c2 c3 c4 c5 c6 c7 c8
      go_wp2_with fail
      go_region
      go_wp2
      go_ret
      exact ⟨ret_val (by rw [fin.out]; rfl), hb1.drew⟩
    · obtain ⟨k, hk0⟩ : ∃ k, i = k + 1 := ⟨i - 1, by omega⟩
      have hk : k < l.length := by omega
      have fin : Hid (stepN l i = if 0 ≤ cmpTr l[k] l[i] then 6 else 0) := by
        subst hk0; simp at hc; simp [Hid, stepN, hi, hc]
      have HC := fun W => CmpTr_any l[k] l[i] W
      generalize cmpTr l[k] l[i] = c at HC fin
      have hwr : IntKind.i64.wrap ((i : Int) - 1) = (k : Int) := by subst hk0; simp [IntKind.wrap, IntKind.bits, IntKind.signed]; omega
      have i0 : (0 : Int) ≤ (k : Int) := by omega
      have i1 : (k : Int) < (l.length : Int) := by omega
      have hd : decide (0 < i) = true := by simp; omega
      have i3 : (i : Int) < (l.length : Int) := by omega
      have Hk : Hid (i = k + 1) := hk0
      clear hk0 h0
      go_enter Tryz.func68, Tryz.ntmps68
      go_wp2_with fail
      refine (H _).mono ?_
      rintro e w1 ⟨rfl, hb1⟩
      have hrow1 := Hrow.out.below hb1
      have hbox1 : w1.cell? ⟨bl, 0, none⟩ = some (.slice (some ⟨b, o, none⟩) l.length cap) := (hb1.cell (World.block_lt_of_cell? w _ hbox)).trans hbox
      clear c0 c1 c2 c3 c4 c5 c6 c7 c8
      obtain ⟨c0, c1, c2, c3, c4, c5, c6, c7, c8⟩ := hrow1.at i hi
      obtain ⟨d0, d1, d2, d3, d4, d5, d6, d7, d8⟩ := hrow1.at k hk
      generalize l[i] = y at *
      generalize l[k] = x at *
      clear hrow1 H
      cases hcc : decide (c ≥ 0)
      all_goals
        go_wp2_with fail
        go_region_held3 (fun W => W.cell? ⟨bl, 0, none⟩ = some (.slice (some ⟨b, o, none⟩) l.length cap) ∧ W.cell? ⟨b, o + k * 9, none⟩ = some (.int .i64 x.1.1) ∧ W.cell? ⟨b, o + k * 9 + 1, none⟩ = some (.string ⟨x.1.2.1.toArray⟩) ∧ W.cell? ⟨b, o + k * 9 + 2, none⟩ = some (.string ⟨x.1.2.2.toArray⟩) ∧ W.cell? ⟨b, o + k * 9 + 3, none⟩ = some (.int .i64 x.2.1.1) ∧ W.cell? ⟨b, o + k * 9 + 4, none⟩ = some (.string ⟨x.2.1.2.1.toArray⟩) ∧ W.cell? ⟨b, o + k * 9 + 5, none⟩ = some (.string ⟨x.2.1.2.2.toArray⟩) ∧ W.cell? ⟨b, o + k * 9 + 6, none⟩ = some (.int .i64 x.2.2.1) ∧ W.cell? ⟨b, o + k * 9 + 7, none⟩ = some (.string ⟨x.2.2.2.1.toArray⟩) ∧ W.cell? ⟨b, o + k * 9 + 8, none⟩ = some (.string ⟨x.2.2.2.2.toArray⟩) ∧ W.cell? ⟨b, o + i * 9, none⟩ = some (.int .i64 y.1.1) ∧ W.cell? ⟨b, o + i * 9 + 1, none⟩ = some (.string ⟨y.1.2.1.toArray⟩) ∧ W.cell? ⟨b, o + i * 9 + 2, none⟩ = some (.string ⟨y.1.2.2.toArray⟩) ∧ W.cell? ⟨b, o + i * 9 + 3, none⟩ = some (.int .i64 y.2.1.1) ∧ W.cell? ⟨b, o + i * 9 + 4, none⟩ = some (.string ⟨y.2.1.2.1.toArray⟩) ∧ W.cell? ⟨b, o + i * 9 + 5, none⟩ = some (.string ⟨y.2.1.2.2.toArray⟩) ∧ W.cell? ⟨b, o + i * 9 + 6, none⟩ = some (.int .i64 y.2.2.1) ∧ W.cell? ⟨b, o + i * 9 + 7, none⟩ = some (.string ⟨y.2.2.2.1.toArray⟩) ∧ W.cell? ⟨b, o + i * 9 + 8, none⟩ = some (.string ⟨y.2.2.2.2.toArray⟩)) (first | exact keep19 (by assumption) hb2 | go_keep) (first
          | (go_at_call 70; refine (HC _).mono ?_; rintro e w2 ⟨rfl, hb2⟩))
        go_wp2
        go_ret
        exact ⟨ret_val (by rw [fin.out]; simp at hcc; first | rw [if_pos (by omega)]; rfl | rw [if_neg (by omega)]; rfl), bstep hb1.drew hb2.below⟩

/-- the first number that is not 0 among those of the places below k -/
def firstUpto (f : Nat → Int) : Nat → Int
  | 0 => 0
  | k + 1 => if firstUpto f k = 0 then f k else firstUpto f k
theorem firstUpto_mono (f : Nat → Int) (k n : Nat) (h : firstUpto f k ≠ 0) (hn : k ≤ n) : firstUpto f n = firstUpto f k := by
  induction n with
  | zero => simp at hn; rw [hn]
  | succ m ih =>
    by_cases e : k = m + 1
    · rw [e]
    · have := ih (by omega)
      rw [firstUpto, this, if_neg h]
/-- what firstFault tells of n places -/
def faultN (f : Nat → Int) (n : Nat) : Int := if 200 < n then 4 else firstUpto f n

set_option maxHeartbeats 1000000 in
theorem firstFault_any (ad : Option Addr) (n cap g bl : Nat) (f : Nat → Int) (I : World → Prop) (w : World) (hn : n ≤ 9223372036854775807)
    (eg : ∀ args w, (callFunc g args).run Tryz.prog w = .ok (.enter g args) w) (hI : I w) (hkeep : ∀ W W', I W → Below W.heap.size W W' → I W')
    (hf : n ≤ 200 → ∀ (i : Nat) (W : World), i < n → I W → Calls Tryz.prog g #[.int .i64 i, .pointer (some ⟨bl, 0, none⟩)] W fun e w' => e = .returned (errV (f i)) ∧ Below W.heap.size W w') :
    Calls Tryz.prog 67 #[.slice ad n cap, .func (.func g) #[] #[.pointer (some ⟨bl, 0, none⟩)]] w fun e w' => e = .returned (errV (faultN f n)) ∧ Below w.heap.size w w' := by
  by_cases h200 : 200 < n
  · have fin : Hid (faultN f n = 4) := if_pos h200
    have h200' : decide ((n : Int) > 200) = true := by simp; omega
    clear hf
    go_enter Tryz.func67, Tryz.ntmps67
    go_wp2
    go_ret
    exact ⟨ret_val (by rw [fin.out]; rfl), Below.refl _ _⟩
  · have fin : Hid (faultN f n = firstUpto f n) := if_neg h200
    have Hf : Hid (∀ (i : Nat) (W : World), i < n → I W → Calls Tryz.prog g #[.int .i64 i, .pointer (some ⟨bl, 0, none⟩)] W fun e w' => e = .returned (errV (f i)) ∧ Below W.heap.size W w') := hf (by omega)
    have Hk : Hid (∀ W W', I W → Below W.heap.size W W' → I W') := hkeep
    have HI : Hid (I w) := hI
    clear hf hkeep hI
    go_enter Tryz.func67, Tryz.ntmps67
    go_wp2
    go_loopw [13] (fun i wr => ∃ k : Nat, k ≤ n ∧ i = .int .i64 k ∧ firstUpto f k = 0 ∧ I wr ∧ Below w.heap.size w wr) (fun i wr => n - (intOf i).toNat)
    case atStart => exact ⟨0, Nat.zero_le _, rfl, rfl, HI.out, Below.refl _ _⟩
    case round =>
      obtain ⟨k, hk, rfl, hz0, hIr0, hbr⟩ := hrel
      have hz : Hid (firstUpto f k = 0) := hz0
      have hIr : Hid (I wr) := hIr0
      clear hz0 hIr0
      by_cases hlt : k < n
      · cases hc : (f k == 0)
        · go_wp2_with fail
          go_at_fn g
          refine (Hf.out k _ hlt hIr.out).mono ?_
          rintro e w1 ⟨rfl, hb1⟩
          go_wp2_with fail
          go_ret
          simp at hc
          refine ⟨ret_val ?_, bstep hbr hb1⟩
          have h1 : firstUpto f (k + 1) = f k := by rw [firstUpto, if_pos hz.out]
          rw [fin.out, firstUpto_mono f (k + 1) n (by rw [h1]; exact hc) (by omega), h1]
          rfl
        · go_wp2_with fail
          go_at_fn g
          refine (Hf.out k _ hlt hIr.out).mono ?_
          rintro e w1 ⟨rfl, hb1⟩
          go_wp2_with fail
          simp at hc
          exact ⟨⟨k + 1, by omega, by go_num, by rw [firstUpto, if_pos hz.out]; exact hc, Hk.out _ _ hIr.out hb1, bstep hbr hb1⟩, by simp [intOf]; omega⟩
      · have hkn : k = n := by omega
        subst hkn
        go_wp2
        go_ret
        exact ⟨ret_val (by rw [fin.out, hz.out]; rfl), hbr⟩
end Go.Proofs.YtnlcfnpcjkcdmacGreatDoor
