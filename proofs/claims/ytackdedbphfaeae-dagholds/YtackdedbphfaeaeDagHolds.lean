/- stratalaw2.DagHolds over a dag's face: the walk. -/
import Derived.Test.YtackdedbphfaeaeDHoldsWant
import Derived.Test.YtackdedbphfaeaeOwnU
namespace Go.Proofs.Ytackdedbphfaeae
open Go Go.RowKit Go.Proofs
set_option synthInstance.maxSize 1000

/-- the three commits in memory -/
theorem ones_at (w : World) : ComsOK (((w.alloc (.cells #[.int .i64 0] 3)).alloc (.cells #[.int .i64 0] 3)).alloc (.cells #[.slice none 0 0, .int .i64 1, .string ⟨#[]⟩, .slice (some ⟨w.heap.size, 0, none⟩) 1 1, .int .i64 1, .string ⟨#[]⟩, .slice (some ⟨w.heap.size + 1, 0, none⟩) 1 1, .int .i64 1, .string ⟨#[]⟩] 46)) (some ⟨w.heap.size + 2, 0, none⟩) 3 onesC := by
  refine ⟨fun _ => ⟨w.heap.size + 2, 0, rfl, fun i hi => ?_⟩, by decide, by decide, by decide, by decide, fun b o e i hi a n c hc => ?_⟩
  · have hi3 : i < 3 := hi
    rcases (by omega : i = 0 ∨ i = 1 ∨ i = 2) with rfl | rfl | rfl
    · exact ⟨none, 0, by go_simp; rfl, by go_simp; rfl, by go_simp; rfl, fun hne => absurd rfl hne⟩
    · exact ⟨some ⟨w.heap.size, 0, none⟩, 1, by go_simp; rfl, by go_simp; rfl, by go_simp; rfl, fun _ => ⟨w.heap.size, 0, rfl, fun j hj => by
        obtain rfl : j = 0 := by simp [onesC] at hj; omega
        go_simp; rfl⟩⟩
    · exact ⟨some ⟨w.heap.size + 1, 0, none⟩, 1, by go_simp; rfl, by go_simp; rfl, by go_simp; rfl, fun _ => ⟨w.heap.size + 1, 0, rfl, fun j hj => by
        obtain rfl : j = 0 := by simp [onesC] at hj; omega
        go_simp; rfl⟩⟩
  · cases e
    have hi3 : i < 3 := hi
    have q : ∃ a' n', (((w.alloc (.cells #[.int .i64 0] 3)).alloc (.cells #[.int .i64 0] 3)).alloc (.cells #[.slice none 0 0, .int .i64 1, .string ⟨#[]⟩, .slice (some ⟨w.heap.size, 0, none⟩) 1 1, .int .i64 1, .string ⟨#[]⟩, .slice (some ⟨w.heap.size + 1, 0, none⟩) 1 1, .int .i64 1, .string ⟨#[]⟩] 46)).cell? ⟨w.heap.size + 2, 0 + i * 3, none⟩ = some (.slice a' n' n') := by
      clear hc
      rcases (by omega : i = 0 ∨ i = 1 ∨ i = 2) with rfl | rfl | rfl
      · exact ⟨none, 0, by go_simp⟩
      · exact ⟨some ⟨w.heap.size, 0, none⟩, 1, by go_simp⟩
      · exact ⟨some ⟨w.heap.size + 1, 0, none⟩, 1, by go_simp⟩
    obtain ⟨a', n', q⟩ := q
    rw [q] at hc
    simp only [Option.some.injEq, Value.slice.injEq] at hc
    omega

theorem pars_at {l : List Cm} {i : Nat} (hi : i < l.length) : parsOf l i = l[i].1 := by
  unfold parsOf
  rw [List.getElem?_eq_getElem hi]
  rfl
/-- what is wanted, as the parents come -/
def wantP (l : List Cm) (i k : Nat) (v : List Nat) : Prop := ∀ z, z ∈ v ↔ z = i ∨ ∃ (q : Nat) (p : Nat), q < k ∧ (parsOf l i)[q]? = some (p : Int) ∧ Up l p z
theorem wantP_start (l : List Cm) (i : Nat) : wantP l i 0 [i] := fun z => by simp
theorem wantP_step {l : List Cm} {i k p : Nat} {v y : List Nat} (h : wantP l i k v) (hp : (parsOf l i)[k]? = some (p : Int)) (hy : ∀ z, z ∈ y ↔ Up l p z) : wantP l i (k + 1) (v ++ y) := by
  intro z
  rw [List.mem_append, h z, hy z]
  constructor
  · rintro ((e | ⟨q, p', h1, h2, h3⟩) | h1)
    · exact Or.inl e
    · exact Or.inr ⟨q, p', by omega, h2, h3⟩
    · exact Or.inr ⟨k, p, by omega, hp, h1⟩
  · rintro (e | ⟨q, p', h1, h2, h3⟩)
    · exact Or.inl (Or.inl e)
    · by_cases hq : q = k
      · subst hq
        rw [hp] at h2
        simp only [Option.some.injEq] at h2
        rw [show p' = p by omega] at h3
        exact Or.inr h3
      · exact Or.inl (Or.inr ⟨q, p', by omega, h2, h3⟩)
theorem wantP_end {l : List Cm} {i : Nat} {v : List Nat} (h : wantP l i (parsOf l i).length v) : ∀ z, z ∈ v ↔ Up l i z := by
  intro z
  rw [h z, up_split]
  constructor
  · rintro (e | ⟨q, p, h1, h2, h3⟩)
    · exact Or.inl e
    · exact Or.inr ⟨p, List.mem_of_getElem? h2, h3⟩
  · rintro (e | ⟨p, h1, h2⟩)
    · exact Or.inl e
    · obtain ⟨q, hq, e⟩ := List.getElem_of_mem h1
      exact Or.inr ⟨q, p, hq, by rw [List.getElem?_eq_getElem hq, e], h2⟩

set_option maxHeartbeats 64000000 in
set_option maxRecDepth 1000000 in
theorem dagHolds_any (F : DFace) (ad : Option Addr) (ca : Nat) (l : List Cm) (a b : Int) (w : World) (h : ComsOK w ad ca l) :
    Calls Try.prog 5 #[.slice ad l.length ca, .int .i64 a, .int .i64 b] w fun e w' => e = .returned (.bool true) ∧ RowKit.Below w.heap.size w w' := by
  have C0 := F.bases _ _ 3 onesC 1 2 (ones_at w)
  have T0 : twoE onesC 1 2 = 0 := two_good (i := 1) (j := 2) ones_good (by decide) (by decide)
  have HC : Hid (∀ W, RowKit.Below w.heap.size w W → ComsOK W ad ca l) := fun W hb => h.below hb
  have hb0 := hideO (bstep (bstep (balloc w (.cells #[.int .i64 0] 3)) (balloc _ (.cells #[.int .i64 0] 3))) (balloc _ (.cells #[.slice none 0 0, .int .i64 1, .string ⟨#[]⟩, .slice (some ⟨w.heap.size, 0, none⟩) 1 1, .int .i64 1, .string ⟨#[]⟩, .slice (some ⟨w.heap.size + 1, 0, none⟩) 1 1, .int .i64 1, .string ⟨#[]⟩] 46)))
  rw [T0] at C0
  clear h T0
  go_enter Try.func5, Try.ntmps5
  go_wp2_with fail
  refine C0.mono ?_
  rintro e w1 ⟨fd, fc, f, rfl, f1, _, f3, hb1, _, _, _⟩
  obtain rfl : f = [0] := ones_base (f1 rfl)
  have HB1 := hideO (bstep hb0.out hb1)
  obtain ⟨b0, o0, e0, c0⟩ := f3.natD (k := 0) (by simp)
  subst e0
  simp only [Nat.add_zero, List.getD_cons_zero] at c0
  rw [errV_zero, show ([0] : List Nat).length = 1 from rfl]
  clear C0 hb0 hb1 f1 f3
  dsimp only
  go_wp2_with fail
  refine (F.anc _ ad ca l a (HC.out _ HB1.out)).mono ?_
  rintro e w2 ⟨xd, xc, x, rfl, x1, _, x3, hb2, x4, _, _⟩
  have HB2 := hideO (bstep HB1.out hb2)
  have SX := hideO x3
  clear HB1 hb2 x3 c0
  dsimp only
  by_cases hf : ancE l a = 0
  · obtain ⟨G, a0, a1⟩ := ancE_zero hf
    obtain ⟨i, hi⟩ : ∃ i : Nat, a = (i : Int) := ⟨a.toNat, by omega⟩
    subst hi
    have hx := x1 hf
    simp only [Int.toNat_natCast] at hx
    have hil : i < l.length := by omega
    rw [hf, errV_zero]
    have HX := hideO (And.intro hx (And.intro G hil))
    have hpar := good_pars G hil
    have hpl : (parsOf l i).length ≤ 2 := by
      have := G.2 i hil
      rw [pars_at hil]
      unfold comN at this
      split at this
      · simp at this
      · rename_i hh; omega
    have HP := hideO hpar
    obtain ⟨lb, lo, pa, pc, e1, d0, d1, d2, d3⟩ := (HC.out _ HB2.out).sl.at hil
    rw [← pars_at hil] at d0 d3
    subst e1
    have HD := hideO (And.intro d0 d3)
    clear hf x1 hx G d0 d1 d2 d3 a0 hpar
    go_upto_block 0 with fail
    go_cut [12, 13] (fun v12 _ W' => ∃ (vd : Option Addr) (vc : Nat) (v : List Nat), v12 = .slice vd v.length vc ∧ Hid (∀ z, z ∈ v ↔ Up l i z) ∧ v.length ≤ 1000 ∧ Hid (SlI W' vd (natI v)) ∧ Hid (RowKit.Below w2.heap.size w2 W'))
    case rest =>
      obtain ⟨vd, vc, v, rfl, hv, lv, sv, hbv⟩ := hcut
      refine go_on (by assumption) ?_
      exact dhWant F _ _ _ _ _ _ _ _ _ _ _ _ _ _ _ _ _ _ _ _ _ _ _ _ _ _ _ _ _ _ _ _ _ _ _ _ _ _ _ _ _ _ _ _ _ _ _ _ _ _ _ _ _ _ _ _ _ _ _ _ _ _ _ _ _ _ _ _ _ _ _ _ _ _ _ _ _ _ _ _ _ _ _ _ _ _ _ _ _ _ _ _ _ _ _ _ _ _ _ _ _ _ _ _ _ _ _ _ _ _ _ _ _ _ _ _ _ _ _ _ _ _ _ _ _ _ _ _ _ _ _ _ _ _ _ _ _ _ _ _ _ _ _ _ _ _ _ _ _ _ _ _ _ _ _ _ _ _ _ _ _ _ _ _ _ _ _ _ _ _ _ _ _ _ _ _ _ _ _ _ _ _ _ _ _ _ _ _ _ _ _ _ _ _ _ _ _ _ _ _ _ _ _ _ _ _ _ _ _ _ _ _ _ _ _ _ _ _ _ _ _ _ _ _ _ _ _ _ _ _ _ _ _ _ _ _ _ _ _ _ _ _ _ _ _ _ _ _ _ _ (some ⟨lb, lo, none⟩) ca l i b xd vd xc vc x v w wc HX.out.2.1 HX.out.2.2 HC.out (bstep HB2.out hbv.out) HX.out.1 x4 (SX.out.below hbv.out) hv.out lv sv.out
    case first =>
      obtain ⟨i0', hi0, hz0, hz1, hz2⟩ := info_parts infoU
      go_wp2_with fail
      go_loopw [12, 13] (fun v12 kk wr => ∃ (k : Nat) (v : List Nat), k ≤ (parsOf l i).length ∧ kk = .int .i64 k ∧ Hid (wr.ownsRow w2.heap.size 3 1 v12 v.length (cellsU v)) ∧ Hid (wantP l i k v) ∧ v.length ≤ 1 + 60 * k ∧ Hid (RowKit.Below w2.heap.size w2 wr)) (fun _ kk wr => (parsOf l i).length - (intOf kk).toNat)
      case atStart => exact ⟨0, [i], by omega, rfl, ownU_one w2 i, wantP_start l i, by simp, balloc w2 _⟩
      case round =>
        obtain ⟨k, v, hk, rfl, ho, hv, lv, hbr⟩ := hrel
        have d0 : wr.cell? ⟨lb, lo + i * 3, none⟩ = some (.slice pa (parsOf l i).length pc) := (hbr.out.cell (World.block_lt_of_cell? w2 _ HD.out.1)).trans HD.out.1
        have hlb := World.block_lt_of_cell? _ _ d0
        have i0 : (0 : Int) ≤ (i : Int) := by omega
        by_cases hlt : k < (parsOf l i).length
        · obtain ⟨pb, po, e2, c2⟩ := (HD.out.2.below hbr.out).at hlt
          have hp := HP.out _ (List.getElem_mem hlt)
          obtain ⟨p, hpe⟩ : ∃ p : Nat, (parsOf l i)[k] = (p : Int) := ⟨(parsOf l i)[k].toNat, by omega⟩
          have hpl2 : p < l.length := by omega
          have hst : Hid (∀ y : List Nat, (∀ z, z ∈ y ↔ Up l p z) → wantP l i (k + 1) (v ++ y)) := fun y hy => wantP_step hv.out (by rw [List.getElem?_eq_getElem hlt, hpe]) hy
          have D := F.anc wr (some ⟨lb, lo, none⟩) ca l p (HC.out _ (bstep HB2.out hbr.out))
          rw [ancE_good HX.out.2.1 (by omega) (by omega)] at D
          simp only [Int.toNat_natCast] at D
          rw [hpe] at c2
          subst e2
          have k0 : (0 : Int) ≤ (k : Int) := by omega
          have k1 : (k : Int) < ((parsOf l i).length : Int) := by omega
          clear hp hpe hv
          generalize (parsOf l i).length = pl at *
          go_wp2_with fail
          refine D.mono ?_
          rintro e w5 ⟨yd, yc, y, rfl, y1, _, y3, hb5, y4, _, _⟩
          have hy := y1 rfl
          have hyp : p ∈ y := (hy.2 p).2 (Up.refl l p)
          have hpos : 0 < y.length := List.length_pos_iff.2 fun e => by rw [e] at hyp; simp at hyp
          obtain ⟨yb, yo, e3, c3⟩ := y3 (fun e => by have h9 := congrArg List.length e; rw [natI_len] at h9; have h8 : y.length = 0 := h9; omega)
          subst e3
          have Hw := hideO (hst.out y hy.2)
          have Ho := hideO (ownsO_below ho.out hb5)
          have hnews : ∀ (j : Nat) u, (cellsU y)[j]? = some u → w5.cell? ((⟨yb, yo, none⟩ : Addr).add j) = some u := fun j u hu => by
            have hj : j < y.length := by have := (List.getElem?_eq_some_iff.1 hu).1; simpa [cellsU] using this
            have h1 := c3 j (by rw [natI_len]; exact hj)
            rw [Addr.add_lit, h1, ← hu]
            simp [cellsU, natI, hj]
          have Hn := hideO hnews
          have Hb5 := hideO (bstep hbr.out hb5)
          clear D hst y1 y3 hy hyp c3 hnews hb5 hbr ho c2 d0
          rw [errV_zero]
          dsimp only
          go_wp2_with (at_builtin; refine wpList_append_own _ rfl _ _ 34 rfl w2.heap.size 3 i0' (.int .i64 0) 1 8 Try.underlying34 hi0 hz0 hz1 hz2 rfl (by decide) _ _ _ rfl Ho.out ⟨yb, yo, none⟩ y.length yc (cellsU y) rfl (by simp [cellsU]) Hn.out (by simp [cellsU, Value.oneCell']) (by unfold maxLen; omega) (by omega) (by have := Hb5.out.size; omega) ?_)
          intro v' w7 h2 h3 _
          have hb7 : Hid (RowKit.Below w2.heap.size w2 w7) := Hb5.out.grown h3 Hb5.out.size (fun j hj => (Ho.out.lt j hj).1)
          have ho7 : Hid (w7.ownsRow w2.heap.size 3 1 v' (v ++ y).length (cellsU (v ++ y))) := by
            show World.ownsRow _ _ _ _ _ _ _
            rw [List.length_append]
            simpa [cellsU] using h2
          clear h2 h3
          go_wp2_with fail
          go_roundw
          case rel => exact ⟨k + 1, v ++ y, by omega, by go_num, ho7, Hw, by rw [List.length_append]; omega, hb7⟩
          case measure => simp [intOf]; omega
        · have hkk : k = (parsOf l i).length := by omega
          obtain ⟨vd, vc, rfl, sv⟩ := ownU_sl ho.out
          have hfin : Hid ((∀ z, z ∈ v ↔ Up l i z) ∧ SlI wr vd (natI v)) := ⟨wantP_end (by rw [← hkk]; exact hv.out), sv⟩
          clear hv ho sv
          subst hkk
          go_wp2_with fail
          go_meet
          case rel => exact ⟨vd, vc, v, rfl, hfin.out.1, by omega, hfin.out.2, hbr⟩
  · rw [errV_some hf]
    clear x1
    generalize ancE l a = f at *
    go_wp2_with fail
    go_ret
    exact ⟨rfl, HB2.out⟩
end Go.Proofs.Ytackdedbphfaeae
