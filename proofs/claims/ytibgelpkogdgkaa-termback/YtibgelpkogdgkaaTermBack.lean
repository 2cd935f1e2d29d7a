/-
  stratalaw1.TermBack returns true for every three terms and every text: what is shown is read as it was, what is read is shown as it was, and Compare is one order. No condition.
-/
import Derived.Test.YtibgelpkogdgkaaTermEq
import Derived.Test.YtibgelpkogdgkaaPlain
import Derived.Deep.DeepCutAuto
namespace Go.Proofs.Ytibgelpkogdgkaa
open Go Go.RowKit Go.Proofs

def factL : List UInt8 := [34, 97, 92, 34, 98, 34, 64, 101, 110]
theorem factN : parseN factL = 0 := by decide
theorem factT : parseT factL = (3, [97, 34, 98], [101, 110]) := by decide

attribute [local go_sem] eql_errV neq_errV guard_errV

set_option maxHeartbeats 4000000 in
set_option maxRecDepth 100000 in
theorem back_any (k1 : Int) (S1 L1 : List UInt8) (k2 : Int) (S2 L2 : List UInt8) (k3 : Int) (S3 L3 : List UInt8) (l : List UInt8) (w : World)
    (h1 : S1.length ≤ maxLen) (h1' : L1.length ≤ maxLen) (hl : l.length ≤ 140737488355328) :
    Calls Try.prog 4 #[.agg #[.int .i64 k1, .string ⟨S1.toArray⟩, .string ⟨L1.toArray⟩], .agg #[.int .i64 k2, .string ⟨S2.toArray⟩, .string ⟨L2.toArray⟩], .agg #[.int .i64 k3, .string ⟨S3.toArray⟩, .string ⟨L3.toArray⟩], .string ⟨l.toArray⟩] w
      fun e w' => e = .returned (.bool true) ∧ Below w.heap.size w w' := by
  have HF : Hid (Value.tuple #[termV (parseT factL), errV (parseN factL)] = .tuple #[.agg #[.int .i64 3, .string ⟨#[97, 34, 98]⟩, .string ⟨#[101, 110]⟩], .nilIface]) := by
    show _ = _; rw [factN, factT]; rfl
  go_enter Try.func4, Try.ntmps4
  go_wp2_with fail
  refine (Parse_any factL _ (by decide)).mono ?_
  rintro e w1 ⟨rfl, hb1⟩
  rw [HF.out]
  have hB1 := bstep hb1 (balloc w1 (.cells #[.int .i64 3, .string ⟨#[97, 34, 98]⟩, .string ⟨#[101, 110]⟩] 27))
  obtain ⟨a0, a1, a2, b0, b1, b2, c0, c1, c2, hz1⟩ := boxes hB1
  go_wp2_with fail
  refine (Print_any k1 S1 L1 _ h1 h1').mono ?_
  rintro e w2 ⟨rfl, hb2⟩
  have hB2 := bstep hB1 hb2
  clear a0 a1 a2 b0 b1 b2 c0 c1 c2 hz1 hb2 hB1 hb1 HF
  go_upto_if 48 with fail
  go_cut [] (fun W => Below (((w.alloc (.cells #[.int .i64 k1, .string ⟨S1.toArray⟩, .string ⟨L1.toArray⟩] 27)).alloc (.cells #[.int .i64 k2, .string ⟨S2.toArray⟩, .string ⟨L2.toArray⟩] 27)).alloc (.cells #[.int .i64 k3, .string ⟨S3.toArray⟩, .string ⟨L3.toArray⟩] 27)).heap.size
      (((w.alloc (.cells #[.int .i64 k1, .string ⟨S1.toArray⟩, .string ⟨L1.toArray⟩] 27)).alloc (.cells #[.int .i64 k2, .string ⟨S2.toArray⟩, .string ⟨L2.toArray⟩] 27)).alloc (.cells #[.int .i64 k3, .string ⟨S3.toArray⟩, .string ⟨L3.toArray⟩] 27)) W)
  case first =>
    by_cases hc : checkN k1 S1 L1 = 0
    · have hc' : (checkN k1 S1 L1 == 0) = true := by simpa using hc
      have Hp : Hid (parseT (printL k1 S1 L1) = (k1, S1, L1) ∧ parseN (printL k1 S1 L1) = 0) := by
        have e : printL k1 S1 L1 = showL k1 S1 L1 := if_pos hc
        rw [e]; exact ⟨(parse_show k1 S1 L1 hc).2, (parse_show k1 S1 L1 hc).1⟩
      have hlen : (printL k1 S1 L1).length ≤ 140737488355328 := by
        have e : printL k1 S1 L1 = showL k1 S1 L1 := if_pos hc
        rw [e]; exact show_len k1 S1 L1 hc
      clear hc
      obtain ⟨a0, a1, a2, b0, b1, b2, c0, c1, c2, hz2⟩ := boxes hB2
      go_wp2_with fail
      refine (Parse_any (printL k1 S1 L1) _ hlen).mono ?_
      rintro e w3 ⟨rfl, hb3⟩
      rw [Hp.out.1, Hp.out.2]
      have hB3 := bstep (bstep hB2 hb3) (balloc w3 (.cells #[.int .i64 k1, .string ⟨S1.toArray⟩, .string ⟨L1.toArray⟩] 27))
      clear a0 a1 a2 b0 b1 b2 c0 c1 c2 hz2
      obtain ⟨a0, a1, a2, b0, b1, b2, c0, c1, c2, hz3⟩ := boxes hB3
      simp only [termV]
      go_wp2
      go_meet
      case rel => exact hB3
    · have hc' : (checkN k1 S1 L1 == 0) = false := by simpa using hc
      clear hc
      go_wp2
      go_meet
      case rel => exact hB2
  case rest =>
    obtain ⟨a0, a1, a2, b0, b1, b2, c0, c1, c2, hz2⟩ := boxes hcut
    go_wp2_with fail
    refine (Parse_any l _ hl).mono ?_
    rintro e w3 ⟨rfl, hb3⟩
    have hB3 := bstep (bstep hcut hb3) (balloc w3 (.cells #[.int .i64 (parseT l).1, .string ⟨(parseT l).2.1.toArray⟩, .string ⟨(parseT l).2.2.toArray⟩] 27))
    clear a0 a1 a2 b0 b1 b2 c0 c1 c2 hz2 hb3 hcut hB2
    simp only [termV]
    go_upto_if 67 with fail
    go_cut [] (fun W => Below (((w.alloc (.cells #[.int .i64 k1, .string ⟨S1.toArray⟩, .string ⟨L1.toArray⟩] 27)).alloc (.cells #[.int .i64 k2, .string ⟨S2.toArray⟩, .string ⟨L2.toArray⟩] 27)).alloc (.cells #[.int .i64 k3, .string ⟨S3.toArray⟩, .string ⟨L3.toArray⟩] 27)).heap.size
        (((w.alloc (.cells #[.int .i64 k1, .string ⟨S1.toArray⟩, .string ⟨L1.toArray⟩] 27)).alloc (.cells #[.int .i64 k2, .string ⟨S2.toArray⟩, .string ⟨L2.toArray⟩] 27)).alloc (.cells #[.int .i64 k3, .string ⟨S3.toArray⟩, .string ⟨L3.toArray⟩] 27)) W)
    case first =>
      by_cases hp : parseN l = 0
      · have hp' : (parseN l == 0) = true := by simpa using hp
        have Hs := show_parse l hp
        have Hc : Hid (checkN (parseT l).1 (parseT l).2.1 (parseT l).2.2 = 0 ∧ printL (parseT l).1 (parseT l).2.1 (parseT l).2.2 = l) := ⟨Hs.1, (if_pos Hs.1).trans Hs.2⟩
        obtain ⟨_, hS, hsp⟩ := check_zero Hs.1
        have hL := spell_lang hsp
        have hs : (parseT l).2.1.length ≤ maxLen := by unfold maxLen; omega
        have hl' : (parseT l).2.2.length ≤ maxLen := by unfold maxLen; omega
        clear hp Hs hsp hS hL
        go_wp2_with fail
        refine (Print_any (parseT l).1 (parseT l).2.1 (parseT l).2.2 _ hs hl').mono ?_
        rintro e w4 ⟨rfl, hb4⟩
        rw [Hc.out.1, Hc.out.2]
        have hB4 := bstep hB3 hb4
        go_wp2
        go_meet
        case rel => exact hB4
      · have hp' : (parseN l == 0) = false := by simpa using hp
        clear hp
        go_wp2
        go_meet
        case rel => exact hB3
    case rest =>
      obtain ⟨a0, a1, a2, b0, b1, b2, c0, c1, c2, hz3⟩ := boxes hcut
      go_wp2_with fail
      refine (Compare_any k1 S1 L1 k2 S2 L2 _).mono ?_
      rintro e w4 ⟨rfl, hb4⟩
      have hB4 := bstep hcut hb4
      clear a0 a1 a2 b0 b1 b2 c0 c1 c2 hz3 hcut hb4
      obtain ⟨a0, a1, a2, b0, b1, b2, c0, c1, c2, hz4⟩ := boxes hB4
      go_wp2_with fail
      refine (Compare_any k2 S2 L2 k3 S3 L3 _).mono ?_
      rintro e w5 ⟨rfl, hb5⟩
      have hB5 := bstep hB4 hb5
      clear a0 a1 a2 b0 b1 b2 c0 c1 c2 hz4 hB4 hb5
      obtain ⟨a0, a1, a2, b0, b1, b2, c0, c1, c2, hz5⟩ := boxes hB5
      go_wp2_with fail
      refine (Compare_any k1 S1 L1 k3 S3 L3 _).mono ?_
      rintro e w6 ⟨rfl, hb6⟩
      have hB6 := bstep hB5 hb6
      clear a0 a1 a2 b0 b1 b2 c0 c1 c2 hz5 hB5 hb6
      obtain ⟨a0, a1, a2, b0, b1, b2, c0, c1, c2, hz6⟩ := boxes hB6
      have hBw : Below w.heap.size w w6 := bstep (bstep (bstep (balloc _ _) (balloc _ _)) (balloc _ _)) hB6
      have hcz0 := cmp_eq k1 S1 L1 k2 S2 L2
      have hcn := cmp_neg_beq k1 S1 L1 k2 S2 L2
      have hrg := cmpT_range k2 S2 L2 k1 S1 L1
      obtain ⟨hr1, hr2⟩ := hrg
      have Htr := cmp_tri k1 S1 L1 k2 S2 L2 k3 S3 L3
      have Hcz : Hid ((cmpT k1 S1 L1 k2 S2 L2 == 0) = eqTB k1 S1 L1 k2 S2 L2) := hcz0
      clear hB6 hB3 hcz0
      rcases Htr with g | ⟨g, g'⟩ | ⟨g, g', g''⟩
      all_goals
        cases hk : (k1 == k2)
        case false =>
          have hcz : (cmpT k1 S1 L1 k2 S2 L2 == 0) = false := by rw [Hcz.out]; simp only [eqTB, hk, Bool.false_and]
          go_wp2_with fail
          refine (Compare_any k2 S2 L2 k1 S1 L1 _).mono ?_
          rintro e w7 ⟨rfl, hb7⟩
          go_wp2_with fail
          go_ret
          exact ⟨rfl, bstep hBw hb7⟩
        case true =>
          cases hS : (S1 == S2)
          case false =>
            have hcz : (cmpT k1 S1 L1 k2 S2 L2 == 0) = false := by rw [Hcz.out]; simp only [eqTB, hS, Bool.false_and, Bool.and_false]
            go_wp2_with fail
            refine (Compare_any k2 S2 L2 k1 S1 L1 _).mono ?_
            rintro e w7 ⟨rfl, hb7⟩
            go_wp2_with fail
            go_ret
            exact ⟨rfl, bstep hBw hb7⟩
          case true =>
            cases hL : (L1 == L2)
            all_goals
              have hcz : (cmpT k1 S1 L1 k2 S2 L2 == 0) = _ := Hcz.out.trans (by simp only [eqTB, hk, hS, hL]; rfl)
              go_wp2_with fail
              refine (Compare_any k2 S2 L2 k1 S1 L1 _).mono ?_
              rintro e w7 ⟨rfl, hb7⟩
              go_wp2_with fail
              go_ret
              exact ⟨rfl, bstep hBw hb7⟩
end Go.Proofs.Ytibgelpkogdgkaa
