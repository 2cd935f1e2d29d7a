/- stratalaw1.CodeBack: the walk. -/
import Derived.Test.YtonmmnhikjfibadDoorCodeBackPlain
import Derived.Test.YtonmmnhikjfibadDoorLayerSame
import Derived.Test.YtonmmnhikjfibadDoorAs
import Derived.Test.YtonmmnhikjfibadDoorTripleArgs
import Derived.Laws.StructEq
import Derived.Deep.DeepCutAuto
namespace Go.Proofs.YtonmmnhikjfibadDoor
open Go Go.RowKit Go.Proofs
set_option synthInstance.maxSize 1000

theorem neqSelf (x : Tm) (w : World) : (binOp .neq 23 (.agg #[.int .i64 x.1, .string ⟨x.2.1.toArray⟩, .string ⟨x.2.2.toArray⟩]) (.agg #[.int .i64 x.1, .string ⟨x.2.1.toArray⟩, .string ⟨x.2.2.toArray⟩])).run Tryd.prog w = .ok (.bool false) w := by
  rw [run_neq_struct, equalTerm, (eqTB_iff _ _ _ _ _ _).2 ⟨rfl, rfl, rfl⟩]; rfl
theorem setLen' {a : List Tr} (h : IsSet a) : a.length ≤ 9223372036854775807 := by have := h.1; omega
theorem CFact_any (w : World) : Calls Tryd.prog 4 #[.agg #[.int .i64 1, .string ⟨#[97]⟩, .string ⟨#[]⟩]] w fun e w' => e = .returned (.tuple #[.string ⟨#[1, 1, 97]⟩, .nilIface]) ∧ RowKit.Below w.heap.size w w' :=
  CTerm_any (1, [97], []) w (by decide) (by decide)
theorem readTermGood_any {x : Tm} (h : okTm x = 0) (w : World) : Calls Tryd.prog 5 #[.string ⟨(encT x).toArray⟩] w fun e w' => e = .returned (.tuple #[.agg #[.int .i64 x.1, .string ⟨x.2.1.toArray⟩, .string ⟨x.2.2.toArray⟩], .nilIface]) ∧ RowKit.Below w.heap.size w w' := by
  obtain ⟨e1, e2⟩ := back_term h
  refine (ReadTerm_any (encT x) w).mono ?_
  rintro e w' ⟨hb, he⟩
  rw [e1, e2] at he
  exact ⟨he, hb⟩
theorem readSetGood_any {l : List Tr} (h : IsSet l) (w : World) : Calls Tryd.prog 7 #[.string ⟨(encS l).toArray⟩] w fun e w' => RowKit.Below w.heap.size w w' ∧ ∃ ad c, e = .returned (.tuple #[.slice ad l.length c, .nilIface]) ∧ SlT w' ad l := by
  obtain ⟨e1, e2⟩ := back_set h
  refine (ReadSet_any (encS l) w).mono ?_
  rintro e w' ⟨hb, ad, c, he, hs⟩
  rw [e1, e2] at he
  rw [e2] at hs
  exact ⟨hb, ad, c, he, hs⟩
theorem readLayGood_any {a d : List Tr} (h : apartN a d = 0) (w : World) : Calls Tryd.prog 10 #[.string ⟨(encS a ++ encS d).toArray⟩] w fun e w' => RowKit.Below w.heap.size w w' ∧ ∃ a1 k1 a2 k2, e = .returned (.tuple #[.agg #[.slice a1 a.length k1, .slice a2 d.length k2], .nilIface]) ∧ SlT w' a1 a ∧ SlT w' a2 d := by
  obtain ⟨e1, e2, e3⟩ := back_layer h
  refine (ReadLayer_any (encS a ++ encS d) w).mono ?_
  rintro e w' ⟨hb, a1, k1, a2, k2, he, h1, h2⟩
  rw [e1, e2, e3] at he
  rw [e2] at h1
  rw [e3] at h2
  exact ⟨hb, a1, k1, a2, k2, he, h1, h2⟩
/-- bytes that are no layer -/
theorem readLayBad_any {b : List UInt8} {N : Int} (h : readLayN b = N) (h0 : N ≠ 0) (w : World) : Calls Tryd.prog 10 #[.string ⟨b.toArray⟩] w fun e w' => RowKit.Below w.heap.size w w' ∧ ∃ a1 k1 a2 k2, e = .returned (.tuple #[.agg #[.slice a1 0 k1, .slice a2 0 k2], errV N]) := by
  refine (ReadLayer_any b w).mono ?_
  rintro e w' ⟨hb, a1, k1, a2, k2, he, -, -⟩
  have e1 : readLayA b = [] := if_neg (by rw [h]; exact h0)
  have e2 : readLayD b = [] := if_neg (by rw [h]; exact h0)
  rw [h, e1, e2] at he
  exact ⟨hb, a1, k1, a2, k2, he⟩

attribute [local go_sem] eql_errV neq_errV guard_errV
attribute [local go_sem ↓] neqSelf

set_option maxHeartbeats 16000000 in
set_option maxRecDepth 100000 in
theorem codeBack_any (x : Tm) (ad : Option Addr) (ca : Nat) (l : List Tr) (a1 a2 : Option Addr) (c1 c2 : Nat) (m1 m2 : List Tr) (cut : Int) (more b : List UInt8) (w : World)
    (hx : fitTm x) (hl : SlT w ad l) (fl : ∀ y ∈ l, fitTr y) (nl : l.length ≤ 9223372036854775807) (h1 : SlT w a1 m1) (h2 : SlT w a2 m2) (f1 : ∀ y ∈ m1, fitTr y) (f2 : ∀ y ∈ m2, fitTr y) (n1 : m1.length ≤ 9223372036854775807) (n2 : m2.length ≤ 9223372036854775807) (hg : errVar w) :
    Calls Tryd.prog 3 #[.agg #[.int .i64 x.1, .string ⟨x.2.1.toArray⟩, .string ⟨x.2.2.toArray⟩], .slice ad l.length ca, .agg #[.slice a1 m1.length c1, .slice a2 m2.length c2], .int .i64 cut, .string ⟨more.toArray⟩, .string ⟨b.toArray⟩] w fun e w' => e = .returned (.bool true) ∧ RowKit.Below w.heap.size w w' := by
  have HF := CFact_any
  have HT := fun W => CTerm_any x W hx.1 hx.2
  have HS := fun W hW => CSet_any ad ca l W hW fl nl
  have HL := fun W q1 q2 => CLayer_any a1 a2 c1 c2 m1 m2 W q1 q2 f1 f2 n1 n2
  obtain ⟨B0, hB0⟩ : ∃ B0, B0 = (w.alloc (.cells #[.int .i64 x.1, .string ⟨x.2.1.toArray⟩, .string ⟨x.2.2.toArray⟩] 23)).alloc (.cells #[.slice a1 m1.length c1, .slice a2 m2.length c2] 26) := ⟨_, rfl⟩
  have hwB : RowKit.Below w.heap.size w B0 := by rw [hB0]; exact bstep (balloc _ _) (balloc _ _)
  have HA : Hid (∀ W, RowKit.Below B0.heap.size B0 W → SlT W ad l ∧ SlT W a1 m1 ∧ SlT W a2 m2 ∧ errVar W ∧ RowKit.Below w.heap.size w W) := fun W hW => ⟨hl.below (bstep hwB hW), h1.below (bstep hwB hW), h2.below (bstep hwB hW), hg.below (bstep hwB hW), bstep hwB hW⟩
  have HX : Hid (∀ W, RowKit.Below B0.heap.size B0 W → XB W w.heap.size x ∧ XL W (w.heap.size + 1) (.slice a1 m1.length c1) (.slice a2 m2.length c2)) := fun W hW => by
    refine ⟨XB.below ?_ hW, XL.below ?_ hW⟩
    · rw [hB0]; exact (XB.new w x).below (balloc _ _)
    · rw [hB0]
      have := XL.new (w.alloc (.cells #[.int .i64 x.1, .string ⟨x.2.1.toArray⟩, .string ⟨x.2.2.toArray⟩] 23)) (.slice a1 m1.length c1) (.slice a2 m2.length c2)
      rwa [World.size_alloc] at this
  clear hx hl fl nl h1 h2 f1 f2 n1 n2 hg hwB
  go_enter Tryd.func3, Tryd.ntmps3
  go_wp2_with fail
  rw [← hB0]
  refine (HF _).mono ?_
  rintro e W1 ⟨rfl, hB1⟩
  clear HF hB0
  obtain ⟨⟨x0, x1, x2⟩, -⟩ := HX.out _ hB1
  go_wp2_with fail
  refine (HT _).mono ?_
  rintro e W2 ⟨rfl, hb2⟩
  have hB2 : Hid (RowKit.Below B0.heap.size B0 W2) := bstep hB1 hb2
  clear hb2 hB1 HT x0 x1 x2
  go_upto_if 54 with fail
  go_cut [17, 18] (fun _ _ W => Hid (RowKit.Below B0.heap.size B0 W))
  case first =>
    by_cases hN : okTm x = 0
    · have HR := fun W => readTermGood_any hN W
      have eb : termB x = encT x := if_pos hN
      have hN' : (okTm x == 0) = true := by simpa using hN
      rw [← eb] at HR
      clear eb HS HL hN
      generalize okTm x = N at *
      generalize termB x = E at *
      go_wp2_with fail
      refine (HR _).mono ?_
      rintro e W3 ⟨rfl, hb3⟩
      have hB3 := bstep hB2.out (bstep hb3 (balloc W3 (.cells #[.int .i64 x.1, .string ⟨x.2.1.toArray⟩, .string ⟨x.2.2.toArray⟩] 23)))
      obtain ⟨⟨x0, x1, x2⟩, -⟩ := HX.out _ hB3
      have hB3 : Hid (RowKit.Below B0.heap.size B0 _) := hB3
      clear hb3 hB2 HR
      go_wp2_with fail
      go_meet
      case rel => exact hB3
    · have hN' : (okTm x == 0) = false := by simpa using hN
      clear HS HL hN
      generalize okTm x = N at *
      generalize termB x = E at *
      go_wp2_with fail
      go_meet
      case rel => exact hB2
  case rest =>
    have hB3 := hcut
    clear hcut hB2
    generalize termB x = E0 at *
    generalize okTm x = N0 at *
    go_wp2_with fail
    refine (HS _ (HA.out _ hB3.out).1).mono ?_
    rintro e W4 ⟨rfl, hb4⟩
    have hB4 : Hid (RowKit.Below B0.heap.size B0 W4) := bstep hB3.out hb4
    clear hb4 hB3 HS
    go_upto_if 73 with fail
    go_cut [20, 21, 22] (fun _ _ _ W => Hid (RowKit.Below B0.heap.size B0 W))
    case first =>
      by_cases hN : sortedN l = 0
      · have hset := sortedN_set.1 hN
        have HR := fun W => readSetGood_any hset W
        have HQ := fun W a c q1 q2 => SameTriples_any a ad c ca l l W q1 q2 (by have := hset.1; omega) (by have := hset.1; omega)
        rw [show decide (l = l) = true by simp] at HQ
        have eb : setB l = encS l := if_pos hN
        have hN' : (sortedN l == 0) = true := by simpa using hN
        rw [← eb] at HR
        clear eb HL hN hset
        generalize sortedN l = N at *
        generalize setB l = E at *
        go_wp2_with fail
        refine (HR _).mono ?_
        rintro e W5 ⟨hb5, a5, k5, rfl, hs5⟩
        have hB5 : Hid (RowKit.Below B0.heap.size B0 W5) := bstep hB4.out hb5
        clear hb5 hB4 HR
        go_wp2_with fail
        refine (HQ _ a5 k5 hs5 (HA.out _ hB5.out).1).mono ?_
        rintro e W6 ⟨rfl, hb6⟩
        have hB6 : Hid (RowKit.Below B0.heap.size B0 W6) := bstep hB5.out hb6
        clear hb6 hB5 HQ
        go_wp2_with fail
        go_meet
        case rel => exact hB6
      · have hN' : (sortedN l == 0) = false := by simpa using hN
        clear HL hN
        generalize sortedN l = N at *
        generalize setB l = E at *
        go_wp2_with fail
        go_meet
        case rel => exact hB4
    case rest =>
      have hB5 := hcut
      clear hcut hB4
      generalize setB l = E1 at *
      generalize sortedN l = N1 at *
      obtain ⟨-, x0, x1⟩ := HX.out _ hB5.out
      go_wp2_with fail
      refine (HL _ (HA.out _ hB5.out).2.1 (HA.out _ hB5.out).2.2.1).mono ?_
      rintro e W6 ⟨rfl, hb6⟩
      have hB6 : Hid (RowKit.Below B0.heap.size B0 W6) := bstep hB5.out hb6
      clear hb6 hB5 HL x0 x1
      go_upto_if 94 with fail
      go_cut [24, 25, 26, 27, 28, 29, 30, 31, 32] (fun _ _ _ _ _ _ _ _ _ W => Hid (RowKit.Below B0.heap.size B0 W))
      case first =>
        by_cases hN : apartN m1 m2 = 0
        · have eb : layB m1 m2 = encS m1 ++ encS m2 := if_pos hN
          obtain ⟨s1, s2⟩ := apart_sets hN
          have HR := fun W => readLayGood_any hN W
          have HM : Hid (more ≠ [] → ∀ W, Calls Tryd.prog 10 #[.string ⟨(layB m1 m2 ++ more).toArray⟩] W fun e w' => RowKit.Below W.heap.size W w' ∧ ∃ a1 k1 a2 k2, e = .returned (.tuple #[.agg #[.slice a1 0 k1, .slice a2 0 k2], errV 2])) := fun hm W => readLayBad_any (by rw [eb]; exact more_layer hN hm) (by decide) W
          have HC : Hid (∀ k : Nat, k < (layB m1 m2).length → ∀ W, Calls Tryd.prog 10 #[.string ⟨((layB m1 m2).take k).toArray⟩] W fun e w' => RowKit.Below W.heap.size W w' ∧ ∃ a1 k1 a2 k2, e = .returned (.tuple #[.agg #[.slice a1 0 k1, .slice a2 0 k2], errV 8])) := fun k hk W => readLayBad_any (by rw [eb] at hk ⊢; exact cut_layer hN hk) (by decide) W
          have HQ := fun W a k a' k' q1 q2 q3 q4 => SameLayer_any a a' a1 a2 k k' c1 c2 m1 m2 m1 m2 W q1 q2 q3 q4 (by have := s1.1; omega) (by have := s2.1; omega) (by have := s1.1; omega) (by have := s2.1; omega)
          rw [show (decide (m1 = m1) && decide (m2 = m2)) = true by simp] at HQ
          have hbig : (layB m1 m2).length ≤ 40000 := by
            rw [eb, List.length_append]
            have := encS_len s1
            have := encS_len s2
            omega
          have hN' : (apartN m1 m2 == 0) = true := by simpa using hN
          rw [← eb] at HR
          clear eb hN s1 s2
          generalize apartN m1 m2 = N at *
          generalize layB m1 m2 = E at *
          go_wp2_with fail
          refine (HR _).mono ?_
          rintro e W7 ⟨hb7, a7, k7, a8, k8, rfl, hs7, hs8⟩
          have hb7' := bstep hb7 (balloc W7 (.cells #[.slice a7 m1.length k7, .slice a8 m2.length k8] 26))
          have hB7 : Hid (RowKit.Below B0.heap.size B0 (W7.alloc (.cells #[.slice a7 m1.length k7, .slice a8 m2.length k8] 26))) := bstep hB6.out hb7'
          have hs7 := hs7.below (balloc W7 (.cells #[.slice a7 m1.length k7, .slice a8 m2.length k8] 26))
          have hs8 := hs8.below (balloc W7 (.cells #[.slice a7 m1.length k7, .slice a8 m2.length k8] 26))
          clear hb7 hb7' HR hB6
          obtain ⟨-, x0, x1⟩ := HX.out _ hB7.out
          go_wp2_with fail
          refine (HQ _ a7 k7 a8 k8 hs7 hs8 (HA.out _ hB7.out).2.1 (HA.out _ hB7.out).2.2.1).mono ?_
          rintro e W8 ⟨rfl, hb8⟩
          have hB8 : Hid (RowKit.Below B0.heap.size B0 W8) := bstep hB7.out hb8
          clear hb8 hB7 HQ hs7 hs8 x0 x1
          go_upto_region 21 with fail
          go_cut [116] (fun v W => v = .bool (decide (0 ≤ cut ∧ cut < (E.length : Int))) ∧ W = W8)
          case first =>
            clear HC HM
            by_cases hc0 : 0 ≤ cut
            · by_cases hc1 : cut < (E.length : Int)
              · go_wp2_with fail
                go_meet
                case rel => exact ⟨by simp [hc0, hc1], rfl⟩
              · go_wp2_with fail
                go_meet
                case rel => exact ⟨by simp [hc1], rfl⟩
            · go_wp2_with fail
              go_meet
              case rel => exact ⟨by simp; omega, rfl⟩
          case rest =>
          obtain ⟨rfl, rfl⟩ := hcut
          go_upto_if 116 with fail
          go_cut [27, 28, 29] (fun _ _ _ W => Hid (RowKit.Below B0.heap.size B0 W))
          case first =>
            by_cases hc : 0 ≤ cut ∧ cut < (E.length : Int)
            · rw [decide_eq_true hc]
              obtain ⟨k, rfl⟩ : ∃ k : Nat, cut = (k : Int) := ⟨cut.toNat, by omega⟩
              have hk : k < E.length := by omega
              have hkl : k ≤ E.length := by omega
              have HCk := HC.out k hk
              have et := takeX E k
              clear HC HM hc
              go_wp2_with fail
              refine (HCk _).mono ?_
              rintro e W9 ⟨hb9, q1, k1, q2, k2, rfl⟩
              have hB9 : Hid (RowKit.Below B0.heap.size B0 (W9.alloc (.cells #[.slice q1 0 k1, .slice q2 0 k2] 26))) := bstep hB8.out (bstep hb9 (balloc _ _))
              clear hb9 hB8 HCk
              go_wp2_with fail
              refine (SameError_any 8 8 _ (HA.out _ hB9.out).2.2.2.1).mono ?_
              rintro e W10 ⟨rfl, hb10⟩
              have hB10 : Hid (RowKit.Below B0.heap.size B0 W10) := bstep hB9.out hb10
              clear hb10 hB9
              go_wp2_with fail
              go_meet
              case rel => exact hB10
            · rw [decide_eq_false hc]
              clear HC HM hc
              go_wp2_with fail
              go_meet
              case rel => exact hB8
          case rest =>
            have hB9 := hcut
            clear hcut hB8 HC
            cases more with
            | nil =>
              clear HM
              go_wp2_with fail
              go_meet
              case rel => exact hB9
            | cons p r =>
              have HMr := HM.out (by simp)
              clear HM
              have ea := appX E (p :: r)
              by_cases hr : (p :: r).length < 1000
              · have hr' : ((p :: r).length : Int) < 1000 := by omega
                generalize hpr : p :: r = more at *
                have hne : more.isEmpty = false := by rw [← hpr]; rfl
                go_wp2_with fail
                refine (HMr _).mono ?_
                rintro e W9 ⟨hb9, q1, k1, q2, k2, rfl⟩
                have hB10 : Hid (RowKit.Below B0.heap.size B0 (W9.alloc (.cells #[.slice q1 0 k1, .slice q2 0 k2] 26))) := bstep hB9.out (bstep hb9 (balloc _ _))
                clear hb9 hB9 HMr
                go_wp2_with fail
                refine (SameError_any 2 2 _ (HA.out _ hB10.out).2.2.2.1).mono ?_
                rintro e W10 ⟨rfl, hb10⟩
                have hB11 : Hid (RowKit.Below B0.heap.size B0 W10) := bstep hB10.out hb10
                clear hb10 hB10
                go_wp2_with fail
                go_meet
                case rel => exact hB11
              · have hr' : ¬ ((p :: r).length : Int) < 1000 := by omega
                generalize hpr : p :: r = more at *
                have hne : more.isEmpty = false := by rw [← hpr]; rfl
                clear HMr
                go_wp2_with fail
                go_meet
                case rel => exact hB9
        · have hN' : (apartN m1 m2 == 0) = false := by simpa using hN
          clear hN
          generalize apartN m1 m2 = N at *
          generalize layB m1 m2 = E at *
          go_wp2_with fail
          go_meet
          case rel => exact hB6
      case rest =>
        have hB7 := hcut
        clear hcut hB6
        generalize layB m1 m2 = E2 at *
        generalize apartN m1 m2 = N2 at *
        have HR := ReadSet_any b
        by_cases hb0 : readSetN b = 0
        · obtain ⟨hset, hE⟩ := any_set hb0
          have HS := fun W a c hW => CSet_any a c (readSetL b) W hW hset.fit (setLen' hset)
          rw [sortedN_set.2 hset, show setB (readSetL b) = b by unfold setB; rw [if_pos (sortedN_set.2 hset), hE]] at HS
          rw [hb0] at HR
          generalize readSetL b = L at *
          clear hset hE hb0
          go_wp2_with fail
          refine (HR _).mono ?_
          rintro e W8 ⟨hb8, a8, k8, rfl, hs8⟩
          have hB8 : Hid (RowKit.Below B0.heap.size B0 W8) := bstep hB7.out hb8
          clear HR hB7 hb8
          go_wp2_with fail
          refine (HS _ a8 k8 hs8).mono ?_
          rintro e W9 ⟨rfl, hb9⟩
          have hB9 : Hid (RowKit.Below B0.heap.size B0 W9) := bstep hB8.out hb9
          clear HS hB8 hb9
          go_wp2_with fail
          go_ret
          exact ⟨by simp, (HA.out _ hB9.out).2.2.2.2⟩
        · have hb0' : (readSetN b == 0) = false := by simpa using hb0
          generalize readSetL b = L at *
          generalize readSetN b = N at *
          go_wp2_with fail
          refine (HR _).mono ?_
          rintro e W8 ⟨hb8, a8, k8, rfl, hs8⟩
          have hB8 : Hid (RowKit.Below B0.heap.size B0 W8) := bstep hB7.out hb8
          clear HR hB7 hb8
          go_wp2_with fail
          go_ret
          exact ⟨rfl, (HA.out _ hB8.out).2.2.2.2⟩
end Go.Proofs.YtonmmnhikjfibadDoor
