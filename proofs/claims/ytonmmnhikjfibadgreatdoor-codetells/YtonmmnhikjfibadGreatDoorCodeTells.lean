/- stratalaw1.CodeTells: the walk. -/
import Derived.Test.YtonmmnhikjfibadGreatDoorCodeRefRead
import Derived.Test.YtonmmnhikjfibadGreatDoorCodeRefBytes
import Derived.Test.YtonmmnhikjfibadGreatDoorCodeBackPlain
import Derived.Test.YtonmmnhikjfibadGreatDoorLayerSame
import Derived.Test.YtonmmnhikjfibadGreatDoorAs
import Derived.Test.YtonmmnhikjfibadGreatDoorTripleArgs
import Derived.Laws.StructEq
import Derived.Deep.DeepCutAuto
namespace Go.Proofs.YtonmmnhikjfibadGreatDoor
open Go Go.RowKit Go.Proofs
set_option synthInstance.maxSize 1000

theorem eqlSelf (x : Tm) (w : World) : (binOp .eql 43 (.agg #[.int .i64 x.1, .string ⟨x.2.1.toArray⟩, .string ⟨x.2.2.toArray⟩]) (.agg #[.int .i64 x.1, .string ⟨x.2.1.toArray⟩, .string ⟨x.2.2.toArray⟩])).run Tryz.prog w = .ok (.bool true) w := by
  rw [run_eql_struct, equalTerm, (eqTB_iff _ _ _ _ _ _).2 ⟨rfl, rfl, rfl⟩]; rfl
theorem len_readSet (b : List UInt8) : (readSetL b).length ≤ 1000000 := by
  by_cases h : readSetN b = 0
  · have := (any_set h).1.1
    omega
  · rw [show readSetL b = [] from if_neg h]
    simp
theorem lay_sets {b : List UInt8} (h : readLayN b = 0) : IsSet (setS (0, b)).1 ∧ IsSet (setS (setS (0, b)).2).1 := apart_sets (wholeN_zero h).1
theorem len_readLay (b : List UInt8) : (readLayA b).length ≤ 1000000 ∧ (readLayD b).length ≤ 1000000 := by
  by_cases h : readLayN b = 0
  · obtain ⟨h1, h2⟩ := lay_sets h
    have := h1.1
    have := h2.1
    rw [show readLayA b = _ from if_pos h, show readLayD b = _ from if_pos h]
    omega
  · rw [show readLayA b = [] from if_neg h, show readLayD b = [] from if_neg h]
    simp

attribute [local go_sem] eql_errV neq_errV guard_errV
attribute [local go_sem ↓] eqlSelf

set_option maxHeartbeats 16000000 in
set_option maxRecDepth 100000 in
theorem codeTells_any (x : Tm) (ad : Option Addr) (ca : Nat) (l : List Tr) (a1 a2 : Option Addr) (c1 c2 : Nat) (m1 m2 : List Tr) (b : List UInt8) (w : World)
    (hx : fitTm x) (hl : SlT w ad l) (fl : ∀ y ∈ l, fitTr y) (nl : l.length ≤ 9223372036854775807) (h1 : SlT w a1 m1) (h2 : SlT w a2 m2) (f1 : ∀ y ∈ m1, fitTr y) (f2 : ∀ y ∈ m2, fitTr y) (n1 : m1.length ≤ 9223372036854775807) (n2 : m2.length ≤ 9223372036854775807) (hb : b.length ≤ 9223372036854775807) (hg : errVar w) :
    Calls Tryz.prog 5 #[.agg #[.int .i64 x.1, .string ⟨x.2.1.toArray⟩, .string ⟨x.2.2.toArray⟩], .slice ad l.length ca, .agg #[.slice a1 m1.length c1, .slice a2 m2.length c2], .string ⟨b.toArray⟩] w fun e w' => e = .returned (.bool true) ∧ RowKit.Below w.heap.size w w' := by
  have C1 := fun W => RTerm_any x.1 x.2.1 x.2.2 W hx.1 hx.2
  rw [show checkN x.1 x.2.1 x.2.2 = okTm x from rfl] at C1
  have C2 := fun W => CTerm_any x W hx.1 hx.2
  have C3 := fun W hW => RSet_any ad ca l W hW fl nl
  have C4 := fun W hW => CSet_any ad ca l W hW fl nl
  have C5 := fun W q1 q2 => RLayer_any a1 a2 c1 c2 m1 m2 W q1 q2 f1 f2 n1 n2
  have C6 := fun W q1 q2 => CLayer_any a1 a2 c1 c2 m1 m2 W q1 q2 f1 f2 n1 n2
  have C7 := fun W => RReadTerm_any b W hb
  have C8 := fun W => ReadTerm_any b W
  have C9' := fun W => RReadSet_any b W hb
  have C10 := fun W => ReadSet_any b W
  have C11 := fun W => RReadLayer_any b W hb
  have C12 := fun W => ReadLayer_any b W
  obtain ⟨B0, hB0⟩ : ∃ B0, B0 = (w.alloc (.cells #[.int .i64 x.1, .string ⟨x.2.1.toArray⟩, .string ⟨x.2.2.toArray⟩] 43)).alloc (.cells #[.slice a1 m1.length c1, .slice a2 m2.length c2] 31) := ⟨_, rfl⟩
  have hwB : RowKit.Below w.heap.size w B0 := by rw [hB0]; exact bstep (balloc _ _) (balloc _ _)
  have HA : Hid (∀ W, RowKit.Below B0.heap.size B0 W → SlT W ad l ∧ SlT W a1 m1 ∧ SlT W a2 m2 ∧ errVar W ∧ RowKit.Below w.heap.size w W) := fun W hW => ⟨hl.below (bstep hwB hW), h1.below (bstep hwB hW), h2.below (bstep hwB hW), hg.below (bstep hwB hW), bstep hwB hW⟩
  have HX : Hid (∀ W, RowKit.Below B0.heap.size B0 W → XB W w.heap.size x ∧ XL W (w.heap.size + 1) (.slice a1 m1.length c1) (.slice a2 m2.length c2)) := fun W hW => by
    refine ⟨XB.below ?_ hW, XL.below ?_ hW⟩
    · rw [hB0]; exact (XB.new w x).below (balloc _ _)
    · rw [hB0]
      have := XL.new (w.alloc (.cells #[.int .i64 x.1, .string ⟨x.2.1.toArray⟩, .string ⟨x.2.2.toArray⟩] 43)) (.slice a1 m1.length c1) (.slice a2 m2.length c2)
      rwa [World.size_alloc] at this
  have hB : Hid (RowKit.Below B0.heap.size B0 B0) := RowKit.Below.refl _ _
  clear hx hl fl nl h1 h2 f1 f2 n1 n2 hg hwB hb
  obtain ⟨⟨x0, x1, x2⟩, -⟩ := HX.out _ hB.out
  go_enter Tryz.func5, Tryz.ntmps5
  go_wp2_with fail
  rw [← hB0]
  refine (C1 _).mono ?_
  rintro e W1 ⟨rfl, hb1⟩
  have hB : Hid (RowKit.Below B0.heap.size B0 W1) := bstep hB.out hb1
  clear hb1 C1 hB0 x0 x1 x2
  go_upto_if 32 with fail
  go_cut [10] (fun v W => v = .string ⟨(termB x).toArray⟩ ∧ Hid (RowKit.Below B0.heap.size B0 W))
  case first =>
    by_cases hN : okTm x = 0
    · have HR := fun W => RBytes_any x W hN
      rw [show encT x = termB x from (if_pos hN).symm] at HR
      have hN' : (okTm x == 0) = true := by simpa using hN
      obtain ⟨⟨x0, x1, x2⟩, -⟩ := HX.out _ hB.out
      clear C2 C3 C4 C5 C6 C7 C8 C9' C10 C11 C12 hN
      generalize okTm x = N at *
      generalize termB x = E at *
      go_wp2_with fail
      refine (HR _).mono ?_
      rintro e W2 ⟨rfl, hb2⟩
      have hB : Hid (RowKit.Below B0.heap.size B0 W2) := bstep hB.out hb2
      clear hb2
      go_wp2_with fail
      go_meet
      case rel => exact ⟨rfl, hB⟩
    · have e1 : Hid (termB x = []) := if_neg hN
      have hN' : (okTm x == 0) = false := by simpa using hN
      clear C2 C3 C4 C5 C6 C7 C8 C9' C10 C11 C12 hN
      generalize okTm x = N at *
      go_wp2_with fail
      go_meet
      case rel => exact ⟨by rw [e1.out], hB⟩
  case rest =>
    obtain ⟨rfl, hB⟩ := hcut
    generalize wc = W2 at *
    obtain ⟨⟨x0, x1, x2⟩, -⟩ := HX.out _ hB.out
    generalize okTm x = N1 at *
    generalize termB x = E1 at *
    go_wp2_with fail
    refine (C2 _).mono ?_
    rintro e W3 ⟨rfl, hb3⟩
    have hB : Hid (RowKit.Below B0.heap.size B0 W3) := bstep hB.out hb3
    clear hb3 C2 x0 x1 x2
    go_wp2_with fail
    refine (SameError_any N1 N1 _ (HA.out _ hB.out).2.2.2.1).mono ?_
    rintro e W4 ⟨rfl, hb4⟩
    have hB : Hid (RowKit.Below B0.heap.size B0 W4) := bstep hB.out hb4
    clear hb4
    rw [beq_self_eq_true]
    go_wp2_with fail
    refine (C3 _ (HA.out _ hB.out).1).mono ?_
    rintro e W5 ⟨rfl, hb5⟩
    have hB : Hid (RowKit.Below B0.heap.size B0 W5) := bstep hB.out hb5
    clear hb5 C3
    go_upto_if 52 with fail
    go_cut [10] (fun v W => v = .string ⟨(setB l).toArray⟩ ∧ Hid (RowKit.Below B0.heap.size B0 W))
    case first =>
      by_cases hN : sortedN l = 0
      · have HR := fun W hW => RSetBytes_any ad ca l W hW (sortedN_set.1 hN)
        rw [show encS l = setB l from (if_pos hN).symm] at HR
        have hN' : (sortedN l == 0) = true := by simpa using hN
        clear C4 C5 C6 C7 C8 C9' C10 C11 C12 hN
        generalize sortedN l = N at *
        generalize setB l = E at *
        go_wp2_with fail
        refine (HR _ (HA.out _ hB.out).1).mono ?_
        rintro e W6 ⟨rfl, hb6⟩
        have hB : Hid (RowKit.Below B0.heap.size B0 W6) := bstep hB.out hb6
        clear hb6
        go_wp2_with fail
        go_meet
        case rel => exact ⟨rfl, hB⟩
      · have e1 : Hid (setB l = []) := if_neg hN
        have hN' : (sortedN l == 0) = false := by simpa using hN
        clear C4 C5 C6 C7 C8 C9' C10 C11 C12 hN
        generalize sortedN l = N at *
        go_wp2_with fail
        go_meet
        case rel => exact ⟨by rw [e1.out], hB⟩
    case rest =>
      obtain ⟨rfl, hB⟩ := hcut
      generalize wc = W6 at *
      generalize sortedN l = N2 at *
      generalize setB l = E2 at *
      go_wp2_with fail
      refine (C4 _ (HA.out _ hB.out).1).mono ?_
      rintro e W7 ⟨rfl, hb7⟩
      have hB : Hid (RowKit.Below B0.heap.size B0 W7) := bstep hB.out hb7
      clear hb7 C4
      go_wp2_with fail
      refine (SameError_any N2 N2 _ (HA.out _ hB.out).2.2.2.1).mono ?_
      rintro e W8 ⟨rfl, hb8⟩
      have hB : Hid (RowKit.Below B0.heap.size B0 W8) := bstep hB.out hb8
      clear hb8
      rw [beq_self_eq_true]
      obtain ⟨-, x0, x1⟩ := HX.out _ hB.out
      go_wp2_with fail
      refine (C5 _ (HA.out _ hB.out).2.1 (HA.out _ hB.out).2.2.1).mono ?_
      rintro e W9 ⟨rfl, hb9⟩
      have hB : Hid (RowKit.Below B0.heap.size B0 W9) := bstep hB.out hb9
      clear hb9 C5 x0 x1
      go_upto_if 72 with fail
      go_cut [10, 15, 16] (fun v _ _ W => v = .string ⟨(layB m1 m2).toArray⟩ ∧ Hid (RowKit.Below B0.heap.size B0 W))
      case first =>
        by_cases hN : apartN m1 m2 = 0
        · obtain ⟨s1, s2⟩ := apart_sets hN
          have HR1 := fun W hW => RSetBytes_any a1 c1 m1 W hW s1
          have HR2 := fun W hW => RSetBytes_any a2 c2 m2 W hW s2
          have el : Hid (layB m1 m2 = encS m1 ++ encS m2) := if_pos hN
          have ea := appX (encS m1) (encS m2)
          have hF1 := encS_len s1
          have hF2 := encS_len s2
          have hN' : (apartN m1 m2 == 0) = true := by simpa using hN
          obtain ⟨-, x0, x1⟩ := HX.out _ hB.out
          clear C6 C7 C8 C9' C10 C11 C12 hN s1 s2
          generalize apartN m1 m2 = N at *
          generalize layB m1 m2 = E at *
          generalize encS m1 = F1 at *
          generalize encS m2 = F2 at *
          go_wp2_with fail
          refine (HR1 _ (HA.out _ hB.out).2.1).mono ?_
          rintro e W10 ⟨rfl, hb10⟩
          have hB : Hid (RowKit.Below B0.heap.size B0 W10) := bstep hB.out hb10
          clear hb10 x0 x1
          obtain ⟨-, x0, x1⟩ := HX.out _ hB.out
          go_wp2_with fail
          refine (HR2 _ (HA.out _ hB.out).2.2.1).mono ?_
          rintro e W11 ⟨rfl, hb11⟩
          have hB : Hid (RowKit.Below B0.heap.size B0 W11) := bstep hB.out hb11
          clear hb11 x0 x1
          go_wp2_with fail
          go_meet
          case rel => exact ⟨by rw [el.out], hB⟩
        · have e1 : Hid (layB m1 m2 = []) := if_neg hN
          have hN' : (apartN m1 m2 == 0) = false := by simpa using hN
          clear C6 C7 C8 C9' C10 C11 C12 hN
          generalize apartN m1 m2 = N at *
          go_wp2_with fail
          go_meet
          case rel => exact ⟨by rw [e1.out], hB⟩
      case rest =>
        obtain ⟨rfl, hB⟩ := hcut
        generalize wc = W10 at *
        generalize apartN m1 m2 = N3 at *
        generalize layB m1 m2 = E3 at *
        obtain ⟨-, x0, x1⟩ := HX.out _ hB.out
        go_wp2_with fail
        refine (C6 _ (HA.out _ hB.out).2.1 (HA.out _ hB.out).2.2.1).mono ?_
        rintro e W11 ⟨rfl, hb11⟩
        have hB : Hid (RowKit.Below B0.heap.size B0 W11) := bstep hB.out hb11
        clear hb11 C6 x0 x1
        go_wp2_with fail
        refine (SameError_any N3 N3 _ (HA.out _ hB.out).2.2.2.1).mono ?_
        rintro e W12 ⟨rfl, hb12⟩
        have hB : Hid (RowKit.Below B0.heap.size B0 W12) := bstep hB.out hb12
        clear hb12
        rw [beq_self_eq_true]
        have ls := len_readSet b
        obtain ⟨la, ld⟩ := len_readLay b
        have HQ := fun W p k p' k' q1 q2 => SameTriples_any p p' k k' (readSetL b) (readSetL b) W q1 q2 ls ls
        have HP := fun W p1 k1 p2 k2 p3 k3 p4 k4 q1 q2 q3 q4 => SameLayer_any p1 p2 p3 p4 k1 k2 k3 k4 (readLayA b) (readLayD b) (readLayA b) (readLayD b) W q1 q2 q3 q4 la ld la ld
        rw [show decide (readSetL b = readSetL b) = true by simp] at HQ
        rw [show (decide (readLayA b = readLayA b) && decide (readLayD b = readLayD b)) = true by simp] at HP
        clear ls la ld
        generalize readTermX b = X at *
        generalize readTermN b = N4 at *
        generalize readSetL b = L at *
        generalize readSetN b = N5 at *
        generalize readLayA b = A at *
        generalize readLayD b = D at *
        generalize readLayN b = N6 at *
        go_wp2_with fail
        refine (C7 _).mono ?_
        rintro e W13 ⟨rfl, hb13⟩
        have hb13' := bstep hb13 (balloc W13 (.cells #[.int .i64 X.1, .string ⟨X.2.1.toArray⟩, .string ⟨X.2.2.toArray⟩] 43))
        have hB : Hid (RowKit.Below B0.heap.size B0 (W13.alloc (.cells #[.int .i64 X.1, .string ⟨X.2.1.toArray⟩, .string ⟨X.2.2.toArray⟩] 43))) := bstep hB.out hb13'
        have hU : Hid (XB (W13.alloc (.cells #[.int .i64 X.1, .string ⟨X.2.1.toArray⟩, .string ⟨X.2.2.toArray⟩] 43)) W13.heap.size X) := XB.new W13 X
        clear hb13 hb13' C7
        go_wp2_with fail
        refine (C8 _).mono ?_
        rintro e W14 ⟨hb14, rfl⟩
        have hb14' := bstep hb14 (balloc W14 (.cells #[.int .i64 X.1, .string ⟨X.2.1.toArray⟩, .string ⟨X.2.2.toArray⟩] 43))
        have hB : Hid (RowKit.Below B0.heap.size B0 (W14.alloc (.cells #[.int .i64 X.1, .string ⟨X.2.1.toArray⟩, .string ⟨X.2.2.toArray⟩] 43))) := bstep hB.out hb14'
        have hU : Hid (XB (W14.alloc (.cells #[.int .i64 X.1, .string ⟨X.2.1.toArray⟩, .string ⟨X.2.2.toArray⟩] 43)) W13.heap.size X) := hU.out.below hb14'
        have hV : Hid (XB (W14.alloc (.cells #[.int .i64 X.1, .string ⟨X.2.1.toArray⟩, .string ⟨X.2.2.toArray⟩] 43)) W14.heap.size X) := XB.new W14 X
        clear hb14 hb14' C8
        go_wp2_with fail
        refine (SameError_any N4 N4 _ (HA.out _ hB.out).2.2.2.1).mono ?_
        rintro e W15 ⟨rfl, hb15⟩
        have hB : Hid (RowKit.Below B0.heap.size B0 W15) := bstep hB.out hb15
        have hU : Hid (XB W15 W13.heap.size X) := hU.out.below hb15
        have hV : Hid (XB W15 W14.heap.size X) := hV.out.below hb15
        clear hb15
        rw [beq_self_eq_true]
        go_wp2_with fail
        refine (C9' _).mono ?_
        rintro e W16 ⟨hb16, d1, j1, rfl, hs1⟩
        have hB : Hid (RowKit.Below B0.heap.size B0 W16) := bstep hB.out hb16
        have hU : Hid (XB W16 W13.heap.size X) := hU.out.below hb16
        have hV : Hid (XB W16 W14.heap.size X) := hV.out.below hb16
        have hS1 : Hid (SlT W16 d1 L) := hs1
        clear hb16 C9' hs1
        go_wp2_with fail
        refine (C10 _).mono ?_
        rintro e W17 ⟨hb17, d2, j2, rfl, hs2⟩
        have hB : Hid (RowKit.Below B0.heap.size B0 W17) := bstep hB.out hb17
        have hU : Hid (XB W17 W13.heap.size X) := hU.out.below hb17
        have hV : Hid (XB W17 W14.heap.size X) := hV.out.below hb17
        have hS : Hid (SlT W17 d1 L ∧ SlT W17 d2 L) := ⟨hS1.out.below hb17, hs2⟩
        clear hb17 C10 hs2 hS1
        go_wp2_with fail
        refine (SameError_any N5 N5 _ (HA.out _ hB.out).2.2.2.1).mono ?_
        rintro e W18 ⟨rfl, hb18⟩
        have hB : Hid (RowKit.Below B0.heap.size B0 W18) := bstep hB.out hb18
        have hU : Hid (XB W18 W13.heap.size X) := hU.out.below hb18
        have hV : Hid (XB W18 W14.heap.size X) := hV.out.below hb18
        have hS : Hid (SlT W18 d1 L ∧ SlT W18 d2 L) := ⟨hS.out.1.below hb18, hS.out.2.below hb18⟩
        clear hb18
        rw [beq_self_eq_true]
        go_wp2_with fail
        refine (C11 _).mono ?_
        rintro e W19 ⟨hb19, p1, e1, p2, e2, rfl, hp1, hp2⟩
        have hb19' := bstep hb19 (balloc W19 (.cells #[.slice p1 A.length e1, .slice p2 D.length e2] 31))
        have hB : Hid (RowKit.Below B0.heap.size B0 (W19.alloc (.cells #[.slice p1 A.length e1, .slice p2 D.length e2] 31))) := bstep hB.out hb19'
        have hU : Hid (XB (W19.alloc (.cells #[.slice p1 A.length e1, .slice p2 D.length e2] 31)) W13.heap.size X) := hU.out.below hb19'
        have hV : Hid (XB (W19.alloc (.cells #[.slice p1 A.length e1, .slice p2 D.length e2] 31)) W14.heap.size X) := hV.out.below hb19'
        have hS : Hid (SlT (W19.alloc (.cells #[.slice p1 A.length e1, .slice p2 D.length e2] 31)) d1 L ∧ SlT (W19.alloc (.cells #[.slice p1 A.length e1, .slice p2 D.length e2] 31)) d2 L) := ⟨hS.out.1.below hb19', hS.out.2.below hb19'⟩
        have hP : Hid (SlT (W19.alloc (.cells #[.slice p1 A.length e1, .slice p2 D.length e2] 31)) p1 A ∧ SlT (W19.alloc (.cells #[.slice p1 A.length e1, .slice p2 D.length e2] 31)) p2 D) := ⟨hp1.below (balloc _ _), hp2.below (balloc _ _)⟩
        have hPX : Hid (XL (W19.alloc (.cells #[.slice p1 A.length e1, .slice p2 D.length e2] 31)) W19.heap.size (.slice p1 A.length e1) (.slice p2 D.length e2)) := XL.new _ _ _
        clear hb19 hb19' C11 hp1 hp2
        go_wp2_with fail
        refine (C12 _).mono ?_
        rintro e W20 ⟨hb20, p3, e3, p4, e4, rfl, hp3, hp4⟩
        have hb20' := bstep hb20 (balloc W20 (.cells #[.slice p3 A.length e3, .slice p4 D.length e4] 31))
        have hB : Hid (RowKit.Below B0.heap.size B0 (W20.alloc (.cells #[.slice p3 A.length e3, .slice p4 D.length e4] 31))) := bstep hB.out hb20'
        have hU : Hid (XB (W20.alloc (.cells #[.slice p3 A.length e3, .slice p4 D.length e4] 31)) W13.heap.size X) := hU.out.below hb20'
        have hV : Hid (XB (W20.alloc (.cells #[.slice p3 A.length e3, .slice p4 D.length e4] 31)) W14.heap.size X) := hV.out.below hb20'
        have hS : Hid (SlT (W20.alloc (.cells #[.slice p3 A.length e3, .slice p4 D.length e4] 31)) d1 L ∧ SlT (W20.alloc (.cells #[.slice p3 A.length e3, .slice p4 D.length e4] 31)) d2 L) := ⟨hS.out.1.below hb20', hS.out.2.below hb20'⟩
        have hP : Hid (SlT (W20.alloc (.cells #[.slice p3 A.length e3, .slice p4 D.length e4] 31)) p1 A ∧ SlT (W20.alloc (.cells #[.slice p3 A.length e3, .slice p4 D.length e4] 31)) p2 D) := ⟨hP.out.1.below hb20', hP.out.2.below hb20'⟩
        have hPX : Hid (XL (W20.alloc (.cells #[.slice p3 A.length e3, .slice p4 D.length e4] 31)) W19.heap.size (.slice p1 A.length e1) (.slice p2 D.length e2)) := hPX.out.below hb20'
        have hQ : Hid (SlT (W20.alloc (.cells #[.slice p3 A.length e3, .slice p4 D.length e4] 31)) p3 A ∧ SlT (W20.alloc (.cells #[.slice p3 A.length e3, .slice p4 D.length e4] 31)) p4 D) := ⟨hp3.below (balloc _ _), hp4.below (balloc _ _)⟩
        have hQX : Hid (XL (W20.alloc (.cells #[.slice p3 A.length e3, .slice p4 D.length e4] 31)) W20.heap.size (.slice p3 A.length e3) (.slice p4 D.length e4)) := XL.new _ _ _
        clear hb20 hb20' C12 hp3 hp4
        go_wp2_with fail
        refine (SameError_any N6 N6 _ (HA.out _ hB.out).2.2.2.1).mono ?_
        rintro e W21 ⟨rfl, hb21⟩
        have hB : Hid (RowKit.Below B0.heap.size B0 W21) := bstep hB.out hb21
        have hU : Hid (XB W21 W13.heap.size X) := hU.out.below hb21
        have hV : Hid (XB W21 W14.heap.size X) := hV.out.below hb21
        have hS : Hid (SlT W21 d1 L ∧ SlT W21 d2 L) := ⟨hS.out.1.below hb21, hS.out.2.below hb21⟩
        have hP : Hid (SlT W21 p1 A ∧ SlT W21 p2 D) := ⟨hP.out.1.below hb21, hP.out.2.below hb21⟩
        have hPX : Hid (XL W21 W19.heap.size (.slice p1 A.length e1) (.slice p2 D.length e2)) := hPX.out.below hb21
        have hQ : Hid (SlT W21 p3 A ∧ SlT W21 p4 D) := ⟨hQ.out.1.below hb21, hQ.out.2.below hb21⟩
        have hQX : Hid (XL W21 W20.heap.size (.slice p3 A.length e3) (.slice p4 D.length e4)) := hQX.out.below hb21
        clear hb21
        rw [beq_self_eq_true]
        go_wp2_with fail
        refine (HQ _ d2 j2 d1 j1 hS.out.2 hS.out.1).mono ?_
        rintro e W22 ⟨rfl, hb22⟩
        have hB : Hid (RowKit.Below B0.heap.size B0 W22) := bstep hB.out hb22
        have hU : Hid (XB W22 W13.heap.size X) := hU.out.below hb22
        have hV : Hid (XB W22 W14.heap.size X) := hV.out.below hb22
        have hP : Hid (SlT W22 p1 A ∧ SlT W22 p2 D) := ⟨hP.out.1.below hb22, hP.out.2.below hb22⟩
        obtain ⟨y0, y1⟩ := hPX.out.below hb22
        have hQ : Hid (SlT W22 p3 A ∧ SlT W22 p4 D) := ⟨hQ.out.1.below hb22, hQ.out.2.below hb22⟩
        obtain ⟨t0, t1⟩ := hQX.out.below hb22
        clear hb22 HQ hS hPX hQX
        go_wp2_with fail
        refine (HP _ p3 e3 p4 e4 p1 e1 p2 e2 hQ.out.1 hQ.out.2 hP.out.1 hP.out.2).mono ?_
        rintro e W23 ⟨rfl, hb23⟩
        have hB : Hid (RowKit.Below B0.heap.size B0 W23) := bstep hB.out hb23
        obtain ⟨u0, u1, u2⟩ := hU.out.below hb23
        obtain ⟨v0, v1, v2⟩ := hV.out.below hb23
        clear hb23 HP hP hQ y0 y1 t0 t1
        go_wp2_with fail
        go_ret
        exact ⟨rfl, (HA.out _ hB.out).2.2.2.2⟩
end Go.Proofs.YtonmmnhikjfibadGreatDoor
