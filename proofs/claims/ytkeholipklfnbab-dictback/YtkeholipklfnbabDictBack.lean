/- stratalaw1.DictBack: the walk. -/
import Derived.Test.YtkeholipklfnbabDictIds
import Derived.Deep.DeepCutAuto
import Derived.Deep.CutBlock
namespace Go.Proofs.Ytkeholipklfnbab
open Go Go.RowKit Go.Proofs Go.Maps
set_option synthInstance.maxSize 1000

attribute [local go_sem] eql_errV neq_errV guard_errV
attribute [local go_sem ↓] neqTriple

/-- what there is between the law's loops -/
def BackSt (w : World) (n0 : Nat) (l : List Tr) (W : World) : Prop :=
  ∃ (L : List Tm) (I : Nat → I3), DictAt W n0 L ∧ GoodL L ∧ IdsAt W (n0 + 3) l.length I ∧ IdsOK L I l ∧ RowKit.Below w.heap.size w W

def tA : Tm := (1, [97], [])
def tB : Tm := (3, [97], [])
theorem oneA (n0 : Nat) (w : World) (h : DictAt w n0 []) : Calls Try.prog 11 #[.pointer (some ⟨n0 + 2, 0, none⟩), .agg #[.int .i64 1, .string ⟨#[97]⟩, .string ⟨#[]⟩]] w fun e w' => e = .returned (.tuple #[.int .i64 1, .nilIface]) ∧ DictAt w' n0 [tA] ∧ Turned n0 w w' := by
  have := Add_any n0 [] tA w h (by simp) ⟨by decide, by decide⟩
  rw [show newN [] tA = 1 by decide, show addE [] tA = 0 by decide, show newL [] tA = [tA] by decide] at this
  exact this
theorem oneB (n0 : Nat) (w : World) (h : DictAt w n0 [tA]) : Calls Try.prog 11 #[.pointer (some ⟨n0 + 2, 0, none⟩), .agg #[.int .i64 3, .string ⟨#[97]⟩, .string ⟨#[]⟩]] w fun e w' => e = .returned (.tuple #[.int .i64 2, .nilIface]) ∧ DictAt w' n0 [tA, tB] ∧ Turned n0 w w' := by
  have := Add_any n0 [tA] tB w h (by simp) ⟨by decide, by decide⟩
  rw [show newN [tA] tB = 2 by decide, show addE [tA] tB = 0 by decide, show newL [tA] tB = [tA, tB] by decide] at this
  exact this

theorem makeIdsRow (n : Nat) (w : World) (h : n * 24 ≤ 281474976710656) : (Instr.makeSlice 40 (.int .i64 (n : Int)) (.int .i64 (n : Int))).run Try.prog w = .ok (.slice (some ⟨w.heap.size, 0, none⟩) n n) (w.alloc (.cells (madeCells #[.int .i64 0, .int .i64 0, .int .i64 0] (n * 3)) 41)) := by
  have hi : (Try.prog.info? 41).map (fun i => (i.zero, i.size, i.bytes)) = some (some (.agg #[.int .i64 0, .int .i64 0, .int .i64 0]), 3, 24) := by kernel_rfl
  obtain ⟨i, hi, h1, h2, h3⟩ := info_parts hi
  have := run_make (P := Try.prog) w 40 41 i _ Try.underlying40 hi h1 .i64 .i64 (n : Int) (n : Int) (by omega) (Int.le_refl _) (by rw [h3]; omega) (by omega)
  rw [h2] at this
  simpa [Value.cells] using this

theorem DictAt.three {n0 b o : Nat} {W : World} {L : List Tm} (h : DictAt W n0 L) (hb : n0 + 3 ≤ b) (u v z : Value) : DictAt (((W.setCell ⟨b, o, none⟩ u).setCell ⟨b, o + 1, none⟩ v).setCell ⟨b, o + 2, none⟩ z) n0 L :=
  ((h.put (p := ⟨b, o, none⟩) u hb).put (p := ⟨b, o + 1, none⟩) v hb).put (p := ⟨b, o + 2, none⟩) z hb

set_option maxHeartbeats 8000000 in
set_option maxRecDepth 100000 in
theorem back_any (ad bd : Option Addr) (ca cb : Nat) (l : List Tr) (ms : List Tm) (w : World) (hl : SlT w ad l) (hm : SlM w bd ms) (fl : ∀ x ∈ l, fitTr x) (fm : ∀ x ∈ ms, fitTm x) (nl : l.length * 24 ≤ 281474976710656) (nm : ms.length ≤ 9223372036854775807) :
    Calls Try.prog 4 #[.slice ad l.length ca, .slice bd ms.length cb] w fun e w' => e = .returned (.bool true) ∧ RowKit.Below w.heap.size w w' := by
  have Hl : Hid (SlT w ad l) := hl
  have Hm : Hid (SlM w bd ms) := hm
  have Fl : Hid (∀ x ∈ l, fitTr x) := fl
  have Fm : Hid (∀ x ∈ ms, fitTm x) := fm
  have hmk := fun W => makeIdsRow l.length W nl
  clear hl hm fl fm
  go_enter Try.func4, Try.ntmps4
  go_wp2_with fail
  refine (New_any _).mono ?_
  rintro e w1 ⟨rfl, hD1, hz1, hb1⟩
  have HD1 := hide hD1
  clear hD1
  go_wp2_with fail
  refine (oneA _ _ HD1.out).mono ?_
  rintro e w2 ⟨rfl, hD2, hT2⟩
  have HD2 := hide hD2
  clear hD2
  go_wp2_with fail
  refine (oneB _ _ HD2.out).mono ?_
  rintro e w3 ⟨rfl, hD3, hT3⟩
  have hB3 := (hb1.trans hT2.low).trans hT3.low
  clear hD3 HD2 HD1 hT2 hT3 hb1 hz1
  go_wp2_with fail
  refine (New_any _).mono ?_
  rintro e w4 ⟨rfl, hD4, hz4, hb4⟩
  have HD4 := hide hD4
  have hB4 := bstep hB3 hb4
  have hn0 := hB3.size
  clear hD4
  generalize w3.heap.size = n0 at *
  have H0 : Hid (BackSt w n0 l (w4.alloc (.cells (madeCells #[.int .i64 0, .int .i64 0, .int .i64 0] (l.length * 3)) 41))) := by
    refine ⟨[], fun _ => (0, 0, 0), HD4.out.below (balloc _ _), goodL_nil, ?_, idsOK_start _ _, bstep hB4 (balloc _ _)⟩
    have := ids_made w4 l.length
    rwa [hz4] at this
  clear HD4 hB3 hb4 hB4
  go_upto_block 0 with fail
  go_cut [12] (fun _ W => Hid (BackSt w n0 l W))
  case first =>
    go_wp2_with fail
    go_loopw [12] (fun i W => ∃ k : Nat, k ≤ l.length ∧ k ≤ 100 ∧ i = .int .i64 k ∧ Hid (BackSt w n0 l W)) (fun i W => 100 - (intOf i).toNat)
    case atStart => exact ⟨0, Nat.zero_le _, by omega, rfl, H0⟩
    case round =>
      obtain ⟨k, hk, hk2, rfl, hst⟩ := hrel
      by_cases h1 : k < l.length
      · by_cases h2 : k < 100
        · obtain ⟨L, I, hD, hG, hI, hO, hb⟩ := hst.out
          obtain ⟨b, o, rfl, hr⟩ := (Hl.out.below hb).at k h1
          obtain ⟨c0, c1, c2, c3, c4, c5, c6, c7, c8⟩ := hr.at k h1
          have i0 : (0 : Int) ≤ (k : Int) := by omega
          have i1 : (k : Int) < (l.length : Int) := by omega
          have i2 : (k : Int) < 100 := by omega
          have HP := Pack_any n0 L l[k] wr hD hG.2.2 (Fl.out _ (List.getElem_mem h1))
          have hG2 := hide (hG.pack l[k])
          have hI1 := hide hI
          have hO2 := hide (hO.prefix (packL_prefix L l[k]))
          have hO3 := hide (hO.pack k h1)
          clear hD hG hI hO hr hst
          unfold valI at HP
          cases he : (packE L l[k] == 0)
          · clear hO3
            generalize packL L l[k] = L2 at *
            generalize packI L l[k] = q at *
            generalize packE L l[k] = m at *
            generalize l[k] = y at *
            unfold valTr at HP
            go_wp2_with fail
            refine HP.mono ?_
            rintro e w5 ⟨rfl, hD5, hT5⟩
            have hD6 := hide hD5
            have hI6 := hide (hI1.out.turned hT5 (Nat.le_refl _))
            have hb6 := hb.trans (hT5.low.mono hn0)
            clear hD5 hT5 HP hI1
            go_wp2_with fail
            go_roundw
            case rel => exact ⟨k + 1, by omega, by omega, by go_num, L2, I, hD6.out.below (balloc _ _), hG2.out, hI6.out.below (balloc _ _), hO2.out, bstep hb6 (balloc _ _)⟩
            case measure => simp [intOf]; omega
          · have hO4 := hide (hO3.out (by simpa using he))
            clear hO3
            generalize packL L l[k] = L2 at *
            generalize packI L l[k] = q at *
            generalize packE L l[k] = m at *
            generalize l[k] = y at *
            unfold valTr at HP
            go_wp2_with fail
            refine HP.mono ?_
            rintro e w5 ⟨rfl, hD5, hT5⟩
            have hD6 := hide hD5
            have hI6 := hide (hI1.out.turned hT5 (Nat.le_refl _))
            have hb6 := hb.trans (hT5.low.mono hn0)
            obtain ⟨a0, a1, a2, f0, f1, f2⟩ := hI6.out.at k h1
            have hz6 := hI6.out.lt
            clear hD5 hT5 HP hI1 hO2
            go_wp2_with fail
            go_roundw
            case rel => exact ⟨k + 1, by omega, by omega, by go_num, L2, _, (hD6.out.three (b := n0 + 3) (o := k * 3) (Nat.le_refl _) _ _ _).below (balloc _ _), hG2.out, (hI6.out.set k h1 q).below (balloc _ _), hO4.out, bstep (below_three (o := k * 3) hb6 (by omega) _ _ _) (balloc _ _)⟩
            case measure => simp [intOf]; omega
        · obtain rfl : k = 100 := by omega
          have i1 : ((100 : Nat) : Int) < (l.length : Int) := by omega
          go_wp2_with fail
          go_meet
          case rel => exact hst
      · obtain rfl : k = l.length := by omega
        go_wp2_with fail
        go_meet
        case rel => exact hst
  case rest =>
    clear H0
    have H0 := hcut
    clear hcut
    go_upto_block 2 with fail
    go_cut [15] (fun _ W => Hid (BackSt w n0 l W))
    case first =>
      go_wp2_with fail
      go_loopw [15] (fun i W => ∃ k : Nat, k ≤ ms.length ∧ k ≤ 100 ∧ i = .int .i64 k ∧ Hid (BackSt w n0 l W)) (fun i W => 100 - (intOf i).toNat)
      case atStart => exact ⟨0, Nat.zero_le _, by omega, rfl, H0⟩
      case round =>
        obtain ⟨k, hk, hk2, rfl, hst⟩ := hrel
        by_cases h1 : k < ms.length
        · by_cases h2 : k < 100
          · obtain ⟨L, I, hD, hG, hI, hO, hb⟩ := hst.out
            obtain ⟨b, o, rfl, hr⟩ := (Hm.out.below hb).at k h1
            obtain ⟨c0, c1, c2⟩ := hr.at k h1
            have i0 : (0 : Int) ≤ (k : Int) := by omega
            have i1 : (k : Int) < (ms.length : Int) := by omega
            have i2 : (k : Int) < 100 := by omega
            have HP := Add_any n0 L ms[k] wr hD (by have := hG.2.2; omega) (Fm.out _ (List.getElem_mem h1))
            have hG2 := hide (hG.new ms[k])
            have hI1 := hide hI
            have hO2 := hide (hO.prefix (newL_prefix L ms[k]))
            clear hD hG hI hO hr hst
            generalize newL L ms[k] = L2 at *
            generalize newN L ms[k] = q at *
            generalize addE L ms[k] = m at *
            generalize ms[k] = y at *
            unfold valTm at HP
            go_wp2_with fail
            refine HP.mono ?_
            rintro e w5 ⟨rfl, hD5, hT5⟩
            have hD6 := hide hD5
            have hI6 := hide (hI1.out.turned hT5 (Nat.le_refl _))
            have hb6 := hb.trans (hT5.low.mono hn0)
            clear hD5 hT5 HP hI1
            go_wp2_with fail
            go_roundw
            case rel => exact ⟨k + 1, by omega, by omega, by go_num, L2, I, hD6.out, hG2.out, hI6.out, hO2.out, hb6⟩
            case measure => simp [intOf]; omega
          · obtain rfl : k = 100 := by omega
            have i1 : ((100 : Nat) : Int) < (ms.length : Int) := by omega
            go_wp2_with fail
            go_meet
            case rel => exact hst
        · obtain rfl : k = ms.length := by omega
          go_wp2_with fail
          go_meet
          case rel => exact hst
    case rest =>
      clear H0
      obtain ⟨L, I, hD, hG, hI, hO, hb⟩ := hcut.out
      have HG := hide hG
      have HO := hide hO
      have H0 := hide (show DictAt wc n0 L ∧ IdsAt wc (n0 + 3) l.length I ∧ RowKit.Below w.heap.size w wc from ⟨hD, hI, hb⟩)
      have hL := hG.2.2
      clear hcut hD hG hI hO hb
      go_upto_block 4 with fail
      go_cut [16] (fun _ W => Hid (DictAt W n0 L ∧ IdsAt W (n0 + 3) l.length I ∧ RowKit.Below w.heap.size w W))
      case first =>
        go_wp2_with fail
        go_loopw [16] (fun i W => ∃ k : Nat, k ≤ l.length ∧ k ≤ 100 ∧ i = .int .i64 k ∧ Hid (DictAt W n0 L ∧ IdsAt W (n0 + 3) l.length I ∧ RowKit.Below w.heap.size w W)) (fun i W => 100 - (intOf i).toNat)
        case atStart => exact ⟨0, Nat.zero_le _, by omega, rfl, H0⟩
        case round =>
          obtain ⟨k, hk, hk2, rfl, hst⟩ := hrel
          by_cases h1 : k < l.length
          · by_cases h2 : k < 100
            · obtain ⟨hD, hI, hb⟩ := hst.out
              have i0 : (0 : Int) ≤ (k : Int) := by omega
              have i1 : (k : Int) < (l.length : Int) := by omega
              have i2 : (k : Int) < 100 := by omega
              obtain ⟨a0, a1, a2, f0, f1, f2⟩ := hI.at k h1
              cases hz : ((I k).1 == 0)
              · obtain ⟨eE, eT⟩ := ids_open HO.out k h1 (by simpa using hz)
                have HP := Open_any n0 L (I k) wr hD HG.out.2.1 (ids_wf (by omega) HO.out k h1)
                rw [eE, eT, show errV 0 = .nilIface from rfl] at HP
                obtain ⟨b, o, rfl, hr⟩ := (Hl.out.below hb).at k h1
                have hr2 := hide hr
                have hst2 := hst
                clear eE eT hD hI hst hr
                have hy := hide (show ∀ W, RowR W b o l → _ from fun W h => h.at k h1)
                generalize l[k] = y at *
                generalize I k = q at *
                unfold valTr at HP
                unfold valI at HP
                go_wp2_with fail
                refine HP.mono ?_
                rintro e w5 ⟨rfl, hb5⟩
                obtain ⟨c0, c1, c2, c3, c4, c5, c6, c7, c8⟩ := hy.out _ (hr2.out.below hb5)
                have hb6 := hide (show DictAt w5 n0 L ∧ IdsAt w5 (n0 + 3) l.length I ∧ RowKit.Below w.heap.size w w5 from ⟨hst2.out.1.below hb5, hst2.out.2.1.below hb5, bstep hb hb5⟩)
                clear hb5 HP hy hr2 hst2 a0 a1 a2 f0 f1 f2 hb
                have hzb := World.block_lt_of_cell? w5 _ c0
                go_wp2_with fail
                go_region
                go_wp2_with fail
                go_roundw
                case rel => exact ⟨k + 1, by omega, by omega, by go_num, hb6.out.1.below (balloc _ _).drew, hb6.out.2.1.below (balloc _ _).drew, (bstep hb6.out.2.2 (balloc _ _)).drew⟩
                case measure => simp [intOf]; omega
              · go_wp2_with fail
                go_roundw
                case rel => exact ⟨k + 1, by omega, by omega, by go_num, hst⟩
                case measure => simp [intOf]; omega
            · obtain rfl : k = 100 := by omega
              have i1 : ((100 : Nat) : Int) < (l.length : Int) := by omega
              go_wp2_with fail
              go_meet
              case rel => exact hst
          · obtain rfl : k = l.length := by omega
            go_wp2_with fail
            go_meet
            case rel => exact hst
      case rest =>
        clear H0
        have H0 := hide (show DictAt wc n0 L ∧ RowKit.Below w.heap.size w wc from ⟨hcut.out.1, hcut.out.2.2⟩)
        clear hcut
        go_wp2_with fail
        go_loopw [19] (fun i W => ∃ k : Nat, k ≤ L.length ∧ i = .int .i64 ((k : Int) + 1) ∧ Hid (DictAt W n0 L ∧ RowKit.Below w.heap.size w W)) (fun i W => L.length + 1 - (intOf i).toNat)
        case atStart => exact ⟨0, Nat.zero_le _, rfl, H0⟩
        case round =>
          obtain ⟨k, hk, rfl, hst⟩ := hrel
          have HL := Len_any n0 L wr hst.out.1
          by_cases h1 : k < L.length
          · have i1 : (k : Int) + 1 ≤ (L.length : Int) := by omega
            have HT := Term_any n0 L ((k : Int) + 1) wr hst.out.1 (wf64 (by omega) (by omega))
            have HI := fun W hW => Id_any n0 L L[k] W hW (wf_chk (HG.out.2.1 _ (List.getElem_mem h1)))
            rw [atN_at h1, show atE L ((k : Int) + 1) = 0 from atE_zero.2 (by omega), show errV 0 = .nilIface from rfl] at HT
            rw [id_at HG.out.1 h1, show idE L L[k] = 0 from if_pos (List.getElem_mem h1), show errV 0 = .nilIface from rfl, show ((k + 1 : Nat) : Int) = (k : Int) + 1 by omega] at HI
            generalize L[k] = y at *
            unfold valTm at HT HI
            go_wp2_with fail
            refine HL.mono ?_
            rintro e w5 ⟨rfl, rfl⟩
            go_wp2_with fail
            refine HT.mono ?_
            rintro e w6 ⟨rfl, hb6⟩
            have h6 := hide (show DictAt (w6.alloc (.cells #[.int .i64 y.1, .string ⟨y.2.1.toArray⟩, .string ⟨y.2.2.toArray⟩] 24)) n0 L ∧ RowKit.Below w.heap.size w (w6.alloc (.cells #[.int .i64 y.1, .string ⟨y.2.1.toArray⟩, .string ⟨y.2.2.toArray⟩] 24)) from ⟨(hst.out.1.below hb6).below (balloc _ _), bstep (bstep hst.out.2 hb6) (balloc _ _)⟩)
            clear HL HT hst hb6
            go_wp2_with fail
            refine (HI _ h6.out.1).mono ?_
            rintro e w7 ⟨rfl, hb7⟩
            have h7 := hide (show DictAt w7 n0 L ∧ RowKit.Below w.heap.size w w7 from ⟨h6.out.1.below hb7, bstep h6.out.2 hb7⟩)
            clear HI h6 hb7
            go_wp2_with fail
            go_roundw
            case rel => exact ⟨k + 1, by omega, by go_num, h7⟩
            case measure => simp [intOf]; omega
          · obtain rfl : k = L.length := by omega
            go_wp2_with fail
            refine HL.mono ?_
            rintro e w5 ⟨rfl, rfl⟩
            clear HL
            have HL := Len_any n0 L w5 hst.out.1
            go_wp2_with fail
            refine HL.mono ?_
            rintro e w6 ⟨rfl, rfl⟩
            have i3 : (L.length : Int) ≤ 300 := by omega
            go_wp2_with fail
            go_ret
            exact ⟨rfl, hst.out.2⟩
end Go.Proofs.Ytkeholipklfnbab
