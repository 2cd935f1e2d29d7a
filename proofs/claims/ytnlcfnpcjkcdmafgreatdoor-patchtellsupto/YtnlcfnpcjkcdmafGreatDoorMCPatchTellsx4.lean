import Derived.Test.YtnlcfnpcjkcdmafGreatDoorMCPatchTellsx3
import Derived.Test.YtnlcfnpcjkcdmafGreatDoorMA0x3
import Derived.Test.YtnlcfnpcjkcdmafGreatDoorMA0x5
import Derived.Deep.RegionHeld3
import Derived.Test.YtnlcfnpcjkcdmafGreatDoorMA0x0
import Derived.LaidEql
import Derived.Stop.Asserts
import Derived.RowKitTokens

/- The document's ReadPatch: a text as a layer. -/
namespace Go.Proofs.YtnlcfnpcjkcdmafGreatDoor
open Go Go.RowKit Go.Proofs
set_option synthInstance.maxSize 1000

set_option maxHeartbeats 16000000 in
set_option maxRecDepth 1000000 in
theorem RReadPatch_any (s : List UInt8) (w : World) (hl : s.length ≤ 100000000) :
    Calls Tryz.prog 32 #[.string ⟨s.toArray⟩] w (ReadPAns w s) := by
  obtain ⟨iT, hiT, hT⟩ := Option.map_eq_some_iff.1 infoTr
  simp only [Prod.mk.injEq] at hT
  obtain ⟨hT0, hT1, hT2⟩ := hT
  go_enter Tryz.func32, Tryz.ntmps32
  go_wp2_with fail
  go_loopw [6, 7] (fun vi vn wr => ∃ (i n : Nat) (l : LyP) (va vt : Value), vi = .int .i64 i ∧ vn = .int .i64 n ∧ Hid (AtP s i l n) ∧ Hid (PSt w wr va vt l)) (fun vi _ wr => s.length - (intOf vi).toNat)
  case atStart => exact ⟨0, 0, ([], []), _, _, rfl, rfl, atP_start s, PSt.start w⟩
  case round =>
    obtain ⟨i, n, l, va, vt, rfl, rfl, hA, hP⟩ := hrel
    obtain ⟨ad1, cp1, rfl, hs1⟩ := own_slT hP.out.add
    obtain ⟨ad2, cp2, rfl, hs2⟩ := own_slT hP.out.take
    have hSS := hideO (And.intro hs1 hs2)
    clear hs1 hs2
    obtain ⟨r0, r1, rf0, rf1, b0, b1, bf0, bf1⟩ := hP.out.cells
    have hz := hP.out.lt
    have hz0 : w.heap.size < wr.heap.size := by omega
    have hn1 : l.1.length ≤ 200 := hA.out.2.1.add.1
    have hn2 : l.2.length ≤ 200 := hA.out.2.1.take.1
    have hi : i ≤ s.length := hA.out.1
    have hni : n ≤ i := hA.out.2.2.1
    generalize hWr : wr = W at *
    clear hWr
    by_cases hlt : i < s.length
    · go_wp2_with fail
      go_loopw [8] (fun vj wr' => ∃ j : Nat, vj = .int .i64 j ∧ Hid (LineTo s i j) ∧ wr' = W) (fun vj wr' => s.length - (intOf vj).toNat)
      case atStart => exact ⟨i, rfl, line_start hi, rfl⟩
      case round =>
        obtain ⟨j, rfl, hL, hw⟩ := hrel
        subst hw
        have hij : i ≤ j := hL.out.1
        by_cases hj : j < s.length
        · have hidx : ∀ h, (⟨s.toArray⟩ : ByteArray)[j]'h = s[j] := fun _ => rfl
          by_cases h10 : s[j] = 10
          · have h10' : ((s[j]).toNat : Int) = 10 := by rw [h10]; rfl
            have hcut := line_cut hL.out hj h10
            have hne : ((j : Int) == (s.length : Int)) = false := by simp; omega
            by_cases h2 : i + 2 ≤ j
            · have hsub : ¬ ((j : Int) - (i : Int) < 2) := by omega
              -- MIDDLE
              have hu := line_two hL.out h2
              have hlen0 := line_len hL.out
              have hi0 : i < s.length := hlt
              have hi1 : i + 1 < s.length := by omega
              have hx := midP s i j
              have hb2 : (i : Int) + 2 ≤ (j : Int) := by omega
              have hbj : (j : Int) ≤ (s.length : Int) := by omega
              have hidx0 : ∀ h, (⟨s.toArray⟩ : ByteArray)[i]'h = s[i]'hi0 := fun _ => rfl
              have hidx1 : ∀ h, (⟨s.toArray⟩ : ByteArray)[i + 1]'h = s[i + 1]'hi1 := fun _ => rfl
              have hbi : (0 : Int) ≤ (i : Int) + 1 ∧ (i : Int) + 1 < (s.length : Int) := by omega
              have HRT := fun W => RReadT_any ((s.drop (i + 2)).take (j - (i + 2))) W (by rw [List.length_take, List.length_drop]; omega)
              obtain ⟨c, hcE⟩ : ∃ c, c = s[i]'hi0 := ⟨_, rfl⟩
              obtain ⟨d, hdE⟩ : ∃ d, d = s[i + 1]'hi1 := ⟨_, rfl⟩
              rw [← hcE, ← hdE] at hu
              rw [hu] at hcut hlen0
              generalize (s.drop (i + 2)).take (j - (i + 2)) = T at *
              have hlenu : i + (c :: d :: T).length + 1 = j + 1 := by omega
              clear hu
              by_cases hd : d = 32
              · have hd' : ((s[i + 1]'hi1).toNat : Int) = 32 := by rw [← hdE, hd]; rfl
                clear hdE
                by_cases hc : c = 43
                · have hc' : ((s[i]'hi0).toNat : Int) = 43 := by rw [← hcE, hc]; rfl
                  clear hcE
                  have hform : formP l (c :: d :: T) = some (false, T) := by rw [form_two, if_pos (by unfold formB; simp [hd, hc])]; simp [hc]
                  have hline0 := lineN_some hform
                  have hlay := lineL_some hform
                  go_wp2_with fail
                  refine (HRT _).mono ?_
                  rintro e w1 ⟨rfl, hb1⟩
                  dsimp only
                  have hP1 := hideO (hP.out.below hb1)
                  clear r0 r1 rf0 rf1 b0 b1 bf0 bf1 hz hz0 HRT
                  obtain ⟨r0, r1, rf0, rf1, b0, b1, bf0, bf1⟩ := hP1.out.cells
                  have hz := hP1.out.lt
                  have hz0 : w.heap.size < w1.heap.size := by omega
                  by_cases hN : tparseN T = 0
                  · have hline : lineN l (c :: d :: T) = tripP l false (tparseT T) := by rw [hline0, if_neg (fun h => h hN)]
                    rw [hN]
                    unfold valTr
                    generalize tparseT T = x at *
                    have X2 : Hid (TripB (w1.alloc (.cells #[.int .i64 x.1.1, .string ⟨x.1.2.1.toArray⟩, .string ⟨x.1.2.2.toArray⟩, .int .i64 x.2.1.1, .string ⟨x.2.1.2.1.toArray⟩, .string ⟨x.2.1.2.2.toArray⟩, .int .i64 x.2.2.1, .string ⟨x.2.2.2.1.toArray⟩, .string ⟨x.2.2.2.2.toArray⟩] 99)) w1.heap.size x) := TripB.new w1 x
                    have hP2 : Hid (PSt w (w1.alloc (.cells #[.int .i64 x.1.1, .string ⟨x.1.2.1.toArray⟩, .string ⟨x.1.2.2.toArray⟩, .int .i64 x.2.1.1, .string ⟨x.2.1.2.1.toArray⟩, .string ⟨x.2.1.2.2.toArray⟩, .int .i64 x.2.2.1, .string ⟨x.2.2.2.1.toArray⟩, .string ⟨x.2.2.2.2.toArray⟩] 99)) (.slice ad1 l.1.length cp1) (.slice ad2 l.2.length cp2) l) := hP1.out.below (balloc w1 _)
                    go_wp2_with fail
                    generalize w1.alloc (.cells #[.int .i64 x.1.1, .string ⟨x.1.2.1.toArray⟩, .string ⟨x.1.2.2.toArray⟩, .int .i64 x.2.1.1, .string ⟨x.2.1.2.1.toArray⟩, .string ⟨x.2.1.2.2.toArray⟩, .int .i64 x.2.2.1, .string ⟨x.2.2.2.1.toArray⟩, .string ⟨x.2.2.2.2.toArray⟩] 99) = W2 at *
                    generalize w1.heap.size = bt at *
                    obtain ⟨t0, t1, t2, t3, t4, t5, t6, t7, t8⟩ := X2.out.all
                    have zt := World.block_lt_of_cell? _ _ t0
                    have hSm := hideO (slT_of hP2.out.add)
                    clear r0 r1 rf0 rf1 b0 b1 bf0 bf1 hz hz0
                    go_cut [13, 114] from 102 to 113 (fun vk v W' => vk = .int .i64 (l.1.length : Int) ∧ v = .bool (stuckB l.1 x) ∧ Hid (RowKit.Below W2.heap.size W2 W'))
                    case first =>
                      by_cases hm : l.1 = []
                      · have HSK : Hid (stuckB l.1 x = false) := by show _ = _; rw [hm]; rfl
                        have hm0 : (l.1.length : Int) = 0 := by rw [hm]; rfl
                        rw [hm0]
                        have HM0 := hideO hm0
                        have hbd := hideO (RowKit.Below.refl W2.heap.size W2).drew
                        clear hm hSm hm0
                        go_region
                        go_wp2_with fail
                        go_meet
                        exact ⟨by rw [HM0.out], by rw [HSK.out], hbd⟩
                      · obtain ⟨p, hp⟩ : ∃ p, l.1.length = p + 1 := ⟨l.1.length - 1, by have := List.length_pos_iff.2 hm; omega⟩
                        have hpl : p < l.1.length := by omega
                        have hstk : stuckB l.1 x = decide (0 ≤ cmpTr l.1[p] x) := stuck_last hp hpl
                        obtain ⟨g, o, e1, hrow⟩ := hSm.out.at p hpl
                        obtain ⟨c0, c1, c2, c3, c4, c5, c6, c7, c8⟩ := hrow.at p hpl
                        subst e1
                        have HC := fun W => ROrder_any l.1[p] x W
                        unfold valTr at HC
                        have HSK := hideO hstk
                        have hwr1 : IntKind.i64.wrap (p : Int) = (p : Int) := by simp [IntKind.wrap, IntKind.bits, IntKind.signed]; omega
                        have hwr0 : IntKind.i64.wrap ((p : Int) + 1 - 1) = (p : Int) := by simp [IntKind.wrap, IntKind.bits, IntKind.signed]; omega
                        have i0 : (0 : Int) ≤ (p : Int) := by omega
                        have i1 : (p : Int) < (p : Int) + 1 := by omega
                        clear hstk hrow hSm hm
                        generalize l.1[p] = y at *
                        generalize cmpTr y x = z at *
                        generalize l.1.length = q at *
                        subst hp
                        go_region_held3 (fun W => W.cell? ⟨g, o + p * 9, none⟩ = some (.int .i64 y.1.1) ∧ W.cell? ⟨g, o + p * 9 + 1, none⟩ = some (.string ⟨y.1.2.1.toArray⟩) ∧ W.cell? ⟨g, o + p * 9 + 2, none⟩ = some (.string ⟨y.1.2.2.toArray⟩) ∧ W.cell? ⟨g, o + p * 9 + 3, none⟩ = some (.int .i64 y.2.1.1) ∧ W.cell? ⟨g, o + p * 9 + 4, none⟩ = some (.string ⟨y.2.1.2.1.toArray⟩) ∧ W.cell? ⟨g, o + p * 9 + 5, none⟩ = some (.string ⟨y.2.1.2.2.toArray⟩) ∧ W.cell? ⟨g, o + p * 9 + 6, none⟩ = some (.int .i64 y.2.2.1) ∧ W.cell? ⟨g, o + p * 9 + 7, none⟩ = some (.string ⟨y.2.2.2.1.toArray⟩) ∧ W.cell? ⟨g, o + p * 9 + 8, none⟩ = some (.string ⟨y.2.2.2.2.toArray⟩) ∧ W.cell? ⟨bt, 0, none⟩ = some (.int .i64 x.1.1) ∧ W.cell? ⟨bt, 1, none⟩ = some (.string ⟨x.1.2.1.toArray⟩) ∧ W.cell? ⟨bt, 2, none⟩ = some (.string ⟨x.1.2.2.toArray⟩) ∧ W.cell? ⟨bt, 3, none⟩ = some (.int .i64 x.2.1.1) ∧ W.cell? ⟨bt, 4, none⟩ = some (.string ⟨x.2.1.2.1.toArray⟩) ∧ W.cell? ⟨bt, 5, none⟩ = some (.string ⟨x.2.1.2.2.toArray⟩) ∧ W.cell? ⟨bt, 6, none⟩ = some (.int .i64 x.2.2.1) ∧ W.cell? ⟨bt, 7, none⟩ = some (.string ⟨x.2.2.2.1.toArray⟩) ∧ W.cell? ⟨bt, 8, none⟩ = some (.string ⟨x.2.2.2.2.toArray⟩)) (first | exact keep18b (by assumption) hb5 | go_keep) (first
                          | (go_simp; go_at_call 69; refine (HC _).mono ?_; rintro e w5 ⟨rfl, hb5⟩; dsimp only))
                        all_goals go_wp2_with fail
                        all_goals go_meet
                        all_goals exact ⟨by first | rfl | go_num, by rw [HSK.out], (RowKit.Below.refl W2.heap.size W2).drew.trans hb5⟩
                    case rest =>
                      obtain ⟨rfl, rfl, hB5⟩ := hcut
                      obtain ⟨w5, rfl, hB5'⟩ : ∃ W, W = _ ∧ Hid (RowKit.Below W2.heap.size W2 W) := ⟨_, rfl, hB5⟩
                      have hP5 := hideO (hP2.out.below hB5'.out)
                      have X5 := hideO (X2.out.below hB5'.out)
                      have hSo := hideO (slT_of hP5.out.take)
                      obtain ⟨t0, t1, t2, t3, t4, t5, t6, t7, t8⟩ := X5.out.all
                      have zt := World.block_lt_of_cell? _ _ t0
                      clear hB5 hSm
                      obtain ⟨r0, r1, rf0, rf1, b0, b1, bf0, bf1⟩ := hP5.out.cells
                      have hz := hP5.out.lt
                      have hz0 : w.heap.size < w5.heap.size := by omega
                      cases hsk : stuckB l.1 x with
                      | true =>
                        have hbad := hideO (atP_bad hA.out hlt hcut (by rw [hline, trip_stuck (k := false) hsk]; decide))
                        rw [hline, trip_stuck (k := false) hsk] at hbad
                        have hlow := hideO hP5.out.low
                        go_wp2_with fail
                        exact bodyPost_ret (v := .tuple #[.agg #[.slice none 0 0, .slice none 0 0], .int .i64 (n : Int), .int .i64 6]) (by unfold results; rw [Tryz.results32]; go_simp) rfl (readP_bad hbad.out (belowP (belowP hlow.out (Nat.le_refl _)) (Nat.le_refl _)))
                      | false =>
                        have HI := RIn_any ad2 cp2 l.2 x w5 hSo.out (by omega)
                        unfold valTr at HI
                        by_cases hin : x ∈ l.2
                        · have hbad := hideO (atP_bad hA.out hlt hcut (by rw [hline, trip_in (k := false) hsk hin]; decide))
                          rw [hline, trip_in (k := false) hsk hin] at hbad
                          rw [decide_eq_true hin] at HI
                          go_wp2_with fail
                          refine HI.mono ?_
                          rintro e w6 ⟨rfl, hb6⟩
                          dsimp only
                          have hP6 := hideO (hP5.out.below hb6)
                          clear r0 r1 rf0 rf1 b0 b1 bf0 bf1 hz hz0
                          obtain ⟨r0, r1, rf0, rf1, b0, b1, bf0, bf1⟩ := hP6.out.cells
                          have hz := hP6.out.lt
                          have hz0 : w.heap.size < w6.heap.size := by omega
                          have hlow := hideO hP6.out.low
                          go_wp2_with fail
                          exact bodyPost_ret (v := .tuple #[.agg #[.slice none 0 0, .slice none 0 0], .int .i64 (n : Int), .int .i64 7]) (by unfold results; rw [Tryz.results32]; go_simp) rfl (readP_bad hbad.out (belowP (belowP hlow.out (Nat.le_refl _)) (Nat.le_refl _)))
                        · rw [decide_eq_false hin] at HI
                          by_cases hfull : 200 ≤ l.1.length
                          · have hbad := hideO (atP_bad hA.out hlt hcut (by rw [hline, trip_full (k := false) hsk hin hfull]; decide))
                            rw [hline, trip_full (k := false) hsk hin hfull] at hbad
                            have hf2 : (200 : Int) ≤ (l.1.length : Int) := by omega
                            go_wp2_with fail
                            refine HI.mono ?_
                            rintro e w6 ⟨rfl, hb6⟩
                            dsimp only
                            have hP6 := hideO (hP5.out.below hb6)
                            clear r0 r1 rf0 rf1 b0 b1 bf0 bf1 hz hz0
                            obtain ⟨r0, r1, rf0, rf1, b0, b1, bf0, bf1⟩ := hP6.out.cells
                            have hz := hP6.out.lt
                            have hz0 : w.heap.size < w6.heap.size := by omega
                            have hlow := hideO hP6.out.low
                            go_wp2_with fail
                            exact bodyPost_ret (v := .tuple #[.agg #[.slice none 0 0, .slice none 0 0], .int .i64 (n : Int), .int .i64 4]) (by unfold results; rw [Tryz.results32]; go_simp) rfl (readP_bad hbad.out (belowP (belowP hlow.out (Nat.le_refl _)) (Nat.le_refl _)))
                          · have hnext := hideO (atP_next hA.out hlt hcut (by rw [hline]; exact trip_ok (k := false) hsk hin hfull))
                            rw [hlay, hlenu] at hnext
                            have hf2 : ¬ (200 : Int) ≤ (l.1.length : Int) := by omega
                            go_wp2_with fail
                            refine HI.mono ?_
                            rintro e w6 ⟨rfl, hb6⟩
                            dsimp only
                            have hP6 := hideO (hP5.out.below hb6)
                            have X6 := hideO (X5.out.below hb6)
                            obtain ⟨t0, t1, t2, t3, t4, t5, t6, t7, t8⟩ := X6.out.all
                            have zt := World.block_lt_of_cell? _ _ t0
                            clear r0 r1 rf0 rf1 b0 b1 bf0 bf1 hz hz0 HI
                            obtain ⟨r0, r1, rf0, rf1, b0, b1, bf0, bf1⟩ := hP6.out.cells
                            have hz := hP6.out.lt
                            have hz0 : w.heap.size < w6.heap.size := by omega
                            have hrow : Hid ((w6.alloc (.cells #[.int .i64 x.1.1, .string ⟨x.1.2.1.toArray⟩, .string ⟨x.1.2.2.toArray⟩, .int .i64 x.2.1.1, .string ⟨x.2.1.2.1.toArray⟩, .string ⟨x.2.1.2.2.toArray⟩, .int .i64 x.2.2.1, .string ⟨x.2.2.2.1.toArray⟩, .string ⟨x.2.2.2.2.toArray⟩] 99)).ownsRow (w.heap.size + 2) 99 9 (.slice ad1 l.1.length cp1) l.1.length (cellsT l.1)) := hP6.out.add.alloc _
                            have hnew : Hid (∀ (j : Nat) u, (encTr x)[j]? = some u → (w6.alloc (.cells #[.int .i64 x.1.1, .string ⟨x.1.2.1.toArray⟩, .string ⟨x.1.2.2.toArray⟩, .int .i64 x.2.1.1, .string ⟨x.2.1.2.1.toArray⟩, .string ⟨x.2.1.2.2.toArray⟩, .int .i64 x.2.2.1, .string ⟨x.2.2.2.1.toArray⟩, .string ⟨x.2.2.2.2.toArray⟩] 99)).cell? (Addr.add ⟨w6.heap.size, 0, none⟩ j) = some u) := newTr w6 x
                            have hPa : Hid (PSt w (w6.alloc (.cells #[.int .i64 x.1.1, .string ⟨x.1.2.1.toArray⟩, .string ⟨x.1.2.2.toArray⟩, .int .i64 x.2.1.1, .string ⟨x.2.1.2.1.toArray⟩, .string ⟨x.2.1.2.2.toArray⟩, .int .i64 x.2.2.1, .string ⟨x.2.2.2.1.toArray⟩, .string ⟨x.2.2.2.2.toArray⟩] 99)) (.slice ad1 l.1.length cp1) (.slice ad2 l.2.length cp2) l) := hP6.out.below (balloc w6 _)
                            have hzs : w.heap.size + 2 ≤ w6.heap.size := by omega
                            go_wp2_with (at_builtin; refine wpList_append_lies _ rfl _ _ 28 rfl (w.heap.size + 2) 99 iT (.agg (encTr zeroTr).toArray) 9 120 Tryz.underlying28 hiT hT0 hT1 hT2 rfl (by decide) (.slice ad1 l.1.length cp1) l.1.length (cellsT l.1) rfl hrow.out ⟨w6.heap.size, 0, none⟩ 1 1 (encTr x) rfl rfl hnew.out (encTr_one x) (by decide) (by unfold maxLen; omega) (by omega) (by simp; omega) _ rfl ?_; intro g cp w9 g1 g2 g3 g4; have hPn := hideO (PSt.more (k := false) (x := x) hPa.out g1 g2 (g3.imp id (fun e => by rw [e]; exact Nat.le_refl _))); have q9 := more_cells (k := false) hPa.out g2; obtain ⟨b90, b91, f90, f91, z9⟩ := q9; clear g1 g2 g3 g4 hPa hrow hnew)
                            go_roundw
                            case rel => exact ⟨j + 1, n + 1, moreP l false x, _, _, by go_num, by go_num, hnext, hPn⟩
                            case measure => simp [intOf]; omega
                  · have hline : lineN l (c :: d :: T) = tparseN T := by rw [hline0, if_pos hN]
                    have hbad := hideO (atP_bad hA.out hlt hcut (by rw [hline]; exact hN))
                    rw [hline] at hbad
                    have hN' : (tparseN T != 0) = true := by simpa using hN
                    have hlow := hideO hP1.out.low
                    clear hline hline0 hcut hform hL hA hP hP1 hN
                    generalize tparseN T = N at *
                    unfold valTr
                    generalize tparseT T = x at *
                    go_wp2_with fail
                    exact bodyPost_ret (v := .tuple #[.agg #[.slice none 0 0, .slice none 0 0], .int .i64 (n : Int), .int .i64 N]) (by unfold results; rw [Tryz.results32]; go_simp) rfl (readP_bad hbad.out (bstep (belowP (belowP hlow.out (Nat.le_refl _)) (Nat.le_refl _)) (balloc _ _)))
                · have hc3 : ((s[i]'hi0).toNat : Int) ≠ 43 := by rw [← hcE]; exact byte_ne (n := 43) (by decide) hc
                  have hcn := hc
                  clear hc
                  by_cases hc : c = 45
                  · have hc' : ((s[i]'hi0).toNat : Int) = 45 := by rw [← hcE, hc]; rfl
                    clear hcE hc3
                    by_cases hl1 : l.1 = []
                    · have hl0 : ¬ ((0 : Int) < (l.1.length : Int)) := by rw [hl1]; simp
                      have hform : formP l (c :: d :: T) = some (true, T) := by rw [form_two, if_pos (by unfold formB; simp [hd, hc, hl1])]; simp [hc]
                      have hline0 := lineN_some hform
                      have hlay := lineL_some hform
                      clear hl1
                      go_wp2_with fail
                      refine (HRT _).mono ?_
                      rintro e w1 ⟨rfl, hb1⟩
                      dsimp only
                      clear hl0
                      have hP1 := hideO (hP.out.below hb1)
                      clear r0 r1 rf0 rf1 b0 b1 bf0 bf1 hz hz0 HRT
                      obtain ⟨r0, r1, rf0, rf1, b0, b1, bf0, bf1⟩ := hP1.out.cells
                      have hz := hP1.out.lt
                      have hz0 : w.heap.size < w1.heap.size := by omega
                      by_cases hN : tparseN T = 0
                      · have hline : lineN l (c :: d :: T) = tripP l true (tparseT T) := by rw [hline0, if_neg (fun h => h hN)]
                        rw [hN]
                        unfold valTr
                        generalize tparseT T = x at *
                        have X2 : Hid (TripB (w1.alloc (.cells #[.int .i64 x.1.1, .string ⟨x.1.2.1.toArray⟩, .string ⟨x.1.2.2.toArray⟩, .int .i64 x.2.1.1, .string ⟨x.2.1.2.1.toArray⟩, .string ⟨x.2.1.2.2.toArray⟩, .int .i64 x.2.2.1, .string ⟨x.2.2.2.1.toArray⟩, .string ⟨x.2.2.2.2.toArray⟩] 99)) w1.heap.size x) := TripB.new w1 x
                        have hP2 : Hid (PSt w (w1.alloc (.cells #[.int .i64 x.1.1, .string ⟨x.1.2.1.toArray⟩, .string ⟨x.1.2.2.toArray⟩, .int .i64 x.2.1.1, .string ⟨x.2.1.2.1.toArray⟩, .string ⟨x.2.1.2.2.toArray⟩, .int .i64 x.2.2.1, .string ⟨x.2.2.2.1.toArray⟩, .string ⟨x.2.2.2.2.toArray⟩] 99)) (.slice ad1 l.1.length cp1) (.slice ad2 l.2.length cp2) l) := hP1.out.below (balloc w1 _)
                        go_wp2_with fail
                        generalize w1.alloc (.cells #[.int .i64 x.1.1, .string ⟨x.1.2.1.toArray⟩, .string ⟨x.1.2.2.toArray⟩, .int .i64 x.2.1.1, .string ⟨x.2.1.2.1.toArray⟩, .string ⟨x.2.1.2.2.toArray⟩, .int .i64 x.2.2.1, .string ⟨x.2.2.2.1.toArray⟩, .string ⟨x.2.2.2.2.toArray⟩] 99) = W2 at *
                        generalize w1.heap.size = bt at *
                        obtain ⟨t0, t1, t2, t3, t4, t5, t6, t7, t8⟩ := X2.out.all
                        have zt := World.block_lt_of_cell? _ _ t0
                        have hSm := hideO (slT_of hP2.out.take)
                        clear r0 r1 rf0 rf1 b0 b1 bf0 bf1 hz hz0
                        go_cut [13, 114] from 102 to 113 (fun vk v W' => vk = .int .i64 (l.2.length : Int) ∧ v = .bool (stuckB l.2 x) ∧ Hid (RowKit.Below W2.heap.size W2 W'))
                        case first =>
                          by_cases hm : l.2 = []
                          · have HSK : Hid (stuckB l.2 x = false) := by show _ = _; rw [hm]; rfl
                            have hm0 : (l.2.length : Int) = 0 := by rw [hm]; rfl
                            rw [hm0]
                            have HM0 := hideO hm0
                            have hbd := hideO (RowKit.Below.refl W2.heap.size W2).drew
                            clear hm hSm hm0
                            go_region
                            go_wp2_with fail
                            go_meet
                            exact ⟨by rw [HM0.out], by rw [HSK.out], hbd⟩
                          · obtain ⟨p, hp⟩ : ∃ p, l.2.length = p + 1 := ⟨l.2.length - 1, by have := List.length_pos_iff.2 hm; omega⟩
                            have hpl : p < l.2.length := by omega
                            have hstk : stuckB l.2 x = decide (0 ≤ cmpTr l.2[p] x) := stuck_last hp hpl
                            obtain ⟨g, o, e1, hrow⟩ := hSm.out.at p hpl
                            obtain ⟨c0, c1, c2, c3, c4, c5, c6, c7, c8⟩ := hrow.at p hpl
                            subst e1
                            have HC := fun W => ROrder_any l.2[p] x W
                            unfold valTr at HC
                            have HSK := hideO hstk
                            have hwr1 : IntKind.i64.wrap (p : Int) = (p : Int) := by simp [IntKind.wrap, IntKind.bits, IntKind.signed]; omega
                            have hwr0 : IntKind.i64.wrap ((p : Int) + 1 - 1) = (p : Int) := by simp [IntKind.wrap, IntKind.bits, IntKind.signed]; omega
                            have i0 : (0 : Int) ≤ (p : Int) := by omega
                            have i1 : (p : Int) < (p : Int) + 1 := by omega
                            clear hstk hrow hSm hm
                            generalize l.2[p] = y at *
                            generalize cmpTr y x = z at *
                            generalize l.2.length = q at *
                            subst hp
                            go_region_held3 (fun W => W.cell? ⟨g, o + p * 9, none⟩ = some (.int .i64 y.1.1) ∧ W.cell? ⟨g, o + p * 9 + 1, none⟩ = some (.string ⟨y.1.2.1.toArray⟩) ∧ W.cell? ⟨g, o + p * 9 + 2, none⟩ = some (.string ⟨y.1.2.2.toArray⟩) ∧ W.cell? ⟨g, o + p * 9 + 3, none⟩ = some (.int .i64 y.2.1.1) ∧ W.cell? ⟨g, o + p * 9 + 4, none⟩ = some (.string ⟨y.2.1.2.1.toArray⟩) ∧ W.cell? ⟨g, o + p * 9 + 5, none⟩ = some (.string ⟨y.2.1.2.2.toArray⟩) ∧ W.cell? ⟨g, o + p * 9 + 6, none⟩ = some (.int .i64 y.2.2.1) ∧ W.cell? ⟨g, o + p * 9 + 7, none⟩ = some (.string ⟨y.2.2.2.1.toArray⟩) ∧ W.cell? ⟨g, o + p * 9 + 8, none⟩ = some (.string ⟨y.2.2.2.2.toArray⟩) ∧ W.cell? ⟨bt, 0, none⟩ = some (.int .i64 x.1.1) ∧ W.cell? ⟨bt, 1, none⟩ = some (.string ⟨x.1.2.1.toArray⟩) ∧ W.cell? ⟨bt, 2, none⟩ = some (.string ⟨x.1.2.2.toArray⟩) ∧ W.cell? ⟨bt, 3, none⟩ = some (.int .i64 x.2.1.1) ∧ W.cell? ⟨bt, 4, none⟩ = some (.string ⟨x.2.1.2.1.toArray⟩) ∧ W.cell? ⟨bt, 5, none⟩ = some (.string ⟨x.2.1.2.2.toArray⟩) ∧ W.cell? ⟨bt, 6, none⟩ = some (.int .i64 x.2.2.1) ∧ W.cell? ⟨bt, 7, none⟩ = some (.string ⟨x.2.2.2.1.toArray⟩) ∧ W.cell? ⟨bt, 8, none⟩ = some (.string ⟨x.2.2.2.2.toArray⟩)) (first | exact keep18b (by assumption) hb5 | go_keep) (first
                              | (go_simp; go_at_call 69; refine (HC _).mono ?_; rintro e w5 ⟨rfl, hb5⟩; dsimp only))
                            all_goals go_wp2_with fail
                            all_goals go_meet
                            all_goals exact ⟨by first | rfl | go_num, by rw [HSK.out], (RowKit.Below.refl W2.heap.size W2).drew.trans hb5⟩
                        case rest =>
                          obtain ⟨rfl, rfl, hB5⟩ := hcut
                          obtain ⟨w5, rfl, hB5'⟩ : ∃ W, W = _ ∧ Hid (RowKit.Below W2.heap.size W2 W) := ⟨_, rfl, hB5⟩
                          have hP5 := hideO (hP2.out.below hB5'.out)
                          have X5 := hideO (X2.out.below hB5'.out)
                          have hSo := hideO (slT_of hP5.out.add)
                          obtain ⟨t0, t1, t2, t3, t4, t5, t6, t7, t8⟩ := X5.out.all
                          have zt := World.block_lt_of_cell? _ _ t0
                          clear hB5 hSm
                          obtain ⟨r0, r1, rf0, rf1, b0, b1, bf0, bf1⟩ := hP5.out.cells
                          have hz := hP5.out.lt
                          have hz0 : w.heap.size < w5.heap.size := by omega
                          cases hsk : stuckB l.2 x with
                          | true =>
                            have hbad := hideO (atP_bad hA.out hlt hcut (by rw [hline, trip_stuck (k := true) hsk]; decide))
                            rw [hline, trip_stuck (k := true) hsk] at hbad
                            have hlow := hideO hP5.out.low
                            go_wp2_with fail
                            exact bodyPost_ret (v := .tuple #[.agg #[.slice none 0 0, .slice none 0 0], .int .i64 (n : Int), .int .i64 6]) (by unfold results; rw [Tryz.results32]; go_simp) rfl (readP_bad hbad.out (belowP (belowP hlow.out (Nat.le_refl _)) (Nat.le_refl _)))
                          | false =>
                            have HI := RIn_any ad1 cp1 l.1 x w5 hSo.out (by omega)
                            unfold valTr at HI
                            by_cases hin : x ∈ l.1
                            · have hbad := hideO (atP_bad hA.out hlt hcut (by rw [hline, trip_in (k := true) hsk hin]; decide))
                              rw [hline, trip_in (k := true) hsk hin] at hbad
                              rw [decide_eq_true hin] at HI
                              go_wp2_with fail
                              refine HI.mono ?_
                              rintro e w6 ⟨rfl, hb6⟩
                              dsimp only
                              have hP6 := hideO (hP5.out.below hb6)
                              clear r0 r1 rf0 rf1 b0 b1 bf0 bf1 hz hz0
                              obtain ⟨r0, r1, rf0, rf1, b0, b1, bf0, bf1⟩ := hP6.out.cells
                              have hz := hP6.out.lt
                              have hz0 : w.heap.size < w6.heap.size := by omega
                              have hlow := hideO hP6.out.low
                              go_wp2_with fail
                              exact bodyPost_ret (v := .tuple #[.agg #[.slice none 0 0, .slice none 0 0], .int .i64 (n : Int), .int .i64 7]) (by unfold results; rw [Tryz.results32]; go_simp) rfl (readP_bad hbad.out (belowP (belowP hlow.out (Nat.le_refl _)) (Nat.le_refl _)))
                            · rw [decide_eq_false hin] at HI
                              by_cases hfull : 200 ≤ l.2.length
                              · have hbad := hideO (atP_bad hA.out hlt hcut (by rw [hline, trip_full (k := true) hsk hin hfull]; decide))
                                rw [hline, trip_full (k := true) hsk hin hfull] at hbad
                                have hf2 : (200 : Int) ≤ (l.2.length : Int) := by omega
                                go_wp2_with fail
                                refine HI.mono ?_
                                rintro e w6 ⟨rfl, hb6⟩
                                dsimp only
                                have hP6 := hideO (hP5.out.below hb6)
                                clear r0 r1 rf0 rf1 b0 b1 bf0 bf1 hz hz0
                                obtain ⟨r0, r1, rf0, rf1, b0, b1, bf0, bf1⟩ := hP6.out.cells
                                have hz := hP6.out.lt
                                have hz0 : w.heap.size < w6.heap.size := by omega
                                have hlow := hideO hP6.out.low
                                go_wp2_with fail
                                exact bodyPost_ret (v := .tuple #[.agg #[.slice none 0 0, .slice none 0 0], .int .i64 (n : Int), .int .i64 4]) (by unfold results; rw [Tryz.results32]; go_simp) rfl (readP_bad hbad.out (belowP (belowP hlow.out (Nat.le_refl _)) (Nat.le_refl _)))
                              · have hnext := hideO (atP_next hA.out hlt hcut (by rw [hline]; exact trip_ok (k := true) hsk hin hfull))
                                rw [hlay, hlenu] at hnext
                                have hf2 : ¬ (200 : Int) ≤ (l.2.length : Int) := by omega
                                go_wp2_with fail
                                refine HI.mono ?_
                                rintro e w6 ⟨rfl, hb6⟩
                                dsimp only
                                have hP6 := hideO (hP5.out.below hb6)
                                have X6 := hideO (X5.out.below hb6)
                                obtain ⟨t0, t1, t2, t3, t4, t5, t6, t7, t8⟩ := X6.out.all
                                have zt := World.block_lt_of_cell? _ _ t0
                                clear r0 r1 rf0 rf1 b0 b1 bf0 bf1 hz hz0 HI
                                obtain ⟨r0, r1, rf0, rf1, b0, b1, bf0, bf1⟩ := hP6.out.cells
                                have hz := hP6.out.lt
                                have hz0 : w.heap.size < w6.heap.size := by omega
                                have hrow : Hid ((w6.alloc (.cells #[.int .i64 x.1.1, .string ⟨x.1.2.1.toArray⟩, .string ⟨x.1.2.2.toArray⟩, .int .i64 x.2.1.1, .string ⟨x.2.1.2.1.toArray⟩, .string ⟨x.2.1.2.2.toArray⟩, .int .i64 x.2.2.1, .string ⟨x.2.2.2.1.toArray⟩, .string ⟨x.2.2.2.2.toArray⟩] 99)).ownsRow (w.heap.size + 2) 99 9 (.slice ad2 l.2.length cp2) l.2.length (cellsT l.2)) := hP6.out.take.alloc _
                                have hnew : Hid (∀ (j : Nat) u, (encTr x)[j]? = some u → (w6.alloc (.cells #[.int .i64 x.1.1, .string ⟨x.1.2.1.toArray⟩, .string ⟨x.1.2.2.toArray⟩, .int .i64 x.2.1.1, .string ⟨x.2.1.2.1.toArray⟩, .string ⟨x.2.1.2.2.toArray⟩, .int .i64 x.2.2.1, .string ⟨x.2.2.2.1.toArray⟩, .string ⟨x.2.2.2.2.toArray⟩] 99)).cell? (Addr.add ⟨w6.heap.size, 0, none⟩ j) = some u) := newTr w6 x
                                have hPa : Hid (PSt w (w6.alloc (.cells #[.int .i64 x.1.1, .string ⟨x.1.2.1.toArray⟩, .string ⟨x.1.2.2.toArray⟩, .int .i64 x.2.1.1, .string ⟨x.2.1.2.1.toArray⟩, .string ⟨x.2.1.2.2.toArray⟩, .int .i64 x.2.2.1, .string ⟨x.2.2.2.1.toArray⟩, .string ⟨x.2.2.2.2.toArray⟩] 99)) (.slice ad1 l.1.length cp1) (.slice ad2 l.2.length cp2) l) := hP6.out.below (balloc w6 _)
                                have hzs : w.heap.size + 2 ≤ w6.heap.size := by omega
                                go_wp2_with (at_builtin; refine wpList_append_lies _ rfl _ _ 28 rfl (w.heap.size + 2) 99 iT (.agg (encTr zeroTr).toArray) 9 120 Tryz.underlying28 hiT hT0 hT1 hT2 rfl (by decide) (.slice ad2 l.2.length cp2) l.2.length (cellsT l.2) rfl hrow.out ⟨w6.heap.size, 0, none⟩ 1 1 (encTr x) rfl rfl hnew.out (encTr_one x) (by decide) (by unfold maxLen; omega) (by omega) (by simp; omega) _ rfl ?_; intro g cp w9 g1 g2 g3 g4; have hPn := hideO (PSt.more (k := true) (x := x) hPa.out g1 g2 (g3.imp id (fun e => by rw [e]; exact Nat.le_refl _))); have q9 := more_cells (k := true) hPa.out g2; obtain ⟨b90, b91, f90, f91, z9⟩ := q9; clear g1 g2 g3 g4 hPa hrow hnew)
                                go_roundw
                                case rel => exact ⟨j + 1, n + 1, moreP l true x, _, _, by go_num, by go_num, hnext, hPn⟩
                                case measure => simp [intOf]; omega
                      · have hline : lineN l (c :: d :: T) = tparseN T := by rw [hline0, if_pos hN]
                        have hbad := hideO (atP_bad hA.out hlt hcut (by rw [hline]; exact hN))
                        rw [hline] at hbad
                        have hN' : (tparseN T != 0) = true := by simpa using hN
                        have hlow := hideO hP1.out.low
                        clear hline hline0 hcut hform hL hA hP hP1 hN
                        generalize tparseN T = N at *
                        unfold valTr
                        generalize tparseT T = x at *
                        go_wp2_with fail
                        exact bodyPost_ret (v := .tuple #[.agg #[.slice none 0 0, .slice none 0 0], .int .i64 (n : Int), .int .i64 N]) (by unfold results; rw [Tryz.results32]; go_simp) rfl (readP_bad hbad.out (bstep (belowP (belowP hlow.out (Nat.le_refl _)) (Nat.le_refl _)) (balloc _ _)))
                    · have hl0 : (0 : Int) < (l.1.length : Int) := by have := List.length_pos_iff.2 hl1; omega
                      have hform : formP l (c :: d :: T) = none := by rw [form_two, if_neg (by unfold formB; simp [hd, hc, hl1])]
                      have hbad := hideO (atP_bad hA.out hlt hcut (by rw [lineN_none hform]; decide))
                      rw [lineN_none hform] at hbad
                      have hlow := hideO hP.out.low
                      clear hcut hform hL hA hP h10 HRT hx
                      go_wp2_with fail
                      exact bodyPost_ret (v := .tuple #[.agg #[.slice none 0 0, .slice none 0 0], .int .i64 (n : Int), .int .i64 2]) (by unfold results; rw [Tryz.results32]; go_simp) rfl (readP_bad hbad.out (belowP (belowP hlow.out (Nat.le_refl _)) (Nat.le_refl _)))
                  · have hc5 : ((s[i]'hi0).toNat : Int) ≠ 45 := by rw [← hcE]; exact byte_ne (n := 45) (by decide) hc
                    clear hcE
                    have hform : formP l (c :: d :: T) = none := by rw [form_two, if_neg (by unfold formB; simp [hd, hc, hcn])]
                    have hbad := hideO (atP_bad hA.out hlt hcut (by rw [lineN_none hform]; decide))
                    rw [lineN_none hform] at hbad
                    have hlow := hideO hP.out.low
                    clear hcut hform hL hA hP h10 HRT hx
                    go_wp2_with fail
                    exact bodyPost_ret (v := .tuple #[.agg #[.slice none 0 0, .slice none 0 0], .int .i64 (n : Int), .int .i64 2]) (by unfold results; rw [Tryz.results32]; go_simp) rfl (readP_bad hbad.out (belowP (belowP hlow.out (Nat.le_refl _)) (Nat.le_refl _)))
              · have hd' : ((s[i + 1]'hi1).toNat : Int) ≠ 32 := by rw [← hdE]; exact byte_ne (n := 32) (by decide) hd
                clear hcE hdE
                have hform : formP l (c :: d :: T) = none := by rw [form_two, if_neg (by unfold formB; simp [hd])]
                have hbad := hideO (atP_bad hA.out hlt hcut (by rw [lineN_none hform]; decide))
                rw [lineN_none hform] at hbad
                have hlow := hideO hP.out.low
                clear hcut hform hL hA hP h10 HRT hx
                go_wp2_with fail
                exact bodyPost_ret (v := .tuple #[.agg #[.slice none 0 0, .slice none 0 0], .int .i64 (n : Int), .int .i64 2]) (by unfold results; rw [Tryz.results32]; go_simp) rfl (readP_bad hbad.out (belowP (belowP hlow.out (Nat.le_refl _)) (Nat.le_refl _)))
              -- ENDMIDDLE
            · have hsub : ((j : Int) - (i : Int) < 2) := by omega
              have hform : formP l ((s.drop i).take (j - i)) = none := form_short (by rw [line_len hL.out]; omega)
              have hbad := hideO (atP_bad hA.out hlt hcut (by rw [lineN_none hform]; decide))
              rw [lineN_none hform] at hbad
              have hlow := hideO hP.out.low
              clear hcut hform hL hA hP h10
              go_wp2_with fail
              exact bodyPost_ret (v := .tuple #[.agg #[.slice none 0 0, .slice none 0 0], .int .i64 (n : Int), .int .i64 2]) (by unfold results; rw [Tryz.results32]; go_simp) rfl (readP_bad hbad.out (belowP (belowP hlow.out (Nat.le_refl _)) (Nat.le_refl _)))
          · have h10' : ((s[j]).toNat : Int) ≠ 10 := byte_ne (n := 10) (by decide) h10
            have hnx := hideO (line_step hL.out hj h10)
            clear hL h10
            go_wp2_with fail
            go_roundw
            case rel => exact ⟨j + 1, by go_num, hnx, by first | rfl | trivial⟩
            case measure => simp [intOf]; omega
        · obtain rfl : j = s.length := by have := hL.out.2.1; omega
          have hbad := hideO (atP_none hA.out hlt (line_none hL.out))
          have hlow := hideO hP.out.low
          clear hL hA hP
          go_wp2_with fail
          exact bodyPost_ret (v := .tuple #[.agg #[.slice none 0 0, .slice none 0 0], .int .i64 (n : Int), .int .i64 2]) (by unfold results; rw [Tryz.results32]; go_simp) rfl (readP_bad hbad.out (belowP (belowP hlow.out (Nat.le_refl _)) (Nat.le_refl _)))
    · obtain rfl : i = s.length := by omega
      have hgood := hideO (atP_end hA.out)
      have hlow := hideO hP.out.low
      have hS := hSS
      clear hA hP
      go_wp2_with fail
      exact bodyPost_ret (v := .tuple #[.agg #[.slice ad1 l.1.length cp1, .slice ad2 l.2.length cp2], .int .i64 0, .int .i64 0]) (by unfold results; rw [Tryz.results32]; go_simp) rfl (readP_good hgood.out (hS.out.1.put2 r0 r1 _ _) (hS.out.2.put2 r0 r1 _ _) (belowP (belowP hlow.out (Nat.le_refl _)) (Nat.le_refl _)))
end Go.Proofs.YtnlcfnpcjkcdmafGreatDoor

/- The document's answer (package strataref1): Two, Union. -/
namespace Go.Proofs.YtnlcfnpcjkcdmafGreatDoor
open Go Go.RowKit Go.Proofs
set_option synthInstance.maxSize 1000

set_option maxHeartbeats 1000000 in
theorem RTwo_any (ad bd : Option Addr) (ca cb : Nat) (a b : List Tr) (w : World) (ha : SlT w ad a) (hb : SlT w bd b) (fa : ∀ x ∈ a, fitTr x) (fb : ∀ x ∈ b, fitTr x) (na : a.length ≤ 9223372036854775807) (nb : b.length ≤ 9223372036854775807) :
    Calls Tryz.prog 63 #[.slice ad a.length ca, .slice bd b.length cb] w fun e w' => e = .returned (.int .i64 (bothN a b)) ∧ RowKit.Below w.heap.size w w' := by
  have H1 := fun W hW => RSet_any ad ca a W hW fa na
  have H2 := fun W hW => RSet_any bd cb b W hW fb nb
  have fin : Hid (bothN a b = if sortedN a = 0 then sortedN b else sortedN a) := rfl
  have Ha : Hid (SlT w ad a) := ha
  have Hb : Hid (SlT w bd b) := hb
  generalize bothN a b = N at *
  generalize sortedN a = n at H1 fin
  generalize sortedN b = m at H2 fin
  clear ha hb fa fb na nb
  cases hn : (n == 0)
  · have f1 : Hid (N = n) := by have h : ¬ n = 0 := by simpa using hn
                                rw [fin.out, if_neg h]; rfl
    go_enter Tryz.func63, Tryz.ntmps63
    go_wp2_with fail
    refine (H1 _ Ha.out).mono ?_
    rintro e w1 ⟨rfl, hb1⟩
    go_wp2_with fail
    go_ret
    exact ⟨ret_i64 f1.out.symm, hb1⟩
  · have f1 : Hid (N = m) := by have h : n = 0 := by simpa using hn
                                rw [fin.out, if_pos h]; rfl
    go_enter Tryz.func63, Tryz.ntmps63
    go_wp2_with fail
    refine (H1 _ Ha.out).mono ?_
    rintro e w1 ⟨rfl, hb1⟩
    go_wp2_with fail
    refine (H2 _ (Hb.out.below hb1)).mono ?_
    rintro e w2 ⟨rfl, hb2⟩
    go_wp2_with fail
    go_ret
    exact ⟨ret_i64 f1.out.symm, bstep hb1 hb2⟩

set_option maxHeartbeats 2000000 in
set_option maxRecDepth 100000 in
theorem RUnionW_any (ad bd : Option Addr) (ca cb : Nat) (a b : List Tr) (w : World) (ha : SlT w ad a) (hb : SlT w bd b) (na : a.length ≤ 1000) (nb : b.length ≤ 1000) :
    Calls Tryz.prog 74 #[.slice ad a.length ca, .slice bd b.length cb] w fun e w' => ∃ (m : List Tr) (ad' : Option Addr) (c : Nat), e = .returned (.slice ad' m.length c) ∧ SlT w' ad' m ∧ JoinOf a b m ∧ RowKit.Below w.heap.size w w' := by
  have Ha : Hid (SlT w ad a) := ha
  have Hb : Hid (SlT w bd b) := hb
  have H : ∀ W am cm, SlT W am (a ++ b) → Calls Tryz.prog 109 #[.slice am (a.length + b.length) cm] W fun e w' => ∃ (m : List Tr) (ad' : Option Addr) (c : Nat), e = .returned (.slice ad' m.length c) ∧ SlT w' ad' m ∧ JoinOf a b m ∧ RowKit.Below W.heap.size W w' := by
    intro W am cm hW
    rw [← List.length_append]
    refine (RSorted_any am cm (a ++ b) W hW (by rw [List.length_append]; omega)).mono ?_
    rintro e w' ⟨m, ad', c, rfl, h1, h2, h3, _, h5⟩
    exact ⟨m, ad', c, rfl, h1, ⟨h2, fun x => by rw [h3, List.mem_append]⟩, h5⟩
  clear ha hb
  have hnil : Hid (w.ownsRow w.heap.size 99 9 (.slice none 0 0) ([] : List Tr).length (cellsT [])) := World.ownsRow_nil _ _ _ _
  generalize JoinOf a b = JO at *
  go_enter Tryz.func74, Tryz.ntmps74
  go_wp2_with (first
    | (at_builtin; refine wpList_append_list _ rfl _ _ rfl w.heap.size _ [] a ad ca rfl rfl hnil.out Ha.out (by simp; omega) (Nat.le_refl _) ?_; clear hnil; intro v1 w1 hown1 hb1
       have hown1' : Hid (w1.ownsRow w.heap.size 99 9 v1 a.length (cellsT a)) := hown1
       have hz1 := hb1.size
       clear hown1)
    | (at_builtin; refine wpList_append_list _ rfl _ _ rfl w.heap.size _ a b bd cb rfl rfl hown1'.out (Hb.out.below hb1) (by omega) hz1 ?_; intro v2 w2 hown2 hb2
       have hown2' : Hid (w2.ownsRow w.heap.size 99 9 v2 (a ++ b).length (cellsT (a ++ b))) := hown2
       obtain ⟨am, cm, hv2, hsl⟩ := own_slS hown2
       have Hsl : Hid (SlT w2 am (a ++ b)) := hsl
       rw [List.length_append] at hv2
       subst hv2
       clear hown2 hsl hown2' hown1'))
  have hB2 := hb1.trans hb2
  refine (H _ am cm Hsl.out).mono ?_
  rintro e w3 ⟨m, ad', c, rfl, h1, h2, h3⟩
  go_wp2_with fail
  go_ret
  exact ⟨m, ad', c, rfl, h1, h2, bstep hB2 h3⟩
theorem RUnion_any (ad bd : Option Addr) (ca cb : Nat) (a b : List Tr) (w : World) (ha : SlT w ad a) (hb : SlT w bd b) (na : a.length ≤ 200) (nb : b.length ≤ 200) :
    Calls Tryz.prog 74 #[.slice ad a.length ca, .slice bd b.length cb] w fun e w' => ∃ (m : List Tr) (ad' : Option Addr) (c : Nat), e = .returned (.slice ad' m.length c) ∧ SlT w' ad' m ∧ JoinOf a b m ∧ RowKit.Below w.heap.size w w' := RUnionW_any ad bd ca cb a b w ha hb (by omega) (by omega)
end Go.Proofs.YtnlcfnpcjkcdmafGreatDoor

/- layer.Then: what it tells; stratasame.Layer. -/
namespace Go.Proofs.YtnlcfnpcjkcdmafGreatDoor
open Go Go.RowKit Go.Proofs
set_option synthInstance.maxSize 1000

attribute [local go_sem] eql_errV neq_errV guard_errV

theorem threebox {w W : World} {T T' T'' : TypeId} {a0 a1 b0 b1 c0 c1 : Value} (hb : RowKit.Below (((w.alloc (.cells #[a0, a1] T)).alloc (.cells #[b0, b1] T')).alloc (.cells #[c0, c1] T'')).heap.size (((w.alloc (.cells #[a0, a1] T)).alloc (.cells #[b0, b1] T')).alloc (.cells #[c0, c1] T'')) W) :
    W.cell? ⟨w.heap.size, 0, none⟩ = some a0 ∧ W.cell? ⟨w.heap.size, 1, none⟩ = some a1 ∧ W.cell? ⟨w.heap.size + 1, 0, none⟩ = some b0 ∧ W.cell? ⟨w.heap.size + 1, 1, none⟩ = some b1 ∧ W.cell? ⟨w.heap.size + 1 + 1, 0, none⟩ = some c0 ∧ W.cell? ⟨w.heap.size + 1 + 1, 1, none⟩ = some c1 ∧ w.heap.size + 1 + 1 < W.heap.size ∧ W.frozen? ⟨w.heap.size + 1 + 1, 0, none⟩ = false ∧ W.frozen? ⟨w.heap.size + 1 + 1, 1, none⟩ = false := by
  obtain ⟨x0, x1, _, _, _⟩ := twobox1 (bstep (balloc _ _) hb)
  obtain ⟨y0, y1, _, _, _⟩ := twobox2 (bstep (balloc _ _) hb)
  have h := twobox hb
  rw [World.size_alloc, World.size_alloc] at h
  exact ⟨x0, x1, y0, y1, h.1, h.2.1, h.2.2.1, h.2.2.2.1, h.2.2.2.2⟩


set_option maxHeartbeats 2000000 in
set_option maxRecDepth 100000 in
theorem SameLayer_any (ad bd cd dd : Option Addr) (ca cb cc ce : Nat) (a b c d : List Tr) (w : World) (ha : SlT w ad a) (hb : SlT w bd b) (hc : SlT w cd c) (hd : SlT w dd d) (na : a.length ≤ 1000000) (nb : b.length ≤ 1000000) (nc : c.length ≤ 1000000) (nd : d.length ≤ 1000000) :
    Calls Tryz.prog 34 #[.agg #[.slice ad a.length ca, .slice bd b.length cb], .agg #[.slice cd c.length cc, .slice dd d.length ce]] w fun e w' => e = .returned (.bool (decide (a = c) && decide (b = d))) ∧ RowKit.Below w.heap.size w w' := by
  have H1 := fun W h1 h2 => SameTriples_any ad cd ca cc a c W h1 h2 na nc
  have H2 := fun W h1 h2 => SameTriples_any bd dd cb ce b d W h1 h2 nb nd
  have HS : Hid (SlT w ad a ∧ SlT w bd b ∧ SlT w cd c ∧ SlT w dd d) := ⟨ha, hb, hc, hd⟩
  generalize decide (a = c) = p at *
  generalize decide (b = d) = q at *
  clear ha hb hc hd na nb nc nd
  go_enter Tryz.func34, Tryz.ntmps34
  go_wp2_with fail
  have hS0 := bstep (balloc w (.cells #[.slice ad a.length ca, .slice bd b.length cb] 70)) (balloc _ (.cells #[.slice cd c.length cc, .slice dd d.length ce] 70))
  refine (H1 _ (HS.out.1.below hS0) (HS.out.2.2.1.below hS0)).mono ?_
  rintro e w1 ⟨rfl, hb1⟩
  have hB1 := bstep hS0 hb1
  obtain ⟨x0, x1, _, _, _⟩ := twobox1 hb1
  obtain ⟨y0, y1, _, _, _⟩ := twobox2 hb1
  clear hS0 H1
  go_wp2_with fail
  refine (H2 _ (HS.out.2.1.below hB1) (HS.out.2.2.2.below hB1)).mono ?_
  rintro e w2 ⟨rfl, hb2⟩
  have hB2 := bstep hB1 hb2
  cases p <;> cases q
  all_goals
    go_wp2_with fail
    go_ret
    exact ⟨rfl, hB2⟩
end Go.Proofs.YtnlcfnpcjkcdmafGreatDoor

/- The document's answer (package strataref1): Layer, Apply, Then. -/
namespace Go.Proofs.YtnlcfnpcjkcdmafGreatDoor
open Go Go.RowKit Go.Proofs
set_option synthInstance.maxSize 1000

theorem RLess_any (ad bd : Option Addr) (ca cb : Nat) (a b : List Tr) (w : World) (ha : SlT w ad a) (hb : SlT w bd b) (na : a.length ≤ 200) (nb : b.length ≤ 200) :
    Calls Tryz.prog 64 #[.slice ad a.length ca, .slice bd b.length cb, .bool false] w fun e w' => ∃ ad' c, e = .returned (.slice ad' (lessL a b).length c) ∧ SlT w' ad' (lessL a b) ∧ RowKit.Below w.heap.size w w' := by
  have := RPart_any ad bd ca cb a b false w ha hb na nb
  rw [part_less] at this
  exact this
theorem RBoth_any (ad bd : Option Addr) (ca cb : Nat) (a b : List Tr) (w : World) (ha : SlT w ad a) (hb : SlT w bd b) (na : a.length ≤ 200) (nb : b.length ≤ 200) :
    Calls Tryz.prog 64 #[.slice ad a.length ca, .slice bd b.length cb, .bool true] w fun e w' => ∃ ad' c, e = .returned (.slice ad' (bothL a b).length c) ∧ SlT w' ad' (bothL a b) ∧ RowKit.Below w.heap.size w w' := by
  have := RPart_any ad bd ca cb a b true w ha hb na nb
  rw [part_both] at this
  exact this
theorem both_none {a b : List Tr} : (bothL a b).length = 0 ↔ (bothL b a).length = 0 := by
  have q : ∀ {a b : List Tr}, (bothL a b).length = 0 → (bothL b a).length = 0 := fun {a b} h => by
    rw [List.length_eq_zero_iff, List.eq_nil_iff_forall_not_mem] at h ⊢
    intro x hx
    exact h x (mem_bothL.2 ⟨(mem_bothL.1 hx).2, (mem_bothL.1 hx).1⟩)
  exact ⟨q, q⟩
theorem lenBoth {a b : List Tr} (h : a.length ≤ 200) : (bothL a b).length ≤ 200 := Nat.le_trans (List.length_filter_le _ _) h
theorem lenLess {a b : List Tr} (h : a.length ≤ 200) : (lessL a b).length ≤ 200 := Nat.le_trans (List.length_filter_le _ _) h

set_option maxHeartbeats 2000000 in
set_option maxRecDepth 100000 in
theorem RLayer_any (ad bd : Option Addr) (ca cb : Nat) (a b : List Tr) (w : World) (ha : SlT w ad a) (hb : SlT w bd b) (fa : ∀ x ∈ a, fitTr x) (fb : ∀ x ∈ b, fitTr x) (na : a.length ≤ 9223372036854775807) (nb : b.length ≤ 9223372036854775807) :
    Calls Tryz.prog 29 #[.agg #[.slice ad a.length ca, .slice bd b.length cb]] w fun e w' => e = .returned (.int .i64 (apartN a b)) ∧ RowKit.Below w.heap.size w w' := by
  have H := fun W h1 h2 => RTwo_any ad bd ca cb a b W h1 h2 fa fb na nb
  have HS : Hid (SlT w ad a ∧ SlT w bd b) := ⟨ha, hb⟩
  have fin : Hid (apartN a b = orN (bothN a b) (if (bothL a b).length = 0 then 0 else 7)) := rfl
  have hset := @bothN_zero a b
  generalize apartN a b = N at *
  generalize bothN a b = n at *
  clear ha hb fa fb na nb
  go_enter Tryz.func29, Tryz.ntmps29
  go_wp2_with fail
  refine (H _ (HS.out.1.below (balloc _ _)) (HS.out.2.below (balloc _ _))).mono ?_
  rintro e w1 ⟨rfl, hb1⟩
  have hB1 := bstep (balloc _ _) hb1
  obtain ⟨x0, x1, _, _, _⟩ := twobox hb1
  clear H
  cases hn : (n == 0)
  · have f1 : Hid (N = n) := fin.out.trans (orN_neg (by simpa using hn))
    clear fin hset
    go_wp2_with fail
    go_ret
    exact ⟨ret_i64 f1.out.symm, hB1⟩
  · have h0 : n = 0 := by simpa using hn
    obtain ⟨sa, sb⟩ := hset.1 h0
    have f1 : Hid (N = if (bothL a b).length = 0 then 0 else 7) := fin.out.trans (orN_pos h0)
    have HP := fun W h1 h2 => RBoth_any ad bd ca cb a b W h1 h2 sa.1 sb.1
    have hl := lenBoth (b := b) sa.1
    generalize bothL a b = B at *
    clear fin hset sa sb h0
    go_wp2_with fail
    refine (HP _ (HS.out.1.below hB1) (HS.out.2.below hB1)).mono ?_
    rintro e w2 ⟨aq, cq, rfl, _, hb2⟩
    have hB2 := bstep hB1 hb2
    by_cases hz : B.length = 0
    · have hd : decide (0 < B.length) = false := decide_eq_false (by omega)
      have f2 : Hid (N = 0) := by have := f1.out; rw [if_pos hz] at this; exact this
      clear hz f1
      go_wp2_with fail
      go_ret
      exact ⟨ret_i64 f2.out.symm, hB2⟩
    · have hd : decide (0 < B.length) = true := decide_eq_true (by omega)
      have f2 : Hid (N = 7) := by have := f1.out; rw [if_neg hz] at this; exact this
      clear hz f1
      go_wp2_with fail
      go_ret
      exact ⟨ret_i64 f2.out.symm, hB2⟩

/-- the document's answer to a call: a list and a number -/
def RAns (n : Int) (P : List Tr → Prop) (w : World) (e : Ending) (w' : World) : Prop := RowKit.Below w.heap.size w w' ∧ ∃ (m : List Tr) (ad : Option Addr) (c : Nat), e = .returned (.tuple #[.slice ad m.length c, .int .i64 n]) ∧ SlT w' ad m ∧ P m
theorem RAns.mk {n : Int} {P : List Tr → Prop} {w w' : World} (hb : RowKit.Below w.heap.size w w') (m : List Tr) (ad : Option Addr) (c : Nat) (hs : SlT w' ad m) (hp : P m) : RAns n P w (.returned (.tuple #[.slice ad m.length c, .int .i64 n])) w' := ⟨hb, m, ad, c, rfl, hs, hp⟩
/-- and a layer and a number -/
def RLAns (n : Int) (P : List Tr → List Tr → Prop) (w : World) (e : Ending) (w' : World) : Prop := RowKit.Below w.heap.size w w' ∧ ∃ (m1 : List Tr) (a1 : Option Addr) (c1 : Nat) (m2 : List Tr) (a2 : Option Addr) (c2 : Nat), e = .returned (.tuple #[.agg #[.slice a1 m1.length c1, .slice a2 m2.length c2], .int .i64 n]) ∧ SlT w' a1 m1 ∧ SlT w' a2 m2 ∧ P m1 m2
theorem RLAns.mk {n : Int} {P : List Tr → List Tr → Prop} {w w' : World} (hb : RowKit.Below w.heap.size w w') (m1 : List Tr) (a1 : Option Addr) (c1 : Nat) (m2 : List Tr) (a2 : Option Addr) (c2 : Nat) (h1 : SlT w' a1 m1) (h2 : SlT w' a2 m2) (hp : P m1 m2) : RLAns n P w (.returned (.tuple #[.agg #[.slice a1 m1.length c1, .slice a2 m2.length c2], .int .i64 n])) w' := ⟨hb, m1, a1, c1, m2, a2, c2, rfl, h1, h2, hp⟩

theorem rapply_keep {B : Nat} {sd ad bd : Option Addr} {ca cb : Nat} {s a b : List Tr} {W W' : World} (h : W.cell? ⟨B, 0, none⟩ = some (.slice ad a.length ca) ∧ W.cell? ⟨B, 1, none⟩ = some (.slice bd b.length cb) ∧ SlT W sd s ∧ SlT W ad a ∧ SlT W bd b) (hb : RowKit.Below W.heap.size W W') : W'.cell? ⟨B, 0, none⟩ = some (.slice ad a.length ca) ∧ W'.cell? ⟨B, 1, none⟩ = some (.slice bd b.length cb) ∧ SlT W' sd s ∧ SlT W' ad a ∧ SlT W' bd b :=
  ⟨(hb.cell (World.block_lt_of_cell? W _ h.1)).trans h.1, (hb.cell (World.block_lt_of_cell? W _ h.2.1)).trans h.2.1, h.2.2.1.below hb, h.2.2.2.1.below hb, h.2.2.2.2.below hb⟩

/-- the numbers of Apply, both right -/
theorem applyN_right {s a b : List Tr} (ss : IsSet s) (sa : IsSet a) (sb : IsSet b) (hab : apartN a b = 0) :
    applyN s a b = if (bothL a s).length = 0 then (if (lessL b s).length = 0 then (if (lessL s b).length + (lessL a (lessL s b)).length ≤ 200 then 0 else 4) else 5) else 7 := by
  unfold applyN
  rw [orN_pos (sortedN_set.2 ss), orN_pos hab]
  unfold apartN withinN swapN joinN
  rw [orN_pos (bothN_zero.2 ⟨ss, sa⟩), orN_pos (bothN_zero.2 ⟨sb, ss⟩), orN_pos (bothN_zero.2 ⟨ss, sb⟩), if_pos (bothN_zero.2 ⟨lessSet ss, sa⟩)]
  by_cases h1 : (bothL a s).length = 0
  · rw [if_pos h1, if_pos (both_none.1 h1), orN_pos rfl]
    by_cases h2 : (lessL b s).length = 0
    · rw [if_pos h2, if_pos h2, orN_pos rfl]
    · rw [if_neg h2, if_neg h2, orN_neg (by decide)]
  · rw [if_neg h1, if_neg (fun h => h1 (both_none.2 h)), orN_neg (by decide)]

set_option maxHeartbeats 4000000 in
set_option maxRecDepth 100000 in
theorem RApply_any (sd ad bd : Option Addr) (cs ca cb : Nat) (s a b : List Tr) (w : World) (hs : SlT w sd s) (ha : SlT w ad a) (hb : SlT w bd b) (ss : IsSet s) (sa : IsSet a) (sb : IsSet b) (hab : apartN a b = 0) :
    Calls Tryz.prog 36 #[.slice sd s.length cs, .agg #[.slice ad a.length ca, .slice bd b.length cb]] w (RAns (applyN s a b) (ApplyAns s a b) w) := by
  have HS : Hid (SlT w sd s ∧ SlT w ad a ∧ SlT w bd b) := ⟨hs, ha, hb⟩
  have H1 := fun W h1 h2 => RBoth_any ad sd ca cs a s W h1 h2 sa.1 ss.1
  have H2 := fun W h1 h2 => RLess_any bd sd cb cs b s W h1 h2 sb.1 ss.1
  have H3 := fun (W : World) (h : W.cell? ⟨w.heap.size, 0, none⟩ = some (.slice ad a.length ca) ∧ W.cell? ⟨w.heap.size, 1, none⟩ = some (.slice bd b.length cb) ∧ SlT W sd s ∧ SlT W ad a ∧ SlT W bd b) => RLess_any sd bd cs cb s b W h.2.2.1 h.2.2.2.2 ss.1 sb.1
  have H4 := fun W al cl h1 h2 => RUnion_any al ad cl ca (lessL s b) a W h1 h2 (lenLess ss.1) sa.1
  have fin : Hid (applyN s a b = if (bothL a s).length = 0 then (if (lessL b s).length = 0 then (if (lessL s b).length + (lessL a (lessL s b)).length ≤ 200 then 0 else 4) else 5) else 7) := applyN_right ss sa sb hab
  have hlen : Hid (∀ m, JoinOf (lessL s b) a m → m.length = (lessL s b).length + (lessL a (lessL s b)).length) := fun m hm => hm.len (lessSet ss).2.2 sa.2.2
  have hmax : Hid ((lessL s b).length + (lessL a (lessL s b)).length ≤ 400) := by have h1 := lenLess (b := b) ss.1; have h2 := lenLess (b := lessL s b) sa.1; show _ ≤ _; omega
  have f0 : Hid (∀ n, applyN s a b = n → ¬ n = 0 → ApplyAns s a b []) := fun n h h0 => ⟨fun e => absurd (h.symm.trans e) h0, fun _ => rfl⟩
  have f1 : Hid (∀ m, applyN s a b = 0 → JoinOf (lessL s b) a m → ApplyAns s a b m) := fun m h hm => ⟨fun _ => hm, fun e => absurd h e⟩
  have l1 := lenBoth (b := s) sa.1
  have l2 := lenLess (b := s) sb.1
  generalize applyN s a b = N at *
  generalize ApplyAns s a b = AA at *
  generalize JoinOf (lessL s b) a = JO at *
  generalize (lessL s b).length + (lessL a (lessL s b)).length = K at *
  generalize bothL a s = B1 at *
  generalize lessL b s = B2 at *
  generalize lessL s b = B3 at *
  clear hs ha hb ss sa sb hab
  go_enter Tryz.func36, Tryz.ntmps36
  go_wp2_with fail
  refine (H1 _ (HS.out.2.1.below (balloc _ _)) (HS.out.1.below (balloc _ _))).mono ?_
  rintro e w1 ⟨a1, c1, rfl, _, hb1⟩
  have hB1 := bstep (balloc _ _) hb1
  obtain ⟨x0, x1, _, _, _⟩ := twobox hb1
  clear H1
  by_cases hz1 : B1.length = 0
  · have hd1 : decide (0 < B1.length) = false := decide_eq_false (by omega)
    have g1 : Hid (N = (if B2.length = 0 then (if K ≤ 200 then 0 else 4) else 5)) := by have := fin.out; rw [if_pos hz1] at this; exact this
    clear hz1 fin
    go_wp2_with fail
    refine (H2 _ (HS.out.2.2.below hB1) (HS.out.1.below hB1)).mono ?_
    rintro e w2 ⟨a2, c2, rfl, _, hb2⟩
    have hB2 := bstep hB1 hb2
    have hb2' := bstep hb1 hb2
    clear x0 x1 H2 hb1 hb2
    obtain ⟨x0, x1, _, _, _⟩ := twobox hb2'
    by_cases hz2 : B2.length = 0
    · have hd2 : decide (0 < B2.length) = false := decide_eq_false (by omega)
      have g2 : Hid (N = (if K ≤ 200 then 0 else 4)) := by have := g1.out; rw [if_pos hz2] at this; exact this
      clear hz2 g1
      go_wp2_with fail
      have zs : SlT w2.drew sd s := (HS.out.1.below hB2 : SlT w2 sd s)
      have za : SlT w2.drew ad a := (HS.out.2.1.below hB2 : SlT w2 ad a)
      have zb : SlT w2.drew bd b := (HS.out.2.2.below hB2 : SlT w2 bd b)
      go_region_held3 (fun W => W.cell? ⟨w.heap.size, 0, none⟩ = some (.slice ad a.length ca) ∧ W.cell? ⟨w.heap.size, 1, none⟩ = some (.slice bd b.length cb) ∧ SlT W sd s ∧ SlT W ad a ∧ SlT W bd b) (first | exact rapply_keep (by assumption) hb4 | exact rapply_keep (by assumption) hb3 | go_keep) (first
        | (go_at_call 64; refine (H3 _ (by assumption)).mono ?_; rintro e w3 ⟨a3, c3, rfl, g3, hb3⟩; have za3 : SlT w3 ad a := za.below hb3)
        | (go_at_call 74; refine (H4 _ a3 c3 g3 za3).mono ?_; rintro e w4 ⟨m, a4, c4, rfl, g4, hJ, hb4⟩))
      have hB4 := bstep (bstep hB2.drew hb3) hb4
      have hK := hlen.out m hJ
      have Hm : Hid (SlT w4 a4 m ∧ JO m) := ⟨g4, hJ⟩
      have hmx := hmax.out
      clear g3 za3 g4 hJ zs za zb hlen hmax
      by_cases hz3 : K ≤ 200
      · have hN : N = 0 := by have := g2.out; rw [if_pos hz3] at this; exact this
        have F1 : Hid _ := f1.out m hN Hm.out.2
        have hd3 : decide ((m.length : Int) > 200) = false := decide_eq_false (by omega)
        subst hN
        have hm4 : m.length ≤ 400 := by omega
        clear hz3 g2 hK f0 f1 hmx
        go_wp2_with fail
        exact bodyPost_ret (v := .tuple #[.slice a4 m.length c4, .int .i64 0]) (by simp [results, Tryz.results36, go_sem]) rfl (RAns.mk hB4 m a4 c4 Hm.out.1 F1.out)
      · have hN : N = 4 := by have := g2.out; rw [if_neg hz3] at this; exact this
        have F0 : Hid _ := f0.out _ hN (by decide)
        have hd3 : decide ((m.length : Int) > 200) = true := decide_eq_true (by omega)
        subst hN
        have hm4 : m.length ≤ 400 := by omega
        clear hz3 g2 hK f0 f1 hmx
        go_wp2_with fail
        exact bodyPost_ret (v := .tuple #[.slice none 0 0, .int .i64 4]) (by simp [results, Tryz.results36, go_sem]) rfl (RAns.mk hB4 [] none 0 (slT_nil _ _) F0.out)
    · have hd2 : decide (0 < B2.length) = true := decide_eq_true (by omega)
      have hN : N = 5 := by have := g1.out; rw [if_neg hz2] at this; exact this
      have F0 : Hid _ := f0.out _ hN (by decide)
      subst hN
      clear hz2 g1 f0 f1 H3 H4 hlen hmax
      go_wp2_with fail
      exact bodyPost_ret (v := .tuple #[.slice none 0 0, .int .i64 5]) (by simp [results, Tryz.results36, go_sem]) rfl (RAns.mk hB2 [] none 0 (slT_nil _ _) F0.out)
  · have hd1 : decide (0 < B1.length) = true := decide_eq_true (by omega)
    have hN : N = 7 := by have := fin.out; rw [if_neg hz1] at this; exact this
    have F0 : Hid _ := f0.out _ hN (by decide)
    subst hN
    clear hz1 fin f0 f1 H2 H3 H4 hlen hmax
    go_wp2_with fail
    exact bodyPost_ret (v := .tuple #[.slice none 0 0, .int .i64 7]) (by simp [results, Tryz.results36, go_sem]) rfl (RAns.mk hB1 [] none 0 (slT_nil _ _) F0.out)
end Go.Proofs.YtnlcfnpcjkcdmafGreatDoor

/- errors.As at a target of type api.Errno, of an error that is one; plain.Told. Go's own text is walked; the facts are on the model's entries for internal/reflectlite at this program's types. -/
namespace Go.Proofs.YtnlcfnpcjkcdmafGreatDoor
open Go Go.RowKit Go.Extern.Stop Go.Stop Go.Extern

theorem valueOfP (t : Addr) (w : World) : (ReflectliteValue.unpack (.iface 145 (.pointer (some t)))).run Tryz.prog w
    = .ok (.agg #[.pointer (some ⟨2, 145, none⟩), .pointer (some ⟨w.heap.size, 0, none⟩), .int .u64 150]) (w.alloc (.cells #[.pointer (some t)] 145)) := by kernel_rfl
theorem typeP (a : Addr) (w : World) : (ReflectliteValue.methodAny (ReflectliteValue.valueError "reflectlite.Value.Type" 0) (fun t _ _ _ => ReflectliteType.toType t) #[.agg #[.pointer (some ⟨2, 145, none⟩), .pointer (some a), .int .u64 150]]).run Tryz.prog w
    = .ok (.iface 223 (.agg #[.pointer (some ⟨2, 145, none⟩)])) w := by kernel_rfl
theorem kindP (w : World) : ((ReflectliteType.abiMethod fun t => (fun a : Nat => Value.int IntKind.u8 (a : Int)) <$> Rtype.kind t) #[.pointer (some ⟨2, 145, none⟩)]).run Tryz.prog w = .ok (.int .u8 22) w := by kernel_rfl
theorem kindE (w : World) : ((ReflectliteType.abiMethod fun t => (fun a : Nat => Value.int IntKind.u8 (a : Int)) <$> Rtype.kind t) #[.pointer (some ⟨2, 91, none⟩)]).run Tryz.prog w = .ok (.int .u8 2) w := by kernel_rfl
theorem methodKind (h : Value) (w : World) : (Go.method 436 223 (.agg #[h]) "Kind").run Tryz.prog w = .ok (274, h) w := by kernel_rfl
theorem methodElem (h : Value) (w : World) : (Go.method 436 223 (.agg #[h]) "Elem").run Tryz.prog w = .ok (285, .agg #[h]) w := by kernel_rfl
theorem methodImplements (h : Value) (w : World) : (Go.method 436 223 (.agg #[h]) "Implements").run Tryz.prog w = .ok (286, .agg #[h]) w := by kernel_rfl
theorem methodAssignableTo (h : Value) (w : World) : (Go.method 436 223 (.agg #[h]) "AssignableTo").run Tryz.prog w = .ok (283, .agg #[h]) w := by kernel_rfl
theorem rlm (z : Sem Value) (f : TypeId → Addr → Nat → Nat → Sem Value) (v : Value) :
    ReflectliteValue.method z f #[v] = (do match ← ReflectliteValue.parts v with | none => z | some (t, a, fl) => f t a fl (fl % 32)) := rfl
theorem partsP (a : Addr) (w : World) : (ReflectliteValue.parts (.agg #[.pointer (some ⟨2, 145, none⟩), .pointer (some a), .int .u64 150])).run Tryz.prog w = .ok (some (145, a, 150)) w := by kernel_rfl
theorem isNilP (a p : Addr) (W : World) (ha : W.cell? a = some (.pointer (some p))) :
    (ReflectliteValue.method (ReflectliteValue.valueError "reflectlite.Value.IsNil" 0) ReflectliteValue.isNil #[.agg #[.pointer (some ⟨2, 145, none⟩), .pointer (some a), .int .u64 150]]).run Tryz.prog W = .ok (.bool false) W := by
  rw [rlm]
  simp only [Sem.run_bind, partsP, Result.andThen]
  simp [ReflectliteValue.isNil, loadVar, isAgg, underlying, Tryz.underlying145, ha, Result.andThen]
theorem elemTP (w : World) : (ReflectliteType.method ReflectliteType.elem #[.agg #[.pointer (some ⟨2, 145, none⟩)]]).run Tryz.prog w = .ok (.iface 223 (.agg #[.pointer (some ⟨2, 91, none⟩)])) w := by kernel_rfl
theorem implementsE (w : World) : (ReflectliteType.relation "Implements" ReflectliteType.implements_ #[.agg #[.pointer (some ⟨2, 91, none⟩)], .iface 223 (.agg #[.pointer (some ⟨2, 25, none⟩)])]).run Tryz.prog w = .ok (.bool true) w := by kernel_rfl
theorem typeOfE (v : Value) (w : World) : (ReflectliteType.typeOf #[.iface 91 v]).run Tryz.prog w = .ok (.iface 223 (.agg #[.pointer (some ⟨2, 91, none⟩)])) w := by kernel_rfl
theorem assignableE (w : World) : (ReflectliteType.relation "AssignableTo" ReflectliteType.assignableTo #[.agg #[.pointer (some ⟨2, 91, none⟩)], .iface 223 (.agg #[.pointer (some ⟨2, 91, none⟩)])]).run Tryz.prog w = .ok (.bool true) w := by kernel_rfl
theorem valueOfE (n : Int) (w : World) : (ReflectliteValue.unpack (.iface 91 (.int .i64 n))).run Tryz.prog w
    = .ok (.agg #[.pointer (some ⟨2, 91, none⟩), .pointer (some ⟨w.heap.size, 0, none⟩), .int .u64 130]) (w.alloc (.cells #[.int .i64 n] 91)) := by kernel_rfl
theorem elemOfP (w : World) : (Rtype.elem? 145).run Tryz.prog w = .ok (some 91) w := by kernel_rfl
theorem mkE (p : Addr) (w : World) : (ReflectliteValue.mk 91 p ReflectliteValue.flagAddr).run Tryz.prog w = .ok (.agg #[.pointer (some ⟨2, 91, none⟩), .pointer (some p), .int .u64 386]) w := by kernel_rfl
theorem elemVP (a p : Addr) (W : World) (ha : W.cell? a = some (.pointer (some p))) :
    (ReflectliteValue.method (ReflectliteValue.valueError "reflectlite.Value.Elem" 0) ReflectliteValue.elem #[.agg #[.pointer (some ⟨2, 145, none⟩), .pointer (some a), .int .u64 150]]).run Tryz.prog W
      = .ok (.agg #[.pointer (some ⟨2, 91, none⟩), .pointer (some p), .int .u64 386]) W := by
  rw [rlm]
  simp only [Sem.run_bind, partsP, Result.andThen]
  simp [ReflectliteValue.elem, loadVar, isAgg, underlying, Tryz.underlying145, ha, Result.andThen, elemOfP, mkE]
theorem partsEa (a : Addr) (w : World) : (ReflectliteValue.parts (.agg #[.pointer (some ⟨2, 91, none⟩), .pointer (some a), .int .u64 386])).run Tryz.prog w = .ok (some (91, a, 386)) w := by kernel_rfl
theorem partsE (a : Addr) (w : World) : (ReflectliteValue.parts (.agg #[.pointer (some ⟨2, 91, none⟩), .pointer (some a), .int .u64 130])).run Tryz.prog w = .ok (some (91, a, 130)) w := by kernel_rfl
theorem directE (w : World) : (Rtype.directlyAssignable 91 91).run Tryz.prog w = .ok true w := by kernel_rfl
theorem setE (ta b : Addr) (n : Int) (old : Value) (W : World) (hb : W.cell? b = some (.int .i64 n)) (ht : W.cell? ta = some old) (hf : W.frozen? ta = false) :
    (ReflectliteValue.set #[.agg #[.pointer (some ⟨2, 91, none⟩), .pointer (some ta), .int .u64 386], .agg #[.pointer (some ⟨2, 91, none⟩), .pointer (some b), .int .u64 130]]).run Tryz.prog W
      = .ok (.tuple #[]) (W.setCell ta (.int .i64 n)) := by
  change Sem.run _ (ReflectliteValue.parts (.agg #[.pointer (some ⟨2, 91, none⟩), .pointer (some ta), .int .u64 386]) >>= fun p1 => ReflectliteValue.parts (.agg #[.pointer (some ⟨2, 91, none⟩), .pointer (some b), .int .u64 130]) >>= fun p2 => _) _ = _
  simp only [Sem.run_bind, partsEa, partsE, Result.andThen]
  simp [ReflectliteValue.flagAddr, loadVar, isAgg, underlying, Tryz.underlying91, hb, Result.andThen, directE, storeVar, Value.cells, storeCells, Addr.add]
  rw [run_store Tryz.prog W ta _ _ (by rfl)]
  simp [ht, hf]

end Go.Proofs.YtnlcfnpcjkcdmafGreatDoor
