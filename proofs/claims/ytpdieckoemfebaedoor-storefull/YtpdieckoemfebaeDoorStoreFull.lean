/- stratalaw4.StoreFull: the walk. -/
import Derived.Test.YtpdieckoemfebaeDoorStoreFace
import Derived.Test.YtpdieckoemfebaeDoorAs
import Derived.Test.YtpdieckoemfebaeDoorStoreFullPlain
import Derived.Deep.DeepCutAuto
import Derived.Deep.CutBlock
namespace Go.Proofs.YtpdieckoemfebaeDoor
open Go Go.RowKit Go.Proofs
set_option synthInstance.maxSize 1000

theorem catO (x y : List UInt8) : (⟨x.toArray⟩ : ByteArray) ++ ⟨y.toArray⟩ = ⟨(x ++ y).toArray⟩ := by
  apply ByteArray.ext
  simp [ByteArray.data_append]
set_option maxRecDepth 100000 in
theorem sliceO (a : Nat) (h : a < 26) (w : World) : (Instr.sliceAt 9 (.string ⟨#[97, 98, 99, 100, 101, 102, 103, 104, 105, 106, 107, 108, 109, 110, 111, 112, 113, 114, 115, 116, 117, 118, 119, 120, 121, 122]⟩) (some (.int .i64 (a : Int))) (some (.int .i64 ((a : Int) + 1))) none).run Tryd.prog w = .ok (.string ⟨#[letO a]⟩) w := by
  rcases (by omega : a = 0 ∨ a = 1 ∨ a = 2 ∨ a = 3 ∨ a = 4 ∨ a = 5 ∨ a = 6 ∨ a = 7 ∨ a = 8 ∨ a = 9 ∨ a = 10 ∨ a = 11 ∨ a = 12 ∨ a = 13 ∨ a = 14 ∨ a = 15 ∨ a = 16 ∨ a = 17 ∨ a = 18 ∨ a = 19 ∨ a = 20 ∨ a = 21 ∨ a = 22 ∨ a = 23 ∨ a = 24 ∨ a = 25) with rfl | rfl | rfl | rfl | rfl | rfl | rfl | rfl | rfl | rfl | rfl | rfl | rfl | rfl | rfl | rfl | rfl | rfl | rfl | rfl | rfl | rfl | rfl | rfl | rfl | rfl
  all_goals kernel_rfl
set_option maxRecDepth 100000 in
theorem extX (k : Nat) (h : k ≤ 50) : (⟨#[120, 120, 120, 120, 120, 120, 120, 120, 120, 120, 120, 120, 120, 120, 120, 120, 120, 120, 120, 120, 120, 120, 120, 120, 120, 120, 120, 120, 120, 120, 120, 120, 120, 120, 120, 120, 120, 120, 120, 120, 120, 120, 120, 120, 120, 120, 120, 120, 120, 120]⟩ : ByteArray).extract 0 k = ⟨(List.replicate k (120 : UInt8)).toArray⟩ := by
  rw [show (#[120, 120, 120, 120, 120, 120, 120, 120, 120, 120, 120, 120, 120, 120, 120, 120, 120, 120, 120, 120, 120, 120, 120, 120, 120, 120, 120, 120, 120, 120, 120, 120, 120, 120, 120, 120, 120, 120, 120, 120, 120, 120, 120, 120, 120, 120, 120, 120, 120, 120] : Array UInt8) = (List.replicate 50 (120 : UInt8)).toArray from rfl]
  apply ByteArray.ext
  rw [ByteArray.data_extract]
  simp only [List.extract_toArray, List.extract_eq_take_drop, List.drop_zero, Nat.sub_zero, List.take_replicate]
  rw [show min k 50 = k by omega]
set_option maxHeartbeats 2000000 in
set_option maxRecDepth 100000 in
theorem textO_any (n : Nat) (w : World) (hn : n ≤ 1000000) : Calls Tryd.prog 6 #[.int .i64 n] w fun e w' => e = .returned (.agg #[.int .i64 3, .string ⟨[letO (n / 26 % 26), letO (n % 26)].toArray⟩, .string ⟨#[]⟩]) ∧ RowKit.Below w.heap.size w w' := by
  have ea : ((n : Int) / 26 % 26) = ((n / 26 % 26 : Nat) : Int) := by omega
  have eb : ((n : Int) % 26) = ((n % 26 : Nat) : Int) := by omega
  have sa := sliceO (n / 26 % 26) (by omega)
  have sb := sliceO (n % 26) (by omega)
  have la : n / 26 % 26 < 26 := by omega
  have lb : n % 26 < 26 := by omega
  have EA := hideO ea
  have EB := hideO eb
  clear ea eb
  generalize n / 26 % 26 = a at *
  generalize n % 26 = b at *
  have fin : Hid ((⟨#[letO a]⟩ : ByteArray) ++ ⟨#[letO b]⟩ = ⟨[letO a, letO b].toArray⟩) := catO [letO a] [letO b]
  generalize (⟨[letO a, letO b].toArray⟩ : ByteArray) = v at *
  go_enter Tryd.func6, Tryd.ntmps6
  go_wp2_with fail
  rw [EA.out, EB.out]
  go_region
  go_wp2_with fail
  exact bodyPost_ret (v := .agg #[.int .i64 3, .string ((⟨#[letO a]⟩ : ByteArray) ++ ⟨#[letO b]⟩), .string ⟨#[]⟩]) (by unfold results; rw [Tryd.results6]; go_simp) rfl ⟨by rw [fin.out], (balloc _ _).drew⟩

theorem fullL_good (s : Nat) (h : 2 ≤ s) (h9 : s ≤ 1000) : ∀ i, i ≤ 400 → GoodO (min i (capN s)) (fullL s i) := by
  intro i
  induction i with
  | zero => intro _; have : fullL s 0 = [] := by simp [fullL]
            rw [this]; exact goodO_nil _
  | succ i ih =>
    intro hi
    have h1 := (ih (by omega)).put (padT s i)
    obtain ⟨_, _, e3, e4⟩ := full_put h h9 (show i < 676 by omega)
    rw [e3, e4] at h1
    exact h1

theorem SB.full1 {F : Face} {w0 : World} {s k Z : Nat} {W : World} (h : SB F w0 s (min k (capN Z)) (fullL Z k) W) (h2 : 2 ≤ Z) (h9 : Z ≤ 1000) (hk : k ≤ 399) (hl : 1000 ≤ F.lim) :
    Calls Tryd.prog 7 #[.pointer (some ⟨s, 0, none⟩), .string ⟨(padT Z k).toArray⟩] W fun e W' => e = .returned (.tuple #[.int .i64 ((if k < capN Z then k + 1 else 0 : Nat) : Int), errV (if k < capN Z then 0 else 4)]) ∧ SB F w0 s (min (k + 1) (capN Z)) (fullL Z (k + 1)) W' := by
  have h1 := h.put (padT Z k) (fullL_good Z h2 h9 k (by omega)) (by omega) (by rw [padT_len h2]; omega)
  obtain ⟨e1, e2, e3, e4⟩ := full_put h2 h9 (show k < 676 by omega)
  rw [e1, e2, e3, e4] at h1
  exact h1
theorem SB.full2 {F : Face} {w0 : World} {s k Z : Nat} {W : World} (h : SB F w0 s (min (k + 1) (capN Z)) (fullL Z (k + 1)) W) (h2 : 2 ≤ Z) (h9 : Z ≤ 1000) (hk : k ≤ 399) (hl : 1000 ≤ F.lim) :
    Calls Tryd.prog 7 #[.pointer (some ⟨s, 0, none⟩), .string ⟨(padT Z k).toArray⟩] W fun e W' => e = .returned (.tuple #[.int .i64 ((if k < capN Z then k + 1 else 0 : Nat) : Int), errV (if k < capN Z then 0 else 4)]) ∧ SB F w0 s (min (k + 1) (capN Z)) (fullL Z (k + 1)) W' := by
  have h1 := h.put (padT Z k) (fullL_good Z h2 h9 (k + 1) (by omega)) (by omega) (by rw [padT_len h2]; omega)
  obtain ⟨e1, e2, e3, e4⟩ := full_again h2 h9 (show k < 676 by omega)
  rw [e1, e2, e3, e4] at h1
  exact h1

/-- a text that is being made longer -/
def PadB (a : List UInt8) (B : List UInt8) : Prop := ∃ t, B = a ++ List.replicate t 120
theorem PadB.more {a B : List UInt8} (h : PadB a B) (k : Nat) : PadB a (B ++ List.replicate k 120) := by
  obtain ⟨t, rfl⟩ := h
  exact ⟨t + k, by rw [List.append_assoc, List.replicate_append_replicate]⟩
theorem PadB.done {S i : Nat} {B : List UInt8} (h : PadB [letO (i / 26 % 26), letO (i % 26)] B) (hl : B.length = S) : B = padT S i := by
  obtain ⟨t, rfl⟩ := h
  unfold padT
  simp at hl
  rw [show S - 2 = t by omega]

set_option maxHeartbeats 8000000 in
set_option maxRecDepth 100000 in
theorem storeFull_any (F : Face) (n S : Int) (w : World) (hg : errVar w) (hlim : 1000 ≤ F.lim) :
    Calls Tryd.prog 3 #[.int .i64 n, .int .i64 S] w fun e w' => e = .returned (.bool true) ∧ RowKit.Below w.heap.size w w' := by
  have HN := F.new w
  have Hg := hideO hg
  clear hg
  by_cases hr : 0 ≤ n ∧ n ≤ 320 ∧ 2 ≤ S ∧ S ≤ 1000
  · obtain ⟨N, rfl⟩ : ∃ N : Nat, n = (N : Int) := ⟨n.toNat, by omega⟩
    obtain ⟨Z, rfl⟩ : ∃ Z : Nat, S = (Z : Int) := ⟨S.toNat, by omega⟩
    have hN : N ≤ 320 := by omega
    have hZ2 : 2 ≤ Z := by omega
    have hZ9 : Z ≤ 1000 := by omega
    have g1 : ¬ ((N : Int) < 0) := by omega
    have g2 : ¬ (320 < (N : Int)) := by omega
    have g3 : ¬ ((Z : Int) < 2) := by omega
    have g4 : ¬ (1000 < (Z : Int)) := by omega
    clear hr
    go_enter Tryd.func3, Tryd.ntmps3
    go_wp2_with fail
    refine HN.mono ?_
    rintro e w1 ⟨s, O, rfl, hA, hb1, hO⟩
    have hst1 : Hid (SB F w s 0 [] w1) := ⟨O, hA, hb1, hO⟩
    clear hA hb1 hO HN
    go_wp2_with fail
    go_loopw [6] (fun i wr => ∃ (k : Nat), k ≤ N ∧ i = .int .i64 k ∧ Hid (SB F w s (min k (capN Z)) (fullL Z k) wr)) (fun i wr => N - (intOf i).toNat)
    case atStart => exact ⟨0, by omega, rfl, by simpa [fullL] using hst1⟩
    case round =>
      obtain ⟨k, hk, rfl, hst⟩ := hrel
      by_cases hkN : k < N
      · have hG := hideO (fullL_good Z hZ2 hZ9 k (by omega))
        have HT := fun W => textO_any k W (by omega)
        have i1 : (k : Int) < (N : Int) := by omega
        have hk6 : k < 676 := by omega
        have hPad : Hid (PadB [letO (k / 26 % 26), letO (k % 26)] [letO (k / 26 % 26), letO (k % 26)]) := ⟨0, by simp⟩
        have hDone : Hid (∀ B, PadB [letO (k / 26 % 26), letO (k % 26)] B → B.length = Z → B = padT Z k) := fun B h1 h2 => h1.done h2
        generalize hab : [letO (k / 26 % 26), letO (k % 26)] = ab at *
        have hab2 : ab.length ≤ Z := by rw [← hab]; exact hZ2
        clear hab
        go_wp2_with fail
        refine (HT _).mono ?_
        rintro e w2 ⟨rfl, hb2⟩
        have hst2 := hideO (hst.out.below hb2)
        clear hst hb2 HT
        dsimp only
        go_upto_block 2 with fail
        go_cut [8, 9] (fun b _ W' => b = .string ⟨(padT Z k).toArray⟩ ∧ Hid (SB F w s (min k (capN Z)) (fullL Z k) W'))
        case first =>
          go_wp2_with fail
          go_loopw [8, 9] (fun b _ W' => ∃ B : List UInt8, b = .string ⟨B.toArray⟩ ∧ B.length ≤ Z ∧ Hid (PadB ab B) ∧ Hid (SB F w s (min k (capN Z)) (fullL Z k) W')) (fun b _ W' => Z - (match b with | .string x => x.size | _ => 0))
          case atStart => exact ⟨ab, rfl, hab2, hPad, hst2.out.below (balloc _ _)⟩
          case round =>
            obtain ⟨B, rfl, hB, hP, hs3⟩ := hrel
            by_cases hlt : B.length < Z
            · have j1 : (B.length : Int) < (Z : Int) := by omega
              by_cases h5 : 50 < Z - B.length
              · have j2 : 50 < (Z : Int) - (B.length : Int) := by omega
                have hx := hideO (extX 50 (by omega))
                have hc := hideO (catO B (List.replicate 50 (120 : UInt8)))
                have hP2 := hideO (hP.out.more 50)
                go_wp2_with fail
                go_roundw
                case rel => exact ⟨B ++ List.replicate 50 (120 : UInt8), by rw [hx.out, hc.out], by simp; omega, hP2, hs3⟩
                case measure => rw [hx.out, hc.out]; simp [ByteArray.size]; omega
              · have j2 : decide (50 < (Z : Int) - (B.length : Int)) = false := by simp; omega
                have j3 : (0 : Int) ≤ (Z : Int) - (B.length : Int) := by omega
                have j4 : (Z : Int) - (B.length : Int) ≤ 50 := by omega
                have hx := hideO (extX (Z - B.length) (by omega))
                have hc := hideO (catO B (List.replicate (Z - B.length) (120 : UInt8)))
                have hP2 := hideO (hP.out.more (Z - B.length))
                go_wp2_with fail
                go_roundw
                case rel => exact ⟨B ++ List.replicate (Z - B.length) (120 : UInt8), by rw [hx.out, hc.out], by simp; omega, hP2, hs3⟩
                case measure => rw [hx.out, hc.out]; simp [ByteArray.size]; omega
            · have j1 : ¬ ((B.length : Int) < (Z : Int)) := by omega
              have hd := hideO (hDone.out B hP.out (by omega))
              go_wp2_with fail
              go_meet
              case rel => exact ⟨by rw [hd.out], hs3⟩
        case rest =>
          obtain ⟨rfl, hs3⟩ := hcut
          have H1 := fun W (h : SB F w s (min k (capN Z)) (fullL Z k) W) => h.full1 hZ2 hZ9 (show k ≤ 399 by omega) hlim
          have H2 := fun W (h : SB F w s (min (k + 1) (capN Z)) (fullL Z (k + 1)) W) => h.full2 hZ2 hZ9 (show k ≤ 399 by omega) hlim
          have HE := fun m W (h : SB F w s (min (k + 1) (capN Z)) (fullL Z (k + 1)) W) => SameError_any m 4 W (Hg.out.below h.low)
          have hM : Hid (∀ M : Nat, (k + 1) * Z = M → ((k : Int) + 1) * (Z : Int) = (M : Int)) := fun M h => by rw [← h]; simp
          have hMb : (k + 1) * Z ≤ 321 * 1000 := Nat.mul_le_mul (by omega) hZ9
          have hfit := hideO (@cap_fits Z k hZ2)
          have hgM := hideO (hM.out _ rfl)
          generalize (k + 1) * Z = M at *
          clear hPad hDone hab2 hM hG
          generalize padT Z k = P at *
          generalize fullL Z k = L0 at *
          generalize hL1 : fullL Z (k + 1) = L1 at *
          have HL1 := hideO hL1
          clear hL1
          generalize min k (capN Z) = n0 at *
          by_cases hi : k < capN Z
          · obtain ⟨f1, f2⟩ := hfit.out.1 hi
            simp only [if_pos hi] at H1 H2
            have f1' : (k : Int) < 300 := by omega
            have E0 := HE 0
            rw [show errV 0 = .nilIface from rfl] at H1 H2 E0
            rw [show ((0 : Int) == 4) = false by decide] at E0
            have hw : RowKit.wrap64 (((k : Int) + 1) * (Z : Int)) = (M : Int) := by rw [hgM.out]; unfold RowKit.wrap64; omega
            have hw' : ((k : Int) + 1) * (Z : Int) = (M : Int) := hgM.out
            have f3 : (M : Int) ≤ 60000 := by omega
            clear hi
            go_wp2_with fail
            refine (H1 _ hs3.out).mono ?_
            rintro e w4 ⟨rfl, hst4⟩
            have Hst4 := hideO hst4
            clear hst4 H1 hs3
            dsimp only
            go_wp2_with fail
            refine (E0 _ Hst4.out).mono ?_
            rintro e w5 ⟨rfl, hb5⟩
            have Hst5 := hideO (Hst4.out.below hb5)
            clear hb5 HE E0 Hst4
            dsimp only
            go_wp2_with fail
            refine (H2 _ Hst5.out).mono ?_
            rintro e w6 ⟨rfl, hst6⟩
            have Hst6 := hideO hst6
            clear hst6 H2 Hst5
            dsimp only
            go_wp2_with fail
            go_roundw
            case rel => exact ⟨k + 1, by omega, by go_num, by rw [HL1.out]; exact Hst6⟩
            case measure => simp [intOf]; omega
          · simp only [if_neg hi] at H1 H2
            have E4 := HE 4
            rw [show errV 4 = .iface 62 (.int .i64 4) from rfl] at H1 H2 E4
            rw [show ((4 : Int) == 4) = true by decide] at E4
            by_cases h3 : k < 300
            · have f2 : ¬ M ≤ 60000 := fun h => hi (hfit.out.2 ⟨h3, h⟩)
              have f3 : ¬ ((M : Int) ≤ 60000) := by omega
              have f1' : (k : Int) < 300 := by omega
              have hw' : ((k : Int) + 1) * (Z : Int) = (M : Int) := hgM.out
              clear hi
              go_wp2_with fail
              refine (H1 _ hs3.out).mono ?_
              rintro e w4 ⟨rfl, hst4⟩
              have Hst4 := hideO hst4
              clear hst4 H1 hs3
              dsimp only
              go_wp2_with fail
              refine (E4 _ Hst4.out).mono ?_
              rintro e w5 ⟨rfl, hb5⟩
              have Hst5 := hideO (Hst4.out.below hb5)
              clear hb5 HE E4 Hst4
              dsimp only
              go_wp2_with fail
              refine (H2 _ Hst5.out).mono ?_
              rintro e w6 ⟨rfl, hst6⟩
              have Hst6 := hideO hst6
              clear hst6 H2 Hst5
              dsimp only
              go_wp2_with fail
              go_roundw
              case rel => exact ⟨k + 1, by omega, by go_num, by rw [HL1.out]; exact Hst6⟩
              case measure => simp [intOf]; omega
            · have f1' : ¬ ((k : Int) < 300) := by omega
              clear hi
              go_wp2_with fail
              refine (H1 _ hs3.out).mono ?_
              rintro e w4 ⟨rfl, hst4⟩
              have Hst4 := hideO hst4
              clear hst4 H1 hs3
              dsimp only
              go_wp2_with fail
              refine (E4 _ Hst4.out).mono ?_
              rintro e w5 ⟨rfl, hb5⟩
              have Hst5 := hideO (Hst4.out.below hb5)
              clear hb5 HE E4 Hst4
              dsimp only
              go_wp2_with fail
              refine (H2 _ Hst5.out).mono ?_
              rintro e w6 ⟨rfl, hst6⟩
              have Hst6 := hideO hst6
              clear hst6 H2 Hst5
              dsimp only
              go_wp2_with fail
              go_roundw
              case rel => exact ⟨k + 1, by omega, by go_num, by rw [HL1.out]; exact Hst6⟩
              case measure => simp [intOf]; omega
      · obtain rfl : k = N := by omega
        have HL := fun W h => @SB.len F w s _ _ W h (fullL_good Z hZ2 hZ9 k (by omega))
        have hl : (fullL Z k).length ≤ 300 := by rw [fullL_len]; unfold capN; omega
        generalize (fullL Z k).length = l at *
        have hl' : (l : Int) ≤ 300 := by omega
        go_wp2_with fail
        refine (HL _ hst.out).mono ?_
        rintro e w2 ⟨rfl, hb2⟩
        have hst2 := hideO (hst.out.below hb2)
        clear hst hb2 HL
        dsimp only
        go_wp2_with fail
        exact bodyPost_ret (v := .bool true) (by simp [results, Tryd.results3, go_sem]) rfl ⟨rfl, hst2.out.low⟩
  · by_cases g1 : n < 0
    · clear hr
      go_enter Tryd.func3, Tryd.ntmps3
      go_wp2_with fail
      refine HN.mono ?_
      rintro e w1 ⟨s, O, rfl, hA, hb1, hO⟩
      go_wp2_with fail
      exact bodyPost_ret (v := .bool true) (by simp [results, Tryd.results3, go_sem]) rfl ⟨rfl, hb1⟩
    · by_cases g2 : 320 < n
      · clear hr
        go_enter Tryd.func3, Tryd.ntmps3
        go_wp2_with fail
        refine HN.mono ?_
        rintro e w1 ⟨s, O, rfl, hA, hb1, hO⟩
        go_wp2_with fail
        exact bodyPost_ret (v := .bool true) (by simp [results, Tryd.results3, go_sem]) rfl ⟨rfl, hb1⟩
      · by_cases g3 : S < 2
        · clear hr
          go_enter Tryd.func3, Tryd.ntmps3
          go_wp2_with fail
          refine HN.mono ?_
          rintro e w1 ⟨s, O, rfl, hA, hb1, hO⟩
          go_wp2_with fail
          exact bodyPost_ret (v := .bool true) (by simp [results, Tryd.results3, go_sem]) rfl ⟨rfl, hb1⟩
        · have g4 : 1000 < S := by omega
          clear hr
          go_enter Tryd.func3, Tryd.ntmps3
          go_wp2_with fail
          refine HN.mono ?_
          rintro e w1 ⟨s, O, rfl, hA, hb1, hO⟩
          go_wp2_with fail
          exact bodyPost_ret (v := .bool true) (by simp [results, Tryd.results3, go_sem]) rfl ⟨rfl, hb1⟩
end Go.Proofs.YtpdieckoemfebaeDoor
