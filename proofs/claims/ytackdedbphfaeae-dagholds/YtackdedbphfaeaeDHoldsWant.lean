/- DagHolds: a commit's ancestors are itself and all of its parents'. -/
import Derived.Test.YtackdedbphfaeaeDHoldsMid
import Derived.Test.YtackdedbphfaeaeInNat
namespace Go.Proofs.Ytackdedbphfaeae
open Go Go.RowKit Go.Proofs
set_option synthInstance.maxSize 1000

set_option maxHeartbeats 32000000 in
set_option maxRecDepth 1000000 in
theorem dhWant (F : DFace) (u3 u4 u5 u6 u7 u8 u9 u11 u13 u14 u15 u16 u17 u18 u19 u20 u21 u22 u23 u24 u25 u26 u27 u28 u29 u30 u31 u32 u33 u34 u35 u36 u37 u38 u39 u40 u41 u42 u43 u44 u45 u46 u47 u48 u49 u50 u51 u52 u53 u54 u55 u56 u57 u58 u59 u60 u61 u62 u63 u64 u65 u66 u67 u68 u69 u70 u71 u72 u73 u74 u75 u76 u77 u78 u79 u80 u81 u82 u83 u84 u85 u86 u87 u88 u89 u90 u91 u92 u93 u94 u95 u96 u97 u98 u99 u100 u101 u102 u103 u104 u105 u106 u107 u108 u109 u110 u111 u112 u113 u114 u115 u116 u117 u118 u119 u120 u121 u122 u123 u124 u125 u126 u127 u128 u129 u130 u131 u132 u133 u134 u135 u136 u137 u138 u139 u140 u141 u142 u143 u144 u145 u146 u147 u148 u149 u150 u151 u152 u153 u154 u155 u156 u157 u158 u159 u160 u161 u162 u163 u164 u165 u166 u167 u168 u169 u170 u171 u172 u173 u174 u175 u176 u177 u178 u179 u180 u181 u182 u183 u184 u185 u186 u187 u188 u189 u190 u191 u192 u193 u194 u195 u196 u197 u198 u199 u200 u201 u202 u203 u204 u205 u206 u207 u208 u209 u210 u211 u212 u213 u214 u215 u216 u217 u218 u219 u220 u221 u222 u223 u224 u225 u226 u227 u228 u229 u230 u231 u232 u233 u234 u235 u236 u237 u238 u239 u240 u241 u242 u243 u244 u245 u246 u247 u248 u249 u250 u251 u252 u253 u254 : Value) (ad : Option Addr) (ca : Nat) (l : List Cm) (i : Nat) (b : Int) (xd vd : Option Addr) (xc vc : Nat) (x v : List Nat) (w W : World)
    (hG : GoodC l) (hi : i < l.length) (hC : ∀ W', RowKit.Below w.heap.size w W' → ComsOK W' ad ca l) (hB : RowKit.Below w.heap.size w W)
    (hx : upP l i x) (lx : x.length ≤ 60) (sx : SlI W xd (natI x)) (hv : ∀ k, k ∈ v ↔ Up l i k) (lv : v.length ≤ 1000) (sv : SlI W vd (natI v)) :
    Code.wp Try.prog (codeOf Try.f5.body 16) (bodyPost Try.prog Try.f5 (HoldAns w)) ⟨#[.slice ad l.length ca, .int .i64 (i : Int), .int .i64 b, u3, u4, u5, u6, u7, u8, u9, .slice xd x.length xc, u11, .slice vd v.length vc, u13, u14, u15, u16, u17, u18, u19, u20, u21, u22, u23, u24, u25, u26, u27, u28, u29, u30, u31, u32, u33, u34, u35, u36, u37, u38, u39, u40, u41, u42, u43, u44, u45, u46, u47, u48, u49, u50, u51, u52, u53, u54, u55, u56, u57, u58, u59, u60, u61, u62, u63, u64, u65, u66, u67, u68, u69, u70, u71, u72, u73, u74, u75, u76, u77, u78, u79, u80, u81, u82, u83, u84, u85, u86, u87, u88, u89, u90, u91, u92, u93, u94, u95, u96, u97, u98, u99, u100, u101, u102, u103, u104, u105, u106, u107, u108, u109, u110, u111, u112, u113, u114, u115, u116, u117, u118, u119, u120, u121, u122, u123, u124, u125, u126, u127, u128, u129, u130, u131, u132, u133, u134, u135, u136, u137, u138, u139, u140, u141, u142, u143, u144, u145, u146, u147, u148, u149, u150, u151, u152, u153, u154, u155, u156, u157, u158, u159, u160, u161, u162, u163, u164, u165, u166, u167, u168, u169, u170, u171, u172, u173, u174, u175, u176, u177, u178, u179, u180, u181, u182, u183, u184, u185, u186, u187, u188, u189, u190, u191, u192, u193, u194, u195, u196, u197, u198, u199, u200, u201, u202, u203, u204, u205, u206, u207, u208, u209, u210, u211, u212, u213, u214, u215, u216, u217, u218, u219, u220, u221, u222, u223, u224, u225, u226, u227, u228, u229, u230, u231, u232, u233, u234, u235, u236, u237, u238, u239, u240, u241, u242, u243, u244, u245, u246, u247, u248, u249, u250, u251, u252, u253, u254], []⟩ W := by
  have HC := hideO hC
  have HB := hideO hB
  have HG := hideO (And.intro hG hi)
  have HX := hideO (And.intro hx sx)
  have HV := hideO (And.intro hv sv)
  clear hG hi hC hB hx sx hv sv
  conv => arg 2; whnf
  go_upto_block 2 with fail
  go_cut [16] (fun _ W' => W' = W)
  case first =>
    go_wp2_with fail
    go_loopw [16] (fun kk wr => ∃ (k : Nat), k ≤ v.length ∧ kk = .int .i64 k ∧ wr = W) (fun kk wr => v.length - (intOf kk).toNat)
    case atStart => exact ⟨0, by omega, rfl, rfl⟩
    case round =>
      obtain ⟨k, hk, rfl, rfl⟩ := hrel
      by_cases hlt : k < v.length
      · obtain ⟨b1, o1, e1, c1⟩ := HV.out.2.natD hlt
        have hin : v.getD k 0 ∈ x := (HX.out.1.2 _).2 ((HV.out.1 _).1 (getD_mem hlt))
        have D := InNat_any xd xc x (v.getD k 0) wr HX.out.2 (by omega)
        rw [decide_eq_true hin] at D
        subst e1
        have k0 : (0 : Int) ≤ (k : Int) := by omega
        have k1 : (k : Int) < (v.length : Int) := by omega
        clear hin
        generalize v.getD k 0 = y at *
        go_wp2_with fail
        refine D.mono ?_
        rintro e w2 ⟨rfl, hw2⟩
        obtain rfl : wr = w2 := hw2.symm
        clear D
        dsimp only
        go_wp2_with fail
        go_roundw
        case rel => exact ⟨k + 1, by omega, by go_num, by trivial⟩
        case measure => simp [intOf]; omega
      · obtain rfl : k = v.length := by omega
        go_wp2_with fail
        go_meet
        case rel => exact rfl
  case rest =>
    subst hcut
    go_upto_block 4 with fail
    go_cut [18] (fun _ W' => Hid (RowKit.Below w.heap.size w W'))
    case rest =>
      refine go_on (by assumption) ?_
      exact dhMid F _ _ _ _ _ _ _ _ _ _ _ _ _ _ _ _ _ _ _ _ _ _ _ _ _ _ _ _ _ _ _ _ _ _ _ _ _ _ _ _ _ _ _ _ _ _ _ _ _ _ _ _ _ _ _ _ _ _ _ _ _ _ _ _ _ _ _ _ _ _ _ _ _ _ _ _ _ _ _ _ _ _ _ _ _ _ _ _ _ _ _ _ _ _ _ _ _ _ _ _ _ _ _ _ _ _ _ _ _ _ _ _ _ _ _ _ _ _ _ _ _ _ _ _ _ _ _ _ _ _ _ _ _ _ _ _ _ _ _ _ _ _ _ _ _ _ _ _ _ _ _ _ _ _ _ _ _ _ _ _ _ _ _ _ _ _ _ _ _ _ _ _ _ _ _ _ _ _ _ _ _ _ _ _ _ _ _ _ _ _ _ _ _ _ _ _ _ _ _ _ _ _ _ _ _ _ _ _ _ _ _ _ _ _ _ _ _ _ _ _ _ _ _ _ _ _ _ _ _ _ _ _ _ _ _ _ _ _ _ _ _ _ _ _ _ _ _ _ _ _ _ _ ad ca l i b w wc HG.out.1 HG.out.2 HC.out hcut.out
    case first =>
      go_wp2_with fail
      go_loopw [18] (fun kk wr => ∃ (k n : Nat), k ≤ x.length ∧ kk = .int .i64 k ∧ wr = wc.drewN n) (fun kk wr => x.length - (intOf kk).toNat)
      case atStart => exact ⟨0, 0, by omega, rfl, rfl⟩
      case round =>
        obtain ⟨k, n, hk, rfl, rfl⟩ := hrel
        by_cases hlt : k < x.length
        · obtain ⟨b1, o1, e1, c1⟩ := HX.out.2.natD hlt
          have hin : x.getD k 0 ∈ v := (HV.out.1 _).2 ((HX.out.1.2 _).1 (getD_mem hlt))
          have D := InNat_any vd vc v (x.getD k 0) (wc.drewN n) HV.out.2 (by omega)
          rw [decide_eq_true hin] at D
          subst e1
          have c1 : (wc.drewN n).cell? ⟨b1, o1 + k, none⟩ = some (.int .i64 ((x.getD k 0 : Nat) : Int)) := c1
          have k0 : (0 : Int) ≤ (k : Int) := by omega
          have k1 : (k : Int) < (x.length : Int) := by omega
          clear hin
          by_cases kz : k = 0
          · subst kz
            simp only [Nat.add_zero] at c1
            generalize x.getD 0 0 = y at *
            go_wp2_with fail
            refine D.mono ?_
            rintro e w2 ⟨rfl, hw2⟩
            subst hw2
            clear D
            dsimp only
            go_wp2_with fail
            go_region
            go_wp2_with fail
            go_roundw
            case rel => exact ⟨1, n + 1, by omega, by go_num, rfl⟩
            case measure => simp [intOf]; omega
          · obtain ⟨q, rfl⟩ : ∃ q, k = q + 1 := ⟨k - 1, by omega⟩
            obtain ⟨b2, o2, e2, c2⟩ := HX.out.2.natD (k := q) (by omega)
            cases e2
            have hr : Hid (x.getD q 0 < x.getD (q + 1) 0) := rise_get HX.out.1.1 (by omega) hlt
            have c2 : (wc.drewN n).cell? ⟨b1, o1 + q, none⟩ = some (.int .i64 ((x.getD q 0 : Nat) : Int)) := c2
            have hr2 : ¬ ((x.getD q 0 : Nat) : Int) ≥ ((x.getD (q + 1) 0 : Nat) : Int) := by have := hr.out; omega
            have kp : ((q : Int) + 1) > 0 := by omega
            have kq : (0 : Int) ≤ (q : Int) := by omega
            have kr : (q : Int) < (x.length : Int) := by omega
            clear hr
            generalize x.getD q 0 = y2 at *
            generalize x.getD (q + 1) 0 = y at *
            go_wp2_with fail
            refine D.mono ?_
            rintro e w2 ⟨rfl, hw2⟩
            subst hw2
            clear D
            dsimp only
            go_wp2_with fail
            go_region
            go_wp2_with fail
            go_roundw
            case rel => exact ⟨q + 2, n + 1, by omega, by go_num, rfl⟩
            case measure => simp [intOf]; omega
        · obtain rfl : k = x.length := by omega
          go_wp2_with fail
          go_meet
          case rel => exact (RowKit.Below.trans HB.out ((bdO wc n).mono HB.out.size))
end Go.Proofs.Ytackdedbphfaeae
