/- StoreBack, its middle: what was put is there. -/
import Derived.Test.YtpdieckoemfebaeSBackTail
namespace Go.Proofs.Ytpdieckoemfebae
open Go Go.RowKit Go.Proofs
set_option synthInstance.maxSize 1000

set_option maxHeartbeats 32000000 in
set_option maxRecDepth 1000000 in
theorem sbackMid (F : Face) (u2 u3 u4 u6 u7 u9 u10 u11 u12 u13 u14 u15 u16 u17 u18 u19 u20 u21 u22 u23 u24 u25 u26 u27 u28 u29 u30 u31 u32 u33 u34 u35 u36 u37 u38 u39 u40 u41 u42 u43 u44 u45 u46 u47 u48 u49 u50 u51 u52 u53 u54 u55 u56 u57 u58 u59 u60 u61 u62 u63 u64 u65 u66 u67 u68 u69 u70 u71 u72 u73 u74 u75 u76 u77 u78 u79 u80 u81 u82 u83 u84 u85 u86 u87 u88 u89 u90 u91 u92 u93 u94 u95 u96 u97 u98 u99 u100 u101 u102 u103 u104 u105 u106 u107 u108 u109 u110 u111 u112 u113 u114 u115 u116 u117 u118 u119 u120 u121 u122 u123 u124 u125 u126 u127 u128 u129 u130 u131 u132 u133 u134 u135 u136 u137 u138 u139 u140 u141 u142 u143 u144 u145 u146 u147 u148 u149 u150 u151 u152 u153 u154 u155 u156 u157 u158 u159 u160 u161 u162 u163 u164 u165 u166 u167 u168 u169 u170 u171 u172 u173 u174 u175 u176 u177 u178 u179 u180 u181 u182 u183 u184 u185 u186 u187 u188 u189 u190 u191 u192 u193 u194 u195 u196 u197 u198 u199 u200 u201 u202 u203 u204 u205 u206 u207 u208 u209 u210 u211 u212 u213 u214 u215 : Value) (od kd : Option Addr) (co ck s bi n : Nat) (T : List (List UInt8)) (ids I : List Int) (L : List Ob) (w W : World)
    (hG : GoodO n L) (hR : Rec I T L) (hn : n ≤ 1000) (hT : T ≠ [] → ∃ b o, od = some ⟨b, o, none⟩ ∧ TextsAt w b o T) (hb : ∀ b ∈ T, b.length ≤ F.lim) (hk : SlI w kd ids) (hkz : ids.length ≤ 9223372036854775807) (hkc : ids.length ≤ ck) (hst : KA F w s n L bi I none [] W) :
    Code.wp Try.prog (codeOf Try.f4.body 14) (bodyPost Try.prog Try.f4 (BackAns w)) ⟨#[.slice od T.length co, .slice kd ids.length ck, u2, u3, u4, .pointer (some ⟨s, 0, none⟩), u6, u7, .slice (some ⟨bi, 0, none⟩) T.length T.length, u9, u10, u11, u12, u13, u14, u15, u16, u17, u18, u19, u20, u21, u22, u23, u24, u25, u26, u27, u28, u29, u30, u31, u32, u33, u34, u35, u36, u37, u38, u39, u40, u41, u42, u43, u44, u45, u46, u47, u48, u49, u50, u51, u52, u53, u54, u55, u56, u57, u58, u59, u60, u61, u62, u63, u64, u65, u66, u67, u68, u69, u70, u71, u72, u73, u74, u75, u76, u77, u78, u79, u80, u81, u82, u83, u84, u85, u86, u87, u88, u89, u90, u91, u92, u93, u94, u95, u96, u97, u98, u99, u100, u101, u102, u103, u104, u105, u106, u107, u108, u109, u110, u111, u112, u113, u114, u115, u116, u117, u118, u119, u120, u121, u122, u123, u124, u125, u126, u127, u128, u129, u130, u131, u132, u133, u134, u135, u136, u137, u138, u139, u140, u141, u142, u143, u144, u145, u146, u147, u148, u149, u150, u151, u152, u153, u154, u155, u156, u157, u158, u159, u160, u161, u162, u163, u164, u165, u166, u167, u168, u169, u170, u171, u172, u173, u174, u175, u176, u177, u178, u179, u180, u181, u182, u183, u184, u185, u186, u187, u188, u189, u190, u191, u192, u193, u194, u195, u196, u197, u198, u199, u200, u201, u202, u203, u204, u205, u206, u207, u208, u209, u210, u211, u212, u213, u214, u215], []⟩ W := by
  have HA : Hid _ := And.intro hG (And.intro hR (And.intro hn (And.intro hT (And.intro hb (And.intro hk (And.intro hkz hkc))))))
  have Hst := hideO hst
  clear hG hR hn hT hb hk hkz hkc hst
  conv => arg 2; whnf
  go_upto_block 2 with fail
  go_cut [14] (fun _ W' => Hid (KA F w s n L bi I none [] W'))
  case rest =>
    refine go_on (by assumption) ?_
    exact sbackTail F _ _ _ _ _ _ _ _ _ _ _ _ _ _ _ _ _ _ _ _ _ _ _ _ _ _ _ _ _ _ _ _ _ _ _ _ _ _ _ _ _ _ _ _ _ _ _ _ _ _ _ _ _ _ _ _ _ _ _ _ _ _ _ _ _ _ _ _ _ _ _ _ _ _ _ _ _ _ _ _ _ _ _ _ _ _ _ _ _ _ _ _ _ _ _ _ _ _ _ _ _ _ _ _ _ _ _ _ _ _ _ _ _ _ _ _ _ _ _ _ _ _ _ _ _ _ _ _ _ _ _ _ _ _ _ _ _ _ _ _ _ _ _ _ _ _ _ _ _ _ _ _ _ _ _ _ _ _ _ _ _ _ _ _ _ _ _ _ _ _ _ _ _ _ _ _ _ _ _ _ _ _ _ _ _ _ _ _ _ _ _ _ _ _ _ _ _ _ _ _ _ _ _ _ _ _ _ _ _ _ _ _ od kd co ck s bi n T ids I L w wc HA.out.1 HA.out.2.1 HA.out.2.2.1 HA.out.2.2.2.1 HA.out.2.2.2.2.1 HA.out.2.2.2.2.2.1 HA.out.2.2.2.2.2.2.1 HA.out.2.2.2.2.2.2.2 hcut.out
  case first =>
    go_wp2_with fail
    go_loopw [14] (fun i wr => ∃ (k : Nat), k ≤ T.length ∧ k ≤ 100 ∧ i = .int .i64 k ∧ Hid (KA F w s n L bi I none [] wr)) (fun i wr => 100 - (intOf i).toNat)
    case atStart => exact ⟨0, by omega, by omega, rfl, Hst⟩
    case round =>
      obtain ⟨k, hk1, hk2, rfl, hst⟩ := hrel
      by_cases hkT : k < T.length
      · by_cases hk100 : k < 100
        · have i1 : (k : Int) < (T.length : Int) := by omega
          have i2 : (k : Int) < 100 := by omega
          have i0 : (0 : Int) ≤ (k : Int) := by omega
          obtain ⟨lb, lo, rfl, hA⟩ := HA.out.2.2.2.1 (fun e => by rw [e] at hkT; simp at hkT)
          have hcT := hA k hkT
          have HcT : Hid (∀ W', RowKit.Below w.heap.size w W' → W'.cell? ⟨lb, lo + k, none⟩ = some (.string ⟨T[k].toArray⟩)) := fun W' h => (h.cell (World.block_lt_of_cell? w _ hcT)).trans hcT
          obtain ⟨av, hIa, hrec⟩ := HA.out.2.1.2 k hkT
          have HIa := hideO hIa
          have Hrec := hideO hrec
          have c0 := (hst.out.cell hIa).1
          have HBk := hideO (HA.out.2.2.2.2.1 _ (List.getElem_mem hkT))
          clear hA hcT hIa hrec
          generalize T[k] = b at *
          by_cases ha0 : av = 0
          · subst ha0
            go_wp2_with fail
            go_roundw
            case rel => exact ⟨k + 1, by omega, by omega, by go_num, hst⟩
            case measure => simp [intOf]; omega
          · have hmem := Hrec.out.resolve_left ha0
            have e1 : getO L (av : Int) = some b := getO_mem HA.out.1.rise hmem
            have e2 : findO L b = av := findO_in HA.out.1.once hmem
            have e3 : getE L (av : Int) = 0 := by unfold getE; rw [e1]; rfl
            have e4 : getB L (av : Int) = b := by unfold getB; rw [e1]; rfl
            have e5 : findE L b = 0 := by unfold findE; rw [e2, if_neg ha0]
            have HGt := hst.out.get (av : Int) HA.out.1
            rw [e3, e4, show errV 0 = .nilIface from rfl] at HGt
            have HF := fun W (h : KA F w s n L bi I none [] W) => h.find b HA.out.1 HBk.out
            rw [e5, e2, show errV 0 = .nilIface from rfl] at HF
            have ha1 : ((av : Int) == 0) = false := by simpa using ha0
            clear e1 e2 e3 e4 e5 hmem Hrec
            go_wp2_with fail
            refine HGt.mono ?_
            rintro e w4 ⟨rfl, hst4⟩
            have Hst4 := hideO hst4
            have d4 := HcT.out _ hst4.low
            clear hst4 hst c0 HGt
            dsimp only
            go_wp2_with fail
            refine (HF _ Hst4.out).mono ?_
            rintro e w5 ⟨rfl, hst5⟩
            have Hst5 := hideO hst5
            have d5 := HcT.out _ hst5.low
            have c5 := (hst5.cell HIa.out).1
            clear hst5 Hst4 d4 HF
            dsimp only
            go_wp2_with fail
            go_roundw
            case rel => exact ⟨k + 1, by omega, by omega, by go_num, Hst5⟩
            case measure => simp [intOf]; omega
        · obtain rfl : k = 100 := by omega
          have i1 : ((100 : Nat) : Int) < (T.length : Int) := by omega
          go_wp2_with fail
          go_meet
          case rel => exact hst
      · obtain rfl : k = T.length := by omega
        go_wp2_with fail
        go_meet
        case rel => exact hst
end Go.Proofs.Ytpdieckoemfebae
