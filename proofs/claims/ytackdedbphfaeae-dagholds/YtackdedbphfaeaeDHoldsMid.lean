/- DagHolds, its middle: both come of each base, and of no base another one. -/
import Derived.Test.YtackdedbphfaeaeDHoldsTail
import Derived.Deep.RegionHeld3
import Derived.Deep.CutBlock
namespace Go.Proofs.Ytackdedbphfaeae
open Go Go.RowKit Go.Proofs
set_option synthInstance.maxSize 1000

theorem holdO2 {W W' : World} {ad : Option Addr} {ca : Nat} {l : List Cm} {p q : Addr} {u v : Value} (h : ComsOK W ad ca l ∧ W.cell? p = some u ∧ W.cell? q = some v) (hb : RowKit.Below W.heap.size W W') : ComsOK W' ad ca l ∧ W'.cell? p = some u ∧ W'.cell? q = some v :=
  ⟨h.1.below hb, (hb.cell (World.block_lt_of_cell? W _ h.2.1)).trans h.2.1, (hb.cell (World.block_lt_of_cell? W _ h.2.2)).trans h.2.2⟩
theorem getD_mem {m : List Nat} {k : Nat} (hk : k < m.length) : m.getD k 0 ∈ m := by
  rw [List.getD_eq_getElem?_getD, List.getElem?_eq_getElem hk]
  exact List.getElem_mem hk
theorem rise_same {m : List Nat} (h : RiseN m) {p q : Nat} (hp : p < m.length) (hq : q < m.length) : m.getD p 0 = m.getD q 0 ↔ p = q := by
  constructor
  · intro e
    rcases Nat.lt_trichotomy p q with h1 | h1 | h1
    · have := rise_get h h1 hq; omega
    · exact h1
    · have := rise_get h h1 hp; omega
  · rintro rfl; rfl

set_option maxHeartbeats 32000000 in
set_option maxRecDepth 1000000 in
theorem dhMid (F : DFace) (u3 u4 u5 u6 u7 u8 u9 u10 u11 u12 u13 u14 u15 u16 u17 u18 u19 u20 u21 u22 u23 u24 u25 u26 u27 u28 u29 u30 u31 u32 u33 u34 u35 u36 u37 u38 u39 u40 u41 u42 u43 u44 u45 u46 u47 u48 u49 u50 u51 u52 u53 u54 u55 u56 u57 u58 u59 u60 u61 u62 u63 u64 u65 u66 u67 u68 u69 u70 u71 u72 u73 u74 u75 u76 u77 u78 u79 u80 u81 u82 u83 u84 u85 u86 u87 u88 u89 u90 u91 u92 u93 u94 u95 u96 u97 u98 u99 u100 u101 u102 u103 u104 u105 u106 u107 u108 u109 u110 u111 u112 u113 u114 u115 u116 u117 u118 u119 u120 u121 u122 u123 u124 u125 u126 u127 u128 u129 u130 u131 u132 u133 u134 u135 u136 u137 u138 u139 u140 u141 u142 u143 u144 u145 u146 u147 u148 u149 u150 u151 u152 u153 u154 u155 u156 u157 u158 u159 u160 u161 u162 u163 u164 u165 u166 u167 u168 u169 u170 u171 u172 u173 u174 u175 u176 u177 u178 u179 u180 u181 u182 u183 u184 u185 u186 u187 u188 u189 u190 u191 u192 u193 u194 u195 u196 u197 u198 u199 u200 u201 u202 u203 u204 u205 u206 u207 u208 u209 u210 u211 u212 u213 u214 u215 u216 u217 u218 u219 u220 u221 u222 u223 u224 u225 u226 u227 u228 u229 u230 u231 u232 u233 u234 u235 u236 u237 u238 u239 u240 u241 u242 u243 u244 u245 u246 u247 u248 u249 u250 u251 u252 u253 u254 : Value) (ad : Option Addr) (ca : Nat) (l : List Cm) (i : Nat) (b : Int) (w W : World)
    (hG : GoodC l) (hi : i < l.length) (hC : ∀ W', RowKit.Below w.heap.size w W' → ComsOK W' ad ca l) (hB : RowKit.Below w.heap.size w W) :
    Code.wp Try.prog (codeOf Try.f5.body 28) (bodyPost Try.prog Try.f5 (HoldAns w)) ⟨#[.slice ad l.length ca, .int .i64 (i : Int), .int .i64 b, u3, u4, u5, u6, u7, u8, u9, u10, u11, u12, u13, u14, u15, u16, u17, u18, u19, u20, u21, u22, u23, u24, u25, u26, u27, u28, u29, u30, u31, u32, u33, u34, u35, u36, u37, u38, u39, u40, u41, u42, u43, u44, u45, u46, u47, u48, u49, u50, u51, u52, u53, u54, u55, u56, u57, u58, u59, u60, u61, u62, u63, u64, u65, u66, u67, u68, u69, u70, u71, u72, u73, u74, u75, u76, u77, u78, u79, u80, u81, u82, u83, u84, u85, u86, u87, u88, u89, u90, u91, u92, u93, u94, u95, u96, u97, u98, u99, u100, u101, u102, u103, u104, u105, u106, u107, u108, u109, u110, u111, u112, u113, u114, u115, u116, u117, u118, u119, u120, u121, u122, u123, u124, u125, u126, u127, u128, u129, u130, u131, u132, u133, u134, u135, u136, u137, u138, u139, u140, u141, u142, u143, u144, u145, u146, u147, u148, u149, u150, u151, u152, u153, u154, u155, u156, u157, u158, u159, u160, u161, u162, u163, u164, u165, u166, u167, u168, u169, u170, u171, u172, u173, u174, u175, u176, u177, u178, u179, u180, u181, u182, u183, u184, u185, u186, u187, u188, u189, u190, u191, u192, u193, u194, u195, u196, u197, u198, u199, u200, u201, u202, u203, u204, u205, u206, u207, u208, u209, u210, u211, u212, u213, u214, u215, u216, u217, u218, u219, u220, u221, u222, u223, u224, u225, u226, u227, u228, u229, u230, u231, u232, u233, u234, u235, u236, u237, u238, u239, u240, u241, u242, u243, u244, u245, u246, u247, u248, u249, u250, u251, u252, u253, u254], []⟩ W := by
  have C := F.bases W ad ca l i b (hC _ hB)
  have HC := hideO hC
  have HB := hideO hB
  have HG := hideO (And.intro hG hi)
  clear hG hi hC hB
  conv => arg 2; whnf
  go_wp2_with fail
  refine C.mono ?_
  rintro e w1 ⟨zd, zc, z, rfl, z1, _, z3, hb1, z4, _, _⟩
  have HB1 := hideO (bstep HB.out hb1)
  have S1 := hideO z3
  clear C HB hb1 z3
  dsimp only
  by_cases hf : twoE l (i : Int) b = 0
  · obtain ⟨_, b0, b1⟩ := ancE_zero (twoE_zero.1 hf).2
    obtain ⟨j, hj⟩ : ∃ j : Nat, b = (j : Int) := ⟨b.toNat, by omega⟩
    have hz := z1 hf
    subst hj
    simp only [Int.toNat_natCast] at hz
    have hjl : j < l.length := by omega
    have HZ := hideO (And.intro hz hjl)
    rw [hf, errV_zero]
    clear hf z1 hz hjl b0 b1
    go_upto_block 6 with fail
    go_cut [21] (fun _ W' => Hid (RowKit.Below w.heap.size w W') ∧ Hid (SlI W' zd (natI z)))
    case rest =>
      refine go_on (by assumption) ?_
      exact dhTail F _ _ _ _ _ _ _ _ _ _ _ _ _ _ _ _ _ _ _ _ _ _ _ _ _ _ _ _ _ _ _ _ _ _ _ _ _ _ _ _ _ _ _ _ _ _ _ _ _ _ _ _ _ _ _ _ _ _ _ _ _ _ _ _ _ _ _ _ _ _ _ _ _ _ _ _ _ _ _ _ _ _ _ _ _ _ _ _ _ _ _ _ _ _ _ _ _ _ _ _ _ _ _ _ _ _ _ _ _ _ _ _ _ _ _ _ _ _ _ _ _ _ _ _ _ _ _ _ _ _ _ _ _ _ _ _ _ _ _ _ _ _ _ _ _ _ _ _ _ _ _ _ _ _ _ _ _ _ _ _ _ _ _ _ _ _ _ _ _ _ _ _ _ _ _ _ _ _ _ _ _ _ _ _ _ _ _ _ _ _ _ _ _ _ _ _ _ _ _ _ _ _ _ _ _ _ _ _ _ _ _ _ _ _ _ _ _ _ _ _ _ _ _ _ _ _ _ _ _ _ _ _ _ _ _ _ _ _ _ _ _ _ _ _ _ _ _ _ _ _ _ ad ca l i j zd zc z w wc HG.out.1 HG.out.2 HZ.out.2 HZ.out.1 z4 HC.out hcut.1.out hcut.2.out
    case first =>
      go_wp2_with fail
      go_loopw [21] (fun kk wr => ∃ (k : Nat), k ≤ z.length ∧ kk = .int .i64 k ∧ Hid (RowKit.Below w.heap.size w wr) ∧ Hid (SlI wr zd (natI z))) (fun kk wr => z.length - (intOf kk).toNat)
      case atStart => exact ⟨0, by omega, rfl, HB1, S1⟩
      case round =>
        obtain ⟨k, hk, rfl, hBr, hSr⟩ := hrel
        clear HB1 S1
        by_cases hlt : k < z.length
        · have hmem := getD_mem hlt
          obtain ⟨y1, y2, y3⟩ := base_in HG.out.1 HG.out.2 HZ.out.1 hmem
          have D1 := fun W' h => is_good F (W := W') (ad := ad) (ca := ca) HG.out.1 y1 HG.out.2 h (q := true) (by simpa using y2)
          have D2 := fun W' h => is_good F (W := W') (ad := ad) (ca := ca) HG.out.1 y1 HZ.out.2 h (q := true) (by simpa using y3)
          have D3 : Hid (∀ q, q < z.length → ∀ W', ComsOK W' ad ca l → Calls Try.prog 18 #[.slice ad l.length ca, .int .i64 ((z.getD k 0 : Nat) : Int), .int .i64 ((z.getD q 0 : Nat) : Int)] W' fun e w' => e = .returned (.tuple #[.bool (decide (k = q)), .nilIface]) ∧ RowKit.Below W'.heap.size W' w') := by
            intro q hq W' h
            refine is_good F HG.out.1 y1 (base_in HG.out.1 HG.out.2 HZ.out.1 (getD_mem hq)).1 h ?_
            rw [decide_eq_true_eq, base_apart HZ.out.1 hmem (getD_mem hq)]
            exact (rise_same HZ.out.1.1 hlt hq).symm
          obtain ⟨b1, o1, e1, c1⟩ := hSr.out.natD hlt
          subst e1
          have k0 : (0 : Int) ≤ (k : Int) := by omega
          have k1 : (k : Int) < (z.length : Int) := by omega
          clear y1 y2 y3 hmem
          generalize z.getD k 0 = y at *
          go_wp2_with fail
          refine (D1 _ (HC.out _ hBr.out)).mono ?_
          rintro e w2 ⟨rfl, hb2⟩
          have HB2 := hideO (bstep hBr.out hb2)
          have S2 := hideO (hSr.out.below hb2)
          have c2 : w2.cell? ⟨b1, o1 + k, none⟩ = some (.int .i64 (y : Int)) := (hb2.cell (World.block_lt_of_cell? wr _ c1)).trans c1
          clear c1 hb2 hBr hSr D1
          dsimp only
          go_wp2_with fail
          refine (D2 _ (HC.out _ HB2.out)).mono ?_
          rintro e w3 ⟨rfl, hb3⟩
          have HB3 := hideO (bstep HB2.out hb3)
          have S3 := hideO (S2.out.below hb3)
          have c3 := hideO ((hb3.cell (World.block_lt_of_cell? w2 _ c2)).trans c2)
          clear c2 hb3 HB2 S2 D2
          dsimp only
          go_wp2_with fail
          go_loopw [26] (fun kk wr => ∃ (q : Nat), q ≤ z.length ∧ kk = .int .i64 q ∧ Hid (RowKit.Below w3.heap.size w3 wr)) (fun kk wr => z.length - (intOf kk).toNat)
          case atStart => exact ⟨0, by omega, rfl, RowKit.Below.refl _ _⟩
          case round =>
            obtain ⟨q, hq, rfl, hbq⟩ := hrel
            by_cases hlq : q < z.length
            · have D4 := D3.out q hlq
              have S4 := S3.out.below hbq.out
              obtain ⟨b2, o2, e2, c4⟩ := S4.natD hlq
              cases e2
              have c5 : wr.cell? ⟨b1, o1 + k, none⟩ = some (.int .i64 (y : Int)) := (hbq.out.cell (World.block_lt_of_cell? w3 _ c3.out)).trans c3.out
              have q0 : (0 : Int) ≤ (q : Int) := by omega
              have q1 : (q : Int) < (z.length : Int) := by omega
              have hcm := HC.out _ (bstep HB3.out hbq.out)
              clear S4
              generalize z.getD q 0 = y2 at *
              have hkeep : ComsOK wr.drew ad ca l ∧ wr.drew.cell? ⟨b1, o1 + k, none⟩ = some (.int .i64 (y : Int)) ∧ wr.drew.cell? ⟨b1, o1 + q, none⟩ = some (.int .i64 (y2 : Int)) := ⟨hcm.below (RowKit.Below.refl _ wr).drew, c5, c4⟩
              clear hcm
              go_wp2_with fail
              go_region_held3 (fun W => ComsOK W ad ca l ∧ W.cell? ⟨b1, o1 + k, none⟩ = some (.int .i64 (y : Int)) ∧ W.cell? ⟨b1, o1 + q, none⟩ = some (.int .i64 (y2 : Int))) (first | exact holdO2 (by assumption) hb5 | assumption)
                (first
                | (go_at_call 18; refine (D4 _ (And.left (by assumption))).mono ?_; rintro e w5 ⟨rfl, hb5⟩; dsimp only))
              have hb6 : Hid (RowKit.Below w3.heap.size w3 w5) := bstep hbq.out.drew hb5
              clear D4 hb5 c4 c5 hkeep
              by_cases ekq : k = q
              · subst ekq
                go_wp2_with fail
                go_roundw
                case rel => exact ⟨k + 1, by omega, by go_num, hb6⟩
                case measure => simp [intOf]; omega
              · have ekq' : ((k : Int) == (q : Int)) = false := by simp; omega
                rw [decide_eq_false ekq]
                go_wp2_with fail
                go_roundw
                case rel => exact ⟨q + 1, by omega, by go_num, hb6⟩
                case measure => simp [intOf]; omega
            · obtain rfl : q = z.length := by omega
              have HB4 := hideO (bstep HB3.out hbq.out)
              have S4 := hideO (S3.out.below hbq.out)
              clear HB3 S3 hbq c3
              go_wp2_with fail
              go_roundw
              case rel => exact ⟨k + 1, by omega, by go_num, HB4, S4⟩
              case measure => simp [intOf]; omega
        · obtain rfl : k = z.length := by omega
          go_wp2_with fail
          go_meet
          case rel => exact ⟨hBr, hSr⟩
  · rw [errV_some hf]
    clear z1
    generalize twoE l (i : Int) b = f at *
    go_wp2_with fail
    go_ret
    exact ⟨rfl, HB1.out⟩
end Go.Proofs.Ytackdedbphfaeae
