/- DagHolds, its tail: two on one line have the elder one; either way round the same. -/
import Derived.Test.YtackdedbphfaeaeDagHoldsPlain
import Derived.Test.YtackdedbphfaeaeSameNat
import Derived.Test.YtackdedbphfaeaeCodeCut
import Derived.Deep.DeepCutAuto
namespace Go.Proofs.Ytackdedbphfaeae
open Go Go.RowKit Go.Proofs
set_option synthInstance.maxSize 1000

def HoldAns (w : World) (e : Ending) (w' : World) : Prop := e = .returned (.bool true) ∧ RowKit.Below w.heap.size w w'
theorem two_good {l : List Cm} (hG : GoodC l) {i j : Nat} (hi : i < l.length) (hj : j < l.length) : twoE l (i : Int) (j : Int) = 0 :=
  twoE_zero.2 ⟨ancE_good hG (by omega) (by omega), ancE_good hG (by omega) (by omega)⟩
theorem SlI.natD {W : World} {ad : Option Addr} {m : List Nat} (h : SlI W ad (natI m)) {k : Nat} (hk : k < m.length) : ∃ b o, ad = some ⟨b, o, none⟩ ∧ W.cell? ⟨b, o + k, none⟩ = some (.int .i64 ((m.getD k 0 : Nat) : Int)) := by
  obtain ⟨b, o, e, h1⟩ := h.at (j := k) (by simpa [natI] using hk)
  refine ⟨b, o, e, h1.trans ?_⟩
  rw [List.getD_eq_getElem?_getD, List.getElem?_eq_getElem hk]
  simp [natI]
/-- Is and Bases of commits that are right -/
theorem is_good (F : DFace) {W : World} {ad : Option Addr} {ca : Nat} {l : List Cm} (hG : GoodC l) {i j : Nat} (hi : i < l.length) (hj : j < l.length) (hC : ComsOK W ad ca l) {q : Bool} (hq : q = true ↔ Up l j i) :
    Calls Try.prog 18 #[.slice ad l.length ca, .int .i64 (i : Int), .int .i64 (j : Int)] W fun e w' => e = .returned (.tuple #[.bool q, .nilIface]) ∧ RowKit.Below W.heap.size W w' := by
  refine (F.is W ad ca l i j hC).mono ?_
  rintro e w' ⟨q', rfl, h1, _, hb⟩
  rw [two_good hG hi hj] at h1 ⊢
  have h2 := h1 rfl
  simp only [Int.toNat_natCast] at h2
  have : q' = q := by rw [Bool.eq_iff_iff]; exact h2.trans hq.symm
  rw [this]
  exact ⟨rfl, hb⟩

set_option maxHeartbeats 32000000 in
set_option maxRecDepth 1000000 in
theorem dhTail (F : DFace) (u3 u4 u5 u6 u7 u8 u9 u10 u11 u12 u13 u14 u15 u16 u17 u18 u19 u21 u22 u23 u24 u25 u26 u27 u28 u29 u30 u31 u32 u33 u34 u35 u36 u37 u38 u39 u40 u41 u42 u43 u44 u45 u46 u47 u48 u49 u50 u51 u52 u53 u54 u55 u56 u57 u58 u59 u60 u61 u62 u63 u64 u65 u66 u67 u68 u69 u70 u71 u72 u73 u74 u75 u76 u77 u78 u79 u80 u81 u82 u83 u84 u85 u86 u87 u88 u89 u90 u91 u92 u93 u94 u95 u96 u97 u98 u99 u100 u101 u102 u103 u104 u105 u106 u107 u108 u109 u110 u111 u112 u113 u114 u115 u116 u117 u118 u119 u120 u121 u122 u123 u124 u125 u126 u127 u128 u129 u130 u131 u132 u133 u134 u135 u136 u137 u138 u139 u140 u141 u142 u143 u144 u145 u146 u147 u148 u149 u150 u151 u152 u153 u154 u155 u156 u157 u158 u159 u160 u161 u162 u163 u164 u165 u166 u167 u168 u169 u170 u171 u172 u173 u174 u175 u176 u177 u178 u179 u180 u181 u182 u183 u184 u185 u186 u187 u188 u189 u190 u191 u192 u193 u194 u195 u196 u197 u198 u199 u200 u201 u202 u203 u204 u205 u206 u207 u208 u209 u210 u211 u212 u213 u214 u215 u216 u217 u218 u219 u220 u221 u222 u223 u224 u225 u226 u227 u228 u229 u230 u231 u232 u233 u234 u235 u236 u237 u238 u239 u240 u241 u242 u243 u244 u245 u246 u247 u248 u249 u250 u251 u252 u253 u254 : Value) (ad : Option Addr) (ca : Nat) (l : List Cm) (i j : Nat) (zd : Option Addr) (zc : Nat) (z : List Nat) (w W : World)
    (hG : GoodC l) (hi : i < l.length) (hj : j < l.length) (hz : baseP l i j z) (lz : z.length ≤ 60) (hC : ∀ W', RowKit.Below w.heap.size w W' → ComsOK W' ad ca l) (hB : RowKit.Below w.heap.size w W) (sz : SlI W zd (natI z)) :
    Code.wp Try.prog (codeOf Try.f5.body 44) (bodyPost Try.prog Try.f5 (HoldAns w)) ⟨#[.slice ad l.length ca, .int .i64 (i : Int), .int .i64 (j : Int), u3, u4, u5, u6, u7, u8, u9, u10, u11, u12, u13, u14, u15, u16, u17, u18, u19, .slice zd z.length zc, u21, u22, u23, u24, u25, u26, u27, u28, u29, u30, u31, u32, u33, u34, u35, u36, u37, u38, u39, u40, u41, u42, u43, u44, u45, u46, u47, u48, u49, u50, u51, u52, u53, u54, u55, u56, u57, u58, u59, u60, u61, u62, u63, u64, u65, u66, u67, u68, u69, u70, u71, u72, u73, u74, u75, u76, u77, u78, u79, u80, u81, u82, u83, u84, u85, u86, u87, u88, u89, u90, u91, u92, u93, u94, u95, u96, u97, u98, u99, u100, u101, u102, u103, u104, u105, u106, u107, u108, u109, u110, u111, u112, u113, u114, u115, u116, u117, u118, u119, u120, u121, u122, u123, u124, u125, u126, u127, u128, u129, u130, u131, u132, u133, u134, u135, u136, u137, u138, u139, u140, u141, u142, u143, u144, u145, u146, u147, u148, u149, u150, u151, u152, u153, u154, u155, u156, u157, u158, u159, u160, u161, u162, u163, u164, u165, u166, u167, u168, u169, u170, u171, u172, u173, u174, u175, u176, u177, u178, u179, u180, u181, u182, u183, u184, u185, u186, u187, u188, u189, u190, u191, u192, u193, u194, u195, u196, u197, u198, u199, u200, u201, u202, u203, u204, u205, u206, u207, u208, u209, u210, u211, u212, u213, u214, u215, u216, u217, u218, u219, u220, u221, u222, u223, u224, u225, u226, u227, u228, u229, u230, u231, u232, u233, u234, u235, u236, u237, u238, u239, u240, u241, u242, u243, u244, u245, u246, u247, u248, u249, u250, u251, u252, u253, u254], []⟩ W := by
  have C1 := fun q hq => is_good F hG hi hj (hC _ hB) (q := q) hq
  have T2 := two_good hG hj hi
  have C2 := fun W' h => F.bases W' ad ca l j i h
  rw [T2] at C2
  simp only [Int.toNat_natCast] at C2
  have HC := hideO hC
  have HB := hideO hB
  have HZ := hideO (And.intro hz lz)
  have SZ := hideO sz
  have HG := hideO (And.intro hG hi)
  clear hG hi hj hC hB hz T2 sz
  conv => arg 2; whnf
  by_cases hu : Up l j i
  · have C3 := C1 true (by simpa using hu)
    obtain rfl : z = [i] := base_line HG.out.1 HG.out.2 HZ.out.1 hu
    clear C1 hu
    go_wp2_with fail
    refine C3.mono ?_
    rintro e w1 ⟨rfl, hb1⟩
    have HB1 := hideO (bstep HB.out hb1)
    have S1 := hideO (SZ.out.below hb1)
    obtain ⟨b0, o0, e0, c0⟩ := S1.out.natD (k := 0) (by simp)
    subst e0
    simp only [Nat.add_zero, List.getD_cons_zero] at c0
    clear C3 HB SZ hb1
    dsimp only
    go_wp2_with fail
    refine (C2 _ (HC.out _ HB1.out)).mono ?_
    rintro e w2 ⟨td, tc, t, rfl, t1, _, t3, hb2, t4, _, _⟩
    have HT : Hid (t = [i]) := base_turn HZ.out.1 (t1 rfl)
    have HB2 := hideO (bstep HB1.out hb2)
    have S2 := hideO (S1.out.below hb2)
    have T3 := hideO t3
    clear C2 HB1 S1 hb2 t1 t3 c0
    rw [errV_zero]
    dsimp only
    go_wp2_with fail
    refine (SameNat td (some ⟨b0, o0, none⟩) tc zc t [i] _ T3.out S2.out HT.out t4).mono ?_
    rintro e w3 ⟨rfl, hb3⟩
    have HB3 := hideO (bstep HB2.out hb3)
    clear hb3
    dsimp only
    go_wp2_with fail
    go_ret
    exact ⟨rfl, HB3.out⟩
  · have C3 := C1 false (by simpa using hu)
    clear C1 hu
    go_wp2_with fail
    refine C3.mono ?_
    rintro e w1 ⟨rfl, hb1⟩
    have HB1 := hideO (bstep HB.out hb1)
    have S1 := hideO (SZ.out.below hb1)
    clear C3 HB SZ hb1
    dsimp only
    go_wp2_with fail
    refine (C2 _ (HC.out _ HB1.out)).mono ?_
    rintro e w2 ⟨td, tc, t, rfl, t1, _, t3, hb2, t4, _, _⟩
    have HT : Hid (t = z) := base_turn HZ.out.1 (t1 rfl)
    have HB2 := hideO (bstep HB1.out hb2)
    have S2 := hideO (S1.out.below hb2)
    have T3 := hideO t3
    clear C2 HB1 S1 hb2 t1 t3
    rw [errV_zero]
    dsimp only
    go_wp2_with fail
    refine (SameNat td zd tc zc t z _ T3.out S2.out HT.out t4).mono ?_
    rintro e w3 ⟨rfl, hb3⟩
    have HB3 := hideO (bstep HB2.out hb3)
    clear hb3
    dsimp only
    go_wp2_with fail
    go_ret
    exact ⟨rfl, HB3.out⟩
end Go.Proofs.Ytackdedbphfaeae
