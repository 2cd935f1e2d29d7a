/- DictPlays' round, its last part: numbers that are asked: Open and Term. -/
import Derived.Test.YtkeholipklfnbacDoorPlaysCode
import Derived.Deep.DeepCutAuto
import Derived.Deep.CutBlock
namespace Go.Proofs.YtkeholipklfnbacDoor
open Go Go.RowKit Go.Proofs Go.Maps
set_option synthInstance.maxSize 1000

attribute [local go_sem] eql_errV neq_errV guard_errV
attribute [local go_sem ↓] neqTriple neqTerm neqI3

theorem SameErr (m : Int) (W : World) (hg : errVar W) : Calls Tryd.prog 8 #[errV m, .int .i64 m] W fun r w' => r = .returned (.bool true) ∧ RowKit.Below W.heap.size W w' := by
  have := SameError_any m m W hg
  rwa [show (m == m) = true by simp] at this

set_option maxHeartbeats 32000000 in
set_option maxRecDepth 1000000 in
theorem roundC3 (Q0 : Exit → Act → World → Prop) (u6 u11 u12 u13 u14 u15 u16 u17 u18 u20 u21 u22 u24 u25 u26 u27 u29 u30 u31 u32 u33 u34 u35 u36 u37 u38 u39 u40 u41 u42 u43 u44 u45 u46 u47 u48 u49 u50 u51 u52 u53 u54 u55 u56 u57 u58 u59 u60 u61 u62 u63 u64 u65 u66 u67 u68 u69 u70 u71 u72 u73 u74 u75 u76 u77 u78 u79 u80 u81 u82 u83 u84 u85 u86 u87 u88 u89 u90 u91 u92 u93 u94 u95 u96 u97 u98 u99 u100 u101 u102 u103 u104 u105 u106 u107 u108 u109 u110 u111 u112 u113 u114 u115 u116 u117 u118 u119 u120 u121 u122 u123 u124 u125 u126 u127 u128 u129 u130 u131 u132 u133 u134 u135 u136 u137 u138 u139 u140 u141 u142 u143 u144 u145 u146 u147 u148 u149 u150 u151 u152 u153 u154 u155 u156 u157 u158 u159 u160 u161 u162 u163 u164 u165 u166 u167 u168 u169 u170 u171 u172 u173 u174 u175 u176 u177 u178 u179 u180 u181 u182 u183 u184 u185 u186 u187 u188 u189 u190 u191 u192 u193 u194 u195 u196 u197 u198 u199 u200 u201 u202 u203 u204 u205 u206 u207 u208 u209 u210 u211 u212 u213 u214 u215 u216 u217 u218 u219 u220 u221 u222 u223 u224 u225 u226 u227 u228 u229 u230 u231 u232 u233 u234 u235 u236 u237 u238 u239 u240 u241 u242 u243 u244 u245 u246 u247 u248 u249 u250 u251 u252 u253 u254 u255 u256 u257 u258 u259 u260 u261 u262 u263 u264 u265 u266 u267 u268 u269 u270 u271 u272 u273 u274 u275 u276 u277 u278 : Value) (c3 c4 c5 c28 : Value) (ad bd cd av : Option Addr) (ca cb cc cv k n0 bv bt : Nat) (ts : List Tm) (l : List Tr) (Q : List (List Int)) (L : List Tm) (z0 z1 z2 : Int) (w W : World)
    (hg : errVar w) (hG : GoodL L) (hwz : wfI (z0, z1, z2)) (hh : Hold w n0 (.slice av L.length cv) L W) (hv : Arr W bv #[.int .i64 z0, .int .i64 z1, .int .i64 z2] 41) (ht : Arr W bt (encTr (openT L (z0, z1, z2))).toArray 39)
    (hQ : ∀ (x6 x10 x11 x12 x13 x14 x15 x16 x17 x18 x19 x20 x21 x22 x23 x24 x25 x26 x27 x29 x30 x31 x32 x33 x34 x35 x36 x37 x38 x39 x40 x41 x42 x43 x44 x45 x46 x47 x48 x49 x50 x51 x52 x53 x54 x55 x56 x57 x58 x59 x60 x61 x62 x63 x64 x65 x66 x67 x68 x69 x70 x71 x72 x73 x74 x75 x76 x77 x78 x79 x80 x81 x82 x83 x84 x85 x86 x87 x88 x89 x90 x91 x92 x93 x94 x95 x96 x97 x98 x99 x100 x101 x102 x103 x104 x105 x106 x107 x108 x109 x110 x111 x112 x113 x114 x115 x116 x117 x118 x119 x120 x121 x122 x123 x124 x125 x126 x127 x128 x129 x130 x131 x132 x133 x134 x135 x136 x137 x138 x139 x140 x141 x142 x143 x144 x145 x146 x147 x148 x149 x150 x151 x152 x153 x154 x155 x156 x157 x158 x159 x160 x161 x162 x163 x164 x165 x166 x167 x168 x169 x170 x171 x172 x173 x174 x175 x176 x177 x178 x179 x180 x181 x182 x183 x184 x185 x186 x187 x188 x189 x190 x191 x192 x193 x194 x195 x196 x197 x198 x199 x200 x201 x202 x203 x204 x205 x206 x207 x208 x209 x210 x211 x212 x213 x214 x215 x216 x217 x218 x219 x220 x221 x222 x223 x224 x225 x226 x227 x228 x229 x230 x231 x232 x233 x234 x235 x236 x237 x238 x239 x240 x241 x242 x243 x244 x245 x246 x247 x248 x249 x250 x251 x252 x253 x254 x255 x256 x257 x258 x259 x260 x261 x262 x263 x264 x265 x266 x267 x268 x269 x270 x271 x272 x273 x274 x275 x276 x277 x278 : Value) (W' : World), Hold w n0 (.slice av L.length cv) L W' → Q0 .normal ⟨#[.slice ad ts.length ca, .slice bd l.length cb, .slice cd Q.length cc, c3, c4, c5, x6, .pointer (some ⟨n0 + 2, 0, none⟩), .slice av L.length cv, .int .i64 (k : Int), x10, x11, x12, x13, x14, x15, x16, x17, x18, x19, x20, x21, x22, x23, x24, x25, x26, x27, c28, x29, x30, x31, x32, x33, x34, x35, x36, x37, x38, x39, x40, x41, x42, x43, x44, x45, x46, x47, x48, x49, x50, x51, x52, x53, x54, x55, x56, x57, x58, x59, x60, x61, x62, x63, x64, x65, x66, x67, x68, x69, x70, x71, x72, x73, x74, x75, x76, x77, x78, x79, x80, x81, x82, x83, x84, x85, x86, x87, x88, x89, x90, x91, x92, x93, x94, x95, x96, x97, x98, x99, x100, x101, x102, x103, x104, x105, x106, x107, x108, x109, x110, x111, x112, x113, x114, x115, x116, x117, x118, x119, x120, x121, x122, x123, x124, x125, x126, x127, x128, x129, x130, x131, x132, x133, x134, x135, x136, x137, x138, x139, x140, x141, x142, x143, x144, x145, x146, x147, x148, x149, x150, x151, x152, x153, x154, x155, x156, x157, x158, x159, x160, x161, x162, x163, x164, x165, x166, x167, x168, x169, x170, x171, x172, x173, x174, x175, x176, x177, x178, x179, x180, x181, x182, x183, x184, x185, x186, x187, x188, x189, x190, x191, x192, x193, x194, x195, x196, x197, x198, x199, x200, x201, x202, x203, x204, x205, x206, x207, x208, x209, x210, x211, x212, x213, x214, x215, x216, x217, x218, x219, x220, x221, x222, x223, x224, x225, x226, x227, x228, x229, x230, x231, x232, x233, x234, x235, x236, x237, x238, x239, x240, x241, x242, x243, x244, x245, x246, x247, x248, x249, x250, x251, x252, x253, x254, x255, x256, x257, x258, x259, x260, x261, x262, x263, x264, x265, x266, x267, x268, x269, x270, x271, x272, x273, x274, x275, x276, x277, x278], []⟩ W') :
    Code.wp Tryd.prog (codeOf Tryd.f3.body 54) Q0 ⟨#[.slice ad ts.length ca, .slice bd l.length cb, .slice cd Q.length cc, c3, c4, c5, u6, .pointer (some ⟨n0 + 2, 0, none⟩), .slice av L.length cv, .int .i64 (k : Int), .int .i64 (openE L (z0, z1, z2)), u11, u12, u13, u14, u15, u16, u17, u18, .pointer (some ⟨bv, 0, none⟩), u20, u21, u22, .pointer (some ⟨bt, 0, none⟩), u24, u25, u26, u27, c28, u29, u30, u31, u32, u33, u34, u35, u36, u37, u38, u39, u40, u41, u42, u43, u44, u45, u46, u47, u48, u49, u50, u51, u52, u53, u54, u55, u56, u57, u58, u59, u60, u61, u62, u63, u64, u65, u66, u67, u68, u69, u70, u71, u72, u73, u74, u75, u76, u77, u78, u79, u80, u81, u82, u83, u84, u85, u86, u87, u88, u89, u90, u91, u92, u93, u94, u95, u96, u97, u98, u99, u100, u101, u102, u103, u104, u105, u106, u107, u108, u109, u110, u111, u112, u113, u114, u115, u116, u117, u118, u119, u120, u121, u122, u123, u124, u125, u126, u127, u128, u129, u130, u131, u132, u133, u134, u135, u136, u137, u138, u139, u140, u141, u142, u143, u144, u145, u146, u147, u148, u149, u150, u151, u152, u153, u154, u155, u156, u157, u158, u159, u160, u161, u162, u163, u164, u165, u166, u167, u168, u169, u170, u171, u172, u173, u174, u175, u176, u177, u178, u179, u180, u181, u182, u183, u184, u185, u186, u187, u188, u189, u190, u191, u192, u193, u194, u195, u196, u197, u198, u199, u200, u201, u202, u203, u204, u205, u206, u207, u208, u209, u210, u211, u212, u213, u214, u215, u216, u217, u218, u219, u220, u221, u222, u223, u224, u225, u226, u227, u228, u229, u230, u231, u232, u233, u234, u235, u236, u237, u238, u239, u240, u241, u242, u243, u244, u245, u246, u247, u248, u249, u250, u251, u252, u253, u254, u255, u256, u257, u258, u259, u260, u261, u262, u263, u264, u265, u266, u267, u268, u269, u270, u271, u272, u273, u274, u275, u276, u277, u278], []⟩ W := by
  have HQ := hide2 hQ
  have HO := Open_any n0 L (z0, z1, z2) W hh.1 hG.2.1 hwz
  have HT := fun W hW => Term_any n0 L z0 W hW hwz.1
  have HE := fun W hW => SameErr (openE L (z0, z1, z2)) W hW
  have HE2 := fun W hW => SameErr (atE L z0) W hW
  have Hh := hide2 hh
  have Hg := hide2 hg
  have hL : L.length ≤ 300 := hG.2.2
  have Hv := hide2 hv
  have Ht := hide2 ht
  have hat := hide2 (show (1 ≤ z0 ∧ z0 ≤ (L.length : Int)) → atE L z0 = 0 from fun h => atE_zero.2 h)
  have hatn := hide2 (show ¬ (1 ≤ z0 ∧ z0 ≤ (L.length : Int)) → atE L z0 = 5 ∧ atN L z0 = zeroTm from fun h => ⟨if_neg h, atN_not h⟩)
  have hatm := hide2 (show ∀ n : Nat, z0 = (n : Int) + 1 → ∀ h : n < L.length, atN L z0 = L[n] from fun n e h => by rw [e]; exact atN_at h)
  obtain ⟨_, _, e, hsl⟩ := own_slM hh.2.1
  simp only [Value.slice.injEq, true_and] at e
  obtain ⟨rfl, rfl⟩ := e
  have Hsl := hide2 hsl
  clear hQ hh hg hG hv ht hwz hsl
  unfold valI at HO
  generalize openT L (z0, z1, z2) = T at *
  generalize openE L (z0, z1, z2) = m at *
  generalize atE L z0 = m0 at *
  generalize atN L z0 = y0 at *
  have v0 := Hv.out.cell 0
  have v1 := Hv.out.cell 1
  have v2 := Hv.out.cell 2
  simp at v0 v1 v2
  unfold valTr at HO
  unfold valTm at HT
  conv => arg 2; whnf
  go_wp2_with fail
  refine HO.mono ?_
  rintro e W1 ⟨rfl, hb1⟩
  have hbx := bstep hb1 (balloc W1 (.cells (encTr T).toArray 39))
  have hW1 := hide2 (Hh.out.below hbx)
  have hV1 := hide2 (Hv.out.below hbx Hv.out.lt)
  have hT1 := hide2 (Ht.out.below hbx Ht.out.lt)
  have hU1 : Hid (Arr (W1.alloc (.cells (encTr T).toArray 39)) W1.heap.size (encTr T).toArray 39) := arr_made _ _ _
  have hlt1 : bt < W1.heap.size := Nat.lt_of_lt_of_le Ht.out.lt hb1.size
  clear HO Hh Hv Ht v0 v1 v2 hb1 hbx
  dsimp only
  go_wp2_with fail
  refine (HE _ (Hg.out.below hW1.out.2.2)).mono ?_
  rintro e W2 ⟨rfl, hb2⟩
  have hW2 := hide2 (hW1.out.below hb2)
  have hV2 := hide2 (hV1.out.below hb2 hV1.out.lt)
  have hT2 := hT1.out.below hb2 hT1.out.lt
  have hU2 := hU1.out.below hb2 hU1.out.lt
  clear hW1 hV1 hT1 hU1 hb2 HE
  have t0 := hT2.cell 0
  have t1 := hT2.cell 1
  have t2 := hT2.cell 2
  have t3 := hT2.cell 3
  have t4 := hT2.cell 4
  have t5 := hT2.cell 5
  have t6 := hT2.cell 6
  have t7 := hT2.cell 7
  have t8 := hT2.cell 8
  have s0 := hU2.cell 0
  have s1 := hU2.cell 1
  have s2 := hU2.cell 2
  have s3 := hU2.cell 3
  have s4 := hU2.cell 4
  have s5 := hU2.cell 5
  have s6 := hU2.cell 6
  have s7 := hU2.cell 7
  have s8 := hU2.cell 8
  simp [encTr] at t0 t1 t2 t3 t4 t5 t6 t7 t8 s0 s1 s2 s3 s4 s5 s6 s7 s8
  have v0 := hV2.out.cell 0
  simp at v0
  have hz2 := hV2.out.lt
  clear hT2 hU2
  dsimp only
  by_cases hin : 1 ≤ z0 ∧ z0 ≤ (L.length : Int)
  · have hm0 := hat.out hin
    subst hm0
    obtain ⟨n, hn⟩ : ∃ n : Nat, z0 = (n : Int) + 1 := ⟨(z0 - 1).toNat, by omega⟩
    have hnl : n < L.length := by omega
    have hy0 := hatm.out n hn hnl
    obtain ⟨_, _, e, hsl⟩ := own_slM hW2.out.2.1
    simp only [Value.slice.injEq, true_and] at e
    obtain ⟨rfl, rfl⟩ := e
    obtain ⟨bl, ol, rfl, hr⟩ := hsl.at n hnl
    obtain ⟨l0, l1, l2⟩ := hr.at n hnl
    have hHH := hW2
    have hVV := hV2
    clear hW2 hV2 hsl hr hat hatn hatm Hsl
    subst hn
    have q1 : ¬ ((n : Int) + 1 < 1) := by omega
    have q2 : ¬ ((n : Int) + 1 > (L.length : Int)) := by omega
    have q3 : (0 : Int) ≤ (n : Int) := by omega
    have q4 : (n : Int) < (L.length : Int) := by omega
    rw [← hy0] at l0 l1 l2
    have hbl : bl < W2.heap.size := World.block_lt_of_cell? W2 _ l0
    clear hy0 hin
    go_wp2_with fail
    refine (HT _ (hHH.out.below (balloc _ _)).1).mono ?_
    rintro e W4 ⟨rfl, hb4⟩
    have hbw := bstep (balloc W2 (.cells (encTm y0).toArray 29)) hb4
    have hbx := bstep hb4 (balloc W4 (.cells (encTm y0).toArray 29))
    have hW4 := hide2 ((hHH.out.below hbw).below (balloc W4 (.cells (encTm y0).toArray 29)))
    have hA4 := hide2 ((arr_made W2 (encTm y0).toArray 29).below hbx (by simp))
    have hU4 : Hid (Arr (W4.alloc (.cells (encTm y0).toArray 29)) W4.heap.size (encTm y0).toArray 29) := arr_made _ _ _
    clear HT hHH hVV v0 hb4 hbx hbw
    dsimp only
    go_wp2_with fail
    refine (HE2 _ (Hg.out.below hW4.out.2.2)).mono ?_
    rintro e W5 ⟨rfl, hb5⟩
    have hW5 := hide2 (hW4.out.below hb5)
    have hA5 := hA4.out.below hb5 hA4.out.lt
    have hU5 := hU4.out.below hb5 hU4.out.lt
    have t0 := hA5.cell 0
    have t1 := hA5.cell 1
    have t2 := hA5.cell 2
    have s0 := hU5.cell 0
    have s1 := hU5.cell 1
    have s2 := hU5.cell 2
    simp [encTm] at t0 t1 t2 s0 s1 s2
    clear HE2 hW4 hA4 hU4 hA5 hU5 hb5
    dsimp only
    go_wp2_with fail
    exact HQ.out _ _ _ _ _ _ _ _ _ _ _ _ _ _ _ _ _ _ _ _ _ _ _ _ _ _ _ _ _ _ _ _ _ _ _ _ _ _ _ _ _ _ _ _ _ _ _ _ _ _ _ _ _ _ _ _ _ _ _ _ _ _ _ _ _ _ _ _ _ _ _ _ _ _ _ _ _ _ _ _ _ _ _ _ _ _ _ _ _ _ _ _ _ _ _ _ _ _ _ _ _ _ _ _ _ _ _ _ _ _ _ _ _ _ _ _ _ _ _ _ _ _ _ _ _ _ _ _ _ _ _ _ _ _ _ _ _ _ _ _ _ _ _ _ _ _ _ _ _ _ _ _ _ _ _ _ _ _ _ _ _ _ _ _ _ _ _ _ _ _ _ _ _ _ _ _ _ _ _ _ _ _ _ _ _ _ _ _ _ _ _ _ _ _ _ _ _ _ _ _ _ _ _ _ _ _ _ _ _ _ _ _ _ _ _ _ _ _ _ _ _ _ _ _ _ _ _ _ _ _ _ _ _ _ _ _ _ _ _ _ _ _ _ _ _ _ _ _ _ _ _ _ _ _ _ _ _ _ _ _ _ _ _ _ _ _ _ _ _ _ hW5.out
  · obtain ⟨hm5, hyz⟩ := hatn.out hin
    subst hm5 hyz
    have hHH := hW2
    have hVV := hV2
    clear hW2 hV2 hat hatn hatm Hsl
    have hor : z0 < 1 ∨ (¬ z0 < 1 ∧ z0 > (L.length : Int)) := by omega
    clear hin
    rcases hor with q1 | ⟨q1, q2⟩
    all_goals
      go_wp2_with fail
      refine (HT _ (hHH.out.below (balloc _ _)).1).mono ?_
      rintro e W4 ⟨rfl, hb4⟩
      have hbw := bstep (balloc W2 (.cells (encTm zeroTm).toArray 29)) hb4
      have hbx := bstep hb4 (balloc W4 (.cells (encTm zeroTm).toArray 29))
      have hW4 := hide2 ((hHH.out.below hbw).below (balloc W4 (.cells (encTm zeroTm).toArray 29)))
      have hA4 := hide2 ((arr_made W2 (encTm zeroTm).toArray 29).below hbx (by simp))
      have hU4 : Hid (Arr (W4.alloc (.cells (encTm zeroTm).toArray 29)) W4.heap.size (encTm zeroTm).toArray 29) := arr_made _ _ _
      clear HT hHH hVV v0 hb4 hbx hbw
      dsimp only
      go_wp2_with fail
      refine (HE2 _ (Hg.out.below hW4.out.2.2)).mono ?_
      rintro e W5 ⟨rfl, hb5⟩
      have hW5 := hide2 (hW4.out.below hb5)
      have hA5 := hA4.out.below hb5 hA4.out.lt
      have hU5 := hU4.out.below hb5 hU4.out.lt
      have t0 := hA5.cell 0
      have t1 := hA5.cell 1
      have t2 := hA5.cell 2
      have s0 := hU5.cell 0
      have s1 := hU5.cell 1
      have s2 := hU5.cell 2
      simp [encTm] at t0 t1 t2 s0 s1 s2
      clear HE2 hW4 hA4 hU4 hA5 hU5 hb5
      dsimp only
      go_wp2_with fail
      exact HQ.out _ _ _ _ _ _ _ _ _ _ _ _ _ _ _ _ _ _ _ _ _ _ _ _ _ _ _ _ _ _ _ _ _ _ _ _ _ _ _ _ _ _ _ _ _ _ _ _ _ _ _ _ _ _ _ _ _ _ _ _ _ _ _ _ _ _ _ _ _ _ _ _ _ _ _ _ _ _ _ _ _ _ _ _ _ _ _ _ _ _ _ _ _ _ _ _ _ _ _ _ _ _ _ _ _ _ _ _ _ _ _ _ _ _ _ _ _ _ _ _ _ _ _ _ _ _ _ _ _ _ _ _ _ _ _ _ _ _ _ _ _ _ _ _ _ _ _ _ _ _ _ _ _ _ _ _ _ _ _ _ _ _ _ _ _ _ _ _ _ _ _ _ _ _ _ _ _ _ _ _ _ _ _ _ _ _ _ _ _ _ _ _ _ _ _ _ _ _ _ _ _ _ _ _ _ _ _ _ _ _ _ _ _ _ _ _ _ _ _ _ _ _ _ _ _ _ _ _ _ _ _ _ _ _ _ _ _ _ _ _ _ _ _ _ _ _ _ _ _ _ _ _ _ _ _ _ _ _ _ _ _ _ _ _ _ _ _ _ _ _ hW5.out
end Go.Proofs.YtkeholipklfnbacDoor
