import Derived.Test.YtgdjeohcimkljadGreatDoorCPCode

/- ChainPlays' round, its last part: what there is behind so many layers, and what of it matches. -/
namespace Go.Proofs.YtgdjeohcimkljadGreatDoor
open Go Go.RowKit Go.Proofs
set_option synthInstance.maxSize 1000

attribute [local go_sem] eql_errV neq_errV guard_errV

set_option maxHeartbeats 32000000 in
set_option maxRecDepth 1000000 in
theorem playsTail (Q0 : Exit → Act → World → Prop) (u9 u16 u17 u18 u19 u20 u21 u22 u23 u24 u25 u26 u27 u28 u29 u30 u31 u32 u33 u34 u60 u61 u62 u63 u64 u65 u66 u67 u68 u69 u70 u71 u72 u73 u74 u75 u76 u77 u78 u79 u80 u81 u82 u83 u84 u85 u86 u87 u88 u89 u90 u91 u92 u93 u94 u95 u96 u97 u98 u99 u100 u101 u102 u103 u104 u105 u106 u107 u108 u109 u110 u111 u112 u113 u114 u115 u116 u117 u118 u119 u120 u121 u122 u123 u124 u125 u126 u127 u128 u129 u130 u131 u132 u133 u134 u135 u136 u137 u138 u139 u140 u141 u142 u143 u144 u145 u146 u147 u148 u149 u150 u151 u152 u153 u154 u155 u156 u157 u158 u159 u160 u161 u162 u163 u164 u165 u166 u167 u168 u169 u170 u171 u172 u173 u174 u175 u176 u177 u178 u179 u180 u181 u182 u183 u184 u185 u186 u187 u188 u189 u190 u191 u192 u193 u194 u195 u196 u197 u198 u199 u200 u201 u202 u203 u204 u205 u206 u207 u208 u209 u210 u211 u212 u213 u214 u215 u216 u217 u218 u219 u220 u221 u222 u223 u224 u225 u226 u227 u228 u229 u230 u231 u232 u233 u234 u235 u236 u237 u238 u239 u240 u241 u242 u243 u244 u245 u246 u247 u248 u249 u250 u251 u252 u253 u254 u255 u256 u257 u258 u259 u260 u261 u262 u263 u264 u265 u266 u267 u268 u269 u270 u271 u272 u273 u274 u275 u276 u277 u278 u279 u280 u281 u282 u283 u284 u285 u286 u287 u288 u289 u290 u291 u292 u293 u294 u295 u296 u297 u298 u299 u300 u301 u302 u303 u304 u305 u306 u307 u308 u309 u310 u311 u312 u313 : Value) (c3 c4 c5 c6 c8 c11 c35 c36 c37 c38 c39 c40 c41 c42 c43 c44 c45 c46 c47 c48 c49 c50 c51 c52 c53 c54 c55 c56 c57 c58 c59 : Value) (sd ld qd : Option Addr) (cs cl cq k n0 nq bv : Nat) (s : List Tr) (ls : List Ly) (p : Pt) (gs : List (List Tr)) (v : Value) (x0 x1 x2 : Int) (w W : World) (mad : Option Addr) (m mcap : Nat)
    (hg : errVar w) (hs : SlT w sd s) (fp : fitPt p) (hm : gs.length = m + 1) (hst : PSt w n0 s p gs v (.slice mad m mcap) W) (hNum : Num3 W bv x0 x1 x2)
    (hQ : ∀ (x9 x12 x15 x16 x17 x18 x19 x20 x21 x22 x23 x24 x25 x26 x27 x28 x29 x30 x31 x32 x33 x34 x60 x61 x62 x63 x64 x65 x66 x67 x68 x69 x70 x71 x72 x73 x74 x75 x76 x77 x78 x79 x80 x81 x82 x83 x84 x85 x86 x87 x88 x89 x90 x91 x92 x93 x94 x95 x96 x97 x98 x99 x100 x101 x102 x103 x104 x105 x106 x107 x108 x109 x110 x111 x112 x113 x114 x115 x116 x117 x118 x119 x120 x121 x122 x123 x124 x125 x126 x127 x128 x129 x130 x131 x132 x133 x134 x135 x136 x137 x138 x139 x140 x141 x142 x143 x144 x145 x146 x147 x148 x149 x150 x151 x152 x153 x154 x155 x156 x157 x158 x159 x160 x161 x162 x163 x164 x165 x166 x167 x168 x169 x170 x171 x172 x173 x174 x175 x176 x177 x178 x179 x180 x181 x182 x183 x184 x185 x186 x187 x188 x189 x190 x191 x192 x193 x194 x195 x196 x197 x198 x199 x200 x201 x202 x203 x204 x205 x206 x207 x208 x209 x210 x211 x212 x213 x214 x215 x216 x217 x218 x219 x220 x221 x222 x223 x224 x225 x226 x227 x228 x229 x230 x231 x232 x233 x234 x235 x236 x237 x238 x239 x240 x241 x242 x243 x244 x245 x246 x247 x248 x249 x250 x251 x252 x253 x254 x255 x256 x257 x258 x259 x260 x261 x262 x263 x264 x265 x266 x267 x268 x269 x270 x271 x272 x273 x274 x275 x276 x277 x278 x279 x280 x281 x282 x283 x284 x285 x286 x287 x288 x289 x290 x291 x292 x293 x294 x295 x296 x297 x298 x299 x300 x301 x302 x303 x304 x305 x306 x307 x308 x309 x310 x311 x312 x313 : Value) (W' : World), PSt w n0 s p gs v (.slice mad m mcap) W' → Q0 .normal ⟨#[.slice sd s.length cs, .slice ld ls.length cl, .slice qd nq cq, c3, c4, c5, c6, .pointer (some ⟨w.heap.size, 0, none⟩), c8, x9, .pointer (some ⟨n0, 0, none⟩), c11, x12, .slice mad m mcap, .int .i64 (k : Int), x15, x16, x17, x18, x19, x20, x21, x22, x23, x24, x25, x26, x27, x28, x29, x30, x31, x32, x33, x34, c35, c36, c37, c38, c39, c40, c41, c42, c43, c44, c45, c46, c47, c48, c49, c50, c51, c52, c53, c54, c55, c56, c57, c58, c59, x60, x61, x62, x63, x64, x65, x66, x67, x68, x69, x70, x71, x72, x73, x74, x75, x76, x77, x78, x79, x80, x81, x82, x83, x84, x85, x86, x87, x88, x89, x90, x91, x92, x93, x94, x95, x96, x97, x98, x99, x100, x101, x102, x103, x104, x105, x106, x107, x108, x109, x110, x111, x112, x113, x114, x115, x116, x117, x118, x119, x120, x121, x122, x123, x124, x125, x126, x127, x128, x129, x130, x131, x132, x133, x134, x135, x136, x137, x138, x139, x140, x141, x142, x143, x144, x145, x146, x147, x148, x149, x150, x151, x152, x153, x154, x155, x156, x157, x158, x159, x160, x161, x162, x163, x164, x165, x166, x167, x168, x169, x170, x171, x172, x173, x174, x175, x176, x177, x178, x179, x180, x181, x182, x183, x184, x185, x186, x187, x188, x189, x190, x191, x192, x193, x194, x195, x196, x197, x198, x199, x200, x201, x202, x203, x204, x205, x206, x207, x208, x209, x210, x211, x212, x213, x214, x215, x216, x217, x218, x219, x220, x221, x222, x223, x224, x225, x226, x227, x228, x229, x230, x231, x232, x233, x234, x235, x236, x237, x238, x239, x240, x241, x242, x243, x244, x245, x246, x247, x248, x249, x250, x251, x252, x253, x254, x255, x256, x257, x258, x259, x260, x261, x262, x263, x264, x265, x266, x267, x268, x269, x270, x271, x272, x273, x274, x275, x276, x277, x278, x279, x280, x281, x282, x283, x284, x285, x286, x287, x288, x289, x290, x291, x292, x293, x294, x295, x296, x297, x298, x299, x300, x301, x302, x303, x304, x305, x306, x307, x308, x309, x310, x311, x312, x313], []⟩ W') :
    Code.wp Tryz.prog (codeOf Tryz.f4.body 59) Q0 ⟨#[.slice sd s.length cs, .slice ld ls.length cl, .slice qd nq cq, c3, c4, c5, c6, .pointer (some ⟨w.heap.size, 0, none⟩), c8, u9, .pointer (some ⟨n0, 0, none⟩), c11, .bool true, .slice mad m mcap, .int .i64 (k : Int), .pointer (some ⟨bv, 0, none⟩), u16, u17, u18, u19, u20, u21, u22, u23, u24, u25, u26, u27, u28, u29, u30, u31, u32, u33, u34, c35, c36, c37, c38, c39, c40, c41, c42, c43, c44, c45, c46, c47, c48, c49, c50, c51, c52, c53, c54, c55, c56, c57, c58, c59, u60, u61, u62, u63, u64, u65, u66, u67, u68, u69, u70, u71, u72, u73, u74, u75, u76, u77, u78, u79, u80, u81, u82, u83, u84, u85, u86, u87, u88, u89, u90, u91, u92, u93, u94, u95, u96, u97, u98, u99, u100, u101, u102, u103, u104, u105, u106, u107, u108, u109, u110, u111, u112, u113, u114, u115, u116, u117, u118, u119, u120, u121, u122, u123, u124, u125, u126, u127, u128, u129, u130, u131, u132, u133, u134, u135, u136, u137, u138, u139, u140, u141, u142, u143, u144, u145, u146, u147, u148, u149, u150, u151, u152, u153, u154, u155, u156, u157, u158, u159, u160, u161, u162, u163, u164, u165, u166, u167, u168, u169, u170, u171, u172, u173, u174, u175, u176, u177, u178, u179, u180, u181, u182, u183, u184, u185, u186, u187, u188, u189, u190, u191, u192, u193, u194, u195, u196, u197, u198, u199, u200, u201, u202, u203, u204, u205, u206, u207, u208, u209, u210, u211, u212, u213, u214, u215, u216, u217, u218, u219, u220, u221, u222, u223, u224, u225, u226, u227, u228, u229, u230, u231, u232, u233, u234, u235, u236, u237, u238, u239, u240, u241, u242, u243, u244, u245, u246, u247, u248, u249, u250, u251, u252, u253, u254, u255, u256, u257, u258, u259, u260, u261, u262, u263, u264, u265, u266, u267, u268, u269, u270, u271, u272, u273, u274, u275, u276, u277, u278, u279, u280, u281, u282, u283, u284, u285, u286, u287, u288, u289, u290, u291, u292, u293, u294, u295, u296, u297, u298, u299, u300, u301, u302, u303, u304, u305, u306, u307, u308, u309, u310, u311, u312, u313], []⟩ W := by
  have HQ : Hid _ := hQ
  have Hg : Hid (errVar w) := hg
  have Hst : Hid (PSt w n0 s p gs v (.slice mad m mcap) W) := hst
  obtain ⟨y0, y1, y2, _, _, _⟩ := id hNum
  have hm30 : m ≤ 30 := by have := hst.2.1; omega
  have HL := fun W (h : PSt w n0 s p gs v (.slice mad m mcap) W) => CLen_any n0 v gs W h.1.1 (by omega)
  rw [hm, Nat.add_sub_cancel] at HL
  have HE := fun n W (h : PSt w n0 s p gs v (.slice mad m mcap) W) => SameErrorT n W (hg.below h.1.2.2.2.1)
  conv => arg 2; whnf
  by_cases hr : x2 < 0 ∨ (m : Int) < x2
  · have HG := fun W (h : PSt w n0 s p gs v (.slice mad m mcap) W) => GraphBad_any n0 v gs x2 W h.1.1 (by omega) (by rw [hm, Nat.add_sub_cancel]; exact hr)
    have HM := fun W (h : PSt w n0 s p gs v (.slice mad m mcap) W) => CMatchBad_any n0 v gs x2 p W h.1.1 (by omega) (by rw [hm, Nat.add_sub_cancel]; exact hr)
    have HN := SameNil_any
    have E1 := HE 1
    rw [show errV 1 = .iface 73 (.int .i64 1) from rfl] at E1
    have Hr : Hid (x2 < 0 ∨ (m : Int) < x2) := hr
    clear hQ hg hs fp hst hNum HE hr y0 y1 hm
    unfold valPt at HM
    by_cases h1 : x2 < 0
    · have t1 : decide (x2 < 0) = true := by simpa using h1
      go_wp2_with fail
      refine (HG _ Hst.out).mono ?_
      rintro e w1 ⟨rfl, rfl⟩
      dsimp only
      go_wp2_with fail
      refine (E1 _ Hst.out).mono ?_
      rintro e w2 ⟨rfl, hb2⟩
      have Hst2 : Hid (PSt w n0 s p gs v (.slice mad m mcap) w2) := Hst.out.below hb2
      clear hb2 HG
      dsimp only
      go_wp2_with fail
      refine (HN _).mono ?_
      rintro e w3 ⟨rfl, hb3⟩
      have Hst3 : Hid (PSt w n0 s p gs v (.slice mad m mcap) w3) := Hst2.out.below hb3
      clear hb3 Hst2
      obtain ⟨p0, p1, p2, p3, p4, p5, p6, p7, p8, p9, p10, p11⟩ := Hst3.out.1.2.2.2.2.1.all
      dsimp only
      go_wp2_with fail
      refine (HM _ Hst3.out).mono ?_
      rintro e w4 ⟨rfl, hb4⟩
      have Hst4 : Hid (PSt w n0 s p gs v (.slice mad m mcap) w4) := Hst3.out.below hb4
      clear hb4 Hst3 HM p0 p1 p2 p3 p4 p5 p6 p7 p8 p9 p10 p11
      dsimp only
      go_wp2_with fail
      refine (E1 _ Hst4.out).mono ?_
      rintro e w5 ⟨rfl, hb5⟩
      have Hst5 : Hid (PSt w n0 s p gs v (.slice mad m mcap) w5) := Hst4.out.below hb5
      clear hb5 Hst4
      dsimp only
      go_wp2_with fail
      refine (HN _).mono ?_
      rintro e w6 ⟨rfl, hb6⟩
      have Hst7 : Hid (PSt w n0 s p gs v (.slice mad m mcap) w6) := Hst5.out.below hb6
      clear hb6 Hst5
      dsimp only
      go_wp2_with fail
      refine (HL _ Hst7.out).mono ?_
      rintro e w9 ⟨rfl, rfl⟩
      dsimp only
      go_wp2_with fail
      first | exact HQ.out _ _ _ Hst7.out | apply HQ.out <;> exact Hst7.out
    · have t1 : decide (x2 < 0) = false := by simpa using h1
      have h2 : (m : Int) < x2 := by rcases Hr.out with h | h; exact absurd h h1; exact h
      have t2 : decide ((m : Int) < x2) = true := by simpa using h2
      go_wp2_with fail
      refine (HG _ Hst.out).mono ?_
      rintro e w1 ⟨rfl, rfl⟩
      dsimp only
      go_wp2_with fail
      refine (E1 _ Hst.out).mono ?_
      rintro e w2 ⟨rfl, hb2⟩
      have Hst2 : Hid (PSt w n0 s p gs v (.slice mad m mcap) w2) := Hst.out.below hb2
      clear hb2 HG
      dsimp only
      go_wp2_with fail
      refine (HN _).mono ?_
      rintro e w3 ⟨rfl, hb3⟩
      have Hst3 : Hid (PSt w n0 s p gs v (.slice mad m mcap) w3) := Hst2.out.below hb3
      clear hb3 Hst2
      obtain ⟨p0, p1, p2, p3, p4, p5, p6, p7, p8, p9, p10, p11⟩ := Hst3.out.1.2.2.2.2.1.all
      dsimp only
      go_wp2_with fail
      refine (HM _ Hst3.out).mono ?_
      rintro e w4 ⟨rfl, hb4⟩
      have Hst4 : Hid (PSt w n0 s p gs v (.slice mad m mcap) w4) := Hst3.out.below hb4
      clear hb4 Hst3 HM p0 p1 p2 p3 p4 p5 p6 p7 p8 p9 p10 p11
      dsimp only
      go_wp2_with fail
      refine (E1 _ Hst4.out).mono ?_
      rintro e w5 ⟨rfl, hb5⟩
      have Hst5 : Hid (PSt w n0 s p gs v (.slice mad m mcap) w5) := Hst4.out.below hb5
      clear hb5 Hst4
      dsimp only
      go_wp2_with fail
      refine (HN _).mono ?_
      rintro e w6 ⟨rfl, hb6⟩
      have Hst7 : Hid (PSt w n0 s p gs v (.slice mad m mcap) w6) := Hst5.out.below hb6
      clear hb6 Hst5
      dsimp only
      go_wp2_with fail
      refine (HL _ Hst7.out).mono ?_
      rintro e w9 ⟨rfl, rfl⟩
      dsimp only
      go_wp2_with fail
      first | exact HQ.out _ _ _ Hst7.out | apply HQ.out <;> exact Hst7.out
  · obtain ⟨j, rfl⟩ : ∃ j : Nat, x2 = (j : Int) := ⟨x2.toNat, by omega⟩
    have hj : j ≤ m := by omega
    have hjg : gs[j]? = some (gat gs j) := gat_eq (by omega)
    have sj := hst.1.1.set hjg
    have HG := fun W (h : PSt w n0 s p gs v (.slice mad m mcap) W) => Graph_any n0 v gs j (gat gs j) W h.1.1 (by omega) hjg
    have HM := fun W (h : PSt w n0 s p gs v (.slice mad m mcap) W) => CMatch_any n0 v gs j (gat gs j) p W h.1.1 (by omega) hjg fp
    have HR := fun W (h : PSt w n0 s p gs v (.slice mad m mcap) W) => lgraph_any sd cs (w.heap.size + 1) (.slice mad m mcap) s gs j (gat gs j) W (hs.below h.1.2.2.2.1) h.1.2.1 h.sets h.2.2 (by omega) hjg
    have HV := fun W => RVars_any p W fp
    have HX := fun a c W h => RMatch_any a c (gat gs j) p W h sj.1
    have HS := fun a b ca cb l W h1 h2 h3 => SameListT a b ca cb l l W h1 h2 h3 rfl
    have Hmn : Hid (matchN (gat gs j) p = varsN p) := by show _ = _; unfold matchN; rw [if_pos (sortedN_set.2 sj)]
    have Hml : Hid ((matchL (gat gs j) p).length ≤ 200) := Nat.le_trans (List.length_filter_le _ _) sj.1
    have Hsl : Hid ((gat gs j).length ≤ 200) := sj.1
    have b1 : ¬ ((j : Int) < 0) := by omega
    have b2 : decide (m < j) = false := by simp; omega
    have E0 := HE 0
    rw [show errV 0 = .nilIface from rfl] at E0
    have EV := HE (varsN p)
    clear hQ hg hs fp hst hNum HE hr y0 y1 hm hjg sj
    unfold valPt at HM HV HX
    unfold CMatchAns at HM
    rw [Hmn.out] at HM
    have Hans : Hid (∀ l, MatchAns (gat gs j) p l → l = if varsN p = 0 then matchL (gat gs j) p else []) := fun l hl => by unfold MatchAns at hl; rw [Hmn.out] at hl; exact hl
    generalize gat gs j = g at *
    generalize varsN p = V at *
    generalize matchL g p = ML at *
    go_wp2_with fail
    refine (HR _ Hst.out).mono ?_
    rintro e w1 ⟨hb1, a1, c1, rfl, hs1⟩
    have Hst1 : Hid (PSt w n0 s p gs v (.slice mad m mcap) w1) := Hst.out.below hb1
    have Hs1 : Hid (SlT w1 a1 g) := hs1
    clear hb1 hs1 HR Hst y2
    dsimp only
    go_wp2_with fail
    refine (HG _ Hst1.out).mono ?_
    rintro e w2 ⟨hb2, a2, c2, rfl, hs2⟩
    have Hst2 : Hid (PSt w n0 s p gs v (.slice mad m mcap) w2) := Hst1.out.below hb2
    have Hs2 : Hid (SlT w2 a2 g ∧ SlT w2 a1 g) := ⟨hs2, Hs1.out.below hb2⟩
    clear hb2 hs2 HG Hst1 Hs1
    dsimp only
    go_wp2_with fail
    refine (E0 _ Hst2.out).mono ?_
    rintro e w3 ⟨rfl, hb3⟩
    have Hst3 : Hid (PSt w n0 s p gs v (.slice mad m mcap) w3) := Hst2.out.below hb3
    have Hs3 : Hid (SlT w3 a2 g ∧ SlT w3 a1 g) := ⟨Hs2.out.1.below hb3, Hs2.out.2.below hb3⟩
    clear hb3 Hst2 Hs2
    dsimp only
    go_wp2_with fail
    refine (HS a2 a1 c2 c1 g _ Hs3.out.1 Hs3.out.2 Hsl.out).mono ?_
    rintro e w4 ⟨rfl, hb4⟩
    have Hst4 : Hid (PSt w n0 s p gs v (.slice mad m mcap) w4) := Hst3.out.below hb4
    have Hs4 : Hid (SlT w4 a1 g) := Hs3.out.2.below hb4
    clear hb4 Hst3 Hs3
    obtain ⟨p0, p1, p2, p3, p4, p5, p6, p7, p8, p9, p10, p11⟩ := Hst4.out.1.2.2.2.2.1.all
    dsimp only
    go_wp2_with fail
    refine (HV _).mono ?_
    rintro e w5 ⟨hb5, vl, va, vc, rfl, hv5, _⟩
    have Hst5 : Hid (PSt w n0 s p gs v (.slice mad m mcap) w5) := Hst4.out.below hb5
    have Hs5 : Hid (SlT w5 a1 g) := Hs4.out.below hb5
    clear hb5 Hst4 Hs4 hv5 HV p0 p1 p2 p3 p4 p5 p6 p7 p8 p9 p10 p11
    obtain ⟨p0, p1, p2, p3, p4, p5, p6, p7, p8, p9, p10, p11⟩ := Hst5.out.1.2.2.2.2.1.all
    cases hV : (V == 0)
    · have hV0 : ¬ V = 0 := by simpa using hV
      have Hans0 : Hid (∀ l, MatchAns g p l → l = []) := fun l hl => by have := Hans.out l hl; rw [if_neg hV0] at this; exact this
      clear hV0 Hans
      dsimp only
      go_wp2_with fail
      refine (HM _ Hst5.out).mono ?_
      rintro e w6 ⟨hb6, l6, a6, c6, rfl, hs6, hans6⟩
      obtain rfl := Hans0.out l6 hans6
      have Hst6 : Hid (PSt w n0 s p gs v (.slice mad m mcap) w6) := Hst5.out.below hb6
      clear hb6 hs6 hans6 HM Hst5 p0 p1 p2 p3 p4 p5 p6 p7 p8 p9 p10 p11
      dsimp only
      go_wp2_with fail
      refine (EV _ Hst6.out).mono ?_
      rintro e w7 ⟨rfl, hb7⟩
      have Hst7 : Hid (PSt w n0 s p gs v (.slice mad m mcap) w7) := Hst6.out.below hb7
      clear hb7 Hst6
      dsimp only
      go_wp2_with fail
      refine (HS a6 none c6 0 [] _ (slT_nil _ _) (slT_nil _ _) (by simp)).mono ?_
      rintro e w8 ⟨rfl, hb8⟩
      have Hst8 : Hid (PSt w n0 s p gs v (.slice mad m mcap) w8) := Hst7.out.below hb8
      clear hb8 Hst7
      dsimp only
      go_wp2_with fail
      refine (HL _ Hst8.out).mono ?_
      rintro e w9 ⟨rfl, rfl⟩
      dsimp only
      go_wp2_with fail
      first | exact HQ.out _ _ _ Hst8.out | apply HQ.out <;> exact Hst8.out
    · have hV0 : V = 0 := by simpa using hV
      have Hans0 : Hid (∀ l, MatchAns g p l → l = ML) := fun l hl => by have := Hans.out l hl; rw [if_pos hV0] at this; exact this
      subst hV0
      clear Hans
      rw [show errV 0 = .nilIface from rfl] at HM EV
      dsimp only
      go_wp2_with fail
      refine (HX a1 c1 _ Hs5.out).mono ?_
      rintro e w55 ⟨hb55, a55, c55, rfl, hs55⟩
      have Hst55 : Hid (PSt w n0 s p gs v (.slice mad m mcap) w55) := Hst5.out.below hb55
      have Hs55 : Hid (SlT w55 a55 ML) := hs55
      clear hb55 hs55 HX Hst5 Hs5 p0 p1 p2 p3 p4 p5 p6 p7 p8 p9 p10 p11
      obtain ⟨p0, p1, p2, p3, p4, p5, p6, p7, p8, p9, p10, p11⟩ := Hst55.out.1.2.2.2.2.1.all
      dsimp only
      go_wp2_with fail
      refine (HM _ Hst55.out).mono ?_
      rintro e w6 ⟨hb6, l6, a6, c6, rfl, hs6, hans6⟩
      obtain rfl := Hans0.out l6 hans6
      have Hst6 : Hid (PSt w n0 s p gs v (.slice mad m mcap) w6) := Hst55.out.below hb6
      have Hs6 : Hid (SlT w6 a6 l6 ∧ SlT w6 a55 l6) := ⟨hs6, Hs55.out.below hb6⟩
      clear hb6 hs6 hans6 HM Hst55 Hs55 p0 p1 p2 p3 p4 p5 p6 p7 p8 p9 p10 p11
      dsimp only
      go_wp2_with fail
      refine (EV _ Hst6.out).mono ?_
      rintro e w7 ⟨rfl, hb7⟩
      have Hst7 : Hid (PSt w n0 s p gs v (.slice mad m mcap) w7) := Hst6.out.below hb7
      have Hs7 : Hid (SlT w7 a6 l6 ∧ SlT w7 a55 l6) := ⟨Hs6.out.1.below hb7, Hs6.out.2.below hb7⟩
      clear hb7 Hst6 Hs6
      dsimp only
      go_wp2_with fail
      refine (HS a6 a55 c6 c55 l6 _ Hs7.out.1 Hs7.out.2 Hml.out).mono ?_
      rintro e w8 ⟨rfl, hb8⟩
      have Hst8 : Hid (PSt w n0 s p gs v (.slice mad m mcap) w8) := Hst7.out.below hb8
      clear hb8 Hst7
      dsimp only
      go_wp2_with fail
      refine (HL _ Hst8.out).mono ?_
      rintro e w9 ⟨rfl, rfl⟩
      dsimp only
      go_wp2_with fail
      first | exact HQ.out _ _ _ Hst8.out | apply HQ.out <;> exact Hst8.out
end Go.Proofs.YtgdjeohcimkljadGreatDoor
