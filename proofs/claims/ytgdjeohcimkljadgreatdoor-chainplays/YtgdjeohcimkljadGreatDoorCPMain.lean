import Derived.Test.YtgdjeohcimkljadGreatDoorCPPush
import Derived.Test.YtgdjeohcimkljadGreatDoorCPSquash
import Derived.Deep.DeepCutAuto
import Derived.Deep.CutBlock
import Derived.Test.YtgdjeohcimkljadGreatDoorCPTail
import Derived.Deep.RegionHeld3

/- ChainPlays' round: the switch. -/
namespace Go.Proofs.YtgdjeohcimkljadGreatDoor
open Go Go.RowKit Go.Proofs
set_option synthInstance.maxSize 1000

attribute [local go_sem] eql_errV neq_errV guard_errV

set_option maxHeartbeats 32000000 in
set_option maxRecDepth 1000000 in
theorem playsSwitch (Q0 : Exit → Act → World → Prop) (u9 u12 u16 u18 u19 u20 u21 u22 u23 u24 u25 u26 u27 u28 u29 u30 u31 u32 u33 u34 u60 u61 u62 u63 u64 u65 u66 u67 u68 u69 u70 u71 u72 u73 u74 u75 u76 u77 u78 u79 u80 u81 u82 u83 u84 u85 u86 u87 u88 u89 u91 u92 u93 u94 u95 u96 u97 u98 u99 u100 u101 u102 u103 u104 u105 u106 u107 u108 u109 u110 u111 u112 u113 u114 u115 u116 u117 u118 u119 u120 u121 u122 u123 u124 u125 u126 u127 u128 u129 u130 u131 u132 u133 u134 u135 u136 u137 u138 u139 u140 u141 u142 u143 u144 u145 u146 u147 u148 u149 u150 u151 u152 u153 u154 u155 u156 u157 u158 u159 u160 u161 u162 u163 u164 u165 u166 u167 u168 u169 u170 u171 u172 u173 u174 u175 u176 u177 u178 u179 u180 u181 u182 u183 u184 u185 u186 u187 u188 u189 u190 u191 u192 u193 u194 u195 u196 u197 u198 u199 u200 u201 u202 u203 u204 u205 u206 u207 u208 u209 u210 u211 u212 u213 u214 u215 u216 u217 u218 u219 u220 u221 u222 u223 u224 u225 u226 u227 u228 u229 u230 u231 u232 u233 u234 u235 u236 u237 u238 u239 u240 u241 u242 u243 u244 u245 u246 u247 u248 u249 u250 u251 u252 u253 u254 u255 u256 u257 u258 u259 u260 u261 u262 u263 u264 u265 u266 u267 u268 u269 u270 u271 u272 u273 u274 u275 u276 u277 u278 u279 u280 u281 u282 u283 u284 u285 u286 u287 u288 u289 u290 u291 u292 u293 u294 u295 u296 u297 u298 u299 u300 u301 u302 u303 u304 u305 u306 u307 u308 u309 u310 u311 u312 u313 : Value) (c3 c4 c5 c6 c8 c11 c35 c36 c37 c38 c39 c40 c41 c42 c43 c44 c45 c46 c47 c48 c49 c50 c51 c52 c53 c54 c55 c56 c57 c58 c59 : Value) (sd ld qd : Option Addr) (cs cl cq k n0 nq bv : Nat) (s : List Tr) (ls : List Ly) (p : Pt) (gs : List (List Tr)) (v : Value) (x0 x1 x2 : Int) (w W : World) (mad td : Option Addr) (m mcap ct : Nat)
    (hg : errVar w) (hl : ls ≠ [] → ∃ b o, ld = some ⟨b, o, none⟩ ∧ LsAt w b o ls) (fl : ∀ l ∈ ls, FitL l) (nl : ls.length ≤ 9223372036854775807) (hm : gs.length = m + 1) (hst : PSt w n0 s p gs v (.slice mad m mcap) W) (hNum : Num3 W bv x0 x1 x2) (ht : SlT W td (gat gs m)) (hbv : bv ≠ n0) (hbo : v.ownBlock ≠ some bv) (hbm : Value.ownBlock (.slice mad m mcap) ≠ some bv)
    (hQ : ∀ (x9 x16 x17 x18 x19 x20 x21 x22 x23 x24 x25 x26 x27 x28 x29 x30 x31 x32 x33 x34 x60 x61 x62 x63 x64 x65 x66 x67 x68 x69 x70 x71 x72 x73 x74 x75 x76 x77 x78 x79 x80 x81 x82 x83 x84 x85 x86 x87 x88 x89 x90 x91 x92 x93 x94 x95 x96 x97 x98 x99 x100 x101 x102 x103 x104 x105 x106 x107 x108 x109 x110 x111 x112 x113 x114 x115 x116 x117 x118 x119 x120 x121 x122 x123 x124 x125 x126 x127 x128 x129 x130 x131 x132 x133 x134 x135 x136 x137 x138 x139 x140 x141 x142 x143 x144 x145 x146 x147 x148 x149 x150 x151 x152 x153 x154 x155 x156 x157 x158 x159 x160 x161 x162 x163 x164 x165 x166 x167 x168 x169 x170 x171 x172 x173 x174 x175 x176 x177 x178 x179 x180 x181 x182 x183 x184 x185 x186 x187 x188 x189 x190 x191 x192 x193 x194 x195 x196 x197 x198 x199 x200 x201 x202 x203 x204 x205 x206 x207 x208 x209 x210 x211 x212 x213 x214 x215 x216 x217 x218 x219 x220 x221 x222 x223 x224 x225 x226 x227 x228 x229 x230 x231 x232 x233 x234 x235 x236 x237 x238 x239 x240 x241 x242 x243 x244 x245 x246 x247 x248 x249 x250 x251 x252 x253 x254 x255 x256 x257 x258 x259 x260 x261 x262 x263 x264 x265 x266 x267 x268 x269 x270 x271 x272 x273 x274 x275 x276 x277 x278 x279 x280 x281 x282 x283 x284 x285 x286 x287 x288 x289 x290 x291 x292 x293 x294 x295 x296 x297 x298 x299 x300 x301 x302 x303 x304 x305 x306 x307 x308 x309 x310 x311 x312 x313 : Value) (vm : Value) (gs' : List (List Tr)) (v' : Value) (W' : World), PSt w n0 s p gs' v' vm W' → Num3 W' bv x0 x1 x2 → Q0 .normal ⟨#[.slice sd s.length cs, .slice ld ls.length cl, .slice qd nq cq, c3, c4, c5, c6, .pointer (some ⟨w.heap.size, 0, none⟩), c8, x9, .pointer (some ⟨n0, 0, none⟩), c11, .bool true, vm, .int .i64 (k : Int), .pointer (some ⟨bv, 0, none⟩), x16, x17, x18, x19, x20, x21, x22, x23, x24, x25, x26, x27, x28, x29, x30, x31, x32, x33, x34, c35, c36, c37, c38, c39, c40, c41, c42, c43, c44, c45, c46, c47, c48, c49, c50, c51, c52, c53, c54, c55, c56, c57, c58, c59, x60, x61, x62, x63, x64, x65, x66, x67, x68, x69, x70, x71, x72, x73, x74, x75, x76, x77, x78, x79, x80, x81, x82, x83, x84, x85, x86, x87, x88, x89, x90, x91, x92, x93, x94, x95, x96, x97, x98, x99, x100, x101, x102, x103, x104, x105, x106, x107, x108, x109, x110, x111, x112, x113, x114, x115, x116, x117, x118, x119, x120, x121, x122, x123, x124, x125, x126, x127, x128, x129, x130, x131, x132, x133, x134, x135, x136, x137, x138, x139, x140, x141, x142, x143, x144, x145, x146, x147, x148, x149, x150, x151, x152, x153, x154, x155, x156, x157, x158, x159, x160, x161, x162, x163, x164, x165, x166, x167, x168, x169, x170, x171, x172, x173, x174, x175, x176, x177, x178, x179, x180, x181, x182, x183, x184, x185, x186, x187, x188, x189, x190, x191, x192, x193, x194, x195, x196, x197, x198, x199, x200, x201, x202, x203, x204, x205, x206, x207, x208, x209, x210, x211, x212, x213, x214, x215, x216, x217, x218, x219, x220, x221, x222, x223, x224, x225, x226, x227, x228, x229, x230, x231, x232, x233, x234, x235, x236, x237, x238, x239, x240, x241, x242, x243, x244, x245, x246, x247, x248, x249, x250, x251, x252, x253, x254, x255, x256, x257, x258, x259, x260, x261, x262, x263, x264, x265, x266, x267, x268, x269, x270, x271, x272, x273, x274, x275, x276, x277, x278, x279, x280, x281, x282, x283, x284, x285, x286, x287, x288, x289, x290, x291, x292, x293, x294, x295, x296, x297, x298, x299, x300, x301, x302, x303, x304, x305, x306, x307, x308, x309, x310, x311, x312, x313], []⟩ W') :
    Code.wp Tryz.prog (codeOf Tryz.f4.body 32) Q0 ⟨#[.slice sd s.length cs, .slice ld ls.length cl, .slice qd nq cq, c3, c4, c5, c6, .pointer (some ⟨w.heap.size, 0, none⟩), c8, u9, .pointer (some ⟨n0, 0, none⟩), c11, u12, .slice mad m mcap, .int .i64 (k : Int), .pointer (some ⟨bv, 0, none⟩), u16, .slice td (gat gs m).length ct, u18, u19, u20, u21, u22, u23, u24, u25, u26, u27, u28, u29, u30, u31, u32, u33, u34, c35, c36, c37, c38, c39, c40, c41, c42, c43, c44, c45, c46, c47, c48, c49, c50, c51, c52, c53, c54, c55, c56, c57, c58, c59, u60, u61, u62, u63, u64, u65, u66, u67, u68, u69, u70, u71, u72, u73, u74, u75, u76, u77, u78, u79, u80, u81, u82, u83, u84, u85, u86, u87, u88, u89, .int .i64 x0, u91, u92, u93, u94, u95, u96, u97, u98, u99, u100, u101, u102, u103, u104, u105, u106, u107, u108, u109, u110, u111, u112, u113, u114, u115, u116, u117, u118, u119, u120, u121, u122, u123, u124, u125, u126, u127, u128, u129, u130, u131, u132, u133, u134, u135, u136, u137, u138, u139, u140, u141, u142, u143, u144, u145, u146, u147, u148, u149, u150, u151, u152, u153, u154, u155, u156, u157, u158, u159, u160, u161, u162, u163, u164, u165, u166, u167, u168, u169, u170, u171, u172, u173, u174, u175, u176, u177, u178, u179, u180, u181, u182, u183, u184, u185, u186, u187, u188, u189, u190, u191, u192, u193, u194, u195, u196, u197, u198, u199, u200, u201, u202, u203, u204, u205, u206, u207, u208, u209, u210, u211, u212, u213, u214, u215, u216, u217, u218, u219, u220, u221, u222, u223, u224, u225, u226, u227, u228, u229, u230, u231, u232, u233, u234, u235, u236, u237, u238, u239, u240, u241, u242, u243, u244, u245, u246, u247, u248, u249, u250, u251, u252, u253, u254, u255, u256, u257, u258, u259, u260, u261, u262, u263, u264, u265, u266, u267, u268, u269, u270, u271, u272, u273, u274, u275, u276, u277, u278, u279, u280, u281, u282, u283, u284, u285, u286, u287, u288, u289, u290, u291, u292, u293, u294, u295, u296, u297, u298, u299, u300, u301, u302, u303, u304, u305, u306, u307, u308, u309, u310, u311, u312, u313], []⟩ W := by
  have HQ : Hid _ := hQ
  obtain ⟨y0, y1, y2, _, _, _⟩ := id hNum
  have HA : Hid _ := And.intro hg (And.intro hl (And.intro fl (And.intro nl (And.intro hm (And.intro hst (And.intro hNum (And.intro ht (And.intro hbv (And.intro hbo hbm)))))))))
  clear hQ hg hl fl nl hm hst hNum ht hbv hbo hbm
  conv => arg 2; whnf
  by_cases d0 : x0 = 0
  · have t0 : (x0 == 0) = true := by simpa using d0
    clear d0
    go_upto_if 162 with fail
    refine wp_cond_true rfl ?_
    go_upto_if 162 with fail
    refine wp_cond_true rfl ?_
    refine playsPush _ _ _ _ _ _ _ _ _ _ _ _ _ _ _ _ _ _ _ _ _ _ _ _ _ _ _ _ _ _ _ _ _ _ _ _ _ _ _ _ _ _ _ _ _ _ _ _ _ _ _ _ _ _ _ _ _ _ _ _ _ _ _ _ _ _ _ _ _ _ _ _ _ _ _ _ _ _ _ _ _ _ _ _ _ _ _ _ _ _ _ _ _ _ _ _ _ _ _ _ _ _ _ _ _ _ _ _ _ _ _ _ _ _ _ _ _ _ _ _ _ _ _ _ _ _ _ _ _ _ _ _ _ _ _ _ _ _ _ _ _ _ _ _ _ _ _ _ _ _ _ _ _ _ _ _ _ _ _ _ _ _ _ _ _ _ _ _ _ _ _ _ _ _ _ _ _ _ _ _ _ _ _ _ _ _ _ _ _ _ _ _ _ _ _ _ _ _ _ _ _ _ _ _ _ _ _ _ _ _ _ _ _ _ _ _ _ _ _ _ _ _ _ _ _ _ _ _ _ _ _ _ _ _ _ _ _ _ _ _ _ _ _ _ _ _ _ _ _ _ _ _ _ _ _ _ _ _ _ _ _ _ _ _ _ _ _ _ _ _ _ _ _ _ _ _ _ _ _ _ _ _ _ _ _ _ _ _ _ _ _ _ _ _ _ _ _ _ _ _ _ _ _ _ _ _ sd ld qd cs cl cq k n0 nq bv s ls p gs v x0 x1 x2 w W mad td m mcap ct HA.out.1 HA.out.2.1 HA.out.2.2.1 HA.out.2.2.2.1 HA.out.2.2.2.2.1 HA.out.2.2.2.2.2.1 HA.out.2.2.2.2.2.2.1 HA.out.2.2.2.2.2.2.2.1 HA.out.2.2.2.2.2.2.2.2.1 HA.out.2.2.2.2.2.2.2.2.2.1 HA.out.2.2.2.2.2.2.2.2.2.2 ?_
    intros
    apply HQ.out <;> assumption
  · have t0 : (x0 == 0) = false := by simpa using d0
    by_cases d1 : x0 = 1
    · have t1 : (x0 == 1) = true := by simpa using d1
      clear d0 d1
      go_upto_if 162 with fail
      refine wp_cond_false rfl ?_
      go_upto_if 162 with fail
      refine wp_cond_true rfl ?_
      go_upto_if 162 with fail
      refine wp_cond_true rfl ?_
      refine playsPush _ _ _ _ _ _ _ _ _ _ _ _ _ _ _ _ _ _ _ _ _ _ _ _ _ _ _ _ _ _ _ _ _ _ _ _ _ _ _ _ _ _ _ _ _ _ _ _ _ _ _ _ _ _ _ _ _ _ _ _ _ _ _ _ _ _ _ _ _ _ _ _ _ _ _ _ _ _ _ _ _ _ _ _ _ _ _ _ _ _ _ _ _ _ _ _ _ _ _ _ _ _ _ _ _ _ _ _ _ _ _ _ _ _ _ _ _ _ _ _ _ _ _ _ _ _ _ _ _ _ _ _ _ _ _ _ _ _ _ _ _ _ _ _ _ _ _ _ _ _ _ _ _ _ _ _ _ _ _ _ _ _ _ _ _ _ _ _ _ _ _ _ _ _ _ _ _ _ _ _ _ _ _ _ _ _ _ _ _ _ _ _ _ _ _ _ _ _ _ _ _ _ _ _ _ _ _ _ _ _ _ _ _ _ _ _ _ _ _ _ _ _ _ _ _ _ _ _ _ _ _ _ _ _ _ _ _ _ _ _ _ _ _ _ _ _ _ _ _ _ _ _ _ _ _ _ _ _ _ _ _ _ _ _ _ _ _ _ _ _ _ _ _ _ _ _ _ _ _ _ _ _ _ _ _ _ _ _ _ _ _ _ _ _ _ _ _ _ _ _ _ _ _ _ _ _ sd ld qd cs cl cq k n0 nq bv s ls p gs v x0 x1 x2 w W mad td m mcap ct HA.out.1 HA.out.2.1 HA.out.2.2.1 HA.out.2.2.2.1 HA.out.2.2.2.2.1 HA.out.2.2.2.2.2.1 HA.out.2.2.2.2.2.2.1 HA.out.2.2.2.2.2.2.2.1 HA.out.2.2.2.2.2.2.2.2.1 HA.out.2.2.2.2.2.2.2.2.2.1 HA.out.2.2.2.2.2.2.2.2.2.2 ?_
      intros
      apply HQ.out <;> assumption
    · have t1 : (x0 == 1) = false := by simpa using d1
      by_cases d2 : x0 = 2
      · have t2 : (x0 == 2) = true := by simpa using d2
        clear d0 d1 d2
        go_upto_if 162 with fail
        refine wp_cond_false rfl ?_
        go_upto_if 162 with fail
        refine wp_cond_false rfl ?_
        go_upto_if 162 with fail
        refine wp_cond_true rfl ?_
        refine playsPush _ _ _ _ _ _ _ _ _ _ _ _ _ _ _ _ _ _ _ _ _ _ _ _ _ _ _ _ _ _ _ _ _ _ _ _ _ _ _ _ _ _ _ _ _ _ _ _ _ _ _ _ _ _ _ _ _ _ _ _ _ _ _ _ _ _ _ _ _ _ _ _ _ _ _ _ _ _ _ _ _ _ _ _ _ _ _ _ _ _ _ _ _ _ _ _ _ _ _ _ _ _ _ _ _ _ _ _ _ _ _ _ _ _ _ _ _ _ _ _ _ _ _ _ _ _ _ _ _ _ _ _ _ _ _ _ _ _ _ _ _ _ _ _ _ _ _ _ _ _ _ _ _ _ _ _ _ _ _ _ _ _ _ _ _ _ _ _ _ _ _ _ _ _ _ _ _ _ _ _ _ _ _ _ _ _ _ _ _ _ _ _ _ _ _ _ _ _ _ _ _ _ _ _ _ _ _ _ _ _ _ _ _ _ _ _ _ _ _ _ _ _ _ _ _ _ _ _ _ _ _ _ _ _ _ _ _ _ _ _ _ _ _ _ _ _ _ _ _ _ _ _ _ _ _ _ _ _ _ _ _ _ _ _ _ _ _ _ _ _ _ _ _ _ _ _ _ _ _ _ _ _ _ _ _ _ _ _ _ _ _ _ _ _ _ _ _ _ _ _ _ _ _ _ _ _ sd ld qd cs cl cq k n0 nq bv s ls p gs v x0 x1 x2 w W mad td m mcap ct HA.out.1 HA.out.2.1 HA.out.2.2.1 HA.out.2.2.2.1 HA.out.2.2.2.2.1 HA.out.2.2.2.2.2.1 HA.out.2.2.2.2.2.2.1 HA.out.2.2.2.2.2.2.2.1 HA.out.2.2.2.2.2.2.2.2.1 HA.out.2.2.2.2.2.2.2.2.2.1 HA.out.2.2.2.2.2.2.2.2.2.2 ?_
        intros
        apply HQ.out <;> assumption
      · have t2 : (x0 == 2) = false := by simpa using d2
        by_cases d3 : x0 = 3
        · have t3 : (x0 == 3) = true := by simpa using d3
          clear d0 d1 d2 d3
          go_upto_if 162 with fail
          refine wp_cond_false rfl ?_
          go_upto_if 162 with fail
          refine wp_cond_false rfl ?_
          go_upto_if 162 with fail
          refine wp_cond_false rfl ?_
          go_upto_if 207 with fail
          refine wp_cond_true rfl ?_
          refine playsPop _ _ _ _ _ _ _ _ _ _ _ _ _ _ _ _ _ _ _ _ _ _ _ _ _ _ _ _ _ _ _ _ _ _ _ _ _ _ _ _ _ _ _ _ _ _ _ _ _ _ _ _ _ _ _ _ _ _ _ _ _ _ _ _ _ _ _ _ _ _ _ _ _ _ _ _ _ _ _ _ _ _ _ _ _ _ _ _ _ _ _ _ _ _ _ _ _ _ _ _ _ _ _ _ _ _ _ _ _ _ _ _ _ _ _ _ _ _ _ _ _ _ _ _ _ _ _ _ _ _ _ _ _ _ _ _ _ _ _ _ _ _ _ _ _ _ _ _ _ _ _ _ _ _ _ _ _ _ _ _ _ _ _ _ _ _ _ _ _ _ _ _ _ _ _ _ _ _ _ _ _ _ _ _ _ _ _ _ _ _ _ _ _ _ _ _ _ _ _ _ _ _ _ _ _ _ _ _ _ _ _ _ _ _ _ _ _ _ _ _ _ _ _ _ _ _ _ _ _ _ _ _ _ _ _ _ _ _ _ _ _ _ _ _ _ _ _ _ _ _ _ _ _ _ _ _ _ _ _ _ _ _ _ _ _ _ _ _ _ _ _ _ _ _ _ _ _ _ _ _ _ _ _ _ _ _ _ _ _ _ _ _ _ _ _ _ _ _ _ _ _ _ _ _ _ _ sd ld qd cs cl cq k n0 nq bv s ls p gs v x0 x1 x2 w W mad td m mcap ct HA.out.1 HA.out.2.2.2.2.1 HA.out.2.2.2.2.2.1 HA.out.2.2.2.2.2.2.1 HA.out.2.2.2.2.2.2.2.2.1 HA.out.2.2.2.2.2.2.2.2.2.1 ?_
          intros
          apply HQ.out <;> assumption
        · have t3 : (x0 == 3) = false := by simpa using d3
          clear d0 d1 d2 d3
          go_upto_if 162 with fail
          refine wp_cond_false rfl ?_
          go_upto_if 162 with fail
          refine wp_cond_false rfl ?_
          go_upto_if 162 with fail
          refine wp_cond_false rfl ?_
          go_upto_if 207 with fail
          refine wp_cond_false rfl ?_
          refine playsSquash _ _ _ _ _ _ _ _ _ _ _ _ _ _ _ _ _ _ _ _ _ _ _ _ _ _ _ _ _ _ _ _ _ _ _ _ _ _ _ _ _ _ _ _ _ _ _ _ _ _ _ _ _ _ _ _ _ _ _ _ _ _ _ _ _ _ _ _ _ _ _ _ _ _ _ _ _ _ _ _ _ _ _ _ _ _ _ _ _ _ _ _ _ _ _ _ _ _ _ _ _ _ _ _ _ _ _ _ _ _ _ _ _ _ _ _ _ _ _ _ _ _ _ _ _ _ _ _ _ _ _ _ _ _ _ _ _ _ _ _ _ _ _ _ _ _ _ _ _ _ _ _ _ _ _ _ _ _ _ _ _ _ _ _ _ _ _ _ _ _ _ _ _ _ _ _ _ _ _ _ _ _ _ _ _ _ _ _ _ _ _ _ _ _ _ _ _ _ _ _ _ _ _ _ _ _ _ _ _ _ _ _ _ _ _ _ _ _ _ _ _ _ _ _ _ _ _ _ _ _ _ _ _ _ _ _ _ _ _ _ _ _ _ _ _ _ _ _ _ _ _ _ _ _ _ _ _ _ _ _ _ _ _ _ _ _ _ _ _ _ _ _ _ _ _ _ _ _ _ _ _ _ _ _ _ _ _ _ _ _ _ _ _ _ _ _ _ _ _ _ _ _ _ _ _ _ sd ld qd cs cl cq k n0 nq bv s ls p gs v x0 x1 x2 w W mad td m mcap ct HA.out.1 HA.out.2.2.2.2.1 HA.out.2.2.2.2.2.1 HA.out.2.2.2.2.2.2.1 HA.out.2.2.2.2.2.2.2.2.1 HA.out.2.2.2.2.2.2.2.2.2.1 HA.out.2.2.2.2.2.2.2.2.2.2 ?_
          intros
          apply HQ.out <;> assumption
end Go.Proofs.YtgdjeohcimkljadGreatDoor

/- ChainPlays' round behind the ask: the top graph, the switch, the last part. -/
namespace Go.Proofs.YtgdjeohcimkljadGreatDoor
open Go Go.RowKit Go.Proofs
set_option synthInstance.maxSize 1000

attribute [local go_sem] eql_errV neq_errV guard_errV

set_option maxHeartbeats 32000000 in
set_option maxRecDepth 1000000 in
theorem playsStep (Q0 : Exit → Act → World → Prop) (u9 u12 u16 u17 u18 u19 u20 u21 u22 u23 u24 u25 u26 u27 u28 u29 u30 u31 u32 u33 u34 u60 u61 u62 u63 u64 u65 u66 u67 u68 u69 u70 u71 u72 u73 u74 u75 u76 u77 u78 u79 u80 u81 u82 u83 u84 u85 u86 u87 u88 u89 u90 u91 u92 u93 u94 u95 u96 u97 u98 u99 u100 u101 u102 u103 u104 u105 u106 u107 u108 u109 u110 u111 u112 u113 u114 u115 u116 u117 u118 u119 u120 u121 u122 u123 u124 u125 u126 u127 u128 u129 u130 u131 u132 u133 u134 u135 u136 u137 u138 u139 u140 u141 u142 u143 u144 u145 u146 u147 u148 u149 u150 u151 u152 u153 u154 u155 u156 u157 u158 u159 u160 u161 u162 u163 u164 u165 u166 u167 u168 u169 u170 u171 u172 u173 u174 u175 u176 u177 u178 u179 u180 u181 u182 u183 u184 u185 u186 u187 u188 u189 u190 u191 u192 u193 u194 u195 u196 u197 u198 u199 u200 u201 u202 u203 u204 u205 u206 u207 u208 u209 u210 u211 u212 u213 u214 u215 u216 u217 u218 u219 u220 u221 u222 u223 u224 u225 u226 u227 u228 u229 u230 u231 u232 u233 u234 u235 u236 u237 u238 u239 u240 u241 u242 u243 u244 u245 u246 u247 u248 u249 u250 u251 u252 u253 u254 u255 u256 u257 u258 u259 u260 u261 u262 u263 u264 u265 u266 u267 u268 u269 u270 u271 u272 u273 u274 u275 u276 u277 u278 u279 u280 u281 u282 u283 u284 u285 u286 u287 u288 u289 u290 u291 u292 u293 u294 u295 u296 u297 u298 u299 u300 u301 u302 u303 u304 u305 u306 u307 u308 u309 u310 u311 u312 u313 : Value) (c3 c4 c5 c6 c8 c11 c35 c36 c37 c38 c39 c40 c41 c42 c43 c44 c45 c46 c47 c48 c49 c50 c51 c52 c53 c54 c55 c56 c57 c58 c59 : Value) (sd ld qd : Option Addr) (cs cl cq k n0 nq bv : Nat) (s : List Tr) (ls : List Ly) (p : Pt) (gs : List (List Tr)) (v : Value) (x0 x1 x2 : Int) (w W : World) (mad : Option Addr) (m mcap : Nat)
    (hg : errVar w) (hs : SlT w sd s) (fp : fitPt p) (hl : ls ≠ [] → ∃ b o, ld = some ⟨b, o, none⟩ ∧ LsAt w b o ls) (fl : ∀ l ∈ ls, FitL l) (nl : ls.length ≤ 9223372036854775807) (hm : gs.length = m + 1) (hst : PSt w n0 s p gs v (.slice mad m mcap) W) (hNum : Num3 W bv x0 x1 x2) (hbv : bv ≠ n0) (hbo : v.ownBlock ≠ some bv) (hbm : Value.ownBlock (.slice mad m mcap) ≠ some bv)
    (hQ : ∀ (x9 x12 x15 x16 x17 x18 x19 x20 x21 x22 x23 x24 x25 x26 x27 x28 x29 x30 x31 x32 x33 x34 x60 x61 x62 x63 x64 x65 x66 x67 x68 x69 x70 x71 x72 x73 x74 x75 x76 x77 x78 x79 x80 x81 x82 x83 x84 x85 x86 x87 x88 x89 x90 x91 x92 x93 x94 x95 x96 x97 x98 x99 x100 x101 x102 x103 x104 x105 x106 x107 x108 x109 x110 x111 x112 x113 x114 x115 x116 x117 x118 x119 x120 x121 x122 x123 x124 x125 x126 x127 x128 x129 x130 x131 x132 x133 x134 x135 x136 x137 x138 x139 x140 x141 x142 x143 x144 x145 x146 x147 x148 x149 x150 x151 x152 x153 x154 x155 x156 x157 x158 x159 x160 x161 x162 x163 x164 x165 x166 x167 x168 x169 x170 x171 x172 x173 x174 x175 x176 x177 x178 x179 x180 x181 x182 x183 x184 x185 x186 x187 x188 x189 x190 x191 x192 x193 x194 x195 x196 x197 x198 x199 x200 x201 x202 x203 x204 x205 x206 x207 x208 x209 x210 x211 x212 x213 x214 x215 x216 x217 x218 x219 x220 x221 x222 x223 x224 x225 x226 x227 x228 x229 x230 x231 x232 x233 x234 x235 x236 x237 x238 x239 x240 x241 x242 x243 x244 x245 x246 x247 x248 x249 x250 x251 x252 x253 x254 x255 x256 x257 x258 x259 x260 x261 x262 x263 x264 x265 x266 x267 x268 x269 x270 x271 x272 x273 x274 x275 x276 x277 x278 x279 x280 x281 x282 x283 x284 x285 x286 x287 x288 x289 x290 x291 x292 x293 x294 x295 x296 x297 x298 x299 x300 x301 x302 x303 x304 x305 x306 x307 x308 x309 x310 x311 x312 x313 : Value) (vm : Value) (gs' : List (List Tr)) (v' : Value) (W' : World), PSt w n0 s p gs' v' vm W' → Q0 .normal ⟨#[.slice sd s.length cs, .slice ld ls.length cl, .slice qd nq cq, c3, c4, c5, c6, .pointer (some ⟨w.heap.size, 0, none⟩), c8, x9, .pointer (some ⟨n0, 0, none⟩), c11, x12, vm, .int .i64 (k : Int), x15, x16, x17, x18, x19, x20, x21, x22, x23, x24, x25, x26, x27, x28, x29, x30, x31, x32, x33, x34, c35, c36, c37, c38, c39, c40, c41, c42, c43, c44, c45, c46, c47, c48, c49, c50, c51, c52, c53, c54, c55, c56, c57, c58, c59, x60, x61, x62, x63, x64, x65, x66, x67, x68, x69, x70, x71, x72, x73, x74, x75, x76, x77, x78, x79, x80, x81, x82, x83, x84, x85, x86, x87, x88, x89, x90, x91, x92, x93, x94, x95, x96, x97, x98, x99, x100, x101, x102, x103, x104, x105, x106, x107, x108, x109, x110, x111, x112, x113, x114, x115, x116, x117, x118, x119, x120, x121, x122, x123, x124, x125, x126, x127, x128, x129, x130, x131, x132, x133, x134, x135, x136, x137, x138, x139, x140, x141, x142, x143, x144, x145, x146, x147, x148, x149, x150, x151, x152, x153, x154, x155, x156, x157, x158, x159, x160, x161, x162, x163, x164, x165, x166, x167, x168, x169, x170, x171, x172, x173, x174, x175, x176, x177, x178, x179, x180, x181, x182, x183, x184, x185, x186, x187, x188, x189, x190, x191, x192, x193, x194, x195, x196, x197, x198, x199, x200, x201, x202, x203, x204, x205, x206, x207, x208, x209, x210, x211, x212, x213, x214, x215, x216, x217, x218, x219, x220, x221, x222, x223, x224, x225, x226, x227, x228, x229, x230, x231, x232, x233, x234, x235, x236, x237, x238, x239, x240, x241, x242, x243, x244, x245, x246, x247, x248, x249, x250, x251, x252, x253, x254, x255, x256, x257, x258, x259, x260, x261, x262, x263, x264, x265, x266, x267, x268, x269, x270, x271, x272, x273, x274, x275, x276, x277, x278, x279, x280, x281, x282, x283, x284, x285, x286, x287, x288, x289, x290, x291, x292, x293, x294, x295, x296, x297, x298, x299, x300, x301, x302, x303, x304, x305, x306, x307, x308, x309, x310, x311, x312, x313], []⟩ W') :
    Code.wp Tryz.prog (codeOf Tryz.f4.body 15) Q0 ⟨#[.slice sd s.length cs, .slice ld ls.length cl, .slice qd nq cq, c3, c4, c5, c6, .pointer (some ⟨w.heap.size, 0, none⟩), c8, u9, .pointer (some ⟨n0, 0, none⟩), c11, u12, .slice mad m mcap, .int .i64 (k : Int), .pointer (some ⟨bv, 0, none⟩), u16, u17, u18, u19, u20, u21, u22, u23, u24, u25, u26, u27, u28, u29, u30, u31, u32, u33, u34, c35, c36, c37, c38, c39, c40, c41, c42, c43, c44, c45, c46, c47, c48, c49, c50, c51, c52, c53, c54, c55, c56, c57, c58, c59, u60, u61, u62, u63, u64, u65, u66, u67, u68, u69, u70, u71, u72, u73, u74, u75, u76, u77, u78, u79, u80, u81, u82, u83, u84, u85, u86, u87, u88, u89, u90, u91, u92, u93, u94, u95, u96, u97, u98, u99, u100, u101, u102, u103, u104, u105, u106, u107, u108, u109, u110, u111, u112, u113, u114, u115, u116, u117, u118, u119, u120, u121, u122, u123, u124, u125, u126, u127, u128, u129, u130, u131, u132, u133, u134, u135, u136, u137, u138, u139, u140, u141, u142, u143, u144, u145, u146, u147, u148, u149, u150, u151, u152, u153, u154, u155, u156, u157, u158, u159, u160, u161, u162, u163, u164, u165, u166, u167, u168, u169, u170, u171, u172, u173, u174, u175, u176, u177, u178, u179, u180, u181, u182, u183, u184, u185, u186, u187, u188, u189, u190, u191, u192, u193, u194, u195, u196, u197, u198, u199, u200, u201, u202, u203, u204, u205, u206, u207, u208, u209, u210, u211, u212, u213, u214, u215, u216, u217, u218, u219, u220, u221, u222, u223, u224, u225, u226, u227, u228, u229, u230, u231, u232, u233, u234, u235, u236, u237, u238, u239, u240, u241, u242, u243, u244, u245, u246, u247, u248, u249, u250, u251, u252, u253, u254, u255, u256, u257, u258, u259, u260, u261, u262, u263, u264, u265, u266, u267, u268, u269, u270, u271, u272, u273, u274, u275, u276, u277, u278, u279, u280, u281, u282, u283, u284, u285, u286, u287, u288, u289, u290, u291, u292, u293, u294, u295, u296, u297, u298, u299, u300, u301, u302, u303, u304, u305, u306, u307, u308, u309, u310, u311, u312, u313], []⟩ W := by
  have HQ : Hid _ := hQ
  have hm30 : m ≤ 30 := by have := hst.2.1; omega
  have HGr := fun W (h : PSt w n0 s p gs v (.slice mad m mcap) W) => lgraph_any sd cs (w.heap.size + 1) (.slice mad m mcap) s gs m (gat gs m) W (hs.below h.1.2.2.2.1) h.1.2.1 h.sets h.2.2 (by omega) (gat_eq (by omega))
  have Hg : Hid (errVar w) := hg
  have Hs : Hid (SlT w sd s) := hs
  have Hp : Hid (fitPt p) := fp
  have Hl : Hid _ := hl
  have Hf : Hid (∀ l ∈ ls, FitL l) := fl
  have Hnl : Hid (ls.length ≤ 9223372036854775807) := nl
  have Hmm : Hid (gs.length = m + 1) := hm
  have Hst : Hid (PSt w n0 s p gs v (.slice mad m mcap) W) := hst
  have HNum : Hid (Num3 W bv x0 x1 x2) := hNum
  have hbp : Hid (bv ≠ n0 ∧ v.ownBlock ≠ some bv ∧ Value.ownBlock (.slice mad m mcap) ≠ some bv) := ⟨hbv, hbo, hbm⟩
  clear hQ hg hs fp hl fl nl hm hst hNum hbv hbo hbm
  conv => arg 2; whnf
  go_wp2_with fail
  refine (HGr _ Hst.out).mono ?_
  rintro e w5 ⟨hb5, a5, c5, rfl, hs5⟩
  have Hst5 : Hid (PSt w n0 s p gs v (.slice mad m mcap) w5) := Hst.out.below hb5
  have HNum5 : Hid (Num3 w5 bv x0 x1 x2) := HNum.out.below hb5
  have Hs5 : Hid (SlT w5 a5 (gat gs m)) := hs5
  clear hs5 hb5 HGr Hst HNum
  obtain ⟨y0, y1, y2, _, _, _⟩ := id HNum5.out
  (try dsimp only)
  go_upto_block 4 with fail
  refine playsSwitch _ _ _ _ _ _ _ _ _ _ _ _ _ _ _ _ _ _ _ _ _ _ _ _ _ _ _ _ _ _ _ _ _ _ _ _ _ _ _ _ _ _ _ _ _ _ _ _ _ _ _ _ _ _ _ _ _ _ _ _ _ _ _ _ _ _ _ _ _ _ _ _ _ _ _ _ _ _ _ _ _ _ _ _ _ _ _ _ _ _ _ _ _ _ _ _ _ _ _ _ _ _ _ _ _ _ _ _ _ _ _ _ _ _ _ _ _ _ _ _ _ _ _ _ _ _ _ _ _ _ _ _ _ _ _ _ _ _ _ _ _ _ _ _ _ _ _ _ _ _ _ _ _ _ _ _ _ _ _ _ _ _ _ _ _ _ _ _ _ _ _ _ _ _ _ _ _ _ _ _ _ _ _ _ _ _ _ _ _ _ _ _ _ _ _ _ _ _ _ _ _ _ _ _ _ _ _ _ _ _ _ _ _ _ _ _ _ _ _ _ _ _ _ _ _ _ _ _ _ _ _ _ _ _ _ _ _ _ _ _ _ _ _ _ _ _ _ _ _ _ _ _ _ _ _ _ _ _ _ _ _ _ _ _ _ _ _ _ _ _ _ _ _ _ _ _ _ _ _ _ _ _ _ _ _ _ _ _ _ _ _ _ _ _ _ _ _ _ _ _ _ _ _ _ _ sd ld qd cs cl cq k n0 nq bv s ls p gs v x0 x1 x2 w w5 mad a5 m mcap c5 Hg.out Hl.out Hf.out Hnl.out Hmm.out Hst5.out HNum5.out Hs5.out hbp.out.1 hbp.out.2.1 hbp.out.2.2 ?_
  intros
  rename_i vm gs' v' W' hst' hN'
  obtain ⟨mad', mcap', hvm⟩ := hst'.1.2.1.form
  have hpos : 0 < gs'.length := hst'.1.1.pos
  obtain ⟨m', hm'⟩ : ∃ m', gs'.length = m' + 1 := ⟨gs'.length - 1, by omega⟩
  rw [show gs'.length - 1 = m' by omega] at hvm
  subst hvm
  refine go_on (by assumption) ?_
  refine playsTail _ _ _ _ _ _ _ _ _ _ _ _ _ _ _ _ _ _ _ _ _ _ _ _ _ _ _ _ _ _ _ _ _ _ _ _ _ _ _ _ _ _ _ _ _ _ _ _ _ _ _ _ _ _ _ _ _ _ _ _ _ _ _ _ _ _ _ _ _ _ _ _ _ _ _ _ _ _ _ _ _ _ _ _ _ _ _ _ _ _ _ _ _ _ _ _ _ _ _ _ _ _ _ _ _ _ _ _ _ _ _ _ _ _ _ _ _ _ _ _ _ _ _ _ _ _ _ _ _ _ _ _ _ _ _ _ _ _ _ _ _ _ _ _ _ _ _ _ _ _ _ _ _ _ _ _ _ _ _ _ _ _ _ _ _ _ _ _ _ _ _ _ _ _ _ _ _ _ _ _ _ _ _ _ _ _ _ _ _ _ _ _ _ _ _ _ _ _ _ _ _ _ _ _ _ _ _ _ _ _ _ _ _ _ _ _ _ _ _ _ _ _ _ _ _ _ _ _ _ _ _ _ _ _ _ _ _ _ _ _ _ _ _ _ _ _ _ _ _ _ _ _ _ _ _ _ _ _ _ _ _ _ _ _ _ _ _ _ _ _ _ _ _ _ _ _ _ _ _ _ _ _ _ _ _ _ _ _ _ _ _ _ _ _ _ _ _ _ _ _ _ _ _ _ _ _ sd ld qd cs cl cq k n0 nq bv s ls p gs' v' x0 x1 x2 w W' mad' m' mcap' Hg.out Hs.out Hp.out hm' hst' hN' ?_
  intros
  apply HQ.out <;> assumption
end Go.Proofs.YtgdjeohcimkljadGreatDoor

/- stratalaw1.ChainPlays: the walk. -/
namespace Go.Proofs.YtgdjeohcimkljadGreatDoor
open Go Go.RowKit Go.Proofs
set_option synthInstance.maxSize 1000

attribute [local go_sem] eql_errV neq_errV guard_errV

set_option maxHeartbeats 32000000 in
set_option maxRecDepth 1000000 in
theorem chainPlays_any (sd ld qd : Option Addr) (cs cl cq : Nat) (s : List Tr) (ls : List Ly) (Q : List (List Int)) (p : Pt) (w : World) (hg : errVar w) (hs : SlT w sd s) (hl : ls ≠ [] → ∃ b o, ld = some ⟨b, o, none⟩ ∧ LsAt w b o ls) (hq : Q ≠ [] → ∃ b o, qd = some ⟨b, o, none⟩ ∧ AskAt w b o Q)
    (fs : ∀ x ∈ s, fitTr x) (ns : s.length ≤ 9223372036854775807) (fl : ∀ l ∈ ls, FitL l) (nq : ∀ q ∈ Q, q.length ≤ 9223372036854775807) (nl : ls.length ≤ 9223372036854775807) (nQ : Q.length ≤ 9223372036854775807) (fp : fitPt p) :
    Calls Tryz.prog 4 #[.slice sd s.length cs, .slice ld ls.length cl, .slice qd Q.length cq, valPt p] w fun e w' => e = .returned (.bool true) ∧ RowKit.Below w.heap.size w w' := by
  have Hargs : Hid (errVar w ∧ SlT w sd s) := ⟨hg, hs⟩
  have Hl : Hid _ := hl
  have Hq : Hid _ := hq
  have Hf : Hid _ := fl
  have Hnq : Hid _ := nq
  have Hp : Hid (fitPt p) := fp
  have HR := fun W h => RSet_any sd cs s W h fs ns
  have HW := fun W h => CNew_any sd cs s W h fs ns
  have HE := SameErrorT
  have hz : Hid (sortedN s = 0 → IsSet s) := fun h => sortedN_set.1 h
  clear hg hs hl hq fl nq fp
  unfold valPt
  go_enter Tryz.func4, Tryz.ntmps4
  go_wp2_with fail
  refine (HR _ (Hargs.out.2.below (balloc _ _))).mono ?_
  rintro e w1 ⟨rfl, hb1⟩
  have hP1 : Hid (PatAt w1 w.heap.size p) := (patBox w p 47).below hb1
  have hB1 : Hid (RowKit.Below w.heap.size w w1) := bstep (balloc _ _) hb1
  clear hb1 HR
  go_wp2_with fail
  refine (HW _ (Hargs.out.2.below hB1.out)).mono ?_
  rintro e w2 ⟨hb2, hy, hno⟩
  have hP2 : Hid (PatAt w2 w.heap.size p) := hP1.out.below hb2
  have hB2 : Hid (RowKit.Below w.heap.size w w2) := bstep hB1.out hb2
  have hw1 : w.heap.size < w1.heap.size := hP1.out.lt
  clear hP1 hB1 HW hb2
  by_cases hs0 : sortedN s = 0
  · obtain ⟨n0, rfl, hn0, hC⟩ := hy hs0
    have E0 := fun W h => HE 0 W h
    rw [show errV 0 = .nilIface from rfl] at E0
    rw [hs0]
    have hn0' : w.heap.size < n0 := Nat.lt_of_lt_of_le hw1 hn0
    have hst : Hid (PSt w n0 s p [s] (.slice none 0 0) (.slice none 0 0) w2) := ⟨⟨hC, ⟨[], Or.inl ⟨rfl, rfl⟩, LaysV.nil _⟩, fun g hg => by simp [Value.ownBlock] at hg, hB2.out, hP2.out, hn0'⟩, by simp, rfl⟩
    clear hy hno hC hs0 hz hn0
    go_wp2_with fail
    refine (E0 _ (Hargs.out.1.below hB2.out)).mono ?_
    rintro e w3 ⟨rfl, hb3⟩
    have hst3 : Hid (PSt w n0 s p [s] (.slice none 0 0) (.slice none 0 0) w3) := hst.out.below hb3
    clear hb3 hst hP2 hB2
    go_wp2_with fail
    generalize hQl : Q.length = nq at *
    have HQl : Hid (Q.length = nq) := hQl
    clear hQl
    go_loopw [13, 14] (fun vm i wr => ∃ (k : Nat) (gs : List (List Tr)) (v : Value), k ≤ nq ∧ k ≤ 50 ∧ i = .int .i64 k ∧ Hid (PSt w n0 s p gs v vm wr)) (fun _ i wr => 50 - (intOf i).toNat)
    case atStart => exact ⟨0, [s], _, Nat.zero_le _, by omega, rfl, hst3⟩
    case round =>
      obtain ⟨k, gs, v, hk1, hk2, rfl, hst⟩ := hrel
      obtain ⟨mad, mcap, hvm⟩ := hst.out.1.2.1.form
      subst hvm
      generalize hW0 : wr = W0 at *
      clear hW0
      by_cases hkq : k < nq
      · by_cases hk50 : k < 50
        · have i1 : (k : Int) < (nq : Int) := by omega
          have i2 : (k : Int) < 50 := by omega
          have i0 : (0 : Int) ≤ (k : Int) := by omega
          obtain ⟨bq, oq, rfl, hAq⟩ := Hq.out (fun e => by have := HQl.out; rw [e] at this; simp at this; omega)
          have hbw : Hid (RowKit.Below w.heap.size w W0) := hst.out.1.2.2.2.1
          obtain ⟨aq, cq', hcq, hin⟩ := hAq k (by rw [HQl.out]; exact hkq)
          have hcW : Hid (∀ W', RowKit.Below w.heap.size w W' → W'.cell? ⟨bq, oq + k, none⟩ = some (.slice aq (Q.getD k []).length cq')) := fun W' h => (h.cell (World.block_lt_of_cell? w _ hcq)).trans hcq
          have hiW : Hid (∀ j, j < (Q.getD k []).length → ∃ b' o', aq = some ⟨b', o', none⟩ ∧ ∀ W', RowKit.Below w.heap.size w W' → W'.cell? ⟨b', o' + j, none⟩ = some (.int .i64 (askJ (Q.getD k []) j))) := fun j hj => by
            obtain ⟨b', o', e, h⟩ := hin j hj
            exact ⟨b', o', e, fun W' hW => (hW.cell (World.block_lt_of_cell? w _ h)).trans h⟩
          have hzero : Hid (∀ j, ¬ j < (Q.getD k []).length → askJ (Q.getD k []) j = 0) := fun j hj => askJ_out hj
          have nq0 : (Q.getD k []).length ≤ 9223372036854775807 := Hnq.out _ (by rw [List.getD_eq_getElem?_getD, List.getElem?_eq_getElem (by rw [HQl.out]; exact hkq)]; exact List.getElem_mem _)
          clear hin hcq hAq
          generalize Q.getD k [] = q at *
          have ar0 : Hid (Num3 (W0.alloc (.cells #[.int .i64 0, .int .i64 0, .int .i64 0] 49)) W0.heap.size 0 0 0) := Num3.new _
          go_upto_block 2 with fail
          go_cut [16] (fun _ W' => Hid (Num3 W' W0.heap.size (askJ q 0) (askJ q 1) (askJ q 2)) ∧ Hid (RowKit.Below W0.heap.size W0 W'))
          case first =>
            go_wp2_with fail
            go_loopw [16] (fun i W' => ((i = .int .i64 0 ∧ Hid (Num3 W' W0.heap.size 0 0 0))
                ∨ (i = .int .i64 1 ∧ Hid (0 < q.length) ∧ Hid (Num3 W' W0.heap.size (askJ q 0) 0 0))
                ∨ (i = .int .i64 2 ∧ Hid (1 < q.length) ∧ Hid (Num3 W' W0.heap.size (askJ q 0) (askJ q 1) 0))
                ∨ (i = .int .i64 3 ∧ Hid (2 < q.length) ∧ Hid (Num3 W' W0.heap.size (askJ q 0) (askJ q 1) (askJ q 2))))
                ∧ Hid (RowKit.Below W0.heap.size W0 W')) (fun i W' => 3 - (intOf i).toNat)
            case atStart => exact ⟨.inl ⟨rfl, ar0⟩, balloc _ _⟩
            case round =>
              obtain ⟨hcs, hbl⟩ := hrel
              have hcq := hcW.out _ (bstep hbw.out hbl.out)
              rcases hcs with ⟨rfl, ha⟩ | ⟨rfl, hp, ha⟩ | ⟨rfl, hp, ha⟩ | ⟨rfl, hp, ha⟩
              · by_cases hlt : 0 < q.length
                · have j1 : (0 : Int) < (q.length : Int) := by omega
                  obtain ⟨b', o', rfl, hcell⟩ := hiW.out 0 hlt
                  have hc0 : wr.cell? ⟨b', o', none⟩ = some (.int .i64 (askJ q 0)) := hcell _ (bstep hbw.out hbl.out)
                  obtain ⟨a0, a1, a2, f0, f1, f2⟩ := id ha.out
                  have hzl := World.block_lt_of_cell? _ _ a0
                  go_wp2_with fail
                  go_roundw
                  case rel => exact ⟨.inr (.inl ⟨rfl, hlt, ha.out.set0 _⟩), hbl.out.setCell (p := ⟨W0.heap.size, 0, none⟩) (Nat.le_refl _) _⟩
                  case measure => simp [intOf]
                · have j1 : ¬ ((0 : Int) < (q.length : Int)) := by omega
                  have z0 := hzero.out 0 (by omega)
                  have z1 := hzero.out 1 (by omega)
                  have z2 := hzero.out 2 (by omega)
                  go_wp2_with fail
                  go_meet
                  case rel =>
                    refine ⟨?_, hbl⟩
                    show Num3 _ _ _ _ _
                    rw [z0, z1, z2]
                    exact ha.out
              · by_cases hlt : 1 < q.length
                · have j1 : (1 : Int) < (q.length : Int) := by omega
                  obtain ⟨b', o', rfl, hcell⟩ := hiW.out 1 hlt
                  have hc0 : wr.cell? ⟨b', o' + 1, none⟩ = some (.int .i64 (askJ q 1)) := hcell _ (bstep hbw.out hbl.out)
                  obtain ⟨a0, a1, a2, f0, f1, f2⟩ := id ha.out
                  have hzl := World.block_lt_of_cell? _ _ a0
                  go_wp2_with fail
                  go_roundw
                  case rel => exact ⟨.inr (.inr (.inl ⟨rfl, hlt, ha.out.set1 _⟩)), hbl.out.setCell (p := ⟨W0.heap.size, 1, none⟩) (Nat.le_refl _) _⟩
                  case measure => simp [intOf]
                · have j1 : ¬ ((1 : Int) < (q.length : Int)) := by omega
                  have z1 := hzero.out 1 (by omega)
                  have z2 := hzero.out 2 (by omega)
                  go_wp2_with fail
                  go_meet
                  case rel =>
                    refine ⟨?_, hbl⟩
                    show Num3 _ _ _ _ _
                    rw [z1, z2]
                    exact ha.out
              · by_cases hlt : 2 < q.length
                · have j1 : (2 : Int) < (q.length : Int) := by omega
                  obtain ⟨b', o', rfl, hcell⟩ := hiW.out 2 hlt
                  have hc0 : wr.cell? ⟨b', o' + 2, none⟩ = some (.int .i64 (askJ q 2)) := hcell _ (bstep hbw.out hbl.out)
                  obtain ⟨a0, a1, a2, f0, f1, f2⟩ := id ha.out
                  have hzl := World.block_lt_of_cell? _ _ a0
                  go_wp2_with fail
                  go_roundw
                  case rel => exact ⟨.inr (.inr (.inr ⟨rfl, hlt, ha.out.set2 _⟩)), hbl.out.setCell (p := ⟨W0.heap.size, 2, none⟩) (Nat.le_refl _) _⟩
                  case measure => simp [intOf]
                · have j1 : ¬ ((2 : Int) < (q.length : Int)) := by omega
                  have z2 := hzero.out 2 (by omega)
                  go_wp2_with fail
                  go_meet
                  case rel =>
                    refine ⟨?_, hbl⟩
                    show Num3 _ _ _ _ _
                    rw [z2]
                    exact ha.out
              · have j1 : (3 : Int) < (q.length : Int) ∨ ¬ ((3 : Int) < (q.length : Int)) := by omega
                by_cases j2 : (3 : Int) < (q.length : Int)
                · go_wp2_with fail
                  go_meet
                  case rel => exact ⟨ha, hbl⟩
                · go_wp2_with fail
                  go_meet
                  case rel => exact ⟨ha, hbl⟩
          case rest =>
            obtain ⟨hNum, hbl⟩ := hcut
            have hst2 : Hid (PSt w n0 s p gs v (.slice mad (gs.length - 1) mcap) wc) := hst.out.below hbl.out
            have hpos : 0 < gs.length := hst2.out.1.1.pos
            have hbv : n0 < W0.heap.size := hst.out.1.1.lt
            have hbo : v.ownBlock ≠ some W0.heap.size := fun e => by have := (hst.out.1.1.own _ e).2; omega
            have hbm : Value.ownBlock (.slice mad (gs.length - 1) mcap) ≠ some W0.heap.size := fun e => by
              obtain ⟨xm, hS, _⟩ := hst.out.1.2.1
              have := (hS.lt _ e).2
              omega
            obtain ⟨m, hm⟩ : ∃ m, gs.length = m + 1 := ⟨gs.length - 1, by omega⟩
            have hm1 : gs.length - 1 = m := by omega
            rw [hm1] at hst2 hbm
            rw [hm1]
            have HQm : Hid (k < nq ∧ k < 50) := ⟨hkq, hk50⟩
            clear hcW hiW hzero nq0 ar0 hst hbw
            refine go_on (by assumption) ?_
            refine playsStep _ _ _ _ _ _ _ _ _ _ _ _ _ _ _ _ _ _ _ _ _ _ _ _ _ _ _ _ _ _ _ _ _ _ _ _ _ _ _ _ _ _ _ _ _ _ _ _ _ _ _ _ _ _ _ _ _ _ _ _ _ _ _ _ _ _ _ _ _ _ _ _ _ _ _ _ _ _ _ _ _ _ _ _ _ _ _ _ _ _ _ _ _ _ _ _ _ _ _ _ _ _ _ _ _ _ _ _ _ _ _ _ _ _ _ _ _ _ _ _ _ _ _ _ _ _ _ _ _ _ _ _ _ _ _ _ _ _ _ _ _ _ _ _ _ _ _ _ _ _ _ _ _ _ _ _ _ _ _ _ _ _ _ _ _ _ _ _ _ _ _ _ _ _ _ _ _ _ _ _ _ _ _ _ _ _ _ _ _ _ _ _ _ _ _ _ _ _ _ _ _ _ _ _ _ _ _ _ _ _ _ _ _ _ _ _ _ _ _ _ _ _ _ _ _ _ _ _ _ _ _ _ _ _ _ _ _ _ _ _ _ _ _ _ _ _ _ _ _ _ _ _ _ _ _ _ _ _ _ _ _ _ _ _ _ _ _ _ _ _ _ _ _ _ _ _ _ _ _ _ _ _ _ _ _ _ _ _ _ _ _ _ _ _ _ _ _ _ _ _ _ _ _ _ _ _ _ sd ld _ cs cl cq k n0 nq W0.heap.size s ls p gs v _ _ _ w wc mad m mcap Hargs.out.1 Hargs.out.2 Hp.out Hl.out Hf.out nl hm hst2.out hNum.out (Nat.ne_of_gt hbv) hbo hbm ?_
            intros
            rename_i vm' gs' v' W' hst'
            have Hst' : Hid (PSt w n0 s p gs' v' vm' W') := hst'
            clear hst' hst2 hNum hbl hbo hbm hm hm1
            go_wp2_with fail
            go_roundw
            case rel => exact ⟨k + 1, gs', v', by have := HQm.out; omega, by have := HQm.out; omega, by go_num, Hst'⟩
            case measure => simp [intOf]; omega
        · obtain rfl : k = 50 := by omega
          have i1 : ((50 : Nat) : Int) < (nq : Int) := by omega
          have hbw : Hid (RowKit.Below w.heap.size w W0) := hst.out.1.2.2.2.1
          clear hst
          go_wp2_with fail
          exact bodyPost_ret (v := .bool true) (by simp [results, Tryz.results4, go_sem]) rfl ⟨rfl, hbw.out⟩
      · obtain rfl : k = nq := by omega
        have hbw : Hid (RowKit.Below w.heap.size w W0) := hst.out.1.2.2.2.1
        clear hst
        go_wp2_with fail
        exact bodyPost_ret (v := .bool true) (by simp [results, Tryz.results4, go_sem]) rfl ⟨rfl, hbw.out⟩
  · have e := hno hs0
    subst e
    have HEx := HE (sortedN s)
    generalize sortedN s = m at *
    have hm : (m == 0) = false := by simpa using hs0
    have hm' : (m != 0) = true := by simpa using hs0
    clear hy hno
    go_wp2_with fail
    refine (HEx _ (Hargs.out.1.below hB2.out)).mono ?_
    rintro e w3 ⟨rfl, hb3⟩
    go_wp2_with fail
    exact bodyPost_ret (v := .bool true) (by simp [results, Tryz.results4, go_sem]) rfl ⟨rfl, bstep hB2.out hb3⟩
end Go.Proofs.YtgdjeohcimkljadGreatDoor
