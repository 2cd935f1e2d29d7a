import Derived.Test.YtnlcfnpcjkcdmadGreatDoorMCChainPlaysx4
import Derived.Deep.DeepCutAuto
import Derived.Deep.CutBlock

/- ChainPlays' round: a layer is laid, its second part. -/
namespace Go.Proofs.YtnlcfnpcjkcdmadGreatDoor
open Go Go.RowKit Go.Proofs
set_option synthInstance.maxSize 1000

attribute [local go_sem] eql_errV neq_errV guard_errV

set_option maxHeartbeats 32000000 in
set_option maxRecDepth 1000000 in
theorem playsPush2 (Q0 : Exit → Act → World → Prop) (u9 u12 u16 u19 u20 u21 u22 u23 u24 u25 u26 u27 u28 u29 u30 u31 u32 u33 u34 u60 u61 u62 u63 u64 u65 u66 u67 u68 u69 u70 u71 u72 u73 u74 u75 u76 u77 u78 u79 u80 u81 u82 u83 u84 u85 u86 u87 u88 u89 u90 u91 u92 u93 u94 u95 u96 u97 u98 u99 u100 u101 u102 u103 u104 u105 u106 u107 u108 u109 u110 u111 u112 u113 u114 u115 u116 u117 u118 u119 u120 u121 u122 u123 u124 u125 u126 u127 u128 u129 u130 u131 u132 u133 u134 u135 u136 u137 u138 u139 u140 u141 u142 u143 u144 u145 u146 u147 u148 u149 u150 u151 u152 u153 u154 u155 u156 u157 u158 u159 u160 u161 u162 u163 u164 u165 u166 u167 u168 u169 u170 u171 u172 u173 u174 u175 u176 u177 u178 u179 u180 u181 u182 u183 u184 u185 u186 u187 u188 u189 u190 u191 u192 u193 u194 u195 u196 u197 u198 u199 u200 u201 u202 u203 u204 u205 u206 u207 u208 u209 u210 u211 u212 u213 u214 u215 u216 u217 u218 u219 u220 u221 u222 u223 u224 u225 u226 u227 u228 u229 u230 u231 u232 u233 u234 u235 u236 u237 u238 u239 u240 u241 u242 u243 u244 u245 u246 u247 u248 u249 u250 u251 u252 u253 u254 u255 u256 u257 u258 u259 u260 u261 u262 u263 u264 u265 u266 u267 u268 u269 u270 u271 u272 u273 u274 u275 u276 u277 u278 u279 u280 u281 u282 u283 u284 u285 u286 u287 u288 u289 u290 u291 u292 u293 u294 u295 u296 u297 u298 u299 u300 u301 u302 u303 u304 u305 u306 u307 u308 u309 u310 u311 u312 u313 : Value) (c3 c4 c5 c6 c8 c11 c35 c36 c37 c38 c39 c40 c41 c42 c43 c44 c45 c46 c47 c48 c49 c50 c51 c52 c53 c54 c55 c56 c57 c58 c59 : Value) (sd ld qd : Option Addr) (cs cl cq k n0 nq bv : Nat) (s : List Tr) (ls : List Ly) (p : Pt) (gs : List (List Tr)) (v : Value) (x0 x1 x2 : Int) (w W : World) (mad td a1 a2 : Option Addr) (m mcap ct c1 c2 bx : Nat) (l : Ly)
    (hg : errVar w) (fL : FitL l) (hm : gs.length = m + 1) (hst : PSt w n0 s p gs v (.slice mad m mcap) W) (hNum : Num3 W bv x0 x1 x2) (ht : SlT W td (gat gs m)) (hX : XAt W bx a1 a2 c1 c2 l) (hbv : bv ≠ n0) (hbo : v.ownBlock ≠ some bv) (hbm : Value.ownBlock (.slice mad m mcap) ≠ some bv) (hxn : bx ≠ n0) (hxo : v.ownBlock ≠ some bx)
    (hQ : ∀ (x9 x16 x17 x18 x19 x20 x21 x22 x23 x24 x25 x26 x27 x28 x29 x30 x31 x32 x33 x34 x60 x61 x62 x63 x64 x65 x66 x67 x68 x69 x70 x71 x72 x73 x74 x75 x76 x77 x78 x79 x80 x81 x82 x83 x84 x85 x86 x87 x88 x89 x90 x91 x92 x93 x94 x95 x96 x97 x98 x99 x100 x101 x102 x103 x104 x105 x106 x107 x108 x109 x110 x111 x112 x113 x114 x115 x116 x117 x118 x119 x120 x121 x122 x123 x124 x125 x126 x127 x128 x129 x130 x131 x132 x133 x134 x135 x136 x137 x138 x139 x140 x141 x142 x143 x144 x145 x146 x147 x148 x149 x150 x151 x152 x153 x154 x155 x156 x157 x158 x159 x160 x161 x162 x163 x164 x165 x166 x167 x168 x169 x170 x171 x172 x173 x174 x175 x176 x177 x178 x179 x180 x181 x182 x183 x184 x185 x186 x187 x188 x189 x190 x191 x192 x193 x194 x195 x196 x197 x198 x199 x200 x201 x202 x203 x204 x205 x206 x207 x208 x209 x210 x211 x212 x213 x214 x215 x216 x217 x218 x219 x220 x221 x222 x223 x224 x225 x226 x227 x228 x229 x230 x231 x232 x233 x234 x235 x236 x237 x238 x239 x240 x241 x242 x243 x244 x245 x246 x247 x248 x249 x250 x251 x252 x253 x254 x255 x256 x257 x258 x259 x260 x261 x262 x263 x264 x265 x266 x267 x268 x269 x270 x271 x272 x273 x274 x275 x276 x277 x278 x279 x280 x281 x282 x283 x284 x285 x286 x287 x288 x289 x290 x291 x292 x293 x294 x295 x296 x297 x298 x299 x300 x301 x302 x303 x304 x305 x306 x307 x308 x309 x310 x311 x312 x313 : Value) (vm : Value) (gs' : List (List Tr)) (v' : Value) (W' : World), PSt w n0 s p gs' v' vm W' → Num3 W' bv x0 x1 x2 → Q0 .normal ⟨#[.slice sd s.length cs, .slice ld ls.length cl, .slice qd nq cq, c3, c4, c5, c6, .pointer (some ⟨w.heap.size, 0, none⟩), c8, x9, .pointer (some ⟨n0, 0, none⟩), c11, .bool true, vm, .int .i64 (k : Int), .pointer (some ⟨bv, 0, none⟩), x16, x17, x18, x19, x20, x21, x22, x23, x24, x25, x26, x27, x28, x29, x30, x31, x32, x33, x34, c35, c36, c37, c38, c39, c40, c41, c42, c43, c44, c45, c46, c47, c48, c49, c50, c51, c52, c53, c54, c55, c56, c57, c58, c59, x60, x61, x62, x63, x64, x65, x66, x67, x68, x69, x70, x71, x72, x73, x74, x75, x76, x77, x78, x79, x80, x81, x82, x83, x84, x85, x86, x87, x88, x89, x90, x91, x92, x93, x94, x95, x96, x97, x98, x99, x100, x101, x102, x103, x104, x105, x106, x107, x108, x109, x110, x111, x112, x113, x114, x115, x116, x117, x118, x119, x120, x121, x122, x123, x124, x125, x126, x127, x128, x129, x130, x131, x132, x133, x134, x135, x136, x137, x138, x139, x140, x141, x142, x143, x144, x145, x146, x147, x148, x149, x150, x151, x152, x153, x154, x155, x156, x157, x158, x159, x160, x161, x162, x163, x164, x165, x166, x167, x168, x169, x170, x171, x172, x173, x174, x175, x176, x177, x178, x179, x180, x181, x182, x183, x184, x185, x186, x187, x188, x189, x190, x191, x192, x193, x194, x195, x196, x197, x198, x199, x200, x201, x202, x203, x204, x205, x206, x207, x208, x209, x210, x211, x212, x213, x214, x215, x216, x217, x218, x219, x220, x221, x222, x223, x224, x225, x226, x227, x228, x229, x230, x231, x232, x233, x234, x235, x236, x237, x238, x239, x240, x241, x242, x243, x244, x245, x246, x247, x248, x249, x250, x251, x252, x253, x254, x255, x256, x257, x258, x259, x260, x261, x262, x263, x264, x265, x266, x267, x268, x269, x270, x271, x272, x273, x274, x275, x276, x277, x278, x279, x280, x281, x282, x283, x284, x285, x286, x287, x288, x289, x290, x291, x292, x293, x294, x295, x296, x297, x298, x299, x300, x301, x302, x303, x304, x305, x306, x307, x308, x309, x310, x311, x312, x313], []⟩ W') :
    Code.wp Tryz.prog (codeOf Tryz.f4.body 38) Q0 ⟨#[.slice sd s.length cs, .slice ld ls.length cl, .slice qd nq cq, c3, c4, c5, c6, .pointer (some ⟨w.heap.size, 0, none⟩), c8, u9, .pointer (some ⟨n0, 0, none⟩), c11, u12, .slice mad m mcap, .int .i64 (k : Int), .pointer (some ⟨bv, 0, none⟩), u16, .slice td (gat gs m).length ct, .pointer (some ⟨bx, 0, none⟩), u19, u20, u21, u22, u23, u24, u25, u26, u27, u28, u29, u30, u31, u32, u33, u34, c35, c36, c37, c38, c39, c40, c41, c42, c43, c44, c45, c46, c47, c48, c49, c50, c51, c52, c53, c54, c55, c56, c57, c58, c59, u60, u61, u62, u63, u64, u65, u66, u67, u68, u69, u70, u71, u72, u73, u74, u75, u76, u77, u78, u79, u80, u81, u82, u83, u84, u85, u86, u87, u88, u89, u90, u91, u92, u93, u94, u95, u96, u97, u98, u99, u100, u101, u102, u103, u104, u105, u106, u107, u108, u109, u110, u111, u112, u113, u114, u115, u116, u117, u118, u119, u120, u121, u122, u123, u124, u125, u126, u127, u128, u129, u130, u131, u132, u133, u134, u135, u136, u137, u138, u139, u140, u141, u142, u143, u144, u145, u146, u147, u148, u149, u150, u151, u152, u153, u154, u155, u156, u157, u158, u159, u160, u161, u162, u163, u164, u165, u166, u167, u168, u169, u170, u171, u172, u173, u174, u175, u176, u177, u178, u179, u180, u181, u182, u183, u184, u185, u186, u187, u188, u189, u190, u191, u192, u193, u194, u195, u196, u197, u198, u199, u200, u201, u202, u203, u204, u205, u206, u207, u208, u209, u210, u211, u212, u213, u214, u215, u216, u217, u218, u219, u220, u221, u222, u223, u224, u225, u226, u227, u228, u229, u230, u231, u232, u233, u234, u235, u236, u237, u238, u239, u240, u241, u242, u243, u244, u245, u246, u247, u248, u249, u250, u251, u252, u253, u254, u255, u256, u257, u258, u259, u260, u261, u262, u263, u264, u265, u266, u267, u268, u269, u270, u271, u272, u273, u274, u275, u276, u277, u278, u279, u280, u281, u282, u283, u284, u285, u286, u287, u288, u289, u290, u291, u292, u293, u294, u295, u296, u297, u298, u299, u300, u301, u302, u303, u304, u305, u306, u307, u308, u309, u310, u311, u312, u313], []⟩ W := by
  have HQ : Hid _ := hQ
  have Hg : Hid (errVar w) := hg
  have Hst : Hid (PSt w n0 s p gs v (.slice mad m mcap) W) := hst
  have HNum : Hid (Num3 W bv x0 x1 x2) := hNum
  have Ht : Hid (SlT W td (gat gs m)) := ht
  have HX : Hid (XAt W bx a1 a2 c1 c2 l) := hX
  have hm30 : m ≤ 30 := by have := hst.2.1; omega
  have hlast : Hid (gs.getLast? = some (gat gs m)) := by have := hst.last; rw [hm, Nat.add_sub_cancel] at this; exact this
  have sg : IsSet (gat gs m) := hst.1.1.set (gat_eq (by omega))
  have Hmm : Hid (gs.length = m + 1) := hm
  have HP := fun W (h : PSt w n0 s p gs v (.slice mad m mcap) W) h1 h2 => Push_any n0 v gs (gat gs m) a1 a2 c1 c2 l W h.1.1 (by omega) hlast.out h1 h2 fL.1.1 fL.2.1 fL.1.2 fL.2.2
  have HLy := fun W h1 h2 => RLayer_any a1 a2 c1 c2 l.1 l.2 W h1 h2 fL.1.1 fL.2.1 fL.1.2 fL.2.2
  have HAp := fun (h0 : apartN l.1 l.2 = 0) W h1 h2 h3 => RApply_any td a1 a2 ct c1 c2 (gat gs m) l.1 l.2 W h1 h2 h3 sg (bothN_zero.1 (orN_zero.1 h0).1).1 (bothN_zero.1 (orN_zero.1 h0).1).2 h0
  have Hpn : Hid (pushN gs (gat gs m) l = orN (orN (if 30 ≤ m then 4 else 0) (apartN l.1 l.2)) (applyN (gat gs m) l.1 l.2)) := by show _ = _; rw [pushN_of sg, Hmm.out]; simp
  have HE := fun n W (h : PSt w n0 s p gs v (.slice mad m mcap) W) => SameErrorT n W (hg.below h.1.2.2.2.1)
  have hbp : Hid (bv ≠ n0 ∧ v.ownBlock ≠ some bv ∧ Value.ownBlock (.slice mad m mcap) ≠ some bv ∧ bx ≠ n0 ∧ v.ownBlock ≠ some bx) := ⟨hbv, hbo, hbm, hxn, hxo⟩
  clear hQ hg fL hst hNum ht hX hm sg hbv hbo hbm hxn hxo
  generalize gat gs m = g at *
  conv => arg 2; whnf
  go_upto_if 183 with fail
  go_cut [9] from 181 to 183 (fun e W' => e = .int .i64 (if 30 ≤ m then 4 else 0) ∧ W' = W)
  case first =>
    clear HQ HP HLy HAp HE
    by_cases h30 : 30 ≤ m
    · have t1 : decide ((30 : Int) ≤ (m : Int)) = true := by simp; omega
      have t2 : decide (30 ≤ m) = true := by simpa using h30
      have Hi : Hid ((if 30 ≤ m then 4 else 0 : Int) = 4) := if_pos h30
      go_wp2_with fail
      go_meet
      case rel => exact ⟨by rw [Hi.out], rfl⟩
    · have t1 : decide ((30 : Int) ≤ (m : Int)) = false := by simp; omega
      have t2 : decide (30 ≤ m) = false := by simpa using h30
      have Hi : Hid ((if 30 ≤ m then 4 else 0 : Int) = 0) := if_neg h30
      go_wp2_with fail
      go_meet
      case rel => exact ⟨by rw [Hi.out], rfl⟩
  case rest =>
    obtain ⟨rfl, hwc⟩ := hcut
    subst hwc
    generalize (if 30 ≤ m then 4 else 0 : Int) = E1 at *
    (try dsimp only)
    go_upto_if 185 with fail
    go_cut [9] from 184 to 187 (fun e W' => e = .int .i64 (orN E1 (apartN l.1 l.2)) ∧ Hid (RowKit.Below wc.heap.size wc W'))
    case first =>
      clear HQ HP HAp HE
      obtain ⟨⟨x0', x1'⟩, s1, s2⟩ := id HX.out
      have HLx := HLy wc s1 s2
      clear HLy s1 s2
      cases h1 : (E1 == 0)
      · have Hi : Hid (orN E1 (apartN l.1 l.2) = E1) := orN_neg (by simpa using h1)
        go_wp2_with fail
        go_meet
        case rel => exact ⟨by rw [Hi.out], RowKit.Below.refl _ _⟩
      · have Hi : Hid (orN E1 (apartN l.1 l.2) = apartN l.1 l.2) := orN_pos (by simpa using h1)
        go_wp2_with fail
        refine HLx.mono ?_
        rintro e w2 ⟨rfl, hb2⟩
        (try dsimp only)
        go_wp2_with fail
        go_meet
        case rel => exact ⟨by rw [Hi.out], hb2⟩
    case rest =>
      obtain ⟨rfl, hb1⟩ := hcut
      generalize hwc1 : wc = w1 at *
      clear hwc1
      have Hst1 : Hid (PSt w n0 s p gs v (.slice mad m mcap) w1) := Hst.out.below hb1.out
      have HX1 : Hid (XAt w1 bx a1 a2 c1 c2 l) := HX.out.below hb1.out
      have Ht1 : Hid (SlT w1 td g) := Ht.out.below hb1.out
      have HNum1 : Hid (Num3 w1 bv x0 x1 x2) := HNum.out.below hb1.out
      clear hb1 Hst HX Ht HNum HLy
      (try dsimp only)
      go_upto_if 189 with fail
      go_cut [9] from 188 to 195 (fun e W' => e = .int .i64 (pushN gs g l) ∧ Hid (RowKit.Below w1.heap.size w1 W'))
      case first =>
        clear HQ HP HE
        obtain ⟨⟨x0', x1'⟩, s1, s2⟩ := id HX1.out
        have Hs : Hid (SlT w1 a1 l.1 ∧ SlT w1 a2 l.2) := ⟨s1, s2⟩
        clear s1 s2
        cases h1 : (orN E1 (apartN l.1 l.2) == 0)
        · have Hi : Hid (pushN gs g l = orN E1 (apartN l.1 l.2)) := by show _ = _; rw [Hpn.out, orN_neg (by simpa using h1)]
          generalize orN E1 (apartN l.1 l.2) = E2 at *
          clear HAp
          go_wp2_with fail
          go_meet
          case rel => exact ⟨by rw [Hi.out], RowKit.Below.refl _ _⟩
        · have h10 : orN E1 (apartN l.1 l.2) = 0 := by simpa using h1
          have HAx := HAp (orN_zero.1 h10).2 w1 Ht1.out Hs.out.1 Hs.out.2
          have Hi : Hid (pushN gs g l = applyN g l.1 l.2) := by show _ = _; rw [Hpn.out, orN_pos h10]
          generalize orN E1 (apartN l.1 l.2) = E2 at *
          clear HAp h10
          go_wp2_with fail
          refine HAx.mono ?_
          rintro e w2 ⟨hb2, m2, a9, c9, rfl, hs9, _⟩
          (try dsimp only)
          go_wp2_with fail
          go_meet
          case rel => exact ⟨by rw [Hi.out], hb2⟩
      case rest =>
        obtain ⟨rfl, hb2⟩ := hcut
        generalize hwc2 : wc = w2 at *
        clear hwc2
        have Hst2 : Hid (PSt w n0 s p gs v (.slice mad m mcap) w2) := Hst1.out.below hb2.out
        have HX2 : Hid (XAt w2 bx a1 a2 c1 c2 l) := HX1.out.below hb2.out
        have HNum2 : Hid (Num3 w2 bv x0 x1 x2) := HNum1.out.below hb2.out
        clear hb2 Hst1 HX1 Ht1 HNum1 HAp Hpn
        obtain ⟨⟨y0, y1⟩, s1, s2⟩ := id HX2.out
        have Hs : Hid (SlT w2 a1 l.1 ∧ SlT w2 a2 l.2) := ⟨s1, s2⟩
        clear s1 s2
        have HPx := HP w2 Hst2.out Hs.out.1 Hs.out.2
        clear HP
        (try dsimp only)
        go_wp2_with fail
        refine HPx.mono ?_
        rintro e w3 ⟨rfl, gs', v', hC', hO', hN', hyes, hno⟩
        have HX3 : Hid (XAt w3 bx a1 a2 c1 c2 l) := HX2.out.off hO' hbp.out.2.2.2.1 hbp.out.2.2.2.2
        have HNum3' : Hid (Num3 w3 bv x0 x1 x2) := HNum2.out.off hO' hbp.out.1 hbp.out.2.1
        have Hh3 : Hid (PSh w n0 p gs' gs v' (.slice mad m mcap) w3) := Hst2.out.1.chain hC' hO' hN'
        have H0 : Hid (gs[0]? = some s) := Hst2.out.2.2
        have Hyes : Hid _ := hyes
        have Hno : Hid _ := hno
        have HEx := SameErrorT (pushN gs g l) w3 (Hg.out.below Hh3.out.2.2.2.1)
        have H4 : Hid (pushN gs g l = 0 → gs.length ≤ 30) := fun e => by
          unfold pushN at e
          by_cases h : 31 ≤ gs.length
          · rw [if_pos h] at e; simp at e
          · omega
        clear hC' hO' hN' hyes hno HX2 HNum2 Hst2 HPx HE y0 y1 Hs
        generalize pushN gs g l = NN at *
        (try dsimp only)
        go_wp2_with fail
        refine HEx.mono ?_
        rintro e w4 ⟨rfl, hb4⟩
        have HX4 : Hid (XAt w4 bx a1 a2 c1 c2 l) := HX3.out.below hb4
        have HNum4 : Hid (Num3 w4 bv x0 x1 x2) := HNum3'.out.below hb4
        have Hh4 : Hid (PSh w n0 p gs' gs v' (.slice mad m mcap) w4) := Hh3.out.below hb4
        clear hb4 HX3 HNum3' Hh3 HEx
        cases hn : (NN == 0)
        · have hne : NN ≠ 0 := by simpa using hn
          obtain ⟨rfl, rfl⟩ := Hno.out hne
          have Hfin : Hid (PSt w n0 s p gs' v' (.slice mad m mcap) w4) := ⟨Hh4.out, by have := Hmm.out; omega, H0.out⟩
          clear hne Hyes Hno H4
          (try dsimp only)
          go_wp2_with fail
          first | exact HQ.out _ _ _ _ _ _ Hfin.out HNum4.out | (apply HQ.out; exact Hfin.out; exact HNum4.out)
        · have h0 : NN = 0 := by simpa using hn
          obtain ⟨u, rfl, su, hlu⟩ := Hyes.out h0
          have hl30 := H4.out h0
          subst hlu
          obtain ⟨⟨y0, y1⟩, s1, s2⟩ := id HX4.out
          obtain ⟨vm', w9, hr9, hh9, hrow9, hgr9⟩ := psPush Hh4.out (by omega) hlast.out a1 a2 c1 c2 s1 s2 40
          have Hfin : Hid (PSt w n0 s p (gs ++ [u]) v' vm' w9) := ⟨hh9, by simp; omega, by rw [List.getElem?_append_left (by have := Hmm.out; omega)]; exact H0.out⟩
          have HNum9 : Hid (Num3 w9 bv x0 x1 x2) := Num3.off (n0 := n0) (v := .slice mad m mcap) HNum4.out ⟨hgr9.os, hgr9.tape, hgr9.output, hgr9.size, fun k hk _ hne => hgr9.block k hk (fun e => hne e.symm), hrow9⟩ hbp.out.1 hbp.out.2.2.1
          have Hr9 : Hid _ := hr9
          clear s1 s2 hh9 hrow9 hgr9 hr9 h0 Hyes Hno H4 hl30 su
          (try dsimp only)
          go_wp2_with (at_builtin; refine wpList_append_eq rfl _ _ 40 rfl rfl rfl Hr9.out ?_)
          first | exact HQ.out _ _ _ _ _ _ Hfin.out HNum9.out | (apply HQ.out; exact Hfin.out; exact HNum9.out)
end Go.Proofs.YtnlcfnpcjkcdmadGreatDoor

/- ChainPlays' round: a layer is laid. -/
namespace Go.Proofs.YtnlcfnpcjkcdmadGreatDoor
open Go Go.RowKit Go.Proofs
set_option synthInstance.maxSize 1000

attribute [local go_sem] eql_errV neq_errV guard_errV

set_option maxHeartbeats 32000000 in
set_option maxRecDepth 1000000 in
theorem playsPush (Q0 : Exit → Act → World → Prop) (u9 u12 u16 u18 u19 u20 u21 u22 u23 u24 u25 u26 u27 u28 u29 u30 u31 u32 u33 u34 u60 u61 u62 u63 u64 u65 u66 u67 u68 u69 u70 u71 u72 u73 u74 u75 u76 u77 u78 u79 u80 u81 u82 u83 u84 u85 u86 u87 u88 u89 u90 u91 u92 u93 u94 u95 u96 u97 u98 u99 u100 u101 u102 u103 u104 u105 u106 u107 u108 u109 u110 u111 u112 u113 u114 u115 u116 u117 u118 u119 u120 u121 u122 u123 u124 u125 u126 u127 u128 u129 u130 u131 u132 u133 u134 u135 u136 u137 u138 u139 u140 u141 u142 u143 u144 u145 u146 u147 u148 u149 u150 u151 u152 u153 u154 u155 u156 u157 u158 u159 u160 u161 u162 u163 u164 u165 u166 u167 u168 u169 u170 u171 u172 u173 u174 u175 u176 u177 u178 u179 u180 u181 u182 u183 u184 u185 u186 u187 u188 u189 u190 u191 u192 u193 u194 u195 u196 u197 u198 u199 u200 u201 u202 u203 u204 u205 u206 u207 u208 u209 u210 u211 u212 u213 u214 u215 u216 u217 u218 u219 u220 u221 u222 u223 u224 u225 u226 u227 u228 u229 u230 u231 u232 u233 u234 u235 u236 u237 u238 u239 u240 u241 u242 u243 u244 u245 u246 u247 u248 u249 u250 u251 u252 u253 u254 u255 u256 u257 u258 u259 u260 u261 u262 u263 u264 u265 u266 u267 u268 u269 u270 u271 u272 u273 u274 u275 u276 u277 u278 u279 u280 u281 u282 u283 u284 u285 u286 u287 u288 u289 u290 u291 u292 u293 u294 u295 u296 u297 u298 u299 u300 u301 u302 u303 u304 u305 u306 u307 u308 u309 u310 u311 u312 u313 : Value) (c3 c4 c5 c6 c8 c11 c35 c36 c37 c38 c39 c40 c41 c42 c43 c44 c45 c46 c47 c48 c49 c50 c51 c52 c53 c54 c55 c56 c57 c58 c59 : Value) (sd ld qd : Option Addr) (cs cl cq k n0 nq bv : Nat) (s : List Tr) (ls : List Ly) (p : Pt) (gs : List (List Tr)) (v : Value) (x0 x1 x2 : Int) (w W : World) (mad td : Option Addr) (m mcap ct : Nat)
    (hg : errVar w) (hl : ls ≠ [] → ∃ b o, ld = some ⟨b, o, none⟩ ∧ LsAt w b o ls) (fl : ∀ l ∈ ls, FitL l) (nl : ls.length ≤ 9223372036854775807) (hm : gs.length = m + 1) (hst : PSt w n0 s p gs v (.slice mad m mcap) W) (hNum : Num3 W bv x0 x1 x2) (ht : SlT W td (gat gs m)) (hbv : bv ≠ n0) (hbo : v.ownBlock ≠ some bv) (hbm : Value.ownBlock (.slice mad m mcap) ≠ some bv)
    (hQ : ∀ (x9 x16 x17 x18 x19 x20 x21 x22 x23 x24 x25 x26 x27 x28 x29 x30 x31 x32 x33 x34 x60 x61 x62 x63 x64 x65 x66 x67 x68 x69 x70 x71 x72 x73 x74 x75 x76 x77 x78 x79 x80 x81 x82 x83 x84 x85 x86 x87 x88 x89 x90 x91 x92 x93 x94 x95 x96 x97 x98 x99 x100 x101 x102 x103 x104 x105 x106 x107 x108 x109 x110 x111 x112 x113 x114 x115 x116 x117 x118 x119 x120 x121 x122 x123 x124 x125 x126 x127 x128 x129 x130 x131 x132 x133 x134 x135 x136 x137 x138 x139 x140 x141 x142 x143 x144 x145 x146 x147 x148 x149 x150 x151 x152 x153 x154 x155 x156 x157 x158 x159 x160 x161 x162 x163 x164 x165 x166 x167 x168 x169 x170 x171 x172 x173 x174 x175 x176 x177 x178 x179 x180 x181 x182 x183 x184 x185 x186 x187 x188 x189 x190 x191 x192 x193 x194 x195 x196 x197 x198 x199 x200 x201 x202 x203 x204 x205 x206 x207 x208 x209 x210 x211 x212 x213 x214 x215 x216 x217 x218 x219 x220 x221 x222 x223 x224 x225 x226 x227 x228 x229 x230 x231 x232 x233 x234 x235 x236 x237 x238 x239 x240 x241 x242 x243 x244 x245 x246 x247 x248 x249 x250 x251 x252 x253 x254 x255 x256 x257 x258 x259 x260 x261 x262 x263 x264 x265 x266 x267 x268 x269 x270 x271 x272 x273 x274 x275 x276 x277 x278 x279 x280 x281 x282 x283 x284 x285 x286 x287 x288 x289 x290 x291 x292 x293 x294 x295 x296 x297 x298 x299 x300 x301 x302 x303 x304 x305 x306 x307 x308 x309 x310 x311 x312 x313 : Value) (vm : Value) (gs' : List (List Tr)) (v' : Value) (W' : World), PSt w n0 s p gs' v' vm W' → Num3 W' bv x0 x1 x2 → Q0 .normal ⟨#[.slice sd s.length cs, .slice ld ls.length cl, .slice qd nq cq, c3, c4, c5, c6, .pointer (some ⟨w.heap.size, 0, none⟩), c8, x9, .pointer (some ⟨n0, 0, none⟩), c11, .bool true, vm, .int .i64 (k : Int), .pointer (some ⟨bv, 0, none⟩), x16, x17, x18, x19, x20, x21, x22, x23, x24, x25, x26, x27, x28, x29, x30, x31, x32, x33, x34, c35, c36, c37, c38, c39, c40, c41, c42, c43, c44, c45, c46, c47, c48, c49, c50, c51, c52, c53, c54, c55, c56, c57, c58, c59, x60, x61, x62, x63, x64, x65, x66, x67, x68, x69, x70, x71, x72, x73, x74, x75, x76, x77, x78, x79, x80, x81, x82, x83, x84, x85, x86, x87, x88, x89, x90, x91, x92, x93, x94, x95, x96, x97, x98, x99, x100, x101, x102, x103, x104, x105, x106, x107, x108, x109, x110, x111, x112, x113, x114, x115, x116, x117, x118, x119, x120, x121, x122, x123, x124, x125, x126, x127, x128, x129, x130, x131, x132, x133, x134, x135, x136, x137, x138, x139, x140, x141, x142, x143, x144, x145, x146, x147, x148, x149, x150, x151, x152, x153, x154, x155, x156, x157, x158, x159, x160, x161, x162, x163, x164, x165, x166, x167, x168, x169, x170, x171, x172, x173, x174, x175, x176, x177, x178, x179, x180, x181, x182, x183, x184, x185, x186, x187, x188, x189, x190, x191, x192, x193, x194, x195, x196, x197, x198, x199, x200, x201, x202, x203, x204, x205, x206, x207, x208, x209, x210, x211, x212, x213, x214, x215, x216, x217, x218, x219, x220, x221, x222, x223, x224, x225, x226, x227, x228, x229, x230, x231, x232, x233, x234, x235, x236, x237, x238, x239, x240, x241, x242, x243, x244, x245, x246, x247, x248, x249, x250, x251, x252, x253, x254, x255, x256, x257, x258, x259, x260, x261, x262, x263, x264, x265, x266, x267, x268, x269, x270, x271, x272, x273, x274, x275, x276, x277, x278, x279, x280, x281, x282, x283, x284, x285, x286, x287, x288, x289, x290, x291, x292, x293, x294, x295, x296, x297, x298, x299, x300, x301, x302, x303, x304, x305, x306, x307, x308, x309, x310, x311, x312, x313], []⟩ W') :
    Code.wp Tryz.prog (codeOf Tryz.f4.body 35) Q0 ⟨#[.slice sd s.length cs, .slice ld ls.length cl, .slice qd nq cq, c3, c4, c5, c6, .pointer (some ⟨w.heap.size, 0, none⟩), c8, u9, .pointer (some ⟨n0, 0, none⟩), c11, u12, .slice mad m mcap, .int .i64 (k : Int), .pointer (some ⟨bv, 0, none⟩), u16, .slice td (gat gs m).length ct, u18, u19, u20, u21, u22, u23, u24, u25, u26, u27, u28, u29, u30, u31, u32, u33, u34, c35, c36, c37, c38, c39, c40, c41, c42, c43, c44, c45, c46, c47, c48, c49, c50, c51, c52, c53, c54, c55, c56, c57, c58, c59, u60, u61, u62, u63, u64, u65, u66, u67, u68, u69, u70, u71, u72, u73, u74, u75, u76, u77, u78, u79, u80, u81, u82, u83, u84, u85, u86, u87, u88, u89, u90, u91, u92, u93, u94, u95, u96, u97, u98, u99, u100, u101, u102, u103, u104, u105, u106, u107, u108, u109, u110, u111, u112, u113, u114, u115, u116, u117, u118, u119, u120, u121, u122, u123, u124, u125, u126, u127, u128, u129, u130, u131, u132, u133, u134, u135, u136, u137, u138, u139, u140, u141, u142, u143, u144, u145, u146, u147, u148, u149, u150, u151, u152, u153, u154, u155, u156, u157, u158, u159, u160, u161, u162, u163, u164, u165, u166, u167, u168, u169, u170, u171, u172, u173, u174, u175, u176, u177, u178, u179, u180, u181, u182, u183, u184, u185, u186, u187, u188, u189, u190, u191, u192, u193, u194, u195, u196, u197, u198, u199, u200, u201, u202, u203, u204, u205, u206, u207, u208, u209, u210, u211, u212, u213, u214, u215, u216, u217, u218, u219, u220, u221, u222, u223, u224, u225, u226, u227, u228, u229, u230, u231, u232, u233, u234, u235, u236, u237, u238, u239, u240, u241, u242, u243, u244, u245, u246, u247, u248, u249, u250, u251, u252, u253, u254, u255, u256, u257, u258, u259, u260, u261, u262, u263, u264, u265, u266, u267, u268, u269, u270, u271, u272, u273, u274, u275, u276, u277, u278, u279, u280, u281, u282, u283, u284, u285, u286, u287, u288, u289, u290, u291, u292, u293, u294, u295, u296, u297, u298, u299, u300, u301, u302, u303, u304, u305, u306, u307, u308, u309, u310, u311, u312, u313], []⟩ W := by
  have HQ : Hid _ := hQ
  have Hg : Hid (errVar w) := hg
  have Hst : Hid (PSt w n0 s p gs v (.slice mad m mcap) W) := hst
  have HNum : Hid (Num3 W bv x0 x1 x2) := hNum
  have Ht : Hid (SlT W td (gat gs m)) := ht
  have Hl : Hid _ := hl
  have Hf : Hid (∀ l ∈ ls, FitL l) := fl
  have Hmm : Hid (gs.length = m + 1) := hm
  obtain ⟨y0, y1, y2, _, _, _⟩ := id hNum
  have hbvW : bv < W.heap.size := World.block_lt_of_cell? _ _ y0
  have hx18 : Hid (XAt (W.alloc (.cells #[.slice none 0 0, .slice none 0 0] 31)) W.heap.size none none 0 0 ([], [])) := ⟨BoxL.new _ _ _ _, slT_nil _ _, slT_nil _ _⟩
  have hbW : Hid (RowKit.Below w.heap.size w W) := hst.1.2.2.2.1
  have hbp : Hid (bv ≠ n0 ∧ v.ownBlock ≠ some bv ∧ Value.ownBlock (.slice mad m mcap) ≠ some bv) := ⟨hbv, hbo, hbm⟩
  have hnl : Hid (ls.length ≤ 9223372036854775807) := nl
  clear hQ hg hl fl hst hNum ht hm hbv hbo hbm
  conv => arg 2; whnf
  by_cases hx : 0 ≤ x1 ∧ x1 < (ls.length : Int)
  · obtain ⟨j, rfl⟩ : ∃ j : Nat, x1 = (j : Int) := ⟨x1.toNat, by omega⟩
    have hj : j < ls.length := by omega
    obtain ⟨b, o, rfl, hLs⟩ := Hl.out (fun e => by rw [e] at hj; simp at hj)
    obtain ⟨a1, c1, a2, c2, d0, d1, q1, q2⟩ := hLs.below hbW.out j hj
    have hmem : ls.getD j ([], []) ∈ ls := by rw [List.getD_eq_getElem?_getD, List.getElem?_eq_getElem hj]; exact List.getElem_mem _
    have HfL : Hid (FitL (ls.getD j ([], []))) := Hf.out _ hmem
    have Hq : Hid (SlT W a1 (ls.getD j ([], [])).1 ∧ SlT W a2 (ls.getD j ([], [])).2) := ⟨q1, q2⟩
    have t1 : (0 : Int) ≤ (j : Int) := by omega
    have t2 : (j : Int) < (ls.length : Int) := by omega
    have hdb := World.block_lt_of_cell? _ _ d0
    clear q1 q2 hLs hmem hx
    generalize ls.getD j ([], []) = l at *
    (try dsimp only)
    go_upto_if 175 with fail
    go_cut [9] from 166 to 180 (fun _ W' => Hid (XAt W' W.heap.size a1 a2 c1 c2 l) ∧ Hid (RowKit.Below W.heap.size W W'))
    case first =>
      clear HQ
      go_wp2_with fail
      go_meet
      case rel => exact ⟨⟨⟨by go_simp, by go_simp⟩, Hq.out.1.below (balloc _ _), Hq.out.2.below (balloc _ _)⟩, balloc _ _⟩
    case rest =>
      obtain ⟨hX, hb⟩ := hcut
      have hst' := Hst.out.below hb.out
      refine go_on (by assumption) ?_
      exact playsPush2 Q0 _ _ _ _ _ _ _ _ _ _ _ _ _ _ _ _ _ _ _ _ _ _ _ _ _ _ _ _ _ _ _ _ _ _ _ _ _ _ _ _ _ _ _ _ _ _ _ _ _ _ _ _ _ _ _ _ _ _ _ _ _ _ _ _ _ _ _ _ _ _ _ _ _ _ _ _ _ _ _ _ _ _ _ _ _ _ _ _ _ _ _ _ _ _ _ _ _ _ _ _ _ _ _ _ _ _ _ _ _ _ _ _ _ _ _ _ _ _ _ _ _ _ _ _ _ _ _ _ _ _ _ _ _ _ _ _ _ _ _ _ _ _ _ _ _ _ _ _ _ _ _ _ _ _ _ _ _ _ _ _ _ _ _ _ _ _ _ _ _ _ _ _ _ _ _ _ _ _ _ _ _ _ _ _ _ _ _ _ _ _ _ _ _ _ _ _ _ _ _ _ _ _ _ _ _ _ _ _ _ _ _ _ _ _ _ _ _ _ _ _ _ _ _ _ _ _ _ _ _ _ _ _ _ _ _ _ _ _ _ _ _ _ _ _ _ _ _ _ _ _ _ _ _ _ _ _ _ _ _ _ _ _ _ _ _ _ _ _ _ _ _ _ _ _ _ _ _ _ _ _ _ _ _ _ _ _ _ _ _ _ _ _ _ _ _ _ _ _ _ _ _ _ _ _ sd _ qd cs cl cq k n0 nq bv s ls p gs v x0 (j : Int) x2 w _ mad td a1 a2 m mcap ct c1 c2 W.heap.size l Hg.out HfL.out Hmm.out hst' (HNum.out.below hb.out) (Ht.out.below hb.out) hX.out hbp.out.1 hbp.out.2.1 hbp.out.2.2 (by have := Hst.out.1.1.lt; omega) (fun e => by have := (Hst.out.1.1.own _ e).2; omega) HQ.out
  · by_cases hx1 : 0 ≤ x1
    · have t1 : decide (0 ≤ x1) = true := by simpa using hx1
      have t2 : decide (x1 < (ls.length : Int)) = false := by simp; omega
      (try dsimp only)
      go_upto_if 175 with fail
      go_cut [9] from 166 to 180 (fun _ W' => Hid (XAt W' W.heap.size none none 0 0 ([], [])) ∧ Hid (RowKit.Below W.heap.size W W'))
      case first =>
        clear HQ
        go_wp2_with fail
        go_meet
        case rel => exact ⟨hx18, balloc _ _⟩
      case rest =>
        obtain ⟨hX, hb⟩ := hcut
        have hst' := Hst.out.below hb.out
        refine go_on (by assumption) ?_
        exact playsPush2 Q0 _ _ _ _ _ _ _ _ _ _ _ _ _ _ _ _ _ _ _ _ _ _ _ _ _ _ _ _ _ _ _ _ _ _ _ _ _ _ _ _ _ _ _ _ _ _ _ _ _ _ _ _ _ _ _ _ _ _ _ _ _ _ _ _ _ _ _ _ _ _ _ _ _ _ _ _ _ _ _ _ _ _ _ _ _ _ _ _ _ _ _ _ _ _ _ _ _ _ _ _ _ _ _ _ _ _ _ _ _ _ _ _ _ _ _ _ _ _ _ _ _ _ _ _ _ _ _ _ _ _ _ _ _ _ _ _ _ _ _ _ _ _ _ _ _ _ _ _ _ _ _ _ _ _ _ _ _ _ _ _ _ _ _ _ _ _ _ _ _ _ _ _ _ _ _ _ _ _ _ _ _ _ _ _ _ _ _ _ _ _ _ _ _ _ _ _ _ _ _ _ _ _ _ _ _ _ _ _ _ _ _ _ _ _ _ _ _ _ _ _ _ _ _ _ _ _ _ _ _ _ _ _ _ _ _ _ _ _ _ _ _ _ _ _ _ _ _ _ _ _ _ _ _ _ _ _ _ _ _ _ _ _ _ _ _ _ _ _ _ _ _ _ _ _ _ _ _ _ _ _ _ _ _ _ _ _ _ _ _ _ _ _ _ _ _ _ _ _ _ _ _ _ _ _ sd ld qd cs cl cq k n0 nq bv s ls p gs v x0 x1 x2 w _ mad td none none m mcap ct 0 0 W.heap.size ([], []) Hg.out fitL_nil Hmm.out hst' (HNum.out.below hb.out) (Ht.out.below hb.out) hX.out hbp.out.1 hbp.out.2.1 hbp.out.2.2 (by have := Hst.out.1.1.lt; omega) (fun e => by have := (Hst.out.1.1.own _ e).2; omega) HQ.out
    · have t1 : decide (0 ≤ x1) = false := by simpa using hx1
      (try dsimp only)
      go_upto_if 175 with fail
      go_cut [9] from 166 to 180 (fun _ W' => Hid (XAt W' W.heap.size none none 0 0 ([], [])) ∧ Hid (RowKit.Below W.heap.size W W'))
      case first =>
        clear HQ
        go_wp2_with fail
        go_meet
        case rel => exact ⟨hx18, balloc _ _⟩
      case rest =>
        obtain ⟨hX, hb⟩ := hcut
        have hst' := Hst.out.below hb.out
        refine go_on (by assumption) ?_
        exact playsPush2 Q0 _ _ _ _ _ _ _ _ _ _ _ _ _ _ _ _ _ _ _ _ _ _ _ _ _ _ _ _ _ _ _ _ _ _ _ _ _ _ _ _ _ _ _ _ _ _ _ _ _ _ _ _ _ _ _ _ _ _ _ _ _ _ _ _ _ _ _ _ _ _ _ _ _ _ _ _ _ _ _ _ _ _ _ _ _ _ _ _ _ _ _ _ _ _ _ _ _ _ _ _ _ _ _ _ _ _ _ _ _ _ _ _ _ _ _ _ _ _ _ _ _ _ _ _ _ _ _ _ _ _ _ _ _ _ _ _ _ _ _ _ _ _ _ _ _ _ _ _ _ _ _ _ _ _ _ _ _ _ _ _ _ _ _ _ _ _ _ _ _ _ _ _ _ _ _ _ _ _ _ _ _ _ _ _ _ _ _ _ _ _ _ _ _ _ _ _ _ _ _ _ _ _ _ _ _ _ _ _ _ _ _ _ _ _ _ _ _ _ _ _ _ _ _ _ _ _ _ _ _ _ _ _ _ _ _ _ _ _ _ _ _ _ _ _ _ _ _ _ _ _ _ _ _ _ _ _ _ _ _ _ _ _ _ _ _ _ _ _ _ _ _ _ _ _ _ _ _ _ _ _ _ _ _ _ _ _ _ _ _ _ _ _ _ _ _ _ _ _ _ _ _ _ _ _ sd ld qd cs cl cq k n0 nq bv s ls p gs v x0 x1 x2 w _ mad td none none m mcap ct 0 0 W.heap.size ([], []) Hg.out fitL_nil Hmm.out hst' (HNum.out.below hb.out) (Ht.out.below hb.out) hX.out hbp.out.1 hbp.out.2.1 hbp.out.2.2 (by have := Hst.out.1.1.lt; omega) (fun e => by have := (Hst.out.1.1.own _ e).2; omega) HQ.out
end Go.Proofs.YtnlcfnpcjkcdmadGreatDoor

/- ChainPlays' round: the top layer is taken off. -/
namespace Go.Proofs.YtnlcfnpcjkcdmadGreatDoor
open Go Go.RowKit Go.Proofs
set_option synthInstance.maxSize 1000

attribute [local go_sem] eql_errV neq_errV guard_errV

set_option maxHeartbeats 32000000 in
set_option maxRecDepth 1000000 in
theorem playsPop (Q0 : Exit → Act → World → Prop) (u9 u12 u16 u18 u19 u20 u21 u22 u23 u24 u25 u26 u27 u28 u29 u30 u31 u32 u33 u34 u60 u61 u62 u63 u64 u65 u66 u67 u68 u69 u70 u71 u72 u73 u74 u75 u76 u77 u78 u79 u80 u81 u82 u83 u84 u85 u86 u87 u88 u89 u90 u91 u92 u93 u94 u95 u96 u97 u98 u99 u100 u101 u102 u103 u104 u105 u106 u107 u108 u109 u110 u111 u112 u113 u114 u115 u116 u117 u118 u119 u120 u121 u122 u123 u124 u125 u126 u127 u128 u129 u130 u131 u132 u133 u134 u135 u136 u137 u138 u139 u140 u141 u142 u143 u144 u145 u146 u147 u148 u149 u150 u151 u152 u153 u154 u155 u156 u157 u158 u159 u160 u161 u162 u163 u164 u165 u166 u167 u168 u169 u170 u171 u172 u173 u174 u175 u176 u177 u178 u179 u180 u181 u182 u183 u184 u185 u186 u187 u188 u189 u190 u191 u192 u193 u194 u195 u196 u197 u198 u199 u200 u201 u202 u203 u204 u205 u206 u207 u208 u209 u210 u211 u212 u213 u214 u215 u216 u217 u218 u219 u220 u221 u222 u223 u224 u225 u226 u227 u228 u229 u230 u231 u232 u233 u234 u235 u236 u237 u238 u239 u240 u241 u242 u243 u244 u245 u246 u247 u248 u249 u250 u251 u252 u253 u254 u255 u256 u257 u258 u259 u260 u261 u262 u263 u264 u265 u266 u267 u268 u269 u270 u271 u272 u273 u274 u275 u276 u277 u278 u279 u280 u281 u282 u283 u284 u285 u286 u287 u288 u289 u290 u291 u292 u293 u294 u295 u296 u297 u298 u299 u300 u301 u302 u303 u304 u305 u306 u307 u308 u309 u310 u311 u312 u313 : Value) (c3 c4 c5 c6 c8 c11 c35 c36 c37 c38 c39 c40 c41 c42 c43 c44 c45 c46 c47 c48 c49 c50 c51 c52 c53 c54 c55 c56 c57 c58 c59 : Value) (sd ld qd : Option Addr) (cs cl cq k n0 nq bv : Nat) (s : List Tr) (ls : List Ly) (p : Pt) (gs : List (List Tr)) (v : Value) (x0 x1 x2 : Int) (w W : World) (mad td : Option Addr) (m mcap ct : Nat)
    (hg : errVar w) (hm : gs.length = m + 1) (hst : PSt w n0 s p gs v (.slice mad m mcap) W) (hNum : Num3 W bv x0 x1 x2) (hbv : bv ≠ n0) (hbo : v.ownBlock ≠ some bv)
    (hQ : ∀ (x9 x16 x17 x18 x19 x20 x21 x22 x23 x24 x25 x26 x27 x28 x29 x30 x31 x32 x33 x34 x60 x61 x62 x63 x64 x65 x66 x67 x68 x69 x70 x71 x72 x73 x74 x75 x76 x77 x78 x79 x80 x81 x82 x83 x84 x85 x86 x87 x88 x89 x90 x91 x92 x93 x94 x95 x96 x97 x98 x99 x100 x101 x102 x103 x104 x105 x106 x107 x108 x109 x110 x111 x112 x113 x114 x115 x116 x117 x118 x119 x120 x121 x122 x123 x124 x125 x126 x127 x128 x129 x130 x131 x132 x133 x134 x135 x136 x137 x138 x139 x140 x141 x142 x143 x144 x145 x146 x147 x148 x149 x150 x151 x152 x153 x154 x155 x156 x157 x158 x159 x160 x161 x162 x163 x164 x165 x166 x167 x168 x169 x170 x171 x172 x173 x174 x175 x176 x177 x178 x179 x180 x181 x182 x183 x184 x185 x186 x187 x188 x189 x190 x191 x192 x193 x194 x195 x196 x197 x198 x199 x200 x201 x202 x203 x204 x205 x206 x207 x208 x209 x210 x211 x212 x213 x214 x215 x216 x217 x218 x219 x220 x221 x222 x223 x224 x225 x226 x227 x228 x229 x230 x231 x232 x233 x234 x235 x236 x237 x238 x239 x240 x241 x242 x243 x244 x245 x246 x247 x248 x249 x250 x251 x252 x253 x254 x255 x256 x257 x258 x259 x260 x261 x262 x263 x264 x265 x266 x267 x268 x269 x270 x271 x272 x273 x274 x275 x276 x277 x278 x279 x280 x281 x282 x283 x284 x285 x286 x287 x288 x289 x290 x291 x292 x293 x294 x295 x296 x297 x298 x299 x300 x301 x302 x303 x304 x305 x306 x307 x308 x309 x310 x311 x312 x313 : Value) (vm : Value) (gs' : List (List Tr)) (v' : Value) (W' : World), PSt w n0 s p gs' v' vm W' → Num3 W' bv x0 x1 x2 → Q0 .normal ⟨#[.slice sd s.length cs, .slice ld ls.length cl, .slice qd nq cq, c3, c4, c5, c6, .pointer (some ⟨w.heap.size, 0, none⟩), c8, x9, .pointer (some ⟨n0, 0, none⟩), c11, .bool true, vm, .int .i64 (k : Int), .pointer (some ⟨bv, 0, none⟩), x16, x17, x18, x19, x20, x21, x22, x23, x24, x25, x26, x27, x28, x29, x30, x31, x32, x33, x34, c35, c36, c37, c38, c39, c40, c41, c42, c43, c44, c45, c46, c47, c48, c49, c50, c51, c52, c53, c54, c55, c56, c57, c58, c59, x60, x61, x62, x63, x64, x65, x66, x67, x68, x69, x70, x71, x72, x73, x74, x75, x76, x77, x78, x79, x80, x81, x82, x83, x84, x85, x86, x87, x88, x89, x90, x91, x92, x93, x94, x95, x96, x97, x98, x99, x100, x101, x102, x103, x104, x105, x106, x107, x108, x109, x110, x111, x112, x113, x114, x115, x116, x117, x118, x119, x120, x121, x122, x123, x124, x125, x126, x127, x128, x129, x130, x131, x132, x133, x134, x135, x136, x137, x138, x139, x140, x141, x142, x143, x144, x145, x146, x147, x148, x149, x150, x151, x152, x153, x154, x155, x156, x157, x158, x159, x160, x161, x162, x163, x164, x165, x166, x167, x168, x169, x170, x171, x172, x173, x174, x175, x176, x177, x178, x179, x180, x181, x182, x183, x184, x185, x186, x187, x188, x189, x190, x191, x192, x193, x194, x195, x196, x197, x198, x199, x200, x201, x202, x203, x204, x205, x206, x207, x208, x209, x210, x211, x212, x213, x214, x215, x216, x217, x218, x219, x220, x221, x222, x223, x224, x225, x226, x227, x228, x229, x230, x231, x232, x233, x234, x235, x236, x237, x238, x239, x240, x241, x242, x243, x244, x245, x246, x247, x248, x249, x250, x251, x252, x253, x254, x255, x256, x257, x258, x259, x260, x261, x262, x263, x264, x265, x266, x267, x268, x269, x270, x271, x272, x273, x274, x275, x276, x277, x278, x279, x280, x281, x282, x283, x284, x285, x286, x287, x288, x289, x290, x291, x292, x293, x294, x295, x296, x297, x298, x299, x300, x301, x302, x303, x304, x305, x306, x307, x308, x309, x310, x311, x312, x313], []⟩ W') :
    Code.wp Tryz.prog (codeOf Tryz.f4.body 49) Q0 ⟨#[.slice sd s.length cs, .slice ld ls.length cl, .slice qd nq cq, c3, c4, c5, c6, .pointer (some ⟨w.heap.size, 0, none⟩), c8, u9, .pointer (some ⟨n0, 0, none⟩), c11, u12, .slice mad m mcap, .int .i64 (k : Int), .pointer (some ⟨bv, 0, none⟩), u16, .slice td (gat gs m).length ct, u18, u19, u20, u21, u22, u23, u24, u25, u26, u27, u28, u29, u30, u31, u32, u33, u34, c35, c36, c37, c38, c39, c40, c41, c42, c43, c44, c45, c46, c47, c48, c49, c50, c51, c52, c53, c54, c55, c56, c57, c58, c59, u60, u61, u62, u63, u64, u65, u66, u67, u68, u69, u70, u71, u72, u73, u74, u75, u76, u77, u78, u79, u80, u81, u82, u83, u84, u85, u86, u87, u88, u89, u90, u91, u92, u93, u94, u95, u96, u97, u98, u99, u100, u101, u102, u103, u104, u105, u106, u107, u108, u109, u110, u111, u112, u113, u114, u115, u116, u117, u118, u119, u120, u121, u122, u123, u124, u125, u126, u127, u128, u129, u130, u131, u132, u133, u134, u135, u136, u137, u138, u139, u140, u141, u142, u143, u144, u145, u146, u147, u148, u149, u150, u151, u152, u153, u154, u155, u156, u157, u158, u159, u160, u161, u162, u163, u164, u165, u166, u167, u168, u169, u170, u171, u172, u173, u174, u175, u176, u177, u178, u179, u180, u181, u182, u183, u184, u185, u186, u187, u188, u189, u190, u191, u192, u193, u194, u195, u196, u197, u198, u199, u200, u201, u202, u203, u204, u205, u206, u207, u208, u209, u210, u211, u212, u213, u214, u215, u216, u217, u218, u219, u220, u221, u222, u223, u224, u225, u226, u227, u228, u229, u230, u231, u232, u233, u234, u235, u236, u237, u238, u239, u240, u241, u242, u243, u244, u245, u246, u247, u248, u249, u250, u251, u252, u253, u254, u255, u256, u257, u258, u259, u260, u261, u262, u263, u264, u265, u266, u267, u268, u269, u270, u271, u272, u273, u274, u275, u276, u277, u278, u279, u280, u281, u282, u283, u284, u285, u286, u287, u288, u289, u290, u291, u292, u293, u294, u295, u296, u297, u298, u299, u300, u301, u302, u303, u304, u305, u306, u307, u308, u309, u310, u311, u312, u313], []⟩ W := by
  have HQ : Hid _ := hQ
  have Hg : Hid (errVar w) := hg
  have Hst : Hid (PSt w n0 s p gs v (.slice mad m mcap) W) := hst
  have HNum : Hid (Num3 W bv x0 x1 x2) := hNum
  have hm30 : m ≤ 30 := by have := hst.2.1; omega
  have Hmm : Hid (gs.length = m + 1) := hm
  have hbp : Hid (bv ≠ n0 ∧ v.ownBlock ≠ some bv) := ⟨hbv, hbo⟩
  have HE := fun n W (h : RowKit.Below w.heap.size w W) => SameErrorT n W (hg.below h)
  have hbA := balloc W (.cells #[.slice none 0 0, .slice none 0 0] 31)
  conv => arg 2; whnf
  by_cases h0 : m = 0
  · subst h0
    have HP := fun W (h : PSt w n0 s p gs v (.slice mad 0 mcap) W) => PopBad_any n0 v gs W h.1.1 hm
    have HS := fun a b ca cb W => SameLayT a none b none ca 0 cb 0 [] [] [] [] W (slT_nil _ _) (slT_nil _ _) (slT_nil _ _) (slT_nil _ _) ⟨by simp, by simp⟩ ⟨rfl, rfl⟩
    have HSx := fun W => SameLayT none none none none 0 0 0 0 [] [] [] [] W (slT_nil _ _) (slT_nil _ _) (slT_nil _ _) (slT_nil _ _) ⟨by simp, by simp⟩ ⟨rfl, rfl⟩
    have E5 := HE 5
    rw [show errV 5 = .iface 89 (.int .i64 5) from rfl] at E5
    have Hst1 : Hid (PSt w n0 s p gs v (.slice mad 0 mcap) (W.alloc (.cells #[.slice none 0 0, .slice none 0 0] 31))) := Hst.out.below hbA
    have HNum1 : Hid (Num3 (W.alloc (.cells #[.slice none 0 0, .slice none 0 0] 31)) bv x0 x1 x2) := HNum.out.below hbA
    have HB1 : Hid (BoxL (W.alloc (.cells #[.slice none 0 0, .slice none 0 0] 31)) W.heap.size (.slice none 0 0) (.slice none 0 0)) := BoxL.new _ _ _ _
    clear hQ hg hst hNum hm hbv hbo hbA HE HS
    go_wp2_with fail
    refine (HP _ Hst1.out).mono ?_
    rintro e w2 ⟨rfl, hb2⟩
    have hb2' := bstep hb2 (balloc w2 (.cells #[.slice none 0 0, .slice none 0 0] 31))
    have Hst2 : Hid (PSt w n0 s p gs v (.slice mad 0 mcap) (w2.alloc (.cells #[.slice none 0 0, .slice none 0 0] 31))) := Hst1.out.below hb2'
    have HNum2 : Hid (Num3 (w2.alloc (.cells #[.slice none 0 0, .slice none 0 0] 31)) bv x0 x1 x2) := HNum1.out.below hb2'
    have HB2 : Hid (BoxL (w2.alloc (.cells #[.slice none 0 0, .slice none 0 0] 31)) W.heap.size (.slice none 0 0) (.slice none 0 0)) := HB1.out.below hb2'
    have HC2 : Hid (BoxL (w2.alloc (.cells #[.slice none 0 0, .slice none 0 0] 31)) w2.heap.size (.slice none 0 0) (.slice none 0 0)) := BoxL.new _ _ _ _
    clear hb2 hb2' Hst1 HNum1 HB1 HP
    (try dsimp only)
    go_wp2_with fail
    refine (E5 _ Hst2.out.1.2.2.2.1).mono ?_
    rintro e w3 ⟨rfl, hb3⟩
    have Hst3 : Hid (PSt w n0 s p gs v (.slice mad 0 mcap) w3) := Hst2.out.below hb3
    have HNum3' : Hid (Num3 w3 bv x0 x1 x2) := HNum2.out.below hb3
    obtain ⟨y0, y1⟩ := HB2.out.below hb3
    obtain ⟨y2, y3⟩ := HC2.out.below hb3
    clear hb3 Hst2 HNum2 HB2 HC2
    (try dsimp only)
    go_wp2_with fail
    refine (HSx _).mono ?_
    rintro e w4 ⟨rfl, hb4⟩
    have Hfin : Hid (PSt w n0 s p gs v (.slice mad 0 mcap) w4) := Hst3.out.below hb4
    have HNum4 : Hid (Num3 w4 bv x0 x1 x2) := HNum3'.out.below hb4
    clear hb4 Hst3 HNum3' y0 y1 y2 y3
    (try dsimp only)
    go_wp2_with fail
    first | exact HQ.out _ _ _ _ _ _ Hfin.out HNum4.out | (apply HQ.out; exact Hfin.out; exact HNum4.out)
  · obtain ⟨i, rfl⟩ : ∃ i, m = i + 1 := ⟨m - 1, by omega⟩
    obtain ⟨bl, cap', a1, c1, a2, c2, e1, _, hcap, d0, d1, q1, q2⟩ := hst.1.2.1.step (gat_eq (k := i) (by omega)) (gat_eq (k := i + 1) (by omega))
    obtain ⟨e2, e3, e4⟩ := Value.slice.inj e1
    subst e2 e4
    have hcap2 : i + 1 ≤ mcap := by omega
    have HP := fun W (h : PSt w n0 s p gs v (.slice (some ⟨bl, 0, none⟩) (i + 1) mcap) W) => Pop_any n0 v gs i W h.1.1 (by omega) hm
    have hs1 := hst.1.1.set (gat_eq (k := i) (by omega))
    have hs2 := hst.1.1.set (gat_eq (k := i + 1) (by omega))
    have Hlen : Hid ((lessL (gat gs (i + 1)) (gat gs i)).length ≤ 200 ∧ (lessL (gat gs i) (gat gs (i + 1))).length ≤ 200) := ⟨(lessSet hs2).1, (lessSet hs1).1⟩
    have HS := fun a b c d ca cb cc cd l k W h1 h2 h3 h4 hl => SameLayT a b c d ca cb cc cd l k l k W h1 h2 h3 h4 hl ⟨rfl, rfl⟩
    have Hq : Hid (SlT W a1 (lessL (gat gs (i + 1)) (gat gs i)) ∧ SlT W a2 (lessL (gat gs i) (gat gs (i + 1)))) := ⟨q1, q2⟩
    have HM : Hid (∀ W, MAt W (w.heap.size + 1) (.slice (some ⟨bl, 0, none⟩) (i + 1) mcap) gs → MAt W (w.heap.size + 1) (.slice (some ⟨bl, 0, none⟩) i mcap) gs.dropLast) := fun W h => mCut h
    have H0 : Hid (gs.dropLast[0]? = some s ∧ gs.dropLast.length ≤ 31) := ⟨by rw [List.getElem?_dropLast, if_pos (by omega)]; exact hst.2.2, by simp; omega⟩
    have E0 := HE 0
    rw [show errV 0 = .nilIface from rfl] at E0
    have z1 : (0 : Int) ≤ (i : Int) := by omega
    have z2 : (i : Int) < (i : Int) + 1 := by omega
    have z3 : (i : Int) ≤ (mcap : Int) := by omega
    have hw5 := wrapN i (by omega)
    have hdb := World.block_lt_of_cell? _ _ d0
    clear hQ hg hst hNum hm hbv hbo hbA HE e1 e3 q1 q2 hs1 hs2 h0
    generalize lessL (gat gs (i + 1)) (gat gs i) = L1 at *
    generalize lessL (gat gs i) (gat gs (i + 1)) = L2 at *
    have Hst1 : Hid (PSt w n0 s p gs v (.slice (some ⟨bl, 0, none⟩) (i + 1) mcap) (W.alloc (.cells #[.slice a1 L1.length c1, .slice a2 L2.length c2] 31))) := Hst.out.below (balloc _ _)
    have HNum1 : Hid (Num3 (W.alloc (.cells #[.slice a1 L1.length c1, .slice a2 L2.length c2] 31)) bv x0 x1 x2) := HNum.out.below (balloc _ _)
    have HX1 : Hid (XAt (W.alloc (.cells #[.slice a1 L1.length c1, .slice a2 L2.length c2] 31)) W.heap.size a1 a2 c1 c2 (L1, L2)) := ⟨BoxL.new _ _ _ _, Hq.out.1.below (balloc _ _), Hq.out.2.below (balloc _ _)⟩
    go_wp2_with fail
    refine (HP _ Hst1.out).mono ?_
    rintro e w2 ⟨b1, t1, b2, t2, v', rfl, s1, s2, hsq⟩
    have hh2 := Hst1.out.1.chain hsq.1 hsq.2.1 (Or.inl hsq.2.2)
    have hst2 : PSt w n0 s p gs.dropLast v' (.slice (some ⟨bl, 0, none⟩) i mcap) w2 := ⟨⟨hh2.1, HM.out _ hh2.2.1, fun g hg => hh2.2.2.1 g hg, hh2.2.2.2⟩, H0.out.2, H0.out.1⟩
    have hx2 := HX1.out.off hsq.2.1 (by have := Hst.out.1.1.lt; omega) (fun e => by have := (Hst.out.1.1.own _ e).2; omega)
    have hn2 := HNum1.out.off hsq.2.1 hbp.out.1 hbp.out.2
    have hbA2 := balloc w2 (.cells #[.slice b1 L1.length t1, .slice b2 L2.length t2] 31)
    have Hst2 : Hid (PSt w n0 s p gs.dropLast v' (.slice (some ⟨bl, 0, none⟩) i mcap) (w2.alloc (.cells #[.slice b1 L1.length t1, .slice b2 L2.length t2] 31))) := hst2.below hbA2
    have HX2 : Hid (XAt (w2.alloc (.cells #[.slice b1 L1.length t1, .slice b2 L2.length t2] 31)) W.heap.size a1 a2 c1 c2 (L1, L2)) := hx2.below hbA2
    have HY2 : Hid (XAt (w2.alloc (.cells #[.slice b1 L1.length t1, .slice b2 L2.length t2] 31)) w2.heap.size b1 b2 t1 t2 (L1, L2)) := ⟨BoxL.new _ _ _ _, s1.below hbA2, s2.below hbA2⟩
    have HNum2 : Hid (Num3 (w2.alloc (.cells #[.slice b1 L1.length t1, .slice b2 L2.length t2] 31)) bv x0 x1 x2) := hn2.below hbA2
    clear hh2 hst2 hx2 hn2 hbA2 hsq s1 s2 HX1 HNum1 Hst1 HP d0 d1 Hst HNum
    (try dsimp only)
    go_wp2_with fail
    refine (E0 _ Hst2.out.1.2.2.2.1).mono ?_
    rintro e w3 ⟨rfl, hb3⟩
    have Hst3 : Hid (PSt w n0 s p gs.dropLast v' (.slice (some ⟨bl, 0, none⟩) i mcap) w3) := Hst2.out.below hb3
    have HNum3' : Hid (Num3 w3 bv x0 x1 x2) := HNum2.out.below hb3
    obtain ⟨⟨y0, y1⟩, r1, r2⟩ := HX2.out.below hb3
    obtain ⟨⟨y2, y3⟩, r3, r4⟩ := HY2.out.below hb3
    have Hr : Hid (SlT w3 a1 L1 ∧ SlT w3 a2 L2 ∧ SlT w3 b1 L1 ∧ SlT w3 b2 L2) := ⟨r1, r2, r3, r4⟩
    clear hb3 Hst2 HNum2 HX2 HY2 r1 r2 r3 r4
    (try dsimp only at y0 y1 y2 y3)
    (try dsimp only)
    go_wp2_with fail
    refine (HS b1 b2 a1 a2 t1 t2 c1 c2 L1 L2 _ Hr.out.2.2.1 Hr.out.2.2.2 Hr.out.1 Hr.out.2.1 Hlen.out).mono ?_
    rintro e w4 ⟨rfl, hb4⟩
    have Hfin : Hid (PSt w n0 s p gs.dropLast v' (.slice (some ⟨bl, 0, none⟩) i mcap) w4) := Hst3.out.below hb4
    have HNum4 : Hid (Num3 w4 bv x0 x1 x2) := HNum3'.out.below hb4
    clear hb4 Hst3 HNum3' y0 y1 y2 y3 Hr
    (try dsimp only)
    go_wp2_with fail
    first | exact HQ.out _ _ _ _ _ _ Hfin.out HNum4.out | (apply HQ.out; exact Hfin.out; exact HNum4.out)
end Go.Proofs.YtnlcfnpcjkcdmadGreatDoor

/- The law's list of layers, laid anew where layers were made one. -/
namespace Go.Proofs.YtnlcfnpcjkcdmadGreatDoor
open Go Go.RowKit Go.Proofs
set_option synthInstance.maxSize 1000

theorem run_append_zero {W : World} {base : Nat} {v : Value} {xs : List Vp} (h : SheetV W base v xs) (ad : Option Addr) (c : Nat) (ty : TypeId) : (Builtin.append_ #[40, 40] ty #[v, .slice ad 0 c]).run Tryz.prog W = .ok v W := by
  obtain ⟨i0, hi, hz⟩ := Option.map_eq_some_iff.1 infoLy
  rcases h with ⟨rfl, rfl⟩ | ⟨g, cap, rfl, _, _, h⟩
  · cases ad with
    | none => simp [Builtin.append_, run_underlying Tryz.underlying40, sizeOf, typeInfo, hi, Builtin.lenOf, run_firstCells_none]
    | some a =>
      have hf := run_firstCells_some (P := Tryz.prog) W i0.size 0 a 0 c [] (by simp) (by simp)
      simp [Builtin.append_, run_underlying Tryz.underlying40, sizeOf, typeInfo, hi, Builtin.lenOf, hf]
  · cases ad with
    | none =>
      have hle := h.le
      simp [Builtin.append_, run_underlying Tryz.underlying40, sizeOf, typeInfo, hi, Builtin.lenOf, run_firstCells_none, hle, storeCells]
    | some a =>
      have := run_append_room_cells (P := Tryz.prog) W 40 ty 31 i0 Tryz.underlying40 hi g 0 xs.length cap a 0 c [] (by simp) (by simp) (by simp) (by have := h.le; omega) (by simp) (by simp)
      simpa [World.setCells] using this
/-- some layers of a row put behind another one -/
theorem append_part {W : World} {base : Nat} {v : Value} {xs ys zs : List Vp} {g cap : Nat} (h : SheetV W base v xs) (hS : Sheet W g cap zs) (o : Nat) (ho : ∀ j, j < ys.length → zs[o + j]? = ys[j]?) (hy : ys.length ≤ 900) (hx : xs.length ≤ 900) (hb : base ≤ W.heap.size) (ad : Option Addr) (c : Nat) (had : 0 < ys.length → ad = some ⟨g, o * 2, none⟩) (ty : TypeId) :
    ∃ v' W', (Builtin.append_ #[40, 40] ty #[v, .slice ad ys.length c]).run Tryz.prog W = .ok v' W' ∧ SheetV W' base v' (xs ++ ys) ∧ RowKit.Below base W W' ∧ RowsOn W W' := by
  obtain ⟨i0, hi, hz⟩ := Option.map_eq_some_iff.1 infoLy
  simp only [Prod.mk.injEq] at hz
  obtain ⟨hz0, hz1, hz2⟩ := hz
  by_cases h0 : 0 < ys.length
  · have had' := had h0
    subst had'
    have hc : ∀ (j : Nat) u, (cellsL ys)[j]? = some u → (cellsL zs)[o * 2 + j]? = some u := fun j u hu => by
      have hj := (List.getElem?_eq_some_iff.1 hu).1
      rw [cellsL_len] at hj
      rw [cellsL_at] at hu ⊢
      rw [show (o * 2 + j) / 2 = o + j / 2 by omega, show (o * 2 + j) % 2 = j % 2 by omega, ho (j / 2) (by omega)]
      exact hu
    obtain ⟨v', W', hr, hS', hgr, hrow, _⟩ := run_append_sheets (P := Tryz.prog) 40 ty 31 i0 Tryz.underlying40 hi hz0 hz1 (by omega) h h0 (by omega) (fun j u hu => cellsL_sl hS _ u (hc j u hu)) ⟨g, o * 2, none⟩ c (fun j u hu => by rw [Addr.add_lit]; exact hS.at_ _ u (hc j u hu)) hb (by omega)
    exact ⟨v', W', hr, hS', (RowKit.Below.refl _ _).grown hgr hb (fun k hk => (h.lt k hk).1), hrow⟩
  · have e : ys = [] := List.eq_nil_of_length_eq_zero (by omega)
    subst e
    exact ⟨v, W, run_append_zero h ad c ty, by simpa using h, RowKit.Below.refl _ _, fun _ _ x => x⟩
/-- one layer, in a new block, put behind a row -/
theorem append_one {W : World} {base : Nat} {v : Value} {xs : List Vp} (h : SheetV W base v xs) (a1 a2 : Option Addr) (n1 n2 c1 c2 : Nat) (hx : xs.length ≤ 900) (hb : base ≤ W.heap.size) (ty : TypeId) :
    ∃ v' W', (Builtin.append_ #[40, 40] ty #[v, .slice (some ⟨W.heap.size, 0, none⟩) 1 1]).run Tryz.prog (W.alloc (.cells #[.slice a1 n1 c1, .slice a2 n2 c2] 31)) = .ok v' W' ∧ SheetV W' base v' (xs ++ [(.slice a1 n1 c1, .slice a2 n2 c2)]) ∧ RowKit.Below base W W' ∧ RowsOn W W' := by
  obtain ⟨i0, hi, hz⟩ := Option.map_eq_some_iff.1 infoLy
  simp only [Prod.mk.injEq] at hz
  obtain ⟨hz0, hz1, hz2⟩ := hz
  have hbA := balloc W (.cells #[.slice a1 n1 c1, .slice a2 n2 c2] 31)
  obtain ⟨v', W', hr, hS', hgr, hrow, _, _⟩ := run_append_sheet (P := Tryz.prog) 40 ty 31 i0 Tryz.underlying40 hi hz0 hz1 (by omega) (h.below hbA) (.slice a1 n1 c1, .slice a2 n2 c2) rfl rfl ⟨W.heap.size, 0, none⟩ 1 (fun j y hj => by
    have h2 : j < 2 := (List.getElem?_eq_some_iff.1 hj).1
    rw [Addr.add_lit]
    rcases (by omega : j = 0 ∨ j = 1) with rfl | rfl
    all_goals
      simp at hj
      subst hj
      simp) (by simp; omega) (by omega)
  exact ⟨v', W', hr, hS', ((hbA.mono hb).grown hgr (by simp; omega) (fun k hk => (h.lt k hk).1)), (RowsOn.of_below hbA).trans hrow⟩
end Go.Proofs.YtnlcfnpcjkcdmadGreatDoor

/- ChainPlays' round: layers are made one, the law's list. -/
namespace Go.Proofs.YtnlcfnpcjkcdmadGreatDoor
open Go Go.RowKit Go.Proofs
set_option synthInstance.maxSize 1000

theorem SheetV.mono {W : World} {B B' : Nat} {v : Value} {xs : List Vp} (h : SheetV W B v xs) (hB : B' ≤ B) : SheetV W B' v xs := by
  rcases h with h | ⟨g, cap, rfl, h1, h2⟩
  · exact Or.inl h
  · exact Or.inr ⟨g, cap, rfl, Nat.le_trans hB h1, h2⟩
theorem sheet_nil (W : World) : SheetV W W.heap.size (.slice none 0 0) [] := Or.inl ⟨rfl, rfl⟩
/-- the law's list, laid anew -/
theorem psNext {w W W3 : World} {n0 : Nat} {p : Pt} {gs gs' : List (List Tr)} {v vm v3 : Value} {xs : List Vp} (h : PSh w n0 p gs' gs v vm W) (hb : RowKit.Below W.heap.size W W3) (hS : SheetV W3 W.heap.size v3 xs) (hL : LaysV W3 xs (stepsL gs')) : PSh w n0 p gs' gs' v v3 W3 := by
  have h3 := h.below hb
  have hw := h.2.2.2.2.1.lt
  refine ⟨h3.1, ⟨xs, hS.mono (by omega), hL⟩, fun g hg => ?_, h3.2.2.2⟩
  have := (hS.lt g hg).1
  refine ⟨by have := h.1.lt; omega, fun e => ?_⟩
  have := (h.1.own g e).2
  omega

attribute [local go_sem] eql_errV neq_errV guard_errV

set_option maxHeartbeats 32000000 in
set_option maxRecDepth 1000000 in
theorem playsSquash2 (Q0 : Exit → Act → World → Prop) (u9 u16 u17 u18 u19 u20 u21 u22 u24 u25 u26 u27 u28 u29 u30 u31 u32 u33 u34 u60 u61 u62 u63 u64 u65 u66 u67 u68 u69 u70 u71 u72 u73 u74 u75 u76 u77 u78 u79 u80 u81 u82 u83 u84 u85 u86 u87 u88 u89 u90 u91 u92 u93 u94 u95 u96 u97 u98 u99 u100 u101 u102 u103 u104 u105 u106 u107 u108 u109 u110 u111 u112 u113 u114 u115 u116 u117 u118 u119 u120 u121 u122 u123 u124 u125 u126 u127 u128 u129 u130 u131 u132 u133 u134 u135 u136 u137 u138 u139 u140 u141 u142 u143 u144 u145 u146 u147 u148 u149 u150 u151 u152 u153 u154 u155 u156 u157 u158 u159 u160 u161 u162 u163 u164 u165 u166 u167 u168 u169 u170 u171 u172 u173 u174 u175 u176 u177 u178 u179 u180 u181 u182 u183 u184 u185 u186 u187 u188 u189 u190 u191 u192 u193 u194 u195 u196 u197 u198 u199 u200 u201 u202 u203 u204 u205 u206 u207 u208 u209 u210 u211 u212 u213 u214 u215 u216 u217 u218 u219 u220 u221 u222 u223 u224 u225 u226 u227 u228 u229 u230 u231 u232 u233 u234 u235 u236 u237 u238 u239 u240 u241 u242 u243 u244 u245 u246 u247 u248 u249 u250 u251 u252 u253 u254 u255 u256 u257 u258 u259 u260 u261 u262 u263 u264 u265 u266 u267 u268 u269 u270 u271 u272 u273 u274 u275 u276 u277 u278 u279 u280 u281 u282 u283 u284 u285 u286 u287 u288 u289 u290 u291 u292 u293 u294 u295 u296 u297 u298 u299 u300 u301 u302 u303 u304 u305 u306 u307 u308 u309 u310 u311 u312 u313 : Value) (c3 c4 c5 c6 c8 c11 c35 c36 c37 c38 c39 c40 c41 c42 c43 c44 c45 c46 c47 c48 c49 c50 c51 c52 c53 c54 c55 c56 c57 c58 c59 : Value) (sd ld qd : Option Addr) (cs cl cq k n0 nq bv : Nat) (s : List Tr) (ls : List Ly) (p : Pt) (gs : List (List Tr)) (v : Value) (x0 : Int) (w W : World) (a1 a2 : Option Addr) (bl i t m mcap c1 c2 bx : Nat)
    (hm : gs.length = m + 1) (hm30 : m ≤ 30) (hit : i + 1 ≤ t) (htm : t ≤ m) (hh : PSh w n0 p (gs.take (i + 1) ++ gs.drop t) gs v (.slice (some ⟨bl, 0, none⟩) m mcap) W) (h0 : gs[0]? = some s) (hNum : Num3 W bv x0 ((i : Int) + 1) (t : Int)) (hX : XAt W bx a1 a2 c1 c2 (btw (gat gs i) (gat gs t)))
    (hQ : ∀ (x9 x16 x17 x18 x19 x20 x21 x22 x23 x24 x25 x26 x27 x28 x29 x30 x31 x32 x33 x34 x60 x61 x62 x63 x64 x65 x66 x67 x68 x69 x70 x71 x72 x73 x74 x75 x76 x77 x78 x79 x80 x81 x82 x83 x84 x85 x86 x87 x88 x89 x90 x91 x92 x93 x94 x95 x96 x97 x98 x99 x100 x101 x102 x103 x104 x105 x106 x107 x108 x109 x110 x111 x112 x113 x114 x115 x116 x117 x118 x119 x120 x121 x122 x123 x124 x125 x126 x127 x128 x129 x130 x131 x132 x133 x134 x135 x136 x137 x138 x139 x140 x141 x142 x143 x144 x145 x146 x147 x148 x149 x150 x151 x152 x153 x154 x155 x156 x157 x158 x159 x160 x161 x162 x163 x164 x165 x166 x167 x168 x169 x170 x171 x172 x173 x174 x175 x176 x177 x178 x179 x180 x181 x182 x183 x184 x185 x186 x187 x188 x189 x190 x191 x192 x193 x194 x195 x196 x197 x198 x199 x200 x201 x202 x203 x204 x205 x206 x207 x208 x209 x210 x211 x212 x213 x214 x215 x216 x217 x218 x219 x220 x221 x222 x223 x224 x225 x226 x227 x228 x229 x230 x231 x232 x233 x234 x235 x236 x237 x238 x239 x240 x241 x242 x243 x244 x245 x246 x247 x248 x249 x250 x251 x252 x253 x254 x255 x256 x257 x258 x259 x260 x261 x262 x263 x264 x265 x266 x267 x268 x269 x270 x271 x272 x273 x274 x275 x276 x277 x278 x279 x280 x281 x282 x283 x284 x285 x286 x287 x288 x289 x290 x291 x292 x293 x294 x295 x296 x297 x298 x299 x300 x301 x302 x303 x304 x305 x306 x307 x308 x309 x310 x311 x312 x313 : Value) (vm : Value) (gs' : List (List Tr)) (v' : Value) (W' : World), PSt w n0 s p gs' v' vm W' → Num3 W' bv x0 ((i : Int) + 1) (t : Int) → Q0 .normal ⟨#[.slice sd s.length cs, .slice ld ls.length cl, .slice qd nq cq, c3, c4, c5, c6, .pointer (some ⟨w.heap.size, 0, none⟩), c8, x9, .pointer (some ⟨n0, 0, none⟩), c11, .bool true, vm, .int .i64 (k : Int), .pointer (some ⟨bv, 0, none⟩), x16, x17, x18, x19, x20, x21, x22, x23, x24, x25, x26, x27, x28, x29, x30, x31, x32, x33, x34, c35, c36, c37, c38, c39, c40, c41, c42, c43, c44, c45, c46, c47, c48, c49, c50, c51, c52, c53, c54, c55, c56, c57, c58, c59, x60, x61, x62, x63, x64, x65, x66, x67, x68, x69, x70, x71, x72, x73, x74, x75, x76, x77, x78, x79, x80, x81, x82, x83, x84, x85, x86, x87, x88, x89, x90, x91, x92, x93, x94, x95, x96, x97, x98, x99, x100, x101, x102, x103, x104, x105, x106, x107, x108, x109, x110, x111, x112, x113, x114, x115, x116, x117, x118, x119, x120, x121, x122, x123, x124, x125, x126, x127, x128, x129, x130, x131, x132, x133, x134, x135, x136, x137, x138, x139, x140, x141, x142, x143, x144, x145, x146, x147, x148, x149, x150, x151, x152, x153, x154, x155, x156, x157, x158, x159, x160, x161, x162, x163, x164, x165, x166, x167, x168, x169, x170, x171, x172, x173, x174, x175, x176, x177, x178, x179, x180, x181, x182, x183, x184, x185, x186, x187, x188, x189, x190, x191, x192, x193, x194, x195, x196, x197, x198, x199, x200, x201, x202, x203, x204, x205, x206, x207, x208, x209, x210, x211, x212, x213, x214, x215, x216, x217, x218, x219, x220, x221, x222, x223, x224, x225, x226, x227, x228, x229, x230, x231, x232, x233, x234, x235, x236, x237, x238, x239, x240, x241, x242, x243, x244, x245, x246, x247, x248, x249, x250, x251, x252, x253, x254, x255, x256, x257, x258, x259, x260, x261, x262, x263, x264, x265, x266, x267, x268, x269, x270, x271, x272, x273, x274, x275, x276, x277, x278, x279, x280, x281, x282, x283, x284, x285, x286, x287, x288, x289, x290, x291, x292, x293, x294, x295, x296, x297, x298, x299, x300, x301, x302, x303, x304, x305, x306, x307, x308, x309, x310, x311, x312, x313], []⟩ W') :
    Code.wp Tryz.prog (codeOf Tryz.f4.body 28) Q0 ⟨#[.slice sd s.length cs, .slice ld ls.length cl, .slice qd nq cq, c3, c4, c5, c6, .pointer (some ⟨w.heap.size, 0, none⟩), c8, u9, .pointer (some ⟨n0, 0, none⟩), c11, .bool true, .slice (some ⟨bl, 0, none⟩) m mcap, .int .i64 (k : Int), .pointer (some ⟨bv, 0, none⟩), u16, u17, u18, u19, u20, u21, u22, .pointer (some ⟨bx, 0, none⟩), u24, u25, u26, u27, u28, u29, u30, u31, u32, u33, u34, c35, c36, c37, c38, c39, c40, c41, c42, c43, c44, c45, c46, c47, c48, c49, c50, c51, c52, c53, c54, c55, c56, c57, c58, c59, u60, u61, u62, u63, u64, u65, u66, u67, u68, u69, u70, u71, u72, u73, u74, u75, u76, u77, u78, u79, u80, u81, u82, u83, u84, u85, u86, u87, u88, u89, u90, u91, u92, u93, u94, u95, u96, u97, u98, u99, u100, u101, u102, u103, u104, u105, u106, u107, u108, u109, u110, u111, u112, u113, u114, u115, u116, u117, u118, u119, u120, u121, u122, u123, u124, u125, u126, u127, u128, u129, u130, u131, u132, u133, u134, u135, u136, u137, u138, u139, u140, u141, u142, u143, u144, u145, u146, u147, u148, u149, u150, u151, u152, u153, u154, u155, u156, u157, u158, u159, u160, u161, u162, u163, u164, u165, u166, u167, u168, u169, u170, u171, u172, u173, u174, u175, u176, u177, u178, u179, u180, u181, u182, u183, u184, u185, u186, u187, u188, u189, u190, u191, u192, u193, u194, u195, u196, u197, u198, u199, u200, u201, u202, u203, u204, u205, u206, u207, u208, u209, u210, u211, u212, u213, u214, u215, u216, u217, u218, u219, u220, u221, u222, u223, u224, u225, u226, u227, u228, u229, u230, u231, u232, u233, u234, u235, u236, u237, u238, u239, u240, u241, u242, u243, u244, u245, u246, u247, u248, u249, u250, u251, u252, u253, u254, u255, u256, u257, u258, u259, u260, u261, u262, u263, u264, u265, u266, u267, u268, u269, u270, u271, u272, u273, u274, u275, u276, u277, u278, u279, u280, u281, u282, u283, u284, u285, u286, u287, u288, u289, u290, u291, u292, u293, u294, u295, u296, u297, u298, u299, u300, u301, u302, u303, u304, u305, u306, u307, u308, u309, u310, u311, u312, u313], []⟩ W := by
  have HQ : Hid _ := hQ
  obtain ⟨y0, y1, y2, _, _, _⟩ := id hNum
  obtain ⟨xm, hS, hL⟩ := hh.2.1
  have hx := hL.1.trans (stepsL_len _)
  rcases hS with ⟨e1, _⟩ | ⟨g', cap', e1, hg1, hg2, hSh⟩
  · simp at e1
  obtain ⟨e2, e3, e4⟩ := Value.slice.inj e1
  obtain ⟨e5, _⟩ := Addr.mk.inj (Option.some.inj e2)
  subst e5 e4
  have hle := hSh.le
  obtain ⟨v1, W1, R1, S1, B1, O1⟩ := append_part (ys := xm.take i) (sheet_nil W) hSh 0 (fun j hj => by rw [Nat.zero_add]; simp at hj; rw [List.getElem?_take_of_lt (by omega)]) (by simp; omega) (by simp) (Nat.le_refl _) (some ⟨bl, 0, none⟩) mcap (fun _ => rfl) 40
  rw [List.length_take, Nat.min_eq_left (by omega)] at R1
  obtain ⟨⟨b0, b1⟩, q1, q2⟩ := hX.below B1
  obtain ⟨v2, W2, R2, S2, B2, O2⟩ := append_one S1 a1 a2 (btw (gat gs i) (gat gs t)).1.length (btw (gat gs i) (gat gs t)).2.length c1 c2 (by simp; omega) B1.size 40
  have B12 := B1.trans B2
  have hSh2 : Sheet W2 bl mcap xm := hSh.keep (B12.block bl hg2)
  have hNum2 := hNum.below B12
  obtain ⟨z0, z1, z2, _, _, _⟩ := id hNum2
  obtain ⟨v3, W3, R3, S3, B3, O3⟩ := append_part (ys := xm.drop t) S2 hSh2 t (fun j hj => by rw [List.getElem?_drop]) (by simp; omega) (by simp; omega) B12.size (if mcap = t then some ⟨bl, 0, none⟩ else some ⟨bl, t * 2, none⟩) (mcap - t) (fun h => by rw [if_neg (by simp at h; omega)]) 40
  rw [List.length_drop, show xm.length - t = m - t by omega] at R3
  have B13 := B12.trans B3
  have hL' : LaysV W xm (stepsL gs) := hL
  have hlay : LaysV W3 ((xm.take i ++ [(Value.slice a1 (btw (gat gs i) (gat gs t)).1.length c1, Value.slice a2 (btw (gat gs i) (gat gs t)).2.length c2)]) ++ xm.drop t) (stepsL (gs.take (i + 1) ++ gs.drop t)) := by
    rw [stepsL_squash gs (i + 1) t (gat gs i) (gat gs t) (by omega) hit (by rw [Nat.add_sub_cancel]; exact gat_eq (by omega)) (gat_eq (by omega)), Nat.add_sub_cancel, List.append_assoc, List.singleton_append]
    exact (hL'.rows (RowsOn.of_below B13)).cut ⟨a1, c1, a2, c2, rfl, hX.2.1.below B13, hX.2.2.below B13⟩ i t (by omega) (by omega)
  have Hfin : Hid (PSt w n0 s p (gs.take (i + 1) ++ gs.drop t) v v3 W3) := ⟨psNext hh B13 (by simpa using S3) (by simpa using hlay), by rw [sq_len hit (by omega)]; omega, by rw [sq_low hit (by omega) (by omega)]; rw [← gat_eq (by omega)]; exact h0⟩
  have HNum3' : Hid (Num3 W3 bv x0 ((i : Int) + 1) (t : Int)) := hNum.below B13
  have r1 : Hid _ := R1
  have r2 : Hid _ := R2
  have r3 : Hid _ := R3
  have hbvW1 : W1.cell? ⟨bv, 2, none⟩ = some (.int .i64 (t : Int)) := ((hNum.below B1).2.2.1)
  have hmc : m ≤ mcap := by omega
  have k1 : (i : Int) ≤ (mcap : Int) := by omega
  have k2 : (0 : Int) ≤ (i : Int) := by omega
  have k3 : (t : Int) ≤ (m : Int) := by omega
  have k4 : (0 : Int) ≤ (t : Int) := by omega
  have k5 := wrapN i (by omega)
  clear hQ hm hh h0 hNum hX hL hSh hSh2 hL' hlay S1 S2 S3 B1 B2 B3 B12 B13 O1 O2 O3 R1 R2 R3 q1 q2 e1 e2 e3 hx hle hNum2 hg1 hg2 z0 z1
  conv => arg 2; whnf
  by_cases hct : mcap = t
  · have hmt : m = t := by omega
    rw [if_pos hct] at r3
    subst hct hmt
    rw [Nat.sub_self] at r3
    go_wp2_with (first
      | (at_builtin; refine wpList_append_eq rfl _ _ 40 rfl rfl rfl r1.out ?_)
      | (at_builtin; refine wpList_append_eq rfl _ _ 40 rfl rfl rfl r2.out ?_)
      | (at_builtin; refine wpList_append_eq rfl _ _ 40 rfl rfl rfl r3.out ?_))
    first | exact HQ.out _ _ _ _ _ _ Hfin.out HNum3'.out | (apply HQ.out; exact Hfin.out; exact HNum3'.out)
  · rw [if_neg hct] at r3
    have hct' : ¬ (mcap : Int) = (t : Int) := by omega
    go_wp2_with (first
      | (at_builtin; refine wpList_append_eq rfl _ _ 40 rfl rfl rfl r1.out ?_)
      | (at_builtin; refine wpList_append_eq rfl _ _ 40 rfl rfl rfl r2.out ?_)
      | (at_builtin; refine wpList_append_eq rfl _ _ 40 rfl rfl rfl r3.out ?_))
    first | exact HQ.out _ _ _ _ _ _ Hfin.out HNum3'.out | (apply HQ.out; exact Hfin.out; exact HNum3'.out)
end Go.Proofs.YtnlcfnpcjkcdmadGreatDoor
