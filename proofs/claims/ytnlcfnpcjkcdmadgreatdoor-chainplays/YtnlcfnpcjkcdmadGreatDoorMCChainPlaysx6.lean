import Derived.Test.YtnlcfnpcjkcdmadGreatDoorMCChainPlaysx5
import Derived.Deep.RegionLaw
import Derived.Deep.RegionHeld3
import Derived.Deep.DeepCutAuto
import Derived.Deep.CutBlock
import Derived.Test.YtnlcfnpcjkcdmadGreatDoorMCChainPlaysx4

/- ChainPlays' round: layers are made one. -/
namespace Go.Proofs.YtnlcfnpcjkcdmadGreatDoor
open Go Go.RowKit Go.Proofs
set_option synthInstance.maxSize 1000

/-- R.Then of layers between three sets -/
theorem RThenGood_any (a1 a2 a3 a4 : Option Addr) (c1 c2 c3 c4 : Nat) (a b c : List Tr) (w : World) (h1 : SlT w a1 (lessL b a)) (h2 : SlT w a2 (lessL a b)) (h3 : SlT w a3 (lessL c b)) (h4 : SlT w a4 (lessL b c)) (sa : IsSet a) (sb : IsSet b) (sc : IsSet c) :
    Calls Tryz.prog 19 #[.agg #[.slice a1 (lessL b a).length c1, .slice a2 (lessL a b).length c2], .agg #[.slice a3 (lessL c b).length c3, .slice a4 (lessL b c).length c4]] w fun e w' => RowKit.Below w.heap.size w w' ∧ ∃ r1 t1 r2 t2, e = .returned (.tuple #[.agg #[.slice r1 (lessL c a).length t1, .slice r2 (lessL a c).length t2], .int .i64 0]) ∧ SlT w' r1 (lessL c a) ∧ SlT w' r2 (lessL a c) := by
  have h0 := then_btw sa sb sc
  refine (RThen_any a1 a2 a3 a4 c1 c2 c3 c4 (lessL b a) (lessL a b) (lessL c b) (lessL b c) w h1 h2 h3 h4 (lessSet sb) (lessSet sa) (lessSet sc) (lessSet sb) (btw_check sa sb) (btw_check sb sc)).mono ?_
  rintro e w' ⟨hb', m1, am, cm, m2, an, cn, rfl, g1, g2, hA⟩
  obtain ⟨rfl, rfl⟩ := then_btw_ans sa sb sc hA
  exact ⟨hb', am, cm, an, cn, by rw [h0], g1, g2⟩

attribute [local go_sem] eql_errV neq_errV guard_errV

set_option maxHeartbeats 32000000 in
set_option maxRecDepth 1000000 in
theorem playsSquash (Q0 : Exit → Act → World → Prop) (u9 u12 u16 u18 u19 u20 u21 u22 u23 u24 u25 u26 u27 u28 u29 u30 u31 u32 u33 u34 u60 u61 u62 u63 u64 u65 u66 u67 u68 u69 u70 u71 u72 u73 u74 u75 u76 u77 u78 u79 u80 u81 u82 u83 u84 u85 u86 u87 u88 u89 u90 u91 u92 u93 u94 u95 u96 u97 u98 u99 u100 u101 u102 u103 u104 u105 u106 u107 u108 u109 u110 u111 u112 u113 u114 u115 u116 u117 u118 u119 u120 u121 u122 u123 u124 u125 u126 u127 u128 u129 u130 u131 u132 u133 u134 u135 u136 u137 u138 u139 u140 u141 u142 u143 u144 u145 u146 u147 u148 u149 u150 u151 u152 u153 u154 u155 u156 u157 u158 u159 u160 u161 u162 u163 u164 u165 u166 u167 u168 u169 u170 u171 u172 u173 u174 u175 u176 u177 u178 u179 u180 u181 u182 u183 u184 u185 u186 u187 u188 u189 u190 u191 u192 u193 u194 u195 u196 u197 u198 u199 u200 u201 u202 u203 u204 u205 u206 u207 u208 u209 u210 u211 u212 u213 u214 u215 u216 u217 u218 u219 u220 u221 u222 u223 u224 u225 u226 u227 u228 u229 u230 u231 u232 u233 u234 u235 u236 u237 u238 u239 u240 u241 u242 u243 u244 u245 u246 u247 u248 u249 u250 u251 u252 u253 u254 u255 u256 u257 u258 u259 u260 u261 u262 u263 u264 u265 u266 u267 u268 u269 u270 u271 u272 u273 u274 u275 u276 u277 u278 u279 u280 u281 u282 u283 u284 u285 u286 u287 u288 u289 u290 u291 u292 u293 u294 u295 u296 u297 u298 u299 u300 u301 u302 u303 u304 u305 u306 u307 u308 u309 u310 u311 u312 u313 : Value) (c3 c4 c5 c6 c8 c11 c35 c36 c37 c38 c39 c40 c41 c42 c43 c44 c45 c46 c47 c48 c49 c50 c51 c52 c53 c54 c55 c56 c57 c58 c59 : Value) (sd ld qd : Option Addr) (cs cl cq k n0 nq bv : Nat) (s : List Tr) (ls : List Ly) (p : Pt) (gs : List (List Tr)) (v : Value) (x0 x1 x2 : Int) (w W : World) (mad td : Option Addr) (m mcap ct : Nat)
    (hg : errVar w) (hm : gs.length = m + 1) (hst : PSt w n0 s p gs v (.slice mad m mcap) W) (hNum : Num3 W bv x0 x1 x2) (hbv : bv ≠ n0) (hbo : v.ownBlock ≠ some bv) (hbm : Value.ownBlock (.slice mad m mcap) ≠ some bv)
    (hQ : ∀ (x9 x16 x17 x18 x19 x20 x21 x22 x23 x24 x25 x26 x27 x28 x29 x30 x31 x32 x33 x34 x60 x61 x62 x63 x64 x65 x66 x67 x68 x69 x70 x71 x72 x73 x74 x75 x76 x77 x78 x79 x80 x81 x82 x83 x84 x85 x86 x87 x88 x89 x90 x91 x92 x93 x94 x95 x96 x97 x98 x99 x100 x101 x102 x103 x104 x105 x106 x107 x108 x109 x110 x111 x112 x113 x114 x115 x116 x117 x118 x119 x120 x121 x122 x123 x124 x125 x126 x127 x128 x129 x130 x131 x132 x133 x134 x135 x136 x137 x138 x139 x140 x141 x142 x143 x144 x145 x146 x147 x148 x149 x150 x151 x152 x153 x154 x155 x156 x157 x158 x159 x160 x161 x162 x163 x164 x165 x166 x167 x168 x169 x170 x171 x172 x173 x174 x175 x176 x177 x178 x179 x180 x181 x182 x183 x184 x185 x186 x187 x188 x189 x190 x191 x192 x193 x194 x195 x196 x197 x198 x199 x200 x201 x202 x203 x204 x205 x206 x207 x208 x209 x210 x211 x212 x213 x214 x215 x216 x217 x218 x219 x220 x221 x222 x223 x224 x225 x226 x227 x228 x229 x230 x231 x232 x233 x234 x235 x236 x237 x238 x239 x240 x241 x242 x243 x244 x245 x246 x247 x248 x249 x250 x251 x252 x253 x254 x255 x256 x257 x258 x259 x260 x261 x262 x263 x264 x265 x266 x267 x268 x269 x270 x271 x272 x273 x274 x275 x276 x277 x278 x279 x280 x281 x282 x283 x284 x285 x286 x287 x288 x289 x290 x291 x292 x293 x294 x295 x296 x297 x298 x299 x300 x301 x302 x303 x304 x305 x306 x307 x308 x309 x310 x311 x312 x313 : Value) (vm : Value) (gs' : List (List Tr)) (v' : Value) (W' : World), PSt w n0 s p gs' v' vm W' → Num3 W' bv x0 x1 x2 → Q0 .normal ⟨#[.slice sd s.length cs, .slice ld ls.length cl, .slice qd nq cq, c3, c4, c5, c6, .pointer (some ⟨w.heap.size, 0, none⟩), c8, x9, .pointer (some ⟨n0, 0, none⟩), c11, .bool true, vm, .int .i64 (k : Int), .pointer (some ⟨bv, 0, none⟩), x16, x17, x18, x19, x20, x21, x22, x23, x24, x25, x26, x27, x28, x29, x30, x31, x32, x33, x34, c35, c36, c37, c38, c39, c40, c41, c42, c43, c44, c45, c46, c47, c48, c49, c50, c51, c52, c53, c54, c55, c56, c57, c58, c59, x60, x61, x62, x63, x64, x65, x66, x67, x68, x69, x70, x71, x72, x73, x74, x75, x76, x77, x78, x79, x80, x81, x82, x83, x84, x85, x86, x87, x88, x89, x90, x91, x92, x93, x94, x95, x96, x97, x98, x99, x100, x101, x102, x103, x104, x105, x106, x107, x108, x109, x110, x111, x112, x113, x114, x115, x116, x117, x118, x119, x120, x121, x122, x123, x124, x125, x126, x127, x128, x129, x130, x131, x132, x133, x134, x135, x136, x137, x138, x139, x140, x141, x142, x143, x144, x145, x146, x147, x148, x149, x150, x151, x152, x153, x154, x155, x156, x157, x158, x159, x160, x161, x162, x163, x164, x165, x166, x167, x168, x169, x170, x171, x172, x173, x174, x175, x176, x177, x178, x179, x180, x181, x182, x183, x184, x185, x186, x187, x188, x189, x190, x191, x192, x193, x194, x195, x196, x197, x198, x199, x200, x201, x202, x203, x204, x205, x206, x207, x208, x209, x210, x211, x212, x213, x214, x215, x216, x217, x218, x219, x220, x221, x222, x223, x224, x225, x226, x227, x228, x229, x230, x231, x232, x233, x234, x235, x236, x237, x238, x239, x240, x241, x242, x243, x244, x245, x246, x247, x248, x249, x250, x251, x252, x253, x254, x255, x256, x257, x258, x259, x260, x261, x262, x263, x264, x265, x266, x267, x268, x269, x270, x271, x272, x273, x274, x275, x276, x277, x278, x279, x280, x281, x282, x283, x284, x285, x286, x287, x288, x289, x290, x291, x292, x293, x294, x295, x296, x297, x298, x299, x300, x301, x302, x303, x304, x305, x306, x307, x308, x309, x310, x311, x312, x313], []⟩ W') :
    Code.wp Tryz.prog (codeOf Tryz.f4.body 17) Q0 ⟨#[.slice sd s.length cs, .slice ld ls.length cl, .slice qd nq cq, c3, c4, c5, c6, .pointer (some ⟨w.heap.size, 0, none⟩), c8, u9, .pointer (some ⟨n0, 0, none⟩), c11, u12, .slice mad m mcap, .int .i64 (k : Int), .pointer (some ⟨bv, 0, none⟩), u16, .slice td (gat gs m).length ct, u18, u19, u20, u21, u22, u23, u24, u25, u26, u27, u28, u29, u30, u31, u32, u33, u34, c35, c36, c37, c38, c39, c40, c41, c42, c43, c44, c45, c46, c47, c48, c49, c50, c51, c52, c53, c54, c55, c56, c57, c58, c59, u60, u61, u62, u63, u64, u65, u66, u67, u68, u69, u70, u71, u72, u73, u74, u75, u76, u77, u78, u79, u80, u81, u82, u83, u84, u85, u86, u87, u88, u89, u90, u91, u92, u93, u94, u95, u96, u97, u98, u99, u100, u101, u102, u103, u104, u105, u106, u107, u108, u109, u110, u111, u112, u113, u114, u115, u116, u117, u118, u119, u120, u121, u122, u123, u124, u125, u126, u127, u128, u129, u130, u131, u132, u133, u134, u135, u136, u137, u138, u139, u140, u141, u142, u143, u144, u145, u146, u147, u148, u149, u150, u151, u152, u153, u154, u155, u156, u157, u158, u159, u160, u161, u162, u163, u164, u165, u166, u167, u168, u169, u170, u171, u172, u173, u174, u175, u176, u177, u178, u179, u180, u181, u182, u183, u184, u185, u186, u187, u188, u189, u190, u191, u192, u193, u194, u195, u196, u197, u198, u199, u200, u201, u202, u203, u204, u205, u206, u207, u208, u209, u210, u211, u212, u213, u214, u215, u216, u217, u218, u219, u220, u221, u222, u223, u224, u225, u226, u227, u228, u229, u230, u231, u232, u233, u234, u235, u236, u237, u238, u239, u240, u241, u242, u243, u244, u245, u246, u247, u248, u249, u250, u251, u252, u253, u254, u255, u256, u257, u258, u259, u260, u261, u262, u263, u264, u265, u266, u267, u268, u269, u270, u271, u272, u273, u274, u275, u276, u277, u278, u279, u280, u281, u282, u283, u284, u285, u286, u287, u288, u289, u290, u291, u292, u293, u294, u295, u296, u297, u298, u299, u300, u301, u302, u303, u304, u305, u306, u307, u308, u309, u310, u311, u312, u313], []⟩ W := by
  have HQ : Hid _ := hQ
  have Hg : Hid (errVar w) := hg
  have Hst : Hid (PSt w n0 s p gs v (.slice mad m mcap) W) := hst
  have HNum : Hid (Num3 W bv x0 x1 x2) := hNum
  obtain ⟨y0, y1, y2, _, _, _⟩ := id hNum
  have hbvW : bv < W.heap.size := World.block_lt_of_cell? _ _ y0
  have hm30 : m ≤ 30 := by have := hst.2.1; omega
  have Hmm : Hid (gs.length = m + 1) := hm
  have hbp : Hid (bv ≠ n0 ∧ v.ownBlock ≠ some bv ∧ Value.ownBlock (.slice mad m mcap) ≠ some bv) := ⟨hbv, hbo, hbm⟩
  have hbA := balloc W (.cells #[.slice none 0 0, .slice none 0 0] 31)
  conv => arg 2; whnf
  by_cases hr : 1 ≤ x1 ∧ x2 ≤ (m : Int) ∧ x1 ≤ x2
  · obtain ⟨r1, r2, r3⟩ := hr
    obtain ⟨i, rfl⟩ : ∃ i : Nat, x1 = (i : Int) + 1 := ⟨(x1 - 1).toNat, by omega⟩
    obtain ⟨t, rfl⟩ : ∃ t : Nat, x2 = (t : Int) := ⟨x2.toNat, by omega⟩
    have hit : i + 1 ≤ t := by omega
    have htm : t ≤ m := by omega
    obtain ⟨bl, cap', a1, c1, a2, c2, e1, _, hcap, d0, d1, q1, q2⟩ := hst.1.2.1.step (gat_eq (k := i) (by omega)) (gat_eq (k := i + 1) (by omega))
    obtain ⟨e2, e3, e4⟩ := Value.slice.inj e1
    subst e2 e4
    have hcap2 : m ≤ mcap := by omega
    have hset : Hid (∀ j, j < gs.length → IsSet (gat gs j)) := fun j hj => hst.1.1.set (gat_eq hj)
    have HSt : Hid (∀ (W' : World) (j : Nat), RowKit.Below W.heap.size W W' → j + 1 < gs.length → ∃ a1 c1 a2 c2, W'.cell? ⟨bl, j * 2, none⟩ = some (.slice a1 (lessL (gat gs (j + 1)) (gat gs j)).length c1) ∧ W'.cell? ⟨bl, j * 2 + 1, none⟩ = some (.slice a2 (lessL (gat gs j) (gat gs (j + 1))).length c2) ∧ SlT W' a1 (lessL (gat gs (j + 1)) (gat gs j)) ∧ SlT W' a2 (lessL (gat gs j) (gat gs (j + 1)))) := fun W' j hb hj => by
      obtain ⟨bl', cap'', a1, c1, a2, c2, e1, _, _, d0, d1, q1, q2⟩ := (hst.below hb).1.2.1.step (gat_eq (k := j) (by omega)) (gat_eq hj)
      obtain ⟨e2, _, _⟩ := Value.slice.inj e1
      obtain ⟨rfl, _⟩ := Addr.mk.inj (Option.some.inj e2)
      exact ⟨a1, c1, a2, c2, d0, d1, q1, q2⟩
    have hone : Hid (OneAt (W.alloc (.cells #[.slice a1 (lessL (gat gs (i + 1)) (gat gs i)).length c1, .slice a2 (lessL (gat gs i) (gat gs (i + 1))).length c2] 31)) W.heap.size (gat gs i) (gat gs (i + 1))) := OneAt.new q1 q2
    have hB0 : Hid (RowKit.Below W.heap.size W (W.alloc (.cells #[.slice a1 (lessL (gat gs (i + 1)) (gat gs i)).length c1, .slice a2 (lessL (gat gs i) (gat gs (i + 1))).length c2] 31))) := balloc _ _
    have HQs := fun W (h : PSt w n0 s p gs v (.slice (some ⟨bl, 0, none⟩) m mcap) W) => Squash_any n0 v gs i t W h.1.1 (by omega) hit (by omega)
    have E0 := fun W (h : RowKit.Below w.heap.size w W) => SameErrorT 0 W (hg.below h)
    rw [show errV 0 = .nilIface from rfl] at E0
    have Hit : Hid (i + 1 ≤ t ∧ t ≤ m) := ⟨hit, htm⟩
    have z1 : decide ((i : Int) + 1 < 1) = false := by simp; omega
    have z2 : decide (m < t) = false := by simp; omega
    have z3 : decide ((t : Int) < (i : Int) + 1) = false := by simp; omega
    have z4 : (0 : Int) ≤ (i : Int) := by omega
    have z5 : (i : Int) < (m : Int) := by omega
    have z6 := wrapN i (by omega)
    have z7 : t ≤ 1000 := by omega
    have hblW : bl < W.heap.size := World.block_lt_of_cell? _ _ d0
    clear hQ hg hst hNum hm hbv hbo hbm hbA r1 r2 r3 e1 e3 q1 q2
    go_wp2_with fail
    go_loopw [9, 24] (fun e kk wr => ∃ j : Nat, i + 1 ≤ j ∧ j ≤ t ∧ e = .int .i64 0 ∧ kk = .int .i64 j ∧ Hid (OneAt wr W.heap.size (gat gs i) (gat gs j)) ∧ Hid (RowKit.Below W.heap.size W wr)) (fun _ kk wr => t - (intOf kk).toNat)
    case atStart => exact ⟨i + 1, Nat.le_refl _, Hit.out.1, rfl, by go_num, hone, hB0⟩
    case round =>
      obtain ⟨j, hj1, hj2, rfl, rfl, hO, hbr⟩ := hrel
      have hNr := HNum.out.below hbr.out
      obtain ⟨n0', n1', n2', _, _, _⟩ := id hNr
      by_cases hjt : j < t
      · obtain ⟨p1, u1, p2, u2, ⟨b0, b1⟩, f0, f1, s1, s2⟩ := hO.out
        obtain ⟨a3, c3', a4, c4', m0, m1, s3, s4⟩ := HSt.out wr j hbr.out (by have := Hit.out; have := Hmm.out; omega)
        have HT := RThenGood_any p1 p2 a3 a4 u1 u2 c3' c4' (gat gs i) (gat gs j) (gat gs (j + 1)) wr.drew (s1.below (RowKit.Below.refl _ _).drew) (s2.below (RowKit.Below.refl _ _).drew) (s3.below (RowKit.Below.refl _ _).drew) (s4.below (RowKit.Below.refl _ _).drew) (hset.out _ (by have := Hit.out; have := Hmm.out; omega)) (hset.out _ (by have := Hit.out; have := Hmm.out; omega)) (hset.out _ (by have := Hit.out; have := Hmm.out; omega))
        have hz1 : W.heap.size < wr.heap.size := World.block_lt_of_cell? _ _ b0
        have hPut := fun (W' : World) (hC : ChainAt W' n0 v gs) (r1 r2 : Option Addr) (t1 t2 : Nat) (hB : BoxL W' W.heap.size (.slice p1 (lessL (gat gs j) (gat gs i)).length u1) (.slice p2 (lessL (gat gs i) (gat gs j)).length u2)) g0 g1 (h1 : SlT W' r1 _) (h2 : SlT W' r2 _) => one_put (g := gat gs i) (u := gat gs (j + 1)) (q1 := t1) (q2 := t2) hC (show n0 ≠ W.heap.size by have := Hst.out.1.1.lt; omega) (fun e => by have := (Hst.out.1.1.own _ e).2; omega) ⟨p1, _, u1, rfl⟩ ⟨p2, _, u2, rfl⟩ hB g0 g1 h1 h2
        have HPut : Hid _ := hPut
        have i0' : (0 : Int) ≤ (j : Int) := by omega
        have i1 : (j : Int) < (t : Int) := by omega
        have i2 : (j : Int) < (m : Int) := by have := Hit.out; omega
        have hmb := World.block_lt_of_cell? _ _ m0
        clear s1 s2 s3 s4 hPut hNr HQs E0
        generalize lessL (gat gs (j + 1)) (gat gs i) = Z1 at *
        generalize lessL (gat gs i) (gat gs (j + 1)) = Z2 at *
        generalize lessL (gat gs j) (gat gs i) = X1 at *
        generalize lessL (gat gs i) (gat gs j) = X2 at *
        generalize lessL (gat gs (j + 1)) (gat gs j) = Y1 at *
        generalize lessL (gat gs j) (gat gs (j + 1)) = Y2 at *
        go_wp2_with fail
        refine wp_region_noPanic ?_
        go_region_law (first
          | (go_simp; go_at_call 19; refine HT.mono ?_; rintro e w3 ⟨hb3, r1, t1, r2, t2, rfl, g1, g2⟩; have hb3' : Hid (RowKit.Below wr.heap.size wr w3) := ((RowKit.Below.refl _ wr).drew.trans hb3); have x0 : w3.cell? ⟨W.heap.size, 0, none⟩ = some (.slice p1 X1.length u1) := (hb3'.out.cell (p := ⟨W.heap.size, 0, none⟩) hz1).trans b0; have x1 : w3.cell? ⟨W.heap.size, 1, none⟩ = some (.slice p2 X2.length u2) := (hb3'.out.cell (p := ⟨W.heap.size, 1, none⟩) hz1).trans b1; have x2 : w3.frozen? ⟨W.heap.size, 0, none⟩ = false := (hb3'.out.frozen (p := ⟨W.heap.size, 0, none⟩) hz1).trans f0; have x3 : w3.frozen? ⟨W.heap.size, 1, none⟩ = false := (hb3'.out.frozen (p := ⟨W.heap.size, 1, none⟩) hz1).trans f1; have Hfin : Hid _ := HPut.out w3 (((Hst.out.below hbr.out).below hb3'.out).1.1) r1 r2 t1 t2 ⟨x0, x1⟩ x2 x3 g1 g2; have Hbel : Hid (RowKit.Below W.heap.size W w3) := hbr.out.trans (hb3'.out.mono hbr.out.size); clear g1 g2 hb3))
        all_goals
          refine NoPanic.normal ?_
          go_wp2_with fail
          go_roundw
          case rel => exact ⟨j + 1, by omega, by omega, rfl, by go_num, Hfin.out.2, below_two Hbel.out (Nat.le_refl _) _ _⟩
          case measure => simp [intOf]; omega
      · obtain rfl : j = t := by omega
        obtain ⟨p1, u1, p2, u2, hBx, _, _, s1, s2⟩ := hO.out
        have HX : Hid (XAt wr W.heap.size p1 p2 u1 u2 (btw (gat gs i) (gat gs j))) := ⟨hBx, s1, s2⟩
        have Hstr : Hid (PSt w n0 s p gs v (.slice (some ⟨bl, 0, none⟩) m mcap) wr) := Hst.out.below hbr.out
        have HNr : Hid (Num3 wr bv x0 ((i : Int) + 1) (j : Int)) := hNr
        clear hNr hBx s1 s2 hO
        go_wp2_with fail
        refine (HQs _ Hstr.out).mono ?_
        rintro e w3 ⟨rfl, v', hsq⟩
        have Hh3 : Hid (PSh w n0 p (gs.take (i + 1) ++ gs.drop j) gs v' (.slice (some ⟨bl, 0, none⟩) m mcap) w3) := Hstr.out.1.chain hsq.1 hsq.2.1 (Or.inl hsq.2.2)
        have HX3 : Hid (XAt w3 W.heap.size p1 p2 u1 u2 (btw (gat gs i) (gat gs j))) := HX.out.off hsq.2.1 (by have := Hst.out.1.1.lt; omega) (fun e => by have := (Hst.out.1.1.own _ e).2; omega)
        have HN3 : Hid (Num3 w3 bv x0 ((i : Int) + 1) (j : Int)) := HNr.out.off hsq.2.1 hbp.out.1 hbp.out.2.1
        clear hsq HX HNr HQs n0' n1' n2'
        (try dsimp only)
        go_wp2_with fail
        refine (E0 _ Hh3.out.2.2.2.1).mono ?_
        rintro e w4 ⟨rfl, hb4⟩
        have Hh4 : Hid (PSh w n0 p (gs.take (i + 1) ++ gs.drop j) gs v' (.slice (some ⟨bl, 0, none⟩) m mcap) w4) := Hh3.out.below hb4
        have HX4 : Hid (XAt w4 W.heap.size p1 p2 u1 u2 (btw (gat gs i) (gat gs j))) := HX3.out.below hb4
        have HN4 : Hid (Num3 w4 bv x0 ((i : Int) + 1) (j : Int)) := HN3.out.below hb4
        clear hb4 Hh3 HX3 HN3 E0
        (try dsimp only)
        go_upto_if 144 with fail
        refine wp_cond_true rfl ?_
        refine playsSquash2 _ _ _ _ _ _ _ _ _ _ _ _ _ _ _ _ _ _ _ _ _ _ _ _ _ _ _ _ _ _ _ _ _ _ _ _ _ _ _ _ _ _ _ _ _ _ _ _ _ _ _ _ _ _ _ _ _ _ _ _ _ _ _ _ _ _ _ _ _ _ _ _ _ _ _ _ _ _ _ _ _ _ _ _ _ _ _ _ _ _ _ _ _ _ _ _ _ _ _ _ _ _ _ _ _ _ _ _ _ _ _ _ _ _ _ _ _ _ _ _ _ _ _ _ _ _ _ _ _ _ _ _ _ _ _ _ _ _ _ _ _ _ _ _ _ _ _ _ _ _ _ _ _ _ _ _ _ _ _ _ _ _ _ _ _ _ _ _ _ _ _ _ _ _ _ _ _ _ _ _ _ _ _ _ _ _ _ _ _ _ _ _ _ _ _ _ _ _ _ _ _ _ _ _ _ _ _ _ _ _ _ _ _ _ _ _ _ _ _ _ _ _ _ _ _ _ _ _ _ _ _ _ _ _ _ _ _ _ _ _ _ _ _ _ _ _ _ _ _ _ _ _ _ _ _ _ _ _ _ _ _ _ _ _ _ _ _ _ _ _ _ _ _ _ _ _ _ _ _ _ _ _ _ _ _ _ _ _ _ _ _ _ _ _ _ _ _ _ _ _ _ _ _ _ _ sd ld qd cs cl cq k n0 nq bv s ls p gs v' x0 w w4 p1 p2 bl i j m mcap u1 u2 W.heap.size Hmm.out hm30 Hit.out.1 Hit.out.2 Hh4.out Hst.out.2.2 HN4.out HX4.out ?_
        intros
        first | (apply HQ.out <;> assumption) | skip
  · have HP := fun W (h : PSt w n0 s p gs v (.slice mad m mcap) W) => SquashBad_any n0 v gs x1 x2 W h.1.1 (by omega) (by rw [hm, Nat.add_sub_cancel]; omega)
    have E1 := fun W (h : RowKit.Below w.heap.size w W) => SameErrorT 1 W (hg.below h)
    rw [show errV 1 = .iface 89 (.int .i64 1) from rfl] at E1
    have Hst1 : Hid (PSt w n0 s p gs v (.slice mad m mcap) (W.alloc (.cells #[.slice none 0 0, .slice none 0 0] 31))) := Hst.out.below hbA
    have HNum1 : Hid (Num3 (W.alloc (.cells #[.slice none 0 0, .slice none 0 0] 31)) bv x0 x1 x2) := HNum.out.below hbA
    have Hr : Hid (¬ (1 ≤ x1 ∧ x2 ≤ (m : Int) ∧ x1 ≤ x2)) := hr
    clear hQ hg hst hNum hm hbv hbo hbm hbA hr Hst HNum
    by_cases h1 : x1 < 1
    · have t1 : decide (x1 < 1) = true := by simpa using h1
      go_wp2_with fail
      refine (HP _ Hst1.out).mono ?_
      rintro e w2 ⟨rfl, rfl⟩
      clear HP
      (try dsimp only)
      go_wp2_with fail
      refine (E1 _ Hst1.out.1.2.2.2.1).mono ?_
      rintro e w3 ⟨rfl, hb3⟩
      have Hfin : Hid (PSt w n0 s p gs v (.slice mad m mcap) w3) := Hst1.out.below hb3
      have HNum3' : Hid (Num3 w3 bv x0 x1 x2) := HNum1.out.below hb3
      clear hb3
      (try dsimp only)
      go_wp2_with fail
      first | exact HQ.out _ _ _ _ _ _ Hfin.out HNum3'.out | (apply HQ.out; exact Hfin.out; exact HNum3'.out)
    · have t1 : decide (x1 < 1) = false := by simpa using h1
      by_cases h2 : (m : Int) < x2
      · have t2 : decide ((m : Int) < x2) = true := by simpa using h2
        go_wp2_with fail
        refine (HP _ Hst1.out).mono ?_
        rintro e w2 ⟨rfl, rfl⟩
        clear HP
        (try dsimp only)
        go_wp2_with fail
        refine (E1 _ Hst1.out.1.2.2.2.1).mono ?_
        rintro e w3 ⟨rfl, hb3⟩
        have Hfin : Hid (PSt w n0 s p gs v (.slice mad m mcap) w3) := Hst1.out.below hb3
        have HNum3' : Hid (Num3 w3 bv x0 x1 x2) := HNum1.out.below hb3
        clear hb3
        (try dsimp only)
        go_wp2_with fail
        first | exact HQ.out _ _ _ _ _ _ Hfin.out HNum3'.out | (apply HQ.out; exact Hfin.out; exact HNum3'.out)
      · have t2 : decide ((m : Int) < x2) = false := by simpa using h2
        have h3 : x2 < x1 := by have := Hr.out; omega
        have t3 : decide (x2 < x1) = true := by simpa using h3
        go_wp2_with fail
        refine (HP _ Hst1.out).mono ?_
        rintro e w2 ⟨rfl, rfl⟩
        clear HP
        (try dsimp only)
        go_wp2_with fail
        refine (E1 _ Hst1.out.1.2.2.2.1).mono ?_
        rintro e w3 ⟨rfl, hb3⟩
        have Hfin : Hid (PSt w n0 s p gs v (.slice mad m mcap) w3) := Hst1.out.below hb3
        have HNum3' : Hid (Num3 w3 bv x0 x1 x2) := HNum1.out.below hb3
        clear hb3
        (try dsimp only)
        go_wp2_with fail
        first | exact HQ.out _ _ _ _ _ _ Hfin.out HNum3'.out | (apply HQ.out; exact Hfin.out; exact HNum3'.out)
end Go.Proofs.YtnlcfnpcjkcdmadGreatDoor

/- ChainPlays' round: the switch. -/
namespace Go.Proofs.YtnlcfnpcjkcdmadGreatDoor
open Go Go.RowKit Go.Proofs
set_option synthInstance.maxSize 1000

attribute [local go_sem] eql_errV neq_errV guard_errV

set_option maxHeartbeats 32000000 in
set_option maxRecDepth 1000000 in
theorem playsSwitch (Q0 : Exit → Act → World → Prop) (u9 u12 u16 u18 u19 u20 u21 u22 u23 u24 u25 u26 u27 u28 u29 u30 u31 u32 u33 u34 u60 u61 u62 u63 u64 u65 u66 u67 u68 u69 u70 u71 u72 u73 u74 u75 u76 u77 u78 u79 u80 u81 u82 u83 u84 u85 u86 u87 u88 u89 u91 u92 u93 u94 u95 u96 u97 u98 u99 u100 u101 u102 u103 u104 u105 u106 u107 u108 u109 u110 u111 u112 u113 u114 u115 u116 u117 u118 u119 u120 u121 u122 u123 u124 u125 u126 u127 u128 u129 u130 u131 u132 u133 u134 u135 u136 u137 u138 u139 u140 u141 u142 u143 u144 u145 u146 u147 u148 u149 u150 u151 u152 u153 u154 u155 u156 u157 u158 u159 u160 u161 u162 u163 u164 u165 u166 u167 u168 u169 u170 u171 u172 u173 u174 u175 u176 u177 u178 u179 u180 u181 u182 u183 u184 u185 u186 u187 u188 u189 u190 u191 u192 u193 u194 u195 u196 u197 u198 u199 u200 u201 u202 u203 u204 u205 u206 u207 u208 u209 u210 u211 u212 u213 u214 u215 u216 u217 u218 u219 u220 u221 u222 u223 u224 u225 u226 u227 u228 u229 u230 u231 u232 u233 u234 u235 u236 u237 u238 u239 u240 u241 u242 u243 u244 u245 u246 u247 u248 u249 u250 u251 u252 u253 u254 u255 u256 u257 u258 u259 u260 u261 u262 u263 u264 u265 u266 u267 u268 u269 u270 u271 u272 u273 u274 u275 u276 u277 u278 u279 u280 u281 u282 u283 u284 u285 u286 u287 u288 u289 u290 u291 u292 u293 u294 u295 u296 u297 u298 u299 u300 u301 u302 u303 u304 u305 u306 u307 u308 u309 u310 u311 u312 u313 : Value) (c3 c4 c5 c6 c8 c11 c35 c36 c37 c38 c39 c40 c41 c42 c43 c44 c45 c46 c47 c48 c49 c50 c51 c52 c53 c54 c55 c56 c57 c58 c59 : Value) (sd ld qd : Option Addr) (cs cl cq k n0 nq bv : Nat) (s : List Tr) (ls : List Ly) (p : Pt) (gs : List (List Tr)) (v : Value) (x0 x1 x2 : Int) (w W : World) (mad td : Option Addr) (m mcap ct : Nat)
    (hg : errVar w) (hl : ls ≠ [] → ∃ b o, ld = some ⟨b, o, none⟩ ∧ LsAt w b o ls) (fl : ∀ l ∈ ls, FitL l) (nl : ls.length ≤ 9223372036854775807) (hm : gs.length = m + 1) (hst : PSt w n0 s p gs v (.slice mad m mcap) W) (hNum : Num3 W bv x0 x1 x2) (ht : SlT W td (gat gs m)) (hbv : bv ≠ n0) (hbo : v.ownBlock ≠ some bv) (hbm : Value.ownBlock (.slice mad m mcap) ≠ some bv)
    (hQ : ∀ (x9 x16 x17 x18 x19 x20 x21 x22 x23 x24 x25 x26 x27 x28 x29 x30 x31 x32 x33 x34 x60 x61 x62 x63 x64 x65 x66 x67 x68 x69 x70 x71 x72 x73 x74 x75 x76 x77 x78 x79 x80 x81 x82 x83 x84 x85 x86 x87 x88 x89 x90 x91 x92 x93 x94 x95 x96 x97 x98 x99 x100 x101 x102 x103 x104 x105 x106 x107 x108 x109 x110 x111 x112 x113 x114 x115 x116 x117 x118 x119 x120 x121 x122 x123 x124 x125 x126 x127 x128 x129 x130 x131 x132 x133 x134 x135 x136 x137 x138 x139 x140 x141 x142 x143 x144 x145 x146 x147 x148 x149 x150 x151 x152 x153 x154 x155 x156 x157 x158 x159 x160 x161 x162 x163 x164 x165 x166 x167 x168 x169 x170 x171 x172 x173 x174 x175 x176 x177 x178 x179 x180 x181 x182 x183 x184 x185 x186 x187 x188 x189 x190 x191 x192 x193 x194 x195 x196 x197 x198 x199 x200 x201 x202 x203 x204 x205 x206 x207 x208 x209 x210 x211 x212 x213 x214 x215 x216 x217 x218 x219 x220 x221 x222 x223 x224 x225 x226 x227 x228 x229 x230 x231 x232 x233 x234 x235 x236 x237 x238 x239 x240 x241 x242 x243 x244 x245 x246 x247 x248 x249 x250 x251 x252 x253 x254 x255 x256 x257 x258 x259 x260 x261 x262 x263 x264 x265 x266 x267 x268 x269 x270 x271 x272 x273 x274 x275 x276 x277 x278 x279 x280 x281 x282 x283 x284 x285 x286 x287 x288 x289 x290 x291 x292 x293 x294 x295 x296 x297 x298 x299 x300 x301 x302 x303 x304 x305 x306 x307 x308 x309 x310 x311 x312 x313 : Value) (vm : Value) (gs' : List (List Tr)) (v' : Value) (W' : World), PSt w n0 s p gs' v' vm W' → Num3 W' bv x0 x1 x2 → Q0 .normal ⟨#[.slice sd s.length cs, .slice ld ls.length cl, .slice qd nq cq, c3, c4, c5, c6, .pointer (some ⟨w.heap.size, 0, none⟩), c8, x9, .pointer (some ⟨n0, 0, none⟩), c11, .bool true, vm, .int .i64 (k : Int), .pointer (some ⟨bv, 0, none⟩), x16, x17, x18, x19, x20, x21, x22, x23, x24, x25, x26, x27, x28, x29, x30, x31, x32, x33, x34, c35, c36, c37, c38, c39, c40, c41, c42, c43, c44, c45, c46, c47, c48, c49, c50, c51, c52, c53, c54, c55, c56, c57, c58, c59, x60, x61, x62, x63, x64, x65, x66, x67, x68, x69, x70, x71, x72, x73, x74, x75, x76, x77, x78, x79, x80, x81, x82, x83, x84, x85, x86, x87, x88, x89, x90, x91, x92, x93, x94, x95, x96, x97, x98, x99, x100, x101, x102, x103, x104, x105, x106, x107, x108, x109, x110, x111, x112, x113, x114, x115, x116, x117, x118, x119, x120, x121, x122, x123, x124, x125, x126, x127, x128, x129, x130, x131, x132, x133, x134, x135, x136, x137, x138, x139, x140, x141, x142, x143, x144, x145, x146, x147, x148, x149, x150, x151, x152, x153, x154, x155, x156, x157, x158, x159, x160, x161, x162, x163, x164, x165, x166, x167, x168, x169, x170, x171, x172, x173, x174, x175, x176, x177, x178, x179, x180, x181, x182, x183, x184, x185, x186, x187, x188, x189, x190, x191, x192, x193, x194, x195, x196, x197, x198, x199, x200, x201, x202, x203, x204, x205, x206, x207, x208, x209, x210, x211, x212, x213, x214, x215, x216, x217, x218, x219, x220, x221, x222, x223, x224, x225, x226, x227, x228, x229, x230, x231, x232, x233, x234, x235, x236, x237, x238, x239, x240, x241, x242, x243, x244, x245, x246, x247, x248, x249, x250, x251, x252, x253, x254, x255, x256, x257, x258, x259, x260, x261, x262, x263, x264, x265, x266, x267, x268, x269, x270, x271, x272, x273, x274, x275, x276, x277, x278, x279, x280, x281, x282, x283, x284, x285, x286, x287, x288, x289, x290, x291, x292, x293, x294, x295, x296, x297, x298, x299, x300, x301, x302, x303, x304, x305, x306, x307, x308, x309, x310, x311, x312, x313], []⟩ W') :
    Code.wp Tryz.prog (codeOf Tryz.f4.body 32) Q0 ⟨#[.slice sd s.length cs, .slice ld ls.length cl, .slice qd nq cq, c3, c4, c5, c6, .pointer (some ⟨w.heap.size, 0, none⟩), c8, u9, .pointer (some ⟨n0, 0, none⟩), c11, u12, .slice mad m mcap, .int .i64 (k : Int), .pointer (some ⟨bv, 0, none⟩), u16, .slice td (gat gs m).length ct, u18, u19, u20, u21, u22, u23, u24, u25, u26, u27, u28, u29, u30, u31, u32, u33, u34, c35, c36, c37, c38, c39, c40, c41, c42, c43, c44, c45, c46, c47, c48, c49, c50, c51, c52, c53, c54, c55, c56, c57, c58, c59, u60, u61, u62, u63, u64, u65, u66, u67, u68, u69, u70, u71, u72, u73, u74, u75, u76, u77, u78, u79, u80, u81, u82, u83, u84, u85, u86, u87, u88, u89, .int .i64 x0, u91, u92, u93, u94, u95, u96, u97, u98, u99, u100, u101, u102, u103, u104, u105, u106, u107, u108, u109, u110, u111, u112, u113, u114, u115, u116, u117, u118, u119, u120, u121, u122, u123, u124, u125, u126, u127, u128, u129, u130, u131, u132, u133, u134, u135, u136, u137, u138, u139, u140, u141, u142, u143, u144, u145, u146, u147, u148, u149, u150, u151, u152, u153, u154, u155, u156, u157, u158, u159, u160, u161, u162, u163, u164, u165, u166, u167, u168, u169, u170, u171, u172, u173, u174, u175, u176, u177, u178, u179, u180, u181, u182, u183, u184, u185, u186, u187, u188, u189, u190, u191, u192, u193, u194, u195, u196, u197, u198, u199, u200, u201, u202, u203, u204, u205, u206, u207, u208, u209, u210, u211, u212, u213, u214, u215, u216, u217, u218, u219, u220, u221, u222, u223, u224, u225, u226, u227, u228, u229, u230, u231, u232, u233, u234, u235, u236, u237, u238, u239, u240, u241, u242, u243, u244, u245, u246, u247, u248, u249, u250, u251, u252, u253, u254, u255, u256, u257, u258, u259, u260, u261, u262, u263, u264, u265, u266, u267, u268, u269, u270, u271, u272, u273, u274, u275, u276, u277, u278, u279, u280, u281, u282, u283, u284, u285, u286, u287, u288, u289, u290, u291, u292, u293, u294, u295, u296, u297, u298, u299, u300, u301, u302, u303, u304, u305, u306, u307, u308, u309, u310, u311, u312, u313], []⟩ W := by
  have HQ : Hid _ := hQ
  obtain ⟨y0, y1, y2, _, _, _⟩ := id hNum
  have HA : Hid _ := And.intro hg (And.intro hl (And.intro fl (And.intro nl (And.intro hm (And.intro hst (And.intro hNum (And.intro ht (And.intro hbv (And.intro hbo hbm)))))))))
  clear hQ hg hl fl nl hm hst hNum ht hbv hbo hbm
  conv => arg 2; whnf
  by_cases d0 : x0 = 0
  · have t0 : (x0 == 0) = true := by simpa using d0
    clear d0
    go_upto_if 162 with fail
    refine wp_cond_true rfl ?_
    go_upto_if 162 with fail
    refine wp_cond_true rfl ?_
    refine playsPush _ _ _ _ _ _ _ _ _ _ _ _ _ _ _ _ _ _ _ _ _ _ _ _ _ _ _ _ _ _ _ _ _ _ _ _ _ _ _ _ _ _ _ _ _ _ _ _ _ _ _ _ _ _ _ _ _ _ _ _ _ _ _ _ _ _ _ _ _ _ _ _ _ _ _ _ _ _ _ _ _ _ _ _ _ _ _ _ _ _ _ _ _ _ _ _ _ _ _ _ _ _ _ _ _ _ _ _ _ _ _ _ _ _ _ _ _ _ _ _ _ _ _ _ _ _ _ _ _ _ _ _ _ _ _ _ _ _ _ _ _ _ _ _ _ _ _ _ _ _ _ _ _ _ _ _ _ _ _ _ _ _ _ _ _ _ _ _ _ _ _ _ _ _ _ _ _ _ _ _ _ _ _ _ _ _ _ _ _ _ _ _ _ _ _ _ _ _ _ _ _ _ _ _ _ _ _ _ _ _ _ _ _ _ _ _ _ _ _ _ _ _ _ _ _ _ _ _ _ _ _ _ _ _ _ _ _ _ _ _ _ _ _ _ _ _ _ _ _ _ _ _ _ _ _ _ _ _ _ _ _ _ _ _ _ _ _ _ _ _ _ _ _ _ _ _ _ _ _ _ _ _ _ _ _ _ _ _ _ _ _ _ _ _ _ _ _ _ _ _ _ _ _ _ _ _ sd ld qd cs cl cq k n0 nq bv s ls p gs v x0 x1 x2 w W mad td m mcap ct HA.out.1 HA.out.2.1 HA.out.2.2.1 HA.out.2.2.2.1 HA.out.2.2.2.2.1 HA.out.2.2.2.2.2.1 HA.out.2.2.2.2.2.2.1 HA.out.2.2.2.2.2.2.2.1 HA.out.2.2.2.2.2.2.2.2.1 HA.out.2.2.2.2.2.2.2.2.2.1 HA.out.2.2.2.2.2.2.2.2.2.2 ?_
    intros
    apply HQ.out <;> assumption
  · have t0 : (x0 == 0) = false := by simpa using d0
    by_cases d1 : x0 = 1
    · have t1 : (x0 == 1) = true := by simpa using d1
      clear d0 d1
      go_upto_if 162 with fail
      refine wp_cond_false rfl ?_
      go_upto_if 162 with fail
      refine wp_cond_true rfl ?_
      go_upto_if 162 with fail
      refine wp_cond_true rfl ?_
      refine playsPush _ _ _ _ _ _ _ _ _ _ _ _ _ _ _ _ _ _ _ _ _ _ _ _ _ _ _ _ _ _ _ _ _ _ _ _ _ _ _ _ _ _ _ _ _ _ _ _ _ _ _ _ _ _ _ _ _ _ _ _ _ _ _ _ _ _ _ _ _ _ _ _ _ _ _ _ _ _ _ _ _ _ _ _ _ _ _ _ _ _ _ _ _ _ _ _ _ _ _ _ _ _ _ _ _ _ _ _ _ _ _ _ _ _ _ _ _ _ _ _ _ _ _ _ _ _ _ _ _ _ _ _ _ _ _ _ _ _ _ _ _ _ _ _ _ _ _ _ _ _ _ _ _ _ _ _ _ _ _ _ _ _ _ _ _ _ _ _ _ _ _ _ _ _ _ _ _ _ _ _ _ _ _ _ _ _ _ _ _ _ _ _ _ _ _ _ _ _ _ _ _ _ _ _ _ _ _ _ _ _ _ _ _ _ _ _ _ _ _ _ _ _ _ _ _ _ _ _ _ _ _ _ _ _ _ _ _ _ _ _ _ _ _ _ _ _ _ _ _ _ _ _ _ _ _ _ _ _ _ _ _ _ _ _ _ _ _ _ _ _ _ _ _ _ _ _ _ _ _ _ _ _ _ _ _ _ _ _ _ _ _ _ _ _ _ _ _ _ _ _ _ _ _ _ _ _ sd ld qd cs cl cq k n0 nq bv s ls p gs v x0 x1 x2 w W mad td m mcap ct HA.out.1 HA.out.2.1 HA.out.2.2.1 HA.out.2.2.2.1 HA.out.2.2.2.2.1 HA.out.2.2.2.2.2.1 HA.out.2.2.2.2.2.2.1 HA.out.2.2.2.2.2.2.2.1 HA.out.2.2.2.2.2.2.2.2.1 HA.out.2.2.2.2.2.2.2.2.2.1 HA.out.2.2.2.2.2.2.2.2.2.2 ?_
      intros
      apply HQ.out <;> assumption
    · have t1 : (x0 == 1) = false := by simpa using d1
      by_cases d2 : x0 = 2
      · have t2 : (x0 == 2) = true := by simpa using d2
        clear d0 d1 d2
        go_upto_if 162 with fail
        refine wp_cond_false rfl ?_
        go_upto_if 162 with fail
        refine wp_cond_false rfl ?_
        go_upto_if 162 with fail
        refine wp_cond_true rfl ?_
        refine playsPush _ _ _ _ _ _ _ _ _ _ _ _ _ _ _ _ _ _ _ _ _ _ _ _ _ _ _ _ _ _ _ _ _ _ _ _ _ _ _ _ _ _ _ _ _ _ _ _ _ _ _ _ _ _ _ _ _ _ _ _ _ _ _ _ _ _ _ _ _ _ _ _ _ _ _ _ _ _ _ _ _ _ _ _ _ _ _ _ _ _ _ _ _ _ _ _ _ _ _ _ _ _ _ _ _ _ _ _ _ _ _ _ _ _ _ _ _ _ _ _ _ _ _ _ _ _ _ _ _ _ _ _ _ _ _ _ _ _ _ _ _ _ _ _ _ _ _ _ _ _ _ _ _ _ _ _ _ _ _ _ _ _ _ _ _ _ _ _ _ _ _ _ _ _ _ _ _ _ _ _ _ _ _ _ _ _ _ _ _ _ _ _ _ _ _ _ _ _ _ _ _ _ _ _ _ _ _ _ _ _ _ _ _ _ _ _ _ _ _ _ _ _ _ _ _ _ _ _ _ _ _ _ _ _ _ _ _ _ _ _ _ _ _ _ _ _ _ _ _ _ _ _ _ _ _ _ _ _ _ _ _ _ _ _ _ _ _ _ _ _ _ _ _ _ _ _ _ _ _ _ _ _ _ _ _ _ _ _ _ _ _ _ _ _ _ _ _ _ _ _ _ _ _ _ _ _ sd ld qd cs cl cq k n0 nq bv s ls p gs v x0 x1 x2 w W mad td m mcap ct HA.out.1 HA.out.2.1 HA.out.2.2.1 HA.out.2.2.2.1 HA.out.2.2.2.2.1 HA.out.2.2.2.2.2.1 HA.out.2.2.2.2.2.2.1 HA.out.2.2.2.2.2.2.2.1 HA.out.2.2.2.2.2.2.2.2.1 HA.out.2.2.2.2.2.2.2.2.2.1 HA.out.2.2.2.2.2.2.2.2.2.2 ?_
        intros
        apply HQ.out <;> assumption
      · have t2 : (x0 == 2) = false := by simpa using d2
        by_cases d3 : x0 = 3
        · have t3 : (x0 == 3) = true := by simpa using d3
          clear d0 d1 d2 d3
          go_upto_if 162 with fail
          refine wp_cond_false rfl ?_
          go_upto_if 162 with fail
          refine wp_cond_false rfl ?_
          go_upto_if 162 with fail
          refine wp_cond_false rfl ?_
          go_upto_if 207 with fail
          refine wp_cond_true rfl ?_
          refine playsPop _ _ _ _ _ _ _ _ _ _ _ _ _ _ _ _ _ _ _ _ _ _ _ _ _ _ _ _ _ _ _ _ _ _ _ _ _ _ _ _ _ _ _ _ _ _ _ _ _ _ _ _ _ _ _ _ _ _ _ _ _ _ _ _ _ _ _ _ _ _ _ _ _ _ _ _ _ _ _ _ _ _ _ _ _ _ _ _ _ _ _ _ _ _ _ _ _ _ _ _ _ _ _ _ _ _ _ _ _ _ _ _ _ _ _ _ _ _ _ _ _ _ _ _ _ _ _ _ _ _ _ _ _ _ _ _ _ _ _ _ _ _ _ _ _ _ _ _ _ _ _ _ _ _ _ _ _ _ _ _ _ _ _ _ _ _ _ _ _ _ _ _ _ _ _ _ _ _ _ _ _ _ _ _ _ _ _ _ _ _ _ _ _ _ _ _ _ _ _ _ _ _ _ _ _ _ _ _ _ _ _ _ _ _ _ _ _ _ _ _ _ _ _ _ _ _ _ _ _ _ _ _ _ _ _ _ _ _ _ _ _ _ _ _ _ _ _ _ _ _ _ _ _ _ _ _ _ _ _ _ _ _ _ _ _ _ _ _ _ _ _ _ _ _ _ _ _ _ _ _ _ _ _ _ _ _ _ _ _ _ _ _ _ _ _ _ _ _ _ _ _ _ _ _ _ _ sd ld qd cs cl cq k n0 nq bv s ls p gs v x0 x1 x2 w W mad td m mcap ct HA.out.1 HA.out.2.2.2.2.1 HA.out.2.2.2.2.2.1 HA.out.2.2.2.2.2.2.1 HA.out.2.2.2.2.2.2.2.2.1 HA.out.2.2.2.2.2.2.2.2.2.1 ?_
          intros
          apply HQ.out <;> assumption
        · have t3 : (x0 == 3) = false := by simpa using d3
          clear d0 d1 d2 d3
          go_upto_if 162 with fail
          refine wp_cond_false rfl ?_
          go_upto_if 162 with fail
          refine wp_cond_false rfl ?_
          go_upto_if 162 with fail
          refine wp_cond_false rfl ?_
          go_upto_if 207 with fail
          refine wp_cond_false rfl ?_
          refine playsSquash _ _ _ _ _ _ _ _ _ _ _ _ _ _ _ _ _ _ _ _ _ _ _ _ _ _ _ _ _ _ _ _ _ _ _ _ _ _ _ _ _ _ _ _ _ _ _ _ _ _ _ _ _ _ _ _ _ _ _ _ _ _ _ _ _ _ _ _ _ _ _ _ _ _ _ _ _ _ _ _ _ _ _ _ _ _ _ _ _ _ _ _ _ _ _ _ _ _ _ _ _ _ _ _ _ _ _ _ _ _ _ _ _ _ _ _ _ _ _ _ _ _ _ _ _ _ _ _ _ _ _ _ _ _ _ _ _ _ _ _ _ _ _ _ _ _ _ _ _ _ _ _ _ _ _ _ _ _ _ _ _ _ _ _ _ _ _ _ _ _ _ _ _ _ _ _ _ _ _ _ _ _ _ _ _ _ _ _ _ _ _ _ _ _ _ _ _ _ _ _ _ _ _ _ _ _ _ _ _ _ _ _ _ _ _ _ _ _ _ _ _ _ _ _ _ _ _ _ _ _ _ _ _ _ _ _ _ _ _ _ _ _ _ _ _ _ _ _ _ _ _ _ _ _ _ _ _ _ _ _ _ _ _ _ _ _ _ _ _ _ _ _ _ _ _ _ _ _ _ _ _ _ _ _ _ _ _ _ _ _ _ _ _ _ _ _ _ _ _ _ _ _ _ _ _ _ sd ld qd cs cl cq k n0 nq bv s ls p gs v x0 x1 x2 w W mad td m mcap ct HA.out.1 HA.out.2.2.2.2.1 HA.out.2.2.2.2.2.1 HA.out.2.2.2.2.2.2.1 HA.out.2.2.2.2.2.2.2.2.1 HA.out.2.2.2.2.2.2.2.2.2.1 HA.out.2.2.2.2.2.2.2.2.2.2 ?_
          intros
          apply HQ.out <;> assumption
end Go.Proofs.YtnlcfnpcjkcdmadGreatDoor

/- ChainPlays' round, its last part: what there is behind so many layers, and what of it matches. -/
namespace Go.Proofs.YtnlcfnpcjkcdmadGreatDoor
open Go Go.RowKit Go.Proofs
set_option synthInstance.maxSize 1000

attribute [local go_sem] eql_errV neq_errV guard_errV

set_option maxHeartbeats 32000000 in
set_option maxRecDepth 1000000 in
theorem playsTail (Q0 : Exit → Act → World → Prop) (u9 u16 u17 u18 u19 u20 u21 u22 u23 u24 u25 u26 u27 u28 u29 u30 u31 u32 u33 u34 u60 u61 u62 u63 u64 u65 u66 u67 u68 u69 u70 u71 u72 u73 u74 u75 u76 u77 u78 u79 u80 u81 u82 u83 u84 u85 u86 u87 u88 u89 u90 u91 u92 u93 u94 u95 u96 u97 u98 u99 u100 u101 u102 u103 u104 u105 u106 u107 u108 u109 u110 u111 u112 u113 u114 u115 u116 u117 u118 u119 u120 u121 u122 u123 u124 u125 u126 u127 u128 u129 u130 u131 u132 u133 u134 u135 u136 u137 u138 u139 u140 u141 u142 u143 u144 u145 u146 u147 u148 u149 u150 u151 u152 u153 u154 u155 u156 u157 u158 u159 u160 u161 u162 u163 u164 u165 u166 u167 u168 u169 u170 u171 u172 u173 u174 u175 u176 u177 u178 u179 u180 u181 u182 u183 u184 u185 u186 u187 u188 u189 u190 u191 u192 u193 u194 u195 u196 u197 u198 u199 u200 u201 u202 u203 u204 u205 u206 u207 u208 u209 u210 u211 u212 u213 u214 u215 u216 u217 u218 u219 u220 u221 u222 u223 u224 u225 u226 u227 u228 u229 u230 u231 u232 u233 u234 u235 u236 u237 u238 u239 u240 u241 u242 u243 u244 u245 u246 u247 u248 u249 u250 u251 u252 u253 u254 u255 u256 u257 u258 u259 u260 u261 u262 u263 u264 u265 u266 u267 u268 u269 u270 u271 u272 u273 u274 u275 u276 u277 u278 u279 u280 u281 u282 u283 u284 u285 u286 u287 u288 u289 u290 u291 u292 u293 u294 u295 u296 u297 u298 u299 u300 u301 u302 u303 u304 u305 u306 u307 u308 u309 u310 u311 u312 u313 : Value) (c3 c4 c5 c6 c8 c11 c35 c36 c37 c38 c39 c40 c41 c42 c43 c44 c45 c46 c47 c48 c49 c50 c51 c52 c53 c54 c55 c56 c57 c58 c59 : Value) (sd ld qd : Option Addr) (cs cl cq k n0 nq bv : Nat) (s : List Tr) (ls : List Ly) (p : Pt) (gs : List (List Tr)) (v : Value) (x0 x1 x2 : Int) (w W : World) (mad : Option Addr) (m mcap : Nat)
    (hg : errVar w) (hs : SlT w sd s) (fp : fitPt p) (hm : gs.length = m + 1) (hst : PSt w n0 s p gs v (.slice mad m mcap) W) (hNum : Num3 W bv x0 x1 x2)
    (hQ : ∀ (x9 x12 x15 x16 x17 x18 x19 x20 x21 x22 x23 x24 x25 x26 x27 x28 x29 x30 x31 x32 x33 x34 x60 x61 x62 x63 x64 x65 x66 x67 x68 x69 x70 x71 x72 x73 x74 x75 x76 x77 x78 x79 x80 x81 x82 x83 x84 x85 x86 x87 x88 x89 x90 x91 x92 x93 x94 x95 x96 x97 x98 x99 x100 x101 x102 x103 x104 x105 x106 x107 x108 x109 x110 x111 x112 x113 x114 x115 x116 x117 x118 x119 x120 x121 x122 x123 x124 x125 x126 x127 x128 x129 x130 x131 x132 x133 x134 x135 x136 x137 x138 x139 x140 x141 x142 x143 x144 x145 x146 x147 x148 x149 x150 x151 x152 x153 x154 x155 x156 x157 x158 x159 x160 x161 x162 x163 x164 x165 x166 x167 x168 x169 x170 x171 x172 x173 x174 x175 x176 x177 x178 x179 x180 x181 x182 x183 x184 x185 x186 x187 x188 x189 x190 x191 x192 x193 x194 x195 x196 x197 x198 x199 x200 x201 x202 x203 x204 x205 x206 x207 x208 x209 x210 x211 x212 x213 x214 x215 x216 x217 x218 x219 x220 x221 x222 x223 x224 x225 x226 x227 x228 x229 x230 x231 x232 x233 x234 x235 x236 x237 x238 x239 x240 x241 x242 x243 x244 x245 x246 x247 x248 x249 x250 x251 x252 x253 x254 x255 x256 x257 x258 x259 x260 x261 x262 x263 x264 x265 x266 x267 x268 x269 x270 x271 x272 x273 x274 x275 x276 x277 x278 x279 x280 x281 x282 x283 x284 x285 x286 x287 x288 x289 x290 x291 x292 x293 x294 x295 x296 x297 x298 x299 x300 x301 x302 x303 x304 x305 x306 x307 x308 x309 x310 x311 x312 x313 : Value) (W' : World), PSt w n0 s p gs v (.slice mad m mcap) W' → Q0 .normal ⟨#[.slice sd s.length cs, .slice ld ls.length cl, .slice qd nq cq, c3, c4, c5, c6, .pointer (some ⟨w.heap.size, 0, none⟩), c8, x9, .pointer (some ⟨n0, 0, none⟩), c11, x12, .slice mad m mcap, .int .i64 (k : Int), x15, x16, x17, x18, x19, x20, x21, x22, x23, x24, x25, x26, x27, x28, x29, x30, x31, x32, x33, x34, c35, c36, c37, c38, c39, c40, c41, c42, c43, c44, c45, c46, c47, c48, c49, c50, c51, c52, c53, c54, c55, c56, c57, c58, c59, x60, x61, x62, x63, x64, x65, x66, x67, x68, x69, x70, x71, x72, x73, x74, x75, x76, x77, x78, x79, x80, x81, x82, x83, x84, x85, x86, x87, x88, x89, x90, x91, x92, x93, x94, x95, x96, x97, x98, x99, x100, x101, x102, x103, x104, x105, x106, x107, x108, x109, x110, x111, x112, x113, x114, x115, x116, x117, x118, x119, x120, x121, x122, x123, x124, x125, x126, x127, x128, x129, x130, x131, x132, x133, x134, x135, x136, x137, x138, x139, x140, x141, x142, x143, x144, x145, x146, x147, x148, x149, x150, x151, x152, x153, x154, x155, x156, x157, x158, x159, x160, x161, x162, x163, x164, x165, x166, x167, x168, x169, x170, x171, x172, x173, x174, x175, x176, x177, x178, x179, x180, x181, x182, x183, x184, x185, x186, x187, x188, x189, x190, x191, x192, x193, x194, x195, x196, x197, x198, x199, x200, x201, x202, x203, x204, x205, x206, x207, x208, x209, x210, x211, x212, x213, x214, x215, x216, x217, x218, x219, x220, x221, x222, x223, x224, x225, x226, x227, x228, x229, x230, x231, x232, x233, x234, x235, x236, x237, x238, x239, x240, x241, x242, x243, x244, x245, x246, x247, x248, x249, x250, x251, x252, x253, x254, x255, x256, x257, x258, x259, x260, x261, x262, x263, x264, x265, x266, x267, x268, x269, x270, x271, x272, x273, x274, x275, x276, x277, x278, x279, x280, x281, x282, x283, x284, x285, x286, x287, x288, x289, x290, x291, x292, x293, x294, x295, x296, x297, x298, x299, x300, x301, x302, x303, x304, x305, x306, x307, x308, x309, x310, x311, x312, x313], []⟩ W') :
    Code.wp Tryz.prog (codeOf Tryz.f4.body 59) Q0 ⟨#[.slice sd s.length cs, .slice ld ls.length cl, .slice qd nq cq, c3, c4, c5, c6, .pointer (some ⟨w.heap.size, 0, none⟩), c8, u9, .pointer (some ⟨n0, 0, none⟩), c11, .bool true, .slice mad m mcap, .int .i64 (k : Int), .pointer (some ⟨bv, 0, none⟩), u16, u17, u18, u19, u20, u21, u22, u23, u24, u25, u26, u27, u28, u29, u30, u31, u32, u33, u34, c35, c36, c37, c38, c39, c40, c41, c42, c43, c44, c45, c46, c47, c48, c49, c50, c51, c52, c53, c54, c55, c56, c57, c58, c59, u60, u61, u62, u63, u64, u65, u66, u67, u68, u69, u70, u71, u72, u73, u74, u75, u76, u77, u78, u79, u80, u81, u82, u83, u84, u85, u86, u87, u88, u89, u90, u91, u92, u93, u94, u95, u96, u97, u98, u99, u100, u101, u102, u103, u104, u105, u106, u107, u108, u109, u110, u111, u112, u113, u114, u115, u116, u117, u118, u119, u120, u121, u122, u123, u124, u125, u126, u127, u128, u129, u130, u131, u132, u133, u134, u135, u136, u137, u138, u139, u140, u141, u142, u143, u144, u145, u146, u147, u148, u149, u150, u151, u152, u153, u154, u155, u156, u157, u158, u159, u160, u161, u162, u163, u164, u165, u166, u167, u168, u169, u170, u171, u172, u173, u174, u175, u176, u177, u178, u179, u180, u181, u182, u183, u184, u185, u186, u187, u188, u189, u190, u191, u192, u193, u194, u195, u196, u197, u198, u199, u200, u201, u202, u203, u204, u205, u206, u207, u208, u209, u210, u211, u212, u213, u214, u215, u216, u217, u218, u219, u220, u221, u222, u223, u224, u225, u226, u227, u228, u229, u230, u231, u232, u233, u234, u235, u236, u237, u238, u239, u240, u241, u242, u243, u244, u245, u246, u247, u248, u249, u250, u251, u252, u253, u254, u255, u256, u257, u258, u259, u260, u261, u262, u263, u264, u265, u266, u267, u268, u269, u270, u271, u272, u273, u274, u275, u276, u277, u278, u279, u280, u281, u282, u283, u284, u285, u286, u287, u288, u289, u290, u291, u292, u293, u294, u295, u296, u297, u298, u299, u300, u301, u302, u303, u304, u305, u306, u307, u308, u309, u310, u311, u312, u313], []⟩ W := by
  have HQ : Hid _ := hQ
  have Hg : Hid (errVar w) := hg
  have Hst : Hid (PSt w n0 s p gs v (.slice mad m mcap) W) := hst
  obtain ⟨y0, y1, y2, _, _, _⟩ := id hNum
  have hm30 : m ≤ 30 := by have := hst.2.1; omega
  have HL := fun W (h : PSt w n0 s p gs v (.slice mad m mcap) W) => CLen_any n0 v gs W h.1.1 (by omega)
  rw [hm, Nat.add_sub_cancel] at HL
  have HE := fun n W (h : PSt w n0 s p gs v (.slice mad m mcap) W) => SameErrorT n W (hg.below h.1.2.2.2.1)
  conv => arg 2; whnf
  by_cases hr : x2 < 0 ∨ (m : Int) < x2
  · have HG := fun W (h : PSt w n0 s p gs v (.slice mad m mcap) W) => GraphBad_any n0 v gs x2 W h.1.1 (by omega) (by rw [hm, Nat.add_sub_cancel]; exact hr)
    have HM := fun W (h : PSt w n0 s p gs v (.slice mad m mcap) W) => CMatchBad_any n0 v gs x2 p W h.1.1 (by omega) (by rw [hm, Nat.add_sub_cancel]; exact hr)
    have HN := SameNil_any
    have E1 := HE 1
    rw [show errV 1 = .iface 89 (.int .i64 1) from rfl] at E1
    have Hr : Hid (x2 < 0 ∨ (m : Int) < x2) := hr
    clear hQ hg hs fp hst hNum HE hr y0 y1 hm
    unfold valPt at HM
    by_cases h1 : x2 < 0
    · have t1 : decide (x2 < 0) = true := by simpa using h1
      go_wp2_with fail
      refine (HG _ Hst.out).mono ?_
      rintro e w1 ⟨rfl, rfl⟩
      dsimp only
      go_wp2_with fail
      refine (E1 _ Hst.out).mono ?_
      rintro e w2 ⟨rfl, hb2⟩
      have Hst2 : Hid (PSt w n0 s p gs v (.slice mad m mcap) w2) := Hst.out.below hb2
      clear hb2 HG
      dsimp only
      go_wp2_with fail
      refine (HN _).mono ?_
      rintro e w3 ⟨rfl, hb3⟩
      have Hst3 : Hid (PSt w n0 s p gs v (.slice mad m mcap) w3) := Hst2.out.below hb3
      clear hb3 Hst2
      obtain ⟨p0, p1, p2, p3, p4, p5, p6, p7, p8, p9, p10, p11⟩ := Hst3.out.1.2.2.2.2.1.all
      dsimp only
      go_wp2_with fail
      refine (HM _ Hst3.out).mono ?_
      rintro e w4 ⟨rfl, hb4⟩
      have Hst4 : Hid (PSt w n0 s p gs v (.slice mad m mcap) w4) := Hst3.out.below hb4
      clear hb4 Hst3 HM p0 p1 p2 p3 p4 p5 p6 p7 p8 p9 p10 p11
      dsimp only
      go_wp2_with fail
      refine (E1 _ Hst4.out).mono ?_
      rintro e w5 ⟨rfl, hb5⟩
      have Hst5 : Hid (PSt w n0 s p gs v (.slice mad m mcap) w5) := Hst4.out.below hb5
      clear hb5 Hst4
      dsimp only
      go_wp2_with fail
      refine (HN _).mono ?_
      rintro e w6 ⟨rfl, hb6⟩
      have Hst7 : Hid (PSt w n0 s p gs v (.slice mad m mcap) w6) := Hst5.out.below hb6
      clear hb6 Hst5
      dsimp only
      go_wp2_with fail
      refine (HL _ Hst7.out).mono ?_
      rintro e w9 ⟨rfl, rfl⟩
      dsimp only
      go_wp2_with fail
      first | exact HQ.out _ _ _ Hst7.out | apply HQ.out <;> exact Hst7.out
    · have t1 : decide (x2 < 0) = false := by simpa using h1
      have h2 : (m : Int) < x2 := by rcases Hr.out with h | h; exact absurd h h1; exact h
      have t2 : decide ((m : Int) < x2) = true := by simpa using h2
      go_wp2_with fail
      refine (HG _ Hst.out).mono ?_
      rintro e w1 ⟨rfl, rfl⟩
      dsimp only
      go_wp2_with fail
      refine (E1 _ Hst.out).mono ?_
      rintro e w2 ⟨rfl, hb2⟩
      have Hst2 : Hid (PSt w n0 s p gs v (.slice mad m mcap) w2) := Hst.out.below hb2
      clear hb2 HG
      dsimp only
      go_wp2_with fail
      refine (HN _).mono ?_
      rintro e w3 ⟨rfl, hb3⟩
      have Hst3 : Hid (PSt w n0 s p gs v (.slice mad m mcap) w3) := Hst2.out.below hb3
      clear hb3 Hst2
      obtain ⟨p0, p1, p2, p3, p4, p5, p6, p7, p8, p9, p10, p11⟩ := Hst3.out.1.2.2.2.2.1.all
      dsimp only
      go_wp2_with fail
      refine (HM _ Hst3.out).mono ?_
      rintro e w4 ⟨rfl, hb4⟩
      have Hst4 : Hid (PSt w n0 s p gs v (.slice mad m mcap) w4) := Hst3.out.below hb4
      clear hb4 Hst3 HM p0 p1 p2 p3 p4 p5 p6 p7 p8 p9 p10 p11
      dsimp only
      go_wp2_with fail
      refine (E1 _ Hst4.out).mono ?_
      rintro e w5 ⟨rfl, hb5⟩
      have Hst5 : Hid (PSt w n0 s p gs v (.slice mad m mcap) w5) := Hst4.out.below hb5
      clear hb5 Hst4
      dsimp only
      go_wp2_with fail
      refine (HN _).mono ?_
      rintro e w6 ⟨rfl, hb6⟩
      have Hst7 : Hid (PSt w n0 s p gs v (.slice mad m mcap) w6) := Hst5.out.below hb6
      clear hb6 Hst5
      dsimp only
      go_wp2_with fail
      refine (HL _ Hst7.out).mono ?_
      rintro e w9 ⟨rfl, rfl⟩
      dsimp only
      go_wp2_with fail
      first | exact HQ.out _ _ _ Hst7.out | apply HQ.out <;> exact Hst7.out
  · obtain ⟨j, rfl⟩ : ∃ j : Nat, x2 = (j : Int) := ⟨x2.toNat, by omega⟩
    have hj : j ≤ m := by omega
    have hjg : gs[j]? = some (gat gs j) := gat_eq (by omega)
    have sj := hst.1.1.set hjg
    have HG := fun W (h : PSt w n0 s p gs v (.slice mad m mcap) W) => Graph_any n0 v gs j (gat gs j) W h.1.1 (by omega) hjg
    have HM := fun W (h : PSt w n0 s p gs v (.slice mad m mcap) W) => CMatch_any n0 v gs j (gat gs j) p W h.1.1 (by omega) hjg fp
    have HR := fun W (h : PSt w n0 s p gs v (.slice mad m mcap) W) => lgraph_any sd cs (w.heap.size + 1) (.slice mad m mcap) s gs j (gat gs j) W (hs.below h.1.2.2.2.1) h.1.2.1 h.sets h.2.2 (by omega) hjg
    have HV := fun W => RVars_any p W fp
    have HX := fun a c W h => RMatch_any a c (gat gs j) p W h sj.1
    have HS := fun a b ca cb l W h1 h2 h3 => SameListT a b ca cb l l W h1 h2 h3 rfl
    have Hmn : Hid (matchN (gat gs j) p = varsN p) := by show _ = _; unfold matchN; rw [if_pos (sortedN_set.2 sj)]
    have Hml : Hid ((matchL (gat gs j) p).length ≤ 200) := Nat.le_trans (List.length_filter_le _ _) sj.1
    have Hsl : Hid ((gat gs j).length ≤ 200) := sj.1
    have b1 : ¬ ((j : Int) < 0) := by omega
    have b2 : decide (m < j) = false := by simp; omega
    have E0 := HE 0
    rw [show errV 0 = .nilIface from rfl] at E0
    have EV := HE (varsN p)
    clear hQ hg hs fp hst hNum HE hr y0 y1 hm hjg sj
    unfold valPt at HM HV HX
    unfold CMatchAns at HM
    rw [Hmn.out] at HM
    have Hans : Hid (∀ l, MatchAns (gat gs j) p l → l = if varsN p = 0 then matchL (gat gs j) p else []) := fun l hl => by unfold MatchAns at hl; rw [Hmn.out] at hl; exact hl
    generalize gat gs j = g at *
    generalize varsN p = V at *
    generalize matchL g p = ML at *
    go_wp2_with fail
    refine (HR _ Hst.out).mono ?_
    rintro e w1 ⟨hb1, a1, c1, rfl, hs1⟩
    have Hst1 : Hid (PSt w n0 s p gs v (.slice mad m mcap) w1) := Hst.out.below hb1
    have Hs1 : Hid (SlT w1 a1 g) := hs1
    clear hb1 hs1 HR Hst y2
    dsimp only
    go_wp2_with fail
    refine (HG _ Hst1.out).mono ?_
    rintro e w2 ⟨hb2, a2, c2, rfl, hs2⟩
    have Hst2 : Hid (PSt w n0 s p gs v (.slice mad m mcap) w2) := Hst1.out.below hb2
    have Hs2 : Hid (SlT w2 a2 g ∧ SlT w2 a1 g) := ⟨hs2, Hs1.out.below hb2⟩
    clear hb2 hs2 HG Hst1 Hs1
    dsimp only
    go_wp2_with fail
    refine (E0 _ Hst2.out).mono ?_
    rintro e w3 ⟨rfl, hb3⟩
    have Hst3 : Hid (PSt w n0 s p gs v (.slice mad m mcap) w3) := Hst2.out.below hb3
    have Hs3 : Hid (SlT w3 a2 g ∧ SlT w3 a1 g) := ⟨Hs2.out.1.below hb3, Hs2.out.2.below hb3⟩
    clear hb3 Hst2 Hs2
    dsimp only
    go_wp2_with fail
    refine (HS a2 a1 c2 c1 g _ Hs3.out.1 Hs3.out.2 Hsl.out).mono ?_
    rintro e w4 ⟨rfl, hb4⟩
    have Hst4 : Hid (PSt w n0 s p gs v (.slice mad m mcap) w4) := Hst3.out.below hb4
    have Hs4 : Hid (SlT w4 a1 g) := Hs3.out.2.below hb4
    clear hb4 Hst3 Hs3
    obtain ⟨p0, p1, p2, p3, p4, p5, p6, p7, p8, p9, p10, p11⟩ := Hst4.out.1.2.2.2.2.1.all
    dsimp only
    go_wp2_with fail
    refine (HV _).mono ?_
    rintro e w5 ⟨hb5, vl, va, vc, rfl, hv5, _⟩
    have Hst5 : Hid (PSt w n0 s p gs v (.slice mad m mcap) w5) := Hst4.out.below hb5
    have Hs5 : Hid (SlT w5 a1 g) := Hs4.out.below hb5
    clear hb5 Hst4 Hs4 hv5 HV p0 p1 p2 p3 p4 p5 p6 p7 p8 p9 p10 p11
    obtain ⟨p0, p1, p2, p3, p4, p5, p6, p7, p8, p9, p10, p11⟩ := Hst5.out.1.2.2.2.2.1.all
    cases hV : (V == 0)
    · have hV0 : ¬ V = 0 := by simpa using hV
      have Hans0 : Hid (∀ l, MatchAns g p l → l = []) := fun l hl => by have := Hans.out l hl; rw [if_neg hV0] at this; exact this
      clear hV0 Hans
      dsimp only
      go_wp2_with fail
      refine (HM _ Hst5.out).mono ?_
      rintro e w6 ⟨hb6, l6, a6, c6, rfl, hs6, hans6⟩
      obtain rfl := Hans0.out l6 hans6
      have Hst6 : Hid (PSt w n0 s p gs v (.slice mad m mcap) w6) := Hst5.out.below hb6
      clear hb6 hs6 hans6 HM Hst5 p0 p1 p2 p3 p4 p5 p6 p7 p8 p9 p10 p11
      dsimp only
      go_wp2_with fail
      refine (EV _ Hst6.out).mono ?_
      rintro e w7 ⟨rfl, hb7⟩
      have Hst7 : Hid (PSt w n0 s p gs v (.slice mad m mcap) w7) := Hst6.out.below hb7
      clear hb7 Hst6
      dsimp only
      go_wp2_with fail
      refine (HS a6 none c6 0 [] _ (slT_nil _ _) (slT_nil _ _) (by simp)).mono ?_
      rintro e w8 ⟨rfl, hb8⟩
      have Hst8 : Hid (PSt w n0 s p gs v (.slice mad m mcap) w8) := Hst7.out.below hb8
      clear hb8 Hst7
      dsimp only
      go_wp2_with fail
      refine (HL _ Hst8.out).mono ?_
      rintro e w9 ⟨rfl, rfl⟩
      dsimp only
      go_wp2_with fail
      first | exact HQ.out _ _ _ Hst8.out | apply HQ.out <;> exact Hst8.out
    · have hV0 : V = 0 := by simpa using hV
      have Hans0 : Hid (∀ l, MatchAns g p l → l = ML) := fun l hl => by have := Hans.out l hl; rw [if_pos hV0] at this; exact this
      subst hV0
      clear Hans
      rw [show errV 0 = .nilIface from rfl] at HM EV
      dsimp only
      go_wp2_with fail
      refine (HX a1 c1 _ Hs5.out).mono ?_
      rintro e w55 ⟨hb55, a55, c55, rfl, hs55⟩
      have Hst55 : Hid (PSt w n0 s p gs v (.slice mad m mcap) w55) := Hst5.out.below hb55
      have Hs55 : Hid (SlT w55 a55 ML) := hs55
      clear hb55 hs55 HX Hst5 Hs5 p0 p1 p2 p3 p4 p5 p6 p7 p8 p9 p10 p11
      obtain ⟨p0, p1, p2, p3, p4, p5, p6, p7, p8, p9, p10, p11⟩ := Hst55.out.1.2.2.2.2.1.all
      dsimp only
      go_wp2_with fail
      refine (HM _ Hst55.out).mono ?_
      rintro e w6 ⟨hb6, l6, a6, c6, rfl, hs6, hans6⟩
      obtain rfl := Hans0.out l6 hans6
      have Hst6 : Hid (PSt w n0 s p gs v (.slice mad m mcap) w6) := Hst55.out.below hb6
      have Hs6 : Hid (SlT w6 a6 l6 ∧ SlT w6 a55 l6) := ⟨hs6, Hs55.out.below hb6⟩
      clear hb6 hs6 hans6 HM Hst55 Hs55 p0 p1 p2 p3 p4 p5 p6 p7 p8 p9 p10 p11
      dsimp only
      go_wp2_with fail
      refine (EV _ Hst6.out).mono ?_
      rintro e w7 ⟨rfl, hb7⟩
      have Hst7 : Hid (PSt w n0 s p gs v (.slice mad m mcap) w7) := Hst6.out.below hb7
      have Hs7 : Hid (SlT w7 a6 l6 ∧ SlT w7 a55 l6) := ⟨Hs6.out.1.below hb7, Hs6.out.2.below hb7⟩
      clear hb7 Hst6 Hs6
      dsimp only
      go_wp2_with fail
      refine (HS a6 a55 c6 c55 l6 _ Hs7.out.1 Hs7.out.2 Hml.out).mono ?_
      rintro e w8 ⟨rfl, hb8⟩
      have Hst8 : Hid (PSt w n0 s p gs v (.slice mad m mcap) w8) := Hst7.out.below hb8
      clear hb8 Hst7
      dsimp only
      go_wp2_with fail
      refine (HL _ Hst8.out).mono ?_
      rintro e w9 ⟨rfl, rfl⟩
      dsimp only
      go_wp2_with fail
      first | exact HQ.out _ _ _ Hst8.out | apply HQ.out <;> exact Hst8.out
end Go.Proofs.YtnlcfnpcjkcdmadGreatDoor

/- ChainPlays' round behind the ask: the top graph, the switch, the last part. -/
namespace Go.Proofs.YtnlcfnpcjkcdmadGreatDoor
open Go Go.RowKit Go.Proofs
set_option synthInstance.maxSize 1000

attribute [local go_sem] eql_errV neq_errV guard_errV

set_option maxHeartbeats 32000000 in
set_option maxRecDepth 1000000 in
theorem playsStep (Q0 : Exit → Act → World → Prop) (u9 u12 u16 u17 u18 u19 u20 u21 u22 u23 u24 u25 u26 u27 u28 u29 u30 u31 u32 u33 u34 u60 u61 u62 u63 u64 u65 u66 u67 u68 u69 u70 u71 u72 u73 u74 u75 u76 u77 u78 u79 u80 u81 u82 u83 u84 u85 u86 u87 u88 u89 u90 u91 u92 u93 u94 u95 u96 u97 u98 u99 u100 u101 u102 u103 u104 u105 u106 u107 u108 u109 u110 u111 u112 u113 u114 u115 u116 u117 u118 u119 u120 u121 u122 u123 u124 u125 u126 u127 u128 u129 u130 u131 u132 u133 u134 u135 u136 u137 u138 u139 u140 u141 u142 u143 u144 u145 u146 u147 u148 u149 u150 u151 u152 u153 u154 u155 u156 u157 u158 u159 u160 u161 u162 u163 u164 u165 u166 u167 u168 u169 u170 u171 u172 u173 u174 u175 u176 u177 u178 u179 u180 u181 u182 u183 u184 u185 u186 u187 u188 u189 u190 u191 u192 u193 u194 u195 u196 u197 u198 u199 u200 u201 u202 u203 u204 u205 u206 u207 u208 u209 u210 u211 u212 u213 u214 u215 u216 u217 u218 u219 u220 u221 u222 u223 u224 u225 u226 u227 u228 u229 u230 u231 u232 u233 u234 u235 u236 u237 u238 u239 u240 u241 u242 u243 u244 u245 u246 u247 u248 u249 u250 u251 u252 u253 u254 u255 u256 u257 u258 u259 u260 u261 u262 u263 u264 u265 u266 u267 u268 u269 u270 u271 u272 u273 u274 u275 u276 u277 u278 u279 u280 u281 u282 u283 u284 u285 u286 u287 u288 u289 u290 u291 u292 u293 u294 u295 u296 u297 u298 u299 u300 u301 u302 u303 u304 u305 u306 u307 u308 u309 u310 u311 u312 u313 : Value) (c3 c4 c5 c6 c8 c11 c35 c36 c37 c38 c39 c40 c41 c42 c43 c44 c45 c46 c47 c48 c49 c50 c51 c52 c53 c54 c55 c56 c57 c58 c59 : Value) (sd ld qd : Option Addr) (cs cl cq k n0 nq bv : Nat) (s : List Tr) (ls : List Ly) (p : Pt) (gs : List (List Tr)) (v : Value) (x0 x1 x2 : Int) (w W : World) (mad : Option Addr) (m mcap : Nat)
    (hg : errVar w) (hs : SlT w sd s) (fp : fitPt p) (hl : ls ≠ [] → ∃ b o, ld = some ⟨b, o, none⟩ ∧ LsAt w b o ls) (fl : ∀ l ∈ ls, FitL l) (nl : ls.length ≤ 9223372036854775807) (hm : gs.length = m + 1) (hst : PSt w n0 s p gs v (.slice mad m mcap) W) (hNum : Num3 W bv x0 x1 x2) (hbv : bv ≠ n0) (hbo : v.ownBlock ≠ some bv) (hbm : Value.ownBlock (.slice mad m mcap) ≠ some bv)
    (hQ : ∀ (x9 x12 x15 x16 x17 x18 x19 x20 x21 x22 x23 x24 x25 x26 x27 x28 x29 x30 x31 x32 x33 x34 x60 x61 x62 x63 x64 x65 x66 x67 x68 x69 x70 x71 x72 x73 x74 x75 x76 x77 x78 x79 x80 x81 x82 x83 x84 x85 x86 x87 x88 x89 x90 x91 x92 x93 x94 x95 x96 x97 x98 x99 x100 x101 x102 x103 x104 x105 x106 x107 x108 x109 x110 x111 x112 x113 x114 x115 x116 x117 x118 x119 x120 x121 x122 x123 x124 x125 x126 x127 x128 x129 x130 x131 x132 x133 x134 x135 x136 x137 x138 x139 x140 x141 x142 x143 x144 x145 x146 x147 x148 x149 x150 x151 x152 x153 x154 x155 x156 x157 x158 x159 x160 x161 x162 x163 x164 x165 x166 x167 x168 x169 x170 x171 x172 x173 x174 x175 x176 x177 x178 x179 x180 x181 x182 x183 x184 x185 x186 x187 x188 x189 x190 x191 x192 x193 x194 x195 x196 x197 x198 x199 x200 x201 x202 x203 x204 x205 x206 x207 x208 x209 x210 x211 x212 x213 x214 x215 x216 x217 x218 x219 x220 x221 x222 x223 x224 x225 x226 x227 x228 x229 x230 x231 x232 x233 x234 x235 x236 x237 x238 x239 x240 x241 x242 x243 x244 x245 x246 x247 x248 x249 x250 x251 x252 x253 x254 x255 x256 x257 x258 x259 x260 x261 x262 x263 x264 x265 x266 x267 x268 x269 x270 x271 x272 x273 x274 x275 x276 x277 x278 x279 x280 x281 x282 x283 x284 x285 x286 x287 x288 x289 x290 x291 x292 x293 x294 x295 x296 x297 x298 x299 x300 x301 x302 x303 x304 x305 x306 x307 x308 x309 x310 x311 x312 x313 : Value) (vm : Value) (gs' : List (List Tr)) (v' : Value) (W' : World), PSt w n0 s p gs' v' vm W' → Q0 .normal ⟨#[.slice sd s.length cs, .slice ld ls.length cl, .slice qd nq cq, c3, c4, c5, c6, .pointer (some ⟨w.heap.size, 0, none⟩), c8, x9, .pointer (some ⟨n0, 0, none⟩), c11, x12, vm, .int .i64 (k : Int), x15, x16, x17, x18, x19, x20, x21, x22, x23, x24, x25, x26, x27, x28, x29, x30, x31, x32, x33, x34, c35, c36, c37, c38, c39, c40, c41, c42, c43, c44, c45, c46, c47, c48, c49, c50, c51, c52, c53, c54, c55, c56, c57, c58, c59, x60, x61, x62, x63, x64, x65, x66, x67, x68, x69, x70, x71, x72, x73, x74, x75, x76, x77, x78, x79, x80, x81, x82, x83, x84, x85, x86, x87, x88, x89, x90, x91, x92, x93, x94, x95, x96, x97, x98, x99, x100, x101, x102, x103, x104, x105, x106, x107, x108, x109, x110, x111, x112, x113, x114, x115, x116, x117, x118, x119, x120, x121, x122, x123, x124, x125, x126, x127, x128, x129, x130, x131, x132, x133, x134, x135, x136, x137, x138, x139, x140, x141, x142, x143, x144, x145, x146, x147, x148, x149, x150, x151, x152, x153, x154, x155, x156, x157, x158, x159, x160, x161, x162, x163, x164, x165, x166, x167, x168, x169, x170, x171, x172, x173, x174, x175, x176, x177, x178, x179, x180, x181, x182, x183, x184, x185, x186, x187, x188, x189, x190, x191, x192, x193, x194, x195, x196, x197, x198, x199, x200, x201, x202, x203, x204, x205, x206, x207, x208, x209, x210, x211, x212, x213, x214, x215, x216, x217, x218, x219, x220, x221, x222, x223, x224, x225, x226, x227, x228, x229, x230, x231, x232, x233, x234, x235, x236, x237, x238, x239, x240, x241, x242, x243, x244, x245, x246, x247, x248, x249, x250, x251, x252, x253, x254, x255, x256, x257, x258, x259, x260, x261, x262, x263, x264, x265, x266, x267, x268, x269, x270, x271, x272, x273, x274, x275, x276, x277, x278, x279, x280, x281, x282, x283, x284, x285, x286, x287, x288, x289, x290, x291, x292, x293, x294, x295, x296, x297, x298, x299, x300, x301, x302, x303, x304, x305, x306, x307, x308, x309, x310, x311, x312, x313], []⟩ W') :
    Code.wp Tryz.prog (codeOf Tryz.f4.body 15) Q0 ⟨#[.slice sd s.length cs, .slice ld ls.length cl, .slice qd nq cq, c3, c4, c5, c6, .pointer (some ⟨w.heap.size, 0, none⟩), c8, u9, .pointer (some ⟨n0, 0, none⟩), c11, u12, .slice mad m mcap, .int .i64 (k : Int), .pointer (some ⟨bv, 0, none⟩), u16, u17, u18, u19, u20, u21, u22, u23, u24, u25, u26, u27, u28, u29, u30, u31, u32, u33, u34, c35, c36, c37, c38, c39, c40, c41, c42, c43, c44, c45, c46, c47, c48, c49, c50, c51, c52, c53, c54, c55, c56, c57, c58, c59, u60, u61, u62, u63, u64, u65, u66, u67, u68, u69, u70, u71, u72, u73, u74, u75, u76, u77, u78, u79, u80, u81, u82, u83, u84, u85, u86, u87, u88, u89, u90, u91, u92, u93, u94, u95, u96, u97, u98, u99, u100, u101, u102, u103, u104, u105, u106, u107, u108, u109, u110, u111, u112, u113, u114, u115, u116, u117, u118, u119, u120, u121, u122, u123, u124, u125, u126, u127, u128, u129, u130, u131, u132, u133, u134, u135, u136, u137, u138, u139, u140, u141, u142, u143, u144, u145, u146, u147, u148, u149, u150, u151, u152, u153, u154, u155, u156, u157, u158, u159, u160, u161, u162, u163, u164, u165, u166, u167, u168, u169, u170, u171, u172, u173, u174, u175, u176, u177, u178, u179, u180, u181, u182, u183, u184, u185, u186, u187, u188, u189, u190, u191, u192, u193, u194, u195, u196, u197, u198, u199, u200, u201, u202, u203, u204, u205, u206, u207, u208, u209, u210, u211, u212, u213, u214, u215, u216, u217, u218, u219, u220, u221, u222, u223, u224, u225, u226, u227, u228, u229, u230, u231, u232, u233, u234, u235, u236, u237, u238, u239, u240, u241, u242, u243, u244, u245, u246, u247, u248, u249, u250, u251, u252, u253, u254, u255, u256, u257, u258, u259, u260, u261, u262, u263, u264, u265, u266, u267, u268, u269, u270, u271, u272, u273, u274, u275, u276, u277, u278, u279, u280, u281, u282, u283, u284, u285, u286, u287, u288, u289, u290, u291, u292, u293, u294, u295, u296, u297, u298, u299, u300, u301, u302, u303, u304, u305, u306, u307, u308, u309, u310, u311, u312, u313], []⟩ W := by
  have HQ : Hid _ := hQ
  have hm30 : m ≤ 30 := by have := hst.2.1; omega
  have HGr := fun W (h : PSt w n0 s p gs v (.slice mad m mcap) W) => lgraph_any sd cs (w.heap.size + 1) (.slice mad m mcap) s gs m (gat gs m) W (hs.below h.1.2.2.2.1) h.1.2.1 h.sets h.2.2 (by omega) (gat_eq (by omega))
  have Hg : Hid (errVar w) := hg
  have Hs : Hid (SlT w sd s) := hs
  have Hp : Hid (fitPt p) := fp
  have Hl : Hid _ := hl
  have Hf : Hid (∀ l ∈ ls, FitL l) := fl
  have Hnl : Hid (ls.length ≤ 9223372036854775807) := nl
  have Hmm : Hid (gs.length = m + 1) := hm
  have Hst : Hid (PSt w n0 s p gs v (.slice mad m mcap) W) := hst
  have HNum : Hid (Num3 W bv x0 x1 x2) := hNum
  have hbp : Hid (bv ≠ n0 ∧ v.ownBlock ≠ some bv ∧ Value.ownBlock (.slice mad m mcap) ≠ some bv) := ⟨hbv, hbo, hbm⟩
  clear hQ hg hs fp hl fl nl hm hst hNum hbv hbo hbm
  conv => arg 2; whnf
  go_wp2_with fail
  refine (HGr _ Hst.out).mono ?_
  rintro e w5 ⟨hb5, a5, c5, rfl, hs5⟩
  have Hst5 : Hid (PSt w n0 s p gs v (.slice mad m mcap) w5) := Hst.out.below hb5
  have HNum5 : Hid (Num3 w5 bv x0 x1 x2) := HNum.out.below hb5
  have Hs5 : Hid (SlT w5 a5 (gat gs m)) := hs5
  clear hs5 hb5 HGr Hst HNum
  obtain ⟨y0, y1, y2, _, _, _⟩ := id HNum5.out
  (try dsimp only)
  go_upto_block 4 with fail
  refine playsSwitch _ _ _ _ _ _ _ _ _ _ _ _ _ _ _ _ _ _ _ _ _ _ _ _ _ _ _ _ _ _ _ _ _ _ _ _ _ _ _ _ _ _ _ _ _ _ _ _ _ _ _ _ _ _ _ _ _ _ _ _ _ _ _ _ _ _ _ _ _ _ _ _ _ _ _ _ _ _ _ _ _ _ _ _ _ _ _ _ _ _ _ _ _ _ _ _ _ _ _ _ _ _ _ _ _ _ _ _ _ _ _ _ _ _ _ _ _ _ _ _ _ _ _ _ _ _ _ _ _ _ _ _ _ _ _ _ _ _ _ _ _ _ _ _ _ _ _ _ _ _ _ _ _ _ _ _ _ _ _ _ _ _ _ _ _ _ _ _ _ _ _ _ _ _ _ _ _ _ _ _ _ _ _ _ _ _ _ _ _ _ _ _ _ _ _ _ _ _ _ _ _ _ _ _ _ _ _ _ _ _ _ _ _ _ _ _ _ _ _ _ _ _ _ _ _ _ _ _ _ _ _ _ _ _ _ _ _ _ _ _ _ _ _ _ _ _ _ _ _ _ _ _ _ _ _ _ _ _ _ _ _ _ _ _ _ _ _ _ _ _ _ _ _ _ _ _ _ _ _ _ _ _ _ _ _ _ _ _ _ _ _ _ _ _ _ _ _ _ _ _ _ _ _ _ _ sd ld qd cs cl cq k n0 nq bv s ls p gs v x0 x1 x2 w w5 mad a5 m mcap c5 Hg.out Hl.out Hf.out Hnl.out Hmm.out Hst5.out HNum5.out Hs5.out hbp.out.1 hbp.out.2.1 hbp.out.2.2 ?_
  intros
  rename_i vm gs' v' W' hst' hN'
  obtain ⟨mad', mcap', hvm⟩ := hst'.1.2.1.form
  have hpos : 0 < gs'.length := hst'.1.1.pos
  obtain ⟨m', hm'⟩ : ∃ m', gs'.length = m' + 1 := ⟨gs'.length - 1, by omega⟩
  rw [show gs'.length - 1 = m' by omega] at hvm
  subst hvm
  refine go_on (by assumption) ?_
  refine playsTail _ _ _ _ _ _ _ _ _ _ _ _ _ _ _ _ _ _ _ _ _ _ _ _ _ _ _ _ _ _ _ _ _ _ _ _ _ _ _ _ _ _ _ _ _ _ _ _ _ _ _ _ _ _ _ _ _ _ _ _ _ _ _ _ _ _ _ _ _ _ _ _ _ _ _ _ _ _ _ _ _ _ _ _ _ _ _ _ _ _ _ _ _ _ _ _ _ _ _ _ _ _ _ _ _ _ _ _ _ _ _ _ _ _ _ _ _ _ _ _ _ _ _ _ _ _ _ _ _ _ _ _ _ _ _ _ _ _ _ _ _ _ _ _ _ _ _ _ _ _ _ _ _ _ _ _ _ _ _ _ _ _ _ _ _ _ _ _ _ _ _ _ _ _ _ _ _ _ _ _ _ _ _ _ _ _ _ _ _ _ _ _ _ _ _ _ _ _ _ _ _ _ _ _ _ _ _ _ _ _ _ _ _ _ _ _ _ _ _ _ _ _ _ _ _ _ _ _ _ _ _ _ _ _ _ _ _ _ _ _ _ _ _ _ _ _ _ _ _ _ _ _ _ _ _ _ _ _ _ _ _ _ _ _ _ _ _ _ _ _ _ _ _ _ _ _ _ _ _ _ _ _ _ _ _ _ _ _ _ _ _ _ _ _ _ _ _ _ _ _ _ _ _ _ _ _ sd ld qd cs cl cq k n0 nq bv s ls p gs' v' x0 x1 x2 w W' mad' m' mcap' Hg.out Hs.out Hp.out hm' hst' hN' ?_
  intros
  apply HQ.out <;> assumption
end Go.Proofs.YtnlcfnpcjkcdmadGreatDoor
