import Derived.Test.YtgdjeohcimkljadGreatDoorCPCode
import Derived.Deep.RegionLaw
import Derived.Deep.RegionHeld3
import Derived.Deep.DeepCutAuto
import Derived.Deep.CutBlock

/- The law's list of layers, laid anew where layers were made one. -/
namespace Go.Proofs.YtgdjeohcimkljadGreatDoor
open Go Go.RowKit Go.Proofs
set_option synthInstance.maxSize 1000

theorem run_append_zero {W : World} {base : Nat} {v : Value} {xs : List Vp} (h : SheetV W base v xs) (ad : Option Addr) (c : Nat) (ty : TypeId) : (Builtin.append_ #[40, 40] ty #[v, .slice ad 0 c]).run Tryz.prog W = .ok v W := by
  obtain ⟨i0, hi, hz⟩ := Option.map_eq_some_iff.1 infoLy
  rcases h with ⟨rfl, rfl⟩ | ⟨g, cap, rfl, _, _, h⟩
  · cases ad with
    | none => simp [Builtin.append_, run_underlying Tryz.underlying40, sizeOf, typeInfo, hi, Builtin.lenOf, run_firstCells_none]
    | some a =>
      have hf := run_firstCells_some (P := Tryz.prog) W i0.size 0 a 0 c [] (by simp) (by simp)
      simp [Builtin.append_, run_underlying Tryz.underlying40, sizeOf, typeInfo, hi, Builtin.lenOf, hf]
  · cases ad with
    | none =>
      have hle := h.le
      simp [Builtin.append_, run_underlying Tryz.underlying40, sizeOf, typeInfo, hi, Builtin.lenOf, run_firstCells_none, hle, storeCells]
    | some a =>
      have := run_append_room_cells (P := Tryz.prog) W 40 ty 31 i0 Tryz.underlying40 hi g 0 xs.length cap a 0 c [] (by simp) (by simp) (by simp) (by have := h.le; omega) (by simp) (by simp)
      simpa [World.setCells] using this
/-- some layers of a row put behind another one -/
theorem append_part {W : World} {base : Nat} {v : Value} {xs ys zs : List Vp} {g cap : Nat} (h : SheetV W base v xs) (hS : Sheet W g cap zs) (o : Nat) (ho : ∀ j, j < ys.length → zs[o + j]? = ys[j]?) (hy : ys.length ≤ 900) (hx : xs.length ≤ 900) (hb : base ≤ W.heap.size) (ad : Option Addr) (c : Nat) (had : 0 < ys.length → ad = some ⟨g, o * 2, none⟩) (ty : TypeId) :
    ∃ v' W', (Builtin.append_ #[40, 40] ty #[v, .slice ad ys.length c]).run Tryz.prog W = .ok v' W' ∧ SheetV W' base v' (xs ++ ys) ∧ RowKit.Below base W W' ∧ RowsOn W W' := by
  obtain ⟨i0, hi, hz⟩ := Option.map_eq_some_iff.1 infoLy
  simp only [Prod.mk.injEq] at hz
  obtain ⟨hz0, hz1, hz2⟩ := hz
  by_cases h0 : 0 < ys.length
  · have had' := had h0
    subst had'
    have hc : ∀ (j : Nat) u, (cellsL ys)[j]? = some u → (cellsL zs)[o * 2 + j]? = some u := fun j u hu => by
      have hj := (List.getElem?_eq_some_iff.1 hu).1
      rw [cellsL_len] at hj
      rw [cellsL_at] at hu ⊢
      rw [show (o * 2 + j) / 2 = o + j / 2 by omega, show (o * 2 + j) % 2 = j % 2 by omega, ho (j / 2) (by omega)]
      exact hu
    obtain ⟨v', W', hr, hS', hgr, hrow, _⟩ := run_append_sheets (P := Tryz.prog) 40 ty 31 i0 Tryz.underlying40 hi hz0 hz1 (by omega) h h0 (by omega) (fun j u hu => cellsL_sl hS _ u (hc j u hu)) ⟨g, o * 2, none⟩ c (fun j u hu => by rw [Addr.add_lit]; exact hS.at_ _ u (hc j u hu)) hb (by omega)
    exact ⟨v', W', hr, hS', (RowKit.Below.refl _ _).grown hgr hb (fun k hk => (h.lt k hk).1), hrow⟩
  · have e : ys = [] := List.eq_nil_of_length_eq_zero (by omega)
    subst e
    exact ⟨v, W, run_append_zero h ad c ty, by simpa using h, RowKit.Below.refl _ _, fun _ _ x => x⟩
/-- one layer, in a new block, put behind a row -/
theorem append_one {W : World} {base : Nat} {v : Value} {xs : List Vp} (h : SheetV W base v xs) (a1 a2 : Option Addr) (n1 n2 c1 c2 : Nat) (hx : xs.length ≤ 900) (hb : base ≤ W.heap.size) (ty : TypeId) :
    ∃ v' W', (Builtin.append_ #[40, 40] ty #[v, .slice (some ⟨W.heap.size, 0, none⟩) 1 1]).run Tryz.prog (W.alloc (.cells #[.slice a1 n1 c1, .slice a2 n2 c2] 31)) = .ok v' W' ∧ SheetV W' base v' (xs ++ [(.slice a1 n1 c1, .slice a2 n2 c2)]) ∧ RowKit.Below base W W' ∧ RowsOn W W' := by
  obtain ⟨i0, hi, hz⟩ := Option.map_eq_some_iff.1 infoLy
  simp only [Prod.mk.injEq] at hz
  obtain ⟨hz0, hz1, hz2⟩ := hz
  have hbA := balloc W (.cells #[.slice a1 n1 c1, .slice a2 n2 c2] 31)
  obtain ⟨v', W', hr, hS', hgr, hrow, _, _⟩ := run_append_sheet (P := Tryz.prog) 40 ty 31 i0 Tryz.underlying40 hi hz0 hz1 (by omega) (h.below hbA) (.slice a1 n1 c1, .slice a2 n2 c2) rfl rfl ⟨W.heap.size, 0, none⟩ 1 (fun j y hj => by
    have h2 : j < 2 := (List.getElem?_eq_some_iff.1 hj).1
    rw [Addr.add_lit]
    rcases (by omega : j = 0 ∨ j = 1) with rfl | rfl
    all_goals
      simp at hj
      subst hj
      simp) (by simp; omega) (by omega)
  exact ⟨v', W', hr, hS', ((hbA.mono hb).grown hgr (by simp; omega) (fun k hk => (h.lt k hk).1)), (RowsOn.of_below hbA).trans hrow⟩
end Go.Proofs.YtgdjeohcimkljadGreatDoor

/- ChainPlays' round: layers are made one, the law's list. -/
namespace Go.Proofs.YtgdjeohcimkljadGreatDoor
open Go Go.RowKit Go.Proofs
set_option synthInstance.maxSize 1000

theorem SheetV.mono {W : World} {B B' : Nat} {v : Value} {xs : List Vp} (h : SheetV W B v xs) (hB : B' ≤ B) : SheetV W B' v xs := by
  rcases h with h | ⟨g, cap, rfl, h1, h2⟩
  · exact Or.inl h
  · exact Or.inr ⟨g, cap, rfl, Nat.le_trans hB h1, h2⟩
theorem sheet_nil (W : World) : SheetV W W.heap.size (.slice none 0 0) [] := Or.inl ⟨rfl, rfl⟩
/-- the law's list, laid anew -/
theorem psNext {w W W3 : World} {n0 : Nat} {p : Pt} {gs gs' : List (List Tr)} {v vm v3 : Value} {xs : List Vp} (h : PSh w n0 p gs' gs v vm W) (hb : RowKit.Below W.heap.size W W3) (hS : SheetV W3 W.heap.size v3 xs) (hL : LaysV W3 xs (stepsL gs')) : PSh w n0 p gs' gs' v v3 W3 := by
  have h3 := h.below hb
  have hw := h.2.2.2.2.1.lt
  refine ⟨h3.1, ⟨xs, hS.mono (by omega), hL⟩, fun g hg => ?_, h3.2.2.2⟩
  have := (hS.lt g hg).1
  refine ⟨by have := h.1.lt; omega, fun e => ?_⟩
  have := (h.1.own g e).2
  omega

attribute [local go_sem] eql_errV neq_errV guard_errV

set_option maxHeartbeats 32000000 in
set_option maxRecDepth 1000000 in
theorem playsSquash2 (Q0 : Exit → Act → World → Prop) (u9 u16 u17 u18 u19 u20 u21 u22 u24 u25 u26 u27 u28 u29 u30 u31 u32 u33 u34 u60 u61 u62 u63 u64 u65 u66 u67 u68 u69 u70 u71 u72 u73 u74 u75 u76 u77 u78 u79 u80 u81 u82 u83 u84 u85 u86 u87 u88 u89 u90 u91 u92 u93 u94 u95 u96 u97 u98 u99 u100 u101 u102 u103 u104 u105 u106 u107 u108 u109 u110 u111 u112 u113 u114 u115 u116 u117 u118 u119 u120 u121 u122 u123 u124 u125 u126 u127 u128 u129 u130 u131 u132 u133 u134 u135 u136 u137 u138 u139 u140 u141 u142 u143 u144 u145 u146 u147 u148 u149 u150 u151 u152 u153 u154 u155 u156 u157 u158 u159 u160 u161 u162 u163 u164 u165 u166 u167 u168 u169 u170 u171 u172 u173 u174 u175 u176 u177 u178 u179 u180 u181 u182 u183 u184 u185 u186 u187 u188 u189 u190 u191 u192 u193 u194 u195 u196 u197 u198 u199 u200 u201 u202 u203 u204 u205 u206 u207 u208 u209 u210 u211 u212 u213 u214 u215 u216 u217 u218 u219 u220 u221 u222 u223 u224 u225 u226 u227 u228 u229 u230 u231 u232 u233 u234 u235 u236 u237 u238 u239 u240 u241 u242 u243 u244 u245 u246 u247 u248 u249 u250 u251 u252 u253 u254 u255 u256 u257 u258 u259 u260 u261 u262 u263 u264 u265 u266 u267 u268 u269 u270 u271 u272 u273 u274 u275 u276 u277 u278 u279 u280 u281 u282 u283 u284 u285 u286 u287 u288 u289 u290 u291 u292 u293 u294 u295 u296 u297 u298 u299 u300 u301 u302 u303 u304 u305 u306 u307 u308 u309 u310 u311 u312 u313 : Value) (c3 c4 c5 c6 c8 c11 c35 c36 c37 c38 c39 c40 c41 c42 c43 c44 c45 c46 c47 c48 c49 c50 c51 c52 c53 c54 c55 c56 c57 c58 c59 : Value) (sd ld qd : Option Addr) (cs cl cq k n0 nq bv : Nat) (s : List Tr) (ls : List Ly) (p : Pt) (gs : List (List Tr)) (v : Value) (x0 : Int) (w W : World) (a1 a2 : Option Addr) (bl i t m mcap c1 c2 bx : Nat)
    (hm : gs.length = m + 1) (hm30 : m ≤ 30) (hit : i + 1 ≤ t) (htm : t ≤ m) (hh : PSh w n0 p (gs.take (i + 1) ++ gs.drop t) gs v (.slice (some ⟨bl, 0, none⟩) m mcap) W) (h0 : gs[0]? = some s) (hNum : Num3 W bv x0 ((i : Int) + 1) (t : Int)) (hX : XAt W bx a1 a2 c1 c2 (btw (gat gs i) (gat gs t)))
    (hQ : ∀ (x9 x16 x17 x18 x19 x20 x21 x22 x23 x24 x25 x26 x27 x28 x29 x30 x31 x32 x33 x34 x60 x61 x62 x63 x64 x65 x66 x67 x68 x69 x70 x71 x72 x73 x74 x75 x76 x77 x78 x79 x80 x81 x82 x83 x84 x85 x86 x87 x88 x89 x90 x91 x92 x93 x94 x95 x96 x97 x98 x99 x100 x101 x102 x103 x104 x105 x106 x107 x108 x109 x110 x111 x112 x113 x114 x115 x116 x117 x118 x119 x120 x121 x122 x123 x124 x125 x126 x127 x128 x129 x130 x131 x132 x133 x134 x135 x136 x137 x138 x139 x140 x141 x142 x143 x144 x145 x146 x147 x148 x149 x150 x151 x152 x153 x154 x155 x156 x157 x158 x159 x160 x161 x162 x163 x164 x165 x166 x167 x168 x169 x170 x171 x172 x173 x174 x175 x176 x177 x178 x179 x180 x181 x182 x183 x184 x185 x186 x187 x188 x189 x190 x191 x192 x193 x194 x195 x196 x197 x198 x199 x200 x201 x202 x203 x204 x205 x206 x207 x208 x209 x210 x211 x212 x213 x214 x215 x216 x217 x218 x219 x220 x221 x222 x223 x224 x225 x226 x227 x228 x229 x230 x231 x232 x233 x234 x235 x236 x237 x238 x239 x240 x241 x242 x243 x244 x245 x246 x247 x248 x249 x250 x251 x252 x253 x254 x255 x256 x257 x258 x259 x260 x261 x262 x263 x264 x265 x266 x267 x268 x269 x270 x271 x272 x273 x274 x275 x276 x277 x278 x279 x280 x281 x282 x283 x284 x285 x286 x287 x288 x289 x290 x291 x292 x293 x294 x295 x296 x297 x298 x299 x300 x301 x302 x303 x304 x305 x306 x307 x308 x309 x310 x311 x312 x313 : Value) (vm : Value) (gs' : List (List Tr)) (v' : Value) (W' : World), PSt w n0 s p gs' v' vm W' → Num3 W' bv x0 ((i : Int) + 1) (t : Int) → Q0 .normal ⟨#[.slice sd s.length cs, .slice ld ls.length cl, .slice qd nq cq, c3, c4, c5, c6, .pointer (some ⟨w.heap.size, 0, none⟩), c8, x9, .pointer (some ⟨n0, 0, none⟩), c11, .bool true, vm, .int .i64 (k : Int), .pointer (some ⟨bv, 0, none⟩), x16, x17, x18, x19, x20, x21, x22, x23, x24, x25, x26, x27, x28, x29, x30, x31, x32, x33, x34, c35, c36, c37, c38, c39, c40, c41, c42, c43, c44, c45, c46, c47, c48, c49, c50, c51, c52, c53, c54, c55, c56, c57, c58, c59, x60, x61, x62, x63, x64, x65, x66, x67, x68, x69, x70, x71, x72, x73, x74, x75, x76, x77, x78, x79, x80, x81, x82, x83, x84, x85, x86, x87, x88, x89, x90, x91, x92, x93, x94, x95, x96, x97, x98, x99, x100, x101, x102, x103, x104, x105, x106, x107, x108, x109, x110, x111, x112, x113, x114, x115, x116, x117, x118, x119, x120, x121, x122, x123, x124, x125, x126, x127, x128, x129, x130, x131, x132, x133, x134, x135, x136, x137, x138, x139, x140, x141, x142, x143, x144, x145, x146, x147, x148, x149, x150, x151, x152, x153, x154, x155, x156, x157, x158, x159, x160, x161, x162, x163, x164, x165, x166, x167, x168, x169, x170, x171, x172, x173, x174, x175, x176, x177, x178, x179, x180, x181, x182, x183, x184, x185, x186, x187, x188, x189, x190, x191, x192, x193, x194, x195, x196, x197, x198, x199, x200, x201, x202, x203, x204, x205, x206, x207, x208, x209, x210, x211, x212, x213, x214, x215, x216, x217, x218, x219, x220, x221, x222, x223, x224, x225, x226, x227, x228, x229, x230, x231, x232, x233, x234, x235, x236, x237, x238, x239, x240, x241, x242, x243, x244, x245, x246, x247, x248, x249, x250, x251, x252, x253, x254, x255, x256, x257, x258, x259, x260, x261, x262, x263, x264, x265, x266, x267, x268, x269, x270, x271, x272, x273, x274, x275, x276, x277, x278, x279, x280, x281, x282, x283, x284, x285, x286, x287, x288, x289, x290, x291, x292, x293, x294, x295, x296, x297, x298, x299, x300, x301, x302, x303, x304, x305, x306, x307, x308, x309, x310, x311, x312, x313], []⟩ W') :
    Code.wp Tryz.prog (codeOf Tryz.f4.body 28) Q0 ⟨#[.slice sd s.length cs, .slice ld ls.length cl, .slice qd nq cq, c3, c4, c5, c6, .pointer (some ⟨w.heap.size, 0, none⟩), c8, u9, .pointer (some ⟨n0, 0, none⟩), c11, .bool true, .slice (some ⟨bl, 0, none⟩) m mcap, .int .i64 (k : Int), .pointer (some ⟨bv, 0, none⟩), u16, u17, u18, u19, u20, u21, u22, .pointer (some ⟨bx, 0, none⟩), u24, u25, u26, u27, u28, u29, u30, u31, u32, u33, u34, c35, c36, c37, c38, c39, c40, c41, c42, c43, c44, c45, c46, c47, c48, c49, c50, c51, c52, c53, c54, c55, c56, c57, c58, c59, u60, u61, u62, u63, u64, u65, u66, u67, u68, u69, u70, u71, u72, u73, u74, u75, u76, u77, u78, u79, u80, u81, u82, u83, u84, u85, u86, u87, u88, u89, u90, u91, u92, u93, u94, u95, u96, u97, u98, u99, u100, u101, u102, u103, u104, u105, u106, u107, u108, u109, u110, u111, u112, u113, u114, u115, u116, u117, u118, u119, u120, u121, u122, u123, u124, u125, u126, u127, u128, u129, u130, u131, u132, u133, u134, u135, u136, u137, u138, u139, u140, u141, u142, u143, u144, u145, u146, u147, u148, u149, u150, u151, u152, u153, u154, u155, u156, u157, u158, u159, u160, u161, u162, u163, u164, u165, u166, u167, u168, u169, u170, u171, u172, u173, u174, u175, u176, u177, u178, u179, u180, u181, u182, u183, u184, u185, u186, u187, u188, u189, u190, u191, u192, u193, u194, u195, u196, u197, u198, u199, u200, u201, u202, u203, u204, u205, u206, u207, u208, u209, u210, u211, u212, u213, u214, u215, u216, u217, u218, u219, u220, u221, u222, u223, u224, u225, u226, u227, u228, u229, u230, u231, u232, u233, u234, u235, u236, u237, u238, u239, u240, u241, u242, u243, u244, u245, u246, u247, u248, u249, u250, u251, u252, u253, u254, u255, u256, u257, u258, u259, u260, u261, u262, u263, u264, u265, u266, u267, u268, u269, u270, u271, u272, u273, u274, u275, u276, u277, u278, u279, u280, u281, u282, u283, u284, u285, u286, u287, u288, u289, u290, u291, u292, u293, u294, u295, u296, u297, u298, u299, u300, u301, u302, u303, u304, u305, u306, u307, u308, u309, u310, u311, u312, u313], []⟩ W := by
  have HQ : Hid _ := hQ
  obtain ⟨y0, y1, y2, _, _, _⟩ := id hNum
  obtain ⟨xm, hS, hL⟩ := hh.2.1
  have hx := hL.1.trans (stepsL_len _)
  rcases hS with ⟨e1, _⟩ | ⟨g', cap', e1, hg1, hg2, hSh⟩
  · simp at e1
  obtain ⟨e2, e3, e4⟩ := Value.slice.inj e1
  obtain ⟨e5, _⟩ := Addr.mk.inj (Option.some.inj e2)
  subst e5 e4
  have hle := hSh.le
  obtain ⟨v1, W1, R1, S1, B1, O1⟩ := append_part (ys := xm.take i) (sheet_nil W) hSh 0 (fun j hj => by rw [Nat.zero_add]; simp at hj; rw [List.getElem?_take_of_lt (by omega)]) (by simp; omega) (by simp) (Nat.le_refl _) (some ⟨bl, 0, none⟩) mcap (fun _ => rfl) 40
  rw [List.length_take, Nat.min_eq_left (by omega)] at R1
  obtain ⟨⟨b0, b1⟩, q1, q2⟩ := hX.below B1
  obtain ⟨v2, W2, R2, S2, B2, O2⟩ := append_one S1 a1 a2 (btw (gat gs i) (gat gs t)).1.length (btw (gat gs i) (gat gs t)).2.length c1 c2 (by simp; omega) B1.size 40
  have B12 := B1.trans B2
  have hSh2 : Sheet W2 bl mcap xm := hSh.keep (B12.block bl hg2)
  have hNum2 := hNum.below B12
  obtain ⟨z0, z1, z2, _, _, _⟩ := id hNum2
  obtain ⟨v3, W3, R3, S3, B3, O3⟩ := append_part (ys := xm.drop t) S2 hSh2 t (fun j hj => by rw [List.getElem?_drop]) (by simp; omega) (by simp; omega) B12.size (if mcap = t then some ⟨bl, 0, none⟩ else some ⟨bl, t * 2, none⟩) (mcap - t) (fun h => by rw [if_neg (by simp at h; omega)]) 40
  rw [List.length_drop, show xm.length - t = m - t by omega] at R3
  have B13 := B12.trans B3
  have hL' : LaysV W xm (stepsL gs) := hL
  have hlay : LaysV W3 ((xm.take i ++ [(Value.slice a1 (btw (gat gs i) (gat gs t)).1.length c1, Value.slice a2 (btw (gat gs i) (gat gs t)).2.length c2)]) ++ xm.drop t) (stepsL (gs.take (i + 1) ++ gs.drop t)) := by
    rw [stepsL_squash gs (i + 1) t (gat gs i) (gat gs t) (by omega) hit (by rw [Nat.add_sub_cancel]; exact gat_eq (by omega)) (gat_eq (by omega)), Nat.add_sub_cancel, List.append_assoc, List.singleton_append]
    exact (hL'.rows (RowsOn.of_below B13)).cut ⟨a1, c1, a2, c2, rfl, hX.2.1.below B13, hX.2.2.below B13⟩ i t (by omega) (by omega)
  have Hfin : Hid (PSt w n0 s p (gs.take (i + 1) ++ gs.drop t) v v3 W3) := ⟨psNext hh B13 (by simpa using S3) (by simpa using hlay), by rw [sq_len hit (by omega)]; omega, by rw [sq_low hit (by omega) (by omega)]; rw [← gat_eq (by omega)]; exact h0⟩
  have HNum3' : Hid (Num3 W3 bv x0 ((i : Int) + 1) (t : Int)) := hNum.below B13
  have r1 : Hid _ := R1
  have r2 : Hid _ := R2
  have r3 : Hid _ := R3
  have hbvW1 : W1.cell? ⟨bv, 2, none⟩ = some (.int .i64 (t : Int)) := ((hNum.below B1).2.2.1)
  have hmc : m ≤ mcap := by omega
  have k1 : (i : Int) ≤ (mcap : Int) := by omega
  have k2 : (0 : Int) ≤ (i : Int) := by omega
  have k3 : (t : Int) ≤ (m : Int) := by omega
  have k4 : (0 : Int) ≤ (t : Int) := by omega
  have k5 := wrapN i (by omega)
  clear hQ hm hh h0 hNum hX hL hSh hSh2 hL' hlay S1 S2 S3 B1 B2 B3 B12 B13 O1 O2 O3 R1 R2 R3 q1 q2 e1 e2 e3 hx hle hNum2 hg1 hg2 z0 z1
  conv => arg 2; whnf
  by_cases hct : mcap = t
  · have hmt : m = t := by omega
    rw [if_pos hct] at r3
    subst hct hmt
    rw [Nat.sub_self] at r3
    go_wp2_with (first
      | (at_builtin; refine wpList_append_eq rfl _ _ 40 rfl rfl rfl r1.out ?_)
      | (at_builtin; refine wpList_append_eq rfl _ _ 40 rfl rfl rfl r2.out ?_)
      | (at_builtin; refine wpList_append_eq rfl _ _ 40 rfl rfl rfl r3.out ?_))
    first | exact HQ.out _ _ _ _ _ _ Hfin.out HNum3'.out | (apply HQ.out; exact Hfin.out; exact HNum3'.out)
  · rw [if_neg hct] at r3
    have hct' : ¬ (mcap : Int) = (t : Int) := by omega
    go_wp2_with (first
      | (at_builtin; refine wpList_append_eq rfl _ _ 40 rfl rfl rfl r1.out ?_)
      | (at_builtin; refine wpList_append_eq rfl _ _ 40 rfl rfl rfl r2.out ?_)
      | (at_builtin; refine wpList_append_eq rfl _ _ 40 rfl rfl rfl r3.out ?_))
    first | exact HQ.out _ _ _ _ _ _ Hfin.out HNum3'.out | (apply HQ.out; exact Hfin.out; exact HNum3'.out)
end Go.Proofs.YtgdjeohcimkljadGreatDoor

/- ChainPlays' round: layers are made one. -/
namespace Go.Proofs.YtgdjeohcimkljadGreatDoor
open Go Go.RowKit Go.Proofs
set_option synthInstance.maxSize 1000

/-- R.Then of layers between three sets -/
theorem RThenGood_any (a1 a2 a3 a4 : Option Addr) (c1 c2 c3 c4 : Nat) (a b c : List Tr) (w : World) (h1 : SlT w a1 (lessL b a)) (h2 : SlT w a2 (lessL a b)) (h3 : SlT w a3 (lessL c b)) (h4 : SlT w a4 (lessL b c)) (sa : IsSet a) (sb : IsSet b) (sc : IsSet c) :
    Calls Tryz.prog 18 #[.agg #[.slice a1 (lessL b a).length c1, .slice a2 (lessL a b).length c2], .agg #[.slice a3 (lessL c b).length c3, .slice a4 (lessL b c).length c4]] w fun e w' => RowKit.Below w.heap.size w w' ∧ ∃ r1 t1 r2 t2, e = .returned (.tuple #[.agg #[.slice r1 (lessL c a).length t1, .slice r2 (lessL a c).length t2], .int .i64 0]) ∧ SlT w' r1 (lessL c a) ∧ SlT w' r2 (lessL a c) := by
  have h0 := then_btw sa sb sc
  refine (RThen_any a1 a2 a3 a4 c1 c2 c3 c4 (lessL b a) (lessL a b) (lessL c b) (lessL b c) w h1 h2 h3 h4 (lessSet sb) (lessSet sa) (lessSet sc) (lessSet sb) (btw_check sa sb) (btw_check sb sc)).mono ?_
  rintro e w' ⟨hb', m1, am, cm, m2, an, cn, rfl, g1, g2, hA⟩
  obtain ⟨rfl, rfl⟩ := then_btw_ans sa sb sc hA
  exact ⟨hb', am, cm, an, cn, by rw [h0], g1, g2⟩

attribute [local go_sem] eql_errV neq_errV guard_errV

set_option maxHeartbeats 32000000 in
set_option maxRecDepth 1000000 in
theorem playsSquash (Q0 : Exit → Act → World → Prop) (u9 u12 u16 u18 u19 u20 u21 u22 u23 u24 u25 u26 u27 u28 u29 u30 u31 u32 u33 u34 u60 u61 u62 u63 u64 u65 u66 u67 u68 u69 u70 u71 u72 u73 u74 u75 u76 u77 u78 u79 u80 u81 u82 u83 u84 u85 u86 u87 u88 u89 u90 u91 u92 u93 u94 u95 u96 u97 u98 u99 u100 u101 u102 u103 u104 u105 u106 u107 u108 u109 u110 u111 u112 u113 u114 u115 u116 u117 u118 u119 u120 u121 u122 u123 u124 u125 u126 u127 u128 u129 u130 u131 u132 u133 u134 u135 u136 u137 u138 u139 u140 u141 u142 u143 u144 u145 u146 u147 u148 u149 u150 u151 u152 u153 u154 u155 u156 u157 u158 u159 u160 u161 u162 u163 u164 u165 u166 u167 u168 u169 u170 u171 u172 u173 u174 u175 u176 u177 u178 u179 u180 u181 u182 u183 u184 u185 u186 u187 u188 u189 u190 u191 u192 u193 u194 u195 u196 u197 u198 u199 u200 u201 u202 u203 u204 u205 u206 u207 u208 u209 u210 u211 u212 u213 u214 u215 u216 u217 u218 u219 u220 u221 u222 u223 u224 u225 u226 u227 u228 u229 u230 u231 u232 u233 u234 u235 u236 u237 u238 u239 u240 u241 u242 u243 u244 u245 u246 u247 u248 u249 u250 u251 u252 u253 u254 u255 u256 u257 u258 u259 u260 u261 u262 u263 u264 u265 u266 u267 u268 u269 u270 u271 u272 u273 u274 u275 u276 u277 u278 u279 u280 u281 u282 u283 u284 u285 u286 u287 u288 u289 u290 u291 u292 u293 u294 u295 u296 u297 u298 u299 u300 u301 u302 u303 u304 u305 u306 u307 u308 u309 u310 u311 u312 u313 : Value) (c3 c4 c5 c6 c8 c11 c35 c36 c37 c38 c39 c40 c41 c42 c43 c44 c45 c46 c47 c48 c49 c50 c51 c52 c53 c54 c55 c56 c57 c58 c59 : Value) (sd ld qd : Option Addr) (cs cl cq k n0 nq bv : Nat) (s : List Tr) (ls : List Ly) (p : Pt) (gs : List (List Tr)) (v : Value) (x0 x1 x2 : Int) (w W : World) (mad td : Option Addr) (m mcap ct : Nat)
    (hg : errVar w) (hm : gs.length = m + 1) (hst : PSt w n0 s p gs v (.slice mad m mcap) W) (hNum : Num3 W bv x0 x1 x2) (hbv : bv ≠ n0) (hbo : v.ownBlock ≠ some bv) (hbm : Value.ownBlock (.slice mad m mcap) ≠ some bv)
    (hQ : ∀ (x9 x16 x17 x18 x19 x20 x21 x22 x23 x24 x25 x26 x27 x28 x29 x30 x31 x32 x33 x34 x60 x61 x62 x63 x64 x65 x66 x67 x68 x69 x70 x71 x72 x73 x74 x75 x76 x77 x78 x79 x80 x81 x82 x83 x84 x85 x86 x87 x88 x89 x90 x91 x92 x93 x94 x95 x96 x97 x98 x99 x100 x101 x102 x103 x104 x105 x106 x107 x108 x109 x110 x111 x112 x113 x114 x115 x116 x117 x118 x119 x120 x121 x122 x123 x124 x125 x126 x127 x128 x129 x130 x131 x132 x133 x134 x135 x136 x137 x138 x139 x140 x141 x142 x143 x144 x145 x146 x147 x148 x149 x150 x151 x152 x153 x154 x155 x156 x157 x158 x159 x160 x161 x162 x163 x164 x165 x166 x167 x168 x169 x170 x171 x172 x173 x174 x175 x176 x177 x178 x179 x180 x181 x182 x183 x184 x185 x186 x187 x188 x189 x190 x191 x192 x193 x194 x195 x196 x197 x198 x199 x200 x201 x202 x203 x204 x205 x206 x207 x208 x209 x210 x211 x212 x213 x214 x215 x216 x217 x218 x219 x220 x221 x222 x223 x224 x225 x226 x227 x228 x229 x230 x231 x232 x233 x234 x235 x236 x237 x238 x239 x240 x241 x242 x243 x244 x245 x246 x247 x248 x249 x250 x251 x252 x253 x254 x255 x256 x257 x258 x259 x260 x261 x262 x263 x264 x265 x266 x267 x268 x269 x270 x271 x272 x273 x274 x275 x276 x277 x278 x279 x280 x281 x282 x283 x284 x285 x286 x287 x288 x289 x290 x291 x292 x293 x294 x295 x296 x297 x298 x299 x300 x301 x302 x303 x304 x305 x306 x307 x308 x309 x310 x311 x312 x313 : Value) (vm : Value) (gs' : List (List Tr)) (v' : Value) (W' : World), PSt w n0 s p gs' v' vm W' → Num3 W' bv x0 x1 x2 → Q0 .normal ⟨#[.slice sd s.length cs, .slice ld ls.length cl, .slice qd nq cq, c3, c4, c5, c6, .pointer (some ⟨w.heap.size, 0, none⟩), c8, x9, .pointer (some ⟨n0, 0, none⟩), c11, .bool true, vm, .int .i64 (k : Int), .pointer (some ⟨bv, 0, none⟩), x16, x17, x18, x19, x20, x21, x22, x23, x24, x25, x26, x27, x28, x29, x30, x31, x32, x33, x34, c35, c36, c37, c38, c39, c40, c41, c42, c43, c44, c45, c46, c47, c48, c49, c50, c51, c52, c53, c54, c55, c56, c57, c58, c59, x60, x61, x62, x63, x64, x65, x66, x67, x68, x69, x70, x71, x72, x73, x74, x75, x76, x77, x78, x79, x80, x81, x82, x83, x84, x85, x86, x87, x88, x89, x90, x91, x92, x93, x94, x95, x96, x97, x98, x99, x100, x101, x102, x103, x104, x105, x106, x107, x108, x109, x110, x111, x112, x113, x114, x115, x116, x117, x118, x119, x120, x121, x122, x123, x124, x125, x126, x127, x128, x129, x130, x131, x132, x133, x134, x135, x136, x137, x138, x139, x140, x141, x142, x143, x144, x145, x146, x147, x148, x149, x150, x151, x152, x153, x154, x155, x156, x157, x158, x159, x160, x161, x162, x163, x164, x165, x166, x167, x168, x169, x170, x171, x172, x173, x174, x175, x176, x177, x178, x179, x180, x181, x182, x183, x184, x185, x186, x187, x188, x189, x190, x191, x192, x193, x194, x195, x196, x197, x198, x199, x200, x201, x202, x203, x204, x205, x206, x207, x208, x209, x210, x211, x212, x213, x214, x215, x216, x217, x218, x219, x220, x221, x222, x223, x224, x225, x226, x227, x228, x229, x230, x231, x232, x233, x234, x235, x236, x237, x238, x239, x240, x241, x242, x243, x244, x245, x246, x247, x248, x249, x250, x251, x252, x253, x254, x255, x256, x257, x258, x259, x260, x261, x262, x263, x264, x265, x266, x267, x268, x269, x270, x271, x272, x273, x274, x275, x276, x277, x278, x279, x280, x281, x282, x283, x284, x285, x286, x287, x288, x289, x290, x291, x292, x293, x294, x295, x296, x297, x298, x299, x300, x301, x302, x303, x304, x305, x306, x307, x308, x309, x310, x311, x312, x313], []⟩ W') :
    Code.wp Tryz.prog (codeOf Tryz.f4.body 17) Q0 ⟨#[.slice sd s.length cs, .slice ld ls.length cl, .slice qd nq cq, c3, c4, c5, c6, .pointer (some ⟨w.heap.size, 0, none⟩), c8, u9, .pointer (some ⟨n0, 0, none⟩), c11, u12, .slice mad m mcap, .int .i64 (k : Int), .pointer (some ⟨bv, 0, none⟩), u16, .slice td (gat gs m).length ct, u18, u19, u20, u21, u22, u23, u24, u25, u26, u27, u28, u29, u30, u31, u32, u33, u34, c35, c36, c37, c38, c39, c40, c41, c42, c43, c44, c45, c46, c47, c48, c49, c50, c51, c52, c53, c54, c55, c56, c57, c58, c59, u60, u61, u62, u63, u64, u65, u66, u67, u68, u69, u70, u71, u72, u73, u74, u75, u76, u77, u78, u79, u80, u81, u82, u83, u84, u85, u86, u87, u88, u89, u90, u91, u92, u93, u94, u95, u96, u97, u98, u99, u100, u101, u102, u103, u104, u105, u106, u107, u108, u109, u110, u111, u112, u113, u114, u115, u116, u117, u118, u119, u120, u121, u122, u123, u124, u125, u126, u127, u128, u129, u130, u131, u132, u133, u134, u135, u136, u137, u138, u139, u140, u141, u142, u143, u144, u145, u146, u147, u148, u149, u150, u151, u152, u153, u154, u155, u156, u157, u158, u159, u160, u161, u162, u163, u164, u165, u166, u167, u168, u169, u170, u171, u172, u173, u174, u175, u176, u177, u178, u179, u180, u181, u182, u183, u184, u185, u186, u187, u188, u189, u190, u191, u192, u193, u194, u195, u196, u197, u198, u199, u200, u201, u202, u203, u204, u205, u206, u207, u208, u209, u210, u211, u212, u213, u214, u215, u216, u217, u218, u219, u220, u221, u222, u223, u224, u225, u226, u227, u228, u229, u230, u231, u232, u233, u234, u235, u236, u237, u238, u239, u240, u241, u242, u243, u244, u245, u246, u247, u248, u249, u250, u251, u252, u253, u254, u255, u256, u257, u258, u259, u260, u261, u262, u263, u264, u265, u266, u267, u268, u269, u270, u271, u272, u273, u274, u275, u276, u277, u278, u279, u280, u281, u282, u283, u284, u285, u286, u287, u288, u289, u290, u291, u292, u293, u294, u295, u296, u297, u298, u299, u300, u301, u302, u303, u304, u305, u306, u307, u308, u309, u310, u311, u312, u313], []⟩ W := by
  have HQ : Hid _ := hQ
  have Hg : Hid (errVar w) := hg
  have Hst : Hid (PSt w n0 s p gs v (.slice mad m mcap) W) := hst
  have HNum : Hid (Num3 W bv x0 x1 x2) := hNum
  obtain ⟨y0, y1, y2, _, _, _⟩ := id hNum
  have hbvW : bv < W.heap.size := World.block_lt_of_cell? _ _ y0
  have hm30 : m ≤ 30 := by have := hst.2.1; omega
  have Hmm : Hid (gs.length = m + 1) := hm
  have hbp : Hid (bv ≠ n0 ∧ v.ownBlock ≠ some bv ∧ Value.ownBlock (.slice mad m mcap) ≠ some bv) := ⟨hbv, hbo, hbm⟩
  have hbA := balloc W (.cells #[.slice none 0 0, .slice none 0 0] 31)
  conv => arg 2; whnf
  by_cases hr : 1 ≤ x1 ∧ x2 ≤ (m : Int) ∧ x1 ≤ x2
  · obtain ⟨r1, r2, r3⟩ := hr
    obtain ⟨i, rfl⟩ : ∃ i : Nat, x1 = (i : Int) + 1 := ⟨(x1 - 1).toNat, by omega⟩
    obtain ⟨t, rfl⟩ : ∃ t : Nat, x2 = (t : Int) := ⟨x2.toNat, by omega⟩
    have hit : i + 1 ≤ t := by omega
    have htm : t ≤ m := by omega
    obtain ⟨bl, cap', a1, c1, a2, c2, e1, _, hcap, d0, d1, q1, q2⟩ := hst.1.2.1.step (gat_eq (k := i) (by omega)) (gat_eq (k := i + 1) (by omega))
    obtain ⟨e2, e3, e4⟩ := Value.slice.inj e1
    subst e2 e4
    have hcap2 : m ≤ mcap := by omega
    have hset : Hid (∀ j, j < gs.length → IsSet (gat gs j)) := fun j hj => hst.1.1.set (gat_eq hj)
    have HSt : Hid (∀ (W' : World) (j : Nat), RowKit.Below W.heap.size W W' → j + 1 < gs.length → ∃ a1 c1 a2 c2, W'.cell? ⟨bl, j * 2, none⟩ = some (.slice a1 (lessL (gat gs (j + 1)) (gat gs j)).length c1) ∧ W'.cell? ⟨bl, j * 2 + 1, none⟩ = some (.slice a2 (lessL (gat gs j) (gat gs (j + 1))).length c2) ∧ SlT W' a1 (lessL (gat gs (j + 1)) (gat gs j)) ∧ SlT W' a2 (lessL (gat gs j) (gat gs (j + 1)))) := fun W' j hb hj => by
      obtain ⟨bl', cap'', a1, c1, a2, c2, e1, _, _, d0, d1, q1, q2⟩ := (hst.below hb).1.2.1.step (gat_eq (k := j) (by omega)) (gat_eq hj)
      obtain ⟨e2, _, _⟩ := Value.slice.inj e1
      obtain ⟨rfl, _⟩ := Addr.mk.inj (Option.some.inj e2)
      exact ⟨a1, c1, a2, c2, d0, d1, q1, q2⟩
    have hone : Hid (OneAt (W.alloc (.cells #[.slice a1 (lessL (gat gs (i + 1)) (gat gs i)).length c1, .slice a2 (lessL (gat gs i) (gat gs (i + 1))).length c2] 31)) W.heap.size (gat gs i) (gat gs (i + 1))) := OneAt.new q1 q2
    have hB0 : Hid (RowKit.Below W.heap.size W (W.alloc (.cells #[.slice a1 (lessL (gat gs (i + 1)) (gat gs i)).length c1, .slice a2 (lessL (gat gs i) (gat gs (i + 1))).length c2] 31))) := balloc _ _
    have HQs := fun W (h : PSt w n0 s p gs v (.slice (some ⟨bl, 0, none⟩) m mcap) W) => Squash_any n0 v gs i t W h.1.1 (by omega) hit (by omega)
    have E0 := fun W (h : RowKit.Below w.heap.size w W) => SameErrorT 0 W (hg.below h)
    rw [show errV 0 = .nilIface from rfl] at E0
    have Hit : Hid (i + 1 ≤ t ∧ t ≤ m) := ⟨hit, htm⟩
    have z1 : decide ((i : Int) + 1 < 1) = false := by simp; omega
    have z2 : decide (m < t) = false := by simp; omega
    have z3 : decide ((t : Int) < (i : Int) + 1) = false := by simp; omega
    have z4 : (0 : Int) ≤ (i : Int) := by omega
    have z5 : (i : Int) < (m : Int) := by omega
    have z6 := wrapN i (by omega)
    have z7 : t ≤ 1000 := by omega
    have hblW : bl < W.heap.size := World.block_lt_of_cell? _ _ d0
    clear hQ hg hst hNum hm hbv hbo hbm hbA r1 r2 r3 e1 e3 q1 q2
    go_wp2_with fail
    go_loopw [9, 24] (fun e kk wr => ∃ j : Nat, i + 1 ≤ j ∧ j ≤ t ∧ e = .int .i64 0 ∧ kk = .int .i64 j ∧ Hid (OneAt wr W.heap.size (gat gs i) (gat gs j)) ∧ Hid (RowKit.Below W.heap.size W wr)) (fun _ kk wr => t - (intOf kk).toNat)
    case atStart => exact ⟨i + 1, Nat.le_refl _, Hit.out.1, rfl, by go_num, hone, hB0⟩
    case round =>
      obtain ⟨j, hj1, hj2, rfl, rfl, hO, hbr⟩ := hrel
      have hNr := HNum.out.below hbr.out
      obtain ⟨n0', n1', n2', _, _, _⟩ := id hNr
      by_cases hjt : j < t
      · obtain ⟨p1, u1, p2, u2, ⟨b0, b1⟩, f0, f1, s1, s2⟩ := hO.out
        obtain ⟨a3, c3', a4, c4', m0, m1, s3, s4⟩ := HSt.out wr j hbr.out (by have := Hit.out; have := Hmm.out; omega)
        have HT := RThenGood_any p1 p2 a3 a4 u1 u2 c3' c4' (gat gs i) (gat gs j) (gat gs (j + 1)) wr.drew (s1.below (RowKit.Below.refl _ _).drew) (s2.below (RowKit.Below.refl _ _).drew) (s3.below (RowKit.Below.refl _ _).drew) (s4.below (RowKit.Below.refl _ _).drew) (hset.out _ (by have := Hit.out; have := Hmm.out; omega)) (hset.out _ (by have := Hit.out; have := Hmm.out; omega)) (hset.out _ (by have := Hit.out; have := Hmm.out; omega))
        have hz1 : W.heap.size < wr.heap.size := World.block_lt_of_cell? _ _ b0
        have hPut := fun (W' : World) (hC : ChainAt W' n0 v gs) (r1 r2 : Option Addr) (t1 t2 : Nat) (hB : BoxL W' W.heap.size (.slice p1 (lessL (gat gs j) (gat gs i)).length u1) (.slice p2 (lessL (gat gs i) (gat gs j)).length u2)) g0 g1 (h1 : SlT W' r1 _) (h2 : SlT W' r2 _) => one_put (g := gat gs i) (u := gat gs (j + 1)) (q1 := t1) (q2 := t2) hC (show n0 ≠ W.heap.size by have := Hst.out.1.1.lt; omega) (fun e => by have := (Hst.out.1.1.own _ e).2; omega) ⟨p1, _, u1, rfl⟩ ⟨p2, _, u2, rfl⟩ hB g0 g1 h1 h2
        have HPut : Hid _ := hPut
        have i0' : (0 : Int) ≤ (j : Int) := by omega
        have i1 : (j : Int) < (t : Int) := by omega
        have i2 : (j : Int) < (m : Int) := by have := Hit.out; omega
        have hmb := World.block_lt_of_cell? _ _ m0
        clear s1 s2 s3 s4 hPut hNr HQs E0
        generalize lessL (gat gs (j + 1)) (gat gs i) = Z1 at *
        generalize lessL (gat gs i) (gat gs (j + 1)) = Z2 at *
        generalize lessL (gat gs j) (gat gs i) = X1 at *
        generalize lessL (gat gs i) (gat gs j) = X2 at *
        generalize lessL (gat gs (j + 1)) (gat gs j) = Y1 at *
        generalize lessL (gat gs j) (gat gs (j + 1)) = Y2 at *
        go_wp2_with fail
        refine wp_region_noPanic ?_
        go_region_law (first
          | (go_simp; go_at_call 18; refine HT.mono ?_; rintro e w3 ⟨hb3, r1, t1, r2, t2, rfl, g1, g2⟩; have hb3' : Hid (RowKit.Below wr.heap.size wr w3) := ((RowKit.Below.refl _ wr).drew.trans hb3); have x0 : w3.cell? ⟨W.heap.size, 0, none⟩ = some (.slice p1 X1.length u1) := (hb3'.out.cell (p := ⟨W.heap.size, 0, none⟩) hz1).trans b0; have x1 : w3.cell? ⟨W.heap.size, 1, none⟩ = some (.slice p2 X2.length u2) := (hb3'.out.cell (p := ⟨W.heap.size, 1, none⟩) hz1).trans b1; have x2 : w3.frozen? ⟨W.heap.size, 0, none⟩ = false := (hb3'.out.frozen (p := ⟨W.heap.size, 0, none⟩) hz1).trans f0; have x3 : w3.frozen? ⟨W.heap.size, 1, none⟩ = false := (hb3'.out.frozen (p := ⟨W.heap.size, 1, none⟩) hz1).trans f1; have Hfin : Hid _ := HPut.out w3 (((Hst.out.below hbr.out).below hb3'.out).1.1) r1 r2 t1 t2 ⟨x0, x1⟩ x2 x3 g1 g2; have Hbel : Hid (RowKit.Below W.heap.size W w3) := hbr.out.trans (hb3'.out.mono hbr.out.size); clear g1 g2 hb3))
        all_goals
          refine NoPanic.normal ?_
          go_wp2_with fail
          go_roundw
          case rel => exact ⟨j + 1, by omega, by omega, rfl, by go_num, Hfin.out.2, below_two Hbel.out (Nat.le_refl _) _ _⟩
          case measure => simp [intOf]; omega
      · obtain rfl : j = t := by omega
        obtain ⟨p1, u1, p2, u2, hBx, _, _, s1, s2⟩ := hO.out
        have HX : Hid (XAt wr W.heap.size p1 p2 u1 u2 (btw (gat gs i) (gat gs j))) := ⟨hBx, s1, s2⟩
        have Hstr : Hid (PSt w n0 s p gs v (.slice (some ⟨bl, 0, none⟩) m mcap) wr) := Hst.out.below hbr.out
        have HNr : Hid (Num3 wr bv x0 ((i : Int) + 1) (j : Int)) := hNr
        clear hNr hBx s1 s2 hO
        go_wp2_with fail
        refine (HQs _ Hstr.out).mono ?_
        rintro e w3 ⟨rfl, v', hsq⟩
        have Hh3 : Hid (PSh w n0 p (gs.take (i + 1) ++ gs.drop j) gs v' (.slice (some ⟨bl, 0, none⟩) m mcap) w3) := Hstr.out.1.chain hsq.1 hsq.2.1 (Or.inl hsq.2.2)
        have HX3 : Hid (XAt w3 W.heap.size p1 p2 u1 u2 (btw (gat gs i) (gat gs j))) := HX.out.off hsq.2.1 (by have := Hst.out.1.1.lt; omega) (fun e => by have := (Hst.out.1.1.own _ e).2; omega)
        have HN3 : Hid (Num3 w3 bv x0 ((i : Int) + 1) (j : Int)) := HNr.out.off hsq.2.1 hbp.out.1 hbp.out.2.1
        clear hsq HX HNr HQs n0' n1' n2'
        (try dsimp only)
        go_wp2_with fail
        refine (E0 _ Hh3.out.2.2.2.1).mono ?_
        rintro e w4 ⟨rfl, hb4⟩
        have Hh4 : Hid (PSh w n0 p (gs.take (i + 1) ++ gs.drop j) gs v' (.slice (some ⟨bl, 0, none⟩) m mcap) w4) := Hh3.out.below hb4
        have HX4 : Hid (XAt w4 W.heap.size p1 p2 u1 u2 (btw (gat gs i) (gat gs j))) := HX3.out.below hb4
        have HN4 : Hid (Num3 w4 bv x0 ((i : Int) + 1) (j : Int)) := HN3.out.below hb4
        clear hb4 Hh3 HX3 HN3 E0
        (try dsimp only)
        go_upto_if 144 with fail
        refine wp_cond_true rfl ?_
        refine playsSquash2 _ _ _ _ _ _ _ _ _ _ _ _ _ _ _ _ _ _ _ _ _ _ _ _ _ _ _ _ _ _ _ _ _ _ _ _ _ _ _ _ _ _ _ _ _ _ _ _ _ _ _ _ _ _ _ _ _ _ _ _ _ _ _ _ _ _ _ _ _ _ _ _ _ _ _ _ _ _ _ _ _ _ _ _ _ _ _ _ _ _ _ _ _ _ _ _ _ _ _ _ _ _ _ _ _ _ _ _ _ _ _ _ _ _ _ _ _ _ _ _ _ _ _ _ _ _ _ _ _ _ _ _ _ _ _ _ _ _ _ _ _ _ _ _ _ _ _ _ _ _ _ _ _ _ _ _ _ _ _ _ _ _ _ _ _ _ _ _ _ _ _ _ _ _ _ _ _ _ _ _ _ _ _ _ _ _ _ _ _ _ _ _ _ _ _ _ _ _ _ _ _ _ _ _ _ _ _ _ _ _ _ _ _ _ _ _ _ _ _ _ _ _ _ _ _ _ _ _ _ _ _ _ _ _ _ _ _ _ _ _ _ _ _ _ _ _ _ _ _ _ _ _ _ _ _ _ _ _ _ _ _ _ _ _ _ _ _ _ _ _ _ _ _ _ _ _ _ _ _ _ _ _ _ _ _ _ _ _ _ _ _ _ _ _ _ _ _ _ _ _ _ _ _ _ _ sd ld qd cs cl cq k n0 nq bv s ls p gs v' x0 w w4 p1 p2 bl i j m mcap u1 u2 W.heap.size Hmm.out hm30 Hit.out.1 Hit.out.2 Hh4.out Hst.out.2.2 HN4.out HX4.out ?_
        intros
        first | (apply HQ.out <;> assumption) | skip
  · have HP := fun W (h : PSt w n0 s p gs v (.slice mad m mcap) W) => SquashBad_any n0 v gs x1 x2 W h.1.1 (by omega) (by rw [hm, Nat.add_sub_cancel]; omega)
    have E1 := fun W (h : RowKit.Below w.heap.size w W) => SameErrorT 1 W (hg.below h)
    rw [show errV 1 = .iface 73 (.int .i64 1) from rfl] at E1
    have Hst1 : Hid (PSt w n0 s p gs v (.slice mad m mcap) (W.alloc (.cells #[.slice none 0 0, .slice none 0 0] 31))) := Hst.out.below hbA
    have HNum1 : Hid (Num3 (W.alloc (.cells #[.slice none 0 0, .slice none 0 0] 31)) bv x0 x1 x2) := HNum.out.below hbA
    have Hr : Hid (¬ (1 ≤ x1 ∧ x2 ≤ (m : Int) ∧ x1 ≤ x2)) := hr
    clear hQ hg hst hNum hm hbv hbo hbm hbA hr Hst HNum
    by_cases h1 : x1 < 1
    · have t1 : decide (x1 < 1) = true := by simpa using h1
      go_wp2_with fail
      refine (HP _ Hst1.out).mono ?_
      rintro e w2 ⟨rfl, rfl⟩
      clear HP
      (try dsimp only)
      go_wp2_with fail
      refine (E1 _ Hst1.out.1.2.2.2.1).mono ?_
      rintro e w3 ⟨rfl, hb3⟩
      have Hfin : Hid (PSt w n0 s p gs v (.slice mad m mcap) w3) := Hst1.out.below hb3
      have HNum3' : Hid (Num3 w3 bv x0 x1 x2) := HNum1.out.below hb3
      clear hb3
      (try dsimp only)
      go_wp2_with fail
      first | exact HQ.out _ _ _ _ _ _ Hfin.out HNum3'.out | (apply HQ.out; exact Hfin.out; exact HNum3'.out)
    · have t1 : decide (x1 < 1) = false := by simpa using h1
      by_cases h2 : (m : Int) < x2
      · have t2 : decide ((m : Int) < x2) = true := by simpa using h2
        go_wp2_with fail
        refine (HP _ Hst1.out).mono ?_
        rintro e w2 ⟨rfl, rfl⟩
        clear HP
        (try dsimp only)
        go_wp2_with fail
        refine (E1 _ Hst1.out.1.2.2.2.1).mono ?_
        rintro e w3 ⟨rfl, hb3⟩
        have Hfin : Hid (PSt w n0 s p gs v (.slice mad m mcap) w3) := Hst1.out.below hb3
        have HNum3' : Hid (Num3 w3 bv x0 x1 x2) := HNum1.out.below hb3
        clear hb3
        (try dsimp only)
        go_wp2_with fail
        first | exact HQ.out _ _ _ _ _ _ Hfin.out HNum3'.out | (apply HQ.out; exact Hfin.out; exact HNum3'.out)
      · have t2 : decide ((m : Int) < x2) = false := by simpa using h2
        have h3 : x2 < x1 := by have := Hr.out; omega
        have t3 : decide (x2 < x1) = true := by simpa using h3
        go_wp2_with fail
        refine (HP _ Hst1.out).mono ?_
        rintro e w2 ⟨rfl, rfl⟩
        clear HP
        (try dsimp only)
        go_wp2_with fail
        refine (E1 _ Hst1.out.1.2.2.2.1).mono ?_
        rintro e w3 ⟨rfl, hb3⟩
        have Hfin : Hid (PSt w n0 s p gs v (.slice mad m mcap) w3) := Hst1.out.below hb3
        have HNum3' : Hid (Num3 w3 bv x0 x1 x2) := HNum1.out.below hb3
        clear hb3
        (try dsimp only)
        go_wp2_with fail
        first | exact HQ.out _ _ _ _ _ _ Hfin.out HNum3'.out | (apply HQ.out; exact Hfin.out; exact HNum3'.out)
end Go.Proofs.YtgdjeohcimkljadGreatDoor
