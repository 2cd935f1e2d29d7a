import Derived.Test.YtaddfndohoppeaaGreatDoorMCRepoPlaysx6

/- RepoPlays' round: its name. -/
namespace Go.Proofs.YtaddfndohoppeaaGreatDoor
open Go Go.RowKit Go.Proofs
set_option synthInstance.maxSize 1000

set_option maxHeartbeats 32000000 in
set_option maxRecDepth 1000000 in
theorem rpStep (F : RFace) (Q0 : Exit → Act → World → Prop) (u13 u14 u15 u16 u17 u18 u19 u20 u21 u22 u23 u24 u25 u26 u27 u28 u29 u30 u31 u32 u33 u34 u35 u36 u37 u38 u39 u40 u41 u42 u46 u47 u48 u49 u50 u51 u52 u53 u54 u55 u56 u57 u58 u59 u60 u61 u62 u63 u64 u65 u66 u67 u68 u69 u70 u71 u72 u73 u74 u75 u76 u77 u78 u79 u80 u81 u82 u83 u84 u85 u86 u87 u88 u89 u90 u91 u92 u93 u94 u95 u96 u97 u98 u99 u100 u101 u102 u103 u104 u105 u106 u107 u108 u109 u110 u111 u112 u113 u114 u115 u116 u117 u118 u119 u120 u121 u122 u123 u124 u125 u126 u127 u128 u129 u130 u131 u132 u133 u134 u135 u136 u137 u138 u139 u140 u141 u142 u143 u144 u145 u146 u147 u148 u149 u150 u151 u152 u153 u154 u155 u156 u157 u158 u159 u160 u161 u162 u163 u164 u165 u166 u167 u168 u169 u170 u171 u172 u173 u174 u175 u176 u177 u178 u179 u180 u181 u182 u183 u184 u185 u186 u187 u188 u189 u190 u191 u192 u193 u194 u195 u196 u197 u198 u199 u200 u201 u202 u203 u204 u205 u206 u207 u208 u209 u210 u211 u212 u213 u214 u215 u216 u217 u218 u219 u220 u221 u222 u223 u224 u225 u226 u227 u228 u229 u230 u231 u232 u233 u234 u235 u236 u237 u238 u239 u240 u241 u242 u243 u244 u245 u246 u247 u248 u249 u250 u251 u252 u253 u254 u255 u256 u257 u258 u259 u260 u261 u262 u263 u264 u265 u266 u267 u268 u269 u270 u271 u272 u273 u274 u275 u276 u277 u278 u279 u280 u281 u282 u283 u284 u285 u286 u287 u288 u289 u290 u291 u292 u293 u294 u295 u296 u297 u298 u299 u300 u301 u302 u303 u304 u305 u306 u307 u308 u309 u310 u311 u312 u313 u314 u315 u316 u317 u318 u319 u320 u321 u322 u323 u324 u325 u326 u327 u328 u329 u330 u331 u332 u333 u334 u335 u336 u337 u338 : Value) (c4 c5 c6 c7 c8 c43 c44 c45 : Value) (qd nd sd md : Option Addr) (cq nc sc mc nz nn ns nm k0 r m bv : Nat) (R : Rp) (V : List Int) (w W : World) (T M : List (List UInt8)) (S : List (List Tr))
    (hg : errVar w) (hG : GoodR R) (hst : RS F w r m bv V R R W)
    (hT : T ≠ [] → ∃ b o, nd = some ⟨b, o, none⟩ ∧ TextsAt w b o T) (hTn : T.length = nn) (hTl : ∀ t ∈ T, t.length ≤ F.lim ∧ t.length ≤ maxLen)
    (hM : M ≠ [] → ∃ b o, md = some ⟨b, o, none⟩ ∧ TextsAt w b o M) (hMn : M.length = nm) (hMl : ∀ t ∈ M, t.length ≤ F.lim)
    (hS : S ≠ [] → ∃ b o, sd = some ⟨b, o, none⟩ ∧ SetsAtR w b o S) (hSn : S.length = ns)
    (hQ : ∀ (x12 x13 x14 x15 x16 x17 x18 x19 x20 x21 x22 x23 x24 x25 x26 x27 x28 x29 x30 x31 x32 x33 x34 x35 x36 x37 x38 x39 x40 x41 x42 x46 x47 x48 x49 x50 x51 x52 x53 x54 x55 x56 x57 x58 x59 x60 x61 x62 x63 x64 x65 x66 x67 x68 x69 x70 x71 x72 x73 x74 x75 x76 x77 x78 x79 x80 x81 x82 x83 x84 x85 x86 x87 x88 x89 x90 x91 x92 x93 x94 x95 x96 x97 x98 x99 x100 x101 x102 x103 x104 x105 x106 x107 x108 x109 x110 x111 x112 x113 x114 x115 x116 x117 x118 x119 x120 x121 x122 x123 x124 x125 x126 x127 x128 x129 x130 x131 x132 x133 x134 x135 x136 x137 x138 x139 x140 x141 x142 x143 x144 x145 x146 x147 x148 x149 x150 x151 x152 x153 x154 x155 x156 x157 x158 x159 x160 x161 x162 x163 x164 x165 x166 x167 x168 x169 x170 x171 x172 x173 x174 x175 x176 x177 x178 x179 x180 x181 x182 x183 x184 x185 x186 x187 x188 x189 x190 x191 x192 x193 x194 x195 x196 x197 x198 x199 x200 x201 x202 x203 x204 x205 x206 x207 x208 x209 x210 x211 x212 x213 x214 x215 x216 x217 x218 x219 x220 x221 x222 x223 x224 x225 x226 x227 x228 x229 x230 x231 x232 x233 x234 x235 x236 x237 x238 x239 x240 x241 x242 x243 x244 x245 x246 x247 x248 x249 x250 x251 x252 x253 x254 x255 x256 x257 x258 x259 x260 x261 x262 x263 x264 x265 x266 x267 x268 x269 x270 x271 x272 x273 x274 x275 x276 x277 x278 x279 x280 x281 x282 x283 x284 x285 x286 x287 x288 x289 x290 x291 x292 x293 x294 x295 x296 x297 x298 x299 x300 x301 x302 x303 x304 x305 x306 x307 x308 x309 x310 x311 x312 x313 x314 x315 x316 x317 x318 x319 x320 x321 x322 x323 x324 x325 x326 x327 x328 x329 x330 x331 x332 x333 x334 x335 x336 x337 x338 : Value) (R' : Rp) (W' : World), RB F w r m R' W' → GoodR R' → Q0 .normal ⟨#[.slice qd nz cq, .slice nd nn nc, .slice sd ns sc, .slice md nm mc, c4, c5, c6, c7, c8, .pointer (some ⟨r, 0, none⟩), .pointer (some ⟨m, 0, none⟩), .int .i64 (k0 : Int), x12, x13, x14, x15, x16, x17, x18, x19, x20, x21, x22, x23, x24, x25, x26, x27, x28, x29, x30, x31, x32, x33, x34, x35, x36, x37, x38, x39, x40, x41, x42, c43, c44, c45, x46, x47, x48, x49, x50, x51, x52, x53, x54, x55, x56, x57, x58, x59, x60, x61, x62, x63, x64, x65, x66, x67, x68, x69, x70, x71, x72, x73, x74, x75, x76, x77, x78, x79, x80, x81, x82, x83, x84, x85, x86, x87, x88, x89, x90, x91, x92, x93, x94, x95, x96, x97, x98, x99, x100, x101, x102, x103, x104, x105, x106, x107, x108, x109, x110, x111, x112, x113, x114, x115, x116, x117, x118, x119, x120, x121, x122, x123, x124, x125, x126, x127, x128, x129, x130, x131, x132, x133, x134, x135, x136, x137, x138, x139, x140, x141, x142, x143, x144, x145, x146, x147, x148, x149, x150, x151, x152, x153, x154, x155, x156, x157, x158, x159, x160, x161, x162, x163, x164, x165, x166, x167, x168, x169, x170, x171, x172, x173, x174, x175, x176, x177, x178, x179, x180, x181, x182, x183, x184, x185, x186, x187, x188, x189, x190, x191, x192, x193, x194, x195, x196, x197, x198, x199, x200, x201, x202, x203, x204, x205, x206, x207, x208, x209, x210, x211, x212, x213, x214, x215, x216, x217, x218, x219, x220, x221, x222, x223, x224, x225, x226, x227, x228, x229, x230, x231, x232, x233, x234, x235, x236, x237, x238, x239, x240, x241, x242, x243, x244, x245, x246, x247, x248, x249, x250, x251, x252, x253, x254, x255, x256, x257, x258, x259, x260, x261, x262, x263, x264, x265, x266, x267, x268, x269, x270, x271, x272, x273, x274, x275, x276, x277, x278, x279, x280, x281, x282, x283, x284, x285, x286, x287, x288, x289, x290, x291, x292, x293, x294, x295, x296, x297, x298, x299, x300, x301, x302, x303, x304, x305, x306, x307, x308, x309, x310, x311, x312, x313, x314, x315, x316, x317, x318, x319, x320, x321, x322, x323, x324, x325, x326, x327, x328, x329, x330, x331, x332, x333, x334, x335, x336, x337, x338], []⟩ W') :
    Code.wp Tryz.prog (codeOf Tryz.f3.body 11) Q0 ⟨#[.slice qd nz cq, .slice nd nn nc, .slice sd ns sc, .slice md nm mc, c4, c5, c6, c7, c8, .pointer (some ⟨r, 0, none⟩), .pointer (some ⟨m, 0, none⟩), .int .i64 (k0 : Int), .pointer (some ⟨bv, 0, none⟩), u13, u14, u15, u16, u17, u18, u19, u20, u21, u22, u23, u24, u25, u26, u27, u28, u29, u30, u31, u32, u33, u34, u35, u36, u37, u38, u39, u40, u41, u42, c43, c44, c45, u46, u47, u48, u49, u50, u51, u52, u53, u54, u55, u56, u57, u58, u59, u60, u61, u62, u63, u64, u65, u66, u67, u68, u69, u70, u71, u72, u73, u74, u75, u76, u77, u78, u79, u80, u81, u82, u83, u84, u85, u86, u87, u88, u89, u90, u91, u92, u93, u94, u95, u96, u97, u98, u99, u100, u101, u102, u103, u104, u105, u106, u107, u108, u109, u110, u111, u112, u113, u114, u115, u116, u117, u118, u119, u120, u121, u122, u123, u124, u125, u126, u127, u128, u129, u130, u131, u132, u133, u134, u135, u136, u137, u138, u139, u140, u141, u142, u143, u144, u145, u146, u147, u148, u149, u150, u151, u152, u153, u154, u155, u156, u157, u158, u159, u160, u161, u162, u163, u164, u165, u166, u167, u168, u169, u170, u171, u172, u173, u174, u175, u176, u177, u178, u179, u180, u181, u182, u183, u184, u185, u186, u187, u188, u189, u190, u191, u192, u193, u194, u195, u196, u197, u198, u199, u200, u201, u202, u203, u204, u205, u206, u207, u208, u209, u210, u211, u212, u213, u214, u215, u216, u217, u218, u219, u220, u221, u222, u223, u224, u225, u226, u227, u228, u229, u230, u231, u232, u233, u234, u235, u236, u237, u238, u239, u240, u241, u242, u243, u244, u245, u246, u247, u248, u249, u250, u251, u252, u253, u254, u255, u256, u257, u258, u259, u260, u261, u262, u263, u264, u265, u266, u267, u268, u269, u270, u271, u272, u273, u274, u275, u276, u277, u278, u279, u280, u281, u282, u283, u284, u285, u286, u287, u288, u289, u290, u291, u292, u293, u294, u295, u296, u297, u298, u299, u300, u301, u302, u303, u304, u305, u306, u307, u308, u309, u310, u311, u312, u313, u314, u315, u316, u317, u318, u319, u320, u321, u322, u323, u324, u325, u326, u327, u328, u329, u330, u331, u332, u333, u334, u335, u336, u337, u338], []⟩ W := by
  have HQ : Hid _ := hQ
  have HM : Hid _ := And.intro hM (And.intro hMn (And.intro hMl (And.intro hS hSn)))
  have HT := hideO hT
  have HTl := hideO hTl
  have hlow := hideO hst.low
  have HP : Hid _ := And.intro hg (And.intro hG hst)
  have hE0 : Hid (([] : List UInt8).length ≤ F.lim ∧ ([] : List UInt8).length ≤ maxLen) := ⟨Nat.zero_le _, Nat.zero_le _⟩
  have n1 := (hst.num.cell (j := 1) (by omega)).1
  obtain ⟨x, hx⟩ : ∃ z, V.getD 1 0 = z := ⟨_, rfl⟩
  rw [hx] at n1
  subst hTn
  clear hQ hg hG hst hM hMn hMl hS hSn hT hTl hx
  conv => arg 2; whnf
  by_cases h0 : x < 0
  · have t0 : ¬ 0 ≤ x := by omega
    have t1 : decide (0 ≤ x) = false := by simpa using t0
    clear h0
    go_upto_if 87 with fail
    go_cut [14] from 88 to 92 (fun v W' => v = .string ⟨([] : List UInt8).toArray⟩ ∧ W' = W)
    case first =>
      go_wp2_with fail
      go_meet
      exact ⟨rfl, rfl⟩
    case rest =>
      obtain ⟨rfl, rfl⟩ := hcut
      refine go_on (by assumption) ?_
      refine rpStepC F _ _ _ _ _ _ _ _ _ _ _ _ _ _ _ _ _ _ _ _ _ _ _ _ _ _ _ _ _ _ _ _ _ _ _ _ _ _ _ _ _ _ _ _ _ _ _ _ _ _ _ _ _ _ _ _ _ _ _ _ _ _ _ _ _ _ _ _ _ _ _ _ _ _ _ _ _ _ _ _ _ _ _ _ _ _ _ _ _ _ _ _ _ _ _ _ _ _ _ _ _ _ _ _ _ _ _ _ _ _ _ _ _ _ _ _ _ _ _ _ _ _ _ _ _ _ _ _ _ _ _ _ _ _ _ _ _ _ _ _ _ _ _ _ _ _ _ _ _ _ _ _ _ _ _ _ _ _ _ _ _ _ _ _ _ _ _ _ _ _ _ _ _ _ _ _ _ _ _ _ _ _ _ _ _ _ _ _ _ _ _ _ _ _ _ _ _ _ _ _ _ _ _ _ _ _ _ _ _ _ _ _ _ _ _ _ _ _ _ _ _ _ _ _ _ _ _ _ _ _ _ _ _ _ _ _ _ _ _ _ _ _ _ _ _ _ _ _ _ _ _ _ _ _ _ _ _ _ _ _ _ _ _ _ _ _ _ _ _ _ _ _ _ _ _ _ _ _ _ _ _ _ _ _ _ _ _ _ _ _ _ _ _ _ _ _ _ _ _ _ _ _ _ _ _ _ _ _ _ _ _ _ _ _ _ _ _ _ _ _ _ _ _ _ _ _ _ _ _ _ _ qd nd sd md cq nc sc mc nz T.length ns nm k0 r m bv R V w _ [] M S HP.out.1 HP.out.2.1 hE0.out.1 hE0.out.2 HP.out.2.2 HM.out.1 HM.out.2.1 HM.out.2.2.1 HM.out.2.2.2.1 HM.out.2.2.2.2 ?_
      intros
      apply HQ.out <;> assumption
  · have t0 : 0 ≤ x := by omega
    clear h0
    by_cases h1 : x < (T.length : Int)
    · obtain ⟨j, rfl⟩ := Int.eq_ofNat_of_zero_le t0
      have hj : j < T.length := by omega
      obtain ⟨sb, so, rfl, hA⟩ := HT.out (fun e => by rw [e] at hj; simp at hj)
      have hc := hA j hj
      have hcW := (hlow.out.cell (World.block_lt_of_cell? w _ hc)).trans hc
      have HL := hideO (HTl.out _ (List.getElem_mem hj))
      clear hA hc HT
      generalize T[j] = b at *
      go_upto_if 87 with fail
      go_cut [14] from 88 to 92 (fun v W' => v = .string ⟨b.toArray⟩ ∧ W' = W)
      case first =>
        go_wp2_with fail
        go_meet
        exact ⟨rfl, rfl⟩
      case rest =>
        obtain ⟨rfl, rfl⟩ := hcut
        refine go_on (by assumption) ?_
        refine rpStepC F _ _ _ _ _ _ _ _ _ _ _ _ _ _ _ _ _ _ _ _ _ _ _ _ _ _ _ _ _ _ _ _ _ _ _ _ _ _ _ _ _ _ _ _ _ _ _ _ _ _ _ _ _ _ _ _ _ _ _ _ _ _ _ _ _ _ _ _ _ _ _ _ _ _ _ _ _ _ _ _ _ _ _ _ _ _ _ _ _ _ _ _ _ _ _ _ _ _ _ _ _ _ _ _ _ _ _ _ _ _ _ _ _ _ _ _ _ _ _ _ _ _ _ _ _ _ _ _ _ _ _ _ _ _ _ _ _ _ _ _ _ _ _ _ _ _ _ _ _ _ _ _ _ _ _ _ _ _ _ _ _ _ _ _ _ _ _ _ _ _ _ _ _ _ _ _ _ _ _ _ _ _ _ _ _ _ _ _ _ _ _ _ _ _ _ _ _ _ _ _ _ _ _ _ _ _ _ _ _ _ _ _ _ _ _ _ _ _ _ _ _ _ _ _ _ _ _ _ _ _ _ _ _ _ _ _ _ _ _ _ _ _ _ _ _ _ _ _ _ _ _ _ _ _ _ _ _ _ _ _ _ _ _ _ _ _ _ _ _ _ _ _ _ _ _ _ _ _ _ _ _ _ _ _ _ _ _ _ _ _ _ _ _ _ _ _ _ _ _ _ _ _ _ _ _ _ _ _ _ _ _ _ _ _ _ _ _ _ _ _ _ _ _ _ _ _ _ _ _ _ _ qd _ sd md cq nc sc mc nz T.length ns nm k0 r m bv R V w _ b M S HP.out.1 HP.out.2.1 HL.out.1 HL.out.2 HP.out.2.2 HM.out.1 HM.out.2.1 HM.out.2.2.1 HM.out.2.2.2.1 HM.out.2.2.2.2 ?_
        intros
        apply HQ.out <;> assumption
    · have t1 : decide (x < (T.length : Int)) = false := by simpa using h1
      go_upto_if 87 with fail
      go_cut [14] from 88 to 92 (fun v W' => v = .string ⟨([] : List UInt8).toArray⟩ ∧ W' = W)
      case first =>
        go_wp2_with fail
        go_meet
        exact ⟨rfl, rfl⟩
      case rest =>
        obtain ⟨rfl, rfl⟩ := hcut
        refine go_on (by assumption) ?_
        refine rpStepC F _ _ _ _ _ _ _ _ _ _ _ _ _ _ _ _ _ _ _ _ _ _ _ _ _ _ _ _ _ _ _ _ _ _ _ _ _ _ _ _ _ _ _ _ _ _ _ _ _ _ _ _ _ _ _ _ _ _ _ _ _ _ _ _ _ _ _ _ _ _ _ _ _ _ _ _ _ _ _ _ _ _ _ _ _ _ _ _ _ _ _ _ _ _ _ _ _ _ _ _ _ _ _ _ _ _ _ _ _ _ _ _ _ _ _ _ _ _ _ _ _ _ _ _ _ _ _ _ _ _ _ _ _ _ _ _ _ _ _ _ _ _ _ _ _ _ _ _ _ _ _ _ _ _ _ _ _ _ _ _ _ _ _ _ _ _ _ _ _ _ _ _ _ _ _ _ _ _ _ _ _ _ _ _ _ _ _ _ _ _ _ _ _ _ _ _ _ _ _ _ _ _ _ _ _ _ _ _ _ _ _ _ _ _ _ _ _ _ _ _ _ _ _ _ _ _ _ _ _ _ _ _ _ _ _ _ _ _ _ _ _ _ _ _ _ _ _ _ _ _ _ _ _ _ _ _ _ _ _ _ _ _ _ _ _ _ _ _ _ _ _ _ _ _ _ _ _ _ _ _ _ _ _ _ _ _ _ _ _ _ _ _ _ _ _ _ _ _ _ _ _ _ _ _ _ _ _ _ _ _ _ _ _ _ _ _ _ _ _ _ _ _ _ _ _ _ _ _ _ _ _ qd nd sd md cq nc sc mc nz T.length ns nm k0 r m bv R V w _ [] M S HP.out.1 HP.out.2.1 hE0.out.1 hE0.out.2 HP.out.2.2 HM.out.1 HM.out.2.1 HM.out.2.2.1 HM.out.2.2.2.1 HM.out.2.2.2.2 ?_
        intros
        apply HQ.out <;> assumption
end Go.Proofs.YtaddfndohoppeaaGreatDoor

/- stratalaw2.RepoPlays: the walk. -/
namespace Go.Proofs.YtaddfndohoppeaaGreatDoor
open Go Go.RowKit Go.Proofs
set_option synthInstance.maxSize 1000

theorem heap_newR (w : World) (o : Obj) : (w.alloc o).heap[w.heap.size]? = some o := by
  show (w.heap.push o)[w.heap.size]? = some o
  simp
theorem RB.new {F : RFace} {w w1 : World} {r : Nat} {O : Nat → Prop} (hA : F.At w1 r O emptyR) (hb : RowKit.Below w.heap.size w w1) (hO : ∀ j, O j → w.heap.size ≤ j) :
    RB F w r w1.heap.size emptyR (w1.alloc (.cells #[.int .i64 0, .slice none 0 0, .slice none 0 0, .slice none 0 0, .slice none 0 0] 34)) := by
  refine ⟨.slice none 0 0, .slice none 0 0, .slice none 0 0, .slice none 0 0, fun _ => False, O, ⟨⟨⟨?_, World.ownsRow_nil _ _ _ _⟩, ⟨[], World.ownsRow_nil _ _ _ _, fun i hi => ?_⟩, ⟨[], World.ownsRow_nil _ _ _ _, fun i hi => ?_⟩, World.ownsRow_nil _ _ _ _, hb.size, fun j hj => hj.elim⟩, F.below hA (balloc _ _), bstep hb (balloc _ _), hO, fun j hj hr => ?_⟩⟩
  · exact heap_newR _ _
  · simp [emptyR] at hi
  · simp [emptyR] at hi
  · have h1 := F.own hA j hj
    rcases hr with rfl | hr | hr | hr | hr | hr
    · omega
    all_goals first | (simp [Value.ownBlock] at hr; done) | exact hr.elim

set_option maxHeartbeats 32000000 in
set_option maxRecDepth 1000000 in
theorem repoPlays_any (F : RFace) (qd nd sd md : Option Addr) (cq nc sc mc : Nat) (Q : List (List Int)) (T M : List (List UInt8)) (S : List (List Tr)) (w : World) (hg : errVar w)
    (hq : Q ≠ [] → ∃ b o, qd = some ⟨b, o, none⟩ ∧ ListsAt w b o Q) (hqn : Q.length ≤ 9223372036854775807) (hqe : ∀ q ∈ Q, q.length ≤ 9223372036854775807)
    (hT : T ≠ [] → ∃ b o, nd = some ⟨b, o, none⟩ ∧ TextsAt w b o T) (hTl : ∀ t ∈ T, t.length ≤ F.lim ∧ t.length ≤ maxLen)
    (hM : M ≠ [] → ∃ b o, md = some ⟨b, o, none⟩ ∧ TextsAt w b o M) (hMl : ∀ t ∈ M, t.length ≤ F.lim)
    (hS : S ≠ [] → ∃ b o, sd = some ⟨b, o, none⟩ ∧ SetsAtR w b o S) :
    Calls Tryz.prog 3 #[.slice qd Q.length cq, .slice nd T.length nc, .slice sd S.length sc, .slice md M.length mc] w fun e w' => e = .returned (.bool true) ∧ RowKit.Below w.heap.size w w' := by
  have Hg := hideO hg
  have Hq := hideO hq
  have Hqe := hideO hqe
  have HT : Hid _ := And.intro hT hTl
  have HM : Hid _ := And.intro hM hMl
  have HS := hideO hS
  have HN := F.new w
  clear hg hq hqe hT hTl hM hMl hS
  go_enter Tryz.func3, Tryz.ntmps3
  go_wp2_with fail
  refine HN.mono ?_
  rintro e w1 ⟨r, O, rfl, hA, hb1, hO⟩
  have hst3 := hideO (RB.new hA hb1 hO)
  clear hA hb1 hO HN
  generalize hQl : Q.length = nz at *
  have HQl := hideO hQl
  clear hQl
  dsimp only
  go_wp2_with fail
  generalize hm0 : w1.heap.size = m at *
  clear hm0
  go_loopw [11] (fun i wr => ∃ (k : Nat) (R : Rp), k ≤ nz ∧ k ≤ 50 ∧ i = .int .i64 k ∧ Hid (GoodR R) ∧ Hid (RB F w r m R wr)) (fun i wr => 50 - (intOf i).toNat)
  case atStart => exact ⟨0, emptyR, Nat.zero_le _, by omega, rfl, goodR_empty, hst3⟩
  case round =>
    obtain ⟨k, R, hk1, hk2, rfl, hG, hst⟩ := hrel
    generalize hW0 : wr = W0 at *
    clear hW0 hst3
    by_cases hkq : k < nz
    · by_cases hk50 : k < 50
      · have i1 : (k : Int) < (nz : Int) := by omega
        have i2 : (k : Int) < 50 := by omega
        have i0 : (0 : Int) ≤ (k : Int) := by omega
        have hkQ : k < Q.length := by rw [HQl.out]; exact hkq
        obtain ⟨bq, oq, rfl, hAq⟩ := Hq.out (fun e => by rw [e] at hkQ; simp at hkQ)
        have hbw : Hid (RowKit.Below w.heap.size w W0) := hst.out.low
        obtain ⟨aq, cq', hcq, hin, _⟩ := hAq k hkQ
        have hcW : Hid (∀ W', RowKit.Below w.heap.size w W' → W'.cell? ⟨bq, oq + k, none⟩ = some (.slice aq Q[k].length cq')) := fun W' h => (h.cell (World.block_lt_of_cell? w _ hcq)).trans hcq
        have hiW : Hid (∀ j, j < Q[k].length → ∃ b' o' z, aq = some ⟨b', o', none⟩ ∧ ∀ W', RowKit.Below w.heap.size w W' → W'.cell? ⟨b', o' + j, none⟩ = some (.int .i64 z)) := fun j hj => by
          obtain ⟨b', o', e, h⟩ := hin.at hj
          exact ⟨b', o', _, e, fun W' hW => (hW.cell (World.block_lt_of_cell? w _ h)).trans h⟩
        have nq0 : Q[k].length ≤ 9223372036854775807 := Hqe.out _ (List.getElem_mem hkQ)
        clear hin hcq hAq
        generalize Q[k] = q at *
        clear hkQ
        have ar0 : Hid (Num5 (W0.alloc (.cells #[.int .i64 0, .int .i64 0, .int .i64 0, .int .i64 0, .int .i64 0] 35)) W0.heap.size [0, 0, 0, 0, 0]) := Num5.new _
        go_upto_block 2 with fail
        go_cut [13] (fun _ W' => ∃ V, Hid (Num5 W' W0.heap.size V) ∧ Hid (RowKit.Below W0.heap.size W0 W'))
        case first =>
          go_wp2_with fail
          go_loopw [13] (fun i W' => ∃ (j : Nat) (V : List Int), i = .int .i64 j ∧ j ≤ 5 ∧ Hid (Num5 W' W0.heap.size V) ∧ Hid (RowKit.Below W0.heap.size W0 W')) (fun i W' => 5 - (intOf i).toNat)
          case atStart => exact ⟨0, _, rfl, by omega, ar0, balloc _ _⟩
          case round =>
            obtain ⟨j, V, rfl, hj5, ha, hbl⟩ := hrel
            have hcq := hcW.out _ (bstep hbw.out hbl.out)
            by_cases hlt : j < q.length
            · have j1 : (j : Int) < (q.length : Int) := by omega
              by_cases h5 : j < 5
              · have j2 : (j : Int) < 5 := by omega
                have j0 : (0 : Int) ≤ (j : Int) := by omega
                obtain ⟨b', o', z, rfl, hcell⟩ := hiW.out j hlt
                have hc0 := hcell _ (bstep hbw.out hbl.out)
                obtain ⟨a0, f0⟩ := ha.out.cell h5
                have hzl := World.block_lt_of_cell? _ _ a0
                have hset := hideO (ha.out.set j z)
                have hbset := hideO (hbl.out.setCell (p := ⟨W0.heap.size, j, none⟩) (Nat.le_refl _) (.int .i64 z))
                clear ha hbl
                go_wp2_with fail
                go_roundw
                case rel => exact ⟨j + 1, _, by go_num, by omega, hset, hbset⟩
                case measure => simp [intOf]; omega
              · obtain rfl : j = 5 := by omega
                have j2 : ¬ (((5 : Nat) : Int) < 5) := by omega
                go_wp2_with fail
                go_meet
                case rel => exact ⟨V, ha, hbl⟩
            · have j1 : ¬ ((j : Int) < (q.length : Int)) := by omega
              go_wp2_with fail
              go_meet
              case rel => exact ⟨V, ha, hbl⟩
        case rest =>
          obtain ⟨V, hNum, hbl⟩ := hcut
          have hst2 := hideO (hst.out.box hbl.out hNum.out)
          have HQm := hideO (And.intro hkq hk50)
          clear hcW hiW nq0 ar0 hst hbw hNum hbl
          refine go_on (by assumption) ?_
          refine rpStep F _ _ _ _ _ _ _ _ _ _ _ _ _ _ _ _ _ _ _ _ _ _ _ _ _ _ _ _ _ _ _ _ _ _ _ _ _ _ _ _ _ _ _ _ _ _ _ _ _ _ _ _ _ _ _ _ _ _ _ _ _ _ _ _ _ _ _ _ _ _ _ _ _ _ _ _ _ _ _ _ _ _ _ _ _ _ _ _ _ _ _ _ _ _ _ _ _ _ _ _ _ _ _ _ _ _ _ _ _ _ _ _ _ _ _ _ _ _ _ _ _ _ _ _ _ _ _ _ _ _ _ _ _ _ _ _ _ _ _ _ _ _ _ _ _ _ _ _ _ _ _ _ _ _ _ _ _ _ _ _ _ _ _ _ _ _ _ _ _ _ _ _ _ _ _ _ _ _ _ _ _ _ _ _ _ _ _ _ _ _ _ _ _ _ _ _ _ _ _ _ _ _ _ _ _ _ _ _ _ _ _ _ _ _ _ _ _ _ _ _ _ _ _ _ _ _ _ _ _ _ _ _ _ _ _ _ _ _ _ _ _ _ _ _ _ _ _ _ _ _ _ _ _ _ _ _ _ _ _ _ _ _ _ _ _ _ _ _ _ _ _ _ _ _ _ _ _ _ _ _ _ _ _ _ _ _ _ _ _ _ _ _ _ _ _ _ _ _ _ _ _ _ _ _ _ _ _ _ _ _ _ _ _ _ _ _ _ _ _ _ _ _ _ _ _ _ _ _ _ _ _ _ _ nd sd md cq nc sc mc nz T.length S.length M.length k r m W0.heap.size R V w wc T M S Hg.out hG.out hst2.out HT.out.1 rfl HT.out.2 HM.out.1 rfl HM.out.2 HS.out rfl ?_
          intros
          rename_i R' W' hst' hG'
          have Hst' := hideO hst'
          have HG' := hideO hG'
          clear hst' hst2 hG'
          go_wp2_with fail
          go_roundw
          case rel => exact ⟨k + 1, R', by have := HQm.out; omega, by have := HQm.out; omega, by go_num, HG', Hst'⟩
          case measure => simp [intOf]; omega
      · obtain rfl : k = 50 := by omega
        have i1 : ((50 : Nat) : Int) < (nz : Int) := by omega
        have hbw : Hid (RowKit.Below w.heap.size w W0) := hst.out.low
        clear hst
        go_wp2_with fail
        exact bodyPost_ret (v := .bool true) (by simp [results, Tryz.results3, go_sem]) rfl ⟨rfl, hbw.out⟩
    · obtain rfl : k = nz := by omega
      have hbw : Hid (RowKit.Below w.heap.size w W0) := hst.out.low
      clear hst
      go_wp2_with fail
      exact bodyPost_ret (v := .bool true) (by simp [results, Tryz.results3, go_sem]) rfl ⟨rfl, hbw.out⟩
end Go.Proofs.YtaddfndohoppeaaGreatDoor
