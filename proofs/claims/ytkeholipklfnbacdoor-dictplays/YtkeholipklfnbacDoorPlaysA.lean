/- DictPlays' round. -/
import Derived.Test.YtkeholipklfnbacDoorPlaysB
namespace Go.Proofs.YtkeholipklfnbacDoor
open Go Go.RowKit Go.Proofs Go.Maps
set_option synthInstance.maxSize 1000

attribute [local go_sem] eql_errV neq_errV guard_errV
attribute [local go_sem ↓] neqTriple neqTerm neqI3

set_option maxHeartbeats 32000000 in
set_option maxRecDepth 1000000 in
theorem roundA (Q0 : Exit → Act → World → Prop) (u6 u10 u11 u12 u13 u14 u15 u16 u17 u18 u19 u20 u21 u22 u23 u24 u25 u26 u27 u29 u30 u31 u32 u33 u34 u35 u36 u37 u38 u39 u40 u41 u42 u43 u44 u45 u46 u47 u48 u49 u50 u51 u52 u53 u54 u55 u56 u57 u58 u59 u60 u61 u62 u63 u64 u65 u66 u67 u68 u69 u70 u71 u72 u73 u74 u75 u76 u77 u78 u79 u80 u81 u82 u83 u84 u85 u86 u87 u88 u89 u90 u91 u92 u93 u94 u95 u96 u97 u98 u99 u100 u101 u102 u103 u104 u105 u106 u107 u108 u109 u110 u111 u112 u113 u114 u115 u116 u117 u118 u119 u120 u121 u122 u123 u124 u125 u126 u127 u128 u129 u130 u131 u132 u133 u134 u135 u136 u137 u138 u139 u140 u141 u142 u143 u144 u145 u146 u147 u148 u149 u150 u151 u152 u153 u154 u155 u156 u157 u158 u159 u160 u161 u162 u163 u164 u165 u166 u167 u168 u169 u170 u171 u172 u173 u174 u175 u176 u177 u178 u179 u180 u181 u182 u183 u184 u185 u186 u187 u188 u189 u190 u191 u192 u193 u194 u195 u196 u197 u198 u199 u200 u201 u202 u203 u204 u205 u206 u207 u208 u209 u210 u211 u212 u213 u214 u215 u216 u217 u218 u219 u220 u221 u222 u223 u224 u225 u226 u227 u228 u229 u230 u231 u232 u233 u234 u235 u236 u237 u238 u239 u240 u241 u242 u243 u244 u245 u246 u247 u248 u249 u250 u251 u252 u253 u254 u255 u256 u257 u258 u259 u260 u261 u262 u263 u264 u265 u266 u267 u268 u269 u270 u271 u272 u273 u274 u275 u276 u277 u278 : Value) (c3 c4 c5 c28 : Value) (ad bd cd av : Option Addr) (ca cb cc cv k n0 M : Nat) (ts : List Tm) (l : List Tr) (Q : List (List Int)) (L : List Tm) (w W : World)
    (hg : errVar w) (ht : SlM w ad ts) (ft : ∀ x ∈ ts, wfTm x) (hl : SlT w bd l) (fl : ∀ x ∈ l, wfTr x) (hq : AskAt w cd Q) (fq : ∀ q ∈ Q, ∀ n ∈ q, (Lit.int .i64 n).wf = true) (nq : ∀ q ∈ Q, q.length ≤ maxLen)
    (hk : k < ts.length) (hw : w.heap.size ≤ n0) (hM : M + 4 ≤ 300) (hG : GoodL L) (hLM : L.length ≤ M) (hh0 : Hold w n0 (.slice av L.length cv) L W)
    (hQ : ∀ (x6 x10 x11 x12 x13 x14 x15 x16 x17 x18 x19 x20 x21 x22 x23 x24 x25 x26 x27 x29 x30 x31 x32 x33 x34 x35 x36 x37 x38 x39 x40 x41 x42 x43 x44 x45 x46 x47 x48 x49 x50 x51 x52 x53 x54 x55 x56 x57 x58 x59 x60 x61 x62 x63 x64 x65 x66 x67 x68 x69 x70 x71 x72 x73 x74 x75 x76 x77 x78 x79 x80 x81 x82 x83 x84 x85 x86 x87 x88 x89 x90 x91 x92 x93 x94 x95 x96 x97 x98 x99 x100 x101 x102 x103 x104 x105 x106 x107 x108 x109 x110 x111 x112 x113 x114 x115 x116 x117 x118 x119 x120 x121 x122 x123 x124 x125 x126 x127 x128 x129 x130 x131 x132 x133 x134 x135 x136 x137 x138 x139 x140 x141 x142 x143 x144 x145 x146 x147 x148 x149 x150 x151 x152 x153 x154 x155 x156 x157 x158 x159 x160 x161 x162 x163 x164 x165 x166 x167 x168 x169 x170 x171 x172 x173 x174 x175 x176 x177 x178 x179 x180 x181 x182 x183 x184 x185 x186 x187 x188 x189 x190 x191 x192 x193 x194 x195 x196 x197 x198 x199 x200 x201 x202 x203 x204 x205 x206 x207 x208 x209 x210 x211 x212 x213 x214 x215 x216 x217 x218 x219 x220 x221 x222 x223 x224 x225 x226 x227 x228 x229 x230 x231 x232 x233 x234 x235 x236 x237 x238 x239 x240 x241 x242 x243 x244 x245 x246 x247 x248 x249 x250 x251 x252 x253 x254 x255 x256 x257 x258 x259 x260 x261 x262 x263 x264 x265 x266 x267 x268 x269 x270 x271 x272 x273 x274 x275 x276 x277 x278 : Value) (vv : Value) (W' : World), PlaySt w n0 (M + 1 + 3) vv W' → Q0 .normal ⟨#[.slice ad ts.length ca, .slice bd l.length cb, .slice cd Q.length cc, c3, c4, c5, x6, .pointer (some ⟨n0 + 2, 0, none⟩), vv, .int .i64 (k : Int), x10, x11, x12, x13, x14, x15, x16, x17, x18, x19, x20, x21, x22, x23, x24, x25, x26, x27, c28, x29, x30, x31, x32, x33, x34, x35, x36, x37, x38, x39, x40, x41, x42, x43, x44, x45, x46, x47, x48, x49, x50, x51, x52, x53, x54, x55, x56, x57, x58, x59, x60, x61, x62, x63, x64, x65, x66, x67, x68, x69, x70, x71, x72, x73, x74, x75, x76, x77, x78, x79, x80, x81, x82, x83, x84, x85, x86, x87, x88, x89, x90, x91, x92, x93, x94, x95, x96, x97, x98, x99, x100, x101, x102, x103, x104, x105, x106, x107, x108, x109, x110, x111, x112, x113, x114, x115, x116, x117, x118, x119, x120, x121, x122, x123, x124, x125, x126, x127, x128, x129, x130, x131, x132, x133, x134, x135, x136, x137, x138, x139, x140, x141, x142, x143, x144, x145, x146, x147, x148, x149, x150, x151, x152, x153, x154, x155, x156, x157, x158, x159, x160, x161, x162, x163, x164, x165, x166, x167, x168, x169, x170, x171, x172, x173, x174, x175, x176, x177, x178, x179, x180, x181, x182, x183, x184, x185, x186, x187, x188, x189, x190, x191, x192, x193, x194, x195, x196, x197, x198, x199, x200, x201, x202, x203, x204, x205, x206, x207, x208, x209, x210, x211, x212, x213, x214, x215, x216, x217, x218, x219, x220, x221, x222, x223, x224, x225, x226, x227, x228, x229, x230, x231, x232, x233, x234, x235, x236, x237, x238, x239, x240, x241, x242, x243, x244, x245, x246, x247, x248, x249, x250, x251, x252, x253, x254, x255, x256, x257, x258, x259, x260, x261, x262, x263, x264, x265, x266, x267, x268, x269, x270, x271, x272, x273, x274, x275, x276, x277, x278], []⟩ W') :
    Code.wp Tryd.prog (inner (codeOf Tryd.f3.body 6)) Q0 ⟨#[.slice ad ts.length ca, .slice bd l.length cb, .slice cd Q.length cc, c3, c4, c5, u6, .pointer (some ⟨n0 + 2, 0, none⟩), .slice av L.length cv, .int .i64 (k : Int), u10, u11, u12, u13, u14, u15, u16, u17, u18, u19, u20, u21, u22, u23, u24, u25, u26, u27, c28, u29, u30, u31, u32, u33, u34, u35, u36, u37, u38, u39, u40, u41, u42, u43, u44, u45, u46, u47, u48, u49, u50, u51, u52, u53, u54, u55, u56, u57, u58, u59, u60, u61, u62, u63, u64, u65, u66, u67, u68, u69, u70, u71, u72, u73, u74, u75, u76, u77, u78, u79, u80, u81, u82, u83, u84, u85, u86, u87, u88, u89, u90, u91, u92, u93, u94, u95, u96, u97, u98, u99, u100, u101, u102, u103, u104, u105, u106, u107, u108, u109, u110, u111, u112, u113, u114, u115, u116, u117, u118, u119, u120, u121, u122, u123, u124, u125, u126, u127, u128, u129, u130, u131, u132, u133, u134, u135, u136, u137, u138, u139, u140, u141, u142, u143, u144, u145, u146, u147, u148, u149, u150, u151, u152, u153, u154, u155, u156, u157, u158, u159, u160, u161, u162, u163, u164, u165, u166, u167, u168, u169, u170, u171, u172, u173, u174, u175, u176, u177, u178, u179, u180, u181, u182, u183, u184, u185, u186, u187, u188, u189, u190, u191, u192, u193, u194, u195, u196, u197, u198, u199, u200, u201, u202, u203, u204, u205, u206, u207, u208, u209, u210, u211, u212, u213, u214, u215, u216, u217, u218, u219, u220, u221, u222, u223, u224, u225, u226, u227, u228, u229, u230, u231, u232, u233, u234, u235, u236, u237, u238, u239, u240, u241, u242, u243, u244, u245, u246, u247, u248, u249, u250, u251, u252, u253, u254, u255, u256, u257, u258, u259, u260, u261, u262, u263, u264, u265, u266, u267, u268, u269, u270, u271, u272, u273, u274, u275, u276, u277, u278], []⟩ W := by
  have HQ := hide2 hQ
  have Hw := hide2 (show errVar w ∧ SlT w bd l ∧ (∀ x ∈ l, wfTr x) ∧ AskAt w cd Q ∧ (∀ q ∈ Q, ∀ n ∈ q, (Lit.int .i64 n).wf = true) ∧ (∀ q ∈ Q, q.length ≤ maxLen) from ⟨hg, hl, fl, hq, fq, nq⟩)
  have hwx := hide2 (ft _ (List.getElem_mem hk))
  obtain ⟨b, o, rfl, hr⟩ := ht.at k hk
  have hrow := hide2 (show ∀ W', RowKit.Below w.heap.size w W' → _ from fun W' h => (hr.below h).at k hk)
  have HT := fun W => RTerm_any ts[k].1 ts[k].2.1 ts[k].2.2 W hwx.out.2.1 hwx.out.2.2
  have HA := fun W (hW : DictAt W n0 L) => Add_any n0 L ts[k] W hW (by omega) hwx.out.2
  have er := hide2 (show addE L ts[k] = chkTm ts[k] from addE_room (by omega))
  have HE := fun W (hW : errVar W) => SameErr (chkTm ts[k]) W hW
  have HL := fun W (hW : DictAt W n0 (newL L ts[k])) => Len_any n0 (newL L ts[k]) W hW
  have hG2 := hide2 (hG.new ts[k])
  have hL2 := newL_le L ts[k]
  have Hh := hide2 hh0
  have i0 : (0 : Int) ≤ (k : Int) := by omega
  have i1 : (k : Int) < (ts.length : Int) := by omega
  rw [er.out] at HA
  clear hQ hg hl fl hq fq nq ft ht hr hG hh0
  generalize ts[k] = x at *
  rw [show checkN x.1 x.2.1 x.2.2 = chkTm x from rfl] at HT
  obtain ⟨c0, c1, c2⟩ := hrow.out W Hh.out.2.2
  unfold valTm at HA
  conv => arg 2; whnf
  go_wp2_with fail
  refine (HT _).mono ?_
  rintro e W2 ⟨rfl, hb2⟩
  have hH2 := hide2 (Hh.out.below hb2)
  clear HT Hh hb2 c0 c1 c2
  dsimp only
  go_upto_if 45 with fail
  go_cut [8, 11] from 44 to 54 (fun v2 n W' => n = .int .i64 (newN L x) ∧ Hid (DictAt W' n0 L ∧ OwnL W' n0 v2 (newL L x) ∧ RowKit.Below w.heap.size w W'))
  case first =>
    clear HQ HA HE HL
    cases hc : (chkTm x == 0)
    · have e0 : ¬ addE L x = 0 := by rw [er.out]; simpa using hc
      have eL := hide2 (show newL L x = L from if_neg e0)
      have eN := hide2 (show newN L x = 0 from if_neg e0)
      clear e0
      generalize chkTm x = m at *
      go_wp2_with fail
      go_meet
      case rel => exact ⟨by rw [eN.out]; rfl, by show DictAt _ _ _ ∧ OwnL _ _ _ _ ∧ _; rw [eL.out]; exact hH2.out⟩
    · have e0 : addE L x = 0 := by rw [er.out]; simpa using hc
      have eL := hide2 (show newL L x = addL L x from if_pos e0)
      have eN := hide2 (show newN L x = idN (addL L x) x from if_pos e0)
      obtain ⟨c0, c1, c2⟩ := hrow.out W2 hH2.out.2.2
      have HN := numS_any w n0 L L (.slice av L.length cv) x W2 hw hH2.out.1 hH2.out.2.1 (by omega) hH2.out.2.2
      clear e0
      generalize chkTm x = m at *
      go_wp2_with fail
      refine HN.mono ?_
      rintro e W3 ⟨v', rfl, hD3, ho3, _, hb3, _, _⟩
      clear HN
      dsimp only
      go_wp2_with fail
      go_meet
      case rel => exact ⟨by rw [eN.out], by show DictAt _ _ _ ∧ OwnL _ _ _ _ ∧ _; rw [eL.out]; exact ⟨hD3, ho3, hb3⟩⟩
  case rest =>
    obtain ⟨rfl, hA⟩ := hcut
    obtain ⟨a2, c2, e, _⟩ := own_slM hA.out.2.1
    subst e
    clear hH2 er
    generalize newN L x = d at *
    generalize chkTm x = m at *
    generalize newL L x = L2 at *
    obtain ⟨c0, c1, c2'⟩ := hrow.out _ hA.out.2.2
    go_wp2_with fail
    refine (HA _ hA.out.1).mono ?_
    rintro e W3 ⟨rfl, hD3, hT3⟩
    have hH3 := hide2 (show Hold w n0 (.slice a2 L2.length c2) L2 W3 from ⟨hD3, hA.out.2.1.turned hT3, hA.out.2.2.trans (hT3.low.mono hw)⟩)
    clear HA hA hD3 hT3 c0 c1 c2'
    dsimp only
    go_wp2_with fail
    refine (HE _ (Hw.out.1.below hH3.out.2.2)).mono ?_
    rintro e W4 ⟨rfl, hb4⟩
    have hH4 := hide2 (hH3.out.below hb4)
    clear HE hH3 hb4
    dsimp only
    go_wp2_with fail
    refine (HL _ hH4.out.1).mono ?_
    rintro e W5 ⟨rfl, rfl⟩
    clear HL
    dsimp only
    go_upto_if 80 with fail
    go_cut [8] from 67 to 80 (fun v W' => v = .slice a2 L2.length c2 ∧ Hid (Hold w n0 (.slice a2 L2.length c2) L2 W'))
    case first =>
      clear HQ
      go_wp2_with fail
      go_meet
      case rel => exact ⟨rfl, hH4⟩
    case rest =>
      obtain ⟨rfl, hh⟩ := hcut
      refine go_on (by assumption) ?_
      exact roundB Q0 _ _ _ _ _ _ _ _ _ _ _ _ _ _ _ _ _ _ _ _ _ _ _ _ _ _ _ _ _ _ _ _ _ _ _ _ _ _ _ _ _ _ _ _ _ _ _ _ _ _ _ _ _ _ _ _ _ _ _ _ _ _ _ _ _ _ _ _ _ _ _ _ _ _ _ _ _ _ _ _ _ _ _ _ _ _ _ _ _ _ _ _ _ _ _ _ _ _ _ _ _ _ _ _ _ _ _ _ _ _ _ _ _ _ _ _ _ _ _ _ _ _ _ _ _ _ _ _ _ _ _ _ _ _ _ _ _ _ _ _ _ _ _ _ _ _ _ _ _ _ _ _ _ _ _ _ _ _ _ _ _ _ _ _ _ _ _ _ _ _ _ _ _ _ _ _ _ _ _ _ _ _ _ _ _ _ _ _ _ _ _ _ _ _ _ _ _ _ _ _ _ _ _ _ _ _ _ _ _ _ _ _ _ _ _ _ _ _ _ _ _ _ _ _ _ _ _ _ _ _ _ _ _ _ _ _ _ _ _ _ _ _ _ _ _ _ _ _ _ _ _ _ _ _ _ _ _ _ _ _ _ _ _ _ _ _ _ _ _ _ _ _ _ _ bd cd a2 ca cb cc c2 k n0 (M + 1) ts l Q L2 w _ Hw.out.1 Hw.out.2.1 Hw.out.2.2.1 Hw.out.2.2.2.1 Hw.out.2.2.2.2.1 Hw.out.2.2.2.2.2 hw (by omega) hG2.out (by omega) hh.out (fun x6 x10 x11 x12 x13 x14 x15 x16 x17 x18 x19 x20 x21 x22 x23 x24 x25 x26 x27 x29 x30 x31 x32 x33 x34 x35 x36 x37 x38 x39 x40 x41 x42 x43 x44 x45 x46 x47 x48 x49 x50 x51 x52 x53 x54 x55 x56 x57 x58 x59 x60 x61 x62 x63 x64 x65 x66 x67 x68 x69 x70 x71 x72 x73 x74 x75 x76 x77 x78 x79 x80 x81 x82 x83 x84 x85 x86 x87 x88 x89 x90 x91 x92 x93 x94 x95 x96 x97 x98 x99 x100 x101 x102 x103 x104 x105 x106 x107 x108 x109 x110 x111 x112 x113 x114 x115 x116 x117 x118 x119 x120 x121 x122 x123 x124 x125 x126 x127 x128 x129 x130 x131 x132 x133 x134 x135 x136 x137 x138 x139 x140 x141 x142 x143 x144 x145 x146 x147 x148 x149 x150 x151 x152 x153 x154 x155 x156 x157 x158 x159 x160 x161 x162 x163 x164 x165 x166 x167 x168 x169 x170 x171 x172 x173 x174 x175 x176 x177 x178 x179 x180 x181 x182 x183 x184 x185 x186 x187 x188 x189 x190 x191 x192 x193 x194 x195 x196 x197 x198 x199 x200 x201 x202 x203 x204 x205 x206 x207 x208 x209 x210 x211 x212 x213 x214 x215 x216 x217 x218 x219 x220 x221 x222 x223 x224 x225 x226 x227 x228 x229 x230 x231 x232 x233 x234 x235 x236 x237 x238 x239 x240 x241 x242 x243 x244 x245 x246 x247 x248 x249 x250 x251 x252 x253 x254 x255 x256 x257 x258 x259 x260 x261 x262 x263 x264 x265 x266 x267 x268 x269 x270 x271 x272 x273 x274 x275 x276 x277 x278 vv W' h => HQ.out x6 x10 x11 x12 x13 x14 x15 x16 x17 x18 x19 x20 x21 x22 x23 x24 x25 x26 x27 x29 x30 x31 x32 x33 x34 x35 x36 x37 x38 x39 x40 x41 x42 x43 x44 x45 x46 x47 x48 x49 x50 x51 x52 x53 x54 x55 x56 x57 x58 x59 x60 x61 x62 x63 x64 x65 x66 x67 x68 x69 x70 x71 x72 x73 x74 x75 x76 x77 x78 x79 x80 x81 x82 x83 x84 x85 x86 x87 x88 x89 x90 x91 x92 x93 x94 x95 x96 x97 x98 x99 x100 x101 x102 x103 x104 x105 x106 x107 x108 x109 x110 x111 x112 x113 x114 x115 x116 x117 x118 x119 x120 x121 x122 x123 x124 x125 x126 x127 x128 x129 x130 x131 x132 x133 x134 x135 x136 x137 x138 x139 x140 x141 x142 x143 x144 x145 x146 x147 x148 x149 x150 x151 x152 x153 x154 x155 x156 x157 x158 x159 x160 x161 x162 x163 x164 x165 x166 x167 x168 x169 x170 x171 x172 x173 x174 x175 x176 x177 x178 x179 x180 x181 x182 x183 x184 x185 x186 x187 x188 x189 x190 x191 x192 x193 x194 x195 x196 x197 x198 x199 x200 x201 x202 x203 x204 x205 x206 x207 x208 x209 x210 x211 x212 x213 x214 x215 x216 x217 x218 x219 x220 x221 x222 x223 x224 x225 x226 x227 x228 x229 x230 x231 x232 x233 x234 x235 x236 x237 x238 x239 x240 x241 x242 x243 x244 x245 x246 x247 x248 x249 x250 x251 x252 x253 x254 x255 x256 x257 x258 x259 x260 x261 x262 x263 x264 x265 x266 x267 x268 x269 x270 x271 x272 x273 x274 x275 x276 x277 x278 vv W' h)
end Go.Proofs.YtkeholipklfnbacDoor
