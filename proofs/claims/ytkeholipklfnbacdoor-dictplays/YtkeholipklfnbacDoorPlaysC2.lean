/- DictPlays' round, its last part: numbers that are asked: what they stand for. -/
import Derived.Test.YtkeholipklfnbacDoorPlaysC3
namespace Go.Proofs.YtkeholipklfnbacDoor
open Go Go.RowKit Go.Proofs Go.Maps
set_option synthInstance.maxSize 1000

attribute [local go_sem] eql_errV neq_errV guard_errV
attribute [local go_sem ↓] neqTriple neqTerm neqI3

theorem Hold.three {w W : World} {n0 : Nat} {v : Value} {L : List Tm} (h : Hold w n0 v L W) {b o : Nat} (u0 u1 u2 : Value) (hp : n0 + 3 ≤ b) (hw : w.heap.size ≤ b) (hv : v.ownBlock ≠ some b) :
    Hold w n0 v L (((W.setCell ⟨b, o, none⟩ u0).setCell ⟨b, o + 1, none⟩ u1).setCell ⟨b, o + 2, none⟩ u2) :=
  ((h.put (p := ⟨b, o, none⟩) u0 hp hw hv).put (p := ⟨b, o + 1, none⟩) u1 hp hw hv).put (p := ⟨b, o + 2, none⟩) u2 hp hw hv
theorem Arr.three {W : World} {c : Nat} {vs : Array Value} {t : TypeId} (h : Arr W c vs t) {b o : Nat} (u0 u1 u2 : Value) (hne : c ≠ b) : Arr (((W.setCell ⟨b, o, none⟩ u0).setCell ⟨b, o + 1, none⟩ u1).setCell ⟨b, o + 2, none⟩ u2) c vs t :=
  ((h.set_other (p := ⟨b, o, none⟩) u0 hne).set_other (p := ⟨b, o + 1, none⟩) u1 hne).set_other (p := ⟨b, o + 2, none⟩) u2 hne
theorem Arr.nine {W : World} {b : Nat} {t : TypeId} {a0 a1 a2 a3 a4 a5 a6 a7 a8 : Value} (h : Arr W b #[a0, a1, a2, a3, a4, a5, a6, a7, a8] t) (u0 u1 u2 u3 u4 u5 u6 u7 u8 : Value) :
    Arr (((((((((W.setCell ⟨b, 0, none⟩ u0).setCell ⟨b, 1, none⟩ u1).setCell ⟨b, 2, none⟩ u2).setCell ⟨b, 3, none⟩ u3).setCell ⟨b, 4, none⟩ u4).setCell ⟨b, 5, none⟩ u5).setCell ⟨b, 6, none⟩ u6).setCell ⟨b, 7, none⟩ u7).setCell ⟨b, 8, none⟩ u8) b #[u0, u1, u2, u3, u4, u5, u6, u7, u8] t := by
  have := (((((((((h.set 0 u0).set 1 u1).set 2 u2).set 3 u3).set 4 u4).set 5 u5).set 6 u6).set 7 u7).set 8 u8)
  simpa using this
theorem Hold.nine {w W : World} {n0 : Nat} {v : Value} {L : List Tm} (h : Hold w n0 v L W) {b : Nat} (u0 u1 u2 u3 u4 u5 u6 u7 u8 : Value) (hp : n0 + 3 ≤ b) (hw : w.heap.size ≤ b) (hv : v.ownBlock ≠ some b) :
    Hold w n0 v L (((((((((W.setCell ⟨b, 0, none⟩ u0).setCell ⟨b, 1, none⟩ u1).setCell ⟨b, 2, none⟩ u2).setCell ⟨b, 3, none⟩ u3).setCell ⟨b, 4, none⟩ u4).setCell ⟨b, 5, none⟩ u5).setCell ⟨b, 6, none⟩ u6).setCell ⟨b, 7, none⟩ u7).setCell ⟨b, 8, none⟩ u8) :=
  ((h.three (o := 0) u0 u1 u2 hp hw hv).three (o := 3) u3 u4 u5 hp hw hv).three (o := 6) u6 u7 u8 hp hw hv
theorem Arr.apart9 {W : World} {c : Nat} {vs : Array Value} {t : TypeId} (h : Arr W c vs t) {b : Nat} (u0 u1 u2 u3 u4 u5 u6 u7 u8 : Value) (hne : c ≠ b) :
    Arr (((((((((W.setCell ⟨b, 0, none⟩ u0).setCell ⟨b, 1, none⟩ u1).setCell ⟨b, 2, none⟩ u2).setCell ⟨b, 3, none⟩ u3).setCell ⟨b, 4, none⟩ u4).setCell ⟨b, 5, none⟩ u5).setCell ⟨b, 6, none⟩ u6).setCell ⟨b, 7, none⟩ u7).setCell ⟨b, 8, none⟩ u8) c vs t :=
  ((h.three (o := 0) u0 u1 u2 hne).three (o := 3) u3 u4 u5 hne).three (o := 6) u6 u7 u8 hne
/-- the row's own facts of a number that stands for a term -/
theorem in_row {W : World} {n0 : Nat} {av : Option Addr} {cv : Nat} {L : List Tm} {z : Int} (ho : OwnL W n0 (.slice av L.length cv) L) (hin : atE L z = 0) :
    ∃ (n bl ol : Nat), z = (n : Int) + 1 ∧ (n : Int) < (L.length : Int) ∧ av = some ⟨bl, ol, none⟩ ∧ W.cell? ⟨bl, ol + n * 3, none⟩ = some (.int .i64 (atN L z).1) ∧ W.cell? ⟨bl, ol + n * 3 + 1, none⟩ = some (.string ⟨(atN L z).2.1.toArray⟩) ∧ W.cell? ⟨bl, ol + n * 3 + 2, none⟩ = some (.string ⟨(atN L z).2.2.toArray⟩) := by
  have hin := atE_zero.1 hin
  obtain ⟨n, hn⟩ : ∃ n : Nat, z = (n : Int) + 1 := ⟨(z - 1).toNat, by omega⟩
  have hnl : n < L.length := by omega
  obtain ⟨_, _, e, hsl⟩ := own_slM ho
  simp only [Value.slice.injEq, true_and] at e
  obtain ⟨rfl, rfl⟩ := e
  obtain ⟨bl, ol, rfl, hr⟩ := hsl.at n hnl
  obtain ⟨l0, l1, l2⟩ := hr.at n hnl
  refine ⟨n, bl, ol, hn, by omega, rfl, ?_⟩
  rw [hn, atN_at hnl]
  exact ⟨l0, l1, l2⟩
theorem out_row {L : List Tm} {z : Int} (h : ¬ atE L z = 0) : (z < 1 ∨ (¬ z < 1 ∧ z > (L.length : Int))) ∧ atE L z = 5 := by
  have h1 : ¬ (1 ≤ z ∧ z ≤ (L.length : Int)) := fun h2 => h (atE_zero.2 h2)
  exact ⟨by omega, if_neg h1⟩

set_option maxHeartbeats 32000000 in
set_option maxRecDepth 1000000 in
theorem roundC2 (Q0 : Exit → Act → World → Prop) (u6 u10 u11 u12 u13 u14 u15 u16 u17 u18 u20 u21 u22 u23 u24 u25 u26 u27 u29 u30 u31 u32 u33 u34 u35 u36 u37 u38 u39 u40 u41 u42 u43 u44 u45 u46 u47 u48 u49 u50 u51 u52 u53 u54 u55 u56 u57 u58 u59 u60 u61 u62 u63 u64 u65 u66 u67 u68 u69 u70 u71 u72 u73 u74 u75 u76 u77 u78 u79 u80 u81 u82 u83 u84 u85 u86 u87 u88 u89 u90 u91 u92 u93 u94 u95 u96 u97 u98 u99 u100 u101 u102 u103 u104 u105 u106 u107 u108 u109 u110 u111 u112 u113 u114 u115 u116 u117 u118 u119 u120 u121 u122 u123 u124 u125 u126 u127 u128 u129 u130 u131 u132 u133 u134 u135 u136 u137 u138 u139 u140 u141 u142 u143 u144 u145 u146 u147 u148 u149 u150 u151 u152 u153 u154 u155 u156 u157 u158 u159 u160 u161 u162 u163 u164 u165 u166 u167 u168 u169 u170 u171 u172 u173 u174 u175 u176 u177 u178 u179 u180 u181 u182 u183 u184 u185 u186 u187 u188 u189 u190 u191 u192 u193 u194 u195 u196 u197 u198 u199 u200 u201 u202 u203 u204 u205 u206 u207 u208 u209 u210 u211 u212 u213 u214 u215 u216 u217 u218 u219 u220 u221 u222 u223 u224 u225 u226 u227 u228 u229 u230 u231 u232 u233 u234 u235 u236 u237 u238 u239 u240 u241 u242 u243 u244 u245 u246 u247 u248 u249 u250 u251 u252 u253 u254 u255 u256 u257 u258 u259 u260 u261 u262 u263 u264 u265 u266 u267 u268 u269 u270 u271 u272 u273 u274 u275 u276 u277 u278 : Value) (c3 c4 c5 c28 : Value) (ad bd cd av : Option Addr) (ca cb cc cv k n0 bv : Nat) (ts : List Tm) (l : List Tr) (Q : List (List Int)) (L : List Tm) (z0 z1 z2 : Int) (w W : World)
    (hg : errVar w) (hG : GoodL L) (hwz : wfI (z0, z1, z2)) (hh : Hold w n0 (.slice av L.length cv) L W) (hv : Arr W bv #[.int .i64 z0, .int .i64 z1, .int .i64 z2] 41)
    (hQ : ∀ (x6 x10 x11 x12 x13 x14 x15 x16 x17 x18 x19 x20 x21 x22 x23 x24 x25 x26 x27 x29 x30 x31 x32 x33 x34 x35 x36 x37 x38 x39 x40 x41 x42 x43 x44 x45 x46 x47 x48 x49 x50 x51 x52 x53 x54 x55 x56 x57 x58 x59 x60 x61 x62 x63 x64 x65 x66 x67 x68 x69 x70 x71 x72 x73 x74 x75 x76 x77 x78 x79 x80 x81 x82 x83 x84 x85 x86 x87 x88 x89 x90 x91 x92 x93 x94 x95 x96 x97 x98 x99 x100 x101 x102 x103 x104 x105 x106 x107 x108 x109 x110 x111 x112 x113 x114 x115 x116 x117 x118 x119 x120 x121 x122 x123 x124 x125 x126 x127 x128 x129 x130 x131 x132 x133 x134 x135 x136 x137 x138 x139 x140 x141 x142 x143 x144 x145 x146 x147 x148 x149 x150 x151 x152 x153 x154 x155 x156 x157 x158 x159 x160 x161 x162 x163 x164 x165 x166 x167 x168 x169 x170 x171 x172 x173 x174 x175 x176 x177 x178 x179 x180 x181 x182 x183 x184 x185 x186 x187 x188 x189 x190 x191 x192 x193 x194 x195 x196 x197 x198 x199 x200 x201 x202 x203 x204 x205 x206 x207 x208 x209 x210 x211 x212 x213 x214 x215 x216 x217 x218 x219 x220 x221 x222 x223 x224 x225 x226 x227 x228 x229 x230 x231 x232 x233 x234 x235 x236 x237 x238 x239 x240 x241 x242 x243 x244 x245 x246 x247 x248 x249 x250 x251 x252 x253 x254 x255 x256 x257 x258 x259 x260 x261 x262 x263 x264 x265 x266 x267 x268 x269 x270 x271 x272 x273 x274 x275 x276 x277 x278 : Value) (W' : World), Hold w n0 (.slice av L.length cv) L W' → Q0 .normal ⟨#[.slice ad ts.length ca, .slice bd l.length cb, .slice cd Q.length cc, c3, c4, c5, x6, .pointer (some ⟨n0 + 2, 0, none⟩), .slice av L.length cv, .int .i64 (k : Int), x10, x11, x12, x13, x14, x15, x16, x17, x18, x19, x20, x21, x22, x23, x24, x25, x26, x27, c28, x29, x30, x31, x32, x33, x34, x35, x36, x37, x38, x39, x40, x41, x42, x43, x44, x45, x46, x47, x48, x49, x50, x51, x52, x53, x54, x55, x56, x57, x58, x59, x60, x61, x62, x63, x64, x65, x66, x67, x68, x69, x70, x71, x72, x73, x74, x75, x76, x77, x78, x79, x80, x81, x82, x83, x84, x85, x86, x87, x88, x89, x90, x91, x92, x93, x94, x95, x96, x97, x98, x99, x100, x101, x102, x103, x104, x105, x106, x107, x108, x109, x110, x111, x112, x113, x114, x115, x116, x117, x118, x119, x120, x121, x122, x123, x124, x125, x126, x127, x128, x129, x130, x131, x132, x133, x134, x135, x136, x137, x138, x139, x140, x141, x142, x143, x144, x145, x146, x147, x148, x149, x150, x151, x152, x153, x154, x155, x156, x157, x158, x159, x160, x161, x162, x163, x164, x165, x166, x167, x168, x169, x170, x171, x172, x173, x174, x175, x176, x177, x178, x179, x180, x181, x182, x183, x184, x185, x186, x187, x188, x189, x190, x191, x192, x193, x194, x195, x196, x197, x198, x199, x200, x201, x202, x203, x204, x205, x206, x207, x208, x209, x210, x211, x212, x213, x214, x215, x216, x217, x218, x219, x220, x221, x222, x223, x224, x225, x226, x227, x228, x229, x230, x231, x232, x233, x234, x235, x236, x237, x238, x239, x240, x241, x242, x243, x244, x245, x246, x247, x248, x249, x250, x251, x252, x253, x254, x255, x256, x257, x258, x259, x260, x261, x262, x263, x264, x265, x266, x267, x268, x269, x270, x271, x272, x273, x274, x275, x276, x277, x278], []⟩ W') :
    Code.wp Tryd.prog (codeOf Tryd.f3.body 41) Q0 ⟨#[.slice ad ts.length ca, .slice bd l.length cb, .slice cd Q.length cc, c3, c4, c5, u6, .pointer (some ⟨n0 + 2, 0, none⟩), .slice av L.length cv, .int .i64 (k : Int), u10, u11, u12, u13, u14, u15, u16, u17, u18, .pointer (some ⟨bv, 0, none⟩), u20, u21, u22, u23, u24, u25, u26, u27, c28, u29, u30, u31, u32, u33, u34, u35, u36, u37, u38, u39, u40, u41, u42, u43, u44, u45, u46, u47, u48, u49, u50, u51, u52, u53, u54, u55, u56, u57, u58, u59, u60, u61, u62, u63, u64, u65, u66, u67, u68, u69, u70, u71, u72, u73, u74, u75, u76, u77, u78, u79, u80, u81, u82, u83, u84, u85, u86, u87, u88, u89, u90, u91, u92, u93, u94, u95, u96, u97, u98, u99, u100, u101, u102, u103, u104, u105, u106, u107, u108, u109, u110, u111, u112, u113, u114, u115, u116, u117, u118, u119, u120, u121, u122, u123, u124, u125, u126, u127, u128, u129, u130, u131, u132, u133, u134, u135, u136, u137, u138, u139, u140, u141, u142, u143, u144, u145, u146, u147, u148, u149, u150, u151, u152, u153, u154, u155, u156, u157, u158, u159, u160, u161, u162, u163, u164, u165, u166, u167, u168, u169, u170, u171, u172, u173, u174, u175, u176, u177, u178, u179, u180, u181, u182, u183, u184, u185, u186, u187, u188, u189, u190, u191, u192, u193, u194, u195, u196, u197, u198, u199, u200, u201, u202, u203, u204, u205, u206, u207, u208, u209, u210, u211, u212, u213, u214, u215, u216, u217, u218, u219, u220, u221, u222, u223, u224, u225, u226, u227, u228, u229, u230, u231, u232, u233, u234, u235, u236, u237, u238, u239, u240, u241, u242, u243, u244, u245, u246, u247, u248, u249, u250, u251, u252, u253, u254, u255, u256, u257, u258, u259, u260, u261, u262, u263, u264, u265, u266, u267, u268, u269, u270, u271, u272, u273, u274, u275, u276, u277, u278], []⟩ W := by
  have HQ := hide2 hQ
  have Hh := hide2 hh
  have Hv := hide2 hv
  have Hall := hide2 (show errVar w ∧ GoodL L ∧ wfI (z0, z1, z2) from ⟨hg, hG, hwz⟩)
  have hL : L.length ≤ 300 := hG.2.2
  have hlt := hh.1.lt
  have hbv := hv.lt
  have hww := hh.2.2.size
  have hne := hide2 (show (Value.slice av L.length cv).ownBlock ≠ some W.heap.size from fun e => absurd (hh.2.1.lt _ e).2 (Nat.lt_irrefl _))
  have ax : Hid (Arr (W.alloc (.cells #[.int .i64 0, .string ⟨#[]⟩, .string ⟨#[]⟩, .int .i64 0, .string ⟨#[]⟩, .string ⟨#[]⟩, .int .i64 0, .string ⟨#[]⟩, .string ⟨#[]⟩] 45)) W.heap.size #[.int .i64 0, .string ⟨#[]⟩, .string ⟨#[]⟩, .int .i64 0, .string ⟨#[]⟩, .string ⟨#[]⟩, .int .i64 0, .string ⟨#[]⟩, .string ⟨#[]⟩] 45) := arr_made _ _ _
  clear hQ hh hv hG hg hwz
  conv => arg 2; whnf
  go_upto_block 4 with fail
  go_cut [22, 10] from 187 to 215 (fun _ e W' => ∃ (e2 : Int) (p0 p1 p2 : Tm), e = .int .i64 e2 ∧ Hid (Hold w n0 (.slice av L.length cv) L W') ∧ Hid (Arr W' bv #[.int .i64 z0, .int .i64 z1, .int .i64 z2] 41) ∧ Hid (Arr W' W.heap.size #[.int .i64 p0.1, .string ⟨p0.2.1.toArray⟩, .string ⟨p0.2.2.toArray⟩, .int .i64 p1.1, .string ⟨p1.2.1.toArray⟩, .string ⟨p1.2.2.toArray⟩, .int .i64 p2.1, .string ⟨p2.2.1.toArray⟩, .string ⟨p2.2.2.toArray⟩] 45) ∧ Hid ((e2 = 0 ∧ atE L z0 = 0 ∧ atE L z1 = 0 ∧ atE L z2 = 0 ∧ p0 = atN L z0 ∧ p1 = atN L z1 ∧ p2 = atN L z2) ∨ (e2 = 5 ∧ openE L (z0, z1, z2) = 5)))
  case first =>
    clear HQ
    go_wp2_with fail
    go_loopw [22, 10] (fun i e W' => ((i = .int .i64 0 ∧ e = .int .i64 0 ∧ Hid (Arr W' W.heap.size #[.int .i64 0, .string ⟨#[]⟩, .string ⟨#[]⟩, .int .i64 0, .string ⟨#[]⟩, .string ⟨#[]⟩, .int .i64 0, .string ⟨#[]⟩, .string ⟨#[]⟩] 45))
      ∨ (i = .int .i64 1 ∧ e = .int .i64 0 ∧ Hid (atE L z0 = 0) ∧ Hid (Arr W' W.heap.size #[.int .i64 (atN L z0).1, .string ⟨(atN L z0).2.1.toArray⟩, .string ⟨(atN L z0).2.2.toArray⟩, .int .i64 0, .string ⟨#[]⟩, .string ⟨#[]⟩, .int .i64 0, .string ⟨#[]⟩, .string ⟨#[]⟩] 45))
      ∨ (i = .int .i64 1 ∧ e = .int .i64 5 ∧ Hid (atE L z0 ≠ 0) ∧ Hid (Arr W' W.heap.size #[.int .i64 0, .string ⟨#[]⟩, .string ⟨#[]⟩, .int .i64 0, .string ⟨#[]⟩, .string ⟨#[]⟩, .int .i64 0, .string ⟨#[]⟩, .string ⟨#[]⟩] 45))
      ∨ (i = .int .i64 2 ∧ e = .int .i64 0 ∧ Hid (atE L z0 = 0 ∧ atE L z1 = 0) ∧ Hid (Arr W' W.heap.size #[.int .i64 (atN L z0).1, .string ⟨(atN L z0).2.1.toArray⟩, .string ⟨(atN L z0).2.2.toArray⟩, .int .i64 (atN L z1).1, .string ⟨(atN L z1).2.1.toArray⟩, .string ⟨(atN L z1).2.2.toArray⟩, .int .i64 0, .string ⟨#[]⟩, .string ⟨#[]⟩] 45))
      ∨ (i = .int .i64 2 ∧ e = .int .i64 5 ∧ Hid (atE L z0 = 0 ∧ atE L z1 ≠ 0) ∧ Hid (Arr W' W.heap.size #[.int .i64 (atN L z0).1, .string ⟨(atN L z0).2.1.toArray⟩, .string ⟨(atN L z0).2.2.toArray⟩, .int .i64 0, .string ⟨#[]⟩, .string ⟨#[]⟩, .int .i64 0, .string ⟨#[]⟩, .string ⟨#[]⟩] 45))
      ∨ (i = .int .i64 3 ∧ e = .int .i64 0 ∧ Hid (atE L z0 = 0 ∧ atE L z1 = 0 ∧ atE L z2 = 0) ∧ Hid (Arr W' W.heap.size #[.int .i64 (atN L z0).1, .string ⟨(atN L z0).2.1.toArray⟩, .string ⟨(atN L z0).2.2.toArray⟩, .int .i64 (atN L z1).1, .string ⟨(atN L z1).2.1.toArray⟩, .string ⟨(atN L z1).2.2.toArray⟩, .int .i64 (atN L z2).1, .string ⟨(atN L z2).2.1.toArray⟩, .string ⟨(atN L z2).2.2.toArray⟩] 45))
      ∨ (i = .int .i64 3 ∧ e = .int .i64 5 ∧ Hid (atE L z0 = 0 ∧ atE L z1 = 0 ∧ atE L z2 ≠ 0) ∧ Hid (Arr W' W.heap.size #[.int .i64 (atN L z0).1, .string ⟨(atN L z0).2.1.toArray⟩, .string ⟨(atN L z0).2.2.toArray⟩, .int .i64 (atN L z1).1, .string ⟨(atN L z1).2.1.toArray⟩, .string ⟨(atN L z1).2.2.toArray⟩, .int .i64 0, .string ⟨#[]⟩, .string ⟨#[]⟩] 45))) ∧ Hid (Hold w n0 (.slice av L.length cv) L W') ∧ Hid (Arr W' bv #[.int .i64 z0, .int .i64 z1, .int .i64 z2] 41)) (fun i e W' => 3 - (intOf i).toNat)
    case atStart => exact ⟨.inl ⟨rfl, rfl, ax⟩, Hh.out.below (balloc _ _), Hv.out.below (balloc _ _) hbv⟩
    case round =>
      obtain ⟨hcs, hH, hV⟩ := hrel
      have v0 := hV.out.cell 0
      have v1 := hV.out.cell 1
      have v2 := hV.out.cell 2
      simp at v0 v1 v2
      clear Hh Hv ax
      rcases hcs with ⟨rfl, rfl, ha⟩ | ⟨rfl, rfl, hm, ha⟩ | ⟨rfl, rfl, hm, ha⟩ | ⟨rfl, rfl, hm, ha⟩ | ⟨rfl, rfl, hm, ha⟩ | ⟨rfl, rfl, hm, ha⟩ | ⟨rfl, rfl, hm, ha⟩
      · by_cases hin : atE L z0 = 0
        · obtain ⟨n, bl, ol, hn, hnl, rfl, l0, l1, l2⟩ := in_row hH.out.2.1 hin
          have hin2 := hide2 (show atE L z0 = 0 from hin)
          have x0 := ha.out.cell 0
          have x1 := ha.out.cell 1
          have x2 := ha.out.cell 2
          have g0 := ha.out.thaw 0
          have g1 := ha.out.thaw 1
          have g2 := ha.out.thaw 2
          simp at x0 x1 x2
          have q1 : ¬ (z0 < 1) := by omega
          have q2 : ¬ (z0 > (L.length : Int)) := by omega
          have q3 : (0 : Int) ≤ (n : Int) := by omega
          have q5 : IntKind.i64.wrap (z0 - 1) = (n : Int) := by rw [hn]; simp [IntKind.wrap, IntKind.bits, IntKind.signed]; omega
          have hlx := ha.out.lt
          clear hin hn
          go_wp2_with fail
          go_roundw
          case rel =>
            refine ⟨.inr (.inl ⟨rfl, rfl, hin2.out, ?_⟩), ?_, ?_⟩
            · exact ((ha.out.set 0 _).set 1 _).set 2 _
            · exact hH.out.three (b := W.heap.size) (o := 0) _ _ _ (by omega) (by omega) hne.out
            · exact hV.out.three (b := W.heap.size) (o := 0) _ _ _ (by omega)
          case measure => simp [intOf]
        · obtain ⟨hor, _⟩ := out_row hin
          have hin2 := hide2 (show atE L z0 ≠ 0 from hin)
          clear hin
          rcases hor with q1 | ⟨q1, q2⟩
          all_goals
            go_wp2_with fail
            go_roundw
            case rel => exact ⟨.inr (.inr (.inl ⟨rfl, rfl, hin2.out, ha⟩)), hH, hV⟩
            case measure => simp [intOf]
      · by_cases hin : atE L z1 = 0
        · obtain ⟨n, bl, ol, hn, hnl, rfl, l0, l1, l2⟩ := in_row hH.out.2.1 hin
          have hin2 := hide2 (show atE L z0 = 0 ∧ atE L z1 = 0 from ⟨hm.out, hin⟩)
          have x0 := ha.out.cell 3
          have x1 := ha.out.cell 4
          have x2 := ha.out.cell 5
          have g0 := ha.out.thaw 3
          have g1 := ha.out.thaw 4
          have g2 := ha.out.thaw 5
          simp at x0 x1 x2
          have q1 : ¬ (z1 < 1) := by omega
          have q2 : ¬ (z1 > (L.length : Int)) := by omega
          have q3 : (0 : Int) ≤ (n : Int) := by omega
          have q5 : IntKind.i64.wrap (z1 - 1) = (n : Int) := by rw [hn]; simp [IntKind.wrap, IntKind.bits, IntKind.signed]; omega
          have hlx := ha.out.lt
          clear hin hn
          go_wp2_with fail
          go_roundw
          case rel =>
            refine ⟨.inr (.inr (.inr (.inl ⟨rfl, rfl, hin2.out, ?_⟩))), ?_, ?_⟩
            · exact ((ha.out.set 3 _).set 4 _).set 5 _
            · exact hH.out.three (b := W.heap.size) (o := 3) _ _ _ (by omega) (by omega) hne.out
            · exact hV.out.three (b := W.heap.size) (o := 3) _ _ _ (by omega)
          case measure => simp [intOf]
        · obtain ⟨hor, _⟩ := out_row hin
          have hin2 := hide2 (show atE L z0 = 0 ∧ atE L z1 ≠ 0 from ⟨hm.out, hin⟩)
          clear hin
          rcases hor with q1 | ⟨q1, q2⟩
          all_goals
            go_wp2_with fail
            go_roundw
            case rel => exact ⟨.inr (.inr (.inr (.inr (.inl ⟨rfl, rfl, hin2.out, ha⟩)))), hH, hV⟩
            case measure => simp [intOf]
      · go_wp2_with fail
        go_meet
        case rel => exact ⟨5, zeroTm, zeroTm, zeroTm, rfl, hH, hV, ha, .inr ⟨rfl, by unfold openE; rw [if_neg hm.out]; exact (out_row hm.out).2⟩⟩
      · by_cases hin : atE L z2 = 0
        · obtain ⟨n, bl, ol, hn, hnl, rfl, l0, l1, l2⟩ := in_row hH.out.2.1 hin
          have hin2 := hide2 (show atE L z0 = 0 ∧ atE L z1 = 0 ∧ atE L z2 = 0 from ⟨hm.out.1, hm.out.2, hin⟩)
          have x0 := ha.out.cell 6
          have x1 := ha.out.cell 7
          have x2 := ha.out.cell 8
          have g0 := ha.out.thaw 6
          have g1 := ha.out.thaw 7
          have g2 := ha.out.thaw 8
          simp at x0 x1 x2
          have q1 : ¬ (z2 < 1) := by omega
          have q2 : ¬ (z2 > (L.length : Int)) := by omega
          have q3 : (0 : Int) ≤ (n : Int) := by omega
          have q5 : IntKind.i64.wrap (z2 - 1) = (n : Int) := by rw [hn]; simp [IntKind.wrap, IntKind.bits, IntKind.signed]; omega
          have hlx := ha.out.lt
          clear hin hn
          go_wp2_with fail
          go_roundw
          case rel =>
            refine ⟨.inr (.inr (.inr (.inr (.inr (.inl ⟨rfl, rfl, hin2.out, ?_⟩))))), ?_, ?_⟩
            · exact ((ha.out.set 6 _).set 7 _).set 8 _
            · exact hH.out.three (b := W.heap.size) (o := 6) _ _ _ (by omega) (by omega) hne.out
            · exact hV.out.three (b := W.heap.size) (o := 6) _ _ _ (by omega)
          case measure => simp [intOf]
        · obtain ⟨hor, _⟩ := out_row hin
          have hin2 := hide2 (show atE L z0 = 0 ∧ atE L z1 = 0 ∧ atE L z2 ≠ 0 from ⟨hm.out.1, hm.out.2, hin⟩)
          clear hin
          rcases hor with q1 | ⟨q1, q2⟩
          all_goals
            go_wp2_with fail
            go_roundw
            case rel => exact ⟨.inr (.inr (.inr (.inr (.inr (.inr ⟨rfl, rfl, hin2.out, ha⟩))))), hH, hV⟩
            case measure => simp [intOf]
      · go_wp2_with fail
        go_meet
        case rel => exact ⟨5, (atN L z0), zeroTm, zeroTm, rfl, hH, hV, ha, .inr ⟨rfl, by unfold openE; rw [if_pos hm.out.1, if_neg hm.out.2]; exact (out_row hm.out.2).2⟩⟩
      · go_wp2_with fail
        go_meet
        case rel => exact ⟨0, (atN L z0), (atN L z1), (atN L z2), rfl, hH, hV, ha, .inl ⟨rfl, hm.out.1, hm.out.2.1, hm.out.2.2, rfl, rfl, rfl⟩⟩
      · go_wp2_with fail
        go_meet
        case rel => exact ⟨5, (atN L z0), (atN L z1), zeroTm, rfl, hH, hV, ha, .inr ⟨rfl, by unfold openE; rw [if_pos hm.out.1, if_pos hm.out.2.1, if_neg hm.out.2.2]; exact (out_row hm.out.2.2).2⟩⟩
  case rest =>
    obtain ⟨e2, p0, p1, p2, rfl, hH, hV, hA, hor⟩ := hcut
    have a0 := hA.out.cell 0
    have a1 := hA.out.cell 1
    have a2 := hA.out.cell 2
    have a3 := hA.out.cell 3
    have a4 := hA.out.cell 4
    have a5 := hA.out.cell 5
    have a6 := hA.out.cell 6
    have a7 := hA.out.cell 7
    have a8 := hA.out.cell 8
    simp at a0 a1 a2 a3 a4 a5 a6 a7 a8
    clear hA Hh Hv ax
    rcases hor.out with ⟨rfl, h0, h1, h2, rfl, rfl, rfl⟩ | ⟨rfl, hN⟩
    · have hT : ∀ W, Calls Tryd.prog 10 #[valTr (atTr L (z0, z1, z2))] W fun e w' => e = .returned (.int .i64 (chkTr (atTr L (z0, z1, z2)))) ∧ RowKit.Below W.heap.size W w' := fun W => RTriple_any (atTr L (z0, z1, z2)) W ⟨fit_at Hall.out.2.1.2.1 h0, fit_at Hall.out.2.1.2.1 h1, fit_at Hall.out.2.1.2.1 h2⟩
      have hNN := hide2 (show openE L (z0, z1, z2) = chkTr (atTr L (z0, z1, z2)) by unfold openE; rw [if_pos h0, if_pos h1, if_pos h2])
      have hTT := hide2 (show openT L (z0, z1, z2) = if openE L (z0, z1, z2) = 0 then atTr L (z0, z1, z2) else zeroTr0 from rfl)
      have eT : atTr L (z0, z1, z2) = (atN L z0, atN L z1, atN L z2) := rfl
      rw [eT] at hT hNN hTT
      unfold valTr at hT
      clear hor h0 h1 h2 eT
      generalize atN L z0 = y0 at *
      generalize atN L z1 = y1 at *
      generalize atN L z2 = y2 at *
      generalize chkTr (y0, y1, y2) = c at *
      go_wp2_with fail
      refine (hT _).mono ?_
      rintro e W3 ⟨rfl, hb3⟩
      have hbx := bstep (balloc wc (.cells #[.int .i64 y0.1, .string ⟨y0.2.1.toArray⟩, .string ⟨y0.2.2.toArray⟩, .int .i64 y1.1, .string ⟨y1.2.1.toArray⟩, .string ⟨y1.2.2.toArray⟩, .int .i64 y2.1, .string ⟨y2.2.1.toArray⟩, .string ⟨y2.2.2.toArray⟩] 39)) hb3
      have hH3 := hide2 (hH.out.below hbx)
      have hV3 := hide2 (hV.out.below hbx hV.out.lt)
      have hU3 := hide2 ((arr_made wc #[.int .i64 y0.1, .string ⟨y0.2.1.toArray⟩, .string ⟨y0.2.2.toArray⟩, .int .i64 y1.1, .string ⟨y1.2.1.toArray⟩, .string ⟨y1.2.2.toArray⟩, .int .i64 y2.1, .string ⟨y2.2.1.toArray⟩, .string ⟨y2.2.2.toArray⟩] 39).below hb3 (by simp))
      have hzc := hH.out.2.2.size
      have hlc := hH.out.1.lt
      have hnc := hide2 (show (Value.slice av L.length cv).ownBlock ≠ some wc.heap.size from fun e => absurd (hH.out.2.1.lt _ e).2 (Nat.lt_irrefl _))
      have hvc := hV.out.lt
      clear hT hH hV a0 a1 a2 a3 a4 a5 a6 a7 a8 hb3 hbx
      dsimp only
      go_upto_if 228 with fail
      go_cut [10] from 223 to 229 (fun e W' => e = .int .i64 (openE L (z0, z1, z2)) ∧ Hid (Hold w n0 (.slice av L.length cv) L W') ∧ Hid (Arr W' bv #[.int .i64 z0, .int .i64 z1, .int .i64 z2] 41) ∧ Hid (Arr W' wc.heap.size (encTr (openT L (z0, z1, z2))).toArray 39))
      case first =>
        clear HQ
        have hzz := hU3.out.lt
        cases hc : (c != 0)
        · have hc0 : c = 0 := by simpa using hc
          have eT := hide2 (show openT L (z0, z1, z2) = (y0, y1, y2) by rw [hTT.out, if_pos (by rw [hNN.out]; exact hc0)])
          clear hTT
          go_wp2_with fail
          go_meet
          case rel => exact ⟨by rw [hNN.out], hH3, hV3, by show Arr _ _ _ _; rw [eT.out]; exact hU3.out⟩
        · have hcn : ¬ c = 0 := by simpa using hc
          have eT := hide2 (show openT L (z0, z1, z2) = zeroTr0 by rw [hTT.out, if_neg (by rw [hNN.out]; exact hcn)])
          clear hTT hcn
          have u0 := hU3.out.cell 0
          have u1 := hU3.out.cell 1
          have u2 := hU3.out.cell 2
          have u3' := hU3.out.cell 3
          have u4' := hU3.out.cell 4
          have u5' := hU3.out.cell 5
          have u6' := hU3.out.cell 6
          have u7' := hU3.out.cell 7
          have u8' := hU3.out.cell 8
          have g0 := hU3.out.thaw 0
          have g1 := hU3.out.thaw 1
          have g2 := hU3.out.thaw 2
          have g3 := hU3.out.thaw 3
          have g4 := hU3.out.thaw 4
          have g5 := hU3.out.thaw 5
          have g6 := hU3.out.thaw 6
          have g7 := hU3.out.thaw 7
          have g8 := hU3.out.thaw 8
          simp at u0 u1 u2 u3' u4' u5' u6' u7' u8'
          go_wp2_with fail
          go_meet
          case rel =>
            refine ⟨by rw [hNN.out], ?_, ?_, ?_⟩
            · exact hH3.out.nine _ _ _ _ _ _ _ _ _ (by omega) (by omega) hnc.out
            · exact hV3.out.apart9 _ _ _ _ _ _ _ _ _ (by omega)
            · show Arr _ _ _ _
              rw [eT.out]
              exact hU3.out.nine _ _ _ _ _ _ _ _ _
      case rest =>
        obtain ⟨rfl, hH4, hV4, hT4⟩ := hcut
        refine go_on (by assumption) ?_
        exact roundC3 Q0 _ _ _ _ _ _ _ _ _ _ _ _ _ _ _ _ _ _ _ _ _ _ _ _ _ _ _ _ _ _ _ _ _ _ _ _ _ _ _ _ _ _ _ _ _ _ _ _ _ _ _ _ _ _ _ _ _ _ _ _ _ _ _ _ _ _ _ _ _ _ _ _ _ _ _ _ _ _ _ _ _ _ _ _ _ _ _ _ _ _ _ _ _ _ _ _ _ _ _ _ _ _ _ _ _ _ _ _ _ _ _ _ _ _ _ _ _ _ _ _ _ _ _ _ _ _ _ _ _ _ _ _ _ _ _ _ _ _ _ _ _ _ _ _ _ _ _ _ _ _ _ _ _ _ _ _ _ _ _ _ _ _ _ _ _ _ _ _ _ _ _ _ _ _ _ _ _ _ _ _ _ _ _ _ _ _ _ _ _ _ _ _ _ _ _ _ _ _ _ _ _ _ _ _ _ _ _ _ _ _ _ _ _ _ _ _ _ _ _ _ _ _ _ _ _ _ _ _ _ _ _ _ _ _ _ _ _ _ _ _ _ _ _ _ _ _ _ _ _ _ _ _ _ _ _ _ _ _ _ _ _ _ _ _ _ _ _ _ _ _ ad bd cd av ca cb cc cv k n0 bv _ ts l Q L z0 z1 z2 w _ Hall.out.1 Hall.out.2.1 Hall.out.2.2 hH4.out hV4.out hT4.out HQ.out
    · have hH3 := hide2 (hH.out.below (balloc wc (.cells #[.int .i64 p0.1, .string ⟨p0.2.1.toArray⟩, .string ⟨p0.2.2.toArray⟩, .int .i64 p1.1, .string ⟨p1.2.1.toArray⟩, .string ⟨p1.2.2.toArray⟩, .int .i64 p2.1, .string ⟨p2.2.1.toArray⟩, .string ⟨p2.2.2.toArray⟩] 39)))
      have hV3 := hide2 (hV.out.below (balloc wc (.cells #[.int .i64 p0.1, .string ⟨p0.2.1.toArray⟩, .string ⟨p0.2.2.toArray⟩, .int .i64 p1.1, .string ⟨p1.2.1.toArray⟩, .string ⟨p1.2.2.toArray⟩, .int .i64 p2.1, .string ⟨p2.2.1.toArray⟩, .string ⟨p2.2.2.toArray⟩] 39)) hV.out.lt)
      have hU3 := hide2 (arr_made wc #[.int .i64 p0.1, .string ⟨p0.2.1.toArray⟩, .string ⟨p0.2.2.toArray⟩, .int .i64 p1.1, .string ⟨p1.2.1.toArray⟩, .string ⟨p1.2.2.toArray⟩, .int .i64 p2.1, .string ⟨p2.2.1.toArray⟩, .string ⟨p2.2.2.toArray⟩] 39)
      have hzc := hH.out.2.2.size
      have hlc := hH.out.1.lt
      have hnc := hide2 (show (Value.slice av L.length cv).ownBlock ≠ some wc.heap.size from fun e => absurd (hH.out.2.1.lt _ e).2 (Nat.lt_irrefl _))
      have hvc := hV.out.lt
      have Hh := hide2 hH.out
      have Hv := hide2 hV.out
      have eN := hide2 hN
      have eT := hide2 (show openT L (z0, z1, z2) = zeroTr0 by unfold openT; rw [if_neg (by rw [hN]; decide)])
      clear hH hV hor hN
      go_upto_if 228 with fail
      go_cut [10] from 223 to 229 (fun e W' => e = .int .i64 (openE L (z0, z1, z2)) ∧ Hid (Hold w n0 (.slice av L.length cv) L W') ∧ Hid (Arr W' bv #[.int .i64 z0, .int .i64 z1, .int .i64 z2] 41) ∧ Hid (Arr W' wc.heap.size (encTr (openT L (z0, z1, z2))).toArray 39))
      case first =>
        clear HQ a0 a1 a2 a3 a4 a5 a6 a7 a8
        go_wp2_with fail
        go_meet
        case rel =>
          refine ⟨by rw [eN.out], ?_, ?_, ?_⟩
          · exact Hh.out.below (balloc _ _)
          · exact Hv.out.below (balloc _ _) Hv.out.lt
          · show Arr _ _ _ _
            rw [eT.out]
            exact arr_made _ _ _
      case rest =>
        obtain ⟨rfl, hH4, hV4, hT4⟩ := hcut
        refine go_on (by assumption) ?_
        exact roundC3 Q0 _ _ _ _ _ _ _ _ _ _ _ _ _ _ _ _ _ _ _ _ _ _ _ _ _ _ _ _ _ _ _ _ _ _ _ _ _ _ _ _ _ _ _ _ _ _ _ _ _ _ _ _ _ _ _ _ _ _ _ _ _ _ _ _ _ _ _ _ _ _ _ _ _ _ _ _ _ _ _ _ _ _ _ _ _ _ _ _ _ _ _ _ _ _ _ _ _ _ _ _ _ _ _ _ _ _ _ _ _ _ _ _ _ _ _ _ _ _ _ _ _ _ _ _ _ _ _ _ _ _ _ _ _ _ _ _ _ _ _ _ _ _ _ _ _ _ _ _ _ _ _ _ _ _ _ _ _ _ _ _ _ _ _ _ _ _ _ _ _ _ _ _ _ _ _ _ _ _ _ _ _ _ _ _ _ _ _ _ _ _ _ _ _ _ _ _ _ _ _ _ _ _ _ _ _ _ _ _ _ _ _ _ _ _ _ _ _ _ _ _ _ _ _ _ _ _ _ _ _ _ _ _ _ _ _ _ _ _ _ _ _ _ _ _ _ _ _ _ _ _ _ _ _ _ _ _ _ _ _ _ _ _ _ _ _ _ _ _ _ _ ad bd cd av ca cb cc cv k n0 bv _ ts l Q L z0 z1 z2 w _ Hall.out.1 Hall.out.2.1 Hall.out.2.2 hH4.out hV4.out hT4.out HQ.out
end Go.Proofs.YtkeholipklfnbacDoor
