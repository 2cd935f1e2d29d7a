/- StorePlays' round, behind its two numbers. -/
import Derived.Test.YtpdieckoemfebaeDoorSPlaysSwitch
import Derived.Test.YtpdieckoemfebaeDoorSPlaysTail
namespace Go.Proofs.YtpdieckoemfebaeDoor
open Go Go.RowKit Go.Proofs
set_option synthInstance.maxSize 1000

set_option maxHeartbeats 32000000 in
set_option maxRecDepth 1000000 in
theorem splaysStep (F : Face) (Q0 : Exit → Act → World → Prop) (u11 u12 u13 u14 u15 u16 u17 u18 u19 u20 u21 u22 u23 u24 u25 u26 u27 u28 u29 u30 u31 u32 u33 u45 u46 u47 u48 u49 u50 u51 u52 u53 u54 u55 u56 u57 u58 u59 u60 u61 u62 u63 u64 u65 u66 u67 u68 u69 u70 u71 u72 u73 u74 u75 u76 u77 u78 u79 u80 u81 u82 u83 u84 u85 u86 u87 u88 u89 u90 u91 u92 u93 u94 u95 u96 u97 u98 u99 u100 u101 u102 u103 u104 u105 u106 u107 u108 u109 u110 u111 u112 u113 u114 u115 u116 u117 u118 u119 u120 u121 u122 u123 u124 u125 u126 u127 u128 u129 u130 u131 u132 u133 u134 u135 u136 u137 u138 u139 u140 u141 u142 u143 u144 u145 u146 u147 u148 u149 u150 u151 u152 u153 u154 u155 u156 u157 u158 u159 u160 u161 u162 u163 u164 u165 u166 u167 u168 u169 u170 u171 u172 u173 u174 u175 u176 u177 u178 u179 u180 u181 u182 u183 u184 u185 u186 u187 u188 u189 u190 u191 u192 u193 u194 u195 u196 u197 u198 u199 u200 u201 u202 u203 u204 u205 u206 u207 u208 u209 u210 u211 u212 u213 u214 u215 u216 u217 u218 u219 u220 u221 u222 u223 u224 u225 u226 u227 u228 u229 u230 u231 u232 u233 u234 u235 u236 u237 u238 : Value) (c3 c4 c5 c6 c34 c35 c36 c37 c38 c39 c40 c41 c42 c43 c44 : Value) (qd od ld : Option Addr) (cq co cl nq no nl k0 s m bv n : Nat) (L : List Ob) (x y : Int) (w W : World) (ls : List (List Int)) (T : List (List UInt8))
    (hg : errVar w) (hG : GoodO n L) (hn : n ≤ 1000000) (hT : T ≠ [] → ∃ b o, od = some ⟨b, o, none⟩ ∧ TextsAt w b o T) (hTn : T.length = no) (hb : ∀ b ∈ T, b.length ≤ F.lim) (hb9 : ∀ b ∈ T, b.length ≤ 9223372036854775807) (hl : ls ≠ [] → ∃ b o, ld = some ⟨b, o, none⟩ ∧ ListsAt w b o ls) (hln : ls.length = nl) (hle : ∀ q ∈ ls, q.length ≤ 9223372036854775807) (hst : PS F w s m bv x y n L n L W)
    (hQ : ∀ (x10 x11 x12 x13 x14 x15 x16 x17 x18 x19 x20 x21 x22 x23 x24 x25 x26 x27 x28 x29 x30 x31 x32 x33 x45 x46 x47 x48 x49 x50 x51 x52 x53 x54 x55 x56 x57 x58 x59 x60 x61 x62 x63 x64 x65 x66 x67 x68 x69 x70 x71 x72 x73 x74 x75 x76 x77 x78 x79 x80 x81 x82 x83 x84 x85 x86 x87 x88 x89 x90 x91 x92 x93 x94 x95 x96 x97 x98 x99 x100 x101 x102 x103 x104 x105 x106 x107 x108 x109 x110 x111 x112 x113 x114 x115 x116 x117 x118 x119 x120 x121 x122 x123 x124 x125 x126 x127 x128 x129 x130 x131 x132 x133 x134 x135 x136 x137 x138 x139 x140 x141 x142 x143 x144 x145 x146 x147 x148 x149 x150 x151 x152 x153 x154 x155 x156 x157 x158 x159 x160 x161 x162 x163 x164 x165 x166 x167 x168 x169 x170 x171 x172 x173 x174 x175 x176 x177 x178 x179 x180 x181 x182 x183 x184 x185 x186 x187 x188 x189 x190 x191 x192 x193 x194 x195 x196 x197 x198 x199 x200 x201 x202 x203 x204 x205 x206 x207 x208 x209 x210 x211 x212 x213 x214 x215 x216 x217 x218 x219 x220 x221 x222 x223 x224 x225 x226 x227 x228 x229 x230 x231 x232 x233 x234 x235 x236 x237 x238 : Value) (n' : Nat) (L' : List Ob) (W' : World), PB F w s m n' L' W' → GoodO n' L' → n' ≤ n + 1 → Q0 .normal ⟨#[.slice qd nq cq, .slice od no co, .slice ld nl cl, c3, c4, c5, c6, .pointer (some ⟨s, 0, none⟩), .pointer (some ⟨m, 0, none⟩), .int .i64 (k0 : Int), x10, x11, x12, x13, x14, x15, x16, x17, x18, x19, x20, x21, x22, x23, x24, x25, x26, x27, x28, x29, x30, x31, x32, x33, c34, c35, c36, c37, c38, c39, c40, c41, c42, c43, c44, x45, x46, x47, x48, x49, x50, x51, x52, x53, x54, x55, x56, x57, x58, x59, x60, x61, x62, x63, x64, x65, x66, x67, x68, x69, x70, x71, x72, x73, x74, x75, x76, x77, x78, x79, x80, x81, x82, x83, x84, x85, x86, x87, x88, x89, x90, x91, x92, x93, x94, x95, x96, x97, x98, x99, x100, x101, x102, x103, x104, x105, x106, x107, x108, x109, x110, x111, x112, x113, x114, x115, x116, x117, x118, x119, x120, x121, x122, x123, x124, x125, x126, x127, x128, x129, x130, x131, x132, x133, x134, x135, x136, x137, x138, x139, x140, x141, x142, x143, x144, x145, x146, x147, x148, x149, x150, x151, x152, x153, x154, x155, x156, x157, x158, x159, x160, x161, x162, x163, x164, x165, x166, x167, x168, x169, x170, x171, x172, x173, x174, x175, x176, x177, x178, x179, x180, x181, x182, x183, x184, x185, x186, x187, x188, x189, x190, x191, x192, x193, x194, x195, x196, x197, x198, x199, x200, x201, x202, x203, x204, x205, x206, x207, x208, x209, x210, x211, x212, x213, x214, x215, x216, x217, x218, x219, x220, x221, x222, x223, x224, x225, x226, x227, x228, x229, x230, x231, x232, x233, x234, x235, x236, x237, x238], []⟩ W') :
    Code.wp Tryd.prog (codeOf Tryd.f4.body 11) Q0 ⟨#[.slice qd nq cq, .slice od no co, .slice ld nl cl, c3, c4, c5, c6, .pointer (some ⟨s, 0, none⟩), .pointer (some ⟨m, 0, none⟩), .int .i64 (k0 : Int), .pointer (some ⟨bv, 0, none⟩), u11, u12, u13, u14, u15, u16, u17, u18, u19, u20, u21, u22, u23, u24, u25, u26, u27, u28, u29, u30, u31, u32, u33, c34, c35, c36, c37, c38, c39, c40, c41, c42, c43, c44, u45, u46, u47, u48, u49, u50, u51, u52, u53, u54, u55, u56, u57, u58, u59, u60, u61, u62, u63, u64, u65, u66, u67, u68, u69, u70, u71, u72, u73, u74, u75, u76, u77, u78, u79, u80, u81, u82, u83, u84, u85, u86, u87, u88, u89, u90, u91, u92, u93, u94, u95, u96, u97, u98, u99, u100, u101, u102, u103, u104, u105, u106, u107, u108, u109, u110, u111, u112, u113, u114, u115, u116, u117, u118, u119, u120, u121, u122, u123, u124, u125, u126, u127, u128, u129, u130, u131, u132, u133, u134, u135, u136, u137, u138, u139, u140, u141, u142, u143, u144, u145, u146, u147, u148, u149, u150, u151, u152, u153, u154, u155, u156, u157, u158, u159, u160, u161, u162, u163, u164, u165, u166, u167, u168, u169, u170, u171, u172, u173, u174, u175, u176, u177, u178, u179, u180, u181, u182, u183, u184, u185, u186, u187, u188, u189, u190, u191, u192, u193, u194, u195, u196, u197, u198, u199, u200, u201, u202, u203, u204, u205, u206, u207, u208, u209, u210, u211, u212, u213, u214, u215, u216, u217, u218, u219, u220, u221, u222, u223, u224, u225, u226, u227, u228, u229, u230, u231, u232, u233, u234, u235, u236, u237, u238], []⟩ W := by
  have HQ : Hid _ := hQ
  have HP : Hid _ := And.intro hg (And.intro hG (And.intro hn hst))
  have HK : Hid _ := And.intro hl (And.intro hln hle)
  have HT := hideO hT
  have HB : Hid _ := And.intro hb hb9
  obtain ⟨y0, y1⟩ := hst.num
  subst hTn
  clear hQ hg hG hn hT hb hb9 hl hln hle hst
  conv => arg 2; whnf
  by_cases hx : 0 ≤ y ∧ y < (T.length : Int)
  · obtain ⟨j, rfl⟩ : ∃ j : Nat, y = (j : Int) := ⟨y.toNat, by omega⟩
    have hj : j < T.length := by omega
    obtain ⟨lb, lo, rfl, hA⟩ := HT.out (fun e => by rw [e] at hj; simp at hj)
    have hc := hA j hj
    have hcW : W.cell? ⟨lb, lo + j, none⟩ = some (.string ⟨T[j].toArray⟩) := (HP.out.2.2.2.low.cell (World.block_lt_of_cell? w _ hc)).trans hc
    have hB : Hid (T[j].length ≤ F.lim ∧ T[j].length ≤ 9223372036854775807) := ⟨HB.out.1 _ (List.getElem_mem hj), HB.out.2 _ (List.getElem_mem hj)⟩
    have i0 : (0 : Int) ≤ (j : Int) := by omega
    have i1 : (j : Int) < (T.length : Int) := by omega
    clear hA hc hx HT HB
    generalize T[j] = b at *
    clear hj
    go_upto_block 4 with fail
    refine splaysSwitch F _ _ _ _ _ _ _ _ _ _ _ _ _ _ _ _ _ _ _ _ _ _ _ _ _ _ _ _ _ _ _ _ _ _ _ _ _ _ _ _ _ _ _ _ _ _ _ _ _ _ _ _ _ _ _ _ _ _ _ _ _ _ _ _ _ _ _ _ _ _ _ _ _ _ _ _ _ _ _ _ _ _ _ _ _ _ _ _ _ _ _ _ _ _ _ _ _ _ _ _ _ _ _ _ _ _ _ _ _ _ _ _ _ _ _ _ _ _ _ _ _ _ _ _ _ _ _ _ _ _ _ _ _ _ _ _ _ _ _ _ _ _ _ _ _ _ _ _ _ _ _ _ _ _ _ _ _ _ _ _ _ _ _ _ _ _ _ _ _ _ _ _ _ _ _ _ _ _ _ _ _ _ _ _ _ _ _ _ _ _ _ _ _ _ _ _ _ _ _ _ _ _ _ _ _ _ _ _ _ _ _ _ _ _ _ _ _ _ _ _ _ _ _ _ _ _ _ _ _ _ qd _ ld cq co cl nq T.length nl k0 s m bv n L b x (j : Int) w W ls HP.out.1 HP.out.2.1 HP.out.2.2.1 hB.out.1 hB.out.2 HK.out.1 HK.out.2.1 HK.out.2.2 HP.out.2.2.2 ?_
    intros
    rename_i n' L' W' hst' hG' hn'
    refine go_on (by assumption) ?_
    refine splaysTail F _ _ _ _ _ _ _ _ _ _ _ _ _ _ _ _ _ _ _ _ _ _ _ _ _ _ _ _ _ _ _ _ _ _ _ _ _ _ _ _ _ _ _ _ _ _ _ _ _ _ _ _ _ _ _ _ _ _ _ _ _ _ _ _ _ _ _ _ _ _ _ _ _ _ _ _ _ _ _ _ _ _ _ _ _ _ _ _ _ _ _ _ _ _ _ _ _ _ _ _ _ _ _ _ _ _ _ _ _ _ _ _ _ _ _ _ _ _ _ _ _ _ _ _ _ _ _ _ _ _ _ _ _ _ _ _ _ _ _ _ _ _ _ _ _ _ _ _ _ _ _ _ _ _ _ _ _ _ _ _ _ _ _ _ _ _ _ _ _ _ _ _ _ _ _ _ _ _ _ _ _ _ _ _ _ _ _ _ _ _ _ _ _ _ _ _ _ _ _ _ _ _ _ _ _ _ _ _ _ _ _ _ _ _ _ _ _ _ _ _ _ _ _ _ _ _ _ _ _ _ _ qd _ ld cq co cl nq T.length nl k0 s m bv n' L' b x (j : Int) w W' HP.out.1 hG' hB.out.1 hst' ?_
    intros
    apply HQ.out <;> assumption
  · have hB : Hid (([] : List UInt8).length ≤ F.lim ∧ ([] : List UInt8).length ≤ 9223372036854775807) := by constructor <;> simp
    by_cases h0 : 0 ≤ y
    · have h1 : ¬ y < (T.length : Int) := fun h => hx ⟨h0, h⟩
      clear hx HT HB
      go_upto_block 4 with fail
      refine splaysSwitch F _ _ _ _ _ _ _ _ _ _ _ _ _ _ _ _ _ _ _ _ _ _ _ _ _ _ _ _ _ _ _ _ _ _ _ _ _ _ _ _ _ _ _ _ _ _ _ _ _ _ _ _ _ _ _ _ _ _ _ _ _ _ _ _ _ _ _ _ _ _ _ _ _ _ _ _ _ _ _ _ _ _ _ _ _ _ _ _ _ _ _ _ _ _ _ _ _ _ _ _ _ _ _ _ _ _ _ _ _ _ _ _ _ _ _ _ _ _ _ _ _ _ _ _ _ _ _ _ _ _ _ _ _ _ _ _ _ _ _ _ _ _ _ _ _ _ _ _ _ _ _ _ _ _ _ _ _ _ _ _ _ _ _ _ _ _ _ _ _ _ _ _ _ _ _ _ _ _ _ _ _ _ _ _ _ _ _ _ _ _ _ _ _ _ _ _ _ _ _ _ _ _ _ _ _ _ _ _ _ _ _ _ _ _ _ _ _ _ _ _ _ _ _ _ _ _ _ _ _ _ qd od ld cq co cl nq T.length nl k0 s m bv n L [] x y w W ls HP.out.1 HP.out.2.1 HP.out.2.2.1 hB.out.1 hB.out.2 HK.out.1 HK.out.2.1 HK.out.2.2 HP.out.2.2.2 ?_
      intros
      rename_i n' L' W' hst' hG' hn'
      refine go_on (by assumption) ?_
      refine splaysTail F _ _ _ _ _ _ _ _ _ _ _ _ _ _ _ _ _ _ _ _ _ _ _ _ _ _ _ _ _ _ _ _ _ _ _ _ _ _ _ _ _ _ _ _ _ _ _ _ _ _ _ _ _ _ _ _ _ _ _ _ _ _ _ _ _ _ _ _ _ _ _ _ _ _ _ _ _ _ _ _ _ _ _ _ _ _ _ _ _ _ _ _ _ _ _ _ _ _ _ _ _ _ _ _ _ _ _ _ _ _ _ _ _ _ _ _ _ _ _ _ _ _ _ _ _ _ _ _ _ _ _ _ _ _ _ _ _ _ _ _ _ _ _ _ _ _ _ _ _ _ _ _ _ _ _ _ _ _ _ _ _ _ _ _ _ _ _ _ _ _ _ _ _ _ _ _ _ _ _ _ _ _ _ _ _ _ _ _ _ _ _ _ _ _ _ _ _ _ _ _ _ _ _ _ _ _ _ _ _ _ _ _ _ _ _ _ _ _ _ _ _ _ _ _ _ _ _ _ _ _ _ qd od ld cq co cl nq T.length nl k0 s m bv n' L' [] x y w W' HP.out.1 hG' hB.out.1 hst' ?_
      intros
      apply HQ.out <;> assumption
    · clear hx HT HB
      go_upto_block 4 with fail
      refine splaysSwitch F _ _ _ _ _ _ _ _ _ _ _ _ _ _ _ _ _ _ _ _ _ _ _ _ _ _ _ _ _ _ _ _ _ _ _ _ _ _ _ _ _ _ _ _ _ _ _ _ _ _ _ _ _ _ _ _ _ _ _ _ _ _ _ _ _ _ _ _ _ _ _ _ _ _ _ _ _ _ _ _ _ _ _ _ _ _ _ _ _ _ _ _ _ _ _ _ _ _ _ _ _ _ _ _ _ _ _ _ _ _ _ _ _ _ _ _ _ _ _ _ _ _ _ _ _ _ _ _ _ _ _ _ _ _ _ _ _ _ _ _ _ _ _ _ _ _ _ _ _ _ _ _ _ _ _ _ _ _ _ _ _ _ _ _ _ _ _ _ _ _ _ _ _ _ _ _ _ _ _ _ _ _ _ _ _ _ _ _ _ _ _ _ _ _ _ _ _ _ _ _ _ _ _ _ _ _ _ _ _ _ _ _ _ _ _ _ _ _ _ _ _ _ _ _ _ _ _ _ _ _ qd od ld cq co cl nq T.length nl k0 s m bv n L [] x y w W ls HP.out.1 HP.out.2.1 HP.out.2.2.1 hB.out.1 hB.out.2 HK.out.1 HK.out.2.1 HK.out.2.2 HP.out.2.2.2 ?_
      intros
      rename_i n' L' W' hst' hG' hn'
      refine go_on (by assumption) ?_
      refine splaysTail F _ _ _ _ _ _ _ _ _ _ _ _ _ _ _ _ _ _ _ _ _ _ _ _ _ _ _ _ _ _ _ _ _ _ _ _ _ _ _ _ _ _ _ _ _ _ _ _ _ _ _ _ _ _ _ _ _ _ _ _ _ _ _ _ _ _ _ _ _ _ _ _ _ _ _ _ _ _ _ _ _ _ _ _ _ _ _ _ _ _ _ _ _ _ _ _ _ _ _ _ _ _ _ _ _ _ _ _ _ _ _ _ _ _ _ _ _ _ _ _ _ _ _ _ _ _ _ _ _ _ _ _ _ _ _ _ _ _ _ _ _ _ _ _ _ _ _ _ _ _ _ _ _ _ _ _ _ _ _ _ _ _ _ _ _ _ _ _ _ _ _ _ _ _ _ _ _ _ _ _ _ _ _ _ _ _ _ _ _ _ _ _ _ _ _ _ _ _ _ _ _ _ _ _ _ _ _ _ _ _ _ _ _ _ _ _ _ _ _ _ _ _ _ _ _ _ _ _ _ _ _ qd od ld cq co cl nq T.length nl k0 s m bv n' L' [] x y w W' HP.out.1 hG' hB.out.1 hst' ?_
      intros
      apply HQ.out <;> assumption
end Go.Proofs.YtpdieckoemfebaeDoor
