/- DictPlays' round, its last part: numbers that are asked. -/
import Derived.Test.YtkeholipklfnbacDoorPlaysC2
namespace Go.Proofs.YtkeholipklfnbacDoor
open Go Go.RowKit Go.Proofs Go.Maps
set_option synthInstance.maxSize 1000

attribute [local go_sem] eql_errV neq_errV guard_errV
attribute [local go_sem ↓] neqTriple neqTerm neqI3

set_option maxHeartbeats 32000000 in
set_option maxRecDepth 1000000 in
theorem roundC (Q0 : Exit → Act → World → Prop) (u6 u10 u11 u12 u13 u14 u15 u16 u17 u18 u19 u20 u21 u22 u23 u24 u25 u26 u27 u29 u30 u31 u32 u33 u34 u35 u36 u37 u38 u39 u40 u41 u42 u43 u44 u45 u46 u47 u48 u49 u50 u51 u52 u53 u54 u55 u56 u57 u58 u59 u60 u61 u62 u63 u64 u65 u66 u67 u68 u69 u70 u71 u72 u73 u74 u75 u76 u77 u78 u79 u80 u81 u82 u83 u84 u85 u86 u87 u88 u89 u90 u91 u92 u93 u94 u95 u96 u97 u98 u99 u100 u101 u102 u103 u104 u105 u106 u107 u108 u109 u110 u111 u112 u113 u114 u115 u116 u117 u118 u119 u120 u121 u122 u123 u124 u125 u126 u127 u128 u129 u130 u131 u132 u133 u134 u135 u136 u137 u138 u139 u140 u141 u142 u143 u144 u145 u146 u147 u148 u149 u150 u151 u152 u153 u154 u155 u156 u157 u158 u159 u160 u161 u162 u163 u164 u165 u166 u167 u168 u169 u170 u171 u172 u173 u174 u175 u176 u177 u178 u179 u180 u181 u182 u183 u184 u185 u186 u187 u188 u189 u190 u191 u192 u193 u194 u195 u196 u197 u198 u199 u200 u201 u202 u203 u204 u205 u206 u207 u208 u209 u210 u211 u212 u213 u214 u215 u216 u217 u218 u219 u220 u221 u222 u223 u224 u225 u226 u227 u228 u229 u230 u231 u232 u233 u234 u235 u236 u237 u238 u239 u240 u241 u242 u243 u244 u245 u246 u247 u248 u249 u250 u251 u252 u253 u254 u255 u256 u257 u258 u259 u260 u261 u262 u263 u264 u265 u266 u267 u268 u269 u270 u271 u272 u273 u274 u275 u276 u277 u278 : Value) (c3 c4 c5 c28 : Value) (ad bd cd av : Option Addr) (ca cb cc cv k n0 : Nat) (ts : List Tm) (l : List Tr) (Q : List (List Int)) (L : List Tm) (w W : World)
    (hg : errVar w) (hq : AskAt w cd Q) (fq : ∀ q ∈ Q, ∀ n ∈ q, (Lit.int .i64 n).wf = true) (nq : ∀ q ∈ Q, q.length ≤ maxLen) (hG : GoodL L) (hh0 : Hold w n0 (.slice av L.length cv) L W)
    (hQ : ∀ (x6 x10 x11 x12 x13 x14 x15 x16 x17 x18 x19 x20 x21 x22 x23 x24 x25 x26 x27 x29 x30 x31 x32 x33 x34 x35 x36 x37 x38 x39 x40 x41 x42 x43 x44 x45 x46 x47 x48 x49 x50 x51 x52 x53 x54 x55 x56 x57 x58 x59 x60 x61 x62 x63 x64 x65 x66 x67 x68 x69 x70 x71 x72 x73 x74 x75 x76 x77 x78 x79 x80 x81 x82 x83 x84 x85 x86 x87 x88 x89 x90 x91 x92 x93 x94 x95 x96 x97 x98 x99 x100 x101 x102 x103 x104 x105 x106 x107 x108 x109 x110 x111 x112 x113 x114 x115 x116 x117 x118 x119 x120 x121 x122 x123 x124 x125 x126 x127 x128 x129 x130 x131 x132 x133 x134 x135 x136 x137 x138 x139 x140 x141 x142 x143 x144 x145 x146 x147 x148 x149 x150 x151 x152 x153 x154 x155 x156 x157 x158 x159 x160 x161 x162 x163 x164 x165 x166 x167 x168 x169 x170 x171 x172 x173 x174 x175 x176 x177 x178 x179 x180 x181 x182 x183 x184 x185 x186 x187 x188 x189 x190 x191 x192 x193 x194 x195 x196 x197 x198 x199 x200 x201 x202 x203 x204 x205 x206 x207 x208 x209 x210 x211 x212 x213 x214 x215 x216 x217 x218 x219 x220 x221 x222 x223 x224 x225 x226 x227 x228 x229 x230 x231 x232 x233 x234 x235 x236 x237 x238 x239 x240 x241 x242 x243 x244 x245 x246 x247 x248 x249 x250 x251 x252 x253 x254 x255 x256 x257 x258 x259 x260 x261 x262 x263 x264 x265 x266 x267 x268 x269 x270 x271 x272 x273 x274 x275 x276 x277 x278 : Value) (W' : World), Hold w n0 (.slice av L.length cv) L W' → Q0 .normal ⟨#[.slice ad ts.length ca, .slice bd l.length cb, .slice cd Q.length cc, c3, c4, c5, x6, .pointer (some ⟨n0 + 2, 0, none⟩), .slice av L.length cv, .int .i64 (k : Int), x10, x11, x12, x13, x14, x15, x16, x17, x18, x19, x20, x21, x22, x23, x24, x25, x26, x27, c28, x29, x30, x31, x32, x33, x34, x35, x36, x37, x38, x39, x40, x41, x42, x43, x44, x45, x46, x47, x48, x49, x50, x51, x52, x53, x54, x55, x56, x57, x58, x59, x60, x61, x62, x63, x64, x65, x66, x67, x68, x69, x70, x71, x72, x73, x74, x75, x76, x77, x78, x79, x80, x81, x82, x83, x84, x85, x86, x87, x88, x89, x90, x91, x92, x93, x94, x95, x96, x97, x98, x99, x100, x101, x102, x103, x104, x105, x106, x107, x108, x109, x110, x111, x112, x113, x114, x115, x116, x117, x118, x119, x120, x121, x122, x123, x124, x125, x126, x127, x128, x129, x130, x131, x132, x133, x134, x135, x136, x137, x138, x139, x140, x141, x142, x143, x144, x145, x146, x147, x148, x149, x150, x151, x152, x153, x154, x155, x156, x157, x158, x159, x160, x161, x162, x163, x164, x165, x166, x167, x168, x169, x170, x171, x172, x173, x174, x175, x176, x177, x178, x179, x180, x181, x182, x183, x184, x185, x186, x187, x188, x189, x190, x191, x192, x193, x194, x195, x196, x197, x198, x199, x200, x201, x202, x203, x204, x205, x206, x207, x208, x209, x210, x211, x212, x213, x214, x215, x216, x217, x218, x219, x220, x221, x222, x223, x224, x225, x226, x227, x228, x229, x230, x231, x232, x233, x234, x235, x236, x237, x238, x239, x240, x241, x242, x243, x244, x245, x246, x247, x248, x249, x250, x251, x252, x253, x254, x255, x256, x257, x258, x259, x260, x261, x262, x263, x264, x265, x266, x267, x268, x269, x270, x271, x272, x273, x274, x275, x276, x277, x278], []⟩ W') :
    Code.wp Tryd.prog (codeOf Tryd.f3.body 35) Q0 ⟨#[.slice ad ts.length ca, .slice bd l.length cb, .slice cd Q.length cc, c3, c4, c5, u6, .pointer (some ⟨n0 + 2, 0, none⟩), .slice av L.length cv, .int .i64 (k : Int), u10, u11, u12, u13, u14, u15, u16, u17, u18, u19, u20, u21, u22, u23, u24, u25, u26, u27, c28, u29, u30, u31, u32, u33, u34, u35, u36, u37, u38, u39, u40, u41, u42, u43, u44, u45, u46, u47, u48, u49, u50, u51, u52, u53, u54, u55, u56, u57, u58, u59, u60, u61, u62, u63, u64, u65, u66, u67, u68, u69, u70, u71, u72, u73, u74, u75, u76, u77, u78, u79, u80, u81, u82, u83, u84, u85, u86, u87, u88, u89, u90, u91, u92, u93, u94, u95, u96, u97, u98, u99, u100, u101, u102, u103, u104, u105, u106, u107, u108, u109, u110, u111, u112, u113, u114, u115, u116, u117, u118, u119, u120, u121, u122, u123, u124, u125, u126, u127, u128, u129, u130, u131, u132, u133, u134, u135, u136, u137, u138, u139, u140, u141, u142, u143, u144, u145, u146, u147, u148, u149, u150, u151, u152, u153, u154, u155, u156, u157, u158, u159, u160, u161, u162, u163, u164, u165, u166, u167, u168, u169, u170, u171, u172, u173, u174, u175, u176, u177, u178, u179, u180, u181, u182, u183, u184, u185, u186, u187, u188, u189, u190, u191, u192, u193, u194, u195, u196, u197, u198, u199, u200, u201, u202, u203, u204, u205, u206, u207, u208, u209, u210, u211, u212, u213, u214, u215, u216, u217, u218, u219, u220, u221, u222, u223, u224, u225, u226, u227, u228, u229, u230, u231, u232, u233, u234, u235, u236, u237, u238, u239, u240, u241, u242, u243, u244, u245, u246, u247, u248, u249, u250, u251, u252, u253, u254, u255, u256, u257, u258, u259, u260, u261, u262, u263, u264, u265, u266, u267, u268, u269, u270, u271, u272, u273, u274, u275, u276, u277, u278], []⟩ W := by
  have HQ := hide2 hQ
  have Hold0 := hide2 hh0
  have HG := hide2 hG
  have Hw := hide2 (show errVar w ∧ AskAt w cd Q ∧ (∀ q ∈ Q, ∀ n ∈ q, (Lit.int .i64 n).wf = true) ∧ (∀ q ∈ Q, q.length ≤ maxLen) from ⟨hg, hq, fq, nq⟩)
  clear hQ hh0 hG hg hq fq nq
  conv => arg 2; whnf
  by_cases h1 : k < Q.length
  · have i1 : (k : Int) < (Q.length : Int) := by omega
    have hmem := List.getElem_mem h1
    obtain ⟨bq, oq, rfl, aq, cq, hcq, hin⟩ := Hw.out.2.1.at k h1
    have hcW := hide2 (show ∀ W', RowKit.Below w.heap.size w W' → W'.cell? ⟨bq, oq + k, none⟩ = some (.slice aq (Q[k]).length cq) from fun W' h => (h.cell (World.block_lt_of_cell? w _ hcq)).trans hcq)
    have hiW := hide2 (show ∀ j (hj : j < (Q[k]).length), ∃ b' o', aq = some ⟨b', o', none⟩ ∧ ∀ W', RowKit.Below w.heap.size w W' → W'.cell? ⟨b', o' + j, none⟩ = some (.int .i64 (askJ Q[k] j)) from fun j hj => by
      obtain ⟨b', o', e, h⟩ := hin j hj
      refine ⟨b', o', e, fun W' hW => ?_⟩
      rw [askJ_at hj]
      exact (hW.cell (World.block_lt_of_cell? w _ h)).trans h)
    have hzero := hide2 (show ∀ j, ¬ j < (Q[k]).length → askJ Q[k] j = 0 from fun j hj => askJ_out hj)
    have hwz := hide2 (show wfI (askJ Q[k] 0, askJ Q[k] 1, askJ Q[k] 2) from askV_wf (Hw.out.2.2.1 _ hmem))
    have nq0 := Hw.out.2.2.2 _ hmem
    have i0 : (0 : Int) ≤ (k : Int) := by omega
    unfold maxLen at nq0
    clear hin hcq hmem
    generalize Q[k] = q at *
    have ar0 : Hid (Arr (W.alloc (.cells #[.int .i64 0, .int .i64 0, .int .i64 0] 41)) W.heap.size #[.int .i64 0, .int .i64 0, .int .i64 0] 41) := arr_made _ _ _
    go_upto_block 2 with fail
    go_cut [20] from 165 to 186 (fun _ W' => Hid (Hold w n0 (.slice av L.length cv) L W') ∧ Hid (Arr W' W.heap.size #[.int .i64 (askJ q 0), .int .i64 (askJ q 1), .int .i64 (askJ q 2)] 41))
    case first =>
      go_wp2_with fail
      go_loopw [20] (fun i W' => ((i = .int .i64 0 ∧ Hid (Arr W' W.heap.size #[.int .i64 0, .int .i64 0, .int .i64 0] 41))
          ∨ (i = .int .i64 1 ∧ Hid (0 < q.length) ∧ Hid (Arr W' W.heap.size #[.int .i64 (askJ q 0), .int .i64 0, .int .i64 0] 41))
          ∨ (i = .int .i64 2 ∧ Hid (1 < q.length) ∧ Hid (Arr W' W.heap.size #[.int .i64 (askJ q 0), .int .i64 (askJ q 1), .int .i64 0] 41))
          ∨ (i = .int .i64 3 ∧ Hid (2 < q.length) ∧ Hid (Arr W' W.heap.size #[.int .i64 (askJ q 0), .int .i64 (askJ q 1), .int .i64 (askJ q 2)] 41)))
          ∧ Hid (Hold w n0 (.slice av L.length cv) L W')) (fun i W' => 3 - (intOf i).toNat)
      case atStart => exact ⟨.inl ⟨rfl, ar0⟩, Hold0.out.below (balloc _ _)⟩
      case round =>
        obtain ⟨hcs, hh⟩ := hrel
        have hcq := hcW.out _ hh.out.2.2
        have hzW : n0 + 2 < W.heap.size := Hold0.out.1.lt
        rcases hcs with ⟨rfl, ha⟩ | ⟨rfl, hp, ha⟩ | ⟨rfl, hp, ha⟩ | ⟨rfl, hp, ha⟩
        · by_cases hlt : 0 < q.length
          · have j1 : (0 : Int) < (q.length : Int) := by omega
            obtain ⟨b', o', rfl, hcell⟩ := hiW.out 0 hlt
            have hc0 := hcell _ hh.out.2.2
            have a0 := ha.out.cell 0
            have f0 := ha.out.thaw 0
            have hzl := ha.out.lt
            simp at a0
            try simp only [Nat.add_zero] at hc0
            go_wp2_with fail
            go_roundw
            case rel =>
              refine ⟨.inr (.inl ⟨rfl, hlt, ?_⟩), ?_⟩
              · exact ha.out.set 0 _
              · exact hh.out.put (p := ⟨W.heap.size, 0, none⟩) _ (by show _ ≤ W.heap.size; omega) (by show _ ≤ W.heap.size; have := Hold0.out.2.2.size; omega) (fun e => by have := Hold0.out.2.1.lt _ e; exact absurd this.2 (by show ¬ W.heap.size < W.heap.size; omega))
            case measure => simp [intOf]
          · have j1 : ¬ ((0 : Int) < (q.length : Int)) := by omega
            go_wp2_with fail
            go_meet
            case rel =>
              refine ⟨hh, ?_⟩
              show Arr _ _ _ _
              rw [hzero.out 0 (by omega), hzero.out 1 (by omega), hzero.out 2 (by omega)]
              exact ha.out
        · by_cases hlt : 1 < q.length
          · have j1 : (1 : Int) < (q.length : Int) := by omega
            obtain ⟨b', o', rfl, hcell⟩ := hiW.out 1 hlt
            have hc0 := hcell _ hh.out.2.2
            have a0 := ha.out.cell 1
            have f0 := ha.out.thaw 1
            have hzl := ha.out.lt
            simp at a0
            try simp only [Nat.add_zero] at hc0
            go_wp2_with fail
            go_roundw
            case rel =>
              refine ⟨.inr (.inr (.inl ⟨rfl, hlt, ?_⟩)), ?_⟩
              · exact ha.out.set 1 _
              · exact hh.out.put (p := ⟨W.heap.size, 1, none⟩) _ (by show _ ≤ W.heap.size; omega) (by show _ ≤ W.heap.size; have := Hold0.out.2.2.size; omega) (fun e => by have := Hold0.out.2.1.lt _ e; exact absurd this.2 (by show ¬ W.heap.size < W.heap.size; omega))
            case measure => simp [intOf]
          · have j1 : ¬ ((1 : Int) < (q.length : Int)) := by omega
            go_wp2_with fail
            go_meet
            case rel =>
              refine ⟨hh, ?_⟩
              show Arr _ _ _ _
              rw [hzero.out 1 (by omega), hzero.out 2 (by omega)]
              exact ha.out
        · by_cases hlt : 2 < q.length
          · have j1 : (2 : Int) < (q.length : Int) := by omega
            obtain ⟨b', o', rfl, hcell⟩ := hiW.out 2 hlt
            have hc0 := hcell _ hh.out.2.2
            have a0 := ha.out.cell 2
            have f0 := ha.out.thaw 2
            have hzl := ha.out.lt
            simp at a0
            try simp only [Nat.add_zero] at hc0
            go_wp2_with fail
            go_roundw
            case rel =>
              refine ⟨.inr (.inr (.inr ⟨rfl, hlt, ?_⟩)), ?_⟩
              · exact ha.out.set 2 _
              · exact hh.out.put (p := ⟨W.heap.size, 2, none⟩) _ (by show _ ≤ W.heap.size; omega) (by show _ ≤ W.heap.size; have := Hold0.out.2.2.size; omega) (fun e => by have := Hold0.out.2.1.lt _ e; exact absurd this.2 (by show ¬ W.heap.size < W.heap.size; omega))
            case measure => simp [intOf]
          · have j1 : ¬ ((2 : Int) < (q.length : Int)) := by omega
            go_wp2_with fail
            go_meet
            case rel =>
              refine ⟨hh, ?_⟩
              show Arr _ _ _ _
              rw [hzero.out 2 (by omega)]
              exact ha.out
        · have j1 : (3 : Int) < (q.length : Int) ∨ ¬ ((3 : Int) < (q.length : Int)) := by omega
          rcases j1 with j1 | j1
          · go_wp2_with fail
            go_meet
            case rel => exact ⟨hh, ha⟩
          · go_wp2_with fail
            go_meet
            case rel => exact ⟨hh, ha⟩
    case rest =>
      obtain ⟨hh, hv⟩ := hcut
      refine go_on (by assumption) ?_
      exact roundC2 Q0 _ _ _ _ _ _ _ _ _ _ _ _ _ _ _ _ _ _ _ _ _ _ _ _ _ _ _ _ _ _ _ _ _ _ _ _ _ _ _ _ _ _ _ _ _ _ _ _ _ _ _ _ _ _ _ _ _ _ _ _ _ _ _ _ _ _ _ _ _ _ _ _ _ _ _ _ _ _ _ _ _ _ _ _ _ _ _ _ _ _ _ _ _ _ _ _ _ _ _ _ _ _ _ _ _ _ _ _ _ _ _ _ _ _ _ _ _ _ _ _ _ _ _ _ _ _ _ _ _ _ _ _ _ _ _ _ _ _ _ _ _ _ _ _ _ _ _ _ _ _ _ _ _ _ _ _ _ _ _ _ _ _ _ _ _ _ _ _ _ _ _ _ _ _ _ _ _ _ _ _ _ _ _ _ _ _ _ _ _ _ _ _ _ _ _ _ _ _ _ _ _ _ _ _ _ _ _ _ _ _ _ _ _ _ _ _ _ _ _ _ _ _ _ _ _ _ _ _ _ _ _ _ _ _ _ _ _ _ _ _ _ _ _ _ _ _ _ _ _ _ _ _ _ _ _ _ _ _ _ _ _ _ _ _ _ _ _ _ _ _ _ _ ad bd _ av ca cb cc cv k n0 _ ts l Q L _ _ _ w _ Hw.out.1 HG.out hwz.out hh.out hv.out HQ.out
  · have i1 : ¬ ((k : Int) < (Q.length : Int)) := by omega
    go_wp2_with fail
    exact HQ.out _ _ _ _ _ _ _ _ _ _ _ _ _ _ _ _ _ _ _ _ _ _ _ _ _ _ _ _ _ _ _ _ _ _ _ _ _ _ _ _ _ _ _ _ _ _ _ _ _ _ _ _ _ _ _ _ _ _ _ _ _ _ _ _ _ _ _ _ _ _ _ _ _ _ _ _ _ _ _ _ _ _ _ _ _ _ _ _ _ _ _ _ _ _ _ _ _ _ _ _ _ _ _ _ _ _ _ _ _ _ _ _ _ _ _ _ _ _ _ _ _ _ _ _ _ _ _ _ _ _ _ _ _ _ _ _ _ _ _ _ _ _ _ _ _ _ _ _ _ _ _ _ _ _ _ _ _ _ _ _ _ _ _ _ _ _ _ _ _ _ _ _ _ _ _ _ _ _ _ _ _ _ _ _ _ _ _ _ _ _ _ _ _ _ _ _ _ _ _ _ _ _ _ _ _ _ _ _ _ _ _ _ _ _ _ _ _ _ _ _ _ _ _ _ _ _ _ _ _ _ _ _ _ _ _ _ _ _ _ _ _ _ _ _ _ _ _ _ _ _ _ _ _ _ _ _ _ _ _ _ _ _ _ _ _ _ _ _ _ _ Hold0.out
end Go.Proofs.YtkeholipklfnbacDoor
