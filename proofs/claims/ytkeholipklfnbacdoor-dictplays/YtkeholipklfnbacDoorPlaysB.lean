/- DictPlays' round, its middle: a triple that is packed. -/
import Derived.Test.YtkeholipklfnbacDoorPlaysC
namespace Go.Proofs.YtkeholipklfnbacDoor
open Go Go.RowKit Go.Proofs Go.Maps
set_option synthInstance.maxSize 1000

attribute [local go_sem] eql_errV neq_errV guard_errV
attribute [local go_sem ↓] neqTriple neqTerm neqI3

/-- what the walk has in hand beside two blocks of its own -/
def NumSt (w : World) (n0 : Nat) (L0 L : List Tm) (v : Value) (bt bi : Nat) (tc ic : Array Value) (W : World) : Prop :=
  DictAt W n0 L0 ∧ OwnL W n0 v L ∧ RowKit.Below w.heap.size w W ∧ Arr W bt tc 39 ∧ Arr W bi ic 41 ∧ v.ownBlock ≠ some bt ∧ v.ownBlock ≠ some bi
theorem NumSt.below {w W W' : World} {n0 bt bi : Nat} {L0 L : List Tm} {v : Value} {tc ic : Array Value} (h : NumSt w n0 L0 L v bt bi tc ic W) (hb : RowKit.Below W.heap.size W W') : NumSt w n0 L0 L v bt bi tc ic W' :=
  ⟨h.1.below hb, h.2.1.below hb, bstep h.2.2.1 hb, h.2.2.2.1.below hb h.2.2.2.1.lt, h.2.2.2.2.1.below hb h.2.2.2.2.1.lt, h.2.2.2.2.2⟩
theorem NumSt.turned {w W W' : World} {n0 bt bi : Nat} {L0 L1 L : List Tm} {v : Value} {tc ic : Array Value} (h : NumSt w n0 L0 L v bt bi tc ic W) (hw : w.heap.size ≤ n0) (h1 : n0 + 3 ≤ bt) (h2 : n0 + 3 ≤ bi) (hD : DictAt W' n0 L1) (ht : Turned n0 W W') : NumSt w n0 L1 L v bt bi tc ic W' :=
  ⟨hD, h.2.1.turned ht, h.2.2.1.trans (ht.low.mono hw), h.2.2.2.1.turned ht h1, h.2.2.2.2.1.turned ht h2, h.2.2.2.2.2⟩
theorem NumSt.put {w W : World} {n0 bt bi : Nat} {L0 L : List Tm} {v : Value} {tc ic : Array Value} (h : NumSt w n0 L0 L v bt bi tc ic W) (j : Nat) (u : Value) (hw : w.heap.size ≤ bi) (h2 : n0 + 3 ≤ bi) (hne : bt ≠ bi) : NumSt w n0 L0 L v bt bi tc (ic.setIfInBounds j u) (W.setCell ⟨bi, j, none⟩ u) := by
  have hh : Hold w n0 v L W → Hold w n0 v L (W.setCell ⟨bi, j, none⟩ u) := fun q => q.put (p := ⟨bi, j, none⟩) u h2 hw h.2.2.2.2.2.2
  obtain ⟨d, o, b, a1, a2, e1, e2⟩ := h
  have oo : OwnL (W.setCell ⟨bi, j, none⟩ u) n0 v L := by
    obtain ⟨h1, h3⟩ := o
    refine ⟨h1, ?_⟩
    rcases h3 with h3 | ⟨g, cap, cur, rfl, hg, hm, r⟩
    · exact .inl h3
    · exact .inr ⟨g, cap, cur, rfl, hg, (RowKit.Below.heap_setCell W ⟨bi, j, none⟩ u g (fun e => e2 (by rw [e]; rfl))).trans hm, r⟩
  exact ⟨d.put (p := ⟨bi, j, none⟩) u h2, oo, b.setCell (p := ⟨bi, j, none⟩) hw u, a1.set_other (p := ⟨bi, j, none⟩) u hne, a2.set j u, e1, e2⟩
theorem num_st (w : World) (n0 bt bi : Nat) (L0 L : List Tm) (v : Value) (x : Tm) (tc ic : Array Value) (W : World) (hw : w.heap.size ≤ n0) (h : NumSt w n0 L0 L v bt bi tc ic W) (hL : L.length ≤ 1000) :
    Calls Tryd.prog 6 #[v, .agg #[.int .i64 x.1, .string ⟨x.2.1.toArray⟩, .string ⟨x.2.2.toArray⟩]] W fun e W' => ∃ v', e = .returned (.tuple #[v', .int .i64 (idN (addL L x) x)]) ∧ NumSt w n0 L0 (addL L x) v' bt bi tc ic W' ∧ NumSt w n0 L0 L v bt bi tc ic W' := by
  obtain ⟨d, o, b, a1, a2, e1, e2⟩ := h
  refine (numS_any w n0 L0 L v x W hw d o hL b).mono ?_
  rintro e W' ⟨v', rfl, h1, h2, h3, h4, h5, h6⟩
  have b1 := a1.num h5 e1
  have b2 := a2.num h5 e2
  have f : ∀ c, c < W.heap.size → v.ownBlock ≠ some c → v'.ownBlock ≠ some c := fun c hc hne e => by
    rcases h6 c e with h | h
    · exact hne h
    · omega
  exact ⟨v', rfl, ⟨h1, h2, h4, b1, b2, f bt a1.lt e1, f bi a2.lt e2⟩, ⟨h1, h3, h4, b1, b2, e1, e2⟩⟩

set_option maxHeartbeats 32000000 in
set_option maxRecDepth 1000000 in
theorem roundB (Q0 : Exit → Act → World → Prop) (u6 u10 u11 u12 u13 u14 u15 u16 u17 u18 u19 u20 u21 u22 u23 u24 u25 u26 u27 u29 u30 u31 u32 u33 u34 u35 u36 u37 u38 u39 u40 u41 u42 u43 u44 u45 u46 u47 u48 u49 u50 u51 u52 u53 u54 u55 u56 u57 u58 u59 u60 u61 u62 u63 u64 u65 u66 u67 u68 u69 u70 u71 u72 u73 u74 u75 u76 u77 u78 u79 u80 u81 u82 u83 u84 u85 u86 u87 u88 u89 u90 u91 u92 u93 u94 u95 u96 u97 u98 u99 u100 u101 u102 u103 u104 u105 u106 u107 u108 u109 u110 u111 u112 u113 u114 u115 u116 u117 u118 u119 u120 u121 u122 u123 u124 u125 u126 u127 u128 u129 u130 u131 u132 u133 u134 u135 u136 u137 u138 u139 u140 u141 u142 u143 u144 u145 u146 u147 u148 u149 u150 u151 u152 u153 u154 u155 u156 u157 u158 u159 u160 u161 u162 u163 u164 u165 u166 u167 u168 u169 u170 u171 u172 u173 u174 u175 u176 u177 u178 u179 u180 u181 u182 u183 u184 u185 u186 u187 u188 u189 u190 u191 u192 u193 u194 u195 u196 u197 u198 u199 u200 u201 u202 u203 u204 u205 u206 u207 u208 u209 u210 u211 u212 u213 u214 u215 u216 u217 u218 u219 u220 u221 u222 u223 u224 u225 u226 u227 u228 u229 u230 u231 u232 u233 u234 u235 u236 u237 u238 u239 u240 u241 u242 u243 u244 u245 u246 u247 u248 u249 u250 u251 u252 u253 u254 u255 u256 u257 u258 u259 u260 u261 u262 u263 u264 u265 u266 u267 u268 u269 u270 u271 u272 u273 u274 u275 u276 u277 u278 : Value) (c3 c4 c5 c28 : Value) (ad bd cd av : Option Addr) (ca cb cc cv k n0 M : Nat) (ts : List Tm) (l : List Tr) (Q : List (List Int)) (L : List Tm) (w W : World)
    (hg : errVar w) (hl : SlT w bd l) (fl : ∀ x ∈ l, wfTr x) (hq : AskAt w cd Q) (fq : ∀ q ∈ Q, ∀ n ∈ q, (Lit.int .i64 n).wf = true) (nq : ∀ q ∈ Q, q.length ≤ maxLen)
    (hw : w.heap.size ≤ n0) (hM : M + 3 ≤ 300) (hG : GoodL L) (hLM : L.length ≤ M) (hh0 : Hold w n0 (.slice av L.length cv) L W)
    (hQ : ∀ (x6 x10 x11 x12 x13 x14 x15 x16 x17 x18 x19 x20 x21 x22 x23 x24 x25 x26 x27 x29 x30 x31 x32 x33 x34 x35 x36 x37 x38 x39 x40 x41 x42 x43 x44 x45 x46 x47 x48 x49 x50 x51 x52 x53 x54 x55 x56 x57 x58 x59 x60 x61 x62 x63 x64 x65 x66 x67 x68 x69 x70 x71 x72 x73 x74 x75 x76 x77 x78 x79 x80 x81 x82 x83 x84 x85 x86 x87 x88 x89 x90 x91 x92 x93 x94 x95 x96 x97 x98 x99 x100 x101 x102 x103 x104 x105 x106 x107 x108 x109 x110 x111 x112 x113 x114 x115 x116 x117 x118 x119 x120 x121 x122 x123 x124 x125 x126 x127 x128 x129 x130 x131 x132 x133 x134 x135 x136 x137 x138 x139 x140 x141 x142 x143 x144 x145 x146 x147 x148 x149 x150 x151 x152 x153 x154 x155 x156 x157 x158 x159 x160 x161 x162 x163 x164 x165 x166 x167 x168 x169 x170 x171 x172 x173 x174 x175 x176 x177 x178 x179 x180 x181 x182 x183 x184 x185 x186 x187 x188 x189 x190 x191 x192 x193 x194 x195 x196 x197 x198 x199 x200 x201 x202 x203 x204 x205 x206 x207 x208 x209 x210 x211 x212 x213 x214 x215 x216 x217 x218 x219 x220 x221 x222 x223 x224 x225 x226 x227 x228 x229 x230 x231 x232 x233 x234 x235 x236 x237 x238 x239 x240 x241 x242 x243 x244 x245 x246 x247 x248 x249 x250 x251 x252 x253 x254 x255 x256 x257 x258 x259 x260 x261 x262 x263 x264 x265 x266 x267 x268 x269 x270 x271 x272 x273 x274 x275 x276 x277 x278 : Value) (vv : Value) (W' : World), PlaySt w n0 (M + 3) vv W' → Q0 .normal ⟨#[.slice ad ts.length ca, .slice bd l.length cb, .slice cd Q.length cc, c3, c4, c5, x6, .pointer (some ⟨n0 + 2, 0, none⟩), vv, .int .i64 (k : Int), x10, x11, x12, x13, x14, x15, x16, x17, x18, x19, x20, x21, x22, x23, x24, x25, x26, x27, c28, x29, x30, x31, x32, x33, x34, x35, x36, x37, x38, x39, x40, x41, x42, x43, x44, x45, x46, x47, x48, x49, x50, x51, x52, x53, x54, x55, x56, x57, x58, x59, x60, x61, x62, x63, x64, x65, x66, x67, x68, x69, x70, x71, x72, x73, x74, x75, x76, x77, x78, x79, x80, x81, x82, x83, x84, x85, x86, x87, x88, x89, x90, x91, x92, x93, x94, x95, x96, x97, x98, x99, x100, x101, x102, x103, x104, x105, x106, x107, x108, x109, x110, x111, x112, x113, x114, x115, x116, x117, x118, x119, x120, x121, x122, x123, x124, x125, x126, x127, x128, x129, x130, x131, x132, x133, x134, x135, x136, x137, x138, x139, x140, x141, x142, x143, x144, x145, x146, x147, x148, x149, x150, x151, x152, x153, x154, x155, x156, x157, x158, x159, x160, x161, x162, x163, x164, x165, x166, x167, x168, x169, x170, x171, x172, x173, x174, x175, x176, x177, x178, x179, x180, x181, x182, x183, x184, x185, x186, x187, x188, x189, x190, x191, x192, x193, x194, x195, x196, x197, x198, x199, x200, x201, x202, x203, x204, x205, x206, x207, x208, x209, x210, x211, x212, x213, x214, x215, x216, x217, x218, x219, x220, x221, x222, x223, x224, x225, x226, x227, x228, x229, x230, x231, x232, x233, x234, x235, x236, x237, x238, x239, x240, x241, x242, x243, x244, x245, x246, x247, x248, x249, x250, x251, x252, x253, x254, x255, x256, x257, x258, x259, x260, x261, x262, x263, x264, x265, x266, x267, x268, x269, x270, x271, x272, x273, x274, x275, x276, x277, x278], []⟩ W') :
    Code.wp Tryd.prog (codeOf Tryd.f3.body 14) Q0 ⟨#[.slice ad ts.length ca, .slice bd l.length cb, .slice cd Q.length cc, c3, c4, c5, u6, .pointer (some ⟨n0 + 2, 0, none⟩), .slice av L.length cv, .int .i64 (k : Int), u10, u11, u12, u13, u14, u15, u16, u17, u18, u19, u20, u21, u22, u23, u24, u25, u26, u27, c28, u29, u30, u31, u32, u33, u34, u35, u36, u37, u38, u39, u40, u41, u42, u43, u44, u45, u46, u47, u48, u49, u50, u51, u52, u53, u54, u55, u56, u57, u58, u59, u60, u61, u62, u63, u64, u65, u66, u67, u68, u69, u70, u71, u72, u73, u74, u75, u76, u77, u78, u79, u80, u81, u82, u83, u84, u85, u86, u87, u88, u89, u90, u91, u92, u93, u94, u95, u96, u97, u98, u99, u100, u101, u102, u103, u104, u105, u106, u107, u108, u109, u110, u111, u112, u113, u114, u115, u116, u117, u118, u119, u120, u121, u122, u123, u124, u125, u126, u127, u128, u129, u130, u131, u132, u133, u134, u135, u136, u137, u138, u139, u140, u141, u142, u143, u144, u145, u146, u147, u148, u149, u150, u151, u152, u153, u154, u155, u156, u157, u158, u159, u160, u161, u162, u163, u164, u165, u166, u167, u168, u169, u170, u171, u172, u173, u174, u175, u176, u177, u178, u179, u180, u181, u182, u183, u184, u185, u186, u187, u188, u189, u190, u191, u192, u193, u194, u195, u196, u197, u198, u199, u200, u201, u202, u203, u204, u205, u206, u207, u208, u209, u210, u211, u212, u213, u214, u215, u216, u217, u218, u219, u220, u221, u222, u223, u224, u225, u226, u227, u228, u229, u230, u231, u232, u233, u234, u235, u236, u237, u238, u239, u240, u241, u242, u243, u244, u245, u246, u247, u248, u249, u250, u251, u252, u253, u254, u255, u256, u257, u258, u259, u260, u261, u262, u263, u264, u265, u266, u267, u268, u269, u270, u271, u272, u273, u274, u275, u276, u277, u278], []⟩ W := by
  have HQ := hide2 hQ
  have Hh := hide2 hh0
  have HG := hide2 hG
  have Hw := hide2 (show errVar w ∧ SlT w bd l ∧ (∀ x ∈ l, wfTr x) ∧ AskAt w cd Q ∧ (∀ q ∈ Q, ∀ n ∈ q, (Lit.int .i64 n).wf = true) ∧ (∀ q ∈ Q, q.length ≤ maxLen) from ⟨hg, hl, fl, hq, fq, nq⟩)
  have hlt := hh0.1.lt
  have hww := hh0.2.2.size
  clear hQ hh0 hG hg hl fl hq fq nq
  conv => arg 2; whnf
  by_cases h1 : k < l.length
  · have i0 : (0 : Int) ≤ (k : Int) := by omega
    have i1 : (k : Int) < (l.length : Int) := by omega
    obtain ⟨b, o, rfl, hr⟩ := (Hw.out.2.1.below Hh.out.2.2).at k h1
    obtain ⟨c0, c1, c2, c3, c4, c5, c6, c7, c8⟩ := hr.at k h1
    have hwf := hide2 (Hw.out.2.2.1 _ (List.getElem_mem h1))
    have HT := fun W => RTriple_any l[k] W hwf.out.fit
    have HP := fun W hW => Pack_any n0 L l[k] W hW (by omega) hwf.out.fit
    have hpe := hide2 (show packE L l[k] = chkTr l[k] from packE_room (by omega))
    have hG2 := hide2 (HG.out.pack l[k])
    have hL2 := packL_le L l[k]
    have hbb := World.block_lt_of_cell? W _ c0
    clear hr
    generalize l[k] = t at *
    have hnv := hide2 (show ∀ c, W.heap.size ≤ c → (Value.slice av L.length cv).ownBlock ≠ some c from fun c hc e => absurd (Hh.out.2.1.lt _ e).2 (by omega))
    unfold valTr at HT HP
    go_wp2_with fail
    refine (HT _).mono ?_
    rintro e W2 ⟨rfl, hb2⟩
    have hbx := bstep (balloc W (.cells (encTr t).toArray 39)) hb2
    have hz2 : W.heap.size < W2.heap.size := by have := hb2.size; simp at this; omega
    have hN : Hid (NumSt w n0 L L (.slice av L.length cv) W.heap.size W2.heap.size (encTr t).toArray #[.int .i64 0, .int .i64 0, .int .i64 0] (W2.alloc (.cells #[.int .i64 0, .int .i64 0, .int .i64 0] 41))) := by
      have hb3 := bstep hb2 (balloc W2 (.cells #[.int .i64 0, .int .i64 0, .int .i64 0] 41))
      have hH3 := (Hh.out.below hbx).below (balloc W2 (.cells #[.int .i64 0, .int .i64 0, .int .i64 0] 41))
      exact ⟨hH3.1, hH3.2.1, hH3.2.2, (arr_made W (encTr t).toArray 39).below hb3 (by simp), arr_made _ _ _, hnv.out _ (Nat.le_refl _), hnv.out _ (by omega)⟩
    clear hb2 hbx HT c0 c1 c2 c3 c4 c5 c6 c7 c8 Hh
    dsimp only
    go_upto_if 92 with fail
    go_cut [8] from 91 to 116 (fun v W' => Hid (NumSt w n0 L (packL L t) v W.heap.size W2.heap.size (encTr t).toArray #[.int .i64 (packI L t).1, .int .i64 (packI L t).2.1, .int .i64 (packI L t).2.2] W'))
    case first =>
      clear HQ HP
      cases hc : (chkTr t == 0)
      · have e0 : ¬ packE L t = 0 := by rw [hpe.out]; simpa using hc
        have eL := hide2 (show packL L t = L from if_neg e0)
        have eI := hide2 (show packI L t = (0, 0, 0) from if_neg e0)
        clear e0
        generalize chkTr t = m at *
        go_wp2_with fail
        go_meet
        case rel => show NumSt _ _ _ _ _ _ _ _ _ _; rw [eL.out, eI.out]; exact hN.out
      · have e0 : packE L t = 0 := by rw [hpe.out]; simpa using hc
        have eL := hide2 (show packL L t = addL (addL (addL L t.1) t.2.1) t.2.2 from if_pos e0)
        have eI := hide2 (show packI L t = (((idN (addL L t.1) t.1 : Nat) : Int), ((idN (addL (addL L t.1) t.2.1) t.2.1 : Nat) : Int), ((idN (addL (addL (addL L t.1) t.2.1) t.2.2) t.2.2 : Nat) : Int)) from (if_pos e0).trans (ids_eq L t))
        have n1 : (addL L t.1).length ≤ 301 := by rw [addL_len]; split <;> omega
        have n2 : (addL (addL L t.1) t.2.1).length ≤ 302 := by rw [addL_len]; split <;> omega
        have hbi : w.heap.size ≤ W2.heap.size := by omega
        have hbj : n0 + 3 ≤ W2.heap.size := by omega
        have hbk : W.heap.size ≠ W2.heap.size := by omega
        clear e0
        generalize chkTr t = m at *
        have N1 := num_st w n0 W.heap.size W2.heap.size L L (.slice av L.length cv) t.1 (encTr t).toArray #[.int .i64 0, .int .i64 0, .int .i64 0] _ hw hN.out (by omega)
        have N2 := fun v X h => num_st w n0 W.heap.size W2.heap.size L (addL L t.1) v t.2.1 (encTr t).toArray #[.int .i64 (idN (addL L t.1) t.1 : Nat), .int .i64 0, .int .i64 0] X hw h (by omega)
        have N3 := fun v X h => num_st w n0 W.heap.size W2.heap.size L (addL (addL L t.1) t.2.1) v t.2.2 (encTr t).toArray #[.int .i64 (idN (addL L t.1) t.1 : Nat), .int .i64 (idN (addL (addL L t.1) t.2.1) t.2.1 : Nat), .int .i64 0] X hw h (by omega)
        generalize idN (addL (addL (addL L t.1) t.2.1) t.2.2) t.2.2 = d3 at *
        generalize addL (addL (addL L t.1) t.2.1) t.2.2 = L3 at *
        generalize idN (addL (addL L t.1) t.2.1) t.2.1 = d2 at *
        generalize addL (addL L t.1) t.2.1 = L2 at *
        generalize idN (addL L t.1) t.1 = d1 at *
        generalize addL L t.1 = L1 at *
        have s0 := hN.out.2.2.2.1.cell 0
        have s1 := hN.out.2.2.2.1.cell 1
        have s2 := hN.out.2.2.2.1.cell 2
        simp [encTr] at s0 s1 s2
        go_wp2_with fail
        refine N1.mono ?_
        rintro e W4 ⟨v1, rfl, hN4, _⟩
        have g0 := hN4.2.2.2.2.1.cell 0
        have f0 := hN4.2.2.2.2.1.thaw 0
        simp at g0
        have hN5 := hide2 (hN4.put 0 (.int .i64 d1) hbi hbj hbk)
        have p0 := hN5.out.2.2.2.1.cell 3
        have p1 := hN5.out.2.2.2.1.cell 4
        have p2 := hN5.out.2.2.2.1.cell 5
        simp [encTr] at p0 p1 p2
        clear N1 s0 s1 s2 hN hN4
        dsimp only
        go_wp2_with fail
        refine (N2 _ _ hN5.out).mono ?_
        rintro e W6 ⟨v2, rfl, hN6, _⟩
        have g1 := hN6.2.2.2.2.1.cell 1
        have f1 := hN6.2.2.2.2.1.thaw 1
        simp at g1
        have hN7 := hide2 (hN6.put 1 (.int .i64 d2) hbi hbj hbk)
        have r0 := hN7.out.2.2.2.1.cell 6
        have r1 := hN7.out.2.2.2.1.cell 7
        have r2 := hN7.out.2.2.2.1.cell 8
        simp [encTr] at r0 r1 r2
        clear N2 p0 p1 p2 hN5 hN6 g0 f0
        dsimp only
        go_wp2_with fail
        refine (N3 _ _ hN7.out).mono ?_
        rintro e W8 ⟨v3, rfl, hN8, _⟩
        have g2 := hN8.2.2.2.2.1.cell 2
        have f2 := hN8.2.2.2.2.1.thaw 2
        simp at g2
        have hN9 := hide2 (hN8.put 2 (.int .i64 d3) hbi hbj hbk)
        clear N3 r0 r1 r2 hN7 hN8 g1 f1
        dsimp only
        go_wp2_with fail
        go_meet
        case rel => show NumSt _ _ _ _ _ _ _ _ _ _; rw [eL.out, eI.out]; exact hN9.out
    case rest =>
      obtain ⟨a2, c2, e, _⟩ := own_slM hcut.out.2.1
      subst e
      have hN3 := hcut
      have HE := fun W hW => SameErr (chkTr t) W hW
      rw [hpe.out] at HP
      have HI := fun W hW => Id_any n0 (packL L t) t.2.2 W hW hwf.out.2.2
      have HE2 := fun W hW => SameErr (idE (packL L t) t.2.2) W hW
      have hin := hide2 (show t.2.2 ∈ packL L t → idE (packL L t) t.2.2 = 0 ∧ addL (packL L t) t.2.2 = packL L t ∧ idN (packL L t) t.2.2 ≤ (packL L t).length from fun h => ⟨if_pos h, if_pos h, (idN_mem h).2⟩)
      have hout := hide2 (show t.2.2 ∉ packL L t → idE (packL L t) t.2.2 = 5 ∧ idN (addL (packL L t) t.2.2) t.2.2 = (packL L t).length + 1 ∧ idN (packL L t) t.2.2 = 0 from fun h => ⟨if_neg h, idN_new h, idN_not h⟩)
      have hbi : n0 + 3 ≤ W2.heap.size := by omega
      have hbt : n0 + 3 ≤ W.heap.size := by omega
      clear hcut hN hpe hnv
      unfold valI at HP
      generalize packI L t = I at *
      generalize chkTr t = m at *
      generalize packL L t = L2 at *
      have s0 := hN3.out.2.2.2.1.cell 0
      have s1 := hN3.out.2.2.2.1.cell 1
      have s2 := hN3.out.2.2.2.1.cell 2
      have s3 := hN3.out.2.2.2.1.cell 3
      have s4 := hN3.out.2.2.2.1.cell 4
      have s5 := hN3.out.2.2.2.1.cell 5
      have s6 := hN3.out.2.2.2.1.cell 6
      have s7 := hN3.out.2.2.2.1.cell 7
      have s8 := hN3.out.2.2.2.1.cell 8
      simp [encTr] at s0 s1 s2 s3 s4 s5 s6 s7 s8
      go_wp2_with fail
      refine (HP _ hN3.out.1).mono ?_
      rintro e W3 ⟨rfl, hD3, hT3⟩
      have hN4 := hide2 ((hN3.out.turned hw hbt hbi hD3 hT3).below (balloc W3 (.cells #[.int .i64 I.1, .int .i64 I.2.1, .int .i64 I.2.2] 41)))
      have hX4 : Hid (Arr (W3.alloc (.cells #[.int .i64 I.1, .int .i64 I.2.1, .int .i64 I.2.2] 41)) W3.heap.size #[.int .i64 I.1, .int .i64 I.2.1, .int .i64 I.2.2] 41) := arr_made _ _ _
      clear HP hN3 hD3 hT3 s0 s1 s2 s3 s4 s5 s6 s7 s8
      dsimp only
      go_wp2_with fail
      refine (HE _ (Hw.out.1.below hN4.out.2.2.1)).mono ?_
      rintro e W4 ⟨rfl, hb4⟩
      have hN4b := hide2 (hN4.out.below hb4)
      have hX4b := hX4.out.below hb4 hX4.out.lt
      have x0 := hX4b.cell 0
      have x1 := hX4b.cell 1
      have x2 := hX4b.cell 2
      have y0 := hN4b.out.2.2.2.2.1.cell 0
      have y1 := hN4b.out.2.2.2.2.1.cell 1
      have y2 := hN4b.out.2.2.2.2.1.cell 2
      have r0 := hN4b.out.2.2.2.1.cell 6
      have r1 := hN4b.out.2.2.2.1.cell 7
      have r2 := hN4b.out.2.2.2.1.cell 8
      simp at x0 x1 x2 y0 y1 y2
      simp [encTr] at r0 r1 r2
      have HN := num_st w n0 W.heap.size W2.heap.size L2 L2 (.slice a2 L2.length c2) t.2.2 _ _ W4 hw hN4b.out (by omega)
      clear HE hN4 hX4 hX4b hb4
      dsimp only
      go_wp2_with fail
      refine HN.mono ?_
      rintro e W5 ⟨v', rfl, _, hN5⟩
      have hN5 := hide2 hN5
      clear HN hN4b x0 x1 x2 y0 y1 y2 r0 r1 r2
      have r0 := hN5.out.2.2.2.1.cell 6
      have r1 := hN5.out.2.2.2.1.cell 7
      have r2 := hN5.out.2.2.2.1.cell 8
      simp [encTr] at r0 r1 r2
      dsimp only
      by_cases hO : t.2.2 ∈ L2
      · obtain ⟨e1, e2, e3⟩ := hin.out hO
        rw [e2]
        rw [e1, show errV 0 = .nilIface from rfl] at HI HE2
        clear hin hout e1 e2 hO
        generalize idN L2 t.2.2 = d at *
        have q1 : ¬ ((d : Int) > (L2.length : Int)) := by omega
        go_wp2_with fail
        refine (HI _ (hN5.out.1)).mono ?_
        rintro e W6 ⟨rfl, hb6⟩
        have hN6 := hide2 (hN5.out.below hb6)
        clear HI hN5 hb6 r0 r1 r2
        dsimp only
        go_wp2_with fail
        refine (HE2 _ (Hw.out.1.below hN6.out.2.2.1)).mono ?_
        rintro e W7 ⟨rfl, hb7⟩
        have hN7 := hide2 (hN6.out.below hb7)
        clear HE2 hN6 hb7
        dsimp only
        go_upto_if 160 with fail
        go_cut [8] from 151 to 160 (fun v W' => v = .slice a2 L2.length c2 ∧ Hid (Hold w n0 (.slice a2 L2.length c2) L2 W'))
        case first =>
          clear HQ
          go_wp2_with fail
          go_meet
          case rel => exact ⟨rfl, hN7.out.1, hN7.out.2.1, hN7.out.2.2.1⟩
        case rest =>
          obtain ⟨rfl, hh⟩ := hcut
          refine go_on (by assumption) ?_
          exact roundC Q0 _ _ _ _ _ _ _ _ _ _ _ _ _ _ _ _ _ _ _ _ _ _ _ _ _ _ _ _ _ _ _ _ _ _ _ _ _ _ _ _ _ _ _ _ _ _ _ _ _ _ _ _ _ _ _ _ _ _ _ _ _ _ _ _ _ _ _ _ _ _ _ _ _ _ _ _ _ _ _ _ _ _ _ _ _ _ _ _ _ _ _ _ _ _ _ _ _ _ _ _ _ _ _ _ _ _ _ _ _ _ _ _ _ _ _ _ _ _ _ _ _ _ _ _ _ _ _ _ _ _ _ _ _ _ _ _ _ _ _ _ _ _ _ _ _ _ _ _ _ _ _ _ _ _ _ _ _ _ _ _ _ _ _ _ _ _ _ _ _ _ _ _ _ _ _ _ _ _ _ _ _ _ _ _ _ _ _ _ _ _ _ _ _ _ _ _ _ _ _ _ _ _ _ _ _ _ _ _ _ _ _ _ _ _ _ _ _ _ _ _ _ _ _ _ _ _ _ _ _ _ _ _ _ _ _ _ _ _ _ _ _ _ _ _ _ _ _ _ _ _ _ _ _ _ _ _ _ _ _ _ _ _ _ _ _ _ _ _ _ _ _ _ _ ad _ cd a2 ca cb cc c2 k n0 ts l Q L2 w _ Hw.out.1 Hw.out.2.2.2.1 Hw.out.2.2.2.2.1 Hw.out.2.2.2.2.2 hG2.out hh.out (fun x6 x10 x11 x12 x13 x14 x15 x16 x17 x18 x19 x20 x21 x22 x23 x24 x25 x26 x27 x29 x30 x31 x32 x33 x34 x35 x36 x37 x38 x39 x40 x41 x42 x43 x44 x45 x46 x47 x48 x49 x50 x51 x52 x53 x54 x55 x56 x57 x58 x59 x60 x61 x62 x63 x64 x65 x66 x67 x68 x69 x70 x71 x72 x73 x74 x75 x76 x77 x78 x79 x80 x81 x82 x83 x84 x85 x86 x87 x88 x89 x90 x91 x92 x93 x94 x95 x96 x97 x98 x99 x100 x101 x102 x103 x104 x105 x106 x107 x108 x109 x110 x111 x112 x113 x114 x115 x116 x117 x118 x119 x120 x121 x122 x123 x124 x125 x126 x127 x128 x129 x130 x131 x132 x133 x134 x135 x136 x137 x138 x139 x140 x141 x142 x143 x144 x145 x146 x147 x148 x149 x150 x151 x152 x153 x154 x155 x156 x157 x158 x159 x160 x161 x162 x163 x164 x165 x166 x167 x168 x169 x170 x171 x172 x173 x174 x175 x176 x177 x178 x179 x180 x181 x182 x183 x184 x185 x186 x187 x188 x189 x190 x191 x192 x193 x194 x195 x196 x197 x198 x199 x200 x201 x202 x203 x204 x205 x206 x207 x208 x209 x210 x211 x212 x213 x214 x215 x216 x217 x218 x219 x220 x221 x222 x223 x224 x225 x226 x227 x228 x229 x230 x231 x232 x233 x234 x235 x236 x237 x238 x239 x240 x241 x242 x243 x244 x245 x246 x247 x248 x249 x250 x251 x252 x253 x254 x255 x256 x257 x258 x259 x260 x261 x262 x263 x264 x265 x266 x267 x268 x269 x270 x271 x272 x273 x274 x275 x276 x277 x278 W' h => HQ.out x6 x10 x11 x12 x13 x14 x15 x16 x17 x18 x19 x20 x21 x22 x23 x24 x25 x26 x27 x29 x30 x31 x32 x33 x34 x35 x36 x37 x38 x39 x40 x41 x42 x43 x44 x45 x46 x47 x48 x49 x50 x51 x52 x53 x54 x55 x56 x57 x58 x59 x60 x61 x62 x63 x64 x65 x66 x67 x68 x69 x70 x71 x72 x73 x74 x75 x76 x77 x78 x79 x80 x81 x82 x83 x84 x85 x86 x87 x88 x89 x90 x91 x92 x93 x94 x95 x96 x97 x98 x99 x100 x101 x102 x103 x104 x105 x106 x107 x108 x109 x110 x111 x112 x113 x114 x115 x116 x117 x118 x119 x120 x121 x122 x123 x124 x125 x126 x127 x128 x129 x130 x131 x132 x133 x134 x135 x136 x137 x138 x139 x140 x141 x142 x143 x144 x145 x146 x147 x148 x149 x150 x151 x152 x153 x154 x155 x156 x157 x158 x159 x160 x161 x162 x163 x164 x165 x166 x167 x168 x169 x170 x171 x172 x173 x174 x175 x176 x177 x178 x179 x180 x181 x182 x183 x184 x185 x186 x187 x188 x189 x190 x191 x192 x193 x194 x195 x196 x197 x198 x199 x200 x201 x202 x203 x204 x205 x206 x207 x208 x209 x210 x211 x212 x213 x214 x215 x216 x217 x218 x219 x220 x221 x222 x223 x224 x225 x226 x227 x228 x229 x230 x231 x232 x233 x234 x235 x236 x237 x238 x239 x240 x241 x242 x243 x244 x245 x246 x247 x248 x249 x250 x251 x252 x253 x254 x255 x256 x257 x258 x259 x260 x261 x262 x263 x264 x265 x266 x267 x268 x269 x270 x271 x272 x273 x274 x275 x276 x277 x278 _ W' ⟨L2, h.1, hG2.out, by omega, h.2.1, h.2.2⟩)
      · obtain ⟨e1, e2, e3⟩ := hout.out hO
        rw [e2, show ((L2.length + 1 : Nat) : Int) = (L2.length : Int) + 1 by omega]
        rw [e1, e3] at HI
        rw [e1] at HE2
        clear hin hout e1 e2 e3 hO
        have q1 : (L2.length : Int) + 1 > (L2.length : Int) := by omega
        go_wp2_with fail
        refine (HI _ (hN5.out.1)).mono ?_
        rintro e W6 ⟨rfl, hb6⟩
        have hN6 := hide2 (hN5.out.below hb6)
        clear HI hN5 hb6 r0 r1 r2
        dsimp only
        go_wp2_with fail
        refine (HE2 _ (Hw.out.1.below hN6.out.2.2.1)).mono ?_
        rintro e W7 ⟨rfl, hb7⟩
        have hN7 := hide2 (hN6.out.below hb7)
        clear HE2 hN6 hb7
        dsimp only
        go_upto_if 160 with fail
        go_cut [8] from 151 to 160 (fun v W' => v = .slice a2 L2.length c2 ∧ Hid (Hold w n0 (.slice a2 L2.length c2) L2 W'))
        case first =>
          clear HQ
          go_wp2_with fail
          go_meet
          case rel => exact ⟨rfl, hN7.out.1, hN7.out.2.1, hN7.out.2.2.1⟩
        case rest =>
          obtain ⟨rfl, hh⟩ := hcut
          refine go_on (by assumption) ?_
          exact roundC Q0 _ _ _ _ _ _ _ _ _ _ _ _ _ _ _ _ _ _ _ _ _ _ _ _ _ _ _ _ _ _ _ _ _ _ _ _ _ _ _ _ _ _ _ _ _ _ _ _ _ _ _ _ _ _ _ _ _ _ _ _ _ _ _ _ _ _ _ _ _ _ _ _ _ _ _ _ _ _ _ _ _ _ _ _ _ _ _ _ _ _ _ _ _ _ _ _ _ _ _ _ _ _ _ _ _ _ _ _ _ _ _ _ _ _ _ _ _ _ _ _ _ _ _ _ _ _ _ _ _ _ _ _ _ _ _ _ _ _ _ _ _ _ _ _ _ _ _ _ _ _ _ _ _ _ _ _ _ _ _ _ _ _ _ _ _ _ _ _ _ _ _ _ _ _ _ _ _ _ _ _ _ _ _ _ _ _ _ _ _ _ _ _ _ _ _ _ _ _ _ _ _ _ _ _ _ _ _ _ _ _ _ _ _ _ _ _ _ _ _ _ _ _ _ _ _ _ _ _ _ _ _ _ _ _ _ _ _ _ _ _ _ _ _ _ _ _ _ _ _ _ _ _ _ _ _ _ _ _ _ _ _ _ _ _ _ _ _ _ _ _ _ _ _ ad _ cd a2 ca cb cc c2 k n0 ts l Q L2 w _ Hw.out.1 Hw.out.2.2.2.1 Hw.out.2.2.2.2.1 Hw.out.2.2.2.2.2 hG2.out hh.out (fun x6 x10 x11 x12 x13 x14 x15 x16 x17 x18 x19 x20 x21 x22 x23 x24 x25 x26 x27 x29 x30 x31 x32 x33 x34 x35 x36 x37 x38 x39 x40 x41 x42 x43 x44 x45 x46 x47 x48 x49 x50 x51 x52 x53 x54 x55 x56 x57 x58 x59 x60 x61 x62 x63 x64 x65 x66 x67 x68 x69 x70 x71 x72 x73 x74 x75 x76 x77 x78 x79 x80 x81 x82 x83 x84 x85 x86 x87 x88 x89 x90 x91 x92 x93 x94 x95 x96 x97 x98 x99 x100 x101 x102 x103 x104 x105 x106 x107 x108 x109 x110 x111 x112 x113 x114 x115 x116 x117 x118 x119 x120 x121 x122 x123 x124 x125 x126 x127 x128 x129 x130 x131 x132 x133 x134 x135 x136 x137 x138 x139 x140 x141 x142 x143 x144 x145 x146 x147 x148 x149 x150 x151 x152 x153 x154 x155 x156 x157 x158 x159 x160 x161 x162 x163 x164 x165 x166 x167 x168 x169 x170 x171 x172 x173 x174 x175 x176 x177 x178 x179 x180 x181 x182 x183 x184 x185 x186 x187 x188 x189 x190 x191 x192 x193 x194 x195 x196 x197 x198 x199 x200 x201 x202 x203 x204 x205 x206 x207 x208 x209 x210 x211 x212 x213 x214 x215 x216 x217 x218 x219 x220 x221 x222 x223 x224 x225 x226 x227 x228 x229 x230 x231 x232 x233 x234 x235 x236 x237 x238 x239 x240 x241 x242 x243 x244 x245 x246 x247 x248 x249 x250 x251 x252 x253 x254 x255 x256 x257 x258 x259 x260 x261 x262 x263 x264 x265 x266 x267 x268 x269 x270 x271 x272 x273 x274 x275 x276 x277 x278 W' h => HQ.out x6 x10 x11 x12 x13 x14 x15 x16 x17 x18 x19 x20 x21 x22 x23 x24 x25 x26 x27 x29 x30 x31 x32 x33 x34 x35 x36 x37 x38 x39 x40 x41 x42 x43 x44 x45 x46 x47 x48 x49 x50 x51 x52 x53 x54 x55 x56 x57 x58 x59 x60 x61 x62 x63 x64 x65 x66 x67 x68 x69 x70 x71 x72 x73 x74 x75 x76 x77 x78 x79 x80 x81 x82 x83 x84 x85 x86 x87 x88 x89 x90 x91 x92 x93 x94 x95 x96 x97 x98 x99 x100 x101 x102 x103 x104 x105 x106 x107 x108 x109 x110 x111 x112 x113 x114 x115 x116 x117 x118 x119 x120 x121 x122 x123 x124 x125 x126 x127 x128 x129 x130 x131 x132 x133 x134 x135 x136 x137 x138 x139 x140 x141 x142 x143 x144 x145 x146 x147 x148 x149 x150 x151 x152 x153 x154 x155 x156 x157 x158 x159 x160 x161 x162 x163 x164 x165 x166 x167 x168 x169 x170 x171 x172 x173 x174 x175 x176 x177 x178 x179 x180 x181 x182 x183 x184 x185 x186 x187 x188 x189 x190 x191 x192 x193 x194 x195 x196 x197 x198 x199 x200 x201 x202 x203 x204 x205 x206 x207 x208 x209 x210 x211 x212 x213 x214 x215 x216 x217 x218 x219 x220 x221 x222 x223 x224 x225 x226 x227 x228 x229 x230 x231 x232 x233 x234 x235 x236 x237 x238 x239 x240 x241 x242 x243 x244 x245 x246 x247 x248 x249 x250 x251 x252 x253 x254 x255 x256 x257 x258 x259 x260 x261 x262 x263 x264 x265 x266 x267 x268 x269 x270 x271 x272 x273 x274 x275 x276 x277 x278 _ W' ⟨L2, h.1, hG2.out, by omega, h.2.1, h.2.2⟩)
  · have i1 : ¬ ((k : Int) < (l.length : Int)) := by omega
    go_upto_if 84 with fail
    go_cut [8] from 81 to 84 (fun v W' => v = .slice av L.length cv ∧ Hid (Hold w n0 (.slice av L.length cv) L W'))
    case first =>
      go_wp2_with fail
      go_meet
      case rel => exact ⟨rfl, Hh⟩
    case rest =>
      obtain ⟨rfl, hh⟩ := hcut
      refine go_on (by assumption) ?_
      exact roundC Q0 _ _ _ _ _ _ _ _ _ _ _ _ _ _ _ _ _ _ _ _ _ _ _ _ _ _ _ _ _ _ _ _ _ _ _ _ _ _ _ _ _ _ _ _ _ _ _ _ _ _ _ _ _ _ _ _ _ _ _ _ _ _ _ _ _ _ _ _ _ _ _ _ _ _ _ _ _ _ _ _ _ _ _ _ _ _ _ _ _ _ _ _ _ _ _ _ _ _ _ _ _ _ _ _ _ _ _ _ _ _ _ _ _ _ _ _ _ _ _ _ _ _ _ _ _ _ _ _ _ _ _ _ _ _ _ _ _ _ _ _ _ _ _ _ _ _ _ _ _ _ _ _ _ _ _ _ _ _ _ _ _ _ _ _ _ _ _ _ _ _ _ _ _ _ _ _ _ _ _ _ _ _ _ _ _ _ _ _ _ _ _ _ _ _ _ _ _ _ _ _ _ _ _ _ _ _ _ _ _ _ _ _ _ _ _ _ _ _ _ _ _ _ _ _ _ _ _ _ _ _ _ _ _ _ _ _ _ _ _ _ _ _ _ _ _ _ _ _ _ _ _ _ _ _ _ _ _ _ _ _ _ _ _ _ _ _ _ _ _ _ _ _ _ ad bd cd av ca cb cc cv k n0 ts l Q L w _ Hw.out.1 Hw.out.2.2.2.1 Hw.out.2.2.2.2.1 Hw.out.2.2.2.2.2 HG.out hh.out (fun x6 x10 x11 x12 x13 x14 x15 x16 x17 x18 x19 x20 x21 x22 x23 x24 x25 x26 x27 x29 x30 x31 x32 x33 x34 x35 x36 x37 x38 x39 x40 x41 x42 x43 x44 x45 x46 x47 x48 x49 x50 x51 x52 x53 x54 x55 x56 x57 x58 x59 x60 x61 x62 x63 x64 x65 x66 x67 x68 x69 x70 x71 x72 x73 x74 x75 x76 x77 x78 x79 x80 x81 x82 x83 x84 x85 x86 x87 x88 x89 x90 x91 x92 x93 x94 x95 x96 x97 x98 x99 x100 x101 x102 x103 x104 x105 x106 x107 x108 x109 x110 x111 x112 x113 x114 x115 x116 x117 x118 x119 x120 x121 x122 x123 x124 x125 x126 x127 x128 x129 x130 x131 x132 x133 x134 x135 x136 x137 x138 x139 x140 x141 x142 x143 x144 x145 x146 x147 x148 x149 x150 x151 x152 x153 x154 x155 x156 x157 x158 x159 x160 x161 x162 x163 x164 x165 x166 x167 x168 x169 x170 x171 x172 x173 x174 x175 x176 x177 x178 x179 x180 x181 x182 x183 x184 x185 x186 x187 x188 x189 x190 x191 x192 x193 x194 x195 x196 x197 x198 x199 x200 x201 x202 x203 x204 x205 x206 x207 x208 x209 x210 x211 x212 x213 x214 x215 x216 x217 x218 x219 x220 x221 x222 x223 x224 x225 x226 x227 x228 x229 x230 x231 x232 x233 x234 x235 x236 x237 x238 x239 x240 x241 x242 x243 x244 x245 x246 x247 x248 x249 x250 x251 x252 x253 x254 x255 x256 x257 x258 x259 x260 x261 x262 x263 x264 x265 x266 x267 x268 x269 x270 x271 x272 x273 x274 x275 x276 x277 x278 W' h => HQ.out x6 x10 x11 x12 x13 x14 x15 x16 x17 x18 x19 x20 x21 x22 x23 x24 x25 x26 x27 x29 x30 x31 x32 x33 x34 x35 x36 x37 x38 x39 x40 x41 x42 x43 x44 x45 x46 x47 x48 x49 x50 x51 x52 x53 x54 x55 x56 x57 x58 x59 x60 x61 x62 x63 x64 x65 x66 x67 x68 x69 x70 x71 x72 x73 x74 x75 x76 x77 x78 x79 x80 x81 x82 x83 x84 x85 x86 x87 x88 x89 x90 x91 x92 x93 x94 x95 x96 x97 x98 x99 x100 x101 x102 x103 x104 x105 x106 x107 x108 x109 x110 x111 x112 x113 x114 x115 x116 x117 x118 x119 x120 x121 x122 x123 x124 x125 x126 x127 x128 x129 x130 x131 x132 x133 x134 x135 x136 x137 x138 x139 x140 x141 x142 x143 x144 x145 x146 x147 x148 x149 x150 x151 x152 x153 x154 x155 x156 x157 x158 x159 x160 x161 x162 x163 x164 x165 x166 x167 x168 x169 x170 x171 x172 x173 x174 x175 x176 x177 x178 x179 x180 x181 x182 x183 x184 x185 x186 x187 x188 x189 x190 x191 x192 x193 x194 x195 x196 x197 x198 x199 x200 x201 x202 x203 x204 x205 x206 x207 x208 x209 x210 x211 x212 x213 x214 x215 x216 x217 x218 x219 x220 x221 x222 x223 x224 x225 x226 x227 x228 x229 x230 x231 x232 x233 x234 x235 x236 x237 x238 x239 x240 x241 x242 x243 x244 x245 x246 x247 x248 x249 x250 x251 x252 x253 x254 x255 x256 x257 x258 x259 x260 x261 x262 x263 x264 x265 x266 x267 x268 x269 x270 x271 x272 x273 x274 x275 x276 x277 x278 _ W' ⟨L, h.1, HG.out, by omega, h.2.1, h.2.2⟩)
end Go.Proofs.YtkeholipklfnbacDoor
