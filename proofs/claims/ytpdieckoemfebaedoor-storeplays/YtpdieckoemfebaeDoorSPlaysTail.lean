/- StorePlays' round, its last part: what both stores answer is compared. -/
import Derived.Test.YtpdieckoemfebaeDoorSPlaysEnd
import Derived.OwnWalk
import Derived.Deep.DeepCutAuto
import Derived.Deep.CutBlock
namespace Go.Proofs.YtpdieckoemfebaeDoor
open Go Go.RowKit Go.Proofs
set_option synthInstance.maxSize 1000

set_option maxHeartbeats 32000000 in
set_option maxRecDepth 1000000 in
theorem splaysTail (F : Face) (Q0 : Exit → Act → World → Prop) (u11 u14 u15 u16 u17 u18 u19 u20 u21 u22 u23 u24 u25 u26 u27 u28 u29 u30 u31 u32 u33 u45 u46 u47 u48 u49 u50 u51 u52 u53 u54 u55 u56 u57 u58 u59 u60 u61 u62 u63 u64 u65 u66 u67 u68 u69 u70 u71 u72 u73 u74 u75 u76 u77 u78 u79 u80 u81 u82 u83 u84 u85 u86 u87 u88 u89 u90 u91 u92 u93 u94 u95 u96 u97 u98 u99 u100 u101 u102 u103 u104 u105 u106 u107 u108 u109 u110 u111 u112 u113 u114 u115 u116 u117 u118 u119 u120 u121 u122 u123 u124 u125 u126 u127 u128 u129 u130 u131 u132 u133 u134 u135 u136 u137 u138 u139 u140 u141 u142 u143 u144 u145 u146 u147 u148 u149 u150 u151 u152 u153 u154 u155 u156 u157 u158 u159 u160 u161 u162 u163 u164 u165 u166 u167 u168 u169 u170 u171 u172 u173 u174 u175 u176 u177 u178 u179 u180 u181 u182 u183 u184 u185 u186 u187 u188 u189 u190 u191 u192 u193 u194 u195 u196 u197 u198 u199 u200 u201 u202 u203 u204 u205 u206 u207 u208 u209 u210 u211 u212 u213 u214 u215 u216 u217 u218 u219 u220 u221 u222 u223 u224 u225 u226 u227 u228 u229 u230 u231 u232 u233 u234 u235 u236 u237 u238 : Value) (c3 c4 c5 c6 c34 c35 c36 c37 c38 c39 c40 c41 c42 c43 c44 : Value) (qd od ld : Option Addr) (cq co cl nq no nl k0 s m bv n : Nat) (L : List Ob) (b : List UInt8) (x y : Int) (w W : World)
    (hg : errVar w) (hG : GoodO n L) (hb : b.length ≤ F.lim) (hst : PS F w s m bv x y n L n L W)
    (hQ : ∀ (x10 x11 x12 x13 x14 x15 x16 x17 x18 x19 x20 x21 x22 x23 x24 x25 x26 x27 x28 x29 x30 x31 x32 x33 x45 x46 x47 x48 x49 x50 x51 x52 x53 x54 x55 x56 x57 x58 x59 x60 x61 x62 x63 x64 x65 x66 x67 x68 x69 x70 x71 x72 x73 x74 x75 x76 x77 x78 x79 x80 x81 x82 x83 x84 x85 x86 x87 x88 x89 x90 x91 x92 x93 x94 x95 x96 x97 x98 x99 x100 x101 x102 x103 x104 x105 x106 x107 x108 x109 x110 x111 x112 x113 x114 x115 x116 x117 x118 x119 x120 x121 x122 x123 x124 x125 x126 x127 x128 x129 x130 x131 x132 x133 x134 x135 x136 x137 x138 x139 x140 x141 x142 x143 x144 x145 x146 x147 x148 x149 x150 x151 x152 x153 x154 x155 x156 x157 x158 x159 x160 x161 x162 x163 x164 x165 x166 x167 x168 x169 x170 x171 x172 x173 x174 x175 x176 x177 x178 x179 x180 x181 x182 x183 x184 x185 x186 x187 x188 x189 x190 x191 x192 x193 x194 x195 x196 x197 x198 x199 x200 x201 x202 x203 x204 x205 x206 x207 x208 x209 x210 x211 x212 x213 x214 x215 x216 x217 x218 x219 x220 x221 x222 x223 x224 x225 x226 x227 x228 x229 x230 x231 x232 x233 x234 x235 x236 x237 x238 : Value) (W' : World), PB F w s m n L W' → Q0 .normal ⟨#[.slice qd nq cq, .slice od no co, .slice ld nl cl, c3, c4, c5, c6, .pointer (some ⟨s, 0, none⟩), .pointer (some ⟨m, 0, none⟩), .int .i64 (k0 : Int), x10, x11, x12, x13, x14, x15, x16, x17, x18, x19, x20, x21, x22, x23, x24, x25, x26, x27, x28, x29, x30, x31, x32, x33, c34, c35, c36, c37, c38, c39, c40, c41, c42, c43, c44, x45, x46, x47, x48, x49, x50, x51, x52, x53, x54, x55, x56, x57, x58, x59, x60, x61, x62, x63, x64, x65, x66, x67, x68, x69, x70, x71, x72, x73, x74, x75, x76, x77, x78, x79, x80, x81, x82, x83, x84, x85, x86, x87, x88, x89, x90, x91, x92, x93, x94, x95, x96, x97, x98, x99, x100, x101, x102, x103, x104, x105, x106, x107, x108, x109, x110, x111, x112, x113, x114, x115, x116, x117, x118, x119, x120, x121, x122, x123, x124, x125, x126, x127, x128, x129, x130, x131, x132, x133, x134, x135, x136, x137, x138, x139, x140, x141, x142, x143, x144, x145, x146, x147, x148, x149, x150, x151, x152, x153, x154, x155, x156, x157, x158, x159, x160, x161, x162, x163, x164, x165, x166, x167, x168, x169, x170, x171, x172, x173, x174, x175, x176, x177, x178, x179, x180, x181, x182, x183, x184, x185, x186, x187, x188, x189, x190, x191, x192, x193, x194, x195, x196, x197, x198, x199, x200, x201, x202, x203, x204, x205, x206, x207, x208, x209, x210, x211, x212, x213, x214, x215, x216, x217, x218, x219, x220, x221, x222, x223, x224, x225, x226, x227, x228, x229, x230, x231, x232, x233, x234, x235, x236, x237, x238], []⟩ W') :
    Code.wp Tryd.prog (codeOf Tryd.f4.body 32) Q0 ⟨#[.slice qd nq cq, .slice od no co, .slice ld nl cl, c3, c4, c5, c6, .pointer (some ⟨s, 0, none⟩), .pointer (some ⟨m, 0, none⟩), .int .i64 (k0 : Int), .pointer (some ⟨bv, 0, none⟩), u11, .string ⟨b.toArray⟩, .bool true, u14, u15, u16, u17, u18, u19, u20, u21, u22, u23, u24, u25, u26, u27, u28, u29, u30, u31, u32, u33, c34, c35, c36, c37, c38, c39, c40, c41, c42, c43, c44, u45, u46, u47, u48, u49, u50, u51, u52, u53, u54, u55, u56, u57, u58, u59, u60, u61, u62, u63, u64, u65, u66, u67, u68, u69, u70, u71, u72, u73, u74, u75, u76, u77, u78, u79, u80, u81, u82, u83, u84, u85, u86, u87, u88, u89, u90, u91, u92, u93, u94, u95, u96, u97, u98, u99, u100, u101, u102, u103, u104, u105, u106, u107, u108, u109, u110, u111, u112, u113, u114, u115, u116, u117, u118, u119, u120, u121, u122, u123, u124, u125, u126, u127, u128, u129, u130, u131, u132, u133, u134, u135, u136, u137, u138, u139, u140, u141, u142, u143, u144, u145, u146, u147, u148, u149, u150, u151, u152, u153, u154, u155, u156, u157, u158, u159, u160, u161, u162, u163, u164, u165, u166, u167, u168, u169, u170, u171, u172, u173, u174, u175, u176, u177, u178, u179, u180, u181, u182, u183, u184, u185, u186, u187, u188, u189, u190, u191, u192, u193, u194, u195, u196, u197, u198, u199, u200, u201, u202, u203, u204, u205, u206, u207, u208, u209, u210, u211, u212, u213, u214, u215, u216, u217, u218, u219, u220, u221, u222, u223, u224, u225, u226, u227, u228, u229, u230, u231, u232, u233, u234, u235, u236, u237, u238], []⟩ W := by
  have HQ : Hid _ := hQ
  have HG := hideO hG
  have hL1 : L.length ≤ 1000 := by have := hG.len; omega
  have Hst : Hid (PS F w s m bv x y n L n L W) := hst
  obtain ⟨y0, y1⟩ := hst.num
  have HRG := fun W (h : PS F w s m bv x y n L n L W) => h.rget y hL1
  have HSG := fun W (h : PS F w s m bv x y n L n L W) => h.get y hG
  have HRF := fun W (h : PS F w s m bv x y n L n L W) => h.rfind b hL1
  have HSF := fun W (h : PS F w s m bv x y n L n L W) => h.find b hG hb
  have HSL := fun W (h : PS F w s m bv x y n L n L W) => h.len hG
  have HSI := fun W (h : PS F w s m bv x y n L n L W) => h.ids hG
  have HE := fun e W (h : PS F w s m bv x y n L n L W) => SameErrorO e W (hg.below h.low)
  have HI := fun a b' ca cb W h1 h2 => SameIdsO L a b' ca cb W h1 h2 hL1
  have HFE : Hid (∀ z, findO L b = z → findE L b = if z = 0 then 5 else 0) := fun z hz => by unfold findE; rw [hz]
  have HFE := hideO (HFE.out _ rfl)
  obtain ⟨i0', hi0, hz0, hz1, hz2⟩ := info_parts infoZ
  clear hQ hg hG hb hst y0
  generalize getE L y = GE at *
  generalize getB L y = GB at *
  generalize findE L b = FE at *
  generalize findO L b = FO at *
  conv => arg 2; whnf
  go_wp2_with fail
  refine (HRG _ Hst.out).mono ?_
  rintro e w1 ⟨rfl, hw1⟩
  obtain rfl : W = w1 := hw1.symm
  dsimp only
  go_wp2_with fail
  refine (HSG _ Hst.out).mono ?_
  rintro e w2 ⟨rfl, hst2⟩
  have Hst2 : Hid (PS F w s m bv x y n L n L w2) := hst2
  clear hst2 hw1 y1
  dsimp only
  go_wp2_with fail
  refine (HE GE _ Hst2.out).mono ?_
  rintro e w3 ⟨rfl, hb3⟩
  have Hst3 : Hid (PS F w s m bv x y n L n L w3) := Hst2.out.below hb3
  clear hb3
  dsimp only
  go_wp2_with fail
  refine (HRF _ Hst3.out).mono ?_
  rintro e w4 ⟨rfl, hw4⟩
  obtain rfl : w3 = w4 := hw4.symm
  clear hw4
  dsimp only
  cases hf : (FO == 0)
  · have hFE : FE = 0 := by rw [HFE.out, if_neg (by simpa using hf)]
    have hf' : ¬ FO = 0 := by simpa using hf
    have hf2 : ((FO : Int) == 0) = false := by simpa using hf'
    rw [hFE] at HSF
    have E0 := fun W h => HE 0 W h
    clear hf hFE HFE
    go_wp2_with fail
    refine (HSF _ Hst3.out).mono ?_
    rintro e w5 ⟨rfl, hst5⟩
    have Hst5 : Hid (PS F w s m bv x y n L n L w5) := hst5
    clear hst5
    dsimp only
    go_wp2_with fail
    refine (E0 _ Hst5.out).mono ?_
    rintro e w6 ⟨rfl, hb6⟩
    have Hst6 : Hid (PS F w s m bv x y n L n L w6) := Hst5.out.below hb6
    clear hb6
    dsimp only
    go_wp2_with fail
    go_loopw [31, 32] (fun l j wr => ∃ (k : Nat), k ≤ L.length ∧ j = .int .i64 k ∧ Hid (wr.ownsRow w6.heap.size 3 1 l k (cellsZ (idsO (L.take k)))) ∧ Hid (RowKit.Below w6.heap.size w6 wr)) (fun _ j wr => L.length - (intOf j).toNat)
    case atStart => exact ⟨0, by omega, rfl, World.ownsRow_nil _ _ _ _, RowKit.Below.refl _ _⟩
    case round =>
      obtain ⟨k, hk, rfl, ho, hbw⟩ := hrel
      have HstR : Hid (PS F w s m bv x y n L n L wr) := Hst6.out.below hbw.out
      obtain ⟨ad, cap, t1, hat⟩ := HstR.out.list
      by_cases hlt : k < L.length
      · obtain ⟨g, rfl, c0⟩ := hat k hlt
        have i0 : (0 : Int) ≤ (k : Int) := by omega
        have i1 : (k : Int) < (L.length : Int) := by omega
        have hit := hideO (idsO_take hlt)
        clear hat
        generalize (L[k].1 : Int) = z at *
        go_wp2_with (at_builtin; refine wpList_append_own _ rfl _ _ 41 rfl w6.heap.size 3 i0' (.int .i64 0) 1 8 Tryd.underlying41 hi0 hz0 hz1 hz2 rfl (by decide) _ _ _ rfl (ho.out.alloc _) ⟨wr.heap.size, 0, none⟩ 1 1 [.int .i64 z] rfl rfl ?c1 (by simp [Value.oneCell']) (by unfold maxLen; omega) (by omega) (by have := hbw.out.size; simp; omega) ?_)
        case c1 =>
          intro j u hu
          have hj : j < 1 := by have := (List.getElem?_eq_some_iff.1 hu).1; simpa using this
          obtain rfl : j = 0 := by omega
          rw [Addr.add_lit]
          simp at hu; subst hu; go_simp
        intro v' w7 h2 h3 _
        have hb7 : Hid (RowKit.Below w6.heap.size w6 w7) := (hbw.out.trans ((balloc wr _).mono hbw.out.size)).grown h3 (by have := hbw.out.size; simp; omega) (fun j hj => (ho.out.lt j hj).1)
        have ho7 : Hid (w7.ownsRow w6.heap.size 3 1 v' (k + 1) (cellsZ (idsO (L.take (k + 1))))) := by
          show World.ownsRow _ _ _ _ _ _ _
          rw [hit.out]
          simpa [cellsZ] using h2
        clear h2 h3
        go_wp2_with fail
        go_roundw
        case rel => first | exact ⟨k + 1, by omega, by go_num, ho7, hb7⟩ | ((repeat apply Exists.intro); exact ⟨by omega, by go_num, ho7, hb7⟩)
        case measure => simp [intOf]; omega
      · obtain rfl : k = L.length := by omega
        rw [List.take_length] at ho
        obtain ⟨ad2, cap2, hv, hsl⟩ := ownZ_sl ho.out (idsO_len L)
        subst hv
        have Hsl : Hid (SlI wr ad2 (idsO L)) := hsl
        clear hat hsl ho hk hlt
        go_wp2_with fail
        refine (HSI _ HstR.out).mono ?_
        rintro e w8 ⟨a8, c8', rfl, hs8, hb8⟩
        have Hst8 : Hid (PS F w s m bv x y n L n L w8) := HstR.out.below hb8
        have Hs8 : Hid (SlI w8 a8 (idsO L)) := hs8
        have Hsl8 : Hid (SlI w8 ad2 (idsO L)) := Hsl.out.below hb8
        clear hs8 hb8
        dsimp only
        go_wp2_with fail
        refine (HI _ _ _ _ _ Hs8.out Hsl8.out).mono ?_
        rintro e w9 ⟨rfl, hb9⟩
        have Hst9 : Hid (PS F w s m bv x y n L n L w9) := Hst8.out.below hb9
        clear hb9 t1
        dsimp only
        go_upto_region 47 with fail
        refine splaysEnd F _ _ _ _ _ _ _ _ _ _ _ _ _ _ _ _ _ _ _ _ _ _ _ _ _ _ _ _ _ _ _ _ _ _ _ _ _ _ _ _ _ _ _ _ _ _ _ _ _ _ _ _ _ _ _ _ _ _ _ _ _ _ _ _ _ _ _ _ _ _ _ _ _ _ _ _ _ _ _ _ _ _ _ _ _ _ _ _ _ _ _ _ _ _ _ _ _ _ _ _ _ _ _ _ _ _ _ _ _ _ _ _ _ _ _ _ _ _ _ _ _ _ _ _ _ _ _ _ _ _ _ _ _ _ _ _ _ _ _ _ _ _ _ _ _ _ _ _ _ _ _ _ _ _ _ _ _ _ _ _ _ _ _ _ _ _ _ _ _ _ _ _ _ _ _ _ _ _ _ _ _ _ _ _ _ _ _ _ _ _ _ _ _ _ _ _ _ _ _ _ _ _ _ _ _ _ _ _ _ _ _ _ _ _ _ _ _ _ _ _ _ _ _ _ qd od ld cq co cl nq no nl k0 s m bv n L b x y w w9 GB _ HG.out Hst9.out ?_
        intros
        rename_i W' hB'
        go_wp2_with fail
        apply HQ.out
        exact hB'
  · have hf' : Hid (FO = 0) := by show _ = _; simpa using hf
    have hFE : FE = 5 := by rw [HFE.out, if_pos hf'.out]
    have hf2 : ((FO : Int) == 0) = true := by simpa using hf'.out
    rw [hFE] at HSF
    have E0 := fun W h => HE 5 W h
    clear hFE HFE
    go_wp2_with fail
    refine (HSF _ Hst3.out).mono ?_
    rintro e w5 ⟨rfl, hst5⟩
    have Hst5 : Hid (PS F w s m bv x y n L n L w5) := hst5
    clear hst5
    dsimp only
    go_wp2_with fail
    refine (E0 _ Hst5.out).mono ?_
    rintro e w6 ⟨rfl, hb6⟩
    have Hst6 : Hid (PS F w s m bv x y n L n L w6) := Hst5.out.below hb6
    clear hb6
    dsimp only
    go_wp2_with fail
    go_loopw [31, 32] (fun l j wr => ∃ (k : Nat), k ≤ L.length ∧ j = .int .i64 k ∧ Hid (wr.ownsRow w6.heap.size 3 1 l k (cellsZ (idsO (L.take k)))) ∧ Hid (RowKit.Below w6.heap.size w6 wr)) (fun _ j wr => L.length - (intOf j).toNat)
    case atStart => exact ⟨0, by omega, rfl, World.ownsRow_nil _ _ _ _, RowKit.Below.refl _ _⟩
    case round =>
      obtain ⟨k, hk, rfl, ho, hbw⟩ := hrel
      have HstR : Hid (PS F w s m bv x y n L n L wr) := Hst6.out.below hbw.out
      obtain ⟨ad, cap, t1, hat⟩ := HstR.out.list
      by_cases hlt : k < L.length
      · obtain ⟨g, rfl, c0⟩ := hat k hlt
        have i0 : (0 : Int) ≤ (k : Int) := by omega
        have i1 : (k : Int) < (L.length : Int) := by omega
        have hit := hideO (idsO_take hlt)
        clear hat
        generalize (L[k].1 : Int) = z at *
        go_wp2_with (at_builtin; refine wpList_append_own _ rfl _ _ 41 rfl w6.heap.size 3 i0' (.int .i64 0) 1 8 Tryd.underlying41 hi0 hz0 hz1 hz2 rfl (by decide) _ _ _ rfl (ho.out.alloc _) ⟨wr.heap.size, 0, none⟩ 1 1 [.int .i64 z] rfl rfl ?c1 (by simp [Value.oneCell']) (by unfold maxLen; omega) (by omega) (by have := hbw.out.size; simp; omega) ?_)
        case c1 =>
          intro j u hu
          have hj : j < 1 := by have := (List.getElem?_eq_some_iff.1 hu).1; simpa using this
          obtain rfl : j = 0 := by omega
          rw [Addr.add_lit]
          simp at hu; subst hu; go_simp
        intro v' w7 h2 h3 _
        have hb7 : Hid (RowKit.Below w6.heap.size w6 w7) := (hbw.out.trans ((balloc wr _).mono hbw.out.size)).grown h3 (by have := hbw.out.size; simp; omega) (fun j hj => (ho.out.lt j hj).1)
        have ho7 : Hid (w7.ownsRow w6.heap.size 3 1 v' (k + 1) (cellsZ (idsO (L.take (k + 1))))) := by
          show World.ownsRow _ _ _ _ _ _ _
          rw [hit.out]
          simpa [cellsZ] using h2
        clear h2 h3
        go_wp2_with fail
        go_roundw
        case rel => first | exact ⟨k + 1, by omega, by go_num, ho7, hb7⟩ | ((repeat apply Exists.intro); exact ⟨by omega, by go_num, ho7, hb7⟩)
        case measure => simp [intOf]; omega
      · obtain rfl : k = L.length := by omega
        rw [List.take_length] at ho
        obtain ⟨ad2, cap2, hv, hsl⟩ := ownZ_sl ho.out (idsO_len L)
        subst hv
        have Hsl : Hid (SlI wr ad2 (idsO L)) := hsl
        clear hat hsl ho hk hlt
        go_wp2_with fail
        refine (HSI _ HstR.out).mono ?_
        rintro e w8 ⟨a8, c8', rfl, hs8, hb8⟩
        have Hst8 : Hid (PS F w s m bv x y n L n L w8) := HstR.out.below hb8
        have Hs8 : Hid (SlI w8 a8 (idsO L)) := hs8
        have Hsl8 : Hid (SlI w8 ad2 (idsO L)) := Hsl.out.below hb8
        clear hs8 hb8
        dsimp only
        go_wp2_with fail
        refine (HI _ _ _ _ _ Hs8.out Hsl8.out).mono ?_
        rintro e w9 ⟨rfl, hb9⟩
        have Hst9 : Hid (PS F w s m bv x y n L n L w9) := Hst8.out.below hb9
        clear hb9 t1
        dsimp only
        go_upto_region 47 with fail
        refine splaysEnd F _ _ _ _ _ _ _ _ _ _ _ _ _ _ _ _ _ _ _ _ _ _ _ _ _ _ _ _ _ _ _ _ _ _ _ _ _ _ _ _ _ _ _ _ _ _ _ _ _ _ _ _ _ _ _ _ _ _ _ _ _ _ _ _ _ _ _ _ _ _ _ _ _ _ _ _ _ _ _ _ _ _ _ _ _ _ _ _ _ _ _ _ _ _ _ _ _ _ _ _ _ _ _ _ _ _ _ _ _ _ _ _ _ _ _ _ _ _ _ _ _ _ _ _ _ _ _ _ _ _ _ _ _ _ _ _ _ _ _ _ _ _ _ _ _ _ _ _ _ _ _ _ _ _ _ _ _ _ _ _ _ _ _ _ _ _ _ _ _ _ _ _ _ _ _ _ _ _ _ _ _ _ _ _ _ _ _ _ _ _ _ _ _ _ _ _ _ _ _ _ _ _ _ _ _ _ _ _ _ _ _ _ _ _ _ _ _ _ _ _ _ _ _ _ qd od ld cq co cl nq no nl k0 s m bv n L b x y w w9 GB _ HG.out Hst9.out ?_
        intros
        rename_i W' hB'
        go_wp2_with fail
        apply HQ.out
        exact hB'

end Go.Proofs.YtpdieckoemfebaeDoor
