import Derived.Test.YtjlifccaoncfcaaMA0x0
import Derived.Deep.RegionLaw
import Derived.Test.YtjlifccaoncfcaaRows
import Derived.WalkKit
import Derived.Deep.DeepCutAuto
import Derived.Deep.RegionHeld3
import Derived.Deep.CutBlock
import Derived.OwnWalk

/- Who is above is above: what DagHolds and DagLine ask, in plain words. -/
namespace Go.Proofs.Ytjlifccaoncfcaa
open Go Go.RowKit Go.Proofs
set_option synthInstance.maxSize 1000

theorem Up.trans {l : List Cm} {i c k : Nat} (h : Up l i c) (h2 : Up l c k) : Up l i k := fun S h1 hS => h2 S (h S h1 hS) hS
/-- a commit's ancestors are itself and its parents' -/
theorem up_split {l : List Cm} {i k : Nat} : Up l i k ↔ k = i ∨ ∃ p : Nat, (p : Int) ∈ parsOf l i ∧ Up l p k := by
  constructor
  · intro h
    refine h (fun k => k = i ∨ ∃ p : Nat, (p : Int) ∈ parsOf l i ∧ Up l p k) (Or.inl rfl) ?_
    rintro c p (rfl | ⟨q, hq, hu⟩) hp
    · exact Or.inr ⟨p, hp, Up.refl l p⟩
    · exact Or.inr ⟨q, hq, hu.step hp⟩
  · rintro (rfl | ⟨p, hp, hu⟩)
    · exact Up.refl l _
    · exact ((Up.refl l i).step hp).trans hu
theorem isBase_turn {l : List Cm} {a b z : Nat} : isBase l a b z ↔ isBase l b a z :=
  ⟨fun ⟨h1, h2, h3⟩ => ⟨h2, h1, fun c q1 q2 => h3 c q2 q1⟩, fun ⟨h1, h2, h3⟩ => ⟨h2, h1, fun c q1 q2 => h3 c q2 q1⟩⟩
theorem base_turn {l : List Cm} {a b : Nat} {m q : List Nat} (h : baseP l a b m) (k : baseP l b a q) : q = m :=
  rise_unique k.1 h.1 fun z => ((k.2 z).trans isBase_turn).trans (h.2 z).symm
/-- of two bases none is above the other one -/
theorem base_apart {l : List Cm} {a b : Nat} {m : List Nat} (h : baseP l a b m) {y z : Nat} (hy : y ∈ m) (hz : z ∈ m) : Up l z y ↔ y = z := by
  constructor
  · intro hu
    refine Classical.byContradiction fun hne => ?_
    obtain ⟨_, _, h3⟩ := (h.2 y).1 hy
    obtain ⟨k1, k2, _⟩ := (h.2 z).1 hz
    exact h3 z k1 k2 (fun e => hne e.symm) hu
  · rintro rfl
    exact Up.refl l y
theorem rise_single {m : List Nat} {a : Nat} (hm : RiseN m) (h : ∀ z, z ∈ m ↔ z = a) : m = [a] :=
  rise_unique hm (by simp [RiseN]) fun z => by rw [h z]; simp
/-- of two on one line the elder one is the base -/
theorem base_line {l : List Cm} {a b : Nat} {m : List Nat} (hG : GoodC l) (ha : a < l.length) (h : baseP l a b m) (hu : Up l b a) : m = [a] := by
  refine rise_single h.1 fun z => ?_
  rw [h.2 z]
  constructor
  · rintro ⟨h1, h2, h3⟩
    refine Classical.byContradiction fun hne => ?_
    exact h3 a (Up.refl l a) hu (fun e => hne e.symm) h1
  · rintro rfl
    refine ⟨Up.refl l _, hu, fun c h1 _ hne hu2 => ?_⟩
    have q1 := up_le hG ha h1
    have q2 := up_le hG q1.2 hu2
    omega
theorem base_in {l : List Cm} {a b : Nat} {m : List Nat} (hG : GoodC l) (ha : a < l.length) (h : baseP l a b m) {z : Nat} (hz : z ∈ m) : z < l.length ∧ Up l a z ∧ Up l b z := by
  obtain ⟨h1, h2, _⟩ := (h.2 z).1 hz
  exact ⟨(up_le hG ha h1).2, h1, h2⟩
/-- three commits: two of one -/
def onesC : List Cm := [([], 1, []), ([0], 1, []), ([0], 1, [])]
theorem ones_coms : comsN onesC = (0, 0) := by decide
theorem ones_good : GoodC onesC := coms_good.1 (by rw [ones_coms])
theorem ones_up {i k : Nat} (hi : i = 1 ∨ i = 2) : Up onesC i k ↔ k = i ∨ k = 0 := by
  rw [up_split]
  constructor
  · rintro (rfl | ⟨p, hp, hu⟩)
    · exact Or.inl rfl
    · have h0 : p = 0 := by
        rcases hi with rfl | rfl
        · simp [parsOf, onesC] at hp; omega
        · simp [parsOf, onesC] at hp; omega
      subst h0
      exact Or.inr (by have := up_le ones_good (i := 0) (by decide) hu; omega)
  · rintro (rfl | rfl)
    · exact Or.inl rfl
    · refine Or.inr ⟨0, ?_, Up.refl _ _⟩
      rcases hi with rfl | rfl <;> simp [parsOf, onesC]
theorem ones_base {m : List Nat} (h : baseP onesC 1 2 m) : m = [0] := by
  refine rise_single h.1 fun z => ?_
  rw [h.2 z]
  constructor
  · rintro ⟨h1, h2, _⟩
    rw [ones_up (Or.inl rfl)] at h1
    rw [ones_up (Or.inr rfl)] at h2
    omega
  · rintro rfl
    refine ⟨(ones_up (Or.inl rfl)).2 (Or.inr rfl), (ones_up (Or.inr rfl)).2 (Or.inr rfl), fun c h1 h2 hne hu => ?_⟩
    rw [ones_up (Or.inl rfl)] at h1
    rw [ones_up (Or.inr rfl)] at h2
    omega
end Go.Proofs.Ytjlifccaoncfcaa

/- stratasame.Ints: whether two lists of numbers are the same. -/
namespace Go.Proofs.Ytjlifccaoncfcaa
open Go Go.RowKit Go.Proofs
set_option synthInstance.maxSize 1000

set_option maxHeartbeats 2000000 in
set_option maxRecDepth 100000 in
theorem SameInts_any (ad bd : Option Addr) (ca cb : Nat) (l m : List Int) (w : World) (hl : SlI w ad l) (hm : SlI w bd m) (h200 : l.length ≤ 1000000) (h200' : m.length ≤ 1000000) :
    Calls Try.prog 9 #[.slice ad l.length ca, .slice bd m.length cb] w fun e w' => e = .returned (.bool (decide (l = m))) ∧ RowKit.Below w.heap.size w w' := by
  have Hl := hideO hl
  have Hm := hideO hm
  clear hl hm
  by_cases hlen : l.length = m.length
  · have hd : ((l.length : Int) != (m.length : Int)) = false := by simp [hlen]
    have Hlen := hideO hlen
    clear hlen
    go_enter Try.func9, Try.ntmps9
    go_wp2_with fail
    go_loopw [5] (fun i wr => ∃ (k q : Nat), k ≤ l.length ∧ i = .int .i64 k ∧ wr = w.drewN q ∧ Hid (l.take k = m.take k)) (fun i wr => l.length - (intOf i).toNat)
    case atStart => exact ⟨0, 0, by omega, rfl, rfl, rfl⟩
    case round =>
      obtain ⟨k, q, hk, rfl, rfl, hs⟩ := hrel
      by_cases hlt : k < l.length
      · have hlt' : k < m.length := by have := Hlen.out; omega
        obtain ⟨b, o, rfl, c0⟩ := Hl.out.at hlt
        obtain ⟨b', o', rfl, d0⟩ := Hm.out.at hlt'
        have i0 : (0 : Int) ≤ (k : Int) := by omega
        have i1 : (k : Int) < (l.length : Int) := by omega
        have i2 : (k : Int) < (m.length : Int) := by omega
        have hs' : Hid (l[k] = m[k] → l.take (k + 1) = m.take (k + 1)) := by
          show _ → _
          intro e
          rw [List.take_succ_eq_append_getElem hlt, List.take_succ_eq_append_getElem hlt', hs.out, e]
        have hn : Hid (¬ l[k] = m[k] → ¬ l = m) := by
          show _ → _
          intro h1 h2
          subst h2
          exact h1 rfl
        by_cases he : l[k] = m[k]
        · have hd2 : (l[k] != m[k]) = false := by simpa using he
          have He := hideO he
          clear he
          go_wp2_with fail
          go_region
          go_wp2
          exact ⟨⟨k + 1, q + 1, by omega, by go_num, rfl, hs'.out He.out⟩, by simp [intOf]; omega⟩
        · have hd2 : (l[k] != m[k]) = true := by simpa using he
          have He := hideO he
          clear he
          go_wp2_with fail
          go_region
          go_wp2
          go_ret
          refine ⟨ret_bool ?_, bdO _ _⟩
          have := hn.out He.out
          simp [this]
      · have hke : k = l.length := by omega
        go_wp2
        go_ret
        refine ⟨ret_bool ?_, bdO _ _⟩
        have : l = m := by
          have h1 := hs.out
          have h2 := Hlen.out
          rw [hke, List.take_length, h2, List.take_length] at h1
          exact h1
        simp [this]
  · have hd : ((l.length : Int) != (m.length : Int)) = true := by simp; omega
    have hne : Hid (¬ l = m) := by
      show ¬ _
      rintro rfl
      exact hlen rfl
    clear hlen
    go_enter Try.func9, Try.ntmps9
    go_wp2
    go_ret
    refine ⟨ret_bool ?_, RowKit.Below.refl _ _⟩
    have := hne.out
    simp [this]
end Go.Proofs.Ytjlifccaoncfcaa

/- stratasame.Ints at numbers that are the same. -/
namespace Go.Proofs.Ytjlifccaoncfcaa
open Go Go.RowKit Go.Proofs
set_option synthInstance.maxSize 1000

theorem SameNat (ad bd : Option Addr) (ca cb : Nat) (m q : List Nat) (w : World) (hl : SlI w ad (natI m)) (hm : SlI w bd (natI q)) (h : m = q) (hz : m.length ≤ 60) :
    Calls Try.prog 9 #[.slice ad m.length ca, .slice bd q.length cb] w fun e w' => e = .returned (.bool true) ∧ RowKit.Below w.heap.size w w' := by
  subst h
  have := SameInts_any ad bd ca cb (natI m) (natI m) w hl hm (by rw [natI_len]; omega) (by rw [natI_len]; omega)
  rw [natI_len, decide_eq_true rfl] at this
  exact this
theorem errV_zero : errV 0 = .nilIface := rfl
theorem errV_some {f : Int} (h : f ≠ 0) : errV f = .iface 44 (.int .i64 f) := by unfold errV; rw [if_neg h]
end Go.Proofs.Ytjlifccaoncfcaa

/- A law's code, in pieces. -/
namespace Go.Proofs.Ytjlifccaoncfcaa
open Go Go.Proofs

/-- the first region of a piece of code, and the piece that begins with one -/
def leftmost : Code → Option Nat
  | .region n _ _ => some n
  | .seq a _ => leftmost a
  | .block _ c => leftmost c
  | .loop c => leftmost c
  | .scope c => leftmost c
  | _ => none
def findAt (n : Nat) : Code → Option Code
  | .region m o b => if m = n then some (.region m o b) else none
  | .seq a b => if leftmost a = some n then some (.seq a b) else match findAt n a with
    | some c => some c
    | none => findAt n b
  | .block m c => if leftmost c = some n then some (.block m c) else findAt n c
  | .loop c => if leftmost c = some n then some (.loop c) else findAt n c
  | .scope c => if leftmost c = some n then some (.scope c) else findAt n c
  | .cond _ a b => match findAt n a with
    | some c => some c
    | none => findAt n b
  | _ => none
def codeOf (b : Option Code) (n : Nat) : Code := ((b.bind (findAt n)).getD .skip)
/-- a region alone -/
def regAt (n : Nat) : Code → Option Code
  | .region m o b => if m = n then some (.region m o b) else none
  | .seq a b => match regAt n a with
    | some c => some c
    | none => regAt n b
  | .block _ c => regAt n c
  | .loop c => regAt n c
  | .scope c => regAt n c
  | .cond _ a b => match regAt n a with
    | some c => some c
    | none => regAt n b
  | _ => none
def regOf (b : Option Code) (n : Nat) : Code := ((b.bind (regAt n)).getD .skip)
theorem go_on {P : Program} {c : Code} {Q0 : Exit → Act → World → Prop} {K : Act → World → Prop} {a : Act} {w : World} (h : ∀ a w, Code.wp P c Q0 a w → K a w) (hc : Code.wp P c Q0 a w) : K a w := h a w hc
end Go.Proofs.Ytjlifccaoncfcaa

/- DagHolds, its tail: two on one line have the elder one; either way round the same. -/
namespace Go.Proofs.Ytjlifccaoncfcaa
open Go Go.RowKit Go.Proofs
set_option synthInstance.maxSize 1000

def HoldAns (w : World) (e : Ending) (w' : World) : Prop := e = .returned (.bool true) ∧ RowKit.Below w.heap.size w w'
theorem two_good {l : List Cm} (hG : GoodC l) {i j : Nat} (hi : i < l.length) (hj : j < l.length) : twoE l (i : Int) (j : Int) = 0 :=
  twoE_zero.2 ⟨ancE_good hG (by omega) (by omega), ancE_good hG (by omega) (by omega)⟩
theorem SlI.natD {W : World} {ad : Option Addr} {m : List Nat} (h : SlI W ad (natI m)) {k : Nat} (hk : k < m.length) : ∃ b o, ad = some ⟨b, o, none⟩ ∧ W.cell? ⟨b, o + k, none⟩ = some (.int .i64 ((m.getD k 0 : Nat) : Int)) := by
  obtain ⟨b, o, e, h1⟩ := h.at (j := k) (by simpa [natI] using hk)
  refine ⟨b, o, e, h1.trans ?_⟩
  rw [List.getD_eq_getElem?_getD, List.getElem?_eq_getElem hk]
  simp [natI]
/-- Is and Bases of commits that are right -/
theorem is_good (F : DFace) {W : World} {ad : Option Addr} {ca : Nat} {l : List Cm} (hG : GoodC l) {i j : Nat} (hi : i < l.length) (hj : j < l.length) (hC : ComsOK W ad ca l) {q : Bool} (hq : q = true ↔ Up l j i) :
    Calls Try.prog 8 #[.slice ad l.length ca, .int .i64 (i : Int), .int .i64 (j : Int)] W fun e w' => e = .returned (.tuple #[.bool q, .nilIface]) ∧ RowKit.Below W.heap.size W w' := by
  refine (F.is W ad ca l i j hC).mono ?_
  rintro e w' ⟨q', rfl, h1, _, hb⟩
  rw [two_good hG hi hj] at h1 ⊢
  have h2 := h1 rfl
  simp only [Int.toNat_natCast] at h2
  have : q' = q := by rw [Bool.eq_iff_iff]; exact h2.trans hq.symm
  rw [this]
  exact ⟨rfl, hb⟩

set_option maxHeartbeats 32000000 in
set_option maxRecDepth 1000000 in
theorem dhTail (F : DFace) (u3 u4 u5 u6 u7 u8 u9 u10 u11 u12 u13 u14 u15 u16 u17 u18 u19 u21 u22 u23 u24 u25 u26 u27 u28 u29 u30 u31 u32 u33 u34 u35 u36 u37 u38 u39 u40 u41 u42 u43 u44 u45 u46 u47 u48 u49 u50 u51 u52 u53 u54 u55 u56 u57 u58 u59 u60 u61 u62 u63 u64 u65 u66 u67 u68 u69 u70 u71 u72 u73 u74 u75 u76 u77 u78 u79 u80 u81 u82 u83 u84 u85 u86 u87 u88 u89 u90 u91 u92 u93 u94 u95 u96 u97 u98 u99 u100 u101 u102 u103 u104 u105 u106 u107 u108 u109 u110 u111 u112 u113 u114 u115 u116 u117 u118 u119 u120 u121 u122 u123 u124 u125 u126 u127 u128 u129 u130 u131 u132 u133 u134 u135 u136 u137 u138 u139 u140 u141 u142 u143 u144 u145 u146 u147 u148 u149 u150 u151 u152 u153 u154 u155 u156 u157 u158 u159 u160 u161 u162 u163 u164 u165 u166 u167 u168 u169 u170 u171 u172 u173 u174 u175 u176 u177 u178 u179 u180 u181 u182 u183 u184 u185 u186 u187 u188 u189 u190 u191 u192 u193 u194 u195 u196 u197 u198 u199 u200 u201 u202 u203 u204 u205 u206 u207 u208 u209 u210 u211 u212 u213 u214 u215 u216 u217 u218 u219 u220 u221 u222 u223 u224 u225 u226 u227 u228 u229 u230 u231 u232 u233 u234 u235 u236 u237 u238 u239 u240 u241 u242 u243 u244 u245 u246 u247 u248 u249 u250 u251 u252 u253 u254 : Value) (ad : Option Addr) (ca : Nat) (l : List Cm) (i j : Nat) (zd : Option Addr) (zc : Nat) (z : List Nat) (w W : World)
    (hG : GoodC l) (hi : i < l.length) (hj : j < l.length) (hz : baseP l i j z) (lz : z.length ≤ 60) (hC : ∀ W', RowKit.Below w.heap.size w W' → ComsOK W' ad ca l) (hB : RowKit.Below w.heap.size w W) (sz : SlI W zd (natI z)) :
    Code.wp Try.prog (codeOf Try.f3.body 44) (bodyPost Try.prog Try.f3 (HoldAns w)) ⟨#[.slice ad l.length ca, .int .i64 (i : Int), .int .i64 (j : Int), u3, u4, u5, u6, u7, u8, u9, u10, u11, u12, u13, u14, u15, u16, u17, u18, u19, .slice zd z.length zc, u21, u22, u23, u24, u25, u26, u27, u28, u29, u30, u31, u32, u33, u34, u35, u36, u37, u38, u39, u40, u41, u42, u43, u44, u45, u46, u47, u48, u49, u50, u51, u52, u53, u54, u55, u56, u57, u58, u59, u60, u61, u62, u63, u64, u65, u66, u67, u68, u69, u70, u71, u72, u73, u74, u75, u76, u77, u78, u79, u80, u81, u82, u83, u84, u85, u86, u87, u88, u89, u90, u91, u92, u93, u94, u95, u96, u97, u98, u99, u100, u101, u102, u103, u104, u105, u106, u107, u108, u109, u110, u111, u112, u113, u114, u115, u116, u117, u118, u119, u120, u121, u122, u123, u124, u125, u126, u127, u128, u129, u130, u131, u132, u133, u134, u135, u136, u137, u138, u139, u140, u141, u142, u143, u144, u145, u146, u147, u148, u149, u150, u151, u152, u153, u154, u155, u156, u157, u158, u159, u160, u161, u162, u163, u164, u165, u166, u167, u168, u169, u170, u171, u172, u173, u174, u175, u176, u177, u178, u179, u180, u181, u182, u183, u184, u185, u186, u187, u188, u189, u190, u191, u192, u193, u194, u195, u196, u197, u198, u199, u200, u201, u202, u203, u204, u205, u206, u207, u208, u209, u210, u211, u212, u213, u214, u215, u216, u217, u218, u219, u220, u221, u222, u223, u224, u225, u226, u227, u228, u229, u230, u231, u232, u233, u234, u235, u236, u237, u238, u239, u240, u241, u242, u243, u244, u245, u246, u247, u248, u249, u250, u251, u252, u253, u254], []⟩ W := by
  have C1 := fun q hq => is_good F hG hi hj (hC _ hB) (q := q) hq
  have T2 := two_good hG hj hi
  have C2 := fun W' h => F.bases W' ad ca l j i h
  rw [T2] at C2
  simp only [Int.toNat_natCast] at C2
  have HC := hideO hC
  have HB := hideO hB
  have HZ := hideO (And.intro hz lz)
  have SZ := hideO sz
  have HG := hideO (And.intro hG hi)
  clear hG hi hj hC hB hz T2 sz
  conv => arg 2; whnf
  by_cases hu : Up l j i
  · have C3 := C1 true (by simpa using hu)
    obtain rfl : z = [i] := base_line HG.out.1 HG.out.2 HZ.out.1 hu
    clear C1 hu
    go_wp2_with fail
    refine C3.mono ?_
    rintro e w1 ⟨rfl, hb1⟩
    have HB1 := hideO (bstep HB.out hb1)
    have S1 := hideO (SZ.out.below hb1)
    obtain ⟨b0, o0, e0, c0⟩ := S1.out.natD (k := 0) (by simp)
    subst e0
    simp only [Nat.add_zero, List.getD_cons_zero] at c0
    clear C3 HB SZ hb1
    dsimp only
    go_wp2_with fail
    refine (C2 _ (HC.out _ HB1.out)).mono ?_
    rintro e w2 ⟨td, tc, t, rfl, t1, _, t3, hb2, t4, _, _⟩
    have HT : Hid (t = [i]) := base_turn HZ.out.1 (t1 rfl)
    have HB2 := hideO (bstep HB1.out hb2)
    have S2 := hideO (S1.out.below hb2)
    have T3 := hideO t3
    clear C2 HB1 S1 hb2 t1 t3 c0
    rw [errV_zero]
    dsimp only
    go_wp2_with fail
    refine (SameNat td (some ⟨b0, o0, none⟩) tc zc t [i] _ T3.out S2.out HT.out t4).mono ?_
    rintro e w3 ⟨rfl, hb3⟩
    have HB3 := hideO (bstep HB2.out hb3)
    clear hb3
    dsimp only
    go_wp2_with fail
    go_ret
    exact ⟨rfl, HB3.out⟩
  · have C3 := C1 false (by simpa using hu)
    clear C1 hu
    go_wp2_with fail
    refine C3.mono ?_
    rintro e w1 ⟨rfl, hb1⟩
    have HB1 := hideO (bstep HB.out hb1)
    have S1 := hideO (SZ.out.below hb1)
    clear C3 HB SZ hb1
    dsimp only
    go_wp2_with fail
    refine (C2 _ (HC.out _ HB1.out)).mono ?_
    rintro e w2 ⟨td, tc, t, rfl, t1, _, t3, hb2, t4, _, _⟩
    have HT : Hid (t = z) := base_turn HZ.out.1 (t1 rfl)
    have HB2 := hideO (bstep HB1.out hb2)
    have S2 := hideO (S1.out.below hb2)
    have T3 := hideO t3
    clear C2 HB1 S1 hb2 t1 t3
    rw [errV_zero]
    dsimp only
    go_wp2_with fail
    refine (SameNat td zd tc zc t z _ T3.out S2.out HT.out t4).mono ?_
    rintro e w3 ⟨rfl, hb3⟩
    have HB3 := hideO (bstep HB2.out hb3)
    clear hb3
    dsimp only
    go_wp2_with fail
    go_ret
    exact ⟨rfl, HB3.out⟩
end Go.Proofs.Ytjlifccaoncfcaa

/- DagHolds, its middle: both come of each base, and of no base another one. -/
namespace Go.Proofs.Ytjlifccaoncfcaa
open Go Go.RowKit Go.Proofs
set_option synthInstance.maxSize 1000

theorem holdO2 {W W' : World} {ad : Option Addr} {ca : Nat} {l : List Cm} {p q : Addr} {u v : Value} (h : ComsOK W ad ca l ∧ W.cell? p = some u ∧ W.cell? q = some v) (hb : RowKit.Below W.heap.size W W') : ComsOK W' ad ca l ∧ W'.cell? p = some u ∧ W'.cell? q = some v :=
  ⟨h.1.below hb, (hb.cell (World.block_lt_of_cell? W _ h.2.1)).trans h.2.1, (hb.cell (World.block_lt_of_cell? W _ h.2.2)).trans h.2.2⟩
theorem getD_mem {m : List Nat} {k : Nat} (hk : k < m.length) : m.getD k 0 ∈ m := by
  rw [List.getD_eq_getElem?_getD, List.getElem?_eq_getElem hk]
  exact List.getElem_mem hk
theorem rise_same {m : List Nat} (h : RiseN m) {p q : Nat} (hp : p < m.length) (hq : q < m.length) : m.getD p 0 = m.getD q 0 ↔ p = q := by
  constructor
  · intro e
    rcases Nat.lt_trichotomy p q with h1 | h1 | h1
    · have := rise_get h h1 hq; omega
    · exact h1
    · have := rise_get h h1 hp; omega
  · rintro rfl; rfl

set_option maxHeartbeats 32000000 in
set_option maxRecDepth 1000000 in
theorem dhMid (F : DFace) (u3 u4 u5 u6 u7 u8 u9 u10 u11 u12 u13 u14 u15 u16 u17 u18 u19 u20 u21 u22 u23 u24 u25 u26 u27 u28 u29 u30 u31 u32 u33 u34 u35 u36 u37 u38 u39 u40 u41 u42 u43 u44 u45 u46 u47 u48 u49 u50 u51 u52 u53 u54 u55 u56 u57 u58 u59 u60 u61 u62 u63 u64 u65 u66 u67 u68 u69 u70 u71 u72 u73 u74 u75 u76 u77 u78 u79 u80 u81 u82 u83 u84 u85 u86 u87 u88 u89 u90 u91 u92 u93 u94 u95 u96 u97 u98 u99 u100 u101 u102 u103 u104 u105 u106 u107 u108 u109 u110 u111 u112 u113 u114 u115 u116 u117 u118 u119 u120 u121 u122 u123 u124 u125 u126 u127 u128 u129 u130 u131 u132 u133 u134 u135 u136 u137 u138 u139 u140 u141 u142 u143 u144 u145 u146 u147 u148 u149 u150 u151 u152 u153 u154 u155 u156 u157 u158 u159 u160 u161 u162 u163 u164 u165 u166 u167 u168 u169 u170 u171 u172 u173 u174 u175 u176 u177 u178 u179 u180 u181 u182 u183 u184 u185 u186 u187 u188 u189 u190 u191 u192 u193 u194 u195 u196 u197 u198 u199 u200 u201 u202 u203 u204 u205 u206 u207 u208 u209 u210 u211 u212 u213 u214 u215 u216 u217 u218 u219 u220 u221 u222 u223 u224 u225 u226 u227 u228 u229 u230 u231 u232 u233 u234 u235 u236 u237 u238 u239 u240 u241 u242 u243 u244 u245 u246 u247 u248 u249 u250 u251 u252 u253 u254 : Value) (ad : Option Addr) (ca : Nat) (l : List Cm) (i : Nat) (b : Int) (w W : World)
    (hG : GoodC l) (hi : i < l.length) (hC : ∀ W', RowKit.Below w.heap.size w W' → ComsOK W' ad ca l) (hB : RowKit.Below w.heap.size w W) :
    Code.wp Try.prog (codeOf Try.f3.body 28) (bodyPost Try.prog Try.f3 (HoldAns w)) ⟨#[.slice ad l.length ca, .int .i64 (i : Int), .int .i64 b, u3, u4, u5, u6, u7, u8, u9, u10, u11, u12, u13, u14, u15, u16, u17, u18, u19, u20, u21, u22, u23, u24, u25, u26, u27, u28, u29, u30, u31, u32, u33, u34, u35, u36, u37, u38, u39, u40, u41, u42, u43, u44, u45, u46, u47, u48, u49, u50, u51, u52, u53, u54, u55, u56, u57, u58, u59, u60, u61, u62, u63, u64, u65, u66, u67, u68, u69, u70, u71, u72, u73, u74, u75, u76, u77, u78, u79, u80, u81, u82, u83, u84, u85, u86, u87, u88, u89, u90, u91, u92, u93, u94, u95, u96, u97, u98, u99, u100, u101, u102, u103, u104, u105, u106, u107, u108, u109, u110, u111, u112, u113, u114, u115, u116, u117, u118, u119, u120, u121, u122, u123, u124, u125, u126, u127, u128, u129, u130, u131, u132, u133, u134, u135, u136, u137, u138, u139, u140, u141, u142, u143, u144, u145, u146, u147, u148, u149, u150, u151, u152, u153, u154, u155, u156, u157, u158, u159, u160, u161, u162, u163, u164, u165, u166, u167, u168, u169, u170, u171, u172, u173, u174, u175, u176, u177, u178, u179, u180, u181, u182, u183, u184, u185, u186, u187, u188, u189, u190, u191, u192, u193, u194, u195, u196, u197, u198, u199, u200, u201, u202, u203, u204, u205, u206, u207, u208, u209, u210, u211, u212, u213, u214, u215, u216, u217, u218, u219, u220, u221, u222, u223, u224, u225, u226, u227, u228, u229, u230, u231, u232, u233, u234, u235, u236, u237, u238, u239, u240, u241, u242, u243, u244, u245, u246, u247, u248, u249, u250, u251, u252, u253, u254], []⟩ W := by
  have C := F.bases W ad ca l i b (hC _ hB)
  have HC := hideO hC
  have HB := hideO hB
  have HG := hideO (And.intro hG hi)
  clear hG hi hC hB
  conv => arg 2; whnf
  go_wp2_with fail
  refine C.mono ?_
  rintro e w1 ⟨zd, zc, z, rfl, z1, _, z3, hb1, z4, _, _⟩
  have HB1 := hideO (bstep HB.out hb1)
  have S1 := hideO z3
  clear C HB hb1 z3
  dsimp only
  by_cases hf : twoE l (i : Int) b = 0
  · obtain ⟨_, b0, b1⟩ := ancE_zero (twoE_zero.1 hf).2
    obtain ⟨j, hj⟩ : ∃ j : Nat, b = (j : Int) := ⟨b.toNat, by omega⟩
    have hz := z1 hf
    subst hj
    simp only [Int.toNat_natCast] at hz
    have hjl : j < l.length := by omega
    have HZ := hideO (And.intro hz hjl)
    rw [hf, errV_zero]
    clear hf z1 hz hjl b0 b1
    go_upto_block 6 with fail
    go_cut [21] (fun _ W' => Hid (RowKit.Below w.heap.size w W') ∧ Hid (SlI W' zd (natI z)))
    case rest =>
      refine go_on (by assumption) ?_
      exact dhTail F _ _ _ _ _ _ _ _ _ _ _ _ _ _ _ _ _ _ _ _ _ _ _ _ _ _ _ _ _ _ _ _ _ _ _ _ _ _ _ _ _ _ _ _ _ _ _ _ _ _ _ _ _ _ _ _ _ _ _ _ _ _ _ _ _ _ _ _ _ _ _ _ _ _ _ _ _ _ _ _ _ _ _ _ _ _ _ _ _ _ _ _ _ _ _ _ _ _ _ _ _ _ _ _ _ _ _ _ _ _ _ _ _ _ _ _ _ _ _ _ _ _ _ _ _ _ _ _ _ _ _ _ _ _ _ _ _ _ _ _ _ _ _ _ _ _ _ _ _ _ _ _ _ _ _ _ _ _ _ _ _ _ _ _ _ _ _ _ _ _ _ _ _ _ _ _ _ _ _ _ _ _ _ _ _ _ _ _ _ _ _ _ _ _ _ _ _ _ _ _ _ _ _ _ _ _ _ _ _ _ _ _ _ _ _ _ _ _ _ _ _ _ _ _ _ _ _ _ _ _ _ _ _ _ _ _ _ _ _ _ _ _ _ _ _ _ _ _ _ _ _ ad ca l i j zd zc z w wc HG.out.1 HG.out.2 HZ.out.2 HZ.out.1 z4 HC.out hcut.1.out hcut.2.out
    case first =>
      go_wp2_with fail
      go_loopw [21] (fun kk wr => ∃ (k : Nat), k ≤ z.length ∧ kk = .int .i64 k ∧ Hid (RowKit.Below w.heap.size w wr) ∧ Hid (SlI wr zd (natI z))) (fun kk wr => z.length - (intOf kk).toNat)
      case atStart => exact ⟨0, by omega, rfl, HB1, S1⟩
      case round =>
        obtain ⟨k, hk, rfl, hBr, hSr⟩ := hrel
        clear HB1 S1
        by_cases hlt : k < z.length
        · have hmem := getD_mem hlt
          obtain ⟨y1, y2, y3⟩ := base_in HG.out.1 HG.out.2 HZ.out.1 hmem
          have D1 := fun W' h => is_good F (W := W') (ad := ad) (ca := ca) HG.out.1 y1 HG.out.2 h (q := true) (by simpa using y2)
          have D2 := fun W' h => is_good F (W := W') (ad := ad) (ca := ca) HG.out.1 y1 HZ.out.2 h (q := true) (by simpa using y3)
          have D3 : Hid (∀ q, q < z.length → ∀ W', ComsOK W' ad ca l → Calls Try.prog 8 #[.slice ad l.length ca, .int .i64 ((z.getD k 0 : Nat) : Int), .int .i64 ((z.getD q 0 : Nat) : Int)] W' fun e w' => e = .returned (.tuple #[.bool (decide (k = q)), .nilIface]) ∧ RowKit.Below W'.heap.size W' w') := by
            intro q hq W' h
            refine is_good F HG.out.1 y1 (base_in HG.out.1 HG.out.2 HZ.out.1 (getD_mem hq)).1 h ?_
            rw [decide_eq_true_eq, base_apart HZ.out.1 hmem (getD_mem hq)]
            exact (rise_same HZ.out.1.1 hlt hq).symm
          obtain ⟨b1, o1, e1, c1⟩ := hSr.out.natD hlt
          subst e1
          have k0 : (0 : Int) ≤ (k : Int) := by omega
          have k1 : (k : Int) < (z.length : Int) := by omega
          clear y1 y2 y3 hmem
          generalize z.getD k 0 = y at *
          go_wp2_with fail
          refine (D1 _ (HC.out _ hBr.out)).mono ?_
          rintro e w2 ⟨rfl, hb2⟩
          have HB2 := hideO (bstep hBr.out hb2)
          have S2 := hideO (hSr.out.below hb2)
          have c2 : w2.cell? ⟨b1, o1 + k, none⟩ = some (.int .i64 (y : Int)) := (hb2.cell (World.block_lt_of_cell? wr _ c1)).trans c1
          clear c1 hb2 hBr hSr D1
          dsimp only
          go_wp2_with fail
          refine (D2 _ (HC.out _ HB2.out)).mono ?_
          rintro e w3 ⟨rfl, hb3⟩
          have HB3 := hideO (bstep HB2.out hb3)
          have S3 := hideO (S2.out.below hb3)
          have c3 := hideO ((hb3.cell (World.block_lt_of_cell? w2 _ c2)).trans c2)
          clear c2 hb3 HB2 S2 D2
          dsimp only
          go_wp2_with fail
          go_loopw [26] (fun kk wr => ∃ (q : Nat), q ≤ z.length ∧ kk = .int .i64 q ∧ Hid (RowKit.Below w3.heap.size w3 wr)) (fun kk wr => z.length - (intOf kk).toNat)
          case atStart => exact ⟨0, by omega, rfl, RowKit.Below.refl _ _⟩
          case round =>
            obtain ⟨q, hq, rfl, hbq⟩ := hrel
            by_cases hlq : q < z.length
            · have D4 := D3.out q hlq
              have S4 := S3.out.below hbq.out
              obtain ⟨b2, o2, e2, c4⟩ := S4.natD hlq
              cases e2
              have c5 : wr.cell? ⟨b1, o1 + k, none⟩ = some (.int .i64 (y : Int)) := (hbq.out.cell (World.block_lt_of_cell? w3 _ c3.out)).trans c3.out
              have q0 : (0 : Int) ≤ (q : Int) := by omega
              have q1 : (q : Int) < (z.length : Int) := by omega
              have hcm := HC.out _ (bstep HB3.out hbq.out)
              clear S4
              generalize z.getD q 0 = y2 at *
              have hkeep : ComsOK wr.drew ad ca l ∧ wr.drew.cell? ⟨b1, o1 + k, none⟩ = some (.int .i64 (y : Int)) ∧ wr.drew.cell? ⟨b1, o1 + q, none⟩ = some (.int .i64 (y2 : Int)) := ⟨hcm.below (RowKit.Below.refl _ wr).drew, c5, c4⟩
              clear hcm
              go_wp2_with fail
              go_region_held3 (fun W => ComsOK W ad ca l ∧ W.cell? ⟨b1, o1 + k, none⟩ = some (.int .i64 (y : Int)) ∧ W.cell? ⟨b1, o1 + q, none⟩ = some (.int .i64 (y2 : Int))) (first | exact holdO2 (by assumption) hb5 | assumption)
                (first
                | (go_at_call 8; refine (D4 _ (And.left (by assumption))).mono ?_; rintro e w5 ⟨rfl, hb5⟩; dsimp only))
              have hb6 : Hid (RowKit.Below w3.heap.size w3 w5) := bstep hbq.out.drew hb5
              clear D4 hb5 c4 c5 hkeep
              by_cases ekq : k = q
              · subst ekq
                go_wp2_with fail
                go_roundw
                case rel => exact ⟨k + 1, by omega, by go_num, hb6⟩
                case measure => simp [intOf]; omega
              · have ekq' : ((k : Int) == (q : Int)) = false := by simp; omega
                rw [decide_eq_false ekq]
                go_wp2_with fail
                go_roundw
                case rel => exact ⟨q + 1, by omega, by go_num, hb6⟩
                case measure => simp [intOf]; omega
            · obtain rfl : q = z.length := by omega
              have HB4 := hideO (bstep HB3.out hbq.out)
              have S4 := hideO (S3.out.below hbq.out)
              clear HB3 S3 hbq c3
              go_wp2_with fail
              go_roundw
              case rel => exact ⟨k + 1, by omega, by go_num, HB4, S4⟩
              case measure => simp [intOf]; omega
        · obtain rfl : k = z.length := by omega
          go_wp2_with fail
          go_meet
          case rel => exact ⟨hBr, hSr⟩
  · rw [errV_some hf]
    clear z1
    generalize twoE l (i : Int) b = f at *
    go_wp2_with fail
    go_ret
    exact ⟨rfl, HB1.out⟩
end Go.Proofs.Ytjlifccaoncfcaa

/- The document's answer (package strataref2): Message, In. -/
namespace Go.Proofs.Ytjlifccaoncfcaa
open Go Go.RowKit Go.Proofs
set_option synthInstance.maxSize 1000

set_option maxHeartbeats 2000000 in
set_option maxRecDepth 100000 in
theorem RIn_any (ad : Option Addr) (ca : Nat) (l : List Int) (n : Int) (w : World) (hl : SlI w ad l) (hz : l.length ≤ 1000000) :
    Calls Try.prog 7 #[.slice ad l.length ca, .int .i64 n] w fun e w' => e = .returned (.bool (l.contains n)) ∧ w' = w := by
  have Hl := hideO hl
  clear hl
  obtain ⟨ans, hans⟩ : ∃ ans, l.contains n = ans := ⟨_, rfl⟩
  rw [hans]
  have Hans := hideO hans
  clear hans
  go_enter Try.func7, Try.ntmps7
  go_wp2_with fail
  go_loopw [5] (fun i wr => ∃ (k : Nat), k ≤ l.length ∧ i = .int .i64 k ∧ wr = w ∧ Hid (∀ x ∈ l.take k, x ≠ n)) (fun i wr => l.length - (intOf i).toNat)
  case atStart => exact ⟨0, by omega, rfl, rfl, by show ∀ x ∈ _, _; simp⟩
  case round =>
    obtain ⟨k, hk, rfl, hw, hs⟩ := hrel
    obtain rfl : w = wr := hw.symm
    by_cases hlt : k < l.length
    · obtain ⟨b, o, rfl, c0⟩ := Hl.out.at hlt
      have i0 : (0 : Int) ≤ (k : Int) := by omega
      have i1 : (k : Int) < (l.length : Int) := by omega
      by_cases he : l[k] = n
      · have hd : (l[k] == n) = true := by simpa using he
        have hf : Hid (ans = true) := by
          show _ = _
          rw [← Hans.out, List.contains_eq_mem, decide_eq_true_eq, ← he]
          exact List.getElem_mem hlt
        clear he
        go_wp2
        go_ret
        exact ⟨by rw [hf.out]; rfl, rfl⟩
      · have hd : (l[k] == n) = false := by simpa using he
        have hs' : Hid (∀ x ∈ l.take (k + 1), x ≠ n) := by
          show ∀ x ∈ _, _
          rw [List.take_succ_eq_append_getElem hlt]
          intro x hx
          rcases List.mem_append.1 hx with hx | hx
          · exact hs.out x hx
          · simp at hx; subst hx; exact he
        clear he
        go_wp2
        exact ⟨⟨k + 1, by omega, by go_num, by trivial, hs'⟩, by simp [intOf]; omega⟩
    · obtain rfl : k = l.length := by omega
      have hf : Hid (ans = false) := by
        show _ = _
        rw [← Hans.out, List.contains_eq_mem, decide_eq_false_iff_not]
        intro hm
        have := hs.out n (by rw [List.take_length]; exact hm)
        exact this rfl
      go_wp2
      go_ret
      exact ⟨by rw [hf.out]; rfl, rfl⟩

end Go.Proofs.Ytjlifccaoncfcaa

/- The document's In at natural numbers. -/
namespace Go.Proofs.Ytjlifccaoncfcaa
open Go Go.RowKit Go.Proofs
set_option synthInstance.maxSize 1000

theorem natI_has (y : List Nat) (k : Nat) : (natI y).contains (k : Int) = decide (k ∈ y) := by
  unfold natI
  rw [List.contains_eq_mem, decide_eq_decide, List.mem_map]
  constructor
  · rintro ⟨z, hz, e⟩
    rw [show k = z by omega]; exact hz
  · exact fun h => ⟨k, h, rfl⟩
theorem InNat_any (ad : Option Addr) (ca : Nat) (m : List Nat) (n : Nat) (w : World) (h : SlI w ad (natI m)) (hz : m.length ≤ 1000) :
    Calls Try.prog 7 #[.slice ad m.length ca, .int .i64 (n : Int)] w fun e w' => e = .returned (.bool (decide (n ∈ m))) ∧ w' = w := by
  have := RIn_any ad ca (natI m) (n : Int) w h (by rw [natI_len]; omega)
  rw [natI_has, natI_len] at this
  exact this
end Go.Proofs.Ytjlifccaoncfcaa

/- DagHolds: a commit's ancestors are itself and all of its parents'. -/
namespace Go.Proofs.Ytjlifccaoncfcaa
open Go Go.RowKit Go.Proofs
set_option synthInstance.maxSize 1000

set_option maxHeartbeats 32000000 in
set_option maxRecDepth 1000000 in
theorem dhWant (F : DFace) (u3 u4 u5 u6 u7 u8 u9 u11 u13 u14 u15 u16 u17 u18 u19 u20 u21 u22 u23 u24 u25 u26 u27 u28 u29 u30 u31 u32 u33 u34 u35 u36 u37 u38 u39 u40 u41 u42 u43 u44 u45 u46 u47 u48 u49 u50 u51 u52 u53 u54 u55 u56 u57 u58 u59 u60 u61 u62 u63 u64 u65 u66 u67 u68 u69 u70 u71 u72 u73 u74 u75 u76 u77 u78 u79 u80 u81 u82 u83 u84 u85 u86 u87 u88 u89 u90 u91 u92 u93 u94 u95 u96 u97 u98 u99 u100 u101 u102 u103 u104 u105 u106 u107 u108 u109 u110 u111 u112 u113 u114 u115 u116 u117 u118 u119 u120 u121 u122 u123 u124 u125 u126 u127 u128 u129 u130 u131 u132 u133 u134 u135 u136 u137 u138 u139 u140 u141 u142 u143 u144 u145 u146 u147 u148 u149 u150 u151 u152 u153 u154 u155 u156 u157 u158 u159 u160 u161 u162 u163 u164 u165 u166 u167 u168 u169 u170 u171 u172 u173 u174 u175 u176 u177 u178 u179 u180 u181 u182 u183 u184 u185 u186 u187 u188 u189 u190 u191 u192 u193 u194 u195 u196 u197 u198 u199 u200 u201 u202 u203 u204 u205 u206 u207 u208 u209 u210 u211 u212 u213 u214 u215 u216 u217 u218 u219 u220 u221 u222 u223 u224 u225 u226 u227 u228 u229 u230 u231 u232 u233 u234 u235 u236 u237 u238 u239 u240 u241 u242 u243 u244 u245 u246 u247 u248 u249 u250 u251 u252 u253 u254 : Value) (ad : Option Addr) (ca : Nat) (l : List Cm) (i : Nat) (b : Int) (xd vd : Option Addr) (xc vc : Nat) (x v : List Nat) (w W : World)
    (hG : GoodC l) (hi : i < l.length) (hC : ∀ W', RowKit.Below w.heap.size w W' → ComsOK W' ad ca l) (hB : RowKit.Below w.heap.size w W)
    (hx : upP l i x) (lx : x.length ≤ 60) (sx : SlI W xd (natI x)) (hv : ∀ k, k ∈ v ↔ Up l i k) (lv : v.length ≤ 1000) (sv : SlI W vd (natI v)) :
    Code.wp Try.prog (codeOf Try.f3.body 16) (bodyPost Try.prog Try.f3 (HoldAns w)) ⟨#[.slice ad l.length ca, .int .i64 (i : Int), .int .i64 b, u3, u4, u5, u6, u7, u8, u9, .slice xd x.length xc, u11, .slice vd v.length vc, u13, u14, u15, u16, u17, u18, u19, u20, u21, u22, u23, u24, u25, u26, u27, u28, u29, u30, u31, u32, u33, u34, u35, u36, u37, u38, u39, u40, u41, u42, u43, u44, u45, u46, u47, u48, u49, u50, u51, u52, u53, u54, u55, u56, u57, u58, u59, u60, u61, u62, u63, u64, u65, u66, u67, u68, u69, u70, u71, u72, u73, u74, u75, u76, u77, u78, u79, u80, u81, u82, u83, u84, u85, u86, u87, u88, u89, u90, u91, u92, u93, u94, u95, u96, u97, u98, u99, u100, u101, u102, u103, u104, u105, u106, u107, u108, u109, u110, u111, u112, u113, u114, u115, u116, u117, u118, u119, u120, u121, u122, u123, u124, u125, u126, u127, u128, u129, u130, u131, u132, u133, u134, u135, u136, u137, u138, u139, u140, u141, u142, u143, u144, u145, u146, u147, u148, u149, u150, u151, u152, u153, u154, u155, u156, u157, u158, u159, u160, u161, u162, u163, u164, u165, u166, u167, u168, u169, u170, u171, u172, u173, u174, u175, u176, u177, u178, u179, u180, u181, u182, u183, u184, u185, u186, u187, u188, u189, u190, u191, u192, u193, u194, u195, u196, u197, u198, u199, u200, u201, u202, u203, u204, u205, u206, u207, u208, u209, u210, u211, u212, u213, u214, u215, u216, u217, u218, u219, u220, u221, u222, u223, u224, u225, u226, u227, u228, u229, u230, u231, u232, u233, u234, u235, u236, u237, u238, u239, u240, u241, u242, u243, u244, u245, u246, u247, u248, u249, u250, u251, u252, u253, u254], []⟩ W := by
  have HC := hideO hC
  have HB := hideO hB
  have HG := hideO (And.intro hG hi)
  have HX := hideO (And.intro hx sx)
  have HV := hideO (And.intro hv sv)
  clear hG hi hC hB hx sx hv sv
  conv => arg 2; whnf
  go_upto_block 2 with fail
  go_cut [16] (fun _ W' => W' = W)
  case first =>
    go_wp2_with fail
    go_loopw [16] (fun kk wr => ∃ (k : Nat), k ≤ v.length ∧ kk = .int .i64 k ∧ wr = W) (fun kk wr => v.length - (intOf kk).toNat)
    case atStart => exact ⟨0, by omega, rfl, rfl⟩
    case round =>
      obtain ⟨k, hk, rfl, rfl⟩ := hrel
      by_cases hlt : k < v.length
      · obtain ⟨b1, o1, e1, c1⟩ := HV.out.2.natD hlt
        have hin : v.getD k 0 ∈ x := (HX.out.1.2 _).2 ((HV.out.1 _).1 (getD_mem hlt))
        have D := InNat_any xd xc x (v.getD k 0) wr HX.out.2 (by omega)
        rw [decide_eq_true hin] at D
        subst e1
        have k0 : (0 : Int) ≤ (k : Int) := by omega
        have k1 : (k : Int) < (v.length : Int) := by omega
        clear hin
        generalize v.getD k 0 = y at *
        go_wp2_with fail
        refine D.mono ?_
        rintro e w2 ⟨rfl, hw2⟩
        obtain rfl : wr = w2 := hw2.symm
        clear D
        dsimp only
        go_wp2_with fail
        go_roundw
        case rel => exact ⟨k + 1, by omega, by go_num, by trivial⟩
        case measure => simp [intOf]; omega
      · obtain rfl : k = v.length := by omega
        go_wp2_with fail
        go_meet
        case rel => exact rfl
  case rest =>
    subst hcut
    go_upto_block 4 with fail
    go_cut [18] (fun _ W' => Hid (RowKit.Below w.heap.size w W'))
    case rest =>
      refine go_on (by assumption) ?_
      exact dhMid F _ _ _ _ _ _ _ _ _ _ _ _ _ _ _ _ _ _ _ _ _ _ _ _ _ _ _ _ _ _ _ _ _ _ _ _ _ _ _ _ _ _ _ _ _ _ _ _ _ _ _ _ _ _ _ _ _ _ _ _ _ _ _ _ _ _ _ _ _ _ _ _ _ _ _ _ _ _ _ _ _ _ _ _ _ _ _ _ _ _ _ _ _ _ _ _ _ _ _ _ _ _ _ _ _ _ _ _ _ _ _ _ _ _ _ _ _ _ _ _ _ _ _ _ _ _ _ _ _ _ _ _ _ _ _ _ _ _ _ _ _ _ _ _ _ _ _ _ _ _ _ _ _ _ _ _ _ _ _ _ _ _ _ _ _ _ _ _ _ _ _ _ _ _ _ _ _ _ _ _ _ _ _ _ _ _ _ _ _ _ _ _ _ _ _ _ _ _ _ _ _ _ _ _ _ _ _ _ _ _ _ _ _ _ _ _ _ _ _ _ _ _ _ _ _ _ _ _ _ _ _ _ _ _ _ _ _ _ _ _ _ _ _ _ _ _ _ _ _ _ _ _ ad ca l i b w wc HG.out.1 HG.out.2 HC.out hcut.out
    case first =>
      go_wp2_with fail
      go_loopw [18] (fun kk wr => ∃ (k n : Nat), k ≤ x.length ∧ kk = .int .i64 k ∧ wr = wc.drewN n) (fun kk wr => x.length - (intOf kk).toNat)
      case atStart => exact ⟨0, 0, by omega, rfl, rfl⟩
      case round =>
        obtain ⟨k, n, hk, rfl, rfl⟩ := hrel
        by_cases hlt : k < x.length
        · obtain ⟨b1, o1, e1, c1⟩ := HX.out.2.natD hlt
          have hin : x.getD k 0 ∈ v := (HV.out.1 _).2 ((HX.out.1.2 _).1 (getD_mem hlt))
          have D := InNat_any vd vc v (x.getD k 0) (wc.drewN n) HV.out.2 (by omega)
          rw [decide_eq_true hin] at D
          subst e1
          have c1 : (wc.drewN n).cell? ⟨b1, o1 + k, none⟩ = some (.int .i64 ((x.getD k 0 : Nat) : Int)) := c1
          have k0 : (0 : Int) ≤ (k : Int) := by omega
          have k1 : (k : Int) < (x.length : Int) := by omega
          clear hin
          by_cases kz : k = 0
          · subst kz
            simp only [Nat.add_zero] at c1
            generalize x.getD 0 0 = y at *
            go_wp2_with fail
            refine D.mono ?_
            rintro e w2 ⟨rfl, hw2⟩
            subst hw2
            clear D
            dsimp only
            go_wp2_with fail
            go_region
            go_wp2_with fail
            go_roundw
            case rel => exact ⟨1, n + 1, by omega, by go_num, rfl⟩
            case measure => simp [intOf]; omega
          · obtain ⟨q, rfl⟩ : ∃ q, k = q + 1 := ⟨k - 1, by omega⟩
            obtain ⟨b2, o2, e2, c2⟩ := HX.out.2.natD (k := q) (by omega)
            cases e2
            have hr : Hid (x.getD q 0 < x.getD (q + 1) 0) := rise_get HX.out.1.1 (by omega) hlt
            have c2 : (wc.drewN n).cell? ⟨b1, o1 + q, none⟩ = some (.int .i64 ((x.getD q 0 : Nat) : Int)) := c2
            have hr2 : ¬ ((x.getD q 0 : Nat) : Int) ≥ ((x.getD (q + 1) 0 : Nat) : Int) := by have := hr.out; omega
            have kp : ((q : Int) + 1) > 0 := by omega
            have kq : (0 : Int) ≤ (q : Int) := by omega
            have kr : (q : Int) < (x.length : Int) := by omega
            clear hr
            generalize x.getD q 0 = y2 at *
            generalize x.getD (q + 1) 0 = y at *
            go_wp2_with fail
            refine D.mono ?_
            rintro e w2 ⟨rfl, hw2⟩
            subst hw2
            clear D
            dsimp only
            go_wp2_with fail
            go_region
            go_wp2_with fail
            go_roundw
            case rel => exact ⟨q + 2, n + 1, by omega, by go_num, rfl⟩
            case measure => simp [intOf]; omega
        · obtain rfl : k = x.length := by omega
          go_wp2_with fail
          go_meet
          case rel => exact (RowKit.Below.trans HB.out ((bdO wc n).mono HB.out.size))
end Go.Proofs.Ytjlifccaoncfcaa

/- stratalaw2.DagHolds over a dag's face: the walk. -/
namespace Go.Proofs.Ytjlifccaoncfcaa
open Go Go.RowKit Go.Proofs
set_option synthInstance.maxSize 1000

/-- the three commits in memory -/
theorem ones_at (w : World) : ComsOK (((w.alloc (.cells #[.int .i64 0] 3)).alloc (.cells #[.int .i64 0] 3)).alloc (.cells #[.slice none 0 0, .int .i64 1, .string ⟨#[]⟩, .slice (some ⟨w.heap.size, 0, none⟩) 1 1, .int .i64 1, .string ⟨#[]⟩, .slice (some ⟨w.heap.size + 1, 0, none⟩) 1 1, .int .i64 1, .string ⟨#[]⟩] 25)) (some ⟨w.heap.size + 2, 0, none⟩) 3 onesC := by
  refine ⟨fun _ => ⟨w.heap.size + 2, 0, rfl, fun i hi => ?_⟩, by decide, by decide, by decide, by decide, fun b o e i hi a n c hc => ?_⟩
  · have hi3 : i < 3 := hi
    rcases (by omega : i = 0 ∨ i = 1 ∨ i = 2) with rfl | rfl | rfl
    · exact ⟨none, 0, by go_simp; rfl, by go_simp; rfl, by go_simp; rfl, fun hne => absurd rfl hne⟩
    · exact ⟨some ⟨w.heap.size, 0, none⟩, 1, by go_simp; rfl, by go_simp; rfl, by go_simp; rfl, fun _ => ⟨w.heap.size, 0, rfl, fun j hj => by
        obtain rfl : j = 0 := by simp [onesC] at hj; omega
        go_simp; rfl⟩⟩
    · exact ⟨some ⟨w.heap.size + 1, 0, none⟩, 1, by go_simp; rfl, by go_simp; rfl, by go_simp; rfl, fun _ => ⟨w.heap.size + 1, 0, rfl, fun j hj => by
        obtain rfl : j = 0 := by simp [onesC] at hj; omega
        go_simp; rfl⟩⟩
  · cases e
    have hi3 : i < 3 := hi
    have q : ∃ a' n', (((w.alloc (.cells #[.int .i64 0] 3)).alloc (.cells #[.int .i64 0] 3)).alloc (.cells #[.slice none 0 0, .int .i64 1, .string ⟨#[]⟩, .slice (some ⟨w.heap.size, 0, none⟩) 1 1, .int .i64 1, .string ⟨#[]⟩, .slice (some ⟨w.heap.size + 1, 0, none⟩) 1 1, .int .i64 1, .string ⟨#[]⟩] 25)).cell? ⟨w.heap.size + 2, 0 + i * 3, none⟩ = some (.slice a' n' n') := by
      clear hc
      rcases (by omega : i = 0 ∨ i = 1 ∨ i = 2) with rfl | rfl | rfl
      · exact ⟨none, 0, by go_simp⟩
      · exact ⟨some ⟨w.heap.size, 0, none⟩, 1, by go_simp⟩
      · exact ⟨some ⟨w.heap.size + 1, 0, none⟩, 1, by go_simp⟩
    obtain ⟨a', n', q⟩ := q
    rw [q] at hc
    simp only [Option.some.injEq, Value.slice.injEq] at hc
    omega

theorem pars_at {l : List Cm} {i : Nat} (hi : i < l.length) : parsOf l i = l[i].1 := by
  unfold parsOf
  rw [List.getElem?_eq_getElem hi]
  rfl
/-- what is wanted, as the parents come -/
def wantP (l : List Cm) (i k : Nat) (v : List Nat) : Prop := ∀ z, z ∈ v ↔ z = i ∨ ∃ (q : Nat) (p : Nat), q < k ∧ (parsOf l i)[q]? = some (p : Int) ∧ Up l p z
theorem wantP_start (l : List Cm) (i : Nat) : wantP l i 0 [i] := fun z => by simp
theorem wantP_step {l : List Cm} {i k p : Nat} {v y : List Nat} (h : wantP l i k v) (hp : (parsOf l i)[k]? = some (p : Int)) (hy : ∀ z, z ∈ y ↔ Up l p z) : wantP l i (k + 1) (v ++ y) := by
  intro z
  rw [List.mem_append, h z, hy z]
  constructor
  · rintro ((e | ⟨q, p', h1, h2, h3⟩) | h1)
    · exact Or.inl e
    · exact Or.inr ⟨q, p', by omega, h2, h3⟩
    · exact Or.inr ⟨k, p, by omega, hp, h1⟩
  · rintro (e | ⟨q, p', h1, h2, h3⟩)
    · exact Or.inl (Or.inl e)
    · by_cases hq : q = k
      · subst hq
        rw [hp] at h2
        simp only [Option.some.injEq] at h2
        rw [show p' = p by omega] at h3
        exact Or.inr h3
      · exact Or.inl (Or.inr ⟨q, p', by omega, h2, h3⟩)
theorem wantP_end {l : List Cm} {i : Nat} {v : List Nat} (h : wantP l i (parsOf l i).length v) : ∀ z, z ∈ v ↔ Up l i z := by
  intro z
  rw [h z, up_split]
  constructor
  · rintro (e | ⟨q, p, h1, h2, h3⟩)
    · exact Or.inl e
    · exact Or.inr ⟨p, List.mem_of_getElem? h2, h3⟩
  · rintro (e | ⟨p, h1, h2⟩)
    · exact Or.inl e
    · obtain ⟨q, hq, e⟩ := List.getElem_of_mem h1
      exact Or.inr ⟨q, p, hq, by rw [List.getElem?_eq_getElem hq, e], h2⟩

set_option maxHeartbeats 64000000 in
set_option maxRecDepth 1000000 in
theorem dagHolds_any (F : DFace) (ad : Option Addr) (ca : Nat) (l : List Cm) (a b : Int) (w : World) (h : ComsOK w ad ca l) :
    Calls Try.prog 3 #[.slice ad l.length ca, .int .i64 a, .int .i64 b] w fun e w' => e = .returned (.bool true) ∧ RowKit.Below w.heap.size w w' := by
  have C0 := F.bases _ _ 3 onesC 1 2 (ones_at w)
  have T0 : twoE onesC 1 2 = 0 := two_good (i := 1) (j := 2) ones_good (by decide) (by decide)
  have HC : Hid (∀ W, RowKit.Below w.heap.size w W → ComsOK W ad ca l) := fun W hb => h.below hb
  have hb0 := hideO (bstep (bstep (balloc w (.cells #[.int .i64 0] 3)) (balloc _ (.cells #[.int .i64 0] 3))) (balloc _ (.cells #[.slice none 0 0, .int .i64 1, .string ⟨#[]⟩, .slice (some ⟨w.heap.size, 0, none⟩) 1 1, .int .i64 1, .string ⟨#[]⟩, .slice (some ⟨w.heap.size + 1, 0, none⟩) 1 1, .int .i64 1, .string ⟨#[]⟩] 25)))
  rw [T0] at C0
  clear h T0
  go_enter Try.func3, Try.ntmps3
  go_wp2_with fail
  refine C0.mono ?_
  rintro e w1 ⟨fd, fc, f, rfl, f1, _, f3, hb1, _, _, _⟩
  obtain rfl : f = [0] := ones_base (f1 rfl)
  have HB1 := hideO (bstep hb0.out hb1)
  obtain ⟨b0, o0, e0, c0⟩ := f3.natD (k := 0) (by simp)
  subst e0
  simp only [Nat.add_zero, List.getD_cons_zero] at c0
  rw [errV_zero, show ([0] : List Nat).length = 1 from rfl]
  clear C0 hb0 hb1 f1 f3
  dsimp only
  go_wp2_with fail
  refine (F.anc _ ad ca l a (HC.out _ HB1.out)).mono ?_
  rintro e w2 ⟨xd, xc, x, rfl, x1, _, x3, hb2, x4, _, _⟩
  have HB2 := hideO (bstep HB1.out hb2)
  have SX := hideO x3
  clear HB1 hb2 x3 c0
  dsimp only
  by_cases hf : ancE l a = 0
  · obtain ⟨G, a0, a1⟩ := ancE_zero hf
    obtain ⟨i, hi⟩ : ∃ i : Nat, a = (i : Int) := ⟨a.toNat, by omega⟩
    subst hi
    have hx := x1 hf
    simp only [Int.toNat_natCast] at hx
    have hil : i < l.length := by omega
    rw [hf, errV_zero]
    have HX := hideO (And.intro hx (And.intro G hil))
    have hpar := good_pars G hil
    have hpl : (parsOf l i).length ≤ 2 := by
      have := G.2 i hil
      rw [pars_at hil]
      unfold comN at this
      split at this
      · simp at this
      · rename_i hh; omega
    have HP := hideO hpar
    obtain ⟨lb, lo, pa, pc, e1, d0, d1, d2, d3⟩ := (HC.out _ HB2.out).sl.at hil
    rw [← pars_at hil] at d0 d3
    subst e1
    have HD := hideO (And.intro d0 d3)
    clear hf x1 hx G d0 d1 d2 d3 a0 hpar
    go_upto_block 0 with fail
    go_cut [12, 13] (fun v12 _ W' => ∃ (vd : Option Addr) (vc : Nat) (v : List Nat), v12 = .slice vd v.length vc ∧ Hid (∀ z, z ∈ v ↔ Up l i z) ∧ v.length ≤ 1000 ∧ Hid (SlI W' vd (natI v)) ∧ Hid (RowKit.Below w2.heap.size w2 W'))
    case rest =>
      obtain ⟨vd, vc, v, rfl, hv, lv, sv, hbv⟩ := hcut
      refine go_on (by assumption) ?_
      exact dhWant F _ _ _ _ _ _ _ _ _ _ _ _ _ _ _ _ _ _ _ _ _ _ _ _ _ _ _ _ _ _ _ _ _ _ _ _ _ _ _ _ _ _ _ _ _ _ _ _ _ _ _ _ _ _ _ _ _ _ _ _ _ _ _ _ _ _ _ _ _ _ _ _ _ _ _ _ _ _ _ _ _ _ _ _ _ _ _ _ _ _ _ _ _ _ _ _ _ _ _ _ _ _ _ _ _ _ _ _ _ _ _ _ _ _ _ _ _ _ _ _ _ _ _ _ _ _ _ _ _ _ _ _ _ _ _ _ _ _ _ _ _ _ _ _ _ _ _ _ _ _ _ _ _ _ _ _ _ _ _ _ _ _ _ _ _ _ _ _ _ _ _ _ _ _ _ _ _ _ _ _ _ _ _ _ _ _ _ _ _ _ _ _ _ _ _ _ _ _ _ _ _ _ _ _ _ _ _ _ _ _ _ _ _ _ _ _ _ _ _ _ _ _ _ _ _ _ _ _ _ _ _ _ _ _ _ _ _ _ _ _ _ _ _ _ _ _ _ _ _ _ (some ⟨lb, lo, none⟩) ca l i b xd vd xc vc x v w wc HX.out.2.1 HX.out.2.2 HC.out (bstep HB2.out hbv.out) HX.out.1 x4 (SX.out.below hbv.out) hv.out lv sv.out
    case first =>
      obtain ⟨i0', hi0, hz0, hz1, hz2⟩ := info_parts infoU
      go_wp2_with fail
      go_loopw [12, 13] (fun v12 kk wr => ∃ (k : Nat) (v : List Nat), k ≤ (parsOf l i).length ∧ kk = .int .i64 k ∧ Hid (wr.ownsRow w2.heap.size 3 1 v12 v.length (cellsU v)) ∧ Hid (wantP l i k v) ∧ v.length ≤ 1 + 60 * k ∧ Hid (RowKit.Below w2.heap.size w2 wr)) (fun _ kk wr => (parsOf l i).length - (intOf kk).toNat)
      case atStart => exact ⟨0, [i], by omega, rfl, ownU_one w2 i, wantP_start l i, by simp, balloc w2 _⟩
      case round =>
        obtain ⟨k, v, hk, rfl, ho, hv, lv, hbr⟩ := hrel
        have d0 : wr.cell? ⟨lb, lo + i * 3, none⟩ = some (.slice pa (parsOf l i).length pc) := (hbr.out.cell (World.block_lt_of_cell? w2 _ HD.out.1)).trans HD.out.1
        have hlb := World.block_lt_of_cell? _ _ d0
        have i0 : (0 : Int) ≤ (i : Int) := by omega
        by_cases hlt : k < (parsOf l i).length
        · obtain ⟨pb, po, e2, c2⟩ := (HD.out.2.below hbr.out).at hlt
          have hp := HP.out _ (List.getElem_mem hlt)
          obtain ⟨p, hpe⟩ : ∃ p : Nat, (parsOf l i)[k] = (p : Int) := ⟨(parsOf l i)[k].toNat, by omega⟩
          have hpl2 : p < l.length := by omega
          have hst : Hid (∀ y : List Nat, (∀ z, z ∈ y ↔ Up l p z) → wantP l i (k + 1) (v ++ y)) := fun y hy => wantP_step hv.out (by rw [List.getElem?_eq_getElem hlt, hpe]) hy
          have D := F.anc wr (some ⟨lb, lo, none⟩) ca l p (HC.out _ (bstep HB2.out hbr.out))
          rw [ancE_good HX.out.2.1 (by omega) (by omega)] at D
          simp only [Int.toNat_natCast] at D
          rw [hpe] at c2
          subst e2
          have k0 : (0 : Int) ≤ (k : Int) := by omega
          have k1 : (k : Int) < ((parsOf l i).length : Int) := by omega
          clear hp hpe hv
          generalize (parsOf l i).length = pl at *
          go_wp2_with fail
          refine D.mono ?_
          rintro e w5 ⟨yd, yc, y, rfl, y1, _, y3, hb5, y4, _, _⟩
          have hy := y1 rfl
          have hyp : p ∈ y := (hy.2 p).2 (Up.refl l p)
          have hpos : 0 < y.length := List.length_pos_iff.2 fun e => by rw [e] at hyp; simp at hyp
          obtain ⟨yb, yo, e3, c3⟩ := y3 (fun e => by have h9 := congrArg List.length e; rw [natI_len] at h9; have h8 : y.length = 0 := h9; omega)
          subst e3
          have Hw := hideO (hst.out y hy.2)
          have Ho := hideO (ownsO_below ho.out hb5)
          have hnews : ∀ (j : Nat) u, (cellsU y)[j]? = some u → w5.cell? ((⟨yb, yo, none⟩ : Addr).add j) = some u := fun j u hu => by
            have hj : j < y.length := by have := (List.getElem?_eq_some_iff.1 hu).1; simpa [cellsU] using this
            have h1 := c3 j (by rw [natI_len]; exact hj)
            rw [Addr.add_lit, h1, ← hu]
            simp [cellsU, natI, hj]
          have Hn := hideO hnews
          have Hb5 := hideO (bstep hbr.out hb5)
          clear D hst y1 y3 hy hyp c3 hnews hb5 hbr ho c2 d0
          rw [errV_zero]
          dsimp only
          go_wp2_with (at_builtin; refine wpList_append_own _ rfl _ _ 23 rfl w2.heap.size 3 i0' (.int .i64 0) 1 8 Try.underlying23 hi0 hz0 hz1 hz2 rfl (by decide) _ _ _ rfl Ho.out ⟨yb, yo, none⟩ y.length yc (cellsU y) rfl (by simp [cellsU]) Hn.out (by simp [cellsU, Value.oneCell']) (by unfold maxLen; omega) (by omega) (by have := Hb5.out.size; omega) ?_)
          intro v' w7 h2 h3 _
          have hb7 : Hid (RowKit.Below w2.heap.size w2 w7) := Hb5.out.grown h3 Hb5.out.size (fun j hj => (Ho.out.lt j hj).1)
          have ho7 : Hid (w7.ownsRow w2.heap.size 3 1 v' (v ++ y).length (cellsU (v ++ y))) := by
            show World.ownsRow _ _ _ _ _ _ _
            rw [List.length_append]
            simpa [cellsU] using h2
          clear h2 h3
          go_wp2_with fail
          go_roundw
          case rel => exact ⟨k + 1, v ++ y, by omega, by go_num, ho7, Hw, by rw [List.length_append]; omega, hb7⟩
          case measure => simp [intOf]; omega
        · have hkk : k = (parsOf l i).length := by omega
          obtain ⟨vd, vc, rfl, sv⟩ := ownU_sl ho.out
          have hfin : Hid ((∀ z, z ∈ v ↔ Up l i z) ∧ SlI wr vd (natI v)) := ⟨wantP_end (by rw [← hkk]; exact hv.out), sv⟩
          clear hv ho sv
          subst hkk
          go_wp2_with fail
          go_meet
          case rel => exact ⟨vd, vc, v, rfl, hfin.out.1, by omega, hfin.out.2, hbr⟩
  · rw [errV_some hf]
    clear x1
    generalize ancE l a = f at *
    go_wp2_with fail
    go_ret
    exact ⟨rfl, HB2.out⟩
end Go.Proofs.Ytjlifccaoncfcaa
