import Derived.Test.YtenakehnnmencagGreatDoorMA0x7
import Derived.Test.YtenakehnnmencagGreatDoorMA0x4
import Derived.Deep.Draws
import Derived.Deep.DeepCutAuto
import Derived.RegionTactic
import Derived.Test.YtenakehnnmencagGreatDoorMA0x5

/- stratasame.Parts and stratasame.Query of what is the same. -/
namespace Go.Proofs.YtenakehnnmencagGreatDoor
open Go Go.RowKit Go.Proofs Go.Maps
set_option synthInstance.maxSize 1000

set_option maxRecDepth 100000 in
set_option maxHeartbeats 1000000 in
theorem equalPt (x : Pt) (w : World) : (Op.equalIn 10000 108 (valPt x) (valPt x)).run Tryz.prog w = .ok true w := by
  have hS : Tryz.prog.underlying 108 = some (.struct (Tryz.prog.fieldsOf 108)) := by kernel_rfl
  unfold valPt
  rw [show (10000 : Nat) = 9999 + 1 from rfl, run_equalIn_agg w 9999 108 _ _ hS (by kernel_rfl)]
  simp only [Program.fieldsOf, Tryz.underlying108]
  go_simp
theorem neqPt (x : Pt) (w : World) : (binOp .neq 108 (valPt x) (valPt x)).run Tryz.prog w = .ok (.bool false) w := by
  have h := equalPt x w
  unfold valPt at h ⊢
  rw [run_neq_struct, h]; rfl
theorem neqPtV (x : Pt) (w : World) : (binOp .neq 108 (.agg #[.string ⟨x.1.1.toArray⟩, .int .i64 x.1.2.1, .string ⟨x.1.2.2.1.toArray⟩, .string ⟨x.1.2.2.2.toArray⟩, .string ⟨x.2.1.1.toArray⟩, .int .i64 x.2.1.2.1, .string ⟨x.2.1.2.2.1.toArray⟩, .string ⟨x.2.1.2.2.2.toArray⟩, .string ⟨x.2.2.1.toArray⟩, .int .i64 x.2.2.2.1, .string ⟨x.2.2.2.2.1.toArray⟩, .string ⟨x.2.2.2.2.2.toArray⟩]) (.agg #[.string ⟨x.1.1.toArray⟩, .int .i64 x.1.2.1, .string ⟨x.1.2.2.1.toArray⟩, .string ⟨x.1.2.2.2.toArray⟩, .string ⟨x.2.1.1.toArray⟩, .int .i64 x.2.1.2.1, .string ⟨x.2.1.2.2.1.toArray⟩, .string ⟨x.2.1.2.2.2.toArray⟩, .string ⟨x.2.2.1.toArray⟩, .int .i64 x.2.2.2.1, .string ⟨x.2.2.2.2.1.toArray⟩, .string ⟨x.2.2.2.2.2.toArray⟩])).run Tryz.prog w = .ok (.bool false) w := neqPt x w
attribute [local go_sem ↓] neqPtV

set_option maxHeartbeats 2000000 in
set_option maxRecDepth 100000 in
theorem SameParts_true (ad bd : Option Addr) (ca cb : Nat) (l : List Pt) (w : World) (hl : SlPt w ad l) (hm : SlPt w bd l) (h200 : l.length ≤ 9223372036854775807) :
    Calls Tryz.prog 67 #[.slice ad l.length ca, .slice bd l.length cb] w fun e w' => e = .returned (.bool true) ∧ RowKit.Below w.heap.size w w' := by
  have Hl := hideQ hl
  have Hm := hideQ hm
  clear hl hm
  have hd : ((l.length : Int) != (l.length : Int)) = false := by simp
  go_enter Tryz.func67, Tryz.ntmps67
  go_wp2_with fail
  go_loopw [5] (fun i wr => ∃ (k q : Nat), k ≤ l.length ∧ i = .int .i64 k ∧ wr = w.drewN q) (fun i wr => l.length - (intOf i).toNat)
  case atStart => exact ⟨0, 0, by omega, rfl, rfl⟩
  case round =>
    obtain ⟨k, q, hk, rfl, rfl⟩ := hrel
    by_cases hlt : k < l.length
    · obtain ⟨b, o, rfl, hr⟩ := Hl.out.at k hlt
      obtain ⟨b', o', rfl, hr'⟩ := Hm.out.at k hlt
      have hat := hr.at k hlt
      have hat' := hr'.at k hlt
      have e0 := hat 0 _ rfl
      have e1 := hat 1 _ rfl
      have e2 := hat 2 _ rfl
      have e3 := hat 3 _ rfl
      have e4 := hat 4 _ rfl
      have e5 := hat 5 _ rfl
      have e6 := hat 6 _ rfl
      have e7 := hat 7 _ rfl
      have e8 := hat 8 _ rfl
      have e9 := hat 9 _ rfl
      have e10 := hat 10 _ rfl
      have e11 := hat 11 _ rfl
      rw [Nat.add_zero] at e0
      have f0 := hat' 0 _ rfl
      have f1 := hat' 1 _ rfl
      have f2 := hat' 2 _ rfl
      have f3 := hat' 3 _ rfl
      have f4 := hat' 4 _ rfl
      have f5 := hat' 5 _ rfl
      have f6 := hat' 6 _ rfl
      have f7 := hat' 7 _ rfl
      have f8 := hat' 8 _ rfl
      have f9 := hat' 9 _ rfl
      have f10 := hat' 10 _ rfl
      have f11 := hat' 11 _ rfl
      rw [Nat.add_zero] at f0
      have i0 : (0 : Int) ≤ (k : Int) := by omega
      have i1 : (k : Int) < (l.length : Int) := by omega
      clear hr hr' hat hat'
      go_wp2_with fail
      go_region
      go_wp2
      exact ⟨⟨k + 1, q + 1, by omega, by go_num, rfl⟩, by simp [intOf]; omega⟩
    · go_wp2
      go_ret
      exact ⟨rfl, ⟨rfl, rfl, rfl, Nat.le_refl _, fun _ _ => rfl⟩⟩

set_option maxHeartbeats 4000000 in
set_option maxRecDepth 100000 in
theorem SameQuery_true (q : Qu) (vd pd vd' pd' : Option Addr) (vc pc vc' pc' : Nat) (w : World) (h : QuIn w q vd pd) (h' : QuIn w q vd' pd') (hv : q.vars.length ≤ 9223372036854775807) (hp : q.parts.length ≤ 9223372036854775807) :
    Calls Tryz.prog 26 #[valQ q vd vc pd pc, valQ q vd' vc' pd' pc'] w fun e w' => e = .returned (.bool true) ∧ RowKit.Below w.heap.size w w' := by
  have HT := fun W hW => SameTextsW_any vd vd' vc vc' q.vars q.vars W (h.below hW).vars (h'.below hW).vars hv hv
  have HP := fun W hW => SameParts_true pd pd' pc pc' q.parts W (h.below hW).parts (h'.below hW).parts hp
  have hdt : decide (q.vars = q.vars) = true := by simp
  rw [hdt] at HT
  have so : (q.order == q.order) = true := by simp
  have sd : (q.down == q.down) = true := by simp
  have si : (q.dist == q.dist) = true := by simp
  have sl : (q.lim == q.lim) = true := by simp
  clear h h' hdt
  unfold valQ
  obtain ⟨w1, hw1⟩ : ∃ w1, w1 = w.alloc (.cells #[.slice vd q.vars.length vc, .slice pd q.parts.length pc, .string ⟨q.order.toArray⟩, .bool q.down, .bool q.dist, .int .i64 q.lim] 52) := ⟨_, rfl⟩
  obtain ⟨w2, hw2⟩ : ∃ w2, w2 = w1.alloc (.cells #[.slice vd' q.vars.length vc', .slice pd' q.parts.length pc', .string ⟨q.order.toArray⟩, .bool q.down, .bool q.dist, .int .i64 q.lim] 52) := ⟨_, rfl⟩
  have hz : w1.heap.size = w.heap.size + 1 := by rw [hw1]; simp
  have hb2 : RowKit.Below w.heap.size w w2 := by rw [hw2, hw1]; exact bstep (balloc _ _) (balloc _ _)
  have HA : Hid (BoxQ w2 w.heap.size q vd pd vc pc) := by show BoxQ _ _ _ _ _ _ _; rw [hw2]; refine BoxQ.below ?_ (balloc _ _); rw [hw1]; exact boxQ_new _ _ _ _ _ _
  have HB : Hid (BoxQ w2 (w.heap.size + 1) q vd' pd' vc' pc') := by show BoxQ _ _ _ _ _ _ _; rw [hw2, ← hz]; exact boxQ_new _ _ _ _ _ _
  have HW2 := hideQ hw2
  rw [hw1] at HW2
  clear hw1 hw2 hz
  go_enter Tryz.func26, Tryz.ntmps26
  go_upto_region 1 with fail
  rw [← HW2.out]
  clear HW2
  obtain ⟨a0, a1, a2, a3, a4, a5⟩ := HA.out
  obtain ⟨b0, b1, b2, b3, b4, b5⟩ := HB.out
  go_wp2_with fail
  refine (HT _ hb2).mono ?_
  rintro e w3 ⟨rfl, hb3⟩
  have hB3 := bstep hb2 hb3
  have HA3 := hideQ (HA.out.below hb3)
  have HB3 := hideQ (HB.out.below hb3)
  clear a0 a1 a2 a3 a4 a5 b0 b1 b2 b3 b4 b5 HA HB
  obtain ⟨a0, a1, a2, a3, a4, a5⟩ := HA3.out
  obtain ⟨b0, b1, b2, b3, b4, b5⟩ := HB3.out
  go_wp2_with fail
  refine (HP _ hB3).mono ?_
  rintro e w4 ⟨rfl, hb4⟩
  have hB4 := bstep hB3 hb4
  have HA4 := hideQ (HA3.out.below hb4)
  have HB4 := hideQ (HB3.out.below hb4)
  clear a0 a1 a2 a3 a4 a5 b0 b1 b2 b3 b4 b5 HA3 HB3
  obtain ⟨a0, a1, a2, a3, a4, a5⟩ := HA4.out
  obtain ⟨b0, b1, b2, b3, b4, b5⟩ := HB4.out
  go_wp2_with fail
  go_ret
  exact ⟨rfl, hB4⟩
end Go.Proofs.YtenakehnnmencagGreatDoor

/- stratalaw2.AskBack: the walk, over an ask's face. -/
namespace Go.Proofs.YtenakehnnmencagGreatDoor
open Go Go.RowKit Go.Proofs Go.Maps
set_option synthInstance.maxSize 1000

attribute [local go_sem] eql_errV neq_errV guard_errV

/-- the question that the law asks first -/
def factQ : Qu := ⟨[[120]], [(([120], tmZero), ([], (1, [97], [])), ([121], tmZero))], [], false, false, 3⟩
def factT : List UInt8 := [115, 101, 108, 101, 99, 116, 32, 63, 120, 32, 119, 104, 101, 114, 101, 32, 63, 120, 32, 97, 32, 63, 121, 32, 108, 105, 109, 105, 116, 32, 51]
theorem fact_ask : askN factQ = 0 := by decide +kernel
theorem fact_text : textQ factQ = factT := by
  have h : digitsN (3 : Int).toNat = [51] := digits_lt (n := 3) (by omega)
  have e : wordsQ factQ = [wSel, [63, 120], wWhere, [63, 120], [97], [63, 121], wLimit, [51]] := by
    unfold wordsQ limT ordT factQ
    dsimp only
    rw [if_pos (show (0 : Int) ≤ 3 by omega), h]
    rfl
  unfold textQ
  rw [e]
  rfl
theorem fact_parse : parseQN factT = 0 ∧ parseQP factT = 0 ∧ parseQQ factT = factQ := by
  rw [← fact_text]
  exact parse_text fact_ask
set_option maxHeartbeats 16000000 in
set_option maxRecDepth 100000 in
theorem askBack_any (F : AFace) (q : Qu) (vd pd : Option Addr) (vc pc : Nat) (s : List UInt8) (w : World) (h : QuIn w q vd pd) (hf : FitQ q) (hvc : q.vars.length ≤ vc) (hpc : q.parts.length ≤ pc) (hlim : s.length ≤ F.lim) (hten : 10000 ≤ F.lim) (hok : F.ok w) :
    Calls Tryz.prog 6 #[valQ q vd vc pd pc, .string ⟨s.toArray⟩] w fun e w' => e = .returned (.bool true) ∧ RowKit.Below w.heap.size w w' := by
  obtain ⟨B0, hB0⟩ : ∃ B0, B0 = w.alloc (.cells #[.slice vd q.vars.length vc, .slice pd q.parts.length pc, .string ⟨q.order.toArray⟩, .bool q.down, .bool q.dist, .int .i64 q.lim] 52) := ⟨_, rfl⟩
  have hw0 : RowKit.Below w.heap.size w B0 := by rw [hB0]; exact balloc _ _
  have HB : Hid (BoxQ B0 w.heap.size q vd pd vc pc) := by show BoxQ _ _ _ _ _ _ _; rw [hB0]; exact boxQ_new _ _ _ _ _ _
  have HA : Hid (∀ W, RowKit.Below B0.heap.size B0 W → QuIn W q vd pd ∧ RowKit.Below w.heap.size w W ∧ BoxQ W w.heap.size q vd pd vc pc) := fun W h1 => ⟨h.below (bstep hw0 h1), bstep hw0 h1, HB.out.below h1⟩
  have HK : Hid (∀ W, RowKit.Below B0.heap.size B0 W → F.ok W) := fun W h1 => F.keep hok (bstep hw0 h1)
  have C1 := fun W hk => F.parse factT W hk (Nat.le_trans (by decide) hten)
  have C2 := fun W hk h1 => F.print q vd pd vc pc W hk h1 hf hvc hpc
  have C3 := hideQ (fun (h0 : askN q = 0) W hk => F.parse (textQ q) W hk (Nat.le_trans (text_len h0) hten))
  have C4 := fun W v1 v2 p1 p2 c1 c2 d1 d2 h1 h2 => SameQuery_true q v1 p1 v2 p2 c1 d1 c2 d2 W h1 h2 hf.vl hf.pl
  have C5 := fun W hk => F.parse s W hk hlim
  have C6 := fun W v1 p1 c1 d1 hk h1 h2 h3 => F.print (parseQQ s) v1 p1 c1 d1 W hk h1 (parse_fitQ s) h2 h3
  have C7 := fun W v1 p1 c1 d1 hk h1 h2 h3 => F.check (parseQQ s) v1 p1 c1 d1 W hk h1 (parse_fitQ s) h2 h3
  obtain ⟨f0, _, f3⟩ := fact_parse
  have f1 : F.pn factT = 0 := (F.own _).2 f0
  have f2 : F.pp factT = 0 := F.place _ f1
  have HPT := hideQ (fun h0 : askN q = 0 => (show F.pn (textQ q) = 0 ∧ F.pp (textQ q) = 0 ∧ parseQQ (textQ q) = q from ⟨(F.own _).2 (parse_text h0).1, F.place _ ((F.own _).2 (parse_text h0).1), (parse_text h0).2.2⟩))
  have HPS := hideQ (F.own s)
  unfold AskAns at C1 C3 C5
  simp only [f1, f2, f3] at C1
  have hpr : Hid (printQ q = if askN q = 0 then textQ q else []) := rfl
  have HB0 := hideQ hB0
  unfold valQ at C1 C2 C3 C4 C5 C6 C7 ⊢
  clear h hf hlim hten f0 f1 f2 f3 hB0 hw0 hok
  unfold factT factQ at C1
  dsimp only at C1
  go_enter Tryz.func6, Tryz.ntmps6
  go_upto_region 1 with fail
  rw [← HB0.out]
  have hR := RowKit.Below.refl B0.heap.size B0
  go_wp2_with fail
  refine (C1 _ (HK.out _ hR)).mono ?_
  rintro e w1 ⟨v1, c1, p1, d1, rfl, hin1, _, _, hb1⟩
  dsimp only
  go_upto_region 2 with fail
  obtain ⟨W2, hW2⟩ : ∃ W2, W2 = w1.alloc (.cells #[.slice v1 1 c1, .slice p1 1 d1, .string ⟨#[]⟩, .bool false, .bool false, .int .i64 3] 52) := ⟨_, rfl⟩
  have x0 : W2.cell? ⟨w1.heap.size, 0, none⟩ = some (.slice v1 1 c1) := by rw [hW2]; go_simp
  have x1 : W2.cell? ⟨w1.heap.size, 1, none⟩ = some (.slice p1 1 d1) := by rw [hW2]; go_simp
  have x5 : W2.cell? ⟨w1.heap.size, 5, none⟩ = some (.int .i64 3) := by rw [hW2]; go_simp
  have hb2 : RowKit.Below w1.heap.size w1 W2 := by rw [hW2]; exact balloc _ _
  obtain ⟨b, o, rfl, ck⟩ := (hin1.below hb2).vars.at 0 (by simp)
  have ck' : W2.cell? ⟨b, o, none⟩ = some (.string ⟨#[120]⟩) := ck
  have HW2 := hideQ hW2
  have hB2 := bstep (bstep hR hb1) hb2
  clear hW2 hin1 hb1 hb2 C1 ck hR
  first | rw [← HW2.out] | skip
  go_upto_region 4 with fail
  clear x0 x1 x5 ck' HW2
  obtain ⟨x0, x1, x2, x3, x4, x5⟩ := (HA.out _ hB2).2.2
  go_wp2_with fail
  refine (C2 _ (HK.out _ hB2) (HA.out _ hB2).1).mono ?_
  rintro e w3 ⟨rfl, hb3⟩
  dsimp only
  have hB3 := bstep hB2 hb3
  clear hb3 C2 x0 x1 x2 x3 x4 x5
  generalize hT : printQ q = T at *
  generalize hN : askN q = N at *
  have HT := hideQ hT
  have HN := hideQ hN
  clear hT hN hpr
  go_upto_if 58 with fail
  go_cut [10, 11, 12, 13] from 58 to 73 (fun _ _ _ _ W => RowKit.Below B0.heap.size B0 W)
  case first =>
    by_cases h0 : N = 0
    · subst h0
      have E0 : textQ q = T := by rw [← HT.out, printQ, if_pos HN.out]
      have CT := C3.out rfl
      obtain ⟨g1, g2, g3⟩ := HPT.out rfl
      simp only [g1, g2, g3] at CT
      rw [E0] at CT
      clear g1 g2 g3 E0
      go_wp2_with fail
      refine (CT _ (HK.out _ hB3)).mono ?_
      rintro e w4 ⟨v2, c2, p2, d2, rfl, hin2, _, _, hb4⟩
      dsimp only
      go_upto_region 7 with fail
      obtain ⟨W5, hW5⟩ : ∃ W5, W5 = w4.alloc (.cells #[.slice v2 q.vars.length c2, .slice p2 q.parts.length d2, .string ⟨q.order.toArray⟩, .bool q.down, .bool q.dist, .int .i64 q.lim] 52) := ⟨_, rfl⟩
      have hb5 : RowKit.Below w4.heap.size w4 W5 := by rw [hW5]; exact balloc _ _
      have X5 : Hid (BoxQ W5 w4.heap.size q v2 p2 c2 d2) := by show BoxQ _ _ _ _ _ _ _; rw [hW5]; exact boxQ_new _ _ _ _ _ _
      have HW5 := hideQ hW5
      have hB5 := bstep (bstep hB3 hb4) hb5
      have Hin5 := hideQ (hin2.below hb5)
      clear hW5 hb4 hb5 hin2 CT
      rw [← HW5.out]
      obtain ⟨y0, y1, y2, y3, y4, y5⟩ := X5.out
      obtain ⟨x0, x1, x2, x3, x4, x5⟩ := (HA.out _ hB5).2.2
      go_wp2_with fail
      refine (C4 _ v2 vd p2 pd c2 vc d2 pc Hin5.out (HA.out _ hB5).1).mono ?_
      rintro e w6 ⟨rfl, hb6⟩
      dsimp only
      clear x0 x1 x2 x3 x4 x5 y0 y1 y2 y3 y4 y5
      go_wp2_with fail
      go_meet
      exact bstep hB5 hb6
    · have hN : (N == 0) = false := by simpa using h0
      clear h0
      go_wp2_with fail
      go_meet
      exact hB3
  case rest =>
    have hB4 := hcut
    clear C3 C4 hB3
    go_wp2_with fail
    refine (C5 _ (HK.out _ hB4)).mono ?_
    rintro e w7 ⟨v2, c2, p2, d2, rfl, hin2, hvc2, hpc2, hb7⟩
    dsimp only
    have hB7 := bstep hB4 hb7
    by_cases h0 : F.pn s = 0
    · obtain ⟨g1, g2, g3⟩ := text_parse (HPS.out.1 h0)
      have E1 := hideQ (show printQ (parseQQ s) = s by unfold printQ; rw [if_pos g1, g2])
      rw [E1.out, g1] at C6
      rw [g1] at C7
      rw [h0]
      clear g1 g2 g3 h0 E1
      go_upto_region 11 with fail
      obtain ⟨W8, hW8⟩ : ∃ W8, W8 = w7.alloc (.cells #[.slice v2 (parseQQ s).vars.length c2, .slice p2 (parseQQ s).parts.length d2, .string ⟨(parseQQ s).order.toArray⟩, .bool (parseQQ s).down, .bool (parseQQ s).dist, .int .i64 (parseQQ s).lim] 52) := ⟨_, rfl⟩
      have hb8 : RowKit.Below w7.heap.size w7 W8 := by rw [hW8]; exact balloc _ _
      have X8 : Hid (BoxQ W8 w7.heap.size (parseQQ s) v2 p2 c2 d2) := by show BoxQ _ _ _ _ _ _ _; rw [hW8]; exact boxQ_new _ _ _ _ _ _
      have HW8 := hideQ hW8
      have hB8 := bstep hB7 hb8
      have Hin8 := hideQ (hin2.below hb8)
      clear hW8 hb7 hb8 hin2 C5
      rw [← HW8.out]
      obtain ⟨y0, y1, y2, y3, y4, y5⟩ := X8.out
      go_wp2_with fail
      refine (C6 _ v2 p2 c2 d2 (HK.out _ hB8) Hin8.out hvc2 hpc2).mono ?_
      rintro e w9 ⟨rfl, hb9⟩
      dsimp only
      have hB9 := bstep hB8 hb9
      clear y0 y1 y2 y3 y4 y5
      obtain ⟨y0, y1, y2, y3, y4, y5⟩ := X8.out.below hb9
      have ss : (s == s) = true := by simp
      go_wp2_with fail
      refine (C7 _ v2 p2 c2 d2 (HK.out _ hB9) (Hin8.out.below hb9) hvc2 hpc2).mono ?_
      rintro e w10 ⟨rfl, hb10⟩
      dsimp only
      go_wp2_with fail
      go_ret
      exact ⟨rfl, (HA.out _ (bstep hB9 hb10)).2.1⟩
    · have hN : (F.pn s == 0) = false := by simpa using h0
      have hN2 : (F.pn s != 0) = true := by simpa using h0
      clear h0 C5 C6 C7 HPS
      generalize F.pn s = M at *
      go_wp2_with fail
      go_ret
      exact ⟨rfl, (HA.out _ (bstep hB7 (balloc _ _))).2.1⟩
end Go.Proofs.YtenakehnnmencagGreatDoor
