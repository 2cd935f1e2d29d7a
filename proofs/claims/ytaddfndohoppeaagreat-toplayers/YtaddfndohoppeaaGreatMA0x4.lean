import Derived.Test.YtaddfndohoppeaaGreatMA0x3
import Derived.Lib.AppendZeros
import Derived.Deep.Upon
import Derived.Test.YtaddfndohoppeaaGreatMA0x2
import Derived.Laws.EntriesVeiled
import Derived.Deep.RegionHeld3
import Derived.Deep.RegionLaw

/- slices.Grow of nothing, slices.Concat of two lists of triples. -/
namespace Go.Proofs.YtaddfndohoppeaaGreat
open Go Go.RowKit Go.Proofs
set_option synthInstance.maxSize 1000

set_option maxHeartbeats 1000000 in
set_option maxRecDepth 100000 in
theorem Grow_none (w : World) : Calls Tryz.prog 142 #[.slice none 0 0, .int .i64 0] w fun e w' => e = .returned (.slice none 0 0) ∧ w' = w := by
  go_enter Tryz.func142, Tryz.ntmps142
  go_wp2
  go_ret
  exact ⟨rfl, rfl⟩

set_option maxHeartbeats 1000000 in
set_option maxRecDepth 100000 in
theorem Grow_some (n : Nat) (w : World) (hn : 0 < n) (h400 : n ≤ 400) :
    Calls Tryz.prog 142 #[.slice none 0 0, .int .i64 n] w fun e w' => ∃ c, e = .returned (.slice (some ⟨w.heap.size, 0, none⟩) 0 c) ∧ w'.ownsRow w.heap.size 58 9 (.slice (some ⟨w.heap.size, 0, none⟩) 0 c) 0 [] ∧ RowKit.Below w.heap.size w w' := by
  obtain ⟨i0, hi, hz⟩ := Option.map_eq_some_iff.1 infoTr
  simp only [Prod.mk.injEq] at hz
  obtain ⟨hz0, hz1, hz2⟩ := hz
  have hrz := fun ty => Lib.run_append_nil_zeros w 33 3 ty 58 i0 _ .i64 .i64 Tryz.underlying33 Tryz.underlying3 hi hz0 n hn (by rw [hz1]; omega) (by omega) (by rw [hz2]; omega)
  have hge := grownCap_ge w n 0 58
  have hle := grownCap_le_maxLen w n 0 58 (by unfold maxLen; omega)
  generalize grownCap w n 0 58 = c at *
  have hd : decide ((n : Int) > 0) = true := by simp; omega
  have hd0 : decide ((n : Int) < 0) = false := by simp
  have hle' : c ≤ 9223372036854775807 := by unfold maxLen at hle; omega
  go_enter Tryz.func142, Tryz.ntmps142
  go_wp2_with (at_builtin; refine Lib.wpList_append_run _ rfl _ _ _ _ rfl _ _ rfl rfl _ _ (hrz _) ?_)
  go_ret
  refine ⟨c, rfl, ⟨rfl, Or.inr ⟨w.heap.size, c, _, rfl, Nat.le_refl _, (MapKept.heap_alloc w.drew _).1, Nat.zero_le _, hle, ?_, by simp⟩⟩, (RowKit.Below.refl _ _).drew.alloc (Nat.le_refl _) _⟩
  simp [Builtin.zeroCells, encTr]
  omega

theorem append_empty {base n : Nat} {v : Value} {cs : List Value} {W : World} (h : W.ownsRow base 58 9 v n cs) (ad : Option Addr) (cap : Nat) (ty : TypeId) :
    (Builtin.append_ #[33, 33] ty #[v, .slice ad 0 cap]).run Tryz.prog W = .ok v W := by
  obtain ⟨i, hi, hz⟩ := Option.map_eq_some_iff.1 infoTr
  have hf : (Builtin.firstCells i.size 0 (.slice ad 0 cap)).run Tryz.prog W = .ok #[] W := by
    cases ad with
    | none => exact run_firstCells_none W _ _ _ _
    | some a => exact run_firstCells_some (P := Tryz.prog) W i.size 0 a 0 cap [] (by simp) (by simp)
  rcases h.2 with ⟨rfl, h0⟩ | ⟨g, c, cur, rfl, _, _, hle, _⟩
  · simp [Builtin.append_, run_underlying Tryz.underlying33, sizeOf, typeInfo, hi, Builtin.lenOf, hf]
  · simp [Builtin.append_, run_underlying Tryz.underlying33, sizeOf, typeInfo, hi, Builtin.lenOf, hf, hle, storeCells]

/-- an append of a list to a row of one's own, for the walk -/
theorem wpList_append_list {ops : Array Oper} {rest : List Oper} {o : Oper} {a : Act} {Q : Exit → Act → World → Prop} (w : World) (hgd : o.guard = none) (s x : Operand)
    (ho : o.op = .call { callee := .builtin .append, args := #[s, x], argTypes := #[33, 33] })
    (base : Nat) (v : Value) (t l : List Tr) (ad : Option Addr) (c : Nat) (hs : a.eval s = v) (hx : a.eval x = .slice ad l.length c) (hown : w.ownsRow base 58 9 v t.length (cellsT t)) (hl : SlT w ad l)
    (h63 : t.length + l.length ≤ 1000000) (hbase : base ≤ w.heap.size)
    (h : ∀ v' w', w'.ownsRow base 58 9 v' (t ++ l).length (cellsT (t ++ l)) → RowKit.Below base w w' → wpList Tryz.prog ops Q rest (a.put o.dst v') w') : wpList Tryz.prog ops Q (o :: rest) a w := by
  obtain ⟨i0, hi, hz⟩ := Option.map_eq_some_iff.1 infoTr
  simp only [Prod.mk.injEq] at hz
  obtain ⟨hz0, hz1, hz2⟩ := hz
  cases l with
  | nil =>
    refine Lib.wpList_append_run w hgd s x _ _ ho v _ hs hx v w (append_empty hown ad c _) (h v w ?_ (RowKit.Below.refl _ _))
    simpa using hown
  | cons y r =>
    obtain ⟨b, off, rfl, hr⟩ := hl (by simp)
    refine wpList_append_own w hgd s x _ ho base 58 i0 (.agg (encTr zeroTr).toArray) 9 120 Tryz.underlying33 hi hz0 hz1 hz2 rfl (by decide) v t.length (cellsT t) hs hown ⟨b, off, none⟩ (y :: r).length c (cellsT (y :: r)) hx (cellsT_len _) ?_ (cellsT_one _) (by unfold maxLen; omega) (by omega) hbase ?_
    · intro j u hj
      rw [Addr.add_lit]
      exact hr j u hj
    · intro v' w' h2 h3 _
      refine h v' w' ?_ ((RowKit.Below.refl _ _).grown h3 hbase (fun k hk => (hown.lt k hk).1))
      rw [List.length_append]
      simpa [cellsT] using h2

set_option maxHeartbeats 4000000 in
set_option maxRecDepth 100000 in
theorem Concat_any (bs : Nat) (ad ad' : Option Addr) (ca cb : Nat) (l m : List Tr) (w : World) (h0 : w.cell? ⟨bs, 0, none⟩ = some (.slice ad l.length ca)) (h1 : w.cell? ⟨bs, 1, none⟩ = some (.slice ad' m.length cb))
    (hl : SlT w ad l) (hm : SlT w ad' m) (hl2 : l.length ≤ 200) (hm2 : m.length ≤ 200) :
    Calls Tryz.prog 98 #[.slice (some ⟨bs, 0, none⟩) 2 2] w fun e w' => ∃ ad'' c, e = .returned (.slice ad'' (l ++ m).length c) ∧ SlT w' ad'' (l ++ m) ∧ RowKit.Below w.heap.size w w' := by
  have Hl : Hid (SlT w ad l) := hl
  have Hm : Hid (SlT w ad' m) := hm
  have hbs : bs < w.heap.size := World.block_lt_of_cell? w _ h0
  clear hl hm
  go_enter Tryz.func98, Tryz.ntmps98
  go_wp2_with fail
  go_loopw [3, 11] (fun s i wr => ∃ k : Nat, k ≤ 2 ∧ i = .int .i64 k ∧ s = .int .i64 ((if 0 < k then l.length else 0 : Nat) + (if 1 < k then m.length else 0 : Nat) : Int) ∧ w = wr) (fun _ i wr => 2 - (intOf i).toNat)
  case atStart => exact ⟨0, by omega, rfl, rfl, rfl⟩
  case round =>
    obtain ⟨k, hk, rfl, rfl, rfl⟩ := hrel
    rcases (by omega : k = 0 ∨ k = 1 ∨ k = 2) with rfl | rfl | rfl
    · go_wp2_with fail
      exact ⟨⟨1, by omega, rfl, by simp, trivial⟩, by simp [intOf]⟩
    · go_wp2_with fail
      exact ⟨⟨2, by omega, rfl, by simp, trivial⟩, by simp [intOf]⟩
    · have HG : ∀ W : World, Calls Tryz.prog 142 #[.slice none 0 0, .int .i64 ((l.length : Int) + (m.length : Int))] W fun e w' => ∃ v, e = .returned v ∧ w'.ownsRow W.heap.size 58 9 v 0 [] ∧ RowKit.Below W.heap.size W w' := by
        intro W
        by_cases hz : l.length + m.length = 0
        · rw [show (l.length : Int) + (m.length : Int) = 0 by omega]
          refine (Grow_none W).mono ?_
          rintro e w' ⟨rfl, rfl⟩
          exact ⟨_, rfl, World.ownsRow_nil _ _ _ _, RowKit.Below.refl _ _⟩
        · have := Grow_some (l.length + m.length) W (by omega) (by omega)
          rw [show ((l.length + m.length : Nat) : Int) = (l.length : Int) + (m.length : Int) by omega] at this
          refine this.mono ?_
          rintro e w' ⟨c, rfl, h1, h2⟩
          exact ⟨_, rfl, h1, h2⟩
      go_wp2_with fail
      refine (HG _).mono ?_
      rintro e w1 ⟨v, rfl, hown, hb1⟩
      have Hown : Hid (w1.ownsRow w.heap.size 58 9 v 0 []) := hown
      clear hown HG
      go_wp2_with fail
      go_loopw [6, 27] (fun v i wr => ∃ k : Nat, k ≤ 2 ∧ i = .int .i64 k ∧ Hid (wr.ownsRow w.heap.size 58 9 v ((if 0 < k then l else []) ++ (if 1 < k then m else [])).length (cellsT ((if 0 < k then l else []) ++ (if 1 < k then m else [])))) ∧ RowKit.Below w.heap.size w wr) (fun _ i wr => 2 - (intOf i).toNat)
      case atStart => exact ⟨0, by omega, rfl, Hown.out, hb1⟩
      case round =>
        obtain ⟨k, hk, rfl, hown, hbr⟩ := hrel
        have hc0 : wr.cell? ⟨bs, 0, none⟩ = some (.slice ad l.length ca) := (hbr.cell hbs).trans h0
        have hc1 : wr.cell? ⟨bs, 1, none⟩ = some (.slice ad' m.length cb) := (hbr.cell hbs).trans h1
        have hzr := hbr.size
        rcases (by omega : k = 0 ∨ k = 1 ∨ k = 2) with rfl | rfl | rfl
        · have hown' : Hid (wr.ownsRow w.heap.size 58 9 _ ([] : List Tr).length (cellsT [])) := hown.out
          clear hown
          go_wp2_with (at_builtin; refine wpList_append_list _ rfl _ _ rfl w.heap.size _ [] l ad ca rfl rfl hown'.out (Hl.out.below hbr) (by simp; omega) hzr ?_; intro v' w' hown2 hb2)
          exact ⟨⟨1, by omega, rfl, by show World.ownsRow _ _ _ _ _ _ _; simpa using hown2, hbr.trans hb2⟩, by simp [intOf]⟩
        · have hown1 := hown.out
          rw [show ((if 0 < 1 then l else []) ++ (if 1 < 1 then m else [])) = l by simp] at hown1
          have hown' : Hid _ := hown1
          clear hown hown1
          go_wp2_with (at_builtin; refine wpList_append_list _ rfl _ _ rfl w.heap.size _ l m ad' cb rfl rfl hown'.out (Hm.out.below hbr) (by omega) hzr ?_; intro v' w' hown2 hb2)
          exact ⟨⟨2, by omega, rfl, by show World.ownsRow _ _ _ _ _ _ _; simpa using hown2, hbr.trans hb2⟩, by simp [intOf]⟩
        · have hown' := hown.out
          rw [show ((if 0 < 2 then l else []) ++ (if 1 < 2 then m else [])) = l ++ m by simp] at hown'
          obtain ⟨ad'', c, rfl, hsl⟩ := own_slT hown'
          clear hown' hown
          go_wp2_with fail
          go_ret
          exact ⟨ad'', c, rfl, hsl, hbr⟩
end Go.Proofs.YtaddfndohoppeaaGreat

/- Join, Less, Both, Has: what they tell. -/
namespace Go.Proofs.YtaddfndohoppeaaGreat
open Go Go.RowKit Go.Proofs
open Go.Maps
set_option synthInstance.maxSize 1000

attribute [local go_sem] eql_errV neq_errV guard_errV

/-- what is wrong with two sets -/
def bothN (a b : List Tr) : Int := if sortedN a = 0 then sortedN b else sortedN a
theorem bothN_zero {a b : List Tr} : bothN a b = 0 ↔ IsSet a ∧ IsSet b := by
  unfold bothN
  by_cases h : sortedN a = 0
  · rw [if_pos h, sortedN_set]
    exact ⟨fun hb => ⟨sortedN_set.1 h, hb⟩, fun hb => hb.2⟩
  · rw [if_neg h]
    exact ⟨fun hb => absurd hb h, fun hb => absurd (sortedN_set.2 hb.1) h⟩

set_option maxHeartbeats 1000000 in
theorem bothSorted_any (ad bd : Option Addr) (ca cb : Nat) (a b : List Tr) (w : World) (ha : SlT w ad a) (hb : SlT w bd b) (fa : ∀ x ∈ a, fitTr x) (fb : ∀ x ∈ b, fitTr x) (na : a.length ≤ 9223372036854775807) (nb : b.length ≤ 9223372036854775807) :
    Calls Tryz.prog 92 #[.slice ad a.length ca, .slice bd b.length cb] w fun e w' => e = .returned (errV (bothN a b)) ∧ RowKit.Below w.heap.size w w' := by
  have H1 := fun W hW => Sorted_any ad ca a W hW fa na
  have H2 := fun W hW => Sorted_any bd cb b W hW fb nb
  have fin : Hid (bothN a b = if sortedN a = 0 then sortedN b else sortedN a) := rfl
  have Ha : Hid (SlT w ad a) := ha
  have Hb : Hid (SlT w bd b) := hb
  generalize sortedN a = n at H1 fin
  generalize sortedN b = m at H2 fin
  clear ha hb fa fb na nb
  cases hn : (n == 0)
  · go_enter Tryz.func92, Tryz.ntmps92
    go_wp2_with fail
    refine (H1 _ Ha.out).mono ?_
    rintro e w1 ⟨rfl, hb1⟩
    go_wp2_with fail
    go_ret
    simp at hn
    exact ⟨ret_val (by rw [fin.out, if_neg hn]; rfl), hb1⟩
  · go_enter Tryz.func92, Tryz.ntmps92
    go_wp2_with fail
    refine (H1 _ Ha.out).mono ?_
    rintro e w1 ⟨rfl, hb1⟩
    go_wp2_with fail
    refine (H2 _ (Hb.out.below hb1)).mono ?_
    rintro e w2 ⟨rfl, hb2⟩
    go_wp2_with fail
    go_ret
    simp at hn
    exact ⟨ret_val (by rw [fin.out, if_pos hn]; rfl), bstep hb1 hb2⟩

/-- a call's answer: a list and a number -/
def Ans (n : Int) (P : List Tr → Prop) (w : World) (e : Ending) (w' : World) : Prop := RowKit.Below w.heap.size w w' ∧ ∃ (m : List Tr) (ad : Option Addr) (c : Nat), e = .returned (.tuple #[.slice ad m.length c, errV n]) ∧ SlT w' ad m ∧ P m

theorem Ans.mk {n : Int} {P : List Tr → Prop} {w w' : World} (hb : RowKit.Below w.heap.size w w') (m : List Tr) (ad : Option Addr) (c : Nat) (hs : SlT w' ad m) (hp : P m) : Ans n P w (.returned (.tuple #[.slice ad m.length c, errV n])) w' := ⟨hb, m, ad, c, rfl, hs, hp⟩
theorem slT_nil (W : World) (ad : Option Addr) : SlT W ad [] := fun h => absurd rfl h

def LessAns (a b m : List Tr) : Prop := m = if bothN a b = 0 then lessL a b else []
def BothAns (a b m : List Tr) : Prop := m = if bothN a b = 0 then bothL a b else []

set_option maxHeartbeats 2000000 in
set_option maxRecDepth 100000 in
theorem Less_any (ad bd : Option Addr) (ca cb : Nat) (a b : List Tr) (w : World) (ha : SlT w ad a) (hb : SlT w bd b) (fa : ∀ x ∈ a, fitTr x) (fb : ∀ x ∈ b, fitTr x) (na : a.length ≤ 9223372036854775807) (nb : b.length ≤ 9223372036854775807) :
    Calls Tryz.prog 63 #[.slice ad a.length ca, .slice bd b.length cb] w (Ans (bothN a b) (LessAns a b) w) := by
  have H := fun W h1 h2 => bothSorted_any ad bd ca cb a b W h1 h2 fa fb na nb
  have Ha : Hid (SlT w ad a) := ha
  have Hb : Hid (SlT w bd b) := hb
  have hz0 := @bothN_zero a b
  have hA0 : Hid (bothN a b ≠ 0 → LessAns a b []) := fun h => by unfold LessAns; rw [if_neg h]
  have hA1 : Hid (bothN a b = 0 → LessAns a b (lessL a b)) := fun h => by unfold LessAns; rw [if_pos h]
  generalize LessAns a b = LA at *
  generalize bothN a b = n at *
  clear ha hb fa fb na nb
  cases hn : (n == 0)
  · clear hz0
    go_enter Tryz.func63, Tryz.ntmps63
    go_wp2_with fail
    refine (H _ Ha.out Hb.out).mono ?_
    rintro e w1 ⟨rfl, hb1⟩
    go_wp2_with fail
    refine bodyPost_ret (v := .tuple #[.slice none 0 0, errV n]) (by simp [results, Tryz.results63, go_sem]) rfl (Ans.mk hb1 [] none 0 (slT_nil _ _) (hA0.out (by simpa using hn)))
  · obtain ⟨sa, sb⟩ := hz0.1 (by simpa using hn)
    have HK := fun W hW (bl : Nat) (hN : NotOK W bl b) => keep_any ad ca 95 bl a (fun x => !decide (x ∈ b)) W hW sa.1 enters95 (fun x hx W' hW' => notLess_any bl b x W' (hN.below hW') (sa.2.1 x hx))
    have HA := fun W hW => asker_any bd cb b W hW sb.2.1 sb.1
    have h0 : n = 0 := by simpa using hn
    have hA2 : Hid _ := hA1.out h0
    clear hA0 hA1
    subst h0
    rw [show errV 0 = .nilIface from rfl] at H
    clear sa sb hz0 hn
    go_enter Tryz.func63, Tryz.ntmps63
    go_wp2_with fail
    refine (H _ Ha.out Hb.out).mono ?_
    rintro e w1 ⟨rfl, hb1⟩
    go_wp2_with fail
    refine (HA _ (Hb.out.below hb1)).mono ?_
    rintro e w2 ⟨bx, rfl, hask, hb2⟩
    have hB2 := bstep hb1 hb2
    have Hask : Hid (AskOK w2 bx b) := hask
    clear hask
    go_wp2_with fail
    refine (HK _ ?h1 _ ?h2).mono ?_
    case h1 => exact Ha.out.below (bstep hB2 (balloc _ _))
    case h2 => exact ⟨bx, by go_simp, Hask.out.below (balloc _ _)⟩
    rintro e w3 ⟨ad', c', rfl, hsl, hb3⟩
    go_wp2_with fail
    refine bodyPost_ret (v := .tuple #[.slice ad' (a.filter fun x => !decide (x ∈ b)).length c', .nilIface]) (by simp [results, Tryz.results63, go_sem]) rfl (Ans.mk (n := 0) (bstep (bstep hB2 (balloc _ _)) hb3) _ ad' c' hsl hA2.out)

set_option maxHeartbeats 2000000 in
set_option maxRecDepth 100000 in
theorem Both_any (ad bd : Option Addr) (ca cb : Nat) (a b : List Tr) (w : World) (ha : SlT w ad a) (hb : SlT w bd b) (fa : ∀ x ∈ a, fitTr x) (fb : ∀ x ∈ b, fitTr x) (na : a.length ≤ 9223372036854775807) (nb : b.length ≤ 9223372036854775807) :
    Calls Tryz.prog 62 #[.slice ad a.length ca, .slice bd b.length cb] w (Ans (bothN a b) (BothAns a b) w) := by
  have H := fun W h1 h2 => bothSorted_any ad bd ca cb a b W h1 h2 fa fb na nb
  have Ha : Hid (SlT w ad a) := ha
  have Hb : Hid (SlT w bd b) := hb
  have hz0 := @bothN_zero a b
  have hA0 : Hid (bothN a b ≠ 0 → BothAns a b []) := fun h => by unfold BothAns; rw [if_neg h]
  have hA1 : Hid (bothN a b = 0 → BothAns a b (bothL a b)) := fun h => by unfold BothAns; rw [if_pos h]
  generalize BothAns a b = LA at *
  generalize bothN a b = n at *
  clear ha hb fa fb na nb
  cases hn : (n == 0)
  · clear hz0
    go_enter Tryz.func62, Tryz.ntmps62
    go_wp2_with fail
    refine (H _ Ha.out Hb.out).mono ?_
    rintro e w1 ⟨rfl, hb1⟩
    go_wp2_with fail
    refine bodyPost_ret (v := .tuple #[.slice none 0 0, errV n]) (by simp [results, Tryz.results62, go_sem]) rfl (Ans.mk hb1 [] none 0 (slT_nil _ _) (hA0.out (by simpa using hn)))
  · obtain ⟨sa, sb⟩ := hz0.1 (by simpa using hn)
    have HK := fun W hW (bl : Nat) (hN : AskOK W bl b) => keep_any ad ca 138 bl a (fun x => decide (x ∈ b)) W hW sa.1 enters138 (fun x hx W' hW' => ask_any bl b x W' (hN.below hW') (sa.2.1 x hx))
    have HA := fun W hW => asker_any bd cb b W hW sb.2.1 sb.1
    have h0 : n = 0 := by simpa using hn
    have hA2 : Hid _ := hA1.out h0
    clear hA0 hA1
    subst h0
    rw [show errV 0 = .nilIface from rfl] at H
    clear sa sb hz0 hn
    go_enter Tryz.func62, Tryz.ntmps62
    go_wp2_with fail
    refine (H _ Ha.out Hb.out).mono ?_
    rintro e w1 ⟨rfl, hb1⟩
    go_wp2_with fail
    refine (HA _ (Hb.out.below hb1)).mono ?_
    rintro e w2 ⟨bx, rfl, hask, hb2⟩
    have hB2 := bstep hb1 hb2
    have Hask : Hid (AskOK w2 bx b) := hask
    clear hask
    go_wp2_with fail
    refine (HK _ (Ha.out.below hB2) _ Hask.out).mono ?_
    rintro e w3 ⟨ad', c', rfl, hsl, hb3⟩
    go_wp2_with fail
    refine bodyPost_ret (v := .tuple #[.slice ad' (a.filter fun x => decide (x ∈ b)).length c', .nilIface]) (by simp [results, Tryz.results62, go_sem]) rfl (Ans.mk (n := 0) (bstep hB2 hb3) _ ad' c' hsl hA2.out)

/-- what Join tells -/
def joinN (a b : List Tr) : Int := if bothN a b = 0 then (if a.length + (lessL b a).length ≤ 200 then 0 else 4) else bothN a b
def JoinAns (a b m : List Tr) : Prop := (joinN a b = 0 → JoinOf a b m) ∧ (joinN a b ≠ 0 → m = [])

theorem sortN_cat {a b : List Tr} (sa : IsSet a) (sb : IsSet b) : sortN (a ++ lessL b a) = if a.length + (lessL b a).length ≤ 200 then 0 else 4 := by
  have hall : ∀ x ∈ a ++ lessL b a, chkTr x = 0 := fun x hx => by
    rcases List.mem_append.1 hx with h | h
    · exact sa.2.1 x h
    · exact sb.2.1 x (mem_lessL.1 h).1
  by_cases h : a.length + (lessL b a).length ≤ 200
  · rw [if_pos h]
    exact sortN_zero.2 ⟨by rw [List.length_append]; exact h, hall⟩
  · rw [if_neg h]
    unfold sortN faultN
    rw [if_pos (by rw [List.length_append]; omega)]

set_option maxHeartbeats 2000000 in
set_option maxRecDepth 100000 in
theorem Join_any' (ad bd : Option Addr) (ca cb : Nat) (a b : List Tr) (w : World) (ha : SlT w ad a) (hb : SlT w bd b) (fa : ∀ x ∈ a, fitTr x) (fb : ∀ x ∈ b, fitTr x) (na : a.length ≤ 9223372036854775807) (nb : b.length ≤ 9223372036854775807) :
    Calls Tryz.prog 64 #[.slice ad a.length ca, .slice bd b.length cb] w (Ans (joinN a b) (JoinAns a b) w) := by
  have H := fun W h1 h2 => bothSorted_any ad bd ca cb a b W h1 h2 fa fb na nb
  have Ha : Hid (SlT w ad a) := ha
  have Hb : Hid (SlT w bd b) := hb
  by_cases h0 : bothN a b = 0
  · obtain ⟨sa, sb⟩ := bothN_zero.1 h0
    have hj : joinN a b = if a.length + (lessL b a).length ≤ 200 then 0 else 4 := by unfold joinN; rw [if_pos h0]
    have hjs : joinN a b = sortN (a ++ lessL b a) := by rw [hj, sortN_cat sa sb]
    have HK := fun W hW (bl : Nat) (hN : NotOK W bl a) => keep_any bd cb 96 bl b (fun x => !decide (x ∈ a)) W hW sb.1 enters96 (fun x hx W' hW' => notJoin_any bl a x W' (hN.below hW') (sb.2.1 x hx))
    have HA := fun W hW => asker_any ad ca a W hW sa.2.1 sa.1
    have hle : (lessL b a).length ≤ 200 := Nat.le_trans (List.length_filter_le _ _) sb.1
    have HC := fun W bs am cm h1 h2 h3 h4 => Concat_any bs ad am ca cm a (lessL b a) W h1 h2 h3 h4 sa.1 hle
    have HS : ∀ W am cm, SlT W am (a ++ lessL b a) → Calls Tryz.prog 97 #[.slice am (a.length + (lessL b a).length) cm] W (Ans (joinN a b) (JoinAns a b) W) := by
      intro W am cm hW
      rw [← List.length_append]
      by_cases hs : sortN (a ++ lessL b a) = 0
      · refine (Sort_good am cm _ W hW hs).mono ?_
        rintro e w' ⟨hb', m, ad', c, rfl, h1, h2, h3, _⟩
        refine ⟨hb', m, ad', c, by rw [hjs, hs]; rfl, h1, fun _ => ⟨h2, fun x => ?_⟩, fun h => absurd (hjs.trans hs) h⟩
        rw [h3, List.mem_append, mem_lessL]
        by_cases hx : x ∈ a <;> simp [hx]
      · have hfit : ∀ x ∈ a ++ lessL b a, fitTr x := fun x hx => by
          rcases List.mem_append.1 hx with h | h
          · exact fa x h
          · exact fb x (mem_lessL.1 h).1
        refine (Sort_bad am cm _ W hW hfit (by rw [List.length_append]; have := sa.1; omega) hs).mono ?_
        rintro e w' ⟨rfl, hb'⟩
        exact ⟨hb', [], none, 0, by rw [hjs]; rfl, slT_nil _ _, fun h => absurd (hjs.symm.trans h) hs, fun _ => rfl⟩
    rw [h0, show errV 0 = .nilIface from rfl] at H
    have Hle : Hid (lessL b a = b.filter fun x => !decide (x ∈ a)) := rfl
    generalize joinN a b = n at *
    clear sa sb h0 hj hjs ha hb fa fb na nb hle
    generalize lessL b a = less at *
    generalize JoinAns a b = JA at *
    rw [← Hle.out] at HK
    have HS' : Hid _ := HS
    clear HS
    go_enter Tryz.func64, Tryz.ntmps64
    go_wp2_with fail
    refine (H _ Ha.out Hb.out).mono ?_
    rintro e w1 ⟨rfl, hb1⟩
    go_wp2_with fail
    refine (HA _ (Ha.out.below hb1)).mono ?_
    rintro e w2 ⟨bx, rfl, hask, hb2⟩
    have hB2 := bstep hb1 hb2
    have Hask : Hid (AskOK w2 bx a) := hask
    clear hask
    go_wp2_with fail
    refine (HK _ ?h1 _ ?h2).mono ?_
    case h1 => exact Hb.out.below (bstep hB2 (balloc _ _))
    case h2 => exact ⟨bx, by go_simp, Hask.out.below (balloc _ _)⟩
    rintro e w3 ⟨ad', c', rfl, hsl, hb3⟩
    have hB3 := bstep (bstep hB2 (balloc _ _)) hb3
    have Hsl : Hid (SlT w3 ad' less) := hsl
    clear hsl
    go_wp2_with fail
    refine (HC _ _ ad' c' ?h1 ?h2 ?h3 ?h4).mono ?_
    case h1 => go_simp
    case h2 => go_simp
    case h3 => exact Ha.out.below (bstep hB3 (balloc _ _))
    case h4 => exact Hsl.out.below (balloc _ _)
    rintro e w4 ⟨am, cm, rfl, hcat, hb4⟩
    have hB4 := bstep (bstep hB3 (balloc _ _)) hb4
    have Hcat : Hid (SlT w4 am (a ++ less)) := hcat
    clear hcat
    go_wp2_with fail
    refine (HS'.out _ am cm Hcat.out).mono ?_
    rintro e w5 ⟨hb5, m, ad5, c5, rfl, hm, hJ⟩
    go_wp2_with fail
    exact bodyPost_ret (v := .tuple #[.slice ad5 m.length c5, errV n]) (by simp [results, Tryz.results64, go_sem]) rfl (Ans.mk (bstep hB4 hb5) m ad5 c5 hm hJ)
  · have hj : Hid (joinN a b = bothN a b) := if_neg h0
    have hj0 : Hid (JoinAns a b []) := ⟨fun h => absurd (hj.out.symm.trans h) h0, fun _ => rfl⟩
    rw [hj.out]
    have hn : (bothN a b == 0) = false := by simpa using h0
    generalize bothN a b = n at *
    generalize JoinAns a b = JA at *
    clear ha hb fa fb na nb hj h0
    go_enter Tryz.func64, Tryz.ntmps64
    go_wp2_with fail
    refine (H _ Ha.out Hb.out).mono ?_
    rintro e w1 ⟨rfl, hb1⟩
    go_wp2_with fail
    exact bodyPost_ret (v := .tuple #[.slice none 0 0, errV n]) (by simp [results, Tryz.results64, go_sem]) rfl (Ans.mk hb1 [] none 0 (slT_nil _ _) hj0.out)

end Go.Proofs.YtaddfndohoppeaaGreat

/- Layers: what is wrong with one, what it makes of a set, what is between two sets; the theory. -/
namespace Go.Proofs.YtaddfndohoppeaaGreat
open Go Go.RowKit Go.Proofs
set_option synthInstance.maxSize 1000

/-- the first that is wrong -/
def orN (a b : Int) : Int := if a = 0 then b else a
theorem orN_zero {a b : Int} : orN a b = 0 ↔ a = 0 ∧ b = 0 := by
  unfold orN
  by_cases h : a = 0
  · rw [if_pos h]; exact ⟨fun e => ⟨h, e⟩, fun e => e.2⟩
  · rw [if_neg h]; exact ⟨fun e => absurd e h, fun e => absurd e.1 h⟩
theorem orN_pos {a b : Int} (h : a = 0) : orN a b = b := if_pos h
theorem orN_neg {a b : Int} (h : ¬ a = 0) : orN a b = a := if_neg h

def apartN (a b : List Tr) : Int := orN (bothN a b) (if (bothL a b).length = 0 then 0 else 7)
def withinN (s t : List Tr) : Int := orN (bothN t s) (if (lessL t s).length = 0 then 0 else 5)
def swapN (s o i : List Tr) : Int := orN (bothN s o) (joinN (lessL s o) i)
def SwapAns (s o i m : List Tr) : Prop := (swapN s o i = 0 → JoinOf (lessL s o) i m) ∧ (swapN s o i ≠ 0 → m = [])
def applyN (s add take : List Tr) : Int := orN (sortedN s) (orN (apartN add take) (orN (apartN s add) (orN (withinN s take) (swapN s take add))))
def ApplyAns (s add take m : List Tr) : Prop := (applyN s add take = 0 → JoinOf (lessL s take) add m) ∧ (applyN s add take ≠ 0 → m = [])
def BtwAns (a b m1 m2 : List Tr) : Prop := (bothN a b = 0 → m1 = lessL b a ∧ m2 = lessL a b) ∧ (bothN a b ≠ 0 → m1 = [] ∧ m2 = [])
theorem bothN_comm0 {a b : List Tr} (h : bothN a b = 0) : bothN b a = 0 := bothN_zero.2 ⟨(bothN_zero.1 h).2, (bothN_zero.1 h).1⟩
theorem lessSet {a b : List Tr} (h : IsSet a) : IsSet (lessL a b) := h.filter _
theorem joinN_of {a b m : List Tr} (sa : IsSet a) (sb : IsSet b) (h : JoinOf a b m) (hm : m.length ≤ 200) : joinN a b = 0 := by
  unfold joinN
  rw [if_pos (bothN_zero.2 ⟨sa, sb⟩), if_pos]
  rw [← h.len sa.2.2 sb.2.2]
  exact hm
theorem apartN_of {a b : List Tr} (sa : IsSet a) (sb : IsSet b) (h : ∀ x, x ∈ a → x ∉ b) : apartN a b = 0 := by
  unfold apartN
  rw [orN_pos (bothN_zero.2 ⟨sa, sb⟩), if_pos]
  rw [List.length_eq_zero_iff, List.eq_nil_iff_forall_not_mem]
  intro x hx
  exact h x (mem_bothL.1 hx).1 (mem_bothL.1 hx).2
theorem withinN_of {s t : List Tr} (ss : IsSet s) (st : IsSet t) (h : ∀ x, x ∈ t → x ∈ s) : withinN s t = 0 := by
  unfold withinN
  rw [orN_pos (bothN_zero.2 ⟨st, ss⟩), if_pos]
  rw [List.length_eq_zero_iff, List.eq_nil_iff_forall_not_mem]
  intro x hx
  exact (mem_lessL.1 hx).2 (h x (mem_lessL.1 hx).1)
theorem swapN_of {s o i m : List Tr} (ss : IsSet s) (so : IsSet o) (si : IsSet i) (h : JoinOf (lessL s o) i m) (hm : m.length ≤ 200) : swapN s o i = 0 := by
  unfold swapN
  rw [orN_pos (bothN_zero.2 ⟨ss, so⟩)]
  exact joinN_of (lessSet ss) si h hm

/-- there: what is between two sets makes of the one the other -/
theorem there {a b : List Tr} (sb : IsSet b) : JoinOf (lessL a (lessL a b)) (lessL b a) b := by
  refine ⟨sb.2.2, fun x => ?_⟩
  simp only [mem_lessL]
  by_cases h1 : x ∈ a <;> by_cases h2 : x ∈ b <;> simp [h1, h2]
theorem btw_check {a b : List Tr} (sa : IsSet a) (sb : IsSet b) : apartN (lessL b a) (lessL a b) = 0 :=
  apartN_of (lessSet sb) (lessSet sa) fun _ h1 h2 => (mem_lessL.1 h1).2 (mem_lessL.1 h2).1
theorem apply_btw {a b : List Tr} (sa : IsSet a) (sb : IsSet b) : applyN a (lessL b a) (lessL a b) = 0 := by
  unfold applyN
  rw [orN_pos (sortedN_set.2 sa), orN_pos (btw_check sa sb), orN_pos (apartN_of sa (lessSet sb) fun _ h1 h2 => (mem_lessL.1 h2).2 h1), orN_pos (withinN_of sa (lessSet sa) fun _ h => (mem_lessL.1 h).1)]
  exact swapN_of sa (lessSet sa) (lessSet sb) (there sb) sb.1
theorem apply_btw_ans {a b m : List Tr} (sa : IsSet a) (sb : IsSet b) (h : ApplyAns a (lessL b a) (lessL a b) m) : m = b :=
  (h.1 (apply_btw sa sb)).unique (there sb)

/-- a call's answer: a layer and a number -/
def LAns (n : Int) (P : List Tr → List Tr → Prop) (w : World) (e : Ending) (w' : World) : Prop := RowKit.Below w.heap.size w w' ∧ ∃ (m1 : List Tr) (a1 : Option Addr) (c1 : Nat) (m2 : List Tr) (a2 : Option Addr) (c2 : Nat), e = .returned (.tuple #[.agg #[.slice a1 m1.length c1, .slice a2 m2.length c2], errV n]) ∧ SlT w' a1 m1 ∧ SlT w' a2 m2 ∧ P m1 m2
theorem LAns.mk {n : Int} {P : List Tr → List Tr → Prop} {w w' : World} (hb : RowKit.Below w.heap.size w w') (m1 : List Tr) (a1 : Option Addr) (c1 : Nat) (m2 : List Tr) (a2 : Option Addr) (c2 : Nat) (h1 : SlT w' a1 m1) (h2 : SlT w' a2 m2) (hp : P m1 m2) : LAns n P w (.returned (.tuple #[.agg #[.slice a1 m1.length c1, .slice a2 m2.length c2], errV n])) w' := ⟨hb, m1, a1, c1, m2, a2, c2, rfl, h1, h2, hp⟩
end Go.Proofs.YtaddfndohoppeaaGreat

/- layer: apart, within, Check, swap, fresh, Turn, Between: what they tell. -/
namespace Go.Proofs.YtaddfndohoppeaaGreat
open Go Go.RowKit Go.Proofs
set_option synthInstance.maxSize 1000

attribute [local go_sem] eql_errV neq_errV guard_errV

/-- a store where a slice lay leaves the rows of triples -/
theorem SlT.put {W : World} {ad : Option Addr} {l : List Tr} (h : SlT W ad l) {p : Addr} {a : Option Addr} {n c : Nat} (hp : W.cell? p = some (.slice a n c)) (v : Value) : SlT (W.setCell p v) ad l := fun hl => by
  obtain ⟨b, o, rfl, hr⟩ := h hl
  refine ⟨b, o, rfl, fun j u hu => ?_⟩
  have hc := hr j u hu
  have hne : p ≠ ⟨b, o + j, none⟩ := by
    rintro rfl
    rw [hp] at hc
    obtain rfl := Option.some.inj hc
    have hm := List.mem_of_getElem? hu
    unfold cellsT at hm
    obtain ⟨x, _, hx⟩ := List.mem_flatMap.1 hm
    simp [encTr] at hx
  rw [World.cell?_setCell_other W p _ v hne]
  exact hc
theorem SlT.put2 {W : World} {ad : Option Addr} {l : List Tr} (h : SlT W ad l) {b : Nat} {a a' : Option Addr} {n c n' c' : Nat} (hp : W.cell? ⟨b, 0, none⟩ = some (.slice a n c)) (hq : W.cell? ⟨b, 1, none⟩ = some (.slice a' n' c')) (u v : Value) : SlT ((W.setCell ⟨b, 0, none⟩ u).setCell ⟨b, 1, none⟩ v) ad l :=
  SlT.put (h.put hp u) (by rw [World.cell?_setCell_other W _ _ u (by simp)]; exact hq) v
theorem below_two {B b : Nat} {w W : World} (h : RowKit.Below B w W) (hb : B ≤ b) (v0 v1 : Value) : RowKit.Below B w ((W.setCell ⟨b, 0, none⟩ v0).setCell ⟨b, 1, none⟩ v1) :=
  (h.setCell (p := ⟨b, 0, none⟩) hb v0).setCell (p := ⟨b, 1, none⟩) hb v1

theorem twobox {w W : World} {T : TypeId} {a0 a1 : Value} (hb : RowKit.Below (w.alloc (.cells #[a0, a1] T)).heap.size (w.alloc (.cells #[a0, a1] T)) W) :
    W.cell? ⟨w.heap.size, 0, none⟩ = some a0 ∧ W.cell? ⟨w.heap.size, 1, none⟩ = some a1 ∧ w.heap.size < W.heap.size ∧ W.frozen? ⟨w.heap.size, 0, none⟩ = false ∧ W.frozen? ⟨w.heap.size, 1, none⟩ = false := by
  obtain ⟨h, h'⟩ := bcell hb
  have hs := hb.size
  refine ⟨?_, ?_, by simp at hs; omega, ?_, ?_⟩
  · rw [h] <;> first | go_simp | (simp <;> omega)
  · rw [h] <;> first | go_simp | (simp <;> omega)
  · rw [h'] <;> first | go_simp | (simp <;> omega)
  · rw [h'] <;> first | go_simp | (simp <;> omega)

set_option maxHeartbeats 2000000 in
set_option maxRecDepth 100000 in
theorem apart_any (ad bd : Option Addr) (ca cb : Nat) (a b : List Tr) (w : World) (ha : SlT w ad a) (hb : SlT w bd b) (fa : ∀ x ∈ a, fitTr x) (fb : ∀ x ∈ b, fitTr x) (na : a.length ≤ 9223372036854775807) (nb : b.length ≤ 9223372036854775807) :
    Calls Tryz.prog 33 #[.slice ad a.length ca, .slice bd b.length cb] w fun e w' => e = .returned (errV (apartN a b)) ∧ RowKit.Below w.heap.size w w' := by
  have H := fun W h1 h2 => Both_any ad bd ca cb a b W h1 h2 fa fb na nb
  have Ha : Hid (SlT w ad a) := ha
  have Hb : Hid (SlT w bd b) := hb
  have fin : Hid (apartN a b = orN (bothN a b) (if (bothL a b).length = 0 then 0 else 7)) := rfl
  have hA : Hid (∀ m, BothAns a b m → bothN a b = 0 → m = bothL a b ∧ m.length ≤ 200) := fun m hm h0 => by
    unfold BothAns at hm
    rw [if_pos h0] at hm
    exact ⟨hm, by rw [hm]; exact Nat.le_trans (List.length_filter_le _ _) (bothN_zero.1 h0).1.1⟩
  generalize apartN a b = N at *
  generalize BothAns a b = BA at *
  generalize bothL a b = B at *
  generalize bothN a b = n at *
  clear ha hb fa fb na nb
  go_enter Tryz.func33, Tryz.ntmps33
  go_wp2_with fail
  refine (H _ Ha.out Hb.out).mono ?_
  rintro e w1 ⟨hb1, m, am, cm, rfl, hm, hBA⟩
  have hA2 := hA.out m hBA
  clear hm hBA hA H
  cases hn : (n == 0)
  · have h0 : ¬ n = 0 := by simpa using hn
    have f1 : Hid (N = n) := fin.out.trans (orN_neg h0)
    clear hA2 h0 fin
    go_wp2_with fail
    go_ret
    exact ⟨ret_val (by rw [f1.out]; rfl), hb1⟩
  · have h0 : n = 0 := by simpa using hn
    obtain ⟨rfl, h200⟩ := hA2 h0
    have f1 : Hid (N = if m.length = 0 then 0 else 7) := fin.out.trans (orN_pos h0)
    subst h0
    rw [show errV 0 = .nilIface from rfl]
    clear hA2 fin hn
    by_cases hz : m.length = 0
    · have hd : decide (0 < m.length) = false := decide_eq_false (by omega)
      have f2 : Hid (N = 0) := by have := f1.out; rw [if_pos hz] at this; exact this
      clear hz f1
      go_wp2_with fail
      go_ret
      exact ⟨ret_val (by rw [f2.out]; rfl), hb1⟩
    · have hd : decide (0 < m.length) = true := decide_eq_true (by omega)
      have f2 : Hid (N = 7) := by have := f1.out; rw [if_neg hz] at this; exact this
      clear hz f1
      go_wp2_with fail
      go_ret
      exact ⟨ret_val (by rw [f2.out]; rfl), hb1⟩

set_option maxHeartbeats 2000000 in
set_option maxRecDepth 100000 in
theorem within_any (ad bd : Option Addr) (ca cb : Nat) (a b : List Tr) (w : World) (ha : SlT w ad a) (hb : SlT w bd b) (fa : ∀ x ∈ a, fitTr x) (fb : ∀ x ∈ b, fitTr x) (na : a.length ≤ 9223372036854775807) (nb : b.length ≤ 9223372036854775807) :
    Calls Tryz.prog 34 #[.slice ad a.length ca, .slice bd b.length cb] w fun e w' => e = .returned (errV (withinN a b)) ∧ RowKit.Below w.heap.size w w' := by
  have H := fun W h1 h2 => Less_any bd ad cb ca b a W h1 h2 fb fa nb na
  have Ha : Hid (SlT w ad a) := ha
  have Hb : Hid (SlT w bd b) := hb
  have fin : Hid (withinN a b = orN (bothN b a) (if (lessL b a).length = 0 then 0 else 5)) := rfl
  have hA : Hid (∀ m, LessAns b a m → bothN b a = 0 → m = lessL b a ∧ m.length ≤ 200) := fun m hm h0 => by
    unfold LessAns at hm
    rw [if_pos h0] at hm
    exact ⟨hm, by rw [hm]; exact Nat.le_trans (List.length_filter_le _ _) (bothN_zero.1 h0).1.1⟩
  generalize withinN a b = N at *
  generalize LessAns b a = BA at *
  generalize lessL b a = B at *
  generalize bothN b a = n at *
  clear ha hb fa fb na nb
  go_enter Tryz.func34, Tryz.ntmps34
  go_wp2_with fail
  refine (H _ Hb.out Ha.out).mono ?_
  rintro e w1 ⟨hb1, m, am, cm, rfl, hm, hBA⟩
  have hA2 := hA.out m hBA
  clear hm hBA hA H
  cases hn : (n == 0)
  · have h0 : ¬ n = 0 := by simpa using hn
    have f1 : Hid (N = n) := fin.out.trans (orN_neg h0)
    clear hA2 h0 fin
    go_wp2_with fail
    go_ret
    exact ⟨ret_val (by rw [f1.out]; rfl), hb1⟩
  · have h0 : n = 0 := by simpa using hn
    obtain ⟨rfl, h200⟩ := hA2 h0
    have f1 : Hid (N = if m.length = 0 then 0 else 5) := fin.out.trans (orN_pos h0)
    subst h0
    rw [show errV 0 = .nilIface from rfl]
    clear hA2 fin hn
    by_cases hz : m.length = 0
    · have hd : decide (0 < m.length) = false := decide_eq_false (by omega)
      have f2 : Hid (N = 0) := by have := f1.out; rw [if_pos hz] at this; exact this
      clear hz f1
      go_wp2_with fail
      go_ret
      exact ⟨ret_val (by rw [f2.out]; rfl), hb1⟩
    · have hd : decide (0 < m.length) = true := decide_eq_true (by omega)
      have f2 : Hid (N = 5) := by have := f1.out; rw [if_neg hz] at this; exact this
      clear hz f1
      go_wp2_with fail
      go_ret
      exact ⟨ret_val (by rw [f2.out]; rfl), hb1⟩

set_option maxHeartbeats 1000000 in
set_option maxRecDepth 100000 in
theorem LCheck_any (ad bd : Option Addr) (ca cb : Nat) (a b : List Tr) (w : World) (ha : SlT w ad a) (hb : SlT w bd b) (fa : ∀ x ∈ a, fitTr x) (fb : ∀ x ∈ b, fitTr x) (na : a.length ≤ 9223372036854775807) (nb : b.length ≤ 9223372036854775807) :
    Calls Tryz.prog 30 #[.agg #[.slice ad a.length ca, .slice bd b.length cb]] w fun e w' => e = .returned (errV (apartN a b)) ∧ RowKit.Below w.heap.size w w' := by
  have H := fun W h1 h2 => apart_any ad bd ca cb a b W h1 h2 fa fb na nb
  have Ha : Hid (SlT w ad a) := ha
  have Hb : Hid (SlT w bd b) := hb
  generalize apartN a b = N at *
  clear ha hb fa fb na nb
  go_enter Tryz.func30, Tryz.ntmps30
  go_wp2_with fail
  refine (H _ (Ha.out.below (balloc _ _)) (Hb.out.below (balloc _ _))).mono ?_
  rintro e w1 ⟨rfl, hb1⟩
  go_wp2_with fail
  go_ret
  exact ⟨rfl, bstep (balloc _ _) hb1⟩

set_option maxHeartbeats 2000000 in
set_option maxRecDepth 100000 in
theorem swap_any (ad bd cd : Option Addr) (ca cb cc : Nat) (a b c : List Tr) (w : World) (ha : SlT w ad a) (hb : SlT w bd b) (hc : SlT w cd c) (fa : ∀ x ∈ a, fitTr x) (fb : ∀ x ∈ b, fitTr x) (fc : ∀ x ∈ c, fitTr x) (na : a.length ≤ 9223372036854775807) (nb : b.length ≤ 9223372036854775807) (nc : c.length ≤ 9223372036854775807) :
    Calls Tryz.prog 35 #[.slice ad a.length ca, .slice bd b.length cb, .slice cd c.length cc] w (Ans (swapN a b c) (SwapAns a b c) w) := by
  have H := fun W h1 h2 => Less_any ad bd ca cb a b W h1 h2 fa fb na nb
  have HJ := fun W al cl h1 h2 => Join_any' al cd cl cc (lessL a b) c W h1 h2 (fun x hx => fa x (mem_lessL.1 hx).1) fc (Nat.le_trans (List.length_filter_le _ _) na) nc
  have Ha : Hid (SlT w ad a) := ha
  have Hb : Hid (SlT w bd b) := hb
  have Hc : Hid (SlT w cd c) := hc
  have f0 : Hid (¬ bothN a b = 0 → swapN a b c = bothN a b ∧ SwapAns a b c []) := fun h0 => by
    have h1 : swapN a b c = bothN a b := orN_neg h0
    exact ⟨h1, fun h => absurd (h1.symm.trans h) h0, fun _ => rfl⟩
  have f1 : Hid (bothN a b = 0 → swapN a b c = joinN (lessL a b) c ∧ ∀ m, JoinAns (lessL a b) c m → SwapAns a b c m) := fun h0 => by
    have h1 : swapN a b c = joinN (lessL a b) c := orN_pos h0
    exact ⟨h1, fun m hm => ⟨fun h => hm.1 (h1.symm.trans h), fun h => hm.2 (fun e => h (h1.trans e))⟩⟩
  have hA : Hid (∀ m, LessAns a b m → bothN a b = 0 → m = lessL a b) := fun m hm h0 => by
    unfold LessAns at hm
    rw [if_pos h0] at hm
    exact hm
  generalize JoinAns (lessL a b) c = JA at *
  generalize joinN (lessL a b) c = j at *
  generalize lessL a b = L at *
  generalize SwapAns a b c = SA at *
  generalize swapN a b c = N at *
  generalize LessAns a b = LA at *
  generalize bothN a b = n at *
  clear ha hb hc fa fb fc na nb nc
  go_enter Tryz.func35, Tryz.ntmps35
  go_wp2_with fail
  refine (H _ Ha.out Hb.out).mono ?_
  rintro e w1 ⟨hb1, m, am, cm, rfl, hm, hLA⟩
  have hA2 := hA.out m hLA
  have Hm : Hid (SlT w1 am m) := hm
  clear hm hLA hA H
  cases hn : (n == 0)
  · have h0 : ¬ n = 0 := by simpa using hn
    have F0 : Hid _ := f0.out h0
    clear hA2 h0 f0 f1 HJ
    go_wp2_with fail
    have hN : N = n := F0.out.1
    rw [hN]
    exact bodyPost_ret (v := .tuple #[.slice none 0 0, errV n]) (by simp [results, Tryz.results35, go_sem]) rfl (Ans.mk hb1 [] none 0 (slT_nil _ _) F0.out.2)
  · have h0 : n = 0 := by simpa using hn
    have F1 : Hid _ := f1.out h0
    obtain rfl := hA2 h0
    subst h0
    rw [show errV 0 = .nilIface from rfl]
    clear hA2 hn f0 f1
    go_wp2_with fail
    refine (HJ _ am cm Hm.out (Hc.out.below hb1)).mono ?_
    rintro e w2 ⟨hb2, q, aq, cq, rfl, hq, hJA⟩
    have Hq : Hid (SlT w2 aq q ∧ JA q) := ⟨hq, hJA⟩
    clear hq hJA HJ
    go_wp2_with fail
    have hN : N = j := F1.out.1
    rw [hN]
    exact bodyPost_ret (v := .tuple #[.slice aq q.length cq, errV j]) (by simp [results, Tryz.results35, go_sem]) rfl (Ans.mk (bstep hb1 hb2) q aq cq Hq.out.1 (F1.out.2 q Hq.out.2))

end Go.Proofs.YtaddfndohoppeaaGreat

/- code.ReadLayer. -/
namespace Go.Proofs.YtaddfndohoppeaaGreat
open Go Go.RowKit Go.Proofs
set_option synthInstance.maxSize 1000

attribute [local go_sem] eql_errV neq_errV guard_errV

/-- an empty box for a layer; a box that holds one -/
def ZL (W : World) (B : Nat) : Prop := W.cell? ⟨B, 0, none⟩ = some (.slice none 0 0) ∧ W.cell? ⟨B, 1, none⟩ = some (.slice none 0 0) ∧ W.frozen? ⟨B, 0, none⟩ = false ∧ W.frozen? ⟨B, 1, none⟩ = false
def XL (W : World) (B : Nat) (v0 v1 : Value) : Prop := W.cell? ⟨B, 0, none⟩ = some v0 ∧ W.cell? ⟨B, 1, none⟩ = some v1
theorem ZL.but {W W' : World} {g B : Nat} (h : ZL W B) (k : But g W W') (hg : B ≠ g) : ZL W' B := by
  obtain ⟨c, f⟩ := k.far (World.block_lt_of_cell? W _ h.1) hg
  unfold ZL at h ⊢
  simp only [c, f]
  exact h
theorem ZL.below {W W' : World} {B : Nat} (h : ZL W B) (hb : RowKit.Below W.heap.size W W') : ZL W' B := by
  have hB : B < W.heap.size := World.block_lt_of_cell? W _ h.1
  exact h.but (g := B + 1) (But.of hb) (by omega)
theorem ZL.new (w : World) : ZL (w.alloc (.cells #[.slice none 0 0, .slice none 0 0] 42)) w.heap.size := by
  unfold ZL
  refine ⟨?_, ?_, ?_, ?_⟩ <;> go_simp
theorem XL.but {W W' : World} {g B : Nat} {v0 v1 : Value} (h : XL W B v0 v1) (k : But g W W') (hg : B ≠ g) : XL W' B v0 v1 := by
  obtain ⟨c, _⟩ := k.far (World.block_lt_of_cell? W _ h.1) hg
  unfold XL at h ⊢
  simp only [c]
  exact h
theorem XL.below {W W' : World} {B : Nat} {v0 v1 : Value} (h : XL W B v0 v1) (hb : RowKit.Below W.heap.size W W') : XL W' B v0 v1 :=
  h.but (g := B + 1) (But.of hb) (by omega)
theorem XL.new (w : World) (v0 v1 : Value) : XL (w.alloc (.cells #[v0, v1] 42)) w.heap.size v0 v1 := by
  unfold XL
  refine ⟨?_, ?_⟩ <;> go_simp

/-- a layer that is read, and what is wrong with it -/
def RL1 (g : Nat) (w : World) (l1 l2 : List Tr) (M : Int) (s : St) (e : Ending) (w' : World) : Prop := ∃ a1 k1 a2 k2, e = .returned (.tuple #[.agg #[.slice a1 l1.length k1, .slice a2 l2.length k2], errV M]) ∧ SlT w' a1 l1 ∧ SlT w' a2 l2 ∧ RdAt w' g s ∧ But g w w'
theorem RL1.mk {g : Nat} {w : World} {l1 l2 : List Tr} {M : Int} {s : St} {w' : World} (a1 : Option Addr) (k1 : Nat) (a2 : Option Addr) (k2 : Nat) (h1 : SlT w' a1 l1) (h2 : SlT w' a2 l2) (h3 : RdAt w' g s) (h4 : But g w w') : RL1 g w l1 l2 M s (.returned (.tuple #[.agg #[.slice a1 l1.length k1, .slice a2 l2.length k2], errV M])) w' := ⟨a1, k1, a2, k2, rfl, h1, h2, h3, h4⟩

set_option maxHeartbeats 4000000 in
set_option maxRecDepth 100000 in
theorem readLayer1_any (g : Nat) (s : St) (w : World) (h : RdAt w g s) :
    Calls Tryz.prog 28 #[.pointer (some ⟨g, 0, none⟩)] w (RL1 g w (setS s).1 (setS (setS s).2).1 (apartN (setS s).1 (setS (setS s).2).1) (setS (setS s).2).2) := by
  have H1 := fun W hW => rset_any g s W hW
  have H2 := fun W hW => rset_any g (setS s).2 W hW
  have HC := fun W a1 k1 a2 k2 h1 h2 => LCheck_any a1 a2 k1 k2 (setS s).1 (setS (setS s).2).1 W h1 h2 (fit_set _) (fit_set _) (len_set _) (len_set _)
  have Hr : Hid (RdAt w g s) := h
  have hg0 : g < w.heap.size := h.lt
  generalize apartN (setS s).1 (setS (setS s).2).1 = M at *
  generalize setS (setS s).2 = R2 at *
  generalize setS s = R1 at *
  obtain ⟨l1, s1⟩ := R1
  obtain ⟨l2, s2⟩ := R2
  dsimp only at *
  clear h
  go_enter Tryz.func28, Tryz.ntmps28
  go_wp2_with fail
  have hZ0 : Hid (ZL (w.alloc (.cells #[.slice none 0 0, .slice none 0 0] 42)) w.heap.size) := ZL.new _
  refine (H1 _ (Hr.out.below (balloc _ _))).mono ?_
  rintro e w1 ⟨a1, k1, rfl, hf1, hr1, hk1⟩
  dsimp only at hf1 hr1
  have hB1 : Hid (But g w w1) := (But.of (balloc _ _)).trans hk1
  have hZ1 : Hid (ZL w1 w.heap.size) := hZ0.out.but hk1 (by omega)
  have hf1 : Hid (Far g w1 a1 l1) := hf1
  clear hk1 hZ0 H1
  go_wp2_with fail
  refine (H2 _ hr1).mono ?_
  rintro e w2 ⟨a2, k2, rfl, hf2, hr2, hk2⟩
  dsimp only at hf2 hr2
  have hB2 : Hid (But g w w2) := hB1.out.trans hk2
  have hZ2 : Hid (ZL w2 w.heap.size) := hZ1.out.but hk2 (by omega)
  have hf1 : Hid (Far g w2 a1 l1) := hf1.out.but hk2
  have hf2 : Hid (Far g w2 a2 l2) := hf2
  clear hk2 hZ1 H2 hB1 hr1
  have hb3 := balloc w2 (.cells #[.slice a1 l1.length k1, .slice a2 l2.length k2] 42)
  have hX3 : Hid (XL (w2.alloc (.cells #[.slice a1 l1.length k1, .slice a2 l2.length k2] 42)) w2.heap.size (.slice a1 l1.length k1) (.slice a2 l2.length k2)) := XL.new _ _ _
  have hs3 : Hid (SlT (w2.alloc (.cells #[.slice a1 l1.length k1, .slice a2 l2.length k2] 42)).drew a1 l1 ∧ SlT (w2.alloc (.cells #[.slice a1 l1.length k1, .slice a2 l2.length k2] 42)).drew a2 l2) := ⟨hf1.out.sl.below hb3.drew, hf2.out.sl.below hb3.drew⟩
  have hZ3 : Hid (ZL (w2.alloc (.cells #[.slice a1 l1.length k1, .slice a2 l2.length k2] 42)) w.heap.size) := hZ2.out.below hb3
  have hr3 : Hid (RdAt (w2.alloc (.cells #[.slice a1 l1.length k1, .slice a2 l2.length k2] 42)) g s2) := hr2.below hb3
  have hB3 : Hid (But g w (w2.alloc (.cells #[.slice a1 l1.length k1, .slice a2 l2.length k2] 42))) := hB2.out.trans (But.of hb3)
  have hz2 : Hid (w.heap.size < w2.heap.size) := World.block_lt_of_cell? w2 _ hZ2.out.1
  clear hb3 hf1 hf2 hr2 hB2 hZ2 Hr
  go_wp2_with fail
  generalize w2.alloc (.cells #[.slice a1 l1.length k1, .slice a2 l2.length k2] 42) = w3 at *
  obtain ⟨x0, x1⟩ := hX3.out
  obtain ⟨z0, z1, f0, f1⟩ := hZ3.out
  have hne : w.heap.size ≠ w2.heap.size := by have := hz2.out; omega
  go_region_law (go_simp; go_at_call_of 30 (Value.agg #[.slice a1 l1.length k1, .slice a2 l2.length k2]); refine (HC w3.drew a1 k1 a2 k2 hs3.out.1 hs3.out.2).mono ?_; rintro e w4 ⟨rfl, hb4'⟩; have hb4 : RowKit.Below w3.heap.size w3 w4 := (RowKit.Below.refl _ w3).drew.trans hb4'; have hX4 := hX3.out.below hb4; have hZ4 := hZ3.out.below hb4; obtain ⟨y0, y1⟩ := id hX4; obtain ⟨t0, t1, q0, q1⟩ := id hZ4)
  all_goals go_wp2_with fail
  all_goals
    exact bodyPost_ret (v := .tuple #[.agg #[.slice a1 l1.length k1, .slice a2 l2.length k2], errV M]) (by unfold results; rw [Tryz.results28]; go_simp) rfl (RL1.mk a1 k1 a2 k2 ((hs3.out.1.below hb4').put2 t0 t1 _ _) ((hs3.out.2.below hb4').put2 t0 t1 _ _) (((hr3.out.below hb4).far (by omega)).far (by omega)) (But.fresh (But.fresh (hB3.out.trans (But.of hb4)) (Nat.le_refl _)) (Nat.le_refl _)))

def readLayN (b : List UInt8) : Int := wholeN (apartN (setS (0, b)).1 (setS (setS (0, b)).2).1) (setS (setS (0, b)).2).2
def readLayA (b : List UInt8) : List Tr := if readLayN b = 0 then (setS (0, b)).1 else []
def readLayD (b : List UInt8) : List Tr := if readLayN b = 0 then (setS (setS (0, b)).2).1 else []
/-- what is answered of bytes that are read as a layer -/
def ReadLAns (N : Int) (l1 l2 : List Tr) (w : World) (e : Ending) (w' : World) : Prop := RowKit.Below w.heap.size w w' ∧ ∃ a1 k1 a2 k2, e = .returned (.tuple #[.agg #[.slice a1 l1.length k1, .slice a2 l2.length k2], errV N]) ∧ SlT w' a1 l1 ∧ SlT w' a2 l2
theorem ReadLAns.mk {N : Int} {l1 l2 : List Tr} {w w' : World} (hb : RowKit.Below w.heap.size w w') (a1 : Option Addr) (k1 : Nat) (a2 : Option Addr) (k2 : Nat) (h1 : SlT w' a1 l1) (h2 : SlT w' a2 l2) : ReadLAns N l1 l2 w (.returned (.tuple #[.agg #[.slice a1 l1.length k1, .slice a2 l2.length k2], errV N])) w' := ⟨hb, a1, k1, a2, k2, rfl, h1, h2⟩
theorem entersRL : ∀ args w, (callFunc 28 args).run Tryz.prog w = .ok (.enter 28 args) w := enters_of Tryz.func28 (by kernel_rfl) rfl

set_option maxHeartbeats 4000000 in
set_option maxRecDepth 100000 in
theorem wholeLayer_any (b : List UInt8) (w : World) :
    Calls Tryz.prog 27 #[.string ⟨b.toArray⟩, .func (.func 28) #[] #[]] w (ReadLAns (readLayN b) (readLayA b) (readLayD b) w) := by
  have H := fun W hW => readLayer1_any (w.heap.size + 1) (0, b) W hW
  have e1 : readLayN b = wholeN (apartN (setS (0, b)).1 (setS (setS (0, b)).2).1) (setS (setS (0, b)).2).2 := rfl
  have e2 : readLayA b = if readLayN b = 0 then (setS (0, b)).1 else [] := rfl
  have e3 : readLayD b = if readLayN b = 0 then (setS (setS (0, b)).2).1 else [] := rfl
  generalize readLayA b = A at *
  generalize readLayD b = D at *
  generalize readLayN b = N at *
  generalize apartN (setS (0, b)).1 (setS (setS (0, b)).2).1 = M at *
  generalize setS (setS (0, b)).2 = R2 at *
  generalize setS (0, b) = R1 at *
  obtain ⟨l1, s1⟩ := R1
  obtain ⟨l2, s⟩ := R2
  dsimp only at *
  have E1 : Hid _ := e1
  have E2 : Hid _ := e2
  have E3 : Hid _ := e3
  have eg := entersRL
  clear e1 e2 e3
  go_enter Tryz.func27, Tryz.ntmps27
  go_wp2_with fail
  have hZ0 : Hid (ZL ((w.alloc (.cells #[.slice none 0 0, .slice none 0 0] 42)).alloc (.cells #[.int .i64 0, .string ⟨b.toArray⟩] 129)) w.heap.size) := (ZL.new w).below (balloc _ _)
  refine (H _ (RdAt.new1 w b _ _)).mono ?_
  rintro e w1 ⟨a1, k1, a2, k2, rfl, hs1, hs2, hr1, hk1⟩
  have hZ1 : Hid (ZL w1 w.heap.size) := hZ0.out.but hk1 (by omega)
  have hB1 : Hid (RowKit.Below w.heap.size w w1) := But.new1 (bstep (balloc _ _) (balloc _ _)) hk1
  have hz1 : Hid (w.heap.size + 1 < w1.heap.size) := hr1.lt
  have hb2 := balloc w1 (.cells #[.slice a1 l1.length k1, .slice a2 l2.length k2] 42)
  have hZ2 : Hid (ZL (w1.alloc (.cells #[.slice a1 l1.length k1, .slice a2 l2.length k2] 42)) w.heap.size) := hZ1.out.below hb2
  have hB2 : Hid (RowKit.Below w.heap.size w (w1.alloc (.cells #[.slice a1 l1.length k1, .slice a2 l2.length k2] 42))) := bstep hB1.out hb2
  have hX2 : Hid (XL (w1.alloc (.cells #[.slice a1 l1.length k1, .slice a2 l2.length k2] 42)) w1.heap.size (.slice a1 l1.length k1) (.slice a2 l2.length k2)) := XL.new _ _ _
  have hr2 : Hid (RdAt (w1.alloc (.cells #[.slice a1 l1.length k1, .slice a2 l2.length k2] 42)) (w.heap.size + 1) s) := hr1.below hb2
  have hS2 : Hid (SlT (w1.alloc (.cells #[.slice a1 l1.length k1, .slice a2 l2.length k2] 42)) a1 l1 ∧ SlT (w1.alloc (.cells #[.slice a1 l1.length k1, .slice a2 l2.length k2] 42)) a2 l2) := ⟨hs1.below hb2, hs2.below hb2⟩
  generalize hw2 : w1.alloc (.cells #[.slice a1 l1.length k1, .slice a2 l2.length k2] 42) = w2 at *
  clear H eg hk1 hZ0 hZ1 hB1 hr1 hs1 hs2 hb2
  obtain ⟨c0, c1, _, _⟩ := hr2.out
  by_cases hM : M = 0
  · subst hM
    by_cases hz : s.2 = []
    · rw [hz] at c1
      have eN : N = s.1 := E1.out.trans (wholeN_all hz)
      by_cases h0 : s.1 = 0
      · have eA : A = l1 := by rw [E2.out, if_pos (by rw [eN]; exact h0)]
        have eD : D = l2 := by rw [E3.out, if_pos (by rw [eN]; exact h0)]
        rw [h0] at c0 eN
        subst eN eA eD
        clear E1 E2 E3
        obtain ⟨z0, z1, f0, f1⟩ := hZ2.out
        obtain ⟨x0, x1⟩ := hX2.out
        have hne1 : w.heap.size ≠ w1.heap.size := by have := hz1.out; omega
        go_wp2_with fail
        exact bodyPost_ret (v := .tuple #[.agg #[.slice a1 A.length k1, .slice a2 D.length k2], .nilIface]) (by unfold results; rw [Tryz.results27]; go_simp) rfl (ReadLAns.mk (N := 0) (bset (bset hB2.out)) a1 k1 a2 k2 (hS2.out.1.put2 z0 z1 _ _) (hS2.out.2.put2 z0 z1 _ _))
      · have hne : s.1 ≠ 0 := h0
        have hne' : (s.1 == 0) = false := by simpa using hne
        have eL : A = [] ∧ D = [] := by rw [E2.out, E3.out, if_neg (by rw [eN]; exact hne), if_neg (by rw [eN]; exact hne)]; exact ⟨rfl, rfl⟩
        obtain ⟨rfl, rfl⟩ := eL
        subst eN
        clear E1 E2 E3
        obtain ⟨z0, z1, f0, f1⟩ := hZ2.out
        have hs2 : w.heap.size + 1 < w2.heap.size := hr2.out.lt
        have hs2x : w.heap.size < w2.heap.size := by omega
        go_wp2_with fail
        go_region
        go_wp2_with fail
        exact bodyPost_ret (v := .tuple #[.agg #[.slice none 0 0, .slice none 0 0], .iface 82 (.int .i64 s.1)]) (by unfold results; rw [Tryz.results27]; go_simp) rfl (by rw [← errV_ne hne]; exact ReadLAns.mk (l1 := []) (l2 := []) (by repeat (first | (with_reducible exact hB2.out) | (with_reducible refine RowKit.Below.drew ?_) | (with_reducible refine bset ?_) | (with_reducible refine bstep ?_ (balloc _ _)))) none 0 none 0 (fun h => absurd rfl h) (fun h => absurd rfl h))
    · obtain ⟨q, r, hqr⟩ : ∃ q r, s.2 = q :: r := by
        cases hh : s.2 with
        | nil => exact absurd hh hz
        | cons q r => exact ⟨q, r, rfl⟩
      rw [hqr] at c1
      have hcase : ¬ ((0 : Int) = 0 ∧ s.2 = []) := fun h => hz h.2
      have hne : (endS 2 s).1 ≠ 0 := endS_zero (by decide)
      have eN : N = (endS 2 s).1 := E1.out.trans (wholeN_bad hcase)
      have eL : A = [] ∧ D = [] := by rw [E2.out, E3.out, if_neg (by rw [eN]; exact hne), if_neg (by rw [eN]; exact hne)]; exact ⟨rfl, rfl⟩
      obtain ⟨rfl, rfl⟩ := eL
      subst eN
      clear E1 E2 E3 hcase
      go_wp2_with fail
      refine (end_any (w.heap.size + 1) s 2 w2 hr2.out).mono ?_
      rintro e w3 ⟨rfl, hr3, hk3⟩
      have hB3 : Hid (RowKit.Below w.heap.size w w3) := But.new1 hB2.out hk3
      obtain ⟨z0, z1, f0, f1⟩ := hZ2.out.but hk3 (by omega)
      have hs3 : w.heap.size + 1 < w3.heap.size := hr3.lt
      have hs3x : w.heap.size < w3.heap.size := by omega
      obtain ⟨c0, _, _, _⟩ := hr3
      have hne' : ((endS 2 s).1 == 0) = false := by simpa using hne
      generalize (endS 2 s).1 = E at *
      go_wp2_with fail
      go_region
      go_wp2_with fail
      exact bodyPost_ret (v := .tuple #[.agg #[.slice none 0 0, .slice none 0 0], .iface 82 (.int .i64 E)]) (by unfold results; rw [Tryz.results27]; go_simp) rfl (by rw [← errV_ne hne]; exact ReadLAns.mk (l1 := []) (l2 := []) (by repeat (first | (with_reducible exact hB3.out) | (with_reducible refine RowKit.Below.drew ?_) | (with_reducible refine bset ?_) | (with_reducible refine bstep ?_ (balloc _ _)))) none 0 none 0 (fun h => absurd rfl h) (fun h => absurd rfl h))
  · have hM' : (M == 0) = false := by simpa using hM
    have hcase : ¬ (M = 0 ∧ s.2 = []) := fun h => hM h.1
    have hne : (endS 2 s).1 ≠ 0 := endS_zero (by decide)
    have eN : N = (endS 2 s).1 := E1.out.trans (wholeN_bad hcase)
    have eL : A = [] ∧ D = [] := by rw [E2.out, E3.out, if_neg (by rw [eN]; exact hne), if_neg (by rw [eN]; exact hne)]; exact ⟨rfl, rfl⟩
    obtain ⟨rfl, rfl⟩ := eL
    subst eN
    clear E1 E2 E3 hcase
    go_wp2_with fail
    refine (end_any (w.heap.size + 1) s 2 w2 hr2.out).mono ?_
    rintro e w3 ⟨rfl, hr3, hk3⟩
    have hB3 : Hid (RowKit.Below w.heap.size w w3) := But.new1 hB2.out hk3
    obtain ⟨z0, z1, f0, f1⟩ := hZ2.out.but hk3 (by omega)
    have hs3 : w.heap.size + 1 < w3.heap.size := hr3.lt
    have hs3x : w.heap.size < w3.heap.size := by omega
    obtain ⟨c0, _, _, _⟩ := hr3
    have hne' : ((endS 2 s).1 == 0) = false := by simpa using hne
    generalize (endS 2 s).1 = E at *
    go_wp2_with fail
    go_region
    go_wp2_with fail
    exact bodyPost_ret (v := .tuple #[.agg #[.slice none 0 0, .slice none 0 0], .iface 82 (.int .i64 E)]) (by unfold results; rw [Tryz.results27]; go_simp) rfl (by rw [← errV_ne hne]; exact ReadLAns.mk (l1 := []) (l2 := []) (by repeat (first | (with_reducible exact hB3.out) | (with_reducible refine RowKit.Below.drew ?_) | (with_reducible refine bset ?_) | (with_reducible refine bstep ?_ (balloc _ _)))) none 0 none 0 (fun h => absurd rfl h) (fun h => absurd rfl h))

set_option maxHeartbeats 1000000 in
theorem ReadLayer_any (b : List UInt8) (w : World) :
    Calls Tryz.prog 10 #[.string ⟨b.toArray⟩] w (ReadLAns (readLayN b) (readLayA b) (readLayD b) w) := by
  have H := fun W => wholeLayer_any b W
  generalize readLayN b = N at *
  generalize readLayA b = A at *
  generalize readLayD b = D at *
  go_enter Tryz.func10, Tryz.ntmps10
  go_wp2_with fail
  have hZ0 : Hid (ZL (w.alloc (.cells #[.slice none 0 0, .slice none 0 0] 42)) w.heap.size) := ZL.new _
  refine (H _).mono ?_
  rintro e w1 ⟨hb, a1, k1, a2, k2, rfl, h1, h2⟩
  obtain ⟨z0, z1, f0, f1⟩ := hZ0.out.below hb
  have hB1 : Hid (RowKit.Below w.heap.size w w1) := bstep (balloc _ _) hb
  have HS : Hid (SlT w1 a1 A ∧ SlT w1 a2 D) := ⟨h1, h2⟩
  clear h1 h2
  go_wp2_with fail
  exact bodyPost_ret (v := .tuple #[.agg #[.slice a1 A.length k1, .slice a2 D.length k2], errV N]) (by unfold results; rw [Tryz.results10]; go_simp) rfl (ReadLAns.mk (bset (bset hB1.out)) a1 k1 a2 k2 (HS.out.1.put2 z0 z1 _ _) (HS.out.2.put2 z0 z1 _ _))
end Go.Proofs.YtaddfndohoppeaaGreat
