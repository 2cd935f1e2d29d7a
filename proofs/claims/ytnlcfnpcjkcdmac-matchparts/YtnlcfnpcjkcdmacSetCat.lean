/- slices.Grow of nothing, slices.Concat of two lists of triples. -/
import Derived.Test.YtnlcfnpcjkcdmacSetKeep
import Derived.Lib.AppendZeros
import Derived.Deep.Upon
namespace Go.Proofs.Ytnlcfnpcjkcdmac
open Go Go.RowKit Go.Proofs
set_option synthInstance.maxSize 1000

set_option maxHeartbeats 1000000 in
set_option maxRecDepth 100000 in
theorem Grow_none (w : World) : Calls Try.prog 77 #[.slice none 0 0, .int .i64 0] w fun e w' => e = .returned (.slice none 0 0) ∧ w' = w := by
  go_enter Try.func77, Try.ntmps77
  go_wp2
  go_ret
  exact ⟨rfl, rfl⟩

set_option maxHeartbeats 1000000 in
set_option maxRecDepth 100000 in
theorem Grow_some (n : Nat) (w : World) (hn : 0 < n) (h400 : n ≤ 400) :
    Calls Try.prog 77 #[.slice none 0 0, .int .i64 n] w fun e w' => ∃ c, e = .returned (.slice (some ⟨w.heap.size, 0, none⟩) 0 c) ∧ w'.ownsRow w.heap.size 30 9 (.slice (some ⟨w.heap.size, 0, none⟩) 0 c) 0 [] ∧ RowKit.Below w.heap.size w w' := by
  obtain ⟨i0, hi, hz⟩ := Option.map_eq_some_iff.1 infoTr
  simp only [Prod.mk.injEq] at hz
  obtain ⟨hz0, hz1, hz2⟩ := hz
  have hrz := fun ty => Lib.run_append_nil_zeros w 22 3 ty 30 i0 _ .i64 .i64 Try.underlying22 Try.underlying3 hi hz0 n hn (by rw [hz1]; omega) (by omega) (by rw [hz2]; omega)
  have hge := grownCap_ge w n 0 30
  have hle := grownCap_le_maxLen w n 0 30 (by unfold maxLen; omega)
  generalize grownCap w n 0 30 = c at *
  have hd : decide ((n : Int) > 0) = true := by simp; omega
  have hd0 : decide ((n : Int) < 0) = false := by simp
  have hle' : c ≤ 9223372036854775807 := by unfold maxLen at hle; omega
  go_enter Try.func77, Try.ntmps77
  go_wp2_with (at_builtin; refine Lib.wpList_append_run _ rfl _ _ _ _ rfl _ _ rfl rfl _ _ (hrz _) ?_)
  go_ret
  refine ⟨c, rfl, ⟨rfl, Or.inr ⟨w.heap.size, c, _, rfl, Nat.le_refl _, (MapKept.heap_alloc w.drew _).1, Nat.zero_le _, hle, ?_, by simp⟩⟩, (RowKit.Below.refl _ _).drew.alloc (Nat.le_refl _) _⟩
  simp [Builtin.zeroCells, encTr]
  omega

theorem append_empty {base n : Nat} {v : Value} {cs : List Value} {W : World} (h : W.ownsRow base 30 9 v n cs) (ad : Option Addr) (cap : Nat) (ty : TypeId) :
    (Builtin.append_ #[22, 22] ty #[v, .slice ad 0 cap]).run Try.prog W = .ok v W := by
  obtain ⟨i, hi, hz⟩ := Option.map_eq_some_iff.1 infoTr
  have hf : (Builtin.firstCells i.size 0 (.slice ad 0 cap)).run Try.prog W = .ok #[] W := by
    cases ad with
    | none => exact run_firstCells_none W _ _ _ _
    | some a => exact run_firstCells_some (P := Try.prog) W i.size 0 a 0 cap [] (by simp) (by simp)
  rcases h.2 with ⟨rfl, h0⟩ | ⟨g, c, cur, rfl, _, _, hle, _⟩
  · simp [Builtin.append_, run_underlying Try.underlying22, sizeOf, typeInfo, hi, Builtin.lenOf, hf]
  · simp [Builtin.append_, run_underlying Try.underlying22, sizeOf, typeInfo, hi, Builtin.lenOf, hf, hle, storeCells]

/-- an append of a list to a row of one's own, for the walk -/
theorem wpList_append_list {ops : Array Oper} {rest : List Oper} {o : Oper} {a : Act} {Q : Exit → Act → World → Prop} (w : World) (hgd : o.guard = none) (s x : Operand)
    (ho : o.op = .call { callee := .builtin .append, args := #[s, x], argTypes := #[22, 22] })
    (base : Nat) (v : Value) (t l : List Tr) (ad : Option Addr) (c : Nat) (hs : a.eval s = v) (hx : a.eval x = .slice ad l.length c) (hown : w.ownsRow base 30 9 v t.length (cellsT t)) (hl : SlT w ad l)
    (h63 : t.length + l.length ≤ 1000000) (hbase : base ≤ w.heap.size)
    (h : ∀ v' w', w'.ownsRow base 30 9 v' (t ++ l).length (cellsT (t ++ l)) → RowKit.Below base w w' → wpList Try.prog ops Q rest (a.put o.dst v') w') : wpList Try.prog ops Q (o :: rest) a w := by
  obtain ⟨i0, hi, hz⟩ := Option.map_eq_some_iff.1 infoTr
  simp only [Prod.mk.injEq] at hz
  obtain ⟨hz0, hz1, hz2⟩ := hz
  cases l with
  | nil =>
    refine Lib.wpList_append_run w hgd s x _ _ ho v _ hs hx v w (append_empty hown ad c _) (h v w ?_ (RowKit.Below.refl _ _))
    simpa using hown
  | cons y r =>
    obtain ⟨b, off, rfl, hr⟩ := hl (by simp)
    refine wpList_append_own w hgd s x _ ho base 30 i0 (.agg (encTr zeroTr).toArray) 9 120 Try.underlying22 hi hz0 hz1 hz2 rfl (by decide) v t.length (cellsT t) hs hown ⟨b, off, none⟩ (y :: r).length c (cellsT (y :: r)) hx (cellsT_len _) ?_ (cellsT_one _) (by unfold maxLen; omega) (by omega) hbase ?_
    · intro j u hj
      rw [Addr.add_lit]
      exact hr j u hj
    · intro v' w' h2 h3 _
      refine h v' w' ?_ ((RowKit.Below.refl _ _).grown h3 hbase (fun k hk => (hown.lt k hk).1))
      rw [List.length_append]
      simpa [cellsT] using h2

theorem wrapN (n : Nat) (h : n ≤ 1000000) : IntKind.i64.wrap (n : Int) = n := by simp [IntKind.wrap, IntKind.bits, IntKind.signed]; omega

set_option maxHeartbeats 4000000 in
set_option maxRecDepth 100000 in
theorem Concat_any (bs : Nat) (ad ad' : Option Addr) (ca cb : Nat) (l m : List Tr) (w : World) (h0 : w.cell? ⟨bs, 0, none⟩ = some (.slice ad l.length ca)) (h1 : w.cell? ⟨bs, 1, none⟩ = some (.slice ad' m.length cb))
    (hl : SlT w ad l) (hm : SlT w ad' m) (hl2 : l.length ≤ 200) (hm2 : m.length ≤ 200) :
    Calls Try.prog 69 #[.slice (some ⟨bs, 0, none⟩) 2 2] w fun e w' => ∃ ad'' c, e = .returned (.slice ad'' (l ++ m).length c) ∧ SlT w' ad'' (l ++ m) ∧ RowKit.Below w.heap.size w w' := by
  have Hl : Hid (SlT w ad l) := hl
  have Hm : Hid (SlT w ad' m) := hm
  have hbs : bs < w.heap.size := World.block_lt_of_cell? w _ h0
  clear hl hm
  go_enter Try.func69, Try.ntmps69
  go_wp2_with fail
  go_loopw [3, 11] (fun s i wr => ∃ k : Nat, k ≤ 2 ∧ i = .int .i64 k ∧ s = .int .i64 ((if 0 < k then l.length else 0 : Nat) + (if 1 < k then m.length else 0 : Nat) : Int) ∧ w = wr) (fun _ i wr => 2 - (intOf i).toNat)
  case atStart => exact ⟨0, by omega, rfl, rfl, rfl⟩
  case round =>
    obtain ⟨k, hk, rfl, rfl, rfl⟩ := hrel
    rcases (by omega : k = 0 ∨ k = 1 ∨ k = 2) with rfl | rfl | rfl
    · go_wp2_with fail
      exact ⟨⟨1, by omega, rfl, by simp, trivial⟩, by simp [intOf]⟩
    · go_wp2_with fail
      exact ⟨⟨2, by omega, rfl, by simp, trivial⟩, by simp [intOf]⟩
    · have HG : ∀ W : World, Calls Try.prog 77 #[.slice none 0 0, .int .i64 ((l.length : Int) + (m.length : Int))] W fun e w' => ∃ v, e = .returned v ∧ w'.ownsRow W.heap.size 30 9 v 0 [] ∧ RowKit.Below W.heap.size W w' := by
        intro W
        by_cases hz : l.length + m.length = 0
        · rw [show (l.length : Int) + (m.length : Int) = 0 by omega]
          refine (Grow_none W).mono ?_
          rintro e w' ⟨rfl, rfl⟩
          exact ⟨_, rfl, World.ownsRow_nil _ _ _ _, RowKit.Below.refl _ _⟩
        · have := Grow_some (l.length + m.length) W (by omega) (by omega)
          rw [show ((l.length + m.length : Nat) : Int) = (l.length : Int) + (m.length : Int) by omega] at this
          refine this.mono ?_
          rintro e w' ⟨c, rfl, h1, h2⟩
          exact ⟨_, rfl, h1, h2⟩
      go_wp2_with fail
      refine (HG _).mono ?_
      rintro e w1 ⟨v, rfl, hown, hb1⟩
      have Hown : Hid (w1.ownsRow w.heap.size 30 9 v 0 []) := hown
      clear hown HG
      go_wp2_with fail
      go_loopw [6, 27] (fun v i wr => ∃ k : Nat, k ≤ 2 ∧ i = .int .i64 k ∧ Hid (wr.ownsRow w.heap.size 30 9 v ((if 0 < k then l else []) ++ (if 1 < k then m else [])).length (cellsT ((if 0 < k then l else []) ++ (if 1 < k then m else [])))) ∧ RowKit.Below w.heap.size w wr) (fun _ i wr => 2 - (intOf i).toNat)
      case atStart => exact ⟨0, by omega, rfl, Hown.out, hb1⟩
      case round =>
        obtain ⟨k, hk, rfl, hown, hbr⟩ := hrel
        have hc0 : wr.cell? ⟨bs, 0, none⟩ = some (.slice ad l.length ca) := (hbr.cell hbs).trans h0
        have hc1 : wr.cell? ⟨bs, 1, none⟩ = some (.slice ad' m.length cb) := (hbr.cell hbs).trans h1
        have hzr := hbr.size
        rcases (by omega : k = 0 ∨ k = 1 ∨ k = 2) with rfl | rfl | rfl
        · have hown' : Hid (wr.ownsRow w.heap.size 30 9 _ ([] : List Tr).length (cellsT [])) := hown.out
          clear hown
          go_wp2_with (at_builtin; refine wpList_append_list _ rfl _ _ rfl w.heap.size _ [] l ad ca rfl rfl hown'.out (Hl.out.below hbr) (by simp; omega) hzr ?_; intro v' w' hown2 hb2)
          exact ⟨⟨1, by omega, rfl, by show World.ownsRow _ _ _ _ _ _ _; simpa using hown2, hbr.trans hb2⟩, by simp [intOf]⟩
        · have hown1 := hown.out
          rw [show ((if 0 < 1 then l else []) ++ (if 1 < 1 then m else [])) = l by simp] at hown1
          have hown' : Hid _ := hown1
          clear hown hown1
          go_wp2_with (at_builtin; refine wpList_append_list _ rfl _ _ rfl w.heap.size _ l m ad' cb rfl rfl hown'.out (Hm.out.below hbr) (by omega) hzr ?_; intro v' w' hown2 hb2)
          exact ⟨⟨2, by omega, rfl, by show World.ownsRow _ _ _ _ _ _ _; simpa using hown2, hbr.trans hb2⟩, by simp [intOf]⟩
        · have hown' := hown.out
          rw [show ((if 0 < 2 then l else []) ++ (if 1 < 2 then m else [])) = l ++ m by simp] at hown'
          obtain ⟨ad'', c, rfl, hsl⟩ := own_slT hown'
          clear hown' hown
          go_wp2_with fail
          go_ret
          exact ⟨ad'', c, rfl, hsl, hbr⟩
end Go.Proofs.Ytnlcfnpcjkcdmac
