/- merge.Merge and merge.Prefer: the program's merge keeps the face. -/
import Derived.Test.YtifkcoappflenagGreatDoorMA1x1

namespace Go.Proofs.YtifkcoappflenagGreatDoor
open Go Go.RowKit Go.Proofs Go.Maps
set_option synthInstance.maxSize 1000

attribute [local go_sem] eql_errV neq_errV guard_errV

theorem changed_bad (od ad bd : Option Addr) (oc ca cb : Nat) (o a b : List Tr) (w : World) (ho : SetIn w od o) (ha : SetIn w ad a) (hb : SetIn w bd b) (h0 : ¬ threeN o a b = 0) :
    Calls Tryz.prog 24 #[.slice od o.length oc, .slice ad a.length ca, .slice bd b.length cb] w (ChBad (threeN o a b) w) := by
  rw [three_both] at h0 ⊢
  by_cases h1 : bothN o a = 0
  · rw [if_pos h1] at h0 ⊢
    obtain ⟨so, sa⟩ := bothN_zero.1 h1
    have e : bothN o b = sortedN b := by unfold bothN; rw [if_pos (sortedN_set.2 so)]
    rw [← e] at h0 ⊢
    exact changed_bad2 od ad bd oc ca cb o a b w ho ha hb so sa h0
  · rw [if_neg h1]
    exact changed_bad1 od ad bd oc ca cb o a b w ho ha h1

theorem onlyL_wf {o a b : List Tr} (sa : IsSet a) (sb : IsSet b) : ∀ p ∈ onlyL o a b, wfP p := fun p hp => diffL_wf sa sb p (diffL_mem.2 (onlyL_mem.1 hp).1)
theorem clashL_wf {o a b : List Tr} (sa : IsSet a) (sb : IsSet b) : ∀ p ∈ clashL o a b, wfP p := fun p hp => diffL_wf sa sb p (diffL_mem.2 (clashL_mem.1 hp).2.2)
theorem takeL_wf {o a b : List Tr} {first : Bool} (sa : IsSet a) (sb : IsSet b) : ∀ p ∈ takeL o a b first, wfP p := fun p hp => by
  unfold takeL at hp
  cases first
  · simp only [Bool.false_eq_true, if_false] at hp
    rcases List.mem_append.1 hp with h | h
    · exact onlyL_wf sa sb p h
    · exact clashL_wf sa sb p h
  · simp only [if_true] at hp
    exact onlyL_wf sa sb p hp
theorem clashL_len {o a b : List Tr} (sa : IsSet a) (sb : IsSet b) : (clashL o a b).length ≤ 400 := by
  rw [← bothP_clash]
  exact bothP_len sa sb

set_option maxHeartbeats 4000000 in
set_option maxRecDepth 100000 in
theorem Merge_bad (od ad bd : Option Addr) (oc ca cb : Nat) (o a b : List Tr) (w : World) (ho : SetIn w od o) (ha : SetIn w ad a) (hb : SetIn w bd b) (h0 : ¬ threeN o a b = 0) :
    Calls Tryz.prog 8 #[.slice od o.length oc, .slice ad a.length ca, .slice bd b.length cb] w (MergeAns o a b w) := by
  have H := changed_bad od ad bd oc ca cb o a b w ho ha hb h0
  have hn : (threeN o a b == 0) = false := by simpa using h0
  obtain ⟨e1, e2, e3⟩ := merge_bad h0
  have fin : ∀ w', RowKit.Below w.heap.size w w' → MergeAns o a b w (.returned (.tuple #[.slice none 0 0, .slice none 0 0, errV (threeN o a b)])) w' := fun w' hb => by
    refine ⟨none, 0, none, 0, ?_, ?_, ?_, hb⟩
    · rw [e1, e2, e3]; rfl
    · rw [e2]; exact fun h => absurd rfl h
    · rw [e3]; exact slP_nil _ _
  generalize MergeAns o a b w = R at *
  generalize threeN o a b = n at *
  clear ho ha hb h0 e1 e2 e3
  go_enter Tryz.func8, Tryz.ntmps8
  go_wp2_with fail
  refine H.mono ?_
  rintro e w1 ⟨rfl, hb1⟩
  go_wp2_with fail
  exact bodyPost_ret (v := .tuple #[.slice none 0 0, .slice none 0 0, errV n]) (by unfold results; rw [Tryz.results8]; go_simp) rfl (fin _ hb1)

set_option maxHeartbeats 4000000 in
set_option maxRecDepth 100000 in
theorem Merge_clash (od ad bd : Option Addr) (oc ca cb : Nat) (o a b : List Tr) (w : World) (ho : SlT w od o) (ha : SlT w ad a) (hb : SlT w bd b) (h0 : threeN o a b = 0) (hc : clashL o a b ≠ []) :
    Calls Tryz.prog 8 #[.slice od o.length oc, .slice ad a.length ca, .slice bd b.length cb] w (MergeAns o a b w) := by
  obtain ⟨so, sa, sb⟩ := three_zero.1 h0
  have H := changed_good od ad bd oc ca cb o a b w ho ha hb so sa sb
  obtain ⟨e1, e2, e3⟩ := merge_clash h0 hc
  have fin : ∀ w' yd yc, SlP w' yd (clashL o a b) → RowKit.Below w.heap.size w w' → MergeAns o a b w (.returned (.tuple #[.slice none 0 0, .slice yd (clashL o a b).length yc, errV 9])) w' := fun w' yd yc hy hb => by
    refine ⟨none, 0, yd, yc, ?_, ?_, ?_, hb⟩
    · rw [e1, e2, e3]; rfl
    · rw [e2]; exact fun h => absurd rfl h
    · rw [e3]; exact hy
  have hl : 0 < (clashL o a b).length := List.length_pos_iff.2 hc
  generalize MergeAns o a b w = R at *
  generalize clashL o a b = CL at *
  generalize onlyL o a b = ON at *
  clear ho ha hb h0 hc so sa sb e1 e2 e3
  go_enter Tryz.func8, Tryz.ntmps8
  go_wp2_with fail
  refine H.mono ?_
  rintro e w1 ⟨v, u, rfl, _, hu, _, hb1⟩
  obtain ⟨yd, yc, rfl, hy⟩ := own_slP hu
  have Hy := hideC hy
  have d1 : decide (0 < CL.length) = true := by simpa using hl
  have d2 : decide ((CL.length : Int) > 0) = true := by simpa using hl
  clear hu hy H
  go_wp2_with fail
  exact bodyPost_ret (v := .tuple #[.slice none 0 0, .slice yd CL.length yc, errV 9]) (by unfold results; rw [Tryz.results8]; go_simp; rfl) rfl (fin _ yd yc Hy.out hb1)

set_option maxHeartbeats 4000000 in
set_option maxRecDepth 100000 in
theorem Merge_good (od ad bd : Option Addr) (oc ca cb : Nat) (o a b : List Tr) (w : World) (ho : SlT w od o) (ha : SlT w ad a) (hb : SlT w bd b) (h0 : threeN o a b = 0) (hc : clashL o a b = []) :
    Calls Tryz.prog 8 #[.slice od o.length oc, .slice ad a.length ca, .slice bd b.length cb] w (MergeAns o a b w) := by
  obtain ⟨so, sa, sb⟩ := three_zero.1 h0
  have H := changed_good od ad bd oc ca cb o a b w ho ha hb so sa sb
  have lo := onlyL_len (o := o) sa sb
  have H2 := fun W (hW : RowKit.Below w.heap.size w W) pd pc (hp : SlP W pd (onlyL o a b)) => meet_any ad bd pd ca cb pc a b (onlyL o a b) W (ha.below hW) (hb.below hW) hp sa sb (onlyL_wf sa sb) (by omega)
  have e1 : mergeN o a b = sortN (metL a b (onlyL o a b)) := by
    have h := met_prefer (first := true) h0
    have ht : takeL o a b true = onlyL o a b := rfl
    rw [ht] at h
    rw [h]
    unfold mergeN preferN
    rw [if_pos hc]
  have fin : ∀ W w' e, RowKit.Below w.heap.size w W → SortAns (metL a b (onlyL o a b)) W e w' → ∃ (m : List Tr) (xd : Option Addr) (xc : Nat), e = .returned (.tuple #[.slice xd m.length xc, errV (mergeN o a b)]) ∧ MergeAns o a b w (.returned (.tuple #[.slice xd m.length xc, .slice none 0 0, errV (mergeN o a b)])) w' := fun W w' e hW hs => by
    obtain ⟨m, xd, xc, rfl, h1, h2, h3, h4⟩ := hs
    rw [← e1] at h3 h4 ⊢
    have em : m = mergeT o a b := by
      unfold mergeT
      split
      · rename_i h
        exact met_rising (first := true) sa sb (h3 h).1 (h3 h).2
      · rename_i h
        exact h4 h
    subst em
    have ec : mergeC o a b = [] := by unfold mergeC; rw [if_pos h0, hc]
    exact ⟨_, xd, xc, rfl, xd, xc, none, 0, by rw [ec]; rfl, h1, by rw [ec]; exact slP_nil _ _, bstep hW h2⟩
  rw [hc] at H
  generalize MergeAns o a b w = R at *
  generalize mergeN o a b = n at *
  generalize metL a b (onlyL o a b) = M at *
  generalize onlyL o a b = ON at *
  clear ho ha hb h0 hc so sa sb e1
  go_enter Tryz.func8, Tryz.ntmps8
  go_wp2_with fail
  refine H.mono ?_
  rintro e w1 ⟨v, u, rfl, hv, hu, _, hb1⟩
  obtain ⟨xd, xc, rfl, hx⟩ := own_slP hv
  obtain ⟨yd, yc, rfl, hy⟩ := own_slP hu
  have Hx := hideC hx
  clear hu hv hx hy H
  go_wp2_with fail
  refine (H2 _ hb1 _ _ Hx.out).mono ?_
  rintro e w2 hs
  obtain ⟨m, zd, zc, rfl, hR⟩ := fin _ _ _ hb1 hs
  have HR := hideC hR
  clear hR hs fin H2
  go_wp2_with fail
  exact bodyPost_ret (v := .tuple #[.slice zd m.length zc, .slice none 0 0, errV n]) (by unfold results; rw [Tryz.results8]; go_simp) rfl HR.out

theorem Merge_any (w : World) (od ad bd : Option Addr) (oc ca cb : Nat) (o a b : List Tr) (ho : SetIn w od o) (ha : SetIn w ad a) (hb : SetIn w bd b) :
    Calls Tryz.prog 8 #[.slice od o.length oc, .slice ad a.length ca, .slice bd b.length cb] w (MergeAns o a b w) := by
  by_cases h0 : threeN o a b = 0
  · by_cases hc : clashL o a b = []
    · exact Merge_good od ad bd oc ca cb o a b w ho.sl ha.sl hb.sl h0 hc
    · exact Merge_clash od ad bd oc ca cb o a b w ho.sl ha.sl hb.sl h0 hc
  · exact Merge_bad od ad bd oc ca cb o a b w ho ha hb h0

/-- an append of pairs to a row of one's own -/
theorem append_emptyP {base n : Nat} {v : Value} {cs : List Value} {W : World} (h : W.ownsRow base 55 6 v n cs) (ad : Option Addr) (cap : Nat) (ty : TypeId) :
    (Builtin.append_ #[25, 25] ty #[v, .slice ad 0 cap]).run Tryz.prog W = .ok v W := by
  obtain ⟨i, hi, hz⟩ := Option.map_eq_some_iff.1 infoP
  have hf : (Builtin.firstCells i.size 0 (.slice ad 0 cap)).run Tryz.prog W = .ok #[] W := by
    cases ad with
    | none => exact run_firstCells_none W _ _ _ _
    | some a => exact run_firstCells_some (P := Tryz.prog) W i.size 0 a 0 cap [] (by simp) (by simp)
  rcases h.2 with ⟨rfl, h0⟩ | ⟨g, c, cur, rfl, _, _, hle, _⟩
  · simp [Builtin.append_, run_underlying Tryz.underlying25, sizeOf, typeInfo, hi, Builtin.lenOf, hf]
  · simp [Builtin.append_, run_underlying Tryz.underlying25, sizeOf, typeInfo, hi, Builtin.lenOf, hf, hle, storeCells]
theorem wpList_append_pairs {ops : Array Oper} {rest : List Oper} {o : Oper} {a : Act} {Q : Exit → Act → World → Prop} (w : World) (hgd : o.guard = none) (s x : Operand)
    (ho : o.op = .call { callee := .builtin .append, args := #[s, x], argTypes := #[25, 25] })
    (base : Nat) (v : Value) (t l : List Pr) (ad : Option Addr) (c : Nat) (hs : a.eval s = v) (hx : a.eval x = .slice ad l.length c) (hown : w.ownsRow base 55 6 v t.length (cellsP t)) (hl : SlP w ad l)
    (h63 : t.length + l.length ≤ 1000) (hbase : base ≤ w.heap.size)
    (h : ∀ v' w', w'.ownsRow base 55 6 v' (t ++ l).length (cellsP (t ++ l)) → RowKit.Below base w w' → wpList Tryz.prog ops Q rest (a.put o.dst v') w') : wpList Tryz.prog ops Q (o :: rest) a w := by
  obtain ⟨i0, hi, hz⟩ := Option.map_eq_some_iff.1 infoP
  simp only [Prod.mk.injEq] at hz
  obtain ⟨hz0, hz1, hz2⟩ := hz
  cases l with
  | nil =>
    refine Lib.wpList_append_run w hgd s x _ _ ho v _ hs hx v w (append_emptyP hown ad c _) (h v w ?_ (RowKit.Below.refl _ _))
    simpa using hown
  | cons y r =>
    obtain ⟨b, off, rfl, hr⟩ := hl (by simp)
    refine wpList_append_own w hgd s x _ ho base 55 i0 (.agg (encP ((0, [], []), (0, [], []))).toArray) 6 80 Tryz.underlying25 hi hz0 hz1 hz2 rfl (by decide) v t.length (cellsP t) hs hown ⟨b, off, none⟩ (y :: r).length c (cellsP (y :: r)) hx (cellsP_len _) ?_ (cellsP_one _) (by unfold maxLen; omega) (by omega) hbase ?_
    · intro j u hj
      rw [Addr.add_lit]
      exact hr j u hj
    · intro v' w' h2 h3 _
      refine h v' w' ?_ ((RowKit.Below.refl _ _).grown h3 hbase (fun k hk => (hown.lt k hk).1))
      rw [List.length_append]
      simpa [cellsP] using h2

set_option maxHeartbeats 4000000 in
set_option maxRecDepth 100000 in
theorem Prefer_bad (od ad bd : Option Addr) (oc ca cb : Nat) (o a b : List Tr) (first : Bool) (w : World) (ho : SetIn w od o) (ha : SetIn w ad a) (hb : SetIn w bd b) (h0 : ¬ threeN o a b = 0) :
    Calls Tryz.prog 12 #[.slice od o.length oc, .slice ad a.length ca, .slice bd b.length cb, .bool first] w (PreferAns o a b first w) := by
  have H := changed_bad od ad bd oc ca cb o a b w ho ha hb h0
  have hn : (threeN o a b == 0) = false := by simpa using h0
  obtain ⟨e1, e2⟩ := prefer_bad first h0
  have fin : ∀ w', RowKit.Below w.heap.size w w' → PreferAns o a b first w (.returned (.tuple #[.slice none 0 0, errV (threeN o a b)])) w' := fun w' hb => by
    refine ⟨none, 0, ?_, ?_, hb⟩
    · rw [e1, e2]; rfl
    · rw [e2]; exact fun h => absurd rfl h
  generalize PreferAns o a b first w = R at *
  generalize threeN o a b = n at *
  have Fin := hideC fin
  clear ho ha hb h0 e1 e2 fin
  go_enter Tryz.func12, Tryz.ntmps12
  go_wp2_with fail
  refine H.mono ?_
  rintro e w1 ⟨rfl, hb1⟩
  go_wp2_with fail
  exact Fin.out _ hb1

set_option maxHeartbeats 4000000 in
set_option maxRecDepth 100000 in
theorem Prefer_good (od ad bd : Option Addr) (oc ca cb : Nat) (o a b : List Tr) (first : Bool) (w : World) (ho : SlT w od o) (ha : SlT w ad a) (hb : SlT w bd b) (h0 : threeN o a b = 0) :
    Calls Tryz.prog 12 #[.slice od o.length oc, .slice ad a.length ca, .slice bd b.length cb, .bool first] w (PreferAns o a b first w) := by
  obtain ⟨so, sa, sb⟩ := three_zero.1 h0
  have H := changed_good od ad bd oc ca cb o a b w ho ha hb so sa sb
  have lo := onlyL_len (o := o) sa sb
  have lc := clashL_len (o := o) sa sb
  have lt : (takeL o a b first).length ≤ 1000 := by
    unfold takeL
    split
    · omega
    · rw [List.length_append]; omega
  have H2 := fun W (hW : RowKit.Below w.heap.size w W) pd pc (hp : SlP W pd (takeL o a b first)) => meet_any ad bd pd ca cb pc a b (takeL o a b first) W (ha.below hW) (hb.below hW) hp sa sb (takeL_wf sa sb) lt
  have e1 : preferN o a b first = sortN (metL a b (takeL o a b first)) := (met_prefer h0).symm
  have fin : ∀ W w' e, RowKit.Below w.heap.size w W → SortAns (metL a b (takeL o a b first)) W e w' → ∃ (m : List Tr) (xd : Option Addr) (xc : Nat), e = .returned (.tuple #[.slice xd m.length xc, errV (preferN o a b first)]) ∧ PreferAns o a b first w (.returned (.tuple #[.slice xd m.length xc, errV (preferN o a b first)])) w' := fun W w' e hW hs => by
    obtain ⟨m, xd, xc, rfl, h1, h2, h3, h4⟩ := hs
    rw [← e1] at h3 h4 ⊢
    have em : m = preferT o a b first := by
      unfold preferT
      split
      · rename_i h
        exact met_rising sa sb (h3 h).1 (h3 h).2
      · rename_i h
        exact h4 h
    subst em
    exact ⟨_, xd, xc, rfl, xd, xc, rfl, h1, bstep hW h2⟩
  have tk : Hid (takeL o a b first = if first then onlyL o a b else onlyL o a b ++ clashL o a b) := rfl
  generalize PreferAns o a b first w = R at *
  generalize preferN o a b first = n at *
  generalize metL a b (takeL o a b first) = M at *
  generalize takeL o a b first = TK at *
  generalize onlyL o a b = ON at *
  generalize clashL o a b = CL at *
  clear ho ha hb h0 so sa sb e1
  go_enter Tryz.func12, Tryz.ntmps12
  go_wp2_with fail
  refine H.mono ?_
  rintro e w1 ⟨v, u, rfl, hv, hu, _, hb1⟩
  have hz1 := hb1.size
  cases first with
  | true =>
    obtain rfl : TK = ON := tk.out
    obtain ⟨xd, xc, rfl, hx⟩ := own_slP hv
    have Hx := hideC hx
    clear hu hv hx H tk
    go_wp2_with fail
    refine (H2 _ hb1 _ _ Hx.out).mono ?_
    rintro e w2 hs
    obtain ⟨m, zd, zc, rfl, hR⟩ := fin _ _ _ hb1 hs
    have HR := hideC hR
    clear hR hs fin H2
    go_wp2_with fail
    exact HR.out
  | false =>
    have htk : ON ++ CL = TK := tk.out.symm
    obtain ⟨yd, yc, rfl, hy⟩ := own_slP hu
    have Hy := hideC hy
    have Hv := hideC hv
    have HT := hideC htk
    clear hu hv hy H tk htk
    go_wp2_with (at_builtin; refine wpList_append_pairs _ rfl _ _ rfl w.heap.size _ ON CL yd yc rfl rfl Hv.out Hy.out (by omega) hz1 ?_; intro v' w2 hv2 hb2; rw [HT.out] at hv2; obtain ⟨xd, xc, rfl, hx⟩ := own_slP hv2; have Hx := hideC hx; have hB2 := RowKit.Below.trans hb1 hb2; clear hv2 hx)
    refine (H2 _ hB2 _ _ Hx.out).mono ?_
    rintro e w3 hs
    obtain ⟨m, zd, zc, rfl, hR⟩ := fin _ _ _ hB2 hs
    have HR := hideC hR
    clear hR hs fin H2
    go_wp2_with fail
    exact HR.out

theorem Prefer_any (w : World) (od ad bd : Option Addr) (oc ca cb : Nat) (o a b : List Tr) (first : Bool) (ho : SetIn w od o) (ha : SetIn w ad a) (hb : SetIn w bd b) :
    Calls Tryz.prog 12 #[.slice od o.length oc, .slice ad a.length ca, .slice bd b.length cb, .bool first] w (PreferAns o a b first w) := by
  by_cases h0 : threeN o a b = 0
  · exact Prefer_good od ad bd oc ca cb o a b first w ho.sl ha.sl hb.sl h0
  · exact Prefer_bad od ad bd oc ca cb o a b first w ho ha hb h0

/-- the program's merge -/
theorem theMerge : MFace where
  merge := Merge_any
  prefer := Prefer_any
  pairs := fun w ad bd ca cb a b ha hb => Pairs_any ad bd ca cb a b w ha hb
end Go.Proofs.YtifkcoappflenagGreatDoor
