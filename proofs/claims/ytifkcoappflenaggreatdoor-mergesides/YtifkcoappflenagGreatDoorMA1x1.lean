import Derived.Test.YtifkcoappflenagGreatDoorMA0x3
import Derived.Test.YtifkcoappflenagGreatDoorMA1x0
import Derived.OwnWalk
import Derived.Test.YtifkcoappflenagGreatDoorRows
import Derived.WalkKit
import Derived.Maps.AppendAt

/- The program's way of merging, in plain words: the pairs that b alone changed are taken as b has them, all others as a has them. -/
namespace Go.Proofs.YtifkcoappflenagGreatDoor
open Go Go.RowKit Go.Proofs
set_option synthInstance.maxSize 1000

theorem ofL_eq {a b : List Tr} (ha : Rising a) (hb : Rising b) (p : Pr) : ofL a p = ofL b p ↔ ∀ x, pairOf x = p → (x ∈ a ↔ x ∈ b) := by
  constructor
  · intro h x hx
    constructor
    · intro h1; exact (ofL_mem.1 (h ▸ ofL_mem.2 ⟨h1, hx⟩)).1
    · intro h1; exact (ofL_mem.1 (h.symm ▸ ofL_mem.2 ⟨h1, hx⟩)).1
  · intro h
    refine rising_unique _ _ (ofL_rising p ha) (ofL_rising p hb) fun x => ?_
    rw [ofL_mem, ofL_mem]
    constructor
    · rintro ⟨h1, h2⟩; exact ⟨(h x h2).1 h1, h2⟩
    · rintro ⟨h1, h2⟩; exact ⟨(h x h2).2 h1, h2⟩
theorem ofL_none {m : List Tr} {p : Pr} (h : ¬ ∃ x ∈ m, pairOf x = p) : ofL m p = [] := by
  rw [List.eq_nil_iff_forall_not_mem]
  intro x hx
  exact h ⟨x, (ofL_mem.1 hx).1, (ofL_mem.1 hx).2⟩
theorem diffL_rising (a b : List Tr) : RisingP (diffL a b) := List.Pairwise.filter _ (pairs2_rising a b)
theorem clashL_rising (o a b : List Tr) : RisingP (clashL o a b) := List.Pairwise.filter _ (pairs3_rising o a b)
theorem diffL_mem {a b : List Tr} {p : Pr} : p ∈ diffL a b ↔ ofL a p ≠ ofL b p := by
  unfold diffL
  rw [List.mem_filter, pairs2_mem]
  constructor
  · rintro ⟨_, h⟩; exact of_decide_eq_true h
  · intro h
    refine ⟨?_, decide_eq_true h⟩
    by_cases h1 : ∃ x ∈ a, pairOf x = p
    · exact .inl h1
    · by_cases h2 : ∃ x ∈ b, pairOf x = p
      · exact .inr h2
      · exact absurd ((ofL_none h1).trans (ofL_none h2).symm) h
theorem clashL_mem {o a b : List Tr} {p : Pr} : p ∈ clashL o a b ↔ ofL o p ≠ ofL a p ∧ ofL o p ≠ ofL b p ∧ ofL a p ≠ ofL b p := by
  unfold clashL
  rw [List.mem_filter, pairs3_mem]
  constructor
  · rintro ⟨_, h⟩; exact of_decide_eq_true h
  · intro h
    refine ⟨?_, decide_eq_true h⟩
    by_cases h1 : ∃ x ∈ a, pairOf x = p
    · exact .inr (.inl h1)
    · by_cases h2 : ∃ x ∈ b, pairOf x = p
      · exact .inr (.inr h2)
      · exact absurd ((ofL_none h1).trans (ofL_none h2).symm) h.2.2
/-- the pairs of what is between two sets are those that differ -/
theorem btw_pairs {a b : List Tr} (ha : Rising a) (hb : Rising b) (p : Pr) : p ∈ (lessL b a ++ lessL a b).map pairOf ↔ p ∈ diffL a b := by
  rw [diffL_mem, List.mem_map]
  constructor
  · rintro ⟨x, hx, rfl⟩ h
    have h' := (ofL_eq ha hb _).1 h x rfl
    rcases List.mem_append.1 hx with hx | hx
    · exact (mem_lessL.1 hx).2 (h'.2 (mem_lessL.1 hx).1)
    · exact (mem_lessL.1 hx).2 (h'.1 (mem_lessL.1 hx).1)
  · intro h
    apply Classical.byContradiction
    intro hn
    refine h ((ofL_eq ha hb p).2 fun x hx => ?_)
    constructor
    · intro h1
      apply Classical.byContradiction
      intro h2
      exact hn ⟨x, List.mem_append.2 (.inr (mem_lessL.2 ⟨h1, h2⟩)), hx⟩
    · intro h1
      apply Classical.byContradiction
      intro h2
      exact hn ⟨x, List.mem_append.2 (.inl (mem_lessL.2 ⟨h1, h2⟩)), hx⟩

/-- the pairs that b alone has unlike the base (and unlike a), and those that both have so -/
def onlyL (o a b : List Tr) : List Pr := (diffL a b).filter fun p => !decide (p ∈ diffL o a)
def bothP (o a b : List Tr) : List Pr := (diffL a b).filter fun p => decide (p ∈ diffL o a) && decide (p ∈ diffL o b)
theorem onlyL_mem {o a b : List Tr} {p : Pr} : p ∈ onlyL o a b ↔ ofL a p ≠ ofL b p ∧ ofL o p = ofL a p := by
  unfold onlyL
  rw [List.mem_filter, diffL_mem]
  simp [diffL_mem]
theorem bothP_clash (o a b : List Tr) : bothP o a b = clashL o a b := by
  refine risingP_unique _ _ (List.Pairwise.filter _ (diffL_rising _ _)) (clashL_rising _ _ _) fun p => ?_
  unfold bothP
  rw [clashL_mem, List.mem_filter, diffL_mem]
  simp only [Bool.and_eq_true, decide_eq_true_eq, diffL_mem]
  constructor
  · rintro ⟨h1, h2, h3⟩; exact ⟨h2, h3, h1⟩
  · rintro ⟨h1, h2, h3⟩; exact ⟨h3, h1, h2⟩
/-- which pairs are taken as b has them -/
def takeL (o a b : List Tr) (first : Bool) : List Pr := if first then onlyL o a b else onlyL o a b ++ clashL o a b
theorem takeL_mem {o a b : List Tr} {first : Bool} {p : Pr} (h : p ∈ takeL o a b first) : mineL o a b first p = ofL b p := by
  unfold takeL at h
  cases first
  · simp only [Bool.false_eq_true, if_false] at h
    rcases List.mem_append.1 h with h | h
    · unfold mineL
      rw [if_pos (onlyL_mem.1 h).2]
    · obtain ⟨h1, h2, h3⟩ := clashL_mem.1 h
      unfold mineL
      rw [if_neg h1, if_pos ⟨h2, h3, rfl⟩]
  · simp only [if_true] at h
    unfold mineL
    rw [if_pos (onlyL_mem.1 h).2]
theorem takeL_not {o a b : List Tr} {first : Bool} {p : Pr} (h : p ∉ takeL o a b first) : mineL o a b first p = ofL a p := by
  have h0 : p ∉ onlyL o a b := fun h' => h (by unfold takeL; cases first <;> simp [h'])
  have h0' : ofL o p = ofL a p → ofL b p = ofL a p := fun e => by
    apply Classical.byContradiction
    intro hn
    exact h0 (onlyL_mem.2 ⟨fun e' => hn e'.symm, e⟩)
  unfold mineL
  split
  · rename_i e; exact h0' e
  · rename_i e
    split
    · rename_i e2
      obtain ⟨h1, h2, h3⟩ := e2
      subst h3
      exact absurd (by unfold takeL; simp only [Bool.false_eq_true, if_false]; exact List.mem_append.2 (.inr (clashL_mem.2 ⟨e, h1, h2⟩))) h
    · rfl
/-- what is handed to Sort -/
def metL (a b : List Tr) (ps : List Pr) : List Tr := (a.filter fun x => !decide (pairOf x ∈ ps)) ++ b.filter fun x => decide (pairOf x ∈ ps)
theorem metL_mem {o a b : List Tr} {first : Bool} (x : Tr) : x ∈ metL a b (takeL o a b first) ↔ x ∈ outL o a b first := by
  unfold metL
  rw [out_mem, List.mem_append, List.mem_filter, List.mem_filter]
  by_cases h : pairOf x ∈ takeL o a b first
  · rw [takeL_mem h, ofL_mem]
    simp [h]
  · rw [takeL_not h, ofL_mem]
    simp [h]
theorem metL_nodup {a b : List Tr} (ps : List Pr) (ha : Rising a) (hb : Rising b) : (metL a b ps).Nodup := by
  unfold metL
  refine List.nodup_append.2 ⟨(rising_nodup ha).filter _, (rising_nodup hb).filter _, fun x hx y hy e => ?_⟩
  subst e
  have h1 := (List.mem_filter.1 hx).2
  have h2 := (List.mem_filter.1 hy).2
  simp at h1 h2
  exact h1 h2
theorem metL_len {o a b : List Tr} {first : Bool} (ha : Rising a) (hb : Rising b) : (metL a b (takeL o a b first)).length = (outL o a b first).length := by
  have h1 := List.Nodup.length_le_of_subset (l₂ := outL o a b first) (metL_nodup (takeL o a b first) ha hb) fun x hx => (metL_mem x).1 hx
  have h2 := List.Nodup.length_le_of_subset (l₂ := metL a b (takeL o a b first)) (rising_nodup (out_rising (o := o) (first := first) ha hb)) fun x hx => (metL_mem x).2 hx
  omega
theorem metL_chk {a b : List Tr} {ps : List Pr} (ha : IsSet a) (hb : IsSet b) : ∀ x ∈ metL a b ps, chkTr x = 0 := by
  intro x hx
  rcases List.mem_append.1 hx with h | h
  · exact ha.2.1 x (List.mem_filter.1 h).1
  · exact hb.2.1 x (List.mem_filter.1 h).1
theorem sortN_met {a b : List Tr} {ps : List Pr} (ha : IsSet a) (hb : IsSet b) : sortN (metL a b ps) = if (metL a b ps).length ≤ 200 then 0 else 4 := by
  split
  · rename_i h
    exact sortN_zero.2 ⟨h, metL_chk ha hb⟩
  · rename_i h
    unfold sortN faultN
    rw [if_pos (by omega)]
/-- the answer of merge's own way is the document's -/
theorem met_prefer {o a b : List Tr} {first : Bool} (h : threeN o a b = 0) : sortN (metL a b (takeL o a b first)) = preferN o a b first := by
  obtain ⟨so, sa, sb⟩ := three_zero.1 h
  rw [sortN_met sa sb, metL_len sa.2.2 sb.2.2]
  unfold preferN
  rw [orN_pos h]
theorem met_rising {o a b m : List Tr} {first : Bool} (sa : IsSet a) (sb : IsSet b) (hm : Rising m) (he : ∀ x, x ∈ m ↔ x ∈ metL a b (takeL o a b first)) : m = outL o a b first :=
  rising_unique _ _ hm (out_rising sa.2.2 sb.2.2) fun x => (he x).trans (metL_mem x)
theorem diffL_len {a b : List Tr} (sa : IsSet a) (sb : IsSet b) : (diffL a b).length ≤ 400 := by
  have h4 : (diffL a b).length ≤ (pairs2 a b).length := List.length_filter_le _ _
  have h5 : (pairs2 a b).length ≤ a.length + b.length := by
    have h6 := allP_len b (allP [] a)
    have h7 := allP_len a []
    unfold pairs2
    simp at h7
    omega
  have := sa.1
  have := sb.1
  omega
theorem onlyL_len {o a b : List Tr} (sa : IsSet a) (sb : IsSet b) : (onlyL o a b).length ≤ 400 := Nat.le_trans (List.length_filter_le _ _) (diffL_len sa sb)
theorem bothP_len {o a b : List Tr} (sa : IsSet a) (sb : IsSet b) : (bothP o a b).length ≤ 400 := Nat.le_trans (List.length_filter_le _ _) (diffL_len sa sb)
end Go.Proofs.YtifkcoappflenagGreatDoor

/- merge.Pairs: which pairs differ. -/
namespace Go.Proofs.YtifkcoappflenagGreatDoor
open Go Go.RowKit Go.Proofs Go.Maps
set_option synthInstance.maxSize 1000

attribute [local go_sem] eql_errV neq_errV guard_errV

set_option maxRecDepth 100000 in
theorem pairOf_any (x : Tr) (w : World) : Calls Tryz.prog 29 #[valTr x] w fun e w' => e = .returned (valP (pairOf x)) ∧ RowKit.Below w.heap.size w w' := by
  unfold valTr
  go_enter Tryz.func29, Tryz.ntmps29
  go_wp2
  exact bodyPost_ret (v := valP (pairOf x)) (by unfold results; rw [Tryz.results29]; go_simp; rfl) rfl ⟨rfl, by repeat (first | exact balloc _ _ | refine bstep ?_ (balloc _ _))⟩

theorem ownsP_below {w w' : World} {b n : Nat} {D : DataW Unit} (h : w.ownsMap Tryz.prog 55 unitElem b n D) (hb : RowKit.Below w.heap.size w w') : w'.ownsMap Tryz.prog 55 unitElem b n D := by
  obtain ⟨es, clock, hm, r⟩ := h
  have hlt : b < w.heap.size := (Array.getElem?_eq_some_iff.1 hm).1
  exact ⟨es, clock, (hb.block b hlt).trans hm, r⟩

/-- a list stays when a map turns -/
theorem SlT.grownMap {w w' : World} {ad : Option Addr} {l : List Tr} {b n : Nat} {D : DataW Unit} (h : SlT w ad l) (hm : w.ownsMap Tryz.prog 55 unitElem b n D) (hg : w.grownBy w' (some b)) : SlT w' ad l := fun hl => by
  obtain ⟨b', o, e, r⟩ := h hl
  refine ⟨b', o, e, fun j v hv => ?_⟩
  have hc := r j v hv
  have hlt := World.block_lt_of_cell? w _ hc
  have hne : b' ≠ b := fun e => by
    subst e
    obtain ⟨es, clock, hb, _⟩ := hm
    simp [World.cell?, hb] at hc
  have q := hg.block b' hlt (fun e => hne (Option.some.inj e))
  simp only [World.cell?] at hc ⊢
  rw [q]
  exact hc

theorem makeMapP (w : World) : (Instr.makeMap 65 none).run Tryz.prog w = .ok (.map (some w.heap.size)) (w.alloc (.map #[] 0)) := by kernel_rfl

set_option maxHeartbeats 4000000 in
set_option maxRecDepth 100000 in
theorem Pairs_bad (ad bd : Option Addr) (ca cb : Nat) (a b : List Tr) (w : World) (ha : SetIn w ad a) (hb : SetIn w bd b) (h0 : ¬ bothN a b = 0) :
    Calls Tryz.prog 14 #[.slice ad a.length ca, .slice bd b.length cb] w fun e w' => e = .returned (.tuple #[.slice none 0 0, errV (bothN a b)]) ∧ RowKit.Below w.heap.size w w' := by
  have H := fun W h1 h2 => LBetween_any ad bd ca cb a b W h1 h2 ha.fit hb.fit ha.max hb.max
  have Ha : Hid (SlT w ad a) := ha.sl
  have Hb : Hid (SlT w bd b) := hb.sl
  have hn : (bothN a b == 0) = false := by simpa using h0
  generalize BtwAns a b = TA at *
  generalize bothN a b = n at *
  clear ha hb h0
  go_enter Tryz.func14, Tryz.ntmps14
  go_wp2_with fail
  refine (H _ Ha.out Hb.out).mono ?_
  rintro e w1 ⟨hb1, m1, a1, c1, m2, a2, c2, rfl, _, _, _⟩
  go_wp2_with fail
  exact bodyPost_ret (v := .tuple #[.slice none 0 0, errV n]) (by unfold results; rw [Tryz.results14]; go_simp) rfl ⟨rfl, bstep hb1 (balloc _ _)⟩

set_option maxHeartbeats 4000000 in
set_option maxRecDepth 100000 in
theorem Pairs_good (ad bd : Option Addr) (ca cb : Nat) (a b : List Tr) (w : World) (ha : SlT w ad a) (hb : SlT w bd b) (sa : IsSet a) (sb : IsSet b) :
    Calls Tryz.prog 14 #[.slice ad a.length ca, .slice bd b.length cb] w fun e w' => ∃ (yd : Option Addr) (yc : Nat) (m : List Pr), e = .returned (.tuple #[.slice yd m.length yc, .nilIface]) ∧ SlP w' yd m ∧ m = diffL a b ∧ RowKit.Below w.heap.size w w' := by
  have h0 : bothN a b = 0 := bothN_zero.2 ⟨sa, sb⟩
  have H : ∀ W, SlT W ad a → SlT W bd b → Calls Tryz.prog 27 #[.slice ad a.length ca, .slice bd b.length cb] W fun e w' => ∃ a1 c1 a2 c2, e = .returned (.tuple #[.agg #[.slice a1 (lessL b a).length c1, .slice a2 (lessL a b).length c2], .nilIface]) ∧ SlT w' a1 (lessL b a) ∧ SlT w' a2 (lessL a b) ∧ RowKit.Below W.heap.size W w' := fun W h1 h2 => by
    have q := LBetween_any ad bd ca cb a b W h1 h2 sa.fit sb.fit (by have := sa.1; omega) (by have := sb.1; omega)
    rw [h0] at q
    refine q.mono ?_
    rintro e w1 ⟨hb1, m1, a1, c1, m2, a2, c2, rfl, h1, h2, hA⟩
    obtain ⟨rfl, rfl⟩ := hA.1 h0
    exact ⟨a1, c1, a2, c2, rfl, h1, h2, hb1⟩
  have Ha : Hid (SlT w ad a) := ha
  have Hb : Hid (SlT w bd b) := hb
  have lA : (lessL b a).length ≤ 200 := (lessSet sb).1
  have lB : (lessL a b).length ≤ 200 := (lessSet sa).1
  have hP : Hid (∀ p, p ∈ (lessL b a ++ lessL a b).map pairOf ↔ p ∈ diffL a b) := btw_pairs sa.2.2 sb.2.2
  have hR : Hid (RisingP (diffL a b)) := diffL_rising a b
  have hW : Hid (∀ x ∈ lessL b a ++ lessL a b, chkTr x = 0) := fun x hx => by
    rcases List.mem_append.1 hx with h | h
    · exact sb.2.1 x (mem_lessL.1 h).1
    · exact sa.2.1 x (mem_lessL.1 h).1
  generalize lessL b a = A at *
  generalize lessL a b = B at *
  generalize diffL a b = F at *
  obtain ⟨C, hC⟩ : ∃ C, A ++ B = C := ⟨_, rfl⟩
  have lC : C.length ≤ 400 := by rw [← hC, List.length_append]; omega
  rw [hC] at hP hW
  have HC := fun W bs a1 c1 a2 c2 h0 h1 h2 h3 => Concat_any bs a1 a2 c1 c2 A B W h0 h1 h2 h3 lA lB
  simp only [hC] at HC
  have hmm := makeMapP
  clear ha hb sa sb h0 hC lA lB
  go_enter Tryz.func14, Tryz.ntmps14
  go_wp2_with fail
  refine (H _ Ha.out Hb.out).mono ?_
  rintro e w1 ⟨a1, c1, a2, c2, rfl, hs1, hs2, hb1⟩
  have Hs : Hid (SlT w1 a1 A ∧ SlT w1 a2 B) := ⟨hs1, hs2⟩
  have hz1 := hb1.size
  clear H hs1 hs2
  go_wp2_with fail
  refine (HC _ _ a1 c1 a2 c2 (by go_simp) (by go_simp) (((Hs.out.1.below (balloc _ _)).below (balloc _ _)).below (balloc _ _)) (((Hs.out.2.below (balloc _ _)).below (balloc _ _)).below (balloc _ _))).mono ?_
  rintro e w2 ⟨a3, c3, rfl, hs3, hb2⟩
  have hT2 : RowKit.Below w1.heap.size w1 w2 := bstep (bstep (bstep (balloc _ _) (balloc _ _)) (balloc _ _)) hb2
  have hM2 : Hid (InMapP w2 (w1.heap.size + 1) 0 []) := by
    show InMapP _ _ _ _
    have q := inMapP_made (w1.alloc (.cells #[.slice a1 A.length c1, .slice a2 B.length c2] 62))
    rw [World.size_alloc] at q
    exact (q.below (balloc _ _)).below hb2
  have Hs3 : Hid (SlT w2 a3 C) := hs3
  clear hs3 HC Hs
  go_wp2_with fail
  go_loopw [28] (fun i wr => ∃ k : Nat, k ≤ C.length ∧ i = .int .i64 k ∧ Hid (InMapP wr (w1.heap.size + 1) k ((C.take k).map pairOf)) ∧ Hid (SlT wr a3 C) ∧ RowKit.Below w1.heap.size w1 wr) (fun i wr => C.length - (intOf i).toNat)
  case atStart => exact ⟨0, Nat.zero_le _, rfl, hM2, Hs3, hT2⟩
  case round =>
    obtain ⟨k, hk, rfl, hin, hsC, hbr⟩ := hrel
    by_cases hlt : k < C.length
    · obtain ⟨b', o', rfl, hr⟩ := hsC.out.at k hlt
      obtain ⟨e0, e1, e2, e3, e4, e5, e6, e7, e8⟩ := hr.at k hlt
      have i0 : (0 : Int) ≤ (k : Int) := by omega
      have i1 : (k : Int) < (C.length : Int) := by omega
      obtain ⟨D, hown0, hD0⟩ := hin.out
      have hown : Hid (wr.ownsMap Tryz.prog 55 unitElem (w1.heap.size + 1) k D) := hown0
      have hy : Hid (wfP (pairOf C[k])) := wf_pair (hW.out _ (List.getElem_mem hlt))
      have hput : Hid (∀ x, wfP x → Maps.has (D.put (keyP (pairOf C[k])) (.agg [])) (keyP x) = decide (x ∈ (C.take (k + 1)).map pairOf)) := by
        have := has_putP hown0.isMap hy.out hD0 (.agg [])
        rw [List.take_succ_eq_append_getElem hlt, List.map_append]
        exact this
      have hkey := keyOf_p (pairOf C[k]) hy.out
      have HP := pairOf_any C[k]
      have hzr := hbr.size
      clear hr hown0 hD0 hin hy
      generalize C[k] = y at *
      unfold valTr at HP
      unfold valP at hkey HP
      go_wp2_with fail
      refine (HP _).mono ?_
      rintro e w3 ⟨rfl, hb3⟩
      have hown3 : Hid (w3.ownsMap Tryz.prog 55 unitElem (w1.heap.size + 1) k D) := ownsP_below (hown.out.alloc _) hb3
      have hB3 : RowKit.Below w1.heap.size w1 w3 := bstep (bstep hbr (balloc _ _)) hb3
      have hs3 : Hid (SlT w3 _ C) := (hsC.out.below (balloc _ _)).below hb3
      have hz3 := hB3.size
      clear HP hown e0 e1 e2 e3 e4 e5 e6 e7 e8
      go_wp2_with (first
        | (at_mapUpdate; refine wpList_mapUpdate_own _ rfl _ _ _ 65 rfl 55 67 keyedP Tryz.underlying65 (unitElem (H := Unit)) (w1.heap.size + 1) k _ rfl hown3.out (by unfold maxLen; omega) _ _ _ rfl rfl hkey _ [] unitElem_mk ?_; intro w4 hown1 hgrow1))
      go_roundw
      case rel => exact ⟨k + 1, by omega, by go_num, ⟨_, hown1, hput.out⟩, hs3.out.grownMap hown3.out hgrow1, hB3.grown hgrow1 (by omega) (fun j hj => by cases hj; omega)⟩
      case measure => simp [intOf]; omega
    · obtain rfl : k = C.length := by omega
      have hin' : Hid (InMapP wr (w1.heap.size + 1) C.length (C.map pairOf)) := by have := hin.out; rwa [List.take_length] at this
      have hwf : Hid (∀ x ∈ C.map pairOf, wfP x) := fun x hx => by
        obtain ⟨y, hy, rfl⟩ := List.mem_map.1 hx
        exact wf_pair (hW.out y hy)
      have hlen : (C.map pairOf).length ≤ 1000 := by rw [List.length_map]; omega
      clear hin hW Hs3 hsC
      generalize C.map pairOf = T at *
      go_wp2_with (first
        | (go_at_call 31; refine (KeysP_any (w1.heap.size + 1) C.length T _ hin'.out).mono ?_; rintro e w3 ⟨bx, rfl, hK, hb3⟩; have HK : Hid (KeysOfP w3 bx C.length T) := hK; clear hK)
        | (go_at_call 30; refine (SortedFuncP_any bx C.length T _ HK.out hwf.out (by omega) hlen).mono ?_; rintro e w4 ⟨yd, yc, m, rfl, hsl, hri, hme, hb4⟩))
      exact bodyPost_ret (v := .tuple #[.slice yd m.length yc, .nilIface]) (by unfold results; rw [Tryz.results14]; go_simp) rfl ⟨yd, yc, m, rfl, hsl, risingP_unique _ _ hri hR.out fun x => (hme x).trans (hP.out x), bstep (bstep (bstep hb1 hbr) hb3) hb4⟩

theorem Pairs_any (ad bd : Option Addr) (ca cb : Nat) (a b : List Tr) (w : World) (ha : SetIn w ad a) (hb : SetIn w bd b) :
    Calls Tryz.prog 14 #[.slice ad a.length ca, .slice bd b.length cb] w (PairsAns a b w) := by
  by_cases h0 : bothN a b = 0
  · obtain ⟨sa, sb⟩ := bothN_zero.1 h0
    refine (Pairs_good ad bd ca cb a b w ha.sl hb.sl sa sb).mono ?_
    rintro e w' ⟨yd, yc, m, rfl, hs, rfl, hb⟩
    have e1 : pairsC a b = diffL a b := by unfold pairsC; rw [if_pos h0]
    exact ⟨yd, yc, by rw [e1, h0]; rfl, by rw [e1]; exact hs, hb⟩
  · refine (Pairs_bad ad bd ca cb a b w ha hb h0).mono ?_
    rintro e w' ⟨rfl, hb⟩
    have e1 : pairsC a b = [] := by unfold pairsC; rw [if_neg h0]
    exact ⟨none, 0, by rw [e1]; rfl, by rw [e1]; exact slP_nil _ _, hb⟩
end Go.Proofs.YtifkcoappflenagGreatDoor

/- merge.asker: a map of a list's pairs, and the question whether one is in it. -/
namespace Go.Proofs.YtifkcoappflenagGreatDoor
open Go Go.RowKit Go.Proofs Go.Maps
set_option synthInstance.maxSize 1000

/-- at a block lies the map of these pairs -/
def AskP (w : World) (bx : Nat) (l : List Pr) : Prop := ∃ bm, w.cell? ⟨bx, 0, none⟩ = some (.map (some bm)) ∧ InMapP w bm l.length l

theorem AskP.below {w w' : World} {bx : Nat} {l : List Pr} (h : AskP w bx l) (hb : RowKit.Below w.heap.size w w') : AskP w' bx l := by
  obtain ⟨bm, hc, hm⟩ := h
  exact ⟨bm, (hb.cell (World.block_lt_of_cell? w _ hc)).trans hc, hm.below hb⟩

set_option maxHeartbeats 1000000 in
set_option maxRecDepth 100000 in
theorem askP_any (bx : Nat) (l : List Pr) (x : Pr) (w : World) (h : AskP w bx l) (hx : wfP x) :
    Calls Tryz.prog 61 #[valP x, .pointer (some ⟨bx, 0, none⟩)] w fun e w' => e = .returned (.bool (decide (x ∈ l))) ∧ RowKit.Below w.heap.size w w' := by
  obtain ⟨bm, hc, D, hown, hD⟩ := h
  have hkey := keyOf_p x hx
  have hd : Hid (Maps.has D (keyP x) = decide (x ∈ l)) := hD x hx
  have hbx : bx < w.heap.size := World.block_lt_of_cell? w _ hc
  clear hD
  unfold valP at hkey ⊢
  go_enter Tryz.func61, Tryz.ntmps61
  go_wp2_with (first
    | (at_lookup; refine wpList_lookup_own_unit _ rfl _ _ 65 rfl 55 67 keyedP Tryz.underlying65 (zeroUnit _) bm _ _ rfl (hown.alloc _) _ _ rfl hkey ?_))
  go_ret
  exact ⟨ret_bool hd.out, bstep (balloc _ _) (balloc _ _)⟩

theorem enters61 : ∀ args w, (callFunc 61 args).run Tryz.prog w = .ok (.enter 61 args) w := enters_of Tryz.func61 (by kernel_rfl) rfl

theorem makeMapHintP (n : Int) (w : World) : (Instr.makeMap 65 (some (.int .i64 n))).run Tryz.prog w = .ok (.map (some w.heap.size)) (w.alloc (.map #[] 0)) := by kernel_rfl

set_option maxHeartbeats 2000000 in
set_option maxRecDepth 100000 in
theorem askerP_any (ad : Option Addr) (cap : Nat) (l : List Pr) (w : World) (h : SlP w ad l) (hs : ∀ x ∈ l, wfP x) (h200 : l.length ≤ 1000) :
    Calls Tryz.prog 46 #[.slice ad l.length cap] w fun e w' => ∃ bx, e = .returned (.func (.func 61) #[] #[.pointer (some ⟨bx, 0, none⟩)]) ∧ AskP w' bx l ∧ RowKit.Below w.heap.size w w' := by
  have hmm := makeMapHintP
  have Hl : Hid (SlP w ad l) := h
  have Hs : Hid (∀ x ∈ l, wfP x) := hs
  clear h hs
  go_enter Tryz.func46, Tryz.ntmps46
  go_wp2_with fail
  go_loopw [11] (fun i wr => ∃ k : Nat, k ≤ l.length ∧ i = .int .i64 k ∧ Hid (InMapP wr w.heap.size k (l.take k)) ∧ wr.cell? ⟨w.heap.size + 1, 0, none⟩ = some (.map (some w.heap.size)) ∧ RowKit.Below w.heap.size w wr) (fun i wr => l.length - (intOf i).toNat)
  case atStart =>
    refine ⟨0, Nat.zero_le _, rfl, ?_, by go_simp, ?_⟩
    · show InMapP _ _ _ _
      rw [List.take_zero]
      exact (inMapP_made w).below (balloc _ _)
    · exact bstep (balloc _ _) (balloc _ _)
  case round =>
    obtain ⟨k, hk, rfl, hin, hcb, hbr⟩ := hrel
    by_cases hlt : k < l.length
    · obtain ⟨b, o, rfl, hr⟩ := (Hl.out.below hbr).at k hlt
      obtain ⟨c0, c1, c2, c3, c4, c5⟩ := hr.at k hlt
      have i0 : (0 : Int) ≤ (k : Int) := by omega
      have i1 : (k : Int) < (l.length : Int) := by omega
      obtain ⟨D, hown0, hD0⟩ := hin.out
      have hown : Hid (wr.ownsMap Tryz.prog 55 unitElem w.heap.size k D) := hown0
      have hy : Hid (wfP l[k]) := Hs.out _ (List.getElem_mem hlt)
      have hput : Hid (∀ x, wfP x → Maps.has (D.put (keyP l[k]) (.agg [])) (keyP x) = decide (x ∈ l.take (k + 1))) := by
        have := has_putP hown0.isMap hy.out hD0 (.agg [])
        rw [List.take_succ_eq_append_getElem hlt]
        exact this
      have hkey := keyOf_p l[k] hy.out
      have hzr := hbr.size
      have hb1 : w.heap.size + 1 < wr.heap.size := World.block_lt_of_cell? wr _ hcb
      clear hr hown0 hD0 hin
      generalize l[k] = y at *
      unfold valP at hkey
      go_wp2_with (first
        | (at_mapUpdate; refine wpList_mapUpdate_own _ rfl _ _ _ 65 rfl 55 67 keyedP Tryz.underlying65 (unitElem (H := Unit)) w.heap.size k _ rfl (hown.out.alloc _) (by unfold maxLen; omega) _ _ _ rfl rfl hkey _ [] unitElem_mk ?_; intro w1 hown1 hgrow1))
      go_roundw
      case rel =>
        refine ⟨k + 1, by omega, by go_num, ⟨_, hown1, hput.out⟩, ?_, ?_⟩
        · have q := hgrow1.block (w.heap.size + 1) (by simp; omega) (by simp)
          have := (balloc wr (.cells (encP y).toArray 55)).cell (p := ⟨w.heap.size + 1, 0, none⟩) hb1
          rw [hcb] at this
          simp only [World.cell?] at this ⊢
          rw [q]
          exact this
        · exact (hbr.alloc hzr _).grown hgrow1 (by simp; omega) (fun j hj => by cases hj; exact Nat.le_refl _)
      case measure => simp [intOf]; omega
    · obtain rfl : k = l.length := by omega
      go_wp2_with fail
      go_ret
      refine ⟨w.heap.size + 1, rfl, ⟨w.heap.size, hcb, ?_⟩, hbr⟩
      have := hin.out
      rwa [List.take_length] at this
end Go.Proofs.YtifkcoappflenagGreatDoor

/- Rows of one's own that lie in blocks of their own. -/
namespace Go.Proofs.YtifkcoappflenagGreatDoor
open Go Go.RowKit Go.Proofs

theorem own_mono {W : World} {B C e s n : Nat} {v : Value} {xs : List Value} (h : W.ownsRow B e s v n xs) (hb : C ≤ B) : W.ownsRow C e s v n xs :=
  ⟨h.1, h.2.imp id fun ⟨g, cap, cur, e, hg, r⟩ => ⟨g, cap, cur, e, Nat.le_trans hb hg, r⟩⟩
/-- two rows of one's own lie in blocks of their own -/
def Far2 (v u : Value) : Prop := ∀ g, v.ownBlock = some g → u.ownBlock ≠ some g
theorem Far2.symm {v u : Value} (h : Far2 v u) : Far2 u v := fun g h1 h2 => h g h2 h1
theorem Far2.out {v u : Value} (h : Far2 v u) : u.ownBlock = none ∨ u.ownBlock ≠ v.ownBlock := by
  cases e : u.ownBlock with
  | none => exact .inl rfl
  | some g => exact .inr fun e' => h g e'.symm e
theorem far2_nil (u : Value) : Far2 (.slice none 0 0) u := fun g h => by cases h
theorem Far2.grow {v v' u : Value} {W : World} {B e s n : Nat} {ys : List Value} (h : Far2 v u) (hu : W.ownsRow B e s u n ys) (hv : v'.ownBlock = v.ownBlock ∨ v'.ownBlock = some W.heap.size) : Far2 v' u := fun g h1 h2 => by
  rcases hv with hv | hv
  · exact h g (hv ▸ h1) h2
  · rw [hv] at h1
    cases h1
    have := (hu.lt _ h2).2
    omega
end Go.Proofs.YtifkcoappflenagGreatDoor

/- merge.changed: the pairs that b alone changed, and those that both changed unlike. -/
namespace Go.Proofs.YtifkcoappflenagGreatDoor
open Go Go.RowKit Go.Proofs Go.Maps
set_option synthInstance.maxSize 1000

attribute [local go_sem] eql_errV neq_errV guard_errV

theorem hideC {p : Prop} (h : p) : Hid p := h
theorem newPairC (W : World) (x : Pr) : ∀ (j : Nat) u, (encP x)[j]? = some u → (W.alloc (.cells (encP x).toArray 55)).cell? (Addr.add ⟨W.heap.size, 0, none⟩ j) = some u := fun j u hu => cell_six_new W _ _ _ _ _ _ _ j u hu
theorem sixbox {w W : World} {x : Pr} (hb : RowKit.Below (w.alloc (.cells (encP x).toArray 55)).heap.size (w.alloc (.cells (encP x).toArray 55)) W) :
    W.cell? ⟨w.heap.size, 0, none⟩ = some (.int .i64 x.1.1) ∧ W.cell? ⟨w.heap.size, 1, none⟩ = some (.string ⟨x.1.2.1.toArray⟩) ∧ W.cell? ⟨w.heap.size, 2, none⟩ = some (.string ⟨x.1.2.2.toArray⟩) ∧ W.cell? ⟨w.heap.size, 3, none⟩ = some (.int .i64 x.2.1) ∧ W.cell? ⟨w.heap.size, 4, none⟩ = some (.string ⟨x.2.2.1.toArray⟩) ∧ W.cell? ⟨w.heap.size, 5, none⟩ = some (.string ⟨x.2.2.2.toArray⟩) ∧ w.heap.size < W.heap.size := by
  have hs := hb.size
  have q : ∀ j u, (encP x)[j]? = some u → W.cell? ⟨w.heap.size, j, none⟩ = some u := fun j u hu => by
    have h1 := newPairC w x j u hu
    rw [Addr.add_lit, Nat.zero_add] at h1
    exact (hb.cell (World.block_lt_of_cell? _ _ h1)).trans h1
  exact ⟨q 0 _ rfl, q 1 _ rfl, q 2 _ rfl, q 3 _ rfl, q 4 _ rfl, q 5 _ rfl, by simp at hs; omega⟩

/-- an append of a pair to a row of one's own: just that row turns -/
theorem wpList_append_pair {ops : Array Oper} {rest : List Oper} {o : Oper} {a : Act} {Q : Exit → Act → World → Prop} (w : World) (hgd : o.guard = none) (s x : Operand)
    (ho : o.op = .call { callee := .builtin .append, args := #[s, x], argTypes := #[25, 25] })
    (base B : Nat) (v : Value) (t : List Pr) (y : Pr) (hs : a.eval s = v) (hx : a.eval x = .slice (some ⟨B, 0, none⟩) 1 1) (hown : w.ownsRow base 55 6 v t.length (cellsP t))
    (hy : ∀ (j : Nat) u, (encP y)[j]? = some u → w.cell? (Addr.add ⟨B, 0, none⟩ j) = some u) (h63 : t.length ≤ 1000) (hbase : base ≤ w.heap.size)
    (h : ∀ v' w', w'.ownsRow base 55 6 v' (t ++ [y]).length (cellsP (t ++ [y])) → w.grownBy w' v.ownBlock → (v'.ownBlock = v.ownBlock ∨ v'.ownBlock = some w.heap.size) → wpList Tryz.prog ops Q rest (a.put o.dst v') w') : wpList Tryz.prog ops Q (o :: rest) a w := by
  obtain ⟨i0, hi, hz⟩ := Option.map_eq_some_iff.1 infoP
  simp only [Prod.mk.injEq] at hz
  obtain ⟨hz0, hz1, hz2⟩ := hz
  refine wpList_append_own_at _ hgd s x _ ho base 55 i0 (.agg (encP ((0, [], []), (0, [], []))).toArray) 6 80 Tryz.underlying25 hi hz0 hz1 hz2 rfl (by decide) v t.length (cellsP t) hs hown ⟨B, 0, none⟩ 1 1 (encP y) hx rfl hy (encP_one y) (by unfold maxLen; omega) (by omega) hbase ?_
  intro v' w' h2 h3 _ h5
  refine h v' w' ?_ h3 h5
  simpa [cellsP] using h2

theorem filterC_step (l : List Pr) (f : Pr → Bool) (k : Nat) (h : k < l.length) : (l.take (k + 1)).filter f = (l.take k).filter f ++ (if f l[k] then [l[k]] else []) := by
  rw [List.take_succ_eq_append_getElem h, List.filter_append]
  cases hp : f l[k] <;> simp [hp]
theorem ofL_wf {a : List Tr} {p : Pr} (sa : IsSet a) (h : ofL a p ≠ []) : wfP p := by
  obtain ⟨x, hx⟩ := List.exists_mem_of_ne_nil _ h
  obtain ⟨h1, h2⟩ := ofL_mem.1 hx
  rw [← h2]
  exact wf_pair (sa.2.1 x h1)
theorem diffL_wf {a b : List Tr} (sa : IsSet a) (sb : IsSet b) : ∀ p ∈ diffL a b, wfP p := fun p hp => by
  by_cases h : ofL a p = []
  · exact ofL_wf sb fun h' => diffL_mem.1 hp (h.trans h'.symm)
  · exact ofL_wf sa h

/-- what is told of a first fault -/
def ChBad (n : Int) (w : World) (e : Ending) (w' : World) : Prop := e = .returned (.tuple #[.slice none 0 0, .slice none 0 0, errV n]) ∧ RowKit.Below w.heap.size w w'

set_option maxHeartbeats 4000000 in
set_option maxRecDepth 100000 in
theorem changed_bad1 (od ad bd : Option Addr) (oc ca cb : Nat) (o a b : List Tr) (w : World) (ho : SetIn w od o) (ha : SetIn w ad a) (h0 : ¬ bothN o a = 0) :
    Calls Tryz.prog 24 #[.slice od o.length oc, .slice ad a.length ca, .slice bd b.length cb] w (ChBad (bothN o a) w) := by
  have H := Pairs_bad od ad oc ca o a w ho ha h0
  have hn : (bothN o a == 0) = false := by simpa using h0
  generalize bothN o a = n at *
  clear ho ha h0
  go_enter Tryz.func24, Tryz.ntmps24
  go_wp2_with fail
  refine H.mono ?_
  rintro e w1 ⟨rfl, hb1⟩
  go_wp2_with fail
  exact bodyPost_ret (v := .tuple #[.slice none 0 0, .slice none 0 0, errV n]) (by unfold results; rw [Tryz.results24]; go_simp) rfl ⟨rfl, hb1⟩

set_option maxHeartbeats 4000000 in
set_option maxRecDepth 100000 in
theorem changed_bad2 (od ad bd : Option Addr) (oc ca cb : Nat) (o a b : List Tr) (w : World) (ho : SetIn w od o) (ha : SetIn w ad a) (hb : SetIn w bd b) (so : IsSet o) (sa : IsSet a) (h0 : ¬ bothN o b = 0) :
    Calls Tryz.prog 24 #[.slice od o.length oc, .slice ad a.length ca, .slice bd b.length cb] w (ChBad (bothN o b) w) := by
  have H := Pairs_good od ad oc ca o a w ho.sl ha.sl so sa
  have H2 := fun W (hW : RowKit.Below w.heap.size w W) => Pairs_bad od bd oc cb o b W (ho.below hW) (hb.below hW) h0
  have hn : (bothN o b == 0) = false := by simpa using h0
  generalize bothN o b = n at *
  clear ho ha hb h0 so sa
  go_enter Tryz.func24, Tryz.ntmps24
  go_wp2_with fail
  refine H.mono ?_
  rintro e w1 ⟨yd, yc, m, rfl, _, _, hb1⟩
  go_wp2_with fail
  refine (H2 _ hb1).mono ?_
  rintro e w2 ⟨rfl, hb2⟩
  go_wp2_with fail
  exact bodyPost_ret (v := .tuple #[.slice none 0 0, .slice none 0 0, errV n]) (by unfold results; rw [Tryz.results24]; go_simp) rfl ⟨rfl, bstep hb1 hb2⟩

set_option maxHeartbeats 16000000 in
set_option maxRecDepth 100000 in
theorem changed_good (od ad bd : Option Addr) (oc ca cb : Nat) (o a b : List Tr) (w : World) (ho : SlT w od o) (ha : SlT w ad a) (hb : SlT w bd b) (so : IsSet o) (sa : IsSet a) (sb : IsSet b) :
    Calls Tryz.prog 24 #[.slice od o.length oc, .slice ad a.length ca, .slice bd b.length cb] w fun e w' => ∃ v u, e = .returned (.tuple #[v, u, .nilIface]) ∧ w'.ownsRow w.heap.size 55 6 v (onlyL o a b).length (cellsP (onlyL o a b)) ∧ w'.ownsRow w.heap.size 55 6 u (clashL o a b).length (cellsP (clashL o a b)) ∧ Far2 v u ∧ RowKit.Below w.heap.size w w' := by
  have H1 := Pairs_good od ad oc ca o a w ho ha so sa
  have H2 := fun W (hW : RowKit.Below w.heap.size w W) => Pairs_good od bd oc cb o b W (ho.below hW) (hb.below hW) so sb
  have H3 := fun W (hW : RowKit.Below w.heap.size w W) => Pairs_good ad bd ca cb a b W (ha.below hW) (hb.below hW) sa sb
  have w1f := diffL_wf so sa
  have w2f := diffL_wf so sb
  have w3f : Hid (∀ p ∈ diffL a b, wfP p) := diffL_wf sa sb
  have l1 := diffL_len so sa
  have l2 := diffL_len so sb
  have l3 := diffL_len sa sb
  have f1 : Hid (onlyL o a b = (diffL a b).filter fun p => !decide (p ∈ diffL o a)) := rfl
  have f2 : Hid (clashL o a b = (diffL a b).filter fun p => decide (p ∈ diffL o a) && decide (p ∈ diffL o b)) := (bothP_clash o a b).symm
  generalize onlyL o a b = ON at *
  generalize clashL o a b = CL at *
  generalize diffL o a = X at *
  generalize diffL o b = Y at *
  generalize diffL a b = L at *
  have A1 := fun W yd yc (h : SlP W yd X) => askerP_any yd yc X W h w1f (by omega)
  have A2 := fun W yd yc (h : SlP W yd Y) => askerP_any yd yc Y W h w2f (by omega)
  have eg := enters61
  clear ho ha hb so sa sb w1f w2f l1 l2
  go_enter Tryz.func24, Tryz.ntmps24
  go_wp2_with fail
  refine H1.mono ?_
  rintro e w1 ⟨d1, q1, m1, rfl, s1, rfl, hb1⟩
  have S1 := hideC s1
  clear H1 s1
  go_wp2_with fail
  refine (H2 _ hb1).mono ?_
  rintro e w2 ⟨d2, q2, m2, rfl, s2, rfl, hb2⟩
  have S2 := hideC s2
  have hB2 := bstep hb1 hb2
  clear H2 s2
  go_wp2_with fail
  refine (H3 _ hB2).mono ?_
  rintro e w3 ⟨d3, q3, m3, rfl, s3, rfl, hb3⟩
  have hB3 := bstep hB2 hb3
  have hT3 := bstep hb2 hb3
  clear H3
  go_wp2_with fail
  refine (A1 _ _ _ (S1.out.below hT3)).mono ?_
  rintro e w4 ⟨x1, rfl, k1, hb4⟩
  have hT4 := bstep hb3 hb4
  go_wp2_with fail
  refine (A2 _ _ _ (S2.out.below hT4)).mono ?_
  rintro e w5 ⟨x2, rfl, k2, hb5⟩
  have K1 : Hid (AskP w5 x1 m1) := k1.below hb5
  have K2 : Hid (AskP w5 x2 m2) := k2
  have S3 : Hid (SlP w5 d3 m3) := (s3.below hb4).below hb5
  have hB5 := bstep (bstep hB3 hb4) hb5
  clear A1 A2 k1 k2 s3 S1 S2 hb1 hb2 hb3 hb4 hb5 hB2 hB3 hT3 hT4
  go_wp2_with fail
  go_loopw [6, 7, 49] (fun v u i wr => ∃ k : Nat, k ≤ m3.length ∧ i = .int .i64 k ∧ Hid (wr.ownsRow w5.heap.size 55 6 v ((m3.take k).filter fun p => !decide (p ∈ m1)).length (cellsP ((m3.take k).filter fun p => !decide (p ∈ m1)))) ∧ Hid (wr.ownsRow w5.heap.size 55 6 u ((m3.take k).filter fun p => decide (p ∈ m1) && decide (p ∈ m2)).length (cellsP ((m3.take k).filter fun p => decide (p ∈ m1) && decide (p ∈ m2)))) ∧ Hid (Far2 v u) ∧ RowKit.Below w5.heap.size w5 wr) (fun _ _ i wr => m3.length - (intOf i).toNat)
  case atStart => exact ⟨0, Nat.zero_le _, rfl, by show World.ownsRow _ _ _ _ _ _ _; rw [List.take_zero]; exact World.ownsRow_nil _ _ _ _, by show World.ownsRow _ _ _ _ _ _ _; rw [List.take_zero]; exact World.ownsRow_nil _ _ _ _, far2_nil _, RowKit.Below.refl _ _⟩
  case round =>
    obtain ⟨k, hk, rfl, hv, hu, hfar, hbr⟩ := hrel
    by_cases hlt : k < m3.length
    · obtain ⟨g, off, rfl, hrow⟩ := (S3.out.below hbr).at k hlt
      obtain ⟨c0, c1, c2, c3, c4, c5⟩ := hrow.at k hlt
      have i0' : (0 : Int) ≤ (k : Int) := by omega
      have i1 : (k : Int) < (m3.length : Int) := by omega
      have hst1 : Hid _ := filterC_step m3 (fun p => !decide (p ∈ m1)) k hlt
      have hst2 : Hid _ := filterC_step m3 (fun p => decide (p ∈ m1) && decide (p ∈ m2)) k hlt
      have hf1 : ((m3.take k).filter fun p => !decide (p ∈ m1)).length ≤ k := Nat.le_trans (List.length_filter_le _ _) (by simp; omega)
      have hf2 : ((m3.take k).filter fun p => decide (p ∈ m1) && decide (p ∈ m2)).length ≤ k := Nat.le_trans (List.length_filter_le _ _) (by simp; omega)
      have hwy := w3f.out _ (List.getElem_mem hlt)
      have Q1 := fun W (hW : RowKit.Below w5.heap.size w5 W) => askP_any x1 m1 m3[k] W (K1.out.below hW) hwy
      have Q2 := fun W (hW : RowKit.Below w5.heap.size w5 W) => askP_any x2 m2 m3[k] W (K2.out.below hW) hwy
      generalize ht1 : ((m3.take (k + 1)).filter fun p => !decide (p ∈ m1)) = t1 at hst1
      generalize ht2 : ((m3.take (k + 1)).filter fun p => decide (p ∈ m1) && decide (p ∈ m2)) = r1 at hst2
      have Ht1 := hideC ht1
      have Ht2 := hideC ht2
      generalize ((m3.take k).filter fun p => !decide (p ∈ m1)) = t0 at *
      generalize ((m3.take k).filter fun p => decide (p ∈ m1) && decide (p ∈ m2)) = r0 at *
      generalize m3[k] = y at *
      (try dsimp only at hst1 hst2)
      generalize decide (y ∈ m1) = q1' at *
      generalize decide (y ∈ m2) = q2' at *
      have hzr := hbr.size
      have hal : RowKit.Below w5.heap.size w5 (wr.alloc (.cells (encP y).toArray 55)) := bstep hbr (balloc _ _)
      clear hrow ht1 ht2 hwy
      unfold valP at Q1 Q2
      cases q1' with
      | false =>
        have e1 : Hid (t1 = t0 ++ [y]) := by have := hst1.out; simpa [Hid] using this
        have e2 : Hid (r1 = r0) := by have := hst2.out; simpa [Hid] using this
        clear hst1 hst2 Q2
        go_wp2_with fail
        go_at_fn 61
        refine (Q1 _ hal).mono ?_
        rintro e w6 ⟨rfl, hb6⟩
        have hB6 := bstep hal hb6
        have hz6 := hB6.size
        have hv6 := hideC (ownsRow_below (hv.out.alloc _) hb6)
        have hu6 := hideC (ownsRow_below (hu.out.alloc _) hb6)
        obtain ⟨b0, b1, b2, b3, b4, b5, hbz⟩ := sixbox hb6
        clear c0 c1 c2 c3 c4 c5 hv hu Q1
        go_wp2_with (at_builtin; refine wpList_append_pair _ rfl _ _ rfl w5.heap.size w6.heap.size _ t0 y rfl rfl (hv6.out.alloc _) (newPairC w6 y) (by omega) (by simp; omega) ?_; intro v' w7 hv7 hg7 hat7)
        have hal6 : RowKit.Below w6.heap.size w6 (w6.alloc (.cells (encP y).toArray 55)) := balloc _ _
        have hbel : RowKit.Below w5.heap.size w5 w7 := (bstep hB6 hal6).grown hg7 (by simp; omega) (fun j hj => (hv6.out.lt j hj).1)
        have hu7 := hideC ((ownsRow_below hu6.out hal6).kept hg7 hfar.out.out)
        have hfar7 := hideC (hfar.out.grow (ownsRow_below hu6.out hal6) hat7)
        have hv7' := hideC hv7
        clear hv7 hg7 hat7 b0 b1 b2 b3 b4 b5
        go_wp2_with fail
        go_roundw
        case rel =>
          refine ⟨k + 1, by omega, by go_num, ?_, ?_, hfar7, hbel⟩
          · show World.ownsRow _ _ _ _ _ _ _
            rw [Ht1.out, e1.out]
            exact hv7'.out
          · show World.ownsRow _ _ _ _ _ _ _
            rw [Ht2.out, e2.out]
            exact hu7.out
        case measure => simp [intOf]; omega
      | true =>
        have e1 : Hid (t1 = t0) := by have := hst1.out; simpa [Hid] using this
        go_wp2_with fail
        go_at_fn 61
        refine (Q1 _ hal).mono ?_
        rintro e w6 ⟨rfl, hb6⟩
        have hB6 := bstep hal hb6
        have hz6 := hB6.size
        have hv6 := hideC (ownsRow_below (hv.out.alloc _) hb6)
        have hu6 := hideC (ownsRow_below (hu.out.alloc _) hb6)
        obtain ⟨b0, b1, b2, b3, b4, b5, hbz⟩ := sixbox hb6
        clear c0 c1 c2 c3 c4 c5 hv hu Q1 hst1
        cases q2' with
        | false =>
          have e2 : Hid (r1 = r0) := by have := hst2.out; simpa [Hid] using this
          clear hst2
          go_wp2_with fail
          go_at_fn 61
          refine (Q2 _ hB6).mono ?_
          rintro e w7 ⟨rfl, hb7⟩
          have hv7 := hideC (ownsRow_below hv6.out hb7)
          have hu7 := hideC (ownsRow_below hu6.out hb7)
          clear hv6 hu6 b0 b1 b2 b3 b4 b5 Q2
          go_wp2_with fail
          go_roundw
          case rel =>
            refine ⟨k + 1, by omega, by go_num, ?_, ?_, hfar, bstep hB6 hb7⟩
            · show World.ownsRow _ _ _ _ _ _ _
              rw [Ht1.out, e1.out]
              exact hv7.out
            · show World.ownsRow _ _ _ _ _ _ _
              rw [Ht2.out, e2.out]
              exact hu7.out
          case measure => simp [intOf]; omega
        | true =>
          have e2 : Hid (r1 = r0 ++ [y]) := by have := hst2.out; simpa [Hid] using this
          clear hst2
          go_wp2_with fail
          go_at_fn 61
          refine (Q2 _ hB6).mono ?_
          rintro e w7 ⟨rfl, hb7⟩
          have hB7 := bstep hB6 hb7
          have hz7 := hB7.size
          have hv7 := hideC (ownsRow_below hv6.out hb7)
          have hu7 := hideC (ownsRow_below hu6.out hb7)
          clear hv6 hu6 b0 b1 b2 b3 b4 b5 Q2
          obtain ⟨b0, b1, b2, b3, b4, b5, hbz2⟩ := sixbox (bstep hb6 hb7)
          go_wp2_with (at_builtin; refine wpList_append_pair _ rfl _ _ rfl w5.heap.size w7.heap.size _ r0 y rfl rfl (hu7.out.alloc _) (newPairC w7 y) (by omega) (by simp; omega) ?_; intro u' w8 hu8 hg8 hat8)
          have hal7 : RowKit.Below w7.heap.size w7 (w7.alloc (.cells (encP y).toArray 55)) := balloc _ _
          have hbel : RowKit.Below w5.heap.size w5 w8 := (bstep hB7 hal7).grown hg8 (by simp; omega) (fun j hj => (hu7.out.lt j hj).1)
          have hv8 := hideC ((ownsRow_below hv7.out hal7).kept hg8 hfar.out.symm.out)
          have hfar8 := hideC (hfar.out.symm.grow (ownsRow_below hv7.out hal7) hat8).symm
          have hu8' := hideC hu8
          clear hu8 hg8 hat8 b0 b1 b2 b3 b4 b5
          go_wp2_with fail
          go_roundw
          case rel =>
            refine ⟨k + 1, by omega, by go_num, ?_, ?_, hfar8, hbel⟩
            · show World.ownsRow _ _ _ _ _ _ _
              rw [Ht1.out, e1.out]
              exact hv8.out
            · show World.ownsRow _ _ _ _ _ _ _
              rw [Ht2.out, e2.out]
              exact hu8'.out
          case measure => simp [intOf]; omega
    · obtain rfl : k = m3.length := by omega
      have hv' := hv.out
      have hu' := hu.out
      rw [List.take_length, ← f1.out] at hv'
      rw [List.take_length, ← f2.out] at hu'
      have Hv := hideC (own_mono hv' hB5.size)
      have Hu := hideC (own_mono hu' hB5.size)
      clear hv' hu' hv hu
      go_wp2_with fail
      exact bodyPost_ret (by unfold results; rw [Tryz.results24]; go_simp) rfl ⟨_, _, rfl, Hv.out, Hu.out, hfar.out, bstep hB5 hbr⟩
end Go.Proofs.YtifkcoappflenagGreatDoor

/- merge.meet: some pairs as b has them, all others as a has them, sorted. -/
namespace Go.Proofs.YtifkcoappflenagGreatDoor
open Go Go.RowKit Go.Proofs Go.Maps
set_option synthInstance.maxSize 1000

attribute [local go_sem] eql_errV neq_errV guard_errV

/-- what Sort answers of a list whose triples are right -/
def SortAns (l : List Tr) (w : World) (e : Ending) (w' : World) : Prop := ∃ (m : List Tr) (xd : Option Addr) (xc : Nat), e = .returned (.tuple #[.slice xd m.length xc, errV (sortN l)]) ∧ SlT w' xd m ∧ RowKit.Below w.heap.size w w' ∧ (sortN l = 0 → Rising m ∧ ∀ x, x ∈ m ↔ x ∈ l) ∧ (sortN l ≠ 0 → m = [])
theorem Sort_ans (ad : Option Addr) (cap : Nat) (l : List Tr) (w : World) (h : SlT w ad l) (hc : ∀ x ∈ l, chkTr x = 0) (hn : l.length ≤ 1000) : Calls Tryz.prog 47 #[.slice ad l.length cap] w (SortAns l w) := by
  by_cases h0 : sortN l = 0
  · refine (Sort_good ad cap l w h h0).mono ?_
    rintro e w' ⟨hb, m, ad', c, rfl, hs, hr, he, _⟩
    exact ⟨m, ad', c, by rw [h0]; rfl, hs, hb, fun _ => ⟨hr, he⟩, fun h => absurd h0 h⟩
  · refine (Sort_bad ad cap l w h (fun x hx => fit_chk (hc x hx)) (by omega) h0).mono ?_
    rintro e w' ⟨rfl, hb⟩
    exact ⟨[], none, 0, rfl, fun h => absurd rfl h, hb, fun h => absurd h h0, fun _ => rfl⟩

theorem newTripleM (W : World) (x : Tr) : ∀ (j : Nat) u, (encTr x)[j]? = some u → (W.alloc (.cells (encTr x).toArray 44)).cell? (Addr.add ⟨W.heap.size, 0, none⟩ j) = some u := fun j u hu => by
  have h9 : j < 9 := (List.getElem?_eq_some_iff.1 hu).1
  rw [Addr.add_lit]
  rcases (by omega : j = 0 ∨ j = 1 ∨ j = 2 ∨ j = 3 ∨ j = 4 ∨ j = 5 ∨ j = 6 ∨ j = 7 ∨ j = 8) with rfl | rfl | rfl | rfl | rfl | rfl | rfl | rfl | rfl
  all_goals
    simp [encTr] at hu
    subst hu
    go_simp
    rfl
/-- an append of a triple to a row of one's own: just that row turns -/
theorem wpList_append_triple {ops : Array Oper} {rest : List Oper} {o : Oper} {a : Act} {Q : Exit → Act → World → Prop} (w : World) (hgd : o.guard = none) (s x : Operand)
    (ho : o.op = .call { callee := .builtin .append, args := #[s, x], argTypes := #[22, 22] })
    (base B : Nat) (v : Value) (t : List Tr) (y : Tr) (hs : a.eval s = v) (hx : a.eval x = .slice (some ⟨B, 0, none⟩) 1 1) (hown : w.ownsRow base 44 9 v t.length (cellsT t))
    (hy : ∀ (j : Nat) u, (encTr y)[j]? = some u → w.cell? (Addr.add ⟨B, 0, none⟩ j) = some u) (h63 : t.length ≤ 1000) (hbase : base ≤ w.heap.size)
    (h : ∀ v' w', w'.ownsRow base 44 9 v' (t ++ [y]).length (cellsT (t ++ [y])) → w.grownBy w' v.ownBlock → wpList Tryz.prog ops Q rest (a.put o.dst v') w') : wpList Tryz.prog ops Q (o :: rest) a w := by
  obtain ⟨i0, hi, hz⟩ := Option.map_eq_some_iff.1 infoTr
  simp only [Prod.mk.injEq] at hz
  obtain ⟨hz0, hz1, hz2⟩ := hz
  refine wpList_append_own _ hgd s x _ ho base 44 i0 (.agg (encTr zeroTr).toArray) 9 120 Tryz.underlying22 hi hz0 hz1 hz2 rfl (by decide) v t.length (cellsT t) hs hown ⟨B, 0, none⟩ 1 1 (encTr y) hx rfl hy (encTr_one y) (by unfold maxLen; omega) (by omega) hbase ?_
  intro v' w' h2 h3 _
  refine h v' w' ?_ h3
  simpa [cellsT] using h2

set_option maxHeartbeats 16000000 in
set_option maxRecDepth 100000 in
theorem meet_any (ad bd pd : Option Addr) (ca cb pc : Nat) (a b : List Tr) (ps : List Pr) (w : World) (ha : SlT w ad a) (hb : SlT w bd b) (hp : SlP w pd ps) (sa : IsSet a) (sb : IsSet b) (wp : ∀ p ∈ ps, wfP p) (np : ps.length ≤ 1000) :
    Calls Tryz.prog 25 #[.slice ad a.length ca, .slice bd b.length cb, .slice pd ps.length pc] w (SortAns (metL a b ps) w) := by
  have H1 := askerP_any pd pc ps w hp wp np
  have Ha := hideC ha
  have Hb := hideC hb
  have Ca : Hid (∀ x ∈ a, wfP (pairOf x)) := fun x hx => wf_pair (sa.2.1 x hx)
  have Cb : Hid (∀ x ∈ b, wfP (pairOf x)) := fun x hx => wf_pair (sb.2.1 x hx)
  have la := sa.1
  have lb := sb.1
  have hm : Hid (metL a b ps = (a.filter fun x => !decide (pairOf x ∈ ps)) ++ b.filter fun x => decide (pairOf x ∈ ps)) := rfl
  have lm : (metL a b ps).length ≤ 1000 := by
    have h1 := List.length_filter_le (fun x => !decide (pairOf x ∈ ps)) a
    have h2 := List.length_filter_le (fun x => decide (pairOf x ∈ ps)) b
    rw [hm.out, List.length_append]
    omega
  have HS := fun W xd xc (h : SlT W xd (metL a b ps)) => Sort_ans xd xc (metL a b ps) W h (metL_chk sa sb) lm
  have eg := enters61
  obtain ⟨F, hF⟩ : ∃ F, (a.filter fun x => !decide (pairOf x ∈ ps)) = F := ⟨_, rfl⟩
  have HF := hideC hF
  have lF : F.length ≤ 200 := by rw [← hF]; exact Nat.le_trans (List.length_filter_le _ _) la
  rw [hF] at hm
  generalize metL a b ps = M at *
  have HSA : ∀ W W' e, RowKit.Below w.heap.size w W → SortAns M W e W' → SortAns M w e W' := fun W W' e hW h => by
    obtain ⟨m, xd, xc, h1, h2, h3, h4⟩ := h
    exact ⟨m, xd, xc, h1, h2, bstep hW h3, h4⟩
  clear ha hb hp sa sb wp np hF lm
  go_enter Tryz.func25, Tryz.ntmps25
  go_wp2_with fail
  refine H1.mono ?_
  rintro e w1 ⟨bx, rfl, k1, hb1⟩
  have K1 := hideC k1
  have Ha1 := hideC (Ha.out.below hb1)
  have Hb1 := hideC (Hb.out.below hb1)
  clear H1 k1 Ha Hb
  go_wp2_with fail
  go_loopw [9, 18] (fun v i wr => ∃ k : Nat, k ≤ a.length ∧ i = .int .i64 k ∧ Hid (wr.ownsRow w1.heap.size 44 9 v ((a.take k).filter fun x => !decide (pairOf x ∈ ps)).length (cellsT ((a.take k).filter fun x => !decide (pairOf x ∈ ps)))) ∧ RowKit.Below w1.heap.size w1 wr) (fun _ i wr => a.length - (intOf i).toNat)
  case atStart => exact ⟨0, Nat.zero_le _, rfl, by show World.ownsRow _ _ _ _ _ _ _; rw [List.take_zero]; exact World.ownsRow_nil _ _ _ _, RowKit.Below.refl _ _⟩
  case round =>
    obtain ⟨k, hk, rfl, hv, hbr⟩ := hrel
    by_cases hlt : k < a.length
    · obtain ⟨g, off, rfl, hrow⟩ := (Ha1.out.below hbr).at k hlt
      obtain ⟨c0, c1, c2, c3, c4, c5, c6, c7, c8⟩ := hrow.at k hlt
      have i0' : (0 : Int) ≤ (k : Int) := by omega
      have i1 : (k : Int) < (a.length : Int) := by omega
      have hst : Hid _ := filter_step a (fun x => !decide (pairOf x ∈ ps)) k hlt
      have hf : ((a.take k).filter fun x => !decide (pairOf x ∈ ps)).length ≤ k := Nat.le_trans (List.length_filter_le _ _) (by simp; omega)
      have hwy := Ca.out _ (List.getElem_mem hlt)
      have HP := pairOf_any a[k]
      have QA := fun W (hW : RowKit.Below w1.heap.size w1 W) => askP_any bx ps (pairOf a[k]) W (K1.out.below hW) hwy
      generalize ht : ((a.take (k + 1)).filter fun x => !decide (pairOf x ∈ ps)) = t1 at hst
      have Ht := hideC ht
      generalize ((a.take k).filter fun x => !decide (pairOf x ∈ ps)) = t0 at *
      generalize a[k] = y at *
      (try dsimp only at hst)
      generalize decide (pairOf y ∈ ps) = q at *
      have hzr := hbr.size
      have hal : RowKit.Below w1.heap.size w1 (wr.alloc (.cells (encTr y).toArray 44)) := bstep hbr (balloc _ _)
      clear hrow ht hwy
      unfold valTr at HP
      unfold valP at HP QA
      go_wp2_with fail
      refine (HP _).mono ?_
      rintro e w2 ⟨rfl, hb2⟩
      have hB2 := bstep hal hb2
      have hv2 := hideC (ownsRow_below (hv.out.alloc _) hb2)
      clear HP hv c0 c1 c2 c3 c4 c5 c6 c7 c8
      go_wp2_with fail
      go_at_fn 61
      refine (QA _ hB2).mono ?_
      rintro e w3 ⟨rfl, hb3⟩
      have hB3 := bstep hB2 hb3
      have hz3 := hB3.size
      have hv3 := hideC (ownsRow_below hv2.out hb3)
      obtain ⟨b0, b1, b2, b3, b4, b5, b6, b7, b8, hbz⟩ := ninebox (bstep hb2 hb3)
      clear QA hv2
      cases q with
      | true =>
        have e1 : Hid (t1 = t0) := by have := hst.out; simpa [Hid] using this
        clear hst b0 b1 b2 b3 b4 b5 b6 b7 b8
        go_wp2_with fail
        go_roundw
        case rel =>
          refine ⟨k + 1, by omega, by go_num, ?_, hB3⟩
          show World.ownsRow _ _ _ _ _ _ _
          rw [Ht.out, e1.out]
          exact hv3.out
        case measure => simp [intOf]; omega
      | false =>
        have e1 : Hid (t1 = t0 ++ [y]) := by have := hst.out; simpa [Hid] using this
        clear hst
        go_wp2_with (at_builtin; refine wpList_append_triple _ rfl _ _ rfl w1.heap.size w3.heap.size _ t0 y rfl rfl (hv3.out.alloc _) (newTripleM w3 y) (by omega) (by simp; omega) ?_; intro v' w4 hv4 hg4)
        have hbel : RowKit.Below w1.heap.size w1 w4 := (hB3.alloc hz3 (.cells (encTr y).toArray 44)).grown hg4 (by simp; omega) (fun j hj => (hv3.out.lt j hj).1)
        have hv5 := hideC hv4
        clear hv4 hg4 b0 b1 b2 b3 b4 b5 b6 b7 b8
        go_wp2_with fail
        go_roundw
        case rel =>
          refine ⟨k + 1, by omega, by go_num, ?_, hbel⟩
          show World.ownsRow _ _ _ _ _ _ _
          rw [Ht.out, e1.out]
          exact hv5.out
        case measure => simp [intOf]; omega
    · obtain rfl : k = a.length := by omega
      have hv' := hv.out
      rw [List.take_length, HF.out] at hv'
      have HV := hideC hv'
      have hbrH := hideC hbr
      clear hv' hv
      go_wp2_with fail
      go_loopw [9, 34] (fun v i wr => ∃ k : Nat, k ≤ b.length ∧ i = .int .i64 k ∧ Hid (wr.ownsRow w1.heap.size 44 9 v (F ++ (b.take k).filter fun x => decide (pairOf x ∈ ps)).length (cellsT (F ++ (b.take k).filter fun x => decide (pairOf x ∈ ps)))) ∧ RowKit.Below w1.heap.size w1 wr) (fun _ i wr => b.length - (intOf i).toNat)
      case atStart => exact ⟨0, Nat.zero_le _, rfl, by show World.ownsRow _ _ _ _ _ _ _; rw [List.take_zero]; exact (by simpa using HV.out), hbrH.out⟩
      case round =>
        obtain ⟨k, hk, rfl, hv, hbr⟩ := hrel
        by_cases hlt : k < b.length
        · obtain ⟨g, off, rfl, hrow⟩ := (Hb1.out.below hbr).at k hlt
          obtain ⟨c0, c1, c2, c3, c4, c5, c6, c7, c8⟩ := hrow.at k hlt
          have i0' : (0 : Int) ≤ (k : Int) := by omega
          have i1 : (k : Int) < (b.length : Int) := by omega
          have hst : Hid _ := filter_step b (fun x => decide (pairOf x ∈ ps)) k hlt
          have hf : ((b.take k).filter fun x => decide (pairOf x ∈ ps)).length ≤ k := Nat.le_trans (List.length_filter_le _ _) (by simp; omega)
          have hwy := Cb.out _ (List.getElem_mem hlt)
          have HP := pairOf_any b[k]
          have QA := fun W (hW : RowKit.Below w1.heap.size w1 W) => askP_any bx ps (pairOf b[k]) W (K1.out.below hW) hwy
          generalize ht : ((b.take (k + 1)).filter fun x => decide (pairOf x ∈ ps)) = t1 at hst
          have Ht := hideC ht
          generalize ((b.take k).filter fun x => decide (pairOf x ∈ ps)) = t0 at *
          generalize b[k] = y at *
          (try dsimp only at hst)
          generalize decide (pairOf y ∈ ps) = q at *
          have hzr := hbr.size
          have hal : RowKit.Below w1.heap.size w1 (wr.alloc (.cells (encTr y).toArray 44)) := bstep hbr (balloc _ _)
          clear hrow ht hwy
          unfold valTr at HP
          unfold valP at HP QA
          go_wp2_with fail
          refine (HP _).mono ?_
          rintro e w2 ⟨rfl, hb2⟩
          have hB2 := bstep hal hb2
          have hv2 := hideC (ownsRow_below (hv.out.alloc _) hb2)
          clear HP hv c0 c1 c2 c3 c4 c5 c6 c7 c8
          go_wp2_with fail
          go_at_fn 61
          refine (QA _ hB2).mono ?_
          rintro e w3 ⟨rfl, hb3⟩
          have hB3 := bstep hB2 hb3
          have hz3 := hB3.size
          have hv3 := hideC (ownsRow_below hv2.out hb3)
          obtain ⟨b0, b1, b2, b3, b4, b5, b6, b7, b8, hbz⟩ := ninebox (bstep hb2 hb3)
          clear QA hv2
          cases q with
          | false =>
            have e1 : Hid (t1 = t0) := by have := hst.out; simpa [Hid] using this
            clear hst b0 b1 b2 b3 b4 b5 b6 b7 b8
            go_wp2_with fail
            go_roundw
            case rel =>
              refine ⟨k + 1, by omega, by go_num, ?_, hB3⟩
              show World.ownsRow _ _ _ _ _ _ _
              rw [Ht.out, e1.out]
              exact hv3.out
            case measure => simp [intOf]; omega
          | true =>
            have e1 : Hid (t1 = t0 ++ [y]) := by have := hst.out; simpa [Hid] using this
            clear hst
            go_wp2_with (at_builtin; refine wpList_append_triple _ rfl _ _ rfl w1.heap.size w3.heap.size _ (F ++ t0) y rfl rfl (hv3.out.alloc _) (newTripleM w3 y) (by rw [List.length_append]; omega) (by simp; omega) ?_; intro v' w4 hv4 hg4)
            have hbel : RowKit.Below w1.heap.size w1 w4 := (hB3.alloc hz3 (.cells (encTr y).toArray 44)).grown hg4 (by simp; omega) (fun j hj => (hv3.out.lt j hj).1)
            have hv5 := hideC hv4
            clear hv4 hg4 b0 b1 b2 b3 b4 b5 b6 b7 b8
            go_wp2_with fail
            go_roundw
            case rel =>
              refine ⟨k + 1, by omega, by go_num, ?_, hbel⟩
              show World.ownsRow _ _ _ _ _ _ _
              rw [Ht.out, e1.out]
              exact (by rw [← List.append_assoc]; exact hv5.out)
            case measure => simp [intOf]; omega
        · obtain rfl : k = b.length := by omega
          have hv' := hv.out
          rw [List.take_length, ← hm.out] at hv'
          obtain ⟨xd, xc, rfl, hsl⟩ := own_slT hv'
          have Hsl := hideC hsl
          have hB := bstep hb1 hbr
          clear hv' hv hsl
          go_wp2_with fail
          refine (HS _ _ _ Hsl.out).mono ?_
          rintro e w9 hans
          obtain ⟨m, yd, yc, rfl, hrest⟩ := HSA _ _ _ hB hans
          have Hrest := hideC hrest
          clear hrest hans HS HSA
          go_wp2_with fail
          exact bodyPost_ret (v := .tuple #[.slice yd m.length yc, errV (sortN M)]) (by unfold results; rw [Tryz.results25]; go_simp) rfl ⟨m, yd, yc, rfl, Hrest.out⟩
end Go.Proofs.YtifkcoappflenagGreatDoor
