/- set.Terms: what it tells. -/
import Derived.Test.YtkeholipklfnbabGreatDoorTermColl
import Derived.Test.YtkeholipklfnbabGreatDoorSetOps
namespace Go.Proofs.YtkeholipklfnbabGreatDoor
open Go Go.RowKit Go.Proofs Go.Maps
set_option synthInstance.maxSize 1000

attribute [local go_sem] eql_errV neq_errV guard_errV

/-- all terms of a list of triples, as they come -/
def three (t : Tr) : List Tm := [t.1, t.2.1, t.2.2]
def termsOf (l : List Tr) : List Tm := l.flatMap three

theorem termsOf_len (l : List Tr) : (termsOf l).length = 3 * l.length := by
  induction l with
  | nil => rfl
  | cons x r ih => simp only [termsOf, List.flatMap_cons, List.length_append, List.length_cons] at *; rw [ih]; simp [three]; omega

theorem termsOf_take (l : List Tr) (k : Nat) (h : k < l.length) : termsOf (l.take (k + 1)) = termsOf (l.take k) ++ three l[k] := by
  rw [List.take_succ_eq_append_getElem h, termsOf, List.flatMap_append]; simp [termsOf]

theorem wf_of_check {k : Int} {S L : List UInt8} (hh : checkN k S L = 0) : wfTm (k, S, L) := by
  obtain ⟨hk, hS, hsp⟩ := check_zero hh
  have := spell_lang hsp
  refine ⟨?_, by show S.length ≤ _; unfold maxLen; omega, by show L.length ≤ _; unfold maxLen; omega⟩
  show (Lit.int .i64 k).wf = true
  rcases hk with rfl | rfl | rfl <;> decide

theorem wf_three {t : Tr} (h : chkTr t = 0) : ∀ x ∈ three t, wfTm x := by
  obtain ⟨h1, h2, h3, _⟩ := chk_zero h
  intro x hx
  simp only [three, List.mem_cons, List.not_mem_nil, or_false] at hx
  rcases hx with rfl | rfl | rfl
  · exact wf_of_check h1
  · exact wf_of_check h2
  · exact wf_of_check h3

theorem wf_terms {l : List Tr} (h : ∀ t ∈ l, chkTr t = 0) : ∀ x ∈ termsOf l, wfTm x := by
  intro x hx
  obtain ⟨t, ht, hx⟩ := List.mem_flatMap.1 hx
  exact wf_three (h t ht) x hx

set_option maxHeartbeats 1000000 in
set_option maxRecDepth 100000 in
theorem SetTerms_bad (ad : Option Addr) (ca : Nat) (l : List Tr) (w : World) (hl : SlT w ad l) (fl : ∀ x ∈ l, fitTr x) (nl : l.length ≤ 9223372036854775807) (hbad : sortedN l ≠ 0) :
    Calls Tryz.prog 15 #[.slice ad l.length ca] w fun e w' => e = .returned (.tuple #[.slice none 0 0, errV (sortedN l)]) ∧ RowKit.Below w.heap.size w w' := by
  have H := fun W h1 => Sorted_any ad ca l W h1 fl nl
  have Hl : Hid (SlT w ad l) := hl
  have hn : (sortedN l == 0) = false := by simpa using hbad
  generalize sortedN l = n at *
  clear hl fl nl hbad
  go_enter Tryz.func15, Tryz.ntmps15
  go_wp2_with fail
  refine (H _ Hl.out).mono ?_
  rintro e w1 ⟨rfl, hb1⟩
  go_wp2_with fail
  exact bodyPost_ret (v := .tuple #[.slice none 0 0, errV n]) (by simp [results, Tryz.results15, go_sem]) rfl ⟨rfl, hb1⟩

attribute [local go_sem ↓] index0 index1 index2

theorem makeMapM (w : World) : (Instr.makeMap 62 none).run Tryz.prog w = .ok (.map (some w.heap.size)) (w.alloc (.map #[] 0)) := by kernel_rfl

set_option maxHeartbeats 4000000 in
set_option maxRecDepth 100000 in
theorem SetTerms_good (ad : Option Addr) (ca : Nat) (l : List Tr) (w : World) (hl : SlT w ad l) (hgood : sortedN l = 0) :
    Calls Tryz.prog 15 #[.slice ad l.length ca] w fun e w' => ∃ (bd : Option Addr) (c : Nat) (m : List Tm), e = .returned (.tuple #[.slice bd m.length c, .nilIface]) ∧ SlM w' bd m ∧ RisingM m ∧ (∀ x, x ∈ m ↔ x ∈ termsOf l) ∧ RowKit.Below w.heap.size w w' := by
  have hset := sortedN_set.1 hgood
  have h200 : l.length ≤ 200 := hset.1
  have H := fun W h1 => Sorted_any ad ca l W h1 hset.fit (by omega)
  rw [hgood, show errV 0 = .nilIface from rfl] at H
  have Hl : Hid (SlT w ad l) := hl
  have Hs : Hid (∀ x ∈ l, chkTr x = 0) := hset.2.1
  have hmm := makeMapM
  clear hl hset hgood
  go_enter Tryz.func15, Tryz.ntmps15
  go_wp2_with fail
  refine (H _ Hl.out).mono ?_
  rintro e w1 ⟨rfl, hb1⟩
  have hz1 := hb1.size
  clear H
  go_wp2_with fail
  go_loopw [18] (fun i wr => ∃ k : Nat, k ≤ l.length ∧ i = .int .i64 k ∧ Hid (InMapT wr w1.heap.size (3 * k) (termsOf (l.take k))) ∧ RowKit.Below w.heap.size w wr) (fun i wr => l.length - (intOf i).toNat)
  case atStart =>
    exact ⟨0, Nat.zero_le _, rfl, by show InMapT _ _ _ _; rw [List.take_zero]; exact inMapT_made w1, bstep hb1 (balloc _ _)⟩
  case round =>
    obtain ⟨k, hk, rfl, hin, hbr⟩ := hrel
    by_cases hlt : k < l.length
    · obtain ⟨b, o, rfl, hr⟩ := (Hl.out.below hbr).at k hlt
      obtain ⟨c0, c1, c2, c3, c4, c5, c6, c7, c8⟩ := hr.at k hlt
      have i0 : (0 : Int) ≤ (k : Int) := by omega
      have i1 : (k : Int) < (l.length : Int) := by omega
      have hwt : Hid (∀ x ∈ three l[k], wfTm x) := wf_three (Hs.out _ (List.getElem_mem hlt))
      have htk : Hid (termsOf (l.take (k + 1)) = termsOf (l.take k) ++ three l[k]) := termsOf_take l k hlt
      have hzr := hbr.size
      clear hr
      generalize l[k] = y at *
      have hb2 := bstep hbr (balloc wr (.cells (encTr y).toArray 26))
      have hin2 : Hid (InMapT (wr.alloc (.cells (encTr y).toArray 26)) w1.heap.size (3 * k) (termsOf (l.take k))) := hin.out.below (balloc _ _)
      clear hin
      generalize termsOf (l.take k) = T0 at *
      go_wp2_with fail
      clear c0 c1 c2 c3 c4 c5 c6 c7 c8
      go_loopw [29] (fun i wi => ((i = .int .i64 0 ∧ Hid (InMapT wi w1.heap.size (3 * k) (T0))) ∨ (i = .int .i64 1 ∧ Hid (InMapT wi w1.heap.size (3 * k + 1) (T0 ++ [y.1]))) ∨ (i = .int .i64 2 ∧ Hid (InMapT wi w1.heap.size (3 * k + 1 + 1) (T0 ++ [y.1] ++ [y.2.1]))) ∨ (i = .int .i64 3 ∧ Hid (InMapT wi w1.heap.size (3 * k + 1 + 1 + 1) (T0 ++ [y.1] ++ [y.2.1] ++ [y.2.2])))) ∧ RowKit.Below w.heap.size w wi) (fun i wi => 3 - (intOf i).toNat)
      case atStart => exact ⟨.inl ⟨rfl, hin2⟩, hb2⟩
      case round =>
        obtain ⟨hcs, hbi⟩ := hrel
        rcases hcs with ⟨rfl, hm⟩ | ⟨rfl, hm⟩ | ⟨rfl, hm⟩ | ⟨rfl, hm⟩
        · obtain ⟨D, hown0, hD0⟩ := hm.out
          have hown : Hid (wr.ownsMap Tryz.prog 24 unitElem w1.heap.size (3 * k) D) := hown0
          have hy : Hid (wfTm y.1) := hwt.out _ (by simp [three])
          have hput : Hid (∀ x, wfTm x → Maps.has (D.put (keyTm y.1) (.agg [])) (keyTm x) = decide (x ∈ T0 ++ [y.1])) := has_putT hown0.isMap hy.out hD0 (.agg [])
          have hkey := keyOf_tm y.1 hy.out
          have hzi := hbi.size
          clear hown0 hD0 hm
          unfold valTm at hkey
          go_wp2_with (first
            | (at_mapUpdate; refine wpList_mapUpdate_own _ rfl _ _ _ 62 rfl 24 64 keyedTm Tryz.underlying62 (unitElem (H := Unit)) w1.heap.size (3 * k) _ rfl (hown.out.alloc _) (by unfold maxLen; omega) _ _ _ rfl rfl hkey _ [] unitElem_mk ?_; intro w2 hown1 hgrow1))
          go_roundw
          case rel => exact ⟨.inr (.inl ⟨rfl, ⟨_, hown1, hput.out⟩⟩), (hbi.alloc hzi _).grown hgrow1 (by simp; omega) (fun j hj => by cases hj; exact hz1)⟩
          case measure => simp [intOf]
        · obtain ⟨D, hown0, hD0⟩ := hm.out
          have hown : Hid (wr.ownsMap Tryz.prog 24 unitElem w1.heap.size (3 * k + 1) D) := hown0
          have hy : Hid (wfTm y.2.1) := hwt.out _ (by simp [three])
          have hput : Hid (∀ x, wfTm x → Maps.has (D.put (keyTm y.2.1) (.agg [])) (keyTm x) = decide (x ∈ T0 ++ [y.1] ++ [y.2.1])) := has_putT hown0.isMap hy.out hD0 (.agg [])
          have hkey := keyOf_tm y.2.1 hy.out
          have hzi := hbi.size
          clear hown0 hD0 hm
          unfold valTm at hkey
          go_wp2_with (first
            | (at_mapUpdate; refine wpList_mapUpdate_own _ rfl _ _ _ 62 rfl 24 64 keyedTm Tryz.underlying62 (unitElem (H := Unit)) w1.heap.size (3 * k + 1) _ rfl (hown.out.alloc _) (by unfold maxLen; omega) _ _ _ rfl rfl hkey _ [] unitElem_mk ?_; intro w2 hown1 hgrow1))
          go_roundw
          case rel => exact ⟨.inr (.inr (.inl ⟨rfl, ⟨_, hown1, hput.out⟩⟩)), (hbi.alloc hzi _).grown hgrow1 (by simp; omega) (fun j hj => by cases hj; exact hz1)⟩
          case measure => simp [intOf]
        · obtain ⟨D, hown0, hD0⟩ := hm.out
          have hown : Hid (wr.ownsMap Tryz.prog 24 unitElem w1.heap.size (3 * k + 1 + 1) D) := hown0
          have hy : Hid (wfTm y.2.2) := hwt.out _ (by simp [three])
          have hput : Hid (∀ x, wfTm x → Maps.has (D.put (keyTm y.2.2) (.agg [])) (keyTm x) = decide (x ∈ T0 ++ [y.1] ++ [y.2.1] ++ [y.2.2])) := has_putT hown0.isMap hy.out hD0 (.agg [])
          have hkey := keyOf_tm y.2.2 hy.out
          have hzi := hbi.size
          clear hown0 hD0 hm
          unfold valTm at hkey
          go_wp2_with (first
            | (at_mapUpdate; refine wpList_mapUpdate_own _ rfl _ _ _ 62 rfl 24 64 keyedTm Tryz.underlying62 (unitElem (H := Unit)) w1.heap.size (3 * k + 1 + 1) _ rfl (hown.out.alloc _) (by unfold maxLen; omega) _ _ _ rfl rfl hkey _ [] unitElem_mk ?_; intro w2 hown1 hgrow1))
          go_roundw
          case rel => exact ⟨.inr (.inr (.inr ⟨rfl, ⟨_, hown1, hput.out⟩⟩)), (hbi.alloc hzi _).grown hgrow1 (by simp; omega) (fun j hj => by cases hj; exact hz1)⟩
          case measure => simp [intOf]
        · go_wp2_with fail
          go_roundw
          case rel => exact ⟨k + 1, by omega, by go_num, by show InMapT _ _ _ _; rw [htk.out]; simpa [three, Nat.mul_add] using hm.out, hbi⟩
          case measure => simp [intOf]; omega
    · obtain rfl : k = l.length := by omega
      have hin' : Hid (InMapT wr w1.heap.size (3 * l.length) (termsOf l)) := by have := hin.out; rwa [List.take_length] at this
      have hwf : Hid (∀ x ∈ termsOf l, wfTm x) := wf_terms Hs.out
      have hlen : (termsOf l).length ≤ 1000 := by rw [termsOf_len]; omega
      clear hin Hs Hl
      obtain ⟨T, hT⟩ : ∃ T, termsOf l = T := ⟨_, rfl⟩
      rw [hT] at hin' hwf hlen
      have HT : Hid (termsOf l = T) := hT
      clear hT
      go_wp2_with (first
        | (go_at_call 35; refine (KeysM_any w1.heap.size (3 * l.length) T _ hin'.out).mono ?_; rintro e w3 ⟨bx, rfl, hK, hb3⟩; have HK : Hid (KeysOf w3 bx (3 * l.length) T) := hK; clear hK)
        | (go_at_call 34; refine (SortedFuncM_any bx (3 * l.length) T _ HK.out hwf.out (by omega) hlen).mono ?_; rintro e w4 ⟨bd, c, m, rfl, hsl, hri, hme, hb4⟩))
      exact bodyPost_ret (v := .tuple #[.slice bd m.length c, .nilIface]) (by simp [results, Tryz.results15, go_sem]) rfl ⟨bd, c, m, rfl, hsl, hri, fun x => by rw [HT.out]; exact hme x, bstep (bstep hbr hb3) hb4⟩
end Go.Proofs.YtkeholipklfnbabGreatDoor
