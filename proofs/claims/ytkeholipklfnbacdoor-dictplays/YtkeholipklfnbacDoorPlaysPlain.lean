/- What DictPlays is handed, opened; and what it comes to, in plain words. -/
import Derived.Test.YtkeholipklfnbacDoorDictOpen
import Derived.Test.YtkeholipklfnbacDoorDictEq
import Derived.Test.YtkeholipklfnbacDoorPlaysNumber
import Derived.Deep.Matrix
namespace Go.Proofs.YtkeholipklfnbacDoor
open Go Go.ChangeShapes Go.WideShapes Go.ChangeAt Go.RowKit Go.Joins Go.Deep Go.Maps
set_option synthInstance.maxSize 1000

def wfTr (x : Tr) : Prop := wfTm x.1 ∧ wfTm x.2.1 ∧ wfTm x.2.2
theorem wfTm.fit {x : Tm} (h : wfTm x) : fitTm x := h.2
theorem wfTr.fit {x : Tr} (h : wfTr x) : fitTr x := ⟨h.1.2, h.2.1.2, h.2.2.2⟩

set_option maxRecDepth 100000 in
theorem down_termW {H : Type} {enc : TypeId × Value → H} {W : World} {base n : Nat} {spare : Nat → Bool} {held : Bool} {cs : List Value} {y : DataW H × List MemPlace}
    (h : DataW.trod enc Tryd.prog W base spare held n 29 cs = some y) : ∃ x : Tm, cs = encTm x ∧ wfTm x := by
  obtain ⟨y0, y1, y2, m, _, hl, h0, h1, h2⟩ := trod_struct3 Tryd.underlying29 h
  rw [cellsTerm] at hl
  match cs, hl with
  | [c0, c1, c2], _ =>
    simp only [cellsInt, cellsStr, List.drop_zero, List.drop_succ_cons, List.take_succ_cons, List.take_zero] at h0 h1 h2
    obtain ⟨k, e0, _, wk⟩ := DataW.trod_int Tryd.underlying3 h0
    obtain ⟨s, e1, _, ws⟩ := DataW.trod_string Tryd.underlying9 h1
    obtain ⟨l, e2, _, wl⟩ := DataW.trod_string Tryd.underlying9 h2
    simp at e0 e1 e2
    subst e0 e1 e2
    exact ⟨⟨k, s.data.toList, l.data.toList⟩, rfl, wk, by simpa using ws, by simpa using wl⟩

set_option maxRecDepth 100000 in
theorem down_tripleW {H : Type} {enc : TypeId × Value → H} {W : World} {base n : Nat} {spare : Nat → Bool} {held : Bool} {cs : List Value} {y : DataW H × List MemPlace}
    (h : DataW.trod enc Tryd.prog W base spare held n 39 cs = some y) : ∃ x : Tr, cs = encTr x ∧ wfTr x := by
  obtain ⟨y0, y1, y2, m, _, hl, h0, h1, h2⟩ := trod_struct3 Tryd.underlying39 h
  rw [cellsTriple] at hl
  match cs, hl with
  | [c0, c1, c2, c3, c4, c5, c6, c7, c8], _ =>
    simp only [cellsTerm, List.drop_zero, List.drop_succ_cons, List.take_succ_cons, List.take_zero] at h0 h1 h2
    obtain ⟨a, ea, fa⟩ := down_termW h0
    obtain ⟨b, eb, fb⟩ := down_termW h1
    obtain ⟨c, ec, fc⟩ := down_termW h2
    simp only [encTm, List.cons.injEq, and_true] at ea eb ec
    obtain ⟨rfl, rfl, rfl⟩ := ea
    obtain ⟨rfl, rfl, rfl⟩ := eb
    obtain ⟨rfl, rfl, rfl⟩ := ec
    exact ⟨⟨a, b, c⟩, rfl, fa, fb, fc⟩

set_option maxRecDepth 100000 in
theorem open_listW {H : Type} {enc : TypeId × Value → H} {W : World} {base b0 : Nat} {spare : Nat → Bool} {held : Bool} {r : Reach} {v : Value} {d : DataW H} {p : List MemPlace}
    (hv : Value.okWide Tryd.prog W r b0 23 v) (h : DataW.Trod enc Tryd.prog W base spare held 23 v d p) :
    ∃ (ad : Option Addr) (cap : Nat) (l : List Tr), v = .slice ad l.length cap ∧ SlT W ad l ∧ (∀ x ∈ l, wfTr x) ∧ l.length ≤ maxLen := by
  obtain ⟨a, len, cap, rfl⟩ := okWide_slice Tryd.underlying23 hv
  obtain ⟨fuel, hf⟩ := h
  rcases open_slice Tryd.underlying23 hf with ⟨hcs, _⟩ | ⟨a', len', cap', m, n, D, Pl, hcs, _, hl, hm, hmm, _, hx⟩
  · simp [Value.cells] at hcs
    obtain ⟨rfl, rfl, rfl⟩ := hcs
    exact ⟨none, 0, [], rfl, fun h => absurd rfl h, by simp, by simp⟩
  · simp [Value.cells] at hcs
    obtain ⟨rfl, rfl, rfl⟩ := hcs
    have hlm : len ≤ m := by rw [hmm]; split <;> omega
    have each : ∀ i, i < len → ∃ x : Tr, wfTr x ∧ ∀ j v, (encTr x)[j]? = some v → W.cell? (a'.add (i * 9 + j)) = some v := by
      intro i hi
      obtain ⟨cs', h1, h2⟩ := hx i (by omega)
      rw [cellsTriple] at h1
      obtain ⟨_, hlen, hcell⟩ := World.cells?_some h1
      obtain ⟨x, rfl, fx⟩ := down_tripleW h2
      refine ⟨x, fx, fun j v hj => ?_⟩
      have hj9 : j < 9 := (List.getElem?_eq_some_iff.1 hj).1
      have := hcell j (by omega)
      rw [add_add] at this
      rw [this]
      exact hj
    obtain ⟨q, hq⟩ := choose_lt each
    have hlen : ((List.range len).map q).length = len := by simp
    refine ⟨some a', cap, (List.range len).map q, by rw [hlen], fun hne => ?_, fun x hx => ?_, by rw [hlen]; omega⟩
    · have hpos : 0 < len := by
        rcases Nat.eq_zero_or_pos len with h0 | h0
        · subst h0; simp at hne
        · exact h0
      have hc := (hq 0 hpos).2 0 _ rfl
      obtain ⟨b, o, s⟩ := a'
      cases s with
      | some s =>
        exfalso
        unfold World.cell? Addr.add at hc
        revert hc
        split <;> simp
      | none =>
        refine ⟨b, o, rfl, fun j v hj => ?_⟩
        have hjl : j < len * 9 := by
          have := (List.getElem?_eq_some_iff.1 hj).1
          rwa [cellsT_len, hlen] at this
        have hi : j / 9 < len := by omega
        have h1 := cellsT_at ((List.range len).map q) (j / 9) (by rw [hlen]; exact hi) (j % 9) (by omega)
        rw [show j / 9 * 9 + j % 9 = j by omega, hj] at h1
        have h2 := (hq (j / 9) hi).2 (j % 9) v (by rw [h1]; simp)
        rw [show j / 9 * 9 + j % 9 = j by omega, Addr.add_lit] at h2
        exact h2
    · obtain ⟨i, hi, rfl⟩ := List.mem_map.1 hx
      exact (hq i (List.mem_range.1 hi)).1
set_option maxRecDepth 100000 in
theorem open_termsW {H : Type} {enc : TypeId × Value → H} {W : World} {base b0 : Nat} {spare : Nat → Bool} {held : Bool} {r : Reach} {v : Value} {d : DataW H} {p : List MemPlace}
    (hv : Value.okWide Tryd.prog W r b0 22 v) (h : DataW.Trod enc Tryd.prog W base spare held 22 v d p) :
    ∃ (ad : Option Addr) (cap : Nat) (l : List Tm), v = .slice ad l.length cap ∧ SlM W ad l ∧ (∀ x ∈ l, wfTm x) ∧ l.length ≤ maxLen := by
  obtain ⟨a, len, cap, rfl⟩ := okWide_slice Tryd.underlying22 hv
  obtain ⟨fuel, hf⟩ := h
  rcases open_slice Tryd.underlying22 hf with ⟨hcs, _⟩ | ⟨a', len', cap', m, n, D, Pl, hcs, _, hl, hm, hmm, _, hx⟩
  · simp [Value.cells] at hcs
    obtain ⟨rfl, rfl, rfl⟩ := hcs
    exact ⟨none, 0, [], rfl, fun h => absurd rfl h, by simp, by simp⟩
  · simp [Value.cells] at hcs
    obtain ⟨rfl, rfl, rfl⟩ := hcs
    have hlm : len ≤ m := by rw [hmm]; split <;> omega
    have each : ∀ i, i < len → ∃ x : Tm, wfTm x ∧ ∀ j v, (encTm x)[j]? = some v → W.cell? (a'.add (i * 3 + j)) = some v := by
      intro i hi
      obtain ⟨cs', h1, h2⟩ := hx i (by omega)
      rw [cellsTerm] at h1
      obtain ⟨_, hlen, hcell⟩ := World.cells?_some h1
      obtain ⟨x, rfl, fx⟩ := down_termW h2
      refine ⟨x, fx, fun j v hj => ?_⟩
      have hj9 : j < 3 := (List.getElem?_eq_some_iff.1 hj).1
      have := hcell j (by omega)
      rw [add_add] at this
      rw [this]
      exact hj
    obtain ⟨q, hq⟩ := choose_lt each
    have hlen : ((List.range len).map q).length = len := by simp
    refine ⟨some a', cap, (List.range len).map q, by rw [hlen], fun hne => ?_, fun x hx => ?_, by rw [hlen]; omega⟩
    · have hpos : 0 < len := by
        rcases Nat.eq_zero_or_pos len with h0 | h0
        · subst h0; simp at hne
        · exact h0
      have hc := (hq 0 hpos).2 0 _ rfl
      obtain ⟨b, o, s⟩ := a'
      cases s with
      | some s =>
        exfalso
        unfold World.cell? Addr.add at hc
        revert hc
        split <;> simp
      | none =>
        refine ⟨b, o, rfl, fun j v hj => ?_⟩
        have hjl : j < len * 3 := by
          have := (List.getElem?_eq_some_iff.1 hj).1
          rwa [cellsM_len, hlen] at this
        have hi : j / 3 < len := by omega
        have h1 := cellsM_at ((List.range len).map q) (j / 3) (by rw [hlen]; exact hi) (j % 3) (by omega)
        rw [show j / 3 * 3 + j % 3 = j by omega, hj] at h1
        have h2 := (hq (j / 3) hi).2 (j % 3) v (by rw [h1]; simp)
        rw [show j / 3 * 3 + j % 3 = j by omega, Addr.add_lit] at h2
        exact h2
    · obtain ⟨i, hi, rfl⟩ := List.mem_map.1 hx
      exact (hq i (List.mem_range.1 hi)).1

/-! ### lists of numbers -/
def AskAt (W : World) (ad : Option Addr) (Q : List (List Int)) : Prop :=
  Q ≠ [] → ∃ b o, ad = some ⟨b, o, none⟩ ∧ ∀ i (h : i < Q.length), ∃ a c, W.cell? ⟨b, o + i, none⟩ = some (.slice a (Q[i]).length c) ∧ ∀ j (hj : j < (Q[i]).length), ∃ b' o', a = some ⟨b', o', none⟩ ∧ W.cell? ⟨b', o' + j, none⟩ = some (.int .i64 (Q[i])[j])
theorem AskAt.below {w w' : World} {ad : Option Addr} {Q : List (List Int)} (h : AskAt w ad Q) (hb : RowKit.Below w.heap.size w w') : AskAt w' ad Q := fun hq => by
  obtain ⟨b, o, e, r⟩ := h hq
  refine ⟨b, o, e, fun i hi => ?_⟩
  obtain ⟨a, c, h1, h2⟩ := r i hi
  refine ⟨a, c, (hb.cell (World.block_lt_of_cell? w _ h1)).trans h1, fun j hj => ?_⟩
  obtain ⟨b', o', e', h3⟩ := h2 j hj
  exact ⟨b', o', e', (hb.cell (World.block_lt_of_cell? w _ h3)).trans h3⟩
theorem AskAt.at {w : World} {ad : Option Addr} {Q : List (List Int)} (h : AskAt w ad Q) (i : Nat) (hi : i < Q.length) :
    ∃ b o, ad = some ⟨b, o, none⟩ ∧ ∃ a c, w.cell? ⟨b, o + i, none⟩ = some (.slice a (Q[i]).length c) ∧ ∀ j (hj : j < (Q[i]).length), ∃ b' o', a = some ⟨b', o', none⟩ ∧ w.cell? ⟨b', o' + j, none⟩ = some (.int .i64 (Q[i])[j]) := by
  obtain ⟨b, o, e, r⟩ := h (fun e => by rw [e] at hi; simp at hi)
  exact ⟨b, o, e, r i hi⟩

theorem cellsRow : Tryd.prog.cellsOf 44 = 1 := by kernel_rfl

set_option maxRecDepth 100000 in
theorem open_asked {H : Type} {enc : TypeId × Value → H} {W : World} {base b0 : Nat} {held : Bool} {r : Reach} {v : Value} {d : DataW H} {p : List MemPlace}
    (hv : Value.okWide Tryd.prog W r b0 24 v) (h : DataW.Trod enc Tryd.prog W base (fun _ => true) held 24 v d p) :
    ∃ (ad : Option Addr) (cap : Nat) (Q : List (List Int)), v = .slice ad Q.length cap ∧ AskAt W ad Q ∧ (∀ q ∈ Q, ∀ n ∈ q, (Lit.int .i64 n).wf = true) ∧ (∀ q ∈ Q, q.length ≤ maxLen) ∧ Q.length ≤ maxLen := by
  obtain ⟨a, len, cap, rfl⟩ := okWide_slice Tryd.underlying24 hv
  obtain ⟨fuel, hf⟩ := h
  rcases open_int_rows Tryd.underlying24 Tryd.underlying44 Tryd.underlying3 cellsRow cellsInt hf with ⟨hcs, _⟩ | ⟨a', len', cap', A, L, C, Z, hcs, _, hl, hm, _, hx⟩
  · simp [Value.cells] at hcs
    obtain ⟨rfl, rfl, rfl⟩ := hcs
    exact ⟨none, 0, [], rfl, fun h => absurd rfl h, by simp, by simp, by simp⟩
  · simp [Value.cells] at hcs
    obtain ⟨rfl, rfl, rfl⟩ := hcs
    have hlen : ((List.range len).map fun r => (Z r).take (L r)).length = len := by simp
    have hrow : ∀ r, r < len → ((Z r).take (L r)).length = L r := fun r hr => by
      have := hx r (by omega)
      rw [List.length_take, this.2.2.2.1]
      have := this.2.1
      omega
    refine ⟨some a', cap, (List.range len).map fun r => (Z r).take (L r), by rw [hlen], fun hne => ?_, fun q hq n hn => ?_, fun q hq => ?_, by rw [hlen]; omega⟩
    · have hpos : 0 < len := by
        rcases Nat.eq_zero_or_pos len with h0 | h0
        · subst h0; simp at hne
        · exact h0
      have hc := (hx 0 (by omega)).1
      obtain ⟨b, o, s⟩ := a'
      cases s with
      | some s =>
        exfalso
        unfold World.cell? Addr.add at hc
        revert hc
        split <;> simp
      | none =>
        refine ⟨b, o, rfl, fun i hi => ?_⟩
        rw [hlen] at hi
        obtain ⟨h1, h2, h3, h4, h5, h6, h7⟩ := hx i (by omega)
        have hq : ((List.range len).map fun r => (Z r).take (L r))[i]'(by rw [hlen]; exact hi) = (Z i).take (L i) := by simp
        rw [hq]
        have hr := hrow i hi
        refine ⟨A i, C i, by rw [hr]; rw [Addr.add_lit] at h1; exact h1, fun j hj => ?_⟩
        cases hA : A i with
        | none => have := h6 hA; omega
        | some a2 =>
          obtain ⟨_, h8⟩ := h7 a2 hA
          have h9 := h8 j (by omega)
          obtain ⟨b2, o2, s2⟩ := a2
          cases s2 with
          | some s2 =>
            exfalso
            have h90 := h8 0 (by omega)
            unfold World.cell? Addr.add at h90
            revert h90
            split <;> simp
          | none =>
            rw [Addr.add_lit] at h9
            refine ⟨b2, o2, rfl, h9.trans ?_⟩
            simp only [List.getElem_take]
            rw [List.getD_eq_getElem?_getD, List.getElem?_eq_getElem (by omega)]
            rfl
    · obtain ⟨r, hr, rfl⟩ := List.mem_map.1 hq
      exact (hx r (by have := List.mem_range.1 hr; omega)).2.2.2.2.1 n (List.mem_of_mem_take hn)
    · obtain ⟨r, hr, rfl⟩ := List.mem_map.1 hq
      rw [hrow r (List.mem_range.1 hr)]
      have := hx r (by have := List.mem_range.1 hr; omega)
      have h1 := this.2.1
      have h2 := this.2.2.1
      omega

/-! ### what is asked, and where there is room -/
def askV (q : List Int) : Int × Int × Int := (q.getD 0 0, q.getD 1 0, q.getD 2 0)
theorem askV_wf {q : List Int} (h : ∀ n ∈ q, (Lit.int .i64 n).wf = true) : wfI (askV q) := by
  have e : ∀ j, (Lit.int .i64 (q.getD j 0)).wf = true := fun j => by
    by_cases hj : j < q.length
    · rw [List.getD_eq_getElem?_getD, List.getElem?_eq_getElem hj]
      exact h _ (List.getElem_mem hj)
    · rw [List.getD_eq_getElem?_getD, List.getElem?_eq_none (by omega)]
      decide
  exact ⟨e 0, e 1, e 2⟩

theorem addAll_le (l : List Tm) : ∀ L : List Tm, (addAll L l).length ≤ L.length + l.length := by
  induction l with
  | nil => intro L; simp [addAll]
  | cons x r ih =>
    intro L
    have h1 := ih (addL L x)
    have h2 : (addL L x).length ≤ L.length + 1 := by rw [addL_len]; split <;> omega
    show (addAll (addL L x) r).length ≤ _
    rw [List.length_cons]
    omega
theorem addE_room {L : List Tm} {x : Tm} (h : L.length < 300) : addE L x = chkTm x := by
  unfold addE
  by_cases hk : chkTm x = 0
  · rw [if_pos hk, if_pos (by rw [addL_len]; split <;> omega), hk]
  · rw [if_neg hk]
theorem packE_room {L : List Tm} {t : Tr} (h : L.length + 3 ≤ 300) : packE L t = chkTr t := by
  unfold packE
  by_cases hk : chkTr t = 0
  · have := addAll_le (three t) L
    rw [show (three t).length = 3 from rfl] at this
    rw [if_pos hk, if_pos (by omega), hk]
  · rw [if_neg hk]
theorem newL_le (L : List Tm) (x : Tm) : (newL L x).length ≤ L.length + 1 := by
  unfold newL
  split
  · rw [addL_len]; split <;> omega
  · omega
theorem packL_le (L : List Tm) (t : Tr) : (packL L t).length ≤ L.length + 3 := by
  unfold packL
  split
  · exact addAll_le (three t) L
  · omega
theorem ids_eq (L : List Tm) (t : Tr) : idsOf (addAll L (three t)) t = (((idN (addL L t.1) t.1 : Nat) : Int), ((idN (addL (addL L t.1) t.2.1) t.2.1 : Nat) : Int), ((idN (addL (addL (addL L t.1) t.2.1) t.2.2) t.2.2 : Nat) : Int)) := by
  have m1 : t.1 ∈ addL L t.1 := mem_addL.2 (.inr rfl)
  have m2 : t.2.1 ∈ addL (addL L t.1) t.2.1 := mem_addL.2 (.inr rfl)
  have e3 : addAll L (three t) = addL (addL (addL L t.1) t.2.1) t.2.2 := rfl
  unfold idsOf
  rw [e3, idN_prefix ((addL_prefix _ t.2.1).trans (addL_prefix _ t.2.2)) m1, idN_prefix (addL_prefix _ t.2.2) m2]
theorem idN_new {L : List Tm} {x : Tm} (h : x ∉ L) : idN (addL L x) x = L.length + 1 := by
  rw [show addL L x = L ++ [x] from if_neg h]
  unfold idN
  rw [if_pos (by simp), List.idxOf_append, if_neg h]
  simp

/-! ### '!=' on three numbers that are the same -/
theorem partI0 (w : World) (a b c : Value) : (part 3 #[a, b, c] 0).run Tryd.prog w = .ok a w := by kernel_rfl
theorem partI1 (w : World) (a b c : Value) : (part 3 #[a, b, c] 1).run Tryd.prog w = .ok b w := by kernel_rfl
theorem partI2 (w : World) (a b c : Value) : (part 3 #[a, b, c] 2).run Tryd.prog w = .ok c w := by kernel_rfl
theorem sizeI (w : World) : (sizeOf 3).run Tryd.prog w = .ok 1 w := by kernel_rfl
theorem neqI3 (a b c : Int) (w : World) : (binOp .neq 41 (.agg #[.int .i64 a, .int .i64 b, .int .i64 c]) (.agg #[.int .i64 a, .int .i64 b, .int .i64 c])).run Tryd.prog w = .ok (.bool false) w := by
  have e : (Op.equalIn 10000 41 (.agg #[.int .i64 a, .int .i64 b, .int .i64 c]) (.agg #[.int .i64 a, .int .i64 b, .int .i64 c])).run Tryd.prog w = .ok true w := by
    rw [show (10000 : Nat) = 9998 + 1 + 1 from rfl, Op.equalIn]
    simp only [Sem.run_bind, run_underlying Tryd.underlying41, Result.andThen_ok, sizeI]
    simp [List.range', partI0, partI1, partI2, run_equalIn_int _ _ _ _ _ _ _ Tryd.underlying3]
  go_simp
end Go.Proofs.YtkeholipklfnbacDoor
