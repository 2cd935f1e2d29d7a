/- A dict in memory: its two maps, and the list of terms that they stand for. -/
import Derived.Test.YtkeholipklfnbacDoorDictData
namespace Go.Proofs.YtkeholipklfnbacDoor
open Go Go.RowKit Go.Proofs Go.Maps
set_option synthInstance.maxSize 1000

/-! ### the list -/
/-- the list with one more term, its number, and the term of a number -/
def addL (L : List Tm) (x : Tm) : List Tm := if x ∈ L then L else L ++ [x]
def addAll (L : List Tm) (l : List Tm) : List Tm := l.foldl addL L
def idN (L : List Tm) (x : Tm) : Nat := if x ∈ L then L.idxOf x + 1 else 0
def zeroTm : Tm := (0, [], [])
def atN (L : List Tm) (n : Int) : Tm := if 1 ≤ n ∧ n ≤ L.length then L[n.toNat - 1]?.getD zeroTm else zeroTm
def chkTm (x : Tm) : Int := checkN x.1 x.2.1 x.2.2

theorem mem_addL {L : List Tm} {x y : Tm} : y ∈ addL L x ↔ y ∈ L ∨ y = x := by
  unfold addL
  split
  · rename_i h
    constructor
    · exact fun hy => .inl hy
    · rintro (hy | rfl)
      · exact hy
      · exact h
  · simp
theorem addL_prefix (L : List Tm) (x : Tm) : L <+: addL L x := by
  unfold addL
  split
  · exact List.prefix_refl L
  · exact List.prefix_append _ _
theorem addAll_prefix (l : List Tm) : ∀ L : List Tm, L <+: addAll L l := by
  induction l with
  | nil => exact fun L => List.prefix_refl L
  | cons x r ih => exact fun L => (addL_prefix L x).trans (ih _)
theorem addL_nodup {L : List Tm} {x : Tm} (h : L.Nodup) : (addL L x).Nodup := by
  unfold addL
  split
  · exact h
  · rename_i hx
    rw [List.nodup_append]
    exact ⟨h, by simp, fun a ha b hb => by simp at hb; subst hb; exact fun e => hx (e ▸ ha)⟩
theorem mem_addAll (l : List Tm) : ∀ {L : List Tm} {y : Tm}, y ∈ addAll L l ↔ y ∈ L ∨ y ∈ l := by
  induction l with
  | nil => intro L y; simp [addAll]
  | cons x r ih => intro L y; show y ∈ addAll (addL L x) r ↔ _; rw [ih, mem_addL]; simp [or_assoc]
theorem addAll_nodup (l : List Tm) : ∀ {L : List Tm}, L.Nodup → (addAll L l).Nodup := by
  induction l with
  | nil => exact fun h => h
  | cons x r ih => exact fun h => ih (addL_nodup h)
theorem addL_len (L : List Tm) (x : Tm) : (addL L x).length = if x ∈ L then L.length else L.length + 1 := by
  unfold addL
  split <;> simp
theorem addL_le (L : List Tm) (x : Tm) : L.length ≤ (addL L x).length := (addL_prefix L x).length_le

/-- a number stays, however many come behind -/
theorem idxOf_prefix {L M : List Tm} {x : Tm} (h : L <+: M) (hx : x ∈ L) : M.idxOf x = L.idxOf x := by
  obtain ⟨r, rfl⟩ := h
  rw [List.idxOf_append, if_pos hx]
theorem idN_prefix {L M : List Tm} {x : Tm} (h : L <+: M) (hx : x ∈ L) : idN M x = idN L x := by
  unfold idN
  rw [if_pos hx, if_pos (h.subset hx), idxOf_prefix h hx]
theorem idN_mem {L : List Tm} {x : Tm} (hx : x ∈ L) : 1 ≤ idN L x ∧ idN L x ≤ L.length := by
  unfold idN
  rw [if_pos hx]
  have := List.idxOf_lt_length_iff.2 hx
  omega
theorem idN_not {L : List Tm} {x : Tm} (hx : x ∉ L) : idN L x = 0 := if_neg hx
theorem atN_id {L : List Tm} {x : Tm} (hx : x ∈ L) : atN L (idN L x) = x := by
  have h1 := idN_mem hx
  have h2 := List.idxOf_lt_length_iff.2 hx
  unfold atN
  rw [if_pos (by omega)]
  unfold idN
  rw [if_pos hx]
  simp only [Int.toNat_natCast, Nat.add_sub_cancel]
  rw [List.getElem?_eq_getElem h2]
  simp
theorem atN_at {L : List Tm} {i : Nat} (h : i < L.length) : atN L ((i : Int) + 1) = L[i] := by
  unfold atN
  rw [if_pos (by omega), show ((i : Int) + 1).toNat - 1 = i by omega, List.getElem?_eq_getElem h]
  rfl
theorem atN_prefix {L M : List Tm} {n : Int} (h : L <+: M) (hn : 1 ≤ n ∧ n ≤ L.length) : atN M n = atN L n := by
  obtain ⟨r, rfl⟩ := h
  unfold atN
  rw [if_pos hn, if_pos (by simp; omega), List.getElem?_append_left (by omega)]
theorem id_at {L : List Tm} (hL : L.Nodup) {i : Nat} (h : i < L.length) : idN L L[i] = i + 1 := by
  unfold idN
  rw [if_pos (List.getElem_mem h), hL.idxOf_getElem i h]
theorem atN_mem {L : List Tm} {n : Int} (hn : 1 ≤ n ∧ n ≤ L.length) : atN L n ∈ L := by
  unfold atN
  rw [if_pos hn, List.getElem?_eq_getElem (show n.toNat - 1 < L.length by omega)]
  exact List.getElem_mem _
theorem atN_not {L : List Tm} {n : Int} (hn : ¬ (1 ≤ n ∧ n ≤ L.length)) : atN L n = zeroTm := if_neg hn

/-- a dict's list: each term right, each once, no more than may be -/
def GoodL (L : List Tm) : Prop := L.Nodup ∧ (∀ x ∈ L, chkTm x = 0) ∧ L.length ≤ 300
theorem goodL_nil : GoodL [] := ⟨List.nodup_nil, by simp, by simp⟩
theorem GoodL.add {L : List Tm} (h : GoodL L) {x : Tm} (hx : chkTm x = 0) (hl : (addL L x).length ≤ 300) : GoodL (addL L x) :=
  ⟨addL_nodup h.1, fun y hy => (mem_addL.1 hy).elim (h.2.1 y) (fun e => e ▸ hx), hl⟩
theorem GoodL.addAll {L : List Tm} (h : GoodL L) {l : List Tm} (hx : ∀ x ∈ l, chkTm x = 0) (hl : (addAll L l).length ≤ 300) : GoodL (addAll L l) :=
  ⟨addAll_nodup l h.1, fun y hy => ((mem_addAll l).1 hy).elim (h.2.1 y) (hx y), hl⟩
theorem wf_chk {x : Tm} (h : chkTm x = 0) : wfTm x := wf_of_check h

/-! ### elements that are terms -/
def encD (x : Tm) : DataW Unit := .agg [.lit (.int .i64 x.1), .lit (.string x.2.1), .lit (.string x.2.2)]
def termElem (v : Value) : Option (DataW Unit × List MemPlace) :=
  match v with
  | .agg cs => match cs.toList with
    | [.int .i64 k, .string S, .string L] => some (encD (k, S.data.toList, L.data.toList), [])
    | _ => none
  | _ => none
theorem termElem_mk (x : Tm) : termElem (valTm x) = some (encD x, []) := by
  simp [termElem, valTm]
theorem encD_inj {x y : Tm} (h : encD x = encD y) : x = y := by
  obtain ⟨a1, a2, a3⟩ := x
  obtain ⟨b1, b2, b3⟩ := y
  simp only [encD, DataW.agg.injEq, List.cons.injEq, DataW.lit.injEq, Lit.int.injEq, Lit.string.injEq, true_and, and_true] at h
  obtain ⟨rfl, rfl, rfl⟩ := h
  rfl
theorem termElem_inv {v : Value} {x : Tm} {ps : List MemPlace} (h : termElem v = some (encD x, ps)) : v = valTm x := by
  unfold termElem at h
  split at h
  · rename_i cs
    split at h
    · rename_i k S L hcs
      simp only [Option.some.injEq, Prod.mk.injEq] at h
      have := encD_inj h.1
      subst this
      obtain ⟨l, rfl⟩ : ∃ l : List Value, cs = l.toArray := ⟨cs.toList, by simp⟩
      simp at hcs
      subst hcs
      rfl
    · cases h
  · cases h

/-! ### a dict -/
theorem wf64 {n : Int} (h0 : 0 ≤ n) (h1 : n ≤ 9223372036854775807) : (Lit.int .i64 n).wf = true := by
  have a : IntKind.i64.min = -9223372036854775808 := by decide
  have b : IntKind.i64.max = 9223372036854775807 := by decide
  simp only [Lit.wf, a, b, Bool.and_eq_true, decide_eq_true_eq]; omega
theorem keyedI : Keyed Tryd.prog 3 := int_keyed Tryd.underlying3

/-- in blocks from n0 on lies the dict of these terms -/
def DictAt (w : World) (n0 : Nat) (L : List Tm) : Prop :=
  w.cell? ⟨n0 + 2, 0, none⟩ = some (.map (some n0)) ∧ w.cell? ⟨n0 + 2, 1, none⟩ = some (.map (some (n0 + 1))) ∧
  ∃ D1 D2 : DataW Unit, w.ownsMap Tryd.prog 29 (plainElem Tryd.prog 3) n0 L.length D1 ∧ w.ownsMap Tryd.prog 3 termElem (n0 + 1) L.length D2 ∧ Maps.size D2 = L.length ∧
    (∀ x, wfTm x → Maps.has D1 (keyTm x) = decide (x ∈ L) ∧ D1.atKey (keyTm x) (.lit (.int .i64 0)) = .lit (.int .i64 (idN L x))) ∧
    (∀ n, (Lit.int .i64 n).wf = true → Maps.has D2 (.int .i64 n) = decide (1 ≤ n ∧ n ≤ L.length) ∧ D2.atKey (.int .i64 n) (encD zeroTm) = encD (atN L n))

theorem ownsMap_below {H : Type} {R : Value → Option (DataW H × List MemPlace)} {k : TypeId} {w w' : World} {b n : Nat} {D : DataW H} (h : w.ownsMap Tryd.prog k R b n D) (hb : RowKit.Below w.heap.size w w') : w'.ownsMap Tryd.prog k R b n D := by
  obtain ⟨es, clock, hm, r⟩ := h
  have hlt : b < w.heap.size := (Array.getElem?_eq_some_iff.1 hm).1
  exact ⟨es, clock, (hb.block b hlt).trans hm, r⟩

theorem DictAt.below {w w' : World} {n0 : Nat} {L : List Tm} (h : DictAt w n0 L) (hb : RowKit.Below w.heap.size w w') : DictAt w' n0 L := by
  obtain ⟨c0, c1, D1, D2, o1, o2, r⟩ := h
  exact ⟨(hb.cell (World.block_lt_of_cell? w _ c0)).trans c0, (hb.cell (World.block_lt_of_cell? w _ c1)).trans c1, D1, D2, ownsMap_below o1 hb, ownsMap_below o2 hb, r⟩
theorem DictAt.lt {w : World} {n0 : Nat} {L : List Tm} (h : DictAt w n0 L) : n0 + 2 < w.heap.size := by
  obtain ⟨h0, _⟩ := h
  exact World.block_lt_of_cell? w _ h0

theorem DictAt.far {w w' : World} {n0 B : Nat} {L : List Tm} (h : DictAt w n0 L) (hb : RowKit.Below B w w') (hB : n0 + 2 < B) : DictAt w' n0 L := by
  obtain ⟨c0, c1, D1, D2, ⟨es1, k1, m1, r1⟩, ⟨es2, k2, m2, r2⟩, r⟩ := h
  exact ⟨(hb.cell (by show n0 + 2 < B; exact hB)).trans c0, (hb.cell (by show n0 + 2 < B; exact hB)).trans c1, D1, D2, ⟨es1, k1, (hb.block n0 (by omega)).trans m1, r1⟩, ⟨es2, k2, (hb.block (n0 + 1) (by omega)).trans m2, r2⟩, r⟩

/-- what an operation on the dict at n0 leaves -/
structure Turned (n0 : Nat) (w w' : World) : Prop where
  low : RowKit.Below n0 w w'
  high : ∀ j, n0 + 3 ≤ j → j < w.heap.size → w'.heap[j]? = w.heap[j]?
theorem Turned.trans {n0 : Nat} {a b c : World} (h : Turned n0 a b) (k : Turned n0 b c) : Turned n0 a c :=
  ⟨h.low.trans k.low, fun j h1 h2 => (k.high j h1 (Nat.lt_of_lt_of_le h2 h.low.size)).trans (h.high j h1 h2)⟩
theorem Turned.of_below {n0 : Nat} {w w' : World} (h : RowKit.Below w.heap.size w w') (hn : n0 ≤ w.heap.size) : Turned n0 w w' :=
  ⟨h.mono hn, fun j _ h2 => h.block j h2⟩
theorem Turned.of_grown {n0 b : Nat} {w w' : World} (hg : w.grownBy w' (some b)) (h1 : n0 ≤ b) (h2 : b < n0 + 3) (hn : n0 ≤ w.heap.size) : Turned n0 w w' :=
  ⟨(RowKit.Below.refl n0 w).grown hg hn (fun k hk => by cases hk; exact h1), fun j h3 h4 => hg.block j h4 (fun e => by cases e; omega)⟩
theorem Turned.cell {n0 : Nat} {w w' : World} (h : Turned n0 w w') {p : Addr} (hp : p.block < n0 ∨ (n0 + 3 ≤ p.block ∧ p.block < w.heap.size)) : w'.cell? p = w.cell? p := by
  rcases hp with hp | ⟨h1, h2⟩
  · exact h.low.cell hp
  · exact World.cell?_of_block (w := w) (h.high p.block h1 h2)

/-- what lies apart from the dict stays -/
theorem Turned.own {n0 base : Nat} {W W' : World} {e : TypeId} {sz : Nat} {v : Value} {n : Nat} {cs : List Value} (h : Turned n0 W W') (hr : W.ownsRow base e sz v n cs) (hb : n0 + 3 ≤ base) : W'.ownsRow base e sz v n cs := by
  obtain ⟨h1, h2⟩ := hr
  refine ⟨h1, ?_⟩
  rcases h2 with h2 | ⟨g, cap, cur, hv, hg, hm, r⟩
  · exact .inl h2
  · exact .inr ⟨g, cap, cur, hv, hg, (h.high g (by omega) (Array.getElem?_eq_some_iff.1 hm).1).trans hm, r⟩

/-- one more term -/
theorem dict_put {L : List Tm} {x : Tm} {D1 D2 : DataW Unit} (hx : wfTm x) (hn : x ∉ L) (hl : L.length ≤ 1000) (m1 : IsMap D1) (m2 : Tidy D2) (hs : Maps.size D2 = L.length)
    (f1 : ∀ x, wfTm x → Maps.has D1 (keyTm x) = decide (x ∈ L) ∧ D1.atKey (keyTm x) (.lit (.int .i64 0)) = .lit (.int .i64 (idN L x)))
    (f2 : ∀ n, (Lit.int .i64 n).wf = true → Maps.has D2 (.int .i64 n) = decide (1 ≤ n ∧ n ≤ L.length) ∧ D2.atKey (.int .i64 n) (encD zeroTm) = encD (atN L n)) :
    Maps.size (D2.put (.int .i64 (L.length + 1 : Nat)) (encD x)) = (L ++ [x]).length ∧
    (∀ y, wfTm y → Maps.has (D1.put (keyTm x) (.lit (.int .i64 (L.length + 1 : Nat)))) (keyTm y) = decide (y ∈ L ++ [x]) ∧ (D1.put (keyTm x) (.lit (.int .i64 (L.length + 1 : Nat)))).atKey (keyTm y) (.lit (.int .i64 0)) = .lit (.int .i64 (idN (L ++ [x]) y))) ∧
    (∀ n, (Lit.int .i64 n).wf = true → Maps.has (D2.put (.int .i64 (L.length + 1 : Nat)) (encD x)) (.int .i64 n) = decide (1 ≤ n ∧ n ≤ (L ++ [x]).length) ∧ (D2.put (.int .i64 (L.length + 1 : Nat)) (encD x)).atKey (.int .i64 n) (encD zeroTm) = encD (atN (L ++ [x]) n)) := by
  have hk1 := keyedTm.key (keyOf_tm x hx)
  have hwn : (Lit.int .i64 ((L.length + 1 : Nat) : Int)).wf = true := by
    refine wf64 (by omega) (by omega)
  have hk2 := keyedI.key (keyOf_int_mk Tryd.underlying3 hwn)
  have hnot : Maps.has D2 (.int .i64 (L.length + 1 : Nat)) = false := by
    rw [(f2 _ hwn).1]; simp; omega
  refine ⟨?_, fun y hy => ?_, fun n hw => ?_⟩
  · rw [Maps.size_put m2, hnot, hs]; simp
  · by_cases e : y = x
    · subst e
      rw [Maps.has_put_same m1 hk1, Maps.atKey_put_same m1 hk1]
      refine ⟨by simp, ?_⟩
      have : idN (L ++ [y]) y = L.length + 1 := by
        unfold idN
        rw [if_pos (by simp), List.idxOf_append, if_neg hn]
        simp
      rw [this]
    · have hne : keyTm y ≠ keyTm x := fun e' => e (keyTm_inj hy hx e')
      rw [Maps.has_put_other hne, Maps.atKey_put_other hne, (f1 y hy).1, (f1 y hy).2]
      refine ⟨by simp [e], ?_⟩
      by_cases hm : y ∈ L
      · rw [idN_prefix (List.prefix_append L [x]) hm]
      · rw [idN_not hm, idN_not (by simp [hm, e])]
  · by_cases e : n = ((L.length + 1 : Nat) : Int)
    · subst e
      rw [Maps.has_put_same m2.isMap hk2, Maps.atKey_put_same m2.isMap hk2]
      refine ⟨by simp; omega, ?_⟩
      have := atN_at (L := L ++ [x]) (i := L.length) (by simp)
      rw [show ((L.length + 1 : Nat) : Int) = (L.length : Int) + 1 by simp, this]
      simp
    · have hne : (Lit.int .i64 n) ≠ (Lit.int .i64 ((L.length + 1 : Nat) : Int)) := fun e' => e (by simpa using e')
      rw [Maps.has_put_other hne, Maps.atKey_put_other hne, (f2 n hw).1, (f2 n hw).2]
      have hiff : (1 ≤ n ∧ n ≤ (L ++ [x]).length) ↔ (1 ≤ n ∧ n ≤ L.length) := by
        simp at e ⊢; omega
      refine ⟨by simp only [hiff], ?_⟩
      by_cases hm : 1 ≤ n ∧ n ≤ L.length
      · rw [atN_prefix (List.prefix_append L [x]) hm]
      · rw [atN_not hm, atN_not (fun h => hm (hiff.1 h))]
end Go.Proofs.YtkeholipklfnbacDoor
