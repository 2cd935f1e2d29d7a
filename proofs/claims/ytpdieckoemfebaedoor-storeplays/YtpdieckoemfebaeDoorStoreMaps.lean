/- Objects by number and numbers by object: two maps that stand for a store's list; look-ups, one more, one less, gone over. -/
import Derived.Test.YtpdieckoemfebaeDoorStoreFace
import Derived.Maps.OwnSet
import Derived.Maps.RangeWalk
import Derived.Maps.StringElems
import Derived.StringKeys
namespace Go.Proofs.YtpdieckoemfebaeDoor
open Go Go.RowKit Go.Proofs Go.Maps
set_option synthInstance.maxSize 1000

theorem wfO {n : Int} (h0 : -9223372036854775808 ≤ n) (h1 : n ≤ 9223372036854775807) : (Lit.int .i64 n).wf = true := by
  have a : IntKind.i64.min = -9223372036854775808 := by decide
  have b : IntKind.i64.max = 9223372036854775807 := by decide
  simp only [Lit.wf, a, b, Bool.and_eq_true, decide_eq_true_eq]; omega
theorem keyedIO : Keyed Tryd.prog 3 := int_keyed Tryd.underlying3
theorem keyedSO : Keyed Tryd.prog 9 := string_keyed Tryd.underlying9
theorem keyS (t : List UInt8) (h : t.length ≤ maxLen) : keyOf Tryd.prog 9 (.string ⟨t.toArray⟩) = some (.string t) := by
  have := Go.WideMaps.keyOf_string_mk (P := Tryd.prog) (k := 9) Tryd.underlying9 (s := ⟨t.toArray⟩) (by simpa [ByteArray.size] using h)
  simpa using this
theorem keyN {n : Int} (h : (Lit.int .i64 n).wf = true) : keyOf Tryd.prog 3 (.int .i64 n) = some (.int .i64 n) := keyOf_int_mk Tryd.underlying3 h

/-- an object as the map has it: a struct of one text -/
def encOb (b : List UInt8) : DataW Unit := .agg [.lit (.string b)]
def valOb (b : List UInt8) : Value := .agg #[.string ⟨b.toArray⟩]
def objElem (v : Value) : Option (DataW Unit × List MemPlace) :=
  match v with
  | .agg cs => match cs.toList with
    | [.string S] => some (encOb S.data.toList, [])
    | _ => none
  | _ => none
theorem objElem_mk (b : List UInt8) : objElem (valOb b) = some (encOb b, []) := by simp [objElem, valOb]
theorem encOb_inj {x y : List UInt8} (h : encOb x = encOb y) : x = y := by
  simpa [encOb] using h
theorem objElem_form {v : Value} {y : DataW Unit × List MemPlace} (h : objElem v = some y) : ∃ b, v = valOb b ∧ y = (encOb b, []) := by
  unfold objElem at h
  split at h
  · rename_i cs
    split at h
    · rename_i S hcs
      obtain ⟨l, rfl⟩ : ∃ l : List Value, cs = l.toArray := ⟨cs.toList, by simp⟩
      simp at hcs
      subst hcs
      simp only [Option.some.injEq] at h
      exact ⟨S.data.toList, by simp [valOb], h.symm⟩
    · cases h
  · cases h
theorem objElem_inv {v : Value} {b : List UInt8} {ps : List MemPlace} (h : objElem v = some (encOb b, ps)) : v = valOb b := by
  obtain ⟨c, rfl, e⟩ := objElem_form h
  simp only [Prod.mk.injEq] at e
  rw [encOb_inj e.1]

/-- the numbers by object -/
def NumD (D : DataW Unit) (L : List Ob) : Prop := ∀ t : List UInt8, t.length ≤ maxLen → Maps.has D (.string t) = decide (findO L t ≠ 0) ∧ D.atKey (.string t) (.lit (.int .i64 0)) = .lit (.int .i64 (findO L t : Int))
/-- the objects by number -/
def ObjD (D : DataW Unit) (L : List Ob) : Prop := ∀ n : Int, (Lit.int .i64 n).wf = true → Maps.has D (.int .i64 n) = (getO L n).isSome ∧ D.atKey (.int .i64 n) (encOb []) = encOb ((getO L n).getD [])

theorem NumD.nil : NumD (.map []) [] := fun t _ => ⟨by simp [Maps.has_eq, findO], by simp [DataW.atKey, findO]⟩
theorem ObjD.nil : ObjD (.map []) [] := fun n _ => ⟨by simp [Maps.has_eq, getO], by simp [DataW.atKey, getO]⟩

theorem findO_snoc {L : List Ob} {n : Nat} {b t : List UInt8} (hn : findO L b = 0) (hl : ∀ x ∈ L, 1 ≤ x.1) : findO (L ++ [(n + 1, b)]) t = if t = b then n + 1 else findO L t := by
  induction L with
  | nil =>
    simp only [List.nil_append, findO]
    by_cases e : t = b
    · rw [if_pos e.symm, if_pos e]
    · rw [if_neg (fun h => e h.symm), if_neg e]
  | cons x r ih =>
    have hx := hl x (by simp)
    simp only [List.cons_append, findO]
    unfold findO at hn
    by_cases e : x.2 = b
    · rw [if_pos e] at hn; omega
    · rw [if_neg e] at hn
      rw [ih hn fun y hy => hl y (List.mem_cons_of_mem _ hy)]
      by_cases e2 : x.2 = t
      · rw [if_pos e2, if_pos e2, if_neg (fun h => e (e2.trans h))]
      · rw [if_neg e2, if_neg e2]
theorem getO_snoc {L : List Ob} {n : Nat} {b : List UInt8} {z : Int} (hl : ∀ x ∈ L, x.1 ≤ n) : getO (L ++ [(n + 1, b)]) z = if z = ((n + 1 : Nat) : Int) then some b else getO L z := by
  induction L with
  | nil =>
    simp only [List.nil_append, getO]
    by_cases e : z = ((n + 1 : Nat) : Int)
    · rw [if_pos e.symm, if_pos e]
    · rw [if_neg (fun h => e h.symm), if_neg e]
  | cons x r ih =>
    have hx := hl x (by simp)
    simp only [List.cons_append, getO]
    rw [ih fun y hy => hl y (List.mem_cons_of_mem _ hy)]
    by_cases e2 : (x.1 : Int) = z
    · rw [if_pos e2, if_pos e2, if_neg (by omega)]
    · rw [if_neg e2, if_neg e2]
/-- one more -/
theorem NumD.put {D : DataW Unit} {L : List Ob} (h : NumD D L) (hm : IsMap D) {n : Nat} {b : List UInt8} (hn : findO L b = 0) (hl : ∀ x ∈ L, 1 ≤ x.1) (hb : b.length ≤ maxLen) : NumD (D.put (.string b) (.lit (.int .i64 ((n + 1 : Nat) : Int)))) (L ++ [(n + 1, b)]) := by
  intro t ht
  rw [findO_snoc hn hl]
  by_cases e : t = b
  · subst e
    have hk := keyedSO.key (keyS t hb)
    rw [Maps.has_put_same hm hk, Maps.atKey_put_same hm hk, if_pos rfl]
    exact ⟨by simp, rfl⟩
  · have hne : (Lit.string t) ≠ (Lit.string b) := fun e' => e (by simpa using e')
    rw [Maps.has_put_other hne, Maps.atKey_put_other hne, if_neg e]
    exact h t ht
theorem ObjD.put {D : DataW Unit} {L : List Ob} (h : ObjD D L) (hm : IsMap D) {n : Nat} {b : List UInt8} (hl : ∀ x ∈ L, x.1 ≤ n) : ObjD (D.put (.int .i64 ((n + 1 : Nat) : Int)) (encOb b)) (L ++ [(n + 1, b)]) := by
  intro z hz
  rw [getO_snoc hl]
  by_cases e : z = ((n + 1 : Nat) : Int)
  · subst e
    have hk := keyedIO.key (keyN hz)
    rw [Maps.has_put_same hm hk, Maps.atKey_put_same hm hk, if_pos rfl]
    exact ⟨rfl, rfl⟩
  · have hne : (Lit.int .i64 z) ≠ (Lit.int .i64 ((n + 1 : Nat) : Int)) := fun e' => e (by simpa using e')
    rw [Maps.has_put_other hne, Maps.atKey_put_other hne, if_neg e]
    exact h z hz
theorem ObjD.size_put {D : DataW Unit} {L : List Ob} (h : ObjD D L) (ht : Tidy D) {n : Nat} {b : List UInt8} (hl : ∀ x ∈ L, x.1 ≤ n) (hn : n ≤ 1000000) (hs : Maps.size D = L.length) : Maps.size (D.put (.int .i64 ((n + 1 : Nat) : Int)) (encOb b)) = (L ++ [(n + 1, b)]).length := by
  have hno : Maps.has D (.int .i64 ((n + 1 : Nat) : Int)) = false := by
    rw [(h _ (wfO (by omega) (by omega))).1, getO_none fun x hx => by have := hl x hx; omega]
    rfl
  rw [Maps.size_put ht, hno, hs]
  simp

/-- one less: the object of number a -/
def lessO (L : List Ob) (a : Nat) : List Ob := L.filter fun x => decide (x.1 ≠ a)
theorem findO_less {L : List Ob} {a : Nat} {b t : List UInt8} (ho : L.Pairwise fun x y => x.2 ≠ y.2) (ha : (a, b) ∈ L) (hr : L.Pairwise fun x y => x.1 < y.1) : findO (lessO L a) t = if t = b then 0 else findO L t := by
  by_cases e : t = b
  · rw [if_pos e]
    refine findO_none fun x hx => ?_
    obtain ⟨h1, h2⟩ := List.mem_filter.1 hx
    intro e2
    have q1 := findO_in ho h1
    have q2 := findO_in ho ha
    have q3 : x.1 = a := by
      rw [← q1, e2, e]
      exact q2
    simp [q3] at h2
  · rw [if_neg e]
    clear ho
    induction L with
    | nil => rfl
    | cons x r ih =>
      obtain ⟨r1, r2⟩ := List.pairwise_cons.1 hr
      unfold lessO
      rw [List.filter_cons]
      rcases List.mem_cons.1 ha with rfl | ha
      · rw [if_neg (by simp)]
        have : (r.filter fun x => decide (x.1 ≠ a)) = r := List.filter_eq_self.2 fun y hy => by have h9 : a < y.1 := r1 y hy; simp; omega
        rw [this]
        conv => rhs; unfold findO
        rw [if_neg (fun h => e h.symm)]
      · have hx : x.1 < a := r1 _ ha
        rw [if_pos (by simp; omega)]
        unfold findO
        have := ih ha r2
        unfold lessO at this
        rw [this]
theorem getO_less {L : List Ob} {a : Nat} {z : Int} : getO (lessO L a) z = if z = (a : Int) then none else getO L z := by
  by_cases e : z = (a : Int)
  · rw [if_pos e]
    refine getO_none fun x hx => ?_
    obtain ⟨h1, h2⟩ := List.mem_filter.1 hx
    simp at h2
    omega
  · rw [if_neg e]
    induction L with
    | nil => rfl
    | cons x r ih =>
      unfold lessO
      rw [List.filter_cons]
      unfold lessO at ih
      split
      · unfold getO
        rw [ih]
      · rename_i h
        simp at h
        rw [ih]
        conv => rhs; unfold getO
        rw [if_neg (by omega)]
theorem NumD.less {D : DataW Unit} {L : List Ob} (h : NumD D L) {a : Nat} {b : List UInt8} (ho : L.Pairwise fun x y => x.2 ≠ y.2) (hr : L.Pairwise fun x y => x.1 < y.1) (ha : (a, b) ∈ L) : NumD (D.del (.string b)) (lessO L a) := by
  intro t ht
  rw [findO_less ho ha hr]
  by_cases e : t = b
  · subst e
    rw [Maps.has_del_same, Maps.atKey_del_same, if_pos rfl]
    exact ⟨by simp, rfl⟩
  · have hne : (Lit.string t) ≠ (Lit.string b) := fun e' => e (by simpa using e')
    rw [Maps.has_del_other hne, Maps.atKey_del_other hne, if_neg e]
    exact h t ht
theorem ObjD.less {D : DataW Unit} {L : List Ob} (h : ObjD D L) (a : Nat) : ObjD (D.del (.int .i64 (a : Int))) (lessO L a) := by
  intro z hz
  rw [getO_less]
  by_cases e : z = (a : Int)
  · subst e
    rw [Maps.has_del_same, Maps.atKey_del_same, if_pos rfl]
    exact ⟨rfl, rfl⟩
  · have hne : (Lit.int .i64 z) ≠ (Lit.int .i64 (a : Int)) := fun e' => e (by simpa using e')
    rw [Maps.has_del_other hne, Maps.atKey_del_other hne, if_neg e]
    exact h z hz
theorem getO_isSome {L : List Ob} {z : Int} : (getO L z).isSome = true ↔ ∃ x ∈ L, (x.1 : Int) = z := by
  constructor
  · intro h
    obtain ⟨b, hb⟩ := Option.isSome_iff_exists.1 h
    obtain ⟨x, hx, e, _⟩ := getO_some hb
    exact ⟨x, hx, e⟩
  · rintro ⟨x, hx, e⟩
    cases hg : getO L z with
    | some b => rfl
    | none =>
      exfalso
      induction L with
      | nil => simp at hx
      | cons y r ih =>
        unfold getO at hg
        split at hg
        · cases hg
        · rename_i hne
          rcases List.mem_cons.1 hx with rfl | hx
          · exact hne e
          · exact ih hx hg
theorem lessO_len {L : List Ob} {a : Nat} {b : List UInt8} (hr : L.Pairwise fun x y => x.1 < y.1) (ha : (a, b) ∈ L) : (lessO L a).length + 1 = L.length := by
  induction L with
  | nil => simp at ha
  | cons x r ih =>
    obtain ⟨r1, r2⟩ := List.pairwise_cons.1 hr
    unfold lessO
    rw [List.filter_cons]
    rcases List.mem_cons.1 ha with rfl | ha
    · rw [if_neg (by simp)]
      have : (r.filter fun x => decide (x.1 ≠ a)) = r := List.filter_eq_self.2 fun y hy => by have h9 : a < y.1 := r1 y hy; simp; omega
      rw [this]
      rfl
    · have hx : x.1 < a := r1 _ ha
      rw [if_pos (by simp; omega)]
      have := ih r2 ha
      unfold lessO at this
      simp only [List.length_cons]
      omega
theorem ObjD.size_less {D : DataW Unit} {L : List Ob} (h : ObjD D L) (ht : Tidy D) {a : Nat} {b : List UInt8} (hr : L.Pairwise fun x y => x.1 < y.1) (ha : (a, b) ∈ L) (hw : (Lit.int .i64 (a : Int)).wf = true) (hs : Maps.size D = L.length) : Maps.size (D.del (.int .i64 (a : Int))) = (lessO L a).length := by
  have h1 := Maps.size_del (k := .int .i64 (a : Int)) ht
  have h2 : Maps.has D (.int .i64 (a : Int)) = true := by
    rw [(h _ hw).1]
    exact getO_isSome.2 ⟨_, ha, rfl⟩
  have h3 := lessO_len hr ha
  rw [h2, hs] at h1
  simp only [if_true] at h1
  omega

/-! ### gone over: whoever is still to come -/
def kO (x : Ob) : Lit := .int .i64 (x.1 : Int)
theorem kO_same {x y : Ob} (hw : (kO y).wf = true) : (kO x).sameKey (kO y) = decide (x.1 = y.1) := by
  by_cases e : x.1 = y.1
  · rw [decide_eq_true e]
    have : kO x = kO y := by unfold kO; rw [e]
    rw [this]
    exact WideAt.sameKey_self (keyedIO.key (keyN hw))
  · rw [decide_eq_false e]
    exact Maps.sameKey_ne fun h => e (by simp only [kO, Lit.int.injEq, true_and] at h; exact Int.ofNat.inj h)
/-- the bytes of those that have come -/
def cameO (L : List Ob) (left : Lit → Bool) : Nat := sizeO (L.filter fun x => !left (kO x))
theorem cameO_step {L : List Ob} {left : Lit → Bool} {x : Ob} (hr : L.Pairwise fun x y => x.1 < y.1) (hx : x ∈ L) (hw : (kO x).wf = true) (hl : left (kO x) = true) : cameO L (fun z => left z && !z.sameKey (kO x)) = cameO L left + x.2.length := by
  unfold cameO
  induction L with
  | nil => simp at hx
  | cons y r ih =>
    obtain ⟨r1, r2⟩ := List.pairwise_cons.1 hr
    rw [List.filter_cons, List.filter_cons]
    rcases List.mem_cons.1 hx with rfl | hx
    · have e1 : (kO x).sameKey (kO x) = true := by rw [kO_same hw]; simp
      rw [if_pos (by simp [e1]), if_neg (by simp [hl])]
      have e2 : (r.filter fun y => !(left (kO y) && !(kO y).sameKey (kO x))) = r.filter fun y => !left (kO y) := by
        refine List.filter_congr fun y hy => ?_
        have := r1 y hy
        rw [kO_same hw, decide_eq_false (by omega)]
        simp
      rw [e2]
      simp [sizeO]
      omega
    · have h9 := r1 x hx
      have ih' := ih r2 hx
      have e1 : (kO y).sameKey (kO x) = false := by rw [kO_same hw]; simp; omega
      simp only [e1, Bool.not_false, Bool.and_true]
      by_cases hy : left (kO y) = true
      · simp only [hy, Bool.not_true, Bool.false_eq_true, if_false]
        exact ih'
      · have hy' : left (kO y) = false := by simpa using hy
        simp only [hy', Bool.not_false, if_true]
        simp only [sizeO, List.map_cons, List.sum_cons] at ih' ⊢
        omega
theorem cameO_start {L : List Ob} {left : Lit → Bool} (h : ∀ x ∈ L, left (kO x) = true) : cameO L left = 0 := by
  unfold cameO
  rw [List.filter_eq_nil_iff.2 fun x hx => by simp [h x hx]]
  rfl
theorem cameO_end {L : List Ob} {left : Lit → Bool} (h : ∀ k, left k = false) : cameO L left = sizeO L := by
  unfold cameO
  rw [List.filter_eq_self.2 fun x hx => by simp [h]]
/-- those that are still there: kept, or still to come -/
def stayO (L : List Ob) (ids : List Int) (left : Lit → Bool) : List Ob := L.filter fun x => left (kO x) || ids.contains (x.1 : Int)
theorem stayO_start {L : List Ob} {ids : List Int} {left : Lit → Bool} (h : ∀ x ∈ L, left (kO x) = true) : stayO L ids left = L :=
  List.filter_eq_self.2 fun x hx => by simp [h x hx]
theorem stayO_end {L : List Ob} {ids : List Int} {left : Lit → Bool} (h : ∀ k, left k = false) : stayO L ids left = keepO L ids := by
  unfold stayO keepO
  refine List.filter_congr fun x _ => by simp [h]
theorem stayO_kept {L : List Ob} {ids : List Int} {left : Lit → Bool} {x : Ob} (hw : (kO x).wf = true) (hi : ids.contains (x.1 : Int) = true) : stayO L ids (fun z => left z && !z.sameKey (kO x)) = stayO L ids left := by
  unfold stayO
  refine List.filter_congr fun y _ => ?_
  dsimp only
  rw [kO_same hw]
  by_cases e : y.1 = x.1
  · rw [e, hi]; simp
  · simp [e]
theorem stayO_less {L : List Ob} {ids : List Int} {left : Lit → Bool} {x : Ob} (hw : (kO x).wf = true) (hi : ids.contains (x.1 : Int) = false) : stayO L ids (fun z => left z && !z.sameKey (kO x)) = lessO (stayO L ids left) x.1 := by
  unfold stayO lessO
  rw [List.filter_filter]
  refine List.filter_congr fun y _ => ?_
  dsimp only
  rw [kO_same hw]
  by_cases e : y.1 = x.1
  · rw [e, hi]; simp
  · simp [e]
theorem stayO_sub {L : List Ob} {ids : List Int} {left : Lit → Bool} : List.Sublist (stayO L ids left) L := List.filter_sublist
end Go.Proofs.YtpdieckoemfebaeDoor
