import Derived.Test.YtnphjdckdkjopaaGreatDoorMA0x0
import Derived.Maps.OwnSet
import Derived.Maps.RangeWalk
import Derived.Maps.StringElems
import Derived.StringKeys
import Derived.Test.YtnphjdckdkjopaaGreatDoorMA0x1
import Derived.Lib.AppendZeros
import Derived.Deep.Upon
import Derived.Test.YtnphjdckdkjopaaGreatDoorMA0x4
import Derived.Test.YtnphjdckdkjopaaGreatDoorMA0x6

/- A store's face: what the laws ask of the program's store, whatever it is made of. -/
namespace Go.Proofs.YtnphjdckdkjopaaGreatDoor
open Go Go.RowKit Go.Proofs
set_option synthInstance.maxSize 1000

def getE (L : List Ob) (id : Int) : Int := if (getO L id).isSome = true then 0 else 5
def getB (L : List Ob) (id : Int) : List UInt8 := (getO L id).getD []
def findE (L : List Ob) (b : List UInt8) : Int := if findO L b = 0 then 5 else 0
def idsO (L : List Ob) : List Int := L.map fun x => (x.1 : Int)

/-- the program's store: where it lies, which blocks it owns, and what its calls answer; texts of up to 'lim' bytes -/
structure Face where
  lim : Nat
  At : World → Nat → (Nat → Prop) → Nat → List Ob → Prop
  own : ∀ {w : World} {s : Nat} {O : Nat → Prop} {n : Nat} {L : List Ob}, At w s O n L → ∀ j, O j → j < w.heap.size
  keep : ∀ {w w' : World} {s : Nat} {O : Nat → Prop} {n : Nat} {L : List Ob}, At w s O n L → (∀ j, O j → w'.heap[j]? = w.heap[j]?) → At w' s O n L
  new : ∀ w : World, Calls Tryz.prog 42 #[] w fun e w' => ∃ (s : Nat) (O : Nat → Prop), e = .returned (.pointer (some ⟨s, 0, none⟩)) ∧ At w' s O 0 [] ∧ RowKit.Below w.heap.size w w' ∧ ∀ j, O j → w.heap.size ≤ j
  put : ∀ (w : World) (s : Nat) (O : Nat → Prop) (n : Nat) (L : List Ob) (b : List UInt8), At w s O n L → GoodO n L → n ≤ 1000000 → b.length ≤ lim →
    Calls Tryz.prog 164 #[.pointer (some ⟨s, 0, none⟩), .string ⟨b.toArray⟩] w fun e w' => e = .returned (.tuple #[.int .i64 (putI n L b : Int), errV (putE L b)]) ∧ ∃ O' : Nat → Prop, At w' s O' (putM n L b) (putL n L b) ∧ Offs O w w' ∧ ∀ j, O' j → O j ∨ w.heap.size ≤ j
  get : ∀ (w : World) (s : Nat) (O : Nat → Prop) (n : Nat) (L : List Ob) (id : Int), At w s O n L → GoodO n L →
    Calls Tryz.prog 88 #[.pointer (some ⟨s, 0, none⟩), .int .i64 id] w fun e w' => e = .returned (.tuple #[.string ⟨(getB L id).toArray⟩, errV (getE L id)]) ∧ RowKit.Below w.heap.size w w'
  find : ∀ (w : World) (s : Nat) (O : Nat → Prop) (n : Nat) (L : List Ob) (b : List UInt8), At w s O n L → GoodO n L → b.length ≤ lim →
    Calls Tryz.prog 191 #[.pointer (some ⟨s, 0, none⟩), .string ⟨b.toArray⟩] w fun e w' => e = .returned (.tuple #[.int .i64 (findO L b : Int), errV (findE L b)]) ∧ RowKit.Below w.heap.size w w'
  len : ∀ (w : World) (s : Nat) (O : Nat → Prop) (n : Nat) (L : List Ob), At w s O n L → GoodO n L →
    Calls Tryz.prog 218 #[.pointer (some ⟨s, 0, none⟩)] w fun e w' => e = .returned (.int .i64 (L.length : Int)) ∧ RowKit.Below w.heap.size w w'

theorem Face.below (F : Face) {w w' : World} {s : Nat} {O : Nat → Prop} {n : Nat} {L : List Ob} (h : F.At w s O n L) (hb : RowKit.Below w.heap.size w w') : F.At w' s O n L := F.keep h fun j hj => hb.block j (F.own h j hj)

/-- the program's store alone -/
def SB (F : Face) (w0 : World) (s n : Nat) (L : List Ob) (W : World) : Prop := ∃ O : Nat → Prop, F.At W s O n L ∧ RowKit.Below w0.heap.size w0 W ∧ ∀ j, O j → w0.heap.size ≤ j
theorem SB.below {F : Face} {w0 : World} {s n : Nat} {L : List Ob} {W W' : World} (h : SB F w0 s n L W) (hb : RowKit.Below W.heap.size W W') : SB F w0 s n L W' := by
  obtain ⟨O, h1, h2, h3⟩ := h
  exact ⟨O, F.below h1 hb, bstep h2 hb, h3⟩
theorem SB.low {F : Face} {w0 : World} {s n : Nat} {L : List Ob} {W : World} (h : SB F w0 s n L W) : RowKit.Below w0.heap.size w0 W := by
  obtain ⟨O, h1, h2, h3⟩ := h
  exact h2
theorem SB.put {F : Face} {w0 : World} {s n : Nat} {L : List Ob} {W : World} (b : List UInt8) (h : SB F w0 s n L W) (hg : GoodO n L) (hn : n ≤ 1000000) (hb : b.length ≤ F.lim) :
    Calls Tryz.prog 164 #[.pointer (some ⟨s, 0, none⟩), .string ⟨b.toArray⟩] W fun e W' => e = .returned (.tuple #[.int .i64 (putI n L b : Int), errV (putE L b)]) ∧ SB F w0 s (putM n L b) (putL n L b) W' := by
  obtain ⟨O, h1, h2, h3⟩ := h
  refine (F.put W s O n L b h1 hg hn hb).mono ?_
  rintro e W' ⟨rfl, O', hA, ho, hj⟩
  refine ⟨rfl, O', hA, h2.trans (ho.below h3 h2.size), fun j hj' => ?_⟩
  rcases hj j hj' with h | h
  · exact h3 j h
  · exact Nat.le_trans h2.size h
theorem SB.len {F : Face} {w0 : World} {s n : Nat} {L : List Ob} {W : World} (h : SB F w0 s n L W) (hg : GoodO n L) :
    Calls Tryz.prog 218 #[.pointer (some ⟨s, 0, none⟩)] W fun e W' => e = .returned (.int .i64 (L.length : Int)) ∧ RowKit.Below W.heap.size W W' := by
  obtain ⟨O, h1, h2, h3⟩ := h
  exact F.len W s O n L h1 hg
end Go.Proofs.YtnphjdckdkjopaaGreatDoor

/- Objects by number and numbers by object: two maps that stand for a store's list; look-ups, one more, one less, gone over. -/
namespace Go.Proofs.YtnphjdckdkjopaaGreatDoor
open Go Go.RowKit Go.Proofs Go.Maps
set_option synthInstance.maxSize 1000

theorem wfO {n : Int} (h0 : -9223372036854775808 ≤ n) (h1 : n ≤ 9223372036854775807) : (Lit.int .i64 n).wf = true := by
  have a : IntKind.i64.min = -9223372036854775808 := by decide
  have b : IntKind.i64.max = 9223372036854775807 := by decide
  simp only [Lit.wf, a, b, Bool.and_eq_true, decide_eq_true_eq]; omega
theorem keyedIO : Keyed Tryz.prog 3 := int_keyed Tryz.underlying3
theorem keyedSO : Keyed Tryz.prog 9 := string_keyed Tryz.underlying9
theorem keyS (t : List UInt8) (h : t.length ≤ maxLen) : keyOf Tryz.prog 9 (.string ⟨t.toArray⟩) = some (.string t) := by
  have := Go.WideMaps.keyOf_string_mk (P := Tryz.prog) (k := 9) Tryz.underlying9 (s := ⟨t.toArray⟩) (by simpa [ByteArray.size] using h)
  simpa using this
theorem keyN {n : Int} (h : (Lit.int .i64 n).wf = true) : keyOf Tryz.prog 3 (.int .i64 n) = some (.int .i64 n) := keyOf_int_mk Tryz.underlying3 h

/-- an object as the map has it: a struct of one text -/
def encOb (b : List UInt8) : DataW Unit := .agg [.lit (.string b)]
def valOb (b : List UInt8) : Value := .agg #[.string ⟨b.toArray⟩]
def objElem (v : Value) : Option (DataW Unit × List MemPlace) :=
  match v with
  | .agg cs => match cs.toList with
    | [.string S] => some (encOb S.data.toList, [])
    | _ => none
  | _ => none
theorem objElem_mk (b : List UInt8) : objElem (valOb b) = some (encOb b, []) := by simp [objElem, valOb]
theorem encOb_inj {x y : List UInt8} (h : encOb x = encOb y) : x = y := by
  simpa [encOb] using h
theorem objElem_form {v : Value} {y : DataW Unit × List MemPlace} (h : objElem v = some y) : ∃ b, v = valOb b ∧ y = (encOb b, []) := by
  unfold objElem at h
  split at h
  · rename_i cs
    split at h
    · rename_i S hcs
      obtain ⟨l, rfl⟩ : ∃ l : List Value, cs = l.toArray := ⟨cs.toList, by simp⟩
      simp at hcs
      subst hcs
      simp only [Option.some.injEq] at h
      exact ⟨S.data.toList, by simp [valOb], h.symm⟩
    · cases h
  · cases h
theorem objElem_inv {v : Value} {b : List UInt8} {ps : List MemPlace} (h : objElem v = some (encOb b, ps)) : v = valOb b := by
  obtain ⟨c, rfl, e⟩ := objElem_form h
  simp only [Prod.mk.injEq] at e
  rw [encOb_inj e.1]

/-- the numbers by object -/
def NumD (D : DataW Unit) (L : List Ob) : Prop := ∀ t : List UInt8, t.length ≤ maxLen → Maps.has D (.string t) = decide (findO L t ≠ 0) ∧ D.atKey (.string t) (.lit (.int .i64 0)) = .lit (.int .i64 (findO L t : Int))
/-- the objects by number -/
def ObjD (D : DataW Unit) (L : List Ob) : Prop := ∀ n : Int, (Lit.int .i64 n).wf = true → Maps.has D (.int .i64 n) = (getO L n).isSome ∧ D.atKey (.int .i64 n) (encOb []) = encOb ((getO L n).getD [])

theorem NumD.nil : NumD (.map []) [] := fun t _ => ⟨by simp [Maps.has_eq, findO], by simp [DataW.atKey, findO]⟩
theorem ObjD.nil : ObjD (.map []) [] := fun n _ => ⟨by simp [Maps.has_eq, getO], by simp [DataW.atKey, getO]⟩

theorem findO_snoc {L : List Ob} {n : Nat} {b t : List UInt8} (hn : findO L b = 0) (hl : ∀ x ∈ L, 1 ≤ x.1) : findO (L ++ [(n + 1, b)]) t = if t = b then n + 1 else findO L t := by
  induction L with
  | nil =>
    simp only [List.nil_append, findO]
    by_cases e : t = b
    · rw [if_pos e.symm, if_pos e]
    · rw [if_neg (fun h => e h.symm), if_neg e]
  | cons x r ih =>
    have hx := hl x (by simp)
    simp only [List.cons_append, findO]
    unfold findO at hn
    by_cases e : x.2 = b
    · rw [if_pos e] at hn; omega
    · rw [if_neg e] at hn
      rw [ih hn fun y hy => hl y (List.mem_cons_of_mem _ hy)]
      by_cases e2 : x.2 = t
      · rw [if_pos e2, if_pos e2, if_neg (fun h => e (e2.trans h))]
      · rw [if_neg e2, if_neg e2]
theorem getO_snoc {L : List Ob} {n : Nat} {b : List UInt8} {z : Int} (hl : ∀ x ∈ L, x.1 ≤ n) : getO (L ++ [(n + 1, b)]) z = if z = ((n + 1 : Nat) : Int) then some b else getO L z := by
  induction L with
  | nil =>
    simp only [List.nil_append, getO]
    by_cases e : z = ((n + 1 : Nat) : Int)
    · rw [if_pos e.symm, if_pos e]
    · rw [if_neg (fun h => e h.symm), if_neg e]
  | cons x r ih =>
    have hx := hl x (by simp)
    simp only [List.cons_append, getO]
    rw [ih fun y hy => hl y (List.mem_cons_of_mem _ hy)]
    by_cases e2 : (x.1 : Int) = z
    · rw [if_pos e2, if_pos e2, if_neg (by omega)]
    · rw [if_neg e2, if_neg e2]
/-- one more -/
theorem NumD.put {D : DataW Unit} {L : List Ob} (h : NumD D L) (hm : IsMap D) {n : Nat} {b : List UInt8} (hn : findO L b = 0) (hl : ∀ x ∈ L, 1 ≤ x.1) (hb : b.length ≤ maxLen) : NumD (D.put (.string b) (.lit (.int .i64 ((n + 1 : Nat) : Int)))) (L ++ [(n + 1, b)]) := by
  intro t ht
  rw [findO_snoc hn hl]
  by_cases e : t = b
  · subst e
    have hk := keyedSO.key (keyS t hb)
    rw [Maps.has_put_same hm hk, Maps.atKey_put_same hm hk, if_pos rfl]
    exact ⟨by simp, rfl⟩
  · have hne : (Lit.string t) ≠ (Lit.string b) := fun e' => e (by simpa using e')
    rw [Maps.has_put_other hne, Maps.atKey_put_other hne, if_neg e]
    exact h t ht
theorem ObjD.put {D : DataW Unit} {L : List Ob} (h : ObjD D L) (hm : IsMap D) {n : Nat} {b : List UInt8} (hl : ∀ x ∈ L, x.1 ≤ n) : ObjD (D.put (.int .i64 ((n + 1 : Nat) : Int)) (encOb b)) (L ++ [(n + 1, b)]) := by
  intro z hz
  rw [getO_snoc hl]
  by_cases e : z = ((n + 1 : Nat) : Int)
  · subst e
    have hk := keyedIO.key (keyN hz)
    rw [Maps.has_put_same hm hk, Maps.atKey_put_same hm hk, if_pos rfl]
    exact ⟨rfl, rfl⟩
  · have hne : (Lit.int .i64 z) ≠ (Lit.int .i64 ((n + 1 : Nat) : Int)) := fun e' => e (by simpa using e')
    rw [Maps.has_put_other hne, Maps.atKey_put_other hne, if_neg e]
    exact h z hz
theorem ObjD.size_put {D : DataW Unit} {L : List Ob} (h : ObjD D L) (ht : Tidy D) {n : Nat} {b : List UInt8} (hl : ∀ x ∈ L, x.1 ≤ n) (hn : n ≤ 1000000) (hs : Maps.size D = L.length) : Maps.size (D.put (.int .i64 ((n + 1 : Nat) : Int)) (encOb b)) = (L ++ [(n + 1, b)]).length := by
  have hno : Maps.has D (.int .i64 ((n + 1 : Nat) : Int)) = false := by
    rw [(h _ (wfO (by omega) (by omega))).1, getO_none fun x hx => by have := hl x hx; omega]
    rfl
  rw [Maps.size_put ht, hno, hs]
  simp

/-- one less: the object of number a -/
def lessO (L : List Ob) (a : Nat) : List Ob := L.filter fun x => decide (x.1 ≠ a)
theorem findO_less {L : List Ob} {a : Nat} {b t : List UInt8} (ho : L.Pairwise fun x y => x.2 ≠ y.2) (ha : (a, b) ∈ L) (hr : L.Pairwise fun x y => x.1 < y.1) : findO (lessO L a) t = if t = b then 0 else findO L t := by
  by_cases e : t = b
  · rw [if_pos e]
    refine findO_none fun x hx => ?_
    obtain ⟨h1, h2⟩ := List.mem_filter.1 hx
    intro e2
    have q1 := findO_in ho h1
    have q2 := findO_in ho ha
    have q3 : x.1 = a := by
      rw [← q1, e2, e]
      exact q2
    simp [q3] at h2
  · rw [if_neg e]
    clear ho
    induction L with
    | nil => rfl
    | cons x r ih =>
      obtain ⟨r1, r2⟩ := List.pairwise_cons.1 hr
      unfold lessO
      rw [List.filter_cons]
      rcases List.mem_cons.1 ha with rfl | ha
      · rw [if_neg (by simp)]
        have : (r.filter fun x => decide (x.1 ≠ a)) = r := List.filter_eq_self.2 fun y hy => by have h9 : a < y.1 := r1 y hy; simp; omega
        rw [this]
        conv => rhs; unfold findO
        rw [if_neg (fun h => e h.symm)]
      · have hx : x.1 < a := r1 _ ha
        rw [if_pos (by simp; omega)]
        unfold findO
        have := ih ha r2
        unfold lessO at this
        rw [this]
theorem getO_less {L : List Ob} {a : Nat} {z : Int} : getO (lessO L a) z = if z = (a : Int) then none else getO L z := by
  by_cases e : z = (a : Int)
  · rw [if_pos e]
    refine getO_none fun x hx => ?_
    obtain ⟨h1, h2⟩ := List.mem_filter.1 hx
    simp at h2
    omega
  · rw [if_neg e]
    induction L with
    | nil => rfl
    | cons x r ih =>
      unfold lessO
      rw [List.filter_cons]
      unfold lessO at ih
      split
      · unfold getO
        rw [ih]
      · rename_i h
        simp at h
        rw [ih]
        conv => rhs; unfold getO
        rw [if_neg (by omega)]
theorem NumD.less {D : DataW Unit} {L : List Ob} (h : NumD D L) {a : Nat} {b : List UInt8} (ho : L.Pairwise fun x y => x.2 ≠ y.2) (hr : L.Pairwise fun x y => x.1 < y.1) (ha : (a, b) ∈ L) : NumD (D.del (.string b)) (lessO L a) := by
  intro t ht
  rw [findO_less ho ha hr]
  by_cases e : t = b
  · subst e
    rw [Maps.has_del_same, Maps.atKey_del_same, if_pos rfl]
    exact ⟨by simp, rfl⟩
  · have hne : (Lit.string t) ≠ (Lit.string b) := fun e' => e (by simpa using e')
    rw [Maps.has_del_other hne, Maps.atKey_del_other hne, if_neg e]
    exact h t ht
theorem ObjD.less {D : DataW Unit} {L : List Ob} (h : ObjD D L) (a : Nat) : ObjD (D.del (.int .i64 (a : Int))) (lessO L a) := by
  intro z hz
  rw [getO_less]
  by_cases e : z = (a : Int)
  · subst e
    rw [Maps.has_del_same, Maps.atKey_del_same, if_pos rfl]
    exact ⟨rfl, rfl⟩
  · have hne : (Lit.int .i64 z) ≠ (Lit.int .i64 (a : Int)) := fun e' => e (by simpa using e')
    rw [Maps.has_del_other hne, Maps.atKey_del_other hne, if_neg e]
    exact h z hz
theorem getO_isSome {L : List Ob} {z : Int} : (getO L z).isSome = true ↔ ∃ x ∈ L, (x.1 : Int) = z := by
  constructor
  · intro h
    obtain ⟨b, hb⟩ := Option.isSome_iff_exists.1 h
    obtain ⟨x, hx, e, _⟩ := getO_some hb
    exact ⟨x, hx, e⟩
  · rintro ⟨x, hx, e⟩
    cases hg : getO L z with
    | some b => rfl
    | none =>
      exfalso
      induction L with
      | nil => simp at hx
      | cons y r ih =>
        unfold getO at hg
        split at hg
        · cases hg
        · rename_i hne
          rcases List.mem_cons.1 hx with rfl | hx
          · exact hne e
          · exact ih hx hg
theorem lessO_len {L : List Ob} {a : Nat} {b : List UInt8} (hr : L.Pairwise fun x y => x.1 < y.1) (ha : (a, b) ∈ L) : (lessO L a).length + 1 = L.length := by
  induction L with
  | nil => simp at ha
  | cons x r ih =>
    obtain ⟨r1, r2⟩ := List.pairwise_cons.1 hr
    unfold lessO
    rw [List.filter_cons]
    rcases List.mem_cons.1 ha with rfl | ha
    · rw [if_neg (by simp)]
      have : (r.filter fun x => decide (x.1 ≠ a)) = r := List.filter_eq_self.2 fun y hy => by have h9 : a < y.1 := r1 y hy; simp; omega
      rw [this]
      rfl
    · have hx : x.1 < a := r1 _ ha
      rw [if_pos (by simp; omega)]
      have := ih r2 ha
      unfold lessO at this
      simp only [List.length_cons]
      omega
theorem ObjD.size_less {D : DataW Unit} {L : List Ob} (h : ObjD D L) (ht : Tidy D) {a : Nat} {b : List UInt8} (hr : L.Pairwise fun x y => x.1 < y.1) (ha : (a, b) ∈ L) (hw : (Lit.int .i64 (a : Int)).wf = true) (hs : Maps.size D = L.length) : Maps.size (D.del (.int .i64 (a : Int))) = (lessO L a).length := by
  have h1 := Maps.size_del (k := .int .i64 (a : Int)) ht
  have h2 : Maps.has D (.int .i64 (a : Int)) = true := by
    rw [(h _ hw).1]
    exact getO_isSome.2 ⟨_, ha, rfl⟩
  have h3 := lessO_len hr ha
  rw [h2, hs] at h1
  simp only [if_true] at h1
  omega

/-! ### gone over: whoever is still to come -/
def kO (x : Ob) : Lit := .int .i64 (x.1 : Int)
theorem kO_same {x y : Ob} (hw : (kO y).wf = true) : (kO x).sameKey (kO y) = decide (x.1 = y.1) := by
  by_cases e : x.1 = y.1
  · rw [decide_eq_true e]
    have : kO x = kO y := by unfold kO; rw [e]
    rw [this]
    exact WideAt.sameKey_self (keyedIO.key (keyN hw))
  · rw [decide_eq_false e]
    exact Maps.sameKey_ne fun h => e (by simp only [kO, Lit.int.injEq, true_and] at h; exact Int.ofNat.inj h)
/-- the bytes of those that have come -/
def cameO (L : List Ob) (left : Lit → Bool) : Nat := sizeO (L.filter fun x => !left (kO x))
theorem cameO_step {L : List Ob} {left : Lit → Bool} {x : Ob} (hr : L.Pairwise fun x y => x.1 < y.1) (hx : x ∈ L) (hw : (kO x).wf = true) (hl : left (kO x) = true) : cameO L (fun z => left z && !z.sameKey (kO x)) = cameO L left + x.2.length := by
  unfold cameO
  induction L with
  | nil => simp at hx
  | cons y r ih =>
    obtain ⟨r1, r2⟩ := List.pairwise_cons.1 hr
    rw [List.filter_cons, List.filter_cons]
    rcases List.mem_cons.1 hx with rfl | hx
    · have e1 : (kO x).sameKey (kO x) = true := by rw [kO_same hw]; simp
      rw [if_pos (by simp [e1]), if_neg (by simp [hl])]
      have e2 : (r.filter fun y => !(left (kO y) && !(kO y).sameKey (kO x))) = r.filter fun y => !left (kO y) := by
        refine List.filter_congr fun y hy => ?_
        have := r1 y hy
        rw [kO_same hw, decide_eq_false (by omega)]
        simp
      rw [e2]
      simp [sizeO]
      omega
    · have h9 := r1 x hx
      have ih' := ih r2 hx
      have e1 : (kO y).sameKey (kO x) = false := by rw [kO_same hw]; simp; omega
      simp only [e1, Bool.not_false, Bool.and_true]
      by_cases hy : left (kO y) = true
      · simp only [hy, Bool.not_true, Bool.false_eq_true, if_false]
        exact ih'
      · have hy' : left (kO y) = false := by simpa using hy
        simp only [hy', Bool.not_false, if_true]
        simp only [sizeO, List.map_cons, List.sum_cons] at ih' ⊢
        omega
theorem cameO_start {L : List Ob} {left : Lit → Bool} (h : ∀ x ∈ L, left (kO x) = true) : cameO L left = 0 := by
  unfold cameO
  rw [List.filter_eq_nil_iff.2 fun x hx => by simp [h x hx]]
  rfl
theorem cameO_end {L : List Ob} {left : Lit → Bool} (h : ∀ k, left k = false) : cameO L left = sizeO L := by
  unfold cameO
  rw [List.filter_eq_self.2 fun x hx => by simp [h]]
/-- those that are still there: kept, or still to come -/
def stayO (L : List Ob) (ids : List Int) (left : Lit → Bool) : List Ob := L.filter fun x => left (kO x) || ids.contains (x.1 : Int)
theorem stayO_start {L : List Ob} {ids : List Int} {left : Lit → Bool} (h : ∀ x ∈ L, left (kO x) = true) : stayO L ids left = L :=
  List.filter_eq_self.2 fun x hx => by simp [h x hx]
theorem stayO_end {L : List Ob} {ids : List Int} {left : Lit → Bool} (h : ∀ k, left k = false) : stayO L ids left = keepO L ids := by
  unfold stayO keepO
  refine List.filter_congr fun x _ => by simp [h]
theorem stayO_kept {L : List Ob} {ids : List Int} {left : Lit → Bool} {x : Ob} (hw : (kO x).wf = true) (hi : ids.contains (x.1 : Int) = true) : stayO L ids (fun z => left z && !z.sameKey (kO x)) = stayO L ids left := by
  unfold stayO
  refine List.filter_congr fun y _ => ?_
  dsimp only
  rw [kO_same hw]
  by_cases e : y.1 = x.1
  · rw [e, hi]; simp
  · simp [e]
theorem stayO_less {L : List Ob} {ids : List Int} {left : Lit → Bool} {x : Ob} (hw : (kO x).wf = true) (hi : ids.contains (x.1 : Int) = false) : stayO L ids (fun z => left z && !z.sameKey (kO x)) = lessO (stayO L ids left) x.1 := by
  unfold stayO lessO
  rw [List.filter_filter]
  refine List.filter_congr fun y _ => ?_
  dsimp only
  rw [kO_same hw]
  by_cases e : y.1 = x.1
  · rw [e, hi]; simp
  · simp [e]
theorem stayO_sub {L : List Ob} {ids : List Int} {left : Lit → Bool} : List.Sublist (stayO L ids left) L := List.filter_sublist
end Go.Proofs.YtnphjdckdkjopaaGreatDoor

/- The program's store in memory; New, Len, Find, Get, has: what they tell. -/
namespace Go.Proofs.YtnphjdckdkjopaaGreatDoor
open Go Go.RowKit Go.Proofs Go.Maps
set_option synthInstance.maxSize 1000

/-- the store at block s: its two maps, and the last number -/
structure SAt (w : World) (s b1 b2 n : Nat) (L : List Ob) : Prop where
  ne : b1 ≠ b2
  n1 : s ≠ b1
  n2 : s ≠ b2
  c0 : w.cell? ⟨s, 0, none⟩ = some (.map (some b1))
  c1 : w.cell? ⟨s, 1, none⟩ = some (.map (some b2))
  c2 : w.cell? ⟨s, 2, none⟩ = some (.int .i64 (n : Int))
  fz : w.frozen? ⟨s, 2, none⟩ = false
  two : ∃ D1 D2 : DataW Unit, w.ownsMap Tryz.prog 9 (plainElem Tryz.prog 3) b1 n D1 ∧ w.ownsMap Tryz.prog 3 objElem b2 n D2 ∧ NumD D1 L ∧ ObjD D2 L ∧ Maps.size D2 = L.length
  short : ∀ x ∈ L, x.2.length ≤ reachBytes
  big : n ≤ 1000001

theorem ownsMap_block {H : Type} {R : Value → Option (DataW H × List MemPlace)} {k : TypeId} {w w' : World} {b n : Nat} {D : DataW H} (h : w.ownsMap Tryz.prog k R b n D) (hb : w'.heap[b]? = w.heap[b]?) : w'.ownsMap Tryz.prog k R b n D := by
  obtain ⟨es, clock, hm, r⟩ := h
  exact ⟨es, clock, hb.trans hm, r⟩
theorem SAt.kept {w w' : World} {s b1 b2 n : Nat} {L : List Ob} (h : SAt w s b1 b2 n L) (hs : w'.heap[s]? = w.heap[s]?) (h1 : w'.heap[b1]? = w.heap[b1]?) (h2 : w'.heap[b2]? = w.heap[b2]?) : SAt w' s b1 b2 n L := by
  obtain ⟨D1, D2, o1, o2, r⟩ := h.two
  exact ⟨h.ne, h.n1, h.n2, (World.cell?_of_block (w := w) hs).trans h.c0, (World.cell?_of_block (w := w) hs).trans h.c1, (World.cell?_of_block (w := w) hs).trans h.c2, (World.frozen?_of_block (w := w) hs).trans h.fz, ⟨D1, D2, ownsMap_block o1 h1, ownsMap_block o2 h2, r⟩, h.short, h.big⟩
theorem SAt.lts {w : World} {s b1 b2 n : Nat} {L : List Ob} (h : SAt w s b1 b2 n L) : s < w.heap.size := World.block_lt_of_cell? w _ h.c0
theorem SAt.lt1 {w : World} {s b1 b2 n : Nat} {L : List Ob} (h : SAt w s b1 b2 n L) : b1 < w.heap.size := by
  obtain ⟨D1, D2, o1, o2, r⟩ := h.two
  exact o1.lt
theorem SAt.lt2 {w : World} {s b1 b2 n : Nat} {L : List Ob} (h : SAt w s b1 b2 n L) : b2 < w.heap.size := by
  obtain ⟨D1, D2, o1, o2, r⟩ := h.two
  exact o2.lt
theorem SAt.below {w w' : World} {s b1 b2 n : Nat} {L : List Ob} (h : SAt w s b1 b2 n L) (hb : RowKit.Below w.heap.size w w') : SAt w' s b1 b2 n L :=
  h.kept (hb.block s h.lts) (hb.block b1 h.lt1) (hb.block b2 h.lt2)

def ownO (s b1 b2 : Nat) (j : Nat) : Prop := j = s ∨ j = b1 ∨ j = b2
def StoreAt (w : World) (s : Nat) (O : Nat → Prop) (n : Nat) (L : List Ob) : Prop := ∃ b1 b2, SAt w s b1 b2 n L ∧ ∀ j, O j ↔ ownO s b1 b2 j

theorem makeNums (w : World) : (Instr.makeMap 82 none).run Tryz.prog w = .ok (.map (some w.heap.size)) (w.alloc (.map #[] 0)) := by kernel_rfl
theorem makeObjs (w : World) : (Instr.makeMap 123 none).run Tryz.prog w = .ok (.map (some w.heap.size)) (w.alloc (.map #[] 0)) := by kernel_rfl
theorem zeroNum (w : World) : (zeroValue 3).run Tryz.prog w = .ok (.int .i64 0) w := by kernel_rfl
theorem zeroObj (w : World) : (zeroValue 168).run Tryz.prog w = .ok (valOb []) w := by kernel_rfl

/-- a look-up in either map -/
theorem look_num {w : World} {s b1 b2 n : Nat} {L : List Ob} (h : SAt w s b1 b2 n L) (t : List UInt8) (ht : t.length ≤ maxLen) :
    (Instr.lookup 82 (.map (some b1)) (.string ⟨t.toArray⟩) true).run Tryz.prog w = .ok (.tuple #[.int .i64 (findO L t : Int), .bool (decide (findO L t ≠ 0))]) w := by
  obtain ⟨D1, D2, o1, o2, f1, f2, hs⟩ := h.two
  obtain ⟨v, ps, hrun, hv⟩ := o1.look_ok keyedSO Tryz.underlying82 (zeroNum w) (plainElem_int Tryz.underlying3 (by decide)) (keyS t ht)
  rw [(f1 t ht).2] at hv
  obtain ⟨a, rfl, ha, _⟩ := plainElem_int_inv Tryz.underlying3 hv
  simp only [Prod.mk.injEq, DataW.lit.injEq, Lit.int.injEq, true_and] at ha
  rw [hrun, (f1 t ht).1, ha.1]
theorem not_wf {z : Int} (hz : (Lit.int .i64 z).wf ≠ true) {n : Nat} (hn : n ≤ 1000001) : ∀ x : Ob, 1 ≤ x.1 ∧ x.1 ≤ n → (x.1 : Int) ≠ z := fun x hx e => hz (by rw [← e]; exact wfO (by omega) (by omega))
theorem look_obj {w : World} {s b1 b2 n : Nat} {L : List Ob} (h : SAt w s b1 b2 n L) (hg : ∀ x ∈ L, 1 ≤ x.1 ∧ x.1 ≤ n) (z : Int) :
    (Instr.lookup 123 (.map (some b2)) (.int .i64 z) true).run Tryz.prog w = .ok (.tuple #[valOb ((getO L z).getD []), .bool (getO L z).isSome]) w := by
  obtain ⟨D1, D2, o1, o2, f1, f2, hs⟩ := h.two
  by_cases hz : (Lit.int .i64 z).wf = true
  · obtain ⟨v, ps, hrun, hv⟩ := o2.look_ok keyedIO Tryz.underlying123 (zeroObj w) (objElem_mk []) (keyN hz)
    rw [(f2 z hz).2] at hv
    rw [hrun, (f2 z hz).1, objElem_inv hv]
  · have hno : getO L z = none := getO_none fun x hx => not_wf hz h.big x (hg x hx)
    rw [hno]
    obtain ⟨es, clock, hb, F, _⟩ := o2
    have hks : ∀ y ∈ es.toList, MapKept.IsKey (.int .i64) y.key := fun y hy => by
      obtain ⟨l, hl⟩ := F.keys y hy
      obtain ⟨x, hx, _⟩ := Maps.keyOf_int_inv Tryz.underlying3 hl
      rw [hx]
      rfl
    rcases MapKept.findNow_spec (d := .int .i64) (k := .int .i64 z) rfl es.toList 0 hks with ⟨h1, h2⟩ | ⟨j, e0, h1, h2, h3⟩
    · simp [Instr.lookup, run_underlying Tryz.underlying123, MapKept.run_getObj_map hb, MapKept.run_checkKey (k := .int .i64 z) Tryz.underlying3 rfl _ 9999, MapKept.run_findKey Tryz.underlying3 h1, Result.andThen]
      rfl
    · exfalso
      obtain ⟨l, hl⟩ := F.keys e0 (List.mem_of_getElem? h2)
      obtain ⟨x, hx, _, hw⟩ := Maps.keyOf_int_inv Tryz.underlying3 hl
      rw [h3] at hx
      cases hx
      exact hz hw

set_option maxHeartbeats 1000000 in
theorem SNew_any (w : World) : Calls Tryz.prog 42 #[] w fun e w' => e = .returned (.pointer (some ⟨w.heap.size + 2, 0, none⟩)) ∧ SAt w' (w.heap.size + 2) w.heap.size (w.heap.size + 1) 0 [] ∧ RowKit.Below w.heap.size w w' := by
  have h1 := makeNums
  have h2 := makeObjs
  go_enter Tryz.func42, Tryz.ntmps42
  go_wp2_with fail
  go_ret
  refine ⟨by simp, ⟨by omega, by omega, by omega, by go_simp, by go_simp, by go_simp, by go_simp, ⟨.map [], .map [], ?_, ?_, NumD.nil, ObjD.nil, rfl⟩, by simp, by omega⟩, ?_⟩
  · exact ((World.ownsMap_made _ _ _ _).alloc _).alloc _
  · have := (World.ownsMap_made (w.alloc (.map #[] 0)) Tryz.prog 3 objElem).alloc (.cells #[.map (some w.heap.size), .map (some (w.heap.size + 1)), .int .i64 0] 125)
    simpa using this
  · exact bstep (bstep (balloc _ _) (balloc _ _)) (balloc _ _)

theorem SLen_any (w : World) (s b1 b2 n : Nat) (L : List Ob) (h : SAt w s b1 b2 n L) :
    Calls Tryz.prog 218 #[.pointer (some ⟨s, 0, none⟩)] w fun e w' => e = .returned (.int .i64 (L.length : Int)) ∧ w' = w := by
  obtain ⟨D1, D2, o1, o2, f1, f2, hs⟩ := h.two
  have c1 := h.c1
  rw [← hs]
  clear h f1 f2 o1 hs
  go_enter Tryz.func218, Tryz.ntmps218
  go_wp2_with (at_len; refine wpList_len_own _ rfl _ 123 rfl 3 168 Tryz.underlying123 _ b2 _ D2 rfl o2 ?_)
  go_ret
  exact ⟨rfl, rfl⟩

theorem SClone_any (l : List UInt8) (w : World) (hl : l.length ≤ 281474976710656) :
    Calls Tryz.prog 30 #[.string ⟨l.toArray⟩] w fun e w' => e = .returned (.string ⟨l.toArray⟩) ∧ RowKit.Below w.heap.size w w' := by
  go_enter Tryz.func30, Tryz.ntmps30
  go_wp2_with (go_at_call 53; refine (Tryz.stringslite_Clone ⟨l.toArray⟩ _ hl).mono ?_; rintro e w' ⟨rfl, hb⟩)
  go_ret
  exact ⟨rfl, hb⟩

set_option maxHeartbeats 1000000 in
set_option maxRecDepth 100000 in
theorem SFind_any (w : World) (s b1 b2 n : Nat) (L : List Ob) (t : List UInt8) (h : SAt w s b1 b2 n L) (ht : t.length ≤ maxLen) :
    Calls Tryz.prog 191 #[.pointer (some ⟨s, 0, none⟩), .string ⟨t.toArray⟩] w fun e w' => e = .returned (.tuple #[.int .i64 (findO L t : Int), errV (findE L t)]) ∧ RowKit.Below w.heap.size w w' := by
  have hl := look_num h t ht
  have hlt := h.lts
  have c0 := h.c0
  have e2 : Hid (findE L t = if findO L t = 0 then 5 else 0) := rfl
  clear h ht
  generalize findE L t = m at *
  generalize findO L t = k at *
  by_cases hk : k = 0
  · have hm : m = 5 := by rw [e2.out, if_pos hk]
    subst hm hk
    clear e2
    go_enter Tryz.func191, Tryz.ntmps191
    go_wp2_with fail
    exact bodyPost_ret (v := .tuple #[.int .i64 0, .iface 72 (.int .i64 5)]) (by unfold results; rw [Tryz.results191]; go_simp) rfl ⟨rfl, RowKit.Below.refl _ w⟩
  · have hm : m = 0 := by rw [e2.out, if_neg hk]
    subst hm
    rw [decide_eq_true hk] at hl
    clear e2 hk
    go_enter Tryz.func191, Tryz.ntmps191
    go_wp2_with fail
    exact bodyPost_ret (v := .tuple #[.int .i64 (k : Int), .nilIface]) (by unfold results; rw [Tryz.results191]; go_simp) rfl ⟨rfl, RowKit.Below.refl _ w⟩
set_option maxHeartbeats 1000000 in
set_option maxRecDepth 100000 in
theorem SGet_any (w : World) (s b1 b2 n : Nat) (L : List Ob) (z : Int) (h : SAt w s b1 b2 n L) (hg : ∀ x ∈ L, 1 ≤ x.1 ∧ x.1 ≤ n) :
    Calls Tryz.prog 88 #[.pointer (some ⟨s, 0, none⟩), .int .i64 z] w fun e w' => e = .returned (.tuple #[.string ⟨(getB L z).toArray⟩, errV (getE L z)]) ∧ RowKit.Below w.heap.size w w' := by
  have hl := look_obj h hg z
  have hlt := h.lts
  have c1 := h.c1
  have e1 : Hid (getB L z = (getO L z).getD []) := rfl
  have e2 : Hid (getE L z = if (getO L z).isSome = true then 0 else 5) := rfl
  have e3 : ((getO L z).getD []).length ≤ 281474976710656 := by
    cases hb : getO L z with
    | none => simp
    | some b =>
      obtain ⟨x, hx, _, rfl⟩ := getO_some hb
      have := h.short x hx
      unfold reachBytes at this
      simp
      omega
  clear h hg
  generalize getE L z = m at *
  generalize getB L z = u at *
  generalize getO L z = k at *
  unfold valOb at hl
  obtain rfl : u = k.getD [] := e1.out
  clear e1
  cases k with
  | none =>
    have hm : m = 5 := by rw [e2.out]; rfl
    subst hm
    clear e2 e3
    simp only [Option.getD_none, Option.isSome_none] at hl ⊢
    go_enter Tryz.func88, Tryz.ntmps88
    go_wp2_with fail
    exact bodyPost_ret (v := .tuple #[.string ⟨#[]⟩, .iface 72 (.int .i64 5)]) (by unfold results; rw [Tryz.results88]; go_simp) rfl ⟨rfl, balloc _ _⟩
  | some b =>
    have hm : m = 0 := by rw [e2.out]; rfl
    subst hm
    clear e2
    simp only [Option.getD_some, Option.isSome_some] at hl e3 ⊢
    go_enter Tryz.func88, Tryz.ntmps88
    go_wp2_with (go_at_call 30; refine (SClone_any b _ e3).mono ?_; rintro e w' ⟨rfl, hb⟩)
    exact bodyPost_ret (v := .tuple #[.string ⟨b.toArray⟩, .nilIface]) (by unfold results; rw [Tryz.results88]; go_simp) rfl ⟨rfl, bstep (balloc _ _) hb⟩
end Go.Proofs.YtnphjdckdkjopaaGreatDoor

/- repo's fresh, and the test of find: a commit in memory of its own; is it the one that is there already? -/
namespace Go.Proofs.YtnphjdckdkjopaaGreatDoor
open Go Go.RowKit Go.Proofs Go.Maps
set_option synthInstance.maxSize 1000


theorem prow_form {W : World} {base : Nat} {e : TypeId} {sz : Nat} {v : Value} {n : Nat} {cs : List Value} (h : W.ownsRow base e sz v n cs) : ∃ ad cap, v = .slice ad n cap := by
  rcases h.2 with ⟨rfl, h0⟩ | ⟨g, cap, cur, rfl, _⟩
  · exact ⟨none, 0, by rw [h0]⟩
  · exact ⟨_, _, rfl⟩
theorem prow_at {W : World} {base : Nat} {e : TypeId} {sz : Nat} {v : Value} {n : Nat} {cs : List Value} (h : W.ownsRow base e sz v n cs) (hn : 0 < n) : ∃ g cap, v = .slice (some ⟨g, 0, none⟩) n cap ∧ n ≤ cap ∧ ∀ (k : Nat) (x : Value), cs[k]? = some x → W.cell? ⟨g, k, none⟩ = some x := by
  rcases h.2 with ⟨rfl, h0⟩ | ⟨g, cap, cur, rfl, hg, hm, h3, h4, h5, h6⟩
  · omega
  · refine ⟨g, cap, rfl, by omega, fun k x hk => ?_⟩
    have := h.cells (g := g) rfl k x hk
    rw [Addr.add_lit] at this
    simpa using this
/-! ### numbers in memory of their own -/
def cellsZ (m : List Int) : List Value := m.map fun j => Value.int .i64 j
theorem infoZ : (Tryz.prog.info? 3).map (fun i => (i.zero, i.size, i.bytes)) = some (some (.int .i64 0), 1, 8) := by kernel_rfl
theorem append_noneZ (W : World) (ad : Option Addr) (cap : Nat) (ty : TypeId) :
    (Builtin.append_ #[37, 37] ty #[.slice none 0 0, .slice ad 0 cap]).run Tryz.prog W = .ok (.slice none 0 0) W := by
  obtain ⟨i, hi, hz⟩ := Option.map_eq_some_iff.1 infoZ
  have hf : (Builtin.firstCells i.size 0 (.slice ad 0 cap)).run Tryz.prog W = .ok #[] W := by
    cases ad with
    | none => exact run_firstCells_none W _ _ _ _
    | some a => exact run_firstCells_some (P := Tryz.prog) W i.size 0 a 0 cap [] (by simp) (by simp)
  simp [Builtin.append_, run_underlying Tryz.underlying37, sizeOf, typeInfo, hi, Builtin.lenOf, hf]
/-- what an append to nothing leaves -/
def NewZ (w : World) (l : List Int) (ad : Option Addr) (c : Nat) (w' : World) : Prop := SlI w' ad l ∧ l.length ≤ c ∧ (l ≠ [] → ∀ d, ad = some d → w.heap.size ≤ d.block) ∧ RowKit.Below w.heap.size w w'
theorem wpList_append_nilZ {ops : Array Oper} {rest : List Oper} {o : Oper} {a : Act} {Q : Exit → Act → World → Prop} (w : World) (hgd : o.guard = none) (s x : Operand)
    (ho : o.op = .call { callee := .builtin .append, args := #[s, x], argTypes := #[37, 37] })
    (l : List Int) (ad : Option Addr) (c : Nat) (hs : a.eval s = .slice none 0 0) (hx : a.eval x = .slice ad l.length c) (hl : SlI w ad l) (h63 : l.length ≤ 1000000)
    (h : ∀ ad' c' w', NewZ w l ad' c' w' → wpList Tryz.prog ops Q rest (a.put o.dst (.slice ad' l.length c')) w') : wpList Tryz.prog ops Q (o :: rest) a w := by
  obtain ⟨i0, hi, hz⟩ := Option.map_eq_some_iff.1 infoZ
  simp only [Prod.mk.injEq] at hz
  obtain ⟨hz0, hz1, hz2⟩ := hz
  cases l with
  | nil =>
    exact Lib.wpList_append_run w hgd s x _ _ ho _ _ hs hx (.slice none 0 0) w (append_noneZ w ad c _) (h none 0 w ⟨fun h => absurd rfl h, Nat.le_refl _, fun h => absurd rfl h, RowKit.Below.refl _ _⟩)
  | cons y r =>
    obtain ⟨b, off, rfl, hr⟩ := hl (by simp)
    refine wpList_append_own w hgd s x _ ho w.heap.size 3 i0 (.int .i64 0) 1 8 Tryz.underlying37 hi hz0 hz1 hz2 rfl (by decide) (.slice none 0 0) 0 [] hs (World.ownsRow_nil _ _ _ _) ⟨b, off, none⟩ (y :: r).length c (cellsZ (y :: r)) hx (by simp [cellsZ]) ?_ ?_ (by unfold maxLen; omega) (by omega) (Nat.le_refl _) ?_
    · intro j u hj
      rw [Addr.add_lit]
      have hj' : j < (y :: r).length := by have := (List.getElem?_eq_some_iff.1 hj).1; simpa [cellsZ] using this
      have e : u = .int .i64 (y :: r)[j] := by
        have := (List.getElem?_eq_some_iff.1 hj).2
        rw [← this]
        simp only [cellsZ, List.getElem_map]
      rw [e]
      exact hr j hj'
    · intro v hv
      obtain ⟨j, _, rfl⟩ := List.mem_map.1 hv
      rfl
    · intro v' w' h2 h3 _
      rw [List.nil_append, Nat.zero_add] at h2
      have hb : RowKit.Below w.heap.size w w' := (RowKit.Below.refl _ _).grown h3 (Nat.le_refl _) (fun k hk => by cases hk)
      obtain ⟨g, cap, rfl, hcap, hx⟩ := prow_at h2 (by simp)
      refine h _ _ _ ⟨fun _ => ⟨g, 0, rfl, fun j hj => ?_⟩, hcap, fun _ d hd => ?_, hb⟩
      · have := hx j (.int .i64 (y :: r)[j]) (by simp only [cellsZ, List.getElem?_map, List.getElem?_eq_getElem hj, Option.map_some])
        simpa using this
      · cases hd
        exact (h2.lt g rfl).1

/-- a commit in memory of its own -/
def FreshC (w : World) (ps : List Int) (y : Int) (t : List UInt8) (e : Ending) (w' : World) : Prop := ∃ a c, e = .returned (.agg #[.slice a ps.length c, .int .i64 y, .string ⟨t.toArray⟩]) ∧ NewZ w ps a c w'
theorem NewZ.later {w W w1 w' : World} {l : List Int} {ad : Option Addr} {c : Nat} (h : NewZ W l ad c w1) (hw : RowKit.Below w.heap.size w W) (hb : RowKit.Below w.heap.size w w') (hs : SlI w' ad l) : NewZ w l ad c w' :=
  ⟨hs, h.2.1, fun hl d hd => Nat.le_trans hw.size (h.2.2.1 hl d hd), hb⟩
/-- numbers lie in no block that holds a struct of a commit's kind -/
theorem SlI.put0 {w : World} {ad : Option Addr} {l : List Int} (h : SlI w ad l) {b k : Nat} {v u : Value} (hc : w.cell? ⟨b, k, none⟩ = some v) (hv : ∀ z, v ≠ .int .i64 z) : SlI (w.setCell ⟨b, k, none⟩ u) ad l := fun hl => by
  obtain ⟨p, o, e, h1⟩ := h hl
  refine ⟨p, o, e, fun j hj => ?_⟩
  rw [World.cell?_setCell_other]
  · exact h1 j hj
  · intro e2
    have := h1 j hj
    rw [← e2, hc] at this
    exact hv _ (Option.some.inj this)
theorem SlI.off {w : World} {ad : Option Addr} {l : List Int} (h : SlI w ad l) {b k : Nat} {u : Value} (hb : l ≠ [] → ∀ d, ad = some d → d.block ≠ b) : SlI (w.setCell ⟨b, k, none⟩ u) ad l := fun hl => by
  obtain ⟨p, o, e, h1⟩ := h hl
  refine ⟨p, o, e, fun j hj => ?_⟩
  rw [World.cell?_setCell_other]
  · exact h1 j hj
  · intro e2
    cases e2
    exact hb hl _ e rfl

theorem blk3 {W : World} {B : Nat} {u v x : Value} {T : TypeId} (h : W.heap[B]? = some (.cells #[u, v, x] T)) : W.cell? ⟨B, 0, none⟩ = some u ∧ W.cell? ⟨B, 1, none⟩ = some v ∧ W.cell? ⟨B, 2, none⟩ = some x ∧ W.frozen? ⟨B, 0, none⟩ = false ∧ W.frozen? ⟨B, 1, none⟩ = false ∧ W.frozen? ⟨B, 2, none⟩ = false ∧ B < W.heap.size := by
  refine ⟨?_, ?_, ?_, ?_, ?_, ?_, (Array.getElem?_eq_some_iff.1 h).1⟩ <;> simp [World.cell?, World.frozen?, h]
theorem two3 (w : World) (u v x u' v' x' : Value) (T : TypeId) : ((w.alloc (.cells #[u, v, x] T)).alloc (.cells #[u', v', x'] T)).heap[w.heap.size]? = some (.cells #[u, v, x] T) ∧ ((w.alloc (.cells #[u, v, x] T)).alloc (.cells #[u', v', x'] T)).heap[w.heap.size + 1]? = some (.cells #[u', v', x'] T) := by
  constructor
  · show ((w.heap.push _).push _)[w.heap.size]? = _
    rw [Array.getElem?_push, if_neg (by simp), Array.getElem?_push, if_pos rfl]
  · show ((w.heap.push _).push _)[w.heap.size + 1]? = _
    rw [Array.getElem?_push, if_pos (by simp)]

theorem belowQ {w W : World} {b o : Nat} {v : Value} (h : RowKit.Below w.heap.size w W) (hb : w.heap.size ≤ b) : RowKit.Below w.heap.size w (W.setCell ⟨b, o, none⟩ v) := h.setCell (p := ⟨b, o, none⟩) hb v
set_option maxHeartbeats 4000000 in
set_option maxRecDepth 100000 in
theorem Qfresh_any (a : Option Addr) (ca : Nat) (ps : List Int) (y : Int) (t : List UInt8) (w : World) (hs : SlI w a ps) (hl : ps.length ≤ 1000000) (ht : t.length ≤ 281474976710656) :
    Calls Tryz.prog 61 #[.agg #[.slice a ps.length ca, .int .i64 y, .string ⟨t.toArray⟩]] w (FreshC w ps y t) := by
  have HS := hideO hs
  have HL := hideO hl
  clear hs hl
  go_enter Tryz.func61, Tryz.ntmps61
  have hW0 := hideO (bstep (balloc w (.cells #[.slice a ps.length ca, .int .i64 y, .string ⟨t.toArray⟩] 113)) (balloc (w.alloc (.cells #[.slice a ps.length ca, .int .i64 y, .string ⟨t.toArray⟩] 113)) (.cells #[.slice none 0 0, .int .i64 0, .string ⟨#[]⟩] 113)))
  have hT := hideO (two3 w (.slice a ps.length ca) (.int .i64 y) (.string ⟨t.toArray⟩) (.slice none 0 0) (.int .i64 0) (.string ⟨#[]⟩) 113)
  have hz : ((w.alloc (.cells #[.slice a ps.length ca, .int .i64 y, .string ⟨t.toArray⟩] 113)).alloc (.cells #[.slice none 0 0, .int .i64 0, .string ⟨#[]⟩] 113)).heap.size = w.heap.size + 2 := by simp
  go_wp2_with (at_builtin; refine wpList_append_nilZ _ rfl _ _ rfl ps a ca rfl rfl (HS.out.below hW0.out) HL.out ?_; intro ad c w1 hN; have hN1 := hideO hN; have b0 := (hN.2.2.2.block w.heap.size (by rw [hz]; omega)).trans hT.out.1; have b1 := hideO ((hN.2.2.2.block (w.heap.size + 1) (by rw [hz]; omega)).trans hT.out.2); clear hN; obtain ⟨p0, p1, p2, f0, f1, f2, z0⟩ := blk3 b0; have B0 := hideO b0; clear b0)
  have hfr : Hid (ps ≠ [] → ∀ d, ad = some d → w.heap.size + 2 ≤ d.block) := fun hne d hd => by have := hN1.out.2.2.1 hne d hd; rw [hz] at this; exact this
  have hB1 : Hid (RowKit.Below w.heap.size w (w1.setCell ⟨w.heap.size, 0, none⟩ (.slice ad ps.length c))) := ((hW0.out.trans (hN1.out.2.2.2.mono (by rw [hz]; omega)))).setCell (p := ⟨w.heap.size, 0, none⟩) (Nat.le_refl _) _
  have hS1 : Hid (SlI (w1.setCell ⟨w.heap.size, 0, none⟩ (.slice ad ps.length c)) ad ps) := hN1.out.1.off fun hne d hd e => by have := hfr.out hne d hd; omega
  have hcap : Hid (ps.length ≤ c) := hN1.out.2.1
  have d0 : (w1.setCell ⟨w.heap.size, 0, none⟩ (.slice ad ps.length c)).heap[w.heap.size]? = some (.cells #[.slice ad ps.length c, .int .i64 y, .string ⟨t.toArray⟩] 113) := by
    have := heap_setCell_same w1 w.heap.size 0 _ _ (.slice ad ps.length c) B0.out
    simpa using this
  have d1 : (w1.setCell ⟨w.heap.size, 0, none⟩ (.slice ad ps.length c)).heap[w.heap.size + 1]? = some (.cells #[.slice none 0 0, .int .i64 0, .string ⟨#[]⟩] 113) := (heap_setCell_other w1 ⟨w.heap.size, 0, none⟩ (w.heap.size + 1) _ (by simp)).trans b1.out
  clear hN1 hT HS hW0 B0 b1 hz p0 p1 p2 f0 f1 f2 z0
  generalize w1.setCell ⟨w.heap.size, 0, none⟩ (.slice ad ps.length c) = W1 at *
  obtain ⟨p0, p1, p2, f0, f1, f2, z0⟩ := blk3 d0
  have D0 := hideO d0
  have D1 := hideO d1
  clear d0 d1
  go_wp2_with (go_at_call 30; refine (SClone_any t _ ht).mono ?_; rintro e w2 ⟨rfl, hb2⟩; dsimp only; have e0 := hideO ((hb2.block w.heap.size z0).trans D0.out); have e1 := hideO ((hb2.block (w.heap.size + 1) (Array.getElem?_eq_some_iff.1 D1.out).1).trans D1.out); obtain ⟨q0, q1, q2, g0, g1, g2, y0⟩ := blk3 e0.out; obtain ⟨r0, r1, r2, h0, h1, h2, y1⟩ := blk3 e1.out; have hB2 := hideO (bstep hB1.out hb2); have hS2 := hideO (hS1.out.below hb2); clear hb2)
  have hne : w.heap.size ≠ w.heap.size + 1 := by omega
  have hne' : w.heap.size + 1 ≠ w.heap.size := by omega
  clear D0 D1 p0 p1 p2 f0 f1 f2 z0 hB1 hS1
  exact bodyPost_ret (v := .agg #[.slice ad ps.length c, .int .i64 y, .string ⟨t.toArray⟩]) (by unfold results; rw [Tryz.results61]; go_simp) rfl ⟨ad, c, rfl, by repeat (first | (with_reducible exact hS2.out) | (refine SlI.off ?_ (fun hne d hd e => by have := hfr.out hne d hd; omega))), hcap.out, fun hne d hd => by have := hfr.out hne d hd; omega, by repeat (first | (with_reducible exact hB2.out) | (refine belowQ ?_ (by omega)))⟩

/-! ### two rows of numbers -/
theorem ret_boolQ {a b : Bool} (h : a = b) : Ending.returned (.bool a) = .returned (.bool b) := by rw [h]
set_option maxHeartbeats 4000000 in
set_option maxRecDepth 100000 in
theorem QEqual_any (a b : Option Addr) (ca cb : Nat) (x y : List Int) (w : World) (hx : SlI w a x) (hy : SlI w b y) (nx : x.length ≤ maxLen) (ny : y.length ≤ maxLen) :
    Calls Tryz.prog 194 #[.slice a x.length ca, .slice b y.length cb] w fun e w' => e = .returned (.bool (decide (x = y))) ∧ RowKit.Below w.heap.size w w' := by
  have Hx := hideO hx
  have Hy := hideO hy
  unfold maxLen at nx ny
  clear hx hy
  by_cases hlen : x.length = y.length
  · have hd : ((x.length : Int) != (y.length : Int)) = false := by simp [hlen]
    have Hlen := hideO hlen
    clear hlen
    go_enter Tryz.func194, Tryz.ntmps194
    go_wp2_with fail
    go_loopw [13] (fun i wr => ∃ k : Nat, k ≤ x.length ∧ i = .int .i64 k ∧ Hid (x.take k = y.take k) ∧ RowKit.Below w.heap.size w wr) (fun i wr => x.length - (intOf i).toNat)
    case atStart => exact ⟨0, Nat.zero_le _, rfl, rfl, RowKit.Below.refl _ _⟩
    case round =>
      obtain ⟨k, hk, rfl, hs, hbr⟩ := hrel
      by_cases hlt : k < x.length
      · have hlt' : k < y.length := by have := Hlen.out; omega
        obtain ⟨p, o, rfl, c0⟩ := (Hx.out.below hbr).at hlt
        obtain ⟨q, r, rfl, c1⟩ := (Hy.out.below hbr).at hlt'
        have i0 : (0 : Int) ≤ (k : Int) := by omega
        have i1 : (k : Int) < (x.length : Int) := by omega
        have i2 : (k : Int) < (y.length : Int) := by omega
        have f1 : Hid (x[k] = y[k] → x.take (k + 1) = y.take (k + 1)) := fun h => by
          rw [List.take_succ_eq_append_getElem hlt, List.take_succ_eq_append_getElem hlt', hs.out, h]
        have f0 : Hid (x[k] ≠ y[k] → decide (x = y) = false) := fun h => by
          rw [decide_eq_false_iff_not]
          intro e
          subst e
          exact h rfl
        have hbd := hideO hbr.drew
        clear hs Hx Hy Hlen
        generalize x[k] = u at *
        generalize y[k] = v at *
        by_cases hc : u = v
        · have hcc : (u != v) = false := by simpa using hc
          have hf := hideO (f1.out hc)
          clear f0 f1 hc
          go_wp2_with fail
          go_region
          go_wp2_with fail
          go_roundw
          case rel => exact ⟨k + 1, by omega, by go_num, hf, hbd.out⟩
          case measure => simp [intOf]; omega
        · have hcc : (u != v) = true := by simpa using hc
          have hf := hideO (f0.out hc)
          clear f0 f1 hc
          go_wp2_with fail
          go_region
          go_wp2_with fail
          go_ret
          exact ⟨ret_boolQ hf.out.symm, hbd.out⟩
      · obtain rfl : k = x.length := by omega
        have hyes : Hid (decide (x = y) = true) := decide_eq_true (by
          have h1 := hs.out
          rw [List.take_length, Hlen.out, List.take_length] at h1
          exact h1)
        clear hs
        go_wp2_with fail
        go_ret
        exact ⟨ret_boolQ hyes.out.symm, hbr⟩
  · have hd : ((x.length : Int) != (y.length : Int)) = true := by simp; omega
    have hno : Hid (decide (x = y) = false) := by
      show _ = _
      rw [decide_eq_false_iff_not]
      rintro rfl
      exact hlen rfl
    go_enter Tryz.func194, Tryz.ntmps194
    go_wp2_with fail
    go_ret
    exact ⟨ret_boolQ hno.out.symm, RowKit.Below.refl _ _⟩

/-! ### the commit that is there already -/
def findP : List Cm → Int → List UInt8 → List Int → Option Nat
  | [], _, _, _ => none
  | c :: r, y, m, ps => if c.2.1 = y ∧ c.2.2 = m ∧ c.1 = ps then some 0 else (findP r y m ps).map fun k => k + 1
def hitB (c : Cm) (id : Int) (t : List UInt8) (ps : List Int) : Bool := decide (c.2.1 = id) && (decide (c.2.2 = t) && decide (c.1 = ps))
theorem hitB_iff {c : Cm} {id : Int} {t : List UInt8} {ps : List Int} : hitB c id t ps = true ↔ c.2.1 = id ∧ c.2.2 = t ∧ c.1 = ps := by unfold hitB; simp
theorem findP_at {l : List Cm} {id : Int} {t : List UInt8} {ps : List Int} {k : Nat} (hk : k < l.length) (hn : ∀ (j : Nat) (hj : j < l.length), j < k → hitB l[j] id t ps = false) (h : hitB l[k] id t ps = true) : findP l id t ps = some k := by
  induction l generalizing k with
  | nil => simp at hk
  | cons c r ih =>
    cases k with
    | zero => unfold findP; rw [if_pos (hitB_iff.1 (by simpa using h))]
    | succ n =>
      have h0 : hitB c id t ps = false := hn 0 (by simp) (by omega)
      unfold findP
      rw [if_neg (fun h' => by rw [hitB_iff.2 h'] at h0; cases h0), ih (k := n) (by simpa using hk) (fun j hj hjn => by have := hn (j + 1) (by simpa using hj) (by omega); simpa using this) (by simpa using h)]
      rfl
theorem findP_none {l : List Cm} {id : Int} {t : List UInt8} {ps : List Int} (hn : ∀ (j : Nat) (hj : j < l.length), hitB l[j] id t ps = false) : findP l id t ps = none := by
  induction l with
  | nil => rfl
  | cons c r ih =>
    have h0 : hitB c id t ps = false := hn 0 (by simp)
    unfold findP
    rw [if_neg (fun h' => by rw [hitB_iff.2 h'] at h0; cases h0), ih fun j hj => by have := hn (j + 1) (by simpa using hj); simpa using this]
    rfl
def idxI : Option Nat → Int
  | none => -1
  | some k => (k : Int)
/-- what the test looks at -/
structure FindG (W : World) (B1 B2 B3 : Nat) (id : Int) (t : List UInt8) (pd : Option Addr) (pc : Nat) (ps : List Int) : Prop where
  c1 : W.cell? ⟨B1, 0, none⟩ = some (.int .i64 id)
  c2 : W.cell? ⟨B2, 0, none⟩ = some (.string ⟨t.toArray⟩)
  c3 : W.cell? ⟨B3, 0, none⟩ = some (.slice pd ps.length pc)
  sl : SlI W pd ps
  len : ps.length ≤ maxLen
theorem FindG.below {W W' : World} {B1 B2 B3 : Nat} {id : Int} {t : List UInt8} {pd : Option Addr} {pc : Nat} {ps : List Int} (h : FindG W B1 B2 B3 id t pd pc ps) (hb : RowKit.Below W.heap.size W W') : FindG W' B1 B2 B3 id t pd pc ps :=
  ⟨(hb.cell (World.block_lt_of_cell? W _ h.c1)).trans h.c1, (hb.cell (World.block_lt_of_cell? W _ h.c2)).trans h.c2, (hb.cell (World.block_lt_of_cell? W _ h.c3)).trans h.c3, h.sl.below hb, h.len⟩

theorem eqlStrQ (a b : List UInt8) (w : World) : (binOp .eql 9 (.string ⟨a.toArray⟩) (.string ⟨b.toArray⟩)).run Tryz.prog w = .ok (.bool (decide (a = b))) w := by
  by_cases h : a = b
  · subst h; go_simp
  · have h' : ¬ (⟨a.toArray⟩ : ByteArray) = ⟨b.toArray⟩ := fun e => h (by have := congrArg (fun s : ByteArray => s.data.toList) e; simpa using this)
    go_simp
theorem eqlSelfQ (v : List UInt8) (w : World) : (binOp .eql 9 (.string ⟨v.toArray⟩) (.string ⟨v.toArray⟩)).run Tryz.prog w = .ok (.bool true) w := by rw [eqlStrQ]; simp
theorem eqlOtherQ (a b : List UInt8) (h : (a == b) = false) (w : World) : (binOp .eql 9 (.string ⟨a.toArray⟩) (.string ⟨b.toArray⟩)).run Tryz.prog w = .ok (.bool false) w := by rw [eqlStrQ]; simp at h; simp [h]
attribute [local go_sem ↓] eqlSelfQ eqlOtherQ
set_option maxHeartbeats 4000000 in
set_option maxRecDepth 100000 in
theorem Qfind1_any (W : World) (B1 B2 B3 : Nat) (id : Int) (t : List UInt8) (pd : Option Addr) (pc : Nat) (ps : List Int) (a : Option Addr) (ca : Nat) (qs : List Int) (y : Int) (m : List UInt8) (h : FindG W B1 B2 B3 id t pd pc ps) (hq : SlI W a qs) (hl : qs.length ≤ maxLen) :
    Calls Tryz.prog 193 #[.agg #[.slice a qs.length ca, .int .i64 y, .string ⟨m.toArray⟩], .pointer (some ⟨B1, 0, none⟩), .pointer (some ⟨B2, 0, none⟩), .pointer (some ⟨B3, 0, none⟩)] W fun e w' => e = .returned (.bool (hitB (qs, y, m) id t ps)) ∧ RowKit.Below W.heap.size W w' := by
  have HE := fun W' (hW : RowKit.Below W.heap.size W W') => QEqual_any a pd ca pc qs ps W' (hq.below hW) (h.sl.below hW) hl h.len
  have c1 := h.c1
  have c2 := h.c2
  have c3 := h.c3
  have z1 := World.block_lt_of_cell? _ _ c1
  have z2 := World.block_lt_of_cell? _ _ c2
  have z3 := World.block_lt_of_cell? _ _ c3
  have z1 : B1 < W.heap.size := z1
  have z2 : B2 < W.heap.size := z2
  have z3 : B3 < W.heap.size := z3
  have n1 : B1 ≠ W.heap.size := by omega
  have n2 : B2 ≠ W.heap.size := by omega
  have n3 : B3 ≠ W.heap.size := by omega
  have fin : Hid (hitB (qs, y, m) id t ps = (decide (y = id) && (decide (m = t) && decide (qs = ps)))) := rfl
  generalize hitB (qs, y, m) id t ps = v at *
  clear h hq hl
  by_cases h1 : y = id
  · subst h1
    by_cases h2 : m = t
    · subst h2
      generalize decide (qs = ps) = d at *
      go_enter Tryz.func193, Tryz.ntmps193
      go_wp2_with (go_at_call 194; refine (HE _ (balloc _ _)).mono ?_; rintro e w1 ⟨rfl, hb1⟩; dsimp only)
      go_ret
      exact ⟨ret_boolQ (by rw [fin.out]; simp), bstep (balloc _ _) hb1⟩
    · have h2' : (m == t) = false := by simpa using h2
      clear HE
      go_enter Tryz.func193, Tryz.ntmps193
      go_wp2_with fail
      go_ret
      exact ⟨ret_boolQ (by rw [fin.out]; simp [h2]), balloc _ _⟩
  · have h1' : (y == id) = false := by simpa using h1
    clear HE
    go_enter Tryz.func193, Tryz.ntmps193
    go_wp2_with fail
    go_ret
    exact ⟨ret_boolQ (by rw [fin.out]; simp [h1]), balloc _ _⟩
theorem entersFind : ∀ args w, (callFunc 193 args).run Tryz.prog w = .ok (.enter 193 args) w := enters_of Tryz.func193 (by kernel_rfl) rfl
end Go.Proofs.YtnphjdckdkjopaaGreatDoor

/- A repo's commits and its objects: each commit's layer is the object of what has changed from its first parent's graph. -/
namespace Go.Proofs.YtnphjdckdkjopaaGreatDoor
open Go Go.RowKit Go.Proofs
set_option synthInstance.maxSize 1000

def Linked (R : Rp) : Prop := ∀ (i : Nat) (c : Cm) (g : List Tr), R.coms[i]? = some c → R.gr[i]? = some g → getO R.L c.2.1 = some (bytesR R c.1 g)
theorem linked_empty : Linked emptyR := fun i c g h => by simp [emptyR] at h
theorem bytes_from {R R' : Rp} {ps : List Int} (h : fromR R' ps = fromR R ps) (s : List Tr) : bytesR R' ps s = bytesR R ps s := by unfold bytesR; rw [h]
theorem from_eq {R R' : Rp} (h : R'.gr = R.gr) (ps : List Int) : fromR R' ps = fromR R ps := by unfold fromR; rw [h]
/-- branches alone have turned -/
theorem Linked.same {R R' : Rp} (h : Linked R) (h1 : R'.L = R.L) (h2 : R'.coms = R.coms) (h3 : R'.gr = R.gr) : Linked R' := fun i c g hc hg => by
  rw [h2] at hc
  rw [h3] at hg
  rw [h1, bytes_from (from_eq h3 c.1)]
  exact h i c g hc hg
theorem Linked.lead {R : Rp} (h : Linked R) (b : List UInt8) (t : Nat) : Linked (leadTo R b t) := h.same rfl rfl rfl

theorem pfrom_set {R : Rp} (h : GoodR R) (ps : List Int) : IsSet (fromR R ps) := by
  unfold fromR
  cases ps with
  | nil => exact isSet_nil
  | cons p r =>
    dsimp only
    cases hg : R.gr[p.toNat]? with
    | none => exact isSet_nil
    | some g => exact h.sets g (List.mem_of_getElem? hg)
/-- what has changed tells what came of it -/
theorem bytes_inj {f g s : List Tr} (sf : IsSet f) (sg : IsSet g) (ss : IsSet s) (h : encS (lessL g f) ++ encS (lessL f g) = encS (lessL s f) ++ encS (lessL f s)) : g = s := by
  obtain ⟨_, a1, d1⟩ := back_layer (btw_check sf sg)
  obtain ⟨_, a2, d2⟩ := back_layer (btw_check sf ss)
  rw [h, a2] at a1
  rw [h, d2] at d1
  refine apply_btw_ans sf ss (m := g) ⟨fun _ => ?_, fun hne => absurd (apply_btw sf ss) hne⟩
  have := there (a := f) sg
  rw [← a1, ← d1] at this
  exact this
theorem put_old {n : Nat} {L : List Ob} {b t : List UInt8} {z : Int} (hg : GoodO n L) (h : getO L z = some t) : getO (putL n L b) z = some t := by
  unfold putL
  split
  · exact h
  · split
    · exact h
    · rw [getO_snoc fun x hx => (hg.low x hx).2]
      split
      · rename_i e
        obtain ⟨x, hx, e1, _⟩ := getO_some h
        have := hg.low x hx
        omega
      · exact h
theorem find_get {n : Nat} {L : List Ob} {b : List UInt8} (hg : GoodO n L) (h : findO L b ≠ 0) : getO L (findO L b : Int) = some b := by
  obtain ⟨x, hx, rfl⟩ := (findO_mem fun y hy => (hg.low y hy).1).1 h
  rw [findO_in hg.once hx]
  exact getO_mem hg.rise hx
theorem get_find {n : Nat} {L : List Ob} {b : List UInt8} {z : Int} (hg : GoodO n L) (h : getO L z = some b) : (findO L b : Int) = z ∧ findO L b ≠ 0 := by
  obtain ⟨x, hx, e1, rfl⟩ := getO_some h
  have := hg.low x hx
  rw [findO_in hg.once hx]
  exact ⟨e1, by omega⟩
theorem put_new {n : Nat} {L : List Ob} {b : List UInt8} (hg : GoodO n L) (he : putE L b = 0) : getO (putL n L b) (putI n L b : Int) = some b := by
  unfold putE at he
  unfold putL putI
  by_cases h0 : findO L b ≠ 0
  · simp only [if_pos h0]
    exact find_get hg h0
  · simp only [if_neg h0] at he ⊢
    by_cases h1 : fullO L b = true
    · rw [if_pos h1] at he; cases he
    · simp only [if_neg h1]
      rw [getO_snoc fun x hx => (hg.low x hx).2, if_pos rfl]
theorem range_par {c : Cm} {i : Nat} (h : comN c i = 0) : ∀ p ∈ c.1, 0 ≤ p ∧ p < (i : Int) := by
  unfold comN at h
  split at h
  · cases h
  · split at h
    · cases h
    · rename_i h2
      have : rangeB c.1 i = true := by simpa using h2
      unfold rangeB at this
      rw [List.all_eq_true] at this
      intro p hp
      simpa using this p hp
theorem from_more {R : Rp} {ps : List Int} {s : List Tr} (h : ∀ p ∈ ps, 0 ≤ p ∧ p < (R.gr.length : Int)) (n : Nat) (L : List Ob) (cs : List Cm) (rf : List Rf) : fromR ⟨n, L, cs, R.gr ++ [s], rf⟩ ps = fromR R ps := by
  unfold fromR
  cases ps with
  | nil => rfl
  | cons p r =>
    dsimp only
    have := h p (by simp)
    rw [List.getElem?_append_left (by omega)]
theorem Linked.add {R : Rp} (hl : Linked R) (h : GoodR R) {ps : List Int} {s : List Tr} {m : List UInt8} (hp : okPar R.coms.length ps) : Linked (addR R ps s m) := by
  unfold addR
  split
  · exact hl
  · split
    · exact hl
    · rename_i h60
      split
      · exact hl
      · rename_i he
        have he0 : putE R.L (bytesR R ps s) = 0 := Classical.byContradiction he
        have hlen := h.len
        intro i c g hc hg
        dsimp only at hc hg ⊢
        by_cases hi : i < R.coms.length
        · rw [List.getElem?_append_left hi] at hc
          rw [List.getElem?_append_left (by omega)] at hg
          have hr : ∀ p ∈ c.1, 0 ≤ p ∧ p < (R.gr.length : Int) := fun p hp' => by
            have e : c = R.coms[i] := (List.getElem?_eq_some_iff.1 hc).2.symm
            have := range_par (h.coms.2 i hi) p (by rw [← e]; exact hp')
            omega
          rw [bytes_from (from_more hr _ _ _ _)]
          exact put_old h.store (hl i c g hc hg)
        · have hlt : i < (R.coms ++ [(ps, (putI R.n R.L (bytesR R ps s) : Int), m)]).length := (List.getElem?_eq_some_iff.1 hc).1
          simp at hlt
          obtain rfl : i = R.coms.length := by omega
          rw [List.getElem?_append_right (Nat.le_refl _)] at hc
          rw [← hlen, List.getElem?_append_right (Nat.le_refl _)] at hg
          simp at hc hg
          subst hc hg
          dsimp only
          rw [bytes_from (from_more (fun p hp' => by have := hp.2.1 p hp'; omega) _ _ _ _)]
          exact put_new h.store he0

/-! ### the commit that is there already -/
theorem findC_findP {cl : List Cm} {gl : List (List Tr)} {ps : List Int} {s : List Tr} {m : List UInt8} {y : Int} (hlen : gl.length = cl.length) (h : ∀ (i : Nat) (c : Cm) (g : List Tr), cl[i]? = some c → gl[i]? = some g → ((c.2.2 = m ∧ c.1 = ps ∧ g = s) ↔ (c.2.1 = y ∧ c.2.2 = m ∧ c.1 = ps))) : findC cl gl ps s m = findP cl y m ps := by
  induction cl generalizing gl with
  | nil => cases gl <;> rfl
  | cons c r ih =>
    cases gl with
    | nil => simp at hlen
    | cons g gr =>
      unfold findC findP
      have h0 := h 0 c g rfl rfl
      have := ih (gl := gr) (by simpa using hlen) fun i c' g' h1 h2 => h (i + 1) c' g' (by simpa using h1) (by simpa using h2)
      rw [this]
      by_cases hq : c.2.2 = m ∧ c.1 = ps ∧ g = s
      · rw [if_pos hq, if_pos (h0.1 hq)]
      · rw [if_neg hq, if_neg (fun h' => hq (h0.2 h'))]
theorem pfindC_none {cl : List Cm} {gl : List (List Tr)} {ps : List Int} {s : List Tr} {m : List UInt8} (h : ∀ (i : Nat) (c : Cm) (g : List Tr), cl[i]? = some c → gl[i]? = some g → ¬ (c.2.2 = m ∧ c.1 = ps ∧ g = s)) : findC cl gl ps s m = none := by
  induction cl generalizing gl with
  | nil => cases gl <;> rfl
  | cons c r ih =>
    cases gl with
    | nil => rfl
    | cons g gr =>
      unfold findC
      rw [if_neg (h 0 c g rfl rfl), ih fun i c' g' h1 h2 => h (i + 1) c' g' (by simpa using h1) (by simpa using h2)]
      rfl
theorem find_link {R : Rp} (hl : Linked R) (h : GoodR R) {ps : List Int} {s : List Tr} {m : List UInt8} (hs : IsSet s) :
    findC R.coms R.gr ps s m = if findO R.L (bytesR R ps s) = 0 then none else findP R.coms (findO R.L (bytesR R ps s) : Int) m ps := by
  split
  · rename_i h0
    refine pfindC_none fun i c g hc hg => ?_
    rintro ⟨_, rfl, rfl⟩
    exact (get_find h.store (hl i c g hc hg)).2 h0
  · rename_i h0
    refine findC_findP h.len fun i c g hc hg => ?_
    constructor
    · rintro ⟨e1, rfl, rfl⟩
      exact ⟨(get_find h.store (hl i c g hc hg)).1.symm, e1, rfl⟩
    · rintro ⟨e1, e2, rfl⟩
      refine ⟨e2, rfl, ?_⟩
      have k1 := hl i c g hc hg
      rw [e1, find_get h.store h0] at k1
      have k2 : bytesR R c.1 s = bytesR R c.1 g := Option.some.inj k1
      exact (bytes_inj (pfrom_set h c.1) hs (h.sets g (List.mem_of_getElem? hg)) k2).symm
/-- a commit's bytes are short, and they are read as they were -/
theorem bytes_read {R : Rp} (h : GoodR R) {ps : List Int} {g : List Tr} (hg : IsSet g) : readLayN (bytesR R ps g) = 0 ∧ readLayA (bytesR R ps g) = lessL g (fromR R ps) ∧ readLayD (bytesR R ps g) = lessL (fromR R ps) g := back_layer (btw_check (pfrom_set h ps) hg)
theorem bytes_short {R : Rp} (h : GoodR R) {ps : List Int} {g : List Tr} (hg : IsSet g) : (bytesR R ps g).length ≤ 40000 := by
  have h1 := encS_len (lessSet (b := fromR R ps) hg)
  have h2 := encS_len (lessSet (b := g) (pfrom_set h ps))
  unfold bytesR
  rw [List.length_append]
  omega
end Go.Proofs.YtnphjdckdkjopaaGreatDoor

/- A repo's face: what the laws ask of the program's repo, whatever it is made of. -/
namespace Go.Proofs.YtnphjdckdkjopaaGreatDoor
open Go Go.RowKit Go.Proofs
set_option synthInstance.maxSize 1000

/-- branches in a list that a caller holds -/
def SlF (w : World) (ad : Option Addr) (l : List Rf) : Prop := l ≠ [] → ∃ b o, ad = some ⟨b, o, none⟩ ∧ ∀ (i : Nat) (hi : i < l.length), w.cell? ⟨b, o + i * 2, none⟩ = some (.string ⟨l[i].1.toArray⟩) ∧ w.cell? ⟨b, o + i * 2 + 1, none⟩ = some (.int .i64 (l[i].2 : Int))
theorem SlF.below {w w' : World} {ad : Option Addr} {l : List Rf} (h : SlF w ad l) (hb : RowKit.Below w.heap.size w w') : SlF w' ad l := fun hl => by
  obtain ⟨b, o, e, h1⟩ := h hl
  refine ⟨b, o, e, fun i hi => ?_⟩
  obtain ⟨h2, h3⟩ := h1 i hi
  exact ⟨(hb.cell (World.block_lt_of_cell? w _ h2)).trans h2, (hb.cell (World.block_lt_of_cell? w _ h3)).trans h3⟩
theorem SlF.at {w : World} {ad : Option Addr} {l : List Rf} (h : SlF w ad l) {i : Nat} (hi : i < l.length) : ∃ b o, ad = some ⟨b, o, none⟩ ∧ w.cell? ⟨b, o + i * 2, none⟩ = some (.string ⟨l[i].1.toArray⟩) ∧ w.cell? ⟨b, o + i * 2 + 1, none⟩ = some (.int .i64 (l[i].2 : Int)) := by
  obtain ⟨b, o, e, h1⟩ := h (fun e => by rw [e] at hi; simp at hi)
  exact ⟨b, o, e, h1 i hi⟩
def objE (L : List Ob) (id : Int) : Int := if (getO L id).isSome = true then 0 else 5
def objB (L : List Ob) (id : Int) : List UInt8 := (getO L id).getD []
/-- a set that a caller hands in: it lies in none of the blocks O -/
structure SetArg (w : World) (O : Nat → Prop) (ad : Option Addr) (ca : Nat) (s : List Tr) : Prop where
  sl : SlT w ad s
  cap : s.length ≤ ca
  fit : ∀ x ∈ s, fitTr x
  len : s.length ≤ maxLen
  low : s ≠ [] → ∀ d, ad = some d → ¬ O d.block
/-- a set that lies there from the beginning on -/
structure SetIn (w : World) (ad : Option Addr) (ca : Nat) (s : List Tr) : Prop where
  sl : SlT w ad s
  cap : s.length ≤ ca
  fit : ∀ x ∈ s, fitTr x
  len : s.length ≤ maxLen
  low : s ≠ [] → ∀ d, ad = some d → d.block < w.heap.size
/-- the program's repo: where it lies, which blocks it owns (it keeps no list of a caller's), and what its calls answer; texts of up to 'lim' bytes -/
structure RFace where
  lim : Nat
  At : World → Nat → (Nat → Prop) → Rp → Prop
  own : ∀ {w : World} {r : Nat} {O : Nat → Prop} {R : Rp}, At w r O R → ∀ j, O j → j < w.heap.size
  keep : ∀ {w w' : World} {r : Nat} {O : Nat → Prop} {R : Rp}, At w r O R → (∀ j, O j → w'.heap[j]? = w.heap[j]?) → At w' r O R
  new : ∀ (w : World), Calls Tryz.prog 21 #[] w fun e w' => ∃ (r : Nat) (O : Nat → Prop), e = .returned (.pointer (some ⟨r, 0, none⟩)) ∧ At w' r O emptyR ∧ RowKit.Below w.heap.size w w' ∧ ∀ j, O j → w.heap.size ≤ j
  commit : ∀ (w : World) (r : Nat) (O : Nat → Prop) (R : Rp) (b : List UInt8) (ad : Option Addr) (ca : Nat) (s : List Tr) (t : List UInt8), At w r O R → GoodR R → SetArg w O ad ca s → b.length ≤ lim → t.length ≤ lim →
    Calls Tryz.prog 69 #[.pointer (some ⟨r, 0, none⟩), .string ⟨b.toArray⟩, .slice ad s.length ca, .string ⟨t.toArray⟩] w fun e w' => e = .returned (.tuple #[.int .i64 (commitI R b s t : Int), errV (commitE R b s t)]) ∧ ∃ O' : Nat → Prop, At w' r O' (commitR R b s t) ∧ Offs O w w' ∧ ∀ j, O' j → O j ∨ w.heap.size ≤ j
  branch : ∀ (w : World) (r : Nat) (O : Nat → Prop) (R : Rp) (b : List UInt8) (a : Int), At w r O R → GoodR R → b.length ≤ lim →
    Calls Tryz.prog 68 #[.pointer (some ⟨r, 0, none⟩), .string ⟨b.toArray⟩, .int .i64 a] w fun e w' => e = .returned (errV (branchE R b a)) ∧ ∃ O' : Nat → Prop, At w' r O' (branchR R b a) ∧ Offs O w w' ∧ ∀ j, O' j → O j ∨ w.heap.size ≤ j
  graph : ∀ (w : World) (r : Nat) (O : Nat → Prop) (R : Rp) (a : Int), At w r O R → GoodR R →
    Calls Tryz.prog 40 #[.pointer (some ⟨r, 0, none⟩), .int .i64 a] w fun e w' => ∃ ad ca, e = .returned (.tuple #[.slice ad (graphL R a).length ca, errV (graphE R a)]) ∧ SlT w' ad (graphL R a) ∧ RowKit.Below w.heap.size w w'
  refs : ∀ (w : World) (r : Nat) (O : Nat → Prop) (R : Rp), At w r O R → GoodR R →
    Calls Tryz.prog 14 #[.pointer (some ⟨r, 0, none⟩)] w fun e w' => ∃ ad ca, e = .returned (.slice ad R.refs.length ca) ∧ SlF w' ad R.refs ∧ RowKit.Below w.heap.size w w'
  commits : ∀ (w : World) (r : Nat) (O : Nat → Prop) (R : Rp), At w r O R → GoodR R →
    Calls Tryz.prog 39 #[.pointer (some ⟨r, 0, none⟩)] w fun e w' => ∃ ad ca, e = .returned (.slice ad R.coms.length ca) ∧ R.coms.length ≤ ca ∧ SlC w' ad R.coms ∧ (∀ b o, ad = some ⟨b, o, none⟩ → ∀ i, i < R.coms.length → ∀ a n c, w'.cell? ⟨b, o + i * 3, none⟩ = some (.slice a n c) → n ≤ c) ∧ RowKit.Below w.heap.size w w'
  object : ∀ (w : World) (r : Nat) (O : Nat → Prop) (R : Rp) (id : Int), At w r O R → GoodR R →
    Calls Tryz.prog 63 #[.pointer (some ⟨r, 0, none⟩), .int .i64 id] w fun e w' => e = .returned (.tuple #[.string ⟨(objB R.L id).toArray⟩, errV (objE R.L id)]) ∧ RowKit.Below w.heap.size w w'

theorem RFace.below (F : RFace) {w w' : World} {r : Nat} {O : Nat → Prop} {R : Rp} (h : F.At w r O R) (hb : RowKit.Below w.heap.size w w') : F.At w' r O R :=
  F.keep h fun j hj => hb.block j (F.own h j hj)
end Go.Proofs.YtnphjdckdkjopaaGreatDoor
