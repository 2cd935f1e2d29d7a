import Derived.Test.YtcdbcoaiadipjaaGreatMA0x5
import Derived.Test.YtcdbcoaiadipjaaGreatMA0x7
import Derived.Test.YtcdbcoaiadipjaaGreatMA0x0
import Derived.Test.YtcdbcoaiadipjaaGreatMA0x1
import Derived.Laws.Cover1
import Derived.Test.YtcdbcoaiadipjaaGreatMA0x3
import Derived.Deep.Draws
import Derived.RegionTactic
import Derived.Test.YtcdbcoaiadipjaaGreatRows
import Derived.WalkKit
import Derived.Maps.AppendAt
import Derived.OwnWalk
import Derived.Test.YtcdbcoaiadipjaaGreatMA0x6
import Derived.Deep.DeepCutAuto

/- A question as text, piece by piece; plain lists, no program. -/
namespace Go.Proofs.YtcdbcoaiadipjaaGreat
open Go Go.RowKit Go.Proofs
set_option synthInstance.maxSize 1000

/-- words with a blank ahead of each -/
def tailT : List (List UInt8) → List UInt8
  | [] => []
  | w :: r => 32 :: (w ++ tailT r)
theorem tailT_app (a b : List (List UInt8)) : tailT (a ++ b) = tailT a ++ tailT b := by
  induction a with
  | nil => rfl
  | cons x r ih => simp [tailT, ih]
theorem join_tail (w : List UInt8) (r : List (List UInt8)) : joinT (w :: r) = w ++ tailT r := by
  induction r generalizing w with
  | nil => simp [joinT, tailT]
  | cons x r ih => rw [joinT, ih]; rfl
/-- parts as words, the first one's word and the others' -/
def partsK : Nat → List Pt → List (List UInt8)
  | _, [] => []
  | n, p :: r => (if n = 0 then wWhere else wAnd) :: (partT p ++ partsK (n + 1) r)
theorem partsK_app (n : Nat) (a b : List Pt) : partsK n (a ++ b) = partsK n a ++ partsK (n + a.length) b := by
  induction a generalizing n with
  | nil => rfl
  | cons x r ih => simp [partsK, ih, Nat.add_comm, Nat.add_left_comm]
theorem partsK_and (n : Nat) : ∀ (l : List Pt), l ≠ [] → partsK (n + 1) l = wAnd :: partsT l
  | [], h => absurd rfl h
  | p :: r, _ => by
    rw [partsK, if_neg (by omega), partsT]
    by_cases hr : r = []
    · subst hr; simp [partsK]
    · rw [if_neg hr, partsK_and (n + 1) r hr]
theorem partsK_where {l : List Pt} (h : l ≠ []) : partsK 0 l = wWhere :: partsT l := by
  cases l with
  | nil => exact absurd rfl h
  | cons p r =>
    rw [partsK, if_pos rfl, partsT]
    by_cases hr : r = []
    · subst hr; simp [partsK]
    · rw [if_neg hr, partsK_and 0 r hr]
def headT (q : Qu) : List UInt8 := wSel ++ tailT (if q.dist = true then [wDist] else [])
/-- the text up to some of what is told -/
def varsT (q : Qu) (k : Nat) : List UInt8 := headT q ++ tailT ((q.vars.take k).map varT)
/-- and up to some parts -/
def partsX (q : Qu) (k : Nat) : List UInt8 := varsT q q.vars.length ++ tailT (partsK 0 (q.parts.take k))
theorem textQ_eq {q : Qu} (h : q.parts ≠ []) : textQ q = partsX q q.parts.length ++ (tailT (ordT q) ++ tailT (limT q)) := by
  unfold textQ wordsQ partsX varsT headT
  rw [join_tail, List.take_length, List.take_length, partsK_where h]
  simp [tailT_app, List.append_assoc, tailT]
theorem varsT_zero (q : Qu) : varsT q 0 = headT q := by simp [varsT, tailT]
theorem varsT_next (q : Qu) (k : Nat) (h : k < q.vars.length) : varsT q (k + 1) = varsT q k ++ 32 :: 63 :: q.vars[k] := by
  unfold varsT
  rw [List.take_succ_eq_append_getElem h, List.map_append, tailT_app]
  simp [tailT, varT]
theorem partsX_zero (q : Qu) : partsX q 0 = varsT q q.vars.length := by simp [partsX, partsK, tailT]
theorem partsX_next (q : Qu) (k : Nat) (h : k < q.parts.length) : partsX q (k + 1) = partsX q k ++ (32 :: (if k = 0 then wWhere else wAnd) ++ (32 :: slotT q.parts[k].1 ++ (32 :: slotT q.parts[k].2.1 ++ 32 :: slotT q.parts[k].2.2))) := by
  unfold partsX
  rw [List.take_succ_eq_append_getElem h, partsK_app, tailT_app, List.length_take, Nat.min_eq_left (by omega)]
  simp [tailT, partsK, partT, List.append_assoc]

/-! ### how long -/
theorem show_hun (k : Int) (S L : List UInt8) (h : checkN k S L = 0) : (showL k S L).length ≤ 100 := by
  obtain ⟨_, hS, hsp⟩ := check_zero h
  have hL := spell_lang hsp
  have h1 := quoteL_len S
  have h2 := markL_len L
  unfold showL
  repeat' split
  all_goals (simp; try omega)
theorem var_short {v : List UInt8} (h : spellV v = true) : v.length ≤ 10 := by
  unfold spellV at h
  simp at h
  omega
theorem slot_short {s : Sl} (h : slotN s = 0) : (slotT s).length ≤ 100 := by
  unfold slotT
  split
  · rename_i hs; exact show_hun _ _ _ (slot_term h hs)
  · rename_i hs
    have := var_short (slot_spell h hs).1
    simp [varT]
    omega
theorem head_short (q : Qu) : (headT q).length ≤ 15 := by
  unfold headT
  split <;> simp [wSel, wDist, tailT]
theorem varsT_short {q : Qu} (g : GoodQ q) : ∀ k, k ≤ q.vars.length → (varsT q k).length ≤ 15 + 12 * k
  | 0, _ => by rw [varsT_zero]; exact head_short q
  | k + 1, hk => by
    have ih := varsT_short g k (by omega)
    have := var_short (g.vars _ (List.getElem_mem (show k < q.vars.length by omega))).2
    rw [varsT_next q k (by omega)]
    simp
    omega
theorem partsX_short {q : Qu} (g : GoodQ q) : ∀ k, k ≤ q.parts.length → (partsX q k).length ≤ 15 + 12 * q.vars.length + 400 * k
  | 0, _ => by rw [partsX_zero]; have := varsT_short g q.vars.length (Nat.le_refl _); omega
  | k + 1, hk => by
    have ih := partsX_short g k (by omega)
    obtain ⟨h1, h2, h3⟩ := vars_zero (g.parts _ (List.getElem_mem (show k < q.parts.length by omega)))
    have s1 := slot_short h1
    have s2 := slot_short h2
    have s3 := slot_short h3
    have sw : (if k = 0 then wWhere else wAnd).length ≤ 5 := by split <;> simp [wWhere, wAnd]
    rw [partsX_next q k (by omega)]
    simp only [List.length_append, List.length_cons]
    omega
theorem nodup_le : ∀ (l m : List (List UInt8)), l.Nodup → (∀ v ∈ l, v ∈ m) → l.length ≤ m.length
  | [], m, _, _ => by simp
  | v :: r, m, hn, hs => by
    rw [List.nodup_cons] at hn
    have ih := nodup_le r (m.erase v) hn.2 (fun x hx => (List.mem_erase_of_ne (fun (e : x = v) => hn.1 (e ▸ hx))).2 (hs x (by simp [hx])))
    have h1 := List.length_erase_of_mem (hs v (by simp))
    have h2 : 0 < m.length := List.length_pos_of_mem (hs v (by simp))
    rw [List.length_cons]
    omega
theorem GoodQ.few {q : Qu} (g : GoodQ q) : q.vars.length ≤ 8 := Nat.le_trans (nodup_le _ _ g.once g.within) g.eight
theorem digits_long : ∀ (f n : Nat), n ≤ f → (digitsN n).length ≤ n + 1
  | 0, n, h => by rw [digits_lt (by omega)]; simp
  | f + 1, n, h => by
    by_cases hn : n < 10
    · rw [digits_lt hn]; simp
    · have := digits_long f (n / 10) (by omega)
      rw [digits_ge hn]
      simp
      omega
def ordX (q : Qu) : List UInt8 := if q.order = [] then [] else 32 :: (wOrder ++ 32 :: 63 :: q.order)
def downX (q : Qu) : List UInt8 := if q.down = true then 32 :: wDown else []
def limX (q : Qu) : List UInt8 := if 0 ≤ q.lim then 32 :: (wLimit ++ 32 :: digitsN q.lim.toNat) else []
theorem textQ_end {q : Qu} (g : GoodQ q) : textQ q = partsX q q.parts.length ++ (ordX q ++ (downX q ++ limX q)) := by
  rw [textQ_eq g.some]
  have h1 : tailT (ordT q) = ordX q ++ downX q := by
    unfold ordT ordX downX
    by_cases ho : q.order = []
    · have hd : ¬ q.down = true := fun h => g.down h ho
      simp [ho, hd, tailT]
    · by_cases hd : q.down = true
      · simp [ho, hd, tailT, varT]
      · simp [ho, hd, tailT, varT]
  have h2 : tailT (limT q) = limX q := by
    unfold limT limX
    split <;> simp [tailT]
  rw [h1, h2, List.append_assoc]
theorem text_short {q : Qu} (g : GoodQ q) : (partsX q q.parts.length).length ≤ 2600 := by
  have := partsX_short g q.parts.length (Nat.le_refl _)
  have := g.few
  have := g.six
  omega
theorem text_len {q : Qu} (h : askN q = 0) : (textQ q).length ≤ 10000 := by
  have g := ask_good h
  have h1 := text_short g
  have h2 : (ordX q).length ≤ 20 := by
    unfold ordX
    split
    · simp
    · rename_i ho
      have := var_short (g.vars _ (g.order.resolve_left ho)).2
      simp [wOrder]; omega
  have h3 : (downX q).length ≤ 10 := by unfold downX; split <;> simp [wDown]
  have h4 : (limX q).length ≤ 1000 := by
    unfold limX
    split
    · have hl := g.lim
      have := digits_long q.lim.toNat q.lim.toNat (Nat.le_refl _)
      simp [wLimit]; omega
    · simp
  rw [textQ_end g]
  simp only [List.length_append]
  omega
end Go.Proofs.YtcdbcoaiadipjaaGreat

/- What the laws of Solve ask, in plain words; plain lists, no program. -/
namespace Go.Proofs.YtcdbcoaiadipjaaGreat
open Go Go.RowKit Go.Proofs
set_option synthInstance.maxSize 1000

theorem solve_good {S : List Tr} {q : Qu} (h : solveN S q = 0) : IsSet S ∧ GoodQ q ∧ ∃ vars rows, answersL S q.parts = some (vars, rows) := by
  unfold solveN at h
  split at h
  · rename_i h1; exact absurd h h1
  · rename_i h1
    split at h
    · rename_i h2; exact absurd h h2
    · rename_i h2
      split at h
      · cases h
      · rename_i h3
        refine ⟨sortedN_set.1 (Classical.byContradiction h1), ask_good (Classical.byContradiction h2), ?_⟩
        cases ha : answersL S q.parts with
        | none => rw [ha] at h3; simp at h3
        | some v => exact ⟨v.1, v.2, rfl⟩
theorem proj_len (vars told : List (List UInt8)) (rows : List (List Tm)) : LenR told.length (rows.map (projR vars told)) := fun x hx => by
  obtain ⟨r, _, rfl⟩ := List.mem_map.1 hx
  simp [projR]
theorem sort_len (lt : List Tm → List Tm → Bool) (rows : List (List Tm)) : (sortR lt false rows).length = rows.length := by
  have := (fold_perm (lt := lt) (rows := rows) (out := [])).length_eq
  simpa [sortR] using this
theorem sort_mem {lt : List Tm → List Tm → Bool} {dist : Bool} {rows : List (List Tm)} {x : List Tm} : x ∈ sortR lt dist rows ↔ x ∈ rows := by
  unfold sortR
  simpa using fold_mem (lt := lt) (dist := dist) (rows := rows) (x := x) (out := [])
/-- the terms of a set are right -/
theorem set_term {S : List Tr} (h : IsSet S) {t : Tr} (ht : t ∈ S) {x : Tm} (hx : x = t.1 ∨ x = t.2.1 ∨ x = t.2.2) : tmChk x = 0 := by
  obtain ⟨h1, h2, h3, _⟩ := chk_zero (h.2.1 t ht)
  rcases hx with rfl | rfl | rfl
  · exact h1
  · exact h2
  · exact h3
theorem terms_zero : ∀ {l : List Tm}, (∀ x ∈ l, tmChk x = 0) → termsN l = 0
  | [], _ => rfl
  | x :: l, h => by
    rw [termsN, if_pos (h x (by simp))]
    exact terms_zero fun y hy => h y (by simp [hy])
theorem bindS_zero {vars : List (List UInt8)} {r : List Tm} {s : Sl} (hs : slotN s = 0) (hr : ∀ x ∈ r, tmChk x = 0) : slotN (bindS vars r s) = 0 := by
  cases hb : boundT vars r s.1 with
  | none => rw [bindS_none hb]; exact hs
  | some x =>
    rw [bindS_some hb]
    unfold slotN
    rw [if_pos rfl]
    exact hr x (bound_mem hb)
theorem bindP_zero {vars : List (List UInt8)} {r : List Tm} {p : Pt} (hp : varsN p = 0) (hr : ∀ x ∈ r, tmChk x = 0) : varsN (bindP vars r p) = 0 := by
  obtain ⟨h1, h2, h3⟩ := vars_zero hp
  unfold varsN bindP
  rw [if_pos (bindS_zero h1 hr), if_pos (bindS_zero h2 hr)]
  exact bindS_zero h3 hr
/-- each answer, with what it tells bound, is there -/
theorem answer_there {S : List Tr} {q : Qu} (hS : IsSet S) (g : GoodQ q) {vars : List (List UInt8)} {rows : List (List Tm)} (ha : answersL S q.parts = some (vars, rows)) {row : List Tm} (hr : row ∈ rows.map (projR vars q.vars)) {p : Pt} (hp : p ∈ q.parts) :
    bindN q.vars row p = 0 ∧ varsN (bindP q.vars row p) = 0 ∧ 1 ≤ (matchP S (bindP q.vars row p)).length ∧ ∀ x ∈ row, tmChk x = 0 := by
  obtain ⟨ok, _⟩ := answersL_ok ha
  obtain ⟨r, hr', rfl⟩ := List.mem_map.1 hr
  have hin : ∀ v ∈ q.vars, v ∈ vars := fun v hv => by
    rcases partsV_mem.1 (g.within v hv) with h | ⟨p', h1, h2⟩
    · cases h
    · exact ok.has p' h1 v h2
  have hgood : ∀ x ∈ projR vars q.vars r, tmChk x = 0 := fun x hx => by
    obtain ⟨v, hv, rfl⟩ := List.mem_map.1 hx
    have h0 := (g.vars v hv).1
    cases hb : boundT vars r v with
    | none => exact absurd (hin v hv) ((bound_none h0 (ok.len r hr')).1 hb)
    | some y =>
      obtain ⟨t, ht, hx'⟩ := ok.from_ r hr' y (bound_mem hb)
      exact set_term hS ht hx'
  have hv := g.parts p hp
  refine ⟨?_, bindP_zero hv hgood, ?_, hgood⟩
  · unfold bindN
    rw [if_neg (by simp [projR]), if_neg (by rw [terms_zero hgood]; simp)]
    exact hv
  · obtain ⟨t, ht, h1, h2, h3⟩ := ok.holds r hr' p hp
    have hm : t ∈ matchP S (bindP q.vars (projR vars q.vars r) p) := List.mem_filter.2 ⟨ht, told_fits h1 h2 h3⟩
    exact List.length_pos_of_mem hm
/-- the first of two rows' terms that are not the same -/
def cmpR : List Tm → List Tm → Int
  | x :: a, y :: b => if cmpTm x y = 0 then cmpR a b else cmpTm x y
  | _, _ => 0
theorem less_cmp : ∀ (a b : List Tm), lessR b a = false → cmpR a b ≤ 0
  | [], _, _ => by simp [cmpR]
  | x :: a, [], _ => by simp [cmpR]
  | x :: a, y :: b, h => by
    unfold lessR at h
    unfold cmpR
    have hn := cmpTm_neg x y
    by_cases e : cmpTm x y = 0
    · rw [if_pos e]
      rw [if_pos (by omega)] at h
      exact less_cmp a b h
    · rw [if_neg e]
      rw [if_neg (by omega)] at h
      simp at h
      omega
theorem sorted_next {lt : List Tm → List Tm → Bool} {l : List (List Tm)} (h : SortedR lt l) {i : Nat} (hi : i + 1 < l.length) : lt l[i + 1] (l[i]'(by omega)) = false := List.pairwise_iff_getElem.1 h i (i + 1) (by omega) hi (by omega)
theorem once_next {l : List (List Tm)} (h : l.Nodup) {i : Nat} (hi : i + 1 < l.length) : l[i]'(by omega) ≠ l[i + 1] := List.pairwise_iff_getElem.1 h i (i + 1) (by omega) hi (by omega)
theorem once_le : ∀ (l m : List (List Tm)), l.Nodup → (∀ v ∈ l, v ∈ m) → l.length ≤ m.length
  | [], m, _, _ => by simp
  | v :: r, m, hn, hs => by
    rw [List.nodup_cons] at hn
    have ih := once_le r (m.erase v) hn.2 (fun x hx => (List.mem_erase_of_ne (fun (e : x = v) => hn.1 (e ▸ hx))).2 (hs x (by simp [hx])))
    have h1 := List.length_erase_of_mem (hs v (by simp))
    have h2 : 0 < m.length := List.length_pos_of_mem (hs v (by simp))
    rw [List.length_cons]
    omega
theorem sort_sorted (q : Qu) (dist : Bool) {vars : List (List UInt8)} {rows : List (List Tm)} : SortedR (ltQ q) (sortR (ltQ q) dist (rows.map (projR vars q.vars))) :=
  fold_sorted (ordQ q q.vars.length) (proj_len vars q.vars rows) (fun x hx => (by cases hx)) List.Pairwise.nil
theorem sort_once (lt : List Tm → List Tm → Bool) (rows : List (List Tm)) : (sortR lt true rows).Nodup := fold_once List.nodup_nil
theorem where_none {q : Qu} (g : GoodQ q) (h : q.order = []) : whereV q.vars q.order = none := by
  unfold whereV
  rw [h, if_neg (fun h' => (g.vars _ h').1 rfl)]
theorem lt_none {q : Qu} (g : GoodQ q) (h : q.order = []) : ltQ q = lessR := by
  funext a b
  unfold ltQ aheadB byC
  rw [where_none g h]
  simp

/-! ### what does not matter -/
def plainQ (q : Qu) : Qu := { q with lim := -1, dist := false }
theorem ask_dist (q : Qu) (b : Bool) : askN { q with dist := b } = askN q := rfl
theorem ask_lim {q : Qu} {n : Int} (h : -1 ≤ q.lim ∧ q.lim ≤ 500) (hn : -1 ≤ n ∧ n ≤ 500) : askN { q with lim := n } = askN q := by
  unfold askN
  dsimp only
  have e1 : (q.lim < -1 ∨ 500 < q.lim) ↔ (n < -1 ∨ 500 < n) := by omega
  simp only [e1]

/-! ### turned -/
theorem one_turn {a b : List Tm} (ha : a.length = 1) (hb : b.length = 1) : aheadB (some 0) true a b = aheadB (some 0) false b a := by
  match a, b, ha, hb with
  | [x], [y], _, _ =>
    have hn := cmpTm_neg x y
    have e1 : byC (some 0) true [x] [y] = byC (some 0) false [y] [x] := by simp [byC]; omega
    unfold aheadB
    rw [e1]
    by_cases h : byC (some 0) false [y] [x] = 0
    · have h' : cmpTm y x = 0 := by simpa [byC] using h
      have hxy := tmZ.1 h'
      subst hxy
      rfl
    · simp [h]
theorem turned_rows {rows : List (List Tm)} (hn : LenR 1 rows) : sortR (aheadB (some 0) true) true rows = (sortR (aheadB (some 0) false) true rows).reverse := by
  have o : ∀ d, OrdR (aheadB (some 0) d) 1 := fun d => ⟨fun a => ahead_irr _ _ a, fun h1 h2 => ahead_trans h1 h2, fun h1 h2 h3 h4 => ahead_total (h1.trans h2.symm) h3 h4⟩
  have hu : SortedR (aheadB (some 0) false) (sortR (aheadB (some 0) false) true rows) := fold_sorted (o false) hn (fun x hx => (by cases hx)) List.Pairwise.nil
  refine (sortR_once (o true) hn ?_ ((List.reverse_perm _).nodup_iff.2 (sort_once _ _)) (fun x => by rw [List.mem_reverse]; exact sort_mem)).symm
  unfold SortedR
  rw [List.pairwise_reverse]
  refine List.Pairwise.imp_of_mem (fun {a b} ha hb h => ?_) hu
  rw [one_turn (hn a (sort_mem.1 ha)) (hn b (sort_mem.1 hb))]
  exact h
end Go.Proofs.YtcdbcoaiadipjaaGreat

/- What solve.meet makes of answers is what the document's step makes; plain lists. -/
namespace Go.Proofs.YtcdbcoaiadipjaaGreat
open Go Go.RowKit Go.Proofs
set_option synthInstance.maxSize 1000

theorem atK_filter {α : Type} (key : Ev → Tr) (c : Tr) (h : Ev → α) : ∀ (L : List Ev) (m : Nat), m ≤ L.length → (atK (L.map key) c m).map (fun j => h (L.getD j noneE)) = ((L.take m).filter fun g => decide (key g = c)).map h
  | L, 0, _ => by simp [atK]
  | L, m + 1, hm => by
    have ih := atK_filter key c h L m (by omega)
    have hlt : m < L.length := by omega
    have hg : (L.map key)[m]? = some (key L[m]) := by rw [List.getElem?_map, List.getElem?_eq_getElem hlt]; rfl
    rw [List.take_succ_eq_append_getElem hlt, List.filter_append, List.map_append, ← ih]
    by_cases e : key L[m] = c
    · rw [atK_hit (by rw [hg, e]), List.map_append]
      simp [e, List.getElem?_eq_getElem hlt]
    · rw [atK_miss hg (fun h => e h.symm)]
      simp [e]
theorem meetOne_filter (sh : List (List UInt8)) (Lb : List Ev) (f : Ev) : meetOne sh Lb f = (Lb.filter fun g => decide (keyT sh g = keyT sh f)).map (bothE f) := by
  unfold meetOne
  rw [atK_filter (keyT sh) (keyT sh f) (bothE f) Lb Lb.length (Nat.le_refl _), List.take_length]
theorem meet_step {S : List Tr} {vars : List (List UInt8)} {p : Pt} {rows : List (List Tm)} {sh : List (List UInt8)} (hl : ∀ r ∈ rows, r.length = vars.length) (hs : rows ≠ [] → matchP S p ≠ [] → SharedV vars p sh ∧ sh.length ≤ 3) :
    meetE sh (rows.map (boundT vars)) ((matchP S p).map (evT p)) = (stepR S vars p rows).map (boundT (vars ++ freshV vars p)) := by
  by_cases hM : matchP S p = []
  · rw [hM, List.map_nil, meet_none_b, step_meet hl, hM]
    have : rows.flatMap (meetR vars p []) = [] := by
      rw [List.flatMap_eq_nil_iff]
      intro r _
      rfl
    rw [this]
    rfl
  · rw [step_meet hl]
    unfold meetE
    rw [List.flatMap_map, List.map_flatMap, List.flatMap_def, List.flatMap_def]
    congr 1
    apply List.map_congr_left
    intro r hr
    obtain ⟨h1, h2⟩ := hs (fun e => by rw [e] at hr; cases hr) hM
    rw [meetOne_filter, List.filter_map, List.map_map]
    unfold meetR
    rw [List.map_map]
    have e1 : ((fun g => decide (keyT sh g = keyT sh (boundT vars r))) ∘ evT p) = agreeB vars p r := by
      funext t
      exact key_agree h1 h2 (hl r hr)
    rw [e1]
    apply List.map_congr_left
    intro t ht
    obtain ⟨ht1, ht2⟩ := List.mem_filter.1 ht
    have hf : fitsB p t = true := (List.mem_filter.1 ht1).2
    exact (ext_ev (hl r hr) hf ht2).symm
theorem shared_v {S : List Tr} {vars : List (List UInt8)} {p : Pt} {rows : List (List Tm)} {sh : List (List UInt8)} (hl : ∀ r ∈ rows, r.length = vars.length) (hp : ∀ v ∈ varsL p, v.length ≤ maxLen) (h : SharedE (rows.map (boundT vars)) ((matchP S p).map (evT p)) sh) (h1 : rows ≠ []) (h2 : matchP S p ≠ []) : SharedV vars p sh ∧ sh.length ≤ 3 := by
  obtain ⟨r, R, rfl⟩ : ∃ r R, rows = r :: R := by
    cases rows with
    | nil => exact absurd rfl h1
    | cons r R => exact ⟨r, R, rfl⟩
  obtain ⟨t, M, hM⟩ : ∃ t M, matchP S p = t :: M := by
    cases hm : matchP S p with
    | nil => exact absurd hm h2
    | cons t M => exact ⟨t, M, rfl⟩
  obtain ⟨n1, n2, n3⟩ := h
  have hr := hl r (by simp)
  have key : ∀ v, v ∈ sh ↔ v ∈ vars ∧ v ∈ varsL p := fun v => by
    have q : ∀ hv : v.length ≤ maxLen, (v ∈ sh ↔ v ∈ vars ∧ v ∈ varsL p) := fun hv => by
      rw [n3 v hv, hM]
      show ((evT p t v).isSome = true ∧ (boundT vars r v).isSome = true) ↔ _
      constructor
      · rintro ⟨a, b⟩
        have hv2 : v ∈ varsL p := Classical.byContradiction fun hn => by rw [evT_none.2 hn] at a; cases a
        refine ⟨Classical.byContradiction fun hn => ?_, hv2⟩
        rw [(bound_none (varsL_mem.1 hv2).1 hr).2 hn] at b
        cases b
      · rintro ⟨a, b⟩
        constructor
        · cases he : evT p t v with
          | none => exact absurd b (evT_none.1 he)
          | some x => rfl
        · cases he : boundT vars r v with
          | none => exact absurd a ((bound_none (varsL_mem.1 b).1 hr).1 he)
          | some x => rfl
    constructor
    · intro hv; exact (q (n2 v hv)).1 hv
    · intro hv; exact (q (hp v hv.2)).2 hv
  exact ⟨⟨n1, key⟩, shared_few n1 (fun v hv => ((key v).1 hv).2) (varsL_few p)⟩
theorem wfK_chk {x : Tm} (h : tmChk x = 0) : wfK x := by
  obtain ⟨hk, hS, hsp⟩ := check_zero h
  have := spell_lang hsp
  refine ⟨?_, by unfold maxLen; omega, by unfold maxLen; omega⟩
  rcases hk with h | h | h <;> rw [h] <;> decide
theorem wfE_bound {S : List Tr} (hS : IsSet S) {vars : List (List UInt8)} {r : List Tm} (h : ∀ x ∈ r, ∃ t ∈ S, x = t.1 ∨ x = t.2.1 ∨ x = t.2.2) : WfE (boundT vars r) := fun v x hx => by
  obtain ⟨t, ht, e⟩ := h x (bound_mem hx)
  exact wfK_chk (set_term hS ht e)
theorem wfE_evT {S : List Tr} (hS : IsSet S) {p : Pt} {t : Tr} (ht : t ∈ S) : WfE (evT p t) := fun v x hx => by
  unfold evT at hx
  split at hx
  · cases hx
  · split at hx
    · exact wfK_chk (set_term hS ht (by injection hx with hx; exact Or.inr (Or.inr hx.symm)))
    · split at hx
      · exact wfK_chk (set_term hS ht (by injection hx with hx; exact Or.inr (Or.inl hx.symm)))
      · split at hx
        · exact wfK_chk (set_term hS ht (by injection hx with hx; exact Or.inl hx.symm))
        · cases hx
end Go.Proofs.YtcdbcoaiadipjaaGreat

/- The document's answer (package strataref1): letter, digit, Letters, right. -/
namespace Go.Proofs.YtcdbcoaiadipjaaGreat
open Go Go.RowKit Go.Proofs

theorem allL_take (p : Int → Bool) (S : List UInt8) (k : Nat) (h : k < S.length) : allB p (S.take (k + 1)) = (allB p (S.take k) && p (S[k].toNat : Int)) := by
  unfold allB
  rw [List.take_succ_eq_append_getElem h]
  simp only [List.all_append, List.all_cons, List.all_nil, Bool.and_true]

theorem allL_false (p : Int → Bool) (S : List UInt8) (k : Nat) (h : k < S.length) (hp : p (S[k].toNat : Int) = false) : allB p S = false := by
  unfold allB
  rw [List.all_eq_false]
  exact ⟨S[k], List.getElem_mem _, by rw [hp]; simp⟩

/-- one to two letters -/
def lettersB (L : List UInt8) : Bool := !L.isEmpty && (decide (L.length ≤ 2) && allB letB L)

end Go.Proofs.YtcdbcoaiadipjaaGreat

/- The document's answer (package strataref1): right at a name and at an anonymous one; Term. -/
namespace Go.Proofs.YtcdbcoaiadipjaaGreat
open Go Go.RowKit Go.Proofs

theorem anonOk_eq (L : List UInt8) (h : ¬ L = []) : anonOk L = allB anonB L := by cases L <;> simp_all [anonOk]
theorem nameOk_eq (L : List UInt8) (h : 0 < L.length) : nameOk L = (letB (L[0].toNat : Int) && allB nameB L) := by
  cases L with
  | nil => simp at h
  | cons => rfl

end Go.Proofs.YtcdbcoaiadipjaaGreat

/- The document's answer (package strataref1): Term, Compare, Show. -/
namespace Go.Proofs.YtcdbcoaiadipjaaGreat
open Go Go.RowKit Go.Proofs

theorem ret_i64 {a b : Int} (h : a = b) : Ending.returned (.int .i64 a) = .returned (.int .i64 b) := by rw [h]

theorem letters_lang (L : List UInt8) (h : L.length = 2) : lettersB L = langOk L := by
  cases L with
  | nil => simp at h
  | cons c r => simp [lettersB, langOk, h]

theorem RCompare_kind (k : Int) (S L : List UInt8) (k' : Int) (S' L' : List UInt8) (w : World) (h : k ≠ k') :
    Calls Tryz.prog 9 #[.agg #[.int .i64 k, .string ⟨S.toArray⟩, .string ⟨L.toArray⟩], .agg #[.int .i64 k', .string ⟨S'.toArray⟩, .string ⟨L'.toArray⟩]] w fun e w' => e = .returned (.int .i64 (cmpT k S L k' S' L')) ∧ Below w.heap.size w w' := by
  have fin : Hid (cmpT k S L k' S' L' = Lib.compareInt k k') := by
    have : Lib.compareInt k k' ≠ 0 := fun e => h ((ci_zero _ _).1 e)
    simp [Hid, cmpT, orI, this]
  have hb : (k != k') = true := by simpa using h
  by_cases hlt : k < k'
  · go_enter Tryz.func9, Tryz.ntmps9
    go_wp2
    go_ret
    exact ⟨ret_i64 (by rw [fin.out]; simp [Lib.compareInt, hlt]), bstep (balloc _ _) (balloc _ _)⟩
  · have hgt : k' < k := by omega
    go_enter Tryz.func9, Tryz.ntmps9
    go_wp2
    go_ret
    exact ⟨ret_i64 (by rw [fin.out]; simp [Lib.compareInt, hlt, hgt]), bstep (balloc _ _) (balloc _ _)⟩

theorem less_cb (a : List UInt8) : ∀ b, Op.bytesLess a b = decide (Lib.compareBytes a b < 0) := by
  induction a with
  | nil => intro b; cases b <;> simp [Op.bytesLess, Lib.compareBytes]
  | cons x xs ih =>
    intro b
    cases b with
    | nil => simp [Op.bytesLess, Lib.compareBytes]
    | cons y ys =>
      by_cases h1 : x < y
      · simp [Op.bytesLess, Lib.compareBytes, h1]
      · by_cases h2 : y < x
        · have hne : (x == y) = false := by
            rw [beq_eq_false_iff_ne]; rintro rfl; exact absurd h2 (by simp)
          simp [Op.bytesLess, Lib.compareBytes, h1, h2, hne]
        · have : x = y := UInt8.le_antisymm (UInt8.not_lt.1 h2) (UInt8.not_lt.1 h1)
          subst this
          simp [Op.bytesLess, Lib.compareBytes, ih]

theorem cbr (a : List UInt8) : ∀ b, -1 ≤ Lib.compareBytes a b ∧ Lib.compareBytes a b ≤ 1 := by
  induction a with
  | nil => intro b; cases b <;> simp [Lib.compareBytes]
  | cons x xs ih =>
    intro b
    cases b with
    | nil => simp [Lib.compareBytes]
    | cons y ys =>
      by_cases h1 : x < y
      · simp [Lib.compareBytes, h1]
      · by_cases h2 : y < x
        · simp [Lib.compareBytes, h1, h2]
        · simp only [Lib.compareBytes, h1, h2, if_false]; exact ih ys

theorem cb_val (a b : List UInt8) : Lib.compareBytes a b = if Op.bytesLess a b = true then -1 else if a = b then 0 else 1 := by
  have h1 := less_cb a b
  have h2 := cb_zero a b
  have h3 := cbr a b
  by_cases h : Lib.compareBytes a b < 0
  · rw [h1]; simp only [h, decide_true, if_true]; omega
  · rw [h1]
    simp only [h, decide_false, Bool.false_eq_true, if_false]
    by_cases e : a = b
    · rw [if_pos e]; exact h2.2 e
    · rw [if_neg e]
      have : Lib.compareBytes a b ≠ 0 := fun q => e (h2.1 q)
      omega

theorem cmpT_same (k : Int) (S L S' L' : List UInt8) : cmpT k S L k S' L' = if S = S' then Lib.compareBytes L L' else Lib.compareBytes S S' := by
  have h1 : Lib.compareInt k k = 0 := (ci_zero k k).2 rfl
  have h2 := cb_zero S S'
  unfold cmpT orI
  rw [h1, if_pos rfl]
  by_cases e : S = S'
  · rw [if_pos (h2.2 e), if_pos e]
  · rw [if_neg (fun q => e (h2.1 q)), if_neg e]

theorem RCompare_rest (k : Int) (S L : List UInt8) (S' L' : List UInt8) (w : World) :
    Calls Tryz.prog 9 #[.agg #[.int .i64 k, .string ⟨S.toArray⟩, .string ⟨L.toArray⟩], .agg #[.int .i64 k, .string ⟨S'.toArray⟩, .string ⟨L'.toArray⟩]] w fun e w' => e = .returned (.int .i64 (cmpT k S L k S' L')) ∧ Below w.heap.size w w' := by
  have fin : Hid (cmpT k S L k S' L' = if S = S' then Lib.compareBytes L L' else Lib.compareBytes S S') := cmpT_same k S L S' L'
  by_cases hS : S = S'
  · subst hS
    cases hl : Op.bytesLess L L'
    · by_cases hL : L = L'
      · have hb : (L == L') = true := by simpa using hL
        have v : Hid (Lib.compareBytes L L' = 0) := (cb_zero L L').2 hL
        clear hL
        go_enter Tryz.func9, Tryz.ntmps9
        go_wp2
        go_ret
        exact ⟨ret_i64 (by rw [fin.out, v.out]; rfl), bstep (balloc _ _) (balloc _ _)⟩
      · have hb : (L == L') = false := by simpa using hL
        have v : Hid (Lib.compareBytes L L' = 1) := by show _ = _; rw [cb_val, hl]; simp [hL]
        clear hL
        go_enter Tryz.func9, Tryz.ntmps9
        go_wp2
        go_ret
        exact ⟨ret_i64 (by rw [fin.out, v.out]; rfl), bstep (balloc _ _) (balloc _ _)⟩
    · have v : Hid (Lib.compareBytes L L' = -1) := by show _ = _; rw [cb_val, hl]; simp
      go_enter Tryz.func9, Tryz.ntmps9
      go_wp2
      go_ret
      exact ⟨ret_i64 (by rw [fin.out, v.out]; rfl), bstep (balloc _ _) (balloc _ _)⟩
  · have hb : (S == S') = false := by simpa using hS
    have fin2 : Hid (cmpT k S L k S' L' = Lib.compareBytes S S') := fin.out.trans (if_neg hS)
    have v := cb_val S S'
    rw [if_neg hS] at v
    have V : Hid (Lib.compareBytes S S' = if Op.bytesLess S S' = true then -1 else 1) := v
    clear hS v
    cases hl : Op.bytesLess S S'
    all_goals
      go_enter Tryz.func9, Tryz.ntmps9
      go_wp2
      go_ret
      exact ⟨ret_i64 (by rw [fin2.out, V.out, hl]; rfl), bstep (balloc _ _) (balloc _ _)⟩

theorem RCompare_any (k : Int) (S L : List UInt8) (k' : Int) (S' L' : List UInt8) (w : World) :
    Calls Tryz.prog 9 #[.agg #[.int .i64 k, .string ⟨S.toArray⟩, .string ⟨L.toArray⟩], .agg #[.int .i64 k', .string ⟨S'.toArray⟩, .string ⟨L'.toArray⟩]] w fun e w' => e = .returned (.int .i64 (cmpT k S L k' S' L')) ∧ Below w.heap.size w w' := by
  by_cases h : k = k'
  · subst h; exact RCompare_rest k S L S' L' w
  · exact RCompare_kind k S L k' S' L' w h
end Go.Proofs.YtcdbcoaiadipjaaGreat

/- The document's Vars, and what it leans on: Slots, Three, Letters up to ten, Has; lists of texts held against one another. -/
namespace Go.Proofs.YtcdbcoaiadipjaaGreat
open Go Go.RowKit Go.Proofs Go.Maps
set_option synthInstance.maxSize 1000

/-- one to ten letters -/
def lettersTenB (L : List UInt8) : Bool := !L.isEmpty && (decide (L.length ≤ 10) && allB letB L)
theorem ten_spell {v : List UInt8} (h : ¬ v = []) : lettersTenB v = spellV v := by
  cases v with
  | nil => exact absurd rfl h
  | cons c r => rfl

theorem mem_false {l : List (List UInt8)} {x : List UInt8} (h : ∀ j (hj : j < l.length), ¬ l[j] = x) : decide (x ∈ l) = false := by
  rw [decide_eq_false_iff_not]
  intro hm
  obtain ⟨j, hj, e⟩ := List.getElem_of_mem hm
  exact h j hj e

theorem take_sameV {l m : List (List UInt8)} {k : Nat} (h : l.take k = m.take k) (hl : k < l.length) (hm : k < m.length) (e : l[k] = m[k]) : l.take (k + 1) = m.take (k + 1) := by
  rw [List.take_succ_eq_append_getElem hl, List.take_succ_eq_append_getElem hm, h, e]

end Go.Proofs.YtcdbcoaiadipjaaGreat

/- Has and stratasame.Texts of lists of texts, wherever these begin. -/
namespace Go.Proofs.YtcdbcoaiadipjaaGreat
open Go Go.RowKit Go.Proofs Go.Maps
set_option synthInstance.maxSize 1000

end Go.Proofs.YtcdbcoaiadipjaaGreat

/- Rows of one's own that lie in blocks of their own. -/
namespace Go.Proofs.YtcdbcoaiadipjaaGreat
open Go Go.RowKit Go.Proofs

theorem own_mono {W : World} {B C e s n : Nat} {v : Value} {xs : List Value} (h : W.ownsRow B e s v n xs) (hb : C ≤ B) : W.ownsRow C e s v n xs :=
  ⟨h.1, h.2.imp id fun ⟨g, cap, cur, e, hg, r⟩ => ⟨g, cap, cur, e, Nat.le_trans hb hg, r⟩⟩
/-- two rows of one's own lie in blocks of their own -/
def Far2 (v u : Value) : Prop := ∀ g, v.ownBlock = some g → u.ownBlock ≠ some g
theorem Far2.symm {v u : Value} (h : Far2 v u) : Far2 u v := fun g h1 h2 => h g h2 h1
theorem Far2.out {v u : Value} (h : Far2 v u) : u.ownBlock = none ∨ u.ownBlock ≠ v.ownBlock := by
  cases e : u.ownBlock with
  | none => exact .inl rfl
  | some g => exact .inr fun e' => h g e'.symm e
theorem far2_nil (u : Value) : Far2 (.slice none 0 0) u := fun g h => by cases h
theorem Far2.grow {v v' u : Value} {W : World} {B e s n : Nat} {ys : List Value} (h : Far2 v u) (hu : W.ownsRow B e s u n ys) (hv : v'.ownBlock = v.ownBlock ∨ v'.ownBlock = some W.heap.size) : Far2 v' u := fun g h1 h2 => by
  rcases hv with hv | hv
  · exact h g (hv ▸ h1) h2
  · rw [hv] at h1
    cases h1
    have := (hu.lt _ h2).2
    omega
end Go.Proofs.YtcdbcoaiadipjaaGreat

/- The document's Vars: the walk. -/
namespace Go.Proofs.YtcdbcoaiadipjaaGreat
open Go Go.RowKit Go.Proofs Go.Maps
set_option synthInstance.maxSize 1000

attribute [local go_sem ↓] eqlEmpty neqEmpty

end Go.Proofs.YtcdbcoaiadipjaaGreat

/- The document's Vars of a question (package strataref3). -/
namespace Go.Proofs.YtcdbcoaiadipjaaGreat
open Go Go.RowKit Go.Proofs Go.Maps
set_option synthInstance.maxSize 1000

theorem addAll_step (o l : List (List UInt8)) (k : Nat) (h : k < l.length) : addAll o (l.take (k + 1)) = if l[k] ∈ addAll o (l.take k) then addAll o (l.take k) else addAll o (l.take k) ++ [l[k]] := by
  induction l generalizing o k with
  | nil => simp at h
  | cons x r ih =>
    cases k with
    | zero => simp [addAll]
    | succ k =>
      have h' : k < r.length := by simpa using h
      simp only [List.take_succ_cons, addAll, List.getElem_cons_succ]
      exact ih _ k h'
theorem addAll_len (o l : List (List UInt8)) : (addAll o l).length ≤ o.length + l.length := by
  induction l generalizing o with
  | nil => simp [addAll]
  | cons x r ih =>
    have := ih (if x ∈ o then o else o ++ [x])
    unfold addAll
    split at this
    · rename_i hx; rw [if_pos hx]; simp; omega
    · rename_i hx; rw [if_neg hx]; simp at this ⊢; omega
theorem varsL_len (p : Pt) : (varsL p).length ≤ 3 := by
  have q : ∀ l s, (addV l s).length ≤ l.length + 1 := fun l s => by
    unfold addV
    split
    · omega
    · split
      · omega
      · simp
  have h1 := q [] p.1
  have h2 := q (addV [] p.1) p.2.1
  have h3 := q (addV (addV [] p.1) p.2.1) p.2.2
  unfold varsL
  simp at h1
  omega

/-- an append of a text to a row of one's own: just that row turns -/
theorem wpList_append_text {ops : Array Oper} {rest : List Oper} {o : Oper} {a : Act} {Q : Exit → Act → World → Prop} (w : World) (hgd : o.guard = none) (s x : Operand)
    (ho : o.op = .call { callee := .builtin .append, args := #[s, x], argTypes := #[23, 23] })
    (base B : Nat) (v : Value) (t : List (List UInt8)) (y : List UInt8) (hs : a.eval s = v) (hx : a.eval x = .slice (some ⟨B, 0, none⟩) 1 1) (hown : w.ownsRow base 9 1 v t.length (t.map encV))
    (hy : w.cell? ⟨B, 0, none⟩ = some (.string ⟨y.toArray⟩)) (h63 : t.length ≤ 1000000000000) (hbase : base ≤ w.heap.size)
    (h : ∀ v' w', w'.ownsRow base 9 1 v' (t ++ [y]).length ((t ++ [y]).map encV) → w.grownBy w' v.ownBlock → (v'.ownBlock = v.ownBlock ∨ v'.ownBlock = some w.heap.size) → wpList Tryz.prog ops Q rest (a.put o.dst v') w') : wpList Tryz.prog ops Q (o :: rest) a w := by
  obtain ⟨i0, hi, hz⟩ := Option.map_eq_some_iff.1 infoStrV
  simp only [Prod.mk.injEq] at hz
  obtain ⟨hz0, hz1, hz2⟩ := hz
  refine wpList_append_own_at _ hgd s x _ ho base 9 i0 (.string ByteArray.empty) 1 16 Tryz.underlying23 hi hz0 hz1 hz2 rfl (by decide) v t.length (t.map encV) hs hown ⟨B, 0, none⟩ 1 1 [encV y] hx rfl ?_ (by simp [encV, Value.oneCell']) (by unfold maxLen; omega) (by omega) hbase ?_
  · intro j u hj
    have h1 : j < 1 := (List.getElem?_eq_some_iff.1 hj).1
    obtain rfl : j = 0 := by omega
    simp at hj
    subst hj
    rw [Addr.add_lit]
    exact hy
  · intro v' w' h2 h3 _ h5
    refine h v' w' ?_ h3 h5
    simpa using h2

end Go.Proofs.YtcdbcoaiadipjaaGreat

/- ask.varsOf: the variables of all parts, or what is wrong with them; slices.Contains at texts. -/
namespace Go.Proofs.YtcdbcoaiadipjaaGreat
open Go Go.RowKit Go.Proofs Go.Maps
set_option synthInstance.maxSize 1000

attribute [local go_sem] eql_errV neq_errV guard_errV

theorem ContainsW_any (ad : Option Addr) (cap : Nat) (l : List (List UInt8)) (x : List UInt8) (w : World) (h : SlW w ad l) (hn : l.length ≤ 9223372036854775807) :
    Calls Tryz.prog 23 #[.slice ad l.length cap, .string ⟨x.toArray⟩] w fun e w' => e = .returned (.bool (decide (x ∈ l))) ∧ w' = w := by
  cases hl : l with
  | nil =>
    simpa using Tryz.slices_Contains_string_empty ad cap ⟨x.toArray⟩ w
  | cons c r =>
    rw [← hl]
    obtain ⟨b, o, rfl, hr⟩ := h (by rw [hl]; simp)
    refine (Tryz.slices_Contains_string b o l.length cap (l.map fun v => ⟨v.toArray⟩) ⟨x.toArray⟩ w (by simp) (by omega) ?_).mono ?_
    · intro j hj
      have hj' : j < l.length := by simpa using hj
      rw [hr j hj']
      simp [encV, List.getD_eq_getElem?_getD, List.getElem?_eq_getElem hj']
    · rintro e w' ⟨rfl, rfl⟩
      refine ⟨ret_bool ?_, rfl⟩
      rw [show l.length = (l.map fun v => (⟨v.toArray⟩ : ByteArray)).length by simp, List.take_length, Bool.eq_iff_iff, Lib.containsS_iff]
      simp only [List.mem_map, decide_eq_true_eq]
      constructor
      · rintro ⟨v, hv, e⟩
        have := congrArg (fun s : ByteArray => s.data.toList) e
        simp at this
        exact this ▸ hv
      · intro hx
        exact ⟨x, hx, rfl⟩
/-- what varsOf tells of parts -/
def vofN (L : List Pt) : Int := if 6 < L.length then 4 else if L = [] then 5 else if partsN L ≠ 0 then partsN L else if 8 < (partsV [] L).length then 4 else 0
def VofAns (L : List Pt) (w : World) (e : Ending) (w' : World) : Prop := ∃ m ad cap, e = .returned (.tuple #[.slice ad m.length cap, errV (vofN L)]) ∧ SlW w' ad m ∧ m.length ≤ 100 ∧ (vofN L = 0 → m = partsV [] L) ∧ RowKit.Below w.heap.size w w'
theorem vof_nil {L : List Pt} {w w' : World} {n : Int} (h : vofN L = n) (hn : n ≠ 0) (hb : RowKit.Below w.heap.size w w') : VofAns L w (.returned (.tuple #[.slice none 0 0, errV n])) w' :=
  ⟨[], none, 0, by rw [h]; rfl, slW_nil _ _, by simp, fun h0 => absurd (h.symm.trans h0) hn, hb⟩

set_option maxHeartbeats 16000000 in
set_option maxRecDepth 100000 in
theorem VarsOf_any (L : List Pt) (pd : Option Addr) (pc : Nat) (w : World) (h : SlPt w pd L) (hf : ∀ p ∈ L, fitPt p) (hl : L.length ≤ 9223372036854775807) :
    Calls Tryz.prog 50 #[.slice pd L.length pc] w (VofAns L w) := by
  obtain ⟨Q, hQ⟩ : ∃ Q, Q = VofAns L w := ⟨_, rfl⟩
  have HQ : Hid (∀ e w', VofAns L w e w' → Q e w') := fun e w' h => by rw [hQ]; exact h
  rw [← hQ]
  clear hQ
  by_cases h6 : 6 < L.length
  · have d1 : decide ((L.length : Int) > 6) = true := by simp; omega
    have fin := hideQ (show vofN L = 4 by unfold vofN; rw [if_pos h6])
    go_enter Tryz.func50, Tryz.ntmps50
    go_wp2_with fail
    exact HQ.out _ _ (vof_nil fin.out (by decide) (RowKit.Below.refl _ _))
  · have d1 : decide ((L.length : Int) > 6) = false := by simp; omega
    by_cases h0 : L = []
    · have d2 : ((L.length : Int) == 0) = true := by simp [h0]
      have fin := hideQ (show vofN L = 5 by unfold vofN; rw [if_neg h6, if_pos h0])
      clear h0
      go_enter Tryz.func50, Tryz.ntmps50
      go_wp2_with fail
      exact HQ.out _ _ (vof_nil fin.out (by decide) (RowKit.Below.refl _ _))
    · have d2 : ((L.length : Int) == 0) = false := by simp; exact h0
      have f1 := hideQ (fun h => show vofN L = partsN L by unfold vofN; rw [if_neg h6, if_neg h0, if_pos h])
      have f2 := hideQ (fun h h' => show vofN L = 4 by unfold vofN; rw [if_neg h6, if_neg h0, if_neg (fun k => k h), if_pos h'])
      have f3 := hideQ (fun h h' => show vofN L = 0 by unfold vofN; rw [if_neg h6, if_neg h0, if_neg (fun k => k h), if_neg h'])
      have Hp := hideQ h
      have Hf := hideQ hf
      clear h hf h0
      generalize hPN : partsN L = N at *
      have HPN := hideQ hPN
      generalize hPV : partsV [] L = V at *
      have HPV := hideQ hPV
      clear hPN hPV
      go_enter Tryz.func50, Tryz.ntmps50
      go_wp2_with fail
      go_loopw [4, 23] (fun v i wr => ∃ (k : Nat) (o : List (List UInt8)), k ≤ L.length ∧ i = .int .i64 k ∧ o.length ≤ 3 * k ∧ Hid (wr.ownsRow w.heap.size 9 1 v o.length (o.map encV)) ∧ Hid (N = partsN (L.drop k)) ∧ Hid (V = partsV o (L.drop k)) ∧ RowKit.Below w.heap.size w wr) (fun _ i wr => L.length - (intOf i).toNat)
      case atStart => exact ⟨0, [], Nat.zero_le _, rfl, by simp, World.ownsRow_nil _ _ _ _, HPN.out.symm, HPV.out.symm, RowKit.Below.refl _ _⟩
      case round =>
        obtain ⟨k, o, hk, rfl, hol, hown, hN, hV, hbr⟩ := hrel
        by_cases hlt : k < L.length
        · obtain ⟨b, off, rfl, hrow⟩ := (Hp.out.below hbr).at k hlt
          have hat := hrow.at k hlt
          have e0 := hat 0 _ rfl
          have e1 := hat 1 _ rfl
          have e2 := hat 2 _ rfl
          have e3 := hat 3 _ rfl
          have e4 := hat 4 _ rfl
          have e5 := hat 5 _ rfl
          have e6 := hat 6 _ rfl
          have e7 := hat 7 _ rfl
          have e8 := hat 8 _ rfl
          have e9 := hat 9 _ rfl
          have e10 := hat 10 _ rfl
          have e11 := hat 11 _ rfl
          rw [Nat.add_zero] at e0
          have i0 : (0 : Int) ≤ (k : Int) := by omega
          have i1 : (k : Int) < (L.length : Int) := by omega
          have hfp := Hf.out _ (List.getElem_mem hlt)
          have HR := fun W => VarsO_any L[k] W hfp
          have hd : L.drop k = L[k] :: L.drop (k + 1) := List.drop_eq_getElem_cons hlt
          rw [hd] at hN hV
          have hml := varsL_len L[k]
          clear hat hrow hd hfp
          generalize L[k] = p at *
          generalize hD : L.drop (k + 1) = D at *
          have HD := hideQ hD
          clear hD
          unfold valPt at HR
          have hzr := hbr.size
          go_wp2_with fail
          refine (HR _).mono ?_
          rintro e w2 ⟨hb2, m, md, mc, rfl, hm, hmA⟩
          dsimp only
          have hal : RowKit.Below wr.heap.size wr (wr.alloc (.cells #[.string ⟨p.1.1.toArray⟩, .int .i64 p.1.2.1, .string ⟨p.1.2.2.1.toArray⟩, .string ⟨p.1.2.2.2.toArray⟩, .string ⟨p.2.1.1.toArray⟩, .int .i64 p.2.1.2.1, .string ⟨p.2.1.2.2.1.toArray⟩, .string ⟨p.2.1.2.2.2.toArray⟩, .string ⟨p.2.2.1.toArray⟩, .int .i64 p.2.2.2.1, .string ⟨p.2.2.2.2.1.toArray⟩, .string ⟨p.2.2.2.2.2.toArray⟩] 34)) := balloc _ _
          have hB2 := bstep hbr (bstep hal hb2)
          have hown2 := hideQ (ownsRow_belowV hown.out (bstep hal hb2))
          have Hm := hideQ (own_mono hm (Nat.le_trans hzr hal.size))
          have hfar : Hid (Far2 _ (.slice md m.length mc)) := fun g h1 h2 => by
            have q1 := (hown.out.lt g h1).2
            have q2 := (hm.lt g h2).1
            have q3 := hal.size
            omega
          have hmA' : m = if varsN p = 0 then varsL p else [] := hmA
          clear HR hown hm hmA e0 e1 e2 e3 e4 e5 e6 e7 e8 e9 e10 e11 hal
          by_cases hv : varsN p = 0
          · rw [if_pos hv] at hmA'
            subst hmA'
            have hN2 : Hid (N = partsN D) := by have := hN.out; unfold partsN at this; rw [if_pos hv] at this; exact this
            have hV2 : Hid (V = partsV (addAll o (varsL p)) D) := hV.out
            rw [hv]
            clear hN hV hv
            generalize varsL p = m at *
            go_wp2_with fail
            go_loopw [4, 37] (fun v i wi => ∃ j : Nat, j ≤ m.length ∧ i = .int .i64 j ∧ Hid (wi.ownsRow w.heap.size 9 1 v (addAll o (m.take j)).length ((addAll o (m.take j)).map encV)) ∧ Hid (wi.ownsRow w.heap.size 9 1 (.slice md m.length mc) m.length (m.map encV)) ∧ Hid (Far2 v (.slice md m.length mc)) ∧ RowKit.Below w.heap.size w wi) (fun _ i wi => m.length - (intOf i).toNat)
            case atStart => exact ⟨0, Nat.zero_le _, rfl, hown2.out, Hm.out, hfar.out, hB2⟩
            case round =>
              obtain ⟨j, hj, rfl, hown3, Hm3, hfar3, hbi⟩ := hrel
              by_cases hjl : j < m.length
              · obtain ⟨md', mc', em, hmV⟩ := own_v Hm3.out
                obtain ⟨rfl, _, rfl⟩ : md = md' ∧ m.length = m.length ∧ mc = mc' := by simpa using em
                obtain ⟨mb, rfl, hmr⟩ := hmV (by intro e; rw [e] at hjl; simp at hjl)
                have c0 := hmr j hjl
                unfold encV at c0
                have j0 : (0 : Int) ≤ (j : Int) := by omega
                have j1 : (j : Int) < (m.length : Int) := by omega
                have hst := hideQ (addAll_step o m j hjl)
                have hle : (addAll o (m.take j)).length ≤ 1000 := by
                  have := addAll_len o (m.take j)
                  rw [List.length_take] at this
                  omega
                obtain ⟨ad, cap, rfl, hsl⟩ := own_v hown3.out
                have HC := ContainsW_any ad cap (addAll o (m.take j)) m[j] wr hsl.w (by omega)
                have hzi := hbi.size
                clear hmr hsl em hmV
                generalize ht : addAll o (m.take (j + 1)) = t1 at hst
                have Ht := hideQ ht
                generalize addAll o (m.take j) = t0 at *
                generalize m[j] = y at *
                clear ht
                cases hd : decide (y ∈ t0)
                · rw [hd] at HC
                  have e1 : Hid (t1 = t0 ++ [y]) := by have := hst.out; rw [if_neg (by simpa using hd)] at this; exact this
                  clear hst hd
                  go_wp2_with fail
                  refine HC.mono ?_
                  rintro e w3 ⟨rfl, hw3⟩
                  subst hw3
                  dsimp only
                  go_wp2_with (at_builtin; refine wpList_append_text _ rfl _ _ rfl w.heap.size w3.heap.size _ t0 y rfl rfl (hown3.out.alloc _) (by go_simp) (by omega) (by simp; omega) ?_; intro v' w4 hv4 hg4 hat4)
                  have hal : RowKit.Below w3.heap.size w3 (w3.alloc (.cells #[.string ⟨y.toArray⟩] 9)) := balloc _ _
                  have hbel : RowKit.Below w.heap.size w w4 := (bstep hbi hal).grown hg4 (by simp; omega) (fun g hg => (hown3.out.lt g hg).1)
                  have hm4 := hideQ ((ownsRow_belowV Hm3.out hal).kept hg4 hfar3.out.out)
                  have hfar4 := hideQ (hfar3.out.grow (ownsRow_belowV Hm3.out hal) hat4)
                  have hv5 := hideQ hv4
                  clear hv4 hg4 hat4 c0 HC
                  go_wp2_with fail
                  go_roundw
                  case rel =>
                    refine ⟨j + 1, by omega, by go_num, ?_, hm4, hfar4, hbel⟩
                    show World.ownsRow _ _ _ _ _ _ _
                    rw [Ht.out, e1.out]
                    exact hv5.out
                  case measure => simp [intOf]; omega
                · rw [hd] at HC
                  have e1 : Hid (t1 = t0) := by have := hst.out; rw [if_pos (by simpa using hd)] at this; exact this
                  clear hst hd
                  go_wp2_with fail
                  refine HC.mono ?_
                  rintro e w3 ⟨rfl, hw3⟩
                  subst hw3
                  dsimp only
                  clear HC c0
                  go_wp2_with fail
                  go_roundw
                  case rel =>
                    refine ⟨j + 1, by omega, by go_num, ?_, Hm3, hfar3, hbi⟩
                    show World.ownsRow _ _ _ _ _ _ _
                    rw [Ht.out, e1.out]
                    exact hown3.out
                  case measure => simp [intOf]; omega
              · obtain rfl : j = m.length := by omega
                have ho4 := hown3.out
                rw [List.take_length] at ho4
                have Ho4 := hideQ ho4
                have hle := addAll_len o m
                clear ho4 hown3
                go_wp2_with fail
                go_roundw
                case rel =>
                  refine ⟨k + 1, addAll o m, by omega, by go_num, by omega, Ho4, ?_, ?_, hbi⟩
                  · show _ = _
                    rw [HD.out]; exact hN2.out
                  · show _ = _
                    rw [HD.out]; exact hV2.out
                case measure => simp [intOf]; omega
          · have hN2 : Hid (N = varsN p) := by have := hN.out; unfold partsN at this; rw [if_neg hv] at this; exact this
            rw [if_neg hv] at hmA'
            subst hmA'
            have hne : (varsN p == 0) = false := by simpa using hv
            have hne2 : (varsN p != 0) = true := by simpa using hv
            have Hv := hideQ hv
            generalize varsN p = c at *
            clear hN hV hv Hm hown2
            go_wp2_with fail
            exact HQ.out _ _ (vof_nil ((f1.out (by rw [hN2.out]; exact Hv.out)).trans hN2.out) Hv.out hB2)
        · obtain rfl : k = L.length := by omega
          have hN2 : Hid (N = 0) := by have := hN.out; rw [List.drop_length] at this; exact this
          have hV2 : Hid (V = o) := by have := hV.out; rw [List.drop_length] at this; exact this
          obtain ⟨ad, cap, rfl, hsl⟩ := own_v hown.out
          have Hsl := hideQ hsl
          clear hsl hown hN hV
          by_cases h8 : 8 < o.length
          · have d3 : decide ((o.length : Int) > 8) = true := by simp; omega
            have fin := hideQ (f2.out hN2.out (by rw [hV2.out]; exact h8))
            go_wp2_with fail
            exact HQ.out _ _ (vof_nil fin.out (by decide) hbr)
          · have d3 : decide ((o.length : Int) > 8) = false := by simp; omega
            have fin := hideQ (f3.out hN2.out (by rw [hV2.out]; exact h8))
            go_wp2_with fail
            exact HQ.out _ _ ⟨o, ad, cap, by rw [fin.out]; rfl, Hsl.out.w, by omega, fun _ => hV2.out.symm.trans HPV.out.symm, hbr⟩
end Go.Proofs.YtcdbcoaiadipjaaGreat

/- The document's Check of a question (package strataref3). -/
namespace Go.Proofs.YtcdbcoaiadipjaaGreat
open Go Go.RowKit Go.Proofs Go.Maps
set_option synthInstance.maxSize 1000

/-! ### one fault behind the other -/
section
variable {q : Qu}
theorem ask_full (h : 6 < q.parts.length) : askN q = 4 := by unfold askN; rw [if_pos h]
theorem ask_nil (h : q.parts = []) : askN q = 5 := by unfold askN; rw [if_neg (by rw [h]; decide), if_pos h]
theorem ask_part (h1 : ¬ 6 < q.parts.length) (h2 : ¬ q.parts = []) (h3 : partsN q.parts ≠ 0) : askN q = partsN q.parts := by unfold askN; rw [if_neg h1, if_neg h2, if_pos h3]
/-- what is asked of Vars, Order, Down and Limit -/
def askT (q : Qu) (V : List (List UInt8)) : Int := if 8 < V.length then 4
  else if q.vars = [] then 5 else if (∃ v ∈ q.vars, v ∉ V) then 5 else if ¬ q.vars.Nodup then 7 else if q.order ≠ [] ∧ q.order ∉ q.vars then 5
  else if q.down = true ∧ q.order = [] then 3 else if q.lim < -1 ∨ 500 < q.lim then 1 else 0
theorem ask_tail (h1 : ¬ 6 < q.parts.length) (h2 : ¬ q.parts = []) (h3 : partsN q.parts = 0) : askN q = askT q (partsV [] q.parts) := by unfold askN askT; rw [if_neg h1, if_neg h2, if_neg (fun h => h h3)]
variable {V : List (List UInt8)}
theorem askT_full (h : 8 < V.length) : askT q V = 4 := by unfold askT; rw [if_pos h]
theorem askT_nil (h1 : ¬ 8 < V.length) (h2 : q.vars = []) : askT q V = 5 := by unfold askT; rw [if_neg h1, if_pos h2]
theorem askT_out (h1 : ¬ 8 < V.length) (h2 : ¬ q.vars = []) (h3 : ∃ v ∈ q.vars, v ∉ V) : askT q V = 5 := by unfold askT; rw [if_neg h1, if_neg h2, if_pos h3]
theorem askT_twice (h1 : ¬ 8 < V.length) (h2 : ¬ q.vars = []) (h3 : ∀ v ∈ q.vars, v ∈ V) (h4 : ¬ q.vars.Nodup) : askT q V = 7 := by
  unfold askT; rw [if_neg h1, if_neg h2, if_neg (fun ⟨v, hv, hn⟩ => hn (h3 v hv)), if_pos h4]
def askE (q : Qu) : Int := if q.order ≠ [] ∧ q.order ∉ q.vars then 5 else if q.down = true ∧ q.order = [] then 3 else if q.lim < -1 ∨ 500 < q.lim then 1 else 0
theorem askT_end (h1 : ¬ 8 < V.length) (h2 : ¬ q.vars = []) (h3 : ∀ v ∈ q.vars, v ∈ V) (h4 : q.vars.Nodup) : askT q V = askE q := by
  unfold askT askE; rw [if_neg h1, if_neg h2, if_neg (fun ⟨v, hv, hn⟩ => hn (h3 v hv)), if_neg (fun h => h h4)]
end
theorem nodup_take {l : List (List UInt8)} {k : Nat} (h : (l.take k).Nodup) (hk : k < l.length) (hn : l[k] ∉ l.take k) : (l.take (k + 1)).Nodup := by
  rw [List.take_succ_eq_append_getElem hk]
  refine List.nodup_append.2 ⟨h, by simp, fun a ha b hb => ?_⟩
  simp only [List.mem_singleton] at hb
  subst hb
  exact fun e => hn (e ▸ ha)
theorem not_nodup {l : List (List UInt8)} {k : Nat} (hk : k < l.length) (hn : l[k] ∈ l.take k) : ¬ l.Nodup := fun h => by
  have h2 : (l.take (k + 1)).Nodup := h.sublist (List.take_sublist _ _)
  rw [List.take_succ_eq_append_getElem hk] at h2
  exact (List.nodup_append.1 h2).2.2 _ hn _ (List.mem_singleton.2 rfl) rfl

attribute [local go_sem ↓] eqlEmpty neqEmpty

end Go.Proofs.YtcdbcoaiadipjaaGreat
