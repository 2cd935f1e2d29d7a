import Derived.Test.YtcdbcoaiadipjaaGreatDoorMA0x3
import Derived.Test.YtcdbcoaiadipjaaGreatDoorMA0x1
import Derived.Test.YtcdbcoaiadipjaaGreatDoorMA0x2
import Derived.Test.YtcdbcoaiadipjaaGreatDoorMA0x0
import Derived.Maps.OwnSet
import Derived.DeepKeys4
import Derived.OwnWalk

/- What the laws of Solve ask, in plain words; plain lists, no program. -/
namespace Go.Proofs.YtcdbcoaiadipjaaGreatDoor
open Go Go.RowKit Go.Proofs
set_option synthInstance.maxSize 1000

theorem solve_good {S : List Tr} {q : Qu} (h : solveN S q = 0) : IsSet S ∧ GoodQ q ∧ ∃ vars rows, answersL S q.parts = some (vars, rows) := by
  unfold solveN at h
  split at h
  · rename_i h1; exact absurd h h1
  · rename_i h1
    split at h
    · rename_i h2; exact absurd h h2
    · rename_i h2
      split at h
      · cases h
      · rename_i h3
        refine ⟨sortedN_set.1 (Classical.byContradiction h1), ask_good (Classical.byContradiction h2), ?_⟩
        cases ha : answersL S q.parts with
        | none => rw [ha] at h3; simp at h3
        | some v => exact ⟨v.1, v.2, rfl⟩
theorem proj_len (vars told : List (List UInt8)) (rows : List (List Tm)) : LenR told.length (rows.map (projR vars told)) := fun x hx => by
  obtain ⟨r, _, rfl⟩ := List.mem_map.1 hx
  simp [projR]
theorem sort_len (lt : List Tm → List Tm → Bool) (rows : List (List Tm)) : (sortR lt false rows).length = rows.length := by
  have := (fold_perm (lt := lt) (rows := rows) (out := [])).length_eq
  simpa [sortR] using this
theorem sort_mem {lt : List Tm → List Tm → Bool} {dist : Bool} {rows : List (List Tm)} {x : List Tm} : x ∈ sortR lt dist rows ↔ x ∈ rows := by
  unfold sortR
  simpa using fold_mem (lt := lt) (dist := dist) (rows := rows) (x := x) (out := [])
/-- the terms of a set are right -/
theorem set_term {S : List Tr} (h : IsSet S) {t : Tr} (ht : t ∈ S) {x : Tm} (hx : x = t.1 ∨ x = t.2.1 ∨ x = t.2.2) : tmChk x = 0 := by
  obtain ⟨h1, h2, h3, _⟩ := chk_zero (h.2.1 t ht)
  rcases hx with rfl | rfl | rfl
  · exact h1
  · exact h2
  · exact h3
theorem terms_zero : ∀ {l : List Tm}, (∀ x ∈ l, tmChk x = 0) → termsN l = 0
  | [], _ => rfl
  | x :: l, h => by
    rw [termsN, if_pos (h x (by simp))]
    exact terms_zero fun y hy => h y (by simp [hy])
theorem bindS_zero {vars : List (List UInt8)} {r : List Tm} {s : Sl} (hs : slotN s = 0) (hr : ∀ x ∈ r, tmChk x = 0) : slotN (bindS vars r s) = 0 := by
  cases hb : boundT vars r s.1 with
  | none => rw [bindS_none hb]; exact hs
  | some x =>
    rw [bindS_some hb]
    unfold slotN
    rw [if_pos rfl]
    exact hr x (bound_mem hb)
theorem bindP_zero {vars : List (List UInt8)} {r : List Tm} {p : Pt} (hp : varsN p = 0) (hr : ∀ x ∈ r, tmChk x = 0) : varsN (bindP vars r p) = 0 := by
  obtain ⟨h1, h2, h3⟩ := vars_zero hp
  unfold varsN bindP
  rw [if_pos (bindS_zero h1 hr), if_pos (bindS_zero h2 hr)]
  exact bindS_zero h3 hr
/-- each answer, with what it tells bound, is there -/
theorem answer_there {S : List Tr} {q : Qu} (hS : IsSet S) (g : GoodQ q) {vars : List (List UInt8)} {rows : List (List Tm)} (ha : answersL S q.parts = some (vars, rows)) {row : List Tm} (hr : row ∈ rows.map (projR vars q.vars)) {p : Pt} (hp : p ∈ q.parts) :
    bindN q.vars row p = 0 ∧ varsN (bindP q.vars row p) = 0 ∧ 1 ≤ (matchP S (bindP q.vars row p)).length ∧ ∀ x ∈ row, tmChk x = 0 := by
  obtain ⟨ok, _⟩ := answersL_ok ha
  obtain ⟨r, hr', rfl⟩ := List.mem_map.1 hr
  have hin : ∀ v ∈ q.vars, v ∈ vars := fun v hv => by
    rcases partsV_mem.1 (g.within v hv) with h | ⟨p', h1, h2⟩
    · cases h
    · exact ok.has p' h1 v h2
  have hgood : ∀ x ∈ projR vars q.vars r, tmChk x = 0 := fun x hx => by
    obtain ⟨v, hv, rfl⟩ := List.mem_map.1 hx
    have h0 := (g.vars v hv).1
    cases hb : boundT vars r v with
    | none => exact absurd (hin v hv) ((bound_none h0 (ok.len r hr')).1 hb)
    | some y =>
      obtain ⟨t, ht, hx'⟩ := ok.from_ r hr' y (bound_mem hb)
      exact set_term hS ht hx'
  have hv := g.parts p hp
  refine ⟨?_, bindP_zero hv hgood, ?_, hgood⟩
  · unfold bindN
    rw [if_neg (by simp [projR]), if_neg (by rw [terms_zero hgood]; simp)]
    exact hv
  · obtain ⟨t, ht, h1, h2, h3⟩ := ok.holds r hr' p hp
    have hm : t ∈ matchP S (bindP q.vars (projR vars q.vars r) p) := List.mem_filter.2 ⟨ht, told_fits h1 h2 h3⟩
    exact List.length_pos_of_mem hm
/-- the first of two rows' terms that are not the same -/
def cmpR : List Tm → List Tm → Int
  | x :: a, y :: b => if cmpTm x y = 0 then cmpR a b else cmpTm x y
  | _, _ => 0
theorem less_cmp : ∀ (a b : List Tm), lessR b a = false → cmpR a b ≤ 0
  | [], _, _ => by simp [cmpR]
  | x :: a, [], _ => by simp [cmpR]
  | x :: a, y :: b, h => by
    unfold lessR at h
    unfold cmpR
    have hn := cmpTm_neg x y
    by_cases e : cmpTm x y = 0
    · rw [if_pos e]
      rw [if_pos (by omega)] at h
      exact less_cmp a b h
    · rw [if_neg e]
      rw [if_neg (by omega)] at h
      simp at h
      omega
theorem sorted_next {lt : List Tm → List Tm → Bool} {l : List (List Tm)} (h : SortedR lt l) {i : Nat} (hi : i + 1 < l.length) : lt l[i + 1] (l[i]'(by omega)) = false := List.pairwise_iff_getElem.1 h i (i + 1) (by omega) hi (by omega)
theorem once_next {l : List (List Tm)} (h : l.Nodup) {i : Nat} (hi : i + 1 < l.length) : l[i]'(by omega) ≠ l[i + 1] := List.pairwise_iff_getElem.1 h i (i + 1) (by omega) hi (by omega)
theorem once_le : ∀ (l m : List (List Tm)), l.Nodup → (∀ v ∈ l, v ∈ m) → l.length ≤ m.length
  | [], m, _, _ => by simp
  | v :: r, m, hn, hs => by
    rw [List.nodup_cons] at hn
    have ih := once_le r (m.erase v) hn.2 (fun x hx => (List.mem_erase_of_ne (fun (e : x = v) => hn.1 (e ▸ hx))).2 (hs x (by simp [hx])))
    have h1 := List.length_erase_of_mem (hs v (by simp))
    have h2 : 0 < m.length := List.length_pos_of_mem (hs v (by simp))
    rw [List.length_cons]
    omega
theorem sort_sorted (q : Qu) (dist : Bool) {vars : List (List UInt8)} {rows : List (List Tm)} : SortedR (ltQ q) (sortR (ltQ q) dist (rows.map (projR vars q.vars))) :=
  fold_sorted (ordQ q q.vars.length) (proj_len vars q.vars rows) (fun x hx => (by cases hx)) List.Pairwise.nil
theorem sort_once (lt : List Tm → List Tm → Bool) (rows : List (List Tm)) : (sortR lt true rows).Nodup := fold_once List.nodup_nil
theorem where_none {q : Qu} (g : GoodQ q) (h : q.order = []) : whereV q.vars q.order = none := by
  unfold whereV
  rw [h, if_neg (fun h' => (g.vars _ h').1 rfl)]
theorem lt_none {q : Qu} (g : GoodQ q) (h : q.order = []) : ltQ q = lessR := by
  funext a b
  unfold ltQ aheadB byC
  rw [where_none g h]
  simp

/-! ### what does not matter -/
def plainQ (q : Qu) : Qu := { q with lim := -1, dist := false }
theorem ask_dist (q : Qu) (b : Bool) : askN { q with dist := b } = askN q := rfl
theorem ask_lim {q : Qu} {n : Int} (h : -1 ≤ q.lim ∧ q.lim ≤ 500) (hn : -1 ≤ n ∧ n ≤ 500) : askN { q with lim := n } = askN q := by
  unfold askN
  dsimp only
  have e1 : (q.lim < -1 ∨ 500 < q.lim) ↔ (n < -1 ∨ 500 < n) := by omega
  simp only [e1]

/-! ### turned -/
theorem one_turn {a b : List Tm} (ha : a.length = 1) (hb : b.length = 1) : aheadB (some 0) true a b = aheadB (some 0) false b a := by
  match a, b, ha, hb with
  | [x], [y], _, _ =>
    have hn := cmpTm_neg x y
    have e1 : byC (some 0) true [x] [y] = byC (some 0) false [y] [x] := by simp [byC]; omega
    unfold aheadB
    rw [e1]
    by_cases h : byC (some 0) false [y] [x] = 0
    · have h' : cmpTm y x = 0 := by simpa [byC] using h
      have hxy := tmZ.1 h'
      subst hxy
      rfl
    · simp [h]
theorem turned_rows {rows : List (List Tm)} (hn : LenR 1 rows) : sortR (aheadB (some 0) true) true rows = (sortR (aheadB (some 0) false) true rows).reverse := by
  have o : ∀ d, OrdR (aheadB (some 0) d) 1 := fun d => ⟨fun a => ahead_irr _ _ a, fun h1 h2 => ahead_trans h1 h2, fun h1 h2 h3 h4 => ahead_total (h1.trans h2.symm) h3 h4⟩
  have hu : SortedR (aheadB (some 0) false) (sortR (aheadB (some 0) false) true rows) := fold_sorted (o false) hn (fun x hx => (by cases hx)) List.Pairwise.nil
  refine (sortR_once (o true) hn ?_ ((List.reverse_perm _).nodup_iff.2 (sort_once _ _)) (fun x => by rw [List.mem_reverse]; exact sort_mem)).symm
  unfold SortedR
  rw [List.pairwise_reverse]
  refine List.Pairwise.imp_of_mem (fun {a b} ha hb h => ?_) hu
  rw [one_turn (hn a (sort_mem.1 ha)) (hn b (sort_mem.1 hb))]
  exact h
end Go.Proofs.YtcdbcoaiadipjaaGreatDoor

/- All answers, each once, and so the same in whatever order the parts are taken; plain lists, no program. -/
namespace Go.Proofs.YtcdbcoaiadipjaaGreatDoor
open Go Go.RowKit Go.Proofs
set_option synthInstance.maxSize 1000

/-! ### an assignment -/
def okG (f : List UInt8 → Option Tm) (s : Sl) (x : Tm) : Prop := if s.1 = [] then x = s.2 else f s.1 = some x
def fitG (f : List UInt8 → Option Tm) (p : Pt) (t : Tr) : Prop := okG f p.1 t.1 ∧ okG f p.2.1 t.2.1 ∧ okG f p.2.2 t.2.2
def HoldsG (S : List Tr) (f : List UInt8 → Option Tm) (p : Pt) : Prop := ∃ t ∈ S, fitG f p t
theorem okG_one {f : List UInt8 → Option Tm} {s : Sl} {x y : Tm} (h : okG f s x) (k : okG f s y) : x = y := by
  unfold okG at h k
  split at h
  · rename_i h0; rw [if_pos h0] at k; rw [h, k]
  · rename_i h0; rw [if_neg h0] at k; exact Option.some.inj (h.symm.trans k)
theorem fitG_one {f : List UInt8 → Option Tm} {p : Pt} {t u : Tr} (h : fitG f p t) (k : fitG f p u) : t = u :=
  Prod.ext (okG_one h.1 k.1) (Prod.ext (okG_one h.2.1 k.2.1) (okG_one h.2.2 k.2.2))
/-- a triple that fits a part with what is bound is at its slots, behind what it tells -/
theorem fits_at {S : List Tr} {vars : List (List UInt8)} {r : List Tm} {p : Pt} {t : Tr} (hl : r.length = vars.length) (ht : t ∈ matchP S (bindP vars r p)) : fitG (boundT (vars ++ freshV vars p) (extR vars p r t)) p t := by
  have h1 : t ∈ matchP [t] (bindP vars r p) := List.mem_filter.2 ⟨by simp, (List.mem_filter.1 ht).2⟩
  obtain ⟨u, hu, k⟩ := fits_holds hl h1
  have e : u = t := by simpa using hu
  subst e
  exact k
/-- and what is there at a part's slots fits it with what is bound -/
theorem fits_of {vars : List (List UInt8)} {r : List Tm} {f : List UInt8 → Option Tm} {p : Pt} {t : Tr} (hf : ∀ v x, boundT vars r v = some x → f v = some x) (h : fitG f p t) : fitsB (bindP vars r p) t = true := by
  obtain ⟨h1, h2, h3⟩ := h
  have key : ∀ (s : Sl) (x : Tm), okG f s x → (bindS vars r s = ([], x)) ∨ (s.1 ≠ [] ∧ bindS vars r s = s ∧ f s.1 = some x) := fun s x h => by
    unfold okG at h
    by_cases h0 : s.1 = []
    · rw [if_pos h0] at h
      left
      rw [bindS_none (by rw [h0]; exact bound_empty _ _)]
      obtain ⟨a, b⟩ := s
      simp only at h0 h
      rw [h0, h]
    · rw [if_neg h0] at h
      cases hb : boundT vars r s.1 with
      | some y => exact Or.inl (by rw [bindS_some hb]; rw [Option.some.inj ((hf _ _ hb).symm.trans h)])
      | none => exact Or.inr ⟨h0, bindS_none hb, h⟩
  have two : ∀ {s s' : Sl} {x x' : Tm}, f s.1 = some x → f s'.1 = some x' → s.1 = s'.1 → x = x' := fun h h' e => by
    rw [e] at h
    exact Option.some.inj (h.symm.trans h')
  unfold fitsB bindP
  simp only [Bool.and_eq_true]
  refine ⟨?_, ?_, ?_⟩
  · rcases key _ _ h1 with e | ⟨n1, e, b1⟩
    · rw [e]; simp
    · rw [e, if_neg n1]
  · rcases key _ _ h2 with e | ⟨n2, e, b2⟩
    · rw [e]; simp
    · rw [e, if_neg n2]
      rcases key _ _ h1 with e1 | ⟨n1, e1, b1⟩
      · rw [e1, if_neg n2]
      · rw [e1]
        split
        · rename_i he; exact decide_eq_true (two b2 b1 he)
        · rfl
  · rcases key _ _ h3 with e | ⟨n3, e, b3⟩
    · rw [e]; simp
    · rw [e, if_neg n3]
      rcases key _ _ h1 with e1 | ⟨n1, e1, b1⟩
      · rw [e1, if_neg n3]
        rcases key _ _ h2 with e2 | ⟨n2, e2, b2⟩
        · rw [e2, if_neg n3]
        · rw [e2]
          split
          · rename_i he; exact decide_eq_true (two b3 b2 he)
          · rfl
      · rw [e1]
        split
        · rename_i he; exact decide_eq_true (two b3 b1 he)
        · rcases key _ _ h2 with e2 | ⟨n2, e2, b2⟩
          · rw [e2, if_neg n3]
          · rw [e2]
            split
            · rename_i he; exact decide_eq_true (two b3 b2 he)
            · rfl

/-! ### what an answer's list of variables and terms says -/
theorem bound_mem_v : ∀ {vars : List (List UInt8)} {r : List Tm} {s : List UInt8} {x : Tm}, boundT vars r s = some x → s ∈ vars ∧ s ≠ []
  | [], _, _, _, h => by simp [boundT] at h
  | v :: vs, [], _, _, h => by simp [boundT] at h
  | v :: vs, t :: r, s, x, h => by
    simp only [boundT] at h
    split at h
    · rename_i hc; exact ⟨by rw [hc.1]; simp, hc.2⟩
    · obtain ⟨h1, h2⟩ := bound_mem_v h
      exact ⟨List.mem_cons_of_mem _ h1, h2⟩
theorem bound_some {vars : List (List UInt8)} {r : List Tm} (hl : r.length = vars.length) {v : List UInt8} (h0 : v ≠ []) (hv : v ∈ vars) : ∃ x, boundT vars r v = some x := by
  cases hb : boundT vars r v with
  | some x => exact ⟨x, rfl⟩
  | none => exact absurd hv ((bound_none h0 hl).1 hb)
theorem addV_nodup {l : List (List UInt8)} (s : Sl) (h : l.Nodup) : (addV l s).Nodup := by
  unfold addV
  split
  · exact h
  · split
    · exact h
    · rename_i hn
      exact List.nodup_append.2 ⟨h, by simp, fun a ha b hb => by
        have e : b = s.1 := by simpa using hb
        rw [e]
        exact fun k => hn (k ▸ ha)⟩
theorem varsL_nodup (p : Pt) : (varsL p).Nodup := by
  unfold varsL
  exact addV_nodup _ (addV_nodup _ (addV_nodup _ List.nodup_nil))

/-- what is so of all answers to some parts: there is no other one, and each is there once -/
structure AnsFull (S : List Tr) (done : List Pt) (vars : List (List UInt8)) (rows : List (List Tm)) : Prop where
  ok : AnsOK S done vars rows
  nonempty : ∀ v ∈ vars, v ≠ []
  from_ : ∀ v ∈ vars, ∃ p ∈ done, v ∈ varsL p
  once : rows.Pairwise fun a b => boundT vars a ≠ boundT vars b
  all : ∀ f : List UInt8 → Option Tm, (∀ v, (f v).isSome = true ↔ v ∈ vars) → (∀ p ∈ done, HoldsG S f p) → ∃ r ∈ rows, boundT vars r = f
theorem AnsFull.start (S : List Tr) : AnsFull S [] [] [[]] :=
  ⟨AnsOK.start S, fun v h => (by cases h), fun v h => (by cases h), List.pairwise_singleton _ _, fun f hf _ => ⟨[], by simp, funext fun v => by
    have h : ¬ (f v).isSome = true := fun k => by have := (hf v).1 k; cases this
    cases e : f v with
    | none => rfl
    | some x => rw [e] at h; exact absurd rfl h⟩⟩
/-- what an extended answer says of the old variables is what the answer said -/
theorem ext_old {vars : List (List UInt8)} {p : Pt} {r : List Tm} {t : Tr} (hl : r.length = vars.length) {v : List UInt8} {x : Tm} (h : boundT vars r v = some x) : boundT (vars ++ freshV vars p) (extR vars p r t) v = some x := bound_app hl h
theorem ext_back {vars : List (List UInt8)} {p : Pt} {r r' : List Tm} {t t' : Tr} (hl : r.length = vars.length) (hl' : r'.length = vars.length) (e : boundT (vars ++ freshV vars p) (extR vars p r t) = boundT (vars ++ freshV vars p) (extR vars p r' t')) : boundT vars r = boundT vars r' := by
  funext v
  by_cases h0 : v = []
  · rw [h0, bound_empty, bound_empty]
  · by_cases hv : v ∈ vars
    · obtain ⟨x, hx⟩ := bound_some hl h0 hv
      obtain ⟨y, hy⟩ := bound_some hl' h0 hv
      have := congrFun e v
      rw [ext_old hl hx, ext_old hl' hy] at this
      rw [hx, hy, this]
    · rw [(bound_none h0 hl).2 hv, (bound_none h0 hl').2 hv]
theorem AnsFull.step {S : List Tr} (hS : IsSet S) {done : List Pt} {vars : List (List UInt8)} {rows : List (List Tm)} (h : AnsFull S done vars rows) (p : Pt) : AnsFull S (done ++ [p]) (vars ++ freshV vars p) (stepR S vars p rows) := by
  refine ⟨h.ok.step p, fun v hv => ?_, fun v hv => ?_, ?_, fun f hf hp => ?_⟩
  · rcases List.mem_append.1 hv with k | k
    · exact h.nonempty v k
    · exact (varsL_mem.1 (fresh_mem.1 k).1).1
  · rcases List.mem_append.1 hv with k | k
    · obtain ⟨q, hq, e⟩ := h.from_ v k
      exact ⟨q, List.mem_append_left _ hq, e⟩
    · exact ⟨p, by simp, (fresh_mem.1 k).1⟩
  · unfold stepR
    refine List.pairwise_flatMap.2 ⟨fun r hr => ?_, ?_⟩
    · unfold rowsOf
      refine List.pairwise_map.2 ?_
      have hnd : (matchP S (bindP vars r p)).Nodup := (rising_nodup hS.2.2).sublist List.filter_sublist
      refine List.Pairwise.imp_of_mem ?_ hnd
      intro t u ht hu hne e
      have k1 := fits_at (h.ok.len r hr) ht
      have k2 := fits_at (h.ok.len r hr) hu
      rw [e] at k1
      exact hne (fitG_one k1 k2)
    · refine List.Pairwise.imp_of_mem ?_ h.once
      intro r r' hr hr' hne x hx y hy e
      unfold rowsOf at hx hy
      obtain ⟨t, _, rfl⟩ := List.mem_map.1 hx
      obtain ⟨u, _, rfl⟩ := List.mem_map.1 hy
      exact hne (ext_back (h.ok.len r hr) (h.ok.len r' hr') e)
  · obtain ⟨g, hg⟩ : ∃ g : List UInt8 → Option Tm, g = fun v => if v ∈ vars then f v else none := ⟨_, rfl⟩
    have hgs : ∀ v, (g v).isSome = true ↔ v ∈ vars := fun v => by
      rw [hg]
      dsimp only
      by_cases hv : v ∈ vars
      · rw [if_pos hv]
        exact ⟨fun _ => hv, fun _ => (hf v).2 (List.mem_append_left _ hv)⟩
      · rw [if_neg hv]
        exact ⟨fun k => (by cases k), fun k => absurd k hv⟩
    have hge : ∀ v, v ∈ vars → g v = f v := fun v hv => by rw [hg]; dsimp only; rw [if_pos hv]
    have hgh : ∀ q ∈ done, HoldsG S g q := fun q hq => by
      obtain ⟨t, ht, k1, k2, k3⟩ := hp q (List.mem_append_left _ hq)
      have one : ∀ (s : Sl) (x : Tm), (s.1 ≠ [] → s.1 ∈ varsL q) → okG f s x → okG g s x := fun s x hs k => by
        unfold okG at *
        by_cases h0 : s.1 = []
        · rw [if_pos h0] at k ⊢; exact k
        · rw [if_neg h0] at k ⊢
          rw [hge _ (h.ok.has q hq _ (hs h0))]
          exact k
      exact ⟨t, ht, one _ _ (fun h => varsL_mem.2 ⟨h, Or.inl rfl⟩) k1, one _ _ (fun h => varsL_mem.2 ⟨h, Or.inr (Or.inl rfl)⟩) k2, one _ _ (fun h => varsL_mem.2 ⟨h, Or.inr (Or.inr rfl)⟩) k3⟩
    obtain ⟨r, hr, her⟩ := h.all g hgs hgh
    obtain ⟨t, ht, hfit⟩ := hp p (by simp)
    have hl := h.ok.len r hr
    have hext : ∀ v x, boundT vars r v = some x → f v = some x := fun v x hb => by
      rw [← hge v (bound_mem_v hb).1, ← her]
      exact hb
    have hm : t ∈ matchP S (bindP vars r p) := List.mem_filter.2 ⟨ht, fits_of hext hfit⟩
    refine ⟨extR vars p r t, List.mem_flatMap.2 ⟨r, hr, List.mem_map.2 ⟨t, hm, rfl⟩⟩, funext fun v => ?_⟩
    have k := fits_at hl hm
    by_cases h0 : v = []
    · rw [h0, bound_empty]
      cases e : f [] with
      | none => rfl
      | some x =>
        have := (hf []).1 (by rw [e]; rfl)
        rcases List.mem_append.1 this with k' | k'
        · exact absurd rfl (h.nonempty _ k')
        · exact absurd rfl (varsL_mem.1 (fresh_mem.1 k').1).1
    · by_cases hv : v ∈ vars
      · obtain ⟨x, hx⟩ := bound_some hl h0 hv
        rw [ext_old hl hx, hext v x hx]
      · by_cases hp' : v ∈ varsL p
        · obtain ⟨k1, k2, k3⟩ := k
          obtain ⟨f1, f2, f3⟩ := hfit
          unfold okG at k1 k2 k3 f1 f2 f3
          rcases (varsL_mem.1 hp').2 with e | e | e
          · rw [← e, if_neg h0] at k1 f1; rw [k1, f1]
          · rw [← e, if_neg h0] at k2 f2; rw [k2, f2]
          · rw [← e, if_neg h0] at k3 f3; rw [k3, f3]
        · have hn : v ∉ vars ++ freshV vars p := fun k' => by
            rcases List.mem_append.1 k' with k' | k'
            · exact hv k'
            · exact hp' (fresh_mem.1 k').1
          rw [(bound_none h0 (by simp [extR, hl])).2 hn]
          cases e : f v with
          | none => rfl
          | some x => exact absurd ((hf v).1 (by rw [e]; rfl)) hn
theorem answers_full {S : List Tr} (hS : IsSet S) : ∀ (ps : List Pt) {done : List Pt} {vars vars' : List (List UInt8)} {rows rows' : List (List Tm)}, AnsFull S done vars rows → answersF S vars rows ps = some (vars', rows') → AnsFull S (done ++ ps) vars' rows'
  | [], done, vars, vars', rows, rows', h, e => by
    simp only [answersF, Option.some.injEq, Prod.mk.injEq] at e
    obtain ⟨rfl, rfl⟩ := e
    rw [List.append_nil]
    exact h
  | p :: ps, done, vars, vars', rows, rows', h, e => by
    unfold answersF at e
    split at e
    · cases e
    · have h1 := answers_full hS ps (h.step hS p) e
      rw [List.append_assoc] at h1
      exact h1
theorem answersL_full {S : List Tr} (hS : IsSet S) {ps : List Pt} {vars : List (List UInt8)} {rows : List (List Tm)} (e : answersL S ps = some (vars, rows)) : AnsFull S ps vars rows := by
  have h := answers_full hS ps (AnsFull.start S) e
  simpa using h

/-! ### in any order the same -/
theorem perm_nodup {α : Type} : ∀ {l m : List α}, l.Pairwise (· ≠ ·) → m.Pairwise (· ≠ ·) → (∀ x, x ∈ l ↔ x ∈ m) → l.Perm m
  | [], m, _, _, h => by
    cases m with
    | nil => exact List.Perm.refl _
    | cons y m => exact absurd ((h y).2 (by simp)) (by simp)
  | x :: l, m, hl, hm, h => by
    obtain ⟨s, t, e⟩ := List.append_of_mem ((h x).1 (by simp))
    subst e
    have h1 := List.pairwise_cons.1 hl
    have hp : (s ++ x :: t).Perm (x :: (s ++ t)) := List.perm_middle
    have hm' := (hp.pairwise_iff (fun h k => h k.symm)).1 hm
    have h2 := List.pairwise_cons.1 hm'
    refine (List.Perm.cons x (perm_nodup h1.2 h2.2 fun y => ?_)).trans hp.symm
    constructor
    · intro hy
      have k := hp.mem_iff.1 ((h y).1 (List.mem_cons_of_mem _ hy))
      rcases List.mem_cons.1 k with k | k
      · exact absurd k.symm (h1.1 y hy)
      · exact k
    · intro hy
      have k := (h y).2 (hp.mem_iff.2 (List.mem_cons_of_mem _ hy))
      rcases List.mem_cons.1 k with k | k
      · exact absurd k.symm (h2.1 y hy)
      · exact k
theorem full_rows {S : List Tr} {ps qs : List Pt} {v1 v2 : List (List UInt8)} {r1 r2 : List (List Tm)} (h1 : AnsFull S ps v1 r1) (h2 : AnsFull S qs v2 r2) (hm : ∀ p, p ∈ ps ↔ p ∈ qs) (told : List (List UInt8)) : (r1.map (projR v1 told)).Perm (r2.map (projR v2 told)) := by
  have hv : ∀ v, v ∈ v1 ↔ v ∈ v2 := fun v => ⟨fun h => by
    obtain ⟨p, hp, e⟩ := h1.from_ v h
    exact h2.ok.has p ((hm p).1 hp) v e, fun h => by
    obtain ⟨p, hp, e⟩ := h2.from_ v h
    exact h1.ok.has p ((hm p).2 hp) v e⟩
  have dom : ∀ {ps : List Pt} {vs : List (List UInt8)} {rs : List (List Tm)}, AnsFull S ps vs rs → ∀ r ∈ rs, ∀ v, (boundT vs r v).isSome = true ↔ v ∈ vs := fun h r hr v => by
    constructor
    · intro k
      obtain ⟨x, hx⟩ := Option.isSome_iff_exists.1 k
      exact (bound_mem_v hx).1
    · intro k
      obtain ⟨x, hx⟩ := bound_some (h.ok.len r hr) (h.nonempty v k) k
      rw [hx]
      rfl
  have hp : (r1.map (boundT v1)).Perm (r2.map (boundT v2)) := by
    refine perm_nodup (List.pairwise_map.2 h1.once) (List.pairwise_map.2 h2.once) fun f => ⟨fun h => ?_, fun h => ?_⟩
    · obtain ⟨r, hr, rfl⟩ := List.mem_map.1 h
      obtain ⟨r', hr', e⟩ := h2.all (boundT v1 r) (fun v => (dom h1 r hr v).trans (hv v)) (fun p hp => h1.ok.holds r hr p ((hm p).2 hp))
      exact List.mem_map.2 ⟨r', hr', e⟩
    · obtain ⟨r, hr, rfl⟩ := List.mem_map.1 h
      obtain ⟨r', hr', e⟩ := h1.all (boundT v2 r) (fun v => (dom h2 r hr v).trans (hv v).symm) (fun p hp => h2.ok.holds r hr p ((hm p).1 hp))
      exact List.mem_map.2 ⟨r', hr', e⟩
  have e1 : r1.map (projR v1 told) = (r1.map (boundT v1)).map (fun f => told.map fun v => (f v).getD tmZero) := by rw [List.map_map]; rfl
  have e2 : r2.map (projR v2 told) = (r2.map (boundT v2)).map (fun f => told.map fun v => (f v).getD tmZero) := by rw [List.map_map]; rfl
  rw [e1, e2]
  exact hp.map _
theorem sort_perm {lt : List Tm → List Tm → Bool} {n : Nat} (o : OrdR lt n) {dist : Bool} {a b : List (List Tm)} (ha : LenR n a) (hb : LenR n b) (h : a.Perm b) : sortR lt dist a = sortR lt dist b := by
  have hsa : SortedR lt (sortR lt dist a) := fold_sorted o ha (fun x hx => by cases hx) List.Pairwise.nil
  cases dist with
  | false =>
    refine sortR_all o hb hsa ?_
    have := fold_perm (lt := lt) (rows := a) (out := [])
    rw [List.append_nil] at this
    exact this.trans h
  | true =>
    refine sortR_once o hb hsa (sort_once lt a) fun x => ?_
    rw [sort_mem]
    exact h.mem_iff
/-- a question whose parts are the same ones in another order is answered likewise, where neither is too much -/
theorem solve_perm {S : List Tr} {q q' : Qu} (h : solveN S q = 0) (h' : solveN S q' = 0) (hm : ∀ p, p ∈ q.parts ↔ p ∈ q'.parts) (hv : q'.vars = q.vars) (ho : q'.order = q.order) (hd : q'.down = q.down) (hi : q'.dist = q.dist) (hl : q'.lim = q.lim) : solveL S q' = solveL S q := by
  obtain ⟨hS, _, v1, r1, e1⟩ := solve_good h
  obtain ⟨_, _, v2, r2, e2⟩ := solve_good h'
  unfold solveL solveA
  rw [if_pos h, if_pos h', e1, e2]
  dsimp only
  have hlt : ltQ q' = ltQ q := by unfold ltQ; rw [hv, ho, hd]
  rw [hlt, hi, hl, hv]
  rw [sort_perm (ordQ q q.vars.length) (proj_len _ _ _) (proj_len _ _ _) (full_rows (answersL_full hS e1) (answersL_full hS e2) hm q.vars)]
end Go.Proofs.YtcdbcoaiadipjaaGreatDoor

/- In which order: the places of a question's parts as they are taken, a question with its parts in an order, what it costs; plain lists, no program. -/
namespace Go.Proofs.YtcdbcoaiadipjaaGreatDoor
open Go Go.RowKit Go.Proofs
set_option synthInstance.maxSize 1000

/-! ### what it costs -/
def sizesF (S : List Tr) : List (List UInt8) → List (List Tm) → List Pt → List Nat
  | _, _, [] => []
  | vars, rows, p :: ps => (stepR S vars p rows).length :: sizesF S (vars ++ freshV vars p) (stepR S vars p rows) ps
def sizesL (S : List Tr) (ps : List Pt) : List Nat := sizesF S [] [[]] ps
theorem sizes_sum (S : List Tr) : ∀ (ps : List Pt) (vars : List (List UInt8)) (rows : List (List Tm)), (sizesF S vars rows ps).sum = lookedF S vars rows ps
  | [], _, _ => rfl
  | p :: ps, vars, rows => by simp [sizesF, lookedF, sizes_sum S ps]
theorem sizes_len (S : List Tr) : ∀ (ps : List Pt) (vars : List (List UInt8)) (rows : List (List Tm)), (sizesF S vars rows ps).length = ps.length
  | [], _, _ => rfl
  | p :: ps, vars, rows => by simp [sizesF, sizes_len S ps]
theorem sizes_few (S : List Tr) : ∀ (ps : List Pt) (vars : List (List UInt8)) (rows : List (List Tm)) {a : List (List UInt8) × List (List Tm)}, answersF S vars rows ps = some a → ∀ n ∈ sizesF S vars rows ps, n ≤ 500
  | [], _, _, _, _, n, h => by cases h
  | p :: ps, vars, rows, a, e, n, h => by
    unfold answersF at e
    split at e
    · cases e
    · rename_i h5
      unfold sizesF at h
      rcases List.mem_cons.1 h with k | k
      · omega
      · exact sizes_few S ps _ _ e n k
/-- all sizes are told, where there are answers -/
def costI (S : List Tr) (q : Qu) : Nat := if solveN S q = 0 then (sizesL S q.parts).sum else 0

/-! ### in an order -/
def swapQ (q : Qu) (o : List Int) : Qu := { q with parts := o.map fun i => q.parts.getD i.toNat patZero }
def isAllB (o : List Int) (n : Nat) : Bool := decide (o.length = n) && !((List.range n).map fun i : Nat => (i : Int)).any fun i => !decide (i ∈ o)
def swapN (q : Qu) (o : List Int) : Int := if askN q ≠ 0 then askN q else if isAllB o q.parts.length = true then 0 else 3
theorem erase_perm : ∀ (l o : List Int), l.Nodup → (∀ i ∈ l, i ∈ o) → o.length = l.length → o.Perm l
  | [], o, _, _, h => by
    have : o = [] := List.eq_nil_of_length_eq_zero h
    rw [this]
  | i :: l, o, hn, hm, h => by
    have hi := hm i (by simp)
    have hn' := List.nodup_cons.1 hn
    refine (List.perm_cons_erase hi).trans (List.Perm.cons i (erase_perm l (o.erase i) hn'.2 (fun j hj => ?_) ?_))
    · exact (List.mem_erase_of_ne (fun e => by subst e; exact hn'.1 hj)).2 (hm j (List.mem_cons_of_mem _ hj))
    · rw [List.length_erase_of_mem hi]
      simp at h
      omega
def placesI (n : Nat) : List Int := (List.range n).map fun i : Nat => (i : Int)
theorem placesI_nodup (n : Nat) : (placesI n).Nodup := by
  unfold placesI
  refine List.pairwise_map.2 (List.Pairwise.imp ?_ List.nodup_range)
  intro a b h e
  exact h (Int.ofNat.inj e)
theorem placesI_mem {n : Nat} {i : Int} : i ∈ placesI n ↔ 0 ≤ i ∧ i < n := by
  unfold placesI
  rw [List.mem_map]
  constructor
  · rintro ⟨k, hk, rfl⟩
    have := List.mem_range.1 hk
    omega
  · intro h
    exact ⟨i.toNat, List.mem_range.2 (by omega), by omega⟩
theorem isAll_perm {o : List Int} {n : Nat} : isAllB o n = true ↔ o.Perm (placesI n) := by
  unfold isAllB
  rw [Bool.and_eq_true, decide_eq_true_eq, Bool.not_eq_true', List.any_eq_false]
  constructor
  · rintro ⟨hl, ha⟩
    refine erase_perm _ _ (placesI_nodup n) (fun i hi => ?_) (by simp [placesI, hl])
    have := ha i hi
    simpa using this
  · intro h
    refine ⟨by simpa [placesI] using h.length_eq, fun i hi => ?_⟩
    have : i ∈ o := h.mem_iff.2 hi
    simpa using this
theorem getD_range (L : List Pt) : (placesI L.length).map (fun i => L.getD i.toNat patZero) = L := by
  unfold placesI
  rw [List.map_map]
  refine List.ext_getElem (by simp) fun j h1 h2 => ?_
  simp
  rw [List.getElem?_eq_getElem h2]
  rfl
theorem swap_perm {q : Qu} {o : List Int} (h : o.Perm (placesI q.parts.length)) : (swapQ q o).parts.Perm q.parts := by
  have := h.map (fun i => q.parts.getD i.toNat patZero)
  rw [getD_range] at this
  exact this
theorem partsN_zero : ∀ {l : List Pt}, (∀ p ∈ l, varsN p = 0) → partsN l = 0
  | [], _ => rfl
  | p :: l, h => by
    unfold partsN
    rw [if_pos (h p (by simp))]
    exact partsN_zero fun q hq => h q (List.mem_cons_of_mem _ hq)

/-! ### which is taken next -/
def fixS (known : List (List UInt8)) (s : Sl) : Nat := if s.1 ∈ known ∨ s.1 = [] then 1 else 0
def fixN (known : List (List UInt8)) (p : Pt) : Nat := fixS known p.1 + fixS known p.2.1 + fixS known p.2.2
def learnS (known : List (List UInt8)) (s : Sl) : List (List UInt8) := if s.1 = [] then known else known ++ [s.1]
def learnP (known : List (List UInt8)) (p : Pt) : List (List UInt8) := learnS (learnS (learnS known p.1) p.2.1) p.2.2
def cmpI (a b : Int) : Int := if a < b then -1 else if a > b then 1 else 0
def orP (a b : Int) : Int := if a ≠ 0 then a else b
def cmpP2 (parts : List Pt) (counts : List Nat) (known : List (List UInt8)) (a b : Int) : Int :=
  orP (cmpI (fixN known (parts.getD b.toNat patZero) : Nat) (fixN known (parts.getD a.toNat patZero) : Nat)) (cmpI (counts.getD a.toNat 0 : Nat) (counts.getD b.toNat 0 : Nat))
def minF (c : Int → Int → Int) : Int → List Int → Int
  | m, [] => m
  | m, x :: l => minF c (if c x m < 0 then x else m) l
theorem minF_mem (c : Int → Int → Int) : ∀ (l : List Int) (m : Int), minF c m l ∈ m :: l
  | [], m => by simp [minF]
  | x :: l, m => by
    unfold minF
    have := minF_mem c l (if c x m < 0 then x else m)
    rcases List.mem_cons.1 this with h | h
    · rw [h]
      split
      · simp
      · simp
    · exact List.mem_cons_of_mem _ (List.mem_cons_of_mem _ h)
def nextP (parts : List Pt) (counts : List Nat) (known : List (List UInt8)) (left : List Int) : Int := match left with
  | [] => 0
  | m :: l => minF (cmpP2 parts counts known) m l
def leftP (left : List Int) (n : Int) : List Int := left.filter fun x => !decide (x = n)
theorem nextP_mem {parts : List Pt} {counts : List Nat} {known : List (List UInt8)} {left : List Int} (h : left ≠ []) : nextP parts counts known left ∈ left := by
  cases left with
  | nil => exact absurd rfl h
  | cons m l => exact minF_mem _ l m
theorem leftP_less {left : List Int} {n : Int} (h : n ∈ left) : (leftP left n).length < left.length := by
  unfold leftP
  induction left with
  | nil => cases h
  | cons x l ih =>
    rw [List.filter_cons]
    by_cases e : x = n
    · rw [if_neg (by simp [e])]
      have := List.length_filter_le (fun x => !decide (x = n)) l
      simp only [List.length_cons]
      omega
    · rw [if_pos (by simp [e])]
      rcases List.mem_cons.1 h with k | k
      · exact absurd k.symm e
      · have := ih k
        simp only [List.length_cons]
        omega
/-- by fuel: as many as there are -/
def takeF (parts : List Pt) (counts : List Nat) : Nat → List (List UInt8) → List Int → List Int
  | 0, _, _ => []
  | n + 1, known, left => if left = [] then [] else nextP parts counts known left :: takeF parts counts n (learnP known (parts.getD (nextP parts counts known left).toNat patZero)) (leftP left (nextP parts counts known left))
theorem take_perm (parts : List Pt) (counts : List Nat) : ∀ (n : Nat) (known : List (List UInt8)) (left : List Int), left.length ≤ n → left.Nodup → (takeF parts counts n known left).Perm left
  | 0, known, left, h, _ => by
    have : left = [] := List.eq_nil_of_length_eq_zero (by omega)
    rw [this]
    exact List.Perm.refl _
  | n + 1, known, left, h, hn => by
    unfold takeF
    by_cases h0 : left = []
    · rw [if_pos h0, h0]
    · rw [if_neg h0]
      have hm := nextP_mem (parts := parts) (counts := counts) (known := known) h0
      generalize nextP parts counts known left = m at *
      have h1 := leftP_less hm
      have h2 := take_perm parts counts n (learnP known (parts.getD m.toNat patZero)) (leftP left m) (by omega) (hn.sublist List.filter_sublist)
      refine (List.Perm.cons m h2).trans ?_
      have he : leftP left m = left.erase m := by
        unfold leftP
        rw [hn.erase_eq_filter]
        refine List.filter_congr fun x _ => ?_
        by_cases e : x = m
        · simp [e]
        · simp [e]
      rw [he]
      exact (List.perm_cons_erase hm).symm
theorem takeF_more (parts : List Pt) (counts : List Nat) : ∀ (n m : Nat) (known : List (List UInt8)) (left : List Int), left.length ≤ n → left.length ≤ m → takeF parts counts n known left = takeF parts counts m known left
  | 0, m, known, left, h, _ => by
    have : left = [] := List.eq_nil_of_length_eq_zero (by omega)
    rw [this]
    cases m with
    | zero => rfl
    | succ m => simp [takeF]
  | n + 1, 0, known, left, _, h => by
    have : left = [] := List.eq_nil_of_length_eq_zero (by omega)
    rw [this]
    simp [takeF]
  | n + 1, m + 1, known, left, h, k => by
    unfold takeF
    by_cases h0 : left = []
    · rw [if_pos h0, if_pos h0]
    · rw [if_neg h0, if_neg h0]
      have hm := nextP_mem (parts := parts) (counts := counts) (known := known) h0
      have h1 := leftP_less hm
      rw [takeF_more parts counts n m _ _ (by omega) (by omega)]
def takeL (parts : List Pt) (counts : List Nat) : List Int := takeF parts counts parts.length [] (placesI parts.length)
def countsL (S : List Tr) (parts : List Pt) : List Nat := parts.map fun p => (matchP S p).length
def orderL (S : List Tr) (q : Qu) : List Int := takeL q.parts (countsL S q.parts)
def orderN (S : List Tr) (q : Qu) : Int := if sortedN S ≠ 0 then sortedN S else askN q
theorem order_perm (S : List Tr) (q : Qu) : (orderL S q).Perm (placesI q.parts.length) := take_perm _ _ _ _ _ (by simp [placesI]) (placesI_nodup _)
theorem order_len (S : List Tr) (q : Qu) : (orderL S q).length = q.parts.length := by
  have := (order_perm S q).length_eq
  simpa [placesI] using this
end Go.Proofs.YtcdbcoaiadipjaaGreatDoor

/- match.isFree, spelled, slotFault, slotsOf, and slices.Contains at texts: what they tell. -/
namespace Go.Proofs.YtcdbcoaiadipjaaGreatDoor
open Go Go.RowKit Go.Proofs
set_option synthInstance.maxSize 1000

attribute [local go_sem] eql_errV neq_errV guard_errV

def valTermM (x : Tm) : Value := .agg #[.int .i64 x.1, .string ⟨x.2.1.toArray⟩, .string ⟨x.2.2.toArray⟩]
def valSl (s : Sl) : Value := .agg #[.string ⟨s.1.toArray⟩, .int .i64 s.2.1, .string ⟨s.2.2.1.toArray⟩, .string ⟨s.2.2.2.toArray⟩]
def encPt (p : Pt) : List Value := [.string ⟨p.1.1.toArray⟩, .int .i64 p.1.2.1, .string ⟨p.1.2.2.1.toArray⟩, .string ⟨p.1.2.2.2.toArray⟩, .string ⟨p.2.1.1.toArray⟩, .int .i64 p.2.1.2.1, .string ⟨p.2.1.2.2.1.toArray⟩, .string ⟨p.2.1.2.2.2.toArray⟩, .string ⟨p.2.2.1.toArray⟩, .int .i64 p.2.2.2.1, .string ⟨p.2.2.2.2.1.toArray⟩, .string ⟨p.2.2.2.2.2.toArray⟩]
def valPt (p : Pt) : Value := .agg #[.string ⟨p.1.1.toArray⟩, .int .i64 p.1.2.1, .string ⟨p.1.2.2.1.toArray⟩, .string ⟨p.1.2.2.2.toArray⟩, .string ⟨p.2.1.1.toArray⟩, .int .i64 p.2.1.2.1, .string ⟨p.2.1.2.2.1.toArray⟩, .string ⟨p.2.1.2.2.2.toArray⟩, .string ⟨p.2.2.1.toArray⟩, .int .i64 p.2.2.2.1, .string ⟨p.2.2.2.2.1.toArray⟩, .string ⟨p.2.2.2.2.2.toArray⟩]
def fitSl (s : Sl) : Prop := s.1.length ≤ maxLen ∧ s.2.2.1.length ≤ maxLen ∧ s.2.2.2.length ≤ maxLen
def fitPt (p : Pt) : Prop := fitSl p.1 ∧ fitSl p.2.1 ∧ fitSl p.2.2

theorem eqlTerm (k : Int) (S L : List UInt8) (k' : Int) (S' L' : List UInt8) (w : World) : (binOp .eql 28 (.agg #[.int .i64 k, .string ⟨S.toArray⟩, .string ⟨L.toArray⟩]) (.agg #[.int .i64 k', .string ⟨S'.toArray⟩, .string ⟨L'.toArray⟩])).run Tryz.prog w = .ok (.bool (eqTB k S L k' S' L')) w := by
  rw [run_eql_struct, equalTerm]; rfl
theorem neqTerm (k : Int) (S L : List UInt8) (k' : Int) (S' L' : List UInt8) (w : World) : (binOp .neq 28 (.agg #[.int .i64 k, .string ⟨S.toArray⟩, .string ⟨L.toArray⟩]) (.agg #[.int .i64 k', .string ⟨S'.toArray⟩, .string ⟨L'.toArray⟩])).run Tryz.prog w = .ok (.bool (!eqTB k S L k' S' L')) w := by
  rw [run_neq_struct, equalTerm]; rfl
theorem neqTermZ (k : Int) (S L : List UInt8) (w : World) : (binOp .neq 28 (.agg #[.int .i64 k, .string ⟨S.toArray⟩, .string ⟨L.toArray⟩]) (.agg #[.int .i64 0, .string ⟨#[]⟩, .string ⟨#[]⟩])).run Tryz.prog w = .ok (.bool (!eqTB k S L 0 [] [])) w := neqTerm k S L 0 [] [] w
theorem eqTB_tm (x y : Tm) : eqTB x.1 x.2.1 x.2.2 y.1 y.2.1 y.2.2 = decide (x = y) := by
  obtain ⟨k, s, l⟩ := x
  obtain ⟨k', s', l'⟩ := y
  rw [Bool.eq_iff_iff, eqTB_iff]
  simp

theorem isVar_any (v : List UInt8) (k : Int) (S L : List UInt8) (w : World) :
    Calls Tryz.prog 71 #[.agg #[.string ⟨v.toArray⟩, .int .i64 k, .string ⟨S.toArray⟩, .string ⟨L.toArray⟩]] w fun e w' => e = .returned (.bool (!v.isEmpty)) ∧ Below w.heap.size w w' := by
  cases v
  all_goals
    go_enter Tryz.func71, Tryz.ntmps71
    go_wp2
    go_ret
    exact ⟨rfl, balloc _ _⟩

theorem offR_any (x : Nat) (w : World) : Calls Tryz.prog 143 #[.int .i32 x] w fun e w' => e = .returned (.bool (offR x)) ∧ ∃ q, w' = w.drewN q := by
  have fin : Hid (offR x = (decide (x < 97) || decide (122 < x))) := rfl
  by_cases h : x < 97
  · have h' : decide ((x : Int) < 97) = true := by simp; omega
    go_enter Tryz.func143, Tryz.ntmps143
    go_wp2
    go_ret
    exact ⟨ret_bool (by rw [fin.out]; simp [h]), 0, rfl⟩
  · have h' : decide ((x : Int) < 97) = false := by simp; omega
    go_enter Tryz.func143, Tryz.ntmps143
    go_wp2
    go_ret
    exact ⟨ret_bool (by rw [fin.out]; simp [h]; omega), 0, rfl⟩

theorem enters143 : ∀ args w, (callFunc 143 args).run Tryz.prog w = .ok (.enter 143 args) w := enters_of Tryz.func143 (by kernel_rfl) rfl

set_option maxHeartbeats 1000000 in
theorem IsVar_any (v : List UInt8) (w : World) (hv : v.length ≤ maxLen) :
    Calls Tryz.prog 114 #[.string ⟨v.toArray⟩] w fun e w' => e = .returned (.bool (!v.isEmpty && spellV v)) ∧ Below w.heap.size w w' := by
  have H := fun W => Tryz.strings_ContainsFunc 143 #[] enters143 offR ⟨v.toArray⟩ W (fun W' x _ => offR_any x W')
  have e : decide (0 ≤ Lib.idxFunc offR true ⟨v.toArray⟩) = !allB letB v := offAny ⟨v.toArray⟩
  rw [e] at H
  cases v with
  | nil =>
    clear e H
    go_enter Tryz.func114, Tryz.ntmps114
    go_wp2
    go_ret
    exact ⟨rfl, Below.refl _ _⟩
  | cons c r =>
    have fin : Hid (spellV (c :: r) = (decide (r.length + 1 ≤ 10) && allB letB (c :: r))) := rfl
    generalize allB letB (c :: r) = d at *
    clear e
    unfold maxLen at hv
    have hv' : r.length + 1 ≤ 9223372036854775807 := hv
    by_cases h : r.length + 1 ≤ 10
    · have h' : decide ((r.length : Int) + 1 ≤ 10) = true := by simp; omega
      go_enter Tryz.func114, Tryz.ntmps114
      go_wp2_with (go_at_call 142; refine (H _).mono ?_; rintro e w' ⟨rfl, hb⟩)
      go_ret
      exact ⟨ret_bool (by rw [fin.out]; simp [h]), by assumption⟩
    · have h' : decide ((r.length : Int) + 1 ≤ 10) = false := by simp; omega
      clear H
      go_enter Tryz.func114, Tryz.ntmps114
      go_wp2
      go_ret
      exact ⟨ret_bool (by rw [fin.out]; simp [h]), Below.refl _ _⟩

theorem spelledV_any (v : List UInt8) (w : World) (hv : v.length ≤ maxLen) (hne : v ≠ []) :
    Calls Tryz.prog 114 #[.string ⟨v.toArray⟩] w fun e w' => e = .returned (.bool (spellV v)) ∧ Below w.heap.size w w' := by
  have := IsVar_any v w hv
  rw [show (!v.isEmpty) = true by cases v with | nil => exact absurd rfl hne | cons c r => rfl, Bool.true_and] at this
  exact this
end Go.Proofs.YtcdbcoaiadipjaaGreatDoor

/- match.slotFault, slotsOf, termsOf; slices.Contains at texts. -/
namespace Go.Proofs.YtcdbcoaiadipjaaGreatDoor
open Go Go.RowKit Go.Proofs
set_option synthInstance.maxSize 1000

attribute [local go_sem] eql_errV neq_errV guard_errV
attribute [local go_sem ↓] neqTermZ

theorem fourbox {w W : World} {T : TypeId} {a0 a1 a2 a3 : Value} (hb : Below (w.alloc (.cells #[a0, a1, a2, a3] T)).heap.size (w.alloc (.cells #[a0, a1, a2, a3] T)) W) :
    W.cell? ⟨w.heap.size, 0, none⟩ = some a0 ∧ W.cell? ⟨w.heap.size, 1, none⟩ = some a1 ∧ W.cell? ⟨w.heap.size, 2, none⟩ = some a2 ∧ W.cell? ⟨w.heap.size, 3, none⟩ = some a3 ∧ w.heap.size < W.heap.size := by
  obtain ⟨h, _⟩ := bcell hb
  have hs := hb.size
  refine ⟨?_, ?_, ?_, ?_, by simp at hs; omega⟩
  all_goals
    rw [h]
    · go_simp
    · simp <;> omega

set_option maxHeartbeats 1000000 in
theorem slotFault_any (s : Sl) (w : World) (hs : fitSl s) :
    Calls Tryz.prog 70 #[valSl s] w fun e w' => e = .returned (errV (slotN s)) ∧ Below w.heap.size w w' := by
  obtain ⟨v, k, S, L⟩ := s
  obtain ⟨hv, hS, hL⟩ := hs
  have HV := fun W => isVar_any v k S L W
  have HC := fun W => Check_any k S L W hS hL
  have HP0 := fun W => spelledV_any v W hv
  unfold valSl
  dsimp only
  cases v with
  | nil =>
    have fin : Hid (slotN ([], k, S, L) = checkN k S L) := rfl
    rw [show (!([] : List UInt8).isEmpty) = false from rfl] at HV
    clear HP0 hv hS hL
    generalize checkN k S L = c at HC fin
    go_enter Tryz.func70, Tryz.ntmps70
    go_wp2_with fail
    refine (HV _).mono ?_
    rintro e w1 ⟨rfl, hb1⟩
    obtain ⟨a0, a1, a2, a3, hz⟩ := fourbox hb1
    go_wp2_with fail
    refine (HC _).mono ?_
    rintro e w2 ⟨rfl, hb2⟩
    go_wp2_with fail
    go_ret
    exact ⟨ret_val (by rw [fin.out]; rfl), bstep (bstep (balloc _ _) hb1) hb2⟩
  | cons ch r =>
    have fin : Hid (slotN (ch :: r, k, S, L) = if spellV (ch :: r) = false then 2 else if eqTB k S L 0 [] [] = true then 0 else 3) := by
      show slotN _ = _
      unfold slotN
      rw [if_neg (by simp)]
      have := eqTB_tm (k, S, L) tmZero
      by_cases hz : (k, S, L) = tmZero
      · rw [decide_eq_true hz] at this
        rw [show eqTB k S L 0 [] [] = true from this]
        simp only [hz, if_true]
      · rw [decide_eq_false hz] at this
        rw [show eqTB k S L 0 [] [] = false from this]
        simp only [hz, if_false, Bool.false_eq_true]
    rw [show (!(ch :: r).isEmpty) = true from rfl] at HV
    have HP := fun W => HP0 W (by simp)
    clear HP0 HC hv hS hL
    generalize spellV (ch :: r) = d at HP fin
    cases d
    · go_enter Tryz.func70, Tryz.ntmps70
      go_wp2_with fail
      refine (HV _).mono ?_
      rintro e w1 ⟨rfl, hb1⟩
      obtain ⟨a0, a1, a2, a3, hz⟩ := fourbox hb1
      go_wp2_with fail
      refine (HP _).mono ?_
      rintro e w2 ⟨rfl, hb2⟩
      go_wp2_with fail
      go_ret
      exact ⟨ret_val (by rw [fin.out]; rfl), bstep (bstep (balloc _ _) hb1) hb2⟩
    · cases hq : eqTB k S L 0 [] []
      all_goals
        go_enter Tryz.func70, Tryz.ntmps70
        go_wp2_with fail
        refine (HV _).mono ?_
        rintro e w1 ⟨rfl, hb1⟩
        obtain ⟨a0, a1, a2, a3, hz⟩ := fourbox hb1
        go_wp2_with fail
        refine (HP _).mono ?_
        rintro e w2 ⟨rfl, hb2⟩
        have b1 := (hb2.cell (World.block_lt_of_cell? w1 _ a1)).trans a1
        have b2 := (hb2.cell (World.block_lt_of_cell? w1 _ a2)).trans a2
        have b3 := (hb2.cell (World.block_lt_of_cell? w1 _ a3)).trans a3
        clear a0 a1 a2 a3
        go_wp2_with fail
        go_ret
        exact ⟨ret_val (by rw [fin.out, hq]; rfl), bstep (bstep (balloc _ _) hb1) hb2⟩

theorem slotsOf_any (p : Pt) (w : World) : Calls Tryz.prog 69 #[valPt p] w fun e w' => e = .returned (valPt p) ∧ Below w.heap.size w w' := by
  unfold valPt
  go_enter Tryz.func69, Tryz.ntmps69
  go_wp2_with fail
  refine bodyPost_ret (v := .agg (encPt p).toArray) (by unfold results; rw [Tryz.results69]; unfold encPt; go_simp) rfl ⟨rfl, ?_⟩
  exact bstep (balloc _ _) (balloc _ _)

theorem termsOf_any (x : Tr) (w : World) : Calls Tryz.prog 146 #[valTr x] w fun e w' => e = .returned (valTr x) ∧ Grew w w' := by
  unfold valTr
  go_enter Tryz.func146, Tryz.ntmps146
  go_wp2_with fail
  refine bodyPost_ret (v := .agg (encTr x).toArray) (by unfold results; rw [Tryz.results146]; unfold encTr; go_simp) rfl ⟨rfl, ?_⟩
  exact (grew_alloc _ _).trans (grew_alloc _ _)

/-! ### texts in a row -/
def encV (v : List UInt8) : Value := .string ⟨v.toArray⟩
def SlV (w : World) (ad : Option Addr) (l : List (List UInt8)) : Prop := l ≠ [] → ∃ b, ad = some ⟨b, 0, none⟩ ∧ ∀ j (hj : j < l.length), w.cell? ⟨b, j, none⟩ = some (encV l[j])
theorem own_v {W : World} {base : Nat} {v : Value} {t : List (List UInt8)} (h : W.ownsRow base 9 1 v t.length (t.map encV)) : ∃ ad cap, v = .slice ad t.length cap ∧ SlV W ad t := by
  have h' := h
  rcases h.2 with ⟨rfl, h0⟩ | ⟨g, cap, cur, rfl, _⟩
  · exact ⟨none, 0, by rw [h0], fun hne => absurd (List.eq_nil_of_length_eq_zero h0) hne⟩
  · refine ⟨some ⟨g, 0, none⟩, cap, rfl, fun _ => ⟨g, rfl, fun j hj => ?_⟩⟩
    have := h'.cells (g := g) rfl j (encV t[j]) (by simp [List.getElem?_eq_getElem hj])
    rw [Addr.add_lit, Nat.zero_add] at this
    exact this
theorem SlV.below {w w' : World} {ad : Option Addr} {l : List (List UInt8)} (h : SlV w ad l) (hb : Below w.heap.size w w') : SlV w' ad l := fun hl => by
  obtain ⟨b, e, r⟩ := h hl
  exact ⟨b, e, fun j hj => (hb.cell (World.block_lt_of_cell? w _ (r j hj))).trans (r j hj)⟩

theorem ContainsV_any (ad : Option Addr) (cap : Nat) (l : List (List UInt8)) (x : List UInt8) (w : World) (h : SlV w ad l) (hn : l.length ≤ 1000000) :
    Calls Tryz.prog 42 #[.slice ad l.length cap, .string ⟨x.toArray⟩] w fun e w' => e = .returned (.bool (decide (x ∈ l))) ∧ w' = w := by
  cases hl : l with
  | nil =>
    simpa using Tryz.slices_Contains_string_empty ad cap ⟨x.toArray⟩ w
  | cons c r =>
    rw [← hl]
    obtain ⟨b, rfl, hr⟩ := h (by rw [hl]; simp)
    refine (Tryz.slices_Contains_string b 0 l.length cap (l.map fun v => ⟨v.toArray⟩) ⟨x.toArray⟩ w (by simp) (by omega) ?_).mono ?_
    · intro j hj
      have hj' : j < l.length := by simpa using hj
      rw [Nat.zero_add, hr j hj']
      simp [encV, List.getD_eq_getElem?_getD, List.getElem?_eq_getElem hj']
    · rintro e w' ⟨rfl, rfl⟩
      refine ⟨ret_bool ?_, rfl⟩
      rw [show l.length = (l.map fun v => (⟨v.toArray⟩ : ByteArray)).length by simp, List.take_length, Bool.eq_iff_iff, Lib.containsS_iff]
      simp only [List.mem_map, decide_eq_true_eq]
      constructor
      · rintro ⟨v, hv, e⟩
        have := congrArg (fun s : ByteArray => s.data.toList) e
        simp at this
        exact this ▸ hv
      · intro hx
        exact ⟨x, hx, rfl⟩
end Go.Proofs.YtcdbcoaiadipjaaGreatDoor

/- match.bind: which term a variable has; a map whose keys are texts and whose elements are terms. -/
namespace Go.Proofs.YtcdbcoaiadipjaaGreatDoor
open Go Go.RowKit Go.Proofs Go.Maps
set_option synthInstance.maxSize 1000

/-- what variables have -/
abbrev Env := List (List UInt8 × Tm)
def lookE (E : Env) (v : List UInt8) : Option Tm := E.lookup v
def putEn (E : Env) (v : List UInt8) (x : Tm) : Env := if (lookE E v).isSome then E else E ++ [(v, x)]
def getEn (E : Env) (v : List UInt8) (x : Tm) : Tm := (lookE E v).getD x

theorem lookE_put (E : Env) (v : List UInt8) (x : Tm) (h : lookE E v = none) (u : List UInt8) : lookE (E ++ [(v, x)]) u = if u = v then some x else lookE E u := by
  unfold lookE at *
  induction E with
  | nil =>
    by_cases e : u = v
    · subst e; simp
    · simp only [List.nil_append, List.lookup]
      rw [if_neg e, show (u == v) = false by simpa using e]
  | cons a r ih =>
    obtain ⟨n, y⟩ := a
    simp only [List.cons_append, List.lookup] at h ⊢
    cases hn : (v == n)
    · rw [hn] at h
      cases hu : (u == n)
      · exact ih h
      · have e1 : u = n := by simpa using hu
        have e2 : ¬ v = n := by simpa using hn
        rw [if_neg (show ¬ u = v from fun e => e2 (e.symm.trans e1))]
    · rw [hn] at h; simp at h

/-! ### elements that are terms -/
def encDM (x : Tm) : DataW Unit := .agg [.lit (.int .i64 x.1), .lit (.string x.2.1), .lit (.string x.2.2)]
def termElemM (v : Value) : Option (DataW Unit × List MemPlace) :=
  match v with
  | .agg cs => match cs.toList with
    | [.int .i64 k, .string S, .string L] => some (encDM (k, S.data.toList, L.data.toList), [])
    | _ => none
  | _ => none
theorem termElemM_mk (x : Tm) : termElemM (valTermM x) = some (encDM x, []) := by
  simp [termElemM, valTermM]
theorem encDM_inj {x y : Tm} (h : encDM x = encDM y) : x = y := by
  obtain ⟨a1, a2, a3⟩ := x
  obtain ⟨b1, b2, b3⟩ := y
  simp only [encDM, DataW.agg.injEq, List.cons.injEq, DataW.lit.injEq, Lit.int.injEq, Lit.string.injEq, true_and, and_true] at h
  obtain ⟨rfl, rfl, rfl⟩ := h
  rfl
theorem termElemM_inv {v : Value} {x : Tm} {ps : List MemPlace} (h : termElemM v = some (encDM x, ps)) : v = valTermM x := by
  unfold termElemM at h
  split at h
  · rename_i cs
    split at h
    · rename_i k S L hcs
      simp only [Option.some.injEq, Prod.mk.injEq] at h
      have := encDM_inj h.1
      subst this
      obtain ⟨l, rfl⟩ : ∃ l : List Value, cs = l.toArray := ⟨cs.toList, by simp⟩
      simp at hcs
      subst hcs
      rfl
    · cases h
  · cases h

theorem keyedStr : Keyed Tryz.prog 9 := string_keyed Tryz.underlying9
theorem keyOf_v (v : List UInt8) (hv : v.length ≤ maxLen) : keyOf Tryz.prog 9 (.string ⟨v.toArray⟩) = some (.string v) := by
  have h' : (⟨v.toArray⟩ : ByteArray).size ≤ maxLen := hv
  simp [keyOf, Tryz.underlying9, mapKey, h']
theorem zeroTmV (w : World) : (zeroValue 28).run Tryz.prog w = .ok (valTermM tmZero) w := by kernel_rfl

/-- the map at a block holds what variables have -/
def BoundAt (w : World) (bm : Nat) (E : Env) : Prop :=
  ∃ D : DataW Unit, w.ownsMap Tryz.prog 9 termElemM bm E.length D ∧ ∀ v : List UInt8, v.length ≤ maxLen → Maps.has D (.string v) = (lookE E v).isSome ∧ D.atKey (.string v) (encDM tmZero) = encDM ((lookE E v).getD tmZero)

theorem ownsMap_belowM {H : Type} {R : Value → Option (DataW H × List MemPlace)} {k : TypeId} {w w' : World} {b n : Nat} {D : DataW H} (h : w.ownsMap Tryz.prog k R b n D) (hb : RowKit.Below w.heap.size w w') : w'.ownsMap Tryz.prog k R b n D := by
  obtain ⟨es, clock, hm, r⟩ := h
  have hlt : b < w.heap.size := (Array.getElem?_eq_some_iff.1 hm).1
  exact ⟨es, clock, (hb.block b hlt).trans hm, r⟩
theorem BoundAt.below {w w' : World} {bm : Nat} {E : Env} (h : BoundAt w bm E) (hb : RowKit.Below w.heap.size w w') : BoundAt w' bm E := by
  obtain ⟨D, o, f⟩ := h
  exact ⟨D, ownsMap_belowM o hb, f⟩
theorem BoundAt.lt {w : World} {bm : Nat} {E : Env} (h : BoundAt w bm E) : bm < w.heap.size := by
  obtain ⟨D, ⟨es, clock, hm, r⟩, f⟩ := h
  exact (Array.getElem?_eq_some_iff.1 hm).1
theorem boundAt_made (w : World) : BoundAt (w.alloc (.map #[] 0)) w.heap.size [] :=
  ⟨.map [], World.ownsMap_made _ _ _ _, fun v _ => ⟨by simp [Maps.has_eq, lookE], by simp [DataW.atKey, lookE]⟩⟩

theorem look_bound {bm : Nat} {E : Env} {w : World} (h : BoundAt w bm E) (v : List UInt8) (hv : v.length ≤ maxLen) :
    (Instr.lookup 79 (.map (some bm)) (.string ⟨v.toArray⟩) true).run Tryz.prog w = .ok (.tuple #[valTermM ((lookE E v).getD tmZero), .bool (lookE E v).isSome]) w := by
  obtain ⟨D, o, f⟩ := h
  obtain ⟨u, ps, hrun, hu⟩ := o.look_ok keyedStr Tryz.underlying79 (zeroTmV w) (termElemM_mk tmZero) (keyOf_v v hv)
  rw [(f v hv).2] at hu
  rw [hrun, (f v hv).1, termElemM_inv hu]

theorem wpList_look_bound (w : World) {ops : Array Oper} {rest : List Oper} {o : Oper} {a : Act} {Q : Exit → Act → World → Prop}
    (hg : o.guard = none) (m x : Operand) (hop : o.op = Op.lookup 79 m x true) (bm : Nat) (E : Env) (hm : a.eval m = .map (some bm)) (h : BoundAt w bm E)
    (v : List UInt8) (hv : v.length ≤ maxLen) (hx : a.eval x = .string ⟨v.toArray⟩) (y : Tm) (b : Bool) (hy : (lookE E v).getD tmZero = y) (hb : (lookE E v).isSome = b)
    (hK : wpList Tryz.prog ops Q rest (a.put o.dst (.tuple #[.agg #[.int .i64 y.1, .string ⟨y.2.1.toArray⟩, .string ⟨y.2.2.toArray⟩], .bool b])) w) : wpList Tryz.prog ops Q (o :: rest) a w := by
  refine wpList_plain hg fun K' hK' => ?_
  have hrun := look_bound h v hv
  rw [hy, hb] at hrun
  unfold Oper.wp
  simp [execOp, hop, hm, hx, hrun, Result.andThen]
  exact hK' _ _ hK

/-- one more variable -/
theorem bound_put {E : Env} {v : List UInt8} {x : Tm} {D : DataW Unit} (hv : v.length ≤ maxLen) (hn : lookE E v = none) (m1 : IsMap D)
    (f : ∀ v : List UInt8, v.length ≤ maxLen → Maps.has D (.string v) = (lookE E v).isSome ∧ D.atKey (.string v) (encDM tmZero) = encDM ((lookE E v).getD tmZero)) :
    ∀ u : List UInt8, u.length ≤ maxLen → Maps.has (D.put (.string v) (encDM x)) (.string u) = (lookE (E ++ [(v, x)]) u).isSome ∧ (D.put (.string v) (encDM x)).atKey (.string u) (encDM tmZero) = encDM ((lookE (E ++ [(v, x)]) u).getD tmZero) := fun u hu => by
  have hk := keyedStr.key (keyOf_v v hv)
  rw [lookE_put E v x hn u]
  by_cases e : u = v
  · subst e
    rw [Maps.has_put_same m1 hk, Maps.atKey_put_same m1 hk, if_pos rfl]
    exact ⟨rfl, rfl⟩
  · have hne : (Lit.string u) ≠ (Lit.string v) := fun e' => e (by simpa using e')
    rw [Maps.has_put_other hne, Maps.atKey_put_other hne, if_neg e]
    exact f u hu

theorem grownBy_below {w w' : World} {r : Option Nat} (hb : RowKit.Below w.heap.size w w') : w.grownBy w' r := ⟨hb.os, hb.tape, hb.output, hb.size, fun i hi _ => hb.block i hi⟩
theorem grownBy_trans {a b c : World} {r : Option Nat} (h : a.grownBy b r) (k : b.grownBy c r) : a.grownBy c r :=
  ⟨k.os.trans h.os, k.tape.trans h.tape, k.output.trans h.output, Nat.le_trans h.size k.size, fun i hi hr => (k.block i (Nat.lt_of_lt_of_le hi h.size) hr).trans (h.block i hi hr)⟩

theorem grown_far {W w1 : World} {bm b : Nat} (h : W.grownBy w1 (some bm)) (hb : b < W.heap.size) (hne : b ≠ bm) (o : Nat) : w1.cell? ⟨b, o, none⟩ = W.cell? ⟨b, o, none⟩ ∧ w1.frozen? ⟨b, o, none⟩ = W.frozen? ⟨b, o, none⟩ := by
  have e := h.block b hb (fun e => hne (by simpa using e))
  refine ⟨World.cell?_of_block (w := W) e, ?_⟩
  simp only [World.frozen?]
  rw [e]
theorem grown_mid {w W w1 w2 : World} {bm : Nat} (h1 : RowKit.Below w.heap.size w W) (h2 : W.grownBy w1 (some bm)) (h3 : RowKit.Below w.heap.size w1 w2) : w.grownBy w2 (some bm) :=
  ⟨h3.os.trans (h2.os.trans h1.os), h3.tape.trans (h2.tape.trans h1.tape), h3.output.trans (h2.output.trans h1.output), Nat.le_trans (Nat.le_trans h1.size h2.size) h3.size,
    fun i hi hr => (h3.block i hi).trans ((h2.block i (Nat.lt_of_lt_of_le hi h1.size) hr).trans (h1.block i hi))⟩
theorem BoundAt.far {w w' : World} {bm B : Nat} {E : Env} (h : BoundAt w bm E) (hb : RowKit.Below B w w') (hB : bm < B) : BoundAt w' bm E := by
  obtain ⟨D, ⟨es, clock, hm, r⟩, f⟩ := h
  exact ⟨D, ⟨es, clock, (hb.block bm hB).trans hm, r⟩, f⟩

set_option maxHeartbeats 2000000 in
set_option maxRecDepth 100000 in
theorem bind_any (bm : Nat) (E : Env) (v : List UInt8) (x : Tm) (w : World) (h : BoundAt w bm E) (hv : v.length ≤ maxLen) (hE : E.length ≤ 1000) :
    Calls Tryz.prog 147 #[.map (some bm), .string ⟨v.toArray⟩, valTermM x] w fun e w' => e = .returned (valTermM (getEn E v x)) ∧ BoundAt w' bm (putEn E v x) ∧ w.grownBy w' (some bm) := by
  have hlt := h.lt
  have Hb : Hid (BoundAt w bm E) := h
  clear h
  cases hl : lookE E v with
  | some y =>
    have e1 : getEn E v x = y := by simp [getEn, hl]
    have e2 : putEn E v x = E := by simp [putEn, hl]
    rw [e1, e2]
    clear e1 e2
    have Hl : Hid (lookE E v = some y) := hl
    clear hl
    unfold valTermM
    go_enter Tryz.func147, Tryz.ntmps147
    go_wp2_with (first
      | (at_lookup; refine wpList_look_bound _ rfl _ _ rfl bm E rfl ((Hb.out.below (balloc _ _)).below (balloc _ _)) v hv rfl y true (by rw [Hl.out]; rfl) (by rw [Hl.out]; rfl) ?_))
    have hB : RowKit.Below w.heap.size w _ := bstep (bstep (balloc w (.cells #[.int .i64 x.1, .string ⟨x.2.1.toArray⟩, .string ⟨x.2.2.toArray⟩] 28)) (balloc _ (.cells #[.int .i64 y.1, .string ⟨y.2.1.toArray⟩, .string ⟨y.2.2.toArray⟩] 28))) (balloc _ (.cells #[.int .i64 y.1, .string ⟨y.2.1.toArray⟩, .string ⟨y.2.2.toArray⟩] 28))
    exact bodyPost_ret (v := .agg #[.int .i64 y.1, .string ⟨y.2.1.toArray⟩, .string ⟨y.2.2.toArray⟩]) (by unfold results; rw [Tryz.results147]; go_simp) rfl ⟨rfl, Hb.out.below hB, grownBy_below hB⟩
  | none =>
    have e1 : getEn E v x = x := by simp [getEn, hl]
    have e2 : putEn E v x = E ++ [(v, x)] := by simp [putEn, hl]
    rw [e1, e2]
    clear e1 e2
    have Hl : Hid (lookE E v = none) := hl
    clear hl
    unfold valTermM
    have helem := termElemM_mk x
    unfold valTermM at helem
    obtain ⟨D, hown0, hf0⟩ := Hb.out
    have hown : Hid (w.ownsMap Tryz.prog 9 termElemM bm E.length D) := hown0
    have hf : Hid (∀ v : List UInt8, v.length ≤ maxLen → Maps.has D (.string v) = (lookE E v).isSome ∧ D.atKey (.string v) (encDM tmZero) = encDM ((lookE E v).getD tmZero)) := hf0
    have hkey := keyOf_v v hv
    clear hown0 hf0
    go_enter Tryz.func147, Tryz.ntmps147
    go_wp2_with (first
      | (at_lookup; refine wpList_look_bound _ rfl _ _ rfl bm E rfl ((Hb.out.below (balloc _ _)).below (balloc _ _)) v hv rfl tmZero false (by rw [Hl.out]; rfl) (by rw [Hl.out]; rfl) ?_)
      | (at_mapUpdate; refine wpList_mapUpdate_own _ rfl _ _ _ 79 rfl 9 28 keyedStr Tryz.underlying79 (termElemM) bm E.length _ rfl (((hown.out.alloc _).alloc _).alloc _) (by unfold maxLen; omega) _ _ _ rfl rfl hkey _ [] helem ?_; intro w1 hown1 hgrow1
         obtain ⟨c0, _⟩ := grown_far hgrow1 (b := w.heap.size) (by simp; omega) (by omega) 0
         obtain ⟨c1, _⟩ := grown_far hgrow1 (b := w.heap.size) (by simp; omega) (by omega) 1
         obtain ⟨c2, _⟩ := grown_far hgrow1 (b := w.heap.size) (by simp; omega) (by omega) 2
         obtain ⟨d0, f0⟩ := grown_far hgrow1 (b := w.heap.size + 1) (by simp) (by omega) 0
         obtain ⟨d1, f1⟩ := grown_far hgrow1 (b := w.heap.size + 1) (by simp) (by omega) 1
         obtain ⟨d2, f2⟩ := grown_far hgrow1 (b := w.heap.size + 1) (by simp) (by omega) 2
         have Hg : Hid (World.grownBy _ w1 (some bm)) := hgrow1
         have Ho : Hid (w1.ownsMap _ _ _ _ _ _) := hown1
         clear hgrow1 hown1))
    have hB0 : RowKit.Below w.heap.size w _ := bstep (bstep (balloc w (.cells #[.int .i64 x.1, .string ⟨x.2.1.toArray⟩, .string ⟨x.2.2.toArray⟩] 28)) (balloc _ (.cells #[.int .i64 0, .string ⟨#[]⟩, .string ⟨#[]⟩] 28))) (balloc _ (.cells #[.int .i64 0, .string ⟨#[]⟩, .string ⟨#[]⟩] 28))
    have hB3 : RowKit.Below w.heap.size w1 _ := (((RowKit.Below.refl w.heap.size w1).setCell (p := ⟨w.heap.size + 1, 0, none⟩) (by show w.heap.size ≤ w.heap.size + 1; omega) (.int .i64 x.1)).setCell (p := ⟨w.heap.size + 1, 1, none⟩) (by show w.heap.size ≤ w.heap.size + 1; omega) (.string ⟨x.2.1.toArray⟩)).setCell (p := ⟨w.heap.size + 1, 2, none⟩) (by show w.heap.size ≤ w.heap.size + 1; omega) (.string ⟨x.2.2.toArray⟩)
    have hfin : BoundAt w1 bm (E ++ [(v, x)]) := ⟨_, by rw [List.length_append]; exact Ho.out, bound_put hv Hl.out hown.out.isMap hf.out⟩
    exact bodyPost_ret (v := .agg #[.int .i64 x.1, .string ⟨x.2.1.toArray⟩, .string ⟨x.2.2.toArray⟩]) (by unfold results; rw [Tryz.results147]; go_simp) rfl ⟨rfl, hfin.far hB3 hlt, grown_mid hB0 Hg.out hB3⟩
end Go.Proofs.YtcdbcoaiadipjaaGreatDoor
