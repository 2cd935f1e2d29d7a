import Derived.Test.YtnppachodopabafGreatMA0x2
import Derived.Test.YtnppachodopabafGreatMA0x0

/- A repo stays one, whatever is done. -/
namespace Go.Proofs.YtnppachodopabafGreat
open Go Go.RowKit Go.Proofs
set_option synthInstance.maxSize 1000

theorem lead_len (l : List Rf) (b : List UInt8) (t : Nat) : (leadR l b t).length = (dropL l b).length + 1 := by
  unfold leadR
  induction l with
  | nil => simp [leadG, dropL]
  | cons x r ih =>
    unfold leadG
    simp only [true_and, Bool.false_or]
    have hd : (dropL (x :: r) b).length = (if x.1 ≠ b then [x] else []).length + (dropL r b).length := by
      unfold dropL
      rw [List.filter_cons]
      by_cases e : x.1 = b
      · simp [e]
      · simp [e]; omega
    by_cases hle : b ≤ x.1
    · rw [if_pos hle, decide_eq_true hle, lead_after, List.length_append, List.length_append, hd]
      simp only [List.length_singleton]
      omega
    · rw [if_neg hle, decide_eq_false hle, List.length_append, List.length_append, ih, hd]
      simp only [List.length_nil]
      omega
theorem drop_len_none {l : List Rf} {b : List UInt8} (h : atR l b < 0) : dropL l b = l :=
  List.filter_eq_self.2 fun x hx => by simpa using atR_neg.1 h x hx
theorem drop_len_some {l : List Rf} {b : List UInt8} (h : 0 ≤ atR l b) : (dropL l b).length < l.length := by
  have hne : ¬ ∀ x ∈ l, x.1 ≠ b := fun hh => by have := atR_neg.2 hh; omega
  refine Classical.byContradiction fun hge => hne fun x hx e => hge ?_
  unfold dropL
  refine Nat.lt_of_le_of_ne (List.length_filter_le _ _) fun heq => ?_
  have := (List.length_filter_eq_length_iff.1 heq) x hx
  simp at this
  exact this e
theorem lead_le (l : List Rf) (b : List UInt8) (t : Nat) : (leadR l b t).length ≤ l.length + 1 := by
  rw [lead_len]
  have := List.length_filter_le (fun x : Rf => decide (x.1 ≠ b)) l
  unfold dropL
  omega
theorem lead_few {l : List Rf} {b : List UInt8} {t : Nat} (h : l.length ≤ 8) (hr : 0 ≤ atR l b ∨ l.length < 8) : (leadR l b t).length ≤ 8 := by
  by_cases h0 : 0 ≤ atR l b
  · have := drop_len_some h0
    rw [lead_len]
    omega
  · have := lead_le l b t
    omega

theorem goodC_snoc {l : List Cm} {c : Cm} (h : GoodC l) (hl : l.length < 60) (hc : comN c l.length = 0) : GoodC (l ++ [c]) := by
  refine ⟨by rw [List.length_append]; simp; omega, fun j hj => ?_⟩
  rw [List.length_append] at hj
  simp at hj
  by_cases hjl : j < l.length
  · rw [List.getElem_append_left hjl]
    exact h.2 j hjl
  · have e : j = l.length := by omega
    subst e
    rw [List.getElem_append_right (Nat.le_refl _)]
    simpa using hc
/-- parents that may be -/
def okPar (k : Nat) (ps : List Int) : Prop := ps.length ≤ 2 ∧ (∀ p ∈ ps, 0 ≤ p ∧ p < k) ∧ twinB ps = false
theorem com_ok {k : Nat} {ps : List Int} {y : Int} {m : List UInt8} (hp : okPar k ps) (hm : msgN m = 0) (h1 : 1 ≤ y) (h2 : y ≤ 300) : comN (ps, y, m) k = 0 := by
  have e : rangeB ps k = true := by unfold rangeB; rw [List.all_eq_true]; intro p hp'; simpa using hp.2.1 p hp'
  unfold comN
  dsimp only
  rw [if_neg (by rw [hm]; have := hp.1; omega), if_neg (by rw [e]; simp), if_neg (by rw [hp.2.2]; simp), if_neg (by rw [hm]; simp), if_neg (by omega)]
theorem putI_range {n : Nat} {L : List Ob} {b : List UInt8} (h : GoodO n L) (he : putE L b = 0) : 1 ≤ putI n L b ∧ putI n L b ≤ n + 1 := by
  unfold putI
  unfold putE at he
  by_cases hf : findO L b ≠ 0
  · rw [if_pos hf]
    obtain ⟨x, hx, e⟩ := (findO_mem fun y hy => (h.low y hy).1).1 hf
    have := findO_in h.once hx
    rw [e] at this
    have := h.low x hx
    omega
  · rw [if_neg hf] at he ⊢
    by_cases h2 : fullO L b = true
    · rw [if_pos h2] at he; simp at he
    · rw [if_neg h2]; omega
theorem putM_le (n : Nat) (L : List Ob) (b : List UInt8) : putM n L b ≤ n + 1 := by
  unfold putM
  split
  · omega
  · split <;> omega

theorem findC_at {cl : List Cm} {gl : List (List Tr)} {ps : List Int} {s : List Tr} {m : List UInt8} {i : Nat} (h : findC cl gl ps s m = some i) : ∃ (h1 : i < cl.length) (h2 : i < gl.length), cl[i].2.2 = m ∧ cl[i].1 = ps ∧ gl[i] = s := by
  induction cl generalizing gl i with
  | nil => simp [findC] at h
  | cons c r ih =>
    cases gl with
    | nil => simp [findC] at h
    | cons g q =>
      unfold findC at h
      split at h
      · rename_i hc
        obtain rfl := Option.some.inj h
        exact ⟨by simp, by simp, hc.1, hc.2.1, hc.2.2⟩
      · obtain ⟨k, hk, e⟩ := Option.map_eq_some_iff.1 h
        subst e
        obtain ⟨h1, h2, h3⟩ := ih hk
        exact ⟨by simpa using h1, by simpa using h2, h3⟩
theorem add_in {R : Rp} {ps : List Int} {s : List Tr} {m : List UInt8} (he : addE R ps s m = 0) : addI R ps s m < (addR R ps s m).coms.length := by
  unfold addI addR
  unfold addE at he
  cases hf : findC R.coms R.gr ps s m with
  | some i => exact (findC_at hf).1
  | none =>
    rw [hf] at he
    dsimp only at he ⊢
    by_cases h60 : 60 ≤ R.coms.length
    · rw [if_pos h60] at he; simp at he
    · rw [if_neg h60] at he ⊢
      rw [if_neg h60, if_neg (by simpa using he), if_neg (by simpa using he)]
      simp
theorem add_refs (R : Rp) (ps : List Int) (s : List Tr) (m : List UInt8) : (addR R ps s m).refs = R.refs := by
  unfold addR
  split
  · rfl
  · split
    · rfl
    · split <;> rfl
theorem add_more (R : Rp) (ps : List Int) (s : List Tr) (m : List UInt8) : R.coms <+: (addR R ps s m).coms ∧ R.gr <+: (addR R ps s m).gr := by
  unfold addR
  split
  · exact ⟨List.prefix_refl _, List.prefix_refl _⟩
  · split
    · exact ⟨List.prefix_refl _, List.prefix_refl _⟩
    · split
      · exact ⟨List.prefix_refl _, List.prefix_refl _⟩
      · exact ⟨List.prefix_append _ _, List.prefix_append _ _⟩
theorem GoodR.add {R : Rp} (h : GoodR R) {ps : List Int} {s : List Tr} {m : List UInt8} (hp : okPar R.coms.length ps) (hs : IsSet s) (hm : msgN m = 0) : GoodR (addR R ps s m) := by
  unfold addR
  split
  · exact h
  · split
    · exact h
    · rename_i h60
      split
      · exact h
      · rename_i hpe
        have hpe : putE R.L (bytesR R ps s) = 0 := by simpa using hpe
        have hI := putI_range h.store hpe
        have hM := putM_le R.n R.L (bytesR R ps s)
        have hl := h.last
        refine ⟨h.store.put _, by simp; omega, goodC_snoc h.coms (by omega) (com_ok hp hm (by omega) (by omega)), by simp [h.len], ?_, h.refs, fun x hx => ?_, h.few⟩
        · intro g hg
          rcases List.mem_append.1 hg with hg | hg
          · exact h.sets g hg
          · simp at hg; subst hg; exact hs
        · have := h.names x hx
          simp
          exact ⟨this.1, by omega⟩
theorem GoodR.lead {R : Rp} (h : GoodR R) {b : List UInt8} {t : Nat} (hb : nameR b = true) (ht : t < R.coms.length) (hr : 0 ≤ atR R.refs b ∨ R.refs.length < 8) : GoodR (leadTo R b t) := by
  refine ⟨h.store, h.last, h.coms, h.len, h.sets, h.refs.lead b t, fun x hx => ?_, lead_few h.few hr⟩
  rcases mem_lead.1 hx with rfl | ⟨hx, _⟩
  · exact ⟨hb, ht⟩
  · exact h.names x hx
theorem atR_lt {R : Rp} (h : GoodR R) (b : List UInt8) : atR R.refs b < R.coms.length := by
  by_cases h0 : 0 ≤ atR R.refs b
  · obtain ⟨t, ht⟩ : ∃ t : Nat, atR R.refs b = (t : Int) := ⟨(atR R.refs b).toNat, by omega⟩
    have := (h.names _ ((atR_mem h.refs).1 ht)).2
    dsimp only at this
    omega
  · omega
theorem par_ok {R : Rp} (h : GoodR R) (b : List UInt8) : okPar R.coms.length (parR R b) := by
  unfold parR
  have := atR_lt h b
  split
  · rename_i h0
    exact ⟨by simp, fun p hp => by simp at hp; omega, rfl⟩
  · exact ⟨by simp, by simp, rfl⟩
theorem goodR_empty : GoodR emptyR := ⟨goodO_nil 0, Nat.le_refl _, ⟨by decide, fun j hj => absurd hj (by simp [emptyR])⟩, rfl, by simp [emptyR], by simp [emptyR, ByName], by simp [emptyR], by decide⟩
theorem setF_zero {s : List Tr} {m : List UInt8} (h : setF s m = 0) : sortedN s = 0 ∧ msgN m = 0 := by
  unfold setF at h
  split at h
  · rename_i h1; exact absurd h h1
  · rename_i h1; exact ⟨by simpa using h1, h⟩
theorem GoodR.commit {R : Rp} (h : GoodR R) (b : List UInt8) (s : List Tr) (m : List UInt8) : GoodR (commitR R b s m) := by
  unfold commitR
  split
  · exact h
  · rename_i hE
    have hE : commitE R b s m = 0 := by simpa using hE
    have hE' := hE
    unfold commitE at hE
    split at hE
    · rename_i h1; exact absurd hE h1
    · rename_i h1
      have h1 : commitF R b s m = 0 := by simpa using h1
      unfold commitF at h1
      split at h1
      · simp at h1
      · rename_i hn
        split at h1
        · rename_i h2; exact absurd h1 h2
        · rename_i h2
          have h2 : setF s m = 0 := by simpa using h2
          split at h1
          · simp at h1
          · rename_i hr
            have hr : 0 ≤ atR R.refs b ∨ R.refs.length < 8 := by
              have hr : roomR R b = true := by simpa using hr
              unfold roomR at hr
              exact of_decide_eq_true hr
            obtain ⟨q1, q2⟩ := setF_zero h2
            refine (h.add (par_ok h b) (sortedN_set.1 q1) q2).lead (by simpa using hn) (add_in hE) ?_
            rw [add_refs]
            exact hr
theorem headE_zero {R : Rp} {b : List UInt8} (h : headE R b = 0) : nameR b = true ∧ 0 ≤ atR R.refs b := by
  unfold headE at h
  split at h
  · simp at h
  · rename_i h1
    split at h
    · simp at h
    · rename_i h2; exact ⟨by simpa using h1, by omega⟩
theorem inR_iff {R : Rp} {a : Int} : inR R a = true ↔ 0 ≤ a ∧ a < R.coms.length := by unfold inR; simp
theorem joinF_zero {R : Rp} {b : List UInt8} {o : Int} {s : List Tr} {m : List UInt8} (h : joinF R b o s m = 0) : headE R b = 0 ∧ inR R o = true ∧ o ≠ atR R.refs b ∧ setF s m = 0 := by
  unfold joinF at h
  split at h
  · rename_i h1; exact absurd h h1
  · rename_i h1
    split at h
    · simp at h
    · rename_i h2
      split at h
      · simp at h
      · rename_i h3
        exact ⟨by simpa using h1, by simpa using h2, h3, h⟩
theorem two_ok {R : Rp} (h : GoodR R) {b : List UInt8} {o : Int} (h0 : 0 ≤ atR R.refs b) (ho : inR R o = true) (hne : o ≠ atR R.refs b) : okPar R.coms.length [atR R.refs b, o] := by
  have := atR_lt h b
  have h2 := inR_iff.1 ho
  refine ⟨by simp, fun p hp => ?_, ?_⟩
  · simp at hp
    rcases hp with rfl | rfl
    · omega
    · exact h2
  · simp [twinB]
    exact fun e => hne e.symm
theorem GoodR.join {R : Rp} (h : GoodR R) (b : List UInt8) (o : Int) (s : List Tr) (m : List UInt8) : GoodR (joinR R b o s m) := by
  unfold joinR
  split
  · exact h
  · rename_i hE
    have hE : joinE R b o s m = 0 := by simpa using hE
    unfold joinE at hE
    split at hE
    · rename_i h1; exact absurd hE h1
    · rename_i h1
      obtain ⟨q1, q2, q3, q4⟩ := joinF_zero (by simpa using h1 : joinF R b o s m = 0)
      obtain ⟨p1, p2⟩ := headE_zero q1
      obtain ⟨r1, r2⟩ := setF_zero q4
      refine (h.add (two_ok h p2 q2 q3) (sortedN_set.1 r1) r2).lead p1 (add_in hE) ?_
      rw [add_refs]
      exact Or.inl p2
theorem GoodR.branch {R : Rp} (h : GoodR R) (b : List UInt8) (a : Int) : GoodR (branchR R b a) := by
  unfold branchR
  split
  · exact h
  · rename_i hE
    have hE : branchE R b a = 0 := by simpa using hE
    unfold branchE at hE
    split at hE
    · simp at hE
    · rename_i h1
      split at hE
      · simp at hE
      · rename_i h2
        split at hE
        · simp at hE
        · split at hE
          · rename_i h4
            have := inR_iff.1 (by simpa using h2 : inR R a = true)
            exact h.lead (by simpa using h1) (by omega) (Or.inr h4)
          · simp at hE
theorem GoodR.move {R : Rp} (h : GoodR R) (b : List UInt8) (f t : Int) : GoodR (moveR R b f t) := by
  unfold moveR
  split
  · exact h
  · rename_i hE
    have hE : moveE R b f t = 0 := by simpa using hE
    unfold moveE at hE
    split at hE
    · rename_i h1; exact absurd hE h1
    · rename_i h1
      obtain ⟨p1, p2⟩ := headE_zero (by simpa using h1 : headE R b = 0)
      split at hE
      · simp at hE
      · split at hE
        · simp at hE
        · rename_i h3
          have := inR_iff.1 (by simpa using h3 : inR R t = true)
          exact h.lead p1 (by omega) (Or.inl p2)
theorem GoodR.drop {R : Rp} (h : GoodR R) (b : List UInt8) : GoodR (dropR R b) := by
  unfold dropR
  split
  · exact h
  · exact ⟨h.store, h.last, h.coms, h.len, h.sets, h.refs.drop b, fun x hx => h.names x (List.mem_filter.1 hx).1, Nat.le_trans (List.length_filter_le _ _) h.few⟩
end Go.Proofs.YtnppachodopabafGreat

/- A repo's face: what the laws ask of the program's repo, whatever it is made of. -/
namespace Go.Proofs.YtnppachodopabafGreat
open Go Go.RowKit Go.Proofs
set_option synthInstance.maxSize 1000

/-- branches in a list that a caller holds -/
def SlF (w : World) (ad : Option Addr) (l : List Rf) : Prop := l ≠ [] → ∃ b o, ad = some ⟨b, o, none⟩ ∧ ∀ (i : Nat) (hi : i < l.length), w.cell? ⟨b, o + i * 2, none⟩ = some (.string ⟨l[i].1.toArray⟩) ∧ w.cell? ⟨b, o + i * 2 + 1, none⟩ = some (.int .i64 (l[i].2 : Int))
theorem SlF.below {w w' : World} {ad : Option Addr} {l : List Rf} (h : SlF w ad l) (hb : RowKit.Below w.heap.size w w') : SlF w' ad l := fun hl => by
  obtain ⟨b, o, e, h1⟩ := h hl
  refine ⟨b, o, e, fun i hi => ?_⟩
  obtain ⟨h2, h3⟩ := h1 i hi
  exact ⟨(hb.cell (World.block_lt_of_cell? w _ h2)).trans h2, (hb.cell (World.block_lt_of_cell? w _ h3)).trans h3⟩
theorem SlF.at {w : World} {ad : Option Addr} {l : List Rf} (h : SlF w ad l) {i : Nat} (hi : i < l.length) : ∃ b o, ad = some ⟨b, o, none⟩ ∧ w.cell? ⟨b, o + i * 2, none⟩ = some (.string ⟨l[i].1.toArray⟩) ∧ w.cell? ⟨b, o + i * 2 + 1, none⟩ = some (.int .i64 (l[i].2 : Int)) := by
  obtain ⟨b, o, e, h1⟩ := h (fun e => by rw [e] at hi; simp at hi)
  exact ⟨b, o, e, h1 i hi⟩
def objE (L : List Ob) (id : Int) : Int := if (getO L id).isSome = true then 0 else 5
def objB (L : List Ob) (id : Int) : List UInt8 := (getO L id).getD []
/-- a set that a caller hands in: it lies in none of the blocks O -/
structure SetArg (w : World) (O : Nat → Prop) (ad : Option Addr) (ca : Nat) (s : List Tr) : Prop where
  sl : SlT w ad s
  cap : s.length ≤ ca
  fit : ∀ x ∈ s, fitTr x
  len : s.length ≤ maxLen
  low : s ≠ [] → ∀ d, ad = some d → ¬ O d.block
/-- a set that lies there from the beginning on -/
structure SetIn (w : World) (ad : Option Addr) (ca : Nat) (s : List Tr) : Prop where
  sl : SlT w ad s
  cap : s.length ≤ ca
  fit : ∀ x ∈ s, fitTr x
  len : s.length ≤ maxLen
  low : s ≠ [] → ∀ d, ad = some d → d.block < w.heap.size
/-- the program's repo: where it lies, which blocks it owns (it keeps no list of a caller's), and what its calls answer; texts of up to 'lim' bytes -/
structure RFace where
  lim : Nat
  At : World → Nat → (Nat → Prop) → Rp → Prop
  own : ∀ {w : World} {r : Nat} {O : Nat → Prop} {R : Rp}, At w r O R → ∀ j, O j → j < w.heap.size
  keep : ∀ {w w' : World} {r : Nat} {O : Nat → Prop} {R : Rp}, At w r O R → (∀ j, O j → w'.heap[j]? = w.heap[j]?) → At w' r O R
  new : ∀ (w : World), Calls Tryz.prog 4 #[] w fun e w' => ∃ (r : Nat) (O : Nat → Prop), e = .returned (.pointer (some ⟨r, 0, none⟩)) ∧ At w' r O emptyR ∧ RowKit.Below w.heap.size w w' ∧ ∀ j, O j → w.heap.size ≤ j
  commit : ∀ (w : World) (r : Nat) (O : Nat → Prop) (R : Rp) (b : List UInt8) (ad : Option Addr) (ca : Nat) (s : List Tr) (t : List UInt8), At w r O R → GoodR R → SetArg w O ad ca s → b.length ≤ lim → t.length ≤ lim →
    Calls Tryz.prog 5 #[.pointer (some ⟨r, 0, none⟩), .string ⟨b.toArray⟩, .slice ad s.length ca, .string ⟨t.toArray⟩] w fun e w' => e = .returned (.tuple #[.int .i64 (commitI R b s t : Int), errV (commitE R b s t)]) ∧ ∃ O' : Nat → Prop, At w' r O' (commitR R b s t) ∧ Offs O w w' ∧ ∀ j, O' j → O j ∨ w.heap.size ≤ j
  head : ∀ (w : World) (r : Nat) (O : Nat → Prop) (R : Rp) (b : List UInt8), At w r O R → GoodR R → b.length ≤ lim →
    Calls Tryz.prog 6 #[.pointer (some ⟨r, 0, none⟩), .string ⟨b.toArray⟩] w fun e w' => e = .returned (.tuple #[.int .i64 (headI R b), errV (headE R b)]) ∧ RowKit.Below w.heap.size w w'
  graph : ∀ (w : World) (r : Nat) (O : Nat → Prop) (R : Rp) (a : Int), At w r O R → GoodR R →
    Calls Tryz.prog 8 #[.pointer (some ⟨r, 0, none⟩), .int .i64 a] w fun e w' => ∃ ad ca, e = .returned (.tuple #[.slice ad (graphL R a).length ca, errV (graphE R a)]) ∧ SlT w' ad (graphL R a) ∧ RowKit.Below w.heap.size w w'
  commits : ∀ (w : World) (r : Nat) (O : Nat → Prop) (R : Rp), At w r O R → GoodR R →
    Calls Tryz.prog 7 #[.pointer (some ⟨r, 0, none⟩)] w fun e w' => ∃ ad ca, e = .returned (.slice ad R.coms.length ca) ∧ R.coms.length ≤ ca ∧ SlC w' ad R.coms ∧ (∀ b o, ad = some ⟨b, o, none⟩ → ∀ i, i < R.coms.length → ∀ a n c, w'.cell? ⟨b, o + i * 3, none⟩ = some (.slice a n c) → n ≤ c) ∧ RowKit.Below w.heap.size w w'
  object : ∀ (w : World) (r : Nat) (O : Nat → Prop) (R : Rp) (id : Int), At w r O R → GoodR R →
    Calls Tryz.prog 17 #[.pointer (some ⟨r, 0, none⟩), .int .i64 id] w fun e w' => e = .returned (.tuple #[.string ⟨(objB R.L id).toArray⟩, errV (objE R.L id)]) ∧ RowKit.Below w.heap.size w w'

theorem RFace.below (F : RFace) {w w' : World} {r : Nat} {O : Nat → Prop} {R : Rp} (h : F.At w r O R) (hb : RowKit.Below w.heap.size w w') : F.At w' r O R :=
  F.keep h fun j hj => hb.block j (F.own h j hj)
end Go.Proofs.YtnppachodopabafGreat

/- Bases in plain words: of those that two have, the ones that no other one of them comes of. -/
namespace Go.Proofs.YtnppachodopabafGreat
open Go Go.RowKit Go.Proofs
set_option synthInstance.maxSize 1000

def isBase (l : List Cm) (a b z : Nat) : Prop := Up l a z ∧ Up l b z ∧ ∀ c, Up l a c → Up l b c → c ≠ z → ¬ Up l c z
def dbothN (x y : List Nat) : List Nat := x.filter fun k => decide (k ∈ y)
theorem both_next {x y : List Nat} {k : Nat} (hk : k < x.length) : dbothN (x.take (k + 1)) y = dbothN (x.take k) y ++ if x[k] ∈ y then [x[k]] else [] := by
  unfold dbothN
  rw [List.take_succ_eq_append_getElem hk, List.filter_append, List.filter_cons]
  simp
theorem both_rise {x y : List Nat} (h : RiseN x) : RiseN (dbothN x y) := List.Pairwise.filter _ h
theorem both_len (x y : List Nat) : (dbothN x y).length ≤ x.length := List.length_filter_le _ _
/-- below: another one of the list comes of number q of it -/
def belowP (l : List Cm) (t : List Nat) (q m : Nat) : Prop := ∃ r, r < m ∧ r ≠ q ∧ Up l (t.getD r 0) (t.getD q 0)
theorem below_next {l : List Cm} {t : List Nat} {q m : Nat} : belowP l t q (m + 1) ↔ belowP l t q m ∨ (m ≠ q ∧ Up l (t.getD m 0) (t.getD q 0)) := by
  constructor
  · rintro ⟨r, h1, h2, h3⟩
    rcases (by omega : r < m ∨ r = m) with h | rfl
    · exact Or.inl ⟨r, h, h2, h3⟩
    · exact Or.inr ⟨h2, h3⟩
  · rintro (⟨r, h1, h2, h3⟩ | ⟨h2, h3⟩)
    · exact ⟨r, by omega, h2, h3⟩
    · exact ⟨m, by omega, h2, h3⟩
/-- what is told as far as i -/
def OutsTo (l : List Cm) (t : List Nat) (i : Nat) (m : List Nat) : Prop := RiseN m ∧ m.length ≤ i ∧ ∀ z, z ∈ m ↔ ∃ q, q < i ∧ q < t.length ∧ z = t.getD q 0 ∧ ¬ belowP l t q t.length
theorem OutsTo.nil (l : List Cm) (t : List Nat) : OutsTo l t 0 [] := ⟨List.Pairwise.nil, by simp, fun z => ⟨fun h => by simp at h, fun ⟨q, h, _⟩ => by omega⟩⟩
theorem rise_get {t : List Nat} (h : RiseN t) {p q : Nat} (hpq : p < q) (hq : q < t.length) : t.getD p 0 < t.getD q 0 := by
  rw [List.getD_eq_getElem?_getD, List.getD_eq_getElem?_getD, List.getElem?_eq_getElem hq, List.getElem?_eq_getElem (show p < t.length by omega)]
  exact List.pairwise_iff_getElem.1 h p q (by omega) hq hpq
theorem OutsTo.skip {l : List Cm} {t : List Nat} {i : Nat} {m : List Nat} (h : OutsTo l t i m) (hb : belowP l t i t.length) : OutsTo l t (i + 1) m := by
  refine ⟨h.1, by have := h.2.1; omega, fun z => ?_⟩
  rw [h.2.2 z]
  constructor
  · rintro ⟨q, h1, h2⟩; exact ⟨q, by omega, h2⟩
  · rintro ⟨q, h1, h2, h3, h4⟩
    rcases (by omega : q < i ∨ q = i) with h5 | rfl
    · exact ⟨q, h5, h2, h3, h4⟩
    · exact absurd hb h4
theorem OutsTo.more {l : List Cm} {t : List Nat} {i : Nat} {m : List Nat} (h : OutsTo l t i m) (ht : RiseN t) (hi : i < t.length) (hb : ¬ belowP l t i t.length) : OutsTo l t (i + 1) (m ++ [t.getD i 0]) := by
  refine ⟨List.pairwise_append.2 ⟨h.1, List.pairwise_singleton _ _, fun x hx y hy => ?_⟩, by have := h.2.1; simp; omega, fun z => ?_⟩
  · rw [List.mem_singleton.1 hy]
    obtain ⟨q, h1, _, rfl, _⟩ := (h.2.2 x).1 hx
    exact rise_get ht h1 hi
  · rw [List.mem_append, h.2.2 z, List.mem_singleton]
    constructor
    · rintro (⟨q, h1, h2⟩ | rfl)
      · exact ⟨q, by omega, h2⟩
      · exact ⟨i, by omega, hi, rfl, hb⟩
    · rintro ⟨q, h1, h2, h3, h4⟩
      rcases (by omega : q < i ∨ q = i) with h5 | rfl
      · exact Or.inl ⟨q, h5, h2, h3, h4⟩
      · exact Or.inr h3
theorem outs_base {l : List Cm} {a b : Nat} {x y m : List Nat} (hx : RiseN x) (ux : ∀ k, k ∈ x ↔ Up l a k) (uy : ∀ k, k ∈ y ↔ Up l b k) (h : OutsTo l (dbothN x y) (dbothN x y).length m) : ∀ z, z ∈ m ↔ isBase l a b z := by
  have hm : ∀ z, z ∈ dbothN x y ↔ Up l a z ∧ Up l b z := fun z => by
    unfold dbothN
    rw [List.mem_filter, ux, decide_eq_true_eq, uy]
  have ht := both_rise (y := y) hx
  have hmem : ∀ q, q < (dbothN x y).length → (dbothN x y).getD q 0 ∈ dbothN x y := fun q hq => by
    rw [List.getD_eq_getElem?_getD, List.getElem?_eq_getElem hq]
    exact List.getElem_mem hq
  have hidx : ∀ z ∈ dbothN x y, ∃ q, q < (dbothN x y).length ∧ (dbothN x y).getD q 0 = z := fun z hz => by
    obtain ⟨q, hq, e⟩ := List.getElem_of_mem hz
    exact ⟨q, hq, by rw [List.getD_eq_getElem?_getD, List.getElem?_eq_getElem hq]; exact e⟩
  intro z
  rw [h.2.2 z]
  constructor
  · rintro ⟨q, _, hq, rfl, hb⟩
    obtain ⟨h1, h2⟩ := (hm _).1 (hmem q hq)
    refine ⟨h1, h2, fun c hca hcb hne hu => hb ?_⟩
    obtain ⟨r, hr, rfl⟩ := hidx c ((hm c).2 ⟨hca, hcb⟩)
    exact ⟨r, hr, fun e => hne (by rw [e]), hu⟩
  · rintro ⟨h1, h2, h3⟩
    obtain ⟨q, hq, rfl⟩ := hidx z ((hm z).2 ⟨h1, h2⟩)
    refine ⟨q, hq, hq, rfl, ?_⟩
    rintro ⟨r, hr, hne, hu⟩
    obtain ⟨h4, h5⟩ := (hm _).1 (hmem r hr)
    refine h3 _ h4 h5 (fun e => ?_) hu
    rcases (by omega : r < q ∨ q < r) with h6 | h6
    · have := rise_get ht h6 hq; omega
    · have := rise_get ht h6 hr; omega
end Go.Proofs.YtnppachodopabafGreat

/- A dag's face: what the laws ask of the program's dag, whatever it is made of. -/
namespace Go.Proofs.YtnppachodopabafGreat
open Go Go.RowKit Go.Proofs
set_option synthInstance.maxSize 1000

def natI (m : List Nat) : List Int := m.map fun k : Nat => (k : Int)
theorem natI_len (m : List Nat) : (natI m).length = m.length := by simp [natI]
theorem natI_inj {m q : List Nat} (h : natI m = natI q) : m = q := by
  induction m generalizing q with
  | nil => cases q with
    | nil => rfl
    | cons b r => simp [natI] at h
  | cons a s ih => cases q with
    | nil => simp [natI] at h
    | cons b r =>
      simp only [natI, List.map_cons, List.cons.injEq] at h
      rw [show a = b by omega, ih h.2]
/-- commits in a list that a caller holds -/
structure ComsOK (w : World) (ad : Option Addr) (ca : Nat) (l : List Cm) : Prop where
  sl : SlC w ad l
  cap : l.length ≤ ca
  len : l.length ≤ maxLen
  pars : ∀ c ∈ l, c.1.length ≤ maxLen
  msg : ∀ c ∈ l, c.2.2.length ≤ maxLen
  caps : ∀ b o, ad = some ⟨b, o, none⟩ → ∀ i, i < l.length → ∀ a n c, w.cell? ⟨b, o + i * 3, none⟩ = some (.slice a n c) → n ≤ c
theorem ComsOK.below {w w' : World} {ad : Option Addr} {ca : Nat} {l : List Cm} (h : ComsOK w ad ca l) (hb : RowKit.Below w.heap.size w w') : ComsOK w' ad ca l := by
  refine ⟨h.sl.below hb, h.cap, h.len, h.pars, h.msg, fun b o e i hi a n c hc => h.caps b o e i hi a n c ?_⟩
  obtain ⟨b', o', a', c', e', h2, _⟩ := h.sl.at hi
  rw [e] at e'
  cases e'
  rw [← hb.cell (p := ⟨b, o + i * 3, none⟩) (World.block_lt_of_cell? w _ h2)]
  exact hc

def ancE (l : List Cm) (i : Int) : Int := if (comsN l).2 ≠ 0 then (comsN l).2 else if 0 ≤ i ∧ i < l.length then 0 else 1
def twoE (l : List Cm) (a b : Int) : Int := if ancE l a ≠ 0 then ancE l a else ancE l b
theorem ancE_zero {l : List Cm} {i : Int} (h : ancE l i = 0) : GoodC l ∧ 0 ≤ i ∧ i < l.length := by
  unfold ancE at h
  split at h
  · rename_i h1; exact absurd h h1
  · rename_i h1
    split at h
    · rename_i h2; exact ⟨coms_good.1 (by simpa using h1), h2⟩
    · simp at h
theorem ancE_good {l : List Cm} {i : Int} (h : GoodC l) (h0 : 0 ≤ i) (h1 : i < l.length) : ancE l i = 0 := by
  unfold ancE
  rw [if_neg (by simp; exact coms_good.2 h), if_pos ⟨h0, h1⟩]
theorem twoE_zero {l : List Cm} {a b : Int} : twoE l a b = 0 ↔ ancE l a = 0 ∧ ancE l b = 0 := by
  unfold twoE
  by_cases h : ancE l a = 0
  · simp [h]
  · simp [h]

def upP (l : List Cm) (i : Nat) (m : List Nat) : Prop := RiseN m ∧ ∀ k, k ∈ m ↔ Up l i k
def logP (l : List Cm) (i : Nat) (m : List Nat) : Prop := upP l i m.reverse
def baseP (l : List Cm) (a b : Nat) (m : List Nat) : Prop := RiseN m ∧ ∀ z, z ∈ m ↔ isBase l a b z
/-- a list and an error: with an error there is none -/
def ListAns (w : World) (f : Int) (P : List Nat → Prop) (e : Ending) (w' : World) : Prop :=
  ∃ (ad : Option Addr) (c : Nat) (m : List Nat), e = .returned (.tuple #[.slice ad m.length c, errV f]) ∧ (f = 0 → P m) ∧ (f ≠ 0 → m = []) ∧ SlI w' ad (natI m) ∧ RowKit.Below w.heap.size w w' ∧ m.length ≤ 60 ∧ (m ≠ [] → ∀ d, ad = some d → w.heap.size ≤ d.block) ∧ m.length ≤ c

structure DFace where
  check : ∀ (w : World) (ad : Option Addr) (ca : Nat) (l : List Cm), ComsOK w ad ca l →
    Calls Tryz.prog 10 #[.slice ad l.length ca] w fun e w' => e = .returned (.tuple #[.int .i64 ((comsN l).1 : Int), errV (comsN l).2]) ∧ RowKit.Below w.heap.size w w'
end Go.Proofs.YtnppachodopabafGreat
