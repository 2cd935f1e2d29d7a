import Derived.Test.YtifkcoappflenagGreatDoorMA0x2

/- Pairs as plain data: a row of them in memory. -/
namespace Go.Proofs.YtifkcoappflenagGreatDoor
open Go Go.RowKit Go.Proofs
set_option synthInstance.maxSize 1000

/-- a pair's six cells -/
def encP (x : Pr) : List Value := [.int .i64 x.1.1, .string ⟨x.1.2.1.toArray⟩, .string ⟨x.1.2.2.toArray⟩, .int .i64 x.2.1, .string ⟨x.2.2.1.toArray⟩, .string ⟨x.2.2.2.toArray⟩]
def cellsP (l : List Pr) : List Value := l.flatMap encP
def valP (x : Pr) : Value := .agg #[.int .i64 x.1.1, .string ⟨x.1.2.1.toArray⟩, .string ⟨x.1.2.2.toArray⟩, .int .i64 x.2.1, .string ⟨x.2.2.1.toArray⟩, .string ⟨x.2.2.2.toArray⟩]
theorem encP_len (x : Pr) : (encP x).length = 6 := rfl
theorem encP_one (x : Pr) : ∀ v ∈ encP x, v.oneCell' = true := by
  intro v hv
  simp [encP] at hv
  rcases hv with rfl | rfl | rfl | rfl | rfl | rfl <;> rfl
theorem cellsP_len (l : List Pr) : (cellsP l).length = l.length * 6 := by
  induction l with
  | nil => rfl
  | cons x r ih => simp only [cellsP, List.flatMap_cons, List.length_append, List.length_cons] at *; rw [ih, encP_len]; omega
theorem cellsP_one (l : List Pr) : ∀ v ∈ cellsP l, v.oneCell' = true := by
  intro v hv
  simp only [cellsP, List.mem_flatMap] at hv
  obtain ⟨x, _, hx⟩ := hv
  exact encP_one x v hx
theorem cellsP_at (l : List Pr) (i : Nat) (h : i < l.length) (j : Nat) (hj : j < 6) : (cellsP l)[i * 6 + j]? = (encP l[i])[j]? := by
  induction l generalizing i with
  | nil => simp at h
  | cons x r ih =>
    simp only [cellsP, List.flatMap_cons] at *
    cases i with
    | zero => rw [List.getElem?_append_left (by rw [encP_len]; omega)]; simp
    | succ n =>
      rw [List.getElem?_append_right (by rw [encP_len]; omega), encP_len, show (n + 1) * 6 + j - 6 = n * 6 + j by omega, ih n (by simpa using h)]
      simp
/-- the row of cells at a place is these pairs' -/
def RowP (w : World) (b o : Nat) (l : List Pr) : Prop := ∀ j v, (cellsP l)[j]? = some v → w.cell? ⟨b, o + j, none⟩ = some v
theorem RowP.below {w w' : World} {b o : Nat} {l : List Pr} (h : RowP w b o l) (hb : RowKit.Below w.heap.size w w') : RowP w' b o l := fun j v hv =>
  (hb.cell (World.block_lt_of_cell? w _ (h j v hv))).trans (h j v hv)
theorem RowP.at {w : World} {b o : Nat} {l : List Pr} (h : RowP w b o l) (i : Nat) (hi : i < l.length) :
    w.cell? ⟨b, o + i * 6, none⟩ = some (.int .i64 l[i].1.1) ∧ w.cell? ⟨b, o + i * 6 + 1, none⟩ = some (.string ⟨l[i].1.2.1.toArray⟩) ∧ w.cell? ⟨b, o + i * 6 + 2, none⟩ = some (.string ⟨l[i].1.2.2.toArray⟩)
    ∧ w.cell? ⟨b, o + i * 6 + 3, none⟩ = some (.int .i64 l[i].2.1) ∧ w.cell? ⟨b, o + i * 6 + 4, none⟩ = some (.string ⟨l[i].2.2.1.toArray⟩) ∧ w.cell? ⟨b, o + i * 6 + 5, none⟩ = some (.string ⟨l[i].2.2.2.toArray⟩) := by
  have q : ∀ j v, j < 6 → (encP l[i])[j]? = some v → w.cell? ⟨b, o + i * 6 + j, none⟩ = some v := fun j v hj hv => by
    rw [Nat.add_assoc]; exact h _ v (by rw [cellsP_at l i hi j hj]; exact hv)
  exact ⟨q 0 _ (by omega) rfl, q 1 _ (by omega) rfl, q 2 _ (by omega) rfl, q 3 _ (by omega) rfl, q 4 _ (by omega) rfl, q 5 _ (by omega) rfl⟩
/-- a slice holds a list of pairs: of an empty one nothing is said -/
def SlP (w : World) (ad : Option Addr) (l : List Pr) : Prop := l ≠ [] → ∃ b o, ad = some ⟨b, o, none⟩ ∧ RowP w b o l
theorem SlP.below {w w' : World} {ad : Option Addr} {l : List Pr} (h : SlP w ad l) (hb : RowKit.Below w.heap.size w w') : SlP w' ad l := fun hl => by
  obtain ⟨b, o, e, r⟩ := h hl
  exact ⟨b, o, e, r.below hb⟩
theorem SlP.at {w : World} {ad : Option Addr} {l : List Pr} (h : SlP w ad l) (i : Nat) (hi : i < l.length) : ∃ b o, ad = some ⟨b, o, none⟩ ∧ RowP w b o l :=
  h (fun e => by rw [e] at hi; simp at hi)
theorem slP_nil (W : World) (ad : Option Addr) : SlP W ad [] := fun h => absurd rfl h
theorem own_slP {W : World} {base : Nat} {e : TypeId} {v : Value} {t : List Pr} (h : W.ownsRow base e 6 v t.length (cellsP t)) : ∃ ad cap, v = .slice ad t.length cap ∧ SlP W ad t := by
  have h' := h
  rcases h.2 with ⟨rfl, h0⟩ | ⟨g, cap, cur, rfl, _⟩
  · exact ⟨none, 0, by rw [h0], fun hne => absurd (List.eq_nil_of_length_eq_zero h0) hne⟩
  · refine ⟨some ⟨g, 0, none⟩, cap, rfl, fun _ => ⟨g, 0, rfl, fun j u hj => ?_⟩⟩
    have := h'.cells (g := g) rfl j u hj
    rwa [Addr.add_lit] at this
theorem infoP : (Tryz.prog.info? 55).map (fun i => (i.zero, i.size, i.bytes)) = some (some (.agg (encP ((0, [], []), (0, [], []))).toArray), 6, 80) := by kernel_rfl
theorem ofL_len (m : List Tr) (p : Pr) : (ofL m p).length ≤ m.length := List.length_filter_le _ _
theorem cmpT_pair (x : Tr) (p : Pr) : pairOf x = p ↔ cmpTm x.1 p.1 = 0 ∧ cmpTm x.2.1 p.2 = 0 := by
  rw [cmpTm_zero, cmpTm_zero]
  unfold pairOf
  constructor
  · intro h; rw [← h]; exact ⟨rfl, rfl⟩
  · rintro ⟨h1, h2⟩; rw [h1, h2]
end Go.Proofs.YtifkcoappflenagGreatDoor

/- A merge's face: what the laws ask of the program's merge, whatever it is made of. -/
namespace Go.Proofs.YtifkcoappflenagGreatDoor
open Go Go.RowKit Go.Proofs
set_option synthInstance.maxSize 1000

/-- a list that a caller hands in -/
structure SetIn (w : World) (ad : Option Addr) (l : List Tr) : Prop where
  sl : SlT w ad l
  fit : ∀ x ∈ l, fitTr x
  len : l.length ≤ maxLen
theorem SetIn.below {w w' : World} {ad : Option Addr} {l : List Tr} (h : SetIn w ad l) (hb : RowKit.Below w.heap.size w w') : SetIn w' ad l := ⟨h.sl.below hb, h.fit, h.len⟩
theorem SetIn.max {w : World} {ad : Option Addr} {l : List Tr} (h : SetIn w ad l) : l.length ≤ 9223372036854775807 := by have := h.len; unfold maxLen at this; omega
/-- what is answered of three sets -/
def MergeAns (o a b : List Tr) (w : World) (e : Ending) (w' : World) : Prop := ∃ xd xc yd yc, e = .returned (.tuple #[.slice xd (mergeT o a b).length xc, .slice yd (mergeC o a b).length yc, errV (mergeN o a b)]) ∧ SlT w' xd (mergeT o a b) ∧ SlP w' yd (mergeC o a b) ∧ RowKit.Below w.heap.size w w'
def PreferAns (o a b : List Tr) (first : Bool) (w : World) (e : Ending) (w' : World) : Prop := ∃ xd xc, e = .returned (.tuple #[.slice xd (preferT o a b first).length xc, errV (preferN o a b first)]) ∧ SlT w' xd (preferT o a b first) ∧ RowKit.Below w.heap.size w w'
def PairsAns (a b : List Tr) (w : World) (e : Ending) (w' : World) : Prop := ∃ yd yc, e = .returned (.tuple #[.slice yd (pairsC a b).length yc, errV (bothN a b)]) ∧ SlP w' yd (pairsC a b) ∧ RowKit.Below w.heap.size w w'
structure MFace where
  merge : ∀ (w : World) (od ad bd : Option Addr) (oc ca cb : Nat) (o a b : List Tr), SetIn w od o → SetIn w ad a → SetIn w bd b →
    Calls Tryz.prog 8 #[.slice od o.length oc, .slice ad a.length ca, .slice bd b.length cb] w (MergeAns o a b w)
  prefer : ∀ (w : World) (od ad bd : Option Addr) (oc ca cb : Nat) (o a b : List Tr) (first : Bool), SetIn w od o → SetIn w ad a → SetIn w bd b →
    Calls Tryz.prog 12 #[.slice od o.length oc, .slice ad a.length ca, .slice bd b.length cb, .bool first] w (PreferAns o a b first w)
  pairs : ∀ (w : World) (ad bd : Option Addr) (ca cb : Nat) (a b : List Tr), SetIn w ad a → SetIn w bd b →
    Calls Tryz.prog 14 #[.slice ad a.length ca, .slice bd b.length cb] w (PairsAns a b w)
/-! ### in plain words -/
theorem three_both (o a b : List Tr) : threeN o a b = if bothN o a = 0 then sortedN b else bothN o a := by
  unfold threeN orN bothN
  by_cases h1 : sortedN o = 0
  · rw [if_pos h1, if_pos h1]
  · rw [if_neg h1, if_neg h1, if_neg h1]
theorem three_zero {o a b : List Tr} : threeN o a b = 0 ↔ IsSet o ∧ IsSet a ∧ IsSet b := by
  unfold threeN
  rw [orN_zero, orN_zero, sortedN_set, sortedN_set, sortedN_set]
theorem three_swap (o a b : List Tr) : threeN o a b = 0 ↔ threeN o b a = 0 := by
  rw [three_zero, three_zero]
  constructor
  · rintro ⟨h1, h2, h3⟩; exact ⟨h1, h3, h2⟩
  · rintro ⟨h1, h2, h3⟩; exact ⟨h1, h3, h2⟩
theorem mergeT_len (o a b : List Tr) : (mergeT o a b).length ≤ 200 := by
  unfold mergeT
  split
  · rename_i h
    unfold mergeN at h
    have h2 := (orN_zero.1 h).2
    split at h2
    · split at h2
      · assumption
      · cases h2
    · cases h2
  · simp
theorem preferT_len (o a b : List Tr) (first : Bool) : (preferT o a b first).length ≤ 200 := by
  unfold preferT
  split
  · rename_i h
    unfold preferN at h
    have h2 := (orN_zero.1 h).2
    split at h2
    · assumption
    · cases h2
  · simp
theorem mergeC_len (o a b : List Tr) : (mergeC o a b).length ≤ 1000 := by
  unfold mergeC
  split
  · rename_i h
    obtain ⟨h1, h2, h3⟩ := three_zero.1 h
    have h4 : (clashL o a b).length ≤ (pairs3 o a b).length := List.length_filter_le _ _
    have h5 := pairs3_len o a b
    have := h1.1
    have := h2.1
    have := h3.1
    omega
  · simp
theorem pairsC_len (a b : List Tr) : (pairsC a b).length ≤ 1000 := by
  unfold pairsC
  split
  · rename_i h
    obtain ⟨h1, h2⟩ := bothN_zero.1 h
    have h4 : (diffL a b).length ≤ (pairs2 a b).length := List.length_filter_le _ _
    have h5 : (pairs2 a b).length ≤ a.length + b.length := by
      have h6 := allP_len b (allP [] a)
      have h7 := allP_len a []
      unfold pairs2
      simp at h7
      omega
    have := h1.1
    have := h2.1
    omega
  · simp
theorem merge_bad {o a b : List Tr} (h : threeN o a b ≠ 0) : mergeN o a b = threeN o a b ∧ mergeT o a b = [] ∧ mergeC o a b = [] := by
  have e : mergeN o a b = threeN o a b := orN_neg h
  exact ⟨e, by unfold mergeT; rw [if_neg (by rw [e]; exact h)], by unfold mergeC; rw [if_neg h]⟩
theorem prefer_bad {o a b : List Tr} (first : Bool) (h : threeN o a b ≠ 0) : preferN o a b first = threeN o a b ∧ preferT o a b first = [] := by
  have e : preferN o a b first = threeN o a b := orN_neg h
  exact ⟨e, by unfold preferT; rw [if_neg (by rw [e]; exact h)]⟩
theorem merge_clash {o a b : List Tr} (h : threeN o a b = 0) (hc : clashL o a b ≠ []) : mergeN o a b = 9 ∧ mergeT o a b = [] ∧ mergeC o a b = clashL o a b := by
  have e : mergeN o a b = 9 := by unfold mergeN; rw [orN_pos h, if_neg hc]
  exact ⟨e, by unfold mergeT; rw [if_neg (by rw [e]; decide)], by unfold mergeC; rw [if_pos h]⟩
theorem merge_full {o a b : List Tr} (h : threeN o a b = 0) (hc : clashL o a b = []) (hl : 200 < (outL o a b true).length) : mergeN o a b = 4 ∧ mergeT o a b = [] ∧ mergeC o a b = [] := by
  have e : mergeN o a b = 4 := by unfold mergeN; rw [orN_pos h, if_pos hc, if_neg (by omega)]
  exact ⟨e, by unfold mergeT; rw [if_neg (by rw [e]; decide)], by unfold mergeC; rw [if_pos h, hc]⟩
theorem merge_good {o a b : List Tr} (h : threeN o a b = 0) (hc : clashL o a b = []) (hl : (outL o a b true).length ≤ 200) : mergeN o a b = 0 ∧ mergeT o a b = outL o a b true ∧ mergeC o a b = [] := by
  have e : mergeN o a b = 0 := by unfold mergeN; rw [orN_pos h, if_pos hc, if_pos hl]
  exact ⟨e, by unfold mergeT; rw [if_pos e], by unfold mergeC; rw [if_pos h, hc]⟩
theorem prefer_full {o a b : List Tr} {first : Bool} (h : threeN o a b = 0) (hl : 200 < (outL o a b first).length) : preferN o a b first = 4 ∧ preferT o a b first = [] := by
  have e : preferN o a b first = 4 := by unfold preferN; rw [orN_pos h, if_neg (by omega)]
  exact ⟨e, by unfold preferT; rw [if_neg (by rw [e]; decide)]⟩
theorem prefer_good {o a b : List Tr} {first : Bool} (h : threeN o a b = 0) (hl : (outL o a b first).length ≤ 200) : preferN o a b first = 0 ∧ preferT o a b first = outL o a b first := by
  have e : preferN o a b first = 0 := by unfold preferN; rw [orN_pos h, if_pos hl]
  exact ⟨e, by unfold preferT; rw [if_pos e]⟩
end Go.Proofs.YtifkcoappflenagGreatDoor
