/- A chain of layers, in plain words (the sets behind so many layers; a layer is what parts two of them), and a row of layers in memory. -/
import Derived.Test.YtgdjeohcimkljadGreatDoorLayerGood
import Derived.Laws.IdiomCopy
import Derived.ArgAppend
namespace Go.Proofs.YtgdjeohcimkljadGreatDoor
open Go Go.RowKit Go.Proofs
set_option synthInstance.maxSize 1000

/-! ### in plain words -/
abbrev Ly := List Tr × List Tr
def btw (g h : List Tr) : Ly := (lessL h g, lessL g h)
/-- the layers between sets that follow each other -/
def stepsL : List (List Tr) → List Ly
  | g :: h :: r => btw g h :: stepsL (h :: r)
  | _ => []
theorem stepsL_at : ∀ (gs : List (List Tr)) (i : Nat), (stepsL gs)[i]? = (match gs[i]?, gs[i + 1]? with | some g, some h => some (btw g h) | _, _ => none)
  | [], i => by simp [stepsL]
  | [g], i => by cases i <;> simp [stepsL]
  | g :: h :: r, 0 => by simp [stepsL]
  | g :: h :: r, i + 1 => by
    rw [stepsL, List.getElem?_cons_succ, stepsL_at (h :: r) i]
    simp
theorem stepsL_len : ∀ (gs : List (List Tr)), (stepsL gs).length = gs.length - 1
  | [] => rfl
  | [g] => rfl
  | g :: h :: r => by
    have := stepsL_len (h :: r)
    simp only [stepsL, List.length_cons] at this ⊢
    omega
theorem stepsL_get {gs : List (List Tr)} {i : Nat} {g h : List Tr} (h1 : gs[i]? = some g) (h2 : gs[i + 1]? = some h) : (stepsL gs)[i]? = some (btw g h) := by
  rw [stepsL_at, h1, h2]
theorem stepsL_snoc (gs : List (List Tr)) (g u : List Tr) (h : gs.getLast? = some g) : stepsL (gs ++ [u]) = stepsL gs ++ [btw g u] := by
  induction gs with
  | nil => simp at h
  | cons a r ih =>
    cases r with
    | nil => simp at h; subst h; simp [stepsL]
    | cons b r => rw [List.cons_append, List.cons_append, stepsL, ← List.cons_append, ih (by simpa using h), stepsL]; simp
theorem stepsL_init (gs : List (List Tr)) : stepsL gs.dropLast = (stepsL gs).dropLast := by
  induction gs with
  | nil => rfl
  | cons a r ih =>
    cases r with
    | nil => rfl
    | cons b r =>
      cases r with
      | nil => rfl
      | cons c r =>
        rw [List.dropLast_cons_cons, List.dropLast_cons_cons] at *
        rw [stepsL, ih]
        simp [stepsL]
theorem stepsL_squash (gs : List (List Tr)) (f t : Nat) (g h : List Tr) (h1 : 1 ≤ f) (h2 : f ≤ t) (hg : gs[f - 1]? = some g) (hh : gs[t]? = some h) :
    stepsL (gs.take f ++ gs.drop t) = (stepsL gs).take (f - 1) ++ btw g h :: (stepsL gs).drop t := by
  have hl : t < gs.length := (List.getElem?_eq_some_iff.1 hh).1
  apply List.ext_getElem?
  intro i
  have e : ∀ i, (gs.take f ++ gs.drop t)[i]? = if i < f then gs[i]? else gs[i - f + t]? := by
    intro i
    rw [List.getElem?_append, List.length_take, List.getElem?_take, List.getElem?_drop, Nat.min_eq_left (by omega)]
    split
    · rfl
    · congr 1; omega
  rw [stepsL_at, e, e, List.getElem?_append, List.length_take, stepsL_len, Nat.min_eq_left (by omega)]
  by_cases c1 : i < f - 1
  · rw [if_pos (by omega), if_pos (by omega), if_pos c1, List.getElem?_take_of_lt c1, stepsL_at]
  · rw [if_neg c1]
    by_cases c2 : i = f - 1
    · subst c2
      rw [if_pos (by omega), if_neg (by omega), show f - 1 + 1 - f + t = t by omega, hg, hh]
      simp
    · rw [if_neg (by omega), if_neg (by omega)]
      obtain ⟨d, rfl⟩ : ∃ d, i = f + d := ⟨i - f, by omega⟩
      rw [show f + d - (f - 1) = d + 1 by omega, List.getElem?_cons_succ, List.getElem?_drop, stepsL_at, show f + d - f + t = t + d by omega, show f + d + 1 - f + t = t + d + 1 by omega]

/-- where a layer can be laid on a set it is what parts it from what comes out -/
theorem apply_is {t a k u : List Tr} (h : applyN t a k = 0) (hj : JoinOf (lessL t k) a u) : IsSet u ∧ (a, k) = btw t u := by
  unfold applyN at h
  obtain ⟨h1, h⟩ := orN_zero.1 h
  obtain ⟨h2, h⟩ := orN_zero.1 h
  obtain ⟨h3, h⟩ := orN_zero.1 h
  obtain ⟨h4, h5⟩ := orN_zero.1 h
  have st : IsSet t := sortedN_set.1 h1
  obtain ⟨sa, sk⟩ := bothN_zero.1 (orN_zero.1 h2).1
  have d2 : ∀ x, x ∈ a → x ∉ k := by
    have := (orN_zero.1 h2).2
    intro x hx hk
    split at this
    · rename_i e
      have := List.eq_nil_of_length_eq_zero e
      have hm : x ∈ bothL a k := mem_bothL.2 ⟨hx, hk⟩
      rw [this] at hm
      simp at hm
    · simp at this
  have d3 : ∀ x, x ∈ t → x ∉ a := by
    have := (orN_zero.1 h3).2
    intro x hx hk
    split at this
    · rename_i e
      have := List.eq_nil_of_length_eq_zero e
      have hm : x ∈ bothL t a := mem_bothL.2 ⟨hx, hk⟩
      rw [this] at hm
      simp at hm
    · simp at this
  have d4 : ∀ x, x ∈ k → x ∈ t := by
    have := (orN_zero.1 h4).2
    intro x hx
    split at this
    · rename_i e
      have := List.eq_nil_of_length_eq_zero e
      by_cases hk : x ∈ t
      · exact hk
      · have hm : x ∈ lessL k t := mem_lessL.2 ⟨hx, hk⟩
        rw [this] at hm
        simp at hm
    · simp at this
  have h6 := (orN_zero.1 h5).2
  have su : IsSet u := by
    refine hj.isSet (lessSet st) sa ?_
    unfold joinN at h6
    rw [if_pos (bothN_zero.2 ⟨lessSet st, sa⟩)] at h6
    split at h6
    · assumption
    · simp at h6
  refine ⟨su, ?_⟩
  unfold btw
  congr 1
  · refine rising_unique _ _ sa.2.2 (lessSet su).2.2 fun x => ?_
    rw [mem_lessL, hj.2 x, mem_lessL]
    exact ⟨fun hx => ⟨Or.inr hx, fun ht => d3 x ht hx⟩, fun hx => by rcases hx.1 with h | h; exact absurd h.1 hx.2; exact h⟩
  · refine rising_unique _ _ sk.2.2 (lessSet st).2.2 fun x => ?_
    rw [mem_lessL, hj.2 x, mem_lessL]
    exact ⟨fun hx => ⟨d4 x hx, fun hu => by rcases hu with h | h; exact h.2 hx; exact d2 x h hx⟩, fun hx => by
      by_cases hk : x ∈ k
      · exact hk
      · exact absurd (Or.inl ⟨hx.1, hk⟩) hx.2⟩

/-! ### a row of layers in memory -/
abbrev Vp := Value × Value
def slB : Value → Bool | .slice _ _ _ => true | _ => false
def cellsL (xs : List Vp) : List Value := xs.flatMap fun x => [x.1, x.2]
theorem cellsL_len (xs : List Vp) : (cellsL xs).length = xs.length * 2 := by
  induction xs with
  | nil => rfl
  | cons x r ih => simp only [cellsL, List.flatMap_cons, List.length_append, List.length_cons, List.length_nil] at ih ⊢; omega
theorem cellsL_app (xs ys : List Vp) : cellsL (xs ++ ys) = cellsL xs ++ cellsL ys := by simp [cellsL]
theorem cellsL_at : ∀ (xs : List Vp) (q : Nat), (cellsL xs)[q]? = (xs[q / 2]?).map fun x => if q % 2 = 0 then x.1 else x.2
  | [], q => by simp [cellsL]
  | x :: r, 0 => by simp [cellsL]
  | x :: r, 1 => by simp [cellsL]
  | x :: r, q + 2 => by
    have := cellsL_at r q
    simp only [cellsL, List.flatMap_cons] at this ⊢
    rw [show (q + 2) / 2 = q / 2 + 1 by omega, show (q + 2) % 2 = q % 2 by omega]
    simpa using this

/-- a row of layers at block g: room for cap of them, all its cells are lists -/
structure Sheet (w : World) (g cap : Nat) (xs : List Vp) : Prop where
  le : xs.length ≤ cap
  max : cap ≤ maxLen
  free : ∀ j, j < cap * 2 → w.frozen? ⟨g, j, none⟩ = false
  sl : ∀ j, j < cap * 2 → ∃ a n c, w.cell? ⟨g, j, none⟩ = some (.slice a n c)
  at_ : ∀ j u, (cellsL xs)[j]? = some u → w.cell? ⟨g, j, none⟩ = some u
def SheetV (w : World) (base : Nat) (v : Value) (xs : List Vp) : Prop := (v = .slice none 0 0 ∧ xs = []) ∨ ∃ g cap, v = .slice (some ⟨g, 0, none⟩) xs.length cap ∧ base ≤ g ∧ g < w.heap.size ∧ Sheet w g cap xs

theorem Sheet.keep {w w' : World} {g cap : Nat} {xs : List Vp} (h : Sheet w g cap xs) (hb : w'.heap[g]? = w.heap[g]?) : Sheet w' g cap xs :=
  ⟨h.le, h.max, fun j hj => (World.frozen?_of_block (w := w) hb).trans (h.free j hj), fun j hj => by obtain ⟨a, n, c, e⟩ := h.sl j hj; exact ⟨a, n, c, (World.cell?_of_block (w := w) hb).trans e⟩, fun j u hu => (World.cell?_of_block (w := w) hb).trans (h.at_ j u hu)⟩
theorem SheetV.keep {w w' : World} {base : Nat} {v : Value} {xs : List Vp} (h : SheetV w base v xs) (hz : w.heap.size ≤ w'.heap.size) (hb : ∀ g, v.ownBlock = some g → w'.heap[g]? = w.heap[g]?) : SheetV w' base v xs := by
  rcases h with h | ⟨g, cap, rfl, hg, hlt, h⟩
  · exact Or.inl h
  · exact Or.inr ⟨g, cap, rfl, hg, by omega, h.keep (hb g rfl)⟩
theorem SheetV.lt {w : World} {base : Nat} {v : Value} {xs : List Vp} (h : SheetV w base v xs) : ∀ g, v.ownBlock = some g → base ≤ g ∧ g < w.heap.size := fun g hg => by
  rcases h with ⟨rfl, _⟩ | ⟨g', cap, rfl, hg', hlt, h⟩
  · simp [Value.ownBlock] at hg
  · simp [Value.ownBlock] at hg
    subst hg
    exact ⟨hg', hlt⟩
theorem SheetV.below {w w' : World} {base : Nat} {v : Value} {xs : List Vp} (h : SheetV w base v xs) (hb : RowKit.Below w.heap.size w w') : SheetV w' base v xs :=
  h.keep hb.size fun g hg => hb.block g (h.lt g hg).2

/-- rows of triples outlast a store where lists lay -/
theorem SlT.puts {W : World} {ad : Option Addr} {l : List Tr} (h : SlT W ad l) (g p : Nat) (vs : List Value) (hs : ∀ j, j < vs.length → ∃ a n c, W.cell? ⟨g, p + j, none⟩ = some (.slice a n c)) : SlT (W.setCells g p vs) ad l := fun hl => by
  obtain ⟨b, o, rfl, hr⟩ := h hl
  refine ⟨b, o, rfl, fun j u hu => ?_⟩
  have hc := hr j u hu
  rw [World.cell?_setCells_out g vs p W ⟨b, o + j, none⟩ (fun e1 _ => ?_)]
  · exact hc
  · dsimp only at e1 ⊢
    subst e1
    by_cases hq : o + j < p ∨ p + vs.length ≤ o + j
    · exact hq
    · exfalso
      obtain ⟨a, n, c, e⟩ := hs (o + j - p) (by omega)
      rw [show p + (o + j - p) = o + j by omega, hc] at e
      obtain rfl := Option.some.inj e
      have hm := List.mem_of_getElem? hu
      unfold cellsT at hm
      obtain ⟨x, _, hx⟩ := List.mem_flatMap.1 hm
      simp [encTr] at hx

theorem Sheet.write {w : World} {g cap : Nat} {xs : List Vp} (h : Sheet w g cap xs) (p : Nat) (vs : List Value) (hv : ∀ u ∈ vs, slB u = true) (hfit : p + vs.length ≤ cap * 2) (ys : List Vp) (hy : ys.length ≤ cap)
    (hat : ∀ j u, (cellsL ys)[j]? = some u → if p ≤ j ∧ j < p + vs.length then vs[j - p]? = some u else (cellsL xs)[j]? = some u) : Sheet (w.setCells g p vs) g cap ys := by
  have hin := World.cell?_setCells_in g vs p w (fun j hj => by obtain ⟨a, n, c, e⟩ := h.sl (p + j) (by omega); rw [e]; rfl)
  have hout := World.cell?_setCells_out g vs p w
  refine ⟨hy, h.max, fun j hj => by rw [World.frozen?_setCells]; exact h.free j hj, fun j hj => ?_, fun j u hu => ?_⟩
  · by_cases hq : p ≤ j ∧ j < p + vs.length
    · have e := hin (j - p) (by omega)
      rw [show p + (j - p) = j by omega] at e
      have hb := hv vs[j - p] (List.getElem_mem _)
      rw [e]
      generalize vs[j - p]'(by omega) = u at *
      cases u <;> first | exact ⟨_, _, _, rfl⟩ | (simp [slB] at hb)
    · rw [hout ⟨g, j, none⟩ (fun _ _ => by dsimp only; omega)]
      exact h.sl j hj
  · have hu' := hat j u hu
    by_cases hq : p ≤ j ∧ j < p + vs.length
    · rw [if_pos hq] at hu'
      have e := hin (j - p) (by omega)
      rw [show p + (j - p) = j by omega] at e
      rw [e]
      exact (List.getElem?_eq_getElem (by omega)).symm.trans hu'
    · rw [if_neg hq] at hu'
      rw [hout ⟨g, j, none⟩ (fun _ _ => by dsimp only; omega)]
      exact h.at_ j u hu'
theorem Sheet.puts {w : World} {g cap : Nat} {xs : List Vp} (h : Sheet w g cap xs) (p : Nat) (vs : List Value) (hfit : p + vs.length ≤ cap * 2) {ad : Option Addr} {l : List Tr} (hl : SlT w ad l) : SlT (w.setCells g p vs) ad l :=
  hl.puts g p vs fun j hj => h.sl (p + j) (by omega)

/-- a layer's lists -/
def LayV (w : World) (x : Vp) (l : Ly) : Prop := ∃ a1 c1 a2 c2, x = (.slice a1 l.1.length c1, .slice a2 l.2.length c2) ∧ SlT w a1 l.1 ∧ SlT w a2 l.2
def RowsOn (w w' : World) : Prop := ∀ ad l, SlT w ad l → SlT w' ad l
theorem RowsOn.of_below {w w' : World} (h : RowKit.Below w.heap.size w w') : RowsOn w w' := fun _ _ k => k.below h
theorem RowsOn.trans {a b c : World} (h : RowsOn a b) (k : RowsOn b c) : RowsOn a c := fun _ _ x => k _ _ (h _ _ x)
theorem LayV.rows {w w' : World} {x : Vp} {l : Ly} (h : LayV w x l) (hr : RowsOn w w') : LayV w' x l := by
  obtain ⟨a1, c1, a2, c2, rfl, h1, h2⟩ := h
  exact ⟨a1, c1, a2, c2, rfl, hr _ _ h1, hr _ _ h2⟩
/-- layers, each by its lists -/
def LaysV (w : World) (xs : List Vp) (ls : List Ly) : Prop := xs.length = ls.length ∧ ∀ (i : Nat) (x : Vp) (l : Ly), xs[i]? = some x → ls[i]? = some l → LayV w x l
theorem LaysV.rows {w w' : World} {xs : List Vp} {ls : List Ly} (h : LaysV w xs ls) (hr : RowsOn w w') : LaysV w' xs ls := ⟨h.1, fun i x l h1 h2 => (h.2 i x l h1 h2).rows hr⟩
theorem LaysV.nil (w : World) : LaysV w [] [] := ⟨rfl, fun i x l h => by simp at h⟩
theorem LaysV.snoc {w : World} {xs : List Vp} {ls : List Ly} {x : Vp} {l : Ly} (h : LaysV w xs ls) (hx : LayV w x l) : LaysV w (xs ++ [x]) (ls ++ [l]) := by
  refine ⟨by simp [h.1], fun i y m h1 h2 => ?_⟩
  by_cases hi : i < xs.length
  · rw [List.getElem?_append_left hi] at h1
    rw [List.getElem?_append_left (by rw [← h.1]; exact hi)] at h2
    exact h.2 i y m h1 h2
  · rw [List.getElem?_append_right (by omega)] at h1
    rw [List.getElem?_append_right (by rw [← h.1]; omega)] at h2
    have e : i - xs.length = 0 := by
      have := (List.getElem?_eq_some_iff.1 h1).1
      simp at this
      omega
    rw [← h.1] at h2
    rw [e] at h1 h2
    simp at h1 h2
    subst h1 h2
    exact hx
theorem LaysV.cut {w : World} {xs : List Vp} {ls : List Ly} {x : Vp} {l : Ly} (h : LaysV w xs ls) (hx : LayV w x l) (i j : Nat) (hij : i ≤ j) (hj : j ≤ xs.length) : LaysV w (xs.take i ++ x :: xs.drop j) (ls.take i ++ l :: ls.drop j) := by
  have hl := h.1
  refine ⟨by simp only [List.length_append, List.length_take, List.length_cons, List.length_drop]; omega, fun k y m h1 h2 => ?_⟩
  rw [List.getElem?_append, List.length_take, Nat.min_eq_left (by omega)] at h1 h2
  by_cases c1 : k < i
  · rw [if_pos c1, List.getElem?_take_of_lt c1] at h1 h2
    exact h.2 k y m h1 h2
  · rw [if_neg c1] at h1 h2
    cases hd : k - i with
    | zero => rw [hd] at h1 h2; simp at h1 h2; subst h1 h2; exact hx
    | succ d =>
      rw [hd, List.getElem?_cons_succ, List.getElem?_drop] at h1 h2
      exact h.2 _ y m h1 h2
theorem LaysV.init {w : World} {xs : List Vp} {ls : List Ly} (h : LaysV w xs ls) : LaysV w xs.dropLast ls.dropLast := by
  have hl := h.1
  refine ⟨by simp [hl], fun k y m h1 h2 => ?_⟩
  have k1 := (List.getElem?_eq_some_iff.1 h1).1
  simp at k1
  rw [List.getElem?_dropLast, if_pos (by omega)] at h1 h2
  exact h.2 k y m h1 h2

/-- the world behind a change of the rows at n0 and of v alone -/
structure Off (n0 : Nat) (v : Value) (w w' : World) : Prop where
  os : w'.os = w.os
  tape : w'.tape = w.tape
  output : w'.output = w.output
  size : w.heap.size ≤ w'.heap.size
  block : ∀ k, k < w.heap.size → k ≠ n0 → v.ownBlock ≠ some k → w'.heap[k]? = w.heap[k]?
  rows : RowsOn w w'
theorem Off.of_below {n0 : Nat} {v : Value} {w w' : World} (h : RowKit.Below w.heap.size w w') : Off n0 v w w' := ⟨h.os, h.tape, h.output, h.size, fun k hk _ _ => h.block k hk, RowsOn.of_below h⟩
/-- the second change may be at a row that is new behind the first -/
theorem Off.trans {n0 : Nat} {v v' : Value} {a b c : World} (h : Off n0 v a b) (k : Off n0 v' b c) (hv : v'.ownBlock = v.ownBlock ∨ ∀ g, v'.ownBlock = some g → a.heap.size ≤ g) : Off n0 v a c :=
  ⟨k.os.trans h.os, k.tape.trans h.tape, k.output.trans h.output, Nat.le_trans h.size k.size, fun i hi h1 h2 => (k.block i (Nat.lt_of_lt_of_le hi h.size) h1 (by
    rcases hv with hv | hv
    · rw [hv]; exact h2
    · intro e
      have := hv i e
      omega)).trans (h.block i hi h1 h2), h.rows.trans k.rows⟩
theorem Off.step {n0 : Nat} {v : Value} {a b c : World} (h : Off n0 v a b) (k : RowKit.Below b.heap.size b c) : Off n0 v a c := h.trans (Off.of_below (v := v) k) (Or.inl rfl)
theorem Off.below {n0 : Nat} {v : Value} {B : Nat} {a b : World} (h : Off n0 v a b) (hn : B ≤ n0) (hv : ∀ g, v.ownBlock = some g → B ≤ g) (hB : B ≤ a.heap.size) : RowKit.Below B a b :=
  ⟨h.os, h.tape, h.output, h.size, fun k hk => h.block k (by omega) (by omega) (fun e => by have := hv k e; omega)⟩

/-- a chain at block n0: its list of layers is v; behind so many of them there are the sets gs -/
def ChainAt (w : World) (n0 : Nat) (v : Value) (gs : List (List Tr)) : Prop :=
  ∃ s r bd cb xs, gs = s :: r ∧ (∀ g ∈ gs, IsSet g) ∧ w.heap[n0]? = some (.cells #[.slice bd s.length cb, v] 68) ∧ SlT w bd s ∧ SheetV w (n0 + 1) v xs ∧ LaysV w xs (stepsL gs)
theorem ChainAt.lt {w : World} {n0 : Nat} {v : Value} {gs : List (List Tr)} (h : ChainAt w n0 v gs) : n0 < w.heap.size := by
  obtain ⟨s, r, bd, cb, xs, rfl, _, h, _⟩ := h
  exact (Array.getElem?_eq_some_iff.1 h).1
theorem ChainAt.own {w : World} {n0 : Nat} {v : Value} {gs : List (List Tr)} (h : ChainAt w n0 v gs) : ∀ g, v.ownBlock = some g → n0 + 1 ≤ g ∧ g < w.heap.size := by
  obtain ⟨s, r, bd, cb, xs, rfl, _, _, _, h, _⟩ := h
  exact h.lt
theorem ChainAt.below {w w' : World} {n0 : Nat} {v : Value} {gs : List (List Tr)} (h : ChainAt w n0 v gs) (hb : RowKit.Below w.heap.size w w') : ChainAt w' n0 v gs := by
  have hlt := h.lt
  obtain ⟨s, r, bd, cb, xs, rfl, h0, h1, h2, h3, h4⟩ := h
  exact ⟨s, r, bd, cb, xs, rfl, h0, (hb.block n0 hlt).trans h1, h2.below hb, h3.below hb, h4.rows (RowsOn.of_below hb)⟩
/-- a chain is not touched by what is done to another one's rows -/
theorem ChainAt.keep {w w' : World} {n0 : Nat} {v : Value} {gs : List (List Tr)} (h : ChainAt w n0 v gs) (hz : w.heap.size ≤ w'.heap.size) (hr : RowsOn w w') (hb : ∀ k, k = n0 ∨ v.ownBlock = some k → w'.heap[k]? = w.heap[k]?) : ChainAt w' n0 v gs := by
  obtain ⟨s, r, bd, cb, xs, rfl, h0, h1, h2, h3, h4⟩ := h
  exact ⟨s, r, bd, cb, xs, rfl, h0, (hb n0 (Or.inl rfl)).trans h1, hr _ _ h2, h3.keep hz fun g hg => hb g (Or.inr hg), h4.rows hr⟩
end Go.Proofs.YtgdjeohcimkljadGreatDoor
