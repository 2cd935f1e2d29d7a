import Derived.Test.YtaddfndohoppeaaGreatMA0x6
import Derived.Laws.IdiomCopy
import Derived.ArgAppend
import Derived.Laws.IdiomStrings
import Derived.OwnWalk
import Derived.Deep.RegionHeld3
import Derived.Deep.RegionLaw

/- TopLayers in plain words: a repo whose commits stand along one line. -/
namespace Go.Proofs.YtaddfndohoppeaaGreat
open Go Go.RowKit Go.Proofs
set_option synthInstance.maxSize 1000

/-- commits along one line, where the branch m leads -/
structure TLine (R : Rp) : Prop where
  good : GoodR R
  link : Linked R
  par : ∀ (i : Nat) (c : Cm), R.coms[i]? = some c → c.1 = if i = 0 then [] else [(i : Int) - 1]
  head : atR R.refs [109] = (R.coms.length : Int) - 1
theorem TLine.empty : TLine emptyR := ⟨goodR_empty, linked_empty, fun i c h => by simp [emptyR] at h, rfl⟩
theorem TLine.parR {R : Rp} (h : TLine R) : parR R [109] = if R.coms.length = 0 then [] else [(R.coms.length : Int) - 1] := by
  unfold Go.Proofs.YtaddfndohoppeaaGreat.parR
  rw [h.head]
  by_cases e : R.coms.length = 0
  · rw [if_pos e, if_neg (by omega)]
  · rw [if_neg e, if_pos (by omega)]
theorem TLine.none {R : Rp} (h : TLine R) (s : List Tr) (m : List UInt8) : findC R.coms R.gr (Go.Proofs.YtaddfndohoppeaaGreat.parR R [109]) s m = none := by
  refine pfindC_none fun i c g hc hg => ?_
  rintro ⟨_, e, _⟩
  have hi := (List.getElem?_eq_some_iff.1 hc).1
  rw [h.par i c hc, h.parR, if_neg (show ¬ R.coms.length = 0 by omega)] at e
  by_cases h0 : i = 0
  · rw [if_pos h0] at e; simp at e
  · rw [if_neg h0] at e
    simp at e
    omega
theorem atR_lead {l : List Rf} (hl : ByName l) (b : List UInt8) (t : Nat) : atR (leadR l b t) b = (t : Int) := (atR_mem (hl.lead b t)).2 (mem_lead.2 (Or.inl rfl))
/-- what a commit makes of it -/
structure TNext (R : Rp) (s : List Tr) (y : Int) : Prop where
  set : IsSet s
  num : commitI R [109] s [] = R.coms.length
  line : TLine (commitR R [109] s [])
  coms : (commitR R [109] s []).coms = R.coms ++ [(parR R [109], y, [])]
  gr : (commitR R [109] s []).gr = R.gr ++ [s]
  get : objB (commitR R [109] s []).L y = bytesR R (parR R [109]) s
  has : objE (commitR R [109] s []).L y = 0
theorem TLine.next {R : Rp} (h : TLine R) {s : List Tr} (he : commitE R [109] s [] = 0) : ∃ y, TNext R s y := by
  have hne := h.none s []
  have hF : commitF R [109] s [] = 0 := by
    unfold commitE at he
    split at he
    · exact absurd he ‹_›
    · rename_i h0; simpa using h0
  have hA : addE R (Go.Proofs.YtaddfndohoppeaaGreat.parR R [109]) s [] = 0 := by
    unfold commitE at he
    rwa [if_neg (by simpa using hF)] at he
  have hset : IsSet s := by
    unfold commitF at hF
    split at hF
    · simp at hF
    · split at hF
      · exact absurd hF ‹_›
      · rename_i h0
        exact sortedN_set.1 (setF_zero (by simpa using h0)).1
  have hA2 := hA
  unfold addE at hA2
  rw [hne] at hA2
  dsimp only at hA2
  have h60 : ¬ 60 ≤ R.coms.length := fun h6 => by rw [if_pos h6] at hA2; simp at hA2
  rw [if_neg h60] at hA2
  have hI : addI R (Go.Proofs.YtaddfndohoppeaaGreat.parR R [109]) s [] = R.coms.length := by
    unfold addI
    rw [hne]
    dsimp only
    rw [if_neg h60, if_neg (by simpa using hA2)]
  have hcI : commitI R [109] s [] = R.coms.length := by
    unfold commitI
    rw [if_neg (by simpa using he), hI]
  have hR : commitR R [109] s [] = leadTo ⟨putM R.n R.L (bytesR R (Go.Proofs.YtaddfndohoppeaaGreat.parR R [109]) s), putL R.n R.L (bytesR R (Go.Proofs.YtaddfndohoppeaaGreat.parR R [109]) s), R.coms ++ [(Go.Proofs.YtaddfndohoppeaaGreat.parR R [109], (putI R.n R.L (bytesR R (Go.Proofs.YtaddfndohoppeaaGreat.parR R [109]) s) : Int), [])], R.gr ++ [s], R.refs⟩ [109] R.coms.length := by
    unfold commitR
    rw [if_neg (by simpa using he), hI]
    unfold addR
    rw [hne]
    dsimp only
    rw [if_neg h60, if_neg (by simpa using hA2)]
  have hlk : Linked (commitR R [109] s []) := by
    unfold commitR
    rw [if_neg (by simpa using he)]
    exact (h.link.add h.good (par_ok h.good [109])).lead _ _
  have hget : getO (putL R.n R.L (bytesR R (Go.Proofs.YtaddfndohoppeaaGreat.parR R [109]) s)) (putI R.n R.L (bytesR R (Go.Proofs.YtaddfndohoppeaaGreat.parR R [109]) s) : Int) = some (bytesR R (Go.Proofs.YtaddfndohoppeaaGreat.parR R [109]) s) := put_new h.good.store hA2
  refine ⟨_, hset, hcI, ⟨h.good.commit [109] s [], hlk, ?_, ?_⟩, by rw [hR]; rfl, by rw [hR]; rfl, ?_, ?_⟩
  · intro i c hc
    rw [hR] at hc
    have hc' : (R.coms ++ [(Go.Proofs.YtaddfndohoppeaaGreat.parR R [109], (putI R.n R.L (bytesR R (Go.Proofs.YtaddfndohoppeaaGreat.parR R [109]) s) : Int), [])])[i]? = some c := hc
    by_cases hi : i < R.coms.length
    · rw [List.getElem?_append_left hi] at hc'
      exact h.par i c hc'
    · have hl := (List.getElem?_eq_some_iff.1 hc').1
      have e : i = R.coms.length := by simp at hl; omega
      subst e
      rw [List.getElem?_append_right (Nat.le_refl _), Nat.sub_self] at hc'
      simp at hc'
      rw [← hc']
      exact h.parR
  · rw [hR]
    show atR (leadR R.refs [109] R.coms.length) [109] = ((R.coms ++ [_]).length : Int) - 1
    rw [atR_lead h.good.refs]
    simp
  · rw [hR]
    show objB (putL R.n R.L _) _ = _
    unfold objB
    rw [hget]
    rfl
  · rw [hR]
    show objE (putL R.n R.L _) _ = _
    unfold objE
    rw [hget]
    rfl
/-- the sets that there are behind each layer -/
def setsT (R : Rp) : List (List Tr) := [] :: R.gr
theorem setsT_len {R : Rp} (h : GoodR R) : (setsT R).length = R.coms.length + 1 := by simp [setsT, h.len]
theorem setsT_last {R : Rp} (h : TLine R) : (setsT R).getLast? = some (fromR R (parR R [109])) := by
  rw [h.parR, List.getLast?_eq_getElem?, setsT_len h.good]
  unfold setsT
  by_cases e : R.coms.length = 0
  · rw [if_pos e, e]
    rfl
  · rw [if_neg e]
    unfold fromR
    dsimp only
    obtain ⟨n, hn⟩ : ∃ n, R.coms.length = n + 1 := ⟨R.coms.length - 1, by omega⟩
    rw [hn]
    have hl : n < R.gr.length := by rw [h.good.len, hn]; omega
    rw [show n + 1 + 1 - 1 = n + 1 by omega, List.getElem?_cons_succ, List.getElem?_eq_getElem hl, show ((n + 1 : Nat) : Int) - 1 = (n : Int) by omega, Int.toNat_natCast, List.getElem?_eq_getElem hl]
    rfl
theorem setsT_next {R R' : Rp} {s : List Tr} (h : R'.gr = R.gr ++ [s]) : setsT R' = setsT R ++ [s] := by unfold setsT; rw [h]; rfl
/-- the graph of the first parent -/
theorem graph_from {R R' : Rp} {s : List Tr} (h : TLine R) (hg : GoodR R') (e : R'.gr = R.gr ++ [s]) (hp : R.coms.length ≠ 0) : graphE R' ((R.coms.length : Int) - 1) = 0 ∧ graphL R' ((R.coms.length : Int) - 1) = fromR R (parR R [109]) := by
  have hl : R'.coms.length = R.coms.length + 1 := by rw [← hg.len, e, List.length_append, h.good.len]; rfl
  have hin : inR R' ((R.coms.length : Int) - 1) = true := inR_iff.2 ⟨by omega, by omega⟩
  refine ⟨by unfold graphE; rw [if_pos hin], ?_⟩
  unfold graphL
  rw [if_pos hin, h.parR, if_neg hp, e]
  unfold fromR
  dsimp only
  have : ((R.coms.length : Int) - 1).toNat < R.gr.length := by rw [h.good.len]; omega
  rw [List.getElem?_append_left this]
end Go.Proofs.YtaddfndohoppeaaGreat

/- A chain of layers, in plain words (the sets behind so many layers; a layer is what parts two of them), and a row of layers in memory. -/
namespace Go.Proofs.YtaddfndohoppeaaGreat
open Go Go.RowKit Go.Proofs
set_option synthInstance.maxSize 1000

/-! ### in plain words -/
abbrev Ly := List Tr × List Tr
def btw (g h : List Tr) : Ly := (lessL h g, lessL g h)
/-- the layers between sets that follow each other -/
def stepsL : List (List Tr) → List Ly
  | g :: h :: r => btw g h :: stepsL (h :: r)
  | _ => []
theorem stepsL_at : ∀ (gs : List (List Tr)) (i : Nat), (stepsL gs)[i]? = (match gs[i]?, gs[i + 1]? with | some g, some h => some (btw g h) | _, _ => none)
  | [], i => by simp [stepsL]
  | [g], i => by cases i <;> simp [stepsL]
  | g :: h :: r, 0 => by simp [stepsL]
  | g :: h :: r, i + 1 => by
    rw [stepsL, List.getElem?_cons_succ, stepsL_at (h :: r) i]
    simp
theorem stepsL_len : ∀ (gs : List (List Tr)), (stepsL gs).length = gs.length - 1
  | [] => rfl
  | [g] => rfl
  | g :: h :: r => by
    have := stepsL_len (h :: r)
    simp only [stepsL, List.length_cons] at this ⊢
    omega
theorem stepsL_get {gs : List (List Tr)} {i : Nat} {g h : List Tr} (h1 : gs[i]? = some g) (h2 : gs[i + 1]? = some h) : (stepsL gs)[i]? = some (btw g h) := by
  rw [stepsL_at, h1, h2]
theorem stepsL_snoc (gs : List (List Tr)) (g u : List Tr) (h : gs.getLast? = some g) : stepsL (gs ++ [u]) = stepsL gs ++ [btw g u] := by
  induction gs with
  | nil => simp at h
  | cons a r ih =>
    cases r with
    | nil => simp at h; subst h; simp [stepsL]
    | cons b r => rw [List.cons_append, List.cons_append, stepsL, ← List.cons_append, ih (by simpa using h), stepsL]; simp
/-! ### a row of layers in memory -/
abbrev Vp := Value × Value
def slB : Value → Bool | .slice _ _ _ => true | _ => false
def cellsL (xs : List Vp) : List Value := xs.flatMap fun x => [x.1, x.2]
theorem cellsL_len (xs : List Vp) : (cellsL xs).length = xs.length * 2 := by
  induction xs with
  | nil => rfl
  | cons x r ih => simp only [cellsL, List.flatMap_cons, List.length_append, List.length_cons, List.length_nil] at ih ⊢; omega
theorem cellsL_app (xs ys : List Vp) : cellsL (xs ++ ys) = cellsL xs ++ cellsL ys := by simp [cellsL]
theorem cellsL_at : ∀ (xs : List Vp) (q : Nat), (cellsL xs)[q]? = (xs[q / 2]?).map fun x => if q % 2 = 0 then x.1 else x.2
  | [], q => by simp [cellsL]
  | x :: r, 0 => by simp [cellsL]
  | x :: r, 1 => by simp [cellsL]
  | x :: r, q + 2 => by
    have := cellsL_at r q
    simp only [cellsL, List.flatMap_cons] at this ⊢
    rw [show (q + 2) / 2 = q / 2 + 1 by omega, show (q + 2) % 2 = q % 2 by omega]
    simpa using this

/-- a row of layers at block g: room for cap of them, all its cells are lists -/
structure Sheet (w : World) (g cap : Nat) (xs : List Vp) : Prop where
  le : xs.length ≤ cap
  max : cap ≤ maxLen
  free : ∀ j, j < cap * 2 → w.frozen? ⟨g, j, none⟩ = false
  sl : ∀ j, j < cap * 2 → ∃ a n c, w.cell? ⟨g, j, none⟩ = some (.slice a n c)
  at_ : ∀ j u, (cellsL xs)[j]? = some u → w.cell? ⟨g, j, none⟩ = some u
def SheetV (w : World) (base : Nat) (v : Value) (xs : List Vp) : Prop := (v = .slice none 0 0 ∧ xs = []) ∨ ∃ g cap, v = .slice (some ⟨g, 0, none⟩) xs.length cap ∧ base ≤ g ∧ g < w.heap.size ∧ Sheet w g cap xs

theorem Sheet.keep {w w' : World} {g cap : Nat} {xs : List Vp} (h : Sheet w g cap xs) (hb : w'.heap[g]? = w.heap[g]?) : Sheet w' g cap xs :=
  ⟨h.le, h.max, fun j hj => (World.frozen?_of_block (w := w) hb).trans (h.free j hj), fun j hj => by obtain ⟨a, n, c, e⟩ := h.sl j hj; exact ⟨a, n, c, (World.cell?_of_block (w := w) hb).trans e⟩, fun j u hu => (World.cell?_of_block (w := w) hb).trans (h.at_ j u hu)⟩
theorem SheetV.keep {w w' : World} {base : Nat} {v : Value} {xs : List Vp} (h : SheetV w base v xs) (hz : w.heap.size ≤ w'.heap.size) (hb : ∀ g, v.ownBlock = some g → w'.heap[g]? = w.heap[g]?) : SheetV w' base v xs := by
  rcases h with h | ⟨g, cap, rfl, hg, hlt, h⟩
  · exact Or.inl h
  · exact Or.inr ⟨g, cap, rfl, hg, by omega, h.keep (hb g rfl)⟩
theorem SheetV.lt {w : World} {base : Nat} {v : Value} {xs : List Vp} (h : SheetV w base v xs) : ∀ g, v.ownBlock = some g → base ≤ g ∧ g < w.heap.size := fun g hg => by
  rcases h with ⟨rfl, _⟩ | ⟨g', cap, rfl, hg', hlt, h⟩
  · simp [Value.ownBlock] at hg
  · simp [Value.ownBlock] at hg
    subst hg
    exact ⟨hg', hlt⟩
theorem SheetV.below {w w' : World} {base : Nat} {v : Value} {xs : List Vp} (h : SheetV w base v xs) (hb : RowKit.Below w.heap.size w w') : SheetV w' base v xs :=
  h.keep hb.size fun g hg => hb.block g (h.lt g hg).2

/-- rows of triples outlast a store where lists lay -/
theorem SlT.puts {W : World} {ad : Option Addr} {l : List Tr} (h : SlT W ad l) (g p : Nat) (vs : List Value) (hs : ∀ j, j < vs.length → ∃ a n c, W.cell? ⟨g, p + j, none⟩ = some (.slice a n c)) : SlT (W.setCells g p vs) ad l := fun hl => by
  obtain ⟨b, o, rfl, hr⟩ := h hl
  refine ⟨b, o, rfl, fun j u hu => ?_⟩
  have hc := hr j u hu
  rw [World.cell?_setCells_out g vs p W ⟨b, o + j, none⟩ (fun e1 _ => ?_)]
  · exact hc
  · dsimp only at e1 ⊢
    subst e1
    by_cases hq : o + j < p ∨ p + vs.length ≤ o + j
    · exact hq
    · exfalso
      obtain ⟨a, n, c, e⟩ := hs (o + j - p) (by omega)
      rw [show p + (o + j - p) = o + j by omega, hc] at e
      obtain rfl := Option.some.inj e
      have hm := List.mem_of_getElem? hu
      unfold cellsT at hm
      obtain ⟨x, _, hx⟩ := List.mem_flatMap.1 hm
      simp [encTr] at hx

theorem Sheet.write {w : World} {g cap : Nat} {xs : List Vp} (h : Sheet w g cap xs) (p : Nat) (vs : List Value) (hv : ∀ u ∈ vs, slB u = true) (hfit : p + vs.length ≤ cap * 2) (ys : List Vp) (hy : ys.length ≤ cap)
    (hat : ∀ j u, (cellsL ys)[j]? = some u → if p ≤ j ∧ j < p + vs.length then vs[j - p]? = some u else (cellsL xs)[j]? = some u) : Sheet (w.setCells g p vs) g cap ys := by
  have hin := World.cell?_setCells_in g vs p w (fun j hj => by obtain ⟨a, n, c, e⟩ := h.sl (p + j) (by omega); rw [e]; rfl)
  have hout := World.cell?_setCells_out g vs p w
  refine ⟨hy, h.max, fun j hj => by rw [World.frozen?_setCells]; exact h.free j hj, fun j hj => ?_, fun j u hu => ?_⟩
  · by_cases hq : p ≤ j ∧ j < p + vs.length
    · have e := hin (j - p) (by omega)
      rw [show p + (j - p) = j by omega] at e
      have hb := hv vs[j - p] (List.getElem_mem _)
      rw [e]
      generalize vs[j - p]'(by omega) = u at *
      cases u <;> first | exact ⟨_, _, _, rfl⟩ | (simp [slB] at hb)
    · rw [hout ⟨g, j, none⟩ (fun _ _ => by dsimp only; omega)]
      exact h.sl j hj
  · have hu' := hat j u hu
    by_cases hq : p ≤ j ∧ j < p + vs.length
    · rw [if_pos hq] at hu'
      have e := hin (j - p) (by omega)
      rw [show p + (j - p) = j by omega] at e
      rw [e]
      exact (List.getElem?_eq_getElem (by omega)).symm.trans hu'
    · rw [if_neg hq] at hu'
      rw [hout ⟨g, j, none⟩ (fun _ _ => by dsimp only; omega)]
      exact h.at_ j u hu'
theorem Sheet.puts {w : World} {g cap : Nat} {xs : List Vp} (h : Sheet w g cap xs) (p : Nat) (vs : List Value) (hfit : p + vs.length ≤ cap * 2) {ad : Option Addr} {l : List Tr} (hl : SlT w ad l) : SlT (w.setCells g p vs) ad l :=
  hl.puts g p vs fun j hj => h.sl (p + j) (by omega)

/-- a layer's lists -/
def LayV (w : World) (x : Vp) (l : Ly) : Prop := ∃ a1 c1 a2 c2, x = (.slice a1 l.1.length c1, .slice a2 l.2.length c2) ∧ SlT w a1 l.1 ∧ SlT w a2 l.2
def RowsOn (w w' : World) : Prop := ∀ ad l, SlT w ad l → SlT w' ad l
theorem RowsOn.of_below {w w' : World} (h : RowKit.Below w.heap.size w w') : RowsOn w w' := fun _ _ k => k.below h
theorem RowsOn.trans {a b c : World} (h : RowsOn a b) (k : RowsOn b c) : RowsOn a c := fun _ _ x => k _ _ (h _ _ x)
theorem LayV.rows {w w' : World} {x : Vp} {l : Ly} (h : LayV w x l) (hr : RowsOn w w') : LayV w' x l := by
  obtain ⟨a1, c1, a2, c2, rfl, h1, h2⟩ := h
  exact ⟨a1, c1, a2, c2, rfl, hr _ _ h1, hr _ _ h2⟩
/-- layers, each by its lists -/
def LaysV (w : World) (xs : List Vp) (ls : List Ly) : Prop := xs.length = ls.length ∧ ∀ (i : Nat) (x : Vp) (l : Ly), xs[i]? = some x → ls[i]? = some l → LayV w x l
theorem LaysV.rows {w w' : World} {xs : List Vp} {ls : List Ly} (h : LaysV w xs ls) (hr : RowsOn w w') : LaysV w' xs ls := ⟨h.1, fun i x l h1 h2 => (h.2 i x l h1 h2).rows hr⟩
theorem LaysV.nil (w : World) : LaysV w [] [] := ⟨rfl, fun i x l h => by simp at h⟩
theorem LaysV.snoc {w : World} {xs : List Vp} {ls : List Ly} {x : Vp} {l : Ly} (h : LaysV w xs ls) (hx : LayV w x l) : LaysV w (xs ++ [x]) (ls ++ [l]) := by
  refine ⟨by simp [h.1], fun i y m h1 h2 => ?_⟩
  by_cases hi : i < xs.length
  · rw [List.getElem?_append_left hi] at h1
    rw [List.getElem?_append_left (by rw [← h.1]; exact hi)] at h2
    exact h.2 i y m h1 h2
  · rw [List.getElem?_append_right (by omega)] at h1
    rw [List.getElem?_append_right (by rw [← h.1]; omega)] at h2
    have e : i - xs.length = 0 := by
      have := (List.getElem?_eq_some_iff.1 h1).1
      simp at this
      omega
    rw [← h.1] at h2
    rw [e] at h1 h2
    simp at h1 h2
    subst h1 h2
    exact hx
theorem LaysV.cut {w : World} {xs : List Vp} {ls : List Ly} {x : Vp} {l : Ly} (h : LaysV w xs ls) (hx : LayV w x l) (i j : Nat) (hij : i ≤ j) (hj : j ≤ xs.length) : LaysV w (xs.take i ++ x :: xs.drop j) (ls.take i ++ l :: ls.drop j) := by
  have hl := h.1
  refine ⟨by simp only [List.length_append, List.length_take, List.length_cons, List.length_drop]; omega, fun k y m h1 h2 => ?_⟩
  rw [List.getElem?_append, List.length_take, Nat.min_eq_left (by omega)] at h1 h2
  by_cases c1 : k < i
  · rw [if_pos c1, List.getElem?_take_of_lt c1] at h1 h2
    exact h.2 k y m h1 h2
  · rw [if_neg c1] at h1 h2
    cases hd : k - i with
    | zero => rw [hd] at h1 h2; simp at h1 h2; subst h1 h2; exact hx
    | succ d =>
      rw [hd, List.getElem?_cons_succ, List.getElem?_drop] at h1 h2
      exact h.2 _ y m h1 h2
/-- the world behind a change of the rows at n0 and of v alone -/
structure Off (n0 : Nat) (v : Value) (w w' : World) : Prop where
  os : w'.os = w.os
  tape : w'.tape = w.tape
  output : w'.output = w.output
  size : w.heap.size ≤ w'.heap.size
  block : ∀ k, k < w.heap.size → k ≠ n0 → v.ownBlock ≠ some k → w'.heap[k]? = w.heap[k]?
  rows : RowsOn w w'
theorem Off.of_below {n0 : Nat} {v : Value} {w w' : World} (h : RowKit.Below w.heap.size w w') : Off n0 v w w' := ⟨h.os, h.tape, h.output, h.size, fun k hk _ _ => h.block k hk, RowsOn.of_below h⟩
/-- the second change may be at a row that is new behind the first -/
theorem Off.trans {n0 : Nat} {v v' : Value} {a b c : World} (h : Off n0 v a b) (k : Off n0 v' b c) (hv : v'.ownBlock = v.ownBlock ∨ ∀ g, v'.ownBlock = some g → a.heap.size ≤ g) : Off n0 v a c :=
  ⟨k.os.trans h.os, k.tape.trans h.tape, k.output.trans h.output, Nat.le_trans h.size k.size, fun i hi h1 h2 => (k.block i (Nat.lt_of_lt_of_le hi h.size) h1 (by
    rcases hv with hv | hv
    · rw [hv]; exact h2
    · intro e
      have := hv i e
      omega)).trans (h.block i hi h1 h2), h.rows.trans k.rows⟩
theorem Off.step {n0 : Nat} {v : Value} {a b c : World} (h : Off n0 v a b) (k : RowKit.Below b.heap.size b c) : Off n0 v a c := h.trans (Off.of_below (v := v) k) (Or.inl rfl)
theorem Off.below {n0 : Nat} {v : Value} {B : Nat} {a b : World} (h : Off n0 v a b) (hn : B ≤ n0) (hv : ∀ g, v.ownBlock = some g → B ≤ g) (hB : B ≤ a.heap.size) : RowKit.Below B a b :=
  ⟨h.os, h.tape, h.output, h.size, fun k hk => h.block k (by omega) (by omega) (fun e => by have := hv k e; omega)⟩

/-- a chain at block n0: its list of layers is v; behind so many of them there are the sets gs -/
def ChainAt (w : World) (n0 : Nat) (v : Value) (gs : List (List Tr)) : Prop :=
  ∃ s r bd cb xs, gs = s :: r ∧ (∀ g ∈ gs, IsSet g) ∧ w.heap[n0]? = some (.cells #[.slice bd s.length cb, v] 80) ∧ SlT w bd s ∧ SheetV w (n0 + 1) v xs ∧ LaysV w xs (stepsL gs)
theorem ChainAt.lt {w : World} {n0 : Nat} {v : Value} {gs : List (List Tr)} (h : ChainAt w n0 v gs) : n0 < w.heap.size := by
  obtain ⟨s, r, bd, cb, xs, rfl, _, h, _⟩ := h
  exact (Array.getElem?_eq_some_iff.1 h).1
theorem ChainAt.own {w : World} {n0 : Nat} {v : Value} {gs : List (List Tr)} (h : ChainAt w n0 v gs) : ∀ g, v.ownBlock = some g → n0 + 1 ≤ g ∧ g < w.heap.size := by
  obtain ⟨s, r, bd, cb, xs, rfl, _, _, _, h, _⟩ := h
  exact h.lt
theorem ChainAt.below {w w' : World} {n0 : Nat} {v : Value} {gs : List (List Tr)} (h : ChainAt w n0 v gs) (hb : RowKit.Below w.heap.size w w') : ChainAt w' n0 v gs := by
  have hlt := h.lt
  obtain ⟨s, r, bd, cb, xs, rfl, h0, h1, h2, h3, h4⟩ := h
  exact ⟨s, r, bd, cb, xs, rfl, h0, (hb.block n0 hlt).trans h1, h2.below hb, h3.below hb, h4.rows (RowsOn.of_below hb)⟩
/-- a chain is not touched by what is done to another one's rows -/
theorem ChainAt.keep {w w' : World} {n0 : Nat} {v : Value} {gs : List (List Tr)} (h : ChainAt w n0 v gs) (hz : w.heap.size ≤ w'.heap.size) (hr : RowsOn w w') (hb : ∀ k, k = n0 ∨ v.ownBlock = some k → w'.heap[k]? = w.heap[k]?) : ChainAt w' n0 v gs := by
  obtain ⟨s, r, bd, cb, xs, rfl, h0, h1, h2, h3, h4⟩ := h
  exact ⟨s, r, bd, cb, xs, rfl, h0, (hb n0 (Or.inl rfl)).trans h1, hr _ _ h2, h3.keep hz fun g hg => hb g (Or.inr hg), h4.rows hr⟩
end Go.Proofs.YtaddfndohoppeaaGreat

/- append, copy and clear over a row of layers. -/
namespace Go.Proofs.YtaddfndohoppeaaGreat
open Go Go.RowKit Go.Proofs
set_option synthInstance.maxSize 1000

theorem sl_one {u : Value} (h : slB u = true) : u.oneCell' = true := by cases u <;> first | rfl | (simp [slB] at h)
theorem Sheet.new (w : World) (cs : Array Value) (e : TypeId) (cap : Nat) (xs : List Vp) (hs : cs.size = cap * 2) (hm : cap ≤ maxLen) (hle : xs.length ≤ cap) (hall : ∀ (j : Nat) u, cs[j]? = some u → slB u = true) (hat : ∀ (j : Nat) u, (cellsL xs)[j]? = some u → cs[j]? = some u) : Sheet (w.alloc (.cells cs e)) w.heap.size cap xs := by
  refine ⟨hle, hm, fun j hj => ?_, fun j hj => ?_, fun j u hu => ?_⟩
  · have := World.frozen?_alloc_mark w cs e 0 0 j
    rw [this]
    simp
  · rw [World.cell?_alloc_mark]
    have hb := hall j cs[j] (Array.getElem?_eq_getElem (by omega))
    rw [Array.getElem?_eq_getElem (by omega)]
    generalize cs[j]'(by omega) = u at *
    cases u <;> first | exact ⟨_, _, _, rfl⟩ | (simp [slB] at hb)
  · rw [World.cell?_alloc_mark]
    exact hat j u hu
theorem cellsL_sl {w : World} {g cap : Nat} {xs : List Vp} (h : Sheet w g cap xs) : ∀ (j : Nat) u, (cellsL xs)[j]? = some u → slB u = true := fun j u hu => by
  have hj := (List.getElem?_eq_some_iff.1 hu).1
  rw [cellsL_len] at hj
  have := h.le
  obtain ⟨a, n, c, e⟩ := h.sl j (by omega)
  rw [h.at_ j u hu] at e
  obtain rfl := Option.some.inj e
  rfl

theorem setCells_size (g : Nat) : ∀ (vs : List Value) (p : Nat) (w : World), (w.setCells g p vs).heap.size = w.heap.size
  | [], _, _ => rfl
  | v :: r, p, w => by rw [World.setCells, setCells_size g r]; simp [World.setCell]
theorem setCells_other (g k : Nat) (hk : k ≠ g) : ∀ (vs : List Value) (p : Nat) (w : World), (w.setCells g p vs).heap[k]? = w.heap[k]?
  | [], _, _ => rfl
  | v :: r, p, w => by rw [World.setCells, setCells_other g k hk r, Below.heap_setCell _ _ _ _ (by exact hk)]
theorem setCells_os (g : Nat) : ∀ (vs : List Value) (p : Nat) (w : World), (w.setCells g p vs).os = w.os ∧ (w.setCells g p vs).tape = w.tape ∧ (w.setCells g p vs).output = w.output
  | [], _, _ => ⟨rfl, rfl, rfl⟩
  | v :: r, p, w => setCells_os g r (p + 1) (w.setCell ⟨g, p, none⟩ v)
theorem grown_setCells (w : World) (g p : Nat) (vs : List Value) : w.grownBy (w.setCells g p vs) (some g) :=
  ⟨(setCells_os g vs p w).1, (setCells_os g vs p w).2.1, (setCells_os g vs p w).2.2, by rw [setCells_size]; exact Nat.le_refl _, fun k _ hk => setCells_other g k (fun e => hk (by rw [e])) vs p w⟩

theorem zeroCells2 (n : Nat) : (Builtin.zeroCells (Value.cells (.agg #[.slice none 0 0, .slice none 0 0])) n).toList = List.replicate (n * 2) (.slice none 0 0) := by
  have e : (Value.cells (.agg #[.slice none 0 0, .slice none 0 0])) = #[.slice none 0 0, .slice none 0 0] := rfl
  rw [e]
  apply List.ext_getElem
  · simp [Builtin.zeroCells]
  · intro k h1 h2
    simp [Builtin.zeroCells]
    have : k % 2 = 0 ∨ k % 2 = 1 := by omega
    rcases this with e | e <;> simp [e]

section
variable {P : Program} {w : World}

theorem run_append_sheet {base : Nat} {v : Value} {xs : List Vp} (t ty e : TypeId) (i : TypeInfo) (ht : P.underlying t = some (.slice e)) (hi : P.info? e = some i) (hz : i.zero = some (.agg #[.slice none 0 0, .slice none 0 0])) (hs : i.size = 2) (hby : i.bytes ≤ 100)
    (h : SheetV w base v xs) (x : Vp) (hx1 : slB x.1 = true) (hx2 : slB x.2 = true) (a : Addr) (c : Nat) (ha : ∀ (j : Nat) u, ([x.1, x.2] : List Value)[j]? = some u → w.cell? (a.add j) = some u) (hb : base ≤ w.heap.size) (hn : xs.length ≤ 1000) :
    ∃ v' w', (Builtin.append_ #[t, t] ty #[v, .slice (some a) 1 c]).run P w = .ok v' w' ∧ SheetV w' base v' (xs ++ [x]) ∧ w.grownBy w' v.ownBlock ∧ RowsOn w w' ∧ (v'.ownBlock = v.ownBlock ∨ v'.ownBlock = some w.heap.size) ∧ ∃ ad cap, v' = .slice ad (xs.length + 1) cap := by
  have hnews : ([x.1, x.2] : List Value).length = 1 * i.size := by rw [hs]; rfl
  have hzs : ∀ k, (Builtin.zeroCells (Value.cells (.agg #[.slice none 0 0, .slice none 0 0])) k).size = k * 2 := fun k => by rw [size_zeroCells]; rfl
  have hzz : ∀ (k j : Nat) u, (Builtin.zeroCells (Value.cells (.agg #[.slice none 0 0, .slice none 0 0])) k)[j]? = some u → slB u = true := by
    intro k j u hu
    rw [← Array.getElem?_toList, zeroCells2] at hu
    rw [List.eq_of_mem_replicate (List.mem_of_getElem? hu)]
    rfl
  have newsl : ∀ (j : Nat) u, ([x.1, x.2] : List Value)[j]? = some u → slB u = true := fun j u hu => by
    have := List.mem_of_getElem? hu
    simp at this
    rcases this with rfl | rfl <;> assumption
  rcases h with ⟨rfl, rfl⟩ | ⟨g, cap, rfl, hg, hlt, h⟩
  · have hr := run_append_nil (P := P) w t ty e i _ ht hi hz a 1 c [x.1, x.2] hnews ha (by omega) (by omega) (by omega)
    refine ⟨_, _, hr, Or.inr ⟨w.heap.size, grownCap w 1 0 e, rfl, hb, by simp, ?_⟩, ⟨rfl, rfl, rfl, by simp, fun k hk _ => Below.heap_alloc w.drew _ k hk⟩, RowsOn.of_below ((Below.refl _ _).drew.alloc (Nat.le_refl _) _), Or.inr rfl, _, _, rfl⟩
    have hge := grownCap_ge w 1 0 e
    refine Sheet.new w.drew _ e _ _ (by simp [hzs]; omega) (grownCap_le_maxLen w 1 0 e (by simp [maxLen])) (by simpa using hge) (fun j u hu => ?_) (fun j u hu => ?_)
    · rw [Array.getElem?_append] at hu
      split at hu
      · exact newsl j u (by simpa using hu)
      · exact hzz _ _ u hu
    · have hj := (List.getElem?_eq_some_iff.1 hu).1
      rw [Array.getElem?_append, if_pos (by simpa [cellsL] using hj)]
      simpa [cellsL] using hu
  · by_cases hroom : xs.length + 1 ≤ cap
    · have hr := run_append_room_cells (P := P) w t ty e i ht hi g 0 xs.length cap a 1 c [x.1, x.2] hnews ha (fun u hu => by simp at hu; rcases hu with rfl | rfl; exact sl_one hx1; exact sl_one hx2) hroom
        (fun j hj => by rw [hs]; simp at hj; obtain ⟨a', n', c', e'⟩ := h.sl (0 + xs.length * 2 + j) (by omega); rw [e']; rfl) (fun j hj => by rw [hs]; simp at hj; exact h.free _ (by omega))
      rw [hs, Nat.zero_add] at hr
      refine ⟨_, _, hr, Or.inr ⟨g, cap, by simp, hg, by rw [setCells_size]; exact hlt, ?_⟩, grown_setCells w g _ _, fun ad l hl => h.puts _ _ (by simp; omega) hl, Or.inl rfl, _, _, rfl⟩
      · refine h.write _ _ (fun u hu => by simp at hu; rcases hu with rfl | rfl <;> assumption) (by simp; omega) _ (by simp; omega) (fun j u hu => ?_)
        rw [cellsL_app, List.getElem?_append, cellsL_len] at hu
        split at hu
        · rw [if_neg (by omega)]; exact hu
        · have hj := (List.getElem?_eq_some_iff.1 hu).1
          simp [cellsL] at hj
          rw [if_pos ⟨by omega, by simp; omega⟩]
          simpa [cellsL] using hu
    · have hr := run_append_grow (P := P) w t ty e i _ ht hi hz ⟨g, 0, none⟩ xs.length cap (cellsL xs) (by rw [cellsL_len, hs]) (fun j u hu => by rw [Addr.add_lit, Nat.zero_add]; exact h.at_ j u hu) a 1 c [x.1, x.2] hnews ha (by omega) (by omega) (growslice_fits (by omega) (by have := Nat.mul_le_mul (show xs.length + 1 ≤ 1001 by omega) hby; omega))
      have hge := grownCap_ge w (xs.length + 1) cap e
      refine ⟨_, _, hr, Or.inr ⟨w.heap.size, grownCap w (xs.length + 1) cap e, by simp, hb, by simp, ?_⟩, ⟨rfl, rfl, rfl, by simp, fun k hk _ => Below.heap_alloc w.drew _ k hk⟩, RowsOn.of_below ((Below.refl _ _).drew.alloc (Nat.le_refl _) _), Or.inr rfl, _, _, rfl⟩
      refine Sheet.new w.drew _ e _ _ (by simp [hzs, cellsL_len]; omega) (grownCap_le_maxLen w _ _ e (by simp [maxLen]; omega)) (by simpa using hge) (fun j u hu => ?_) (fun j u hu => ?_)
      · rw [Array.getElem?_append] at hu
        split at hu
        · rw [Array.getElem?_append] at hu
          split at hu
          · exact cellsL_sl h j u (by simpa using hu)
          · exact newsl _ u (by simpa using hu)
        · exact hzz _ _ u hu
      · have hj := (List.getElem?_eq_some_iff.1 hu).1
        rw [cellsL_len] at hj
        simp at hj
        rw [Array.getElem?_append, if_pos (by simp [cellsL_len]; omega)]
        rw [cellsL_app] at hu
        simpa [cellsL] using hu

/-- at a step of a region that draws: append, copy, whose runs are known -/
theorem step_append_eq {ops : Array Oper} {o : Oper} {a : Act} {K : Act → World → Prop} {Q : Exit → Act → World → Prop} {E : Prop} (hgd : o.guard = none) (s x : Operand) (t : TypeId)
    (ho : o.op = .call { callee := .builtin .append, args := #[s, x], argTypes := #[t, t] }) (v u : Value) (hs : a.eval s = v) (hx : a.eval x = u) {v' : Value} {w' : World}
    (hr : (Builtin.append_ #[t, t] o.type #[v, u]).run P w = .ok v' w') (h : K (a.put o.dst v') w') : if Region.wanted o (yielded ops a.tmps) = true then Oper.wp P o a w K Q else E := by
  rw [if_pos (by simp [Region.wanted, hgd])]
  unfold Oper.wp execOp
  simp only [ho, resolve, invoke, builtin, Sem.run_bind, Sem.run_pure, Result.andThen_ok, List.map_toArray, List.map_cons, List.map_nil, hs, hx, hr]
  exact h
end
end Go.Proofs.YtaddfndohoppeaaGreat

/- A chain in memory: a layer more, a layer less, layers made one. -/
namespace Go.Proofs.YtaddfndohoppeaaGreat
open Go Go.RowKit Go.Proofs
set_option synthInstance.maxSize 1000

/-- the row is the same, or a new one -/
def NewV (w : World) (v v' : Value) : Prop := v'.ownBlock = v.ownBlock ∨ ∀ g, v'.ownBlock = some g → w.heap.size ≤ g

theorem arr_cell {w : World} {n0 : Nat} {a b : Value} {T : TypeId} (h : w.heap[n0]? = some (.cells #[a, b] T)) : w.cell? ⟨n0, 0, none⟩ = some a ∧ w.cell? ⟨n0, 1, none⟩ = some b ∧ w.frozen? ⟨n0, 0, none⟩ = false ∧ w.frozen? ⟨n0, 1, none⟩ = false := by
  refine ⟨?_, ?_, ?_, ?_⟩ <;> simp [World.cell?, World.frozen?, h]

/-- behind a store of another list of layers -/
theorem chain_store {W W9 : World} {n0 : Nat} {v v' : Value} {s : List Tr} {bd : Option Addr} {cb : Nat} {gs' : List (List Tr)} {xs' : List Vp} {r' : List (List Tr)}
    (hgs : gs' = s :: r') (hset : ∀ g ∈ gs', IsSet g) (harr : W.heap[n0]? = some (.cells #[.slice bd s.length cb, v] 80)) (hsl : SlT W bd s) (hv : ∃ ad n cap, v = .slice ad n cap) (hne : v.ownBlock ≠ some n0) (hne' : v'.ownBlock ≠ some n0)
    (hg : W.grownBy W9 v.ownBlock) (hr : RowsOn W W9) (hsh : SheetV W9 (n0 + 1) v' xs') (hly : LaysV W9 xs' (stepsL gs')) :
    W9.cell? ⟨n0, 1, none⟩ = some v ∧ W9.frozen? ⟨n0, 1, none⟩ = false ∧ ChainAt (W9.setCell ⟨n0, 1, none⟩ v') n0 v' gs' ∧ Off n0 v W (W9.setCell ⟨n0, 1, none⟩ v') := by
  have hlt : n0 < W.heap.size := (Array.getElem?_eq_some_iff.1 harr).1
  have h9 : W9.heap[n0]? = some (.cells #[.slice bd s.length cb, v] 80) := (hg.block n0 hlt (fun e => hne e.symm)).trans harr
  obtain ⟨_, k1, _, k3⟩ := arr_cell h9
  obtain ⟨ad, n, cap, rfl⟩ := hv
  have hrow : RowsOn W9 (W9.setCell ⟨n0, 1, none⟩ v') := fun ad l hl => hl.put k1 v'
  have hs : ∀ k, k ≠ n0 → (W9.setCell ⟨n0, 1, none⟩ v').heap[k]? = W9.heap[k]? := fun k hk => Below.heap_setCell _ _ _ _ hk
  have hz : (W9.setCell ⟨n0, 1, none⟩ v').heap.size = W9.heap.size := by simp [World.setCell]
  refine ⟨k1, k3, ⟨s, r', bd, cb, xs', hgs, hset, ?_, hrow _ _ (hr _ _ hsl), hsh.keep (by rw [hz]; exact Nat.le_refl _) (fun g hg' => hs g (fun e => hne' (by rw [← e]; exact hg'))), hly.rows hrow⟩, ⟨hg.os, hg.tape, hg.output, by rw [hz]; exact hg.size, fun k hk h1 h2 => (hs k h1).trans (hg.block k hk (fun e => h2 e.symm)), hr.trans hrow⟩⟩
  have := heap_setCell_same W9 n0 1 _ _ v' h9
  simpa using this

section
variable {P : Program}
end

end Go.Proofs.YtaddfndohoppeaaGreat

/- chain: ownTerm, own: a list in memory of the chain's own. -/
namespace Go.Proofs.YtaddfndohoppeaaGreat
open Go Go.RowKit Go.Proofs
set_option synthInstance.maxSize 1000

theorem CloneC_any (l : List UInt8) (w : World) (hl : l.length ≤ 281474976710656) :
    Calls Tryz.prog 57 #[.string ⟨l.toArray⟩] w fun e w' => e = .returned (.string ⟨l.toArray⟩) ∧ RowKit.Below w.heap.size w w' := by
  go_enter Tryz.func57, Tryz.ntmps57
  go_wp2_with (go_at_call 89; refine (Tryz.stringslite_Clone ⟨l.toArray⟩ _ hl).mono ?_; rintro e w' ⟨rfl, hb⟩)
  go_ret
  exact ⟨rfl, hb⟩

/-- nothing that was there at v has turned -/
def BC (v W : World) : Prop := RowKit.Below v.heap.size v W
theorem BC.refl (v : World) : BC v v := RowKit.Below.refl _ _
theorem BC.drew {v W : World} (h : BC v W) : BC v W.drew := RowKit.Below.drew h
theorem BC.alloc {v W : World} (h : BC v W) (o : Obj) : BC v (W.alloc o) := bstep h (balloc _ _)
theorem BC.call {v W W' : World} (h : BC v W) (hb : RowKit.Below W.heap.size W W') : BC v W' := bstep h hb
def Zc (W : World) (B : Nat) : Prop := W.cell? ⟨B, 0, none⟩ = some (.int .i64 0) ∧ W.cell? ⟨B, 1, none⟩ = some (.string ⟨#[]⟩) ∧ W.cell? ⟨B, 2, none⟩ = some (.string ⟨#[]⟩) ∧ W.frozen? ⟨B, 0, none⟩ = false ∧ W.frozen? ⟨B, 1, none⟩ = false ∧ W.frozen? ⟨B, 2, none⟩ = false
theorem Zc.below {W W' : World} {B : Nat} (h : Zc W B) (hb : RowKit.Below W.heap.size W W') : Zc W' B := by
  obtain ⟨k, f⟩ := bcell hb
  have hB : B < W.heap.size := World.block_lt_of_cell? W _ h.1
  unfold Zc at h ⊢
  simp only [k _ _ hB, f _ _ hB]
  exact h
def B3 (W : World) (n : Nat) (x : Tm) : Prop := W.cell? ⟨n, 0, none⟩ = some (.int .i64 x.1) ∧ W.cell? ⟨n, 1, none⟩ = some (.string ⟨x.2.1.toArray⟩) ∧ W.cell? ⟨n, 2, none⟩ = some (.string ⟨x.2.2.toArray⟩)
theorem B3.below {W W' : World} {n : Nat} {x : Tm} (h : B3 W n x) (hb : RowKit.Below W.heap.size W W') : B3 W' n x := by
  obtain ⟨k, f⟩ := bcell hb
  have hB : n < W.heap.size := World.block_lt_of_cell? W _ h.1
  unfold B3 at h ⊢
  simp only [k _ _ hB]
  exact h
theorem B3.set3 {W : World} {n : Nat} {x : Tm} (h : B3 W n x) {g : Nat} (hg : g ≠ n) (a b c : Value) : B3 (((W.setCell ⟨g, 0, none⟩ a).setCell ⟨g, 1, none⟩ b).setCell ⟨g, 2, none⟩ c) n x := by
  unfold B3 at h ⊢
  refine ⟨?_, ?_, ?_⟩
  all_goals
    rw [World.cell?_setCell_other _ _ _ _ (by simp <;> omega), World.cell?_setCell_other _ _ _ _ (by simp <;> omega), World.cell?_setCell_other _ _ _ _ (by simp <;> omega)]
  · exact h.1
  · exact h.2.1
  · exact h.2.2
theorem ownsRow_belowC {W W' : World} {base : Nat} {e : TypeId} {sz : Nat} {v : Value} {n : Nat} {cs : List Value} (h : W.ownsRow base e sz v n cs) (hb : RowKit.Below W.heap.size W W') : W'.ownsRow base e sz v n cs :=
  h.kept (row := none) ⟨hb.os, hb.tape, hb.output, hb.size, fun i hi _ => hb.block i hi⟩ (Classical.em _)

set_option maxHeartbeats 4000000 in
set_option maxRecDepth 100000 in
theorem ownTerm_any (x : Tm) (w : World) (l1 : x.2.1.length ≤ 281474976710656) (l2 : x.2.2.length ≤ 281474976710656) :
    Calls Tryz.prog 48 #[.agg #[.int .i64 x.1, .string ⟨x.2.1.toArray⟩, .string ⟨x.2.2.toArray⟩]] w fun e w' => e = .returned (.agg #[.int .i64 x.1, .string ⟨x.2.1.toArray⟩, .string ⟨x.2.2.toArray⟩]) ∧ RowKit.Below w.heap.size w w' := by
  go_enter Tryz.func48, Tryz.ntmps48
  go_wp2_with fail
  obtain ⟨v0, hv0⟩ : ∃ v0, v0 = ((w.alloc (.cells #[.int .i64 x.1, .string ⟨x.2.1.toArray⟩, .string ⟨x.2.2.toArray⟩] 56)).alloc (.cells #[.int .i64 0, .string ⟨#[]⟩, .string ⟨#[]⟩] 56)) := ⟨_, rfl⟩
  have hZ : Zc v0 (w.heap.size + 1) := by rw [hv0]; unfold Zc; refine ⟨?_, ?_, ?_, ?_, ?_, ?_⟩ <;> go_simp
  have hX : B3 v0 w.heap.size x := by rw [hv0]; unfold B3; refine ⟨?_, ?_, ?_⟩ <;> go_simp
  have hB : Hid (RowKit.Below w.heap.size w v0) := by show RowKit.Below _ _ _; rw [hv0]; exact bstep (balloc _ _) (balloc _ _)
  have hz : v0.heap.size = w.heap.size + 2 := by rw [hv0]; simp
  have hZd : Hid (Zc v0.drew (w.heap.size + 1)) := hZ
  have hXd : B3 v0.drew w.heap.size x := hX
  try rw [show (ByteArray.empty) = ⟨#[]⟩ from rfl]
  rw [← hv0]
  clear hv0 hZ hX
  go_region_held3 (fun W => B3 W w.heap.size x ∧ W.cell? ⟨w.heap.size, 0, none⟩ = some (.int .i64 x.1) ∧ W.cell? ⟨w.heap.size, 1, none⟩ = some (.string ⟨x.2.1.toArray⟩) ∧ W.cell? ⟨w.heap.size, 2, none⟩ = some (.string ⟨x.2.2.toArray⟩)) ((refine (fun (W : World) (h : B3 W w.heap.size x) => (⟨h, h⟩ : B3 W w.heap.size x ∧ B3 W w.heap.size x)) _ ?_; repeat (first | (with_reducible refine B3.set3 ?_ (by omega) _ _ _) | (with_reducible refine B3.below ?_ hb1) | (with_reducible refine B3.below ?_ hb2) | (with_reducible exact hXd) | (with_reducible exact And.left (by assumption))))) (first
    | (go_at_call_of 57 (Value.string ⟨x.2.1.toArray⟩); refine (CloneC_any x.2.1 _ l1).mono ?_; rintro e w1 ⟨rfl, hb1⟩; have hZ1 : Hid (Zc w1 (w.heap.size + 1)) := hZd.out.below hb1)
    | (go_at_call_of 57 (Value.string ⟨x.2.2.toArray⟩); refine (CloneC_any x.2.2 _ l2).mono ?_; rintro e w2 ⟨rfl, hb2⟩; have hZ2 : Zc w2 (w.heap.size + 1) := hZ1.out.below hb2; obtain ⟨q0, q1, q2, q3, q4, q5⟩ := id hZ2))
  all_goals go_wp2_with fail
  exact bodyPost_ret (v := .agg #[.int .i64 x.1, .string ⟨x.2.1.toArray⟩, .string ⟨x.2.2.toArray⟩]) (by unfold results; rw [Tryz.results48]; go_simp) rfl ⟨rfl, (((bstep (bstep hB.out.drew hb1) hb2).setCell (p := ⟨w.heap.size + 1, 0, none⟩) (by show _ ≤ _ + 1; omega) _).setCell (p := ⟨w.heap.size + 1, 1, none⟩) (by show _ ≤ _ + 1; omega) _).setCell (p := ⟨w.heap.size + 1, 2, none⟩) (by show _ ≤ _ + 1; omega) _⟩

def B9 (W : World) (n : Nat) (y : Tr) : Prop := W.cell? ⟨n, 0, none⟩ = some (.int .i64 y.1.1) ∧ W.cell? ⟨n, 1, none⟩ = some (.string ⟨y.1.2.1.toArray⟩) ∧ W.cell? ⟨n, 2, none⟩ = some (.string ⟨y.1.2.2.toArray⟩) ∧ W.cell? ⟨n, 3, none⟩ = some (.int .i64 y.2.1.1) ∧ W.cell? ⟨n, 4, none⟩ = some (.string ⟨y.2.1.2.1.toArray⟩) ∧ W.cell? ⟨n, 5, none⟩ = some (.string ⟨y.2.1.2.2.toArray⟩) ∧ W.cell? ⟨n, 6, none⟩ = some (.int .i64 y.2.2.1) ∧ W.cell? ⟨n, 7, none⟩ = some (.string ⟨y.2.2.2.1.toArray⟩) ∧ W.cell? ⟨n, 8, none⟩ = some (.string ⟨y.2.2.2.2.toArray⟩)
theorem B9.below {W W' : World} {n : Nat} {y : Tr} (h : B9 W n y) (hb : RowKit.Below W.heap.size W W') : B9 W' n y := by
  obtain ⟨k, f⟩ := bcell hb
  have hB : n < W.heap.size := World.block_lt_of_cell? W _ h.1
  unfold B9 at h ⊢
  simp only [k _ _ hB]
  exact h
theorem B9.alloc {W : World} {n : Nat} {y : Tr} (h : B9 W n y) (o : Obj) : B9 (W.alloc o) n y := h.below (balloc _ _)
theorem B9.grown {W W' : World} {n : Nat} {y : Tr} {row : Option Nat} (h : B9 W n y) (hg : W.grownBy W' row) (hn : some n ≠ row) : B9 W' n y := by
  have hB : n < W.heap.size := World.block_lt_of_cell? W _ h.1
  have k : ∀ o, W'.cell? ⟨n, o, none⟩ = W.cell? ⟨n, o, none⟩ := fun o => World.cell?_of_block (w := W) (hg.block n hB hn)
  unfold B9 at h ⊢
  simp only [k]
  exact h
theorem small_chk {x : Tr} (h : chkTr x = 0) : (x.1.2.1.length ≤ 281474976710656 ∧ x.1.2.2.length ≤ 281474976710656) ∧ (x.2.1.2.1.length ≤ 281474976710656 ∧ x.2.1.2.2.length ≤ 281474976710656) ∧ x.2.2.2.1.length ≤ 281474976710656 ∧ x.2.2.2.2.length ≤ 281474976710656 := by
  obtain ⟨h1, h2, h3, _⟩ := chk_zero h
  have a1 := (check_zero h1).2.1
  have a2 := (check_zero h2).2.1
  have a3 := (check_zero h3).2.1
  have b1 := spell_lang (check_zero h1).2.2
  have b2 := spell_lang (check_zero h2).2.2
  have b3 := spell_lang (check_zero h3).2.2
  omega

/-- what append does to a list of one's own -/
theorem append_mine (W : World) (B : Nat) (v : Value) (t : List Tr) (y : Tr) (hown : W.ownsRow B 58 9 v t.length (cellsT t)) (hB : B ≤ W.heap.size) (ht : t.length ≤ 1000) (ty : TypeId) :
    ∃ v' W', (Builtin.append_ #[33, 33] ty #[v, .slice (some ⟨W.heap.size, 0, none⟩) 1 1]).run Tryz.prog (W.alloc (.cells (encTr y).toArray 58)) = .ok v' W' ∧ W'.ownsRow B 58 9 v' (t ++ [y]).length (cellsT (t ++ [y])) ∧ (W.alloc (.cells (encTr y).toArray 58)).grownBy W' v.ownBlock := by
  obtain ⟨i0, hi, hz⟩ := Option.map_eq_some_iff.1 infoTr
  simp only [Prod.mk.injEq] at hz
  obtain ⟨hz0, hz1, hz2⟩ := hz
  have hc : ∀ j u, (encTr y)[j]? = some u → (W.alloc (.cells (encTr y).toArray 58)).cell? ((⟨W.heap.size, 0, none⟩ : Addr).add j) = some u := by
    intro i u hi'
    rw [Addr.add_lit, Nat.zero_add, World.cell?_alloc_new]
    simpa using hi'
  obtain ⟨v', W', hr, h2, h3, _⟩ := run_append_own (P := Tryz.prog) (W.alloc (.cells (encTr y).toArray 58)) B 33 ty 58 i0 (.agg (encTr zeroTr).toArray) 9 120 Tryz.underlying33 hi hz0 hz1 hz2 rfl (by decide) v t.length (cellsT t) (hown.alloc _) ⟨W.heap.size, 0, none⟩ 1 1 (encTr y) rfl hc (encTr_one y) (by unfold maxLen; omega) (by omega) (by simp; omega)
  refine ⟨v', W', hr, ?_, h3⟩
  rw [List.length_append, show cellsT (t ++ [y]) = cellsT t ++ encTr y by simp [cellsT]]
  exact h2

set_option maxHeartbeats 8000000 in
set_option maxRecDepth 100000 in
theorem own_any (ad : Option Addr) (ca : Nat) (l : List Tr) (w : World) (hl : SlT w ad l) (hs : IsSet l) :
    Calls Tryz.prog 22 #[.slice ad l.length ca] w fun e w' => ∃ ad' c', e = .returned (.slice ad' l.length c') ∧ SlT w' ad' l ∧ RowKit.Below w.heap.size w w' := by
  have Hl : Hid (SlT w ad l) := hl
  have Hs : Hid (IsSet l) := hs
  have n200 : l.length ≤ 200 := hs.1
  clear hl hs
  go_enter Tryz.func22, Tryz.ntmps22
  go_wp2_with fail
  go_loopw [3, 8] (fun v i wr => ∃ k : Nat, k ≤ l.length ∧ i = .int .i64 k ∧ Hid (wr.ownsRow w.heap.size 58 9 v (l.take k).length (cellsT (l.take k))) ∧ Hid (RowKit.Below w.heap.size w wr)) (fun _ i wr => l.length - (intOf i).toNat)
  case atStart => exact ⟨0, Nat.zero_le _, rfl, by show World.ownsRow _ _ _ _ _ _ _; rw [List.take_zero]; exact World.ownsRow_nil _ _ _ _, RowKit.Below.refl _ _⟩
  case round =>
    obtain ⟨k, hk, rfl, hown, hbr⟩ := hrel
    by_cases hlt : k < l.length
    · obtain ⟨b, o, rfl, hr⟩ := (Hl.out.below hbr.out).at k hlt
      obtain ⟨c0, c1, c2, c3, c4, c5, c6, c7, c8⟩ := hr.at k hlt
      have i0' : (0 : Int) ≤ (k : Int) := by omega
      have i1 : (k : Int) < (l.length : Int) := by omega
      have hsm := small_chk (Hs.out.2.1 _ (List.getElem_mem hlt))
      have htk : Hid (l.take (k + 1) = l.take k ++ [l[k]]) := by show _ = _; rw [List.take_add_one]; simp [hlt]
      have hk' : Hid ((l.take k).length ≤ 200) := by show _ ≤ _; rw [List.length_take]; omega
      generalize l.take k = t0 at *
      generalize l[k] = y at *
      have H1 := fun W => ownTerm_any y.1 W hsm.1.1 hsm.1.2
      have H2 := fun W => ownTerm_any y.2.1 W hsm.2.1.1 hsm.2.1.2
      have H3 := fun W => ownTerm_any y.2.2 W hsm.2.2.1 hsm.2.2.2
      have HN : Hid (B9 (wr.alloc (.cells #[.int .i64 y.1.1, .string ⟨y.1.2.1.toArray⟩, .string ⟨y.1.2.2.toArray⟩, .int .i64 y.2.1.1, .string ⟨y.2.1.2.1.toArray⟩, .string ⟨y.2.1.2.2.toArray⟩, .int .i64 y.2.2.1, .string ⟨y.2.2.2.1.toArray⟩, .string ⟨y.2.2.2.2.toArray⟩] 58)) wr.heap.size y) := by show B9 _ _ _; unfold B9; refine ⟨?_, ?_, ?_, ?_, ?_, ?_, ?_, ?_, ?_⟩ <;> go_simp
      have HB : Hid (RowKit.Below w.heap.size w (wr.alloc (.cells #[.int .i64 y.1.1, .string ⟨y.1.2.1.toArray⟩, .string ⟨y.1.2.2.toArray⟩, .int .i64 y.2.1.1, .string ⟨y.2.1.2.1.toArray⟩, .string ⟨y.2.1.2.2.toArray⟩, .int .i64 y.2.2.1, .string ⟨y.2.2.2.1.toArray⟩, .string ⟨y.2.2.2.2.toArray⟩] 58))) := bstep hbr.out (balloc _ _)
      have HO : Hid (World.ownsRow (wr.alloc (.cells #[.int .i64 y.1.1, .string ⟨y.1.2.1.toArray⟩, .string ⟨y.1.2.2.toArray⟩, .int .i64 y.2.1.1, .string ⟨y.2.1.2.1.toArray⟩, .string ⟨y.2.1.2.2.toArray⟩, .int .i64 y.2.2.1, .string ⟨y.2.2.2.1.toArray⟩, .string ⟨y.2.2.2.2.toArray⟩] 58)) w.heap.size 58 9 _ t0.length (cellsT t0)) := hown.out.alloc _
      have Hn0 : Hid (some wr.heap.size ≠ Value.ownBlock _) := fun e => by have := (hown.out.lt _ e.symm).2; omega
      have hzz : Hid (w.heap.size ≤ wr.heap.size) := hbr.out.size
      clear hsm hr
      go_wp2_with fail
      obtain ⟨v1, hv1⟩ : ∃ v1, v1 = (wr.alloc (.cells #[.int .i64 y.1.1, .string ⟨y.1.2.1.toArray⟩, .string ⟨y.1.2.2.toArray⟩, .int .i64 y.2.1.1, .string ⟨y.2.1.2.1.toArray⟩, .string ⟨y.2.1.2.2.toArray⟩, .int .i64 y.2.2.1, .string ⟨y.2.2.2.1.toArray⟩, .string ⟨y.2.2.2.2.toArray⟩] 58)) := ⟨_, rfl⟩
      rw [← hv1] at HN HB HO ⊢
      have HNd : B9 v1.drew wr.heap.size y := HN.out
      clear hv1 c0 c1 c2 c3 c4 c5 c6 c7 c8 hown hbr
      go_region_held3 (fun W => B9 W wr.heap.size y ∧ W.cell? ⟨wr.heap.size, 0, none⟩ = some (.int .i64 y.1.1) ∧ W.cell? ⟨wr.heap.size, 1, none⟩ = some (.string ⟨y.1.2.1.toArray⟩) ∧ W.cell? ⟨wr.heap.size, 2, none⟩ = some (.string ⟨y.1.2.2.toArray⟩) ∧ W.cell? ⟨wr.heap.size, 3, none⟩ = some (.int .i64 y.2.1.1) ∧ W.cell? ⟨wr.heap.size, 4, none⟩ = some (.string ⟨y.2.1.2.1.toArray⟩) ∧ W.cell? ⟨wr.heap.size, 5, none⟩ = some (.string ⟨y.2.1.2.2.toArray⟩) ∧ W.cell? ⟨wr.heap.size, 6, none⟩ = some (.int .i64 y.2.2.1) ∧ W.cell? ⟨wr.heap.size, 7, none⟩ = some (.string ⟨y.2.2.2.1.toArray⟩) ∧ W.cell? ⟨wr.heap.size, 8, none⟩ = some (.string ⟨y.2.2.2.2.toArray⟩)) ((refine (fun (W : World) (h : B9 W wr.heap.size y) => (⟨h, h⟩ : B9 W wr.heap.size y ∧ B9 W wr.heap.size y)) _ ?_; repeat (first | (with_reducible exact hN9.out) | (with_reducible refine B9.alloc ?_ _) | (with_reducible refine B9.below ?_ hb1) | (with_reducible refine B9.below ?_ hb2) | (with_reducible refine B9.below ?_ hb3) | (with_reducible exact HNd) | (with_reducible exact And.left (by assumption))))) (first
        | (go_at_call_of 48 (Value.agg #[.int .i64 y.1.1, .string ⟨y.1.2.1.toArray⟩, .string ⟨y.1.2.2.toArray⟩]); refine (H1 _).mono ?_; rintro e w1 ⟨rfl, hb1⟩)
        | (go_at_call_of 48 (Value.agg #[.int .i64 y.2.1.1, .string ⟨y.2.1.2.1.toArray⟩, .string ⟨y.2.1.2.2.toArray⟩]); refine (H2 _).mono ?_; rintro e w2 ⟨rfl, hb2⟩)
        | (go_at_call_of 48 (Value.agg #[.int .i64 y.2.2.1, .string ⟨y.2.2.2.1.toArray⟩, .string ⟨y.2.2.2.2.toArray⟩]); refine (H3 _).mono ?_; rintro e w3 ⟨rfl, hb3⟩; have hB4 : Hid (RowKit.Below w.heap.size w w3) := bstep (bstep (bstep HB.out.drew hb1) hb2) hb3; obtain ⟨v', w9, hr9, ho9, hg9⟩ := append_mine w3 w.heap.size _ t0 y (ownsRow_belowC (ownsRow_belowC (ownsRow_belowC HO.out.drew hb1) hb2) hb3) hB4.out.size (by have := hk'.out; omega) 33; have hN9 : Hid (B9 w9 wr.heap.size y) := (((HN.out.below ((RowKit.Below.refl _ v1).drew.trans (bstep (bstep hb1 hb2) hb3))).alloc _).grown hg9 Hn0.out))
        | (refine step_append_eq rfl (.tmp 12) (.tmp 23) 33 rfl _ _ rfl rfl hr9 ?_))
      have hbel : Hid (RowKit.Below w.heap.size w w9) := (bstep hB4.out (balloc _ _)).grown hg9 (by have := hB4.out.size; simp; omega) (fun q hq => (HO.out.lt q hq).1)
      go_wp2_with fail
      go_roundw
      case rel =>
        refine ⟨k + 1, by omega, by go_num, ?_, hbel⟩
        show World.ownsRow _ _ _ _ _ _ _
        rw [htk.out]
        exact ho9
      case measure => simp [intOf]; omega
    · obtain rfl : k = l.length := by omega
      have hown' := hown.out
      rw [List.take_length] at hown'
      obtain ⟨ad', cap', rfl, hsl⟩ := own_slT hown'
      have Hsl : Hid (SlT wr ad' l) := hsl
      clear hown' hown hsl
      go_wp2_with fail
      exact bodyPost_ret (v := .slice ad' l.length cap') (by simp [results, Tryz.results22, go_sem]) rfl ⟨ad', cap', rfl, Hsl.out, hbr.out⟩
end Go.Proofs.YtaddfndohoppeaaGreat

/- chain: Len, New, Graph. -/
namespace Go.Proofs.YtaddfndohoppeaaGreat
open Go Go.RowKit Go.Proofs
set_option synthInstance.maxSize 1000
attribute [local go_sem] eql_errV neq_errV guard_errV

theorem ChainAt.form {w : World} {n0 : Nat} {v : Value} {gs : List (List Tr)} (h : ChainAt w n0 v gs) : ∃ ad cap, v = .slice ad (gs.length - 1) cap := by
  obtain ⟨s, r, bd, cb, xs, rfl, _, _, _, h, hl⟩ := h
  have e := hl.1.trans (stepsL_len _)
  rcases h with ⟨rfl, rfl⟩ | ⟨g, cap, rfl, _⟩
  · exact ⟨none, 0, by rw [← e]; rfl⟩
  · exact ⟨_, cap, by rw [← e]⟩
theorem ChainAt.pos {w : World} {n0 : Nat} {v : Value} {gs : List (List Tr)} (h : ChainAt w n0 v gs) : 0 < gs.length := by
  obtain ⟨s, r, bd, cb, xs, rfl, _⟩ := h
  simp
theorem ChainAt.c1 {w : World} {n0 : Nat} {v : Value} {gs : List (List Tr)} (h : ChainAt w n0 v gs) : w.cell? ⟨n0, 1, none⟩ = some v := by
  obtain ⟨s, r, bd, cb, xs, rfl, _, h, _⟩ := h
  exact (arr_cell h).2.1
theorem ChainAt.set {w : World} {n0 : Nat} {v : Value} {gs : List (List Tr)} (h : ChainAt w n0 v gs) {i : Nat} {g : List Tr} (hg : gs[i]? = some g) : IsSet g := by
  obtain ⟨s, r, bd, cb, xs, rfl, h, _⟩ := h
  exact h g (List.mem_of_getElem? hg)
/-- what lies behind a place of the list of layers -/
theorem ChainAt.step {w : World} {n0 : Nat} {v : Value} {gs : List (List Tr)} (h : ChainAt w n0 v gs) {i : Nat} {g u : List Tr} (hg : gs[i]? = some g) (hu : gs[i + 1]? = some u) :
    ∃ bl cap a1 c1 a2 c2, v = .slice (some ⟨bl, 0, none⟩) (gs.length - 1) cap ∧ i < gs.length - 1 ∧ gs.length - 1 ≤ cap ∧ w.cell? ⟨bl, i * 2, none⟩ = some (.slice a1 (lessL u g).length c1) ∧ w.cell? ⟨bl, i * 2 + 1, none⟩ = some (.slice a2 (lessL g u).length c2) ∧ SlT w a1 (lessL u g) ∧ SlT w a2 (lessL g u) := by
  obtain ⟨s, r, bd, cb, xs, rfl, _, _, _, h, hl⟩ := h
  have e := hl.1.trans (stepsL_len _)
  have hi := (List.getElem?_eq_some_iff.1 hu).1
  rcases h with ⟨rfl, rfl⟩ | ⟨bl, cap, rfl, _, _, h⟩
  · simp at e
    simp at hi
    omega
  · have hx : i < xs.length := by rw [e]; omega
    obtain ⟨a1, c1, a2, c2, e1, q1, q2⟩ := hl.2 i xs[i] (btw g u) (List.getElem?_eq_getElem hx) (stepsL_get hg hu)
    have p0 : (cellsL xs)[i * 2]? = some (xs[i]).1 := by rw [cellsL_at, show i * 2 / 2 = i by omega, List.getElem?_eq_getElem hx]; simp
    have p1 : (cellsL xs)[i * 2 + 1]? = some (xs[i]).2 := by rw [cellsL_at, show (i * 2 + 1) / 2 = i by omega, List.getElem?_eq_getElem hx]; simp
    have c0 := h.at_ _ _ p0
    have c1' := h.at_ _ _ p1
    rw [e1] at c0 c1'
    exact ⟨bl, cap, a1, c1, a2, c2, by rw [← e], by omega, by rw [← e]; exact h.le, c0, c1', q1, q2⟩

set_option maxHeartbeats 1000000 in
theorem CLen_any (n0 : Nat) (v : Value) (gs : List (List Tr)) (w : World) (h : ChainAt w n0 v gs) (hn : gs.length ≤ 1000) :
    Calls Tryz.prog 18 #[.pointer (some ⟨n0, 0, none⟩)] w fun e w' => e = .returned (.int .i64 ((gs.length - 1 : Nat) : Int)) ∧ w' = w := by
  have c1 := h.c1
  obtain ⟨ad, cap, rfl⟩ := h.form
  generalize hm : gs.length - 1 = m at *
  have hm' : m ≤ 1000 := by omega
  clear h hm hn
  go_enter Tryz.func18, Tryz.ntmps18
  go_wp2_with fail
  go_ret
  exact ⟨rfl, rfl⟩

/-- what New tells -/
def NewAns (s : List Tr) (w : World) (e : Ending) (w' : World) : Prop := RowKit.Below w.heap.size w w' ∧ (sortedN s = 0 → ∃ n0, e = .returned (.tuple #[.pointer (some ⟨n0, 0, none⟩), .nilIface]) ∧ w.heap.size ≤ n0 ∧ ChainAt w' n0 (.slice none 0 0) [s]) ∧ (sortedN s ≠ 0 → e = .returned (.tuple #[.pointer none, errV (sortedN s)]))
theorem chain_new {w : World} {s : List Tr} {bd : Option Addr} {cb : Nat} (hs : IsSet s) (h : SlT w bd s) : ChainAt (w.alloc (.cells #[.slice bd s.length cb, .slice none 0 0] 80)) w.heap.size (.slice none 0 0) [s] :=
  ⟨s, [], bd, cb, [], rfl, by simpa using hs, heap_alloc_new w _, h.below (balloc _ _), Or.inl ⟨rfl, rfl⟩, LaysV.nil _⟩

set_option maxHeartbeats 1000000 in
set_option maxRecDepth 100000 in
theorem CNew_any (ad : Option Addr) (ca : Nat) (s : List Tr) (w : World) (h : SlT w ad s) (fs : ∀ x ∈ s, fitTr x) (ns : s.length ≤ 9223372036854775807) :
    Calls Tryz.prog 6 #[.slice ad s.length ca] w (NewAns s w) := by
  have HS := fun W hW => Sorted_any ad ca s W hW fs ns
  have HO := fun W hW hs => own_any ad ca s W hW hs
  have hz : Hid (sortedN s = 0 → IsSet s) := fun h => sortedN_set.1 h
  have Hs : Hid (SlT w ad s) := h
  have out0 : Hid (¬ sortedN s = 0 → ∀ w', RowKit.Below w.heap.size w w' → NewAns s w (.returned (.tuple #[.pointer none, errV (sortedN s)])) w') := fun h0 w' hb => ⟨hb, fun h => absurd h h0, fun _ => rfl⟩
  have out1 : Hid (sortedN s = 0 → ∀ w' n0, RowKit.Below w.heap.size w w' → w.heap.size ≤ n0 → ChainAt w' n0 (.slice none 0 0) [s] → NewAns s w (.returned (.tuple #[.pointer (some ⟨n0, 0, none⟩), .nilIface])) w') := fun h0 w' n0 hb hn hc => ⟨hb, fun _ => ⟨n0, rfl, hn, hc⟩, fun h => absurd h0 h⟩
  generalize sortedN s = n at *
  clear h fs ns
  go_enter Tryz.func6, Tryz.ntmps6
  go_wp2_with fail
  refine (HS _ Hs.out).mono ?_
  rintro e w1 ⟨rfl, hb1⟩
  cases hn : (n == 0)
  · have h0 : ¬ n = 0 := by simpa using hn
    have H0 : Hid _ := out0.out h0
    clear h0 out0 out1
    go_wp2_with fail
    exact bodyPost_ret (v := .tuple #[.pointer none, errV n]) (by simp [results, Tryz.results6, go_sem]) rfl (H0.out _ hb1)
  · have h0 : n = 0 := by simpa using hn
    have hset : Hid (IsSet s) := hz.out h0
    have H1 : Hid _ := out1.out h0
    clear out1
    subst h0
    rw [show errV 0 = .nilIface from rfl]
    clear hn hz out0
    go_wp2_with fail
    refine (HO _ (Hs.out.below hb1) hset.out).mono ?_
    rintro e w2 ⟨ad', c', rfl, hsl, hb2⟩
    have hB : Hid (RowKit.Below w.heap.size w w2) := bstep hb1 hb2
    have Hsl : Hid (SlT w2 ad' s) := hsl
    clear hsl hb1 hb2
    go_wp2_with fail
    exact bodyPost_ret (v := .tuple #[.pointer (some ⟨w2.heap.size, 0, none⟩), .nilIface]) (by simp [results, Tryz.results6, go_sem]) rfl (H1.out _ w2.heap.size (bstep hB.out (balloc _ _)) hB.out.size (chain_new hset.out Hsl.out))

set_option maxHeartbeats 2000000 in
set_option maxRecDepth 100000 in
theorem GraphNil_any (n0 : Nat) (s : List Tr) (w : World) (h : ChainAt w n0 (.slice none 0 0) [s]) :
    Calls Tryz.prog 17 #[.pointer (some ⟨n0, 0, none⟩), .int .i64 0] w (TOk w s) := by
  have HL := CLen_any n0 _ _ w h (by simp)
  obtain ⟨s', r', bd, cb, xs, e0, hset, harr, hsl, _, _⟩ := h
  obtain ⟨rfl, rfl⟩ := List.cons.inj e0
  obtain ⟨c0, c1, _, _⟩ := arr_cell harr
  have n200 : s.length ≤ 200 := (hset s (by simp)).1
  have Hs : Hid (SlT w bd s) := hsl
  have hnil : Hid (w.ownsRow w.heap.size 58 9 (.slice none 0 0) ([] : List Tr).length (cellsT [])) := World.ownsRow_nil _ _ _ _
  clear e0 hset harr hsl
  go_enter Tryz.func17, Tryz.ntmps17
  go_wp2_with fail
  refine HL.mono ?_
  rintro e w1 ⟨rfl, rfl⟩
  go_wp2_with (at_builtin; refine wpList_append_list _ rfl _ _ rfl w1.heap.size _ [] s bd cb rfl rfl hnil.out Hs.out (by simp; omega) (Nat.le_refl _) ?_; clear hnil; intro v1 w2 hown1 hb1; have hown1' : w2.ownsRow w1.heap.size 58 9 v1 s.length (cellsT s) := hown1; clear hown1; obtain ⟨ad', c', rfl, hsl⟩ := own_slT hown1'; have Hsl : Hid (SlT w2 ad' s) := hsl; clear hsl hown1'; have c1' : w2.cell? ⟨n0, 1, none⟩ = some (.slice none 0 0) := (hb1.cell (World.block_lt_of_cell? _ _ c1)).trans c1)
  go_loopw [6, 32] (fun v i wr => v = .slice ad' s.length c' ∧ i = .int .i64 0 ∧ wr = w2) (fun _ i wr => 0)
  case atStart => exact ⟨rfl, rfl, rfl⟩
  case round =>
    obtain ⟨rfl, rfl, rfl⟩ := hrel
    go_wp2_with fail
    exact bodyPost_ret (v := .tuple #[.slice ad' s.length c', .nilIface]) (by simp [results, Tryz.results17, go_sem]) rfl ⟨hb1, ad', c', rfl, Hsl.out⟩

set_option maxHeartbeats 4000000 in
set_option maxRecDepth 100000 in
theorem GraphSome_any (n0 bl cap : Nat) (gs : List (List Tr)) (i : Nat) (g : List Tr) (w : World) (h : ChainAt w n0 (.slice (some ⟨bl, 0, none⟩) (gs.length - 1) cap) gs) (hn : gs.length ≤ 1000) (hi : gs[i]? = some g) :
    Calls Tryz.prog 17 #[.pointer (some ⟨n0, 0, none⟩), .int .i64 i] w (TOk w g) := by
  have HL := CLen_any n0 _ _ w h hn
  have HC : Hid (ChainAt w n0 (.slice (some ⟨bl, 0, none⟩) (gs.length - 1) cap) gs) := h
  have hlt : i < gs.length := (List.getElem?_eq_some_iff.1 hi).1
  obtain ⟨s, r, bd, cb, xs, e0, hset, harr, hsl, hsh, hly⟩ := h
  have hcap : gs.length - 1 ≤ cap := by
    have e := hly.1.trans (stepsL_len _)
    rcases hsh with ⟨h, _⟩ | ⟨_, _, h, _, _, h2⟩
    · simp at h
    · obtain ⟨_, _, rfl⟩ := Value.slice.inj h
      rw [← e]
      exact h2.le
  obtain ⟨c0, c1, _, _⟩ := arr_cell harr
  have hs0 : Hid (gs[0]? = some s) := by show _ = _; rw [e0]; rfl
  have n200 : s.length ≤ 200 := (hset s (by rw [e0]; simp)).1
  have Hs : Hid (SlT w bd s) := hsl
  have hnil : Hid (w.ownsRow w.heap.size 58 9 (.slice none 0 0) ([] : List Tr).length (cellsT [])) := World.ownsRow_nil _ _ _ _
  have Hi : Hid (gs[i]? = some g) := hi
  have b0 : decide ((i : Int) < 0) = false := by simp
  have him : i ≤ gs.length - 1 := by omega
  have b1 : decide (((gs.length - 1 : Nat) : Int) < (i : Int)) = false := by simp; omega
  have hic : (i : Int) ≤ (cap : Int) := by omega
  clear e0 hset harr hsl hsh hly hi
  generalize hm : gs.length - 1 = m at *
  have Hm : Hid (gs.length - 1 = m) := hm
  have hm' : m ≤ 1000 := by omega
  clear hm hn hlt
  go_enter Tryz.func17, Tryz.ntmps17
  go_wp2_with fail
  refine HL.mono ?_
  rintro e w1 ⟨rfl, rfl⟩
  go_wp2_with (at_builtin; refine wpList_append_list _ rfl _ _ rfl w1.heap.size _ [] s bd cb rfl rfl hnil.out Hs.out (by simp; omega) (Nat.le_refl _) ?_; clear hnil; intro v1 w2 hown1 hb1; have hown1' : w2.ownsRow w1.heap.size 58 9 v1 s.length (cellsT s) := hown1; clear hown1; obtain ⟨ad', c', rfl, hsl⟩ := own_slT hown1'; have Hsl : Hid (SlT w2 ad' s) := hsl; clear hsl hown1'; have c1' : w2.cell? ⟨n0, 1, none⟩ = some (.slice (some ⟨bl, 0, none⟩) m cap) := (hb1.cell (World.block_lt_of_cell? _ _ c1)).trans c1)
  go_loopw [6, 32] (fun v j wr => ∃ (k : Nat) (u : List Tr) (ad : Option Addr) (c : Nat), k ≤ i ∧ j = .int .i64 k ∧ v = .slice ad u.length c ∧ Hid (gs[k]? = some u) ∧ Hid (SlT wr ad u) ∧ Hid (RowKit.Below w1.heap.size w1 wr)) (fun _ j wr => i - (intOf j).toNat)
  case atStart => exact ⟨0, s, ad', c', Nat.zero_le _, rfl, rfl, hs0, Hsl, hb1⟩
  case round =>
    obtain ⟨k, u, ad, c, hk, rfl, rfl, hgk, hsu, hbr⟩ := hrel
    by_cases hki : k < i
    · have hk1 : k + 1 < gs.length := by have := Hm.out; omega
      have hu1 : gs[k + 1]? = some gs[k + 1] := List.getElem?_eq_getElem hk1
      have HCr := HC.out.below hbr.out
      have su := HCr.set hgk.out
      have su1 := HCr.set hu1
      obtain ⟨bl', cap', a1, c1, a2, c2, e1, e5, e6, d0, d1, q1, q2⟩ := HCr.step hgk.out hu1
      clear e5 e6
      obtain ⟨e2, e3, e4⟩ := Value.slice.inj e1
      obtain ⟨rfl, _⟩ := Addr.mk.inj (Option.some.inj e2)
      have HA := fun W h1 h2 h4 => ApplyGood_any ad a1 a2 c c1 c2 u (gs[k + 1]'hk1) W h1 h2 h4 su su1
      have Hq : Hid (SlT wr a1 (lessL gs[k + 1] u) ∧ SlT wr a2 (lessL u gs[k + 1])) := ⟨q1, q2⟩
      have hg1 : Hid (gs[k + 1]? = some gs[k + 1]) := hu1
      clear e1 e2 e3 e4 q1 q2 su su1 HCr hu1
      generalize gs[k + 1] = u1 at *
      generalize lessL u1 u = L1 at *
      generalize lessL u u1 = L2 at *
      have i0' : (0 : Int) ≤ (k : Int) := by omega
      have i1 : (k : Int) < (i : Int) := by omega
      clear c1'
      go_wp2_with fail
      refine (HA _ (hsu.out.below (balloc _ _)) (Hq.out.1.below (balloc _ _)) (Hq.out.2.below (balloc _ _))).mono ?_
      rintro e w3 ⟨hb3, a3, c3, rfl, hs3⟩
      have Hs3 : Hid (SlT w3 a3 u1) := hs3
      have hB3 : Hid (RowKit.Below w1.heap.size w1 w3) := bstep (bstep hbr.out (balloc _ _)) hb3
      clear hs3 hb3
      go_wp2_with fail
      go_roundw
      case rel => exact ⟨k + 1, u1, a3, c3, by omega, by go_num, rfl, hg1, Hs3, hB3⟩
      case measure => simp [intOf]; omega
    · obtain rfl : k = i := by omega
      have e := hgk.out.symm.trans Hi.out
      obtain rfl := Option.some.inj e
      clear e
      go_wp2_with fail
      exact bodyPost_ret (v := .tuple #[.slice ad u.length c, .nilIface]) (by simp [results, Tryz.results17, go_sem]) rfl ⟨hbr.out, ad, c, rfl, hsu.out⟩

/-- Graph behind i layers -/
theorem Graph_any (n0 : Nat) (v : Value) (gs : List (List Tr)) (i : Nat) (g : List Tr) (w : World) (h : ChainAt w n0 v gs) (hn : gs.length ≤ 1000) (hi : gs[i]? = some g) :
    Calls Tryz.prog 17 #[.pointer (some ⟨n0, 0, none⟩), .int .i64 i] w (TOk w g) := by
  have h' := h
  obtain ⟨s, r, bd, cb, xs, rfl, _, _, _, hsh, hly⟩ := h'
  have e := hly.1.trans (stepsL_len _)
  rcases hsh with ⟨rfl, rfl⟩ | ⟨bl, cap, rfl, _⟩
  · have hr : r = [] := by simp at e; exact List.eq_nil_of_length_eq_zero e.symm
    subst hr
    have hi' := (List.getElem?_eq_some_iff.1 hi).1
    simp at hi'
    subst hi'
    simp at hi
    subst hi
    exact GraphNil_any n0 _ w h
  · rw [e] at h
    exact GraphSome_any n0 bl cap _ i g w h hn hi
end Go.Proofs.YtaddfndohoppeaaGreat

/- chain.Push: a layer more. -/
namespace Go.Proofs.YtaddfndohoppeaaGreat
open Go Go.RowKit Go.Proofs
set_option synthInstance.maxSize 1000
attribute [local go_sem] eql_errV neq_errV guard_errV

theorem infoLy : (Tryz.prog.info? 42).map (fun i => (i.zero, i.size, i.bytes)) = some (some (.agg #[.slice none 0 0, .slice none 0 0]), 2, 48) := by kernel_rfl

theorem BoxL.store {W : World} {b : Nat} {v0 v1 : Value} (h : BoxL W b v0 v1) {n0 o : Nat} (hn : n0 ≠ b) (u : Value) : BoxL (W.setCell ⟨n0, o, none⟩ u) b v0 v1 :=
  ⟨by rw [World.cell?_setCell_other _ _ _ _ (by simp <;> omega)]; exact h.1, by rw [World.cell?_setCell_other _ _ _ _ (by simp <;> omega)]; exact h.2⟩
theorem BoxL.grown {W W' : World} {b : Nat} {v0 v1 : Value} {row : Option Nat} (h : BoxL W b v0 v1) (hg : W.grownBy W' row) (hn : some b ≠ row) : BoxL W' b v0 v1 := by
  have hB : b < W.heap.size := World.block_lt_of_cell? W _ h.1
  have k : ∀ o, W'.cell? ⟨b, o, none⟩ = W.cell? ⟨b, o, none⟩ := fun o => World.cell?_of_block (w := W) (hg.block b hB hn)
  exact ⟨(k 0).trans h.1, (k 1).trans h.2⟩
theorem BoxL.alloc {W : World} {b : Nat} {v0 v1 : Value} (h : BoxL W b v0 v1) (o : Obj) : BoxL (W.alloc o) b v0 v1 := h.below (balloc _ _)

/-- what Push tells -/
def pushN (gs : List (List Tr)) (g : List Tr) (l : Ly) : Int := if 31 ≤ gs.length then 4 else applyN g l.1 l.2
def PushAns (n0 : Nat) (v : Value) (gs : List (List Tr)) (g : List Tr) (l : Ly) (w : World) (e : Ending) (w' : World) : Prop :=
  e = .returned (errV (pushN gs g l)) ∧ ∃ gs' v', ChainAt w' n0 v' gs' ∧ Off n0 v w w' ∧ NewV w v v' ∧ (pushN gs g l = 0 → ∃ u, gs' = gs ++ [u] ∧ IsSet u ∧ l = btw g u) ∧ (pushN gs g l ≠ 0 → gs' = gs ∧ v' = v)
theorem PushAns.no {n0 : Nat} {v : Value} {gs : List (List Tr)} {g : List Tr} {l : Ly} {w w' : World} {n : Int} (h : ChainAt w n0 v gs) (hb : RowKit.Below w.heap.size w w') (hn : pushN gs g l = n) (h0 : n ≠ 0) : PushAns n0 v gs g l w (.returned (errV n)) w' :=
  ⟨by rw [hn], gs, v, h.below hb, Off.of_below hb, Or.inl rfl, fun e => absurd (hn.symm.trans e) h0, fun _ => ⟨rfl, rfl⟩⟩

end Go.Proofs.YtaddfndohoppeaaGreat

/- slices.Replace and slices.Delete over a row of layers. -/
namespace Go.Proofs.YtaddfndohoppeaaGreat
open Go Go.RowKit Go.Proofs
set_option synthInstance.maxSize 1000

theorem Sheet.clear {W : World} {g cap : Nat} {xs : List Vp} (h : Sheet W g cap xs) (p n : Nat) (hp : p + n ≤ cap) (hx : xs.length ≤ p) : Sheet (W.setCells g (p * 2) (List.replicate (n * 2) (.slice none 0 0))) g cap xs :=
  h.write _ _ (fun u hu => by rw [List.eq_of_mem_replicate hu]; rfl) (by simp; omega) xs h.le (fun j u hu => by
    have hj := (List.getElem?_eq_some_iff.1 hu).1
    rw [cellsL_len] at hj
    rw [if_neg (by omega)]
    exact hu)
end Go.Proofs.YtaddfndohoppeaaGreat

/- chain.Squash: layers made one. -/
namespace Go.Proofs.YtaddfndohoppeaaGreat
open Go Go.RowKit Go.Proofs
set_option synthInstance.maxSize 1000
attribute [local go_sem] eql_errV neq_errV guard_errV

/-- what Squash leaves -/
def SqAns (n0 : Nat) (v : Value) (gs' : List (List Tr)) (w : World) (v' : Value) (w' : World) : Prop := ChainAt w' n0 v' gs' ∧ Off n0 v w w' ∧ v'.ownBlock = v.ownBlock
/-- the one layer in its box -/
def OneAt (W : World) (b : Nat) (g u : List Tr) : Prop := ∃ p1 q1 p2 q2, BoxL W b (.slice p1 (lessL u g).length q1) (.slice p2 (lessL g u).length q2) ∧ W.frozen? ⟨b, 0, none⟩ = false ∧ W.frozen? ⟨b, 1, none⟩ = false ∧ SlT W p1 (lessL u g) ∧ SlT W p2 (lessL g u)
theorem OneAt.new {w : World} {g u : List Tr} {a1 a2 : Option Addr} {c1 c2 : Nat} (h1 : SlT w a1 (lessL u g)) (h2 : SlT w a2 (lessL g u)) : OneAt (w.alloc (.cells #[.slice a1 (lessL u g).length c1, .slice a2 (lessL g u).length c2] 42)) w.heap.size g u :=
  ⟨a1, c1, a2, c2, BoxL.new _ _ _ _, by go_simp, by go_simp, h1.below (balloc _ _), h2.below (balloc _ _)⟩
theorem OneAt.below {W W' : World} {b : Nat} {g u : List Tr} (h : OneAt W b g u) (hb : RowKit.Below W.heap.size W W') : OneAt W' b g u := by
  obtain ⟨p1, q1, p2, q2, hB, f0, f1, h1, h2⟩ := h
  have hlt := World.block_lt_of_cell? W _ hB.1
  exact ⟨p1, q1, p2, q2, hB.below hb, (hb.frozen (p := ⟨b, 0, none⟩) hlt).trans f0, (hb.frozen (p := ⟨b, 1, none⟩) hlt).trans f1, h1.below hb, h2.below hb⟩
theorem SqAns.back {n0 : Nat} {v v' : Value} {gs' : List (List Tr)} {w W w' : World} (hb : RowKit.Below w.heap.size w W) (h : SqAns n0 v gs' W v' w') : SqAns n0 v gs' w v' w' := ⟨h.1, (Off.of_below hb).trans h.2.1 (Or.inl rfl), h.2.2⟩
end Go.Proofs.YtaddfndohoppeaaGreat

/- chain.Pop: a layer less. -/
namespace Go.Proofs.YtaddfndohoppeaaGreat
open Go Go.RowKit Go.Proofs
set_option synthInstance.maxSize 1000

/-- a store into a box that is new -/
theorem SqAns.put2 {n0 : Nat} {v v' : Value} {gs' : List (List Tr)} {w W w' : World} {b : Nat} {x y : Value} (hb : RowKit.Below w.heap.size w W) (h : SqAns n0 v gs' W v' w') (hn : n0 < w.heap.size) (hv : ∀ g, v.ownBlock = some g → g < w.heap.size) (hbw : w.heap.size ≤ b) (hB : BoxL w' b (.slice none 0 0) (.slice none 0 0)) : SqAns n0 v gs' w v' ((w'.setCell ⟨b, 0, none⟩ x).setCell ⟨b, 1, none⟩ y) ∧ RowsOn w' ((w'.setCell ⟨b, 0, none⟩ x).setCell ⟨b, 1, none⟩ y) := by
  have hr : RowsOn w' ((w'.setCell ⟨b, 0, none⟩ x).setCell ⟨b, 1, none⟩ y) := fun a l hl => hl.put2 hB.1 hB.2 _ _
  have hk : ∀ k, k ≠ b → ((w'.setCell ⟨b, 0, none⟩ x).setCell ⟨b, 1, none⟩ y).heap[k]? = w'.heap[k]? := fun k hkb => by rw [Below.heap_setCell _ _ _ _ hkb, Below.heap_setCell _ _ _ _ hkb]
  have hz : ((w'.setCell ⟨b, 0, none⟩ x).setCell ⟨b, 1, none⟩ y).heap.size = w'.heap.size := by simp [World.setCell]
  refine ⟨⟨h.1.keep (by rw [hz]; exact Nat.le_refl _) hr (fun k hk' => hk k ?_), ?_, h.2.2⟩, hr⟩
  · rcases hk' with rfl | hk'
    · omega
    · rw [h.2.2] at hk'
      have := hv k hk'
      omega
  · have hO := (Off.of_below (v := v) (n0 := n0) hb).trans h.2.1 (Or.inl rfl)
    exact ⟨hO.os, hO.tape, hO.output, by rw [hz]; exact hO.size, fun k h1 h2 h3 => (hk k (by omega)).trans (hO.block k h1 h2 h3), hO.rows.trans hr⟩

end Go.Proofs.YtaddfndohoppeaaGreat

/- What Push, New and Squash tell where nothing is wrong. -/
namespace Go.Proofs.YtaddfndohoppeaaGreat
open Go Go.RowKit Go.Proofs
set_option synthInstance.maxSize 1000

theorem NewNil_any (w : World) : Calls Tryz.prog 6 #[.slice none 0 0] w fun e w' => ∃ n, e = .returned (.tuple #[.pointer (some ⟨n, 0, none⟩), .nilIface]) ∧ w.heap.size ≤ n ∧ ChainAt w' n (.slice none 0 0) [[]] ∧ RowKit.Below w.heap.size w w' := by
  refine (CNew_any none 0 [] w (slT_nil _ _) (by simp) (by simp)).mono ?_
  rintro e w' ⟨hb, hy, _⟩
  obtain ⟨n, rfl, hn, hC⟩ := hy (sortedN_set.2 isSet_nil)
  exact ⟨n, rfl, hn, hC, hb⟩
theorem ChainAt.low {w : World} {n0 B : Nat} {v : Value} {gs : List (List Tr)} (h : ChainAt w n0 v gs) (hB : B ≤ n0) : ∀ g, v.ownBlock = some g → B ≤ g := fun g hg => by have := (h.own g hg).1; omega
def Z2 (W : World) (B : Nat) : Prop := W.cell? ⟨B, 0, none⟩ = some (.slice none 0 0) ∧ W.cell? ⟨B, 1, none⟩ = some (.slice none 0 0) ∧ W.frozen? ⟨B, 0, none⟩ = false ∧ W.frozen? ⟨B, 1, none⟩ = false
theorem Z2.below {W W' : World} {B : Nat} (h : Z2 W B) (hb : RowKit.Below W.heap.size W W') : Z2 W' B := by
  obtain ⟨k, f⟩ := bcell hb
  have hB : B < W.heap.size := World.block_lt_of_cell? W _ h.1
  unfold Z2 at h ⊢
  simp only [k _ _ hB, f _ _ hB]
  exact h
end Go.Proofs.YtaddfndohoppeaaGreat
