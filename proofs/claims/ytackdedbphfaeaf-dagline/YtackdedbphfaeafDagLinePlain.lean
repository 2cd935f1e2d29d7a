/- A line of commits, and two apart from it: in plain words, and in memory. -/
import Derived.Test.YtackdedbphfaeafDagHoldsPlain
import Derived.Test.YtackdedbphfaeafSameNat
namespace Go.Proofs.Ytackdedbphfaeaf
open Go Go.RowKit Go.Proofs
set_option synthInstance.maxSize 1000

def oneC (p : Int) : Cm := ([p], 1, [])
def lineC : Nat → List Cm
  | 0 => []
  | n + 1 => lineC n ++ [if n = 0 then ([], 1, []) else oneC ((n : Int) - 1)]
theorem lineC_len (n : Nat) : (lineC n).length = n := by
  induction n with
  | zero => rfl
  | succ n ih => simp [lineC, ih]
theorem lineC_at (n k : Nat) (hk : k < n) : (lineC n)[k]? = some (if k = 0 then ([], 1, []) else oneC ((k : Int) - 1)) := by
  induction n with
  | zero => omega
  | succ n ih =>
    unfold lineC
    by_cases e : k = n
    · subst e
      rw [List.getElem?_append_right (by rw [lineC_len]; omega), lineC_len]
      simp
    · rw [List.getElem?_append_left (by rw [lineC_len]; omega)]
      exact ih (by omega)
/-- the line, and two that come of it -/
def forkC (n a b : Nat) : List Cm := lineC n ++ [oneC (a : Int)] ++ [oneC (b : Int)]
theorem forkC_len (n a b : Nat) : (forkC n a b).length = n + 2 := by simp [forkC, lineC_len]
theorem forkC_line {n a b k : Nat} (hk : k < n) : (forkC n a b)[k]? = some (if k = 0 then ([], 1, []) else oneC ((k : Int) - 1)) := by
  unfold forkC
  rw [List.append_assoc, List.getElem?_append_left (by rw [lineC_len]; exact hk), lineC_at n k hk]
theorem forkC_a (n a b : Nat) : (forkC n a b)[n]? = some (oneC a) := by
  unfold forkC
  rw [List.append_assoc, List.getElem?_append_right (by rw [lineC_len]; omega), lineC_len]
  simp
theorem forkC_b (n a b : Nat) : (forkC n a b)[n + 1]? = some (oneC b) := by
  unfold forkC
  rw [List.append_assoc, List.getElem?_append_right (by rw [lineC_len]; omega), lineC_len]
  simp
theorem com_one {p : Int} {i : Nat} (h0 : 0 ≤ p) (h1 : p < i) : comN (oneC p) i = 0 := by
  have e1 : msgN ([] : List UInt8) = 0 := by decide
  have e2 : rangeB [p] i = true := by unfold rangeB; simp; omega
  unfold comN oneC
  dsimp only
  rw [e1, e2]
  simp [twinB]
theorem com_none (i : Nat) : comN ([], 1, []) i = 0 := by
  have e1 : msgN ([] : List UInt8) = 0 := by decide
  unfold comN
  dsimp only
  rw [e1]
  simp [twinB, rangeB]
theorem forkC_good {n a b : Nat} (hn : n ≤ 58) (ha : a < n) (hb : b < n) : GoodC (forkC n a b) := by
  refine ⟨by rw [forkC_len]; omega, fun j hj => ?_⟩
  have hj' := hj
  rw [forkC_len] at hj'
  have hg := List.getElem?_eq_getElem hj
  by_cases h1 : j < n
  · rw [forkC_line h1] at hg
    rw [← Option.some.inj hg]
    split
    · exact com_none j
    · exact com_one (by omega) (by omega)
  · by_cases h2 : j = n
    · subst h2
      rw [forkC_a] at hg
      rw [← Option.some.inj hg]
      exact com_one (by omega) (by omega)
    · obtain rfl : j = n + 1 := by omega
      rw [forkC_b] at hg
      rw [← Option.some.inj hg]
      exact com_one (by omega) (by omega)
theorem up_line {n a b : Nat} (hn : n ≤ 58) (ha : a < n) (hb : b < n) {k z : Nat} (hk : k < n) : Up (forkC n a b) k z ↔ z ≤ k := by
  constructor
  · intro h
    exact (up_le (forkC_good hn ha hb) (by rw [forkC_len]; omega) h).1
  · intro h
    induction k with
    | zero => rw [show z = 0 by omega]; exact Up.refl _ _
    | succ k ih =>
      by_cases e : z = k + 1
      · rw [e]; exact Up.refl _ _
      · have h1 := ih (by omega) (by omega)
        refine Up.trans ((Up.refl _ _).step ?_) h1
        unfold parsOf
        rw [forkC_line hk, if_neg (by omega)]
        simp [oneC]
theorem up_a {n a b : Nat} (hn : n ≤ 58) (ha : a < n) (hb : b < n) {z : Nat} : Up (forkC n a b) n z ↔ z = n ∨ z ≤ a := by
  rw [up_split]
  have hp : parsOf (forkC n a b) n = [(a : Int)] := by unfold parsOf; rw [forkC_a]; rfl
  rw [hp]
  constructor
  · rintro (e | ⟨p, h1, h2⟩)
    · exact Or.inl e
    · simp at h1
      rw [show p = a by omega, up_line hn ha hb ha] at h2
      exact Or.inr h2
  · rintro (e | h)
    · exact Or.inl e
    · exact Or.inr ⟨a, by simp, (up_line hn ha hb ha).2 h⟩
theorem up_b {n a b : Nat} (hn : n ≤ 58) (ha : a < n) (hb : b < n) {z : Nat} : Up (forkC n a b) (n + 1) z ↔ z = n + 1 ∨ z ≤ b := by
  rw [up_split]
  have hp : parsOf (forkC n a b) (n + 1) = [(b : Int)] := by unfold parsOf; rw [forkC_b]; rfl
  rw [hp]
  constructor
  · rintro (e | ⟨p, h1, h2⟩)
    · exact Or.inl e
    · simp at h1
      rw [show p = b by omega, up_line hn ha hb hb] at h2
      exact Or.inr h2
  · rintro (e | h)
    · exact Or.inl e
    · exact Or.inr ⟨b, by simp, (up_line hn ha hb hb).2 h⟩
def lowN (a b : Nat) : Nat := if b < a then b else a
theorem line_up {n a b : Nat} (hn : n ≤ 58) (ha : a < n) (hb : b < n) {x : List Nat} (h : upP (forkC n a b) a x) : x.length = a + 1 := by
  have : x = List.range (a + 1) := by
    refine rise_unique h.1 ?_ fun k => ?_
    · unfold RiseN; exact List.pairwise_lt_range
    · rw [h.2 k, up_line hn ha hb ha, List.mem_range]; omega
  rw [this, List.length_range]
theorem line_base {n a b : Nat} (hn : n ≤ 58) (ha : a < n) (hb : b < n) {m : List Nat} (h : baseP (forkC n a b) a b m) : m = [lowN a b] := by
  refine rise_single h.1 fun z => ?_
  rw [h.2 z]
  unfold isBase lowN
  constructor
  · rintro ⟨h1, h2, h3⟩
    rw [up_line hn ha hb ha] at h1
    rw [up_line hn ha hb hb] at h2
    refine Classical.byContradiction fun hne => ?_
    refine h3 (if b < a then b else a) ?_ ?_ (fun e => hne e.symm) ?_
    · rw [up_line hn ha hb ha]; split <;> omega
    · rw [up_line hn ha hb hb]; split <;> omega
    · rw [up_line hn ha hb (by split <;> omega)]; split <;> omega
  · rintro rfl
    refine ⟨?_, ?_, fun c h1 h2 hne hu => ?_⟩
    · rw [up_line hn ha hb ha]; split <;> omega
    · rw [up_line hn ha hb hb]; split <;> omega
    · rw [up_line hn ha hb ha] at h1
      rw [up_line hn ha hb hb] at h2
      rw [up_line hn ha hb (by omega)] at hu
      split at hne <;> split at hu <;> omega
theorem fork_base {n a b : Nat} (hn : n ≤ 58) (ha : a < n) (hb : b < n) {m : List Nat} (h : baseP (forkC n a b) n (n + 1) m) : m = [lowN a b] := by
  refine rise_single h.1 fun z => ?_
  rw [h.2 z]
  unfold isBase lowN
  constructor
  · rintro ⟨h1, h2, h3⟩
    rw [up_a hn ha hb] at h1
    rw [up_b hn ha hb] at h2
    refine Classical.byContradiction fun hne => ?_
    refine h3 (if b < a then b else a) ?_ ?_ (fun e => hne e.symm) ?_
    · rw [up_a hn ha hb]; split <;> omega
    · rw [up_b hn ha hb]; split <;> omega
    · rw [up_line hn ha hb (by split <;> omega)]; split <;> omega
  · rintro rfl
    refine ⟨?_, ?_, fun c h1 h2 hne hu => ?_⟩
    · rw [up_a hn ha hb]; split <;> omega
    · rw [up_b hn ha hb]; split <;> omega
    · rw [up_a hn ha hb] at h1
      rw [up_b hn ha hb] at h2
      rw [up_line hn ha hb (by omega)] at hu
      split at hne <;> split at hu <;> omega

/-! ### in memory: a row of one's own -/
theorem infoC : (Try.prog.info? 24).map (fun i => (i.zero, i.size, i.bytes)) = some (some (.agg #[.slice none 0 0, .int .i64 0, .string ⟨#[]⟩]), 3, 48) := by kernel_rfl
def ParAt (W : World) (a : Option Addr) (ps : List Int) : Prop := ps = [] ∨ ∃ g p, a = some ⟨g, 0, none⟩ ∧ ps = [p] ∧ W.cell? ⟨g, 0, none⟩ = some (.int .i64 p)
def newC (g : Nat) : List Value := [.slice (some ⟨g, 0, none⟩) 1 1, .int .i64 1, .string ⟨#[]⟩]
def LineW (W : World) (base : Nat) (v : Value) (l : List Cm) (cs : List Value) : Prop :=
  W.ownsRow base 24 3 v l.length cs ∧ ∀ (i : Nat) (hi : i < l.length), ∃ a c, cs[i * 3]? = some (.slice a l[i].1.length c) ∧ cs[i * 3 + 1]? = some (.int .i64 l[i].2.1) ∧ cs[i * 3 + 2]? = some (.string ⟨l[i].2.2.toArray⟩) ∧ ParAt W a l[i].1 ∧ l[i].1.length ≤ c
theorem LineW.below {W W' : World} {base : Nat} {v : Value} {l : List Cm} {cs : List Value} (h : LineW W base v l cs) (hb : RowKit.Below W.heap.size W W') : LineW W' base v l cs := by
  refine ⟨ownsO_below h.1 hb, fun i hi => ?_⟩
  obtain ⟨a, c, h1, h2, h3, h4, h5⟩ := h.2 i hi
  refine ⟨a, c, h1, h2, h3, ?_, h5⟩
  rcases h4 with h4 | ⟨g, p, e1, e2, e3⟩
  · exact Or.inl h4
  · exact Or.inr ⟨g, p, e1, e2, (hb.cell (World.block_lt_of_cell? W _ e3)).trans e3⟩
theorem LineW.len {W : World} {base : Nat} {v : Value} {l : List Cm} {cs : List Value} (h : LineW W base v l cs) : cs.length = l.length * 3 := h.1.1
theorem line_start (w : World) : LineW (w.alloc (.cells #[.slice none 0 0, .int .i64 1, .string ⟨#[]⟩] 24)) w.heap.size (.slice (some ⟨w.heap.size, 0, none⟩) 1 1) (lineC 1) [.slice none 0 0, .int .i64 1, .string ⟨#[]⟩] := by
  refine ⟨⟨by simp [lineC_len], Or.inr ⟨w.heap.size, 1, #[.slice none 0 0, .int .i64 1, .string ⟨#[]⟩], rfl, Nat.le_refl _, by show (w.heap.push _)[w.heap.size]? = _; simp, Nat.le_refl _, by unfold maxLen; omega, by simp, by simp [lineC_len]⟩⟩, fun i hi => ?_⟩
  obtain rfl : i = 0 := by rw [lineC_len] at hi; omega
  exact ⟨none, 0, rfl, rfl, rfl, Or.inl rfl, by simp [lineC]⟩
theorem line_next {W w7 : World} {base : Nat} {v v' : Value} {l : List Cm} {cs : List Value} {p : Int} (h : LineW W base v l cs) (hl : l ≠ [])
    (h2 : w7.ownsRow base 24 3 v' (l.length + 1) (cs ++ newC W.heap.size))
    (h3 : ((W.alloc (.cells #[.int .i64 p] 3)).alloc (.cells #[.slice (some ⟨W.heap.size, 0, none⟩) 1 1, .int .i64 1, .string ⟨#[]⟩] 24)).grownBy w7 v.ownBlock) :
    LineW w7 base v' (l ++ [oneC p]) (cs ++ newC W.heap.size) := by
  have hlen := h.len
  have hown := h.1
  have hpos : 0 < l.length := List.length_pos_iff.2 hl
  have hcell0 : ∀ g, v.ownBlock = some g → ∃ a n c, W.cell? ⟨g, 0, none⟩ = some (.slice a n c) := by
    intro g hg
    obtain ⟨a, c, h1, _⟩ := h.2 0 hpos
    rcases hown.2 with ⟨rfl, h0⟩ | ⟨g', cap, cur, rfl, _⟩
    · omega
    · have hgg : some g' = some g := hg
      cases hgg
      have := hown.cells (g := g) rfl 0 _ (by simpa using h1)
      rw [Addr.add_lit] at this
      exact ⟨a, _, c, this⟩
  have keep : ∀ g p', W.cell? ⟨g, 0, none⟩ = some (.int .i64 p') → w7.cell? ⟨g, 0, none⟩ = some (.int .i64 p') := by
    intro g p' hc
    have hlt := World.block_lt_of_cell? W _ hc
    have hlt' : g < W.heap.size := hlt
    refine (World.cell?_of_block (w := (W.alloc (.cells #[.int .i64 p] 3)).alloc (.cells #[.slice (some ⟨W.heap.size, 0, none⟩) 1 1, .int .i64 1, .string ⟨#[]⟩] 24)) (h3.block g (by simp; omega) fun e => ?_)).trans ?_
    · obtain ⟨a, n, c, q⟩ := hcell0 g e.symm
      rw [hc] at q
      cases q
    · exact ((bstep (balloc W _) (balloc _ _)).cell (p := ⟨g, 0, none⟩) hlt').trans hc
  refine ⟨by rw [List.length_append]; exact h2, fun i hi => ?_⟩
  rw [List.length_append] at hi
  simp at hi
  by_cases hil : i < l.length
  · obtain ⟨a, c, h1, h4, h5, h6, h7⟩ := h.2 i hil
    have hg : (l ++ [oneC p])[i]'(by rw [List.length_append]; omega) = l[i] := List.getElem_append_left hil
    rw [hg, List.getElem?_append_left (by omega), List.getElem?_append_left (by omega), List.getElem?_append_left (by omega)]
    refine ⟨a, c, h1, h4, h5, ?_, h7⟩
    rcases h6 with h6 | ⟨g, p', e1, e2, e3⟩
    · exact Or.inl h6
    · exact Or.inr ⟨g, p', e1, e2, keep g p' e3⟩
  · obtain rfl : i = l.length := by omega
    have hg : (l ++ [oneC p])[l.length]'(by rw [List.length_append]; simp) = oneC p := by rw [List.getElem_append_right (Nat.le_refl _)]; simp
    rw [hg, List.getElem?_append_right (by omega), List.getElem?_append_right (by omega), List.getElem?_append_right (by omega), hlen]
    rw [show l.length * 3 - l.length * 3 = 0 by omega, show l.length * 3 + 1 - l.length * 3 = 1 by omega, show l.length * 3 + 2 - l.length * 3 = 2 by omega]
    refine ⟨some ⟨W.heap.size, 0, none⟩, 1, rfl, rfl, rfl, Or.inr ⟨W.heap.size, p, rfl, rfl, ?_⟩, Nat.le_refl _⟩
    refine (World.cell?_of_block (w := (W.alloc (.cells #[.int .i64 p] 3)).alloc (.cells #[.slice (some ⟨W.heap.size, 0, none⟩) 1 1, .int .i64 1, .string ⟨#[]⟩] 24)) (h3.block W.heap.size (by simp <;> omega) fun e => ?_)).trans ?_
    · have := (hown.lt W.heap.size e.symm).2
      omega
    · go_simp
theorem line_ok {W : World} {base : Nat} {v : Value} {l : List Cm} {cs : List Value} (h : LineW W base v l cs) (hl : l ≠ []) (hz : l.length ≤ 60) (hm : ∀ c ∈ l, c.1.length ≤ 2 ∧ c.2.2.length ≤ 24) : ∃ ad ca, v = .slice ad l.length ca ∧ ComsOK W ad ca l := by
  have hown := h.1
  rcases hown.2 with ⟨rfl, h0⟩ | ⟨g, cap, cur, rfl, _, _, hcap, _⟩
  · exact absurd (List.eq_nil_of_length_eq_zero h0) hl
  · have hc : ∀ (j : Nat) u, cs[j]? = some u → W.cell? ⟨g, 0 + j, none⟩ = some u := fun j u hj => by
      have := hown.cells (g := g) rfl j u hj
      rwa [Addr.add_lit] at this
    refine ⟨some ⟨g, 0, none⟩, cap, rfl, fun _ => ⟨g, 0, rfl, fun i hi => ?_⟩, hcap, by unfold maxLen; omega, fun c hc => by have := (hm c hc).1; unfold maxLen; omega, fun c hc => by have := (hm c hc).2; unfold maxLen; omega, fun b o e i hi a n c hcc => ?_⟩
    · obtain ⟨a, c, h1, h2, h3, h4, h5⟩ := h.2 i hi
      refine ⟨a, c, hc _ _ h1, ?_, ?_, ?_⟩
      · have := hc _ _ h2; rwa [← Nat.add_assoc] at this
      · have := hc _ _ h3; rwa [← Nat.add_assoc] at this
      · intro hne
        rcases h4 with h4 | ⟨g', p, e1, e2, e3⟩
        · exact absurd h4 hne
        · refine ⟨g', 0, e1, fun j hj => ?_⟩
          have hj0 : j = 0 := by rw [e2] at hj; simp at hj; exact hj
          subst hj0
          rw [Nat.add_zero, e3]
          simp [e2]
    · cases e
      obtain ⟨a', c', h1, _, _, _, h5⟩ := h.2 i hi
      rw [hc _ _ h1] at hcc
      simp only [Option.some.injEq, Value.slice.injEq] at hcc
      omega
end Go.Proofs.Ytackdedbphfaeaf
