import Derived.Test.YtjlifccaoncfcaaMA0x0
import Derived.Deep.RegionLaw
import Derived.Test.YtjlifccaoncfcaaRows
import Derived.WalkKit
import Derived.Deep.DeepCutAuto
import Derived.Deep.CutBlock

/- Who is above is above: what DagHolds and DagLine ask, in plain words. -/
namespace Go.Proofs.Ytjlifccaoncfcaa
open Go Go.RowKit Go.Proofs
set_option synthInstance.maxSize 1000

theorem Up.trans {l : List Cm} {i c k : Nat} (h : Up l i c) (h2 : Up l c k) : Up l i k := fun S h1 hS => h2 S (h S h1 hS) hS
/-- a commit's ancestors are itself and its parents' -/
theorem up_split {l : List Cm} {i k : Nat} : Up l i k ↔ k = i ∨ ∃ p : Nat, (p : Int) ∈ parsOf l i ∧ Up l p k := by
  constructor
  · intro h
    refine h (fun k => k = i ∨ ∃ p : Nat, (p : Int) ∈ parsOf l i ∧ Up l p k) (Or.inl rfl) ?_
    rintro c p (rfl | ⟨q, hq, hu⟩) hp
    · exact Or.inr ⟨p, hp, Up.refl l p⟩
    · exact Or.inr ⟨q, hq, hu.step hp⟩
  · rintro (rfl | ⟨p, hp, hu⟩)
    · exact Up.refl l _
    · exact ((Up.refl l i).step hp).trans hu
theorem isBase_turn {l : List Cm} {a b z : Nat} : isBase l a b z ↔ isBase l b a z :=
  ⟨fun ⟨h1, h2, h3⟩ => ⟨h2, h1, fun c q1 q2 => h3 c q2 q1⟩, fun ⟨h1, h2, h3⟩ => ⟨h2, h1, fun c q1 q2 => h3 c q2 q1⟩⟩
theorem base_turn {l : List Cm} {a b : Nat} {m q : List Nat} (h : baseP l a b m) (k : baseP l b a q) : q = m :=
  rise_unique k.1 h.1 fun z => ((k.2 z).trans isBase_turn).trans (h.2 z).symm
/-- of two bases none is above the other one -/
theorem base_apart {l : List Cm} {a b : Nat} {m : List Nat} (h : baseP l a b m) {y z : Nat} (hy : y ∈ m) (hz : z ∈ m) : Up l z y ↔ y = z := by
  constructor
  · intro hu
    refine Classical.byContradiction fun hne => ?_
    obtain ⟨_, _, h3⟩ := (h.2 y).1 hy
    obtain ⟨k1, k2, _⟩ := (h.2 z).1 hz
    exact h3 z k1 k2 (fun e => hne e.symm) hu
  · rintro rfl
    exact Up.refl l y
theorem rise_single {m : List Nat} {a : Nat} (hm : RiseN m) (h : ∀ z, z ∈ m ↔ z = a) : m = [a] :=
  rise_unique hm (by simp [RiseN]) fun z => by rw [h z]; simp
/-- of two on one line the elder one is the base -/
theorem base_line {l : List Cm} {a b : Nat} {m : List Nat} (hG : GoodC l) (ha : a < l.length) (h : baseP l a b m) (hu : Up l b a) : m = [a] := by
  refine rise_single h.1 fun z => ?_
  rw [h.2 z]
  constructor
  · rintro ⟨h1, h2, h3⟩
    refine Classical.byContradiction fun hne => ?_
    exact h3 a (Up.refl l a) hu (fun e => hne e.symm) h1
  · rintro rfl
    refine ⟨Up.refl l _, hu, fun c h1 _ hne hu2 => ?_⟩
    have q1 := up_le hG ha h1
    have q2 := up_le hG q1.2 hu2
    omega
theorem base_in {l : List Cm} {a b : Nat} {m : List Nat} (hG : GoodC l) (ha : a < l.length) (h : baseP l a b m) {z : Nat} (hz : z ∈ m) : z < l.length ∧ Up l a z ∧ Up l b z := by
  obtain ⟨h1, h2, _⟩ := (h.2 z).1 hz
  exact ⟨(up_le hG ha h1).2, h1, h2⟩
/-- three commits: two of one -/
def onesC : List Cm := [([], 1, []), ([0], 1, []), ([0], 1, [])]
theorem ones_coms : comsN onesC = (0, 0) := by decide
theorem ones_good : GoodC onesC := coms_good.1 (by rw [ones_coms])
theorem ones_up {i k : Nat} (hi : i = 1 ∨ i = 2) : Up onesC i k ↔ k = i ∨ k = 0 := by
  rw [up_split]
  constructor
  · rintro (rfl | ⟨p, hp, hu⟩)
    · exact Or.inl rfl
    · have h0 : p = 0 := by
        rcases hi with rfl | rfl
        · simp [parsOf, onesC] at hp; omega
        · simp [parsOf, onesC] at hp; omega
      subst h0
      exact Or.inr (by have := up_le ones_good (i := 0) (by decide) hu; omega)
  · rintro (rfl | rfl)
    · exact Or.inl rfl
    · refine Or.inr ⟨0, ?_, Up.refl _ _⟩
      rcases hi with rfl | rfl <;> simp [parsOf, onesC]
theorem ones_base {m : List Nat} (h : baseP onesC 1 2 m) : m = [0] := by
  refine rise_single h.1 fun z => ?_
  rw [h.2 z]
  constructor
  · rintro ⟨h1, h2, _⟩
    rw [ones_up (Or.inl rfl)] at h1
    rw [ones_up (Or.inr rfl)] at h2
    omega
  · rintro rfl
    refine ⟨(ones_up (Or.inl rfl)).2 (Or.inr rfl), (ones_up (Or.inr rfl)).2 (Or.inr rfl), fun c h1 h2 hne hu => ?_⟩
    rw [ones_up (Or.inl rfl)] at h1
    rw [ones_up (Or.inr rfl)] at h2
    omega
end Go.Proofs.Ytjlifccaoncfcaa

/- stratasame.Ints: whether two lists of numbers are the same. -/
namespace Go.Proofs.Ytjlifccaoncfcaa
open Go Go.RowKit Go.Proofs
set_option synthInstance.maxSize 1000

set_option maxHeartbeats 2000000 in
set_option maxRecDepth 100000 in
theorem SameInts_any (ad bd : Option Addr) (ca cb : Nat) (l m : List Int) (w : World) (hl : SlI w ad l) (hm : SlI w bd m) (h200 : l.length ≤ 1000000) (h200' : m.length ≤ 1000000) :
    Calls Try.prog 9 #[.slice ad l.length ca, .slice bd m.length cb] w fun e w' => e = .returned (.bool (decide (l = m))) ∧ RowKit.Below w.heap.size w w' := by
  have Hl := hideO hl
  have Hm := hideO hm
  clear hl hm
  by_cases hlen : l.length = m.length
  · have hd : ((l.length : Int) != (m.length : Int)) = false := by simp [hlen]
    have Hlen := hideO hlen
    clear hlen
    go_enter Try.func9, Try.ntmps9
    go_wp2_with fail
    go_loopw [5] (fun i wr => ∃ (k q : Nat), k ≤ l.length ∧ i = .int .i64 k ∧ wr = w.drewN q ∧ Hid (l.take k = m.take k)) (fun i wr => l.length - (intOf i).toNat)
    case atStart => exact ⟨0, 0, by omega, rfl, rfl, rfl⟩
    case round =>
      obtain ⟨k, q, hk, rfl, rfl, hs⟩ := hrel
      by_cases hlt : k < l.length
      · have hlt' : k < m.length := by have := Hlen.out; omega
        obtain ⟨b, o, rfl, c0⟩ := Hl.out.at hlt
        obtain ⟨b', o', rfl, d0⟩ := Hm.out.at hlt'
        have i0 : (0 : Int) ≤ (k : Int) := by omega
        have i1 : (k : Int) < (l.length : Int) := by omega
        have i2 : (k : Int) < (m.length : Int) := by omega
        have hs' : Hid (l[k] = m[k] → l.take (k + 1) = m.take (k + 1)) := by
          show _ → _
          intro e
          rw [List.take_succ_eq_append_getElem hlt, List.take_succ_eq_append_getElem hlt', hs.out, e]
        have hn : Hid (¬ l[k] = m[k] → ¬ l = m) := by
          show _ → _
          intro h1 h2
          subst h2
          exact h1 rfl
        by_cases he : l[k] = m[k]
        · have hd2 : (l[k] != m[k]) = false := by simpa using he
          have He := hideO he
          clear he
          go_wp2_with fail
          go_region
          go_wp2
          exact ⟨⟨k + 1, q + 1, by omega, by go_num, rfl, hs'.out He.out⟩, by simp [intOf]; omega⟩
        · have hd2 : (l[k] != m[k]) = true := by simpa using he
          have He := hideO he
          clear he
          go_wp2_with fail
          go_region
          go_wp2
          go_ret
          refine ⟨ret_bool ?_, bdO _ _⟩
          have := hn.out He.out
          simp [this]
      · have hke : k = l.length := by omega
        go_wp2
        go_ret
        refine ⟨ret_bool ?_, bdO _ _⟩
        have : l = m := by
          have h1 := hs.out
          have h2 := Hlen.out
          rw [hke, List.take_length, h2, List.take_length] at h1
          exact h1
        simp [this]
  · have hd : ((l.length : Int) != (m.length : Int)) = true := by simp; omega
    have hne : Hid (¬ l = m) := by
      show ¬ _
      rintro rfl
      exact hlen rfl
    clear hlen
    go_enter Try.func9, Try.ntmps9
    go_wp2
    go_ret
    refine ⟨ret_bool ?_, RowKit.Below.refl _ _⟩
    have := hne.out
    simp [this]
end Go.Proofs.Ytjlifccaoncfcaa

/- stratasame.Ints at numbers that are the same. -/
namespace Go.Proofs.Ytjlifccaoncfcaa
open Go Go.RowKit Go.Proofs
set_option synthInstance.maxSize 1000

theorem SameNat (ad bd : Option Addr) (ca cb : Nat) (m q : List Nat) (w : World) (hl : SlI w ad (natI m)) (hm : SlI w bd (natI q)) (h : m = q) (hz : m.length ≤ 60) :
    Calls Try.prog 9 #[.slice ad m.length ca, .slice bd q.length cb] w fun e w' => e = .returned (.bool true) ∧ RowKit.Below w.heap.size w w' := by
  subst h
  have := SameInts_any ad bd ca cb (natI m) (natI m) w hl hm (by rw [natI_len]; omega) (by rw [natI_len]; omega)
  rw [natI_len, decide_eq_true rfl] at this
  exact this
theorem errV_zero : errV 0 = .nilIface := rfl
theorem errV_some {f : Int} (h : f ≠ 0) : errV f = .iface 44 (.int .i64 f) := by unfold errV; rw [if_neg h]
end Go.Proofs.Ytjlifccaoncfcaa

/- A line of commits, and two apart from it: in plain words, and in memory. -/
namespace Go.Proofs.Ytjlifccaoncfcaa
open Go Go.RowKit Go.Proofs
set_option synthInstance.maxSize 1000

def oneC (p : Int) : Cm := ([p], 1, [])
def lineC : Nat → List Cm
  | 0 => []
  | n + 1 => lineC n ++ [if n = 0 then ([], 1, []) else oneC ((n : Int) - 1)]
theorem lineC_len (n : Nat) : (lineC n).length = n := by
  induction n with
  | zero => rfl
  | succ n ih => simp [lineC, ih]
theorem lineC_at (n k : Nat) (hk : k < n) : (lineC n)[k]? = some (if k = 0 then ([], 1, []) else oneC ((k : Int) - 1)) := by
  induction n with
  | zero => omega
  | succ n ih =>
    unfold lineC
    by_cases e : k = n
    · subst e
      rw [List.getElem?_append_right (by rw [lineC_len]; omega), lineC_len]
      simp
    · rw [List.getElem?_append_left (by rw [lineC_len]; omega)]
      exact ih (by omega)
/-- the line, and two that come of it -/
def forkC (n a b : Nat) : List Cm := lineC n ++ [oneC (a : Int)] ++ [oneC (b : Int)]
theorem forkC_len (n a b : Nat) : (forkC n a b).length = n + 2 := by simp [forkC, lineC_len]
theorem forkC_line {n a b k : Nat} (hk : k < n) : (forkC n a b)[k]? = some (if k = 0 then ([], 1, []) else oneC ((k : Int) - 1)) := by
  unfold forkC
  rw [List.append_assoc, List.getElem?_append_left (by rw [lineC_len]; exact hk), lineC_at n k hk]
theorem forkC_a (n a b : Nat) : (forkC n a b)[n]? = some (oneC a) := by
  unfold forkC
  rw [List.append_assoc, List.getElem?_append_right (by rw [lineC_len]; omega), lineC_len]
  simp
theorem forkC_b (n a b : Nat) : (forkC n a b)[n + 1]? = some (oneC b) := by
  unfold forkC
  rw [List.append_assoc, List.getElem?_append_right (by rw [lineC_len]; omega), lineC_len]
  simp
theorem com_one {p : Int} {i : Nat} (h0 : 0 ≤ p) (h1 : p < i) : comN (oneC p) i = 0 := by
  have e1 : msgN ([] : List UInt8) = 0 := by decide
  have e2 : rangeB [p] i = true := by unfold rangeB; simp; omega
  unfold comN oneC
  dsimp only
  rw [e1, e2]
  simp [twinB]
theorem com_none (i : Nat) : comN ([], 1, []) i = 0 := by
  have e1 : msgN ([] : List UInt8) = 0 := by decide
  unfold comN
  dsimp only
  rw [e1]
  simp [twinB, rangeB]
theorem forkC_good {n a b : Nat} (hn : n ≤ 58) (ha : a < n) (hb : b < n) : GoodC (forkC n a b) := by
  refine ⟨by rw [forkC_len]; omega, fun j hj => ?_⟩
  have hj' := hj
  rw [forkC_len] at hj'
  have hg := List.getElem?_eq_getElem hj
  by_cases h1 : j < n
  · rw [forkC_line h1] at hg
    rw [← Option.some.inj hg]
    split
    · exact com_none j
    · exact com_one (by omega) (by omega)
  · by_cases h2 : j = n
    · subst h2
      rw [forkC_a] at hg
      rw [← Option.some.inj hg]
      exact com_one (by omega) (by omega)
    · obtain rfl : j = n + 1 := by omega
      rw [forkC_b] at hg
      rw [← Option.some.inj hg]
      exact com_one (by omega) (by omega)
theorem up_line {n a b : Nat} (hn : n ≤ 58) (ha : a < n) (hb : b < n) {k z : Nat} (hk : k < n) : Up (forkC n a b) k z ↔ z ≤ k := by
  constructor
  · intro h
    exact (up_le (forkC_good hn ha hb) (by rw [forkC_len]; omega) h).1
  · intro h
    induction k with
    | zero => rw [show z = 0 by omega]; exact Up.refl _ _
    | succ k ih =>
      by_cases e : z = k + 1
      · rw [e]; exact Up.refl _ _
      · have h1 := ih (by omega) (by omega)
        refine Up.trans ((Up.refl _ _).step ?_) h1
        unfold parsOf
        rw [forkC_line hk, if_neg (by omega)]
        simp [oneC]
theorem up_a {n a b : Nat} (hn : n ≤ 58) (ha : a < n) (hb : b < n) {z : Nat} : Up (forkC n a b) n z ↔ z = n ∨ z ≤ a := by
  rw [up_split]
  have hp : parsOf (forkC n a b) n = [(a : Int)] := by unfold parsOf; rw [forkC_a]; rfl
  rw [hp]
  constructor
  · rintro (e | ⟨p, h1, h2⟩)
    · exact Or.inl e
    · simp at h1
      rw [show p = a by omega, up_line hn ha hb ha] at h2
      exact Or.inr h2
  · rintro (e | h)
    · exact Or.inl e
    · exact Or.inr ⟨a, by simp, (up_line hn ha hb ha).2 h⟩
theorem up_b {n a b : Nat} (hn : n ≤ 58) (ha : a < n) (hb : b < n) {z : Nat} : Up (forkC n a b) (n + 1) z ↔ z = n + 1 ∨ z ≤ b := by
  rw [up_split]
  have hp : parsOf (forkC n a b) (n + 1) = [(b : Int)] := by unfold parsOf; rw [forkC_b]; rfl
  rw [hp]
  constructor
  · rintro (e | ⟨p, h1, h2⟩)
    · exact Or.inl e
    · simp at h1
      rw [show p = b by omega, up_line hn ha hb hb] at h2
      exact Or.inr h2
  · rintro (e | h)
    · exact Or.inl e
    · exact Or.inr ⟨b, by simp, (up_line hn ha hb hb).2 h⟩
def lowN (a b : Nat) : Nat := if b < a then b else a
theorem line_up {n a b : Nat} (hn : n ≤ 58) (ha : a < n) (hb : b < n) {x : List Nat} (h : upP (forkC n a b) a x) : x.length = a + 1 := by
  have : x = List.range (a + 1) := by
    refine rise_unique h.1 ?_ fun k => ?_
    · unfold RiseN; exact List.pairwise_lt_range
    · rw [h.2 k, up_line hn ha hb ha, List.mem_range]; omega
  rw [this, List.length_range]
theorem line_base {n a b : Nat} (hn : n ≤ 58) (ha : a < n) (hb : b < n) {m : List Nat} (h : baseP (forkC n a b) a b m) : m = [lowN a b] := by
  refine rise_single h.1 fun z => ?_
  rw [h.2 z]
  unfold isBase lowN
  constructor
  · rintro ⟨h1, h2, h3⟩
    rw [up_line hn ha hb ha] at h1
    rw [up_line hn ha hb hb] at h2
    refine Classical.byContradiction fun hne => ?_
    refine h3 (if b < a then b else a) ?_ ?_ (fun e => hne e.symm) ?_
    · rw [up_line hn ha hb ha]; split <;> omega
    · rw [up_line hn ha hb hb]; split <;> omega
    · rw [up_line hn ha hb (by split <;> omega)]; split <;> omega
  · rintro rfl
    refine ⟨?_, ?_, fun c h1 h2 hne hu => ?_⟩
    · rw [up_line hn ha hb ha]; split <;> omega
    · rw [up_line hn ha hb hb]; split <;> omega
    · rw [up_line hn ha hb ha] at h1
      rw [up_line hn ha hb hb] at h2
      rw [up_line hn ha hb (by omega)] at hu
      split at hne <;> split at hu <;> omega
theorem fork_base {n a b : Nat} (hn : n ≤ 58) (ha : a < n) (hb : b < n) {m : List Nat} (h : baseP (forkC n a b) n (n + 1) m) : m = [lowN a b] := by
  refine rise_single h.1 fun z => ?_
  rw [h.2 z]
  unfold isBase lowN
  constructor
  · rintro ⟨h1, h2, h3⟩
    rw [up_a hn ha hb] at h1
    rw [up_b hn ha hb] at h2
    refine Classical.byContradiction fun hne => ?_
    refine h3 (if b < a then b else a) ?_ ?_ (fun e => hne e.symm) ?_
    · rw [up_a hn ha hb]; split <;> omega
    · rw [up_b hn ha hb]; split <;> omega
    · rw [up_line hn ha hb (by split <;> omega)]; split <;> omega
  · rintro rfl
    refine ⟨?_, ?_, fun c h1 h2 hne hu => ?_⟩
    · rw [up_a hn ha hb]; split <;> omega
    · rw [up_b hn ha hb]; split <;> omega
    · rw [up_a hn ha hb] at h1
      rw [up_b hn ha hb] at h2
      rw [up_line hn ha hb (by omega)] at hu
      split at hne <;> split at hu <;> omega

/-! ### in memory: a row of one's own -/
theorem infoC : (Try.prog.info? 25).map (fun i => (i.zero, i.size, i.bytes)) = some (some (.agg #[.slice none 0 0, .int .i64 0, .string ⟨#[]⟩]), 3, 48) := by kernel_rfl
def ParAt (W : World) (a : Option Addr) (ps : List Int) : Prop := ps = [] ∨ ∃ g p, a = some ⟨g, 0, none⟩ ∧ ps = [p] ∧ W.cell? ⟨g, 0, none⟩ = some (.int .i64 p)
def newC (g : Nat) : List Value := [.slice (some ⟨g, 0, none⟩) 1 1, .int .i64 1, .string ⟨#[]⟩]
def LineW (W : World) (base : Nat) (v : Value) (l : List Cm) (cs : List Value) : Prop :=
  W.ownsRow base 25 3 v l.length cs ∧ ∀ (i : Nat) (hi : i < l.length), ∃ a c, cs[i * 3]? = some (.slice a l[i].1.length c) ∧ cs[i * 3 + 1]? = some (.int .i64 l[i].2.1) ∧ cs[i * 3 + 2]? = some (.string ⟨l[i].2.2.toArray⟩) ∧ ParAt W a l[i].1 ∧ l[i].1.length ≤ c
theorem LineW.below {W W' : World} {base : Nat} {v : Value} {l : List Cm} {cs : List Value} (h : LineW W base v l cs) (hb : RowKit.Below W.heap.size W W') : LineW W' base v l cs := by
  refine ⟨ownsO_below h.1 hb, fun i hi => ?_⟩
  obtain ⟨a, c, h1, h2, h3, h4, h5⟩ := h.2 i hi
  refine ⟨a, c, h1, h2, h3, ?_, h5⟩
  rcases h4 with h4 | ⟨g, p, e1, e2, e3⟩
  · exact Or.inl h4
  · exact Or.inr ⟨g, p, e1, e2, (hb.cell (World.block_lt_of_cell? W _ e3)).trans e3⟩
theorem LineW.len {W : World} {base : Nat} {v : Value} {l : List Cm} {cs : List Value} (h : LineW W base v l cs) : cs.length = l.length * 3 := h.1.1
theorem line_start (w : World) : LineW (w.alloc (.cells #[.slice none 0 0, .int .i64 1, .string ⟨#[]⟩] 25)) w.heap.size (.slice (some ⟨w.heap.size, 0, none⟩) 1 1) (lineC 1) [.slice none 0 0, .int .i64 1, .string ⟨#[]⟩] := by
  refine ⟨⟨by simp [lineC_len], Or.inr ⟨w.heap.size, 1, #[.slice none 0 0, .int .i64 1, .string ⟨#[]⟩], rfl, Nat.le_refl _, by show (w.heap.push _)[w.heap.size]? = _; simp, Nat.le_refl _, by unfold maxLen; omega, by simp, by simp [lineC_len]⟩⟩, fun i hi => ?_⟩
  obtain rfl : i = 0 := by rw [lineC_len] at hi; omega
  exact ⟨none, 0, rfl, rfl, rfl, Or.inl rfl, by simp [lineC]⟩
theorem line_next {W w7 : World} {base : Nat} {v v' : Value} {l : List Cm} {cs : List Value} {p : Int} (h : LineW W base v l cs) (hl : l ≠ [])
    (h2 : w7.ownsRow base 25 3 v' (l.length + 1) (cs ++ newC W.heap.size))
    (h3 : ((W.alloc (.cells #[.int .i64 p] 3)).alloc (.cells #[.slice (some ⟨W.heap.size, 0, none⟩) 1 1, .int .i64 1, .string ⟨#[]⟩] 25)).grownBy w7 v.ownBlock) :
    LineW w7 base v' (l ++ [oneC p]) (cs ++ newC W.heap.size) := by
  have hlen := h.len
  have hown := h.1
  have hpos : 0 < l.length := List.length_pos_iff.2 hl
  have hcell0 : ∀ g, v.ownBlock = some g → ∃ a n c, W.cell? ⟨g, 0, none⟩ = some (.slice a n c) := by
    intro g hg
    obtain ⟨a, c, h1, _⟩ := h.2 0 hpos
    rcases hown.2 with ⟨rfl, h0⟩ | ⟨g', cap, cur, rfl, _⟩
    · omega
    · have hgg : some g' = some g := hg
      cases hgg
      have := hown.cells (g := g) rfl 0 _ (by simpa using h1)
      rw [Addr.add_lit] at this
      exact ⟨a, _, c, this⟩
  have keep : ∀ g p', W.cell? ⟨g, 0, none⟩ = some (.int .i64 p') → w7.cell? ⟨g, 0, none⟩ = some (.int .i64 p') := by
    intro g p' hc
    have hlt := World.block_lt_of_cell? W _ hc
    have hlt' : g < W.heap.size := hlt
    refine (World.cell?_of_block (w := (W.alloc (.cells #[.int .i64 p] 3)).alloc (.cells #[.slice (some ⟨W.heap.size, 0, none⟩) 1 1, .int .i64 1, .string ⟨#[]⟩] 25)) (h3.block g (by simp; omega) fun e => ?_)).trans ?_
    · obtain ⟨a, n, c, q⟩ := hcell0 g e.symm
      rw [hc] at q
      cases q
    · exact ((bstep (balloc W _) (balloc _ _)).cell (p := ⟨g, 0, none⟩) hlt').trans hc
  refine ⟨by rw [List.length_append]; exact h2, fun i hi => ?_⟩
  rw [List.length_append] at hi
  simp at hi
  by_cases hil : i < l.length
  · obtain ⟨a, c, h1, h4, h5, h6, h7⟩ := h.2 i hil
    have hg : (l ++ [oneC p])[i]'(by rw [List.length_append]; omega) = l[i] := List.getElem_append_left hil
    rw [hg, List.getElem?_append_left (by omega), List.getElem?_append_left (by omega), List.getElem?_append_left (by omega)]
    refine ⟨a, c, h1, h4, h5, ?_, h7⟩
    rcases h6 with h6 | ⟨g, p', e1, e2, e3⟩
    · exact Or.inl h6
    · exact Or.inr ⟨g, p', e1, e2, keep g p' e3⟩
  · obtain rfl : i = l.length := by omega
    have hg : (l ++ [oneC p])[l.length]'(by rw [List.length_append]; simp) = oneC p := by rw [List.getElem_append_right (Nat.le_refl _)]; simp
    rw [hg, List.getElem?_append_right (by omega), List.getElem?_append_right (by omega), List.getElem?_append_right (by omega), hlen]
    rw [show l.length * 3 - l.length * 3 = 0 by omega, show l.length * 3 + 1 - l.length * 3 = 1 by omega, show l.length * 3 + 2 - l.length * 3 = 2 by omega]
    refine ⟨some ⟨W.heap.size, 0, none⟩, 1, rfl, rfl, rfl, Or.inr ⟨W.heap.size, p, rfl, rfl, ?_⟩, Nat.le_refl _⟩
    refine (World.cell?_of_block (w := (W.alloc (.cells #[.int .i64 p] 3)).alloc (.cells #[.slice (some ⟨W.heap.size, 0, none⟩) 1 1, .int .i64 1, .string ⟨#[]⟩] 25)) (h3.block W.heap.size (by simp <;> omega) fun e => ?_)).trans ?_
    · have := (hown.lt W.heap.size e.symm).2
      omega
    · go_simp
theorem line_ok {W : World} {base : Nat} {v : Value} {l : List Cm} {cs : List Value} (h : LineW W base v l cs) (hl : l ≠ []) (hz : l.length ≤ 60) (hm : ∀ c ∈ l, c.1.length ≤ 2 ∧ c.2.2.length ≤ 24) : ∃ ad ca, v = .slice ad l.length ca ∧ ComsOK W ad ca l := by
  have hown := h.1
  rcases hown.2 with ⟨rfl, h0⟩ | ⟨g, cap, cur, rfl, _, _, hcap, _⟩
  · exact absurd (List.eq_nil_of_length_eq_zero h0) hl
  · have hc : ∀ (j : Nat) u, cs[j]? = some u → W.cell? ⟨g, 0 + j, none⟩ = some u := fun j u hj => by
      have := hown.cells (g := g) rfl j u hj
      rwa [Addr.add_lit] at this
    refine ⟨some ⟨g, 0, none⟩, cap, rfl, fun _ => ⟨g, 0, rfl, fun i hi => ?_⟩, hcap, by unfold maxLen; omega, fun c hc => by have := (hm c hc).1; unfold maxLen; omega, fun c hc => by have := (hm c hc).2; unfold maxLen; omega, fun b o e i hi a n c hcc => ?_⟩
    · obtain ⟨a, c, h1, h2, h3, h4, h5⟩ := h.2 i hi
      refine ⟨a, c, hc _ _ h1, ?_, ?_, ?_⟩
      · have := hc _ _ h2; rwa [← Nat.add_assoc] at this
      · have := hc _ _ h3; rwa [← Nat.add_assoc] at this
      · intro hne
        rcases h4 with h4 | ⟨g', p, e1, e2, e3⟩
        · exact absurd h4 hne
        · refine ⟨g', 0, e1, fun j hj => ?_⟩
          have hj0 : j = 0 := by rw [e2] at hj; simp at hj; exact hj
          subst hj0
          rw [Nat.add_zero, e3]
          simp [e2]
    · cases e
      obtain ⟨a', c', h1, _, _, _, h5⟩ := h.2 i hi
      rw [hc _ _ h1] at hcc
      simp only [Option.some.injEq, Value.slice.injEq] at hcc
      omega
end Go.Proofs.Ytjlifccaoncfcaa

/- A law's code, in pieces. -/
namespace Go.Proofs.Ytjlifccaoncfcaa
open Go Go.Proofs

/-- the first region of a piece of code, and the piece that begins with one -/
def leftmost : Code → Option Nat
  | .region n _ _ => some n
  | .seq a _ => leftmost a
  | .block _ c => leftmost c
  | .loop c => leftmost c
  | .scope c => leftmost c
  | _ => none
def findAt (n : Nat) : Code → Option Code
  | .region m o b => if m = n then some (.region m o b) else none
  | .seq a b => if leftmost a = some n then some (.seq a b) else match findAt n a with
    | some c => some c
    | none => findAt n b
  | .block m c => if leftmost c = some n then some (.block m c) else findAt n c
  | .loop c => if leftmost c = some n then some (.loop c) else findAt n c
  | .scope c => if leftmost c = some n then some (.scope c) else findAt n c
  | .cond _ a b => match findAt n a with
    | some c => some c
    | none => findAt n b
  | _ => none
def codeOf (b : Option Code) (n : Nat) : Code := ((b.bind (findAt n)).getD .skip)
/-- a region alone -/
def regAt (n : Nat) : Code → Option Code
  | .region m o b => if m = n then some (.region m o b) else none
  | .seq a b => match regAt n a with
    | some c => some c
    | none => regAt n b
  | .block _ c => regAt n c
  | .loop c => regAt n c
  | .scope c => regAt n c
  | .cond _ a b => match regAt n a with
    | some c => some c
    | none => regAt n b
  | _ => none
def regOf (b : Option Code) (n : Nat) : Code := ((b.bind (regAt n)).getD .skip)
theorem go_on {P : Program} {c : Code} {Q0 : Exit → Act → World → Prop} {K : Act → World → Prop} {a : Act} {w : World} (h : ∀ a w, Code.wp P c Q0 a w → K a w) (hc : Code.wp P c Q0 a w) : K a w := h a w hc
end Go.Proofs.Ytjlifccaoncfcaa

/- DagHolds, its tail: two on one line have the elder one; either way round the same. -/
namespace Go.Proofs.Ytjlifccaoncfcaa
open Go Go.RowKit Go.Proofs
set_option synthInstance.maxSize 1000

def HoldAns (w : World) (e : Ending) (w' : World) : Prop := e = .returned (.bool true) ∧ RowKit.Below w.heap.size w w'
theorem two_good {l : List Cm} (hG : GoodC l) {i j : Nat} (hi : i < l.length) (hj : j < l.length) : twoE l (i : Int) (j : Int) = 0 :=
  twoE_zero.2 ⟨ancE_good hG (by omega) (by omega), ancE_good hG (by omega) (by omega)⟩
theorem SlI.natD {W : World} {ad : Option Addr} {m : List Nat} (h : SlI W ad (natI m)) {k : Nat} (hk : k < m.length) : ∃ b o, ad = some ⟨b, o, none⟩ ∧ W.cell? ⟨b, o + k, none⟩ = some (.int .i64 ((m.getD k 0 : Nat) : Int)) := by
  obtain ⟨b, o, e, h1⟩ := h.at (j := k) (by simpa [natI] using hk)
  refine ⟨b, o, e, h1.trans ?_⟩
  rw [List.getD_eq_getElem?_getD, List.getElem?_eq_getElem hk]
  simp [natI]
/-- Is and Bases of commits that are right -/
theorem is_good (F : DFace) {W : World} {ad : Option Addr} {ca : Nat} {l : List Cm} (hG : GoodC l) {i j : Nat} (hi : i < l.length) (hj : j < l.length) (hC : ComsOK W ad ca l) {q : Bool} (hq : q = true ↔ Up l j i) :
    Calls Try.prog 8 #[.slice ad l.length ca, .int .i64 (i : Int), .int .i64 (j : Int)] W fun e w' => e = .returned (.tuple #[.bool q, .nilIface]) ∧ RowKit.Below W.heap.size W w' := by
  refine (F.is W ad ca l i j hC).mono ?_
  rintro e w' ⟨q', rfl, h1, _, hb⟩
  rw [two_good hG hi hj] at h1 ⊢
  have h2 := h1 rfl
  simp only [Int.toNat_natCast] at h2
  have : q' = q := by rw [Bool.eq_iff_iff]; exact h2.trans hq.symm
  rw [this]
  exact ⟨rfl, hb⟩

set_option maxHeartbeats 32000000 in
set_option maxRecDepth 1000000 in
theorem dhTail (F : DFace) (u3 u4 u5 u6 u7 u8 u9 u10 u11 u12 u13 u14 u15 u16 u17 u18 u19 u21 u22 u23 u24 u25 u26 u27 u28 u29 u30 u31 u32 u33 u34 u35 u36 u37 u38 u39 u40 u41 u42 u43 u44 u45 u46 u47 u48 u49 u50 u51 u52 u53 u54 u55 u56 u57 u58 u59 u60 u61 u62 u63 u64 u65 u66 u67 u68 u69 u70 u71 u72 u73 u74 u75 u76 u77 u78 u79 u80 u81 u82 u83 u84 u85 u86 u87 u88 u89 u90 u91 u92 u93 u94 u95 u96 u97 u98 u99 u100 u101 u102 u103 u104 u105 u106 u107 u108 u109 u110 u111 u112 u113 u114 u115 u116 u117 u118 u119 u120 u121 u122 u123 u124 u125 u126 u127 u128 u129 u130 u131 u132 u133 u134 u135 u136 u137 u138 u139 u140 u141 u142 u143 u144 u145 u146 u147 u148 u149 u150 u151 u152 u153 u154 u155 u156 u157 u158 u159 u160 u161 u162 u163 u164 u165 u166 u167 u168 u169 u170 u171 u172 u173 u174 u175 u176 u177 u178 u179 u180 u181 u182 u183 u184 u185 u186 u187 u188 u189 u190 u191 u192 u193 u194 u195 u196 u197 u198 u199 u200 u201 u202 u203 u204 u205 u206 u207 u208 u209 u210 u211 u212 u213 u214 u215 u216 u217 u218 u219 u220 u221 u222 u223 u224 u225 u226 u227 u228 u229 u230 u231 u232 u233 u234 u235 u236 u237 u238 u239 u240 u241 u242 u243 u244 u245 u246 u247 u248 u249 u250 u251 u252 u253 u254 : Value) (ad : Option Addr) (ca : Nat) (l : List Cm) (i j : Nat) (zd : Option Addr) (zc : Nat) (z : List Nat) (w W : World)
    (hG : GoodC l) (hi : i < l.length) (hj : j < l.length) (hz : baseP l i j z) (lz : z.length ≤ 60) (hC : ∀ W', RowKit.Below w.heap.size w W' → ComsOK W' ad ca l) (hB : RowKit.Below w.heap.size w W) (sz : SlI W zd (natI z)) :
    Code.wp Try.prog (codeOf Try.f3.body 44) (bodyPost Try.prog Try.f3 (HoldAns w)) ⟨#[.slice ad l.length ca, .int .i64 (i : Int), .int .i64 (j : Int), u3, u4, u5, u6, u7, u8, u9, u10, u11, u12, u13, u14, u15, u16, u17, u18, u19, .slice zd z.length zc, u21, u22, u23, u24, u25, u26, u27, u28, u29, u30, u31, u32, u33, u34, u35, u36, u37, u38, u39, u40, u41, u42, u43, u44, u45, u46, u47, u48, u49, u50, u51, u52, u53, u54, u55, u56, u57, u58, u59, u60, u61, u62, u63, u64, u65, u66, u67, u68, u69, u70, u71, u72, u73, u74, u75, u76, u77, u78, u79, u80, u81, u82, u83, u84, u85, u86, u87, u88, u89, u90, u91, u92, u93, u94, u95, u96, u97, u98, u99, u100, u101, u102, u103, u104, u105, u106, u107, u108, u109, u110, u111, u112, u113, u114, u115, u116, u117, u118, u119, u120, u121, u122, u123, u124, u125, u126, u127, u128, u129, u130, u131, u132, u133, u134, u135, u136, u137, u138, u139, u140, u141, u142, u143, u144, u145, u146, u147, u148, u149, u150, u151, u152, u153, u154, u155, u156, u157, u158, u159, u160, u161, u162, u163, u164, u165, u166, u167, u168, u169, u170, u171, u172, u173, u174, u175, u176, u177, u178, u179, u180, u181, u182, u183, u184, u185, u186, u187, u188, u189, u190, u191, u192, u193, u194, u195, u196, u197, u198, u199, u200, u201, u202, u203, u204, u205, u206, u207, u208, u209, u210, u211, u212, u213, u214, u215, u216, u217, u218, u219, u220, u221, u222, u223, u224, u225, u226, u227, u228, u229, u230, u231, u232, u233, u234, u235, u236, u237, u238, u239, u240, u241, u242, u243, u244, u245, u246, u247, u248, u249, u250, u251, u252, u253, u254], []⟩ W := by
  have C1 := fun q hq => is_good F hG hi hj (hC _ hB) (q := q) hq
  have T2 := two_good hG hj hi
  have C2 := fun W' h => F.bases W' ad ca l j i h
  rw [T2] at C2
  simp only [Int.toNat_natCast] at C2
  have HC := hideO hC
  have HB := hideO hB
  have HZ := hideO (And.intro hz lz)
  have SZ := hideO sz
  have HG := hideO (And.intro hG hi)
  clear hG hi hj hC hB hz T2 sz
  conv => arg 2; whnf
  by_cases hu : Up l j i
  · have C3 := C1 true (by simpa using hu)
    obtain rfl : z = [i] := base_line HG.out.1 HG.out.2 HZ.out.1 hu
    clear C1 hu
    go_wp2_with fail
    refine C3.mono ?_
    rintro e w1 ⟨rfl, hb1⟩
    have HB1 := hideO (bstep HB.out hb1)
    have S1 := hideO (SZ.out.below hb1)
    obtain ⟨b0, o0, e0, c0⟩ := S1.out.natD (k := 0) (by simp)
    subst e0
    simp only [Nat.add_zero, List.getD_cons_zero] at c0
    clear C3 HB SZ hb1
    dsimp only
    go_wp2_with fail
    refine (C2 _ (HC.out _ HB1.out)).mono ?_
    rintro e w2 ⟨td, tc, t, rfl, t1, _, t3, hb2, t4, _, _⟩
    have HT : Hid (t = [i]) := base_turn HZ.out.1 (t1 rfl)
    have HB2 := hideO (bstep HB1.out hb2)
    have S2 := hideO (S1.out.below hb2)
    have T3 := hideO t3
    clear C2 HB1 S1 hb2 t1 t3 c0
    rw [errV_zero]
    dsimp only
    go_wp2_with fail
    refine (SameNat td (some ⟨b0, o0, none⟩) tc zc t [i] _ T3.out S2.out HT.out t4).mono ?_
    rintro e w3 ⟨rfl, hb3⟩
    have HB3 := hideO (bstep HB2.out hb3)
    clear hb3
    dsimp only
    go_wp2_with fail
    go_ret
    exact ⟨rfl, HB3.out⟩
  · have C3 := C1 false (by simpa using hu)
    clear C1 hu
    go_wp2_with fail
    refine C3.mono ?_
    rintro e w1 ⟨rfl, hb1⟩
    have HB1 := hideO (bstep HB.out hb1)
    have S1 := hideO (SZ.out.below hb1)
    clear C3 HB SZ hb1
    dsimp only
    go_wp2_with fail
    refine (C2 _ (HC.out _ HB1.out)).mono ?_
    rintro e w2 ⟨td, tc, t, rfl, t1, _, t3, hb2, t4, _, _⟩
    have HT : Hid (t = z) := base_turn HZ.out.1 (t1 rfl)
    have HB2 := hideO (bstep HB1.out hb2)
    have S2 := hideO (S1.out.below hb2)
    have T3 := hideO t3
    clear C2 HB1 S1 hb2 t1 t3
    rw [errV_zero]
    dsimp only
    go_wp2_with fail
    refine (SameNat td zd tc zc t z _ T3.out S2.out HT.out t4).mono ?_
    rintro e w3 ⟨rfl, hb3⟩
    have HB3 := hideO (bstep HB2.out hb3)
    clear hb3
    dsimp only
    go_wp2_with fail
    go_ret
    exact ⟨rfl, HB3.out⟩
end Go.Proofs.Ytjlifccaoncfcaa

/- stratalaw4.DagLine over a dag's face: the walk. -/
namespace Go.Proofs.Ytjlifccaoncfcaa
open Go Go.RowKit Go.Proofs
set_option synthInstance.maxSize 1000

theorem newC_cells (W : World) (p : Int) : ∀ (j : Nat) u, (newC W.heap.size)[j]? = some u → ((W.alloc (.cells #[.int .i64 p] 3)).alloc (.cells #[.slice (some ⟨W.heap.size, 0, none⟩) 1 1, .int .i64 1, .string ⟨#[]⟩] 25)).cell? ((⟨W.heap.size + 1, 0, none⟩ : Addr).add j) = some u := by
  intro j u hu
  have hj : j < 3 := by have := (List.getElem?_eq_some_iff.1 hu).1; simpa [newC] using this
  rw [Addr.add_lit]
  rcases (by omega : j = 0 ∨ j = 1 ∨ j = 2) with rfl | rfl | rfl
  all_goals
    simp [newC] at hu
    subst hu
    go_simp
theorem newC_one (g : Nat) : ∀ u ∈ newC g, u.oneCell' = true := by simp [newC, Value.oneCell']
theorem lineC_next {k : Nat} (h : 1 ≤ k) : lineC (k + 1) = lineC k ++ [oneC ((k : Int) - 1)] := by
  rw [lineC, if_neg (by omega)]
theorem lineC_ne {k : Nat} (h : 1 ≤ k) : lineC k ≠ [] := fun e => by have := congrArg List.length e; rw [lineC_len] at this; simp at this; omega
theorem fork_short {n a b : Nat} : ∀ c ∈ forkC n a b, c.1.length ≤ 2 ∧ c.2.2.length ≤ 24 := by
  have hl : ∀ k, ∀ c ∈ lineC k, c.1.length ≤ 2 ∧ c.2.2.length ≤ 24 := by
    intro k
    induction k with
    | zero => simp [lineC]
    | succ k ih =>
      intro c hc
      unfold lineC at hc
      rcases List.mem_append.1 hc with hc | hc
      · exact ih c hc
      · simp at hc
        subst hc
        split <;> simp [oneC]
  intro c hc
  unfold forkC at hc
  rcases List.mem_append.1 hc with hc | hc
  · rcases List.mem_append.1 hc with hc | hc
    · exact hl n c hc
    · simp at hc; subst hc; simp [oneC]
  · simp at hc; subst hc; simp [oneC]

set_option maxHeartbeats 32000000 in
set_option maxRecDepth 1000000 in
theorem dagLine_any (F : DFace) (n a b : Int) (w : World) :
    Calls Try.prog 4 #[.int .i64 n, .int .i64 a, .int .i64 b] w fun e w' => e = .returned (.bool true) ∧ RowKit.Below w.heap.size w w' := by
  by_cases h1 : n < 1
  · go_enter Try.func4, Try.ntmps4
    go_wp2_with fail
    go_ret
    exact ⟨rfl, RowKit.Below.refl _ w⟩
  by_cases h2 : n > 58
  · go_enter Try.func4, Try.ntmps4
    go_wp2_with fail
    go_ret
    exact ⟨rfl, RowKit.Below.refl _ w⟩
  by_cases h3 : a < 0
  · go_enter Try.func4, Try.ntmps4
    go_wp2_with fail
    go_ret
    exact ⟨rfl, RowKit.Below.refl _ w⟩
  by_cases h4 : a ≥ n
  · go_enter Try.func4, Try.ntmps4
    go_wp2_with fail
    go_ret
    exact ⟨rfl, RowKit.Below.refl _ w⟩
  by_cases h5 : b < 0
  · go_enter Try.func4, Try.ntmps4
    go_wp2_with fail
    go_ret
    exact ⟨rfl, RowKit.Below.refl _ w⟩
  by_cases h6 : b ≥ n
  · go_enter Try.func4, Try.ntmps4
    go_wp2_with fail
    go_ret
    exact ⟨rfl, RowKit.Below.refl _ w⟩
  obtain ⟨N, rfl⟩ : ∃ N : Nat, n = (N : Int) := ⟨n.toNat, by omega⟩
  obtain ⟨i, rfl⟩ : ∃ i : Nat, a = (i : Int) := ⟨a.toNat, by omega⟩
  obtain ⟨j, rfl⟩ : ∃ j : Nat, b = (j : Int) := ⟨b.toNat, by omega⟩
  obtain ⟨i0', hi0, hz0, hz1, hz2⟩ := info_parts infoC
  have hn58 : N ≤ 58 := by omega
  have hiN : i < N := by omega
  have hjN : j < N := by omega
  have hG := forkC_good hn58 hiN hjN
  have hlen := forkC_len N i j
  have HF := hideO (And.intro hn58 (And.intro hiN (And.intro hjN hG)))
  have C1 : Hid (∀ W ad ca, ComsOK W ad ca (forkC N i j) → Calls Try.prog 6 #[.slice ad (forkC N i j).length ca, .int .i64 (i : Int)] W fun e w' => ∃ xd xc, e = .returned (.tuple #[.slice xd (i + 1) xc, .nilIface]) ∧ RowKit.Below W.heap.size W w') := by
    intro W ad ca h
    refine (F.anc W ad ca _ i h).mono ?_
    rintro e w' ⟨xd, xc, x, rfl, x1, _, _, hb, _, _, _⟩
    rw [ancE_good hG (by omega) (by rw [hlen]; omega)] at x1 ⊢
    have hx := x1 rfl
    simp only [Int.toNat_natCast] at hx
    rw [line_up hn58 hiN hjN hx]
    exact ⟨xd, xc, rfl, hb⟩
  have C2 : Hid (∀ W ad ca, ComsOK W ad ca (forkC N i j) → Calls Try.prog 5 #[.slice ad (forkC N i j).length ca, .int .i64 (i : Int), .int .i64 (j : Int)] W fun e w' => ∃ b0 o0 xc, e = .returned (.tuple #[.slice (some ⟨b0, o0, none⟩) 1 xc, .nilIface]) ∧ w'.cell? ⟨b0, o0, none⟩ = some (.int .i64 (lowN i j : Int)) ∧ RowKit.Below W.heap.size W w') := by
    intro W ad ca h
    refine (F.bases W ad ca _ i j h).mono ?_
    rintro e w' ⟨xd, xc, x, rfl, x1, _, x3, hb, _, _, _⟩
    rw [two_good hG (by rw [hlen]; omega) (by rw [hlen]; omega)] at x1 ⊢
    have hx := x1 rfl
    simp only [Int.toNat_natCast] at hx
    obtain rfl := line_base hn58 hiN hjN hx
    obtain ⟨b0, o0, rfl, c0⟩ := x3.natD (k := 0) (by simp)
    exact ⟨b0, o0, xc, rfl, by simpa using c0, hb⟩
  have C3 : Hid (∀ W ad ca, ComsOK W ad ca (forkC N i j) → Calls Try.prog 5 #[.slice ad (forkC N i j).length ca, .int .i64 (N : Int), .int .i64 ((N : Int) + 1)] W fun e w' => ∃ b0 o0 xc, e = .returned (.tuple #[.slice (some ⟨b0, o0, none⟩) 1 xc, .nilIface]) ∧ w'.cell? ⟨b0, o0, none⟩ = some (.int .i64 (lowN i j : Int)) ∧ RowKit.Below W.heap.size W w') := by
    intro W ad ca h
    have hc : ((N : Int) + 1) = ((N + 1 : Nat) : Int) := by omega
    rw [hc]
    refine (F.bases W ad ca _ N ((N + 1 : Nat) : Int) h).mono ?_
    rintro e w' ⟨xd, xc, x, rfl, x1, _, x3, hb, _, _, _⟩
    rw [two_good hG (by rw [hlen]; omega) (by rw [hlen]; omega)] at x1 ⊢
    have hx := x1 rfl
    simp only [Int.toNat_natCast] at hx
    obtain rfl := fork_base hn58 hiN hjN hx
    obtain ⟨b0, o0, rfl, c0⟩ := x3.natD (k := 0) (by simp)
    exact ⟨b0, o0, xc, rfl, by simpa using c0, hb⟩
  clear hG hlen
  go_enter Try.func4, Try.ntmps4
  go_wp2_with fail
  go_loopw [7, 8] (fun v kk wr => ∃ (k : Nat) (cs : List Value), 1 ≤ k ∧ k ≤ N ∧ kk = .int .i64 k ∧ Hid (LineW wr w.heap.size v (lineC k) cs) ∧ Hid (RowKit.Below w.heap.size w wr)) (fun _ kk wr => N - (intOf kk).toNat)
  case atStart => exact ⟨1, _, Nat.le_refl _, by omega, rfl, line_start w, balloc w _⟩
  case round =>
    obtain ⟨k, cs, hk1, hkN, rfl, hL, hbr⟩ := hrel
    by_cases hlt : k < N
    · have k1 : (k : Int) < (N : Int) := by omega
      have ho := hideO ((hL.out.1.alloc (.cells #[.int .i64 ((k : Int) - 1)] 3)).alloc (.cells #[.slice (some ⟨wr.heap.size, 0, none⟩) 1 1, .int .i64 1, .string ⟨#[]⟩] 25))
      have hsz := hbr.out.size
      have hk60 : (lineC k).length ≤ 60 := by rw [lineC_len]; omega
      go_wp2_with (at_builtin; refine wpList_append_own _ rfl _ _ 22 rfl w.heap.size 25 i0' (.agg #[.slice none 0 0, .int .i64 0, .string ⟨#[]⟩]) 3 48 Try.underlying22 hi0 hz0 hz1 hz2 rfl (by decide) _ _ _ rfl ho.out ⟨wr.heap.size + 1, 0, none⟩ 1 1 (newC wr.heap.size) rfl rfl (newC_cells wr _) (newC_one _) (by unfold maxLen; omega) (by omega) (by simp; omega) ?_)
      intro v' w7 h2' h3' _
      have hL7 : Hid (LineW w7 w.heap.size v' (lineC (k + 1)) (cs ++ newC wr.heap.size)) := by
        show LineW _ _ _ _ _
        rw [lineC_next hk1]
        exact line_next hL.out (lineC_ne hk1) h2' h3'
      have hb7 : Hid (RowKit.Below w.heap.size w w7) := (bstep (bstep hbr.out (balloc wr _)) (balloc _ _)).grown h3' (by simp; omega) (fun q hq => (hL.out.1.lt q hq).1)
      clear h2' h3' ho
      go_wp2_with fail
      go_roundw
      case rel => exact ⟨k + 1, _, by omega, by omega, by go_num, hL7, hb7⟩
      case measure => simp [intOf]; omega
    · obtain rfl : k = N := by omega
      have ho := hideO ((hL.out.1.alloc (.cells #[.int .i64 (i : Int)] 3)).alloc (.cells #[.slice (some ⟨wr.heap.size, 0, none⟩) 1 1, .int .i64 1, .string ⟨#[]⟩] 25))
      have hsz := hbr.out.size
      have hk60 : (lineC k).length ≤ 60 := by rw [lineC_len]; omega
      go_wp2_with (at_builtin; refine wpList_append_own _ rfl _ _ 22 rfl w.heap.size 25 i0' (.agg #[.slice none 0 0, .int .i64 0, .string ⟨#[]⟩]) 3 48 Try.underlying22 hi0 hz0 hz1 hz2 rfl (by decide) _ _ _ rfl ho.out ⟨wr.heap.size + 1, 0, none⟩ 1 1 (newC wr.heap.size) rfl rfl (newC_cells wr _) (newC_one _) (by unfold maxLen; omega) (by omega) (by simp; omega) ?_)
      intro v1 w1 h2' h3' _
      have hL1 := hideO (line_next hL.out (lineC_ne hk1) h2' h3')
      have hb1 : Hid (RowKit.Below w.heap.size w w1) := (bstep (bstep hbr.out (balloc wr _)) (balloc _ _)).grown h3' (by simp; omega) (fun q hq => (hL.out.1.lt q hq).1)
      have hs1 := hb1.out.size
      have hl1 : (lineC k ++ [oneC (i : Int)]).length = k + 1 := by rw [List.length_append, lineC_len]; rfl
      have hk61 : (lineC k ++ [oneC (i : Int)]).length ≤ 61 := by rw [hl1]; omega
      clear h2' h3' ho hL hbr
      have ho1 := hideO ((hL1.out.1.alloc (.cells #[.int .i64 (j : Int)] 3)).alloc (.cells #[.slice (some ⟨w1.heap.size, 0, none⟩) 1 1, .int .i64 1, .string ⟨#[]⟩] 25))
      go_wp2_with (at_builtin; refine wpList_append_own _ rfl _ _ 22 rfl w.heap.size 25 i0' (.agg #[.slice none 0 0, .int .i64 0, .string ⟨#[]⟩]) 3 48 Try.underlying22 hi0 hz0 hz1 hz2 rfl (by decide) _ _ _ rfl ho1.out ⟨w1.heap.size + 1, 0, none⟩ 1 1 (newC w1.heap.size) rfl rfl (newC_cells w1 _) (newC_one _) (by unfold maxLen; omega) (by omega) (by simp; omega) ?_)
      intro v2 w2 h2' h3' _
      have hL2 : LineW w2 w.heap.size v2 (forkC k i j) _ := line_next hL1.out (fun e => by rw [e] at hl1; simp at hl1) (by rw [hl1, List.append_assoc]; exact h2') h3'
      have hb2 : Hid (RowKit.Below w.heap.size w w2) := (bstep (bstep hb1.out (balloc w1 _)) (balloc _ _)).grown h3' (by simp; omega) (fun q hq => (hL1.out.1.lt q hq).1)
      obtain ⟨ad, ca, rfl, hok⟩ := line_ok hL2 (fun e => by have := forkC_len k i j; rw [e] at this; simp at this) (by rw [forkC_len]; omega) fork_short
      have hok := hideO hok
      clear h2' h3' ho1 hL1 hb1 hL2
      by_cases hji : j < i
      · have hlow : lowN i j = j := if_pos hji
        have hji' : (j : Int) < (i : Int) := by omega
        rw [hlow] at C2 C3
        clear hlow
        go_wp2_with fail
        refine (C1.out _ ad ca hok.out).mono ?_
        rintro e w3 ⟨xd, xc, rfl, hb3⟩
        have hB3 := hideO (bstep hb2.out hb3)
        have hok3 := hideO (hok.out.below hb3)
        clear hb3 hb2 hok C1
        dsimp only
        go_wp2_with fail
        refine (C2.out _ ad ca hok3.out).mono ?_
        rintro e w4 ⟨b0, o0, yc, rfl, c4, hb4⟩
        have hB4 := hideO (bstep hB3.out hb4)
        have hok4 := hideO (hok3.out.below hb4)
        clear hb4 hB3 hok3 C2
        dsimp only
        go_wp2_with fail
        refine (C3.out _ ad ca hok4.out).mono ?_
        rintro e w5 ⟨b1, o1, zc, rfl, c5, hb5⟩
        have hB5 := hideO (bstep hB4.out hb5)
        have c6 := (hb5.cell (World.block_lt_of_cell? w4 _ c4)).trans c4
        clear hb5 hB4 hok4 C3 c4
        dsimp only
        go_wp2_with fail
        go_ret
        exact ⟨by simp, hB5.out⟩
      · have hlow : lowN i j = i := if_neg hji
        have hji' : ¬ (j : Int) < (i : Int) := by omega
        rw [hlow] at C2 C3
        clear hlow
        go_wp2_with fail
        refine (C1.out _ ad ca hok.out).mono ?_
        rintro e w3 ⟨xd, xc, rfl, hb3⟩
        have hB3 := hideO (bstep hb2.out hb3)
        have hok3 := hideO (hok.out.below hb3)
        clear hb3 hb2 hok C1
        dsimp only
        go_wp2_with fail
        refine (C2.out _ ad ca hok3.out).mono ?_
        rintro e w4 ⟨b0, o0, yc, rfl, c4, hb4⟩
        have hB4 := hideO (bstep hB3.out hb4)
        have hok4 := hideO (hok3.out.below hb4)
        clear hb4 hB3 hok3 C2
        dsimp only
        go_wp2_with fail
        refine (C3.out _ ad ca hok4.out).mono ?_
        rintro e w5 ⟨b1, o1, zc, rfl, c5, hb5⟩
        have hB5 := hideO (bstep hB4.out hb5)
        have c6 := (hb5.cell (World.block_lt_of_cell? w4 _ c4)).trans c4
        clear hb5 hB4 hok4 C3 c4
        dsimp only
        go_wp2_with fail
        go_ret
        exact ⟨by simp, hB5.out⟩
end Go.Proofs.Ytjlifccaoncfcaa
