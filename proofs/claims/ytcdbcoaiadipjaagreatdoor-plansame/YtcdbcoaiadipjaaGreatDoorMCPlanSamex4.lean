import Derived.Test.YtcdbcoaiadipjaaGreatDoorMA0x4
import Derived.Test.YtcdbcoaiadipjaaGreatDoorMCPlanSamex3
import Derived.Test.YtcdbcoaiadipjaaGreatDoorMA0x5
import Derived.Test.YtcdbcoaiadipjaaGreatDoorMA0x10

/- What SolveHolds says, in plain lists. -/
namespace Go.Proofs.YtcdbcoaiadipjaaGreatDoor
open Go Go.RowKit Go.Proofs
set_option synthInstance.maxSize 1000

def distQ (q : Qu) : Qu := { plainQ q with dist := true }
def twoQ (q : Qu) : Qu := { plainQ q with lim := 2 }
structure HoldsF (S : List Tr) (q : Qu) (all : List (List Tm)) : Prop where
  naive : naiveI S (plainQ q) = all.length
  le : all.length ≤ 500
  v8 : q.vars.length ≤ 8
  p6 : q.parts.length ≤ 6
  len : ∀ r ∈ all, r.length = q.vars.length
  fit : ∀ r ∈ all, ∀ x ∈ r, x.2.1.length ≤ maxLen ∧ x.2.2.length ≤ maxLen
  kind : ∀ r ∈ all, ∀ x ∈ r, x.1 ≠ -1
  bind : ∀ r ∈ all, ∀ p ∈ q.parts, bindN q.vars r p = 0 ∧ matchN S (bindB q.vars r p) = 0 ∧ 1 ≤ CountAns S (bindB q.vars r p) ∧ fitPt (bindB q.vars r p)
  ord : q.order = [] → ∀ i (h : i + 1 < all.length), cmpR (all[i]'(by omega)) all[i + 1] ≤ 0
  dN : solveN S (distQ q) = 0
  dL : (solveL S (distQ q)).length ≤ all.length
  dO : (solveL S (distQ q)).Nodup
  dR : ∀ r ∈ solveL S (distQ q), r.length = q.vars.length
  lN : solveN S (twoQ q) = 0
  lL : solveL S (twoQ q) = all.take 2
theorem solveN_of {S : List Tr} {q q' : Qu} (ha : askN q' = askN q) (hp : q'.parts = q.parts) : solveN S q' = solveN S q := by
  unfold solveN
  rw [ha, hp]
theorem bindS_fit {vars : List (List UInt8)} {r : List Tm} {s : Sl} (hs : fitSl s) (hr : ∀ x ∈ r, x.2.1.length ≤ maxLen ∧ x.2.2.length ≤ maxLen) : fitSl (bindS vars r s) := by
  cases hb : boundT vars r s.1 with
  | none => rw [bindS_none hb]; exact hs
  | some x =>
    rw [bindS_some hb]
    exact ⟨Nat.zero_le _, hr x (bound_mem hb)⟩
theorem bindB_fit {vars : List (List UInt8)} {r : List Tm} {p : Pt} (hp : fitPt p) (hr : ∀ x ∈ r, x.2.1.length ≤ maxLen ∧ x.2.2.length ≤ maxLen) (h0 : bindN vars r p = 0) : fitPt (bindB vars r p) := by
  unfold bindB
  rw [if_pos h0]
  exact ⟨bindS_fit hp.1 hr, bindS_fit hp.2.1 hr, bindS_fit hp.2.2 hr⟩
theorem holdsF {S : List Tr} {q : Qu} (hfit : ∀ x ∈ S, fitTr x) (hq : FitQ q) (h : solveN S (plainQ q) = 0) : HoldsF S q (solveL S (plainQ q)) := by
  obtain ⟨hS, g, vars, rows, ha⟩ := solve_good h
  have ha' : answersL S q.parts = some (vars, rows) := ha
  obtain ⟨ok, h500⟩ := answersL_ok ha'
  have eL : solveL S (plainQ q) = sortR (ltQ (plainQ q)) false (rows.map (projR vars q.vars)) := by
    rw [solve_rows h ha]
    rfl
  have hmem : ∀ r, r ∈ solveL S (plainQ q) ↔ r ∈ rows.map (projR vars q.vars) := fun r => by rw [eL]; exact sort_mem
  have hdA : askN (distQ q) = askN (plainQ q) := ask_dist (plainQ q) true
  have hdN : solveN S (distQ q) = 0 := by rw [solveN_of (q := plainQ q) hdA rfl]; exact h
  have haL : askN (twoQ q) = askN (plainQ q) := ask_lim (q := plainQ q) (n := 2) (by simp [plainQ]) (by omega)
  have hlN : solveN S (twoQ q) = 0 := by rw [solveN_of (q := plainQ q) haL rfl]; exact h
  have edL : solveL S (distQ q) = sortR (ltQ (plainQ q)) true (rows.map (projR vars q.vars)) := by
    rw [solve_rows (q := distQ q) hdN ha]
    rfl
  have elL : solveL S (twoQ q) = (sortR (ltQ (plainQ q)) false (rows.map (projR vars q.vars))).take 2 := by
    rw [solve_rows (q := twoQ q) hlN ha]
    rfl
  have hlen : ∀ r ∈ rows.map (projR vars q.vars), r.length = q.vars.length := proj_len vars q.vars rows
  have hz : (0 : Nat) ≤ maxLen := Nat.zero_le _
  have hft : ∀ r ∈ rows.map (projR vars q.vars), ∀ x ∈ r, x.2.1.length ≤ maxLen ∧ x.2.2.length ≤ maxLen := fun r hr x hx => by
    obtain ⟨r', hr', rfl⟩ := List.mem_map.1 hr
    obtain ⟨v, hv, rfl⟩ := List.mem_map.1 hx
    cases hb : boundT vars r' v with
    | none => exact ⟨hz, hz⟩
    | some y =>
      obtain ⟨t, ht, hx'⟩ := ok.from_ r' hr' y (bound_mem hb)
      obtain ⟨f1, f2, f3⟩ := hfit t ht
      rcases hx' with rfl | rfl | rfl
      · exact f1
      · exact f2
      · exact f3
  refine ⟨?_, ?_, ?_, g.six, ?_, ?_, ?_, ?_, ?_, hdN, ?_, ?_, ?_, hlN, ?_⟩
  · rw [eL, sort_len, List.length_map]
    unfold naiveI
    rw [if_pos h, ha]
  · rw [eL, sort_len, List.length_map]; exact h500
  · have := few_le q.vars (partsV [] q.parts) g.once (fun v hv => g.within v hv)
    have := g.eight
    exact Nat.le_trans ‹_› this
  · exact fun r hr => hlen r ((hmem r).1 hr)
  · exact fun r hr => hft r ((hmem r).1 hr)
  · intro r hr x hx
    obtain ⟨p, hp⟩ := List.exists_mem_of_ne_nil _ g.some
    obtain ⟨_, _, _, hg⟩ := answer_there hS g ha ((hmem r).1 hr) hp
    rcases (check_zero (hg x hx)).1 with h | h | h <;> rw [h] <;> decide
  · intro r hr p hp
    obtain ⟨b1', b2, b3, _⟩ := answer_there hS g ha ((hmem r).1 hr) hp
    have b1 : bindN q.vars r p = 0 := b1'
    have e1 : bindB q.vars r p = bindP q.vars r p := by unfold bindB; rw [if_pos b1]
    have hm0 : matchN S (bindP q.vars r p) = 0 := by unfold matchN; rw [if_pos (sortedN_set.2 hS)]; exact b2
    refine ⟨b1, ?_, ?_, bindB_fit (hq.pt p hp) (hft r ((hmem r).1 hr)) b1⟩
    · rw [e1]; exact hm0
    · rw [e1]
      unfold CountAns
      rw [if_pos hm0]
      exact b3
  · intro ho i hi
    have hs : SortedR (ltQ (plainQ q)) (solveL S (plainQ q)) := by rw [eL]; exact sort_sorted (plainQ q) false
    have := sorted_next hs hi
    rw [lt_none g ho] at this
    exact less_cmp _ _ this
  · rw [edL]
    have h2 : (solveL S (plainQ q)).length = (rows.map (projR vars q.vars)).length := by rw [eL, sort_len]
    rw [h2]
    exact once_le _ _ (sort_once _ _) fun x hx => sort_mem.1 hx
  · rw [edL]; exact sort_once _ _
  · intro r hr
    rw [edL] at hr
    exact hlen r (sort_mem.1 hr)
  · rw [elL, eL]
/-! ### compared term by term -/
theorem cmpR_next {a b : List Tm} {k : Nat} (ha : k < a.length) (hb : k < b.length) (h : cmpR (a.take k) (b.take k) = 0) : cmpR (a.take (k + 1)) (b.take (k + 1)) = cmpTm a[k] b[k] := by
  induction a generalizing b k with
  | nil => simp at ha
  | cons x a ih =>
    cases b with
    | nil => simp at hb
    | cons y b =>
      cases k with
      | zero =>
        simp only [List.take_succ_cons, List.take_zero, cmpR, List.getElem_cons_zero]
        split
        · rename_i e; exact e.symm
        · rfl
      | succ k =>
        simp only [List.take_succ_cons, cmpR, List.getElem_cons_succ] at h ⊢
        split at h
        · rename_i e
          rw [if_pos e]
          exact ih (by simpa using ha) (by simpa using hb) h
        · rename_i e; exact absurd h e
theorem cmpR_stop : ∀ (a b : List Tm) (k : Nat), cmpR (a.take k) (b.take k) ≠ 0 → cmpR a b = cmpR (a.take k) (b.take k)
  | [], b, k, h => by simp [cmpR] at h
  | x :: a, [], k, h => by cases k <;> simp [cmpR] at h
  | x :: a, y :: b, 0, h => by simp [cmpR] at h
  | x :: a, y :: b, k + 1, h => by
    simp only [List.take_succ_cons, cmpR] at h ⊢
    split at h
    · rename_i e
      rw [if_pos e, if_pos e]
      exact cmpR_stop a b k h
    · rename_i e
      rw [if_neg e, if_neg e]
theorem cmpR_le {a b : List Tm} (h : cmpR a b ≤ 0) (k : Nat) : cmpR (a.take k) (b.take k) ≤ 0 := by
  by_cases e : cmpR (a.take k) (b.take k) = 0
  · omega
  · rw [← cmpR_stop a b k e]; exact h
/-! ### the closed fact -/
def factT : Tr := ((1, [97], []), (1, [98], []), (1, [99], []))
def factP : Pt := (([120], tmZero), ([], (1, [98], [])), ([], (1, [99], [])))
def factQ : Qu := ⟨[[120]], [factP], [], false, false, -1⟩
set_option maxRecDepth 100000 in
theorem factN : solveN [factT] factQ = 0 := by decide +kernel
set_option maxRecDepth 100000 in
theorem factL : solveL [factT] factQ = [[(1, [97], [])]] := by decide +kernel
theorem factFit : FitQ factQ := by
  refine ⟨by simp [factQ], by simp [factQ], ?_, ?_, by simp [factQ], by decide⟩
  · intro v hv
    simp [factQ] at hv
    subst hv
    simp; unfold maxLen; omega
  · intro p hp
    simp [factQ] at hp
    subst hp
    refine ⟨⟨?_, ?_, ?_⟩, ⟨?_, ?_, ?_⟩, ⟨?_, ?_, ?_⟩⟩ <;> (simp [factP, tmZero]; try (unfold maxLen; omega))
theorem factTr : ∀ x ∈ [factT], fitTr x := fun x hx => by
  simp at hx
  subst hx
  refine ⟨⟨?_, ?_⟩, ⟨?_, ?_⟩, ⟨?_, ?_⟩⟩ <;> (simp [factT]; try (unfold maxLen; omega))
end Go.Proofs.YtcdbcoaiadipjaaGreatDoor

/- stratalaw2.PlanSame: the walk. -/
namespace Go.Proofs.YtcdbcoaiadipjaaGreatDoor
open Go Go.RowKit Go.Proofs Go.Maps
set_option synthInstance.maxSize 1000
attribute [local go_sem] eql_errV neq_errV guard_errV

set_option maxRecDepth 100000 in
theorem factC : costI [factT] factQ = 1 := by decide +kernel
theorem swap_fit2 {q : Qu} {o : List Int} (h : FitQ q) (hp : (swapQ q o).parts.Perm q.parts) : FitQ (swapQ q o) :=
  ⟨h.vl, by rw [hp.length_eq]; exact h.pl, h.vt, fun p hp' => h.pt p (hp.mem_iff.1 hp'), h.ord, h.lim⟩
theorem sameErr4 (m : Int) (w : World) (hg : errVar w) : Calls Tryz.prog 10 #[errV m, .int .i64 4] w fun r w' => r = .returned (.bool (m == 4)) ∧ RowKit.Below w.heap.size w w' := SameError_any m 4 w hg
theorem costFact (xd vd pd : Option Addr) (xc vc pc : Nat) (w : World) (hx : SlT w xd [factT]) (hv : SlW w vd [[120]]) (hp : SlPt w pd [factP]) (hc : 1 ≤ vc) :
    Calls Tryz.prog 17 #[.slice xd 1 xc, .agg #[.slice vd 1 vc, .slice pd 1 pc, .string ⟨#[]⟩, .bool false, .bool false, .int .i64 (-1)]] w fun e w' => e = .returned (.tuple #[.int .i64 1, .nilIface]) ∧ RowKit.Below w.heap.size w w' := by
  have := Cost_any xd xc [factT] factQ vd pd vc pc w hx factTr (by simp) ⟨hv, hp⟩ factFit hc
  rw [factC, factN] at this
  exact this
/-- what a swapped question's answers are told against -/
theorem same_swap {S : List Tr} {q : Qu} {o : List Int} (hz : solveN S q = 0) (ho : o.Perm (placesI q.parts.length)) : (solveN S (swapQ q o) = 0 → solveL S (swapQ q o) = solveL S q) ∧ (solveN S (swapQ q o) = 0 ∨ solveN S (swapQ q o) = 4) := by
  obtain ⟨hS, hgq, v, r, e⟩ := solve_good hz
  have hp := swap_perm ho
  have ha : askN q = 0 := by
    unfold solveN at hz
    rw [if_neg (fun k => k (sortedN_set.2 hS))] at hz
    by_cases h : askN q = 0
    · exact h
    · rw [if_pos h] at hz; exact absurd hz h
  have ha2 := ask_swap ha hp
  refine ⟨fun h => solve_perm hz h (fun p => hp.mem_iff.symm) rfl rfl rfl rfl rfl, ?_⟩
  unfold solveN
  rw [if_neg (fun k => k (sortedN_set.2 hS)), if_neg (fun k => k ha2)]
  split
  · exact Or.inr rfl
  · exact Or.inl rfl
theorem solve_ask {S : List Tr} {q : Qu} (hz : solveN S q = 0) : askN q = 0 ∧ orderN S q = 0 := by
  obtain ⟨hS, hgq, v, r, e⟩ := solve_good hz
  have hs := sortedN_set.2 hS
  have ha : askN q = 0 := by
    unfold solveN at hz
    rw [if_neg (fun k => k hs)] at hz
    by_cases h : askN q = 0
    · exact h
    · rw [if_pos h] at hz; exact absurd hz h
  exact ⟨ha, by rw [orderN_a hs, ha]⟩
theorem solve_lens {S : List Tr} {q : Qu} (hz : solveN S q = 0) : (solveL S q).length ≤ 500 ∧ ∀ r ∈ solveL S q, r.length ≤ 100000 := by
  obtain ⟨hS, hgq, vars, rows, ha⟩ := solve_good hz
  have e := solve_rows hz ha
  have hv8 : q.vars.length ≤ 100000 := by
    have := fewP_le q.vars (partsV [] q.parts) hgq.once (fun v hv => hgq.within v hv)
    have := hgq.eight
    omega
  have hsub : ∀ x ∈ solveL S q, x ∈ sortR (ltQ q) q.dist (rows.map (projR vars q.vars)) := fun x hx => by
    rw [e] at hx
    unfold limR at hx
    split at hx
    · exact List.mem_of_mem_take hx
    · exact hx
  have hll : (solveL S q).length ≤ (sortR (ltQ q) q.dist (rows.map (projR vars q.vars))).length := by
    rw [e]
    unfold limR
    split
    · rw [List.length_take]; omega
    · exact Nat.le_refl _
  have hsl : (sortR (ltQ q) q.dist (rows.map (projR vars q.vars))).length ≤ rows.length := by
    cases hd : q.dist with
    | false => rw [sort_len]; simp
    | true =>
      refine Nat.le_trans (once_le _ _ (sort_once _ _) fun x hx => sort_mem.1 hx) ?_
      simp
  have h5 := (answersL_ok ha).2
  refine ⟨by omega, fun r hr => ?_⟩
  have hm := sort_mem.1 (hsub r hr)
  rw [proj_len vars q.vars rows r hm]
  exact hv8
theorem slT_one {w : World} {b : Nat} {t : Tr} (h : ∀ j v, (encTr t)[j]? = some v → w.cell? ⟨b, j, none⟩ = some v) : SlT w (some ⟨b, 0, none⟩) [t] := fun _ => ⟨b, 0, rfl, fun j v hj => by rw [Nat.zero_add]; exact h j v (by simpa [cellsT] using hj)⟩
set_option maxHeartbeats 16000000 in
set_option maxRecDepth 1000000 in
theorem planSame_any (ad vd pd od : Option Addr) (ca vc pc oc : Nat) (l : List Tr) (q : Qu) (o : List Int) (w : World) (hg : errVar w) (h : SlT w ad l) (hfit : ∀ x ∈ l, fitTr x) (hn : l.length ≤ 9223372036854775807) (hq : QuIn w q vd pd) (hf : FitQ q) (hvc : q.vars.length ≤ vc) (ho : SlI w od o) (hol : o.length ≤ 9223372036854775807) :
    Calls Tryz.prog 4 #[.slice ad l.length ca, valQ q vd vc pd pc, .slice od o.length oc] w fun e w' => e = .returned (.bool true) ∧ RowKit.Below w.heap.size w w' := by
  have HSo := hideE (fun W (hb : RowKit.Below w.heap.size w W) => Solve_any ad ca l q vd pd vc pc W (h.below hb) hfit hn (hq.below hb) hf hvc)
  have HOr := hideE (fun W (hb : RowKit.Below w.heap.size w W) => Order_any ad ca l q vd pd vc pc W (h.below hb) hfit hn (hq.below hb) hf hvc)
  have HSw := hideE (fun W (hb : RowKit.Below w.heap.size w W) (ud : Option Addr) (uc : Nat) (u : List Int) (hu : SlI W ud u) (hl : u.length ≤ 9223372036854775807) => Swap_any q vd pd vc pc ud uc u W (hq.below hb) hf hvc hu hl)
  have HS2 := hideE (fun W (hb : RowKit.Below w.heap.size w W) (u : List Int) (ud' pd' : Option Addr) (uc' pc' : Nat) (hQ : QuIn W (swapQ q u) ud' pd') (hF : FitQ (swapQ q u)) (hv : q.vars.length ≤ uc') => Solve_any ad ca l (swapQ q u) ud' pd' uc' pc' W (h.below hb) hfit hn hQ hF hv)
  have Hg := hideE hg
  have Ho := hideE ho
  have Hf := hideE hf
  have hboxQ := hideE (boxQ_new w q vd pd vc pc)
  clear h hfit hn hq hvc hg ho hf
  unfold valQ
  go_enter Tryz.func4, Tryz.ntmps4
  go_wp2_with fail
  obtain ⟨WA, hWA⟩ : ∃ W, W = w.alloc (.cells #[.slice vd q.vars.length vc, .slice pd q.parts.length pc, .string ⟨q.order.toArray⟩, .bool q.down, .bool q.dist, .int .i64 q.lim] 26) := ⟨_, rfl⟩
  obtain ⟨W1, hW1⟩ : ∃ W, W = (WA.alloc (.cells #[.int .i64 1, .string ⟨#[97]⟩, .string ⟨#[]⟩, .int .i64 1, .string ⟨#[98]⟩, .string ⟨#[]⟩, .int .i64 1, .string ⟨#[99]⟩, .string ⟨#[]⟩] 58)).alloc (.cells #[.string ⟨#[120]⟩] 9) := ⟨_, rfl⟩
  have zA : WA.heap.size = w.heap.size + 1 := by rw [hWA]; simp
  have z1 : W1.heap.size = w.heap.size + 1 + 1 + 1 := by rw [hW1]; simp [zA]
  obtain ⟨W2, hW2⟩ : ∃ W, W = (W1.alloc (.cells #[.string ⟨#[120]⟩, .int .i64 0, .string ⟨#[]⟩, .string ⟨#[]⟩, .string ⟨#[]⟩, .int .i64 1, .string ⟨#[98]⟩, .string ⟨#[]⟩, .string ⟨#[]⟩, .int .i64 1, .string ⟨#[99]⟩, .string ⟨#[]⟩] 32)).alloc (.cells #[.slice (some ⟨w.heap.size + 1 + 1, 0, none⟩) 1 1, .slice (some ⟨w.heap.size + 1 + 1 + 1, 0, none⟩) 1 1, .string ⟨#[]⟩, .bool false, .bool false, .int .i64 (-1)] 26) := ⟨_, rfl⟩
  have z2 : W2.heap.size = w.heap.size + 1 + 1 + 1 + 1 + 1 := by rw [hW2]; simp [z1]
  obtain ⟨W3, hW3⟩ : ∃ W, W = W2.alloc (.cells #[.int .i64 1, .string ⟨#[97]⟩, .string ⟨#[]⟩, .int .i64 1, .string ⟨#[98]⟩, .string ⟨#[]⟩, .int .i64 1, .string ⟨#[99]⟩, .string ⟨#[]⟩] 58) := ⟨_, rfl⟩
  have bA : RowKit.Below w.heap.size w WA := by rw [hWA]; exact balloc _ _
  have b1 : RowKit.Below WA.heap.size WA W1 := by rw [hW1]; exact bstep (balloc _ _) (balloc _ _)
  have b2 : RowKit.Below W1.heap.size W1 W2 := by rw [hW2]; exact bstep (balloc _ _) (balloc _ _)
  have b3 : RowKit.Below W2.heap.size W2 W3 := by rw [hW3]; exact balloc _ _
  have hT : SlT W3 (some ⟨w.heap.size + 1 + 1 + 1 + 1 + 1, 0, none⟩) [factT] := by
    rw [← z2, hW3]
    refine slT_one fun j v hj => ?_
    have h9 : j < 9 := (List.getElem?_eq_some_iff.1 hj).1
    rcases (by omega : j = 0 ∨ j = 1 ∨ j = 2 ∨ j = 3 ∨ j = 4 ∨ j = 5 ∨ j = 6 ∨ j = 7 ∨ j = 8) with rfl | rfl | rfl | rfl | rfl | rfl | rfl | rfl | rfl <;> (simp [encTr, factT] at hj; subst hj; go_simp)
  have hV1 : SlW W1 (some ⟨w.heap.size + 1 + 1, 0, none⟩) [[120]] := fun _ => ⟨_, 0, rfl, fun j hj => by
    obtain rfl : j = 0 := by simpa using hj
    rw [hW1, ← zA]
    have := World.size_alloc WA (.cells #[.int .i64 1, .string ⟨#[97]⟩, .string ⟨#[]⟩, .int .i64 1, .string ⟨#[98]⟩, .string ⟨#[]⟩, .int .i64 1, .string ⟨#[99]⟩, .string ⟨#[]⟩] 58)
    rw [← this]
    go_simp
    rfl⟩
  have hP2 : SlPt W2 (some ⟨w.heap.size + 1 + 1 + 1, 0, none⟩) [factP] := by
    rw [← z1, hW2]
    refine SlPt.below ?_ (balloc _ _)
    have hp0 : PatAt (W1.alloc (.cells (encPt factP).toArray 32)) W1.heap.size factP := patBox W1 factP 32
    exact fun _ => ⟨_, 0, rfl, fun j v hj => by rw [Nat.zero_add]; exact hp0 j v (by simpa [cellsPt] using hj)⟩
  have hCost := costFact (some ⟨w.heap.size + 1 + 1 + 1 + 1 + 1, 0, none⟩) (some ⟨w.heap.size + 1 + 1, 0, none⟩) (some ⟨w.heap.size + 1 + 1 + 1, 0, none⟩) 1 1 1 W3 hT ((hV1.below b2).below b3) (hP2.below b3) (Nat.le_refl 1)
  have hB3 := bstep (bstep (bstep bA b1) b2) b3
  have hX3 := hideE (((((show BoxQ WA w.heap.size q vd pd vc pc by rw [hWA]; exact hboxQ.out).below b1).below b2).below b3))
  rw [← hWA, ← hW1, ← hW2, ← hW3]
  clear hWA hW1 hW2 hW3 bA b1 b2 b3 hT hV1 hP2 zA z1 z2 hboxQ
  refine hCost.mono ?_
  rintro e w4 ⟨rfl, hb4⟩
  have hB4 := bstep hB3 hb4
  obtain ⟨x0, x1, x2, x3, x4, x5⟩ := hX3.out.below hb4
  have hX4 := hideE (hX3.out.below hb4)
  clear hCost hb4 hB3 hX3
  dsimp only
  go_wp2_with fail
  refine (HSo.out w4 hB4).mono ?_
  rintro e w5 ⟨hb5, ad1, c1, rfl, hsl, hcap, _⟩
  have hB5 := bstep hB4 hb5
  have hX5 := hideE (hX4.out.below hb5)
  have Hsl := hideE hsl
  clear x0 x1 x2 x3 x4 x5 hX4 hb5 hB4 hsl hcap
  dsimp only
  by_cases hz : solveN l q = 0
  · obtain ⟨hask, hord⟩ := solve_ask hz
    have hper := order_perm l q
    have holen := order_len l q
    obtain ⟨hl5, hlr⟩ := solve_lens hz
    have HW := hideE (fun (O : List Int) (h : O.Perm (placesI q.parts.length)) => same_swap hz h)
    have HWn : Hid (∀ O : List Int, swapN q O = 0 → O.Perm (placesI q.parts.length)) := fun O h => by
      unfold swapN at h
      rw [if_neg (fun k => k hask)] at h
      by_cases ha : isAllB O q.parts.length = true
      · exact isAll_perm.1 ha
      · rw [if_neg ha] at h; cases h
    have HWp : Hid (∀ O : List Int, O.Perm (placesI q.parts.length) → swapN q O = 0) := fun O h => by
      unfold swapN
      rw [if_neg (fun k => k hask), if_pos (isAll_perm.2 h)]
    have Hper := hideE hper
    have hq6 : Hid (q.parts.length ≤ 6) := (ask_good hask).six
    have Hlr := hideE hlr
    have Hl5 := hideE hl5
    rw [hz, show errV 0 = .nilIface from rfl]
    have HOr5 := HOr.out w5 hB5
    obtain ⟨na, hna⟩ : ∃ n, n = (solveL l q).length := ⟨_, rfl⟩
    have Hna := hideE hna
    rw [← hna]
    obtain ⟨x0, x1, x2, x3, x4, x5⟩ := hX5.out
    clear hask hper hlr hl5 hna HSo HOr hz
    go_wp2_with fail
    refine HOr5.mono ?_
    rintro e w6 ⟨hb6, _, hgood⟩
    obtain ⟨op, cp, rfl, hop⟩ := hgood hord
    have hB6 := bstep hB5 hb6
    have hX6 := hideE (hX5.out.below hb6)
    have Hsl6 := hideE (Hsl.out.below hb6)
    have Hop := hideE hop
    have hole := hideE holen
    clear x0 x1 x2 x3 x4 x5 HOr5 hgood hord hb6 hop holen Hsl hX5 hB5
    obtain ⟨x0, x1, x2, x3, x4, x5⟩ := hX6.out
    obtain ⟨np, hnp⟩ : ∃ n, n = q.parts.length := ⟨_, rfl⟩
    have Hnp := hideE hnp
    have hpole := hideE (show (orderL l q).length = np by rw [hnp]; exact hole.out)
    dsimp only
    rw [← hnp] at x1 ⊢
    clear hnp
    have tn : ((np : Int) != (np : Int)) = false := by simp
    go_wp2_with fail
    go_loopw [15] (fun i wr => ∃ k : Nat, k ≤ 2 ∧ i = .int .i64 k ∧ RowKit.Below w6.heap.size w6 wr) (fun i wr => 2 - (intOf i).toNat)
    case atStart => exact ⟨0, by omega, rfl, RowKit.Below.refl _ _⟩
    case round =>
      clear x0 x1 x2 x3 x4 x5
      obtain ⟨k, hk, rfl, hbr⟩ := hrel
      by_cases hlt : k < 2
      · have t1 : decide ((k : Int) < 2) = true := by simp; omega
        go_upto_if 80 with fail
        go_cut [16] from 81 to 81 (fun v16 W => W = wr ∧ ∃ (ud : Option Addr) (uc : Nat) (O : List Int), v16 = .slice ud O.length uc ∧ Hid (SlI wr ud O) ∧ Hid (O.length ≤ 9223372036854775807) ∧ Hid (k = 0 → swapN q O = 0))
        case first =>
          rcases (by omega : k = 0 ∨ k = 1) with rfl | rfl
          · go_wp2_with fail
            go_meet
            case rel => exact ⟨rfl, op, cp, orderL l q, by rw [hpole.out], Hop.out.below hbr, (by show _ ≤ _; have := hpole.out; have := Hnp.out; have := hq6.out; omega), fun _ => HWp.out _ Hper.out⟩
          · go_wp2_with fail
            go_meet
            case rel => exact ⟨rfl, od, oc, o, rfl, (Ho.out.below hB6).below hbr, hol, fun h => by cases h⟩
        case rest =>
          obtain ⟨hw, ud, uc, O, rfl, hO, hOl, hk0⟩ := hcut
          obtain rfl : wc = wr := hw
          have hX7 := hX6.out.below hbr
          obtain ⟨x0, x1, x2, x3, x4, x5⟩ := hX7
          have hBr := bstep hB6 hbr
          have HSw7 := HSw.out wc hBr ud uc O hO.out hOl.out
          go_wp2_with fail
          refine HSw7.mono ?_
          rintro e w8 ⟨hb8, hbad, hgood⟩
          have hB8 := bstep hBr hb8
          have hb68 := bstep hbr hb8
          clear x0 x1 x2 x3 x4 x5 HSw7 hb8 hBr
          by_cases hsw : swapN q O = 0
          · obtain ⟨vd2, vc2, pd2, rfl, hQ2, hvc2⟩ := hgood hsw
            have hperO := HWn.out O hsw
            obtain ⟨hsame, hor⟩ := HW.out O hperO
            have HS7 := HS2.out (w8.alloc (.cells #[.slice vd2 (swapQ q O).vars.length vc2, .slice pd2 (swapQ q O).parts.length O.length, .string ⟨(swapQ q O).order.toArray⟩, .bool (swapQ q O).down, .bool (swapQ q O).dist, .int .i64 (swapQ q O).lim] 26)) (bstep hB8 (balloc _ _)) O vd2 pd2 vc2 O.length ⟨hQ2.vars.below (balloc _ _), hQ2.parts.below (balloc _ _)⟩ (swap_fit2 Hf.out (swap_perm hperO)) hvc2
            have hb8a := bstep hb68 (balloc w8 (.cells #[.slice vd2 (swapQ q O).vars.length vc2, .slice pd2 (swapQ q O).parts.length O.length, .string ⟨(swapQ q O).order.toArray⟩, .bool (swapQ q O).down, .bool (swapQ q O).dist, .int .i64 (swapQ q O).lim] 26))
            have HQ2 := hideE hQ2
            have Hor := hideE hor
            have Hsame := hideE hsame
            unfold valQ at HS7 ⊢
            clear hbad hgood hsw hperO hor hsame hQ2 hvc2 hk0
            generalize (swapQ q O).vars.length = m1 at *
            generalize (swapQ q O).parts.length = m2 at *
            dsimp only
            go_wp2_with fail
            refine HS7.mono ?_
            rintro e w9 ⟨hb9, ad2, c2, rfl, hsl2, _, _⟩
            have hb69 := bstep hb8a hb9
            have hB9 := bstep hB6 hb69
            clear HS7 hb8a hb9 hb68
            by_cases h2 : solveN l (swapQ q O) = 0
            · rw [Hsame.out h2] at hsl2 ⊢
              rw [h2, show errV 0 = .nilIface from rfl]
              have HA := SameAnswers_true ad2 ad1 c2 c1 (solveL l q) w9 hsl2 (Hsl6.out.below hb69) (by have := Hl5.out; omega) (fun r hr => by have := Hlr.out r hr; omega)
              rw [← Hna.out] at HA ⊢
              clear hsl2 h2 Hor Hsame HQ2
              dsimp only
              go_wp2_with fail
              refine HA.mono ?_
              rintro e w10 ⟨rfl, hb10⟩
              dsimp only
              go_wp2_with fail
              go_roundw
              case rel => exact ⟨k + 1, by omega, by go_num, bstep hb69 hb10⟩
              case measure => simp [intOf]; omega
            · have h4 : solveN l (swapQ q O) = 4 := Hor.out.resolve_left h2
              have HE := sameErr4 4 w9 (Hg.out.below hB9)
              rw [h4]
              generalize (solveL l (swapQ q O)).length = m3 at *
              clear hsl2 h2 h4 Hor Hsame HQ2
              dsimp only
              have e4 : ((4 : Int) == 0) = false := rfl
              go_wp2_with fail
              refine HE.mono ?_
              rintro e w10 ⟨rfl, hb10⟩
              dsimp only
              go_wp2_with fail
              go_roundw
              case rel => exact ⟨k + 1, by omega, by go_num, bstep hb69 hb10⟩
              case measure => simp [intOf]; omega
          · have hk1 : k = 1 := by
              rcases (by omega : k = 0 ∨ k = 1) with h | h
              · exact absurd (hk0.out h) hsw
              · exact h
            subst hk1
            obtain rfl := hbad hsw
            have e1 : (swapN q O == 0) = false := by simpa using hsw
            generalize swapN q O = n1 at *
            clear hbad hgood
            rw [show valQ zeroQ none 0 none 0 = .agg #[.slice none 0 0, .slice none 0 0, .string ⟨#[]⟩, .bool false, .bool false, .int .i64 0] from rfl]
            dsimp only
            go_wp2_with fail
            go_ret
            exact ⟨rfl, bstep hB8 (balloc _ _)⟩
      · obtain rfl : k = 2 := by omega
        have t1 : decide ((2 : Int) < 2) = false := by simp
        go_wp2_with fail
        go_ret
        exact ⟨rfl, bstep hB6 hbr⟩
  · have e1 : (solveN l q == 0) = false := by simpa using hz
    generalize solveN l q = n1 at *
    generalize (solveL l q).length = n2 at *
    clear HSo HOr HSw HS2
    go_wp2_with fail
    go_ret
    exact ⟨rfl, hB5⟩
end Go.Proofs.YtcdbcoaiadipjaaGreatDoor
