import Derived.Test.YtcdbcoaiadipjaaGreatMA0x1
import Derived.Laws.EntriesVeiled
import Derived.Test.YtcdbcoaiadipjaaGreatMA0x8
import Derived.Test.YtcdbcoaiadipjaaGreatMA0x5
import Derived.Deep.RegionHeld3
import Derived.Deep.AppendLies
import Derived.Test.YtcdbcoaiadipjaaGreatMA0x11

/- Join, Less, Both, Has: what they tell. -/
namespace Go.Proofs.YtcdbcoaiadipjaaGreat
open Go Go.RowKit Go.Proofs
set_option synthInstance.maxSize 1000

attribute [local go_sem] eql_errV neq_errV guard_errV

/-- what is wrong with two sets -/
def bothN (a b : List Tr) : Int := if sortedN a = 0 then sortedN b else sortedN a
theorem bothN_zero {a b : List Tr} : bothN a b = 0 ↔ IsSet a ∧ IsSet b := by
  unfold bothN
  by_cases h : sortedN a = 0
  · rw [if_pos h, sortedN_set]
    exact ⟨fun hb => ⟨sortedN_set.1 h, hb⟩, fun hb => hb.2⟩
  · rw [if_neg h]
    exact ⟨fun hb => absurd hb h, fun hb => absurd (sortedN_set.2 hb.1) h⟩

/-- a call's answer: a list and a number -/
def Ans (n : Int) (P : List Tr → Prop) (w : World) (e : Ending) (w' : World) : Prop := RowKit.Below w.heap.size w w' ∧ ∃ (m : List Tr) (ad : Option Addr) (c : Nat), e = .returned (.tuple #[.slice ad m.length c, errV n]) ∧ SlT w' ad m ∧ P m

theorem Ans.mk {n : Int} {P : List Tr → Prop} {w w' : World} (hb : RowKit.Below w.heap.size w w') (m : List Tr) (ad : Option Addr) (c : Nat) (hs : SlT w' ad m) (hp : P m) : Ans n P w (.returned (.tuple #[.slice ad m.length c, errV n])) w' := ⟨hb, m, ad, c, rfl, hs, hp⟩
theorem slT_nil (W : World) (ad : Option Addr) : SlT W ad [] := fun h => absurd rfl h

def LessAns (a b m : List Tr) : Prop := m = if bothN a b = 0 then lessL a b else []
def BothAns (a b m : List Tr) : Prop := m = if bothN a b = 0 then bothL a b else []


/-- what Join tells -/
def joinN (a b : List Tr) : Int := if bothN a b = 0 then (if a.length + (lessL b a).length ≤ 200 then 0 else 4) else bothN a b
def JoinAns (a b m : List Tr) : Prop := (joinN a b = 0 → JoinOf a b m) ∧ (joinN a b ≠ 0 → m = [])

theorem sortN_cat {a b : List Tr} (sa : IsSet a) (sb : IsSet b) : sortN (a ++ lessL b a) = if a.length + (lessL b a).length ≤ 200 then 0 else 4 := by
  have hall : ∀ x ∈ a ++ lessL b a, chkTr x = 0 := fun x hx => by
    rcases List.mem_append.1 hx with h | h
    · exact sa.2.1 x h
    · exact sb.2.1 x (mem_lessL.1 h).1
  by_cases h : a.length + (lessL b a).length ≤ 200
  · rw [if_pos h]
    exact sortN_zero.2 ⟨by rw [List.length_append]; exact h, hall⟩
  · rw [if_neg h]
    unfold sortN faultN
    rw [if_pos (by rw [List.length_append]; omega)]

/-- what Has tells -/
def hasN (l : List Tr) (t : Tr) : Int := if sortedN l = 0 then chkTr t else sortedN l

end Go.Proofs.YtcdbcoaiadipjaaGreat

/- stratalaw4's text of a number. -/
namespace Go.Proofs.YtcdbcoaiadipjaaGreat
open Go Go.RowKit Go.Proofs
set_option synthInstance.maxSize 1000

def valTmL (x : Tm) : Value := .agg #[.int .i64 x.1, .string ⟨x.2.1.toArray⟩, .string ⟨x.2.2.toArray⟩]
/-- a letter -/
def letN (n : Nat) : UInt8 := UInt8.ofNat (97 + n)
def textT (i : Nat) : Tm := (3, [letN (i / 26 % 26), letN (i % 26)], [])

theorem catB (x y : UInt8) : (⟨#[x]⟩ : ByteArray) ++ ⟨#[y]⟩ = ⟨#[x, y]⟩ := by
  apply ByteArray.ext
  simp [ByteArray.data_append]
theorem hideT {p : Prop} (h : p) : Hid p := h
set_option maxRecDepth 100000 in
theorem sliceA (a : Nat) (h : a < 26) (w : World) : (Instr.sliceAt 9 (.string ⟨#[97, 98, 99, 100, 101, 102, 103, 104, 105, 106, 107, 108, 109, 110, 111, 112, 113, 114, 115, 116, 117, 118, 119, 120, 121, 122]⟩) (some (.int .i64 (a : Int))) (some (.int .i64 ((a : Int) + 1))) none).run Tryz.prog w = .ok (.string ⟨#[letN a]⟩) w := by
  rcases (by omega : a = 0 ∨ a = 1 ∨ a = 2 ∨ a = 3 ∨ a = 4 ∨ a = 5 ∨ a = 6 ∨ a = 7 ∨ a = 8 ∨ a = 9 ∨ a = 10 ∨ a = 11 ∨ a = 12 ∨ a = 13 ∨ a = 14 ∨ a = 15 ∨ a = 16 ∨ a = 17 ∨ a = 18 ∨ a = 19 ∨ a = 20 ∨ a = 21 ∨ a = 22 ∨ a = 23 ∨ a = 24 ∨ a = 25) with rfl | rfl | rfl | rfl | rfl | rfl | rfl | rfl | rfl | rfl | rfl | rfl | rfl | rfl | rfl | rfl | rfl | rfl | rfl | rfl | rfl | rfl | rfl | rfl | rfl | rfl
  all_goals kernel_rfl

set_option maxHeartbeats 2000000 in
set_option maxRecDepth 100000 in
theorem text_any (n : Nat) (w : World) (hn : n ≤ 1000000) : Calls Tryz.prog 14 #[.int .i64 n] w fun e w' => e = .returned (valTmL (textT n)) ∧ RowKit.Below w.heap.size w w' := by
  have ea : ((n : Int) / 26 % 26) = ((n / 26 % 26 : Nat) : Int) := by omega
  have eb : ((n : Int) % 26) = ((n % 26 : Nat) : Int) := by omega
  have sa := sliceA (n / 26 % 26) (by omega)
  have sb := sliceA (n % 26) (by omega)
  have la : n / 26 % 26 < 26 := by omega
  have lb : n % 26 < 26 := by omega
  have fin : Hid (valTmL (textT n) = .agg #[.int .i64 3, .string ⟨#[letN (n / 26 % 26), letN (n % 26)]⟩, .string ⟨#[]⟩]) := rfl
  have EA := hideT ea
  have EB := hideT eb
  clear ea eb
  generalize n / 26 % 26 = a at *
  generalize n % 26 = b at *
  generalize valTmL (textT n) = v at *
  go_enter Tryz.func14, Tryz.ntmps14
  go_wp2_with fail
  rw [EA.out, EB.out]
  go_region
  go_wp2_with fail
  exact bodyPost_ret (v := .agg #[.int .i64 3, .string ((⟨#[letN a]⟩ : ByteArray) ++ ⟨#[letN b]⟩), .string ⟨#[]⟩]) (by unfold results; rw [Tryz.results14]; go_simp) rfl ⟨by rw [fin.out, catB], (balloc _ _).drew⟩
end Go.Proofs.YtcdbcoaiadipjaaGreat

/- stratalaw4's many: triples of one subject and one predicate, and what of them is together. -/
namespace Go.Proofs.YtcdbcoaiadipjaaGreat
open Go Go.RowKit Go.Proofs
set_option synthInstance.maxSize 1000

def nameT (c : UInt8) : Tm := (1, [c], [])
def trI (s : UInt8) (i : Nat) : Tr := (nameT s, nameT 112, textT i)
def manyL (s : UInt8) (n : Nat) : List Tr := (List.range n).map (trI s)

theorem manyL_len (s : UInt8) (n : Nat) : (manyL s n).length = n := by simp [manyL]
theorem manyL_at (s : UInt8) (n i : Nat) (h : i < (manyL s n).length) : (manyL s n)[i] = trI s i := by simp [manyL]
theorem manyL_succ (s : UInt8) (n : Nat) : manyL s (n + 1) = manyL s n ++ [trI s n] := by simp [manyL, List.range_succ]

set_option maxRecDepth 100000 in
theorem chkS : ∀ i, i < 200 → chkTr (trI 115 i) = 0 := by decide +kernel
set_option maxRecDepth 100000 in
theorem chkU : ∀ i, i < 200 → chkTr (trI 116 i) = 0 := by decide +kernel
set_option maxRecDepth 100000 in
theorem stepS : ∀ i, i < 200 → cmpTr (trI 115 i) (trI 115 (i + 1)) < 0 := by decide +kernel
set_option maxRecDepth 100000 in
theorem stepU : ∀ i, i < 200 → cmpTr (trI 116 i) (trI 116 (i + 1)) < 0 := by decide +kernel

theorem many_set {s : UInt8} {n : Nat} (hn : n ≤ 200) (h1 : ∀ i, i < 200 → chkTr (trI s i) = 0) (h2 : ∀ i, i < 200 → cmpTr (trI s i) (trI s (i + 1)) < 0) : IsSet (manyL s n) := by
  refine ⟨by rw [manyL_len]; exact hn, fun x hx => ?_, rising_of_steps _ fun i h0 hi => ?_⟩
  · obtain ⟨i, hi, rfl⟩ := List.getElem_of_mem hx
    rw [manyL_at]
    rw [manyL_len] at hi
    exact h1 i (by omega)
  · rw [manyL_at, manyL_at]
    rw [manyL_len] at hi
    have := h2 (i - 1) (by omega)
    rwa [show i - 1 + 1 = i by omega] at this

theorem manyS {n : Nat} (hn : n ≤ 200) : IsSet (manyL 115 n) := many_set hn chkS stepS
theorem manyU {n : Nat} (hn : n ≤ 200) : IsSet (manyL 116 n) := many_set hn chkU stepU

theorem many_apart (a b : Nat) : lessL (manyL 116 b) (manyL 115 a) = manyL 116 b := by
  unfold lessL
  rw [List.filter_eq_self]
  intro x hx
  have : x ∉ manyL 115 a := fun hx' => by
    simp only [manyL, List.mem_map] at hx hx'
    obtain ⟨i, _, rfl⟩ := hx
    obtain ⟨j, _, e⟩ := hx'
    simp [trI, nameT] at e
  simpa using this

theorem many_join {a b : Nat} (ha : a ≤ 200) (hb : b ≤ 200) : joinN (manyL 115 a) (manyL 116 b) = if a + b ≤ 200 then 0 else 4 := by
  unfold joinN
  rw [if_pos (bothN_zero.2 ⟨manyS ha, manyU hb⟩), many_apart, manyL_len, manyL_len]

theorem many_join_len {a b : Nat} (ha : a ≤ 200) (hb : b ≤ 200) {m : List Tr} (h : JoinOf (manyL 115 a) (manyL 116 b) m) : m.length = a + b := by
  rw [h.len (manyS ha).2.2 (manyU hb).2.2, many_apart, manyL_len, manyL_len]

theorem textT_nodup {n : Nat} (hn : n ≤ 200) : ((List.range n).map textT).Nodup := by
  have h := rising_nodup (manyS hn).2.2
  have e : manyL 115 n = ((List.range n).map textT).map (fun x => ((nameT 115, nameT 112, x) : Tr)) := by
    simp [manyL, trI, Function.comp_def]
  rw [e] at h
  exact List.Pairwise.of_map _ (fun a b hne e => hne (by rw [e])) h

end Go.Proofs.YtcdbcoaiadipjaaGreat

/- What SolveTurns says, in plain lists: the one order is the other one turned. -/
namespace Go.Proofs.YtcdbcoaiadipjaaGreat
open Go Go.RowKit Go.Proofs
set_option synthInstance.maxSize 1000

def turnP0 : Pt := (([], nameT 115), ([], nameT 112), ([111], tmZero))
def turnQ0 : Qu := ⟨[[111]], [turnP0], [111], true, false, -1⟩
def turnQ (p : Pt) (v : List UInt8) (d : Bool) : Qu := ⟨[v], [p], v, d, true, -1⟩
set_option maxRecDepth 100000 in
theorem turn0N : solveN (manyL 115 3) turnQ0 = 0 := by decide +kernel
set_option maxRecDepth 100000 in
theorem turn0L : solveL (manyL 115 3) turnQ0 = [[textT 2], [textT 1], [textT 0]] := by decide +kernel
theorem turn0fit : FitQ turnQ0 := by
  refine ⟨by simp [turnQ0], by simp [turnQ0], ?_, ?_, by simp [turnQ0]; unfold maxLen; omega, by decide⟩
  · intro v hv
    simp [turnQ0] at hv
    subst hv
    simp; unfold maxLen; omega
  · intro p hp
    simp [turnQ0] at hp
    subst hp
    refine ⟨⟨?_, ?_, ?_⟩, ⟨?_, ?_, ?_⟩, ⟨?_, ?_, ?_⟩⟩ <;> (simp [turnP0, nameT, tmZero]; try (unfold maxLen; omega))
theorem turn_fit {p : Pt} {v : List UInt8} (hp : fitPt p) (hv : v ∈ varsL p) (d : Bool) : FitQ (turnQ p v d) := by
  have hl : v.length ≤ maxLen := by
    rcases (varsL_mem.1 hv).2 with h | h | h
    · rw [h]; exact hp.1.1
    · rw [h]; exact hp.2.1.1
    · rw [h]; exact hp.2.2.1
  refine ⟨by simp [turnQ], by simp [turnQ], ?_, ?_, hl, (by decide : (Lit.int .i64 (-1)).wf = true)⟩
  · intro x hx
    simp [turnQ] at hx
    subst hx
    exact hl
  · intro x hx
    simp [turnQ] at hx
    subst hx
    exact hp
theorem turn_addAll : ∀ (l o : List (List UInt8)), (addAll o l).length ≤ o.length + l.length
  | [], o => by simp [addAll]
  | v :: r, o => by
    unfold addAll
    refine Nat.le_trans (turn_addAll r _) ?_
    split <;> simp <;> omega
theorem turn_addV (l : List (List UInt8)) (s : Sl) : (addV l s).length ≤ l.length + 1 := by
  unfold addV
  repeat' split
  all_goals simp
theorem turn_few (p : Pt) : (partsV [] [p]).length ≤ 8 := by
  have h := turn_addAll (varsL p) []
  have h1 := turn_addV [] p.1
  have h2 := turn_addV (addV [] p.1) p.2.1
  have h3 := turn_addV (addV (addV [] p.1) p.2.1) p.2.2
  have e : partsV [] [p] = addAll [] (varsL p) := rfl
  rw [e]
  unfold varsL at *
  simp at h h1
  omega
theorem turn_ask {p : Pt} {v : List UInt8} (h0 : varsN p = 0) (hv : v ∈ varsL p) (d : Bool) : askN (turnQ p v d) = 0 := by
  have hV : ∀ x, x ∈ varsL p → x ∈ partsV [] [p] := fun x hx => partsV_mem.2 (.inr ⟨p, by simp, hx⟩)
  have h8 : (partsV [] [p]).length ≤ 8 := turn_few p
  have hne : v ≠ [] := (varsL_mem.1 hv).1
  unfold askN turnQ
  simp only [List.length_cons, List.length_nil, partsN, h0]
  rw [if_neg (by omega), if_neg (by simp), if_neg (by simp), if_neg (by omega), if_neg (by simp), if_neg (by simp; exact hV v hv), if_neg (by simp), if_neg (by simp), if_neg (by simp [hne]), if_neg (by omega)]
theorem turn_N {l : List Tr} {p : Pt} {v : List UInt8} (h0 : varsN p = 0) (hv : v ∈ varsL p) : solveN l (turnQ p v true) = solveN l (turnQ p v false) := by
  unfold solveN
  rw [turn_ask h0 hv, turn_ask h0 hv]
  rfl
theorem turn_where (v : List UInt8) : whereV [v] v = some 0 := by simp [whereV]
theorem turn_rows {l : List Tr} {p : Pt} {v : List UInt8} {d : Bool} (h : solveN l (turnQ p v d) = 0) : ∃ vars rows, answersL l [p] = some (vars, rows) ∧ solveL l (turnQ p v d) = sortR (aheadB (some 0) d) true (rows.map (projR vars [v])) := by
  obtain ⟨_, _, vars, rows, ha⟩ := solve_good h
  have ha' : answersL l [p] = some (vars, rows) := ha
  refine ⟨vars, rows, ha', ?_⟩
  unfold solveL
  rw [if_pos h]
  unfold solveA ltQ
  simp only [turnQ, ha', turn_where, limR]
  rw [if_neg (by omega)]
theorem turn_L {l : List Tr} {p : Pt} {v : List UInt8} (h0 : varsN p = 0) (hv : v ∈ varsL p) (h : solveN l (turnQ p v false) = 0) : solveL l (turnQ p v true) = (solveL l (turnQ p v false)).reverse := by
  obtain ⟨vars, rows, ha, e⟩ := turn_rows h
  obtain ⟨vars', rows', ha', e'⟩ := turn_rows ((turn_N h0 hv).trans h)
  rw [ha] at ha'
  injection ha' with ha'
  injection ha' with h1 h2
  subst h1
  subst h2
  rw [e, e']
  exact turned_rows (proj_len vars [v] rows)
theorem turn_len {l : List Tr} {p : Pt} {v : List UInt8} (h : solveN l (turnQ p v false) = 0) : ∀ r ∈ solveL l (turnQ p v false), r.length = 1 := by
  obtain ⟨vars, rows, _, e⟩ := turn_rows h
  intro r hr
  rw [e] at hr
  exact proj_len vars [v] rows r (sort_mem.1 hr)
end Go.Proofs.YtcdbcoaiadipjaaGreat

/- stratalaw4's name and many. -/
namespace Go.Proofs.YtcdbcoaiadipjaaGreat
open Go Go.RowKit Go.Proofs
set_option synthInstance.maxSize 1000

theorem nameS_any (S : List UInt8) (w : World) : Calls Tryz.prog 12 #[.string ⟨S.toArray⟩] w
    fun e w' => e = .returned (.agg #[.int .i64 1, .string ⟨S.toArray⟩, .string ⟨#[]⟩]) ∧ RowKit.Below w.heap.size w w' := by
  go_enter Tryz.func12, Tryz.ntmps12
  go_wp2
  refine bodyPost_ret (v := .agg #[.int .i64 1, .string ⟨S.toArray⟩, .string ⟨#[]⟩]) (by simp [results, Tryz.results12, go_sem]) rfl ⟨rfl, balloc _ _⟩

theorem mKeepM {W W' : World} {p0 p1 p2 : Addr} {v0 v1 v2 : Value} {base : Nat} {e : TypeId} {sz : Nat} {v : Value} {n : Nat} {cs : List Value}
    (h : W.cell? p0 = some v0 ∧ W.cell? p1 = some v1 ∧ W.cell? p2 = some v2 ∧ W.ownsRow base e sz v n cs) (hb : RowKit.Below W.heap.size W W') : W'.cell? p0 = some v0 ∧ W'.cell? p1 = some v1 ∧ W'.cell? p2 = some v2 ∧ W'.ownsRow base e sz v n cs :=
  ⟨(hb.cell (World.block_lt_of_cell? W _ h.1)).trans h.1, (hb.cell (World.block_lt_of_cell? W _ h.2.1)).trans h.2.1, (hb.cell (World.block_lt_of_cell? W _ h.2.2.1)).trans h.2.2.1, ownsRow_below h.2.2.2 hb⟩

theorem mKeepS {W W' : World} {B : Nat} {p0 p1 p2 : Addr} {v0 v1 v2 : Value} (h : W.cell? p0 = some v0 ∧ W.cell? p1 = some v1 ∧ W.cell? p2 = some v2 ∧ B < W.heap.size) (hb : RowKit.Below W.heap.size W W') : W'.cell? p0 = some v0 ∧ W'.cell? p1 = some v1 ∧ W'.cell? p2 = some v2 ∧ B < W'.heap.size :=
  ⟨(hb.cell (World.block_lt_of_cell? W _ h.1)).trans h.1, (hb.cell (World.block_lt_of_cell? W _ h.2.1)).trans h.2.1, (hb.cell (World.block_lt_of_cell? W _ h.2.2.1)).trans h.2.2.1, Nat.lt_of_lt_of_le h.2.2.2 hb.size⟩
theorem mKeepA {W : World} {B : Nat} {p0 p1 p2 : Addr} {v0 v1 v2 : Value} (h : W.cell? p0 = some v0 ∧ W.cell? p1 = some v1 ∧ W.cell? p2 = some v2 ∧ B < W.heap.size) (o : Obj) : (W.alloc o).cell? p0 = some v0 ∧ (W.alloc o).cell? p1 = some v1 ∧ (W.alloc o).cell? p2 = some v2 ∧ B < (W.alloc o).heap.size := mKeepS h (balloc W o)
theorem mKeepG {W W' : World} {B : Nat} {v0 v1 v2 : Value} {row : Option Nat} (h : W.cell? ⟨B, 0, none⟩ = some v0 ∧ W.cell? ⟨B, 1, none⟩ = some v1 ∧ W.cell? ⟨B, 2, none⟩ = some v2 ∧ B < W.heap.size) (hg : W.grownBy W' row) (hne : row ≠ some B) : W'.cell? ⟨B, 0, none⟩ = some v0 ∧ W'.cell? ⟨B, 1, none⟩ = some v1 ∧ W'.cell? ⟨B, 2, none⟩ = some v2 ∧ B < W'.heap.size :=
  ⟨hg.cell h.1 (Ne.symm hne), hg.cell h.2.1 (Ne.symm hne), hg.cell h.2.2.1 (Ne.symm hne), Nat.lt_of_lt_of_le h.2.2.2 hg.size⟩

set_option maxHeartbeats 4000000 in
set_option maxRecDepth 100000 in
theorem many_any (n : Nat) (w : World) (hn : n ≤ 200) : Calls Tryz.prog 13 #[.int .i64 n] w
    fun e w' => ∃ v, e = .returned v ∧ w'.ownsRow w.heap.size 30 9 v n (cellsT (manyL 115 n)) ∧ RowKit.Below w.heap.size w w' := by
  obtain ⟨i0, hi, hz⟩ := Option.map_eq_some_iff.1 infoTr
  simp only [Prod.mk.injEq] at hz
  obtain ⟨hz0, hz1, hz2⟩ := hz
  have NS := fun W => nameS_any [115] W
  have NP := fun W => nameS_any [112] W
  go_enter Tryz.func13, Tryz.ntmps13
  go_wp2_with fail
  go_loopw [3, 4] (fun v i wr => ∃ k : Nat, k ≤ n ∧ i = .int .i64 k ∧ Hid (wr.ownsRow w.heap.size 30 9 v k (cellsT (manyL 115 k))) ∧ RowKit.Below w.heap.size w wr) (fun _ i wr => n - (intOf i).toNat)
  case atStart => exact ⟨0, Nat.zero_le _, rfl, World.ownsRow_nil _ _ _ _, RowKit.Below.refl _ _⟩
  case round =>
    obtain ⟨k, hk, rfl, hown, hbr⟩ := hrel
    by_cases hlt : k < n
    · have i1 : (k : Int) < (n : Int) := by omega
      have HT := text_any k wr (by omega)
      have hnew : Hid (manyL 115 (k + 1) = manyL 115 k ++ [(nameT 115, nameT 112, textT k)]) := manyL_succ 115 k
      generalize textT k = y at *
      generalize manyL 115 k = t0 at *
      unfold valTmL at HT
      go_wp2_with fail
      refine HT.mono ?_
      rintro e w1 ⟨rfl, hb1⟩
      have hB1 := bstep hbr hb1
      have ho1 := hideT (ownsRow_below hown.out hb1)
      have hz1' := hB1.size
      clear HT hown hb1 hbr
      go_wp2_with fail
      have hne : u3.ownBlock ≠ some w1.heap.size := fun e => by have := (ho1.out.lt _ e).2; omega
      go_region_held3 (fun W => W.cell? ⟨w1.heap.size, 0, none⟩ = some (.int .i64 y.1) ∧ W.cell? ⟨w1.heap.size, 1, none⟩ = some (.string ⟨y.2.1.toArray⟩) ∧ W.cell? ⟨w1.heap.size, 2, none⟩ = some (.string ⟨y.2.2.toArray⟩) ∧ w1.heap.size < W.heap.size)
        (first
          | (refine mKeepG ?_ hgrow hne; assumption)
          | (refine mKeepS ?_ hb3; assumption)
          | (refine mKeepS ?_ hb2; assumption)
          | (refine mKeepA ?_ _; assumption)
          | (refine ⟨?_, ?_, ?_, ?_⟩ <;> first | (go_simp; done) | (simp; done)))
        (first
          | (go_at_call_of 12 (Value.string ⟨#[115]⟩); refine (NS _).mono ?_; rintro e w2 ⟨rfl, hb2⟩)
          | (go_at_call_of 12 (Value.string ⟨#[112]⟩); refine (NP _).mono ?_; rintro e w3 ⟨rfl, hb3⟩)
          | (refine step_append_lies _ (by rfl) _ _ _ (by rfl) w.heap.size 30 i0 _ 9 120 Tryz.underlying22 hi hz0 hz1 hz2 rfl (by omega) u3 k (cellsT t0) (by rfl) ((ownsRow_below (ownsRow_below (ho1.out.alloc _).drew hb2) hb3).alloc _)
              ⟨w3.heap.size, 0, none⟩ 1 1 (encTr (nameT 115, nameT 112, y)) (by rfl) (by rfl) (World.news_of_block (cs := (encTr (nameT 115, nameT 112, y)).toArray) (t := 30) (fr := (0, 0)) (heap_alloc_new w3 _)) (encTr_one _)
              (by omega) (by unfold maxLen; omega) (by omega) (by have h1 := hb2.size; have h2 := hb3.size; simp at h1 h2 ⊢; omega) (w3.heap.size + 1) (by simp) ?_; intro gg cap w4 hown4 hgrow hat hlt4))
      have hB4 : RowKit.Below w.heap.size w w4 := by
        have hb12 := bstep (bstep (bstep hB1 (balloc _ _)).drew hb2) hb3
        exact (bstep hb12 (balloc _ _)).grown hgrow (by have := hb12.size; simp; omega) (fun j hj => (ho1.out.lt j hj).1)
      go_wp2_with fail
      go_roundw
      case rel =>
        refine ⟨k + 1, by omega, by go_num, ?_, hB4⟩
        show World.ownsRow _ _ _ _ _ _ _
        rw [hnew.out]
        simpa [cellsT] using hown4
      case measure => simp [intOf]; omega
    · obtain rfl : k = n := by omega
      go_wp2_with fail
      go_ret
      exact ⟨_, rfl, hown.out, hbr⟩
end Go.Proofs.YtcdbcoaiadipjaaGreat

/- stratalaw4.SolveTurns: the walk. -/
namespace Go.Proofs.YtcdbcoaiadipjaaGreat
open Go Go.RowKit Go.Proofs Go.Maps
set_option synthInstance.maxSize 1000
attribute [local go_sem] eql_errV neq_errV guard_errV
attribute [local go_sem ↓] neqTerm

theorem hideU {p : Prop} (h : p) : Hid p := h
theorem eqTB_self (x : Tm) : eqTB x.1 x.2.1 x.2.2 x.1 x.2.1 x.2.2 = true := by simp [eqTB]
theorem solveFact (xd vd pd : Option Addr) (xc vc pc : Nat) (w : World) (hx : SlT w xd (manyL 115 3)) (hv : SlW w vd [[111]]) (hp : SlPt w pd [turnP0]) (hc : 1 ≤ vc) :
    Calls Tryz.prog 5 #[.slice xd 3 xc, .agg #[.slice vd 1 vc, .slice pd 1 pc, .string ⟨#[111]⟩, .bool true, .bool false, .int .i64 (-1)]] w fun e w' => RowKit.Below w.heap.size w w' ∧ ∃ ad c, e = .returned (.tuple #[.slice ad 3 c, .nilIface]) ∧ SlR w' ad [[textT 2], [textT 1], [textT 0]] := by
  have := Solve_any xd xc (manyL 115 3) turnQ0 vd pd vc pc w hx (manyS (by omega)).fit (by rw [manyL_len]; omega) ⟨hv, hp⟩ turn0fit hc
  unfold SolveAns at this
  rw [turn0N, turn0L] at this
  exact this.mono fun _ _ ⟨h1, ad, c, h2, h3, _⟩ => ⟨h1, ad, c, h2, h3⟩
theorem solveTurn (ad vd pd : Option Addr) (ca vc pc : Nat) (l : List Tr) (p : Pt) (v : List UInt8) (d : Bool) (w : World) (h : SlT w ad l) (hfit : ∀ x ∈ l, fitTr x) (hn : l.length ≤ 9223372036854775807) (hp : fitPt p) (hm : v ∈ varsL p) (hv : SlW w vd [v]) (hpd : SlPt w pd [p]) (hc : 1 ≤ vc) :
    Calls Tryz.prog 5 #[.slice ad l.length ca, .agg #[.slice vd 1 vc, .slice pd 1 pc, .string ⟨v.toArray⟩, .bool d, .bool true, .int .i64 (-1)]] w fun e w' => RowKit.Below w.heap.size w w' ∧ ∃ ad c, e = .returned (.tuple #[.slice ad (solveL l (turnQ p v d)).length c, errV (solveN l (turnQ p v d))]) ∧ SlR w' ad (solveL l (turnQ p v d)) :=
  (Solve_any ad ca l (turnQ p v d) vd pd vc pc w h hfit hn ⟨hv, hpd⟩ (turn_fit hp hm d) hc).mono fun _ _ ⟨h1, ad, c, h2, h3, _⟩ => ⟨h1, ad, c, h2, h3⟩

theorem slPt_one {w : World} {b : Nat} {p : Pt} (h : PatAt w b p) : SlPt w (some ⟨b, 0, none⟩) [p] := fun _ => ⟨b, 0, rfl, fun j v hj => by rw [Nat.zero_add]; exact h j v (by simpa [cellsPt] using hj)⟩
theorem slW_one {w : World} {b : Nat} {v : List UInt8} (h : w.cell? ⟨b, 0, none⟩ = some (.string ⟨v.toArray⟩)) : SlW w (some ⟨b, 0, none⟩) [v] := fun _ => ⟨b, 0, rfl, fun j hj => by
  obtain rfl : j = 0 := by simpa using hj
  exact h⟩
theorem turnB6 {W W' : World} {B : Nat} {v0 v1 v2 v3 v4 v5 : Value} (h : W.cell? ⟨B, 0, none⟩ = some v0 ∧ W.cell? ⟨B, 1, none⟩ = some v1 ∧ W.cell? ⟨B, 2, none⟩ = some v2 ∧ W.cell? ⟨B, 3, none⟩ = some v3 ∧ W.cell? ⟨B, 4, none⟩ = some v4 ∧ W.cell? ⟨B, 5, none⟩ = some v5) (hb : RowKit.Below W.heap.size W W') :
    W'.cell? ⟨B, 0, none⟩ = some v0 ∧ W'.cell? ⟨B, 1, none⟩ = some v1 ∧ W'.cell? ⟨B, 2, none⟩ = some v2 ∧ W'.cell? ⟨B, 3, none⟩ = some v3 ∧ W'.cell? ⟨B, 4, none⟩ = some v4 ∧ W'.cell? ⟨B, 5, none⟩ = some v5 :=
  have s : ∀ {a : Addr} {v : Value}, W.cell? a = some v → W'.cell? a = some v := fun c => (hb.cell (World.block_lt_of_cell? W _ c)).trans c
  ⟨s h.1, s h.2.1, s h.2.2.1, s h.2.2.2.1, s h.2.2.2.2.1, s h.2.2.2.2.2⟩
theorem turnB4 {W W' : World} {a0 a1 a2 a3 : Addr} {v0 v1 v2 v3 : Value} (h : W.cell? a0 = some v0 ∧ W.cell? a1 = some v1 ∧ W.cell? a2 = some v2 ∧ W.cell? a3 = some v3) (hb : RowKit.Below W.heap.size W W') :
    W'.cell? a0 = some v0 ∧ W'.cell? a1 = some v1 ∧ W'.cell? a2 = some v2 ∧ W'.cell? a3 = some v3 :=
  have s : ∀ {a : Addr} {v : Value}, W.cell? a = some v → W'.cell? a = some v := fun c => (hb.cell (World.block_lt_of_cell? W _ c)).trans c
  ⟨s h.1, s h.2.1, s h.2.2.1, s h.2.2.2⟩
/-- a block's cells may be written -/
def Wet (W : World) (B n : Nat) : Prop := ∀ j, j < n → W.frozen? ⟨B, j, none⟩ = false
theorem Wet.below {W W' : World} {B n : Nat} (h : Wet W B n) (hl : B < W.heap.size) (hb : RowKit.Below W.heap.size W W') : Wet W' B n := fun j hj => (hb.frozen hl).trans (h j hj)

theorem cell_write {w : World} {a c : Addr} {x : Value} {bo : Bool} (ha : w.cell? a = some (.bool bo)) (hc : w.cell? c = some x) (hx : x ≠ .bool bo) (u : Value) : (w.setCell a u).cell? c = some x := by
  refine (World.cell?_setCell_other w _ _ _ (fun h => ?_)).trans hc
  subst h
  rw [ha] at hc
  injection hc with hc
  exact hx hc.symm
theorem encQ_nb {bo : Bool} {l : List Tm} {j : Nat} {v : Value} (h : (cellsQ l)[j]? = some v) : v ≠ .bool bo := by
  have hm := List.mem_of_getElem? h
  obtain ⟨x, _, hx⟩ := List.mem_flatMap.1 hm
  simp [encQ] at hx
  rcases hx with rfl | rfl | rfl <;> simp
theorem encPt_nb {bo : Bool} {l : List Pt} {j : Nat} {v : Value} (h : (cellsPt l)[j]? = some v) : v ≠ .bool bo := by
  have hm := List.mem_of_getElem? h
  obtain ⟨x, _, hx⟩ := List.mem_flatMap.1 hm
  simp [encPt] at hx
  rcases hx with rfl | rfl | rfl | rfl | rfl | rfl | rfl | rfl | rfl | rfl | rfl | rfl <;> simp
theorem SlR.write {w : World} {ad : Option Addr} {L : List (List Tm)} {a : Addr} {bo : Bool} (h : SlR w ad L) (ha : w.cell? a = some (.bool bo)) (u : Value) : SlR (w.setCell a u) ad L := fun hl => by
  obtain ⟨b, o, e, r⟩ := h hl
  refine ⟨b, o, e, fun j hj => ?_⟩
  obtain ⟨rd, rc, c, s⟩ := r j hj
  refine ⟨rd, rc, cell_write ha c (by simp) u, fun hq => ?_⟩
  obtain ⟨b', o', e', r'⟩ := s hq
  exact ⟨b', o', e', fun j v hv => cell_write ha (r' j v hv) (encQ_nb hv) u⟩
theorem SlW.write {w : World} {ad : Option Addr} {L : List (List UInt8)} {a : Addr} {bo : Bool} (h : SlW w ad L) (ha : w.cell? a = some (.bool bo)) (u : Value) : SlW (w.setCell a u) ad L := fun hl => by
  obtain ⟨b, o, e, r⟩ := h hl
  exact ⟨b, o, e, fun j hj => cell_write ha (r j hj) (by simp [encV]) u⟩
theorem SlPt.write {w : World} {ad : Option Addr} {L : List Pt} {a : Addr} {bo : Bool} (h : SlPt w ad L) (ha : w.cell? a = some (.bool bo)) (u : Value) : SlPt (w.setCell a u) ad L := fun hl => by
  obtain ⟨b, o, e, r⟩ := h hl
  exact ⟨b, o, e, fun j v hv => cell_write ha (r j v hv) (encPt_nb hv) u⟩
theorem turn_500 {l : List Tr} {p : Pt} {v : List UInt8} (h : solveN l (turnQ p v false) = 0) : (solveL l (turnQ p v false)).length ≤ 500 := by
  obtain ⟨vars, rows, ha, e⟩ := turn_rows h
  rw [e]
  refine Nat.le_trans (once_le _ _ (sort_once _ _) fun x hx => sort_mem.1 hx) ?_
  rw [List.length_map]
  exact (answersL_ok ha).2

set_option maxHeartbeats 16000000 in
set_option maxRecDepth 1000000 in
theorem solveTurns_any (ad : Option Addr) (ca : Nat) (l : List Tr) (p : Pt) (w : World) (h : SlT w ad l) (hfit : ∀ x ∈ l, fitTr x) (hn : l.length ≤ 9223372036854775807) (hp : fitPt p) :
    Calls Tryz.prog 4 #[.slice ad l.length ca, valPt p] w fun e w' => e = .returned (.bool true) ∧ RowKit.Below w.heap.size w w' := by
  have HW : Hid (∀ W, RowKit.Below w.heap.size w W → SlT W ad l) := fun W hb => h.below hb
  have NS := fun W => nameS_any [115] W
  have NP := fun W => nameS_any [112] W
  have CM := fun W => many_any 3 W (by omega)
  have CT := fun W => text_any 2 W (by omega)
  have CV := fun W => VarsO_any p W hp
  have HT : Hid (∀ W vd pd vc pc v d, RowKit.Below w.heap.size w W → v ∈ varsL p → SlW W vd [v] → SlPt W pd [p] → 1 ≤ vc → Calls Tryz.prog 5 #[.slice ad l.length ca, .agg #[.slice vd 1 vc, .slice pd 1 pc, .string ⟨v.toArray⟩, .bool d, .bool true, .int .i64 (-1)]] W fun e w' => RowKit.Below W.heap.size W w' ∧ ∃ ad c, e = .returned (.tuple #[.slice ad (solveL l (turnQ p v d)).length c, errV (solveN l (turnQ p v d))]) ∧ SlR w' ad (solveL l (turnQ p v d))) :=
    fun W vd pd vc pc v d hb hm hv hpd hc => solveTurn ad vd pd ca vc pc l p v d W (h.below hb) hfit hn hp hm hv hpd hc
  have hb0 := patBox w p 34
  have Hb0 := hideU hb0
  unfold valPt at CV ⊢
  unfold valTmL at CT
  clear h hfit hn hp hb0
  go_enter Tryz.func4, Tryz.ntmps4
  go_wp2_with fail
  refine (NS _).mono ?_
  rintro e w1 ⟨rfl, hb1⟩
  dsimp only
  go_wp2_with fail
  refine (NP _).mono ?_
  rintro e w2 ⟨rfl, hb2⟩
  have hB1 := bstep (bstep (balloc w _) (balloc _ _)) hb1
  have hB2 := bstep hB1 hb2
  have hP2 := hideU (Hb0.out.below (bstep (bstep (balloc _ _) hb1) hb2))
  have hV2 := hideU (show SlW w2 (some ⟨w.heap.size + 1, 0, none⟩) [[111]] from fun _ => ⟨_, _, rfl, fun j hj => by
    obtain rfl : j = 0 := by simpa using hj
    have c0 : ((w.alloc (.cells (encPt p).toArray 34)).alloc (.cells #[.string ⟨#[111]⟩] 9)).cell? ⟨w.heap.size + 1, 0, none⟩ = some (.string ⟨#[111]⟩) := by go_simp
    exact ((bstep hb1 hb2).cell (World.block_lt_of_cell? _ _ c0)).trans c0⟩)
  dsimp only
  clear NS NP
  go_wp2_with fail
  obtain ⟨W3, hW3⟩ : ∃ W3, W3 = (w2.alloc (.cells #[.string ⟨#[]⟩, .int .i64 1, .string ⟨#[115]⟩, .string ⟨#[]⟩, .string ⟨#[]⟩, .int .i64 1, .string ⟨#[112]⟩, .string ⟨#[]⟩, .string ⟨#[111]⟩, .int .i64 0, .string ⟨#[]⟩, .string ⟨#[]⟩] 34)).alloc (.cells #[.slice (some ⟨w.heap.size + 1, 0, none⟩) 1 1, .slice (some ⟨w2.heap.size, 0, none⟩) 1 1, .string ⟨#[111]⟩, .bool true, .bool false, .int .i64 (-1)] 26) := ⟨_, rfl⟩
  have hb3 : RowKit.Below w2.heap.size w2 W3 := by rw [hW3]; exact bstep (balloc _ _) (balloc _ _)
  have hB3 := bstep hB2 hb3
  have hB2z := hB2.size
  have hP3 := hideU (hP2.out.below hb3)
  have hV3 := hideU (hV2.out.below hb3)
  have hp0 : PatAt (w2.alloc (.cells (encPt turnP0).toArray 34)) w2.heap.size turnP0 := patBox w2 turnP0 34
  have hQ3 := hideU (slPt_one (show PatAt W3 w2.heap.size turnP0 by rw [hW3]; exact hp0.below (balloc _ _)))
  have hz3 : w2.heap.size + 1 < W3.heap.size := by rw [hW3]; simp
  have hx3 : W3.cell? ⟨w2.heap.size + 1, 0, none⟩ = some (.slice (some ⟨w.heap.size + 1, 0, none⟩) 1 1) ∧ W3.cell? ⟨w2.heap.size + 1, 1, none⟩ = some (.slice (some ⟨w2.heap.size, 0, none⟩) 1 1) ∧ W3.cell? ⟨w2.heap.size + 1, 2, none⟩ = some (.string ⟨#[111]⟩) ∧ W3.cell? ⟨w2.heap.size + 1, 3, none⟩ = some (.bool true) ∧ W3.cell? ⟨w2.heap.size + 1, 4, none⟩ = some (.bool false) ∧ W3.cell? ⟨w2.heap.size + 1, 5, none⟩ = some (.int .i64 (-1)) := by
    rw [hW3]; refine ⟨?_, ?_, ?_, ?_, ?_, ?_⟩ <;> go_simp
  have hw3 := hideU (show Wet W3 (w2.heap.size + 1) 6 by
    rw [hW3]
    intro j hj
    rcases (by omega : j = 0 ∨ j = 1 ∨ j = 2 ∨ j = 3 ∨ j = 4 ∨ j = 5) with rfl | rfl | rfl | rfl | rfl | rfl <;> go_simp)
  rw [← hW3]
  clear hW3 hp0 hb1 hb2 hb3 hB1 hB2 hP2 hV2 Hb0
  have hgB : w.heap.size < w2.heap.size + 1 := by have := hB2z; omega
  generalize hn1 : w2.heap.size + 1 = nB at *
  generalize hn2 : w.heap.size + 1 = nV at *
  generalize hn3 : w2.heap.size = nP at *
  clear hn1 hn2 hn3 hB2z
  have Hx3 := hideU hx3
  go_region_held3 (fun W => W.cell? ⟨nB, 0, none⟩ = some (.slice (some ⟨nV, 0, none⟩) 1 1) ∧ W.cell? ⟨nB, 1, none⟩ = some (.slice (some ⟨nP, 0, none⟩) 1 1) ∧ W.cell? ⟨nB, 2, none⟩ = some (.string ⟨#[111]⟩) ∧ W.cell? ⟨nB, 3, none⟩ = some (.bool true) ∧ W.cell? ⟨nB, 4, none⟩ = some (.bool false) ∧ W.cell? ⟨nB, 5, none⟩ = some (.int .i64 (-1)))
    (first
      | exact Hx3.out
      | exact turnB6 Hx3.out (RowKit.Below.refl _ _).drew
      | exact turnB6 (by assumption) hb5
      | exact turnB6 (by assumption) hb4)
    (first
      | (go_at_call 13; refine (CM _).mono ?_; rintro e w4 ⟨v, rfl, hv, hb4⟩; obtain ⟨xd, xc, rfl, hsl⟩ := own_slT (t := manyL 115 3) (by rw [manyL_len]; exact hv); have Hsl := hideU hsl; clear hv hsl)
      | (go_at_call 5; refine (solveFact xd (some ⟨nV, 0, none⟩) (some ⟨nP, 0, none⟩) xc 1 1 _ Hsl.out (hV3.out.below (bstep (RowKit.Below.refl _ _).drew hb4)) (hQ3.out.below (bstep (RowKit.Below.refl _ _).drew hb4)) (Nat.le_refl 1)).mono ?_; rintro e w5 ⟨hb5, yd, yc, rfl, hy⟩; have Hy := hideU hy; clear hy))
  have hb35 : RowKit.Below W3.heap.size W3 w5 := bstep (bstep (RowKit.Below.refl _ _).drew hb4) hb5
  clear hb4 hb5 Hsl CM hV3 hQ3
  obtain ⟨b, o, rd, rc, rfl, c0, hq⟩ := Hy.out.at 0 (by simp)
  obtain ⟨b', o', rfl, d0, d1, d2⟩ := hq.at 0 (by simp)
  dsimp only [List.getElem_cons_zero, List.length_cons, List.length_nil] at c0 d0 d1 d2
  simp only [Nat.zero_mul, Nat.add_zero, Nat.zero_add] at c0 d0 d1 d2
  have tE := eqTB_self (textT 2)
  clear hq Hy hx3
  generalize textT 2 = y at *
  have Hc := hideU (And.intro c0 (And.intro d0 (And.intro d1 d2)))
  go_wp2_with fail
  go_region_held3 (fun W => W.cell? ⟨b, o, none⟩ = some (.slice (some ⟨b', o', none⟩) 1 rc) ∧ W.cell? ⟨b', o', none⟩ = some (.int .i64 y.1) ∧ W.cell? ⟨b', o' + 1, none⟩ = some (.string ⟨y.2.1.toArray⟩) ∧ W.cell? ⟨b', o' + 2, none⟩ = some (.string ⟨y.2.2.toArray⟩))
    (first
      | exact Hc.out
      | exact turnB4 Hc.out (RowKit.Below.refl _ _).drew
      | exact turnB4 (by assumption) hb6)
    (first
      | (go_at_call 14; refine (CT _).mono ?_; rintro e w6 ⟨rfl, hb6⟩))
  have hb36 : RowKit.Below W3.heap.size W3 w6 := bstep (bstep hb35 (RowKit.Below.refl _ _).drew) hb6
  have hB6 := bstep hB3 hb36
  have hP6 := hP3.out.below hb36
  have hP6' := hideU hP6
  obtain ⟨p0, p1, p2, p3, p4, p5, p6, p7, p8, p9, p10, p11⟩ := hP6.all
  have Hx6 := hideU (turnB6 Hx3.out hb36)
  have hw6 := hideU (hw3.out.below hz3 hb36)
  have hz6 : nB < w6.heap.size := Nat.lt_of_lt_of_le hz3 hb36.size
  clear hP6 hP3 hb35 hb6 hb36 Hx3 hw3 hz3 hB3 c0 d0 d1 d2 Hc CT
  go_wp2_with fail
  refine (CV _).mono ?_
  rintro e w7 ⟨hb7, m, md, mc, rfl, hm, hA⟩
  have hB7 := bstep hB6 hb7
  have hP7 := hP6'.out.below hb7
  have Hx7 := hideU (turnB6 Hx6.out hb7)
  have hw7 := hideU (hw6.out.below hz6 hb7)
  have hz7 : nB < w7.heap.size := Nat.lt_of_lt_of_le hz6 hb7.size
  have Hm := hideU hm
  unfold VarsAns at hA
  clear hm p0 p1 p2 p3 p4 p5 p6 p7 p8 p9 p10 p11 hP6' hB6 hb7 Hx6 hw6 CV tE
  dsimp only
  by_cases h0 : varsN p = 0
  · rw [if_pos h0] at hA
    rw [h0, show errV 0 = .nilIface from rfl]
    cases hvl : varsL p with
    | nil =>
      rw [hvl] at hA
      subst hA
      dsimp only [List.length_nil]
      go_wp2_with fail
      go_ret
      exact ⟨rfl, hB7⟩
    | cons v vs =>
      have hm0 : v ∈ varsL p := by rw [hvl]; simp
      rw [hvl] at hA
      subst hA
      obtain ⟨bv, rfl, r0, hcap, hbn⟩ : ∃ bv, md = some ⟨bv, 0, none⟩ ∧ w7.cell? ⟨bv, 0, none⟩ = some (.string ⟨v.toArray⟩) ∧ 1 ≤ mc ∧ nB < bv := by
        obtain ⟨ad', cap', e2, hs⟩ := own_v Hm.out
        injection e2 with e3 _ _
        subst e3
        obtain ⟨bv, rfl, r⟩ := hs (by simp)
        refine ⟨bv, rfl, r 0 (by simp), ?_⟩
        rcases Hm.out.2 with ⟨_, h⟩ | ⟨g, cap, cur, e, hg, _, hle, _⟩
        · simp at h
        · injection e with e3 _ e4
          injection e3 with e3
          injection e3 with e3 _ _
          rw [e4, e3]
          simp at hle
          exact ⟨by omega, by omega⟩
      obtain ⟨k, hk⟩ : ∃ k, k = (v :: vs).length := ⟨_, rfl⟩
      have hk1 : 1 ≤ k := by rw [hk]; simp
      rw [← hk]
      have t1 : ((k : Int) == 0) = false := by simp; omega
      have i1 : (0 : Int) < (k : Int) := by omega
      have l0 : (0 : Int) ≤ 1 := by omega
      have l1 : (1 : Int) ≤ (mc : Int) := by omega
      obtain ⟨p0, p1, p2, p3, p4, p5, p6, p7, p8, p9, p10, p11⟩ := hP7.all
      have hP7' := hideU hP7
      obtain ⟨x0, x1, x2, x3, x4, x5⟩ := Hx7.out
      have f0 := hw7.out 0 (by omega)
      have f1 := hw7.out 1 (by omega)
      have f2 := hw7.out 2 (by omega)
      have f3 := hw7.out 3 (by omega)
      have f4 := hw7.out 4 (by omega)
      have f5 := hw7.out 5 (by omega)
      have hN := turn_N (l := l) h0 hm0
      have hR := hideU (fun h => turn_L (l := l) h0 hm0 h)
      have hL := hideU (fun h => turn_len (l := l) (p := p) (v := v) h)
      have k0 : 0 < k := hk1
      have hbv := World.block_lt_of_cell? w7 _ r0
      have hpw := World.block_lt_of_cell? w7 _ p0
      dsimp only at hbv hpw
      have n0 : bv ≠ w7.heap.size := by omega
      have n1 : nB ≠ w7.heap.size := by omega
      have n2 : w.heap.size ≠ w7.heap.size := by omega
      clear hk Hm hvl h0 hP7
      go_wp2_with fail
      go_region
      have hH := hideU (fun h => turn_500 (l := l) (p := p) (v := v) h)
      obtain ⟨X, hX⟩ : ∃ X, X = (((((w7.setCell ⟨nB, 0, none⟩ (.slice (some ⟨bv, 0, none⟩) 1 mc)).setCell ⟨nB, 1, none⟩ (.slice (some ⟨w7.heap.size, 0, none⟩) 1 1)).setCell ⟨nB, 2, none⟩ (.string ⟨v.toArray⟩)).setCell ⟨nB, 3, none⟩ (.bool false)).setCell ⟨nB, 4, none⟩ (.bool true)).setCell ⟨nB, 5, none⟩ (.int .i64 (-1)) := ⟨_, rfl⟩
      have hXz : X.heap.size = w7.heap.size := by rw [hX]; simp
      have hgB' : w.heap.size ≤ nB := by omega
      have hBX : RowKit.Below w.heap.size w X := by
        rw [hX]
        exact (((((hB7.setCell (p := ⟨nB, 0, none⟩) hgB' _).setCell (p := ⟨nB, 1, none⟩) hgB' _).setCell (p := ⟨nB, 2, none⟩) hgB' _).setCell (p := ⟨nB, 3, none⟩) hgB' _).setCell (p := ⟨nB, 4, none⟩) hgB' _).setCell (p := ⟨nB, 5, none⟩) hgB' _
      have hnv : bv ≠ nB := by omega
      have rX : X.cell? ⟨bv, 0, none⟩ = some (.string ⟨v.toArray⟩) := by rw [hX]; go_simp
      have xX : X.cell? ⟨nB, 0, none⟩ = some (.slice (some ⟨bv, 0, none⟩) 1 mc) ∧ X.cell? ⟨nB, 1, none⟩ = some (.slice (some ⟨w7.heap.size, 0, none⟩) 1 1) ∧ X.cell? ⟨nB, 2, none⟩ = some (.string ⟨v.toArray⟩) ∧ X.cell? ⟨nB, 3, none⟩ = some (.bool false) ∧ X.cell? ⟨nB, 4, none⟩ = some (.bool true) ∧ X.cell? ⟨nB, 5, none⟩ = some (.int .i64 (-1)) := by
        rw [hX]; refine ⟨?_, ?_, ?_, ?_, ?_, ?_⟩ <;> go_simp
      have fX : Wet X nB 6 := by
        rw [hX]
        intro j hj
        simp only [World.frozen?_setCell]
        exact hw7.out j hj
      rw [← hX]
      clear hX x0 x1 x2 x3 x4 x5 f0 f1 f2 f3 f4 f5 r0 p0 p1 p2 p3 p4 p5 p6 p7 p8 p9 p10 p11 Hx7 hw7 hB7 hP7'
      obtain ⟨W8, hW8⟩ : ∃ W8, W8 = (X.alloc (.cells #[.string ⟨p.1.1.toArray⟩, .int .i64 p.1.2.1, .string ⟨p.1.2.2.1.toArray⟩, .string ⟨p.1.2.2.2.toArray⟩, .string ⟨p.2.1.1.toArray⟩, .int .i64 p.2.1.2.1, .string ⟨p.2.1.2.2.1.toArray⟩, .string ⟨p.2.1.2.2.2.toArray⟩, .string ⟨p.2.2.1.toArray⟩, .int .i64 p.2.2.2.1, .string ⟨p.2.2.2.2.1.toArray⟩, .string ⟨p.2.2.2.2.2.toArray⟩] 34)).drew := ⟨_, rfl⟩
      have hb8 : RowKit.Below X.heap.size X W8 := by rw [hW8]; exact (balloc _ _).drew
      have hQ8 : PatAt W8 w7.heap.size p := by
        have hp0 : PatAt (X.alloc (.cells (encPt p).toArray 34)) X.heap.size p := patBox X p 34
        rw [← hXz, hW8]
        exact hp0.below (RowKit.Below.refl _ _).drew
      rw [← hW8]
      clear hW8
      have hB8 := bstep hBX hb8
      have hV8 := hideU (slW_one ((hb8.cell (World.block_lt_of_cell? X _ rX)).trans rX))
      have hQ8' := hideU (slPt_one hQ8)
      have hx8 := turnB6 xX hb8
      have hz8 : nB < X.heap.size := by omega
      have hw8 := hideU (fX.below hz8 hb8)
      have hz8' : nB < W8.heap.size := Nat.lt_of_lt_of_le hz8 hb8.size
      have Hx8 := hideU hx8
      obtain ⟨x0, x1, x2, x3, x4, x5⟩ := hx8
      clear rX xX fX hBX hb8 hQ8 hXz hz8
      generalize w7.heap.size = nQ at *
      go_wp2_with fail
      refine (HT.out W8 _ _ _ _ v false hB8 hm0 hV8.out hQ8'.out hcap).mono ?_
      rintro e w9 ⟨hb9, ud, uc, rfl, hu⟩
      have hB9 := bstep hB8 hb9
      have hx9 := turnB6 Hx8.out hb9
      have f3 := hw8.out.below hz8' hb9 3 (by omega)
      have Hx9 := hideU hx9
      obtain ⟨y0, y1, y2, y3, y4, y5⟩ := hx9
      have hV10 := hideU ((hV8.out.below hb9).write y3 (.bool true))
      have hQ10 := hideU ((hQ8'.out.below hb9).write y3 (.bool true))
      have hu10 := hideU (hu.write y3 (.bool true))
      have hB10 := hB9.setCell (p := ⟨nB, 3, none⟩) hgB' (.bool true)
      clear x0 x1 x2 x3 x4 x5 hb9 hV8 hQ8' hw8 hz8' Hx8 Hx9 hB8 hB9 hu
      dsimp only
      go_wp2_with fail
      refine (HT.out (w9.setCell ⟨nB, 3, none⟩ (.bool true)) _ _ _ _ v true hB10 hm0 hV10.out hQ10.out hcap).mono ?_
      rintro e w11 ⟨hb11, dd, dc, rfl, hd⟩
      have hB11 := bstep hB10 hb11
      have Hu := hideU (hu10.out.below hb11)
      have Hd := hideU hd
      clear hd hu10 hb11 hB10 y0 y1 y2 y3 y4 y5 f3 hV10 hQ10 HT HW
      rw [hN]
      dsimp only
      by_cases hs : solveN l (turnQ p v false) = 0
      · have hR' := hR.out hs
        have hL' := hideU (hL.out hs)
        have hH' := hH.out hs
        rw [hR'] at Hd ⊢
        rw [hs, show errV 0 = .nilIface from rfl, List.length_reverse]
        clear hR hL hH hs hN hR'
        generalize solveL l (turnQ p v false) = U at *
        obtain ⟨n, hn⟩ : ∃ n, n = U.length := ⟨_, rfl⟩
        rw [← hn]
        rw [← hn] at hH'
        have tn : ((n : Int) == (n : Int)) = true := by simp
        go_wp2_with fail
        go_loopw [14] (fun i wr => ∃ k : Nat, k ≤ n ∧ i = .int .i64 k ∧ Hid (RowKit.Below w11.heap.size w11 wr)) (fun i wr => n - (intOf i).toNat)
        case atStart => exact ⟨0, Nat.zero_le _, rfl, RowKit.Below.refl _ _⟩
        case round =>
          obtain ⟨k, hk, rfl, hwr⟩ := hrel
          by_cases hlt : k < n
          · have t2 : decide ((k : Int) < (n : Int)) = true := by simp; omega
            have i2 : (0 : Int) ≤ (k : Int) := by omega
            have i3 : (k : Int) < (n : Int) := by omega
            obtain ⟨j, hj⟩ : ∃ j, j = n - 1 - k := ⟨_, rfl⟩
            have e1 : (n : Int) - 1 - (k : Int) = (j : Int) := by omega
            have j0 : (0 : Int) ≤ (j : Int) := by omega
            have j1 : (j : Int) < (n : Int) := by omega
            have j2 : j < n := by omega
            have hk' : k < U.length := by omega
            have hj' : j < U.reverse.length := by rw [List.length_reverse]; omega
            obtain ⟨b1, o1, rd1, rc1, rfl, c1, q1⟩ := (Hu.out.below hwr.out).at k hk'
            obtain ⟨b2, o2, rd2, rc2, rfl, c2, q2⟩ := (Hd.out.below hwr.out).at j hj'
            have hrev : U.reverse[j]'hj' = U[k]'hk' := by rw [List.getElem_reverse]; congr 1; omega
            rw [hrev] at c2 q2
            obtain ⟨x, hx⟩ : ∃ x, U[k]'hk' = [x] := List.length_eq_one_iff.1 (hL'.out _ (List.getElem_mem _))
            rw [hx] at c1 c2 q1 q2
            obtain ⟨b3, o3, rfl, d0, d1, d2⟩ := q1.at 0 (by simp)
            obtain ⟨b4, o4, rfl, g0, g1, g2⟩ := q2.at 0 (by simp)
            simp only [List.getElem_cons_zero, List.length_cons, List.length_nil, Nat.zero_mul, Nat.add_zero, Nat.zero_add] at c1 c2 d0 d1 d2 g0 g1 g2
            have tE := eqTB_self x
            have c3 : wr.cell? ⟨b2, o2 + (U.length - 1 - k), none⟩ = some (.slice (some ⟨b4, o4, none⟩) 1 rc2) := by rw [show U.length - 1 - k = j by omega]; exact c2
            clear hj hrev hx q1 q2 hj' hk' e1 j0 j1 c2
            go_wp2_with fail
            go_region
            go_wp2_with fail
            go_roundw
            case rel => exact ⟨k + 1, by omega, by go_num, hwr.out.drew⟩
            case measure => simp [intOf]; omega
          · obtain rfl : k = n := by omega
            have t2 : decide ((k : Int) < (k : Int)) = false := by simp
            go_wp2_with fail
            go_ret
            exact ⟨rfl, bstep hB11 hwr.out⟩
      · have e1 : (solveN l (turnQ p v false) == 0) = false := by simpa using hs
        clear hR hL hH hs hN Hu Hd
        generalize solveN l (turnQ p v false) = n at *
        generalize solveL l (turnQ p v false) = U at *
        generalize solveL l (turnQ p v true) = U' at *
        go_wp2_with fail
        go_ret
        exact ⟨rfl, hB11⟩
  · have d1 : (varsN p == 0) = false := by simpa using h0
    clear hA Hm h0
    generalize varsN p = n at *
    go_wp2_with fail
    go_ret
    exact ⟨rfl, hB7⟩
end Go.Proofs.YtcdbcoaiadipjaaGreat
