import Derived.Test.YtifkcoappflenagMA0x3
import Derived.Test.YtifkcoappflenagMA0x2
import Derived.Test.YtifkcoappflenagMA0x1
import Derived.Deep.RegionHeld3
import Derived.Deep.AppendLies
import Derived.Deep.DeepCutAuto

/- Two that came of one: what MergeSides and MergeSame lean on, in plain words. -/
namespace Go.Proofs.Ytifkcoappflenag
open Go Go.RowKit Go.Proofs
set_option synthInstance.maxSize 1000

theorem isSet_one {x : Tr} (h : chkTr x = 0) : IsSet [x] := ⟨by simp, by simpa using h, List.pairwise_singleton _ _⟩
theorem isSet_none : IsSet [] := ⟨by simp, by simp, List.Pairwise.nil⟩
theorem merge_base {o a : List Tr} (ho : IsSet o) (ha : IsSet a) : mergeN o a o = 0 ∧ mergeT o a o = a ∧ mergeC o a o = [] := by
  have h3 : threeN o a o = 0 := three_zero.2 ⟨ho, ha, ho⟩
  have e := out_base (first := true) ho.2.2 ha.2.2
  obtain ⟨h1, h2, h4⟩ := merge_good h3 (clash_base o a) (by rw [e]; exact ha.1)
  exact ⟨h1, h2.trans e, h4⟩
theorem merge_same {o a : List Tr} (ho : IsSet o) (ha : IsSet a) : mergeN o a a = 0 ∧ mergeT o a a = a ∧ mergeC o a a = [] := by
  have h3 : threeN o a a = 0 := three_zero.2 ⟨ho, ha, ha⟩
  have e := out_same (o := o) (first := true) ha.2.2
  obtain ⟨h1, h2, h4⟩ := merge_good h3 (clash_same o a) (by rw [e]; exact ha.1)
  exact ⟨h1, h2.trans e, h4⟩
theorem merge_one {x : Tr} (hx : chkTr x = 0) : mergeN [] [x] [] = 0 ∧ mergeT [] [x] [] = [x] ∧ mergeC [] [x] [] = [] := merge_base isSet_none (isSet_one hx)
/-- either way round -/
theorem merge_swap (o a b : List Tr) : mergeT o b a = mergeT o a b ∧ mergeC o b a = mergeC o a b ∧ (mergeN o b a = 0 ↔ mergeN o a b = 0) := by
  by_cases h : threeN o a b = 0
  · have h' := (three_swap o a b).1 h
    by_cases hc : clashL o a b = []
    · have hc' : clashL o b a = [] := (clash_comm o b a).trans hc
      have e := out_comm hc
      by_cases hl : (outL o a b true).length ≤ 200
      · obtain ⟨h1, h2, h3⟩ := merge_good h hc hl
        obtain ⟨g1, g2, g3⟩ := merge_good h' hc' (by rw [← e]; exact hl)
        exact ⟨by rw [g2, h2, e], by rw [g3, h3], by rw [g1, h1]⟩
      · obtain ⟨h1, h2, h3⟩ := merge_full h hc (by omega)
        obtain ⟨g1, g2, g3⟩ := merge_full h' hc' (by rw [← e]; omega)
        exact ⟨by rw [g2, h2], by rw [g3, h3], by rw [g1, h1]⟩
    · have hc' : clashL o b a ≠ [] := fun e => hc ((clash_comm o a b).trans e)
      obtain ⟨h1, h2, h3⟩ := merge_clash h hc
      obtain ⟨g1, g2, g3⟩ := merge_clash h' hc'
      exact ⟨by rw [g2, h2], by rw [g3, h3, clash_comm], by rw [g1, h1]⟩
  · have h' : threeN o b a ≠ 0 := fun e => h ((three_swap o a b).2 e)
    obtain ⟨h1, h2, h3⟩ := merge_bad h
    obtain ⟨g1, g2, g3⟩ := merge_bad h'
    exact ⟨by rw [g2, h2], by rw [g3, h3], ⟨fun e => absurd (g1 ▸ e) h', fun e => absurd (h1 ▸ e) h⟩⟩
theorem merge_nine {o a b : List Tr} (h : threeN o a b = 0) (hn : mergeN o a b ≠ 0) : (mergeN o a b == 9) = decide (0 < (mergeC o a b).length) := by
  by_cases hc : clashL o a b = []
  · by_cases hl : (outL o a b true).length ≤ 200
    · exact absurd (merge_good h hc hl).1 hn
    · obtain ⟨h1, _, h3⟩ := merge_full h hc (by omega)
      rw [h1, h3]
      rfl
  · obtain ⟨h1, _, h3⟩ := merge_clash h hc
    rw [h1, h3]
    have := List.length_pos_iff.2 hc
    simp [this]
theorem merge_ok {o a b : List Tr} (hn : mergeN o a b = 0) : (IsSet o ∧ IsSet a ∧ IsSet b) ∧ mergeT o a b = outL o a b true ∧ clashL o a b = [] ∧ (outL o a b true).length ≤ 200 ∧ mergeC o a b = [] := by
  have h3 := (orN_zero.1 hn).1
  have h4 := (orN_zero.1 hn).2
  by_cases hc : clashL o a b = []
  · rw [if_pos hc] at h4
    by_cases hl : (outL o a b true).length ≤ 200
    · exact ⟨three_zero.1 h3, (merge_good h3 hc hl).2.1, hc, hl, (merge_good h3 hc hl).2.2⟩
    · rw [if_neg hl] at h4; cases h4
  · rw [if_neg hc] at h4; cases h4
theorem merge_in {o a b : List Tr} (hn : mergeN o a b = 0) {x : Tr} (hx : x ∈ mergeT o a b) : x ∈ a ∨ x ∈ b := by
  rw [(merge_ok hn).2.1] at hx
  exact out_sub hx
theorem merge_set {o a b : List Tr} (hn : mergeN o a b = 0) : IsSet (mergeT o a b) := by
  obtain ⟨⟨_, ha, hb⟩, e, _, hl, _⟩ := merge_ok hn
  rw [e]
  refine ⟨hl, fun x hx => ?_, out_rising ha.2.2 hb.2.2⟩
  rcases out_sub hx with h | h
  · exact ha.2.1 x h
  · exact hb.2.1 x h
theorem both_kept {o a b : List Tr} (hn : mergeN o a b = 0) : bothL (bothL a b) (mergeT o a b) = bothL a b := by
  unfold bothL
  rw [List.filter_eq_self]
  intro x hx
  obtain ⟨h1, h2⟩ := List.mem_filter.1 hx
  rw [(merge_ok hn).2.1]
  simpa using out_both (o := o) (first := true) h1 (by simpa using h2)
theorem fit_set {m : List Tr} (h : IsSet m) : ∀ x ∈ m, fitTr x := h.fit
/-- the one that is preferred -/
theorem prefer_swap (o a b : List Tr) : preferT o b a false = preferT o a b true ∧ (preferN o b a false = 0 ↔ preferN o a b true = 0) := by
  by_cases h : threeN o a b = 0
  · have h' := (three_swap o a b).1 h
    have e := out_swap o a b
    by_cases hl : (outL o a b true).length ≤ 200
    · obtain ⟨h1, h2⟩ := prefer_good (first := true) h hl
      obtain ⟨g1, g2⟩ := prefer_good (first := false) h' (by rw [← e]; exact hl)
      exact ⟨by rw [g2, h2, e], by rw [g1, h1]⟩
    · obtain ⟨h1, h2⟩ := prefer_full (first := true) h (by omega)
      obtain ⟨g1, g2⟩ := prefer_full (first := false) h' (by rw [← e]; omega)
      exact ⟨by rw [g2, h2], by rw [g1, h1]⟩
  · have h' : threeN o b a ≠ 0 := fun e => h ((three_swap o a b).2 e)
    obtain ⟨h1, h2⟩ := prefer_bad true h
    obtain ⟨g1, g2⟩ := prefer_bad false h'
    exact ⟨by rw [g2, h2], ⟨fun e => absurd (g1 ▸ e) h', fun e => absurd (h1 ▸ e) h⟩⟩
theorem prefer_merge {o a b : List Tr} (hn : mergeN o a b = 0) : preferN o a b true = 0 ∧ preferT o a b true = mergeT o a b := by
  obtain ⟨h3, e, _, hl, _⟩ := merge_ok hn
  obtain ⟨h1, h2⟩ := prefer_good (first := true) (three_zero.2 h3) hl
  exact ⟨h1, h2.trans e.symm⟩
end Go.Proofs.Ytifkcoappflenag

/- stratalaw4's text of a number. -/
namespace Go.Proofs.Ytifkcoappflenag
open Go Go.RowKit Go.Proofs
set_option synthInstance.maxSize 1000

def valTmL (x : Tm) : Value := .agg #[.int .i64 x.1, .string ⟨x.2.1.toArray⟩, .string ⟨x.2.2.toArray⟩]
/-- a letter -/
def letN (n : Nat) : UInt8 := UInt8.ofNat (97 + n)
def textT (i : Nat) : Tm := (3, [letN (i / 26 % 26), letN (i % 26)], [])

theorem catB (x y : UInt8) : (⟨#[x]⟩ : ByteArray) ++ ⟨#[y]⟩ = ⟨#[x, y]⟩ := by
  apply ByteArray.ext
  simp [ByteArray.data_append]
theorem hideT {p : Prop} (h : p) : Hid p := h
set_option maxRecDepth 100000 in
theorem sliceA (a : Nat) (h : a < 26) (w : World) : (Instr.sliceAt 9 (.string ⟨#[97, 98, 99, 100, 101, 102, 103, 104, 105, 106, 107, 108, 109, 110, 111, 112, 113, 114, 115, 116, 117, 118, 119, 120, 121, 122]⟩) (some (.int .i64 (a : Int))) (some (.int .i64 ((a : Int) + 1))) none).run Try.prog w = .ok (.string ⟨#[letN a]⟩) w := by
  rcases (by omega : a = 0 ∨ a = 1 ∨ a = 2 ∨ a = 3 ∨ a = 4 ∨ a = 5 ∨ a = 6 ∨ a = 7 ∨ a = 8 ∨ a = 9 ∨ a = 10 ∨ a = 11 ∨ a = 12 ∨ a = 13 ∨ a = 14 ∨ a = 15 ∨ a = 16 ∨ a = 17 ∨ a = 18 ∨ a = 19 ∨ a = 20 ∨ a = 21 ∨ a = 22 ∨ a = 23 ∨ a = 24 ∨ a = 25) with rfl | rfl | rfl | rfl | rfl | rfl | rfl | rfl | rfl | rfl | rfl | rfl | rfl | rfl | rfl | rfl | rfl | rfl | rfl | rfl | rfl | rfl | rfl | rfl | rfl | rfl
  all_goals kernel_rfl

set_option maxHeartbeats 2000000 in
set_option maxRecDepth 100000 in
theorem text_any (n : Nat) (w : World) (hn : n ≤ 1000000) : Calls Try.prog 24 #[.int .i64 n] w fun e w' => e = .returned (valTmL (textT n)) ∧ RowKit.Below w.heap.size w w' := by
  have ea : ((n : Int) / 26 % 26) = ((n / 26 % 26 : Nat) : Int) := by omega
  have eb : ((n : Int) % 26) = ((n % 26 : Nat) : Int) := by omega
  have sa := sliceA (n / 26 % 26) (by omega)
  have sb := sliceA (n % 26) (by omega)
  have la : n / 26 % 26 < 26 := by omega
  have lb : n % 26 < 26 := by omega
  have fin : Hid (valTmL (textT n) = .agg #[.int .i64 3, .string ⟨#[letN (n / 26 % 26), letN (n % 26)]⟩, .string ⟨#[]⟩]) := rfl
  have EA := hideT ea
  have EB := hideT eb
  clear ea eb
  generalize n / 26 % 26 = a at *
  generalize n % 26 = b at *
  generalize valTmL (textT n) = v at *
  go_enter Try.func24, Try.ntmps24
  go_wp2_with fail
  rw [EA.out, EB.out]
  go_region
  go_wp2_with fail
  exact bodyPost_ret (v := .agg #[.int .i64 3, .string ((⟨#[letN a]⟩ : ByteArray) ++ ⟨#[letN b]⟩), .string ⟨#[]⟩]) (by unfold results; rw [Try.results24]; go_simp) rfl ⟨by rw [fin.out, catB], (balloc _ _).drew⟩
end Go.Proofs.Ytifkcoappflenag

/- stratalaw4's many: triples of one subject and one predicate, and what of them is together. -/
namespace Go.Proofs.Ytifkcoappflenag
open Go Go.RowKit Go.Proofs
set_option synthInstance.maxSize 1000

def nameT (c : UInt8) : Tm := (1, [c], [])
def trI (s : UInt8) (i : Nat) : Tr := (nameT s, nameT 112, textT i)
def manyL (s : UInt8) (n : Nat) : List Tr := (List.range n).map (trI s)

theorem manyL_len (s : UInt8) (n : Nat) : (manyL s n).length = n := by simp [manyL]
theorem manyL_at (s : UInt8) (n i : Nat) (h : i < (manyL s n).length) : (manyL s n)[i] = trI s i := by simp [manyL]
theorem manyL_succ (s : UInt8) (n : Nat) : manyL s (n + 1) = manyL s n ++ [trI s n] := by simp [manyL, List.range_succ]

set_option maxRecDepth 100000 in
theorem chkS : ∀ i, i < 200 → chkTr (trI 115 i) = 0 := by decide +kernel
set_option maxRecDepth 100000 in
theorem chkU : ∀ i, i < 200 → chkTr (trI 116 i) = 0 := by decide +kernel
set_option maxRecDepth 100000 in
theorem stepS : ∀ i, i < 200 → cmpTr (trI 115 i) (trI 115 (i + 1)) < 0 := by decide +kernel
set_option maxRecDepth 100000 in
theorem stepU : ∀ i, i < 200 → cmpTr (trI 116 i) (trI 116 (i + 1)) < 0 := by decide +kernel

theorem many_set {s : UInt8} {n : Nat} (hn : n ≤ 200) (h1 : ∀ i, i < 200 → chkTr (trI s i) = 0) (h2 : ∀ i, i < 200 → cmpTr (trI s i) (trI s (i + 1)) < 0) : IsSet (manyL s n) := by
  refine ⟨by rw [manyL_len]; exact hn, fun x hx => ?_, rising_of_steps _ fun i h0 hi => ?_⟩
  · obtain ⟨i, hi, rfl⟩ := List.getElem_of_mem hx
    rw [manyL_at]
    rw [manyL_len] at hi
    exact h1 i (by omega)
  · rw [manyL_at, manyL_at]
    rw [manyL_len] at hi
    have := h2 (i - 1) (by omega)
    rwa [show i - 1 + 1 = i by omega] at this

theorem manyS {n : Nat} (hn : n ≤ 200) : IsSet (manyL 115 n) := many_set hn chkS stepS
theorem manyU {n : Nat} (hn : n ≤ 200) : IsSet (manyL 116 n) := many_set hn chkU stepU

theorem many_apart (a b : Nat) : lessL (manyL 116 b) (manyL 115 a) = manyL 116 b := by
  unfold lessL
  rw [List.filter_eq_self]
  intro x hx
  have : x ∉ manyL 115 a := fun hx' => by
    simp only [manyL, List.mem_map] at hx hx'
    obtain ⟨i, _, rfl⟩ := hx
    obtain ⟨j, _, e⟩ := hx'
    simp [trI, nameT] at e
  simpa using this

theorem many_join {a b : Nat} (ha : a ≤ 200) (hb : b ≤ 200) : joinN (manyL 115 a) (manyL 116 b) = if a + b ≤ 200 then 0 else 4 := by
  unfold joinN
  rw [if_pos (bothN_zero.2 ⟨manyS ha, manyU hb⟩), many_apart, manyL_len, manyL_len]

theorem many_join_len {a b : Nat} (ha : a ≤ 200) (hb : b ≤ 200) {m : List Tr} (h : JoinOf (manyL 115 a) (manyL 116 b) m) : m.length = a + b := by
  rw [h.len (manyS ha).2.2 (manyU hb).2.2, many_apart, manyL_len, manyL_len]

theorem textT_nodup {n : Nat} (hn : n ≤ 200) : ((List.range n).map textT).Nodup := by
  have h := rising_nodup (manyS hn).2.2
  have e : manyL 115 n = ((List.range n).map textT).map (fun x => ((nameT 115, nameT 112, x) : Tr)) := by
    simp [manyL, trI, Function.comp_def]
  rw [e] at h
  exact List.Pairwise.of_map _ (fun a b hne e => hne (by rw [e])) h

end Go.Proofs.Ytifkcoappflenag

/- stratalaw4's name and many. -/
namespace Go.Proofs.Ytifkcoappflenag
open Go Go.RowKit Go.Proofs
set_option synthInstance.maxSize 1000

theorem nameS_any (S : List UInt8) (w : World) : Calls Try.prog 6 #[.string ⟨S.toArray⟩] w
    fun e w' => e = .returned (.agg #[.int .i64 1, .string ⟨S.toArray⟩, .string ⟨#[]⟩]) ∧ RowKit.Below w.heap.size w w' := by
  go_enter Try.func6, Try.ntmps6
  go_wp2
  refine bodyPost_ret (v := .agg #[.int .i64 1, .string ⟨S.toArray⟩, .string ⟨#[]⟩]) (by simp [results, Try.results6, go_sem]) rfl ⟨rfl, balloc _ _⟩

theorem keepM {W W' : World} {p0 p1 p2 : Addr} {v0 v1 v2 : Value} {base : Nat} {e : TypeId} {sz : Nat} {v : Value} {n : Nat} {cs : List Value}
    (h : W.cell? p0 = some v0 ∧ W.cell? p1 = some v1 ∧ W.cell? p2 = some v2 ∧ W.ownsRow base e sz v n cs) (hb : RowKit.Below W.heap.size W W') : W'.cell? p0 = some v0 ∧ W'.cell? p1 = some v1 ∧ W'.cell? p2 = some v2 ∧ W'.ownsRow base e sz v n cs :=
  ⟨(hb.cell (World.block_lt_of_cell? W _ h.1)).trans h.1, (hb.cell (World.block_lt_of_cell? W _ h.2.1)).trans h.2.1, (hb.cell (World.block_lt_of_cell? W _ h.2.2.1)).trans h.2.2.1, ownsRow_below h.2.2.2 hb⟩

theorem keepS {W W' : World} {B : Nat} {p0 p1 p2 : Addr} {v0 v1 v2 : Value} (h : W.cell? p0 = some v0 ∧ W.cell? p1 = some v1 ∧ W.cell? p2 = some v2 ∧ B < W.heap.size) (hb : RowKit.Below W.heap.size W W') : W'.cell? p0 = some v0 ∧ W'.cell? p1 = some v1 ∧ W'.cell? p2 = some v2 ∧ B < W'.heap.size :=
  ⟨(hb.cell (World.block_lt_of_cell? W _ h.1)).trans h.1, (hb.cell (World.block_lt_of_cell? W _ h.2.1)).trans h.2.1, (hb.cell (World.block_lt_of_cell? W _ h.2.2.1)).trans h.2.2.1, Nat.lt_of_lt_of_le h.2.2.2 hb.size⟩
theorem keepA {W : World} {B : Nat} {p0 p1 p2 : Addr} {v0 v1 v2 : Value} (h : W.cell? p0 = some v0 ∧ W.cell? p1 = some v1 ∧ W.cell? p2 = some v2 ∧ B < W.heap.size) (o : Obj) : (W.alloc o).cell? p0 = some v0 ∧ (W.alloc o).cell? p1 = some v1 ∧ (W.alloc o).cell? p2 = some v2 ∧ B < (W.alloc o).heap.size := keepS h (balloc W o)
theorem keepG {W W' : World} {B : Nat} {v0 v1 v2 : Value} {row : Option Nat} (h : W.cell? ⟨B, 0, none⟩ = some v0 ∧ W.cell? ⟨B, 1, none⟩ = some v1 ∧ W.cell? ⟨B, 2, none⟩ = some v2 ∧ B < W.heap.size) (hg : W.grownBy W' row) (hne : row ≠ some B) : W'.cell? ⟨B, 0, none⟩ = some v0 ∧ W'.cell? ⟨B, 1, none⟩ = some v1 ∧ W'.cell? ⟨B, 2, none⟩ = some v2 ∧ B < W'.heap.size :=
  ⟨hg.cell h.1 (Ne.symm hne), hg.cell h.2.1 (Ne.symm hne), hg.cell h.2.2.1 (Ne.symm hne), Nat.lt_of_lt_of_le h.2.2.2 hg.size⟩

set_option maxHeartbeats 4000000 in
set_option maxRecDepth 100000 in
theorem many_any (n : Nat) (w : World) (hn : n ≤ 200) : Calls Try.prog 9 #[.int .i64 n] w
    fun e w' => ∃ v, e = .returned v ∧ w'.ownsRow w.heap.size 33 9 v n (cellsT (manyL 115 n)) ∧ RowKit.Below w.heap.size w w' := by
  obtain ⟨i0, hi, hz⟩ := Option.map_eq_some_iff.1 infoTr
  simp only [Prod.mk.injEq] at hz
  obtain ⟨hz0, hz1, hz2⟩ := hz
  have NS := fun W => nameS_any [115] W
  have NP := fun W => nameS_any [112] W
  go_enter Try.func9, Try.ntmps9
  go_wp2_with fail
  go_loopw [3, 4] (fun v i wr => ∃ k : Nat, k ≤ n ∧ i = .int .i64 k ∧ Hid (wr.ownsRow w.heap.size 33 9 v k (cellsT (manyL 115 k))) ∧ RowKit.Below w.heap.size w wr) (fun _ i wr => n - (intOf i).toNat)
  case atStart => exact ⟨0, Nat.zero_le _, rfl, World.ownsRow_nil _ _ _ _, RowKit.Below.refl _ _⟩
  case round =>
    obtain ⟨k, hk, rfl, hown, hbr⟩ := hrel
    by_cases hlt : k < n
    · have i1 : (k : Int) < (n : Int) := by omega
      have HT := text_any k wr (by omega)
      have hnew : Hid (manyL 115 (k + 1) = manyL 115 k ++ [(nameT 115, nameT 112, textT k)]) := manyL_succ 115 k
      generalize textT k = y at *
      generalize manyL 115 k = t0 at *
      unfold valTmL at HT
      go_wp2_with fail
      refine HT.mono ?_
      rintro e w1 ⟨rfl, hb1⟩
      have hB1 := bstep hbr hb1
      have ho1 := hideT (ownsRow_below hown.out hb1)
      have hz1' := hB1.size
      clear HT hown hb1 hbr
      go_wp2_with fail
      have hne : u3.ownBlock ≠ some w1.heap.size := fun e => by have := (ho1.out.lt _ e).2; omega
      go_region_held3 (fun W => W.cell? ⟨w1.heap.size, 0, none⟩ = some (.int .i64 y.1) ∧ W.cell? ⟨w1.heap.size, 1, none⟩ = some (.string ⟨y.2.1.toArray⟩) ∧ W.cell? ⟨w1.heap.size, 2, none⟩ = some (.string ⟨y.2.2.toArray⟩) ∧ w1.heap.size < W.heap.size)
        (first
          | (refine keepG ?_ hgrow hne; assumption)
          | (refine keepS ?_ hb3; assumption)
          | (refine keepS ?_ hb2; assumption)
          | (refine keepA ?_ _; assumption)
          | (refine ⟨?_, ?_, ?_, ?_⟩ <;> first | (go_simp; done) | (simp; done)))
        (first
          | (go_at_call_of 6 (Value.string ⟨#[115]⟩); refine (NS _).mono ?_; rintro e w2 ⟨rfl, hb2⟩)
          | (go_at_call_of 6 (Value.string ⟨#[112]⟩); refine (NP _).mono ?_; rintro e w3 ⟨rfl, hb3⟩)
          | (refine step_append_lies _ (by rfl) _ _ _ (by rfl) w.heap.size 33 i0 _ 9 120 Try.underlying22 hi hz0 hz1 hz2 rfl (by omega) u3 k (cellsT t0) (by rfl) ((ownsRow_below (ownsRow_below (ho1.out.alloc _).drew hb2) hb3).alloc _)
              ⟨w3.heap.size, 0, none⟩ 1 1 (encTr (nameT 115, nameT 112, y)) (by rfl) (by rfl) (World.news_of_block (cs := (encTr (nameT 115, nameT 112, y)).toArray) (t := 33) (fr := (0, 0)) (heap_alloc_new w3 _)) (encTr_one _)
              (by omega) (by unfold maxLen; omega) (by omega) (by have h1 := hb2.size; have h2 := hb3.size; simp at h1 h2 ⊢; omega) (w3.heap.size + 1) (by simp) ?_; intro gg cap w4 hown4 hgrow hat hlt4))
      have hB4 : RowKit.Below w.heap.size w w4 := by
        have hb12 := bstep (bstep (bstep hB1 (balloc _ _)).drew hb2) hb3
        exact (bstep hb12 (balloc _ _)).grown hgrow (by have := hb12.size; simp; omega) (fun j hj => (ho1.out.lt j hj).1)
      go_wp2_with fail
      go_roundw
      case rel =>
        refine ⟨k + 1, by omega, by go_num, ?_, hB4⟩
        show World.ownsRow _ _ _ _ _ _ _
        rw [hnew.out]
        simpa [cellsT] using hown4
      case measure => simp [intOf]; omega
    · obtain rfl : k = n := by omega
      go_wp2_with fail
      go_ret
      exact ⟨_, rfl, hown.out, hbr⟩
end Go.Proofs.Ytifkcoappflenag

/- stratalaw4.MergeSame: the walk, over a merge's face. -/
namespace Go.Proofs.Ytifkcoappflenag
open Go Go.RowKit Go.Proofs
set_option synthInstance.maxSize 1000

attribute [local go_sem] eql_errV neq_errV guard_errV

theorem hideQ {p : Prop} (h : p) : Hid p := h
theorem many_pairs : pairsC (manyL 115 3) [] = [(nameT 115, nameT 112)] := by decide +kernel
theorem qTr (ad bd : Option Addr) (ca cb : Nat) (l : List Tr) (w : World) (hl : SlT w ad l) (hm : SlT w bd l) (h : l.length ≤ 1000) : Calls Try.prog 12 #[.slice ad l.length ca, .slice bd l.length cb] w fun e w' => e = .returned (.bool true) ∧ RowKit.Below w.heap.size w w' := by
  have := SameTriples_any ad bd ca cb l l w hl hm (by omega) (by omega)
  rw [show decide (l = l) = true by simp] at this
  exact this

set_option maxHeartbeats 64000000 in
set_option maxRecDepth 1000000 in
theorem mergeSame_any (M : MFace) (od ad bd : Option Addr) (oc ca cb : Nat) (o a b : List Tr) (w : World) (ho : SetIn w od o) (ha : SetIn w ad a) (hb : SetIn w bd b) :
    Calls Try.prog 4 #[.slice od o.length oc, .slice ad a.length ca, .slice bd b.length cb] w fun e w' => e = .returned (.bool true) ∧ RowKit.Below w.heap.size w w' := by
  have HW : Hid (∀ W, RowKit.Below w.heap.size w W → SetIn W od o ∧ SetIn W ad a ∧ SetIn W bd b) := fun W h => ⟨ho.below h, ha.below h, hb.below h⟩
  have C0 := many_any 3 w (by omega)
  have C1 : ∀ W (xd : Option Addr) (xc : Nat), SlT W xd (manyL 115 3) → Calls Try.prog 8 #[.slice xd (manyL 115 3).length xc, .slice none 0 0] W (PairsAns (manyL 115 3) [] W) := fun W xd xc hx => M.pairs W xd none xc 0 (manyL 115 3) [] ⟨hx, fit_set (manyS (by omega)), by rw [manyL_len]; unfold maxLen; omega⟩ ⟨fun h => absurd rfl h, by simp, by simp⟩
  have C2 := fun W (hW : RowKit.Below w.heap.size w W) => M.merge W od ad ad oc ca ca o a a (ho.below hW) (ha.below hW) (ha.below hW)
  have C3 := fun W (hW : RowKit.Below w.heap.size w W) => M.prefer W od ad bd oc ca cb o a b true (ho.below hW) (ha.below hW) (hb.below hW)
  have C4 := fun W (hW : RowKit.Below w.heap.size w W) => M.prefer W od bd ad oc cb ca o b a false (ho.below hW) (hb.below hW) (ha.below hW)
  have C5 := fun W (hW : RowKit.Below w.heap.size w W) => M.merge W od ad bd oc ca cb o a b (ho.below hW) (ha.below hW) (hb.below hW)
  have S1 := fun W (hW : RowKit.Below w.heap.size w W) => Sorted_any od oc o W (ho.sl.below hW) ho.fit ho.max
  have S2 := fun W (hW : RowKit.Below w.heap.size w W) => Sorted_any ad ca a W (ha.sl.below hW) ha.fit ha.max
  have S3 := fun W (hW : RowKit.Below w.heap.size w W) => Sorted_any bd cb b W (hb.sl.below hW) hb.fit hb.max
  obtain ⟨e1, e2⟩ := prefer_swap o a b
  have lP := preferT_len o a b true
  unfold MergeAns at C2 C5
  unfold PreferAns at C3 C4
  unfold PairsAns at C1
  rw [many_pairs, bothN_zero.2 ⟨manyS (n := 3) (by omega), isSet_none⟩, show errV 0 = .nilIface from rfl] at C1
  rw [e1] at C4
  have e2' : Hid (preferN o b a false = 0 ↔ preferN o a b true = 0) := e2
  clear ho ha hb e1 e2
  go_enter Try.func4, Try.ntmps4
  go_wp2_with fail
  refine C0.mono ?_
  rintro e w1 ⟨v, rfl, hv, hb1⟩
  obtain ⟨vd, vc, rfl, hsl⟩ := own_slT (t := manyL 115 3) (by rw [manyL_len]; exact hv)
  have Hsl := hideQ hsl
  clear hv hsl C0
  dsimp only
  go_wp2_with fail
  refine (C1 _ vd vc Hsl.out).mono ?_
  rintro e w2 ⟨yd, yc, rfl, hy, hb2⟩
  have hB2 := bstep hb1 hb2
  obtain ⟨g, off, rfl, hr⟩ := hy (by simp)
  obtain ⟨c0, c1, c2, c3, c4, c5⟩ := hr.at 0 (by simp)
  clear hr hy C1 Hsl hb1 hb2
  dsimp only [List.getElem_cons_zero, List.length_cons, List.length_nil, nameT] at *
  simp only [Nat.zero_mul, Nat.add_zero] at c0 c1 c2 c3 c4 c5
  go_wp2_with fail
  refine (C2 _ hB2).mono ?_
  rintro e w3 ⟨xd, xc, kd, kc, rfl, hx, hk, hb3⟩
  have hB3 := bstep hB2 hb3
  have X3 := hideQ hx
  clear hx hk hb3 hB2 C2 c0 c1 c2 c3 c4 c5
  dsimp only
  by_cases h3 : threeN o a b = 0
  · obtain ⟨so, sa, sb⟩ := three_zero.1 h3
    have z1 := sortedN_set.2 so
    have z2 := sortedN_set.2 sa
    have z3 := sortedN_set.2 sb
    obtain ⟨k1, k2, k3⟩ := merge_same so sa
    have la : a.length ≤ 1000 := by have := sa.1; omega
    rw [k2] at X3
    rw [k1, k2, k3, show errV 0 = .nilIface from rfl]
    rw [z1, show errV 0 = .nilIface from rfl] at S1
    rw [z2, show errV 0 = .nilIface from rfl] at S2
    rw [z3, show errV 0 = .nilIface from rfl] at S3
    have HM : Hid (mergeN o a b = 0 → preferN o a b true = 0 ∧ preferT o a b true = mergeT o a b ∧ mergeC o a b = []) := fun h => ⟨(prefer_merge h).1, (prefer_merge h).2, (merge_ok h).2.2.2.2⟩
    clear so sa sb z1 z2 z3 k1 k2 k3 h3
    go_wp2_with fail
    refine (S1 _ hB3).mono ?_
    rintro e w4 ⟨rfl, hb4⟩
    have hB4 := bstep hB3 hb4
    dsimp only
    go_wp2_with fail
    refine (S2 _ hB4).mono ?_
    rintro e w5 ⟨rfl, hb5⟩
    have hB5 := bstep hB4 hb5
    dsimp only
    go_wp2_with fail
    refine (S3 _ hB5).mono ?_
    rintro e w6 ⟨rfl, hb6⟩
    have hB6 := bstep hB5 hb6
    have X6 := hideQ (X3.out.below (bstep (bstep hb4 hb5) hb6))
    clear X3 hb4 hb5 hb6 hB3 hB4 hB5 S1 S2 S3
    dsimp only
    go_wp2_with fail
    refine (qTr xd ad xc ca _ _ X6.out (HW.out _ hB6).2.1.sl la).mono ?_
    rintro e w7 ⟨rfl, hb7⟩
    have hB7 := bstep hB6 hb7
    clear X6 hb7 hB6
    dsimp only
    go_wp2_with fail
    refine (C3 _ hB7).mono ?_
    rintro e w8 ⟨pd, pc, rfl, hp, hb8⟩
    have hB8 := bstep hB7 hb8
    have P8 := hideQ hp
    clear hp hb8 hB7 C3
    dsimp only
    go_wp2_with fail
    refine (C4 _ hB8).mono ?_
    rintro e w9 ⟨qd, qc, rfl, hq, hb9⟩
    have hB9 := bstep hB8 hb9
    have P9 := hideQ (And.intro (P8.out.below hb9) hq)
    clear hq hb9 hB8 C4 P8
    dsimp only
    go_wp2_with fail
    refine (qTr pd qd pc qc _ _ P9.out.1 P9.out.2 (by omega)).mono ?_
    rintro e w10 ⟨rfl, hb10⟩
    have hB10 := bstep hB9 hb10
    have P10 := hideQ (P9.out.1.below hb10)
    clear P9 hb10 hB9
    dsimp only
    go_wp2_with fail
    refine (C5 _ hB10).mono ?_
    rintro e w11 ⟨md, mc, cd, cc, rfl, hm, _, hb11⟩
    have hB11 := bstep hB10 hb11
    have P11 := hideQ (P10.out.below hb11)
    have M11 := hideQ hm
    clear hm P10 hb11 hB10 C5
    dsimp only
    by_cases hN : mergeN o a b = 0
    · obtain ⟨g1, g2, g3⟩ := HM.out hN
      have g4 := e2'.out.2 g1
      rw [hN, g1, g4, g3, show errV 0 = .nilIface from rfl]
      rw [g2] at P11 lP ⊢
      clear hN g1 g2 g3 g4 HM e2'
      generalize mergeT o a b = m at *
      go_wp2_with fail
      refine (qTr pd md pc mc _ _ P11.out M11.out (by omega)).mono ?_
      rintro e w12 ⟨rfl, hb12⟩
      dsimp only
      go_wp2_with fail
      go_ret
      exact ⟨rfl, bstep hB11 hb12⟩
    · have q1 : (mergeN o a b == 0) = false := by simpa using hN
      clear hN HM P11 M11
      by_cases hp : preferN o a b true = 0
      · have hp2 := e2'.out.2 hp
        rw [hp, hp2, show errV 0 = .nilIface from rfl]
        clear hp hp2 e2'
        generalize mergeN o a b = N at *
        generalize mergeT o a b = m at *
        generalize preferT o a b true = t at *
        go_wp2_with fail
        go_region
        go_wp2_with fail
        go_ret
        exact ⟨rfl, hB11.drew⟩
      · have q2 : (preferN o a b true == 0) = false := by simpa using hp
        have q3 : (preferN o b a false == 0) = false := by simpa using fun h => hp (e2'.out.1 h)
        clear hp e2'
        generalize mergeN o a b = N at *
        generalize mergeT o a b = m at *
        generalize preferT o a b true = t at *
        generalize preferN o a b true = n1 at *
        generalize preferN o b a false = n2 at *
        go_wp2_with fail
        go_region
        go_wp2_with fail
        go_ret
        exact ⟨rfl, hB11.drew⟩
  · have hthree : Hid (sortedN o ≠ 0 ∨ (sortedN o = 0 ∧ (sortedN a ≠ 0 ∨ (sortedN a = 0 ∧ sortedN b ≠ 0)))) := by
      by_cases c1 : sortedN o = 0
      · by_cases c2 : sortedN a = 0
        · exact .inr ⟨c1, .inr ⟨c2, fun c3 => h3 (three_zero.2 ⟨sortedN_set.1 c1, sortedN_set.1 c2, sortedN_set.1 c3⟩)⟩⟩
        · exact .inr ⟨c1, .inl c2⟩
      · exact .inl c1
    clear h3 C3 C4 C5 e2' X3 lP
    generalize mergeT o a a = m at *
    generalize mergeC o a a = k at *
    generalize mergeN o a a = N at *
    go_wp2_with fail
    refine (S1 _ hB3).mono ?_
    rintro e w4 ⟨rfl, hb4⟩
    have hB4 := bstep hB3 hb4
    dsimp only
    rcases hthree.out with c1 | ⟨c1, c2⟩
    · have d1 : (sortedN o == 0) = false := by simpa using c1
      clear hthree c1
      generalize sortedN o = n1 at *
      go_wp2_with fail
      go_ret
      exact ⟨rfl, hB4⟩
    · rw [c1, show errV 0 = .nilIface from rfl]
      go_wp2_with fail
      refine (S2 _ hB4).mono ?_
      rintro e w5 ⟨rfl, hb5⟩
      have hB5 := bstep hB4 hb5
      dsimp only
      rcases c2 with c2 | ⟨c2, c3⟩
      · have d1 : (sortedN a == 0) = false := by simpa using c2
        clear hthree c1 c2
        generalize sortedN a = n1 at *
        go_wp2_with fail
        go_ret
        exact ⟨rfl, hB5⟩
      · rw [c2, show errV 0 = .nilIface from rfl]
        go_wp2_with fail
        refine (S3 _ hB5).mono ?_
        rintro e w6 ⟨rfl, hb6⟩
        have d1 : (sortedN b == 0) = false := by simpa using c3
        clear hthree c1 c2 c3
        generalize sortedN b = n1 at *
        dsimp only
        go_wp2_with fail
        go_ret
        exact ⟨rfl, bstep hB5 hb6⟩
end Go.Proofs.Ytifkcoappflenag
