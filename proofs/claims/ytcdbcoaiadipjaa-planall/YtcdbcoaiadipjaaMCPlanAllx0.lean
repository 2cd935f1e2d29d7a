import Derived.Test.YtcdbcoaiadipjaaMA0x3
import Derived.Laws.EntriesVeiled
import Derived.Test.YtcdbcoaiadipjaaMA0x9
import Derived.Test.YtcdbcoaiadipjaaMA0x6
import Derived.Deep.RegionHeld3
import Derived.Deep.AppendLies
import Derived.Test.YtcdbcoaiadipjaaMA0x7
import Derived.Test.YtcdbcoaiadipjaaMA0x2
import Derived.Deep.Draws
import Derived.Deep.DeepCutAuto
import Derived.RegionTactic

/- Join, Less, Both, Has: what they tell. -/
namespace Go.Proofs.Ytcdbcoaiadipjaa
open Go Go.RowKit Go.Proofs
set_option synthInstance.maxSize 1000

attribute [local go_sem] eql_errV neq_errV guard_errV

/-- what is wrong with two sets -/
def bothN (a b : List Tr) : Int := if sortedN a = 0 then sortedN b else sortedN a
theorem bothN_zero {a b : List Tr} : bothN a b = 0 ↔ IsSet a ∧ IsSet b := by
  unfold bothN
  by_cases h : sortedN a = 0
  · rw [if_pos h, sortedN_set]
    exact ⟨fun hb => ⟨sortedN_set.1 h, hb⟩, fun hb => hb.2⟩
  · rw [if_neg h]
    exact ⟨fun hb => absurd hb h, fun hb => absurd (sortedN_set.2 hb.1) h⟩

/-- a call's answer: a list and a number -/
def Ans (n : Int) (P : List Tr → Prop) (w : World) (e : Ending) (w' : World) : Prop := RowKit.Below w.heap.size w w' ∧ ∃ (m : List Tr) (ad : Option Addr) (c : Nat), e = .returned (.tuple #[.slice ad m.length c, errV n]) ∧ SlT w' ad m ∧ P m

theorem Ans.mk {n : Int} {P : List Tr → Prop} {w w' : World} (hb : RowKit.Below w.heap.size w w') (m : List Tr) (ad : Option Addr) (c : Nat) (hs : SlT w' ad m) (hp : P m) : Ans n P w (.returned (.tuple #[.slice ad m.length c, errV n])) w' := ⟨hb, m, ad, c, rfl, hs, hp⟩
theorem slT_nil (W : World) (ad : Option Addr) : SlT W ad [] := fun h => absurd rfl h

def LessAns (a b m : List Tr) : Prop := m = if bothN a b = 0 then lessL a b else []
def BothAns (a b m : List Tr) : Prop := m = if bothN a b = 0 then bothL a b else []


/-- what Join tells -/
def joinN (a b : List Tr) : Int := if bothN a b = 0 then (if a.length + (lessL b a).length ≤ 200 then 0 else 4) else bothN a b
def JoinAns (a b m : List Tr) : Prop := (joinN a b = 0 → JoinOf a b m) ∧ (joinN a b ≠ 0 → m = [])

theorem sortN_cat {a b : List Tr} (sa : IsSet a) (sb : IsSet b) : sortN (a ++ lessL b a) = if a.length + (lessL b a).length ≤ 200 then 0 else 4 := by
  have hall : ∀ x ∈ a ++ lessL b a, chkTr x = 0 := fun x hx => by
    rcases List.mem_append.1 hx with h | h
    · exact sa.2.1 x h
    · exact sb.2.1 x (mem_lessL.1 h).1
  by_cases h : a.length + (lessL b a).length ≤ 200
  · rw [if_pos h]
    exact sortN_zero.2 ⟨by rw [List.length_append]; exact h, hall⟩
  · rw [if_neg h]
    unfold sortN faultN
    rw [if_pos (by rw [List.length_append]; omega)]

/-- what Has tells -/
def hasN (l : List Tr) (t : Tr) : Int := if sortedN l = 0 then chkTr t else sortedN l

end Go.Proofs.Ytcdbcoaiadipjaa

/- stratalaw4's text of a number. -/
namespace Go.Proofs.Ytcdbcoaiadipjaa
open Go Go.RowKit Go.Proofs
set_option synthInstance.maxSize 1000

def valTmL (x : Tm) : Value := .agg #[.int .i64 x.1, .string ⟨x.2.1.toArray⟩, .string ⟨x.2.2.toArray⟩]
/-- a letter -/
def letN (n : Nat) : UInt8 := UInt8.ofNat (97 + n)
def textT (i : Nat) : Tm := (3, [letN (i / 26 % 26), letN (i % 26)], [])

theorem catB (x y : UInt8) : (⟨#[x]⟩ : ByteArray) ++ ⟨#[y]⟩ = ⟨#[x, y]⟩ := by
  apply ByteArray.ext
  simp [ByteArray.data_append]
theorem hideT {p : Prop} (h : p) : Hid p := h
set_option maxRecDepth 100000 in
theorem sliceA (a : Nat) (h : a < 26) (w : World) : (Instr.sliceAt 9 (.string ⟨#[97, 98, 99, 100, 101, 102, 103, 104, 105, 106, 107, 108, 109, 110, 111, 112, 113, 114, 115, 116, 117, 118, 119, 120, 121, 122]⟩) (some (.int .i64 (a : Int))) (some (.int .i64 ((a : Int) + 1))) none).run Try.prog w = .ok (.string ⟨#[letN a]⟩) w := by
  rcases (by omega : a = 0 ∨ a = 1 ∨ a = 2 ∨ a = 3 ∨ a = 4 ∨ a = 5 ∨ a = 6 ∨ a = 7 ∨ a = 8 ∨ a = 9 ∨ a = 10 ∨ a = 11 ∨ a = 12 ∨ a = 13 ∨ a = 14 ∨ a = 15 ∨ a = 16 ∨ a = 17 ∨ a = 18 ∨ a = 19 ∨ a = 20 ∨ a = 21 ∨ a = 22 ∨ a = 23 ∨ a = 24 ∨ a = 25) with rfl | rfl | rfl | rfl | rfl | rfl | rfl | rfl | rfl | rfl | rfl | rfl | rfl | rfl | rfl | rfl | rfl | rfl | rfl | rfl | rfl | rfl | rfl | rfl | rfl | rfl
  all_goals kernel_rfl

set_option maxHeartbeats 2000000 in
set_option maxRecDepth 100000 in
theorem text_any (n : Nat) (w : World) (hn : n ≤ 1000000) : Calls Try.prog 13 #[.int .i64 n] w fun e w' => e = .returned (valTmL (textT n)) ∧ RowKit.Below w.heap.size w w' := by
  have ea : ((n : Int) / 26 % 26) = ((n / 26 % 26 : Nat) : Int) := by omega
  have eb : ((n : Int) % 26) = ((n % 26 : Nat) : Int) := by omega
  have sa := sliceA (n / 26 % 26) (by omega)
  have sb := sliceA (n % 26) (by omega)
  have la : n / 26 % 26 < 26 := by omega
  have lb : n % 26 < 26 := by omega
  have fin : Hid (valTmL (textT n) = .agg #[.int .i64 3, .string ⟨#[letN (n / 26 % 26), letN (n % 26)]⟩, .string ⟨#[]⟩]) := rfl
  have EA := hideT ea
  have EB := hideT eb
  clear ea eb
  generalize n / 26 % 26 = a at *
  generalize n % 26 = b at *
  generalize valTmL (textT n) = v at *
  go_enter Try.func13, Try.ntmps13
  go_wp2_with fail
  rw [EA.out, EB.out]
  go_region
  go_wp2_with fail
  exact bodyPost_ret (v := .agg #[.int .i64 3, .string ((⟨#[letN a]⟩ : ByteArray) ++ ⟨#[letN b]⟩), .string ⟨#[]⟩]) (by unfold results; rw [Try.results13]; go_simp) rfl ⟨by rw [fin.out, catB], (balloc _ _).drew⟩
end Go.Proofs.Ytcdbcoaiadipjaa

/- stratalaw4's many: triples of one subject and one predicate, and what of them is together. -/
namespace Go.Proofs.Ytcdbcoaiadipjaa
open Go Go.RowKit Go.Proofs
set_option synthInstance.maxSize 1000

def nameT (c : UInt8) : Tm := (1, [c], [])
def trI (s : UInt8) (i : Nat) : Tr := (nameT s, nameT 112, textT i)
def manyL (s : UInt8) (n : Nat) : List Tr := (List.range n).map (trI s)

theorem manyL_len (s : UInt8) (n : Nat) : (manyL s n).length = n := by simp [manyL]
theorem manyL_at (s : UInt8) (n i : Nat) (h : i < (manyL s n).length) : (manyL s n)[i] = trI s i := by simp [manyL]
theorem manyL_succ (s : UInt8) (n : Nat) : manyL s (n + 1) = manyL s n ++ [trI s n] := by simp [manyL, List.range_succ]

set_option maxRecDepth 100000 in
theorem chkS : ∀ i, i < 200 → chkTr (trI 115 i) = 0 := by decide +kernel
set_option maxRecDepth 100000 in
theorem chkU : ∀ i, i < 200 → chkTr (trI 116 i) = 0 := by decide +kernel
set_option maxRecDepth 100000 in
theorem stepS : ∀ i, i < 200 → cmpTr (trI 115 i) (trI 115 (i + 1)) < 0 := by decide +kernel
set_option maxRecDepth 100000 in
theorem stepU : ∀ i, i < 200 → cmpTr (trI 116 i) (trI 116 (i + 1)) < 0 := by decide +kernel

theorem many_set {s : UInt8} {n : Nat} (hn : n ≤ 200) (h1 : ∀ i, i < 200 → chkTr (trI s i) = 0) (h2 : ∀ i, i < 200 → cmpTr (trI s i) (trI s (i + 1)) < 0) : IsSet (manyL s n) := by
  refine ⟨by rw [manyL_len]; exact hn, fun x hx => ?_, rising_of_steps _ fun i h0 hi => ?_⟩
  · obtain ⟨i, hi, rfl⟩ := List.getElem_of_mem hx
    rw [manyL_at]
    rw [manyL_len] at hi
    exact h1 i (by omega)
  · rw [manyL_at, manyL_at]
    rw [manyL_len] at hi
    have := h2 (i - 1) (by omega)
    rwa [show i - 1 + 1 = i by omega] at this

theorem manyS {n : Nat} (hn : n ≤ 200) : IsSet (manyL 115 n) := many_set hn chkS stepS
theorem manyU {n : Nat} (hn : n ≤ 200) : IsSet (manyL 116 n) := many_set hn chkU stepU

theorem many_apart (a b : Nat) : lessL (manyL 116 b) (manyL 115 a) = manyL 116 b := by
  unfold lessL
  rw [List.filter_eq_self]
  intro x hx
  have : x ∉ manyL 115 a := fun hx' => by
    simp only [manyL, List.mem_map] at hx hx'
    obtain ⟨i, _, rfl⟩ := hx
    obtain ⟨j, _, e⟩ := hx'
    simp [trI, nameT] at e
  simpa using this

theorem many_join {a b : Nat} (ha : a ≤ 200) (hb : b ≤ 200) : joinN (manyL 115 a) (manyL 116 b) = if a + b ≤ 200 then 0 else 4 := by
  unfold joinN
  rw [if_pos (bothN_zero.2 ⟨manyS ha, manyU hb⟩), many_apart, manyL_len, manyL_len]

theorem many_join_len {a b : Nat} (ha : a ≤ 200) (hb : b ≤ 200) {m : List Tr} (h : JoinOf (manyL 115 a) (manyL 116 b) m) : m.length = a + b := by
  rw [h.len (manyS ha).2.2 (manyU hb).2.2, many_apart, manyL_len, manyL_len]

theorem textT_nodup {n : Nat} (hn : n ≤ 200) : ((List.range n).map textT).Nodup := by
  have h := rising_nodup (manyS hn).2.2
  have e : manyL 115 n = ((List.range n).map textT).map (fun x => ((nameT 115, nameT 112, x) : Tr)) := by
    simp [manyL, trI, Function.comp_def]
  rw [e] at h
  exact List.Pairwise.of_map _ (fun a b hne e => hne (by rw [e])) h

end Go.Proofs.Ytcdbcoaiadipjaa

/- What PlanAll says, in plain lists. -/
namespace Go.Proofs.Ytcdbcoaiadipjaa
open Go Go.RowKit Go.Proofs
set_option synthInstance.maxSize 1000

def planP0 : Pt := (([120], tmZero), ([121], tmZero), ([122], tmZero))
def planR0 : Pt := (([], nameT 115), ([121], tmZero), ([122], tmZero))
def planQ0 : Qu := ⟨[[120]], [planP0, planR0], [], false, false, -1⟩
set_option maxRecDepth 100000 in
theorem plan0N : orderN (manyL 115 2) planQ0 = 0 := by decide +kernel
set_option maxRecDepth 100000 in
theorem plan0L : orderL (manyL 115 2) planQ0 = [1, 0] := by decide +kernel
theorem plan0fit : FitQ planQ0 := by
  refine ⟨by simp [planQ0], by simp [planQ0], ?_, ?_, by simp [planQ0], by decide⟩
  · intro v hv
    simp [planQ0] at hv
    subst hv
    simp; unfold maxLen; omega
  · intro p hp
    simp [planQ0] at hp
    rcases hp with rfl | rfl
    · refine ⟨⟨?_, ?_, ?_⟩, ⟨?_, ?_, ?_⟩, ⟨?_, ?_, ?_⟩⟩ <;> (simp [planP0, tmZero]; try (unfold maxLen; omega))
    · refine ⟨⟨?_, ?_, ?_⟩, ⟨?_, ?_, ?_⟩, ⟨?_, ?_, ?_⟩⟩ <;> (simp [planR0, nameT, tmZero]; try (unfold maxLen; omega))
theorem swap_fit {q : Qu} {o : List Int} (h : FitQ q) (hp : (swapQ q o).parts.Perm q.parts) : FitQ (swapQ q o) :=
  ⟨h.vl, by rw [hp.length_eq]; exact h.pl, h.vt, fun p hp' => h.pt p (hp.mem_iff.1 hp'), h.ord, h.lim⟩
/-- as far as the order is turned -/
structure BackSt (o : List Int) (k : Nat) (B : List Int) : Prop where
  len : B.length = o.length
  got : ∀ (i : Nat) (hi : i < o.length), i < k → B.getD o[i].toNat 0 = (i : Int)
theorem BackSt.start (o : List Int) : BackSt o 0 (List.replicate o.length 0) := ⟨by simp, fun i hi h => by omega⟩
theorem BackSt.next {o : List Int} {k : Nat} {B : List Int} (h : BackSt o k B) (hk : k < o.length) {n : Nat} (ho : o.Perm (placesI n)) : BackSt o (k + 1) (B.set o[k].toNat (k : Int)) := by
  have hn : o.length = n := by simpa [placesI] using ho.length_eq
  have hnd : o.Nodup := ho.nodup_iff.2 (placesI_nodup n)
  have rng : ∀ (i : Nat) (hi : i < o.length), 0 ≤ o[i] ∧ o[i] < n := fun i hi => placesI_mem.1 (ho.mem_iff.1 (List.getElem_mem hi))
  refine ⟨by simp [h.len], fun i hi hik => ?_⟩
  have r1 := rng i hi
  have r2 := rng k hk
  rw [List.getD_eq_getElem?_getD]
  by_cases e : i = k
  · subst e
    rw [List.getElem?_set_self (by rw [h.len]; omega)]
    rfl
  · have hpw := List.pairwise_iff_getElem.1 hnd i k hi hk (by omega)
    have hne : o[k].toNat ≠ o[i].toNat := fun e2 => hpw (by omega)
    rw [List.getElem?_set_ne hne, ← List.getD_eq_getElem?_getD]
    exact h.got i hi (by omega)
theorem back_len {o B : List Int} (h : BackSt o o.length B) : B.length = o.length ∧ ∀ (i : Nat) (hi : i < o.length), B.getD o[i].toNat 0 = (i : Int) := ⟨h.len, fun i hi => h.got i hi hi⟩
end Go.Proofs.Ytcdbcoaiadipjaa

/- stratalaw4's name and many. -/
namespace Go.Proofs.Ytcdbcoaiadipjaa
open Go Go.RowKit Go.Proofs
set_option synthInstance.maxSize 1000

theorem nameS_any (S : List UInt8) (w : World) : Calls Try.prog 4 #[.string ⟨S.toArray⟩] w
    fun e w' => e = .returned (.agg #[.int .i64 1, .string ⟨S.toArray⟩, .string ⟨#[]⟩]) ∧ RowKit.Below w.heap.size w w' := by
  go_enter Try.func4, Try.ntmps4
  go_wp2
  refine bodyPost_ret (v := .agg #[.int .i64 1, .string ⟨S.toArray⟩, .string ⟨#[]⟩]) (by simp [results, Try.results4, go_sem]) rfl ⟨rfl, balloc _ _⟩

theorem mKeepM {W W' : World} {p0 p1 p2 : Addr} {v0 v1 v2 : Value} {base : Nat} {e : TypeId} {sz : Nat} {v : Value} {n : Nat} {cs : List Value}
    (h : W.cell? p0 = some v0 ∧ W.cell? p1 = some v1 ∧ W.cell? p2 = some v2 ∧ W.ownsRow base e sz v n cs) (hb : RowKit.Below W.heap.size W W') : W'.cell? p0 = some v0 ∧ W'.cell? p1 = some v1 ∧ W'.cell? p2 = some v2 ∧ W'.ownsRow base e sz v n cs :=
  ⟨(hb.cell (World.block_lt_of_cell? W _ h.1)).trans h.1, (hb.cell (World.block_lt_of_cell? W _ h.2.1)).trans h.2.1, (hb.cell (World.block_lt_of_cell? W _ h.2.2.1)).trans h.2.2.1, ownsRow_below h.2.2.2 hb⟩

theorem mKeepS {W W' : World} {B : Nat} {p0 p1 p2 : Addr} {v0 v1 v2 : Value} (h : W.cell? p0 = some v0 ∧ W.cell? p1 = some v1 ∧ W.cell? p2 = some v2 ∧ B < W.heap.size) (hb : RowKit.Below W.heap.size W W') : W'.cell? p0 = some v0 ∧ W'.cell? p1 = some v1 ∧ W'.cell? p2 = some v2 ∧ B < W'.heap.size :=
  ⟨(hb.cell (World.block_lt_of_cell? W _ h.1)).trans h.1, (hb.cell (World.block_lt_of_cell? W _ h.2.1)).trans h.2.1, (hb.cell (World.block_lt_of_cell? W _ h.2.2.1)).trans h.2.2.1, Nat.lt_of_lt_of_le h.2.2.2 hb.size⟩
theorem mKeepA {W : World} {B : Nat} {p0 p1 p2 : Addr} {v0 v1 v2 : Value} (h : W.cell? p0 = some v0 ∧ W.cell? p1 = some v1 ∧ W.cell? p2 = some v2 ∧ B < W.heap.size) (o : Obj) : (W.alloc o).cell? p0 = some v0 ∧ (W.alloc o).cell? p1 = some v1 ∧ (W.alloc o).cell? p2 = some v2 ∧ B < (W.alloc o).heap.size := mKeepS h (balloc W o)
theorem mKeepG {W W' : World} {B : Nat} {v0 v1 v2 : Value} {row : Option Nat} (h : W.cell? ⟨B, 0, none⟩ = some v0 ∧ W.cell? ⟨B, 1, none⟩ = some v1 ∧ W.cell? ⟨B, 2, none⟩ = some v2 ∧ B < W.heap.size) (hg : W.grownBy W' row) (hne : row ≠ some B) : W'.cell? ⟨B, 0, none⟩ = some v0 ∧ W'.cell? ⟨B, 1, none⟩ = some v1 ∧ W'.cell? ⟨B, 2, none⟩ = some v2 ∧ B < W'.heap.size :=
  ⟨hg.cell h.1 (Ne.symm hne), hg.cell h.2.1 (Ne.symm hne), hg.cell h.2.2.1 (Ne.symm hne), Nat.lt_of_lt_of_le h.2.2.2 hg.size⟩

set_option maxHeartbeats 4000000 in
set_option maxRecDepth 100000 in
theorem many_any (n : Nat) (w : World) (hn : n ≤ 200) : Calls Try.prog 6 #[.int .i64 n] w
    fun e w' => ∃ v, e = .returned v ∧ w'.ownsRow w.heap.size 50 9 v n (cellsT (manyL 115 n)) ∧ RowKit.Below w.heap.size w w' := by
  obtain ⟨i0, hi, hz⟩ := Option.map_eq_some_iff.1 infoTr
  simp only [Prod.mk.injEq] at hz
  obtain ⟨hz0, hz1, hz2⟩ := hz
  have NS := fun W => nameS_any [115] W
  have NP := fun W => nameS_any [112] W
  go_enter Try.func6, Try.ntmps6
  go_wp2_with fail
  go_loopw [3, 4] (fun v i wr => ∃ k : Nat, k ≤ n ∧ i = .int .i64 k ∧ Hid (wr.ownsRow w.heap.size 50 9 v k (cellsT (manyL 115 k))) ∧ RowKit.Below w.heap.size w wr) (fun _ i wr => n - (intOf i).toNat)
  case atStart => exact ⟨0, Nat.zero_le _, rfl, World.ownsRow_nil _ _ _ _, RowKit.Below.refl _ _⟩
  case round =>
    obtain ⟨k, hk, rfl, hown, hbr⟩ := hrel
    by_cases hlt : k < n
    · have i1 : (k : Int) < (n : Int) := by omega
      have HT := text_any k wr (by omega)
      have hnew : Hid (manyL 115 (k + 1) = manyL 115 k ++ [(nameT 115, nameT 112, textT k)]) := manyL_succ 115 k
      generalize textT k = y at *
      generalize manyL 115 k = t0 at *
      unfold valTmL at HT
      go_wp2_with fail
      refine HT.mono ?_
      rintro e w1 ⟨rfl, hb1⟩
      have hB1 := bstep hbr hb1
      have ho1 := hideT (ownsRow_below hown.out hb1)
      have hz1' := hB1.size
      clear HT hown hb1 hbr
      go_wp2_with fail
      have hne : u3.ownBlock ≠ some w1.heap.size := fun e => by have := (ho1.out.lt _ e).2; omega
      go_region_held3 (fun W => W.cell? ⟨w1.heap.size, 0, none⟩ = some (.int .i64 y.1) ∧ W.cell? ⟨w1.heap.size, 1, none⟩ = some (.string ⟨y.2.1.toArray⟩) ∧ W.cell? ⟨w1.heap.size, 2, none⟩ = some (.string ⟨y.2.2.toArray⟩) ∧ w1.heap.size < W.heap.size)
        (first
          | (refine mKeepG ?_ hgrow hne; assumption)
          | (refine mKeepS ?_ hb3; assumption)
          | (refine mKeepS ?_ hb2; assumption)
          | (refine mKeepA ?_ _; assumption)
          | (refine ⟨?_, ?_, ?_, ?_⟩ <;> first | (go_simp; done) | (simp; done)))
        (first
          | (go_at_call_of 4 (Value.string ⟨#[115]⟩); refine (NS _).mono ?_; rintro e w2 ⟨rfl, hb2⟩)
          | (go_at_call_of 4 (Value.string ⟨#[112]⟩); refine (NP _).mono ?_; rintro e w3 ⟨rfl, hb3⟩)
          | (refine step_append_lies _ (by rfl) _ _ _ (by rfl) w.heap.size 50 i0 _ 9 120 Try.underlying22 hi hz0 hz1 hz2 rfl (by omega) u3 k (cellsT t0) (by rfl) ((ownsRow_below (ownsRow_below (ho1.out.alloc _).drew hb2) hb3).alloc _)
              ⟨w3.heap.size, 0, none⟩ 1 1 (encTr (nameT 115, nameT 112, y)) (by rfl) (by rfl) (World.news_of_block (cs := (encTr (nameT 115, nameT 112, y)).toArray) (t := 50) (fr := (0, 0)) (heap_alloc_new w3 _)) (encTr_one _)
              (by omega) (by unfold maxLen; omega) (by omega) (by have h1 := hb2.size; have h2 := hb3.size; simp at h1 h2 ⊢; omega) (w3.heap.size + 1) (by simp) ?_; intro gg cap w4 hown4 hgrow hat hlt4))
      have hB4 : RowKit.Below w.heap.size w w4 := by
        have hb12 := bstep (bstep (bstep hB1 (balloc _ _)).drew hb2) hb3
        exact (bstep hb12 (balloc _ _)).grown hgrow (by have := hb12.size; simp; omega) (fun j hj => (ho1.out.lt j hj).1)
      go_wp2_with fail
      go_roundw
      case rel =>
        refine ⟨k + 1, by omega, by go_num, ?_, hB4⟩
        show World.ownsRow _ _ _ _ _ _ _
        rw [hnew.out]
        simpa [cellsT] using hown4
      case measure => simp [intOf]; omega
    · obtain rfl : k = n := by omega
      go_wp2_with fail
      go_ret
      exact ⟨_, rfl, hown.out, hbr⟩
end Go.Proofs.Ytcdbcoaiadipjaa

/- stratasame.Parts and stratasame.Query of what is the same. -/
namespace Go.Proofs.Ytcdbcoaiadipjaa
open Go Go.RowKit Go.Proofs Go.Maps
set_option synthInstance.maxSize 1000

set_option maxRecDepth 100000 in
set_option maxHeartbeats 1000000 in
theorem equalPt (x : Pt) (w : World) : (Op.equalIn 10000 32 (valPt x) (valPt x)).run Try.prog w = .ok true w := by
  have hS : Try.prog.underlying 32 = some (.struct (Try.prog.fieldsOf 32)) := by kernel_rfl
  unfold valPt
  rw [show (10000 : Nat) = 9999 + 1 from rfl, run_equalIn_agg w 9999 32 _ _ hS (by kernel_rfl)]
  simp only [Program.fieldsOf, Try.underlying32]
  go_simp
theorem neqPt (x : Pt) (w : World) : (binOp .neq 32 (valPt x) (valPt x)).run Try.prog w = .ok (.bool false) w := by
  have h := equalPt x w
  unfold valPt at h ⊢
  rw [run_neq_struct, h]; rfl
theorem neqPtV (x : Pt) (w : World) : (binOp .neq 32 (.agg #[.string ⟨x.1.1.toArray⟩, .int .i64 x.1.2.1, .string ⟨x.1.2.2.1.toArray⟩, .string ⟨x.1.2.2.2.toArray⟩, .string ⟨x.2.1.1.toArray⟩, .int .i64 x.2.1.2.1, .string ⟨x.2.1.2.2.1.toArray⟩, .string ⟨x.2.1.2.2.2.toArray⟩, .string ⟨x.2.2.1.toArray⟩, .int .i64 x.2.2.2.1, .string ⟨x.2.2.2.2.1.toArray⟩, .string ⟨x.2.2.2.2.2.toArray⟩]) (.agg #[.string ⟨x.1.1.toArray⟩, .int .i64 x.1.2.1, .string ⟨x.1.2.2.1.toArray⟩, .string ⟨x.1.2.2.2.toArray⟩, .string ⟨x.2.1.1.toArray⟩, .int .i64 x.2.1.2.1, .string ⟨x.2.1.2.2.1.toArray⟩, .string ⟨x.2.1.2.2.2.toArray⟩, .string ⟨x.2.2.1.toArray⟩, .int .i64 x.2.2.2.1, .string ⟨x.2.2.2.2.1.toArray⟩, .string ⟨x.2.2.2.2.2.toArray⟩])).run Try.prog w = .ok (.bool false) w := neqPt x w
attribute [local go_sem ↓] neqPtV

set_option maxHeartbeats 2000000 in
set_option maxRecDepth 100000 in
theorem SameParts_true (ad bd : Option Addr) (ca cb : Nat) (l : List Pt) (w : World) (hl : SlPt w ad l) (hm : SlPt w bd l) (h200 : l.length ≤ 9223372036854775807) :
    Calls Try.prog 17 #[.slice ad l.length ca, .slice bd l.length cb] w fun e w' => e = .returned (.bool true) ∧ RowKit.Below w.heap.size w w' := by
  have Hl := hideQ hl
  have Hm := hideQ hm
  clear hl hm
  have hd : ((l.length : Int) != (l.length : Int)) = false := by simp
  go_enter Try.func17, Try.ntmps17
  go_wp2_with fail
  go_loopw [5] (fun i wr => ∃ (k q : Nat), k ≤ l.length ∧ i = .int .i64 k ∧ wr = w.drewN q) (fun i wr => l.length - (intOf i).toNat)
  case atStart => exact ⟨0, 0, by omega, rfl, rfl⟩
  case round =>
    obtain ⟨k, q, hk, rfl, rfl⟩ := hrel
    by_cases hlt : k < l.length
    · obtain ⟨b, o, rfl, hr⟩ := Hl.out.at k hlt
      obtain ⟨b', o', rfl, hr'⟩ := Hm.out.at k hlt
      have hat := hr.at k hlt
      have hat' := hr'.at k hlt
      have e0 := hat 0 _ rfl
      have e1 := hat 1 _ rfl
      have e2 := hat 2 _ rfl
      have e3 := hat 3 _ rfl
      have e4 := hat 4 _ rfl
      have e5 := hat 5 _ rfl
      have e6 := hat 6 _ rfl
      have e7 := hat 7 _ rfl
      have e8 := hat 8 _ rfl
      have e9 := hat 9 _ rfl
      have e10 := hat 10 _ rfl
      have e11 := hat 11 _ rfl
      rw [Nat.add_zero] at e0
      have f0 := hat' 0 _ rfl
      have f1 := hat' 1 _ rfl
      have f2 := hat' 2 _ rfl
      have f3 := hat' 3 _ rfl
      have f4 := hat' 4 _ rfl
      have f5 := hat' 5 _ rfl
      have f6 := hat' 6 _ rfl
      have f7 := hat' 7 _ rfl
      have f8 := hat' 8 _ rfl
      have f9 := hat' 9 _ rfl
      have f10 := hat' 10 _ rfl
      have f11 := hat' 11 _ rfl
      rw [Nat.add_zero] at f0
      have i0 : (0 : Int) ≤ (k : Int) := by omega
      have i1 : (k : Int) < (l.length : Int) := by omega
      clear hr hr' hat hat'
      go_wp2_with fail
      go_region
      go_wp2
      exact ⟨⟨k + 1, q + 1, by omega, by go_num, rfl⟩, by simp [intOf]; omega⟩
    · go_wp2
      go_ret
      exact ⟨rfl, ⟨rfl, rfl, rfl, Nat.le_refl _, fun _ _ => rfl⟩⟩

set_option maxHeartbeats 4000000 in
set_option maxRecDepth 100000 in
theorem SameQuery_true (q : Qu) (vd pd vd' pd' : Option Addr) (vc pc vc' pc' : Nat) (w : World) (h : QuIn w q vd pd) (h' : QuIn w q vd' pd') (hv : q.vars.length ≤ 9223372036854775807) (hp : q.parts.length ≤ 9223372036854775807) :
    Calls Try.prog 8 #[valQ q vd vc pd pc, valQ q vd' vc' pd' pc'] w fun e w' => e = .returned (.bool true) ∧ RowKit.Below w.heap.size w w' := by
  have HT := fun W hW => SameTextsW_any vd vd' vc vc' q.vars q.vars W (h.below hW).vars (h'.below hW).vars hv hv
  have HP := fun W hW => SameParts_true pd pd' pc pc' q.parts W (h.below hW).parts (h'.below hW).parts hp
  have hdt : decide (q.vars = q.vars) = true := by simp
  rw [hdt] at HT
  have so : (q.order == q.order) = true := by simp
  have sd : (q.down == q.down) = true := by simp
  have si : (q.dist == q.dist) = true := by simp
  have sl : (q.lim == q.lim) = true := by simp
  clear h h' hdt
  unfold valQ
  obtain ⟨w1, hw1⟩ : ∃ w1, w1 = w.alloc (.cells #[.slice vd q.vars.length vc, .slice pd q.parts.length pc, .string ⟨q.order.toArray⟩, .bool q.down, .bool q.dist, .int .i64 q.lim] 26) := ⟨_, rfl⟩
  obtain ⟨w2, hw2⟩ : ∃ w2, w2 = w1.alloc (.cells #[.slice vd' q.vars.length vc', .slice pd' q.parts.length pc', .string ⟨q.order.toArray⟩, .bool q.down, .bool q.dist, .int .i64 q.lim] 26) := ⟨_, rfl⟩
  have hz : w1.heap.size = w.heap.size + 1 := by rw [hw1]; simp
  have hb2 : RowKit.Below w.heap.size w w2 := by rw [hw2, hw1]; exact bstep (balloc _ _) (balloc _ _)
  have HA : Hid (BoxQ w2 w.heap.size q vd pd vc pc) := by show BoxQ _ _ _ _ _ _ _; rw [hw2]; refine BoxQ.below ?_ (balloc _ _); rw [hw1]; exact boxQ_new _ _ _ _ _ _
  have HB : Hid (BoxQ w2 (w.heap.size + 1) q vd' pd' vc' pc') := by show BoxQ _ _ _ _ _ _ _; rw [hw2, ← hz]; exact boxQ_new _ _ _ _ _ _
  have HW2 := hideQ hw2
  rw [hw1] at HW2
  clear hw1 hw2 hz
  go_enter Try.func8, Try.ntmps8
  go_upto_region 1 with fail
  rw [← HW2.out]
  clear HW2
  obtain ⟨a0, a1, a2, a3, a4, a5⟩ := HA.out
  obtain ⟨b0, b1, b2, b3, b4, b5⟩ := HB.out
  go_wp2_with fail
  refine (HT _ hb2).mono ?_
  rintro e w3 ⟨rfl, hb3⟩
  have hB3 := bstep hb2 hb3
  have HA3 := hideQ (HA.out.below hb3)
  have HB3 := hideQ (HB.out.below hb3)
  clear a0 a1 a2 a3 a4 a5 b0 b1 b2 b3 b4 b5 HA HB
  obtain ⟨a0, a1, a2, a3, a4, a5⟩ := HA3.out
  obtain ⟨b0, b1, b2, b3, b4, b5⟩ := HB3.out
  go_wp2_with fail
  refine (HP _ hB3).mono ?_
  rintro e w4 ⟨rfl, hb4⟩
  have hB4 := bstep hB3 hb4
  have HA4 := hideQ (HA3.out.below hb4)
  have HB4 := hideQ (HB3.out.below hb4)
  clear a0 a1 a2 a3 a4 a5 b0 b1 b2 b3 b4 b5 HA3 HB3
  obtain ⟨a0, a1, a2, a3, a4, a5⟩ := HA4.out
  obtain ⟨b0, b1, b2, b3, b4, b5⟩ := HB4.out
  go_wp2_with fail
  go_ret
  exact ⟨rfl, hB4⟩
end Go.Proofs.Ytcdbcoaiadipjaa

/- stratalaw4.PlanAll: the walk. -/
namespace Go.Proofs.Ytcdbcoaiadipjaa
open Go Go.RowKit Go.Proofs Go.Maps
set_option synthInstance.maxSize 1000
attribute [local go_sem] eql_errV neq_errV guard_errV

theorem turnB6P {W W' : World} {B : Nat} {v0 v1 v2 v3 v4 v5 : Value} (h : W.cell? ⟨B, 0, none⟩ = some v0 ∧ W.cell? ⟨B, 1, none⟩ = some v1 ∧ W.cell? ⟨B, 2, none⟩ = some v2 ∧ W.cell? ⟨B, 3, none⟩ = some v3 ∧ W.cell? ⟨B, 4, none⟩ = some v4 ∧ W.cell? ⟨B, 5, none⟩ = some v5) (hb : RowKit.Below W.heap.size W W') :
    W'.cell? ⟨B, 0, none⟩ = some v0 ∧ W'.cell? ⟨B, 1, none⟩ = some v1 ∧ W'.cell? ⟨B, 2, none⟩ = some v2 ∧ W'.cell? ⟨B, 3, none⟩ = some v3 ∧ W'.cell? ⟨B, 4, none⟩ = some v4 ∧ W'.cell? ⟨B, 5, none⟩ = some v5 :=
  have s : ∀ {a : Addr} {v : Value}, W.cell? a = some v → W'.cell? a = some v := fun c => (hb.cell (World.block_lt_of_cell? W _ c)).trans c
  ⟨s h.1, s h.2.1, s h.2.2.1, s h.2.2.2.1, s h.2.2.2.2.1, s h.2.2.2.2.2⟩
theorem planFact (xd vd pd : Option Addr) (xc vc pc : Nat) (w : World) (hx : SlT w xd (manyL 115 2)) (hv : SlW w vd [[120]]) (hp : SlPt w pd [planP0, planR0]) (hc : 1 ≤ vc) :
    Calls Try.prog 5 #[.slice xd 2 xc, .agg #[.slice vd 1 vc, .slice pd 2 pc, .string ⟨#[]⟩, .bool false, .bool false, .int .i64 (-1)]] w fun e w' => RowKit.Below w.heap.size w w' ∧ ∃ ad c, e = .returned (.tuple #[.slice ad 2 c, .nilIface]) ∧ SlI w' ad [1, 0] := by
  have := Order_any xd xc (manyL 115 2) planQ0 vd pd vc pc w hx (manyS (by omega)).fit (by rw [manyL_len]; omega) ⟨hv, hp⟩ plan0fit hc
  unfold OrderAns at this
  rw [plan0N, plan0L] at this
  exact this.mono fun _ _ ⟨h1, _, h3⟩ => ⟨h1, h3 rfl⟩
theorem slPt_two {w : World} {b : Nat} {p r : Pt} (h : RowPt w b 0 [p, r]) : SlPt w (some ⟨b, 0, none⟩) [p, r] := fun _ => ⟨b, 0, rfl, h⟩
set_option maxHeartbeats 16000000 in
set_option maxRecDepth 1000000 in
theorem planAll_any (ad vd pd : Option Addr) (ca vc pc : Nat) (l : List Tr) (q : Qu) (w : World) (h : SlT w ad l) (hfit : ∀ x ∈ l, fitTr x) (hn : l.length ≤ 9223372036854775807) (hq : QuIn w q vd pd) (hf : FitQ q) (hvc : q.vars.length ≤ vc) :
    Calls Try.prog 3 #[.slice ad l.length ca, valQ q vd vc pd pc] w fun e w' => e = .returned (.bool true) ∧ RowKit.Below w.heap.size w w' := by
  have HOr := hideE (fun W (hb : RowKit.Below w.heap.size w W) => Order_any ad ca l q vd pd vc pc W (h.below hb) hfit hn (hq.below hb) hf hvc)
  have HSw := hideE (fun W (hb : RowKit.Below w.heap.size w W) (ud : Option Addr) (uc : Nat) (u : List Int) (hu : SlI W ud u) (hl : u.length ≤ 9223372036854775807) => Swap_any q vd pd vc pc ud uc u W (hq.below hb) hf hvc hu hl)
  have Hq := hideE hq
  have Hf := hideE hf
  have Hvc := hideE hvc
  have NS := fun W => nameS_any [115] W
  have CM := fun W => many_any 2 W (by omega)
  have hboxQ := hideE (boxQ_new w q vd pd vc pc)
  clear h hfit hn hq hf hvc
  unfold valQ
  go_enter Try.func3, Try.ntmps3
  go_wp2_with fail
  obtain ⟨W0, hW0⟩ : ∃ W, W = ((w.alloc (.cells #[.slice vd q.vars.length vc, .slice pd q.parts.length pc, .string ⟨q.order.toArray⟩, .bool q.down, .bool q.dist, .int .i64 q.lim] 26)).alloc (.cells #[.string ⟨#[120]⟩, .int .i64 0, .string ⟨#[]⟩, .string ⟨#[]⟩, .string ⟨#[121]⟩, .int .i64 0, .string ⟨#[]⟩, .string ⟨#[]⟩, .string ⟨#[122]⟩, .int .i64 0, .string ⟨#[]⟩, .string ⟨#[]⟩] 32)).alloc (.cells #[.string ⟨#[120]⟩, .int .i64 0, .string ⟨#[]⟩, .string ⟨#[]⟩, .string ⟨#[121]⟩, .int .i64 0, .string ⟨#[]⟩, .string ⟨#[]⟩, .string ⟨#[122]⟩, .int .i64 0, .string ⟨#[]⟩, .string ⟨#[]⟩] 32) := ⟨_, rfl⟩
  have b0 : RowKit.Below w.heap.size w W0 := by rw [hW0]; exact bstep (bstep (balloc _ _) (balloc _ _)) (balloc _ _)
  have hX0 := hideE (show BoxQ W0 w.heap.size q vd pd vc pc by rw [hW0]; exact (hboxQ.out.below (balloc _ _)).below (balloc _ _))
  have z0 : W0.heap.size = w.heap.size + 1 + 1 + 1 := by rw [hW0]; simp
  have a0 : W0.cell? ⟨w.heap.size + 1, 0, none⟩ = some (.string ⟨#[120]⟩) := by rw [hW0]; go_simp
  have a1 : W0.cell? ⟨w.heap.size + 1, 1, none⟩ = some (.int .i64 0) := by rw [hW0]; go_simp
  have a2 : W0.cell? ⟨w.heap.size + 1, 2, none⟩ = some (.string ⟨#[]⟩) := by rw [hW0]; go_simp
  have a3 : W0.cell? ⟨w.heap.size + 1, 3, none⟩ = some (.string ⟨#[]⟩) := by rw [hW0]; go_simp
  have a4 : W0.cell? ⟨w.heap.size + 1, 4, none⟩ = some (.string ⟨#[121]⟩) := by rw [hW0]; go_simp
  have a5 : W0.cell? ⟨w.heap.size + 1, 5, none⟩ = some (.int .i64 0) := by rw [hW0]; go_simp
  have a6 : W0.cell? ⟨w.heap.size + 1, 6, none⟩ = some (.string ⟨#[]⟩) := by rw [hW0]; go_simp
  have a7 : W0.cell? ⟨w.heap.size + 1, 7, none⟩ = some (.string ⟨#[]⟩) := by rw [hW0]; go_simp
  have a8 : W0.cell? ⟨w.heap.size + 1, 8, none⟩ = some (.string ⟨#[122]⟩) := by rw [hW0]; go_simp
  have a9 : W0.cell? ⟨w.heap.size + 1, 9, none⟩ = some (.int .i64 0) := by rw [hW0]; go_simp
  have a10 : W0.cell? ⟨w.heap.size + 1, 10, none⟩ = some (.string ⟨#[]⟩) := by rw [hW0]; go_simp
  have a11 : W0.cell? ⟨w.heap.size + 1, 11, none⟩ = some (.string ⟨#[]⟩) := by rw [hW0]; go_simp
  have r0 : W0.cell? ⟨w.heap.size + 1 + 1, 0, none⟩ = some (.string ⟨#[120]⟩) := by rw [hW0]; go_simp
  have r1 : W0.cell? ⟨w.heap.size + 1 + 1, 1, none⟩ = some (.int .i64 0) := by rw [hW0]; go_simp
  have r2 : W0.cell? ⟨w.heap.size + 1 + 1, 2, none⟩ = some (.string ⟨#[]⟩) := by rw [hW0]; go_simp
  have r3 : W0.cell? ⟨w.heap.size + 1 + 1, 3, none⟩ = some (.string ⟨#[]⟩) := by rw [hW0]; go_simp
  have r4 : W0.cell? ⟨w.heap.size + 1 + 1, 4, none⟩ = some (.string ⟨#[121]⟩) := by rw [hW0]; go_simp
  have r5 : W0.cell? ⟨w.heap.size + 1 + 1, 5, none⟩ = some (.int .i64 0) := by rw [hW0]; go_simp
  have r6 : W0.cell? ⟨w.heap.size + 1 + 1, 6, none⟩ = some (.string ⟨#[]⟩) := by rw [hW0]; go_simp
  have r7 : W0.cell? ⟨w.heap.size + 1 + 1, 7, none⟩ = some (.string ⟨#[]⟩) := by rw [hW0]; go_simp
  have r8 : W0.cell? ⟨w.heap.size + 1 + 1, 8, none⟩ = some (.string ⟨#[122]⟩) := by rw [hW0]; go_simp
  have r9 : W0.cell? ⟨w.heap.size + 1 + 1, 9, none⟩ = some (.int .i64 0) := by rw [hW0]; go_simp
  have r10 : W0.cell? ⟨w.heap.size + 1 + 1, 10, none⟩ = some (.string ⟨#[]⟩) := by rw [hW0]; go_simp
  have r11 : W0.cell? ⟨w.heap.size + 1 + 1, 11, none⟩ = some (.string ⟨#[]⟩) := by rw [hW0]; go_simp
  have f0 : W0.frozen? ⟨w.heap.size + 1 + 1, 0, none⟩ = false := by rw [hW0]; go_simp
  have f1 : W0.frozen? ⟨w.heap.size + 1 + 1, 1, none⟩ = false := by rw [hW0]; go_simp
  have f2 : W0.frozen? ⟨w.heap.size + 1 + 1, 2, none⟩ = false := by rw [hW0]; go_simp
  have f3 : W0.frozen? ⟨w.heap.size + 1 + 1, 3, none⟩ = false := by rw [hW0]; go_simp
  rw [← hW0]
  clear hW0 hboxQ
  refine (NS _).mono ?_
  rintro e w1 ⟨rfl, hb1⟩
  have hlz : w.heap.size + 1 + 1 < W0.heap.size := by omega
  replace a0 := cell_k a0 hb1
  replace r0 := cell_k r0 hb1
  replace a1 := cell_k a1 hb1
  replace r1 := cell_k r1 hb1
  replace a2 := cell_k a2 hb1
  replace r2 := cell_k r2 hb1
  replace a3 := cell_k a3 hb1
  replace r3 := cell_k r3 hb1
  replace a4 := cell_k a4 hb1
  replace r4 := cell_k r4 hb1
  replace a5 := cell_k a5 hb1
  replace r5 := cell_k r5 hb1
  replace a6 := cell_k a6 hb1
  replace r6 := cell_k r6 hb1
  replace a7 := cell_k a7 hb1
  replace r7 := cell_k r7 hb1
  replace a8 := cell_k a8 hb1
  replace r8 := cell_k r8 hb1
  replace a9 := cell_k a9 hb1
  replace r9 := cell_k r9 hb1
  replace a10 := cell_k a10 hb1
  replace r10 := cell_k r10 hb1
  replace a11 := cell_k a11 hb1
  replace r11 := cell_k r11 hb1
  replace f0 := (hb1.frozen (p := ⟨w.heap.size + 1 + 1, 0, none⟩) hlz).trans f0
  replace f1 := (hb1.frozen (p := ⟨w.heap.size + 1 + 1, 1, none⟩) hlz).trans f1
  replace f2 := (hb1.frozen (p := ⟨w.heap.size + 1 + 1, 2, none⟩) hlz).trans f2
  replace f3 := (hb1.frozen (p := ⟨w.heap.size + 1 + 1, 3, none⟩) hlz).trans f3
  have hX1 := hideE (hX0.out.below hb1)
  have hB1 := bstep b0 hb1
  have hz1 : w.heap.size + 1 + 1 < w1.heap.size := by have := hb1.size; omega
  clear hX0 b0 z0 hb1 hlz NS
  dsimp only
  go_upto_region 4 with fail
  obtain ⟨X, hX⟩ : ∃ X, X = (((w1.setCell ⟨w.heap.size + 1 + 1, 0, none⟩ (.string ⟨#[]⟩)).setCell ⟨w.heap.size + 1 + 1, 1, none⟩ (.int .i64 1)).setCell ⟨w.heap.size + 1 + 1, 2, none⟩ (.string ⟨#[115]⟩)).setCell ⟨w.heap.size + 1 + 1, 3, none⟩ (.string ⟨#[]⟩) := ⟨_, rfl⟩
  replace a0 : X.cell? ⟨w.heap.size + 1, 0, none⟩ = some (.string ⟨#[120]⟩) := by rw [hX]; go_simp
  replace r0 : X.cell? ⟨w.heap.size + 1 + 1, 0, none⟩ = some (.string ⟨#[]⟩) := by rw [hX]; go_simp
  replace a1 : X.cell? ⟨w.heap.size + 1, 1, none⟩ = some (.int .i64 0) := by rw [hX]; go_simp
  replace r1 : X.cell? ⟨w.heap.size + 1 + 1, 1, none⟩ = some (.int .i64 1) := by rw [hX]; go_simp
  replace a2 : X.cell? ⟨w.heap.size + 1, 2, none⟩ = some (.string ⟨#[]⟩) := by rw [hX]; go_simp
  replace r2 : X.cell? ⟨w.heap.size + 1 + 1, 2, none⟩ = some (.string ⟨#[115]⟩) := by rw [hX]; go_simp
  replace a3 : X.cell? ⟨w.heap.size + 1, 3, none⟩ = some (.string ⟨#[]⟩) := by rw [hX]; go_simp
  replace r3 : X.cell? ⟨w.heap.size + 1 + 1, 3, none⟩ = some (.string ⟨#[]⟩) := by rw [hX]; go_simp
  replace a4 : X.cell? ⟨w.heap.size + 1, 4, none⟩ = some (.string ⟨#[121]⟩) := by rw [hX]; go_simp
  replace r4 : X.cell? ⟨w.heap.size + 1 + 1, 4, none⟩ = some (.string ⟨#[121]⟩) := by rw [hX]; go_simp
  replace a5 : X.cell? ⟨w.heap.size + 1, 5, none⟩ = some (.int .i64 0) := by rw [hX]; go_simp
  replace r5 : X.cell? ⟨w.heap.size + 1 + 1, 5, none⟩ = some (.int .i64 0) := by rw [hX]; go_simp
  replace a6 : X.cell? ⟨w.heap.size + 1, 6, none⟩ = some (.string ⟨#[]⟩) := by rw [hX]; go_simp
  replace r6 : X.cell? ⟨w.heap.size + 1 + 1, 6, none⟩ = some (.string ⟨#[]⟩) := by rw [hX]; go_simp
  replace a7 : X.cell? ⟨w.heap.size + 1, 7, none⟩ = some (.string ⟨#[]⟩) := by rw [hX]; go_simp
  replace r7 : X.cell? ⟨w.heap.size + 1 + 1, 7, none⟩ = some (.string ⟨#[]⟩) := by rw [hX]; go_simp
  replace a8 : X.cell? ⟨w.heap.size + 1, 8, none⟩ = some (.string ⟨#[122]⟩) := by rw [hX]; go_simp
  replace r8 : X.cell? ⟨w.heap.size + 1 + 1, 8, none⟩ = some (.string ⟨#[122]⟩) := by rw [hX]; go_simp
  replace a9 : X.cell? ⟨w.heap.size + 1, 9, none⟩ = some (.int .i64 0) := by rw [hX]; go_simp
  replace r9 : X.cell? ⟨w.heap.size + 1 + 1, 9, none⟩ = some (.int .i64 0) := by rw [hX]; go_simp
  replace a10 : X.cell? ⟨w.heap.size + 1, 10, none⟩ = some (.string ⟨#[]⟩) := by rw [hX]; go_simp
  replace r10 : X.cell? ⟨w.heap.size + 1 + 1, 10, none⟩ = some (.string ⟨#[]⟩) := by rw [hX]; go_simp
  replace a11 : X.cell? ⟨w.heap.size + 1, 11, none⟩ = some (.string ⟨#[]⟩) := by rw [hX]; go_simp
  replace r11 : X.cell? ⟨w.heap.size + 1 + 1, 11, none⟩ = some (.string ⟨#[]⟩) := by rw [hX]; go_simp
  have hBX : RowKit.Below w.heap.size w X := by
    rw [hX]
    exact (((hB1.setCell (p := ⟨w.heap.size + 1 + 1, 0, none⟩) (by simp; omega) _).setCell (p := ⟨w.heap.size + 1 + 1, 1, none⟩) (by simp; omega) _).setCell (p := ⟨w.heap.size + 1 + 1, 2, none⟩) (by simp; omega) _).setCell (p := ⟨w.heap.size + 1 + 1, 3, none⟩) (by simp; omega) _
  have hzX : w.heap.size + 1 + 1 < X.heap.size := by rw [hX]; simpa using hz1
  have hXX := hideE (show BoxQ X w.heap.size q vd pd vc pc by
    obtain ⟨x0, x1, x2, x3, x4, x5⟩ := hX1.out
    rw [hX]
    refine ⟨?_, ?_, ?_, ?_, ?_, ?_⟩ <;> go_simp)
  rw [← hX]
  clear hX hX1 hB1 hz1 f0 f1 f2 f3
  have a0A := cell_k a0 (balloc X (.cells #[.string ⟨#[120]⟩] 9))
  have r0A := cell_k r0 (balloc X (.cells #[.string ⟨#[120]⟩] 9))
  have a1A := cell_k a1 (balloc X (.cells #[.string ⟨#[120]⟩] 9))
  have r1A := cell_k r1 (balloc X (.cells #[.string ⟨#[120]⟩] 9))
  have a2A := cell_k a2 (balloc X (.cells #[.string ⟨#[120]⟩] 9))
  have r2A := cell_k r2 (balloc X (.cells #[.string ⟨#[120]⟩] 9))
  have a3A := cell_k a3 (balloc X (.cells #[.string ⟨#[120]⟩] 9))
  have r3A := cell_k r3 (balloc X (.cells #[.string ⟨#[120]⟩] 9))
  have a4A := cell_k a4 (balloc X (.cells #[.string ⟨#[120]⟩] 9))
  have r4A := cell_k r4 (balloc X (.cells #[.string ⟨#[120]⟩] 9))
  have a5A := cell_k a5 (balloc X (.cells #[.string ⟨#[120]⟩] 9))
  have r5A := cell_k r5 (balloc X (.cells #[.string ⟨#[120]⟩] 9))
  have a6A := cell_k a6 (balloc X (.cells #[.string ⟨#[120]⟩] 9))
  have r6A := cell_k r6 (balloc X (.cells #[.string ⟨#[120]⟩] 9))
  have a7A := cell_k a7 (balloc X (.cells #[.string ⟨#[120]⟩] 9))
  have r7A := cell_k r7 (balloc X (.cells #[.string ⟨#[120]⟩] 9))
  have a8A := cell_k a8 (balloc X (.cells #[.string ⟨#[120]⟩] 9))
  have r8A := cell_k r8 (balloc X (.cells #[.string ⟨#[120]⟩] 9))
  have a9A := cell_k a9 (balloc X (.cells #[.string ⟨#[120]⟩] 9))
  have r9A := cell_k r9 (balloc X (.cells #[.string ⟨#[120]⟩] 9))
  have a10A := cell_k a10 (balloc X (.cells #[.string ⟨#[120]⟩] 9))
  have r10A := cell_k r10 (balloc X (.cells #[.string ⟨#[120]⟩] 9))
  have a11A := cell_k a11 (balloc X (.cells #[.string ⟨#[120]⟩] 9))
  have r11A := cell_k r11 (balloc X (.cells #[.string ⟨#[120]⟩] 9))
  clear a0 r0 a1 r1 a2 r2 a3 r3 a4 r4 a5 r5 a6 r6 a7 r7 a8 r8 a9 r9 a10 r10 a11 r11
  go_wp2_with fail
  clear a0A r0A a1A r1A a2A r2A a3A r3A a4A r4A a5A r5A a6A r6A a7A r7A a8A r8A a9A r9A a10A r10A a11A r11A
  obtain ⟨XT, hXT⟩ : ∃ W, W = X.alloc (.cells #[.string ⟨#[120]⟩] 9) := ⟨_, rfl⟩
  have zT : XT.heap.size = X.heap.size + 1 := by rw [hXT]; simp
  obtain ⟨XP, hXP⟩ : ∃ W, W = XT.alloc (.cells #[.string ⟨#[120]⟩, .int .i64 0, .string ⟨#[]⟩, .string ⟨#[]⟩, .string ⟨#[121]⟩, .int .i64 0, .string ⟨#[]⟩, .string ⟨#[]⟩, .string ⟨#[122]⟩, .int .i64 0, .string ⟨#[]⟩, .string ⟨#[]⟩, .string ⟨#[]⟩, .int .i64 1, .string ⟨#[115]⟩, .string ⟨#[]⟩, .string ⟨#[121]⟩, .int .i64 0, .string ⟨#[]⟩, .string ⟨#[]⟩, .string ⟨#[122]⟩, .int .i64 0, .string ⟨#[]⟩, .string ⟨#[]⟩] 32) := ⟨_, rfl⟩
  have zP : XP.heap.size = X.heap.size + 1 + 1 := by rw [hXP]; simp [zT]
  obtain ⟨W3, hW3⟩ : ∃ W, W = XP.alloc (.cells #[.slice (some ⟨X.heap.size, 0, none⟩) 1 1, .slice (some ⟨X.heap.size + 1, 0, none⟩) 2 2, .string ⟨#[]⟩, .bool false, .bool false, .int .i64 (-1)] 26) := ⟨_, rfl⟩
  have cT : RowKit.Below X.heap.size X XT := by rw [hXT]; exact balloc _ _
  have cP : RowKit.Below XT.heap.size XT XP := by rw [hXP]; exact balloc _ _
  have c3 : RowKit.Below XP.heap.size XP W3 := by rw [hW3]; exact balloc _ _
  have hV3 := hideE (show SlW W3 (some ⟨X.heap.size, 0, none⟩) [[120]] from SlW.below (SlW.below (fun _ => ⟨_, 0, rfl, fun j hj => by
    obtain rfl : j = 0 := by simpa using hj
    rw [hXT]
    go_simp
    rfl⟩) cP) c3)
  have hP3 := hideE (show SlPt W3 (some ⟨X.heap.size + 1, 0, none⟩) [planP0, planR0] from SlPt.below (by
    rw [← zT, hXP]
    refine slPt_two fun j v hj => ?_
    have h24 : j < 24 := (List.getElem?_eq_some_iff.1 hj).1
    rw [Nat.zero_add]
    rcases (by omega : j = 0 ∨ j = 1 ∨ j = 2 ∨ j = 3 ∨ j = 4 ∨ j = 5 ∨ j = 6 ∨ j = 7 ∨ j = 8 ∨ j = 9 ∨ j = 10 ∨ j = 11 ∨ j = 12 ∨ j = 13 ∨ j = 14 ∨ j = 15 ∨ j = 16 ∨ j = 17 ∨ j = 18 ∨ j = 19 ∨ j = 20 ∨ j = 21 ∨ j = 22 ∨ j = 23) with rfl | rfl | rfl | rfl | rfl | rfl | rfl | rfl | rfl | rfl | rfl | rfl | rfl | rfl | rfl | rfl | rfl | rfl | rfl | rfl | rfl | rfl | rfl | rfl <;> (simp [cellsPt, encPt, planP0, planR0, tmZero, nameT] at hj; subst hj; go_simp)) c3)
  have hx3 : W3.cell? ⟨X.heap.size + 1 + 1, 0, none⟩ = some (.slice (some ⟨X.heap.size, 0, none⟩) 1 1) ∧ W3.cell? ⟨X.heap.size + 1 + 1, 1, none⟩ = some (.slice (some ⟨X.heap.size + 1, 0, none⟩) 2 2) ∧ W3.cell? ⟨X.heap.size + 1 + 1, 2, none⟩ = some (.string ⟨#[]⟩) ∧ W3.cell? ⟨X.heap.size + 1 + 1, 3, none⟩ = some (.bool false) ∧ W3.cell? ⟨X.heap.size + 1 + 1, 4, none⟩ = some (.bool false) ∧ W3.cell? ⟨X.heap.size + 1 + 1, 5, none⟩ = some (.int .i64 (-1)) := by
    rw [← zP, hW3]; refine ⟨?_, ?_, ?_, ?_, ?_, ?_⟩ <;> go_simp
  have hB3 := bstep (bstep (bstep hBX cT) cP) c3
  have hX3 := hideE (((hXX.out.below cT).below cP).below c3)
  rw [← hXT, ← hXP, ← hW3]
  clear hXT hXP hW3 cT cP c3 zT zP hXX hBX hzX
  generalize X.heap.size + 1 + 1 = nB at *
  generalize X.heap.size + 1 = nP at *
  generalize X.heap.size = nV at *
  have Hx3 := hideE hx3
  go_region_held3 (fun W => W.cell? ⟨nB, 0, none⟩ = some (.slice (some ⟨nV, 0, none⟩) 1 1) ∧ W.cell? ⟨nB, 1, none⟩ = some (.slice (some ⟨nP, 0, none⟩) 2 2) ∧ W.cell? ⟨nB, 2, none⟩ = some (.string ⟨#[]⟩) ∧ W.cell? ⟨nB, 3, none⟩ = some (.bool false) ∧ W.cell? ⟨nB, 4, none⟩ = some (.bool false) ∧ W.cell? ⟨nB, 5, none⟩ = some (.int .i64 (-1)))
    (first
      | exact Hx3.out
      | exact turnB6P Hx3.out (RowKit.Below.refl _ _).drew
      | exact turnB6P (by assumption) hb5
      | exact turnB6P (by assumption) hb4)
    (first
      | (go_at_call 6; refine (CM _).mono ?_; rintro e w4 ⟨v, rfl, hv, hb4⟩; obtain ⟨xd, xc, rfl, hsl⟩ := own_slT (t := manyL 115 2) (by rw [manyL_len]; exact hv); have Hsl := hideE hsl; clear hv hsl)
      | (go_at_call 5; refine (planFact xd (some ⟨nV, 0, none⟩) (some ⟨nP, 0, none⟩) xc 1 2 _ Hsl.out (hV3.out.below (bstep (RowKit.Below.refl _ _).drew hb4)) (hP3.out.below (bstep (RowKit.Below.refl _ _).drew hb4)) (Nat.le_refl 1)).mono ?_; rintro e w5 ⟨hb5, yd, yc, rfl, hy⟩; have Hy := hideE hy; clear hy))
  have hb35 : RowKit.Below W3.heap.size W3 w5 := bstep (bstep (RowKit.Below.refl _ _).drew hb4) hb5
  clear hb4 hb5 Hsl CM hV3 hP3 Hx3 hx3
  obtain ⟨yb, yo, rfl, hyc⟩ := Hy.out (by simp)
  have y0 := hyc 0 (by simp)
  simp only [Nat.add_zero, List.getElem_cons_zero] at y0
  have hB5 := bstep hB3 hb35
  have hX5 := hideE (hX3.out.below hb35)
  obtain ⟨x0, x1, x2, x3, x4, x5⟩ := hX5.out
  clear hyc Hy hX3 hB3 hb35
  go_wp2_with fail
  refine (HOr.out w5 hB5).mono ?_
  rintro e w6 ⟨hb6, hbad, hgood⟩
  have hB6 := bstep hB5 hb6
  have hX6 := hideE (hX5.out.below hb6)
  clear x0 x1 x2 x3 x4 x5 y0 hX5 hB5 hb6
  by_cases hz : orderN l q = 0
  · obtain ⟨ao, co, rfl, hop⟩ := hgood hz
    have hask : askN q = 0 := by
      unfold orderN at hz
      by_cases h : sortedN l = 0
      · rw [if_neg (fun k => k h)] at hz; exact hz
      · rw [if_pos h] at hz; exact absurd hz h
    have hper := order_perm l q
    have holen := order_len l q
    generalize orderL l q = O at *
    have h6 := (ask_good hask).six
    have hsw0 : swapN q O = 0 := by unfold swapN; rw [if_neg (fun k => k hask), if_pos (isAll_perm.2 hper)]
    have hask2 := hideE (ask_swap hask (swap_perm hper))
    have hfit2 := hideE (swap_fit Hf.out (swap_perm hper))
    have hback := hideE (fun (B : List Int) (hb : B.length = q.parts.length) (h : ∀ (i : Nat) (hi : i < O.length), B.getD O[i].toNat 0 = (i : Int)) => swap_back hper hb h)
    have hqp := hideE ((swap_perm hper).length_eq)
    have hran := hideE (fun (i : Nat) (hi : i < O.length) => placesI_mem.1 (hper.mem_iff.1 (List.getElem_mem hi)))
    have Hper := hideE hper
    have Hop := hideE hop
    have HSw6 := HSw.out w6 hB6 ao co O hop (by omega)
    obtain ⟨np, hnp⟩ : ∃ n, n = q.parts.length := ⟨_, rfl⟩
    have Hnp := hideE hnp
    have hol := hideE (show O.length = np by omega)
    have hnp6 : np ≤ 6 := by omega
    rw [hol.out] at HSw6
    rw [← hnp]
    obtain ⟨q2, hq2⟩ : ∃ x, x = swapQ q O := ⟨_, rfl⟩
    have Hq2 := hideE hq2
    rw [← hq2] at hask2 hfit2 hqp
    have hv2 : Hid (q2.vars.length = q.vars.length) := by show _ = _; rw [hq2]; rfl
    obtain ⟨x0, x1, x2, x3, x4, x5⟩ := hX6.out
    clear hgood hbad hask hper holen h6 hop hz HOr HSw hnp
    dsimp only
    go_wp2_with fail
    refine HSw6.mono ?_
    rintro e w7 ⟨hb7, _, hgood⟩
    obtain ⟨vd2, vc2, pd2, rfl, hQ2, hvc2⟩ := hgood hsw0
    rw [← hq2] at hQ2 ⊢
    rw [hol.out]
    have HQ2 := hideE hQ2
    have Hvc2 := hideE hvc2
    have hB7 := bstep hB6 hb7
    have hX7 := hideE (hX6.out.below hb7)
    have Hop7 := hideE (Hop.out.below hb7)
    clear x0 x1 x2 x3 x4 x5 HSw6 hgood hsw0 hb7 hB6 hX6 hQ2 hvc2 hq2 Hop
    unfold valQ
    obtain ⟨W8, hW8⟩ : ∃ W, W = w7.alloc (.cells #[.slice vd2 q2.vars.length vc2, .slice pd2 q2.parts.length np, .string ⟨q2.order.toArray⟩, .bool q2.down, .bool q2.dist, .int .i64 q2.lim] 26) := ⟨_, rfl⟩
    have b8 : RowKit.Below w7.heap.size w7 W8 := by rw [hW8]; exact balloc _ _
    have hY8 := hideE (show BoxQ W8 w7.heap.size q2 vd2 pd2 vc2 np by rw [hW8]; exact boxQ_new _ _ _ _ _ _)
    have z8 : w7.heap.size < W8.heap.size := by rw [hW8]; simp
    have hX8 := hideE (hX7.out.below b8)
    have HQ8 := hideE (show QuIn W8 q2 vd2 pd2 from ⟨HQ2.out.vars.below b8, HQ2.out.parts.below b8⟩)
    have Hop8 := hideE (Hop7.out.below b8)
    have hB8 := bstep hB7 b8
    have hmk := makeInts np W8 (by omega)
    have hR0 := hideE (rowL_made W8 np)
    obtain ⟨W9, hW9⟩ : ∃ W, W = W8.alloc (.cells (madeCells #[.int .i64 0] np) 3) := ⟨_, rfl⟩
    rw [← hW9] at hmk hR0
    have b9 : RowKit.Below W8.heap.size W8 W9 := by rw [hW9]; exact balloc _ _
    dsimp only
    go_upto_region 12 with fail
    rw [← hW8]
    clear hW8 hW9 hX7 HQ2 Hop7 hB7 b8
    go_wp2_with fail
    clear hmk
    go_loopw [15] (fun i wr => ∃ (k : Nat) (B : List Int), k ≤ np ∧ i = .int .i64 k ∧ Hid (BackSt O k B) ∧ Hid (RowL wr W8.heap.size B) ∧ RowKit.Below W8.heap.size W8 wr) (fun i wr => np - (intOf i).toNat)
    case atStart => exact ⟨0, List.replicate np 0, Nat.zero_le _, rfl, by show BackSt _ _ _; rw [← hol.out]; exact BackSt.start O, hR0.out, b9⟩
    case round =>
      clear hR0 b9
      obtain ⟨k, B, hk, rfl, hS, hR, hbr⟩ := hrel
      by_cases hlt : k < np
      · have hkO : k < O.length := by rw [hol.out]; exact hlt
        obtain ⟨ob, oo, rfl, hoc⟩ := (Hop8.out.below hbr).at hkO
        have hr := hran.out k hkO
        obtain ⟨j, hj⟩ : ∃ j : Nat, O[k] = (j : Int) := ⟨O[k].toNat, by omega⟩
        have hjn : j < np := by have := Hnp.out; omega
        have hnext := hideE (hS.out.next hkO Hper.out)
        rw [hj, Int.toNat_natCast] at hnext
        rw [hj] at hoc
        have hBl : B.length = np := by rw [hS.out.len, hol.out]
        have cj := hR.out.at_ j (by omega)
        have fj := hR.out.free j (by omega)
        have hset := hideE (hR.out.set (k := j) (by omega) (k : Int))
        generalize B[j]'(by omega) = u at *
        have t1 : decide ((k : Int) < (np : Int)) = true := by simp; omega
        have t2 : decide ((j : Int) < 0) = false := by simp
        have t3 : decide ((j : Int) ≥ (np : Int)) = false := by simp; omega
        have t4 : decide ((np : Int) ≤ (j : Int)) = false := by simp; omega
        have i0 : (0 : Int) ≤ (k : Int) := by omega
        have i1 : (k : Int) < (np : Int) := by omega
        have j0 : (0 : Int) ≤ (j : Int) := by omega
        have j1 : (j : Int) < (np : Int) := by omega
        clear hr hj hkO hBl hS hR
        go_wp2_with fail
        go_roundw
        case rel => exact ⟨k + 1, B.set j (k : Int), by omega, by go_num, hnext.out, hset.out, hbr.setCell (p := ⟨W8.heap.size, j, none⟩) (Nat.le_refl _) _⟩
        case measure => simp [intOf]; omega
      · obtain rfl : k = np := by omega
        have t1 : decide ((k : Int) < (k : Int)) = false := by simp
        obtain ⟨hBl, hBg⟩ := back_len (show BackSt O O.length B by rw [hol.out]; exact hS.out)
        obtain ⟨hsb, hib⟩ := hback.out B (by rw [hBl, hol.out]; exact Hnp.out) hBg
        rw [← Hq2.out] at hsb
        have hBk := hideE (show B.length = k by rw [hBl, hol.out])
        have hsw2 : swapN q2 B = 0 := by
          unfold swapN
          rw [if_neg (fun h => h hask2.out), hqp.out, if_pos hib]
        have HS9 := Swap_any q2 vd2 pd2 vc2 k (some ⟨W8.heap.size, 0, none⟩) k B wr (show QuIn wr q2 vd2 pd2 from ⟨HQ8.out.vars.below hbr, HQ8.out.parts.below hbr⟩) hfit2.out (by rw [hv2.out]; exact Hvc2.out) hR.out.sl (by have := hBk.out; omega)
        rw [hBk.out] at HS9
        have Hsb := hideE hsb
        have hB9 := bstep hB8 hbr
        have hX9 := hideE (hX8.out.below hbr)
        obtain ⟨y0, y1, y2, y3, y4, y5⟩ := hY8.out.below hbr
        unfold valQ at HS9
        clear hBl hBg hsb hib hS hR
        go_wp2_with fail
        refine HS9.mono ?_
        rintro e w10 ⟨hb10, _, hgood⟩
        obtain ⟨vd3, vc3, pd3, rfl, hQ3, _⟩ := hgood hsw2
        rw [Hsb.out] at hQ3 ⊢
        rw [hBk.out]
        have hB10 := bstep hB9 hb10
        have hX10 := hideE (hX9.out.below hb10)
        clear y0 y1 y2 y3 y4 y5 HS9 hgood hsw2 hX9 hb10 hB9
        unfold valQ
        obtain ⟨W11, hW11⟩ : ∃ W, W = w10.alloc (.cells #[.slice vd3 q.vars.length vc3, .slice pd3 q.parts.length k, .string ⟨q.order.toArray⟩, .bool q.down, .bool q.dist, .int .i64 q.lim] 26) := ⟨_, rfl⟩
        have b11 : RowKit.Below w10.heap.size w10 W11 := by rw [hW11]; exact balloc _ _
        have hY11 := hideE (show BoxQ W11 w10.heap.size q vd3 pd3 vc3 k by rw [hW11]; exact boxQ_new _ _ _ _ _ _)
        have hB11 := bstep hB10 b11
        have hX11 := hideE (hX10.out.below b11)
        have HQS := SameQuery_true q vd3 pd3 vd pd vc3 k vc pc W11 (show QuIn W11 q vd3 pd3 from ⟨hQ3.vars.below b11, hQ3.parts.below b11⟩) (show QuIn W11 q vd pd from ⟨Hq.out.vars.below hB11, Hq.out.parts.below hB11⟩) Hf.out.vl Hf.out.pl
        unfold valQ at HQS
        dsimp only
        go_upto_region 20 with fail
        rw [← hW11]
        obtain ⟨u0, u1, u2, u3, u4, u5⟩ := hY11.out
        obtain ⟨x0, x1, x2, x3, x4, x5⟩ := hX11.out
        clear hW11 b11 hX10 hB10 hQ3
        go_wp2_with fail
        refine HQS.mono ?_
        rintro e w12 ⟨rfl, hb12⟩
        dsimp only
        go_wp2_with fail
        go_ret
        exact ⟨rfl, bstep hB11 hb12⟩
  · obtain rfl := hbad hz
    have e1 : (orderN l q == 0) = false := by simpa using hz
    generalize orderN l q = n1 at *
    clear hbad hgood HOr
    dsimp only
    go_wp2_with fail
    go_ret
    exact ⟨rfl, hB6⟩
end Go.Proofs.Ytcdbcoaiadipjaa
