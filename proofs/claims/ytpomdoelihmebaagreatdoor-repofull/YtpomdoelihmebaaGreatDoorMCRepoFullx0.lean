import Derived.Test.YtpomdoelihmebaaGreatDoorMA0x2
import Derived.Test.YtpomdoelihmebaaGreatDoorMA0x0
import Derived.Deep.RegionHeld3
import Derived.Deep.AppendLies
import Derived.Test.YtpomdoelihmebaaGreatDoorMA0x3
import Derived.LaidEql
import Derived.Stop.Asserts
import Derived.RowKitTokens
import Derived.Deep.DeepCutAuto

/- stratalaw4's name, text and many, for a repo's laws. -/
namespace Go.Proofs.YtpomdoelihmebaaGreatDoor
open Go Go.RowKit Go.Proofs
set_option synthInstance.maxSize 1000

def valTm (x : Tm) : Value := .agg #[.int .i64 x.1, .string ⟨x.2.1.toArray⟩, .string ⟨x.2.2.toArray⟩]
/-- a letter -/
def letN (n : Nat) : UInt8 := UInt8.ofNat (97 + n)
def textT (i : Nat) : Tm := (3, [letN (i / 26 % 26), letN (i % 26)], [])

theorem catB (x y : UInt8) : (⟨#[x]⟩ : ByteArray) ++ ⟨#[y]⟩ = ⟨#[x, y]⟩ := by
  apply ByteArray.ext
  simp [ByteArray.data_append]
theorem hideT {p : Prop} (h : p) : Hid p := h
set_option maxRecDepth 100000 in
theorem sliceA (a : Nat) (h : a < 26) (w : World) : (Instr.sliceAt 9 (.string ⟨#[97, 98, 99, 100, 101, 102, 103, 104, 105, 106, 107, 108, 109, 110, 111, 112, 113, 114, 115, 116, 117, 118, 119, 120, 121, 122]⟩) (some (.int .i64 (a : Int))) (some (.int .i64 ((a : Int) + 1))) none).run Tryz.prog w = .ok (.string ⟨#[letN a]⟩) w := by
  rcases (by omega : a = 0 ∨ a = 1 ∨ a = 2 ∨ a = 3 ∨ a = 4 ∨ a = 5 ∨ a = 6 ∨ a = 7 ∨ a = 8 ∨ a = 9 ∨ a = 10 ∨ a = 11 ∨ a = 12 ∨ a = 13 ∨ a = 14 ∨ a = 15 ∨ a = 16 ∨ a = 17 ∨ a = 18 ∨ a = 19 ∨ a = 20 ∨ a = 21 ∨ a = 22 ∨ a = 23 ∨ a = 24 ∨ a = 25) with rfl | rfl | rfl | rfl | rfl | rfl | rfl | rfl | rfl | rfl | rfl | rfl | rfl | rfl | rfl | rfl | rfl | rfl | rfl | rfl | rfl | rfl | rfl | rfl | rfl | rfl
  all_goals kernel_rfl

set_option maxHeartbeats 2000000 in
set_option maxRecDepth 100000 in
theorem text_any (n : Nat) (w : World) (hn : n ≤ 1000000) : Calls Tryz.prog 31 #[.int .i64 n] w fun e w' => e = .returned (valTm (textT n)) ∧ RowKit.Below w.heap.size w w' := by
  have ea : ((n : Int) / 26 % 26) = ((n / 26 % 26 : Nat) : Int) := by omega
  have eb : ((n : Int) % 26) = ((n % 26 : Nat) : Int) := by omega
  have sa := sliceA (n / 26 % 26) (by omega)
  have sb := sliceA (n % 26) (by omega)
  have la : n / 26 % 26 < 26 := by omega
  have lb : n % 26 < 26 := by omega
  have fin : Hid (valTm (textT n) = .agg #[.int .i64 3, .string ⟨#[letN (n / 26 % 26), letN (n % 26)]⟩, .string ⟨#[]⟩]) := rfl
  have EA := hideT ea
  have EB := hideT eb
  clear ea eb
  generalize n / 26 % 26 = a at *
  generalize n % 26 = b at *
  generalize valTm (textT n) = v at *
  go_enter Tryz.func31, Tryz.ntmps31
  go_wp2_with fail
  rw [EA.out, EB.out]
  go_region
  go_wp2_with fail
  exact bodyPost_ret (v := .agg #[.int .i64 3, .string ((⟨#[letN a]⟩ : ByteArray) ++ ⟨#[letN b]⟩), .string ⟨#[]⟩]) (by unfold results; rw [Tryz.results31]; go_simp) rfl ⟨by rw [fin.out, catB], (balloc _ _).drew⟩

def nameT (c : UInt8) : Tm := (1, [c], [])
def trI (s : UInt8) (i : Nat) : Tr := (nameT s, nameT 112, textT i)
def manyL (s : UInt8) (n : Nat) : List Tr := (List.range n).map (trI s)

theorem manyL_len (s : UInt8) (n : Nat) : (manyL s n).length = n := by simp [manyL]
theorem manyL_at (s : UInt8) (n i : Nat) (h : i < (manyL s n).length) : (manyL s n)[i] = trI s i := by simp [manyL]
theorem manyL_succ (s : UInt8) (n : Nat) : manyL s (n + 1) = manyL s n ++ [trI s n] := by simp [manyL, List.range_succ]

set_option maxRecDepth 100000 in
theorem chkS : ∀ i, i < 200 → chkTr (trI 115 i) = 0 := by decide +kernel
set_option maxRecDepth 100000 in
theorem stepS : ∀ i, i < 200 → cmpTr (trI 115 i) (trI 115 (i + 1)) < 0 := by decide +kernel

theorem many_set {s : UInt8} {n : Nat} (hn : n ≤ 200) (h1 : ∀ i, i < 200 → chkTr (trI s i) = 0) (h2 : ∀ i, i < 200 → cmpTr (trI s i) (trI s (i + 1)) < 0) : IsSet (manyL s n) := by
  refine ⟨by rw [manyL_len]; exact hn, fun x hx => ?_, rising_of_steps _ fun i h0 hi => ?_⟩
  · obtain ⟨i, hi, rfl⟩ := List.getElem_of_mem hx
    rw [manyL_at]
    rw [manyL_len] at hi
    exact h1 i (by omega)
  · rw [manyL_at, manyL_at]
    rw [manyL_len] at hi
    have := h2 (i - 1) (by omega)
    rwa [show i - 1 + 1 = i by omega] at this

theorem manyS {n : Nat} (hn : n ≤ 200) : IsSet (manyL 115 n) := many_set hn chkS stepS

theorem nameS_any (S : List UInt8) (w : World) : Calls Tryz.prog 32 #[.string ⟨S.toArray⟩] w
    fun e w' => e = .returned (.agg #[.int .i64 1, .string ⟨S.toArray⟩, .string ⟨#[]⟩]) ∧ RowKit.Below w.heap.size w w' := by
  go_enter Tryz.func32, Tryz.ntmps32
  go_wp2
  refine bodyPost_ret (v := .agg #[.int .i64 1, .string ⟨S.toArray⟩, .string ⟨#[]⟩]) (by simp [results, Tryz.results32, go_sem]) rfl ⟨rfl, balloc _ _⟩

theorem keepM {W W' : World} {p0 p1 p2 : Addr} {v0 v1 v2 : Value} {base : Nat} {e : TypeId} {sz : Nat} {v : Value} {n : Nat} {cs : List Value}
    (h : W.cell? p0 = some v0 ∧ W.cell? p1 = some v1 ∧ W.cell? p2 = some v2 ∧ W.ownsRow base e sz v n cs) (hb : RowKit.Below W.heap.size W W') : W'.cell? p0 = some v0 ∧ W'.cell? p1 = some v1 ∧ W'.cell? p2 = some v2 ∧ W'.ownsRow base e sz v n cs :=
  ⟨(hb.cell (World.block_lt_of_cell? W _ h.1)).trans h.1, (hb.cell (World.block_lt_of_cell? W _ h.2.1)).trans h.2.1, (hb.cell (World.block_lt_of_cell? W _ h.2.2.1)).trans h.2.2.1, ownsO_below h.2.2.2 hb⟩

theorem keepS {W W' : World} {B : Nat} {p0 p1 p2 : Addr} {v0 v1 v2 : Value} (h : W.cell? p0 = some v0 ∧ W.cell? p1 = some v1 ∧ W.cell? p2 = some v2 ∧ B < W.heap.size) (hb : RowKit.Below W.heap.size W W') : W'.cell? p0 = some v0 ∧ W'.cell? p1 = some v1 ∧ W'.cell? p2 = some v2 ∧ B < W'.heap.size :=
  ⟨(hb.cell (World.block_lt_of_cell? W _ h.1)).trans h.1, (hb.cell (World.block_lt_of_cell? W _ h.2.1)).trans h.2.1, (hb.cell (World.block_lt_of_cell? W _ h.2.2.1)).trans h.2.2.1, Nat.lt_of_lt_of_le h.2.2.2 hb.size⟩
theorem keepA {W : World} {B : Nat} {p0 p1 p2 : Addr} {v0 v1 v2 : Value} (h : W.cell? p0 = some v0 ∧ W.cell? p1 = some v1 ∧ W.cell? p2 = some v2 ∧ B < W.heap.size) (o : Obj) : (W.alloc o).cell? p0 = some v0 ∧ (W.alloc o).cell? p1 = some v1 ∧ (W.alloc o).cell? p2 = some v2 ∧ B < (W.alloc o).heap.size := keepS h (balloc W o)
theorem keepG {W W' : World} {B : Nat} {v0 v1 v2 : Value} {row : Option Nat} (h : W.cell? ⟨B, 0, none⟩ = some v0 ∧ W.cell? ⟨B, 1, none⟩ = some v1 ∧ W.cell? ⟨B, 2, none⟩ = some v2 ∧ B < W.heap.size) (hg : W.grownBy W' row) (hne : row ≠ some B) : W'.cell? ⟨B, 0, none⟩ = some v0 ∧ W'.cell? ⟨B, 1, none⟩ = some v1 ∧ W'.cell? ⟨B, 2, none⟩ = some v2 ∧ B < W'.heap.size :=
  ⟨hg.cell h.1 (Ne.symm hne), hg.cell h.2.1 (Ne.symm hne), hg.cell h.2.2.1 (Ne.symm hne), Nat.lt_of_lt_of_le h.2.2.2 hg.size⟩

set_option maxHeartbeats 4000000 in
set_option maxRecDepth 100000 in
theorem many_any (n : Nat) (w : World) (hn : n ≤ 200) : Calls Tryz.prog 7 #[.int .i64 n] w
    fun e w' => ∃ v, e = .returned v ∧ w'.ownsRow w.heap.size 83 9 v n (cellsT (manyL 115 n)) ∧ RowKit.Below w.heap.size w w' := by
  obtain ⟨i0, hi, hz⟩ := Option.map_eq_some_iff.1 infoTr
  simp only [Prod.mk.injEq] at hz
  obtain ⟨hz0, hz1, hz2⟩ := hz
  have NS := fun W => nameS_any [115] W
  have NP := fun W => nameS_any [112] W
  go_enter Tryz.func7, Tryz.ntmps7
  go_wp2_with fail
  go_loopw [3, 4] (fun v i wr => ∃ k : Nat, k ≤ n ∧ i = .int .i64 k ∧ Hid (wr.ownsRow w.heap.size 83 9 v k (cellsT (manyL 115 k))) ∧ RowKit.Below w.heap.size w wr) (fun _ i wr => n - (intOf i).toNat)
  case atStart => exact ⟨0, Nat.zero_le _, rfl, World.ownsRow_nil _ _ _ _, RowKit.Below.refl _ _⟩
  case round =>
    obtain ⟨k, hk, rfl, hown, hbr⟩ := hrel
    by_cases hlt : k < n
    · have i1 : (k : Int) < (n : Int) := by omega
      have HT := text_any k wr (by omega)
      have hnew : Hid (manyL 115 (k + 1) = manyL 115 k ++ [(nameT 115, nameT 112, textT k)]) := manyL_succ 115 k
      generalize textT k = y at *
      generalize manyL 115 k = t0 at *
      unfold valTm at HT
      go_wp2_with fail
      refine HT.mono ?_
      rintro e w1 ⟨rfl, hb1⟩
      have hB1 := bstep hbr hb1
      have ho1 := hideT (ownsO_below hown.out hb1)
      have hz1' := hB1.size
      clear HT hown hb1 hbr
      go_wp2_with fail
      have hne : u3.ownBlock ≠ some w1.heap.size := fun e => by have := (ho1.out.lt _ e).2; omega
      go_region_held3 (fun W => W.cell? ⟨w1.heap.size, 0, none⟩ = some (.int .i64 y.1) ∧ W.cell? ⟨w1.heap.size, 1, none⟩ = some (.string ⟨y.2.1.toArray⟩) ∧ W.cell? ⟨w1.heap.size, 2, none⟩ = some (.string ⟨y.2.2.toArray⟩) ∧ w1.heap.size < W.heap.size)
        (first
          | (refine keepG ?_ hgrow hne; assumption)
          | (refine keepS ?_ hb3; assumption)
          | (refine keepS ?_ hb2; assumption)
          | (refine keepA ?_ _; assumption)
          | (refine ⟨?_, ?_, ?_, ?_⟩ <;> first | (go_simp; done) | (simp; done)))
        (first
          | (go_at_call_of 32 (Value.string ⟨#[115]⟩); refine (NS _).mono ?_; rintro e w2 ⟨rfl, hb2⟩)
          | (go_at_call_of 32 (Value.string ⟨#[112]⟩); refine (NP _).mono ?_; rintro e w3 ⟨rfl, hb3⟩)
          | (refine step_append_lies _ (by rfl) _ _ _ (by rfl) w.heap.size 83 i0 _ 9 120 Tryz.underlying28 hi hz0 hz1 hz2 rfl (by omega) u3 k (cellsT t0) (by rfl) ((ownsO_below (ownsO_below (ho1.out.alloc _).drew hb2) hb3).alloc _)
              ⟨w3.heap.size, 0, none⟩ 1 1 (encTr (nameT 115, nameT 112, y)) (by rfl) (by rfl) (World.news_of_block (cs := (encTr (nameT 115, nameT 112, y)).toArray) (t := 83) (fr := (0, 0)) (heap_alloc_new w3 _)) (encTr_one _)
              (by omega) (by unfold maxLen; omega) (by omega) (by have h1 := hb2.size; have h2 := hb3.size; simp at h1 h2 ⊢; omega) (w3.heap.size + 1) (by simp) ?_; intro gg cap w4 hown4 hgrow hat hlt4))
      have hB4 : RowKit.Below w.heap.size w w4 := by
        have hb12 := bstep (bstep (bstep hB1 (balloc _ _)).drew hb2) hb3
        exact (bstep hb12 (balloc _ _)).grown hgrow (by have := hb12.size; simp; omega) (fun j hj => (ho1.out.lt j hj).1)
      go_wp2_with fail
      go_roundw
      case rel =>
        refine ⟨k + 1, by omega, by go_num, ?_, hB4⟩
        show World.ownsRow _ _ _ _ _ _ _
        rw [hnew.out]
        simpa [cellsT] using hown4
      case measure => simp [intOf]; omega
    · obtain rfl : k = n := by omega
      go_wp2_with fail
      go_ret
      exact ⟨_, rfl, hown.out, hbr⟩
end Go.Proofs.YtpomdoelihmebaaGreatDoor

/- RepoFull in plain words: eight branches, sixty commits. -/
namespace Go.Proofs.YtpomdoelihmebaaGreatDoor
open Go Go.RowKit Go.Proofs
set_option synthInstance.maxSize 1000

/-! ### bytes of a few triples -/
def Mny (l : List Tr) : Prop := l.length ≤ 9 ∧ ∀ x ∈ l, ∃ i, x = trI 115 i
theorem encX_many (i : Nat) : (encX (trI 115 i)).length = 10 := by simp [encX, encT, trI, nameT, textT]
theorem encR_many {l : List Tr} (h : ∀ x ∈ l, ∃ i, x = trI 115 i) : (encR l).length = 10 * l.length := by
  induction l with
  | nil => rfl
  | cons x r ih =>
    obtain ⟨i, rfl⟩ := h x (List.mem_cons_self ..)
    have e : encR (trI 115 i :: r) = encX (trI 115 i) ++ encR r := by simp [encR]
    rw [e, List.length_append, encX_many, ih fun y hy => h y (List.mem_cons_of_mem _ hy), List.length_cons]
    omega
theorem encS_many {l : List Tr} (h : Mny l) : (encS l).length ≤ 92 := by
  unfold encS
  rw [List.length_cons, List.length_cons, encR_many h.2]
  have := h.1
  omega
theorem Mny.less {l m : List Tr} (h : Mny l) : Mny (lessL l m) := by
  refine ⟨Nat.le_trans (List.length_filter_le _ _) h.1, fun x hx => h.2 x (List.mem_filter.1 hx).1⟩
theorem Mny.nil : Mny [] := ⟨by simp, by simp⟩
theorem Mny.many {n : Nat} (h : n ≤ 9) : Mny (manyL 115 n) := by
  refine ⟨by rw [manyL_len]; exact h, fun x hx => ?_⟩
  simp only [manyL, List.mem_map] at hx
  obtain ⟨i, _, rfl⟩ := hx
  exact ⟨i, rfl⟩
/-! ### a repo with few objects -/
structure Few (R : Rp) : Prop where
  good : GoodR R
  objs : R.L.length ≤ R.coms.length
  size : sizeO R.L ≤ 200 * R.coms.length
  sets : ∀ g ∈ R.gr, Mny g
theorem few_empty : Few emptyR := ⟨goodR_empty, by simp [emptyR], by simp [emptyR, sizeO], by simp [emptyR]⟩
theorem from_mny {R : Rp} (h : Few R) (ps : List Int) : Mny (fromR R ps) := by
  unfold fromR
  split
  · exact Mny.nil
  · rename_i p q
    cases hg : R.gr[p.toNat]? with
    | none => exact Mny.nil
    | some g => exact h.sets g (List.mem_of_getElem? hg)
theorem bytes_few {R : Rp} (h : Few R) (ps : List Int) {s : List Tr} (hs : Mny s) : (bytesR R ps s).length ≤ 200 := by
  unfold bytesR
  rw [List.length_append]
  have h1 := encS_many (hs.less (m := fromR R ps))
  have h2 := encS_many ((from_mny h ps).less (m := s))
  omega
theorem put_few {L : List Ob} {b : List UInt8} (h1 : L.length < 300) (h2 : sizeO L ≤ 12000) (hb : b.length ≤ 200) : putE L b = 0 := by
  unfold putE
  split
  · rfl
  · rw [if_neg]
    unfold fullO
    rw [decide_eq_true_eq, wr64_id (by omega) (by omega)]
    omega
theorem putL_few (n : Nat) (L : List Ob) (b : List UInt8) : (putL n L b).length ≤ L.length + 1 ∧ sizeO (putL n L b) ≤ sizeO L + b.length := by
  unfold putL
  split
  · exact ⟨by omega, by omega⟩
  · split
    · exact ⟨by omega, by omega⟩
    · rw [List.length_append, sizeO_app]
      simp [sizeO]
/-- one commit more -/
theorem add_few {R : Rp} (h : Few R) {ps : List Int} {s : List Tr} {m : List UInt8} (hp : okPar R.coms.length ps) (hs : Mny s) (ss : IsSet s) (hm : msgN m = 0) (hf : findC R.coms R.gr ps s m = none) (h60 : R.coms.length < 60) :
    addE R ps s m = 0 ∧ addI R ps s m = R.coms.length ∧ Few (addR R ps s m) ∧ (∃ y, (addR R ps s m).coms = R.coms ++ [(ps, y, m)]) ∧ (addR R ps s m).gr = R.gr ++ [s] ∧ (addR R ps s m).refs = R.refs := by
  have ho := h.objs
  have hz := h.size
  have hbl := bytes_few h ps hs
  have hpe : putE R.L (bytesR R ps s) = 0 := put_few (by omega) (by omega) hbl
  have eR : addR R ps s m = ⟨putM R.n R.L (bytesR R ps s), putL R.n R.L (bytesR R ps s), R.coms ++ [(ps, (putI R.n R.L (bytesR R ps s) : Int), m)], R.gr ++ [s], R.refs⟩ := by
    unfold addR
    rw [hf]
    dsimp only
    rw [if_neg (by omega), if_neg (by simp [hpe])]
  have hgood := h.good.add hp ss hm
  obtain ⟨l1, l2⟩ := putL_few R.n R.L (bytesR R ps s)
  refine ⟨?_, ?_, ⟨hgood, ?_, ?_, ?_⟩, ⟨_, by rw [eR]⟩, by rw [eR], by rw [eR]⟩
  · unfold addE
    rw [hf]
    dsimp only
    rw [if_neg (by omega), hpe]
  · unfold addI
    rw [hf]
    dsimp only
    rw [if_neg (by omega), if_neg (by simp [hpe])]
  · rw [eR]; simp; omega
  · rw [eR]; simp; omega
  · rw [eR]
    intro g hg
    rcases List.mem_append.1 hg with hg | hg
    · exact h.sets g hg
    · simp at hg; subst hg; exact hs
theorem findC_none {cl : List Cm} {gl : List (List Tr)} {ps : List Int} {s : List Tr} {m : List UInt8} (h : ∀ (i : Nat) (h1 : i < cl.length) (h2 : i < gl.length), ¬ (cl[i].1 = ps ∧ gl[i] = s)) : findC cl gl ps s m = none := by
  cases hf : findC cl gl ps s m with
  | none => rfl
  | some i =>
    obtain ⟨h1, h2, _, h3, h4⟩ := findC_at hf
    exact absurd ⟨h3, h4⟩ (h i h1 h2)
/-! ### branches -/
def letR (i : Nat) : List UInt8 := [UInt8.ofNat (97 + i)]
theorem letR_name : ∀ i, i < 10 → nameR (letR i) = true := by decide +kernel
theorem letR_inj {i j : Nat} (hi : i < 10) (hj : j < 10) (h : letR i = letR j) : i = j := by
  have e : UInt8.ofNat (97 + i) = UInt8.ofNat (97 + j) := (List.cons.inj h).1
  have := congrArg UInt8.toNat e
  simp at this
  omega
theorem atR_lead {l : List Rf} (hl : ByName l) (b : List UInt8) (t : Nat) : atR (leadR l b t) b = (t : Int) := (atR_mem (hl.lead b t)).2 (mem_lead.2 (Or.inl rfl))
theorem atR_lead_ne {l : List Rf} (hl : ByName l) {b c : List UInt8} (t : Nat) (h : c ≠ b) : atR (leadR l b t) c = atR l c := by
  by_cases h0 : 0 ≤ atR l c
  · obtain ⟨u, hu⟩ := Int.eq_ofNat_of_zero_le h0
    rw [hu]
    exact (atR_mem (hl.lead b t)).2 (mem_lead.2 (Or.inr ⟨(atR_mem hl).1 hu, h⟩))
  · have h1 : atR (leadR l b t) c < 0 := atR_neg.2 fun x hx e => by
      rcases mem_lead.1 hx with rfl | ⟨hx, _⟩
      · exact h e.symm
      · exact atR_neg.1 (by omega : atR l c < 0) x hx e
    have := atR_ge l c
    have := atR_ge (leadR l b t) c
    omega
theorem drop_one {l : List Rf} (hl : ByName l) {b : List UInt8} (h : 0 ≤ atR l b) : (dropL l b).length + 1 = l.length := by
  induction l with
  | nil => simp [atR] at h
  | cons x r ih =>
    obtain ⟨l1, l2⟩ := List.pairwise_cons.1 hl
    unfold dropL
    rw [List.filter_cons]
    by_cases e : x.1 = b
    · have hr : r.filter (fun x => decide (x.1 ≠ b)) = r := List.filter_eq_self.2 fun y hy => by
        have := l1 y hy
        rw [e] at this
        simp
        exact fun e2 => absurd (e2 ▸ this) (List.lt_irrefl _)
      rw [hr]
      simp [e]
    · have h' : 0 ≤ atR r b := by unfold atR at h; rwa [if_neg e] at h
      have := ih l2 h'
      unfold dropL at this
      simp [e] at this ⊢
      omega
theorem lead_same {l : List Rf} (hl : ByName l) {b : List UInt8} (t : Nat) (h : 0 ≤ atR l b) : (leadR l b t).length = l.length := by
  rw [lead_len]
  exact drop_one hl h
theorem lead_more {l : List Rf} {b : List UInt8} (t : Nat) (h : atR l b < 0) : (leadR l b t).length = l.length + 1 := by
  rw [lead_len, drop_len_none h]
/-- all names are of one letter -/
def OneL (l : List Rf) : Prop := ∀ x ∈ l, x.1.length = 1
theorem OneL.lead {l : List Rf} (h : OneL l) {b : List UInt8} (t : Nat) (hb : b.length = 1) : OneL (leadR l b t) := fun x hx => by
  rcases mem_lead.1 hx with rfl | ⟨hx, _⟩
  · exact hb
  · exact h x hx
/-! ### the first eight -/
structure P1 (R : Rp) (k : Nat) : Prop where
  few : Few R
  coms : R.coms.length = k
  free : ∀ c ∈ R.coms, c.1 = []
  gr : ∀ (j : Nat) (hj : j < R.gr.length), R.gr[j].length = j
  refs : R.refs.length = k
  one : OneL R.refs
  at_ : ∀ j, j < 10 → if j < k then 0 ≤ atR R.refs (letR j) else atR R.refs (letR j) < 0
  a0 : 0 < k → atR R.refs (letR 0) = 0
theorem p1_empty : P1 emptyR 0 := ⟨few_empty, rfl, by simp [emptyR], by simp [emptyR], rfl, by simp [OneL, emptyR], fun j _ => by simp [emptyR, atR], fun h => by omega⟩
theorem set_zero {s : List Tr} (h : IsSet s) : setF s [] = 0 := by
  unfold setF
  rw [if_neg (by simp [sortedN_set.2 h])]
  decide
theorem p1_commit {R : Rp} {k : Nat} (h : P1 R k) (hk : k < 8) : commitE R (letR k) (manyL 115 k) [] = 0 ∧ P1 (commitR R (letR k) (manyL 115 k) []) (k + 1) := by
  have hlt : atR R.refs (letR k) < 0 := by have := h.at_ k (by omega); rwa [if_neg (by omega)] at this
  have hpar : parR R (letR k) = [] := by unfold parR; rw [if_neg (by omega)]
  have hf : findC R.coms R.gr [] (manyL 115 k) [] = none := findC_none fun i h1 h2 hh => by
    have e := congrArg List.length hh.2
    rw [h.gr i h2, manyL_len] at e
    have := h.coms
    omega
  have hset : IsSet (manyL 115 k) := manyS (by omega)
  obtain ⟨a1, a2, a3, ⟨y, a4⟩, a5, a6⟩ := add_few h.few (ps := []) (s := manyL 115 k) (m := []) ⟨by simp, by simp, rfl⟩ (Mny.many (by omega)) hset (by decide) hf (by have := h.coms; omega)
  have hF : commitF R (letR k) (manyL 115 k) [] = 0 := by
    unfold commitF
    rw [if_neg (by rw [letR_name k (by omega)]; simp), if_neg (by rw [set_zero hset]; simp), if_neg]
    unfold roomR
    have := h.refs
    simp
    omega
  have hE : commitE R (letR k) (manyL 115 k) [] = 0 := by
    unfold commitE
    rw [if_neg (by rw [hF]; simp), hpar, a1]
  have eR : commitR R (letR k) (manyL 115 k) [] = leadTo (addR R [] (manyL 115 k) []) (letR k) R.coms.length := by
    unfold commitR
    rw [if_neg (by rw [hE]; simp), hpar, a2]
  have hgood := h.few.good.commit (letR k) (manyL 115 k) []
  refine ⟨hE, ?_⟩
  rw [eR] at hgood ⊢
  have hby := h.few.good.refs
  refine ⟨⟨hgood, a3.objs, a3.size, a3.sets⟩, ?_, ?_, ?_, ?_, ?_, ?_, ?_⟩
  · show (addR R [] (manyL 115 k) []).coms.length = k + 1
    rw [a4, List.length_append, h.coms]
    rfl
  · show ∀ c ∈ (addR R [] (manyL 115 k) []).coms, c.1 = []
    rw [a4]
    intro c hc
    rcases List.mem_append.1 hc with hc | hc
    · exact h.free c hc
    · simp at hc; subst hc; rfl
  · show ∀ (j : Nat) (hj : j < (addR R [] (manyL 115 k) []).gr.length), (addR R [] (manyL 115 k) []).gr[j].length = j
    rw [a5]
    intro j hj
    rw [List.length_append] at hj
    simp at hj
    by_cases hjl : j < R.gr.length
    · rw [List.getElem_append_left hjl]; exact h.gr j hjl
    · have e : j = R.gr.length := by omega
      subst e
      rw [List.getElem_append_right (Nat.le_refl _)]
      simp [manyL_len]
      have := h.few.good.len
      have := h.coms
      omega
  · show (leadR (addR R [] (manyL 115 k) []).refs (letR k) R.coms.length).length = k + 1
    rw [a6, lead_more _ hlt, h.refs]
  · show OneL (leadR (addR R [] (manyL 115 k) []).refs (letR k) R.coms.length)
    rw [a6]
    exact h.one.lead _ rfl
  · intro j hj
    show if j < k + 1 then 0 ≤ atR (leadR (addR R [] (manyL 115 k) []).refs (letR k) R.coms.length) (letR j) else atR (leadR (addR R [] (manyL 115 k) []).refs (letR k) R.coms.length) (letR j) < 0
    rw [a6]
    by_cases e : j = k
    · subst e
      rw [if_pos (by omega), atR_lead hby]
      omega
    · rw [atR_lead_ne hby _ (fun e2 => e (letR_inj hj (by omega) e2))]
      have := h.at_ j hj
      split
      · rwa [if_pos (by omega)] at this
      · rwa [if_neg (by omega)] at this
  · intro _
    show atR (leadR (addR R [] (manyL 115 k) []).refs (letR k) R.coms.length) (letR 0) = 0
    rw [a6]
    by_cases e : k = 0
    · subst e
      rw [atR_lead hby, h.coms]
      rfl
    · rw [atR_lead_ne hby _ (fun e2 => e (letR_inj (by omega) (by omega) e2).symm)]
      exact h.a0 (by omega)
theorem p1_full {R : Rp} {k : Nat} (h : P1 R 8) (h8 : 8 ≤ k) (hk : k < 10) : commitE R (letR k) (manyL 115 k) [] = 4 ∧ commitR R (letR k) (manyL 115 k) [] = R := by
  have hlt : atR R.refs (letR k) < 0 := by have := h.at_ k (by omega); rwa [if_neg (by omega)] at this
  have hset : IsSet (manyL 115 k) := manyS (by omega)
  have hE : commitE R (letR k) (manyL 115 k) [] = 4 := by
    have hF : commitF R (letR k) (manyL 115 k) [] = 4 := by
      unfold commitF
      rw [if_neg (by rw [letR_name k (by omega)]; simp), if_neg (by rw [set_zero hset]; simp), if_pos]
      unfold roomR
      have := h.refs
      simp
      omega
    unfold commitE
    rw [if_pos (by rw [hF]; simp), hF]
  refine ⟨hE, ?_⟩
  unfold commitR
  rw [if_pos (by rw [hE]; simp)]
/-! ### sixty -/
structure P2 (R : Rp) (k : Nat) : Prop where
  few : Few R
  coms : R.coms.length = 8 + k
  refs : R.refs.length = 8
  one : OneL R.refs
  at_ : ∀ j, j < 8 → 0 ≤ atR R.refs (letR j)
  kid : ∀ c ∈ R.coms, c.1 ≠ [atR R.refs (letR 0)]
theorem P1.next {R : Rp} (h : P1 R 8) : P2 R 0 := by
  refine ⟨h.few, h.coms, h.refs, h.one, fun j hj => ?_, fun c hc => ?_⟩
  · have := h.at_ j (by omega)
    rwa [if_pos hj] at this
  · rw [h.free c hc]
    simp
theorem p2_none {R : Rp} {k : Nat} (h : P2 R k) (s : List Tr) : parR R (letR 0) = [atR R.refs (letR 0)] ∧ findC R.coms R.gr [atR R.refs (letR 0)] s [] = none ∧ okPar R.coms.length [atR R.refs (letR 0)] := by
  have h0 := h.at_ 0 (by omega)
  have h1 := atR_lt h.few.good (letR 0)
  refine ⟨by unfold parR; rw [if_pos h0], findC_none fun i h1 _ hh => h.kid _ (List.getElem_mem h1) hh.1, by simp, fun p hp => ?_, rfl⟩
  simp at hp
  subst hp
  exact ⟨h0, h1⟩
theorem p2_F {R : Rp} {k : Nat} (h : P2 R k) {s : List Tr} (hs : IsSet s) : commitF R (letR 0) s [] = 0 := by
  unfold commitF
  rw [if_neg (by rw [letR_name 0 (by omega)]; simp), if_neg (by rw [set_zero hs]; simp), if_neg]
  unfold roomR
  have := h.at_ 0 (by omega)
  simp
  omega
theorem p2_commit {R : Rp} {k n : Nat} (h : P2 R k) (hk : k < 52) (hn : n ≤ 9) : commitE R (letR 0) (manyL 115 n) [] = 0 ∧ P2 (commitR R (letR 0) (manyL 115 n) []) (k + 1) := by
  have hset : IsSet (manyL 115 n) := manyS (by omega)
  obtain ⟨hpar, hf, hok⟩ := p2_none h (manyL 115 n)
  obtain ⟨a1, a2, a3, ⟨y, a4⟩, a5, a6⟩ := add_few h.few (s := manyL 115 n) (m := []) hok (Mny.many hn) hset (by decide) hf (by have := h.coms; omega)
  have hE : commitE R (letR 0) (manyL 115 n) [] = 0 := by
    unfold commitE
    rw [if_neg (by rw [p2_F h hset]; simp), hpar, a1]
  have eR : commitR R (letR 0) (manyL 115 n) [] = leadTo (addR R [atR R.refs (letR 0)] (manyL 115 n) []) (letR 0) R.coms.length := by
    unfold commitR
    rw [if_neg (by rw [hE]; simp), hpar, a2]
  have hgood := h.few.good.commit (letR 0) (manyL 115 n) []
  have hby := h.few.good.refs
  have hat : atR (leadR R.refs (letR 0) R.coms.length) (letR 0) = (R.coms.length : Int) := atR_lead hby _ _
  refine ⟨hE, ?_⟩
  rw [eR] at hgood ⊢
  refine ⟨⟨hgood, a3.objs, a3.size, a3.sets⟩, ?_, ?_, ?_, fun j hj => ?_, ?_⟩
  · show (addR R [atR R.refs (letR 0)] (manyL 115 n) []).coms.length = 8 + (k + 1)
    rw [a4, List.length_append, h.coms]
    rfl
  · show (leadR (addR R [atR R.refs (letR 0)] (manyL 115 n) []).refs (letR 0) R.coms.length).length = 8
    rw [a6, lead_same hby _ (h.at_ 0 (by omega)), h.refs]
  · show OneL (leadR (addR R [atR R.refs (letR 0)] (manyL 115 n) []).refs (letR 0) R.coms.length)
    rw [a6]
    exact h.one.lead _ rfl
  · show 0 ≤ atR (leadR (addR R [atR R.refs (letR 0)] (manyL 115 n) []).refs (letR 0) R.coms.length) (letR j)
    rw [a6]
    by_cases e : j = 0
    · subst e; rw [hat]; omega
    · rw [atR_lead_ne hby _ (fun e2 => e (letR_inj (by omega) (by omega) e2))]
      exact h.at_ j hj
  · show ∀ c ∈ (addR R [atR R.refs (letR 0)] (manyL 115 n) []).coms, c.1 ≠ [atR (leadR (addR R [atR R.refs (letR 0)] (manyL 115 n) []).refs (letR 0) R.coms.length) (letR 0)]
    rw [a4, a6, hat]
    intro c hc e
    rcases List.mem_append.1 hc with hc | hc
    · obtain ⟨j, hj, rfl⟩ := List.getElem_of_mem hc
      have hp := good_pars h.few.good.coms hj (R.coms.length : Int) (by
        unfold parsOf
        rw [List.getElem?_eq_getElem hj]
        show (R.coms.length : Int) ∈ R.coms[j].1
        rw [e]
        simp)
      omega
    · simp at hc
      subst hc
      have := atR_lt h.few.good (letR 0)
      simp at e
      omega
theorem p2_full {R : Rp} {n : Nat} (h : P2 R 52) (hn : n ≤ 9) : commitE R (letR 0) (manyL 115 n) [] = 4 ∧ commitR R (letR 0) (manyL 115 n) [] = R := by
  have hset : IsSet (manyL 115 n) := manyS (by omega)
  obtain ⟨hpar, hf, hok⟩ := p2_none h (manyL 115 n)
  have hE : commitE R (letR 0) (manyL 115 n) [] = 4 := by
    unfold commitE
    rw [if_neg (by rw [p2_F h hset]; simp), hpar]
    unfold addE
    rw [hf]
    dsimp only
    rw [if_pos (by have := h.coms; omega)]
  refine ⟨hE, ?_⟩
  unfold commitR
  rw [if_pos (by rw [hE]; simp)]
/-! ### one is dropped -/
def nameZ : List UInt8 := [122, 122]
theorem p2_end {R : Rp} {k d : Nat} (h : P2 R k) (hd : d < 8) : headE R (letR d) = 0 ∧ branchE (dropR R (letR d)) nameZ 0 = 0 ∧ headE (branchR (dropR R (letR d)) nameZ 0) nameZ = 0 ∧ headI (branchR (dropR R (letR d)) nameZ 0) nameZ = 0 ∧ (branchR (dropR R (letR d)) nameZ 0).refs.length = 8 := by
  have hby := h.few.good.refs
  have h0 := h.at_ d hd
  have hE : headE R (letR d) = 0 := by
    unfold headE
    rw [if_neg (by rw [letR_name d (by omega)]; simp), if_neg (by omega)]
  have eD : dropR R (letR d) = ⟨R.n, R.L, R.coms, R.gr, dropL R.refs (letR d)⟩ := by unfold dropR; rw [if_neg (by rw [hE]; simp)]
  have hd1 := drop_one hby h0
  have hr := h.refs
  have hz : atR (dropL R.refs (letR d)) nameZ < 0 := atR_neg.2 fun x hx e => by
    have := h.one x (List.mem_filter.1 hx).1
    rw [e] at this
    simp [nameZ] at this
  have hnm : nameR nameZ = true := by decide
  have hB : branchE (dropR R (letR d)) nameZ 0 = 0 := by
    rw [eD]
    unfold branchE
    have hin : inR (⟨R.n, R.L, R.coms, R.gr, dropL R.refs (letR d)⟩ : Rp) 0 = true := inR_iff.2 ⟨by omega, by have := h.coms; show (0 : Int) < (R.coms.length : Int); omega⟩
    rw [if_neg (by rw [hnm]; simp), if_neg (by rw [hin]; simp), if_neg (by show ¬ 0 ≤ atR (dropL R.refs (letR d)) nameZ; omega), if_pos (by show (dropL R.refs (letR d)).length < 8; omega)]
  have eB : (branchR (dropR R (letR d)) nameZ 0).refs = leadR (dropL R.refs (letR d)) nameZ 0 := by
    unfold branchR
    rw [if_neg (by rw [hB]; simp), eD]
    rfl
  have hat : atR (branchR (dropR R (letR d)) nameZ 0).refs nameZ = 0 := by rw [eB]; exact atR_lead (hby.drop _) _ 0
  have hH : headE (branchR (dropR R (letR d)) nameZ 0) nameZ = 0 := by
    unfold headE
    rw [if_neg (by rw [hnm]; simp), if_neg (by rw [hat]; omega)]
  refine ⟨hE, hB, hH, ?_, ?_⟩
  · unfold headI
    rw [if_pos hH, hat]
  · rw [eB, lead_more _ hz]
    omega
end Go.Proofs.YtpomdoelihmebaaGreatDoor

/- errors.As at a target of type api.Errno, of an error that is one; plain.Told. Go's own text is walked; the facts are on the model's entries for internal/reflectlite at this program's types. -/
namespace Go.Proofs.YtpomdoelihmebaaGreatDoor
open Go Go.RowKit Go.Extern.Stop Go.Stop Go.Extern

theorem valueOfP (t : Addr) (w : World) : (ReflectliteValue.unpack (.iface 116 (.pointer (some t)))).run Tryz.prog w
    = .ok (.agg #[.pointer (some ⟨2, 116, none⟩), .pointer (some ⟨w.heap.size, 0, none⟩), .int .u64 150]) (w.alloc (.cells #[.pointer (some t)] 116)) := by kernel_rfl
theorem typeP (a : Addr) (w : World) : (ReflectliteValue.methodAny (ReflectliteValue.valueError "reflectlite.Value.Type" 0) (fun t _ _ _ => ReflectliteType.toType t) #[.agg #[.pointer (some ⟨2, 116, none⟩), .pointer (some a), .int .u64 150]]).run Tryz.prog w
    = .ok (.iface 182 (.agg #[.pointer (some ⟨2, 116, none⟩)])) w := by kernel_rfl
theorem kindP (w : World) : ((ReflectliteType.abiMethod fun t => (fun a : Nat => Value.int IntKind.u8 (a : Int)) <$> Rtype.kind t) #[.pointer (some ⟨2, 116, none⟩)]).run Tryz.prog w = .ok (.int .u8 22) w := by kernel_rfl
theorem kindE (w : World) : ((ReflectliteType.abiMethod fun t => (fun a : Nat => Value.int IntKind.u8 (a : Int)) <$> Rtype.kind t) #[.pointer (some ⟨2, 75, none⟩)]).run Tryz.prog w = .ok (.int .u8 2) w := by kernel_rfl
theorem methodKind (h : Value) (w : World) : (Go.method 380 182 (.agg #[h]) "Kind").run Tryz.prog w = .ok (212, h) w := by kernel_rfl
theorem methodElem (h : Value) (w : World) : (Go.method 380 182 (.agg #[h]) "Elem").run Tryz.prog w = .ok (222, .agg #[h]) w := by kernel_rfl
theorem methodImplements (h : Value) (w : World) : (Go.method 380 182 (.agg #[h]) "Implements").run Tryz.prog w = .ok (223, .agg #[h]) w := by kernel_rfl
theorem methodAssignableTo (h : Value) (w : World) : (Go.method 380 182 (.agg #[h]) "AssignableTo").run Tryz.prog w = .ok (220, .agg #[h]) w := by kernel_rfl
theorem rlm (z : Sem Value) (f : TypeId → Addr → Nat → Nat → Sem Value) (v : Value) :
    ReflectliteValue.method z f #[v] = (do match ← ReflectliteValue.parts v with | none => z | some (t, a, fl) => f t a fl (fl % 32)) := rfl
theorem partsP (a : Addr) (w : World) : (ReflectliteValue.parts (.agg #[.pointer (some ⟨2, 116, none⟩), .pointer (some a), .int .u64 150])).run Tryz.prog w = .ok (some (116, a, 150)) w := by kernel_rfl
theorem isNilP (a p : Addr) (W : World) (ha : W.cell? a = some (.pointer (some p))) :
    (ReflectliteValue.method (ReflectliteValue.valueError "reflectlite.Value.IsNil" 0) ReflectliteValue.isNil #[.agg #[.pointer (some ⟨2, 116, none⟩), .pointer (some a), .int .u64 150]]).run Tryz.prog W = .ok (.bool false) W := by
  rw [rlm]
  simp only [Sem.run_bind, partsP, Result.andThen]
  simp [ReflectliteValue.isNil, loadVar, isAgg, underlying, Tryz.underlying116, ha, Result.andThen]
theorem elemTP (w : World) : (ReflectliteType.method ReflectliteType.elem #[.agg #[.pointer (some ⟨2, 116, none⟩)]]).run Tryz.prog w = .ok (.iface 182 (.agg #[.pointer (some ⟨2, 75, none⟩)])) w := by kernel_rfl
theorem implementsE (w : World) : (ReflectliteType.relation "Implements" ReflectliteType.implements_ #[.agg #[.pointer (some ⟨2, 75, none⟩)], .iface 182 (.agg #[.pointer (some ⟨2, 25, none⟩)])]).run Tryz.prog w = .ok (.bool true) w := by kernel_rfl
theorem typeOfE (v : Value) (w : World) : (ReflectliteType.typeOf #[.iface 75 v]).run Tryz.prog w = .ok (.iface 182 (.agg #[.pointer (some ⟨2, 75, none⟩)])) w := by kernel_rfl
theorem assignableE (w : World) : (ReflectliteType.relation "AssignableTo" ReflectliteType.assignableTo #[.agg #[.pointer (some ⟨2, 75, none⟩)], .iface 182 (.agg #[.pointer (some ⟨2, 75, none⟩)])]).run Tryz.prog w = .ok (.bool true) w := by kernel_rfl
theorem valueOfE (n : Int) (w : World) : (ReflectliteValue.unpack (.iface 75 (.int .i64 n))).run Tryz.prog w
    = .ok (.agg #[.pointer (some ⟨2, 75, none⟩), .pointer (some ⟨w.heap.size, 0, none⟩), .int .u64 130]) (w.alloc (.cells #[.int .i64 n] 75)) := by kernel_rfl
theorem elemOfP (w : World) : (Rtype.elem? 116).run Tryz.prog w = .ok (some 75) w := by kernel_rfl
theorem mkE (p : Addr) (w : World) : (ReflectliteValue.mk 75 p ReflectliteValue.flagAddr).run Tryz.prog w = .ok (.agg #[.pointer (some ⟨2, 75, none⟩), .pointer (some p), .int .u64 386]) w := by kernel_rfl
theorem elemVP (a p : Addr) (W : World) (ha : W.cell? a = some (.pointer (some p))) :
    (ReflectliteValue.method (ReflectliteValue.valueError "reflectlite.Value.Elem" 0) ReflectliteValue.elem #[.agg #[.pointer (some ⟨2, 116, none⟩), .pointer (some a), .int .u64 150]]).run Tryz.prog W
      = .ok (.agg #[.pointer (some ⟨2, 75, none⟩), .pointer (some p), .int .u64 386]) W := by
  rw [rlm]
  simp only [Sem.run_bind, partsP, Result.andThen]
  simp [ReflectliteValue.elem, loadVar, isAgg, underlying, Tryz.underlying116, ha, Result.andThen, elemOfP, mkE]
theorem partsEa (a : Addr) (w : World) : (ReflectliteValue.parts (.agg #[.pointer (some ⟨2, 75, none⟩), .pointer (some a), .int .u64 386])).run Tryz.prog w = .ok (some (75, a, 386)) w := by kernel_rfl
theorem partsE (a : Addr) (w : World) : (ReflectliteValue.parts (.agg #[.pointer (some ⟨2, 75, none⟩), .pointer (some a), .int .u64 130])).run Tryz.prog w = .ok (some (75, a, 130)) w := by kernel_rfl
theorem directE (w : World) : (Rtype.directlyAssignable 75 75).run Tryz.prog w = .ok true w := by kernel_rfl
theorem setE (ta b : Addr) (n : Int) (old : Value) (W : World) (hb : W.cell? b = some (.int .i64 n)) (ht : W.cell? ta = some old) (hf : W.frozen? ta = false) :
    (ReflectliteValue.set #[.agg #[.pointer (some ⟨2, 75, none⟩), .pointer (some ta), .int .u64 386], .agg #[.pointer (some ⟨2, 75, none⟩), .pointer (some b), .int .u64 130]]).run Tryz.prog W
      = .ok (.tuple #[]) (W.setCell ta (.int .i64 n)) := by
  change Sem.run _ (ReflectliteValue.parts (.agg #[.pointer (some ⟨2, 75, none⟩), .pointer (some ta), .int .u64 386]) >>= fun p1 => ReflectliteValue.parts (.agg #[.pointer (some ⟨2, 75, none⟩), .pointer (some b), .int .u64 130]) >>= fun p2 => _) _ = _
  simp only [Sem.run_bind, partsEa, partsE, Result.andThen]
  simp [ReflectliteValue.flagAddr, loadVar, isAgg, underlying, Tryz.underlying75, hb, Result.andThen, directE, storeVar, Value.cells, storeCells, Addr.add]
  rw [run_store Tryz.prog W ta _ _ (by rfl)]
  simp [ht, hf]

end Go.Proofs.YtpomdoelihmebaaGreatDoor

/- errors.As at a target of type api.Errno, of an error that is one: Go's own text, walked; plain.Told. -/
namespace Go.Proofs.YtpomdoelihmebaaGreatDoor
open Go Go.RowKit Go.Extern.Stop Go.Stop Go.Extern

set_option maxHeartbeats 4000000 in
set_option maxRecDepth 100000 in
theorem as_hit (n : Int) (t : Addr) (old : Value) (w : World) (hg : w.cell? ⟨0, 0, none⟩ = some (.iface 182 (.agg #[.pointer (some ⟨2, 25, none⟩)]))) (ht0 : w.cell? t = some old) (hf0 : w.frozen? t = false) :
    Calls Tryz.prog 58 #[.iface 75 (.int .i64 n), .iface 116 (.pointer (some t))] w fun ev w' => ev = .returned (.bool true) ∧ w' = ((((w.alloc (.cells #[.pointer (some t)] 116)).alloc (.cells #[.pointer (some ⟨2, 116, none⟩), .pointer (some ⟨w.heap.size, 0, none⟩), .int .u64 150] 143)).alloc (.cells #[.pointer (some ⟨2, 116, none⟩), .pointer (some ⟨w.heap.size, 0, none⟩), .int .u64 150] 143)).alloc (.cells #[.int .i64 n] 75)).setCell t (.int .i64 n) := by
  have h1 := @run_callFunc_extern Tryz.prog 83 _ (fun args => ReflectliteValue.unpack (args.getD 0 (.tuple #[]))) Tryz.func83 (by kernel_rfl) (by kernel_rfl) (by kernel_rfl) (by kernel_rfl)
  have h2 := @run_callFunc_extern Tryz.prog 84 _ (ReflectliteValue.methodAny (ReflectliteValue.valueError "reflectlite.Value.Type" 0) (fun t _ _ _ => ReflectliteType.toType t)) Tryz.func84 (by kernel_rfl) (by kernel_rfl) (by kernel_rfl) (by kernel_rfl)
  have h3 := @run_callFunc_extern Tryz.prog 85 _ (ReflectliteValue.method (ReflectliteValue.valueError "reflectlite.Value.IsNil" 0) ReflectliteValue.isNil) Tryz.func85 (by kernel_rfl) (by kernel_rfl) (by kernel_rfl) (by kernel_rfl)
  have h4 := @run_callFunc_extern Tryz.prog 212 _ (ReflectliteType.abiMethod fun t => do pure (.int .u8 (← Rtype.kind t))) Tryz.func212 (by kernel_rfl) (by kernel_rfl) (by kernel_rfl) (by kernel_rfl)
  have h5 := @run_callFunc_extern Tryz.prog 222 _ (ReflectliteType.method ReflectliteType.elem) Tryz.func222 (by kernel_rfl) (by kernel_rfl) (by kernel_rfl) (by kernel_rfl)
  have h6 := @run_callFunc_extern Tryz.prog 223 _ (ReflectliteType.relation "Implements" ReflectliteType.implements_) Tryz.func223 (by kernel_rfl) (by kernel_rfl) (by kernel_rfl) (by kernel_rfl)
  have h7 := @run_callFunc_extern Tryz.prog 119 _ ReflectliteType.typeOf Tryz.func119 (by kernel_rfl) (by kernel_rfl) (by kernel_rfl) (by kernel_rfl)
  have h8 := @run_callFunc_extern Tryz.prog 220 _ (ReflectliteType.relation "AssignableTo" ReflectliteType.assignableTo) Tryz.func220 (by kernel_rfl) (by kernel_rfl) (by kernel_rfl) (by kernel_rfl)
  have h9 := @run_callFunc_extern Tryz.prog 120 _ (ReflectliteValue.method (ReflectliteValue.valueError "reflectlite.Value.Elem" 0) ReflectliteValue.elem) Tryz.func120 (by kernel_rfl) (by kernel_rfl) (by kernel_rfl) (by kernel_rfl)
  have h10 := @run_callFunc_extern Tryz.prog 121 _ ReflectliteValue.set Tryz.func121 (by kernel_rfl) (by kernel_rfl) (by kernel_rfl) (by kernel_rfl)
  have g1 := valueOfP
  have g2 := typeP
  have g3 := kindP
  have g4 := kindE
  have g5 := elemTP
  have g6 := implementsE
  have g7 := typeOfE
  have g8 := assignableE
  have g9 := valueOfE
  have m1 := methodKind
  have m2 := methodElem
  have m3 := methodImplements
  have m4 := methodAssignableTo
  have n8 := isNilP ⟨w.heap.size, 0, none⟩ t ((w.alloc (.cells #[.pointer (some t)] 116)).alloc (.cells #[.pointer (some ⟨2, 116, none⟩), .pointer (some ⟨w.heap.size, 0, none⟩), .int .u64 150] 143)) (by simp)
  have hlt : 0 < w.heap.size := by
    rcases Nat.eq_zero_or_pos w.heap.size with h0 | h
    · simp [World.cell?, h0] at hg
    · exact h
  have hg2 : ((w.alloc (.cells #[.pointer (some t)] 116)).alloc (.cells #[.pointer (some ⟨2, 116, none⟩), .pointer (some ⟨w.heap.size, 0, none⟩), .int .u64 150] 143)).cell? ⟨0, 0, none⟩ = some (.iface 182 (.agg #[.pointer (some ⟨2, 25, none⟩)])) := by
    rw [World.cell?_alloc_lt _ _ ⟨0, 0, none⟩ (by simp), World.cell?_alloc_lt _ _ ⟨0, 0, none⟩ hlt]; exact hg
  have htl : t.block < w.heap.size := by
    rcases Nat.lt_or_ge t.block w.heap.size with h | h
    · exact h
    · simp [World.cell?, Array.getElem?_eq_none h] at ht0
  have el := elemVP ⟨w.heap.size, 0, none⟩ t (((w.alloc (.cells #[.pointer (some t)] 116)).alloc (.cells #[.pointer (some ⟨2, 116, none⟩), .pointer (some ⟨w.heap.size, 0, none⟩), .int .u64 150] 143)).alloc (.cells #[.pointer (some ⟨2, 116, none⟩), .pointer (some ⟨w.heap.size, 0, none⟩), .int .u64 150] 143)) (by rw [World.cell?_alloc_lt _ _ ⟨w.heap.size, 0, none⟩ (by simp; omega)]; simp)
  have st := setE t ⟨w.heap.size + 1 + 1 + 1, 0, none⟩ n old ((((w.alloc (.cells #[.pointer (some t)] 116)).alloc (.cells #[.pointer (some ⟨2, 116, none⟩), .pointer (some ⟨w.heap.size, 0, none⟩), .int .u64 150] 143)).alloc (.cells #[.pointer (some ⟨2, 116, none⟩), .pointer (some ⟨w.heap.size, 0, none⟩), .int .u64 150] 143)).alloc (.cells #[.int .i64 n] 75))
    (by rw [World.cell?_alloc_at _ _ _ _ (by simp)]; rfl)
    (by rw [World.cell?_alloc_lt _ _ t (by simp; omega), World.cell?_alloc_lt _ _ t (by simp; omega), World.cell?_alloc_lt _ _ t (by simp; omega), World.cell?_alloc_lt _ _ t htl]; exact ht0)
    (by rw [World.frozen?_alloc_old _ _ t (by simp; omega), World.frozen?_alloc_old _ _ t (by simp; omega), World.frozen?_alloc_old _ _ t (by simp; omega), World.frozen?_alloc_old _ _ t (Nat.ne_of_lt htl)]; exact hf0)
  go_enter Tryz.func58, Tryz.ntmps58
  go_wp2
  refine wp_loop_rounds 1 ?_
  rw [rounds_succ]
  go_wp2
  go_ret
  exact ⟨rfl, rfl⟩

/-- the error type's variable, as the program lays it -/
def errVar (w : World) : Prop := w.cell? ⟨0, 0, none⟩ = some (.iface 182 (.agg #[.pointer (some ⟨2, 25, none⟩)]))

theorem errVar.below {w w' : World} (h : errVar w) (hb : Below w.heap.size w w') : errVar w' := by
  unfold errVar at *
  have hlt : 0 < w.heap.size := by
    rcases Nat.eq_zero_or_pos w.heap.size with h0 | h'
    · simp [World.cell?, h0] at h
    · exact h'
  rw [hb.cell (p := ⟨0, 0, none⟩) hlt]; exact h

theorem Told_nil (w : World) : Calls Tryz.prog 33 #[.nilIface] w fun e w' => e = .returned (.int .i64 0) ∧ Below w.heap.size w w' := by
  go_enter Tryz.func33, Tryz.ntmps33
  go_wp2
  go_ret
  exact ⟨rfl, Below.refl _ _⟩

set_option maxHeartbeats 1000000 in
theorem Told_hit (n : Int) (w : World) (hg : errVar w) : Calls Tryz.prog 33 #[.iface 75 (.int .i64 n)] w fun e w' => e = .returned (.int .i64 n) ∧ Below w.heap.size w w' := by
  have hgA := hg.below (balloc w (.cells #[.int .i64 0] 75))
  unfold errVar at hgA
  have htA : (w.alloc (.cells #[.int .i64 0] 75)).cell? ⟨w.heap.size, 0, none⟩ = some (.int .i64 0) := by simp
  have hfA : (w.alloc (.cells #[.int .i64 0] 75)).frozen? ⟨w.heap.size, 0, none⟩ = false := by simp
  go_enter Tryz.func33, Tryz.ntmps33
  go_wp2_with fail
  refine (as_hit n _ (.int .i64 0) _ hgA htA hfA).mono ?_
  rintro e w' ⟨rfl, rfl⟩
  go_wp2_with fail
  go_ret
  exact ⟨rfl, bstep (bstep (bstep (bstep (balloc _ _) (balloc _ _)) (balloc _ _)) (balloc _ _)) (balloc _ _)⟩

/-- stratasame.Error: is it the error of that number? -/
theorem SameError_any (m e : Int) (w : World) (hg : errVar w) : Calls Tryz.prog 8 #[errV m, .int .i64 e] w fun r w' => r = .returned (.bool (m == e)) ∧ Below w.heap.size w w' := by
  by_cases h : m = 0
  · subst h
    rw [show errV 0 = .nilIface from rfl]
    go_enter Tryz.func8, Tryz.ntmps8
    go_wp2_with (go_at_call 33; refine (Told_nil _).mono ?_; rintro e w1 ⟨rfl, hb⟩)
    go_ret
    exact ⟨rfl, hb⟩
  · rw [show errV m = .iface 75 (.int .i64 m) from if_neg h]
    go_enter Tryz.func8, Tryz.ntmps8
    go_wp2_with (go_at_call 33; refine (Told_hit m _ hg).mono ?_; rintro e w1 ⟨rfl, hb⟩)
    go_ret
    exact ⟨rfl, hb⟩
end Go.Proofs.YtpomdoelihmebaaGreatDoor

/- stratalaw4.RepoFull: the walk. -/
namespace Go.Proofs.YtpomdoelihmebaaGreatDoor
open Go Go.RowKit Go.Proofs
set_option synthInstance.maxSize 1000

/-- the repo alone -/
def SR (F : RFace) (w0 : World) (r : Nat) (R : Rp) (W : World) : Prop := ∃ O : Nat → Prop, F.At W r O R ∧ RowKit.Below w0.heap.size w0 W ∧ ∀ j, O j → w0.heap.size ≤ j
section
variable {F : RFace} {w0 : World} {r : Nat} {R : Rp} {W W' : World}
theorem SR.below (h : SR F w0 r R W) (hb : RowKit.Below W.heap.size W W') : SR F w0 r R W' := by
  obtain ⟨O, h1, h2, h3⟩ := h
  exact ⟨O, F.below h1 hb, bstep h2 hb, h3⟩
theorem SR.low (h : SR F w0 r R W) : RowKit.Below w0.heap.size w0 W := by
  obtain ⟨O, _, h2, _⟩ := h
  exact h2
theorem SR.to {O O' : Nat → Prop} {R' : Rp} (h2 : RowKit.Below w0.heap.size w0 W) (h3 : ∀ j, O j → w0.heap.size ≤ j) (hA : F.At W' r O' R') (ho : Offs O W W') (hn : ∀ j, O' j → O j ∨ W.heap.size ≤ j) : SR F w0 r R' W' := by
  refine ⟨O', hA, h2.trans (ho.below h3 h2.size), fun j hj => ?_⟩
  have hz := h2.size
  rcases hn j hj with hj | hj
  · exact h3 j hj
  · omega
/-- a set that was made behind the world W -/
structure MadeIn (W W' : World) (ad : Option Addr) (ca : Nat) (s : List Tr) : Prop where
  sl : SlT W' ad s
  cap : s.length ≤ ca
  new : s ≠ [] → ∀ d, ad = some d → W.heap.size ≤ d.block
theorem SR.commit (b : List UInt8) (ad : Option Addr) (ca : Nat) (s : List Tr) (t : List UInt8) (h : SR F w0 r R W) (hb' : RowKit.Below W.heap.size W W') (hm : MadeIn W W' ad ca s) (hg : GoodR R) (hb : b.length ≤ F.lim) (ht : t.length ≤ F.lim) (hs : IsSet s) :
    Calls Tryz.prog 6 #[.pointer (some ⟨r, 0, none⟩), .string ⟨b.toArray⟩, .slice ad s.length ca, .string ⟨t.toArray⟩] W' fun e W'' => e = .returned (.tuple #[.int .i64 (commitI R b s t : Int), errV (commitE R b s t)]) ∧ SR F w0 r (commitR R b s t) W'' := by
  obtain ⟨O, h1, h2, h3⟩ := h
  have hA := F.below h1 hb'
  refine (F.commit W' r O R b ad ca s t hA hg ⟨hm.sl, hm.cap, fun x hx => fit_chk (hs.2.1 x hx), by unfold maxLen; have := hs.1; omega, fun hne d hd hO => by have h9 := hm.new hne d hd; have h8 := F.own h1 _ hO; omega⟩ hb ht).mono ?_
  rintro e W'' ⟨rfl, O', hA', ho, hn⟩
  exact ⟨rfl, SR.to (bstep h2 hb') h3 hA' ho hn⟩
theorem SR.drop (b : List UInt8) (h : SR F w0 r R W) (hg : GoodR R) (hb : b.length ≤ F.lim) :
    Calls Tryz.prog 9 #[.pointer (some ⟨r, 0, none⟩), .string ⟨b.toArray⟩] W fun e W' => e = .returned (errV (headE R b)) ∧ SR F w0 r (dropR R b) W' := by
  obtain ⟨O, h1, h2, h3⟩ := h
  refine (F.drop W r O R b h1 hg hb).mono ?_
  rintro e W' ⟨rfl, O', hA, ho, hn⟩
  exact ⟨rfl, SR.to h2 h3 hA ho hn⟩
theorem SR.branch (b : List UInt8) (a : Int) (h : SR F w0 r R W) (hg : GoodR R) (hb : b.length ≤ F.lim) :
    Calls Tryz.prog 10 #[.pointer (some ⟨r, 0, none⟩), .string ⟨b.toArray⟩, .int .i64 a] W fun e W' => e = .returned (errV (branchE R b a)) ∧ SR F w0 r (branchR R b a) W' := by
  obtain ⟨O, h1, h2, h3⟩ := h
  refine (F.branch W r O R b a h1 hg hb).mono ?_
  rintro e W' ⟨rfl, O', hA, ho, hn⟩
  exact ⟨rfl, SR.to h2 h3 hA ho hn⟩
theorem SR.head (b : List UInt8) (h : SR F w0 r R W) (hg : GoodR R) (hb : b.length ≤ F.lim) :
    Calls Tryz.prog 11 #[.pointer (some ⟨r, 0, none⟩), .string ⟨b.toArray⟩] W fun e W' => e = .returned (.tuple #[.int .i64 (headI R b), errV (headE R b)]) ∧ RowKit.Below W.heap.size W W' := by
  obtain ⟨O, h1, _⟩ := h
  exact F.head W r O R b h1 hg hb
theorem SR.refs (h : SR F w0 r R W) (hg : GoodR R) :
    Calls Tryz.prog 12 #[.pointer (some ⟨r, 0, none⟩)] W fun e W' => ∃ ad ca, e = .returned (.slice ad R.refs.length ca) ∧ RowKit.Below W.heap.size W W' := by
  obtain ⟨O, h1, _⟩ := h
  refine (F.refs W r O R h1 hg).mono ?_
  rintro e W' ⟨ad, ca, h2, _, h3⟩
  exact ⟨ad, ca, h2, h3⟩
end
theorem made_many {W W' : World} {v : Value} {n : Nat} (h : W'.ownsRow W.heap.size 83 9 v n (cellsT (manyL 115 n))) : ∃ ad ca, v = .slice ad n ca ∧ MadeIn W W' ad ca (manyL 115 n) := by
  have h' := h
  rcases h.2 with ⟨rfl, h0⟩ | ⟨g, cap, cur, rfl, hg, _, hc, _⟩
  · subst h0
    exact ⟨none, 0, rfl, fun hne => absurd rfl hne, by simp [manyL], fun hne => absurd rfl hne⟩
  · refine ⟨some ⟨g, 0, none⟩, cap, rfl, fun _ => ⟨g, 0, rfl, fun j u hj => ?_⟩, by rw [manyL_len]; exact hc, fun _ d hd => by cases hd; exact hg⟩
    have := h'.cells (g := g) rfl j u hj
    rwa [Addr.add_lit] at this
theorem Many_any (n : Nat) (w : World) (hn : n ≤ 200) : Calls Tryz.prog 7 #[.int .i64 n] w fun e w' => ∃ ad ca, e = .returned (.slice ad (manyL 115 n).length ca) ∧ MadeIn w w' ad ca (manyL 115 n) ∧ RowKit.Below w.heap.size w w' := by
  refine (many_any n w hn).mono ?_
  rintro e w' ⟨v, rfl, h1, h2⟩
  obtain ⟨ad, ca, rfl, h3⟩ := made_many h1
  exact ⟨ad, ca, by rw [manyL_len], h3, h2⟩
set_option maxRecDepth 100000 in
theorem sliceR (a : Nat) (h : a < 10) (w : World) : (Instr.sliceAt 9 (.string ⟨#[97, 98, 99, 100, 101, 102, 103, 104, 105, 106]⟩) (some (.int .i64 (a : Int))) (some (.int .i64 ((a : Int) + 1))) none).run Tryz.prog w = .ok (.string ⟨(letR a).toArray⟩) w := by
  rcases (by omega : a = 0 ∨ a = 1 ∨ a = 2 ∨ a = 3 ∨ a = 4 ∨ a = 5 ∨ a = 6 ∨ a = 7 ∨ a = 8 ∨ a = 9) with rfl | rfl | rfl | rfl | rfl | rfl | rfl | rfl | rfl | rfl
  all_goals kernel_rfl
set_option maxRecDepth 100000 in
theorem sliceR2 (a : Nat) (h : a < 10) (w : World) : (Instr.slice 9 (.string ⟨#[97, 98, 99, 100, 101, 102, 103, 104, 105, 106]⟩) (some (.int .i64 (a : Int))) (some (.int .i64 ((a : Int) + 1))) none).run Tryz.prog w = .ok (.string ⟨(letR a).toArray⟩) w := by
  rcases (by omega : a = 0 ∨ a = 1 ∨ a = 2 ∨ a = 3 ∨ a = 4 ∨ a = 5 ∨ a = 6 ∨ a = 7 ∨ a = 8 ∨ a = 9) with rfl | rfl | rfl | rfl | rfl | rfl | rfl | rfl | rfl | rfl
  all_goals kernel_rfl
theorem wrapR (k : Nat) (h : k ≤ 1000) : IntKind.i64.wrap ((k : Int) + 1) = (k : Int) + 1 := by simp [IntKind.wrap, IntKind.bits, IntKind.signed]; omega
theorem ErrNil (w : World) (hg : errVar w) : Calls Tryz.prog 8 #[.nilIface, .int .i64 4] w fun r w' => r = .returned (.bool false) ∧ RowKit.Below w.heap.size w w' := SameError_any 0 4 w hg
theorem ErrFull (w : World) (hg : errVar w) : Calls Tryz.prog 8 #[.iface 75 (.int .i64 4), .int .i64 4] w fun r w' => r = .returned (.bool true) ∧ RowKit.Below w.heap.size w w' := SameError_any 4 4 w hg
theorem errV_nilF : errV 0 = .nilIface := rfl
theorem errV_four : errV 4 = .iface 75 (.int .i64 4) := rfl

set_option maxHeartbeats 16000000 in
set_option maxRecDepth 1000000 in
theorem repoFull_any (F : RFace) (n d : Int) (w : World) (hg : errVar w) (hlim : 2 ≤ F.lim) :
    Calls Tryz.prog 3 #[.int .i64 n, .int .i64 d] w fun e w' => e = .returned (.bool true) ∧ RowKit.Below w.heap.size w w' := by
  have HN := F.new w
  have Hg := hideO hg
  have E0 := fun W (h : RowKit.Below w.heap.size w W) => ErrNil W (hg.below h)
  have E4 := fun W (h : RowKit.Below w.heap.size w W) => ErrFull W (hg.below h)
  have hl1 : 1 ≤ F.lim := by omega
  have hl0 : ([] : List UInt8).length ≤ F.lim := Nat.zero_le _
  clear hg
  go_enter Tryz.func3, Tryz.ntmps3
  go_wp2_with fail
  refine HN.mono ?_
  rintro e w1 ⟨r, O, rfl, hA, hb1, hO⟩
  have st1 : Hid (SR F w r emptyR w1) := ⟨O, hA, hb1, hO⟩
  clear hA hb1 hO HN
  dsimp only
  go_wp2_with fail
  go_loopw [7] (fun i wr => ∃ (k : Nat) (R : Rp), k ≤ 10 ∧ i = .int .i64 k ∧ Hid (P1 R (min k 8)) ∧ Hid (SR F w r R wr)) (fun i wr => 10 - (intOf i).toNat)
  case atStart => exact ⟨0, emptyR, by omega, rfl, p1_empty, st1⟩
  case round =>
    obtain ⟨k, R, hk, rfl, hP, st⟩ := hrel
    clear st1
    generalize hW0 : wr = W0 at *
    clear hW0
    by_cases hk10 : k < 10
    · have i1 : (k : Int) < 10 := by omega
      have hsl := sliceR k hk10
      have hsl2 := sliceR2 k hk10
      have hwr := wrapR k (by omega)
      have hdr : RowKit.Below W0.heap.size W0 W0.drew := ⟨rfl, rfl, rfl, Nat.le_refl _, fun _ _ => rfl⟩
      have std := hideO (st.out.below hdr)
      have hld := hideO std.out.low
      have HM := fun W => Many_any k W (by omega)
      have hset : Hid (IsSet (manyL 115 k)) := manyS (by omega)
      have HC := hideO (fun (W' : World) (ad : Option Addr) (ca : Nat) (hb' : RowKit.Below W0.drew.heap.size W0.drew W') (hm : MadeIn W0.drew W' ad ca (manyL 115 k)) => std.out.commit (letR k) ad ca (manyL 115 k) [] hb' hm hP.out.few.good hl1 hl0 hset.out)
      by_cases hk8 : k < 8
      · obtain ⟨q1, q2⟩ := p1_commit (R := R) (k := k) (by have := hP.out; rwa [show min k 8 = k by omega] at this) hk8
        have HP2 : Hid (P1 (commitR R (letR k) (manyL 115 k) []) (min (k + 1) 8)) := by show P1 _ _; rw [show min (k + 1) 8 = k + 1 by omega]; exact q2
        have HC2 : Hid (∀ (W' : World) (ad : Option Addr) (ca : Nat), RowKit.Below W0.drew.heap.size W0.drew W' → MadeIn W0.drew W' ad ca (manyL 115 k) → Calls Tryz.prog 6 #[.pointer (some ⟨r, 0, none⟩), .string ⟨(letR k).toArray⟩, .slice ad (manyL 115 k).length ca, .string ⟨([] : List UInt8).toArray⟩] W' fun e W'' => e = .returned (.tuple #[.int .i64 (commitI R (letR k) (manyL 115 k) [] : Int), .nilIface]) ∧ SR F w r (commitR R (letR k) (manyL 115 k) []) W'') := fun W' ad ca hb' hm => by
          have := HC.out W' ad ca hb' hm
          rw [q1, errV_nilF] at this
          exact this
        have i2 : (k : Int) < 8 := by omega
        have i3 : decide ((8 : Int) ≤ (k : Int)) = false := by simp; omega
        clear q1 q2 HC st
        generalize commitR R (letR k) (manyL 115 k) [] = R2 at *
        generalize commitI R (letR k) (manyL 115 k) [] = nn at *
        generalize hml : manyL 115 k = ml at *
        generalize hlk : letR k = lk at *
        clear hml hlk
        go_wp2_with fail
        go_region_held3 (fun W => RowKit.Below w.heap.size w W) (first | (with_reducible exact hld.out) | (with_reducible exact bstep hld.out hb2) | (with_reducible exact st3.low) | assumption) (first
          | (go_simp; go_at_call 7; refine (HM _).mono ?_; rintro e w2 ⟨ad, ca, rfl, hm2, hb2⟩; dsimp only)
          | (go_simp; go_at_call 6; refine (HC2.out _ ad ca hb2 hm2).mono ?_; rintro e w3 ⟨rfl, st3⟩; dsimp only))
        have st3' := hideO st3
        clear st3 HM HC2 hm2 hb2 std hld
        go_wp2_with fail
        refine (E0 _ st3'.out.low).mono ?_
        rintro e w4 ⟨rfl, hb4⟩
        have st4 := hideO (st3'.out.below hb4)
        clear st3' hb4
        dsimp only
        go_wp2_with fail
        go_roundw
        case rel => first | exact ⟨k + 1, R2, by omega, by go_num, HP2, st4⟩ | ((repeat apply Exists.intro); exact ⟨⟨k + 1, R2, by omega, by go_num, HP2, st4⟩, rfl⟩)
        case measure => simp [intOf]; omega
      · have hP8 : P1 R 8 := by have := hP.out; rwa [show min k 8 = 8 by omega] at this
        obtain ⟨q1, q2⟩ := p1_full hP8 (show 8 ≤ k by omega) hk10
        have HP2 : Hid (P1 R (min (k + 1) 8)) := by show P1 _ _; rw [show min (k + 1) 8 = 8 by omega]; exact hP8
        have HC2 : Hid (∀ (W' : World) (ad : Option Addr) (ca : Nat), RowKit.Below W0.drew.heap.size W0.drew W' → MadeIn W0.drew W' ad ca (manyL 115 k) → Calls Tryz.prog 6 #[.pointer (some ⟨r, 0, none⟩), .string ⟨(letR k).toArray⟩, .slice ad (manyL 115 k).length ca, .string ⟨([] : List UInt8).toArray⟩] W' fun e W'' => e = .returned (.tuple #[.int .i64 (commitI R (letR k) (manyL 115 k) [] : Int), .iface 75 (.int .i64 4)]) ∧ SR F w r R W'') := fun W' ad ca hb' hm => by
          have := HC.out W' ad ca hb' hm
          rw [q1, q2, errV_four] at this
          exact this
        have i2 : ¬ ((k : Int) < 8) := by omega
        have i2' : decide ((k : Int) < 8) = false := by simpa using i2
        have i3 : (8 : Int) ≤ (k : Int) := by omega
        clear q1 q2 HC st hP8
        generalize commitI R (letR k) (manyL 115 k) [] = nn at *
        generalize hml : manyL 115 k = ml at *
        generalize hlk : letR k = lk at *
        clear hml hlk
        go_wp2_with fail
        go_region_held3 (fun W => RowKit.Below w.heap.size w W) (first | (with_reducible exact hld.out) | (with_reducible exact bstep hld.out hb2) | (with_reducible exact st3.low) | assumption) (first
          | (go_simp; go_at_call 7; refine (HM _).mono ?_; rintro e w2 ⟨ad, ca, rfl, hm2, hb2⟩; dsimp only)
          | (go_simp; go_at_call 6; refine (HC2.out _ ad ca hb2 hm2).mono ?_; rintro e w3 ⟨rfl, st3⟩; dsimp only))
        have st3' := hideO st3
        clear st3 HM HC2 hm2 hb2 std hld
        go_wp2_with fail
        refine (E4 _ st3'.out.low).mono ?_
        rintro e w4 ⟨rfl, hb4⟩
        have st4 := hideO (st3'.out.below hb4)
        clear st3' hb4
        dsimp only
        go_wp2_with fail
        go_roundw
        case rel => first | exact ⟨k + 1, R, by omega, by go_num, HP2, st4⟩ | ((repeat apply Exists.intro); exact ⟨⟨k + 1, R, by omega, by go_num, HP2, st4⟩, rfl⟩)
        case measure => simp [intOf]; omega
    · obtain rfl : k = 10 := by omega
      have hP2 : Hid (P2 R 0) := P1.next hP.out
      have hlow := hideO st.out.low
      clear hP hk hk10
      by_cases hr : 0 ≤ n ∧ n ≤ 70
      · obtain ⟨N, rfl⟩ : ∃ N : Nat, n = (N : Int) := ⟨n.toNat, by omega⟩
        have g1 : ¬ ((N : Int) < 0) := by omega
        have g2 : ¬ (70 < (N : Int)) := by omega
        have hN : N ≤ 70 := by omega
        clear hr hlow
        go_wp2_with fail
        go_loopw [11] (fun i wr => ∃ (k : Nat) (R : Rp), k ≤ N ∧ i = .int .i64 k ∧ Hid (P2 R (min k 52)) ∧ Hid (SR F w r R wr)) (fun i wr => N - (intOf i).toNat)
        case atStart => exact ⟨0, R, by omega, rfl, hP2, st⟩
        case round =>
          clear hP2 st
          obtain ⟨k, R, hk, rfl, hP, st⟩ := hrel
          generalize hW1 : wr = W1 at *
          clear hW1
          by_cases hkN : k < N
          · have i1 : (k : Int) < (N : Int) := by omega
            obtain ⟨p, hp⟩ : ∃ p, p = k % 5 := ⟨_, rfl⟩
            have e5 : (k : Int) % 5 = (p : Int) := by omega
            have hp9 : p ≤ 9 := by omega
            have HM := Many_any p W1 (by omega)
            have hset : Hid (IsSet (manyL 115 p)) := manyS (by omega)
            have HC := hideO (fun (W' : World) (ad : Option Addr) (ca : Nat) (hb' : RowKit.Below W1.heap.size W1 W') (hm : MadeIn W1 W' ad ca (manyL 115 p)) => st.out.commit (letR 0) ad ca (manyL 115 p) [] hb' hm hP.out.few.good hl1 hl0 hset.out)
            by_cases hk52 : k < 52
            · obtain ⟨q1, q2⟩ := p2_commit (R := R) (k := k) (n := p) (by have := hP.out; rwa [show min k 52 = k by omega] at this) hk52 hp9
              have HP2 : Hid (P2 (commitR R (letR 0) (manyL 115 p) []) (min (k + 1) 52)) := by show P2 _ _; rw [show min (k + 1) 52 = k + 1 by omega]; exact q2
              have HC2 : Hid (∀ (W' : World) (ad : Option Addr) (ca : Nat), RowKit.Below W1.heap.size W1 W' → MadeIn W1 W' ad ca (manyL 115 p) → Calls Tryz.prog 6 #[.pointer (some ⟨r, 0, none⟩), .string ⟨(letR 0).toArray⟩, .slice ad (manyL 115 p).length ca, .string ⟨([] : List UInt8).toArray⟩] W' fun e W'' => e = .returned (.tuple #[.int .i64 (commitI R (letR 0) (manyL 115 p) [] : Int), .nilIface]) ∧ SR F w r (commitR R (letR 0) (manyL 115 p) []) W'') := fun W' ad ca hb' hm => by
                have := HC.out W' ad ca hb' hm
                rw [q1, errV_nilF] at this
                exact this
              have i2 : (k : Int) < 52 := by omega
              have i3 : decide ((52 : Int) ≤ (k : Int)) = false := by simp; omega
              clear q1 q2 HC st hp
              generalize commitR R (letR 0) (manyL 115 p) [] = R2 at *
              generalize commitI R (letR 0) (manyL 115 p) [] = nn at *
              generalize hml : manyL 115 p = ml at *
              clear hml
              go_wp2_with fail
              refine HM.mono ?_
              rintro e w2 ⟨ad, ca, rfl, hm2, hb2⟩
              dsimp only
              have C := HC2.out w2 ad ca hb2 hm2
              clear HM HC2 hm2 hb2
              go_wp2_with fail
              refine C.mono ?_
              rintro e w3 ⟨rfl, st3⟩
              have st3' := hideO st3
              clear st3 C
              dsimp only
              go_wp2_with fail
              refine (E0 _ st3'.out.low).mono ?_
              rintro e w4 ⟨rfl, hb4⟩
              have st4 := hideO (st3'.out.below hb4)
              clear st3' hb4
              dsimp only
              go_wp2_with fail
              go_roundw
              case rel => first | exact ⟨k + 1, R2, by omega, by go_num, HP2, st4⟩ | ((repeat apply Exists.intro); exact ⟨⟨k + 1, R2, by omega, by go_num, HP2, st4⟩, rfl⟩)
              case measure => simp [intOf]; omega
            · have hP8 : P2 R 52 := by have := hP.out; rwa [show min k 52 = 52 by omega] at this
              obtain ⟨q1, q2⟩ := p2_full (n := p) hP8 hp9
              have HP2 : Hid (P2 R (min (k + 1) 52)) := by show P2 _ _; rw [show min (k + 1) 52 = 52 by omega]; exact hP8
              have HC2 : Hid (∀ (W' : World) (ad : Option Addr) (ca : Nat), RowKit.Below W1.heap.size W1 W' → MadeIn W1 W' ad ca (manyL 115 p) → Calls Tryz.prog 6 #[.pointer (some ⟨r, 0, none⟩), .string ⟨(letR 0).toArray⟩, .slice ad (manyL 115 p).length ca, .string ⟨([] : List UInt8).toArray⟩] W' fun e W'' => e = .returned (.tuple #[.int .i64 (commitI R (letR 0) (manyL 115 p) [] : Int), .iface 75 (.int .i64 4)]) ∧ SR F w r R W'') := fun W' ad ca hb' hm => by
                have := HC.out W' ad ca hb' hm
                rw [q1, q2, errV_four] at this
                exact this
              have i2 : ¬ ((k : Int) < 52) := by omega
              have i2' : decide ((k : Int) < 52) = false := by simpa using i2
              have i3 : (52 : Int) ≤ (k : Int) := by omega
              clear q1 q2 HC st hP8 hp
              generalize commitI R (letR 0) (manyL 115 p) [] = nn at *
              generalize hml : manyL 115 p = ml at *
              clear hml
              go_wp2_with fail
              refine HM.mono ?_
              rintro e w2 ⟨ad, ca, rfl, hm2, hb2⟩
              dsimp only
              have C := HC2.out w2 ad ca hb2 hm2
              clear HM HC2 hm2 hb2
              go_wp2_with fail
              refine C.mono ?_
              rintro e w3 ⟨rfl, st3⟩
              have st3' := hideO st3
              clear st3 C
              dsimp only
              go_wp2_with fail
              refine (E4 _ st3'.out.low).mono ?_
              rintro e w4 ⟨rfl, hb4⟩
              have st4 := hideO (st3'.out.below hb4)
              clear st3' hb4
              dsimp only
              go_wp2_with fail
              go_roundw
              case rel => first | exact ⟨k + 1, R, by omega, by go_num, HP2, st4⟩ | ((repeat apply Exists.intro); exact ⟨⟨k + 1, R, by omega, by go_num, HP2, st4⟩, rfl⟩)
              case measure => simp [intOf]; omega
          · obtain rfl : k = N := by omega
            have hlow := hideO st.out.low
            clear hk hkN
            by_cases hdr : 0 ≤ d ∧ d ≤ 7
            · obtain ⟨D, rfl⟩ : ∃ D : Nat, d = (D : Int) := ⟨d.toNat, by omega⟩
              have f1 : ¬ ((D : Int) < 0) := by omega
              have f2 : ¬ (7 < (D : Int)) := by omega
              obtain ⟨q1, q2, q3, q4, q5⟩ := p2_end hP.out (show D < 8 by omega)
              have hsl := sliceR D (by omega)
              have hsl2 := sliceR2 D (by omega)
              have hwr := wrapR D (by omega)
              have CD := st.out.drop (letR D) hP.out.few.good hl1
              rw [q1, errV_nilF] at CD
              have CB := fun W (h : SR F w r (dropR R (letR D)) W) => h.branch nameZ 0 (hP.out.few.good.drop (letR D)) hlim
              rw [q2, errV_nilF] at CB
              have hgB := hideO ((hP.out.few.good.drop (letR D)).branch nameZ 0)
              have CH := fun W (h : SR F w r (branchR (dropR R (letR D)) nameZ 0) W) => h.head nameZ hgB.out hlim
              rw [q3, q4, errV_nilF] at CH
              have CR := fun W (h : SR F w r (branchR (dropR R (letR D)) nameZ 0) W) => h.refs hgB.out
              rw [q5] at CR
              clear hdr q1 q2 q3 q4 q5 hP st hlow hgB
              generalize branchR (dropR R (letR D)) nameZ 0 = R4 at *
              generalize dropR R (letR D) = R3 at *
              generalize hlk : letR D = lk at *
              clear hlk
              go_wp2_with fail
              refine CD.mono ?_
              rintro e w2 ⟨rfl, st2⟩
              have st2' := hideO st2
              clear st2 CD
              dsimp only
              go_wp2_with fail
              refine (CB _ st2'.out).mono ?_
              rintro e w3 ⟨rfl, st3⟩
              have st3' := hideO st3
              clear st3 st2' CB
              dsimp only
              go_wp2_with fail
              refine (CH _ st3'.out).mono ?_
              rintro e w4 ⟨rfl, hb4⟩
              have st4 := hideO (st3'.out.below hb4)
              clear st3' hb4 CH
              dsimp only
              go_wp2_with fail
              refine (CR _ st4.out).mono ?_
              rintro e w5 ⟨ad, ca, rfl, hb5⟩
              have hfin := hideO (bstep st4.out.low hb5)
              clear st4 hb5 CR
              dsimp only
              go_wp2_with fail
              go_ret
              exact ⟨rfl, hfin.out⟩
            · by_cases hd0 : d < 0
              · clear hdr st
                go_wp2_with fail
                go_ret
                exact ⟨rfl, hlow.out⟩
              · have hd7 : 7 < d := by omega
                clear hdr st
                go_wp2_with fail
                go_ret
                exact ⟨rfl, hlow.out⟩
      · by_cases hn0 : n < 0
        · clear hr st
          go_wp2_with fail
          go_ret
          exact ⟨rfl, hlow.out⟩
        · have hn70 : 70 < n := by omega
          clear hr st
          go_wp2_with fail
          go_ret
          exact ⟨rfl, hlow.out⟩
end Go.Proofs.YtpomdoelihmebaaGreatDoor
