/- stratalaw1.SetLaws: the walk. -/
import Derived.Test.YtibgelpkogdgkabSetOps
import Derived.Test.YtibgelpkogdgkabTripleSame
namespace Go.Proofs.Ytibgelpkogdgkab
open Go Go.RowKit Go.Proofs
set_option synthInstance.maxSize 1000

/-! ### what is together and apart, in numbers -/
theorem both_comm {a b : List Tr} (ha : Rising a) (hb : Rising b) : bothL a b = bothL b a :=
  rising_unique _ _ (List.Pairwise.filter _ ha) (List.Pairwise.filter _ hb) fun x => by rw [mem_bothL, mem_bothL]; exact And.comm
theorem sum_len {a b : List Tr} : (lessL a b).length + (lessL b a).length + (bothL a b).length = a.length + (lessL b a).length := by
  have := parts_len a b
  omega
theorem joinN_zero {a b : List Tr} : joinN a b = 0 ↔ bothN a b = 0 ∧ a.length + (lessL b a).length ≤ 200 := by
  unfold joinN
  by_cases h : bothN a b = 0
  · rw [if_pos h]
    by_cases h2 : a.length + (lessL b a).length ≤ 200
    · rw [if_pos h2]; exact ⟨fun _ => ⟨h, h2⟩, fun _ => rfl⟩
    · rw [if_neg h2]; exact ⟨fun e => absurd e (by decide), fun e => absurd e.2 h2⟩
  · rw [if_neg h]; exact ⟨fun e => absurd e h, fun e => absurd e.1 h⟩
theorem joinN_comm {a b : List Tr} : joinN a b = 0 ↔ joinN b a = 0 := by
  have q : ∀ {a b : List Tr}, joinN a b = 0 → joinN b a = 0 := fun {a b} h => by
    obtain ⟨h1, h2⟩ := joinN_zero.1 h
    obtain ⟨sa, sb⟩ := bothN_zero.1 h1
    refine joinN_zero.2 ⟨bothN_zero.2 ⟨sb, sa⟩, ?_⟩
    have e1 := parts_len a b
    have e2 := parts_len b a
    have e3 := congrArg List.length (both_comm sa.2.2 sb.2.2)
    omega
  exact ⟨q, q⟩
theorem join_less_both {a b : List Tr} (sa : IsSet a) : joinN (lessL a b) (bothL a b) = 0 := by
  refine joinN_zero.2 ⟨bothN_zero.2 ⟨sa.filter _, sa.filter _⟩, ?_⟩
  rw [less_apart, parts_len]
  exact sa.1
theorem join_a_more {a b : List Tr} (sa : IsSet a) (sb : IsSet b) (h : a.length + (lessL b a).length ≤ 200) : joinN a (lessL b a) = 0 := by
  refine joinN_zero.2 ⟨bothN_zero.2 ⟨sa, sb.filter _⟩, ?_⟩
  rw [less_twice]
  exact h
theorem hasN_set {l : List Tr} (t : Tr) (h : IsSet l) : hasN l t = chkTr t := by
  unfold hasN
  rw [if_pos (sortedN_set.2 h)]

def factX : Tr := ⟨⟨1, [97], []⟩, ⟨1, [98], []⟩, ⟨1, [99], []⟩⟩
theorem fact_set : IsSet [factX] := ⟨by simp, by intro x hx; rw [List.mem_singleton.1 hx]; decide, List.pairwise_singleton _ _⟩
theorem factJoin_any (ad : Option Addr) (c : Nat) (w : World) (h : SlT w ad [factX]) :
    Calls Try.prog 4 #[.slice ad 1 c, .slice none 0 0] w fun e w' => RowKit.Below w.heap.size w w' ∧ ∃ b o c', e = .returned (.tuple #[.slice (some ⟨b, o, none⟩) 1 c', .nilIface]) ∧ RowR w' b o [factX] := by
  have hj : joinN [factX] [] = 0 := joinN_zero.2 ⟨bothN_zero.2 ⟨fact_set, isSet_nil⟩, by decide⟩
  refine (Join_any' ad none c 0 [factX] [] w h (slT_nil _ _) fact_set.fit (by simp) (by simp) (by simp)).mono ?_
  rintro e w' ⟨hb, m, ad', c', rfl, hs, hJ, _⟩
  have hm : m = [factX] := by
    have h1 := hJ hj
    exact rising_unique _ _ h1.1 fact_set.2.2 fun x => by rw [h1.2]; simp
  subst hm
  rw [hj]
  obtain ⟨b, o, rfl, hr⟩ := hs (by simp)
  exact ⟨hb, b, o, c', rfl, hr⟩

/-- Join where nothing is wrong -/
theorem JoinGood_any (ad bd : Option Addr) (ca cb : Nat) (a b : List Tr) (w : World) (ha : SlT w ad a) (hb : SlT w bd b) (sa : IsSet a) (sb : IsSet b) (h : joinN a b = 0) :
    Calls Try.prog 4 #[.slice ad a.length ca, .slice bd b.length cb] w fun e w' => RowKit.Below w.heap.size w w' ∧ ∃ m ad' c', e = .returned (.tuple #[.slice ad' m.length c', .nilIface]) ∧ SlT w' ad' m ∧ JoinOf a b m := by
  refine (Join_any' ad bd ca cb a b w ha hb sa.fit sb.fit (by have := sa.1; omega) (by have := sb.1; omega)).mono ?_
  rintro e w' ⟨hb, m, ad', c', rfl, hs, hJ, _⟩
  exact ⟨hb, m, ad', c', by rw [h]; rfl, hs, hJ h⟩

/-- Less, Both, Has where nothing is wrong -/
theorem LessGood_any (ad bd : Option Addr) (ca cb : Nat) (a b : List Tr) (w : World) (ha : SlT w ad a) (hb : SlT w bd b) (sa : IsSet a) (sb : IsSet b) :
    Calls Try.prog 5 #[.slice ad a.length ca, .slice bd b.length cb] w fun e w' => RowKit.Below w.heap.size w w' ∧ ∃ ad' c', e = .returned (.tuple #[.slice ad' (lessL a b).length c', .nilIface]) ∧ SlT w' ad' (lessL a b) := by
  have h0 : bothN a b = 0 := bothN_zero.2 ⟨sa, sb⟩
  refine (Less_any ad bd ca cb a b w ha hb sa.fit sb.fit (by have := sa.1; omega) (by have := sb.1; omega)).mono ?_
  rintro e w' ⟨hb, m, ad', c', rfl, hs, hJ⟩
  unfold LessAns at hJ
  rw [if_pos h0] at hJ
  subst hJ
  exact ⟨hb, ad', c', by rw [h0]; rfl, hs⟩
theorem BothGood_any (ad bd : Option Addr) (ca cb : Nat) (a b : List Tr) (w : World) (ha : SlT w ad a) (hb : SlT w bd b) (sa : IsSet a) (sb : IsSet b) :
    Calls Try.prog 6 #[.slice ad a.length ca, .slice bd b.length cb] w fun e w' => RowKit.Below w.heap.size w w' ∧ ∃ ad' c', e = .returned (.tuple #[.slice ad' (bothL a b).length c', .nilIface]) ∧ SlT w' ad' (bothL a b) := by
  have h0 : bothN a b = 0 := bothN_zero.2 ⟨sa, sb⟩
  refine (Both_any ad bd ca cb a b w ha hb sa.fit sb.fit (by have := sa.1; omega) (by have := sb.1; omega)).mono ?_
  rintro e w' ⟨hb, m, ad', c', rfl, hs, hJ⟩
  unfold BothAns at hJ
  rw [if_pos h0] at hJ
  subst hJ
  exact ⟨hb, ad', c', by rw [h0]; rfl, hs⟩
theorem HasGood_any (ad : Option Addr) (ca : Nat) (l : List Tr) (t : Tr) (w : World) (hl : SlT w ad l) (sl : IsSet l) (ft : fitTr t) (d : Bool) (hd : d = (decide (chkTr t = 0) && decide (t ∈ l))) :
    Calls Try.prog 8 #[.slice ad l.length ca, valTr t] w fun e w' => e = .returned (.tuple #[.bool d, errV (chkTr t)]) ∧ RowKit.Below w.heap.size w w' := by
  have := Has_any ad ca l t w hl sl.fit ft (by have := sl.1; omega)
  rw [hasN_set t sl, ← hd] at this
  exact this
theorem SameTrue_any (ad bd : Option Addr) (ca cb : Nat) (l : List Tr) (w : World) (hl : SlT w ad l) (hm : SlT w bd l) (sl : IsSet l) :
    Calls Try.prog 7 #[.slice ad l.length ca, .slice bd l.length cb] w fun e w' => e = .returned (.bool true) ∧ RowKit.Below w.heap.size w w' := by
  have := SameTriples_any ad bd ca cb l l w hl hm (by have := sl.1; omega) (by have := sl.1; omega)
  rw [show decide (l = l) = true by simp] at this
  exact this

theorem neqFact (w : World) : (binOp .neq 26 (.agg #[.int .i64 1, .string ⟨#[97]⟩, .string ⟨#[]⟩, .int .i64 1, .string ⟨#[98]⟩, .string ⟨#[]⟩, .int .i64 1, .string ⟨#[99]⟩, .string ⟨#[]⟩]) (.agg #[.int .i64 1, .string ⟨#[97]⟩, .string ⟨#[]⟩, .int .i64 1, .string ⟨#[98]⟩, .string ⟨#[]⟩, .int .i64 1, .string ⟨#[99]⟩, .string ⟨#[]⟩])).run Try.prog w = .ok (.bool false) w := by kernel_rfl

attribute [local go_sem] eql_errV neq_errV guard_errV
attribute [local go_sem ↓] neqFact

set_option maxHeartbeats 16000000 in
set_option maxRecDepth 100000 in
theorem laws_any (ad bd : Option Addr) (ca cb : Nat) (a b : List Tr) (t : Tr) (w : World) (ha : SlT w ad a) (hb : SlT w bd b) (fa : ∀ x ∈ a, fitTr x) (fb : ∀ x ∈ b, fitTr x) (ft : fitTr t) (na : a.length ≤ 9223372036854775807) (nb : b.length ≤ 9223372036854775807) :
    Calls Try.prog 3 #[.slice ad a.length ca, .slice bd b.length cb, valTr t] w fun e w' => e = .returned (.bool true) ∧ RowKit.Below w.heap.size w w' := by
  have Ha : Hid (SlT w ad a) := ha
  have Hb : Hid (SlT w bd b) := hb
  have Hft : Hid ((∀ x ∈ a, fitTr x) ∧ (∀ x ∈ b, fitTr x) ∧ fitTr t) := ⟨fa, fb, ft⟩
  have HF := factJoin_any
  have HJ := fun W h1 h2 => Join_any' ad bd ca cb a b W h1 h2 fa fb na nb
  have HT := fun W h1 h2 => Join_any' bd ad cb ca b a W h1 h2 fb fa nb na
  have HL := fun W h1 h2 => Less_any ad bd ca cb a b W h1 h2 fa fb na nb
  have HM := fun W h1 h2 => Less_any bd ad cb ca b a W h1 h2 fb fa nb na
  have HB := fun W h1 h2 => Both_any ad bd ca cb a b W h1 h2 fa fb na nb
  have hcomm := @joinN_comm a b
  clear ha hb fa fb ft
  unfold valTr
  go_enter Try.func3, Try.ntmps3
  go_wp2_with fail
  refine (HF _ _ _ ?hf).mono ?_
  case hf =>
    refine fun _ => ⟨_, 0, rfl, fun j v hj => ?_⟩
    have h9 : j < 9 := (List.getElem?_eq_some_iff.1 hj).1
    rcases (by omega : j = 0 ∨ j = 1 ∨ j = 2 ∨ j = 3 ∨ j = 4 ∨ j = 5 ∨ j = 6 ∨ j = 7 ∨ j = 8) with rfl | rfl | rfl | rfl | rfl | rfl | rfl | rfl | rfl
    all_goals
      simp [cellsT, encTr, factX] at hj
      subst hj
      go_simp
  rintro e w1 ⟨hb1, b1, o1, c1, rfl, hr1⟩
  have hB1 := bstep (bstep (balloc _ _) (balloc _ _)) hb1
  have c0 : w1.cell? ⟨b1, o1, none⟩ = some (.int .i64 1) := (hr1.at 0 (by decide)).1
  have c1 : w1.cell? ⟨b1, o1 + 1, none⟩ = some (.string ⟨#[97]⟩) := (hr1.at 0 (by decide)).2.1
  have c2 : w1.cell? ⟨b1, o1 + 2, none⟩ = some (.string ⟨#[]⟩) := (hr1.at 0 (by decide)).2.2.1
  have c3 : w1.cell? ⟨b1, o1 + 3, none⟩ = some (.int .i64 1) := (hr1.at 0 (by decide)).2.2.2.1
  have c4 : w1.cell? ⟨b1, o1 + 4, none⟩ = some (.string ⟨#[98]⟩) := (hr1.at 0 (by decide)).2.2.2.2.1
  have c5 : w1.cell? ⟨b1, o1 + 5, none⟩ = some (.string ⟨#[]⟩) := (hr1.at 0 (by decide)).2.2.2.2.2.1
  have c6 : w1.cell? ⟨b1, o1 + 6, none⟩ = some (.int .i64 1) := (hr1.at 0 (by decide)).2.2.2.2.2.2.1
  have c7 : w1.cell? ⟨b1, o1 + 7, none⟩ = some (.string ⟨#[99]⟩) := (hr1.at 0 (by decide)).2.2.2.2.2.2.2.1
  have c8 : w1.cell? ⟨b1, o1 + 8, none⟩ = some (.string ⟨#[]⟩) := (hr1.at 0 (by decide)).2.2.2.2.2.2.2.2
  obtain ⟨kc, _⟩ := bcell hb1
  have x0 : w1.cell? ⟨w.heap.size + 1, 0, none⟩ = some (.int .i64 1) := (kc _ 0 (by simp)).trans (by go_simp)
  have x1 : w1.cell? ⟨w.heap.size + 1, 1, none⟩ = some (.string ⟨#[97]⟩) := (kc _ 1 (by simp)).trans (by go_simp)
  have x2 : w1.cell? ⟨w.heap.size + 1, 2, none⟩ = some (.string ⟨#[]⟩) := (kc _ 2 (by simp)).trans (by go_simp)
  have x3 : w1.cell? ⟨w.heap.size + 1, 3, none⟩ = some (.int .i64 1) := (kc _ 3 (by simp)).trans (by go_simp)
  have x4 : w1.cell? ⟨w.heap.size + 1, 4, none⟩ = some (.string ⟨#[98]⟩) := (kc _ 4 (by simp)).trans (by go_simp)
  have x5 : w1.cell? ⟨w.heap.size + 1, 5, none⟩ = some (.string ⟨#[]⟩) := (kc _ 5 (by simp)).trans (by go_simp)
  have x6 : w1.cell? ⟨w.heap.size + 1, 6, none⟩ = some (.int .i64 1) := (kc _ 6 (by simp)).trans (by go_simp)
  have x7 : w1.cell? ⟨w.heap.size + 1, 7, none⟩ = some (.string ⟨#[99]⟩) := (kc _ 7 (by simp)).trans (by go_simp)
  have x8 : w1.cell? ⟨w.heap.size + 1, 8, none⟩ = some (.string ⟨#[]⟩) := (kc _ 8 (by simp)).trans (by go_simp)
  have hz1 : w.heap.size + 1 < w1.heap.size := World.block_lt_of_cell? w1 _ x0
  clear kc hr1 hb1 HF
  go_wp2_with fail
  go_region
  clear c0 c1 c2 c3 c4 c5 c6 c7 c8 x0 x1 x2 x3 x4 x5 x6 x7 x8
  have hB1 := hB1.drew
  have hA1 := bstep (balloc _ _) hB1
  generalize w1.drew = w1d at *
  by_cases hN0 : joinN a b = 0
  · -- nothing is wrong
    have hT0 := hcomm.1 hN0
    obtain ⟨h0, hle⟩ := joinN_zero.1 hN0
    obtain ⟨sa, sb⟩ := bothN_zero.1 h0
    clear HJ HT HL HM HB hcomm
    have HJ := fun W h1 h2 => JoinGood_any ad bd ca cb a b W h1 h2 sa sb hN0
    have HT := fun W h1 h2 => JoinGood_any bd ad cb ca b a W h1 h2 sb sa hT0
    have HL := fun W h1 h2 => LessGood_any ad bd ca cb a b W h1 h2 sa sb
    have HM := fun W h1 h2 => LessGood_any bd ad cb ca b a W h1 h2 sb sa
    have HB := fun W h1 h2 => BothGood_any ad bd ca cb a b W h1 h2 sa sb
    have HP := fun W al cl ab cb h1 h2 => JoinGood_any al ab cl cb (lessL a b) (bothL a b) W h1 h2 (sa.filter _) (sa.filter _) (join_less_both sa)
    have HQ := fun W al cl ab cb h1 h2 => JoinGood_any al ab cl cb a (lessL b a) W h1 h2 sa (sb.filter _) (join_a_more sa sb hle)
    have fP : Hid (∀ p, JoinOf (lessL a b) (bothL a b) p → p = a) := fun p hp => join_parts sa.2.2 hp
    have fQ : Hid (∀ m q, JoinOf a b m → JoinOf a (lessL b a) q → q = m) := fun m q h1 h2 => join_all h1 h2
    have fT : Hid (∀ m q, JoinOf a b m → JoinOf b a q → q = m) := fun m q h1 h2 => h2.symm.unique h1
    have fM : Hid (∀ m, JoinOf a b m → IsSet m ∧ m.length = (lessL a b).length + (lessL b a).length + (bothL a b).length) := fun m hm => ⟨hm.isSet sa sb hle, by rw [hm.len sa.2.2 sb.2.2, sum_len]⟩
    have Hset : Hid (IsSet a ∧ IsSet b ∧ IsSet (bothL a b)) := ⟨sa, sb, sa.filter _⟩
    have fIn : Hid (∀ x, x ∈ bothL a b ↔ x ∈ a ∧ x ∈ b) := fun x => mem_bothL
    have hl1 : (lessL a b).length ≤ 200 := Nat.le_trans (List.length_filter_le _ _) sa.1
    have hl2 : (lessL b a).length ≤ 200 := Nat.le_trans (List.length_filter_le _ _) sb.1
    have hl3 : (bothL a b).length ≤ 200 := Nat.le_trans (List.length_filter_le _ _) sa.1
    generalize lessL a b = L at *
    generalize lessL b a = M at *
    generalize bothL a b = B at *
    clear hN0 hT0 h0 hle sa sb na nb
    go_wp2_with fail
    refine (HJ _ (Ha.out.below hA1) (Hb.out.below hA1)).mono ?_
    rintro e w2 ⟨hb2, m, am, cm, rfl, hsm, hjm⟩
    have hB2 := bstep hB1 hb2
    have hA2 := bstep hA1 hb2
    obtain ⟨sm0, hlen0⟩ := fM.out m hjm
    have Sm : Hid (IsSet m) := sm0
    have Hjm : Hid (JoinOf a b m) := hjm
    have Hsm : Hid (SlT w2 am m) := hsm
    have hmn : m.length ≤ 200 := sm0.1
    have hlen : ((m.length : Int) != (L.length : Int) + (M.length : Int) + (B.length : Int)) = false := by simp; omega
    clear hsm hjm fM hlen0 sm0 hb2 HJ
    go_wp2_with fail
    refine (HT _ (Hb.out.below hA2) (Ha.out.below hA2)).mono ?_
    rintro e w3 ⟨hb3, m', am', cm', rfl, hsm', hjm'⟩
    obtain rfl : m' = m := fT.out _ _ Hjm.out hjm'
    have hB3 := bstep hB2 hb3
    have hA3 := bstep hA2 hb3
    have Hsm3 : Hid (SlT w3 am m' ∧ SlT w3 am' m') := ⟨Hsm.out.below hb3, hsm'⟩
    clear hsm' hjm' fT Hsm hb3 HT
    go_wp2_with fail
    go_region
    have hA3 := hA3.drew
    have hB3 := hB3.drew
    have Hsm3 : Hid (SlT w3.drew am m' ∧ SlT w3.drew am' m') := Hsm3.out
    generalize w3.drew = w3d at *
    go_wp2_with fail
    refine (HL _ (Ha.out.below hA3) (Hb.out.below hA3)).mono ?_
    rintro e w4 ⟨hb4, al, cl, rfl, hsl⟩
    have hB4 := bstep hB3 hb4
    have hA4 := bstep hA3 hb4
    have Hsl : Hid (SlT w4 al L) := hsl
    clear hsl HL
    go_wp2_with fail
    refine (HM _ (Hb.out.below hA4) (Ha.out.below hA4)).mono ?_
    rintro e w5 ⟨hb5, au, cu, rfl, hsu⟩
    have hB5 := bstep hB4 hb5
    have hA5 := bstep hA4 hb5
    have Hsu : Hid (SlT w5 au M) := hsu
    clear hsu HM
    go_wp2_with fail
    refine (HB _ (Ha.out.below hA5) (Hb.out.below hA5)).mono ?_
    rintro e w6 ⟨hb6, ab, cb6, rfl, hsb⟩
    have hB6 := bstep hB5 hb6
    have hA6 := bstep hA5 hb6
    have Hall : Hid (SlT w6 am m' ∧ SlT w6 am' m' ∧ SlT w6 al L ∧ SlT w6 au M ∧ SlT w6 ab B) := by
      have h46 := bstep hb5 hb6
      have h36 := bstep hb4 h46
      exact ⟨Hsm3.out.1.below h36, Hsm3.out.2.below h36, Hsl.out.below h46, Hsu.out.below hb6, hsb⟩
    clear hsb HB Hsm3 Hsl Hsu hb4 hb5 hb6 hA1 hA2 hA3 hA4 hA5 hB1 hB2 hB3 hB4 hB5
    go_wp2_with fail
    refine (SameTrue_any am am' cm cm' m' _ Hall.out.1 Hall.out.2.1 Sm.out).mono ?_
    rintro e w7 ⟨rfl, hb7⟩
    have hB7 := bstep hB6 hb7
    have hA7 := bstep hA6 hb7
    have Hall : Hid (SlT w7 am m' ∧ SlT w7 al L ∧ SlT w7 au M ∧ SlT w7 ab B) := ⟨Hall.out.1.below hb7, Hall.out.2.2.1.below hb7, Hall.out.2.2.2.1.below hb7, Hall.out.2.2.2.2.below hb7⟩
    clear hb7 hA6 hB6
    go_wp2_with fail
    refine (HP _ al cl ab cb6 Hall.out.2.1 Hall.out.2.2.2).mono ?_
    rintro e w8 ⟨hb8, p, ap, cp, rfl, hsp, hjp⟩
    obtain rfl : p = a := fP.out _ hjp
    have hB8 := bstep hB7 hb8
    have hA8 := bstep hA7 hb8
    have Hall : Hid (SlT w8 am m' ∧ SlT w8 au M ∧ SlT w8 ab B ∧ SlT w8 ap p) := ⟨Hall.out.1.below hb8, Hall.out.2.2.1.below hb8, Hall.out.2.2.2.below hb8, hsp⟩
    clear hb8 hA7 hB7 hsp hjp fP HP
    go_wp2_with fail
    refine (HQ _ ap cp au cu Hall.out.2.2.2 Hall.out.2.1).mono ?_
    rintro e w9 ⟨hb9, q, aq, cq, rfl, hsq, hjq⟩
    obtain rfl : q = m' := fQ.out _ _ Hjm.out hjq
    have hB9 := bstep hB8 hb9
    have hA9 := bstep hA8 hb9
    have Hall : Hid (SlT w9 am q ∧ SlT w9 ab B ∧ SlT w9 ap p ∧ SlT w9 aq q) := ⟨Hall.out.1.below hb9, Hall.out.2.2.1.below hb9, Hall.out.2.2.2.below hb9, hsq⟩
    clear hb9 hA8 hB8 hsq hjq fQ HQ
    go_wp2_with fail
    refine (SameTrue_any ap ad cp ca p _ Hall.out.2.2.1 (Ha.out.below hA9) Hset.out.1).mono ?_
    rintro e w10 ⟨rfl, hb10⟩
    have hB10 := bstep hB9 hb10
    have hA10 := bstep hA9 hb10
    have Hall : Hid (SlT w10 am q ∧ SlT w10 ab B ∧ SlT w10 aq q) := ⟨Hall.out.1.below hb10, Hall.out.2.1.below hb10, Hall.out.2.2.2.below hb10⟩
    clear hb10 hA9 hB9
    go_wp2_with fail
    refine (SameTrue_any aq am cq cm q _ Hall.out.2.2 Hall.out.1 Sm.out).mono ?_
    rintro e w11 ⟨rfl, hb11⟩
    have hB11 := bstep hB10 hb11
    have hA11 := bstep hA10 hb11
    have Hall : Hid (SlT w11 am q ∧ SlT w11 ab B) := ⟨Hall.out.1.below hb11, Hall.out.2.1.below hb11⟩
    clear hb11 hA10 hB10
    -- the questions
    obtain ⟨i, hi⟩ : ∃ i, i = (decide (chkTr t = 0) && decide (t ∈ p)) := ⟨_, rfl⟩
    obtain ⟨j, hj⟩ : ∃ j, j = (decide (chkTr t = 0) && decide (t ∈ b)) := ⟨_, rfl⟩
    have hk : (i || j) = (decide (chkTr t = 0) && decide (t ∈ q)) := by
      have := Hjm.out.2 t
      rw [Bool.eq_iff_iff, hi, hj]
      simp only [Bool.or_eq_true, Bool.and_eq_true, decide_eq_true_eq]
      rw [this, ← and_or_left]
    have hmm : (i && j) = (decide (chkTr t = 0) && decide (t ∈ B)) := by
      have := fIn.out t
      rw [Bool.eq_iff_iff, hi, hj]
      simp only [Bool.and_eq_true, decide_eq_true_eq]
      rw [this]
      exact ⟨fun h => ⟨h.1.1, h.1.2, h.2.2⟩, fun h => ⟨⟨h.1, h.2.1⟩, h.1, h.2.2⟩⟩
    have H1 := fun W h1 => HasGood_any ad ca p t W h1 Hset.out.1 Hft.out.2.2 i hi
    have H2 := fun W h1 => HasGood_any bd cb b t W h1 Hset.out.2.1 Hft.out.2.2 j hj
    have H3 := fun W h1 => HasGood_any am cm q t W h1 Sm.out Hft.out.2.2 _ hk
    have H4 := fun W h1 => HasGood_any ab cb6 B t W h1 Hset.out.2.2 Hft.out.2.2 _ hmm
    clear hi hj hk hmm
    unfold valTr at H1 H2 H3 H4
    generalize chkTr t = n at *
    obtain ⟨a0, a1, a2, b0, b1, b2, d0, d1, d2, hzz⟩ := ninebox hB11
    go_wp2_with fail
    refine (H1 _ (Ha.out.below hA11)).mono ?_
    rintro e w12 ⟨rfl, hb12⟩
    have hB12 := bstep hB11 hb12
    have hA12 := bstep hA11 hb12
    have Hall : Hid (SlT w12 am q ∧ SlT w12 ab B) := ⟨Hall.out.1.below hb12, Hall.out.2.below hb12⟩
    clear hb12 hA11 hB11 a0 a1 a2 b0 b1 b2 d0 d1 d2 hzz H1
    obtain ⟨a0, a1, a2, b0, b1, b2, d0, d1, d2, hzz⟩ := ninebox hB12
    go_wp2_with fail
    refine (H2 _ (Hb.out.below hA12)).mono ?_
    rintro e w13 ⟨rfl, hb13⟩
    have hB13 := bstep hB12 hb13
    have hA13 := bstep hA12 hb13
    have Hall : Hid (SlT w13 am q ∧ SlT w13 ab B) := ⟨Hall.out.1.below hb13, Hall.out.2.below hb13⟩
    clear hb13 hA12 hB12 a0 a1 a2 b0 b1 b2 d0 d1 d2 hzz H2
    obtain ⟨a0, a1, a2, b0, b1, b2, d0, d1, d2, hzz⟩ := ninebox hB13
    go_wp2_with fail
    refine (H3 _ Hall.out.1).mono ?_
    rintro e w14 ⟨rfl, hb14⟩
    have hB14 := bstep hB13 hb14
    have hA14 := bstep hA13 hb14
    have Hall : Hid (SlT w14 ab B) := Hall.out.2.below hb14
    clear hb14 hA13 hB13 a0 a1 a2 b0 b1 b2 d0 d1 d2 hzz H3
    obtain ⟨a0, a1, a2, b0, b1, b2, d0, d1, d2, hzz⟩ := ninebox hB14
    go_wp2_with fail
    refine (H4 _ Hall.out).mono ?_
    rintro e w15 ⟨rfl, hb15⟩
    have hA15 := bstep hA14 hb15
    clear hb15 hA14 hB14 a0 a1 a2 b0 b1 b2 d0 d1 d2 hzz H4
    cases hn : (n == 0)
    · go_wp2_with fail
      go_ret
      exact ⟨rfl, hA15⟩
    · cases i <;> cases j
      all_goals
        go_wp2_with fail
        go_ret
        exact ⟨rfl, hA15⟩
  · -- something is wrong, or it is too much
    have hN : (joinN a b == 0) = false := by simpa using hN0
    have hT : (joinN b a == 0) = false := by
      have : ¬ joinN b a = 0 := fun h => hN0 (hcomm.2 h)
      simpa using this
    have hbad : Hid (bothN a b = 0 → IsSet a ∧ IsSet b ∧ ¬ (a.length + (lessL b a).length ≤ 200)) := fun h => ⟨(bothN_zero.1 h).1, (bothN_zero.1 h).2, fun h2 => hN0 (joinN_zero.2 ⟨h, h2⟩)⟩
    clear hN0 hcomm
    generalize joinN a b = N at *
    generalize joinN b a = N' at *
    go_wp2_with fail
    refine (HJ _ (Ha.out.below hA1) (Hb.out.below hA1)).mono ?_
    rintro e w2 ⟨hb2, m, am, cm, rfl, _, _⟩
    have hA2 := bstep hA1 hb2
    go_wp2_with fail
    refine (HT _ (Hb.out.below hA2) (Ha.out.below hA2)).mono ?_
    rintro e w3 ⟨hb3, m', am', cm', rfl, _, _⟩
    have hA3 := bstep hA2 hb3
    go_wp2_with fail
    go_region
    have hA3 := hA3.drew
    generalize w3.drew = w3d at *
    go_wp2_with fail
    refine (HL _ (Ha.out.below hA3) (Hb.out.below hA3)).mono ?_
    rintro e w4 ⟨hb4, L, al, cl, rfl, _, hL⟩
    have hA4 := bstep hA3 hb4
    have HL1 : Hid (LessAns a b L) := hL
    clear hL
    go_wp2_with fail
    refine (HM _ (Hb.out.below hA4) (Ha.out.below hA4)).mono ?_
    rintro e w5 ⟨hb5, M, au, cu, rfl, _, hM⟩
    have hA5 := bstep hA4 hb5
    have HM1 : Hid (LessAns b a M) := hM
    clear hM
    go_wp2_with fail
    refine (HB _ (Ha.out.below hA5) (Hb.out.below hA5)).mono ?_
    rintro e w6 ⟨hb6, B, ab, cb6, rfl, _, hBB⟩
    have hA6 := bstep hA5 hb6
    have HB1 : Hid (BothAns a b B) := hBB
    clear hBB HJ HT HL HM HB
    cases hn : (bothN a b == 0)
    · generalize bothN a b = n at *
      go_wp2_with fail
      go_ret
      exact ⟨rfl, hA6⟩
    · have h0 : bothN a b = 0 := by simpa using hn
      obtain ⟨sa, sb, hgt⟩ := hbad.out h0
      have hL := HL1.out
      have hM := HM1.out
      have hB := HB1.out
      unfold LessAns at hL hM
      unfold BothAns at hB
      rw [if_pos h0] at hL hB
      rw [if_pos (bothN_zero.2 ⟨sb, sa⟩)] at hM
      have hsum := @sum_len a b
      rw [← hL, ← hM, ← hB] at hsum
      rw [← hM] at hgt
      have l1 : L.length ≤ 200 := by rw [hL]; exact Nat.le_trans (List.length_filter_le _ _) sa.1
      have l2 : M.length ≤ 200 := by rw [hM]; exact Nat.le_trans (List.length_filter_le _ _) sb.1
      have l3 : B.length ≤ 200 := by rw [hB]; exact Nat.le_trans (List.length_filter_le _ _) sa.1
      have hd : decide ((L.length : Int) + (M.length : Int) + (B.length : Int) > 200) = true := by simp; omega
      clear hL hM hB HL1 HM1 HB1 hbad hgt sa sb h0 hsum
      generalize bothN a b = n at *
      generalize bothN b a = n' at *
      go_wp2_with fail
      go_ret
      exact ⟨rfl, hA6⟩
end Go.Proofs.Ytibgelpkogdgkab
