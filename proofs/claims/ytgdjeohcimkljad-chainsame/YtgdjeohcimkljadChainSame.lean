/- stratalaw1.ChainSame: the walk. -/
import Derived.Test.YtgdjeohcimkljadChainSquash
import Derived.Deep.DeepCutAuto
namespace Go.Proofs.Ytgdjeohcimkljad
open Go Go.RowKit Go.Proofs
set_option synthInstance.maxSize 1000

/-- what parts two sets tells the other one -/
theorem btw_inj {g u b : List Tr} (su : IsSet u) (sb : IsSet b) (h : btw g b = btw g u) : u = b := by
  have h1 : lessL b g = lessL u g := (Prod.mk.inj h).1
  have h2 : lessL g b = lessL g u := (Prod.mk.inj h).2
  refine rising_unique _ _ su.2.2 sb.2.2 fun x => ?_
  have k1 : x ∈ lessL b g ↔ x ∈ lessL u g := by rw [h1]
  have k2 : x ∈ lessL g b ↔ x ∈ lessL g u := by rw [h2]
  rw [mem_lessL, mem_lessL] at k1 k2
  by_cases hg : x ∈ g
  · by_cases hu : x ∈ u
    · by_cases hb : x ∈ b
      · exact ⟨fun _ => hb, fun _ => hu⟩
      · exact absurd hu (k2.1 ⟨hg, hb⟩).2
    · by_cases hb : x ∈ b
      · exact absurd hb (k2.2 ⟨hg, hu⟩).2
      · exact ⟨fun h => absurd h hu, fun h => absurd h hb⟩
  · exact ⟨fun h => (k1.2 ⟨h, hg⟩).1, fun h => (k1.1 ⟨h, hg⟩).1⟩

/-- Push where the layer parts the top from another set -/
theorem PushGood_any (n0 : Nat) (v : Value) (gs : List (List Tr)) (g u : List Tr) (a1 a2 : Option Addr) (c1 c2 : Nat) (w : World) (h : ChainAt w n0 v gs) (hn : gs.length ≤ 30) (hg : gs.getLast? = some g) (su : IsSet u) (h1 : SlT w a1 (lessL u g)) (h2 : SlT w a2 (lessL g u)) :
    Calls Try.prog 11 #[.pointer (some ⟨n0, 0, none⟩), .agg #[.slice a1 (lessL u g).length c1, .slice a2 (lessL g u).length c2]] w fun e w' => e = .returned .nilIface ∧ ∃ v', ChainAt w' n0 v' (gs ++ [u]) ∧ Off n0 v w w' ∧ NewV w v v' := by
  have sg : IsSet g := h.set (i := gs.length - 1) (by rw [← List.getLast?_eq_getElem?]; exact hg)
  have s1 : IsSet (lessL u g) := lessSet su
  have s2 : IsSet (lessL g u) := lessSet sg
  have h0 : pushN gs g (btw g u) = 0 := by
    unfold pushN
    rw [if_neg (by omega)]
    exact apply_btw sg su
  refine (Push_any n0 v gs g a1 a2 c1 c2 (btw g u) w h (by omega) hg h1 h2 s1.fit s2.fit (setLen s1) (setLen s2)).mono ?_
  rintro e w' ⟨rfl, gs', v', hC, hO, hN, hy, _⟩
  obtain ⟨u', rfl, su', hb⟩ := hy h0
  obtain rfl := btw_inj su' su hb
  exact ⟨by rw [h0]; rfl, v', hC, hO, hN⟩

def factC : Tr := ⟨⟨1, [97], []⟩, ⟨1, [98], []⟩, ⟨1, [99], []⟩⟩
theorem factC_set : IsSet [factC] := ⟨by simp, by intro x hx; rw [List.mem_singleton.1 hx]; decide, List.pairwise_singleton _ _⟩
theorem NewNil_any (w : World) : Calls Try.prog 10 #[.slice none 0 0] w fun e w' => ∃ n, e = .returned (.tuple #[.pointer (some ⟨n, 0, none⟩), .nilIface]) ∧ w.heap.size ≤ n ∧ ChainAt w' n (.slice none 0 0) [[]] ∧ RowKit.Below w.heap.size w w' := by
  refine (CNew_any none 0 [] w (slT_nil _ _) (by simp) (by simp)).mono ?_
  rintro e w' ⟨hb, hy, _⟩
  obtain ⟨n, rfl, hn, hC⟩ := hy (sortedN_set.2 isSet_nil)
  exact ⟨n, rfl, hn, hC, hb⟩
theorem PushFact_any (n0 : Nat) (ad : Option Addr) (c : Nat) (w : World) (h : ChainAt w n0 (.slice none 0 0) [[]]) (hs : SlT w ad [factC]) :
    Calls Try.prog 11 #[.pointer (some ⟨n0, 0, none⟩), .agg #[.slice ad 1 c, .slice none 0 0]] w fun e w' => e = .returned .nilIface ∧ ∃ v', ChainAt w' n0 v' [[], [factC]] ∧ Off n0 (.slice none 0 0) w w' := by
  have e1 : lessL [factC] [] = [factC] := by simp [lessL]
  have e2 : lessL [] [factC] = [] := rfl
  have := PushGood_any n0 (.slice none 0 0) [[]] [] [factC] ad none c 0 w h (by simp) rfl factC_set (by rw [e1]; exact hs) (slT_nil _ _)
  rw [e1, e2] at this
  refine this.mono ?_
  rintro e w' ⟨rfl, v', hC, hO, _⟩
  exact ⟨rfl, v', hC, hO⟩
theorem neqFactC (w : World) : (binOp .neq 41 (.agg #[.int .i64 1, .string ⟨#[97]⟩, .string ⟨#[]⟩, .int .i64 1, .string ⟨#[98]⟩, .string ⟨#[]⟩, .int .i64 1, .string ⟨#[99]⟩, .string ⟨#[]⟩]) (.agg #[.int .i64 1, .string ⟨#[97]⟩, .string ⟨#[]⟩, .int .i64 1, .string ⟨#[98]⟩, .string ⟨#[]⟩, .int .i64 1, .string ⟨#[99]⟩, .string ⟨#[]⟩])).run Try.prog w = .ok (.bool false) w := by
  have := neqTriple factC factC w
  rw [show decide (factC = factC) = true by simp] at this
  exact this

/-- lists of triples, in a list -/
def SetsAt (w : World) (b o : Nat) (ss : List (List Tr)) : Prop := ∀ i, i < ss.length → ∃ a c, w.cell? ⟨b, o + i, none⟩ = some (.slice a (gat ss i).length c) ∧ SlT w a (gat ss i)
theorem SetsAt.below {w w' : World} {b o : Nat} {ss : List (List Tr)} (h : SetsAt w b o ss) (hb : RowKit.Below w.heap.size w w') : SetsAt w' b o ss := fun i hi => by
  obtain ⟨a, c, h1, h2⟩ := h i hi
  exact ⟨a, c, (hb.cell (World.block_lt_of_cell? w _ h1)).trans h1, h2.below hb⟩
theorem take_last {ss : List (List Tr)} {k : Nat} (h0 : 0 < k) (hk : k ≤ ss.length) : (ss.take k).getLast? = some (gat ss (k - 1)) := by
  rw [List.getLast?_eq_getElem?, List.length_take, Nat.min_eq_left hk, List.getElem?_take_of_lt (by omega)]
  exact gat_eq (by omega)
theorem take_more {ss : List (List Tr)} {k : Nat} (hk : k < ss.length) : ss.take (k + 1) = ss.take k ++ [gat ss k] := by
  rw [List.take_add_one, gat_eq hk]
  rfl

theorem B9.off {W W' : World} {n n0 : Nat} {v : Value} {y : Tr} (h : B9 W n y) (ho : Off n0 v W W') (hn : n ≠ n0) (hv : v.ownBlock ≠ some n) : B9 W' n y := by
  have hB : n < W.heap.size := World.block_lt_of_cell? W _ h.1
  have k : ∀ o, W'.cell? ⟨n, o, none⟩ = W.cell? ⟨n, o, none⟩ := fun o => World.cell?_of_block (w := W) (ho.block n hB hn hv)
  unfold B9 at h ⊢
  simp only [k]
  exact h
theorem LenFact_any (n0 : Nat) (v : Value) (w : World) (h : ChainAt w n0 v [[], [factC]]) : Calls Try.prog 12 #[.pointer (some ⟨n0, 0, none⟩)] w fun e w' => e = .returned (.int .i64 1) ∧ w' = w :=
  CLen_any n0 v _ w h (by simp)
theorem GraphFact_any (n0 : Nat) (v : Value) (w : World) (h : ChainAt w n0 v [[], [factC]]) : Calls Try.prog 13 #[.pointer (some ⟨n0, 0, none⟩), .int .i64 1] w fun e w' => RowKit.Below w.heap.size w w' ∧ ∃ b o c, e = .returned (.tuple #[.slice (some ⟨b, o, none⟩) 1 c, .nilIface]) ∧ RowR w' b o [factC] := by
  refine (Graph_any n0 v _ 1 [factC] w h (by simp) rfl).mono ?_
  rintro e w' ⟨hb, a, c, rfl, hs⟩
  obtain ⟨b, o, rfl, hr⟩ := hs (by simp)
  exact ⟨hb, b, o, c, rfl, hr⟩
theorem fact_box (W : World) : SlT (W.alloc (.cells #[.int .i64 1, .string ⟨#[97]⟩, .string ⟨#[]⟩, .int .i64 1, .string ⟨#[98]⟩, .string ⟨#[]⟩, .int .i64 1, .string ⟨#[99]⟩, .string ⟨#[]⟩] 41)) (some ⟨W.heap.size, 0, none⟩) [factC] := fun _ => ⟨_, 0, rfl, fun j v hj => by
  have h9 : j < 9 := (List.getElem?_eq_some_iff.1 hj).1
  rcases (by omega : j = 0 ∨ j = 1 ∨ j = 2 ∨ j = 3 ∨ j = 4 ∨ j = 5 ∨ j = 6 ∨ j = 7 ∨ j = 8) with rfl | rfl | rfl | rfl | rfl | rfl | rfl | rfl | rfl
  all_goals
    simp [cellsT, encTr, factC] at hj
    subst hj
    go_simp⟩

theorem sq_len {ss : List (List Tr)} {i t : Nat} (hit : i + 1 ≤ t) (ht : t < ss.length) : (ss.take (i + 1) ++ ss.drop t).length = ss.length - (t - (i + 1)) := by simp; omega
theorem sq_low {ss : List (List Tr)} {i t k : Nat} (hit : i + 1 ≤ t) (ht : t < ss.length) (hk : k < i + 1) : (ss.take (i + 1) ++ ss.drop t)[k]? = some (gat ss k) := by
  rw [List.getElem?_append_left (by simp; omega), List.getElem?_take_of_lt hk]
  exact gat_eq (by omega)
theorem sq_high {ss : List (List Tr)} {i t k : Nat} (hit : i + 1 ≤ t) (ht : t ≤ k) (hk : k < ss.length) : (ss.take (i + 1) ++ ss.drop t)[k - (t - (i + 1))]? = some (gat ss k) := by
  rw [List.getElem?_append_right (by simp; omega), List.getElem?_drop, List.length_take, Nat.min_eq_left (by omega), show t + (k - (t - (i + 1)) - (i + 1)) = k by omega]
  exact gat_eq hk
theorem ChainAt.low {w : World} {n0 B : Nat} {v : Value} {gs : List (List Tr)} (h : ChainAt w n0 v gs) (hB : B ≤ n0) : ∀ g, v.ownBlock = some g → B ≤ g := fun g hg => by have := (h.own g hg).1; omega
theorem BC.set2 {v W : World} (h : BC v W) {g : Nat} (hg : v.heap.size ≤ g) (a b : Value) : BC v ((W.setCell ⟨g, 0, none⟩ a).setCell ⟨g, 1, none⟩ b) :=
  (RowKit.Below.setCell (p := ⟨g, 0, none⟩) h hg a).setCell (p := ⟨g, 1, none⟩) hg b
def Z2 (W : World) (B : Nat) : Prop := W.cell? ⟨B, 0, none⟩ = some (.slice none 0 0) ∧ W.cell? ⟨B, 1, none⟩ = some (.slice none 0 0) ∧ W.frozen? ⟨B, 0, none⟩ = false ∧ W.frozen? ⟨B, 1, none⟩ = false
theorem Z2.below {W W' : World} {B : Nat} (h : Z2 W B) (hb : RowKit.Below W.heap.size W W') : Z2 W' B := by
  obtain ⟨k, f⟩ := bcell hb
  have hB : B < W.heap.size := World.block_lt_of_cell? W _ h.1
  unfold Z2 at h ⊢
  simp only [k _ _ hB, f _ _ hB]
  exact h
theorem Z2.newD (w : World) : Z2 ((w.alloc (.cells #[.slice none 0 0, .slice none 0 0] 24)).drew) w.heap.size := by
  have h : Z2 (w.alloc (.cells #[.slice none 0 0, .slice none 0 0] 24)) w.heap.size := by
    unfold Z2
    refine ⟨?_, ?_, ?_, ?_⟩ <;> go_simp
  exact h
/-- a layer and a fault, in their places -/
def BtwAt (W : World) (g : Nat) (a b : List Tr) : Prop := ∃ a1 c1 a2 c2, W.cell? ⟨g, 0, none⟩ = some (.slice a1 (lessL b a).length c1) ∧ W.cell? ⟨g, 1, none⟩ = some (.slice a2 (lessL a b).length c2) ∧ SlT W a1 (lessL b a) ∧ SlT W a2 (lessL a b)

attribute [local go_sem] eql_errV neq_errV guard_errV
attribute [local go_sem ↓] neqFactC

set_option maxHeartbeats 16000000 in
set_option maxRecDepth 100000 in
theorem chainSame_any (ad : Option Addr) (ca : Nat) (ss : List (List Tr)) (f t : Int) (w : World) (hS : ss ≠ [] → ∃ b o, ad = some ⟨b, o, none⟩ ∧ SetsAt w b o ss) (hf : ∀ s ∈ ss, (∀ x ∈ s, fitTr x) ∧ s.length ≤ 9223372036854775807) (hn : ss.length ≤ 9223372036854775807) :
    Calls Try.prog 4 #[.slice ad ss.length ca, .int .i64 f, .int .i64 t] w fun e w' => e = .returned (.bool true) ∧ RowKit.Below w.heap.size w w' := by
  have Hln : Hid (∀ i, i < ss.length → gat ss i ∈ ss) := fun i hi => List.mem_of_getElem? (gat_eq hi)
  have HF := PushFact_any
  have HN := NewNil_any
  have HL1 := LenFact_any
  have HG1 := GraphFact_any
  have HS : Hid _ := hS
  have Hf : Hid _ := hf
  clear hS hf
  go_enter Try.func4, Try.ntmps4
  go_wp2_with fail
  refine (HN _).mono ?_
  rintro e w1 ⟨n1, rfl, hn1, hC1, hb1⟩
  have HC1 : Hid (ChainAt w1 n1 (.slice none 0 0) [[]]) := hC1
  have hn1' := hC1.lt
  clear hC1 HN
  go_wp2_with fail
  refine (HF n1 _ 1 _ (HC1.out.below (bstep (balloc _ _) (balloc _ _))) ?hbox).mono ?_
  case hbox =>
    have := fact_box (w1.alloc (.cells #[.int .i64 1, .string ⟨#[97]⟩, .string ⟨#[]⟩, .int .i64 1, .string ⟨#[98]⟩, .string ⟨#[]⟩, .int .i64 1, .string ⟨#[99]⟩, .string ⟨#[]⟩] 41))
    rwa [World.size_alloc] at this
  rintro e w2 ⟨rfl, v2, hC2, hO2⟩
  have hX : B9 w2 w1.heap.size factC := B9.off (W := (w1.alloc (.cells #[.int .i64 1, .string ⟨#[97]⟩, .string ⟨#[]⟩, .int .i64 1, .string ⟨#[98]⟩, .string ⟨#[]⟩, .int .i64 1, .string ⟨#[99]⟩, .string ⟨#[]⟩] 41)).alloc (.cells #[.int .i64 1, .string ⟨#[97]⟩, .string ⟨#[]⟩, .int .i64 1, .string ⟨#[98]⟩, .string ⟨#[]⟩, .int .i64 1, .string ⟨#[99]⟩, .string ⟨#[]⟩] 41)) (by unfold B9 factC; refine ⟨?_, ?_, ?_, ?_, ?_, ?_, ?_, ?_, ?_⟩ <;> go_simp) hO2 (by omega) (by simp [Value.ownBlock])
  have hB2 : Hid (RowKit.Below w.heap.size w w2) := (bstep hb1 (bstep (balloc _ _) (balloc _ _))).trans (hO2.below hn1 (fun g hg => by simp [Value.ownBlock] at hg) (by have := hb1.size; simp; omega))
  have HC2 : Hid (ChainAt w2 n1 v2 [[], [factC]]) := hC2
  clear hC2 hO2 hb1 HC1 HF
  go_wp2_with fail
  refine (HL1 n1 v2 _ HC2.out).mono ?_
  rintro e w2' ⟨rfl, rfl⟩
  go_wp2_with fail
  refine (HG1 n1 v2 _ HC2.out).mono ?_
  rintro e w3 ⟨hb3, b3, o3, c3, rfl, hr3⟩
  have c0 : w3.cell? ⟨b3, o3, none⟩ = some (.int .i64 1) := (hr3.at 0 (by decide)).1
  have c1 : w3.cell? ⟨b3, o3 + 1, none⟩ = some (.string ⟨#[97]⟩) := (hr3.at 0 (by decide)).2.1
  have c2 : w3.cell? ⟨b3, o3 + 2, none⟩ = some (.string ⟨#[]⟩) := (hr3.at 0 (by decide)).2.2.1
  have c3' : w3.cell? ⟨b3, o3 + 3, none⟩ = some (.int .i64 1) := (hr3.at 0 (by decide)).2.2.2.1
  have c4 : w3.cell? ⟨b3, o3 + 4, none⟩ = some (.string ⟨#[98]⟩) := (hr3.at 0 (by decide)).2.2.2.2.1
  have c5 : w3.cell? ⟨b3, o3 + 5, none⟩ = some (.string ⟨#[]⟩) := (hr3.at 0 (by decide)).2.2.2.2.2.1
  have c6 : w3.cell? ⟨b3, o3 + 6, none⟩ = some (.int .i64 1) := (hr3.at 0 (by decide)).2.2.2.2.2.2.1
  have c7 : w3.cell? ⟨b3, o3 + 7, none⟩ = some (.string ⟨#[99]⟩) := (hr3.at 0 (by decide)).2.2.2.2.2.2.2.1
  have c8 : w3.cell? ⟨b3, o3 + 8, none⟩ = some (.string ⟨#[]⟩) := (hr3.at 0 (by decide)).2.2.2.2.2.2.2.2
  obtain ⟨d0, d1, d2, d3, d4, d5, d6, d7, d8⟩ := hX.below hb3
  unfold factC at d0 d1 d2 d3 d4 d5 d6 d7 d8
  dsimp only at d0 d1 d2 d3 d4 d5 d6 d7 d8
  have hB3 : Hid (RowKit.Below w.heap.size w w3) := bstep hB2.out hb3
  clear hr3 hb3 hX HC2 hB2 HL1 HG1
  go_wp2_with fail
  go_region
  have hB4 : Hid (RowKit.Below w.heap.size w w3.drew) := hB3.out.drew
  clear c0 c1 c2 c3' c4 c5 c6 c7 c8 d0 d1 d2 d3 d4 d5 d6 d7 d8 hB3
  generalize w3.drew = w4 at *
  have HN : Hid (ss.length = ss.length) := rfl
  generalize hnn : ss.length = n at HN ⊢
  have Hnn : Hid (ss.length = n) := hnn
  clear HN
  rw [hnn] at hn
  clear hnn
  by_cases h1 : n < 1
  · have b1 : decide ((n : Int) < 1) = true := by simp; omega
    go_wp2_with fail
    exact bodyPost_ret (v := .bool true) (by simp [results, Try.results4, go_sem]) rfl ⟨rfl, hB4.out⟩
  · by_cases h2 : 20 < n
    · have b1 : decide ((n : Int) < 1) = false := by simp; omega
      have b2 : decide ((20 : Int) < (n : Int)) = true := by simp; omega
      go_wp2_with fail
      exact bodyPost_ret (v := .bool true) (by simp [results, Try.results4, go_sem]) rfl ⟨rfl, hB4.out⟩
    · have b1 : decide ((n : Int) < 1) = false := by simp; omega
      have b2 : decide ((20 : Int) < (n : Int)) = false := by simp; omega
      obtain ⟨b, o, rfl, hSS⟩ := HS.out (by intro e; have := Hnn.out; rw [e] at this; simp at this; omega)
      have HSS : Hid (SetsAt w b o ss) := hSS
      obtain ⟨a0, e0, x0, y0⟩ := hSS.below hB4.out 0 (by rw [Hnn.out]; omega)
      rw [Nat.add_zero] at x0
      have m0 := Hln.out 0 (by rw [Hnn.out]; omega)
      have HW := fun W h => CNew_any a0 e0 (gat ss 0) W h (Hf.out _ m0).1 (Hf.out _ m0).2
      have Y0 : Hid (SlT w4 a0 (gat ss 0)) := y0
      have p0 : (0 : Int) < (n : Int) := by omega
      clear hSS y0 m0 HS
      go_wp2_with fail
      refine (HW _ Y0.out).mono ?_
      rintro e w5 ⟨hb5, hy, hno⟩
      have hB5 : Hid (RowKit.Below w.heap.size w w5) := bstep hB4.out hb5
      have hw5 : Hid (w.heap.size ≤ w4.heap.size) := hB4.out.size
      clear x0 HW Y0 hb5
      by_cases hs0 : sortedN (gat ss 0) = 0
      · obtain ⟨n0, rfl, hn0, hC⟩ := hy hs0
        have HC5 : Hid (ChainAt w5 n0 (.slice none 0 0) (ss.take 1)) := by
          have e := take_more (ss := ss) (k := 0) (by rw [Hnn.out]; omega)
          show ChainAt _ _ _ _
          rw [e]
          exact hC
        have hn0' : w.heap.size ≤ n0 := Nat.le_trans hw5.out hn0
        clear hy hno hC hs0 hw5 hB4 hn0
        go_wp2_with fail
        have hn20 : n ≤ 20 ∧ 1 ≤ n := by omega
        clear h1 h2 b1 b2 p0
        go_loopw [14] (fun i wr => ∃ (j : Nat) (v : Value), j + 1 ≤ n ∧ i = .int .i64 ((j : Int) + 1) ∧ Hid (ChainAt wr n0 v (ss.take (j + 1))) ∧ Hid (RowKit.Below w.heap.size w wr)) (fun i wr => n - (intOf i).toNat)
        case atStart => exact ⟨0, _, by omega, by go_num, HC5, hB5⟩
        case round =>
          obtain ⟨j, v, hj, rfl, hCr, hbr⟩ := hrel
          by_cases hjn : j + 1 < n
          · obtain ⟨aj, ej, xj, yj⟩ := (HSS.out.below hbr.out) j (by rw [Hnn.out]; omega)
            obtain ⟨ak, ek, xk, yk⟩ := (HSS.out.below hbr.out) (j + 1) (by rw [Hnn.out]; omega)
            have mj := Hf.out _ (Hln.out j (by rw [Hnn.out]; omega))
            have mk := Hf.out _ (Hln.out (j + 1) (by rw [Hnn.out]; omega))
            have HB := fun W h1 h2 => LBetween_any aj ak ej ek (gat ss j) (gat ss (j + 1)) W h1 h2 mj.1 mk.1 mj.2 mk.2
            have HBG := fun W h1 h2 sa sb => BtwGood_any aj ak ej ek (gat ss j) (gat ss (j + 1)) W h1 h2 sa sb
            have Hlast : Hid ((ss.take (j + 1)).getLast? = some (gat ss j)) := take_last (by omega) (by rw [Hnn.out]; omega)
            have Hmore : Hid (ss.take (j + 1 + 1) = ss.take (j + 1) ++ [gat ss (j + 1)]) := take_more (by rw [Hnn.out]; omega)
            have Hlen : Hid ((ss.take (j + 1)).length ≤ 30) := by show _ ≤ _; rw [List.length_take]; omega
            have Y : Hid (SlT wr aj (gat ss j) ∧ SlT wr ak (gat ss (j + 1))) := ⟨yj, yk⟩
            have q0 : (0 : Int) ≤ (j : Int) := by omega
            have q1 : (j : Int) < (n : Int) := by omega
            have q2 : (0 : Int) ≤ (j : Int) + 1 := by omega
            have q3 : (j : Int) + 1 < (n : Int) := by omega
            have q4 := wrapN j (by omega)
            have mkS : ∀ W, BC wr W → BC wr W ∧ W.cell? ⟨b, o + j, none⟩ = some (.slice aj (gat ss j).length ej) ∧ W.cell? ⟨b, o + (j + 1), none⟩ = some (.slice ak (gat ss (j + 1)).length ek) := fun W h => by
              have q := fun (p : Addr) (v : Value) (hv : wr.cell? p = some v) => (RowKit.Below.cell h (World.block_lt_of_cell? wr p hv)).trans hv
              exact ⟨h, q _ _ xj, q _ _ xk⟩
            have Hmk : Hid _ := mkS
            have hr0 : BC wr wr.drew := (BC.refl wr).drew
            have Yd : Hid (∀ W, BC wr W → SlT W aj (gat ss j) ∧ SlT W ak (gat ss (j + 1))) := fun W h => ⟨Y.out.1.below h, Y.out.2.below h⟩
            clear yj yk mj mk mkS
            by_cases hbn : bothN (gat ss j) (gat ss (j + 1)) = 0
            · obtain ⟨sa, sb⟩ := bothN_zero.1 hbn
              have Sb : Hid (IsSet (gat ss (j + 1))) := sb
              have HBx := fun W h => HBG W (Yd.out W h).1 (Yd.out W h).2 sa sb
              clear HB HBG hbn sa sb
              go_wp2_with fail
              go_cut [15, 16] from 91 to 103 (fun p e W' => ∃ g, p = .pointer (some ⟨g, 0, none⟩) ∧ e = .nilIface ∧ Hid (BtwAt W' g (gat ss j) (gat ss (j + 1))) ∧ Hid (BC wr W'))
              case first =>
                go_region_held3 (fun W => BC wr W ∧ W.cell? ⟨b, o + j, none⟩ = some (.slice aj (gat ss j).length ej) ∧ W.cell? ⟨b, o + (j + 1), none⟩ = some (.slice ak (gat ss (j + 1)).length ek)) ((refine Hmk.out _ ?_; repeat (first | (with_reducible refine BC.set2 ?_ (by first | omega | (simp; omega)) _ _) | (with_reducible refine BC.alloc ?_ _) | (with_reducible refine BC.call ?_ hb6) | (with_reducible exact hr0) | (with_reducible refine BC.drew ?_) | (with_reducible exact BC.refl _)))) (first
                  | (go_at_call 8; refine (HBx _ (by first | exact hr0 | exact BC.alloc hr0 _)).mono ?_; rintro e w6 ⟨hb6, r1, t1, r2, t2, rfl, g1, g2⟩; have s6 := hb6.size; (try simp at s6); (first | (have qa : Z2 w6 wr.heap.size := (by with_reducible exact (Z2.newD wr).below hb6); obtain ⟨z0, z1, z2, z3⟩ := id qa; have qz := World.block_lt_of_cell? _ _ z0) | skip)))
                all_goals go_wp2_with fail
                all_goals go_meet
                all_goals first
                  | exact ⟨_, rfl, rfl, ⟨r1, t1, r2, t2, by go_simp, by go_simp, g1.below (balloc _ _), g2.below (balloc _ _)⟩, And.left (by assumption)⟩
                  | exact ⟨_, rfl, rfl, ⟨r1, t1, r2, t2, by go_simp, by go_simp, g1.put2 z0 z1 _ _, g2.put2 z0 z1 _ _⟩, And.left (by assumption)⟩
              case rest =>
                obtain ⟨g, rfl, rfl, hBt, hbc⟩ := hcut
                obtain ⟨r1, t1, r2, t2, x0, x1, g1, g2⟩ := hBt.out
                have HP := fun W h1 h2 h3 => PushGood_any n0 v (ss.take (j + 1)) (gat ss j) (gat ss (j + 1)) r1 r2 t1 t2 W h1 Hlen.out Hlast.out Sb.out h2 h3
                have Hg : Hid (SlT wc r1 (lessL (gat ss (j + 1)) (gat ss j)) ∧ SlT wc r2 (lessL (gat ss j) (gat ss (j + 1)))) := ⟨g1, g2⟩
                clear xj xk Hmk hr0 hBt g1 g2
                generalize lessL (gat ss (j + 1)) (gat ss j) = L1 at *
                generalize lessL (gat ss j) (gat ss (j + 1)) = L2 at *
                go_wp2_with fail
                refine (HP _ (hCr.out.below hbc.out) Hg.out.1 Hg.out.2).mono ?_
                rintro e w8 ⟨rfl, v', hC8, hO8, hN8⟩
                have HC8 : Hid (ChainAt w8 n0 v' (ss.take (j + 1 + 1))) := by show ChainAt _ _ _ _; rw [Hmore.out]; exact hC8
                have HB8 : Hid (RowKit.Below w.heap.size w w8) := (bstep hbr.out hbc.out).trans (hO8.below hn0' (hCr.out.low hn0') (by have := (bstep hbr.out hbc.out).size; exact this))
                clear hC8 hO8 hN8 x0 x1 HP
                go_wp2_with fail
                go_roundw
                case rel => exact ⟨j + 1, v', by omega, by go_num, HC8, HB8⟩
                case measure => simp [intOf]; omega
            · have HBx := fun W h => HB W (Yd.out W h).1 (Yd.out W h).2
              generalize bothN (gat ss j) (gat ss (j + 1)) = nb at *
              have hnb : (nb == 0) = false := by simpa using hbn
              clear HB HBG hbn
              go_wp2_with fail
              go_cut [15, 16] from 91 to 103 (fun p e W' => ∃ g, p = .pointer (some ⟨g, 0, none⟩) ∧ e = errV nb ∧ Hid (BC wr W'))
              case first =>
                go_region_held3 (fun W => BC wr W ∧ W.cell? ⟨b, o + j, none⟩ = some (.slice aj (gat ss j).length ej) ∧ W.cell? ⟨b, o + (j + 1), none⟩ = some (.slice ak (gat ss (j + 1)).length ek)) ((refine Hmk.out _ ?_; repeat (first | (with_reducible refine BC.set2 ?_ (by first | omega | (simp; omega)) _ _) | (with_reducible refine BC.alloc ?_ _) | (with_reducible refine BC.call ?_ hb6) | (with_reducible exact hr0) | (with_reducible refine BC.drew ?_) | (with_reducible exact BC.refl _)))) (first
                  | (go_at_call 8; refine (HBx _ (by first | exact hr0 | exact BC.alloc hr0 _)).mono ?_; rintro e w6 ⟨hb6, m1, r1, t1, m2, r2, t2, rfl, g1, g2, gP⟩; clear gP; have s6 := hb6.size; (try simp at s6); (first | (have qa : Z2 w6 wr.heap.size := (by with_reducible exact (Z2.newD wr).below hb6); obtain ⟨z0, z1, z2, z3⟩ := id qa; have qz := World.block_lt_of_cell? _ _ z0) | skip)))
                all_goals go_wp2_with fail
                all_goals go_meet
                all_goals exact ⟨_, rfl, rfl, And.left (by assumption)⟩
              case rest =>
                obtain ⟨g, rfl, rfl, hbc⟩ := hcut
                clear xj xk Hmk hr0
                go_wp2_with fail
                exact bodyPost_ret (v := .bool true) (by simp [results, Try.results4, go_sem]) rfl ⟨rfl, bstep hbr.out hbc.out⟩
          · have hjn' : j + 1 = n := by omega
            have HCs : Hid (ChainAt wr n0 v ss) := by
              have h := hCr.out
              rw [hjn', ← Hnn.out, List.take_length] at h
              exact h
            have Hbr : Hid (RowKit.Below w.heap.size w wr) := hbr
            have q0 : ¬ ((j : Int) + 1 < (n : Int)) := by omega
            clear hCr hbr
            go_wp2_with fail
            clear hjn hjn' q0 hj
            generalize hw6 : wr = w6 at *
            clear hw6
            go_loopw [17] (fun i wr => ∃ (k : Nat), k ≤ n ∧ i = .int .i64 k ∧ Hid (ChainAt wr n0 v ss) ∧ Hid (RowKit.Below w.heap.size w wr)) (fun i wr => n - (intOf i).toNat)
            case atStart => exact ⟨0, Nat.zero_le _, rfl, HCs, Hbr⟩
            case round =>
              obtain ⟨k, hk, rfl, hCr, hbr⟩ := hrel
              by_cases hkn : k < n
              · obtain ⟨ak, ek, xk, yk⟩ := (HSS.out.below hbr.out) k (by rw [Hnn.out]; exact hkn)
                have sk : Hid (IsSet (gat ss k)) := hCr.out.set (gat_eq (by rw [Hnn.out]; exact hkn))
                have HG := fun W h => Graph_any n0 v ss k (gat ss k) W h (by rw [Hnn.out]; omega) (gat_eq (by rw [Hnn.out]; exact hkn))
                have HM := fun W a c h1 h2 => SameGood_any a ak c ek (gat ss k) W h1 h2 sk.out
                have Yk : Hid (SlT wr ak (gat ss k)) := yk
                have q0 : (0 : Int) ≤ (k : Int) := by omega
                have q1 : (k : Int) < (n : Int) := by omega
                clear yk
                go_wp2_with fail
                refine (HG _ hCr.out).mono ?_
                rintro e w7 ⟨hb7, a7, c7, rfl, hs7⟩
                have x7 : w7.cell? ⟨b, o + k, none⟩ = some (.slice ak (gat ss k).length ek) := (hb7.cell (World.block_lt_of_cell? _ _ xk)).trans xk
                have Hs7 : Hid (SlT w7 a7 (gat ss k)) := hs7
                have hB7 : Hid (RowKit.Below wr.heap.size wr w7) := hb7
                clear hs7 xk HG hb7
                go_wp2_with fail
                refine (HM _ a7 c7 Hs7.out (Yk.out.below hB7.out)).mono ?_
                rintro e w8 ⟨rfl, hb8⟩
                have hB8 : Hid (RowKit.Below wr.heap.size wr w8) := bstep hB7.out hb8
                clear hb8 x7 HM
                go_wp2_with fail
                go_roundw
                case rel => exact ⟨k + 1, by omega, by go_num, hCr.out.below hB8.out, bstep hbr.out hB8.out⟩
                case measure => simp [intOf]; omega
              · obtain rfl : k = n := by omega
                have HCs' : Hid (ChainAt wr n0 v ss) := hCr
                have Hbr' : Hid (RowKit.Below w.heap.size w wr) := hbr
                clear hCr hbr HCs Hbr hkn hk
                generalize hw7 : wr = w7 at *
                clear hw7
                by_cases hgood : 1 ≤ f ∧ t ≤ ((ss.length - 1 : Nat) : Int) ∧ f ≤ t
                · obtain ⟨g1, g2, g3⟩ := hgood
                  obtain ⟨i, rfl⟩ : ∃ i : Nat, f = (i : Int) + 1 := ⟨(f - 1).toNat, by omega⟩
                  obtain ⟨u, rfl⟩ : ∃ u : Nat, t = (u : Int) := ⟨t.toNat, by omega⟩
                  have hiu : i + 1 ≤ u := by omega
                  have hun : u < ss.length := by have := Hnn.out; omega
                  have HQ := fun W h => Squash_any n0 v ss i u W h (by have := Hnn.out; omega) hiu hun
                  have Hun : Hid (i + 1 ≤ u ∧ u < ss.length) := ⟨hiu, hun⟩
                  have hun' : u < k := by have := Hnn.out; omega
                  clear g1 g2 g3 hun
                  go_wp2_with fail
                  refine (HQ _ HCs'.out).mono ?_
                  rintro e w8 ⟨rfl, v8, hC8, hO8, hv8⟩
                  have HB8 : Hid (RowKit.Below w.heap.size w w8) := Hbr'.out.trans (hO8.below hn0' (HCs'.out.low hn0') Hbr'.out.size)
                  have HC8 : Hid (ChainAt w8 n0 v8 (ss.take (i + 1) ++ ss.drop u)) := hC8
                  have hl8 : (ss.take (i + 1) ++ ss.drop u).length - 1 = k - 1 - (u - (i + 1)) := by rw [sq_len Hun.out.1 Hun.out.2, Hnn.out]; omega
                  have HLx := CLen_any n0 v8 _ w8 HC8.out (by have := sq_len Hun.out.1 Hun.out.2; have := Hnn.out; omega)
                  rw [hl8] at HLx
                  clear hl8 hC8 hO8 hv8 HQ
                  obtain ⟨d, hd⟩ : ∃ d, d = k - 1 - (u - (i + 1)) := ⟨_, rfl⟩
                  rw [← hd] at HLx
                  have hd' : (d : Int) = (k : Int) - 1 - ((u : Int) - ((i : Int) + 1)) := by omega
                  clear hd
                  go_wp2_with fail
                  refine HLx.mono ?_
                  rintro e w9 ⟨rfl, rfl⟩
                  clear HLx
                  go_wp2_with fail
                  clear hd'
                  go_loopw [21] (fun i2 wr => ∃ (q : Nat), q ≤ k ∧ i2 = .int .i64 q ∧ Hid (ChainAt wr n0 v8 (ss.take (i + 1) ++ ss.drop u)) ∧ Hid (RowKit.Below w.heap.size w wr)) (fun i wr => k - (intOf i).toNat)
                  case atStart => exact ⟨0, Nat.zero_le _, rfl, HC8, HB8⟩
                  case round =>
                    obtain ⟨q, hq, rfl, hCr, hbr⟩ := hrel
                    by_cases hqk : q < k
                    · obtain ⟨ak, ek, xk, yk⟩ := (HSS.out.below hbr.out) q (by rw [Hnn.out]; exact hqk)
                      have sk : Hid (IsSet (gat ss q)) := HCs'.out.set (gat_eq (by rw [Hnn.out]; exact hqk))
                      have HM := fun W a c h1 h2 => SameGood_any a ak c ek (gat ss q) W h1 h2 sk.out
                      have Yk : Hid (SlT wr ak (gat ss q)) := yk
                      have q0 : (0 : Int) ≤ (q : Int) := by omega
                      have q1 : (q : Int) < (k : Int) := by omega
                      have hlen : Hid ((ss.take (i + 1) ++ ss.drop u).length ≤ 1000) := by show _ ≤ _; rw [sq_len Hun.out.1 Hun.out.2, Hnn.out]; omega
                      clear yk
                      by_cases c1 : q < i + 1
                      · have t1 : decide ((i : Int) + 1 ≤ (q : Int)) = false := by simp; omega
                        have t2 : decide (u ≤ q) = false := by simp; omega
                        have HG := fun W h => Graph_any n0 v8 (ss.take (i + 1) ++ ss.drop u) q (gat ss q) W h hlen.out (sq_low Hun.out.1 Hun.out.2 c1)
                        go_wp2_with fail
                        refine (HG _ hCr.out).mono ?_
                        rintro e w10 ⟨hb7, a7, c7, rfl, hs7⟩
                        have x7 : w10.cell? ⟨b, o + q, none⟩ = some (.slice ak (gat ss q).length ek) := (hb7.cell (World.block_lt_of_cell? _ _ xk)).trans xk
                        have Hs7 : Hid (SlT w10 a7 (gat ss q)) := hs7
                        have hB7 : Hid (RowKit.Below wr.heap.size wr w10) := hb7
                        clear hs7 xk HG hb7
                        go_wp2_with fail
                        refine (HM _ a7 c7 Hs7.out (Yk.out.below hB7.out)).mono ?_
                        rintro e w11 ⟨rfl, hb8⟩
                        have hB8 : Hid (RowKit.Below wr.heap.size wr w11) := bstep hB7.out hb8
                        clear hb8 x7 HM
                        go_wp2_with fail
                        go_roundw
                        case rel => exact ⟨q + 1, by omega, by go_num, hCr.out.below hB8.out, bstep hbr.out hB8.out⟩
                        case measure => simp [intOf]; omega
                      · by_cases c2 : q < u
                        · have t1 : decide ((i : Int) + 1 ≤ (q : Int)) = true := by simp; omega
                          have t2 : decide (q < u) = true := by simp; omega
                          clear HM xk
                          go_wp2_with fail
                          go_roundw
                          case rel => exact ⟨q + 1, by omega, by go_num, hCr, hbr⟩
                          case measure => simp [intOf]; omega
                        · have t1 : decide ((i : Int) + 1 ≤ (q : Int)) = true := by simp; omega
                          have t2 : decide (q < u) = false := by simp; omega
                          have t3 : decide (u ≤ q) = true := by simp; omega
                          have hp : ((q - (u - (i + 1)) : Nat) : Int) = (q : Int) - ((u : Int) - ((i : Int) + 1)) := by omega
                          have HG := fun W h => Graph_any n0 v8 (ss.take (i + 1) ++ ss.drop u) (q - (u - (i + 1))) (gat ss q) W h hlen.out (sq_high Hun.out.1 (by omega) (by rw [Hnn.out]; exact hqk))
                          simp only [hp] at HG
                          clear hp
                          go_wp2_with fail
                          refine (HG _ hCr.out).mono ?_
                          rintro e w10 ⟨hb7, a7, c7, rfl, hs7⟩
                          have x7 : w10.cell? ⟨b, o + q, none⟩ = some (.slice ak (gat ss q).length ek) := (hb7.cell (World.block_lt_of_cell? _ _ xk)).trans xk
                          have Hs7 : Hid (SlT w10 a7 (gat ss q)) := hs7
                          have hB7 : Hid (RowKit.Below wr.heap.size wr w10) := hb7
                          clear hs7 xk HG hb7
                          go_wp2_with fail
                          refine (HM _ a7 c7 Hs7.out (Yk.out.below hB7.out)).mono ?_
                          rintro e w11 ⟨rfl, hb8⟩
                          have hB8 : Hid (RowKit.Below wr.heap.size wr w11) := bstep hB7.out hb8
                          clear hb8 x7 HM
                          go_wp2_with fail
                          go_roundw
                          case rel => exact ⟨q + 1, by omega, by go_num, hCr.out.below hB8.out, bstep hbr.out hB8.out⟩
                          case measure => simp [intOf]; omega
                    · obtain rfl : q = k := by omega
                      clear hCr
                      go_wp2_with fail
                      exact bodyPost_ret (v := .bool true) (by simp [results, Try.results4, go_sem]) rfl ⟨rfl, hbr.out⟩
                · have hbad : f < 1 ∨ ((ss.length - 1 : Nat) : Int) < t ∨ t < f := by omega
                  have HQ := SquashBad_any n0 v ss f t w7 HCs'.out (by have := Hnn.out; omega) hbad
                  have hb3 : f < 1 ∨ (k : Int) - 1 < t ∨ t < f := by have := Hnn.out; omega
                  clear hgood hbad
                  by_cases f1 : f < 1
                  · have t1 : decide (f < 1) = true := by simpa using f1
                    clear hb3
                    go_wp2_with fail
                    refine HQ.mono ?_
                    rintro e w8 ⟨rfl, rfl⟩
                    clear HQ
                    go_wp2_with fail
                    exact bodyPost_ret (v := .bool true) (by simp [results, Try.results4, go_sem]) rfl ⟨rfl, Hbr'.out⟩
                  · have t1 : decide (f < 1) = false := by simpa using f1
                    by_cases f2 : (k : Int) - 1 < t
                    · have t2 : decide ((k : Int) - 1 < t) = true := by simpa using f2
                      clear hb3
                      go_wp2_with fail
                      refine HQ.mono ?_
                      rintro e w8 ⟨rfl, rfl⟩
                      clear HQ
                      go_wp2_with fail
                      exact bodyPost_ret (v := .bool true) (by simp [results, Try.results4, go_sem]) rfl ⟨rfl, Hbr'.out⟩
                    · have t2 : decide ((k : Int) - 1 < t) = false := by simpa using f2
                      have f3 : t < f := by omega
                      have t3 : decide (t < f) = true := by simpa using f3
                      clear hb3
                      go_wp2_with fail
                      refine HQ.mono ?_
                      rintro e w8 ⟨rfl, rfl⟩
                      clear HQ
                      go_wp2_with fail
                      exact bodyPost_ret (v := .bool true) (by simp [results, Try.results4, go_sem]) rfl ⟨rfl, Hbr'.out⟩
      · have e := hno hs0
        subst e
        generalize sortedN (gat ss 0) = m at *
        have hm : (m == 0) = false := by simpa using hs0
        clear hy hno hs0
        go_wp2_with fail
        exact bodyPost_ret (v := .bool true) (by simp [results, Try.results4, go_sem]) rfl ⟨rfl, hB5.out⟩
end Go.Proofs.Ytgdjeohcimkljad
