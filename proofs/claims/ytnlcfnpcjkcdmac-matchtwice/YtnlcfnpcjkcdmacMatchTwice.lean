/- stratalaw4.MatchTwice: the walk. -/
import Derived.Test.YtnlcfnpcjkcdmacMatchMatch
import Derived.Deep.Draws
import Derived.RegionTactic
namespace Go.Proofs.Ytnlcfnpcjkcdmac
open Go Go.RowKit Go.Proofs Go.Maps
set_option synthInstance.maxSize 1000

attribute [local go_sem] eql_errV neq_errV guard_errV
attribute [local go_sem ↓] eqlTerm

def pTwice : Pt := (([120], 0, [], []), ([121], 0, [], []), ([120], 0, [], []))
def factA : Tr := ⟨⟨1, [97], []⟩, ⟨1, [98], []⟩, ⟨1, [97], []⟩⟩
def sameB (t : Tr) : Bool := eqTB t.1.1 t.1.2.1 t.1.2.2 t.2.2.1 t.2.2.2.1 t.2.2.2.2

theorem twice_fit : fitPt pTwice := by
  refine ⟨⟨?_, ?_, ?_⟩, ⟨?_, ?_, ?_⟩, ⟨?_, ?_, ?_⟩⟩ <;> (simp [pTwice]; try (unfold maxLen; omega))
theorem twice_vars : varsN pTwice = 0 := by decide
theorem twice_fits (t : Tr) : fitsB pTwice t = sameB t := by
  unfold sameB
  rw [eqTB_tm t.1 t.2.2]
  unfold fitsB pTwice
  simp [eq_comm]
theorem twice_match (l : List Tr) : matchN l pTwice = sortedN l := by
  unfold matchN
  rw [twice_vars]
  split
  · rename_i h; rw [h]
  · rfl
theorem twice_count (l : List Tr) (h : sortedN l = 0) : CountAns l pTwice = (l.filter sameB).length := by
  unfold CountAns
  rw [twice_match, if_pos h]
  unfold matchL
  congr 1
  exact List.filter_congr fun t _ => twice_fits t
theorem factA_set : IsSet [factA] := ⟨by simp, by intro x hx; rw [List.mem_singleton.1 hx]; decide, List.pairwise_singleton _ _⟩

theorem countFact (ad : Option Addr) (c : Nat) (w : World) (h : SlT w ad [factA]) :
    Calls Try.prog 9 #[.slice ad 1 c, .agg #[.string ⟨#[120]⟩, .int .i64 0, .string ⟨#[]⟩, .string ⟨#[]⟩, .string ⟨#[121]⟩, .int .i64 0, .string ⟨#[]⟩, .string ⟨#[]⟩, .string ⟨#[120]⟩, .int .i64 0, .string ⟨#[]⟩, .string ⟨#[]⟩]] w fun e w' => e = .returned (.tuple #[.int .i64 1, .nilIface]) ∧ Below w.heap.size w w' := by
  have := Count_any ad c [factA] pTwice w h factA_set.fit twice_fit (by simp)
  have hs : sortedN [factA] = 0 := sortedN_set.2 factA_set
  rw [twice_match, twice_count _ hs, hs, show ([factA].filter sameB).length = 1 by decide] at this
  exact this
theorem countTwice (ad : Option Addr) (c : Nat) (l : List Tr) (w : World) (h : SlT w ad l) (hfit : ∀ x ∈ l, fitTr x) (hn : l.length ≤ 9223372036854775807) :
    Calls Try.prog 9 #[.slice ad l.length c, .agg #[.string ⟨#[120]⟩, .int .i64 0, .string ⟨#[]⟩, .string ⟨#[]⟩, .string ⟨#[121]⟩, .int .i64 0, .string ⟨#[]⟩, .string ⟨#[]⟩, .string ⟨#[120]⟩, .int .i64 0, .string ⟨#[]⟩, .string ⟨#[]⟩]] w fun e w' => e = .returned (.tuple #[.int .i64 (CountAns l pTwice), errV (sortedN l)]) ∧ Below w.heap.size w w' := by
  have := Count_any ad c l pTwice w h hfit twice_fit hn
  rw [twice_match] at this
  exact this
theorem name_any (s : ByteArray) (w : World) : Calls Try.prog 13 #[.string s] w fun e w' => e = .returned (.agg #[.int .i64 1, .string s, .string ⟨#[]⟩]) ∧ Below w.heap.size w w' := by
  go_enter Try.func13, Try.ntmps13
  go_wp2_with fail
  exact bodyPost_ret (v := .agg #[.int .i64 1, .string s, .string ⟨#[]⟩]) (by unfold results; rw [Try.results13]; go_simp) rfl ⟨rfl, balloc _ _⟩

theorem PatAt.twice {w : World} {b : Nat} (h : PatAt w b pTwice) :
    w.cell? ⟨b, 0, none⟩ = some (.string ⟨#[120]⟩) ∧ w.cell? ⟨b, 1, none⟩ = some (.int .i64 0) ∧ w.cell? ⟨b, 2, none⟩ = some (.string ⟨#[]⟩) ∧ w.cell? ⟨b, 3, none⟩ = some (.string ⟨#[]⟩) ∧
    w.cell? ⟨b, 4, none⟩ = some (.string ⟨#[121]⟩) ∧ w.cell? ⟨b, 5, none⟩ = some (.int .i64 0) ∧ w.cell? ⟨b, 6, none⟩ = some (.string ⟨#[]⟩) ∧ w.cell? ⟨b, 7, none⟩ = some (.string ⟨#[]⟩) ∧
    w.cell? ⟨b, 8, none⟩ = some (.string ⟨#[120]⟩) ∧ w.cell? ⟨b, 9, none⟩ = some (.int .i64 0) ∧ w.cell? ⟨b, 10, none⟩ = some (.string ⟨#[]⟩) ∧ w.cell? ⟨b, 11, none⟩ = some (.string ⟨#[]⟩) :=
  ⟨h _ _ rfl, h _ _ rfl, h _ _ rfl, h _ _ rfl, h _ _ rfl, h _ _ rfl, h _ _ rfl, h _ _ rfl, h _ _ rfl, h _ _ rfl, h _ _ rfl, h _ _ rfl⟩

theorem filter_one (l : List Tr) (k : Nat) (h : k < l.length) : ((l.take (k + 1)).filter sameB).length = ((l.take k).filter sameB).length + (if sameB l[k] then 1 else 0) := by
  rw [filter_stepM l sameB k h, List.length_append]
  split <;> rfl

set_option maxHeartbeats 8000000 in
set_option maxRecDepth 100000 in
theorem twice_any (ad : Option Addr) (ca : Nat) (l : List Tr) (w : World) (h : SlT w ad l) (fa : ∀ x ∈ l, fitTr x) (na : l.length ≤ 9223372036854775807) :
    Calls Try.prog 4 #[.slice ad l.length ca] w fun e w' => e = .returned (.bool true) ∧ Below w.heap.size w w' := by
  have HN := name_any
  have HF := countFact
  have HC := fun W hW => countTwice ad ca l W hW fa na
  have HS := fun W hW => Sorted_any ad ca l W hW fa na
  have Hl : Hid (SlT w ad l) := h
  clear h fa
  go_enter Try.func4, Try.ntmps4
  go_wp2_with fail
  refine (HN _ _).mono ?_
  rintro e w1 ⟨rfl, hb1⟩
  go_wp2_with fail
  refine (HN _ _).mono ?_
  rintro e w2 ⟨rfl, hb2⟩
  go_wp2_with fail
  refine (HN _ _).mono ?_
  rintro e w3 ⟨rfl, hb3⟩
  have hpat : Hid (PatAt w3 w.heap.size pTwice) := (((patBox w pTwice 28).below hb1).below hb2).below hb3
  have hB3 : Below w.heap.size w w3 := bstep (bstep (bstep (balloc _ _) hb1) hb2) hb3
  have hlt := hpat.out.lt
  clear hb1 hb2 hb3 HN
  obtain ⟨p0, p1, p2, p3, p4, p5, p6, p7, p8, p9, p10, p11⟩ := hpat.out.twice
  go_wp2_with fail
  refine (HF _ _ _ ?hf).mono ?_
  case hf =>
    refine fun _ => ⟨_, 0, rfl, fun j v hj => ?_⟩
    have h9 : j < 9 := (List.getElem?_eq_some_iff.1 hj).1
    rcases (by omega : j = 0 ∨ j = 1 ∨ j = 2 ∨ j = 3 ∨ j = 4 ∨ j = 5 ∨ j = 6 ∨ j = 7 ∨ j = 8) with rfl | rfl | rfl | rfl | rfl | rfl | rfl | rfl | rfl
    all_goals
      simp [cellsT, encTr, factA] at hj
      subst hj
      go_simp
  rintro e w4 ⟨rfl, hb4⟩
  have h34 : Below w3.heap.size w3 w4 := bstep (bstep (balloc _ _) (balloc _ _)) hb4
  have hB4 := bstep hB3 h34
  have hpat4 : Hid (PatAt w4 w.heap.size pTwice) := hpat.out.below h34
  clear p0 p1 p2 p3 p4 p5 p6 p7 p8 p9 p10 p11 hb4 hpat HF h34 hlt
  obtain ⟨p0, p1, p2, p3, p4, p5, p6, p7, p8, p9, p10, p11⟩ := hpat4.out.twice
  go_wp2_with fail
  refine (HC _ (Hl.out.below hB4)).mono ?_
  rintro e w5 ⟨rfl, hb5⟩
  have hB5 := bstep hB4 hb5
  have Hl5 : Hid (SlT w5 ad l) := Hl.out.below hB5
  clear p0 p1 p2 p3 p4 p5 p6 p7 p8 p9 p10 p11 HC hpat4 hb5
  cases hs : (sortedN l == 0)
  · go_wp2_with fail
    refine (HS _ Hl5.out).mono ?_
    rintro e w6 ⟨rfl, hb6⟩
    go_wp2_with fail
    go_ret
    exact ⟨ret_bool (by simp), bstep hB5 hb6⟩
  · have hs0 : sortedN l = 0 := by simpa using hs
    have h200 := (sortedN_set.1 hs0).1
    rw [twice_count l hs0]
    have hfl : (l.filter sameB).length ≤ 200 := Nat.le_trans (List.length_filter_le _ _) h200
    generalize hC : (l.filter sameB).length = C at *
    have HCC : Hid _ := hC
    clear hC hs0 HS na
    go_wp2_with fail
    go_loopw [9, 10] (fun c i wr => ∃ k q : Nat, k ≤ l.length ∧ i = .int .i64 k ∧ c = .int .i64 ((l.take k).filter sameB).length ∧ wr = w5.drewN q) (fun _ i wr => l.length - (intOf i).toNat)
    case atStart => exact ⟨0, 0, Nat.zero_le _, rfl, rfl, rfl⟩
    case round =>
      obtain ⟨k, q, hk, rfl, rfl, rfl⟩ := hrel
      by_cases hlt : k < l.length
      · obtain ⟨b, o, rfl, hr⟩ := Hl5.out.at k hlt
        obtain ⟨c0, c1, c2, c3, c4, c5, c6, c7, c8⟩ := hr.at k hlt
        have i0' : (0 : Int) ≤ (k : Int) := by omega
        have i1 : (k : Int) < (l.length : Int) := by omega
        have hst : Hid _ := filter_one l k hlt
        have hm : ((l.take k).filter sameB).length ≤ 200 := Nat.le_trans (List.length_filter_le _ _) (by simp; omega)
        have hsb : Hid (sameB l[k] = eqTB l[k].1.1 l[k].1.2.1 l[k].1.2.2 l[k].2.2.1 l[k].2.2.2.1 l[k].2.2.2.2) := rfl
        have d7 : w5.cell? ⟨b, o + k * 9 + 6 + 1, none⟩ = some (.string ⟨l[k].2.2.2.1.toArray⟩) := c7
        have d8 : w5.cell? ⟨b, o + k * 9 + 6 + 2, none⟩ = some (.string ⟨l[k].2.2.2.2.toArray⟩) := c8
        clear hr
        generalize ht : ((l.take (k + 1)).filter sameB).length = m1 at *
        have Ht : Hid _ := ht
        generalize ((l.take k).filter sameB).length = m0 at *
        generalize l[k] = y at *
        clear ht
        cases hq : eqTB y.1.1 y.1.2.1 y.1.2.2 y.2.2.1 y.2.2.2.1 y.2.2.2.2
        · have hm1 : m1 = m0 := by have := hst.out; rw [hsb.out, hq] at this; simpa using this
          go_wp2_with fail
          go_region
          go_wp2
          exact ⟨⟨k + 1, q + 1, by omega, by go_num, by rw [Ht.out, hm1], rfl⟩, by simp [intOf]; omega⟩
        · have hm1 : m1 = m0 + 1 := by have := hst.out; rw [hsb.out, hq] at this; simpa using this
          go_wp2_with fail
          go_region
          go_wp2
          exact ⟨⟨k + 1, q + 1, by omega, by go_num, by rw [Ht.out, hm1]; go_num, rfl⟩, by simp [intOf]; omega⟩
      · obtain rfl : k = l.length := by omega
        rw [List.take_length, HCC.out]
        go_wp2
        go_ret
        exact ⟨ret_bool (by simp), ⟨hB5.os, hB5.tape, hB5.output, hB5.size, hB5.block⟩⟩
end Go.Proofs.Ytnlcfnpcjkcdmac
