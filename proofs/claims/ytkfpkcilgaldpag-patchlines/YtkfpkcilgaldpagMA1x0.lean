import Derived.Test.YtkfpkcilgaldpagMA0x2
import Derived.Deep.DeepCutAuto

/- The program's patch: printLines, Print. -/
namespace Go.Proofs.Ytkfpkcilgaldpag
open Go Go.RowKit Go.Proofs
set_option synthInstance.maxSize 1000
attribute [local go_sem] eql_errV neq_errV guard_errV

theorem linesP_step (t : Bool) (m : List Tr) (k : Nat) (h : k < m.length) : linesP t (m.take (k + 1)) = linesP t (m.take k) ++ lineP t m[k] := by
  rw [List.take_succ_eq_append_getElem h, linesP_app]
  simp [linesP]
theorem strL (a b c : List UInt8) : ((⟨a.toArray⟩ : ByteArray) ++ (⟨b.toArray⟩ : ByteArray)) ++ (⟨c.toArray⟩ : ByteArray) = ⟨(a ++ b ++ c).toArray⟩ := by rw [str_app, str_app]

theorem rowB_below {W W' : World} {base : Nat} {e : TypeId} {sz : Nat} {v : Value} {n : Nat} {cs : List Value} (h : W.ownsRow base e sz v n cs) (hb : RowKit.Below W.heap.size W W') : W'.ownsRow base e sz v n cs :=
  h.kept (row := none) ⟨hb.os, hb.tape, hb.output, hb.size, fun i hi _ => hb.block i hi⟩ (Classical.em _)
theorem builder_below {T e : TypeId} {B b : Nat} {bs : List Value} {w w' : World} (h : Lib.IsBuilder T e B b bs w) (hb : RowKit.Below w.heap.size w w') : Lib.IsBuilder T e B b bs w' := by
  rcases h with h | h
  · have hl := h.lt
    obtain ⟨h1, v, h2, h3, h4⟩ := h
    exact .inl ⟨h1, v, (hb.block _ hl).trans h2, rowB_below h3 hb, h4⟩
  · have hl := h.lt
    obtain ⟨h1, v, h2, h3, h4⟩ := h
    exact .inr ⟨h1, v, (hb.block _ hl).trans h2, rowB_below h3 hb, h4⟩

set_option maxHeartbeats 4000000 in
set_option maxRecDepth 100000 in
theorem PLines_any (t : Bool) (ad : Option Addr) (ca : Nat) (m : List Tr) (w : World) (h : SlT w ad m) (hc : ∀ x ∈ m, chkTr x = 0) (hf : ∀ x ∈ m, fitTr x) (hm : m.length ≤ 200) :
    Calls Try.prog 7 #[.string ⟨#[markP t, 32]⟩, .slice ad m.length ca] w fun e w' => e = .returned (.tuple #[.string ⟨(linesP t m).toArray⟩, .nilIface]) ∧ RowKit.Below w.heap.size w w' := by
  have Hl : Hid (SlT w ad m) := h
  have Hc : Hid (∀ x ∈ m, chkTr x = 0) := hc
  have Hf : Hid (∀ x ∈ m, fitTr x) := hf
  have hB0 := Lib.fresh_isBuilder 41 5 w
  have HB0 : Hid _ := hB0
  clear h hc hf hB0
  go_enter Try.func7, Try.ntmps7
  go_wp2_with fail
  go_loopw [13] (fun i wr => ∃ k : Nat, k ≤ m.length ∧ i = .int .i64 k ∧ Hid (Lib.IsBuilder 41 5 w.heap.size w.heap.size (Lib.byteCells (linesP t (m.take k))) wr) ∧ RowKit.Below w.heap.size w wr) (fun i wr => m.length - (intOf i).toNat)
  case atStart => exact ⟨0, Nat.zero_le _, rfl, HB0.out, balloc _ _⟩
  case round =>
    obtain ⟨k, hk, rfl, hI, hbr⟩ := hrel
    by_cases hlt : k < m.length
    · obtain ⟨b, o, rfl, hr⟩ := (Hl.out.below hbr).at k hlt
      obtain ⟨d0, d1, d2, d3, d4, d5, d6, d7, d8⟩ := hr.at k hlt
      have i0 : (0 : Int) ≤ (k : Int) := by omega
      have i1 : (k : Int) < (m.length : Int) := by omega
      have hstep : Hid _ := linesP_step t m k hlt
      have hfew : Hid (_ ≤ _) := lines_few t (m.take k) fun x hx => Hc.out x (List.mem_of_mem_take hx)
      have hshow := show_few (Hc.out m[k] (List.getElem_mem hlt))
      have HP := fun W => TPrint_good m[k] W (Hf.out m[k] (List.getElem_mem hlt)) (Hc.out m[k] (List.getElem_mem hlt))
      have hzr := hbr.size
      unfold valTr at HP
      generalize m[k] = y at *
      clear hr
      go_wp2_with fail
      refine (HP _).mono ?_
      rintro e w1 ⟨rfl, hb1⟩
      dsimp only
      go_wp2_with fail
      have hcat : ((⟨#[markP t, 32]⟩ : ByteArray) ++ (⟨(showTr y).toArray⟩ : ByteArray)) ++ (⟨#[10]⟩ : ByteArray) = ⟨(lineP t y).toArray⟩ := (strL [markP t, 32] (showTr y) [10]).trans (by simp [lineP])
      rw [hcat]
      have hB1 : RowKit.Below wr.heap.size wr w1 := bstep (balloc _ _) hb1
      have hI1 := builder_below hI.out hB1
      have hlen : (linesP t (m.take k)).length + (lineP t y).length ≤ 140737488355328 := by
        have h1 := hfew.out
        have h2 : (m.take k).length ≤ k := List.length_take_le _ _
        have h3 : (lineP t y).length = (showTr y).length + 3 := by simp [lineP]
        omega
      have hz1 : w.heap.size ≤ w1.heap.size := Nat.le_trans hzr hB1.size
      have hbr1 := bstep hbr hB1
      refine (WriteString_any w.heap.size w.heap.size _ _ _ hI1 hlen hz1).mono ?_
      clear hI1 hlen hcat hI
      rintro e w2 ⟨⟨v, rfl⟩, hI2, hb2⟩
      rw [← hstep.out] at hI2
      have HI2 : Hid _ := hI2
      clear hI2
      dsimp only
      go_wp2_with fail
      exact ⟨⟨k + 1, by omega, by go_num, Or.inr HI2.out, hbr1.trans hb2⟩, by simp [intOf]; omega⟩
    · obtain rfl : k = m.length := by omega
      have hI' := hI.out
      rw [List.take_length] at hI'
      have hsz := hbr.size
      go_wp2_with fail
      refine (Try.Builder_String_any w.heap.size w.heap.size _ _ hI' hsz).mono ?_
      rintro e w3 ⟨rfl, hb3⟩
      go_wp2_with fail
      exact bodyPost_ret (v := .tuple #[.string ⟨(linesP t m).toArray⟩, .nilIface]) (by simp [results, Try.results7, go_sem]) rfl ⟨rfl, hbr.trans hb3⟩

set_option maxHeartbeats 4000000 in
set_option maxRecDepth 100000 in
theorem PPrint_any (a1 a2 : Option Addr) (c1 c2 : Nat) (l : LyP) (w : World) (h : LayIn w a1 a2 l) :
    Calls Try.prog 4 #[.agg #[.slice a1 l.1.length c1, .slice a2 l.2.length c2]] w fun e w' => e = .returned (.tuple #[.string ⟨(printP l).toArray⟩, errV (apartN l.1 l.2)]) ∧ RowKit.Below w.heap.size w w' := by
  have n1 := h.lenA
  have n2 := h.lenT
  unfold maxLen at n1 n2
  have HC := fun W (hW : RowKit.Below w.heap.size w W) => LCheck_any a1 a2 c1 c2 l.1 l.2 W (h.add.below hW) (h.take.below hW) h.fitA h.fitT (by omega) (by omega)
  by_cases h0 : apartN l.1 l.2 = 0
  · have hg := apart_good.1 h0
    have hp : printP l = linesP true l.2 ++ linesP false l.1 := if_pos h0
    have f1 := lines_few true l.2 hg.take.2.1
    have f2 := lines_few false l.1 hg.add.2.1
    have g1 := hg.add.1
    have g2 := hg.take.1
    have HT : ∀ W, RowKit.Below w.heap.size w W → Calls Try.prog 7 #[.string ⟨#[45, 32]⟩, .slice a2 l.2.length c2] W fun e w' => e = .returned (.tuple #[.string ⟨(linesP true l.2).toArray⟩, .nilIface]) ∧ RowKit.Below W.heap.size W w' := fun W hW => PLines_any true a2 c2 l.2 W (h.take.below hW) hg.take.2.1 h.fitT hg.take.1
    have HA : ∀ W, RowKit.Below w.heap.size w W → Calls Try.prog 7 #[.string ⟨#[43, 32]⟩, .slice a1 l.1.length c1] W fun e w' => e = .returned (.tuple #[.string ⟨(linesP false l.1).toArray⟩, .nilIface]) ∧ RowKit.Below W.heap.size W w' := fun W hW => PLines_any false a1 c1 l.1 W (h.add.below hW) hg.add.2.1 h.fitA hg.add.1
    rw [h0] at HC ⊢
    rw [hp]
    rw [show errV 0 = .nilIface from rfl] at HC ⊢
    clear h hg hp h0
    generalize linesP true l.2 = x at *
    generalize linesP false l.1 = y at *
    have lx : x.length ≤ 1000000 := by omega
    have ly : y.length ≤ 1000000 := by omega
    have fin : Hid ((⟨x.toArray⟩ : ByteArray) ++ (⟨y.toArray⟩ : ByteArray) = ⟨(x ++ y).toArray⟩) := str_app x y
    generalize x ++ y = xy at *
    clear f1 f2 g1 g2
    go_enter Try.func4, Try.ntmps4
    go_wp2_with fail
    refine (HC _ (balloc _ _)).mono ?_
    rintro e w1 ⟨rfl, hb1⟩
    have hB1 := bstep (balloc _ _) hb1
    obtain ⟨z0, z1, hz, _, _⟩ := twobox hb1
    dsimp only
    go_wp2_with fail
    refine (HT _ hB1).mono ?_
    rintro e w2 ⟨rfl, hb2⟩
    have hB2 := bstep hB1 hb2
    obtain ⟨kc, _⟩ := bcell hb2
    have y0 := (kc _ 0 hz).trans z0
    have y1 := (kc _ 1 hz).trans z1
    clear kc z0 z1
    dsimp only
    go_wp2_with fail
    refine (HA _ hB2).mono ?_
    rintro e w3 ⟨rfl, hb3⟩
    dsimp only
    go_wp2_with fail
    exact bodyPost_ret (v := .tuple #[.string ⟨xy.toArray⟩, .nilIface]) (by simp [results, Try.results4, go_sem, fin.out]) rfl ⟨rfl, bstep hB2 hb3⟩
  · have hp : printP l = [] := if_neg h0
    have hN : (apartN l.1 l.2 == 0) = false := by simpa using h0
    rw [hp]
    clear h h0 hp
    generalize apartN l.1 l.2 = N at *
    go_enter Try.func4, Try.ntmps4
    go_wp2_with fail
    refine (HC _ (balloc _ _)).mono ?_
    rintro e w1 ⟨rfl, hb1⟩
    dsimp only
    go_wp2_with fail
    exact bodyPost_ret (v := .tuple #[.string ⟨#[]⟩, errV N]) (by simp [results, Try.results4, go_sem]) rfl ⟨rfl, bstep (balloc _ _) hb1⟩
end Go.Proofs.Ytkfpkcilgaldpag

/- The program's patch keeps the face that the laws ask of it. -/
namespace Go.Proofs.Ytkfpkcilgaldpag
open Go Go.RowKit Go.Proofs
set_option synthInstance.maxSize 1000
attribute [local go_sem] eql_errV neq_errV guard_errV

def thePatch : PFace where
  lim := reachBytes
  print := fun w a1 a2 c1 c2 l h => PPrint_any a1 a2 c1 c2 l w h
theorem thePatch_lim : thePatch.lim = reachBytes := rfl
end Go.Proofs.Ytkfpkcilgaldpag
