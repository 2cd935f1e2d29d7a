/- code.Set, code.Term, code.Layer: as bytes. -/
import Derived.Test.YtkiicgkaadcjmaeCodeSet
import Derived.Laws.IdiomStrings
import Derived.Deep.RegionLaw
import Derived.Deep.RegionHeld3
namespace Go.Proofs.Ytkiicgkaadcjmae
open Go Go.RowKit Go.Proofs
set_option synthInstance.maxSize 1000

theorem u8U : Try.prog.underlying 5 = some (.int .u8) := by kernel_rfl
theorem Buf.string {B : Nat} {v : Value} {l : List UInt8} {W0 w : World} (h : Buf B v l W0 w) (hne : l ≠ []) : (convert 33 9 v).run Try.prog w = .ok (.string ⟨l.toArray⟩) w := by
  have h1 := h.1
  rcases h1.2 with ⟨_, h0⟩ | ⟨g, cap, cur, fz, rfl, _, hg, _⟩
  · exact absurd (List.eq_nil_of_length_eq_zero h0) hne
  · refine run_convert_bytes_back w 33 9 5 ⟨g, 0, none⟩ cap l Try.underlying33 u8U Try.underlying9 ?_
    intro j hj
    refine h1.cells (g := g) rfl j _ ?_
    simp [bytesV, hj]
theorem Buf.nil (w : World) : Buf w.heap.size (.slice none 0 0) [] w w := ⟨World.ownsRowF_nil _ _ _ _, RowKit.Below.refl _ _, Nat.le_refl _⟩
theorem encS_ne (l : List Tr) : encS l ≠ [] := by simp [encS]
theorem encT_ne (x : Tm) : encT x ≠ [] := by simp [encT]
theorem okTr_chk {x : Tr} (h : chkTr x = 0) : okTr x := by
  obtain ⟨h1, h2, h3, _⟩ := chk_zero h
  exact ⟨h1, h2, h3⟩
theorem okTr_set {l : List Tr} (h : IsSet l) : ∀ x ∈ l, okTr x := fun x hx => okTr_chk (h.2.1 x hx)
def setB (l : List Tr) : List UInt8 := if sortedN l = 0 then encS l else []

attribute [local go_sem] eql_errV neq_errV guard_errV

set_option maxHeartbeats 2000000 in
set_option maxRecDepth 100000 in
theorem CSet_any (ad : Option Addr) (ca : Nat) (l : List Tr) (w : World) (h : SlT w ad l) (hfit : ∀ x ∈ l, fitTr x) (hn : l.length ≤ 9223372036854775807) :
    Calls Try.prog 4 #[.slice ad l.length ca] w fun e w' => e = .returned (.tuple #[.string ⟨(setB l).toArray⟩, errV (sortedN l)]) ∧ RowKit.Below w.heap.size w w' := by
  have H := Sorted_any ad ca l w h hfit hn
  have Hs : Hid (SlT w ad l) := h
  have f0 : Hid (sortedN l = 0 → setB l = encS l ∧ l.length ≤ 200 ∧ ∀ x ∈ l, okTr x) := fun e => ⟨if_pos e, (sortedN_set.1 e).1, okTr_set (sortedN_set.1 e)⟩
  have f1 : Hid (¬ sortedN l = 0 → setB l = []) := fun e => if_neg e
  clear h hfit hn
  generalize sortedN l = N at *
  generalize setB l = S at *
  by_cases hN : N = 0
  · subst hN
    obtain ⟨rfl, h2, h3⟩ := f0.out rfl
    have HA := fun W1 (hs : SlT W1 ad l) => addSet_any W1 (.slice none 0 0) [] ad ca l W1 hs h2 h3 (Buf.nil W1) (by simp)
    clear f0 f1 h2 h3
    go_enter Try.func4, Try.ntmps4
    go_wp2_with fail
    refine H.mono ?_
    rintro e w1 ⟨rfl, hb1⟩
    go_wp2_with fail
    refine (HA w1 (Hs.out.below hb1)).mono ?_
    rintro e w2 ⟨v2, rfl, hb2, _⟩
    have hcv := hb2.string (by simp [encS_ne])
    rw [List.nil_append] at hcv hb2
    go_wp2_with fail
    exact bodyPost_ret (v := .tuple #[.string ⟨(encS l).toArray⟩, .nilIface]) (by simp [results, Try.results4, go_sem]) rfl ⟨rfl, bstep hb1 hb2.2.1⟩
  · have e1 := f1.out hN
    subst e1
    have hN' : (N == 0) = false := by simpa using hN
    clear f0 f1
    go_enter Try.func4, Try.ntmps4
    go_wp2_with fail
    refine H.mono ?_
    rintro e w1 ⟨rfl, hb1⟩
    go_wp2_with fail
    exact bodyPost_ret (v := .tuple #[.string ⟨#[]⟩, errV N]) (by simp [results, Try.results4, go_sem]) rfl ⟨rfl, hb1⟩

end Go.Proofs.Ytkiicgkaadcjmae
