/- layer: apart, within, Check, swap, fresh, Turn, Between: what they tell. -/
import Derived.Test.YtonmmnhikjfibadGreatDoorLayerPlain
import Derived.Deep.RegionHeld3
namespace Go.Proofs.YtonmmnhikjfibadGreatDoor
open Go Go.RowKit Go.Proofs
set_option synthInstance.maxSize 1000

attribute [local go_sem] eql_errV neq_errV guard_errV

/-- a store where a slice lay leaves the rows of triples -/
theorem SlT.put {W : World} {ad : Option Addr} {l : List Tr} (h : SlT W ad l) {p : Addr} {a : Option Addr} {n c : Nat} (hp : W.cell? p = some (.slice a n c)) (v : Value) : SlT (W.setCell p v) ad l := fun hl => by
  obtain ⟨b, o, rfl, hr⟩ := h hl
  refine ⟨b, o, rfl, fun j u hu => ?_⟩
  have hc := hr j u hu
  have hne : p ≠ ⟨b, o + j, none⟩ := by
    rintro rfl
    rw [hp] at hc
    obtain rfl := Option.some.inj hc
    have hm := List.mem_of_getElem? hu
    unfold cellsT at hm
    obtain ⟨x, _, hx⟩ := List.mem_flatMap.1 hm
    simp [encTr] at hx
  rw [World.cell?_setCell_other W p _ v hne]
  exact hc
theorem SlT.put2 {W : World} {ad : Option Addr} {l : List Tr} (h : SlT W ad l) {b : Nat} {a a' : Option Addr} {n c n' c' : Nat} (hp : W.cell? ⟨b, 0, none⟩ = some (.slice a n c)) (hq : W.cell? ⟨b, 1, none⟩ = some (.slice a' n' c')) (u v : Value) : SlT ((W.setCell ⟨b, 0, none⟩ u).setCell ⟨b, 1, none⟩ v) ad l :=
  SlT.put (h.put hp u) (by rw [World.cell?_setCell_other W _ _ u (by simp)]; exact hq) v
theorem below_two {B b : Nat} {w W : World} (h : RowKit.Below B w W) (hb : B ≤ b) (v0 v1 : Value) : RowKit.Below B w ((W.setCell ⟨b, 0, none⟩ v0).setCell ⟨b, 1, none⟩ v1) :=
  (h.setCell (p := ⟨b, 0, none⟩) hb v0).setCell (p := ⟨b, 1, none⟩) hb v1

theorem twobox {w W : World} {T : TypeId} {a0 a1 : Value} (hb : RowKit.Below (w.alloc (.cells #[a0, a1] T)).heap.size (w.alloc (.cells #[a0, a1] T)) W) :
    W.cell? ⟨w.heap.size, 0, none⟩ = some a0 ∧ W.cell? ⟨w.heap.size, 1, none⟩ = some a1 ∧ w.heap.size < W.heap.size ∧ W.frozen? ⟨w.heap.size, 0, none⟩ = false ∧ W.frozen? ⟨w.heap.size, 1, none⟩ = false := by
  obtain ⟨h, h'⟩ := bcell hb
  have hs := hb.size
  refine ⟨?_, ?_, by simp at hs; omega, ?_, ?_⟩
  · rw [h] <;> first | go_simp | (simp <;> omega)
  · rw [h] <;> first | go_simp | (simp <;> omega)
  · rw [h'] <;> first | go_simp | (simp <;> omega)
  · rw [h'] <;> first | go_simp | (simp <;> omega)

set_option maxHeartbeats 2000000 in
set_option maxRecDepth 100000 in
theorem apart_any (ad bd : Option Addr) (ca cb : Nat) (a b : List Tr) (w : World) (ha : SlT w ad a) (hb : SlT w bd b) (fa : ∀ x ∈ a, fitTr x) (fb : ∀ x ∈ b, fitTr x) (na : a.length ≤ 9223372036854775807) (nb : b.length ≤ 9223372036854775807) :
    Calls Tryz.prog 77 #[.slice ad a.length ca, .slice bd b.length cb] w fun e w' => e = .returned (errV (apartN a b)) ∧ RowKit.Below w.heap.size w w' := by
  have H := fun W h1 h2 => Both_any ad bd ca cb a b W h1 h2 fa fb na nb
  have Ha : Hid (SlT w ad a) := ha
  have Hb : Hid (SlT w bd b) := hb
  have fin : Hid (apartN a b = orN (bothN a b) (if (bothL a b).length = 0 then 0 else 7)) := rfl
  have hA : Hid (∀ m, BothAns a b m → bothN a b = 0 → m = bothL a b ∧ m.length ≤ 200) := fun m hm h0 => by
    unfold BothAns at hm
    rw [if_pos h0] at hm
    exact ⟨hm, by rw [hm]; exact Nat.le_trans (List.length_filter_le _ _) (bothN_zero.1 h0).1.1⟩
  generalize apartN a b = N at *
  generalize BothAns a b = BA at *
  generalize bothL a b = B at *
  generalize bothN a b = n at *
  clear ha hb fa fb na nb
  go_enter Tryz.func77, Tryz.ntmps77
  go_wp2_with fail
  refine (H _ Ha.out Hb.out).mono ?_
  rintro e w1 ⟨hb1, m, am, cm, rfl, hm, hBA⟩
  have hA2 := hA.out m hBA
  clear hm hBA hA H
  cases hn : (n == 0)
  · have h0 : ¬ n = 0 := by simpa using hn
    have f1 : Hid (N = n) := fin.out.trans (orN_neg h0)
    clear hA2 h0 fin
    go_wp2_with fail
    go_ret
    exact ⟨ret_val (by rw [f1.out]; rfl), hb1⟩
  · have h0 : n = 0 := by simpa using hn
    obtain ⟨rfl, h200⟩ := hA2 h0
    have f1 : Hid (N = if m.length = 0 then 0 else 7) := fin.out.trans (orN_pos h0)
    subst h0
    rw [show errV 0 = .nilIface from rfl]
    clear hA2 fin hn
    by_cases hz : m.length = 0
    · have hd : decide (0 < m.length) = false := decide_eq_false (by omega)
      have f2 : Hid (N = 0) := by have := f1.out; rw [if_pos hz] at this; exact this
      clear hz f1
      go_wp2_with fail
      go_ret
      exact ⟨ret_val (by rw [f2.out]; rfl), hb1⟩
    · have hd : decide (0 < m.length) = true := decide_eq_true (by omega)
      have f2 : Hid (N = 7) := by have := f1.out; rw [if_neg hz] at this; exact this
      clear hz f1
      go_wp2_with fail
      go_ret
      exact ⟨ret_val (by rw [f2.out]; rfl), hb1⟩


set_option maxHeartbeats 1000000 in
set_option maxRecDepth 100000 in
theorem LCheck_any (ad bd : Option Addr) (ca cb : Nat) (a b : List Tr) (w : World) (ha : SlT w ad a) (hb : SlT w bd b) (fa : ∀ x ∈ a, fitTr x) (fb : ∀ x ∈ b, fitTr x) (na : a.length ≤ 9223372036854775807) (nb : b.length ≤ 9223372036854775807) :
    Calls Tryz.prog 60 #[.agg #[.slice ad a.length ca, .slice bd b.length cb]] w fun e w' => e = .returned (errV (apartN a b)) ∧ RowKit.Below w.heap.size w w' := by
  have H := fun W h1 h2 => apart_any ad bd ca cb a b W h1 h2 fa fb na nb
  have Ha : Hid (SlT w ad a) := ha
  have Hb : Hid (SlT w bd b) := hb
  generalize apartN a b = N at *
  clear ha hb fa fb na nb
  go_enter Tryz.func60, Tryz.ntmps60
  go_wp2_with fail
  refine (H _ (Ha.out.below (balloc _ _)) (Hb.out.below (balloc _ _))).mono ?_
  rintro e w1 ⟨rfl, hb1⟩
  go_wp2_with fail
  go_ret
  exact ⟨rfl, bstep (balloc _ _) hb1⟩


end Go.Proofs.YtonmmnhikjfibadGreatDoor
