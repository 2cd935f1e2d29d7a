/- layer's calls where nothing is wrong: between two sets and three. -/
import Derived.Test.YtgdjeohcimkljadGreatDoorLayerThen2
namespace Go.Proofs.YtgdjeohcimkljadGreatDoor
open Go Go.RowKit Go.Proofs
set_option synthInstance.maxSize 1000

/-- a layer's answer that is right -/
def LOk (w : World) (m1 m2 : List Tr) (e : Ending) (w' : World) : Prop := RowKit.Below w.heap.size w w' ∧ ∃ (a1 : Option Addr) (c1 : Nat) (a2 : Option Addr) (c2 : Nat), e = .returned (.tuple #[.agg #[.slice a1 m1.length c1, .slice a2 m2.length c2], .nilIface]) ∧ SlT w' a1 m1 ∧ SlT w' a2 m2
/-- a list's answer that is right -/
def TOk (w : World) (m : List Tr) (e : Ending) (w' : World) : Prop := RowKit.Below w.heap.size w w' ∧ ∃ (a1 : Option Addr) (c1 : Nat), e = .returned (.tuple #[.slice a1 m.length c1, .nilIface]) ∧ SlT w' a1 m

theorem setLen {a : List Tr} (h : IsSet a) : a.length ≤ 9223372036854775807 := by have := h.1; omega

theorem ApplyGood_any (ad a1 a2 : Option Addr) (ca c1 c2 : Nat) (a b : List Tr) (w : World) (ha : SlT w ad a) (h1 : SlT w a1 (lessL b a)) (h2 : SlT w a2 (lessL a b)) (sa : IsSet a) (sb : IsSet b) :
    Calls Tryz.prog 27 #[.slice ad a.length ca, .agg #[.slice a1 (lessL b a).length c1, .slice a2 (lessL a b).length c2]] w (TOk w b) := by
  have h0 := apply_btw sa sb
  have s1 : IsSet (lessL b a) := lessSet sb
  have s2 : IsSet (lessL a b) := lessSet sa
  refine (LApply_any ad a1 a2 ca c1 c2 a (lessL b a) (lessL a b) w ha h1 h2 sa.fit s1.fit s2.fit (setLen sa) (setLen s1) (setLen s2)).mono ?_
  rintro e w' ⟨hb', m, am, cm, rfl, hm, hA⟩
  obtain rfl := apply_btw_ans sa sb hA
  exact ⟨hb', am, cm, by rw [h0]; rfl, hm⟩
theorem CheckGood_any (a1 a2 : Option Addr) (c1 c2 : Nat) (a b : List Tr) (w : World) (h1 : SlT w a1 (lessL b a)) (h2 : SlT w a2 (lessL a b)) (sa : IsSet a) (sb : IsSet b) :
    Calls Tryz.prog 48 #[.agg #[.slice a1 (lessL b a).length c1, .slice a2 (lessL a b).length c2]] w fun e w' => e = .returned .nilIface ∧ RowKit.Below w.heap.size w w' := by
  have s1 : IsSet (lessL b a) := lessSet sb
  have s2 : IsSet (lessL a b) := lessSet sa
  refine (LCheck_any a1 a2 c1 c2 (lessL b a) (lessL a b) w h1 h2 s1.fit s2.fit (setLen s1) (setLen s2)).mono ?_
  rintro e w' ⟨rfl, hb'⟩
  exact ⟨by rw [btw_check sa sb]; rfl, hb'⟩
theorem ThenGood_any (a1 a2 a3 a4 : Option Addr) (c1 c2 c3 c4 : Nat) (a b c : List Tr) (w : World) (h1 : SlT w a1 (lessL b a)) (h2 : SlT w a2 (lessL a b)) (h3 : SlT w a3 (lessL c b)) (h4 : SlT w a4 (lessL b c)) (sa : IsSet a) (sb : IsSet b) (sc : IsSet c) :
    Calls Tryz.prog 29 #[.agg #[.slice a1 (lessL b a).length c1, .slice a2 (lessL a b).length c2], .agg #[.slice a3 (lessL c b).length c3, .slice a4 (lessL b c).length c4]] w (LOk w (lessL c a) (lessL a c)) := by
  have h0 := then_btw sa sb sc
  have s1 : IsSet (lessL b a) := lessSet sb
  have s2 : IsSet (lessL a b) := lessSet sa
  have s3 : IsSet (lessL c b) := lessSet sc
  have s4 : IsSet (lessL b c) := lessSet sb
  refine (LThen_any a1 a2 a3 a4 c1 c2 c3 c4 (lessL b a) (lessL a b) (lessL c b) (lessL b c) w h1 h2 h3 h4 s1.fit s2.fit s3.fit s4.fit (setLen s1) (setLen s2) (setLen s3) (setLen s4)).mono ?_
  rintro e w' ⟨hb', m1, am, cm, m2, an, cn, rfl, g1, g2, hA⟩
  obtain ⟨rfl, rfl⟩ := then_btw_ans sa sb sc hA
  exact ⟨hb', am, cm, an, cn, by rw [h0]; rfl, g1, g2⟩
theorem SameGood_any (ad bd : Option Addr) (ca cb : Nat) (l : List Tr) (w : World) (hl : SlT w ad l) (hm : SlT w bd l) (sl : IsSet l) :
    Calls Tryz.prog 19 #[.slice ad l.length ca, .slice bd l.length cb] w fun e w' => e = .returned (.bool true) ∧ RowKit.Below w.heap.size w w' := by
  have := SameTriples_any ad bd ca cb l l w hl hm (by have := sl.1; omega) (by have := sl.1; omega)
  rw [show decide (l = l) = true by simp] at this
  exact this
theorem SameLGood_any (a1 a2 a3 a4 : Option Addr) (c1 c2 c3 c4 : Nat) (l m : List Tr) (w : World) (h1 : SlT w a1 l) (h2 : SlT w a2 m) (h3 : SlT w a3 l) (h4 : SlT w a4 m) (sl : IsSet l) (sm : IsSet m) :
    Calls Tryz.prog 17 #[.agg #[.slice a1 l.length c1, .slice a2 m.length c2], .agg #[.slice a3 l.length c3, .slice a4 m.length c4]] w fun e w' => e = .returned (.bool true) ∧ RowKit.Below w.heap.size w w' := by
  have := SameLayer_any a1 a2 a3 a4 c1 c2 c3 c4 l m l m w h1 h2 h3 h4 (by have := sl.1; omega) (by have := sm.1; omega) (by have := sl.1; omega) (by have := sm.1; omega)
  rw [show (decide (l = l) && decide (m = m)) = true by simp] at this
  exact this

/-- a layer in a box -/
def BoxL (W : World) (b : Nat) (v0 v1 : Value) : Prop := W.cell? ⟨b, 0, none⟩ = some v0 ∧ W.cell? ⟨b, 1, none⟩ = some v1
theorem BoxL.below {W W' : World} {b : Nat} {v0 v1 : Value} (h : BoxL W b v0 v1) (hb : RowKit.Below W.heap.size W W') : BoxL W' b v0 v1 :=
  ⟨(hb.cell (World.block_lt_of_cell? W _ h.1)).trans h.1, (hb.cell (World.block_lt_of_cell? W _ h.2)).trans h.2⟩
theorem BoxL.new (w : World) (v0 v1 : Value) (T : TypeId) : BoxL (w.alloc (.cells #[v0, v1] T)) w.heap.size v0 v1 := ⟨by go_simp, by go_simp⟩
end Go.Proofs.YtgdjeohcimkljadGreatDoor
