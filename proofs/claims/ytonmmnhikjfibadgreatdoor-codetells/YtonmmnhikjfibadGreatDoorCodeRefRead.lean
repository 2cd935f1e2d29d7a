/- The document's ReadTerm, ReadSet, ReadLayer. -/
import Derived.Test.YtonmmnhikjfibadGreatDoorCodeRefSet
import Derived.Test.YtonmmnhikjfibadGreatDoorCodeReadL
import Derived.Test.YtonmmnhikjfibadGreatDoorRefLayer
namespace Go.Proofs.YtonmmnhikjfibadGreatDoor
open Go Go.RowKit Go.Proofs
set_option synthInstance.maxSize 1000

theorem InAt.new (w : World) (b : List UInt8) (T : TypeId) : InAt (w.alloc (.cells #[.string ⟨b.toArray⟩, .int .i64 0, .int .i64 0] T)) w.heap.size b (0, b) := by
  refine ⟨0, Nat.zero_le _, rfl, ?_⟩
  unfold ICells
  refine ⟨?_, ?_, ?_, ?_, ?_⟩ <;> go_simp
theorem InAt.new1 (w : World) (b : List UInt8) (o : Obj) (T : TypeId) : InAt ((w.alloc o).alloc (.cells #[.string ⟨b.toArray⟩, .int .i64 0, .int .i64 0] T)) (w.heap.size + 1) b (0, b) := by
  have h := InAt.new (w.alloc o) b T
  rw [show (w.alloc o).heap.size = w.heap.size + 1 by simp] at h
  exact h

theorem ag_term (b : List UInt8) : rEnd (rTerm (0, b)).2 = readTermN b ∧ (readTermN b = 0 → (rTerm (0, b)).1 = readTermX b) := by
  obtain ⟨a, c⟩ := term_ag (Ag.refl (0, b))
  have h := whole_ag a 0 0 (fun _ => rfl)
  rw [if_neg (fun q => q.2 rfl)] at h
  refine ⟨h, fun e => ?_⟩
  have h0 : (termS (0, b)).2 = (0, []) := (wholeN_zero e).2
  rw [c (by rw [h0])]
  unfold readTermX
  rw [if_pos e]

set_option maxHeartbeats 4000000 in
set_option maxRecDepth 100000 in
theorem RReadTerm_any (b : List UInt8) (w : World) (hb : b.length ≤ 9223372036854775807) :
    Calls Tryz.prog 30 #[.string ⟨b.toArray⟩] w fun e w' => e = .returned (.tuple #[.agg #[.int .i64 (readTermX b).1, .string ⟨(readTermX b).2.1.toArray⟩, .string ⟨(readTermX b).2.2.toArray⟩], .int .i64 (readTermN b)]) ∧ RowKit.Below w.heap.size w w' := by
  have HT := fun W hW => ITerm_any (w.heap.size + 1) b (0, b) W hW hb
  have HE := fun W hW => Iend_any (w.heap.size + 1) b (rTerm (0, b)).2 W hW
  obtain ⟨e1, e2⟩ := ag_term b
  rw [e1] at HE
  have e2 : Hid _ := e2
  have e3 : Hid (¬ readTermN b = 0 → readTermX b = (0, [], [])) := fun h => if_neg h
  generalize readTermX b = X at *
  generalize readTermN b = N at *
  generalize rTerm (0, b) = R at *
  obtain ⟨x, s⟩ := R
  dsimp only at *
  clear e1
  go_enter Tryz.func30, Tryz.ntmps30
  go_wp2_with fail
  have hZ0 : Hid (ZB ((w.alloc (.cells #[.int .i64 0, .string ⟨#[]⟩, .string ⟨#[]⟩] 43)).alloc (.cells #[.string ⟨b.toArray⟩, .int .i64 0, .int .i64 0] 115)) w.heap.size) := (ZB.new w).below (balloc _ _)
  refine (HT _ (InAt.new1 w b _ _)).mono ?_
  rintro e W1 ⟨rfl, hi1, hk1⟩
  have hB1 : RowKit.Below w.heap.size w W1 := But.new1 (bstep (balloc _ _) (balloc _ _)) hk1
  have hZ1 := hZ0.out.but hk1 (by omega)
  have hb2 := balloc W1 (.cells #[.int .i64 x.1, .string ⟨x.2.1.toArray⟩, .string ⟨x.2.2.toArray⟩] 43)
  have hX2 := XB.new W1 x
  have hz1 : w.heap.size + 1 < W1.heap.size := hi1.lt
  have hi2 := hi1.below hb2
  have hB2 := bstep hB1 hb2
  have hZ2 := hZ1.below hb2
  clear hk1 hZ0 hZ1 hb2 hi1 hB1 HT
  go_wp2_with fail
  refine (HE _ hi2).mono ?_
  rintro e W3 ⟨rfl, hk3⟩
  have hB3 : Hid (RowKit.Below w.heap.size w W3) := But.new1 hB2 hk3
  obtain ⟨z0, z1, z2, f0, f1, f2⟩ := hZ2.but hk3 (by omega)
  obtain ⟨x0, x1, x2⟩ := hX2.but hk3 (by omega)
  have hne : w.heap.size ≠ W1.heap.size := by omega
  clear hk3 hZ2 hX2 hi2 hB2 HE
  by_cases hN : N = 0
  · have ex := e2.out hN
    subst ex hN
    clear e2 e3
    go_wp2_with fail
    exact bodyPost_ret (v := .tuple #[.agg #[.int .i64 x.1, .string ⟨x.2.1.toArray⟩, .string ⟨x.2.2.toArray⟩], .int .i64 0]) (by unfold results; rw [Tryz.results30]; go_simp) rfl ⟨rfl, bset (bset (bset hB3.out))⟩
  · have ex := e3.out hN
    subst ex
    have hN' : (N == 0) = false := by simpa using hN
    clear e2 e3
    go_wp2_with fail
    exact bodyPost_ret (v := .tuple #[.agg #[.int .i64 0, .string ⟨#[]⟩, .string ⟨#[]⟩], .int .i64 N]) (by unfold results; rw [Tryz.results30]; go_simp) rfl ⟨rfl, bset (bset (bset hB3.out))⟩

theorem rEnd_zero {s s' : St} (h : Ag s s') (e : rEnd s = 0) : s'.1 = 0 := by
  unfold rEnd at e
  by_cases hh : s.1 = 0 ∧ s.2 ≠ []
  · rw [if_pos hh] at e
    exact absurd e (by decide)
  · rw [if_neg hh, h.1] at e
    exact e
theorem ag_set (b : List UInt8) : (rEnd (rSet (0, b)).2 = 0 → (rSet (0, b)).1 = (setS (0, b)).1) ∧ (¬ rEnd (rSet (0, b)).2 = 0 → readSetN b = rEnd (rSet (0, b)).2) ∧ (rEnd (rSet (0, b)).2 = 0 → readSetN b = if sortedN (setS (0, b)).1 = 0 then 0 else 2) := by
  obtain ⟨a, c⟩ := set_ag (Ag.refl (0, b))
  have h := whole_ag a (sortedN (setS (0, b)).1) (sortedN (setS (0, b)).1) (fun _ => rfl)
  refine ⟨fun e => c (rEnd_zero a e), fun e => ?_, fun e => ?_⟩
  · rw [if_neg (fun q => e q.1)] at h
    exact h.symm
  · show wholeN _ _ = _
    rw [← h, e]
    by_cases hm : sortedN (setS (0, b)).1 = 0
    · rw [if_pos hm, if_neg (fun q => q.2 hm)]
    · rw [if_neg hm, if_pos ⟨rfl, hm⟩]

/-- what the document answers of bytes that are read as a list -/
def DSAns (N : Int) (l : List Tr) (w : World) (e : Ending) (w' : World) : Prop := RowKit.Below w.heap.size w w' ∧ ∃ ad c, e = .returned (.tuple #[.slice ad l.length c, .int .i64 N]) ∧ SlT w' ad l
theorem DSAns.mk {N : Int} {l : List Tr} {w w' : World} (hb : RowKit.Below w.heap.size w w') (ad : Option Addr) (c : Nat) (h : SlT w' ad l) : DSAns N l w (.returned (.tuple #[.slice ad l.length c, .int .i64 N])) w' := ⟨hb, ad, c, rfl, h⟩

set_option maxHeartbeats 4000000 in
set_option maxRecDepth 100000 in
theorem RReadSet_any (b : List UInt8) (w : World) (hb : b.length ≤ 9223372036854775807) :
    Calls Tryz.prog 32 #[.string ⟨b.toArray⟩] w (DSAns (readSetN b) (readSetL b) w) := by
  have HI := fun W hW => ISet_any w.heap.size b (0, b) W hW hb
  have HE := fun W hW => Iend_any w.heap.size b (rSet (0, b)).2 W hW
  have HS := fun W ad c hs => RSet_any ad c (setS (0, b)).1 W hs (fit_set _) (len_set _)
  obtain ⟨e1, e2, e3⟩ := ag_set b
  have e4 : readSetL b = if readSetN b = 0 then (setS (0, b)).1 else [] := rfl
  generalize readSetL b = X at *
  generalize readSetN b = N at *
  generalize sortedN (setS (0, b)).1 = M at *
  generalize rEnd (rSet (0, b)).2 = E at *
  generalize (setS (0, b)).1 = l at *
  generalize rSet (0, b) = R at *
  obtain ⟨l', s⟩ := R
  dsimp only at *
  have E1 : Hid _ := e1
  have E2 : Hid _ := e2
  have E3 : Hid _ := e3
  have E4 : Hid _ := e4
  clear e1 e2 e3 e4
  go_enter Tryz.func32, Tryz.ntmps32
  go_wp2_with fail
  refine (HI _ (InAt.new w b _)).mono ?_
  rintro e W1 ⟨ad, c, rfl, hf1, hi1, hk1⟩
  dsimp only at hf1 hi1
  have hf1 : Far w.heap.size W1 ad l' := Far.own hf1 (by simp)
  have hB1 : RowKit.Below w.heap.size w W1 := But.new (balloc _ _) hk1
  clear hk1 HI
  go_wp2_with fail
  refine (HE _ hi1).mono ?_
  rintro e W2 ⟨rfl, hk2⟩
  have hB2 : Hid (RowKit.Below w.heap.size w W2) := But.new hB1 hk2
  have hs2 : SlT W2 ad l' := hf1 W2 hk2
  clear hk2 hB1 HE hi1 hf1
  by_cases hE : E = 0
  · have el := E1.out hE
    have eN := E3.out hE
    subst el
    have Hs2 : Hid (SlT W2 ad l') := hs2
    clear hs2
    by_cases hM : M = 0
    · rw [if_pos hM] at eN
      have eX := E4.out
      rw [eN, if_pos rfl] at eX
      subst eN eX hM hE
      clear E1 E2 E3 E4
      go_wp2_with fail
      refine (HS _ ad c Hs2.out).mono ?_
      rintro e W3 ⟨rfl, hb3⟩
      go_wp2_with fail
      exact bodyPost_ret (v := .tuple #[.slice ad X.length c, .int .i64 0]) (by simp [results, Tryz.results32, go_sem]) rfl (DSAns.mk (bstep hB2.out hb3) ad c (Hs2.out.below hb3))
    · rw [if_neg hM] at eN
      have eX := E4.out
      rw [eN, if_neg (by decide)] at eX
      have hM' : (M == 0) = false := by simpa using hM
      subst eN eX hE
      clear E1 E2 E3 E4
      go_wp2_with fail
      refine (HS _ ad c Hs2.out).mono ?_
      rintro e W3 ⟨rfl, hb3⟩
      go_wp2_with fail
      exact bodyPost_ret (v := .tuple #[.slice none 0 0, .int .i64 2]) (by simp [results, Tryz.results32, go_sem]) rfl (DSAns.mk (l := []) (bstep hB2.out hb3) none 0 (fun h => absurd rfl h))
  · have eN := E2.out hE
    have eX := E4.out
    rw [eN, if_neg hE] at eX
    have hE' : (E == 0) = false := by simpa using hE
    subst eN eX
    clear E1 E2 E3 E4 hs2 HS
    go_wp2_with fail
    exact bodyPost_ret (v := .tuple #[.slice none 0 0, .int .i64 N]) (by simp [results, Tryz.results32, go_sem]) rfl (DSAns.mk (l := []) hB2.out none 0 (fun h => absurd rfl h))
end Go.Proofs.YtonmmnhikjfibadGreatDoor

/- The document's ReadLayer. -/
namespace Go.Proofs.YtonmmnhikjfibadGreatDoor
open Go Go.RowKit Go.Proofs
set_option synthInstance.maxSize 1000

theorem ag_lay (b : List UInt8) : (rEnd (rSet (rSet (0, b)).2).2 = 0 → (rSet (0, b)).1 = (setS (0, b)).1 ∧ (rSet (rSet (0, b)).2).1 = (setS (setS (0, b)).2).1) ∧ (¬ rEnd (rSet (rSet (0, b)).2).2 = 0 → readLayN b = rEnd (rSet (rSet (0, b)).2).2) ∧ (rEnd (rSet (rSet (0, b)).2).2 = 0 → readLayN b = if apartN (setS (0, b)).1 (setS (setS (0, b)).2).1 = 0 then 0 else 2) := by
  obtain ⟨a1, c1⟩ := set_ag (Ag.refl (0, b))
  obtain ⟨a, c⟩ := set_ag a1
  have h := whole_ag a (apartN (setS (0, b)).1 (setS (setS (0, b)).2).1) (apartN (setS (0, b)).1 (setS (setS (0, b)).2).1) (fun _ => rfl)
  refine ⟨fun e => ?_, fun e => ?_, fun e => ?_⟩
  · have q := rEnd_zero a e
    have q1 : (setS (0, b)).2.1 = 0 := Classical.byContradiction fun hh => by rw [setS_keep hh] at q; exact hh q
    exact ⟨c1 q1, c q⟩
  · rw [if_neg (fun q => e q.1)] at h
    exact h.symm
  · show wholeN _ _ = _
    rw [← h, e]
    by_cases hm : apartN (setS (0, b)).1 (setS (setS (0, b)).2).1 = 0
    · rw [if_pos hm, if_neg (fun q => q.2 hm)]
    · rw [if_neg hm, if_pos ⟨rfl, hm⟩]

/-- what the document answers of bytes that are read as a layer -/
def DLAns (N : Int) (l1 l2 : List Tr) (w : World) (e : Ending) (w' : World) : Prop := RowKit.Below w.heap.size w w' ∧ ∃ a1 k1 a2 k2, e = .returned (.tuple #[.agg #[.slice a1 l1.length k1, .slice a2 l2.length k2], .int .i64 N]) ∧ SlT w' a1 l1 ∧ SlT w' a2 l2
theorem DLAns.mk {N : Int} {l1 l2 : List Tr} {w w' : World} (hb : RowKit.Below w.heap.size w w') (a1 : Option Addr) (k1 : Nat) (a2 : Option Addr) (k2 : Nat) (h1 : SlT w' a1 l1) (h2 : SlT w' a2 l2) : DLAns N l1 l2 w (.returned (.tuple #[.agg #[.slice a1 l1.length k1, .slice a2 l2.length k2], .int .i64 N])) w' := ⟨hb, a1, k1, a2, k2, rfl, h1, h2⟩
/-- a box for a layer -/
def YB (W : World) (B : Nat) (v0 v1 : Value) : Prop := W.cell? ⟨B, 0, none⟩ = some v0 ∧ W.cell? ⟨B, 1, none⟩ = some v1 ∧ W.frozen? ⟨B, 0, none⟩ = false ∧ W.frozen? ⟨B, 1, none⟩ = false
theorem YB.far {W W' : World} {B : Nat} {v0 v1 : Value} (h : YB W B v0 v1) (hb : W'.heap[B]? = W.heap[B]?) : YB W' B v0 v1 := by
  have c : ∀ j, W'.cell? ⟨B, j, none⟩ = W.cell? ⟨B, j, none⟩ := fun j => World.cell?_of_block (w := W) (w' := W') (a := ⟨B, j, none⟩) hb
  have f : ∀ j, W'.frozen? ⟨B, j, none⟩ = W.frozen? ⟨B, j, none⟩ := fun j => World.frozen?_of_block (w := W) (w' := W') (a := ⟨B, j, none⟩) hb
  unfold YB at h ⊢
  simp only [c, f]
  exact h
theorem YB.lt {W : World} {B : Nat} {v0 v1 : Value} (h : YB W B v0 v1) : B < W.heap.size := World.block_lt_of_cell? W _ h.1
theorem YB.but {W W' : World} {g B : Nat} {v0 v1 : Value} (h : YB W B v0 v1) (k : But g W W') (hg : B ≠ g) : YB W' B v0 v1 := h.far (k.block B h.lt (fun e => hg (by injection e)))
theorem YB.below {W W' : World} {B : Nat} {v0 v1 : Value} (h : YB W B v0 v1) (hb : RowKit.Below W.heap.size W W') : YB W' B v0 v1 := h.far (hb.block B h.lt)
theorem YB.set {W : World} {B C o : Nat} {v0 v1 u : Value} (h : YB W B v0 v1) (hC : C ≠ B) : YB (W.setCell ⟨C, o, none⟩ u) B v0 v1 := h.far (RowKit.Below.heap_setCell W ⟨C, o, none⟩ u B (fun e => hC e.symm))
theorem YB.put0 {W : World} {B : Nat} {v0 v1 : Value} (h : YB W B v0 v1) (a : Option Addr) (n k : Nat) : YB (W.setCell ⟨B, 0, none⟩ (.slice a n k)) B (.slice a n k) v1 := by
  obtain ⟨c0, c1, f0, f1⟩ := h
  refine ⟨?_, ?_, ?_, ?_⟩ <;> go_simp
theorem YB.put1 {W : World} {B : Nat} {v0 v1 : Value} (h : YB W B v0 v1) (a : Option Addr) (n k : Nat) : YB (W.setCell ⟨B, 1, none⟩ (.slice a n k)) B v0 (.slice a n k) := by
  obtain ⟨c0, c1, f0, f1⟩ := h
  refine ⟨?_, ?_, ?_, ?_⟩ <;> go_simp
theorem own_putC {W : World} {B C o : Nat} {v : Value} {l : List Tr} {u : Value} (h : W.ownsRow B 88 9 v l.length (cellsT l)) (hC : C < B) : (W.setCell ⟨C, o, none⟩ u).ownsRow B 88 9 v l.length (cellsT l) := ownsRow_setCell_below h (a := ⟨C, o, none⟩) hC u
theorem own_sl {W : World} {B : Nat} {ad : Option Addr} {c : Nat} {t : List Tr} (h : W.ownsRow B 88 9 (.slice ad t.length c) t.length (cellsT t)) : SlT W ad t := by
  obtain ⟨ad', c', e, hs⟩ := own_slT h
  injection e with e1 _ _
  rw [e1]
  exact hs
theorem belowFar {B C o : Nat} {a W : World} {u : Value} (h : RowKit.Below B a W) (hC : B ≤ C) : RowKit.Below B a (W.setCell ⟨C, o, none⟩ u) := h.setCell (p := ⟨C, o, none⟩) hC u

set_option maxHeartbeats 8000000 in
set_option maxRecDepth 100000 in
theorem RReadLayer_any (b : List UInt8) (w : World) (hb : b.length ≤ 9223372036854775807) :
    Calls Tryz.prog 34 #[.string ⟨b.toArray⟩] w (DLAns (readLayN b) (readLayA b) (readLayD b) w) := by
  have H1 := fun W hW => ISet_any (w.heap.size + 1) b (0, b) W hW hb
  have H2 := fun W hW => ISet_any (w.heap.size + 1) b (rSet (0, b)).2 W hW hb
  have HE := fun W hW => Iend_any (w.heap.size + 1) b (rSet (rSet (0, b)).2).2 W hW
  have HL := fun W a1 k1 a2 k2 q1 q2 => RLayer_any a1 a2 k1 k2 (setS (0, b)).1 (setS (setS (0, b)).2).1 W q1 q2 (fit_set _) (fit_set _) (len_set _) (len_set _)
  obtain ⟨e1, e2, e3⟩ := ag_lay b
  have e4 : readLayA b = if readLayN b = 0 then (setS (0, b)).1 else [] := rfl
  have e5 : readLayD b = if readLayN b = 0 then (setS (setS (0, b)).2).1 else [] := rfl
  generalize readLayA b = A at *
  generalize readLayD b = D at *
  generalize readLayN b = N at *
  generalize apartN (setS (0, b)).1 (setS (setS (0, b)).2).1 = M at *
  generalize rEnd (rSet (rSet (0, b)).2).2 = E at *
  generalize (setS (setS (0, b)).2).1 = m2 at *
  generalize (setS (0, b)).1 = m1 at *
  generalize rSet (rSet (0, b)).2 = R2 at *
  generalize rSet (0, b) = R1 at *
  obtain ⟨l1, s1⟩ := R1
  obtain ⟨l2, s2⟩ := R2
  dsimp only at *
  have E1 : Hid _ := e1
  have E2 : Hid _ := e2
  have E3 : Hid _ := e3
  have E4 : Hid _ := e4
  have E5 : Hid _ := e5
  clear e1 e2 e3 e4 e5
  go_enter Tryz.func34, Tryz.ntmps34
  go_wp2_with fail
  obtain ⟨B0, hB0⟩ : ∃ B0, B0 = ((w.alloc (.cells #[.slice none 0 0, .slice none 0 0] 31)).alloc (.cells #[.string ⟨b.toArray⟩, .int .i64 0, .int .i64 0] 115)).alloc (.cells #[.slice none 0 0, .slice none 0 0] 31) := ⟨_, rfl⟩
  have hz0 : B0.heap.size = w.heap.size + 3 := by rw [hB0]; simp
  have hw0 : RowKit.Below w.heap.size w B0 := by rw [hB0]; exact bstep (bstep (balloc _ _) (balloc _ _)) (balloc _ _)
  have hi0 : InAt B0 (w.heap.size + 1) b (0, b) := by rw [hB0]; exact (InAt.new1 w b _ _).below (balloc _ _)
  have hR0 : YB B0 w.heap.size (.slice none 0 0) (.slice none 0 0) := by
    rw [hB0]
    exact YB.below (W := w.alloc (.cells #[.slice none 0 0, .slice none 0 0] 31)) (ZL.new w) (bstep (balloc _ _) (balloc _ _))
  have hY0 : YB B0 (w.heap.size + 2) (.slice none 0 0) (.slice none 0 0) := by
    rw [hB0]
    have := ZL.new ((w.alloc (.cells #[.slice none 0 0, .slice none 0 0] 31)).alloc (.cells #[.string ⟨b.toArray⟩, .int .i64 0, .int .i64 0] 115))
    rw [show ((w.alloc (.cells #[.slice none 0 0, .slice none 0 0] 31)).alloc (.cells #[.string ⟨b.toArray⟩, .int .i64 0, .int .i64 0] 115)).heap.size = w.heap.size + 2 by simp] at this
    exact this
  rw [← hB0]
  clear hB0
  refine (H1 _ hi0).mono ?_
  rintro e W1 ⟨a1, k1, rfl, ho1, hi1, hk1⟩
  dsimp only at ho1 hi1
  have hB1 : RowKit.Below w.heap.size w W1 := But.new1 hw0 hk1
  have hR1 := hR0.but hk1 (by omega)
  have hY1 := hY0.but hk1 (by omega)
  have ho1 : Hid ((W1.setCell ⟨w.heap.size + 2, 0, none⟩ (.slice a1 l1.length k1)).ownsRow B0.heap.size 88 9 (.slice a1 l1.length k1) l1.length (cellsT l1)) := own_putC ho1 (by omega)
  have hi1' : InAt (W1.setCell ⟨w.heap.size + 2, 0, none⟩ (.slice a1 l1.length k1)) (w.heap.size + 1) b s1 := hi1.set (by omega)
  have hB1' : Hid (RowKit.Below w.heap.size w (W1.setCell ⟨w.heap.size + 2, 0, none⟩ (.slice a1 l1.length k1))) := belowFar hB1 (by omega)
  have hR1' : Hid (YB (W1.setCell ⟨w.heap.size + 2, 0, none⟩ (.slice a1 l1.length k1)) w.heap.size (.slice none 0 0) (.slice none 0 0)) := hR1.set (by omega)
  have hY1' : Hid (YB (W1.setCell ⟨w.heap.size + 2, 0, none⟩ (.slice a1 l1.length k1)) (w.heap.size + 2) (.slice a1 l1.length k1) (.slice none 0 0)) := hY1.put0 _ _ _
  have hsz1 : B0.heap.size ≤ W1.heap.size := hk1.size
  obtain ⟨y0, y1, g0, g1⟩ := hY1
  clear hk1 hR0 hY0 hi0 hw0 H1 hB1 hR1 hi1
  go_wp2_with fail
  generalize hV1 : W1.setCell ⟨w.heap.size + 2, 0, none⟩ (.slice a1 l1.length k1) = V1 at *
  have hsz2 : B0.heap.size ≤ V1.heap.size := by rw [← hV1]; simpa using hsz1
  clear y0 y1 g0 g1 hV1 hsz1
  refine (H2 _ hi1').mono ?_
  rintro e W2 ⟨a2, k2, rfl, ho2, hi2, hk2⟩
  dsimp only at ho2 hi2
  have hB2 : RowKit.Below w.heap.size w W2 := But.new1 hB1'.out hk2
  have hR2 := hR1'.out.but hk2 (by omega)
  have hY2 := hY1'.out.but hk2 (by omega)
  have ho1 := own_but ho1.out hk2 (by omega)
  have hs1 : Hid (SlT (W2.setCell ⟨w.heap.size + 2, 1, none⟩ (.slice a2 l2.length k2)) a1 l1) := own_sl (own_putC ho1 (by omega))
  have hs2 : Hid (SlT (W2.setCell ⟨w.heap.size + 2, 1, none⟩ (.slice a2 l2.length k2)) a2 l2) := own_sl (own_putC ho2 (by omega))
  have hi2' : InAt (W2.setCell ⟨w.heap.size + 2, 1, none⟩ (.slice a2 l2.length k2)) (w.heap.size + 1) b s2 := hi2.set (by omega)
  have hB2' : Hid (RowKit.Below w.heap.size w (W2.setCell ⟨w.heap.size + 2, 1, none⟩ (.slice a2 l2.length k2))) := belowFar hB2 (by omega)
  have hR2' : Hid (YB (W2.setCell ⟨w.heap.size + 2, 1, none⟩ (.slice a2 l2.length k2)) w.heap.size (.slice none 0 0) (.slice none 0 0)) := hR2.set (by omega)
  have hY2' : Hid (YB (W2.setCell ⟨w.heap.size + 2, 1, none⟩ (.slice a2 l2.length k2)) (w.heap.size + 2) (.slice a1 l1.length k1) (.slice a2 l2.length k2)) := hY2.put1 _ _ _
  have far2 : Hid (∀ W3, But (w.heap.size + 1) (W2.setCell ⟨w.heap.size + 2, 1, none⟩ (.slice a2 l2.length k2)) W3 → SlT W3 a1 l1 ∧ SlT W3 a2 l2) := fun W3 k3 => ⟨own_sl (own_but (own_putC ho1 (by omega)) k3 (by omega)), own_sl (own_but (own_putC ho2 (by omega)) k3 (by omega))⟩
  obtain ⟨y0, y1, g0, g1⟩ := hY2
  clear hk2 hB2 hR2 ho1 ho2 hi2 H2 hi1' hB1' hR1' hY1'
  go_wp2_with fail
  generalize W2.setCell ⟨w.heap.size + 2, 1, none⟩ (.slice a2 l2.length k2) = V2 at *
  clear y0 y1 g0 g1 hs1 hs2
  refine (HE _ hi2').mono ?_
  rintro e W3 ⟨rfl, hk3⟩
  have hB3 : Hid (RowKit.Below w.heap.size w W3) := But.new1 hB2'.out hk3
  have hR3 : Hid (YB W3 w.heap.size (.slice none 0 0) (.slice none 0 0)) := hR2'.out.but hk3 (by omega)
  have hY3 : Hid (YB W3 (w.heap.size + 2) (.slice a1 l1.length k1) (.slice a2 l2.length k2)) := hY2'.out.but hk3 (by omega)
  obtain ⟨hs1, hs2⟩ := far2.out W3 hk3
  clear hk3 hB2' hR2' hY2' far2 HE hi2'
  obtain ⟨y0, y1, g0, g1⟩ := id hY3.out
  obtain ⟨r0, r1, p0, p1⟩ := id hR3.out
  have hz3 : w.heap.size + 2 < W3.heap.size := hY3.out.lt
  by_cases hE : E = 0
  · obtain ⟨el1, el2⟩ := E1.out hE
    have eN := E3.out hE
    subst el1 el2
    have Hs : Hid (SlT W3 a1 l1 ∧ SlT W3 a2 l2) := ⟨hs1, hs2⟩
    clear hs1 hs2
    by_cases hM : M = 0
    · rw [if_pos hM] at eN
      have eA := E4.out
      have eD := E5.out
      rw [eN, if_pos rfl] at eA eD
      subst eN eA eD hM hE
      clear E1 E2 E3 E4 E5
      go_wp2_with fail
      refine (HL _ a1 k1 a2 k2 Hs.out.1 Hs.out.2).mono ?_
      rintro e W4 ⟨rfl, hb4⟩
      have hB4 : Hid (RowKit.Below w.heap.size w W4) := bstep hB3.out hb4
      have hS4 : Hid (SlT W4 a1 A ∧ SlT W4 a2 D) := ⟨Hs.out.1.below hb4, Hs.out.2.below hb4⟩
      clear y0 y1 g0 g1 r0 r1 p0 p1
      obtain ⟨y0, y1, g0, g1⟩ := hY3.out.below hb4
      obtain ⟨r0, r1, p0, p1⟩ := hR3.out.below hb4
      go_wp2_with fail
      exact bodyPost_ret (v := .tuple #[.agg #[.slice a1 A.length k1, .slice a2 D.length k2], .int .i64 0]) (by unfold results; rw [Tryz.results34]; go_simp) rfl (DLAns.mk (bset (bset hB4.out)) a1 k1 a2 k2 (hS4.out.1.put2 r0 r1 _ _) (hS4.out.2.put2 r0 r1 _ _))
    · rw [if_neg hM] at eN
      have eA := E4.out
      have eD := E5.out
      rw [eN, if_neg (by decide)] at eA eD
      have hM' : (M == 0) = false := by simpa using hM
      subst eN eA eD hE
      clear E1 E2 E3 E4 E5
      go_wp2_with fail
      refine (HL _ a1 k1 a2 k2 Hs.out.1 Hs.out.2).mono ?_
      rintro e W4 ⟨rfl, hb4⟩
      have hB4 : Hid (RowKit.Below w.heap.size w W4) := bstep hB3.out hb4
      clear y0 y1 g0 g1 r0 r1 p0 p1
      obtain ⟨y0, y1, g0, g1⟩ := hY3.out.below hb4
      obtain ⟨r0, r1, p0, p1⟩ := hR3.out.below hb4
      go_wp2_with fail
      exact bodyPost_ret (v := .tuple #[.agg #[.slice none 0 0, .slice none 0 0], .int .i64 2]) (by unfold results; rw [Tryz.results34]; go_simp) rfl (DLAns.mk (l1 := []) (l2 := []) (bset (bset hB4.out)) none 0 none 0 (fun h => absurd rfl h) (fun h => absurd rfl h))
  · have eN := E2.out hE
    have eA := E4.out
    have eD := E5.out
    rw [eN, if_neg hE] at eA eD
    have hE' : (E == 0) = false := by simpa using hE
    subst eN eA eD
    clear E1 E2 E3 E4 E5 HL hs1 hs2
    go_wp2_with fail
    exact bodyPost_ret (v := .tuple #[.agg #[.slice none 0 0, .slice none 0 0], .int .i64 N]) (by unfold results; rw [Tryz.results34]; go_simp) rfl (DLAns.mk (l1 := []) (l2 := []) (bset (bset hB3.out)) none 0 none 0 (fun h => absurd rfl h) (fun h => absurd rfl h))
end Go.Proofs.YtonmmnhikjfibadGreatDoor
