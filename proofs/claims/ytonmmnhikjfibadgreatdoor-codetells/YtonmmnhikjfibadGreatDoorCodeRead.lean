/- code.ReadSet. -/
import Derived.Test.YtonmmnhikjfibadGreatDoorCodeRSet
import Derived.Test.YtonmmnhikjfibadGreatDoorTripleSort
namespace Go.Proofs.YtonmmnhikjfibadGreatDoor
open Go Go.RowKit Go.Proofs
set_option synthInstance.maxSize 1000

attribute [local go_sem] eql_errV neq_errV guard_errV

theorem fit_term (s : St) : (termS s).1.2.1.length ≤ maxLen ∧ (termS s).1.2.2.length ≤ maxLen := by
  have h1 := takeS_len (numL (takeS 1 (langS s).2).1) (takeS 1 (langS s).2).2
  have h2 := numL_small (n := 1) (s := (langS s).2) (Nat.le_refl _)
  have h3 := takeS_len (kindL (kindS s).1) (kindS s).2
  have h4 := kindL_small (kindS s).1
  have e1 : (termS s).1.2.1 = (takeS (numL (takeS 1 (langS s).2).1) (takeS 1 (langS s).2).2).1 := rfl
  have e2 : (termS s).1.2.2 = (takeS (kindL (kindS s).1) (kindS s).2).1 := rfl
  rw [e1, e2]
  unfold maxLen
  omega
theorem fit_loop (n : Nat) (s : St) : ∀ x ∈ (loopS n s).1, fitTr x := by
  induction n generalizing s with
  | zero => simp [loopS]
  | succ n ih =>
    by_cases h0 : s.1 = 0
    · rw [loopS_step h0]
      intro x hx
      rcases List.mem_cons.1 hx with rfl | hx
      · exact ⟨fit_term _, fit_term _, fit_term _⟩
      · exact ih _ x hx
    · rw [loopS_keep h0]
      simp
theorem len_loop (n : Nat) (s : St) : (loopS n s).1.length ≤ n := by
  induction n generalizing s with
  | zero => simp [loopS]
  | succ n ih =>
    by_cases h0 : s.1 = 0
    · rw [loopS_step h0]
      have := ih (tripS s).2
      simp
      omega
    · rw [loopS_keep h0]
      simp
theorem numL_two_small (s : St) : numL (takeS 2 s).1 < 65536 := by
  have hl := takeS_len 2 s
  match (takeS 2 s).1, hl with
  | [], _ => decide
  | [c], _ =>
    have := c.toNat_lt
    rw [numL_one]
    omega
  | [c, d], _ =>
    have := c.toNat_lt
    have := d.toNat_lt
    rw [numL_two]
    omega
theorem fit_set (s : St) : ∀ x ∈ (setS s).1, fitTr x := fit_loop _ _
theorem len_set (s : St) : (setS s).1.length ≤ 9223372036854775807 := by
  have h1 := len_loop (sizeS s).1 (sizeS s).2
  have h2 := numL_two_small s
  have e : (sizeS s).1 = numL (takeS 2 s).1 := rfl
  show (loopS _ _).1.length ≤ _
  omega

/-- a list that is read, and what is wrong with it -/
def RS1 (g : Nat) (w : World) (l : List Tr) (M : Int) (s : St) (e : Ending) (w' : World) : Prop := ∃ ad c, e = .returned (.tuple #[.slice ad l.length c, errV M]) ∧ SlT w' ad l ∧ RdAt w' g s ∧ But g w w'
set_option maxHeartbeats 2000000 in
set_option maxRecDepth 100000 in
theorem readSet1_any (g : Nat) (s : St) (w : World) (h : RdAt w g s) :
    Calls Tryz.prog 68 #[.pointer (some ⟨g, 0, none⟩)] w (RS1 g w (setS s).1 (sortedN (setS s).1) (setS s).2) := by
  have H := rset_any g s w h
  have HS := fun W ad c hs => Sorted_any ad c (setS s).1 W hs (fit_set s) (len_set s)
  generalize setS s = R at *
  obtain ⟨l, s'⟩ := R
  dsimp only at *
  generalize sortedN l = M at *
  go_enter Tryz.func68, Tryz.ntmps68
  go_wp2_with fail
  refine H.mono ?_
  rintro e w1 ⟨ad, c, rfl, hf1, hr1, hk1⟩
  dsimp only at hf1 hr1
  have hs1 := hf1.sl
  go_wp2_with fail
  refine (HS _ ad c hs1).mono ?_
  rintro e w2 ⟨rfl, hb2⟩
  go_wp2_with fail
  exact bodyPost_ret (v := .tuple #[.slice ad l.length c, errV M]) (by simp [results, Tryz.results68, go_sem]) rfl ⟨ad, c, rfl, hs1.below hb2, hr1.below hb2, hk1.trans (But.of hb2)⟩

def readSetN (b : List UInt8) : Int := wholeN (sortedN (setS (0, b)).1) (setS (0, b)).2
def readSetL (b : List UInt8) : List Tr := if readSetN b = 0 then (setS (0, b)).1 else []
/-- what is answered of bytes that are read as a list -/
def RSAns (N : Int) (l : List Tr) (w : World) (e : Ending) (w' : World) : Prop := RowKit.Below w.heap.size w w' ∧ ∃ ad c, e = .returned (.tuple #[.slice ad l.length c, errV N]) ∧ SlT w' ad l
theorem RSAns.mk {N : Int} {l : List Tr} {w w' : World} (hb : RowKit.Below w.heap.size w w') (ad : Option Addr) (c : Nat) (h : SlT w' ad l) : RSAns N l w (.returned (.tuple #[.slice ad l.length c, errV N])) w' := ⟨hb, ad, c, rfl, h⟩

theorem errV_ne {n : Int} (h : n ≠ 0) : errV n = .iface 89 (.int .i64 n) := if_neg h
theorem wholeN_all {s : St} (h : s.2 = []) : wholeN 0 s = s.1 := if_pos ⟨rfl, h⟩
theorem wholeN_bad {M : Int} {s : St} (h : ¬ (M = 0 ∧ s.2 = [])) : wholeN M s = (endS 2 s).1 := if_neg h
theorem entersRS : ∀ args w, (callFunc 68 args).run Tryz.prog w = .ok (.enter 68 args) w := enters_of Tryz.func68 (by kernel_rfl) rfl
theorem RdAt.new (w : World) (b : List UInt8) (T : TypeId) : RdAt (w.alloc (.cells #[.int .i64 0, .string ⟨b.toArray⟩] T)) w.heap.size (0, b) := by
  unfold RdAt
  refine ⟨?_, ?_, ?_, ?_⟩ <;> go_simp
theorem But.new {w W w' : World} (h : RowKit.Below w.heap.size w W) (k : But w.heap.size W w') : RowKit.Below w.heap.size w w' := But.below h k h.size (Nat.le_refl _)

set_option maxHeartbeats 4000000 in
set_option maxRecDepth 100000 in
theorem wholeSet_any (b : List UInt8) (w : World) :
    Calls Tryz.prog 67 #[.string ⟨b.toArray⟩, .func (.func 68) #[] #[]] w (RSAns (readSetN b) (readSetL b) w) := by
  have H := fun W hW => readSet1_any w.heap.size (0, b) W hW
  have e1 : readSetN b = wholeN (sortedN (setS (0, b)).1) (setS (0, b)).2 := rfl
  have e2 : readSetL b = if readSetN b = 0 then (setS (0, b)).1 else [] := rfl
  generalize readSetL b = L at *
  generalize readSetN b = N at *
  generalize sortedN (setS (0, b)).1 = M at *
  generalize setS (0, b) = R at *
  obtain ⟨l, s⟩ := R
  dsimp only at *
  have E1 : Hid _ := e1
  have E2 : Hid _ := e2
  have eg := entersRS
  clear e1 e2
  go_enter Tryz.func67, Tryz.ntmps67
  go_wp2_with fail
  refine (H _ (RdAt.new w b _)).mono ?_
  rintro e w1 ⟨ad, c, rfl, hs1, hr1, hk1⟩
  have hB1 : Hid (RowKit.Below w.heap.size w w1) := But.new (balloc _ _) hk1
  have hs1 : Hid (SlT w1 ad l) := hs1
  have hr1 : Hid (RdAt w1 w.heap.size s) := hr1
  clear H eg hk1
  by_cases hM : M = 0
  · subst hM
    obtain ⟨c0, c1, _, _⟩ := hr1.out
    by_cases hz : s.2 = []
    · rw [hz] at c1
      have eN : N = s.1 := E1.out.trans (wholeN_all hz)
      by_cases h0 : s.1 = 0
      · have eL : L = l := by rw [E2.out, if_pos (by rw [eN]; exact h0)]
        rw [h0] at c0 eN
        subst eN eL
        clear E1 E2
        go_wp2_with fail
        exact bodyPost_ret (v := .tuple #[.slice ad L.length c, .nilIface]) (by simp [results, Tryz.results67, go_sem]) rfl (RSAns.mk (N := 0) hB1.out ad c hs1.out)
      · have hne : s.1 ≠ 0 := h0
        have hne' : (s.1 == 0) = false := by simpa using hne
        have eL : L = [] := by rw [E2.out, if_neg (by rw [eN]; exact h0)]
        subst eN eL
        clear E1 E2
        go_wp2_with fail
        go_region
        go_wp2_with fail
        exact bodyPost_ret (v := .tuple #[.slice none 0 0, .iface 89 (.int .i64 s.1)]) (by simp [results, Tryz.results67, go_sem]) rfl (by rw [← errV_ne hne]; exact RSAns.mk (l := []) (hB1.out).drew none 0 (fun h => absurd rfl h))
    · obtain ⟨q, r, hqr⟩ : ∃ q r, s.2 = q :: r := by
        cases hh : s.2 with
        | nil => exact absurd hh hz
        | cons q r => exact ⟨q, r, rfl⟩
      rw [hqr] at c1
      have hcase : ¬ ((0 : Int) = 0 ∧ s.2 = []) := fun h => hz h.2
      have hne : (endS 2 s).1 ≠ 0 := endS_zero (by decide)
      have eN : N = (endS 2 s).1 := E1.out.trans (wholeN_bad hcase)
      have eL : L = [] := by rw [E2.out, if_neg (by rw [eN]; exact hne)]
      subst eN eL
      clear E1 E2 hcase
      go_wp2_with fail
      refine (end_any w.heap.size s 2 w1 hr1.out).mono ?_
      rintro e w2 ⟨rfl, hr2, hk2⟩
      have hB2 : Hid (RowKit.Below w.heap.size w w2) := But.new hB1.out hk2
      obtain ⟨c0, _, _, _⟩ := hr2
      have hne' : ((endS 2 s).1 == 0) = false := by simpa using hne
      generalize (endS 2 s).1 = E at *
      go_wp2_with fail
      go_region
      go_wp2_with fail
      exact bodyPost_ret (v := .tuple #[.slice none 0 0, .iface 89 (.int .i64 E)]) (by simp [results, Tryz.results67, go_sem]) rfl (by rw [← errV_ne hne]; exact RSAns.mk (l := []) (hB2.out).drew none 0 (fun h => absurd rfl h))
  · have hM' : (M == 0) = false := by simpa using hM
    have hcase : ¬ (M = 0 ∧ s.2 = []) := fun h => hM h.1
    obtain ⟨c0, c1, _, _⟩ := hr1.out
    have hne : (endS 2 s).1 ≠ 0 := endS_zero (by decide)
    have eN : N = (endS 2 s).1 := E1.out.trans (wholeN_bad hcase)
    have eL : L = [] := by rw [E2.out, if_neg (by rw [eN]; exact hne)]
    subst eN eL
    clear E1 E2 hcase
    go_wp2_with fail
    refine (end_any w.heap.size s 2 w1 hr1.out).mono ?_
    rintro e w2 ⟨rfl, hr2, hk2⟩
    have hB2 : Hid (RowKit.Below w.heap.size w w2) := But.new hB1.out hk2
    obtain ⟨c0, _, _, _⟩ := hr2
    have hne' : ((endS 2 s).1 == 0) = false := by simpa using hne
    generalize (endS 2 s).1 = E at *
    go_wp2_with fail
    go_region
    go_wp2_with fail
    exact bodyPost_ret (v := .tuple #[.slice none 0 0, .iface 89 (.int .i64 E)]) (by simp [results, Tryz.results67, go_sem]) rfl (by rw [← errV_ne hne]; exact RSAns.mk (l := []) (hB2.out).drew none 0 (fun h => absurd rfl h))

set_option maxHeartbeats 1000000 in
theorem ReadSet_any (b : List UInt8) (w : World) :
    Calls Tryz.prog 33 #[.string ⟨b.toArray⟩] w (RSAns (readSetN b) (readSetL b) w) := by
  have H := wholeSet_any b w
  generalize readSetN b = N at *
  generalize readSetL b = L at *
  go_enter Tryz.func33, Tryz.ntmps33
  go_wp2_with fail
  refine H.mono ?_
  rintro e w1 ⟨hb, ad, c, rfl, hs⟩
  go_wp2_with fail
  exact bodyPost_ret (v := .tuple #[.slice ad L.length c, errV N]) (by simp [results, Tryz.results33, go_sem]) rfl (RSAns.mk hb ad c hs)
end Go.Proofs.YtonmmnhikjfibadGreatDoor

/- code.ReadTerm. -/
namespace Go.Proofs.YtonmmnhikjfibadGreatDoor
open Go Go.RowKit Go.Proofs
set_option synthInstance.maxSize 1000

attribute [local go_sem] eql_errV neq_errV guard_errV

set_option maxHeartbeats 2000000 in
set_option maxRecDepth 100000 in
theorem readTerm1_any (g : Nat) (s : St) (w : World) (h : RdAt w g s) :
    Calls Tryz.prog 64 #[.pointer (some ⟨g, 0, none⟩)] w fun e w' => e = .returned (.tuple #[.agg #[.int .i64 (termS s).1.1, .string ⟨(termS s).1.2.1.toArray⟩, .string ⟨(termS s).1.2.2.toArray⟩], .nilIface]) ∧ RdAt w' g (termS s).2 ∧ But g w w' := by
  have H := fun W hW => rterm_any g s W hW
  have Hr : Hid (RdAt w g s) := h
  have hg0 : g < w.heap.size := h.lt
  generalize (termS s).2 = s' at *
  generalize (termS s).1 = x at *
  clear h
  go_enter Tryz.func64, Tryz.ntmps64
  go_wp2_with fail
  have hZ0 : Hid (ZB (w.alloc (.cells #[.int .i64 0, .string ⟨#[]⟩, .string ⟨#[]⟩] 43)) w.heap.size) := ZB.new _
  refine (H _ (Hr.out.below (balloc _ _))).mono ?_
  rintro e w1 ⟨rfl, hr1, hk1⟩
  have hB1 : Hid (But g w w1) := (But.of (balloc _ _)).trans hk1
  obtain ⟨z0, z1, z2, f0, f1, f2⟩ := hZ0.out.but hk1 (by omega)
  go_wp2_with fail
  exact bodyPost_ret (v := .tuple #[.agg #[.int .i64 x.1, .string ⟨x.2.1.toArray⟩, .string ⟨x.2.2.toArray⟩], .nilIface]) (by unfold results; rw [Tryz.results64]; go_simp) rfl ⟨rfl, ((hr1.far (by omega)).far (by omega)).far (by omega), But.fresh (But.fresh (But.fresh hB1.out (Nat.le_refl _)) (Nat.le_refl _)) (Nat.le_refl _)⟩

def readTermN (b : List UInt8) : Int := wholeN 0 (termS (0, b)).2
def readTermX (b : List UInt8) : Tm := if readTermN b = 0 then (termS (0, b)).1 else (0, [], [])
/-- what is answered of bytes that are read as a term -/
def RTAns (N : Int) (x : Tm) (w : World) (e : Ending) (w' : World) : Prop := RowKit.Below w.heap.size w w' ∧ e = .returned (.tuple #[.agg #[.int .i64 x.1, .string ⟨x.2.1.toArray⟩, .string ⟨x.2.2.toArray⟩], errV N])
theorem RTAns.mk {N : Int} {x : Tm} {w w' : World} (hb : RowKit.Below w.heap.size w w') : RTAns N x w (.returned (.tuple #[.agg #[.int .i64 x.1, .string ⟨x.2.1.toArray⟩, .string ⟨x.2.2.toArray⟩], errV N])) w' := ⟨hb, rfl⟩
theorem bset {w W : World} {o : Nat} {u : Value} (h : RowKit.Below w.heap.size w W) : RowKit.Below w.heap.size w (W.setCell ⟨w.heap.size, o, none⟩ u) := h.setCell (p := ⟨w.heap.size, o, none⟩) (Nat.le_refl _) u
theorem entersRT : ∀ args w, (callFunc 64 args).run Tryz.prog w = .ok (.enter 64 args) w := enters_of Tryz.func64 (by kernel_rfl) rfl
theorem RdAt.new1 (w : World) (b : List UInt8) (o : Obj) (T : TypeId) : RdAt ((w.alloc o).alloc (.cells #[.int .i64 0, .string ⟨b.toArray⟩] T)) (w.heap.size + 1) (0, b) := by
  have h := RdAt.new (w.alloc o) b T
  rw [show (w.alloc o).heap.size = w.heap.size + 1 by simp] at h
  exact h
theorem But.new1 {w W w' : World} (h : RowKit.Below w.heap.size w W) (k : But (w.heap.size + 1) W w') : RowKit.Below w.heap.size w w' := But.below h k h.size (Nat.le_succ _)

set_option maxHeartbeats 4000000 in
set_option maxRecDepth 100000 in
theorem wholeTerm_any (b : List UInt8) (w : World) :
    Calls Tryz.prog 63 #[.string ⟨b.toArray⟩, .func (.func 64) #[] #[]] w (RTAns (readTermN b) (readTermX b) w) := by
  have H := fun W hW => readTerm1_any (w.heap.size + 1) (0, b) W hW
  have e1 : readTermN b = wholeN 0 (termS (0, b)).2 := rfl
  have e2 : readTermX b = if readTermN b = 0 then (termS (0, b)).1 else (0, [], []) := rfl
  generalize readTermX b = L at *
  generalize readTermN b = N at *
  generalize termS (0, b) = R at *
  obtain ⟨x, s⟩ := R
  dsimp only at *
  have E1 : Hid _ := e1
  have E2 : Hid _ := e2
  have eg := entersRT
  clear e1 e2
  go_enter Tryz.func63, Tryz.ntmps63
  go_wp2_with fail
  have hZ0 : Hid (ZB ((w.alloc (.cells #[.int .i64 0, .string ⟨#[]⟩, .string ⟨#[]⟩] 43)).alloc (.cells #[.int .i64 0, .string ⟨b.toArray⟩] 153)) w.heap.size) := (ZB.new w).below (balloc _ _)
  refine (H _ (RdAt.new1 w b _ _)).mono ?_
  rintro e w1 ⟨rfl, hr1, hk1⟩
  have hZ1 : Hid (ZB w1 w.heap.size) := hZ0.out.but hk1 (by omega)
  have hB1 : Hid (RowKit.Below w.heap.size w w1) := But.new1 (bstep (balloc _ _) (balloc _ _)) hk1
  have hz1 : Hid (w.heap.size + 1 < w1.heap.size) := hr1.lt
  have hZ2 : Hid (ZB (w1.alloc (.cells #[.int .i64 x.1, .string ⟨x.2.1.toArray⟩, .string ⟨x.2.2.toArray⟩] 43)) w.heap.size) := hZ1.out.below (balloc _ _)
  have hB2 : Hid (RowKit.Below w.heap.size w (w1.alloc (.cells #[.int .i64 x.1, .string ⟨x.2.1.toArray⟩, .string ⟨x.2.2.toArray⟩] 43))) := bstep hB1.out (balloc _ _)
  have hX2 : Hid (XB (w1.alloc (.cells #[.int .i64 x.1, .string ⟨x.2.1.toArray⟩, .string ⟨x.2.2.toArray⟩] 43)) w1.heap.size x) := XB.new w1 x
  have hr2 : Hid (RdAt (w1.alloc (.cells #[.int .i64 x.1, .string ⟨x.2.1.toArray⟩, .string ⟨x.2.2.toArray⟩] 43)) (w.heap.size + 1) s) := hr1.below (balloc _ _)
  generalize hw2 : w1.alloc (.cells #[.int .i64 x.1, .string ⟨x.2.1.toArray⟩, .string ⟨x.2.2.toArray⟩] 43) = w2 at *
  clear H eg hk1 hZ0 hZ1 hB1 hr1
  obtain ⟨c0, c1, _, _⟩ := hr2.out
  by_cases hz : s.2 = []
  · rw [hz] at c1
    have eN : N = s.1 := E1.out.trans (wholeN_all hz)
    by_cases h0 : s.1 = 0
    · have eL : L = x := by rw [E2.out, if_pos (by rw [eN]; exact h0)]
      rw [h0] at c0 eN
      subst eN eL
      clear E1 E2
      obtain ⟨z0, z1, z2, f0, f1, f2⟩ := hZ2.out
      obtain ⟨x0, x1, x2⟩ := hX2.out
      have hne1 : w.heap.size ≠ w1.heap.size := by have := hz1.out; omega
      go_wp2_with fail
      exact bodyPost_ret (v := .tuple #[.agg #[.int .i64 L.1, .string ⟨L.2.1.toArray⟩, .string ⟨L.2.2.toArray⟩], .nilIface]) (by unfold results; rw [Tryz.results63]; go_simp) rfl (RTAns.mk (N := 0) ((((hB2.out).setCell (p := ⟨w.heap.size, 0, none⟩) (Nat.le_refl _) _).setCell (p := ⟨w.heap.size, 1, none⟩) (Nat.le_refl _) _).setCell (p := ⟨w.heap.size, 2, none⟩) (Nat.le_refl _) _))
    · have hne : s.1 ≠ 0 := h0
      have hne' : (s.1 == 0) = false := by simpa using hne
      have eL : L = (0, [], []) := by rw [E2.out, if_neg (by rw [eN]; exact h0)]
      subst eN eL
      clear E1 E2
      obtain ⟨z0, z1, z2, f0, f1, f2⟩ := hZ2.out
      have hs2 : w.heap.size + 1 < w2.heap.size := hr2.out.lt
      have hs2x : w.heap.size < w2.heap.size := by omega
      go_wp2_with fail
      go_region
      go_wp2_with fail
      exact bodyPost_ret (v := .tuple #[.agg #[.int .i64 0, .string ⟨#[]⟩, .string ⟨#[]⟩], .iface 89 (.int .i64 s.1)]) (by unfold results; rw [Tryz.results63]; go_simp) rfl (by rw [← errV_ne hne]; exact RTAns.mk (x := (0, [], [])) (by repeat (first | (with_reducible exact hB2.out) | (with_reducible refine RowKit.Below.drew ?_) | (with_reducible refine bset ?_) | (with_reducible refine bstep ?_ (balloc _ _)))))
  · obtain ⟨q, r, hqr⟩ : ∃ q r, s.2 = q :: r := by
      cases hh : s.2 with
      | nil => exact absurd hh hz
      | cons q r => exact ⟨q, r, rfl⟩
    rw [hqr] at c1
    have hcase : ¬ ((0 : Int) = 0 ∧ s.2 = []) := fun h => hz h.2
    have hne : (endS 2 s).1 ≠ 0 := endS_zero (by decide)
    have eN : N = (endS 2 s).1 := E1.out.trans (wholeN_bad hcase)
    have eL : L = (0, [], []) := by rw [E2.out, if_neg (by rw [eN]; exact hne)]
    subst eN eL
    clear E1 E2 hcase
    go_wp2_with fail
    refine (end_any (w.heap.size + 1) s 2 w2 hr2.out).mono ?_
    rintro e w3 ⟨rfl, hr3, hk3⟩
    have hB3 : Hid (RowKit.Below w.heap.size w w3) := But.new1 hB2.out hk3
    obtain ⟨z0, z1, z2, f0, f1, f2⟩ := hZ2.out.but hk3 (by omega)
    have hs3 : w.heap.size + 1 < w3.heap.size := hr3.lt
    have hs3x : w.heap.size < w3.heap.size := by omega
    obtain ⟨c0, _, _, _⟩ := hr3
    have hne' : ((endS 2 s).1 == 0) = false := by simpa using hne
    generalize (endS 2 s).1 = E at *
    go_wp2_with fail
    go_region
    go_wp2_with fail
    exact bodyPost_ret (v := .tuple #[.agg #[.int .i64 0, .string ⟨#[]⟩, .string ⟨#[]⟩], .iface 89 (.int .i64 E)]) (by unfold results; rw [Tryz.results63]; go_simp) rfl (by rw [← errV_ne hne]; exact RTAns.mk (x := (0, [], [])) (by repeat (first | (with_reducible exact hB3.out) | (with_reducible refine RowKit.Below.drew ?_) | (with_reducible refine bset ?_) | (with_reducible refine bstep ?_ (balloc _ _)))))

set_option maxHeartbeats 1000000 in
theorem ReadTerm_any (b : List UInt8) (w : World) :
    Calls Tryz.prog 31 #[.string ⟨b.toArray⟩] w (RTAns (readTermN b) (readTermX b) w) := by
  have H := fun W => wholeTerm_any b W
  generalize readTermN b = N at *
  generalize readTermX b = L at *
  go_enter Tryz.func31, Tryz.ntmps31
  go_wp2_with fail
  have hZ0 : Hid (ZB (w.alloc (.cells #[.int .i64 0, .string ⟨#[]⟩, .string ⟨#[]⟩] 43)) w.heap.size) := ZB.new _
  refine (H _).mono ?_
  rintro e w1 ⟨hb, rfl⟩
  obtain ⟨z0, z1, z2, f0, f1, f2⟩ := hZ0.out.below hb
  have hB1 : Hid (RowKit.Below w.heap.size w w1) := bstep (balloc _ _) hb
  go_wp2_with fail
  exact bodyPost_ret (v := .tuple #[.agg #[.int .i64 L.1, .string ⟨L.2.1.toArray⟩, .string ⟨L.2.2.toArray⟩], errV N]) (by unfold results; rw [Tryz.results31]; go_simp) rfl (RTAns.mk ((((hB1.out).setCell (p := ⟨w.heap.size, 0, none⟩) (Nat.le_refl _) _).setCell (p := ⟨w.heap.size, 1, none⟩) (Nat.le_refl _) _).setCell (p := ⟨w.heap.size, 2, none⟩) (Nat.le_refl _) _))
end Go.Proofs.YtonmmnhikjfibadGreatDoor
