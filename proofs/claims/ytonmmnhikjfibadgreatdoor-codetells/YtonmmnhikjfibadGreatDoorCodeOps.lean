/- code.Set, code.Term, code.Layer: as bytes. -/
import Derived.Test.YtonmmnhikjfibadGreatDoorCodeWrite
import Derived.Laws.IdiomStrings
import Derived.Deep.RegionLaw
import Derived.Deep.RegionHeld3
import Derived.Test.YtonmmnhikjfibadGreatDoorLayerOps
namespace Go.Proofs.YtonmmnhikjfibadGreatDoor
open Go Go.RowKit Go.Proofs
set_option synthInstance.maxSize 1000

theorem u8U : Tryz.prog.underlying 5 = some (.int .u8) := by kernel_rfl
theorem Buf.string {B : Nat} {v : Value} {l : List UInt8} {W0 w : World} (h : Buf B v l W0 w) (hne : l ≠ []) : (convert 107 9 v).run Tryz.prog w = .ok (.string ⟨l.toArray⟩) w := by
  have h1 := h.1
  rcases h1.2 with ⟨_, h0⟩ | ⟨g, cap, cur, fz, rfl, _, hg, _⟩
  · exact absurd (List.eq_nil_of_length_eq_zero h0) hne
  · refine run_convert_bytes_back w 107 9 5 ⟨g, 0, none⟩ cap l Tryz.underlying107 u8U Tryz.underlying9 ?_
    intro j hj
    refine h1.cells (g := g) rfl j _ ?_
    simp [bytesV, hj]
theorem Buf.nil (w : World) : Buf w.heap.size (.slice none 0 0) [] w w := ⟨World.ownsRowF_nil _ _ _ _, RowKit.Below.refl _ _, Nat.le_refl _⟩
theorem encS_ne (l : List Tr) : encS l ≠ [] := by simp [encS]
theorem encT_ne (x : Tm) : encT x ≠ [] := by simp [encT]
theorem okTr_chk {x : Tr} (h : chkTr x = 0) : okTr x := by
  obtain ⟨h1, h2, h3, _⟩ := chk_zero h
  exact ⟨h1, h2, h3⟩
theorem okTr_set {l : List Tr} (h : IsSet l) : ∀ x ∈ l, okTr x := fun x hx => okTr_chk (h.2.1 x hx)
def setB (l : List Tr) : List UInt8 := if sortedN l = 0 then encS l else []

attribute [local go_sem] eql_errV neq_errV guard_errV

set_option maxHeartbeats 2000000 in
set_option maxRecDepth 100000 in
theorem CSet_any (ad : Option Addr) (ca : Nat) (l : List Tr) (w : World) (h : SlT w ad l) (hfit : ∀ x ∈ l, fitTr x) (hn : l.length ≤ 9223372036854775807) :
    Calls Tryz.prog 28 #[.slice ad l.length ca] w fun e w' => e = .returned (.tuple #[.string ⟨(setB l).toArray⟩, errV (sortedN l)]) ∧ RowKit.Below w.heap.size w w' := by
  have H := Sorted_any ad ca l w h hfit hn
  have Hs : Hid (SlT w ad l) := h
  have f0 : Hid (sortedN l = 0 → setB l = encS l ∧ l.length ≤ 200 ∧ ∀ x ∈ l, okTr x) := fun e => ⟨if_pos e, (sortedN_set.1 e).1, okTr_set (sortedN_set.1 e)⟩
  have f1 : Hid (¬ sortedN l = 0 → setB l = []) := fun e => if_neg e
  clear h hfit hn
  generalize sortedN l = N at *
  generalize setB l = S at *
  by_cases hN : N = 0
  · subst hN
    obtain ⟨rfl, h2, h3⟩ := f0.out rfl
    have HA := fun W1 (hs : SlT W1 ad l) => addSet_any W1 (.slice none 0 0) [] ad ca l W1 hs h2 h3 (Buf.nil W1) (by simp)
    clear f0 f1 h2 h3
    go_enter Tryz.func28, Tryz.ntmps28
    go_wp2_with fail
    refine H.mono ?_
    rintro e w1 ⟨rfl, hb1⟩
    go_wp2_with fail
    refine (HA w1 (Hs.out.below hb1)).mono ?_
    rintro e w2 ⟨v2, rfl, hb2, _⟩
    have hcv := hb2.string (by simp [encS_ne])
    rw [List.nil_append] at hcv hb2
    go_wp2_with fail
    exact bodyPost_ret (v := .tuple #[.string ⟨(encS l).toArray⟩, .nilIface]) (by simp [results, Tryz.results28, go_sem]) rfl ⟨rfl, bstep hb1 hb2.2.1⟩
  · have e1 := f1.out hN
    subst e1
    have hN' : (N == 0) = false := by simpa using hN
    clear f0 f1
    go_enter Tryz.func28, Tryz.ntmps28
    go_wp2_with fail
    refine H.mono ?_
    rintro e w1 ⟨rfl, hb1⟩
    go_wp2_with fail
    exact bodyPost_ret (v := .tuple #[.string ⟨#[]⟩, errV N]) (by simp [results, Tryz.results28, go_sem]) rfl ⟨rfl, hb1⟩

def termB (x : Tm) : List UInt8 := if okTm x = 0 then encT x else []
set_option maxHeartbeats 2000000 in
set_option maxRecDepth 100000 in
theorem CTerm_any (x : Tm) (w : World) (hs : x.2.1.length ≤ maxLen) (hl : x.2.2.length ≤ maxLen) :
    Calls Tryz.prog 26 #[.agg #[.int .i64 x.1, .string ⟨x.2.1.toArray⟩, .string ⟨x.2.2.toArray⟩]] w fun e w' => e = .returned (.tuple #[.string ⟨(termB x).toArray⟩, errV (okTm x)]) ∧ RowKit.Below w.heap.size w w' := by
  have H := fun W => Check_any x.1 x.2.1 x.2.2 W hs hl
  have HA := fun W1 (hx : okTm x = 0) => addTerm_any W1.heap.size (.slice none 0 0) [] W1 x W1 hx (Buf.nil W1) (by simp)
  have f0 : Hid (okTm x = 0 → termB x = encT x) := fun e => if_pos e
  have f1 : Hid (¬ okTm x = 0 → termB x = []) := fun e => if_neg e
  have fe : checkN x.1 x.2.1 x.2.2 = okTm x := rfl
  rw [fe] at H
  clear hs hl fe
  generalize hN0 : okTm x = N at *
  generalize termB x = S at *
  by_cases hN : N = 0
  · subst hN
    have e0 := f0.out rfl
    subst e0
    have HAx := fun W1 => HA W1 rfl
    clear f0 f1 HA
    go_enter Tryz.func26, Tryz.ntmps26
    go_wp2_with fail
    refine (H _).mono ?_
    rintro e w1 ⟨rfl, hb1⟩
    obtain ⟨kc, _⟩ := bcell hb1
    have x0 : w1.cell? ⟨w.heap.size, 0, none⟩ = some (.int .i64 x.1) := (kc _ 0 (by simp)).trans (by go_simp)
    have x1 : w1.cell? ⟨w.heap.size, 1, none⟩ = some (.string ⟨x.2.1.toArray⟩) := (kc _ 1 (by simp)).trans (by go_simp)
    have x2 : w1.cell? ⟨w.heap.size, 2, none⟩ = some (.string ⟨x.2.2.toArray⟩) := (kc _ 2 (by simp)).trans (by go_simp)
    clear kc
    go_wp2_with fail
    refine (HAx w1).mono ?_
    rintro e w2 ⟨v2, rfl, hb2, _⟩
    have hcv := hb2.string (by simp [encT_ne])
    rw [List.nil_append] at hcv hb2
    go_wp2_with fail
    exact bodyPost_ret (v := .tuple #[.string ⟨(encT x).toArray⟩, .nilIface]) (by simp [results, Tryz.results26, go_sem]) rfl ⟨rfl, bstep (bstep (balloc _ _) hb1) hb2.2.1⟩
  · have e1 := f1.out hN
    subst e1
    have hN' : (N == 0) = false := by simpa using hN
    clear f0 f1 HA
    go_enter Tryz.func26, Tryz.ntmps26
    go_wp2_with fail
    refine (H _).mono ?_
    rintro e w1 ⟨rfl, hb1⟩
    go_wp2_with fail
    exact bodyPost_ret (v := .tuple #[.string ⟨#[]⟩, errV N]) (by simp [results, Tryz.results26, go_sem]) rfl ⟨rfl, bstep (balloc _ _) hb1⟩

theorem apart_sets {a b : List Tr} (h : apartN a b = 0) : IsSet a ∧ IsSet b := bothN_zero.1 (orN_zero.1 h).1
def LB (w : World) (g : Nat) (v0 v1 : Value) : Prop := w.heap[g]? = some (Obj.cells #[v0, v1] 31)
theorem LB.keep {w w' : World} {g : Nat} {v0 v1 : Value} (h : LB w g v0 v1) (k : Keep w w') : LB w' g v0 v1 := k _ _ _ _ (by decide) h
theorem LB.all {w : World} {g : Nat} {v0 v1 : Value} (h : LB w g v0 v1) : LB w g v0 v1 ∧ w.cell? ⟨g, 0, none⟩ = some v0 ∧ w.cell? ⟨g, 1, none⟩ = some v1 := by
  refine ⟨h, ?_, ?_⟩
  · rw [cell_of_row w g 0 _ _ _ h]; rfl
  · rw [cell_of_row w g 1 _ _ _ h]; rfl
def layB (a b : List Tr) : List UInt8 := if apartN a b = 0 then encS a ++ encS b else []
theorem encS_len {l : List Tr} (h : IsSet l) : (encS l).length ≤ 20000 := by
  have h1 := encR_len l (okTr_set h)
  have h2 := h.1
  simp [encS]
  omega
set_option maxHeartbeats 2000000 in
set_option maxRecDepth 100000 in
theorem CLayer_any (ad bd : Option Addr) (ca cb : Nat) (a b : List Tr) (w : World) (ha : SlT w ad a) (hb : SlT w bd b) (fa : ∀ x ∈ a, fitTr x) (fb : ∀ x ∈ b, fitTr x) (na : a.length ≤ 9223372036854775807) (nb : b.length ≤ 9223372036854775807) :
    Calls Tryz.prog 29 #[.agg #[.slice ad a.length ca, .slice bd b.length cb]] w fun e w' => e = .returned (.tuple #[.string ⟨(layB a b).toArray⟩, errV (apartN a b)]) ∧ RowKit.Below w.heap.size w w' := by
  have H := fun W h1 h2 => LCheck_any ad bd ca cb a b W h1 h2 fa fb na nb
  have Ha : Hid (SlT w ad a) := ha
  have Hb : Hid (SlT w bd b) := hb
  have f0 : Hid (apartN a b = 0 → layB a b = encS a ++ encS b ∧ IsSet a ∧ IsSet b) := fun e => ⟨if_pos e, apart_sets e⟩
  have f1 : Hid (¬ apartN a b = 0 → layB a b = []) := fun e => if_neg e
  clear ha hb fa fb na nb
  generalize apartN a b = N at *
  generalize layB a b = S at *
  by_cases hN : N = 0
  · subst hN
    obtain ⟨rfl, sa, sb⟩ := f0.out rfl
    have HA := fun W1 (hs : SlT W1 ad a) => addSet_any W1 (.slice none 0 0) [] ad ca a W1 hs sa.1 (okTr_set sa) (Buf.nil W1) (by simp)
    have HB := fun W1 W2 v (hs : SlT W1 bd b) (hv : Buf W1.heap.size v (encS a) W1 W2) => addSet_any W1 v (encS a) bd cb b W2 hs sb.1 (okTr_set sb) hv (by have := encS_len sa; omega)
    clear f0 f1 sa sb
    go_enter Tryz.func29, Tryz.ntmps29
    go_wp2_with fail
    refine (H _ (Ha.out.below (balloc _ _)) (Hb.out.below (balloc _ _))).mono ?_
    rintro e w1 ⟨rfl, hb1⟩
    have hL1 : LB w1 w.heap.size (.slice ad a.length ca) (.slice bd b.length cb) := (hb1.block _ (by simp)).trans (heap_alloc_new w _)
    have hB1 := bstep (balloc _ _) hb1
    have hSa : Hid (SlT w1.drew ad a) := Ha.out.below hB1.drew
    have hSb : Hid (SlT w1.drew bd b) := Hb.out.below hB1.drew
    have hLd : LB w1.drew w.heap.size (.slice ad a.length ca) (.slice bd b.length cb) := hL1
    have x0 : w1.cell? ⟨w.heap.size, 0, none⟩ = some (.slice ad a.length ca) := hL1.all.2.1
    have x1 : w1.cell? ⟨w.heap.size, 1, none⟩ = some (.slice bd b.length cb) := hL1.all.2.2
    have hB1 := hB1.drew
    clear hL1 hb1
    go_wp2_with fail
    go_region_law (first
      | (go_simp; go_at_call_of 59 (Value.slice none 0 0); refine (HA w1.drew hSa.out).mono ?_; rintro e w2 ⟨v2, rfl, hb2, hk1⟩; rw [List.nil_append] at hb2; have hL2 := hLd.keep hk1; have y0 : w2.cell? ⟨w.heap.size, 0, none⟩ = some (.slice ad a.length ca) := hL2.all.2.1; have y1 : w2.cell? ⟨w.heap.size, 1, none⟩ = some (.slice bd b.length cb) := hL2.all.2.2)
      | (go_simp; go_at_call_of 59 (Value.slice bd b.length cb); refine (HB w1.drew w2 v2 hSb.out hb2).mono ?_; rintro e w3 ⟨v3, rfl, hb3, hk2⟩; have hcv := hb3.string (by simp [encS_ne])))
    all_goals go_wp2_with fail
    all_goals
      exact bodyPost_ret (v := .tuple #[.string ⟨(encS a ++ encS b).toArray⟩, .nilIface]) (by simp [results, Tryz.results29, go_sem]) rfl ⟨rfl, bstep hB1 hb3.2.1⟩
  · have e1 := f1.out hN
    subst e1
    have hN' : (N == 0) = false := by simpa using hN
    clear f0 f1
    go_enter Tryz.func29, Tryz.ntmps29
    go_wp2_with fail
    refine (H _ (Ha.out.below (balloc _ _)) (Hb.out.below (balloc _ _))).mono ?_
    rintro e w1 ⟨rfl, hb1⟩
    go_wp2_with fail
    exact bodyPost_ret (v := .tuple #[.string ⟨#[]⟩, errV N]) (by simp [results, Tryz.results29, go_sem]) rfl ⟨rfl, bstep (balloc _ _) hb1⟩
end Go.Proofs.YtonmmnhikjfibadGreatDoor
