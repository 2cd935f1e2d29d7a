/- Parse: a text as a term. -/
import Derived.Test.YtnlcfnpcjkcdmaaGreatDoorRead
import Derived.Outline
namespace Go.Proofs.YtnlcfnpcjkcdmaaGreatDoor
open Go Go.RowKit Go.Proofs

def parseN (l : List UInt8) : Int := match readL l with
  | none => 2
  | some p => if spellB p.1 p.2.1 p.2.2 = false then 2 else if longB p.2.1 = true then 4 else 0
def parseT (l : List UInt8) : Int × List UInt8 × List UInt8 := match readL l with
  | none => (0, [], [])
  | some p => if spellB p.1 p.2.1 p.2.2 = false then (0, [], []) else if longB p.2.1 = true then (0, [], []) else p
def termV (p : Int × List UInt8 × List UInt8) : Value := .agg #[.int .i64 p.1, .string ⟨p.2.1.toArray⟩, .string ⟨p.2.2.toArray⟩]

theorem readL_len (l : List UInt8) (p : Int × List UInt8 × List UInt8) (h : readL l = some p) : p.2.1.length ≤ l.length ∧ p.2.2.length ≤ l.length := by
  cases l with
  | nil => simp [readL] at h; subst h; simp
  | cons c r =>
    by_cases h1 : c = 95
    · simp [readL, h1] at h; subst h; simp
    · by_cases h2 : c = 34
      · subst h2
        have e1 : readL (34 :: r) = (readTextL r).map (fun p => (3, p.1, p.2)) := rfl
        rw [e1, Option.map_eq_some_iff] at h
        obtain ⟨q, hq, rfl⟩ := h
        unfold readTextL at hq
        cases hu : unqL r with
        | none => simp [hu] at hq
        | some u =>
          have := unqL_len r.length r u.1 u.2 (Nat.le_refl _) hu
          simp only [hu] at hq
          cases hr : langR u.2 with
          | none => simp [hr] at hq
          | some L =>
            simp [hr] at hq
            subst hq
            have hL : L.length ≤ u.2.length := by
              cases hu2 : u.2 with
              | nil => rw [hu2] at hr; simp [langR] at hr; subst hr; simp
              | cons d t =>
                rw [hu2] at hr
                by_cases hd : d = 64
                · cases hk : langOk t
                  · simp [langR, hd, hk] at hr
                  · simp [langR, hd, hk] at hr; subst hr; simp
                · simp [langR, hd] at hr
            simp only [List.length_cons]
            omega
      · simp [readL, h1, h2] at h; subst h; simp

theorem bnew {w w1 : World} (h : Below w.heap.size w w1) (o : Obj) : Below w.heap.size w (w1.alloc o) := bstep h (balloc _ _)

/-- the block that a call laid last ahead of another one reads behind that as it did -/
theorem kept1 {w w2 : World} {o : Obj} (hb : Below (w.alloc o).heap.size (w.alloc o) w2) :
    (∀ j, w2.cell? ⟨w.heap.size, j, none⟩ = (w.alloc o).cell? ⟨w.heap.size, j, none⟩) ∧ (∀ j, w2.frozen? ⟨w.heap.size, j, none⟩ = (w.alloc o).frozen? ⟨w.heap.size, j, none⟩) :=
  ⟨fun j => (bcell hb).1 _ j (by simp), fun j => (bcell hb).2 _ j (by simp)⟩
/-- .. and the block that was laid ahead of a call ahead of it -/
theorem kept2 {w w1 w2 : World} {o o' : Obj} (hb1 : Below (w.alloc o).heap.size (w.alloc o) w1) (hb2 : Below (w1.alloc o').heap.size (w1.alloc o') w2) (hz : w.heap.size < w1.heap.size) :
    (∀ j, w2.cell? ⟨w.heap.size, j, none⟩ = (w.alloc o).cell? ⟨w.heap.size, j, none⟩) ∧ (∀ j, w2.frozen? ⟨w.heap.size, j, none⟩ = (w.alloc o).frozen? ⟨w.heap.size, j, none⟩) :=
  ⟨fun j => ((bcell hb2).1 _ j (by simp; omega)).trans (((bcell (balloc w1 o')).1 _ j hz).trans ((bcell hb1).1 _ j (by simp))),
   fun j => ((bcell hb2).2 _ j (by simp; omega)).trans (((bcell (balloc w1 o')).2 _ j hz).trans ((bcell hb1).2 _ j (by simp)))⟩

set_option maxHeartbeats 1000000 in
theorem Any_none (l : List UInt8) (w : World) (hl : l.length ≤ 140737488355328) (hr : readL l = none) :
    Calls Tryz.prog 47 #[.string ⟨l.toArray⟩] w fun e w' => e = .returned (.tuple #[.agg #[.int .i64 0, .string ⟨#[]⟩, .string ⟨#[]⟩], .iface 49 (.int .i64 2)]) ∧ Below w.heap.size w w' := by
  have Hr : Hid (readL l = none) := hr
  clear hr
  go_enter Tryz.func47, Tryz.ntmps47
  go_wp2_with fail
  refine (read_any l _ hl).mono ?_
  rintro e w1 ⟨rfl, hb1⟩
  rw [Hr.out]
  simp only [readV]
  obtain ⟨hc1, hf1⟩ := bcell hb1
  have hz : w.heap.size < w1.heap.size := by have := hb1.size; simp at this; omega
  go_wp2_with fail
  exact bodyPost_ret (v := .tuple #[.agg #[.int .i64 0, .string ⟨#[]⟩, .string ⟨#[]⟩], .iface 49 (.int .i64 2)]) (by simp [results, Tryz.results47, go_sem, hc1, hz]) rfl ⟨rfl, bnew (bset3 (bstep (balloc _ _) hb1) _ _ _) _⟩

set_option maxHeartbeats 1000000 in
theorem Any_wrong (l : List UInt8) (k : Int) (S L : List UInt8) (w : World) (hl : l.length ≤ 140737488355328) (hr : readL l = some (k, S, L)) (hS : S.length ≤ l.length) (hL : L.length ≤ l.length) (hsp : spellB k S L = false) :
    Calls Tryz.prog 47 #[.string ⟨l.toArray⟩] w fun e w' => e = .returned (.tuple #[.agg #[.int .i64 0, .string ⟨#[]⟩, .string ⟨#[]⟩], .iface 49 (.int .i64 2)]) ∧ Below w.heap.size w w' := by
  have Hr : Hid (readL l = some (k, S, L)) := hr
  clear hr
  have hs' : S.length ≤ maxLen := by unfold maxLen; omega
  have hl' : L.length ≤ maxLen := by unfold maxLen; omega
  go_enter Tryz.func47, Tryz.ntmps47
  go_wp2_with fail
  refine (read_any l _ hl).mono ?_
  rintro e w1 ⟨rfl, hb1⟩
  rw [Hr.out]
  simp only [readV]
  have hz : w.heap.size < w1.heap.size := by have := hb1.size; simp at this; omega
  go_wp2_with fail
  refine (spelled_any k S L _ hs' hl').mono ?_
  rintro e w2 ⟨rfl, hb2⟩
  obtain ⟨hw, hwf⟩ := kept2 hb1 hb2 hz
  go_wp2_with fail
  exact bodyPost_ret (v := .tuple #[.agg #[.int .i64 0, .string ⟨#[]⟩, .string ⟨#[]⟩], .iface 49 (.int .i64 2)]) (by simp [results, Tryz.results47, go_sem, hw]) rfl ⟨rfl, bset3 (bstep (bstep (bstep (balloc _ _) hb1) (balloc _ _)) hb2) _ _ _⟩

set_option maxHeartbeats 1000000 in
theorem Any_good (l : List UInt8) (k : Int) (S L : List UInt8) (w : World) (hl : l.length ≤ 140737488355328) (hr : readL l = some (k, S, L)) (hS : S.length ≤ l.length) (hL : L.length ≤ l.length) (hsp : spellB k S L = true) :
    Calls Tryz.prog 47 #[.string ⟨l.toArray⟩] w fun e w' => e = .returned (.tuple #[.agg #[.int .i64 k, .string ⟨S.toArray⟩, .string ⟨L.toArray⟩], .nilIface]) ∧ Below w.heap.size w w' := by
  have Hr : Hid (readL l = some (k, S, L)) := hr
  clear hr
  have hs' : S.length ≤ maxLen := by unfold maxLen; omega
  have hl' : L.length ≤ maxLen := by unfold maxLen; omega
  go_enter Tryz.func47, Tryz.ntmps47
  go_wp2_with fail
  refine (read_any l _ hl).mono ?_
  rintro e w1 ⟨rfl, hb1⟩
  rw [Hr.out]
  simp only [readV]
  have hz : w.heap.size < w1.heap.size := by have := hb1.size; simp at this; omega
  go_wp2_with fail
  refine (spelled_any k S L _ hs' hl').mono ?_
  rintro e w2 ⟨rfl, hb2⟩
  obtain ⟨hw, hwf⟩ := kept2 hb1 hb2 hz
  obtain ⟨ht3, htf3⟩ := kept1 hb2
  go_wp2_with fail
  exact bodyPost_ret (v := .tuple #[.agg #[.int .i64 k, .string ⟨S.toArray⟩, .string ⟨L.toArray⟩], .nilIface]) (by simp [results, Tryz.results47, go_sem, hw]) rfl ⟨rfl, bset3 (bstep (bstep (bstep (balloc _ _) hb1) (balloc _ _)) hb2) _ _ _⟩

/-- what a text of whatever length is -/
def anyN (l : List UInt8) : Int := match readL l with
  | none => 2
  | some p => if spellB p.1 p.2.1 p.2.2 = false then 2 else 0
def anyT (l : List UInt8) : Int × List UInt8 × List UInt8 := match readL l with
  | none => (0, [], [])
  | some p => if spellB p.1 p.2.1 p.2.2 = false then (0, [], []) else p

theorem any_cases (l : List UInt8) : (anyN l = 2 ∧ anyT l = (0, [], [])) ∨ (anyN l = 0 ∧ readL l = some (anyT l) ∧ spellB (anyT l).1 (anyT l).2.1 (anyT l).2.2 = true ∧ (anyT l).2.1.length ≤ l.length ∧ (anyT l).2.2.length ≤ l.length) := by
  cases hr : readL l with
  | none => left; simp [anyN, anyT, hr]
  | some p =>
    cases hsp : spellB p.1 p.2.1 p.2.2
    · left; simp [anyN, anyT, hr, hsp]
    · right
      have e : anyT l = p := by simp [anyT, hr, hsp]
      rw [e]
      exact ⟨by simp [anyN, hr, hsp], rfl, hsp, readL_len l p hr⟩

theorem Any_any (l : List UInt8) (w : World) (hl : l.length ≤ 140737488355328) :
    Calls Tryz.prog 47 #[.string ⟨l.toArray⟩] w fun e w' => e = .returned (.tuple #[termV (anyT l), errV (anyN l)]) ∧ Below w.heap.size w w' := by
  cases hr : readL l with
  | none =>
    refine (Any_none l w hl hr).mono ?_
    rintro e w' ⟨rfl, hb⟩
    exact ⟨ret_two (by simp [anyT, hr, termV]) (by simp [anyN, hr, errV]), hb⟩
  | some p =>
    obtain ⟨k, S, L⟩ := p
    obtain ⟨hS, hL⟩ := readL_len l _ hr
    cases hsp : spellB k S L
    · refine (Any_wrong l k S L w hl hr hS hL hsp).mono ?_
      rintro e w' ⟨rfl, hb⟩
      exact ⟨ret_two (by simp [anyT, hr, hsp, termV]) (by simp [anyN, hr, hsp, errV]), hb⟩
    · refine (Any_good l k S L w hl hr hS hL hsp).mono ?_
      rintro e w' ⟨rfl, hb⟩
      exact ⟨ret_two (by simp [anyT, hr, hsp, termV]) (by simp [anyN, hr, hsp, errV]), hb⟩

end Go.Proofs.YtnlcfnpcjkcdmaaGreatDoor
