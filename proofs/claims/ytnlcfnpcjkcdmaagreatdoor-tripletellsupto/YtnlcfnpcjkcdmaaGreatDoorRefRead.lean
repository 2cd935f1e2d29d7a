/- The document's answer (package strataref1): Read. -/
import Derived.Test.YtnlcfnpcjkcdmaaGreatDoorRefShow
import Derived.RegionTactic
import Derived.Deep.DeepCutAuto
import Derived.ChangeAlike
import Derived.Deep.Draws
namespace Go.Proofs.YtnlcfnpcjkcdmaaGreatDoor
open Go Go.RowKit Go.Proofs

/-- what Read tells of a text: the fault, and the term (of one that is too long its kind) -/
def readRT (l : List UInt8) : Int × List UInt8 × List UInt8 := match readL l with
  | none => (0, [], [])
  | some p => if spellB p.1 p.2.1 p.2.2 = false then (0, [], []) else if longB p.2.1 = true then (p.1, [], []) else p

theorem RRead_nil (w : World) :
    Calls Tryz.prog 26 #[.string ⟨#[]⟩] w fun e w' => e = .returned (.tuple #[.agg #[.int .i64 0, .string ⟨#[]⟩, .string ⟨#[]⟩], .int .i64 2]) ∧ Below w.heap.size w w' := by
  go_enter Tryz.func26, Tryz.ntmps26
  go_wp2
  refine bodyPost_ret (v := .tuple #[.agg #[.int .i64 0, .string ⟨#[]⟩, .string ⟨#[]⟩], .int .i64 2]) (by simp [results, Tryz.results26, go_sem]) rfl ⟨rfl, balloc _ _⟩

theorem RRead_anon (r : List UInt8) (w : World) (hl : r.length ≤ 140737488355328) :
    Calls Tryz.prog 26 #[.string ⟨(95 :: r).toArray⟩] w fun e w' => e = .returned (.tuple #[termV (readRT (95 :: r)), .int .i64 (parseN (95 :: r))]) ∧ Below w.heap.size w w' := by
  have hl' : r.length ≤ maxLen := by unfold maxLen; omega
  have e1 : spellB 2 r [] = anonOk r := by show (true && anonOk r) = _; simp
  have hi : ∀ h, (⟨(95 :: r).toArray⟩ : ByteArray)[0]'h = 95 := fun _ => rfl
  have hx : (⟨(95 :: r).toArray⟩ : ByteArray).extract 1 (r.length + 1) = ⟨r.toArray⟩ := by
    have := drop_extract (95 :: r) 1; simpa using this
  cases hk : anonOk r
  · have fin : Hid (Value.tuple #[termV (readRT (95 :: r)), .int .i64 (parseN (95 :: r))] = .tuple #[.agg #[.int .i64 0, .string ⟨#[]⟩, .string ⟨#[]⟩], .int .i64 2]) := by
      show _ = _
      simp [readRT, parseN, readL, e1, hk, termV]
    clear e1
    go_enter Tryz.func26, Tryz.ntmps26
    go_wp2_with (go_at_call 38; refine (right_anon r _ hl').mono ?_; rintro e w1 ⟨rfl, rfl⟩)
    exact bodyPost_ret (v := .tuple #[.agg #[.int .i64 0, .string ⟨#[]⟩, .string ⟨#[]⟩], .int .i64 2]) (by simp [results, Tryz.results26, go_sem]) rfl ⟨ret_val fin.out.symm, bstep (balloc _ _) (balloc _ _)⟩
  · by_cases hlo : 24 < r.length
    · have hlb : longB r = true := by simp [longB]; omega
      have fin : Hid (Value.tuple #[termV (readRT (95 :: r)), .int .i64 (parseN (95 :: r))] = .tuple #[.agg #[.int .i64 2, .string ⟨#[]⟩, .string ⟨#[]⟩], .int .i64 4]) := by
        show _ = _
        simp [readRT, parseN, readL, e1, hk, hlb, termV]
      clear e1 hlb
      go_enter Tryz.func26, Tryz.ntmps26
      go_wp2_with (go_at_call 38; refine (right_anon r _ hl').mono ?_; rintro e w1 ⟨rfl, rfl⟩)
      exact bodyPost_ret (v := .tuple #[.agg #[.int .i64 2, .string ⟨#[]⟩, .string ⟨#[]⟩], .int .i64 4]) (by simp [results, Tryz.results26, go_sem]) rfl ⟨ret_val fin.out.symm, bstep (balloc _ _) (balloc _ _)⟩
    · have hlb : longB r = false := by simp [longB]; omega
      have fin : Hid (Value.tuple #[termV (readRT (95 :: r)), .int .i64 (parseN (95 :: r))] = .tuple #[.agg #[.int .i64 2, .string ⟨r.toArray⟩, .string ⟨#[]⟩], .int .i64 0]) := by
        show _ = _
        simp [readRT, parseN, readL, e1, hk, hlb, termV]
      clear e1 hlb
      go_enter Tryz.func26, Tryz.ntmps26
      go_wp2_with (go_at_call 38; refine (right_anon r _ hl').mono ?_; rintro e w1 ⟨rfl, rfl⟩)
      exact bodyPost_ret (v := .tuple #[.agg #[.int .i64 2, .string ⟨r.toArray⟩, .string ⟨#[]⟩], .int .i64 0]) (by simp [results, Tryz.results26, go_sem]) rfl ⟨ret_val fin.out.symm, bstep (balloc _ _) (balloc _ _)⟩

theorem RRead_name (c : UInt8) (r : List UInt8) (w : World) (hl : r.length ≤ 140737488355328) (h1 : c ≠ 95) (h2 : c ≠ 34) :
    Calls Tryz.prog 26 #[.string ⟨(c :: r).toArray⟩] w fun e w' => e = .returned (.tuple #[termV (readRT (c :: r)), .int .i64 (parseN (c :: r))]) ∧ Below w.heap.size w w' := by
  have hl' : (c :: r).length ≤ maxLen := by unfold maxLen; simp; omega
  have e0 : readL (c :: r) = some (1, c :: r, []) := by simp [readL, h1, h2]
  have e1 : spellB 1 (c :: r) [] = nameOk (c :: r) := by show (true && nameOk (c :: r)) = _; simp
  have E0 : Hid (readL (c :: r) = some (1, c :: r, [])) := e0
  clear e0
  have hi : ∀ h, (⟨(c :: r).toArray⟩ : ByteArray)[0]'h = c := fun _ => rfl
  have hb1 : ((c.toNat : Int) == 95) = false := by
    have := byte_eq c 95
    rw [show ((95 : UInt8).toNat : Int) = 95 from rfl] at this
    rw [this]; simpa using h1
  have hb2 : ((c.toNat : Int) == 34) = false := by
    have := byte_eq c 34
    rw [show ((34 : UInt8).toNat : Int) = 34 from rfl] at this
    rw [this]; simpa using h2
  clear h1 h2
  cases hk : nameOk (c :: r)
  · have fin : Hid (Value.tuple #[termV (readRT (c :: r)), .int .i64 (parseN (c :: r))] = .tuple #[.agg #[.int .i64 0, .string ⟨#[]⟩, .string ⟨#[]⟩], .int .i64 2]) := by
      show _ = _
      simp [readRT, parseN, E0.out, e1, hk, termV]
    clear e1
    go_enter Tryz.func26, Tryz.ntmps26
    go_wp2_with (go_at_call 38; refine (right_name (c :: r) _ hl').mono ?_; rintro e w1 ⟨rfl, rfl⟩)
    exact bodyPost_ret (v := .tuple #[.agg #[.int .i64 0, .string ⟨#[]⟩, .string ⟨#[]⟩], .int .i64 2]) (by simp [results, Tryz.results26, go_sem]) rfl ⟨ret_val fin.out.symm, bstep (balloc _ _) (balloc _ _)⟩
  · by_cases hlo : 24 < r.length + 1
    · have hlb : longB (c :: r) = true := by simp [longB]; omega
      have fin : Hid (Value.tuple #[termV (readRT (c :: r)), .int .i64 (parseN (c :: r))] = .tuple #[.agg #[.int .i64 1, .string ⟨#[]⟩, .string ⟨#[]⟩], .int .i64 4]) := by
        show _ = _
        simp [readRT, parseN, E0.out, e1, hk, hlb, termV]
      clear e1 hlb
      go_enter Tryz.func26, Tryz.ntmps26
      go_wp2_with (go_at_call 38; refine (right_name (c :: r) _ hl').mono ?_; rintro e w1 ⟨rfl, rfl⟩)
      exact bodyPost_ret (v := .tuple #[.agg #[.int .i64 1, .string ⟨#[]⟩, .string ⟨#[]⟩], .int .i64 4]) (by simp [results, Tryz.results26, go_sem]) rfl ⟨ret_val fin.out.symm, bstep (balloc _ _) (balloc _ _)⟩
    · have hlb : longB (c :: r) = false := by simp [longB]; omega
      have fin : Hid (Value.tuple #[termV (readRT (c :: r)), .int .i64 (parseN (c :: r))] = .tuple #[.agg #[.int .i64 1, .string ⟨(c :: r).toArray⟩, .string ⟨#[]⟩], .int .i64 0]) := by
        show _ = _
        simp [readRT, parseN, E0.out, e1, hk, hlb, termV]
      clear e1 hlb
      go_enter Tryz.func26, Tryz.ntmps26
      go_wp2_with (go_at_call 38; refine (right_name (c :: r) _ hl').mono ?_; rintro e w1 ⟨rfl, rfl⟩)
      exact bodyPost_ret (v := .tuple #[.agg #[.int .i64 1, .string ⟨(c :: r).toArray⟩, .string ⟨#[]⟩], .int .i64 0]) (by simp [results, Tryz.results26, go_sem]) rfl ⟨ret_val fin.out.symm, bstep (balloc _ _) (balloc _ _)⟩

/-! ### a text -/
theorem readRT_none (r : List UInt8) (h : readTextL r = none) : Value.tuple #[termV (readRT (34 :: r)), .int .i64 (parseN (34 :: r))] = .tuple #[.agg #[.int .i64 0, .string ⟨#[]⟩, .string ⟨#[]⟩], .int .i64 2] := by
  have e : readL (34 :: r) = none := by show (readTextL r).map _ = _; rw [h]; rfl
  simp [readRT, parseN, e, termV]
theorem readRT_some (r S L : List UInt8) (h : readTextL r = some (S, L)) (hL : L = [] ∨ langOk L = true) :
    (textOk S = false → Value.tuple #[termV (readRT (34 :: r)), .int .i64 (parseN (34 :: r))] = .tuple #[.agg #[.int .i64 0, .string ⟨#[]⟩, .string ⟨#[]⟩], .int .i64 2]) ∧
    (textOk S = true → 24 < S.length → Value.tuple #[termV (readRT (34 :: r)), .int .i64 (parseN (34 :: r))] = .tuple #[.agg #[.int .i64 3, .string ⟨#[]⟩, .string ⟨#[]⟩], .int .i64 4]) ∧
    (textOk S = true → ¬ 24 < S.length → Value.tuple #[termV (readRT (34 :: r)), .int .i64 (parseN (34 :: r))] = .tuple #[.agg #[.int .i64 3, .string ⟨S.toArray⟩, .string ⟨L.toArray⟩], .int .i64 0]) := by
  have e : readL (34 :: r) = some (3, S, L) := by show (readTextL r).map _ = _; rw [h]; rfl
  have e1 : spellB 3 S L = textOk S := by
    show ((L.isEmpty || langOk L) && textOk S) = _
    rcases hL with rfl | hL
    · simp
    · simp [hL]
  refine ⟨fun ht => ?_, fun ht hlo => ?_, fun ht hlo => ?_⟩
  · simp [readRT, parseN, e, e1, ht, termV]
  · have : longB S = true := by simp [longB]; omega
    simp [readRT, parseN, e, e1, ht, this, termV]
  · have : longB S = false := by simp [longB]; omega
    simp [readRT, parseN, e, e1, ht, this, termV]

theorem one_in (r : List UInt8) (k : Nat) (h : k < r.length) : (⟨(34 :: r).toArray⟩ : ByteArray).extract (k + 1) (k + 1 + 1) = ⟨#[r[k]]⟩ :=
  slice_one (34 :: r) (k + 1) (by simp; omega)

theorem setCell_drewN (w : World) (n : Nat) (a : Addr) (v : Value) : (w.drewN n).setCell a v = (w.setCell a v).drewN n := rfl
theorem bdN {B : Nat} {w w1 : World} (h : Below B w w1) (n : Nat) : Below B w (w1.drewN n) := ⟨h.os, h.tape, h.output, h.size, h.block⟩
attribute [local go_sem] setCell_drewN

set_option maxHeartbeats 8000000 in
set_option maxRecDepth 100000 in
theorem RRead_text (r : List UInt8) (w : World) (hl : r.length ≤ 140737488355328) :
    Calls Tryz.prog 26 #[.string ⟨(34 :: r).toArray⟩] w fun e w' => e = .returned (.tuple #[termV (readRT (34 :: r)), .int .i64 (parseN (34 :: r))]) ∧ Below w.heap.size w w' := by
  have hi : ∀ h, (⟨(34 :: r).toArray⟩ : ByteArray)[0]'h = 34 := fun _ => rfl
  go_enter Tryz.func26, Tryz.ntmps26
  go_wp2
  go_loopw [5] (fun i wr => ∃ (k : Nat) (acc : List UInt8), k ≤ r.length ∧ acc.length ≤ k ∧ i = .int .i64 ((k : Int) + 1) ∧ Hid (unqAt r k acc) ∧
      ∃ q : Nat, wr = ((w.alloc (.cells #[.int .i64 0, .string ⟨#[]⟩, .string ⟨#[]⟩] 23)).alloc (.cells #[.int .i64 3, .string ⟨acc.toArray⟩, .string ⟨#[]⟩] 23)).drewN q) (fun i wr => r.length + 1 - (intOf i).toNat)
  case atStart => exact ⟨0, [], Nat.zero_le _, Nat.zero_le _, rfl, unqAt_zero r, 0, rfl⟩
  case round =>
    obtain ⟨k, acc, hk, hacc, rfl, hat, q, rfl⟩ := hrel
    by_cases hlt : k < r.length
    · have hidx : ∀ h, (⟨(34 :: r).toArray⟩ : ByteArray)[k + 1]'h = r[k] := fun _ => rfl
      by_cases hq : r[k] = 34
      · have hq' : ((r[k].toNat : Int) != 34) = false := by rw [hq]; rfl
        have hu := unqAt_quote r k acc hat.out hlt hq
        have hsa : acc.length ≤ maxLen := by unfold maxLen; omega
        clear hq
        by_cases hlast : k + 1 = r.length
        · have hrt : readTextL r = some (acc, []) := by
            simp only [readTextL, hu, List.drop_eq_nil_of_le (show r.length ≤ k + 1 by omega)]; rfl
          have Hrt : Hid (True ∧ readTextL r = some (acc, [])) := ⟨trivial, hrt⟩
          have hle1 : r.length ≤ k + 1 := by omega
          clear hlast hu hrt
          cases ht : textOk acc
          · have fin : Hid (_ = _) := (readRT_some r acc [] Hrt.out.2 (Or.inl rfl)).1 ht
            go_wp2_with (go_at_call 38; refine (right_text acc _ hsa).mono ?_; rintro e w1 ⟨rfl, rfl⟩)
            exact bodyPost_ret (v := .tuple #[.agg #[.int .i64 0, .string ⟨#[]⟩, .string ⟨#[]⟩], .int .i64 2]) (by simp [results, Tryz.results26, go_sem]) rfl ⟨ret_val fin.out.symm, bdN (bstep (balloc _ _) (balloc _ _)) _⟩
          · by_cases hlo : 24 < acc.length
            · have fin : Hid (_ = _) := (readRT_some r acc [] Hrt.out.2 (Or.inl rfl)).2.1 ht hlo
              go_wp2_with (go_at_call 38; refine (right_text acc _ hsa).mono ?_; rintro e w1 ⟨rfl, rfl⟩)
              exact bodyPost_ret (v := .tuple #[.agg #[.int .i64 3, .string ⟨#[]⟩, .string ⟨#[]⟩], .int .i64 4]) (by simp [results, Tryz.results26, go_sem]) rfl ⟨ret_val fin.out.symm, bdN (bstep (balloc _ _) (balloc _ _)) _⟩
            · have fin : Hid (_ = _) := (readRT_some r acc [] Hrt.out.2 (Or.inl rfl)).2.2 ht hlo
              go_wp2_with (go_at_call 38; refine (right_text acc _ hsa).mono ?_; rintro e w1 ⟨rfl, rfl⟩)
              exact bodyPost_ret (v := .tuple #[.agg #[.int .i64 3, .string ⟨acc.toArray⟩, .string ⟨([] : List UInt8).toArray⟩], .int .i64 0]) (by simp [results, Tryz.results26, go_sem]) rfl ⟨ret_val fin.out.symm, bdN (bstep (balloc _ _) (balloc _ _)) _⟩
        · have hlt1 : k + 1 < r.length := by omega
          have hidx1 : ∀ h, (⟨(34 :: r).toArray⟩ : ByteArray)[k + 1 + 1]'h = r[k + 1] := fun _ => rfl
          have hlt1' : (k : Int) + 1 + 1 < (r.length : Int) + 1 := by omega
          rw [drop_at r (k + 1) hlt1] at hu
          by_cases h64 : r[k + 1] = 64
          · have h64' : ((r[k + 1].toNat : Int) != 64) = false := by rw [h64]; rfl
            have hlr : langR (r[k + 1] :: r.drop (k + 1 + 1)) = if langOk (r.drop (k + 1 + 1)) then some (r.drop (k + 1 + 1)) else none := by
              rw [h64]; rfl
            have hLl : (r.drop (k + 1 + 1)).length = r.length - (k + 2) := by simp
            have hxL : (⟨(34 :: r).toArray⟩ : ByteArray).extract (k + 1 + 2) (r.length + 1) = ⟨(r.drop (k + 1 + 1)).toArray⟩ := drop_extract (34 :: r) (k + 1 + 2)
            generalize r.drop (k + 1 + 1) = L at *
            by_cases h4 : r.length = k + 4
            · have h4' : (((r.length : Int) + 1) != ((k : Int) + 1 + 4)) = false := by simp; omega
              have hle4 : k + 3 ≤ r.length + 1 := by omega
              have hL2 : L.length = 2 := by omega
              have hml : L.length ≤ maxLen := by unfold maxLen; omega
              have Hll : Hid (lettersB L = langOk L) := letters_lang L hL2
              cases hk2 : lettersB L
              · have hno : langOk L = false := by rw [← Hll.out]; exact hk2
                have fin : Hid (_ = _) := readRT_none r (by simp [readTextL, hu, hlr, hno])
                clear hu hlr hno h64 h4 hL2 hLl hlast
                go_wp2_with (go_at_call 39; refine (Letters_any L _ hml).mono ?_; rintro e w1 ⟨rfl, rfl⟩)
                exact bodyPost_ret (v := .tuple #[.agg #[.int .i64 0, .string ⟨#[]⟩, .string ⟨#[]⟩], .int .i64 2]) (by simp [results, Tryz.results26, go_sem]) rfl ⟨ret_val fin.out.symm, bdN (bstep (balloc _ _) (balloc _ _)) _⟩
              · have hyes : langOk L = true := by rw [← Hll.out]; exact hk2
                have hrt : readTextL r = some (acc, L) := by simp [readTextL, hu, hlr, hyes]
                have Hrt : Hid (langOk L = true ∧ readTextL r = some (acc, L)) := ⟨hyes, hrt⟩
                clear hu hlr hyes h64 h4 hL2 hLl hlast hrt
                cases ht : textOk acc
                · have fin : Hid (_ = _) := (readRT_some r acc L Hrt.out.2 (Or.inr Hrt.out.1)).1 ht
                  go_wp2_with (first
                    | (go_at_call 39; refine (Letters_any L _ hml).mono ?_; rintro e w1 ⟨rfl, rfl⟩)
                    | (go_at_call 38; refine (right_text acc _ hsa).mono ?_; rintro e w1 ⟨rfl, rfl⟩))
                  exact bodyPost_ret (v := .tuple #[.agg #[.int .i64 0, .string ⟨#[]⟩, .string ⟨#[]⟩], .int .i64 2]) (by simp [results, Tryz.results26, go_sem]) rfl ⟨ret_val fin.out.symm, bdN (bstep (balloc _ _) (balloc _ _)) _⟩
                · by_cases hlo : 24 < acc.length
                  · have fin : Hid (_ = _) := (readRT_some r acc L Hrt.out.2 (Or.inr Hrt.out.1)).2.1 ht hlo
                    go_wp2_with (first
                      | (go_at_call 39; refine (Letters_any L _ hml).mono ?_; rintro e w1 ⟨rfl, rfl⟩)
                      | (go_at_call 38; refine (right_text acc _ hsa).mono ?_; rintro e w1 ⟨rfl, rfl⟩))
                    exact bodyPost_ret (v := .tuple #[.agg #[.int .i64 3, .string ⟨#[]⟩, .string ⟨#[]⟩], .int .i64 4]) (by simp [results, Tryz.results26, go_sem]) rfl ⟨ret_val fin.out.symm, bdN (bstep (balloc _ _) (balloc _ _)) _⟩
                  · have fin : Hid (_ = _) := (readRT_some r acc L Hrt.out.2 (Or.inr Hrt.out.1)).2.2 ht hlo
                    go_wp2_with (first
                      | (go_at_call 39; refine (Letters_any L _ hml).mono ?_; rintro e w1 ⟨rfl, rfl⟩)
                      | (go_at_call 38; refine (right_text acc _ hsa).mono ?_; rintro e w1 ⟨rfl, rfl⟩))
                    exact bodyPost_ret (v := .tuple #[.agg #[.int .i64 3, .string ⟨acc.toArray⟩, .string ⟨L.toArray⟩], .int .i64 0]) (by simp [results, Tryz.results26, go_sem]) rfl ⟨ret_val fin.out.symm, bdN (bstep (balloc _ _) (balloc _ _)) _⟩
            · have h4' : (((r.length : Int) + 1) != ((k : Int) + 1 + 4)) = true := by simp; omega
              have hno : langOk L = false := by
                have : ¬ L.length = 2 := by omega
                simp [langOk, this]
              have fin : Hid (_ = _) := readRT_none r (by simp [readTextL, hu, hlr, hno])
              clear hu hlr hno h64 h4 hLl hlast hxL
              go_wp2
              exact bodyPost_ret (v := .tuple #[.agg #[.int .i64 0, .string ⟨#[]⟩, .string ⟨#[]⟩], .int .i64 2]) (by simp [results, Tryz.results26, go_sem]) rfl ⟨ret_val fin.out.symm, bdN (bstep (balloc _ _) (balloc _ _)) _⟩
          · have h64' : ((r[k + 1].toNat : Int) != 64) = true := by
              have := byte_eq r[k + 1] 64
              rw [show ((64 : UInt8).toNat : Int) = 64 from rfl] at this
              simp only [bne, this]; simpa using h64
            have hln : langR (r[k + 1] :: r.drop (k + 1 + 1)) = none := if_neg h64
            have fin : Hid (_ = _) := readRT_none r (by simp only [readTextL, hu, hln])
            clear hu h64 hlast hln
            go_wp2
            exact bodyPost_ret (v := .tuple #[.agg #[.int .i64 0, .string ⟨#[]⟩, .string ⟨#[]⟩], .int .i64 2]) (by simp [results, Tryz.results26, go_sem]) rfl ⟨ret_val fin.out.symm, bdN (bstep (balloc _ _) (balloc _ _)) _⟩
      · have hq' : ((r[k].toNat : Int) != 34) = true := by
          have := byte_eq r[k] 34
          rw [show ((34 : UInt8).toNat : Int) = 34 from rfl] at this
          simp only [bne, this]; simpa using hq
        by_cases hm : r[k] = 92
        · have hm' : ((r[k].toNat : Int) == 92) = true := by rw [hm]; rfl
          by_cases he : k + 1 = r.length
          · have fin : Hid (_ = _) := readRT_none r (by simp [readTextL, unqAt_cut r k acc hat.out hlt hm he])
            have he' : (((k : Int) + 1 + 1) == ((r.length : Int) + 1)) = true := by rw [beq_iff_eq]; omega
            clear hq hm he
            go_wp2
            exact bodyPost_ret (v := .tuple #[.agg #[.int .i64 0, .string ⟨#[]⟩, .string ⟨#[]⟩], .int .i64 2]) (by simp [results, Tryz.results26, go_sem]) rfl ⟨ret_val fin.out.symm, bdN (bstep (balloc _ _) (balloc _ _)) _⟩
          · have he' : (((k : Int) + 1 + 1) == ((r.length : Int) + 1)) = false := by rw [beq_eq_false_iff_ne]; omega
            have hlt1 : k + 1 < r.length := by omega
            have hidx1 : ∀ h, (⟨(34 :: r).toArray⟩ : ByteArray)[k + 1 + 1]'h = r[k + 1] := fun _ => rfl
            cases hb : markB (r[k + 1].toNat : Int)
            · have fin : Hid (_ = _) := readRT_none r (by simp [readTextL, unqAt_bad r k acc hat.out hlt1 hm hb])
              have hn34 : ((r[k + 1].toNat : Int) != 34) = true := by simp [markB] at hb; simp [hb]
              have hn92 : ((r[k + 1].toNat : Int) != 92) = true := by simp [markB] at hb; simp [hb]
              clear hq hm he hb
              go_wp2
              exact bodyPost_ret (v := .tuple #[.agg #[.int .i64 0, .string ⟨#[]⟩, .string ⟨#[]⟩], .int .i64 2]) (by simp [results, Tryz.results26, go_sem]) rfl ⟨ret_val fin.out.symm, bdN (bstep (balloc _ _) (balloc _ _)) _⟩
            · have hnext : Hid (unqAt r (k + 2) (acc ++ [r[k + 1]])) := unqAt_mark r k acc hat.out hlt1 hm hb
              have hex := one_in r (k + 1) hlt1
              have Hsum : Hid (_ = _) := str_app acc [r[k + 1]]
              clear hq hm he
              cases hn34 : ((r[k + 1].toNat : Int) != 34)
              · clear hb
                go_wp2
                go_region
                go_wp2
                refine ⟨⟨k + 2, acc ++ [r[k + 1]], by omega, by simp; omega, by go_num, hnext, q + 1, ?_⟩, by simp [intOf]; omega⟩
                rw [← Hsum.out]
              · have hn92 : ((r[k + 1].toNat : Int) != 92) = false := by simp [markB] at hb; simp at hn34; simp; omega
                clear hb
                go_wp2
                go_region
                go_wp2
                refine ⟨⟨k + 2, acc ++ [r[k + 1]], by omega, by simp; omega, by go_num, hnext, q + 1, ?_⟩, by simp [intOf]; omega⟩
                rw [← Hsum.out]
        · have hm' : ((r[k].toNat : Int) == 92) = false := by
            have := byte_eq r[k] 92
            rw [show ((92 : UInt8).toNat : Int) = 92 from rfl] at this
            rw [this]; simpa using hm
          have hnext : Hid (unqAt r (k + 1) (acc ++ [r[k]])) := unqAt_plain r k acc hat.out hlt hq hm
          have hex := one_in r k hlt
          have Hsum : Hid (_ = _) := str_app acc [r[k]]
          clear hq hm
          go_wp2
          go_region
          go_wp2
          refine ⟨⟨k + 1, acc ++ [r[k]], by omega, by simp; omega, by go_num, hnext, q + 1, ?_⟩, by simp [intOf]; omega⟩
          rw [← Hsum.out]
    · have fin : Hid (_ = _) := readRT_none r (by simp [readTextL, unqAt_end r k acc hat.out (by omega)])
      go_wp2
      exact bodyPost_ret (v := .tuple #[.agg #[.int .i64 0, .string ⟨#[]⟩, .string ⟨#[]⟩], .int .i64 2]) (by simp [results, Tryz.results26, go_sem]) rfl ⟨ret_val fin.out.symm, bdN (bstep (balloc _ _) (balloc _ _)) _⟩

theorem RRead_any (l : List UInt8) (w : World) (hl : l.length ≤ 140737488355328) :
    Calls Tryz.prog 26 #[.string ⟨l.toArray⟩] w fun e w' => e = .returned (.tuple #[termV (readRT l), .int .i64 (parseN l)]) ∧ Below w.heap.size w w' := by
  cases l with
  | nil => exact RRead_nil w
  | cons c r =>
    simp only [List.length_cons] at hl
    by_cases h1 : c = 95
    · subst h1; exact RRead_anon r w (by omega)
    · by_cases h2 : c = 34
      · subst h2; exact RRead_text r w (by omega)
      · exact RRead_name c r w (by omega) h1 h2
end Go.Proofs.YtnlcfnpcjkcdmaaGreatDoor
