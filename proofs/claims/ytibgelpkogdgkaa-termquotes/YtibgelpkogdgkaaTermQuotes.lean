/- stratalaw4.TermQuotes: the walk. -/
import Derived.Test.YtibgelpkogdgkaaTermEq
import Derived.Test.YtibgelpkogdgkaaPlain
import Derived.Deep.DeepCutAuto
namespace Go.Proofs.Ytibgelpkogdgkaa
open Go Go.RowKit Go.Proofs

def okS (S : List UInt8) (k : Nat) : Bool := decide (S.length ≤ 24) && allB textB (S.take k)
def okL (b : Bool) (L : List UInt8) (k : Nat) : Bool := b && allB letB (L.take k)
def finB (S L : List UInt8) : Bool := decide (S.length ≤ 24) && allB textB S && (L.isEmpty || (L.length == 2 && allB letB L))

theorem allL_take (p : Int → Bool) (S : List UInt8) (k : Nat) (h : k < S.length) : allB p (S.take (k + 1)) = (allB p (S.take k) && p (S[k].toNat : Int)) := by
  unfold allB
  rw [List.take_succ_eq_append_getElem h]
  simp only [List.all_append, List.all_cons, List.all_nil, Bool.and_true]

theorem okS_next (S : List UInt8) (k : Nat) (h : k < S.length) : okS S (k + 1) = (okS S k && textB (S[k].toNat : Int)) := by
  unfold okS; rw [allL_take textB S k h, Bool.and_assoc]
theorem okL_next (b : Bool) (L : List UInt8) (k : Nat) (h : k < L.length) : okL b L (k + 1) = (okL b L k && letB (L[k].toNat : Int)) := by
  unfold okL; rw [allL_take letB L k h, Bool.and_assoc]

theorem finB_check (S L : List UInt8) : (checkN 3 S L == 0) = finB S L := by
  have e1 : kindB 3 = true := rfl
  have e2 : spellB 3 S L = ((L.isEmpty || langOk L) && textOk S) := rfl
  by_cases hS : S.length ≤ 24
  · have hlo : longB S = false := by simp [longB]; omega
    unfold finB checkN
    rw [e1, hlo, e2]
    unfold langOk textOk
    cases h1 : L.isEmpty <;> cases h2 : (L.length == 2) <;> cases h3 : allB letB L <;> cases h4 : allB textB S <;> simp [hS]
  · have hlo : longB S = true := by simp [longB]; omega
    unfold finB checkN
    rw [e1, hlo]
    simp [hS]

theorem text_len (S L : List UInt8) : S.length + 2 ≤ (showL 3 S L).length := by
  show _ ≤ (quoteL S ++ markL L).length
  have h : S.length ≤ (escL S).length := by
    induction S with
    | nil => simp
    | cons c r ih => rw [escL_cons, List.length_append]; cases markB (c.toNat : Int) <;> simp <;> omega
  simp [quoteL]; omega

theorem cmp_lang (S L : List UInt8) : (cmpT 3 S L 3 S [] == 0) = L.isEmpty := by
  rw [cmp_eq]
  cases L <;> simp [eqTB]

attribute [local go_sem] eql_errV neq_errV guard_errV

set_option maxHeartbeats 4000000 in
set_option maxRecDepth 100000 in
theorem quotes_any (S L : List UInt8) (w : World) (hS : S.length ≤ maxLen) (hL : L.length ≤ maxLen) :
    Calls Try.prog 5 #[.string ⟨S.toArray⟩, .string ⟨L.toArray⟩] w fun e w' => e = .returned (.bool true) ∧ Below w.heap.size w w' := by
  have hS' := hS
  have hL' := hL
  unfold maxLen at hS' hL'
  have Hfin : Hid ((checkN 3 S L == 0) = finB S L) := finB_check S L
  go_enter Try.func5, Try.ntmps5
  go_wp2_with fail
  refine (Print_any 3 S L _ hS hL).mono ?_
  rintro e w2 ⟨rfl, hb2⟩
  obtain ⟨ht, htf⟩ := kept1 hb2
  go_wp2_with fail
  go_loop [8, 9] (fun ok i => ∃ k : Nat, k ≤ S.length ∧ i = .int .i64 k ∧ ok = .bool (okS S k)) (fun _ i => S.length - (intOf i).toNat)
  case atStart => exact ⟨0, Nat.zero_le _, rfl, by simp [okS, allB]; omega⟩
  case round =>
    obtain ⟨k, hk, rfl, rfl⟩ := hrel
    by_cases hlt : k < S.length
    · have hidx : ∀ h, (⟨S.toArray⟩ : ByteArray)[k]'h = S[k] := fun _ => rfl
      have Hn : Hid (okS S (k + 1) = (okS S k && textB (S[k].toNat : Int))) := okS_next S k hlt
      cases hb : okS S k
      · go_wp2
        exact ⟨⟨k + 1, by omega, by go_num, by rw [Hn.out, hb]; rfl⟩, by simp [intOf]; omega⟩
      · by_cases h1 : 32 ≤ (S[k].toNat : Int)
        · go_wp2
          refine ⟨⟨k + 1, by omega, by go_num, ?_⟩, by simp [intOf]; omega⟩
          rw [Hn.out, hb]
          exact congrArg Value.bool (decide_eq_decide.2 (by omega))
        · go_wp2
          refine ⟨⟨k + 1, by omega, by go_num, ?_⟩, by simp [intOf]; omega⟩
          rw [Hn.out, hb]
          exact congrArg Value.bool (decide_eq_false (by omega)).symm
    · have hk' : k = S.length := by omega
      subst hk'
      go_upto_if 45 with fail
      go_cut [8] (fun ok W => ok = .bool (finB S L) ∧ W = w2)
      case first =>
        cases L with
        | nil =>
          have e : finB S [] = okS S S.length := by unfold finB okS; rw [List.take_length]; simp
          go_wp2
          go_meet
          case rel => exact ⟨by rw [e], rfl⟩
        | cons c r =>
          have hfin : Hid (finB S (c :: r) = okL (okS S S.length && ((c :: r).length == 2)) (c :: r) (c :: r).length) := by
            show _ = _
            unfold finB okS okL; rw [List.take_length, List.take_length]
            rw [List.isEmpty_cons, Bool.false_or]
            cases decide (S.length ≤ 24) <;> cases allB textB S <;> simp
          have hz2 : Hid (okL (okS S S.length && ((c :: r).length == 2)) (c :: r) 0 = (okS S S.length && ((c :: r).length == 2))) := by
            show _ = _
            simp [okL, allB]
          generalize hl : c :: r = l at *
          have hne : l.isEmpty = false := by rw [← hl]; rfl
          clear hl
          rw [show (!l.isEmpty) = true from by rw [hne]; rfl]
          have hlb : l.length ≤ 9223372036854775807 := by omega
          cases hb : okS S S.length
          · rw [hb] at hfin hz2
            simp only [Bool.false_and] at hfin hz2
            go_wp2_with fail
            go_loop [8, 10] (fun ok i => ∃ k : Nat, k ≤ l.length ∧ i = .int .i64 k ∧ ok = .bool (okL false l k)) (fun _ i => l.length - (intOf i).toNat)
            case atStart => exact ⟨0, Nat.zero_le _, rfl, by rw [hz2.out]⟩
            case round =>
              obtain ⟨k, hk, rfl, rfl⟩ := hrel
              have hf : okL false l k = false := rfl
              by_cases hlt : k < l.length
              · go_wp2
                exact ⟨⟨k + 1, by omega, by go_num, rfl⟩, by simp [intOf]; omega⟩
              · go_wp2
                go_meet
                case rel => exact ⟨by rw [hfin.out]; rfl, rfl⟩
          · rw [hb] at hfin hz2
            simp only [Bool.true_and] at hfin hz2
            cases h2 : (l.length == 2)
            · rw [h2] at hfin hz2
              have h2' : ((l.length : Int) == 2) = false := by
                rw [beq_eq_false_iff_ne] at h2 ⊢; omega
              clear h2
              go_wp2_with fail
              go_loop [8, 10] (fun ok i => ∃ k : Nat, k ≤ l.length ∧ i = .int .i64 k ∧ ok = .bool (okL false l k)) (fun _ i => l.length - (intOf i).toNat)
              case atStart => exact ⟨0, Nat.zero_le _, rfl, by rw [hz2.out]⟩
              case round =>
                obtain ⟨k, hk, rfl, rfl⟩ := hrel
                have hf : okL false l k = false := rfl
                by_cases hlt : k < l.length
                · go_wp2
                  exact ⟨⟨k + 1, by omega, by go_num, rfl⟩, by simp [intOf]; omega⟩
                · go_wp2
                  go_meet
                  case rel => exact ⟨by rw [hfin.out]; rfl, rfl⟩
            · rw [h2] at hfin hz2
              have h2' : ((l.length : Int) == 2) = true := by
                rw [beq_iff_eq] at h2 ⊢; omega
              clear h2
              go_wp2_with fail
              go_loop [8, 10] (fun ok i => ∃ k : Nat, k ≤ l.length ∧ i = .int .i64 k ∧ ok = .bool (okL true l k)) (fun _ i => l.length - (intOf i).toNat)
              case atStart => exact ⟨0, Nat.zero_le _, rfl, by rw [hz2.out]⟩
              case round =>
                obtain ⟨k, hk, rfl, rfl⟩ := hrel
                by_cases hlt : k < l.length
                · have hidx : ∀ h, (⟨l.toArray⟩ : ByteArray)[k]'h = l[k] := fun _ => rfl
                  have Hn : Hid (okL true l (k + 1) = (okL true l k && letB (l[k].toNat : Int))) := okL_next true l k hlt
                  cases hb : okL true l k
                  · go_wp2
                    exact ⟨⟨k + 1, by omega, by go_num, by rw [Hn.out, hb]; rfl⟩, by simp [intOf]; omega⟩
                  · by_cases h1 : 97 ≤ (l[k].toNat : Int)
                    · go_wp2
                      refine ⟨⟨k + 1, by omega, by go_num, ?_⟩, by simp [intOf]; omega⟩
                      rw [Hn.out, hb]
                      exact congrArg Value.bool (decide_eq_decide.2 (by omega))
                    · go_wp2
                      refine ⟨⟨k + 1, by omega, by go_num, ?_⟩, by simp [intOf]; omega⟩
                      rw [Hn.out, hb]
                      exact congrArg Value.bool (decide_eq_false (by omega)).symm
                · have hk' : k = l.length := by omega
                  subst hk'
                  go_wp2
                  go_meet
                  case rel => exact ⟨by rw [hfin.out], rfl⟩
      case rest =>
        obtain ⟨rfl, rfl⟩ := hcut
        cases hc : finB S L
        · have hn : (checkN 3 S L == 0) = false := Hfin.out.trans hc
          go_wp2_with fail
          go_ret
          exact ⟨rfl, bstep (balloc _ _) hb2⟩
        · have hn : (checkN 3 S L == 0) = true := Hfin.out.trans hc
          have hn0 : checkN 3 S L = 0 := by simpa using hn
          have e : printL 3 S L = showL 3 S L := if_pos hn0
          have Hp : Hid (parseT (printL 3 S L) = (3, S, L) ∧ parseN (printL 3 S L) = 0) := by
            rw [e]; exact ⟨(parse_show 3 S L hn0).2, (parse_show 3 S L hn0).1⟩
          have hlen : (printL 3 S L).length ≤ 140737488355328 := by
            rw [e]; exact show_len 3 S L hn0
          have hmin : S.length + 2 ≤ (printL 3 S L).length := by
            rw [e]; exact text_len S L
          have h34 : ∀ h, (⟨(printL 3 S L).toArray⟩ : ByteArray)[0]'h = 34 := by
            rw [e]; exact fun _ => rfl
          clear e hn0
          have hz : w.heap.size < wc.heap.size := by have := hb2.size; simp at this; omega
          go_wp2_with fail
          refine (Parse_any (printL 3 S L) _ hlen).mono ?_
          rintro e w3 ⟨rfl, hb3⟩
          rw [Hp.out.1, Hp.out.2]
          simp only [termV]
          have hb23 := bstep hb2 hb3
          obtain ⟨ht3, htf3⟩ := kept1 hb23
          have hz3 : w.heap.size < w3.heap.size := by have := hb23.size; simp at this; omega
          clear ht htf
          go_wp2_with fail
          have hcl := cmp_lang S L
          refine (Compare_any 3 S L 3 S [] _).mono ?_
          rintro e w4 ⟨rfl, hb4⟩
          go_wp2_with fail
          go_ret
          exact ⟨rfl, bstep (bstep (bstep (bstep (balloc _ _) hb23) (balloc _ _)) (balloc _ _)) hb4⟩
end Go.Proofs.Ytibgelpkogdgkaa
