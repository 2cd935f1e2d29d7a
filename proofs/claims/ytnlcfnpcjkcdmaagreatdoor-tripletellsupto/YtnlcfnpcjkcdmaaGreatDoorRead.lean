/- readLang, readText, read: a text cut into the parts of a term. -/
import Derived.Test.YtnlcfnpcjkcdmaaGreatDoorUnquote
namespace Go.Proofs.YtnlcfnpcjkcdmaaGreatDoor
open Go Go.RowKit Go.Proofs

theorem cut_yes (c : UInt8) (r : List UInt8) (w : World) :
    Calls Tryz.prog 101 #[.string ⟨(c :: r).toArray⟩, .string ⟨#[c]⟩] w fun e w' => e = .returned (.tuple #[.string ⟨r.toArray⟩, .bool true]) ∧ w' = w := by
  refine (Tryz.strings_CutPrefix ⟨(c :: r).toArray⟩ ⟨#[c]⟩ w).mono ?_
  rintro e w' ⟨rfl, rfl⟩
  have h : Lib.hasPrefix (c :: r) [c] = true := by simp [Lib.hasPrefix]
  have h2 : Lib.trimPrefix (c :: r) [c] = r := by simp [Lib.trimPrefix, h]
  exact ⟨ret_two (by show Value.string ⟨(Lib.trimPrefix (c :: r) [c]).toArray⟩ = _; rw [h2]) (by show Value.bool (Lib.hasPrefix (c :: r) [c]) = _; rw [h]), rfl⟩

theorem cut_no (c d : UInt8) (r : List UInt8) (w : World) (hne : d ≠ c) :
    Calls Tryz.prog 101 #[.string ⟨(d :: r).toArray⟩, .string ⟨#[c]⟩] w fun e w' => e = .returned (.tuple #[.string ⟨(d :: r).toArray⟩, .bool false]) ∧ w' = w := by
  refine (Tryz.strings_CutPrefix ⟨(d :: r).toArray⟩ ⟨#[c]⟩ w).mono ?_
  rintro e w' ⟨rfl, rfl⟩
  have h : Lib.hasPrefix (d :: r) [c] = false := by show ((c == d) && _) = false; simp [Ne.symm hne]
  have h2 : Lib.trimPrefix (d :: r) [c] = d :: r := by simp [Lib.trimPrefix, h]
  exact ⟨ret_two (by show Value.string ⟨(Lib.trimPrefix (d :: r) [c]).toArray⟩ = _; rw [h2]) (by show Value.bool (Lib.hasPrefix (d :: r) [c]) = _; rw [h]), rfl⟩

theorem cut_nil (c : UInt8) (w : World) :
    Calls Tryz.prog 101 #[.string ⟨#[]⟩, .string ⟨#[c]⟩] w fun e w' => e = .returned (.tuple #[.string ⟨#[]⟩, .bool false]) ∧ w' = w := by
  refine (Tryz.strings_CutPrefix ⟨#[]⟩ ⟨#[c]⟩ w).mono ?_
  rintro e w' ⟨rfl, rfl⟩
  exact ⟨ret_two rfl rfl, rfl⟩

def langR (l : List UInt8) : Option (List UInt8) := match l with
  | [] => some []
  | c :: r => if c = 64 then (if langOk r then some r else none) else none
def langV (o : Option (List UInt8)) : Value := match o with
  | none => .tuple #[.string ⟨#[]⟩, .bool false]
  | some l => .tuple #[.string ⟨l.toArray⟩, .bool true]

theorem readLang_any (l : List UInt8) (w : World) (hl : l.length ≤ 140737488355328) :
    Calls Tryz.prog 115 #[.string ⟨l.toArray⟩] w fun e w' => e = .returned (langV (langR l)) ∧ Below w.heap.size w w' := by
  cases l with
  | nil =>
    go_enter Tryz.func115, Tryz.ntmps115
    go_wp2
    go_ret2
    exact ⟨rfl, Below.refl _ _⟩
  | cons c r =>
    simp only [List.length_cons] at hl
    by_cases hc : c = 64
    · subst hc
      have hr : r.length ≤ maxLen := by unfold maxLen; omega
      cases hk : langOk r
      · have fin : Hid (langV (langR (64 :: r)) = .tuple #[.string ⟨#[]⟩, .bool false]) := by
          show _ = _; simp [langR, hk, langV]
        go_enter Tryz.func115, Tryz.ntmps115
        go_wp2_with (first
          | (go_at_call 101; refine (cut_yes 64 r _).mono ?_; rintro e w' ⟨rfl, rfl⟩)
          | (go_at_call 61; refine (isLang_any r _ hr).mono ?_; rintro e w' ⟨rfl, rfl⟩))
        go_ret2
        exact ⟨ret_val fin.out.symm, Below.refl _ _⟩
      · have fin : Hid (langV (langR (64 :: r)) = .tuple #[.string ⟨r.toArray⟩, .bool true]) := by
          show _ = _; simp [langR, hk, langV]
        go_enter Tryz.func115, Tryz.ntmps115
        go_wp2_with (first
          | (go_at_call 101; refine (cut_yes 64 r _).mono ?_; rintro e w' ⟨rfl, rfl⟩)
          | (go_at_call 61; refine (isLang_any r _ hr).mono ?_; rintro e w' ⟨rfl, rfl⟩)
          | (go_at_call 65; refine (Clone_any r _ (by omega)).mono ?_; rintro e w' ⟨rfl, hb⟩))
        go_ret2
        exact ⟨ret_val fin.out.symm, hb⟩
    · have fin : Hid (langV (langR (c :: r)) = .tuple #[.string ⟨#[]⟩, .bool false]) := by
        show _ = _; simp [langR, hc, langV]
      go_enter Tryz.func115, Tryz.ntmps115
      go_wp2_with (first
        | (go_at_call 101; refine (cut_no 64 c r _ hc).mono ?_; rintro e w' ⟨rfl, rfl⟩))
      go_ret2
      exact ⟨ret_val fin.out.symm, Below.refl _ _⟩

/-- how long the parts are that are read -/
theorem unqL_len (n : Nat) : ∀ (l s b : List UInt8), l.length ≤ n → unqL l = some (s, b) → s.length + b.length < l.length := by
  induction n with
  | zero => intro l s b hl h; cases l with
    | nil => simp [unqL] at h
    | cons => simp at hl
  | succ n ih =>
    intro l s b hl h
    cases l with
    | nil => simp [unqL] at h
    | cons c r =>
      rw [unqL_cons] at h
      simp only [List.length_cons] at hl ⊢
      by_cases hc : c = 34
      · simp [hc] at h; obtain ⟨rfl, rfl⟩ := h; simp
      · rw [if_neg hc] at h
        by_cases hm : c = 92
        · rw [if_pos hm] at h
          cases r with
          | nil => simp at h
          | cons d r' =>
            simp only at h
            cases hb : markB (d.toNat : Int)
            · simp [hb] at h
            · simp only [hb, if_true, Option.map_eq_some_iff] at h
              obtain ⟨⟨s', b'⟩, h1, h2⟩ := h
              simp only [Prod.mk.injEq] at h2
              obtain ⟨rfl, rfl⟩ := h2
              have := ih r' s' b' (by simp at hl; omega) h1
              simp; omega
        · rw [if_neg hm, Option.map_eq_some_iff] at h
          obtain ⟨⟨s', b'⟩, h1, h2⟩ := h
          simp only [Prod.mk.injEq] at h2
          obtain ⟨rfl, rfl⟩ := h2
          have := ih r s' b' (by omega) h1
          simp; omega

theorem bset3 {w w1 : World} (h : Below w.heap.size w w1) (a b c : Value) : Below w.heap.size w (((w1.setCell ⟨w.heap.size, 0, none⟩ a).setCell ⟨w.heap.size, 1, none⟩ b).setCell ⟨w.heap.size, 2, none⟩ c) :=
  ((h.setCell (p := ⟨w.heap.size, 0, none⟩) (Nat.le_refl _) a).setCell (p := ⟨w.heap.size, 1, none⟩) (Nat.le_refl _) b).setCell (p := ⟨w.heap.size, 2, none⟩) (Nat.le_refl _) c

def readTextL (l : List UInt8) : Option (List UInt8 × List UInt8) := match unqL l with
  | none => none
  | some p => match langR p.2 with
    | none => none
    | some L => some (p.1, L)
def textV (o : Option (List UInt8 × List UInt8)) : Value := match o with
  | none => .tuple #[.agg #[.int .i64 0, .string ⟨#[]⟩, .string ⟨#[]⟩], .bool false]
  | some p => .tuple #[.agg #[.int .i64 3, .string ⟨p.1.toArray⟩, .string ⟨p.2.toArray⟩], .bool true]

set_option maxHeartbeats 1000000 in
theorem readText_any (l : List UInt8) (w : World) (hl : l.length ≤ 140737488355328) :
    Calls Tryz.prog 102 #[.string ⟨l.toArray⟩] w fun e w' => e = .returned (textV (readTextL l)) ∧ Below w.heap.size w w' := by
  cases hu : unqL l with
  | none =>
    have fin : Hid (textV (readTextL l) = .tuple #[.agg #[.int .i64 0, .string ⟨#[]⟩, .string ⟨#[]⟩], .bool false]) := by
      show _ = _; simp [readTextL, hu, textV]
    have Hu : Hid (unqL l = none) := hu
    clear hu
    go_enter Tryz.func102, Tryz.ntmps102
    go_wp2_with fail
    refine (unquote_any l _ hl).mono ?_
    rintro e w1 ⟨rfl, hb1⟩
    rw [Hu.out]
    obtain ⟨hc1, hf1⟩ := bcell hb1
    simp only [unqV]
    go_wp2_with fail
    refine bodyPost_ret (v := .tuple #[.agg #[.int .i64 0, .string ⟨#[]⟩, .string ⟨#[]⟩], .bool false]) (by simp [results, Tryz.results102, go_sem, hc1]) rfl ⟨ret_val fin.out.symm, bset3 (bstep (balloc _ _) hb1) _ _ _⟩
  | some p =>
    have hlen := unqL_len l.length l p.1 p.2 (Nat.le_refl _) hu
    cases hr : langR p.2 with
    | none =>
      have fin : Hid (textV (readTextL l) = .tuple #[.agg #[.int .i64 0, .string ⟨#[]⟩, .string ⟨#[]⟩], .bool false]) := by
        show _ = _; simp [readTextL, hu, hr, textV]
      have Hu : Hid (unqL l = some p) := hu
      have Hr : Hid (langR p.2 = none) := hr
      clear hu hr
      go_enter Tryz.func102, Tryz.ntmps102
      go_wp2_with fail
      refine (unquote_any l _ hl).mono ?_
      rintro e w1 ⟨rfl, hb1⟩
      rw [Hu.out]
      simp only [unqV]
      go_wp2_with fail
      refine (readLang_any p.2 _ (by omega)).mono ?_
      rintro e w2 ⟨rfl, hb2⟩
      rw [Hr.out]
      simp only [langV]
      have hb12 := bstep hb1 hb2
      obtain ⟨hc1, hf1⟩ := bcell hb12
      clear hb1 hb2
      go_wp2_with fail
      refine bodyPost_ret (v := .tuple #[.agg #[.int .i64 0, .string ⟨#[]⟩, .string ⟨#[]⟩], .bool false]) (by simp [results, Tryz.results102, go_sem, hc1]) rfl ⟨ret_val fin.out.symm, bset3 (bstep (balloc _ _) hb12) _ _ _⟩
    | some L =>
      have fin : Hid (textV (readTextL l) = .tuple #[.agg #[.int .i64 3, .string ⟨p.1.toArray⟩, .string ⟨L.toArray⟩], .bool true]) := by
        show _ = _; simp [readTextL, hu, hr, textV]
      have Hu : Hid (unqL l = some p) := hu
      have Hr : Hid (langR p.2 = some L) := hr
      clear hu hr
      go_enter Tryz.func102, Tryz.ntmps102
      go_wp2_with fail
      refine (unquote_any l _ hl).mono ?_
      rintro e w1 ⟨rfl, hb1⟩
      rw [Hu.out]
      simp only [unqV]
      go_wp2_with fail
      refine (readLang_any p.2 _ (by omega)).mono ?_
      rintro e w2 ⟨rfl, hb2⟩
      rw [Hr.out]
      simp only [langV]
      have hb12 := bstep hb1 hb2
      obtain ⟨hc1, hf1⟩ := bcell hb12
      clear hb1 hb2
      go_wp2_with fail
      exact bodyPost_ret (v := .tuple #[.agg #[.int .i64 3, .string ⟨p.1.toArray⟩, .string ⟨L.toArray⟩], .bool true]) (by simp [results, Tryz.results102, go_sem, hc1]) rfl ⟨ret_val fin.out.symm, bset3 (bstep (balloc _ _) hb12) _ _ _⟩

/-- the parts of a term: its Kind, S and Lang -/
def readL (l : List UInt8) : Option (Int × List UInt8 × List UInt8) := match l with
  | [] => some (1, [], [])
  | c :: r => if c = 95 then some (2, r, []) else if c = 34 then (readTextL r).map (fun p => (3, p.1, p.2)) else some (1, c :: r, [])
def readV (o : Option (Int × List UInt8 × List UInt8)) : Value := match o with
  | none => .tuple #[.agg #[.int .i64 0, .string ⟨#[]⟩, .string ⟨#[]⟩], .bool false]
  | some p => .tuple #[.agg #[.int .i64 p.1, .string ⟨p.2.1.toArray⟩, .string ⟨p.2.2.toArray⟩], .bool true]

theorem read_nil (w : World) :
    Calls Tryz.prog 71 #[.string ⟨#[]⟩] w fun e w' => e = .returned (.tuple #[.agg #[.int .i64 1, .string ⟨#[]⟩, .string ⟨#[]⟩], .bool true]) ∧ Below w.heap.size w w' := by
  go_enter Tryz.func71, Tryz.ntmps71
  go_wp2_with fail
  refine (cut_nil 95 _).mono ?_
  rintro e w1 ⟨rfl, rfl⟩
  go_wp2_with fail
  refine (cut_nil 34 _).mono ?_
  rintro e w1 ⟨rfl, rfl⟩
  go_wp2_with fail
  refine (Clone_any [] _ (by simp)).mono ?_
  rintro e w1 ⟨rfl, hb1⟩
  obtain ⟨hc1, hf1⟩ := bcell hb1
  go_wp2_with fail
  exact bodyPost_ret (v := .tuple #[.agg #[.int .i64 1, .string ⟨#[]⟩, .string ⟨#[]⟩], .bool true]) (by simp [results, Tryz.results71, go_sem, hc1]) rfl ⟨rfl, bset3 (bstep (balloc _ _) hb1) _ _ _⟩

theorem read_anon (r : List UInt8) (w : World) (hl : r.length ≤ 140737488355328) :
    Calls Tryz.prog 71 #[.string ⟨(95 :: r).toArray⟩] w fun e w' => e = .returned (.tuple #[.agg #[.int .i64 2, .string ⟨r.toArray⟩, .string ⟨#[]⟩], .bool true]) ∧ Below w.heap.size w w' := by
  go_enter Tryz.func71, Tryz.ntmps71
  go_wp2_with fail
  refine (cut_yes 95 r _).mono ?_
  rintro e w1 ⟨rfl, rfl⟩
  go_wp2_with fail
  refine (Clone_any r _ (by omega)).mono ?_
  rintro e w1 ⟨rfl, hb1⟩
  obtain ⟨hc1, hf1⟩ := bcell hb1
  go_wp2_with fail
  exact bodyPost_ret (v := .tuple #[.agg #[.int .i64 2, .string ⟨r.toArray⟩, .string ⟨#[]⟩], .bool true]) (by simp [results, Tryz.results71, go_sem, hc1]) rfl ⟨rfl, bset3 (bstep (balloc _ _) hb1) _ _ _⟩

theorem read_name (c : UInt8) (r : List UInt8) (w : World) (hl : r.length ≤ 140737488355328) (h1 : c ≠ 95) (h2 : c ≠ 34) :
    Calls Tryz.prog 71 #[.string ⟨(c :: r).toArray⟩] w fun e w' => e = .returned (.tuple #[.agg #[.int .i64 1, .string ⟨(c :: r).toArray⟩, .string ⟨#[]⟩], .bool true]) ∧ Below w.heap.size w w' := by
  go_enter Tryz.func71, Tryz.ntmps71
  go_wp2_with fail
  refine (cut_no 95 c r _ h1).mono ?_
  rintro e w1 ⟨rfl, rfl⟩
  go_wp2_with fail
  refine (cut_no 34 c r _ h2).mono ?_
  rintro e w1 ⟨rfl, rfl⟩
  go_wp2_with fail
  refine (Clone_any (c :: r) _ (by simp; omega)).mono ?_
  rintro e w1 ⟨rfl, hb1⟩
  obtain ⟨hc1, hf1⟩ := bcell hb1
  go_wp2_with fail
  exact bodyPost_ret (v := .tuple #[.agg #[.int .i64 1, .string ⟨(c :: r).toArray⟩, .string ⟨#[]⟩], .bool true]) (by simp [results, Tryz.results71, go_sem, hc1]) rfl ⟨rfl, bset3 (bstep (balloc _ _) hb1) _ _ _⟩

theorem read_text (r : List UInt8) (w : World) (hl : r.length ≤ 140737488355328) :
    Calls Tryz.prog 71 #[.string ⟨(34 :: r).toArray⟩] w fun e w' => e = .returned (textV (readTextL r)) ∧ Below w.heap.size w w' := by
  cases hr : readTextL r with
  | none =>
    have Hr : Hid (readTextL r = none) := hr
    clear hr
    go_enter Tryz.func71, Tryz.ntmps71
    go_wp2_with fail
    refine (cut_no 95 34 r _ (by decide)).mono ?_
    rintro e w1 ⟨rfl, rfl⟩
    go_wp2_with fail
    refine (cut_yes 34 r _).mono ?_
    rintro e w1 ⟨rfl, rfl⟩
    go_wp2_with fail
    refine (readText_any r _ hl).mono ?_
    rintro e w1 ⟨rfl, hb1⟩
    rw [Hr.out]
    simp only [textV]
    obtain ⟨hc1, hf1⟩ := bcell hb1
    go_wp2_with fail
    exact bodyPost_ret (v := .tuple #[.agg #[.int .i64 0, .string ⟨#[]⟩, .string ⟨#[]⟩], .bool false]) (by simp [results, Tryz.results71, go_sem, hc1]) rfl ⟨rfl, bset3 (bstep (balloc _ _) hb1) _ _ _⟩
  | some p =>
    have Hr : Hid (readTextL r = some p) := hr
    clear hr
    go_enter Tryz.func71, Tryz.ntmps71
    go_wp2_with fail
    refine (cut_no 95 34 r _ (by decide)).mono ?_
    rintro e w1 ⟨rfl, rfl⟩
    go_wp2_with fail
    refine (cut_yes 34 r _).mono ?_
    rintro e w1 ⟨rfl, rfl⟩
    go_wp2_with fail
    refine (readText_any r _ hl).mono ?_
    rintro e w1 ⟨rfl, hb1⟩
    rw [Hr.out]
    simp only [textV]
    obtain ⟨hc1, hf1⟩ := bcell hb1
    go_wp2_with fail
    exact bodyPost_ret (v := .tuple #[.agg #[.int .i64 3, .string ⟨p.1.toArray⟩, .string ⟨p.2.toArray⟩], .bool true]) (by simp [results, Tryz.results71, go_sem, hc1]) rfl ⟨rfl, bset3 (bstep (balloc _ _) hb1) _ _ _⟩

theorem read_any (l : List UInt8) (w : World) (hl : l.length ≤ 140737488355328) :
    Calls Tryz.prog 71 #[.string ⟨l.toArray⟩] w fun e w' => e = .returned (readV (readL l)) ∧ Below w.heap.size w w' := by
  cases l with
  | nil => exact read_nil w
  | cons c r =>
    simp only [List.length_cons] at hl
    by_cases h1 : c = 95
    · subst h1; exact read_anon r w (by omega)
    · by_cases h2 : c = 34
      · subst h2
        refine (read_text r w (by omega)).mono ?_
        rintro e w' ⟨rfl, hb⟩
        refine ⟨ret_val ?_, hb⟩
        have e1 : readL (34 :: r) = (readTextL r).map (fun p => (3, p.1, p.2)) := rfl
        rw [e1]
        cases readTextL r <;> rfl
      · refine (read_name c r w (by omega) h1 h2).mono ?_
        rintro e w' ⟨rfl, hb⟩
        refine ⟨ret_val ?_, hb⟩
        have e1 : readL (c :: r) = some (1, c :: r, []) := by simp [readL, h1, h2]
        rw [e1]; rfl
end Go.Proofs.YtnlcfnpcjkcdmaaGreatDoor
