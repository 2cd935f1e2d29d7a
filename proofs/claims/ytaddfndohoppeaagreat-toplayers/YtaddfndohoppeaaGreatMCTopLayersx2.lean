import Derived.Test.YtaddfndohoppeaaGreatMCTopLayersx1
import Derived.Test.YtaddfndohoppeaaGreatMA0x4
import Derived.Outline
import Derived.Test.YtaddfndohoppeaaGreatMA0x1
import Derived.Test.YtaddfndohoppeaaGreatMA0x0
import Derived.Laws.DeepStrings4
import Derived.RegionTactic

/- A layer as text. -/
namespace Go.Proofs.YtaddfndohoppeaaGreat
open Go Go.RowKit Go.Proofs
set_option synthInstance.maxSize 1000

/-- a layer: what is added, what is taken -/
abbrev LyP := List Tr × List Tr
def markP (t : Bool) : UInt8 := if t = true then 45 else 43
def lineP (t : Bool) (x : Tr) : List UInt8 := markP t :: 32 :: (showTr x ++ [10])
def linesP (t : Bool) (m : List Tr) : List UInt8 := m.flatMap (lineP t)
def patchB (l : LyP) : List UInt8 := linesP true l.2 ++ linesP false l.1
theorem linesP_app (t : Bool) (a b : List Tr) : linesP t (a ++ b) = linesP t a ++ linesP t b := by simp [linesP]
theorem lineP_len (t : Bool) (x : Tr) : 1 ≤ (lineP t x).length := by simp [lineP]
theorem linesP_len (t : Bool) (m : List Tr) : m.length ≤ (linesP t m).length := by
  induction m with
  | nil => simp
  | cons x r ih =>
    have e : linesP t (x :: r) = lineP t x ++ linesP t r := by simp [linesP]
    have := lineP_len t x
    rw [e, List.length_append, List.length_cons]
    omega
/-- a layer that is right -/
structure GoodLy (l : LyP) : Prop where
  add : IsSet l.1
  take : IsSet l.2
  apart : ∀ x ∈ l.1, x ∉ l.2
/-! ### no line is broken -/
theorem allB_ge {p : Int → Bool} (hp : ∀ n, p n = true → 32 ≤ n) {l : List UInt8} (h : allB p l = true) : ∀ c ∈ l, c ≠ 10 := fun c hc e => by
  have h1 : p (c.toNat : Int) = true := by
    unfold allB at h
    rw [List.all_eq_true] at h
    exact h c hc
  have := hp _ h1
  subst e
  simp at this
theorem let_ge (n : Int) (h : letB n = true) : 32 ≤ n := by unfold letB at h; simp at h; omega
theorem name_ge (n : Int) (h : nameB n = true) : 32 ≤ n := by unfold nameB letB digB at h; simp at h; omega
theorem anon_ge (n : Int) (h : anonB n = true) : 32 ≤ n := by unfold anonB letB digB at h; simp at h; omega
theorem text_ge (n : Int) (h : textB n = true) : 32 ≤ n := by unfold textB at h; simp at h; omega
theorem esc_no10 {S : List UInt8} (h : ∀ c ∈ S, c ≠ 10) : ∀ c ∈ escL S, c ≠ 10 := by
  intro c hc
  unfold escL at hc
  obtain ⟨d, hd, hcd⟩ := List.mem_flatMap.1 hc
  split at hcd
  · rcases List.mem_cons.1 hcd with rfl | hcd
    · decide
    · simp at hcd; subst hcd; exact h c hd
  · simp at hcd; subst hcd; exact h c hd
theorem lang_no10 {L : List UInt8} (h : L = [] ∨ langOk L = true) : ∀ c ∈ markL L, c ≠ 10 := by
  cases L with
  | nil => simp [markL]
  | cons a r =>
    rcases h with h | h
    · cases h
    · unfold langOk at h
      simp only [Bool.and_eq_true] at h
      intro c hc
      rcases List.mem_cons.1 (show c ∈ 64 :: a :: r from hc) with rfl | hc
      · decide
      · exact allB_ge let_ge h.2 c hc
theorem term_no10 {k : Int} {S L : List UInt8} (h : checkN k S L = 0) : ∀ c ∈ showL k S L, c ≠ 10 := by
  obtain ⟨hk, _, hsp⟩ := check_zero h
  intro c hc
  unfold showL at hc
  unfold spellB at hsp
  rcases hk with rfl | rfl | rfl
  · simp at hc hsp
    have h2 := hsp.2
    unfold nameOk at h2
    cases S with
    | nil => simp at hc
    | cons a r => simp only [Bool.and_eq_true] at h2; exact allB_ge name_ge h2.2 c hc
  · simp at hc hsp
    rcases hc with rfl | hc
    · decide
    · have h2 := hsp.2
      unfold anonOk at h2
      cases S with
      | nil => simp at hc
      | cons a r => exact allB_ge anon_ge h2 c hc
  · simp at hc hsp
    have hS : ∀ c ∈ S, c ≠ 10 := allB_ge text_ge hsp.2
    have hL : L = [] ∨ langOk L = true := hsp.1
    rcases hc with hc | hc
    · unfold quoteL at hc
      rcases List.mem_cons.1 hc with rfl | hc
      · decide
      · rcases List.mem_append.1 hc with hc | hc
        · exact esc_no10 hS c hc
        · simp at hc; subst hc; decide
    · exact lang_no10 hL c hc
theorem show_no10 (x : Tr) (h : chkTr x = 0) : ∀ c ∈ showTr x, c ≠ 10 := by
  obtain ⟨h1, h2, h3, _⟩ := chk_zero h
  intro c hc
  unfold showTr joinUpto at hc
  simp at hc
  rcases hc with hc | rfl | hc | rfl | hc
  · exact term_no10 h1 c hc
  · decide
  · exact term_no10 h2 c hc
  · decide
  · exact term_no10 h3 c hc
/-! ### a text is short -/
theorem show_few {x : Tr} (h : chkTr x = 0) : (showTr x).length ≤ 3002 := by
  obtain ⟨h1, h2, h3, _⟩ := chk_zero h
  have e1 := show_short _ _ _ h1
  have e2 := show_short _ _ _ h2
  have e3 := show_short _ _ _ h3
  unfold showTr joinUpto
  simp
  omega
theorem lines_few (t : Bool) : ∀ (l : List Tr), (∀ x ∈ l, chkTr x = 0) → (linesP t l).length ≤ 3005 * l.length
  | [], _ => by simp [linesP]
  | x :: r, h => by
    have h1 := lines_few t r fun y hy => h y (List.mem_cons_of_mem _ hy)
    have h2 := show_few (h x (List.mem_cons_self ..))
    have e : linesP t (x :: r) = lineP t x ++ linesP t r := by simp [linesP]
    have e2 : (lineP t x).length = (showTr x).length + 3 := by simp [lineP]
    rw [e, List.length_append, List.length_cons]
    omega
theorem patch_len {l : LyP} (h : GoodLy l) : (patchB l).length ≤ 1202000 := by
  have h1 := lines_few false l.1 h.add.2.1
  have h2 := lines_few true l.2 h.take.2.1
  have h3 := h.add.1
  have h4 := h.take.1
  unfold patchB
  rw [List.length_append]
  omega
end Go.Proofs.YtaddfndohoppeaaGreat

/- unquote: up to the quote that ends a text. -/
namespace Go.Proofs.YtaddfndohoppeaaGreat
open Go Go.RowKit Go.Proofs

def unqL : List UInt8 → Option (List UInt8 × List UInt8)
  | [] => none
  | c :: r =>
    if c = 34 then some ([], r)
    else if c = 92 then
      match r with
      | [] => none
      | d :: r' => if markB (d.toNat : Int) then (unqL r').map (fun p => (d :: p.1, p.2)) else none
    else (unqL r).map (fun p => (c :: p.1, p.2))

theorem unqL_cons (c : UInt8) (r : List UInt8) : unqL (c :: r) = if c = 34 then some ([], r) else if c = 92 then (match r with | [] => none | d :: r' => if markB (d.toNat : Int) then (unqL r').map (fun p => (d :: p.1, p.2)) else none) else (unqL r).map (fun p => (c :: p.1, p.2)) := by
  cases r <;> rfl

def unqV (o : Option (List UInt8 × List UInt8)) : Value := match o with
  | none => .tuple #[.string ⟨#[]⟩, .string ⟨#[]⟩, .bool false]
  | some p => .tuple #[.string ⟨p.1.toArray⟩, .string ⟨p.2.toArray⟩, .bool true]

/-- what is read so far, and what is left to read -/
def unqAt (l : List UInt8) (k : Nat) (acc : List UInt8) : Prop := unqL l = (unqL (l.drop k)).map (fun p => (acc ++ p.1, p.2))

theorem unqAt_zero (l : List UInt8) : unqAt l 0 [] := by
  unfold unqAt; simp

theorem drop_at (l : List UInt8) (k : Nat) (h : k < l.length) : l.drop k = l[k] :: l.drop (k + 1) := List.drop_eq_getElem_cons h

theorem unqAt_end (l : List UInt8) (k : Nat) (acc : List UInt8) (h : unqAt l k acc) (hk : l.length ≤ k) : unqL l = none := by
  unfold unqAt at h
  rw [h, List.drop_eq_nil_of_le hk]; rfl

theorem unqAt_quote (l : List UInt8) (k : Nat) (acc : List UInt8) (h : unqAt l k acc) (hk : k < l.length) (hq : l[k] = 34) : unqL l = some (acc, l.drop (k + 1)) := by
  unfold unqAt at h
  rw [h, drop_at l k hk, hq, unqL_cons]; simp

theorem unqAt_plain (l : List UInt8) (k : Nat) (acc : List UInt8) (h : unqAt l k acc) (hk : k < l.length) (hq : l[k] ≠ 34) (hm : l[k] ≠ 92) : unqAt l (k + 1) (acc ++ [l[k]]) := by
  unfold unqAt at h ⊢
  rw [h, drop_at l k hk, unqL_cons, if_neg hq, if_neg hm, Option.map_map]
  congr 1
  funext p
  simp

theorem unqAt_cut (l : List UInt8) (k : Nat) (acc : List UInt8) (h : unqAt l k acc) (hk : k < l.length) (hm : l[k] = 92) (he : k + 1 = l.length) : unqL l = none := by
  unfold unqAt at h
  rw [h, drop_at l k hk, hm, List.drop_eq_nil_of_le (by omega), unqL_cons]; rfl

theorem unqAt_bad (l : List UInt8) (k : Nat) (acc : List UInt8) (h : unqAt l k acc) (hk : k + 1 < l.length) (hm : l[k] = 92) (hb : markB (l[k + 1].toNat : Int) = false) : unqL l = none := by
  unfold unqAt at h
  rw [h, drop_at l k (by omega), hm, drop_at l (k + 1) hk, unqL_cons, if_neg (by decide), if_pos rfl]; simp [hb]

theorem unqAt_mark (l : List UInt8) (k : Nat) (acc : List UInt8) (h : unqAt l k acc) (hk : k + 1 < l.length) (hm : l[k] = 92) (hb : markB (l[k + 1].toNat : Int) = true) : unqAt l (k + 2) (acc ++ [l[k + 1]]) := by
  unfold unqAt at h ⊢
  rw [h, drop_at l k (by omega), hm, drop_at l (k + 1) hk, unqL_cons, if_neg (by decide), if_pos rfl]
  simp only [hb, if_true, Option.map_map]
  congr 1
  funext p
  simp

theorem drop_extract (l : List UInt8) (k : Nat) : (⟨l.toArray⟩ : ByteArray).extract k l.length = ⟨(l.drop k).toArray⟩ := by
  apply ByteArray.ext
  rw [ByteArray.data_extract]
  simp
  exact List.take_of_length_le (by simp)

theorem bdrewB {B : Nat} {w w1 : World} (h : Below B w.drew w1) : Below B w w1 := ⟨h.os, h.tape, h.output, h.size, h.block⟩

theorem byte_eq (c d : UInt8) : ((c.toNat : Int) == (d.toNat : Int)) = (c == d) := by
  rw [Bool.eq_iff_iff]; simp [UInt8.toNat_inj, Int.natCast_inj]

set_option maxHeartbeats 2000000 in
set_option maxRecDepth 100000 in
theorem unquote_any (l : List UInt8) (w : World) (hl : l.length ≤ 140737488355328) :
    Calls Tryz.prog 245 #[.string ⟨l.toArray⟩] w fun e w' => e = .returned (unqV (unqL l)) ∧ Below w.heap.size w w' := by
  have hB0 := Lib.fresh_isBuilder 138 5 w
  go_enter Tryz.func245, Tryz.ntmps245
  go_wp2_with fail
  go_loopw [6] (fun i wr => ∃ (k : Nat) (acc : List UInt8), k ≤ l.length ∧ acc.length ≤ k ∧ i = .int .i64 k ∧ Hid (unqAt l k acc) ∧ Lib.IsBuilder 138 5 w.heap.size w.heap.size (Lib.byteCells acc) wr ∧ Below w.heap.size w wr) (fun i wr => l.length - (intOf i).toNat)
  case atStart => exact ⟨0, [], Nat.zero_le _, Nat.zero_le _, rfl, unqAt_zero l, hB0, balloc _ _⟩
  case round =>
    obtain ⟨k, acc, hk, hacc, rfl, hat, hI, hbr⟩ := hrel
    have hsz := hbr.size
    clear hB0
    by_cases hlt : k < l.length
    · have hidx : ∀ h, (⟨l.toArray⟩ : ByteArray)[k]'h = l[k] := fun _ => rfl
      by_cases hq : l[k] = 34
      · have fin : Hid (unqV (unqL l) = .tuple #[.string ⟨acc.toArray⟩, .string ⟨(l.drop (k + 1)).toArray⟩, .bool true]) := by
          show _ = _; rw [unqAt_quote l k acc hat.out hlt hq]; rfl
        have hq' : ((l[k].toNat : Int) == 34) = true := by rw [hq]; rfl
        clear hq
        go_wp2_with fail
        have hwr : IntKind.i64.wrap ((k : Int) + 1) = (k : Int) + 1 := by rw [IntKind.wrap_i64]; omega
        have hb1 : (k : Int) + 1 ≤ (l.length : Int) := by omega
        go_region_with (first
          | (go_at_call 67; refine (Tryz.Builder_String_any w.heap.size w.heap.size acc wr.drew hI hsz).mono ?_; rintro e w2 ⟨rfl, hb2⟩))
        all_goals
          go_wp2
          go_ret3
          exact ⟨ret_val (by rw [fin.out, ← drop_extract]; rfl), hbr.trans (bdrewB hb2)⟩
      · have hq' : ((l[k].toNat : Int) == 34) = false := by
          have := byte_eq l[k] 34
          rw [show ((34 : UInt8).toNat : Int) = 34 from rfl] at this
          rw [this]; simpa using hq
        by_cases hm : l[k] = 92
        · have hm' : ((l[k].toNat : Int) == 92) = true := by rw [hm]; rfl
          by_cases he : k + 1 = l.length
          · have fin : Hid (unqV (unqL l) = .tuple #[.string ⟨#[]⟩, .string ⟨#[]⟩, .bool false]) := by
              show _ = _; rw [unqAt_cut l k acc hat.out hlt hm he]; rfl
            have he' : (((k : Int) + 1) == (l.length : Int)) = true := by rw [beq_iff_eq]; omega
            clear hq hm he
            go_wp2
            go_ret3
            exact ⟨ret_val fin.out.symm, hbr⟩
          · have he' : (((k : Int) + 1) == (l.length : Int)) = false := by rw [beq_eq_false_iff_ne]; omega
            have hlt1 : k + 1 < l.length := by omega
            have hidx1 : ∀ h, (⟨l.toArray⟩ : ByteArray)[k + 1]'h = l[k + 1] := fun _ => rfl
            cases hb : markB (l[k + 1].toNat : Int)
            · have fin : Hid (unqV (unqL l) = .tuple #[.string ⟨#[]⟩, .string ⟨#[]⟩, .bool false]) := by
                show _ = _; rw [unqAt_bad l k acc hat.out hlt1 hm hb]; rfl
              clear hq hm he
              go_wp2_with (first | (go_at_call 213; refine (isMarked_any _ _).mono ?_; rintro e w' ⟨rfl, rfl⟩))
              go_ret3
              exact ⟨ret_val fin.out.symm, hbr⟩
            · have hnext : Hid (unqAt l (k + 2) (acc ++ [l[k + 1]])) := unqAt_mark l k acc hat.out hlt1 hm hb
              clear hq hm he
              go_wp2_with (first | (go_at_call 213; refine (isMarked_any _ _).mono ?_; rintro e w' ⟨rfl, rfl⟩))
              refine (WriteByte_any w.heap.size w.heap.size _ _ _ hI (by simp [Lib.byteCells]; omega) hsz).mono ?_
              rintro e w2 ⟨rfl, hI2, hb2⟩
              rw [cells_snoc] at hI2
              go_wp2_with fail
              exact ⟨⟨k + 2, _, by omega, by simp; omega, by go_num, hnext, Or.inr hI2, hbr.trans hb2⟩, by simp [intOf]; omega⟩
        · have hm' : ((l[k].toNat : Int) == 92) = false := by
            have := byte_eq l[k] 92
            rw [show ((92 : UInt8).toNat : Int) = 92 from rfl] at this
            rw [this]; simpa using hm
          have hnext : Hid (unqAt l (k + 1) (acc ++ [l[k]])) := unqAt_plain l k acc hat.out hlt hq hm
          clear hq hm
          go_wp2_with fail
          refine (WriteByte_any w.heap.size w.heap.size _ _ _ hI (by simp [Lib.byteCells]; omega) hsz).mono ?_
          rintro e w2 ⟨rfl, hI2, hb2⟩
          rw [cells_snoc] at hI2
          go_wp2_with fail
          exact ⟨⟨k + 1, _, by omega, by simp; omega, by go_num, hnext, Or.inr hI2, hbr.trans hb2⟩, by simp [intOf]; omega⟩
    · have fin : Hid (unqV (unqL l) = .tuple #[.string ⟨#[]⟩, .string ⟨#[]⟩, .bool false]) := by
        show _ = _; rw [unqAt_end l k acc hat.out (by omega)]; rfl
      go_wp2
      go_ret3
      exact ⟨ret_val fin.out.symm, hbr⟩
end Go.Proofs.YtaddfndohoppeaaGreat

/- readLang, readText, read: a text cut into the parts of a term. -/
namespace Go.Proofs.YtaddfndohoppeaaGreat
open Go Go.RowKit Go.Proofs

theorem cut_yes (c : UInt8) (r : List UInt8) (w : World) :
    Calls Tryz.prog 104 #[.string ⟨(c :: r).toArray⟩, .string ⟨#[c]⟩] w fun e w' => e = .returned (.tuple #[.string ⟨r.toArray⟩, .bool true]) ∧ w' = w := by
  refine (Tryz.strings_CutPrefix ⟨(c :: r).toArray⟩ ⟨#[c]⟩ w).mono ?_
  rintro e w' ⟨rfl, rfl⟩
  have h : Lib.hasPrefix (c :: r) [c] = true := by simp [Lib.hasPrefix]
  have h2 : Lib.trimPrefix (c :: r) [c] = r := by simp [Lib.trimPrefix, h]
  exact ⟨ret_two (by show Value.string ⟨(Lib.trimPrefix (c :: r) [c]).toArray⟩ = _; rw [h2]) (by show Value.bool (Lib.hasPrefix (c :: r) [c]) = _; rw [h]), rfl⟩

theorem cut_no (c d : UInt8) (r : List UInt8) (w : World) (hne : d ≠ c) :
    Calls Tryz.prog 104 #[.string ⟨(d :: r).toArray⟩, .string ⟨#[c]⟩] w fun e w' => e = .returned (.tuple #[.string ⟨(d :: r).toArray⟩, .bool false]) ∧ w' = w := by
  refine (Tryz.strings_CutPrefix ⟨(d :: r).toArray⟩ ⟨#[c]⟩ w).mono ?_
  rintro e w' ⟨rfl, rfl⟩
  have h : Lib.hasPrefix (d :: r) [c] = false := by show ((c == d) && _) = false; simp [Ne.symm hne]
  have h2 : Lib.trimPrefix (d :: r) [c] = d :: r := by simp [Lib.trimPrefix, h]
  exact ⟨ret_two (by show Value.string ⟨(Lib.trimPrefix (d :: r) [c]).toArray⟩ = _; rw [h2]) (by show Value.bool (Lib.hasPrefix (d :: r) [c]) = _; rw [h]), rfl⟩

theorem cut_nil (c : UInt8) (w : World) :
    Calls Tryz.prog 104 #[.string ⟨#[]⟩, .string ⟨#[c]⟩] w fun e w' => e = .returned (.tuple #[.string ⟨#[]⟩, .bool false]) ∧ w' = w := by
  refine (Tryz.strings_CutPrefix ⟨#[]⟩ ⟨#[c]⟩ w).mono ?_
  rintro e w' ⟨rfl, rfl⟩
  exact ⟨ret_two rfl rfl, rfl⟩

def langR (l : List UInt8) : Option (List UInt8) := match l with
  | [] => some []
  | c :: r => if c = 64 then (if langOk r then some r else none) else none
def langV (o : Option (List UInt8)) : Value := match o with
  | none => .tuple #[.string ⟨#[]⟩, .bool false]
  | some l => .tuple #[.string ⟨l.toArray⟩, .bool true]

theorem readLang_any (l : List UInt8) (w : World) (hl : l.length ≤ 140737488355328) :
    Calls Tryz.prog 246 #[.string ⟨l.toArray⟩] w fun e w' => e = .returned (langV (langR l)) ∧ Below w.heap.size w w' := by
  cases l with
  | nil =>
    go_enter Tryz.func246, Tryz.ntmps246
    go_wp2
    go_ret2
    exact ⟨rfl, Below.refl _ _⟩
  | cons c r =>
    simp only [List.length_cons] at hl
    by_cases hc : c = 64
    · subst hc
      have hr : r.length ≤ maxLen := by unfold maxLen; omega
      cases hk : langOk r
      · have fin : Hid (langV (langR (64 :: r)) = .tuple #[.string ⟨#[]⟩, .bool false]) := by
          show _ = _; simp [langR, hk, langV]
        go_enter Tryz.func246, Tryz.ntmps246
        go_wp2_with (first
          | (go_at_call 104; refine (cut_yes 64 r _).mono ?_; rintro e w' ⟨rfl, rfl⟩)
          | (go_at_call 168; refine (isLang_any r _ hr).mono ?_; rintro e w' ⟨rfl, rfl⟩))
        go_ret2
        exact ⟨ret_val fin.out.symm, Below.refl _ _⟩
      · have fin : Hid (langV (langR (64 :: r)) = .tuple #[.string ⟨r.toArray⟩, .bool true]) := by
          show _ = _; simp [langR, hk, langV]
        go_enter Tryz.func246, Tryz.ntmps246
        go_wp2_with (first
          | (go_at_call 104; refine (cut_yes 64 r _).mono ?_; rintro e w' ⟨rfl, rfl⟩)
          | (go_at_call 168; refine (isLang_any r _ hr).mono ?_; rintro e w' ⟨rfl, rfl⟩)
          | (go_at_call 57; refine (Clone_any r _ (by omega)).mono ?_; rintro e w' ⟨rfl, hb⟩))
        go_ret2
        exact ⟨ret_val fin.out.symm, hb⟩
    · have fin : Hid (langV (langR (c :: r)) = .tuple #[.string ⟨#[]⟩, .bool false]) := by
        show _ = _; simp [langR, hc, langV]
      go_enter Tryz.func246, Tryz.ntmps246
      go_wp2_with (first
        | (go_at_call 104; refine (cut_no 64 c r _ hc).mono ?_; rintro e w' ⟨rfl, rfl⟩))
      go_ret2
      exact ⟨ret_val fin.out.symm, Below.refl _ _⟩

/-- how long the parts are that are read -/
theorem unqL_len (n : Nat) : ∀ (l s b : List UInt8), l.length ≤ n → unqL l = some (s, b) → s.length + b.length < l.length := by
  induction n with
  | zero => intro l s b hl h; cases l with
    | nil => simp [unqL] at h
    | cons => simp at hl
  | succ n ih =>
    intro l s b hl h
    cases l with
    | nil => simp [unqL] at h
    | cons c r =>
      rw [unqL_cons] at h
      simp only [List.length_cons] at hl ⊢
      by_cases hc : c = 34
      · simp [hc] at h; obtain ⟨rfl, rfl⟩ := h; simp
      · rw [if_neg hc] at h
        by_cases hm : c = 92
        · rw [if_pos hm] at h
          cases r with
          | nil => simp at h
          | cons d r' =>
            simp only at h
            cases hb : markB (d.toNat : Int)
            · simp [hb] at h
            · simp only [hb, if_true, Option.map_eq_some_iff] at h
              obtain ⟨⟨s', b'⟩, h1, h2⟩ := h
              simp only [Prod.mk.injEq] at h2
              obtain ⟨rfl, rfl⟩ := h2
              have := ih r' s' b' (by simp at hl; omega) h1
              simp; omega
        · rw [if_neg hm, Option.map_eq_some_iff] at h
          obtain ⟨⟨s', b'⟩, h1, h2⟩ := h
          simp only [Prod.mk.injEq] at h2
          obtain ⟨rfl, rfl⟩ := h2
          have := ih r s' b' (by omega) h1
          simp; omega

theorem bset3 {w w1 : World} (h : Below w.heap.size w w1) (a b c : Value) : Below w.heap.size w (((w1.setCell ⟨w.heap.size, 0, none⟩ a).setCell ⟨w.heap.size, 1, none⟩ b).setCell ⟨w.heap.size, 2, none⟩ c) :=
  ((h.setCell (p := ⟨w.heap.size, 0, none⟩) (Nat.le_refl _) a).setCell (p := ⟨w.heap.size, 1, none⟩) (Nat.le_refl _) b).setCell (p := ⟨w.heap.size, 2, none⟩) (Nat.le_refl _) c

def readTextL (l : List UInt8) : Option (List UInt8 × List UInt8) := match unqL l with
  | none => none
  | some p => match langR p.2 with
    | none => none
    | some L => some (p.1, L)
def textV (o : Option (List UInt8 × List UInt8)) : Value := match o with
  | none => .tuple #[.agg #[.int .i64 0, .string ⟨#[]⟩, .string ⟨#[]⟩], .bool false]
  | some p => .tuple #[.agg #[.int .i64 3, .string ⟨p.1.toArray⟩, .string ⟨p.2.toArray⟩], .bool true]

set_option maxHeartbeats 1000000 in
theorem readText_any (l : List UInt8) (w : World) (hl : l.length ≤ 140737488355328) :
    Calls Tryz.prog 243 #[.string ⟨l.toArray⟩] w fun e w' => e = .returned (textV (readTextL l)) ∧ Below w.heap.size w w' := by
  cases hu : unqL l with
  | none =>
    have fin : Hid (textV (readTextL l) = .tuple #[.agg #[.int .i64 0, .string ⟨#[]⟩, .string ⟨#[]⟩], .bool false]) := by
      show _ = _; simp [readTextL, hu, textV]
    have Hu : Hid (unqL l = none) := hu
    clear hu
    go_enter Tryz.func243, Tryz.ntmps243
    go_wp2_with fail
    refine (unquote_any l _ hl).mono ?_
    rintro e w1 ⟨rfl, hb1⟩
    rw [Hu.out]
    obtain ⟨hc1, hf1⟩ := bcell hb1
    simp only [unqV]
    go_wp2_with fail
    refine bodyPost_ret (v := .tuple #[.agg #[.int .i64 0, .string ⟨#[]⟩, .string ⟨#[]⟩], .bool false]) (by simp [results, Tryz.results243, go_sem, hc1]) rfl ⟨ret_val fin.out.symm, bset3 (bstep (balloc _ _) hb1) _ _ _⟩
  | some p =>
    have hlen := unqL_len l.length l p.1 p.2 (Nat.le_refl _) hu
    cases hr : langR p.2 with
    | none =>
      have fin : Hid (textV (readTextL l) = .tuple #[.agg #[.int .i64 0, .string ⟨#[]⟩, .string ⟨#[]⟩], .bool false]) := by
        show _ = _; simp [readTextL, hu, hr, textV]
      have Hu : Hid (unqL l = some p) := hu
      have Hr : Hid (langR p.2 = none) := hr
      clear hu hr
      go_enter Tryz.func243, Tryz.ntmps243
      go_wp2_with fail
      refine (unquote_any l _ hl).mono ?_
      rintro e w1 ⟨rfl, hb1⟩
      rw [Hu.out]
      simp only [unqV]
      go_wp2_with fail
      refine (readLang_any p.2 _ (by omega)).mono ?_
      rintro e w2 ⟨rfl, hb2⟩
      rw [Hr.out]
      simp only [langV]
      have hb12 := bstep hb1 hb2
      obtain ⟨hc1, hf1⟩ := bcell hb12
      clear hb1 hb2
      go_wp2_with fail
      refine bodyPost_ret (v := .tuple #[.agg #[.int .i64 0, .string ⟨#[]⟩, .string ⟨#[]⟩], .bool false]) (by simp [results, Tryz.results243, go_sem, hc1]) rfl ⟨ret_val fin.out.symm, bset3 (bstep (balloc _ _) hb12) _ _ _⟩
    | some L =>
      have fin : Hid (textV (readTextL l) = .tuple #[.agg #[.int .i64 3, .string ⟨p.1.toArray⟩, .string ⟨L.toArray⟩], .bool true]) := by
        show _ = _; simp [readTextL, hu, hr, textV]
      have Hu : Hid (unqL l = some p) := hu
      have Hr : Hid (langR p.2 = some L) := hr
      clear hu hr
      go_enter Tryz.func243, Tryz.ntmps243
      go_wp2_with fail
      refine (unquote_any l _ hl).mono ?_
      rintro e w1 ⟨rfl, hb1⟩
      rw [Hu.out]
      simp only [unqV]
      go_wp2_with fail
      refine (readLang_any p.2 _ (by omega)).mono ?_
      rintro e w2 ⟨rfl, hb2⟩
      rw [Hr.out]
      simp only [langV]
      have hb12 := bstep hb1 hb2
      obtain ⟨hc1, hf1⟩ := bcell hb12
      clear hb1 hb2
      go_wp2_with fail
      exact bodyPost_ret (v := .tuple #[.agg #[.int .i64 3, .string ⟨p.1.toArray⟩, .string ⟨L.toArray⟩], .bool true]) (by simp [results, Tryz.results243, go_sem, hc1]) rfl ⟨ret_val fin.out.symm, bset3 (bstep (balloc _ _) hb12) _ _ _⟩

/-- the parts of a term: its Kind, S and Lang -/
def readL (l : List UInt8) : Option (Int × List UInt8 × List UInt8) := match l with
  | [] => some (1, [], [])
  | c :: r => if c = 95 then some (2, r, []) else if c = 34 then (readTextL r).map (fun p => (3, p.1, p.2)) else some (1, c :: r, [])
def readV (o : Option (Int × List UInt8 × List UInt8)) : Value := match o with
  | none => .tuple #[.agg #[.int .i64 0, .string ⟨#[]⟩, .string ⟨#[]⟩], .bool false]
  | some p => .tuple #[.agg #[.int .i64 p.1, .string ⟨p.2.1.toArray⟩, .string ⟨p.2.2.toArray⟩], .bool true]

theorem read_nil (w : World) :
    Calls Tryz.prog 233 #[.string ⟨#[]⟩] w fun e w' => e = .returned (.tuple #[.agg #[.int .i64 1, .string ⟨#[]⟩, .string ⟨#[]⟩], .bool true]) ∧ Below w.heap.size w w' := by
  go_enter Tryz.func233, Tryz.ntmps233
  go_wp2_with fail
  refine (cut_nil 95 _).mono ?_
  rintro e w1 ⟨rfl, rfl⟩
  go_wp2_with fail
  refine (cut_nil 34 _).mono ?_
  rintro e w1 ⟨rfl, rfl⟩
  go_wp2_with fail
  refine (Clone_any [] _ (by simp)).mono ?_
  rintro e w1 ⟨rfl, hb1⟩
  obtain ⟨hc1, hf1⟩ := bcell hb1
  go_wp2_with fail
  exact bodyPost_ret (v := .tuple #[.agg #[.int .i64 1, .string ⟨#[]⟩, .string ⟨#[]⟩], .bool true]) (by simp [results, Tryz.results233, go_sem, hc1]) rfl ⟨rfl, bset3 (bstep (balloc _ _) hb1) _ _ _⟩

theorem read_anon (r : List UInt8) (w : World) (hl : r.length ≤ 140737488355328) :
    Calls Tryz.prog 233 #[.string ⟨(95 :: r).toArray⟩] w fun e w' => e = .returned (.tuple #[.agg #[.int .i64 2, .string ⟨r.toArray⟩, .string ⟨#[]⟩], .bool true]) ∧ Below w.heap.size w w' := by
  go_enter Tryz.func233, Tryz.ntmps233
  go_wp2_with fail
  refine (cut_yes 95 r _).mono ?_
  rintro e w1 ⟨rfl, rfl⟩
  go_wp2_with fail
  refine (Clone_any r _ (by omega)).mono ?_
  rintro e w1 ⟨rfl, hb1⟩
  obtain ⟨hc1, hf1⟩ := bcell hb1
  go_wp2_with fail
  exact bodyPost_ret (v := .tuple #[.agg #[.int .i64 2, .string ⟨r.toArray⟩, .string ⟨#[]⟩], .bool true]) (by simp [results, Tryz.results233, go_sem, hc1]) rfl ⟨rfl, bset3 (bstep (balloc _ _) hb1) _ _ _⟩

theorem read_name (c : UInt8) (r : List UInt8) (w : World) (hl : r.length ≤ 140737488355328) (h1 : c ≠ 95) (h2 : c ≠ 34) :
    Calls Tryz.prog 233 #[.string ⟨(c :: r).toArray⟩] w fun e w' => e = .returned (.tuple #[.agg #[.int .i64 1, .string ⟨(c :: r).toArray⟩, .string ⟨#[]⟩], .bool true]) ∧ Below w.heap.size w w' := by
  go_enter Tryz.func233, Tryz.ntmps233
  go_wp2_with fail
  refine (cut_no 95 c r _ h1).mono ?_
  rintro e w1 ⟨rfl, rfl⟩
  go_wp2_with fail
  refine (cut_no 34 c r _ h2).mono ?_
  rintro e w1 ⟨rfl, rfl⟩
  go_wp2_with fail
  refine (Clone_any (c :: r) _ (by simp; omega)).mono ?_
  rintro e w1 ⟨rfl, hb1⟩
  obtain ⟨hc1, hf1⟩ := bcell hb1
  go_wp2_with fail
  exact bodyPost_ret (v := .tuple #[.agg #[.int .i64 1, .string ⟨(c :: r).toArray⟩, .string ⟨#[]⟩], .bool true]) (by simp [results, Tryz.results233, go_sem, hc1]) rfl ⟨rfl, bset3 (bstep (balloc _ _) hb1) _ _ _⟩

theorem read_text (r : List UInt8) (w : World) (hl : r.length ≤ 140737488355328) :
    Calls Tryz.prog 233 #[.string ⟨(34 :: r).toArray⟩] w fun e w' => e = .returned (textV (readTextL r)) ∧ Below w.heap.size w w' := by
  cases hr : readTextL r with
  | none =>
    have Hr : Hid (readTextL r = none) := hr
    clear hr
    go_enter Tryz.func233, Tryz.ntmps233
    go_wp2_with fail
    refine (cut_no 95 34 r _ (by decide)).mono ?_
    rintro e w1 ⟨rfl, rfl⟩
    go_wp2_with fail
    refine (cut_yes 34 r _).mono ?_
    rintro e w1 ⟨rfl, rfl⟩
    go_wp2_with fail
    refine (readText_any r _ hl).mono ?_
    rintro e w1 ⟨rfl, hb1⟩
    rw [Hr.out]
    simp only [textV]
    obtain ⟨hc1, hf1⟩ := bcell hb1
    go_wp2_with fail
    exact bodyPost_ret (v := .tuple #[.agg #[.int .i64 0, .string ⟨#[]⟩, .string ⟨#[]⟩], .bool false]) (by simp [results, Tryz.results233, go_sem, hc1]) rfl ⟨rfl, bset3 (bstep (balloc _ _) hb1) _ _ _⟩
  | some p =>
    have Hr : Hid (readTextL r = some p) := hr
    clear hr
    go_enter Tryz.func233, Tryz.ntmps233
    go_wp2_with fail
    refine (cut_no 95 34 r _ (by decide)).mono ?_
    rintro e w1 ⟨rfl, rfl⟩
    go_wp2_with fail
    refine (cut_yes 34 r _).mono ?_
    rintro e w1 ⟨rfl, rfl⟩
    go_wp2_with fail
    refine (readText_any r _ hl).mono ?_
    rintro e w1 ⟨rfl, hb1⟩
    rw [Hr.out]
    simp only [textV]
    obtain ⟨hc1, hf1⟩ := bcell hb1
    go_wp2_with fail
    exact bodyPost_ret (v := .tuple #[.agg #[.int .i64 3, .string ⟨p.1.toArray⟩, .string ⟨p.2.toArray⟩], .bool true]) (by simp [results, Tryz.results233, go_sem, hc1]) rfl ⟨rfl, bset3 (bstep (balloc _ _) hb1) _ _ _⟩

theorem read_any (l : List UInt8) (w : World) (hl : l.length ≤ 140737488355328) :
    Calls Tryz.prog 233 #[.string ⟨l.toArray⟩] w fun e w' => e = .returned (readV (readL l)) ∧ Below w.heap.size w w' := by
  cases l with
  | nil => exact read_nil w
  | cons c r =>
    simp only [List.length_cons] at hl
    by_cases h1 : c = 95
    · subst h1; exact read_anon r w (by omega)
    · by_cases h2 : c = 34
      · subst h2
        refine (read_text r w (by omega)).mono ?_
        rintro e w' ⟨rfl, hb⟩
        refine ⟨ret_val ?_, hb⟩
        have e1 : readL (34 :: r) = (readTextL r).map (fun p => (3, p.1, p.2)) := rfl
        rw [e1]
        cases readTextL r <;> rfl
      · refine (read_name c r w (by omega) h1 h2).mono ?_
        rintro e w' ⟨rfl, hb⟩
        refine ⟨ret_val ?_, hb⟩
        have e1 : readL (c :: r) = some (1, c :: r, []) := by simp [readL, h1, h2]
        rw [e1]; rfl
end Go.Proofs.YtaddfndohoppeaaGreat

/- Parse: a text as a term. -/
namespace Go.Proofs.YtaddfndohoppeaaGreat
open Go Go.RowKit Go.Proofs

def termV (p : Int × List UInt8 × List UInt8) : Value := .agg #[.int .i64 p.1, .string ⟨p.2.1.toArray⟩, .string ⟨p.2.2.toArray⟩]

theorem readL_len (l : List UInt8) (p : Int × List UInt8 × List UInt8) (h : readL l = some p) : p.2.1.length ≤ l.length ∧ p.2.2.length ≤ l.length := by
  cases l with
  | nil => simp [readL] at h; subst h; simp
  | cons c r =>
    by_cases h1 : c = 95
    · simp [readL, h1] at h; subst h; simp
    · by_cases h2 : c = 34
      · subst h2
        have e1 : readL (34 :: r) = (readTextL r).map (fun p => (3, p.1, p.2)) := rfl
        rw [e1, Option.map_eq_some_iff] at h
        obtain ⟨q, hq, rfl⟩ := h
        unfold readTextL at hq
        cases hu : unqL r with
        | none => simp [hu] at hq
        | some u =>
          have := unqL_len r.length r u.1 u.2 (Nat.le_refl _) hu
          simp only [hu] at hq
          cases hr : langR u.2 with
          | none => simp [hr] at hq
          | some L =>
            simp [hr] at hq
            subst hq
            have hL : L.length ≤ u.2.length := by
              cases hu2 : u.2 with
              | nil => rw [hu2] at hr; simp [langR] at hr; subst hr; simp
              | cons d t =>
                rw [hu2] at hr
                by_cases hd : d = 64
                · cases hk : langOk t
                  · simp [langR, hd, hk] at hr
                  · simp [langR, hd, hk] at hr; subst hr; simp
                · simp [langR, hd] at hr
            simp only [List.length_cons]
            omega
      · simp [readL, h1, h2] at h; subst h; simp

theorem bnew {w w1 : World} (h : Below w.heap.size w w1) (o : Obj) : Below w.heap.size w (w1.alloc o) := bstep h (balloc _ _)

/-- the block that a call laid last ahead of another one reads behind that as it did -/
theorem kept1 {w w2 : World} {o : Obj} (hb : Below (w.alloc o).heap.size (w.alloc o) w2) :
    (∀ j, w2.cell? ⟨w.heap.size, j, none⟩ = (w.alloc o).cell? ⟨w.heap.size, j, none⟩) ∧ (∀ j, w2.frozen? ⟨w.heap.size, j, none⟩ = (w.alloc o).frozen? ⟨w.heap.size, j, none⟩) :=
  ⟨fun j => (bcell hb).1 _ j (by simp), fun j => (bcell hb).2 _ j (by simp)⟩
/-- .. and the block that was laid ahead of a call ahead of it -/
theorem kept2 {w w1 w2 : World} {o o' : Obj} (hb1 : Below (w.alloc o).heap.size (w.alloc o) w1) (hb2 : Below (w1.alloc o').heap.size (w1.alloc o') w2) (hz : w.heap.size < w1.heap.size) :
    (∀ j, w2.cell? ⟨w.heap.size, j, none⟩ = (w.alloc o).cell? ⟨w.heap.size, j, none⟩) ∧ (∀ j, w2.frozen? ⟨w.heap.size, j, none⟩ = (w.alloc o).frozen? ⟨w.heap.size, j, none⟩) :=
  ⟨fun j => ((bcell hb2).1 _ j (by simp; omega)).trans (((bcell (balloc w1 o')).1 _ j hz).trans ((bcell hb1).1 _ j (by simp))),
   fun j => ((bcell hb2).2 _ j (by simp; omega)).trans (((bcell (balloc w1 o')).2 _ j hz).trans ((bcell hb1).2 _ j (by simp)))⟩

set_option maxHeartbeats 1000000 in
theorem Any_none (l : List UInt8) (w : World) (hl : l.length ≤ 140737488355328) (hr : readL l = none) :
    Calls Tryz.prog 216 #[.string ⟨l.toArray⟩] w fun e w' => e = .returned (.tuple #[.agg #[.int .i64 0, .string ⟨#[]⟩, .string ⟨#[]⟩], .iface 82 (.int .i64 2)]) ∧ Below w.heap.size w w' := by
  have Hr : Hid (readL l = none) := hr
  clear hr
  go_enter Tryz.func216, Tryz.ntmps216
  go_wp2_with fail
  refine (read_any l _ hl).mono ?_
  rintro e w1 ⟨rfl, hb1⟩
  rw [Hr.out]
  simp only [readV]
  obtain ⟨hc1, hf1⟩ := bcell hb1
  have hz : w.heap.size < w1.heap.size := by have := hb1.size; simp at this; omega
  go_wp2_with fail
  exact bodyPost_ret (v := .tuple #[.agg #[.int .i64 0, .string ⟨#[]⟩, .string ⟨#[]⟩], .iface 82 (.int .i64 2)]) (by simp [results, Tryz.results216, go_sem, hc1, hz]) rfl ⟨rfl, bnew (bset3 (bstep (balloc _ _) hb1) _ _ _) _⟩

set_option maxHeartbeats 1000000 in
theorem Any_wrong (l : List UInt8) (k : Int) (S L : List UInt8) (w : World) (hl : l.length ≤ 140737488355328) (hr : readL l = some (k, S, L)) (hS : S.length ≤ l.length) (hL : L.length ≤ l.length) (hsp : spellB k S L = false) :
    Calls Tryz.prog 216 #[.string ⟨l.toArray⟩] w fun e w' => e = .returned (.tuple #[.agg #[.int .i64 0, .string ⟨#[]⟩, .string ⟨#[]⟩], .iface 82 (.int .i64 2)]) ∧ Below w.heap.size w w' := by
  have Hr : Hid (readL l = some (k, S, L)) := hr
  clear hr
  have hs' : S.length ≤ maxLen := by unfold maxLen; omega
  have hl' : L.length ≤ maxLen := by unfold maxLen; omega
  go_enter Tryz.func216, Tryz.ntmps216
  go_wp2_with fail
  refine (read_any l _ hl).mono ?_
  rintro e w1 ⟨rfl, hb1⟩
  rw [Hr.out]
  simp only [readV]
  have hz : w.heap.size < w1.heap.size := by have := hb1.size; simp at this; omega
  go_wp2_with fail
  refine (spelled_any k S L _ hs' hl').mono ?_
  rintro e w2 ⟨rfl, hb2⟩
  obtain ⟨hw, hwf⟩ := kept2 hb1 hb2 hz
  go_wp2_with fail
  exact bodyPost_ret (v := .tuple #[.agg #[.int .i64 0, .string ⟨#[]⟩, .string ⟨#[]⟩], .iface 82 (.int .i64 2)]) (by simp [results, Tryz.results216, go_sem, hw]) rfl ⟨rfl, bset3 (bstep (bstep (bstep (balloc _ _) hb1) (balloc _ _)) hb2) _ _ _⟩

set_option maxHeartbeats 1000000 in
theorem Any_good (l : List UInt8) (k : Int) (S L : List UInt8) (w : World) (hl : l.length ≤ 140737488355328) (hr : readL l = some (k, S, L)) (hS : S.length ≤ l.length) (hL : L.length ≤ l.length) (hsp : spellB k S L = true) :
    Calls Tryz.prog 216 #[.string ⟨l.toArray⟩] w fun e w' => e = .returned (.tuple #[.agg #[.int .i64 k, .string ⟨S.toArray⟩, .string ⟨L.toArray⟩], .nilIface]) ∧ Below w.heap.size w w' := by
  have Hr : Hid (readL l = some (k, S, L)) := hr
  clear hr
  have hs' : S.length ≤ maxLen := by unfold maxLen; omega
  have hl' : L.length ≤ maxLen := by unfold maxLen; omega
  go_enter Tryz.func216, Tryz.ntmps216
  go_wp2_with fail
  refine (read_any l _ hl).mono ?_
  rintro e w1 ⟨rfl, hb1⟩
  rw [Hr.out]
  simp only [readV]
  have hz : w.heap.size < w1.heap.size := by have := hb1.size; simp at this; omega
  go_wp2_with fail
  refine (spelled_any k S L _ hs' hl').mono ?_
  rintro e w2 ⟨rfl, hb2⟩
  obtain ⟨hw, hwf⟩ := kept2 hb1 hb2 hz
  obtain ⟨ht3, htf3⟩ := kept1 hb2
  go_wp2_with fail
  exact bodyPost_ret (v := .tuple #[.agg #[.int .i64 k, .string ⟨S.toArray⟩, .string ⟨L.toArray⟩], .nilIface]) (by simp [results, Tryz.results216, go_sem, hw]) rfl ⟨rfl, bset3 (bstep (bstep (bstep (balloc _ _) hb1) (balloc _ _)) hb2) _ _ _⟩

/-- what a text of whatever length is -/
def anyN (l : List UInt8) : Int := match readL l with
  | none => 2
  | some p => if spellB p.1 p.2.1 p.2.2 = false then 2 else 0
def anyT (l : List UInt8) : Int × List UInt8 × List UInt8 := match readL l with
  | none => (0, [], [])
  | some p => if spellB p.1 p.2.1 p.2.2 = false then (0, [], []) else p

theorem any_cases (l : List UInt8) : (anyN l = 2 ∧ anyT l = (0, [], [])) ∨ (anyN l = 0 ∧ readL l = some (anyT l) ∧ spellB (anyT l).1 (anyT l).2.1 (anyT l).2.2 = true ∧ (anyT l).2.1.length ≤ l.length ∧ (anyT l).2.2.length ≤ l.length) := by
  cases hr : readL l with
  | none => left; simp [anyN, anyT, hr]
  | some p =>
    cases hsp : spellB p.1 p.2.1 p.2.2
    · left; simp [anyN, anyT, hr, hsp]
    · right
      have e : anyT l = p := by simp [anyT, hr, hsp]
      rw [e]
      exact ⟨by simp [anyN, hr, hsp], rfl, hsp, readL_len l p hr⟩

theorem Any_any (l : List UInt8) (w : World) (hl : l.length ≤ 140737488355328) :
    Calls Tryz.prog 216 #[.string ⟨l.toArray⟩] w fun e w' => e = .returned (.tuple #[termV (anyT l), errV (anyN l)]) ∧ Below w.heap.size w w' := by
  cases hr : readL l with
  | none =>
    refine (Any_none l w hl hr).mono ?_
    rintro e w' ⟨rfl, hb⟩
    exact ⟨ret_two (by simp [anyT, hr, termV]) (by simp [anyN, hr, errV]), hb⟩
  | some p =>
    obtain ⟨k, S, L⟩ := p
    obtain ⟨hS, hL⟩ := readL_len l _ hr
    cases hsp : spellB k S L
    · refine (Any_wrong l k S L w hl hr hS hL hsp).mono ?_
      rintro e w' ⟨rfl, hb⟩
      exact ⟨ret_two (by simp [anyT, hr, hsp, termV]) (by simp [anyN, hr, hsp, errV]), hb⟩
    · refine (Any_good l k S L w hl hr hS hL hsp).mono ?_
      rintro e w' ⟨rfl, hb⟩
      exact ⟨ret_two (by simp [anyT, hr, hsp, termV]) (by simp [anyN, hr, hsp, errV]), hb⟩

end Go.Proofs.YtaddfndohoppeaaGreat

/- What is shown is read, what is read is shown; terms are in one order: plain lists, no program. -/
namespace Go.Proofs.YtaddfndohoppeaaGreat
open Go Go.RowKit Go.Proofs

theorem mark_cases (c : UInt8) : markB (c.toNat : Int) = true ↔ c = 34 ∨ c = 92 := by
  have h34 := byte_eq c 34
  have h92 := byte_eq c 92
  rw [show ((34 : UInt8).toNat : Int) = 34 from rfl] at h34
  rw [show ((92 : UInt8).toNat : Int) = 92 from rfl] at h92
  rw [Bool.eq_iff_iff] at h34 h92
  simp only [beq_iff_eq] at h34 h92
  simp [markB, h34, h92]

theorem escL_cons (c : UInt8) (r : List UInt8) : escL (c :: r) = (if markB (c.toNat : Int) then [92, c] else [c]) ++ escL r := by simp [escL]

theorem unq_esc (S b : List UInt8) : unqL (escL S ++ 34 :: b) = some (S, b) := by
  induction S with
  | nil => show unqL (34 :: b) = _; rw [unqL_cons]; simp
  | cons c r ih =>
    rw [escL_cons]
    cases hm : markB (c.toNat : Int)
    · have hne : ¬ (c = 34 ∨ c = 92) := fun h => by rw [(mark_cases c).2 h] at hm; cases hm
      simp only [Bool.false_eq_true, if_false, List.cons_append, List.nil_append]
      rw [unqL_cons, if_neg (fun h => hne (Or.inl h)), if_neg (fun h => hne (Or.inr h)), ih]
      rfl
    · simp only [if_true, List.cons_append, List.nil_append]
      rw [unqL_cons, if_neg (by decide), if_pos rfl]
      simp only [hm, if_true]
      rw [ih]
      rfl

theorem esc_unq (n : Nat) : ∀ (l s b : List UInt8), l.length ≤ n → unqL l = some (s, b) → l = escL s ++ 34 :: b := by
  induction n with
  | zero => intro l s b hl h; cases l with
    | nil => simp [unqL] at h
    | cons => simp at hl
  | succ n ih =>
    intro l s b hl h
    cases l with
    | nil => simp [unqL] at h
    | cons c r =>
      rw [unqL_cons] at h
      simp only [List.length_cons] at hl
      by_cases hc : c = 34
      · simp [hc] at h; obtain ⟨rfl, rfl⟩ := h; subst hc; rfl
      · rw [if_neg hc] at h
        by_cases hm : c = 92
        · rw [if_pos hm] at h
          cases r with
          | nil => simp at h
          | cons d r' =>
            simp only at h
            cases hb : markB (d.toNat : Int)
            · simp [hb] at h
            · simp only [hb, if_true, Option.map_eq_some_iff] at h
              obtain ⟨⟨s', b'⟩, h1, h2⟩ := h
              simp only [Prod.mk.injEq] at h2
              obtain ⟨rfl, rfl⟩ := h2
              have := ih r' s' b' (by simp at hl; omega) h1
              rw [escL_cons, hb, hm]
              simp [← this]
        · rw [if_neg hm, Option.map_eq_some_iff] at h
          obtain ⟨⟨s', b'⟩, h1, h2⟩ := h
          simp only [Prod.mk.injEq] at h2
          obtain ⟨rfl, rfl⟩ := h2
          have := ih r s' b' (by omega) h1
          have hm' : markB (c.toNat : Int) = false := by
            cases hx : markB (c.toNat : Int)
            · rfl
            · rcases (mark_cases c).1 hx with h | h
              · exact absurd h hc
              · exact absurd h hm
          rw [escL_cons, hm']
          simp [← this]

theorem langR_mark (L : List UInt8) (h : L = [] ∨ langOk L = true) : langR (markL L) = some L := by
  cases L with
  | nil => rfl
  | cons c r =>
    have hk : langOk (c :: r) = true := by rcases h with h | h; exact absurd h (by simp); exact h
    show langR (64 :: c :: r) = _
    simp [langR, hk]

theorem mark_langR (b L : List UInt8) (h : langR b = some L) : b = markL L ∧ (L = [] ∨ langOk L = true) := by
  cases b with
  | nil => simp [langR] at h; subst h; exact ⟨rfl, Or.inl rfl⟩
  | cons c r =>
    by_cases hc : c = 64
    · cases hk : langOk r
      · simp [langR, hc, hk] at h
      · simp [langR, hc, hk] at h
        subst h hc
        refine ⟨?_, Or.inr hk⟩
        cases r with
        | nil => simp [langOk] at hk
        | cons => rfl
    · simp [langR, hc] at h

theorem let_ne (c : UInt8) (h : letB (c.toNat : Int) = true) : c ≠ 95 ∧ c ≠ 34 := by
  refine ⟨?_, ?_⟩
  · rintro rfl; revert h; decide
  · rintro rfl; revert h; decide

theorem spell_text {S L : List UInt8} (h : spellB 3 S L = true) : L = [] ∨ langOk L = true := by
  have e : spellB 3 S L = ((L.isEmpty || langOk L) && textOk S) := rfl
  rw [e] at h
  simp only [Bool.and_eq_true, Bool.or_eq_true, List.isEmpty_iff] at h
  exact h.1

theorem read_show (k : Int) (S L : List UInt8) (hk : k = 1 ∨ k = 2 ∨ k = 3) (hsp : spellB k S L = true) : readL (showL k S L) = some (k, S, L) := by
  rcases hk with rfl | rfl | rfl
  · have e : spellB 1 S L = (L.isEmpty && nameOk S) := rfl
    rw [e] at hsp
    simp only [Bool.and_eq_true, List.isEmpty_iff] at hsp
    obtain ⟨rfl, hn⟩ := hsp
    cases S with
    | nil => simp [nameOk] at hn
    | cons c r =>
      simp only [nameOk, Bool.and_eq_true] at hn
      obtain ⟨h1, h2⟩ := let_ne c hn.1
      show readL (c :: r) = _
      simp [readL, h1, h2]
  · have e : spellB 2 S L = (L.isEmpty && anonOk S) := rfl
    rw [e] at hsp
    simp only [Bool.and_eq_true, List.isEmpty_iff] at hsp
    obtain ⟨rfl, hn⟩ := hsp
    rfl
  · have hL := spell_text hsp
    have e1 : showL 3 S L = 34 :: (escL S ++ 34 :: markL L) := by
      show quoteL S ++ markL L = _
      simp [quoteL]
    have e2 : readTextL (escL S ++ 34 :: markL L) = some (S, L) := by
      simp [readTextL, unq_esc, langR_mark L hL]
    rw [e1]
    show (readTextL (escL S ++ 34 :: markL L)).map _ = _
    rw [e2]; rfl

theorem show_read (l : List UInt8) (k : Int) (S L : List UInt8) (h : readL l = some (k, S, L)) : showL k S L = l ∧ (k = 1 ∨ k = 2 ∨ k = 3) := by
  cases l with
  | nil => simp [readL] at h; obtain ⟨rfl, rfl, rfl⟩ := h; exact ⟨rfl, Or.inl rfl⟩
  | cons c r =>
    by_cases h1 : c = 95
    · simp [readL, h1] at h; obtain ⟨rfl, rfl, rfl⟩ := h; subst h1; exact ⟨rfl, Or.inr (Or.inl rfl)⟩
    · by_cases h2 : c = 34
      · subst h2
        have e1 : readL (34 :: r) = (readTextL r).map (fun p => (3, p.1, p.2)) := rfl
        rw [e1, Option.map_eq_some_iff] at h
        obtain ⟨q, hq, h3⟩ := h
        simp only [Prod.mk.injEq] at h3
        obtain ⟨rfl, rfl, rfl⟩ := h3
        unfold readTextL at hq
        cases hu : unqL r with
        | none => simp [hu] at hq
        | some u =>
          simp only [hu] at hq
          cases hr : langR u.2 with
          | none => simp [hr] at hq
          | some L' =>
            simp [hr] at hq
            subst hq
            obtain ⟨hm, _⟩ := mark_langR _ _ hr
            have := esc_unq r.length r u.1 u.2 (Nat.le_refl _) hu
            refine ⟨?_, Or.inr (Or.inr rfl)⟩
            show quoteL u.1 ++ markL L' = _
            rw [← hm, this]
            simp [quoteL]
      · simp [readL, h1, h2] at h; obtain ⟨rfl, rfl, rfl⟩ := h; exact ⟨rfl, Or.inl rfl⟩

end Go.Proofs.YtaddfndohoppeaaGreat

/- Words: a text cut at the blanks that are in no quotes; plain lists, no program. -/
namespace Go.Proofs.YtaddfndohoppeaaGreat
open Go Go.RowKit Go.Proofs
set_option synthInstance.maxSize 1000

/-- behind the opening quotes: how far to behind the closing ones, or to the end -/
def qScan : List UInt8 → Nat
  | [] => 0
  | [c] => if c = 92 then 1 else 1
  | c :: d :: r => if c = 92 then 2 + qScan r else if c = 34 then 1 else 1 + qScan (d :: r)
def qEnd (l : List UInt8) : Nat := match l with
  | [] => 0
  | c :: r => if c = 34 then 1 + qScan r else 0

theorem qScan_le : ∀ l, qScan l ≤ l.length
  | [] => by simp [qScan]
  | [c] => by simp [qScan]
  | c :: d :: r => by
    have h1 := qScan_le r
    have h2 := qScan_le (d :: r)
    simp only [List.length_cons] at *
    unfold qScan
    repeat' split
    all_goals omega
theorem qEnd_le (l : List UInt8) : qEnd l ≤ l.length := by
  cases l with
  | nil => simp [qEnd]
  | cons c r =>
    have := qScan_le r
    unfold qEnd
    simp only [List.length_cons]
    split <;> omega

/-- a text cut at its first blank that is not between quotes -/
def cutW (l : List UInt8) : Option (List UInt8 × List UInt8) :=
  if Lib.indexByte (l.drop (qEnd l)) 32 < 0 then none else some (l.take (qEnd l + (Lib.indexByte (l.drop (qEnd l)) 32).toNat), l.drop (qEnd l + (Lib.indexByte (l.drop (qEnd l)) 32).toNat + 1))
theorem markB_iff (c : UInt8) : markB (c.toNat : Int) = true ↔ c = 34 ∨ c = 92 := by
  simp only [markB, decide_eq_true_eq]
  constructor
  · rintro (h | h)
    · left; exact UInt8.toNat_inj.1 (by simpa using (by omega : c.toNat = 34))
    · right; exact UInt8.toNat_inj.1 (by simpa using (by omega : c.toNat = 92))
  · rintro (rfl | rfl) <;> simp

theorem qScan_esc (S b : List UInt8) : qScan (escL S ++ 34 :: b) = (escL S).length + 1 := by
  induction S with
  | nil =>
    show qScan (34 :: b) = 1
    cases b <;> simp [qScan]
  | cons c r ih =>
    rw [escL_cons]
    cases hm : markB (c.toNat : Int)
    · have hc : ¬ (c = 34 ∨ c = 92) := fun h => by rw [(markB_iff c).2 h] at hm; simp at hm
      have h1 : c ≠ 92 := fun h => hc (Or.inr h)
      have h2 : c ≠ 34 := fun h => hc (Or.inl h)
      simp only [Bool.false_eq_true, if_false, List.cons_append, List.nil_append, List.length_cons]
      cases hx : escL r ++ 34 :: b with
      | nil => simp at hx
      | cons d q =>
        rw [qScan, if_neg h1, if_neg h2, ← hx, ih]
        omega
    · simp only [if_true, List.cons_append, List.nil_append, List.length_cons]
      rw [qScan, if_pos rfl, ih]
      omega

theorem indexByte_at (m r : List UInt8) (h : ∀ c ∈ m, c ≠ 32) : Lib.indexByte (m ++ 32 :: r) 32 = m.length := by
  induction m with
  | nil => simp [Lib.indexByte]
  | cons c q ih =>
    have hc : (c == 32) = false := by simpa using h c (by simp)
    have := ih (fun x hx => h x (by simp [hx]))
    rw [List.cons_append, Lib.indexByte, hc, this]
    have hne : (((q.length : Nat) : Int) == -1) = false := by simp
    rw [hne]
    simp

theorem cutW_of (u t r : List UInt8) (hq : qEnd (u ++ t ++ 32 :: r) = u.length) (ht : ∀ c ∈ t, c ≠ 32) : cutW (u ++ t ++ 32 :: r) = some (u ++ t, r) := by
  have hi : Lib.indexByte ((u ++ t ++ 32 :: r).drop (qEnd (u ++ t ++ 32 :: r))) 32 = t.length := by
    rw [hq, List.append_assoc, List.drop_left]
    exact indexByte_at t r ht
  unfold cutW
  rw [hi, if_neg (by omega), hq, Int.toNat_natCast]
  congr 1
  rw [Prod.mk.injEq]
  constructor
  · rw [show u.length + t.length = (u ++ t).length by simp, List.take_left]
  · rw [show u.length + t.length + 1 = (u ++ t ++ [32]).length by simp; omega, show u ++ t ++ 32 :: r = (u ++ t ++ [32]) ++ r by simp, List.drop_left]

theorem allB_mem {p : Int → Bool} {l : List UInt8} (h : allB p l = true) : ∀ c ∈ l, p (c.toNat : Int) = true := by
  intro c hc
  unfold allB at h
  rw [List.all_eq_true] at h
  exact h c hc

theorem cutW_show (k : Int) (S L r : List UInt8) (h : checkN k S L = 0) : cutW (showL k S L ++ 32 :: r) = some (showL k S L, r) := by
  obtain ⟨hk, hS, hsp⟩ := check_zero h
  rcases hk with rfl | rfl | rfl
  · have hs : showL 1 S L = S := rfl
    rw [hs]
    simp only [spellB, if_true, Bool.and_eq_true] at hsp
    cases S with
    | nil => simp [nameOk] at hsp
    | cons c q =>
      simp only [nameOk, Bool.and_eq_true] at hsp
      have h32 : ∀ x ∈ c :: q, x ≠ 32 := fun x hx e => by
        have := allB_mem hsp.2.2 x hx
        subst e
        simp [nameB, letB, digB] at this
      have h34 : c ≠ 34 := fun e => by
        have := hsp.2.1
        subst e
        simp [letB] at this
      exact cutW_of [] (c :: q) r (by simp [qEnd, h34]) h32
  · have hs : showL 2 S L = 95 :: S := rfl
    rw [hs]
    have hsp' : anonOk S = true := by simp [spellB] at hsp; exact hsp.2
    have h32 : ∀ x ∈ 95 :: S, x ≠ 32 := fun x hx e => by
      rcases List.mem_cons.1 hx with e' | hx'
      · rw [e] at e'; simp at e'
      · cases S with
        | nil => simp at hx'
        | cons c q =>
          have := allB_mem (show allB anonB (c :: q) = true from hsp') x hx'
          subst e
          simp [anonB, letB, digB] at this
    exact cutW_of [] (95 :: S) r (by simp [qEnd]) h32
  · have hs : showL 3 S L = quoteL S ++ markL L := rfl
    rw [hs]
    have hsp' : (L.isEmpty || langOk L) = true := by simp [spellB] at hsp; simp; exact hsp.1
    have h32 : ∀ x ∈ markL L, x ≠ 32 := fun x hx e => by
      cases L with
      | nil => simp [markL] at hx
      | cons c q =>
        have hl : langOk (c :: q) = true := by simpa using hsp'
        simp only [langOk, Bool.and_eq_true] at hl
        rcases List.mem_cons.1 (show x ∈ 64 :: c :: q from hx) with e' | hx'
        · rw [e] at e'; simp at e'
        · have := allB_mem hl.2 x hx'
          subst e
          simp [letB] at this
    refine cutW_of (quoteL S) (markL L) r ?_ h32
    have e : quoteL S ++ markL L ++ 32 :: r = 34 :: (escL S ++ 34 :: (markL L ++ 32 :: r)) := by simp [quoteL]
    rw [e]
    show (if (34 : UInt8) = 34 then 1 + qScan (escL S ++ 34 :: (markL L ++ 32 :: r)) else 0) = _
    rw [if_pos rfl, qScan_esc]
    simp [quoteL]
    omega


end Go.Proofs.YtaddfndohoppeaaGreat

/- quotesEnd, CutWord, cut: the texts of three terms. -/
namespace Go.Proofs.YtaddfndohoppeaaGreat
open Go Go.RowKit Go.Proofs

theorem qScan_mark (l : List UInt8) (k : Nat) (h : k + 1 < l.length) (hm : l[k] = 92) : qScan (l.drop k) = 2 + qScan (l.drop (k + 2)) := by
  rw [drop_at l k (by omega), drop_at l (k + 1) h, qScan, if_pos hm]
theorem qScan_mark_last (l : List UInt8) (k : Nat) (h : k + 1 = l.length) : qScan (l.drop k) = 1 := by
  rw [drop_at l k (by omega), List.drop_eq_nil_of_le (by omega)]
  simp [qScan]
theorem qScan_quote (l : List UInt8) (k : Nat) (h : k < l.length) (hm : l[k] = 34) : qScan (l.drop k) = 1 := by
  rw [drop_at l k h]
  cases hd : l.drop (k + 1) with
  | nil => simp [qScan]
  | cons d r => rw [qScan, hm]; rfl
theorem qScan_plain (l : List UInt8) (k : Nat) (h : k < l.length) (h1 : l[k] ≠ 92) (h2 : l[k] ≠ 34) : qScan (l.drop k) = 1 + qScan (l.drop (k + 1)) := by
  rw [drop_at l k h]
  cases hd : l.drop (k + 1) with
  | nil => simp [qScan]
  | cons d r => rw [qScan, if_neg h1, if_neg h2]

theorem byte_beq (c : UInt8) (n : UInt8) : ((c.toNat : Int) == (n.toNat : Int)) = (c == n) := by
  rw [Bool.eq_iff_iff]
  simp only [beq_iff_eq]
  constructor
  · intro h
    exact UInt8.toNat_inj.1 (by omega)
  · intro h; rw [h]

theorem hasP_nil : Lib.hasPrefix ([] : List UInt8) [34] = false := rfl
theorem hasP_cons (c : UInt8) (r : List UInt8) : Lib.hasPrefix (c :: r) [34] = (c == 34) := by
  show ((34 : UInt8) == c && true) = (c == 34)
  rw [Bool.and_true, Bool.eq_iff_iff]
  simp only [beq_iff_eq]
  exact eq_comm

set_option maxHeartbeats 1000000 in
theorem quotesEnd_any (l : List UInt8) (w : World) (hl : l.length ≤ 140737488355328) :
    Calls Tryz.prog 232 #[.string ⟨l.toArray⟩] w fun e w' => e = .returned (.int .i64 (qEnd l)) ∧ w' = w := by
  cases hpre : Lib.hasPrefix l [34]
  · have hp : Calls Tryz.prog 242 #[.string ⟨l.toArray⟩, .string ⟨#[34]⟩] w fun e w' => e = .returned (.bool false) ∧ w' = w := by
      have := Tryz.strings_HasPrefix ⟨l.toArray⟩ ⟨#[34]⟩ w
      rw [show Lib.hasPrefix (⟨l.toArray⟩ : ByteArray).data.toList (⟨#[34]⟩ : ByteArray).data.toList = Lib.hasPrefix l [34] from rfl, hpre] at this
      exact this
    have fin : Hid (qEnd l = 0) := by
      cases l with
      | nil => rfl
      | cons c r => rw [hasP_cons] at hpre; simp at hpre; simp [Hid, qEnd, hpre]
    go_enter Tryz.func232, Tryz.ntmps232
    go_wp2_with (go_at_call 242; refine hp.mono ?_; rintro e w' ⟨rfl, rfl⟩)
    go_ret
    exact ⟨ret_int (by rw [fin.out]; rfl), rfl⟩
  · have hp : Calls Tryz.prog 242 #[.string ⟨l.toArray⟩, .string ⟨#[34]⟩] w fun e w' => e = .returned (.bool true) ∧ w' = w := by
      have := Tryz.strings_HasPrefix ⟨l.toArray⟩ ⟨#[34]⟩ w
      rw [show Lib.hasPrefix (⟨l.toArray⟩ : ByteArray).data.toList (⟨#[34]⟩ : ByteArray).data.toList = Lib.hasPrefix l [34] from rfl, hpre] at this
      exact this
    obtain ⟨h1, fin⟩ : 1 ≤ l.length ∧ Hid (qEnd l = 1 + qScan (l.drop 1)) := by
      cases l with
      | nil => rw [hasP_nil] at hpre; simp at hpre
      | cons c r => rw [hasP_cons] at hpre; simp at hpre; simp [Hid, qEnd, hpre]
    clear hpre
    go_enter Tryz.func232, Tryz.ntmps232
    go_wp2_with (go_at_call 242; refine hp.mono ?_; rintro e w' ⟨rfl, rfl⟩)
    go_loop [3] (fun i => ∃ k : Nat, 1 ≤ k ∧ k ≤ l.length + 1 ∧ i = .int .i64 k ∧ Hid (k ≤ l.length → qEnd l = k + qScan (l.drop k)) ∧ Hid (k = l.length + 1 → qEnd l = l.length)) (fun i => l.length + 1 - (intOf i).toNat)
    case atStart => exact ⟨1, by omega, by omega, rfl, fun _ => fin.out, fun h => by omega⟩
    case round =>
      obtain ⟨k, hk1, hk, rfl, hA, hE⟩ := hrel
      by_cases hlt : k < l.length
      · have hidx : ∀ h, (⟨l.toArray⟩ : ByteArray)[k]'h = l[k] := fun _ => rfl
        cases hm : ((l[k].toNat : Int) == 92)
        · cases hq : ((l[k].toNat : Int) == 34)
          · go_wp2
            have n1 : l[k] ≠ 92 := by have := byte_beq l[k] 92; rw [show ((92 : UInt8).toNat : Int) = 92 from rfl, hm] at this; simpa using this.symm
            have n2 : l[k] ≠ 34 := by have := byte_beq l[k] 34; rw [show ((34 : UInt8).toNat : Int) = 34 from rfl, hq] at this; simpa using this.symm
            refine ⟨⟨k + 1, by omega, by omega, by go_num, fun _ => ?_, fun h => by omega⟩, by simp [intOf]; omega⟩
            rw [hA.out (by omega), qScan_plain l k hlt n1 n2]; omega
          · go_wp2
            go_ret
            have n2 : l[k] = 34 := by have := byte_beq l[k] 34; rw [show ((34 : UInt8).toNat : Int) = 34 from rfl, hq] at this; simpa using this.symm
            refine ⟨ret_int ?_, rfl⟩
            rw [hA.out (by omega), qScan_quote l k hlt n2]
            try go_num
        · have n1 : Hid (l[k] = 92) := by have := byte_beq l[k] 92; rw [show ((92 : UInt8).toNat : Int) = 92 from rfl, hm] at this; simpa [Hid] using this.symm
          go_wp2
          refine ⟨⟨k + 2, by omega, by omega, by go_num, fun h => ?_, fun h => ?_⟩, by simp [intOf]; omega⟩
          · by_cases h2 : k + 1 < l.length
            · rw [hA.out (by omega), qScan_mark l k h2 n1.out]; omega
            · omega
          · rw [hA.out (by omega), qScan_mark_last l k (by omega)]; omega
      · have fin2 : Hid (qEnd l = l.length) := by
          by_cases h : k = l.length + 1
          · exact hE.out h
          · have hk' : k = l.length := by omega
            have := hA.out (by omega)
            rw [hk', List.drop_length] at this
            simpa [Hid, qScan] using this
        go_wp2
        go_ret
        exact ⟨ret_int (by rw [fin2.out]), rfl⟩

theorem indexByte_lt (l : List UInt8) (c : UInt8) : Lib.indexByte l c < l.length := by
  induction l with
  | nil => simp [Lib.indexByte]
  | cons b r ih =>
    unfold Lib.indexByte
    simp only [List.length_cons]
    repeat' split
    all_goals omega

theorem take_extract (l : List UInt8) (k : Nat) : (⟨l.toArray⟩ : ByteArray).extract 0 k = ⟨(l.take k).toArray⟩ := by
  apply ByteArray.ext
  rw [ByteArray.data_extract]
  simp

set_option maxHeartbeats 1000000 in
theorem cutWord_none (l : List UInt8) (w : World) (hl : l.length ≤ 140737488355328) (h : cutW l = none) :
    Calls Tryz.prog 215 #[.string ⟨l.toArray⟩] w fun e w' => e = .returned (.tuple #[.string ⟨l.toArray⟩, .string ⟨#[]⟩, .bool false]) ∧ Below w.heap.size w w' := by
  have hq := fun W => quotesEnd_any l W hl
  have hle := qEnd_le l
  have hi : Calls Tryz.prog 102 #[.string ⟨(l.drop (qEnd l)).toArray⟩, .int .u8 32] w fun e w' => e = .returned (.int .i64 (Lib.indexByte (l.drop (qEnd l)) 32)) ∧ w' = w := Tryz.strings_IndexByte ⟨(l.drop (qEnd l)).toArray⟩ 32 w
  have hn : Lib.indexByte (l.drop (qEnd l)) 32 < 0 := by
    unfold cutW at h
    by_cases hh : Lib.indexByte (l.drop (qEnd l)) 32 < 0
    · exact hh
    · rw [if_neg hh] at h; simp at h
  have hd : decide (Lib.indexByte (l.drop (qEnd l)) 32 < 0) = true := by simpa using hn
  have hx := drop_extract l (qEnd l)
  generalize qEnd l = f at *
  have i0 : (0 : Int) ≤ (f : Int) := by omega
  have i1 : (f : Int) ≤ (l.length : Int) := by omega
  clear h
  go_enter Tryz.func215, Tryz.ntmps215
  go_wp2_with (first
    | (go_at_call 232; refine (hq _).mono ?_; rintro e w' ⟨rfl, rfl⟩)
    | (go_at_call 102; refine hi.mono ?_; rintro e w' ⟨rfl, rfl⟩))
  exact bodyPost_ret (v := .tuple #[.string ⟨l.toArray⟩, .string ⟨#[]⟩, .bool false]) (by simp [results, Tryz.results215, go_sem]) rfl ⟨rfl, Below.refl _ _⟩

set_option maxHeartbeats 1000000 in
theorem cutWord_some (l a r : List UInt8) (w : World) (hl : l.length ≤ 140737488355328) (h : cutW l = some (a, r)) :
    Calls Tryz.prog 215 #[.string ⟨l.toArray⟩] w fun e w' => e = .returned (.tuple #[.string ⟨a.toArray⟩, .string ⟨r.toArray⟩, .bool true]) ∧ Below w.heap.size w w' := by
  have hq := fun W => quotesEnd_any l W hl
  have hle := qEnd_le l
  have hi : Calls Tryz.prog 102 #[.string ⟨(l.drop (qEnd l)).toArray⟩, .int .u8 32] w fun e w' => e = .returned (.int .i64 (Lib.indexByte (l.drop (qEnd l)) 32)) ∧ w' = w := Tryz.strings_IndexByte ⟨(l.drop (qEnd l)).toArray⟩ 32 w
  have hlt := indexByte_lt (l.drop (qEnd l)) 32
  have hn : ¬ Lib.indexByte (l.drop (qEnd l)) 32 < 0 := by
    intro hh
    unfold cutW at h
    rw [if_pos hh] at h
    simp at h
  unfold cutW at h
  rw [if_neg hn] at h
  obtain ⟨N, hN⟩ : ∃ N : Nat, Lib.indexByte (l.drop (qEnd l)) 32 = (N : Int) := ⟨(Lib.indexByte (l.drop (qEnd l)) 32).toNat, by omega⟩
  rw [hN] at hi h hlt
  have hx := drop_extract l (qEnd l)
  simp only [Int.toNat_natCast, Option.some.injEq, Prod.mk.injEq] at h
  rw [List.length_drop] at hlt
  generalize qEnd l = f at *
  obtain ⟨M, hM⟩ : ∃ M : Nat, M = f + N := ⟨_, rfl⟩
  obtain ⟨M1, hM1⟩ : ∃ M1 : Nat, M1 = f + N + 1 := ⟨_, rfl⟩
  rw [← hM1, ← hM] at h
  obtain ⟨ha, hr⟩ := h
  have hxa := take_extract l M
  have hxr := drop_extract l M1
  rw [ha] at hxa
  rw [hr] at hxr
  have i0 : (0 : Int) ≤ (f : Int) := by omega
  have i1 : (f : Int) ≤ (l.length : Int) := by omega
  have w1 : IntKind.i64.wrap ((f : Int) + (N : Int)) = (M : Int) := by subst hM; simp [IntKind.wrap, IntKind.bits, IntKind.signed]; omega
  have w2 : IntKind.i64.wrap ((M : Int) + 1) = (M1 : Int) := by subst hM hM1; simp [IntKind.wrap, IntKind.bits, IntKind.signed]; omega
  have i2 : (0 : Int) ≤ (M : Int) := by omega
  have i3 : (M : Int) ≤ (l.length : Int) := by omega
  have i4 : (0 : Int) ≤ (M1 : Int) := by omega
  have i5 : (M1 : Int) ≤ (l.length : Int) := by omega
  have i6 : M ≤ l.length := by omega
  have i7 : M1 ≤ l.length := by omega
  clear hM hM1 ha hr hN hn hlt
  go_enter Tryz.func215, Tryz.ntmps215
  go_wp2_with (first
    | (go_at_call 232; refine (hq _).mono ?_; rintro e w' ⟨rfl, rfl⟩)
    | (go_at_call 102; refine hi.mono ?_; rintro e w' ⟨rfl, rfl⟩))
  go_region
  go_wp2
  exact bodyPost_ret (v := .tuple #[.string ⟨a.toArray⟩, .string ⟨r.toArray⟩, .bool true]) (by simp [results, Tryz.results215, go_sem]) rfl ⟨rfl, (Below.refl _ _).drew⟩
end Go.Proofs.YtaddfndohoppeaaGreat

/- cut: the texts of three terms. -/
namespace Go.Proofs.YtaddfndohoppeaaGreat
open Go Go.RowKit Go.Proofs

def cutL (l : List UInt8) : Option (List UInt8 × List UInt8 × List UInt8) := match cutW l with
  | none => none
  | some p => match cutW p.2 with
    | none => none
    | some q => some (p.1, q.1, q.2)

theorem cutW_len {l a r : List UInt8} (h : cutW l = some (a, r)) : l = a ++ 32 :: r := by
  unfold cutW at h
  by_cases hh : Lib.indexByte (l.drop (qEnd l)) 32 < 0
  · rw [if_pos hh] at h; simp at h
  · rw [if_neg hh] at h
    simp only [Option.some.injEq, Prod.mk.injEq] at h
    obtain ⟨rfl, rfl⟩ := h
    have key : ∀ (m : List UInt8), 0 ≤ Lib.indexByte m 32 → m = m.take (Lib.indexByte m 32).toNat ++ 32 :: m.drop ((Lib.indexByte m 32).toNat + 1) := by
      intro m
      induction m with
      | nil => intro h; simp [Lib.indexByte] at h
      | cons b r ih =>
        intro h
        by_cases hb : b = 32
        · subst hb; simp [Lib.indexByte]
        · have hb' : (b == 32) = false := by simpa using hb
          have e : Lib.indexByte (b :: r) 32 = if Lib.indexByte r 32 == -1 then -1 else Lib.indexByte r 32 + 1 := by
            rw [Lib.indexByte, hb']; rfl
          rw [e] at h ⊢
          by_cases hm : Lib.indexByte r 32 = -1
          · rw [hm] at h; simp at h
          · have hm' : (Lib.indexByte r 32 == -1) = false := by simpa using hm
            rw [hm'] at h ⊢
            simp only [Bool.false_eq_true, if_false] at h ⊢
            have hge := Lib.indexByte_ge r 32
            have := ih (by omega)
            rw [show (Lib.indexByte r 32 + 1).toNat = (Lib.indexByte r 32).toNat + 1 by omega]
            simp only [List.take_succ_cons, List.drop_succ_cons, List.cons_append]
            rw [← this]
    have hk := key (l.drop (qEnd l)) (by omega)
    generalize (Lib.indexByte (l.drop (qEnd l)) 32).toNat = n at hk ⊢
    calc l = l.take (qEnd l) ++ l.drop (qEnd l) := (List.take_append_drop _ _).symm
      _ = l.take (qEnd l) ++ ((l.drop (qEnd l)).take n ++ 32 :: (l.drop (qEnd l)).drop (n + 1)) := by rw [← hk]
      _ = l.take (qEnd l + n) ++ 32 :: l.drop (qEnd l + n + 1) := by
        rw [List.take_add, List.drop_drop, List.append_assoc, Nat.add_assoc]
theorem cutL_eq {l a b c : List UInt8} (h : cutL l = some (a, b, c)) : l = a ++ 32 :: b ++ 32 :: c := by
  unfold cutL at h
  cases h1 : cutW l with
  | none => rw [h1] at h; simp at h
  | some p =>
    rw [h1] at h
    simp only at h
    cases h2 : cutW p.2 with
    | none => rw [h2] at h; simp at h
    | some q =>
      rw [h2] at h
      simp only [Option.some.injEq, Prod.mk.injEq] at h
      obtain ⟨rfl, rfl, rfl⟩ := h
      rw [cutW_len (a := p.1) (r := p.2) h1, cutW_len (a := q.1) (r := q.2) h2]
      simp

set_option maxHeartbeats 1000000 in
theorem cut_none (l : List UInt8) (w : World) (hl : l.length ≤ 140737488355328) (h : cutL l = none) :
    Calls Tryz.prog 182 #[.string ⟨l.toArray⟩] w fun e w' => e = .returned (.tuple #[.agg #[.string ⟨#[]⟩, .string ⟨#[]⟩, .string ⟨#[]⟩], .bool false]) ∧ Below w.heap.size w w' := by
  cases h1 : cutW l with
  | none =>
    have H := fun W => cutWord_none l W hl h1
    go_enter Tryz.func182, Tryz.ntmps182
    go_wp2_with fail
    refine (H _).mono ?_
    rintro e w1 ⟨rfl, hb1⟩
    obtain ⟨kc, kf⟩ := bcell hb1
    have hz : w.heap.size < w1.heap.size := by have := hb1.size; simp at this; omega
    go_wp2_with fail
    exact bodyPost_ret (v := .tuple #[.agg #[.string ⟨#[]⟩, .string ⟨#[]⟩, .string ⟨#[]⟩], .bool false]) (by simp [results, Tryz.results182, go_sem, kc]) rfl ⟨rfl, bset3 (bstep (balloc _ _) hb1) _ _ _⟩
  | some p =>
    have h2 : cutW p.2 = none := by
      cases h2 : cutW p.2 with
      | none => rfl
      | some q => simp [cutL, h1, h2] at h
    have hlen := cutW_len (a := p.1) (r := p.2) h1
    have hl2 : p.2.length ≤ 140737488355328 := by rw [hlen] at hl; simp at hl; omega
    have H := fun W => cutWord_some l p.1 p.2 W hl h1
    have H2 := fun W => cutWord_none p.2 W hl2 h2
    clear h hlen hl hl2
    go_enter Tryz.func182, Tryz.ntmps182
    go_wp2_with fail
    refine (H _).mono ?_
    rintro e w1 ⟨rfl, hb1⟩
    go_wp2_with fail
    refine (H2 _).mono ?_
    rintro e w2 ⟨rfl, hb2⟩
    have hB := bstep hb1 hb2
    obtain ⟨kc, kf⟩ := bcell hB
    have hz : w.heap.size < w2.heap.size := by have := hB.size; simp at this; omega
    go_wp2_with fail
    exact bodyPost_ret (v := .tuple #[.agg #[.string ⟨#[]⟩, .string ⟨#[]⟩, .string ⟨#[]⟩], .bool false]) (by simp [results, Tryz.results182, go_sem, kc]) rfl ⟨rfl, bset3 (bstep (balloc _ _) hB) _ _ _⟩

set_option maxHeartbeats 1000000 in
theorem cut_some (l a b c : List UInt8) (w : World) (hl : l.length ≤ 140737488355328) (h : cutL l = some (a, b, c)) :
    Calls Tryz.prog 182 #[.string ⟨l.toArray⟩] w fun e w' => e = .returned (.tuple #[.agg #[.string ⟨a.toArray⟩, .string ⟨b.toArray⟩, .string ⟨c.toArray⟩], .bool true]) ∧ Below w.heap.size w w' := by
  cases h1 : cutW l with
  | none => simp [cutL, h1] at h
  | some p =>
    cases h2 : cutW p.2 with
    | none => simp [cutL, h1, h2] at h
    | some q =>
      simp only [cutL, h1, h2, Option.some.injEq, Prod.mk.injEq] at h
      obtain ⟨rfl, rfl, rfl⟩ := h
      have hlen := cutW_len (a := p.1) (r := p.2) h1
      have hl2 : p.2.length ≤ 140737488355328 := by rw [hlen] at hl; simp at hl; omega
      have H := fun W => cutWord_some l p.1 p.2 W hl h1
      have H2 := fun W => cutWord_some p.2 q.1 q.2 W hl2 h2
      clear hlen hl hl2
      go_enter Tryz.func182, Tryz.ntmps182
      go_wp2_with fail
      refine (H _).mono ?_
      rintro e w1 ⟨rfl, hb1⟩
      go_wp2_with fail
      refine (H2 _).mono ?_
      rintro e w2 ⟨rfl, hb2⟩
      have hB := bstep hb1 hb2
      obtain ⟨kc, kf⟩ := bcell hB
      have hz : w.heap.size < w2.heap.size := by have := hB.size; simp at this; omega
      go_wp2_with fail
      exact bodyPost_ret (v := .tuple #[.agg #[.string ⟨p.1.toArray⟩, .string ⟨q.1.toArray⟩, .string ⟨q.2.toArray⟩], .bool true]) (by simp [results, Tryz.results182, go_sem, kc]) rfl ⟨rfl, bset3 (bstep (balloc _ _) hB) _ _ _⟩
end Go.Proofs.YtaddfndohoppeaaGreat
