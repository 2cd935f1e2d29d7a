/- stratalaw1.MatchParts: what the walk leans on. -/
import Derived.Test.YtnlcfnpcjkcdmacMatchTrip
import Derived.Test.YtnlcfnpcjkcdmacSetOps
namespace Go.Proofs.Ytnlcfnpcjkcdmac
open Go Go.RowKit Go.Proofs Go.Maps
set_option synthInstance.maxSize 1000

/-! ### three variables; a triple as a pattern -/
def pAll : Pt := (([97], 0, [], []), ([98], 0, [], []), ([99], 0, [], []))
def justP (t : Tr) : Pt := (([], t.1), ([], t.2.1), ([], t.2.2))
def factP : Tr := ⟨⟨1, [97], []⟩, ⟨1, [98], []⟩, ⟨1, [99], []⟩⟩
theorem all_fit : fitPt pAll := by
  refine ⟨⟨?_, ?_, ?_⟩, ⟨?_, ?_, ?_⟩, ⟨?_, ?_, ?_⟩⟩ <;> (simp [pAll]; try (unfold maxLen; omega))
theorem all_vars : varsN pAll = 0 := by decide
theorem all_fits (t : Tr) : fitsB pAll t = true := by
  unfold fitsB pAll
  simp
theorem all_match (l : List Tr) : matchN l pAll = sortedN l := by
  unfold matchN
  rw [all_vars]
  split
  · rename_i h; rw [h]
  · rfl
theorem all_list (l : List Tr) : matchL l pAll = l := by
  unfold matchL
  rw [List.filter_eq_self]
  exact fun t _ => all_fits t
theorem factP_set : IsSet [factP] := ⟨by simp, by intro x hx; rw [List.mem_singleton.1 hx]; decide, List.pairwise_singleton _ _⟩
theorem matchN_set {l : List Tr} (h : IsSet l) (p : Pt) : matchN l p = varsN p := by
  unfold matchN
  rw [if_pos (sortedN_set.2 h)]
theorem match_set {l : List Tr} (h : IsSet l) (p : Pt) : IsSet (matchL l p) := h.filter _
theorem just_fits (t y : Tr) : fitsB (justP t) y = decide (y = t) := by
  obtain ⟨a, b, c⟩ := t
  obtain ⟨a', b', c'⟩ := y
  unfold fitsB justP
  simp [Prod.ext_iff]
theorem one_of {l : List Tr} (h : l.Nodup) (t : Tr) : (l.filter fun y => decide (y = t)).length = if t ∈ l then 1 else 0 := by
  induction l with
  | nil => simp
  | cons x r ih =>
    obtain ⟨hx, hr⟩ := List.nodup_cons.1 h
    have := ih hr
    by_cases e : x = t
    · subst e
      rw [if_neg hx] at this
      have h0 : (r.filter fun y => decide (y = x)) = [] := List.eq_nil_of_length_eq_zero this
      simp [h0]
    · have e' : ¬ t = x := fun q => e q.symm
      simp only [List.filter_cons, e, decide_false, Bool.false_eq_true, if_false, List.mem_cons, e', false_or]
      exact this
theorem just_vars {t : Tr} (h : chkTr t = 0) : varsN (justP t) = 0 := by
  obtain ⟨h1, h2, h3, _⟩ := chk_zero h
  have q : ∀ x : Tm, slotN ([], x) = tmChk x := fun x => if_pos rfl
  unfold varsN justP
  simp only [q, tmChk, h1, h2, h3, if_true]
theorem just_count {l : List Tr} {t : Tr} (hl : IsSet l) (h : chkTr t = 0) : CountAns l (justP t) = if t ∈ l then 1 else 0 := by
  unfold CountAns
  rw [matchN_set hl, if_pos (just_vars h), ← one_of (rising_nodup hl.2.2) t]
  unfold matchL
  congr 1
  exact List.filter_congr fun y _ => just_fits t y
theorem both_part {l : List Tr} (p : Pt) : bothL (matchL l p) l = matchL l p := by
  unfold bothL
  rw [List.filter_eq_self]
  intro t ht
  exact decide_eq_true (List.mem_filter.1 ht).1
theorem turn_vars {p : Pt} {x : Tm} (h : varsN p = 0) (hx : tmChk x = 0) : varsN (([], x), p.2) = 0 := by
  have q : slotN ([], x) = 0 := (if_pos rfl : slotN ([], x) = tmChk x).trans hx
  unfold varsN at *
  by_cases h1 : slotN p.1 = 0
  · rw [if_pos h1] at h
    simp only [q, if_true]
    exact h
  · rw [if_neg h1] at h
    exact absurd h h1
theorem last_true (a : List Tr) (b : List Tr) : (decide (bothL a b = a) || decide (0 < a.length)) = true := by
  cases a with
  | nil => simp [bothL]
  | cons x r => simp

/-! ### the calls -/
theorem matchAll_any (ad : Option Addr) (c : Nat) (l : List Tr) (w : World) (h : SlT w ad l) (hfit : ∀ x ∈ l, fitTr x) (hn : l.length ≤ 9223372036854775807) :
    Calls Try.prog 6 #[.slice ad l.length c, .agg #[.string ⟨#[97]⟩, .int .i64 0, .string ⟨#[]⟩, .string ⟨#[]⟩, .string ⟨#[98]⟩, .int .i64 0, .string ⟨#[]⟩, .string ⟨#[]⟩, .string ⟨#[99]⟩, .int .i64 0, .string ⟨#[]⟩, .string ⟨#[]⟩]] w fun e w' => Below w.heap.size w w' ∧ ∃ m ad' c', e = .returned (.tuple #[.slice ad' m.length c', errV (sortedN l)]) ∧ SlT w' ad' m ∧ (sortedN l = 0 → m = l) := by
  have h1 : Calls Try.prog 6 #[.slice ad l.length c, .agg #[.string ⟨#[97]⟩, .int .i64 0, .string ⟨#[]⟩, .string ⟨#[]⟩, .string ⟨#[98]⟩, .int .i64 0, .string ⟨#[]⟩, .string ⟨#[]⟩, .string ⟨#[99]⟩, .int .i64 0, .string ⟨#[]⟩, .string ⟨#[]⟩]] w _ := Match_any ad c l pAll w h hfit all_fit hn
  refine h1.mono ?_
  rintro e w' ⟨hb, m, ad', c', rfl, hs, hA⟩
  unfold MatchAns at hA
  rw [all_match, all_list] at hA
  exact ⟨hb, m, ad', c', by rw [all_match], hs, fun h0 => by rw [hA, if_pos h0]⟩
theorem matchFact_any (ad : Option Addr) (c : Nat) (w : World) (h : SlT w ad [factP]) :
    Calls Try.prog 6 #[.slice ad 1 c, .agg #[.string ⟨#[97]⟩, .int .i64 0, .string ⟨#[]⟩, .string ⟨#[]⟩, .string ⟨#[98]⟩, .int .i64 0, .string ⟨#[]⟩, .string ⟨#[]⟩, .string ⟨#[99]⟩, .int .i64 0, .string ⟨#[]⟩, .string ⟨#[]⟩]] w fun e w' => Below w.heap.size w w' ∧ ∃ b o c', e = .returned (.tuple #[.slice (some ⟨b, o, none⟩) 1 c', .nilIface]) ∧ RowR w' b o [factP] := by
  have h0 := sortedN_set.2 factP_set
  refine (matchAll_any ad c [factP] w h factP_set.fit (by simp)).mono ?_
  rintro e w' ⟨hb, m, ad', c', rfl, hs, hm⟩
  have e := hm h0
  subst e
  rw [h0]
  obtain ⟨b, o, rfl, hr⟩ := hs (by simp)
  exact ⟨hb, b, o, c', rfl, hr⟩
theorem matchSet_any (ad : Option Addr) (c : Nat) (l : List Tr) (p : Pt) (w : World) (h : SlT w ad l) (hl : IsSet l) (hp : fitPt p) :
    Calls Try.prog 6 #[.slice ad l.length c, valPt p] w fun e w' => Below w.heap.size w w' ∧ ∃ m ad' c', e = .returned (.tuple #[.slice ad' m.length c', errV (varsN p)]) ∧ SlT w' ad' m ∧ (varsN p = 0 → m = matchL l p) := by
  refine (Match_any ad c l p w h hl.fit hp (by have := hl.1; omega)).mono ?_
  rintro e w' ⟨hb, m, ad', c', rfl, hs, hA⟩
  unfold MatchAns at hA
  rw [matchN_set hl] at hA
  exact ⟨hb, m, ad', c', by rw [matchN_set hl], hs, fun h0 => by rw [hA, if_pos h0]⟩
theorem just_fit {t : Tr} (h : fitTr t) : fitPt (justP t) := ⟨⟨by simp [justP], h.1.1, h.1.2⟩, ⟨by simp [justP], h.2.1.1, h.2.1.2⟩, ⟨by simp [justP], h.2.2.1, h.2.2.2⟩⟩
theorem countJust_any (ad : Option Addr) (c : Nat) (l : List Tr) (t : Tr) (w : World) (h : SlT w ad l) (hl : IsSet l) (ht : fitTr t) :
    Calls Try.prog 9 #[.slice ad l.length c, .agg #[.string ⟨#[]⟩, .int .i64 t.1.1, .string ⟨t.1.2.1.toArray⟩, .string ⟨t.1.2.2.toArray⟩, .string ⟨#[]⟩, .int .i64 t.2.1.1, .string ⟨t.2.1.2.1.toArray⟩, .string ⟨t.2.1.2.2.toArray⟩, .string ⟨#[]⟩, .int .i64 t.2.2.1, .string ⟨t.2.2.2.1.toArray⟩, .string ⟨t.2.2.2.2.toArray⟩]] w fun e w' => e = .returned (.tuple #[.int .i64 (CountAns l (justP t)), errV (varsN (justP t))]) ∧ Below w.heap.size w w' := by
  have := Count_any ad c l (justP t) w h hl.fit (just_fit ht) (by have := hl.1; omega)
  rw [matchN_set hl] at this
  exact this
theorem hasSet_any (ad : Option Addr) (c : Nat) (l : List Tr) (t : Tr) (w : World) (h : SlT w ad l) (hl : IsSet l) (ht : fitTr t) :
    Calls Try.prog 10 #[.slice ad l.length c, valTr t] w fun e w' => e = .returned (.tuple #[.bool (decide (chkTr t = 0) && decide (t ∈ l)), errV (chkTr t)]) ∧ Below w.heap.size w w' := by
  have e : hasN l t = chkTr t := by unfold hasN; rw [if_pos (sortedN_set.2 hl)]
  have := Has_any ad c l t w h hl.fit ht (by have := hl.1; omega)
  rw [e] at this
  exact this
theorem bothSet_any (ad bd : Option Addr) (ca cb : Nat) (a b : List Tr) (w : World) (ha : SlT w ad a) (hb : SlT w bd b) (sa : IsSet a) (sb : IsSet b) :
    Calls Try.prog 11 #[.slice ad a.length ca, .slice bd b.length cb] w fun e w' => Below w.heap.size w w' ∧ ∃ ad' c', e = .returned (.tuple #[.slice ad' (bothL a b).length c', .nilIface]) ∧ SlT w' ad' (bothL a b) := by
  have h0 : bothN a b = 0 := bothN_zero.2 ⟨sa, sb⟩
  refine (Both_any ad bd ca cb a b w ha hb sa.fit sb.fit (by have := sa.1; omega) (by have := sb.1; omega)).mono ?_
  rintro e w' ⟨hb, m, ad', c', rfl, hs, hJ⟩
  unfold BothAns at hJ
  rw [if_pos h0] at hJ
  subst hJ
  exact ⟨hb, ad', c', by rw [h0]; rfl, hs⟩
theorem sameSet_any (ad bd : Option Addr) (ca cb : Nat) (l m : List Tr) (w : World) (hl : SlT w ad l) (hm : SlT w bd m) (sl : IsSet l) (sm : IsSet m) :
    Calls Try.prog 8 #[.slice ad l.length ca, .slice bd m.length cb] w fun e w' => e = .returned (.bool (decide (l = m))) ∧ Below w.heap.size w w' :=
  SameTriples_any ad bd ca cb l m w hl hm (by have := sl.1; omega) (by have := sm.1; omega)

/-! ### what lies in the law's boxes -/
theorem PatAt.allP {w : World} {b : Nat} (h : PatAt w b pAll) :
    w.cell? ⟨b, 0, none⟩ = some (.string ⟨#[97]⟩) ∧ w.cell? ⟨b, 1, none⟩ = some (.int .i64 0) ∧ w.cell? ⟨b, 2, none⟩ = some (.string ⟨#[]⟩) ∧ w.cell? ⟨b, 3, none⟩ = some (.string ⟨#[]⟩) ∧
    w.cell? ⟨b, 4, none⟩ = some (.string ⟨#[98]⟩) ∧ w.cell? ⟨b, 5, none⟩ = some (.int .i64 0) ∧ w.cell? ⟨b, 6, none⟩ = some (.string ⟨#[]⟩) ∧ w.cell? ⟨b, 7, none⟩ = some (.string ⟨#[]⟩) ∧
    w.cell? ⟨b, 8, none⟩ = some (.string ⟨#[99]⟩) ∧ w.cell? ⟨b, 9, none⟩ = some (.int .i64 0) ∧ w.cell? ⟨b, 10, none⟩ = some (.string ⟨#[]⟩) ∧ w.cell? ⟨b, 11, none⟩ = some (.string ⟨#[]⟩) :=
  ⟨h _ _ rfl, h _ _ rfl, h _ _ rfl, h _ _ rfl, h _ _ rfl, h _ _ rfl, h _ _ rfl, h _ _ rfl, h _ _ rfl, h _ _ rfl, h _ _ rfl, h _ _ rfl⟩
def Boxes (w : World) (p : Pt) (t : Tr) (W : World) : Prop := PatAt W w.heap.size p ∧ TripAt W (w.heap.size + 1) t ∧ PatAt W (w.heap.size + 2) pAll ∧ Below w.heap.size w W
theorem Boxes.below {w W W' : World} {p : Pt} {t : Tr} (h : Boxes w p t W) (hb : Below W.heap.size W W') : Boxes w p t W' :=
  ⟨h.1.below hb, h.2.1.below hb, h.2.2.1.below hb, bstep h.2.2.2 hb⟩
theorem boxes_made (w : World) (p : Pt) (t : Tr) (T1 T2 T3 : TypeId) : Boxes w p t (((w.alloc (.cells (encPt p).toArray T1)).alloc (.cells (encTr t).toArray T2)).alloc (.cells (encPt pAll).toArray T3)) := by
  refine ⟨((patBox w p T1).below (balloc _ _)).below (balloc _ _), ?_, ?_, bstep (bstep (balloc _ _) (balloc _ _)) (balloc _ _)⟩
  · have := (tripBox (w.alloc (.cells (encPt p).toArray T1)) t T2).below (balloc _ (.cells (encPt pAll).toArray T3))
    simpa using this
  · have := patBox ((w.alloc (.cells (encPt p).toArray T1)).alloc (.cells (encTr t).toArray T2)) pAll T3
    simpa using this
end Go.Proofs.Ytnlcfnpcjkcdmac
