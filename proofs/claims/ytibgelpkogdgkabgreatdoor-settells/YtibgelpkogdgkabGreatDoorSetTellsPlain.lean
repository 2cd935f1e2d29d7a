/- What set.Terms and the document's Terms tell, in one word each; how two answers are one. -/
import Derived.Test.YtibgelpkogdgkabGreatDoorRefTerms
import Derived.Test.YtibgelpkogdgkabGreatDoorTermSame
import Derived.Test.YtibgelpkogdgkabGreatDoorAs
namespace Go.Proofs.YtibgelpkogdgkabGreatDoor
open Go Go.RowKit Go.Proofs
set_option synthInstance.maxSize 1000

theorem risingM_unique : ∀ (m n : List Tm), RisingM m → RisingM n → (∀ x, x ∈ m ↔ x ∈ n) → m = n
  | [], [], _, _, _ => rfl
  | [], y :: n, _, _, h => by have := (h y).2 (by simp); simp at this
  | x :: m, [], _, _, h => by have := (h x).1 (by simp); simp at this
  | x :: m, y :: n, hm, hn, h => by
    have hm' := List.pairwise_cons.1 hm
    have hn' := List.pairwise_cons.1 hn
    have irr : ∀ z : Tm, ¬ cmpTm z z < 0 := fun z => by rw [(cmpTm_zero z z).2 rfl]; omega
    have exy : x = y := by
      rcases List.mem_cons.1 ((h x).1 (by simp)) with e | hx
      · exact e
      · rcases List.mem_cons.1 ((h y).2 (by simp)) with e | hy
        · exact e.symm
        · have a := hm'.1 y hy
          have b := hn'.1 x hx
          have := cmpTm_neg x y
          omega
    subst exy
    congr 1
    refine risingM_unique m n hm'.2 hn'.2 fun z => ?_
    constructor
    · intro hz
      rcases List.mem_cons.1 ((h z).1 (by simp [hz])) with e | h'
      · subst e; exact absurd (hm'.1 z hz) (irr z)
      · exact h'
    · intro hz
      rcases List.mem_cons.1 ((h z).2 (by simp [hz])) with e | h'
      · subst e; exact absurd (hn'.1 z hz) (irr z)
      · exact h'



def TermsAns (a : List Tr) (m : List Tm) : Prop := (sortedN a = 0 → RisingM m ∧ ∀ x, x ∈ m ↔ x ∈ termsOf a) ∧ (sortedN a ≠ 0 → m = []) ∧ m.length ≤ 1000000
theorem TermsAns.same {a : List Tr} {m n : List Tm} (h : TermsAns a m) (k : TermsAns a n) : m = n := by
  by_cases e : sortedN a = 0
  · obtain ⟨h1, h2⟩ := h.1 e
    obtain ⟨k1, k2⟩ := k.1 e
    exact risingM_unique m n h1 k1 (fun x => (h2 x).trans (k2 x).symm)
  · rw [h.2.1 e, k.2.1 e]
theorem JoinAns.same {a b m n : List Tr} (h : JoinAns a b m) (k : JoinAns a b n) : m = n := by
  by_cases e : joinN a b = 0
  · exact (h.1 e).unique (k.1 e)
  · rw [h.2 e, k.2 e]
theorem risingM_nodup {m : List Tm} (h : RisingM m) : m.Nodup := by
  refine h.imp ?_
  intro x y hxy e
  subst e
  have := (cmpTm_zero x x).2 rfl
  omega

theorem STerms_any (ad : Option Addr) (ca : Nat) (l : List Tr) (w : World) (hl : SlT w ad l) (fl : ∀ x ∈ l, fitTr x) (nl : l.length ≤ 9223372036854775807) :
    Calls Tryz.prog 15 #[.slice ad l.length ca] w fun e w' => RowKit.Below w.heap.size w w' ∧ ∃ (m : List Tm) (bd : Option Addr) (c : Nat), e = .returned (.tuple #[.slice bd m.length c, errV (sortedN l)]) ∧ SlM w' bd m ∧ TermsAns l m := by
  by_cases h : sortedN l = 0
  · refine (SetTerms_good ad ca l w hl h).mono ?_
    rintro e w' ⟨bd, c, m, rfl, h1, h2, h3, h4⟩
    have hs := (sortedN_set.1 h).1
    have hlen := nodup_len m (termsOf l) (risingM_nodup h2) (fun x hx => (h3 x).1 hx)
    rw [termsOf_len] at hlen
    exact ⟨h4, m, bd, c, by rw [h]; rfl, h1, fun _ => ⟨h2, h3⟩, fun hne => absurd h hne, by omega⟩
  · refine (SetTerms_bad ad ca l w hl fl nl h).mono ?_
    rintro e w' ⟨rfl, hb⟩
    exact ⟨hb, [], none, 0, rfl, fun hne => absurd rfl hne, fun h0 => absurd h0 h, fun _ => rfl, by simp⟩

theorem join_len {a b m : List Tr} (h : bothN a b = 0) (hm : JoinOf a b m) : m.length = a.length + (lessL b a).length := hm.len (bothN_zero.1 h).1.2.2 (bothN_zero.1 h).2.2.2
end Go.Proofs.YtibgelpkogdgkabGreatDoor
