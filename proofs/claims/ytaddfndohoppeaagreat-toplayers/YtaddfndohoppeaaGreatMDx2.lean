import Derived.Test.YtaddfndohoppeaaGreatMDx1
import Derived.Test.YtaddfndohoppeaaGreatMA0x0
import Derived.Shelf.SlSortCmp.WholeK
import Derived.Laws.OwnMore
import Derived.Laws.EntriesVeiled
import Derived.RangeFuncBox
import Derived.Test.YtaddfndohoppeaaGreatMA0x2
import Derived.Laws.MakeOwn
import Derived.Deep.WholeRow
import Derived.Laws.IdiomCopy
import Derived.Deep.RegionLaw
import Derived.Maps.AppendAt
import Derived.Deep.QuietTactic
import Derived.BigQuiet
import Derived.WalkKit

/- solve.keyer: the variables that two answers share. -/
namespace Go.Proofs.YtaddfndohoppeaaGreat
open Go Go.RowKit Go.Proofs Go.Maps Go.Sort
set_option synthInstance.maxSize 1000

theorem grown_cellE {W w1 : World} {row : Option Nat} {b : Nat} (h : W.grownBy w1 row) (hb : b < W.heap.size) (hne : some b ≠ row) (o : Nat) : w1.cell? ⟨b, o, none⟩ = W.cell? ⟨b, o, none⟩ ∧ w1.frozen? ⟨b, o, none⟩ = W.frozen? ⟨b, o, none⟩ := by
  have e := h.block b hb hne
  refine ⟨World.cell?_of_block (w := W) e, ?_⟩
  simp only [World.frozen?]
  rw [e]
theorem own_aboveE {w : World} {base e size n B : Nat} {v : Value} {xs : List Value} (h : w.ownsRow base e size v n xs) (hB : B < base) : some B ≠ v.ownBlock := fun q => by
  have := (h.lt B q.symm).1
  omega
theorem own_form {w : World} {base e size n : Nat} {v : Value} {xs : List Value} (h : w.ownsRow base e size v n xs) : ∃ ad c, v = .slice ad n c := by
  rcases h.2 with ⟨rfl, h0⟩ | ⟨g, cap, cur, rfl, _⟩
  · exact ⟨none, 0, by rw [h0]⟩
  · exact ⟨_, _, rfl⟩
/-- the names that the range has come by and that the other has, too -/
def CollE (f g : Ev) (left : Lit → Bool) (ss : List (List UInt8)) : Prop := ss.Nodup ∧ (∀ v ∈ ss, v.length ≤ maxLen) ∧ ∀ v : List UInt8, v.length ≤ maxLen → (v ∈ ss ↔ (g v).isSome = true ∧ left (.string v) = false ∧ (f v).isSome = true)
theorem CollE.step {f g : Ev} {left : Lit → Bool} {ss : List (List UInt8)} (h : CollE f g left ss) {v : List UInt8} (hv : v.length ≤ maxLen) (hl : left (.string v) = true) (hg : (g v).isSome = true) : CollE f g (fun z => left z && !z.sameKey (.string v)) (if (f v).isSome = true then ss ++ [v] else ss) := by
  obtain ⟨h1, h2, h3⟩ := h
  have hself : (Lit.string v).sameKey (.string v) = true := by simp [Lit.sameKey]
  have hoth : ∀ u, u ≠ v → (Lit.string u).sameKey (.string v) = false := fun u hu => Maps.sameKey_ne (fun e' => hu (by simpa using e'))
  have hnot : v ∉ ss := fun hm => by
    have := ((h3 v hv).1 hm).2.1
    rw [hl] at this
    cases this
  by_cases hf : (f v).isSome = true
  · rw [if_pos hf]
    refine ⟨?_, ?_, fun u hu => ?_⟩
    · rw [List.nodup_append]
      refine ⟨h1, by simp, fun a ha b hb e => ?_⟩
      simp at hb
      subst hb
      exact hnot (e ▸ ha)
    · intro u hu
      rw [List.mem_append, List.mem_singleton] at hu
      rcases hu with hu | rfl
      · exact h2 u hu
      · exact hv
    · rw [List.mem_append, List.mem_singleton]
      by_cases e : u = v
      · subst e
        simp [hself, hg, hf]
      · rw [h3 u hu]
        simp [hoth u e, e]
  · rw [if_neg hf]
    refine ⟨h1, h2, fun u hu => ?_⟩
    by_cases e : u = v
    · subst e
      simp [hnot, hf]
    · rw [h3 u hu]
      simp [hoth u e]
/-- the shared variables, in a box -/
def KeyAt (w : World) (B : Nat) (sh : List (List UInt8)) : Prop := ∃ ad c, w.cell? ⟨B, 0, none⟩ = some (.slice ad sh.length c) ∧ SlW w ad sh
theorem KeyAt.below {w w' : World} {B : Nat} {sh : List (List UInt8)} (h : KeyAt w B sh) (hb : RowKit.Below w.heap.size w w') : KeyAt w' B sh := by
  obtain ⟨ad, c, h1, h2⟩ := h
  exact ⟨ad, c, (hb.cell (World.block_lt_of_cell? w _ h1)).trans h1, h2.below hb⟩
def KeyerAns (f g : Ev) (w : World) (e : Ending) (w' : World) : Prop := RowKit.Below w.heap.size w w' ∧ ∃ sh B, e = .returned (.func (.func 156) #[] #[.pointer (some ⟨B, 0, none⟩)]) ∧ KeyAt w' B sh ∧ sh.Nodup ∧ (∀ v ∈ sh, v.length ≤ maxLen) ∧ ∀ v : List UInt8, v.length ≤ maxLen → (v ∈ sh ↔ (g v).isSome = true ∧ (f v).isSome = true)
/-- a row of texts, sorted -/
theorem sortTexts_any (base g cap : Nat) (ss : List (List UInt8)) (w : World) (hown : w.ownsRow base 9 1 (.slice (some ⟨g, 0, none⟩) ss.length cap) ss.length (ss.map encV)) (h63 : ss.length ≤ 1000000) :
    Calls Tryz.prog 155 #[.slice (some ⟨g, 0, none⟩) ss.length cap] w fun e w' => e = .returned (.tuple #[]) ∧ RowKit.Below g w w' ∧ SlW w' (some ⟨g, 0, none⟩) (ss.mergeSort fun x y => decide (x ≤ y)) := by
  have hg : g < w.heap.size := (hown.lt g rfl).2
  have hH : Holds encStr w g 0 ss.toArray := fun j hj => by
    have hj' : j < ss.length := by simpa using hj
    rw [Nat.zero_add]
    refine ⟨?_, hown.frozenAt j⟩
    rw [hown.cellAt j (by omega), List.getElem?_map, List.getElem?_eq_getElem hj', getElem!_pos ss.toArray j hj]
    simp [encV]
  refine (Tryz.slices_Sort_string g 0 cap ss w hH hg (by omega)).mono ?_
  rintro e w' ⟨rfl, n, os, rfl⟩
  have hd := holds_sortWorld encStr w g 0 n ss.toArray (ss.mergeSort fun x y => decide (x ≤ y)).toArray os hg hH (by simp)
  refine ⟨rfl, ?_, fun _ => ⟨g, 0, rfl, fun j hj => ?_⟩⟩
  · refine ⟨rfl, rfl, rfl, ?_, fun k hk => ?_⟩
    · show w.heap.size ≤ (_ ++ os).size
      simp [putRow, mapBlock, Sort.ahead]
    · show (_ ++ os)[k]? = _
      rw [Array.getElem?_append_left (by simp [putRow, mapBlock, Sort.ahead]; omega)]
      simp only [putRow, mapBlock, Sort.ahead, Array.getElem?_modify]
      rw [if_neg (by omega)]
  · have := (hd j (by simpa using hj)).1
    rw [getElem!_pos _ j (by simpa using hj)] at this
    rw [Nat.zero_add] at this
    rw [Nat.zero_add]
    refine Eq.trans this ?_
    simp [encV]
set_option maxHeartbeats 4000000 in
set_option maxRecDepth 100000 in
theorem keyer_any (bx bg nx ng : Nat) (f g : Ev) (w : World) (hx : EvAt w bx nx f) (hg : EvAt w bg ng g) (hroom : ng ≤ 1000) :
    Calls Tryz.prog 111 #[.map (some bx), .map (some bg)] w (KeyerAns f g w) := by
  have hbx := hx.lt
  have hbg := hg.lt
  have Hx := hideE hx
  obtain ⟨Dg, og, kg⟩ := hg
  have Kg := hideE kg
  have hsz : Maps.size Dg ≤ ng := og.size_le
  obtain ⟨W0, hW0⟩ : ∃ W0, W0 = w.alloc (.cells #[.slice none 0 0] 59) := ⟨_, rfl⟩
  have hB0 : RowKit.Below w.heap.size w W0 := by rw [hW0]; exact balloc _ _
  have hz0 : W0.heap.size = w.heap.size + 1 := by rw [hW0]; simp
  have c0 : W0.cell? ⟨w.heap.size, 0, none⟩ = some (.slice none 0 0) := by rw [hW0]; go_simp
  have f0 : W0.frozen? ⟨w.heap.size, 0, none⟩ = false := by rw [hW0]; go_simp
  have og0 : W0.ownsMap Tryz.prog 9 termElemM bg ng Dg := by rw [hW0]; exact og.alloc _
  have HQ := hideE (show ∀ e w', KeyerAns f g w e w' → KeyerAns f g w e w' from fun _ _ h => h)
  generalize hQ : KeyerAns f g w = Q at HQ ⊢
  rw [← hQ] at HQ
  have HQ2 : Hid (∀ e w', KeyerAns f g w e w' → Q e w') := fun e w' h => by rw [← hQ]; exact h
  clear hx kg hQ HQ
  go_enter Tryz.func111, Tryz.ntmps111
  go_upto_region 2 with fail
  rw [← hW0]
  clear hW0
  go_wp2_with (at_range; refine wpList_range_own _ rfl _ 101 rfl 9 56 keyedStr Tryz.underlying101 termElemM bg ng Dg rfl og0 ?_; intro w0 hrg0 hg0 hs0)
  go_frame
  rw [hz0] at hrg0 ⊢
  go_loopw [11] (fun _ wr => ∃ (left : Lit → Bool) (cnt : Nat) (ss : List (List UInt8)) (v : Value), wr.ranges Tryz.prog 9 termElemM bg (w.heap.size + 1) ng Dg left cnt ∧ ss.length + cnt ≤ Maps.size Dg ∧ wr.cell? ⟨w.heap.size, 0, none⟩ = some v ∧ wr.frozen? ⟨w.heap.size, 0, none⟩ = false ∧ Hid (wr.ownsRow (w.heap.size + 2) 9 1 v ss.length (ss.map encV)) ∧ Hid (CollE f g left ss) ∧ RowKit.Below w.heap.size w wr)
    (fun _ wr => wr.rangeLeft bg (w.heap.size + 1))
  case atStart =>
    obtain ⟨e1, e2⟩ := grown_cellE hg0 (b := w.heap.size) (by omega) (by simp) 0
    refine ⟨_, _, [], _, hrg0, by simp, e1.trans c0, e2.trans f0, World.ownsRow_nil _ _ _ _, ⟨List.nodup_nil, by simp, fun v hv => ?_⟩, hB0.grown hg0 (by omega) (fun k e => by cases e)⟩
    rw [(Kg.out v hv).1]
    simp
    intro h1 h2
    rw [h2] at h1
    cases h1
  case round =>
    clear og og0 hrg0 hg0 c0 f0
    obtain ⟨left, cnt, ss, v, hrg, hcs, hc, hf, hown, hC, hbr⟩ := hrel
    have hzr := hbr.size
    have hrl := hrg.lt
    go_wp2_with (at_next; refine wpList_next_ranges _ rfl _ rfl 9 keyedStr termElemM (fun v : List UInt8 => .string ⟨v.toArray⟩) (fun c : Tm => .agg #[.int .i64 c.1, .string ⟨c.2.1.toArray⟩, .string ⟨c.2.2.toArray⟩]) (fun key kl hk => by obtain ⟨x, hx, _⟩ := keyOf_v_inv hk; exact ⟨x, hx⟩) (fun v y hy => by obtain ⟨c, hc, _⟩ := termElemM_form hy; exact ⟨c, hc⟩) bg (w.heap.size + 1) ng Dg left cnt rfl hrg ?_ ?_)
    · intro hc0 hl0
      have hfin : Hid (ss.Nodup ∧ (∀ v ∈ ss, v.length ≤ maxLen) ∧ ∀ v : List UInt8, v.length ≤ maxLen → (v ∈ ss ↔ (g v).isSome = true ∧ (f v).isSome = true)) := ⟨hC.out.1, hC.out.2.1, fun u hu => by rw [hC.out.2.2 u hu, hl0]; simp⟩
      rcases hown.out.2 with ⟨rfl, h0⟩ | ⟨g', cap, cur, rfl, hg'⟩
      · obtain rfl : ss = [] := List.eq_nil_of_length_eq_zero h0
        clear h0 hC hown hrg hcs
        go_wp2_with (go_at_call 155; refine (Tryz.slices_Sort_string_none none 0 _).mono ?_; rintro e w' ⟨rfl, rfl⟩)
        exact HQ2.out _ _ ⟨hbr, [], w.heap.size, rfl, ⟨none, 0, hc, fun h => absurd rfl h⟩, hfin.out⟩
      · have hs63 : ss.length ≤ 1000000 := by omega
        have HS := sortTexts_any _ g' cap ss wr hown.out hs63
        have hgg := (hown.out.lt g' rfl).1
        clear hg' hC hown hrg hcs
        go_wp2_with fail
        refine HS.mono ?_
        rintro e w1 ⟨rfl, hb1, hs1⟩
        dsimp only
        go_wp2_with fail
        refine HQ2.out _ _ ⟨hbr.trans (hb1.mono (by omega)), ss.mergeSort fun x y => decide (x ≤ y), w.heap.size, rfl, ⟨some ⟨g', 0, none⟩, cap, ?_, hs1⟩, ?_, ?_, ?_⟩
        · rw [List.length_mergeSort]
          exact (hb1.cell (by show w.heap.size < g'; omega)).trans hc
        · exact (List.mergeSort_perm _ _).nodup_iff.2 hfin.out.1
        · intro u hu
          exact hfin.out.2.1 u ((List.mergeSort_perm _ _).mem_iff.1 hu)
        · intro u hu
          rw [(List.mergeSort_perm _ _).mem_iff]
          exact hfin.out.2.2 u hu
    · intro nm ck cS cL kl yd yp w1 cnt1 hkey hlx hv hat hrg1 hlt hg1 hs1 hen
      obtain ⟨v', ev, rfl, hvl⟩ := keyOf_v_inv hkey
      obtain rfl : nm = v' := by simpa using ev
      clear ev
      have hgn : (g nm).isSome = true := by
        have h1 := has_true_of_atKey hat
        rw [(Kg.out nm hvl).1] at h1
        exact h1
      have hE1 := hideE ((Hx.out.far hbr hbx).kept hg1 (fun e => by have := Option.some.inj e; omega))
      obtain ⟨e1, e2⟩ := grown_cellE hg1 (b := w.heap.size) (by omega) (fun e => by have := Option.some.inj e; omega) 0
      have hc1 := e1.trans hc
      have hf1 := e2.trans hf
      have hown1 := hideE (hown.out.kept hg1 (by
        rcases hb : v.ownBlock with _ | k
        · exact Or.inl rfl
        · refine Or.inr (fun e => ?_)
          have := (hown.out.lt k hb).1
          have := Option.some.inj e
          omega))
      have hB1 := hbr.grown hg1 (by omega) (fun k e => by have := Option.some.inj e; omega)
      have hC1 := hideE (hC.out.step hvl hlx hgn)
      have hle := hrg.left_eq
      have hw1 : w.heap.size < w1.heap.size := by omega
      have hw2 : w.heap.size + 2 ≤ w1.heap.size := by omega
      clear hv hat hkey hrg hc hf e1 e2 hown hC hgn hlx hs1
      cases hfn : f nm with
      | none =>
        rw [hfn] at hC1
        have HC2 : Hid (CollE f g (fun z => left z && !z.sameKey (.string nm)) ss) := hC1.out
        have Hfn := hideE hfn
        clear hfn hC1
        go_wp2_with (first
          | (at_lookup; refine wpList_look_ev _ rfl _ _ rfl bx nx f rfl hE1.out nm hvl rfl tmZero false (by rw [Hfn.out]; rfl) (by rw [Hfn.out]; rfl) ?_))
        have hrg2 := hrg1.alloc (.cells #[.int .i64 tmZero.1, .string ⟨tmZero.2.1.toArray⟩, .string ⟨tmZero.2.2.toArray⟩] 56)
        go_roundw
        case rel => first | exact ⟨_, cnt1, ss, v, hrg2, by omega, ((balloc w1 _).cell hw1).trans hc1, ((balloc w1 _).frozen hw1).trans hf1, hown1.out.alloc _, HC2.out, bstep hB1 (balloc _ _)⟩ | ((repeat apply Exists.intro); exact ⟨⟨_, cnt1, ss, v, hrg2, by omega, ((balloc w1 _).cell hw1).trans hc1, ((balloc w1 _).frozen hw1).trans hf1, hown1.out.alloc _, HC2.out, bstep hB1 (balloc _ _)⟩, rfl⟩)
        case measure => rw [hrg2.left_eq, hle]; exact hlt
      | some y =>
        rw [hfn] at hC1
        have HC2 : Hid (CollE f g (fun z => left z && !z.sameKey (.string nm)) (ss ++ [nm])) := hC1.out
        have Hfn := hideE hfn
        clear hfn hC1
        obtain ⟨W2, hW2⟩ : ∃ W2, W2 = (w1.alloc (.cells #[.int .i64 y.1, .string ⟨y.2.1.toArray⟩, .string ⟨y.2.2.toArray⟩] 56)).alloc (.cells #[.string ⟨nm.toArray⟩] 9) := ⟨_, rfl⟩
        have hB12 : RowKit.Below w1.heap.size w1 W2 := by rw [hW2]; exact bstep (balloc _ _) (balloc _ _)
        have hz2 : w.heap.size + 2 ≤ W2.heap.size := by rw [hW2]; simp; omega
        have hown2 : W2.ownsRow (w.heap.size + 2) 9 1 v ss.length (ss.map encV) := by rw [hW2]; exact (hown1.out.alloc _).alloc _
        have hrg2 : W2.ranges Tryz.prog 9 termElemM bg (w.heap.size + 1) ng Dg (fun z => left z && !z.sameKey (.string nm)) cnt1 := by rw [hW2]; exact (hrg1.alloc _).alloc _
        have hc2 := (hB12.cell (p := ⟨w.heap.size, 0, none⟩) hw1).trans hc1
        have hf2 := (hB12.frozen (p := ⟨w.heap.size, 0, none⟩) hw1).trans hf1
        have hsl : SlW W2 (some ⟨w1.heap.size + 1, 0, none⟩) [nm] := fun _ => ⟨_, _, rfl, fun j hj => by
          obtain rfl : j = 0 := by simpa using hj
          rw [hW2]
          go_simp
          rfl⟩
        have hs63 : ss.length + [nm].length ≤ 1000000 := by simp; omega
        go_wp2_with (first
          | (at_lookup; refine wpList_look_ev _ rfl _ _ rfl bx nx f rfl hE1.out nm hvl rfl y true (by rw [Hfn.out]; rfl) (by rw [Hfn.out]; rfl) ?_)
          | (at_builtin; rw [← hW2]; go_loud (refine wpList_append_textsW _ rfl _ _ rfl (w.heap.size + 2) v ss [nm] (some ⟨w1.heap.size + 1, 0, none⟩) 1 rfl rfl hown2 hsl hs63 hz2 ?_); intro v' w3 hown3 hg3; have hc3 := (grown_cellE hg3 (b := w.heap.size) (by omega) (own_aboveE hown2 (by omega)) 0).1.trans hc2; have hf3 := (grown_cellE hg3 (b := w.heap.size) (by omega) (own_aboveE hown2 (by omega)) 0).2.trans hf2; obtain ⟨n3, hn3⟩ : ∃ n3, n3 = (ss ++ [nm]).length := ⟨_, rfl⟩; rw [← hn3] at hown3; have Hn3 := hideE hn3; clear hn3; obtain ⟨av, cv, rfl⟩ := own_form hown3))
        have hrg3 := (hrg2.kept hg3 (own_aboveE hown2 (by omega)) (own_aboveE hown2 (by omega))).kept (grownBy_setCell' w3 w.heap.size (.slice av n3 cv)) (fun e => by have := Option.some.inj e; omega) (fun e => by have := Option.some.inj e; omega)
        have hown4 := hown3.kept (grownBy_setCell' w3 w.heap.size (.slice av n3 cv)) (by
          rcases hb : (Value.slice av n3 cv).ownBlock with _ | k
          · exact Or.inl rfl
          · refine Or.inr (fun e => ?_)
            have := (hown3.lt k hb).1
            have := Option.some.inj e
            omega)
        have hcf := World.cell?_setCell_same w3 ⟨w.heap.size, 0, none⟩ (.slice av n3 cv) hc3
        have hff : (w3.setCell ⟨w.heap.size, 0, none⟩ (.slice av n3 cv)).frozen? ⟨w.heap.size, 0, none⟩ = false := by rw [World.frozen?_setCell]; exact hf3
        have hBf := ((hB1.trans (hB12.mono hB1.size)).grown hg3 (by omega) (fun k e => by have := (hown2.lt k e).1; omega)).setCell (p := ⟨w.heap.size, 0, none⟩) (Nat.le_refl _) (.slice av n3 cv)
        have hown5 : Hid (World.ownsRow (w3.setCell ⟨w.heap.size, 0, none⟩ (.slice av n3 cv)) (w.heap.size + 2) 9 1 (.slice av n3 cv) (ss ++ [nm]).length ((ss ++ [nm]).map encV)) := by show World.ownsRow _ _ _ _ _ _ _; rw [← Hn3.out]; exact hown4
        have hcl : (ss ++ [nm]).length + cnt1 ≤ Maps.size Dg := by rw [List.length_append]; simp only [List.length_cons, List.length_nil]; omega
        go_roundw
        case rel => exact ⟨_, cnt1, ss ++ [nm], .slice av n3 cv, hrg3, hcl, hcf, hff, hown5, HC2.out, hBf⟩
        case measure => rw [hrg3.left_eq, hle]; exact hlt
end Go.Proofs.YtaddfndohoppeaaGreat

/- What answers a question over a set: bound patterns, answers, their order; plain lists, no program. -/
namespace Go.Proofs.YtaddfndohoppeaaGreat
open Go Go.RowKit Go.Proofs
set_option synthInstance.maxSize 1000

/-! ### bound -/
/-- what a variable is told to be: the first counts -/
def boundT : List (List UInt8) → List Tm → List UInt8 → Option Tm
  | v :: vs, t :: ts, s => if v = s ∧ s ≠ [] then some t else boundT vs ts s
  | [], _, _ => none
  | _ :: _, [], _ => none
def bindS (vars : List (List UInt8)) (vals : List Tm) (s : Sl) : Sl := match boundT vars vals s.1 with
  | some t => ([], t)
  | none => s
def bindP (vars : List (List UInt8)) (vals : List Tm) (p : Pt) : Pt := (bindS vars vals p.1, bindS vars vals p.2.1, bindS vars vals p.2.2)
/-! ### answers -/
def matchP (S : List Tr) (p : Pt) : List Tr := S.filter (fitsB p)
def freshV (vars : List (List UInt8)) (p : Pt) : List (List UInt8) := (varsL p).filter fun v => !decide (v ∈ vars)
def pickT (p : Pt) (t : Tr) (v : List UInt8) : Tm := if p.1.1 = v then t.1 else if p.2.1.1 = v then t.2.1 else t.2.2
def extR (vars : List (List UInt8)) (p : Pt) (r : List Tm) (t : Tr) : List Tm := r ++ (freshV vars p).map (pickT p t)
def rowsOf (S : List Tr) (vars : List (List UInt8)) (p : Pt) (r : List Tm) : List (List Tm) := (matchP S (bindP vars r p)).map (extR vars p r)
def stepR (S : List Tr) (vars : List (List UInt8)) (p : Pt) (rows : List (List Tm)) : List (List Tm) := rows.flatMap (rowsOf S vars p)
/-- the variables as they come, their terms in each answer; none: there are too many -/
def answersF (S : List Tr) : List (List UInt8) → List (List Tm) → List Pt → Option (List (List UInt8) × List (List Tm))
  | vars, rows, [] => some (vars, rows)
  | vars, rows, p :: ps => if 500 < (stepR S vars p rows).length then none else answersF S (vars ++ freshV vars p) (stepR S vars p rows) ps
def answersL (S : List Tr) (parts : List Pt) : Option (List (List UInt8) × List (List Tm)) := answersF S [] [[]] parts
/-! ### in order -/
def lessR : List Tm → List Tm → Bool
  | x :: a, y :: b => if cmpTm x y = 0 then lessR a b else decide (cmpTm x y < 0)
  | _, _ => false
def byC (i : Option Nat) (down : Bool) (a b : List Tm) : Int := match i with
  | none => 0
  | some i => if down = true then - cmpTm (a.getD i tmZero) (b.getD i tmZero) else cmpTm (a.getD i tmZero) (b.getD i tmZero)
/-- is a row ahead of another one? -/
def aheadB (i : Option Nat) (down : Bool) (a b : List Tm) : Bool := decide (byC i down a b < 0) || (decide (byC i down a b = 0) && lessR a b)
def insR (lt : List Tm → List Tm → Bool) (r : List Tm) : List (List Tm) → List (List Tm)
  | [] => [r]
  | x :: l => if lt r x = true then r :: x :: l else x :: insR lt r l
def putR (lt : List Tm → List Tm → Bool) (dist : Bool) (out : List (List Tm)) (r : List Tm) : List (List Tm) := if dist = true ∧ r ∈ out then out else insR lt r out
def sortR (lt : List Tm → List Tm → Bool) (dist : Bool) (rows : List (List Tm)) : List (List Tm) := rows.foldl (putR lt dist) []
def whereV (vars : List (List UInt8)) (o : List UInt8) : Option Nat := if o ∈ vars then some (vars.idxOf o) else none
def projR (vars : List (List UInt8)) (told : List (List UInt8)) (r : List Tm) : List Tm := told.map fun v => (boundT vars r v).getD tmZero
def limR (lim : Int) (l : List (List Tm)) : List (List Tm) := if 0 ≤ lim then l.take lim.toNat else l
def ltQ (q : Qu) : List Tm → List Tm → Bool := aheadB (whereV q.vars q.order) q.down
def solveN (S : List Tr) (q : Qu) : Int := if sortedN S ≠ 0 then sortedN S else if askN q ≠ 0 then askN q else if (answersL S q.parts).isNone = true then 4 else 0
def solveA (S : List Tr) (q : Qu) : List (List Tm) := match answersL S q.parts with
  | none => []
  | some (vars, rows) => limR q.lim (sortR (ltQ q) q.dist (rows.map (projR vars q.vars)))
def solveL (S : List Tr) (q : Qu) : List (List Tm) := if solveN S q = 0 then solveA S q else []
/-! ### the order is one -/
theorem tmZ {x y : Tm} : cmpTm x y = 0 ↔ x = y := cmpTm_zero x y
theorem tmT {x y z : Tm} (h1 : cmpTm x y ≤ 0) (h2 : cmpTm y z ≤ 0) : cmpTm x z ≤ 0 := cmpTm_trans x y z h1 h2
theorem tmLt {x y z : Tm} (h1 : cmpTm x y < 0) (h2 : cmpTm y z ≤ 0) : cmpTm x z < 0 := by
  have h3 := tmT (Int.le_of_lt h1) h2
  rcases Int.lt_or_eq_of_le h3 with h | h
  · exact h
  · have e := tmZ.1 h
    subst e
    have := cmpTm_neg y x
    omega
theorem tmLt' {x y z : Tm} (h1 : cmpTm x y ≤ 0) (h2 : cmpTm y z < 0) : cmpTm x z < 0 := by
  have h3 := tmT h1 (Int.le_of_lt h2)
  rcases Int.lt_or_eq_of_le h3 with h | h
  · exact h
  · have e := tmZ.1 h
    subst e
    have := cmpTm_neg y x
    omega
theorem less_irr : ∀ (a : List Tm), lessR a a = false
  | [] => rfl
  | x :: a => by simp [lessR, tmZ.2 rfl, less_irr a]
theorem less_trans : ∀ (a b c : List Tm), lessR a b = true → lessR b c = true → lessR a c = true
  | [], _, _, h, _ => by simp [lessR] at h
  | x :: a, [], _, h, _ => by simp [lessR] at h
  | x :: a, y :: b, [], _, h => by simp [lessR] at h
  | x :: a, y :: b, z :: c, h1, h2 => by
    unfold lessR at h1 h2 ⊢
    by_cases e1 : cmpTm x y = 0
    · rw [if_pos e1] at h1
      have e1' := tmZ.1 e1
      subst e1'
      by_cases e2 : cmpTm x z = 0
      · rw [if_pos e2] at h2 ⊢
        exact less_trans a b c h1 h2
      · rw [if_neg e2] at h2 ⊢
        exact h2
    · rw [if_neg e1] at h1
      have h1' : cmpTm x y < 0 := by simpa using h1
      by_cases e2 : cmpTm y z = 0
      · have e2' := tmZ.1 e2
        subst e2'
        rw [if_neg e1]
        exact h1
      · rw [if_neg e2] at h2
        have h2' : cmpTm y z < 0 := by simpa using h2
        have h3 := tmLt h1' (Int.le_of_lt h2')
        rw [if_neg (by omega)]
        simpa using h3
theorem less_total : ∀ (a b : List Tm), a.length = b.length → lessR a b = false → lessR b a = false → a = b
  | [], [], _, _, _ => rfl
  | [], y :: b, h, _, _ => by simp at h
  | x :: a, [], h, _, _ => by simp at h
  | x :: a, y :: b, h, h1, h2 => by
    unfold lessR at h1 h2
    have hn := cmpTm_neg x y
    by_cases e : cmpTm x y = 0
    · rw [if_pos e] at h1
      rw [if_pos (by omega)] at h2
      rw [tmZ.1 e, less_total a b (by simpa using h) h1 h2]
    · rw [if_neg e] at h1
      rw [if_neg (by omega)] at h2
      simp at h1 h2
      omega
theorem byC_neg (i : Option Nat) (down : Bool) (a b : List Tm) : byC i down a b = - byC i down b a := by
  unfold byC
  cases i with
  | none => rfl
  | some i =>
    have := cmpTm_neg (a.getD i tmZero) (b.getD i tmZero)
    dsimp only
    split <;> omega
theorem byC_lt {i : Option Nat} {down : Bool} {a b c : List Tm} (h1 : byC i down a b < 0) (h2 : byC i down b c ≤ 0) : byC i down a c < 0 := by
  unfold byC at *
  cases i with
  | none => exact absurd h1 (Int.lt_irrefl 0)
  | some i =>
    dsimp only at *
    split at h1
    · rw [if_pos (by assumption)] at h2 ⊢
      have e1 := cmpTm_neg (a.getD i tmZero) (b.getD i tmZero)
      have e2 := cmpTm_neg (b.getD i tmZero) (c.getD i tmZero)
      have e3 := cmpTm_neg (a.getD i tmZero) (c.getD i tmZero)
      have := tmLt' (x := c.getD i tmZero) (y := b.getD i tmZero) (z := a.getD i tmZero) (by omega) (by omega)
      omega
    · rw [if_neg (by assumption)] at h2 ⊢
      exact tmLt h1 h2
theorem byC_le {i : Option Nat} {down : Bool} {a b c : List Tm} (h1 : byC i down a b ≤ 0) (h2 : byC i down b c ≤ 0) : byC i down a c ≤ 0 := by
  unfold byC at *
  cases i with
  | none => exact Int.le_refl _
  | some i =>
    dsimp only at *
    split at h1
    · rw [if_pos (by assumption)] at h2 ⊢
      have e1 := cmpTm_neg (a.getD i tmZero) (b.getD i tmZero)
      have e2 := cmpTm_neg (b.getD i tmZero) (c.getD i tmZero)
      have e3 := cmpTm_neg (a.getD i tmZero) (c.getD i tmZero)
      have := tmT (x := c.getD i tmZero) (y := b.getD i tmZero) (z := a.getD i tmZero) (by omega) (by omega)
      omega
    · rw [if_neg (by assumption)] at h2 ⊢
      exact tmT h1 h2
theorem ahead_irr (i : Option Nat) (down : Bool) (a : List Tm) : aheadB i down a a = false := by
  have := byC_neg i down a a
  have e : byC i down a a = 0 := by omega
  simp [aheadB, e, less_irr]
theorem ahead_trans {i : Option Nat} {down : Bool} {a b c : List Tm} (h1 : aheadB i down a b = true) (h2 : aheadB i down b c = true) : aheadB i down a c = true := by
  simp only [aheadB, Bool.or_eq_true, Bool.and_eq_true, decide_eq_true_eq] at *
  rcases h1 with h1 | ⟨h1, k1⟩
  · rcases h2 with h2 | ⟨h2, k2⟩
    · exact Or.inl (byC_lt h1 (by omega))
    · exact Or.inl (byC_lt h1 (by omega))
  · rcases h2 with h2 | ⟨h2, k2⟩
    · refine Or.inl ?_
      have e1 := byC_neg i down a b
      have e2 := byC_neg i down b c
      have e3 := byC_neg i down a c
      by_cases h : byC i down a c < 0
      · exact h
      · exfalso
        have := byC_lt (i := i) (down := down) (a := b) (b := c) (c := a) h2 (by omega)
        omega
    · right
      have e1 := byC_neg i down a b
      have e2 := byC_neg i down b c
      have e3 := byC_neg i down a c
      have g1 := byC_le (i := i) (down := down) (a := a) (b := b) (c := c) (by omega) (by omega)
      have g2 := byC_le (i := i) (down := down) (a := c) (b := b) (c := a) (by omega) (by omega)
      exact ⟨by omega, less_trans a b c k1 k2⟩
theorem ahead_total {i : Option Nat} {down : Bool} {a b : List Tm} (hl : a.length = b.length) (h1 : aheadB i down a b = false) (h2 : aheadB i down b a = false) : a = b := by
  simp only [aheadB, Bool.or_eq_false_iff, Bool.and_eq_false_iff, decide_eq_false_iff_not] at h1 h2
  have e := byC_neg i down a b
  have k1 : lessR a b = false := by rcases h1.2 with h | h <;> first | (exfalso; omega) | exact h
  have k2 : lessR b a = false := by rcases h2.2 with h | h <;> first | (exfalso; omega) | exact h
  exact less_total a b hl k1 k2
end Go.Proofs.YtaddfndohoppeaaGreat

/- Rows of terms, and lists of such rows, in memory. -/
namespace Go.Proofs.YtaddfndohoppeaaGreat
open Go Go.RowKit Go.Proofs Go.Maps
set_option synthInstance.maxSize 1000

def encQ (x : Tm) : List Value := [.int .i64 x.1, .string ⟨x.2.1.toArray⟩, .string ⟨x.2.2.toArray⟩]
def cellsQ (l : List Tm) : List Value := l.flatMap encQ
theorem encQ_len (x : Tm) : (encQ x).length = 3 := rfl
theorem encQ_one (x : Tm) : ∀ v ∈ encQ x, v.oneCell' = true := by
  intro v hv
  simp [encQ] at hv
  rcases hv with rfl | rfl | rfl <;> rfl
theorem cellsQ_len (l : List Tm) : (cellsQ l).length = l.length * 3 := by
  induction l with
  | nil => rfl
  | cons x r ih => simp only [cellsQ, List.flatMap_cons, List.length_append, List.length_cons] at *; rw [ih, encQ_len]; omega
theorem cellsQ_at (l : List Tm) (i : Nat) (h : i < l.length) (j : Nat) (hj : j < 3) : (cellsQ l)[i * 3 + j]? = (encQ l[i])[j]? := by
  induction l generalizing i with
  | nil => simp at h
  | cons x r ih =>
    simp only [cellsQ, List.flatMap_cons] at *
    cases i with
    | zero => rw [List.getElem?_append_left (by rw [encQ_len]; omega)]; simp
    | succ n =>
      rw [List.getElem?_append_right (by rw [encQ_len]; omega), encQ_len, show (n + 1) * 3 + j - 3 = n * 3 + j by omega, ih n (by simpa using h)]
      simp
/-- a slice holds a list of terms -/
def SlQ (w : World) (ad : Option Addr) (l : List Tm) : Prop := l ≠ [] → ∃ b o, ad = some ⟨b, o, none⟩ ∧ ∀ j v, (cellsQ l)[j]? = some v → w.cell? ⟨b, o + j, none⟩ = some v
theorem SlQ.below {w w' : World} {ad : Option Addr} {l : List Tm} (h : SlQ w ad l) (hb : RowKit.Below w.heap.size w w') : SlQ w' ad l := fun hl => by
  obtain ⟨b, o, e, r⟩ := h hl
  exact ⟨b, o, e, fun j v hv => (hb.cell (World.block_lt_of_cell? w _ (r j v hv))).trans (r j v hv)⟩
theorem SlQ.at {w : World} {ad : Option Addr} {l : List Tm} (h : SlQ w ad l) (k : Nat) (hk : k < l.length) : ∃ b o, ad = some ⟨b, o, none⟩ ∧ w.cell? ⟨b, o + k * 3, none⟩ = some (.int .i64 l[k].1) ∧ w.cell? ⟨b, o + k * 3 + 1, none⟩ = some (.string ⟨l[k].2.1.toArray⟩) ∧ w.cell? ⟨b, o + k * 3 + 2, none⟩ = some (.string ⟨l[k].2.2.toArray⟩) := by
  obtain ⟨b, o, e, r⟩ := h (fun e => by rw [e] at hk; simp at hk)
  have hx : ∀ j (hj : j < 3) v, (encQ l[k])[j]? = some v → w.cell? ⟨b, o + k * 3 + j, none⟩ = some v := fun j hj v hv => by
    rw [Nat.add_assoc]
    exact r _ v (by rw [cellsQ_at l k hk j hj]; exact hv)
  exact ⟨b, o, e, hx 0 (by omega) _ rfl, hx 1 (by omega) _ rfl, hx 2 (by omega) _ rfl⟩
theorem slQ_nil (W : World) (ad : Option Addr) : SlQ W ad [] := fun h => absurd rfl h
theorem own_slQ {W : World} {base : Nat} {e : TypeId} {v : Value} {t : List Tm} (h : W.ownsRow base e 3 v t.length (cellsQ t)) : ∃ ad cap, v = .slice ad t.length cap ∧ SlQ W ad t := by
  have h' := h
  rcases h.2 with ⟨rfl, h0⟩ | ⟨g, cap, cur, rfl, _⟩
  · exact ⟨none, 0, by rw [h0], fun hne => absurd (List.eq_nil_of_length_eq_zero h0) hne⟩
  · refine ⟨some ⟨g, 0, none⟩, cap, rfl, fun _ => ⟨g, 0, rfl, fun j u hj => ?_⟩⟩
    have := h'.cells (g := g) rfl j u hj
    rwa [Addr.add_lit] at this
theorem infoQ : (Tryz.prog.info? 56).map (fun i => (i.zero, i.size, i.bytes)) = some (some (.agg (encQ tmZero).toArray), 3, 40) := by kernel_rfl
/-- a slice holds a list of rows -/
def SlR (w : World) (ad : Option Addr) (L : List (List Tm)) : Prop := L ≠ [] → ∃ b o, ad = some ⟨b, o, none⟩ ∧ ∀ j (hj : j < L.length), ∃ rd rc, w.cell? ⟨b, o + j, none⟩ = some (.slice rd L[j].length rc) ∧ SlQ w rd L[j]
theorem SlR.below {w w' : World} {ad : Option Addr} {L : List (List Tm)} (h : SlR w ad L) (hb : RowKit.Below w.heap.size w w') : SlR w' ad L := fun hl => by
  obtain ⟨b, o, e, r⟩ := h hl
  refine ⟨b, o, e, fun j hj => ?_⟩
  obtain ⟨rd, rc, c, s⟩ := r j hj
  exact ⟨rd, rc, (hb.cell (World.block_lt_of_cell? w _ c)).trans c, s.below hb⟩
theorem SlR.at {w : World} {ad : Option Addr} {L : List (List Tm)} (h : SlR w ad L) (k : Nat) (hk : k < L.length) : ∃ b o rd rc, ad = some ⟨b, o, none⟩ ∧ w.cell? ⟨b, o + k, none⟩ = some (.slice rd L[k].length rc) ∧ SlQ w rd L[k] := by
  obtain ⟨b, o, e, r⟩ := h (fun e => by rw [e] at hk; simp at hk)
  obtain ⟨rd, rc, c, s⟩ := r k hk
  exact ⟨b, o, rd, rc, e, c, s⟩
theorem slR_nil (W : World) (ad : Option Addr) : SlR W ad [] := fun h => absurd rfl h
/-- rows of one's own: a row of slices, each a row of terms; none of them is another one's -/
structure OwnR (W : World) (B : Nat) (v : Value) (L : List (List Tm)) (vs : List Value) : Prop where
  len : vs.length = L.length
  row : W.ownsRow B 70 1 v L.length vs
  each : ∀ j (h : j < L.length), W.ownsRow B 56 3 (vs[j]'(by omega)) L[j].length (cellsQ L[j])
theorem types_ne : (70 : Nat) ≠ 56 := by decide
/-- what owns blocks of two types shares none -/
theorem own_types {W : World} {B e e' s s' n n' : Nat} {v v' : Value} {cs cs' : List Value} (h : W.ownsRow B e s v n cs) (h' : W.ownsRow B e' s' v' n' cs') (hne : e ≠ e') : v'.ownBlock = none ∨ v'.ownBlock ≠ v.ownBlock := by
  rcases h'.2 with ⟨rfl, _⟩ | ⟨g', c', cur', rfl, _, hg', _⟩
  · exact Or.inl rfl
  · right
    intro hq
    rcases h.2 with ⟨rfl, _⟩ | ⟨g, c, cur, rfl, _, hg, _⟩
    · cases hq
    · have e1 : g' = g := by simpa [Value.ownBlock] using hq
      rw [e1, hg] at hg'
      injection hg' with hg'
      injection hg' with _ h2 _
      exact hne h2
theorem OwnR.below {W W' : World} {B : Nat} {v : Value} {L : List (List Tm)} {vs : List Value} (h : OwnR W B v L vs) (hb : RowKit.Below W.heap.size W W') : OwnR W' B v L vs := ⟨h.len, ownsRow_belowV h.row hb, fun j hj => ownsRow_belowV (h.each j hj) hb⟩
theorem OwnR.nil (W : World) (B : Nat) : OwnR W B (.slice none 0 0) [] [] := ⟨rfl, World.ownsRow_nil _ _ _ _, fun j h => by simp at h⟩
/-- one row more: the list of rows grew, the row was there -/
theorem OwnR.push {W W' : World} {B : Nat} {v v' : Value} {L : List (List Tm)} {vs : List Value} {r : List Tm} {u : Value} (h : OwnR W B v L vs) (hr : W.ownsRow B 56 3 u r.length (cellsQ r)) (hrow : W'.ownsRow B 70 1 v' (L ++ [r]).length (vs ++ [u])) (hg : W.grownBy W' v.ownBlock) : OwnR W' B v' (L ++ [r]) (vs ++ [u]) := by
  refine ⟨by simp [h.len], hrow, fun j hj => ?_⟩
  by_cases hjl : j < L.length
  · have e1 : (L ++ [r])[j] = L[j] := List.getElem_append_left hjl
    have e2 : (vs ++ [u])[j]'(by simp; have := h.len; omega) = vs[j]'(by have := h.len; omega) := List.getElem_append_left (by have := h.len; omega)
    rw [e1, e2]
    exact (h.each j hjl).kept hg (own_types h.row (h.each j hjl) types_ne)
  · have hjj : j = L.length := by simp at hj; omega
    subst hjj
    have e1 : (L ++ [r])[L.length] = r := by simp
    have e2 : (vs ++ [u])[L.length]'(by simp [h.len]) = u := by
      have := h.len
      rw [List.getElem_append_right (by omega)]
      simp [this]
    rw [e1, e2]
    exact hr.kept hg (own_types h.row hr types_ne)
theorem OwnR.sl {W : World} {B : Nat} {v : Value} {L : List (List Tm)} {vs : List Value} (h : OwnR W B v L vs) : ∃ ad cap, v = .slice ad L.length cap ∧ SlR W ad L := by
  rcases h.row.2 with ⟨rfl, h0⟩ | ⟨g, cap, cur, rfl, _⟩
  · exact ⟨none, 0, by rw [h0], fun hne => absurd (List.eq_nil_of_length_eq_zero h0) hne⟩
  · refine ⟨some ⟨g, 0, none⟩, cap, rfl, fun _ => ⟨g, 0, rfl, fun j hj => ?_⟩⟩
    have hjv : j < vs.length := by have := h.len; omega
    have hc := h.row.cells (g := g) rfl j vs[j] (List.getElem?_eq_getElem hjv)
    rw [Addr.add_lit] at hc
    obtain ⟨rd, rc, e, s⟩ := own_slQ (h.each j hj)
    rw [e] at hc
    exact ⟨rd, rc, hc, s⟩
end Go.Proofs.YtaddfndohoppeaaGreat

/- A row of terms that is written one by one; the terms that an answer gives to some variables. -/
namespace Go.Proofs.YtaddfndohoppeaaGreat
open Go Go.RowKit Go.Proofs Go.Maps
set_option synthInstance.maxSize 1000

/-- the cells of a block, from its first on, are a list's, and may be written -/
def RowQ (W : World) (g : Nat) (L : List Tm) : Prop := ∀ j v, (cellsQ L)[j]? = some v → W.cell? ⟨g, j, none⟩ = some v ∧ W.frozen? ⟨g, j, none⟩ = false
theorem RowQ.at {W : World} {g : Nat} {L : List Tm} (h : RowQ W g L) (k : Nat) (hk : k < L.length) :
    (W.cell? ⟨g, k * 3, none⟩ = some (.int .i64 L[k].1) ∧ W.cell? ⟨g, k * 3 + 1, none⟩ = some (.string ⟨L[k].2.1.toArray⟩) ∧ W.cell? ⟨g, k * 3 + 2, none⟩ = some (.string ⟨L[k].2.2.toArray⟩)) ∧
    (W.frozen? ⟨g, k * 3, none⟩ = false ∧ W.frozen? ⟨g, k * 3 + 1, none⟩ = false ∧ W.frozen? ⟨g, k * 3 + 2, none⟩ = false) := by
  have q := fun c (hc : c < 3) v (hv : (encQ L[k])[c]? = some v) => h (k * 3 + c) v (by rw [cellsQ_at L k hk c hc]; exact hv)
  exact ⟨⟨(q 0 (by omega) _ rfl).1, (q 1 (by omega) _ rfl).1, (q 2 (by omega) _ rfl).1⟩, ⟨(q 0 (by omega) _ rfl).2, (q 1 (by omega) _ rfl).2, (q 2 (by omega) _ rfl).2⟩⟩
theorem RowQ.sl {W : World} {g : Nat} {L : List Tm} (h : RowQ W g L) : SlQ W (some ⟨g, 0, none⟩) L := fun _ => ⟨g, 0, rfl, fun j v hv => by rw [Nat.zero_add]; exact (h j v hv).1⟩
theorem RowQ.set {W : World} {g k : Nat} {L : List Tm} (h : RowQ W g L) (x : Tm) :
    RowQ (((W.setCell ⟨g, k * 3, none⟩ (.int .i64 x.1)).setCell ⟨g, k * 3 + 1, none⟩ (.string ⟨x.2.1.toArray⟩)).setCell ⟨g, k * 3 + 2, none⟩ (.string ⟨x.2.2.toArray⟩)) g (L.set k x) := fun j v hv => by
  have hj : j < L.length * 3 := by
    have := (List.getElem?_eq_some_iff.1 hv).1
    rwa [cellsQ_len, List.length_set] at this
  have hi : j / 3 < L.length := by omega
  have hv2 := hv
  rw [show j = j / 3 * 3 + j % 3 by omega, cellsQ_at (L.set k x) (j / 3) (by rw [List.length_set]; exact hi) (j % 3) (by omega)] at hv2
  have o : ∀ (V : World) (i : Nat) (u : Value), i ≠ j → (V.setCell ⟨g, i, none⟩ u).cell? ⟨g, j, none⟩ = V.cell? ⟨g, j, none⟩ := fun V i u hne => World.cell?_setCell_other V _ _ u (fun e => hne (congrArg Addr.off e))
  obtain ⟨v0, hv0⟩ : ∃ v0, (cellsQ L)[j]? = some v0 := ⟨_, List.getElem?_eq_getElem (by rw [cellsQ_len]; exact hj)⟩
  obtain ⟨c0, f0⟩ := h j v0 hv0
  refine ⟨?_, by rw [World.frozen?_setCell, World.frozen?_setCell, World.frozen?_setCell]; exact f0⟩
  by_cases e : j / 3 = k
  · rw [List.getElem_set, if_pos e.symm] at hv2
    rcases (by omega : j % 3 = 0 ∨ j % 3 = 1 ∨ j % 3 = 2) with r | r | r
    · rw [r] at hv2
      have ev : v = .int .i64 x.1 := by simpa [encQ] using hv2.symm
      have ej : j = k * 3 := by omega
      subst ev
      rw [o _ _ _ (by omega), o _ _ _ (by omega), ej]
      rw [ej] at c0
      exact World.cell?_setCell_same W _ _ c0
    · rw [r] at hv2
      have ev : v = .string ⟨x.2.1.toArray⟩ := by simpa [encQ] using hv2.symm
      have ej : j = k * 3 + 1 := by omega
      subst ev
      rw [o _ _ _ (by omega), ej]
      rw [ej] at c0
      exact World.cell?_setCell_same _ _ _ ((World.cell?_setCell_other W _ _ _ (fun e => by have := congrArg Addr.off e; simp at this)).trans c0)
    · rw [r] at hv2
      have ev : v = .string ⟨x.2.2.toArray⟩ := by simpa [encQ] using hv2.symm
      have ej : j = k * 3 + 2 := by omega
      subst ev
      rw [ej]
      rw [ej] at c0
      exact World.cell?_setCell_same _ _ _ ((World.cell?_setCell_other _ _ _ _ (fun e => by have := congrArg Addr.off e; simp at this)).trans ((World.cell?_setCell_other W _ _ _ (fun e => by have := congrArg Addr.off e; simp at this)).trans c0))
  · rw [List.getElem_set, if_neg (fun h => e h.symm)] at hv2
    rw [o _ _ _ (by omega), o _ _ _ (by omega), o _ _ _ (by omega), c0, ← hv0]
    rw [show j = j / 3 * 3 + j % 3 by omega, cellsQ_at L (j / 3) hi (j % 3) (by omega), hv2]
theorem rowQ_made (W : World) (n : Nat) (T : TypeId) : RowQ (W.alloc (.cells (madeCells (encQ tmZero).toArray (n * 3)) T)) W.heap.size (List.replicate n tmZero) := fun j v hv => by
  have hh := heap_alloc_last W (.cells (madeCells (encQ tmZero).toArray (n * 3)) T)
  have hj : j < n * 3 := by
    have := (List.getElem?_eq_some_iff.1 hv).1
    rwa [cellsQ_len, List.length_replicate] at this
  refine ⟨?_, frozen_of_row _ _ j _ T hh⟩
  rw [cell_of_row _ _ j _ T (0, 0) hh]
  rw [show j = j / 3 * 3 + j % 3 by omega, cellsQ_at _ (j / 3) (by simp; omega) (j % 3) (by omega)] at hv
  simp only [List.getElem_replicate] at hv
  rw [← hv]
  have h3 : (encQ tmZero).toArray.size = 3 := rfl
  simp only [madeCells, h3]
  rw [Array.getElem?_map, Array.getElem?_range, if_pos (by simpa using hj)]
  rcases (by omega : j % 3 = 0 ∨ j % 3 = 1 ∨ j % 3 = 2) with r | r | r <;> simp [r, encQ]
theorem makeTms (n : Nat) (w : World) (h : n ≤ 100000) : (Instr.makeSlice 70 (.int .i64 (n : Int)) (.int .i64 (n : Int))).run Tryz.prog w = .ok (.slice (some ⟨w.heap.size, 0, none⟩) n n) (w.alloc (.cells (madeCells (encQ tmZero).toArray (n * 3)) 56)) := by
  obtain ⟨i, hi, hz⟩ := Option.map_eq_some_iff.1 infoQ
  simp only [Prod.mk.injEq] at hz
  obtain ⟨h1, h2, h3⟩ := hz
  have := run_make (P := Tryz.prog) w 70 56 i _ Tryz.underlying70 hi h1 .i64 .i64 (n : Int) (n : Int) (by omega) (Int.le_refl _) (by rw [h3]; omega) (by omega)
  rw [h2] at this
  simpa [Value.cells] using this
def termsE (f : Ev) (names : List (List UInt8)) : List Tm := names.map fun v => (f v).getD tmZero
def termsK (f : Ev) (names : List (List UInt8)) (k : Nat) : List Tm := termsE f (names.take k) ++ List.replicate (names.length - k) tmZero
theorem termsK_len (f : Ev) (names : List (List UInt8)) (k : Nat) (h : k ≤ names.length) : (termsK f names k).length = names.length := by
  simp [termsK, termsE]; omega
theorem termsK_next {f : Ev} {names : List (List UInt8)} {k : Nat} (h : k < names.length) : (termsK f names k).set k ((f names[k]).getD tmZero) = termsK f names (k + 1) := by
  unfold termsK termsE
  obtain ⟨m, hm⟩ : ∃ m, names.length - k = m + 1 := ⟨names.length - k - 1, by omega⟩
  have hm2 : names.length - (k + 1) = m := by omega
  have hk : (List.map (fun v => (f v).getD tmZero) (names.take k)).length = k := by simp; omega
  rw [hm, hm2, List.replicate_succ, List.set_append_right _ _ (by omega), hk, Nat.sub_self, List.set_cons_zero, List.take_succ_eq_append_getElem h, List.map_append, List.append_assoc]
  rfl
theorem termsK_all (f : Ev) (names : List (List UInt8)) : termsK f names names.length = termsE f names := by simp [termsK, termsE]
set_option maxHeartbeats 4000000 in
set_option maxRecDepth 100000 in
theorem terms_any (bm n : Nat) (f : Ev) (vd : Option Addr) (vc : Nat) (names : List (List UInt8)) (w : World) (h : EvAt w bm n f) (hv : SlW w vd names) (hn : ∀ v ∈ names, v.length ≤ maxLen) (h1 : names.length ≤ 100000) :
    Calls Tryz.prog 39 #[.map (some bm), .slice vd names.length vc] w fun e w' => e = .returned (.slice (some ⟨w.heap.size, 0, none⟩) names.length names.length) ∧ RowQ w' w.heap.size (termsE f names) ∧ RowKit.Below w.heap.size w w' := by
  have hmk := fun W => makeTms names.length W h1
  have HE := hideE h
  have HV := hideE hv
  have HN := hideE hn
  clear h hv hn
  obtain ⟨W0, hW0⟩ : ∃ W0, W0 = w.alloc (.cells (madeCells (encQ tmZero).toArray (names.length * 3)) 56) := ⟨_, rfl⟩
  have hR0 := hideE (rowQ_made w names.length 56)
  have hB0 : RowKit.Below w.heap.size w W0 := by rw [hW0]; exact balloc _ _
  go_enter Tryz.func39, Tryz.ntmps39
  go_upto_region 2 with fail
  rw [← hW0] at hR0 ⊢
  clear hW0
  go_wp2_with fail
  go_loopw [13] (fun i wr => ∃ k : Nat, k ≤ names.length ∧ i = .int .i64 k ∧ Hid (RowQ wr w.heap.size (termsK f names k)) ∧ RowKit.Below w.heap.size w wr) (fun i wr => names.length - (intOf i).toNat)
  case atStart => exact ⟨0, Nat.zero_le _, rfl, by show RowQ _ _ _; simpa [termsK, termsE] using hR0.out, hB0⟩
  case round =>
    clear hR0 hB0
    obtain ⟨k, hk, rfl, hR, hbr⟩ := hrel
    by_cases hlt : k < names.length
    · have t1 : decide ((k : Int) < (names.length : Int)) = true := by simp; omega
      have i0 : (0 : Int) ≤ (k : Int) := by omega
      have i1 : (k : Int) < (names.length : Int) := by omega
      obtain ⟨b, o, rfl, ck⟩ := (HV.out.below hbr).at k hlt
      have hvk := HN.out _ (List.getElem_mem hlt)
      have hNx := hideE (hR.out.set (k := k) ((f names[k]).getD tmZero))
      rw [termsK_next hlt] at hNx
      obtain ⟨⟨c0, c1, c2⟩, f0, f1, f2⟩ := hR.out.at k (by rw [termsK_len f names k hk]; exact hlt)
      generalize hy : (f names[k]).getD tmZero = y at *
      go_wp2_with (first
        | (at_lookup; refine wpList_look0_ev _ rfl _ _ rfl bm n f rfl (HE.out.far hbr HE.out.lt) names[k] hvk rfl y hy ?_))
      go_roundw
      case rel => exact ⟨k + 1, by omega, by go_num, hNx.out, ((hbr.setCell (p := ⟨w.heap.size, k * 3, none⟩) (Nat.le_refl _) _).setCell (p := ⟨w.heap.size, k * 3 + 1, none⟩) (Nat.le_refl _) _).setCell (p := ⟨w.heap.size, k * 3 + 2, none⟩) (Nat.le_refl _) _⟩
      case measure => simp [intOf]; omega
    · obtain rfl : k = names.length := by omega
      have t1 : decide ((names.length : Int) < (names.length : Int)) = false := by simp
      go_wp2_with fail
      go_ret
      exact ⟨rfl, by rw [← termsK_all]; exact hR.out, hbr⟩
end Go.Proofs.YtaddfndohoppeaaGreat

/- The key by which answers meet: what keyer makes. -/
namespace Go.Proofs.YtaddfndohoppeaaGreat
open Go Go.RowKit Go.Proofs Go.Maps
set_option synthInstance.maxSize 1000

section
variable {P : Program} {w : World}
theorem step_copyE {ops : Array Oper} {o : Oper} {a : Act} {K : Act → World → Prop} {Q : Exit → Act → World → Prop} {E : Prop} (hgd : o.guard = none) (s x : Operand) (t t' : TypeId)
    (ho : o.op = .call { callee := .builtin .copy, args := #[s, x], argTypes := #[t, t'] }) (v u : Value) (hs : a.eval s = v) (hx : a.eval x = u) {v' : Value} {w' : World}
    (hr : (Builtin.copy_ #[t, t'] o.type #[v, u]).run P w = .ok v' w') (h : K (a.put o.dst v') w') : if Region.wanted o (yielded ops a.tmps) = true then Oper.wp P o a w K Q else E := by
  rw [if_pos (by simp [Region.wanted, hgd])]
  unfold Oper.wp execOp
  simp only [ho, resolve, invoke, builtin, Sem.run_bind, Sem.run_pure, Result.andThen_ok, List.map_toArray, List.map_cons, List.map_nil, hs, hx, hr]
  exact h
end
theorem run_copyQ (w : World) (ty : TypeId) (b g n c : Nat) (xs : List Tm) (hn : xs.length = n) (h3 : n ≤ 3) (hsrc : ∀ j v, (cellsQ xs)[j]? = some v → w.cell? ⟨g, j, none⟩ = some v)
    (hc : ∀ j, j < 9 → (w.cell? ⟨b, j, none⟩).isSome = true) (hf : ∀ j, j < 9 → w.frozen? ⟨b, j, none⟩ = false) :
    (Builtin.copy_ #[70, 70] ty #[.slice (some ⟨b, 0, none⟩) 3 3, .slice (some ⟨g, 0, none⟩) n c]).run Tryz.prog w = .ok (.int .i64 n) (w.setCells b 0 (cellsQ xs)) := by
  have hlen : (cellsQ xs).length = n * 3 := by rw [cellsQ_len, hn]
  have hl := run_loadCells_list (P := Tryz.prog) w ⟨g, 0, none⟩ (cellsQ xs) (fun j v hv => by rw [Addr.add_lit, Nat.zero_add]; exact hsrc j v hv)
  have hst := run_storeCells_cells (P := Tryz.prog) b 0 (cellsQ xs) 0 w (fun j hj => by simpa using hc j (by omega)) (fun j hj => by simpa using hf j (by omega)) (fun u hu => by
    obtain ⟨z, _, hz⟩ := List.mem_flatMap.1 hu
    exact encQ_one z u hz)
  rw [hlen] at hl
  obtain ⟨i, hi, hz⟩ := Option.map_eq_some_iff.1 infoQ
  simp only [Prod.mk.injEq] at hz
  obtain ⟨_, h2, _⟩ := hz
  have hmin : Nat.min n 3 = n := Nat.min_eq_left h3
  simp [Builtin.copy_, run_underlying Tryz.underlying70, Builtin.lenOf, Builtin.firstCells, sizeOf, typeInfo, hi, h2, hmin, hl, hst, goInt]
def zero3 : Tr := (tmZero, tmZero, tmZero)
theorem key_cells (sh : List (List UInt8)) (h3 : sh.length ≤ 3) (f : Ev) (j : Nat) (hj : j < 9) : (encTr (keyT sh f))[j]? = if j < sh.length * 3 then (cellsQ (termsE f sh))[j]? else (encTr zero3)[j]? := by
  match sh, h3 with
  | [], _ => rfl
  | [a], _ => rcases (by omega : j = 0 ∨ j = 1 ∨ j = 2 ∨ j = 3 ∨ j = 4 ∨ j = 5 ∨ j = 6 ∨ j = 7 ∨ j = 8) with rfl | rfl | rfl | rfl | rfl | rfl | rfl | rfl | rfl <;> rfl
  | [a, b], _ => rcases (by omega : j = 0 ∨ j = 1 ∨ j = 2 ∨ j = 3 ∨ j = 4 ∨ j = 5 ∨ j = 6 ∨ j = 7 ∨ j = 8) with rfl | rfl | rfl | rfl | rfl | rfl | rfl | rfl | rfl <;> rfl
  | [a, b, c], _ => rcases (by omega : j = 0 ∨ j = 1 ∨ j = 2 ∨ j = 3 ∨ j = 4 ∨ j = 5 ∨ j = 6 ∨ j = 7 ∨ j = 8) with rfl | rfl | rfl | rfl | rfl | rfl | rfl | rfl | rfl <;> rfl
  | a :: b :: c :: d :: r, h => simp at h
/-- nine cells of a block -/
def NineAt (w : World) (b : Nat) (t : Tr) : Prop := ∀ j v, (encTr t)[j]? = some v → w.cell? ⟨b, j, none⟩ = some v ∧ w.frozen? ⟨b, j, none⟩ = false
theorem NineAt.all {w : World} {b : Nat} {t : Tr} (h : NineAt w b t) : (w.cell? ⟨b, 0, none⟩ = some (.int .i64 t.1.1) ∧ w.cell? ⟨b, 1, none⟩ = some (.string ⟨t.1.2.1.toArray⟩) ∧ w.cell? ⟨b, 2, none⟩ = some (.string ⟨t.1.2.2.toArray⟩) ∧ w.cell? ⟨b, 3, none⟩ = some (.int .i64 t.2.1.1) ∧ w.cell? ⟨b, 4, none⟩ = some (.string ⟨t.2.1.2.1.toArray⟩) ∧ w.cell? ⟨b, 5, none⟩ = some (.string ⟨t.2.1.2.2.toArray⟩) ∧ w.cell? ⟨b, 6, none⟩ = some (.int .i64 t.2.2.1) ∧ w.cell? ⟨b, 7, none⟩ = some (.string ⟨t.2.2.2.1.toArray⟩) ∧ w.cell? ⟨b, 8, none⟩ = some (.string ⟨t.2.2.2.2.toArray⟩)) ∧
    (w.frozen? ⟨b, 0, none⟩ = false ∧ w.frozen? ⟨b, 1, none⟩ = false ∧ w.frozen? ⟨b, 2, none⟩ = false ∧ w.frozen? ⟨b, 3, none⟩ = false ∧ w.frozen? ⟨b, 4, none⟩ = false ∧ w.frozen? ⟨b, 5, none⟩ = false ∧ w.frozen? ⟨b, 6, none⟩ = false ∧ w.frozen? ⟨b, 7, none⟩ = false ∧ w.frozen? ⟨b, 8, none⟩ = false) :=
  ⟨⟨(h 0 _ rfl).1, (h 1 _ rfl).1, (h 2 _ rfl).1, (h 3 _ rfl).1, (h 4 _ rfl).1, (h 5 _ rfl).1, (h 6 _ rfl).1, (h 7 _ rfl).1, (h 8 _ rfl).1⟩, ⟨(h 0 _ rfl).2, (h 1 _ rfl).2, (h 2 _ rfl).2, (h 3 _ rfl).2, (h 4 _ rfl).2, (h 5 _ rfl).2, (h 6 _ rfl).2, (h 7 _ rfl).2, (h 8 _ rfl).2⟩⟩
theorem NineAt.lt {w : World} {b : Nat} {t : Tr} (h : NineAt w b t) : b < w.heap.size := World.block_lt_of_cell? w _ (h 0 _ rfl).1
theorem NineAt.below {w w' : World} {b : Nat} {t : Tr} (h : NineAt w b t) (hb : RowKit.Below w.heap.size w w') : NineAt w' b t := fun j v hv => ⟨(hb.cell h.lt).trans (h j v hv).1, (hb.frozen h.lt).trans (h j v hv).2⟩
theorem nineAt_new (w : World) (t : Tr) (T : TypeId) : NineAt (w.alloc (.cells (encTr t).toArray T)) w.heap.size t := fun j v hv => by
  have hh := heap_alloc_last w (.cells (encTr t).toArray T)
  exact ⟨by rw [cell_of_row _ _ j _ T (0, 0) hh, List.getElem?_toArray]; exact hv, frozen_of_row _ _ j _ T hh⟩
theorem NineAt.copied {w : World} {b : Nat} {sh : List (List UInt8)} {f : Ev} (h : NineAt w b zero3) (h3 : sh.length ≤ 3) : NineAt (w.setCells b 0 (cellsQ (termsE f sh))) b (keyT sh f) := fun j v hv => by
  have hj : j < 9 := (List.getElem?_eq_some_iff.1 hv).1
  have hl : (cellsQ (termsE f sh)).length = sh.length * 3 := by rw [cellsQ_len]; simp [termsE]
  obtain ⟨u, hu⟩ : ∃ u, (encTr zero3)[j]? = some u := ⟨_, List.getElem?_eq_getElem hj⟩
  refine ⟨?_, by rw [World.frozen?_setCells]; exact (h j u hu).2⟩
  rw [key_cells sh h3 f j hj] at hv
  by_cases hlt : j < sh.length * 3
  · rw [if_pos hlt] at hv
    have hin := World.cell?_setCells_in b (cellsQ (termsE f sh)) 0 w (fun i hi => by
      obtain ⟨x, hx⟩ : ∃ x, (encTr zero3)[i]? = some x := ⟨_, List.getElem?_eq_getElem (show i < 9 by omega)⟩
      rw [Nat.zero_add, (h i x hx).1]; rfl) j (by omega)
    rw [Nat.zero_add] at hin
    rw [hin]
    rw [List.getElem?_eq_getElem (by omega)] at hv
    exact hv
  · rw [if_neg hlt] at hv
    rw [World.cell?_setCells_out b _ 0 w ⟨b, j, none⟩ (fun _ _ => Or.inr (by show 0 + _ ≤ j; omega))]
    exact (h j v hv).1
theorem below_setCells {B b : Nat} {a w : World} (h : RowKit.Below B a w) (hb : B ≤ b) : ∀ (vs : List Value) (o : Nat), RowKit.Below B a (w.setCells b o vs) := by
  intro vs
  induction vs generalizing w with
  | nil => intro o; exact h
  | cons v r ih => intro o; exact ih (h.setCell (p := ⟨b, o, none⟩) hb v) (o + 1)
set_option maxHeartbeats 4000000 in
set_option maxRecDepth 100000 in
theorem key_any (bm n B : Nat) (f : Ev) (sh : List (List UInt8)) (w : World) (h : EvAt w bm n f) (hk : KeyAt w B sh) (hs : ∀ v ∈ sh, v.length ≤ maxLen) (h3 : sh.length ≤ 3) :
    Calls Tryz.prog 156 #[.map (some bm), .pointer (some ⟨B, 0, none⟩)] w fun e w' => e = .returned (valTr (keyT sh f)) ∧ RowKit.Below w.heap.size w w' := by
  obtain ⟨ad, c, hB, hsl⟩ := hk
  have hBl := World.block_lt_of_cell? w _ hB
  obtain ⟨W0, hW0⟩ : ∃ W0, W0 = (w.alloc (.cells (encTr zero3).toArray 156)).alloc (.cells (encTr zero3).toArray 156) := ⟨_, rfl⟩
  have hB0 : RowKit.Below w.heap.size w W0 := by rw [hW0]; exact bstep (balloc _ _) (balloc _ _)
  have hz0 : W0.heap.size = w.heap.size + 1 + 1 := by rw [hW0]; simp
  have n0 : NineAt W0 w.heap.size zero3 := by rw [hW0]; exact (nineAt_new w zero3 _).below (balloc _ _)
  have n1 : NineAt W0 (w.heap.size + 1) zero3 := by
    rw [hW0]
    have := nineAt_new (w.alloc (.cells (encTr zero3).toArray 156)) zero3 156
    simpa using this
  have cB : W0.cell? ⟨B, 0, none⟩ = some (.slice ad sh.length c) := (hB0.cell hBl).trans hB
  have HT := terms_any bm n f ad c sh W0.drew (h.below hB0.drew) (hsl.below hB0.drew) hs (by omega)
  have N0 := hideE n0
  have N1 := hideE n1
  have H3 := hideE h3
  have HZ := hideE hz0
  have hlt2 : W0.heap.size = W0.drew.heap.size := rfl
  clear h hsl hs hB n0 n1 h3 hz0
  go_enter Tryz.func156, Tryz.ntmps156
  go_upto_region 2 with fail
  rw [show ((w.alloc (.cells #[.int .i64 0, .string ⟨#[]⟩, .string ⟨#[]⟩, .int .i64 0, .string ⟨#[]⟩, .string ⟨#[]⟩, .int .i64 0, .string ⟨#[]⟩, .string ⟨#[]⟩] 156)).alloc (.cells #[.int .i64 0, .string ⟨#[]⟩, .string ⟨#[]⟩, .int .i64 0, .string ⟨#[]⟩, .string ⟨#[]⟩, .int .i64 0, .string ⟨#[]⟩, .string ⟨#[]⟩] 156)) = W0 from hW0.symm]
  clear hW0
  have hq : ∀ w3, RowQ w3 W0.drew.heap.size (termsE f sh) → RowKit.Below W0.drew.heap.size W0.drew w3 → ∀ ty, (Builtin.copy_ #[70, 70] ty #[.slice (some ⟨w.heap.size + 1, 0, none⟩) 3 3, .slice (some ⟨W0.drew.heap.size, 0, none⟩) sh.length sh.length]).run Tryz.prog w3 = .ok (.int .i64 sh.length) (w3.setCells (w.heap.size + 1) 0 (cellsQ (termsE f sh))) := fun w3 hr hb ty => by
    have hn3 : NineAt w3 (w.heap.size + 1) zero3 := N1.out.below ((RowKit.Below.refl _ W0).drew.trans hb)
    refine run_copyQ w3 ty (w.heap.size + 1) W0.drew.heap.size sh.length sh.length (termsE f sh) (by simp [termsE]) H3.out (fun j v hv => (hr j v hv).1) (fun j hj => ?_) (fun j hj => ?_)
    · obtain ⟨x, hx⟩ : ∃ x, (encTr zero3)[j]? = some x := ⟨_, List.getElem?_eq_getElem hj⟩
      rw [(hn3 j x hx).1]; rfl
    · obtain ⟨x, hx⟩ : ∃ x, (encTr zero3)[j]? = some x := ⟨_, List.getElem?_eq_getElem hj⟩
      exact (hn3 j x hx).2
  have Hq := hideE hq
  clear hq hlt2
  go_region_law (first
    | (refine step_copyE rfl (.tmp 5) (.tmp 8) 70 70 rfl _ _ rfl rfl (Hq.out w3 hr3 hb3 _) ?_)
    | (go_simp; go_at_call 39; refine HT.mono ?_; rintro e w3 ⟨rfl, hr3, hb3⟩))
  all_goals
    have hb3' : RowKit.Below W0.heap.size W0 w3 := (RowKit.Below.refl _ W0).drew.trans hb3
    have hn4 := hideE ((N1.out.below hb3').copied (sh := sh) (f := f) H3.out)
    have hn5 := hideE (show NineAt (w3.setCells (w.heap.size + 1) 0 (cellsQ (termsE f sh))) w.heap.size zero3 from fun j v hv => by
      have q := (N0.out.below hb3') j v hv
      exact ⟨(World.cell?_setCells_out _ _ _ _ _ (fun e _ => absurd e (by show w.heap.size ≠ w.heap.size + 1; omega))).trans q.1, by rw [World.frozen?_setCells]; exact q.2⟩)
    have hBf := hideE (below_setCells (hB0.trans (hb3'.mono hB0.size)) (show w.heap.size ≤ w.heap.size + 1 by omega) (cellsQ (termsE f sh)) 0)
    generalize w3.setCells (w.heap.size + 1) 0 (cellsQ (termsE f sh)) = W4 at *
    generalize hK3 : keyT sh f = K3 at *
    have HK := hideE hK3
    clear hK3
    obtain ⟨⟨k0, k1, k2, k3, k4, k5, k6, k7, k8⟩, _⟩ := hn4.out.all
    obtain ⟨⟨z0, z1, z2, z3, z4, z5, z6, z7, z8⟩, y0, y1, y2, y3, y4, y5, y6, y7, y8⟩ := hn5.out.all
    go_wp2_with fail
    exact bodyPost_ret (v := .agg #[.int .i64 K3.1.1, .string ⟨K3.1.2.1.toArray⟩, .string ⟨K3.1.2.2.toArray⟩, .int .i64 K3.2.1.1, .string ⟨K3.2.1.2.1.toArray⟩, .string ⟨K3.2.1.2.2.toArray⟩, .int .i64 K3.2.2.1, .string ⟨K3.2.2.2.1.toArray⟩, .string ⟨K3.2.2.2.2.toArray⟩]) (by unfold results; rw [Tryz.results156]; go_simp) rfl ⟨by rw [HK.out]; rfl, (((((((((hBf.out.setCell (p := ⟨w.heap.size, 0, none⟩) (Nat.le_refl _) _).setCell (p := ⟨w.heap.size, 1, none⟩) (Nat.le_refl _) _).setCell (p := ⟨w.heap.size, 2, none⟩) (Nat.le_refl _) _).setCell (p := ⟨w.heap.size, 3, none⟩) (Nat.le_refl _) _).setCell (p := ⟨w.heap.size, 4, none⟩) (Nat.le_refl _) _).setCell (p := ⟨w.heap.size, 5, none⟩) (Nat.le_refl _) _).setCell (p := ⟨w.heap.size, 6, none⟩) (Nat.le_refl _) _).setCell (p := ⟨w.heap.size, 7, none⟩) (Nat.le_refl _) _).setCell (p := ⟨w.heap.size, 8, none⟩) (Nat.le_refl _) _)⟩
end Go.Proofs.YtaddfndohoppeaaGreat

/- solve.meet: the groups by key, and the list that is made; in memory. -/
namespace Go.Proofs.YtaddfndohoppeaaGreat
open Go Go.RowKit Go.Proofs Go.Maps
set_option synthInstance.maxSize 1000

/-- which of some keys are one -/
def atK (keys : List Tr) (k : Tr) (n : Nat) : List Nat := (List.range n).filter fun j => decide (keys[j]? = some k)
theorem atK_hit {keys : List Tr} {k : Tr} {n : Nat} (h : keys[n]? = some k) : atK keys k (n + 1) = atK keys k n ++ [n] := by
  simp [atK, List.range_succ, h]
theorem atK_miss {keys : List Tr} {k k' : Tr} {n : Nat} (h : keys[n]? = some k) (hne : k' ≠ k) : atK keys k' (n + 1) = atK keys k' n := by
  have : keys[n]? ≠ some k' := fun e => hne (by rw [h] at e; exact (Option.some.inj e).symm)
  simp [atK, List.range_succ, this]
theorem atK_len (keys : List Tr) (k : Tr) (n : Nat) : (atK keys k n).length ≤ n := by
  have := List.length_filter_le (fun j => decide (keys[j]? = some k)) (List.range n)
  simpa [atK] using this
def cellM (b : Nat) : Value := .map (some b)
/-- the groups -/
structure GSt (W : World) (bK base k : Nat) (hd : Tr → Value) (keys : List Tr) (bml : List Nat) : Prop where
  map : GrpAt W bK k hd
  low : bK < base
  size : base ≤ W.heap.size
  rows : ∀ c, wf3 c → W.ownsRow base 101 1 (hd c) (atK keys c k).length ((atK keys c k).map fun j => cellM (bml.getD j 0))
  apart : ∀ c c', wf3 c → wf3 c' → c ≠ c' → (hd c).ownBlock = none ∨ (hd c).ownBlock ≠ (hd c').ownBlock
theorem GSt.start (w : World) (keys : List Tr) (bml : List Nat) : GSt (w.alloc (.map #[] 0)) w.heap.size (w.heap.size + 1) 0 (fun _ => .slice none 0 0) keys bml :=
  ⟨grpAt_made w, by omega, by simp, fun c _ => by simpa [atK] using World.ownsRow_nil _ _ _ _, fun _ _ _ _ _ => Or.inl rfl⟩
theorem GSt.below {W W' : World} {bK base k : Nat} {hd : Tr → Value} {keys : List Tr} {bml : List Nat} (h : GSt W bK base k hd keys bml) (hb : RowKit.Below W.heap.size W W') : GSt W' bK base k hd keys bml :=
  ⟨h.map.below hb, h.low, Nat.le_trans h.size hb.size, fun c hc => ownsRow_belowV (h.rows c hc) hb, h.apart⟩
theorem infoM : (Tryz.prog.info? 101).map (fun i => (i.zero, i.size, i.bytes)) = some (some (.map none), 1, 8) := by kernel_rfl
/-- an append of one answer to a row of one's own -/
theorem wpList_appendE {ops : Array Oper} {rest : List Oper} {o : Oper} {a : Act} {Q : Exit → Act → World → Prop} (w : World) (hgd : o.guard = none) (s x : Operand)
    (ho : o.op = .call { callee := .builtin .append, args := #[s, x], argTypes := #[97, 97] })
    (base B : Nat) (v : Value) (n : Nat) (vs : List Value) (u : Nat) (hs : a.eval s = v) (hx : a.eval x = .slice (some ⟨B, 0, none⟩) 1 1) (hown : w.ownsRow base 101 1 v n vs)
    (hy : w.cell? ⟨B, 0, none⟩ = some (.map (some u))) (h63 : n ≤ 1000000) (hbase : base ≤ w.heap.size)
    (h : ∀ v' w', w'.ownsRow base 101 1 v' (n + 1) (vs ++ [cellM u]) → w.grownBy w' v.ownBlock → (v'.ownBlock = v.ownBlock ∨ v'.ownBlock = some w.heap.size) → wpList Tryz.prog ops Q rest (a.put o.dst v') w') : wpList Tryz.prog ops Q (o :: rest) a w := by
  obtain ⟨i0, hi, hz⟩ := Option.map_eq_some_iff.1 infoM
  simp only [Prod.mk.injEq] at hz
  obtain ⟨hz0, hz1, hz2⟩ := hz
  refine wpList_append_own_at _ hgd s x _ ho base 101 i0 (.map none) 1 8 Tryz.underlying97 hi hz0 hz1 hz2 rfl (by decide) v n vs hs hown ⟨B, 0, none⟩ 1 1 [cellM u] hx rfl ?_ (fun z hz => by simp at hz; subst hz; rfl) (by unfold maxLen; omega) (by omega) hbase ?_
  · intro j z hj
    have h1 : j < 1 := (List.getElem?_eq_some_iff.1 hj).1
    obtain rfl : j = 0 := by omega
    simp at hj
    subst hj
    rw [Addr.add_lit]
    exact hy
  · intro v' w' h2 h3 _ h5
    exact h v' w' h2 h3 h5
theorem wpList_mapEntryE (w : World) {ops : Array Oper} {rest : List Oper} {o : Oper} {a : Act} {Q : Exit → Act → World → Prop} (hg : o.guard = none) (m x : Operand) (t : TypeId) (hop : o.op = Op.mapEntry t m x)
    (mv kv : Value) (hm : a.eval m = mv) (hx : a.eval x = kv) {v : Value} {w1 : World} (hrun : (Instr.mapEntry t mv kv).run Tryz.prog w = .ok v w1) (hK : wpList Tryz.prog ops Q rest (a.put o.dst v) w1) : wpList Tryz.prog ops Q (o :: rest) a w := by
  refine wpList_plain hg fun K' hK' => ?_
  unfold Oper.wp
  simp [execOp, hop, hm, hx, hrun, Result.andThen]
  exact hK' _ _ hK
theorem wpList_entryStoreE (w : World) {ops : Array Oper} {rest : List Oper} {o : Oper} {a : Act} {Q : Exit → Act → World → Prop} (hg : o.guard = none) (m x v : Operand) (t : TypeId) (hop : o.op = Op.entryStore t m x v)
    (mv kv vv : Value) (hm : a.eval m = mv) (hx : a.eval x = kv) (hv : a.eval v = vv) {w1 : World} (hrun : (Instr.entryStore t mv kv vv).run Tryz.prog w = .ok () w1) (hK : wpList Tryz.prog ops Q rest (a.put o.dst undef) w1) : wpList Tryz.prog ops Q (o :: rest) a w := by
  refine wpList_plain hg fun K' hK' => ?_
  unfold Oper.wp
  simp [execOp, hop, hm, hx, hv, hrun, Result.andThen]
  exact hK' _ _ hK
/-- one more answer in its group: what the three operations leave -/
theorem GSt.step {W w1 w2 w3 : World} {bK base k : Nat} {hd : Tr → Value} {keys : List Tr} {bml : List Nat} (h : GSt W bK base k hd keys bml) {c : Tr} (hc : wf3 c) (hkc : keys[k]? = some c)
    (g1 : W.grownBy w1 (some bK)) {v' : Value} (hown : w2.ownsRow base 101 1 v' ((atK keys c k).length + 1) (((atK keys c k).map fun j => cellM (bml.getD j 0)) ++ [cellM (bml.getD k 0)])) (g2 : w1.grownBy w2 (hd c).ownBlock) (hv' : v'.ownBlock = (hd c).ownBlock ∨ v'.ownBlock = some w1.heap.size)
    (hs1 : w1.heap.size = W.heap.size) (hG : GrpAt w3 bK (k + 1) (fun c' => if c' = c then v' else hd c')) (g3 : w2.grownBy w3 (some bK)) : GSt w3 bK base (k + 1) (fun c' => if c' = c then v' else hd c') keys bml := by
  have hz := h.size
  have hsz : base ≤ w3.heap.size := by have := g2.size; have := g3.size; omega
  have offK : ∀ {w : World} {e s n : Nat} {v : Value} {xs : List Value}, w.ownsRow base e s v n xs → v.ownBlock = none ∨ v.ownBlock ≠ some bK := fun {w e s n v xs} ho => by
    cases hb : v.ownBlock with
    | none => exact Or.inl rfl
    | some g =>
      refine Or.inr (fun e => ?_)
      have := (ho.lt g hb).1
      have := Option.some.inj e
      have := h.low
      omega
  have small : ∀ c', wf3 c' → (hd c').ownBlock ≠ some w1.heap.size := fun c' hc' e => by
    have := ((h.rows c' hc').lt _ e).2
    omega
  refine ⟨hG, h.low, hsz, fun c' hc' => ?_, fun c1 c2 h1 h2 hne => ?_⟩
  · by_cases e : c' = c
    · subst e
      rw [if_pos rfl, atK_hit hkc, List.length_append, List.map_append]
      exact hown.kept g3 (offK hown)
    · rw [if_neg e, atK_miss hkc e]
      have r0 := h.rows c' hc'
      have r1 := r0.kept g1 (offK r0)
      have r2 := r1.kept g2 (h.apart c' c hc' hc e)
      exact r2.kept g3 (offK r2)
  · by_cases e1 : c1 = c
    · subst e1
      rw [if_pos rfl, if_neg (fun e => hne e.symm)]
      rcases hv' with hv' | hv'
      · rw [hv']
        exact h.apart c1 c2 h1 h2 hne
      · rw [hv']
        exact Or.inr (fun e => small c2 h2 e.symm)
    · rw [if_neg e1]
      by_cases e2 : c2 = c
      · subst e2
        rw [if_pos rfl]
        rcases hv' with hv' | hv'
        · rw [hv']
          exact h.apart c1 c2 h1 h2 hne
        · rw [hv']
          exact Or.inr (small c1 h1)
      · rw [if_neg e2]
        exact h.apart c1 c2 h1 h2 hne
/-- a list of answers of one's own -/
def OwnE (W : World) (B : Nat) (v : Value) (N : Nat) (L : List Ev) : Prop := ∃ bs : List Nat, bs.length = L.length ∧ W.ownsRow B 101 1 v L.length (bs.map cellM) ∧ ∀ j (hj : j < L.length), EvAt W (bs.getD j 0) N L[j]
theorem EvAt.ne_own {W : World} {bm N base e size n : Nat} {f : Ev} {v : Value} {xs : List Value} (h : EvAt W bm N f) (ho : W.ownsRow base e size v n xs) : some bm ≠ v.ownBlock := fun q => by
  obtain ⟨D, ⟨es, clock, hm, _⟩, _⟩ := h
  rcases ho.2 with ⟨rfl, _⟩ | ⟨g, cap, cur, rfl, _, hg, _⟩
  · cases q
  · have e1 : bm = g := by simpa [Value.ownBlock] using q
    rw [e1, hg] at hm
    cases hm
theorem OwnE.nil (W : World) (B N : Nat) : OwnE W B (.slice none 0 0) N [] := ⟨[], rfl, World.ownsRow_nil _ _ _ _, fun j h => by simp at h⟩
theorem OwnE.below {W W' : World} {B N : Nat} {v : Value} {L : List Ev} (h : OwnE W B v N L) (hb : RowKit.Below W.heap.size W W') : OwnE W' B v N L := by
  obtain ⟨bs, e, o, g⟩ := h
  exact ⟨bs, e, ownsRow_belowV o hb, fun j hj => (g j hj).below hb⟩
theorem OwnE.push {W W' : World} {B N u : Nat} {v v' : Value} {L : List Ev} {bs : List Nat} {f : Ev} (e : bs.length = L.length) (o : W.ownsRow B 101 1 v L.length (bs.map cellM)) (g : ∀ j (hj : j < L.length), EvAt W (bs.getD j 0) N L[j]) (hu : EvAt W u N f)
    (ho : W'.ownsRow B 101 1 v' (L.length + 1) (bs.map cellM ++ [cellM u])) (hg : W.grownBy W' v.ownBlock) : OwnE W' B v' N (L ++ [f]) := by
  refine ⟨bs ++ [u], by simp [e], by simpa using ho, fun j hj => ?_⟩
  by_cases hlt : j < L.length
  · have h1 : (L ++ [f])[j] = L[j] := List.getElem_append_left hlt
    have h2 : (bs ++ [u]).getD j 0 = bs.getD j 0 := by
      rw [List.getD_eq_getElem?_getD, List.getD_eq_getElem?_getD, List.getElem?_append_left (by omega)]
    rw [h1, h2]
    exact (g j hlt).kept hg ((g j hlt).ne_own o)
  · have hjj : j = L.length := by simp at hj; omega
    subst hjj
    have h1 : (L ++ [f])[L.length] = f := by simp
    have h2 : (bs ++ [u]).getD L.length 0 = u := by
      rw [List.getD_eq_getElem?_getD, List.getElem?_append_right (by omega)]
      simp [e]
    rw [h1, h2]
    exact hu.kept hg (hu.ne_own o)
/-- the row that a slice lies in is one of answers -/
def TyE (W : World) (ad : Option Addr) : Prop := ∀ a, ad = some a → ∃ cur, W.heap[a.block]? = some (.cells cur 101 (0, 0))
theorem tyE_none (W : World) : TyE W none := fun a h => by cases h
theorem TyE.below {W W' : World} {ad : Option Addr} (h : TyE W ad) (hb : RowKit.Below W.heap.size W W') : TyE W' ad := fun a ha => by
  obtain ⟨cur, hc⟩ := h a ha
  exact ⟨cur, (hb.block _ (Array.getElem?_eq_some_iff.1 hc).1).trans hc⟩
theorem OwnE.sl {W : World} {B N : Nat} {v : Value} {L : List Ev} (h : OwnE W B v N L) : ∃ ad c, v = .slice ad L.length c ∧ SlE W ad N L ∧ TyE W ad := by
  obtain ⟨bs, e, o, g⟩ := h
  have o' := o
  rcases o'.2 with ⟨rfl, h0⟩ | ⟨b, cap, cur, rfl, _, hh, _⟩
  · exact ⟨none, 0, by rw [h0], fun hne => absurd (List.eq_nil_of_length_eq_zero h0) hne, tyE_none _⟩
  · refine ⟨some ⟨b, 0, none⟩, cap, rfl, fun _ => ⟨b, 0, rfl, fun j hj => ⟨bs.getD j 0, ?_, g j hj⟩⟩, fun a ha => ?_⟩
    · have hb : j < bs.length := by omega
      have hc := o.cells (g := b) rfl j (cellM (bs.getD j 0)) (by
        rw [List.getElem?_map, List.getElem?_eq_getElem hb, List.getD_eq_getElem?_getD, List.getElem?_eq_getElem hb]
        rfl)
      rw [Addr.add_lit] at hc
      exact hc
    · injection ha with ha
      subst ha
      exact ⟨cur, hh⟩
end Go.Proofs.YtaddfndohoppeaaGreat

/- A region that draws its order, whose operations only read and whose calls leave all that was: walked once, in the order of the text. -/
namespace Go.Proofs.YtaddfndohoppeaaGreat
open Go Go.RowKit Go.Proofs

end Go.Proofs.YtaddfndohoppeaaGreat
