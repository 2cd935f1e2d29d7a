import Derived.Test.YtkfpkcilgaldpagMA0x2
import Derived.Deep.DeepCutAuto
import Derived.Deep.RegionHeld3

/- A layer's text, line by line. -/
namespace Go.Proofs.Ytkfpkcilgaldpag
open Go Go.RowKit Go.Proofs
set_option synthInstance.maxSize 1000

/-! ### line by line -/
def linesOf (l : LyP) : List (List UInt8) := l.2.map (lineP true) ++ l.1.map (lineP false)
theorem patch_flat (l : LyP) : patchB l = (linesOf l).flatten := by
  unfold patchB linesOf linesP
  rw [List.flatten_append, List.flatMap_def, List.flatMap_def]
def offP (L : List (List UInt8)) (n : Nat) : Nat := ((L.take n).flatten).length
theorem offP_zero (L : List (List UInt8)) : offP L 0 = 0 := by simp [offP]
theorem offP_next {L : List (List UInt8)} {n : Nat} (h : n < L.length) : offP L (n + 1) = offP L n + L[n].length := by
  unfold offP
  rw [List.take_succ_eq_append_getElem h, List.flatten_append, List.length_append]
  simp
theorem offP_all (L : List (List UInt8)) : offP L L.length = L.flatten.length := by unfold offP; rw [List.take_length]
theorem flat_at {L : List (List UInt8)} {n j : Nat} (h : n < L.length) (hj : j < L[n].length) : L.flatten[offP L n + j]? = some L[n][j] := by
  have e : L.flatten = (L.take n).flatten ++ (L[n] ++ (L.drop (n + 1)).flatten) := by
    have h1 : L = L.take n ++ (L[n] :: L.drop (n + 1)) := by rw [List.getElem_cons_drop, List.take_append_drop]
    have h2 := congrArg List.flatten h1
    rw [List.flatten_append, List.flatten_cons] at h2
    exact h2
  rw [e]
  unfold offP
  rw [List.getElem?_append_right (by omega), Nat.add_sub_cancel_left, List.getElem?_append_left hj, List.getElem?_eq_getElem hj]
/-- a line: its first byte, its last one, and no other end -/
structure LineOk (u : List UInt8) (t : Bool) : Prop where
  long : 3 ≤ u.length
  first : u[0]? = some (markP t)
  ends : ∀ (j : Nat) (hj : j < u.length), u[j] = 10 ↔ j + 1 = u.length
theorem lineP_ok (t : Bool) (x : Tr) (h : ∀ c ∈ showTr x, c ≠ 10) : LineOk (lineP t x) t := by
  refine ⟨by simp [lineP], by simp [lineP], fun j hj => ?_⟩
  have hlen : (lineP t x).length = (showTr x).length + 3 := by simp [lineP]
  have e : lineP t x = (markP t :: 32 :: showTr x) ++ [10] := by simp [lineP]
  constructor
  · intro h10
    refine Classical.byContradiction fun hne => ?_
    have hj2 : j < (markP t :: 32 :: showTr x).length := by simp; omega
    have e2 : (lineP t x)[j] = (markP t :: 32 :: showTr x)[j] := by
      simp only [e]
      rw [List.getElem_append_left hj2]
    rw [e2] at h10
    have hm := List.getElem_mem hj2
    rw [h10] at hm
    rcases List.mem_cons.1 hm with hm | hm
    · cases t <;> simp [markP] at hm
    · rcases List.mem_cons.1 hm with hm | hm
      · simp at hm
      · exact h _ hm rfl
  · intro hj1
    have hj2 : j = (markP t :: 32 :: showTr x).length := by simp; omega
    simp only [e]
    rw [List.getElem_append_right (by omega)]
    simp [hj2]
theorem lines_ok {l : LyP} (h : ∀ x, x ∈ l.1 ∨ x ∈ l.2 → ∀ c ∈ showTr x, c ≠ 10) {n : Nat} (hn : n < (linesOf l).length) : LineOk (linesOf l)[n] (decide (n < l.2.length)) := by
  have hlen : (linesOf l).length = l.2.length + l.1.length := by simp [linesOf]
  by_cases hn2 : n < l.2.length
  · have e0 : (linesOf l)[n]? = some (lineP true l.2[n]) := by
      unfold linesOf
      rw [List.getElem?_append_left (by simpa using hn2)]
      simp [hn2]
    rw [List.getElem?_eq_getElem hn] at e0
    have e := Option.some.inj e0
    rw [e, decide_eq_true hn2]
    exact lineP_ok true _ (h _ (Or.inr (List.getElem_mem hn2)))
  · have hn1 : n - l.2.length < l.1.length := by omega
    have e0 : (linesOf l)[n]? = some (lineP false l.1[n - l.2.length]) := by
      unfold linesOf
      rw [List.getElem?_append_right (by simp; omega)]
      simp [hn1]
    rw [List.getElem?_eq_getElem hn] at e0
    have e := Option.some.inj e0
    rw [e, decide_eq_false hn2]
    exact lineP_ok false _ (h _ (Or.inl (List.getElem_mem hn1)))
/-- where a walk over the text stands: in line n, at byte i -/
def InLine (l : LyP) (n i : Nat) : Prop := (n = (linesOf l).length ∧ i = offP (linesOf l) n) ∨ ∃ hn : n < (linesOf l).length, offP (linesOf l) n ≤ i ∧ i < offP (linesOf l) n + (linesOf l)[n].length
theorem inLine_start (l : LyP) (h : ∀ x, x ∈ l.1 ∨ x ∈ l.2 → ∀ c ∈ showTr x, c ≠ 10) : InLine l 0 0 := by
  by_cases hn : 0 < (linesOf l).length
  · refine Or.inr ⟨hn, by rw [offP_zero]; omega, ?_⟩
    have := (lines_ok h hn).long
    rw [offP_zero]
    omega
  · exact Or.inl ⟨by omega, by rw [offP_zero]⟩
theorem inLine_step {l : LyP} (h : ∀ x, x ∈ l.1 ∨ x ∈ l.2 → ∀ c ∈ showTr x, c ≠ 10) {n i : Nat} (hi : InLine l n i) (hlt : i < (patchB l).length) :
    ((patchB l)[i] ≠ 10 ∧ InLine l n (i + 1)) ∨ ((patchB l)[i] = 10 ∧ (patchB l)[offP (linesOf l) n]? = some (markP (decide (n < l.2.length))) ∧ i + 1 = offP (linesOf l) (n + 1) ∧ InLine l (n + 1) (i + 1)) := by
  have hflat := patch_flat l
  rcases hi with ⟨e1, e2⟩ | ⟨hn, h1, h2⟩
  · exfalso
    rw [e2, e1, offP_all, ← hflat] at hlt
    omega
  · have ho := lines_ok h hn
    have hj : i - offP (linesOf l) n < (linesOf l)[n].length := by omega
    have hat := flat_at hn hj
    rw [← hflat, show offP (linesOf l) n + (i - offP (linesOf l) n) = i by omega, List.getElem?_eq_getElem hlt] at hat
    have hat := Option.some.inj hat
    have hend := ho.ends _ hj
    rw [← hat] at hend
    by_cases h10 : (patchB l)[i] = 10
    · refine Or.inr ⟨h10, ?_, ?_, ?_⟩
      · have h0 := flat_at hn (show 0 < (linesOf l)[n].length by have := ho.long; omega)
        rw [← hflat, Nat.add_zero] at h0
        rw [h0]
        have := ho.first
        rw [List.getElem?_eq_getElem (by have := ho.long; omega)] at this
        exact this
      · have := hend.1 h10
        rw [offP_next hn]
        omega
      · have hj1 := hend.1 h10
        have e3 : i + 1 = offP (linesOf l) (n + 1) := by rw [offP_next hn]; omega
        by_cases hn2 : n + 1 < (linesOf l).length
        · refine Or.inr ⟨hn2, by omega, ?_⟩
          have := (lines_ok h hn2).long
          omega
        · exact Or.inl ⟨by omega, e3⟩
    · refine Or.inl ⟨h10, Or.inr ⟨hn, by omega, ?_⟩⟩
      have : ¬ (i - offP (linesOf l) n + 1 = (linesOf l)[n].length) := fun e => h10 (hend.2 e)
      omega
theorem inLine_end {l : LyP} {n : Nat} (hi : InLine l n (patchB l).length) : n = l.1.length + l.2.length ∧ offP (linesOf l) n = (patchB l).length := by
  have hlen : (linesOf l).length = l.2.length + l.1.length := by simp [linesOf]
  rcases hi with ⟨e1, e2⟩ | ⟨hn, h1, h2⟩
  · exact ⟨by omega, e2.symm⟩
  · exfalso
    have hle : offP (linesOf l) (n + 1) ≤ (patchB l).length := by
      rw [patch_flat l]
      unfold offP
      have : (linesOf l).flatten = ((linesOf l).take (n + 1)).flatten ++ ((linesOf l).drop (n + 1)).flatten := by rw [← List.flatten_append, List.take_append_drop]
      rw [this, List.length_append]
      omega
    rw [offP_next hn] at hle
    omega
end Go.Proofs.Ytkfpkcilgaldpag

/- stratalaw4.PatchLines: the walk. -/
namespace Go.Proofs.Ytkfpkcilgaldpag
open Go Go.RowKit Go.Proofs
set_option synthInstance.maxSize 1000

theorem nameP_any (S : List UInt8) (w : World) : Calls Try.prog 5 #[.string ⟨S.toArray⟩] w
    fun e w' => e = .returned (.agg #[.int .i64 1, .string ⟨S.toArray⟩, .string ⟨#[]⟩]) ∧ RowKit.Below w.heap.size w w' := by
  go_enter Try.func5, Try.ntmps5
  go_wp2
  refine bodyPost_ret (v := .agg #[.int .i64 1, .string ⟨S.toArray⟩, .string ⟨#[]⟩]) (by simp [results, Try.results5, go_sem]) rfl ⟨rfl, balloc _ _⟩
/-- the fact that the law begins with -/
def factP : LyP := ([((1, [97], []), (1, [98], []), (1, [99], []))], [])
set_option maxRecDepth 100000 in
theorem fact_text : printP factP = [43, 32, 97, 32, 98, 32, 99, 10] ∧ apartN factP.1 factP.2 = 0 := by decide +kernel
theorem hideP {p : Prop} (h : p) : Hid p := h
theorem errV_zeroP : errV 0 = .nilIface := rfl
theorem errV_someP {n : Int} (h : n ≠ 0) : errV n = .iface 48 (.int .i64 n) := by unfold errV; rw [if_neg h]
theorem fact_in {w : World} {b : Nat} (h : ∀ j v, (encTr ((1, [97], []), (1, [98], []), (1, [99], [])))[j]? = some v → w.cell? ⟨b, j, none⟩ = some v) : LayIn w (some ⟨b, 0, none⟩) none factP := by
  refine ⟨fun _ => ⟨b, 0, rfl, fun j v hj => ?_⟩, fun hne => absurd rfl hne, fun x hx => ?_, fun x hx => absurd hx (by simp [factP]), by simp [factP, maxLen], by simp [factP, maxLen]⟩
  · rw [Nat.zero_add]
    exact h j v (by simpa [cellsT, factP] using hj)
  · simp [factP] at hx
    subst hx
    unfold fitTr maxLen
    simp

theorem inLine_few {l : LyP} {n i : Nat} (h : InLine l n i) (hlt : i < (patchB l).length) : n < l.1.length + l.2.length := by
  have hlen : (linesOf l).length = l.2.length + l.1.length := by simp [linesOf]
  rcases h with ⟨e1, e2⟩ | ⟨hn, _, _⟩
  · rw [e2, e1, offP_all, ← patch_flat] at hlt
    omega
  · omega
set_option maxHeartbeats 16000000 in
set_option maxRecDepth 1000000 in
theorem patchLines_any (F : PFace) (a1 a2 : Option Addr) (c1 c2 : Nat) (l : LyP) (w : World) (hl : LayIn w a1 a2 l) :
    Calls Try.prog 3 #[.agg #[.slice a1 l.1.length c1, .slice a2 l.2.length c2]] w fun e w' => e = .returned (.bool true) ∧ RowKit.Below w.heap.size w w' := by
  have HL := hideP hl
  obtain ⟨t1, t2⟩ := fact_text
  have HFt := fun W a1 a2 c1 c2 (h : LayIn W a1 a2 factP) => F.print W a1 a2 c1 c2 factP h
  rw [t1, t2, errV_zeroP] at HFt
  have NA := fun W => nameP_any [97] W
  have NB := fun W => nameP_any [98] W
  have NC := fun W => nameP_any [99] W
  clear hl t1 t2
  go_enter Try.func3, Try.ntmps3
  go_wp2_with fail
  refine (NA _).mono ?_
  rintro e w1 ⟨rfl, hb1⟩
  dsimp only
  go_wp2_with fail
  refine (NB _).mono ?_
  rintro e w2 ⟨rfl, hb2⟩
  dsimp only
  go_wp2_with fail
  refine (NC _).mono ?_
  rintro e w3 ⟨rfl, hb3⟩
  dsimp only
  obtain ⟨k0, k1, hlt, _, _⟩ := twobox hb1
  have hw3 := hideP (bstep (bstep (bstep (balloc w _) hb1) hb2) hb3)
  have hk13 := hideP (bstep hb2 hb3)
  have Hk : Hid (∀ W, RowKit.Below w1.heap.size w1 W → W.cell? ⟨w.heap.size, 0, none⟩ = some (.slice a1 l.1.length c1) ∧ W.cell? ⟨w.heap.size, 1, none⟩ = some (.slice a2 l.2.length c2)) := fun W hW => ⟨(hW.cell (p := ⟨w.heap.size, 0, none⟩) hlt).trans k0, (hW.cell (p := ⟨w.heap.size, 1, none⟩) hlt).trans k1⟩
  clear hb1 hb2 hb3 k0 k1
  go_wp2_with fail
  refine (HFt _ _ none 1 0 (fact_in (fun j v hj => ?cells))).mono ?_
  case cells =>
    have h9 : j < 9 := (List.getElem?_eq_some_iff.1 hj).1
    rcases (by omega : j = 0 ∨ j = 1 ∨ j = 2 ∨ j = 3 ∨ j = 4 ∨ j = 5 ∨ j = 6 ∨ j = 7 ∨ j = 8) with rfl | rfl | rfl | rfl | rfl | rfl | rfl | rfl | rfl
    all_goals
      simp [encTr] at hj
      subst hj
      go_simp
  rintro e w4 ⟨rfl, hb4⟩
  dsimp only
  have hw4 := hideP (bstep (bstep hw3.out (balloc _ _)) hb4)
  have hk4 := hideP (bstep (bstep hk13.out (balloc _ _)) hb4)
  obtain ⟨k0, k1⟩ := Hk.out _ hk4.out
  have HP := F.print w4 a1 a2 c1 c2 l ⟨HL.out.add.below hw4.out, HL.out.take.below hw4.out, HL.out.fitA, HL.out.fitT, HL.out.lenA, HL.out.lenT⟩
  clear hb4 HFt NA NB NC hw3 hk13
  by_cases hz : apartN l.1 l.2 = 0
  · have hno : Hid (∀ x, x ∈ l.1 ∨ x ∈ l.2 → ∀ c ∈ showTr x, c ≠ 10) := fun x hx => show_no10 x (patch_chk (apart_good.1 hz) x hx)
    have hg := apart_good.1 hz
    have hlen := patch_len hg
    have hn1 := hg.add.1
    have hn2 := hg.take.1
    have e : printP l = patchB l := if_pos hz
    rw [hz, errV_zeroP, e] at HP
    clear hz e hg
    go_wp2_with fail
    refine HP.mono ?_
    rintro e w5 ⟨rfl, hb5⟩
    dsimp only
    have hw5 := hideP (bstep hw4.out hb5)
    obtain ⟨k0, k1⟩ := Hk.out _ (bstep hk4.out hb5)
    clear HP hb5 hw4 hk4
    go_wp2_with fail
    go_loop [7, 8, 9] (fun n o i => ∃ n' i' : Nat, n = .int .i64 n' ∧ o = .int .i64 (offP (linesOf l) n' : Nat) ∧ i = .int .i64 i' ∧ i' ≤ (patchB l).length ∧ InLine l n' i') (fun _ _ i => (patchB l).length - (intOf i).toNat)
    case atStart => exact ⟨0, 0, rfl, by rw [offP_zero]; rfl, rfl, Nat.zero_le _, inLine_start l hno.out⟩
    case round =>
      obtain ⟨n, i, rfl, rfl, rfl, hi, hin⟩ := hrel
      by_cases hlt : i < (patchB l).length
      · have hidx : ∀ h, (⟨(patchB l).toArray⟩ : ByteArray)[i]'h = (patchB l)[i] := fun _ => rfl
        rcases inLine_step hno.out hin hlt with ⟨h10, hnx⟩ | ⟨h10, hmk, hoff, hnx⟩
        · have hnx := hideP hnx
          have h10' : ((patchB l)[i].toNat : Int) ≠ 10 := fun e => h10 (UInt8.toNat.inj (by have : (10 : UInt8).toNat = 10 := rfl; omega))
          clear hin h10
          go_wp2_with fail
          exact ⟨⟨n, i + 1, rfl, rfl, by go_num, by omega, hnx.out⟩, by simp [intOf]; omega⟩
        · have hnx := hideP hnx
          have h10' : ((patchB l)[i].toNat : Int) = 10 := by rw [h10]; rfl
          have hnb : n < l.1.length + l.2.length := inLine_few hin hlt
          obtain ⟨ho, hmk⟩ := List.getElem?_eq_some_iff.1 hmk
          have hidx2 : ∀ h, (⟨(patchB l).toArray⟩ : ByteArray)[offP (linesOf l) n]'h = (patchB l)[offP (linesOf l) n] := fun _ => rfl
          have hoff := hideP hoff
          clear hin h10
          by_cases hnt : n < l.2.length
          · rw [decide_eq_true hnt] at hmk
            have hmk' : ((patchB l)[offP (linesOf l) n].toNat : Int) = 45 := by rw [hmk]; rfl
            clear hmk
            go_wp2_with fail
            exact ⟨⟨n + 1, i + 1, by go_num, by rw [← hoff.out]; go_num, by go_num, by omega, hnx.out⟩, by simp [intOf]; omega⟩
          · rw [decide_eq_false hnt] at hmk
            have hmk' : ((patchB l)[offP (linesOf l) n].toNat : Int) = 43 := by rw [hmk]; rfl
            clear hmk
            go_wp2_with fail
            exact ⟨⟨n + 1, i + 1, by go_num, by rw [← hoff.out]; go_num, by go_num, by omega, hnx.out⟩, by simp [intOf]; omega⟩
      · have ei : i = (patchB l).length := by omega
        subst ei
        obtain ⟨en, eo⟩ := inLine_end hin
        clear hin hi hlt
        rw [eo]
        subst en
        clear eo
        go_wp2_with fail
        go_ret
        exact ⟨rfl, hw5.out⟩
  · have HC := fun W h1 h2 => LCheck_any a1 a2 c1 c2 l.1 l.2 W h1 h2 HL.out.fitA HL.out.fitT HL.out.lenA HL.out.lenT
    rw [errV_someP hz] at HP HC
    generalize apartN l.1 l.2 = N at *
    generalize printP l = S at *
    clear hz
    go_wp2_with fail
    refine HP.mono ?_
    rintro e w5 ⟨rfl, hb5⟩
    dsimp only
    have hw5 := hideP (bstep hw4.out hb5)
    obtain ⟨k0, k1⟩ := Hk.out _ (bstep hk4.out hb5)
    clear HP hb5 hw4 hk4
    go_wp2_with fail
    refine (HC _ (HL.out.add.below hw5.out) (HL.out.take.below hw5.out)).mono ?_
    rintro e w6 ⟨rfl, hb6⟩
    dsimp only
    go_wp2_with fail
    go_ret
    exact ⟨rfl, bstep hw5.out hb6⟩
end Go.Proofs.Ytkfpkcilgaldpag
