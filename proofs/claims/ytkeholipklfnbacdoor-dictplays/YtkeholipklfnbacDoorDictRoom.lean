/- dict's hasRoom: whether all that are new may have a number. -/
import Derived.Test.YtkeholipklfnbacDoorDictNumber
namespace Go.Proofs.YtkeholipklfnbacDoor
open Go Go.RowKit Go.Proofs Go.Maps
set_option synthInstance.maxSize 1000

/-- the map at a block holds just these terms, each once -/
def FreshAt (w : World) (b n : Nat) (F : List Tm) : Prop :=
  ∃ D : DataW Unit, w.ownsMap Tryd.prog 29 unitElem b n D ∧ Maps.size D = F.length ∧ ∀ x, wfTm x → Maps.has D (keyTm x) = decide (x ∈ F)

theorem fresh_made (w : World) : FreshAt (w.alloc (.map #[] 0)) w.heap.size 0 [] :=
  ⟨.map [], World.ownsMap_made _ _ _ _, rfl, fun x _ => by simp [Maps.has_eq]⟩
theorem FreshAt.mono {w : World} {b n m : Nat} {F : List Tm} (h : FreshAt w b n F) (hm : n ≤ m) : FreshAt w b m F := by
  obtain ⟨D, o, r⟩ := h
  exact ⟨D, o.mono hm, r⟩
theorem FreshAt.below {w w' : World} {b n : Nat} {F : List Tm} (h : FreshAt w b n F) (hb : RowKit.Below w.heap.size w w') : FreshAt w' b n F := by
  obtain ⟨D, o, r⟩ := h
  exact ⟨D, ownsMap_below o hb, r⟩

/-- what is new, as the terms come -/
theorem fresh_step {L F : List Tm} {x : Tm} (h : x ∉ L) : L ++ (addL F x) = addL (L ++ F) x := by
  unfold addL
  by_cases hF : x ∈ F
  · rw [if_pos hF, if_pos (by simp [hF])]
  · rw [if_neg hF, if_neg (by simp [hF, h])]
    simp
theorem old_step {L F : List Tm} {x : Tm} (h : x ∈ L) : L ++ F = addL (L ++ F) x := by
  unfold addL
  rw [if_pos (by simp [h])]
theorem addAll_take (L l : List Tm) (k : Nat) (h : k < l.length) : addAll L (l.take (k + 1)) = addL (addAll L (l.take k)) l[k] := by
  unfold addAll
  rw [List.take_succ_eq_append_getElem h, List.foldl_append]
  rfl

theorem fresh_put {D : DataW Unit} {F : List Tm} {y : Tm} (hm : Tidy D) (hy : wfTm y) (hs : Maps.size D = F.length) (hD : ∀ x, wfTm x → Maps.has D (keyTm x) = decide (x ∈ F)) (d : DataW Unit) :
    Maps.size (D.put (keyTm y) d) = (addL F y).length ∧ ∀ x, wfTm x → Maps.has (D.put (keyTm y) d) (keyTm x) = decide (x ∈ addL F y) := by
  refine ⟨?_, fun x hx => ?_⟩
  · rw [Maps.size_put hm, hD y hy, addL_len, hs]
    by_cases h : y ∈ F <;> simp [h]
  · have hiff : (x ∈ addL F y) = (x ∈ F ∨ x = y) := propext mem_addL
    by_cases e : x = y
    · subst e
      rw [Maps.has_put_same hm.isMap (keyedTm.key (keyOf_tm x hx))]
      simp [hiff]
    · rw [Maps.has_put_other (fun e' => e (keyTm_inj hx hy e')), hD x hx]
      simp [hiff, e]

set_option maxHeartbeats 4000000 in
set_option maxRecDepth 100000 in
theorem hasRoom_any (n0 : Nat) (L : List Tm) (ad : Option Addr) (cap : Nat) (l : List Tm) (w : World) (h : DictAt w n0 L) (hl : SlM w ad l) (hw : ∀ x ∈ l, wfTm x) (n1 : L.length ≤ 1000) (n2 : l.length ≤ 1000) :
    Calls Tryd.prog 19 #[.pointer (some ⟨n0 + 2, 0, none⟩), .slice ad l.length cap] w fun e w' => e = .returned (.bool (decide ((addAll L l).length ≤ 300))) ∧ RowKit.Below w.heap.size w w' := by
  have HD : Hid (DictAt w n0 L) := h
  have Hl : Hid (SlM w ad l) := hl
  have Hw : Hid (∀ x ∈ l, wfTm x) := hw
  have hlt := h.lt
  have hmm := makeFresh
  clear h hl hw
  go_enter Tryd.func19, Tryd.ntmps19
  go_wp2_with fail
  go_loopw [13] (fun i wr => ∃ (k : Nat) (F : List Tm), k ≤ l.length ∧ i = .int .i64 k ∧ Hid (FreshAt wr w.heap.size k F) ∧ Hid (L ++ F = addAll L (l.take k)) ∧ RowKit.Below w.heap.size w wr) (fun i wr => l.length - (intOf i).toNat)
  case atStart =>
    exact ⟨0, [], Nat.zero_le _, rfl, fresh_made w, by show _ = _; simp [addAll], balloc _ _⟩
  case round =>
    obtain ⟨k, F, hk, rfl, hF, hLF, hbr⟩ := hrel
    have hDr := HD.out.far hbr hlt
    have hzr := hbr.size
    by_cases hlt2 : k < l.length
    · obtain ⟨b, o, rfl, hr⟩ := (Hl.out.below hbr).at k hlt2
      obtain ⟨c0, c1, c2⟩ := hr.at k hlt2
      have i0 : (0 : Int) ≤ (k : Int) := by omega
      have i1 : (k : Int) < (l.length : Int) := by omega
      have hy := Hw.out _ (List.getElem_mem hlt2)
      have hstep : Hid _ := addAll_take L l k hlt2
      generalize l[k] = y at *
      clear hr
      have hD2 := hDr.below (balloc wr (.cells #[.int .i64 y.1, .string ⟨y.2.1.toArray⟩, .string ⟨y.2.2.toArray⟩] 29))
      have hlk := look_ids (w := (wr.alloc (.cells #[.int .i64 y.1, .string ⟨y.2.1.toArray⟩, .string ⟨y.2.2.toArray⟩] 29)).drew) hD2 y hy
      have d0 := hDr.1
      have hlt3 := hDr.lt
      have hB2 := (bstep hbr (balloc wr (.cells #[.int .i64 y.1, .string ⟨y.2.1.toArray⟩, .string ⟨y.2.2.toArray⟩] 29))).drew
      have hF2 : Hid (FreshAt (wr.alloc (.cells #[.int .i64 y.1, .string ⟨y.2.1.toArray⟩, .string ⟨y.2.2.toArray⟩] 29)).drew w.heap.size k F) := hF.out.below (balloc _ _).drew
      clear hD2 hDr hF
      by_cases hc : y ∈ L
      · rw [decide_eq_true hc] at hlk
        have hnew : Hid (L ++ F = addAll L (l.take (k + 1))) := by
          show _ = _
          rw [hstep.out, ← hLF.out]
          exact old_step hc
        clear hc hstep hLF hy
        generalize idN L y = q at *
        unfold valTm at hlk
        go_wp2_with fail
        go_region
        go_wp2_with fail
        go_roundw
        case rel => exact ⟨k + 1, F, by omega, by go_num, hF2.out.mono (by omega), hnew, hB2⟩
        case measure => simp [intOf]; omega
      · rw [decide_eq_false hc] at hlk
        have hnew : Hid (L ++ addL F y = addAll L (l.take (k + 1))) := by
          show _ = _
          rw [hstep.out, ← hLF.out]
          exact fresh_step hc
        obtain ⟨D, o, hs, hD⟩ := hF2.out
        obtain ⟨W4, hr4, o4, g4⟩ := o.update keyedTm Tryd.underlying69 (by unfold maxLen; omega) (keyOf_tm y hy) (unitElem_mk (H := Unit))
        have hF4 : Hid (FreshAt W4 w.heap.size (k + 1) (addL F y)) := ⟨_, o4, fresh_put (o.tidy keyedTm) hy hs hD _⟩
        have hB4 := hB2.grown g4 (by simp; omega) (fun j hj => by cases hj; exact Nat.le_refl _)
        clear hc hstep hLF hy o o4 hs hD g4
        generalize idN L y = q at *
        unfold valTm at hlk hr4
        go_wp2_with fail
        go_region
        go_wp2_with fail
        go_roundw
        case rel => exact ⟨k + 1, addL F y, by omega, by go_num, hF4, hnew, hB4⟩
        case measure => simp [intOf]; omega
    · obtain rfl : k = l.length := by omega
      have HL := Len_any n0 L wr hDr
      obtain ⟨D, o, hs, _⟩ := hF.out
      have hln := fun ty => o.len Tryd.underlying69 ty
      rw [hs] at hln
      have hsz : F.length ≤ 1000 := by rw [← hs]; exact Nat.le_trans o.size_le n2
      have hfin : Hid (decide ((L.length : Int) + (F.length : Int) ≤ 300) = decide ((addAll L l).length ≤ 300)) := by
        have h1 := hLF.out
        rw [List.take_length] at h1
        show _ = _
        rw [← h1, List.length_append]
        simp only [decide_eq_decide]
        omega
      clear hDr hF hLF o hs
      go_wp2_with fail
      refine HL.mono ?_
      rintro e w' ⟨rfl, rfl⟩
      go_wp2_with fail
      go_ret
      exact ⟨ret_bool hfin.out, hbr⟩
end Go.Proofs.YtkeholipklfnbacDoor
