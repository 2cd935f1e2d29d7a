/- match.Vars: what is wrong with a pattern, and which variables it has. -/
import Derived.Test.YtnlcfnpcjkcdmacGreatDoorMatchFault
import Derived.OwnWalk
import Derived.Laws.Rows
namespace Go.Proofs.YtnlcfnpcjkcdmacGreatDoor
open Go Go.RowKit Go.Proofs
set_option synthInstance.maxSize 1000

attribute [local go_sem] eql_errV neq_errV guard_errV

def slotK (p : Pt) (k : Nat) : Sl := if k = 0 then p.1 else if k = 1 then p.2.1 else p.2.2
def vK (p : Pt) (k : Nat) : List (List UInt8) := if k = 0 then [] else if k = 1 then addV [] p.1 else if k = 2 then addV (addV [] p.1) p.2.1 else varsL p
def restN (p : Pt) (k : Nat) : Int := if k = 0 then varsN p else if k = 1 then (if slotN p.2.1 = 0 then slotN p.2.2 else slotN p.2.1) else if k = 2 then slotN p.2.2 else 0
theorem restN_step (p : Pt) (k : Nat) (hk : k < 3) : restN p k = if slotN (slotK p k) = 0 then restN p (k + 1) else slotN (slotK p k) := by
  rcases (by omega : k = 0 ∨ k = 1 ∨ k = 2) with rfl | rfl | rfl
  · simp [restN, slotK, varsN]
  · simp [restN, slotK]
  · simp [restN, slotK]
theorem vK_step (p : Pt) (k : Nat) (hk : k < 3) : vK p (k + 1) = addV (vK p k) (slotK p k) := by
  rcases (by omega : k = 0 ∨ k = 1 ∨ k = 2) with rfl | rfl | rfl
  · simp [vK, slotK]
  · simp [vK, slotK]
  · simp [vK, slotK, varsL]
theorem addV_len (l : List (List UInt8)) (s : Sl) : (addV l s).length ≤ l.length + 1 := by
  unfold addV
  repeat' split
  all_goals simp
theorem vK_len (p : Pt) (k : Nat) (hk : k ≤ 3) : (vK p k).length ≤ k := by
  have h0 : (vK p 0).length ≤ 0 := by simp [vK]
  have h1 := addV_len (vK p 0) (slotK p 0)
  have h2 := addV_len (vK p 1) (slotK p 1)
  have h3 := addV_len (vK p 2) (slotK p 2)
  rw [← vK_step p 0 (by omega)] at h1
  rw [← vK_step p 1 (by omega)] at h2
  rw [← vK_step p 2 (by omega)] at h3
  have g1 : (vK p 1).length ≤ (vK p 0).length + 1 := h1
  have g2 : (vK p 2).length ≤ (vK p 1).length + 1 := h2
  have g3 : (vK p 3).length ≤ (vK p 2).length + 1 := h3
  clear h1 h2 h3
  rcases (by omega : k = 0 ∨ k = 1 ∨ k = 2 ∨ k = 3) with rfl | rfl | rfl | rfl <;> omega
theorem fit_slotK {p : Pt} (h : fitPt p) (k : Nat) : fitSl (slotK p k) := by
  unfold slotK
  repeat' split
  · exact h.1
  · exact h.2.1
  · exact h.2.2

theorem indexSl (p : Pt) (k : Nat) (hk : k < 3) (w : World) : (Instr.index 74 (valPt p) (.int .i64 k)).run Tryz.prog w = .ok (valSl (slotK p k)) w := by
  rcases (by omega : k = 0 ∨ k = 1 ∨ k = 2) with rfl | rfl | rfl <;> kernel_rfl

theorem infoStr : (Tryz.prog.info? 9).map (fun i => (i.zero, i.size, i.bytes)) = some (some (.string ByteArray.empty), 1, 16) := by kernel_rfl

theorem ownsRow_belowV {W W' : World} {base : Nat} {e : TypeId} {sz : Nat} {v : Value} {n : Nat} {cs : List Value} (h : W.ownsRow base e sz v n cs) (hb : RowKit.Below W.heap.size W W') : W'.ownsRow base e sz v n cs :=
  h.kept (row := none) ⟨hb.os, hb.tape, hb.output, hb.size, fun i hi _ => hb.block i hi⟩ (Classical.em _)

/-- what Vars tells -/
def VarsAns (p : Pt) (m : List (List UInt8)) : Prop := m = if varsN p = 0 then varsL p else []

set_option maxHeartbeats 4000000 in
set_option maxRecDepth 100000 in
theorem Vars_any (p : Pt) (w : World) (hp : fitPt p) :
    Calls Tryz.prog 6 #[valPt p] w fun e w' => Below w.heap.size w w' ∧ ∃ m ad cap, e = .returned (.tuple #[.slice ad m.length cap, errV (varsN p)]) ∧ SlV w' ad m ∧ VarsAns p m := by
  have HS := slotsOf_any p
  have Hp : Hid (fitPt p) := hp
  obtain ⟨i0, hi0, hz⟩ := Option.map_eq_some_iff.1 infoStr
  simp only [Prod.mk.injEq] at hz
  obtain ⟨hz0, hz1, hz2⟩ := hz
  clear hp
  have HX : Hid (∀ k : Nat, k < 3 → ∀ W, (Instr.index 74 (valPt p) (.int .i64 k)).run Tryz.prog W = .ok (valSl (slotK p k)) W) := indexSl p
  unfold valPt at HS HX ⊢
  have hA : Hid (∀ m, (m = if varsN p = 0 then varsL p else []) → VarsAns p m) := fun m h => h
  generalize VarsAns p = A at *
  go_enter Tryz.func6, Tryz.ntmps6
  go_wp2_with fail
  refine (HS _).mono ?_
  rintro e w1 ⟨rfl, hb1⟩
  have hB1 := bstep (balloc _ _) hb1
  go_wp2_with fail
  go_loopw [4, 10] (fun v i wr => ∃ k : Nat, k ≤ 3 ∧ i = .int .i64 k ∧ Hid (wr.ownsRow w.heap.size 9 1 v (vK p k).length ((vK p k).map encV)) ∧ Hid (varsN p = restN p k) ∧ Below w.heap.size w wr) (fun _ i wr => 3 - (intOf i).toNat)
  case atStart => exact ⟨0, by omega, rfl, World.ownsRow_nil _ _ _ _, rfl, hB1⟩
  case round =>
    obtain ⟨k, hk, rfl, hown, hrest, hbr⟩ := hrel
    by_cases hlt : k < 3
    · have hix := HX.out k hlt
      have hst : Hid _ := restN_step p k hlt
      have hvs : Hid _ := vK_step p k hlt
      have hvl : (vK p k).length ≤ 3 := Nat.le_trans (vK_len p k hk) hk
      have hfs : Hid (fitSl (slotK p k)) := fit_slotK Hp.out k
      have HF := fun W => slotFault_any (slotK p k) W hfs.out
      have i1 : (k : Int) < 3 := by omega
      have hzr := hbr.size
      generalize slotK p k = s at *
      obtain ⟨v, kk, S, L⟩ := s
      have HV := fun W => isVar_any v kk S L W
      unfold valSl at HF hix
      dsimp only at HF hix
      cases hc : (slotN (v, kk, S, L) == 0)
      · go_wp2_with fail
        refine (HF _).mono ?_
        rintro e w2 ⟨rfl, hb2⟩
        go_wp2_with fail
        have hne : varsN p = slotN (v, kk, S, L) := by rw [hrest.out, hst.out, if_neg (by simpa using hc)]
        simp at hc
        exact bodyPost_ret (v := .tuple #[.slice none 0 0, errV (slotN (v, kk, S, L))]) (by simp [results, Tryz.results6, go_sem]) rfl ⟨bstep (bstep hbr (balloc _ _)) hb2, [], none, 0, by rw [hne]; rfl, fun h => absurd rfl h, hA.out _ (by rw [hne, if_neg hc])⟩
      · have hr2 : Hid (varsN p = restN p (k + 1)) := by show _ = _; rw [hrest.out, hst.out, if_pos (by simpa using hc)]
        clear hst hrest hfs
        cases hve : v.isEmpty
        rotate_left
        · obtain rfl : v = [] := by simpa using hve
          have hv2 : Hid (vK p (k + 1) = vK p k) := hvs.out
          rw [show (!([] : List UInt8).isEmpty) = false from rfl] at HV
          go_wp2_with fail
          refine (HF _).mono ?_
          rintro e w2 ⟨rfl, hb2⟩
          obtain ⟨a0, a1, a2, a3, hz⟩ := fourbox hb2
          go_wp2_with fail
          refine (HV _).mono ?_
          rintro e w3 ⟨rfl, hb3⟩
          go_wp2_with fail
          go_roundw
          case rel =>
            refine ⟨k + 1, by omega, by go_num, ?_, hr2, bstep (bstep (bstep hbr (balloc _ _)) hb2) hb3⟩
            show World.ownsRow _ _ _ _ _ _ _
            rw [hv2.out]
            exact ownsRow_belowV (ownsRow_belowV (hown.out.alloc _) hb2) hb3
          case measure => simp [intOf]; omega
        · have hvn : Hid (¬ v = []) := by show ¬ v = []; simpa using hve
          rw [hve, show (!false) = true from rfl] at HV
          clear hve
          have hvs2 : Hid (vK p (k + 1) = if v ∈ vK p k then vK p k else vK p k ++ [v]) := by
            show _ = _
            rw [hvs.out]
            exact if_neg hvn.out
          obtain ⟨ad, cap, rfl, hsl0⟩ := own_v hown.out
          have hsl : Hid (SlV wr ad (vK p k)) := hsl0
          have HC := fun W h => ContainsV_any ad cap (vK p k) v W h (by omega)
          clear hvs hsl0
          generalize ht : vK p (k + 1) = t1 at *
          have Ht : Hid _ := ht
          generalize vK p k = t0 at *
          clear ht
          cases hd : decide (v ∈ t0)
          · have hv2 : Hid (t1 = t0 ++ [v]) := by show _ = _; rw [hvs2.out, if_neg (by simpa using hd)]
            rw [hd] at HC
            go_wp2_with fail
            refine (HF _).mono ?_
            rintro e w2 ⟨rfl, hb2⟩
            obtain ⟨a0, a1, a2, a3, hz⟩ := fourbox hb2
            go_wp2_with fail
            refine (HV _).mono ?_
            rintro e w3 ⟨rfl, hb3⟩
            have b0 := (hb3.cell (World.block_lt_of_cell? w2 _ a0)).trans a0
            have hB3 := bstep (bstep (bstep hbr (balloc _ _)) hb2) hb3
            have hz3 := hB3.size
            have hrow3 : Hid (w3.ownsRow w.heap.size 9 1 _ t0.length (t0.map encV)) := ownsRow_belowV (ownsRow_belowV (hown.out.alloc _) hb2) hb3
            clear a0 a1 a2 a3
            go_wp2_with fail
            refine (HC _ (((hsl.out.below (balloc _ _)).below hb2).below hb3)).mono ?_
            rintro e w4 ⟨rfl, rfl⟩
            clear hown hsl
            go_wp2_with (at_builtin; refine wpList_append_own _ rfl _ _ 29 rfl w.heap.size 9 i0 (.string ByteArray.empty) 1 16 Tryz.underlying29 hi0 hz0 hz1 hz2 rfl (by decide) _ _ _ rfl (hrow3.out.alloc _) ⟨w4.heap.size, 0, none⟩ 1 1 [encV v] rfl rfl ?c1 ?c2 ?c3 ?c4 ?c5 ?_)
            case c1 =>
              intro j u hj
              have h1 : j < 1 := (List.getElem?_eq_some_iff.1 hj).1
              obtain rfl : j = 0 := by omega
              simp [encV] at hj
              subst hj
              rw [Addr.add_lit]
              go_simp
            case c2 => intro u hu; rw [List.mem_singleton.1 hu]; rfl
            case c3 => unfold maxLen; omega
            case c4 => omega
            case c5 => simp; omega
            intro v' w9 hown' hgrow _
            have hbel := (hB3.alloc hz3 (.cells #[encV v] 9)).grown hgrow (by simp; omega) (fun k hk => (hrow3.out.lt k hk).1)
            go_wp2_with fail
            go_roundw
            case rel =>
              refine ⟨k + 1, by omega, by go_num, ?_, hr2, hbel⟩
              show World.ownsRow _ _ _ _ _ _ _
              rw [Ht.out, hv2.out, List.length_append, List.map_append]
              exact hown'
            case measure => simp [intOf]; omega
          · have hv2 : Hid (t1 = t0) := by show _ = _; rw [hvs2.out, if_pos (by simpa using hd)]
            rw [hd] at HC
            go_wp2_with fail
            refine (HF _).mono ?_
            rintro e w2 ⟨rfl, hb2⟩
            obtain ⟨a0, a1, a2, a3, hz⟩ := fourbox hb2
            go_wp2_with fail
            refine (HV _).mono ?_
            rintro e w3 ⟨rfl, hb3⟩
            have b0 := (hb3.cell (World.block_lt_of_cell? w2 _ a0)).trans a0
            clear a0 a1 a2 a3
            go_wp2_with fail
            refine (HC _ (((hsl.out.below (balloc _ _)).below hb2).below hb3)).mono ?_
            rintro e w' ⟨rfl, rfl⟩
            go_wp2_with fail
            go_roundw
            case rel =>
              refine ⟨k + 1, by omega, by go_num, ?_, hr2, bstep (bstep (bstep hbr (balloc _ _)) hb2) hb3⟩
              show World.ownsRow _ _ _ _ _ _ _
              rw [Ht.out, hv2.out]
              exact ownsRow_belowV (ownsRow_belowV (hown.out.alloc _) hb2) hb3
            case measure => simp [intOf]; omega
    · obtain rfl : k = 3 := by omega
      obtain ⟨ad, cap, rfl, hsl⟩ := own_v hown.out
      have h0 : varsN p = 0 := hrest.out
      have hvw : vK p 3 = varsL p := rfl
      rw [hvw] at hsl
      have Hsl : Hid (SlV wr ad (varsL p)) := hsl
      have H0 : Hid (varsN p = 0) := h0
      rw [hvw]
      clear hown hrest hvw hsl h0
      go_wp2_with fail
      exact bodyPost_ret (v := .tuple #[.slice ad (varsL p).length cap, .nilIface]) (by simp [results, Tryz.results6, go_sem]) rfl ⟨hbr, _, ad, cap, by rw [H0.out]; rfl, Hsl.out, hA.out _ (by rw [H0.out]; rfl)⟩
end Go.Proofs.YtnlcfnpcjkcdmacGreatDoor
