/- The document's answer (package strataref2): Ancestors. -/
import Derived.Test.YtackdedbphfaeaeDoorOwnU
import Derived.Test.YtackdedbphfaeaeDoorDagMark
import Derived.Test.YtackdedbphfaeaeDoorRefDag
namespace Go.Proofs.YtackdedbphfaeaeDoor
open Go Go.RowKit Go.Proofs
set_option synthInstance.maxSize 1000

/-- what Ancestors answers -/
def UpAns (w : World) (l : List Cm) (i : Nat) (e : Ending) (w' : World) : Prop :=
  ∃ a c m, e = .returned (.slice a m.length c) ∧ RiseN m ∧ (∀ k, k ∈ m ↔ Up l i k) ∧ SlI w' a (m.map fun k : Nat => (k : Int)) ∧ RowKit.Below w.heap.size w w' ∧ m.length ≤ 60

set_option maxHeartbeats 8000000 in
set_option maxRecDepth 100000 in
theorem RAncestors_any (ad : Option Addr) (ca : Nat) (l : List Cm) (i : Nat) (w : World) (hl : SlC w ad l) (hG : GoodC l) (hi : i < l.length) :
    Calls Tryd.prog 22 #[.slice ad l.length ca, .int .i64 (i : Int)] w fun e w' => UpAns w l i e w' := by
  have Hl := hideO hl
  have HG := hideO hG
  have hz : l.length ≤ 60 := hG.1
  have hmk := fun W => makeBoolsO l.length W (by omega)
  have hM1 : Hid (MarkAt (w.alloc (rowB (List.replicate l.length false))) w.heap.size (List.replicate l.length false)) := by
    show (w.heap.push _)[w.heap.size]? = _
    simp
  have hBl : (List.replicate l.length false).length = l.length := by simp
  have hB0 : Hid (∀ k, onB (List.replicate l.length false) k = false) := fun k => by
    unfold onB
    rw [List.getD_eq_getElem?_getD, List.getElem?_replicate]
    split <;> rfl
  have hb1 : Hid (RowKit.Below w.heap.size w (w.alloc (rowB (List.replicate l.length false)))) := balloc _ _
  have i0 : (0 : Int) ≤ (i : Int) := by omega
  have i1 : (i : Int) < (l.length : Int) := by omega
  clear hl hG
  generalize List.replicate l.length false = B0 at *
  have c1 := hM1.out.cell (j := i) (by omega)
  obtain ⟨c1, f1⟩ := c1
  rw [hB0.out i] at c1
  have hM2 := hideO (hM1.out.set i)
  have hb2 : Hid (RowKit.Below w.heap.size w ((w.alloc (rowB B0)).setCell ⟨w.heap.size, i, none⟩ (.bool true))) := hb1.out.setCell (p := ⟨w.heap.size, i, none⟩) (Nat.le_refl _) _
  have hS2 : Hid (SoundB l i (B0.set i true)) := SoundB.set (fun k hk => by rw [hB0.out k] at hk; cases hk) (by omega) (Up.refl l i)
  have hI2 : Hid (onB (B0.set i true) i = true) := by show _ = _; rw [onB_set (by omega), if_pos rfl]
  have hL2 : (B0.set i true).length = l.length := by simp [hBl]
  clear hM1 hb1 hB0
  go_enter Tryd.func22, Tryd.ntmps22
  go_wp2_with fail
  generalize hW2 : (w.alloc (rowB B0)).setCell ⟨w.heap.size, i, none⟩ (.bool true) = w2 at *
  generalize B0.set i true = B2 at *
  clear hW2 c1 f1 hmk hBl
  generalize hbi : w.heap.size = bi at *
  go_loopw [6] (fun ag wr => ∃ (B : List Bool) (g : Bool), ag = .bool g ∧ B.length = l.length ∧ Hid (onB B i = true) ∧ Hid (SoundB l i B) ∧ Hid (g = false → ClosedTo l B l.length) ∧ Hid (MarkAt wr bi B) ∧ Hid (RowKit.Below bi w wr)) (fun ag wr => 2 * nW wr bi + (match ag with | .bool true => 1 | _ => 0))
  case atStart => exact ⟨B2, true, rfl, hL2, hI2, hS2, (fun h => by cases h), hM2, hb2⟩
  case round =>
    obtain ⟨B, g, rfl, hBl, hI, hS, hC, hM, hb⟩ := hrel
    generalize hW0 : wr = W0 at *
    clear hW0
    cases g with
    | false =>
      have hC' := hideO (hC.out rfl)
      obtain ⟨i0', hi0, hz0, hz1, hz2⟩ := info_parts infoU
      go_wp2_with fail
      go_loopw [10, 11] (fun v kk w6 => ∃ (k : Nat), k ≤ l.length ∧ kk = .int .i64 k ∧ Hid (w6.ownsRow W0.heap.size 3 1 v (markedB B k).length (cellsU (markedB B k))) ∧ Hid (RowKit.Below W0.heap.size W0 w6)) (fun _ kk w6 => l.length - (intOf kk).toNat)
      case atStart => exact ⟨0, by omega, rfl, World.ownsRow_nil _ _ _ _, RowKit.Below.refl _ _⟩
      case round =>
        obtain ⟨k, hk, rfl, ho, hbw⟩ := hrel
        by_cases hlt : k < l.length
        · have c6 := ((hM.out.below hbw.out).cell (j := k) (by omega)).1
          have k0 : (0 : Int) ≤ (k : Int) := by omega
          have k1 : (k : Int) < (l.length : Int) := by omega
          have hmn := marked_next B k
          have hml := marked_len B k
          cases hon : onB B k with
          | false =>
            rw [hon] at c6 hmn
            have hmn' : Hid (markedB B (k + 1) = markedB B k) := by show _ = _; rw [hmn]; simp
            clear hmn hml
            go_wp2_with fail
            go_roundw
            case rel => exact ⟨k + 1, by omega, by go_num, by rw [hmn'.out]; exact ho, hbw⟩
            case measure => simp [intOf]; omega
          | true =>
            rw [hon] at c6 hmn
            have hmn' : Hid (markedB B (k + 1) = markedB B k ++ [k]) := by show _ = _; rw [hmn]; simp
            have hm6 : (markedB B k).length ≤ 60 := by omega
            clear hmn hml
            generalize markedB B k = m at *
            go_wp2_with (at_builtin; refine wpList_append_own _ rfl _ _ 41 rfl W0.heap.size 3 i0' (.int .i64 0) 1 8 Tryd.underlying41 hi0 hz0 hz1 hz2 rfl (by decide) _ _ _ rfl (ho.out.alloc _) ⟨wr.heap.size, 0, none⟩ 1 1 [.int .i64 (k : Int)] rfl rfl ?c1 (by simp [Value.oneCell']) (by unfold maxLen; omega) (by omega) (by have := hbw.out.size; simp; omega) ?_)
            case c1 =>
              intro j u hu
              have hj : j < 1 := by have := (List.getElem?_eq_some_iff.1 hu).1; simpa using this
              obtain rfl : j = 0 := by omega
              rw [Addr.add_lit]
              simp at hu; subst hu; go_simp
            intro v' w7 h2 h3 _
            have hb7 : Hid (RowKit.Below W0.heap.size W0 w7) := (hbw.out.trans ((balloc wr _).mono hbw.out.size)).grown h3 (by have := hbw.out.size; simp; omega) (fun j hj => (ho.out.lt j hj).1)
            have ho7 : Hid (w7.ownsRow W0.heap.size 3 1 v' (m ++ [k]).length (cellsU (m ++ [k]))) := by
              show World.ownsRow _ _ _ _ _ _ _
              rw [List.length_append]
              simpa [cellsU] using h2
            clear h2 h3
            go_wp2_with fail
            go_roundw
            case rel => exact ⟨k + 1, by omega, by go_num, by rw [hmn'.out]; exact ho7, hb7⟩
            case measure => simp [intOf]; omega
        · obtain rfl : k = l.length := by omega
          obtain ⟨a2, c2, hv, hsl⟩ := ownU_sl ho.out
          subst hv
          have hfin : Hid (UpAns w l i (.returned (.slice a2 (markedB B l.length).length c2)) wr) := by
            have h1 := marked_up hS.out hI.out (by rw [hBl]; exact hC'.out)
            rw [hBl] at h1
            refine ⟨a2, c2, markedB B l.length, rfl, marked_rise _ _, h1, hsl, ?_, Nat.le_trans (marked_len _ _) hz⟩
            rw [hbi]
            exact hb.out.trans (hbw.out.mono (Nat.le_trans (by rw [← hbi]; exact Nat.le_refl _) hb.out.size))
          clear hsl
          generalize (markedB B l.length).length = q at *
          go_wp2_with fail
          exact bodyPost_ret (v := .slice a2 q c2) (by simp [results, Tryd.results22, go_sem]) rfl hfin.out
    | true =>
      have hcnt := hM.out.count
      go_wp2_with fail
      go_loopw [6, 7] (fun ag kk w6 => ∃ (B1 : List Bool) (g : Bool) (k : Nat), ag = .bool g ∧ kk = .int .i64 k ∧ k ≤ l.length ∧ B1.length = l.length ∧ Hid (onB B1 i = true) ∧ Hid (SoundB l i B1) ∧ Hid (g = false → B1 = B ∧ ClosedTo l B1 k) ∧ Hid (g = true → nF B1 < nF B) ∧ Hid (MarkAt w6 bi B1) ∧ Hid (RowKit.Below bi w w6)) (fun _ kk w6 => l.length - (intOf kk).toNat)
      case atStart => exact ⟨B, false, 0, rfl, rfl, by omega, hBl, hI, hS, (fun _ => ⟨rfl, fun c hc => by omega⟩), (fun h => by cases h), hM, hb⟩
      case round =>
        obtain ⟨B1, g, k, rfl, rfl, hk, hB1, hI1, hS1, hF1, hT1, hM1, hb1⟩ := hrel
        generalize hW1 : wr = W1 at *
        clear hW1
        by_cases hlt : k < l.length
        · have c6 := (hM1.out.cell (j := k) (by omega)).1
          have k0 : (0 : Int) ≤ (k : Int) := by omega
          have k1 : (k : Int) < (l.length : Int) := by omega
          cases hon : onB B1 k with
          | false =>
            rw [hon] at c6
            have hF2 : Hid (g = false → B1 = B ∧ ClosedTo l B1 (k + 1)) := fun hg => by
              obtain ⟨h1, h2⟩ := hF1.out hg
              refine ⟨h1, fun c hc h3 => ?_⟩
              rcases (by omega : c < k ∨ c = k) with h4 | rfl
              · exact h2 c h4 h3
              · rw [hon] at h3; cases h3
            go_wp2_with fail
            go_roundw
            case rel => exact ⟨B1, g, k + 1, rfl, by go_num, by omega, hB1, hI1, hS1, hF2, hT1, hM1, hb1⟩
            case measure => simp [intOf]; omega
          | true =>
            rw [hon] at c6
            have hon' := hideO hon
            have hup := hideO (hS1.out k hon)
            obtain ⟨b, o, ap, cp, rfl, d0, _, _, hsp⟩ := Hl.out.at hlt
            have hbw : w.heap.size = bi := hbi
            have Hd0 : Hid (∀ W', RowKit.Below bi w W' → W'.cell? ⟨b, o + k * 3, none⟩ = some (.slice ap l[k].1.length cp)) := fun W' h => by
              have hb' : b < bi := by rw [← hbi]; exact World.block_lt_of_cell? w _ d0
              exact (h.cell (p := ⟨b, o + k * 3, none⟩) hb').trans d0
            have Hsp := hideO hsp
            have hpe : Hid (parsOf l k = l[k].1) := by show _ = _; unfold parsOf; rw [List.getElem?_eq_getElem hlt]; rfl
            have hgp := hideO (good_pars HG.out hlt)
            have hp2 : l[k].1.length ≤ 2 := by
              have := HG.out.2 k hlt
              unfold comN at this
              split at this
              · cases this
              · omega
            clear d0 hsp hon
            generalize l[k].1 = ps at *
            go_wp2_with fail
            go_loopw [6, 8] (fun ag jj w7 => ∃ (B2 : List Bool) (g2 : Bool) (j : Nat), ag = .bool g2 ∧ jj = .int .i64 j ∧ j ≤ ps.length ∧ B2.length = l.length ∧ Hid (onB B2 i = true) ∧ Hid (SoundB l i B2) ∧ Hid (g2 = false → B2 = B ∧ ClosedTo l B2 k ∧ ∀ z ∈ ps.take j, onB B2 z.toNat = true) ∧ Hid (g2 = true → nF B2 < nF B) ∧ Hid (MarkAt w7 bi B2) ∧ Hid (RowKit.Below bi w w7)) (fun _ jj w7 => ps.length - (intOf jj).toNat)
            case atStart => exact ⟨B1, g, 0, rfl, rfl, by omega, hB1, hI1, hS1, (fun h => ⟨(hF1.out h).1, (hF1.out h).2, by simp⟩), hT1, hM1, hb1⟩
            case round =>
              obtain ⟨B2, g2, j, rfl, rfl, hj, hB2, hI2', hS2', hF2, hT2, hM2', hb2'⟩ := hrel
              have d1 := Hd0.out _ hb2'.out
              by_cases hjl : j < ps.length
              · obtain ⟨b2, o2, rfl, e0⟩ := Hsp.out.at hjl
                have hrg := hgp.out ps[j] (by rw [hpe.out]; exact List.getElem_mem hjl)
                obtain ⟨P, hP⟩ : ∃ P : Nat, ps[j] = (P : Int) := ⟨ps[j].toNat, by omega⟩
                have hPl : P < B2.length := by omega
                have hPm : Hid ((P : Int) ∈ parsOf l k) := by show _ ∈ _; rw [hpe.out, ← hP]; exact List.getElem_mem hjl
                have htk : Hid (∀ z ∈ ps.take (j + 1), z ∈ ps.take j ∨ z = (P : Int)) := fun z hz => by
                  rw [List.take_succ_eq_append_getElem hjl] at hz
                  rcases List.mem_append.1 hz with h | h
                  · exact Or.inl h
                  · simp at h; exact Or.inr (h.trans hP)
                have e1 : wr.cell? ⟨b2, o2 + j, none⟩ = some (.int .i64 (P : Int)) := by
                  have hb' : b2 < bi := by rw [← hbi]; exact World.block_lt_of_cell? w _ e0
                  rw [← hP]
                  exact (hb2'.out.cell (p := ⟨b2, o2 + j, none⟩) hb').trans e0
                obtain ⟨m0, f0⟩ := hM2'.out.cell hPl
                have j0 : (0 : Int) ≤ (j : Int) := by omega
                have j1 : (j : Int) < (ps.length : Int) := by omega
                have p0 : (0 : Int) ≤ (P : Int) := by omega
                have p1 : (P : Int) < (l.length : Int) := by omega
                clear e0 hP hrg
                cases hmk : onB B2 P with
                | true =>
                  rw [hmk] at m0
                  have hF3 : Hid (g2 = false → B2 = B ∧ ClosedTo l B2 k ∧ ∀ z ∈ ps.take (j + 1), onB B2 z.toNat = true) := fun hg => by
                    obtain ⟨h1, h2, h3⟩ := hF2.out hg
                    refine ⟨h1, h2, fun z hz => ?_⟩
                    rcases htk.out z hz with h | rfl
                    · exact h3 z h
                    · simpa using hmk
                  go_wp2_with fail
                  go_roundw
                  case rel => exact ⟨B2, g2, j + 1, rfl, by go_num, by omega, hB2, hI2', hS2', hF3, hT2, hM2', hb2'⟩
                  case measure => simp [intOf]; omega
                | false =>
                  rw [hmk] at m0
                  have hT3 : Hid (nF (B2.set P true) < nF B) := by
                    have h1 := nF_set hPl hmk
                    show _ < _
                    cases g2 with
                    | false => rw [(hF2.out rfl).1] at h1 ⊢; exact h1
                    | true => have := hT2.out rfl; omega
                  have hI3 : Hid (onB (B2.set P true) i = true) := by
                    show _ = _
                    rw [onB_set hPl]
                    split
                    · rfl
                    · exact hI2'.out
                  have hS3 : Hid (SoundB l i (B2.set P true)) := hS2'.out.set hPl (hup.out.step hPm.out)
                  have hM3 := hideO (hM2'.out.set P)
                  have hb3 : Hid (RowKit.Below bi w (wr.setCell ⟨bi, P, none⟩ (.bool true))) := hb2'.out.setCell (p := ⟨bi, P, none⟩) (Nat.le_refl _) _
                  have hB3 : (B2.set P true).length = l.length := by simp [hB2]
                  go_wp2_with fail
                  go_roundw
                  case rel => exact ⟨B2.set P true, true, j + 1, rfl, by go_num, by omega, hB3, hI3, hS3, (fun h => by cases h), (fun _ => hT3.out), hM3, hb3⟩
                  case measure => simp [intOf]; omega
              · obtain rfl : j = ps.length := by omega
                have hF3 : Hid (g2 = false → B2 = B ∧ ClosedTo l B2 (k + 1)) := fun hg => by
                  obtain ⟨h1, h2, h3⟩ := hF2.out hg
                  refine ⟨h1, fun c hc h4 p hp => ?_⟩
                  rcases (by omega : c < k ∨ c = k) with h5 | rfl
                  · exact h2 c h5 h4 p hp
                  · rw [hpe.out] at hp
                    have := h3 (p : Int) (by rw [List.take_length]; exact hp)
                    simpa using this
                go_wp2_with fail
                go_roundw
                case rel => exact ⟨B2, g2, k + 1, rfl, by go_num, by omega, hB2, hI2', hS2', hF3, hT2, hM2', hb2'⟩
                case measure => simp [intOf]; omega
        · obtain rfl : k = l.length := by omega
          go_wp2_with fail
          go_roundw
          case rel => exact ⟨B1, g, rfl, hB1, hI1, hS1, (fun hg => (hF1.out hg).2), hM1, hb1⟩
          case measure =>
            have h1 := hM1.out.count
            have h2 := hF1.out
            have h3 := hT1.out
            rw [h1, hcnt]
            cases g with
            | false => rw [(h2 rfl).1]; simp
            | true => have := h3 rfl; simp; omega
end Go.Proofs.YtackdedbphfaeaeDoor
