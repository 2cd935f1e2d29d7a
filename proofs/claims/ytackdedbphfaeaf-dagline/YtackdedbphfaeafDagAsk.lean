/- The program's dag: asker, those. -/
import Derived.Test.YtackdedbphfaeafDagChk
import Derived.Test.YtackdedbphfaeafDagMark
import Derived.Test.YtackdedbphfaeafOwnU
import Derived.Laws.EntriesVeiled
namespace Go.Proofs.Ytackdedbphfaeaf
open Go Go.RowKit Go.Proofs
set_option synthInstance.maxSize 1000

/-- what an asker holds: marks, and a box that leads to them -/
def AskF (W : World) (F bi : Nat) (Bl : List Bool) : Prop := W.cell? ⟨F, 0, none⟩ = some (.slice (some ⟨bi, 0, none⟩) Bl.length Bl.length) ∧ MarkAt W bi Bl
theorem AskF.below {W W' : World} {F bi : Nat} {Bl : List Bool} (h : AskF W F bi Bl) (hb : RowKit.Below W.heap.size W W') : AskF W' F bi Bl :=
  ⟨(hb.cell (World.block_lt_of_cell? W _ h.1)).trans h.1, h.2.below hb⟩
theorem dask1_any (W : World) (F bi : Nat) (Bl : List Bool) (k : Nat) (h : AskF W F bi Bl) (hk : k < Bl.length) :
    Calls Try.prog 16 #[.int .i64 (k : Int), .pointer (some ⟨F, 0, none⟩)] W fun e w' => e = .returned (.bool (onB Bl k)) ∧ RowKit.Below W.heap.size W w' := by
  obtain ⟨c0, hm⟩ := h
  have c1 := (hm.cell hk).1
  have i0 : (0 : Int) ≤ (k : Int) := by omega
  have i1 : (k : Int) < (Bl.length : Int) := by omega
  clear hm
  generalize onB Bl k = q at *
  go_enter Try.func16, Try.ntmps16
  go_wp2_with fail
  go_ret
  exact ⟨rfl, RowKit.Below.refl _ _⟩
theorem dask_pred {W : World} {F bi : Nat} {Bl : List Bool} (h : AskF W F bi Bl) : PredI 16 #[.pointer (some ⟨F, 0, none⟩)] (fun x => 0 ≤ x ∧ x < Bl.length) (fun x => onB Bl x.toNat) W := fun W' x hW hx => by
  obtain ⟨k, rfl⟩ : ∃ k : Nat, x = (k : Int) := ⟨x.toNat, by omega⟩
  exact dask1_any W' F bi Bl k (h.below hW) (by omega)
theorem entersAsk : ∀ args w, (callFunc 16 args).run Try.prog w = .ok (.enter 16 args) w := enters_of Try.func16 (by kernel_rfl) rfl

/-- closed above j -/
def ClosedUp (l : List Cm) (B : List Bool) (j : Int) : Prop := ∀ c : Nat, j < c → onB B c = true → ∀ p : Nat, (p : Int) ∈ parsOf l c → onB B p = true
theorem ClosedUp.set {l : List Cm} {B : List Bool} {j : Int} (h : ClosedUp l B j) {P : Nat} (hP : P < B.length) (hj : (P : Int) ≤ j) : ClosedUp l (B.set P true) j := by
  intro c hc h1 p hp
  rw [onB_set hP] at h1 ⊢
  rw [if_neg (by omega)] at h1
  split
  · rfl
  · exact h c hc h1 p hp
theorem onB_set_ge {B : List Bool} {P k : Nat} (hP : P < B.length) (h : onB B k = true) : onB (B.set P true) k = true := by
  rw [onB_set hP]
  split
  · rfl
  · exact h
/-- an asker after the ancestors of i -/
structure AskG (W : World) (l : List Cm) (i F bi : Nat) (Bl : List Bool) : Prop where
  at_ : AskF W F bi Bl
  len : Bl.length = l.length
  up : ∀ k, onB Bl k = true ↔ Up l i k
theorem AskG.below {W W' : World} {l : List Cm} {i F bi : Nat} {Bl : List Bool} (h : AskG W l i F bi Bl) (hb : RowKit.Below W.heap.size W W') : AskG W' l i F bi Bl := ⟨h.at_.below hb, h.len, h.up⟩
/-- what asker answers -/
def AskAns (w : World) (l : List Cm) (i : Nat) (e : Ending) (w' : World) : Prop :=
  ∃ F bi Bl, e = .returned (.func (.func 16) #[] #[.pointer (some ⟨F, 0, none⟩)]) ∧ AskG w' l i F bi Bl ∧ RowKit.Below w.heap.size w w'

set_option maxHeartbeats 8000000 in
set_option maxRecDepth 100000 in
theorem DAsker_any (ad : Option Addr) (ca : Nat) (l : List Cm) (i : Nat) (w : World) (hl : SlC w ad l) (hG : GoodC l) (hi : i < l.length) :
    Calls Try.prog 8 #[.slice ad l.length ca, .int .i64 (i : Int)] w fun e w' => AskAns w l i e w' := by
  have Hl := hideO hl
  have HG := hideO hG
  have hz : l.length ≤ 60 := hG.1
  have hmk := fun W => makeBoolsO l.length W (by omega)
  have hB0 : Hid (∀ k, onB (List.replicate l.length false) k = false) := fun k => by
    unfold onB
    rw [List.getD_eq_getElem?_getD, List.getElem?_replicate]
    split <;> rfl
  have hBl : (List.replicate l.length false).length = l.length := by simp
  have i0 : (0 : Int) ≤ (i : Int) := by omega
  have i1 : (i : Int) < (l.length : Int) := by omega
  clear hl hG
  generalize List.replicate l.length false = B0 at *
  have hM0 : MarkAt (w.alloc (rowB B0)) w.heap.size B0 := by
    show (w.heap.push _)[w.heap.size]? = _
    simp
  have hM1 := hM0.below (balloc _ (.cells #[.slice (some ⟨w.heap.size, 0, none⟩) l.length l.length] 41))
  have hb1 : RowKit.Below w.heap.size w ((w.alloc (rowB B0)).alloc (.cells #[.slice (some ⟨w.heap.size, 0, none⟩) l.length l.length] 41)) := bstep (balloc _ _) (balloc _ _)
  have hF1 : ((w.alloc (rowB B0)).alloc (.cells #[.slice (some ⟨w.heap.size, 0, none⟩) l.length l.length] 41)).cell? ⟨w.heap.size + 1, 0, none⟩ = some (.slice (some ⟨w.heap.size, 0, none⟩) l.length l.length) := by go_simp
  obtain ⟨c1, f1⟩ := hM1.cell (j := i) (by omega)
  rw [hB0.out i] at c1
  have hM2 := hideO ((hM0.set i).below (balloc _ (.cells #[.slice (some ⟨w.heap.size, 0, none⟩) l.length l.length] 41)))
  have hb2 := hideO (bstep ((balloc w (rowB B0)).setCell (p := ⟨w.heap.size, i, none⟩) (Nat.le_refl _) (.bool true)) (balloc _ (.cells #[.slice (some ⟨w.heap.size, 0, none⟩) l.length l.length] 41)))
  have hF2 : Hid ((((w.alloc (rowB B0)).setCell ⟨w.heap.size, i, none⟩ (.bool true)).alloc (.cells #[.slice (some ⟨w.heap.size, 0, none⟩) l.length l.length] 41)).cell? ⟨w.heap.size + 1, 0, none⟩ = some (.slice (some ⟨w.heap.size, 0, none⟩) l.length l.length)) := by
    show _ = _
    go_simp
  have hS2 : Hid (SoundB l i (B0.set i true)) := SoundB.set (fun k hk => by rw [hB0.out k] at hk; cases hk) (by omega) (Up.refl l i)
  have hI2 : Hid (onB (B0.set i true) i = true) := by show _ = _; rw [onB_set (by omega), if_pos rfl]
  have hC2 : Hid (ClosedUp l (B0.set i true) (i : Int)) := fun c hc h1 => by
    rw [onB_set (by omega), if_neg (by omega), hB0.out c] at h1
    cases h1
  have hL2 : (B0.set i true).length = l.length := by simp [hBl]
  clear hM0 hM1 hb1 hF1 hB0
  go_enter Try.func8, Try.ntmps8
  go_wp2_with fail
  generalize hW2 : ((w.alloc (rowB B0)).setCell ⟨w.heap.size, i, none⟩ (.bool true)).alloc (.cells #[.slice (some ⟨w.heap.size, 0, none⟩) l.length l.length] 41) = w2 at *
  generalize B0.set i true = B2 at *
  clear hW2 c1 f1 hmk hBl
  generalize hbi : w.heap.size = bi at *
  go_loopw [6] (fun v wr => ∃ (B : List Bool) (j : Int), v = .int .i64 j ∧ -1 ≤ j ∧ j ≤ (i : Int) ∧ B.length = l.length ∧ Hid (onB B i = true) ∧ Hid (SoundB l i B) ∧ Hid (ClosedUp l B j) ∧ Hid (MarkAt wr bi B) ∧ Hid (wr.cell? ⟨bi + 1, 0, none⟩ = some (.slice (some ⟨bi, 0, none⟩) l.length l.length)) ∧ Hid (RowKit.Below bi w wr)) (fun v wr => (intOf v + 1).toNat)
  case atStart => exact ⟨B2, (i : Int), rfl, by omega, by omega, hL2, hI2, hS2, hC2, hM2, hF2, hb2⟩
  case round =>
    obtain ⟨B, j, rfl, hj1, hji, hBl, hI, hS, hC, hM, hF, hb⟩ := hrel
    generalize hW1 : wr = W1 at *
    clear hW1
    rcases (by omega : j = -1 ∨ 0 ≤ j) with rfl | hj0
    · have hfin : Hid (AskAns w l i (.returned (.func (.func 16) #[] #[.pointer (some ⟨bi + 1, 0, none⟩)])) W1) := by
        refine ⟨bi + 1, bi, B, rfl, ⟨⟨by rw [hBl]; exact hF.out, hM.out⟩, hBl, fun k => ⟨hS.out k, closed_up hI.out (fun c _ h1 p hp => hC.out c (by omega) h1 p hp) k⟩⟩, ?_⟩
        rw [hbi]
        exact hb.out
      go_wp2_with fail
      exact bodyPost_ret (v := .func (.func 16) #[] #[.pointer (some ⟨bi + 1, 0, none⟩)]) (by simp [results, Try.results8, go_sem]) rfl hfin.out
    · obtain ⟨k, rfl⟩ := Int.eq_ofNat_of_zero_le hj0
      have hlt : k < l.length := by omega
      have c5 := hF.out
      have c6 := (hM.out.cell (j := k) (by omega)).1
      have k0 : (0 : Int) ≤ (k : Int) := by omega
      have k1 : (k : Int) < (l.length : Int) := by omega
      cases hon : onB B k with
      | false =>
        rw [hon] at c6
        have hC' : Hid (ClosedUp l B ((k : Int) - 1)) := fun c hc h1 => by
          rcases (by omega : (k : Int) < c ∨ c = k) with h2 | rfl
          · exact hC.out c h2 h1
          · rw [hon] at h1; cases h1
        go_wp2_with fail
        go_roundw
        case rel => exact ⟨B, (k : Int) - 1, by go_num, by omega, by omega, hBl, hI, hS, hC', hM, hF, hb⟩
        case measure => simp [intOf]
      | true =>
        rw [hon] at c6
        have hup := hideO (hS.out k hon)
        obtain ⟨b, o, ap, cp, rfl, d0, _, _, hsp⟩ := Hl.out.at hlt
        have hd0 : W1.cell? ⟨b, o + k * 3, none⟩ = some (.slice ap l[k].1.length cp) := by
          have hb' : b < bi := by rw [← hbi]; exact World.block_lt_of_cell? w _ d0
          exact (hb.out.cell (p := ⟨b, o + k * 3, none⟩) hb').trans d0
        have Hsp := hideO hsp
        have hpe : Hid (parsOf l k = l[k].1) := by show _ = _; unfold parsOf; rw [List.getElem?_eq_getElem hlt]; rfl
        have hgp := hideO (good_pars HG.out hlt)
        have hp2 : l[k].1.length ≤ 2 := by
          have := HG.out.2 k hlt
          unfold comN at this
          split at this
          · cases this
          · omega
        clear d0 hsp hon
        generalize l[k].1 = ps at *
        go_wp2_with fail
        go_loopw [31] (fun jj w7 => ∃ (B2 : List Bool) (q : Nat), jj = .int .i64 q ∧ q ≤ ps.length ∧ B2.length = l.length ∧ Hid (onB B2 i = true) ∧ Hid (SoundB l i B2) ∧ Hid (ClosedUp l B2 k) ∧ Hid (∀ z ∈ ps.take q, onB B2 z.toNat = true) ∧ Hid (MarkAt w7 bi B2) ∧ Hid (w7.cell? ⟨bi + 1, 0, none⟩ = some (.slice (some ⟨bi, 0, none⟩) l.length l.length)) ∧ Hid (RowKit.Below bi w w7)) (fun jj w7 => ps.length - (intOf jj).toNat)
        case atStart => exact ⟨B, 0, rfl, by omega, hBl, hI, hS, hC, (by show ∀ z ∈ _, _; simp), hM, hF, hb⟩
        case round =>
          obtain ⟨B2, q, rfl, hq, hB2, hI2', hS2', hC2', hT2, hM2', hF2', hb2'⟩ := hrel
          by_cases hql : q < ps.length
          · obtain ⟨b2, o2, rfl, e0⟩ := Hsp.out.at hql
            have hrg := hgp.out ps[q] (by rw [hpe.out]; exact List.getElem_mem hql)
            obtain ⟨P, hP⟩ : ∃ P : Nat, ps[q] = (P : Int) := ⟨ps[q].toNat, by omega⟩
            have hPl : P < B2.length := by omega
            have hPk : (P : Int) ≤ (k : Int) := by omega
            have hPm : Hid ((P : Int) ∈ parsOf l k) := by show _ ∈ _; rw [hpe.out, ← hP]; exact List.getElem_mem hql
            have hT3 : Hid (∀ z ∈ ps.take (q + 1), onB (B2.set P true) z.toNat = true) := fun z hz => by
              rw [List.take_succ_eq_append_getElem hql] at hz
              rcases List.mem_append.1 hz with h | h
              · exact onB_set_ge hPl (hT2.out z h)
              · simp at h
                rw [h, hP, onB_set hPl]
                simp
            have e1 : wr.cell? ⟨b2, o2 + q, none⟩ = some (.int .i64 (P : Int)) := by
              have hb' : b2 < bi := by rw [← hbi]; exact World.block_lt_of_cell? w _ e0
              rw [← hP]
              exact (hb2'.out.cell (p := ⟨b2, o2 + q, none⟩) hb').trans e0
            obtain ⟨m0, f0⟩ := hM2'.out.cell hPl
            have c7 := hF2'.out
            have j0 : (0 : Int) ≤ (q : Int) := by omega
            have j1 : (q : Int) < (ps.length : Int) := by omega
            have p0 : (0 : Int) ≤ (P : Int) := by omega
            have p1 : (P : Int) < (l.length : Int) := by omega
            have hI3 : Hid (onB (B2.set P true) i = true) := onB_set_ge hPl hI2'.out
            have hS3 : Hid (SoundB l i (B2.set P true)) := hS2'.out.set hPl (hup.out.step hPm.out)
            have hC3 : Hid (ClosedUp l (B2.set P true) k) := hC2'.out.set hPl hPk
            have hM3 := hideO (hM2'.out.set P)
            have hb3 : Hid (RowKit.Below bi w (wr.setCell ⟨bi, P, none⟩ (.bool true))) := hb2'.out.setCell (p := ⟨bi, P, none⟩) (Nat.le_refl _) _
            have hF3 : Hid ((wr.setCell ⟨bi, P, none⟩ (.bool true)).cell? ⟨bi + 1, 0, none⟩ = some (.slice (some ⟨bi, 0, none⟩) l.length l.length)) := (World.cell?_setCell_other _ _ _ _ (by simp)).trans hF2'.out
            have hB3 : (B2.set P true).length = l.length := by simp [hB2]
            clear e0 hP hrg hT2 hPk
            go_wp2_with fail
            go_roundw
            case rel => exact ⟨B2.set P true, q + 1, by go_num, by omega, hB3, hI3, hS3, hC3, hT3, hM3, hF3, hb3⟩
            case measure => simp [intOf]; omega
          · obtain rfl : q = ps.length := by omega
            have hC3 : Hid (ClosedUp l B2 ((k : Int) - 1)) := fun c hc h4 p hp => by
              rcases (by omega : (k : Int) < c ∨ c = k) with h5 | rfl
              · exact hC2'.out c h5 h4 p hp
              · rw [hpe.out] at hp
                have := hT2.out (p : Int) (by rw [List.take_length]; exact hp)
                simpa using this
            go_wp2_with fail
            go_roundw
            case rel => exact ⟨B2, (k : Int) - 1, by go_num, by omega, by omega, hB2, hI2', hS2', hC3, hM2', hF2', hb2'⟩
            case measure => simp [intOf]

/-- the numbers below k that are wanted -/
def thoseN (p : Int → Bool) (k : Nat) : List Nat := (List.range k).filter fun j : Nat => p (j : Int)
theorem those_next (p : Int → Bool) (k : Nat) : thoseN p (k + 1) = thoseN p k ++ if p (k : Int) = true then [k] else [] := by
  unfold thoseN
  rw [List.range_succ, List.filter_append, List.filter_cons]
  simp
theorem those_rise (p : Int → Bool) (k : Nat) : RiseN (thoseN p k) := by
  unfold thoseN RiseN
  exact List.Pairwise.filter _ List.pairwise_lt_range
theorem those_mem (p : Int → Bool) (k z : Nat) : z ∈ thoseN p k ↔ z < k ∧ p (z : Int) = true := by
  unfold thoseN
  rw [List.mem_filter, List.mem_range]
theorem those_len (p : Int → Bool) (k : Nat) : (thoseN p k).length ≤ k := by
  unfold thoseN
  exact Nat.le_trans (List.length_filter_le _ _) (by simp)
/-- a list of one's own, in new memory -/
def NewL (w : World) (m : List Nat) (a : Option Addr) (c : Nat) (w' : World) : Prop := SlI w' a (natI m) ∧ RowKit.Below w.heap.size w w' ∧ (m ≠ [] → ∀ d, a = some d → w.heap.size ≤ d.block) ∧ m.length ≤ c ∧ ∀ d j, a = some d → w'.frozen? ⟨d.block, d.off + j, none⟩ = false
def ThoseAns (w : World) (m : List Nat) (e : Ending) (w' : World) : Prop := ∃ a c, e = .returned (.slice a m.length c) ∧ NewL w m a c w'
theorem own_new {w W : World} {v : Value} {m : List Nat} (h : W.ownsRow w.heap.size 3 1 v m.length (cellsU m)) (hb : RowKit.Below w.heap.size w W) : ∃ a c, v = .slice a m.length c ∧ NewL w m a c W := by
  obtain ⟨ad, cap, hv, hsl⟩ := ownU_sl h
  refine ⟨ad, cap, hv, hsl, hb, ?_, ?_, ?_⟩
  · intro hne d hd
    rcases h.2 with ⟨_, h0⟩ | ⟨g, cap', cur, h1, h2, _⟩
    · exact absurd (List.eq_nil_of_length_eq_zero h0) hne
    · rw [hv, hd] at h1
      cases h1
      exact h2
  · rcases h.2 with ⟨h1, h0⟩ | ⟨g, cap', cur, h1, h2, _, h3, _⟩
    · omega
    · rw [hv] at h1
      cases h1
      exact h3
  · intro d j hd
    have h' := h
    rcases h.2 with ⟨h1, h0⟩ | ⟨g, cap', cur, h1, h2, _⟩
    · rw [hv, hd] at h1
      cases h1
    · rw [h1] at h'
      have := h'.frozenAt (0 + j)
      rw [hv, hd] at h1
      cases h1
      exact this

set_option maxHeartbeats 8000000 in
set_option maxRecDepth 100000 in
theorem DThose_any (g : Nat) (lb : Array Value) (p : Int → Bool) (w : World) (ad : Option Addr) (n ca : Nat) (eg : ∀ args w, (callFunc g args).run Try.prog w = .ok (.enter g args) w) (hp : PredI g lb (fun x => 0 ≤ x ∧ x < n) p w) (hn : n ≤ 60) :
    Calls Try.prog 7 #[.slice ad n ca, .func (.func g) #[] lb] w fun e w' => ThoseAns w (thoseN p n) e w' := by
  have H := hideO hp
  clear hp
  obtain ⟨i0', hi0, hz0, hz1, hz2⟩ := info_parts infoU
  go_enter Try.func7, Try.ntmps7
  go_wp2_with fail
  go_loopw [5, 9] (fun v kk wr => ∃ (k : Nat), k ≤ n ∧ kk = .int .i64 k ∧ Hid (wr.ownsRow w.heap.size 3 1 v (thoseN p k).length (cellsU (thoseN p k))) ∧ Hid (RowKit.Below w.heap.size w wr)) (fun _ kk wr => n - (intOf kk).toNat)
  case atStart => exact ⟨0, by omega, rfl, World.ownsRow_nil _ _ _ _, RowKit.Below.refl _ _⟩
  case round =>
    obtain ⟨k, hk, rfl, ho, hbw⟩ := hrel
    by_cases hlt : k < n
    · have k0 : (0 : Int) ≤ (k : Int) := by omega
      have k1 : (k : Int) < (n : Int) := by omega
      have hcall := H.out wr (k : Int) hbw.out ⟨k0, k1⟩
      have hmn := those_next p k
      have hml := those_len p k
      cases hon : p (k : Int) with
      | false =>
        rw [hon] at hcall hmn
        have hmn' : Hid (thoseN p (k + 1) = thoseN p k) := by show _ = _; rw [hmn]; simp
        clear hmn hml
        go_wp2_with (go_at_fn g; refine hcall.mono ?_; rintro e w5 ⟨rfl, hb5⟩; dsimp only)
        go_roundw
        case rel => exact ⟨k + 1, by omega, by go_num, by rw [hmn'.out]; exact ownsO_below ho.out hb5, bstep hbw.out hb5⟩
        case measure => simp [intOf]; omega
      | true =>
        rw [hon] at hcall hmn
        have hmn' : Hid (thoseN p (k + 1) = thoseN p k ++ [k]) := by show _ = _; rw [hmn]; simp
        have hm6 : (thoseN p k).length ≤ 60 := by omega
        clear hmn hml
        generalize thoseN p k = m at *
        go_wp2_with fail
        go_at_fn g
        refine hcall.mono ?_
        rintro e w5 ⟨rfl, hb5⟩
        dsimp only
        have ho5 := hideO (ownsO_below ho.out hb5)
        have hbw5 := hideO (bstep hbw.out hb5)
        clear ho hbw hb5 hcall
        go_wp2_with (at_builtin; refine wpList_append_own _ rfl _ _ 22 rfl w.heap.size 3 i0' (.int .i64 0) 1 8 Try.underlying22 hi0 hz0 hz1 hz2 rfl (by decide) _ _ _ rfl (ho5.out.alloc _) ⟨w5.heap.size, 0, none⟩ 1 1 [.int .i64 (k : Int)] rfl rfl ?c1 (by simp [Value.oneCell']) (by unfold maxLen; omega) (by omega) (by have := hbw5.out.size; simp; omega) ?_)
        case c1 =>
          intro j u hu
          have hj : j < 1 := by have := (List.getElem?_eq_some_iff.1 hu).1; simpa using this
          obtain rfl : j = 0 := by omega
          rw [Addr.add_lit]
          simp at hu; subst hu; go_simp
        intro v' w7 h2 h3 _
        have hb7 : Hid (RowKit.Below w.heap.size w w7) := (hbw5.out.trans ((balloc w5 _).mono hbw5.out.size)).grown h3 (by have := hbw5.out.size; simp; omega) (fun j hj => (ho5.out.lt j hj).1)
        have ho7 : Hid (w7.ownsRow w.heap.size 3 1 v' (m ++ [k]).length (cellsU (m ++ [k]))) := by
          show World.ownsRow _ _ _ _ _ _ _
          rw [List.length_append]
          simpa [cellsU] using h2
        clear h2 h3
        go_wp2_with fail
        go_roundw
        case rel => exact ⟨k + 1, by omega, by go_num, by rw [hmn'.out]; exact ho7, hb7⟩
        case measure => simp [intOf]; omega
    · obtain rfl : k = n := by omega
      obtain ⟨a2, c2, hv, hnew⟩ := own_new ho.out hbw.out
      subst hv
      have hfin : Hid (ThoseAns w (thoseN p k) (.returned (.slice a2 (thoseN p k).length c2)) wr) := ⟨a2, c2, rfl, hnew⟩
      clear hnew
      generalize (thoseN p k).length = q at *
      go_wp2_with fail
      exact bodyPost_ret (v := .slice a2 q c2) (by simp [results, Try.results7, go_sem]) rfl hfin.out
end Go.Proofs.Ytackdedbphfaeaf
