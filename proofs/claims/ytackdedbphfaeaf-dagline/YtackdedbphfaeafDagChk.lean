/- The program's dag: Check, checkAll. -/
import Derived.Test.YtackdedbphfaeafDagIdx
import Derived.BigQuiet
import Derived.Deep.QuietTactic
namespace Go.Proofs.Ytackdedbphfaeaf
open Go Go.RowKit Go.Proofs
set_option synthInstance.maxSize 1000

theorem dmsg1_any (n : Int) (w : World) :
    Calls Try.prog 23 #[.int .u8 n] w fun e w' => e = .returned (.bool (decide (n < 32 ∨ 126 < n))) ∧ w' = w := by
  by_cases h1 : n < 32
  all_goals
    go_enter Try.func23, Try.ntmps23
    go_wp2
    go_ret
    exact ⟨ret_bool (by rw [Bool.eq_iff_iff]; simp; omega), rfl⟩
theorem okM_any (l : List UInt8) : okM l = !(l.any fun c => decide ((c.toNat : Int) < 32 ∨ 126 < (c.toNat : Int))) := by
  unfold okM
  rw [List.not_any_eq_all_not]
  congr 1
  funext c
  rw [Bool.eq_iff_iff]
  simp
  omega
theorem dbytes_of (l : List UInt8) (w1 : World) : ∃ cap w2, (convert 9 47 (.string ⟨l.toArray⟩)).run Try.prog w1 = .ok (.slice (some ⟨w1.heap.size, 0, none⟩) l.length cap) w2 ∧ RowKit.Below w1.heap.size w1 w2 ∧ SlBy w2 w1.heap.size l := by
  refine ⟨_, _, run_bytes_of_string (P := Try.prog) w1 9 47 5 ⟨l.toArray⟩ Try.underlying9 Try.underlying47 (by kernel_rfl), (RowKit.Below.refl _ w1).drew.alloc (Nat.le_refl _) _, fun j hj => ?_⟩
  exact (World.cell?_alloc_mark w1.drew _ _ _ j).trans (bytesRow_at ⟨l.toArray⟩ _ j hj)
set_option maxHeartbeats 1000000 in
theorem dmsg_any (l : List UInt8) (w : World) (hl : l.length ≤ maxLen) :
    Calls Try.prog 21 #[.string ⟨l.toArray⟩] w fun e w' => e = .returned (.bool (okM l)) ∧ RowKit.Below w.heap.size w w' := by
  have eg : ∀ args w, (callFunc 23 args).run Try.prog w = .ok (.enter 23 args) w := enters_of Try.func23 (by kernel_rfl) rfl
  obtain ⟨cap, w2, hrun, hb2, hs2⟩ := dbytes_of l w
  have hc := DContainsB_any 23 (fun n => decide (n < 32 ∨ 126 < n)) w2 w.heap.size cap l eg dmsg1_any hs2 (by unfold maxLen at hl; omega)
  have hf := hideO (okM_any l)
  have hb := hideO hb2
  generalize (l.any fun c => decide ((c.toNat : Int) < 32 ∨ 126 < (c.toNat : Int))) = q at *
  clear hs2 hb2
  go_enter Try.func21, Try.ntmps21
  go_wp2_with (go_at_call 22; refine hc.mono ?_; rintro e w' ⟨rfl, hw⟩; subst hw; dsimp only)
  go_ret
  exact ⟨ret_bool (by rw [hf.out]), hb.out⟩

theorem dchk1_any (W : World) (B : Nat) (x i : Int) (hB : W.cell? ⟨B, 0, none⟩ = some (.int .i64 i)) :
    Calls Try.prog 20 #[.int .i64 x, .pointer (some ⟨B, 0, none⟩)] W fun e w' => e = .returned (.bool (decide (x < 0 ∨ i ≤ x))) ∧ RowKit.Below W.heap.size W w' := by
  by_cases h1 : x < 0
  all_goals
    go_enter Try.func20, Try.ntmps20
    go_wp2
    go_ret
    exact ⟨ret_bool (by rw [Bool.eq_iff_iff]; simp; omega), RowKit.Below.refl _ _⟩
theorem range_any (ids : List Int) (i : Nat) : (ids.any fun x => decide (x < 0 ∨ (i : Int) ≤ x)) = !rangeB ids i := by
  unfold rangeB
  rw [List.not_all_eq_any_not]
  congr 1
  funext x
  rw [Bool.eq_iff_iff]
  simp
theorem dchkIn_any (W : World) (B : Nat) (i : Nat) (ad : Option Addr) (ca : Nat) (ids : List Int) (hB : W.cell? ⟨B, 0, none⟩ = some (.int .i64 (i : Int))) (hs : SlI W ad ids) (hl : ids.length ≤ maxLen) :
    Calls Try.prog 11 #[.slice ad ids.length ca, .func (.func 20) #[] #[.pointer (some ⟨B, 0, none⟩)]] W fun e w' => e = .returned (.bool (!rangeB ids i)) ∧ RowKit.Below W.heap.size W w' := by
  have eg : ∀ args w, (callFunc 20 args).run Try.prog w = .ok (.enter 20 args) w := enters_of Try.func20 (by kernel_rfl) rfl
  have := DContains_any 20 #[.pointer (some ⟨B, 0, none⟩)] (fun _ => True) (fun x => decide (x < 0 ∨ (i : Int) ≤ x)) W ad ca ids eg (fun W' x hW _ => dchk1_any W' B x i ((hW.cell (World.block_lt_of_cell? W _ hB)).trans hB)) (fun _ _ => trivial) hs (by unfold maxLen at hl; omega)
  rw [range_any] at this
  exact this
theorem oneBox {w W : World} {T T2 : TypeId} {a0 a1 a2 b0 : Value}
    (hb : RowKit.Below ((w.alloc (.cells #[a0, a1, a2] T)).alloc (.cells #[b0] T2)).heap.size ((w.alloc (.cells #[a0, a1, a2] T)).alloc (.cells #[b0] T2)) W) :
    W.cell? ⟨w.heap.size, 0, none⟩ = some a0 ∧ W.cell? ⟨w.heap.size, 1, none⟩ = some a1 ∧ W.cell? ⟨w.heap.size, 2, none⟩ = some a2 ∧ W.cell? ⟨w.heap.size + 1, 0, none⟩ = some b0 ∧ RowKit.Below w.heap.size w W ∧ w.heap.size + 1 < W.heap.size := by
  obtain ⟨h, _⟩ := bcell hb
  have hs := hb.size
  refine ⟨?_, ?_, ?_, ?_, bstep (bstep (balloc _ _) (balloc _ _)) hb, by simp at hs; omega⟩
  all_goals rw [h] <;> first | go_simp | (simp <;> omega)
theorem dtwin_two (p q : Int) : twinB [p, q] = decide (p = q) := rfl
theorem dtwin_eq (p q : Int) : twinB [p, q] = (p == q) := by
  rw [dtwin_two, Bool.eq_iff_iff]
  simp
theorem dtwin_at {ps : List Int} (h : ps.length = 2) : twinB ps = (ps[0] == ps[1]) := by
  match ps, h with
  | [p, q], _ => exact dtwin_eq p q
theorem dtwin_not {ps : List Int} (h : ps.length ≠ 2) : twinB ps = false := by
  unfold twinB
  split
  · simp at h
  · rfl

set_option maxHeartbeats 8000000 in
set_option maxRecDepth 100000 in
theorem dchkOne_any (w : World) (a : Option Addr) (ca : Nat) (ps : List Int) (ly : Int) (ms : List UInt8) (i : Nat) (hs : SlI w a ps) (hl : ps.length ≤ maxLen) (hm : ms.length ≤ maxLen) :
    Calls Try.prog 19 #[.agg #[.slice a ps.length ca, .int .i64 ly, .string ⟨ms.toArray⟩], .int .i64 (i : Int)] w fun e w' => e = .returned (errV (comN (ps, ly, ms) i)) ∧ RowKit.Below w.heap.size w w' := by
  obtain ⟨v, hv⟩ : ∃ v, errV (comN (ps, ly, ms) i) = v := ⟨_, rfl⟩
  rw [hv]
  have HV := hideO hv
  have HS := hideO hs
  have HM := hideO hm
  have HL := hideO hl
  clear hv hs hm hl
  have hmx : (ps.length : Int) ≤ 9223372036854775807 ∧ (ms.length : Int) ≤ 9223372036854775807 := by
    have h1 := HL.out
    have h2 := HM.out
    unfold maxLen at h1 h2
    omega
  obtain ⟨hmx1, hmx2⟩ := hmx
  by_cases h1 : 2 < ps.length
  · have hf : Hid (v = errV 4) := by show _ = _; rw [← HV.out]; unfold comN; rw [if_pos (Or.inl h1)]
    have j1 : (2 : Int) < (ps.length : Int) := by omega
    go_enter Try.func19, Try.ntmps19
    go_wp2_with fail
    go_ret
    exact ⟨by rw [hf.out]; rfl, bstep (balloc _ _) (balloc _ _)⟩
  have j1 : ¬ (2 : Int) < (ps.length : Int) := by omega
  by_cases h2 : 24 < ms.length
  · have hf : Hid (v = errV 4) := by show _ = _; rw [← HV.out]; unfold comN; rw [if_pos (Or.inr (by show msgN ms = 4; unfold msgN; rw [if_pos h2]))]
    have j2 : (24 : Int) < (ms.length : Int) := by omega
    go_enter Try.func19, Try.ntmps19
    go_wp2_with fail
    go_ret
    exact ⟨by rw [hf.out]; rfl, bstep (balloc _ _) (balloc _ _)⟩
  have j2 : ¬ (24 : Int) < (ms.length : Int) := by omega
  have hmsg : msgN ms = if okM ms = true then 0 else 2 := by unfold msgN; rw [if_neg h2]
  have hne4 : ¬ (2 < ps.length ∨ msgN ms = 4) := by
    rw [hmsg]
    rintro (h | h)
    · exact h1 h
    · split at h <;> cases h
  have HV2 : Hid (v = errV (if rangeB ps i = false then 1 else if twinB ps = true then 7 else if okM ms = true then (if ly < 1 ∨ 300 < ly then 1 else 0) else 2)) := by
    show _ = _
    rw [← HV.out]
    unfold comN
    rw [if_neg hne4]
    dsimp only
    rw [hmsg]
    cases okM ms <;> simp
  clear HV hmsg hne4 h1 h2
  cases hr : rangeB ps i with
  | false =>
    have hf : Hid (v = errV 1) := by show _ = _; rw [HV2.out, hr]; rfl
    go_enter Try.func19, Try.ntmps19
    go_wp2_with (go_at_call 11; refine (dchkIn_any _ _ i _ _ ps (by go_simp) (HS.out.below (bstep (balloc _ _) (balloc _ _))) HL.out).mono ?_; rintro e w1 ⟨rfl, hb1⟩; rw [hr]; dsimp only)
    go_ret
    exact ⟨by rw [hf.out]; rfl, bstep (bstep (balloc _ _) (balloc _ _)) hb1⟩
  | true =>
    have HV3 : Hid (v = errV (if twinB ps = true then 7 else if okM ms = true then (if ly < 1 ∨ 300 < ly then 1 else 0) else 2)) := by show _ = _; rw [HV2.out, hr]; rfl
    clear HV2
    have HR := hideO hr
    clear hr
    go_enter Try.func19, Try.ntmps19
    go_wp2_with (go_at_call 11; refine (dchkIn_any _ _ i _ _ ps (by go_simp) (HS.out.below (bstep (balloc _ _) (balloc _ _))) HL.out).mono ?_; rintro e w1 ⟨rfl, hb1⟩; rw [HR.out]; dsimp only)
    obtain ⟨c0, c1, c2, c3, hbw, hz⟩ := oneBox hb1
    have Hbw := hideO hbw
    have hz' : w.heap.size < w1.heap.size := by omega
    clear hb1 HR c3 hz
    by_cases h3 : ps.length = 2
    · obtain ⟨b, o, hab, e0⟩ := (HS.out.below hbw).at (j := 0) (by omega)
      obtain ⟨b', o', hab', e1⟩ := (HS.out.below hbw).at (j := 1) (by omega)
      rw [hab] at hab'
      cases hab'
      subst hab
      rw [Nat.add_zero] at e0
      have t2 : ((ps.length : Int) == 2) = true := by simp; omega
      have i1 : (0 : Int) < (ps.length : Int) := by omega
      have i2 : (1 : Int) < (ps.length : Int) := by omega
      have i3 : 0 < ps.length := by omega
      have i4 : 1 < ps.length := by omega
      have htw : Hid (twinB ps = (ps[0] == ps[1])) := dtwin_at h3
      generalize ps[0] = p at *
      generalize ps[1] = q at *
      clear h3 hbw
      cases hpq : (p == q) with
      | true =>
        have hf : Hid (v = errV 7) := by show _ = _; rw [HV3.out, htw.out, hpq]; rfl
        clear HV3 htw
        go_wp2_with fail
        go_quiet (fail)
        go_wp2_with fail
        go_ret
        exact ⟨by rw [hf.out]; rfl, Hbw.out.trans ⟨rfl, rfl, rfl, Nat.le_refl _, fun _ _ => rfl⟩⟩
      | false =>
        have HV4 : Hid (v = errV (if okM ms = true then (if ly < 1 ∨ 300 < ly then 1 else 0) else 2)) := by show _ = _; rw [HV3.out, htw.out, hpq]; rfl
        clear HV3 htw
        go_wp2_with fail
        go_quiet (fail)
        have hbq : Hid (RowKit.Below w.heap.size w (w1.drewN nq)) := Hbw.out.trans ⟨rfl, rfl, rfl, Nat.le_refl _, fun _ _ => rfl⟩
        cases hok : okM ms with
        | false =>
          have hf : Hid (v = errV 2) := by show _ = _; rw [HV4.out, hok]; rfl
          clear HV4
          go_wp2_with (go_at_call 21; refine (dmsg_any ms _ HM.out).mono ?_; rintro e w2 ⟨rfl, hb2⟩; rw [hok]; dsimp only)
          go_ret
          exact ⟨by rw [hf.out]; rfl, bstep hbq.out hb2⟩
        | true =>
          have HV5 : Hid (v = errV (if ly < 1 ∨ 300 < ly then 1 else 0)) := by show _ = _; rw [HV4.out, hok]; rfl
          clear HV4
          by_cases h5 : ly < 1
          · have hf : Hid (v = errV 1) := by show _ = _; rw [HV5.out, if_pos (Or.inl h5)]
            clear HV5
            go_wp2_with (go_at_call 21; refine (dmsg_any ms _ HM.out).mono ?_; rintro e w2 ⟨rfl, hb2⟩; rw [hok]; dsimp only; have k1 := ((bcell hb2).1 _ 1 hz').trans c1)
            go_ret
            exact ⟨by rw [hf.out]; rfl, bstep hbq.out hb2⟩
          · by_cases h6 : 300 < ly
            · have hf : Hid (v = errV 1) := by show _ = _; rw [HV5.out, if_pos (Or.inr h6)]
              clear HV5
              go_wp2_with (go_at_call 21; refine (dmsg_any ms _ HM.out).mono ?_; rintro e w2 ⟨rfl, hb2⟩; rw [hok]; dsimp only; have k1 := ((bcell hb2).1 _ 1 hz').trans c1)
              go_ret
              exact ⟨by rw [hf.out]; rfl, bstep hbq.out hb2⟩
            · have hf : Hid (v = errV 0) := by show _ = _; rw [HV5.out, if_neg (by omega)]
              clear HV5
              go_wp2_with (go_at_call 21; refine (dmsg_any ms _ HM.out).mono ?_; rintro e w2 ⟨rfl, hb2⟩; rw [hok]; dsimp only; have k1 := ((bcell hb2).1 _ 1 hz').trans c1)
              go_ret
              exact ⟨by rw [hf.out]; rfl, bstep hbq.out hb2⟩
    · have t2 : ((ps.length : Int) == 2) = false := by simp; omega
      have HV4 : Hid (v = errV (if okM ms = true then (if ly < 1 ∨ 300 < ly then 1 else 0) else 2)) := by show _ = _; rw [HV3.out, dtwin_not h3]; rfl
      clear HV3 h3 hbw
      go_wp2_with fail
      go_quiet (fail)
      have hbq : Hid (RowKit.Below w.heap.size w (w1.drewN nq)) := Hbw.out.trans ⟨rfl, rfl, rfl, Nat.le_refl _, fun _ _ => rfl⟩
      cases hok : okM ms with
      | false =>
        have hf : Hid (v = errV 2) := by show _ = _; rw [HV4.out, hok]; rfl
        clear HV4
        go_wp2_with (go_at_call 21; refine (dmsg_any ms _ HM.out).mono ?_; rintro e w2 ⟨rfl, hb2⟩; rw [hok]; dsimp only)
        go_ret
        exact ⟨by rw [hf.out]; rfl, bstep hbq.out hb2⟩
      | true =>
        have HV5 : Hid (v = errV (if ly < 1 ∨ 300 < ly then 1 else 0)) := by show _ = _; rw [HV4.out, hok]; rfl
        clear HV4
        by_cases h5 : ly < 1
        · have hf : Hid (v = errV 1) := by show _ = _; rw [HV5.out, if_pos (Or.inl h5)]
          clear HV5
          go_wp2_with (go_at_call 21; refine (dmsg_any ms _ HM.out).mono ?_; rintro e w2 ⟨rfl, hb2⟩; rw [hok]; dsimp only; have k1 := ((bcell hb2).1 _ 1 hz').trans c1)
          go_ret
          exact ⟨by rw [hf.out]; rfl, bstep hbq.out hb2⟩
        · by_cases h6 : 300 < ly
          · have hf : Hid (v = errV 1) := by show _ = _; rw [HV5.out, if_pos (Or.inr h6)]
            clear HV5
            go_wp2_with (go_at_call 21; refine (dmsg_any ms _ HM.out).mono ?_; rintro e w2 ⟨rfl, hb2⟩; rw [hok]; dsimp only; have k1 := ((bcell hb2).1 _ 1 hz').trans c1)
            go_ret
            exact ⟨by rw [hf.out]; rfl, bstep hbq.out hb2⟩
          · have hf : Hid (v = errV 0) := by show _ = _; rw [HV5.out, if_neg (by omega)]
            clear HV5
            go_wp2_with (go_at_call 21; refine (dmsg_any ms _ HM.out).mono ?_; rintro e w2 ⟨rfl, hb2⟩; rw [hok]; dsimp only; have k1 := ((bcell hb2).1 _ 1 hz').trans c1)
            go_ret
            exact ⟨by rw [hf.out]; rfl, bstep hbq.out hb2⟩

theorem errV_some {n : Int} (h : n ≠ 0) : errV n = .iface 40 (.int .i64 n) := by unfold errV; rw [if_neg h]
set_option maxHeartbeats 8000000 in
set_option maxRecDepth 100000 in
theorem DCheck_any (w : World) (ad : Option Addr) (ca : Nat) (l : List Cm) (h : ComsOK w ad ca l) :
    Calls Try.prog 14 #[.slice ad l.length ca] w fun e w' => e = .returned (.tuple #[.int .i64 ((comsN l).1 : Int), errV (comsN l).2]) ∧ RowKit.Below w.heap.size w w' := by
  have H := hideO h
  have hmx : (l.length : Int) ≤ 9223372036854775807 := by have := h.len; unfold maxLen at this; omega
  clear h
  obtain ⟨v, hv⟩ : ∃ v, Value.tuple #[.int .i64 ((comsN l).1 : Int), errV (comsN l).2] = v := ⟨_, rfl⟩
  rw [hv]
  have HV := hideO hv
  clear hv
  by_cases h60 : 60 < l.length
  · have hf : Hid (v = .tuple #[.int .i64 0, errV 4]) := by show _ = _; rw [← HV.out]; unfold comsN; rw [if_pos h60]; rfl
    have j1 : (60 : Int) < (l.length : Int) := by omega
    go_enter Try.func14, Try.ntmps14
    go_wp2_with fail
    exact bodyPost_ret (v := .tuple #[.int .i64 0, .iface 40 (.int .i64 4)]) (by simp [results, Try.results14, go_sem]) rfl ⟨by rw [hf.out]; rfl, RowKit.Below.refl _ _⟩
  have j1 : ¬ (60 : Int) < (l.length : Int) := by omega
  have HV2 : Hid (v = .tuple #[.int .i64 ((firstC l 0).1 : Int), errV (firstC l 0).2]) := by show _ = _; rw [← HV.out]; unfold comsN; rw [if_neg h60]
  clear HV h60
  go_enter Try.func14, Try.ntmps14
  go_wp2_with fail
  go_loopw [13] (fun i wr => ∃ (k : Nat), k ≤ l.length ∧ i = .int .i64 k ∧ RowKit.Below w.heap.size w wr ∧ Hid (∀ (j : Nat) (hj : j < l.length), j < k → comN l[j] j = 0)) (fun i wr => l.length - (intOf i).toNat)
  case atStart => exact ⟨0, Nat.zero_le _, rfl, RowKit.Below.refl _ w, fun j hj h0 => by omega⟩
  case round =>
    obtain ⟨k, hk, rfl, hbr, hall⟩ := hrel
    by_cases hlt : k < l.length
    · obtain ⟨b, o, a, c, rfl, c0, c1, c2, hsp⟩ := (H.out.sl.below hbr).at hlt
      have i0 : (0 : Int) ≤ (k : Int) := by omega
      have i1 : (k : Int) < (l.length : Int) := by omega
      have hcall : Hid (∀ W, RowKit.Below wr.heap.size wr W → Calls Try.prog 19 #[.agg #[.slice a l[k].1.length c, .int .i64 l[k].2.1, .string ⟨l[k].2.2.toArray⟩], .int .i64 (k : Int)] W fun e w' => e = .returned (errV (comN l[k] k)) ∧ RowKit.Below W.heap.size W w') := fun W hW =>
        dchkOne_any W a c l[k].1 l[k].2.1 l[k].2.2 k (hsp.below hW) (H.out.pars _ (List.getElem_mem hlt)) (H.out.msg _ (List.getElem_mem hlt))
      have HN : Hid (comN l[k] k = 0 → ∀ (j : Nat) (hj : j < l.length), j < k + 1 → comN l[j] j = 0) := fun e j hj h1 => by
        by_cases ej : j = k
        · subst ej; exact e
        · exact hall.out j hj (by omega)
      have HF : Hid (comN l[k] k ≠ 0 → v = .tuple #[.int .i64 (k : Int), errV (comN l[k] k)]) := fun e => by
        rw [HV2.out, firstC_at hlt (fun j hj => by simpa using hall.out j (by omega) hj) (by simpa using e)]
        simp
      clear hsp hall
      generalize l[k].1.length = n0 at *
      generalize l[k].2.1 = ly at *
      generalize l[k].2.2.toArray = ms at *
      generalize comN l[k] k = nn at *
      by_cases hnn : nn = 0
      · subst hnn
        have hnext := hideO (HN.out rfl)
        clear HN HF
        go_wp2_with (go_at_call 19; refine (hcall.out _ (balloc _ _)).mono ?_; rintro e w1 ⟨rfl, hb1⟩; rw [show errV 0 = Value.nilIface from rfl]; dsimp only)
        go_roundw
        case rel => exact ⟨k + 1, by omega, by go_num, bstep hbr (bstep (balloc _ _) hb1), hnext⟩
        case measure => simp [intOf]; omega
      · have hf := hideO (HF.out hnn)
        have hev := hideO (errV_some hnn)
        clear HN HF hnn
        go_wp2_with (go_at_call 19; refine (hcall.out _ (balloc _ _)).mono ?_; rintro e w1 ⟨rfl, hb1⟩; rw [hev.out]; dsimp only)
        exact bodyPost_ret (v := .tuple #[.int .i64 (k : Int), .iface 40 (.int .i64 nn)]) (by simp [results, Try.results14, go_sem]) rfl ⟨by rw [hf.out, hev.out], bstep hbr (bstep (balloc _ _) hb1)⟩
    · have hkk : k = l.length := by omega
      have hyes : Hid (v = .tuple #[.int .i64 0, errV 0]) := by
        show _ = _
        rw [HV2.out, firstC_none fun j hj => by simpa using hall.out j hj (by omega)]
        rfl
      subst hkk
      clear hall
      go_wp2_with fail
      exact bodyPost_ret (v := .tuple #[.int .i64 0, .nilIface]) (by simp [results, Try.results14, go_sem]) rfl ⟨by rw [hyes.out]; rfl, hbr⟩

theorem dall1_any (W : World) (B : Nat) (ad : Option Addr) (n ca : Nat) (x : Int) (hB : W.cell? ⟨B, 0, none⟩ = some (.slice ad n ca)) :
    Calls Try.prog 15 #[.int .i64 x, .pointer (some ⟨B, 0, none⟩)] W fun e w' => e = .returned (.bool (decide (x < 0 ∨ (n : Int) ≤ x))) ∧ RowKit.Below W.heap.size W w' := by
  by_cases h1 : x < 0
  all_goals
    go_enter Try.func15, Try.ntmps15
    go_wp2
    go_ret
    exact ⟨ret_bool (by rw [Bool.eq_iff_iff]; simp; omega), RowKit.Below.refl _ _⟩
theorem dallIn_any (W : World) (B : Nat) (al : Option Addr) (n cl : Nat) (ad : Option Addr) (ca : Nat) (ids : List Int) (hB : W.cell? ⟨B, 0, none⟩ = some (.slice al n cl)) (hs : SlI W ad ids) (hl : ids.length ≤ maxLen) :
    Calls Try.prog 11 #[.slice ad ids.length ca, .func (.func 15) #[] #[.pointer (some ⟨B, 0, none⟩)]] W fun e w' => e = .returned (.bool (!rangeB ids n)) ∧ RowKit.Below W.heap.size W w' := by
  have eg : ∀ args w, (callFunc 15 args).run Try.prog w = .ok (.enter 15 args) w := enters_of Try.func15 (by kernel_rfl) rfl
  have := DContains_any 15 #[.pointer (some ⟨B, 0, none⟩)] (fun _ => True) (fun x => decide (x < 0 ∨ (n : Int) ≤ x)) W ad ca ids eg (fun W' x hW _ => dall1_any W' B al n cl x ((hW.cell (World.block_lt_of_cell? W _ hB)).trans hB)) (fun _ _ => trivial) hs (by unfold maxLen at hl; omega)
  rw [range_any] at this
  exact this
def allE (l : List Cm) (ids : List Int) : Int := if (comsN l).2 ≠ 0 then (comsN l).2 else if rangeB ids l.length = true then 0 else 1
theorem oneSl {w W : World} {T : TypeId} {a0 : Value} (hb : RowKit.Below (w.alloc (.cells #[a0] T)).heap.size (w.alloc (.cells #[a0] T)) W) :
    W.cell? ⟨w.heap.size, 0, none⟩ = some a0 ∧ RowKit.Below w.heap.size w W := by
  obtain ⟨h, _⟩ := bcell hb
  refine ⟨?_, bstep (balloc _ _) hb⟩
  rw [h] <;> first | go_simp | (simp <;> omega)
set_option maxHeartbeats 4000000 in
set_option maxRecDepth 100000 in
theorem DAll_any (w : World) (ad : Option Addr) (ca : Nat) (l : List Cm) (ai : Option Addr) (ci : Nat) (ids : List Int) (h : ComsOK w ad ca l) (hs : SlI w ai ids) (hl : ids.length ≤ maxLen) :
    Calls Try.prog 6 #[.slice ad l.length ca, .slice ai ids.length ci] w fun e w' => e = .returned (errV (allE l ids)) ∧ RowKit.Below w.heap.size w w' := by
  have hc := DCheck_any
  have H := hideO h
  have HS := hideO hs
  have HL := hideO hl
  clear h hs hl hc
  obtain ⟨v, hv⟩ : ∃ v, errV (allE l ids) = v := ⟨_, rfl⟩
  rw [hv]
  have HV := hideO hv
  clear hv
  by_cases hnn : (comsN l).2 = 0
  · have HV2 : Hid (v = errV (if rangeB ids l.length = true then 0 else 1)) := by show _ = _; rw [← HV.out]; unfold allE; rw [if_neg (by simp [hnn])]
    have HN := hideO hnn
    clear HV hnn
    cases hr : rangeB ids l.length with
    | true =>
      have hf : Hid (v = errV 0) := by show _ = _; rw [HV2.out, hr]; rfl
      clear HV2
      go_enter Try.func6, Try.ntmps6
      go_wp2_with (go_at_call 14; refine (DCheck_any _ _ _ l (H.out.below (balloc _ _))).mono ?_; rintro e w1 ⟨rfl, hb1⟩; rw [HN.out, show errV 0 = Value.nilIface from rfl]; dsimp only)
      obtain ⟨c0, hbw⟩ := oneSl hb1
      clear hb1
      go_wp2_with (go_at_call 11; refine (dallIn_any _ _ _ _ _ _ _ ids c0 (HS.out.below hbw) HL.out).mono ?_; rintro e w2 ⟨rfl, hb2⟩; rw [hr]; dsimp only)
      go_ret
      exact ⟨by rw [hf.out]; rfl, bstep hbw hb2⟩
    | false =>
      have hf : Hid (v = errV 1) := by show _ = _; rw [HV2.out, hr]; rfl
      clear HV2
      go_enter Try.func6, Try.ntmps6
      go_wp2_with (go_at_call 14; refine (DCheck_any _ _ _ l (H.out.below (balloc _ _))).mono ?_; rintro e w1 ⟨rfl, hb1⟩; rw [HN.out, show errV 0 = Value.nilIface from rfl]; dsimp only)
      obtain ⟨c0, hbw⟩ := oneSl hb1
      clear hb1
      go_wp2_with (go_at_call 11; refine (dallIn_any _ _ _ _ _ _ _ ids c0 (HS.out.below hbw) HL.out).mono ?_; rintro e w2 ⟨rfl, hb2⟩; rw [hr]; dsimp only)
      go_ret
      exact ⟨by rw [hf.out]; rfl, bstep hbw hb2⟩
  · have hf : Hid (v = errV (comsN l).2) := by show _ = _; rw [← HV.out]; unfold allE; rw [if_pos hnn]
    have hev := hideO (errV_some hnn)
    clear HV hnn
    go_enter Try.func6, Try.ntmps6
    go_wp2_with (go_at_call 14; refine (DCheck_any _ _ _ l (H.out.below (balloc _ _))).mono ?_; rintro e w1 ⟨rfl, hb1⟩; rw [hev.out]; dsimp only)
    go_ret
    exact ⟨by rw [hf.out, hev.out]; rfl, bstep (balloc _ _) hb1⟩
end Go.Proofs.Ytackdedbphfaeaf
