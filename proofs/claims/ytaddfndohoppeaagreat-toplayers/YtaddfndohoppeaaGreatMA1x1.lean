import Derived.Test.YtaddfndohoppeaaGreatMA1x0
import Derived.Laws.IdiomStrings
import Derived.BigQuiet
import Derived.Deep.QuietTactic
import Derived.Test.YtaddfndohoppeaaGreatMA0x5
import Derived.Deep.AppendLies
import Derived.Deep.RegionLaw

/- slices.ContainsFunc at numbers and at bytes, with whatever test; slices.Contains at numbers. -/
namespace Go.Proofs.YtaddfndohoppeaaGreat
open Go Go.RowKit Go.Proofs
set_option synthInstance.maxSize 1000

/-- what is asked of a test: at every number of D it tells p, and leaves what lay there -/
def PredI (g : Nat) (lb : Array Value) (D : Int → Prop) (p : Int → Bool) (w : World) : Prop :=
  ∀ (W : World) (x : Int), RowKit.Below w.heap.size w W → D x → Calls Tryz.prog g (#[.int .i64 x] ++ lb) W fun e w' => e = .returned (.bool (p x)) ∧ RowKit.Below W.heap.size W w'
theorem PredI.below {g : Nat} {lb : Array Value} {D : Int → Prop} {p : Int → Bool} {w w1 : World} (h : PredI g lb D p w) (hb : RowKit.Below w.heap.size w w1) : PredI g lb D p w1 :=
  fun W x hW hx => h W x (hb.trans (hW.mono hb.size)) hx
theorem any_hit {ids : List Int} {p : Int → Bool} {k : Nat} (hk : k < ids.length) (h : p ids[k] = true) : ids.any p = true := by
  rw [List.any_eq_true]
  exact ⟨_, List.getElem_mem hk, h⟩
theorem any_miss {ids : List Int} {p : Int → Bool} (h : ∀ (j : Nat) (hj : j < ids.length), p ids[j] = false) : ids.any p = false := by
  rw [List.any_eq_false]
  intro x hx
  obtain ⟨j, hj, rfl⟩ := List.getElem_of_mem hx
  rw [h j hj]
  simp

set_option maxHeartbeats 4000000 in
set_option maxRecDepth 100000 in
theorem DIndex_any (g : Nat) (lb : Array Value) (D : Int → Prop) (p : Int → Bool) (w : World) (ad : Option Addr) (ca : Nat) (ids : List Int) (eg : ∀ args w, (callFunc g args).run Tryz.prog w = .ok (.enter g args) w) (hp : PredI g lb D p w) (hD : ∀ x ∈ ids, D x) (hs : SlI w ad ids) (hl : ids.length ≤ 9223372036854775807) :
    Calls Tryz.prog 170 #[.slice ad ids.length ca, .func (.func g) #[] lb] w fun e w' => (∃ r : Int, e = .returned (.int .i64 r) ∧ decide (0 ≤ r) = ids.any p) ∧ RowKit.Below w.heap.size w w' := by
  have H : Hid (PredI g lb D p w) := hp
  have HD : Hid (∀ x ∈ ids, D x) := hD
  have HS : Hid (SlI w ad ids) := hs
  clear hp hD hs
  go_enter Tryz.func170, Tryz.ntmps170
  go_wp2_with fail
  go_loopw [8] (fun i wr => ∃ (k : Nat), k ≤ ids.length ∧ i = .int .i64 k ∧ RowKit.Below w.heap.size w wr ∧ Hid (∀ (j : Nat) (hj : j < ids.length), j < k → p ids[j] = false)) (fun i wr => ids.length - (intOf i).toNat)
  case atStart => exact ⟨0, Nat.zero_le _, rfl, RowKit.Below.refl _ w, fun j hj h0 => by omega⟩
  case round =>
    obtain ⟨k, hk, rfl, hbr, hall⟩ := hrel
    by_cases hlt : k < ids.length
    · obtain ⟨b, o, rfl, hc⟩ := (HS.out.below hbr).at hlt
      have hcall := H.out wr ids[k] hbr (HD.out _ (List.getElem_mem hlt))
      have i0 : (0 : Int) ≤ (k : Int) := by omega
      have i1 : (k : Int) < (ids.length : Int) := by omega
      have HV : Hid (∀ q, p ids[k] = q → (q = false → (∀ (j : Nat) (hj : j < ids.length), j < k + 1 → p ids[j] = false)) ∧ (q = true → ids.any p = true)) := by
        intro q hq
        refine ⟨fun e j hj h1 => ?_, fun e => any_hit hlt (hq.trans e)⟩
        by_cases ej : j = k
        · subst ej; exact hq.trans e
        · exact hall.out j hj (by omega)
      cases hq : p ids[k] with
      | false =>
        rw [hq] at hcall
        have hnext : Hid (∀ (j : Nat) (hj : j < ids.length), j < k + 1 → p ids[j] = false) := (HV.out _ hq).1 rfl
        clear HV hq hall
        generalize ids[k] = z at *
        go_wp2_with (go_at_fn g; refine hcall.mono ?_; rintro e w' ⟨rfl, hb'⟩; dsimp only)
        go_roundw
        case rel => exact ⟨k + 1, by omega, by go_num, bstep hbr hb', hnext⟩
        case measure => simp [intOf]; omega
      | true =>
        rw [hq] at hcall
        have hno2 : Hid (ids.any p = true) := (HV.out _ hq).2 rfl
        clear HV hq hall
        generalize ids[k] = z at *
        go_wp2_with (go_at_fn g; refine hcall.mono ?_; rintro e w' ⟨rfl, hb'⟩; dsimp only)
        go_ret
        exact ⟨⟨(k : Int), rfl, by rw [hno2.out]; simp⟩, bstep hbr hb'⟩
    · have hkk : k = ids.length := by omega
      have hyes : Hid (ids.any p = false) := any_miss fun j hj => hall.out j hj (by omega)
      subst hkk
      clear hall
      go_wp2_with fail
      go_ret
      exact ⟨⟨-1, rfl, by rw [hyes.out]; rfl⟩, hbr⟩

set_option maxHeartbeats 1000000 in
theorem DContains_any (g : Nat) (lb : Array Value) (D : Int → Prop) (p : Int → Bool) (w : World) (ad : Option Addr) (ca : Nat) (ids : List Int) (eg : ∀ args w, (callFunc g args).run Tryz.prog w = .ok (.enter g args) w) (hp : PredI g lb D p w) (hD : ∀ x ∈ ids, D x) (hs : SlI w ad ids) (hl : ids.length ≤ 9223372036854775807) :
    Calls Tryz.prog 129 #[.slice ad ids.length ca, .func (.func g) #[] lb] w fun e w' => e = .returned (.bool (ids.any p)) ∧ RowKit.Below w.heap.size w w' := by
  have hc := DIndex_any g lb D p w ad ca ids eg hp hD hs hl
  clear hp hD hs
  generalize ids.any p = q at *
  go_enter Tryz.func129, Tryz.ntmps129
  go_wp2_with (go_at_call 170; refine hc.mono ?_; rintro e w' ⟨⟨r, rfl, hr⟩, hb⟩; dsimp only; have hr2 : Hid _ := hr; clear hr)
  go_ret
  refine ⟨?_, hb⟩
  rw [← hr2.out]
  simp

/-- bytes in a block -/
def SlBy (w : World) (b : Nat) (l : List UInt8) : Prop := ∀ (j : Nat) (hj : j < l.length), w.cell? ⟨b, j, none⟩ = some (.int .u8 (l[j].toNat : Int))
set_option maxHeartbeats 4000000 in
set_option maxRecDepth 100000 in
theorem DIndexB_any (g : Nat) (p : Int → Bool) (w : World) (b : Nat) (ca : Nat) (l : List UInt8) (eg : ∀ args w, (callFunc g args).run Tryz.prog w = .ok (.enter g args) w) (hp : ∀ (n : Int) (w : World), Calls Tryz.prog g #[.int .u8 n] w fun e w' => e = .returned (.bool (p n)) ∧ w' = w) (hs : SlBy w b l) (hl : l.length ≤ 9223372036854775807) :
    Calls Tryz.prog 203 #[.slice (some ⟨b, 0, none⟩) l.length ca, .func (.func g) #[] #[]] w fun e w' => (∃ r : Int, e = .returned (.int .i64 r) ∧ decide (0 ≤ r) = l.any fun c => p (c.toNat : Int)) ∧ w' = w := by
  have H : Hid (∀ (n : Int) (w : World), Calls Tryz.prog g #[.int .u8 n] w fun e w' => e = .returned (.bool (p n)) ∧ w' = w) := hp
  have HS : Hid (SlBy w b l) := hs
  clear hp hs
  go_enter Tryz.func203, Tryz.ntmps203
  go_wp2_with fail
  go_loopw [8] (fun i wr => ∃ (k : Nat), k ≤ l.length ∧ i = .int .i64 k ∧ wr = w ∧ Hid (∀ (j : Nat) (hj : j < l.length), j < k → p (l[j].toNat : Int) = false)) (fun i wr => l.length - (intOf i).toNat)
  case atStart => exact ⟨0, Nat.zero_le _, rfl, rfl, fun j hj h0 => by omega⟩
  case round =>
    obtain ⟨k, hk, rfl, hw, hall⟩ := hrel
    obtain rfl : w = wr := hw.symm
    by_cases hlt : k < l.length
    · have hc := HS.out k hlt
      have i0 : (0 : Int) ≤ (k : Int) := by omega
      have i1 : (k : Int) < (l.length : Int) := by omega
      have hcall := H.out (l[k].toNat : Int) w
      have HV : Hid (∀ q, p (l[k].toNat : Int) = q → (q = false → (∀ (j : Nat) (hj : j < l.length), j < k + 1 → p (l[j].toNat : Int) = false)) ∧ (q = true → (l.any fun c => p (c.toNat : Int)) = true)) := by
        intro q hq
        refine ⟨fun e j hj h1 => ?_, fun e => ?_⟩
        · by_cases ej : j = k
          · subst ej; exact hq.trans e
          · exact hall.out j hj (by omega)
        · rw [List.any_eq_true]
          exact ⟨_, List.getElem_mem hlt, hq.trans e⟩
      cases hq : p (l[k].toNat : Int) with
      | false =>
        rw [hq] at hcall
        have hnext : Hid (∀ (j : Nat) (hj : j < l.length), j < k + 1 → p (l[j].toNat : Int) = false) := (HV.out _ hq).1 rfl
        clear HV hq hall
        generalize (l[k].toNat : Int) = z at *
        go_wp2_with (go_at_fn g; refine hcall.mono ?_; rintro e w' ⟨rfl, hb'⟩; subst hb'; dsimp only)
        go_roundw
        case rel => exact ⟨k + 1, by omega, by go_num, by trivial, hnext⟩
        case measure => simp [intOf]; omega
      | true =>
        rw [hq] at hcall
        have hno2 : Hid ((l.any fun c => p (c.toNat : Int)) = true) := (HV.out _ hq).2 rfl
        clear HV hq hall
        generalize (l[k].toNat : Int) = z at *
        go_wp2_with (go_at_fn g; refine hcall.mono ?_; rintro e w' ⟨rfl, hb'⟩; subst hb'; dsimp only)
        go_ret
        exact ⟨⟨(k : Int), rfl, by rw [hno2.out]; simp⟩, rfl⟩
    · have hkk : k = l.length := by omega
      have hyes : Hid ((l.any fun c => p (c.toNat : Int)) = false) := by
        show _ = _
        rw [List.any_eq_false]
        intro x hx
        obtain ⟨j, hj, rfl⟩ := List.getElem_of_mem hx
        rw [hall.out j hj (by omega)]
        simp
      subst hkk
      clear hall
      go_wp2_with fail
      go_ret
      exact ⟨⟨-1, rfl, by rw [hyes.out]; rfl⟩, rfl⟩

set_option maxHeartbeats 1000000 in
theorem DContainsB_any (g : Nat) (p : Int → Bool) (w : World) (b : Nat) (ca : Nat) (l : List UInt8) (eg : ∀ args w, (callFunc g args).run Tryz.prog w = .ok (.enter g args) w) (hp : ∀ (n : Int) (w : World), Calls Tryz.prog g #[.int .u8 n] w fun e w' => e = .returned (.bool (p n)) ∧ w' = w) (hs : SlBy w b l) (hl : l.length ≤ 9223372036854775807) :
    Calls Tryz.prog 171 #[.slice (some ⟨b, 0, none⟩) l.length ca, .func (.func g) #[] #[]] w fun e w' => e = .returned (.bool (l.any fun c => p (c.toNat : Int))) ∧ w' = w := by
  have hc := DIndexB_any g p w b ca l eg hp hs hl
  clear hp hs
  generalize (l.any fun c => p (c.toNat : Int)) = q at *
  go_enter Tryz.func171, Tryz.ntmps171
  go_wp2_with (go_at_call 203; refine hc.mono ?_; rintro e w' ⟨⟨r, rfl, hr⟩, hb⟩; subst hb; dsimp only; have hr2 : Hid _ := hr; clear hr)
  go_ret
  refine ⟨?_, rfl⟩
  rw [← hr2.out]
  simp

end Go.Proofs.YtaddfndohoppeaaGreat

/- The program's dag: Check, checkAll. -/
namespace Go.Proofs.YtaddfndohoppeaaGreat
open Go Go.RowKit Go.Proofs
set_option synthInstance.maxSize 1000

theorem dmsg1_any (n : Int) (w : World) :
    Calls Tryz.prog 172 #[.int .u8 n] w fun e w' => e = .returned (.bool (decide (n < 32 ∨ 126 < n))) ∧ w' = w := by
  by_cases h1 : n < 32
  all_goals
    go_enter Tryz.func172, Tryz.ntmps172
    go_wp2
    go_ret
    exact ⟨ret_bool (by rw [Bool.eq_iff_iff]; simp; omega), rfl⟩
theorem okM_any (l : List UInt8) : okM l = !(l.any fun c => decide ((c.toNat : Int) < 32 ∨ 126 < (c.toNat : Int))) := by
  unfold okM
  rw [List.not_any_eq_all_not]
  congr 1
  funext c
  rw [Bool.eq_iff_iff]
  simp
  omega
theorem dbytes_of (l : List UInt8) (w1 : World) : ∃ cap w2, (convert 9 136 (.string ⟨l.toArray⟩)).run Tryz.prog w1 = .ok (.slice (some ⟨w1.heap.size, 0, none⟩) l.length cap) w2 ∧ RowKit.Below w1.heap.size w1 w2 ∧ SlBy w2 w1.heap.size l := by
  refine ⟨_, _, run_bytes_of_string (P := Tryz.prog) w1 9 136 5 ⟨l.toArray⟩ Tryz.underlying9 Tryz.underlying136 (by kernel_rfl), (RowKit.Below.refl _ w1).drew.alloc (Nat.le_refl _) _, fun j hj => ?_⟩
  exact (World.cell?_alloc_mark w1.drew _ _ _ j).trans (bytesRow_at ⟨l.toArray⟩ _ j hj)
set_option maxHeartbeats 1000000 in
theorem dmsg_any (l : List UInt8) (w : World) (hl : l.length ≤ maxLen) :
    Calls Tryz.prog 131 #[.string ⟨l.toArray⟩] w fun e w' => e = .returned (.bool (okM l)) ∧ RowKit.Below w.heap.size w w' := by
  have eg : ∀ args w, (callFunc 172 args).run Tryz.prog w = .ok (.enter 172 args) w := enters_of Tryz.func172 (by kernel_rfl) rfl
  obtain ⟨cap, w2, hrun, hb2, hs2⟩ := dbytes_of l w
  have hc := DContainsB_any 172 (fun n => decide (n < 32 ∨ 126 < n)) w2 w.heap.size cap l eg dmsg1_any hs2 (by unfold maxLen at hl; omega)
  have hf := hideO (okM_any l)
  have hb := hideO hb2
  generalize (l.any fun c => decide ((c.toNat : Int) < 32 ∨ 126 < (c.toNat : Int))) = q at *
  clear hs2 hb2
  go_enter Tryz.func131, Tryz.ntmps131
  go_wp2_with (go_at_call 171; refine hc.mono ?_; rintro e w' ⟨rfl, hw⟩; subst hw; dsimp only)
  go_ret
  exact ⟨ret_bool (by rw [hf.out]), hb.out⟩

theorem dchk1_any (W : World) (B : Nat) (x i : Int) (hB : W.cell? ⟨B, 0, none⟩ = some (.int .i64 i)) :
    Calls Tryz.prog 130 #[.int .i64 x, .pointer (some ⟨B, 0, none⟩)] W fun e w' => e = .returned (.bool (decide (x < 0 ∨ i ≤ x))) ∧ RowKit.Below W.heap.size W w' := by
  by_cases h1 : x < 0
  all_goals
    go_enter Tryz.func130, Tryz.ntmps130
    go_wp2
    go_ret
    exact ⟨ret_bool (by rw [Bool.eq_iff_iff]; simp; omega), RowKit.Below.refl _ _⟩
theorem range_any (ids : List Int) (i : Nat) : (ids.any fun x => decide (x < 0 ∨ (i : Int) ≤ x)) = !rangeB ids i := by
  unfold rangeB
  rw [List.not_all_eq_any_not]
  congr 1
  funext x
  rw [Bool.eq_iff_iff]
  simp
theorem dchkIn_any (W : World) (B : Nat) (i : Nat) (ad : Option Addr) (ca : Nat) (ids : List Int) (hB : W.cell? ⟨B, 0, none⟩ = some (.int .i64 (i : Int))) (hs : SlI W ad ids) (hl : ids.length ≤ maxLen) :
    Calls Tryz.prog 129 #[.slice ad ids.length ca, .func (.func 130) #[] #[.pointer (some ⟨B, 0, none⟩)]] W fun e w' => e = .returned (.bool (!rangeB ids i)) ∧ RowKit.Below W.heap.size W w' := by
  have eg : ∀ args w, (callFunc 130 args).run Tryz.prog w = .ok (.enter 130 args) w := enters_of Tryz.func130 (by kernel_rfl) rfl
  have := DContains_any 130 #[.pointer (some ⟨B, 0, none⟩)] (fun _ => True) (fun x => decide (x < 0 ∨ (i : Int) ≤ x)) W ad ca ids eg (fun W' x hW _ => dchk1_any W' B x i ((hW.cell (World.block_lt_of_cell? W _ hB)).trans hB)) (fun _ _ => trivial) hs (by unfold maxLen at hl; omega)
  rw [range_any] at this
  exact this
theorem oneBox {w W : World} {T T2 : TypeId} {a0 a1 a2 b0 : Value}
    (hb : RowKit.Below ((w.alloc (.cells #[a0, a1, a2] T)).alloc (.cells #[b0] T2)).heap.size ((w.alloc (.cells #[a0, a1, a2] T)).alloc (.cells #[b0] T2)) W) :
    W.cell? ⟨w.heap.size, 0, none⟩ = some a0 ∧ W.cell? ⟨w.heap.size, 1, none⟩ = some a1 ∧ W.cell? ⟨w.heap.size, 2, none⟩ = some a2 ∧ W.cell? ⟨w.heap.size + 1, 0, none⟩ = some b0 ∧ RowKit.Below w.heap.size w W ∧ w.heap.size + 1 < W.heap.size := by
  obtain ⟨h, _⟩ := bcell hb
  have hs := hb.size
  refine ⟨?_, ?_, ?_, ?_, bstep (bstep (balloc _ _) (balloc _ _)) hb, by simp at hs; omega⟩
  all_goals rw [h] <;> first | go_simp | (simp <;> omega)
theorem dtwin_two (p q : Int) : twinB [p, q] = decide (p = q) := rfl
theorem dtwin_eq (p q : Int) : twinB [p, q] = (p == q) := by
  rw [dtwin_two, Bool.eq_iff_iff]
  simp
theorem dtwin_at {ps : List Int} (h : ps.length = 2) : twinB ps = (ps[0] == ps[1]) := by
  match ps, h with
  | [p, q], _ => exact dtwin_eq p q
theorem dtwin_not {ps : List Int} (h : ps.length ≠ 2) : twinB ps = false := by
  unfold twinB
  split
  · simp at h
  · rfl

set_option maxHeartbeats 8000000 in
set_option maxRecDepth 100000 in
theorem dchkOne_any (w : World) (a : Option Addr) (ca : Nat) (ps : List Int) (ly : Int) (ms : List UInt8) (i : Nat) (hs : SlI w a ps) (hl : ps.length ≤ maxLen) (hm : ms.length ≤ maxLen) :
    Calls Tryz.prog 84 #[.agg #[.slice a ps.length ca, .int .i64 ly, .string ⟨ms.toArray⟩], .int .i64 (i : Int)] w fun e w' => e = .returned (errV (comN (ps, ly, ms) i)) ∧ RowKit.Below w.heap.size w w' := by
  obtain ⟨v, hv⟩ : ∃ v, errV (comN (ps, ly, ms) i) = v := ⟨_, rfl⟩
  rw [hv]
  have HV := hideO hv
  have HS := hideO hs
  have HM := hideO hm
  have HL := hideO hl
  clear hv hs hm hl
  have hmx : (ps.length : Int) ≤ 9223372036854775807 ∧ (ms.length : Int) ≤ 9223372036854775807 := by
    have h1 := HL.out
    have h2 := HM.out
    unfold maxLen at h1 h2
    omega
  obtain ⟨hmx1, hmx2⟩ := hmx
  by_cases h1 : 2 < ps.length
  · have hf : Hid (v = errV 4) := by show _ = _; rw [← HV.out]; unfold comN; rw [if_pos (Or.inl h1)]
    have j1 : (2 : Int) < (ps.length : Int) := by omega
    go_enter Tryz.func84, Tryz.ntmps84
    go_wp2_with fail
    go_ret
    exact ⟨by rw [hf.out]; rfl, bstep (balloc _ _) (balloc _ _)⟩
  have j1 : ¬ (2 : Int) < (ps.length : Int) := by omega
  by_cases h2 : 24 < ms.length
  · have hf : Hid (v = errV 4) := by show _ = _; rw [← HV.out]; unfold comN; rw [if_pos (Or.inr (by show msgN ms = 4; unfold msgN; rw [if_pos h2]))]
    have j2 : (24 : Int) < (ms.length : Int) := by omega
    go_enter Tryz.func84, Tryz.ntmps84
    go_wp2_with fail
    go_ret
    exact ⟨by rw [hf.out]; rfl, bstep (balloc _ _) (balloc _ _)⟩
  have j2 : ¬ (24 : Int) < (ms.length : Int) := by omega
  have hmsg : msgN ms = if okM ms = true then 0 else 2 := by unfold msgN; rw [if_neg h2]
  have hne4 : ¬ (2 < ps.length ∨ msgN ms = 4) := by
    rw [hmsg]
    rintro (h | h)
    · exact h1 h
    · split at h <;> cases h
  have HV2 : Hid (v = errV (if rangeB ps i = false then 1 else if twinB ps = true then 7 else if okM ms = true then (if ly < 1 ∨ 300 < ly then 1 else 0) else 2)) := by
    show _ = _
    rw [← HV.out]
    unfold comN
    rw [if_neg hne4]
    dsimp only
    rw [hmsg]
    cases okM ms <;> simp
  clear HV hmsg hne4 h1 h2
  cases hr : rangeB ps i with
  | false =>
    have hf : Hid (v = errV 1) := by show _ = _; rw [HV2.out, hr]; rfl
    go_enter Tryz.func84, Tryz.ntmps84
    go_wp2_with (go_at_call 129; refine (dchkIn_any _ _ i _ _ ps (by go_simp) (HS.out.below (bstep (balloc _ _) (balloc _ _))) HL.out).mono ?_; rintro e w1 ⟨rfl, hb1⟩; rw [hr]; dsimp only)
    go_ret
    exact ⟨by rw [hf.out]; rfl, bstep (bstep (balloc _ _) (balloc _ _)) hb1⟩
  | true =>
    have HV3 : Hid (v = errV (if twinB ps = true then 7 else if okM ms = true then (if ly < 1 ∨ 300 < ly then 1 else 0) else 2)) := by show _ = _; rw [HV2.out, hr]; rfl
    clear HV2
    have HR := hideO hr
    clear hr
    go_enter Tryz.func84, Tryz.ntmps84
    go_wp2_with (go_at_call 129; refine (dchkIn_any _ _ i _ _ ps (by go_simp) (HS.out.below (bstep (balloc _ _) (balloc _ _))) HL.out).mono ?_; rintro e w1 ⟨rfl, hb1⟩; rw [HR.out]; dsimp only)
    obtain ⟨c0, c1, c2, c3, hbw, hz⟩ := oneBox hb1
    have Hbw := hideO hbw
    have hz' : w.heap.size < w1.heap.size := by omega
    clear hb1 HR c3 hz
    by_cases h3 : ps.length = 2
    · obtain ⟨b, o, hab, e0⟩ := (HS.out.below hbw).at (j := 0) (by omega)
      obtain ⟨b', o', hab', e1⟩ := (HS.out.below hbw).at (j := 1) (by omega)
      rw [hab] at hab'
      cases hab'
      subst hab
      rw [Nat.add_zero] at e0
      have t2 : ((ps.length : Int) == 2) = true := by simp; omega
      have i1 : (0 : Int) < (ps.length : Int) := by omega
      have i2 : (1 : Int) < (ps.length : Int) := by omega
      have i3 : 0 < ps.length := by omega
      have i4 : 1 < ps.length := by omega
      have htw : Hid (twinB ps = (ps[0] == ps[1])) := dtwin_at h3
      generalize ps[0] = p at *
      generalize ps[1] = q at *
      clear h3 hbw
      cases hpq : (p == q) with
      | true =>
        have hf : Hid (v = errV 7) := by show _ = _; rw [HV3.out, htw.out, hpq]; rfl
        clear HV3 htw
        go_wp2_with fail
        go_quiet (fail)
        go_wp2_with fail
        go_ret
        exact ⟨by rw [hf.out]; rfl, Hbw.out.trans ⟨rfl, rfl, rfl, Nat.le_refl _, fun _ _ => rfl⟩⟩
      | false =>
        have HV4 : Hid (v = errV (if okM ms = true then (if ly < 1 ∨ 300 < ly then 1 else 0) else 2)) := by show _ = _; rw [HV3.out, htw.out, hpq]; rfl
        clear HV3 htw
        go_wp2_with fail
        go_quiet (fail)
        have hbq : Hid (RowKit.Below w.heap.size w (w1.drewN nq)) := Hbw.out.trans ⟨rfl, rfl, rfl, Nat.le_refl _, fun _ _ => rfl⟩
        cases hok : okM ms with
        | false =>
          have hf : Hid (v = errV 2) := by show _ = _; rw [HV4.out, hok]; rfl
          clear HV4
          go_wp2_with (go_at_call 131; refine (dmsg_any ms _ HM.out).mono ?_; rintro e w2 ⟨rfl, hb2⟩; rw [hok]; dsimp only)
          go_ret
          exact ⟨by rw [hf.out]; rfl, bstep hbq.out hb2⟩
        | true =>
          have HV5 : Hid (v = errV (if ly < 1 ∨ 300 < ly then 1 else 0)) := by show _ = _; rw [HV4.out, hok]; rfl
          clear HV4
          by_cases h5 : ly < 1
          · have hf : Hid (v = errV 1) := by show _ = _; rw [HV5.out, if_pos (Or.inl h5)]
            clear HV5
            go_wp2_with (go_at_call 131; refine (dmsg_any ms _ HM.out).mono ?_; rintro e w2 ⟨rfl, hb2⟩; rw [hok]; dsimp only; have k1 := ((bcell hb2).1 _ 1 hz').trans c1)
            go_ret
            exact ⟨by rw [hf.out]; rfl, bstep hbq.out hb2⟩
          · by_cases h6 : 300 < ly
            · have hf : Hid (v = errV 1) := by show _ = _; rw [HV5.out, if_pos (Or.inr h6)]
              clear HV5
              go_wp2_with (go_at_call 131; refine (dmsg_any ms _ HM.out).mono ?_; rintro e w2 ⟨rfl, hb2⟩; rw [hok]; dsimp only; have k1 := ((bcell hb2).1 _ 1 hz').trans c1)
              go_ret
              exact ⟨by rw [hf.out]; rfl, bstep hbq.out hb2⟩
            · have hf : Hid (v = errV 0) := by show _ = _; rw [HV5.out, if_neg (by omega)]
              clear HV5
              go_wp2_with (go_at_call 131; refine (dmsg_any ms _ HM.out).mono ?_; rintro e w2 ⟨rfl, hb2⟩; rw [hok]; dsimp only; have k1 := ((bcell hb2).1 _ 1 hz').trans c1)
              go_ret
              exact ⟨by rw [hf.out]; rfl, bstep hbq.out hb2⟩
    · have t2 : ((ps.length : Int) == 2) = false := by simp; omega
      have HV4 : Hid (v = errV (if okM ms = true then (if ly < 1 ∨ 300 < ly then 1 else 0) else 2)) := by show _ = _; rw [HV3.out, dtwin_not h3]; rfl
      clear HV3 h3 hbw
      go_wp2_with fail
      go_quiet (fail)
      have hbq : Hid (RowKit.Below w.heap.size w (w1.drewN nq)) := Hbw.out.trans ⟨rfl, rfl, rfl, Nat.le_refl _, fun _ _ => rfl⟩
      cases hok : okM ms with
      | false =>
        have hf : Hid (v = errV 2) := by show _ = _; rw [HV4.out, hok]; rfl
        clear HV4
        go_wp2_with (go_at_call 131; refine (dmsg_any ms _ HM.out).mono ?_; rintro e w2 ⟨rfl, hb2⟩; rw [hok]; dsimp only)
        go_ret
        exact ⟨by rw [hf.out]; rfl, bstep hbq.out hb2⟩
      | true =>
        have HV5 : Hid (v = errV (if ly < 1 ∨ 300 < ly then 1 else 0)) := by show _ = _; rw [HV4.out, hok]; rfl
        clear HV4
        by_cases h5 : ly < 1
        · have hf : Hid (v = errV 1) := by show _ = _; rw [HV5.out, if_pos (Or.inl h5)]
          clear HV5
          go_wp2_with (go_at_call 131; refine (dmsg_any ms _ HM.out).mono ?_; rintro e w2 ⟨rfl, hb2⟩; rw [hok]; dsimp only; have k1 := ((bcell hb2).1 _ 1 hz').trans c1)
          go_ret
          exact ⟨by rw [hf.out]; rfl, bstep hbq.out hb2⟩
        · by_cases h6 : 300 < ly
          · have hf : Hid (v = errV 1) := by show _ = _; rw [HV5.out, if_pos (Or.inr h6)]
            clear HV5
            go_wp2_with (go_at_call 131; refine (dmsg_any ms _ HM.out).mono ?_; rintro e w2 ⟨rfl, hb2⟩; rw [hok]; dsimp only; have k1 := ((bcell hb2).1 _ 1 hz').trans c1)
            go_ret
            exact ⟨by rw [hf.out]; rfl, bstep hbq.out hb2⟩
          · have hf : Hid (v = errV 0) := by show _ = _; rw [HV5.out, if_neg (by omega)]
            clear HV5
            go_wp2_with (go_at_call 131; refine (dmsg_any ms _ HM.out).mono ?_; rintro e w2 ⟨rfl, hb2⟩; rw [hok]; dsimp only; have k1 := ((bcell hb2).1 _ 1 hz').trans c1)
            go_ret
            exact ⟨by rw [hf.out]; rfl, bstep hbq.out hb2⟩

end Go.Proofs.YtaddfndohoppeaaGreat

/- repo's check, change, and what one commit more does to a repo. -/
namespace Go.Proofs.YtaddfndohoppeaaGreat
open Go Go.RowKit Go.Proofs Go.Maps
set_option synthInstance.maxSize 1000

attribute [local go_sem] eql_errV neq_errV guard_errV

theorem com_msg {k : Nat} {ps : List Int} {t : List UInt8} (hp : okPar k ps) : comN (ps, 1, t) k = msgN t := by
  have e : rangeB ps k = true := by unfold rangeB; rw [List.all_eq_true]; intro p hp'; simpa using hp.2.1 p hp'
  have hl := hp.1
  unfold comN
  dsimp only
  by_cases h4 : msgN t = 4
  · rw [if_pos (Or.inr h4), h4]
  · rw [if_neg (fun h => h.elim (fun h => by omega) h4), if_neg (by rw [e]; simp), if_neg (by rw [hp.2.2]; simp)]
    by_cases h0 : msgN t = 0
    · rw [if_neg (fun h => h h0), h0, if_neg (by omega)]
    · rw [if_pos h0]
set_option maxHeartbeats 1000000 in
theorem Qcheck_any (w : World) (r s bm : Nat) (cv : Value) (OS P : Nat → Prop) (R : Rp) (pd : Option Addr) (pc : Nat) (ps : List Int) (t : List UInt8) (h : RpW w r s bm cv OS P R) (hg : GoodR R) (hs : SlI w pd ps) (hp : okPar R.coms.length ps) (ht : t.length ≤ maxLen) :
    Calls Tryz.prog 51 #[.pointer (some ⟨r, 0, none⟩), .slice pd ps.length pc, .string ⟨t.toArray⟩] w fun e w' => e = .returned (errV (msgN t)) ∧ RowKit.Below w.heap.size w w' := by
  have HC : ∀ W, RowKit.Below w.heap.size w W → Calls Tryz.prog 84 #[.agg #[.slice pd ps.length pc, .int .i64 1, .string ⟨t.toArray⟩], .int .i64 (R.coms.length : Int)] W fun e w' => e = .returned (errV (msgN t)) ∧ RowKit.Below W.heap.size W w' := fun W hW => by
    rw [← com_msg (t := t) hp]
    exact dchkOne_any W pd pc ps 1 t R.coms.length (hs.below hW) (by have := hp.1; unfold maxLen; omega) ht
  have HL := hideO (fun W (hW : RowKit.Below w.heap.size w W) => ((h.below hW).cells))
  obtain ⟨ad, cap, rfl⟩ := h.com.form
  have hlt := h.lt
  have hmx : R.coms.length ≤ 60 := hg.coms.1
  obtain ⟨k0, k1, k2, kf⟩ := HL.out w (RowKit.Below.refl _ _)
  clear h hg hs hp ht HL
  generalize msgN t = N at *
  generalize R.coms.length = n at *
  go_enter Tryz.func51, Tryz.ntmps51
  go_wp2_with (go_at_call 84; refine (HC _ (RowKit.Below.refl _ _)).mono ?_; rintro e w1 ⟨rfl, hb1⟩; dsimp only)
  go_ret
  exact ⟨rfl, hb1⟩

set_option maxHeartbeats 2000000 in
set_option maxRecDepth 100000 in
theorem Qchange_any (w : World) (r s bm : Nat) (cv : Value) (OS P : Nat → Prop) (R : Rp) (pd : Option Addr) (pc : Nat) (ps : List Int) (sd : Option Addr) (sc : Nat) (S : List Tr) (h : RpW w r s bm cv OS P R) (hg : GoodR R) (hs : SlI w pd ps) (hp : okPar R.coms.length ps) (hS : SlT w sd S) (sS : IsSet S) :
    Calls Tryz.prog 54 #[.pointer (some ⟨r, 0, none⟩), .slice pd ps.length pc, .slice sd S.length sc] w fun e w' => e = .returned (.tuple #[.string ⟨(bytesR R ps S).toArray⟩, .nilIface]) ∧ RowKit.Below w.heap.size w w' := by
  have H1 := Qstart_any w r s bm cv OS P R pd pc ps h hs (by have := hp.1; unfold maxLen; omega) (fun p hp' => (hp.2.1 p hp').1) (fun p hp' => graph_ok r s bm cv OS P R hg p (by have := (hp.2.1 _ hp').2; omega))
  have sf := pfrom_set hg ps
  have H2 := fun W ad ca h1 h2 => BtwGood_any ad sd ca sc (fromR R ps) S W h1 h2 sf sS
  have s1 : IsSet (lessL S (fromR R ps)) := lessSet sS
  have s2 : IsSet (lessL (fromR R ps) S) := lessSet sf
  have H3 := fun W a1 a2 c1 c2 h1 h2 => CLayer_any a1 a2 c1 c2 (lessL S (fromR R ps)) (lessL (fromR R ps) S) W h1 h2 s1.fit s2.fit (setLen s1) (setLen s2)
  have e0 := btw_check sf sS
  have e1 : layB (lessL S (fromR R ps)) (lessL (fromR R ps) S) = bytesR R ps S := if_pos e0
  rw [e0, e1] at H3
  have HS := hideO hS
  clear h hg hs hp hS sS sf s1 s2 e0 e1
  generalize bytesR R ps S = B at *
  generalize lessL S (fromR R ps) = A at *
  generalize lessL (fromR R ps) S = D at *
  generalize fromR R ps = f at *
  go_enter Tryz.func54, Tryz.ntmps54
  go_wp2_with fail
  refine H1.mono ?_
  rintro e w1 ⟨hb1, fd, fc, rfl, hf⟩
  dsimp only
  have hB1 := hideO hb1
  have hF := hideO hf
  clear hb1 hf H1
  go_wp2_with fail
  refine (H2 _ fd fc hF.out (HS.out.below hB1.out)).mono ?_
  rintro e w2 ⟨hb2, a1, c1, a2, c2, rfl, x1, x2⟩
  dsimp only
  have hB2 := hideO (bstep hB1.out hb2)
  have X1 := hideO x1
  have X2 := hideO x2
  clear hb2 x1 x2 H2 hB1 hF
  go_wp2_with fail
  have hba := balloc w2 (.cells #[.slice a1 A.length c1, .slice a2 D.length c2] 42)
  refine (H3 _ a1 a2 c1 c2 (X1.out.below hba) (X2.out.below hba)).mono ?_
  rintro e w3 ⟨rfl, hb3⟩
  rw [show errV 0 = Value.nilIface from rfl]
  dsimp only
  have hB3 := hideO (bstep (bstep hB2.out hba) hb3)
  clear hba hb3 H3 X1 X2 hB2
  go_wp2_with fail
  exact bodyPost_ret (v := .tuple #[.string ⟨B.toArray⟩, .nilIface]) (by unfold results; rw [Tryz.results54]; go_simp) rfl ⟨rfl, hB3.out⟩

/-! ### one more -/
def moreQ (P : Nat → Prop) (pd : Option Addr) (ps : List Int) (j : Nat) : Prop := P j ∨ (ps ≠ [] ∧ ∃ d, pd = some d ∧ j = d.block)
def comCellsQ (pd : Option Addr) (pc : Nat) (ps : List Int) (y : Int) (t : List UInt8) : List Value := [.slice pd ps.length pc, .int .i64 y, .string ⟨t.toArray⟩]
theorem infoCmQ : (Tryz.prog.info? 40).map (fun i => (i.zero, i.size, i.bytes)) = some (some (.agg #[.slice none 0 0, .int .i64 0, .string ⟨#[]⟩]), 3, 48) := by kernel_rfl
theorem newCmQ (W : World) (pd : Option Addr) (pc : Nat) (ps : List Int) (y : Int) (t : List UInt8) : ∀ (j : Nat) u, (comCellsQ pd pc ps y t)[j]? = some u → (W.alloc (.cells #[.slice pd ps.length pc, .int .i64 y, .string ⟨t.toArray⟩] 40)).cell? (Addr.add ⟨W.heap.size, 0, none⟩ j) = some u := fun j u hu => by
  have hj : j < 3 := by have := (List.getElem?_eq_some_iff.1 hu).1; simpa [comCellsQ] using this
  rw [Addr.add_lit]
  rcases (by omega : j = 0 ∨ j = 1 ∨ j = 2) with rfl | rfl | rfl
  · simp [comCellsQ] at hu; subst hu; go_simp
  · simp [comCellsQ] at hu; subst hu; go_simp
  · simp [comCellsQ] at hu; subst hu; go_simp
/-- the store has changed -/
theorem RpW.put {w w' : World} {r s bm : Nat} {cv : Value} {OS OS' P : Nat → Prop} {R : Rp} {n' : Nat} {L' : List Ob} (h : RpW w r s bm cv OS P R) (hs : theFace.At w' s OS' n' L') (ho : Offs OS w w') (hn : ∀ j, OS' j → OS j ∨ w.heap.size ≤ j) (hl : Linked ⟨n', L', R.coms, R.gr, R.refs⟩) :
    RpW w' r s bm cv OS' P ⟨n', L', R.coms, R.gr, R.refs⟩ ∧ Offs (RpO r bm cv OS P) w w' ∧ ∀ j, RpO r bm cv OS' P j → RpO r bm cv OS P j ∨ w.heap.size ≤ j := by
  have away : ∀ j, j < w.heap.size → ¬ OS j → w'.heap[j]? = w.heap[j]? := fun j h1 h2 => ho.block j h1 h2
  have off : ∀ j, j < w.heap.size → ¬ OS j → ¬ OS' j := fun j h1 h2 h3 => (hn j h3).elim h2 (fun h4 => by omega)
  obtain ⟨a1, a2, a3⟩ := h.ap1
  have hbm := h.own bm (Or.inr (Or.inl rfl))
  have hcv := fun j hj => h.own j (Or.inr (Or.inr (Or.inl hj)))
  refine ⟨⟨(away r h.lt a1).trans h.blk, hs, h.com.keep (fun j hj => away j (hcv j hj) (h.ap2 j hj).1) (fun j hj => away j (h.plt j hj) (h.ap3 j hj).1), h.map.keep (away bm hbm a2), hl, fun j hj => Nat.lt_of_lt_of_le (h.plt j hj) ho.size, ⟨off r h.lt a1, off bm hbm a2, a3⟩, fun j hj => ⟨off j (hcv j hj) (h.ap2 j hj).1, (h.ap2 j hj).2⟩, fun j hj => ⟨off j (h.plt j hj) (h.ap3 j hj).1, (h.ap3 j hj).2⟩⟩, ho.mono fun j hj => Or.inl (Or.inr (Or.inr (Or.inr (Or.inr hj)))), ?_⟩
  rintro j (hj | hj | hj | hj | hj)
  · exact Or.inl (Or.inl hj)
  · exact Or.inl (Or.inr (Or.inl hj))
  · exact Or.inl (Or.inr (Or.inr (Or.inl hj)))
  · exact Or.inl (Or.inr (Or.inr (Or.inr (Or.inl hj))))
  · exact (hn j hj).imp (fun h => Or.inr (Or.inr (Or.inr (Or.inr h)))) id
theorem RpW.push {W : World} {r s bm : Nat} {cv : Value} {OS P : Nat → Prop} {R : Rp} (h : RpW W r s bm cv OS P R) {a : Option Addr} {c : Nat} {ps : List Int} {y : Int} {t : List UInt8} (hs : SlI W a ps) (hc : ps.length ≤ c) (ha : ps ≠ [] → ∀ d, a = some d → ¬ RpO r bm cv OS P d.block) (hn : R.coms.length ≤ 1000) (g' : List (List Tr)) (hl : Linked ⟨R.n, R.L, R.coms ++ [(ps, y, t)], g', R.refs⟩) (ty : TypeId) :
    ∃ g cap W9, (Builtin.append_ #[34, 34] ty #[cv, .slice (some ⟨W.heap.size, 0, none⟩) 1 1]).run Tryz.prog (W.alloc (.cells #[.slice a ps.length c, .int .i64 y, .string ⟨t.toArray⟩] 40)) = .ok (.slice (some ⟨g, 0, none⟩) (R.coms.length + 1) cap) W9 ∧
      W9.cell? ⟨r, 1, none⟩ = some cv ∧ W9.frozen? ⟨r, 1, none⟩ = false ∧ r < W9.heap.size ∧
      RpW (W9.setCell ⟨r, 1, none⟩ (.slice (some ⟨g, 0, none⟩) (R.coms.length + 1) cap)) r s bm (.slice (some ⟨g, 0, none⟩) (R.coms.length + 1) cap) OS (moreQ P a ps) ⟨R.n, R.L, R.coms ++ [(ps, y, t)], g', R.refs⟩ ∧
      Offs (RpO r bm cv OS P) W (W9.setCell ⟨r, 1, none⟩ (.slice (some ⟨g, 0, none⟩) (R.coms.length + 1) cap)) ∧
      ∀ j, RpO r bm (.slice (some ⟨g, 0, none⟩) (R.coms.length + 1) cap) OS (moreQ P a ps) j → RpO r bm cv OS P j ∨ (ps ≠ [] ∧ ∃ d, a = some d ∧ j = d.block) ∨ W.heap.size ≤ j := by
  obtain ⟨cs, ho, h2⟩ := h.com
  obtain ⟨i0, hi0, hz⟩ := Option.map_eq_some_iff.1 infoCmQ
  simp only [Prod.mk.injEq] at hz
  obtain ⟨hz0, hz1, hz2⟩ := hz
  obtain ⟨g, cap, W9, hrun, hrow, hgr, hat, hlt9⟩ := run_append_lies (P := Tryz.prog) (W.alloc (.cells #[.slice a ps.length c, .int .i64 y, .string ⟨t.toArray⟩] 40)) 34 ty 0 40 i0 (.agg #[.slice none 0 0, .int .i64 0, .string ⟨#[]⟩]) 3 48 Tryz.underlying34 hi0 hz0 hz1 hz2 rfl (by decide) cv R.coms.length cs (ho.alloc _) ⟨W.heap.size, 0, none⟩ 1 1 (comCellsQ a c ps y t) rfl (newCmQ W a c ps y t) (by simp [comCellsQ, Value.oneCell']) (by decide) (by unfold maxLen; omega) (by omega) (by omega) _ rfl
  have hg : cv.ownBlock = some g ∨ g = W.heap.size + 1 := by
    rcases hat with h1 | h1
    · exact Or.inl h1
    · exact Or.inr (by rw [h1]; simp)
  have hblk : ∀ j, j < W.heap.size → cv.ownBlock ≠ some j → W9.heap[j]? = W.heap[j]? := fun j h1 h3 => (hgr.block j (by simp; omega) (fun e => h3 e.symm)).trans (Below.heap_alloc _ _ j h1)
  have hsz9 : W.heap.size + 1 ≤ W9.heap.size := by have := hgr.size; simpa using this
  obtain ⟨a1, a2, a3⟩ := h.ap1
  have hbm := h.own bm (Or.inr (Or.inl rfl))
  have hcvr : cv.ownBlock ≠ some r := fun e => (h.ap2 r e).2.1 rfl
  have hr9 : W9.heap[r]? = some (.cells #[.pointer (some ⟨s, 0, none⟩), cv, .map (some bm)] 75) := (hblk r h.lt hcvr).trans h.blk
  have hgne : g ≠ r ∧ g ≠ bm ∧ ¬ OS g ∧ ¬ moreQ P a ps g := by
    rcases hg with h1 | rfl
    · obtain ⟨q1, q2, q3, q4⟩ := h.ap2 g h1
      refine ⟨q2, q3, q1, ?_⟩
      rintro (h5 | ⟨hne, d, hd, e⟩)
      · exact q4 h5
      · exact ha hne d hd (Or.inr (Or.inr (Or.inl (by rw [← e]; exact h1))))
    · have hlr := h.lt
      refine ⟨by omega, by omega, fun h5 => by have := theFace.own h.st _ h5; omega, ?_⟩
      rintro (h5 | ⟨hne, d, hd, e⟩)
      · have := h.plt _ h5; omega
      · obtain ⟨b, o, e2, h6⟩ := hs hne
        rw [e2] at hd
        cases hd
        have hpl : 0 < ps.length := List.length_pos_iff.2 hne
        have := World.block_lt_of_cell? W _ (h6 0 hpl)
        have e : W.heap.size + 1 = b := e
        have : b < W.heap.size := this
        omega
  generalize hv' : (Value.slice (some ⟨g, 0, none⟩) (R.coms.length + 1) cap) = v' at *
  have hvb : v'.ownBlock = some g := by rw [← hv']; rfl
  have hk : ∀ j, j ≠ r → (W9.setCell ⟨r, 1, none⟩ v').heap[j]? = W9.heap[j]? := fun j hj => heap_setCell_other _ _ _ _ hj
  have hkeep : ∀ j, j < W.heap.size → cv.ownBlock ≠ some j → j ≠ r → (W9.setCell ⟨r, 1, none⟩ v').heap[j]? = W.heap[j]? := fun j h1 h3 h4 => (hk j h4).trans (hblk j h1 h3)
  have hsl : SlI (W9.setCell ⟨r, 1, none⟩ v') a ps := psl_keep hs fun hne d hd => by
    have hnot := ha hne d hd
    obtain ⟨b, o, e2, h6⟩ := hs hne
    rw [e2] at hd
    cases hd
    have hpl : 0 < ps.length := List.length_pos_iff.2 hne
    exact hkeep b (World.block_lt_of_cell? W _ (h6 0 hpl)) (fun e => hnot (Or.inr (Or.inr (Or.inl e)))) (fun e => hnot (Or.inl e))
  have hcl : cs.length = R.coms.length * 3 := ho.1
  refine ⟨g, cap, W9, ?_⟩
  rw [hv']
  refine ⟨hrun, ?_, ?_, by have := h.lt; omega, ⟨?_, ?_, ⟨_, by rw [List.length_append]; exact prow_keep hrow fun j hj => hk j (by rw [hvb] at hj; cases hj; exact hgne.1), fun i hi => ?_⟩, h.map.keep (hkeep bm hbm (fun e => (h.ap2 bm e).2.2.1 rfl) (fun e => a3 e.symm)), hl, fun j hj => ?_, ⟨a1, a2, a3⟩, fun j hj => ?_, fun j hj => ?_⟩, ⟨?_, ?_, ?_, ?_, fun k hk1 hO => ?_⟩, fun j hj => ?_⟩
  · simp [World.cell?, hr9]
  · simp [World.frozen?, hr9]
  · have := heap_setCell_same W9 r 1 _ _ v' hr9
    simpa using this
  · exact theFace.keep h.st fun j hj => hkeep j (theFace.own h.st j hj) (fun e => (h.ap2 j e).1 hj) (fun e => a1 (e ▸ hj))
  · simp only [List.length_append, List.length_singleton] at hi
    by_cases hil : i < R.coms.length
    · obtain ⟨b, d, q1, q2, q3, q4, q5, q6⟩ := h2 i hil
      have e : (R.coms ++ [(ps, y, t)])[i]'(by rw [List.length_append]; omega) = R.coms[i] := List.getElem_append_left hil
      dsimp only
      rw [e, List.getElem?_append_left (by omega), List.getElem?_append_left (by omega), List.getElem?_append_left (by omega)]
      refine ⟨b, d, q1, q2, q3, psl_keep q4 fun hne d hd => ?_, q5, fun hne d hd => Or.inl (q6 hne d hd)⟩
      have hP := q6 hne d hd
      exact hkeep _ (h.plt _ hP) (fun e => (h.ap2 _ e).2.2.2 hP) (h.ap3 _ hP).2.1
    · obtain rfl : i = R.coms.length := by omega
      have e : (R.coms ++ [(ps, y, t)])[R.coms.length]'(by rw [List.length_append]; simp) = (ps, y, t) := by rw [List.getElem_append_right (Nat.le_refl _)]; simp
      dsimp only
      rw [e, List.getElem?_append_right (by omega), List.getElem?_append_right (by omega), List.getElem?_append_right (by omega), hcl]
      rw [show R.coms.length * 3 - R.coms.length * 3 = 0 by omega, show R.coms.length * 3 + 1 - R.coms.length * 3 = 1 by omega, show R.coms.length * 3 + 2 - R.coms.length * 3 = 2 by omega]
      exact ⟨a, c, rfl, rfl, rfl, hsl, hc, fun hne d hd => Or.inr ⟨hne, d, hd, rfl⟩⟩
  · have hz : (W9.setCell ⟨r, 1, none⟩ v').heap.size = W9.heap.size := by simp [World.setCell]
    rw [hz]
    rcases hj with hj | ⟨hne, d, hd, rfl⟩
    · have := h.plt j hj; omega
    · obtain ⟨b, o, e2, h6⟩ := hs hne
      rw [e2] at hd
      cases hd
      have hpl : 0 < ps.length := List.length_pos_iff.2 hne
      have : b < W.heap.size := World.block_lt_of_cell? W _ (h6 0 hpl)
      show b < _
      omega
  · rw [hvb] at hj
    cases hj
    exact ⟨hgne.2.2.1, hgne.1, hgne.2.1, hgne.2.2.2⟩
  · rcases hj with hj | ⟨hne, d, hd, rfl⟩
    · exact h.ap3 j hj
    · have hnot := ha hne d hd
      exact ⟨fun e => hnot (Or.inr (Or.inr (Or.inr (Or.inr e)))), fun e => hnot (Or.inl e), fun e => hnot (Or.inr (Or.inl e))⟩
  · exact hgr.os
  · exact hgr.tape
  · exact hgr.output
  · have hz : (W9.setCell ⟨r, 1, none⟩ v').heap.size = W9.heap.size := by simp [World.setCell]
    omega
  · exact hkeep k hk1 (fun e => hO (Or.inr (Or.inr (Or.inl e)))) (fun e => hO (Or.inl e))
  · rcases hj with hj | hj | hj | hj | hj
    · exact Or.inl (Or.inl hj)
    · exact Or.inl (Or.inr (Or.inl hj))
    · rw [hvb] at hj
      cases hj
      rcases hg with h1 | h1
      · exact Or.inl (Or.inr (Or.inr (Or.inl h1)))
      · exact Or.inr (Or.inr (by omega))
    · rcases hj with hj | hj
      · exact Or.inl (Or.inr (Or.inr (Or.inr (Or.inl hj))))
      · exact Or.inr (Or.inl hj)
    · exact Or.inl (Or.inr (Or.inr (Or.inr (Or.inr hj))))
end Go.Proofs.YtaddfndohoppeaaGreat

/- repo's take and lead: a branch leads to a commit. -/
namespace Go.Proofs.YtaddfndohoppeaaGreat
open Go Go.RowKit Go.Proofs Go.Maps
set_option synthInstance.maxSize 1000

attribute [local go_sem] eql_errV neq_errV guard_errV

/-- what a call leaves -/
def RpTo (w : World) (r s bm : Nat) (cv : Value) (OS P : Nat → Prop) (R' : Rp) (w' : World) : Prop := ∃ cv' OS' P', RpW w' r s bm cv' OS' P' R' ∧ Offs (RpO r bm cv OS P) w w' ∧ ∀ j, RpO r bm cv' OS' P' j → RpO r bm cv OS P j ∨ w.heap.size ≤ j
theorem RpTo.same {w w' : World} {r s bm : Nat} {cv : Value} {OS P : Nat → Prop} {R : Rp} (h : RpW w r s bm cv OS P R) (hb : RowKit.Below w.heap.size w w') : RpTo w r s bm cv OS P R w' := ⟨cv, OS, P, h.below hb, Offs.of_below hb, fun _ hj => Or.inl hj⟩
theorem pput_fail {n : Nat} {L : List Ob} {b : List UInt8} (h : putE L b ≠ 0) : putM n L b = n ∧ putL n L b = L := by
  unfold putE at h
  unfold putM putL
  split at h
  · exact absurd rfl h
  · rename_i h1
    split at h
    · rename_i h2
      rw [if_neg h1, if_pos h2, if_neg h1, if_pos h2]
      exact ⟨rfl, rfl⟩
    · exact absurd rfl h
theorem Linked.put {R : Rp} (hl : Linked R) (h : GoodR R) (b : List UInt8) : Linked ⟨putM R.n R.L b, putL R.n R.L b, R.coms, R.gr, R.refs⟩ := fun i c g hc hg => put_old h.store (hl i c g hc hg)
theorem add_none {R : Rp} {ps : List Int} {S : List Tr} {t : List UInt8} (hf : findC R.coms R.gr ps S t = none) (h60 : ¬ 60 ≤ R.coms.length) :
    (putE R.L (bytesR R ps S) ≠ 0 → addE R ps S t = putE R.L (bytesR R ps S) ∧ addI R ps S t = 0 ∧ addR R ps S t = R) ∧ (putE R.L (bytesR R ps S) = 0 → addE R ps S t = 0 ∧ addI R ps S t = R.coms.length ∧ addR R ps S t = ⟨putM R.n R.L (bytesR R ps S), putL R.n R.L (bytesR R ps S), R.coms ++ [(ps, (putI R.n R.L (bytesR R ps S) : Int), t)], R.gr ++ [S], R.refs⟩) := by
  unfold addE addI addR
  rw [hf]
  simp only [if_neg h60]
  constructor
  · intro h
    simp [h]
  · intro h
    simp [h]
theorem add_full {R : Rp} {ps : List Int} {S : List Tr} {t : List UInt8} (hf : findC R.coms R.gr ps S t = none) (h60 : 60 ≤ R.coms.length) : addE R ps S t = 4 ∧ addI R ps S t = 0 ∧ addR R ps S t = R := by
  unfold addE addI addR
  rw [hf]
  simp [h60]
theorem add_some {R : Rp} {ps : List Int} {S : List Tr} {t : List UInt8} {i : Nat} (hf : findC R.coms R.gr ps S t = some i) : addE R ps S t = 0 ∧ addI R ps S t = i ∧ addR R ps S t = R := by
  unfold addE addI addR
  rw [hf]
  exact ⟨rfl, rfl, rfl⟩
/-- at a step of a region that draws: an append whose run is known -/
theorem step_appendQ {P : Program} {w : World} {ops : Array Oper} {o : Oper} {a : Act} {K : Act → World → Prop} {Q : Exit → Act → World → Prop} {E : Prop} (hgd : o.guard = none) (s x : Operand) (t : TypeId)
    (ho : o.op = .call { callee := .builtin .append, args := #[s, x], argTypes := #[t, t] }) (v u : Value) (hs : a.eval s = v) (hx : a.eval x = u) {v' : Value} {w' : World}
    (hr : (Builtin.append_ #[t, t] o.type #[v, u]).run P w = .ok v' w') (h : K (a.put o.dst v') w') : if Region.wanted o (yielded ops a.tmps) = true then Oper.wp P o a w K Q else E := by
  rw [if_pos (by simp [Region.wanted, hgd])]
  unfold Oper.wp execOp
  simp only [ho, resolve, invoke, builtin, Sem.run_bind, Sem.run_pure, Result.andThen_ok, List.map_toArray, List.map_cons, List.map_nil, hs, hx, hr]
  exact h
def TakeAns (w : World) (r s bm : Nat) (cv : Value) (OS P : Nat → Prop) (R : Rp) (ps : List Int) (S : List Tr) (t : List UInt8) (e : Ending) (w' : World) : Prop := e = .returned (.tuple #[.int .i64 (addI R ps S t : Int), errV (addE R ps S t)]) ∧ RpTo w r s bm cv OS P (addR R ps S t) w'

set_option maxHeartbeats 8000000 in
set_option maxRecDepth 100000 in
theorem Qtake_any (w : World) (r s bm : Nat) (cv : Value) (OS P : Nat → Prop) (R : Rp) (pd : Option Addr) (pc : Nat) (ps : List Int) (S : List Tr) (t : List UInt8) (h : RpW w r s bm cv OS P R) (hg : GoodR R) (hs : SlI w pd ps) (hp : okPar R.coms.length ps) (hpd : ps ≠ [] → ∀ d, pd = some d → ¬ RpO r bm cv OS P d.block) (sS : IsSet S) (ht : t.length ≤ 24) :
    Calls Tryz.prog 55 #[.pointer (some ⟨r, 0, none⟩), .slice pd ps.length pc, .string ⟨(bytesR R ps S).toArray⟩, .string ⟨t.toArray⟩] w (TakeAns w r s bm cv OS P R ps S t) := by
  have hbs := bytes_short hg (ps := ps) sS
  have hbr : (bytesR R ps S).length ≤ reachBytes := by unfold reachBytes; omega
  have H2 := fun W (hW : RowKit.Below w.heap.size w W) => Qfind_any W r s bm cv OS P R pd pc ps (bytesR R ps S) t (h.below hW) hg (hs.below hW) (by have := hp.1; unfold maxLen; omega) hbr
  rw [← find_link h.link hg sS] at H2
  have H3 := fun W (hW : RowKit.Below w.heap.size w W) => theFace.put W s OS R.n R.L (bytesR R ps S) (h.below hW).st hg.store (by have := hg.last; have := hg.coms.1; omega) (by rw [theFace_lim]; exact hbr)
  have HL := hideO (fun W (hW : RowKit.Below w.heap.size w W) => ((h.below hW).cells))
  obtain ⟨ad, cap, rfl⟩ := h.com.form
  have hlt := h.lt
  have hmx : R.coms.length ≤ 60 := hg.coms.1
  have HH := hideO h
  have HG := hideO hg
  have HS := hideO hs
  have HP := hideO hp
  have HPD := hideO hpd
  have HSS := hideO sS
  clear h hg hs hp hpd sS hbs hbr
  cases hf : findC R.coms R.gr ps S t with
  | some i =>
    obtain ⟨e1, e2, e3⟩ := add_some hf
    have fin : Hid (∀ w', RowKit.Below w.heap.size w w' → TakeAns w r s bm (.slice ad R.coms.length cap) OS P R ps S t (.returned (.tuple #[.int .i64 (i : Int), .nilIface])) w') := fun w' hb => by
      unfold TakeAns
      rw [e1, e2, e3]
      exact ⟨rfl, RpTo.same HH.out hb⟩
    rw [hf, show idxI (some i) = (i : Int) from rfl] at H2
    have i0 : (0 : Int) ≤ (i : Int) := by omega
    clear hf e1 e2 e3 HL H3 HG HS HP HPD HSS HH
    generalize bytesR R ps S = B at *
    go_enter Tryz.func55, Tryz.ntmps55
    go_wp2_with fail
    refine (H2 _ (RowKit.Below.refl _ w)).mono ?_
    rintro e w2 ⟨rfl, hb2⟩
    dsimp only
    go_wp2_with fail
    exact bodyPost_ret (v := .tuple #[.int .i64 (i : Int), .nilIface]) (by unfold results; rw [Tryz.results55]; go_simp) rfl (fin.out _ hb2)
  | none =>
    rw [hf, show idxI none = -1 from rfl] at H2
    by_cases h60 : 60 ≤ R.coms.length
    · obtain ⟨e1, e2, e3⟩ := add_full hf h60
      have fin : Hid (∀ w', RowKit.Below w.heap.size w w' → TakeAns w r s bm (.slice ad R.coms.length cap) OS P R ps S t (.returned (.tuple #[.int .i64 0, .iface 82 (.int .i64 4)])) w') := fun w' hb => by
        unfold TakeAns
        rw [e1, e2, e3]
        exact ⟨rfl, RpTo.same HH.out hb⟩
      have j60 : (60 : Int) ≤ (R.coms.length : Int) := by omega
      clear hf e1 e2 e3 H3 HG HS HP HPD HSS HH
      generalize bytesR R ps S = B at *
      generalize R.coms.length = n at *
      go_enter Tryz.func55, Tryz.ntmps55
      go_wp2_with fail
      refine (H2 _ (RowKit.Below.refl _ w)).mono ?_
      rintro e w2 ⟨rfl, hb2⟩
      dsimp only
      obtain ⟨k0, k1, k2, kf⟩ := HL.out _ hb2
      have z2 := World.block_lt_of_cell? _ _ k0
      go_wp2_with fail
      exact bodyPost_ret (v := .tuple #[.int .i64 0, .iface 82 (.int .i64 4)]) (by unfold results; rw [Tryz.results55]; go_simp) rfl (fin.out _ hb2)
    · obtain ⟨A1, A2⟩ := add_none hf h60
      have j60 : ¬ (60 : Int) ≤ (R.coms.length : Int) := by omega
      by_cases hE : putE R.L (bytesR R ps S) = 0
      · obtain ⟨e1, e2, e3⟩ := A2 hE
        rw [hE, show errV 0 = Value.nilIface from rfl] at H3
        have hlk : Hid (Linked ⟨putM R.n R.L (bytesR R ps S), putL R.n R.L (bytesR R ps S), R.coms ++ [(ps, (putI R.n R.L (bytesR R ps S) : Int), t)], R.gr ++ [S], R.refs⟩) := by
          have := HH.out.link.add HG.out (s := S) (m := t) HP.out
          rw [e3] at this
          exact this
        have hlk0 : Hid (Linked ⟨putM R.n R.L (bytesR R ps S), putL R.n R.L (bytesR R ps S), R.coms, R.gr, R.refs⟩) := HH.out.link.put HG.out _
        have fin : Hid (∀ e w', e = .returned (.tuple #[.int .i64 (R.coms.length : Int), .nilIface]) → RpTo w r s bm (.slice ad R.coms.length cap) OS P ⟨putM R.n R.L (bytesR R ps S), putL R.n R.L (bytesR R ps S), R.coms ++ [(ps, (putI R.n R.L (bytesR R ps S) : Int), t)], R.gr ++ [S], R.refs⟩ w' → TakeAns w r s bm (.slice ad R.coms.length cap) OS P R ps S t e w') := fun e w' he hr => by
          unfold TakeAns
          rw [e1, e2, e3]
          exact ⟨he, hr⟩
        clear A1 A2 hf e1 e2 e3 HSS HG
        generalize bytesR R ps S = B at *
        generalize putI R.n R.L B = y at *
        generalize putM R.n R.L B = nM at *
        generalize putL R.n R.L B = nL at *
        go_enter Tryz.func55, Tryz.ntmps55
        go_wp2_with fail
        refine (H2 _ (RowKit.Below.refl _ w)).mono ?_
        rintro e w2 ⟨rfl, hb2⟩
        dsimp only
        have hB2 := hideO hb2
        clear hb2 H2
        obtain ⟨k0, k1, k2, kf⟩ := HL.out _ hB2.out
        have z2 := World.block_lt_of_cell? _ _ k0
        go_wp2_with fail
        refine (H3 _ hB2.out).mono ?_
        rintro e w3 ⟨rfl, OS', hst, hoff, hnew⟩
        dsimp only
        obtain ⟨p1, p2, p3⟩ := (HH.out.below hB2.out).put hst hoff hnew hlk0.out
        have hO3 : Hid (Offs (RpO r bm (.slice ad R.coms.length cap) OS P) w w3) := (Offs.of_below hB2.out).trans p2 fun j hj => Or.inl hj
        have hN3 : Hid (∀ j, RpO r bm (.slice ad R.coms.length cap) OS' P j → RpO r bm (.slice ad R.coms.length cap) OS P j ∨ w.heap.size ≤ j) := fun j hj => (p3 j hj).imp id (fun h => Nat.le_trans hB2.out.size h)
        have hS3 : Hid (SlI w3 pd ps) := psl_keep HS.out fun hne d hd => by
          have hnot := HPD.out hne d hd
          obtain ⟨b, o, e2, h6⟩ := HS.out hne
          rw [e2] at hd
          cases hd
          have hpl : 0 < ps.length := List.length_pos_iff.2 hne
          exact hO3.out.block b (World.block_lt_of_cell? w _ (h6 0 hpl)) hnot
        have P1 := hideO p1
        have hz3 : Hid (w.heap.size ≤ w3.heap.size) := hO3.out.size
        clear p1 p2 p3 hst hoff hnew k0 k1 k2 kf z2 H3 HL HS HPD
        obtain ⟨k0, k1, k2, kf⟩ := P1.out.cells
        have z3 := P1.out.lt
        have hpl : Hid (ps.length ≤ 1000000) := by have := HP.out.1; show _ ≤ _; omega
        have HF := fun W (hW : RowKit.Below w3.heap.size w3 W) => Qfresh_any pd pc ps (y : Int) t W (hS3.out.below hW) hpl.out (by omega)
        go_wp2_with fail
        go_region_law (first
          | (refine step_appendQ rfl (.tmp 44) (.tmp 50) 34 rfl _ _ rfl rfl hr9 ?_)
          | (go_simp; go_at_call 25; refine (HF _ (RowKit.Below.refl _ w3).drew).mono ?_; rintro e w5 ⟨a5, c5, rfl, hN5⟩; dsimp only; have hb5 : RowKit.Below w3.heap.size w3 w5 := (RowKit.Below.refl _ w3).drew.trans hN5.2.2.2; obtain ⟨g, cap9, W9, hr9, k9, f9, z9, q1, q2, q3⟩ := RpW.push (P1.out.below hb5) (y := (y : Int)) (t := t) hN5.1 hN5.2.1 (fun hne d hd hO => by have h7 := hN5.2.2.1 hne d hd; have h8 := P1.out.own _ hO; simp at h7; omega) (by show R.coms.length ≤ 1000; omega) (R.gr ++ [S]) hlk.out 34; obtain ⟨m0, m1, m2, mf⟩ := (P1.out.below hb5).cells; have z5 := (P1.out.below hb5).lt; have Q1 := hideO q1; have Q2 := hideO q2; have Q3 := hideO q3; have HN5 := hideO hN5; have HB5 := hideO hb5; clear q1 q2 q3 hN5 hb5))
        all_goals go_wp2_with fail
        all_goals exact bodyPost_ret (v := .tuple #[.int .i64 (R.coms.length : Int), .nilIface]) (by unfold results; rw [Tryz.results55]; go_simp) rfl (fin.out _ _ rfl ⟨_, OS', moreQ P a5 ps, Q1.out, (hO3.out.step HB5.out).trans Q2.out hN3.out, fun j hj => by
          rcases Q3.out j hj with h1 | ⟨hne, d, hd, rfl⟩ | h1
          · exact hN3.out j h1
          · exact Or.inr (Nat.le_trans hz3.out (HN5.out.2.2.1 hne d hd))
          · exact Or.inr (Nat.le_trans hz3.out (Nat.le_trans HB5.out.size h1))⟩)
      · obtain ⟨e1, e2, e3⟩ := A1 hE
        have hE' : (putE R.L (bytesR R ps S) == 0) = false := by simpa using hE
        have fin : Hid (∀ w', RpTo w r s bm (.slice ad R.coms.length cap) OS P R w' → TakeAns w r s bm (.slice ad R.coms.length cap) OS P R ps S t (.returned (.tuple #[.int .i64 0, errV (putE R.L (bytesR R ps S))])) w') := fun w' hr => by
          unfold TakeAns
          rw [e1, e2, e3]
          exact ⟨rfl, hr⟩
        obtain ⟨m1, m2⟩ := pput_fail (n := R.n) hE
        rw [m1, m2] at H3
        clear A1 A2 hf e1 e2 e3 HSS HG HS HP HPD m1 m2 hE
        generalize putE R.L (bytesR R ps S) = N at *
        generalize putI R.n R.L (bytesR R ps S) = y at *
        generalize bytesR R ps S = B at *
        go_enter Tryz.func55, Tryz.ntmps55
        go_wp2_with fail
        refine (H2 _ (RowKit.Below.refl _ w)).mono ?_
        rintro e w2 ⟨rfl, hb2⟩
        dsimp only
        have hB2 := hideO hb2
        clear hb2 H2
        obtain ⟨k0, k1, k2, kf⟩ := HL.out _ hB2.out
        have z2 := World.block_lt_of_cell? _ _ k0
        go_wp2_with fail
        refine (H3 _ hB2.out).mono ?_
        rintro e w3 ⟨rfl, OS', hst, hoff, hnew⟩
        dsimp only
        obtain ⟨p1, p2, p3⟩ := (HH.out.below hB2.out).put hst hoff hnew HH.out.link
        have hR3 : Hid (RpTo w r s bm (.slice ad R.coms.length cap) OS P R w3) := ⟨_, OS', P, p1, (Offs.of_below hB2.out).trans p2 fun j hj => Or.inl hj, fun j hj => (p3 j hj).imp id (fun h => Nat.le_trans hB2.out.size h)⟩
        clear p1 p2 p3 hst hoff hnew H3
        go_wp2_with fail
        exact bodyPost_ret (v := .tuple #[.int .i64 0, errV N]) (by unfold results; rw [Tryz.results55]; go_simp) rfl (fin.out _ hR3.out)
end Go.Proofs.YtaddfndohoppeaaGreat

/- repo's lead, Commit. -/
namespace Go.Proofs.YtaddfndohoppeaaGreat
open Go Go.RowKit Go.Proofs Go.Maps
set_option synthInstance.maxSize 1000

attribute [local go_sem] eql_errV neq_errV guard_errV

def leadF (R : Rp) (b : List UInt8) (S : List Tr) (t : List UInt8) : Int := if setF S t ≠ 0 then setF S t else if roomR R b = false then 4 else 0
def leadE (R : Rp) (b : List UInt8) (ps : List Int) (S : List Tr) (t : List UInt8) : Int := if leadF R b S t ≠ 0 then leadF R b S t else addE R ps S t
def leadI (R : Rp) (b : List UInt8) (ps : List Int) (S : List Tr) (t : List UInt8) : Nat := if leadE R b ps S t ≠ 0 then 0 else addI R ps S t
def leadN (R : Rp) (b : List UInt8) (ps : List Int) (S : List Tr) (t : List UInt8) : Rp := if leadE R b ps S t ≠ 0 then R else leadTo (addR R ps S t) b (addI R ps S t)
def LeadAns (w : World) (r s bm : Nat) (cv : Value) (OS P : Nat → Prop) (R : Rp) (b : List UInt8) (ps : List Int) (S : List Tr) (t : List UInt8) (e : Ending) (w' : World) : Prop := e = .returned (.tuple #[.int .i64 (leadI R b ps S t : Int), errV (leadE R b ps S t)]) ∧ RpTo w r s bm cv OS P (leadN R b ps S t) w'
theorem padd_bad {R : Rp} {ps : List Int} {S : List Tr} {t : List UInt8} (h : addE R ps S t ≠ 0) : addR R ps S t = R := by
  unfold addE at h
  unfold addR
  split
  · rfl
  · rename_i hf
    rw [hf] at h
    dsimp only at h
    split
    · rfl
    · rename_i h60
      rw [if_neg h60] at h
      rw [if_pos h]
theorem lead_no {w w' : World} {r s bm : Nat} {cv : Value} {OS P : Nat → Prop} {R : Rp} {b : List UInt8} {ps : List Int} {S : List Tr} {t : List UInt8} {N : Int} (hN : N ≠ 0) (he : leadE R b ps S t = N) (hr : RpTo w r s bm cv OS P R w') : LeadAns w r s bm cv OS P R b ps S t (.returned (.tuple #[.int .i64 0, errV N])) w' := by
  have h0 : leadE R b ps S t ≠ 0 := by rw [he]; exact hN
  unfold LeadAns leadI leadN
  rw [if_pos h0, if_pos h0, he]
  exact ⟨rfl, hr⟩
theorem lead_yes {w w' : World} {r s bm : Nat} {cv : Value} {OS P : Nat → Prop} {R : Rp} {b : List UInt8} {ps : List Int} {S : List Tr} {t : List UInt8} (he : leadE R b ps S t = 0) (hr : RpTo w r s bm cv OS P (leadTo (addR R ps S t) b (addI R ps S t)) w') : LeadAns w r s bm cv OS P R b ps S t (.returned (.tuple #[.int .i64 (addI R ps S t : Int), .nilIface])) w' := by
  unfold LeadAns leadI leadN
  rw [if_neg (fun h => h he), if_neg (fun h => h he), he]
  exact ⟨rfl, hr⟩
theorem RpTo.lead {w w1 w2 : World} {r s bm : Nat} {cv cv' : Value} {OS P OS' P' : Nat → Prop} {R' : Rp} (h : RpW w2 r s bm cv' OS' P' R') (ho : Offs (RpO r bm cv OS P) w w1) (hn : ∀ j, RpO r bm cv' OS' P' j → RpO r bm cv OS P j ∨ w.heap.size ≤ j) (ho2 : Offs (RpO r bm cv' OS' P') w1 w2) : RpTo w r s bm cv OS P R' w2 :=
  ⟨cv', OS', P', h, ho.trans ho2 hn, hn⟩
/-- an earlier beginning -/
theorem RpTo.from {w w1 w2 : World} {r s bm : Nat} {cv : Value} {OS P : Nat → Prop} {R' : Rp} (hb : RowKit.Below w.heap.size w w1) (h : RpTo w1 r s bm cv OS P R' w2) : RpTo w r s bm cv OS P R' w2 := by
  obtain ⟨cv', OS', P', h1, h2, h3⟩ := h
  exact ⟨cv', OS', P', h1, (Offs.of_below hb).trans h2 fun _ hj => Or.inl hj, fun j hj => (h3 j hj).imp id (Nat.le_trans hb.size)⟩
theorem msg_short {t : List UInt8} (h : msgN t = 0) : t.length ≤ 24 := by
  unfold msgN at h
  split at h
  · cases h
  · omega

set_option maxHeartbeats 8000000 in
set_option maxRecDepth 100000 in
theorem Qlead_any (w : World) (r s bm : Nat) (cv : Value) (OS P : Nat → Prop) (R : Rp) (b : List UInt8) (pd : Option Addr) (pc : Nat) (ps : List Int) (sd : Option Addr) (sc : Nat) (S : List Tr) (t : List UInt8) (h : RpW w r s bm cv OS P R) (hg : GoodR R) (hb : b.length ≤ reachBytes) (hs : SlI w pd ps) (hp : okPar R.coms.length ps) (hpd : ps ≠ [] → ∀ d, pd = some d → ¬ RpO r bm cv OS P d.block) (hS : SlT w sd S) (fS : ∀ x ∈ S, fitTr x) (nS : S.length ≤ maxLen) (ht : t.length ≤ reachBytes) :
    Calls Tryz.prog 24 #[.pointer (some ⟨r, 0, none⟩), .string ⟨b.toArray⟩, .slice pd ps.length pc, .slice sd S.length sc, .string ⟨t.toArray⟩] w (LeadAns w r s bm cv OS P R b ps S t) := by
  have hml : b.length ≤ maxLen := by unfold reachBytes at hb; unfold maxLen; omega
  have htl : t.length ≤ maxLen := by unfold reachBytes at ht; unfold maxLen; omega
  have H1 := Sorted_any sd sc S w hS fS (by unfold maxLen at nS; omega)
  have H2 := fun W (hW : RowKit.Below w.heap.size w W) => Qcheck_any W r s bm cv OS P R pd pc ps t (h.below hW) hg (hs.below hW) hp htl
  have H3 := fun W (hW : RowKit.Below w.heap.size w W) => QhasBranch_any W r s bm cv OS P R b (h.below hW) hml
  have H4 := fun W (hW : RowKit.Below w.heap.size w W) => QhasRoom_any W r s bm cv OS P R (h.below hW)
  have H5 := hideO (fun (sS : IsSet S) (h24 : t.length ≤ 24) W (hW : RowKit.Below w.heap.size w W) => Qtake_any W r s bm cv OS P R pd pc ps S t (h.below hW) hg (hs.below hW) hp hpd sS h24)
  have H6 := hideO (fun (sS : IsSet S) W (hW : RowKit.Below w.heap.size w W) => Qchange_any W r s bm cv OS P R pd pc ps sd sc S (h.below hW) hg (hs.below hW) hp (hS.below hW) sS)
  have HH := hideO h
  have HG := hideO hg
  have HB := hideO hb
  have HP := hideO hp
  clear h hg hs hp hpd hS fS nS ht hb hml htl
  by_cases h1 : sortedN S = 0
  · by_cases h2 : msgN t = 0
    · have e0 : setF S t = 0 := by unfold setF; rw [if_neg (fun h => h h1)]; exact h2
      have sS := hideO (sortedN_set.1 h1)
      have h24 := msg_short h2
      rw [h1, show errV 0 = Value.nilIface from rfl] at H1
      rw [h2, show errV 0 = Value.nilIface from rfl] at H2
      have HT := H5.out sS.out h24
      have HC := H6.out sS.out
      cases hr : roomR R b with
      | false =>
        have eF : leadE R b ps S t = 4 := by
          have : leadF R b S t = 4 := by unfold leadF; rw [if_neg (fun h => h e0), if_pos hr]
          unfold leadE; rw [this]; rfl
        have hr' : ¬ (0 ≤ atR R.refs b ∨ R.refs.length < 8) := by unfold roomR at hr; simpa using hr
        rw [decide_eq_false (fun h => hr' (Or.inl h))] at H3
        rw [decide_eq_false (fun h => hr' (Or.inr h))] at H4
        have fin : Hid (∀ w', RowKit.Below w.heap.size w w' → LeadAns w r s bm cv OS P R b ps S t (.returned (.tuple #[.int .i64 0, .iface 82 (.int .i64 4)])) w') := fun w' hb' => lead_no (N := 4) (by decide) eF (RpTo.same HH.out hb')
        clear H5 H6 HC HT eF hr hr' HG HP HB h24 sS e0 h1 h2 HH
        go_enter Tryz.func24, Tryz.ntmps24
        go_wp2_with fail
        refine H1.mono ?_
        rintro e w1 ⟨rfl, hb1⟩
        dsimp only
        go_wp2_with fail
        refine (H2 _ hb1).mono ?_
        rintro e w2 ⟨rfl, hb2⟩
        dsimp only
        have hB2 := bstep hb1 hb2
        clear hb1 hb2
        go_wp2_with (first
          | (go_at_call 52; refine (H3 _ hB2).mono ?_; rintro e w3 ⟨rfl, hb3⟩; dsimp only)
          | (go_at_call 53; refine (H4 _ (bstep hB2 hb3)).mono ?_; rintro e w4 ⟨rfl, hb4⟩; dsimp only))
        exact bodyPost_ret (v := .tuple #[.int .i64 0, .iface 82 (.int .i64 4)]) (by unfold results; rw [Tryz.results24]; go_simp) rfl (fin.out _ (bstep (bstep hB2 hb3) hb4))
      | true =>
        have hr' : 0 ≤ atR R.refs b ∨ R.refs.length < 8 := by unfold roomR at hr; simpa using hr
        have eF : leadE R b ps S t = addE R ps S t := by
          have : leadF R b S t = 0 := by unfold leadF; rw [if_neg (fun h => h e0), if_neg (by rw [hr]; decide)]
          unfold leadE; rw [this]; rfl
        have hgA : GoodR (addR R ps S t) := HG.out.add HP.out sS.out h2
        have hlf : (leadR (addR R ps S t).refs b (addI R ps S t)).length ≤ 8 := by
          rw [add_refs]
          exact lead_few HG.out.few hr'
        have hby : ByName (addR R ps S t).refs := hgA.refs
        have hi60 : addE R ps S t = 0 → addI R ps S t ≤ 1000000 := fun h0 => by
          have h9 := add_in h0
          have := hgA.coms.1
          omega
        have HPt := hideO (fun (h0 : addE R ps S t = 0) W cv' OS' P' (hW : RpW W r s bm cv' OS' P' (addR R ps S t)) => Qpoint_any W r s bm cv' OS' P' (addR R ps S t) b (addI R ps S t) hW hby hlf HB.out (hi60 h0))
        have hcall : Hid (∀ (W : World), RowKit.Below w.heap.size w W → ∀ (Q : Ending → World → Prop), (addE R ps S t ≠ 0 → ∀ w', RpTo w r s bm cv OS P R w' → Q (.returned (.tuple #[.int .i64 (addI R ps S t : Int), errV (addE R ps S t)])) w') → (addE R ps S t = 0 → ∀ w' cv' OS' P', RpW w' r s bm cv' OS' P' (addR R ps S t) → Offs (RpO r bm cv OS P) w w' → (∀ j, RpO r bm cv' OS' P' j → RpO r bm cv OS P j ∨ w.heap.size ≤ j) → Q (.returned (.tuple #[.int .i64 (addI R ps S t : Int), .nilIface])) w') → Calls Tryz.prog 55 #[.pointer (some ⟨r, 0, none⟩), .slice pd ps.length pc, .string ⟨(bytesR R ps S).toArray⟩, .string ⟨t.toArray⟩] W Q) := fun W hW Q q1 q2 => by
          refine (HT W hW).mono ?_
          rintro e w' ⟨rfl, hto⟩
          by_cases h0 : addE R ps S t = 0
          · obtain ⟨cv', OS', P', x1, x2, x3⟩ := RpTo.from hW hto
            have := q2 h0 w' cv' OS' P' x1 x2 x3
            rw [h0]
            exact this
          · rw [padd_bad h0] at hto
            exact q1 h0 w' (RpTo.from hW hto)
        have finN : Hid (addE R ps S t ≠ 0 → ∀ w', RpTo w r s bm cv OS P R w' → LeadAns w r s bm cv OS P R b ps S t (.returned (.tuple #[.int .i64 0, errV (addE R ps S t)])) w') := fun h0 w' hto => lead_no h0 eF hto
        have finY : Hid (addE R ps S t = 0 → ∀ w', RpTo w r s bm cv OS P (leadTo (addR R ps S t) b (addI R ps S t)) w' → LeadAns w r s bm cv OS P R b ps S t (.returned (.tuple #[.int .i64 (addI R ps S t : Int), .nilIface])) w') := fun h0 w' hto => lead_yes (eF.trans h0) hto
        clear H5 H6 HT hgA hlf hby hi60 eF HG HP HB h24 sS e0 h1 h2 HH hr
        generalize bytesR R ps S = B at *
        generalize addR R ps S t = RA at *
        generalize addI R ps S t = IA at *
        generalize addE R ps S t = EA at *
        by_cases hA : 0 ≤ atR R.refs b
        · rw [decide_eq_true hA] at H3
          clear H4 hr' hA
          by_cases h0 : EA = 0
          · subst h0
            go_enter Tryz.func24, Tryz.ntmps24
            go_wp2_with fail
            refine H1.mono ?_
            rintro e w1 ⟨rfl, hb1⟩
            dsimp only
            go_wp2_with fail
            refine (H2 _ hb1).mono ?_
            rintro e w2 ⟨rfl, hb2⟩
            dsimp only
            have hB2 := bstep hb1 hb2
            clear hb1 hb2
            go_wp2_with (go_at_call 52; refine (H3 _ hB2).mono ?_; rintro e w3 ⟨rfl, hb3⟩; dsimp only)
            refine (HC _ (bstep hB2 hb3)).mono ?_
            rintro e wc ⟨rfl, hbc⟩
            dsimp only
            go_wp2_with fail
            refine hcall.out _ (bstep (bstep hB2 hb3) hbc) _ (fun h => absurd rfl h) ?_
            intro _ w4 cv' OS' P' x1 x2 x3
            dsimp only
            go_wp2_with fail
            refine (HPt.out (by simp) _ cv' OS' P' x1).mono ?_
            rintro e w5 ⟨rfl, y1, y2⟩
            dsimp only
            go_wp2_with fail
            exact bodyPost_ret (v := .tuple #[.int .i64 (IA : Int), .nilIface]) (by unfold results; rw [Tryz.results24]; go_simp) rfl (finY.out (by simp) _ (RpTo.lead y1 x2 x3 y2))
          · have h0' : (EA == 0) = false := by simpa using h0
            go_enter Tryz.func24, Tryz.ntmps24
            go_wp2_with fail
            refine H1.mono ?_
            rintro e w1 ⟨rfl, hb1⟩
            dsimp only
            go_wp2_with fail
            refine (H2 _ hb1).mono ?_
            rintro e w2 ⟨rfl, hb2⟩
            dsimp only
            have hB2 := bstep hb1 hb2
            clear hb1 hb2
            go_wp2_with (go_at_call 52; refine (H3 _ hB2).mono ?_; rintro e w3 ⟨rfl, hb3⟩; dsimp only)
            refine (HC _ (bstep hB2 hb3)).mono ?_
            rintro e wc ⟨rfl, hbc⟩
            dsimp only
            go_wp2_with fail
            refine hcall.out _ (bstep (bstep hB2 hb3) hbc) _ ?_ (fun h => absurd h h0)
            intro _ w4 hto
            dsimp only
            go_wp2_with fail
            exact bodyPost_ret (v := .tuple #[.int .i64 0, errV EA]) (by unfold results; rw [Tryz.results24]; go_simp) rfl (finN.out h0 _ hto)
        · have h8 : R.refs.length < 8 := by rcases hr' with h | h; exact absurd h hA; exact h
          rw [decide_eq_false hA] at H3
          rw [decide_eq_true h8] at H4
          clear hr' hA h8
          by_cases h0 : EA = 0
          · subst h0
            go_enter Tryz.func24, Tryz.ntmps24
            go_wp2_with fail
            refine H1.mono ?_
            rintro e w1 ⟨rfl, hb1⟩
            dsimp only
            go_wp2_with fail
            refine (H2 _ hb1).mono ?_
            rintro e w2 ⟨rfl, hb2⟩
            dsimp only
            have hB2 := bstep hb1 hb2
            clear hb1 hb2
            go_wp2_with (first
              | (go_at_call 52; refine (H3 _ hB2).mono ?_; rintro e w3 ⟨rfl, hb3⟩; dsimp only)
              | (go_at_call 53; refine (H4 _ (bstep hB2 hb3)).mono ?_; rintro e w4 ⟨rfl, hb4⟩; dsimp only))
            refine (HC _ (bstep (bstep hB2 hb3) hb4)).mono ?_
            rintro e wc ⟨rfl, hbc⟩
            dsimp only
            go_wp2_with fail
            refine hcall.out _ (bstep (bstep (bstep hB2 hb3) hb4) hbc) _ (fun h => absurd rfl h) ?_
            intro _ w5 cv' OS' P' x1 x2 x3
            dsimp only
            go_wp2_with fail
            refine (HPt.out (by simp) _ cv' OS' P' x1).mono ?_
            rintro e w6 ⟨rfl, y1, y2⟩
            dsimp only
            go_wp2_with fail
            exact bodyPost_ret (v := .tuple #[.int .i64 (IA : Int), .nilIface]) (by unfold results; rw [Tryz.results24]; go_simp) rfl (finY.out (by simp) _ (RpTo.lead y1 x2 x3 y2))
          · have h0' : (EA == 0) = false := by simpa using h0
            go_enter Tryz.func24, Tryz.ntmps24
            go_wp2_with fail
            refine H1.mono ?_
            rintro e w1 ⟨rfl, hb1⟩
            dsimp only
            go_wp2_with fail
            refine (H2 _ hb1).mono ?_
            rintro e w2 ⟨rfl, hb2⟩
            dsimp only
            have hB2 := bstep hb1 hb2
            clear hb1 hb2
            go_wp2_with (first
              | (go_at_call 52; refine (H3 _ hB2).mono ?_; rintro e w3 ⟨rfl, hb3⟩; dsimp only)
              | (go_at_call 53; refine (H4 _ (bstep hB2 hb3)).mono ?_; rintro e w4 ⟨rfl, hb4⟩; dsimp only))
            refine (HC _ (bstep (bstep hB2 hb3) hb4)).mono ?_
            rintro e wc ⟨rfl, hbc⟩
            dsimp only
            go_wp2_with fail
            refine hcall.out _ (bstep (bstep (bstep hB2 hb3) hb4) hbc) _ ?_ (fun h => absurd h h0)
            intro _ w5 hto
            dsimp only
            go_wp2_with fail
            exact bodyPost_ret (v := .tuple #[.int .i64 0, errV EA]) (by unfold results; rw [Tryz.results24]; go_simp) rfl (finN.out h0 _ hto)
    · have e0 : setF S t = msgN t := by unfold setF; rw [if_neg (fun h => h h1)]
      have eF : leadE R b ps S t = msgN t := by
        have : leadF R b S t = msgN t := by unfold leadF; rw [e0, if_pos h2]
        unfold leadE; rw [this, if_pos h2]
      rw [h1, show errV 0 = Value.nilIface from rfl] at H1
      have fin : Hid (∀ w', RowKit.Below w.heap.size w w' → LeadAns w r s bm cv OS P R b ps S t (.returned (.tuple #[.int .i64 0, errV (msgN t)])) w') := fun w' hb' => lead_no h2 eF (RpTo.same HH.out hb')
      have h2' : (msgN t == 0) = false := by simpa using h2
      clear H3 H4 H5 H6 eF e0 HG HP HB HH h1 h2
      generalize msgN t = N at *
      go_enter Tryz.func24, Tryz.ntmps24
      go_wp2_with fail
      refine H1.mono ?_
      rintro e w1 ⟨rfl, hb1⟩
      dsimp only
      go_wp2_with fail
      refine (H2 _ hb1).mono ?_
      rintro e w2 ⟨rfl, hb2⟩
      dsimp only
      go_wp2_with fail
      exact bodyPost_ret (v := .tuple #[.int .i64 0, errV N]) (by unfold results; rw [Tryz.results24]; go_simp) rfl (fin.out _ (bstep hb1 hb2))
  · have e0 : setF S t = sortedN S := by unfold setF; rw [if_pos h1]
    have eF : leadE R b ps S t = sortedN S := by
      have : leadF R b S t = sortedN S := by unfold leadF; rw [e0, if_pos h1]
      unfold leadE; rw [this, if_pos h1]
    have fin : Hid (∀ w', RowKit.Below w.heap.size w w' → LeadAns w r s bm cv OS P R b ps S t (.returned (.tuple #[.int .i64 0, errV (sortedN S)])) w') := fun w' hb' => lead_no h1 eF (RpTo.same HH.out hb')
    have h1' : (sortedN S == 0) = false := by simpa using h1
    clear H2 H3 H4 H5 H6 eF e0 HG HP HB HH h1
    generalize sortedN S = N at *
    go_enter Tryz.func24, Tryz.ntmps24
    go_wp2_with fail
    refine H1.mono ?_
    rintro e w1 ⟨rfl, hb1⟩
    dsimp only
    go_wp2_with fail
    exact bodyPost_ret (v := .tuple #[.int .i64 0, errV N]) (by unfold results; rw [Tryz.results24]; go_simp) rfl (fin.out _ hb1)
end Go.Proofs.YtaddfndohoppeaaGreat
