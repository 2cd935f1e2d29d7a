import Derived.Test.YtjlifccaoncfcaaMA0x0
import Derived.Laws.IdiomStrings
import Derived.BigQuiet
import Derived.Deep.QuietTactic
import Derived.OwnWalk
import Derived.Laws.EntriesVeiled

/- slices.ContainsFunc at numbers and at bytes, with whatever test; slices.Contains at numbers. -/
namespace Go.Proofs.Ytjlifccaoncfcaa
open Go Go.RowKit Go.Proofs
set_option synthInstance.maxSize 1000

/-- what is asked of a test: at every number of D it tells p, and leaves what lay there -/
def PredI (g : Nat) (lb : Array Value) (D : Int → Prop) (p : Int → Bool) (w : World) : Prop :=
  ∀ (W : World) (x : Int), RowKit.Below w.heap.size w W → D x → Calls Try.prog g (#[.int .i64 x] ++ lb) W fun e w' => e = .returned (.bool (p x)) ∧ RowKit.Below W.heap.size W w'
theorem PredI.below {g : Nat} {lb : Array Value} {D : Int → Prop} {p : Int → Bool} {w w1 : World} (h : PredI g lb D p w) (hb : RowKit.Below w.heap.size w w1) : PredI g lb D p w1 :=
  fun W x hW hx => h W x (hb.trans (hW.mono hb.size)) hx
theorem any_hit {ids : List Int} {p : Int → Bool} {k : Nat} (hk : k < ids.length) (h : p ids[k] = true) : ids.any p = true := by
  rw [List.any_eq_true]
  exact ⟨_, List.getElem_mem hk, h⟩
theorem any_miss {ids : List Int} {p : Int → Bool} (h : ∀ (j : Nat) (hj : j < ids.length), p ids[j] = false) : ids.any p = false := by
  rw [List.any_eq_false]
  intro x hx
  obtain ⟨j, hj, rfl⟩ := List.getElem_of_mem hx
  rw [h j hj]
  simp

set_option maxHeartbeats 4000000 in
set_option maxRecDepth 100000 in
theorem DIndex_any (g : Nat) (lb : Array Value) (D : Int → Prop) (p : Int → Bool) (w : World) (ad : Option Addr) (ca : Nat) (ids : List Int) (eg : ∀ args w, (callFunc g args).run Try.prog w = .ok (.enter g args) w) (hp : PredI g lb D p w) (hD : ∀ x ∈ ids, D x) (hs : SlI w ad ids) (hl : ids.length ≤ 9223372036854775807) :
    Calls Try.prog 21 #[.slice ad ids.length ca, .func (.func g) #[] lb] w fun e w' => (∃ r : Int, e = .returned (.int .i64 r) ∧ decide (0 ≤ r) = ids.any p) ∧ RowKit.Below w.heap.size w w' := by
  have H : Hid (PredI g lb D p w) := hp
  have HD : Hid (∀ x ∈ ids, D x) := hD
  have HS : Hid (SlI w ad ids) := hs
  clear hp hD hs
  go_enter Try.func21, Try.ntmps21
  go_wp2_with fail
  go_loopw [8] (fun i wr => ∃ (k : Nat), k ≤ ids.length ∧ i = .int .i64 k ∧ RowKit.Below w.heap.size w wr ∧ Hid (∀ (j : Nat) (hj : j < ids.length), j < k → p ids[j] = false)) (fun i wr => ids.length - (intOf i).toNat)
  case atStart => exact ⟨0, Nat.zero_le _, rfl, RowKit.Below.refl _ w, fun j hj h0 => by omega⟩
  case round =>
    obtain ⟨k, hk, rfl, hbr, hall⟩ := hrel
    by_cases hlt : k < ids.length
    · obtain ⟨b, o, rfl, hc⟩ := (HS.out.below hbr).at hlt
      have hcall := H.out wr ids[k] hbr (HD.out _ (List.getElem_mem hlt))
      have i0 : (0 : Int) ≤ (k : Int) := by omega
      have i1 : (k : Int) < (ids.length : Int) := by omega
      have HV : Hid (∀ q, p ids[k] = q → (q = false → (∀ (j : Nat) (hj : j < ids.length), j < k + 1 → p ids[j] = false)) ∧ (q = true → ids.any p = true)) := by
        intro q hq
        refine ⟨fun e j hj h1 => ?_, fun e => any_hit hlt (hq.trans e)⟩
        by_cases ej : j = k
        · subst ej; exact hq.trans e
        · exact hall.out j hj (by omega)
      cases hq : p ids[k] with
      | false =>
        rw [hq] at hcall
        have hnext : Hid (∀ (j : Nat) (hj : j < ids.length), j < k + 1 → p ids[j] = false) := (HV.out _ hq).1 rfl
        clear HV hq hall
        generalize ids[k] = z at *
        go_wp2_with (go_at_fn g; refine hcall.mono ?_; rintro e w' ⟨rfl, hb'⟩; dsimp only)
        go_roundw
        case rel => exact ⟨k + 1, by omega, by go_num, bstep hbr hb', hnext⟩
        case measure => simp [intOf]; omega
      | true =>
        rw [hq] at hcall
        have hno2 : Hid (ids.any p = true) := (HV.out _ hq).2 rfl
        clear HV hq hall
        generalize ids[k] = z at *
        go_wp2_with (go_at_fn g; refine hcall.mono ?_; rintro e w' ⟨rfl, hb'⟩; dsimp only)
        go_ret
        exact ⟨⟨(k : Int), rfl, by rw [hno2.out]; simp⟩, bstep hbr hb'⟩
    · have hkk : k = ids.length := by omega
      have hyes : Hid (ids.any p = false) := any_miss fun j hj => hall.out j hj (by omega)
      subst hkk
      clear hall
      go_wp2_with fail
      go_ret
      exact ⟨⟨-1, rfl, by rw [hyes.out]; rfl⟩, hbr⟩

set_option maxHeartbeats 1000000 in
theorem DContains_any (g : Nat) (lb : Array Value) (D : Int → Prop) (p : Int → Bool) (w : World) (ad : Option Addr) (ca : Nat) (ids : List Int) (eg : ∀ args w, (callFunc g args).run Try.prog w = .ok (.enter g args) w) (hp : PredI g lb D p w) (hD : ∀ x ∈ ids, D x) (hs : SlI w ad ids) (hl : ids.length ≤ 9223372036854775807) :
    Calls Try.prog 15 #[.slice ad ids.length ca, .func (.func g) #[] lb] w fun e w' => e = .returned (.bool (ids.any p)) ∧ RowKit.Below w.heap.size w w' := by
  have hc := DIndex_any g lb D p w ad ca ids eg hp hD hs hl
  clear hp hD hs
  generalize ids.any p = q at *
  go_enter Try.func15, Try.ntmps15
  go_wp2_with (go_at_call 21; refine hc.mono ?_; rintro e w' ⟨⟨r, rfl, hr⟩, hb⟩; dsimp only; have hr2 : Hid _ := hr; clear hr)
  go_ret
  refine ⟨?_, hb⟩
  rw [← hr2.out]
  simp

/-- bytes in a block -/
def SlBy (w : World) (b : Nat) (l : List UInt8) : Prop := ∀ (j : Nat) (hj : j < l.length), w.cell? ⟨b, j, none⟩ = some (.int .u8 (l[j].toNat : Int))
set_option maxHeartbeats 4000000 in
set_option maxRecDepth 100000 in
theorem DIndexB_any (g : Nat) (p : Int → Bool) (w : World) (b : Nat) (ca : Nat) (l : List UInt8) (eg : ∀ args w, (callFunc g args).run Try.prog w = .ok (.enter g args) w) (hp : ∀ (n : Int) (w : World), Calls Try.prog g #[.int .u8 n] w fun e w' => e = .returned (.bool (p n)) ∧ w' = w) (hs : SlBy w b l) (hl : l.length ≤ 9223372036854775807) :
    Calls Try.prog 28 #[.slice (some ⟨b, 0, none⟩) l.length ca, .func (.func g) #[] #[]] w fun e w' => (∃ r : Int, e = .returned (.int .i64 r) ∧ decide (0 ≤ r) = l.any fun c => p (c.toNat : Int)) ∧ w' = w := by
  have H : Hid (∀ (n : Int) (w : World), Calls Try.prog g #[.int .u8 n] w fun e w' => e = .returned (.bool (p n)) ∧ w' = w) := hp
  have HS : Hid (SlBy w b l) := hs
  clear hp hs
  go_enter Try.func28, Try.ntmps28
  go_wp2_with fail
  go_loopw [8] (fun i wr => ∃ (k : Nat), k ≤ l.length ∧ i = .int .i64 k ∧ wr = w ∧ Hid (∀ (j : Nat) (hj : j < l.length), j < k → p (l[j].toNat : Int) = false)) (fun i wr => l.length - (intOf i).toNat)
  case atStart => exact ⟨0, Nat.zero_le _, rfl, rfl, fun j hj h0 => by omega⟩
  case round =>
    obtain ⟨k, hk, rfl, hw, hall⟩ := hrel
    obtain rfl : w = wr := hw.symm
    by_cases hlt : k < l.length
    · have hc := HS.out k hlt
      have i0 : (0 : Int) ≤ (k : Int) := by omega
      have i1 : (k : Int) < (l.length : Int) := by omega
      have hcall := H.out (l[k].toNat : Int) w
      have HV : Hid (∀ q, p (l[k].toNat : Int) = q → (q = false → (∀ (j : Nat) (hj : j < l.length), j < k + 1 → p (l[j].toNat : Int) = false)) ∧ (q = true → (l.any fun c => p (c.toNat : Int)) = true)) := by
        intro q hq
        refine ⟨fun e j hj h1 => ?_, fun e => ?_⟩
        · by_cases ej : j = k
          · subst ej; exact hq.trans e
          · exact hall.out j hj (by omega)
        · rw [List.any_eq_true]
          exact ⟨_, List.getElem_mem hlt, hq.trans e⟩
      cases hq : p (l[k].toNat : Int) with
      | false =>
        rw [hq] at hcall
        have hnext : Hid (∀ (j : Nat) (hj : j < l.length), j < k + 1 → p (l[j].toNat : Int) = false) := (HV.out _ hq).1 rfl
        clear HV hq hall
        generalize (l[k].toNat : Int) = z at *
        go_wp2_with (go_at_fn g; refine hcall.mono ?_; rintro e w' ⟨rfl, hb'⟩; subst hb'; dsimp only)
        go_roundw
        case rel => exact ⟨k + 1, by omega, by go_num, by trivial, hnext⟩
        case measure => simp [intOf]; omega
      | true =>
        rw [hq] at hcall
        have hno2 : Hid ((l.any fun c => p (c.toNat : Int)) = true) := (HV.out _ hq).2 rfl
        clear HV hq hall
        generalize (l[k].toNat : Int) = z at *
        go_wp2_with (go_at_fn g; refine hcall.mono ?_; rintro e w' ⟨rfl, hb'⟩; subst hb'; dsimp only)
        go_ret
        exact ⟨⟨(k : Int), rfl, by rw [hno2.out]; simp⟩, rfl⟩
    · have hkk : k = l.length := by omega
      have hyes : Hid ((l.any fun c => p (c.toNat : Int)) = false) := by
        show _ = _
        rw [List.any_eq_false]
        intro x hx
        obtain ⟨j, hj, rfl⟩ := List.getElem_of_mem hx
        rw [hall.out j hj (by omega)]
        simp
      subst hkk
      clear hall
      go_wp2_with fail
      go_ret
      exact ⟨⟨-1, rfl, by rw [hyes.out]; rfl⟩, rfl⟩

set_option maxHeartbeats 1000000 in
theorem DContainsB_any (g : Nat) (p : Int → Bool) (w : World) (b : Nat) (ca : Nat) (l : List UInt8) (eg : ∀ args w, (callFunc g args).run Try.prog w = .ok (.enter g args) w) (hp : ∀ (n : Int) (w : World), Calls Try.prog g #[.int .u8 n] w fun e w' => e = .returned (.bool (p n)) ∧ w' = w) (hs : SlBy w b l) (hl : l.length ≤ 9223372036854775807) :
    Calls Try.prog 26 #[.slice (some ⟨b, 0, none⟩) l.length ca, .func (.func g) #[] #[]] w fun e w' => e = .returned (.bool (l.any fun c => p (c.toNat : Int))) ∧ w' = w := by
  have hc := DIndexB_any g p w b ca l eg hp hs hl
  clear hp hs
  generalize (l.any fun c => p (c.toNat : Int)) = q at *
  go_enter Try.func26, Try.ntmps26
  go_wp2_with (go_at_call 28; refine hc.mono ?_; rintro e w' ⟨⟨r, rfl, hr⟩, hb⟩; subst hb; dsimp only; have hr2 : Hid _ := hr; clear hr)
  go_ret
  refine ⟨?_, rfl⟩
  rw [← hr2.out]
  simp

set_option maxHeartbeats 4000000 in
set_option maxRecDepth 100000 in
theorem DIdx_any (w : World) (ad : Option Addr) (ca : Nat) (ids : List Int) (n : Int) (hs : SlI w ad ids) (hl : ids.length ≤ 9223372036854775807) :
    Calls Try.prog 22 #[.slice ad ids.length ca, .int .i64 n] w fun e w' => (∃ r : Int, e = .returned (.int .i64 r) ∧ decide (0 ≤ r) = decide (n ∈ ids)) ∧ w' = w := by
  have HS : Hid (SlI w ad ids) := hs
  clear hs
  obtain ⟨q, hq⟩ : ∃ q, decide (n ∈ ids) = q := ⟨_, rfl⟩
  rw [hq]
  have HQ := hideO hq
  clear hq
  go_enter Try.func22, Try.ntmps22
  go_wp2_with fail
  go_loopw [8] (fun i wr => ∃ (k : Nat), k ≤ ids.length ∧ i = .int .i64 k ∧ wr = w ∧ Hid (∀ (j : Nat) (hj : j < ids.length), j < k → ids[j] ≠ n)) (fun i wr => ids.length - (intOf i).toNat)
  case atStart => exact ⟨0, Nat.zero_le _, rfl, rfl, fun j hj h0 => by omega⟩
  case round =>
    obtain ⟨k, hk, rfl, hw, hall⟩ := hrel
    obtain rfl : w = wr := hw.symm
    by_cases hlt : k < ids.length
    · obtain ⟨b, o, rfl, hc⟩ := HS.out.at hlt
      have i0 : (0 : Int) ≤ (k : Int) := by omega
      have i1 : (k : Int) < (ids.length : Int) := by omega
      by_cases he : n = ids[k]
      · have hd : (n == ids[k]) = true := by simpa using he
        have hf : Hid (q = true) := by
          show _ = _
          rw [← HQ.out, decide_eq_true_eq, he]
          exact List.getElem_mem hlt
        clear he hall
        generalize ids[k] = z at *
        go_wp2_with fail
        go_ret
        exact ⟨⟨(k : Int), rfl, by rw [hf.out]; simp⟩, rfl⟩
      · have hd : (n == ids[k]) = false := by simpa using he
        have hnext : Hid (∀ (j : Nat) (hj : j < ids.length), j < k + 1 → ids[j] ≠ n) := fun j hj h1 => by
          by_cases ej : j = k
          · subst ej; exact fun e => he e.symm
          · exact hall.out j hj (by omega)
        clear he hall
        generalize ids[k] = z at *
        go_wp2_with fail
        go_roundw
        case rel => exact ⟨k + 1, by omega, by go_num, by trivial, hnext⟩
        case measure => simp [intOf]; omega
    · have hkk : k = ids.length := by omega
      have hyes : Hid (q = false) := by
        show _ = _
        rw [← HQ.out, decide_eq_false_iff_not]
        intro hm
        obtain ⟨j, hj, e⟩ := List.getElem_of_mem hm
        exact hall.out j hj (by omega) e
      subst hkk
      clear hall
      go_wp2_with fail
      go_ret
      exact ⟨⟨-1, rfl, by rw [hyes.out]; rfl⟩, rfl⟩
set_option maxHeartbeats 1000000 in
theorem DIn_any (w : World) (ad : Option Addr) (ca : Nat) (ids : List Int) (n : Int) (hs : SlI w ad ids) (hl : ids.length ≤ 9223372036854775807) :
    Calls Try.prog 17 #[.slice ad ids.length ca, .int .i64 n] w fun e w' => e = .returned (.bool (decide (n ∈ ids))) ∧ w' = w := by
  have hc := DIdx_any w ad ca ids n hs hl
  clear hs
  generalize decide (n ∈ ids) = q at *
  go_enter Try.func17, Try.ntmps17
  go_wp2_with (go_at_call 22; refine hc.mono ?_; rintro e w' ⟨⟨r, rfl, hr⟩, hb⟩; subst hb; dsimp only; have hr2 : Hid _ := hr; clear hr)
  go_ret
  refine ⟨?_, rfl⟩
  rw [← hr2.out]
  simp
end Go.Proofs.Ytjlifccaoncfcaa

/- The program's dag: Check, checkAll. -/
namespace Go.Proofs.Ytjlifccaoncfcaa
open Go Go.RowKit Go.Proofs
set_option synthInstance.maxSize 1000

theorem dmsg1_any (n : Int) (w : World) :
    Calls Try.prog 27 #[.int .u8 n] w fun e w' => e = .returned (.bool (decide (n < 32 ∨ 126 < n))) ∧ w' = w := by
  by_cases h1 : n < 32
  all_goals
    go_enter Try.func27, Try.ntmps27
    go_wp2
    go_ret
    exact ⟨ret_bool (by rw [Bool.eq_iff_iff]; simp; omega), rfl⟩
theorem okM_any (l : List UInt8) : okM l = !(l.any fun c => decide ((c.toNat : Int) < 32 ∨ 126 < (c.toNat : Int))) := by
  unfold okM
  rw [List.not_any_eq_all_not]
  congr 1
  funext c
  rw [Bool.eq_iff_iff]
  simp
  omega
theorem dbytes_of (l : List UInt8) (w1 : World) : ∃ cap w2, (convert 9 51 (.string ⟨l.toArray⟩)).run Try.prog w1 = .ok (.slice (some ⟨w1.heap.size, 0, none⟩) l.length cap) w2 ∧ RowKit.Below w1.heap.size w1 w2 ∧ SlBy w2 w1.heap.size l := by
  refine ⟨_, _, run_bytes_of_string (P := Try.prog) w1 9 51 5 ⟨l.toArray⟩ Try.underlying9 Try.underlying51 (by kernel_rfl), (RowKit.Below.refl _ w1).drew.alloc (Nat.le_refl _) _, fun j hj => ?_⟩
  exact (World.cell?_alloc_mark w1.drew _ _ _ j).trans (bytesRow_at ⟨l.toArray⟩ _ j hj)
set_option maxHeartbeats 1000000 in
theorem dmsg_any (l : List UInt8) (w : World) (hl : l.length ≤ maxLen) :
    Calls Try.prog 25 #[.string ⟨l.toArray⟩] w fun e w' => e = .returned (.bool (okM l)) ∧ RowKit.Below w.heap.size w w' := by
  have eg : ∀ args w, (callFunc 27 args).run Try.prog w = .ok (.enter 27 args) w := enters_of Try.func27 (by kernel_rfl) rfl
  obtain ⟨cap, w2, hrun, hb2, hs2⟩ := dbytes_of l w
  have hc := DContainsB_any 27 (fun n => decide (n < 32 ∨ 126 < n)) w2 w.heap.size cap l eg dmsg1_any hs2 (by unfold maxLen at hl; omega)
  have hf := hideO (okM_any l)
  have hb := hideO hb2
  generalize (l.any fun c => decide ((c.toNat : Int) < 32 ∨ 126 < (c.toNat : Int))) = q at *
  clear hs2 hb2
  go_enter Try.func25, Try.ntmps25
  go_wp2_with (go_at_call 26; refine hc.mono ?_; rintro e w' ⟨rfl, hw⟩; subst hw; dsimp only)
  go_ret
  exact ⟨ret_bool (by rw [hf.out]), hb.out⟩

theorem dchk1_any (W : World) (B : Nat) (x i : Int) (hB : W.cell? ⟨B, 0, none⟩ = some (.int .i64 i)) :
    Calls Try.prog 24 #[.int .i64 x, .pointer (some ⟨B, 0, none⟩)] W fun e w' => e = .returned (.bool (decide (x < 0 ∨ i ≤ x))) ∧ RowKit.Below W.heap.size W w' := by
  by_cases h1 : x < 0
  all_goals
    go_enter Try.func24, Try.ntmps24
    go_wp2
    go_ret
    exact ⟨ret_bool (by rw [Bool.eq_iff_iff]; simp; omega), RowKit.Below.refl _ _⟩
theorem range_any (ids : List Int) (i : Nat) : (ids.any fun x => decide (x < 0 ∨ (i : Int) ≤ x)) = !rangeB ids i := by
  unfold rangeB
  rw [List.not_all_eq_any_not]
  congr 1
  funext x
  rw [Bool.eq_iff_iff]
  simp
theorem dchkIn_any (W : World) (B : Nat) (i : Nat) (ad : Option Addr) (ca : Nat) (ids : List Int) (hB : W.cell? ⟨B, 0, none⟩ = some (.int .i64 (i : Int))) (hs : SlI W ad ids) (hl : ids.length ≤ maxLen) :
    Calls Try.prog 15 #[.slice ad ids.length ca, .func (.func 24) #[] #[.pointer (some ⟨B, 0, none⟩)]] W fun e w' => e = .returned (.bool (!rangeB ids i)) ∧ RowKit.Below W.heap.size W w' := by
  have eg : ∀ args w, (callFunc 24 args).run Try.prog w = .ok (.enter 24 args) w := enters_of Try.func24 (by kernel_rfl) rfl
  have := DContains_any 24 #[.pointer (some ⟨B, 0, none⟩)] (fun _ => True) (fun x => decide (x < 0 ∨ (i : Int) ≤ x)) W ad ca ids eg (fun W' x hW _ => dchk1_any W' B x i ((hW.cell (World.block_lt_of_cell? W _ hB)).trans hB)) (fun _ _ => trivial) hs (by unfold maxLen at hl; omega)
  rw [range_any] at this
  exact this
theorem oneBox {w W : World} {T T2 : TypeId} {a0 a1 a2 b0 : Value}
    (hb : RowKit.Below ((w.alloc (.cells #[a0, a1, a2] T)).alloc (.cells #[b0] T2)).heap.size ((w.alloc (.cells #[a0, a1, a2] T)).alloc (.cells #[b0] T2)) W) :
    W.cell? ⟨w.heap.size, 0, none⟩ = some a0 ∧ W.cell? ⟨w.heap.size, 1, none⟩ = some a1 ∧ W.cell? ⟨w.heap.size, 2, none⟩ = some a2 ∧ W.cell? ⟨w.heap.size + 1, 0, none⟩ = some b0 ∧ RowKit.Below w.heap.size w W ∧ w.heap.size + 1 < W.heap.size := by
  obtain ⟨h, _⟩ := bcell hb
  have hs := hb.size
  refine ⟨?_, ?_, ?_, ?_, bstep (bstep (balloc _ _) (balloc _ _)) hb, by simp at hs; omega⟩
  all_goals rw [h] <;> first | go_simp | (simp <;> omega)
theorem dtwin_two (p q : Int) : twinB [p, q] = decide (p = q) := rfl
theorem dtwin_eq (p q : Int) : twinB [p, q] = (p == q) := by
  rw [dtwin_two, Bool.eq_iff_iff]
  simp
theorem dtwin_at {ps : List Int} (h : ps.length = 2) : twinB ps = (ps[0] == ps[1]) := by
  match ps, h with
  | [p, q], _ => exact dtwin_eq p q
theorem dtwin_not {ps : List Int} (h : ps.length ≠ 2) : twinB ps = false := by
  unfold twinB
  split
  · simp at h
  · rfl

set_option maxHeartbeats 8000000 in
set_option maxRecDepth 100000 in
theorem dchkOne_any (w : World) (a : Option Addr) (ca : Nat) (ps : List Int) (ly : Int) (ms : List UInt8) (i : Nat) (hs : SlI w a ps) (hl : ps.length ≤ maxLen) (hm : ms.length ≤ maxLen) :
    Calls Try.prog 23 #[.agg #[.slice a ps.length ca, .int .i64 ly, .string ⟨ms.toArray⟩], .int .i64 (i : Int)] w fun e w' => e = .returned (errV (comN (ps, ly, ms) i)) ∧ RowKit.Below w.heap.size w w' := by
  obtain ⟨v, hv⟩ : ∃ v, errV (comN (ps, ly, ms) i) = v := ⟨_, rfl⟩
  rw [hv]
  have HV := hideO hv
  have HS := hideO hs
  have HM := hideO hm
  have HL := hideO hl
  clear hv hs hm hl
  have hmx : (ps.length : Int) ≤ 9223372036854775807 ∧ (ms.length : Int) ≤ 9223372036854775807 := by
    have h1 := HL.out
    have h2 := HM.out
    unfold maxLen at h1 h2
    omega
  obtain ⟨hmx1, hmx2⟩ := hmx
  by_cases h1 : 2 < ps.length
  · have hf : Hid (v = errV 4) := by show _ = _; rw [← HV.out]; unfold comN; rw [if_pos (Or.inl h1)]
    have j1 : (2 : Int) < (ps.length : Int) := by omega
    go_enter Try.func23, Try.ntmps23
    go_wp2_with fail
    go_ret
    exact ⟨by rw [hf.out]; rfl, bstep (balloc _ _) (balloc _ _)⟩
  have j1 : ¬ (2 : Int) < (ps.length : Int) := by omega
  by_cases h2 : 24 < ms.length
  · have hf : Hid (v = errV 4) := by show _ = _; rw [← HV.out]; unfold comN; rw [if_pos (Or.inr (by show msgN ms = 4; unfold msgN; rw [if_pos h2]))]
    have j2 : (24 : Int) < (ms.length : Int) := by omega
    go_enter Try.func23, Try.ntmps23
    go_wp2_with fail
    go_ret
    exact ⟨by rw [hf.out]; rfl, bstep (balloc _ _) (balloc _ _)⟩
  have j2 : ¬ (24 : Int) < (ms.length : Int) := by omega
  have hmsg : msgN ms = if okM ms = true then 0 else 2 := by unfold msgN; rw [if_neg h2]
  have hne4 : ¬ (2 < ps.length ∨ msgN ms = 4) := by
    rw [hmsg]
    rintro (h | h)
    · exact h1 h
    · split at h <;> cases h
  have HV2 : Hid (v = errV (if rangeB ps i = false then 1 else if twinB ps = true then 7 else if okM ms = true then (if ly < 1 ∨ 300 < ly then 1 else 0) else 2)) := by
    show _ = _
    rw [← HV.out]
    unfold comN
    rw [if_neg hne4]
    dsimp only
    rw [hmsg]
    cases okM ms <;> simp
  clear HV hmsg hne4 h1 h2
  cases hr : rangeB ps i with
  | false =>
    have hf : Hid (v = errV 1) := by show _ = _; rw [HV2.out, hr]; rfl
    go_enter Try.func23, Try.ntmps23
    go_wp2_with (go_at_call 15; refine (dchkIn_any _ _ i _ _ ps (by go_simp) (HS.out.below (bstep (balloc _ _) (balloc _ _))) HL.out).mono ?_; rintro e w1 ⟨rfl, hb1⟩; rw [hr]; dsimp only)
    go_ret
    exact ⟨by rw [hf.out]; rfl, bstep (bstep (balloc _ _) (balloc _ _)) hb1⟩
  | true =>
    have HV3 : Hid (v = errV (if twinB ps = true then 7 else if okM ms = true then (if ly < 1 ∨ 300 < ly then 1 else 0) else 2)) := by show _ = _; rw [HV2.out, hr]; rfl
    clear HV2
    have HR := hideO hr
    clear hr
    go_enter Try.func23, Try.ntmps23
    go_wp2_with (go_at_call 15; refine (dchkIn_any _ _ i _ _ ps (by go_simp) (HS.out.below (bstep (balloc _ _) (balloc _ _))) HL.out).mono ?_; rintro e w1 ⟨rfl, hb1⟩; rw [HR.out]; dsimp only)
    obtain ⟨c0, c1, c2, c3, hbw, hz⟩ := oneBox hb1
    have Hbw := hideO hbw
    have hz' : w.heap.size < w1.heap.size := by omega
    clear hb1 HR c3 hz
    by_cases h3 : ps.length = 2
    · obtain ⟨b, o, hab, e0⟩ := (HS.out.below hbw).at (j := 0) (by omega)
      obtain ⟨b', o', hab', e1⟩ := (HS.out.below hbw).at (j := 1) (by omega)
      rw [hab] at hab'
      cases hab'
      subst hab
      rw [Nat.add_zero] at e0
      have t2 : ((ps.length : Int) == 2) = true := by simp; omega
      have i1 : (0 : Int) < (ps.length : Int) := by omega
      have i2 : (1 : Int) < (ps.length : Int) := by omega
      have i3 : 0 < ps.length := by omega
      have i4 : 1 < ps.length := by omega
      have htw : Hid (twinB ps = (ps[0] == ps[1])) := dtwin_at h3
      generalize ps[0] = p at *
      generalize ps[1] = q at *
      clear h3 hbw
      cases hpq : (p == q) with
      | true =>
        have hf : Hid (v = errV 7) := by show _ = _; rw [HV3.out, htw.out, hpq]; rfl
        clear HV3 htw
        go_wp2_with fail
        go_quiet (fail)
        go_wp2_with fail
        go_ret
        exact ⟨by rw [hf.out]; rfl, Hbw.out.trans ⟨rfl, rfl, rfl, Nat.le_refl _, fun _ _ => rfl⟩⟩
      | false =>
        have HV4 : Hid (v = errV (if okM ms = true then (if ly < 1 ∨ 300 < ly then 1 else 0) else 2)) := by show _ = _; rw [HV3.out, htw.out, hpq]; rfl
        clear HV3 htw
        go_wp2_with fail
        go_quiet (fail)
        have hbq : Hid (RowKit.Below w.heap.size w (w1.drewN nq)) := Hbw.out.trans ⟨rfl, rfl, rfl, Nat.le_refl _, fun _ _ => rfl⟩
        cases hok : okM ms with
        | false =>
          have hf : Hid (v = errV 2) := by show _ = _; rw [HV4.out, hok]; rfl
          clear HV4
          go_wp2_with (go_at_call 25; refine (dmsg_any ms _ HM.out).mono ?_; rintro e w2 ⟨rfl, hb2⟩; rw [hok]; dsimp only)
          go_ret
          exact ⟨by rw [hf.out]; rfl, bstep hbq.out hb2⟩
        | true =>
          have HV5 : Hid (v = errV (if ly < 1 ∨ 300 < ly then 1 else 0)) := by show _ = _; rw [HV4.out, hok]; rfl
          clear HV4
          by_cases h5 : ly < 1
          · have hf : Hid (v = errV 1) := by show _ = _; rw [HV5.out, if_pos (Or.inl h5)]
            clear HV5
            go_wp2_with (go_at_call 25; refine (dmsg_any ms _ HM.out).mono ?_; rintro e w2 ⟨rfl, hb2⟩; rw [hok]; dsimp only; have k1 := ((bcell hb2).1 _ 1 hz').trans c1)
            go_ret
            exact ⟨by rw [hf.out]; rfl, bstep hbq.out hb2⟩
          · by_cases h6 : 300 < ly
            · have hf : Hid (v = errV 1) := by show _ = _; rw [HV5.out, if_pos (Or.inr h6)]
              clear HV5
              go_wp2_with (go_at_call 25; refine (dmsg_any ms _ HM.out).mono ?_; rintro e w2 ⟨rfl, hb2⟩; rw [hok]; dsimp only; have k1 := ((bcell hb2).1 _ 1 hz').trans c1)
              go_ret
              exact ⟨by rw [hf.out]; rfl, bstep hbq.out hb2⟩
            · have hf : Hid (v = errV 0) := by show _ = _; rw [HV5.out, if_neg (by omega)]
              clear HV5
              go_wp2_with (go_at_call 25; refine (dmsg_any ms _ HM.out).mono ?_; rintro e w2 ⟨rfl, hb2⟩; rw [hok]; dsimp only; have k1 := ((bcell hb2).1 _ 1 hz').trans c1)
              go_ret
              exact ⟨by rw [hf.out]; rfl, bstep hbq.out hb2⟩
    · have t2 : ((ps.length : Int) == 2) = false := by simp; omega
      have HV4 : Hid (v = errV (if okM ms = true then (if ly < 1 ∨ 300 < ly then 1 else 0) else 2)) := by show _ = _; rw [HV3.out, dtwin_not h3]; rfl
      clear HV3 h3 hbw
      go_wp2_with fail
      go_quiet (fail)
      have hbq : Hid (RowKit.Below w.heap.size w (w1.drewN nq)) := Hbw.out.trans ⟨rfl, rfl, rfl, Nat.le_refl _, fun _ _ => rfl⟩
      cases hok : okM ms with
      | false =>
        have hf : Hid (v = errV 2) := by show _ = _; rw [HV4.out, hok]; rfl
        clear HV4
        go_wp2_with (go_at_call 25; refine (dmsg_any ms _ HM.out).mono ?_; rintro e w2 ⟨rfl, hb2⟩; rw [hok]; dsimp only)
        go_ret
        exact ⟨by rw [hf.out]; rfl, bstep hbq.out hb2⟩
      | true =>
        have HV5 : Hid (v = errV (if ly < 1 ∨ 300 < ly then 1 else 0)) := by show _ = _; rw [HV4.out, hok]; rfl
        clear HV4
        by_cases h5 : ly < 1
        · have hf : Hid (v = errV 1) := by show _ = _; rw [HV5.out, if_pos (Or.inl h5)]
          clear HV5
          go_wp2_with (go_at_call 25; refine (dmsg_any ms _ HM.out).mono ?_; rintro e w2 ⟨rfl, hb2⟩; rw [hok]; dsimp only; have k1 := ((bcell hb2).1 _ 1 hz').trans c1)
          go_ret
          exact ⟨by rw [hf.out]; rfl, bstep hbq.out hb2⟩
        · by_cases h6 : 300 < ly
          · have hf : Hid (v = errV 1) := by show _ = _; rw [HV5.out, if_pos (Or.inr h6)]
            clear HV5
            go_wp2_with (go_at_call 25; refine (dmsg_any ms _ HM.out).mono ?_; rintro e w2 ⟨rfl, hb2⟩; rw [hok]; dsimp only; have k1 := ((bcell hb2).1 _ 1 hz').trans c1)
            go_ret
            exact ⟨by rw [hf.out]; rfl, bstep hbq.out hb2⟩
          · have hf : Hid (v = errV 0) := by show _ = _; rw [HV5.out, if_neg (by omega)]
            clear HV5
            go_wp2_with (go_at_call 25; refine (dmsg_any ms _ HM.out).mono ?_; rintro e w2 ⟨rfl, hb2⟩; rw [hok]; dsimp only; have k1 := ((bcell hb2).1 _ 1 hz').trans c1)
            go_ret
            exact ⟨by rw [hf.out]; rfl, bstep hbq.out hb2⟩

theorem errV_some {n : Int} (h : n ≠ 0) : errV n = .iface 44 (.int .i64 n) := by unfold errV; rw [if_neg h]
set_option maxHeartbeats 8000000 in
set_option maxRecDepth 100000 in
theorem DCheck_any (w : World) (ad : Option Addr) (ca : Nat) (l : List Cm) (h : ComsOK w ad ca l) :
    Calls Try.prog 18 #[.slice ad l.length ca] w fun e w' => e = .returned (.tuple #[.int .i64 ((comsN l).1 : Int), errV (comsN l).2]) ∧ RowKit.Below w.heap.size w w' := by
  have H := hideO h
  have hmx : (l.length : Int) ≤ 9223372036854775807 := by have := h.len; unfold maxLen at this; omega
  clear h
  obtain ⟨v, hv⟩ : ∃ v, Value.tuple #[.int .i64 ((comsN l).1 : Int), errV (comsN l).2] = v := ⟨_, rfl⟩
  rw [hv]
  have HV := hideO hv
  clear hv
  by_cases h60 : 60 < l.length
  · have hf : Hid (v = .tuple #[.int .i64 0, errV 4]) := by show _ = _; rw [← HV.out]; unfold comsN; rw [if_pos h60]; rfl
    have j1 : (60 : Int) < (l.length : Int) := by omega
    go_enter Try.func18, Try.ntmps18
    go_wp2_with fail
    exact bodyPost_ret (v := .tuple #[.int .i64 0, .iface 44 (.int .i64 4)]) (by simp [results, Try.results18, go_sem]) rfl ⟨by rw [hf.out]; rfl, RowKit.Below.refl _ _⟩
  have j1 : ¬ (60 : Int) < (l.length : Int) := by omega
  have HV2 : Hid (v = .tuple #[.int .i64 ((firstC l 0).1 : Int), errV (firstC l 0).2]) := by show _ = _; rw [← HV.out]; unfold comsN; rw [if_neg h60]
  clear HV h60
  go_enter Try.func18, Try.ntmps18
  go_wp2_with fail
  go_loopw [13] (fun i wr => ∃ (k : Nat), k ≤ l.length ∧ i = .int .i64 k ∧ RowKit.Below w.heap.size w wr ∧ Hid (∀ (j : Nat) (hj : j < l.length), j < k → comN l[j] j = 0)) (fun i wr => l.length - (intOf i).toNat)
  case atStart => exact ⟨0, Nat.zero_le _, rfl, RowKit.Below.refl _ w, fun j hj h0 => by omega⟩
  case round =>
    obtain ⟨k, hk, rfl, hbr, hall⟩ := hrel
    by_cases hlt : k < l.length
    · obtain ⟨b, o, a, c, rfl, c0, c1, c2, hsp⟩ := (H.out.sl.below hbr).at hlt
      have i0 : (0 : Int) ≤ (k : Int) := by omega
      have i1 : (k : Int) < (l.length : Int) := by omega
      have hcall : Hid (∀ W, RowKit.Below wr.heap.size wr W → Calls Try.prog 23 #[.agg #[.slice a l[k].1.length c, .int .i64 l[k].2.1, .string ⟨l[k].2.2.toArray⟩], .int .i64 (k : Int)] W fun e w' => e = .returned (errV (comN l[k] k)) ∧ RowKit.Below W.heap.size W w') := fun W hW =>
        dchkOne_any W a c l[k].1 l[k].2.1 l[k].2.2 k (hsp.below hW) (H.out.pars _ (List.getElem_mem hlt)) (H.out.msg _ (List.getElem_mem hlt))
      have HN : Hid (comN l[k] k = 0 → ∀ (j : Nat) (hj : j < l.length), j < k + 1 → comN l[j] j = 0) := fun e j hj h1 => by
        by_cases ej : j = k
        · subst ej; exact e
        · exact hall.out j hj (by omega)
      have HF : Hid (comN l[k] k ≠ 0 → v = .tuple #[.int .i64 (k : Int), errV (comN l[k] k)]) := fun e => by
        rw [HV2.out, firstC_at hlt (fun j hj => by simpa using hall.out j (by omega) hj) (by simpa using e)]
        simp
      clear hsp hall
      generalize l[k].1.length = n0 at *
      generalize l[k].2.1 = ly at *
      generalize l[k].2.2.toArray = ms at *
      generalize comN l[k] k = nn at *
      by_cases hnn : nn = 0
      · subst hnn
        have hnext := hideO (HN.out rfl)
        clear HN HF
        go_wp2_with (go_at_call 23; refine (hcall.out _ (balloc _ _)).mono ?_; rintro e w1 ⟨rfl, hb1⟩; rw [show errV 0 = Value.nilIface from rfl]; dsimp only)
        go_roundw
        case rel => exact ⟨k + 1, by omega, by go_num, bstep hbr (bstep (balloc _ _) hb1), hnext⟩
        case measure => simp [intOf]; omega
      · have hf := hideO (HF.out hnn)
        have hev := hideO (errV_some hnn)
        clear HN HF hnn
        go_wp2_with (go_at_call 23; refine (hcall.out _ (balloc _ _)).mono ?_; rintro e w1 ⟨rfl, hb1⟩; rw [hev.out]; dsimp only)
        exact bodyPost_ret (v := .tuple #[.int .i64 (k : Int), .iface 44 (.int .i64 nn)]) (by simp [results, Try.results18, go_sem]) rfl ⟨by rw [hf.out, hev.out], bstep hbr (bstep (balloc _ _) hb1)⟩
    · have hkk : k = l.length := by omega
      have hyes : Hid (v = .tuple #[.int .i64 0, errV 0]) := by
        show _ = _
        rw [HV2.out, firstC_none fun j hj => by simpa using hall.out j hj (by omega)]
        rfl
      subst hkk
      clear hall
      go_wp2_with fail
      exact bodyPost_ret (v := .tuple #[.int .i64 0, .nilIface]) (by simp [results, Try.results18, go_sem]) rfl ⟨by rw [hyes.out]; rfl, hbr⟩

theorem dall1_any (W : World) (B : Nat) (ad : Option Addr) (n ca : Nat) (x : Int) (hB : W.cell? ⟨B, 0, none⟩ = some (.slice ad n ca)) :
    Calls Try.prog 19 #[.int .i64 x, .pointer (some ⟨B, 0, none⟩)] W fun e w' => e = .returned (.bool (decide (x < 0 ∨ (n : Int) ≤ x))) ∧ RowKit.Below W.heap.size W w' := by
  by_cases h1 : x < 0
  all_goals
    go_enter Try.func19, Try.ntmps19
    go_wp2
    go_ret
    exact ⟨ret_bool (by rw [Bool.eq_iff_iff]; simp; omega), RowKit.Below.refl _ _⟩
theorem dallIn_any (W : World) (B : Nat) (al : Option Addr) (n cl : Nat) (ad : Option Addr) (ca : Nat) (ids : List Int) (hB : W.cell? ⟨B, 0, none⟩ = some (.slice al n cl)) (hs : SlI W ad ids) (hl : ids.length ≤ maxLen) :
    Calls Try.prog 15 #[.slice ad ids.length ca, .func (.func 19) #[] #[.pointer (some ⟨B, 0, none⟩)]] W fun e w' => e = .returned (.bool (!rangeB ids n)) ∧ RowKit.Below W.heap.size W w' := by
  have eg : ∀ args w, (callFunc 19 args).run Try.prog w = .ok (.enter 19 args) w := enters_of Try.func19 (by kernel_rfl) rfl
  have := DContains_any 19 #[.pointer (some ⟨B, 0, none⟩)] (fun _ => True) (fun x => decide (x < 0 ∨ (n : Int) ≤ x)) W ad ca ids eg (fun W' x hW _ => dall1_any W' B al n cl x ((hW.cell (World.block_lt_of_cell? W _ hB)).trans hB)) (fun _ _ => trivial) hs (by unfold maxLen at hl; omega)
  rw [range_any] at this
  exact this
def allE (l : List Cm) (ids : List Int) : Int := if (comsN l).2 ≠ 0 then (comsN l).2 else if rangeB ids l.length = true then 0 else 1
theorem oneSl {w W : World} {T : TypeId} {a0 : Value} (hb : RowKit.Below (w.alloc (.cells #[a0] T)).heap.size (w.alloc (.cells #[a0] T)) W) :
    W.cell? ⟨w.heap.size, 0, none⟩ = some a0 ∧ RowKit.Below w.heap.size w W := by
  obtain ⟨h, _⟩ := bcell hb
  refine ⟨?_, bstep (balloc _ _) hb⟩
  rw [h] <;> first | go_simp | (simp <;> omega)
set_option maxHeartbeats 4000000 in
set_option maxRecDepth 100000 in
theorem DAll_any (w : World) (ad : Option Addr) (ca : Nat) (l : List Cm) (ai : Option Addr) (ci : Nat) (ids : List Int) (h : ComsOK w ad ca l) (hs : SlI w ai ids) (hl : ids.length ≤ maxLen) :
    Calls Try.prog 10 #[.slice ad l.length ca, .slice ai ids.length ci] w fun e w' => e = .returned (errV (allE l ids)) ∧ RowKit.Below w.heap.size w w' := by
  have hc := DCheck_any
  have H := hideO h
  have HS := hideO hs
  have HL := hideO hl
  clear h hs hl hc
  obtain ⟨v, hv⟩ : ∃ v, errV (allE l ids) = v := ⟨_, rfl⟩
  rw [hv]
  have HV := hideO hv
  clear hv
  by_cases hnn : (comsN l).2 = 0
  · have HV2 : Hid (v = errV (if rangeB ids l.length = true then 0 else 1)) := by show _ = _; rw [← HV.out]; unfold allE; rw [if_neg (by simp [hnn])]
    have HN := hideO hnn
    clear HV hnn
    cases hr : rangeB ids l.length with
    | true =>
      have hf : Hid (v = errV 0) := by show _ = _; rw [HV2.out, hr]; rfl
      clear HV2
      go_enter Try.func10, Try.ntmps10
      go_wp2_with (go_at_call 18; refine (DCheck_any _ _ _ l (H.out.below (balloc _ _))).mono ?_; rintro e w1 ⟨rfl, hb1⟩; rw [HN.out, show errV 0 = Value.nilIface from rfl]; dsimp only)
      obtain ⟨c0, hbw⟩ := oneSl hb1
      clear hb1
      go_wp2_with (go_at_call 15; refine (dallIn_any _ _ _ _ _ _ _ ids c0 (HS.out.below hbw) HL.out).mono ?_; rintro e w2 ⟨rfl, hb2⟩; rw [hr]; dsimp only)
      go_ret
      exact ⟨by rw [hf.out]; rfl, bstep hbw hb2⟩
    | false =>
      have hf : Hid (v = errV 1) := by show _ = _; rw [HV2.out, hr]; rfl
      clear HV2
      go_enter Try.func10, Try.ntmps10
      go_wp2_with (go_at_call 18; refine (DCheck_any _ _ _ l (H.out.below (balloc _ _))).mono ?_; rintro e w1 ⟨rfl, hb1⟩; rw [HN.out, show errV 0 = Value.nilIface from rfl]; dsimp only)
      obtain ⟨c0, hbw⟩ := oneSl hb1
      clear hb1
      go_wp2_with (go_at_call 15; refine (dallIn_any _ _ _ _ _ _ _ ids c0 (HS.out.below hbw) HL.out).mono ?_; rintro e w2 ⟨rfl, hb2⟩; rw [hr]; dsimp only)
      go_ret
      exact ⟨by rw [hf.out]; rfl, bstep hbw hb2⟩
  · have hf : Hid (v = errV (comsN l).2) := by show _ = _; rw [← HV.out]; unfold allE; rw [if_pos hnn]
    have hev := hideO (errV_some hnn)
    clear HV hnn
    go_enter Try.func10, Try.ntmps10
    go_wp2_with (go_at_call 18; refine (DCheck_any _ _ _ l (H.out.below (balloc _ _))).mono ?_; rintro e w1 ⟨rfl, hb1⟩; rw [hev.out]; dsimp only)
    go_ret
    exact ⟨by rw [hf.out, hev.out]; rfl, bstep (balloc _ _) hb1⟩
end Go.Proofs.Ytjlifccaoncfcaa

/- Marks in a block: who has been found. -/
namespace Go.Proofs.Ytjlifccaoncfcaa
open Go Go.RowKit Go.Proofs
set_option synthInstance.maxSize 1000

def rowB (B : List Bool) : Obj := .cells (B.map Value.bool).toArray 4
/-- marks, in a block -/
def MarkAt (W : World) (bi : Nat) (B : List Bool) : Prop := W.heap[bi]? = some (rowB B)
theorem MarkAt.lt {W : World} {bi : Nat} {B : List Bool} (h : MarkAt W bi B) : bi < W.heap.size := (Array.getElem?_eq_some_iff.1 h).1
theorem MarkAt.below {W W' : World} {bi : Nat} {B : List Bool} (h : MarkAt W bi B) (hb : RowKit.Below W.heap.size W W') : MarkAt W' bi B := (hb.block bi h.lt).trans h
theorem MarkAt.cell {W : World} {bi : Nat} {B : List Bool} (h : MarkAt W bi B) {j : Nat} (hj : j < B.length) : W.cell? ⟨bi, j, none⟩ = some (.bool (onB B j)) ∧ W.frozen? ⟨bi, j, none⟩ = false := by
  unfold MarkAt rowB at h
  rw [onB_get hj]
  refine ⟨?_, ?_⟩
  · simp [World.cell?, h, hj]
  · simp [World.frozen?, h]
theorem MarkAt.set {W : World} {bi : Nat} {B : List Bool} (h : MarkAt W bi B) (j : Nat) : MarkAt (W.setCell ⟨bi, j, none⟩ (.bool true)) bi (B.set j true) := by
  have := heap_setCell_same W bi j _ _ (.bool true) h
  unfold MarkAt
  rw [this]
  unfold rowB
  congr 2
  apply Array.ext'
  simp [List.map_set]
/-- how many marks are not set -/
def nW (W : World) (bi : Nat) : Nat := match W.heap[bi]? with
  | some (.cells cs _ _) => nF (cs.toList.map fun v => match v with | .bool b => b | _ => true)
  | _ => 0
theorem MarkAt.count {W : World} {bi : Nat} {B : List Bool} (h : MarkAt W bi B) : nW W bi = nF B := by
  unfold MarkAt rowB at h
  unfold nW
  rw [h]
  have e : ∀ L : List Bool, (L.map Value.bool).map (fun v => match v with | .bool b => b | _ => true) = L := fun L => by
    induction L with
    | nil => rfl
    | cons b r ih => simp only [List.map_cons, ih]
  exact congrArg nF (e B)
set_option maxRecDepth 100000 in
theorem makeBoolsO (n : Nat) (w : World) (h : n ≤ 100) : (Instr.makeSlice 45 (.int .i64 (n : Int)) (.int .i64 (n : Int))).run Try.prog w = .ok (.slice (some ⟨w.heap.size, 0, none⟩) n n) (w.alloc (rowB (List.replicate n false))) := by
  have hi : (Try.prog.info? 4).map (fun i => (i.zero, i.size, i.bytes)) = some (some (.bool false), 1, 1) := by kernel_rfl
  obtain ⟨i, hi, h1, h2, h3⟩ := info_parts hi
  have := run_make (P := Try.prog) w 45 4 i _ Try.underlying45 hi h1 .i64 .i64 (n : Int) (n : Int) (by omega) (Int.le_refl _) (by rw [h3]; omega) (by omega)
  rw [h2] at this
  have e : rowB (List.replicate n false) = .cells (madeCells #[.bool false] n) 4 := by
    unfold rowB
    congr 1
    apply Array.ext'
    simp only [madeCells, Array.toList_map, Array.toList_range]
    rw [List.map_replicate]
    apply List.ext_getElem
    · simp
    · intro j h1 h2
      simp [Nat.mod_one]
  rw [e]
  simpa [Value.cells] using this
end Go.Proofs.Ytjlifccaoncfcaa

/- Natural numbers in a row of one's own. -/
namespace Go.Proofs.Ytjlifccaoncfcaa
open Go Go.RowKit Go.Proofs
set_option synthInstance.maxSize 1000

def cellsU (m : List Nat) : List Value := m.map fun k : Nat => Value.int .i64 (k : Int)
theorem infoU : (Try.prog.info? 3).map (fun i => (i.zero, i.size, i.bytes)) = some (some (.int .i64 0), 1, 8) := by kernel_rfl
theorem ownU_sl {W : World} {base : Nat} {e : TypeId} {v : Value} {m : List Nat} (h : W.ownsRow base e 1 v m.length (cellsU m)) : ∃ ad cap, v = .slice ad m.length cap ∧ SlI W ad (m.map fun k : Nat => (k : Int)) := by
  have h' := h
  rcases h.2 with ⟨rfl, h0⟩ | ⟨g, cap, cur, rfl, _⟩
  · exact ⟨none, 0, by rw [h0], fun hne => absurd (by rw [List.eq_nil_of_length_eq_zero h0]; rfl) hne⟩
  · refine ⟨some ⟨g, 0, none⟩, cap, rfl, fun _ => ⟨g, 0, rfl, fun j hj => ?_⟩⟩
    have hj' : j < m.length := by simpa using hj
    have := h'.cells (g := g) rfl j (.int .i64 (m[j] : Int)) (by simp [cellsU, hj'])
    rw [Addr.add_lit] at this
    rw [this]
    simp
theorem ownU_one (w : World) (i : Nat) : (w.alloc (.cells #[.int .i64 (i : Int)] 3)).ownsRow w.heap.size 3 1 (.slice (some ⟨w.heap.size, 0, none⟩) 1 1) [i].length (cellsU [i]) := by
  refine ⟨by simp [cellsU], Or.inr ⟨w.heap.size, 1, #[.int .i64 (i : Int)], rfl, Nat.le_refl _, by show (w.heap.push _)[w.heap.size]? = _; simp, Nat.le_refl _, by unfold maxLen; omega, by simp, by simp [cellsU]⟩⟩
end Go.Proofs.Ytjlifccaoncfcaa

/- The program's dag: asker, those. -/
namespace Go.Proofs.Ytjlifccaoncfcaa
open Go Go.RowKit Go.Proofs
set_option synthInstance.maxSize 1000

/-- what an asker holds: marks, and a box that leads to them -/
def AskF (W : World) (F bi : Nat) (Bl : List Bool) : Prop := W.cell? ⟨F, 0, none⟩ = some (.slice (some ⟨bi, 0, none⟩) Bl.length Bl.length) ∧ MarkAt W bi Bl
theorem AskF.below {W W' : World} {F bi : Nat} {Bl : List Bool} (h : AskF W F bi Bl) (hb : RowKit.Below W.heap.size W W') : AskF W' F bi Bl :=
  ⟨(hb.cell (World.block_lt_of_cell? W _ h.1)).trans h.1, h.2.below hb⟩
theorem dask1_any (W : World) (F bi : Nat) (Bl : List Bool) (k : Nat) (h : AskF W F bi Bl) (hk : k < Bl.length) :
    Calls Try.prog 20 #[.int .i64 (k : Int), .pointer (some ⟨F, 0, none⟩)] W fun e w' => e = .returned (.bool (onB Bl k)) ∧ RowKit.Below W.heap.size W w' := by
  obtain ⟨c0, hm⟩ := h
  have c1 := (hm.cell hk).1
  have i0 : (0 : Int) ≤ (k : Int) := by omega
  have i1 : (k : Int) < (Bl.length : Int) := by omega
  clear hm
  generalize onB Bl k = q at *
  go_enter Try.func20, Try.ntmps20
  go_wp2_with fail
  go_ret
  exact ⟨rfl, RowKit.Below.refl _ _⟩
theorem dask_pred {W : World} {F bi : Nat} {Bl : List Bool} (h : AskF W F bi Bl) : PredI 20 #[.pointer (some ⟨F, 0, none⟩)] (fun x => 0 ≤ x ∧ x < Bl.length) (fun x => onB Bl x.toNat) W := fun W' x hW hx => by
  obtain ⟨k, rfl⟩ : ∃ k : Nat, x = (k : Int) := ⟨x.toNat, by omega⟩
  exact dask1_any W' F bi Bl k (h.below hW) (by omega)
theorem entersAsk : ∀ args w, (callFunc 20 args).run Try.prog w = .ok (.enter 20 args) w := enters_of Try.func20 (by kernel_rfl) rfl

/-- closed above j -/
def ClosedUp (l : List Cm) (B : List Bool) (j : Int) : Prop := ∀ c : Nat, j < c → onB B c = true → ∀ p : Nat, (p : Int) ∈ parsOf l c → onB B p = true
theorem ClosedUp.set {l : List Cm} {B : List Bool} {j : Int} (h : ClosedUp l B j) {P : Nat} (hP : P < B.length) (hj : (P : Int) ≤ j) : ClosedUp l (B.set P true) j := by
  intro c hc h1 p hp
  rw [onB_set hP] at h1 ⊢
  rw [if_neg (by omega)] at h1
  split
  · rfl
  · exact h c hc h1 p hp
theorem onB_set_ge {B : List Bool} {P k : Nat} (hP : P < B.length) (h : onB B k = true) : onB (B.set P true) k = true := by
  rw [onB_set hP]
  split
  · rfl
  · exact h
/-- an asker after the ancestors of i -/
structure AskG (W : World) (l : List Cm) (i F bi : Nat) (Bl : List Bool) : Prop where
  at_ : AskF W F bi Bl
  len : Bl.length = l.length
  up : ∀ k, onB Bl k = true ↔ Up l i k
theorem AskG.below {W W' : World} {l : List Cm} {i F bi : Nat} {Bl : List Bool} (h : AskG W l i F bi Bl) (hb : RowKit.Below W.heap.size W W') : AskG W' l i F bi Bl := ⟨h.at_.below hb, h.len, h.up⟩
/-- what asker answers -/
def AskAns (w : World) (l : List Cm) (i : Nat) (e : Ending) (w' : World) : Prop :=
  ∃ F bi Bl, e = .returned (.func (.func 20) #[] #[.pointer (some ⟨F, 0, none⟩)]) ∧ AskG w' l i F bi Bl ∧ RowKit.Below w.heap.size w w'

set_option maxHeartbeats 8000000 in
set_option maxRecDepth 100000 in
theorem DAsker_any (ad : Option Addr) (ca : Nat) (l : List Cm) (i : Nat) (w : World) (hl : SlC w ad l) (hG : GoodC l) (hi : i < l.length) :
    Calls Try.prog 11 #[.slice ad l.length ca, .int .i64 (i : Int)] w fun e w' => AskAns w l i e w' := by
  have Hl := hideO hl
  have HG := hideO hG
  have hz : l.length ≤ 60 := hG.1
  have hmk := fun W => makeBoolsO l.length W (by omega)
  have hB0 : Hid (∀ k, onB (List.replicate l.length false) k = false) := fun k => by
    unfold onB
    rw [List.getD_eq_getElem?_getD, List.getElem?_replicate]
    split <;> rfl
  have hBl : (List.replicate l.length false).length = l.length := by simp
  have i0 : (0 : Int) ≤ (i : Int) := by omega
  have i1 : (i : Int) < (l.length : Int) := by omega
  clear hl hG
  generalize List.replicate l.length false = B0 at *
  have hM0 : MarkAt (w.alloc (rowB B0)) w.heap.size B0 := by
    show (w.heap.push _)[w.heap.size]? = _
    simp
  have hM1 := hM0.below (balloc _ (.cells #[.slice (some ⟨w.heap.size, 0, none⟩) l.length l.length] 45))
  have hb1 : RowKit.Below w.heap.size w ((w.alloc (rowB B0)).alloc (.cells #[.slice (some ⟨w.heap.size, 0, none⟩) l.length l.length] 45)) := bstep (balloc _ _) (balloc _ _)
  have hF1 : ((w.alloc (rowB B0)).alloc (.cells #[.slice (some ⟨w.heap.size, 0, none⟩) l.length l.length] 45)).cell? ⟨w.heap.size + 1, 0, none⟩ = some (.slice (some ⟨w.heap.size, 0, none⟩) l.length l.length) := by go_simp
  obtain ⟨c1, f1⟩ := hM1.cell (j := i) (by omega)
  rw [hB0.out i] at c1
  have hM2 := hideO ((hM0.set i).below (balloc _ (.cells #[.slice (some ⟨w.heap.size, 0, none⟩) l.length l.length] 45)))
  have hb2 := hideO (bstep ((balloc w (rowB B0)).setCell (p := ⟨w.heap.size, i, none⟩) (Nat.le_refl _) (.bool true)) (balloc _ (.cells #[.slice (some ⟨w.heap.size, 0, none⟩) l.length l.length] 45)))
  have hF2 : Hid ((((w.alloc (rowB B0)).setCell ⟨w.heap.size, i, none⟩ (.bool true)).alloc (.cells #[.slice (some ⟨w.heap.size, 0, none⟩) l.length l.length] 45)).cell? ⟨w.heap.size + 1, 0, none⟩ = some (.slice (some ⟨w.heap.size, 0, none⟩) l.length l.length)) := by
    show _ = _
    go_simp
  have hS2 : Hid (SoundB l i (B0.set i true)) := SoundB.set (fun k hk => by rw [hB0.out k] at hk; cases hk) (by omega) (Up.refl l i)
  have hI2 : Hid (onB (B0.set i true) i = true) := by show _ = _; rw [onB_set (by omega), if_pos rfl]
  have hC2 : Hid (ClosedUp l (B0.set i true) (i : Int)) := fun c hc h1 => by
    rw [onB_set (by omega), if_neg (by omega), hB0.out c] at h1
    cases h1
  have hL2 : (B0.set i true).length = l.length := by simp [hBl]
  clear hM0 hM1 hb1 hF1 hB0
  go_enter Try.func11, Try.ntmps11
  go_wp2_with fail
  generalize hW2 : ((w.alloc (rowB B0)).setCell ⟨w.heap.size, i, none⟩ (.bool true)).alloc (.cells #[.slice (some ⟨w.heap.size, 0, none⟩) l.length l.length] 45) = w2 at *
  generalize B0.set i true = B2 at *
  clear hW2 c1 f1 hmk hBl
  generalize hbi : w.heap.size = bi at *
  go_loopw [6] (fun v wr => ∃ (B : List Bool) (j : Int), v = .int .i64 j ∧ -1 ≤ j ∧ j ≤ (i : Int) ∧ B.length = l.length ∧ Hid (onB B i = true) ∧ Hid (SoundB l i B) ∧ Hid (ClosedUp l B j) ∧ Hid (MarkAt wr bi B) ∧ Hid (wr.cell? ⟨bi + 1, 0, none⟩ = some (.slice (some ⟨bi, 0, none⟩) l.length l.length)) ∧ Hid (RowKit.Below bi w wr)) (fun v wr => (intOf v + 1).toNat)
  case atStart => exact ⟨B2, (i : Int), rfl, by omega, by omega, hL2, hI2, hS2, hC2, hM2, hF2, hb2⟩
  case round =>
    obtain ⟨B, j, rfl, hj1, hji, hBl, hI, hS, hC, hM, hF, hb⟩ := hrel
    generalize hW1 : wr = W1 at *
    clear hW1
    rcases (by omega : j = -1 ∨ 0 ≤ j) with rfl | hj0
    · have hfin : Hid (AskAns w l i (.returned (.func (.func 20) #[] #[.pointer (some ⟨bi + 1, 0, none⟩)])) W1) := by
        refine ⟨bi + 1, bi, B, rfl, ⟨⟨by rw [hBl]; exact hF.out, hM.out⟩, hBl, fun k => ⟨hS.out k, closed_up hI.out (fun c _ h1 p hp => hC.out c (by omega) h1 p hp) k⟩⟩, ?_⟩
        rw [hbi]
        exact hb.out
      go_wp2_with fail
      exact bodyPost_ret (v := .func (.func 20) #[] #[.pointer (some ⟨bi + 1, 0, none⟩)]) (by simp [results, Try.results11, go_sem]) rfl hfin.out
    · obtain ⟨k, rfl⟩ := Int.eq_ofNat_of_zero_le hj0
      have hlt : k < l.length := by omega
      have c5 := hF.out
      have c6 := (hM.out.cell (j := k) (by omega)).1
      have k0 : (0 : Int) ≤ (k : Int) := by omega
      have k1 : (k : Int) < (l.length : Int) := by omega
      cases hon : onB B k with
      | false =>
        rw [hon] at c6
        have hC' : Hid (ClosedUp l B ((k : Int) - 1)) := fun c hc h1 => by
          rcases (by omega : (k : Int) < c ∨ c = k) with h2 | rfl
          · exact hC.out c h2 h1
          · rw [hon] at h1; cases h1
        go_wp2_with fail
        go_roundw
        case rel => exact ⟨B, (k : Int) - 1, by go_num, by omega, by omega, hBl, hI, hS, hC', hM, hF, hb⟩
        case measure => simp [intOf]
      | true =>
        rw [hon] at c6
        have hup := hideO (hS.out k hon)
        obtain ⟨b, o, ap, cp, rfl, d0, _, _, hsp⟩ := Hl.out.at hlt
        have hd0 : W1.cell? ⟨b, o + k * 3, none⟩ = some (.slice ap l[k].1.length cp) := by
          have hb' : b < bi := by rw [← hbi]; exact World.block_lt_of_cell? w _ d0
          exact (hb.out.cell (p := ⟨b, o + k * 3, none⟩) hb').trans d0
        have Hsp := hideO hsp
        have hpe : Hid (parsOf l k = l[k].1) := by show _ = _; unfold parsOf; rw [List.getElem?_eq_getElem hlt]; rfl
        have hgp := hideO (good_pars HG.out hlt)
        have hp2 : l[k].1.length ≤ 2 := by
          have := HG.out.2 k hlt
          unfold comN at this
          split at this
          · cases this
          · omega
        clear d0 hsp hon
        generalize l[k].1 = ps at *
        go_wp2_with fail
        go_loopw [31] (fun jj w7 => ∃ (B2 : List Bool) (q : Nat), jj = .int .i64 q ∧ q ≤ ps.length ∧ B2.length = l.length ∧ Hid (onB B2 i = true) ∧ Hid (SoundB l i B2) ∧ Hid (ClosedUp l B2 k) ∧ Hid (∀ z ∈ ps.take q, onB B2 z.toNat = true) ∧ Hid (MarkAt w7 bi B2) ∧ Hid (w7.cell? ⟨bi + 1, 0, none⟩ = some (.slice (some ⟨bi, 0, none⟩) l.length l.length)) ∧ Hid (RowKit.Below bi w w7)) (fun jj w7 => ps.length - (intOf jj).toNat)
        case atStart => exact ⟨B, 0, rfl, by omega, hBl, hI, hS, hC, (by show ∀ z ∈ _, _; simp), hM, hF, hb⟩
        case round =>
          obtain ⟨B2, q, rfl, hq, hB2, hI2', hS2', hC2', hT2, hM2', hF2', hb2'⟩ := hrel
          by_cases hql : q < ps.length
          · obtain ⟨b2, o2, rfl, e0⟩ := Hsp.out.at hql
            have hrg := hgp.out ps[q] (by rw [hpe.out]; exact List.getElem_mem hql)
            obtain ⟨P, hP⟩ : ∃ P : Nat, ps[q] = (P : Int) := ⟨ps[q].toNat, by omega⟩
            have hPl : P < B2.length := by omega
            have hPk : (P : Int) ≤ (k : Int) := by omega
            have hPm : Hid ((P : Int) ∈ parsOf l k) := by show _ ∈ _; rw [hpe.out, ← hP]; exact List.getElem_mem hql
            have hT3 : Hid (∀ z ∈ ps.take (q + 1), onB (B2.set P true) z.toNat = true) := fun z hz => by
              rw [List.take_succ_eq_append_getElem hql] at hz
              rcases List.mem_append.1 hz with h | h
              · exact onB_set_ge hPl (hT2.out z h)
              · simp at h
                rw [h, hP, onB_set hPl]
                simp
            have e1 : wr.cell? ⟨b2, o2 + q, none⟩ = some (.int .i64 (P : Int)) := by
              have hb' : b2 < bi := by rw [← hbi]; exact World.block_lt_of_cell? w _ e0
              rw [← hP]
              exact (hb2'.out.cell (p := ⟨b2, o2 + q, none⟩) hb').trans e0
            obtain ⟨m0, f0⟩ := hM2'.out.cell hPl
            have c7 := hF2'.out
            have j0 : (0 : Int) ≤ (q : Int) := by omega
            have j1 : (q : Int) < (ps.length : Int) := by omega
            have p0 : (0 : Int) ≤ (P : Int) := by omega
            have p1 : (P : Int) < (l.length : Int) := by omega
            have hI3 : Hid (onB (B2.set P true) i = true) := onB_set_ge hPl hI2'.out
            have hS3 : Hid (SoundB l i (B2.set P true)) := hS2'.out.set hPl (hup.out.step hPm.out)
            have hC3 : Hid (ClosedUp l (B2.set P true) k) := hC2'.out.set hPl hPk
            have hM3 := hideO (hM2'.out.set P)
            have hb3 : Hid (RowKit.Below bi w (wr.setCell ⟨bi, P, none⟩ (.bool true))) := hb2'.out.setCell (p := ⟨bi, P, none⟩) (Nat.le_refl _) _
            have hF3 : Hid ((wr.setCell ⟨bi, P, none⟩ (.bool true)).cell? ⟨bi + 1, 0, none⟩ = some (.slice (some ⟨bi, 0, none⟩) l.length l.length)) := (World.cell?_setCell_other _ _ _ _ (by simp)).trans hF2'.out
            have hB3 : (B2.set P true).length = l.length := by simp [hB2]
            clear e0 hP hrg hT2 hPk
            go_wp2_with fail
            go_roundw
            case rel => exact ⟨B2.set P true, q + 1, by go_num, by omega, hB3, hI3, hS3, hC3, hT3, hM3, hF3, hb3⟩
            case measure => simp [intOf]; omega
          · obtain rfl : q = ps.length := by omega
            have hC3 : Hid (ClosedUp l B2 ((k : Int) - 1)) := fun c hc h4 p hp => by
              rcases (by omega : (k : Int) < c ∨ c = k) with h5 | rfl
              · exact hC2'.out c h5 h4 p hp
              · rw [hpe.out] at hp
                have := hT2.out (p : Int) (by rw [List.take_length]; exact hp)
                simpa using this
            go_wp2_with fail
            go_roundw
            case rel => exact ⟨B2, (k : Int) - 1, by go_num, by omega, by omega, hB2, hI2', hS2', hC3, hM2', hF2', hb2'⟩
            case measure => simp [intOf]

/-- the numbers below k that are wanted -/
def thoseN (p : Int → Bool) (k : Nat) : List Nat := (List.range k).filter fun j : Nat => p (j : Int)
theorem those_next (p : Int → Bool) (k : Nat) : thoseN p (k + 1) = thoseN p k ++ if p (k : Int) = true then [k] else [] := by
  unfold thoseN
  rw [List.range_succ, List.filter_append, List.filter_cons]
  simp
theorem those_rise (p : Int → Bool) (k : Nat) : RiseN (thoseN p k) := by
  unfold thoseN RiseN
  exact List.Pairwise.filter _ List.pairwise_lt_range
theorem those_mem (p : Int → Bool) (k z : Nat) : z ∈ thoseN p k ↔ z < k ∧ p (z : Int) = true := by
  unfold thoseN
  rw [List.mem_filter, List.mem_range]
theorem those_len (p : Int → Bool) (k : Nat) : (thoseN p k).length ≤ k := by
  unfold thoseN
  exact Nat.le_trans (List.length_filter_le _ _) (by simp)
/-- a list of one's own, in new memory -/
def NewL (w : World) (m : List Nat) (a : Option Addr) (c : Nat) (w' : World) : Prop := SlI w' a (natI m) ∧ RowKit.Below w.heap.size w w' ∧ (m ≠ [] → ∀ d, a = some d → w.heap.size ≤ d.block) ∧ m.length ≤ c ∧ ∀ d j, a = some d → w'.frozen? ⟨d.block, d.off + j, none⟩ = false
def ThoseAns (w : World) (m : List Nat) (e : Ending) (w' : World) : Prop := ∃ a c, e = .returned (.slice a m.length c) ∧ NewL w m a c w'
theorem own_new {w W : World} {v : Value} {m : List Nat} (h : W.ownsRow w.heap.size 3 1 v m.length (cellsU m)) (hb : RowKit.Below w.heap.size w W) : ∃ a c, v = .slice a m.length c ∧ NewL w m a c W := by
  obtain ⟨ad, cap, hv, hsl⟩ := ownU_sl h
  refine ⟨ad, cap, hv, hsl, hb, ?_, ?_, ?_⟩
  · intro hne d hd
    rcases h.2 with ⟨_, h0⟩ | ⟨g, cap', cur, h1, h2, _⟩
    · exact absurd (List.eq_nil_of_length_eq_zero h0) hne
    · rw [hv, hd] at h1
      cases h1
      exact h2
  · rcases h.2 with ⟨h1, h0⟩ | ⟨g, cap', cur, h1, h2, _, h3, _⟩
    · omega
    · rw [hv] at h1
      cases h1
      exact h3
  · intro d j hd
    have h' := h
    rcases h.2 with ⟨h1, h0⟩ | ⟨g, cap', cur, h1, h2, _⟩
    · rw [hv, hd] at h1
      cases h1
    · rw [h1] at h'
      have := h'.frozenAt (0 + j)
      rw [hv, hd] at h1
      cases h1
      exact this

set_option maxHeartbeats 8000000 in
set_option maxRecDepth 100000 in
theorem DThose_any (g : Nat) (lb : Array Value) (p : Int → Bool) (w : World) (ad : Option Addr) (n ca : Nat) (eg : ∀ args w, (callFunc g args).run Try.prog w = .ok (.enter g args) w) (hp : PredI g lb (fun x => 0 ≤ x ∧ x < n) p w) (hn : n ≤ 60) :
    Calls Try.prog 13 #[.slice ad n ca, .func (.func g) #[] lb] w fun e w' => ThoseAns w (thoseN p n) e w' := by
  have H := hideO hp
  clear hp
  obtain ⟨i0', hi0, hz0, hz1, hz2⟩ := info_parts infoU
  go_enter Try.func13, Try.ntmps13
  go_wp2_with fail
  go_loopw [5, 9] (fun v kk wr => ∃ (k : Nat), k ≤ n ∧ kk = .int .i64 k ∧ Hid (wr.ownsRow w.heap.size 3 1 v (thoseN p k).length (cellsU (thoseN p k))) ∧ Hid (RowKit.Below w.heap.size w wr)) (fun _ kk wr => n - (intOf kk).toNat)
  case atStart => exact ⟨0, by omega, rfl, World.ownsRow_nil _ _ _ _, RowKit.Below.refl _ _⟩
  case round =>
    obtain ⟨k, hk, rfl, ho, hbw⟩ := hrel
    by_cases hlt : k < n
    · have k0 : (0 : Int) ≤ (k : Int) := by omega
      have k1 : (k : Int) < (n : Int) := by omega
      have hcall := H.out wr (k : Int) hbw.out ⟨k0, k1⟩
      have hmn := those_next p k
      have hml := those_len p k
      cases hon : p (k : Int) with
      | false =>
        rw [hon] at hcall hmn
        have hmn' : Hid (thoseN p (k + 1) = thoseN p k) := by show _ = _; rw [hmn]; simp
        clear hmn hml
        go_wp2_with (go_at_fn g; refine hcall.mono ?_; rintro e w5 ⟨rfl, hb5⟩; dsimp only)
        go_roundw
        case rel => exact ⟨k + 1, by omega, by go_num, by rw [hmn'.out]; exact ownsO_below ho.out hb5, bstep hbw.out hb5⟩
        case measure => simp [intOf]; omega
      | true =>
        rw [hon] at hcall hmn
        have hmn' : Hid (thoseN p (k + 1) = thoseN p k ++ [k]) := by show _ = _; rw [hmn]; simp
        have hm6 : (thoseN p k).length ≤ 60 := by omega
        clear hmn hml
        generalize thoseN p k = m at *
        go_wp2_with fail
        go_at_fn g
        refine hcall.mono ?_
        rintro e w5 ⟨rfl, hb5⟩
        dsimp only
        have ho5 := hideO (ownsO_below ho.out hb5)
        have hbw5 := hideO (bstep hbw.out hb5)
        clear ho hbw hb5 hcall
        go_wp2_with (at_builtin; refine wpList_append_own _ rfl _ _ 23 rfl w.heap.size 3 i0' (.int .i64 0) 1 8 Try.underlying23 hi0 hz0 hz1 hz2 rfl (by decide) _ _ _ rfl (ho5.out.alloc _) ⟨w5.heap.size, 0, none⟩ 1 1 [.int .i64 (k : Int)] rfl rfl ?c1 (by simp [Value.oneCell']) (by unfold maxLen; omega) (by omega) (by have := hbw5.out.size; simp; omega) ?_)
        case c1 =>
          intro j u hu
          have hj : j < 1 := by have := (List.getElem?_eq_some_iff.1 hu).1; simpa using this
          obtain rfl : j = 0 := by omega
          rw [Addr.add_lit]
          simp at hu; subst hu; go_simp
        intro v' w7 h2 h3 _
        have hb7 : Hid (RowKit.Below w.heap.size w w7) := (hbw5.out.trans ((balloc w5 _).mono hbw5.out.size)).grown h3 (by have := hbw5.out.size; simp; omega) (fun j hj => (ho5.out.lt j hj).1)
        have ho7 : Hid (w7.ownsRow w.heap.size 3 1 v' (m ++ [k]).length (cellsU (m ++ [k]))) := by
          show World.ownsRow _ _ _ _ _ _ _
          rw [List.length_append]
          simpa [cellsU] using h2
        clear h2 h3
        go_wp2_with fail
        go_roundw
        case rel => exact ⟨k + 1, by omega, by go_num, by rw [hmn'.out]; exact ho7, hb7⟩
        case measure => simp [intOf]; omega
    · obtain rfl : k = n := by omega
      obtain ⟨a2, c2, hv, hnew⟩ := own_new ho.out hbw.out
      subst hv
      have hfin : Hid (ThoseAns w (thoseN p k) (.returned (.slice a2 (thoseN p k).length c2)) wr) := ⟨a2, c2, rfl, hnew⟩
      clear hnew
      generalize (thoseN p k).length = q at *
      go_wp2_with fail
      exact bodyPost_ret (v := .slice a2 q c2) (by simp [results, Try.results13, go_sem]) rfl hfin.out
end Go.Proofs.Ytjlifccaoncfcaa

/- The program's dag: Ancestors, Is, Log. -/
namespace Go.Proofs.Ytjlifccaoncfcaa
open Go Go.RowKit Go.Proofs
set_option synthInstance.maxSize 1000

theorem allE_one (l : List Cm) (i : Int) : allE l [i] = ancE l i := by
  unfold allE ancE rangeB
  simp
theorem rangeB_two (a b : Int) (n : Nat) : rangeB [a, b] n = true ↔ (0 ≤ a ∧ a < (n : Int)) ∧ 0 ≤ b ∧ b < (n : Int) := by
  unfold rangeB
  rw [List.all_cons, List.all_cons, List.all_nil, Bool.and_true, Bool.and_eq_true, decide_eq_true_eq, decide_eq_true_eq]
theorem allE_two (l : List Cm) (a b : Int) : allE l [a, b] = twoE l a b := by
  unfold twoE allE ancE
  by_cases h1 : (comsN l).2 ≠ 0
  · rw [if_pos h1, if_pos h1, if_pos h1]
  · simp only [if_neg h1]
    by_cases h2 : 0 ≤ a ∧ a < (l.length : Int)
    · by_cases h3 : 0 ≤ b ∧ b < (l.length : Int)
      · rw [if_pos ((rangeB_two a b _).2 ⟨h2, h3⟩), if_pos h2, if_pos h3]
        simp
      · rw [if_neg (fun h => h3 ((rangeB_two a b _).1 h).2), if_pos h2, if_neg h3]
        simp
    · rw [if_neg (fun h => h2 ((rangeB_two a b _).1 h).1), if_neg h2]
      simp
theorem slOne {W : World} {b : Nat} {i : Int} (h : W.cell? ⟨b, 0, none⟩ = some (.int .i64 i)) : SlI W (some ⟨b, 0, none⟩) [i] := fun _ => ⟨b, 0, rfl, fun j hj => by
  simp at hj
  subst hj
  exact h⟩
theorem slTwo {W : World} {b : Nat} {i k : Int} (h : W.cell? ⟨b, 0, none⟩ = some (.int .i64 i)) (h2 : W.cell? ⟨b, 1, none⟩ = some (.int .i64 k)) : SlI W (some ⟨b, 0, none⟩) [i, k] := fun _ => ⟨b, 0, rfl, fun j hj => by
  simp at hj
  rcases (by omega : j = 0 ∨ j = 1) with rfl | rfl
  · exact h
  · exact h2⟩
theorem DAll1_any (w : World) (ad : Option Addr) (ca : Nat) (l : List Cm) (b : Nat) (i : Int) (h : ComsOK w ad ca l) (hb : w.cell? ⟨b, 0, none⟩ = some (.int .i64 i)) :
    Calls Try.prog 10 #[.slice ad l.length ca, .slice (some ⟨b, 0, none⟩) 1 1] w fun e w' => e = .returned (errV (ancE l i)) ∧ RowKit.Below w.heap.size w w' := by
  have := DAll_any w ad ca l (some ⟨b, 0, none⟩) 1 [i] h (slOne hb) (by unfold maxLen; simp)
  rw [allE_one] at this
  exact this
theorem DAll2_any (w : World) (ad : Option Addr) (ca : Nat) (l : List Cm) (b : Nat) (i k : Int) (h : ComsOK w ad ca l) (hb : w.cell? ⟨b, 0, none⟩ = some (.int .i64 i)) (hb2 : w.cell? ⟨b, 1, none⟩ = some (.int .i64 k)) :
    Calls Try.prog 10 #[.slice ad l.length ca, .slice (some ⟨b, 0, none⟩) 2 2] w fun e w' => e = .returned (errV (twoE l i k)) ∧ RowKit.Below w.heap.size w w' := by
  have := DAll_any w ad ca l (some ⟨b, 0, none⟩) 2 [i, k] h (slTwo hb hb2) (by unfold maxLen; simp)
  rw [allE_two] at this
  exact this
theorem those_up {l : List Cm} {i : Nat} {Bl : List Bool} (hB : Bl.length = l.length) (hu : ∀ k, onB Bl k = true ↔ Up l i k) : upP l i (thoseN (fun x => onB Bl x.toNat) l.length) := by
  refine ⟨those_rise _ _, fun k => ?_⟩
  rw [those_mem, ← hu k]
  constructor
  · rintro ⟨_, h⟩; simpa using h
  · intro h
    exact ⟨by have := onB_lt h; omega, by simpa using h⟩
theorem list_bad {w w' : World} {f : Int} {P : List Nat → Prop} (hf : f ≠ 0) (hb : RowKit.Below w.heap.size w w') : ListAns w f P (.returned (.tuple #[.slice none 0 0, errV f])) w' :=
  ⟨none, 0, [], rfl, fun h => absurd h hf, fun _ => rfl, fun h => absurd rfl h, hb, by simp, fun h => absurd rfl h, by simp⟩
theorem list_new {w w1 w' : World} {P : List Nat → Prop} {m : List Nat} {a : Option Addr} {c : Nat} (hP : P m) (hb : RowKit.Below w.heap.size w w1) (h : NewL w1 m a c w') (hm : m.length ≤ 60) : ListAns w 0 P (.returned (.tuple #[.slice a m.length c, errV 0])) w' :=
  ⟨a, c, m, rfl, fun _ => hP, fun h => absurd rfl h, h.1, bstep hb h.2.1, hm, fun hne d hd => Nat.le_trans hb.size (h.2.2.1 hne d hd), h.2.2.2.1⟩
/-- a list that may be written into -/
def Unfr (e : Ending) (w' : World) : Prop := ∀ d n c x, e = .returned (.tuple #[.slice (some d) n c, x]) → ∀ j, w'.frozen? ⟨d.block, d.off + j, none⟩ = false
theorem cellNew1 (w : World) (v : Value) (T : TypeId) : (w.alloc (.cells #[v] T)).cell? ⟨w.heap.size, 0, none⟩ = some v := by go_simp
theorem cellNew2 (w : World) (u v : Value) (T : TypeId) : (w.alloc (.cells #[u, v] T)).cell? ⟨w.heap.size, 0, none⟩ = some u ∧ (w.alloc (.cells #[u, v] T)).cell? ⟨w.heap.size, 1, none⟩ = some v := ⟨by go_simp, by go_simp⟩

def ListU (w : World) (f : Int) (P : List Nat → Prop) (e : Ending) (w' : World) : Prop := ListAns w f P e w' ∧ Unfr e w'
set_option maxHeartbeats 4000000 in
set_option maxRecDepth 100000 in
theorem DAncU_any (w : World) (ad : Option Addr) (ca : Nat) (l : List Cm) (i : Int) (h : ComsOK w ad ca l) :
    Calls Try.prog 6 #[.slice ad l.length ca, .int .i64 i] w fun e w' => ListU w (ancE l i) (upP l i.toNat) e w' := by
  have H := hideO h
  clear h
  by_cases hnn : ancE l i = 0
  · obtain ⟨hG, h0, h1⟩ := ancE_zero hnn
    obtain ⟨k, rfl⟩ := Int.eq_ofNat_of_zero_le h0
    have hk : k < l.length := by omega
    have hz : l.length ≤ 60 := hG.1
    have HG := hideO hG
    have HN := hideO hnn
    rw [hnn]
    clear hG h0 h1 hnn
    go_enter Try.func6, Try.ntmps6
    go_wp2_with fail
    refine (DAll1_any _ ad ca l _ (k : Int) (H.out.below (balloc _ _)) (cellNew1 _ _ _)).mono ?_
    rintro e w1 ⟨rfl, hb1⟩
    rw [HN.out, show errV 0 = Value.nilIface from rfl]
    dsimp only
    have hbw := hideO (bstep (balloc _ _) hb1)
    clear hb1
    go_wp2_with fail
    refine (DAsker_any ad ca l k w1 (H.out.below hbw.out).sl HG.out hk).mono ?_
    rintro e w2 ⟨F, bi, Bl, rfl, hask, hb2⟩
    dsimp only
    have hbw2 := hideO (bstep hbw.out hb2)
    have HA := hideO hask
    clear hask hb2 hbw
    go_wp2_with fail
    refine (DThose_any 20 _ (fun x => onB Bl x.toNat) w2 ad l.length ca entersAsk (by have := dask_pred HA.out.at_; rw [HA.out.len] at this; exact this) hz).mono ?_
    rintro e w3 ⟨a, c, rfl, hnew⟩
    dsimp only
    have hfin : Hid (ListU w 0 (upP l k) (.returned (.tuple #[.slice a (thoseN (fun x => onB Bl x.toNat) l.length).length c, .nilIface])) w3) := ⟨list_new (P := upP l k) (those_up HA.out.len HA.out.up) hbw2.out hnew (Nat.le_trans (those_len _ _) hz), fun d n c' x he j => by cases he; exact hnew.2.2.2.2 d j rfl⟩
    clear hnew
    generalize (thoseN (fun x => onB Bl x.toNat) l.length).length = q at *
    go_wp2_with fail
    exact bodyPost_ret (v := .tuple #[.slice a q c, .nilIface]) (by simp [results, Try.results6, go_sem]) rfl hfin.out
  · have hev := hideO (errV_some hnn)
    have hfin : Hid (∀ w', RowKit.Below w.heap.size w w' → ListU w (ancE l i) (upP l i.toNat) (.returned (.tuple #[.slice none 0 0, errV (ancE l i)])) w') := fun w' hb => ⟨list_bad hnn hb, fun d n c' x he => by cases he⟩
    clear hnn
    go_enter Try.func6, Try.ntmps6
    go_wp2_with fail
    refine (DAll1_any _ ad ca l _ i (H.out.below (balloc _ _)) (cellNew1 _ _ _)).mono ?_
    rintro e w1 ⟨rfl, hb1⟩
    have hf2 := hideO (hfin.out _ (bstep (balloc _ _) hb1))
    rw [hev.out] at hf2 ⊢
    dsimp only
    go_wp2_with fail
    exact bodyPost_ret (v := .tuple #[.slice none 0 0, .iface 44 (.int .i64 (ancE l i))]) (by simp [results, Try.results6, go_sem]) rfl hf2.out
theorem DAnc_any (w : World) (ad : Option Addr) (ca : Nat) (l : List Cm) (i : Int) (h : ComsOK w ad ca l) :
    Calls Try.prog 6 #[.slice ad l.length ca, .int .i64 i] w fun e w' => ListAns w (ancE l i) (upP l i.toNat) e w' := (DAncU_any w ad ca l i h).mono fun _ _ h => h.1
def IsAns (w : World) (l : List Cm) (a b : Int) (e : Ending) (w' : World) : Prop := ∃ q : Bool, e = .returned (.tuple #[.bool q, errV (twoE l a b)]) ∧ (twoE l a b = 0 → (q = true ↔ Up l b.toNat a.toNat)) ∧ (twoE l a b ≠ 0 → q = false) ∧ RowKit.Below w.heap.size w w'
set_option maxHeartbeats 4000000 in
set_option maxRecDepth 100000 in
theorem DIs_any (w : World) (ad : Option Addr) (ca : Nat) (l : List Cm) (a b : Int) (h : ComsOK w ad ca l) :
    Calls Try.prog 8 #[.slice ad l.length ca, .int .i64 a, .int .i64 b] w  fun e w' => IsAns w l a b e w' := by
  have H := hideO h
  clear h
  by_cases hnn : twoE l a b = 0
  · obtain ⟨ha, hb⟩ := twoE_zero.1 hnn
    obtain ⟨hG, h0, h1⟩ := ancE_zero ha
    obtain ⟨_, h2, h3⟩ := ancE_zero hb
    obtain ⟨x, rfl⟩ := Int.eq_ofNat_of_zero_le h0
    obtain ⟨y, rfl⟩ := Int.eq_ofNat_of_zero_le h2
    have hx : x < l.length := by omega
    have hy : y < l.length := by omega
    have HG := hideO hG
    have HN := hideO hnn
    clear hG h0 h1 h2 h3 ha hb hnn
    go_enter Try.func8, Try.ntmps8
    go_wp2_with fail
    refine (DAll2_any _ ad ca l _ (x : Int) (y : Int) (H.out.below (balloc _ _)) (cellNew2 _ _ _ _).1 (cellNew2 _ _ _ _).2).mono ?_
    rintro e w1 ⟨rfl, hb1⟩
    rw [HN.out, show errV 0 = Value.nilIface from rfl]
    dsimp only
    have hbw := hideO (bstep (balloc _ _) hb1)
    clear hb1
    go_wp2_with fail
    refine (DAsker_any ad ca l y w1 (H.out.below hbw.out).sl HG.out hy).mono ?_
    rintro e w2 ⟨F, bi, Bl, rfl, hask, hb2⟩
    dsimp only
    have hbw2 := hideO (bstep hbw.out hb2)
    have HA := hideO hask
    have hcall := dask1_any w2 F bi Bl x hask.at_ (by rw [hask.len]; exact hx)
    have eg := entersAsk
    clear hask hb2 hbw
    go_wp2_with fail
    go_at_fn 20
    refine hcall.mono ?_
    rintro e w3 ⟨rfl, hb3⟩
    dsimp only
    have hfin : Hid (IsAns w l (x : Int) (y : Int) (.returned (.tuple #[.bool (onB Bl x), .nilIface])) w3) := by
      refine ⟨onB Bl x, by rw [HN.out]; rfl, fun _ => ?_, fun h => absurd HN.out h, bstep hbw2.out hb3⟩
      simpa using HA.out.up x
    clear hcall
    generalize onB Bl x = q at *
    go_wp2_with fail
    exact bodyPost_ret (v := .tuple #[.bool q, .nilIface]) (by simp [results, Try.results8, go_sem]) rfl hfin.out
  · have hev := hideO (errV_some hnn)
    have hfin : Hid (∀ w', RowKit.Below w.heap.size w w' → IsAns w l a b (.returned (.tuple #[.bool false, errV (twoE l a b)])) w') := fun w' hb => by
      exact ⟨false, rfl, fun h => absurd h hnn, fun _ => rfl, hb⟩
    clear hnn
    go_enter Try.func8, Try.ntmps8
    go_wp2_with fail
    refine (DAll2_any _ ad ca l _ a b (H.out.below (balloc _ _)) (cellNew2 _ _ _ _).1 (cellNew2 _ _ _ _).2).mono ?_
    rintro e w1 ⟨rfl, hb1⟩
    have hf2 := hideO (hfin.out _ (bstep (balloc _ _) hb1))
    rw [hev.out] at hf2 ⊢
    dsimp only
    go_wp2_with fail
    exact bodyPost_ret (v := .tuple #[.bool false, .iface 44 (.int .i64 (twoE l a b))]) (by simp [results, Try.results8, go_sem]) rfl hf2.out
end Go.Proofs.Ytjlifccaoncfcaa
