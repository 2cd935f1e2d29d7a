/- slices.ContainsFunc at numbers and at bytes, with whatever test; slices.Contains at numbers. -/
import Derived.Test.YtackdedbphfaeaeDoorDagFace
import Derived.Laws.IdiomStrings
namespace Go.Proofs.YtackdedbphfaeaeDoor
open Go Go.RowKit Go.Proofs
set_option synthInstance.maxSize 1000

/-- what is asked of a test: at every number of D it tells p, and leaves what lay there -/
def PredI (g : Nat) (lb : Array Value) (D : Int → Prop) (p : Int → Bool) (w : World) : Prop :=
  ∀ (W : World) (x : Int), RowKit.Below w.heap.size w W → D x → Calls Tryd.prog g (#[.int .i64 x] ++ lb) W fun e w' => e = .returned (.bool (p x)) ∧ RowKit.Below W.heap.size W w'
theorem PredI.below {g : Nat} {lb : Array Value} {D : Int → Prop} {p : Int → Bool} {w w1 : World} (h : PredI g lb D p w) (hb : RowKit.Below w.heap.size w w1) : PredI g lb D p w1 :=
  fun W x hW hx => h W x (hb.trans (hW.mono hb.size)) hx
theorem any_hit {ids : List Int} {p : Int → Bool} {k : Nat} (hk : k < ids.length) (h : p ids[k] = true) : ids.any p = true := by
  rw [List.any_eq_true]
  exact ⟨_, List.getElem_mem hk, h⟩
theorem any_miss {ids : List Int} {p : Int → Bool} (h : ∀ (j : Nat) (hj : j < ids.length), p ids[j] = false) : ids.any p = false := by
  rw [List.any_eq_false]
  intro x hx
  obtain ⟨j, hj, rfl⟩ := List.getElem_of_mem hx
  rw [h j hj]
  simp

set_option maxHeartbeats 4000000 in
set_option maxRecDepth 100000 in
theorem DIndex_any (g : Nat) (lb : Array Value) (D : Int → Prop) (p : Int → Bool) (w : World) (ad : Option Addr) (ca : Nat) (ids : List Int) (eg : ∀ args w, (callFunc g args).run Tryd.prog w = .ok (.enter g args) w) (hp : PredI g lb D p w) (hD : ∀ x ∈ ids, D x) (hs : SlI w ad ids) (hl : ids.length ≤ 9223372036854775807) :
    Calls Tryd.prog 49 #[.slice ad ids.length ca, .func (.func g) #[] lb] w fun e w' => (∃ r : Int, e = .returned (.int .i64 r) ∧ decide (0 ≤ r) = ids.any p) ∧ RowKit.Below w.heap.size w w' := by
  have H : Hid (PredI g lb D p w) := hp
  have HD : Hid (∀ x ∈ ids, D x) := hD
  have HS : Hid (SlI w ad ids) := hs
  clear hp hD hs
  go_enter Tryd.func49, Tryd.ntmps49
  go_wp2_with fail
  go_loopw [8] (fun i wr => ∃ (k : Nat), k ≤ ids.length ∧ i = .int .i64 k ∧ RowKit.Below w.heap.size w wr ∧ Hid (∀ (j : Nat) (hj : j < ids.length), j < k → p ids[j] = false)) (fun i wr => ids.length - (intOf i).toNat)
  case atStart => exact ⟨0, Nat.zero_le _, rfl, RowKit.Below.refl _ w, fun j hj h0 => by omega⟩
  case round =>
    obtain ⟨k, hk, rfl, hbr, hall⟩ := hrel
    by_cases hlt : k < ids.length
    · obtain ⟨b, o, rfl, hc⟩ := (HS.out.below hbr).at hlt
      have hcall := H.out wr ids[k] hbr (HD.out _ (List.getElem_mem hlt))
      have i0 : (0 : Int) ≤ (k : Int) := by omega
      have i1 : (k : Int) < (ids.length : Int) := by omega
      have HV : Hid (∀ q, p ids[k] = q → (q = false → (∀ (j : Nat) (hj : j < ids.length), j < k + 1 → p ids[j] = false)) ∧ (q = true → ids.any p = true)) := by
        intro q hq
        refine ⟨fun e j hj h1 => ?_, fun e => any_hit hlt (hq.trans e)⟩
        by_cases ej : j = k
        · subst ej; exact hq.trans e
        · exact hall.out j hj (by omega)
      cases hq : p ids[k] with
      | false =>
        rw [hq] at hcall
        have hnext : Hid (∀ (j : Nat) (hj : j < ids.length), j < k + 1 → p ids[j] = false) := (HV.out _ hq).1 rfl
        clear HV hq hall
        generalize ids[k] = z at *
        go_wp2_with (go_at_fn g; refine hcall.mono ?_; rintro e w' ⟨rfl, hb'⟩; dsimp only)
        go_roundw
        case rel => exact ⟨k + 1, by omega, by go_num, bstep hbr hb', hnext⟩
        case measure => simp [intOf]; omega
      | true =>
        rw [hq] at hcall
        have hno2 : Hid (ids.any p = true) := (HV.out _ hq).2 rfl
        clear HV hq hall
        generalize ids[k] = z at *
        go_wp2_with (go_at_fn g; refine hcall.mono ?_; rintro e w' ⟨rfl, hb'⟩; dsimp only)
        go_ret
        exact ⟨⟨(k : Int), rfl, by rw [hno2.out]; simp⟩, bstep hbr hb'⟩
    · have hkk : k = ids.length := by omega
      have hyes : Hid (ids.any p = false) := any_miss fun j hj => hall.out j hj (by omega)
      subst hkk
      clear hall
      go_wp2_with fail
      go_ret
      exact ⟨⟨-1, rfl, by rw [hyes.out]; rfl⟩, hbr⟩

set_option maxHeartbeats 1000000 in
theorem DContains_any (g : Nat) (lb : Array Value) (D : Int → Prop) (p : Int → Bool) (w : World) (ad : Option Addr) (ca : Nat) (ids : List Int) (eg : ∀ args w, (callFunc g args).run Tryd.prog w = .ok (.enter g args) w) (hp : PredI g lb D p w) (hD : ∀ x ∈ ids, D x) (hs : SlI w ad ids) (hl : ids.length ≤ 9223372036854775807) :
    Calls Tryd.prog 32 #[.slice ad ids.length ca, .func (.func g) #[] lb] w fun e w' => e = .returned (.bool (ids.any p)) ∧ RowKit.Below w.heap.size w w' := by
  have hc := DIndex_any g lb D p w ad ca ids eg hp hD hs hl
  clear hp hD hs
  generalize ids.any p = q at *
  go_enter Tryd.func32, Tryd.ntmps32
  go_wp2_with (go_at_call 49; refine hc.mono ?_; rintro e w' ⟨⟨r, rfl, hr⟩, hb⟩; dsimp only; have hr2 : Hid _ := hr; clear hr)
  go_ret
  refine ⟨?_, hb⟩
  rw [← hr2.out]
  simp

/-- bytes in a block -/
def SlBy (w : World) (b : Nat) (l : List UInt8) : Prop := ∀ (j : Nat) (hj : j < l.length), w.cell? ⟨b, j, none⟩ = some (.int .u8 (l[j].toNat : Int))
set_option maxHeartbeats 4000000 in
set_option maxRecDepth 100000 in
theorem DIndexB_any (g : Nat) (p : Int → Bool) (w : World) (b : Nat) (ca : Nat) (l : List UInt8) (eg : ∀ args w, (callFunc g args).run Tryd.prog w = .ok (.enter g args) w) (hp : ∀ (n : Int) (w : World), Calls Tryd.prog g #[.int .u8 n] w fun e w' => e = .returned (.bool (p n)) ∧ w' = w) (hs : SlBy w b l) (hl : l.length ≤ 9223372036854775807) :
    Calls Tryd.prog 81 #[.slice (some ⟨b, 0, none⟩) l.length ca, .func (.func g) #[] #[]] w fun e w' => (∃ r : Int, e = .returned (.int .i64 r) ∧ decide (0 ≤ r) = l.any fun c => p (c.toNat : Int)) ∧ w' = w := by
  have H : Hid (∀ (n : Int) (w : World), Calls Tryd.prog g #[.int .u8 n] w fun e w' => e = .returned (.bool (p n)) ∧ w' = w) := hp
  have HS : Hid (SlBy w b l) := hs
  clear hp hs
  go_enter Tryd.func81, Tryd.ntmps81
  go_wp2_with fail
  go_loopw [8] (fun i wr => ∃ (k : Nat), k ≤ l.length ∧ i = .int .i64 k ∧ wr = w ∧ Hid (∀ (j : Nat) (hj : j < l.length), j < k → p (l[j].toNat : Int) = false)) (fun i wr => l.length - (intOf i).toNat)
  case atStart => exact ⟨0, Nat.zero_le _, rfl, rfl, fun j hj h0 => by omega⟩
  case round =>
    obtain ⟨k, hk, rfl, hw, hall⟩ := hrel
    obtain rfl : w = wr := hw.symm
    by_cases hlt : k < l.length
    · have hc := HS.out k hlt
      have i0 : (0 : Int) ≤ (k : Int) := by omega
      have i1 : (k : Int) < (l.length : Int) := by omega
      have hcall := H.out (l[k].toNat : Int) w
      have HV : Hid (∀ q, p (l[k].toNat : Int) = q → (q = false → (∀ (j : Nat) (hj : j < l.length), j < k + 1 → p (l[j].toNat : Int) = false)) ∧ (q = true → (l.any fun c => p (c.toNat : Int)) = true)) := by
        intro q hq
        refine ⟨fun e j hj h1 => ?_, fun e => ?_⟩
        · by_cases ej : j = k
          · subst ej; exact hq.trans e
          · exact hall.out j hj (by omega)
        · rw [List.any_eq_true]
          exact ⟨_, List.getElem_mem hlt, hq.trans e⟩
      cases hq : p (l[k].toNat : Int) with
      | false =>
        rw [hq] at hcall
        have hnext : Hid (∀ (j : Nat) (hj : j < l.length), j < k + 1 → p (l[j].toNat : Int) = false) := (HV.out _ hq).1 rfl
        clear HV hq hall
        generalize (l[k].toNat : Int) = z at *
        go_wp2_with (go_at_fn g; refine hcall.mono ?_; rintro e w' ⟨rfl, hb'⟩; subst hb'; dsimp only)
        go_roundw
        case rel => exact ⟨k + 1, by omega, by go_num, by trivial, hnext⟩
        case measure => simp [intOf]; omega
      | true =>
        rw [hq] at hcall
        have hno2 : Hid ((l.any fun c => p (c.toNat : Int)) = true) := (HV.out _ hq).2 rfl
        clear HV hq hall
        generalize (l[k].toNat : Int) = z at *
        go_wp2_with (go_at_fn g; refine hcall.mono ?_; rintro e w' ⟨rfl, hb'⟩; subst hb'; dsimp only)
        go_ret
        exact ⟨⟨(k : Int), rfl, by rw [hno2.out]; simp⟩, rfl⟩
    · have hkk : k = l.length := by omega
      have hyes : Hid ((l.any fun c => p (c.toNat : Int)) = false) := by
        show _ = _
        rw [List.any_eq_false]
        intro x hx
        obtain ⟨j, hj, rfl⟩ := List.getElem_of_mem hx
        rw [hall.out j hj (by omega)]
        simp
      subst hkk
      clear hall
      go_wp2_with fail
      go_ret
      exact ⟨⟨-1, rfl, by rw [hyes.out]; rfl⟩, rfl⟩

set_option maxHeartbeats 1000000 in
theorem DContainsB_any (g : Nat) (p : Int → Bool) (w : World) (b : Nat) (ca : Nat) (l : List UInt8) (eg : ∀ args w, (callFunc g args).run Tryd.prog w = .ok (.enter g args) w) (hp : ∀ (n : Int) (w : World), Calls Tryd.prog g #[.int .u8 n] w fun e w' => e = .returned (.bool (p n)) ∧ w' = w) (hs : SlBy w b l) (hl : l.length ≤ 9223372036854775807) :
    Calls Tryd.prog 65 #[.slice (some ⟨b, 0, none⟩) l.length ca, .func (.func g) #[] #[]] w fun e w' => e = .returned (.bool (l.any fun c => p (c.toNat : Int))) ∧ w' = w := by
  have hc := DIndexB_any g p w b ca l eg hp hs hl
  clear hp hs
  generalize (l.any fun c => p (c.toNat : Int)) = q at *
  go_enter Tryd.func65, Tryd.ntmps65
  go_wp2_with (go_at_call 81; refine hc.mono ?_; rintro e w' ⟨⟨r, rfl, hr⟩, hb⟩; subst hb; dsimp only; have hr2 : Hid _ := hr; clear hr)
  go_ret
  refine ⟨?_, rfl⟩
  rw [← hr2.out]
  simp

set_option maxHeartbeats 4000000 in
set_option maxRecDepth 100000 in
theorem DIdx_any (w : World) (ad : Option Addr) (ca : Nat) (ids : List Int) (n : Int) (hs : SlI w ad ids) (hl : ids.length ≤ 9223372036854775807) :
    Calls Tryd.prog 57 #[.slice ad ids.length ca, .int .i64 n] w fun e w' => (∃ r : Int, e = .returned (.int .i64 r) ∧ decide (0 ≤ r) = decide (n ∈ ids)) ∧ w' = w := by
  have HS : Hid (SlI w ad ids) := hs
  clear hs
  obtain ⟨q, hq⟩ : ∃ q, decide (n ∈ ids) = q := ⟨_, rfl⟩
  rw [hq]
  have HQ := hideO hq
  clear hq
  go_enter Tryd.func57, Tryd.ntmps57
  go_wp2_with fail
  go_loopw [8] (fun i wr => ∃ (k : Nat), k ≤ ids.length ∧ i = .int .i64 k ∧ wr = w ∧ Hid (∀ (j : Nat) (hj : j < ids.length), j < k → ids[j] ≠ n)) (fun i wr => ids.length - (intOf i).toNat)
  case atStart => exact ⟨0, Nat.zero_le _, rfl, rfl, fun j hj h0 => by omega⟩
  case round =>
    obtain ⟨k, hk, rfl, hw, hall⟩ := hrel
    obtain rfl : w = wr := hw.symm
    by_cases hlt : k < ids.length
    · obtain ⟨b, o, rfl, hc⟩ := HS.out.at hlt
      have i0 : (0 : Int) ≤ (k : Int) := by omega
      have i1 : (k : Int) < (ids.length : Int) := by omega
      by_cases he : n = ids[k]
      · have hd : (n == ids[k]) = true := by simpa using he
        have hf : Hid (q = true) := by
          show _ = _
          rw [← HQ.out, decide_eq_true_eq, he]
          exact List.getElem_mem hlt
        clear he hall
        generalize ids[k] = z at *
        go_wp2_with fail
        go_ret
        exact ⟨⟨(k : Int), rfl, by rw [hf.out]; simp⟩, rfl⟩
      · have hd : (n == ids[k]) = false := by simpa using he
        have hnext : Hid (∀ (j : Nat) (hj : j < ids.length), j < k + 1 → ids[j] ≠ n) := fun j hj h1 => by
          by_cases ej : j = k
          · subst ej; exact fun e => he e.symm
          · exact hall.out j hj (by omega)
        clear he hall
        generalize ids[k] = z at *
        go_wp2_with fail
        go_roundw
        case rel => exact ⟨k + 1, by omega, by go_num, by trivial, hnext⟩
        case measure => simp [intOf]; omega
    · have hkk : k = ids.length := by omega
      have hyes : Hid (q = false) := by
        show _ = _
        rw [← HQ.out, decide_eq_false_iff_not]
        intro hm
        obtain ⟨j, hj, e⟩ := List.getElem_of_mem hm
        exact hall.out j hj (by omega) e
      subst hkk
      clear hall
      go_wp2_with fail
      go_ret
      exact ⟨⟨-1, rfl, by rw [hyes.out]; rfl⟩, rfl⟩
set_option maxHeartbeats 1000000 in
theorem DIn_any (w : World) (ad : Option Addr) (ca : Nat) (ids : List Int) (n : Int) (hs : SlI w ad ids) (hl : ids.length ≤ 9223372036854775807) :
    Calls Tryd.prog 46 #[.slice ad ids.length ca, .int .i64 n] w fun e w' => e = .returned (.bool (decide (n ∈ ids))) ∧ w' = w := by
  have hc := DIdx_any w ad ca ids n hs hl
  clear hs
  generalize decide (n ∈ ids) = q at *
  go_enter Tryd.func46, Tryd.ntmps46
  go_wp2_with (go_at_call 57; refine hc.mono ?_; rintro e w' ⟨⟨r, rfl, hr⟩, hb⟩; subst hb; dsimp only; have hr2 : Hid _ := hr; clear hr)
  go_ret
  refine ⟨?_, rfl⟩
  rw [← hr2.out]
  simp
end Go.Proofs.YtackdedbphfaeaeDoor
