/- slices.IndexFunc and ContainsFunc with store's own test: is one of these none? -/
import Derived.Test.YtpdieckoemfebaeDoorStoreAsk
namespace Go.Proofs.YtpdieckoemfebaeDoor
open Go Go.RowKit Go.Proofs Go.Maps
set_option synthInstance.maxSize 1000

theorem held_all {L : List Ob} {ids : List Int} (h : ∀ (j : Nat) (hj : j < ids.length), (getO L ids[j]).isSome = true) : heldO L ids = true := by
  unfold heldO
  rw [List.all_eq_true]
  intro x hx
  obtain ⟨j, hj, rfl⟩ := List.getElem_of_mem hx
  exact h j hj
theorem held_not {L : List Ob} {ids : List Int} {j : Nat} (hj : j < ids.length) (h : (getO L ids[j]).isSome = false) : heldO L ids = false := by
  cases hh : heldO L ids with
  | false => rfl
  | true =>
    unfold heldO at hh
    have := List.all_eq_true.1 hh _ (List.getElem_mem hj)
    rw [h] at this
    cases this

set_option maxHeartbeats 4000000 in
set_option maxRecDepth 100000 in
theorem SIndex_any (w : World) (s b1 b2 n B : Nat) (L : List Ob) (ad : Option Addr) (ca : Nat) (ids : List Int) (h : SAt w s b1 b2 n L) (hg : ∀ x ∈ L, 1 ≤ x.1 ∧ x.1 ≤ n) (hB : w.cell? ⟨B, 0, none⟩ = some (.pointer (some ⟨s, 0, none⟩))) (hs : SlI w ad ids) (hl : ids.length ≤ 9223372036854775807) :
    Calls Tryd.prog 29 #[.slice ad ids.length ca, .func (.func 23) #[] #[.pointer (some ⟨B, 0, none⟩)]] w fun e w' => (∃ r : Int, e = .returned (.int .i64 r) ∧ decide (0 ≤ r) = !heldO L ids) ∧ RowKit.Below w.heap.size w w' := by
  have H : Hid (SAt w s b1 b2 n L) := h
  have HG : Hid (∀ x ∈ L, 1 ≤ x.1 ∧ x.1 ≤ n) := hg
  have HS : Hid (SlI w ad ids) := hs
  have HB : Hid (w.cell? ⟨B, 0, none⟩ = some (.pointer (some ⟨s, 0, none⟩))) := hB
  have eg : ∀ args w, (callFunc 23 args).run Tryd.prog w = .ok (.enter 23 args) w := enters_of Tryd.func23 (by kernel_rfl) rfl
  clear h hg hB hs
  go_enter Tryd.func29, Tryd.ntmps29
  go_wp2_with fail
  go_loopw [8] (fun i wr => ∃ (k : Nat), k ≤ ids.length ∧ i = .int .i64 k ∧ RowKit.Below w.heap.size w wr ∧ Hid (∀ (j : Nat) (hj : j < ids.length), j < k → (getO L ids[j]).isSome = true)) (fun i wr => ids.length - (intOf i).toNat)
  case atStart => exact ⟨0, Nat.zero_le _, rfl, RowKit.Below.refl _ w, fun j hj h0 => by omega⟩
  case round =>
    obtain ⟨k, hk, rfl, hbr, hall⟩ := hrel
    by_cases hlt : k < ids.length
    · obtain ⟨b, o, rfl, hc⟩ := (HS.out.below hbr).at hlt
      have hblt := World.block_lt_of_cell? wr _ hc
      have HBr : wr.cell? ⟨B, 0, none⟩ = some (.pointer (some ⟨s, 0, none⟩)) := (hbr.cell (World.block_lt_of_cell? w _ HB.out)).trans HB.out
      have hcall := Skeep1_any wr s b1 b2 n B L ids[k] (H.out.below hbr) HG.out HBr
      have i0 : (0 : Int) ≤ (k : Int) := by omega
      have i1 : (k : Int) < (ids.length : Int) := by omega
      have HV : Hid (∀ q, (getO L ids[k]).isSome = q → (q = true → (∀ (j : Nat) (hj : j < ids.length), j < k + 1 → (getO L ids[j]).isSome = true)) ∧ (q = false → heldO L ids = false)) := by
        intro q hq
        refine ⟨fun e j hj h1 => ?_, fun e => held_not hlt (hq.trans e)⟩
        by_cases ej : j = k
        · subst ej; exact hq.trans e
        · exact hall.out j hj (by omega)
      cases hq : (getO L ids[k]).isSome with
      | true =>
        rw [hq] at hcall
        have hnext : Hid (∀ (j : Nat) (hj : j < ids.length), j < k + 1 → (getO L ids[j]).isSome = true) := (HV.out _ hq).1 rfl
        clear HV hq HBr hall
        generalize ids[k] = z at *
        go_wp2_with (go_at_fn 23; refine hcall.mono ?_; rintro e w' ⟨rfl, hb'⟩; dsimp only)
        go_roundw
        case rel => exact ⟨k + 1, by omega, by go_num, bstep hbr hb', hnext⟩
        case measure => simp [intOf]; omega
      | false =>
        rw [hq] at hcall
        have hno := (HV.out _ hq).2 rfl
        have hno2 : Hid (heldO L ids = false) := hno
        clear HV hq HBr hall hno
        generalize ids[k] = z at *
        go_wp2_with (go_at_fn 23; refine hcall.mono ?_; rintro e w' ⟨rfl, hb'⟩; dsimp only)
        go_ret
        exact ⟨⟨(k : Int), rfl, by rw [hno2.out]; simp⟩, bstep hbr hb'⟩
    · have hkk : k = ids.length := by omega
      have hyes : Hid (heldO L ids = true) := held_all fun j hj => hall.out j hj (by omega)
      subst hkk
      clear hall
      go_wp2_with fail
      go_ret
      exact ⟨⟨-1, rfl, by rw [hyes.out]; rfl⟩, hbr⟩

set_option maxHeartbeats 1000000 in
theorem SContains_any (w : World) (s b1 b2 n B : Nat) (L : List Ob) (ad : Option Addr) (ca : Nat) (ids : List Int) (h : SAt w s b1 b2 n L) (hg : ∀ x ∈ L, 1 ≤ x.1 ∧ x.1 ≤ n) (hB : w.cell? ⟨B, 0, none⟩ = some (.pointer (some ⟨s, 0, none⟩))) (hs : SlI w ad ids) (hl : ids.length ≤ 9223372036854775807) :
    Calls Tryd.prog 22 #[.slice ad ids.length ca, .func (.func 23) #[] #[.pointer (some ⟨B, 0, none⟩)]] w fun e w' => e = .returned (.bool (!heldO L ids)) ∧ RowKit.Below w.heap.size w w' := by
  have hc := SIndex_any w s b1 b2 n B L ad ca ids h hg hB hs hl
  clear h hg hB hs
  generalize (!heldO L ids) = q at *
  go_enter Tryd.func22, Tryd.ntmps22
  go_wp2_with (go_at_call 29; refine hc.mono ?_; rintro e w' ⟨⟨r, rfl, hr⟩, hb⟩; dsimp only; have hr2 : Hid _ := hr; clear hr)
  go_ret
  refine ⟨?_, hb⟩
  rw [← hr2.out]
  simp
end Go.Proofs.YtpdieckoemfebaeDoor
