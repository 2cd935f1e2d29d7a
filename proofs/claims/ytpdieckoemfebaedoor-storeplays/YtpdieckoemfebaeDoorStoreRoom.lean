/- store's hasRoom: whether one more may come. -/
import Derived.Test.YtpdieckoemfebaeDoorStoreAsk
namespace Go.Proofs.YtpdieckoemfebaeDoor
open Go Go.RowKit Go.Proofs Go.Maps
set_option synthInstance.maxSize 1000

/-- who comes in a range over the objects is one of them -/
theorem came_in {D : DataW Unit} {L : List Ob} (f : ObjD D L) {x : Int} (hw : (Lit.int .i64 x).wf = true) {c : List UInt8} (hat : ∀ zd, D.atKey (.int .i64 x) zd = encOb c) : getO L x = some c := by
  have h1 := (f x hw).1
  have h2 := (f x hw).2
  rw [hat] at h2
  cases hg : getO L x with
  | some b =>
    rw [hg] at h2
    rw [encOb_inj h2]
    rfl
  | none =>
    exfalso
    rw [hg] at h1
    have q1 := Maps.atKey_of_not_has h1 (encOb [])
    have q2 := Maps.atKey_of_not_has h1 (encOb [0])
    rw [hat] at q1 q2
    have := encOb_inj (q1.symm.trans q2)
    cases this
theorem at_in {D : DataW Unit} {L : List Ob} (f : ObjD D L) {key : Value} {kl : Lit} (hkey : keyOf Tryd.prog 3 key = some kl) {x : Int} (hx : key = .int .i64 x) {c : List UInt8} {yd : DataW Unit} {yp : List MemPlace} (hv : objElem (.agg #[.string ⟨c.toArray⟩]) = some (yd, yp)) (hat : ∀ zd, D.atKey kl zd = yd) :
    ∃ k : Nat, x = (k : Int) ∧ (k, c) ∈ L ∧ kl = kO (k, c) ∧ (kO (k, c)).wf = true := by
  subst hx
  obtain ⟨x', e, rfl, hw⟩ := Maps.keyOf_int_inv Tryd.underlying3 hkey
  cases e
  have hv' : some (encOb c, []) = some (yd, yp) := (objElem_mk c).symm.trans hv
  simp only [Option.some.injEq, Prod.mk.injEq] at hv'
  obtain ⟨rfl, rfl⟩ := hv'
  obtain ⟨y, hy, e1, e2⟩ := getO_some (came_in f hw hat)
  subst e2
  refine ⟨y.1, e1.symm, hy, ?_, ?_⟩
  · unfold kO; rw [e1]
  · unfold kO; rw [e1]; exact hw

theorem wrapSum (a b c : Nat) : RowKit.wrap64 (wr64 ((a + b : Nat) : Int) + (c : Int)) = wr64 ((a + (b + c) : Nat) : Int) := by
  simp only [RowKit.wrap64]
  rw [show ((a + (b + c) : Nat) : Int) = ((a + b : Nat) : Int) + (c : Int) by omega]
  exact wr64_add _ _
set_option maxHeartbeats 4000000 in
set_option maxRecDepth 100000 in
theorem Sroom_any (w : World) (s b1 b2 n : Nat) (L : List Ob) (b : List UInt8) (h : SAt w s b1 b2 n L) (hg : GoodO n L) (hb : b.length ≤ reachBytes) :
    Calls Tryd.prog 19 #[.pointer (some ⟨s, 0, none⟩), .string ⟨b.toArray⟩] w fun e w' => e = .returned (.bool (!fullO L b)) ∧ RowKit.Below w.heap.size w w' := by
  have H : Hid (SAt w s b1 b2 n L) := h
  have hlt := h.lts
  have hl2 := h.lt2
  have c1 := h.c1
  obtain ⟨D1, D2, o1, o2, f1, f2, hsz⟩ := h.two
  have F2 : Hid (ObjD D2 L) := f2
  have HG : Hid (GoodO n L) := hg
  unfold reachBytes at hb
  clear h o1 f1 f2 hsz hg
  go_enter Tryd.func19, Tryd.ntmps19
  go_wp2_with (at_range; refine wpList_range_own _ rfl _ 57 rfl 3 65 keyedIO Tryd.underlying57 objElem b2 n D2 rfl o2 ?_; intro w0 hrg0 hg0 hs0)
  go_frame
  go_loopw [5] (fun z wr => ∃ (left : Lit → Bool) (cnt : Nat) (u : Int), wr.ranges Tryd.prog 3 objElem b2 w.heap.size n D2 left cnt ∧ z = .int .i64 u ∧ Hid (u = wr64 (b.length + cameO L left : Nat)) ∧ RowKit.Below w.heap.size w wr)
    (fun _ wr => wr.rangeLeft b2 w.heap.size)
  case atStart =>
    refine ⟨_, _, _, hrg0, rfl, ?_, (RowKit.Below.refl _ w).grown hg0 (Nat.le_refl _) (fun k e => by cases e)⟩
    show _ = _
    rw [cameO_start fun x hx => ?_, wr64_id (by omega) (by omega)]
    · rfl
    · have hx' := HG.out.low x hx
      have hbig := H.out.big
      rw [show kO x = .int .i64 (x.1 : Int) from rfl, (F2.out _ (wfO (by omega) (by omega))).1]
      exact getO_isSome.2 ⟨x, hx, rfl⟩
  case round =>
    obtain ⟨left, cnt, u, hrg, rfl, hu, hbr⟩ := hrel
    go_wp2_with (at_next; refine wpList_next_ranges _ rfl _ rfl 3 keyedIO objElem (fun x : Int => .int .i64 x) (fun c : List UInt8 => .agg #[.string ⟨c.toArray⟩]) (fun key kl hk => by obtain ⟨x, hx, _⟩ := Maps.keyOf_int_inv Tryd.underlying3 hk; exact ⟨x, hx⟩) (fun v y hy => by obtain ⟨c, hc, _⟩ := objElem_form hy; exact ⟨c, hc⟩) b2 w.heap.size n D2 left cnt rfl hrg ?_ ?_)
    · intro hc0 hl0
      have HS := H.out.below hbr
      have HL := SLen_any _ s b1 b2 n L HS
      have hfin : Hid ((!fullO L b) = (decide ((L.length : Int) < 300) && decide (u ≤ 60000))) := by
        have hz := hu.out
        rw [cameO_end hl0] at hz
        show _ = _
        unfold fullO
        rw [← hz]
        by_cases q1 : (L.length : Int) < 300
        · by_cases q2 : u ≤ 60000
          · rw [decide_eq_true q1, decide_eq_true q2, decide_eq_false (by omega)]; rfl
          · rw [decide_eq_true q1, decide_eq_false q2, decide_eq_true (by omega)]; rfl
        · rw [decide_eq_false q1, decide_eq_true (by omega)]; rfl
      clear HS hrg hu
      by_cases q1 : (L.length : Int) < 300
      · go_wp2_with (go_at_call 9; refine HL.mono ?_; rintro e w' ⟨rfl, rfl⟩; dsimp only)
        go_ret
        refine ⟨?_, hbr⟩
        rw [hfin.out, decide_eq_true q1]
        simp
      · go_wp2_with (go_at_call 9; refine HL.mono ?_; rintro e w' ⟨rfl, rfl⟩; dsimp only)
        go_ret
        refine ⟨?_, hbr⟩
        rw [hfin.out, decide_eq_false (show ¬ ((L.length : Int) < 300) by omega)]
        simp
    · intro x c kl yd yp w2 cnt2 hkey hlk hv hat hrg2 hlt2 hg2 hs2 hen
      obtain ⟨k, rfl, hk, rfl, hw⟩ := at_in F2.out hkey rfl hv hat
      have hstep := cameO_step HG.out.rise hk hw hlk
      have hb3 := bstep (hbr.grown hg2 hbr.size (fun j e => by cases e; exact Nat.le_refl _)) (balloc w2 (.cells #[.string ⟨c.toArray⟩] 65))
      have hrg3 := hrg2.alloc (.cells #[.string ⟨c.toArray⟩] 65)
      have hle := hrg.left_eq
      clear hs2 hkey hat hv hrg hg2 hrg2
      go_wp2_with fail
      go_roundw
      case rel =>
        refine ⟨_, cnt2, _, hrg3, rfl, ?_, hb3⟩
        show _ = _
        rw [hstep, hu.out]
        exact wrapSum _ _ _
      case measure => rw [hrg3.left_eq, hle]; exact hlt2
end Go.Proofs.YtpdieckoemfebaeDoor
