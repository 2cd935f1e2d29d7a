import Derived.Test.YtnphjdckdkjopaaGreatDoorMA0x7
import Derived.Test.YtnphjdckdkjopaaGreatDoorMA0x2
import Derived.Shelf.GgClosure.StringsIndexFunc
import Derived.Laws.RangeString
import Derived.Laws.RangeAny
import Derived.Test.YtnphjdckdkjopaaGreatDoorMA0x0
import Derived.Test.YtnphjdckdkjopaaGreatDoorMA0x5
import Derived.Deep.RegionHeld3

/- store's hasRoom: whether one more may come. -/
namespace Go.Proofs.YtnphjdckdkjopaaGreatDoor
open Go Go.RowKit Go.Proofs Go.Maps
set_option synthInstance.maxSize 1000

/-- who comes in a range over the objects is one of them -/
theorem came_in {D : DataW Unit} {L : List Ob} (f : ObjD D L) {x : Int} (hw : (Lit.int .i64 x).wf = true) {c : List UInt8} (hat : ∀ zd, D.atKey (.int .i64 x) zd = encOb c) : getO L x = some c := by
  have h1 := (f x hw).1
  have h2 := (f x hw).2
  rw [hat] at h2
  cases hg : getO L x with
  | some b =>
    rw [hg] at h2
    rw [encOb_inj h2]
    rfl
  | none =>
    exfalso
    rw [hg] at h1
    have q1 := Maps.atKey_of_not_has h1 (encOb [])
    have q2 := Maps.atKey_of_not_has h1 (encOb [0])
    rw [hat] at q1 q2
    have := encOb_inj (q1.symm.trans q2)
    cases this
theorem at_in {D : DataW Unit} {L : List Ob} (f : ObjD D L) {key : Value} {kl : Lit} (hkey : keyOf Tryz.prog 3 key = some kl) {x : Int} (hx : key = .int .i64 x) {c : List UInt8} {yd : DataW Unit} {yp : List MemPlace} (hv : objElem (.agg #[.string ⟨c.toArray⟩]) = some (yd, yp)) (hat : ∀ zd, D.atKey kl zd = yd) :
    ∃ k : Nat, x = (k : Int) ∧ (k, c) ∈ L ∧ kl = kO (k, c) ∧ (kO (k, c)).wf = true := by
  subst hx
  obtain ⟨x', e, rfl, hw⟩ := Maps.keyOf_int_inv Tryz.underlying3 hkey
  cases e
  have hv' : some (encOb c, []) = some (yd, yp) := (objElem_mk c).symm.trans hv
  simp only [Option.some.injEq, Prod.mk.injEq] at hv'
  obtain ⟨rfl, rfl⟩ := hv'
  obtain ⟨y, hy, e1, e2⟩ := getO_some (came_in f hw hat)
  subst e2
  refine ⟨y.1, e1.symm, hy, ?_, ?_⟩
  · unfold kO; rw [e1]
  · unfold kO; rw [e1]; exact hw

theorem wrapSum (a b c : Nat) : RowKit.wrap64 (wr64 ((a + b : Nat) : Int) + (c : Int)) = wr64 ((a + (b + c) : Nat) : Int) := by
  simp only [RowKit.wrap64]
  rw [show ((a + (b + c) : Nat) : Int) = ((a + b : Nat) : Int) + (c : Int) by omega]
  exact wr64_add _ _
set_option maxHeartbeats 4000000 in
set_option maxRecDepth 100000 in
theorem Sroom_any (w : World) (s b1 b2 n : Nat) (L : List Ob) (b : List UInt8) (h : SAt w s b1 b2 n L) (hg : GoodO n L) (hb : b.length ≤ reachBytes) :
    Calls Tryz.prog 195 #[.pointer (some ⟨s, 0, none⟩), .string ⟨b.toArray⟩] w fun e w' => e = .returned (.bool (!fullO L b)) ∧ RowKit.Below w.heap.size w w' := by
  have H : Hid (SAt w s b1 b2 n L) := h
  have hlt := h.lts
  have hl2 := h.lt2
  have c1 := h.c1
  obtain ⟨D1, D2, o1, o2, f1, f2, hsz⟩ := h.two
  have F2 : Hid (ObjD D2 L) := f2
  have HG : Hid (GoodO n L) := hg
  unfold reachBytes at hb
  clear h o1 f1 f2 hsz hg
  go_enter Tryz.func195, Tryz.ntmps195
  go_wp2_with (at_range; refine wpList_range_own _ rfl _ 123 rfl 3 168 keyedIO Tryz.underlying123 objElem b2 n D2 rfl o2 ?_; intro w0 hrg0 hg0 hs0)
  go_frame
  go_loopw [5] (fun z wr => ∃ (left : Lit → Bool) (cnt : Nat) (u : Int), wr.ranges Tryz.prog 3 objElem b2 w.heap.size n D2 left cnt ∧ z = .int .i64 u ∧ Hid (u = wr64 (b.length + cameO L left : Nat)) ∧ RowKit.Below w.heap.size w wr)
    (fun _ wr => wr.rangeLeft b2 w.heap.size)
  case atStart =>
    refine ⟨_, _, _, hrg0, rfl, ?_, (RowKit.Below.refl _ w).grown hg0 (Nat.le_refl _) (fun k e => by cases e)⟩
    show _ = _
    rw [cameO_start fun x hx => ?_, wr64_id (by omega) (by omega)]
    · rfl
    · have hx' := HG.out.low x hx
      have hbig := H.out.big
      rw [show kO x = .int .i64 (x.1 : Int) from rfl, (F2.out _ (wfO (by omega) (by omega))).1]
      exact getO_isSome.2 ⟨x, hx, rfl⟩
  case round =>
    obtain ⟨left, cnt, u, hrg, rfl, hu, hbr⟩ := hrel
    go_wp2_with (at_next; refine wpList_next_ranges _ rfl _ rfl 3 keyedIO objElem (fun x : Int => .int .i64 x) (fun c : List UInt8 => .agg #[.string ⟨c.toArray⟩]) (fun key kl hk => by obtain ⟨x, hx, _⟩ := Maps.keyOf_int_inv Tryz.underlying3 hk; exact ⟨x, hx⟩) (fun v y hy => by obtain ⟨c, hc, _⟩ := objElem_form hy; exact ⟨c, hc⟩) b2 w.heap.size n D2 left cnt rfl hrg ?_ ?_)
    · intro hc0 hl0
      have HS := H.out.below hbr
      have HL := SLen_any _ s b1 b2 n L HS
      have hfin : Hid ((!fullO L b) = (decide ((L.length : Int) < 300) && decide (u ≤ 60000))) := by
        have hz := hu.out
        rw [cameO_end hl0] at hz
        show _ = _
        unfold fullO
        rw [← hz]
        by_cases q1 : (L.length : Int) < 300
        · by_cases q2 : u ≤ 60000
          · rw [decide_eq_true q1, decide_eq_true q2, decide_eq_false (by omega)]; rfl
          · rw [decide_eq_true q1, decide_eq_false q2, decide_eq_true (by omega)]; rfl
        · rw [decide_eq_false q1, decide_eq_true (by omega)]; rfl
      clear HS hrg hu
      by_cases q1 : (L.length : Int) < 300
      · go_wp2_with (go_at_call 218; refine HL.mono ?_; rintro e w' ⟨rfl, rfl⟩; dsimp only)
        go_ret
        refine ⟨?_, hbr⟩
        rw [hfin.out, decide_eq_true q1]
        simp
      · go_wp2_with (go_at_call 218; refine HL.mono ?_; rintro e w' ⟨rfl, rfl⟩; dsimp only)
        go_ret
        refine ⟨?_, hbr⟩
        rw [hfin.out, decide_eq_false (show ¬ ((L.length : Int) < 300) by omega)]
        simp
    · intro x c kl yd yp w2 cnt2 hkey hlk hv hat hrg2 hlt2 hg2 hs2 hen
      obtain ⟨k, rfl, hk, rfl, hw⟩ := at_in F2.out hkey rfl hv hat
      have hstep := cameO_step HG.out.rise hk hw hlk
      have hb3 := bstep (hbr.grown hg2 hbr.size (fun j e => by cases e; exact Nat.le_refl _)) (balloc w2 (.cells #[.string ⟨c.toArray⟩] 168))
      have hrg3 := hrg2.alloc (.cells #[.string ⟨c.toArray⟩] 168)
      have hle := hrg.left_eq
      clear hs2 hkey hat hv hrg hg2 hrg2
      go_wp2_with fail
      go_roundw
      case rel =>
        refine ⟨_, cnt2, _, hrg3, rfl, ?_, hb3⟩
        show _ = _
        rw [hstep, hu.out]
        exact wrapSum _ _ _
      case measure => rw [hrg3.left_eq, hle]; exact hlt2
end Go.Proofs.YtnphjdckdkjopaaGreatDoor

/- store's Put. -/
namespace Go.Proofs.YtnphjdckdkjopaaGreatDoor
open Go Go.RowKit Go.Proofs Go.Maps
set_option synthInstance.maxSize 1000

theorem Offs.blk {O : Nat → Prop} {w w' : World} {b : Nat} (hg : w.grownBy w' (some b)) (hb : O b) : Offs O w w' := Offs.of_grown hg fun k e => by cases e; exact hb
theorem Offs.set {O : Nat → Prop} {w : World} {p : Addr} {v : Value} (hp : O p.block) : Offs O w (w.setCell p v) :=
  ⟨rfl, rfl, rfl, by simp, fun k _ hO => heap_setCell_other _ _ _ _ fun e => hO (e ▸ hp)⟩

set_option maxHeartbeats 4000000 in
set_option maxRecDepth 100000 in
theorem SPut_any (w : World) (s b1 b2 n : Nat) (L : List Ob) (b : List UInt8) (h : SAt w s b1 b2 n L) (hg : GoodO n L) (hn : n ≤ 1000000) (hb : b.length ≤ reachBytes) :
    Calls Tryz.prog 164 #[.pointer (some ⟨s, 0, none⟩), .string ⟨b.toArray⟩] w fun e w' => e = .returned (.tuple #[.int .i64 (putI n L b : Int), errV (putE L b)]) ∧ SAt w' s b1 b2 (putM n L b) (putL n L b) ∧ Offs (ownO s b1 b2) w w' := by
  have hml : b.length ≤ maxLen := by unfold reachBytes at hb; unfold maxLen; omega
  have hcl : b.length ≤ 281474976710656 := by unfold reachBytes at hb; omega
  have hlk := look_num h b hml
  have H : Hid (SAt w s b1 b2 n L) := h
  have HG : Hid (GoodO n L) := hg
  have hlt := h.lts
  have c0 := h.c0
  by_cases hf : findO L b ≠ 0
  · have e1 : putI n L b = findO L b := if_pos hf
    have e2 : putE L b = 0 := if_pos hf
    have e3 : putM n L b = n := if_pos hf
    have e4 : putL n L b = L := if_pos hf
    rw [e1, e2, e3, e4]
    rw [decide_eq_true hf] at hlk
    clear e1 e2 e3 e4 hf h hg HG hb hml hcl
    generalize findO L b = k at *
    go_enter Tryz.func164, Tryz.ntmps164
    go_wp2_with fail
    exact bodyPost_ret (v := .tuple #[.int .i64 (k : Int), .nilIface]) (by unfold results; rw [Tryz.results164]; go_simp) rfl ⟨rfl, H.out, Offs.of_below (RowKit.Below.refl _ w)⟩
  · have hf0 : findO L b = 0 := by simpa using hf
    have e1 : putI n L b = if fullO L b = true then 0 else n + 1 := if_neg hf
    have e2 : putE L b = if fullO L b = true then 4 else 0 := if_neg hf
    have e3 : putM n L b = if fullO L b = true then n else n + 1 := if_neg hf
    have e4 : putL n L b = if fullO L b = true then L else L ++ [(n + 1, b)] := if_neg hf
    rw [e1, e2, e3, e4]
    rw [hf0] at hlk
    have hroom := Sroom_any w s b1 b2 n L b h hg hb
    have HF : Hid (findO L b = 0) := hf0
    have HB : Hid (b.length ≤ reachBytes) := hb
    clear e1 e2 e3 e4 hf hf0 h hg hb
    cases hfull : fullO L b with
    | true =>
      rw [hfull] at hroom
      simp only [if_true]
      clear hfull
      go_enter Tryz.func164, Tryz.ntmps164
      go_wp2_with (go_at_call 195; refine hroom.mono ?_; rintro e w1 ⟨rfl, hb1⟩; dsimp only)
      exact bodyPost_ret (v := .tuple #[.int .i64 0, .iface 72 (.int .i64 4)]) (by unfold results; rw [Tryz.results164]; go_simp) rfl ⟨rfl, H.out.below hb1, Offs.of_below hb1⟩
    | false =>
      rw [hfull] at hroom
      simp only [Bool.false_eq_true, if_false]
      clear hfull
      have c2 : ∀ W, RowKit.Below w.heap.size w W → W.cell? ⟨s, 2, none⟩ = some (.int .i64 (n : Int)) ∧ W.frozen? ⟨s, 2, none⟩ = false := fun W hW => ⟨(H.out.below hW).c2, (H.out.below hW).fz⟩
      go_enter Tryz.func164, Tryz.ntmps164
      go_wp2_with (first
        | (go_at_call 195; refine hroom.mono ?_; rintro e w1 ⟨rfl, hb1⟩; dsimp only)
        | (go_at_call 30; refine (SClone_any b _ hcl).mono ?_; rintro e w2 ⟨rfl, hb2⟩; dsimp only
           have hbW := bstep hb1 hb2
           obtain ⟨cc2, cf2⟩ := c2 _ hbW
           have hlt2 : s < w2.heap.size := by have := hbW.size; omega))
      clear hlk hroom c2 cc2 cf2 c0 hb1 hb2
      have HS := H.out.below hbW
      have hO : Offs (ownO s b1 b2) w (w2.setCell ⟨s, 2, none⟩ (.int .i64 ((n : Int) + 1))) := (Offs.of_below hbW).trans (Offs.set (O := ownO s b1 b2) (Or.inl rfl)) fun _ h => Or.inl h
      have k0 : (w2.setCell ⟨s, 2, none⟩ (.int .i64 ((n : Int) + 1))).cell? ⟨s, 0, none⟩ = some (.map (some b1)) := by rw [World.cell?_setCell_other _ _ _ _ (by simp)]; exact HS.c0
      have k1 : (w2.setCell ⟨s, 2, none⟩ (.int .i64 ((n : Int) + 1))).cell? ⟨s, 1, none⟩ = some (.map (some b2)) := by rw [World.cell?_setCell_other _ _ _ _ (by simp)]; exact HS.c1
      have k2 : (w2.setCell ⟨s, 2, none⟩ (.int .i64 ((n : Int) + 1))).cell? ⟨s, 2, none⟩ = some (.int .i64 ((n : Int) + 1)) := World.cell?_setCell_same _ _ _ HS.c2
      have kf : (w2.setCell ⟨s, 2, none⟩ (.int .i64 ((n : Int) + 1))).frozen? ⟨s, 2, none⟩ = false := by rw [World.frozen?_setCell]; exact HS.fz
      obtain ⟨D1, D2, o1, o2, f1, f2, hs⟩ := HS.two
      have p1 := o1.setCell (a := ⟨s, 2, none⟩) (Ne.symm HS.n1) (.int .i64 ((n : Int) + 1))
      have p2 := o2.setCell (a := ⟨s, 2, none⟩) (Ne.symm HS.n2) (.int .i64 ((n : Int) + 1))
      clear o1 o2
      generalize w2.setCell ⟨s, 2, none⟩ (.int .i64 ((n : Int) + 1)) = W at *
      have hzW : s < W.heap.size := World.block_lt_of_cell? W _ k0
      have hw1 : (Lit.int .i64 ((n : Int) + 1)).wf = true := wfO (by omega) (by omega)
      obtain ⟨W4, hr4, o14, g4⟩ := World.ownsMap.update (w := W.drew) p1.drew keyedSO Tryz.underlying82 (by unfold maxLen; omega) (keyS b hml) (plainElem_int Tryz.underlying3 hw1)
      have o24 := (World.ownsMap.drew p2).kept g4 (by simp; exact Ne.symm HS.ne)
      obtain ⟨W5, hr5, o25, g5⟩ := World.ownsMap.update (w := W4.drew) o24.drew keyedIO Tryz.underlying123 (by unfold maxLen; omega) (keyN hw1) (objElem_mk b)
      have o15 := (World.ownsMap.drew o14).kept g5 (by simp; exact HS.ne)
      have q4 : W4.heap[s]? = W.heap[s]? := g4.block s hzW (by simp; exact HS.n1)
      have q5 : W5.heap[s]? = W.heap[s]? := (g5.block s (Nat.lt_of_lt_of_le hzW g4.size) (by simp; exact HS.n2)).trans q4
      have z4 : s < W4.heap.size := Nat.lt_of_lt_of_le hzW g4.size
      have z5 : s < W5.heap.size := Nat.lt_of_lt_of_le z4 g5.size
      have hfin : Hid (SAt W5 s b1 b2 (n + 1) (L ++ [(n + 1, b)])) := by
        have ft := o24.tidy keyedIO
        refine ⟨HS.ne, HS.n1, HS.n2, (World.cell?_of_block (w := W) q5).trans k0, (World.cell?_of_block (w := W) q5).trans k1, (World.cell?_of_block (w := W) q5).trans k2, (World.frozen?_of_block (w := W) q5).trans kf, ⟨_, _, o15, o25, ?_, ?_, ?_⟩, ?_, by omega⟩
        · exact f1.put p1.isMap HF.out (fun x hx => (HG.out.low x hx).1) hml
        · exact f2.put p2.isMap fun x hx => (HG.out.low x hx).2
        · exact f2.size_put ft (fun x hx => (HG.out.low x hx).2) hn hs
        · intro x hx
          rcases List.mem_append.1 hx with hx | hx
          · exact HS.short x hx
          · simp at hx; subst hx; exact HB.out
      have hoff : Hid (Offs (ownO s b1 b2) w W5) := by
        have a1 : Offs (ownO s b1 b2) W W4 := (Offs.of_below (RowKit.Below.refl _ W).drew).trans (Offs.blk (O := ownO s b1 b2) g4 (Or.inr (Or.inl rfl))) fun _ h => Or.inl h
        have a2 : Offs (ownO s b1 b2) W4 W5 := (Offs.of_below (RowKit.Below.refl _ W4).drew).trans (Offs.blk (O := ownO s b1 b2) g5 (Or.inr (Or.inr rfl))) fun _ h => Or.inl h
        exact (hO.trans a1 fun _ h => Or.inl h).trans a2 fun _ h => Or.inl h
      have d1 : W4.cell? ⟨s, 1, none⟩ = some (.map (some b2)) := (World.cell?_of_block (w := W) q4).trans k1
      have d2 : W4.cell? ⟨s, 2, none⟩ = some (.int .i64 ((n : Int) + 1)) := (World.cell?_of_block (w := W) q4).trans k2
      have d5 : W5.cell? ⟨s, 2, none⟩ = some (.int .i64 ((n : Int) + 1)) := (World.cell?_of_block (w := W) q5).trans k2
      clear o14 o24 o25 o15 g4 g5 q4 q5 p1 p2 f1 f2 hs HS hO hbW HF HB HG H hml hcl k1 kf hw1 hlt2
      unfold valOb at hr5
      go_region
      go_wp2_with fail
      go_region
      go_wp2_with fail
      exact bodyPost_ret (v := .tuple #[.int .i64 ((n + 1 : Nat) : Int), .nilIface]) (by unfold results; rw [Tryz.results164]; go_simp) rfl ⟨rfl, hfin.out, hoff.out⟩
end Go.Proofs.YtnphjdckdkjopaaGreatDoor

/- The program's store keeps the face's contracts. -/
namespace Go.Proofs.YtnphjdckdkjopaaGreatDoor
open Go Go.RowKit Go.Proofs Go.Maps
set_option synthInstance.maxSize 1000

def theFace : Face := {
  lim := reachBytes
  At := StoreAt
  own := by
    rintro w s O n L ⟨b1, b2, h, hO⟩ j hj
    rcases (hO j).1 hj with rfl | rfl | rfl
    · exact h.lts
    · exact h.lt1
    · exact h.lt2
  keep := by
    rintro w w' s O n L ⟨b1, b2, h, hO⟩ hk
    exact ⟨b1, b2, h.kept (hk _ ((hO _).2 (Or.inl rfl))) (hk _ ((hO _).2 (Or.inr (Or.inl rfl)))) (hk _ ((hO _).2 (Or.inr (Or.inr rfl)))), hO⟩
  new := by
    intro w
    refine (SNew_any w).mono ?_
    rintro e w' ⟨rfl, h, hb⟩
    refine ⟨_, ownO (w.heap.size + 2) w.heap.size (w.heap.size + 1), rfl, ⟨_, _, h, fun _ => Iff.rfl⟩, hb, fun j hj => ?_⟩
    rcases hj with rfl | rfl | rfl <;> omega
  put := by
    rintro w s O n L b ⟨b1, b2, h, hO⟩ hg hn hb
    refine (SPut_any w s b1 b2 n L b h hg hn hb).mono ?_
    rintro e w' ⟨rfl, h', ho⟩
    exact ⟨rfl, O, ⟨b1, b2, h', hO⟩, ho.mono fun j hj => Or.inl ((hO j).2 hj), fun j hj => Or.inl hj⟩
  get := by
    rintro w s O n L id ⟨b1, b2, h, hO⟩ hg
    exact SGet_any w s b1 b2 n L id h hg.low
  find := by
    rintro w s O n L b ⟨b1, b2, h, hO⟩ hg hb
    exact SFind_any w s b1 b2 n L b h (by unfold reachBytes at hb; unfold maxLen; omega)
  len := by
    rintro w s O n L ⟨b1, b2, h, hO⟩ hg
    refine (SLen_any w s b1 b2 n L h).mono ?_
    rintro e w' ⟨rfl, rfl⟩
    exact ⟨rfl, RowKit.Below.refl _ _⟩
}
theorem theFace_lim : theFace.lim = reachBytes := rfl
end Go.Proofs.YtnphjdckdkjopaaGreatDoor

/- The program's repo in memory: its store, its commits, its branches by name. -/
namespace Go.Proofs.YtnphjdckdkjopaaGreatDoor
open Go Go.RowKit Go.Proofs Go.Maps
set_option synthInstance.maxSize 1000

/-! ### branches in a map -/
theorem patR_some {l : List Rf} {b : List UInt8} (h : 0 ≤ atR l b) : ∃ n : Nat, atR l b = (n : Int) := ⟨(atR l b).toNat, by omega⟩
theorem patR_none {l : List Rf} {b : List UInt8} (h : ¬ 0 ≤ atR l b) : atR l b = -1 := by have := atR_ge l b; omega
theorem patR_lead {l : List Rf} (hl : ByName l) (b : List UInt8) (t : Nat) (x : List UInt8) : atR (leadR l b t) x = if x = b then (t : Int) else atR l x := by
  split
  · rename_i e
    subst e
    exact (atR_mem (hl.lead x t)).2 (mem_lead.2 (Or.inl rfl))
  · rename_i e
    by_cases h0 : 0 ≤ atR l x
    · obtain ⟨n, hn⟩ := patR_some h0
      rw [hn]
      exact (atR_mem (hl.lead b t)).2 (mem_lead.2 (Or.inr ⟨(atR_mem hl).1 hn, e⟩))
    · rw [patR_none h0]
      refine patR_none fun h1 => ?_
      have hno := atR_neg.1 (show atR l x < 0 by omega)
      have : atR (leadR l b t) x < 0 := atR_neg.2 fun y hy hx => by
        rcases mem_lead.1 hy with rfl | ⟨h2, _⟩
        · exact e hx.symm
        · exact hno y h2 hx
      omega
theorem patR_drop {l : List Rf} (hl : ByName l) (b x : List UInt8) : atR (dropL l b) x = if x = b then -1 else atR l x := by
  split
  · rename_i e
    subst e
    refine patR_none fun h1 => ?_
    have : atR (dropL l x) x < 0 := atR_neg.2 fun y hy => by simpa using (List.mem_filter.1 hy).2
    omega
  · rename_i e
    by_cases h0 : 0 ≤ atR l x
    · obtain ⟨n, hn⟩ := patR_some h0
      rw [hn]
      exact (atR_mem (hl.drop b)).2 (List.mem_filter.2 ⟨(atR_mem hl).1 hn, by simpa using e⟩)
    · rw [patR_none h0]
      refine patR_none fun h1 => ?_
      have hno := atR_neg.1 (show atR l x < 0 by omega)
      have : atR (dropL l b) x < 0 := atR_neg.2 fun y hy => hno y (List.mem_filter.1 hy).1
      omega
theorem pdrop_one {l : List Rf} (hl : ByName l) {b : List UInt8} (h : 0 ≤ atR l b) : (dropL l b).length + 1 = l.length := by
  induction l with
  | nil => simp [atR] at h
  | cons x r ih =>
    obtain ⟨h1, h2⟩ := List.pairwise_cons.1 hl
    unfold dropL
    rw [List.filter_cons]
    by_cases e : x.1 = b
    · rw [if_neg (by simpa using e)]
      have : (r.filter fun x => decide (x.1 ≠ b)) = r := List.filter_eq_self.2 fun y hy => by
        have h9 := h1 y hy
        simp only [decide_eq_true_eq]
        rintro rfl
        rw [e] at h9
        exact List.lt_irrefl _ h9
      rw [this]
      rfl
    · rw [if_pos (by simpa using e)]
      unfold atR at h
      rw [if_neg e] at h
      have := ih h2 h
      unfold dropL at this
      simp only [List.length_cons]
      omega
def brI (l : List Rf) (t : List UInt8) : Int := if 0 ≤ atR l t then atR l t else 0
def BrD (D : DataW Unit) (l : List Rf) : Prop := ∀ t : List UInt8, t.length ≤ maxLen → Maps.has D (.string t) = decide (0 ≤ atR l t) ∧ D.atKey (.string t) (.lit (.int .i64 0)) = .lit (.int .i64 (brI l t))
theorem BrD.nil : BrD (.map []) [] := fun t _ => ⟨by simp [Maps.has_eq, atR], by simp [DataW.atKey, brI, atR]⟩
theorem BrD.put {D : DataW Unit} {l : List Rf} (h : BrD D l) (hm : IsMap D) (hl : ByName l) {b : List UInt8} (hb : b.length ≤ maxLen) (t : Nat) : BrD (D.put (.string b) (.lit (.int .i64 (t : Int)))) (leadR l b t) := by
  intro x hx
  unfold brI
  rw [patR_lead hl]
  by_cases e : x = b
  · subst e
    have hk := keyedSO.key (keyS x hb)
    rw [Maps.has_put_same hm hk, Maps.atKey_put_same hm hk, if_pos rfl]
    exact ⟨by simp, by rw [if_pos (by omega)]⟩
  · have hne : (Lit.string x) ≠ (Lit.string b) := fun e' => e (by simpa using e')
    rw [Maps.has_put_other hne, Maps.atKey_put_other hne, if_neg e]
    exact h x hx
theorem BrD.less {D : DataW Unit} {l : List Rf} (h : BrD D l) (hl : ByName l) (b : List UInt8) : BrD (D.del (.string b)) (dropL l b) := by
  intro x hx
  unfold brI
  rw [patR_drop hl]
  by_cases e : x = b
  · subst e
    rw [Maps.has_del_same, Maps.atKey_del_same, if_pos rfl]
    exact ⟨by simp, by rw [if_neg (by omega)]⟩
  · have hne : (Lit.string x) ≠ (Lit.string b) := fun e' => e (by simpa using e')
    rw [Maps.has_del_other hne, Maps.atKey_del_other hne, if_neg e]
    exact h x hx
theorem BrD.size_put {D : DataW Unit} {l : List Rf} (h : BrD D l) (ht : Tidy D) (hl : ByName l) {b : List UInt8} (hb : b.length ≤ maxLen) (t : Nat) (hs : Maps.size D = l.length) : Maps.size (D.put (.string b) (.lit (.int .i64 (t : Int)))) = (leadR l b t).length := by
  rw [Maps.size_put ht, (h b hb).1, hs, lead_len]
  by_cases h0 : 0 ≤ atR l b
  · have := pdrop_one hl h0
    rw [decide_eq_true h0]
    simp only [if_true]
    omega
  · rw [decide_eq_false h0, drop_len_none (by omega)]
    simp
theorem BrD.size_less {D : DataW Unit} {l : List Rf} (h : BrD D l) (ht : Tidy D) (hl : ByName l) {b : List UInt8} (hb : b.length ≤ maxLen) (h0 : 0 ≤ atR l b) (hs : Maps.size D = l.length) : Maps.size (D.del (.string b)) = (dropL l b).length := by
  have h1 := Maps.size_del (k := .string b) ht
  have h2 := pdrop_one hl h0
  rw [(h b hb).1, decide_eq_true h0, hs] at h1
  simp only [if_true] at h1
  omega
theorem own_few {R : Value → Option (DataW Unit × List MemPlace)} {k : TypeId} {w : World} {b n : Nat} {D : DataW Unit} (h : w.ownsMap Tryz.prog k R b n D) (hs : Maps.size D ≤ 100) : w.ownsMap Tryz.prog k R b 100 D := by
  obtain ⟨es, clock, hm, F, hn, rfl⟩ := h
  refine ⟨es, clock, hm, F, ?_, rfl⟩
  have e : Maps.size (.map ((es.toList.map (Go.WideElems.rg Tryz.prog k R)).foldr DataW.insert [])) = es.size := by
    show ((es.toList.map (Go.WideElems.rg Tryz.prog k R)).foldr DataW.insert []).length = es.size
    rw [length_sorted]
    simp
  omega

/-! ### the repo -/
/-- commits in a row of one's own, the parents' numbers in blocks of P -/
def ComRow (w : World) (cv : Value) (l : List Cm) (P : Nat → Prop) : Prop := ∃ cs : List Value, w.ownsRow 0 113 3 cv l.length cs ∧ ∀ (i : Nat) (hi : i < l.length), ∃ a c, cs[i * 3]? = some (.slice a l[i].1.length c) ∧ cs[i * 3 + 1]? = some (.int .i64 l[i].2.1) ∧ cs[i * 3 + 2]? = some (.string ⟨l[i].2.2.toArray⟩) ∧ SlI w a l[i].1 ∧ l[i].1.length ≤ c ∧ (l[i].1 ≠ [] → ∀ d, a = some d → P d.block)
def BrMap (w : World) (bm : Nat) (l : List Rf) : Prop := ∃ D : DataW Unit, w.ownsMap Tryz.prog 9 (plainElem Tryz.prog 3) bm 100 D ∧ BrD D l ∧ Maps.size D = l.length
/-- the repo at block r: its store at s, its branches at bm -/
structure RpW (w : World) (r s bm : Nat) (cv : Value) (OS P : Nat → Prop) (R : Rp) : Prop where
  blk : w.heap[r]? = some (.cells #[.pointer (some ⟨s, 0, none⟩), cv, .map (some bm)] 85)
  st : theFace.At w s OS R.n R.L
  com : ComRow w cv R.coms P
  map : BrMap w bm R.refs
  link : Linked R
  plt : ∀ j, P j → j < w.heap.size
  ap1 : ¬ OS r ∧ ¬ OS bm ∧ r ≠ bm
  ap2 : ∀ j, cv.ownBlock = some j → ¬ OS j ∧ j ≠ r ∧ j ≠ bm ∧ ¬ P j
  ap3 : ∀ j, P j → ¬ OS j ∧ j ≠ r ∧ j ≠ bm
def RpO (r bm : Nat) (cv : Value) (OS P : Nat → Prop) (j : Nat) : Prop := j = r ∨ j = bm ∨ cv.ownBlock = some j ∨ P j ∨ OS j
/-- what a call may write into: all but the parents' blocks -/
def NoP : Nat → Prop := fun _ => False
theorem RpO.any {r bm : Nat} {cv : Value} {OS P : Nat → Prop} {j : Nat} (h : RpO r bm cv OS NoP j) : RpO r bm cv OS P j := by
  rcases h with h | h | h | h | h
  · exact Or.inl h
  · exact Or.inr (Or.inl h)
  · exact Or.inr (Or.inr (Or.inl h))
  · exact absurd h id
  · exact Or.inr (Or.inr (Or.inr (Or.inr h)))
/-- what a repo owns behind a call: what it owned, or what is new -/
def RpIn (w : World) (r bm : Nat) (cv : Value) (OS P : Nat → Prop) (cv' : Value) (OS' P' : Nat → Prop) : Prop := (∀ j, RpO r bm cv' OS' NoP j → RpO r bm cv OS NoP j ∨ w.heap.size ≤ j) ∧ ∀ j, P' j → P j ∨ w.heap.size ≤ j
theorem RpIn.refl (w : World) (r bm : Nat) (cv : Value) (OS P : Nat → Prop) : RpIn w r bm cv OS P cv OS P := ⟨fun _ h => Or.inl h, fun _ h => Or.inl h⟩
theorem RpIn.later {w w1 : World} {r bm : Nat} {cv cv' : Value} {OS P OS' P' : Nat → Prop} (h : RpIn w1 r bm cv OS P cv' OS' P') (hz : w.heap.size ≤ w1.heap.size) : RpIn w r bm cv OS P cv' OS' P' :=
  ⟨fun j hj => (h.1 j hj).imp id (Nat.le_trans hz), fun j hj => (h.2 j hj).imp id (Nat.le_trans hz)⟩
theorem RpIn.all {w : World} {r bm : Nat} {cv cv' : Value} {OS P OS' P' : Nat → Prop} (h : RpIn w r bm cv OS P cv' OS' P') : ∀ j, RpO r bm cv' OS' P' j → RpO r bm cv OS P j ∨ w.heap.size ≤ j := by
  rintro j (hj | hj | hj | hj | hj)
  · exact (h.1 j (Or.inl hj)).imp RpO.any id
  · exact (h.1 j (Or.inr (Or.inl hj))).imp RpO.any id
  · exact (h.1 j (Or.inr (Or.inr (Or.inl hj)))).imp RpO.any id
  · exact (h.2 j hj).imp (fun h => Or.inr (Or.inr (Or.inr (Or.inl h)))) id
  · exact (h.1 j (Or.inr (Or.inr (Or.inr (Or.inr hj))))).imp RpO.any id
theorem RpW.lt {w : World} {r s bm : Nat} {cv : Value} {OS P : Nat → Prop} {R : Rp} (h : RpW w r s bm cv OS P R) : r < w.heap.size := (Array.getElem?_eq_some_iff.1 h.blk).1
theorem RpW.own {w : World} {r s bm : Nat} {cv : Value} {OS P : Nat → Prop} {R : Rp} (h : RpW w r s bm cv OS P R) : ∀ j, RpO r bm cv OS P j → j < w.heap.size := by
  obtain ⟨cs, hc, _⟩ := h.com
  obtain ⟨D, ho, _⟩ := h.map
  rintro j (rfl | rfl | hj | hj | hj)
  · exact h.lt
  · exact ho.lt
  · exact (hc.lt j hj).2
  · exact h.plt j hj
  · exact theFace.own h.st j hj
theorem prow_keep {w w' : World} {base : Nat} {e : TypeId} {sz : Nat} {v : Value} {n : Nat} {cs : List Value} (h : w.ownsRow base e sz v n cs) (hb : ∀ j, v.ownBlock = some j → w'.heap[j]? = w.heap[j]?) : w'.ownsRow base e sz v n cs := by
  refine ⟨h.1, ?_⟩
  rcases h.2 with h0 | ⟨g, cap, cur, hv, hg, hm, r⟩
  · exact Or.inl h0
  · exact Or.inr ⟨g, cap, cur, hv, hg, (hb g (by rw [hv]; rfl)).trans hm, r⟩
theorem psl_keep {w w' : World} {ad : Option Addr} {l : List Int} (h : SlI w ad l) (hb : l ≠ [] → ∀ d, ad = some d → w'.heap[d.block]? = w.heap[d.block]?) : SlI w' ad l := fun hl => by
  obtain ⟨b, o, e, h1⟩ := h hl
  have q := hb hl _ e
  exact ⟨b, o, e, fun j hj => (World.cell?_of_block (w := w) (a := ⟨b, o + j, none⟩) q).trans (h1 j hj)⟩
theorem ComRow.keep {w w' : World} {cv : Value} {l : List Cm} {P : Nat → Prop} (h : ComRow w cv l P) (h1 : ∀ j, cv.ownBlock = some j → w'.heap[j]? = w.heap[j]?) (h2 : ∀ j, P j → w'.heap[j]? = w.heap[j]?) : ComRow w' cv l P := by
  obtain ⟨cs, hc, hc2⟩ := h
  refine ⟨cs, prow_keep hc h1, fun i hi => ?_⟩
  obtain ⟨a, c, q1, q2, q3, q4, q5, q6⟩ := hc2 i hi
  exact ⟨a, c, q1, q2, q3, psl_keep q4 fun hl d hd => h2 _ (q6 hl d hd), q5, q6⟩
theorem BrMap.keep {w w' : World} {bm : Nat} {l : List Rf} (h : BrMap w bm l) (hb : w'.heap[bm]? = w.heap[bm]?) : BrMap w' bm l := by
  obtain ⟨D, ho, r⟩ := h
  exact ⟨D, ownsMap_block ho hb, r⟩
theorem RpW.keep {w w' : World} {r s bm : Nat} {cv : Value} {OS P : Nat → Prop} {R : Rp} (h : RpW w r s bm cv OS P R) (hb : ∀ j, RpO r bm cv OS P j → w'.heap[j]? = w.heap[j]?) : RpW w' r s bm cv OS P R :=
  ⟨(hb r (Or.inl rfl)).trans h.blk, theFace.keep h.st fun j hj => hb j (Or.inr (Or.inr (Or.inr (Or.inr hj)))), h.com.keep (fun j hj => hb j (Or.inr (Or.inr (Or.inl hj)))) (fun j hj => hb j (Or.inr (Or.inr (Or.inr (Or.inl hj))))), h.map.keep (hb bm (Or.inr (Or.inl rfl))), h.link,
   fun j hj => by
     have h1 := h.plt j hj
     have h2 := hb j (Or.inr (Or.inr (Or.inr (Or.inl hj))))
     obtain ⟨o, ho⟩ : ∃ o, w.heap[j]? = some o := ⟨w.heap[j], Array.getElem?_eq_getElem h1⟩
     exact (Array.getElem?_eq_some_iff.1 (h2.trans ho)).1,
   h.ap1, h.ap2, h.ap3⟩
theorem RpW.below {w w' : World} {r s bm : Nat} {cv : Value} {OS P : Nat → Prop} {R : Rp} (h : RpW w r s bm cv OS P R) (hb : RowKit.Below w.heap.size w w') : RpW w' r s bm cv OS P R :=
  h.keep fun j hj => hb.block j (h.own j hj)
theorem RpW.cells {w : World} {r s bm : Nat} {cv : Value} {OS P : Nat → Prop} {R : Rp} (h : RpW w r s bm cv OS P R) : w.cell? ⟨r, 0, none⟩ = some (.pointer (some ⟨s, 0, none⟩)) ∧ w.cell? ⟨r, 1, none⟩ = some cv ∧ w.cell? ⟨r, 2, none⟩ = some (.map (some bm)) ∧ w.frozen? ⟨r, 1, none⟩ = false := by
  have h := h.blk
  refine ⟨?_, ?_, ?_, ?_⟩ <;> simp [World.cell?, World.frozen?, h]
/-- what a caller of the repo knows of it -/
def RepAt (w : World) (r : Nat) (O : Nat → Prop) (R : Rp) : Prop := ∃ s bm cv OS P, RpW w r s bm cv OS P R ∧ ∀ j, O j ↔ RpO r bm cv OS P j

/-- the commits' slice -/
theorem ComRow.form {w : World} {cv : Value} {l : List Cm} {P : Nat → Prop} (h : ComRow w cv l P) : ∃ ad cap, cv = .slice ad l.length cap := by
  obtain ⟨cs, hc, _⟩ := h
  exact prow_form hc
end Go.Proofs.YtnphjdckdkjopaaGreatDoor

/- Patterns in plain words: what is wrong with one, which variables it has, and whether a triple fits. -/
namespace Go.Proofs.YtnphjdckdkjopaaGreatDoor
open Go Go.RowKit Go.Proofs
set_option synthInstance.maxSize 1000

/-- a slot: its variable, its term; a pattern: three slots -/
abbrev Sl := List UInt8 × Tm
abbrev Pt := Sl × Sl × Sl
def tmZero : Tm := (0, [], [])
def tmChk (x : Tm) : Int := checkN x.1 x.2.1 x.2.2

/-- is a text that is not empty a variable? -/
def spellV (v : List UInt8) : Bool := decide (v.length ≤ 10) && allB letB v
/-- what is wrong with a slot; with a pattern -/
def slotN (s : Sl) : Int := if s.1 = [] then tmChk s.2 else if spellV s.1 = false then 2 else if s.2 = tmZero then 0 else 3
def varsN (p : Pt) : Int := if slotN p.1 = 0 then (if slotN p.2.1 = 0 then slotN p.2.2 else slotN p.2.1) else slotN p.1
/-- a pattern's variables, each once -/
def addV (l : List (List UInt8)) (s : Sl) : List (List UInt8) := if s.1 = [] then l else if s.1 ∈ l then l else l ++ [s.1]
def varsL (p : Pt) : List (List UInt8) := addV (addV (addV [] p.1) p.2.1) p.2.2

/-- does a triple fit? -/
def fitsB (p : Pt) (t : Tr) : Bool :=
  (if p.1.1 = [] then decide (t.1 = p.1.2) else true) &&
  ((if p.2.1.1 = [] then decide (t.2.1 = p.2.1.2) else if p.2.1.1 = p.1.1 then decide (t.2.1 = t.1) else true) &&
  (if p.2.2.1 = [] then decide (t.2.2 = p.2.2.2) else if p.2.2.1 = p.1.1 then decide (t.2.2 = t.1) else if p.2.2.1 = p.2.1.1 then decide (t.2.2 = t.2.1) else true))

/-- a rune that is no letter a to z -/
def offR (r : Nat) : Bool := decide (r < 97) || decide (122 < r)

theorem idx_off (s : ByteArray) : ∀ (f pos : Nat), s.size ≤ pos + f → (0 ≤ Lib.idxFuncFrom offR true s f pos ↔ ∃ k, ∃ h : k < s.size, pos ≤ k ∧ letB (s[k].toNat : Int) = false)
  | 0, pos, hf => by
    simp only [Lib.idxFuncFrom]
    constructor
    · intro h; omega
    · rintro ⟨k, h, hk, _⟩; omega
  | f + 1, pos, hf => by
    unfold Lib.idxFuncFrom
    by_cases hp : pos < s.size
    · rw [if_pos hp]
      by_cases hb : s[pos].toNat < 128
      · rw [decode_ascii s pos hp hb]
        simp only
        by_cases ho : offR s[pos].toNat = true
        · rw [if_pos ho]
          refine ⟨fun _ => ⟨pos, hp, Nat.le_refl _, ?_⟩, fun _ => by omega⟩
          simp [offR] at ho
          simp [letB]; omega
        · rw [if_neg ho, idx_off s f (pos + 1) (by omega)]
          constructor
          · rintro ⟨k, h, hk, e⟩; exact ⟨k, h, by omega, e⟩
          · rintro ⟨k, h, hk, e⟩
            refine ⟨k, h, ?_, e⟩
            rcases Nat.lt_or_ge pos k with hlt | hge
            · omega
            · have hkp : k = pos := by omega
              subst hkp
              simp [offR] at ho
              simp [letB] at e
              omega
      · have hh := (decode_high s pos hp (by omega)).1
        have ho : offR (Utf8.decode s pos).1 = true := by simp [offR]; omega
        rw [if_pos ho]
        refine ⟨fun _ => ⟨pos, hp, Nat.le_refl _, ?_⟩, fun _ => by omega⟩
        simp [letB]; omega
    · rw [if_neg hp]
      constructor
      · intro h; omega
      · rintro ⟨k, h, hk, _⟩; omega

theorem offAny (s : ByteArray) : decide (0 ≤ Lib.idxFunc offR true s) = !allB letB s.data.toList := by
  have h := idx_off s s.size 0 (by omega)
  have e : (∃ k, ∃ h : k < s.size, 0 ≤ k ∧ letB (s[k].toNat : Int) = false) ↔ allB letB s.data.toList = false := by
    unfold allB
    rw [List.all_eq_false]
    constructor
    · rintro ⟨k, hk, _, e⟩
      exact ⟨s.data.toList[k]'(by simpa using hk), List.getElem_mem _, by rw [show s.data.toList[k]'(by simpa using hk) = s[k] from rfl, e]; simp⟩
    · rintro ⟨x, hx, e⟩
      obtain ⟨k, hk, rfl⟩ := List.getElem_of_mem hx
      have hk' : k < s.size := by simpa using hk
      exact ⟨k, hk', Nat.zero_le _, by rw [show s[k] = s.data.toList[k] from rfl]; simpa using e⟩
  unfold Lib.idxFunc
  cases ha : allB letB s.data.toList
  · simpa using h.2 (e.2 ha)
  · have : ¬ (0 ≤ Lib.idxFuncFrom offR true s s.size 0) := fun h0 => by
      have := e.1 (h.1 h0)
      rw [ha] at this
      cases this
    simp [this]
end Go.Proofs.YtnphjdckdkjopaaGreatDoor

/- repo's isName, has, hasBranch, hasRoom, Head, Object: what they tell. -/
namespace Go.Proofs.YtnphjdckdkjopaaGreatDoor
open Go Go.RowKit Go.Proofs Go.Maps
set_option synthInstance.maxSize 1000

attribute [local go_sem] eql_errV neq_errV guard_errV

theorem roff_any (x : Nat) (w : World) : Calls Tryz.prog 130 #[.int .i32 x] w fun e w' => e = .returned (.bool (offR x)) ∧ ∃ q, w' = w.drewN q := by
  have fin : Hid (offR x = (decide (x < 97) || decide (122 < x))) := rfl
  by_cases h : x < 97
  · have h' : decide ((x : Int) < 97) = true := by simp; omega
    go_enter Tryz.func130, Tryz.ntmps130
    go_wp2
    go_ret
    exact ⟨ret_bool (by rw [fin.out]; simp [h]), 0, rfl⟩
  · have h' : decide ((x : Int) < 97) = false := by simp; omega
    go_enter Tryz.func130, Tryz.ntmps130
    go_wp2
    go_ret
    exact ⟨ret_bool (by rw [fin.out]; simp [h]; omega), 0, rfl⟩
theorem entersName : ∀ args w, (callFunc 130 args).run Tryz.prog w = .ok (.enter 130 args) w := enters_of Tryz.func130 (by kernel_rfl) rfl

theorem QIsName_any (v : List UInt8) (w : World) (hv : v.length ≤ maxLen) :
    Calls Tryz.prog 94 #[.string ⟨v.toArray⟩] w fun e w' => e = .returned (.bool (nameR v)) ∧ RowKit.Below w.heap.size w w' := by
  have H := fun W => Tryz.strings_ContainsFunc 130 #[] entersName offR ⟨v.toArray⟩ W (fun W' x _ => roff_any x W')
  have e : decide (0 ≤ Lib.idxFunc offR true ⟨v.toArray⟩) = !allB letB v := offAny ⟨v.toArray⟩
  rw [e] at H
  have fin : Hid (nameR v = (!v.isEmpty && (decide (v.length ≤ 10) && allB letB v))) := rfl
  unfold maxLen at hv
  generalize allB letB v = d at *
  clear e
  cases v with
  | nil =>
    go_enter Tryz.func94, Tryz.ntmps94
    go_wp2
    go_ret
    exact ⟨ret_bool (by rw [fin.out]; rfl), RowKit.Below.refl _ _⟩
  | cons a v =>
    obtain ⟨u, hu⟩ : ∃ u, u = a :: v := ⟨_, rfl⟩
    rw [← hu] at H fin hv ⊢
    have h0 : (0 : Int) < (u.length : Int) := by rw [hu, List.length_cons]; omega
    have fin2 : Hid (nameR u = (decide (u.length ≤ 10) && d)) := by show _ = _; rw [fin.out, hu]; rfl
    clear hu fin
    by_cases h : u.length ≤ 10
    · have h' : decide ((u.length : Int) ≤ 10) = true := by simp; omega
      go_enter Tryz.func94, Tryz.ntmps94
      go_wp2_with (go_at_call 129; refine (H _).mono ?_; rintro e w' ⟨rfl, hb⟩)
      go_ret
      exact ⟨ret_bool (by rw [fin2.out]; simp [h]), by assumption⟩
    · have h' : decide ((u.length : Int) ≤ 10) = false := by simp; omega
      go_enter Tryz.func94, Tryz.ntmps94
      go_wp2
      go_ret
      exact ⟨ret_bool (by rw [fin2.out]; simp [h]), RowKit.Below.refl _ _⟩

/-- a look-up of a branch -/
theorem look_br {w : World} {bm : Nat} {l : List Rf} (h : BrMap w bm l) (t : List UInt8) (ht : t.length ≤ maxLen) :
    (Instr.lookup 82 (.map (some bm)) (.string ⟨t.toArray⟩) true).run Tryz.prog w = .ok (.tuple #[.int .i64 (brI l t), .bool (decide (0 ≤ atR l t))]) w := by
  obtain ⟨D, o1, f1, hs⟩ := h
  obtain ⟨v, ps, hrun, hv⟩ := o1.look_ok keyedSO Tryz.underlying82 (zeroNum w) (plainElem_int Tryz.underlying3 (by decide)) (keyS t ht)
  rw [(f1 t ht).2] at hv
  obtain ⟨a, rfl, ha, _⟩ := plainElem_int_inv Tryz.underlying3 hv
  simp only [Prod.mk.injEq, DataW.lit.injEq, Lit.int.injEq, true_and] at ha
  rw [hrun, (f1 t ht).1, ha.1]
theorem BrMap.drew {w : World} {bm : Nat} {l : List Rf} (h : BrMap w bm l) : BrMap w.drew bm l := h.keep rfl
theorem brI_pos {l : List Rf} {t : List UInt8} (h : 0 ≤ atR l t) : brI l t = atR l t := if_pos h

theorem Qhas_any (w : World) (r s bm : Nat) (cv : Value) (OS P : Nat → Prop) (R : Rp) (a : Int) (h : RpW w r s bm cv OS P R) :
    Calls Tryz.prog 62 #[.pointer (some ⟨r, 0, none⟩), .int .i64 a] w fun e w' => e = .returned (.bool (inR R a)) ∧ RowKit.Below w.heap.size w w' := by
  obtain ⟨c0, c1, c2, cf⟩ := h.cells
  obtain ⟨ad, cap, rfl⟩ := h.com.form
  have hlt := h.lt
  have fin : Hid (inR R a = (decide (0 ≤ a) && decide (a < (R.coms.length : Int)))) := by show _ = _; unfold inR; rw [Bool.eq_iff_iff]; simp
  generalize inR R a = q at *
  clear h
  by_cases h0 : 0 ≤ a
  all_goals
    go_enter Tryz.func62, Tryz.ntmps62
    go_wp2
    go_ret
    exact ⟨ret_bool (by rw [fin.out]; first | (rw [decide_eq_true h0]; simp) | (rw [decide_eq_false (show ¬ (0 ≤ a) by omega)]; rfl)), RowKit.Below.refl _ _⟩

theorem QhasBranch_any (w : World) (r s bm : Nat) (cv : Value) (OS P : Nat → Prop) (R : Rp) (b : List UInt8) (h : RpW w r s bm cv OS P R) (hb : b.length ≤ maxLen) :
    Calls Tryz.prog 95 #[.pointer (some ⟨r, 0, none⟩), .string ⟨b.toArray⟩] w fun e w' => e = .returned (.bool (decide (0 ≤ atR R.refs b))) ∧ RowKit.Below w.heap.size w w' := by
  obtain ⟨c0, c1, c2, cf⟩ := h.cells
  have hlt := h.lt
  have hl := look_br h.map b hb
  clear h hb
  generalize decide (0 ≤ atR R.refs b) = q at *
  generalize brI R.refs b = z at *
  go_enter Tryz.func95, Tryz.ntmps95
  go_wp2_with fail
  go_ret
  exact ⟨rfl, RowKit.Below.refl _ _⟩

theorem QhasRoom_any (w : World) (r s bm : Nat) (cv : Value) (OS P : Nat → Prop) (R : Rp) (h : RpW w r s bm cv OS P R) :
    Calls Tryz.prog 96 #[.pointer (some ⟨r, 0, none⟩)] w fun e w' => e = .returned (.bool (decide (R.refs.length < 8))) ∧ RowKit.Below w.heap.size w w' := by
  obtain ⟨c0, c1, c2, cf⟩ := h.cells
  have hlt := h.lt
  obtain ⟨D, o1, f1, hs⟩ := h.map
  have fin : Hid (decide (R.refs.length < 8) = decide (((Maps.size D : Nat) : Int) < 8)) := by show _ = _; rw [hs, Bool.eq_iff_iff]; simp; omega
  clear h f1 hs
  generalize decide (R.refs.length < 8) = q at *
  go_enter Tryz.func96, Tryz.ntmps96
  go_wp2_with (at_len; refine wpList_len_own _ rfl _ 82 rfl 9 3 Tryz.underlying82 _ bm _ D rfl o1 ?_)
  go_ret
  exact ⟨ret_bool (by rw [fin.out]), RowKit.Below.refl _ _⟩

theorem QObject_any (w : World) (r s bm : Nat) (cv : Value) (OS P : Nat → Prop) (R : Rp) (id : Int) (h : RpW w r s bm cv OS P R) (hg : GoodR R) :
    Calls Tryz.prog 63 #[.pointer (some ⟨r, 0, none⟩), .int .i64 id] w fun e w' => e = .returned (.tuple #[.string ⟨(getB R.L id).toArray⟩, errV (getE R.L id)]) ∧ RowKit.Below w.heap.size w w' := by
  obtain ⟨c0, c1, c2, cf⟩ := h.cells
  have hlt := h.lt
  have H := theFace.get w s OS R.n R.L id h.st hg.store
  clear h hg
  generalize getB R.L id = B at *
  generalize getE R.L id = N at *
  go_enter Tryz.func63, Tryz.ntmps63
  go_wp2_with (go_at_call 88; refine H.mono ?_; rintro e w1 ⟨rfl, hb1⟩; dsimp only)
  exact bodyPost_ret (v := .tuple #[.string ⟨B.toArray⟩, errV N]) (by unfold results; rw [Tryz.results63]; go_simp) rfl ⟨rfl, hb1⟩
end Go.Proofs.YtnphjdckdkjopaaGreatDoor

/- A commit of the program's repo, and its graph: what is known of it. -/
namespace Go.Proofs.YtnphjdckdkjopaaGreatDoor
open Go Go.RowKit Go.Proofs Go.Maps
set_option synthInstance.maxSize 1000

theorem gr_at {R : Rp} (h : GoodR R) {k : Nat} (hk : k < R.coms.length) : ∃ c g, R.coms[k]? = some c ∧ R.gr[k]? = some g ∧ IsSet g ∧ (∀ p ∈ c.1, 0 ≤ p ∧ p < (k : Int)) := by
  have hk2 : k < R.gr.length := by rw [h.len]; exact hk
  exact ⟨R.coms[k], R.gr[k], List.getElem?_eq_getElem hk, List.getElem?_eq_getElem hk2, h.sets _ (List.getElem_mem hk2), range_par (h.coms.2 k hk)⟩
/-- a commit in the row -/
theorem ComRow.at_ {w : World} {cv : Value} {l : List Cm} {P : Nat → Prop} (h : ComRow w cv l P) {k : Nat} {c : Cm} (hc : l[k]? = some c) : ∃ g cap a ca, cv = .slice (some ⟨g, 0, none⟩) l.length cap ∧ w.cell? ⟨g, k * 3, none⟩ = some (.slice a c.1.length ca) ∧ w.cell? ⟨g, k * 3 + 1, none⟩ = some (.int .i64 c.2.1) ∧ w.cell? ⟨g, k * 3 + 2, none⟩ = some (.string ⟨c.2.2.toArray⟩) ∧ SlI w a c.1 ∧ c.1.length ≤ ca := by
  obtain ⟨cs, ho, h2⟩ := h
  obtain ⟨hk, rfl⟩ := List.getElem?_eq_some_iff.1 hc
  obtain ⟨g, cap, e, _, hx⟩ := prow_at ho (by omega)
  obtain ⟨a, ca, q1, q2, q3, q4, q5, q6⟩ := h2 k hk
  exact ⟨g, cap, a, ca, e, hx _ _ q1, hx _ _ q2, hx _ _ q3, q4, q5⟩

end Go.Proofs.YtnphjdckdkjopaaGreatDoor

/- repo's find: the commit that is there already. -/
namespace Go.Proofs.YtnphjdckdkjopaaGreatDoor
open Go Go.RowKit Go.Proofs Go.Maps
set_option synthInstance.maxSize 1000

attribute [local go_sem] eql_errV neq_errV guard_errV

/-- what is asked of a test of commits -/
def PredC (g : Nat) (lb : Array Value) (p : Cm → Bool) (w : World) : Prop :=
  ∀ (W : World) (c : Cm) (a : Option Addr) (ca : Nat), RowKit.Below w.heap.size w W → SlI W a c.1 → c.1.length ≤ maxLen → Calls Tryz.prog g (#[.agg #[.slice a c.1.length ca, .int .i64 c.2.1, .string ⟨c.2.2.toArray⟩]] ++ lb) W fun e w' => e = .returned (.bool (p c)) ∧ RowKit.Below W.heap.size W w'
/-- commits that lie there, now and later -/
def ComsHere (w : World) (ad : Option Addr) (l : List Cm) : Prop := ∀ W, RowKit.Below w.heap.size w W → ∀ (k : Nat) (hk : k < l.length), ∃ g a ca, ad = some ⟨g, 0, none⟩ ∧ W.cell? ⟨g, k * 3, none⟩ = some (.slice a l[k].1.length ca) ∧ W.cell? ⟨g, k * 3 + 1, none⟩ = some (.int .i64 l[k].2.1) ∧ W.cell? ⟨g, k * 3 + 2, none⟩ = some (.string ⟨l[k].2.2.toArray⟩) ∧ SlI W a l[k].1 ∧ l[k].1.length ≤ ca
theorem RpW.here {w : World} {r s bm : Nat} {ad : Option Addr} {cap : Nat} {OS P : Nat → Prop} {R : Rp} {n : Nat} (h : RpW w r s bm (.slice ad n cap) OS P R) : ComsHere w ad R.coms := fun W hW k hk => by
  obtain ⟨g, cap', a, ca, e, q⟩ := (h.below hW).com.at_ (List.getElem?_eq_getElem hk)
  obtain ⟨rfl, _, _⟩ := Value.slice.inj e
  exact ⟨g, a, ca, rfl, q⟩
theorem idx_at {l : List Cm} {p : Cm → Bool} {k : Nat} (h : l.findIdx? p = some k) : idxI (l.findIdx? p) = (k : Int) := by rw [h]; rfl
theorem find_first {l : List Cm} {p : Cm → Bool} {k : Nat} (hk : k < l.length) (hn : ∀ (j : Nat) (hj : j < l.length), j < k → p l[j] = false) (h : p l[k] = true) : l.findIdx? p = some k := by
  rw [List.findIdx?_eq_some_iff_getElem]
  exact ⟨hk, h, fun j hj => by rw [hn j (by omega) hj]; decide⟩
theorem find_not {l : List Cm} {p : Cm → Bool} (hn : ∀ (j : Nat) (hj : j < l.length), p l[j] = false) : l.findIdx? p = none := by
  rw [List.findIdx?_eq_none_iff]
  intro x hx
  obtain ⟨j, hj, rfl⟩ := List.getElem_of_mem hx
  exact hn j hj
theorem findP_idx (l : List Cm) (id : Int) (t : List UInt8) (ps : List Int) : findP l id t ps = l.findIdx? fun c => hitB c id t ps := by
  induction l with
  | nil => rfl
  | cons c r ih =>
    unfold findP
    rw [List.findIdx?_cons, ih]
    by_cases h : c.2.1 = id ∧ c.2.2 = t ∧ c.1 = ps
    · rw [if_pos h, hitB_iff.2 h]; rfl
    · have : hitB c id t ps = false := by
        cases hh : hitB c id t ps with
        | false => rfl
        | true => exact absurd (hitB_iff.1 hh) h
      rw [if_neg h, this]
      simp

set_option maxHeartbeats 4000000 in
set_option maxRecDepth 100000 in
theorem QIndex_any (g : Nat) (lb : Array Value) (p : Cm → Bool) (w : World) (ad : Option Addr) (ca : Nat) (l : List Cm) (eg : ∀ args w, (callFunc g args).run Tryz.prog w = .ok (.enter g args) w) (hp : PredC g lb p w) (hs : ComsHere w ad l) (hl : l.length ≤ 60) (hm : ∀ c ∈ l, c.1.length ≤ maxLen) :
    Calls Tryz.prog 192 #[.slice ad l.length ca, .func (.func g) #[] lb] w fun e w' => e = .returned (.int .i64 (idxI (l.findIdx? p))) ∧ RowKit.Below w.heap.size w w' := by
  have H := hideO hp
  have HS := hideO hs
  have HM := hideO hm
  clear hp hs hm
  go_enter Tryz.func192, Tryz.ntmps192
  go_wp2_with fail
  go_loopw [8] (fun i wr => ∃ (k : Nat), k ≤ l.length ∧ i = .int .i64 k ∧ RowKit.Below w.heap.size w wr ∧ Hid (∀ (j : Nat) (hj : j < l.length), j < k → p l[j] = false)) (fun i wr => l.length - (intOf i).toNat)
  case atStart => exact ⟨0, Nat.zero_le _, rfl, RowKit.Below.refl _ w, fun j hj h0 => by omega⟩
  case round =>
    obtain ⟨k, hk, rfl, hbr, hall⟩ := hrel
    by_cases hlt : k < l.length
    · obtain ⟨b, a, c, rfl, q0, q1, q2, q3, q4⟩ := HS.out wr hbr k hlt
      have hcall := H.out wr l[k] a c hbr q3 (HM.out _ (List.getElem_mem hlt))
      have i0 : (0 : Int) ≤ (k : Int) := by omega
      have i1 : (k : Int) < (l.length : Int) := by omega
      have HV : Hid (∀ q, p l[k] = q → (q = false → (∀ (j : Nat) (hj : j < l.length), j < k + 1 → p l[j] = false)) ∧ (q = true → idxI (l.findIdx? p) = (k : Int))) := by
        intro q hq
        refine ⟨fun e j hj h1 => ?_, fun e => idx_at (find_first hlt (fun j hj h => hall.out j hj h) (hq.trans e))⟩
        by_cases ej : j = k
        · subst ej; exact hq.trans e
        · exact hall.out j hj (by omega)
      clear q3 q4
      cases hq : p l[k] with
      | false =>
        rw [hq] at hcall
        have hnext : Hid (∀ (j : Nat) (hj : j < l.length), j < k + 1 → p l[j] = false) := (HV.out _ hq).1 rfl
        clear HV hq hall
        generalize l[k] = z at *
        obtain ⟨z1, z2, z3⟩ := z
        dsimp only at *
        go_wp2_with (go_at_fn g; refine hcall.mono ?_; rintro e w' ⟨rfl, hb'⟩; dsimp only)
        go_roundw
        case rel => exact ⟨k + 1, by omega, by go_num, bstep hbr hb', hnext⟩
        case measure => simp [intOf]; omega
      | true =>
        rw [hq] at hcall
        have hno2 : Hid (idxI (l.findIdx? p) = (k : Int)) := (HV.out _ hq).2 rfl
        clear HV hq hall
        generalize l[k] = z at *
        obtain ⟨z1, z2, z3⟩ := z
        dsimp only at *
        go_wp2_with (go_at_fn g; refine hcall.mono ?_; rintro e w' ⟨rfl, hb'⟩; dsimp only)
        go_ret
        exact ⟨by rw [hno2.out]; rfl, bstep hbr hb'⟩
    · have hkk : k = l.length := by omega
      have hyes : Hid (l.findIdx? p = none) := find_not fun j hj => hall.out j hj (by omega)
      subst hkk
      clear hall
      go_wp2_with fail
      go_ret
      exact ⟨by rw [hyes.out]; rfl, hbr⟩

set_option maxHeartbeats 4000000 in
set_option maxRecDepth 100000 in
theorem Qfind_any (w : World) (r s bm : Nat) (cv : Value) (OS P : Nat → Prop) (R : Rp) (pd : Option Addr) (pc : Nat) (ps : List Int) (b t : List UInt8) (h : RpW w r s bm cv OS P R) (hg : GoodR R) (hs : SlI w pd ps) (hl : ps.length ≤ maxLen) (hb : b.length ≤ reachBytes) :
    Calls Tryz.prog 163 #[.pointer (some ⟨r, 0, none⟩), .slice pd ps.length pc, .string ⟨b.toArray⟩, .string ⟨t.toArray⟩] w fun e w' => e = .returned (.int .i64 (idxI (if findO R.L b = 0 then none else findP R.coms (findO R.L b : Int) t ps))) ∧ RowKit.Below w.heap.size w w' := by
  have HF := fun W (hW : RowKit.Below w.heap.size w W) => theFace.find W s OS R.n R.L b (h.below hW).st hg.store hb
  obtain ⟨ad, cap, rfl⟩ := h.com.form
  have HI := hideO (fun W (hW : RowKit.Below w.heap.size w W) (B1 B2 B3 : Nat) (id : Int) (hf : FindG W B1 B2 B3 id t pd pc ps) => QIndex_any 193 #[.pointer (some ⟨B1, 0, none⟩), .pointer (some ⟨B2, 0, none⟩), .pointer (some ⟨B3, 0, none⟩)] (fun c => hitB c id t ps) W ad cap R.coms entersFind (fun W' c a ca hW' hc hcl => Qfind1_any W' B1 B2 B3 id t pd pc ps a ca c.1 c.2.1 c.2.2 (hf.below hW') hc hcl) (h.below hW).here hg.coms.1 (fun c hc => by
    obtain ⟨j, hj, rfl⟩ := List.getElem_of_mem hc
    have := hg.coms.2 j hj
    unfold comN at this
    split at this
    · cases this
    · unfold maxLen; omega))
  have HL := hideO (fun W (hW : RowKit.Below w.heap.size w W) => ((h.below hW).cells))
  have HS := hideO hs
  have HB := hideO hl
  have hlt := h.lt
  have hmx : R.coms.length ≤ 60 := hg.coms.1
  have E1 : findE R.L b = if findO R.L b = 0 then 5 else 0 := rfl
  rw [E1] at HF
  clear h hs hl hb E1 hg
  generalize findO R.L b = q at *
  have hba2 := bstep (balloc w (.cells #[.slice pd ps.length pc] 37)) (balloc (w.alloc (.cells #[.slice pd ps.length pc] 37)) (.cells #[.string ⟨t.toArray⟩] 9))
  have HA := hideO hba2
  have d3 : ((w.alloc (.cells #[.slice pd ps.length pc] 37)).alloc (.cells #[.string ⟨t.toArray⟩] 9)).cell? ⟨w.heap.size, 0, none⟩ = some (.slice pd ps.length pc) := by go_simp
  have d2 : ((w.alloc (.cells #[.slice pd ps.length pc] 37)).alloc (.cells #[.string ⟨t.toArray⟩] 9)).cell? ⟨w.heap.size + 1, 0, none⟩ = some (.string ⟨t.toArray⟩) := by go_simp
  have D3 := hideO d3
  have D2 := hideO d2
  obtain ⟨k0, k1, k2, kf⟩ := HL.out _ hba2
  have z1 : r < ((w.alloc (.cells #[.slice pd ps.length pc] 37)).alloc (.cells #[.string ⟨t.toArray⟩] 9)).heap.size := by have := hba2.size; omega
  have HFA := HF _ hba2
  clear hba2 d3 d2 HF
  by_cases hq : q = 0
  · subst hq
    rw [if_pos rfl] at HFA ⊢
    clear HI HS HB D3 D2 HL
    go_enter Tryz.func163, Tryz.ntmps163
    go_wp2_with (go_at_call 191; refine HFA.mono ?_; rintro e w1 ⟨rfl, hb1⟩; rw [show errV 5 = Value.iface 72 (.int .i64 5) from rfl]; dsimp only)
    go_ret
    exact ⟨rfl, bstep (bstep HA.out hb1) (balloc _ _)⟩
  · rw [if_neg hq] at HFA ⊢
    rw [findP_idx]
    go_enter Tryz.func163, Tryz.ntmps163
    go_wp2_with (go_at_call 191; refine HFA.mono ?_; rintro e w1 ⟨rfl, hb1⟩; rw [show errV 0 = Value.nilIface from rfl]; dsimp only; have hb2 := bstep hb1 (balloc w1 (.cells #[.int .i64 (q : Int)] 3)); obtain ⟨m0, m1, m2, mf⟩ := HL.out _ (bstep HA.out hb2); have z2 : r < (w1.alloc (.cells #[.int .i64 (q : Int)] 3)).heap.size := (by have := hb2.size; omega))
    have hf : FindG (w1.alloc (.cells #[.int .i64 (q : Int)] 3)) w1.heap.size (w.heap.size + 1) w.heap.size (q : Int) t pd pc ps := ⟨by go_simp, (hb2.cell (World.block_lt_of_cell? _ _ D2.out)).trans D2.out, (hb2.cell (World.block_lt_of_cell? _ _ D3.out)).trans D3.out, HS.out.below (bstep HA.out hb2), HB.out⟩
    refine (HI.out _ (bstep HA.out hb2) _ _ _ _ hf).mono ?_
    rintro e w3 ⟨rfl, hb3⟩
    dsimp only
    go_wp2_with fail
    go_ret
    exact ⟨rfl, bstep (bstep HA.out hb2) hb3⟩
end Go.Proofs.YtnphjdckdkjopaaGreatDoor

/- layer: Between, after, follows, Then, Apply: what they tell. -/
namespace Go.Proofs.YtnphjdckdkjopaaGreatDoor
open Go Go.RowKit Go.Proofs
set_option synthInstance.maxSize 1000

attribute [local go_sem] eql_errV neq_errV guard_errV

set_option maxHeartbeats 4000000 in
set_option maxRecDepth 100000 in
theorem LBetween_any (ad bd : Option Addr) (ca cb : Nat) (a b : List Tr) (w : World) (ha : SlT w ad a) (hb : SlT w bd b) (fa : ∀ x ∈ a, fitTr x) (fb : ∀ x ∈ b, fitTr x) (na : a.length ≤ 9223372036854775807) (nb : b.length ≤ 9223372036854775807) :
    Calls Tryz.prog 161 #[.slice ad a.length ca, .slice bd b.length cb] w (LAns (bothN a b) (BtwAns a b) w) := by
  have H1 := fun W h1 h2 => Less_any ad bd ca cb a b W h1 h2 fa fb na nb
  have H2 := fun W h1 h2 => Less_any bd ad cb ca b a W h1 h2 fb fa nb na
  have Ha : Hid (SlT w ad a) := ha
  have Hb : Hid (SlT w bd b) := hb
  have f0 : Hid (¬ bothN a b = 0 → BtwAns a b [] []) := fun h0 => ⟨fun h => absurd h h0, fun _ => ⟨rfl, rfl⟩⟩
  have f1 : Hid (bothN a b = 0 → bothN b a = 0 ∧ ∀ m m', LessAns a b m → LessAns b a m' → BtwAns a b m' m) := fun h0 => by
    refine ⟨bothN_comm0 h0, fun m m' h1 h2 => ⟨fun _ => ?_, fun h => absurd h0 h⟩⟩
    unfold LessAns at h1 h2
    rw [if_pos h0] at h1
    rw [if_pos (bothN_comm0 h0)] at h2
    exact ⟨h2, h1⟩
  generalize BtwAns a b = TA at *
  generalize LessAns a b = LA at *
  generalize LessAns b a = LB at *
  generalize bothN a b = n at *
  generalize bothN b a = n' at *
  clear ha hb fa fb na nb
  go_enter Tryz.func161, Tryz.ntmps161
  go_wp2_with fail
  refine (H1 _ (Ha.out.below (balloc _ _)) (Hb.out.below (balloc _ _))).mono ?_
  rintro e w1 ⟨hb1, m, am, cm, rfl, hm, hLA⟩
  have hB1 := bstep (balloc _ _) hb1
  obtain ⟨y0, y1, hz2, y2, y3⟩ := twobox hb1
  have Hm : Hid (SlT w1 am m ∧ LA m) := ⟨hm, hLA⟩
  clear hm hLA H1
  cases hn : (n == 0)
  · have h0 : ¬ n = 0 := by simpa using hn
    have F0 : Hid _ := f0.out h0
    clear h0 f0 f1 H2
    go_wp2_with fail
    exact bodyPost_ret (v := .tuple #[.agg #[.slice none 0 0, .slice none 0 0], errV n]) (by unfold results; rw [Tryz.results161]; go_simp) rfl (LAns.mk (below_two hB1 (Nat.le_refl _) _ _) [] none 0 [] none 0 (slT_nil _ _) (slT_nil _ _) F0.out)
  · have h0 : n = 0 := by simpa using hn
    obtain ⟨hn', F1⟩ := f1.out h0
    have F2 : Hid _ := F1
    subst h0
    subst hn'
    rw [show errV 0 = .nilIface from rfl]
    clear hn f0 f1 F1
    go_wp2_with fail
    refine (H2 _ (Hb.out.below hB1) (Ha.out.below hB1)).mono ?_
    rintro e w2 ⟨hb2, q, aq, cq, rfl, hq, hLB⟩
    rw [show errV 0 = .nilIface from rfl]
    have hB2 := bstep hB1 hb2
    have hBx := bstep hb1 hb2
    clear y0 y1 hz2 y2 y3
    obtain ⟨y0, y1, hz2, y2, y3⟩ := twobox hBx
    have Hq : Hid (SlT w2 am m ∧ SlT w2 aq q ∧ LB q ∧ LA m) := ⟨Hm.out.1.below hb2, hq, hLB, Hm.out.2⟩
    clear hq hLB Hm hb1 hb2 H2
    go_wp2_with fail
    exact bodyPost_ret (v := .tuple #[.agg #[.slice aq q.length cq, .slice am m.length cm], .nilIface]) (by unfold results; rw [Tryz.results161]; go_simp) rfl (LAns.mk (n := 0) (below_two hB2 (Nat.le_refl _) _ _) q aq cq m am cm (Hq.out.2.1.put2 y0 y1 _ _) (Hq.out.1.put2 y0 y1 _ _) (F2.out m q Hq.out.2.2.2 Hq.out.2.2.1))
end Go.Proofs.YtnphjdckdkjopaaGreatDoor

/- layer: Turn, Between, after: what they tell. -/
namespace Go.Proofs.YtnphjdckdkjopaaGreatDoor
open Go Go.RowKit Go.Proofs
set_option synthInstance.maxSize 1000

attribute [local go_sem] eql_errV neq_errV guard_errV

theorem twobox1 {w W : World} {T : TypeId} {o : Obj} {a0 a1 : Value} (hb : RowKit.Below ((w.alloc (.cells #[a0, a1] T)).alloc o).heap.size ((w.alloc (.cells #[a0, a1] T)).alloc o) W) :
    W.cell? ⟨w.heap.size, 0, none⟩ = some a0 ∧ W.cell? ⟨w.heap.size, 1, none⟩ = some a1 ∧ w.heap.size < W.heap.size ∧ W.frozen? ⟨w.heap.size, 0, none⟩ = false ∧ W.frozen? ⟨w.heap.size, 1, none⟩ = false := twobox (bstep (balloc _ _) hb)
theorem twobox2 {w W : World} {T : TypeId} {o : Obj} {a0 a1 : Value} (hb : RowKit.Below ((w.alloc o).alloc (.cells #[a0, a1] T)).heap.size ((w.alloc o).alloc (.cells #[a0, a1] T)) W) :
    W.cell? ⟨w.heap.size + 1, 0, none⟩ = some a0 ∧ W.cell? ⟨w.heap.size + 1, 1, none⟩ = some a1 ∧ w.heap.size + 1 < W.heap.size ∧ W.frozen? ⟨w.heap.size + 1, 0, none⟩ = false ∧ W.frozen? ⟨w.heap.size + 1, 1, none⟩ = false := by
  have := twobox hb
  rw [World.size_alloc] at this
  exact this

end Go.Proofs.YtnphjdckdkjopaaGreatDoor

/- layer: follows, Then, Apply: what they tell. -/
namespace Go.Proofs.YtnphjdckdkjopaaGreatDoor
open Go Go.RowKit Go.Proofs
set_option synthInstance.maxSize 1000

attribute [local go_sem] eql_errV neq_errV guard_errV


set_option maxHeartbeats 4000000 in
set_option maxRecDepth 100000 in
theorem LApply_any (sd ad bd : Option Addr) (cs ca cb : Nat) (s a b : List Tr) (w : World) (hs : SlT w sd s) (ha : SlT w ad a) (hb : SlT w bd b) (fs : ∀ x ∈ s, fitTr x) (fa : ∀ x ∈ a, fitTr x) (fb : ∀ x ∈ b, fitTr x) (ns : s.length ≤ 9223372036854775807) (na : a.length ≤ 9223372036854775807) (nb : b.length ≤ 9223372036854775807) :
    Calls Tryz.prog 91 #[.slice sd s.length cs, .agg #[.slice ad a.length ca, .slice bd b.length cb]] w (Ans (applyN s a b) (ApplyAns s a b) w) := by
  have H1 := fun W h1 => Sorted_any sd cs s W h1 fs ns
  have H2 := fun W h1 h2 => LCheck_any ad bd ca cb a b W h1 h2 fa fb na nb
  have H3 := fun W h1 h2 => apart_any sd ad cs ca s a W h1 h2 fs fa ns na
  have H4 := fun W h1 h2 => within_any sd bd cs cb s b W h1 h2 fs fb ns nb
  have H5 := fun W h1 h2 h3 => swap_any sd bd ad cs cb ca s b a W h1 h2 h3 fs fb fa ns nb na
  have HS : Hid (SlT w sd s ∧ SlT w ad a ∧ SlT w bd b) := ⟨hs, ha, hb⟩
  have fin : Hid (applyN s a b = orN (sortedN s) (orN (apartN a b) (orN (apartN s a) (orN (withinN s b) (swapN s b a))))) := rfl
  have f0 : Hid (∀ n, applyN s a b = n → ¬ n = 0 → ApplyAns s a b []) := fun n h h0 => ⟨fun e => absurd (h.symm.trans e) h0, fun _ => rfl⟩
  have f1 : Hid (applyN s a b = swapN s b a → ∀ m, SwapAns s b a m → ApplyAns s a b m) := fun h m hm => ⟨fun e => hm.1 (h.symm.trans e), fun e => hm.2 (fun e' => e (h.trans e'))⟩
  generalize ApplyAns s a b = AA at *
  generalize SwapAns s b a = SA at *
  generalize applyN s a b = N at *
  generalize sortedN s = n1 at *
  generalize apartN a b = n2 at *
  generalize apartN s a = n3 at *
  generalize withinN s b = n4 at *
  generalize swapN s b a = n5 at *
  clear hs ha hb fs fa fb ns na nb
  go_enter Tryz.func91, Tryz.ntmps91
  go_wp2_with fail
  refine (H1 _ (HS.out.1.below (balloc _ _))).mono ?_
  rintro e w1 ⟨rfl, hb1⟩
  have hB1 := bstep (balloc _ _) hb1
  obtain ⟨x0, x1, hz1, _, _⟩ := twobox hb1
  clear H1
  cases hn1 : (n1 == 0)
  · have h0 : ¬ n1 = 0 := by simpa using hn1
    have hN := fin.out.trans (orN_neg h0)
    have F0 : Hid _ := f0.out _ hN h0
    subst hN
    clear fin f0 f1 H2 H3 H4 H5 h0
    go_wp2_with fail
    exact bodyPost_ret (v := .tuple #[.slice none 0 0, errV N]) (by simp [results, Tryz.results91, go_sem]) rfl (Ans.mk hB1 [] none 0 (slT_nil _ _) F0.out)
  · have g1 : Hid (N = orN n2 (orN n3 (orN n4 n5))) := fin.out.trans (orN_pos (by simpa using hn1))
    clear fin
    go_wp2_with fail
    refine (H2 _ (HS.out.2.1.below hB1) (HS.out.2.2.below hB1)).mono ?_
    rintro e w2 ⟨rfl, hb2⟩
    have hB2 := bstep hB1 hb2
    have hb2' := bstep hb1 hb2
    clear x0 x1 hz1 H2 hb1 hb2
    obtain ⟨x0, x1, hz1, _, _⟩ := twobox hb2'
    cases hn2 : (n2 == 0)
    · have h0 : ¬ n2 = 0 := by simpa using hn2
      have hN := g1.out.trans (orN_neg h0)
      have F0 : Hid _ := f0.out _ hN h0
      subst hN
      clear g1 f0 f1 H3 H4 H5 h0
      go_wp2_with fail
      exact bodyPost_ret (v := .tuple #[.slice none 0 0, errV N]) (by simp [results, Tryz.results91, go_sem]) rfl (Ans.mk hB2 [] none 0 (slT_nil _ _) F0.out)
    · have g2 : Hid (N = orN n3 (orN n4 n5)) := g1.out.trans (orN_pos (by simpa using hn2))
      clear g1
      go_wp2_with fail
      refine (H3 _ (HS.out.1.below hB2) (HS.out.2.1.below hB2)).mono ?_
      rintro e w3 ⟨rfl, hb3⟩
      have hB3 := bstep hB2 hb3
      have hb3' := bstep hb2' hb3
      clear x0 x1 hz1 H3 hb2' hb3
      obtain ⟨x0, x1, hz1, _, _⟩ := twobox hb3'
      cases hn3 : (n3 == 0)
      · have h0 : ¬ n3 = 0 := by simpa using hn3
        have hN := g2.out.trans (orN_neg h0)
        have F0 : Hid _ := f0.out _ hN h0
        subst hN
        clear g2 f0 f1 H4 H5 h0
        go_wp2_with fail
        exact bodyPost_ret (v := .tuple #[.slice none 0 0, errV N]) (by simp [results, Tryz.results91, go_sem]) rfl (Ans.mk hB3 [] none 0 (slT_nil _ _) F0.out)
      · have g3 : Hid (N = orN n4 n5) := g2.out.trans (orN_pos (by simpa using hn3))
        clear g2
        go_wp2_with fail
        refine (H4 _ (HS.out.1.below hB3) (HS.out.2.2.below hB3)).mono ?_
        rintro e w4 ⟨rfl, hb4⟩
        have hB4 := bstep hB3 hb4
        have hb4' := bstep hb3' hb4
        clear x0 x1 hz1 H4 hb3' hb4
        obtain ⟨x0, x1, hz1, _, _⟩ := twobox hb4'
        cases hn4 : (n4 == 0)
        · have h0 : ¬ n4 = 0 := by simpa using hn4
          have hN := g3.out.trans (orN_neg h0)
          have F0 : Hid _ := f0.out _ hN h0
          subst hN
          clear g3 f0 f1 H5 h0
          go_wp2_with fail
          exact bodyPost_ret (v := .tuple #[.slice none 0 0, errV N]) (by simp [results, Tryz.results91, go_sem]) rfl (Ans.mk hB4 [] none 0 (slT_nil _ _) F0.out)
        · have hN := g3.out.trans (orN_pos (by simpa using hn4))
          have F1 : Hid _ := f1.out hN
          subst hN
          clear g3 f0 f1
          go_wp2_with fail
          refine (H5 _ (HS.out.1.below hB4) (HS.out.2.2.below hB4) (HS.out.2.1.below hB4)).mono ?_
          rintro e w5 ⟨hb5, q, aq, cq, rfl, hq, hSA⟩
          have Hq : Hid (SlT w5 aq q ∧ SA q) := ⟨hq, hSA⟩
          clear hq hSA H5
          go_wp2_with fail
          exact bodyPost_ret (v := .tuple #[.slice aq q.length cq, errV N]) (by simp [results, Tryz.results91, go_sem]) rfl (Ans.mk (bstep hB4 hb5) q aq cq Hq.out.1 (F1.out q Hq.out.2))
end Go.Proofs.YtnphjdckdkjopaaGreatDoor

/- layer.Then: what it tells; stratasame.Layer. -/
namespace Go.Proofs.YtnphjdckdkjopaaGreatDoor
open Go Go.RowKit Go.Proofs
set_option synthInstance.maxSize 1000

attribute [local go_sem] eql_errV neq_errV guard_errV

theorem threebox {w W : World} {T T' T'' : TypeId} {a0 a1 b0 b1 c0 c1 : Value} (hb : RowKit.Below (((w.alloc (.cells #[a0, a1] T)).alloc (.cells #[b0, b1] T')).alloc (.cells #[c0, c1] T'')).heap.size (((w.alloc (.cells #[a0, a1] T)).alloc (.cells #[b0, b1] T')).alloc (.cells #[c0, c1] T'')) W) :
    W.cell? ⟨w.heap.size, 0, none⟩ = some a0 ∧ W.cell? ⟨w.heap.size, 1, none⟩ = some a1 ∧ W.cell? ⟨w.heap.size + 1, 0, none⟩ = some b0 ∧ W.cell? ⟨w.heap.size + 1, 1, none⟩ = some b1 ∧ W.cell? ⟨w.heap.size + 1 + 1, 0, none⟩ = some c0 ∧ W.cell? ⟨w.heap.size + 1 + 1, 1, none⟩ = some c1 ∧ w.heap.size + 1 + 1 < W.heap.size ∧ W.frozen? ⟨w.heap.size + 1 + 1, 0, none⟩ = false ∧ W.frozen? ⟨w.heap.size + 1 + 1, 1, none⟩ = false := by
  obtain ⟨x0, x1, _, _, _⟩ := twobox1 (bstep (balloc _ _) hb)
  obtain ⟨y0, y1, _, _, _⟩ := twobox2 (bstep (balloc _ _) hb)
  have h := twobox hb
  rw [World.size_alloc, World.size_alloc] at h
  exact ⟨x0, x1, y0, y1, h.1, h.2.1, h.2.2.1, h.2.2.2.1, h.2.2.2.2⟩


end Go.Proofs.YtnphjdckdkjopaaGreatDoor

/- layer's calls where nothing is wrong: between two sets and three. -/
namespace Go.Proofs.YtnphjdckdkjopaaGreatDoor
open Go Go.RowKit Go.Proofs
set_option synthInstance.maxSize 1000

/-- a layer's answer that is right -/
def LOk (w : World) (m1 m2 : List Tr) (e : Ending) (w' : World) : Prop := RowKit.Below w.heap.size w w' ∧ ∃ (a1 : Option Addr) (c1 : Nat) (a2 : Option Addr) (c2 : Nat), e = .returned (.tuple #[.agg #[.slice a1 m1.length c1, .slice a2 m2.length c2], .nilIface]) ∧ SlT w' a1 m1 ∧ SlT w' a2 m2
/-- a list's answer that is right -/
def TOk (w : World) (m : List Tr) (e : Ending) (w' : World) : Prop := RowKit.Below w.heap.size w w' ∧ ∃ (a1 : Option Addr) (c1 : Nat), e = .returned (.tuple #[.slice a1 m.length c1, .nilIface]) ∧ SlT w' a1 m

theorem setLen {a : List Tr} (h : IsSet a) : a.length ≤ 9223372036854775807 := by have := h.1; omega

theorem BtwGood_any (ad bd : Option Addr) (ca cb : Nat) (a b : List Tr) (w : World) (ha : SlT w ad a) (hb : SlT w bd b) (sa : IsSet a) (sb : IsSet b) :
    Calls Tryz.prog 161 #[.slice ad a.length ca, .slice bd b.length cb] w (LOk w (lessL b a) (lessL a b)) := by
  have h0 : bothN a b = 0 := bothN_zero.2 ⟨sa, sb⟩
  refine (LBetween_any ad bd ca cb a b w ha hb sa.fit sb.fit (setLen sa) (setLen sb)).mono ?_
  rintro e w' ⟨hb', m1, a1, c1, m2, a2, c2, rfl, h1, h2, hA, _⟩
  obtain ⟨rfl, rfl⟩ := hA h0
  exact ⟨hb', a1, c1, a2, c2, by rw [h0]; rfl, h1, h2⟩
theorem ApplyGood_any (ad a1 a2 : Option Addr) (ca c1 c2 : Nat) (a b : List Tr) (w : World) (ha : SlT w ad a) (h1 : SlT w a1 (lessL b a)) (h2 : SlT w a2 (lessL a b)) (sa : IsSet a) (sb : IsSet b) :
    Calls Tryz.prog 91 #[.slice ad a.length ca, .agg #[.slice a1 (lessL b a).length c1, .slice a2 (lessL a b).length c2]] w (TOk w b) := by
  have h0 := apply_btw sa sb
  have s1 : IsSet (lessL b a) := lessSet sb
  have s2 : IsSet (lessL a b) := lessSet sa
  refine (LApply_any ad a1 a2 ca c1 c2 a (lessL b a) (lessL a b) w ha h1 h2 sa.fit s1.fit s2.fit (setLen sa) (setLen s1) (setLen s2)).mono ?_
  rintro e w' ⟨hb', m, am, cm, rfl, hm, hA⟩
  obtain rfl := apply_btw_ans sa sb hA
  exact ⟨hb', am, cm, by rw [h0]; rfl, hm⟩
theorem CheckGood_any (a1 a2 : Option Addr) (c1 c2 : Nat) (a b : List Tr) (w : World) (h1 : SlT w a1 (lessL b a)) (h2 : SlT w a2 (lessL a b)) (sa : IsSet a) (sb : IsSet b) :
    Calls Tryz.prog 125 #[.agg #[.slice a1 (lessL b a).length c1, .slice a2 (lessL a b).length c2]] w fun e w' => e = .returned .nilIface ∧ RowKit.Below w.heap.size w w' := by
  have s1 : IsSet (lessL b a) := lessSet sb
  have s2 : IsSet (lessL a b) := lessSet sa
  refine (LCheck_any a1 a2 c1 c2 (lessL b a) (lessL a b) w h1 h2 s1.fit s2.fit (setLen s1) (setLen s2)).mono ?_
  rintro e w' ⟨rfl, hb'⟩
  exact ⟨by rw [btw_check sa sb]; rfl, hb'⟩
theorem SameGood_any (ad bd : Option Addr) (ca cb : Nat) (l : List Tr) (w : World) (hl : SlT w ad l) (hm : SlT w bd l) (sl : IsSet l) :
    Calls Tryz.prog 41 #[.slice ad l.length ca, .slice bd l.length cb] w fun e w' => e = .returned (.bool true) ∧ RowKit.Below w.heap.size w w' := by
  have := SameTriples_any ad bd ca cb l l w hl hm (by have := sl.1; omega) (by have := sl.1; omega)
  rw [show decide (l = l) = true by simp] at this
  exact this

/-- a layer in a box -/
def BoxL (W : World) (b : Nat) (v0 v1 : Value) : Prop := W.cell? ⟨b, 0, none⟩ = some v0 ∧ W.cell? ⟨b, 1, none⟩ = some v1
theorem BoxL.below {W W' : World} {b : Nat} {v0 v1 : Value} (h : BoxL W b v0 v1) (hb : RowKit.Below W.heap.size W W') : BoxL W' b v0 v1 :=
  ⟨(hb.cell (World.block_lt_of_cell? W _ h.1)).trans h.1, (hb.cell (World.block_lt_of_cell? W _ h.2)).trans h.2⟩
theorem BoxL.new (w : World) (v0 v1 : Value) (T : TypeId) : BoxL (w.alloc (.cells #[v0, v1] T)) w.heap.size v0 v1 := ⟨by go_simp, by go_simp⟩
end Go.Proofs.YtnphjdckdkjopaaGreatDoor
