/- store's Keep: all but these are gone. -/
import Derived.Test.YtpdieckoemfebaeDoorStoreIndex
import Derived.Test.YtpdieckoemfebaeDoorStorePut
namespace Go.Proofs.YtpdieckoemfebaeDoor
open Go Go.RowKit Go.Proofs Go.Maps
set_option synthInstance.maxSize 1000

theorem makeKept (w : World) : (Instr.makeMap 69 none).run Tryd.prog w = .ok (.map (some w.heap.size)) (w.alloc (.map #[] 0)) := by kernel_rfl
theorem zeroUnit (w : World) : (zeroValue 70).run Tryd.prog w = .ok (.agg #[]) w := by kernel_rfl

/-- the map of those that are kept -/
def KeptAt (w : World) (g : Nat) (l : List Int) : Prop := ∃ D : DataW Unit, w.ownsMap Tryd.prog 3 unitElem g l.length D ∧ ∀ x : Int, (Lit.int .i64 x).wf = true → Maps.has D (.int .i64 x) = l.contains x
theorem KeptAt.made (w : World) : KeptAt (w.alloc (.map #[] 0)) w.heap.size [] := ⟨.map [], World.ownsMap_made _ _ _ _, fun x _ => by simp [Maps.has_eq]⟩
theorem KeptAt.grow {w w' : World} {g : Nat} {l : List Int} {row : Option Nat} (h : KeptAt w g l) (hg : w.grownBy w' row) (hne : some g ≠ row) : KeptAt w' g l := by
  obtain ⟨D, o, f⟩ := h
  exact ⟨D, o.kept hg hne, f⟩
theorem KeptAt.lt {w : World} {g : Nat} {l : List Int} (h : KeptAt w g l) : g < w.heap.size := by
  obtain ⟨D, o, f⟩ := h
  exact o.lt
theorem KeptAt.put {w : World} {g : Nat} {l : List Int} (h : KeptAt w g l) {x : Int} (hw : (Lit.int .i64 x).wf = true) (hl : l.length < maxLen) : ∃ w', (Instr.mapUpdate 69 (.map (some g)) (.int .i64 x) (.agg #[])).run Tryd.prog w = .ok () w' ∧ KeptAt w' g (l ++ [x]) ∧ w.grownBy w' (some g) := by
  obtain ⟨D, o, f⟩ := h
  obtain ⟨w', hr, o', hg⟩ := World.ownsMap.update o keyedIO Tryd.underlying69 hl (keyN hw) (unitElem_mk (H := Unit))
  refine ⟨w', hr, ⟨_, by rw [List.length_append]; exact o', fun y hy => ?_⟩, hg⟩
  by_cases e : y = x
  · subst e
    rw [Maps.has_put_same o.isMap (keyedIO.key (keyN hw))]
    simp
  · have hne : (Lit.int .i64 y) ≠ (Lit.int .i64 x) := fun e' => e (by simpa using e')
    rw [Maps.has_put_other hne, f y hy]
    simp [e]
theorem KeptAt.look {w : World} {g : Nat} {l : List Int} (h : KeptAt w g l) {x : Int} (hw : (Lit.int .i64 x).wf = true) : (Instr.lookup 69 (.map (some g)) (.int .i64 x) true).run Tryd.prog w = .ok (.tuple #[.agg #[], .bool (l.contains x)]) w := by
  obtain ⟨D, o, f⟩ := h
  obtain ⟨v, ps, hrun, hv⟩ := o.look_ok keyedIO Tryd.underlying69 (zeroUnit w) (unitElem_mk (H := Unit)) (keyN hw)
  obtain ⟨rfl, _⟩ := unitElem_inv hv
  rw [hrun, f x hw]

/-- under way: what stays as it is .. -/
structure KB (w : World) (ids : List Int) (n s b1 b2 g : Nat) (wr : World) : Prop where
  c0 : wr.cell? ⟨s, 0, none⟩ = some (.map (some b1))
  c1 : wr.cell? ⟨s, 1, none⟩ = some (.map (some b2))
  c2 : wr.cell? ⟨s, 2, none⟩ = some (.int .i64 (n : Int))
  fz : wr.frozen? ⟨s, 2, none⟩ = false
  cB : wr.cell? ⟨w.heap.size, 0, none⟩ = some (.pointer (some ⟨s, 0, none⟩))
  off : Offs (ownO s b1 b2) w wr
  kept : KeptAt wr g ids
theorem KB.grow {w : World} {ids : List Int} {n s b1 b2 g : Nat} {wr wr' : World} {row : Option Nat} (h : KB w ids n s b1 b2 g wr) (hg : wr.grownBy wr' row) (h1 : some s ≠ row) (h2 : some w.heap.size ≠ row) (h3 : some g ≠ row) (h4 : ∀ k, row = some k → ownO s b1 b2 k ∨ w.heap.size ≤ k) : KB w ids n s b1 b2 g wr' := by
  have q1 := hg.block s (World.block_lt_of_cell? wr _ h.c0) h1
  have q2 := hg.block w.heap.size (World.block_lt_of_cell? wr _ h.cB) h2
  refine ⟨(World.cell?_of_block (w := wr) q1).trans h.c0, (World.cell?_of_block (w := wr) q1).trans h.c1, (World.cell?_of_block (w := wr) q1).trans h.c2, (World.frozen?_of_block (w := wr) q1).trans h.fz, (World.cell?_of_block (w := wr) q2).trans h.cB, ?_, h.kept.grow hg h3⟩
  exact h.off.trans (Offs.of_grown (O := fun j => ownO s b1 b2 j ∨ w.heap.size ≤ j) hg h4) fun _ h => h
theorem KB.alloc {w : World} {ids : List Int} {n s b1 b2 g : Nat} {wr : World} (h : KB w ids n s b1 b2 g wr) (o : Obj) : KB w ids n s b1 b2 g (wr.alloc o) :=
  h.grow (World.grownBy_alloc wr o none) (by simp) (by simp) (by simp) (fun k e => by cases e)
theorem grown_drew (w : World) : w.grownBy w.drew none := ⟨rfl, rfl, rfl, Nat.le_refl _, fun _ _ _ => rfl⟩
/-- .. and the two maps: those that stay are kept, or still to come -/
def KAt (w : World) (L : List Ob) (ids : List Int) (n s b1 b2 g r : Nat) (wr : World) (left : Lit → Bool) (cnt : Nat) : Prop :=
  KB w ids n s b1 b2 g wr ∧ ∃ D1 D2 : DataW Unit, wr.ranges Tryd.prog 3 objElem b2 r n D2 left cnt ∧ wr.ownsMap Tryd.prog 9 (plainElem Tryd.prog 3) b1 n D1 ∧ NumD D1 (stayO L ids left) ∧ ObjD D2 (stayO L ids left) ∧ Maps.size D2 = (stayO L ids left).length

theorem stay_gone {n : Nat} {L : List Ob} {ids : List Int} {left : Lit → Bool} {D1 D2 : DataW Unit} {k : Nat} {c : List UInt8} (hg : GoodO n L) (f1 : NumD D1 (stayO L ids left)) (f2 : ObjD D2 (stayO L ids left)) (hsz : Maps.size D2 = (stayO L ids left).length) (ht : Tidy D2) (hk : (k, c) ∈ stayO L ids left) (hw : (kO (k, c)).wf = true) (hi : ids.contains (k : Int) = false) :
    NumD (D1.del (.string c)) (stayO L ids (fun z => left z && !z.sameKey (kO (k, c)))) ∧ ObjD (D2.del (kO (k, c))) (stayO L ids (fun z => left z && !z.sameKey (kO (k, c)))) ∧ Maps.size (D2.del (kO (k, c))) = (stayO L ids (fun z => left z && !z.sameKey (kO (k, c)))).length := by
  have hr := hg.rise.sublist (stayO_sub (L := L) (ids := ids) (left := left))
  have ho := hg.once.sublist (stayO_sub (L := L) (ids := ids) (left := left))
  rw [stayO_less hw hi]
  exact ⟨f1.less ho hr hk, f2.less k, f2.size_less ht hr hk hw hsz⟩

set_option maxHeartbeats 8000000 in
set_option maxRecDepth 100000 in
theorem SKeep_any (w : World) (s b1 b2 n : Nat) (L : List Ob) (ad : Option Addr) (ca : Nat) (ids : List Int) (h : SAt w s b1 b2 n L) (hg : GoodO n L) (hs : SlI w ad ids) (hl : ids.length ≤ 9223372036854775807) :
    Calls Tryd.prog 12 #[.pointer (some ⟨s, 0, none⟩), .slice ad ids.length ca] w fun e w' => e = .returned (.tuple #[.int .i64 (keepI L ids : Int), errV (keepE L ids)]) ∧ SAt w' s b1 b2 n (keepL L ids) ∧ Offs (ownO s b1 b2) w w' := by
  have H : Hid (SAt w s b1 b2 n L) := h
  have HG : Hid (GoodO n L) := hg
  have HS : Hid (SlI w ad ids) := hs
  have hlt := h.lts
  have b0 := balloc w (.cells #[.pointer (some ⟨s, 0, none⟩)] 22)
  have hB : (w.alloc (.cells #[.pointer (some ⟨s, 0, none⟩)] 22)).cell? ⟨w.heap.size, 0, none⟩ = some (.pointer (some ⟨s, 0, none⟩)) := by go_simp
  have hcon := SContains_any _ s b1 b2 n w.heap.size L ad ca ids (h.below b0) hg.low hB (hs.below b0) hl
  clear h hg hs
  cases hheld : heldO L ids with
  | false =>
    have e1 : keepI L ids = 0 := by unfold keepI; rw [hheld]; rfl
    have e2 : keepE L ids = 5 := by unfold keepE; rw [hheld]; rfl
    have e3 : keepL L ids = L := by unfold keepL; rw [hheld]; rfl
    rw [e1, e2, e3]
    rw [hheld] at hcon
    clear e1 e2 e3 hheld
    go_enter Tryd.func12, Tryd.ntmps12
    go_wp2_with (go_at_call 22; refine hcon.mono ?_; rintro e w1 ⟨rfl, hb1⟩; dsimp only)
    exact bodyPost_ret (v := .tuple #[.int .i64 0, .iface 62 (.int .i64 5)]) (by unfold results; rw [Tryd.results12]; go_simp) rfl ⟨rfl, H.out.below (bstep b0 hb1), Offs.of_below (bstep b0 hb1)⟩
  | true =>
    have e1 : keepI L ids = L.length - (keepO L ids).length := by unfold keepI; rw [hheld]; rfl
    have e2 : keepE L ids = 0 := by unfold keepE; rw [hheld]; rfl
    have e3 : keepL L ids = keepO L ids := by unfold keepL; rw [hheld]; rfl
    rw [e1, e2, e3]
    rw [hheld] at hcon
    have HW : Hid (∀ (j : Nat) (hj : j < ids.length), (Lit.int .i64 ids[j]).wf = true) := by
      intro j hj
      unfold heldO at hheld
      have h1 := List.all_eq_true.1 hheld _ (List.getElem_mem hj)
      obtain ⟨x, hx, e⟩ := getO_isSome.1 h1
      have h2 := HG.out.low x hx
      have h3 := H.out.big
      rw [← e]
      exact wfO (by omega) (by omega)
    clear e1 e2 e3 hheld
    have hmk := makeKept
    go_enter Tryd.func12, Tryd.ntmps12
    go_wp2_with (go_at_call 22; refine hcon.mono ?_; rintro e w1 ⟨rfl, hb1⟩; dsimp only; have hbb := bstep b0 hb1; have hcB := (hb1.cell (p := ⟨w.heap.size, 0, none⟩) (World.block_lt_of_cell? _ _ hB)).trans hB; have hzB := World.block_lt_of_cell? _ _ hcB; clear hcon hb1)
    go_loopw [21] (fun i wr => ∃ (k : Nat), k ≤ ids.length ∧ i = .int .i64 k ∧ Hid (KeptAt wr w1.heap.size (ids.take k)) ∧ RowKit.Below w1.heap.size w1 wr) (fun i wr => ids.length - (intOf i).toNat)
    case atStart => exact ⟨0, Nat.zero_le _, rfl, KeptAt.made w1, balloc w1 _⟩
    case round =>
      obtain ⟨k, hk, rfl, hK, hbr⟩ := hrel
      by_cases hlt1 : k < ids.length
      · obtain ⟨b, o, rfl, hc⟩ := (HS.out.below (bstep hbb hbr)).at hlt1
        have hblt := World.block_lt_of_cell? wr _ hc
        have i0 : (0 : Int) ≤ (k : Int) := by omega
        have i1 : (k : Int) < (ids.length : Int) := by omega
        obtain ⟨W4, hr4, hK4, g4⟩ := hK.out.put (HW.out k hlt1) (by rw [List.length_take]; unfold maxLen; omega)
        have hK5 : Hid (KeptAt W4 w1.heap.size (ids.take (k + 1))) := by
          show KeptAt _ _ _
          rw [List.take_succ_eq_append_getElem hlt1]
          exact hK4
        have hb4 := hbr.grown g4 hbr.size (fun j e => by cases e; exact Nat.le_refl _)
        clear hK hK4 g4
        generalize ids[k] = z at *
        go_wp2_with fail
        go_roundw
        case rel => exact ⟨k + 1, by omega, by go_num, hK5, hb4⟩
        case measure => simp [intOf]; omega
      · have hkk : k = ids.length := by omega
        subst hkk
        have hK2 : Hid (KeptAt wr w1.heap.size ids) := by
          have := hK.out
          rw [List.take_length] at this
          exact this
        have hbw := bstep hbb hbr
        have HSr := H.out.below hbw
        have cBr : wr.cell? ⟨w.heap.size, 0, none⟩ = some (.pointer (some ⟨s, 0, none⟩)) := (hbr.cell hzB).trans hcB
        have hL := SLen_any wr s b1 b2 n L HSr
        have c1r := HSr.c1
        have zs := HSr.lts
        have zB := World.block_lt_of_cell? _ _ cBr
        have hgz := hK2.out.lt
        have HR : Hid (SAt wr s b1 b2 n L) := HSr
        obtain ⟨D1, D2, o1, o2, f1, f2, hsz⟩ := HSr.two
        have P1 : Hid (wr.ownsMap Tryd.prog 9 (plainElem Tryd.prog 3) b1 n D1 ∧ NumD D1 L ∧ ObjD D2 L ∧ Maps.size D2 = L.length) := ⟨o1, f1, f2, hsz⟩
        clear hK HSr o1 f1 f2 hsz hbr
        go_wp2_with (first
          | (go_at_call 9; refine hL.mono ?_; rintro e w2 ⟨rfl, rfl⟩; dsimp only; clear hL)
          | (at_range; refine wpList_range_own _ rfl _ 57 rfl 3 65 keyedIO Tryd.underlying57 objElem b2 n D2 rfl o2 ?_; intro w3 hrg0 hg0 hs0))
        have ns := H.out.lts
        have nb1 := H.out.lt1
        have nb2 := H.out.lt2
        have ne12 := H.out.ne
        have nes1 := H.out.n1
        have nes2 := H.out.n2
        have hstart : KAt w L ids n s b1 b2 w1.heap.size w2.heap.size w3 (Maps.has D2) (Maps.size D2) := by
          obtain ⟨o1, f1, f2, hsz⟩ := P1.out
          have hst : stayO L ids (Maps.has D2) = L := stayO_start fun x hx => by
            have hx' := HG.out.low x hx
            have hbig := H.out.big
            rw [show kO x = .int .i64 (x.1 : Int) from rfl, (f2 _ (wfO (by omega) (by omega))).1]
            exact getO_isSome.2 ⟨x, hx, rfl⟩
          refine ⟨KB.grow (wr := w2) ⟨HR.out.c0, HR.out.c1, HR.out.c2, HR.out.fz, cBr, Offs.of_below hbw, hK2.out⟩ hg0 (by simp) (by simp) (by simp) (fun k e => by cases e), D1, D2, hrg0, o1.kept hg0 (by simp), ?_⟩
          rw [hst]
          exact ⟨f1, f2, hsz⟩
        clear hrg0 hg0 hs0 P1 HR cBr c1r o2 hK2
        go_loopw [36] (fun _ wr => ∃ (left : Lit → Bool) (cnt : Nat), Hid (KAt w L ids n s b1 b2 w1.heap.size w2.heap.size wr left cnt)) (fun _ wr => wr.rangeLeft b2 w2.heap.size)
        case atStart => exact ⟨_, _, hstart⟩
        case round =>
          clear hstart
          obtain ⟨left, cnt, hka⟩ := hrel
          obtain ⟨kb, E1, E2, hrg, o1, f1, f2, hsz⟩ := hka.out
          have hle := hrg.left_eq
          clear hka
          go_wp2_with (at_next; refine wpList_next_ranges _ rfl _ rfl 3 keyedIO objElem (fun x : Int => .int .i64 x) (fun c : List UInt8 => .agg #[.string ⟨c.toArray⟩]) (fun key kl hk => by obtain ⟨x, hx, _⟩ := Maps.keyOf_int_inv Tryd.underlying3 hk; exact ⟨x, hx⟩) (fun v y hy => by obtain ⟨c, hc, _⟩ := objElem_form hy; exact ⟨c, hc⟩) b2 w2.heap.size n E2 left cnt rfl hrg ?_ ?_)
          · intro hc0 hl0
            rw [stayO_end hl0] at f1 f2 hsz
            have hsub : (keepO L ids).length ≤ L.length := List.length_filter_le _ _
            have h300 := HG.out.len
            have HF : SAt wr s b1 b2 n (keepO L ids) := ⟨ne12, nes1, nes2, kb.c0, kb.c1, kb.c2, kb.fz, ⟨E1, E2, o1, hrg.owns, f1, f2, hsz⟩, fun x hx => H.out.short x (List.mem_filter.1 hx).1, H.out.big⟩
            have hL := SLen_any wr s b1 b2 n (keepO L ids) HF
            have hfin : Hid (SAt wr s b1 b2 n (keepO L ids) ∧ Offs (ownO s b1 b2) w wr) := ⟨HF, kb.off⟩
            have cB := kb.cB
            have zB2 := World.block_lt_of_cell? _ _ cB
            clear HF hrg o1 f1 f2 hsz kb hle hl0
            have hcast : Hid ((((L.length - (keepO L ids).length : Nat) : Nat) : Int) = (L.length : Int) - ((keepO L ids).length : Int)) := by show _ = _; omega
            go_wp2_with (go_at_call 9; refine hL.mono ?_; rintro e w9 ⟨rfl, rfl⟩; dsimp only)
            exact bodyPost_ret (v := .tuple #[.int .i64 ((L.length : Int) - ((keepO L ids).length : Int)), .nilIface]) (by unfold results; rw [Tryd.results12]; go_simp) rfl ⟨by rw [hcast.out]; rfl, hfin.out⟩
          · intro x c kl yd yp w4 cnt2 hkey hlk hv hat hrg2 hlt2 hg2 hs2 hen
            obtain ⟨k, rfl, hk, rfl, hw⟩ := at_in f2 hkey rfl hv hat
            have kb4 := kb.grow hg2 (by simp; omega) (by simp; omega) (by simp; omega) (fun j e => by cases e; exact Or.inr (by omega))
            have o14 := o1.kept hg2 (by simp; omega)
            have kb5 := kb4.alloc (.cells #[.string ⟨c.toArray⟩] 65)
            have hlook := kb5.kept.look hw
            have kb6 := kb5.alloc (.cells #[] 70)
            have hrg6 := (hrg2.alloc (.cells #[.string ⟨c.toArray⟩] 65)).alloc (.cells #[] 70)
            have o16 := (o14.alloc (.cells #[.string ⟨c.toArray⟩] 65)).alloc (.cells #[] 70)
            have zs4 := World.block_lt_of_cell? _ _ kb4.c0
            have zB4 := World.block_lt_of_cell? _ _ kb4.cB
            have cB4 := kb4.cB
            have c04 := kb4.c0
            clear hs2 hkey hv hat hrg hrg2 o14 o1 kb hg2 kb4 kb5
            cases hi : ids.contains (k : Int) with
            | true =>
              have hst := stayO_kept (L := L) (left := left) (x := (k, c)) hw hi
              have hnew : KAt w L ids n s b1 b2 w1.heap.size w2.heap.size ((w4.alloc (.cells #[.string ⟨c.toArray⟩] 65)).alloc (.cells #[] 70)) (fun z => left z && !z.sameKey (kO (k, c))) cnt2 := ⟨kb6, E1, E2, hrg6, o16, by rw [hst]; exact f1, by rw [hst]; exact f2, by rw [hst]; exact hsz⟩
              have Hnew : Hid _ := hnew
              have hle6 := hrg6.left_eq
              rw [hi] at hlook
              clear hnew hst f1 f2 hsz kb6 o16 hrg6 hw hk hlk hi
              go_wp2_with fail
              go_roundw
              case rel => exact ⟨_, _, Hnew⟩
              case measure => rw [hle6, hle]; exact hlt2
            | false =>
              have hlen : c.length ≤ maxLen := by
                have := H.out.short (k, c) (List.mem_filter.1 hk).1
                unfold reachBytes at this
                unfold maxLen
                simp at this
                omega
              have q6 := kb6.cB
              have z6 := World.block_lt_of_cell? _ _ q6
              have hid : (((w4.alloc (.cells #[.string ⟨c.toArray⟩] 65)).alloc (.cells #[] 70))).drew.heap = ((w4.alloc (.cells #[.string ⟨c.toArray⟩] 65)).alloc (.cells #[] 70)).heap := rfl
              obtain ⟨W7, hr7, o17, mt7⟩ := World.ownsMap.drop (w := ((w4.alloc (.cells #[.string ⟨c.toArray⟩] 65)).alloc (.cells #[] 70)).drew) o16.drew keyedSO Tryd.underlying56 (keyS c hlen) 0
              have kb7 := (kb6.grow (grown_drew _) (by simp) (by simp) (by simp) (fun j e => by cases e)).grow mt7.grown (by simp; omega) (by simp; omega) (by simp; omega) (fun j e => by cases e; exact Or.inl (Or.inr (Or.inl rfl)))
              have hrg7 := (hrg6.kept (grown_drew _) (by simp) (by simp)).kept mt7.grown (by simp; omega) (by simp; omega)
              obtain ⟨W8, cnt8, hr8, hrg8, hle8, mt8⟩ := hrg7.drop keyedIO Tryd.underlying57 (keyN hw) 0
              have kb8 := kb7.grow mt8.grown (by simp; omega) (by simp; omega) (by simp; omega) (fun j e => by cases e; exact Or.inl (Or.inr (Or.inr rfl)))
              have o18 := o17.kept mt8.grown (by simp; omega)
              have hgone := stay_gone HG.out f1 f2 hsz (hrg6.owns.tidy keyedIO) hk hw hi
              rw [show (Lit.int .i64 (k : Int)) = kO (k, c) from rfl, Maps.strike_twice] at hrg8
              have hnew : KAt w L ids n s b1 b2 w1.heap.size w2.heap.size W8 (fun z => left z && !z.sameKey (kO (k, c))) cnt8 := ⟨kb8, _, _, hrg8, o18, hgone.1, hgone.2.1, hgone.2.2⟩
              have Hnew : Hid _ := hnew
              have hle6 := hrg8.left_eq
              have d0 := kb7.cB
              have d1 := kb7.c1
              have e0 := World.block_lt_of_cell? _ _ d0
              have e1 := World.block_lt_of_cell? _ _ d1
              rw [hi] at hlook
              clear hnew hgone f1 f2 hsz kb6 o16 hrg6 hrg7 hrg8 kb7 kb8 o17 o18 mt7 mt8 hw hk hlk hi hid q6 z6
              go_wp2_with fail
              go_region
              go_wp2_with fail
              go_roundw
              case rel => exact ⟨_, _, Hnew⟩
              case measure => rw [hle6, hle]; omega
end Go.Proofs.YtpdieckoemfebaeDoor
