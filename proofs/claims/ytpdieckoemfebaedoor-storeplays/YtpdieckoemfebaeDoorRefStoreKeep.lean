/- The document's store (package strataref2): Keep. -/
import Derived.Test.YtpdieckoemfebaeDoorRefStorePut
import Derived.Test.YtpdieckoemfebaeDoorSameInts
namespace Go.Proofs.YtpdieckoemfebaeDoor
open Go Go.RowKit Go.Proofs
set_option synthInstance.maxSize 1000

theorem has_take {ids : List Int} {k : Nat} (hk : k < ids.length) (n : Int) : (ids.take (k + 1)).contains n = ((ids.take k).contains n || (ids[k] == n)) := by
  rw [List.take_succ_eq_append_getElem hk, Bool.eq_iff_iff]
  simp only [List.contains_eq_mem, Bool.or_eq_true, decide_eq_true_eq, beq_iff_eq, List.mem_append, List.mem_singleton]
  exact or_congr Iff.rfl eq_comm
theorem keepO_take {L : List Ob} {k : Nat} (hk : k < L.length) (ids : List Int) : keepO (L.take (k + 1)) ids = keepO (L.take k) ids ++ if ids.contains (L[k].1 : Int) = true then [L[k]] else [] := by
  unfold keepO
  rw [List.take_succ_eq_append_getElem hk, List.filter_append, List.filter_cons]
  simp
theorem keepO_len (L : List Ob) (ids : List Int) : (keepO L ids).length ≤ L.length := List.length_filter_le _ _
theorem heldO_no {L : List Ob} {ids : List Int} {k : Nat} (hk : k < ids.length) (h : getO L ids[k] = none) : heldO L ids = false := by
  unfold heldO
  rw [List.all_eq_false]
  exact ⟨ids[k], List.getElem_mem hk, by rw [h]; simp⟩
theorem encO_one (x : Ob) : ∀ u ∈ encO x, u.oneCell' = true := by simp [encO, Value.oneCell']

/-- what a keep answers, and what it leaves -/
def RKeepAns (w : World) (m : Nat) (v : Value) (n : Nat) (L : List Ob) (ids : List Int) (e : Ending) (w' : World) : Prop :=
  e = .returned (.tuple #[.int .i64 (keepI L ids : Int), .int .i64 (keepE L ids)]) ∧ ∃ v', RAt w' m v' n (keepL L ids) ∧ Offs (ROwn m v) w w' ∧ (∀ j, ROwn m v' j → ROwn m v j ∨ w.heap.size ≤ j)

theorem ownsO_base {W : World} {base base' : Nat} {e : TypeId} {size : Nat} {v : Value} {k : Nat} {xs : List Value} (h : W.ownsRow base e size v k xs) (hb : base' ≤ base) : W.ownsRow base' e size v k xs := by
  refine ⟨h.1, ?_⟩
  rcases h.2 with hn | ⟨g, cap, cur, hv, hbg, rest⟩
  · exact .inl hn
  · exact .inr ⟨g, cap, cur, hv, Nat.le_trans hb hbg, rest⟩
/-- the list put into the store -/
theorem r_swap {w W : World} {m : Nat} {v v' : Value} {n : Nat} {L M : List Ob} (h : RAt w m v n L) (hb : RowKit.Below w.heap.size w W) (ho : W.ownsRow w.heap.size 52 2 v' M.length (cellsO M)) :
    RAt (W.setCell ⟨m, 1, none⟩ v') m v' n M ∧ Offs (ROwn m v) w (W.setCell ⟨m, 1, none⟩ v') ∧ (∀ j, ROwn m v' j → ROwn m v j ∨ w.heap.size ≤ j) := by
  have hlt := h.lt
  have hm : W.heap[m]? = some (.cells #[.int .i64 (n : Int), v] 39) := (hb.block m hlt).trans h.1
  refine ⟨⟨?_, ?_⟩, ⟨hb.os, hb.tape, hb.output, ?_, fun k hk hO => ?_⟩, ?_⟩
  · have := heap_setCell_same W m 1 _ _ v' hm
    simpa using this
  · exact ownsO_base (ownsRow_setCell_below (a := ⟨m, 1, none⟩) ho hlt _) (by omega)
  · have := hb.size
    have e : (W.setCell ⟨m, 1, none⟩ v').heap.size = W.heap.size := by simp [World.setCell]
    omega
  · rw [heap_setCell_other _ _ _ _ (fun e => hO (Or.inl e))]
    exact hb.block k hk
  · rintro j (rfl | hj)
    · exact Or.inl (Or.inl rfl)
    · exact Or.inr (ho.lt j hj).1

set_option maxHeartbeats 4000000 in
set_option maxRecDepth 100000 in
theorem RKeep_any (m : Nat) (v : Value) (n : Nat) (L : List Ob) (ad : Option Addr) (ca : Nat) (ids : List Int) (w : World) (h : RAt w m v n L) (hi : SlI w ad ids) (hL : L.length ≤ 1000) (hI : ids.length ≤ 9223372036854775807) :
    Calls Tryd.prog 11 #[.pointer (some ⟨m, 0, none⟩), .slice ad ids.length ca] w fun e w' => RKeepAns w m v n L ids e w' := by
  have HG := fun id => RGet_any m v n L id w h hL
  have HR := hideO h
  obtain ⟨s0, s1, f0, f1⟩ := h.cells
  have Ho := hideO h.2
  have Hi := hideO hi
  obtain ⟨vd, cap, rfl⟩ := ownO_form h.2
  obtain ⟨i0', hi0, hz0, hz1, hz2⟩ := info_parts infoOb
  have hlt0 := h.lt
  clear h hi
  go_enter Tryd.func11, Tryd.ntmps11
  go_wp2_with fail
  go_loopw [6] (fun i wr => ∃ (k : Nat), k ≤ ids.length ∧ i = .int .i64 k ∧ wr = w ∧ Hid (∀ x ∈ ids.take k, (getO L x).isSome = true)) (fun i wr => ids.length - (intOf i).toNat)
  case atStart => exact ⟨0, by omega, rfl, rfl, by show ∀ x ∈ _, _; simp⟩
  case round =>
    obtain ⟨k, hk, rfl, hw, hs⟩ := hrel
    obtain rfl : w = wr := hw.symm
    by_cases hlt : k < ids.length
    · obtain ⟨b, o, rfl, c0⟩ := Hi.out.at hlt
      have i0 : (0 : Int) ≤ (k : Int) := by omega
      have i1 : (k : Int) < (ids.length : Int) := by omega
      have i2 : (k : Int) + 1 ≤ 9223372036854775807 := by omega
      have hno := hideO (fun h => @heldO_no L ids k hlt h)
      have hs' : Hid ((getO L ids[k]).isSome = true → ∀ x ∈ ids.take (k + 1), (getO L x).isSome = true) := by
        show _ → _
        rw [List.take_succ_eq_append_getElem hlt]
        intro h1 x hx
        rcases List.mem_append.1 hx with hx | hx
        · exact hs.out x hx
        · simp at hx; subst hx; exact h1
      have hG := HG ids[k]
      generalize ids[k] = id at *
      go_wp2_with fail
      refine hG.mono ?_
      rintro e w1 ⟨rfl, hw⟩
      obtain rfl : w = w1 := hw.symm
      cases hg : getO L id with
      | some x =>
        have hs2 := hideO (hs'.out (by rw [hg]; rfl))
        unfold gotV
        dsimp only
        go_wp2
        exact ⟨⟨k + 1, by omega, by go_num, by trivial, hs2⟩, by simp [intOf]; omega⟩
      | none =>
        have hfin : Hid (RKeepAns w m (.slice vd L.length cap) n L ids (.returned (.tuple #[.int .i64 0, .int .i64 5])) w) := by
          have e0 : ¬ heldO L ids = true := by rw [hno.out hg]; decide
          refine ⟨?_, _, ?_, Offs.of_below (RowKit.Below.refl _ _), fun j hj => Or.inl hj⟩
          · unfold keepI keepE; rw [if_neg e0, if_neg e0]; rfl
          · unfold keepL; rw [if_neg e0]; exact HR.out
        unfold gotV
        dsimp only
        go_wp2_with fail
        exact bodyPost_ret (v := .tuple #[.int .i64 0, .int .i64 5]) (by simp [results, Tryd.results11, go_sem]) rfl hfin.out
    · obtain rfl : k = ids.length := by omega
      have hheld : Hid (heldO L ids = true) := by
        show heldO L ids = true
        unfold heldO
        rw [List.all_eq_true]
        have := hs.out
        rw [List.take_length] at this
        exact this
      clear hs hk hlt HG
      go_wp2_with fail
      go_loopw [9, 10] (fun l i w2 => ∃ (k : Nat), k ≤ L.length ∧ i = .int .i64 k ∧ Hid (w2.ownsRow w.heap.size 52 2 l (keepO (L.take k) ids).length (cellsO (keepO (L.take k) ids))) ∧ Hid (RowKit.Below w.heap.size w w2)) (fun _ i w2 => L.length - (intOf i).toNat)
      case atStart => exact ⟨0, by omega, rfl, World.ownsRow_nil _ _ _ _, RowKit.Below.refl _ _⟩
      case round =>
        obtain ⟨k, hk, rfl, ho2, hb2⟩ := hrel
        have hR2 := HR.out.below hb2.out
        obtain ⟨t0, t1, g0, g1⟩ := hR2.cells
        by_cases hlt : k < L.length
        · obtain ⟨g, cap', e1, c0, c1⟩ := ownO_at hR2.2 k hlt
          obtain ⟨rfl, _, rfl⟩ := Value.slice.inj e1
          have Hi2 := hideO (Hi.out.below hb2.out)
          have i0 : (0 : Int) ≤ (k : Int) := by omega
          have i1 : (k : Int) < (L.length : Int) := by omega
          have hkt := hideO (keepO_take hlt ids)
          have hkl := hideO (keepO_len (L.take k) ids)
          clear e1 hR2 s0 s1 f0 f1 Ho
          generalize hx : L[k] = x at *
          go_wp2_with fail
          go_loopw [11, 12] (fun kp j w3 => ∃ (p q : Nat), p ≤ ids.length ∧ j = .int .i64 p ∧ kp = .bool ((ids.take p).contains (x.1 : Int)) ∧ w3 = wr.drewN q) (fun _ j w3 => ids.length - (intOf j).toNat)
          case atStart => exact ⟨0, 0, by omega, rfl, rfl, rfl⟩
          case round =>
            obtain ⟨p, q, hp, rfl, rfl, rfl⟩ := hrel
            by_cases hlt2 : p < ids.length
            · obtain ⟨b, o, rfl, d0⟩ := Hi2.out.at hlt2
              have j0 : (0 : Int) ≤ (p : Int) := by omega
              have j1 : (p : Int) < (ids.length : Int) := by omega
              have j2 : (p : Int) + 1 ≤ 9223372036854775807 := by omega
              have hht := hideO (has_take hlt2 (x.1 : Int))
              generalize ids[p] = y at *
              cases hc : (ids.take p).contains (x.1 : Int)
              · cases hy : (y == (x.1 : Int))
                · have hn : Hid ((ids.take (p + 1)).contains (x.1 : Int) = false) := by show _ = _; rw [hht.out, hc, hy]; rfl
                  go_wp2_with fail
                  go_region
                  go_wp2
                  exact ⟨⟨p + 1, q + 1, by omega, by go_num, by rw [hn.out], rfl⟩, by simp [intOf]; omega⟩
                · have hn : Hid ((ids.take (p + 1)).contains (x.1 : Int) = true) := by show _ = _; rw [hht.out, hc, hy]; rfl
                  go_wp2_with fail
                  go_region
                  go_wp2
                  exact ⟨⟨p + 1, q + 1, by omega, by go_num, by rw [hn.out], rfl⟩, by simp [intOf]; omega⟩
              · have hn : Hid ((ids.take (p + 1)).contains (x.1 : Int) = true) := by show _ = _; rw [hht.out, hc]; rfl
                go_wp2_with fail
                go_region
                go_wp2
                exact ⟨⟨p + 1, q + 1, by omega, by go_num, by rw [hn.out], rfl⟩, by simp [intOf]; omega⟩
            · obtain rfl : p = ids.length := by omega
              rw [List.take_length]
              cases hc : ids.contains (x.1 : Int)
              · have hkt' : Hid (keepO (L.take (k + 1)) ids = keepO (L.take k) ids) := by show _ = _; rw [hkt.out, if_neg (by rw [hc]; decide)]; simp
                go_wp2
                exact ⟨⟨k + 1, by omega, by go_num, by rw [hkt'.out]; exact ownsO_below ho2.out (bdO wr q), hb2.out.trans ((bdO wr q).mono hb2.out.size)⟩, by simp [intOf]; omega⟩
              · have hkt' : Hid (keepO (L.take (k + 1)) ids = keepO (L.take k) ids ++ [x]) := by show _ = _; rw [hkt.out, if_pos hc]
                have ho3 := hideO (ownsO_below ho2.out (bdO wr q))
                have hb3 := hideO (hb2.out.trans ((bdO wr q).mono hb2.out.size))
                have t1' : (wr.drewN q).cell? ⟨m, 1, none⟩ = some (.slice (some ⟨g, 0, none⟩) L.length cap) := t1
                have c0' : (wr.drewN q).cell? ⟨g, k * 2, none⟩ = some (.int .i64 (x.1 : Int)) := c0
                have c1' : (wr.drewN q).cell? ⟨g, k * 2 + 1, none⟩ = some (.string ⟨x.2.toArray⟩) := c1
                clear t1 c0 c1 t0 g0 g1 ho2 hb2 Hi2 hkt
                have hkm : (keepO (L.take k) ids).length ≤ 1000 := by have := hkl.out; simp at this; omega
                clear hkl
                generalize wr.drewN q = w3 at *
                generalize keepO (L.take k) ids = M at *
                go_wp2_with (at_builtin; refine wpList_append_own _ rfl _ _ 37 rfl w.heap.size 52 i0' (.agg #[.int .i64 0, .string ⟨#[]⟩]) 2 24 Tryd.underlying37 hi0 hz0 hz1 hz2 rfl (by decide) _ _ _ rfl (ho3.out.alloc _) ⟨w3.heap.size, 0, none⟩ 1 1 (encO x) rfl rfl ?c1 (encO_one _) (by unfold maxLen; omega) (by omega) (by have := hb3.out.size; simp; omega) ?_)
                case c1 =>
                  intro j u hu
                  have hj : j < 2 := by have := (List.getElem?_eq_some_iff.1 hu).1; simpa [encO] using this
                  rw [Addr.add_lit]
                  rcases (by omega : j = 0 ∨ j = 1) with rfl | rfl
                  · simp [encO] at hu; subst hu; go_simp
                  · simp [encO] at hu; subst hu; go_simp
                intro v' w4 h2 h3 _
                have hb4 : Hid (RowKit.Below w.heap.size w w4) := (hb3.out.trans ((balloc w3 _).mono hb3.out.size)).grown h3 (by have := hb3.out.size; simp; omega) (fun j hj => (ho3.out.lt j hj).1)
                have ho4 : Hid (w4.ownsRow w.heap.size 52 2 v' (M ++ [x]).length (cellsO (M ++ [x]))) := by
                  show World.ownsRow _ _ _ _ _ _ _
                  rw [cellsO_app, List.length_append]
                  simpa [cellsO] using h2
                clear h2 h3
                go_wp2
                exact ⟨⟨k + 1, by omega, by go_num, by rw [hkt'.out]; exact ho4, hb4⟩, by simp [intOf]; omega⟩
        · obtain rfl : k = L.length := by omega
          rw [List.take_length] at ho2
          obtain ⟨hS1, hS2, hS3⟩ := r_swap HR.out hb2.out ho2.out
          obtain ⟨ad2, cap2, rfl⟩ := ownO_form ho2.out
          have hle := keepO_len L ids
          have hfin : Hid (RKeepAns w m (.slice vd L.length cap) n L ids (.returned (.tuple #[.int .i64 ((L.length : Int) - ((keepO L ids).length : Int)), .int .i64 0])) (wr.setCell ⟨m, 1, none⟩ (.slice ad2 (keepO L ids).length cap2))) := by
            refine ⟨?_, _, ?_, hS2, hS3⟩
            · unfold keepI keepE; rw [if_pos hheld.out, if_pos hheld.out, Int.ofNat_sub hle]
            · unfold keepL; rw [if_pos hheld.out]; exact hS1
          clear hS1 hS2 hS3 hR2 s0 s1 f0 f1 Ho ho2 hb2 hk hlt
          generalize (keepO L ids).length = M at *
          go_wp2_with fail
          exact bodyPost_ret (v := .tuple #[.int .i64 ((L.length : Int) - (M : Int)), .int .i64 0]) (by simp [results, Tryd.results11, go_sem]) rfl hfin.out

end Go.Proofs.YtpdieckoemfebaeDoor
