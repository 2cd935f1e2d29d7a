/- chain.Push: a layer more. -/
import Derived.Test.YtgdjeohcimkljadGreatDoorChainOps
import Derived.Deep.RegionLaw
namespace Go.Proofs.YtgdjeohcimkljadGreatDoor
open Go Go.RowKit Go.Proofs
set_option synthInstance.maxSize 1000
attribute [local go_sem] eql_errV neq_errV guard_errV

theorem infoLy : (Tryz.prog.info? 31).map (fun i => (i.zero, i.size, i.bytes)) = some (some (.agg #[.slice none 0 0, .slice none 0 0]), 2, 48) := by kernel_rfl

theorem BoxL.store {W : World} {b : Nat} {v0 v1 : Value} (h : BoxL W b v0 v1) {n0 o : Nat} (hn : n0 ≠ b) (u : Value) : BoxL (W.setCell ⟨n0, o, none⟩ u) b v0 v1 :=
  ⟨by rw [World.cell?_setCell_other _ _ _ _ (by simp <;> omega)]; exact h.1, by rw [World.cell?_setCell_other _ _ _ _ (by simp <;> omega)]; exact h.2⟩
theorem BoxL.grown {W W' : World} {b : Nat} {v0 v1 : Value} {row : Option Nat} (h : BoxL W b v0 v1) (hg : W.grownBy W' row) (hn : some b ≠ row) : BoxL W' b v0 v1 := by
  have hB : b < W.heap.size := World.block_lt_of_cell? W _ h.1
  have k : ∀ o, W'.cell? ⟨b, o, none⟩ = W.cell? ⟨b, o, none⟩ := fun o => World.cell?_of_block (w := W) (hg.block b hB hn)
  exact ⟨(k 0).trans h.1, (k 1).trans h.2⟩
theorem BoxL.alloc {W : World} {b : Nat} {v0 v1 : Value} (h : BoxL W b v0 v1) (o : Obj) : BoxL (W.alloc o) b v0 v1 := h.below (balloc _ _)

/-- append of a layer that lies in a new block -/
theorem chain_push' {W : World} {n0 : Nat} {v : Value} {gs : List (List Tr)} (h : ChainAt W n0 v gs) (g u : List Tr) (hg : gs.getLast? = some g) (su : IsSet u) (hn : gs.length ≤ 900) (a1 a2 : Option Addr) (c1 c2 : Nat) (q1 : SlT W a1 (btw g u).1) (q2 : SlT W a2 (btw g u).2) (ty : TypeId) :
    ∃ v' W9, (Builtin.append_ #[40, 40] ty #[v, .slice (some ⟨W.heap.size, 0, none⟩) 1 1]).run Tryz.prog (W.alloc (.cells #[.slice a1 (btw g u).1.length c1, .slice a2 (btw g u).2.length c2] 31)) = .ok v' W9 ∧ (W.alloc (.cells #[.slice a1 (btw g u).1.length c1, .slice a2 (btw g u).2.length c2] 31)).grownBy W9 v.ownBlock ∧ W9.cell? ⟨n0, 1, none⟩ = some v ∧ W9.frozen? ⟨n0, 1, none⟩ = false ∧ ChainAt (W9.setCell ⟨n0, 1, none⟩ v') n0 v' (gs ++ [u]) ∧ Off n0 v W (W9.setCell ⟨n0, 1, none⟩ v') ∧ NewV W v v' ∧ ∃ ad cap, v' = .slice ad gs.length cap := by
  obtain ⟨i0, hi, hz⟩ := Option.map_eq_some_iff.1 infoLy
  simp only [Prod.mk.injEq] at hz
  obtain ⟨hz0, hz1, hz2⟩ := hz
  have hb := balloc W (.cells #[.slice a1 (btw g u).1.length c1, .slice a2 (btw g u).2.length c2] 31)
  obtain ⟨v', W9, hr, hgr, k1, k3, hC, hO, hN, hf⟩ := chain_push (P := Tryz.prog) (h.below hb) g u hg su hn (.slice a1 (btw g u).1.length c1, .slice a2 (btw g u).2.length c2) ⟨a1, c1, a2, c2, rfl, q1.below hb, q2.below hb⟩ ⟨W.heap.size, 0, none⟩ 1 (fun j y hj => by
    have h2 : j < 2 := (List.getElem?_eq_some_iff.1 hj).1
    rw [Addr.add_lit]
    rcases (by omega : j = 0 ∨ j = 1) with rfl | rfl
    all_goals
      simp at hj
      subst hj
      simp) 40 ty 31 i0 Tryz.underlying40 hi hz0 hz1 (by omega)
  refine ⟨v', W9, hr, hgr, k1, k3, hC, (Off.of_below (v := v) hb).trans hO (Or.inl rfl), ?_, hf⟩
  rcases hN with h | h
  · exact Or.inl h
  · exact Or.inr fun g' hg' => by have := h g' hg'; simp at this; omega

/-- what Push tells -/
def pushN (gs : List (List Tr)) (g : List Tr) (l : Ly) : Int := if 31 ≤ gs.length then 4 else applyN g l.1 l.2
def PushAns (n0 : Nat) (v : Value) (gs : List (List Tr)) (g : List Tr) (l : Ly) (w : World) (e : Ending) (w' : World) : Prop :=
  e = .returned (errV (pushN gs g l)) ∧ ∃ gs' v', ChainAt w' n0 v' gs' ∧ Off n0 v w w' ∧ NewV w v v' ∧ (pushN gs g l = 0 → ∃ u, gs' = gs ++ [u] ∧ IsSet u ∧ l = btw g u) ∧ (pushN gs g l ≠ 0 → gs' = gs ∧ v' = v)
theorem PushAns.no {n0 : Nat} {v : Value} {gs : List (List Tr)} {g : List Tr} {l : Ly} {w w' : World} {n : Int} (h : ChainAt w n0 v gs) (hb : RowKit.Below w.heap.size w w') (hn : pushN gs g l = n) (h0 : n ≠ 0) : PushAns n0 v gs g l w (.returned (errV n)) w' :=
  ⟨by rw [hn], gs, v, h.below hb, Off.of_below hb, Or.inl rfl, fun e => absurd (hn.symm.trans e) h0, fun _ => ⟨rfl, rfl⟩⟩

theorem PushAns.yes {n0 : Nat} {v v' : Value} {gs : List (List Tr)} {g u : List Tr} {l : Ly} {w w3 w5 w' : World} (h0 : pushN gs g l = 0) (hu : IsSet u ∧ l = btw g u) (hb : RowKit.Below w.heap.size w w3) (hb' : RowKit.Below w3.heap.size w3 w5) (h : ChainAt w' n0 v' (gs ++ [u]) ∧ Off n0 v w5 w' ∧ NewV w5 v v') : PushAns n0 v gs g l w (.returned .nilIface) w' := by
  refine ⟨by rw [h0]; rfl, gs ++ [u], v', h.1, (Off.of_below (bstep hb hb')).trans h.2.1 (Or.inl rfl), ?_, fun _ => ⟨u, rfl, hu.1, hu.2⟩, fun hne => absurd h0 hne⟩
  rcases h.2.2 with h | h
  · exact Or.inl h
  · exact Or.inr fun g' hg' => Nat.le_trans (bstep hb hb').size (h g' hg')

set_option maxHeartbeats 8000000 in
set_option maxRecDepth 100000 in
theorem Push_any (n0 : Nat) (v : Value) (gs : List (List Tr)) (g : List Tr) (a1 a2 : Option Addr) (c1 c2 : Nat) (l : Ly) (w : World) (h : ChainAt w n0 v gs) (hn : gs.length ≤ 900) (hg : gs.getLast? = some g) (h1 : SlT w a1 l.1) (h2 : SlT w a2 l.2) (f1 : ∀ x ∈ l.1, fitTr x) (f2 : ∀ x ∈ l.2, fitTr x) (n1 : l.1.length ≤ 9223372036854775807) (n2 : l.2.length ≤ 9223372036854775807) :
    Calls Tryz.prog 7 #[.pointer (some ⟨n0, 0, none⟩), .agg #[.slice a1 l.1.length c1, .slice a2 l.2.length c2]] w (PushAns n0 v gs g l w) := by
  have hp := h.pos
  have hlt := h.lt
  have hgi : gs[gs.length - 1]? = some g := by rw [← List.getLast?_eq_getElem?]; exact hg
  have sg : IsSet g := h.set hgi
  have HL := fun W hW => CLen_any n0 v gs W hW (by omega)
  have HG := fun W hW => Graph_any n0 v gs (gs.length - 1) g W hW (by omega) hgi
  have HA := fun W sd cs h0 h1 h2 => LApply_any sd a1 a2 cs c1 c2 g l.1 l.2 W h0 h1 h2 sg.fit f1 f2 (setLen sg) n1 n2
  have H0 : Hid (ChainAt w n0 v gs) := h
  have H12 : Hid (SlT w a1 l.1 ∧ SlT w a2 l.2) := ⟨h1, h2⟩
  have hB0 : Hid (RowKit.Below w.heap.size w (w.alloc (.cells #[.slice a1 l.1.length c1, .slice a2 l.2.length c2] 31))) := balloc _ _
  have Hg : Hid (gs.getLast? = some g) := hg
  have no := fun (w' : World) (n : Int) (hb : RowKit.Below w.heap.size w w') (e : pushN gs g l = n) (h0 : n ≠ 0) => PushAns.no (g := g) (l := l) h hb e h0
  have No : Hid _ := no
  have HN : Hid (gs.length ≤ 900) := hn
  have Hp : Hid (pushN gs g l = if 31 ≤ gs.length then 4 else applyN g l.1 l.2) := rfl
  have Ok : Hid (applyN g l.1 l.2 = 0 → ∀ m, ApplyAns g l.1 l.2 m → IsSet m ∧ l = btw g m) := fun e m hm => apply_is e (hm.1 e)
  clear h h1 h2 f1 f2 n1 n2 hgi sg hg no
  by_cases h30 : 31 ≤ gs.length
  · have e4 : Hid (pushN gs g l = 4) := by show _ = _; rw [Hp.out, if_pos h30]
    have b0 : decide ((30 : Int) ≤ ((gs.length - 1 : Nat) : Int)) = true := by simp; omega
    generalize hm : gs.length - 1 = m at *
    clear hm hn hp h30 HG HA
    go_enter Tryz.func7, Tryz.ntmps7
    go_wp2_with fail
    refine (HL _ (H0.out.below hB0.out)).mono ?_
    rintro e w1 ⟨rfl, rfl⟩
    go_wp2_with fail
    exact bodyPost_ret (v := .iface 73 (.int .i64 4)) (by simp [results, Tryz.results7, go_sem]) rfl (No.out _ 4 hB0.out e4.out (by decide))
  · have ep : Hid (pushN gs g l = applyN g l.1 l.2) := by show _ = _; rw [Hp.out, if_neg h30]
    have b0 : decide ((30 : Int) ≤ ((gs.length - 1 : Nat) : Int)) = false := by simp; omega
    generalize hm : gs.length - 1 = m at *
    clear hm hn hp h30
    generalize hnn : applyN g l.1 l.2 = n at *
    have Hnn : Hid (applyN g l.1 l.2 = n) := hnn
    clear hnn
    go_enter Tryz.func7, Tryz.ntmps7
    go_wp2_with fail
    refine (HL _ (H0.out.below hB0.out)).mono ?_
    rintro e w1 ⟨rfl, rfl⟩
    go_wp2_with fail
    refine (HL _ (H0.out.below hB0.out)).mono ?_
    rintro e w1 ⟨rfl, rfl⟩
    go_wp2_with fail
    refine (HG _ (H0.out.below hB0.out)).mono ?_
    rintro e w2 ⟨hb2, ad, cd, rfl, hs2⟩
    obtain ⟨x0, x1, hz1, _, _⟩ := twobox hb2
    have hB2 : Hid (RowKit.Below w.heap.size w w2) := bstep hB0.out hb2
    have Hs2 : Hid (SlT w2 ad g) := hs2
    clear hb2 hs2 HG HL
    go_wp2_with fail
    refine (HA _ ad cd Hs2.out (H12.out.1.below hB2.out) (H12.out.2.below hB2.out)).mono ?_
    rintro e w3 ⟨hb3, u, ad3, cd3, rfl, hs3, hu⟩
    have hB3 : Hid (RowKit.Below w.heap.size w w3) := bstep hB2.out hb3
    have y0 : w3.cell? ⟨w.heap.size, 0, none⟩ = some (.slice a1 l.1.length c1) := (hb3.cell (World.block_lt_of_cell? _ _ x0)).trans x0
    have y1 : w3.cell? ⟨w.heap.size, 1, none⟩ = some (.slice a2 l.2.length c2) := (hb3.cell (World.block_lt_of_cell? _ _ x1)).trans x1
    have Hu : Hid (ApplyAns g l.1 l.2 u) := hu
    clear x0 x1 hb3 hs3 hu HA Hs2 hB2
    cases hn0 : (n == 0)
    · have hne : ¬ n = 0 := by simpa using hn0
      have Hne : Hid (¬ n = 0) := hne
      clear hne
      go_wp2_with fail
      refine bodyPost_ret (v := errV n) (by simp [results, Tryz.results7, go_sem]) rfl ?_
      exact PushAns.no H0.out hB3.out ep.out Hne.out
    · have h0 : n = 0 := by simpa using hn0
      subst h0
      rw [show errV 0 = .nilIface from rfl]
      obtain ⟨su, hl⟩ := Ok.out rfl u Hu.out
      have Su : Hid (IsSet u ∧ l = btw g u) := ⟨su, hl⟩
      have Se : Hid (IsSet l.1 ∧ IsSet l.2) := by
        have sg : IsSet g := by
          have := orN_zero.1 Hnn.out
          exact sortedN_set.1 this.1
        show IsSet l.1 ∧ IsSet l.2
        rw [hl]
        exact ⟨lessSet su, lessSet sg⟩
      have HO1 := fun W hW => own_any a1 c1 l.1 W hW Se.out.1
      have HO2 := fun W hW => own_any a2 c2 l.2 W hW Se.out.2
      have HC3 : Hid (ChainAt w3 n0 v gs) := H0.out.below hB3.out
      have c1v := HC3.out.c1
      have Hq : Hid (SlT w3.drew a1 l.1 ∧ SlT w3.drew a2 l.2) := ⟨H12.out.1.below hB3.out.drew, H12.out.2.below hB3.out.drew⟩
      clear hn0 su hl Hu Ok No
      go_wp2_with fail
      go_region_law (first
        | (refine step_append_eq rfl (.tmp 36) (.tmp 44) 40 rfl _ _ rfl rfl hr9 ?_)
        | (go_simp; go_at_call_of 24 (Value.slice a1 l.1.length c1); refine (HO1 _ Hq.out.1).mono ?_; rintro e w4 ⟨b1, d1, rfl, hs4, hb4⟩; have k4 : w4.cell? ⟨n0, 1, none⟩ = some v := (hb4.cell (World.block_lt_of_cell? _ _ c1v)).trans c1v; have z0 : w4.cell? ⟨w.heap.size, 0, none⟩ = some (.slice a1 l.1.length c1) := (hb4.cell (World.block_lt_of_cell? _ _ y0)).trans y0; have z1 : w4.cell? ⟨w.heap.size, 1, none⟩ = some (.slice a2 l.2.length c2) := (hb4.cell (World.block_lt_of_cell? _ _ y1)).trans y1)
        | (go_simp; go_at_call_of 24 (Value.slice a2 l.2.length c2); refine (HO2 _ (Hq.out.2.below hb4)).mono ?_; rintro e w5 ⟨b2, d2, rfl, hs5, hb5⟩; have k5 : w5.cell? ⟨n0, 1, none⟩ = some v := (hb5.cell (World.block_lt_of_cell? _ _ k4)).trans k4; have k5z : n0 < w5.heap.size := World.block_lt_of_cell? _ _ k5; have hB5 : Hid (RowKit.Below w3.heap.size w3 w5) := bstep ((RowKit.Below.refl _ w3).drew.trans hb4) hb5; obtain ⟨v', w9, hr9, hg9, k9, f9, hc9, ho9, hn9, adv, capv, hv9⟩ := chain_push' (HC3.out.below hB5.out) g u Hg.out Su.out.1 HN.out b1 b2 d1 d2 (by rw [← Su.out.2]; exact hs4.below hb5) (by rw [← Su.out.2]; exact hs5) 40; rw [← Su.out.2] at hr9; have hfin : Hid (ChainAt (w9.setCell ⟨n0, 1, none⟩ v') n0 v' (gs ++ [u]) ∧ Off n0 v w5 (w9.setCell ⟨n0, 1, none⟩ v') ∧ NewV w5 v v') := ⟨hc9, ho9, hn9⟩; clear hc9 ho9 hn9 hg9; subst hv9))
      all_goals go_wp2_with fail
      all_goals
        exact bodyPost_ret (v := .nilIface) (by simp [results, Tryz.results7, go_sem]) rfl (PushAns.yes ep.out Su.out hB3.out hB5.out hfin.out)
end Go.Proofs.YtgdjeohcimkljadGreatDoor
