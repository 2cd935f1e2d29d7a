/- chain: ownTerm, own: a list in memory of the chain's own. -/
import Derived.Test.YtgdjeohcimkljadGreatDoorChainMem
import Derived.Deep.RegionHeld3
namespace Go.Proofs.YtgdjeohcimkljadGreatDoor
open Go Go.RowKit Go.Proofs
set_option synthInstance.maxSize 1000

theorem CloneC_any (l : List UInt8) (w : World) (hl : l.length ≤ 281474976710656) :
    Calls Tryz.prog 72 #[.string ⟨l.toArray⟩] w fun e w' => e = .returned (.string ⟨l.toArray⟩) ∧ RowKit.Below w.heap.size w w' := by
  go_enter Tryz.func72, Tryz.ntmps72
  go_wp2_with (go_at_call 94; refine (Tryz.stringslite_Clone ⟨l.toArray⟩ _ hl).mono ?_; rintro e w' ⟨rfl, hb⟩)
  go_ret
  exact ⟨rfl, hb⟩

/-- nothing that was there at v has turned -/
def BC (v W : World) : Prop := RowKit.Below v.heap.size v W
theorem BC.refl (v : World) : BC v v := RowKit.Below.refl _ _
theorem BC.drew {v W : World} (h : BC v W) : BC v W.drew := RowKit.Below.drew h
theorem BC.alloc {v W : World} (h : BC v W) (o : Obj) : BC v (W.alloc o) := bstep h (balloc _ _)
theorem BC.call {v W W' : World} (h : BC v W) (hb : RowKit.Below W.heap.size W W') : BC v W' := bstep h hb
def Zc (W : World) (B : Nat) : Prop := W.cell? ⟨B, 0, none⟩ = some (.int .i64 0) ∧ W.cell? ⟨B, 1, none⟩ = some (.string ⟨#[]⟩) ∧ W.cell? ⟨B, 2, none⟩ = some (.string ⟨#[]⟩) ∧ W.frozen? ⟨B, 0, none⟩ = false ∧ W.frozen? ⟨B, 1, none⟩ = false ∧ W.frozen? ⟨B, 2, none⟩ = false
theorem Zc.below {W W' : World} {B : Nat} (h : Zc W B) (hb : RowKit.Below W.heap.size W W') : Zc W' B := by
  obtain ⟨k, f⟩ := bcell hb
  have hB : B < W.heap.size := World.block_lt_of_cell? W _ h.1
  unfold Zc at h ⊢
  simp only [k _ _ hB, f _ _ hB]
  exact h
def B3 (W : World) (n : Nat) (x : Tm) : Prop := W.cell? ⟨n, 0, none⟩ = some (.int .i64 x.1) ∧ W.cell? ⟨n, 1, none⟩ = some (.string ⟨x.2.1.toArray⟩) ∧ W.cell? ⟨n, 2, none⟩ = some (.string ⟨x.2.2.toArray⟩)
theorem B3.below {W W' : World} {n : Nat} {x : Tm} (h : B3 W n x) (hb : RowKit.Below W.heap.size W W') : B3 W' n x := by
  obtain ⟨k, f⟩ := bcell hb
  have hB : n < W.heap.size := World.block_lt_of_cell? W _ h.1
  unfold B3 at h ⊢
  simp only [k _ _ hB]
  exact h
theorem B3.set3 {W : World} {n : Nat} {x : Tm} (h : B3 W n x) {g : Nat} (hg : g ≠ n) (a b c : Value) : B3 (((W.setCell ⟨g, 0, none⟩ a).setCell ⟨g, 1, none⟩ b).setCell ⟨g, 2, none⟩ c) n x := by
  unfold B3 at h ⊢
  refine ⟨?_, ?_, ?_⟩
  all_goals
    rw [World.cell?_setCell_other _ _ _ _ (by simp <;> omega), World.cell?_setCell_other _ _ _ _ (by simp <;> omega), World.cell?_setCell_other _ _ _ _ (by simp <;> omega)]
  · exact h.1
  · exact h.2.1
  · exact h.2.2
theorem ownsRow_belowC {W W' : World} {base : Nat} {e : TypeId} {sz : Nat} {v : Value} {n : Nat} {cs : List Value} (h : W.ownsRow base e sz v n cs) (hb : RowKit.Below W.heap.size W W') : W'.ownsRow base e sz v n cs :=
  h.kept (row := none) ⟨hb.os, hb.tape, hb.output, hb.size, fun i hi _ => hb.block i hi⟩ (Classical.em _)

set_option maxHeartbeats 4000000 in
set_option maxRecDepth 100000 in
theorem ownTerm_any (x : Tm) (w : World) (l1 : x.2.1.length ≤ 281474976710656) (l2 : x.2.2.length ≤ 281474976710656) :
    Calls Tryz.prog 47 #[.agg #[.int .i64 x.1, .string ⟨x.2.1.toArray⟩, .string ⟨x.2.2.toArray⟩]] w fun e w' => e = .returned (.agg #[.int .i64 x.1, .string ⟨x.2.1.toArray⟩, .string ⟨x.2.2.toArray⟩]) ∧ RowKit.Below w.heap.size w w' := by
  go_enter Tryz.func47, Tryz.ntmps47
  go_wp2_with fail
  obtain ⟨v0, hv0⟩ : ∃ v0, v0 = ((w.alloc (.cells #[.int .i64 x.1, .string ⟨x.2.1.toArray⟩, .string ⟨x.2.2.toArray⟩] 43)).alloc (.cells #[.int .i64 0, .string ⟨#[]⟩, .string ⟨#[]⟩] 43)) := ⟨_, rfl⟩
  have hZ : Zc v0 (w.heap.size + 1) := by rw [hv0]; unfold Zc; refine ⟨?_, ?_, ?_, ?_, ?_, ?_⟩ <;> go_simp
  have hX : B3 v0 w.heap.size x := by rw [hv0]; unfold B3; refine ⟨?_, ?_, ?_⟩ <;> go_simp
  have hB : Hid (RowKit.Below w.heap.size w v0) := by show RowKit.Below _ _ _; rw [hv0]; exact bstep (balloc _ _) (balloc _ _)
  have hz : v0.heap.size = w.heap.size + 2 := by rw [hv0]; simp
  have hZd : Hid (Zc v0.drew (w.heap.size + 1)) := hZ
  have hXd : B3 v0.drew w.heap.size x := hX
  try rw [show (ByteArray.empty) = ⟨#[]⟩ from rfl]
  rw [← hv0]
  clear hv0 hZ hX
  go_region_held3 (fun W => B3 W w.heap.size x ∧ W.cell? ⟨w.heap.size, 0, none⟩ = some (.int .i64 x.1) ∧ W.cell? ⟨w.heap.size, 1, none⟩ = some (.string ⟨x.2.1.toArray⟩) ∧ W.cell? ⟨w.heap.size, 2, none⟩ = some (.string ⟨x.2.2.toArray⟩)) ((refine (fun (W : World) (h : B3 W w.heap.size x) => (⟨h, h⟩ : B3 W w.heap.size x ∧ B3 W w.heap.size x)) _ ?_; repeat (first | (with_reducible refine B3.set3 ?_ (by omega) _ _ _) | (with_reducible refine B3.below ?_ hb1) | (with_reducible refine B3.below ?_ hb2) | (with_reducible exact hXd) | (with_reducible exact And.left (by assumption))))) (first
    | (go_at_call_of 72 (Value.string ⟨x.2.1.toArray⟩); refine (CloneC_any x.2.1 _ l1).mono ?_; rintro e w1 ⟨rfl, hb1⟩; have hZ1 : Hid (Zc w1 (w.heap.size + 1)) := hZd.out.below hb1)
    | (go_at_call_of 72 (Value.string ⟨x.2.2.toArray⟩); refine (CloneC_any x.2.2 _ l2).mono ?_; rintro e w2 ⟨rfl, hb2⟩; have hZ2 : Zc w2 (w.heap.size + 1) := hZ1.out.below hb2; obtain ⟨q0, q1, q2, q3, q4, q5⟩ := id hZ2))
  all_goals go_wp2_with fail
  exact bodyPost_ret (v := .agg #[.int .i64 x.1, .string ⟨x.2.1.toArray⟩, .string ⟨x.2.2.toArray⟩]) (by unfold results; rw [Tryz.results47]; go_simp) rfl ⟨rfl, (((bstep (bstep hB.out.drew hb1) hb2).setCell (p := ⟨w.heap.size + 1, 0, none⟩) (by show _ ≤ _ + 1; omega) _).setCell (p := ⟨w.heap.size + 1, 1, none⟩) (by show _ ≤ _ + 1; omega) _).setCell (p := ⟨w.heap.size + 1, 2, none⟩) (by show _ ≤ _ + 1; omega) _⟩

def B9 (W : World) (n : Nat) (y : Tr) : Prop := W.cell? ⟨n, 0, none⟩ = some (.int .i64 y.1.1) ∧ W.cell? ⟨n, 1, none⟩ = some (.string ⟨y.1.2.1.toArray⟩) ∧ W.cell? ⟨n, 2, none⟩ = some (.string ⟨y.1.2.2.toArray⟩) ∧ W.cell? ⟨n, 3, none⟩ = some (.int .i64 y.2.1.1) ∧ W.cell? ⟨n, 4, none⟩ = some (.string ⟨y.2.1.2.1.toArray⟩) ∧ W.cell? ⟨n, 5, none⟩ = some (.string ⟨y.2.1.2.2.toArray⟩) ∧ W.cell? ⟨n, 6, none⟩ = some (.int .i64 y.2.2.1) ∧ W.cell? ⟨n, 7, none⟩ = some (.string ⟨y.2.2.2.1.toArray⟩) ∧ W.cell? ⟨n, 8, none⟩ = some (.string ⟨y.2.2.2.2.toArray⟩)
theorem B9.below {W W' : World} {n : Nat} {y : Tr} (h : B9 W n y) (hb : RowKit.Below W.heap.size W W') : B9 W' n y := by
  obtain ⟨k, f⟩ := bcell hb
  have hB : n < W.heap.size := World.block_lt_of_cell? W _ h.1
  unfold B9 at h ⊢
  simp only [k _ _ hB]
  exact h
theorem B9.alloc {W : World} {n : Nat} {y : Tr} (h : B9 W n y) (o : Obj) : B9 (W.alloc o) n y := h.below (balloc _ _)
theorem B9.grown {W W' : World} {n : Nat} {y : Tr} {row : Option Nat} (h : B9 W n y) (hg : W.grownBy W' row) (hn : some n ≠ row) : B9 W' n y := by
  have hB : n < W.heap.size := World.block_lt_of_cell? W _ h.1
  have k : ∀ o, W'.cell? ⟨n, o, none⟩ = W.cell? ⟨n, o, none⟩ := fun o => World.cell?_of_block (w := W) (hg.block n hB hn)
  unfold B9 at h ⊢
  simp only [k]
  exact h
theorem small_chk {x : Tr} (h : chkTr x = 0) : (x.1.2.1.length ≤ 281474976710656 ∧ x.1.2.2.length ≤ 281474976710656) ∧ (x.2.1.2.1.length ≤ 281474976710656 ∧ x.2.1.2.2.length ≤ 281474976710656) ∧ x.2.2.2.1.length ≤ 281474976710656 ∧ x.2.2.2.2.length ≤ 281474976710656 := by
  obtain ⟨h1, h2, h3, _⟩ := chk_zero h
  have a1 := (check_zero h1).2.1
  have a2 := (check_zero h2).2.1
  have a3 := (check_zero h3).2.1
  have b1 := spell_lang (check_zero h1).2.2
  have b2 := spell_lang (check_zero h2).2.2
  have b3 := spell_lang (check_zero h3).2.2
  omega

/-- what append does to a list of one's own -/
theorem append_mine (W : World) (B : Nat) (v : Value) (t : List Tr) (y : Tr) (hown : W.ownsRow B 72 9 v t.length (cellsT t)) (hB : B ≤ W.heap.size) (ht : t.length ≤ 1000) (ty : TypeId) :
    ∃ v' W', (Builtin.append_ #[27, 27] ty #[v, .slice (some ⟨W.heap.size, 0, none⟩) 1 1]).run Tryz.prog (W.alloc (.cells (encTr y).toArray 72)) = .ok v' W' ∧ W'.ownsRow B 72 9 v' (t ++ [y]).length (cellsT (t ++ [y])) ∧ (W.alloc (.cells (encTr y).toArray 72)).grownBy W' v.ownBlock := by
  obtain ⟨i0, hi, hz⟩ := Option.map_eq_some_iff.1 infoTr
  simp only [Prod.mk.injEq] at hz
  obtain ⟨hz0, hz1, hz2⟩ := hz
  have hc : ∀ j u, (encTr y)[j]? = some u → (W.alloc (.cells (encTr y).toArray 72)).cell? ((⟨W.heap.size, 0, none⟩ : Addr).add j) = some u := by
    intro i u hi'
    rw [Addr.add_lit, Nat.zero_add, World.cell?_alloc_new]
    simpa using hi'
  obtain ⟨v', W', hr, h2, h3, _⟩ := run_append_own (P := Tryz.prog) (W.alloc (.cells (encTr y).toArray 72)) B 27 ty 72 i0 (.agg (encTr zeroTr).toArray) 9 120 Tryz.underlying27 hi hz0 hz1 hz2 rfl (by decide) v t.length (cellsT t) (hown.alloc _) ⟨W.heap.size, 0, none⟩ 1 1 (encTr y) rfl hc (encTr_one y) (by unfold maxLen; omega) (by omega) (by simp; omega)
  refine ⟨v', W', hr, ?_, h3⟩
  rw [List.length_append, show cellsT (t ++ [y]) = cellsT t ++ encTr y by simp [cellsT]]
  exact h2

set_option maxHeartbeats 8000000 in
set_option maxRecDepth 100000 in
theorem own_any (ad : Option Addr) (ca : Nat) (l : List Tr) (w : World) (hl : SlT w ad l) (hs : IsSet l) :
    Calls Tryz.prog 24 #[.slice ad l.length ca] w fun e w' => ∃ ad' c', e = .returned (.slice ad' l.length c') ∧ SlT w' ad' l ∧ RowKit.Below w.heap.size w w' := by
  have Hl : Hid (SlT w ad l) := hl
  have Hs : Hid (IsSet l) := hs
  have n200 : l.length ≤ 200 := hs.1
  clear hl hs
  go_enter Tryz.func24, Tryz.ntmps24
  go_wp2_with fail
  go_loopw [3, 8] (fun v i wr => ∃ k : Nat, k ≤ l.length ∧ i = .int .i64 k ∧ Hid (wr.ownsRow w.heap.size 72 9 v (l.take k).length (cellsT (l.take k))) ∧ Hid (RowKit.Below w.heap.size w wr)) (fun _ i wr => l.length - (intOf i).toNat)
  case atStart => exact ⟨0, Nat.zero_le _, rfl, by show World.ownsRow _ _ _ _ _ _ _; rw [List.take_zero]; exact World.ownsRow_nil _ _ _ _, RowKit.Below.refl _ _⟩
  case round =>
    obtain ⟨k, hk, rfl, hown, hbr⟩ := hrel
    by_cases hlt : k < l.length
    · obtain ⟨b, o, rfl, hr⟩ := (Hl.out.below hbr.out).at k hlt
      obtain ⟨c0, c1, c2, c3, c4, c5, c6, c7, c8⟩ := hr.at k hlt
      have i0' : (0 : Int) ≤ (k : Int) := by omega
      have i1 : (k : Int) < (l.length : Int) := by omega
      have hsm := small_chk (Hs.out.2.1 _ (List.getElem_mem hlt))
      have htk : Hid (l.take (k + 1) = l.take k ++ [l[k]]) := by show _ = _; rw [List.take_add_one]; simp [hlt]
      have hk' : Hid ((l.take k).length ≤ 200) := by show _ ≤ _; rw [List.length_take]; omega
      generalize l.take k = t0 at *
      generalize l[k] = y at *
      have H1 := fun W => ownTerm_any y.1 W hsm.1.1 hsm.1.2
      have H2 := fun W => ownTerm_any y.2.1 W hsm.2.1.1 hsm.2.1.2
      have H3 := fun W => ownTerm_any y.2.2 W hsm.2.2.1 hsm.2.2.2
      have HN : Hid (B9 (wr.alloc (.cells #[.int .i64 y.1.1, .string ⟨y.1.2.1.toArray⟩, .string ⟨y.1.2.2.toArray⟩, .int .i64 y.2.1.1, .string ⟨y.2.1.2.1.toArray⟩, .string ⟨y.2.1.2.2.toArray⟩, .int .i64 y.2.2.1, .string ⟨y.2.2.2.1.toArray⟩, .string ⟨y.2.2.2.2.toArray⟩] 72)) wr.heap.size y) := by show B9 _ _ _; unfold B9; refine ⟨?_, ?_, ?_, ?_, ?_, ?_, ?_, ?_, ?_⟩ <;> go_simp
      have HB : Hid (RowKit.Below w.heap.size w (wr.alloc (.cells #[.int .i64 y.1.1, .string ⟨y.1.2.1.toArray⟩, .string ⟨y.1.2.2.toArray⟩, .int .i64 y.2.1.1, .string ⟨y.2.1.2.1.toArray⟩, .string ⟨y.2.1.2.2.toArray⟩, .int .i64 y.2.2.1, .string ⟨y.2.2.2.1.toArray⟩, .string ⟨y.2.2.2.2.toArray⟩] 72))) := bstep hbr.out (balloc _ _)
      have HO : Hid (World.ownsRow (wr.alloc (.cells #[.int .i64 y.1.1, .string ⟨y.1.2.1.toArray⟩, .string ⟨y.1.2.2.toArray⟩, .int .i64 y.2.1.1, .string ⟨y.2.1.2.1.toArray⟩, .string ⟨y.2.1.2.2.toArray⟩, .int .i64 y.2.2.1, .string ⟨y.2.2.2.1.toArray⟩, .string ⟨y.2.2.2.2.toArray⟩] 72)) w.heap.size 72 9 _ t0.length (cellsT t0)) := hown.out.alloc _
      have Hn0 : Hid (some wr.heap.size ≠ Value.ownBlock _) := fun e => by have := (hown.out.lt _ e.symm).2; omega
      have hzz : Hid (w.heap.size ≤ wr.heap.size) := hbr.out.size
      clear hsm hr
      go_wp2_with fail
      obtain ⟨v1, hv1⟩ : ∃ v1, v1 = (wr.alloc (.cells #[.int .i64 y.1.1, .string ⟨y.1.2.1.toArray⟩, .string ⟨y.1.2.2.toArray⟩, .int .i64 y.2.1.1, .string ⟨y.2.1.2.1.toArray⟩, .string ⟨y.2.1.2.2.toArray⟩, .int .i64 y.2.2.1, .string ⟨y.2.2.2.1.toArray⟩, .string ⟨y.2.2.2.2.toArray⟩] 72)) := ⟨_, rfl⟩
      rw [← hv1] at HN HB HO ⊢
      have HNd : B9 v1.drew wr.heap.size y := HN.out
      clear hv1 c0 c1 c2 c3 c4 c5 c6 c7 c8 hown hbr
      go_region_held3 (fun W => B9 W wr.heap.size y ∧ W.cell? ⟨wr.heap.size, 0, none⟩ = some (.int .i64 y.1.1) ∧ W.cell? ⟨wr.heap.size, 1, none⟩ = some (.string ⟨y.1.2.1.toArray⟩) ∧ W.cell? ⟨wr.heap.size, 2, none⟩ = some (.string ⟨y.1.2.2.toArray⟩) ∧ W.cell? ⟨wr.heap.size, 3, none⟩ = some (.int .i64 y.2.1.1) ∧ W.cell? ⟨wr.heap.size, 4, none⟩ = some (.string ⟨y.2.1.2.1.toArray⟩) ∧ W.cell? ⟨wr.heap.size, 5, none⟩ = some (.string ⟨y.2.1.2.2.toArray⟩) ∧ W.cell? ⟨wr.heap.size, 6, none⟩ = some (.int .i64 y.2.2.1) ∧ W.cell? ⟨wr.heap.size, 7, none⟩ = some (.string ⟨y.2.2.2.1.toArray⟩) ∧ W.cell? ⟨wr.heap.size, 8, none⟩ = some (.string ⟨y.2.2.2.2.toArray⟩)) ((refine (fun (W : World) (h : B9 W wr.heap.size y) => (⟨h, h⟩ : B9 W wr.heap.size y ∧ B9 W wr.heap.size y)) _ ?_; repeat (first | (with_reducible exact hN9.out) | (with_reducible refine B9.alloc ?_ _) | (with_reducible refine B9.below ?_ hb1) | (with_reducible refine B9.below ?_ hb2) | (with_reducible refine B9.below ?_ hb3) | (with_reducible exact HNd) | (with_reducible exact And.left (by assumption))))) (first
        | (go_at_call_of 47 (Value.agg #[.int .i64 y.1.1, .string ⟨y.1.2.1.toArray⟩, .string ⟨y.1.2.2.toArray⟩]); refine (H1 _).mono ?_; rintro e w1 ⟨rfl, hb1⟩)
        | (go_at_call_of 47 (Value.agg #[.int .i64 y.2.1.1, .string ⟨y.2.1.2.1.toArray⟩, .string ⟨y.2.1.2.2.toArray⟩]); refine (H2 _).mono ?_; rintro e w2 ⟨rfl, hb2⟩)
        | (go_at_call_of 47 (Value.agg #[.int .i64 y.2.2.1, .string ⟨y.2.2.2.1.toArray⟩, .string ⟨y.2.2.2.2.toArray⟩]); refine (H3 _).mono ?_; rintro e w3 ⟨rfl, hb3⟩; have hB4 : Hid (RowKit.Below w.heap.size w w3) := bstep (bstep (bstep HB.out.drew hb1) hb2) hb3; obtain ⟨v', w9, hr9, ho9, hg9⟩ := append_mine w3 w.heap.size _ t0 y (ownsRow_belowC (ownsRow_belowC (ownsRow_belowC HO.out.drew hb1) hb2) hb3) hB4.out.size (by have := hk'.out; omega) 27; have hN9 : Hid (B9 w9 wr.heap.size y) := (((HN.out.below ((RowKit.Below.refl _ v1).drew.trans (bstep (bstep hb1 hb2) hb3))).alloc _).grown hg9 Hn0.out))
        | (refine step_append_eq rfl (.tmp 12) (.tmp 23) 27 rfl _ _ rfl rfl hr9 ?_))
      have hbel : Hid (RowKit.Below w.heap.size w w9) := (bstep hB4.out (balloc _ _)).grown hg9 (by have := hB4.out.size; simp; omega) (fun q hq => (HO.out.lt q hq).1)
      go_wp2_with fail
      go_roundw
      case rel =>
        refine ⟨k + 1, by omega, by go_num, ?_, hbel⟩
        show World.ownsRow _ _ _ _ _ _ _
        rw [htk.out]
        exact ho9
      case measure => simp [intOf]; omega
    · obtain rfl : k = l.length := by omega
      have hown' := hown.out
      rw [List.take_length] at hown'
      obtain ⟨ad', cap', rfl, hsl⟩ := own_slT hown'
      have Hsl : Hid (SlT wr ad' l) := hsl
      clear hown' hown hsl
      go_wp2_with fail
      exact bodyPost_ret (v := .slice ad' l.length cap') (by simp [results, Tryz.results24, go_sem]) rfl ⟨ad', cap', rfl, Hsl.out, hbr.out⟩
end Go.Proofs.YtgdjeohcimkljadGreatDoor
