/- dict.Pack: what it tells, and what the dict is then. -/
import Derived.Test.YtkeholipklfnbacDoorDictAdd
namespace Go.Proofs.YtkeholipklfnbacDoor
open Go Go.RowKit Go.Proofs Go.Maps
set_option synthInstance.maxSize 1000

attribute [local go_sem] eql_errV neq_errV guard_errV
attribute [local go_sem ↓] index0 index1 index2

def three (t : Tr) : List Tm := [t.1, t.2.1, t.2.2]
theorem chk_three {t : Tr} (h : chkTr t = 0) : ∀ x ∈ three t, chkTm x = 0 := by
  obtain ⟨h1, h2, h3, _⟩ := chk_zero h
  intro x hx
  simp only [three, List.mem_cons, List.not_mem_nil, or_false] at hx
  rcases hx with rfl | rfl | rfl
  · exact h1
  · exact h2
  · exact h3
theorem slM_three {W : World} {b : Nat} {t : Tr} (c0 : W.cell? ⟨b, 0, none⟩ = some (.int .i64 t.1.1)) (c1 : W.cell? ⟨b, 1, none⟩ = some (.string ⟨t.1.2.1.toArray⟩)) (c2 : W.cell? ⟨b, 2, none⟩ = some (.string ⟨t.1.2.2.toArray⟩))
    (c3 : W.cell? ⟨b, 3, none⟩ = some (.int .i64 t.2.1.1)) (c4 : W.cell? ⟨b, 4, none⟩ = some (.string ⟨t.2.1.2.1.toArray⟩)) (c5 : W.cell? ⟨b, 5, none⟩ = some (.string ⟨t.2.1.2.2.toArray⟩))
    (c6 : W.cell? ⟨b, 6, none⟩ = some (.int .i64 t.2.2.1)) (c7 : W.cell? ⟨b, 7, none⟩ = some (.string ⟨t.2.2.2.1.toArray⟩)) (c8 : W.cell? ⟨b, 8, none⟩ = some (.string ⟨t.2.2.2.2.toArray⟩)) : SlM W (some ⟨b, 0, none⟩) (three t) :=
  fun _ => ⟨b, 0, rfl, fun j v hj => by
    have h9 : j < 9 := (List.getElem?_eq_some_iff.1 hj).1
    rcases (by omega : j = 0 ∨ j = 1 ∨ j = 2 ∨ j = 3 ∨ j = 4 ∨ j = 5 ∨ j = 6 ∨ j = 7 ∨ j = 8) with rfl | rfl | rfl | rfl | rfl | rfl | rfl | rfl | rfl
    all_goals
      simp [cellsM, encTm, three] at hj
      subst hj
      assumption⟩

/-- what Pack tells, and what there is then -/
def packE (L : List Tm) (t : Tr) : Int := if chkTr t = 0 then (if (addAll L (three t)).length ≤ 300 then 0 else 4) else chkTr t
def packL (L : List Tm) (t : Tr) : List Tm := if packE L t = 0 then addAll L (three t) else L
def idsOf (M : List Tm) (t : Tr) : Int × Int × Int := (idN M t.1, idN M t.2.1, idN M t.2.2)
def packI (L : List Tm) (t : Tr) : Int × Int × Int := if packE L t = 0 then idsOf (addAll L (three t)) t else (0, 0, 0)
def valI (x : Int × Int × Int) : Value := .agg #[.int .i64 x.1, .int .i64 x.2.1, .int .i64 x.2.2]

theorem packE_zero {L : List Tm} {t : Tr} : packE L t = 0 ↔ chkTr t = 0 ∧ (addAll L (three t)).length ≤ 300 := by
  unfold packE
  by_cases h : chkTr t = 0
  · rw [if_pos h]
    by_cases h2 : (addAll L (three t)).length ≤ 300
    · rw [if_pos h2]; exact ⟨fun _ => ⟨h, h2⟩, fun _ => rfl⟩
    · rw [if_neg h2]; exact ⟨fun e => absurd e (by decide), fun e => absurd e.2 h2⟩
  · rw [if_neg h]; exact ⟨fun e => absurd e h, fun e => absurd e.1 h⟩
theorem GoodL.pack {L : List Tm} (h : GoodL L) (t : Tr) : GoodL (packL L t) := by
  unfold packL
  split
  · rename_i h0
    obtain ⟨h1, h2⟩ := packE_zero.1 h0
    exact h.addAll (chk_three h1) h2
  · exact h
theorem packL_prefix (L : List Tm) (t : Tr) : L <+: packL L t := by
  unfold packL
  split
  · exact addAll_prefix _ L
  · exact List.prefix_refl L

theorem hide {p : Prop} (h : p) : Hid p := h
theorem below_set3 {B b : Nat} {w W : World} (h : RowKit.Below B w W) (hb : B ≤ b) (u v z : Value) : RowKit.Below B w (((W.setCell ⟨b, 0, none⟩ u).setCell ⟨b, 1, none⟩ v).setCell ⟨b, 2, none⟩ z) :=
  ((h.setCell (p := ⟨b, 0, none⟩) hb u).setCell (p := ⟨b, 1, none⟩) hb v).setCell (p := ⟨b, 2, none⟩) hb z
theorem Turned.put3 {n0 b : Nat} {w W : World} (h : Turned n0 w W) (hb : w.heap.size ≤ b) (hn : n0 ≤ w.heap.size) (u v z : Value) : Turned n0 w (((W.setCell ⟨b, 0, none⟩ u).setCell ⟨b, 1, none⟩ v).setCell ⟨b, 2, none⟩ z) :=
  ((h.put (p := ⟨b, 0, none⟩) u hb hn).put (p := ⟨b, 1, none⟩) v hb hn).put (p := ⟨b, 2, none⟩) z hb hn
/-- the dict stays while other blocks are written -/
theorem DictAt.put {n0 : Nat} {W : World} {L : List Tm} (h : DictAt W n0 L) {p : Addr} (u : Value) (hp : n0 + 3 ≤ p.block) : DictAt (W.setCell p u) n0 L :=
  h.far (B := n0 + 3) ((RowKit.Below.refl _ _).setCell hp u) (by omega)
theorem DictAt.put3 {n0 b : Nat} {W : World} {L : List Tm} (h : DictAt W n0 L) (hb : n0 + 3 ≤ b) (u v z : Value) : DictAt (((W.setCell ⟨b, 0, none⟩ u).setCell ⟨b, 1, none⟩ v).setCell ⟨b, 2, none⟩ z) n0 L :=
  ((h.put (p := ⟨b, 0, none⟩) u hb).put (p := ⟨b, 1, none⟩) v hb).put (p := ⟨b, 2, none⟩) z hb

set_option maxHeartbeats 2000000 in
set_option maxRecDepth 100000 in
theorem Pack_bad (n0 : Nat) (L : List Tm) (x : Tr) (w : World) (h : DictAt w n0 L) (hx : fitTr x) (hk : chkTr x ≠ 0) :
    Calls Tryd.prog 11 #[.pointer (some ⟨n0 + 2, 0, none⟩), valTr x] w fun e w' => e = .returned (.tuple #[valI (0, 0, 0), errV (chkTr x)]) ∧ DictAt w' n0 L ∧ Turned n0 w w' := by
  have H1 := fun W => ChkTr_any x W hx
  have hlt := h.lt
  have hn : (chkTr x == 0) = false := by simpa using hk
  have HD : Hid (DictAt w n0 L) := h
  generalize chkTr x = m at *
  clear h hk hx
  unfold valTr at H1 ⊢
  unfold valI
  go_enter Tryd.func11, Tryd.ntmps11
  go_wp2_with fail
  refine (H1 _).mono ?_
  rintro e w1 ⟨rfl, hb1⟩
  have hr : Arr w1 (w.heap.size + 1) #[.int .i64 0, .int .i64 0, .int .i64 0] 41 := by
    refine Arr.below (W := (w.alloc _).alloc _) ?_ hb1 (by simp)
    have := arr_made (w.alloc (.cells #[.int .i64 x.1.1, .string ⟨x.1.2.1.toArray⟩, .string ⟨x.1.2.2.toArray⟩, .int .i64 x.2.1.1, .string ⟨x.2.1.2.1.toArray⟩, .string ⟨x.2.1.2.2.toArray⟩, .int .i64 x.2.2.1, .string ⟨x.2.2.2.1.toArray⟩, .string ⟨x.2.2.2.2.toArray⟩] 39)) #[.int .i64 0, .int .i64 0, .int .i64 0] 41
    simpa using this
  have r0 := hr.cell 0
  have r1 := hr.cell 1
  have r2 := hr.cell 2
  have g0 := hr.thaw 0
  have g1 := hr.thaw 1
  have g2 := hr.thaw 2
  simp at r0 r1 r2
  have hB1 := bstep (bstep (balloc _ _) (balloc _ _)) hb1
  have hz1 := hr.lt
  clear hb1 H1 hr
  go_wp2_with fail
  have hB := below_set3 hB1 (by omega : w.heap.size ≤ w.heap.size + 1) (.int .i64 0) (.int .i64 0) (.int .i64 0)
  exact bodyPost_ret (v := .tuple #[.agg #[.int .i64 0, .int .i64 0, .int .i64 0], errV m]) (by unfold results; rw [Tryd.results11]; go_simp) rfl ⟨rfl, HD.out.far hB hlt, Turned.of_below hB (by omega)⟩

set_option maxHeartbeats 4000000 in
set_option maxRecDepth 100000 in
theorem Pack_full (n0 : Nat) (L : List Tm) (x : Tr) (w : World) (h : DictAt w n0 L) (hL : L.length ≤ 300) (hx : fitTr x) (hk : chkTr x = 0) (hr : ¬ (addAll L (three x)).length ≤ 300) :
    Calls Tryd.prog 11 #[.pointer (some ⟨n0 + 2, 0, none⟩), valTr x] w fun e w' => e = .returned (.tuple #[valI (0, 0, 0), errV 4]) ∧ DictAt w' n0 L ∧ Turned n0 w w' := by
  have H1 := fun W => ChkTr_any x W hx
  have HR := fun W b h1 h2 => hasRoom_any n0 L (some ⟨b, 0, none⟩) 3 (three x) W h1 h2 (fun y hy => wf_chk (chk_three hk y hy)) (by omega) (by simp [three])
  rw [show (three x).length = 3 from rfl, decide_eq_false hr] at HR
  rw [hk, show errV 0 = .nilIface from rfl] at H1
  have hlt := h.lt
  have HD : Hid (DictAt w n0 L) := h
  have hre : Hid (Arr ((w.alloc (.cells (encTr x).toArray 39)).alloc (.cells #[.int .i64 0, .int .i64 0, .int .i64 0] 41)) (w.heap.size + 1) #[.int .i64 0, .int .i64 0, .int .i64 0] 41) := by
    have := arr_made (w.alloc (.cells (encTr x).toArray 39)) #[.int .i64 0, .int .i64 0, .int .i64 0] 41
    simpa [Hid] using this
  clear h hk hx hr
  unfold valTr at H1 ⊢
  unfold valI
  go_enter Tryd.func11, Tryd.ntmps11
  go_wp2_with fail
  refine (H1 _).mono ?_
  rintro e w1 ⟨rfl, hb1⟩
  have hr : Arr w1 (w.heap.size + 1) #[.int .i64 0, .int .i64 0, .int .i64 0] 41 := Arr.below hre.out hb1 (by simp)
  obtain ⟨k0, _⟩ := bcell hb1
  have c0 : w1.cell? ⟨w.heap.size, 0, none⟩ = some (.int .i64 x.1.1) := (k0 _ 0 (by simp; omega)).trans (by go_simp)
  have c1 : w1.cell? ⟨w.heap.size, 1, none⟩ = some (.string ⟨x.1.2.1.toArray⟩) := (k0 _ 1 (by simp; omega)).trans (by go_simp)
  have c2 : w1.cell? ⟨w.heap.size, 2, none⟩ = some (.string ⟨x.1.2.2.toArray⟩) := (k0 _ 2 (by simp; omega)).trans (by go_simp)
  have c3 : w1.cell? ⟨w.heap.size, 3, none⟩ = some (.int .i64 x.2.1.1) := (k0 _ 3 (by simp; omega)).trans (by go_simp)
  have c4 : w1.cell? ⟨w.heap.size, 4, none⟩ = some (.string ⟨x.2.1.2.1.toArray⟩) := (k0 _ 4 (by simp; omega)).trans (by go_simp)
  have c5 : w1.cell? ⟨w.heap.size, 5, none⟩ = some (.string ⟨x.2.1.2.2.toArray⟩) := (k0 _ 5 (by simp; omega)).trans (by go_simp)
  have c6 : w1.cell? ⟨w.heap.size, 6, none⟩ = some (.int .i64 x.2.2.1) := (k0 _ 6 (by simp; omega)).trans (by go_simp)
  have c7 : w1.cell? ⟨w.heap.size, 7, none⟩ = some (.string ⟨x.2.2.2.1.toArray⟩) := (k0 _ 7 (by simp; omega)).trans (by go_simp)
  have c8 : w1.cell? ⟨w.heap.size, 8, none⟩ = some (.string ⟨x.2.2.2.2.toArray⟩) := (k0 _ 8 (by simp; omega)).trans (by go_simp)
  have hz1 : w.heap.size < w1.heap.size := World.block_lt_of_cell? w1 _ c0
  have hB1 := bstep (bstep (balloc _ _) (balloc _ _)) hb1
  clear k0 hb1 H1 hre
  go_wp2_with fail
  refine (HR _ _ (HD.out.below (bstep hB1 (balloc _ _))) (slM_three (by go_simp) (by go_simp) (by go_simp) (by go_simp) (by go_simp) (by go_simp) (by go_simp) (by go_simp) (by go_simp))).mono ?_
  rintro e w2 ⟨rfl, hb2⟩
  have hb12 := bstep (balloc _ _) hb2
  have hB2 := bstep hB1 hb12
  have hr2 := hr.below hb12 hr.lt
  have r0 := hr2.cell 0
  have r1 := hr2.cell 1
  have r2 := hr2.cell 2
  have g0 := hr2.thaw 0
  have g1 := hr2.thaw 1
  have g2 := hr2.thaw 2
  simp at r0 r1 r2
  have hz2 := hr2.lt
  clear hb2 hb12 HR c0 c1 c2 c3 c4 c5 c6 c7 c8 hr hr2
  go_wp2_with fail
  have hB := below_set3 hB2 (by omega : w.heap.size ≤ w.heap.size + 1) (.int .i64 0) (.int .i64 0) (.int .i64 0)
  exact bodyPost_ret (v := .tuple #[.agg #[.int .i64 0, .int .i64 0, .int .i64 0], .iface 60 (.int .i64 4)]) (by unfold results; rw [Tryd.results11]; go_simp) rfl ⟨rfl, HD.out.far hB hlt, Turned.of_below hB (by omega)⟩
set_option maxHeartbeats 4000000 in
set_option maxRecDepth 100000 in
theorem Pack_good (n0 : Nat) (L : List Tm) (x : Tr) (w : World) (h : DictAt w n0 L) (hL : L.length ≤ 300) (hx : fitTr x) (hk : chkTr x = 0) (hr : (addAll L (three x)).length ≤ 300) :
    Calls Tryd.prog 11 #[.pointer (some ⟨n0 + 2, 0, none⟩), valTr x] w fun e w' => e = .returned (.tuple #[valI (idsOf (addAll L (three x)) x), .nilIface]) ∧ DictAt w' n0 (addAll L (three x)) ∧ Turned n0 w w' := by
  have H1 := fun W => ChkTr_any x W hx
  have HR := fun W b h1 h2 => hasRoom_any n0 L (some ⟨b, 0, none⟩) 3 (three x) W h1 h2 (fun y hy => wf_chk (chk_three hk y hy)) (by omega) (by simp [three])
  rw [show (three x).length = 3 from rfl, decide_eq_true hr] at HR
  rw [hk, show errV 0 = .nilIface from rfl] at H1
  have hlt := h.lt
  have HD : Hid (DictAt w n0 L) := h
  have hre : Hid (Arr ((w.alloc (.cells (encTr x).toArray 39)).alloc (.cells #[.int .i64 0, .int .i64 0, .int .i64 0] 41)) (w.heap.size + 1) #[.int .i64 0, .int .i64 0, .int .i64 0] 41) := by
    have := arr_made (w.alloc (.cells (encTr x).toArray 39)) #[.int .i64 0, .int .i64 0, .int .i64 0] 41
    simpa [Hid] using this
  have e3 : addAll L (three x) = addL (addL (addL L x.1) x.2.1) x.2.2 := rfl
  have hids : Hid (idsOf (addAll L (three x)) x = (((idN (addL L x.1) x.1 : Nat) : Int), ((idN (addL (addL L x.1) x.2.1) x.2.1 : Nat) : Int), ((idN (addL (addL (addL L x.1) x.2.1) x.2.2) x.2.2 : Nat) : Int))) := by
    have m1 : x.1 ∈ addL L x.1 := mem_addL.2 (.inr rfl)
    have m2 : x.2.1 ∈ addL (addL L x.1) x.2.1 := mem_addL.2 (.inr rfl)
    show _ = _
    unfold idsOf
    rw [e3, idN_prefix ((addL_prefix _ x.2.1).trans (addL_prefix _ x.2.2)) m1, idN_prefix (addL_prefix _ x.2.2) m2]
  obtain ⟨k1, k2, k3, _⟩ := chk_zero hk
  have n1 : (addL L x.1).length ≤ 301 := by rw [addL_len]; split <;> omega
  have n2 : (addL (addL L x.1) x.2.1).length ≤ 302 := by rw [addL_len]; split <;> omega
  have N1 := fun W h1 => number_any n0 L x.1 W h1 k1 (by omega)
  have N2 := fun W h1 => number_any n0 (addL L x.1) x.2.1 W h1 k2 (by omega)
  have N3 := fun W h1 => number_any n0 (addL (addL L x.1) x.2.1) x.2.2 W h1 k3 (by omega)
  rw [hids.out, e3]
  clear h hk hx hr hids e3 k1 k2 k3 n1 n2
  unfold valI
  generalize idN (addL (addL (addL L x.1) x.2.1) x.2.2) x.2.2 = v3 at *
  generalize addL (addL (addL L x.1) x.2.1) x.2.2 = L3 at *
  generalize idN (addL (addL L x.1) x.2.1) x.2.1 = v2 at *
  generalize addL (addL L x.1) x.2.1 = L2 at *
  generalize idN (addL L x.1) x.1 = v1 at *
  generalize addL L x.1 = L1 at *
  unfold valTr at H1 ⊢
  unfold valTm at N1 N2 N3
  go_enter Tryd.func11, Tryd.ntmps11
  go_wp2_with fail
  refine (H1 _).mono ?_
  rintro e w1 ⟨rfl, hb1⟩
  have hr : Arr w1 (w.heap.size + 1) #[.int .i64 0, .int .i64 0, .int .i64 0] 41 := Arr.below hre.out hb1 (by simp)
  obtain ⟨k0, _⟩ := bcell hb1
  have c0 : w1.cell? ⟨w.heap.size, 0, none⟩ = some (.int .i64 x.1.1) := (k0 _ 0 (by simp; omega)).trans (by go_simp)
  have c1 : w1.cell? ⟨w.heap.size, 1, none⟩ = some (.string ⟨x.1.2.1.toArray⟩) := (k0 _ 1 (by simp; omega)).trans (by go_simp)
  have c2 : w1.cell? ⟨w.heap.size, 2, none⟩ = some (.string ⟨x.1.2.2.toArray⟩) := (k0 _ 2 (by simp; omega)).trans (by go_simp)
  have c3 : w1.cell? ⟨w.heap.size, 3, none⟩ = some (.int .i64 x.2.1.1) := (k0 _ 3 (by simp; omega)).trans (by go_simp)
  have c4 : w1.cell? ⟨w.heap.size, 4, none⟩ = some (.string ⟨x.2.1.2.1.toArray⟩) := (k0 _ 4 (by simp; omega)).trans (by go_simp)
  have c5 : w1.cell? ⟨w.heap.size, 5, none⟩ = some (.string ⟨x.2.1.2.2.toArray⟩) := (k0 _ 5 (by simp; omega)).trans (by go_simp)
  have c6 : w1.cell? ⟨w.heap.size, 6, none⟩ = some (.int .i64 x.2.2.1) := (k0 _ 6 (by simp; omega)).trans (by go_simp)
  have c7 : w1.cell? ⟨w.heap.size, 7, none⟩ = some (.string ⟨x.2.2.2.1.toArray⟩) := (k0 _ 7 (by simp; omega)).trans (by go_simp)
  have c8 : w1.cell? ⟨w.heap.size, 8, none⟩ = some (.string ⟨x.2.2.2.2.toArray⟩) := (k0 _ 8 (by simp; omega)).trans (by go_simp)
  have hz1 : w.heap.size < w1.heap.size := World.block_lt_of_cell? w1 _ c0
  have hB1 := bstep (bstep (balloc _ _) (balloc _ _)) hb1
  clear k0 hb1 H1 hre
  go_wp2_with fail
  refine (HR _ _ (HD.out.below (bstep hB1 (balloc _ _))) (slM_three (by go_simp) (by go_simp) (by go_simp) (by go_simp) (by go_simp) (by go_simp) (by go_simp) (by go_simp) (by go_simp))).mono ?_
  rintro e w2 ⟨rfl, hb2⟩
  have hb12 := bstep (balloc _ _) hb2
  have hB2 := bstep hB1 hb12
  have hr2 : Hid (Arr w2 (w.heap.size + 1) #[.int .i64 0, .int .i64 0, .int .i64 0] 41) := hr.below hb12 hr.lt
  have d0 := (hb12.cell (p := ⟨w.heap.size, 0, none⟩) hz1).trans c0
  have d1 := (hb12.cell (p := ⟨w.heap.size, 1, none⟩) hz1).trans c1
  have d2 := (hb12.cell (p := ⟨w.heap.size, 2, none⟩) hz1).trans c2
  have d3 := (hb12.cell (p := ⟨w.heap.size, 3, none⟩) hz1).trans c3
  have d4 := (hb12.cell (p := ⟨w.heap.size, 4, none⟩) hz1).trans c4
  have d5 := (hb12.cell (p := ⟨w.heap.size, 5, none⟩) hz1).trans c5
  have d6 := (hb12.cell (p := ⟨w.heap.size, 6, none⟩) hz1).trans c6
  have d7 := (hb12.cell (p := ⟨w.heap.size, 7, none⟩) hz1).trans c7
  have d8 := (hb12.cell (p := ⟨w.heap.size, 8, none⟩) hz1).trans c8
  have hz2 : w.heap.size < w2.heap.size := World.block_lt_of_cell? w2 _ d0
  have hz3 : w.heap.size + 1 < w2.heap.size := hr2.out.lt
  clear hb2 hb12 HR c0 c1 c2 c3 c4 c5 c6 c7 c8 hr hz1
  go_wp2_with fail
  clear d0 d1 d2 d3 d4 d5 d6 d7 d8
  go_loopw [35] (fun i wr => ((i = .int .i64 0 ∧ Hid (DictAt wr n0 L) ∧ Hid (Arr wr w2.heap.size #[.int .i64 0, .int .i64 0, .int .i64 0] 41))
      ∨ (i = .int .i64 1 ∧ Hid (DictAt wr n0 L1) ∧ Hid (Arr wr w2.heap.size #[.int .i64 v1, .int .i64 0, .int .i64 0] 41))
      ∨ (i = .int .i64 2 ∧ Hid (DictAt wr n0 L2) ∧ Hid (Arr wr w2.heap.size #[.int .i64 v1, .int .i64 v2, .int .i64 0] 41))
      ∨ (i = .int .i64 3 ∧ Hid (DictAt wr n0 L3) ∧ Hid (Arr wr w2.heap.size #[.int .i64 v1, .int .i64 v2, .int .i64 v3] 41)))
      ∧ Hid (Arr wr (w.heap.size + 1) #[.int .i64 0, .int .i64 0, .int .i64 0] 41) ∧ Hid (Turned n0 w wr)) (fun i wr => 3 - (intOf i).toNat)
  case atStart =>
    have hB3 := bstep hB2 (balloc w2 (.cells #[.int .i64 0, .int .i64 0, .int .i64 0] 41))
    exact ⟨.inl ⟨rfl, HD.out.below hB3, arr_made _ _ _⟩, hr2.out.below (balloc _ _) hz3, Turned.of_below hB3 (by omega)⟩
  case round =>
    obtain ⟨hcs, hres, htw⟩ := hrel
    have hzw : w2.heap.size < wr.heap.size ∧ n0 ≤ wr.heap.size := by
      rcases hcs with ⟨_, _, ha⟩ | ⟨_, _, ha⟩ | ⟨_, _, ha⟩ | ⟨_, _, ha⟩
      all_goals
        have := ha.out.lt
        exact ⟨this, by omega⟩
    obtain ⟨hzw, hnw⟩ := hzw
    rcases hcs with ⟨rfl, hD, ha⟩ | ⟨rfl, hD, ha⟩ | ⟨rfl, hD, ha⟩ | ⟨rfl, hD, ha⟩
    · have hbx := balloc wr (.cells #[.int .i64 x.1.1, .string ⟨x.1.2.1.toArray⟩, .string ⟨x.1.2.2.toArray⟩] 29)
      have hD1 := hide (hD.out.below hbx)
      have a0 := hide (ha.out.below hbx hzw)
      have r0 := hide (hres.out.below hbx hres.out.lt)
      have t0 := hide (htw.out.step hbx hnw)
      clear hD ha hres htw
      go_wp2_with fail
      refine (N1 _ hD1.out).mono ?_
      rintro e w3 ⟨rfl, hD3, hT3⟩
      have hD4 : Hid (DictAt w3 n0 L1) := hD3
      have a1 := a0.out.turned hT3 (by omega)
      have r1 := hide (r0.out.turned hT3 (by omega))
      have t1 := hide (t0.out.trans hT3)
      have b0 := a1.cell 0
      have b1 := a1.thaw 0
      simp at b0
      have hz3' := a1.lt
      have A1 := hide (a1)
      clear hD3 hT3 a0 r0 t0 hD1 hbx a1
      go_wp2_with fail
      go_roundw
      case rel =>
        refine ⟨.inr (.inl ⟨rfl, ?_, ?_⟩), ?_, ?_⟩
        · exact hD4.out.put (p := ⟨w2.heap.size, 0, none⟩) _ (by show _ ≤ w2.heap.size; omega)
        · exact A1.out.set 0 _
        · exact r1.out.set_other (p := ⟨w2.heap.size, 0, none⟩) _ (by show _ ≠ w2.heap.size; omega)
        · exact t1.out.put (p := ⟨w2.heap.size, 0, none⟩) _ (by show _ ≤ w2.heap.size; omega) (by omega)
      case measure => simp [intOf]
    · have hbx := balloc wr (.cells #[.int .i64 x.2.1.1, .string ⟨x.2.1.2.1.toArray⟩, .string ⟨x.2.1.2.2.toArray⟩] 29)
      have hD1 := hide (hD.out.below hbx)
      have a0 := hide (ha.out.below hbx hzw)
      have r0 := hide (hres.out.below hbx hres.out.lt)
      have t0 := hide (htw.out.step hbx hnw)
      clear hD ha hres htw
      go_wp2_with fail
      refine (N2 _ hD1.out).mono ?_
      rintro e w3 ⟨rfl, hD3, hT3⟩
      have hD4 : Hid (DictAt w3 n0 L2) := hD3
      have a1 := a0.out.turned hT3 (by omega)
      have r1 := hide (r0.out.turned hT3 (by omega))
      have t1 := hide (t0.out.trans hT3)
      have b0 := a1.cell 1
      have b1 := a1.thaw 1
      simp at b0
      have hz3' := a1.lt
      have A1 := hide (a1)
      clear hD3 hT3 a0 r0 t0 hD1 hbx a1
      go_wp2_with fail
      go_roundw
      case rel =>
        refine ⟨.inr (.inr (.inl ⟨rfl, ?_, ?_⟩)), ?_, ?_⟩
        · exact hD4.out.put (p := ⟨w2.heap.size, 1, none⟩) _ (by show _ ≤ w2.heap.size; omega)
        · exact A1.out.set 1 _
        · exact r1.out.set_other (p := ⟨w2.heap.size, 1, none⟩) _ (by show _ ≠ w2.heap.size; omega)
        · exact t1.out.put (p := ⟨w2.heap.size, 1, none⟩) _ (by show _ ≤ w2.heap.size; omega) (by omega)
      case measure => simp [intOf]
    · have hbx := balloc wr (.cells #[.int .i64 x.2.2.1, .string ⟨x.2.2.2.1.toArray⟩, .string ⟨x.2.2.2.2.toArray⟩] 29)
      have hD1 := hide (hD.out.below hbx)
      have a0 := hide (ha.out.below hbx hzw)
      have r0 := hide (hres.out.below hbx hres.out.lt)
      have t0 := hide (htw.out.step hbx hnw)
      clear hD ha hres htw
      go_wp2_with fail
      refine (N3 _ hD1.out).mono ?_
      rintro e w3 ⟨rfl, hD3, hT3⟩
      have hD4 : Hid (DictAt w3 n0 L3) := hD3
      have a1 := a0.out.turned hT3 (by omega)
      have r1 := hide (r0.out.turned hT3 (by omega))
      have t1 := hide (t0.out.trans hT3)
      have b0 := a1.cell 2
      have b1 := a1.thaw 2
      simp at b0
      have hz3' := a1.lt
      have A1 := hide (a1)
      clear hD3 hT3 a0 r0 t0 hD1 hbx a1
      go_wp2_with fail
      go_roundw
      case rel =>
        refine ⟨.inr (.inr (.inr ⟨rfl, ?_, ?_⟩)), ?_, ?_⟩
        · exact hD4.out.put (p := ⟨w2.heap.size, 2, none⟩) _ (by show _ ≤ w2.heap.size; omega)
        · exact A1.out.set 2 _
        · exact r1.out.set_other (p := ⟨w2.heap.size, 2, none⟩) _ (by show _ ≠ w2.heap.size; omega)
        · exact t1.out.put (p := ⟨w2.heap.size, 2, none⟩) _ (by show _ ≤ w2.heap.size; omega) (by omega)
      case measure => simp [intOf]
    · obtain a0 := ha.out.cell 0
      have a1 := ha.out.cell 1
      have a2 := ha.out.cell 2
      have r0 := hres.out.cell 0
      have r1 := hres.out.cell 1
      have r2 := hres.out.cell 2
      have g0 := hres.out.thaw 0
      have g1 := hres.out.thaw 1
      have g2 := hres.out.thaw 2
      simp at r0 r1 r2 a0 a1 a2
      have hzr := hres.out.lt
      go_wp2_with fail
      have hT := htw.out.put3 (b := w.heap.size + 1) (by omega) (by omega) (.int .i64 v1) (.int .i64 v2) (.int .i64 v3)
      have hDD := hD.out.put3 (b := w.heap.size + 1) (by omega) (.int .i64 v1) (.int .i64 v2) (.int .i64 v3)
      exact bodyPost_ret (v := .tuple #[.agg #[.int .i64 v1, .int .i64 v2, .int .i64 v3], .nilIface]) (by unfold results; rw [Tryd.results11]; go_simp) rfl ⟨rfl, hDD, hT⟩

theorem Pack_any (n0 : Nat) (L : List Tm) (x : Tr) (w : World) (h : DictAt w n0 L) (hL : L.length ≤ 300) (hx : fitTr x) :
    Calls Tryd.prog 11 #[.pointer (some ⟨n0 + 2, 0, none⟩), valTr x] w fun e w' => e = .returned (.tuple #[valI (packI L x), errV (packE L x)]) ∧ DictAt w' n0 (packL L x) ∧ Turned n0 w w' := by
  unfold packI packL
  by_cases hk : chkTr x = 0
  · by_cases hr : (addAll L (three x)).length ≤ 300
    · have e := packE_zero.2 ⟨hk, hr⟩
      rw [if_pos e, if_pos e, e]
      exact Pack_good n0 L x w h hL hx hk hr
    · have e : packE L x = 4 := by unfold packE; rw [if_pos hk, if_neg hr]
      rw [e, if_neg (by decide), if_neg (by decide)]
      exact Pack_full n0 L x w h hL hx hk hr
  · have e : packE L x = chkTr x := if_neg hk
    rw [e, if_neg hk, if_neg hk]
    exact Pack_bad n0 L x w h hx hk
end Go.Proofs.YtkeholipklfnbacDoor
