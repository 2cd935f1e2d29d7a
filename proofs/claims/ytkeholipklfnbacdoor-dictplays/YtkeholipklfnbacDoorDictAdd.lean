/- dict.Add: what it tells, and what the dict is then. -/
import Derived.Test.YtkeholipklfnbacDoorDictRoom
namespace Go.Proofs.YtkeholipklfnbacDoor
open Go Go.RowKit Go.Proofs Go.Maps
set_option synthInstance.maxSize 1000

attribute [local go_sem] eql_errV neq_errV guard_errV

/-! ### a block of cells -/
/-- at a block lie these cells, which may be written -/
def Arr (W : World) (b : Nat) (vs : Array Value) (t : TypeId) : Prop := W.heap[b]? = some (.cells vs t)
theorem Arr.cell {W : World} {b : Nat} {vs : Array Value} {t : TypeId} (h : Arr W b vs t) (j : Nat) : W.cell? ⟨b, j, none⟩ = vs[j]? := by
  unfold Arr at h
  simp [World.cell?, h]
theorem Arr.thaw {W : World} {b : Nat} {vs : Array Value} {t : TypeId} (h : Arr W b vs t) (j : Nat) : W.frozen? ⟨b, j, none⟩ = false := by
  unfold Arr at h
  simp [World.frozen?, h]
theorem Arr.lt {W : World} {b : Nat} {vs : Array Value} {t : TypeId} (h : Arr W b vs t) : b < W.heap.size := (Array.getElem?_eq_some_iff.1 h).1
theorem Arr.set {W : World} {b : Nat} {vs : Array Value} {t : TypeId} (h : Arr W b vs t) (j : Nat) (u : Value) : Arr (W.setCell ⟨b, j, none⟩ u) b (vs.setIfInBounds j u) t := heap_setCell_same W b j vs t u h
theorem Arr.set_other {W : World} {b : Nat} {vs : Array Value} {t : TypeId} (h : Arr W b vs t) {p : Addr} (u : Value) (hp : b ≠ p.block) : Arr (W.setCell p u) b vs t :=
  (RowKit.Below.heap_setCell W p u b hp).trans h
theorem Arr.below {W W' : World} {b B : Nat} {vs : Array Value} {t : TypeId} (h : Arr W b vs t) (hb : RowKit.Below B W W') (hB : b < B) : Arr W' b vs t := (hb.block b hB).trans h
theorem Arr.turned {W W' : World} {n0 b : Nat} {vs : Array Value} {t : TypeId} (h : Arr W b vs t) (ht : Turned n0 W W') (hB : n0 + 3 ≤ b) : Arr W' b vs t := (ht.high b hB h.lt).trans h
theorem arr_made (W : World) (vs : Array Value) (t : TypeId) : Arr (W.alloc (.cells vs t)) W.heap.size vs t := (MapKept.heap_alloc W _).1
theorem Turned.put {n0 : Nat} {w W : World} (h : Turned n0 w W) {p : Addr} (u : Value) (hp : w.heap.size ≤ p.block) (hn : n0 ≤ w.heap.size) : Turned n0 w (W.setCell p u) :=
  ⟨h.low.setCell (by omega) u, fun j h1 h2 => (RowKit.Below.heap_setCell W p u j (by omega)).trans (h.high j h1 h2)⟩
theorem Turned.step {n0 : Nat} {a b c : World} (h : Turned n0 a b) (hb : RowKit.Below b.heap.size b c) (hn : n0 ≤ b.heap.size) : Turned n0 a c := h.trans (Turned.of_below hb hn)

/-- a slice of one's own, of one term and of three -/
theorem slM_one {W : World} {b : Nat} {x : Tm} (c0 : W.cell? ⟨b, 0, none⟩ = some (.int .i64 x.1)) (c1 : W.cell? ⟨b, 1, none⟩ = some (.string ⟨x.2.1.toArray⟩)) (c2 : W.cell? ⟨b, 2, none⟩ = some (.string ⟨x.2.2.toArray⟩)) : SlM W (some ⟨b, 0, none⟩) [x] :=
  fun _ => ⟨b, 0, rfl, fun j v hj => by
    have h3 : j < 3 := (List.getElem?_eq_some_iff.1 hj).1
    rcases (by omega : j = 0 ∨ j = 1 ∨ j = 2) with rfl | rfl | rfl
    all_goals
      simp [cellsM, encTm] at hj
      subst hj
      assumption⟩

/-- what Add tells, and what there is then -/
def addE (L : List Tm) (x : Tm) : Int := if chkTm x = 0 then (if (addL L x).length ≤ 300 then 0 else 4) else chkTm x
def newL (L : List Tm) (x : Tm) : List Tm := if addE L x = 0 then addL L x else L
def newN (L : List Tm) (x : Tm) : Nat := if addE L x = 0 then idN (addL L x) x else 0

theorem addE_zero {L : List Tm} {x : Tm} : addE L x = 0 ↔ chkTm x = 0 ∧ (addL L x).length ≤ 300 := by
  unfold addE
  by_cases h : chkTm x = 0
  · rw [if_pos h]
    by_cases h2 : (addL L x).length ≤ 300
    · rw [if_pos h2]; exact ⟨fun _ => ⟨h, h2⟩, fun _ => rfl⟩
    · rw [if_neg h2]; exact ⟨fun e => absurd e (by decide), fun e => absurd e.2 h2⟩
  · rw [if_neg h]; exact ⟨fun e => absurd e h, fun e => absurd e.1 h⟩
theorem GoodL.new {L : List Tm} (h : GoodL L) (x : Tm) : GoodL (newL L x) := by
  unfold newL
  split
  · rename_i h0
    obtain ⟨h1, h2⟩ := addE_zero.1 h0
    exact h.add h1 h2
  · exact h
theorem newL_prefix (L : List Tm) (x : Tm) : L <+: newL L x := by
  unfold newL
  split
  · exact addL_prefix L x
  · exact List.prefix_refl L

set_option maxHeartbeats 2000000 in
set_option maxRecDepth 100000 in
theorem Add_any (n0 : Nat) (L : List Tm) (x : Tm) (w : World) (h : DictAt w n0 L) (hL : L.length ≤ 1000) (hx : fitTm x) :
    Calls Tryd.prog 7 #[.pointer (some ⟨n0 + 2, 0, none⟩), valTm x] w fun e w' => e = .returned (.tuple #[.int .i64 (newN L x), errV (addE L x)]) ∧ DictAt w' n0 (newL L x) ∧ Turned n0 w w' := by
  have H1 := fun W => Check_any x.1 x.2.1 x.2.2 W hx.1 hx.2
  have hlt := h.lt
  by_cases hk : chkTm x = 0
  · have HR := fun W b h1 h2 => hasRoom_any n0 L (some ⟨b, 0, none⟩) 1 [x] W h1 h2 (fun y hy => by rw [List.mem_singleton.1 hy]; exact wf_chk hk) hL (by simp)
    rw [show addAll L [x] = addL L x from rfl, show [x].length = 1 from rfl] at HR
    rw [show checkN x.1 x.2.1 x.2.2 = 0 from hk, show errV 0 = .nilIface from rfl] at H1
    by_cases hr : (addL L x).length ≤ 300
    · have e0 : addE L x = 0 := addE_zero.2 ⟨hk, hr⟩
      have HN := fun W h1 => number_any n0 L x W h1 hk hL
      rw [show newL L x = addL L x from if_pos e0, show newN L x = idN (addL L x) x from if_pos e0, e0, show errV 0 = .nilIface from rfl]
      rw [decide_eq_true hr] at HR
      have HD : Hid (DictAt w n0 L) := h
      clear h hk hr e0 hx hL
      generalize idN (addL L x) x = y at *
      generalize addL L x = M at *
      unfold valTm at HN ⊢
      go_enter Tryd.func7, Tryd.ntmps7
      go_wp2_with fail
      refine (H1 _).mono ?_
      rintro e w1 ⟨rfl, hb1⟩
      obtain ⟨k0, _⟩ := bcell hb1
      have c0 : w1.cell? ⟨w.heap.size, 0, none⟩ = some (.int .i64 x.1) := (k0 _ 0 (by simp)).trans (by go_simp)
      have c1 : w1.cell? ⟨w.heap.size, 1, none⟩ = some (.string ⟨x.2.1.toArray⟩) := (k0 _ 1 (by simp)).trans (by go_simp)
      have c2 : w1.cell? ⟨w.heap.size, 2, none⟩ = some (.string ⟨x.2.2.toArray⟩) := (k0 _ 2 (by simp)).trans (by go_simp)
      have hz1 : w.heap.size < w1.heap.size := World.block_lt_of_cell? w1 _ c0
      have hB1 := bstep (balloc _ _) hb1
      clear k0 hb1 H1
      go_wp2_with fail
      refine (HR _ _ (HD.out.below (bstep hB1 (balloc _ _))) (slM_one (by go_simp) (by go_simp) (by go_simp))).mono ?_
      rintro e w2 ⟨rfl, hb2⟩
      have hB2 := bstep hB1 (bstep (balloc _ _) hb2)
      have hb12 := bstep (balloc _ _) hb2
      have d0 := (hb12.cell (p := ⟨w.heap.size, 0, none⟩) hz1).trans c0
      have d1 := (hb12.cell (p := ⟨w.heap.size, 1, none⟩) hz1).trans c1
      have d2 := (hb12.cell (p := ⟨w.heap.size, 2, none⟩) hz1).trans c2
      have hz2 : w.heap.size < w2.heap.size := World.block_lt_of_cell? w2 _ d0
      clear hb2 hb12 HR c0 c1 c2
      go_wp2_with fail
      refine (HN _ (HD.out.below hB2)).mono ?_
      rintro e w3 ⟨rfl, hD3, hT3⟩
      have HD3 : Hid (DictAt w3 n0 M) := hD3
      clear hD3
      go_wp2_with fail
      exact bodyPost_ret (v := .tuple #[.int .i64 y, .nilIface]) (by unfold results; rw [Tryd.results7]; go_simp) rfl ⟨rfl, HD3.out, (Turned.of_below hB2 (by omega)).trans hT3⟩
    · have e0 : addE L x = 4 := by unfold addE; rw [if_pos hk, if_neg hr]
      rw [show newL L x = L from if_neg (by rw [e0]; decide), show newN L x = 0 from if_neg (by rw [e0]; decide), e0]
      rw [decide_eq_false hr] at HR
      have HD : Hid (DictAt w n0 L) := h
      clear h hk hr e0 hx hL
      unfold valTm
      go_enter Tryd.func7, Tryd.ntmps7
      go_wp2_with fail
      refine (H1 _).mono ?_
      rintro e w1 ⟨rfl, hb1⟩
      obtain ⟨k0, _⟩ := bcell hb1
      have c0 : w1.cell? ⟨w.heap.size, 0, none⟩ = some (.int .i64 x.1) := (k0 _ 0 (by simp)).trans (by go_simp)
      have c1 : w1.cell? ⟨w.heap.size, 1, none⟩ = some (.string ⟨x.2.1.toArray⟩) := (k0 _ 1 (by simp)).trans (by go_simp)
      have c2 : w1.cell? ⟨w.heap.size, 2, none⟩ = some (.string ⟨x.2.2.toArray⟩) := (k0 _ 2 (by simp)).trans (by go_simp)
      have hB1 := bstep (balloc _ _) hb1
      clear k0 hb1 H1
      go_wp2_with fail
      refine (HR _ _ (HD.out.below (bstep hB1 (balloc _ _))) (slM_one (by go_simp) (by go_simp) (by go_simp))).mono ?_
      rintro e w2 ⟨rfl, hb2⟩
      have hB2 := bstep hB1 (bstep (balloc _ _) hb2)
      clear hb2 HR c0 c1 c2
      go_wp2_with fail
      exact bodyPost_ret (v := .tuple #[.int .i64 0, .iface 60 (.int .i64 4)]) (by unfold results; rw [Tryd.results7]; go_simp) rfl ⟨rfl, HD.out.below hB2, Turned.of_below hB2 (by omega)⟩
  · have e0 : addE L x = chkTm x := if_neg hk
    have hn : (chkTm x == 0) = false := by simpa using hk
    rw [show newL L x = L from if_neg (by rw [e0]; exact hk), show newN L x = 0 from if_neg (by rw [e0]; exact hk), e0]
    rw [show checkN x.1 x.2.1 x.2.2 = chkTm x from rfl] at H1
    have HD : Hid (DictAt w n0 L) := h
    generalize chkTm x = m at *
    clear h hk e0 hx hL
    unfold valTm
    go_enter Tryd.func7, Tryd.ntmps7
    go_wp2_with fail
    refine (H1 _).mono ?_
    rintro e w1 ⟨rfl, hb1⟩
    have hB1 := bstep (balloc _ _) hb1
    go_wp2_with fail
    exact bodyPost_ret (v := .tuple #[.int .i64 0, errV m]) (by unfold results; rw [Tryd.results7]; go_simp) rfl ⟨rfl, HD.out.below hB1, Turned.of_below hB1 (by omega)⟩
end Go.Proofs.YtkeholipklfnbacDoor
