import Derived.Test.YtbacenhgedopjaaGreatDoorMA0x4
import Derived.Test.YtbacenhgedopjaaGreatDoorMA0x5
import Derived.Deep.DeepCutAuto
import Derived.Deep.RegionHeld3
import Derived.Test.YtbacenhgedopjaaGreatDoorMA0x3

/- The document's Bound, Bind, less (package strataref3). -/
namespace Go.Proofs.YtbacenhgedopjaaGreatDoor
open Go Go.RowKit Go.Proofs Go.Maps
set_option synthInstance.maxSize 1000
attribute [local go_sem ↓] eqlEmpty neqEmpty

theorem bound_drop {vars : List (List UInt8)} {vals : List Tm} {s : List UInt8} {k : Nat} (h1 : k < vars.length) (h2 : k < vals.length) : boundT (vars.drop k) (vals.drop k) s = if vars[k] = s ∧ s ≠ [] then some vals[k] else boundT (vars.drop (k + 1)) (vals.drop (k + 1)) s := by
  rw [List.drop_eq_getElem_cons h1, List.drop_eq_getElem_cons h2, boundT]
theorem bound_stop {vars : List (List UInt8)} {vals : List Tm} {s : List UInt8} {k : Nat} (h : ¬ (k < vars.length ∧ k < vals.length)) : boundT (vars.drop k) (vals.drop k) s = none := by
  by_cases h1 : k < vars.length
  · have e : vals.drop k = [] := List.drop_eq_nil_of_le (by omega)
    rw [List.drop_eq_getElem_cons h1, e, boundT]
  · have e : vars.drop k = [] := List.drop_eq_nil_of_le (by omega)
    rw [e, boundT]

set_option maxHeartbeats 4000000 in
set_option maxRecDepth 100000 in
theorem Bound_any (vd td : Option Addr) (vc tc : Nat) (vars : List (List UInt8)) (vals : List Tm) (s : List UInt8) (w : World) (hv : SlW w vd vars) (ht : SlQ w td vals) (h1 : vars.length ≤ 9223372036854775807) :
    Calls Tryz.prog 23 #[.slice vd vars.length vc, .slice td vals.length tc, .string ⟨s.toArray⟩] w fun e w' => e = .returned (.tuple #[valTQ ((boundT vars vals s).getD tmZero), .bool (boundT vars vals s).isSome]) ∧ RowKit.Below w.heap.size w w' := by
  have Hv := hideQ hv
  have Ht := hideQ ht
  clear hv ht
  generalize hR : boundT vars vals s = R at *
  have HR := hideQ hR
  clear hR
  obtain ⟨W0, hW0⟩ : ∃ W0, W0 = w.alloc (.cells #[.int .i64 0, .string ⟨#[]⟩, .string ⟨#[]⟩] 28) := ⟨_, rfl⟩
  have hb0 : RowKit.Below w.heap.size w W0 := by rw [hW0]; exact balloc _ _
  have hz0 : w.heap.size < W0.heap.size := by rw [hW0]; simp
  have z0 : W0.cell? ⟨w.heap.size, 0, none⟩ = some (.int .i64 0) := by rw [hW0]; go_simp
  have z1 : W0.cell? ⟨w.heap.size, 1, none⟩ = some (.string ⟨#[]⟩) := by rw [hW0]; go_simp
  have z2 : W0.cell? ⟨w.heap.size, 2, none⟩ = some (.string ⟨#[]⟩) := by rw [hW0]; go_simp
  have y0 : W0.frozen? ⟨w.heap.size, 0, none⟩ = false := by rw [hW0]; go_simp
  have y1 : W0.frozen? ⟨w.heap.size, 1, none⟩ = false := by rw [hW0]; go_simp
  have y2 : W0.frozen? ⟨w.heap.size, 2, none⟩ = false := by rw [hW0]; go_simp
  have HW0 := hideQ hW0
  have Hv0 := hideQ (Hv.out.below hb0)
  have Ht0 := hideQ (Ht.out.below hb0)
  clear hW0 Hv Ht
  go_enter Tryz.func23, Tryz.ntmps23
  go_upto_region 1 with fail
  rw [← HW0.out]
  clear HW0
  go_wp2_with fail
  go_loop [8] (fun i => ∃ k : Nat, k ≤ vars.length ∧ i = .int .i64 k ∧ Hid (R = boundT (vars.drop k) (vals.drop k) s)) (fun i => vars.length - (intOf i).toNat)
  case atStart => exact ⟨0, Nat.zero_le _, rfl, HR.out.symm⟩
  case round =>
    obtain ⟨k, hk, rfl, hB⟩ := hrel
    by_cases l1 : k < vars.length
    · have t1 : decide ((k : Int) < (vars.length : Int)) = true := by simp; omega
      by_cases l2 : k < vals.length
      · have t2 : decide ((k : Int) < (vals.length : Int)) = true := by simp; omega
        obtain ⟨b, o, rfl, ck⟩ := Hv0.out.at k l1
        obtain ⟨b', o', rfl, d0, d1, d2⟩ := Ht0.out.at k l2
        have i0 : (0 : Int) ≤ (k : Int) := by omega
        have i1 : (k : Int) < (vars.length : Int) := by omega
        have i2 : (k : Int) < (vals.length : Int) := by omega
        have hB2 := hB.out
        rw [bound_drop l1 l2] at hB2
        clear hB
        by_cases he : vars[k] = s
        · have d : (vars[k] == s) = true := by simpa using he
          by_cases hs : s = []
          · have de : s.isEmpty = true := by simp [hs]
            have hB3 : Hid (R = boundT (vars.drop (k + 1)) (vals.drop (k + 1)) s) := by rw [if_neg (fun h => h.2 hs)] at hB2; exact hB2
            clear hs he hB2
            go_wp2_with fail
            exact ⟨⟨k + 1, by omega, by go_num, hB3⟩, by simp [intOf]; omega⟩
          · have de : s.isEmpty = false := by simp [hs]
            have hB3 : Hid (R = some vals[k]) := by rw [if_pos ⟨he, hs⟩] at hB2; exact hB2
            clear hs he hB2
            generalize vals[k] = x at *
            go_wp2_with fail
            refine bodyPost_ret (v := .tuple #[.agg #[.int .i64 x.1, .string ⟨x.2.1.toArray⟩, .string ⟨x.2.2.toArray⟩], .bool true]) (by unfold results; rw [Tryz.results23]; go_simp) rfl ⟨ret_val (by rw [hB3.out]; rfl), ?_⟩
            exact ((hb0.setCell (p := ⟨w.heap.size, 0, none⟩) (Nat.le_refl _) _).setCell (p := ⟨w.heap.size, 1, none⟩) (Nat.le_refl _) _).setCell (p := ⟨w.heap.size, 2, none⟩) (Nat.le_refl _) _
        · have d : (vars[k] == s) = false := by simpa using he
          have hB3 : Hid (R = boundT (vars.drop (k + 1)) (vals.drop (k + 1)) s) := by rw [if_neg (fun h => he h.1)] at hB2; exact hB2
          clear he hB2
          go_wp2_with fail
          exact ⟨⟨k + 1, by omega, by go_num, hB3⟩, by simp [intOf]; omega⟩
      · have t2 : decide ((k : Int) < (vals.length : Int)) = false := by simp; omega
        have hB3 : Hid (R = none) := by have := hB.out; rw [bound_stop (fun h => l2 h.2)] at this; exact this
        clear hB
        go_wp2_with fail
        refine bodyPost_ret (v := .tuple #[.agg #[.int .i64 0, .string ⟨#[]⟩, .string ⟨#[]⟩], .bool false]) (by unfold results; rw [Tryz.results23]; go_simp) rfl ⟨ret_val (by rw [hB3.out]; rfl), ?_⟩
        exact ((hb0.setCell (p := ⟨w.heap.size, 0, none⟩) (Nat.le_refl _) _).setCell (p := ⟨w.heap.size, 1, none⟩) (Nat.le_refl _) _).setCell (p := ⟨w.heap.size, 2, none⟩) (Nat.le_refl _) _
    · have t1 : decide ((k : Int) < (vars.length : Int)) = false := by simp; omega
      have hB3 : Hid (R = none) := by have := hB.out; rw [bound_stop (fun h => l1 h.1)] at this; exact this
      clear hB
      go_wp2_with fail
      refine bodyPost_ret (v := .tuple #[.agg #[.int .i64 0, .string ⟨#[]⟩, .string ⟨#[]⟩], .bool false]) (by unfold results; rw [Tryz.results23]; go_simp) rfl ⟨ret_val (by rw [hB3.out]; rfl), ?_⟩
      exact ((hb0.setCell (p := ⟨w.heap.size, 0, none⟩) (Nat.le_refl _) _).setCell (p := ⟨w.heap.size, 1, none⟩) (Nat.le_refl _) _).setCell (p := ⟨w.heap.size, 2, none⟩) (Nat.le_refl _) _

/-! ### which of two rows is ahead -/
theorem less_drop {a b : List Tm} {k : Nat} (h1 : k < a.length) (h2 : k < b.length) : lessR (a.drop k) (b.drop k) = if cmpTm a[k] b[k] = 0 then lessR (a.drop (k + 1)) (b.drop (k + 1)) else decide (cmpTm a[k] b[k] < 0) := by
  rw [List.drop_eq_getElem_cons h1, List.drop_eq_getElem_cons h2, lessR]
set_option maxHeartbeats 4000000 in
set_option maxRecDepth 100000 in
theorem less_any (ad bd : Option Addr) (ac bc : Nat) (a b : List Tm) (w : World) (ha : SlQ w ad a) (hb : SlQ w bd b) (hl : a.length = b.length) (h1 : a.length ≤ 9223372036854775807) :
    Calls Tryz.prog 25 #[.slice ad a.length ac, .slice bd b.length bc] w fun e w' => e = .returned (.bool (lessR a b)) ∧ RowKit.Below w.heap.size w w' := by
  have Ha := hideQ ha
  have Hb := hideQ hb
  have Hl := hideQ hl
  clear ha hb hl
  generalize hR : lessR a b = R at *
  have HR := hideQ hR
  clear hR
  go_enter Tryz.func25, Tryz.ntmps25
  go_wp2_with fail
  go_loopw [5, 6] (fun i _ wr => ∃ k : Nat, k ≤ a.length ∧ i = .int .i64 k ∧ Hid (R = lessR (a.drop k) (b.drop k)) ∧ RowKit.Below w.heap.size w wr) (fun i _ wr => a.length - (intOf i).toNat)
  case atStart => exact ⟨0, Nat.zero_le _, rfl, HR.out.symm, RowKit.Below.refl _ _⟩
  case round =>
    obtain ⟨k, hk, rfl, hB, hbr⟩ := hrel
    by_cases l1 : k < a.length
    · have l2 : k < b.length := by have := Hl.out; omega
      have t1 : decide ((k : Int) < (a.length : Int)) = true := by simp; omega
      obtain ⟨x, o, rfl, d0, d1, d2⟩ := (Ha.out.below hbr).at k l1
      obtain ⟨x', o', rfl, e0, e1, e2⟩ := (Hb.out.below hbr).at k l2
      have i0 : (0 : Int) ≤ (k : Int) := by omega
      have i1 : (k : Int) < (a.length : Int) := by omega
      have i2 : (k : Int) < (b.length : Int) := by omega
      have hB2 := hB.out
      rw [less_drop l1 l2] at hB2
      have HC : ∀ W, Calls Tryz.prog 24 #[.agg #[.int .i64 a[k].1, .string ⟨a[k].2.1.toArray⟩, .string ⟨a[k].2.2.toArray⟩], .agg #[.int .i64 b[k].1, .string ⟨b[k].2.1.toArray⟩, .string ⟨b[k].2.2.toArray⟩]] W fun e w' => e = .returned (.int .i64 (cmpTm a[k] b[k])) ∧ RowKit.Below W.heap.size W w' := fun W => RCompare_any a[k].1 a[k].2.1 a[k].2.2 b[k].1 b[k].2.1 b[k].2.2 W
      have hne := lat_some wr
      have q0 := lat_cell d0
      have q1 := lat_cell d1
      have q2 := lat_cell d2
      have q3 := lat_cell e0
      have q4 := lat_cell e1
      have q5 := lat_cell e2
      clear hB d0 d1 d2 e0 e1 e2
      generalize a[k] = u at *
      generalize b[k] = v at *
      generalize cmpTm u v = c at *
      by_cases hc : c = 0
      · subst hc
        have hB3 : Hid (R = lessR (a.drop (k + 1)) (b.drop (k + 1))) := by rw [if_pos rfl] at hB2; exact hB2
        clear hB2
        go_wp2_with fail
        refine lat_region (by kernel_rfl) (by kernel_rfl) ?_
        repeat (go_big_quiet_step (fail))
        go_big_quiet_step (exact lat_call (HC _))
        repeat (go_big_quiet_step (fail))
        refine wpQuiet_nil ?_
        intro w3 hw'
        obtain ⟨nW, rfl⟩ := hw'
        have hb3 := nW.low
        generalize nW.val = w3 at *
        clear q0 q1 q2 q3 q4 q5 hne HC
        go_wp2_with fail
        go_roundw
        case rel => exact ⟨k + 1, by omega, by go_num, hB3, bstep hbr hb3⟩
        case measure => simp [intOf]; omega
      · have dc : (c != 0) = true := by simpa using hc
        have hB3 : Hid (R = decide (c < 0)) := by rw [if_neg hc] at hB2; exact hB2
        clear hB2 hc
        go_wp2_with fail
        refine lat_region (by kernel_rfl) (by kernel_rfl) ?_
        repeat (go_big_quiet_step (fail))
        go_big_quiet_step (exact lat_call (HC _))
        repeat (go_big_quiet_step (fail))
        refine wpQuiet_nil ?_
        intro w3 hw'
        obtain ⟨nW, rfl⟩ := hw'
        have hb3 := nW.low
        generalize nW.val = w3 at *
        clear q0 q1 q2 q3 q4 q5 hne HC
        go_wp2_with fail
        go_ret
        exact ⟨ret_bool hB3.out.symm, bstep hbr hb3⟩
    · have hB3 : Hid (R = false) := by
        have h9 := hB.out
        have e : a.drop k = [] := List.drop_eq_nil_of_le (by omega)
        rw [e] at h9
        exact h9.trans (by simp [lessR])
      clear hB
      go_wp2_with fail
      go_ret
      exact ⟨ret_bool hB3.out.symm, hbr⟩
end Go.Proofs.YtbacenhgedopjaaGreatDoor

/- The document's Bind (package strataref3). -/
namespace Go.Proofs.YtbacenhgedopjaaGreatDoor
open Go Go.RowKit Go.Proofs Go.Maps
set_option synthInstance.maxSize 1000

/-- a pattern's block; a term's cells -/
def blkP (W : World) (b : Nat) (p : Pt) : Prop := W.heap[b]? = some (.cells (encPt p).toArray 32)
structure TmAt (W : World) (b : Nat) (x : Tm) : Prop where
  c0 : W.cell? ⟨b, 0, none⟩ = some (.int .i64 x.1)
  c1 : W.cell? ⟨b, 1, none⟩ = some (.string ⟨x.2.1.toArray⟩)
  c2 : W.cell? ⟨b, 2, none⟩ = some (.string ⟨x.2.2.toArray⟩)
theorem TmAt.new (W : World) (x : Tm) : TmAt (W.alloc (.cells #[.int .i64 x.1, .string ⟨x.2.1.toArray⟩, .string ⟨x.2.2.toArray⟩] 28)) W.heap.size x := ⟨by go_simp, by go_simp, by go_simp⟩
theorem TmAt.below {W W' : World} {b : Nat} {x : Tm} (h : TmAt W b x) (hb : RowKit.Below W.heap.size W W') : TmAt W' b x := by
  obtain ⟨k, _⟩ := bcell hb
  have hg : b < W.heap.size := World.block_lt_of_cell? W _ h.c0
  exact ⟨(k _ _ hg).trans h.c0, (k _ _ hg).trans h.c1, (k _ _ hg).trans h.c2⟩
theorem cellB_other {W : World} {g o b : Nat} (v : Value) (h : b ≠ g) (j : Nat) : (W.setCell ⟨g, o, none⟩ v).cell? ⟨b, j, none⟩ = W.cell? ⟨b, j, none⟩ := by
  have hq := RowKit.Below.heap_setCell W ⟨g, o, none⟩ v b h
  simp only [World.cell?]
  rw [hq]
theorem TmAt.other {W : World} {g o b : Nat} {x : Tm} (h : TmAt W b x) (v : Value) (hn : b ≠ g) : TmAt (W.setCell ⟨g, o, none⟩ v) b x := ⟨(cellB_other v hn _).trans h.c0, (cellB_other v hn _).trans h.c1, (cellB_other v hn _).trans h.c2⟩
theorem blkP_other {W : World} {g o b : Nat} {p : Pt} (h : blkP W b p) (v : Value) (hn : b ≠ g) : blkP (W.setCell ⟨g, o, none⟩ v) b p := (RowKit.Below.heap_setCell W ⟨g, o, none⟩ v b hn).trans h
theorem blkP_below {W W' : World} {b : Nat} {p : Pt} (h : blkP W b p) (hb : RowKit.Below W.heap.size W W') : blkP W' b p := (hb.block b (Array.getElem?_eq_some_iff.1 h).1).trans h
theorem blk_set {W : World} {b o : Nat} {cs : Array Value} {T : TypeId} {v : Value} (h : W.heap[b]? = some (.cells cs T)) : (W.setCell ⟨b, o, none⟩ v).heap[b]? = some (.cells (cs.setIfInBounds o v) T) := by
  simp only [World.setCell]
  rw [Array.getElem?_modify, if_pos rfl, h]
  rfl
/-- where Bind stands: the pattern's box, the answer's box, three terms -/
structure BSt (w W : World) (p : Pt) (t1 t2 t3 : Nat) (x1 x2 x3 : Tm) : Prop where
  bel : RowKit.Below w.heap.size w W
  box : blkP W w.heap.size p
  res : blkP W (w.heap.size + 1) patZero
  a1 : TmAt W t1 x1
  a2 : TmAt W t2 x2
  a3 : TmAt W t3 x3
  n1 : t1 ≠ w.heap.size
  n2 : t2 ≠ w.heap.size
  n3 : t3 ≠ w.heap.size
def four (W : World) (b k : Nat) (s : Sl) : World := (((W.setCell ⟨b, k, none⟩ (.string ⟨s.1.toArray⟩)).setCell ⟨b, k + 1, none⟩ (.int .i64 s.2.1)).setCell ⟨b, k + 2, none⟩ (.string ⟨s.2.2.1.toArray⟩)).setCell ⟨b, k + 3, none⟩ (.string ⟨s.2.2.2.toArray⟩)
def putS (p : Pt) (f : Nat) (s : Sl) : Pt := if f = 0 then (s, p.2.1, p.2.2) else if f = 1 then (p.1, s, p.2.2) else (p.1, p.2.1, s)
theorem BSt.put {w W : World} {p : Pt} {t1 t2 t3 : Nat} {x1 x2 x3 : Tm} (h : BSt w W p t1 t2 t3 x1 x2 x3) (f : Nat) (hf : f < 3) (s : Sl) : BSt w (four W w.heap.size (4 * f) s) (putS p f s) t1 t2 t3 x1 x2 x3 := by
  have hn : w.heap.size + 1 ≠ w.heap.size := by omega
  refine ⟨(((h.bel.setCell (p := ⟨w.heap.size, _, none⟩) (Nat.le_refl _) _).setCell (p := ⟨w.heap.size, _, none⟩) (Nat.le_refl _) _).setCell (p := ⟨w.heap.size, _, none⟩) (Nat.le_refl _) _).setCell (p := ⟨w.heap.size, _, none⟩) (Nat.le_refl _) _, ?_, blkP_other (blkP_other (blkP_other (blkP_other h.res _ hn) _ hn) _ hn) _ hn, (((h.a1.other _ h.n1).other _ h.n1).other _ h.n1).other _ h.n1, (((h.a2.other _ h.n2).other _ h.n2).other _ h.n2).other _ h.n2, (((h.a3.other _ h.n3).other _ h.n3).other _ h.n3).other _ h.n3, h.n1, h.n2, h.n3⟩
  unfold blkP four
  rw [blk_set (blk_set (blk_set (blk_set h.box)))]
  rcases (by omega : f = 0 ∨ f = 1 ∨ f = 2) with rfl | rfl | rfl <;> rfl
theorem blkP_cells {W : World} {b : Nat} {p : Pt} (h : blkP W b p) : ∀ j v, (encPt p)[j]? = some v → W.cell? ⟨b, j, none⟩ = some v ∧ W.frozen? ⟨b, j, none⟩ = false := fun j v hv => by
  unfold blkP at h
  have hj : j < 12 := (List.getElem?_eq_some_iff.1 hv).1
  refine ⟨?_, ?_⟩
  · simp only [World.cell?, h]
    simpa using hv
  · simp [World.frozen?, h]

set_option maxHeartbeats 8000000 in
set_option maxRecDepth 100000 in
theorem Bind_any (vd td : Option Addr) (vc tc : Nat) (vars : List (List UInt8)) (vals : List Tm) (p : Pt) (w : World) (hv : SlW w vd vars) (ht : SlQ w td vals) (h1 : vars.length ≤ 9223372036854775807) :
    Calls Tryz.prog 14 #[valPt p, .slice vd vars.length vc, .slice td vals.length tc] w fun e w' => e = .returned (valPt (bindP vars vals p)) ∧ RowKit.Below w.heap.size w w' := by
  have HB : ∀ s W, RowKit.Below w.heap.size w W → Calls Tryz.prog 23 #[.slice vd vars.length vc, .slice td vals.length tc, .string ⟨s.toArray⟩] W fun e w' => e = .returned (.tuple #[.agg #[.int .i64 ((boundT vars vals s).getD tmZero).1, .string ⟨((boundT vars vals s).getD tmZero).2.1.toArray⟩, .string ⟨((boundT vars vals s).getD tmZero).2.2.toArray⟩], .bool (boundT vars vals s).isSome]) ∧ RowKit.Below W.heap.size W w' := fun s W hW => Bound_any vd td vc tc vars vals s W (hv.below hW) (ht.below hW) h1
  have B1 := hideQ (rfl : bindS vars vals p.1 = bindS vars vals p.1)
  obtain ⟨W0, hW0⟩ : ∃ W0, W0 = (w.alloc (.cells #[.string ⟨p.1.1.toArray⟩, .int .i64 p.1.2.1, .string ⟨p.1.2.2.1.toArray⟩, .string ⟨p.1.2.2.2.toArray⟩, .string ⟨p.2.1.1.toArray⟩, .int .i64 p.2.1.2.1, .string ⟨p.2.1.2.2.1.toArray⟩, .string ⟨p.2.1.2.2.2.toArray⟩, .string ⟨p.2.2.1.toArray⟩, .int .i64 p.2.2.2.1, .string ⟨p.2.2.2.2.1.toArray⟩, .string ⟨p.2.2.2.2.2.toArray⟩] 32)).alloc (.cells #[.string ⟨#[]⟩, .int .i64 0, .string ⟨#[]⟩, .string ⟨#[]⟩, .string ⟨#[]⟩, .int .i64 0, .string ⟨#[]⟩, .string ⟨#[]⟩, .string ⟨#[]⟩, .int .i64 0, .string ⟨#[]⟩, .string ⟨#[]⟩] 32) := ⟨_, rfl⟩
  have hb0 : RowKit.Below w.heap.size w W0 := by rw [hW0]; exact bstep (balloc _ _) (balloc _ _)
  have K0 : Hid (blkP W0 w.heap.size p ∧ blkP W0 (w.heap.size + 1) patZero ∧ RowKit.Below w.heap.size w W0) := by
    refine ⟨?_, ?_, hb0⟩
    · rw [hW0]
      show ((w.heap.push _).push _)[w.heap.size]? = _
      rw [Array.getElem?_push, if_neg (by simp), Array.getElem?_push, if_pos rfl]
      rfl
    · rw [hW0]
      show ((w.heap.push _).push _)[w.heap.size + 1]? = _
      rw [Array.getElem?_push, if_pos (by simp)]
      rfl
  have HW0 := hideQ hW0
  clear hW0 hv ht B1
  unfold valPt
  go_enter Tryz.func14, Tryz.ntmps14
  go_upto_region 1 with fail
  rw [← HW0.out]
  clear HW0 hb0
  obtain ⟨y0, _⟩ := blkP_cells K0.out.1 0 _ rfl
  have z0 := World.block_lt_of_cell? _ _ y0
  have C0 := HB p.1.1 W0 K0.out.2.2
  generalize hx0 : boundT vars vals p.1.1 = R0 at C0
  have E0 : Hid (bindS vars vals p.1 = if R0.isSome = true then ([], R0.getD tmZero) else p.1) := by
    show _ = _
    unfold bindS
    rw [hx0]
    cases R0 <;> rfl
  generalize R0.getD tmZero = x1 at C0 E0
  generalize R0.isSome = b0 at C0 E0
  clear hx0
  go_wp2_with fail
  refine C0.mono ?_
  rintro e w1 ⟨rfl, hb1⟩
  dsimp only
  go_upto_region 2 with fail
  have A0 := hideQ (TmAt.new w1 x1)
  have kb0 := bstep hb1 (balloc w1 (.cells #[.int .i64 x1.1, .string ⟨x1.2.1.toArray⟩, .string ⟨x1.2.2.toArray⟩] 28))
  have n0 : w1.heap.size ≠ w.heap.size := by have := hb1.size; have := z0; omega
  have K1 : Hid (blkP _ w.heap.size p ∧ blkP _ (w.heap.size + 1) patZero ∧ RowKit.Below w.heap.size w _) := ⟨blkP_below K0.out.1 kb0, blkP_below K0.out.2.1 kb0, bstep K0.out.2.2 kb0⟩
  generalize w1.alloc (.cells #[.int .i64 x1.1, .string ⟨x1.2.1.toArray⟩, .string ⟨x1.2.2.toArray⟩] 28) = V1 at *
  clear C0 K0 y0 z0 hb1 kb0
  obtain ⟨y1, _⟩ := blkP_cells K1.out.1 4 _ rfl
  have z1 := World.block_lt_of_cell? _ _ y1
  have C1 := HB p.2.1.1 V1 K1.out.2.2
  generalize hx1 : boundT vars vals p.2.1.1 = R1 at C1
  have E1 : Hid (bindS vars vals p.2.1 = if R1.isSome = true then ([], R1.getD tmZero) else p.2.1) := by
    show _ = _
    unfold bindS
    rw [hx1]
    cases R1 <;> rfl
  generalize R1.getD tmZero = x2 at C1 E1
  generalize R1.isSome = b1 at C1 E1
  clear hx1
  go_wp2_with fail
  refine C1.mono ?_
  rintro e w2 ⟨rfl, hb2⟩
  dsimp only
  go_upto_region 3 with fail
  have A1 := hideQ (TmAt.new w2 x2)
  have kb1 := bstep hb2 (balloc w2 (.cells #[.int .i64 x2.1, .string ⟨x2.2.1.toArray⟩, .string ⟨x2.2.2.toArray⟩] 28))
  have n1 : w2.heap.size ≠ w.heap.size := by have := hb2.size; have := z1; omega
  have A0 := hideQ (A0.out.below kb1)
  have K2 : Hid (blkP _ w.heap.size p ∧ blkP _ (w.heap.size + 1) patZero ∧ RowKit.Below w.heap.size w _) := ⟨blkP_below K1.out.1 kb1, blkP_below K1.out.2.1 kb1, bstep K1.out.2.2 kb1⟩
  generalize w2.alloc (.cells #[.int .i64 x2.1, .string ⟨x2.2.1.toArray⟩, .string ⟨x2.2.2.toArray⟩] 28) = V2 at *
  clear C1 K1 y1 z1 hb2 kb1
  obtain ⟨y2, _⟩ := blkP_cells K2.out.1 8 _ rfl
  have z2 := World.block_lt_of_cell? _ _ y2
  have C2 := HB p.2.2.1 V2 K2.out.2.2
  generalize hx2 : boundT vars vals p.2.2.1 = R2 at C2
  have E2 : Hid (bindS vars vals p.2.2 = if R2.isSome = true then ([], R2.getD tmZero) else p.2.2) := by
    show _ = _
    unfold bindS
    rw [hx2]
    cases R2 <;> rfl
  generalize R2.getD tmZero = x3 at C2 E2
  generalize R2.isSome = b2 at C2 E2
  clear hx2
  go_wp2_with fail
  refine C2.mono ?_
  rintro e w3 ⟨rfl, hb3⟩
  dsimp only
  go_upto_region 4 with fail
  have A2 := hideQ (TmAt.new w3 x3)
  have kb2 := bstep hb3 (balloc w3 (.cells #[.int .i64 x3.1, .string ⟨x3.2.1.toArray⟩, .string ⟨x3.2.2.toArray⟩] 28))
  have n2 : w3.heap.size ≠ w.heap.size := by have := hb3.size; have := z2; omega
  have A0 := hideQ (A0.out.below kb2)
  have A1 := hideQ (A1.out.below kb2)
  have K3 : Hid (blkP _ w.heap.size p ∧ blkP _ (w.heap.size + 1) patZero ∧ RowKit.Below w.heap.size w _) := ⟨blkP_below K2.out.1 kb2, blkP_below K2.out.2.1 kb2, bstep K2.out.2.2 kb2⟩
  generalize w3.alloc (.cells #[.int .i64 x3.1, .string ⟨x3.2.1.toArray⟩, .string ⟨x3.2.2.toArray⟩] 28) = V3 at *
  clear C2 K2 y2 z2 hb3 kb2
  have T0 : Hid (BSt w V3 p w1.heap.size w2.heap.size w3.heap.size x1 x2 x3) := ⟨K3.out.2.2, K3.out.1, K3.out.2.1, A0.out, A1.out, A2.out, n0, n1, n2⟩
  clear K3 A0 A1 A2 HB
  have fin : Hid (bindP vars vals p = (bindS vars vals p.1, bindS vars vals p.2.1, bindS vars vals p.2.2)) := rfl
  generalize bindS vars vals p.1 = s1 at *
  generalize bindS vars vals p.2.1 = s2 at *
  generalize bindS vars vals p.2.2 = s3 at *
  go_upto_if 40 with fail
  go_cut [] from 40 to 43 (fun W' => Hid (BSt w W' (s1, p.2.1, p.2.2) w1.heap.size w2.heap.size w3.heap.size x1 x2 x3))
  case first =>
    have E := hideQ E0.out
    cases b0
    · have e9 : Hid (s1 = p.1) := E.out
      go_wp2_with fail
      go_meet
      case rel => rw [e9.out]; exact T0
    · have e9 : Hid (s1 = ([], x1)) := E.out
      obtain ⟨t0, t1, t2⟩ := T0.out.a1
      obtain ⟨g0, h0⟩ := blkP_cells T0.out.box 0 _ rfl
      obtain ⟨g1, h1⟩ := blkP_cells T0.out.box 1 _ rfl
      obtain ⟨g2, h2⟩ := blkP_cells T0.out.box 2 _ rfl
      obtain ⟨g3, h3⟩ := blkP_cells T0.out.box 3 _ rfl
      have zt := World.block_lt_of_cell? _ _ t0
      have zg := World.block_lt_of_cell? _ _ g0
      go_wp2_with fail
      go_meet
      case rel => rw [e9.out]; exact T0.out.put 0 (by omega) ([], x1)
  case rest =>
    have T1 := hcut
    clear T0 E0
    go_upto_if 44 with fail
    go_cut [] from 44 to 47 (fun W' => Hid (BSt w W' (s1, s2, p.2.2) w1.heap.size w2.heap.size w3.heap.size x1 x2 x3))
    case first =>
      have E := hideQ E1.out
      cases b1
      · have e9 : Hid (s2 = p.2.1) := E.out
        go_wp2_with fail
        go_meet
        case rel => rw [e9.out]; exact T1
      · have e9 : Hid (s2 = ([], x2)) := E.out
        obtain ⟨t0, t1, t2⟩ := T1.out.a2
        obtain ⟨g0, h0⟩ := blkP_cells T1.out.box 4 _ rfl
        obtain ⟨g1, h1⟩ := blkP_cells T1.out.box 5 _ rfl
        obtain ⟨g2, h2⟩ := blkP_cells T1.out.box 6 _ rfl
        obtain ⟨g3, h3⟩ := blkP_cells T1.out.box 7 _ rfl
        have zt := World.block_lt_of_cell? _ _ t0
        have zg := World.block_lt_of_cell? _ _ g0
        go_wp2_with fail
        go_meet
        case rel => rw [e9.out]; exact T1.out.put 1 (by omega) ([], x2)
    case rest =>
      have T2 := hcut
      clear T1 E1
      go_upto_if 48 with fail
      go_cut [] from 48 to 51 (fun W' => Hid (BSt w W' (s1, s2, s3) w1.heap.size w2.heap.size w3.heap.size x1 x2 x3))
      case first =>
        have E := hideQ E2.out
        cases b2
        · have e9 : Hid (s3 = p.2.2) := E.out
          go_wp2_with fail
          go_meet
          case rel => rw [e9.out]; exact T2
        · have e9 : Hid (s3 = ([], x3)) := E.out
          obtain ⟨t0, t1, t2⟩ := T2.out.a3
          obtain ⟨g0, h0⟩ := blkP_cells T2.out.box 8 _ rfl
          obtain ⟨g1, h1⟩ := blkP_cells T2.out.box 9 _ rfl
          obtain ⟨g2, h2⟩ := blkP_cells T2.out.box 10 _ rfl
          obtain ⟨g3, h3⟩ := blkP_cells T2.out.box 11 _ rfl
          have zt := World.block_lt_of_cell? _ _ t0
          have zg := World.block_lt_of_cell? _ _ g0
          go_wp2_with fail
          go_meet
          case rel => rw [e9.out]; exact T2.out.put 2 (by omega) ([], x3)
      case rest =>
        have T3 := hcut
        clear T2 E2
        obtain ⟨m0, mf0⟩ := blkP_cells T3.out.box 0 _ rfl
        obtain ⟨m1, mf1⟩ := blkP_cells T3.out.box 1 _ rfl
        obtain ⟨m2, mf2⟩ := blkP_cells T3.out.box 2 _ rfl
        obtain ⟨m3, mf3⟩ := blkP_cells T3.out.box 3 _ rfl
        obtain ⟨m4, mf4⟩ := blkP_cells T3.out.box 4 _ rfl
        obtain ⟨m5, mf5⟩ := blkP_cells T3.out.box 5 _ rfl
        obtain ⟨m6, mf6⟩ := blkP_cells T3.out.box 6 _ rfl
        obtain ⟨m7, mf7⟩ := blkP_cells T3.out.box 7 _ rfl
        obtain ⟨m8, mf8⟩ := blkP_cells T3.out.box 8 _ rfl
        obtain ⟨m9, mf9⟩ := blkP_cells T3.out.box 9 _ rfl
        obtain ⟨m10, mf10⟩ := blkP_cells T3.out.box 10 _ rfl
        obtain ⟨m11, mf11⟩ := blkP_cells T3.out.box 11 _ rfl
        obtain ⟨r0, rf0⟩ := blkP_cells T3.out.res 0 _ rfl
        obtain ⟨r1, rf1⟩ := blkP_cells T3.out.res 1 _ rfl
        obtain ⟨r2, rf2⟩ := blkP_cells T3.out.res 2 _ rfl
        obtain ⟨r3, rf3⟩ := blkP_cells T3.out.res 3 _ rfl
        obtain ⟨r4, rf4⟩ := blkP_cells T3.out.res 4 _ rfl
        obtain ⟨r5, rf5⟩ := blkP_cells T3.out.res 5 _ rfl
        obtain ⟨r6, rf6⟩ := blkP_cells T3.out.res 6 _ rfl
        obtain ⟨r7, rf7⟩ := blkP_cells T3.out.res 7 _ rfl
        obtain ⟨r8, rf8⟩ := blkP_cells T3.out.res 8 _ rfl
        obtain ⟨r9, rf9⟩ := blkP_cells T3.out.res 9 _ rfl
        obtain ⟨r10, rf10⟩ := blkP_cells T3.out.res 10 _ rfl
        obtain ⟨r11, rf11⟩ := blkP_cells T3.out.res 11 _ rfl
        have zm := World.block_lt_of_cell? _ _ m0
        have zr := World.block_lt_of_cell? _ _ r0
        have hbz := T3.out.bel
        go_wp2_with fail
        refine bodyPost_ret (v := .agg #[.string ⟨s1.1.toArray⟩, .int .i64 s1.2.1, .string ⟨s1.2.2.1.toArray⟩, .string ⟨s1.2.2.2.toArray⟩, .string ⟨s2.1.toArray⟩, .int .i64 s2.2.1, .string ⟨s2.2.2.1.toArray⟩, .string ⟨s2.2.2.2.toArray⟩, .string ⟨s3.1.toArray⟩, .int .i64 s3.2.1, .string ⟨s3.2.2.1.toArray⟩, .string ⟨s3.2.2.2.toArray⟩]) (by unfold results; rw [Tryz.results14]; go_simp) rfl ⟨ret_val (by rw [fin.out]), ?_⟩
        exact ((((((((((((hbz.setCell (p := ⟨w.heap.size + 1, 0, none⟩) (Nat.le_succ _) _).setCell (p := ⟨w.heap.size + 1, 1, none⟩) (Nat.le_succ _) _).setCell (p := ⟨w.heap.size + 1, 2, none⟩) (Nat.le_succ _) _).setCell (p := ⟨w.heap.size + 1, 3, none⟩) (Nat.le_succ _) _).setCell (p := ⟨w.heap.size + 1, 4, none⟩) (Nat.le_succ _) _).setCell (p := ⟨w.heap.size + 1, 5, none⟩) (Nat.le_succ _) _).setCell (p := ⟨w.heap.size + 1, 6, none⟩) (Nat.le_succ _) _).setCell (p := ⟨w.heap.size + 1, 7, none⟩) (Nat.le_succ _) _).setCell (p := ⟨w.heap.size + 1, 8, none⟩) (Nat.le_succ _) _).setCell (p := ⟨w.heap.size + 1, 9, none⟩) (Nat.le_succ _) _).setCell (p := ⟨w.heap.size + 1, 10, none⟩) (Nat.le_succ _) _).setCell (p := ⟨w.heap.size + 1, 11, none⟩) (Nat.le_succ _) _)
end Go.Proofs.YtbacenhgedopjaaGreatDoor

/- The document's Fits: has a triple what a pattern asks? -/
namespace Go.Proofs.YtbacenhgedopjaaGreatDoor
open Go Go.RowKit Go.Proofs Go.Maps
set_option synthInstance.maxSize 1000

/-! ### slot by slot, and each against those ahead -/
def pairB (p : Pt) (t : Tr) (i k : Nat) : Bool := if (slotK p i).1 = [] then true else if (slotK p k).1 = (slotK p i).1 then decide (termK t k = termK t i) else true
def inB (p : Pt) (t : Tr) (i : Nat) : Nat → Bool
  | 0 => true
  | k + 1 => inB p t i k && pairB p t i k
def headB (p : Pt) (t : Tr) (i : Nat) : Bool := if (slotK p i).1 = [] then decide ((slotK p i).2 = termK t i) else true
def okB (p : Pt) (t : Tr) (i : Nat) : Bool := headB p t i && inB p t i i
def restR (p : Pt) (t : Tr) (i : Nat) : Bool := if i = 0 then okB p t 0 && (okB p t 1 && okB p t 2) else if i = 1 then okB p t 1 && okB p t 2 else if i = 2 then okB p t 2 else true
theorem restR_step (p : Pt) (t : Tr) (i : Nat) (hi : i < 3) : restR p t i = (okB p t i && restR p t (i + 1)) := by
  rcases (by omega : i = 0 ∨ i = 1 ∨ i = 2) with rfl | rfl | rfl <;> simp [restR]
theorem inB_false {p : Pt} {t : Tr} {i k n : Nat} (h : inB p t i k = true → False ∨ pairB p t i k = false) (hk : k < n) : inB p t i n = false := by
  induction n with
  | zero => omega
  | succ m ih =>
    unfold inB
    by_cases e : k = m
    · subst e
      cases hb : inB p t i k
      · rfl
      · rcases h hb with h | h
        · exact h.elim
        · rw [h]; rfl
    · rw [ih (by omega)]; rfl

theorem fits_ref (p : Pt) (t : Tr) : restR p t 0 = fitsB p t := by
  obtain ⟨⟨v0, a0⟩, ⟨v1, a1⟩, ⟨v2, a2⟩⟩ := p
  obtain ⟨x0, x1, x2⟩ := t
  rw [Bool.eq_iff_iff]
  simp [restR, okB, headB, inB, pairB, slotK, termK, fitsB]
  grind

/-- seven, and eight, cells behind a call that lays blocks -/
theorem keep7 {W W' : World} {p0 p1 p2 p3 p4 p5 p6 : Addr} {v0 v1 v2 v3 v4 v5 v6 : Value}
    (h : W.cell? p0 = some v0 ∧ W.cell? p1 = some v1 ∧ W.cell? p2 = some v2 ∧ W.cell? p3 = some v3 ∧ W.cell? p4 = some v4 ∧ W.cell? p5 = some v5 ∧ W.cell? p6 = some v6) (hb : Below W.heap.size W W') :
    W'.cell? p0 = some v0 ∧ W'.cell? p1 = some v1 ∧ W'.cell? p2 = some v2 ∧ W'.cell? p3 = some v3 ∧ W'.cell? p4 = some v4 ∧ W'.cell? p5 = some v5 ∧ W'.cell? p6 = some v6 := by
  have q : ∀ {p : Addr} {v : Value}, W.cell? p = some v → W'.cell? p = some v := fun {p v} hp => (hb.cell (World.block_lt_of_cell? W _ hp)).trans hp
  exact ⟨q h.1, q h.2.1, q h.2.2.1, q h.2.2.2.1, q h.2.2.2.2.1, q h.2.2.2.2.2.1, q h.2.2.2.2.2.2⟩
theorem keep8 {W W' : World} {p0 p1 p2 p3 p4 p5 p6 p7 : Addr} {v0 v1 v2 v3 v4 v5 v6 v7 : Value}
    (h : W.cell? p0 = some v0 ∧ W.cell? p1 = some v1 ∧ W.cell? p2 = some v2 ∧ W.cell? p3 = some v3 ∧ W.cell? p4 = some v4 ∧ W.cell? p5 = some v5 ∧ W.cell? p6 = some v6 ∧ W.cell? p7 = some v7) (hb : Below W.heap.size W W') :
    W'.cell? p0 = some v0 ∧ W'.cell? p1 = some v1 ∧ W'.cell? p2 = some v2 ∧ W'.cell? p3 = some v3 ∧ W'.cell? p4 = some v4 ∧ W'.cell? p5 = some v5 ∧ W'.cell? p6 = some v6 ∧ W'.cell? p7 = some v7 := by
  have q : ∀ {p : Addr} {v : Value}, W.cell? p = some v → W'.cell? p = some v := fun {p v} hp => (hb.cell (World.block_lt_of_cell? W _ hp)).trans hp
  exact ⟨q h.1, q h.2.1, q h.2.2.1, q h.2.2.2.1, q h.2.2.2.2.1, q h.2.2.2.2.2.1, q h.2.2.2.2.2.2.1, q h.2.2.2.2.2.2.2⟩
theorem TripAt.at {w : World} {b : Nat} {t : Tr} (h : TripAt w b t) (k : Nat) (hk : k < 3) :
    w.cell? ⟨b, k * 3, none⟩ = some (.int .i64 (termK t k).1) ∧ w.cell? ⟨b, k * 3 + 1, none⟩ = some (.string ⟨(termK t k).2.1.toArray⟩) ∧ w.cell? ⟨b, k * 3 + 2, none⟩ = some (.string ⟨(termK t k).2.2.toArray⟩) := by
  rcases (by omega : k = 0 ∨ k = 1 ∨ k = 2) with rfl | rfl | rfl
  all_goals exact ⟨h _ _ rfl, h _ _ rfl, h _ _ rfl⟩
theorem TripAt.lt {w : World} {b : Nat} {t : Tr} (h : TripAt w b t) : b < w.heap.size := World.block_lt_of_cell? w _ (h 0 _ rfl)

theorem eqlEmF (v : List UInt8) (h : v.isEmpty = false) (w : World) : (binOp .eql 9 (.string ⟨v.toArray⟩) (.string ⟨#[]⟩)).run Tryz.prog w = .ok (.bool false) w := by rw [eqlEmpty, h]
theorem neqEmT (v : List UInt8) (h : v.isEmpty = false) (w : World) : (binOp .neq 9 (.string ⟨v.toArray⟩) (.string ⟨#[]⟩)).run Tryz.prog w = .ok (.bool true) w := by rw [neqEmpty, h]; rfl
theorem eqlSelfS (v : List UInt8) (w : World) : (binOp .eql 9 (.string ⟨v.toArray⟩) (.string ⟨v.toArray⟩)).run Tryz.prog w = .ok (.bool true) w := by rw [eqlStr]; simp
theorem eqlOtherS (a b : List UInt8) (h : (a == b) = false) (w : World) : (binOp .eql 9 (.string ⟨a.toArray⟩) (.string ⟨b.toArray⟩)).run Tryz.prog w = .ok (.bool false) w := by rw [eqlStr]; simp at h; simp [h]

theorem bnot_of {c d : Bool} (h : c = !d) (hc : c = true) : d = false := by cases d <;> simp_all

attribute [local go_sem ↓] eqlEmF neqEmT eqlSelfS eqlOtherS

set_option maxHeartbeats 8000000 in
set_option maxRecDepth 100000 in
theorem RFits_any (t : Tr) (p : Pt) (w : World) :
    Calls Tryz.prog 42 #[valTr t, valPt p] w fun e w' => e = .returned (.bool (fitsB p t)) ∧ Below w.heap.size w w' := by
  have HS := RSlots_any p
  have HT := RThree_any t
  have fin : Hid (fitsB p t = restR p t 0) := (fits_ref p t).symm
  generalize fitsB p t = ans at *
  have HPB : Hid (∀ T, PatAt ((w.alloc (.cells (encTr t).toArray T)).alloc (.cells (encPt p).toArray 32)) (w.heap.size + 1) p) := fun T => by
    have := patBox (w.alloc (.cells (encTr t).toArray T)) p 32
    simpa using this
  have HTB : Hid (TripAt (w.alloc (.cells (encTr t).toArray 58)) w.heap.size t) := tripBox w t 58
  unfold valPt at HS ⊢
  unfold valTr at HT ⊢
  go_enter Tryz.func42, Tryz.ntmps42
  go_wp2_with fail
  refine (HS _).mono ?_
  rintro e w1 ⟨bs, rfl, hps, hb1⟩
  have hB1 := bstep (bstep (balloc _ _) (balloc _ _)) hb1
  obtain ⟨t0, t1, t2, t3, t4, t5, t6, t7, t8⟩ := ((HTB.out.below (balloc _ _)).below hb1).all
  go_wp2_with fail
  refine (HT _).mono ?_
  rintro e w2 ⟨bx, rfl, htx, hb2⟩
  have Hps : Hid (PatAt w2 bs p) := hps.below hb2
  have Htx : Hid (TripAt w2 bx t) := htx
  have hB2 := bstep hB1 hb2
  clear t0 t1 t2 t3 t4 t5 t6 t7 t8 hps htx hb1 hb2 hB1 HS HT HPB HTB
  go_wp2_with fail
  go_loopw [7] (fun i wr => ∃ k : Nat, k ≤ 3 ∧ i = .int .i64 k ∧ Hid (ans = restR p t k) ∧ Below w2.heap.size w2 wr) (fun i wr => 3 - (intOf i).toNat)
  case atStart => exact ⟨0, by omega, rfl, fin.out, Below.refl _ _⟩
  case round =>
    obtain ⟨i, hi, rfl, hrest, hbr⟩ := hrel
    by_cases hlt : i < 3
    · have hst : Hid _ := restR_step p t i hlt
      have hok : Hid (okB p t i = (headB p t i && inB p t i i)) := rfl
      have hhd : Hid (headB p t i = if (slotK p i).1 = [] then decide ((slotK p i).2 = termK t i) else true) := rfl
      have i1 : (i : Int) < 3 := by omega
      have i0 : (0 : Int) ≤ (i : Int) := by omega
      have hps := Hps.out.below hbr
      have htx := Htx.out.below hbr
      obtain ⟨c0, c1, c2, c3⟩ := hps.at i hlt
      obtain ⟨x0, x1, x2⟩ := htx.at i hlt
      have HC := fun W => RCompare_any (slotK p i).2.1 (slotK p i).2.2.1 (slotK p i).2.2.2 (termK t i).1 (termK t i).2.1 (termK t i).2.2 W
      have hcz : Hid ((cmpT (slotK p i).2.1 (slotK p i).2.2.1 (slotK p i).2.2.2 (termK t i).1 (termK t i).2.1 (termK t i).2.2 != 0) = !decide ((slotK p i).2 = termK t i)) := by
        show _ = _
        rw [← eqTB_tm, ← cmp_eq]
        rfl
      clear hps htx
      generalize cmpT (slotK p i).2.1 (slotK p i).2.2.1 (slotK p i).2.2.2 (termK t i).1 (termK t i).2.1 (termK t i).2.2 = c at *
      have hsl : Hid (∃ s : Sl, s = slotK p i) := ⟨_, rfl⟩
      obtain ⟨⟨v, kk, S, L⟩, hs⟩ := hsl.out
      have hx' : Hid (∃ x : Tm, x = termK t i) := ⟨_, rfl⟩
      obtain ⟨⟨xk, xS, xL⟩, hx⟩ := hx'.out
      rw [← hs] at c0 c1 c2 c3 HC hcz hhd
      rw [← hx] at x0 x1 x2 HC hcz hhd
      dsimp only at c0 c1 c2 c3 x0 x1 x2 HC hcz hhd
      have c4 : wr.cell? ⟨bs, i * 4 + 1 + 1, none⟩ = some (.string ⟨S.toArray⟩) := c2
      have c5 : wr.cell? ⟨bs, i * 4 + 1 + 2, none⟩ = some (.string ⟨L.toArray⟩) := c3
      have Hs : Hid ((v, kk, S, L) = slotK p i) := hs
      have Hx : Hid ((xk, xS, xL) = termK t i) := hx
      clear hsl hx' hs hx
      go_upto_region 6 with fail
      go_cut [35] from 17 to 35 (fun u W' => ∃ b, u = .bool b ∧ Hid (b = !headB p t i) ∧ Below w2.heap.size w2 W')
      case first =>
        cases hve : v.isEmpty
        · have hhd2 : Hid (headB p t i = true) := by show _ = _; rw [hhd.out]; exact if_neg (by intro e; rw [e] at hve; cases hve)
          go_region
          go_wp2_with fail
          go_meet
          case rel => exact ⟨_, rfl, by show _ = _; rw [hhd2.out]; rfl, hbr.drew⟩
        · obtain rfl : v = [] := by simpa using hve
          have hhd2 : Hid (headB p t i = decide ((kk, S, L) = (xk, xS, xL))) := hhd.out
          cases hcc : (c != 0)
          · go_region_held3 (fun W => W.cell? ⟨bs, i * 4, none⟩ = some (.string ⟨#[]⟩) ∧ W.cell? ⟨bs, i * 4 + 1, none⟩ = some (.int .i64 kk) ∧ W.cell? ⟨bs, i * 4 + 1 + 1, none⟩ = some (.string ⟨S.toArray⟩) ∧ W.cell? ⟨bs, i * 4 + 1 + 2, none⟩ = some (.string ⟨L.toArray⟩) ∧ W.cell? ⟨bx, i * 3, none⟩ = some (.int .i64 xk) ∧ W.cell? ⟨bx, i * 3 + 1, none⟩ = some (.string ⟨xS.toArray⟩) ∧ W.cell? ⟨bx, i * 3 + 2, none⟩ = some (.string ⟨xL.toArray⟩)) (first | exact keep7 (by assumption) hb3 | go_keep) (first
            | (go_at_call 24; refine (HC _).mono ?_; rintro e w3 ⟨rfl, hb3⟩))
            go_wp2_with fail
            go_meet
            case rel => exact ⟨_, rfl, by show _ = _; rw [hhd2.out, ← hcz.out, hcc], bstep hbr.drew hb3⟩
          · go_region_held3 (fun W => W.cell? ⟨bs, i * 4, none⟩ = some (.string ⟨#[]⟩) ∧ W.cell? ⟨bs, i * 4 + 1, none⟩ = some (.int .i64 kk) ∧ W.cell? ⟨bs, i * 4 + 1 + 1, none⟩ = some (.string ⟨S.toArray⟩) ∧ W.cell? ⟨bs, i * 4 + 1 + 2, none⟩ = some (.string ⟨L.toArray⟩) ∧ W.cell? ⟨bx, i * 3, none⟩ = some (.int .i64 xk) ∧ W.cell? ⟨bx, i * 3 + 1, none⟩ = some (.string ⟨xS.toArray⟩) ∧ W.cell? ⟨bx, i * 3 + 2, none⟩ = some (.string ⟨xL.toArray⟩)) (first | exact keep7 (by assumption) hb3 | go_keep) (first
            | (go_at_call 24; refine (HC _).mono ?_; rintro e w3 ⟨rfl, hb3⟩))
            go_wp2_with fail
            go_meet
            case rel => exact ⟨_, rfl, by show _ = _; rw [hhd2.out, ← hcz.out, hcc], bstep hbr.drew hb3⟩
      case rest =>
        obtain ⟨hb, rfl, hhb, hbc⟩ := hcut
        clear c0 c1 c2 c3 c4 c5 x0 x1 x2 HC hcz hhd
        cases hb
        rotate_left
        · go_wp2_with fail
          go_ret
          exact ⟨ret_bool (by have := hhb.out; rw [hrest.out, hst.out, hok.out, show headB p t i = false by simpa using this]; rfl), bstep hB2 hbc⟩
        · have hh2 : Hid (headB p t i = true) := by have := hhb.out; show _ = _; simpa using this
          go_wp2_with fail
          go_loopw [8] (fun u W' => ∃ k : Nat, k ≤ i ∧ u = .int .i64 k ∧ Hid (inB p t i k = true) ∧ Below w2.heap.size w2 W') (fun u W' => i - (intOf u).toNat)
          case atStart => exact ⟨0, by omega, rfl, rfl, hbc⟩
          case round =>
            clear hbc
            obtain ⟨k, hk, rfl, hin, hbk⟩ := hrel
            by_cases hki : k < i
            · have hk3 : k < 3 := by omega
              have j1 : (k : Int) < 3 := by omega
              have j0 : (0 : Int) ≤ (k : Int) := by omega
              have hps := Hps.out.below hbk
              have htx := Htx.out.below hbk
              obtain ⟨c0, _, _, _⟩ := hps.at i hlt
              obtain ⟨e0, _, _, _⟩ := hps.at k hk3
              obtain ⟨x0, x1, x2⟩ := htx.at i hlt
              obtain ⟨y0, y1, y2⟩ := htx.at k hk3
              have hpair : Hid (pairB p t i k = if (slotK p i).1 = [] then true else if (slotK p k).1 = (slotK p i).1 then decide (termK t k = termK t i) else true) := rfl
              have hst2 : Hid (inB p t i (k + 1) = (inB p t i k && pairB p t i k)) := rfl
              have hfl : Hid (pairB p t i k = false → inB p t i i = false) := fun h => inB_false (fun _ => .inr h) hki
              have HD := fun W => RCompare_any (termK t k).1 (termK t k).2.1 (termK t k).2.2 (termK t i).1 (termK t i).2.1 (termK t i).2.2 W
              have hcz : Hid ((cmpT (termK t k).1 (termK t k).2.1 (termK t k).2.2 (termK t i).1 (termK t i).2.1 (termK t i).2.2 != 0) = !decide (termK t k = termK t i)) := by
                show _ = _
                rw [← eqTB_tm, ← cmp_eq]
                rfl
              clear hps htx
              generalize cmpT (termK t k).1 (termK t k).2.1 (termK t k).2.2 (termK t i).1 (termK t i).2.1 (termK t i).2.2 = c at *
              rw [← Hs.out] at c0 hpair
              rw [← Hx.out] at x0 x1 x2 HD hcz hpair
              generalize slotK p k = sk at *
              obtain ⟨vk, ak⟩ := sk
              generalize termK t k = y at *
              obtain ⟨yk, yS, yL⟩ := y
              dsimp only at c0 e0 x0 x1 x2 y0 y1 y2 HD hcz hpair
              cases hve : v.isEmpty
              rotate_left
              · obtain rfl : v = [] := by simpa using hve
                have hp2 : Hid (pairB p t i k = true) := by show _ = _; rw [hpair.out]; exact if_pos rfl
                go_wp2_with fail
                go_region
                go_wp2_with fail
                go_roundw
                case rel => exact ⟨k + 1, by omega, by go_num, by show _ = _; rw [hst2.out, hin.out, hp2.out]; rfl, hbk.drew⟩
                case measure => simp [intOf]; omega
              · have hvn : ¬ v = [] := by intro e; rw [e] at hve; cases hve
                cases heq : (vk == v)
                · have hp2 : Hid (pairB p t i k = true) := by
                    show _ = _
                    rw [hpair.out, if_neg hvn, if_neg (by simpa using heq)]
                  clear hvn
                  go_wp2_with fail
                  go_region
                  go_wp2_with fail
                  go_roundw
                  case rel => exact ⟨k + 1, by omega, by go_num, by show _ = _; rw [hst2.out, hin.out, hp2.out]; rfl, hbk.drew⟩
                  case measure => simp [intOf]; omega
                · have hp2 : Hid (pairB p t i k = decide ((yk, yS, yL) = (xk, xS, xL))) := by
                    show _ = _
                    rw [hpair.out, if_neg hvn, if_pos (by simpa using heq)]
                  clear hvn
                  obtain rfl : vk = v := by simpa using heq
                  clear heq
                  cases hcc : (c != 0)
                  · go_wp2_with fail
                    go_region_held3 (fun W => W.cell? ⟨bs, i * 4, none⟩ = some (.string ⟨vk.toArray⟩) ∧ W.cell? ⟨bs, k * 4, none⟩ = some (.string ⟨vk.toArray⟩) ∧ W.cell? ⟨bx, k * 3, none⟩ = some (.int .i64 yk) ∧ W.cell? ⟨bx, k * 3 + 1, none⟩ = some (.string ⟨yS.toArray⟩) ∧ W.cell? ⟨bx, k * 3 + 2, none⟩ = some (.string ⟨yL.toArray⟩) ∧ W.cell? ⟨bx, i * 3, none⟩ = some (.int .i64 xk) ∧ W.cell? ⟨bx, i * 3 + 1, none⟩ = some (.string ⟨xS.toArray⟩) ∧ W.cell? ⟨bx, i * 3 + 2, none⟩ = some (.string ⟨xL.toArray⟩)) (first | exact keep8 (by assumption) hb3 | go_keep) (first
                | (go_at_call 24; refine (HD _).mono ?_; rintro e w3 ⟨rfl, hb3⟩))
                    go_wp2_with fail
                    go_roundw
                    case rel => exact ⟨k + 1, by omega, by go_num, by show _ = _; rw [hst2.out, hin.out, hp2.out]; have := hcz.out; rw [hcc] at this; simpa using this.symm, bstep hbk.drew hb3⟩
                    case measure => simp [intOf]; omega
                  · go_wp2_with fail
                    go_region_held3 (fun W => W.cell? ⟨bs, i * 4, none⟩ = some (.string ⟨vk.toArray⟩) ∧ W.cell? ⟨bs, k * 4, none⟩ = some (.string ⟨vk.toArray⟩) ∧ W.cell? ⟨bx, k * 3, none⟩ = some (.int .i64 yk) ∧ W.cell? ⟨bx, k * 3 + 1, none⟩ = some (.string ⟨yS.toArray⟩) ∧ W.cell? ⟨bx, k * 3 + 2, none⟩ = some (.string ⟨yL.toArray⟩) ∧ W.cell? ⟨bx, i * 3, none⟩ = some (.int .i64 xk) ∧ W.cell? ⟨bx, i * 3 + 1, none⟩ = some (.string ⟨xS.toArray⟩) ∧ W.cell? ⟨bx, i * 3 + 2, none⟩ = some (.string ⟨xL.toArray⟩)) (first | exact keep8 (by assumption) hb3 | go_keep) (first
                | (go_at_call 24; refine (HD _).mono ?_; rintro e w3 ⟨rfl, hb3⟩))
                    go_wp2_with fail
                    go_ret
                    exact ⟨ret_bool (by rw [hrest.out, hst.out, hok.out, hfl.out (hp2.out.trans (bnot_of hcz.out hcc))]; simp), bstep hB2 (bstep hbk.drew hb3)⟩
            · obtain rfl : k = i := by omega
              go_wp2_with fail
              go_roundw
              case rel => exact ⟨k + 1, by omega, by go_num, by show _ = _; rw [hrest.out, hst.out, hok.out, hh2.out, hin.out]; rfl, hbk⟩
              case measure => simp [intOf]; omega
    · obtain rfl : i = 3 := by omega
      go_wp2_with fail
      go_ret
      exact ⟨ret_bool (by rw [hrest.out]; rfl), bstep hB2 hbr⟩
end Go.Proofs.YtbacenhgedopjaaGreatDoor

/- The document's answer (package strataref1): shape, Triple, Order, Set. -/
namespace Go.Proofs.YtbacenhgedopjaaGreatDoor
open Go Go.RowKit Go.Proofs
set_option synthInstance.maxSize 1000

set_option maxHeartbeats 1000000 in
theorem RShape_any (x : Tr) (w : World) : Calls Tryz.prog 41 #[valTr x] w fun e w' => e = .returned (.bool (!shapeB x.1.1 x.2.1.1)) ∧ RowKit.Below w.heap.size w w' := by
  have fin2 : Hid (shapeB x.1.1 x.2.1.1 = ((x.1.1 == 3) || !(x.2.1.1 == 1))) := rfl
  unfold valTr
  cases h3 : (x.1.1 == 3)
  · cases h1 : (x.2.1.1 == 1)
    all_goals
      have h3' : (x.1.1 != 3) = true := by simp [bne, h3]
      go_enter Tryz.func41, Tryz.ntmps41
      go_wp2_with fail
      go_ret
      exact ⟨ret_bool (by rw [fin2.out, h3]; simp [h1]), balloc _ _⟩
  · have h3' : (x.1.1 != 3) = false := by simp [bne, h3]
    go_enter Tryz.func41, Tryz.ntmps41
    go_wp2_with fail
    go_ret
    exact ⟨ret_bool (by rw [fin2.out, h3]; rfl), balloc _ _⟩

set_option maxHeartbeats 4000000 in
set_option maxRecDepth 100000 in
theorem RTriple_any (x : Tr) (w : World) (hx : fitTr x) : Calls Tryz.prog 16 #[valTr x] w fun e w' => e = .returned (.int .i64 (chkTr x)) ∧ RowKit.Below w.heap.size w w' := by
  have H1 := fun W => RTerm_any x.1.1 x.1.2.1 x.1.2.2 W hx.1.1 hx.1.2
  have H2 := fun W => RTerm_any x.2.1.1 x.2.1.2.1 x.2.1.2.2 W hx.2.1.1 hx.2.1.2
  have H3 := fun W => RTerm_any x.2.2.1 x.2.2.2.1 x.2.2.2.2 W hx.2.2.1 hx.2.2.2
  have HS := fun W => RShape_any x W
  have fin : Hid (chkTr x = if checkN x.1.1 x.1.2.1 x.1.2.2 = 0 then (if checkN x.2.1.1 x.2.1.2.1 x.2.1.2.2 = 0 then (if checkN x.2.2.1 x.2.2.2.1 x.2.2.2.2 = 0 then (if shapeB x.1.1 x.2.1.1 = true then 3 else 0) else checkN x.2.2.1 x.2.2.2.1 x.2.2.2.2) else checkN x.2.1.1 x.2.1.2.1 x.2.1.2.2) else checkN x.1.1 x.1.2.1 x.1.2.2) := rfl
  generalize chkTr x = N at *
  generalize checkN x.1.1 x.1.2.1 x.1.2.2 = c1 at *
  generalize checkN x.2.1.1 x.2.1.2.1 x.2.1.2.2 = c2 at *
  generalize checkN x.2.2.1 x.2.2.2.1 x.2.2.2.2 = c3 at *
  generalize shapeB x.1.1 x.2.1.1 = sh at *
  clear hx
  unfold valTr at HS ⊢
  cases h1 : (c1 == 0)
  · have fin1 : Hid (N = c1) := by have h : ¬ c1 = 0 := by simpa using h1
                                   rw [fin.out, if_neg h]; rfl
    go_enter Tryz.func16, Tryz.ntmps16
    go_wp2_with fail
    refine (H1 _).mono ?_
    rintro e w1 ⟨rfl, hb1⟩
    obtain ⟨a0, a1, a2, b0, b1, b2, d0, d1, d2, hzz⟩ := ninebox hb1
    go_wp2_with fail
    refine (HS _).mono ?_
    rintro e w2 ⟨rfl, hb2⟩
    go_wp2_with fail
    go_ret
    exact ⟨ret_i64 fin1.out.symm, bstep (bstep (balloc _ _) hb1) hb2⟩
  · have e1 : c1 = 0 := by simpa using h1
    cases h2 : (c2 == 0)
    · have fin1 : Hid (N = c2) := by have h : ¬ c2 = 0 := by simpa using h2
                                     rw [fin.out, if_pos e1, if_neg h]; rfl
      clear e1
      go_enter Tryz.func16, Tryz.ntmps16
      go_wp2_with fail
      refine (H1 _).mono ?_
      rintro e w1 ⟨rfl, hb1⟩
      obtain ⟨a0, a1, a2, b0, b1, b2, d0, d1, d2, hzz⟩ := ninebox hb1
      go_wp2_with fail
      refine (H2 _).mono ?_
      rintro e w2 ⟨rfl, hb2⟩
      have hB := bstep hb1 hb2
      clear a0 a1 a2 b0 b1 b2 d0 d1 d2 hzz
      obtain ⟨a0, a1, a2, b0, b1, b2, d0, d1, d2, hzz⟩ := ninebox hB
      go_wp2_with fail
      refine (HS _).mono ?_
      rintro e w3 ⟨rfl, hb3⟩
      go_wp2_with fail
      go_ret
      exact ⟨ret_i64 fin1.out.symm, bstep (bstep (balloc _ _) hB) hb3⟩
    · have e2 : c2 = 0 := by simpa using h2
      have fin3 : Hid (N = if c3 = 0 then (if sh = true then 3 else 0) else c3) := by rw [fin.out, if_pos e1, if_pos e2]; rfl
      clear fin e1 e2
      cases h3 : (c3 == 0)
      · have fin1 : Hid (N = c3) := by have h : ¬ c3 = 0 := by simpa using h3
                                       rw [fin3.out, if_neg h]; rfl
        go_enter Tryz.func16, Tryz.ntmps16
        go_wp2_with fail
        refine (H1 _).mono ?_
        rintro e w1 ⟨rfl, hb1⟩
        obtain ⟨a0, a1, a2, b0, b1, b2, d0, d1, d2, hzz⟩ := ninebox hb1
        go_wp2_with fail
        refine (H2 _).mono ?_
        rintro e w2 ⟨rfl, hb2⟩
        have hB := bstep hb1 hb2
        clear a0 a1 a2 b0 b1 b2 d0 d1 d2 hzz
        obtain ⟨a0, a1, a2, b0, b1, b2, d0, d1, d2, hzz⟩ := ninebox hB
        go_wp2_with fail
        refine (H3 _).mono ?_
        rintro e w3 ⟨rfl, hb3⟩
        have hB3 := bstep hB hb3
        clear a0 a1 a2 b0 b1 b2 d0 d1 d2 hzz
        obtain ⟨a0, a1, a2, b0, b1, b2, d0, d1, d2, hzz⟩ := ninebox hB3
        go_wp2_with fail
        refine (HS _).mono ?_
        rintro e w4 ⟨rfl, hb4⟩
        go_wp2_with fail
        go_ret
        exact ⟨ret_i64 fin1.out.symm, bstep (bstep (balloc _ _) hB3) hb4⟩
      · have fin1 : Hid (N = if sh = true then 3 else 0) := by have h : c3 = 0 := by simpa using h3
                                                               rw [fin3.out, if_pos h]; rfl
        have e3 : c3 = 0 := by simpa using h3
        subst e3
        cases sh
        all_goals
          go_enter Tryz.func16, Tryz.ntmps16
          go_wp2_with fail
          refine (H1 _).mono ?_
          rintro e w1 ⟨rfl, hb1⟩
          obtain ⟨a0, a1, a2, b0, b1, b2, d0, d1, d2, hzz⟩ := ninebox hb1
          go_wp2_with fail
          refine (H2 _).mono ?_
          rintro e w2 ⟨rfl, hb2⟩
          have hB := bstep hb1 hb2
          clear a0 a1 a2 b0 b1 b2 d0 d1 d2 hzz
          obtain ⟨a0, a1, a2, b0, b1, b2, d0, d1, d2, hzz⟩ := ninebox hB
          go_wp2_with fail
          refine (H3 _).mono ?_
          rintro e w3 ⟨rfl, hb3⟩
          have hB3 := bstep hB hb3
          clear a0 a1 a2 b0 b1 b2 d0 d1 d2 hzz
          obtain ⟨a0, a1, a2, b0, b1, b2, d0, d1, d2, hzz⟩ := ninebox hB3
          go_wp2_with fail
          refine (HS _).mono ?_
          rintro e w4 ⟨rfl, hb4⟩
          go_wp2_with fail
          go_ret
          exact ⟨ret_i64 (by rw [fin1.out]; rfl), bstep (bstep (balloc _ _) hB3) hb4⟩

/-- two boxes of nine cells, behind calls -/
theorem ninebox2 {w W : World} {T : TypeId} {o : Obj} {a0 a1 a2 b0 b1 b2 c0 c1 c2 : Value}
    (hb : Below ((w.alloc (.cells #[a0, a1, a2, b0, b1, b2, c0, c1, c2] T)).alloc o).heap.size ((w.alloc (.cells #[a0, a1, a2, b0, b1, b2, c0, c1, c2] T)).alloc o) W) :
    W.cell? ⟨w.heap.size, 0, none⟩ = some a0 ∧ W.cell? ⟨w.heap.size, 1, none⟩ = some a1 ∧ W.cell? ⟨w.heap.size, 2, none⟩ = some a2 ∧ W.cell? ⟨w.heap.size, 3, none⟩ = some b0 ∧ W.cell? ⟨w.heap.size, 4, none⟩ = some b1 ∧ W.cell? ⟨w.heap.size, 5, none⟩ = some b2 ∧ W.cell? ⟨w.heap.size, 6, none⟩ = some c0 ∧ W.cell? ⟨w.heap.size, 7, none⟩ = some c1 ∧ W.cell? ⟨w.heap.size, 8, none⟩ = some c2 ∧ w.heap.size < W.heap.size :=
  ninebox (bstep (balloc _ _) hb)
theorem ninebox2' {w W : World} {T : TypeId} {o : Obj} {a0 a1 a2 b0 b1 b2 c0 c1 c2 : Value}
    (hb : Below ((w.alloc o).alloc (.cells #[a0, a1, a2, b0, b1, b2, c0, c1, c2] T)).heap.size ((w.alloc o).alloc (.cells #[a0, a1, a2, b0, b1, b2, c0, c1, c2] T)) W) :
    W.cell? ⟨w.heap.size + 1, 0, none⟩ = some a0 ∧ W.cell? ⟨w.heap.size + 1, 1, none⟩ = some a1 ∧ W.cell? ⟨w.heap.size + 1, 2, none⟩ = some a2 ∧ W.cell? ⟨w.heap.size + 1, 3, none⟩ = some b0 ∧ W.cell? ⟨w.heap.size + 1, 4, none⟩ = some b1 ∧ W.cell? ⟨w.heap.size + 1, 5, none⟩ = some b2 ∧ W.cell? ⟨w.heap.size + 1, 6, none⟩ = some c0 ∧ W.cell? ⟨w.heap.size + 1, 7, none⟩ = some c1 ∧ W.cell? ⟨w.heap.size + 1, 8, none⟩ = some c2 ∧ w.heap.size + 1 < W.heap.size := by
  have := ninebox hb
  rw [World.size_alloc] at this
  exact this

set_option maxHeartbeats 4000000 in
set_option maxRecDepth 100000 in
theorem ROrder_any (x y : Tr) (w : World) : Calls Tryz.prog 17 #[valTr x, valTr y] w fun e w' => e = .returned (.int .i64 (cmpTr x y)) ∧ RowKit.Below w.heap.size w w' := by
  have H1 := fun W => RCompare_any x.1.1 x.1.2.1 x.1.2.2 y.1.1 y.1.2.1 y.1.2.2 W
  have H2 := fun W => RCompare_any x.2.1.1 x.2.1.2.1 x.2.1.2.2 y.2.1.1 y.2.1.2.1 y.2.1.2.2 W
  have H3 := fun W => RCompare_any x.2.2.1 x.2.2.2.1 x.2.2.2.2 y.2.2.1 y.2.2.2.1 y.2.2.2.2 W
  have fin : Hid (cmpTr x y = orI (cmpT x.1.1 x.1.2.1 x.1.2.2 y.1.1 y.1.2.1 y.1.2.2) (cmpT x.2.1.1 x.2.1.2.1 x.2.1.2.2 y.2.1.1 y.2.1.2.1 y.2.1.2.2) (cmpT x.2.2.1 x.2.2.2.1 x.2.2.2.2 y.2.2.1 y.2.2.2.1 y.2.2.2.2)) := rfl
  generalize cmpTr x y = N at *
  generalize cmpT x.1.1 x.1.2.1 x.1.2.2 y.1.1 y.1.2.1 y.1.2.2 = c1 at *
  generalize cmpT x.2.1.1 x.2.1.2.1 x.2.1.2.2 y.2.1.1 y.2.1.2.1 y.2.1.2.2 = c2 at *
  generalize cmpT x.2.2.1 x.2.2.2.1 x.2.2.2.2 y.2.2.1 y.2.2.2.1 y.2.2.2.2 = c3 at *
  unfold valTr
  cases h1 : (c1 == 0)
  · have fin1 : Hid (N = c1) := by have h : ¬ c1 = 0 := by simpa using h1
                                   rw [fin.out]; unfold orI; rw [if_neg h]; rfl
    go_enter Tryz.func17, Tryz.ntmps17
    go_wp2_with fail
    refine (H1 _).mono ?_
    rintro e w1 ⟨rfl, hb1⟩
    go_wp2_with fail
    go_ret
    exact ⟨ret_i64 fin1.out.symm, bstep (bstep (balloc _ _) (balloc _ _)) hb1⟩
  · have e1 : c1 = 0 := by simpa using h1
    cases h2 : (c2 == 0)
    · have fin1 : Hid (N = c2) := by have h : ¬ c2 = 0 := by simpa using h2
                                     rw [fin.out]; unfold orI; rw [if_pos e1, if_neg h]; rfl
      clear e1
      go_enter Tryz.func17, Tryz.ntmps17
      go_wp2_with fail
      refine (H1 _).mono ?_
      rintro e w1 ⟨rfl, hb1⟩
      obtain ⟨a0, a1, a2, b0, b1, b2, d0, d1, d2, hzz⟩ := ninebox2 hb1
      obtain ⟨a0', a1', a2', b0', b1', b2', d0', d1', d2', hzz'⟩ := ninebox2' hb1
      go_wp2_with fail
      refine (H2 _).mono ?_
      rintro e w2 ⟨rfl, hb2⟩
      go_wp2_with fail
      go_ret
      exact ⟨ret_i64 fin1.out.symm, bstep (bstep (bstep (balloc _ _) (balloc _ _)) hb1) hb2⟩
    · have e2 : c2 = 0 := by simpa using h2
      have fin1 : Hid (N = c3) := by rw [fin.out]; unfold orI; rw [if_pos e1, if_pos e2]; rfl
      clear e1 e2
      go_enter Tryz.func17, Tryz.ntmps17
      go_wp2_with fail
      refine (H1 _).mono ?_
      rintro e w1 ⟨rfl, hb1⟩
      obtain ⟨a0, a1, a2, b0, b1, b2, d0, d1, d2, hzz⟩ := ninebox2 hb1
      obtain ⟨a0', a1', a2', b0', b1', b2', d0', d1', d2', hzz'⟩ := ninebox2' hb1
      go_wp2_with fail
      refine (H2 _).mono ?_
      rintro e w2 ⟨rfl, hb2⟩
      have hB := bstep hb1 hb2
      clear a0 a1 a2 b0 b1 b2 d0 d1 d2 hzz a0' a1' a2' b0' b1' b2' d0' d1' d2' hzz'
      obtain ⟨a0, a1, a2, b0, b1, b2, d0, d1, d2, hzz⟩ := ninebox2 hB
      obtain ⟨a0', a1', a2', b0', b1', b2', d0', d1', d2', hzz'⟩ := ninebox2' hB
      go_wp2_with fail
      refine (H3 _).mono ?_
      rintro e w3 ⟨rfl, hb3⟩
      go_wp2_with fail
      go_ret
      exact ⟨ret_i64 fin1.out.symm, bstep (bstep (bstep (balloc _ _) (balloc _ _)) hB) hb3⟩

/-- eighteen cells, behind a call that turned nothing old -/
theorem keep18b {W W' : World} {p0 p1 p2 p3 p4 p5 p6 p7 p8 p9 p10 p11 p12 p13 p14 p15 p16 p17 : Addr} {v0 v1 v2 v3 v4 v5 v6 v7 v8 v9 v10 v11 v12 v13 v14 v15 v16 v17 : Value}
    (h : W.cell? p0 = some v0 ∧ W.cell? p1 = some v1 ∧ W.cell? p2 = some v2 ∧ W.cell? p3 = some v3 ∧ W.cell? p4 = some v4 ∧ W.cell? p5 = some v5 ∧ W.cell? p6 = some v6 ∧ W.cell? p7 = some v7 ∧ W.cell? p8 = some v8 ∧ W.cell? p9 = some v9 ∧ W.cell? p10 = some v10 ∧ W.cell? p11 = some v11 ∧ W.cell? p12 = some v12 ∧ W.cell? p13 = some v13 ∧ W.cell? p14 = some v14 ∧ W.cell? p15 = some v15 ∧ W.cell? p16 = some v16 ∧ W.cell? p17 = some v17) (hb : RowKit.Below W.heap.size W W') : W'.cell? p0 = some v0 ∧ W'.cell? p1 = some v1 ∧ W'.cell? p2 = some v2 ∧ W'.cell? p3 = some v3 ∧ W'.cell? p4 = some v4 ∧ W'.cell? p5 = some v5 ∧ W'.cell? p6 = some v6 ∧ W'.cell? p7 = some v7 ∧ W'.cell? p8 = some v8 ∧ W'.cell? p9 = some v9 ∧ W'.cell? p10 = some v10 ∧ W'.cell? p11 = some v11 ∧ W'.cell? p12 = some v12 ∧ W'.cell? p13 = some v13 ∧ W'.cell? p14 = some v14 ∧ W'.cell? p15 = some v15 ∧ W'.cell? p16 = some v16 ∧ W'.cell? p17 = some v17 := by
  have q : ∀ (p : Addr) (v : Value), W.cell? p = some v → W'.cell? p = some v := fun p v hv => (hb.cell (World.block_lt_of_cell? W p hv)).trans hv
  obtain ⟨h0, h1, h2, h3, h4, h5, h6, h7, h8, h9, h10, h11, h12, h13, h14, h15, h16, h17⟩ := h
  exact ⟨q _ _ h0, q _ _ h1, q _ _ h2, q _ _ h3, q _ _ h4, q _ _ h5, q _ _ h6, q _ _ h7, q _ _ h8, q _ _ h9, q _ _ h10, q _ _ h11, q _ _ h12, q _ _ h13, q _ _ h14, q _ _ h15, q _ _ h16, q _ _ h17⟩

set_option maxHeartbeats 8000000 in
set_option maxRecDepth 100000 in
theorem RSet_any (ad : Option Addr) (cap : Nat) (l : List Tr) (w : World) (h : SlT w ad l) (hfit : ∀ x ∈ l, fitTr x) (hn : l.length ≤ 9223372036854775807) :
    Calls Tryz.prog 4 #[.slice ad l.length cap] w fun e w' => e = .returned (.int .i64 (sortedN l)) ∧ RowKit.Below w.heap.size w w' := by
  have Hl : Hid (SlT w ad l) := h
  have Hf : Hid (∀ x ∈ l, fitTr x) := hfit
  clear h hfit
  by_cases h200 : 200 < l.length
  · have fin : Hid (sortedN l = 4) := if_pos h200
    have h200' : decide ((l.length : Int) > 200) = true := by simp; omega
    go_enter Tryz.func4, Tryz.ntmps4
    go_wp2
    go_ret
    exact ⟨ret_i64 (by rw [fin.out]), RowKit.Below.refl _ _⟩
  · have fin : Hid (sortedN l = firstUpto (stepN l) l.length) := if_neg h200
    have h200' : decide ((l.length : Int) > 200) = false := by simp; omega
    go_enter Tryz.func4, Tryz.ntmps4
    go_wp2_with fail
    go_loopw [3] (fun i wr => ∃ k : Nat, k ≤ l.length ∧ i = .int .i64 k ∧ firstUpto (stepN l) k = 0 ∧ RowKit.Below w.heap.size w wr) (fun i wr => l.length - (intOf i).toNat)
    case atStart => exact ⟨0, Nat.zero_le _, rfl, rfl, RowKit.Below.refl _ _⟩
    case round =>
      obtain ⟨i, hi', rfl, hz0, hbr⟩ := hrel
      have hz : Hid (firstUpto (stepN l) i = 0) := hz0
      clear hz0
      by_cases hi : i < l.length
      · obtain ⟨b, o, rfl, hr⟩ := (Hl.out.below hbr).at i hi
        obtain ⟨c0, c1, c2, c3, c4, c5, c6, c7, c8⟩ := hr.at i hi
        have Hr : Hid (RowR wr b o l) := hr
        have H := fun W => RTriple_any l[i] W (Hf.out _ (List.getElem_mem hi))
        unfold valTr at H
        have i0 : (0 : Int) ≤ (i : Int) := by omega
        have i1 : (i : Int) < (l.length : Int) := by omega
        have hnext : Hid (firstUpto (stepN l) (i + 1) = stepN l i) := by show _ = _; rw [firstUpto, if_pos hz.out]
        have hend : Hid (stepN l i ≠ 0 → sortedN l = stepN l i) := fun hne => by
          rw [fin.out, ← hnext.out]
          exact firstUpto_mono _ _ _ (by rw [hnext.out]; exact hne) hi
        clear hr
        cases hc : (chkTr l[i] == 0)
        · have fs : Hid (stepN l i = chkTr l[i]) := by simp at hc; simp [Hid, stepN, hi, hc]
          have hne : (chkTr l[i] != 0) = true := by simp [bne, hc]
          have hn0 : Hid (stepN l i ≠ 0) := by show _ ≠ _; rw [fs.out]; simpa using hc
          generalize l[i] = y at *
          go_wp2_with fail
          refine (H _).mono ?_
          rintro e w1 ⟨rfl, hb1⟩
          go_wp2_with fail
          go_ret
          exact ⟨ret_i64 (by rw [hend.out hn0.out, fs.out]), bstep hbr hb1⟩
        · have hce : chkTr l[i] = 0 := by simpa using hc
          rw [hce] at H
          by_cases h0 : i = 0
          · subst h0
            have fs : Hid (stepN l 0 = 0) := by simp [Hid, stepN, hi, hce]
            clear hc hce
            generalize l[0] = y at *
            simp only [Nat.zero_mul, Nat.add_zero] at c0 c1 c2 c3 c4 c5 c6 c7 c8
            go_wp2_with fail
            refine (H _).mono ?_
            rintro e w1 ⟨rfl, hb1⟩
            clear c0 c1 c2 c3 c4 c5 c6 c7 c8
            go_wp2_with fail
            go_region
            go_wp2
            exact ⟨⟨1, by omega, by go_num, by rw [hnext.out, fs.out], bstep hbr hb1.drew⟩, by simp [intOf]; omega⟩
          · obtain ⟨k, hk0⟩ : ∃ k, i = k + 1 := ⟨i - 1, by omega⟩
            have hk : k < l.length := by omega
            have fs : Hid (stepN l i = if 0 ≤ cmpTr l[k] l[i] then 6 else 0) := by
              subst hk0; simp [Hid, stepN, hi, hce]
            have HC := fun W => ROrder_any l[k] l[i] W
            unfold valTr at HC
            generalize cmpTr l[k] l[i] = c at HC fs
            have hwr : IntKind.i64.wrap ((i : Int) - 1) = (k : Int) := by subst hk0; simp [IntKind.wrap, IntKind.bits, IntKind.signed]; omega
            have i2 : (0 : Int) ≤ (k : Int) := by omega
            have i3 : (k : Int) < (l.length : Int) := by omega
            have hd : decide (0 < i) = true := by simp; omega
            have hd' : decide ((i : Int) > 0) = true := by simp; omega
            have Hk : Hid (i = k + 1) := hk0
            clear hk0 h0 hc hce
            go_wp2_with fail
            refine (H _).mono ?_
            rintro e w1 ⟨rfl, hb1⟩
            clear c0 c1 c2 c3 c4 c5 c6 c7 c8
            obtain ⟨c0, c1, c2, c3, c4, c5, c6, c7, c8⟩ := (Hr.out.below hb1).at i hi
            obtain ⟨d0, d1, d2, d3, d4, d5, d6, d7, d8⟩ := (Hr.out.below hb1).at k hk
            generalize l[i] = y at *
            generalize l[k] = x at *
            clear H
            cases hcc : decide (c ≥ 0)
            · have fs0 : Hid (stepN l i = 0) := by have := fs.out; simp at hcc; rw [if_neg (by omega)] at this; exact this
              go_wp2_with fail
              go_region_held3 (fun W => W.cell? ⟨b, o + k * 9, none⟩ = some (.int .i64 x.1.1) ∧ W.cell? ⟨b, o + k * 9 + 1, none⟩ = some (.string ⟨x.1.2.1.toArray⟩) ∧ W.cell? ⟨b, o + k * 9 + 2, none⟩ = some (.string ⟨x.1.2.2.toArray⟩) ∧ W.cell? ⟨b, o + k * 9 + 3, none⟩ = some (.int .i64 x.2.1.1) ∧ W.cell? ⟨b, o + k * 9 + 4, none⟩ = some (.string ⟨x.2.1.2.1.toArray⟩) ∧ W.cell? ⟨b, o + k * 9 + 5, none⟩ = some (.string ⟨x.2.1.2.2.toArray⟩) ∧ W.cell? ⟨b, o + k * 9 + 6, none⟩ = some (.int .i64 x.2.2.1) ∧ W.cell? ⟨b, o + k * 9 + 7, none⟩ = some (.string ⟨x.2.2.2.1.toArray⟩) ∧ W.cell? ⟨b, o + k * 9 + 8, none⟩ = some (.string ⟨x.2.2.2.2.toArray⟩) ∧ W.cell? ⟨b, o + i * 9, none⟩ = some (.int .i64 y.1.1) ∧ W.cell? ⟨b, o + i * 9 + 1, none⟩ = some (.string ⟨y.1.2.1.toArray⟩) ∧ W.cell? ⟨b, o + i * 9 + 2, none⟩ = some (.string ⟨y.1.2.2.toArray⟩) ∧ W.cell? ⟨b, o + i * 9 + 3, none⟩ = some (.int .i64 y.2.1.1) ∧ W.cell? ⟨b, o + i * 9 + 4, none⟩ = some (.string ⟨y.2.1.2.1.toArray⟩) ∧ W.cell? ⟨b, o + i * 9 + 5, none⟩ = some (.string ⟨y.2.1.2.2.toArray⟩) ∧ W.cell? ⟨b, o + i * 9 + 6, none⟩ = some (.int .i64 y.2.2.1) ∧ W.cell? ⟨b, o + i * 9 + 7, none⟩ = some (.string ⟨y.2.2.2.1.toArray⟩) ∧ W.cell? ⟨b, o + i * 9 + 8, none⟩ = some (.string ⟨y.2.2.2.2.toArray⟩)) (first | exact keep18b (by assumption) hb2 | go_keep) (first
                | (go_at_call 17; refine (HC _).mono ?_; rintro e w2 ⟨rfl, hb2⟩))
              go_wp2
              exact ⟨⟨i + 1, by omega, by go_num, by rw [hnext.out, fs0.out], bstep (bstep hbr hb1.drew) hb2⟩, by simp [intOf]; omega⟩
            · have fs0 : Hid (stepN l i = 6) := by have := fs.out; simp at hcc; rw [if_pos (by omega)] at this; exact this
              go_wp2_with fail
              go_region_held3 (fun W => W.cell? ⟨b, o + k * 9, none⟩ = some (.int .i64 x.1.1) ∧ W.cell? ⟨b, o + k * 9 + 1, none⟩ = some (.string ⟨x.1.2.1.toArray⟩) ∧ W.cell? ⟨b, o + k * 9 + 2, none⟩ = some (.string ⟨x.1.2.2.toArray⟩) ∧ W.cell? ⟨b, o + k * 9 + 3, none⟩ = some (.int .i64 x.2.1.1) ∧ W.cell? ⟨b, o + k * 9 + 4, none⟩ = some (.string ⟨x.2.1.2.1.toArray⟩) ∧ W.cell? ⟨b, o + k * 9 + 5, none⟩ = some (.string ⟨x.2.1.2.2.toArray⟩) ∧ W.cell? ⟨b, o + k * 9 + 6, none⟩ = some (.int .i64 x.2.2.1) ∧ W.cell? ⟨b, o + k * 9 + 7, none⟩ = some (.string ⟨x.2.2.2.1.toArray⟩) ∧ W.cell? ⟨b, o + k * 9 + 8, none⟩ = some (.string ⟨x.2.2.2.2.toArray⟩) ∧ W.cell? ⟨b, o + i * 9, none⟩ = some (.int .i64 y.1.1) ∧ W.cell? ⟨b, o + i * 9 + 1, none⟩ = some (.string ⟨y.1.2.1.toArray⟩) ∧ W.cell? ⟨b, o + i * 9 + 2, none⟩ = some (.string ⟨y.1.2.2.toArray⟩) ∧ W.cell? ⟨b, o + i * 9 + 3, none⟩ = some (.int .i64 y.2.1.1) ∧ W.cell? ⟨b, o + i * 9 + 4, none⟩ = some (.string ⟨y.2.1.2.1.toArray⟩) ∧ W.cell? ⟨b, o + i * 9 + 5, none⟩ = some (.string ⟨y.2.1.2.2.toArray⟩) ∧ W.cell? ⟨b, o + i * 9 + 6, none⟩ = some (.int .i64 y.2.2.1) ∧ W.cell? ⟨b, o + i * 9 + 7, none⟩ = some (.string ⟨y.2.2.2.1.toArray⟩) ∧ W.cell? ⟨b, o + i * 9 + 8, none⟩ = some (.string ⟨y.2.2.2.2.toArray⟩)) (first | exact keep18b (by assumption) hb2 | go_keep) (first
                | (go_at_call 17; refine (HC _).mono ?_; rintro e w2 ⟨rfl, hb2⟩))
              go_wp2
              go_ret
              exact ⟨ret_i64 (by rw [hend.out (by rw [fs0.out]; decide), fs0.out]), bstep (bstep hbr hb1.drew) hb2⟩
      · obtain rfl : i = l.length := by omega
        go_wp2_with fail
        go_ret
        exact ⟨ret_i64 (by rw [fin.out, hz.out]), hbr⟩
end Go.Proofs.YtbacenhgedopjaaGreatDoor
