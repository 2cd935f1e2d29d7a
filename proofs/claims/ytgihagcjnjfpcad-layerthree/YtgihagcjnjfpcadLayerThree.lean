/- stratalaw4.LayerThree: the walk. -/
import Derived.Test.YtgihagcjnjfpcadLayerGood
import Derived.Test.YtgihagcjnjfpcadManyL
namespace Go.Proofs.Ytgihagcjnjfpcad
open Go Go.RowKit Go.Proofs
set_option synthInstance.maxSize 1000

attribute [local go_sem] eql_errV neq_errV guard_errV

/-- a layer that lies in a box, its lists beside it -/
def LayAt (W : World) (b : Nat) (a1 : Option Addr) (c1 : Nat) (m1 : List Tr) (a2 : Option Addr) (c2 : Nat) (m2 : List Tr) : Prop := BoxL W b (.slice a1 m1.length c1) (.slice a2 m2.length c2) ∧ SlT W a1 m1 ∧ SlT W a2 m2
theorem LayAt.below {W W' : World} {b : Nat} {a1 a2 : Option Addr} {c1 c2 : Nat} {m1 m2 : List Tr} (h : LayAt W b a1 c1 m1 a2 c2 m2) (hb : RowKit.Below W.heap.size W W') : LayAt W' b a1 c1 m1 a2 c2 m2 := ⟨h.1.below hb, h.2.1.below hb, h.2.2.below hb⟩
theorem LayAt.new {w : World} {a1 a2 : Option Addr} {c1 c2 : Nat} {m1 m2 : List Tr} (h1 : SlT w a1 m1) (h2 : SlT w a2 m2) (T : TypeId) : LayAt (w.alloc (.cells #[.slice a1 m1.length c1, .slice a2 m2.length c2] T)) w.heap.size a1 c1 m1 a2 c2 m2 := ⟨BoxL.new _ _ _ _, h1.below (balloc _ _), h2.below (balloc _ _)⟩
theorem LayAt.c0 {W : World} {b : Nat} {a1 a2 : Option Addr} {c1 c2 : Nat} {m1 m2 : List Tr} (h : LayAt W b a1 c1 m1 a2 c2 m2) : W.cell? ⟨b, 0, none⟩ = some (.slice a1 m1.length c1) := h.1.1
theorem LayAt.c1 {W : World} {b : Nat} {a1 a2 : Option Addr} {c1 c2 : Nat} {m1 m2 : List Tr} (h : LayAt W b a1 c1 m1 a2 c2 m2) : W.cell? ⟨b, 1, none⟩ = some (.slice a2 m2.length c2) := h.1.2

theorem manySl_any (n : Nat) (w : World) (hn : n ≤ 200) : Calls Try.prog 5 #[.int .i64 n] w
    fun e w' => ∃ ad c, e = .returned (.slice ad n c) ∧ SlT w' ad (manyL 115 n) ∧ RowKit.Below w.heap.size w w' := by
  refine (many_any n w hn).mono ?_
  rintro e w' ⟨v, rfl, ho, hb⟩
  have ho' : w'.ownsRow w.heap.size 42 9 v (manyL 115 n).length (cellsT (manyL 115 n)) := by rw [manyL_len]; exact ho
  obtain ⟨ad, c, rfl, hs⟩ := own_slT ho'
  exact ⟨ad, c, by rw [manyL_len], hs, hb⟩

theorem factThen_any (a1 a4 : Option Addr) (c1 c4 : Nat) (w : World) (h1 : SlT w a1 (manyL 115 2)) (h4 : SlT w a4 (manyL 115 2)) :
    Calls Try.prog 4 #[.agg #[.slice a1 2 c1, .slice none 0 0], .agg #[.slice none 0 0, .slice a4 2 c4]] w fun e w' => RowKit.Below w.heap.size w w' ∧ ∃ b1 d1 b2 d2, e = .returned (.tuple #[.agg #[.slice b1 0 d1, .slice b2 0 d2], .nilIface]) := by
  have e1 : lessL (manyL 115 2) [] = manyL 115 2 := by simp [lessL]
  have H := ThenGood_any a1 none none a4 c1 0 0 c4 [] (manyL 115 2) [] w (by rw [e1]; exact h1) (slT_nil _ _) (slT_nil _ _) (by rw [e1]; exact h4) isSet_nil (manyS (by omega)) isSet_nil
  rw [e1, manyL_len] at H
  refine H.mono ?_
  rintro e w' ⟨hb, b1, d1, b2, d2, rfl, _, _⟩
  exact ⟨hb, b1, d1, b2, d2, rfl⟩

theorem factCheck_any (a1 a2 : Option Addr) (c1 c2 : Nat) (w : World) (h1 : SlT w a1 (manyL 115 1)) (h2 : SlT w a2 (manyL 115 1)) :
    Calls Try.prog 6 #[.agg #[.slice a1 1 c1, .slice a2 1 c2]] w fun e w' => e = .returned (.iface 47 (.int .i64 7)) ∧ RowKit.Below w.heap.size w w' := by
  have s : IsSet (manyL 115 1) := manyS (by omega)
  have h7 : apartN (manyL 115 1) (manyL 115 1) = 7 := by
    unfold apartN
    rw [orN_pos (bothN_zero.2 ⟨s, s⟩), if_neg]
    rw [show bothL (manyL 115 1) (manyL 115 1) = manyL 115 1 by simp [bothL], manyL_len]
    omega
  have H := LCheck_any a1 a2 c1 c2 (manyL 115 1) (manyL 115 1) w h1 h2 s.fit s.fit (setLen s) (setLen s)
  rw [h7, manyL_len] at H
  exact H

set_option maxHeartbeats 16000000 in
set_option maxRecDepth 100000 in
theorem layerThree_any (ad bd cd dd : Option Addr) (ca cb cc ce : Nat) (a b c d : List Tr) (w : World) (ha : SlT w ad a) (hb : SlT w bd b) (hc : SlT w cd c) (hd : SlT w dd d) (fa : ∀ x ∈ a, fitTr x) (fb : ∀ x ∈ b, fitTr x) (fc : ∀ x ∈ c, fitTr x) (fd : ∀ x ∈ d, fitTr x) (na : a.length ≤ 9223372036854775807) (nb : b.length ≤ 9223372036854775807) (nc : c.length ≤ 9223372036854775807) (nd : d.length ≤ 9223372036854775807) :
    Calls Try.prog 3 #[.slice ad a.length ca, .slice bd b.length cb, .slice cd c.length cc, .slice dd d.length ce] w fun e w' => e = .returned (.bool true) ∧ RowKit.Below w.heap.size w w' := by
  have HS : Hid (SlT w ad a ∧ SlT w bd b ∧ SlT w cd c ∧ SlT w dd d) := ⟨ha, hb, hc, hd⟩
  have M2 := fun W => manySl_any 2 W (by omega)
  have M1 := fun W => manySl_any 1 W (by omega)
  have FT := factThen_any
  have FC := factCheck_any
  have H1 := fun W h1 h2 => LBetween_any ad bd ca cb a b W h1 h2 fa fb na nb
  have H2 := fun W h1 h2 => LBetween_any bd cd cb cc b c W h1 h2 fb fc nb nc
  have H3 := fun W h1 h2 => LBetween_any cd dd cc ce c d W h1 h2 fc fd nc nd
  clear ha hb hc hd fa fb fc fd na nb nc nd
  go_enter Try.func3, Try.ntmps3
  go_wp2_with fail
  refine (M2 _).mono ?_
  rintro e w1 ⟨p1, k1, rfl, g1, hb1⟩
  have G1 : Hid (SlT w1 p1 (manyL 115 2)) := g1
  clear g1
  go_wp2_with fail
  refine (M2 _).mono ?_
  rintro e w2 ⟨p2, k2, rfl, g2, hb2⟩
  have hB2 := bstep hb1 hb2
  have G2 : Hid (SlT w2 p1 (manyL 115 2) ∧ SlT w2 p2 (manyL 115 2)) := ⟨G1.out.below hb2, g2⟩
  clear g2 G1 hb1 hb2
  go_wp2_with fail
  refine (FT p1 p2 k1 k2 _ G2.out.1 G2.out.2).mono ?_
  rintro e w3 ⟨hb3, p3, k3, p4, k4, rfl⟩
  have hB3 := bstep (bstep hB2 hb3) (balloc w3 (.cells #[.slice p3 0 k3, .slice p4 0 k4] 24))
  clear G2 hB2 hb3
  go_wp2_with fail
  refine (M1 _).mono ?_
  rintro e w4 ⟨p5, k5, rfl, g1, hb1⟩
  have G1 : Hid (SlT w4 p5 (manyL 115 1)) := g1
  clear g1
  go_wp2_with fail
  refine (M1 _).mono ?_
  rintro e w5 ⟨p6, k6, rfl, g2, hb2⟩
  have hB5 := bstep (bstep hB3 hb1) hb2
  have G2 : Hid (SlT w5 p5 (manyL 115 1) ∧ SlT w5 p6 (manyL 115 1)) := ⟨G1.out.below hb2, g2⟩
  clear g2 G1 hb1 hb2 hB3
  go_wp2_with fail
  refine (FC p5 p6 k5 k6 _ G2.out.1 G2.out.2).mono ?_
  rintro e w6 ⟨rfl, hb6⟩
  have hA0 := bstep hB5 hb6
  clear G2 hB5 hb6 M1 M2 FT FC
  by_cases hN : bothN a b = 0 ∧ bothN b c = 0 ∧ bothN c d = 0
  · obtain ⟨sa, sb⟩ := bothN_zero.1 hN.1
    obtain ⟨sc, sd⟩ := bothN_zero.1 hN.2.2
    clear H1 H2 H3 hN
    have H1 := fun W h1 h2 => BtwGood_any ad bd ca cb a b W h1 h2 sa sb
    have H2 := fun W h1 h2 => BtwGood_any bd cd cb cc b c W h1 h2 sb sc
    have H3 := fun W h1 h2 => BtwGood_any cd dd cc ce c d W h1 h2 sc sd
    have T1 := fun W a1 c1 a2 c2 a3 c3 a4 c4 h1 h2 h3 h4 => ThenGood_any a1 a2 a3 a4 c1 c2 c3 c4 a b c W h1 h2 h3 h4 sa sb sc
    have T2 := fun W a1 c1 a2 c2 a3 c3 a4 c4 h1 h2 h3 h4 => ThenGood_any a1 a2 a3 a4 c1 c2 c3 c4 b c d W h1 h2 h3 h4 sb sc sd
    have T3 := fun W a1 c1 a2 c2 a3 c3 a4 c4 h1 h2 h3 h4 => ThenGood_any a1 a2 a3 a4 c1 c2 c3 c4 a c d W h1 h2 h3 h4 sa sc sd
    have T4 := fun W a1 c1 a2 c2 a3 c3 a4 c4 h1 h2 h3 h4 => ThenGood_any a1 a2 a3 a4 c1 c2 c3 c4 a b d W h1 h2 h3 h4 sa sb sd
    have Ssc : Hid (IsSet (lessL d a) ∧ IsSet (lessL a d)) := ⟨lessSet sd, lessSet sa⟩
    clear sa sb sc sd
    generalize lessL b a = X1 at *
    generalize lessL a b = X2 at *
    generalize lessL c b = Y1 at *
    generalize lessL b c = Y2 at *
    generalize lessL d c = Z1 at *
    generalize lessL c d = Z2 at *
    generalize lessL c a = U1 at *
    generalize lessL a c = U2 at *
    generalize lessL d b = V1 at *
    generalize lessL b d = V2 at *
    generalize lessL d a = P1 at *
    generalize lessL a d = P2 at *
    go_wp2_with fail
    refine (H1 _ (HS.out.1.below hA0) (HS.out.2.1.below hA0)).mono ?_
    rintro e w7 ⟨hbn, xa, xc, xb, xd, rfl, g1, g2⟩
    have hbn' := bstep hbn (balloc w7 (.cells #[.slice xa X1.length xc, .slice xb X2.length xd] 24))
    have hA7 := bstep hA0 hbn'
    have Nx : Hid (LayAt (w7.alloc (.cells #[.slice xa X1.length xc, .slice xb X2.length xd] 24)) w7.heap.size xa xc X1 xb xd X2) := LayAt.new g1 g2 _
    clear hbn hbn' g1 g2 hA0  
    have Hx := Nx
    clear Nx
    go_wp2_with fail
    refine (H2 _ (HS.out.2.1.below hA7) (HS.out.2.2.1.below hA7)).mono ?_
    rintro e w8 ⟨hbn, ya, yc, yb, yd, rfl, g1, g2⟩
    have hbn' := bstep hbn (balloc w8 (.cells #[.slice ya Y1.length yc, .slice yb Y2.length yd] 24))
    have hA8 := bstep hA7 hbn'
    have Nx : Hid (LayAt (w8.alloc (.cells #[.slice ya Y1.length yc, .slice yb Y2.length yd] 24)) w7.heap.size xa xc X1 xb xd X2) := Hx.out.below hbn'
    have e0x := (Hx.out.below hbn).c0
    have e1x := (Hx.out.below hbn).c1
    have ezx := World.block_lt_of_cell? _ _ e0x
    have Ny : Hid (LayAt (w8.alloc (.cells #[.slice ya Y1.length yc, .slice yb Y2.length yd] 24)) w8.heap.size ya yc Y1 yb yd Y2) := LayAt.new g1 g2 _
    clear hbn hbn' g1 g2 hA7 Hx 
    have Hx := Nx
    clear Nx
    have d0x := e0x
    have d1x := e1x
    have dzx := ezx
    clear e0x e1x ezx
    have Hy := Ny
    clear Ny
    go_wp2_with fail
    refine (H3 _ (HS.out.2.2.1.below hA8) (HS.out.2.2.2.below hA8)).mono ?_
    rintro e w9 ⟨hbn, za, zc, zb, zd, rfl, g1, g2⟩
    have hbn' := bstep hbn (balloc w9 (.cells #[.slice za Z1.length zc, .slice zb Z2.length zd] 24))
    have hA9 := bstep hA8 hbn'
    have Nx : Hid (LayAt (w9.alloc (.cells #[.slice za Z1.length zc, .slice zb Z2.length zd] 24)) w7.heap.size xa xc X1 xb xd X2) := Hx.out.below hbn'
    have e0x := (Hx.out.below hbn).c0
    have e1x := (Hx.out.below hbn).c1
    have ezx := World.block_lt_of_cell? _ _ e0x
    have Ny : Hid (LayAt (w9.alloc (.cells #[.slice za Z1.length zc, .slice zb Z2.length zd] 24)) w8.heap.size ya yc Y1 yb yd Y2) := Hy.out.below hbn'
    have e0y := (Hy.out.below hbn).c0
    have e1y := (Hy.out.below hbn).c1
    have ezy := World.block_lt_of_cell? _ _ e0y
    have Nz : Hid (LayAt (w9.alloc (.cells #[.slice za Z1.length zc, .slice zb Z2.length zd] 24)) w9.heap.size za zc Z1 zb zd Z2) := LayAt.new g1 g2 _
    clear hbn hbn' g1 g2 hA8 Hx Hy d0x d1x dzx
    have Hx := Nx
    clear Nx
    have d0x := e0x
    have d1x := e1x
    have dzx := ezx
    clear e0x e1x ezx
    have Hy := Ny
    clear Ny
    have d0y := e0y
    have d1y := e1y
    have dzy := ezy
    clear e0y e1y ezy
    have Hz := Nz
    clear Nz
    go_wp2_with fail
    refine (T1 _ xa xc xb xd ya yc yb yd Hx.out.2.1 Hx.out.2.2 Hy.out.2.1 Hy.out.2.2).mono ?_
    rintro e w10 ⟨hbn, ua, uc, ub, ud, rfl, g1, g2⟩
    have hbn' := bstep hbn (balloc w10 (.cells #[.slice ua U1.length uc, .slice ub U2.length ud] 24))
    have hA10 := bstep hA9 hbn'
    have Nx : Hid (LayAt (w10.alloc (.cells #[.slice ua U1.length uc, .slice ub U2.length ud] 24)) w7.heap.size xa xc X1 xb xd X2) := Hx.out.below hbn'
    have e0x := (Hx.out.below hbn).c0
    have e1x := (Hx.out.below hbn).c1
    have ezx := World.block_lt_of_cell? _ _ e0x
    have Ny : Hid (LayAt (w10.alloc (.cells #[.slice ua U1.length uc, .slice ub U2.length ud] 24)) w8.heap.size ya yc Y1 yb yd Y2) := Hy.out.below hbn'
    have e0y := (Hy.out.below hbn).c0
    have e1y := (Hy.out.below hbn).c1
    have ezy := World.block_lt_of_cell? _ _ e0y
    have Nz : Hid (LayAt (w10.alloc (.cells #[.slice ua U1.length uc, .slice ub U2.length ud] 24)) w9.heap.size za zc Z1 zb zd Z2) := Hz.out.below hbn'
    have e0z := (Hz.out.below hbn).c0
    have e1z := (Hz.out.below hbn).c1
    have ezz := World.block_lt_of_cell? _ _ e0z
    have Nu : Hid (LayAt (w10.alloc (.cells #[.slice ua U1.length uc, .slice ub U2.length ud] 24)) w10.heap.size ua uc U1 ub ud U2) := LayAt.new g1 g2 _
    clear hbn hbn' g1 g2 hA9 Hx Hy Hz d0x d1x dzx d0y d1y dzy
    have Hx := Nx
    clear Nx
    have d0x := e0x
    have d1x := e1x
    have dzx := ezx
    clear e0x e1x ezx
    have Hy := Ny
    clear Ny
    have d0y := e0y
    have d1y := e1y
    have dzy := ezy
    clear e0y e1y ezy
    have Hz := Nz
    clear Nz
    have d0z := e0z
    have d1z := e1z
    have dzz := ezz
    clear e0z e1z ezz
    have Hu := Nu
    clear Nu
    go_wp2_with fail
    refine (T2 _ ya yc yb yd za zc zb zd Hy.out.2.1 Hy.out.2.2 Hz.out.2.1 Hz.out.2.2).mono ?_
    rintro e w11 ⟨hbn, va, vc, vb, vd, rfl, g1, g2⟩
    have hbn' := bstep hbn (balloc w11 (.cells #[.slice va V1.length vc, .slice vb V2.length vd] 24))
    have hA11 := bstep hA10 hbn'
    have Nx : Hid (LayAt (w11.alloc (.cells #[.slice va V1.length vc, .slice vb V2.length vd] 24)) w7.heap.size xa xc X1 xb xd X2) := Hx.out.below hbn'
    have e0x := (Hx.out.below hbn).c0
    have e1x := (Hx.out.below hbn).c1
    have ezx := World.block_lt_of_cell? _ _ e0x
    have Nz : Hid (LayAt (w11.alloc (.cells #[.slice va V1.length vc, .slice vb V2.length vd] 24)) w9.heap.size za zc Z1 zb zd Z2) := Hz.out.below hbn'
    have e0z := (Hz.out.below hbn).c0
    have e1z := (Hz.out.below hbn).c1
    have ezz := World.block_lt_of_cell? _ _ e0z
    have Nu : Hid (LayAt (w11.alloc (.cells #[.slice va V1.length vc, .slice vb V2.length vd] 24)) w10.heap.size ua uc U1 ub ud U2) := Hu.out.below hbn'
    have e0u := (Hu.out.below hbn).c0
    have e1u := (Hu.out.below hbn).c1
    have ezu := World.block_lt_of_cell? _ _ e0u
    have Nv : Hid (LayAt (w11.alloc (.cells #[.slice va V1.length vc, .slice vb V2.length vd] 24)) w11.heap.size va vc V1 vb vd V2) := LayAt.new g1 g2 _
    clear hbn hbn' g1 g2 hA10 Hx Hy Hz Hu d0x d1x dzx d0y d1y dzy d0z d1z dzz
    have Hx := Nx
    clear Nx
    have d0x := e0x
    have d1x := e1x
    have dzx := ezx
    clear e0x e1x ezx
    have Hz := Nz
    clear Nz
    have d0z := e0z
    have d1z := e1z
    have dzz := ezz
    clear e0z e1z ezz
    have Hu := Nu
    clear Nu
    have d0u := e0u
    have d1u := e1u
    have dzu := ezu
    clear e0u e1u ezu
    have Hv := Nv
    clear Nv
    go_wp2_with fail
    refine (T3 _ ua uc ub ud za zc zb zd Hu.out.2.1 Hu.out.2.2 Hz.out.2.1 Hz.out.2.2).mono ?_
    rintro e w12 ⟨hbn, pa, pc, pb, pd, rfl, g1, g2⟩
    have hbn' := bstep hbn (balloc w12 (.cells #[.slice pa P1.length pc, .slice pb P2.length pd] 24))
    have hA12 := bstep hA11 hbn'
    have Nx : Hid (LayAt (w12.alloc (.cells #[.slice pa P1.length pc, .slice pb P2.length pd] 24)) w7.heap.size xa xc X1 xb xd X2) := Hx.out.below hbn'
    have e0x := (Hx.out.below hbn).c0
    have e1x := (Hx.out.below hbn).c1
    have ezx := World.block_lt_of_cell? _ _ e0x
    have Nv : Hid (LayAt (w12.alloc (.cells #[.slice pa P1.length pc, .slice pb P2.length pd] 24)) w11.heap.size va vc V1 vb vd V2) := Hv.out.below hbn'
    have e0v := (Hv.out.below hbn).c0
    have e1v := (Hv.out.below hbn).c1
    have ezv := World.block_lt_of_cell? _ _ e0v
    have Np : Hid (LayAt (w12.alloc (.cells #[.slice pa P1.length pc, .slice pb P2.length pd] 24)) w12.heap.size pa pc P1 pb pd P2) := LayAt.new g1 g2 _
    clear hbn hbn' g1 g2 hA11 Hx Hz Hu Hv d0x d1x dzx d0z d1z dzz d0u d1u dzu
    have Hx := Nx
    clear Nx
    have d0x := e0x
    have d1x := e1x
    have dzx := ezx
    clear e0x e1x ezx
    have Hv := Nv
    clear Nv
    have d0v := e0v
    have d1v := e1v
    have dzv := ezv
    clear e0v e1v ezv
    have Hp := Np
    clear Np
    go_wp2_with fail
    refine (T4 _ xa xc xb xd va vc vb vd Hx.out.2.1 Hx.out.2.2 Hv.out.2.1 Hv.out.2.2).mono ?_
    rintro e w13 ⟨hbn, qa, qc, qb, qd, rfl, g1, g2⟩
    have hbn' := bstep hbn (balloc w13 (.cells #[.slice qa P1.length qc, .slice qb P2.length qd] 24))
    have hA13 := bstep hA12 hbn'
    have Np : Hid (LayAt (w13.alloc (.cells #[.slice qa P1.length qc, .slice qb P2.length qd] 24)) w12.heap.size pa pc P1 pb pd P2) := Hp.out.below hbn'
    have e0p := (Hp.out.below hbn).c0
    have e1p := (Hp.out.below hbn).c1
    have ezp := World.block_lt_of_cell? _ _ e0p
    have Nq : Hid (LayAt (w13.alloc (.cells #[.slice qa P1.length qc, .slice qb P2.length qd] 24)) w13.heap.size qa qc P1 qb qd P2) := LayAt.new g1 g2 _
    clear hbn hbn' g1 g2 hA12 Hx Hv Hp d0x d1x dzx d0v d1v dzv
    have Hp := Np
    clear Np
    have d0p := e0p
    have d1p := e1p
    have dzp := ezp
    clear e0p e1p ezp
    have Hq := Nq
    clear Nq
    go_wp2_with fail
    refine (SameLGood_any pa pb qa qb pc pd qc qd P1 P2 _ Hp.out.2.1 Hp.out.2.2 Hq.out.2.1 Hq.out.2.2 Ssc.out.1 Ssc.out.2).mono ?_
    rintro e w14 ⟨rfl, hb14⟩
    have hA14 := bstep hA13 hb14
    go_wp2_with fail
    go_ret
    exact ⟨rfl, hA14⟩
  · -- one of them is no set
    have hor : Hid (¬ (bothN a b = 0 ∧ bothN b c = 0 ∧ bothN c d = 0)) := hN
    clear hN
    generalize BtwAns a b = B1 at *
    generalize BtwAns b c = B2 at *
    generalize BtwAns c d = B3 at *
    generalize bothN a b = n1 at *
    generalize bothN b c = n2 at *
    generalize bothN c d = n3 at *
    go_wp2_with fail
    refine (H1 _ (HS.out.1.below hA0) (HS.out.2.1.below hA0)).mono ?_
    rintro e w7 ⟨hb7, q1, a1, c1, q2, a2, c2, rfl, _, _, _⟩
    have hA7 := bstep (bstep hA0 hb7) (balloc w7 (.cells #[.slice a1 q1.length c1, .slice a2 q2.length c2] 24))
    go_wp2_with fail
    refine (H2 _ (HS.out.2.1.below hA7) (HS.out.2.2.1.below hA7)).mono ?_
    rintro e w8 ⟨hb8, q3, a3, c3, q4, a4, c4, rfl, _, _, _⟩
    have hA8 := bstep (bstep hA7 hb8) (balloc w8 (.cells #[.slice a3 q3.length c3, .slice a4 q4.length c4] 24))
    go_wp2_with fail
    refine (H3 _ (HS.out.2.2.1.below hA8) (HS.out.2.2.2.below hA8)).mono ?_
    rintro e w9 ⟨hb9, q5, a5, c5, q6, a6, c6, rfl, _, _, _⟩
    have hA9 := bstep (bstep hA8 hb9) (balloc w9 (.cells #[.slice a5 q5.length c5, .slice a6 q6.length c6] 24))
    clear H1 H2 H3
    cases hn1 : (n1 == 0)
    · clear hor
      go_wp2_with fail
      go_ret
      exact ⟨rfl, hA9⟩
    · cases hn2 : (n2 == 0)
      · clear hor
        go_wp2_with fail
        go_ret
        exact ⟨rfl, hA9⟩
      · have hn3 : (n3 == 0) = false := by
          have h1 : n1 = 0 := by simpa using hn1
          have h2 : n2 = 0 := by simpa using hn2
          have h3 : ¬ n3 = 0 := fun h => hor.out ⟨h1, h2, h⟩
          simpa using h3
        clear hor
        go_wp2_with fail
        go_ret
        exact ⟨rfl, hA9⟩
end Go.Proofs.Ytgihagcjnjfpcad
