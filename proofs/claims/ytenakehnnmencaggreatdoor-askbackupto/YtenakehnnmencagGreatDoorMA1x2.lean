import Derived.Test.YtenakehnnmencagGreatDoorMA1x1
import Derived.Deep.AppendLies
import Derived.Lib.AtoiAllCases
import Derived.Lib.AtoiTie
import Derived.Lib.ItoaMem
import Derived.Test.YtenakehnnmencagGreatDoorMA0x2
import Derived.Test.YtenakehnnmencagGreatDoorMA0x1
import Derived.Lib.LaidTab
import Derived.Test.YtenakehnnmencagGreatDoorMA0x5
import Derived.Deep.DeepCutAuto

/- reader.parts: the parts, one behind the other. -/
namespace Go.Proofs.YtenakehnnmencagGreatDoor
open Go Go.RowKit Go.Proofs Go.Maps
set_option synthInstance.maxSize 1000

theorem newPtO (W : World) (x : Pt) : ∀ (j : Nat) u, (encPt x)[j]? = some u → (W.alloc (.cells (encPt x).toArray 108)).cell? ((⟨W.heap.size, 0, none⟩ : Addr).add j) = some u := fun j u hu => by
  rw [Addr.add_lit, Nat.zero_add]
  simp only [World.cell?]
  rw [heap_alloc_new]
  simp
  exact hu
theorem newPtP (W : World) (x : Pt) (j : Nat) (u : Value) (hu : (encPt x)[j]? = some u) : (W.alloc (.cells (encPt x).toArray 108)).cell? ⟨W.heap.size, j, none⟩ = some u := by
  have := newPtO W x j u hu
  rwa [Addr.add_lit, Nat.zero_add] at this
/-- a pattern is laid behind the parts -/
theorem OSt.appP {w W : World} {g N : Nat} {M : List (List UInt8)} {va vp : Value} {q : Qu} (h : OSt w W g M N va vp q) (x : Pt) (hn : q.parts.length ≤ 100000000000) (ty : TypeId) :
    ∃ b cap W9, (Builtin.append_ #[50, 50] ty #[vp, .slice (some ⟨W.heap.size, 0, none⟩) 1 1]).run Tryz.prog (W.alloc (.cells (encPt x).toArray 108)) = .ok (.slice (some ⟨b, 0, none⟩) (q.parts.length + 1) cap) W9 ∧
      W9.cell? ⟨g + 1, 1, none⟩ = some vp ∧ W9.frozen? ⟨g + 1, 1, none⟩ = false ∧ g + 1 < W9.heap.size ∧
      OSt w (W9.setCell ⟨g + 1, 1, none⟩ (.slice (some ⟨b, 0, none⟩) (q.parts.length + 1) cap)) g M N va (.slice (some ⟨b, 0, none⟩) (q.parts.length + 1) cap) { q with parts := q.parts ++ [x] } := by
  have hz := h.lt
  have hb : RowKit.Below W.heap.size W (W.alloc (.cells (encPt x).toArray 108)) := balloc _ _
  have h' := h.below hb
  obtain ⟨i0, hi, hz'⟩ := Option.map_eq_some_iff.1 infoPt
  simp only [Prod.mk.injEq] at hz'
  obtain ⟨hz0, hz1, hz2⟩ := hz'
  obtain ⟨b, cap, W9, hrun, hrow, hgr, hat, hlt9⟩ := run_append_lies (P := Tryz.prog) (W.alloc (.cells (encPt x).toArray 108)) 50 ty (g + 2) 108 i0 (.agg (encPt (([], tmZero), ([], tmZero), ([], tmZero))).toArray) 12 168 Tryz.underlying50 hi hz0 hz1 hz2 rfl (by decide) vp q.parts.length (cellsPt q.parts) h'.parts ⟨W.heap.size, 0, none⟩ 1 1 (encPt x) rfl (newPtO W x) (encPt_one x) (by decide) (by unfold maxLen; omega) (by omega) (by simp; omega) _ rfl
  have hat' : (Value.slice (some ⟨b, 0, none⟩) (q.parts.length + 1) cap).ownBlock = vp.ownBlock ∨ (Value.slice (some ⟨b, 0, none⟩) (q.parts.length + 1) cap).ownBlock = some (W.alloc (.cells (encPt x).toArray 108)).heap.size := by
    rcases hat with h1 | h1
    · exact Or.inl h1.symm
    · exact Or.inr (by rw [h1]; rfl)
  obtain ⟨_, y1, _, z1, hlt⟩ := h'.gcells (Or.inr rfl) hgr
  have e : cellsPt (q.parts ++ [x]) = cellsPt q.parts ++ encPt x := by simp [cellsPt]
  exact ⟨b, cap, W9, hrun, y1, z1, hlt, h'.pushP (x := x) (by rw [e]; simpa using hrow) hgr hat'⟩
theorem step_appendO {P : Program} {w : World} {ops : Array Oper} {o : Oper} {a : Act} {K : Act → World → Prop} {Q : Exit → Act → World → Prop} {E : Prop} (hgd : o.guard = none) (s x : Operand) (t : TypeId)
    (ho : o.op = .call { callee := .builtin .append, args := #[s, x], argTypes := #[t, t] }) (v u : Value) (hs : a.eval s = v) (hx : a.eval x = u) {v' : Value} {w' : World}
    (hr : (Builtin.append_ #[t, t] o.type #[v, u]).run P w = .ok v' w') (h : K (a.put o.dst v') w') : if Region.wanted o (yielded ops a.tmps) = true then Oper.wp P o a w K Q else E := by
  rw [if_pos (by simp [Region.wanted, hgd])]
  unfold Oper.wp execOp
  simp only [ho, resolve, invoke, builtin, Sem.run_bind, Sem.run_pure, Result.andThen_ok, List.map_toArray, List.map_cons, List.map_nil, hs, hx, hr]
  exact h
theorem pat_len {M : List (List UInt8)} (h : (patS (M, false)).2.2 = false) : (patS (M, false)).2.1.length + 3 = M.length := by
  have h1 := congrArg (fun x : InS => x.1.length) (pat_out h)
  simp [partT] at h1
  omega
/-- what parts answers -/
def PartsAns (w : World) (g N : Nat) (va : Value) (q : Qu) (P : List Pt × InS) (e : Ending) (W' : World) : Prop := e = .returned (.bool (!P.2.2)) ∧ ∃ vp' q', OSt w W' g P.2.1 N va vp' q' ∧ (P.2.2 = false → q' = { q with parts := P.1 })
theorem partsS_bad {f : Nat} {s : InS} {o : List Pt} (h : (patS s).2.2 = true) : partsS (f + 1) s o = (o ++ [(patS s).1], (patS s).2) := by
  rw [partsS, if_neg (by rw [show (patS s).2 = ((patS s).2.1, true) from by rw [← h], isW_bad]; simp)]
theorem partsS_more {f : Nat} {s : InS} {o : List Pt} (h : isW (patS s).2 wAnd = true) : partsS (f + 1) s o = partsS f ((patS s).2.1.tail, (patS s).2.2) (o ++ [(patS s).1]) := by rw [partsS, if_pos h]
theorem partsS_end {f : Nat} {s : InS} {o : List Pt} (h : isW (patS s).2 wAnd = false) : partsS (f + 1) s o = (o ++ [(patS s).1], (patS s).2) := by rw [partsS, if_neg (by rw [h]; simp)]

set_option maxHeartbeats 8000000 in
set_option maxRecDepth 100000 in
theorem parts_own (w : World) (g : Nat) (M : List (List UInt8)) (N F : Nat) (va vp : Value) (q : Qu) (W : World) (h : OSt w W g M N va vp q) (hq : q.parts = []) (hF : M.length < F) :
    Calls Tryz.prog 99 #[.pointer (some ⟨g, 0, none⟩), .pointer (some ⟨g + 1, 0, none⟩)] W (PartsAns w g N va q (partsS F (M, false) [])) := by
  have HP := fun W1 M1 hr => part_own g M1 N W1 hr
  have H2 := fun W1 M1 hr => is_own wAnd g M1 N W1 hr
  unfold wAnd at H2
  have Ho := hideK h
  have hMN : M.length ≤ N := h.rd.le
  have hN : N ≤ 100000001 := h.rd.few
  obtain ⟨P, hP⟩ : ∃ P, P = partsS F (M, false) [] := ⟨_, rfl⟩
  have HPP := hideK hP
  obtain ⟨Q, hQ⟩ : ∃ Q, Q = PartsAns w g N va q (partsS F (M, false) []) := ⟨_, rfl⟩
  have HQ : Hid (∀ e w', PartsAns w g N va q P e w' → Q e w') := fun e w' h => by rw [hQ, ← hP]; exact h
  rw [← hQ]
  clear hQ hP h
  go_enter Tryz.func99, Tryz.ntmps99
  go_wp2_with fail
  go_loopw [5] (fun _ wr => ∃ (f : Nat) (M' : List (List UInt8)) (o : List Pt) (vx : Value), Hid (OSt w wr g M' N va vx { q with parts := o }) ∧ Hid (P = partsS f (M', false) o) ∧ M'.length < f ∧ o.length + M'.length ≤ N) (fun _ wr => leftO g N wr)
  case atStart => exact ⟨F, M, [], vp, by rw [← hq]; exact Ho, HPP, hF, by simpa using hMN⟩
  case round =>
    obtain ⟨f, M', o, vx, Ox, Hx, hf, ho⟩ := hrel
    obtain ⟨f, rfl⟩ : ∃ f', f = f' + 1 := ⟨f - 1, by omega⟩
    have Hml := hideK Ox.out.left
    have HC := HP wr M' Ox.out.rd
    unfold PartAns at HC
    have Hb := hideK (fun h => (Hx.out.trans (partsS_bad (f := f) (s := (M', false)) (o := o) h)))
    have Hm := hideK (fun h => (Hx.out.trans (partsS_more (f := f) (s := (M', false)) (o := o) h)))
    have He := hideK (fun h => (Hx.out.trans (partsS_end (f := f) (s := (M', false)) (o := o) h)))
    have Hl := hideK (fun h => pat_len (M := M') h)
    generalize patS (M', false) = PP at *
    obtain ⟨pp, M3, bad⟩ := PP
    dsimp only at *
    clear Hx
    go_wp2_with fail
    refine HC.mono ?_
    rintro e w1 ⟨p, rfl, hpp, hr1, hb1⟩
    dsimp only
    have O1 := hideK ((Ox.out.to hr1 hb1).below (balloc w1 (.cells (encPt p).toArray 108)))
    have hz1 := (Ox.out.to hr1 hb1).lt
    have Hpp := hideK hpp
    clear HC hr1 hb1 Ox hpp
    cases bad
    rotate_left
    · have e1 := hideK (Hb.out rfl)
      unfold valPt
      go_wp2_with fail
      refine HQ.out _ _ ⟨by rw [e1.out]; rfl, vx, _, by rw [e1.out]; exact O1.out, fun h => ?_⟩
      rw [e1.out] at h
      cases h
    · have ep : p = pp := Hpp.out rfl
      subst ep
      unfold valPt
      obtain ⟨W2, hW2⟩ : ∃ W2, W2 = w1.alloc (.cells #[.string ⟨p.1.1.toArray⟩, .int .i64 p.1.2.1, .string ⟨p.1.2.2.1.toArray⟩, .string ⟨p.1.2.2.2.toArray⟩, .string ⟨p.2.1.1.toArray⟩, .int .i64 p.2.1.2.1, .string ⟨p.2.1.2.2.1.toArray⟩, .string ⟨p.2.1.2.2.2.toArray⟩, .string ⟨p.2.2.1.toArray⟩, .int .i64 p.2.2.2.1, .string ⟨p.2.2.2.2.1.toArray⟩, .string ⟨p.2.2.2.2.2.toArray⟩] 108) := ⟨_, rfl⟩
      have O2 : Hid (OSt w W2 g M3 N va vx { q with parts := o }) := by rw [hW2]; exact O1
      have a0 : W2.cell? ⟨w1.heap.size, 0, none⟩ = some (.string ⟨p.1.1.toArray⟩) := by rw [hW2]; exact newPtP w1 p 0 _ rfl
      have a1 : W2.cell? ⟨w1.heap.size, 1, none⟩ = some (.int .i64 p.1.2.1) := by rw [hW2]; exact newPtP w1 p 1 _ rfl
      have a2 : W2.cell? ⟨w1.heap.size, 2, none⟩ = some (.string ⟨p.1.2.2.1.toArray⟩) := by rw [hW2]; exact newPtP w1 p 2 _ rfl
      have a3 : W2.cell? ⟨w1.heap.size, 3, none⟩ = some (.string ⟨p.1.2.2.2.toArray⟩) := by rw [hW2]; exact newPtP w1 p 3 _ rfl
      have a4 : W2.cell? ⟨w1.heap.size, 4, none⟩ = some (.string ⟨p.2.1.1.toArray⟩) := by rw [hW2]; exact newPtP w1 p 4 _ rfl
      have a5 : W2.cell? ⟨w1.heap.size, 5, none⟩ = some (.int .i64 p.2.1.2.1) := by rw [hW2]; exact newPtP w1 p 5 _ rfl
      have a6 : W2.cell? ⟨w1.heap.size, 6, none⟩ = some (.string ⟨p.2.1.2.2.1.toArray⟩) := by rw [hW2]; exact newPtP w1 p 6 _ rfl
      have a7 : W2.cell? ⟨w1.heap.size, 7, none⟩ = some (.string ⟨p.2.1.2.2.2.toArray⟩) := by rw [hW2]; exact newPtP w1 p 7 _ rfl
      have a8 : W2.cell? ⟨w1.heap.size, 8, none⟩ = some (.string ⟨p.2.2.1.toArray⟩) := by rw [hW2]; exact newPtP w1 p 8 _ rfl
      have a9 : W2.cell? ⟨w1.heap.size, 9, none⟩ = some (.int .i64 p.2.2.2.1) := by rw [hW2]; exact newPtP w1 p 9 _ rfl
      have a10 : W2.cell? ⟨w1.heap.size, 10, none⟩ = some (.string ⟨p.2.2.2.2.1.toArray⟩) := by rw [hW2]; exact newPtP w1 p 10 _ rfl
      have a11 : W2.cell? ⟨w1.heap.size, 11, none⟩ = some (.string ⟨p.2.2.2.2.2.toArray⟩) := by rw [hW2]; exact newPtP w1 p 11 _ rfl
      have HW2 := hideK hW2
      clear hW2 O1
      obtain ⟨b, cap, W9, hr9, k9, f9, z9, o9⟩ := (O2.out.below ((RowKit.Below.refl _ _).drew)).appP p (by show o.length ≤ _; omega) 50
      have c1 := O2.out.cells.2.1
      have d1 := O2.out.free.2.1
      have O9 := hideK o9
      have hlen := Hl.out rfl
      clear o9
      dsimp only at O9 hr9 k9
      unfold encPt at hr9
      have hz2 := O2.out.lt
      go_upto_region 4 with fail
      rw [← HW2.out]
      go_region_law (refine step_appendO rfl (.tmp 18) (.tmp 20) 50 rfl _ _ rfl rfl hr9 ?_)
      all_goals
        generalize W9.setCell ⟨g + 1, 1, none⟩ (.slice (some ⟨b, 0, none⟩) (o.length + 1) cap) = W10 at *
        have HH := H2 W10 M3 O9.out.rd
        have e5 : isW (M3, false) [97, 110, 100] = isW (M3, false) wAnd := rfl
        have e6 : hasW (M3, false) [97, 110, 100] = hasW (M3, false) wAnd := rfl
        rw [e5, e6] at HH
        cases hA : isW (M3, false) wAnd with
        | true =>
          have e7 : (hasW (M3, false) wAnd).1 = M3.tail := by unfold hasW; rw [if_pos hA]
          have e8 : M3 = wAnd :: M3.tail := congrArg Prod.fst (isW_true hA)
          have e9 : M3.tail.length + 1 = M3.length := by rw [e8]; rfl
          have Hm2 := hideK (Hm.out hA)
          rw [hA, e7] at HH
          clear e5 e6 e7 e8 hA a0 a1 a2 a3 a4 a5 a6 a7 a8 a9 a10 a11 k9 f9 z9 hr9 c1 d1 O2
          generalize M3.tail = M4 at *
          go_wp2_with fail
          refine HH.mono ?_
          rintro e w11 ⟨rfl, hr11, hb11⟩
          dsimp only
          have O11 := hideK (O9.out.to hr11 hb11)
          clear HH hr11 hb11
          go_wp2_with fail
          go_roundw
          case rel => exact ⟨f, M4, o ++ [p], _, O11, Hm2, by omega, by simp; omega⟩
          case measure =>
            rw [Hml.out, O11.out.left]
            omega
        | false =>
          have e7 : (hasW (M3, false) wAnd).1 = M3 := by unfold hasW; rw [if_neg (by rw [hA]; simp)]
          have He2 := hideK (He.out hA)
          rw [hA, e7] at HH
          clear e5 e6 e7 hA a0 a1 a2 a3 a4 a5 a6 a7 a8 a9 a10 a11 k9 f9 z9 hr9 c1 d1 O2
          go_wp2_with fail
          refine HH.mono ?_
          rintro e w11 ⟨rfl, hr11, hb11⟩
          dsimp only
          have O11 := hideK (O9.out.to hr11 hb11)
          clear HH hr11 hb11
          go_wp2_with fail
          exact HQ.out _ _ ⟨by rw [He2.out]; rfl, _, _, by rw [He2.out]; exact O11.out, fun _ => by rw [He2.out]⟩
end Go.Proofs.YtenakehnnmencagGreatDoor

/- reader.order, reader.limit. -/
namespace Go.Proofs.YtenakehnnmencagGreatDoor
open Go Go.RowKit Go.Proofs Go.Maps
set_option synthInstance.maxSize 1000

theorem tk_name (M : List (List UInt8)) : nameS (M, false) = (tkV [] nameV varW M, tkM varW M, !tkB varW M) := by
  cases M with
  | nil => rfl
  | cons x r =>
    unfold nameS tkV tkM tkB nameV
    simp only [Bool.false_eq_true, if_false]
    by_cases hv : varW x = true
    · simp [hv]
    · have hv' : varW x = false := by simpa using hv
      simp [hv']
/-- what order and limit answer -/
def TailAns (w : World) (g N : Nat) (va vp : Value) (s : InS) (q1 : Qu) (e : Ending) (W' : World) : Prop := e = .returned (.bool (!s.2)) ∧ ∃ q', OSt w W' g s.1 N va vp q' ∧ (s.2 = false → q' = q1)
theorem ord_off' {M : List (List UInt8)} (h : isW (M, false) wOrder = false) : ordS (M, false) = ([], false, M, false) := by unfold ordS; rw [if_neg (by rw [h]; simp)]
theorem ord_bad' {M : List (List UInt8)} (h : isW (M, false) wOrder = true) (hb : tkB varW M.tail = false) : ordS (M, false) = (tkV [] nameV varW M.tail, false, tkM varW M.tail, true) := by
  unfold ordS
  rw [if_pos h, tk_name, hb]
  simp [isW_bad, hasW]
theorem ord_on' {M : List (List UInt8)} (h : isW (M, false) wOrder = true) (hb : tkB varW M.tail = true) : ordS (M, false) = (tkV [] nameV varW M.tail, isW (tkM varW M.tail, false) wDown, (hasW (tkM varW M.tail, false) wDown).1, false) := by
  unfold ordS
  rw [if_pos h, tk_name, hb]
  refine Prod.ext rfl (Prod.ext rfl (Prod.ext rfl ?_))
  show (hasW (tkM varW M.tail, false) wDown).2 = false
  unfold hasW
  split <;> rfl

set_option maxHeartbeats 8000000 in
set_option maxRecDepth 100000 in
theorem order_own (w : World) (g : Nat) (M : List (List UInt8)) (N : Nat) (va vp : Value) (q : Qu) (W : World) (h : OSt w W g M N va vp q) (h1 : q.order = []) (h2 : q.down = false) :
    Calls Tryz.prog 100 #[.pointer (some ⟨g, 0, none⟩), .pointer (some ⟨g + 1, 0, none⟩)] W (TailAns w g N va vp (ordS (M, false)).2.2 { q with order := (ordS (M, false)).1, down := (ordS (M, false)).2.1 }) := by
  have H1 := is_own wOrder g M N W h.rd
  have H2 := fun W1 M1 hr => is_own wDown g M1 N W1 hr
  have HV := fun W1 M1 hr => var_own g M1 N W1 hr
  unfold wOrder at H1
  unfold wDown at H2
  rw [show isW (M, false) [111, 114, 100, 101, 114] = isW (M, false) wOrder from rfl, show hasW (M, false) [111, 114, 100, 101, 114] = hasW (M, false) wOrder from rfl] at H1
  have Ho := hideK h
  obtain ⟨O, hO⟩ : ∃ O, O = ordS (M, false) := ⟨_, rfl⟩
  have HO := hideK hO
  obtain ⟨Q, hQ⟩ : ∃ Q, Q = TailAns w g N va vp (ordS (M, false)).2.2 { q with order := (ordS (M, false)).1, down := (ordS (M, false)).2.1 } := ⟨_, rfl⟩
  have HQ : Hid (∀ e w', TailAns w g N va vp O.2.2 { q with order := O.1, down := O.2.1 } e w' → Q e w') := fun e w' h => by rw [hQ, ← hO]; exact h
  rw [← hQ]
  clear hQ hO h
  cases hs : isW (M, false) wOrder with
  | false =>
    have e1 : (hasW (M, false) wOrder).1 = M := by unfold hasW; rw [if_neg (by rw [hs]; simp)]
    have e2 := hideK (HO.out.trans (ord_off' hs))
    rw [hs, e1] at H1
    clear hs e1 H2 HV HO
    go_enter Tryz.func100, Tryz.ntmps100
    go_wp2_with fail
    refine H1.mono ?_
    rintro e w1 ⟨rfl, hr1, hb1⟩
    dsimp only
    have O1 := hideK (Ho.out.to hr1 hb1)
    go_wp2_with fail
    refine HQ.out _ _ ⟨by rw [e2.out]; rfl, q, by rw [e2.out]; exact O1.out, fun _ => ?_⟩
    rw [e2.out]
    cases q
    simp_all
  | true =>
    have e1 : (hasW (M, false) wOrder).1 = M.tail := by unfold hasW; rw [if_pos hs]
    have eb := hideK (fun h => HO.out.trans (ord_bad' hs h))
    have eo := hideK (fun h => HO.out.trans (ord_on' hs h))
    rw [hs, e1] at H1
    clear hs e1 HO
    generalize M.tail = M1 at *
    go_enter Tryz.func100, Tryz.ntmps100
    go_wp2_with fail
    refine H1.mono ?_
    rintro e w1 ⟨rfl, hr1, hb1⟩
    dsimp only
    have O1 := hideK (Ho.out.to hr1 hb1)
    have HV1 := HV w1 M1 hr1
    generalize tkV [] nameV varW M1 = nx at *
    generalize tkM varW M1 = M2 at *
    generalize tkB varW M1 = b at *
    clear H1 hr1 hb1 Ho HV
    go_wp2_with fail
    refine HV1.mono ?_
    rintro e w2 ⟨rfl, hr2, hb2⟩
    dsimp only
    have O2 := hideK (O1.out.to hr2 hb2)
    cases b
    · have e2 := hideK (eb.out rfl)
      go_wp2_with fail
      refine HQ.out _ _ ⟨by rw [e2.out]; rfl, q, by rw [e2.out]; exact O2.out, fun h => ?_⟩
      rw [e2.out] at h
      cases h
    · have e2 := hideK (eo.out rfl)
      have HD := H2 w2 M2 hr2
      rw [show isW (M2, false) [100, 111, 119, 110] = isW (M2, false) wDown from rfl, show hasW (M2, false) [100, 111, 119, 110] = hasW (M2, false) wDown from rfl] at HD
      generalize isW (M2, false) wDown = d at *
      generalize (hasW (M2, false) wDown).1 = M3 at *
      clear HV1 hr2 hb2 eb eo O1 H2
      go_wp2_with fail
      refine HD.mono ?_
      rintro e w3 ⟨rfl, hr3, hb3⟩
      dsimp only
      have O3 := hideK (O2.out.to hr3 hb3)
      obtain ⟨x0, x1, x2, x3, x4, x5⟩ := O3.out.free
      obtain ⟨y0, y1, y2, y3, y4, y5⟩ := O3.out.cells
      have O5 := hideK ((O3.out.order nx).down d)
      clear hr3 hb3 HD O2
      go_wp2_with fail
      exact HQ.out _ _ ⟨by rw [e2.out]; rfl, _, by rw [e2.out]; exact O5.out, fun _ => by rw [e2.out]⟩

theorem limO_off {num : List UInt8 → Option Int} {M : List (List UInt8)} (h : isW (M, false) wLimit = false) : limO num (M, false) = (-1, M, false) := by unfold limO; rw [if_neg (by rw [h]; simp)]
/-- a reader of numbers, by what it tells -/
def numBy (V : List UInt8 → Int) (B : List UInt8 → Bool) (x : List UInt8) : Option Int := if B x = true then some (V x) else none
theorem limO_bad {V : List UInt8 → Int} {B : List UInt8 → Bool} {M : List (List UInt8)} (h : isW (M, false) wLimit = true) (hb : tkB B M.tail = false) : limO (numBy V B) (M, false) = (-1, tkM B M.tail, true) := by
  unfold limO
  rw [if_pos h]
  show (match M.tail with | [] => _ | w :: r => _) = _
  cases ht : M.tail with
  | nil => rfl
  | cons x r =>
    rw [ht] at hb
    have hx : B x = false := hb
    simp [numBy, hx, tkM, tkB]
theorem limO_on {V : List UInt8 → Int} {B : List UInt8 → Bool} {M : List (List UInt8)} (h : isW (M, false) wLimit = true) (hb : tkB B M.tail = true) : limO (numBy V B) (M, false) = (tkV 0 V B M.tail, tkM B M.tail, false) := by
  unfold limO
  rw [if_pos h]
  show (match M.tail with | [] => _ | w :: r => _) = _
  cases ht : M.tail with
  | nil => rw [ht] at hb; cases hb
  | cons x r =>
    rw [ht] at hb
    have hx : B x = true := hb
    simp [numBy, hx, tkM, tkB, tkV]
theorem entersRN : ∀ args w, (callFunc 136 args).run Tryz.prog w = .ok (.enter 136 args) w := enters_of Tryz.func136 (by kernel_rfl) rfl
set_option maxHeartbeats 8000000 in
set_option maxRecDepth 100000 in
theorem limit_own (V : List UInt8 → Int) (B : List UInt8 → Bool) (w : World) (g : Nat) (M : List (List UInt8)) (N : Nat) (va vp : Value) (q : Qu) (W : World) (hnum : ∀ W1, RowKit.Below w.heap.size w W1 → ReadsW 136 #[] (fun x => .int .i64 (V x)) B W1) (h : OSt w W g M N va vp q) (h1 : q.lim = -1) :
    Calls Tryz.prog 101 #[.pointer (some ⟨g, 0, none⟩), .pointer (some ⟨g + 1, 0, none⟩)] W (TailAns w g N va vp (limO (numBy V B) (M, false)).2 { q with lim := (limO (numBy V B) (M, false)).1 }) := by
  have H1 := is_own wLimit g M N W h.rd
  unfold wLimit at H1
  rw [show isW (M, false) [108, 105, 109, 105, 116] = isW (M, false) wLimit from rfl, show hasW (M, false) [108, 105, 109, 105, 116] = hasW (M, false) wLimit from rfl] at H1
  have Ho := hideK h
  have HN := hideK hnum
  obtain ⟨O, hO⟩ : ∃ O, O = limO (numBy V B) (M, false) := ⟨_, rfl⟩
  have HO := hideK hO
  obtain ⟨Q, hQ⟩ : ∃ Q, Q = TailAns w g N va vp (limO (numBy V B) (M, false)).2 { q with lim := (limO (numBy V B) (M, false)).1 } := ⟨_, rfl⟩
  have HQ : Hid (∀ e w', TailAns w g N va vp O.2 { q with lim := O.1 } e w' → Q e w') := fun e w' h => by rw [hQ, ← hO]; exact h
  rw [← hQ]
  clear hQ hO h hnum
  cases hs : isW (M, false) wLimit with
  | false =>
    have e1 : (hasW (M, false) wLimit).1 = M := by unfold hasW; rw [if_neg (by rw [hs]; simp)]
    have e2 := hideK (HO.out.trans (limO_off hs))
    rw [hs, e1] at H1
    clear hs e1 HO HN
    go_enter Tryz.func101, Tryz.ntmps101
    go_wp2_with fail
    refine H1.mono ?_
    rintro e w1 ⟨rfl, hr1, hb1⟩
    dsimp only
    have O1 := hideK (Ho.out.to hr1 hb1)
    go_wp2_with fail
    refine HQ.out _ _ ⟨by rw [e2.out]; rfl, q, by rw [e2.out]; exact O1.out, fun _ => ?_⟩
    rw [e2.out]
    cases q
    simp_all
  | true =>
    have e1 : (hasW (M, false) wLimit).1 = M.tail := by unfold hasW; rw [if_pos hs]
    have eb := hideK (fun h => HO.out.trans (limO_bad hs h))
    have eo := hideK (fun h => HO.out.trans (limO_on hs h))
    rw [hs, e1] at H1
    clear hs e1 HO
    generalize M.tail = M1 at *
    go_enter Tryz.func101, Tryz.ntmps101
    go_wp2_with fail
    refine H1.mono ?_
    rintro e w1 ⟨rfl, hr1, hb1⟩
    dsimp only
    have O1 := hideK (Ho.out.to hr1 hb1)
    have HV1 := takenI_any 136 #[] V B g M1 N w1 hr1 entersRN (HN.out w1 O1.out.bel)
    generalize tkV 0 V B M1 = nx at *
    generalize tkM B M1 = M2 at *
    generalize tkB B M1 = b at *
    clear H1 hr1 hb1 Ho HN
    go_wp2_with fail
    refine HV1.mono ?_
    rintro e w2 ⟨rfl, hr2, hb2⟩
    dsimp only
    have O2 := hideK (O1.out.to hr2 hb2)
    cases b
    · have e2 := hideK (eb.out rfl)
      go_wp2_with fail
      refine HQ.out _ _ ⟨by rw [e2.out]; rfl, q, by rw [e2.out]; exact O2.out, fun h => ?_⟩
      rw [e2.out] at h
      cases h
    · have e2 := hideK (eo.out rfl)
      obtain ⟨x0, x1, x2, x3, x4, x5⟩ := O2.out.free
      obtain ⟨y0, y1, y2, y3, y4, y5⟩ := O2.out.cells
      have O5 := hideK (O2.out.lim nx)
      clear hr2 hb2 HV1 O1
      go_wp2_with fail
      exact HQ.out _ _ ⟨by rw [e2.out]; rfl, _, by rw [e2.out]; exact O5.out, fun _ => by rw [e2.out]⟩
end Go.Proofs.YtenakehnnmencagGreatDoor

/- The program's reader of numbers, in plain words: digits alone, with no 0 ahead that is not needed; what strconv.Atoi tells of them, or the greatest int. -/
namespace Go.Proofs.YtenakehnnmencagGreatDoor
open Go Go.RowKit Go.Proofs
set_option synthInstance.maxSize 1000

theorem dec_digits : ∀ (f n : Nat), n ≤ f → Lib.decDigits n = digitsN n
  | 0, n, h => by
    have h0 : n = 0 := by omega
    subst h0
    rw [Lib.decDigits_one (by omega), digits_lt (by omega)]
  | f + 1, n, h => by
    by_cases h10 : n < 10
    · rw [Lib.decDigits_one h10, digits_lt h10]
    · rw [Lib.decDigits, dif_neg h10, digits_ge h10, dec_digits f (n / 10) (by omega)]
theorem itoa_digits {n : Int} (h : 0 ≤ n) : Lib.itoa n = digitsN n.toNat := by
  unfold Lib.itoa
  rw [if_neg (by omega), dec_digits _ _ (Nat.le_refl _)]
/-- a rune that is no digit -/
def offD (r : Nat) : Bool := decide (r < 48) || decide (57 < r)
theorem idx_offD (s : ByteArray) : ∀ (f pos : Nat), s.size ≤ pos + f → (0 ≤ Lib.idxFuncFrom offD true s f pos ↔ ∃ k, ∃ h : k < s.size, pos ≤ k ∧ digB (s[k].toNat : Int) = false)
  | 0, pos, hf => by
    simp only [Lib.idxFuncFrom]
    constructor
    · intro h; omega
    · rintro ⟨k, h, hk, _⟩; omega
  | f + 1, pos, hf => by
    unfold Lib.idxFuncFrom
    by_cases hp : pos < s.size
    · rw [if_pos hp]
      by_cases hb : s[pos].toNat < 128
      · rw [decode_ascii s pos hp hb]
        simp only
        by_cases ho : offD s[pos].toNat = true
        · rw [if_pos ho]
          refine ⟨fun _ => ⟨pos, hp, Nat.le_refl _, ?_⟩, fun _ => by omega⟩
          simp [offD] at ho
          simp [digB]; omega
        · rw [if_neg ho, idx_offD s f (pos + 1) (by omega)]
          constructor
          · rintro ⟨k, h, hk, e⟩; exact ⟨k, h, by omega, e⟩
          · rintro ⟨k, h, hk, e⟩
            refine ⟨k, h, ?_, e⟩
            rcases Nat.lt_or_ge pos k with hlt | hge
            · omega
            · have hkp : k = pos := by omega
              subst hkp
              simp [offD] at ho
              simp [digB] at e
              omega
      · have hh := (decode_high s pos hp (by omega)).1
        have ho : offD (Utf8.decode s pos).1 = true := by simp [offD]; omega
        rw [if_pos ho]
        refine ⟨fun _ => ⟨pos, hp, Nat.le_refl _, ?_⟩, fun _ => by omega⟩
        simp [digB]; omega
    · rw [if_neg hp]
      constructor
      · intro h; omega
      · rintro ⟨k, h, hk, _⟩; omega
theorem offAnyD (s : ByteArray) : decide (0 ≤ Lib.idxFunc offD true s) = !allB digB s.data.toList := by
  have h := idx_offD s s.size 0 (by omega)
  have e : (∃ k, ∃ h : k < s.size, 0 ≤ k ∧ digB (s[k].toNat : Int) = false) ↔ allB digB s.data.toList = false := by
    unfold allB
    rw [List.all_eq_false]
    constructor
    · rintro ⟨k, hk, _, e⟩
      exact ⟨s.data.toList[k]'(by simpa using hk), List.getElem_mem _, by rw [show s.data.toList[k]'(by simpa using hk) = s[k] from rfl, e]; simp⟩
    · rintro ⟨x, hx, e⟩
      obtain ⟨k, hk, rfl⟩ := List.getElem_of_mem hx
      have hk' : k < s.size := by simpa using hk
      exact ⟨k, hk', Nat.zero_le _, by rw [show s[k] = s.data.toList[k] from rfl]; simpa using e⟩
  unfold Lib.idxFunc
  cases ha : allB digB s.data.toList
  · simpa using h.2 (e.2 ha)
  · have : ¬ (0 ≤ Lib.idxFuncFrom offD true s s.size 0) := fun h0 => by
      have := e.1 (h.1 h0)
      rw [ha] at this
      cases this
    simp [this]

/-- is a word a number? and which -/
def atoB (x : List UInt8) : Bool := !x.isEmpty && (allB digB x && (decide (x = [48]) || !decide (x.head? = some 48)))
def atoW (x : List UInt8) : Int := match Lib.atoiAll x with
  | .ok v => v
  | _ => 9223372036854775807
def atoV (x : List UInt8) : Int := if atoB x = true then atoW x else 0
theorem uint_digits : ∀ (l : List UInt8) (acc u : Nat), 1 ≤ acc → Lib.parseUint10 acc l = .ok u → digitsN u = digitsN acc ++ l
  | [], acc, u, _, h => by
    simp only [Lib.parseUint10] at h
    injection h with h
    rw [h, List.append_nil]
  | c :: r, acc, u, ha, h => by
    simp only [Lib.parseUint10] at h
    split at h
    · rename_i hc
      split at h
      · cases h
      · split at h
        · cases h
        · rw [uint_digits r _ u (by omega) h, digits_ge (by omega)]
          have e1 : (acc * 10 + (c.toNat - 48)) / 10 = acc := by omega
          have e2 : 48 + (acc * 10 + (c.toNat - 48)) % 10 = c.toNat := by omega
          rw [e1, e2, UInt8.ofNat_toNat, List.append_assoc]
          rfl
    · cases h
theorem ato_digits {x : List UInt8} {v : Int} (hb : atoB x = true) (h : Lib.atoiAll x = .ok v) : 0 ≤ v ∧ digitsN v.toNat = x := by
  cases x with
  | nil => simp [atoB] at hb
  | cons c r =>
    simp only [atoB, Bool.and_eq_true, Bool.or_eq_true, decide_eq_true_eq, Bool.not_eq_true', decide_eq_false_iff_not] at hb
    obtain ⟨_, hd, hz⟩ := hb
    have hc : 48 ≤ c.toNat ∧ c.toNat ≤ 57 := by
      have := List.all_eq_true.1 hd c (by simp)
      simp [digB] at this
      omega
    rw [Lib.atoiAll_plain c r (by omega) (by omega)] at h
    unfold Lib.parseMag at h
    rw [if_neg (by simp)] at h
    cases hp : Lib.parseUint10 0 (c :: r) with
    | «syntax» => rw [hp] at h; cases h
    | range => rw [hp] at h; cases h
    | ok u =>
      rw [hp] at h
      simp only [Lib.signless] at h
      split at h
      · cases h
      · injection h with h
        subst h
        refine ⟨by omega, ?_⟩
        rw [Int.toNat_natCast]
        rcases hz with hz | hz
        · rw [hz] at hp ⊢
          have e : u = 0 := by
            have : Lib.parseUint10 0 [48] = .ok 0 := by decide
            rw [this] at hp
            injection hp with hp
            exact hp.symm
          rw [e]
          rfl
        · have hne : c.toNat ≠ 48 := fun e => hz (by
            show some c = some 48
            rw [show c = 48 from UInt8.toNat_inj.1 e])
          simp only [Lib.parseUint10] at hp
          rw [if_pos hc, if_neg (by omega), if_neg (by omega)] at hp
          rw [uint_digits r _ u (by omega) hp, digits_lt (by omega)]
          have e2 : 48 + (0 * 10 + (c.toNat - 48)) = c.toNat := by omega
          rw [e2, UInt8.ofNat_toNat]
          rfl
theorem atoW_fit (x : List UInt8) (hb : atoB x = true) : 0 ≤ atoW x ∧ atoW x ≤ 9223372036854775807 := by
  unfold atoW
  cases ha : Lib.atoiAll x with
  | ok v => exact ⟨(ato_digits hb ha).1, (Lib.atoiAll_bounds ha).2⟩
  | «syntax» => exact ⟨by simp, by simp⟩
  | range => exact ⟨by simp, by simp⟩
theorem ato_small (n : Nat) (h : n ≤ 500) : atoB (digitsN n) = true ∧ Lib.atoiAll (digitsN n) = .ok (n : Int) := by
  have key : ∀ m : Fin 501, atoB (digitsN m.val) = true ∧ Lib.atoiAll (digitsN m.val) = .ok (m.val : Int) := by decide +kernel
  exact key ⟨n, by omega⟩
theorem ato_some {x : List UInt8} {n : Int} (h : numBy atoV atoB x = some n) : atoB x = true ∧ n = atoW x := by
  unfold numBy at h
  split at h
  · rename_i hb
    injection h with h
    unfold atoV at h
    rw [if_pos hb] at h
    exact ⟨hb, h.symm⟩
  · cases h
theorem ato_ok : NumOK (numBy atoV atoB) where
  made n h := by
    obtain ⟨h1, h2⟩ := ato_small n h
    unfold numBy atoV atoW
    rw [if_pos h1, if_pos h1, h2]
  out x n h hn := by
    obtain ⟨hb, rfl⟩ := ato_some h
    unfold atoW at hn ⊢
    cases ha : Lib.atoiAll x with
    | ok v => exact ato_digits hb ha
    | «syntax» => rw [ha] at hn; simp at hn
    | range => rw [ha] at hn; simp at hn
  fit x n h := by
    obtain ⟨hb, rfl⟩ := ato_some h
    exact atoW_fit x hb
end Go.Proofs.YtenakehnnmencagGreatDoor

/- ask.readNumber; what must be laid for strconv's Atoi and Itoa. -/
namespace Go.Proofs.YtenakehnnmencagGreatDoor
open Go Go.RowKit Go.Proofs Go.Maps Go.Sort
set_option synthInstance.maxSize 1000

/-- strconv's table and its two errors are laid -/
structure NumLaid (w : World) : Prop where
  tab : Lib.TabIs Tryz.prog w "internal/strconv.uint64pow10" .u64 Lib.pow10Tab
  syn : ∃ tp p, w.var? Tryz.prog "strconv.ErrSyntax" = some #[.iface tp p]
  rng : ∃ tp p, w.var? Tryz.prog "strconv.ErrRange" = some #[.iface tp p]
theorem var_below {w w' : World} {name : String} {cs : Array Value} (h : w.var? Tryz.prog name = some cs) (hb : RowKit.Below w.heap.size w w') : w'.var? Tryz.prog name = some cs := by
  unfold World.var? at h ⊢
  cases hg : Tryz.prog.globalNamed name with
  | none => rw [hg] at h; simp at h
  | some g =>
    rw [hg] at h
    simp only [Option.bind_some] at h ⊢
    cases hh : w.heap[g]? with
    | none => rw [hh] at h; simp at h
    | some o =>
      have hlt : g < w.heap.size := (Array.getElem?_eq_some_iff.1 hh).1
      rw [hb.block g hlt]
      exact h
theorem NumLaid.below {w w' : World} (h : NumLaid w) (hb : RowKit.Below w.heap.size w w') : NumLaid w' := by
  obtain ⟨a, b, h1⟩ := h.syn
  obtain ⟨c, d, h2⟩ := h.rng
  exact ⟨var_below h.tab hb, ⟨a, b, var_below h1 hb⟩, ⟨c, d, var_below h2 hb⟩⟩
theorem atoi_cases (x : List UInt8) (w : World) (hx : x.length ≤ 100000000) (hok : NumLaid w) :
    Calls Tryz.prog 170 #[.string ⟨x.toArray⟩] w fun e w' => RowKit.Below w.heap.size w w' ∧ ((∃ v, atoW x = v ∧ e = .returned (.tuple #[.int .i64 v, .nilIface])) ∨ (atoW x = 9223372036854775807 ∧ ∃ v T pe, e = .returned (.tuple #[.int .i64 v, .iface T pe]))) := by
  have hs : (⟨x.toArray⟩ : ByteArray).size = x.length := rfl
  cases ha : Lib.atoiAll x with
  | ok v =>
    refine (Tryz.strconv_Atoi_ok ⟨x.toArray⟩ (by omega) v ha w).mono ?_
    rintro e w' ⟨rfl, h⟩
    refine ⟨?_, Or.inl ⟨v, by unfold atoW; rw [ha], rfl⟩⟩
    rcases h with rfl | ⟨t, rfl⟩
    · exact RowKit.Below.refl _ _
    · exact Lib.bytesWorld_below _ _ _
  | «syntax» =>
    obtain ⟨tp, p, hv⟩ := hok.syn
    refine (Tryz.strconv_Atoi_syntax_var ⟨x.toArray⟩ (by omega) ha tp p w hv).mono ?_
    rintro e w' ⟨N, rfl, _, _, hb⟩
    exact ⟨hb, Or.inr ⟨by unfold atoW; rw [ha], _, _, _, rfl⟩⟩
  | range =>
    obtain ⟨tp, p, hv⟩ := hok.rng
    refine (Tryz.strconv_Atoi_range_var ⟨x.toArray⟩ (by omega) ha tp p w hv).mono ?_
    rintro e w' ⟨N, rfl, _, _, hb⟩
    exact ⟨hb, Or.inr ⟨by unfold atoW; rw [ha], _, _, _, rfl⟩⟩
theorem grow_below (w : World) (k : Nat) (os : Array Obj) : RowKit.Below w.heap.size w (grow (w.drewN k) os) :=
  ⟨rfl, rfl, rfl, by show w.heap.size ≤ (w.heap ++ os).size; rw [Array.size_append]; omega, fun j hj => by show (w.heap ++ os)[j]? = _; exact Array.getElem?_append_left hj⟩
theorem Itoa_own (n : Int) (h0 : 0 ≤ n) (h1 : n ≤ 9223372036854775807) (w : World) (hok : NumLaid w) :
    Calls Tryz.prog 127 #[.int .i64 n] w fun e w' => e = .returned (.string ⟨(digitsN n.toNat).toArray⟩) ∧ RowKit.Below w.heap.size w w' := by
  refine (Tryz.strconv_Itoa n (by omega) h1 w hok.tab).mono ?_
  rintro e w' ⟨rfl, k, os, rfl⟩
  exact ⟨by rw [itoa_digits h0], grow_below _ _ _⟩
theorem offD_any (x : Nat) (w : World) : Calls Tryz.prog 202 #[.int .i32 x] w fun e w' => e = .returned (.bool (offD x)) ∧ ∃ q, w' = w.drewN q := by
  have fin : Hid (offD x = (decide (x < 48) || decide (57 < x))) := rfl
  by_cases h : x < 48
  · have h' : decide ((x : Int) < 48) = true := by simp; omega
    go_enter Tryz.func202, Tryz.ntmps202
    go_wp2
    go_ret
    exact ⟨ret_bool (by rw [fin.out]; simp [h]), 0, rfl⟩
  · have h' : decide ((x : Int) < 48) = false := by simp; omega
    go_enter Tryz.func202, Tryz.ntmps202
    go_wp2
    go_ret
    exact ⟨ret_bool (by rw [fin.out]; simp [h]; omega), 0, rfl⟩
theorem enters202 : ∀ args w, (callFunc 202 args).run Tryz.prog w = .ok (.enter 202 args) w := enters_of Tryz.func202 (by kernel_rfl) rfl
set_option maxHeartbeats 2000000 in
theorem isNumber_any (x : List UInt8) (w : World) (hx : x.length ≤ maxLen) :
    Calls Tryz.prog 169 #[.string ⟨x.toArray⟩] w fun e w' => e = .returned (.bool (atoB x)) ∧ RowKit.Below w.heap.size w w' := by
  have H := fun W => Tryz.strings_ContainsFunc 202 #[] enters202 offD ⟨x.toArray⟩ W (fun W' y _ => offD_any y W')
  have e : decide (0 ≤ Lib.idxFunc offD true ⟨x.toArray⟩) = !allB digB x := offAnyD ⟨x.toArray⟩
  rw [e] at H
  clear e
  cases x with
  | nil =>
    clear H
    go_enter Tryz.func169, Tryz.ntmps169
    go_wp2
    go_ret
    exact ⟨rfl, RowKit.Below.refl _ _⟩
  | cons c r =>
    have fin : Hid (atoB (c :: r) = (allB digB (c :: r) && (decide (c :: r = [48]) || !decide (c = 48)))) := by
      show _ = _
      simp [atoB]
    have h48 : Hid (decide (c = 48) = decide ((c.toNat : Int) = 48)) := by
      show _ = _
      rw [decide_eq_decide]
      constructor
      · rintro rfl; rfl
      · intro h; exact UInt8.toNat_inj.1 (by show c.toNat = 48; omega)
    generalize hq : allB digB (c :: r) = d at *
    clear hq
    unfold maxLen at hx
    have hx' : r.length + 1 ≤ 9223372036854775807 := hx
    cases d with
    | false =>
      go_enter Tryz.func169, Tryz.ntmps169
      go_wp2_with (go_at_call 190; refine (H _).mono ?_; rintro e w' ⟨rfl, hb⟩)
      go_ret
      exact ⟨ret_bool (by rw [fin.out]; rfl), by assumption⟩
    | true =>
      by_cases h0 : c :: r = [48]
      · have h0' : decide (c :: r = [48]) = true := by simpa using h0
        rw [h0', Bool.true_or, Bool.and_true] at fin
        have F : Hid (atoB (c :: r) = true) := fin.out
        rw [F.out]
        clear F fin h48 h0'
        obtain ⟨rfl, rfl⟩ : c = 48 ∧ r = [] := by simpa using h0
        clear h0
        go_enter Tryz.func169, Tryz.ntmps169
        go_wp2_with (go_at_call 190; refine (H _).mono ?_; rintro e w' ⟨rfl, hb⟩)
        go_ret
        exact ⟨rfl, by assumption⟩
      · have h0' : decide (c :: r = [48]) = false := by simpa using h0
        rw [h0', Bool.false_or, Bool.true_and] at fin
        have F : Hid (atoB (c :: r) = !decide ((c.toNat : Int) = 48)) := fin.out.trans (by rw [h48.out])
        have hne : (c == 48 && r.isEmpty) = false := by
          cases h1 : (c == 48) with
          | false => rfl
          | true =>
            cases h2 : r.isEmpty with
            | false => rfl
            | true =>
              exfalso
              simp at h1 h2
              exact h0 (by rw [h1, h2])
        clear fin h48 h0' h0
        rw [F.out]
        clear F
        go_enter Tryz.func169, Tryz.ntmps169
        go_wp2_with (go_at_call 190; refine (H _).mono ?_; rintro e w' ⟨rfl, hb⟩)
        go_ret
        exact ⟨ret_bool (by first | rfl | (rw [Bool.eq_iff_iff]; simp)), by assumption⟩
set_option maxHeartbeats 4000000 in
theorem readNumber_own (w : World) (hok : NumLaid w) : ReadsW 136 #[] (fun x => .int .i64 (atoV x)) atoB w := fun W x hx hW => by
  have okW := hok.below hW
  have HN := isNumber_any x W (by unfold maxLen; omega)
  have HA := fun W1 (h : RowKit.Below W.heap.size W W1) => atoi_cases x W1 hx (okW.below h)
  show Calls Tryz.prog 136 #[.string ⟨x.toArray⟩] W _
  dsimp only
  cases hB : atoB x with
  | false =>
    have eV : Hid (atoV x = 0) := by show _ = _; unfold atoV; rw [if_neg (by rw [hB]; simp)]
    rw [hB] at HN
    rw [eV.out]
    clear eV hB HA
    go_enter Tryz.func136, Tryz.ntmps136
    go_wp2_with fail
    refine HN.mono ?_
    rintro e w1 ⟨rfl, hb1⟩
    dsimp only
    go_wp2_with fail
    exact bodyPost_ret (v := .tuple #[.int .i64 0, .bool false]) (by simp [results, Tryz.results136, go_sem]) rfl ⟨rfl, hb1⟩
  | true =>
    have eV : Hid (atoV x = atoW x) := by show _ = _; unfold atoV; rw [if_pos hB]
    rw [hB] at HN
    rw [eV.out]
    clear eV hB
    generalize atoW x = av at *
    go_enter Tryz.func136, Tryz.ntmps136
    go_wp2_with fail
    refine HN.mono ?_
    rintro e w1 ⟨rfl, hb1⟩
    dsimp only
    go_wp2_with fail
    refine (HA w1 hb1).mono ?_
    rintro e w2 ⟨hb2, ⟨v, ha, rfl⟩ | ⟨ha, v, T, pe, rfl⟩⟩
    · dsimp only
      go_wp2_with fail
      exact bodyPost_ret (v := .tuple #[.int .i64 v, .bool true]) (by simp [results, Tryz.results136, go_sem]) rfl ⟨by rw [ha], bstep hb1 hb2⟩
    · dsimp only
      go_wp2_with fail
      exact bodyPost_ret (v := .tuple #[.int .i64 9223372036854775807, .bool true]) (by simp [results, Tryz.results136, go_sem]) rfl ⟨by rw [ha], bstep hb1 hb2⟩
end Go.Proofs.YtenakehnnmencagGreatDoor

/- ask.read: what a text's words are read as. -/
namespace Go.Proofs.YtenakehnnmencagGreatDoor
open Go Go.RowKit Go.Proofs Go.Maps
set_option synthInstance.maxSize 1000

theorem own_capW {W : World} {base : Nat} {v : Value} {t : List (List UInt8)} (h : W.ownsRow base 9 1 v t.length (t.map encV)) : ∃ ad cap, v = .slice ad t.length cap ∧ SlW W ad t ∧ t.length ≤ cap := by
  obtain ⟨ad, cap, e, hs⟩ := own_w h
  refine ⟨ad, cap, e, hs, ?_⟩
  rcases h.2 with ⟨h1, h2⟩ | ⟨g, c, cur, h1, _, _, h3, _⟩
  · rw [h2]; exact Nat.zero_le _
  · rw [h1] at e
    injection e with _ _ e3
    omega
theorem own_capP {W : World} {base : Nat} {v : Value} {t : List Pt} (h : W.ownsRow base 108 12 v t.length (cellsPt t)) : ∃ ad cap, v = .slice ad t.length cap ∧ SlPt W ad t ∧ t.length ≤ cap := by
  obtain ⟨ad, cap, e, hs⟩ := own_slPt h
  refine ⟨ad, cap, e, hs, ?_⟩
  rcases h.2 with ⟨h1, h2⟩ | ⟨g, c, cur, h1, _, _, h3, _⟩
  · rw [h2]; exact Nat.zero_le _
  · rw [h1] at e
    injection e with _ _ e3
    omega
theorem own_newO {W : World} {base : Nat} {e : TypeId} {sz : Nat} {ad : Option Addr} {n cap : Nat} {cs : List Value} (h : W.ownsRow base e sz (.slice ad n cap) n cs) : ∀ a, ad = some a → base ≤ a.block := fun a ha => by
  subst ha
  exact (h.lt a.block rfl).1
theorem ost_start (w : World) (s : List UInt8) (hl : s.length ≤ 100000000) :
    OSt w (((w.alloc (.cells #[.slice none 0 0, .slice none 0 0, .string ⟨#[]⟩, .bool false, .bool false, .int .i64 0] 52)).alloc (.cells #[.string ⟨s.toArray⟩, .bool true, .int .i64 0] 152)).alloc (.cells #[.slice none 0 0, .slice none 0 0, .string ⟨#[]⟩, .bool false, .bool false, .int .i64 (-1)] 52)) (w.heap.size + 1) (wordsL s) (wordsL s).length (.slice none 0 0) (.slice none 0 0) ⟨[], [], [], false, false, -1⟩ := by
  obtain ⟨w1, h1⟩ : ∃ w1, w1 = w.alloc (.cells #[.slice none 0 0, .slice none 0 0, .string ⟨#[]⟩, .bool false, .bool false, .int .i64 0] 52) := ⟨_, rfl⟩
  obtain ⟨w2, h2⟩ : ∃ w2, w2 = w1.alloc (.cells #[.string ⟨s.toArray⟩, .bool true, .int .i64 0] 152) := ⟨_, rfl⟩
  obtain ⟨w3, h3⟩ : ∃ w3, w3 = w2.alloc (.cells #[.slice none 0 0, .slice none 0 0, .string ⟨#[]⟩, .bool false, .bool false, .int .i64 (-1)] 52) := ⟨_, rfl⟩
  rw [← h1, ← h2, ← h3]
  have z1 : w1.heap.size = w.heap.size + 1 := by rw [h1]; simp
  have z2 : w2.heap.size = w.heap.size + 2 := by rw [h2]; simp; omega
  have b1 : RowKit.Below w.heap.size w w1 := by rw [h1]; exact balloc _ _
  have b2 : RowKit.Below w1.heap.size w1 w2 := by rw [h2]; exact balloc _ _
  have b3 : RowKit.Below w2.heap.size w2 w3 := by rw [h3]; exact balloc _ _
  have g2 : w2.heap[w.heap.size + 1]? = some (.cells #[.string ⟨s.toArray⟩, .bool true, .int .i64 0] 152) := by rw [h2]; exact heap_alloc_at _ _ z1.symm
  have g3 : w3.heap[w.heap.size + 1]? = some (.cells #[.string ⟨s.toArray⟩, .bool true, .int .i64 0] 152) := (b3.block _ (by omega)).trans g2
  have hw := (words_len s).1
  refine ⟨⟨⟨s, true, ?_, ?_, rfl, hl⟩, ?_, ?_, ?_, ?_, Nat.le_refl _, by omega⟩, bstep (bstep b1 b2) b3, by omega, ?_, ?_, World.ownsRow_nil _ _ _ _, World.ownsRow_nil _ _ _ _, fun g h => by cases h⟩
  · simp [World.cell?, g3]
  · simp [World.cell?, g3]
  · simp [World.cell?, g3]
  · simp [World.frozen?, g3]
  · simp [World.frozen?, g3]
  · simp [World.frozen?, g3]
  · refine (b3.block _ (by omega)).trans ((b2.block _ (by omega)).trans ?_)
    rw [h1]; exact heap_alloc_new w _
  · rw [h3]; exact heap_alloc_at _ _ (by omega)
/-- the question is put into the answer's box -/
theorem OSt.six {w W : World} {g N : Nat} {M : List (List UInt8)} {q : Qu} {vd pd : Option Addr} {vc pc : Nat} (h : OSt w W g M N (.slice vd q.vars.length vc) (.slice pd q.parts.length pc) q) (v0 v1 v2 v3 v4 v5 : Value) :
    QuIn ((((((W.setCell ⟨w.heap.size, 0, none⟩ v0).setCell ⟨w.heap.size, 1, none⟩ v1).setCell ⟨w.heap.size, 2, none⟩ v2).setCell ⟨w.heap.size, 3, none⟩ v3).setCell ⟨w.heap.size, 4, none⟩ v4).setCell ⟨w.heap.size, 5, none⟩ v5).drew q vd pd ∧ RowKit.Below w.heap.size w ((((((W.setCell ⟨w.heap.size, 0, none⟩ v0).setCell ⟨w.heap.size, 1, none⟩ v1).setCell ⟨w.heap.size, 2, none⟩ v2).setCell ⟨w.heap.size, 3, none⟩ v3).setCell ⟨w.heap.size, 4, none⟩ v4).setCell ⟨w.heap.size, 5, none⟩ v5).drew := by
  have hr := h.rg
  have hb : RowKit.Below w.heap.size w ((((((W.setCell ⟨w.heap.size, 0, none⟩ v0).setCell ⟨w.heap.size, 1, none⟩ v1).setCell ⟨w.heap.size, 2, none⟩ v2).setCell ⟨w.heap.size, 3, none⟩ v3).setCell ⟨w.heap.size, 4, none⟩ v4).setCell ⟨w.heap.size, 5, none⟩ v5) :=
    (((((h.bel.setCell (p := ⟨w.heap.size, 0, none⟩) (Nat.le_refl _) _).setCell (p := ⟨w.heap.size, 1, none⟩) (Nat.le_refl _) _).setCell (p := ⟨w.heap.size, 2, none⟩) (Nat.le_refl _) _).setCell (p := ⟨w.heap.size, 3, none⟩) (Nat.le_refl _) _).setCell (p := ⟨w.heap.size, 4, none⟩) (Nat.le_refl _) _).setCell (p := ⟨w.heap.size, 5, none⟩) (Nat.le_refl _) _
  have k : ∀ j, j ≠ w.heap.size → ((((((W.setCell ⟨w.heap.size, 0, none⟩ v0).setCell ⟨w.heap.size, 1, none⟩ v1).setCell ⟨w.heap.size, 2, none⟩ v2).setCell ⟨w.heap.size, 3, none⟩ v3).setCell ⟨w.heap.size, 4, none⟩ v4).setCell ⟨w.heap.size, 5, none⟩ v5).heap[j]? = W.heap[j]? := fun j hj => by
    rw [heapO_other _ _ _ _ _ hj, heapO_other _ _ _ _ _ hj, heapO_other _ _ _ _ _ hj, heapO_other _ _ _ _ _ hj, heapO_other _ _ _ _ _ hj, heapO_other _ _ _ _ _ hj]
  obtain ⟨a1, c1, e1, s1⟩ := own_w (rowO_keep h.vars fun j hj => k j (by have := (h.vars.lt j hj).1; omega))
  obtain ⟨a2, c2, e2, s2⟩ := own_slPt (rowO_keep h.parts fun j hj => k j (by have := (h.parts.lt j hj).1; omega))
  injection e1 with e1 _ _
  injection e2 with e2 _ _
  subst e1 e2
  generalize (((((W.setCell ⟨w.heap.size, 0, none⟩ v0).setCell ⟨w.heap.size, 1, none⟩ v1).setCell ⟨w.heap.size, 2, none⟩ v2).setCell ⟨w.heap.size, 3, none⟩ v3).setCell ⟨w.heap.size, 4, none⟩ v4).setCell ⟨w.heap.size, 5, none⟩ v5 = W6 at *
  exact ⟨⟨s1.below (RowKit.Below.refl _ _).drew, s2.below (RowKit.Below.refl _ _).drew⟩, hb.drew⟩
/-- what read answers -/
def ReadAns (num : List UInt8 → Option Int) (w : World) (s : List UInt8) (e : Ending) (w' : World) : Prop := ∃ q vd vc pd pc, e = .returned (.tuple #[valQ q vd vc pd pc, .int .i64 (((wordsL s).length - (ownQ num (wordsL s)).2.1.length : Nat) : Int), .bool (!(ownQ num (wordsL s)).2.2)]) ∧ QuIn w' q vd pd ∧ q.vars.length ≤ vc ∧ q.parts.length ≤ pc ∧ ((ownQ num (wordsL s)).2.2 = false → q = (ownQ num (wordsL s)).1) ∧ (∀ a, vd = some a → w.heap.size ≤ a.block) ∧ (∀ a, pd = some a → w.heap.size ≤ a.block) ∧ RowKit.Below w.heap.size w w'
/-- one step behind the other -/
theorem own_h {num : List UInt8 → Option Int} {L : List (List UInt8)} (h : (ownHead L).2.2.2 = true) : (ownQ num L).2 = (ownHead L).2.2 := by
  unfold ownQ
  dsimp only
  rw [if_pos h, ord_bad h]
  dsimp only
  have : limO num (ownHead L).2.2 = (-1, (ownHead L).2.2) := by unfold limO; rw [if_neg (by rw [show (ownHead L).2.2 = ((ownHead L).2.2.1, true) from by rw [← h], isW_bad]; simp)]
  rw [this]
  exact end_bad h
theorem limO_stop {num : List UInt8 → Option Int} {s : InS} (h : s.2 = true) : limO num s = (-1, s) := by unfold limO; rw [if_neg (by rw [show s = (s.1, true) from by rw [← h], isW_bad]; simp)]
section
variable {num : List UInt8 → Option Int} {L : List (List UInt8)} {d : Bool} {vs : List (List UInt8)} {M1 : List (List UInt8)} (h1 : ownHead L = (d, vs, M1, false))
include h1
theorem own_p (h : (partsS (L.length + 1) (M1, false) []).2.2 = true) : (ownQ num L).2 = (partsS (L.length + 1) (M1, false) []).2 := by
  unfold ownQ
  dsimp only
  rw [h1]
  dsimp only
  rw [if_neg (by simp), ord_bad h]
  dsimp only
  rw [limO_stop h]
  exact end_bad h
variable {P : List Pt} {M2 : List (List UInt8)} (h2 : partsS (L.length + 1) (M1, false) [] = (P, M2, false))
include h2
theorem own_o (h : (ordS (M2, false)).2.2.2 = true) : (ownQ num L).2 = (ordS (M2, false)).2.2 := by
  unfold ownQ
  dsimp only
  rw [h1]
  dsimp only
  rw [if_neg (by simp), h2]
  dsimp only
  rw [limO_stop h]
  exact end_bad h
variable {o : List UInt8} {dn : Bool} {M3 : List (List UInt8)} (h3 : ordS (M2, false) = (o, dn, M3, false))
include h3
theorem own_all : ownQ num L = (⟨vs, P, o, dn, d, (limO num (M3, false)).1⟩, endS (limO num (M3, false)).2) := by
  unfold ownQ
  dsimp only
  rw [h1]
  dsimp only
  rw [if_neg (by simp), h2]
  dsimp only
  rw [h3]
end
end Go.Proofs.YtenakehnnmencagGreatDoor

/- ask.read: the walk. -/
namespace Go.Proofs.YtenakehnnmencagGreatDoor
open Go Go.RowKit Go.Proofs Go.Maps
set_option synthInstance.maxSize 1000

theorem ownQ_eta {A B C : Type} (x : A × B × C × Bool) {b : Bool} (h : x.2.2.2 = b) : x = (x.1, x.2.1, x.2.2.1, b) := by rw [← h]
theorem parts_eta {A C : Type} (x : A × C × Bool) {b : Bool} (h : x.2.2 = b) : x = (x.1, x.2.1, b) := by rw [← h]
set_option maxHeartbeats 8000000 in
set_option maxRecDepth 100000 in
theorem read_own (V : List UInt8 → Int) (B : List UInt8 → Bool) (s : List UInt8) (w : World) (hl : s.length ≤ 100000000) (hnum : ∀ W1, RowKit.Below w.heap.size w W1 → ReadsW 136 #[] (fun x => .int .i64 (V x)) B W1) :
    Calls Tryz.prog 65 #[.string ⟨s.toArray⟩] w (ReadAns (numBy V B) w s) := by
  obtain ⟨w0, hw0⟩ : ∃ w0, w0 = ((w.alloc (.cells #[.slice none 0 0, .slice none 0 0, .string ⟨#[]⟩, .bool false, .bool false, .int .i64 0] 52)).alloc (.cells #[.string ⟨s.toArray⟩, .bool true, .int .i64 0] 152)).alloc (.cells #[.slice none 0 0, .slice none 0 0, .string ⟨#[]⟩, .bool false, .bool false, .int .i64 (-1)] 52) := ⟨_, rfl⟩
  have O0 : Hid (OSt w w0 (w.heap.size + 1) (wordsL s) (wordsL s).length (.slice none 0 0) (.slice none 0 0) ⟨[], [], [], false, false, -1⟩) := by rw [hw0]; exact ost_start w s hl
  have HW := hideK hw0
  have HN := hideK hnum
  obtain ⟨Q, hQ⟩ : ∃ Q, Q = ReadAns (numBy V B) w s := ⟨_, rfl⟩
  have HQ : Hid (∀ e w', ReadAns (numBy V B) w s e w' → Q e w') := fun e w' h => by rw [hQ]; exact h
  rw [← hQ]
  clear hQ hw0 hl hnum
  unfold ReadAns at HQ
  generalize hL : wordsL s = L at *
  clear hL
  obtain ⟨T, hT⟩ : ∃ T, T = ownQ (numBy V B) L := ⟨_, rfl⟩
  rw [← hT] at HQ
  have HT := hideK hT
  clear hT
  generalize hNN : L.length = N at *
  have HNN := hideK hNN
  clear hNN
  go_enter Tryz.func65, Tryz.ntmps65
  go_upto_region 3 with fail
  rw [← HW.out]
  clear HW
  go_cut [7] from 11 to 25 (fun b W' => b = .bool (!T.2.2) ∧ ∃ va vp q', Hid (OSt w W' (w.heap.size + 1) T.2.1 N va vp q') ∧ Hid (T.2.2 = false → q' = T.1))
  case first =>
    have H1 := head_own w (w.heap.size + 1) L N (.slice none 0 0) ⟨[], [], [], false, false, -1⟩ w0 O0.out rfl rfl
    have hh : Hid ((ownHead L).2.2.2 = true → T.2 = (ownHead L).2.2) := fun h => by rw [HT.out]; exact own_h h
    generalize hOH : ownHead L = OH at *
    have HOH := hideK hOH
    clear hOH
    obtain ⟨d, vs, M1, b1⟩ := OH
    dsimp only at *
    cases b1
    rotate_left
    · have e1 := hideK (hh.out rfl)
      go_wp2_with fail
      refine H1.mono ?_
      rintro e w1 ⟨rfl, va, o1⟩
      have O1 := hideK o1
      clear o1 H1
      dsimp only
      go_wp2_with fail
      go_meet
      case rel => exact ⟨by rw [e1.out]; rfl, va, _, _, by rw [e1.out]; exact O1, fun h => by rw [e1.out] at h; cases h⟩
    · go_wp2_with fail
      refine H1.mono ?_
      rintro e w1 ⟨rfl, va, o1⟩
      have O1 := hideK o1
      have H2 := parts_own w (w.heap.size + 1) M1 N (N + 1) va (.slice none 0 0) _ w1 o1 rfl (by have := o1.rd.le; omega)
      have hp : Hid ((partsS (N + 1) (M1, false) []).2.2 = true → T.2 = (partsS (N + 1) (M1, false) []).2) := fun h => by
        have := own_p (num := numBy V B) HOH.out
        rw [HNN.out] at this
        rw [HT.out]; exact this h
      have ho : Hid (∀ P M2, partsS (N + 1) (M1, false) [] = (P, M2, false) → (ordS (M2, false)).2.2.2 = true → T.2 = (ordS (M2, false)).2.2) := fun P M2 h2 h => by
        rw [HT.out]; exact own_o (num := numBy V B) HOH.out (by rw [HNN.out]; exact h2) h
      have ha : Hid (∀ P M2 o dn M3, partsS (N + 1) (M1, false) [] = (P, M2, false) → ordS (M2, false) = (o, dn, M3, false) → T = (⟨vs, P, o, dn, d, (limO (numBy V B) (M3, false)).1⟩, endS (limO (numBy V B) (M3, false)).2)) := fun P M2 o dn M3 h2 h3 => by
        rw [HT.out]; exact own_all (num := numBy V B) HOH.out (by rw [HNN.out]; exact h2) h3
      clear o1 H1 hh
      dsimp only
      unfold PartsAns at H2
      generalize hPP : partsS (N + 1) (M1, false) [] = PP at *
      clear hPP
      obtain ⟨P, M2, b2⟩ := PP
      dsimp only at *
      cases b2
      rotate_left
      · have e1 := hideK (hp.out rfl)
        go_wp2_with fail
        refine H2.mono ?_
        rintro e w2 ⟨rfl, vp, q2, o2, _⟩
        have O2 := hideK o2
        clear o2 H2
        dsimp only
        go_wp2_with fail
        go_meet
        case rel => exact ⟨by rw [e1.out]; rfl, va, vp, q2, by rw [e1.out]; exact O2, fun h => by rw [e1.out] at h; cases h⟩
      · go_wp2_with fail
        refine H2.mono ?_
        rintro e w2 ⟨rfl, vp, q2, o2, hq2⟩
        have eq2 := hq2 (by simp)
        subst eq2
        have O2 := hideK o2
        have H3 := order_own w (w.heap.size + 1) M2 N va vp _ w2 o2 rfl rfl
        have ho2 := hideK (ho.out P M2 rfl)
        have ha2 := hideK (fun o dn M3 => ha.out P M2 o dn M3 rfl)
        clear o2 H2 hq2 ho ha hp O1
        dsimp only
        unfold TailAns at H3
        generalize hOO : ordS (M2, false) = OO at *
        clear hOO
        obtain ⟨o, dn, M3, b3⟩ := OO
        dsimp only at *
        cases b3
        rotate_left
        · have e1 := hideK (ho2.out rfl)
          go_wp2_with fail
          refine H3.mono ?_
          rintro e w3 ⟨rfl, q3, o3, _⟩
          have O3 := hideK o3
          clear o3 H3
          dsimp only
          go_wp2_with fail
          go_meet
          case rel => exact ⟨by rw [e1.out]; rfl, va, vp, q3, by rw [e1.out]; exact O3, fun h => by rw [e1.out] at h; cases h⟩
        · go_wp2_with fail
          refine H3.mono ?_
          rintro e w3 ⟨rfl, q3, o3, hq3⟩
          have eq3 := hq3 (by simp)
          subst eq3
          have O3 := hideK o3
          have H4 := limit_own V B w (w.heap.size + 1) M3 N va vp _ w3 HN.out o3 rfl
          have ha3 := hideK (ha2.out o dn M3 rfl)
          clear o3 H3 hq3 ha2 ho2 O2
          dsimp only
          unfold TailAns at H4
          generalize hLL : limO (numBy V B) (M3, false) = LL at *
          clear hLL
          obtain ⟨l, M4, b4⟩ := LL
          dsimp only at *
          cases b4
          rotate_left
          · have e1 : Hid (T.2 = (M4, true)) := by show _ = _; rw [ha3.out]; exact end_bad (s := (M4, true)) rfl
            go_wp2_with fail
            refine H4.mono ?_
            rintro e w4 ⟨rfl, q4, o4, _⟩
            have O4 := hideK o4
            clear o4 H4
            dsimp only
            go_wp2_with fail
            go_meet
            case rel => exact ⟨by rw [e1.out]; rfl, va, vp, q4, by rw [e1.out]; exact O4, fun h => by rw [e1.out] at h; cases h⟩
          · go_wp2_with fail
            refine H4.mono ?_
            rintro e w4 ⟨rfl, q4, o4, hq4⟩
            have eq4 := hq4 (by simp)
            subst eq4
            have O4 := hideK o4
            clear H4 hq4 O3
            dsimp only
            rcases o4.rd.some with ⟨hM, c1⟩ | ⟨rest, c0, c1, hM, _⟩
            · have e1 : Hid (T = (⟨vs, P, o, dn, d, l⟩, [], false)) := by show _ = _; rw [ha3.out, hM]; simp [endS]
              rw [hM] at O4
              clear o4 ha3 hM
              go_wp2_with fail
              go_meet
              case rel => exact ⟨by rw [e1.out]; rfl, va, vp, _, by rw [e1.out]; exact O4, fun _ => by rw [e1.out]⟩
            · have hne : M4 ≠ [] := by rw [hM]; exact words_ne rest
              have e1 : Hid (T.2 = (M4, true)) := by show _ = _; rw [ha3.out]; simp [endS, hne]
              clear o4 ha3 hM hne c0
              go_wp2_with fail
              go_meet
              case rel => exact ⟨by rw [e1.out]; rfl, va, vp, _, by rw [e1.out]; exact O4, fun h => by rw [e1.out] at h; cases h⟩
  case rest =>
    obtain ⟨rfl, va, vp, q', O1, Hq⟩ := hcut
    obtain ⟨vd, vc, ev, hv, hvc⟩ := own_capW O1.out.vars
    obtain ⟨pd, pc, ep, hp, hpc⟩ := own_capP O1.out.parts
    subst ev ep
    have nv := hideK (own_newO O1.out.vars)
    have np := hideK (own_newO O1.out.parts)
    have hrg := O1.out.rg
    obtain ⟨x0, x1, x2, x3, x4, x5⟩ := O1.out.cells
    obtain ⟨r0, r1, r2, r3, r4, r5⟩ := O1.out.rcells
    obtain ⟨f0, f1, f2, f3, f4, f5⟩ := O1.out.rfree
    have c2 := O1.out.rd.c2
    have hlt := O1.out.lt
    clear O0 HN
    go_wp2_with fail
    go_region
    go_wp2_with fail
    obtain ⟨hin, hbel⟩ := O1.out.six (.slice vd q'.vars.length vc) (.slice pd q'.parts.length pc) (.string ⟨q'.order.toArray⟩) (.bool q'.down) (.bool q'.dist) (.int .i64 q'.lim)
    exact bodyPost_ret (v := .tuple #[valQ q' vd vc pd pc, .int .i64 ((N - T.2.1.length : Nat) : Int), .bool (!T.2.2)]) (by unfold valQ; simp [results, Tryz.results65, go_sem, r0, r1, r2, r3, r4, r5]) rfl (HQ.out _ _ ⟨q', vd, vc, pd, pc, rfl, hin, hvc, hpc, Hq.out, fun a ha => by have := nv.out a ha; omega, fun a ha => by have := np.out a ha; omega, hbel⟩)
end Go.Proofs.YtenakehnnmencagGreatDoor
