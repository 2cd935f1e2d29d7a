import Derived.Test.YtnphjdckdkjopaaGreatDoorMA0x9
import Derived.Test.YtnphjdckdkjopaaGreatDoorMA0x6

/- repo's take and lead: a branch leads to a commit. -/
namespace Go.Proofs.YtnphjdckdkjopaaGreatDoor
open Go Go.RowKit Go.Proofs Go.Maps
set_option synthInstance.maxSize 1000

attribute [local go_sem] eql_errV neq_errV guard_errV

/-- what a call leaves -/
def RpTo (w : World) (r s bm : Nat) (cv : Value) (OS P : Nat → Prop) (R' : Rp) (w' : World) : Prop := ∃ cv' OS' P', RpW w' r s bm cv' OS' P' R' ∧ Offs (RpO r bm cv OS NoP) w w' ∧ RpIn w r bm cv OS P cv' OS' P'
theorem RpTo.same {w w' : World} {r s bm : Nat} {cv : Value} {OS P : Nat → Prop} {R : Rp} (h : RpW w r s bm cv OS P R) (hb : RowKit.Below w.heap.size w w') : RpTo w r s bm cv OS P R w' := ⟨cv, OS, P, h.below hb, Offs.of_below hb, RpIn.refl _ _ _ _ _ _⟩
theorem pput_fail {n : Nat} {L : List Ob} {b : List UInt8} (h : putE L b ≠ 0) : putM n L b = n ∧ putL n L b = L := by
  unfold putE at h
  unfold putM putL
  split at h
  · exact absurd rfl h
  · rename_i h1
    split at h
    · rename_i h2
      rw [if_neg h1, if_pos h2, if_neg h1, if_pos h2]
      exact ⟨rfl, rfl⟩
    · exact absurd rfl h
theorem Linked.put {R : Rp} (hl : Linked R) (h : GoodR R) (b : List UInt8) : Linked ⟨putM R.n R.L b, putL R.n R.L b, R.coms, R.gr, R.refs⟩ := fun i c g hc hg => put_old h.store (hl i c g hc hg)
theorem add_none {R : Rp} {ps : List Int} {S : List Tr} {t : List UInt8} (hf : findC R.coms R.gr ps S t = none) (h60 : ¬ 60 ≤ R.coms.length) :
    (putE R.L (bytesR R ps S) ≠ 0 → addE R ps S t = putE R.L (bytesR R ps S) ∧ addI R ps S t = 0 ∧ addR R ps S t = R) ∧ (putE R.L (bytesR R ps S) = 0 → addE R ps S t = 0 ∧ addI R ps S t = R.coms.length ∧ addR R ps S t = ⟨putM R.n R.L (bytesR R ps S), putL R.n R.L (bytesR R ps S), R.coms ++ [(ps, (putI R.n R.L (bytesR R ps S) : Int), t)], R.gr ++ [S], R.refs⟩) := by
  unfold addE addI addR
  rw [hf]
  simp only [if_neg h60]
  constructor
  · intro h
    simp [h]
  · intro h
    simp [h]
theorem add_full {R : Rp} {ps : List Int} {S : List Tr} {t : List UInt8} (hf : findC R.coms R.gr ps S t = none) (h60 : 60 ≤ R.coms.length) : addE R ps S t = 4 ∧ addI R ps S t = 0 ∧ addR R ps S t = R := by
  unfold addE addI addR
  rw [hf]
  simp [h60]
theorem add_some {R : Rp} {ps : List Int} {S : List Tr} {t : List UInt8} {i : Nat} (hf : findC R.coms R.gr ps S t = some i) : addE R ps S t = 0 ∧ addI R ps S t = i ∧ addR R ps S t = R := by
  unfold addE addI addR
  rw [hf]
  exact ⟨rfl, rfl, rfl⟩
/-- at a step of a region that draws: an append whose run is known -/
theorem step_appendQ {P : Program} {w : World} {ops : Array Oper} {o : Oper} {a : Act} {K : Act → World → Prop} {Q : Exit → Act → World → Prop} {E : Prop} (hgd : o.guard = none) (s x : Operand) (t : TypeId)
    (ho : o.op = .call { callee := .builtin .append, args := #[s, x], argTypes := #[t, t] }) (v u : Value) (hs : a.eval s = v) (hx : a.eval x = u) {v' : Value} {w' : World}
    (hr : (Builtin.append_ #[t, t] o.type #[v, u]).run P w = .ok v' w') (h : K (a.put o.dst v') w') : if Region.wanted o (yielded ops a.tmps) = true then Oper.wp P o a w K Q else E := by
  rw [if_pos (by simp [Region.wanted, hgd])]
  unfold Oper.wp execOp
  simp only [ho, resolve, invoke, builtin, Sem.run_bind, Sem.run_pure, Result.andThen_ok, List.map_toArray, List.map_cons, List.map_nil, hs, hx, hr]
  exact h
def TakeAns (w : World) (r s bm : Nat) (cv : Value) (OS P : Nat → Prop) (R : Rp) (ps : List Int) (S : List Tr) (t : List UInt8) (e : Ending) (w' : World) : Prop := e = .returned (.tuple #[.int .i64 (addI R ps S t : Int), errV (addE R ps S t)]) ∧ RpTo w r s bm cv OS P (addR R ps S t) w'

set_option maxHeartbeats 8000000 in
set_option maxRecDepth 100000 in
theorem Qtake_any (w : World) (r s bm : Nat) (cv : Value) (OS P : Nat → Prop) (R : Rp) (pd : Option Addr) (pc : Nat) (ps : List Int) (S : List Tr) (t : List UInt8) (h : RpW w r s bm cv OS P R) (hg : GoodR R) (hs : SlI w pd ps) (hp : okPar R.coms.length ps) (hpd : ps ≠ [] → ∀ d, pd = some d → ¬ RpO r bm cv OS P d.block) (sS : IsSet S) (ht : t.length ≤ 24) :
    Calls Tryz.prog 133 #[.pointer (some ⟨r, 0, none⟩), .slice pd ps.length pc, .string ⟨(bytesR R ps S).toArray⟩, .string ⟨t.toArray⟩] w (TakeAns w r s bm cv OS P R ps S t) := by
  have hbs := bytes_short hg (ps := ps) sS
  have hbr : (bytesR R ps S).length ≤ reachBytes := by unfold reachBytes; omega
  have H2 := fun W (hW : RowKit.Below w.heap.size w W) => Qfind_any W r s bm cv OS P R pd pc ps (bytesR R ps S) t (h.below hW) hg (hs.below hW) (by have := hp.1; unfold maxLen; omega) hbr
  rw [← find_link h.link hg sS] at H2
  have H3 := fun W (hW : RowKit.Below w.heap.size w W) => theFace.put W s OS R.n R.L (bytesR R ps S) (h.below hW).st hg.store (by have := hg.last; have := hg.coms.1; omega) (by rw [theFace_lim]; exact hbr)
  have HL := hideO (fun W (hW : RowKit.Below w.heap.size w W) => ((h.below hW).cells))
  obtain ⟨ad, cap, rfl⟩ := h.com.form
  have hlt := h.lt
  have hmx : R.coms.length ≤ 60 := hg.coms.1
  have HH := hideO h
  have HG := hideO hg
  have HS := hideO hs
  have HP := hideO hp
  have HPD := hideO hpd
  have HSS := hideO sS
  clear h hg hs hp hpd sS hbs hbr
  cases hf : findC R.coms R.gr ps S t with
  | some i =>
    obtain ⟨e1, e2, e3⟩ := add_some hf
    have fin : Hid (∀ w', RowKit.Below w.heap.size w w' → TakeAns w r s bm (.slice ad R.coms.length cap) OS P R ps S t (.returned (.tuple #[.int .i64 (i : Int), .nilIface])) w') := fun w' hb => by
      unfold TakeAns
      rw [e1, e2, e3]
      exact ⟨rfl, RpTo.same HH.out hb⟩
    rw [hf, show idxI (some i) = (i : Int) from rfl] at H2
    have i0 : (0 : Int) ≤ (i : Int) := by omega
    clear hf e1 e2 e3 HL H3 HG HS HP HPD HSS HH
    generalize bytesR R ps S = B at *
    go_enter Tryz.func133, Tryz.ntmps133
    go_wp2_with fail
    refine (H2 _ (RowKit.Below.refl _ w)).mono ?_
    rintro e w2 ⟨rfl, hb2⟩
    dsimp only
    go_wp2_with fail
    exact bodyPost_ret (v := .tuple #[.int .i64 (i : Int), .nilIface]) (by unfold results; rw [Tryz.results133]; go_simp) rfl (fin.out _ hb2)
  | none =>
    rw [hf, show idxI none = -1 from rfl] at H2
    by_cases h60 : 60 ≤ R.coms.length
    · obtain ⟨e1, e2, e3⟩ := add_full hf h60
      have fin : Hid (∀ w', RowKit.Below w.heap.size w w' → TakeAns w r s bm (.slice ad R.coms.length cap) OS P R ps S t (.returned (.tuple #[.int .i64 0, .iface 72 (.int .i64 4)])) w') := fun w' hb => by
        unfold TakeAns
        rw [e1, e2, e3]
        exact ⟨rfl, RpTo.same HH.out hb⟩
      have j60 : (60 : Int) ≤ (R.coms.length : Int) := by omega
      clear hf e1 e2 e3 H3 HG HS HP HPD HSS HH
      generalize bytesR R ps S = B at *
      generalize R.coms.length = n at *
      go_enter Tryz.func133, Tryz.ntmps133
      go_wp2_with fail
      refine (H2 _ (RowKit.Below.refl _ w)).mono ?_
      rintro e w2 ⟨rfl, hb2⟩
      dsimp only
      obtain ⟨k0, k1, k2, kf⟩ := HL.out _ hb2
      have z2 := World.block_lt_of_cell? _ _ k0
      go_wp2_with fail
      exact bodyPost_ret (v := .tuple #[.int .i64 0, .iface 72 (.int .i64 4)]) (by unfold results; rw [Tryz.results133]; go_simp) rfl (fin.out _ hb2)
    · obtain ⟨A1, A2⟩ := add_none hf h60
      have j60 : ¬ (60 : Int) ≤ (R.coms.length : Int) := by omega
      by_cases hE : putE R.L (bytesR R ps S) = 0
      · obtain ⟨e1, e2, e3⟩ := A2 hE
        rw [hE, show errV 0 = Value.nilIface from rfl] at H3
        have hlk : Hid (Linked ⟨putM R.n R.L (bytesR R ps S), putL R.n R.L (bytesR R ps S), R.coms ++ [(ps, (putI R.n R.L (bytesR R ps S) : Int), t)], R.gr ++ [S], R.refs⟩) := by
          have := HH.out.link.add HG.out (s := S) (m := t) HP.out
          rw [e3] at this
          exact this
        have hlk0 : Hid (Linked ⟨putM R.n R.L (bytesR R ps S), putL R.n R.L (bytesR R ps S), R.coms, R.gr, R.refs⟩) := HH.out.link.put HG.out _
        have fin : Hid (∀ e w', e = .returned (.tuple #[.int .i64 (R.coms.length : Int), .nilIface]) → RpTo w r s bm (.slice ad R.coms.length cap) OS P ⟨putM R.n R.L (bytesR R ps S), putL R.n R.L (bytesR R ps S), R.coms ++ [(ps, (putI R.n R.L (bytesR R ps S) : Int), t)], R.gr ++ [S], R.refs⟩ w' → TakeAns w r s bm (.slice ad R.coms.length cap) OS P R ps S t e w') := fun e w' he hr => by
          unfold TakeAns
          rw [e1, e2, e3]
          exact ⟨he, hr⟩
        clear A1 A2 hf e1 e2 e3 HSS HG
        generalize bytesR R ps S = B at *
        generalize putI R.n R.L B = y at *
        generalize putM R.n R.L B = nM at *
        generalize putL R.n R.L B = nL at *
        go_enter Tryz.func133, Tryz.ntmps133
        go_wp2_with fail
        refine (H2 _ (RowKit.Below.refl _ w)).mono ?_
        rintro e w2 ⟨rfl, hb2⟩
        dsimp only
        have hB2 := hideO hb2
        clear hb2 H2
        obtain ⟨k0, k1, k2, kf⟩ := HL.out _ hB2.out
        have z2 := World.block_lt_of_cell? _ _ k0
        go_wp2_with fail
        refine (H3 _ hB2.out).mono ?_
        rintro e w3 ⟨rfl, OS', hst, hoff, hnew⟩
        dsimp only
        obtain ⟨p1, p2, p3⟩ := (HH.out.below hB2.out).put hst hoff hnew hlk0.out
        have hO3 : Hid (Offs (RpO r bm (.slice ad R.coms.length cap) OS NoP) w w3) := (Offs.of_below hB2.out).trans p2 fun j hj => Or.inl hj
        have hN3 : Hid (RpIn w r bm (.slice ad R.coms.length cap) OS P (.slice ad R.coms.length cap) OS' P) := p3.later hB2.out.size
        have hS3 : Hid (SlI w3 pd ps) := psl_keep HS.out fun hne d hd => by
          have hnot := HPD.out hne d hd
          obtain ⟨b, o, e2, h6⟩ := HS.out hne
          rw [e2] at hd
          cases hd
          have hpl : 0 < ps.length := List.length_pos_iff.2 hne
          exact hO3.out.block b (World.block_lt_of_cell? w _ (h6 0 hpl)) (fun h => hnot h.any)
        have P1 := hideO p1
        have hz3 : Hid (w.heap.size ≤ w3.heap.size) := hO3.out.size
        clear p1 p2 p3 hst hoff hnew k0 k1 k2 kf z2 H3 HL HS HPD
        obtain ⟨k0, k1, k2, kf⟩ := P1.out.cells
        have z3 := P1.out.lt
        have hpl : Hid (ps.length ≤ 1000000) := by have := HP.out.1; show _ ≤ _; omega
        have HF := fun W (hW : RowKit.Below w3.heap.size w3 W) => Qfresh_any pd pc ps (y : Int) t W (hS3.out.below hW) hpl.out (by omega)
        go_wp2_with fail
        go_region_law (first
          | (refine step_appendQ rfl (.tmp 44) (.tmp 50) 54 rfl _ _ rfl rfl hr9 ?_)
          | (go_simp; go_at_call 61; refine (HF _ (RowKit.Below.refl _ w3).drew).mono ?_; rintro e w5 ⟨a5, c5, rfl, hN5⟩; dsimp only; have hb5 : RowKit.Below w3.heap.size w3 w5 := (RowKit.Below.refl _ w3).drew.trans hN5.2.2.2; obtain ⟨g, cap9, W9, hr9, k9, f9, z9, q1, q2, q3⟩ := RpW.push (P1.out.below hb5) (y := (y : Int)) (t := t) hN5.1 hN5.2.1 (fun hne d hd hO => by have h7 := hN5.2.2.1 hne d hd; have h8 := P1.out.own _ hO; simp at h7; omega) (by show R.coms.length ≤ 1000; omega) (R.gr ++ [S]) hlk.out 54; obtain ⟨m0, m1, m2, mf⟩ := (P1.out.below hb5).cells; have z5 := (P1.out.below hb5).lt; have Q1 := hideO q1; have Q2 := hideO q2; have Q3 := hideO q3; have HN5 := hideO hN5; have HB5 := hideO hb5; clear q1 q2 q3 hN5 hb5))
        all_goals go_wp2_with fail
        all_goals exact bodyPost_ret (v := .tuple #[.int .i64 (R.coms.length : Int), .nilIface]) (by unfold results; rw [Tryz.results133]; go_simp) rfl (fin.out _ _ rfl ⟨_, OS', moreQ P a5 ps, Q1.out, (hO3.out.step HB5.out).trans Q2.out hN3.out.1, fun j hj => by
          rcases Q3.out j hj with h1 | h1
          · exact hN3.out.1 j h1
          · exact Or.inr (Nat.le_trans hz3.out (Nat.le_trans HB5.out.size h1)), fun j hj => by
          rcases hj with h1 | ⟨hne, d, hd, rfl⟩
          · exact Or.inl h1
          · exact Or.inr (Nat.le_trans hz3.out (HN5.out.2.2.1 hne d hd))⟩)
      · obtain ⟨e1, e2, e3⟩ := A1 hE
        have hE' : (putE R.L (bytesR R ps S) == 0) = false := by simpa using hE
        have fin : Hid (∀ w', RpTo w r s bm (.slice ad R.coms.length cap) OS P R w' → TakeAns w r s bm (.slice ad R.coms.length cap) OS P R ps S t (.returned (.tuple #[.int .i64 0, errV (putE R.L (bytesR R ps S))])) w') := fun w' hr => by
          unfold TakeAns
          rw [e1, e2, e3]
          exact ⟨rfl, hr⟩
        obtain ⟨m1, m2⟩ := pput_fail (n := R.n) hE
        rw [m1, m2] at H3
        clear A1 A2 hf e1 e2 e3 HSS HG HS HP HPD m1 m2 hE
        generalize putE R.L (bytesR R ps S) = N at *
        generalize putI R.n R.L (bytesR R ps S) = y at *
        generalize bytesR R ps S = B at *
        go_enter Tryz.func133, Tryz.ntmps133
        go_wp2_with fail
        refine (H2 _ (RowKit.Below.refl _ w)).mono ?_
        rintro e w2 ⟨rfl, hb2⟩
        dsimp only
        have hB2 := hideO hb2
        clear hb2 H2
        obtain ⟨k0, k1, k2, kf⟩ := HL.out _ hB2.out
        have z2 := World.block_lt_of_cell? _ _ k0
        go_wp2_with fail
        refine (H3 _ hB2.out).mono ?_
        rintro e w3 ⟨rfl, OS', hst, hoff, hnew⟩
        dsimp only
        obtain ⟨p1, p2, p3⟩ := (HH.out.below hB2.out).put hst hoff hnew HH.out.link
        have hR3 : Hid (RpTo w r s bm (.slice ad R.coms.length cap) OS P R w3) := ⟨_, OS', P, p1, (Offs.of_below hB2.out).trans p2 fun j hj => Or.inl hj, p3.later hB2.out.size⟩
        clear p1 p2 p3 hst hoff hnew H3
        go_wp2_with fail
        exact bodyPost_ret (v := .tuple #[.int .i64 0, errV N]) (by unfold results; rw [Tryz.results133]; go_simp) rfl (fin.out _ hR3.out)
end Go.Proofs.YtnphjdckdkjopaaGreatDoor

/- repo's lead, Commit. -/
namespace Go.Proofs.YtnphjdckdkjopaaGreatDoor
open Go Go.RowKit Go.Proofs Go.Maps
set_option synthInstance.maxSize 1000

attribute [local go_sem] eql_errV neq_errV guard_errV

def leadF (R : Rp) (b : List UInt8) (S : List Tr) (t : List UInt8) : Int := if setF S t ≠ 0 then setF S t else if roomR R b = false then 4 else 0
def leadE (R : Rp) (b : List UInt8) (ps : List Int) (S : List Tr) (t : List UInt8) : Int := if leadF R b S t ≠ 0 then leadF R b S t else addE R ps S t
def leadI (R : Rp) (b : List UInt8) (ps : List Int) (S : List Tr) (t : List UInt8) : Nat := if leadE R b ps S t ≠ 0 then 0 else addI R ps S t
def leadN (R : Rp) (b : List UInt8) (ps : List Int) (S : List Tr) (t : List UInt8) : Rp := if leadE R b ps S t ≠ 0 then R else leadTo (addR R ps S t) b (addI R ps S t)
def LeadAns (w : World) (r s bm : Nat) (cv : Value) (OS P : Nat → Prop) (R : Rp) (b : List UInt8) (ps : List Int) (S : List Tr) (t : List UInt8) (e : Ending) (w' : World) : Prop := e = .returned (.tuple #[.int .i64 (leadI R b ps S t : Int), errV (leadE R b ps S t)]) ∧ RpTo w r s bm cv OS P (leadN R b ps S t) w'
theorem padd_bad {R : Rp} {ps : List Int} {S : List Tr} {t : List UInt8} (h : addE R ps S t ≠ 0) : addR R ps S t = R := by
  unfold addE at h
  unfold addR
  split
  · rfl
  · rename_i hf
    rw [hf] at h
    dsimp only at h
    split
    · rfl
    · rename_i h60
      rw [if_neg h60] at h
      rw [if_pos h]
theorem lead_no {w w' : World} {r s bm : Nat} {cv : Value} {OS P : Nat → Prop} {R : Rp} {b : List UInt8} {ps : List Int} {S : List Tr} {t : List UInt8} {N : Int} (hN : N ≠ 0) (he : leadE R b ps S t = N) (hr : RpTo w r s bm cv OS P R w') : LeadAns w r s bm cv OS P R b ps S t (.returned (.tuple #[.int .i64 0, errV N])) w' := by
  have h0 : leadE R b ps S t ≠ 0 := by rw [he]; exact hN
  unfold LeadAns leadI leadN
  rw [if_pos h0, if_pos h0, he]
  exact ⟨rfl, hr⟩
theorem lead_yes {w w' : World} {r s bm : Nat} {cv : Value} {OS P : Nat → Prop} {R : Rp} {b : List UInt8} {ps : List Int} {S : List Tr} {t : List UInt8} (he : leadE R b ps S t = 0) (hr : RpTo w r s bm cv OS P (leadTo (addR R ps S t) b (addI R ps S t)) w') : LeadAns w r s bm cv OS P R b ps S t (.returned (.tuple #[.int .i64 (addI R ps S t : Int), .nilIface])) w' := by
  unfold LeadAns leadI leadN
  rw [if_neg (fun h => h he), if_neg (fun h => h he), he]
  exact ⟨rfl, hr⟩
theorem RpTo.lead {w w1 w2 : World} {r s bm : Nat} {cv cv' : Value} {OS P OS' P' : Nat → Prop} {R' : Rp} (h : RpW w2 r s bm cv' OS' P' R') (ho : Offs (RpO r bm cv OS NoP) w w1) (hn : RpIn w r bm cv OS P cv' OS' P') (ho2 : Offs (RpO r bm cv' OS' NoP) w1 w2) : RpTo w r s bm cv OS P R' w2 :=
  ⟨cv', OS', P', h, ho.trans ho2 hn.1, hn⟩
/-- an earlier beginning -/
theorem RpTo.from {w w1 w2 : World} {r s bm : Nat} {cv : Value} {OS P : Nat → Prop} {R' : Rp} (hb : RowKit.Below w.heap.size w w1) (h : RpTo w1 r s bm cv OS P R' w2) : RpTo w r s bm cv OS P R' w2 := by
  obtain ⟨cv', OS', P', h1, h2, h3⟩ := h
  exact ⟨cv', OS', P', h1, (Offs.of_below hb).trans h2 fun _ hj => Or.inl hj, h3.later hb.size⟩
theorem msg_short {t : List UInt8} (h : msgN t = 0) : t.length ≤ 24 := by
  unfold msgN at h
  split at h
  · cases h
  · omega

set_option maxHeartbeats 8000000 in
set_option maxRecDepth 100000 in
theorem Qlead_any (w : World) (r s bm : Nat) (cv : Value) (OS P : Nat → Prop) (R : Rp) (b : List UInt8) (pd : Option Addr) (pc : Nat) (ps : List Int) (sd : Option Addr) (sc : Nat) (S : List Tr) (t : List UInt8) (h : RpW w r s bm cv OS P R) (hg : GoodR R) (hb : b.length ≤ reachBytes) (hs : SlI w pd ps) (hp : okPar R.coms.length ps) (hpd : ps ≠ [] → ∀ d, pd = some d → ¬ RpO r bm cv OS P d.block) (hS : SlT w sd S) (fS : ∀ x ∈ S, fitTr x) (nS : S.length ≤ maxLen) (ht : t.length ≤ reachBytes) :
    Calls Tryz.prog 98 #[.pointer (some ⟨r, 0, none⟩), .string ⟨b.toArray⟩, .slice pd ps.length pc, .slice sd S.length sc, .string ⟨t.toArray⟩] w (LeadAns w r s bm cv OS P R b ps S t) := by
  have hml : b.length ≤ maxLen := by unfold reachBytes at hb; unfold maxLen; omega
  have htl : t.length ≤ maxLen := by unfold reachBytes at ht; unfold maxLen; omega
  have H1 := Sorted_any sd sc S w hS fS (by unfold maxLen at nS; omega)
  have H2 := fun W (hW : RowKit.Below w.heap.size w W) => Qcheck_any W r s bm cv OS P R pd pc ps t (h.below hW) hg (hs.below hW) hp htl
  have H3 := fun W (hW : RowKit.Below w.heap.size w W) => QhasBranch_any W r s bm cv OS P R b (h.below hW) hml
  have H4 := fun W (hW : RowKit.Below w.heap.size w W) => QhasRoom_any W r s bm cv OS P R (h.below hW)
  have H5 := hideO (fun (sS : IsSet S) (h24 : t.length ≤ 24) W (hW : RowKit.Below w.heap.size w W) => Qtake_any W r s bm cv OS P R pd pc ps S t (h.below hW) hg (hs.below hW) hp hpd sS h24)
  have H6 := hideO (fun (sS : IsSet S) W (hW : RowKit.Below w.heap.size w W) => Qchange_any W r s bm cv OS P R pd pc ps sd sc S (h.below hW) hg (hs.below hW) hp (hS.below hW) sS)
  have HH := hideO h
  have HG := hideO hg
  have HB := hideO hb
  have HP := hideO hp
  clear h hg hs hp hpd hS fS nS ht hb hml htl
  by_cases h1 : sortedN S = 0
  · by_cases h2 : msgN t = 0
    · have e0 : setF S t = 0 := by unfold setF; rw [if_neg (fun h => h h1)]; exact h2
      have sS := hideO (sortedN_set.1 h1)
      have h24 := msg_short h2
      rw [h1, show errV 0 = Value.nilIface from rfl] at H1
      rw [h2, show errV 0 = Value.nilIface from rfl] at H2
      have HT := H5.out sS.out h24
      have HC := H6.out sS.out
      cases hr : roomR R b with
      | false =>
        have eF : leadE R b ps S t = 4 := by
          have : leadF R b S t = 4 := by unfold leadF; rw [if_neg (fun h => h e0), if_pos hr]
          unfold leadE; rw [this]; rfl
        have hr' : ¬ (0 ≤ atR R.refs b ∨ R.refs.length < 8) := by unfold roomR at hr; simpa using hr
        rw [decide_eq_false (fun h => hr' (Or.inl h))] at H3
        rw [decide_eq_false (fun h => hr' (Or.inr h))] at H4
        have fin : Hid (∀ w', RowKit.Below w.heap.size w w' → LeadAns w r s bm cv OS P R b ps S t (.returned (.tuple #[.int .i64 0, .iface 72 (.int .i64 4)])) w') := fun w' hb' => lead_no (N := 4) (by decide) eF (RpTo.same HH.out hb')
        clear H5 H6 HC HT eF hr hr' HG HP HB h24 sS e0 h1 h2 HH
        go_enter Tryz.func98, Tryz.ntmps98
        go_wp2_with fail
        refine H1.mono ?_
        rintro e w1 ⟨rfl, hb1⟩
        dsimp only
        go_wp2_with fail
        refine (H2 _ hb1).mono ?_
        rintro e w2 ⟨rfl, hb2⟩
        dsimp only
        have hB2 := bstep hb1 hb2
        clear hb1 hb2
        go_wp2_with (first
          | (go_at_call 95; refine (H3 _ hB2).mono ?_; rintro e w3 ⟨rfl, hb3⟩; dsimp only)
          | (go_at_call 96; refine (H4 _ (bstep hB2 hb3)).mono ?_; rintro e w4 ⟨rfl, hb4⟩; dsimp only))
        exact bodyPost_ret (v := .tuple #[.int .i64 0, .iface 72 (.int .i64 4)]) (by unfold results; rw [Tryz.results98]; go_simp) rfl (fin.out _ (bstep (bstep hB2 hb3) hb4))
      | true =>
        have hr' : 0 ≤ atR R.refs b ∨ R.refs.length < 8 := by unfold roomR at hr; simpa using hr
        have eF : leadE R b ps S t = addE R ps S t := by
          have : leadF R b S t = 0 := by unfold leadF; rw [if_neg (fun h => h e0), if_neg (by rw [hr]; decide)]
          unfold leadE; rw [this]; rfl
        have hgA : GoodR (addR R ps S t) := HG.out.add HP.out sS.out h2
        have hlf : (leadR (addR R ps S t).refs b (addI R ps S t)).length ≤ 8 := by
          rw [add_refs]
          exact lead_few HG.out.few hr'
        have hby : ByName (addR R ps S t).refs := hgA.refs
        have hi60 : addE R ps S t = 0 → addI R ps S t ≤ 1000000 := fun h0 => by
          have h9 := add_in h0
          have := hgA.coms.1
          omega
        have HPt := hideO (fun (h0 : addE R ps S t = 0) W cv' OS' P' (hW : RpW W r s bm cv' OS' P' (addR R ps S t)) => Qpoint_any W r s bm cv' OS' P' (addR R ps S t) b (addI R ps S t) hW hby hlf HB.out (hi60 h0))
        have hcall : Hid (∀ (W : World), RowKit.Below w.heap.size w W → ∀ (Q : Ending → World → Prop), (addE R ps S t ≠ 0 → ∀ w', RpTo w r s bm cv OS P R w' → Q (.returned (.tuple #[.int .i64 (addI R ps S t : Int), errV (addE R ps S t)])) w') → (addE R ps S t = 0 → ∀ w' cv' OS' P', RpW w' r s bm cv' OS' P' (addR R ps S t) → Offs (RpO r bm cv OS NoP) w w' → RpIn w r bm cv OS P cv' OS' P' → Q (.returned (.tuple #[.int .i64 (addI R ps S t : Int), .nilIface])) w') → Calls Tryz.prog 133 #[.pointer (some ⟨r, 0, none⟩), .slice pd ps.length pc, .string ⟨(bytesR R ps S).toArray⟩, .string ⟨t.toArray⟩] W Q) := fun W hW Q q1 q2 => by
          refine (HT W hW).mono ?_
          rintro e w' ⟨rfl, hto⟩
          by_cases h0 : addE R ps S t = 0
          · obtain ⟨cv', OS', P', x1, x2, x3⟩ := RpTo.from hW hto
            have := q2 h0 w' cv' OS' P' x1 x2 x3
            rw [h0]
            exact this
          · rw [padd_bad h0] at hto
            exact q1 h0 w' (RpTo.from hW hto)
        have finN : Hid (addE R ps S t ≠ 0 → ∀ w', RpTo w r s bm cv OS P R w' → LeadAns w r s bm cv OS P R b ps S t (.returned (.tuple #[.int .i64 0, errV (addE R ps S t)])) w') := fun h0 w' hto => lead_no h0 eF hto
        have finY : Hid (addE R ps S t = 0 → ∀ w', RpTo w r s bm cv OS P (leadTo (addR R ps S t) b (addI R ps S t)) w' → LeadAns w r s bm cv OS P R b ps S t (.returned (.tuple #[.int .i64 (addI R ps S t : Int), .nilIface])) w') := fun h0 w' hto => lead_yes (eF.trans h0) hto
        clear H5 H6 HT hgA hlf hby hi60 eF HG HP HB h24 sS e0 h1 h2 HH hr
        generalize bytesR R ps S = B at *
        generalize addR R ps S t = RA at *
        generalize addI R ps S t = IA at *
        generalize addE R ps S t = EA at *
        by_cases hA : 0 ≤ atR R.refs b
        · rw [decide_eq_true hA] at H3
          clear H4 hr' hA
          by_cases h0 : EA = 0
          · subst h0
            go_enter Tryz.func98, Tryz.ntmps98
            go_wp2_with fail
            refine H1.mono ?_
            rintro e w1 ⟨rfl, hb1⟩
            dsimp only
            go_wp2_with fail
            refine (H2 _ hb1).mono ?_
            rintro e w2 ⟨rfl, hb2⟩
            dsimp only
            have hB2 := bstep hb1 hb2
            clear hb1 hb2
            go_wp2_with (go_at_call 95; refine (H3 _ hB2).mono ?_; rintro e w3 ⟨rfl, hb3⟩; dsimp only)
            refine (HC _ (bstep hB2 hb3)).mono ?_
            rintro e wc ⟨rfl, hbc⟩
            dsimp only
            go_wp2_with fail
            refine hcall.out _ (bstep (bstep hB2 hb3) hbc) _ (fun h => absurd rfl h) ?_
            intro _ w4 cv' OS' P' x1 x2 x3
            dsimp only
            go_wp2_with fail
            refine (HPt.out (by simp) _ cv' OS' P' x1).mono ?_
            rintro e w5 ⟨rfl, y1, y2⟩
            dsimp only
            go_wp2_with fail
            exact bodyPost_ret (v := .tuple #[.int .i64 (IA : Int), .nilIface]) (by unfold results; rw [Tryz.results98]; go_simp) rfl (finY.out (by simp) _ (RpTo.lead y1 x2 x3 y2))
          · have h0' : (EA == 0) = false := by simpa using h0
            go_enter Tryz.func98, Tryz.ntmps98
            go_wp2_with fail
            refine H1.mono ?_
            rintro e w1 ⟨rfl, hb1⟩
            dsimp only
            go_wp2_with fail
            refine (H2 _ hb1).mono ?_
            rintro e w2 ⟨rfl, hb2⟩
            dsimp only
            have hB2 := bstep hb1 hb2
            clear hb1 hb2
            go_wp2_with (go_at_call 95; refine (H3 _ hB2).mono ?_; rintro e w3 ⟨rfl, hb3⟩; dsimp only)
            refine (HC _ (bstep hB2 hb3)).mono ?_
            rintro e wc ⟨rfl, hbc⟩
            dsimp only
            go_wp2_with fail
            refine hcall.out _ (bstep (bstep hB2 hb3) hbc) _ ?_ (fun h => absurd h h0)
            intro _ w4 hto
            dsimp only
            go_wp2_with fail
            exact bodyPost_ret (v := .tuple #[.int .i64 0, errV EA]) (by unfold results; rw [Tryz.results98]; go_simp) rfl (finN.out h0 _ hto)
        · have h8 : R.refs.length < 8 := by rcases hr' with h | h; exact absurd h hA; exact h
          rw [decide_eq_false hA] at H3
          rw [decide_eq_true h8] at H4
          clear hr' hA h8
          by_cases h0 : EA = 0
          · subst h0
            go_enter Tryz.func98, Tryz.ntmps98
            go_wp2_with fail
            refine H1.mono ?_
            rintro e w1 ⟨rfl, hb1⟩
            dsimp only
            go_wp2_with fail
            refine (H2 _ hb1).mono ?_
            rintro e w2 ⟨rfl, hb2⟩
            dsimp only
            have hB2 := bstep hb1 hb2
            clear hb1 hb2
            go_wp2_with (first
              | (go_at_call 95; refine (H3 _ hB2).mono ?_; rintro e w3 ⟨rfl, hb3⟩; dsimp only)
              | (go_at_call 96; refine (H4 _ (bstep hB2 hb3)).mono ?_; rintro e w4 ⟨rfl, hb4⟩; dsimp only))
            refine (HC _ (bstep (bstep hB2 hb3) hb4)).mono ?_
            rintro e wc ⟨rfl, hbc⟩
            dsimp only
            go_wp2_with fail
            refine hcall.out _ (bstep (bstep (bstep hB2 hb3) hb4) hbc) _ (fun h => absurd rfl h) ?_
            intro _ w5 cv' OS' P' x1 x2 x3
            dsimp only
            go_wp2_with fail
            refine (HPt.out (by simp) _ cv' OS' P' x1).mono ?_
            rintro e w6 ⟨rfl, y1, y2⟩
            dsimp only
            go_wp2_with fail
            exact bodyPost_ret (v := .tuple #[.int .i64 (IA : Int), .nilIface]) (by unfold results; rw [Tryz.results98]; go_simp) rfl (finY.out (by simp) _ (RpTo.lead y1 x2 x3 y2))
          · have h0' : (EA == 0) = false := by simpa using h0
            go_enter Tryz.func98, Tryz.ntmps98
            go_wp2_with fail
            refine H1.mono ?_
            rintro e w1 ⟨rfl, hb1⟩
            dsimp only
            go_wp2_with fail
            refine (H2 _ hb1).mono ?_
            rintro e w2 ⟨rfl, hb2⟩
            dsimp only
            have hB2 := bstep hb1 hb2
            clear hb1 hb2
            go_wp2_with (first
              | (go_at_call 95; refine (H3 _ hB2).mono ?_; rintro e w3 ⟨rfl, hb3⟩; dsimp only)
              | (go_at_call 96; refine (H4 _ (bstep hB2 hb3)).mono ?_; rintro e w4 ⟨rfl, hb4⟩; dsimp only))
            refine (HC _ (bstep (bstep hB2 hb3) hb4)).mono ?_
            rintro e wc ⟨rfl, hbc⟩
            dsimp only
            go_wp2_with fail
            refine hcall.out _ (bstep (bstep (bstep hB2 hb3) hb4) hbc) _ ?_ (fun h => absurd h h0)
            intro _ w5 hto
            dsimp only
            go_wp2_with fail
            exact bodyPost_ret (v := .tuple #[.int .i64 0, errV EA]) (by unfold results; rw [Tryz.results98]; go_simp) rfl (finN.out h0 _ hto)
    · have e0 : setF S t = msgN t := by unfold setF; rw [if_neg (fun h => h h1)]
      have eF : leadE R b ps S t = msgN t := by
        have : leadF R b S t = msgN t := by unfold leadF; rw [e0, if_pos h2]
        unfold leadE; rw [this, if_pos h2]
      rw [h1, show errV 0 = Value.nilIface from rfl] at H1
      have fin : Hid (∀ w', RowKit.Below w.heap.size w w' → LeadAns w r s bm cv OS P R b ps S t (.returned (.tuple #[.int .i64 0, errV (msgN t)])) w') := fun w' hb' => lead_no h2 eF (RpTo.same HH.out hb')
      have h2' : (msgN t == 0) = false := by simpa using h2
      clear H3 H4 H5 H6 eF e0 HG HP HB HH h1 h2
      generalize msgN t = N at *
      go_enter Tryz.func98, Tryz.ntmps98
      go_wp2_with fail
      refine H1.mono ?_
      rintro e w1 ⟨rfl, hb1⟩
      dsimp only
      go_wp2_with fail
      refine (H2 _ hb1).mono ?_
      rintro e w2 ⟨rfl, hb2⟩
      dsimp only
      go_wp2_with fail
      exact bodyPost_ret (v := .tuple #[.int .i64 0, errV N]) (by unfold results; rw [Tryz.results98]; go_simp) rfl (fin.out _ (bstep hb1 hb2))
  · have e0 : setF S t = sortedN S := by unfold setF; rw [if_pos h1]
    have eF : leadE R b ps S t = sortedN S := by
      have : leadF R b S t = sortedN S := by unfold leadF; rw [e0, if_pos h1]
      unfold leadE; rw [this, if_pos h1]
    have fin : Hid (∀ w', RowKit.Below w.heap.size w w' → LeadAns w r s bm cv OS P R b ps S t (.returned (.tuple #[.int .i64 0, errV (sortedN S)])) w') := fun w' hb' => lead_no h1 eF (RpTo.same HH.out hb')
    have h1' : (sortedN S == 0) = false := by simpa using h1
    clear H2 H3 H4 H5 H6 eF e0 HG HP HB HH h1
    generalize sortedN S = N at *
    go_enter Tryz.func98, Tryz.ntmps98
    go_wp2_with fail
    refine H1.mono ?_
    rintro e w1 ⟨rfl, hb1⟩
    dsimp only
    go_wp2_with fail
    exact bodyPost_ret (v := .tuple #[.int .i64 0, errV N]) (by unfold results; rw [Tryz.results98]; go_simp) rfl (fin.out _ hb1)
end Go.Proofs.YtnphjdckdkjopaaGreatDoor

/- repo's Commit, Join, Branch, Move, Drop, New. -/
namespace Go.Proofs.YtnphjdckdkjopaaGreatDoor
open Go Go.RowKit Go.Proofs Go.Maps
set_option synthInstance.maxSize 1000

attribute [local go_sem] eql_errV neq_errV guard_errV

theorem commit_lead {R : Rp} {b : List UInt8} {S : List Tr} {t : List UInt8} (hn : nameR b = true) : commitE R b S t = leadE R b (parR R b) S t ∧ commitI R b S t = leadI R b (parR R b) S t ∧ commitR R b S t = leadN R b (parR R b) S t := by
  have e1 : commitF R b S t = leadF R b S t := by unfold commitF leadF; rw [if_neg (by rw [hn]; decide)]
  have e2 : commitE R b S t = leadE R b (parR R b) S t := by unfold commitE leadE; rw [e1]
  refine ⟨e2, ?_, ?_⟩
  · unfold commitI leadI; rw [e2]
  · unfold commitR leadN; rw [e2]
theorem sl_oneR {W : World} {b : Nat} {i : Int} (h : W.cell? ⟨b, 0, none⟩ = some (.int .i64 i)) : SlI W (some ⟨b, 0, none⟩) [i] := fun _ => ⟨b, 0, rfl, fun j hj => by
  simp at hj
  subst hj
  exact h⟩
theorem sl_two {W : World} {b : Nat} {i k : Int} (h : W.cell? ⟨b, 0, none⟩ = some (.int .i64 i)) (h2 : W.cell? ⟨b, 1, none⟩ = some (.int .i64 k)) : SlI W (some ⟨b, 0, none⟩) [i, k] := fun _ => ⟨b, 0, rfl, fun j hj => by
  simp at hj
  rcases (by omega : j = 0 ∨ j = 1) with rfl | rfl
  · exact h
  · exact h2⟩

set_option maxHeartbeats 4000000 in
set_option maxRecDepth 100000 in
theorem QCommit_any (w : World) (r s bm : Nat) (cv : Value) (OS P : Nat → Prop) (R : Rp) (b : List UInt8) (sd : Option Addr) (sc : Nat) (S : List Tr) (t : List UInt8) (h : RpW w r s bm cv OS P R) (hg : GoodR R) (hb : b.length ≤ reachBytes) (hS : SlT w sd S) (fS : ∀ x ∈ S, fitTr x) (nS : S.length ≤ maxLen) (ht : t.length ≤ reachBytes) :
    Calls Tryz.prog 69 #[.pointer (some ⟨r, 0, none⟩), .string ⟨b.toArray⟩, .slice sd S.length sc, .string ⟨t.toArray⟩] w fun e w' => e = .returned (.tuple #[.int .i64 (commitI R b S t : Int), errV (commitE R b S t)]) ∧ RpTo w r s bm cv OS P (commitR R b S t) w' := by
  have hml : b.length ≤ maxLen := by unfold reachBytes at hb; unfold maxLen; omega
  have HN := QIsName_any b w hml
  have HL := fun W (hW : RowKit.Below w.heap.size w W) => look_br (h.below hW).map b hml
  have HC := hideO (fun W (hW : RowKit.Below w.heap.size w W) => (h.below hW).cells)
  have hlt := h.lt
  cases hn : nameR b with
  | false =>
    have eE : commitE R b S t = 2 := by
      have : commitF R b S t = 2 := by unfold commitF; rw [if_pos hn]
      unfold commitE; rw [this]; rfl
    have eI : commitI R b S t = 0 := by unfold commitI; rw [if_pos (by rw [eE]; decide)]
    have eR : commitR R b S t = R := by unfold commitR; rw [if_pos (by rw [eE]; decide)]
    rw [eE, eI, eR]
    rw [hn] at HN
    have HH := hideO h
    clear HL HC hn eE eI eR h hg hS fS nS ht hb
    go_enter Tryz.func69, Tryz.ntmps69
    go_wp2_with (go_at_call 94; refine HN.mono ?_; rintro e w1 ⟨rfl, hb1⟩; dsimp only)
    exact bodyPost_ret (v := .tuple #[.int .i64 0, .iface 72 (.int .i64 2)]) (by unfold results; rw [Tryz.results69]; go_simp) rfl ⟨rfl, RpTo.same HH.out hb1⟩
  | true =>
    obtain ⟨eE, eI, eR⟩ := commit_lead (R := R) (S := S) (t := t) hn
    rw [eE, eI, eR]
    rw [hn] at HN
    have hpo := par_ok hg b
    by_cases h0 : 0 ≤ atR R.refs b
    · have ep : parR R b = [atR R.refs b] := if_pos h0
      rw [ep] at hpo ⊢
      have HLd := hideO (fun W (hW : RowKit.Below w.heap.size w W) pd hs hpd => Qlead_any W r s bm cv OS P R b pd 1 [atR R.refs b] sd sc S t (h.below hW) hg hb hs hpo hpd (hS.below hW) fS nS ht)
      rw [brI_pos h0, decide_eq_true h0] at HL
      have HO := hideO h.own
      clear h hg hS fS nS ht hb hml hn eE eI eR ep hpo h0
      generalize atR R.refs b = z at *
      go_enter Tryz.func69, Tryz.ntmps69
      go_wp2_with (go_at_call 94; refine HN.mono ?_; rintro e w1 ⟨rfl, hb1⟩; dsimp only; obtain ⟨k0, k1, k2, kf⟩ := HC.out _ hb1; have hl := HL _ hb1; have hlt1 : r < w1.heap.size := (by have := hb1.size; omega))
      have hba := balloc w1 (.cells #[.int .i64 z] 3)
      refine (HLd.out _ (bstep hb1 hba) (some ⟨w1.heap.size, 0, none⟩) (sl_oneR (by go_simp)) (fun _ d hd hO => by cases hd; have h7 := HO.out _ hO; have h8 := hb1.size; have h7 : w1.heap.size < w.heap.size := h7; omega)).mono ?_
      rintro e w2 ⟨rfl, hto⟩
      dsimp only
      have HT := hideO (RpTo.from (bstep hb1 hba) hto)
      clear hto hba hl k0 k1 k2 kf
      go_wp2_with fail
      exact bodyPost_ret (v := .tuple #[.int .i64 (leadI R b [z] S t : Int), errV (leadE R b [z] S t)]) (by unfold results; rw [Tryz.results69]; go_simp) rfl ⟨rfl, HT.out⟩
    · have ep : parR R b = [] := if_neg h0
      rw [ep] at hpo ⊢
      have HLd := hideO (fun W (hW : RowKit.Below w.heap.size w W) => Qlead_any W r s bm cv OS P R b none 0 [] sd sc S t (h.below hW) hg hb (fun h => absurd rfl h) hpo (fun h => absurd rfl h) (hS.below hW) fS nS ht)
      rw [show brI R.refs b = 0 from if_neg h0, decide_eq_false h0] at HL
      clear h hg hS fS nS ht hb hml hn eE eI eR ep hpo h0
      go_enter Tryz.func69, Tryz.ntmps69
      go_wp2_with (go_at_call 94; refine HN.mono ?_; rintro e w1 ⟨rfl, hb1⟩; dsimp only; obtain ⟨k0, k1, k2, kf⟩ := HC.out _ hb1; have hl := HL _ hb1; have hlt1 : r < w1.heap.size := (by have := hb1.size; omega))
      refine (HLd.out _ hb1).mono ?_
      rintro e w2 ⟨rfl, hto⟩
      dsimp only
      have HT := hideO (RpTo.from hb1 hto)
      clear hto hl k0 k1 k2 kf
      go_wp2_with fail
      exact bodyPost_ret (v := .tuple #[.int .i64 (leadI R b [] S t : Int), errV (leadE R b [] S t)]) (by unfold results; rw [Tryz.results69]; go_simp) rfl ⟨rfl, HT.out⟩


theorem toNat_nat {a : Int} (h : 0 ≤ a) : ((a.toNat : Nat) : Int) = a := by omega
/-- a name that leads elsewhere -/
theorem QpointI_any (w : World) (r s bm : Nat) (cv : Value) (OS P : Nat → Prop) (R : Rp) (b : List UInt8) (a : Int) (h : RpW w r s bm cv OS P R) (hg : GoodR R) (ha : inR R a = true) (hr : 0 ≤ atR R.refs b ∨ R.refs.length < 8) (hb : b.length ≤ reachBytes) :
    Calls Tryz.prog 97 #[.pointer (some ⟨r, 0, none⟩), .string ⟨b.toArray⟩, .int .i64 a] w fun e w' => e = .returned (.tuple #[]) ∧ RpTo w r s bm cv OS P (leadTo R b a.toNat) w' := by
  obtain ⟨h0, h1⟩ := inR_iff.1 ha
  have h60 := hg.coms.1
  have := Qpoint_any w r s bm cv OS P R b a.toNat h hg.refs (lead_few hg.few hr) hb (by omega)
  rw [toNat_nat h0] at this
  refine this.mono ?_
  rintro e w' ⟨rfl, q1, q2⟩
  exact ⟨rfl, cv, OS, P, q1, q2, RpIn.refl _ _ _ _ _ _⟩
set_option maxHeartbeats 4000000 in
set_option maxRecDepth 100000 in
theorem QBranch_any (w : World) (r s bm : Nat) (cv : Value) (OS P : Nat → Prop) (R : Rp) (b : List UInt8) (a : Int) (h : RpW w r s bm cv OS P R) (hg : GoodR R) (hb : b.length ≤ reachBytes) :
    Calls Tryz.prog 68 #[.pointer (some ⟨r, 0, none⟩), .string ⟨b.toArray⟩, .int .i64 a] w fun e w' => e = .returned (errV (branchE R b a)) ∧ RpTo w r s bm cv OS P (branchR R b a) w' := by
  have hml : b.length ≤ maxLen := by unfold reachBytes at hb; unfold maxLen; omega
  have HN := QIsName_any b w hml
  have HA := fun W (hW : RowKit.Below w.heap.size w W) => Qhas_any W r s bm cv OS P R a (h.below hW)
  have HB := fun W (hW : RowKit.Below w.heap.size w W) => QhasBranch_any W r s bm cv OS P R b (h.below hW) hml
  have HM := fun W (hW : RowKit.Below w.heap.size w W) => QhasRoom_any W r s bm cv OS P R (h.below hW)
  have HP := hideO (fun (ha : inR R a = true) (hr : 0 ≤ atR R.refs b ∨ R.refs.length < 8) W (hW : RowKit.Below w.heap.size w W) => QpointI_any W r s bm cv OS P R b a (h.below hW) hg ha hr hb)
  have HH := hideO h
  have fin : Hid (∀ N w', N ≠ 0 → branchE R b a = N → RowKit.Below w.heap.size w w' → Ending.returned (errV N) = .returned (errV (branchE R b a)) ∧ RpTo w r s bm cv OS P (branchR R b a) w') := fun N w' hN he hb' => by
    have : branchR R b a = R := by unfold branchR; rw [he, if_pos hN]
    rw [he, this]
    exact ⟨rfl, RpTo.same HH.out hb'⟩
  cases hn : nameR b with
  | false =>
    have eE : branchE R b a = 2 := by unfold branchE; rw [if_pos hn]
    have fin2 : Hid (∀ w', RowKit.Below w.heap.size w w' → Ending.returned (.iface 72 (.int .i64 2)) = .returned (errV (branchE R b a)) ∧ RpTo w r s bm cv OS P (branchR R b a) w') := fun w' hb' => fin.out 2 w' (by decide) eE hb'
    rw [hn] at HN
    clear h hg hb hml hn eE fin HA HB HM HP
    go_enter Tryz.func68, Tryz.ntmps68
    go_wp2_with fail
    refine HN.mono ?_
    rintro e w1 ⟨rfl, hb1⟩
    dsimp only
    go_wp2_with fail
    go_ret
    exact fin2.out _ hb1
  | true =>
    rw [hn] at HN
    cases h1 : inR R a with
    | false =>
      have eE : branchE R b a = 1 := by unfold branchE; rw [if_neg (by rw [hn]; decide), if_pos h1]
      have fin2 : Hid (∀ w', RowKit.Below w.heap.size w w' → Ending.returned (.iface 72 (.int .i64 1)) = .returned (errV (branchE R b a)) ∧ RpTo w r s bm cv OS P (branchR R b a) w') := fun w' hb' => fin.out 1 w' (by decide) eE hb'
      rw [h1] at HA
      clear h hg hb hml hn eE fin HB HM HP h1
      go_enter Tryz.func68, Tryz.ntmps68
      go_wp2_with fail
      refine HN.mono ?_
      rintro e w1 ⟨rfl, hb1⟩
      dsimp only
      go_wp2_with fail
      refine (HA _ hb1).mono ?_
      rintro e w2 ⟨rfl, hb2⟩
      dsimp only
      go_wp2_with fail
      go_ret
      exact fin2.out _ (bstep hb1 hb2)
    | true =>
      rw [h1] at HA
      by_cases h0 : 0 ≤ atR R.refs b
      · have eE : branchE R b a = 7 := by unfold branchE; rw [if_neg (by rw [hn]; decide), if_neg (by rw [h1]; decide), if_pos h0]
        have fin2 : Hid (∀ w', RowKit.Below w.heap.size w w' → Ending.returned (.iface 72 (.int .i64 7)) = .returned (errV (branchE R b a)) ∧ RpTo w r s bm cv OS P (branchR R b a) w') := fun w' hb' => fin.out 7 w' (by decide) eE hb'
        rw [decide_eq_true h0] at HB
        clear h hg hb hml hn eE fin HM HP h1 h0
        go_enter Tryz.func68, Tryz.ntmps68
        go_wp2_with fail
        refine HN.mono ?_
        rintro e w1 ⟨rfl, hb1⟩
        dsimp only
        go_wp2_with fail
        refine (HA _ hb1).mono ?_
        rintro e w2 ⟨rfl, hb2⟩
        dsimp only
        go_wp2_with fail
        refine (HB _ (bstep hb1 hb2)).mono ?_
        rintro e w3 ⟨rfl, hb3⟩
        dsimp only
        go_wp2_with fail
        go_ret
        exact fin2.out _ (bstep (bstep hb1 hb2) hb3)
      · rw [decide_eq_false h0] at HB
        by_cases h8 : R.refs.length < 8
        · have eE : branchE R b a = 0 := by unfold branchE; rw [if_neg (by rw [hn]; decide), if_neg (by rw [h1]; decide), if_neg h0, if_pos h8]
          have eR : branchR R b a = leadTo R b a.toNat := by unfold branchR; rw [if_neg (fun h => h eE)]
          rw [eE, eR]
          have HPt := HP.out h1 (Or.inr h8)
          rw [decide_eq_true h8] at HM
          clear h hg hb hml hn eE eR fin HP h1 h0 h8
          go_enter Tryz.func68, Tryz.ntmps68
          go_wp2_with fail
          refine HN.mono ?_
          rintro e w1 ⟨rfl, hb1⟩
          dsimp only
          go_wp2_with fail
          refine (HA _ hb1).mono ?_
          rintro e w2 ⟨rfl, hb2⟩
          dsimp only
          go_wp2_with fail
          refine (HB _ (bstep hb1 hb2)).mono ?_
          rintro e w3 ⟨rfl, hb3⟩
          dsimp only
          go_wp2_with fail
          refine (HM _ (bstep (bstep hb1 hb2) hb3)).mono ?_
          rintro e w4 ⟨rfl, hb4⟩
          dsimp only
          go_wp2_with fail
          refine (HPt _ (bstep (bstep (bstep hb1 hb2) hb3) hb4)).mono ?_
          rintro e w5 ⟨rfl, hto⟩
          dsimp only
          go_wp2_with fail
          go_ret
          exact ⟨rfl, RpTo.from (bstep (bstep (bstep hb1 hb2) hb3) hb4) hto⟩
        · have eE : branchE R b a = 4 := by unfold branchE; rw [if_neg (by rw [hn]; decide), if_neg (by rw [h1]; decide), if_neg h0, if_neg h8]
          have fin2 : Hid (∀ w', RowKit.Below w.heap.size w w' → Ending.returned (.iface 72 (.int .i64 4)) = .returned (errV (branchE R b a)) ∧ RpTo w r s bm cv OS P (branchR R b a) w') := fun w' hb' => fin.out 4 w' (by decide) eE hb'
          rw [decide_eq_false h8] at HM
          clear h hg hb hml hn eE fin HP h1 h0 h8
          go_enter Tryz.func68, Tryz.ntmps68
          go_wp2_with fail
          refine HN.mono ?_
          rintro e w1 ⟨rfl, hb1⟩
          dsimp only
          go_wp2_with fail
          refine (HA _ hb1).mono ?_
          rintro e w2 ⟨rfl, hb2⟩
          dsimp only
          go_wp2_with fail
          refine (HB _ (bstep hb1 hb2)).mono ?_
          rintro e w3 ⟨rfl, hb3⟩
          dsimp only
          go_wp2_with fail
          refine (HM _ (bstep (bstep hb1 hb2) hb3)).mono ?_
          rintro e w4 ⟨rfl, hb4⟩
          dsimp only
          go_wp2_with fail
          go_ret
          exact fin2.out _ (bstep (bstep (bstep hb1 hb2) hb3) hb4)
end Go.Proofs.YtnphjdckdkjopaaGreatDoor

/- repo's New and Commits. -/
namespace Go.Proofs.YtnphjdckdkjopaaGreatDoor
open Go Go.RowKit Go.Proofs Go.Maps
set_option synthInstance.maxSize 1000

attribute [local go_sem] eql_errV neq_errV guard_errV

set_option maxHeartbeats 1000000 in
theorem QNew_any (w : World) : Calls Tryz.prog 21 #[] w fun e w' => ∃ (r : Nat) (O : Nat → Prop), e = .returned (.pointer (some ⟨r, 0, none⟩)) ∧ RepAt w' r O emptyR ∧ RowKit.Below w.heap.size w w' ∧ ∀ j, O j → w.heap.size ≤ j := by
  have H := theFace.new w
  have h1 := makeNums
  go_enter Tryz.func21, Tryz.ntmps21
  go_wp2_with (go_at_call 42; refine H.mono ?_; rintro e w1 ⟨s, OS, rfl, hst, hb1, hnew⟩; dsimp only)
  go_ret
  have hz := hb1.size
  have hown := theFace.own hst
  have hb2 := bstep (balloc w1 (.map #[] 0)) (balloc (w1.alloc (.map #[] 0)) (.cells #[.pointer (some ⟨s, 0, none⟩), .slice none 0 0, .map (some w1.heap.size)] 85))
  refine ⟨w1.heap.size + 1, RpO (w1.heap.size + 1) w1.heap.size (.slice none 0 0) OS (fun _ => False), by simp, ⟨s, w1.heap.size, .slice none 0 0, OS, fun _ => False, ⟨?_, theFace.below hst hb2, ⟨[], World.ownsRow_nil _ _ _ _, fun i hi => absurd hi (by simp [emptyR])⟩, ⟨.map [], own_few ((World.ownsMap_made w1 Tryz.prog 9 (plainElem Tryz.prog 3)).alloc _) (by simp [Maps.size]), BrD.nil, rfl⟩, linked_empty, fun _ h => h.elim, ⟨fun h => by have := hown _ h; omega, fun h => by have := hown _ h; omega, by omega⟩, fun j hj => (by cases hj), fun _ h => h.elim⟩, fun _ => Iff.rfl⟩, bstep hb1 hb2, ?_⟩
  · show ((w1.heap.push _).push _)[w1.heap.size + 1]? = _
    rw [Array.getElem?_push, if_pos (by simp)]
  · rintro j (rfl | rfl | hj | hj | hj)
    · omega
    · omega
    · cases hj
    · exact hj.elim
    · exact hnew j hj

/-- commits in a new row, the parents' numbers in new memory -/
def ComNew (w0 w : World) (v : Value) (l : List Cm) : Prop := ∃ cs : List Value, w.ownsRow w0.heap.size 113 3 v l.length cs ∧ ∀ (i : Nat) (hi : i < l.length), ∃ a c, cs[i * 3]? = some (.slice a l[i].1.length c) ∧ cs[i * 3 + 1]? = some (.int .i64 l[i].2.1) ∧ cs[i * 3 + 2]? = some (.string ⟨l[i].2.2.toArray⟩) ∧ SlI w a l[i].1 ∧ l[i].1.length ≤ c ∧ (l[i].1 ≠ [] → ∀ d, a = some d → v.ownBlock ≠ some d.block)
theorem slI_lt {w : World} {a : Option Addr} {l : List Int} (h : SlI w a l) (hne : l ≠ []) {d : Addr} (hd : a = some d) : d.block < w.heap.size := by
  obtain ⟨b, o, e, h1⟩ := h hne
  rw [e] at hd
  cases hd
  exact World.block_lt_of_cell? w _ (h1 0 (List.length_pos_iff.2 hne))
theorem ComNew.nil (w0 w : World) : ComNew w0 w (.slice none 0 0) [] := ⟨[], World.ownsRow_nil _ _ _ _, fun i hi => absurd hi (by simp)⟩
theorem ComNew.below {w0 w w' : World} {v : Value} {l : List Cm} (h : ComNew w0 w v l) (hb : RowKit.Below w.heap.size w w') : ComNew w0 w' v l := by
  obtain ⟨cs, ho, h2⟩ := h
  refine ⟨cs, ownsO_below ho hb, fun i hi => ?_⟩
  obtain ⟨a, c, q1, q2, q3, q4, q5, q6⟩ := h2 i hi
  exact ⟨a, c, q1, q2, q3, q4.below hb, q5, q6⟩
theorem ComNew.push {w0 W W2 : World} {v : Value} {l : List Cm} {cs : List Value} {g cap : Nat} {a : Option Addr} {c : Nat} {ps : List Int} {y : Int} {t : List UInt8} (ho : W.ownsRow w0.heap.size 113 3 v l.length cs)
    (h2 : ∀ (i : Nat) (hi : i < l.length), ∃ a c, cs[i * 3]? = some (.slice a l[i].1.length c) ∧ cs[i * 3 + 1]? = some (.int .i64 l[i].2.1) ∧ cs[i * 3 + 2]? = some (.string ⟨l[i].2.2.toArray⟩) ∧ SlI W a l[i].1 ∧ l[i].1.length ≤ c ∧ (l[i].1 ≠ [] → ∀ d, a = some d → v.ownBlock ≠ some d.block))
    (hs : SlI W a ps) (hc : ps.length ≤ c) (ha : ps ≠ [] → ∀ d, a = some d → v.ownBlock ≠ some d.block) (hrow : W2.ownsRow w0.heap.size 113 3 (.slice (some ⟨g, 0, none⟩) (l.length + 1) cap) (l.length + 1) (cs ++ comCellsQ a c ps y t)) (hg : W.grownBy W2 v.ownBlock) (hat : v.ownBlock = some g ∨ W.heap.size ≤ g) :
    ComNew w0 W2 (.slice (some ⟨g, 0, none⟩) (l.length + 1) cap) (l ++ [(ps, y, t)]) := by
  have hcl : cs.length = l.length * 3 := ho.1
  have hgo : ∀ {x : Option Addr} {m : List Int}, SlI W x m → m ≠ [] → ∀ d, x = some d → v.ownBlock ≠ some d.block → g ≠ d.block := fun hx hm d hd hv e => by
    rcases hat with h | h
    · exact hv (by rw [← e]; exact h)
    · have := slI_lt hx hm hd; omega
  refine ⟨_, by rw [List.length_append]; exact hrow, fun i hi => ?_⟩
  simp only [List.length_append, List.length_singleton] at hi
  by_cases hil : i < l.length
  · obtain ⟨b, d, q1, q2, q3, q4, q5, q6⟩ := h2 i hil
    have e : (l ++ [(ps, y, t)])[i]'(by rw [List.length_append]; omega) = l[i] := List.getElem_append_left hil
    rw [e, List.getElem?_append_left (by omega), List.getElem?_append_left (by omega), List.getElem?_append_left (by omega)]
    refine ⟨b, d, q1, q2, q3, psl_keep q4 fun hne d hd => hg.block _ (slI_lt q4 hne hd) (fun e => q6 hne d hd e.symm), q5, fun hne d hd e => ?_⟩
    have e : some g = some d.block := e
    exact hgo q4 hne d hd (q6 hne d hd) (Option.some.inj e)
  · obtain rfl : i = l.length := by omega
    have e : (l ++ [(ps, y, t)])[l.length]'(by rw [List.length_append]; simp) = (ps, y, t) := by rw [List.getElem_append_right (Nat.le_refl _)]; simp
    rw [e, List.getElem?_append_right (by omega), List.getElem?_append_right (by omega), List.getElem?_append_right (by omega), hcl]
    rw [show l.length * 3 - l.length * 3 = 0 by omega, show l.length * 3 + 1 - l.length * 3 = 1 by omega, show l.length * 3 + 2 - l.length * 3 = 2 by omega]
    refine ⟨a, c, rfl, rfl, rfl, psl_keep hs fun hne d hd => hg.block _ (slI_lt hs hne hd) (fun e => ha hne d hd e.symm), hc, fun hne d hd e => ?_⟩
    have e : some g = some d.block := e
    exact hgo hs hne d hd (ha hne d hd) (Option.some.inj e)
/-- what is answered of commits -/
def ComsOut (w : World) (l : List Cm) (e : Ending) (w' : World) : Prop := ∃ ad ca, e = .returned (.slice ad l.length ca) ∧ l.length ≤ ca ∧ SlC w' ad l ∧ (∀ b o, ad = some ⟨b, o, none⟩ → ∀ i, i < l.length → ∀ a n c, w'.cell? ⟨b, o + i * 3, none⟩ = some (.slice a n c) → n ≤ c) ∧ RowKit.Below w.heap.size w w'
theorem ComNew.out {w0 w : World} {v : Value} {l : List Cm} (h : ComNew w0 w v l) (hb : RowKit.Below w0.heap.size w0 w) : ∃ ad ca, v = .slice ad l.length ca ∧ ComsOut w0 l (.returned (.slice ad l.length ca)) w := by
  obtain ⟨cs, ho, h2⟩ := h
  by_cases hn : 0 < l.length
  · obtain ⟨g, cap, rfl, hcap, hx⟩ := prow_at ho hn
    refine ⟨_, _, rfl, _, _, rfl, hcap, fun _ => ⟨g, 0, rfl, fun i hi => ?_⟩, fun b o e i hi a n c hc => ?_, hb⟩
    · obtain ⟨a, c, q1, q2, q3, q4, q5, q6⟩ := h2 i hi
      refine ⟨a, c, ?_, ?_, ?_, q4⟩
      · rw [Nat.zero_add]; exact hx _ _ q1
      · rw [Nat.zero_add]; exact hx _ _ q2
      · rw [Nat.zero_add]; exact hx _ _ q3
    · obtain ⟨a', c', q1, q2, q3, q4, q5, q6⟩ := h2 i hi
      cases e
      rw [Nat.zero_add, hx _ _ q1] at hc
      cases hc
      exact q5
  · have hl : l = [] := List.eq_nil_of_length_eq_zero (by omega)
    subst hl
    rcases ho.2 with ⟨rfl, _⟩ | ⟨g, cap, cur, rfl, _⟩
    · exact ⟨none, 0, rfl, none, 0, rfl, Nat.le_refl _, fun h => absurd rfl h, fun b o e => (by cases e), hb⟩
    · exact ⟨_, cap, rfl, _, cap, rfl, Nat.zero_le _, fun h => absurd rfl h, fun b o e i hi => absurd hi (by simp), hb⟩

set_option maxHeartbeats 4000000 in
set_option maxRecDepth 100000 in
theorem QCommits_any (w : World) (r s bm : Nat) (cv : Value) (OS P : Nat → Prop) (R : Rp) (h : RpW w r s bm cv OS P R) (hg : GoodR R) :
    Calls Tryz.prog 39 #[.pointer (some ⟨r, 0, none⟩)] w (ComsOut w R.coms) := by
  obtain ⟨ad, cap, rfl⟩ := h.com.form
  obtain ⟨c0, c1, c2, cf⟩ := h.cells
  have hlt := h.lt
  have HS := hideO h.here
  have hmx : R.coms.length ≤ 60 := hg.coms.1
  have HM := hideO (fun (c : Cm) (hc : c ∈ R.coms) => (show c.1.length ≤ 1000000 ∧ c.2.2.length ≤ 281474976710656 by
    obtain ⟨j, hj, rfl⟩ := List.getElem_of_mem hc
    have := hg.coms.2 j hj
    unfold comN at this
    split at this
    · cases this
    · rename_i h9
      have h8 : ¬ msgN R.coms[j].2.2 = 4 := fun e => h9 (Or.inr e)
      unfold msgN at h8
      split at h8
      · exact absurd rfl h8
      · omega))
  obtain ⟨i0, hi0, hz⟩ := Option.map_eq_some_iff.1 infoCmQ
  simp only [Prod.mk.injEq] at hz
  obtain ⟨hz0, hz1, hz2⟩ := hz
  clear h hg
  generalize R.coms = l at *
  go_enter Tryz.func39, Tryz.ntmps39
  go_wp2_with fail
  go_loopw [3, 11] (fun v i wr => ∃ (k : Nat), k ≤ l.length ∧ i = .int .i64 k ∧ RowKit.Below w.heap.size w wr ∧ Hid (ComNew w wr v (l.take k))) (fun _ i wr => l.length - (intOf i).toNat)
  case atStart => exact ⟨0, Nat.zero_le _, rfl, RowKit.Below.refl _ w, ComNew.nil w w⟩
  case round =>
    obtain ⟨k, hk, rfl, hbr, hN⟩ := hrel
    by_cases hltk : k < l.length
    · obtain ⟨b, a, c, rfl, q0, q1, q2, q3, q4⟩ := HS.out wr hbr k hltk
      have i0' : (0 : Int) ≤ (k : Int) := by omega
      have i1 : (k : Int) < (l.length : Int) := by omega
      obtain ⟨hm1, hm2⟩ := HM.out _ (List.getElem_mem hltk)
      have htk : Hid (l.take (k + 1) = l.take k ++ [l[k]]) := List.take_succ_eq_append_getElem hltk
      have hlk : Hid ((l.take k).length = k) := by show _ = _; rw [List.length_take]; omega
      have Q3 := hideO q3
      clear q3 q4
      generalize l[k] = z at *
      obtain ⟨ps, y, m⟩ := z
      dsimp only at *
      have hba := balloc wr (.cells #[.slice a ps.length c, .int .i64 y, .string ⟨m.toArray⟩] 113)
      have HF := Qfresh_any a c ps y m _ (Q3.out.below hba) hm1 hm2
      have hlo : Hid (∀ j, u3.ownBlock = some j → j < wr.heap.size) := fun j hj => by
        obtain ⟨cs0, ho0, _⟩ := hN.out
        exact (ho0.lt j hj).2
      have hzw := hbr.size
      go_wp2_with (first
        | (go_at_call 61; refine HF.mono ?_; rintro e w3 ⟨a5, c5, rfl, hN5⟩; dsimp only; have hb3 := bstep (bstep hba hN5.2.2.2) (balloc w3 (.cells #[.slice a5 ps.length c5, .int .i64 y, .string ⟨m.toArray⟩] 113)); obtain ⟨cs, ho, h2⟩ := hN.out.below hb3; have HO := hideO ho; have H2 := hideO h2; have HB3 := hideO hb3; have HN5 := hideO hN5; clear ho h2 hN hb3 hba hN5)
        | (at_builtin; refine wpList_append_lies _ rfl _ _ 54 rfl w.heap.size 113 i0 (.agg #[.slice none 0 0, .int .i64 0, .string ⟨#[]⟩]) 3 48 Tryz.underlying54 hi0 hz0 hz1 hz2 rfl (by decide) u3 _ cs rfl HO.out ⟨w3.heap.size, 0, none⟩ 1 1 (comCellsQ a5 c5 ps y m) rfl rfl (newCmQ w3 a5 c5 ps y m) (by simp [comCellsQ, Value.oneCell']) (by decide) (by rw [hlk.out]; unfold maxLen; omega) (by rw [hlk.out]; omega) (by have := HB3.out.size; omega) _ rfl ?_; intro g cp w9 g1 g2 g3 g4; have hp := hideO (ComNew.push HO.out H2.out (HN5.out.1.below (balloc w3 _)) HN5.out.2.1 (fun hne d hd e => by have h7 := hlo.out _ e; have h8 := HN5.out.2.2.1 hne d hd; simp at h8; omega) g1 g2 (g3.imp id (fun e => by rw [e]; exact Nat.le_refl _))); have hb9 := hideO ((bstep hbr HB3.out).grown g2 (bstep hbr HB3.out).size (fun j e => (HO.out.lt j e).1)); clear g1 g2 g3 g4 HO H2))
      go_roundw
      case rel => exact ⟨k + 1, by omega, by go_num, hb9.out, by show ComNew _ _ _ _; rw [htk.out]; have := hp.out; rw [hlk.out] at this; exact this⟩
      case measure => simp [intOf]; omega
    · have hkk : k = l.length := by omega
      subst hkk
      have hfin : ComNew w wr u3 l := by have := hN.out; rw [List.take_length] at this; exact this
      obtain ⟨ad', ca', rfl, hout⟩ := hfin.out hbr
      have HOut := hideO hout
      clear hout hN hfin HS HM
      go_wp2_with fail
      go_ret
      exact HOut.out
end Go.Proofs.YtnphjdckdkjopaaGreatDoor

/- journal's deed: do, body, record. -/
namespace Go.Proofs.YtnphjdckdkjopaaGreatDoor
open Go Go.RowKit Go.Proofs Go.Maps
set_option synthInstance.maxSize 1000

attribute [local go_sem] eql_errV neq_errV guard_errV

/-- what is done, as a value: its set in memory -/
def valD (d : Dd) (ad : Option Addr) (ca : Nat) : Value := .agg #[.string ⟨d.1.toArray⟩, .string ⟨d.2.1.toArray⟩, .slice ad d.2.2.1.length ca, .string ⟨d.2.2.2.1.toArray⟩, .int .i64 d.2.2.2.2]
/-- what is asked of one that is done -/
structure InD (w : World) (d : Dd) (ad : Option Addr) (ca : Nat) : Prop where
  name : d.2.1.length ≤ reachBytes
  msg : d.2.2.2.1.length ≤ reachBytes
  set : SlT w ad d.2.2.1
  fit : ∀ x ∈ d.2.2.1, fitTr x
  len : d.2.2.1.length ≤ maxLen
  kind : d.1.length ≤ 1000000
theorem InD.below {w w' : World} {d : Dd} {ad : Option Addr} {ca : Nat} (h : InD w d ad ca) (hb : RowKit.Below w.heap.size w w') : InD w' d ad ca := ⟨h.name, h.msg, h.set.below hb, h.fit, h.len, h.kind⟩
def DoAns (w : World) (n s bm : Nat) (cv : Value) (OS P : Nat → Prop) (R : Rp) (d : Dd) (e : Ending) (w' : World) : Prop := e = .returned (.tuple #[.int .i64 (doI R d : Int), errV (doE R d)]) ∧ RpTo w n s bm cv OS P (doR R d) w'

set_option maxHeartbeats 2000000 in
set_option maxRecDepth 100000 in
theorem do_any (w : World) (n s bm : Nat) (cv : Value) (OS P : Nat → Prop) (R : Rp) (d : Dd) (ad : Option Addr) (ca : Nat) (h : RpW w n s bm cv OS P R) (hg : GoodR R) (hd : InD w d ad ca) :
    Calls Tryz.prog 45 #[valD d ad ca, .pointer (some ⟨n, 0, none⟩)] w (DoAns w n s bm cv OS P R d) := by
  obtain ⟨k, nm, S, m, a⟩ := d
  have h1 := hd.name
  have h2 := hd.msg
  dsimp only at h1 h2
  by_cases hk : k = brK
  · subst hk
    have H := fun W (hb : RowKit.Below w.heap.size w W) => QBranch_any W n s bm cv OS P R nm a (h.below hb) hg h1
    have fin : Hid (∀ w', RpTo w n s bm cv OS P (branchR R nm a) w' → DoAns w n s bm cv OS P R (brK, nm, S, m, a) (.returned (.tuple #[.int .i64 0, errV (branchE R nm a)])) w') := fun w' hto => by
      unfold DoAns doI doE doR
      rw [if_pos rfl, if_pos rfl, if_pos rfl]
      exact ⟨rfl, hto⟩
    clear h hg hd h1 h2
    generalize branchE R nm a = E at *
    generalize branchR R nm a = R' at *
    generalize DoAns w n s bm cv OS P R (brK, nm, S, m, a) = G at *
    unfold valD brK
    go_enter Tryz.func45, Tryz.ntmps45
    go_wp2_with fail
    refine (H _ (balloc _ _)).mono ?_
    rintro e w1 ⟨rfl, hto⟩
    dsimp only
    go_wp2_with fail
    exact fin.out _ (RpTo.from (balloc _ _) hto)
  · have H := fun W (hb : RowKit.Below w.heap.size w W) => QCommit_any W n s bm cv OS P R nm ad ca S m (h.below hb) hg h1 (hd.set.below hb) hd.fit hd.len h2
    have fin : Hid (∀ w', RpTo w n s bm cv OS P (commitR R nm S m) w' → DoAns w n s bm cv OS P R (k, nm, S, m, a) (.returned (.tuple #[.int .i64 (commitI R nm S m : Int), errV (commitE R nm S m)])) w') := fun w' hto => by
      unfold DoAns doI doE doR
      rw [if_neg hk, if_neg hk, if_neg hk]
      exact ⟨rfl, hto⟩
    have hk' : (k == [98, 114, 97, 110, 99, 104]) = false := by simpa [brK] using hk
    unfold valD
    clear h hg hd h1 h2
    generalize commitE R nm S m = E at *
    generalize commitI R nm S m = I at *
    generalize commitR R nm S m = R' at *
    generalize DoAns w n s bm cv OS P R (k, nm, S, m, a) = G at *
    go_enter Tryz.func45, Tryz.ntmps45
    go_wp2_with fail
    refine (H _ (balloc _ _)).mono ?_
    rintro e w1 ⟨rfl, hto⟩
    dsimp only
    go_wp2_with fail
    exact fin.out _ (RpTo.from (balloc _ _) hto)

set_option maxHeartbeats 2000000 in
set_option maxRecDepth 100000 in
theorem body_any (w : World) (d : Dd) (ad : Option Addr) (ca : Nat) (hd : InD w d ad ca) (ho : OkD d) (hL : ∀ W, RowKit.Below w.heap.size w W → LaidN W) :
    Calls Tryz.prog 99 #[valD d ad ca] w fun e w' => e = .returned (.tuple #[.string ⟨(bodyD d).toArray⟩, .nilIface]) ∧ RowKit.Below w.heap.size w w' := by
  obtain ⟨k, nm, S, m, a⟩ := d
  have hap := appX
  have hnl := name_short ho.name
  dsimp only at hnl
  rcases ho.kind with ⟨h1, h2, h3, h4, h5⟩ | ⟨h1, h2, h3, h4⟩
  · dsimp only at h1 h2 h3 h4 h5
    subst h1 h2 h3
    have H := fun W (hb : RowKit.Below w.heap.size w W) => itoaB a h4 h5 W (hL W hb)
    have e : Hid (bodyD (brK, nm, [], [], a) = brK ++ [32] ++ nm ++ [32] ++ Lib.itoa a) := by show _ = _; unfold bodyD; rw [if_pos rfl]; simp
    rw [e.out]
    unfold valD brK
    have hT := itoa_len h4 h5
    clear hd ho hL h4 h5 e
    generalize Lib.itoa a = T at *
    go_enter Tryz.func99, Tryz.ntmps99
    go_wp2_with fail
    refine (H _ (balloc _ _)).mono ?_
    rintro e w1 ⟨rfl, hb1⟩
    dsimp only
    go_wp2_with fail
    exact bodyPost_ret (v := .tuple #[.string ⟨([98, 114, 97, 110, 99, 104] ++ [32] ++ nm ++ [32] ++ T).toArray⟩, .nilIface]) (by unfold results; rw [Tryz.results99]; go_simp) rfl ⟨rfl, bstep (balloc _ _) hb1⟩
  · dsimp only at h1 h2 h3 h4
    subst h1 h4
    have hml := msg_len24 h3
    have sn : sortedN S = 0 := sortedN_set.2 h2
    have H := fun W (hb : RowKit.Below w.heap.size w W) => CSet_any ad ca S W (hd.set.below hb) hd.fit (by have := hd.len; unfold maxLen at this; dsimp only at this; omega)
    rw [sn, show setB S = encS S from if_pos sn, show errV 0 = Value.nilIface from rfl] at H
    have e : Hid (bodyD (comK, nm, S, m, 0) = comK ++ [32] ++ nm ++ [32] ++ m ++ [10] ++ encS S) := by show _ = _; unfold bodyD; rw [if_neg (show ¬ comK = brK by decide)]; simp
    rw [e.out]
    unfold valD comK
    have hT := encS_len h2
    clear hd ho hL e sn h2 h3
    generalize encS S = T at *
    go_enter Tryz.func99, Tryz.ntmps99
    go_wp2_with fail
    refine (H _ (balloc _ _)).mono ?_
    rintro e w1 ⟨rfl, hb1⟩
    dsimp only
    have c3 : w1.cell? ⟨w.heap.size, 3, none⟩ = some (.string ⟨m.toArray⟩) := ((bcell hb1).1 _ _ (by simp)).trans (by go_simp)
    go_wp2_with fail
    exact bodyPost_ret (v := .tuple #[.string ⟨([99, 111, 109, 109, 105, 116] ++ [32] ++ nm ++ [32] ++ m ++ [10] ++ T).toArray⟩, .nilIface]) (by unfold results; rw [Tryz.results99]; go_simp) rfl ⟨rfl, bstep (balloc _ _) hb1⟩

set_option maxHeartbeats 2000000 in
set_option maxRecDepth 100000 in
theorem record_any (w : World) (d : Dd) (ad : Option Addr) (ca : Nat) (hd : InD w d ad ca) (ho : OkD d) (hL : ∀ W, RowKit.Below w.heap.size w W → LaidN W) :
    Calls Tryz.prog 70 #[valD d ad ca] w fun e w' => e = .returned (.tuple #[.string ⟨(recD d).toArray⟩, .nilIface]) ∧ RowKit.Below w.heap.size w w' := by
  have hap := appX
  have hbl := body_len ho
  have H := fun W (hb : RowKit.Below w.heap.size w W) => body_any W d ad ca (hd.below hb) ho (fun W' hb' => hL W' (bstep hb hb'))
  have e : Hid (recD d = Lib.itoa (bodyD d).length ++ [58] ++ bodyD d) := by show _ = _; unfold recD; simp
  have H2 := fun W (hb : RowKit.Below w.heap.size w W) => itoaB ((bodyD d).length : Int) (by omega) (by omega) W (hL W hb)
  rw [e.out]
  have hT := itoa_len (n := ((bodyD d).length : Int)) (by omega) (by omega)
  clear hd ho hL e
  generalize bodyD d = B at *
  generalize Lib.itoa (B.length : Int) = T at *
  obtain ⟨k, nm, S, m, a⟩ := d
  unfold valD at *
  dsimp only at *
  go_enter Tryz.func70, Tryz.ntmps70
  go_wp2_with fail
  refine (H _ (by first | exact RowKit.Below.refl _ _ | exact balloc _ _)).mono ?_
  rintro e w1 ⟨rfl, hb1'⟩
  have hb1 : RowKit.Below w.heap.size w w1 := by first | exact hb1' | exact bstep (balloc _ _) hb1'
  clear hb1'
  dsimp only
  go_wp2_with fail
  refine (H2 _ hb1).mono ?_
  rintro e w2 ⟨rfl, hb2⟩
  dsimp only
  go_wp2_with fail
  exact bodyPost_ret (v := .tuple #[.string ⟨(T ++ [58] ++ B).toArray⟩, .nilIface]) (by unfold results; rw [Tryz.results70]; go_simp) rfl ⟨rfl, bstep hb1 hb2⟩
end Go.Proofs.YtnphjdckdkjopaaGreatDoor
