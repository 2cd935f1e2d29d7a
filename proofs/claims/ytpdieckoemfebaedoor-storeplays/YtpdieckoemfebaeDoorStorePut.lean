/- store's Put. -/
import Derived.Test.YtpdieckoemfebaeDoorStoreRoom
namespace Go.Proofs.YtpdieckoemfebaeDoor
open Go Go.RowKit Go.Proofs Go.Maps
set_option synthInstance.maxSize 1000

theorem Offs.blk {O : Nat → Prop} {w w' : World} {b : Nat} (hg : w.grownBy w' (some b)) (hb : O b) : Offs O w w' := Offs.of_grown hg fun k e => by cases e; exact hb
theorem Offs.set {O : Nat → Prop} {w : World} {p : Addr} {v : Value} (hp : O p.block) : Offs O w (w.setCell p v) :=
  ⟨rfl, rfl, rfl, by simp, fun k _ hO => heap_setCell_other _ _ _ _ fun e => hO (e ▸ hp)⟩

set_option maxHeartbeats 4000000 in
set_option maxRecDepth 100000 in
theorem SPut_any (w : World) (s b1 b2 n : Nat) (L : List Ob) (b : List UInt8) (h : SAt w s b1 b2 n L) (hg : GoodO n L) (hn : n ≤ 1000000) (hb : b.length ≤ reachBytes) :
    Calls Tryd.prog 7 #[.pointer (some ⟨s, 0, none⟩), .string ⟨b.toArray⟩] w fun e w' => e = .returned (.tuple #[.int .i64 (putI n L b : Int), errV (putE L b)]) ∧ SAt w' s b1 b2 (putM n L b) (putL n L b) ∧ Offs (ownO s b1 b2) w w' := by
  have hml : b.length ≤ maxLen := by unfold reachBytes at hb; unfold maxLen; omega
  have hcl : b.length ≤ 281474976710656 := by unfold reachBytes at hb; omega
  have hlk := look_num h b hml
  have H : Hid (SAt w s b1 b2 n L) := h
  have HG : Hid (GoodO n L) := hg
  have hlt := h.lts
  have c0 := h.c0
  by_cases hf : findO L b ≠ 0
  · have e1 : putI n L b = findO L b := if_pos hf
    have e2 : putE L b = 0 := if_pos hf
    have e3 : putM n L b = n := if_pos hf
    have e4 : putL n L b = L := if_pos hf
    rw [e1, e2, e3, e4]
    rw [decide_eq_true hf] at hlk
    clear e1 e2 e3 e4 hf h hg HG hb hml hcl
    generalize findO L b = k at *
    go_enter Tryd.func7, Tryd.ntmps7
    go_wp2_with fail
    exact bodyPost_ret (v := .tuple #[.int .i64 (k : Int), .nilIface]) (by unfold results; rw [Tryd.results7]; go_simp) rfl ⟨rfl, H.out, Offs.of_below (RowKit.Below.refl _ w)⟩
  · have hf0 : findO L b = 0 := by simpa using hf
    have e1 : putI n L b = if fullO L b = true then 0 else n + 1 := if_neg hf
    have e2 : putE L b = if fullO L b = true then 4 else 0 := if_neg hf
    have e3 : putM n L b = if fullO L b = true then n else n + 1 := if_neg hf
    have e4 : putL n L b = if fullO L b = true then L else L ++ [(n + 1, b)] := if_neg hf
    rw [e1, e2, e3, e4]
    rw [hf0] at hlk
    have hroom := Sroom_any w s b1 b2 n L b h hg hb
    have HF : Hid (findO L b = 0) := hf0
    have HB : Hid (b.length ≤ reachBytes) := hb
    clear e1 e2 e3 e4 hf hf0 h hg hb
    cases hfull : fullO L b with
    | true =>
      rw [hfull] at hroom
      simp only [if_true]
      clear hfull
      go_enter Tryd.func7, Tryd.ntmps7
      go_wp2_with (go_at_call 19; refine hroom.mono ?_; rintro e w1 ⟨rfl, hb1⟩; dsimp only)
      exact bodyPost_ret (v := .tuple #[.int .i64 0, .iface 62 (.int .i64 4)]) (by unfold results; rw [Tryd.results7]; go_simp) rfl ⟨rfl, H.out.below hb1, Offs.of_below hb1⟩
    | false =>
      rw [hfull] at hroom
      simp only [Bool.false_eq_true, if_false]
      clear hfull
      have c2 : ∀ W, RowKit.Below w.heap.size w W → W.cell? ⟨s, 2, none⟩ = some (.int .i64 (n : Int)) ∧ W.frozen? ⟨s, 2, none⟩ = false := fun W hW => ⟨(H.out.below hW).c2, (H.out.below hW).fz⟩
      go_enter Tryd.func7, Tryd.ntmps7
      go_wp2_with (first
        | (go_at_call 19; refine hroom.mono ?_; rintro e w1 ⟨rfl, hb1⟩; dsimp only)
        | (go_at_call 20; refine (SClone_any b _ hcl).mono ?_; rintro e w2 ⟨rfl, hb2⟩; dsimp only
           have hbW := bstep hb1 hb2
           obtain ⟨cc2, cf2⟩ := c2 _ hbW
           have hlt2 : s < w2.heap.size := by have := hbW.size; omega))
      clear hlk hroom c2 cc2 cf2 c0 hb1 hb2
      have HS := H.out.below hbW
      have hO : Offs (ownO s b1 b2) w (w2.setCell ⟨s, 2, none⟩ (.int .i64 ((n : Int) + 1))) := (Offs.of_below hbW).trans (Offs.set (O := ownO s b1 b2) (Or.inl rfl)) fun _ h => Or.inl h
      have k0 : (w2.setCell ⟨s, 2, none⟩ (.int .i64 ((n : Int) + 1))).cell? ⟨s, 0, none⟩ = some (.map (some b1)) := by rw [World.cell?_setCell_other _ _ _ _ (by simp)]; exact HS.c0
      have k1 : (w2.setCell ⟨s, 2, none⟩ (.int .i64 ((n : Int) + 1))).cell? ⟨s, 1, none⟩ = some (.map (some b2)) := by rw [World.cell?_setCell_other _ _ _ _ (by simp)]; exact HS.c1
      have k2 : (w2.setCell ⟨s, 2, none⟩ (.int .i64 ((n : Int) + 1))).cell? ⟨s, 2, none⟩ = some (.int .i64 ((n : Int) + 1)) := World.cell?_setCell_same _ _ _ HS.c2
      have kf : (w2.setCell ⟨s, 2, none⟩ (.int .i64 ((n : Int) + 1))).frozen? ⟨s, 2, none⟩ = false := by rw [World.frozen?_setCell]; exact HS.fz
      obtain ⟨D1, D2, o1, o2, f1, f2, hs⟩ := HS.two
      have p1 := o1.setCell (a := ⟨s, 2, none⟩) (Ne.symm HS.n1) (.int .i64 ((n : Int) + 1))
      have p2 := o2.setCell (a := ⟨s, 2, none⟩) (Ne.symm HS.n2) (.int .i64 ((n : Int) + 1))
      clear o1 o2
      generalize w2.setCell ⟨s, 2, none⟩ (.int .i64 ((n : Int) + 1)) = W at *
      have hzW : s < W.heap.size := World.block_lt_of_cell? W _ k0
      have hw1 : (Lit.int .i64 ((n : Int) + 1)).wf = true := wfO (by omega) (by omega)
      obtain ⟨W4, hr4, o14, g4⟩ := World.ownsMap.update (w := W.drew) p1.drew keyedSO Tryd.underlying56 (by unfold maxLen; omega) (keyS b hml) (plainElem_int Tryd.underlying3 hw1)
      have o24 := (World.ownsMap.drew p2).kept g4 (by simp; exact Ne.symm HS.ne)
      obtain ⟨W5, hr5, o25, g5⟩ := World.ownsMap.update (w := W4.drew) o24.drew keyedIO Tryd.underlying57 (by unfold maxLen; omega) (keyN hw1) (objElem_mk b)
      have o15 := (World.ownsMap.drew o14).kept g5 (by simp; exact HS.ne)
      have q4 : W4.heap[s]? = W.heap[s]? := g4.block s hzW (by simp; exact HS.n1)
      have q5 : W5.heap[s]? = W.heap[s]? := (g5.block s (Nat.lt_of_lt_of_le hzW g4.size) (by simp; exact HS.n2)).trans q4
      have z4 : s < W4.heap.size := Nat.lt_of_lt_of_le hzW g4.size
      have z5 : s < W5.heap.size := Nat.lt_of_lt_of_le z4 g5.size
      have hfin : Hid (SAt W5 s b1 b2 (n + 1) (L ++ [(n + 1, b)])) := by
        have ft := o24.tidy keyedIO
        refine ⟨HS.ne, HS.n1, HS.n2, (World.cell?_of_block (w := W) q5).trans k0, (World.cell?_of_block (w := W) q5).trans k1, (World.cell?_of_block (w := W) q5).trans k2, (World.frozen?_of_block (w := W) q5).trans kf, ⟨_, _, o15, o25, ?_, ?_, ?_⟩, ?_, by omega⟩
        · exact f1.put p1.isMap HF.out (fun x hx => (HG.out.low x hx).1) hml
        · exact f2.put p2.isMap fun x hx => (HG.out.low x hx).2
        · exact f2.size_put ft (fun x hx => (HG.out.low x hx).2) hn hs
        · intro x hx
          rcases List.mem_append.1 hx with hx | hx
          · exact HS.short x hx
          · simp at hx; subst hx; exact HB.out
      have hoff : Hid (Offs (ownO s b1 b2) w W5) := by
        have a1 : Offs (ownO s b1 b2) W W4 := (Offs.of_below (RowKit.Below.refl _ W).drew).trans (Offs.blk (O := ownO s b1 b2) g4 (Or.inr (Or.inl rfl))) fun _ h => Or.inl h
        have a2 : Offs (ownO s b1 b2) W4 W5 := (Offs.of_below (RowKit.Below.refl _ W4).drew).trans (Offs.blk (O := ownO s b1 b2) g5 (Or.inr (Or.inr rfl))) fun _ h => Or.inl h
        exact (hO.trans a1 fun _ h => Or.inl h).trans a2 fun _ h => Or.inl h
      have d1 : W4.cell? ⟨s, 1, none⟩ = some (.map (some b2)) := (World.cell?_of_block (w := W) q4).trans k1
      have d2 : W4.cell? ⟨s, 2, none⟩ = some (.int .i64 ((n : Int) + 1)) := (World.cell?_of_block (w := W) q4).trans k2
      have d5 : W5.cell? ⟨s, 2, none⟩ = some (.int .i64 ((n : Int) + 1)) := (World.cell?_of_block (w := W) q5).trans k2
      clear o14 o24 o25 o15 g4 g5 q4 q5 p1 p2 f1 f2 hs HS hO hbW HF HB HG H hml hcl k1 kf hw1 hlt2
      unfold valOb at hr5
      go_region
      go_wp2_with fail
      go_region
      go_wp2_with fail
      exact bodyPost_ret (v := .tuple #[.int .i64 ((n + 1 : Nat) : Int), .nilIface]) (by unfold results; rw [Tryd.results7]; go_simp) rfl ⟨rfl, hfin.out, hoff.out⟩
end Go.Proofs.YtpdieckoemfebaeDoor
