/- The document's store (package strataref2): Put. -/
import Derived.Test.YtpdieckoemfebaeDoorRefStore
import Derived.Deep.RegionLaw
namespace Go.Proofs.YtpdieckoemfebaeDoor
open Go Go.RowKit Go.Proofs
set_option synthInstance.maxSize 1000

theorem infoOb : (Tryd.prog.info? 52).map (fun i => (i.zero, i.size, i.bytes)) = some (some (.agg #[.int .i64 0, .string ⟨#[]⟩]), 2, 24) := by kernel_rfl

theorem sizeA (w : World) (o : Obj) : (w.alloc o).heap.size = w.heap.size + 1 := by simp
/-- append of an object to a row of one's own -/
theorem obj_push {W : World} {base : Nat} {v : Value} {L : List Ob} (h : W.ownsRow base 52 2 v L.length (cellsO L)) (x : Ob) (a : Addr) (c : Nat) (ha : ∀ (j : Nat) u, (encO x)[j]? = some u → W.cell? (a.add j) = some u) (ty : TypeId) (hn : L.length ≤ 1000) (hb : base ≤ W.heap.size) :
    ∃ g cap W9, (Builtin.append_ #[37, 37] ty #[v, .slice (some a) 1 c]).run Tryd.prog W = .ok (.slice (some ⟨g, 0, none⟩) (L.length + 1) cap) W9 ∧ W9.ownsRow base 52 2 (.slice (some ⟨g, 0, none⟩) (L.length + 1) cap) (L ++ [x]).length (cellsO (L ++ [x])) ∧ W.grownBy W9 v.ownBlock ∧ (v.ownBlock = some g ∨ g = W.heap.size) := by
  obtain ⟨i, hi, hz⟩ := Option.map_eq_some_iff.1 infoOb
  simp only [Prod.mk.injEq] at hz
  obtain ⟨hz0, hz1, hz2⟩ := hz
  obtain ⟨g, cap, W9, hrun, ho, hg, hat, _⟩ := run_append_lies (P := Tryd.prog) W 37 ty base 52 i _ 2 24 Tryd.underlying37 hi hz0 hz1 hz2 rfl (by decide) v L.length (cellsO L) h a 1 c (encO x) rfl ha (by simp [encO, Value.oneCell']) (by omega) (by unfold maxLen; omega) (by omega) hb W.heap.size rfl
  refine ⟨g, cap, W9, hrun, ?_, hg, hat⟩
  rw [cellsO_app, List.length_append]
  simpa [cellsO] using ho

/-- the store behind a put -/
theorem r_push {w : World} {m : Nat} {v : Value} {n : Nat} {L : List Ob} (h : RAt w m v n L) (b : List UInt8) (ty : TypeId) (hn : L.length ≤ 1000) (N : Int) (hN : N = ((n + 1 : Nat) : Int)) (W2 : World) (hW : W2 = ((w.setCell ⟨m, 0, none⟩ (.int .i64 N)).alloc (.cells #[.int .i64 N, .string ⟨b.toArray⟩] 52)).drew) :
    ∃ g cap W9, (Builtin.append_ #[37, 37] ty #[v, .slice (some ⟨w.heap.size, 0, none⟩) 1 1]).run Tryd.prog W2 = .ok (.slice (some ⟨g, 0, none⟩) (L.length + 1) cap) W9 ∧
      W9.cell? ⟨m, 1, none⟩ = some v ∧ W9.frozen? ⟨m, 1, none⟩ = false ∧ (W9.setCell ⟨m, 1, none⟩ (.slice (some ⟨g, 0, none⟩) (L.length + 1) cap)).cell? ⟨m, 0, none⟩ = some (.int .i64 N) ∧
      RAt (W9.setCell ⟨m, 1, none⟩ (.slice (some ⟨g, 0, none⟩) (L.length + 1) cap)) m (.slice (some ⟨g, 0, none⟩) (L.length + 1) cap) (n + 1) (L ++ [(n + 1, b)]) ∧
      Offs (ROwn m v) w (W9.setCell ⟨m, 1, none⟩ (.slice (some ⟨g, 0, none⟩) (L.length + 1) cap)) ∧ (∀ j, ROwn m (.slice (some ⟨g, 0, none⟩) (L.length + 1) cap) j → ROwn m v j ∨ w.heap.size ≤ j) := by
  subst hN
  subst hW
  have hlt := h.lt
  have hz1 : (w.setCell ⟨m, 0, none⟩ (.int .i64 ((n + 1 : Nat) : Int))).heap.size = w.heap.size := by simp [World.setCell]
  have hz2 : ((w.setCell ⟨m, 0, none⟩ (.int .i64 ((n + 1 : Nat) : Int))).alloc (.cells #[.int .i64 ((n + 1 : Nat) : Int), .string ⟨b.toArray⟩] 52)).drew.heap.size = w.heap.size + 1 := (sizeA _ _).trans (by rw [hz1])
  have hown : ((w.setCell ⟨m, 0, none⟩ (.int .i64 ((n + 1 : Nat) : Int))).alloc (.cells #[.int .i64 ((n + 1 : Nat) : Int), .string ⟨b.toArray⟩] 52)).drew.ownsRow (m + 1) 52 2 v L.length (cellsO L) := World.ownsRow.drew ((ownsRow_setCell_below h.2 (by show m < m + 1; omega) _).alloc _)
  have hm1 : (w.setCell ⟨m, 0, none⟩ (.int .i64 ((n + 1 : Nat) : Int))).heap[m]? = some (.cells #[.int .i64 ((n + 1 : Nat) : Int), v] 39) := by
    have := heap_setCell_same w m 0 _ _ (.int .i64 ((n + 1 : Nat) : Int)) h.1
    simpa using this
  have hm2 : ((w.setCell ⟨m, 0, none⟩ (.int .i64 ((n + 1 : Nat) : Int))).alloc (.cells #[.int .i64 ((n + 1 : Nat) : Int), .string ⟨b.toArray⟩] 52)).drew.heap[m]? = some (.cells #[.int .i64 ((n + 1 : Nat) : Int), v] 39) := (Below.heap_alloc _ _ m (by show m < (w.setCell _ _).heap.size; rw [hz1]; exact hlt)).trans hm1
  obtain ⟨g, cap, W9, hrun, ho, hg, hat⟩ := obj_push hown (n + 1, b) ⟨w.heap.size, 0, none⟩ 1 (fun j u hu => by
    have hj : j < 2 := by have := (List.getElem?_eq_some_iff.1 hu).1; simpa [encO] using this
    rw [Addr.add_lit]
    rcases (by omega : j = 0 ∨ j = 1) with rfl | rfl
    · simp [encO] at hu; subst hu
      rw [show w.heap.size = (w.setCell ⟨m, 0, none⟩ (.int .i64 ((n + 1 : Nat) : Int))).heap.size from hz1.symm]
      go_simp
    · simp [encO] at hu; subst hu
      rw [show w.heap.size = (w.setCell ⟨m, 0, none⟩ (.int .i64 ((n + 1 : Nat) : Int))).heap.size from hz1.symm]
      go_simp) ty hn (by have := hz2; omega)
  have hne : v.ownBlock ≠ some m := fun e => by have := (h.2.lt m e).1; omega
  have hgm : m < g := by
    rcases hat with e | e
    · have := (h.2.lt g e).1; omega
    · rw [e, hz2]; omega
  have hm9 : W9.heap[m]? = some (.cells #[.int .i64 ((n + 1 : Nat) : Int), v] 39) := (hg.block m (by rw [hz2]; omega) (fun e => hne e.symm)).trans hm2
  have hm9' : (W9.setCell ⟨m, 1, none⟩ (.slice (some ⟨g, 0, none⟩) (L.length + 1) cap)).heap[m]? = some (.cells #[.int .i64 ((n + 1 : Nat) : Int), .slice (some ⟨g, 0, none⟩) (L.length + 1) cap] 39) := by
    have := heap_setCell_same W9 m 1 _ _ (.slice (some ⟨g, 0, none⟩) (L.length + 1) cap) hm9
    simpa using this
  have hR : RAt (W9.setCell ⟨m, 1, none⟩ (.slice (some ⟨g, 0, none⟩) (L.length + 1) cap)) m (.slice (some ⟨g, 0, none⟩) (L.length + 1) cap) (n + 1) (L ++ [(n + 1, b)]) := ⟨hm9', ownsRow_setCell_below ho (by show m < m + 1; omega) _⟩
  refine ⟨g, cap, W9, hrun, by simp [World.cell?, hm9], by simp [World.frozen?, hm9], hR.cells.1, hR, ?_, ?_⟩
  · refine ⟨hg.os, hg.tape, hg.output, ?_, fun k hk hO => ?_⟩
    · have h9 := hg.size
      rw [hz2] at h9
      have : (W9.setCell ⟨m, 1, none⟩ (.slice (some ⟨g, 0, none⟩) (L.length + 1) cap)).heap.size = W9.heap.size := by simp [World.setCell]
      omega
    · have k1 : k ≠ m := fun e => hO (Or.inl e)
      have k2 : v.ownBlock ≠ some k := fun e => hO (Or.inr e)
      rw [heap_setCell_other _ _ _ _ k1]
      refine (hg.block k (by rw [hz2]; omega) (fun e => k2 e.symm)).trans ?_
      refine (Below.heap_alloc _ _ k (by show k < (w.setCell _ _).heap.size; rw [hz1]; exact hk)).trans ?_
      exact heap_setCell_other _ _ _ _ k1
  · rintro j (rfl | hj)
    · exact Or.inl (Or.inl rfl)
    · have hj : some g = some j := hj
      cases hj
      rcases hat with e | e
      · exact Or.inl (Or.inr e)
      · refine Or.inr ?_
        rw [e, hz2]
        omega

section
variable {P : Program} {w : World}
/-- at a step of a region that draws: an append whose run is known -/
theorem step_appendO {ops : Array Oper} {o : Oper} {a : Act} {K : Act → World → Prop} {Q : Exit → Act → World → Prop} {E : Prop} (hgd : o.guard = none) (s x : Operand) (t : TypeId)
    (ho : o.op = .call { callee := .builtin .append, args := #[s, x], argTypes := #[t, t] }) (v u : Value) (hs : a.eval s = v) (hx : a.eval x = u) {v' : Value} {w' : World}
    (hr : (Builtin.append_ #[t, t] o.type #[v, u]).run P w = .ok v' w') (h : K (a.put o.dst v') w') : if Region.wanted o (yielded ops a.tmps) = true then Oper.wp P o a w K Q else E := by
  rw [if_pos (by simp [Region.wanted, hgd])]
  unfold Oper.wp execOp
  simp only [ho, resolve, invoke, builtin, Sem.run_bind, Sem.run_pure, Result.andThen_ok, List.map_toArray, List.map_cons, List.map_nil, hs, hx, hr]
  exact h
end
theorem sizeO_take {L : List Ob} {k : Nat} (hk : k < L.length) : sizeO (L.take (k + 1)) = sizeO (L.take k) + L[k].2.length := by
  rw [List.take_succ_eq_append_getElem hk, sizeO_app]
  simp [sizeO]
theorem sizeO_take_le (L : List Ob) (k : Nat) : sizeO (L.take k) ≤ sizeO L := by
  have h := sizeO_app (L.take k) (L.drop k)
  rw [List.take_append_drop] at h
  omega

/-- what a put answers, and what it leaves -/
def RPutAns (w : World) (m : Nat) (v : Value) (n : Nat) (L : List Ob) (b : List UInt8) (e : Ending) (w' : World) : Prop :=
  e = .returned (.tuple #[.int .i64 (putI n L b : Int), .int .i64 (putE L b)]) ∧ ∃ v', RAt w' m v' (putM n L b) (putL n L b) ∧ Offs (ROwn m v) w w' ∧ (∀ j, ROwn m v' j → ROwn m v j ∨ w.heap.size ≤ j)

set_option maxHeartbeats 2000000 in
set_option maxRecDepth 100000 in
theorem RPut_any (m : Nat) (v : Value) (n : Nat) (L : List Ob) (b : List UInt8) (w : World) (h : RAt w m v n L) (hL : L.length ≤ 1000) (hn : n ≤ 1000000) (hb : b.length ≤ 9223372036854775807) :
    Calls Tryd.prog 10 #[.pointer (some ⟨m, 0, none⟩), .string ⟨b.toArray⟩] w fun e w' => RPutAns w m v n L b e w' := by
  have HF := RFind_any m v n L b w h hL
  have HR := hideO h
  obtain ⟨s0, s1, f0, f1⟩ := h.cells
  have Ho := hideO h.2
  obtain ⟨ad, cap, rfl⟩ := ownO_form h.2
  clear h
  cases hf : (findO L b == 0)
  · have hf' : Hid (findO L b ≠ 0) := by show _ ≠ _; simpa using hf
    have hpos : 0 < findO L b := by have := hf'.out; omega
    have ha : Hid (∀ (a : Ending), a = .returned (.tuple #[.int .i64 (findO L b : Int), .int .i64 0]) → RPutAns w m (.slice ad L.length cap) n L b a w) := by
      show ∀ _, _
      rintro _ rfl
      refine ⟨?_, .slice ad L.length cap, ?_, Offs.of_below (RowKit.Below.refl _ _), fun j hj => Or.inl hj⟩
      · unfold putI putE; rw [if_pos hf'.out, if_pos hf'.out]
      · unfold putM putL; rw [if_pos hf'.out, if_pos hf'.out]; exact HR.out
    clear hf
    generalize findO L b = F at *
    go_enter Tryd.func10, Tryd.ntmps10
    go_wp2_with fail
    refine HF.mono ?_
    rintro e w1 ⟨rfl, rfl⟩
    go_wp2_with fail
    exact bodyPost_ret (v := .tuple #[.int .i64 (F : Int), .int .i64 0]) (by simp [results, Tryd.results10, go_sem]) rfl (ha.out _ rfl)
  · have hf' : findO L b = 0 := by simpa using hf
    have HF0 := hideO hf'
    rw [hf'] at HF
    clear hf hf'
    go_enter Tryd.func10, Tryd.ntmps10
    go_wp2_with fail
    refine HF.mono ?_
    rintro e w1 ⟨rfl, rfl⟩
    go_wp2_with fail
    go_loopw [7, 8] (fun s i wr => ∃ (k : Nat), k ≤ L.length ∧ i = .int .i64 k ∧ s = .int .i64 (wr64 (b.length + sizeO (L.take k) : Nat)) ∧ wr = w1) (fun _ i wr => L.length - (intOf i).toNat)
    case atStart => exact ⟨0, by omega, rfl, by simp [sizeO]; rw [wr64_id (by omega) (by omega)], rfl⟩
    case round =>
      obtain ⟨k, hk, rfl, rfl, rfl⟩ := hrel
      by_cases hlt : k < L.length
      · obtain ⟨g, cap', e1, c0, c1⟩ := ownO_at Ho.out k hlt
        obtain ⟨rfl, _, rfl⟩ := Value.slice.inj e1
        have i0 : (0 : Int) ≤ (k : Int) := by omega
        have i1 : (k : Int) < (L.length : Int) := by omega
        have hk1 := sizeO_take hlt
        have Hk1 := hideO hk1
        clear e1 hk1
        go_wp2
        exact ⟨⟨k + 1, by omega, by go_num, by rw [Hk1.out]; refine congrArg (Value.int .i64) ?_; unfold wr64; simp only [RowKit.wrap64]; omega, by trivial⟩, by simp [intOf]; omega⟩
      · obtain rfl : k = L.length := by omega
        rw [List.take_length]
        have hF : Hid (∀ z, wr64 (b.length + sizeO L : Nat) = z → fullO L b = decide (300 ≤ L.length ∨ 60000 < z)) := by
          show ∀ _, _
          rintro _ rfl
          rfl
        have hF := hideO (hF.out _ rfl)
        clear hk hlt
        generalize wr64 (b.length + sizeO L : Nat) = z at *
        cases hful : (decide (300 ≤ L.length ∨ 60000 < z))
        · have hno : ¬ (300 ≤ L.length ∨ 60000 < z) := by simpa using hful
          have h3 : ¬ 300 ≤ L.length := fun h => hno (Or.inl h)
          have h6 : ¬ 60000 < z := fun h => hno (Or.inr h)
          rw [hful] at hF
          clear hno hful
          obtain ⟨g, cap', W9, hr9, k9, z9, l9, hR9, hO9, hB9⟩ := r_push HR.out b 37 hL ((n : Int) + 1) (by omega) _ rfl
          have hfin : Hid (RPutAns wr m (.slice ad L.length cap) n L b (.returned (.tuple #[.int .i64 ((n : Int) + 1), .int .i64 0])) (W9.setCell ⟨m, 1, none⟩ (.slice (some ⟨g, 0, none⟩) (L.length + 1) cap'))) := by
            have e0 : ¬ findO L b ≠ 0 := fun h => h HF0.out
            have e1 : ¬ fullO L b = true := by rw [hF.out]; decide
            refine ⟨?_, _, ?_, hO9, hB9⟩
            · unfold putI putE; rw [if_neg e0, if_neg e1, if_neg e0, if_neg e1]; rfl
            · unfold putM putL; rw [if_neg e0, if_neg e1, if_neg e0, if_neg e1]; exact hR9
          clear hb HF Ho HF0 hF HR hR9 hO9 hB9
          have t0 : (wr.setCell ⟨m, 0, none⟩ (.int .i64 ((n : Int) + 1))).cell? ⟨m, 0, none⟩ = some (.int .i64 ((n : Int) + 1)) := World.cell?_setCell_same' _ _ _ (by rw [s0]; rfl)
          have t1 : (wr.setCell ⟨m, 0, none⟩ (.int .i64 ((n : Int) + 1))).cell? ⟨m, 1, none⟩ = some (.slice ad L.length cap) := by rw [World.cell?_setCell_other _ _ _ _ (by simp)]; exact s1
          have tz : (wr.setCell ⟨m, 0, none⟩ (.int .i64 ((n : Int) + 1))).heap.size = wr.heap.size := by simp [World.setCell]
          have hmz : m < (wr.setCell ⟨m, 0, none⟩ (.int .i64 ((n : Int) + 1))).heap.size := by rw [tz]; exact World.block_lt_of_cell? wr _ s0
          rw [← tz] at hr9
          clear tz
          go_wp2_with fail
          generalize wr.setCell ⟨m, 0, none⟩ (.int .i64 ((n : Int) + 1)) = W1 at *
          go_region_law (first
            | (refine step_appendO rfl (.tmp 58) (.tmp 65) 37 rfl _ _ rfl rfl hr9 ?_))
          all_goals go_wp2_with fail
          all_goals exact bodyPost_ret (v := .tuple #[.int .i64 ((n : Int) + 1), .int .i64 0]) (by simp [results, Tryd.results10, go_sem]) rfl hfin.out
        · have hfin : Hid (RPutAns wr m (.slice ad L.length cap) n L b (.returned (.tuple #[.int .i64 0, .int .i64 4])) wr) := by
            have e0 : ¬ findO L b ≠ 0 := fun h => h HF0.out
            have e1 : fullO L b = true := by rw [hF.out, hful]
            refine ⟨?_, _, ?_, Offs.of_below (RowKit.Below.refl _ _), fun j hj => Or.inl hj⟩
            · unfold putI putE; rw [if_neg e0, if_pos e1, if_neg e0, if_pos e1]; rfl
            · unfold putM putL; rw [if_neg e0, if_pos e1, if_neg e0, if_pos e1]; exact HR.out
          by_cases h3 : 300 ≤ L.length
          · clear hful hF
            go_wp2_with fail
            exact bodyPost_ret (v := .tuple #[.int .i64 0, .int .i64 4]) (by simp [results, Tryd.results10, go_sem]) rfl hfin.out
          · have h6 : 60000 < z := by simp [h3] at hful; exact hful
            clear hful hF
            go_wp2_with fail
            exact bodyPost_ret (v := .tuple #[.int .i64 0, .int .i64 4]) (by simp [results, Tryd.results10, go_sem]) rfl hfin.out

end Go.Proofs.YtpdieckoemfebaeDoor
