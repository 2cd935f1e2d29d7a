import Derived.Test.YtbacenhgedopjaaGreatDoorMA0x7
import Derived.Laws.IdiomCopy
import Derived.Deep.RegionLaw
import Derived.Maps.AppendAt
import Derived.Test.YtbacenhgedopjaaGreatDoorMA0x5
import Derived.Test.YtbacenhgedopjaaGreatDoorMA0x6

/- The key by which answers meet: what keyer makes. -/
namespace Go.Proofs.YtbacenhgedopjaaGreatDoor
open Go Go.RowKit Go.Proofs Go.Maps
set_option synthInstance.maxSize 1000

section
variable {P : Program} {w : World}
theorem step_copyE {ops : Array Oper} {o : Oper} {a : Act} {K : Act → World → Prop} {Q : Exit → Act → World → Prop} {E : Prop} (hgd : o.guard = none) (s x : Operand) (t t' : TypeId)
    (ho : o.op = .call { callee := .builtin .copy, args := #[s, x], argTypes := #[t, t'] }) (v u : Value) (hs : a.eval s = v) (hx : a.eval x = u) {v' : Value} {w' : World}
    (hr : (Builtin.copy_ #[t, t'] o.type #[v, u]).run P w = .ok v' w') (h : K (a.put o.dst v') w') : if Region.wanted o (yielded ops a.tmps) = true then Oper.wp P o a w K Q else E := by
  rw [if_pos (by simp [Region.wanted, hgd])]
  unfold Oper.wp execOp
  simp only [ho, resolve, invoke, builtin, Sem.run_bind, Sem.run_pure, Result.andThen_ok, List.map_toArray, List.map_cons, List.map_nil, hs, hx, hr]
  exact h
end
theorem run_copyQ (w : World) (ty : TypeId) (b g n c : Nat) (xs : List Tm) (hn : xs.length = n) (h3 : n ≤ 3) (hsrc : ∀ j v, (cellsQ xs)[j]? = some v → w.cell? ⟨g, j, none⟩ = some v)
    (hc : ∀ j, j < 9 → (w.cell? ⟨b, j, none⟩).isSome = true) (hf : ∀ j, j < 9 → w.frozen? ⟨b, j, none⟩ = false) :
    (Builtin.copy_ #[33, 33] ty #[.slice (some ⟨b, 0, none⟩) 3 3, .slice (some ⟨g, 0, none⟩) n c]).run Tryz.prog w = .ok (.int .i64 n) (w.setCells b 0 (cellsQ xs)) := by
  have hlen : (cellsQ xs).length = n * 3 := by rw [cellsQ_len, hn]
  have hl := run_loadCells_list (P := Tryz.prog) w ⟨g, 0, none⟩ (cellsQ xs) (fun j v hv => by rw [Addr.add_lit, Nat.zero_add]; exact hsrc j v hv)
  have hst := run_storeCells_cells (P := Tryz.prog) b 0 (cellsQ xs) 0 w (fun j hj => by simpa using hc j (by omega)) (fun j hj => by simpa using hf j (by omega)) (fun u hu => by
    obtain ⟨z, _, hz⟩ := List.mem_flatMap.1 hu
    exact encQ_one z u hz)
  rw [hlen] at hl
  obtain ⟨i, hi, hz⟩ := Option.map_eq_some_iff.1 infoQ
  simp only [Prod.mk.injEq] at hz
  obtain ⟨_, h2, _⟩ := hz
  have hmin : Nat.min n 3 = n := Nat.min_eq_left h3
  simp [Builtin.copy_, run_underlying Tryz.underlying33, Builtin.lenOf, Builtin.firstCells, sizeOf, typeInfo, hi, h2, hmin, hl, hst, goInt]
def zero3 : Tr := (tmZero, tmZero, tmZero)
theorem key_cells (sh : List (List UInt8)) (h3 : sh.length ≤ 3) (f : Ev) (j : Nat) (hj : j < 9) : (encTr (keyT sh f))[j]? = if j < sh.length * 3 then (cellsQ (termsE f sh))[j]? else (encTr zero3)[j]? := by
  match sh, h3 with
  | [], _ => rfl
  | [a], _ => rcases (by omega : j = 0 ∨ j = 1 ∨ j = 2 ∨ j = 3 ∨ j = 4 ∨ j = 5 ∨ j = 6 ∨ j = 7 ∨ j = 8) with rfl | rfl | rfl | rfl | rfl | rfl | rfl | rfl | rfl <;> rfl
  | [a, b], _ => rcases (by omega : j = 0 ∨ j = 1 ∨ j = 2 ∨ j = 3 ∨ j = 4 ∨ j = 5 ∨ j = 6 ∨ j = 7 ∨ j = 8) with rfl | rfl | rfl | rfl | rfl | rfl | rfl | rfl | rfl <;> rfl
  | [a, b, c], _ => rcases (by omega : j = 0 ∨ j = 1 ∨ j = 2 ∨ j = 3 ∨ j = 4 ∨ j = 5 ∨ j = 6 ∨ j = 7 ∨ j = 8) with rfl | rfl | rfl | rfl | rfl | rfl | rfl | rfl | rfl <;> rfl
  | a :: b :: c :: d :: r, h => simp at h
/-- nine cells of a block -/
def NineAt (w : World) (b : Nat) (t : Tr) : Prop := ∀ j v, (encTr t)[j]? = some v → w.cell? ⟨b, j, none⟩ = some v ∧ w.frozen? ⟨b, j, none⟩ = false
theorem NineAt.all {w : World} {b : Nat} {t : Tr} (h : NineAt w b t) : (w.cell? ⟨b, 0, none⟩ = some (.int .i64 t.1.1) ∧ w.cell? ⟨b, 1, none⟩ = some (.string ⟨t.1.2.1.toArray⟩) ∧ w.cell? ⟨b, 2, none⟩ = some (.string ⟨t.1.2.2.toArray⟩) ∧ w.cell? ⟨b, 3, none⟩ = some (.int .i64 t.2.1.1) ∧ w.cell? ⟨b, 4, none⟩ = some (.string ⟨t.2.1.2.1.toArray⟩) ∧ w.cell? ⟨b, 5, none⟩ = some (.string ⟨t.2.1.2.2.toArray⟩) ∧ w.cell? ⟨b, 6, none⟩ = some (.int .i64 t.2.2.1) ∧ w.cell? ⟨b, 7, none⟩ = some (.string ⟨t.2.2.2.1.toArray⟩) ∧ w.cell? ⟨b, 8, none⟩ = some (.string ⟨t.2.2.2.2.toArray⟩)) ∧
    (w.frozen? ⟨b, 0, none⟩ = false ∧ w.frozen? ⟨b, 1, none⟩ = false ∧ w.frozen? ⟨b, 2, none⟩ = false ∧ w.frozen? ⟨b, 3, none⟩ = false ∧ w.frozen? ⟨b, 4, none⟩ = false ∧ w.frozen? ⟨b, 5, none⟩ = false ∧ w.frozen? ⟨b, 6, none⟩ = false ∧ w.frozen? ⟨b, 7, none⟩ = false ∧ w.frozen? ⟨b, 8, none⟩ = false) :=
  ⟨⟨(h 0 _ rfl).1, (h 1 _ rfl).1, (h 2 _ rfl).1, (h 3 _ rfl).1, (h 4 _ rfl).1, (h 5 _ rfl).1, (h 6 _ rfl).1, (h 7 _ rfl).1, (h 8 _ rfl).1⟩, ⟨(h 0 _ rfl).2, (h 1 _ rfl).2, (h 2 _ rfl).2, (h 3 _ rfl).2, (h 4 _ rfl).2, (h 5 _ rfl).2, (h 6 _ rfl).2, (h 7 _ rfl).2, (h 8 _ rfl).2⟩⟩
theorem NineAt.lt {w : World} {b : Nat} {t : Tr} (h : NineAt w b t) : b < w.heap.size := World.block_lt_of_cell? w _ (h 0 _ rfl).1
theorem NineAt.below {w w' : World} {b : Nat} {t : Tr} (h : NineAt w b t) (hb : RowKit.Below w.heap.size w w') : NineAt w' b t := fun j v hv => ⟨(hb.cell h.lt).trans (h j v hv).1, (hb.frozen h.lt).trans (h j v hv).2⟩
theorem nineAt_new (w : World) (t : Tr) (T : TypeId) : NineAt (w.alloc (.cells (encTr t).toArray T)) w.heap.size t := fun j v hv => by
  have hh := heap_alloc_last w (.cells (encTr t).toArray T)
  exact ⟨by rw [cell_of_row _ _ j _ T (0, 0) hh, List.getElem?_toArray]; exact hv, frozen_of_row _ _ j _ T hh⟩
theorem NineAt.copied {w : World} {b : Nat} {sh : List (List UInt8)} {f : Ev} (h : NineAt w b zero3) (h3 : sh.length ≤ 3) : NineAt (w.setCells b 0 (cellsQ (termsE f sh))) b (keyT sh f) := fun j v hv => by
  have hj : j < 9 := (List.getElem?_eq_some_iff.1 hv).1
  have hl : (cellsQ (termsE f sh)).length = sh.length * 3 := by rw [cellsQ_len]; simp [termsE]
  obtain ⟨u, hu⟩ : ∃ u, (encTr zero3)[j]? = some u := ⟨_, List.getElem?_eq_getElem hj⟩
  refine ⟨?_, by rw [World.frozen?_setCells]; exact (h j u hu).2⟩
  rw [key_cells sh h3 f j hj] at hv
  by_cases hlt : j < sh.length * 3
  · rw [if_pos hlt] at hv
    have hin := World.cell?_setCells_in b (cellsQ (termsE f sh)) 0 w (fun i hi => by
      obtain ⟨x, hx⟩ : ∃ x, (encTr zero3)[i]? = some x := ⟨_, List.getElem?_eq_getElem (show i < 9 by omega)⟩
      rw [Nat.zero_add, (h i x hx).1]; rfl) j (by omega)
    rw [Nat.zero_add] at hin
    rw [hin]
    rw [List.getElem?_eq_getElem (by omega)] at hv
    exact hv
  · rw [if_neg hlt] at hv
    rw [World.cell?_setCells_out b _ 0 w ⟨b, j, none⟩ (fun _ _ => Or.inr (by show 0 + _ ≤ j; omega))]
    exact (h j v hv).1
theorem below_setCells {B b : Nat} {a w : World} (h : RowKit.Below B a w) (hb : B ≤ b) : ∀ (vs : List Value) (o : Nat), RowKit.Below B a (w.setCells b o vs) := by
  intro vs
  induction vs generalizing w with
  | nil => intro o; exact h
  | cons v r ih => intro o; exact ih (h.setCell (p := ⟨b, o, none⟩) hb v) (o + 1)
set_option maxHeartbeats 4000000 in
set_option maxRecDepth 100000 in
theorem key_any (bm n B : Nat) (f : Ev) (sh : List (List UInt8)) (w : World) (h : EvAt w bm n f) (hk : KeyAt w B sh) (hs : ∀ v ∈ sh, v.length ≤ maxLen) (h3 : sh.length ≤ 3) :
    Calls Tryz.prog 100 #[.map (some bm), .pointer (some ⟨B, 0, none⟩)] w fun e w' => e = .returned (valTr (keyT sh f)) ∧ RowKit.Below w.heap.size w w' := by
  obtain ⟨ad, c, hB, hsl⟩ := hk
  have hBl := World.block_lt_of_cell? w _ hB
  obtain ⟨W0, hW0⟩ : ∃ W0, W0 = (w.alloc (.cells (encTr zero3).toArray 122)).alloc (.cells (encTr zero3).toArray 122) := ⟨_, rfl⟩
  have hB0 : RowKit.Below w.heap.size w W0 := by rw [hW0]; exact bstep (balloc _ _) (balloc _ _)
  have hz0 : W0.heap.size = w.heap.size + 1 + 1 := by rw [hW0]; simp
  have n0 : NineAt W0 w.heap.size zero3 := by rw [hW0]; exact (nineAt_new w zero3 _).below (balloc _ _)
  have n1 : NineAt W0 (w.heap.size + 1) zero3 := by
    rw [hW0]
    have := nineAt_new (w.alloc (.cells (encTr zero3).toArray 122)) zero3 122
    simpa using this
  have cB : W0.cell? ⟨B, 0, none⟩ = some (.slice ad sh.length c) := (hB0.cell hBl).trans hB
  have HT := terms_any bm n f ad c sh W0.drew (h.below hB0.drew) (hsl.below hB0.drew) hs (by omega)
  have N0 := hideE n0
  have N1 := hideE n1
  have H3 := hideE h3
  have HZ := hideE hz0
  have hlt2 : W0.heap.size = W0.drew.heap.size := rfl
  clear h hsl hs hB n0 n1 h3 hz0
  go_enter Tryz.func100, Tryz.ntmps100
  go_upto_region 2 with fail
  rw [show ((w.alloc (.cells #[.int .i64 0, .string ⟨#[]⟩, .string ⟨#[]⟩, .int .i64 0, .string ⟨#[]⟩, .string ⟨#[]⟩, .int .i64 0, .string ⟨#[]⟩, .string ⟨#[]⟩] 122)).alloc (.cells #[.int .i64 0, .string ⟨#[]⟩, .string ⟨#[]⟩, .int .i64 0, .string ⟨#[]⟩, .string ⟨#[]⟩, .int .i64 0, .string ⟨#[]⟩, .string ⟨#[]⟩] 122)) = W0 from hW0.symm]
  clear hW0
  have hq : ∀ w3, RowQ w3 W0.drew.heap.size (termsE f sh) → RowKit.Below W0.drew.heap.size W0.drew w3 → ∀ ty, (Builtin.copy_ #[33, 33] ty #[.slice (some ⟨w.heap.size + 1, 0, none⟩) 3 3, .slice (some ⟨W0.drew.heap.size, 0, none⟩) sh.length sh.length]).run Tryz.prog w3 = .ok (.int .i64 sh.length) (w3.setCells (w.heap.size + 1) 0 (cellsQ (termsE f sh))) := fun w3 hr hb ty => by
    have hn3 : NineAt w3 (w.heap.size + 1) zero3 := N1.out.below ((RowKit.Below.refl _ W0).drew.trans hb)
    refine run_copyQ w3 ty (w.heap.size + 1) W0.drew.heap.size sh.length sh.length (termsE f sh) (by simp [termsE]) H3.out (fun j v hv => (hr j v hv).1) (fun j hj => ?_) (fun j hj => ?_)
    · obtain ⟨x, hx⟩ : ∃ x, (encTr zero3)[j]? = some x := ⟨_, List.getElem?_eq_getElem hj⟩
      rw [(hn3 j x hx).1]; rfl
    · obtain ⟨x, hx⟩ : ∃ x, (encTr zero3)[j]? = some x := ⟨_, List.getElem?_eq_getElem hj⟩
      exact (hn3 j x hx).2
  have Hq := hideE hq
  clear hq hlt2
  go_region_law (first
    | (refine step_copyE rfl (.tmp 5) (.tmp 8) 33 33 rfl _ _ rfl rfl (Hq.out w3 hr3 hb3 _) ?_)
    | (go_simp; go_at_call 27; refine HT.mono ?_; rintro e w3 ⟨rfl, hr3, hb3⟩))
  all_goals
    have hb3' : RowKit.Below W0.heap.size W0 w3 := (RowKit.Below.refl _ W0).drew.trans hb3
    have hn4 := hideE ((N1.out.below hb3').copied (sh := sh) (f := f) H3.out)
    have hn5 := hideE (show NineAt (w3.setCells (w.heap.size + 1) 0 (cellsQ (termsE f sh))) w.heap.size zero3 from fun j v hv => by
      have q := (N0.out.below hb3') j v hv
      exact ⟨(World.cell?_setCells_out _ _ _ _ _ (fun e _ => absurd e (by show w.heap.size ≠ w.heap.size + 1; omega))).trans q.1, by rw [World.frozen?_setCells]; exact q.2⟩)
    have hBf := hideE (below_setCells (hB0.trans (hb3'.mono hB0.size)) (show w.heap.size ≤ w.heap.size + 1 by omega) (cellsQ (termsE f sh)) 0)
    generalize w3.setCells (w.heap.size + 1) 0 (cellsQ (termsE f sh)) = W4 at *
    generalize hK3 : keyT sh f = K3 at *
    have HK := hideE hK3
    clear hK3
    obtain ⟨⟨k0, k1, k2, k3, k4, k5, k6, k7, k8⟩, _⟩ := hn4.out.all
    obtain ⟨⟨z0, z1, z2, z3, z4, z5, z6, z7, z8⟩, y0, y1, y2, y3, y4, y5, y6, y7, y8⟩ := hn5.out.all
    go_wp2_with fail
    exact bodyPost_ret (v := .agg #[.int .i64 K3.1.1, .string ⟨K3.1.2.1.toArray⟩, .string ⟨K3.1.2.2.toArray⟩, .int .i64 K3.2.1.1, .string ⟨K3.2.1.2.1.toArray⟩, .string ⟨K3.2.1.2.2.toArray⟩, .int .i64 K3.2.2.1, .string ⟨K3.2.2.2.1.toArray⟩, .string ⟨K3.2.2.2.2.toArray⟩]) (by unfold results; rw [Tryz.results100]; go_simp) rfl ⟨by rw [HK.out]; rfl, (((((((((hBf.out.setCell (p := ⟨w.heap.size, 0, none⟩) (Nat.le_refl _) _).setCell (p := ⟨w.heap.size, 1, none⟩) (Nat.le_refl _) _).setCell (p := ⟨w.heap.size, 2, none⟩) (Nat.le_refl _) _).setCell (p := ⟨w.heap.size, 3, none⟩) (Nat.le_refl _) _).setCell (p := ⟨w.heap.size, 4, none⟩) (Nat.le_refl _) _).setCell (p := ⟨w.heap.size, 5, none⟩) (Nat.le_refl _) _).setCell (p := ⟨w.heap.size, 6, none⟩) (Nat.le_refl _) _).setCell (p := ⟨w.heap.size, 7, none⟩) (Nat.le_refl _) _).setCell (p := ⟨w.heap.size, 8, none⟩) (Nat.le_refl _) _)⟩
end Go.Proofs.YtbacenhgedopjaaGreatDoor

/- solve.meet: the groups by key, and the list that is made; in memory. -/
namespace Go.Proofs.YtbacenhgedopjaaGreatDoor
open Go Go.RowKit Go.Proofs Go.Maps
set_option synthInstance.maxSize 1000

/-- which of some keys are one -/
def atK (keys : List Tr) (k : Tr) (n : Nat) : List Nat := (List.range n).filter fun j => decide (keys[j]? = some k)
theorem atK_hit {keys : List Tr} {k : Tr} {n : Nat} (h : keys[n]? = some k) : atK keys k (n + 1) = atK keys k n ++ [n] := by
  simp [atK, List.range_succ, h]
theorem atK_miss {keys : List Tr} {k k' : Tr} {n : Nat} (h : keys[n]? = some k) (hne : k' ≠ k) : atK keys k' (n + 1) = atK keys k' n := by
  have : keys[n]? ≠ some k' := fun e => hne (by rw [h] at e; exact (Option.some.inj e).symm)
  simp [atK, List.range_succ, this]
theorem atK_len (keys : List Tr) (k : Tr) (n : Nat) : (atK keys k n).length ≤ n := by
  have := List.length_filter_le (fun j => decide (keys[j]? = some k)) (List.range n)
  simpa [atK] using this
def cellM (b : Nat) : Value := .map (some b)
/-- the groups -/
structure GSt (W : World) (bK base k : Nat) (hd : Tr → Value) (keys : List Tr) (bml : List Nat) : Prop where
  map : GrpAt W bK k hd
  low : bK < base
  size : base ≤ W.heap.size
  rows : ∀ c, wf3 c → W.ownsRow base 75 1 (hd c) (atK keys c k).length ((atK keys c k).map fun j => cellM (bml.getD j 0))
  apart : ∀ c c', wf3 c → wf3 c' → c ≠ c' → (hd c).ownBlock = none ∨ (hd c).ownBlock ≠ (hd c').ownBlock
theorem GSt.start (w : World) (keys : List Tr) (bml : List Nat) : GSt (w.alloc (.map #[] 0)) w.heap.size (w.heap.size + 1) 0 (fun _ => .slice none 0 0) keys bml :=
  ⟨grpAt_made w, by omega, by simp, fun c _ => by simpa [atK] using World.ownsRow_nil _ _ _ _, fun _ _ _ _ _ => Or.inl rfl⟩
theorem GSt.below {W W' : World} {bK base k : Nat} {hd : Tr → Value} {keys : List Tr} {bml : List Nat} (h : GSt W bK base k hd keys bml) (hb : RowKit.Below W.heap.size W W') : GSt W' bK base k hd keys bml :=
  ⟨h.map.below hb, h.low, Nat.le_trans h.size hb.size, fun c hc => ownsRow_belowV (h.rows c hc) hb, h.apart⟩
theorem infoM : (Tryz.prog.info? 75).map (fun i => (i.zero, i.size, i.bytes)) = some (some (.map none), 1, 8) := by kernel_rfl
/-- an append of one answer to a row of one's own -/
theorem wpList_appendE {ops : Array Oper} {rest : List Oper} {o : Oper} {a : Act} {Q : Exit → Act → World → Prop} (w : World) (hgd : o.guard = none) (s x : Operand)
    (ho : o.op = .call { callee := .builtin .append, args := #[s, x], argTypes := #[70, 70] })
    (base B : Nat) (v : Value) (n : Nat) (vs : List Value) (u : Nat) (hs : a.eval s = v) (hx : a.eval x = .slice (some ⟨B, 0, none⟩) 1 1) (hown : w.ownsRow base 75 1 v n vs)
    (hy : w.cell? ⟨B, 0, none⟩ = some (.map (some u))) (h63 : n ≤ 1000000) (hbase : base ≤ w.heap.size)
    (h : ∀ v' w', w'.ownsRow base 75 1 v' (n + 1) (vs ++ [cellM u]) → w.grownBy w' v.ownBlock → (v'.ownBlock = v.ownBlock ∨ v'.ownBlock = some w.heap.size) → wpList Tryz.prog ops Q rest (a.put o.dst v') w') : wpList Tryz.prog ops Q (o :: rest) a w := by
  obtain ⟨i0, hi, hz⟩ := Option.map_eq_some_iff.1 infoM
  simp only [Prod.mk.injEq] at hz
  obtain ⟨hz0, hz1, hz2⟩ := hz
  refine wpList_append_own_at _ hgd s x _ ho base 75 i0 (.map none) 1 8 Tryz.underlying70 hi hz0 hz1 hz2 rfl (by decide) v n vs hs hown ⟨B, 0, none⟩ 1 1 [cellM u] hx rfl ?_ (fun z hz => by simp at hz; subst hz; rfl) (by unfold maxLen; omega) (by omega) hbase ?_
  · intro j z hj
    have h1 : j < 1 := (List.getElem?_eq_some_iff.1 hj).1
    obtain rfl : j = 0 := by omega
    simp at hj
    subst hj
    rw [Addr.add_lit]
    exact hy
  · intro v' w' h2 h3 _ h5
    exact h v' w' h2 h3 h5
theorem wpList_mapEntryE (w : World) {ops : Array Oper} {rest : List Oper} {o : Oper} {a : Act} {Q : Exit → Act → World → Prop} (hg : o.guard = none) (m x : Operand) (t : TypeId) (hop : o.op = Op.mapEntry t m x)
    (mv kv : Value) (hm : a.eval m = mv) (hx : a.eval x = kv) {v : Value} {w1 : World} (hrun : (Instr.mapEntry t mv kv).run Tryz.prog w = .ok v w1) (hK : wpList Tryz.prog ops Q rest (a.put o.dst v) w1) : wpList Tryz.prog ops Q (o :: rest) a w := by
  refine wpList_plain hg fun K' hK' => ?_
  unfold Oper.wp
  simp [execOp, hop, hm, hx, hrun, Result.andThen]
  exact hK' _ _ hK
theorem wpList_entryStoreE (w : World) {ops : Array Oper} {rest : List Oper} {o : Oper} {a : Act} {Q : Exit → Act → World → Prop} (hg : o.guard = none) (m x v : Operand) (t : TypeId) (hop : o.op = Op.entryStore t m x v)
    (mv kv vv : Value) (hm : a.eval m = mv) (hx : a.eval x = kv) (hv : a.eval v = vv) {w1 : World} (hrun : (Instr.entryStore t mv kv vv).run Tryz.prog w = .ok () w1) (hK : wpList Tryz.prog ops Q rest (a.put o.dst undef) w1) : wpList Tryz.prog ops Q (o :: rest) a w := by
  refine wpList_plain hg fun K' hK' => ?_
  unfold Oper.wp
  simp [execOp, hop, hm, hx, hv, hrun, Result.andThen]
  exact hK' _ _ hK
/-- one more answer in its group: what the three operations leave -/
theorem GSt.step {W w1 w2 w3 : World} {bK base k : Nat} {hd : Tr → Value} {keys : List Tr} {bml : List Nat} (h : GSt W bK base k hd keys bml) {c : Tr} (hc : wf3 c) (hkc : keys[k]? = some c)
    (g1 : W.grownBy w1 (some bK)) {v' : Value} (hown : w2.ownsRow base 75 1 v' ((atK keys c k).length + 1) (((atK keys c k).map fun j => cellM (bml.getD j 0)) ++ [cellM (bml.getD k 0)])) (g2 : w1.grownBy w2 (hd c).ownBlock) (hv' : v'.ownBlock = (hd c).ownBlock ∨ v'.ownBlock = some w1.heap.size)
    (hs1 : w1.heap.size = W.heap.size) (hG : GrpAt w3 bK (k + 1) (fun c' => if c' = c then v' else hd c')) (g3 : w2.grownBy w3 (some bK)) : GSt w3 bK base (k + 1) (fun c' => if c' = c then v' else hd c') keys bml := by
  have hz := h.size
  have hsz : base ≤ w3.heap.size := by have := g2.size; have := g3.size; omega
  have offK : ∀ {w : World} {e s n : Nat} {v : Value} {xs : List Value}, w.ownsRow base e s v n xs → v.ownBlock = none ∨ v.ownBlock ≠ some bK := fun {w e s n v xs} ho => by
    cases hb : v.ownBlock with
    | none => exact Or.inl rfl
    | some g =>
      refine Or.inr (fun e => ?_)
      have := (ho.lt g hb).1
      have := Option.some.inj e
      have := h.low
      omega
  have small : ∀ c', wf3 c' → (hd c').ownBlock ≠ some w1.heap.size := fun c' hc' e => by
    have := ((h.rows c' hc').lt _ e).2
    omega
  refine ⟨hG, h.low, hsz, fun c' hc' => ?_, fun c1 c2 h1 h2 hne => ?_⟩
  · by_cases e : c' = c
    · subst e
      rw [if_pos rfl, atK_hit hkc, List.length_append, List.map_append]
      exact hown.kept g3 (offK hown)
    · rw [if_neg e, atK_miss hkc e]
      have r0 := h.rows c' hc'
      have r1 := r0.kept g1 (offK r0)
      have r2 := r1.kept g2 (h.apart c' c hc' hc e)
      exact r2.kept g3 (offK r2)
  · by_cases e1 : c1 = c
    · subst e1
      rw [if_pos rfl, if_neg (fun e => hne e.symm)]
      rcases hv' with hv' | hv'
      · rw [hv']
        exact h.apart c1 c2 h1 h2 hne
      · rw [hv']
        exact Or.inr (fun e => small c2 h2 e.symm)
    · rw [if_neg e1]
      by_cases e2 : c2 = c
      · subst e2
        rw [if_pos rfl]
        rcases hv' with hv' | hv'
        · rw [hv']
          exact h.apart c1 c2 h1 h2 hne
        · rw [hv']
          exact Or.inr (small c1 h1)
      · rw [if_neg e2]
        exact h.apart c1 c2 h1 h2 hne
/-- a list of answers of one's own -/
def OwnE (W : World) (B : Nat) (v : Value) (N : Nat) (L : List Ev) : Prop := ∃ bs : List Nat, bs.length = L.length ∧ W.ownsRow B 75 1 v L.length (bs.map cellM) ∧ ∀ j (hj : j < L.length), EvAt W (bs.getD j 0) N L[j]
theorem EvAt.ne_own {W : World} {bm N base e size n : Nat} {f : Ev} {v : Value} {xs : List Value} (h : EvAt W bm N f) (ho : W.ownsRow base e size v n xs) : some bm ≠ v.ownBlock := fun q => by
  obtain ⟨D, ⟨es, clock, hm, _⟩, _⟩ := h
  rcases ho.2 with ⟨rfl, _⟩ | ⟨g, cap, cur, rfl, _, hg, _⟩
  · cases q
  · have e1 : bm = g := by simpa [Value.ownBlock] using q
    rw [e1, hg] at hm
    cases hm
theorem OwnE.nil (W : World) (B N : Nat) : OwnE W B (.slice none 0 0) N [] := ⟨[], rfl, World.ownsRow_nil _ _ _ _, fun j h => by simp at h⟩
theorem OwnE.below {W W' : World} {B N : Nat} {v : Value} {L : List Ev} (h : OwnE W B v N L) (hb : RowKit.Below W.heap.size W W') : OwnE W' B v N L := by
  obtain ⟨bs, e, o, g⟩ := h
  exact ⟨bs, e, ownsRow_belowV o hb, fun j hj => (g j hj).below hb⟩
theorem OwnE.push {W W' : World} {B N u : Nat} {v v' : Value} {L : List Ev} {bs : List Nat} {f : Ev} (e : bs.length = L.length) (o : W.ownsRow B 75 1 v L.length (bs.map cellM)) (g : ∀ j (hj : j < L.length), EvAt W (bs.getD j 0) N L[j]) (hu : EvAt W u N f)
    (ho : W'.ownsRow B 75 1 v' (L.length + 1) (bs.map cellM ++ [cellM u])) (hg : W.grownBy W' v.ownBlock) : OwnE W' B v' N (L ++ [f]) := by
  refine ⟨bs ++ [u], by simp [e], by simpa using ho, fun j hj => ?_⟩
  by_cases hlt : j < L.length
  · have h1 : (L ++ [f])[j] = L[j] := List.getElem_append_left hlt
    have h2 : (bs ++ [u]).getD j 0 = bs.getD j 0 := by
      rw [List.getD_eq_getElem?_getD, List.getD_eq_getElem?_getD, List.getElem?_append_left (by omega)]
    rw [h1, h2]
    exact (g j hlt).kept hg ((g j hlt).ne_own o)
  · have hjj : j = L.length := by simp at hj; omega
    subst hjj
    have h1 : (L ++ [f])[L.length] = f := by simp
    have h2 : (bs ++ [u]).getD L.length 0 = u := by
      rw [List.getD_eq_getElem?_getD, List.getElem?_append_right (by omega)]
      simp [e]
    rw [h1, h2]
    exact hu.kept hg (hu.ne_own o)
/-- the row that a slice lies in is one of answers -/
def TyE (W : World) (ad : Option Addr) : Prop := ∀ a, ad = some a → ∃ cur, W.heap[a.block]? = some (.cells cur 75 (0, 0))
theorem tyE_none (W : World) : TyE W none := fun a h => by cases h
theorem TyE.below {W W' : World} {ad : Option Addr} (h : TyE W ad) (hb : RowKit.Below W.heap.size W W') : TyE W' ad := fun a ha => by
  obtain ⟨cur, hc⟩ := h a ha
  exact ⟨cur, (hb.block _ (Array.getElem?_eq_some_iff.1 hc).1).trans hc⟩
theorem OwnE.sl {W : World} {B N : Nat} {v : Value} {L : List Ev} (h : OwnE W B v N L) : ∃ ad c, v = .slice ad L.length c ∧ SlE W ad N L ∧ TyE W ad := by
  obtain ⟨bs, e, o, g⟩ := h
  have o' := o
  rcases o'.2 with ⟨rfl, h0⟩ | ⟨b, cap, cur, rfl, _, hh, _⟩
  · exact ⟨none, 0, by rw [h0], fun hne => absurd (List.eq_nil_of_length_eq_zero h0) hne, tyE_none _⟩
  · refine ⟨some ⟨b, 0, none⟩, cap, rfl, fun _ => ⟨b, 0, rfl, fun j hj => ⟨bs.getD j 0, ?_, g j hj⟩⟩, fun a ha => ?_⟩
    · have hb : j < bs.length := by omega
      have hc := o.cells (g := b) rfl j (cellM (bs.getD j 0)) (by
        rw [List.getElem?_map, List.getElem?_eq_getElem hb, List.getD_eq_getElem?_getD, List.getElem?_eq_getElem hb]
        rfl)
      rw [Addr.add_lit] at hc
      exact hc
    · injection ha with ha
      subst ha
      exact ⟨cur, hh⟩
end Go.Proofs.YtbacenhgedopjaaGreatDoor

/- solve.meet: answers that agree, made one. -/
namespace Go.Proofs.YtbacenhgedopjaaGreatDoor
open Go Go.RowKit Go.Proofs Go.Maps
set_option synthInstance.maxSize 1000

/-- those of a list of answers that have one's key, each made one with it -/
def meetOne (sh : List (List UInt8)) (Lb : List Ev) (f : Ev) : List Ev := (atK (Lb.map (keyT sh)) (keyT sh f) Lb.length).map fun j => bothE f (Lb.getD j noneE)
def meetE (sh : List (List UInt8)) (La Lb : List Ev) : List Ev := La.flatMap (meetOne sh Lb)
def headEv (L : List Ev) : Ev := L.headD noneE
/-- the variables that the first two share -/
def SharedE (La Lb : List Ev) (sh : List (List UInt8)) : Prop := sh.Nodup ∧ (∀ v ∈ sh, v.length ≤ maxLen) ∧ ∀ v : List UInt8, v.length ≤ maxLen → (v ∈ sh ↔ (headEv Lb v).isSome = true ∧ (headEv La v).isSome = true)
def MeetAns (La Lb : List Ev) (N : Nat) (w : World) (e : Ending) (w' : World) : Prop := RowKit.Below w.heap.size w w' ∧ ∃ sh ad c L, SharedE La Lb sh ∧ L = (meetE sh La Lb).take 501 ∧ e = .returned (.slice ad L.length c) ∧ SlE w' ad N L ∧ TyE w' ad
/-- all terms that an answer gives may be keys -/
def WfE (f : Ev) : Prop := ∀ v x, f v = some x → wfK x
theorem wfK_zero : wfK tmZero := ⟨by decide, by simp [tmZero], by simp [tmZero]⟩
theorem WfE.nth {f : Ev} (h : WfE f) (sh : List (List UInt8)) (i : Nat) : wfK (nthE sh f i) := by
  unfold nthE
  split
  · rename_i v _
    cases hv : f v with
    | none => exact wfK_zero
    | some x => exact h v x hv
  · exact wfK_zero
theorem WfE.key {f : Ev} (h : WfE f) (sh : List (List UInt8)) : wf3 (keyT sh f) := ⟨h.nth sh 0, h.nth sh 1, h.nth sh 2⟩
theorem meet_none_a (sh : List (List UInt8)) (Lb : List Ev) : meetE sh [] Lb = [] := rfl
theorem meet_none_b (sh : List (List UInt8)) (La : List Ev) : meetE sh La [] = [] := by
  unfold meetE
  rw [List.flatMap_eq_nil_iff]
  intro f _
  simp [meetOne, atK]
theorem enters100 : ∀ args w, (callFunc 100 args).run Tryz.prog w = .ok (.enter 100 args) w := enters_of Tryz.func100 (by kernel_rfl) rfl
theorem few_le : ∀ (l m : List (List UInt8)), l.Nodup → (∀ v ∈ l, v ∈ m) → l.length ≤ m.length
  | [], _, _, _ => by simp
  | x :: l, m, hn, hs => by
    obtain ⟨h1, h2⟩ := List.nodup_cons.1 hn
    have hx : x ∈ m := hs x (by simp)
    have h3 := few_le l (m.erase x) h2 (fun v hv => (List.mem_erase_of_ne (fun (e : v = x) => h1 (e ▸ hv))).2 (hs v (by simp [hv])))
    rw [List.length_erase_of_mem hx] at h3
    have := List.length_pos_of_mem hx
    simp
    omega
theorem shared_few {sh V : List (List UInt8)} (hn : sh.Nodup) (hV : ∀ v ∈ sh, v ∈ V) (h3 : V.length ≤ 3) : sh.length ≤ 3 := Nat.le_trans (few_le _ _ hn hV) h3
theorem meet_next {sh : List (List UInt8)} {La Lb : List Ev} {k : Nat} (h : k < La.length) : meetE sh (La.take (k + 1)) Lb = meetE sh (La.take k) Lb ++ meetOne sh Lb La[k] := by
  unfold meetE
  rw [List.take_succ_eq_append_getElem h, List.flatMap_append]
  simp
theorem one_len (sh : List (List UInt8)) (Lb : List Ev) (f : Ev) : (meetOne sh Lb f).length = (atK (Lb.map (keyT sh)) (keyT sh f) Lb.length).length := by simp [meetOne]
theorem meet_prefix {sh : List (List UInt8)} {La Lb : List Ev} {k : Nat} (h : k < La.length) (j : Nat) : ∃ r, meetE sh La Lb = (meetE sh (La.take k) Lb ++ (meetOne sh Lb La[k]).take j) ++ r := by
  refine ⟨(meetOne sh Lb La[k]).drop j ++ meetE sh (La.drop (k + 1)) Lb, ?_⟩
  have e : La = La.take k ++ La[k] :: La.drop (k + 1) := by rw [← List.drop_eq_getElem_cons h, List.take_append_drop]
  have e2 : meetE sh La Lb = meetE sh (La.take k) Lb ++ (meetOne sh Lb La[k] ++ meetE sh (La.drop (k + 1)) Lb) := by
    conv => lhs; rw [e]
    unfold meetE
    rw [List.flatMap_append, List.flatMap_cons]
  rw [e2, List.append_assoc, ← List.append_assoc (List.take j _), List.take_append_drop]
theorem SlE.list {w : World} {b o n : Nat} {L : List Ev} (h : SlE w (some ⟨b, o, none⟩) n L) : ∃ bs : List Nat, bs.length = L.length ∧ ∀ j (hj : j < L.length), w.cell? ⟨b, o + j, none⟩ = some (.map (some (bs.getD j 0))) ∧ EvAt w (bs.getD j 0) n L[j] := by
  have hx : ∀ j : Fin L.length, ∃ bm, w.cell? ⟨b, o + j.val, none⟩ = some (.map (some bm)) ∧ EvAt w bm n L[j.val] := fun j => by
    obtain ⟨b', o', bm, e, c, s⟩ := h.at j.val j.isLt
    simp at e
    obtain ⟨rfl, rfl⟩ := e
    exact ⟨bm, c, s⟩
  refine ⟨List.ofFn fun j => Classical.choose (hx j), by simp, fun j hj => ?_⟩
  have e : (List.ofFn fun j => Classical.choose (hx j)).getD j 0 = Classical.choose (hx ⟨j, hj⟩) := by
    rw [List.getD_eq_getElem?_getD, List.getElem?_ofFn, dif_pos hj]
    rfl
  rw [e]
  exact Classical.choose_spec (hx ⟨j, hj⟩)
theorem atK_lt {keys : List Tr} {k : Tr} {n i : Nat} (h : i ∈ atK keys k n) : i < n := by
  simp [atK] at h
  exact h.1
theorem own_cell {W : World} {base e n c i : Nat} {ad : Option Addr} {xs : List Value} {u : Value} (h : W.ownsRow base e 1 (.slice ad n c) n xs) (hi : i < n) (hx : xs[i]? = some u) : ∃ gb, ad = some ⟨gb, 0, none⟩ ∧ W.cell? ⟨gb, i, none⟩ = some u := by
  rcases h.2 with ⟨hv, h0⟩ | ⟨g, cap, cur, hv, _⟩
  · omega
  · simp at hv
    obtain ⟨rfl, rfl⟩ := hv
    refine ⟨g, rfl, ?_⟩
    rw [h.cellAt i (by omega)]
    exact hx
theorem makeGrp (w : World) : (Instr.makeMap 121 none).run Tryz.prog w = .ok (.map (some w.heap.size)) (w.alloc (.map #[] 0)) := by kernel_rfl
theorem valTr_agg (t : Tr) : valTr t = .agg #[.int .i64 t.1.1, .string ⟨t.1.2.1.toArray⟩, .string ⟨t.1.2.2.toArray⟩, .int .i64 t.2.1.1, .string ⟨t.2.1.2.1.toArray⟩, .string ⟨t.2.1.2.2.toArray⟩, .int .i64 t.2.2.1, .string ⟨t.2.2.2.1.toArray⟩, .string ⟨t.2.2.2.2.toArray⟩] := rfl
set_option maxHeartbeats 8000000 in
set_option maxRecDepth 100000 in
theorem meet_any (aa ab : Option Addr) (ca cb na nb : Nat) (La Lb : List Ev) (V : List (List UInt8)) (w : World) (ha : SlE w aa na La) (hb : SlE w ab nb Lb) (hla : La.length ≤ 500) (hlb : Lb.length ≤ 200) (hna : na ≤ 1000) (hnb : nb ≤ 1000)
    (wa : ∀ f ∈ La, WfE f) (wb : ∀ f ∈ Lb, WfE f) (hV : V.length ≤ 3) (hd : ∀ f ∈ Lb, ∀ v, (f v).isSome = true → v ∈ V) :
    Calls Tryz.prog 46 #[.slice aa La.length ca, .slice ab Lb.length cb] w (MeetAns La Lb (na + nb) w) := by
  by_cases h0 : La.length = 0
  · obtain rfl : La = [] := List.eq_nil_of_length_eq_zero h0
    have hS : Hid (SharedE [] Lb []) := ⟨List.nodup_nil, by simp, fun v _ => by simp [headEv, noneE]⟩
    clear ha hb wa wb hd h0
    go_enter Tryz.func46, Tryz.ntmps46
    go_wp2_with fail
    go_ret
    exact ⟨RowKit.Below.refl _ _, [], none, 0, [], hS.out, rfl, rfl, slE_nil _ _ _, tyE_none _⟩
  · by_cases h1 : Lb.length = 0
    · obtain rfl : Lb = [] := List.eq_nil_of_length_eq_zero h1
      have hS : Hid (SharedE La [] []) := ⟨List.nodup_nil, by simp, fun v _ => by simp [headEv, noneE]⟩
      have hm : Hid (([] : List Ev) = (meetE [] La []).take 501) := by show _ = _; rw [meet_none_b]; rfl
      clear ha hb wa wb hd h1
      generalize La.length = NA at *
      have t0 : ((NA : Int) == 0) = false := by simp; omega
      go_enter Tryz.func46, Tryz.ntmps46
      go_wp2_with fail
      go_ret
      exact ⟨RowKit.Below.refl _ _, [], none, 0, [], hS.out, hm.out, rfl, slE_nil _ _ _, tyE_none _⟩
    · obtain ⟨f0, Ra, hLa0⟩ : ∃ f r, La = f :: r := List.exists_cons_of_length_pos (by omega)
      obtain ⟨g0, Rb, hLb0⟩ : ∃ f r, Lb = f :: r := List.exists_cons_of_length_pos (by omega)
      obtain ⟨pa, oa, bx0, rfl, cx0, ex0⟩ := ha.at 0 (by omega)
      obtain ⟨pb, ob, by0, rfl, cy0, ey0⟩ := hb.at 0 (by omega)
      have ef0 : La[0] = f0 := by simp [hLa0]
      have eg0 : Lb[0] = g0 := by simp [hLb0]
      rw [ef0] at ex0
      rw [eg0] at ey0
      have HK := keyer_any bx0 by0 na nb f0 g0 w.drew ex0 ey0 hnb
      have HA := hideE ha
      have HB := hideE hb
      obtain ⟨Q, hQ⟩ : ∃ Q, Q = MeetAns La Lb (na + nb) w := ⟨_, rfl⟩
      have HQ : Hid (∀ e w', MeetAns La Lb (na + nb) w e w' → Q e w') := fun e w' h => by rw [hQ]; exact h
      rw [← hQ]
      have WA := hideE wa
      have WB := hideE wb
      have HD : Hid (∀ v, (g0 v).isSome = true → v ∈ V) := hd g0 (by rw [hLb0]; simp)
      have Hh : Hid (headEv La = f0 ∧ headEv Lb = g0) := ⟨by rw [hLa0]; rfl, by rw [hLb0]; rfl⟩
      clear ha hb wa wb hd hQ ef0 eg0 hLa0 hLb0 ex0 ey0
      obtain ⟨NA, hNA⟩ : ∃ n, n = La.length := ⟨_, rfl⟩
      obtain ⟨NB, hNB⟩ : ∃ n, n = Lb.length := ⟨_, rfl⟩
      rw [← hNA, ← hNB]
      rw [← hNA] at h0 hla
      rw [← hNB] at h1 hlb
      have HNA := hideE hNA
      have HNB := hideE hNB
      clear hNA hNB
      have t0 : ((NA : Int) == 0) = false := by simp; omega
      have t1 : ((NB : Int) == 0) = false := by simp; omega
      have i0 : 0 < NA := by omega
      have i1 : 0 < NB := by omega
      rw [Nat.add_zero] at cx0 cy0
      go_enter Tryz.func46, Tryz.ntmps46
      go_upto_region 3 with fail
      go_cut [5] from 23 to 29 (fun v W => Hid (KeyerAns f0 g0 w.drew (.returned v) W))
      case first =>
        go_region_law (go_simp; go_at_call 71; refine HK.mono ?_; rintro e w1 ⟨hb1, sh, B, rfl, hk, hn⟩; have HH : Hid (RowKit.Below w.drew.heap.size w.drew w1 ∧ KeyAt w1 B sh ∧ sh.Nodup ∧ (∀ v ∈ sh, v.length ≤ maxLen) ∧ ∀ v : List UInt8, v.length ≤ maxLen → (v ∈ sh ↔ (g0 v).isSome = true ∧ (f0 v).isSome = true)) := ⟨hb1, hk, hn⟩; clear hb1 hk hn)
        all_goals
          go_wp2_with fail
          go_meet
          case rel => exact ⟨HH.out.1, sh, B, rfl, HH.out.2⟩
      case rest =>
        clear HK cx0 cy0 t0 t1 i0 i1
        obtain ⟨hb1, sh, B, hv, hk1, hnd, hsl, hmm⟩ := hcut.out
        obtain rfl := Ending.returned.inj hv
        have hbw : RowKit.Below w.heap.size w wc := (RowKit.Below.refl _ w).drew.trans hb1
        have hsh3 : sh.length ≤ 3 := shared_few hnd (fun v hv => HD.out v ((hmm v (hsl v hv)).1 hv).1) hV
        have HS : Hid (SharedE La Lb sh) := ⟨hnd, hsl, fun v hv => by rw [Hh.out.1, Hh.out.2]; exact hmm v hv⟩
        have Hk1 := hideE hk1
        have Hsl := hideE hsl
        have Hs3 := hideE hsh3
        have HAc := hideE (HA.out.below hbw)
        obtain ⟨bml, hbl, hbc⟩ := (HB.out.below hbw).list
        obtain ⟨aml, hal, hac⟩ := (HA.out.below hbw).list
        have Hbl := hideE hbl
        have Hbc := hideE hbc
        have Hac := hideE hac
        have eg := enters100
        have hmkG := makeGrp
        have hG0 := hideE (GSt.start wc (Lb.map (keyT sh)) bml)
        clear hcut hv hk1 hsl hsh3 hnd hmm hb1 hbl hbc hal hac HA HB Hh HD HAc
        go_wp2_with fail
        go_loopw [33] (fun i wr => ∃ (k : Nat) (hd : Tr → Value), k ≤ NB ∧ i = .int .i64 k ∧ Hid (GSt wr wc.heap.size (wc.heap.size + 1) k hd (Lb.map (keyT sh)) bml) ∧ RowKit.Below wc.heap.size wc wr) (fun i wr => NB - (intOf i).toNat)
        case atStart => exact ⟨0, _, Nat.zero_le _, rfl, hG0.out, balloc _ _⟩
        case round =>
          clear hG0 hmkG
          obtain ⟨k, hd, hk, rfl, hG, hbr⟩ := hrel
          have hzr := hbr.size
          by_cases hlt : k < NB
          · have t1 : decide ((k : Int) < (NB : Int)) = true := by simp; omega
            have i0 : (0 : Int) ≤ (k : Int) := by omega
            have i1 : (k : Int) < (NB : Int) := by omega
            have hkL : k < Lb.length := by rw [← HNB.out]; exact hlt
            obtain ⟨cy0, ey0⟩ := Hbc.out k hkL
            have cy := (hbr.cell (World.block_lt_of_cell? wc _ cy0)).trans cy0
            have hwf := hideE ((WB.out _ (List.getElem_mem hkL)).key sh)
            have HKY := key_any (bml.getD k 0) nb B Lb[k] sh wr (ey0.far hbr ey0.lt) (Hk1.out.below hbr) Hsl.out Hs3.out
            have hkk := hideE (show (Lb.map (keyT sh))[k]? = some (keyT sh Lb[k]) by rw [List.getElem?_map, List.getElem?_eq_getElem hkL]; rfl)
            have Hyb := hideE (show bml.getD k 0 = bml.getD k 0 from rfl)
            generalize keyT sh Lb[k] = kap at *
            generalize hyb : bml.getD k 0 = yb at *
            have HYB := hideE hyb
            clear hyb Hyb cy0 ey0
            rw [valTr_agg] at HKY
            go_wp2_with fail
            go_at_fn 100
            refine HKY.mono ?_
            rintro e w2 ⟨rfl, hb2⟩
            dsimp only
            obtain ⟨W4, hW4⟩ : ∃ W4, W4 = (w2.alloc (.cells #[.int .i64 kap.1.1, .string ⟨kap.1.2.1.toArray⟩, .string ⟨kap.1.2.2.toArray⟩, .int .i64 kap.2.1.1, .string ⟨kap.2.1.2.1.toArray⟩, .string ⟨kap.2.1.2.2.toArray⟩, .int .i64 kap.2.2.1, .string ⟨kap.2.2.2.1.toArray⟩, .string ⟨kap.2.2.2.2.toArray⟩] 122)).alloc (.cells #[.map (some yb)] 75) := ⟨_, rfl⟩
            have hb4 : RowKit.Below wr.heap.size wr W4 := by rw [hW4]; exact bstep (bstep hb2 (balloc _ _)) (balloc _ _)
            have hG4 := hideE (hG.out.below hb4)
            have hn4 : k < maxLen := by unfold maxLen; omega
            obtain ⟨st, w5, hrun, g1, hs1, hback⟩ := grp_entry hG4.out.map hn4 kap hwf.out
            rw [valTr_agg] at hrun
            have cz : w5.cell? ⟨w2.heap.size + 1, 0, none⟩ = some (.map (some yb)) := by
              have c4 : W4.cell? ⟨w2.heap.size + 1, 0, none⟩ = some (.map (some yb)) := by rw [hW4]; go_simp
              have hlow := hG4.out.low
              have h2 := hb2.size
              exact (grown_cellE g1 (b := w2.heap.size + 1) (World.block_lt_of_cell? W4 _ c4) (fun e => by have := Option.some.inj e; omega) 0).1.trans c4
            have hrow := hideE (show w5.ownsRow (wc.heap.size + 1) 75 1 (hd kap) (atK (Lb.map (keyT sh)) kap k).length ((atK (Lb.map (keyT sh)) kap k).map fun j => cellM (bml.getD j 0)) from (hG4.out.rows kap hwf.out).kept g1 (by
              cases hb : (hd kap).ownBlock with
              | none => exact Or.inl rfl
              | some g =>
                refine Or.inr (fun e => ?_)
                have := ((hG4.out.rows kap hwf.out).lt g hb).1
                have := Option.some.inj e
                omega))
            have hlen := atK_len (Lb.map (keyT sh)) kap k
            have hz5 : wc.heap.size + 1 ≤ w5.heap.size := by have := hG4.out.size; omega
            have HG1 := hideE g1
            have HS1 := hideE hs1
            have HBK := hideE hback
            clear g1 hs1 hback
            go_wp2_with (first
              | (rw [← hW4]; refine wpList_mapEntryE _ rfl _ _ _ rfl _ _ rfl rfl hrun ?_)
              | (at_builtin; go_loud (refine wpList_appendE _ rfl _ _ rfl (wc.heap.size + 1) (w2.heap.size + 1) (hd kap) _ _ yb rfl rfl hrow.out cz (by omega) hz5 ?_); intro v' w6 hown6 hg6 hv6; obtain ⟨w7, hst, hG7, g7⟩ := HBK.out w6 v' (hg6.block wc.heap.size (by omega) (own_aboveE hrow.out (by omega))) (isHd_own hown6))
              | (refine wpList_entryStoreE _ rfl _ _ _ _ rfl _ _ _ rfl rfl rfl hst ?_))
            have hGs := hideE (hG4.out.step hwf.out hkk.out HG1.out (v' := v') (by rw [HYB.out]; exact hown6) hg6 hv6 HS1.out hG7 g7)
            have hBf : RowKit.Below wc.heap.size wc w7 := (((hbr.trans (hb4.mono hzr)).grown HG1.out (by have := hb4.size; omega) (fun j e => by have := Option.some.inj e; omega)).grown hg6 (by omega) (fun j e => by have := (hrow.out.lt j e).1; omega)).grown g7 (by have := hg6.size; omega) (fun j e => by have := Option.some.inj e; omega)
            go_roundw
            case rel => exact ⟨k + 1, _, by omega, by go_num, hGs, hBf⟩
            case measure => simp [intOf]; omega
          · obtain rfl : k = NB := by omega
            have t1 : decide ((k : Int) < (k : Int)) = false := by simp
            go_wp2_with fail
            obtain ⟨Wz, rfl⟩ : ∃ Wz, Wz = wr := ⟨wr, rfl⟩
            go_loopw [10, 51] (fun vo i wr => ∃ n : Nat, n ≤ NA ∧ i = .int .i64 n ∧ Hid (OwnE wr Wz.heap.size vo (na + nb) (meetE sh (La.take n) Lb)) ∧ (meetE sh (La.take n) Lb).length ≤ 500 ∧ RowKit.Below Wz.heap.size Wz wr) (fun _ i wr => NA - (intOf i).toNat)
            case atStart => exact ⟨0, Nat.zero_le _, rfl, OwnE.nil _ _ _, by simp [meetE], RowKit.Below.refl _ _⟩
            case round =>
              obtain ⟨n, hn, rfl, hO, hO5, hbq⟩ := hrel
              have hzq := hbq.size
              by_cases hltn : n < NA
              · have t2 : decide ((n : Int) < (NA : Int)) = true := by simp; omega
                have j0 : (0 : Int) ≤ (n : Int) := by omega
                have j1 : (n : Int) < (NA : Int) := by omega
                have hnL : n < La.length := by rw [← HNA.out]; exact hltn
                obtain ⟨cx0, ex0⟩ := Hac.out n hnL
                have hbcq : RowKit.Below wc.heap.size wc wr := hbr.trans (hbq.mono hzr)
                have cx := (hbcq.cell (World.block_lt_of_cell? wc _ cx0)).trans cx0
                have hwf := hideE ((WA.out _ (List.getElem_mem hnL)).key sh)
                have HKX := key_any (aml.getD n 0) na B La[n] sh wr (ex0.far hbcq ex0.lt) (Hk1.out.below hbcq) Hsl.out Hs3.out
                have HX := hideE (ex0.far hbcq ex0.lt)
                have hnext := hideE (meet_next (sh := sh) (Lb := Lb) hnL)
                have hpre := hideE (fun j => meet_prefix (sh := sh) (Lb := Lb) hnL j)
                have hone := hideE (one_len sh Lb La[n])
                have hdef := hideE (show meetOne sh Lb La[n] = (atK (Lb.map (keyT sh)) (keyT sh La[n]) Lb.length).map (fun j => bothE La[n] (Lb.getD j noneE)) from rfl)
                have hGq := hideE (hG.out.below hbq)
                have hrow := hideE (hGq.out.rows _ hwf.out)
                have hlk := grp_look hGq.out.map _ hwf.out
                have hLbl : Lb.length = k := HNB.out.symm
                rw [hLbl] at hone hdef
                obtain ⟨adg, cg, hhd⟩ := own_form hrow.out
                have hrz := hideE (hG.out.rows _ hwf.out)
                rw [hhd] at hrz
                have HHD := hideE hhd
                have HXc := hideE ex0
                clear hhd hlk hrow
                generalize hM : (meetOne sh Lb La[n]) = M1 at *
                generalize hM0 : meetE sh (La.take n) Lb = M0 at *
                generalize keyT sh La[n] = kap at *
                generalize hat : atK (Lb.map (keyT sh)) kap k = gs at *
                generalize La[n] = fx at *
                generalize aml.getD n 0 = xb at *
                have hgl : ∀ i ∈ gs, i < k := fun i hi => by rw [← hat] at hi; exact atK_lt hi
                have Hgl := hideE hgl
                have hgk : gs.length ≤ 200 := by rw [← hat]; exact Nat.le_trans (atK_len _ _ _) hlb
                clear hat hM hM0 cx0 ex0 hgl
                rw [valTr_agg] at HKX
                go_wp2_with fail
                go_at_fn 100
                refine HKX.mono ?_
                rintro e w2 ⟨rfl, hb2⟩
                dsimp only
                have hlk := grp_look (hGq.out.below hb2).map kap hwf.out
                rw [HHD.out, valTr_agg] at hlk
                have hO2 := hideE (hO.out.below hb2)
                have hb2z : RowKit.Below Wz.heap.size Wz w2 := hbq.trans (hb2.mono hzq)
                clear hO HX hwf hGq HKX cx
                go_wp2_with fail
                go_loopw [10, 61] (fun vo j wq => ∃ i : Nat, i ≤ gs.length ∧ j = .int .i64 i ∧ Hid (OwnE wq Wz.heap.size vo (na + nb) (M0 ++ M1.take i)) ∧ (M0 ++ M1.take i).length ≤ 500 ∧ RowKit.Below Wz.heap.size Wz wq) (fun _ j wq => gs.length - (intOf j).toNat)
                case atStart => exact ⟨0, Nat.zero_le _, rfl, by show OwnE _ _ _ _ _; simpa using hO2.out, by simpa using hO5, hb2z⟩
                case round =>
                  clear hO2 hb2z hbq hzq hlk hb2
                  obtain ⟨i, hi, rfl, hP, hP5, hbp⟩ := hrel
                  have hzp := hbp.size
                  have hbcp : RowKit.Below wc.heap.size wc wr := hbr.trans (hbp.mono hzr)
                  by_cases hlti : i < gs.length
                  · have t3 : decide ((i : Int) < (gs.length : Int)) = true := by simp; omega
                    have l0 : (0 : Int) ≤ (i : Int) := by omega
                    have l1 : (i : Int) < (gs.length : Int) := by omega
                    have hgi := Hgl.out _ (List.getElem_mem hlti)
                    have hgL : gs[i] < Lb.length := by rw [hLbl]; exact hgi
                    obtain ⟨gb, rfl, cg0⟩ := own_cell (u := .map (some (bml.getD gs[i] 0))) hrz.out hlti (by rw [List.getElem?_map, List.getElem?_eq_getElem hlti]; rfl)
                    have cgi := (hbp.cell (World.block_lt_of_cell? Wz _ cg0)).trans cg0
                    have hy := (Hbc.out _ hgL).2
                    have HB2 := both_any xb (bml.getD gs[i] 0) na nb fx Lb[gs[i]] wr (HXc.out.far hbcp HXc.out.lt) (hy.far hbcp hy.lt) (by omega)
                    have hM1 : M1[i]? = some (bothE fx Lb[gs[i]]) := by
                      rw [hdef.out, List.getElem?_map, List.getElem?_eq_getElem hlti]
                      simp [List.getD_eq_getElem?_getD, List.getElem?_eq_getElem hgL]
                    have hiM : i < M1.length := (List.getElem?_eq_some_iff.1 hM1).1
                    have hstep : Hid (M0 ++ M1.take (i + 1) = (M0 ++ M1.take i) ++ [bothE fx Lb[gs[i]]]) := by
                      show _ = _
                      rw [List.take_succ_eq_append_getElem hiM, List.append_assoc, (List.getElem?_eq_some_iff.1 hM1).2]
                    obtain ⟨r, hr⟩ := hpre.out (i + 1)
                    rw [hstep.out] at hr
                    have Hr := hideE hr
                    generalize bothE fx Lb[gs[i]] = fz at *
                    generalize bml.getD gs[i] 0 = yb at *
                    generalize hLL : M0 ++ M1.take (i + 1) = L' at *
                    generalize M0 ++ M1.take i = L at *
                    obtain ⟨bs, ebs, obs, gbs⟩ := hP.out
                    have HLL := hideE hLL
                    clear hr hy cg0 hM1 hLL hgL hgi hP
                    go_wp2_with fail
                    refine HB2.mono ?_
                    rintro e w3 ⟨rfl, he3, hb3⟩
                    dsimp only
                    obtain ⟨W4, hW4⟩ : ∃ W4, W4 = w3.alloc (.cells #[.map (some wr.heap.size)] 75) := ⟨_, rfl⟩
                    have hb4 : RowKit.Below wr.heap.size wr W4 := by rw [hW4]; exact bstep hb3 (balloc _ _)
                    have c4 : W4.cell? ⟨w3.heap.size, 0, none⟩ = some (.map (some wr.heap.size)) := by rw [hW4]; go_simp
                    have he4 : EvAt W4 wr.heap.size (na + nb) fz := by rw [hW4]; exact he3.below (balloc _ _)
                    have ob4 := ownsRow_belowV obs hb4
                    have gb4 := hideE (fun j (hj : j < L.length) => (gbs j hj).below hb4)
                    have hz4 : Wz.heap.size ≤ W4.heap.size := by have := hb4.size; omega
                    have HE4 := hideE he4
                    have Hebs := hideE ebs
                    have hoo := hideE (fun (v' : Value) (w' : World) (h : w'.ownsRow Wz.heap.size 75 1 v' (L.length + 1) (bs.map cellM ++ [cellM wr.heap.size])) (hg : W4.grownBy w' u10.ownBlock) => OwnE.push ebs ob4 gb4.out HE4.out h hg)
                    obtain ⟨nl, hnl⟩ : ∃ nl, nl = L.length := ⟨_, rfl⟩
                    rw [← hnl] at ob4 hP5 hoo
                    have Hnl := hideE hnl
                    clear hnl
                    clear obs gbs he3 he4 ebs
                    have hpush : Hid (∀ v' w5, w5.ownsRow Wz.heap.size 75 1 v' (nl + 1) (bs.map cellM ++ [cellM wr.heap.size]) → W4.grownBy w5 u10.ownBlock → OwnE w5 Wz.heap.size v' (na + nb) (L ++ [fz]) ∧ RowKit.Below Wz.heap.size Wz w5) := fun v' w5 h1 h2 => ⟨hoo.out v' w5 h1 h2, (hbp.trans (hb4.mono hzp)).grown h2 hz4 (fun j e => (ob4.lt j e).1)⟩
                    by_cases h5 : 500 < nl + 1
                    · have t5 : decide ((nl : Int) + 1 > 500) = true := by simp; omega
                      have t6 : decide (500 < (nl : Int) + 1) = true := by simp; omega
                      go_wp2_with (first
                        | (at_builtin; rw [← hW4]; go_loud (refine wpList_appendE _ rfl _ _ rfl Wz.heap.size w3.heap.size _ nl _ wr.heap.size rfl rfl ob4 c4 (by omega) hz4 ?_); intro v' w5 hown5 hg5 hv5; obtain ⟨av, cv, rfl⟩ := own_form hown5))
                      obtain ⟨hOf, hBf⟩ := hpush.out _ _ hown5 hg5
                      obtain ⟨ad, c, ev, hs⟩ := hOf.sl
                      have hll : (L ++ [fz]).length = nl + 1 := by simp [Hnl.out]
                      have hfin : L ++ [fz] = (meetE sh La Lb).take 501 := by
                        rw [Hr.out]
                        rw [List.take_append_of_le_length (by rw [hll]; omega), List.take_of_length_le (by rw [hll]; omega)]
                      rw [hll] at ev
                      simp only [Value.slice.injEq] at ev
                      obtain ⟨rfl, _, rfl⟩ := ev
                      exact HQ.out _ _ ⟨hbw.trans ((hbr.trans (hBf.mono hzr)).mono hbw.size), sh, av, cv, L ++ [fz], HS.out, hfin, by rw [hll]; rfl, hs⟩
                    · have t5 : decide ((nl : Int) + 1 > 500) = false := by simp; omega
                      have t6 : decide (500 < (nl : Int) + 1) = false := by simp; omega
                      go_wp2_with (first
                        | (at_builtin; rw [← hW4]; go_loud (refine wpList_appendE _ rfl _ _ rfl Wz.heap.size w3.heap.size _ nl _ wr.heap.size rfl rfl ob4 c4 (by omega) hz4 ?_); intro v' w5 hown5 hg5 hv5; obtain ⟨av, cv, rfl⟩ := own_form hown5))
                      obtain ⟨hOf, hBf⟩ := hpush.out _ _ hown5 hg5
                      have HOf := hideE hOf
                      clear hOf
                      go_roundw
                      case rel => exact ⟨i + 1, by omega, by go_num, by show OwnE _ _ _ _ _; rw [HLL.out, hstep.out]; exact HOf.out, by rw [HLL.out, hstep.out]; simp [← Hnl.out]; omega, hBf⟩
                      case measure => simp [intOf]; omega
                  · obtain rfl : i = gs.length := by omega
                    have t3 : decide ((gs.length : Int) < (gs.length : Int)) = false := by simp
                    have hfull : Hid (meetE sh (La.take (n + 1)) Lb = M0 ++ M1.take gs.length) := by
                      show _ = _
                      rw [hnext.out, List.take_of_length_le (by rw [hone.out]; exact Nat.le_refl _)]
                    go_wp2_with fail
                    go_roundw
                    case rel => exact ⟨n + 1, by omega, by go_num, by show OwnE _ _ _ _ _; rw [hfull.out]; exact hP.out, by rw [hfull.out]; exact hP5, hbp⟩
                    case measure => simp [intOf]; omega
              · obtain rfl : n = NA := by omega
                have t2 : decide ((n : Int) < (n : Int)) = false := by simp
                have hall : Hid (meetE sh La Lb = meetE sh (La.take n) Lb) := by show _ = _; rw [HNA.out, List.take_length]
                obtain ⟨ad, c, rfl, hs⟩ := hO.out.sl
                have HSl := hideE hs
                clear hs hO
                generalize hM0 : meetE sh (La.take n) Lb = M0 at *
                clear hM0
                go_wp2_with fail
                exact HQ.out _ _ ⟨hbw.trans ((hbr.trans (hbq.mono hzr)).mono hbw.size), sh, ad, c, M0, HS.out, by rw [hall.out, List.take_of_length_le (by omega)], rfl, HSl.out⟩
end Go.Proofs.YtbacenhgedopjaaGreatDoor

/- Answers that agree, in plain words: by keys, and what is made of two. -/
namespace Go.Proofs.YtbacenhgedopjaaGreatDoor
open Go Go.RowKit Go.Proofs
set_option synthInstance.maxSize 1000

theorem fits_iff (p : Pt) (t : Tr) : fitsB p t = true ↔ (p.1.1 = [] → t.1 = p.1.2) ∧ (p.2.1.1 = [] → t.2.1 = p.2.1.2) ∧ (p.2.2.1 = [] → t.2.2 = p.2.2.2) ∧ (p.2.1.1 ≠ [] → p.2.1.1 = p.1.1 → t.2.1 = t.1) ∧ (p.2.2.1 ≠ [] → p.2.2.1 = p.1.1 → t.2.2 = t.1) ∧ (p.2.2.1 ≠ [] → p.2.2.1 = p.2.1.1 → t.2.2 = t.2.1) := by
  unfold fitsB
  grind
theorem evT_none {p : Pt} {t : Tr} {v : List UInt8} : evT p t v = none ↔ v ∉ varsL p := by
  rw [varsL_mem]
  unfold evT
  grind
theorem evT_pick {p : Pt} {t : Tr} {v : List UInt8} (hf : fitsB p t = true) (hv : v ∈ varsL p) : evT p t v = some (pickT p t v) := by
  rw [varsL_mem] at hv
  rw [fits_iff] at hf
  unfold evT pickT
  grind
/-- does an answer agree with a triple? -/
def agreeB (vars : List (List UInt8)) (p : Pt) (r : List Tm) (t : Tr) : Bool := vars.all fun v => !decide (v ∈ varsL p) || decide (boundT vars r v = evT p t v)
theorem agree_iff {vars : List (List UInt8)} {p : Pt} {r : List Tm} {t : Tr} : agreeB vars p r t = true ↔ ∀ v ∈ vars, v ∈ varsL p → boundT vars r v = evT p t v := by
  unfold agreeB
  rw [List.all_eq_true]
  constructor
  · intro h v h1 h2
    have := h v h1
    simpa [h2] using this
  · intro h v h1
    by_cases h2 : v ∈ varsL p
    · simp [h2, h v h1 h2]
    · simp [h2]
theorem fits_bind {vars : List (List UInt8)} {p : Pt} {r : List Tm} {t : Tr} (hl : r.length = vars.length) : fitsB (bindP vars r p) t = (fitsB p t && agreeB vars p r t) := by
  have hE := bound_empty vars r
  rw [Bool.eq_iff_iff, Bool.and_eq_true, agree_iff]
  have key : ∀ v, v ≠ [] → (v ∈ vars ↔ boundT vars r v ≠ none) := fun v hv => by
    rw [Ne, bound_none hv hl]; simp
  have hag : (∀ v ∈ vars, v ∈ varsL p → boundT vars r v = evT p t v) ↔ ∀ v, v ∈ varsL p → boundT vars r v ≠ none → boundT vars r v = evT p t v := by
    constructor
    · intro h v h1 h2
      exact h v ((key v (varsL_mem.1 h1).1).2 h2) h1
    · intro h v h1 h2
      exact h v h2 ((key v (varsL_mem.1 h2).1).1 h1)
  rw [hag, fits_iff, fits_iff]
  clear hag key hl
  obtain ⟨⟨a, x⟩, ⟨b, y⟩, ⟨c, z⟩⟩ := p
  obtain ⟨s, q, o⟩ := t
  simp only [bindP, bindS, varsL_mem, evT]
  generalize boundT vars r = f at *
  constructor
  · intro h
    refine ⟨?_, ?_⟩
    · cases ha : f a <;> cases hb : f b <;> cases hc : f c <;> simp only [ha, hb, hc] at h <;> grind
    · intro v hv
      cases ha : f a <;> cases hb : f b <;> cases hc : f c <;> simp only [ha, hb, hc] at h <;> grind
  · rintro ⟨h, h2⟩
    have ha2 := h2 a
    have hb2 := h2 b
    have hc2 := h2 c
    cases ha : f a <;> cases hb : f b <;> cases hc : f c <;> grind
theorem match_bind {S : List Tr} {vars : List (List UInt8)} {p : Pt} {r : List Tm} (hl : r.length = vars.length) : matchP S (bindP vars r p) = (matchP S p).filter (agreeB vars p r) := by
  unfold matchP
  rw [List.filter_filter]
  congr 1
  funext t
  rw [fits_bind hl, Bool.and_comm]
theorem ext_ev {vars : List (List UInt8)} {p : Pt} {r : List Tm} {t : Tr} (hl : r.length = vars.length) (hf : fitsB p t = true) (ha : agreeB vars p r t = true) : boundT (vars ++ freshV vars p) (extR vars p r t) = bothE (boundT vars r) (evT p t) := by
  rw [agree_iff] at ha
  funext v
  unfold bothE extR
  by_cases hv0 : v = []
  · subst hv0
    rw [bound_empty, bound_empty]
    simp [evT]
  · by_cases hv : v ∈ varsL p
    · by_cases hvs : v ∈ vars
      · cases hb : boundT vars r v with
        | none => exact absurd hvs ((bound_none hv0 hl).1 hb)
        | some x =>
          have := ha v hvs hv
          rw [hb] at this
          rw [bound_app hl hb, ← this]
      · rw [bound_new hl ((bound_none hv0 hl).2 hvs), bound_map hv0 (fresh_mem.2 ⟨hv, hvs⟩), evT_pick hf hv]
    · rw [evT_none.2 hv]
      cases hb : boundT vars r v with
      | none =>
        rw [bound_new hl hb]
        exact (bound_none hv0 (by simp)).2 (fun h => hv (fresh_mem.1 h).1)
      | some x => exact bound_app hl hb

/-! ### by keys -/
theorem key_iff {sh : List (List UInt8)} (h3 : sh.length ≤ 3) {f g : Ev} : keyT sh f = keyT sh g ↔ ∀ v ∈ sh, (f v).getD tmZero = (g v).getD tmZero := by
  unfold keyT nthE
  match sh, h3 with
  | [], _ => simp
  | [a], _ => simp
  | [a, b], _ => simp
  | [a, b, c], _ => simp
  | a :: b :: c :: d :: r, h => simp at h
/-- the variables that both have -/
def SharedV (vars : List (List UInt8)) (p : Pt) (sh : List (List UInt8)) : Prop := sh.Nodup ∧ ∀ v, v ∈ sh ↔ v ∈ vars ∧ v ∈ varsL p
theorem key_agree {vars : List (List UInt8)} {p : Pt} {r : List Tm} {t : Tr} {sh : List (List UInt8)} (hs : SharedV vars p sh) (h3 : sh.length ≤ 3) (hl : r.length = vars.length) : decide (keyT sh (evT p t) = keyT sh (boundT vars r)) = agreeB vars p r t := by
  rw [Bool.eq_iff_iff, decide_eq_true_eq, key_iff h3, agree_iff]
  have two : ∀ v, v ∈ vars → v ∈ varsL p → ∃ x y, boundT vars r v = some x ∧ evT p t v = some y := fun v h1 h2 => by
    cases hb : boundT vars r v with
    | none => exact absurd h1 ((bound_none (varsL_mem.1 h2).1 hl).1 hb)
    | some x =>
      cases he : evT p t v with
      | none => exact absurd h2 (evT_none.1 he)
      | some y => exact ⟨x, y, rfl, rfl⟩
  constructor
  · intro h v h1 h2
    obtain ⟨x, y, e1, e2⟩ := two v h1 h2
    have := h v ((hs.2 v).2 ⟨h1, h2⟩)
    rw [e1, e2] at this ⊢
    simp at this
    rw [this]
  · intro h v hv
    obtain ⟨h1, h2⟩ := (hs.2 v).1 hv
    rw [h v h1 h2]
/-- all that one answer meets -/
def meetR (vars : List (List UInt8)) (p : Pt) (M : List Tr) (r : List Tm) : List (List Tm) := (M.filter (agreeB vars p r)).map (extR vars p r)
theorem rows_meet {S : List Tr} {vars : List (List UInt8)} {p : Pt} {r : List Tm} (hl : r.length = vars.length) : rowsOf S vars p r = meetR vars p (matchP S p) r := by
  unfold rowsOf meetR
  rw [match_bind hl]
theorem step_meet {S : List Tr} {vars : List (List UInt8)} {p : Pt} {rows : List (List Tm)} (hl : ∀ r ∈ rows, r.length = vars.length) : stepR S vars p rows = rows.flatMap (meetR vars p (matchP S p)) := by
  unfold stepR
  rw [List.flatMap_def, List.flatMap_def, List.map_congr_left (fun r hr => rows_meet (hl r hr))]
end Go.Proofs.YtbacenhgedopjaaGreatDoor

/- What solve.meet makes of answers is what the document's step makes; plain lists. -/
namespace Go.Proofs.YtbacenhgedopjaaGreatDoor
open Go Go.RowKit Go.Proofs
set_option synthInstance.maxSize 1000

theorem atK_filter {α : Type} (key : Ev → Tr) (c : Tr) (h : Ev → α) : ∀ (L : List Ev) (m : Nat), m ≤ L.length → (atK (L.map key) c m).map (fun j => h (L.getD j noneE)) = ((L.take m).filter fun g => decide (key g = c)).map h
  | L, 0, _ => by simp [atK]
  | L, m + 1, hm => by
    have ih := atK_filter key c h L m (by omega)
    have hlt : m < L.length := by omega
    have hg : (L.map key)[m]? = some (key L[m]) := by rw [List.getElem?_map, List.getElem?_eq_getElem hlt]; rfl
    rw [List.take_succ_eq_append_getElem hlt, List.filter_append, List.map_append, ← ih]
    by_cases e : key L[m] = c
    · rw [atK_hit (by rw [hg, e]), List.map_append]
      simp [e, List.getElem?_eq_getElem hlt]
    · rw [atK_miss hg (fun h => e h.symm)]
      simp [e]
theorem meetOne_filter (sh : List (List UInt8)) (Lb : List Ev) (f : Ev) : meetOne sh Lb f = (Lb.filter fun g => decide (keyT sh g = keyT sh f)).map (bothE f) := by
  unfold meetOne
  rw [atK_filter (keyT sh) (keyT sh f) (bothE f) Lb Lb.length (Nat.le_refl _), List.take_length]
theorem meet_step {S : List Tr} {vars : List (List UInt8)} {p : Pt} {rows : List (List Tm)} {sh : List (List UInt8)} (hl : ∀ r ∈ rows, r.length = vars.length) (hs : rows ≠ [] → matchP S p ≠ [] → SharedV vars p sh ∧ sh.length ≤ 3) :
    meetE sh (rows.map (boundT vars)) ((matchP S p).map (evT p)) = (stepR S vars p rows).map (boundT (vars ++ freshV vars p)) := by
  by_cases hM : matchP S p = []
  · rw [hM, List.map_nil, meet_none_b, step_meet hl, hM]
    have : rows.flatMap (meetR vars p []) = [] := by
      rw [List.flatMap_eq_nil_iff]
      intro r _
      rfl
    rw [this]
    rfl
  · rw [step_meet hl]
    unfold meetE
    rw [List.flatMap_map, List.map_flatMap, List.flatMap_def, List.flatMap_def]
    congr 1
    apply List.map_congr_left
    intro r hr
    obtain ⟨h1, h2⟩ := hs (fun e => by rw [e] at hr; cases hr) hM
    rw [meetOne_filter, List.filter_map, List.map_map]
    unfold meetR
    rw [List.map_map]
    have e1 : ((fun g => decide (keyT sh g = keyT sh (boundT vars r))) ∘ evT p) = agreeB vars p r := by
      funext t
      exact key_agree h1 h2 (hl r hr)
    rw [e1]
    apply List.map_congr_left
    intro t ht
    obtain ⟨ht1, ht2⟩ := List.mem_filter.1 ht
    have hf : fitsB p t = true := (List.mem_filter.1 ht1).2
    exact (ext_ev (hl r hr) hf ht2).symm
theorem shared_v {S : List Tr} {vars : List (List UInt8)} {p : Pt} {rows : List (List Tm)} {sh : List (List UInt8)} (hl : ∀ r ∈ rows, r.length = vars.length) (hp : ∀ v ∈ varsL p, v.length ≤ maxLen) (h : SharedE (rows.map (boundT vars)) ((matchP S p).map (evT p)) sh) (h1 : rows ≠ []) (h2 : matchP S p ≠ []) : SharedV vars p sh ∧ sh.length ≤ 3 := by
  obtain ⟨r, R, rfl⟩ : ∃ r R, rows = r :: R := by
    cases rows with
    | nil => exact absurd rfl h1
    | cons r R => exact ⟨r, R, rfl⟩
  obtain ⟨t, M, hM⟩ : ∃ t M, matchP S p = t :: M := by
    cases hm : matchP S p with
    | nil => exact absurd hm h2
    | cons t M => exact ⟨t, M, rfl⟩
  obtain ⟨n1, n2, n3⟩ := h
  have hr := hl r (by simp)
  have key : ∀ v, v ∈ sh ↔ v ∈ vars ∧ v ∈ varsL p := fun v => by
    have q : ∀ hv : v.length ≤ maxLen, (v ∈ sh ↔ v ∈ vars ∧ v ∈ varsL p) := fun hv => by
      rw [n3 v hv, hM]
      show ((evT p t v).isSome = true ∧ (boundT vars r v).isSome = true) ↔ _
      constructor
      · rintro ⟨a, b⟩
        have hv2 : v ∈ varsL p := Classical.byContradiction fun hn => by rw [evT_none.2 hn] at a; cases a
        refine ⟨Classical.byContradiction fun hn => ?_, hv2⟩
        rw [(bound_none (varsL_mem.1 hv2).1 hr).2 hn] at b
        cases b
      · rintro ⟨a, b⟩
        constructor
        · cases he : evT p t v with
          | none => exact absurd b (evT_none.1 he)
          | some x => rfl
        · cases he : boundT vars r v with
          | none => exact absurd a ((bound_none (varsL_mem.1 b).1 hr).1 he)
          | some x => rfl
    constructor
    · intro hv; exact (q (n2 v hv)).1 hv
    · intro hv; exact (q (hp v hv.2)).2 hv
  exact ⟨⟨n1, key⟩, shared_few n1 (fun v hv => ((key v).1 hv).2) (varsL_few p)⟩
theorem wfK_chk {x : Tm} (h : tmChk x = 0) : wfK x := by
  obtain ⟨hk, hS, hsp⟩ := check_zero h
  have := spell_lang hsp
  refine ⟨?_, by unfold maxLen; omega, by unfold maxLen; omega⟩
  rcases hk with h | h | h <;> rw [h] <;> decide
theorem wfE_bound {S : List Tr} (hS : IsSet S) {vars : List (List UInt8)} {r : List Tm} (h : ∀ x ∈ r, ∃ t ∈ S, x = t.1 ∨ x = t.2.1 ∨ x = t.2.2) : WfE (boundT vars r) := fun v x hx => by
  obtain ⟨t, ht, e⟩ := h x (bound_mem hx)
  exact wfK_chk (set_term hS ht e)
theorem wfE_evT {S : List Tr} (hS : IsSet S) {p : Pt} {t : Tr} (ht : t ∈ S) : WfE (evT p t) := fun v x hx => by
  unfold evT at hx
  split at hx
  · cases hx
  · split at hx
    · exact wfK_chk (set_term hS ht (by injection hx with hx; exact Or.inr (Or.inr hx.symm)))
    · split at hx
      · exact wfK_chk (set_term hS ht (by injection hx with hx; exact Or.inr (Or.inl hx.symm)))
      · split at hx
        · exact wfK_chk (set_term hS ht (by injection hx with hx; exact Or.inl hx.symm))
        · cases hx
end Go.Proofs.YtbacenhgedopjaaGreatDoor
