import Derived.Test.YtaddfndohoppeaaGreatDoorMCRepoPlaysx0
import Derived.Test.YtaddfndohoppeaaGreatDoorMA0x1
import Derived.Laws.Cover1
import Derived.Test.YtaddfndohoppeaaGreatDoorMA0x2
import Derived.Deep.RegionHeld3
import Derived.Test.YtaddfndohoppeaaGreatDoorMA0x0

/- The document's repo: one object, one commit, one graph more. -/
namespace Go.Proofs.YtaddfndohoppeaaGreatDoor
open Go Go.RowKit Go.Proofs
set_option synthInstance.maxSize 1000

theorem infoCm : (Tryz.prog.info? 86).map (fun i => (i.zero, i.size, i.bytes)) = some (some (.agg #[.slice none 0 0, .int .i64 0, .string ⟨#[]⟩]), 3, 48) := by kernel_rfl
theorem infoGr : (Tryz.prog.info? 37).map (fun i => (i.zero, i.size, i.bytes)) = some (some (.slice none 0 0), 1, 24) := by kernel_rfl
theorem ne_ty {w : World} {j : Nat} {a b : Array Value} {s t : TypeId} (h : w.heap[j]? = some (.cells a s (0, 0))) (k : w.heap[j]? = some (.cells b t (0, 0))) : s = t := by
  rw [h] at k
  simp only [Option.some.injEq, Obj.cells.injEq] at k
  exact k.2.1
/-- two rows of unlike elements lie apart -/
theorem rows_apart {w : World} {b1 b2 : Nat} {s t : TypeId} {z1 z2 : Nat} {u v : Value} {n1 n2 : Nat} {x1 x2 : List Value} (h : w.ownsRow b1 s z1 u n1 x1) (k : w.ownsRow b2 t z2 v n2 x2) (hne : s ≠ t) {j : Nat} (hj : u.ownBlock = some j) : v.ownBlock ≠ some j := fun hk => by
  obtain ⟨a, ha⟩ := row_ty h hj
  obtain ⟨b, hb⟩ := row_ty k hk
  exact hne (ne_ty ha hb)
theorem row_base {w : World} {base base' : Nat} {e : TypeId} {sz : Nat} {v : Value} {n : Nat} {cs : List Value} (h : w.ownsRow base e sz v n cs) (hb : base' ≤ base) : w.ownsRow base' e sz v n cs := by
  refine ⟨h.1, ?_⟩
  rcases h.2 with h0 | ⟨g, cap, cur, hv, hg, r⟩
  · exact Or.inl h0
  · exact Or.inr ⟨g, cap, cur, hv, by omega, r⟩

/-- the store has changed -/
theorem RepW.put {w w' : World} {B0 m : Nat} {v v' cv gv rv : Value} {R : Rp} {P : Nat → Prop} {n' : Nat} {L' : List Ob} (h : RepW w B0 m v cv gv rv R P) (hs : RAtX 34 [cv, gv, rv] w' m v' n' L') (ho : Offs (ROwnX m v) w w') (hn : ∀ j, ROwnX m v' j → ROwnX m v j ∨ w.heap.size ≤ j) :
    RepW w' B0 m v' cv gv rv ⟨n', L', R.coms, R.gr, R.refs⟩ P ∧ Offs (RepO m v cv gv rv P) w w' ∧ ∀ j, RepO m v' cv gv rv P j → RepO m v cv gv rv P j ∨ w.heap.size ≤ j := by
  obtain ⟨cs, hc, hc2⟩ := h.com
  obtain ⟨gs, hg, hg2⟩ := h.gr
  have away : ∀ {e : TypeId} {sz : Nat} {u : Value} {n : Nat} {xs : List Value}, w.ownsRow (m + 1) e sz u n xs → e ≠ 101 → ∀ j, u.ownBlock = some j → w'.heap[j]? = w.heap[j]? := fun hr hne j hj => by
    refine ho.block j (hr.lt j hj).2 ?_
    rintro (e | e)
    · have := (hr.lt j hj).1; omega
    · exact rows_apart hr h.st.2 hne hj e
  have awayP : ∀ j, P j → w'.heap[j]? = w.heap[j]? := fun j hj => by
    obtain ⟨h1, cur, h2⟩ := h.pty j hj
    refine ho.block j (Array.getElem?_eq_some_iff.1 h2).1 ?_
    rintro (e | e)
    · omega
    · obtain ⟨c2, h3⟩ := row_ty h.st.2 e
      exact absurd (ne_ty h2 h3) (by decide)
  have awayB : ∀ j, j < B0 → w'.heap[j]? = w.heap[j]? := fun j hj => by
    have hb := h.base
    have hl := h.lt
    refine ho.block j (by omega) ?_
    rintro (e | e)
    · omega
    · have := (h.st.2.lt j e).1; omega
  refine ⟨⟨hs, ⟨cs, row_keep hc (away hc (by decide)), fun i hi => ?_⟩, ⟨gs, row_keep hg (away hg (by decide)), fun i hi => ?_⟩, row_keep h.ref (away h.ref (by decide)), h.base, fun j hj => ?_⟩, ho.mono fun j hj => Or.inl ?_, ?_⟩
  · obtain ⟨a, c, q1, q2, q3, q4, q5⟩ := hc2 i hi
    exact ⟨a, c, q1, q2, q3, q4.keep fun hl d hd => awayP _ (q5 hl d hd), q5⟩
  · obtain ⟨a, c, q1, q2, q3⟩ := hg2 i hi
    exact ⟨a, c, q1, q2.keepB fun hl d hd => awayB _ (q3 hl d hd), q3⟩
  · obtain ⟨h1, cur, h2⟩ := h.pty j hj
    exact ⟨h1, cur, (awayP j hj).trans h2⟩
  · rcases hj with hj | hj
    · exact Or.inl hj
    · exact Or.inr (Or.inl hj)
  · rintro j (hj | hj | hj | hj | hj | hj)
    · exact Or.inl (Or.inl hj)
    · rcases hn j (Or.inr hj) with (h1 | h1) | h1
      · exact Or.inl (Or.inl h1)
      · exact Or.inl (Or.inr (Or.inl h1))
      · exact Or.inr h1
    · exact Or.inl (Or.inr (Or.inr (Or.inl hj)))
    · exact Or.inl (Or.inr (Or.inr (Or.inr (Or.inl hj))))
    · exact Or.inl (Or.inr (Or.inr (Or.inr (Or.inr (Or.inl hj)))))
    · exact Or.inl (Or.inr (Or.inr (Or.inr (Or.inr (Or.inr hj)))))

/-- where the parents of one more lie -/
def morePar (P : Nat → Prop) (pd : Option Addr) (ps : List Int) (j : Nat) : Prop := P j ∨ (ps ≠ [] ∧ ∃ d, pd = some d ∧ j = d.block)
def comCells (pd : Option Addr) (pc : Nat) (ps : List Int) (y : Int) (t : List UInt8) : List Value := [.slice pd ps.length pc, .int .i64 y, .string ⟨t.toArray⟩]
/-- one more commit -/
theorem RepW.pushCom {w W W2 : World} {B0 m : Nat} {v cv gv rv cv' : Value} {R : Rp} {P : Nat → Prop} {pd : Option Addr} {pc : Nat} {ps : List Int} {y : Int} {t : List UInt8} {cs : List Value} (h : RepW w B0 m v cv gv rv R P) (hW : RowKit.Below w.heap.size w W)
    (hcs : w.ownsRow (m + 1) 86 3 cv R.coms.length cs) (hc2 : ∀ (i : Nat) (hi : i < R.coms.length), ∃ a c, cs[i * 3]? = some (.slice a R.coms[i].1.length c) ∧ cs[i * 3 + 1]? = some (.int .i64 R.coms[i].2.1) ∧ cs[i * 3 + 2]? = some (.string ⟨R.coms[i].2.2.toArray⟩) ∧ SlI w a R.coms[i].1 ∧ (R.coms[i].1 ≠ [] → ∀ d, a = some d → P d.block))
    (hr : W2.ownsRow (m + 1) 86 3 cv' (R.coms.length + 1) (cs ++ comCells pd pc ps y t)) (hg : W.grownBy W2 cv.ownBlock) (hlen : ∀ j, cv'.ownBlock = some j → cv.ownBlock = some j ∨ w.heap.size ≤ j)
    (hs : SlI w pd ps) (hp : ps ≠ [] → ∀ d, pd = some d → m < d.block ∧ ∃ cur, w.heap[d.block]? = some (.cells cur 3 (0, 0))) :
    RepW (W2.setCell ⟨m, 2, none⟩ cv') B0 m v cv' gv rv ⟨R.n, R.L, R.coms ++ [(ps, y, t)], R.gr, R.refs⟩ (morePar P pd ps) ∧ Offs (RepO m v cv gv rv P) w (W2.setCell ⟨m, 2, none⟩ cv') ∧ ∀ j, RepO m v cv' gv rv (morePar P pd ps) j → RepO m v cv gv rv (morePar P pd ps) j ∨ w.heap.size ≤ j := by
  have hlt := h.lt
  have hb := h.base
  obtain ⟨gs, hgr, hg2⟩ := h.gr
  have hkeep : ∀ j, j < w.heap.size → j ≠ m → cv.ownBlock ≠ some j → (W2.setCell ⟨m, 2, none⟩ cv').heap[j]? = w.heap[j]? := fun j h1 h2 h3 =>
    (heap_setCell_other _ _ _ _ h2).trans ((hg.block j (Nat.lt_of_lt_of_le h1 hW.size) (fun e => h3 e.symm)).trans (hW.block j h1))
  have hnm : cv.ownBlock ≠ some m := fun e => by have := (hcs.lt m e).1; omega
  have hm2 : W2.heap[m]? = some (.cells (.int .i64 (R.n : Int) :: v :: [cv, gv, rv]).toArray 34) := (hg.block m (Nat.lt_of_lt_of_le hlt hW.size) (fun e => hnm e.symm)).trans ((hW.block m hlt).trans h.st.1)
  have hm3 : (W2.setCell ⟨m, 2, none⟩ cv').heap[m]? = some (.cells (.int .i64 (R.n : Int) :: v :: [cv', gv, rv]).toArray 34) := by
    have := heap_setCell_same W2 m 2 _ _ cv' hm2
    simpa using this
  have away : ∀ {e : TypeId} {sz : Nat} {u : Value} {n : Nat} {xs : List Value}, w.ownsRow (m + 1) e sz u n xs → e ≠ 86 → ∀ j, u.ownBlock = some j → (W2.setCell ⟨m, 2, none⟩ cv').heap[j]? = w.heap[j]? := fun hrr hne j hj =>
    hkeep j (hrr.lt j hj).2 (by have := (hrr.lt j hj).1; omega) (fun e => rows_apart hrr hcs hne hj e)
  have awayP : ∀ j cur, w.heap[j]? = some (.cells cur 3 (0, 0)) → m < j → (W2.setCell ⟨m, 2, none⟩ cv').heap[j]? = w.heap[j]? := fun j cur h2 h1 =>
    hkeep j (Array.getElem?_eq_some_iff.1 h2).1 (by omega) fun e => by
      obtain ⟨c2, h3⟩ := row_ty hcs e
      exact absurd (ne_ty h2 h3) (by decide)
  have awayB : ∀ j, j < B0 → (W2.setCell ⟨m, 2, none⟩ cv').heap[j]? = w.heap[j]? := fun j hj =>
    hkeep j (by omega) (by omega) fun e => by have := (hcs.lt j e).1; omega
  have hrow : (W2.setCell ⟨m, 2, none⟩ cv').ownsRow (m + 1) 86 3 cv' (R.coms.length + 1) (cs ++ comCells pd pc ps y t) := row_keep hr fun j hj => heap_setCell_other _ _ _ _ (by have := (hr.lt j hj).1; show j ≠ m; omega)
  have hcl : cs.length = R.coms.length * 3 := hcs.1
  refine ⟨⟨⟨hm3, row_keep h.st.2 (away h.st.2 (by decide))⟩, ⟨_, by rw [List.length_append]; exact hrow, fun i hi => ?_⟩, ⟨gs, row_keep hgr (away hgr (by decide)), fun i hi => ?_⟩, row_keep h.ref (away h.ref (by decide)), hb, fun j hj => ?_⟩, ⟨hg.os.trans hW.os, hg.tape.trans hW.tape, hg.output.trans hW.output, by have := hg.size; have := hW.size; simp; omega, fun k hk hO => ?_⟩, ?_⟩
  · simp only [List.length_append, List.length_singleton] at hi
    by_cases hil : i < R.coms.length
    · obtain ⟨a, c, q1, q2, q3, q4, q5⟩ := hc2 i hil
      have e : (R.coms ++ [(ps, y, t)])[i]'(by rw [List.length_append]; omega) = R.coms[i] := List.getElem_append_left hil
      dsimp only
      rw [e, List.getElem?_append_left (by omega), List.getElem?_append_left (by omega), List.getElem?_append_left (by omega)]
      refine ⟨a, c, q1, q2, q3, q4.keep fun hl d hd => ?_, fun hl d hd => Or.inl (q5 hl d hd)⟩
      obtain ⟨h1, cur, h2⟩ := h.pty _ (q5 hl d hd)
      exact awayP _ cur h2 h1
    · obtain rfl : i = R.coms.length := by omega
      have e : (R.coms ++ [(ps, y, t)])[R.coms.length]'(by rw [List.length_append]; simp) = (ps, y, t) := by rw [List.getElem_append_right (Nat.le_refl _)]; simp
      dsimp only
      rw [e, List.getElem?_append_right (by omega), List.getElem?_append_right (by omega), List.getElem?_append_right (by omega), hcl]
      rw [show R.coms.length * 3 - R.coms.length * 3 = 0 by omega, show R.coms.length * 3 + 1 - R.coms.length * 3 = 1 by omega, show R.coms.length * 3 + 2 - R.coms.length * 3 = 2 by omega]
      refine ⟨pd, pc, rfl, rfl, rfl, hs.keep fun hl d hd => ?_, fun hl d hd => Or.inr ⟨hl, d, hd, rfl⟩⟩
      obtain ⟨h1, cur, h2⟩ := hp hl d hd
      exact awayP _ cur h2 h1
  · obtain ⟨a, c, q1, q2, q3⟩ := hg2 i hi
    exact ⟨a, c, q1, q2.keepB fun hl d hd => awayB _ (q3 hl d hd), q3⟩
  · rcases hj with hj | ⟨hl, d, hd, rfl⟩
    · obtain ⟨h1, cur, h2⟩ := h.pty j hj
      exact ⟨h1, cur, (awayP j cur h2 h1).trans h2⟩
    · obtain ⟨h1, cur, h2⟩ := hp hl d hd
      exact ⟨h1, cur, (awayP _ cur h2 h1).trans h2⟩
  · exact hkeep k hk (fun e => hO (Or.inl e)) fun e => hO (Or.inr (Or.inr (Or.inl e)))
  · rintro j (hj | hj | hj | hj | hj | hj)
    · exact Or.inl (Or.inl hj)
    · exact Or.inl (Or.inr (Or.inl hj))
    · rcases hlen j hj with h1 | h1
      · exact Or.inl (Or.inr (Or.inr (Or.inl h1)))
      · exact Or.inr h1
    · exact Or.inl (Or.inr (Or.inr (Or.inr (Or.inl hj))))
    · exact Or.inl (Or.inr (Or.inr (Or.inr (Or.inr (Or.inl hj)))))
    · exact Or.inl (Or.inr (Or.inr (Or.inr (Or.inr (Or.inr hj)))))
/-- one more graph -/
theorem RepW.pushGr {w W W2 : World} {B0 m : Nat} {v cv gv rv gv' : Value} {R : Rp} {P : Nat → Prop} {sd : Option Addr} {sc : Nat} {s : List Tr} {gs : List Value} (h : RepW w B0 m v cv gv rv R P) (hW : RowKit.Below w.heap.size w W)
    (hgs : w.ownsRow (m + 1) 37 1 gv R.gr.length gs) (hg2 : ∀ (i : Nat) (hi : i < R.gr.length), ∃ a c, gs[i]? = some (.slice a R.gr[i].length c) ∧ SlT w a R.gr[i] ∧ (R.gr[i] ≠ [] → ∀ d, a = some d → d.block < B0))
    (hr : W2.ownsRow (m + 1) 37 1 gv' (R.gr.length + 1) (gs ++ [.slice sd s.length sc])) (hg : W.grownBy W2 gv.ownBlock) (hlen : ∀ j, gv'.ownBlock = some j → gv.ownBlock = some j ∨ w.heap.size ≤ j)
    (hs : SlT w sd s) (hp : s ≠ [] → ∀ d, sd = some d → d.block < B0) :
    RepW (W2.setCell ⟨m, 3, none⟩ gv') B0 m v cv gv' rv ⟨R.n, R.L, R.coms, R.gr ++ [s], R.refs⟩ P ∧ Offs (RepO m v cv gv rv P) w (W2.setCell ⟨m, 3, none⟩ gv') ∧ ∀ j, RepO m v cv gv' rv P j → RepO m v cv gv rv P j ∨ w.heap.size ≤ j := by
  have hlt := h.lt
  have hb := h.base
  obtain ⟨cs, hcs, hc2⟩ := h.com
  have hkeep : ∀ j, j < w.heap.size → j ≠ m → gv.ownBlock ≠ some j → (W2.setCell ⟨m, 3, none⟩ gv').heap[j]? = w.heap[j]? := fun j h1 h2 h3 =>
    (heap_setCell_other _ _ _ _ h2).trans ((hg.block j (Nat.lt_of_lt_of_le h1 hW.size) (fun e => h3 e.symm)).trans (hW.block j h1))
  have hnm : gv.ownBlock ≠ some m := fun e => by have := (hgs.lt m e).1; omega
  have hm2 : W2.heap[m]? = some (.cells (.int .i64 (R.n : Int) :: v :: [cv, gv, rv]).toArray 34) := (hg.block m (Nat.lt_of_lt_of_le hlt hW.size) (fun e => hnm e.symm)).trans ((hW.block m hlt).trans h.st.1)
  have hm3 : (W2.setCell ⟨m, 3, none⟩ gv').heap[m]? = some (.cells (.int .i64 (R.n : Int) :: v :: [cv, gv', rv]).toArray 34) := by
    have := heap_setCell_same W2 m 3 _ _ gv' hm2
    simpa using this
  have away : ∀ {e : TypeId} {sz : Nat} {u : Value} {n : Nat} {xs : List Value}, w.ownsRow (m + 1) e sz u n xs → e ≠ 37 → ∀ j, u.ownBlock = some j → (W2.setCell ⟨m, 3, none⟩ gv').heap[j]? = w.heap[j]? := fun hrr hne j hj =>
    hkeep j (hrr.lt j hj).2 (by have := (hrr.lt j hj).1; omega) (fun e => rows_apart hrr hgs hne hj e)
  have awayP : ∀ j, P j → (W2.setCell ⟨m, 3, none⟩ gv').heap[j]? = w.heap[j]? := fun j hj => by
    obtain ⟨h1, cur, h2⟩ := h.pty j hj
    refine hkeep j (Array.getElem?_eq_some_iff.1 h2).1 (by omega) fun e => ?_
    obtain ⟨c2, h3⟩ := row_ty hgs e
    exact absurd (ne_ty h2 h3) (by decide)
  have awayB : ∀ j, j < B0 → (W2.setCell ⟨m, 3, none⟩ gv').heap[j]? = w.heap[j]? := fun j hj =>
    hkeep j (by omega) (by omega) fun e => by have := (hgs.lt j e).1; omega
  have hrow : (W2.setCell ⟨m, 3, none⟩ gv').ownsRow (m + 1) 37 1 gv' (R.gr.length + 1) (gs ++ [.slice sd s.length sc]) := row_keep hr fun j hj => heap_setCell_other _ _ _ _ (by have := (hr.lt j hj).1; show j ≠ m; omega)
  have hgl : gs.length = R.gr.length := by have := hgs.1; omega
  refine ⟨⟨⟨hm3, row_keep h.st.2 (away h.st.2 (by decide))⟩, ⟨cs, row_keep hcs (away hcs (by decide)), fun i hi => ?_⟩, ⟨_, by rw [List.length_append]; exact hrow, fun i hi => ?_⟩, row_keep h.ref (away h.ref (by decide)), hb, fun j hj => ?_⟩, ⟨hg.os.trans hW.os, hg.tape.trans hW.tape, hg.output.trans hW.output, by have := hg.size; have := hW.size; simp; omega, fun k hk hO => ?_⟩, ?_⟩
  · obtain ⟨a, c, q1, q2, q3, q4, q5⟩ := hc2 i hi
    exact ⟨a, c, q1, q2, q3, q4.keep fun hl d hd => awayP _ (q5 hl d hd), q5⟩
  · simp only [List.length_append, List.length_singleton] at hi
    by_cases hil : i < R.gr.length
    · obtain ⟨a, c, q1, q2, q3⟩ := hg2 i hil
      have e : (R.gr ++ [s])[i]'(by rw [List.length_append]; omega) = R.gr[i] := List.getElem_append_left hil
      dsimp only
      rw [e, List.getElem?_append_left (by omega)]
      exact ⟨a, c, q1, q2.keepB fun hl d hd => awayB _ (q3 hl d hd), q3⟩
    · obtain rfl : i = R.gr.length := by omega
      have e : (R.gr ++ [s])[R.gr.length]'(by rw [List.length_append]; simp) = s := by rw [List.getElem_append_right (Nat.le_refl _)]; simp
      dsimp only
      rw [e, List.getElem?_append_right (by omega), hgl, Nat.sub_self]
      exact ⟨sd, sc, rfl, hs.keepB fun hl d hd => awayB _ (hp hl d hd), hp⟩
  · obtain ⟨h1, cur, h2⟩ := h.pty j hj
    exact ⟨h1, cur, (awayP j hj).trans h2⟩
  · exact hkeep k hk (fun e => hO (Or.inl e)) fun e => hO (Or.inr (Or.inr (Or.inr (Or.inl e))))
  · rintro j (hj | hj | hj | hj | hj | hj)
    · exact Or.inl (Or.inl hj)
    · exact Or.inl (Or.inr (Or.inl hj))
    · exact Or.inl (Or.inr (Or.inr (Or.inl hj)))
    · rcases hlen j hj with h1 | h1
      · exact Or.inl (Or.inr (Or.inr (Or.inr (Or.inl h1))))
      · exact Or.inr h1
    · exact Or.inl (Or.inr (Or.inr (Or.inr (Or.inr (Or.inl hj)))))
    · exact Or.inl (Or.inr (Or.inr (Or.inr (Or.inr (Or.inr hj)))))
end Go.Proofs.YtaddfndohoppeaaGreatDoor

/- The document's answer (package strataref1): right at a name and at an anonymous one; Term. -/
namespace Go.Proofs.YtaddfndohoppeaaGreatDoor
open Go Go.RowKit Go.Proofs

theorem anonOk_eq (L : List UInt8) (h : ¬ L = []) : anonOk L = allB anonB L := by cases L <;> simp_all [anonOk]
theorem nameOk_eq (L : List UInt8) (h : 0 < L.length) : nameOk L = (letB (L[0].toNat : Int) && allB nameB L) := by
  cases L with
  | nil => simp at h
  | cons => rfl

set_option maxHeartbeats 1000000 in
theorem right_anon (L : List UInt8) (w : World) (hl : L.length ≤ maxLen) :
    Calls Tryz.prog 100 #[.int .i64 2, .string ⟨L.toArray⟩] w fun e w' => e = .returned (.bool (anonOk L)) ∧ w' = w := by
  unfold maxLen at hl
  by_cases hne : L = []
  · subst hne
    go_enter Tryz.func100, Tryz.ntmps100
    go_wp2
    go_ret
    exact ⟨rfl, rfl⟩
  · have fin : Hid (anonOk L = allB anonB L) := anonOk_eq L hne
    have hne' : L.isEmpty = false := by simpa using hne
    go_enter Tryz.func100, Tryz.ntmps100
    go_wp2
    go_loop [5] (fun i => ∃ k : Nat, k ≤ L.length ∧ i = .int .i64 k ∧ Hid (allB anonB (L.take k) = true)) (fun i => L.length - (intOf i).toNat)
    case atStart => exact ⟨0, Nat.zero_le _, rfl, rfl⟩
    case round =>
      obtain ⟨k, hk, rfl, hall⟩ := hrel
      by_cases hlt : k < L.length
      · have hidx : ∀ h, (⟨L.toArray⟩ : ByteArray)[k]'h = L[k] := fun _ => rfl
        have ht : Hid (anonB (L[k].toNat : Int) = (letB (L[k].toNat : Int) || digB (L[k].toNat : Int))) := rfl
        cases ha : letB (L[k].toNat : Int)
        · cases hd : digB (L[k].toNat : Int)
          · go_wp2_with (first
              | (go_at_call 48; refine (letter_any _ _).mono ?_; rintro e w' ⟨rfl, rfl⟩)
              | (go_at_call 135; refine (digit_any _ _).mono ?_; rintro e w' ⟨rfl, rfl⟩))
            go_ret
            exact ⟨ret_bool (by rw [fin.out, allL_false anonB L k hlt (by rw [ht.out, ha, hd]; rfl)]), rfl⟩
          · go_wp2_with (first
              | (go_at_call 48; refine (letter_any _ _).mono ?_; rintro e w' ⟨rfl, rfl⟩)
              | (go_at_call 135; refine (digit_any _ _).mono ?_; rintro e w' ⟨rfl, rfl⟩))
            refine ⟨⟨k + 1, by omega, by go_num, ?_⟩, by simp [intOf]; omega⟩
            show _ = _
            rw [allL_take anonB L k hlt, hall.out, ht.out, ha, hd]; rfl
        · go_wp2_with (first
            | (go_at_call 48; refine (letter_any _ _).mono ?_; rintro e w' ⟨rfl, rfl⟩)
            | (go_at_call 135; refine (digit_any _ _).mono ?_; rintro e w' ⟨rfl, rfl⟩))
          refine ⟨⟨k + 1, by omega, by go_num, ?_⟩, by simp [intOf]; omega⟩
          show _ = _
          rw [allL_take anonB L k hlt, hall.out, ht.out, ha]; rfl
      · go_wp2
        go_ret
        have e := hall.out
        rw [List.take_of_length_le (by omega)] at e
        exact ⟨ret_bool (by rw [fin.out, e]), rfl⟩

set_option maxHeartbeats 2000000 in
theorem right_name (L : List UInt8) (w : World) (hl : L.length ≤ maxLen) :
    Calls Tryz.prog 100 #[.int .i64 1, .string ⟨L.toArray⟩] w fun e w' => e = .returned (.bool (nameOk L)) ∧ w' = w := by
  unfold maxLen at hl
  by_cases hne : L = []
  · subst hne
    go_enter Tryz.func100, Tryz.ntmps100
    go_wp2
    go_ret
    exact ⟨rfl, rfl⟩
  · have hpos : 0 < L.length := List.length_pos_iff.2 hne
    have fin : Hid (nameOk L = (letB (L[0].toNat : Int) && allB nameB L)) := nameOk_eq L hpos
    have hne' : L.isEmpty = false := by simpa using hne
    go_enter Tryz.func100, Tryz.ntmps100
    go_wp2
    go_loop [5] (fun i => ∃ k : Nat, k ≤ L.length ∧ i = .int .i64 k ∧ Hid (allB nameB (L.take k) = true ∧ (0 < k → letB (L[0].toNat : Int) = true))) (fun i => L.length - (intOf i).toNat)
    case atStart => exact ⟨0, Nat.zero_le _, rfl, rfl, by omega⟩
    case round =>
      obtain ⟨k, hk, rfl, hall⟩ := hrel
      by_cases hlt : k < L.length
      · have hidx : ∀ h, (⟨L.toArray⟩ : ByteArray)[k]'h = L[k] := fun _ => rfl
        have ht : Hid (nameB (L[k].toNat : Int) = (letB (L[k].toNat : Int) || digB (L[k].toNat : Int) || decide ((L[k].toNat : Int) = 58 ∨ (L[k].toNat : Int) = 47 ∨ (L[k].toNat : Int) = 46))) := rfl
        cases ha : letB (L[k].toNat : Int)
        · by_cases h0 : k = 0
          · subst h0
            have hi : (((0 : Nat) : Int) == 0) = true := rfl
            go_wp2_with (first
              | (go_at_call 48; refine (letter_any _ _).mono ?_; rintro e w' ⟨rfl, rfl⟩)
              | (go_at_call 135; refine (digit_any _ _).mono ?_; rintro e w' ⟨rfl, rfl⟩))
            go_ret
            exact ⟨ret_bool (by rw [fin.out, ha]; rfl), rfl⟩
          · have hi : ((k : Int) == 0) = false := by rw [beq_eq_false_iff_ne]; omega
            have h0' : Hid (letB (L[0].toNat : Int) = true) := hall.out.2 (by omega)
            clear h0
            cases hd : digB (L[k].toNat : Int)
            · cases h58 : ((L[k].toNat : Int) != 58)
              · go_wp2_with (first
                  | (go_at_call 48; refine (letter_any _ _).mono ?_; rintro e w' ⟨rfl, rfl⟩)
                  | (go_at_call 135; refine (digit_any _ _).mono ?_; rintro e w' ⟨rfl, rfl⟩))
                refine ⟨⟨k + 1, by omega, by go_num, ?_, fun _ => h0'.out⟩, by simp [intOf]; omega⟩
                simp at h58
                rw [allL_take nameB L k hlt, hall.out.1, ht.out]; simp [h58]
              · cases h47 : ((L[k].toNat : Int) != 47)
                · go_wp2_with (first
                    | (go_at_call 48; refine (letter_any _ _).mono ?_; rintro e w' ⟨rfl, rfl⟩)
                    | (go_at_call 135; refine (digit_any _ _).mono ?_; rintro e w' ⟨rfl, rfl⟩))
                  refine ⟨⟨k + 1, by omega, by go_num, ?_, fun _ => h0'.out⟩, by simp [intOf]; omega⟩
                  simp at h47
                  rw [allL_take nameB L k hlt, hall.out.1, ht.out]; simp [h47]
                · cases h46 : ((L[k].toNat : Int) != 46)
                  · go_wp2_with (first
                      | (go_at_call 48; refine (letter_any _ _).mono ?_; rintro e w' ⟨rfl, rfl⟩)
                      | (go_at_call 135; refine (digit_any _ _).mono ?_; rintro e w' ⟨rfl, rfl⟩))
                    refine ⟨⟨k + 1, by omega, by go_num, ?_, fun _ => h0'.out⟩, by simp [intOf]; omega⟩
                    simp at h46
                    rw [allL_take nameB L k hlt, hall.out.1, ht.out]; simp [h46]
                  · go_wp2_with (first
                      | (go_at_call 48; refine (letter_any _ _).mono ?_; rintro e w' ⟨rfl, rfl⟩)
                      | (go_at_call 135; refine (digit_any _ _).mono ?_; rintro e w' ⟨rfl, rfl⟩))
                    go_ret
                    simp at h58 h47 h46
                    exact ⟨ret_bool (by rw [fin.out, allL_false nameB L k hlt (by rw [ht.out, ha, hd]; simp [h58, h47, h46])]; simp), rfl⟩
            · go_wp2_with (first
                | (go_at_call 48; refine (letter_any _ _).mono ?_; rintro e w' ⟨rfl, rfl⟩)
                | (go_at_call 135; refine (digit_any _ _).mono ?_; rintro e w' ⟨rfl, rfl⟩))
              refine ⟨⟨k + 1, by omega, by go_num, ?_, fun _ => h0'.out⟩, by simp [intOf]; omega⟩
              rw [allL_take nameB L k hlt, hall.out.1, ht.out, ha, hd]; rfl
        · go_wp2_with (first
            | (go_at_call 48; refine (letter_any _ _).mono ?_; rintro e w' ⟨rfl, rfl⟩)
            | (go_at_call 135; refine (digit_any _ _).mono ?_; rintro e w' ⟨rfl, rfl⟩))
          refine ⟨⟨k + 1, by omega, by go_num, ?_, fun _ => ?_⟩, by simp [intOf]; omega⟩
          · rw [allL_take nameB L k hlt, hall.out.1, ht.out, ha]; rfl
          · by_cases h0 : k = 0
            · subst h0; exact ha
            · exact hall.out.2 (by omega)
      · go_wp2
        go_ret
        have e := hall.out.1
        rw [List.take_of_length_le (by omega)] at e
        exact ⟨ret_bool (by rw [fin.out, e, hall.out.2 (by omega)]; rfl), rfl⟩
end Go.Proofs.YtaddfndohoppeaaGreatDoor

/- The document's answer (package strataref1): Term, Compare, Show. -/
namespace Go.Proofs.YtaddfndohoppeaaGreatDoor
open Go Go.RowKit Go.Proofs

theorem ret_i64 {a b : Int} (h : a = b) : Ending.returned (.int .i64 a) = .returned (.int .i64 b) := by rw [h]

theorem RTerm_range (k : Int) (S L : List UInt8) (w : World) (h : k < 1 ∨ 3 < k) :
    Calls Tryz.prog 69 #[.agg #[.int .i64 k, .string ⟨S.toArray⟩, .string ⟨L.toArray⟩]] w fun e w' => e = .returned (.int .i64 (checkN k S L)) ∧ Below w.heap.size w w' := by
  have fin : Hid (checkN k S L = 1) := by
    have : kindB k = false := by simp [kindB]; omega
    simp [Hid, checkN, this]
  rcases h with h | h
  · go_enter Tryz.func69, Tryz.ntmps69
    go_wp2
    go_ret
    exact ⟨ret_i64 fin.out.symm, balloc _ _⟩
  · have h' : ¬ k < 1 := by omega
    go_enter Tryz.func69, Tryz.ntmps69
    go_wp2
    go_ret
    exact ⟨ret_i64 fin.out.symm, balloc _ _⟩

theorem RTerm_full (k : Int) (S L : List UInt8) (w : World) (h : 1 ≤ k) (h3 : k ≤ 3) (hs : S.length ≤ maxLen) (hlo : 24 < S.length) :
    Calls Tryz.prog 69 #[.agg #[.int .i64 k, .string ⟨S.toArray⟩, .string ⟨L.toArray⟩]] w fun e w' => e = .returned (.int .i64 (checkN k S L)) ∧ Below w.heap.size w w' := by
  have fin : Hid (checkN k S L = 4) := by
    have h1 : kindB k = true := by simp [kindB]; omega
    have h2 : longB S = true := by simp [longB]; omega
    simp [Hid, checkN, h1, h2]
  unfold maxLen at hs
  go_enter Tryz.func69, Tryz.ntmps69
  go_wp2
  go_ret
  exact ⟨ret_i64 fin.out.symm, balloc _ _⟩

theorem letters_lang (L : List UInt8) (h : L.length = 2) : lettersB L = langOk L := by
  cases L with
  | nil => simp at h
  | cons c r => simp [lettersB, langOk, h]

set_option maxHeartbeats 1000000 in
theorem RTerm_name (S L : List UInt8) (w : World) (hs : S.length ≤ 24) (hl : L.length ≤ maxLen) :
    Calls Tryz.prog 69 #[.agg #[.int .i64 1, .string ⟨S.toArray⟩, .string ⟨L.toArray⟩]] w fun e w' => e = .returned (.int .i64 (checkN 1 S L)) ∧ Below w.heap.size w w' := by
  have fin : Hid (checkN 1 S L = if (L.isEmpty && nameOk S) = false then 2 else 0) := by
    have h2 : longB S = false := by simp [longB]; omega
    show (if kindB 1 = false then (1 : Int) else if longB S = true then 4 else if spellB 1 S L = false then 2 else 0) = _
    rw [h2]; rfl
  have hs' : S.length ≤ maxLen := by unfold maxLen; omega
  cases hr : nameOk S
  · go_enter Tryz.func69, Tryz.ntmps69
    go_wp2_with (go_at_call 100; refine (right_name S _ hs').mono ?_; rintro e w1 ⟨rfl, rfl⟩)
    go_ret
    exact ⟨ret_i64 (by rw [fin.out, hr]; simp), balloc _ _⟩
  · cases L with
    | nil =>
      go_enter Tryz.func69, Tryz.ntmps69
      go_wp2_with (go_at_call 100; refine (right_name S _ hs').mono ?_; rintro e w1 ⟨rfl, rfl⟩)
      go_ret
      exact ⟨ret_i64 (by rw [fin.out, hr]; simp), balloc _ _⟩
    | cons c r =>
      go_enter Tryz.func69, Tryz.ntmps69
      go_wp2_with (first
        | (go_at_call 100; refine (right_name S _ hs').mono ?_; rintro e w1 ⟨rfl, rfl⟩)
        | (go_at_call 27; refine (Letters_any (c :: r) _ hl).mono ?_; rintro e w1 ⟨rfl, rfl⟩))
      go_ret
      exact ⟨ret_i64 (by rw [fin.out]; simp), balloc _ _⟩

set_option maxHeartbeats 1000000 in
theorem RTerm_anon (S L : List UInt8) (w : World) (hs : S.length ≤ 24) (hl : L.length ≤ maxLen) :
    Calls Tryz.prog 69 #[.agg #[.int .i64 2, .string ⟨S.toArray⟩, .string ⟨L.toArray⟩]] w fun e w' => e = .returned (.int .i64 (checkN 2 S L)) ∧ Below w.heap.size w w' := by
  have fin : Hid (checkN 2 S L = if (L.isEmpty && anonOk S) = false then 2 else 0) := by
    have h2 : longB S = false := by simp [longB]; omega
    show (if kindB 2 = false then (1 : Int) else if longB S = true then 4 else if spellB 2 S L = false then 2 else 0) = _
    rw [h2]; rfl
  have hs' : S.length ≤ maxLen := by unfold maxLen; omega
  cases hr : anonOk S
  · go_enter Tryz.func69, Tryz.ntmps69
    go_wp2_with (go_at_call 100; refine (right_anon S _ hs').mono ?_; rintro e w1 ⟨rfl, rfl⟩)
    go_ret
    exact ⟨ret_i64 (by rw [fin.out, hr]; simp), balloc _ _⟩
  · cases L with
    | nil =>
      go_enter Tryz.func69, Tryz.ntmps69
      go_wp2_with (go_at_call 100; refine (right_anon S _ hs').mono ?_; rintro e w1 ⟨rfl, rfl⟩)
      go_ret
      exact ⟨ret_i64 (by rw [fin.out, hr]; simp), balloc _ _⟩
    | cons c r =>
      go_enter Tryz.func69, Tryz.ntmps69
      go_wp2_with (first
        | (go_at_call 100; refine (right_anon S _ hs').mono ?_; rintro e w1 ⟨rfl, rfl⟩)
        | (go_at_call 27; refine (Letters_any (c :: r) _ hl).mono ?_; rintro e w1 ⟨rfl, rfl⟩))
      go_ret
      exact ⟨ret_i64 (by rw [fin.out]; simp), balloc _ _⟩

set_option maxHeartbeats 1000000 in
theorem RTerm_text (S L : List UInt8) (w : World) (hs : S.length ≤ 24) (hl : L.length ≤ maxLen) :
    Calls Tryz.prog 69 #[.agg #[.int .i64 3, .string ⟨S.toArray⟩, .string ⟨L.toArray⟩]] w fun e w' => e = .returned (.int .i64 (checkN 3 S L)) ∧ Below w.heap.size w w' := by
  have fin : Hid (checkN 3 S L = if ((L.isEmpty || langOk L) && textOk S) = false then 2 else 0) := by
    have h2 : longB S = false := by simp [longB]; omega
    show (if kindB 3 = false then (1 : Int) else if longB S = true then 4 else if spellB 3 S L = false then 2 else 0) = _
    rw [h2]; rfl
  have hs' : S.length ≤ maxLen := by unfold maxLen; omega
  cases hr : textOk S
  · go_enter Tryz.func69, Tryz.ntmps69
    go_wp2_with (go_at_call 100; refine (right_text S _ hs').mono ?_; rintro e w1 ⟨rfl, rfl⟩)
    go_ret
    exact ⟨ret_i64 (by rw [fin.out, hr]; simp), balloc _ _⟩
  · by_cases hne : L = []
    · subst hne
      go_enter Tryz.func69, Tryz.ntmps69
      go_wp2_with (go_at_call 100; refine (right_text S _ hs').mono ?_; rintro e w1 ⟨rfl, rfl⟩)
      go_ret
      exact ⟨ret_i64 (by rw [fin.out, hr]; simp), balloc _ _⟩
    · have hne' : L.isEmpty = false := by simpa using hne
      by_cases h2 : L.length = 2
      · have hb : ((L.length : Int) != 2) = false := by simp; omega
        have hll : Hid (lettersB L = langOk L) := letters_lang L h2
        clear h2
        cases hk : lettersB L
        all_goals
          go_enter Tryz.func69, Tryz.ntmps69
          go_wp2_with (first
            | (go_at_call 100; refine (right_text S _ hs').mono ?_; rintro e w1 ⟨rfl, rfl⟩)
            | (go_at_call 27; refine (Letters_any L _ hl).mono ?_; rintro e w1 ⟨rfl, rfl⟩))
          go_ret
          exact ⟨ret_i64 (by rw [fin.out, ← hll.out, hk, hr, hne']; simp), balloc _ _⟩
      · have hb : ((L.length : Int) != 2) = true := by simp; omega
        have hk : Hid (langOk L = false) := by simp [Hid, langOk, h2]
        clear h2
        unfold maxLen at hl
        go_enter Tryz.func69, Tryz.ntmps69
        go_wp2_with (first
          | (go_at_call 100; refine (right_text S _ hs').mono ?_; rintro e w1 ⟨rfl, rfl⟩)
          | (go_at_call 27; refine (Letters_any L _ hl).mono ?_; rintro e w1 ⟨rfl, rfl⟩))
        go_ret
        exact ⟨ret_i64 (by rw [fin.out, hk.out, hne']; simp), balloc _ _⟩

theorem RTerm_any (k : Int) (S L : List UInt8) (w : World) (hs : S.length ≤ maxLen) (hl : L.length ≤ maxLen) :
    Calls Tryz.prog 69 #[.agg #[.int .i64 k, .string ⟨S.toArray⟩, .string ⟨L.toArray⟩]] w fun e w' => e = .returned (.int .i64 (checkN k S L)) ∧ Below w.heap.size w w' := by
  by_cases h : k < 1 ∨ 3 < k
  · exact RTerm_range k S L w h
  · by_cases hlo : 24 < S.length
    · exact RTerm_full k S L w (by omega) (by omega) hs hlo
    · rcases (by omega : k = 1 ∨ k = 2 ∨ k = 3) with rfl | rfl | rfl
      · exact RTerm_name S L w (by omega) hl
      · exact RTerm_anon S L w (by omega) hl
      · exact RTerm_text S L w (by omega) hl

theorem RCompare_kind (k : Int) (S L : List UInt8) (k' : Int) (S' L' : List UInt8) (w : World) (h : k ≠ k') :
    Calls Tryz.prog 71 #[.agg #[.int .i64 k, .string ⟨S.toArray⟩, .string ⟨L.toArray⟩], .agg #[.int .i64 k', .string ⟨S'.toArray⟩, .string ⟨L'.toArray⟩]] w fun e w' => e = .returned (.int .i64 (cmpT k S L k' S' L')) ∧ Below w.heap.size w w' := by
  have fin : Hid (cmpT k S L k' S' L' = Lib.compareInt k k') := by
    have : Lib.compareInt k k' ≠ 0 := fun e => h ((ci_zero _ _).1 e)
    simp [Hid, cmpT, orI, this]
  have hb : (k != k') = true := by simpa using h
  by_cases hlt : k < k'
  · go_enter Tryz.func71, Tryz.ntmps71
    go_wp2
    go_ret
    exact ⟨ret_i64 (by rw [fin.out]; simp [Lib.compareInt, hlt]), bstep (balloc _ _) (balloc _ _)⟩
  · have hgt : k' < k := by omega
    go_enter Tryz.func71, Tryz.ntmps71
    go_wp2
    go_ret
    exact ⟨ret_i64 (by rw [fin.out]; simp [Lib.compareInt, hlt, hgt]), bstep (balloc _ _) (balloc _ _)⟩

theorem less_cb (a : List UInt8) : ∀ b, Op.bytesLess a b = decide (Lib.compareBytes a b < 0) := by
  induction a with
  | nil => intro b; cases b <;> simp [Op.bytesLess, Lib.compareBytes]
  | cons x xs ih =>
    intro b
    cases b with
    | nil => simp [Op.bytesLess, Lib.compareBytes]
    | cons y ys =>
      by_cases h1 : x < y
      · simp [Op.bytesLess, Lib.compareBytes, h1]
      · by_cases h2 : y < x
        · have hne : (x == y) = false := by
            rw [beq_eq_false_iff_ne]; rintro rfl; exact absurd h2 (by simp)
          simp [Op.bytesLess, Lib.compareBytes, h1, h2, hne]
        · have : x = y := UInt8.le_antisymm (UInt8.not_lt.1 h2) (UInt8.not_lt.1 h1)
          subst this
          simp [Op.bytesLess, Lib.compareBytes, ih]

theorem cbr (a : List UInt8) : ∀ b, -1 ≤ Lib.compareBytes a b ∧ Lib.compareBytes a b ≤ 1 := by
  induction a with
  | nil => intro b; cases b <;> simp [Lib.compareBytes]
  | cons x xs ih =>
    intro b
    cases b with
    | nil => simp [Lib.compareBytes]
    | cons y ys =>
      by_cases h1 : x < y
      · simp [Lib.compareBytes, h1]
      · by_cases h2 : y < x
        · simp [Lib.compareBytes, h1, h2]
        · simp only [Lib.compareBytes, h1, h2, if_false]; exact ih ys

theorem cb_val (a b : List UInt8) : Lib.compareBytes a b = if Op.bytesLess a b = true then -1 else if a = b then 0 else 1 := by
  have h1 := less_cb a b
  have h2 := cb_zero a b
  have h3 := cbr a b
  by_cases h : Lib.compareBytes a b < 0
  · rw [h1]; simp only [h, decide_true, if_true]; omega
  · rw [h1]
    simp only [h, decide_false, Bool.false_eq_true, if_false]
    by_cases e : a = b
    · rw [if_pos e]; exact h2.2 e
    · rw [if_neg e]
      have : Lib.compareBytes a b ≠ 0 := fun q => e (h2.1 q)
      omega

theorem cmpT_same (k : Int) (S L S' L' : List UInt8) : cmpT k S L k S' L' = if S = S' then Lib.compareBytes L L' else Lib.compareBytes S S' := by
  have h1 : Lib.compareInt k k = 0 := (ci_zero k k).2 rfl
  have h2 := cb_zero S S'
  unfold cmpT orI
  rw [h1, if_pos rfl]
  by_cases e : S = S'
  · rw [if_pos (h2.2 e), if_pos e]
  · rw [if_neg (fun q => e (h2.1 q)), if_neg e]

theorem RCompare_rest (k : Int) (S L : List UInt8) (S' L' : List UInt8) (w : World) :
    Calls Tryz.prog 71 #[.agg #[.int .i64 k, .string ⟨S.toArray⟩, .string ⟨L.toArray⟩], .agg #[.int .i64 k, .string ⟨S'.toArray⟩, .string ⟨L'.toArray⟩]] w fun e w' => e = .returned (.int .i64 (cmpT k S L k S' L')) ∧ Below w.heap.size w w' := by
  have fin : Hid (cmpT k S L k S' L' = if S = S' then Lib.compareBytes L L' else Lib.compareBytes S S') := cmpT_same k S L S' L'
  by_cases hS : S = S'
  · subst hS
    cases hl : Op.bytesLess L L'
    · by_cases hL : L = L'
      · have hb : (L == L') = true := by simpa using hL
        have v : Hid (Lib.compareBytes L L' = 0) := (cb_zero L L').2 hL
        clear hL
        go_enter Tryz.func71, Tryz.ntmps71
        go_wp2
        go_ret
        exact ⟨ret_i64 (by rw [fin.out, v.out]; rfl), bstep (balloc _ _) (balloc _ _)⟩
      · have hb : (L == L') = false := by simpa using hL
        have v : Hid (Lib.compareBytes L L' = 1) := by show _ = _; rw [cb_val, hl]; simp [hL]
        clear hL
        go_enter Tryz.func71, Tryz.ntmps71
        go_wp2
        go_ret
        exact ⟨ret_i64 (by rw [fin.out, v.out]; rfl), bstep (balloc _ _) (balloc _ _)⟩
    · have v : Hid (Lib.compareBytes L L' = -1) := by show _ = _; rw [cb_val, hl]; simp
      go_enter Tryz.func71, Tryz.ntmps71
      go_wp2
      go_ret
      exact ⟨ret_i64 (by rw [fin.out, v.out]; rfl), bstep (balloc _ _) (balloc _ _)⟩
  · have hb : (S == S') = false := by simpa using hS
    have fin2 : Hid (cmpT k S L k S' L' = Lib.compareBytes S S') := fin.out.trans (if_neg hS)
    have v := cb_val S S'
    rw [if_neg hS] at v
    have V : Hid (Lib.compareBytes S S' = if Op.bytesLess S S' = true then -1 else 1) := v
    clear hS v
    cases hl : Op.bytesLess S S'
    all_goals
      go_enter Tryz.func71, Tryz.ntmps71
      go_wp2
      go_ret
      exact ⟨ret_i64 (by rw [fin2.out, V.out, hl]; rfl), bstep (balloc _ _) (balloc _ _)⟩

theorem RCompare_any (k : Int) (S L : List UInt8) (k' : Int) (S' L' : List UInt8) (w : World) :
    Calls Tryz.prog 71 #[.agg #[.int .i64 k, .string ⟨S.toArray⟩, .string ⟨L.toArray⟩], .agg #[.int .i64 k', .string ⟨S'.toArray⟩, .string ⟨L'.toArray⟩]] w fun e w' => e = .returned (.int .i64 (cmpT k S L k' S' L')) ∧ Below w.heap.size w w' := by
  by_cases h : k = k'
  · subst h; exact RCompare_rest k S L S' L' w
  · exact RCompare_kind k S L k' S' L' w h
end Go.Proofs.YtaddfndohoppeaaGreatDoor

/- The document's answer (package strataref1): shape, Triple, Order, Set. -/
namespace Go.Proofs.YtaddfndohoppeaaGreatDoor
open Go Go.RowKit Go.Proofs
set_option synthInstance.maxSize 1000

set_option maxHeartbeats 1000000 in
theorem RShape_any (x : Tr) (w : World) : Calls Tryz.prog 70 #[valTr x] w fun e w' => e = .returned (.bool (!shapeB x.1.1 x.2.1.1)) ∧ RowKit.Below w.heap.size w w' := by
  have fin2 : Hid (shapeB x.1.1 x.2.1.1 = ((x.1.1 == 3) || !(x.2.1.1 == 1))) := rfl
  unfold valTr
  cases h3 : (x.1.1 == 3)
  · cases h1 : (x.2.1.1 == 1)
    all_goals
      have h3' : (x.1.1 != 3) = true := by simp [bne, h3]
      go_enter Tryz.func70, Tryz.ntmps70
      go_wp2_with fail
      go_ret
      exact ⟨ret_bool (by rw [fin2.out, h3]; simp [h1]), balloc _ _⟩
  · have h3' : (x.1.1 != 3) = false := by simp [bne, h3]
    go_enter Tryz.func70, Tryz.ntmps70
    go_wp2_with fail
    go_ret
    exact ⟨ret_bool (by rw [fin2.out, h3]; rfl), balloc _ _⟩

set_option maxHeartbeats 4000000 in
set_option maxRecDepth 100000 in
theorem RTriple_any (x : Tr) (w : World) (hx : fitTr x) : Calls Tryz.prog 49 #[valTr x] w fun e w' => e = .returned (.int .i64 (chkTr x)) ∧ RowKit.Below w.heap.size w w' := by
  have H1 := fun W => RTerm_any x.1.1 x.1.2.1 x.1.2.2 W hx.1.1 hx.1.2
  have H2 := fun W => RTerm_any x.2.1.1 x.2.1.2.1 x.2.1.2.2 W hx.2.1.1 hx.2.1.2
  have H3 := fun W => RTerm_any x.2.2.1 x.2.2.2.1 x.2.2.2.2 W hx.2.2.1 hx.2.2.2
  have HS := fun W => RShape_any x W
  have fin : Hid (chkTr x = if checkN x.1.1 x.1.2.1 x.1.2.2 = 0 then (if checkN x.2.1.1 x.2.1.2.1 x.2.1.2.2 = 0 then (if checkN x.2.2.1 x.2.2.2.1 x.2.2.2.2 = 0 then (if shapeB x.1.1 x.2.1.1 = true then 3 else 0) else checkN x.2.2.1 x.2.2.2.1 x.2.2.2.2) else checkN x.2.1.1 x.2.1.2.1 x.2.1.2.2) else checkN x.1.1 x.1.2.1 x.1.2.2) := rfl
  generalize chkTr x = N at *
  generalize checkN x.1.1 x.1.2.1 x.1.2.2 = c1 at *
  generalize checkN x.2.1.1 x.2.1.2.1 x.2.1.2.2 = c2 at *
  generalize checkN x.2.2.1 x.2.2.2.1 x.2.2.2.2 = c3 at *
  generalize shapeB x.1.1 x.2.1.1 = sh at *
  clear hx
  unfold valTr at HS ⊢
  cases h1 : (c1 == 0)
  · have fin1 : Hid (N = c1) := by have h : ¬ c1 = 0 := by simpa using h1
                                   rw [fin.out, if_neg h]; rfl
    go_enter Tryz.func49, Tryz.ntmps49
    go_wp2_with fail
    refine (H1 _).mono ?_
    rintro e w1 ⟨rfl, hb1⟩
    obtain ⟨a0, a1, a2, b0, b1, b2, d0, d1, d2, hzz⟩ := ninebox hb1
    go_wp2_with fail
    refine (HS _).mono ?_
    rintro e w2 ⟨rfl, hb2⟩
    go_wp2_with fail
    go_ret
    exact ⟨ret_i64 fin1.out.symm, bstep (bstep (balloc _ _) hb1) hb2⟩
  · have e1 : c1 = 0 := by simpa using h1
    cases h2 : (c2 == 0)
    · have fin1 : Hid (N = c2) := by have h : ¬ c2 = 0 := by simpa using h2
                                     rw [fin.out, if_pos e1, if_neg h]; rfl
      clear e1
      go_enter Tryz.func49, Tryz.ntmps49
      go_wp2_with fail
      refine (H1 _).mono ?_
      rintro e w1 ⟨rfl, hb1⟩
      obtain ⟨a0, a1, a2, b0, b1, b2, d0, d1, d2, hzz⟩ := ninebox hb1
      go_wp2_with fail
      refine (H2 _).mono ?_
      rintro e w2 ⟨rfl, hb2⟩
      have hB := bstep hb1 hb2
      clear a0 a1 a2 b0 b1 b2 d0 d1 d2 hzz
      obtain ⟨a0, a1, a2, b0, b1, b2, d0, d1, d2, hzz⟩ := ninebox hB
      go_wp2_with fail
      refine (HS _).mono ?_
      rintro e w3 ⟨rfl, hb3⟩
      go_wp2_with fail
      go_ret
      exact ⟨ret_i64 fin1.out.symm, bstep (bstep (balloc _ _) hB) hb3⟩
    · have e2 : c2 = 0 := by simpa using h2
      have fin3 : Hid (N = if c3 = 0 then (if sh = true then 3 else 0) else c3) := by rw [fin.out, if_pos e1, if_pos e2]; rfl
      clear fin e1 e2
      cases h3 : (c3 == 0)
      · have fin1 : Hid (N = c3) := by have h : ¬ c3 = 0 := by simpa using h3
                                       rw [fin3.out, if_neg h]; rfl
        go_enter Tryz.func49, Tryz.ntmps49
        go_wp2_with fail
        refine (H1 _).mono ?_
        rintro e w1 ⟨rfl, hb1⟩
        obtain ⟨a0, a1, a2, b0, b1, b2, d0, d1, d2, hzz⟩ := ninebox hb1
        go_wp2_with fail
        refine (H2 _).mono ?_
        rintro e w2 ⟨rfl, hb2⟩
        have hB := bstep hb1 hb2
        clear a0 a1 a2 b0 b1 b2 d0 d1 d2 hzz
        obtain ⟨a0, a1, a2, b0, b1, b2, d0, d1, d2, hzz⟩ := ninebox hB
        go_wp2_with fail
        refine (H3 _).mono ?_
        rintro e w3 ⟨rfl, hb3⟩
        have hB3 := bstep hB hb3
        clear a0 a1 a2 b0 b1 b2 d0 d1 d2 hzz
        obtain ⟨a0, a1, a2, b0, b1, b2, d0, d1, d2, hzz⟩ := ninebox hB3
        go_wp2_with fail
        refine (HS _).mono ?_
        rintro e w4 ⟨rfl, hb4⟩
        go_wp2_with fail
        go_ret
        exact ⟨ret_i64 fin1.out.symm, bstep (bstep (balloc _ _) hB3) hb4⟩
      · have fin1 : Hid (N = if sh = true then 3 else 0) := by have h : c3 = 0 := by simpa using h3
                                                               rw [fin3.out, if_pos h]; rfl
        have e3 : c3 = 0 := by simpa using h3
        subst e3
        cases sh
        all_goals
          go_enter Tryz.func49, Tryz.ntmps49
          go_wp2_with fail
          refine (H1 _).mono ?_
          rintro e w1 ⟨rfl, hb1⟩
          obtain ⟨a0, a1, a2, b0, b1, b2, d0, d1, d2, hzz⟩ := ninebox hb1
          go_wp2_with fail
          refine (H2 _).mono ?_
          rintro e w2 ⟨rfl, hb2⟩
          have hB := bstep hb1 hb2
          clear a0 a1 a2 b0 b1 b2 d0 d1 d2 hzz
          obtain ⟨a0, a1, a2, b0, b1, b2, d0, d1, d2, hzz⟩ := ninebox hB
          go_wp2_with fail
          refine (H3 _).mono ?_
          rintro e w3 ⟨rfl, hb3⟩
          have hB3 := bstep hB hb3
          clear a0 a1 a2 b0 b1 b2 d0 d1 d2 hzz
          obtain ⟨a0, a1, a2, b0, b1, b2, d0, d1, d2, hzz⟩ := ninebox hB3
          go_wp2_with fail
          refine (HS _).mono ?_
          rintro e w4 ⟨rfl, hb4⟩
          go_wp2_with fail
          go_ret
          exact ⟨ret_i64 (by rw [fin1.out]; rfl), bstep (bstep (balloc _ _) hB3) hb4⟩

/-- two boxes of nine cells, behind calls -/
theorem ninebox2 {w W : World} {T : TypeId} {o : Obj} {a0 a1 a2 b0 b1 b2 c0 c1 c2 : Value}
    (hb : Below ((w.alloc (.cells #[a0, a1, a2, b0, b1, b2, c0, c1, c2] T)).alloc o).heap.size ((w.alloc (.cells #[a0, a1, a2, b0, b1, b2, c0, c1, c2] T)).alloc o) W) :
    W.cell? ⟨w.heap.size, 0, none⟩ = some a0 ∧ W.cell? ⟨w.heap.size, 1, none⟩ = some a1 ∧ W.cell? ⟨w.heap.size, 2, none⟩ = some a2 ∧ W.cell? ⟨w.heap.size, 3, none⟩ = some b0 ∧ W.cell? ⟨w.heap.size, 4, none⟩ = some b1 ∧ W.cell? ⟨w.heap.size, 5, none⟩ = some b2 ∧ W.cell? ⟨w.heap.size, 6, none⟩ = some c0 ∧ W.cell? ⟨w.heap.size, 7, none⟩ = some c1 ∧ W.cell? ⟨w.heap.size, 8, none⟩ = some c2 ∧ w.heap.size < W.heap.size :=
  ninebox (bstep (balloc _ _) hb)
theorem ninebox2' {w W : World} {T : TypeId} {o : Obj} {a0 a1 a2 b0 b1 b2 c0 c1 c2 : Value}
    (hb : Below ((w.alloc o).alloc (.cells #[a0, a1, a2, b0, b1, b2, c0, c1, c2] T)).heap.size ((w.alloc o).alloc (.cells #[a0, a1, a2, b0, b1, b2, c0, c1, c2] T)) W) :
    W.cell? ⟨w.heap.size + 1, 0, none⟩ = some a0 ∧ W.cell? ⟨w.heap.size + 1, 1, none⟩ = some a1 ∧ W.cell? ⟨w.heap.size + 1, 2, none⟩ = some a2 ∧ W.cell? ⟨w.heap.size + 1, 3, none⟩ = some b0 ∧ W.cell? ⟨w.heap.size + 1, 4, none⟩ = some b1 ∧ W.cell? ⟨w.heap.size + 1, 5, none⟩ = some b2 ∧ W.cell? ⟨w.heap.size + 1, 6, none⟩ = some c0 ∧ W.cell? ⟨w.heap.size + 1, 7, none⟩ = some c1 ∧ W.cell? ⟨w.heap.size + 1, 8, none⟩ = some c2 ∧ w.heap.size + 1 < W.heap.size := by
  have := ninebox hb
  rw [World.size_alloc] at this
  exact this

set_option maxHeartbeats 4000000 in
set_option maxRecDepth 100000 in
theorem ROrder_any (x y : Tr) (w : World) : Calls Tryz.prog 50 #[valTr x, valTr y] w fun e w' => e = .returned (.int .i64 (cmpTr x y)) ∧ RowKit.Below w.heap.size w w' := by
  have H1 := fun W => RCompare_any x.1.1 x.1.2.1 x.1.2.2 y.1.1 y.1.2.1 y.1.2.2 W
  have H2 := fun W => RCompare_any x.2.1.1 x.2.1.2.1 x.2.1.2.2 y.2.1.1 y.2.1.2.1 y.2.1.2.2 W
  have H3 := fun W => RCompare_any x.2.2.1 x.2.2.2.1 x.2.2.2.2 y.2.2.1 y.2.2.2.1 y.2.2.2.2 W
  have fin : Hid (cmpTr x y = orI (cmpT x.1.1 x.1.2.1 x.1.2.2 y.1.1 y.1.2.1 y.1.2.2) (cmpT x.2.1.1 x.2.1.2.1 x.2.1.2.2 y.2.1.1 y.2.1.2.1 y.2.1.2.2) (cmpT x.2.2.1 x.2.2.2.1 x.2.2.2.2 y.2.2.1 y.2.2.2.1 y.2.2.2.2)) := rfl
  generalize cmpTr x y = N at *
  generalize cmpT x.1.1 x.1.2.1 x.1.2.2 y.1.1 y.1.2.1 y.1.2.2 = c1 at *
  generalize cmpT x.2.1.1 x.2.1.2.1 x.2.1.2.2 y.2.1.1 y.2.1.2.1 y.2.1.2.2 = c2 at *
  generalize cmpT x.2.2.1 x.2.2.2.1 x.2.2.2.2 y.2.2.1 y.2.2.2.1 y.2.2.2.2 = c3 at *
  unfold valTr
  cases h1 : (c1 == 0)
  · have fin1 : Hid (N = c1) := by have h : ¬ c1 = 0 := by simpa using h1
                                   rw [fin.out]; unfold orI; rw [if_neg h]; rfl
    go_enter Tryz.func50, Tryz.ntmps50
    go_wp2_with fail
    refine (H1 _).mono ?_
    rintro e w1 ⟨rfl, hb1⟩
    go_wp2_with fail
    go_ret
    exact ⟨ret_i64 fin1.out.symm, bstep (bstep (balloc _ _) (balloc _ _)) hb1⟩
  · have e1 : c1 = 0 := by simpa using h1
    cases h2 : (c2 == 0)
    · have fin1 : Hid (N = c2) := by have h : ¬ c2 = 0 := by simpa using h2
                                     rw [fin.out]; unfold orI; rw [if_pos e1, if_neg h]; rfl
      clear e1
      go_enter Tryz.func50, Tryz.ntmps50
      go_wp2_with fail
      refine (H1 _).mono ?_
      rintro e w1 ⟨rfl, hb1⟩
      obtain ⟨a0, a1, a2, b0, b1, b2, d0, d1, d2, hzz⟩ := ninebox2 hb1
      obtain ⟨a0', a1', a2', b0', b1', b2', d0', d1', d2', hzz'⟩ := ninebox2' hb1
      go_wp2_with fail
      refine (H2 _).mono ?_
      rintro e w2 ⟨rfl, hb2⟩
      go_wp2_with fail
      go_ret
      exact ⟨ret_i64 fin1.out.symm, bstep (bstep (bstep (balloc _ _) (balloc _ _)) hb1) hb2⟩
    · have e2 : c2 = 0 := by simpa using h2
      have fin1 : Hid (N = c3) := by rw [fin.out]; unfold orI; rw [if_pos e1, if_pos e2]; rfl
      clear e1 e2
      go_enter Tryz.func50, Tryz.ntmps50
      go_wp2_with fail
      refine (H1 _).mono ?_
      rintro e w1 ⟨rfl, hb1⟩
      obtain ⟨a0, a1, a2, b0, b1, b2, d0, d1, d2, hzz⟩ := ninebox2 hb1
      obtain ⟨a0', a1', a2', b0', b1', b2', d0', d1', d2', hzz'⟩ := ninebox2' hb1
      go_wp2_with fail
      refine (H2 _).mono ?_
      rintro e w2 ⟨rfl, hb2⟩
      have hB := bstep hb1 hb2
      clear a0 a1 a2 b0 b1 b2 d0 d1 d2 hzz a0' a1' a2' b0' b1' b2' d0' d1' d2' hzz'
      obtain ⟨a0, a1, a2, b0, b1, b2, d0, d1, d2, hzz⟩ := ninebox2 hB
      obtain ⟨a0', a1', a2', b0', b1', b2', d0', d1', d2', hzz'⟩ := ninebox2' hB
      go_wp2_with fail
      refine (H3 _).mono ?_
      rintro e w3 ⟨rfl, hb3⟩
      go_wp2_with fail
      go_ret
      exact ⟨ret_i64 fin1.out.symm, bstep (bstep (bstep (balloc _ _) (balloc _ _)) hB) hb3⟩

/-- eighteen cells, behind a call that turned nothing old -/
theorem keep18b {W W' : World} {p0 p1 p2 p3 p4 p5 p6 p7 p8 p9 p10 p11 p12 p13 p14 p15 p16 p17 : Addr} {v0 v1 v2 v3 v4 v5 v6 v7 v8 v9 v10 v11 v12 v13 v14 v15 v16 v17 : Value}
    (h : W.cell? p0 = some v0 ∧ W.cell? p1 = some v1 ∧ W.cell? p2 = some v2 ∧ W.cell? p3 = some v3 ∧ W.cell? p4 = some v4 ∧ W.cell? p5 = some v5 ∧ W.cell? p6 = some v6 ∧ W.cell? p7 = some v7 ∧ W.cell? p8 = some v8 ∧ W.cell? p9 = some v9 ∧ W.cell? p10 = some v10 ∧ W.cell? p11 = some v11 ∧ W.cell? p12 = some v12 ∧ W.cell? p13 = some v13 ∧ W.cell? p14 = some v14 ∧ W.cell? p15 = some v15 ∧ W.cell? p16 = some v16 ∧ W.cell? p17 = some v17) (hb : RowKit.Below W.heap.size W W') : W'.cell? p0 = some v0 ∧ W'.cell? p1 = some v1 ∧ W'.cell? p2 = some v2 ∧ W'.cell? p3 = some v3 ∧ W'.cell? p4 = some v4 ∧ W'.cell? p5 = some v5 ∧ W'.cell? p6 = some v6 ∧ W'.cell? p7 = some v7 ∧ W'.cell? p8 = some v8 ∧ W'.cell? p9 = some v9 ∧ W'.cell? p10 = some v10 ∧ W'.cell? p11 = some v11 ∧ W'.cell? p12 = some v12 ∧ W'.cell? p13 = some v13 ∧ W'.cell? p14 = some v14 ∧ W'.cell? p15 = some v15 ∧ W'.cell? p16 = some v16 ∧ W'.cell? p17 = some v17 := by
  have q : ∀ (p : Addr) (v : Value), W.cell? p = some v → W'.cell? p = some v := fun p v hv => (hb.cell (World.block_lt_of_cell? W p hv)).trans hv
  obtain ⟨h0, h1, h2, h3, h4, h5, h6, h7, h8, h9, h10, h11, h12, h13, h14, h15, h16, h17⟩ := h
  exact ⟨q _ _ h0, q _ _ h1, q _ _ h2, q _ _ h3, q _ _ h4, q _ _ h5, q _ _ h6, q _ _ h7, q _ _ h8, q _ _ h9, q _ _ h10, q _ _ h11, q _ _ h12, q _ _ h13, q _ _ h14, q _ _ h15, q _ _ h16, q _ _ h17⟩

set_option maxHeartbeats 8000000 in
set_option maxRecDepth 100000 in
theorem RSet_any (ad : Option Addr) (cap : Nat) (l : List Tr) (w : World) (h : SlT w ad l) (hfit : ∀ x ∈ l, fitTr x) (hn : l.length ≤ 9223372036854775807) :
    Calls Tryz.prog 28 #[.slice ad l.length cap] w fun e w' => e = .returned (.int .i64 (sortedN l)) ∧ RowKit.Below w.heap.size w w' := by
  have Hl : Hid (SlT w ad l) := h
  have Hf : Hid (∀ x ∈ l, fitTr x) := hfit
  clear h hfit
  by_cases h200 : 200 < l.length
  · have fin : Hid (sortedN l = 4) := if_pos h200
    have h200' : decide ((l.length : Int) > 200) = true := by simp; omega
    go_enter Tryz.func28, Tryz.ntmps28
    go_wp2
    go_ret
    exact ⟨ret_i64 (by rw [fin.out]), RowKit.Below.refl _ _⟩
  · have fin : Hid (sortedN l = firstUpto (stepN l) l.length) := if_neg h200
    have h200' : decide ((l.length : Int) > 200) = false := by simp; omega
    go_enter Tryz.func28, Tryz.ntmps28
    go_wp2_with fail
    go_loopw [3] (fun i wr => ∃ k : Nat, k ≤ l.length ∧ i = .int .i64 k ∧ firstUpto (stepN l) k = 0 ∧ RowKit.Below w.heap.size w wr) (fun i wr => l.length - (intOf i).toNat)
    case atStart => exact ⟨0, Nat.zero_le _, rfl, rfl, RowKit.Below.refl _ _⟩
    case round =>
      obtain ⟨i, hi', rfl, hz0, hbr⟩ := hrel
      have hz : Hid (firstUpto (stepN l) i = 0) := hz0
      clear hz0
      by_cases hi : i < l.length
      · obtain ⟨b, o, rfl, hr⟩ := (Hl.out.below hbr).at i hi
        obtain ⟨c0, c1, c2, c3, c4, c5, c6, c7, c8⟩ := hr.at i hi
        have Hr : Hid (RowR wr b o l) := hr
        have H := fun W => RTriple_any l[i] W (Hf.out _ (List.getElem_mem hi))
        unfold valTr at H
        have i0 : (0 : Int) ≤ (i : Int) := by omega
        have i1 : (i : Int) < (l.length : Int) := by omega
        have hnext : Hid (firstUpto (stepN l) (i + 1) = stepN l i) := by show _ = _; rw [firstUpto, if_pos hz.out]
        have hend : Hid (stepN l i ≠ 0 → sortedN l = stepN l i) := fun hne => by
          rw [fin.out, ← hnext.out]
          exact firstUpto_mono _ _ _ (by rw [hnext.out]; exact hne) hi
        clear hr
        cases hc : (chkTr l[i] == 0)
        · have fs : Hid (stepN l i = chkTr l[i]) := by simp at hc; simp [Hid, stepN, hi, hc]
          have hne : (chkTr l[i] != 0) = true := by simp [bne, hc]
          have hn0 : Hid (stepN l i ≠ 0) := by show _ ≠ _; rw [fs.out]; simpa using hc
          generalize l[i] = y at *
          go_wp2_with fail
          refine (H _).mono ?_
          rintro e w1 ⟨rfl, hb1⟩
          go_wp2_with fail
          go_ret
          exact ⟨ret_i64 (by rw [hend.out hn0.out, fs.out]), bstep hbr hb1⟩
        · have hce : chkTr l[i] = 0 := by simpa using hc
          rw [hce] at H
          by_cases h0 : i = 0
          · subst h0
            have fs : Hid (stepN l 0 = 0) := by simp [Hid, stepN, hi, hce]
            clear hc hce
            generalize l[0] = y at *
            simp only [Nat.zero_mul, Nat.add_zero] at c0 c1 c2 c3 c4 c5 c6 c7 c8
            go_wp2_with fail
            refine (H _).mono ?_
            rintro e w1 ⟨rfl, hb1⟩
            clear c0 c1 c2 c3 c4 c5 c6 c7 c8
            go_wp2_with fail
            go_region
            go_wp2
            exact ⟨⟨1, by omega, by go_num, by rw [hnext.out, fs.out], bstep hbr hb1.drew⟩, by simp [intOf]; omega⟩
          · obtain ⟨k, hk0⟩ : ∃ k, i = k + 1 := ⟨i - 1, by omega⟩
            have hk : k < l.length := by omega
            have fs : Hid (stepN l i = if 0 ≤ cmpTr l[k] l[i] then 6 else 0) := by
              subst hk0; simp [Hid, stepN, hi, hce]
            have HC := fun W => ROrder_any l[k] l[i] W
            unfold valTr at HC
            generalize cmpTr l[k] l[i] = c at HC fs
            have hwr : IntKind.i64.wrap ((i : Int) - 1) = (k : Int) := by subst hk0; simp [IntKind.wrap, IntKind.bits, IntKind.signed]; omega
            have i2 : (0 : Int) ≤ (k : Int) := by omega
            have i3 : (k : Int) < (l.length : Int) := by omega
            have hd : decide (0 < i) = true := by simp; omega
            have hd' : decide ((i : Int) > 0) = true := by simp; omega
            have Hk : Hid (i = k + 1) := hk0
            clear hk0 h0 hc hce
            go_wp2_with fail
            refine (H _).mono ?_
            rintro e w1 ⟨rfl, hb1⟩
            clear c0 c1 c2 c3 c4 c5 c6 c7 c8
            obtain ⟨c0, c1, c2, c3, c4, c5, c6, c7, c8⟩ := (Hr.out.below hb1).at i hi
            obtain ⟨d0, d1, d2, d3, d4, d5, d6, d7, d8⟩ := (Hr.out.below hb1).at k hk
            generalize l[i] = y at *
            generalize l[k] = x at *
            clear H
            cases hcc : decide (c ≥ 0)
            · have fs0 : Hid (stepN l i = 0) := by have := fs.out; simp at hcc; rw [if_neg (by omega)] at this; exact this
              go_wp2_with fail
              go_region_held3 (fun W => W.cell? ⟨b, o + k * 9, none⟩ = some (.int .i64 x.1.1) ∧ W.cell? ⟨b, o + k * 9 + 1, none⟩ = some (.string ⟨x.1.2.1.toArray⟩) ∧ W.cell? ⟨b, o + k * 9 + 2, none⟩ = some (.string ⟨x.1.2.2.toArray⟩) ∧ W.cell? ⟨b, o + k * 9 + 3, none⟩ = some (.int .i64 x.2.1.1) ∧ W.cell? ⟨b, o + k * 9 + 4, none⟩ = some (.string ⟨x.2.1.2.1.toArray⟩) ∧ W.cell? ⟨b, o + k * 9 + 5, none⟩ = some (.string ⟨x.2.1.2.2.toArray⟩) ∧ W.cell? ⟨b, o + k * 9 + 6, none⟩ = some (.int .i64 x.2.2.1) ∧ W.cell? ⟨b, o + k * 9 + 7, none⟩ = some (.string ⟨x.2.2.2.1.toArray⟩) ∧ W.cell? ⟨b, o + k * 9 + 8, none⟩ = some (.string ⟨x.2.2.2.2.toArray⟩) ∧ W.cell? ⟨b, o + i * 9, none⟩ = some (.int .i64 y.1.1) ∧ W.cell? ⟨b, o + i * 9 + 1, none⟩ = some (.string ⟨y.1.2.1.toArray⟩) ∧ W.cell? ⟨b, o + i * 9 + 2, none⟩ = some (.string ⟨y.1.2.2.toArray⟩) ∧ W.cell? ⟨b, o + i * 9 + 3, none⟩ = some (.int .i64 y.2.1.1) ∧ W.cell? ⟨b, o + i * 9 + 4, none⟩ = some (.string ⟨y.2.1.2.1.toArray⟩) ∧ W.cell? ⟨b, o + i * 9 + 5, none⟩ = some (.string ⟨y.2.1.2.2.toArray⟩) ∧ W.cell? ⟨b, o + i * 9 + 6, none⟩ = some (.int .i64 y.2.2.1) ∧ W.cell? ⟨b, o + i * 9 + 7, none⟩ = some (.string ⟨y.2.2.2.1.toArray⟩) ∧ W.cell? ⟨b, o + i * 9 + 8, none⟩ = some (.string ⟨y.2.2.2.2.toArray⟩)) (first | exact keep18b (by assumption) hb2 | go_keep) (first
                | (go_at_call 50; refine (HC _).mono ?_; rintro e w2 ⟨rfl, hb2⟩))
              go_wp2
              exact ⟨⟨i + 1, by omega, by go_num, by rw [hnext.out, fs0.out], bstep (bstep hbr hb1.drew) hb2⟩, by simp [intOf]; omega⟩
            · have fs0 : Hid (stepN l i = 6) := by have := fs.out; simp at hcc; rw [if_pos (by omega)] at this; exact this
              go_wp2_with fail
              go_region_held3 (fun W => W.cell? ⟨b, o + k * 9, none⟩ = some (.int .i64 x.1.1) ∧ W.cell? ⟨b, o + k * 9 + 1, none⟩ = some (.string ⟨x.1.2.1.toArray⟩) ∧ W.cell? ⟨b, o + k * 9 + 2, none⟩ = some (.string ⟨x.1.2.2.toArray⟩) ∧ W.cell? ⟨b, o + k * 9 + 3, none⟩ = some (.int .i64 x.2.1.1) ∧ W.cell? ⟨b, o + k * 9 + 4, none⟩ = some (.string ⟨x.2.1.2.1.toArray⟩) ∧ W.cell? ⟨b, o + k * 9 + 5, none⟩ = some (.string ⟨x.2.1.2.2.toArray⟩) ∧ W.cell? ⟨b, o + k * 9 + 6, none⟩ = some (.int .i64 x.2.2.1) ∧ W.cell? ⟨b, o + k * 9 + 7, none⟩ = some (.string ⟨x.2.2.2.1.toArray⟩) ∧ W.cell? ⟨b, o + k * 9 + 8, none⟩ = some (.string ⟨x.2.2.2.2.toArray⟩) ∧ W.cell? ⟨b, o + i * 9, none⟩ = some (.int .i64 y.1.1) ∧ W.cell? ⟨b, o + i * 9 + 1, none⟩ = some (.string ⟨y.1.2.1.toArray⟩) ∧ W.cell? ⟨b, o + i * 9 + 2, none⟩ = some (.string ⟨y.1.2.2.toArray⟩) ∧ W.cell? ⟨b, o + i * 9 + 3, none⟩ = some (.int .i64 y.2.1.1) ∧ W.cell? ⟨b, o + i * 9 + 4, none⟩ = some (.string ⟨y.2.1.2.1.toArray⟩) ∧ W.cell? ⟨b, o + i * 9 + 5, none⟩ = some (.string ⟨y.2.1.2.2.toArray⟩) ∧ W.cell? ⟨b, o + i * 9 + 6, none⟩ = some (.int .i64 y.2.2.1) ∧ W.cell? ⟨b, o + i * 9 + 7, none⟩ = some (.string ⟨y.2.2.2.1.toArray⟩) ∧ W.cell? ⟨b, o + i * 9 + 8, none⟩ = some (.string ⟨y.2.2.2.2.toArray⟩)) (first | exact keep18b (by assumption) hb2 | go_keep) (first
                | (go_at_call 50; refine (HC _).mono ?_; rintro e w2 ⟨rfl, hb2⟩))
              go_wp2
              go_ret
              exact ⟨ret_i64 (by rw [hend.out (by rw [fs0.out]; decide), fs0.out]), bstep (bstep hbr hb1.drew) hb2⟩
      · obtain rfl : i = l.length := by omega
        go_wp2_with fail
        go_ret
        exact ⟨ret_i64 (by rw [fin.out, hz.out]), hbr⟩
end Go.Proofs.YtaddfndohoppeaaGreatDoor

/- The document's same: are two lists of triples the same? -/
namespace Go.Proofs.YtaddfndohoppeaaGreatDoor
open Go Go.RowKit Go.Proofs
set_option synthInstance.maxSize 1000

theorem ret_boolS {a b : Bool} (h : a = b) : Ending.returned (.bool a) = .returned (.bool b) := by rw [h]
set_option maxHeartbeats 4000000 in
set_option maxRecDepth 100000 in
theorem RSame_any (ad bd : Option Addr) (ca cb : Nat) (a b : List Tr) (w : World) (ha : SlT w ad a) (hb : SlT w bd b) (na : a.length ≤ 9223372036854775807) :
    Calls Tryz.prog 51 #[.slice ad a.length ca, .slice bd b.length cb] w fun e w' => e = .returned (.bool (decide (a = b))) ∧ RowKit.Below w.heap.size w w' := by
  have Ha := hideO ha
  have Hb := hideO hb
  clear ha hb
  by_cases hlen : a.length = b.length
  · have hd : ((a.length : Int) != (b.length : Int)) = false := by simp [hlen]
    have Hlen := hideO hlen
    clear hlen
    go_enter Tryz.func51, Tryz.ntmps51
    go_wp2_with fail
    go_loopw [5] (fun i wr => ∃ k : Nat, k ≤ a.length ∧ i = .int .i64 k ∧ Hid (a.take k = b.take k) ∧ RowKit.Below w.heap.size w wr) (fun i wr => a.length - (intOf i).toNat)
    case atStart => exact ⟨0, Nat.zero_le _, rfl, rfl, RowKit.Below.refl _ _⟩
    case round =>
      obtain ⟨k, hk, rfl, hs, hbr⟩ := hrel
      by_cases hlt : k < a.length
      · have hlt' : k < b.length := by have := Hlen.out; omega
        obtain ⟨p, o, e1, hrow⟩ := (Ha.out.below hbr).at k hlt
        obtain ⟨c0, c1, c2, c3, c4, c5, c6, c7, c8⟩ := hrow.at k hlt
        obtain ⟨q, r, e2, hrow2⟩ := (Hb.out.below hbr).at k hlt'
        obtain ⟨d0, d1, d2, d3, d4, d5, d6, d7, d8⟩ := hrow2.at k hlt'
        subst e1 e2
        have i0 : (0 : Int) ≤ (k : Int) := by omega
        have i1 : (k : Int) < (a.length : Int) := by omega
        have i2 : (k : Int) < (b.length : Int) := by omega
        have HC := fun W => ROrder_any a[k] b[k] W
        unfold valTr at HC
        have hz0 := cmpTr_zero a[k] b[k]
        have f1 : Hid (cmpTr a[k] b[k] = 0 → a.take (k + 1) = b.take (k + 1)) := fun h => by
          rw [List.take_succ_eq_append_getElem hlt, List.take_succ_eq_append_getElem hlt', hs.out, hz0.1 h]
        have f0 : Hid (cmpTr a[k] b[k] ≠ 0 → decide (a = b) = false) := fun h => by
          rw [decide_eq_false_iff_not]
          intro e
          subst e
          exact h (hz0.2 rfl)
        generalize cmpTr a[k] b[k] = c at HC f0 f1
        clear hz0 hrow hrow2 hs
        generalize a[k] = y at *
        generalize b[k] = z at *
        cases hc : (c != 0)
        · go_wp2_with fail
          go_region_held3 (fun W => W.cell? ⟨p, o + k * 9, none⟩ = some (.int .i64 y.1.1) ∧ W.cell? ⟨p, o + k * 9 + 1, none⟩ = some (.string ⟨y.1.2.1.toArray⟩) ∧ W.cell? ⟨p, o + k * 9 + 2, none⟩ = some (.string ⟨y.1.2.2.toArray⟩) ∧ W.cell? ⟨p, o + k * 9 + 3, none⟩ = some (.int .i64 y.2.1.1) ∧ W.cell? ⟨p, o + k * 9 + 4, none⟩ = some (.string ⟨y.2.1.2.1.toArray⟩) ∧ W.cell? ⟨p, o + k * 9 + 5, none⟩ = some (.string ⟨y.2.1.2.2.toArray⟩) ∧ W.cell? ⟨p, o + k * 9 + 6, none⟩ = some (.int .i64 y.2.2.1) ∧ W.cell? ⟨p, o + k * 9 + 7, none⟩ = some (.string ⟨y.2.2.2.1.toArray⟩) ∧ W.cell? ⟨p, o + k * 9 + 8, none⟩ = some (.string ⟨y.2.2.2.2.toArray⟩) ∧ W.cell? ⟨q, r + k * 9, none⟩ = some (.int .i64 z.1.1) ∧ W.cell? ⟨q, r + k * 9 + 1, none⟩ = some (.string ⟨z.1.2.1.toArray⟩) ∧ W.cell? ⟨q, r + k * 9 + 2, none⟩ = some (.string ⟨z.1.2.2.toArray⟩) ∧ W.cell? ⟨q, r + k * 9 + 3, none⟩ = some (.int .i64 z.2.1.1) ∧ W.cell? ⟨q, r + k * 9 + 4, none⟩ = some (.string ⟨z.2.1.2.1.toArray⟩) ∧ W.cell? ⟨q, r + k * 9 + 5, none⟩ = some (.string ⟨z.2.1.2.2.toArray⟩) ∧ W.cell? ⟨q, r + k * 9 + 6, none⟩ = some (.int .i64 z.2.2.1) ∧ W.cell? ⟨q, r + k * 9 + 7, none⟩ = some (.string ⟨z.2.2.2.1.toArray⟩) ∧ W.cell? ⟨q, r + k * 9 + 8, none⟩ = some (.string ⟨z.2.2.2.2.toArray⟩)) (first | exact keep18b (by assumption) hb2 | go_keep) (first
            | (go_at_call 50; refine (HC _).mono ?_; rintro e w2 ⟨rfl, hb2⟩; dsimp only))
          have hb3 := hideO (bstep hbr.drew hb2)
          have hf := hideO (f1.out (by simpa using hc))
          clear f0 f1
          go_wp2_with fail
          go_roundw
          case rel => exact ⟨k + 1, by omega, by go_num, hf, hb3.out⟩
          case measure => simp [intOf]; omega
        · go_wp2_with fail
          go_region_held3 (fun W => W.cell? ⟨p, o + k * 9, none⟩ = some (.int .i64 y.1.1) ∧ W.cell? ⟨p, o + k * 9 + 1, none⟩ = some (.string ⟨y.1.2.1.toArray⟩) ∧ W.cell? ⟨p, o + k * 9 + 2, none⟩ = some (.string ⟨y.1.2.2.toArray⟩) ∧ W.cell? ⟨p, o + k * 9 + 3, none⟩ = some (.int .i64 y.2.1.1) ∧ W.cell? ⟨p, o + k * 9 + 4, none⟩ = some (.string ⟨y.2.1.2.1.toArray⟩) ∧ W.cell? ⟨p, o + k * 9 + 5, none⟩ = some (.string ⟨y.2.1.2.2.toArray⟩) ∧ W.cell? ⟨p, o + k * 9 + 6, none⟩ = some (.int .i64 y.2.2.1) ∧ W.cell? ⟨p, o + k * 9 + 7, none⟩ = some (.string ⟨y.2.2.2.1.toArray⟩) ∧ W.cell? ⟨p, o + k * 9 + 8, none⟩ = some (.string ⟨y.2.2.2.2.toArray⟩) ∧ W.cell? ⟨q, r + k * 9, none⟩ = some (.int .i64 z.1.1) ∧ W.cell? ⟨q, r + k * 9 + 1, none⟩ = some (.string ⟨z.1.2.1.toArray⟩) ∧ W.cell? ⟨q, r + k * 9 + 2, none⟩ = some (.string ⟨z.1.2.2.toArray⟩) ∧ W.cell? ⟨q, r + k * 9 + 3, none⟩ = some (.int .i64 z.2.1.1) ∧ W.cell? ⟨q, r + k * 9 + 4, none⟩ = some (.string ⟨z.2.1.2.1.toArray⟩) ∧ W.cell? ⟨q, r + k * 9 + 5, none⟩ = some (.string ⟨z.2.1.2.2.toArray⟩) ∧ W.cell? ⟨q, r + k * 9 + 6, none⟩ = some (.int .i64 z.2.2.1) ∧ W.cell? ⟨q, r + k * 9 + 7, none⟩ = some (.string ⟨z.2.2.2.1.toArray⟩) ∧ W.cell? ⟨q, r + k * 9 + 8, none⟩ = some (.string ⟨z.2.2.2.2.toArray⟩)) (first | exact keep18b (by assumption) hb2 | go_keep) (first
            | (go_at_call 50; refine (HC _).mono ?_; rintro e w2 ⟨rfl, hb2⟩; dsimp only))
          have hb3 := hideO (bstep hbr.drew hb2)
          have hf := hideO (f0.out (by simpa using hc))
          clear f0 f1
          go_wp2_with fail
          go_ret
          exact ⟨ret_boolS hf.out.symm, hb3.out⟩
      · obtain rfl : k = a.length := by omega
        have hyes : Hid (decide (a = b) = true) := decide_eq_true (by
          have h1 := hs.out
          rw [List.take_length, Hlen.out, List.take_length] at h1
          exact h1)
        clear hs
        go_wp2_with fail
        go_ret
        exact ⟨ret_boolS hyes.out.symm, hbr⟩
  · have hd : ((a.length : Int) != (b.length : Int)) = true := by simp; omega
    have hno : Hid (decide (a = b) = false) := decide_eq_false fun e => hlen (by rw [e])
    clear hlen
    go_enter Tryz.func51, Tryz.ntmps51
    go_wp2_with fail
    go_ret
    exact ⟨ret_boolS hno.out.symm, RowKit.Below.refl _ _⟩
end Go.Proofs.YtaddfndohoppeaaGreatDoor
