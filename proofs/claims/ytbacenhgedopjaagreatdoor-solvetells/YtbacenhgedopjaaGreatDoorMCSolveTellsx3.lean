import Derived.Test.YtbacenhgedopjaaGreatDoorMCSolveTellsx2
import Derived.Test.YtbacenhgedopjaaGreatDoorMA0x6
import Derived.Test.YtbacenhgedopjaaGreatDoorMA0x5
import Derived.Test.YtbacenhgedopjaaGreatDoorMA0x7
import Derived.Test.YtbacenhgedopjaaGreatDoorMA0x4
import Derived.Test.YtbacenhgedopjaaGreatDoorMCSolveTellsx1
import Derived.Deep.RegionHeld3
import Derived.Test.YtbacenhgedopjaaGreatDoorMA0x9
import Derived.Deep.DeepCutAuto

/- strataref3.Solve: what the document tells. -/
namespace Go.Proofs.YtbacenhgedopjaaGreatDoor
open Go Go.RowKit Go.Proofs Go.Maps
set_option synthInstance.maxSize 1000
attribute [local go_sem ↓] eqlStr

def RSolveAns (S : List Tr) (q : Qu) (w : World) (e : Ending) (w' : World) : Prop := RowKit.Below w.heap.size w w' ∧ (answersL S q.parts = none → e = .returned (.tuple #[.slice none 0 0, .int .i64 4])) ∧ ∀ vars rows, answersL S q.parts = some (vars, rows) → ∃ ad c, e = .returned (.tuple #[.slice ad (limR q.lim (sortR (ltQ q) q.dist (rows.map (projR vars q.vars)))).length c, .int .i64 0]) ∧ SlR w' ad (limR q.lim (sortR (ltQ q) q.dist (rows.map (projR vars q.vars))))
theorem once_le8 : ∀ (l m : List (List UInt8)), l.Nodup → (∀ v ∈ l, v ∈ m) → l.length ≤ m.length
  | [], _, _, _ => Nat.zero_le _
  | x :: l, m, h, hm => by
    have hx := hm x (by simp)
    have h' := List.nodup_cons.1 h
    have := once_le8 l (m.erase x) h'.2 fun v hv => (List.mem_erase_of_ne (fun e => by subst e; exact h'.1 hv)).2 (hm v (List.mem_cons_of_mem _ hv))
    rw [List.length_erase_of_mem hx] at this
    have := List.length_pos_of_mem hx
    simp only [List.length_cons]
    omega
/-- where the order's variable is, as far as they are looked at -/
def ByK (vars : List (List UInt8)) (o : List UInt8) (i : Nat) (b : Int) : Prop := (b = -1 ∧ ∀ j (hj : j < vars.length), j < i → vars[j] ≠ o) ∨ ∃ j, ∃ hj : j < vars.length, j < i ∧ b = (j : Int) ∧ vars[j] = o
theorem ByK.done {vars : List (List UInt8)} {o : List UInt8} {b : Int} (h : ByK vars o vars.length b) (hn : vars.Nodup) : (whereV vars o = none ∧ b = -1) ∨ ∃ j, whereV vars o = some j ∧ b = (j : Int) ∧ j < vars.length := by
  rcases h with ⟨e, ha⟩ | ⟨j, hj, _, e, hv⟩
  · left
    refine ⟨?_, e⟩
    unfold whereV
    rw [if_neg]
    intro hm
    obtain ⟨j, hj, e2⟩ := List.getElem_of_mem hm
    exact ha j hj hj e2
  · right
    refine ⟨j, ?_, e, hj⟩
    have hm : o ∈ vars := hv ▸ List.getElem_mem hj
    unfold whereV
    rw [if_pos hm]
    have hi := List.idxOf_lt_length_of_mem hm
    have h1 : vars[vars.idxOf o] = o := List.getElem_idxOf hi
    congr 1
    rcases Nat.lt_trichotomy (vars.idxOf o) j with k | k | k
    · exact absurd (h1.trans hv.symm) (List.pairwise_iff_getElem.1 hn _ _ hi hj k)
    · exact k
    · exact absurd (hv.trans h1.symm) (List.pairwise_iff_getElem.1 hn _ _ hj hi k)
abbrev S3W (w0 : World) (p0 p1 p2 : Addr) (v0 v1 v2 : Value) (W : World) : Prop := RowKit.Below w0.heap.size w0 W ∧ W.cell? p0 = some v0 ∧ W.cell? p1 = some v1 ∧ W.cell? p2 = some v2
theorem S3W.keep {w0 W W' : World} {p0 p1 p2 : Addr} {v0 v1 v2 : Value} (h : S3W w0 p0 p1 p2 v0 v1 v2 W) (hb : RowKit.Below W.heap.size W W') : S3W w0 p0 p1 p2 v0 v1 v2 W' :=
  ⟨bstep h.1 hb, cell_b h.2.1 hb, cell_b h.2.2.1 hb, cell_b h.2.2.2 hb⟩
theorem S3W.alloc {w0 W : World} {p0 p1 p2 : Addr} {v0 v1 v2 : Value} (h : S3W w0 p0 p1 p2 v0 v1 v2 W) (o : Obj) : S3W w0 p0 p1 p2 v0 v1 v2 (W.alloc o) := h.keep (balloc _ _)
theorem S3W.set {w0 W : World} {p0 p1 p2 : Addr} {v0 v1 v2 : Value} (h0 : p0.block < w0.heap.size) (h1 : p1.block < w0.heap.size) (h2 : p2.block < w0.heap.size) (h : S3W w0 p0 p1 p2 v0 v1 v2 W) {g : Nat} (hg : w0.heap.size ≤ g) (o : Nat) (u : Value) : S3W w0 p0 p1 p2 v0 v1 v2 (W.setCell ⟨g, o, none⟩ u) := by
  have ne : ∀ p : Addr, p.block < w0.heap.size → (⟨g, o, none⟩ : Addr) ≠ p := fun p hp e => by rw [← e] at hp; have : g < w0.heap.size := hp; omega
  exact ⟨h.1.setCell (p := ⟨g, o, none⟩) hg u, (World.cell?_setCell_other _ _ _ _ (ne p0 h0)).trans h.2.1, (World.cell?_setCell_other _ _ _ _ (ne p1 h1)).trans h.2.2.1, (World.cell?_setCell_other _ _ _ _ (ne p2 h2)).trans h.2.2.2⟩
theorem ans_few (S : List Tr) : ∀ (ps : List Pt) (vs : List (List UInt8)) (rs : List (List Tm)) {vars : List (List UInt8)} {rows : List (List Tm)}, answersF S vs rs ps = some (vars, rows) → vars.length ≤ vs.length + 3 * ps.length
  | [], vs, rs, vars, rows, h => by
    unfold answersF at h
    cases h
    simp
  | p :: ps, vs, rs, vars, rows, h => by
    unfold answersF at h
    split at h
    · cases h
    · have h1 := ans_few S ps _ _ h
      have h2 := fresh_few vs p
      rw [List.length_append] at h1
      rw [List.length_cons]
      omega
theorem tm_set3 {W : World} {b : Nat} {x : Tm} {u0 u1 u2 : Value} (h0 : W.cell? ⟨b, 0, none⟩ = some u0) (h1 : W.cell? ⟨b, 1, none⟩ = some u1) (h2 : W.cell? ⟨b, 2, none⟩ = some u2) : TmAt (((W.setCell ⟨b, 0, none⟩ (.int .i64 x.1)).setCell ⟨b, 1, none⟩ (.string ⟨x.2.1.toArray⟩)).setCell ⟨b, 2, none⟩ (.string ⟨x.2.2.toArray⟩)) b x := by
  refine ⟨?_, ?_, ?_⟩ <;> go_simp
theorem put_few (lt : List Tm → List Tm → Bool) (d : Bool) (l : List (List Tm)) (r : List Tm) : (putR lt d l r).length ≤ l.length + 1 := by
  unfold putR
  split
  · omega
  · rw [len_ins]; exact Nat.le_refl _
theorem fold_few (lt : List Tm → List Tm → Bool) (d : Bool) : ∀ (rows l : List (List Tm)), (rows.foldl (putR lt d) l).length ≤ l.length + rows.length
  | [], l => by simp
  | r :: rows, l => by
    have h1 := fold_few lt d rows (putR lt d l r)
    have h2 := put_few lt d l r
    rw [List.foldl_cons, List.length_cons]
    omega
set_option maxHeartbeats 16000000 in
set_option maxRecDepth 100000 in
theorem RSolve_any (ad : Option Addr) (ca : Nat) (S : List Tr) (q : Qu) (vd pd : Option Addr) (vc pc : Nat) (w : World) (hS : SlT w ad S) (hq : QuIn w q vd pd) (hs : sortedN S = 0) (hk : askN q = 0) (hf : FitQ q) :
    Calls Tryz.prog 7 #[.slice ad S.length ca, valQ q vd vc pd pc] w (RSolveAns S q w) := by
  have hgq := ask_good hk
  have h200 : S.length ≤ 200 := (sortedN_set.1 hs).1
  have hv8 : q.vars.length ≤ 1000 := by
    have h8 := hgq.eight
    have : q.vars.length ≤ (partsV [] q.parts).length := once_le8 q.vars (partsV [] q.parts) hgq.once (fun v hv => hgq.within v hv)
    omega
  have HA := hideQ (fun W (h1 : SlT W ad S) (h2 : QuIn W q vd pd) => Answers_any S ad ca q vd pd vc pc W h1 h200 h2 hgq.six hf.pt hgq.parts)
  have Hq := hideQ hq
  have HS := hideQ hS
  have Honce := hideQ hgq.once
  have H6 := hideQ hgq.six
  obtain ⟨Q, hQ⟩ : ∃ Q, Q = RSolveAns S q w := ⟨_, rfl⟩
  have HQ : Hid (∀ e w', RSolveAns S q w e w' → Q e w') := fun e w' h => by rw [hQ]; exact h
  rw [← hQ]
  clear hQ hS hq hs hk hf hgq
  obtain ⟨W0, hW0⟩ : ∃ W0, W0 = w.alloc (.cells #[.slice vd q.vars.length vc, .slice pd q.parts.length pc, .string ⟨q.order.toArray⟩, .bool q.down, .bool q.dist, .int .i64 q.lim] 26) := ⟨_, rfl⟩
  have hB0 : RowKit.Below w.heap.size w W0 := by rw [hW0]; exact balloc _ _
  have hX0 := hideQ (show BoxQ W0 w.heap.size q vd pd vc pc by rw [hW0]; exact boxQ_new _ _ _ _ _ _)
  have HA0 := HA.out W0 (HS.out.below hB0) (Hq.out.below hB0)
  unfold valQ at HA0 ⊢
  unfold AnsAns at HA0
  go_enter Tryz.func7, Tryz.ntmps7
  go_upto_region 1 with fail
  rw [← hW0]
  clear hW0 HA
  obtain ⟨x0, x1, x2, x3, x4, x5⟩ := hX0.out
  go_wp2_with fail
  refine HA0.mono ?_
  rintro e w1 ⟨hb1, hans⟩
  have hB1 := bstep hB0 hb1
  have hX1 := hideQ (hX0.out.below hb1)
  clear x0 x1 x2 x3 x4 x5 HA0 hX0 hB0 hb1
  cases hl : answersL S q.parts with
  | none =>
    rw [hl] at hans
    obtain rfl := hans
    have Hl := hideQ hl
    clear hl
    dsimp only
    go_wp2_with fail
    exact HQ.out (.returned (.tuple #[.slice none 0 0, .int .i64 4])) _ ⟨hB1, fun _ => rfl, fun v r h => by rw [Hl.out] at h; cases h⟩
  | some a =>
    obtain ⟨vars, rows⟩ := a
    rw [hl] at hans
    obtain ⟨av, cv, ar, cr, rfl, hvs, hrs⟩ := hans
    have hok := hideQ (answersL_ok hl)
    have Hl := hideQ hl
    have Hvs := hideQ hvs
    have Hrs := hideQ hrs
    have hr5 : rows.length ≤ 500 := hok.out.2
    have hvl : vars.length ≤ 1000 := by have h9 := ans_few S q.parts [] [[]] Hl.out; have h8 := H6.out; have h7 : ([] : List (List UInt8)).length = 0 := rfl; omega
    generalize looked S q.parts = lk at *
    clear hl hvs hrs
    dsimp only
    obtain ⟨nv, hnv⟩ : ∃ n, n = q.vars.length := ⟨_, rfl⟩
    obtain ⟨x0, x1, x2, x3, x4, x5⟩ := hX1.out
    rw [← hnv] at x0 hv8
    have Hnv := hideQ hnv
    clear hnv
    go_wp2_with fail
    go_loopw [10, 11] (fun b i wr => ∃ (k : Nat) (bi : Int), k ≤ nv ∧ i = .int .i64 k ∧ b = .int .i64 bi ∧ Hid (ByK q.vars q.order k bi) ∧ RowKit.Below w1.heap.size w1 wr) (fun _ i wr => nv - (intOf i).toNat)
    case atStart => exact ⟨0, -1, Nat.zero_le _, rfl, rfl, Or.inl ⟨rfl, fun j hj h => by omega⟩, RowKit.Below.refl _ _⟩
    case round =>
      clear x0 x1 x2 x3 x4 x5
      obtain ⟨k, bi, hk, rfl, rfl, hBy, hbr⟩ := hrel
      obtain ⟨x0, x1, x2, x3, x4, x5⟩ := hX1.out.below hbr
      rw [← Hnv.out] at x0
      by_cases hlt : k < nv
      · have hkv : k < q.vars.length := by rw [← Hnv.out]; exact hlt
        obtain ⟨vb, vo, rfl, hvc⟩ := (Hq.out.vars.below (bstep hB1 hbr)).at k hkv
        have t1 : decide ((k : Int) < (nv : Int)) = true := by simp; omega
        have i0 : (0 : Int) ≤ (k : Int) := by omega
        have i1 : (k : Int) < (nv : Int) := by omega
        have hnext := hideQ (fun (h : q.vars[k] = q.order) => (Or.inr ⟨k, hkv, Nat.lt_succ_self k, rfl, h⟩ : ByK q.vars q.order (k + 1) (k : Int)))
        have hsame := hideQ (fun (h : ¬ q.vars[k] = q.order) => (by
          rcases hBy.out with ⟨e, ha⟩ | ⟨j, hj, hjk, e, hv⟩
          · exact Or.inl ⟨e, fun j hj hjk => by
              by_cases ej : j = k
              · subst ej; exact h
              · exact ha j hj (by omega)⟩
          · exact Or.inr ⟨j, hj, by omega, e, hv⟩ : ByK q.vars q.order (k + 1) bi))
        clear hBy
        by_cases he : q.vars[k] = q.order
        · have te : (q.vars[k] == q.order) = true := by simpa using he
          have td : decide (q.vars[k] = q.order) = true := by simpa using he
          have hn2 := hideQ (hnext.out he)
          clear hnext hsame he
          generalize q.vars[k] = sv at *
          go_wp2_with fail
          go_region
          go_wp2_with fail
          go_roundw
          case rel => exact ⟨k + 1, (k : Int), by omega, by go_num, rfl, hn2.out, hbr.drew⟩
          case measure => simp [intOf]; omega
        · have te : (q.vars[k] == q.order) = false := by simpa using he
          have td : decide (q.vars[k] = q.order) = false := by simpa using he
          have hn2 := hideQ (hsame.out he)
          clear hnext hsame he
          generalize q.vars[k] = sv at *
          go_wp2_with fail
          go_region
          go_wp2_with fail
          go_roundw
          case rel => exact ⟨k + 1, bi, by omega, by go_num, rfl, hn2.out, hbr.drew⟩
          case measure => simp [intOf]; omega
      · obtain rfl : nv = k := by omega
        have t1 : decide ((nv : Int) < (nv : Int)) = false := by simp
        have hby := hideQ (ByK.done (show ByK q.vars q.order q.vars.length bi by rw [← Hnv.out]; exact hBy.out) Honce.out)
        have hX2 := hideQ (hX1.out.below hbr)
        have hB2 := hideQ (bstep hB1 hbr)
        have Hvs2 := hideQ (Hvs.out.below hbr)
        have Hrs2 := hideQ (Hrs.out.below hbr)
        have Hq2 := hideQ (Hq.out.vars.below (bstep hB1 hbr))
        clear hBy hX1 hB1 hbr Hvs Hrs Hq
        obtain ⟨nr, hnr⟩ : ∃ n, n = rows.length := ⟨_, rfl⟩
        rw [← hnr] at hr5 ⊢
        have Hnr := hideQ hnr
        clear hnr
        generalize hgw : wr = w2 at *
        clear hgw
        go_wp2_with fail
        go_loopw [12, 13] (fun vo i wr => ∃ (j : Nat) (L : List (List Tm)) (us : List Value) (ao : Option Addr) (co : Nat), j ≤ nr ∧ i = .int .i64 j ∧ vo = .slice ao L.length co ∧ Hid (L = ((rows.map (projR vars q.vars)).take j).foldl (putR (ltQ q) q.dist) []) ∧ Hid (AtR wr ao us ∧ CellR wr us L) ∧ Hid (L.length ≤ co ∧ (co = 0 ∨ ∃ b, ao = some ⟨b, 0, none⟩)) ∧ RowKit.Below w2.heap.size w2 wr) (fun _ i wr => nr - (intOf i).toNat)
        case atStart => exact ⟨0, [], [], none, 0, Nat.zero_le _, rfl, rfl, rfl, ⟨fun h => absurd rfl h, CellR.nil _⟩, ⟨Nat.zero_le _, Or.inl rfl⟩, RowKit.Below.refl _ _⟩
        case round =>
          clear x0 x1 x2 x3 x4 x5
          obtain ⟨j, L, us, ao, co, hj, rfl, rfl, hL, hRow, hCap, hbr⟩ := hrel
          obtain ⟨x0, x1, x2, x3, x4, x5⟩ := hX2.out.below hbr
          rw [← Hnv.out] at x0
          by_cases hlt : j < nr
          · have hjr : j < rows.length := by rw [← Hnr.out]; exact hlt
            have t1 : decide ((j : Int) < (nr : Int)) = true := by simp; omega
            have i0 : (0 : Int) ≤ (j : Int) := by omega
            have i1 : (j : Int) < (nr : Int) := by omega
            have hX3 := hideQ (hX2.out.below hbr)
            have Hvs3 := hideQ (Hvs2.out.below hbr)
            have Hrs3 := hideQ (Hrs2.out.below hbr)
            have Hq3 := hideQ (Hq2.out.below hbr)
            have hLj : L.length ≤ 500 := by
              rw [hL.out]
              refine Nat.le_trans (fold_few _ _ _ _) ?_
              simp only [List.length_nil, List.length_take]
              omega
            have hz3 := hbr.size
            generalize hgw : wr = w3 at *
            clear hgw
            go_wp2_with fail
            go_loopw [14, 15] (fun vr i wr => ∃ (k : Nat), k ≤ nv ∧ i = .int .i64 k ∧ Hid (wr.ownsRow w3.heap.size 28 3 vr (projR vars (q.vars.take k) rows[j]).length (cellsQ (projR vars (q.vars.take k) rows[j]))) ∧ RowKit.Below w3.heap.size w3 wr) (fun _ i wr => nv - (intOf i).toNat)
            case atStart => exact ⟨0, Nat.zero_le _, rfl, World.ownsRow_nil _ _ _ _, RowKit.Below.refl _ _⟩
            case round =>
              clear x0 x1 x2 x3 x4 x5
              obtain ⟨k, hk, rfl, hOw, hbr3⟩ := hrel
              obtain ⟨x0, x1, x2, x3, x4, x5⟩ := hX3.out.below hbr3
              rw [← Hnv.out] at x0
              by_cases hlk : k < nv
              · have hkv : k < q.vars.length := by rw [← Hnv.out]; exact hlk
                have t2 : decide ((k : Int) < (nv : Int)) = true := by simp; omega
                have k0 : (0 : Int) ≤ (k : Int) := by omega
                have k1 : (k : Int) < (nv : Int) := by omega
                obtain ⟨vb, vo, rfl, hvc⟩ := (Hq3.out.below hbr3).at k hkv
                obtain ⟨rb, ro, rd, rc, rfl, hrc, hrq⟩ := (Hrs3.out.below hbr3).at j hjr
                have hnx := hideQ (show projR vars (q.vars.take (k + 1)) rows[j] = projR vars (q.vars.take k) rows[j] ++ [(boundT vars rows[j] q.vars[k]).getD tmZero] by unfold projR; rw [List.take_succ_eq_append_getElem hkv, List.map_append]; rfl)
                have hpl : (projR vars (q.vars.take k) rows[j]).length ≤ 1000 := by simp [projR]; omega
                obtain ⟨x, hx⟩ : ∃ x, x = (boundT vars rows[j] q.vars[k]).getD tmZero := ⟨_, rfl⟩
                obtain ⟨bb, hbb⟩ : ∃ bb, bb = (boundT vars rows[j] q.vars[k]).isSome := ⟨_, rfl⟩
                rw [← hx] at hnx
                have HBd : ∀ W, S3W wr ⟨rb, ro + j, none⟩ ⟨w.heap.size, 0, none⟩ ⟨vb, vo + k, none⟩ (.slice rd rows[j].length rc) (.slice (some ⟨vb, vo, none⟩) nv vc) (.string ⟨q.vars[k].toArray⟩) W → Calls Tryz.prog 23 #[.slice av vars.length cv, .slice rd rows[j].length rc, .string ⟨q.vars[k].toArray⟩] W fun e w' => e = .returned (.tuple #[.agg #[.int .i64 x.1, .string ⟨x.2.1.toArray⟩, .string ⟨x.2.2.toArray⟩], .bool bb]) ∧ RowKit.Below W.heap.size W w' := fun W hW => by
                  have := Bound_any av rd cv rc vars rows[j] q.vars[k] W ((Hvs3.out.below hbr3).below hW.1) (hrq.below hW.1) (by omega)
                  rw [← hx, ← hbb] at this
                  exact this
                have hk0 : S3W wr ⟨rb, ro + j, none⟩ ⟨w.heap.size, 0, none⟩ ⟨vb, vo + k, none⟩ (.slice rd rows[j].length rc) (.slice (some ⟨vb, vo, none⟩) nv vc) (.string ⟨q.vars[k].toArray⟩) wr := ⟨RowKit.Below.refl _ _, hrc, x0, hvc⟩
                have hkeep := hk0.keep (RowKit.Below.refl _ wr).drew
                have hkA := fun o => hk0.keep (balloc wr o).drew
                have lR := World.block_lt_of_cell? _ _ hrc
                have lX := World.block_lt_of_cell? _ _ x0
                have lV := World.block_lt_of_cell? _ _ hvc
                have z0 : (wr.alloc (.cells #[.int .i64 0, .string ⟨#[]⟩, .string ⟨#[]⟩] 28)).drew.cell? ⟨wr.heap.size, 0, none⟩ = some (.int .i64 0) := by go_simp
                have z1 : (wr.alloc (.cells #[.int .i64 0, .string ⟨#[]⟩, .string ⟨#[]⟩] 28)).drew.cell? ⟨wr.heap.size, 1, none⟩ = some (.string ⟨#[]⟩) := by go_simp
                have z2 : (wr.alloc (.cells #[.int .i64 0, .string ⟨#[]⟩, .string ⟨#[]⟩] 28)).drew.cell? ⟨wr.heap.size, 2, none⟩ = some (.string ⟨#[]⟩) := by go_simp
                have g0 : (wr.alloc (.cells #[.int .i64 0, .string ⟨#[]⟩, .string ⟨#[]⟩] 28)).drew.frozen? ⟨wr.heap.size, 0, none⟩ = false := by go_simp
                have g1 : (wr.alloc (.cells #[.int .i64 0, .string ⟨#[]⟩, .string ⟨#[]⟩] 28)).drew.frozen? ⟨wr.heap.size, 1, none⟩ = false := by go_simp
                have g2 : (wr.alloc (.cells #[.int .i64 0, .string ⟨#[]⟩, .string ⟨#[]⟩] 28)).drew.frozen? ⟨wr.heap.size, 2, none⟩ = false := by go_simp
                have hzA : wr.heap.size < (wr.alloc (.cells #[.int .i64 0, .string ⟨#[]⟩, .string ⟨#[]⟩] 28)).drew.heap.size := by simp
                have Z := hideQ (And.intro z0 (And.intro z1 z2))
                have G := hideQ (And.intro g0 (And.intro g1 g2))
                have HX2 := hideQ (TmAt.new · x)
                clear hrq hx hbb x1 x2 x3 x4 x5 z0 z1 z2 g0 g1 g2
                generalize q.vars[k] = sv at *
                generalize rows[j].length = rl at *
                unfold S3W at HBd hkeep hkA
                go_upto_region 18 with fail
                go_cut [16, 17] from 64 to 78 (fun v16 v17 W' => ∃ bx, v16 = .pointer (some ⟨bx, 0, none⟩) ∧ Hid (TmAt W' bx x) ∧ Hid (RowKit.Below wr.heap.size wr W'))
                case first =>
                  go_region_held3 (fun W => RowKit.Below wr.heap.size wr W ∧ W.cell? ⟨rb, ro + j, none⟩ = some (.slice rd rl rc) ∧ W.cell? ⟨w.heap.size, 0, none⟩ = some (.slice (some ⟨vb, vo, none⟩) nv vc) ∧ W.cell? ⟨vb, vo + k, none⟩ = some (.string ⟨sv.toArray⟩)) ((refine (fun (W : World) (h : S3W wr ⟨rb, ro + j, none⟩ ⟨w.heap.size, 0, none⟩ ⟨vb, vo + k, none⟩ (.slice rd rl rc) (.slice (some ⟨vb, vo, none⟩) nv vc) (.string ⟨sv.toArray⟩) W) => h) _ ?_; repeat (first | (with_reducible exact hkeep) | (with_reducible exact hkA _) | (with_reducible refine S3W.set lR lX lV ?_ (Nat.le_refl _) _ _) | (with_reducible refine S3W.set lR lX lV ?_ hz5 _ _) | (with_reducible refine S3W.alloc ?_ _) | (with_reducible refine S3W.keep ?_ hb5) | (with_reducible assumption))))
                    (first
                    | (go_at_call 23; refine (HBd _ (by with_reducible assumption)).mono ?_; rintro e w5 ⟨rfl, hb5⟩; have hz5 : wr.heap.size ≤ w5.heap.size := (by have := hb5.size; simp at this; omega); (first | (have z0 := cell_b Z.out.1 hb5; have z1 := cell_b Z.out.2.1 hb5; have z2 := cell_b Z.out.2.2 hb5; have f0 := (hb5.frozen (p := ⟨wr.heap.size, 0, none⟩) hzA).trans G.out.1; have f1 := (hb5.frozen (p := ⟨wr.heap.size, 1, none⟩) hzA).trans G.out.2.1; have f2 := (hb5.frozen (p := ⟨wr.heap.size, 2, none⟩) hzA).trans G.out.2.2) | skip); dsimp only))
                  · go_wp2_with fail
                    go_meet
                    case rel => exact ⟨_, rfl, HX2.out w5, bstep (bstep (RowKit.Below.refl _ _).drew hb5) (balloc _ _)⟩
                  · go_wp2_with fail
                    go_meet
                    case rel => exact ⟨_, rfl, tm_set3 (cell_b Z.out.1 hb5) (cell_b Z.out.2.1 hb5) (cell_b Z.out.2.2 hb5), (((bstep (balloc wr _).drew hb5).setCell (p := ⟨wr.heap.size, 0, none⟩) (Nat.le_refl _) _).setCell (p := ⟨wr.heap.size, 1, none⟩) (Nat.le_refl _) _).setCell (p := ⟨wr.heap.size, 2, none⟩) (Nat.le_refl _) _⟩
                case rest =>
                  obtain ⟨bx, rfl, hTm, hbx⟩ := hcut
                  obtain ⟨c0, c1, c2⟩ := hTm.out
                  have hOw5 := hideQ (ownsRow_belowV hOw.out hbx.out)
                  have hB5 := bstep hbr3 hbx.out
                  have zb := hB5.size
                  clear HBd hkeep hkA hk0 lR lX lV hzA Z G HX2 hOw x0 hvc hrc
                  generalize projR vars (q.vars.take k) rows[j] = row0 at *
                  go_wp2_with (at_builtin; refine wpList_append_termsQ _ rfl _ _ rfl w3.heap.size _ row0 [x] (some ⟨wc.heap.size, 0, none⟩) 1 rfl rfl (hOw5.out.alloc _) (slQ_one (by go_simp) (by go_simp) (by go_simp)) (by simp; omega) (by simp; omega) ?_; intro v' w6 hv6 hg6 hat6)
                  have hB6 : RowKit.Below w3.heap.size w3 w6 := (bstep hB5 (balloc _ _)).grown hg6 (by simp; omega) (fun g hg => (hOw5.out.lt g hg).1)
                  have Hv6 := hideQ hv6
                  clear hv6 hg6 hat6 c0 c1 c2
                  go_wp2_with fail
                  go_roundw
                  case rel => exact ⟨k + 1, by omega, by go_num, by show World.ownsRow _ _ _ _ _ _ _; rw [hnx.out]; exact Hv6.out, hB6⟩
                  case measure => simp [intOf]; omega
              · have hkn : k = q.vars.length := by rw [← Hnv.out]; omega
                have t2 : decide ((k : Int) < (nv : Int)) = false := by simp; omega
                have hOw2 := hOw.out
                rw [hkn, List.take_length] at hOw2
                obtain ⟨rd, rc, erw, hrow⟩ := own_slQ hOw2
                subst erw
                have Hrow := hideQ hrow
                have hrl : (projR vars q.vars rows[j]).length = q.vars.length := by simp [projR]
                have Hrl := hideQ hrl
                have hr1 : (projR vars q.vars rows[j]).length ≤ 1000 := by rw [hrl, ← Hnv.out]; exact hv8
                have Hnext := hideQ (show ((rows.map (projR vars q.vars)).take (j + 1)).foldl (putR (ltQ q) q.dist) [] = putR (ltQ q) q.dist L (projR vars q.vars rows[j]) by
                  rw [List.take_succ_eq_append_getElem (by rw [List.length_map]; exact hjr), List.foldl_append, ← hL.out, List.getElem_map]; rfl)
                have HLen := hideQ (show LenR (projR vars q.vars rows[j]).length L by
                  rw [hL.out, hrl]
                  exact fold_len (fun x hx => proj_len vars q.vars rows x (List.mem_of_mem_take hx)) (fun x hx => (by cases hx)))
                have HSor := hideQ (show SortedR (ltQ q) L by
                  rw [hL.out]
                  exact fold_sorted (ordQ q q.vars.length) (fun x hx => proj_len vars q.vars rows x (List.mem_of_mem_take hx)) (fun x hx => (by cases hx)) List.Pairwise.nil)
                have HBy := hideQ (show (whereV q.vars q.order = none ∧ bi = -1) ∨ ∃ i, whereV q.vars q.order = some i ∧ bi = (i : Int) ∧ i < (projR vars q.vars rows[j]).length by
                  rw [hrl]
                  exact hby.out)
                have HA3 := hideQ (hRow.out.1.below hbr3)
                have HC3 := hideQ (hRow.out.2.below hbr3)
                have Hb3 := hideQ (bstep hbr hbr3)
                have HX4 := hideQ (hX3.out.below hbr3)
                clear hOw2 hrow hOw hL hRow hkn x1 x2 x3 x4 x5 hrl
                generalize hgr : projR vars q.vars rows[j] = row at *
                clear hgr
                go_upto_region 20 with fail
                go_cut [18] from 82 to 84 (fun v W' => Hid (v = .int .i64 (L.length : Int)) ∧ Hid (W' = wr))
                case first =>
                  go_wp2_with fail
                  go_meet
                  case rel => exact ⟨rfl, rfl⟩
                case rest =>
                  obtain ⟨hv, hw⟩ := hcut
                  have hv' := hv.out
                  have hw' := hw.out
                  subst hv' hw'
                  refine go_on (by assumption) ?_
                  refine rsPut _ _ _ _ _ _ _ _ _ _ _ _ _ _ _ _ _ _ _ _ _ _ _ _ _ _ _ _ _ _ _ _ _ _ _ _ _ _ _ _ _ _ _ _ _ _ _ _ _ _ _ _ _ _ _ _ _ _ _ _ _ _ _ _ _ _ _ _ _ _ _ _ _ _ _ _ _ _ _ _ _ _ _ _ _ _ _ _ _ _ _ _ _ _ _ _ _ _ _ _ _ _ _ _ _ _ _ _ _ _ _ _ _ _ _ _ _ _ _ _ _ _ _ _ _ _ _ _ _ _ _ _ _ _ _ _ _ _ _ _ _ _ _ _ _ _ _ _ _ _ _ _ _ _ _ _ _ _ _ _ _ _ _ _ _ _ _ _ _ _ _ _ _ _ _ ao rd vd pd co rc w.heap.size vc pc bi us L row q wc HA3.out HC3.out hCap.out.1 hCap.out.2 Hrow.out HX4.out HBy.out HLen.out HSor.out (by omega) hr1 ?_
                  intros
                  rename_i ex ao' co' us' W' hex g1 g2 g3 g4 g5
                  have G1 := hideQ (And.intro g1 g2)
                  have G3 := hideQ (And.intro g3 g4)
                  have G5 := hideQ (bstep Hb3.out g5)
                  clear g1 g2 g3 g4 g5
                  generalize putR (ltQ q) q.dist L row = L2 at *
                  rcases hex with rfl | rfl
                  · go_wp2_with fail
                    go_roundw
                    case rel => exact ⟨j + 1, L2, us', ao', co', by omega, by go_num, rfl, Hnext.out.symm, G1, G3, G5.out⟩
                    case measure => simp [intOf]; omega
                  · go_wp2_with fail
                    go_roundw
                    case rel => exact ⟨j + 1, L2, us', ao', co', by omega, by go_num, rfl, Hnext.out.symm, G1, G3, G5.out⟩
                    case measure => simp [intOf]; omega
          · have hje : j = rows.length := by rw [← Hnr.out]; omega
            have t1 : decide ((j : Int) < (nr : Int)) = false := by simp; omega
            have hLf := hideQ (show L = sortR (ltQ q) q.dist (rows.map (projR vars q.vars)) by
              rw [hL.out, hje, List.take_of_length_le (by rw [List.length_map]; exact Nat.le_refl _)]; rfl)
            have HRow := hideQ (hRow.out.1.slR hRow.out.2)
            have Hbz := hideQ (bstep hB2.out hbr)
            have HA4 := hideQ hRow
            clear hL hRow hje x0 x1 x2 x3 x4
            have Hl0 := hideQ (fun (ad9 : Option Addr) (c9 : Nat) (m : List (List Tm)) (W9 : World) (hm : m = limR q.lim L) (hs : SlR W9 ad9 m) (hb : RowKit.Below w.heap.size w W9) => (HQ.out (.returned (.tuple #[.slice ad9 m.length c9, .int .i64 0])) W9 ⟨hb, fun h => by (rw [Hl.out] at h; cases h), fun v r h => by
              rw [Hl.out] at h
              cases h
              refine ⟨ad9, c9, ?_, ?_⟩
              · rw [← hLf.out, ← hm]
              · rw [← hLf.out, ← hm]; exact hs⟩ : Q _ _))
            by_cases hq0 : 0 ≤ q.lim
            · have t2 : decide (q.lim ≥ 0) = true := by simpa using hq0
              by_cases hq1 : q.lim < (L.length : Int)
              · have t3 : decide (q.lim < (L.length : Int)) = true := by simpa using hq1
                obtain ⟨n, hn⟩ : ∃ n : Nat, q.lim = (n : Int) := ⟨q.lim.toNat, by omega⟩
                have hnl : n < L.length := by omega
                have hsl := slTake ao L.length co n (by have := hCap.out.1; omega) hCap.out.2
                have hlm : limR q.lim L = L.take n := by unfold limR; rw [if_pos hq0, hn]; rfl
                have Hfin := hideQ (fun W9 (hb : RowKit.Below wr.heap.size wr W9) => Hl0.out ao co (L.take n) W9 hlm.symm (((HA4.out.1.take n).slR (HA4.out.2.take n)).below hb) (bstep Hbz.out hb))
                have hlen : (L.take n).length = n := by rw [List.length_take]; omega
                rw [hlen] at Hfin
                rw [hn] at x5 t2 t3
                clear hlm hlen Hl0 hq0 hq1 hn
                go_wp2_with fail
                exact Hfin.out _ (RowKit.Below.refl _ _)
              · have t3 : decide (q.lim < (L.length : Int)) = false := by simpa using hq1
                have hlm : limR q.lim L = L := by unfold limR; rw [if_pos hq0]; exact List.take_of_length_le (by omega)
                have Hfin := hideQ (fun W9 (hb : RowKit.Below wr.heap.size wr W9) => Hl0.out ao co L W9 hlm.symm (HRow.out.below hb) (bstep Hbz.out hb))
                clear hlm Hl0 hq0 hq1
                go_wp2_with fail
                exact Hfin.out _ (RowKit.Below.refl _ _)
            · have t2 : decide (q.lim ≥ 0) = false := by simpa using hq0
              have hlm : limR q.lim L = L := by unfold limR; rw [if_neg hq0]
              have Hfin := hideQ (fun W9 (hb : RowKit.Below wr.heap.size wr W9) => Hl0.out ao co L W9 hlm.symm (HRow.out.below hb) (bstep Hbz.out hb))
              clear hlm Hl0 hq0
              go_wp2_with fail
              exact Hfin.out _ (RowKit.Below.refl _ _)
end Go.Proofs.YtbacenhgedopjaaGreatDoor

/- What Bind gives, variable by variable, in plain lists. -/
namespace Go.Proofs.YtbacenhgedopjaaGreatDoor
open Go Go.RowKit Go.Proofs
set_option synthInstance.maxSize 1000

/-- what is given to a pattern's own variables -/
def gvE (p : Pt) (vars : List (List UInt8)) (vals : List Tm) : List UInt8 → Option Tm := fun s => if s ∈ varsL p then boundT vars vals s else none
theorem boundT_app : ∀ (a : List (List UInt8)) (b : List Tm) (v : List UInt8) (t : Tm) (s : List UInt8), a.length = b.length →
    boundT (a ++ [v]) (b ++ [t]) s = (match boundT a b s with
      | some x => some x
      | none => if v = s ∧ s ≠ [] then some t else none)
  | [], [], v, t, s, _ => by simp [boundT]
  | [], y :: b, v, t, s, h => by simp at h
  | x :: a, [], v, t, s, h => by simp at h
  | x :: a, y :: b, v, t, s, h => by
    simp only [List.cons_append, boundT]
    by_cases e : x = s ∧ s ≠ []
    · rw [if_pos e, if_pos e]
    · rw [if_neg e, if_neg e]
      exact boundT_app a b v t s (by simpa using h)
theorem gvE_nil (p : Pt) : gvE p [] [] = fun _ => none := by
  funext s
  simp [gvE, boundT]
theorem gvE_fill {p : Pt} {vars : List (List UInt8)} {vals : List Tm} {s : Sl} (h : s.1 = p.1.1 ∨ s.1 = p.2.1.1 ∨ s.1 = p.2.2.1) : (match gvE p vars vals s.1 with
    | some x => (([], x) : Sl)
    | none => s) = bindS vars vals s := by
  unfold bindS gvE
  by_cases e : s.1 = []
  · have hb : ∀ (a : List (List UInt8)) (b : List Tm), boundT a b ([] : List UInt8) = none := by
      intro a
      induction a with
      | nil => intro b; cases b <;> rfl
      | cons x a ih => intro b; cases b with
        | nil => rfl
        | cons y b => simp [boundT, ih]
    rw [e, hb]
    split <;> rename_i h' <;> first | rfl | (split at h' <;> simp at h')
  · rw [if_pos (varsL_mem.2 ⟨e, h⟩)]
    cases boundT vars vals s.1 <;> rfl
theorem terms_first {vals : List Tm} {k : Nat} (hk : k < vals.length) (h0 : termsN (vals.take k) = 0) (h : tmChk vals[k] ≠ 0) : termsN vals = tmChk vals[k] := by
  induction vals generalizing k with
  | nil => simp at hk
  | cons x r ih =>
    cases k with
    | zero => simp only [List.getElem_cons_zero] at h ⊢; simp [termsN, h]
    | succ k =>
      simp only [List.take_succ_cons, termsN] at h0
      split at h0
      · rename_i hx
        simp only [List.getElem_cons_succ] at h ⊢
        simp only [termsN]
        rw [if_pos hx]
        exact ih (by simpa using hk) h0 h
      · rename_i hx
        exact absurd h0 hx
theorem terms_next {vals : List Tm} {k : Nat} (hk : k < vals.length) (h0 : termsN (vals.take k) = 0) (h : tmChk vals[k] = 0) : termsN (vals.take (k + 1)) = 0 := by
  induction vals generalizing k with
  | nil => simp at hk
  | cons x r ih =>
    cases k with
    | zero => simp only [List.getElem_cons_zero] at h; simp [termsN, h]
    | succ k =>
      simp only [List.take_succ_cons, termsN] at h0 ⊢
      split at h0
      · rename_i hx
        rw [if_pos hx]
        exact ih (by simpa using hk) h0 (by simpa using h)
      · rename_i hx
        exact absurd h0 hx
end Go.Proofs.YtbacenhgedopjaaGreatDoor

/- The program's Bind: its end, the three slots filled. -/
namespace Go.Proofs.YtbacenhgedopjaaGreatDoor
open Go Go.RowKit Go.Proofs Go.Maps
set_option synthInstance.maxSize 1000
attribute [local go_sem] eql_errV neq_errV guard_errV

theorem hideB {p : Prop} (h : p) : Hid p := h

theorem PatAt.same {W : World} {b j : Nat} {p : Pt} {v : Value} (h : PatAt W b p) (hj : (encPt p)[j]? = some v) : PatAt (W.setCell ⟨b, j, none⟩ v) b p := fun i u hi => by
  by_cases e : i = j
  · subst e
    rw [hj] at hi
    injection hi with hi
    subst hi
    exact World.cell?_setCell_same W _ _ (h i _ hj)
  · exact (World.cell?_setCell_other W _ _ _ (fun h => e (by simpa using congrArg Addr.off h.symm))).trans (h i u hi)
def zset (W : World) (b : Nat) : World := ((((((((((((W.setCell ⟨b, 0, none⟩ (.string ⟨#[]⟩)).setCell ⟨b, 1, none⟩ (.int .i64 0)).setCell ⟨b, 2, none⟩ (.string ⟨#[]⟩)).setCell ⟨b, 3, none⟩ (.string ⟨#[]⟩)).setCell ⟨b, 4, none⟩ (.string ⟨#[]⟩)).setCell ⟨b, 5, none⟩ (.int .i64 0)).setCell ⟨b, 6, none⟩ (.string ⟨#[]⟩)).setCell ⟨b, 7, none⟩ (.string ⟨#[]⟩)).setCell ⟨b, 8, none⟩ (.string ⟨#[]⟩)).setCell ⟨b, 9, none⟩ (.int .i64 0)).setCell ⟨b, 10, none⟩ (.string ⟨#[]⟩)).setCell ⟨b, 11, none⟩ (.string ⟨#[]⟩))
theorem zset_pat {W : World} {b : Nat} (h : PatAt W b patZero) : PatAt (zset W b) b patZero := ((((((((((((h.same (j := 0) rfl).same (j := 1) rfl).same (j := 2) rfl).same (j := 3) rfl).same (j := 4) rfl).same (j := 5) rfl).same (j := 6) rfl).same (j := 7) rfl).same (j := 8) rfl).same (j := 9) rfl).same (j := 10) rfl).same (j := 11) rfl)
theorem zset_below {a W : World} {B b : Nat} (h : RowKit.Below B a W) (hb : B ≤ b) : RowKit.Below B a (zset W b) := ((((((((((((h.setCell (p := ⟨b, 0, none⟩) hb _).setCell (p := ⟨b, 1, none⟩) hb _).setCell (p := ⟨b, 2, none⟩) hb _).setCell (p := ⟨b, 3, none⟩) hb _).setCell (p := ⟨b, 4, none⟩) hb _).setCell (p := ⟨b, 5, none⟩) hb _).setCell (p := ⟨b, 6, none⟩) hb _).setCell (p := ⟨b, 7, none⟩) hb _).setCell (p := ⟨b, 8, none⟩) hb _).setCell (p := ⟨b, 9, none⟩) hb _).setCell (p := ⟨b, 10, none⟩) hb _).setCell (p := ⟨b, 11, none⟩) hb _)

def pset (W : World) (b : Nat) (x : Pt) : World := ((((((((((((W.setCell ⟨b, 0, none⟩ (.string ⟨x.1.1.toArray⟩)).setCell ⟨b, 1, none⟩ (.int .i64 x.1.2.1)).setCell ⟨b, 2, none⟩ (.string ⟨x.1.2.2.1.toArray⟩)).setCell ⟨b, 3, none⟩ (.string ⟨x.1.2.2.2.toArray⟩)).setCell ⟨b, 4, none⟩ (.string ⟨x.2.1.1.toArray⟩)).setCell ⟨b, 5, none⟩ (.int .i64 x.2.1.2.1)).setCell ⟨b, 6, none⟩ (.string ⟨x.2.1.2.2.1.toArray⟩)).setCell ⟨b, 7, none⟩ (.string ⟨x.2.1.2.2.2.toArray⟩)).setCell ⟨b, 8, none⟩ (.string ⟨x.2.2.1.toArray⟩)).setCell ⟨b, 9, none⟩ (.int .i64 x.2.2.2.1)).setCell ⟨b, 10, none⟩ (.string ⟨x.2.2.2.2.1.toArray⟩)).setCell ⟨b, 11, none⟩ (.string ⟨x.2.2.2.2.2.toArray⟩))
theorem pset_pat {W : World} {b : Nat} {x y : Pt} (h : PatAt W b y) : PatAt (pset W b x) b x := fun j v hj => by
  obtain ⟨c0, c1, c2, c3, c4, c5, c6, c7, c8, c9, c10, c11⟩ := h.all
  have h12 : j < 12 := (List.getElem?_eq_some_iff.1 hj).1
  unfold pset
  rcases (by omega : j = 0 ∨ j = 1 ∨ j = 2 ∨ j = 3 ∨ j = 4 ∨ j = 5 ∨ j = 6 ∨ j = 7 ∨ j = 8 ∨ j = 9 ∨ j = 10 ∨ j = 11) with rfl | rfl | rfl | rfl | rfl | rfl | rfl | rfl | rfl | rfl | rfl | rfl
  all_goals
    simp [encPt] at hj
    subst hj
    go_simp
theorem pset_below {a W : World} {B b : Nat} {x : Pt} (h : RowKit.Below B a W) (hb : B ≤ b) : RowKit.Below B a (pset W b x) := ((((((((((((h.setCell (p := ⟨b, 0, none⟩) hb _).setCell (p := ⟨b, 1, none⟩) hb _).setCell (p := ⟨b, 2, none⟩) hb _).setCell (p := ⟨b, 3, none⟩) hb _).setCell (p := ⟨b, 4, none⟩) hb _).setCell (p := ⟨b, 5, none⟩) hb _).setCell (p := ⟨b, 6, none⟩) hb _).setCell (p := ⟨b, 7, none⟩) hb _).setCell (p := ⟨b, 8, none⟩) hb _).setCell (p := ⟨b, 9, none⟩) hb _).setCell (p := ⟨b, 10, none⟩) hb _).setCell (p := ⟨b, 11, none⟩) hb _)

abbrev S12B (bm j : Nat) (f : Ev) (B : Nat) (p : Pt) (W : World) : Prop := EvAt W bm j f ∧ W.cell? ⟨B, 0, none⟩ = some (.string ⟨p.1.1.toArray⟩) ∧ W.cell? ⟨B, 1, none⟩ = some (.int .i64 p.1.2.1) ∧ W.cell? ⟨B, 2, none⟩ = some (.string ⟨p.1.2.2.1.toArray⟩) ∧ W.cell? ⟨B, 3, none⟩ = some (.string ⟨p.1.2.2.2.toArray⟩) ∧ W.cell? ⟨B, 4, none⟩ = some (.string ⟨p.2.1.1.toArray⟩) ∧ W.cell? ⟨B, 5, none⟩ = some (.int .i64 p.2.1.2.1) ∧ W.cell? ⟨B, 6, none⟩ = some (.string ⟨p.2.1.2.2.1.toArray⟩) ∧ W.cell? ⟨B, 7, none⟩ = some (.string ⟨p.2.1.2.2.2.toArray⟩) ∧ W.cell? ⟨B, 8, none⟩ = some (.string ⟨p.2.2.1.toArray⟩) ∧ W.cell? ⟨B, 9, none⟩ = some (.int .i64 p.2.2.2.1) ∧ W.cell? ⟨B, 10, none⟩ = some (.string ⟨p.2.2.2.2.1.toArray⟩) ∧ W.cell? ⟨B, 11, none⟩ = some (.string ⟨p.2.2.2.2.2.toArray⟩)
theorem S12B.keep {W W' : World} {bm j : Nat} {f : Ev} {B : Nat} {p : Pt} (h : S12B bm j f B p W) (hb : RowKit.Below W.heap.size W W') : S12B bm j f B p W' := by
  obtain ⟨h0, c0, c1, c2, c3, c4, c5, c6, c7, c8, c9, c10, c11⟩ := h
  have s : ∀ {c : Addr} {y : Value}, W.cell? c = some y → W'.cell? c = some y := fun {c y} hc => (hb.cell (World.block_lt_of_cell? _ _ hc)).trans hc
  exact ⟨h0.below hb, s c0, s c1, s c2, s c3, s c4, s c5, s c6, s c7, s c8, s c9, s c10, s c11⟩
theorem S12B.set {W : World} {bm j : Nat} {f : Ev} {B : Nat} {p : Pt} {g : Nat} (hm : bm ≠ g) (hB : B ≠ g) (h : S12B bm j f B p W) (o : Nat) (u : Value) : S12B bm j f B p (W.setCell ⟨g, o, none⟩ u) := by
  obtain ⟨⟨D, h0, h1⟩, c0, c1, c2, c3, c4, c5, c6, c7, c8, c9, c10, c11⟩ := h
  have s : ∀ {q : Nat} {y : Value}, W.cell? ⟨B, q, none⟩ = some y → (W.setCell ⟨g, o, none⟩ u).cell? ⟨B, q, none⟩ = some y := fun {q y} hc => (World.cell?_setCell_other W _ _ _ (fun e => by have e2 := congrArg Addr.block e; simp at e2; omega)).trans hc
  exact ⟨⟨D, h0.setCell hm u, h1⟩, s c0, s c1, s c2, s c3, s c4, s c5, s c6, s c7, s c8, s c9, s c10, s c11⟩

set_option maxHeartbeats 16000000 in
set_option maxRecDepth 1000000 in
theorem pbindTail (Q : Ending → World → Prop) (u0 u1 u2 u4 u5 u7 u8 u9 u10 u11 u12 u14 u15 u16 u17 u18 u19 u20 u21 u22 u23 u24 u25 u26 u27 u28 u29 u30 u31 u32 u33 u34 u35 u36 u37 u38 u39 u40 u41 u42 u43 u44 u45 u46 u47 u48 u49 u50 u51 u52 u53 u54 u55 u56 u57 u58 u59 u60 u61 u62 u63 u64 u65 u66 u67 u68 u69 u70 u71 u72 u73 u74 u75 u76 : Value) (B bm j : Nat) (f : Ev) (p : Pt) (s1 s2 s3 : Sl) (W : World) (hP : PatAt W B p) (hR : PatAt W (B + 1) patZero) (hf : ∀ j, j < 12 → W.frozen? ⟨B + 1, j, none⟩ = false) (hE : EvAt W bm j f) (hm : bm ≠ B + 1)
    (h1 : p.1.1.length ≤ maxLen) (h2 : p.2.1.1.length ≤ maxLen) (h3 : p.2.2.1.length ≤ maxLen) (e1 : fillE f p.1 = s1) (e2 : fillE f p.2.1 = s2) (e3 : fillE f p.2.2 = s3)
    (hQ : ∀ W', RowKit.Below W.heap.size W W' → Q (.returned (.tuple #[.agg #[.string ⟨s1.1.toArray⟩, .int .i64 s1.2.1, .string ⟨s1.2.2.1.toArray⟩, .string ⟨s1.2.2.2.toArray⟩, .string ⟨s2.1.toArray⟩, .int .i64 s2.2.1, .string ⟨s2.2.2.1.toArray⟩, .string ⟨s2.2.2.2.toArray⟩, .string ⟨s3.1.toArray⟩, .int .i64 s3.2.1, .string ⟨s3.2.2.1.toArray⟩, .string ⟨s3.2.2.2.toArray⟩], .nilIface])) (pset W' (B + 1) (s1, s2, s3))) :
    Code.wp Tryz.prog (codeOf Tryz.f15.body 20) (bodyPost Tryz.prog Tryz.f15 Q) ⟨#[u0, u1, u2, .pointer (some ⟨B, 0, none⟩), u4, u5, .pointer (some ⟨B + 1, 0, none⟩), u7, u8, u9, u10, u11, u12, .map (some bm), u14, u15, u16, u17, u18, u19, u20, u21, u22, u23, u24, u25, u26, u27, u28, u29, u30, u31, u32, u33, u34, u35, u36, u37, u38, u39, u40, u41, u42, u43, u44, u45, u46, u47, u48, u49, u50, u51, u52, u53, u54, u55, u56, u57, u58, u59, u60, u61, u62, u63, u64, u65, u66, u67, u68, u69, u70, u71, u72, u73, u74, u75, u76], []⟩ W := by
  obtain ⟨p0, p1, p2, p3, p4, p5, p6, p7, p8, p9, p10, p11⟩ := hP.all
  have hk0 : S12B bm j f B p W := ⟨hE, p0, p1, p2, p3, p4, p5, p6, p7, p8, p9, p10, p11⟩
  have hkeep : S12B bm j f B p W.drew := hk0.keep (RowKit.Below.refl _ _).drew
  have lW : B ≠ B + 1 := by omega
  have G1 : ∀ W', S12B bm j f B p W' → Calls Tryz.prog 40 #[.map (some bm), .agg #[.string ⟨p.1.1.toArray⟩, .int .i64 p.1.2.1, .string ⟨p.1.2.2.1.toArray⟩, .string ⟨p.1.2.2.2.toArray⟩]] W' fun e w' => e = .returned (.agg #[.string ⟨s1.1.toArray⟩, .int .i64 s1.2.1, .string ⟨s1.2.2.1.toArray⟩, .string ⟨s1.2.2.2.toArray⟩]) ∧ RowKit.Below W'.heap.size W' w' := fun W' hW => by
    have := fill_any bm j f p.1 W' hW.1 h1
    rw [e1] at this
    exact this
  have G2 : ∀ W', S12B bm j f B p W' → Calls Tryz.prog 40 #[.map (some bm), .agg #[.string ⟨p.2.1.1.toArray⟩, .int .i64 p.2.1.2.1, .string ⟨p.2.1.2.2.1.toArray⟩, .string ⟨p.2.1.2.2.2.toArray⟩]] W' fun e w' => e = .returned (.agg #[.string ⟨s2.1.toArray⟩, .int .i64 s2.2.1, .string ⟨s2.2.2.1.toArray⟩, .string ⟨s2.2.2.2.toArray⟩]) ∧ RowKit.Below W'.heap.size W' w' := fun W' hW => by
    have := fill_any bm j f p.2.1 W' hW.1 h2
    rw [e2] at this
    exact this
  have G3 : ∀ W', S12B bm j f B p W' → Calls Tryz.prog 40 #[.map (some bm), .agg #[.string ⟨p.2.2.1.toArray⟩, .int .i64 p.2.2.2.1, .string ⟨p.2.2.2.2.1.toArray⟩, .string ⟨p.2.2.2.2.2.toArray⟩]] W' fun e w' => e = .returned (.agg #[.string ⟨s3.1.toArray⟩, .int .i64 s3.2.1, .string ⟨s3.2.2.1.toArray⟩, .string ⟨s3.2.2.2.toArray⟩]) ∧ RowKit.Below W'.heap.size W' w' := fun W' hW => by
    have := fill_any bm j f p.2.2 W' hW.1 h3
    rw [e3] at this
    exact this
  have HR := hideB hR
  have Hf := hideB hf
  have HQ := hideB hQ
  have hz1 : B + 1 < W.heap.size := World.block_lt_of_cell? W _ (hR 0 _ rfl)
  clear e1 e2 e3 hP hR hf hE hQ hk0 h1 h2 h3 p0 p1 p2 p3 p4 p5 p6 p7 p8 p9 p10 p11
  unfold S12B at G1 G2 G3 hkeep
  conv => arg 2; whnf
  dsimp only
  go_upto_region 20 with fail
  go_region_held3 (fun W => EvAt W bm j f ∧ W.cell? ⟨B, 0, none⟩ = some (.string ⟨p.1.1.toArray⟩) ∧ W.cell? ⟨B, 1, none⟩ = some (.int .i64 p.1.2.1) ∧ W.cell? ⟨B, 2, none⟩ = some (.string ⟨p.1.2.2.1.toArray⟩) ∧ W.cell? ⟨B, 3, none⟩ = some (.string ⟨p.1.2.2.2.toArray⟩) ∧ W.cell? ⟨B, 4, none⟩ = some (.string ⟨p.2.1.1.toArray⟩) ∧ W.cell? ⟨B, 5, none⟩ = some (.int .i64 p.2.1.2.1) ∧ W.cell? ⟨B, 6, none⟩ = some (.string ⟨p.2.1.2.2.1.toArray⟩) ∧ W.cell? ⟨B, 7, none⟩ = some (.string ⟨p.2.1.2.2.2.toArray⟩) ∧ W.cell? ⟨B, 8, none⟩ = some (.string ⟨p.2.2.1.toArray⟩) ∧ W.cell? ⟨B, 9, none⟩ = some (.int .i64 p.2.2.2.1) ∧ W.cell? ⟨B, 10, none⟩ = some (.string ⟨p.2.2.2.2.1.toArray⟩) ∧ W.cell? ⟨B, 11, none⟩ = some (.string ⟨p.2.2.2.2.2.toArray⟩)) ((refine (fun (W : World) (h : S12B bm j f B p W) => h) _ ?_; repeat (first | (with_reducible exact hkeep) | (with_reducible refine S12B.set hm lW ?_ _ _) | (with_reducible refine S12B.keep ?_ hb4) | (with_reducible refine S12B.keep ?_ hb5) | (with_reducible refine S12B.keep ?_ hb6) | (with_reducible assumption))))
    (first
    | (go_at_call_of 40 (Value.agg #[.string ⟨p.1.1.toArray⟩, .int .i64 p.1.2.1, .string ⟨p.1.2.2.1.toArray⟩, .string ⟨p.1.2.2.2.toArray⟩]); refine (G1 _ (by with_reducible assumption)).mono ?_; rintro e w4 ⟨rfl, hb4⟩; dsimp only)
    | (go_at_call_of 40 (Value.agg #[.string ⟨p.2.1.1.toArray⟩, .int .i64 p.2.1.2.1, .string ⟨p.2.1.2.2.1.toArray⟩, .string ⟨p.2.1.2.2.2.toArray⟩]); refine (G2 _ (by with_reducible assumption)).mono ?_; rintro e w5 ⟨rfl, hb5⟩; dsimp only)
    | (go_at_call_of 40 (Value.agg #[.string ⟨p.2.2.1.toArray⟩, .int .i64 p.2.2.2.1, .string ⟨p.2.2.2.2.1.toArray⟩, .string ⟨p.2.2.2.2.2.toArray⟩]); refine (G3 _ (by with_reducible assumption)).mono ?_; rintro e w6 ⟨rfl, hb6⟩; have hb7 := bstep (bstep (bstep (RowKit.Below.refl _ _).drew hb4) hb5) hb6; have hz := (HR.out.below hb7).all; dsimp only [patZero, tmZero] at hz; obtain ⟨z0, z1, z2, z3, z4, z5, z6, z7, z8, z9, z10, z11⟩ := hz; have f0 := (hb7.frozen (p := ⟨B + 1, 0, none⟩) hz1).trans (Hf.out 0 (by omega)); have f1 := (hb7.frozen (p := ⟨B + 1, 1, none⟩) hz1).trans (Hf.out 1 (by omega)); have f2 := (hb7.frozen (p := ⟨B + 1, 2, none⟩) hz1).trans (Hf.out 2 (by omega)); have f3 := (hb7.frozen (p := ⟨B + 1, 3, none⟩) hz1).trans (Hf.out 3 (by omega)); have f4 := (hb7.frozen (p := ⟨B + 1, 4, none⟩) hz1).trans (Hf.out 4 (by omega)); have f5 := (hb7.frozen (p := ⟨B + 1, 5, none⟩) hz1).trans (Hf.out 5 (by omega)); have f6 := (hb7.frozen (p := ⟨B + 1, 6, none⟩) hz1).trans (Hf.out 6 (by omega)); have f7 := (hb7.frozen (p := ⟨B + 1, 7, none⟩) hz1).trans (Hf.out 7 (by omega)); have f8 := (hb7.frozen (p := ⟨B + 1, 8, none⟩) hz1).trans (Hf.out 8 (by omega)); have f9 := (hb7.frozen (p := ⟨B + 1, 9, none⟩) hz1).trans (Hf.out 9 (by omega)); have f10 := (hb7.frozen (p := ⟨B + 1, 10, none⟩) hz1).trans (Hf.out 10 (by omega)); have f11 := (hb7.frozen (p := ⟨B + 1, 11, none⟩) hz1).trans (Hf.out 11 (by omega)); dsimp only))
  go_wp2_with fail
  obtain ⟨WZ, hWZ⟩ : ∃ WZ, WZ = pset w6 (B + 1) (s1, s2, s3) := ⟨_, rfl⟩
  have hq := hideB (show Q (.returned (.tuple #[.agg #[.string ⟨s1.1.toArray⟩, .int .i64 s1.2.1, .string ⟨s1.2.2.1.toArray⟩, .string ⟨s1.2.2.2.toArray⟩, .string ⟨s2.1.toArray⟩, .int .i64 s2.2.1, .string ⟨s2.2.2.1.toArray⟩, .string ⟨s2.2.2.2.toArray⟩, .string ⟨s3.1.toArray⟩, .int .i64 s3.2.1, .string ⟨s3.2.2.1.toArray⟩, .string ⟨s3.2.2.2.toArray⟩], .nilIface])) WZ by rw [hWZ]; exact HQ.out w6 hb7)
  have hZ : PatAt WZ (B + 1) (s1, s2, s3) := by rw [hWZ]; exact pset_pat (HR.out.below hb7)
  unfold pset at hWZ
  rw [← hWZ]
  clear hWZ z0 z1 z2 z3 z4 z5 z6 z7 z8 z9 z10 z11 f0 f1 f2 f3 f4 f5 f6 f7 f8 f9 f10 f11 G1 G2 G3 hkeep
  obtain ⟨y0, y1, y2, y3, y4, y5, y6, y7, y8, y9, y10, y11⟩ := hZ.all
  dsimp only at y0 y1 y2 y3 y4 y5 y6 y7 y8 y9 y10 y11
  exact bodyPost_ret (v := .tuple #[.agg #[.string ⟨s1.1.toArray⟩, .int .i64 s1.2.1, .string ⟨s1.2.2.1.toArray⟩, .string ⟨s1.2.2.2.toArray⟩, .string ⟨s2.1.toArray⟩, .int .i64 s2.2.1, .string ⟨s2.2.2.1.toArray⟩, .string ⟨s2.2.2.2.toArray⟩, .string ⟨s3.1.toArray⟩, .int .i64 s3.2.1, .string ⟨s3.2.2.1.toArray⟩, .string ⟨s3.2.2.2.toArray⟩], .nilIface]) (by simp [results, Tryz.results15, go_sem, *]) rfl hq.out
end Go.Proofs.YtbacenhgedopjaaGreatDoor

/- The program's Bind. -/
namespace Go.Proofs.YtbacenhgedopjaaGreatDoor
open Go Go.RowKit Go.Proofs Go.Maps
set_option synthInstance.maxSize 1000
attribute [local go_sem] eql_errV neq_errV guard_errV

theorem gvE_next {p : Pt} {vars : List (List UInt8)} {vals : List Tm} {k : Nat} (hk : k < vars.length) (hk2 : k < vals.length) :
    gvE p (vars.take (k + 1)) (vals.take (k + 1)) = if vars[k] ∈ varsL p then giveE (gvE p (vars.take k) (vals.take k)) vars[k] vals[k] else gvE p (vars.take k) (vals.take k) := by
  have hl : (vars.take k).length = (vals.take k).length := by simp; omega
  generalize hv : vars[k] = v
  generalize ht : vals[k] = t
  have e1 : vars.take (k + 1) = vars.take k ++ [v] := by rw [List.take_succ_eq_append_getElem hk, hv]
  have e2 : vals.take (k + 1) = vals.take k ++ [t] := by rw [List.take_succ_eq_append_getElem hk2, ht]
  rw [e1, e2]
  generalize vars.take k = a at *
  generalize vals.take k = b at *
  have key : ∀ s, gvE p (a ++ [v]) (b ++ [t]) s = if s ∈ varsL p then (match boundT a b s with
      | some x => some x
      | none => if v = s ∧ s ≠ [] then some t else none) else none := fun s => by
    unfold gvE
    rw [boundT_app a b v t s hl]
    all_goals (cases boundT a b s <;> rfl)
  funext s
  rw [key]
  by_cases hm : v ∈ varsL p
  · rw [if_pos hm]
    have hne := (varsL_mem.1 hm).1
    have hfv : gvE p a b v = boundT a b v := by unfold gvE; rw [if_pos hm]
    unfold giveE
    rw [hfv]
    by_cases hs : s ∈ varsL p
    · rw [if_pos hs]
      have hfs : gvE p a b s = boundT a b s := by unfold gvE; rw [if_pos hs]
      by_cases hb : (boundT a b v).isSome = true
      · rw [if_pos hb, hfs]
        cases h : boundT a b s with
        | some x => rfl
        | none =>
          have : v ≠ s := fun e => by rw [e, h] at hb; simp at hb
          simp [this]
      · rw [if_neg hb]
        unfold putEv
        by_cases e : s = v
        · subst e
          have hn : boundT a b s = none := by simpa using hb
          rw [if_pos rfl, hn]
          simp [hne]
        · rw [if_neg e, hfs]
          cases boundT a b s with
          | some x => rfl
          | none => simp [Ne.symm e]
    · have hsv : s ≠ v := fun e => hs (e ▸ hm)
      have hfs : gvE p a b s = none := by unfold gvE; rw [if_neg hs]
      rw [if_neg hs]
      split
      · rw [hfs]
      · unfold putEv; rw [if_neg hsv, hfs]
  · rw [if_neg hm]
    by_cases hs : s ∈ varsL p
    · have hsv : v ≠ s := fun e => hm (e ▸ hs)
      unfold gvE
      rw [if_pos hs, if_pos hs]
      cases boundT a b s <;> simp [hsv]
    · unfold gvE
      rw [if_neg hs, if_neg hs]
theorem fill_bind {p : Pt} {vars : List (List UInt8)} {vals : List Tm} {s : Sl} (h : s.1 = p.1.1 ∨ s.1 = p.2.1.1 ∨ s.1 = p.2.2.1) : fillE (gvE p vars vals) s = bindS vars vals s := by
  rw [← gvE_fill (vars := vars) (vals := vals) h]
  unfold fillE
  cases gvE p vars vals s.1 <;> rfl
set_option maxHeartbeats 16000000 in
set_option maxRecDepth 1000000 in
theorem PBind_any (p : Pt) (vd td : Option Addr) (vc tc : Nat) (vars : List (List UInt8)) (vals : List Tm) (w : World) (hp : fitPt p) (hv : SlW w vd vars) (ht : SlQ w td vals) (hvl : ∀ v ∈ vars, v.length ≤ maxLen) (htf : ∀ x ∈ vals, x.2.1.length ≤ maxLen ∧ x.2.2.length ≤ maxLen) (hn : vars.length < maxLen) (hn2 : vals.length ≤ 9223372036854775807) :
    Calls Tryz.prog 15 #[valPt p, .slice vd vars.length vc, .slice td vals.length tc] w fun e w' => e = .returned (.tuple #[valPt (bindB vars vals p), errV (bindN vars vals p)]) ∧ RowKit.Below w.heap.size w w' := by
  have HV := fun W => VarsO_any p W hp
  have hzero : valPt patZero = .agg #[.string ⟨#[]⟩, .int .i64 0, .string ⟨#[]⟩, .string ⟨#[]⟩, .string ⟨#[]⟩, .int .i64 0, .string ⟨#[]⟩, .string ⟨#[]⟩, .string ⟨#[]⟩, .int .i64 0, .string ⟨#[]⟩, .string ⟨#[]⟩] := rfl
  have Hz := hideB hzero
  unfold valPt at HV
  clear hzero
  by_cases hl : vars.length = vals.length
  · have HC := fun (x : Tm) (hx : x.2.1.length ≤ maxLen ∧ x.2.2.length ≤ maxLen) W => Check_any x.1 x.2.1 x.2.2 W hx.1 hx.2
    have Hl := hideB hl
    have Hv := hideB hv
    have Ht := hideB ht
    have Hvl := hideB hvl
    have Htf := hideB htf
    have hP0 : PatAt (w.alloc (.cells (encPt p).toArray 32)) w.heap.size p := patBox w p 32
    have hR0 := fun W => patBox W patZero 32
    rw [hl]
    clear hl hv ht hvl htf
    obtain ⟨m, hm⟩ : ∃ m, m = vals.length := ⟨_, rfl⟩
    rw [← hm]
    have Hm := hideB hm
    rw [← hm] at hn2
    obtain ⟨R, hR⟩ : ∃ R, R = valPt (bindB vars vals p) := ⟨_, rfl⟩
    obtain ⟨N, hN⟩ : ∃ N, N = bindN vars vals p := ⟨_, rfl⟩
    rw [← hR, ← hN]
    have HR := hideB hR
    have HN := hideB hN
    have HE : Hid (∀ n, n ≠ 0 → bindN vars vals p = n → R = .agg #[.string ⟨#[]⟩, .int .i64 0, .string ⟨#[]⟩, .string ⟨#[]⟩, .string ⟨#[]⟩, .int .i64 0, .string ⟨#[]⟩, .string ⟨#[]⟩, .string ⟨#[]⟩, .int .i64 0, .string ⟨#[]⟩, .string ⟨#[]⟩] ∧ N = n) := fun n h0 h => by
      refine ⟨?_, by rw [HN.out, h]⟩
      rw [HR.out]
      unfold bindB
      rw [if_neg (by rw [h]; exact h0)]
      exact Hz.out
    unfold valPt
    clear hm hR hN
    go_enter Tryz.func15, Tryz.ntmps15
    go_wp2_with fail
    obtain ⟨W1, hW1⟩ : ∃ W1, W1 = (w.alloc (.cells #[.string ⟨p.1.1.toArray⟩, .int .i64 p.1.2.1, .string ⟨p.1.2.2.1.toArray⟩, .string ⟨p.1.2.2.2.toArray⟩, .string ⟨p.2.1.1.toArray⟩, .int .i64 p.2.1.2.1, .string ⟨p.2.1.2.2.1.toArray⟩, .string ⟨p.2.1.2.2.2.toArray⟩, .string ⟨p.2.2.1.toArray⟩, .int .i64 p.2.2.2.1, .string ⟨p.2.2.2.2.1.toArray⟩, .string ⟨p.2.2.2.2.2.toArray⟩] 32)).alloc (.cells #[.string ⟨#[]⟩, .int .i64 0, .string ⟨#[]⟩, .string ⟨#[]⟩, .string ⟨#[]⟩, .int .i64 0, .string ⟨#[]⟩, .string ⟨#[]⟩, .string ⟨#[]⟩, .int .i64 0, .string ⟨#[]⟩, .string ⟨#[]⟩] 32) := ⟨_, rfl⟩
    have hB1 : RowKit.Below w.heap.size w W1 := by rw [hW1]; exact bstep (balloc _ _) (balloc _ _)
    have hP1 := hideB (show PatAt W1 w.heap.size p by rw [hW1]; exact hP0.below (balloc _ _))
    have hR1 : PatAt W1 (w.heap.size + 1) patZero := by
      have h := hR0 (w.alloc (.cells (encPt p).toArray 32))
      rw [show (w.alloc (.cells (encPt p).toArray 32)).heap.size = w.heap.size + 1 by simp] at h
      rw [hW1]
      exact h
    have hR1' := hideB hR1
    have hf1 := hideB (show ∀ j, j < 12 → W1.frozen? ⟨w.heap.size + 1, j, none⟩ = false by
      rw [hW1]
      intro j hj
      rcases (by omega : j = 0 ∨ j = 1 ∨ j = 2 ∨ j = 3 ∨ j = 4 ∨ j = 5 ∨ j = 6 ∨ j = 7 ∨ j = 8 ∨ j = 9 ∨ j = 10 ∨ j = 11) with rfl | rfl | rfl | rfl | rfl | rfl | rfl | rfl | rfl | rfl | rfl | rfl <;> go_simp)
    have hz1 : w.heap.size + 1 < W1.heap.size := by rw [hW1]; simp
    rw [← hW1]
    clear hW1 hP0 hR0 hR1
    go_loopw [25] (fun i wr => ∃ k : Nat, k ≤ m ∧ i = .int .i64 k ∧ Hid (termsN (vals.take k) = 0) ∧ RowKit.Below W1.heap.size W1 wr) (fun i wr => m - (intOf i).toNat)
    case atStart => exact ⟨0, Nat.zero_le _, rfl, rfl, RowKit.Below.refl _ _⟩
    case round =>
      obtain ⟨k, hk, rfl, hT, hbr⟩ := hrel
      by_cases hlt : k < m
      · have t1 : decide ((k : Int) < (m : Int)) = true := by simp; omega
        have i0 : (0 : Int) ≤ (k : Int) := by omega
        have i1 : (k : Int) < (m : Int) := by omega
        have hk' : k < vals.length := by rw [← Hm.out]; exact hlt
        obtain ⟨b, o, rfl, d0, d1, d2⟩ := (Ht.out.below (bstep hB1 hbr)).at k hk'
        have HCk := HC vals[k] (Htf.out _ (List.getElem_mem _))
        have hfirst := hideB (fun h => terms_first hk' hT.out h)
        have hnext := hideB (fun h => terms_next hk' hT.out h)
        go_wp2_with fail
        refine (HCk _).mono ?_
        rintro e w2 ⟨rfl, hb2⟩
        have hb3 := bstep (balloc wr _) hb2
        by_cases hx : tmChk vals[k] = 0
        · have hx' : checkN vals[k].1 vals[k].2.1 vals[k].2.2 = 0 := hx
          rw [hx', show errV 0 = .nilIface from rfl]
          go_wp2_with fail
          go_roundw
          case rel => exact ⟨k + 1, by omega, by go_num, hnext.out hx, bstep hbr hb3⟩
          case measure => simp [intOf]; omega
        · have hbb := bstep hbr hb3
          have hx1 : (tmChk vals[k] == 0) = false := by simpa using hx
          have hfi := hfirst.out hx
          obtain ⟨eR, eN⟩ := HE.out (tmChk vals[k]) hx (by unfold bindN; rw [if_neg (by simpa using Hl.out), hfi, if_pos hx])
          have HeR := hideB eR
          have HeN := hideB eN
          rw [show checkN vals[k].1 vals[k].2.1 vals[k].2.2 = tmChk vals[k] from rfl]
          clear hx hfi eR eN hfirst hnext d0 d1 d2 HCk
          generalize tmChk vals[k] = c at *
          have hz := (hR1'.out.below (hbb)).all
          dsimp only [patZero, tmZero] at hz
          obtain ⟨z0, z1, z2, z3, z4, z5, z6, z7, z8, z9, z10, z11⟩ := hz
          have f0 := ((hbb).frozen (p := ⟨w.heap.size + 1, 0, none⟩) hz1).trans (hf1.out 0 (by omega))
          have f1 := ((hbb).frozen (p := ⟨w.heap.size + 1, 1, none⟩) hz1).trans (hf1.out 1 (by omega))
          have f2 := ((hbb).frozen (p := ⟨w.heap.size + 1, 2, none⟩) hz1).trans (hf1.out 2 (by omega))
          have f3 := ((hbb).frozen (p := ⟨w.heap.size + 1, 3, none⟩) hz1).trans (hf1.out 3 (by omega))
          have f4 := ((hbb).frozen (p := ⟨w.heap.size + 1, 4, none⟩) hz1).trans (hf1.out 4 (by omega))
          have f5 := ((hbb).frozen (p := ⟨w.heap.size + 1, 5, none⟩) hz1).trans (hf1.out 5 (by omega))
          have f6 := ((hbb).frozen (p := ⟨w.heap.size + 1, 6, none⟩) hz1).trans (hf1.out 6 (by omega))
          have f7 := ((hbb).frozen (p := ⟨w.heap.size + 1, 7, none⟩) hz1).trans (hf1.out 7 (by omega))
          have f8 := ((hbb).frozen (p := ⟨w.heap.size + 1, 8, none⟩) hz1).trans (hf1.out 8 (by omega))
          have f9 := ((hbb).frozen (p := ⟨w.heap.size + 1, 9, none⟩) hz1).trans (hf1.out 9 (by omega))
          have f10 := ((hbb).frozen (p := ⟨w.heap.size + 1, 10, none⟩) hz1).trans (hf1.out 10 (by omega))
          have f11 := ((hbb).frozen (p := ⟨w.heap.size + 1, 11, none⟩) hz1).trans (hf1.out 11 (by omega))
          go_wp2_with fail
          obtain ⟨WZ, hWZ⟩ : ∃ WZ, WZ = zset w2 (w.heap.size + 1) := ⟨_, rfl⟩
          have hBZ : RowKit.Below w.heap.size w WZ := by rw [hWZ]; exact zset_below (bstep hB1 hbb) (Nat.le_succ _)
          have hZ : PatAt WZ (w.heap.size + 1) patZero := by rw [hWZ]; exact zset_pat (hR1'.out.below hbb)
          unfold zset at hWZ
          rw [← hWZ]
          clear hWZ z0 z1 z2 z3 z4 z5 z6 z7 z8 z9 z10 z11 f0 f1 f2 f3 f4 f5 f6 f7 f8 f9 f10 f11
          have hz' := hZ.all
          dsimp only [patZero, tmZero] at hz'
          obtain ⟨z0, z1, z2, z3, z4, z5, z6, z7, z8, z9, z10, z11⟩ := hz'
          exact bodyPost_ret (v := .tuple #[.agg #[.string ⟨#[]⟩, .int .i64 0, .string ⟨#[]⟩, .string ⟨#[]⟩, .string ⟨#[]⟩, .int .i64 0, .string ⟨#[]⟩, .string ⟨#[]⟩, .string ⟨#[]⟩, .int .i64 0, .string ⟨#[]⟩, .string ⟨#[]⟩], errV c]) (by simp [results, Tryz.results15, go_sem, *]) rfl ⟨by rw [HeR.out, HeN.out], hBZ⟩
      · obtain rfl : k = m := by omega
        have t1 : decide ((k : Int) < (k : Int)) = false := by simp
        have hT' : termsN vals = 0 := by have := hT.out; rwa [Hm.out, List.take_length] at this
        have HT := hideB hT'
        obtain ⟨p0, p1, p2, p3, p4, p5, p6, p7, p8, p9, p10, p11⟩ := (hP1.out.below hbr).all
        clear hT hT'
        go_wp2_with fail
        refine (HV _).mono ?_
        rintro e w3 ⟨hb3, ns, nd, nc, rfl, hns, hA⟩
        have hbb := bstep hbr hb3
        unfold VarsAns at hA
        clear p0 p1 p2 p3 p4 p5 p6 p7 p8 p9 p10 p11
        by_cases h0 : varsN p = 0
        · rw [if_pos h0] at hA
          subst hA
          rw [h0, show errV 0 = .nilIface from rfl]
          have hn3 : (varsL p).length ≤ 9223372036854775807 := by
            rcases hns.2 with ⟨_, h⟩ | ⟨g, cap, cur, _, _, _, h1, h2, _⟩
            · omega
            · unfold maxLen at h2
              omega
          obtain ⟨nd', nc', e2, hnw⟩ := own_w hns
          injection e2 with e3 _ e4
          subst e3
          subst e4
          have Hnw := hideB hnw
          have hMk := makeAns
          have H0 := hideB h0
          clear hnw hns HV HC h0 HE
          dsimp only
          have Hn2 := hideB hn2
          go_upto_block 2 with fail
          go_cut [14, 15, 48] from 49 to 63 (fun _ _ _ W' => Hid (EvAt W' w3.heap.size k (gvE p vars vals)) ∧ Hid (RowKit.Below w3.heap.size w3 W'))
          case first =>
            go_wp2_with fail
            go_loopw [48] (fun i wr => ∃ j : Nat, j ≤ k ∧ i = .int .i64 j ∧ Hid (EvAt wr w3.heap.size j (gvE p (vars.take j) (vals.take j))) ∧ RowKit.Below w3.heap.size w3 wr) (fun i wr => k - (intOf i).toNat)
            case atStart => exact ⟨0, Nat.zero_le _, rfl, by show EvAt _ _ _ _; rw [List.take_zero, List.take_zero, gvE_nil]; exact evAt_made w3, balloc _ _⟩
            case round =>
              obtain ⟨j, hj, rfl, hE, hbj⟩ := hrel
              by_cases hlt : j < k
              · have t2 : decide ((j : Int) < (k : Int)) = true := by simp; omega
                have i0 : (0 : Int) ≤ (j : Int) := by omega
                have i1 : (j : Int) < (k : Int) := by omega
                have hj2 : j < vals.length := by rw [← Hm.out]; exact hlt
                have hj1 : j < vars.length := by rw [Hl.out]; exact hj2
                have hB := bstep (bstep hB1 hbb) hbj
                obtain ⟨b1, o1, rfl, c1⟩ := (Hv.out.below hB).at j hj1
                obtain ⟨b2, o2, rfl, d0, d1, d2⟩ := (Ht.out.below hB).at j hj2
                have HCo := ContainsW_any nd nc (varsL p) vars[j] wr (Hnw.out.below hbj) hn3
                have HG := give_any w3.heap.size j _ vars[j] vals[j] wr hE.out (by omega) (Hvl.out _ (List.getElem_mem _))
                have hnx := hideB (gvE_next (p := p) hj1 hj2)
                unfold valTermM at HG
                go_wp2_with fail
                refine HCo.mono ?_
                rintro e w5 ⟨rfl, rfl⟩
                by_cases hin : vars[j] ∈ varsL p
                · rw [decide_eq_true hin]
                  have Hin := hideB hin
                  clear hin
                  go_wp2_with fail
                  refine HG.mono ?_
                  rintro e w6 ⟨rfl, he6, hg6⟩
                  have He6 := hideB he6
                  clear he6
                  dsimp only
                  go_wp2_with fail
                  go_roundw
                  case rel => exact ⟨j + 1, by omega, by go_num, by show EvAt _ _ _ _; rw [hnx.out, if_pos Hin.out]; exact He6.out, below_grownE hbj hg6 (Nat.le_refl _) (Nat.le_refl _)⟩
                  case measure => simp [intOf]; omega
                · rw [decide_eq_false hin]
                  have Hin := hideB hin
                  clear hin
                  go_wp2_with fail
                  go_roundw
                  case rel => exact ⟨j + 1, by omega, by go_num, by show EvAt _ _ _ _; rw [hnx.out, if_neg Hin.out]; exact hE.out.mono (by omega), hbj⟩
                  case measure => simp [intOf]; omega
              · obtain rfl : j = k := by omega
                have t2 : decide ((j : Int) < (j : Int)) = false := by simp
                have hall : gvE p (vars.take j) (vals.take j) = gvE p vars vals := by rw [List.take_of_length_le (by rw [Hl.out, ← Hm.out]; exact Nat.le_refl _), List.take_of_length_le (by rw [← Hm.out]; exact Nat.le_refl _)]
                rw [hall] at hE
                clear hall
                go_wp2_with fail
                go_meet
                case rel => exact ⟨hE, hbj⟩
          case rest =>
            obtain ⟨hE, hbj⟩ := hcut
            have hbw := bstep hbb hbj.out
            have e1 := fill_bind (p := p) (vars := vars) (vals := vals) (s := p.1) (.inl rfl)
            have e2 := fill_bind (p := p) (vars := vars) (vals := vals) (s := p.2.1) (.inr (.inl rfl))
            have e3 := fill_bind (p := p) (vars := vars) (vals := vals) (s := p.2.2) (.inr (.inr rfl))
            have hN0 : bindN vars vals p = 0 := by unfold bindN; rw [if_neg (by simpa using Hl.out), if_neg (by simpa using HT.out)]; exact H0.out
            have HeR : R = valPt (bindS vars vals p.1, bindS vars vals p.2.1, bindS vars vals p.2.2) := by rw [HR.out]; unfold bindB; rw [if_pos hN0]; rfl
            have HeN : N = 0 := by rw [HN.out, hN0]
            have lM : w3.heap.size ≠ w.heap.size + 1 := by have := hbb.size; omega
            refine go_on (by assumption) ?_
            exact pbindTail _ _ _ _ _ _ _ _ _ _ _ _ _ _ _ _ _ _ _ _ _ _ _ _ _ _ _ _ _ _ _ _ _ _ _ _ _ _ _ _ _ _ _ _ _ _ _ _ _ _ _ _ _ _ _ _ _ _ _ _ _ _ _ _ _ _ _ _ _ _ _ _ _ _ _ w.heap.size w3.heap.size k (gvE p vars vals) p _ _ _ wc (hP1.out.below hbw) (hR1'.out.below hbw) (fun q hq => (hbw.frozen (p := ⟨w.heap.size + 1, q, none⟩) hz1).trans (hf1.out q hq)) hE.out lM hp.1.1 hp.2.1.1 hp.2.2.1 e1 e2 e3 (fun W' hW' => ⟨by rw [HeR, HeN]; rfl, pset_below (bstep hB1 (bstep hbw hW')) (Nat.le_succ _)⟩)
        · have hx1 : (varsN p == 0) = false := by simpa using h0
          obtain ⟨eR, eN⟩ := HE.out (varsN p) h0 (by unfold bindN; rw [if_neg (by simpa using Hl.out), if_neg (by simpa using HT.out)])
          have HeR := hideB eR
          have HeN := hideB eN
          clear h0 eR eN hA hns HV
          generalize varsN p = c at *
          have hz := (hR1'.out.below (hbb)).all
          dsimp only [patZero, tmZero] at hz
          obtain ⟨z0, z1, z2, z3, z4, z5, z6, z7, z8, z9, z10, z11⟩ := hz
          have f0 := ((hbb).frozen (p := ⟨w.heap.size + 1, 0, none⟩) hz1).trans (hf1.out 0 (by omega))
          have f1 := ((hbb).frozen (p := ⟨w.heap.size + 1, 1, none⟩) hz1).trans (hf1.out 1 (by omega))
          have f2 := ((hbb).frozen (p := ⟨w.heap.size + 1, 2, none⟩) hz1).trans (hf1.out 2 (by omega))
          have f3 := ((hbb).frozen (p := ⟨w.heap.size + 1, 3, none⟩) hz1).trans (hf1.out 3 (by omega))
          have f4 := ((hbb).frozen (p := ⟨w.heap.size + 1, 4, none⟩) hz1).trans (hf1.out 4 (by omega))
          have f5 := ((hbb).frozen (p := ⟨w.heap.size + 1, 5, none⟩) hz1).trans (hf1.out 5 (by omega))
          have f6 := ((hbb).frozen (p := ⟨w.heap.size + 1, 6, none⟩) hz1).trans (hf1.out 6 (by omega))
          have f7 := ((hbb).frozen (p := ⟨w.heap.size + 1, 7, none⟩) hz1).trans (hf1.out 7 (by omega))
          have f8 := ((hbb).frozen (p := ⟨w.heap.size + 1, 8, none⟩) hz1).trans (hf1.out 8 (by omega))
          have f9 := ((hbb).frozen (p := ⟨w.heap.size + 1, 9, none⟩) hz1).trans (hf1.out 9 (by omega))
          have f10 := ((hbb).frozen (p := ⟨w.heap.size + 1, 10, none⟩) hz1).trans (hf1.out 10 (by omega))
          have f11 := ((hbb).frozen (p := ⟨w.heap.size + 1, 11, none⟩) hz1).trans (hf1.out 11 (by omega))
          go_wp2_with fail
          obtain ⟨WZ, hWZ⟩ : ∃ WZ, WZ = zset w3 (w.heap.size + 1) := ⟨_, rfl⟩
          have hBZ : RowKit.Below w.heap.size w WZ := by rw [hWZ]; exact zset_below (bstep hB1 hbb) (Nat.le_succ _)
          have hZ : PatAt WZ (w.heap.size + 1) patZero := by rw [hWZ]; exact zset_pat (hR1'.out.below hbb)
          unfold zset at hWZ
          rw [← hWZ]
          clear hWZ z0 z1 z2 z3 z4 z5 z6 z7 z8 z9 z10 z11 f0 f1 f2 f3 f4 f5 f6 f7 f8 f9 f10 f11
          have hz' := hZ.all
          dsimp only [patZero, tmZero] at hz'
          obtain ⟨z0, z1, z2, z3, z4, z5, z6, z7, z8, z9, z10, z11⟩ := hz'
          exact bodyPost_ret (v := .tuple #[.agg #[.string ⟨#[]⟩, .int .i64 0, .string ⟨#[]⟩, .string ⟨#[]⟩, .string ⟨#[]⟩, .int .i64 0, .string ⟨#[]⟩, .string ⟨#[]⟩, .string ⟨#[]⟩, .int .i64 0, .string ⟨#[]⟩, .string ⟨#[]⟩], errV c]) (by simp [results, Tryz.results15, go_sem, *]) rfl ⟨by rw [HeR.out, HeN.out], hBZ⟩
  · have hN : bindN vars vals p = 3 := by unfold bindN; rw [if_pos hl]
    have hB : bindB vars vals p = patZero := by unfold bindB; rw [hN]; rfl
    rw [hN, hB, Hz.out]
    unfold valPt
    have t1 : ((vars.length : Int) == (vals.length : Int)) = false := by simp; omega
    clear HV hN hB
    generalize vars.length = n at *
    generalize vals.length = m at *
    go_enter Tryz.func15, Tryz.ntmps15
    go_wp2_with fail
    refine bodyPost_ret (v := .tuple #[.agg #[.string ⟨#[]⟩, .int .i64 0, .string ⟨#[]⟩, .string ⟨#[]⟩, .string ⟨#[]⟩, .int .i64 0, .string ⟨#[]⟩, .string ⟨#[]⟩, .string ⟨#[]⟩, .int .i64 0, .string ⟨#[]⟩, .string ⟨#[]⟩], errV 3]) (by simp [results, Tryz.results15, go_sem]; rfl) rfl ⟨rfl, bstep (balloc _ _) (balloc _ _)⟩
end Go.Proofs.YtbacenhgedopjaaGreatDoor
