import Derived.Test.YtnphjdckdkjopaaGreatDoorMA0x10
import Derived.Test.YtnphjdckdkjopaaGreatDoorMA0x4
import Derived.Lib.AppendStr
import Derived.Test.YtnphjdckdkjopaaGreatDoorMA0x8
import Derived.Test.YtnphjdckdkjopaaGreatDoorMA0x9
import Derived.Deep.Upon
import Derived.Shelf.SlMaps.Clone
import Derived.Deep.RegionLaw

/- The program's journal in memory: its bytes, what is safe, its steps; stops, write. -/
namespace Go.Proofs.YtnphjdckdkjopaaGreatDoor
open Go Go.RowKit Go.Proofs Go.Maps
set_option synthInstance.maxSize 1000

attribute [local go_sem] eql_errV neq_errV guard_errV

/-- the journal at block j: its repo at r, its bytes l in a row of its own -/
structure JB (w : World) (j r : Nat) (bv : Value) (l : List UInt8) (sf : Nat) (a : Int) (st : Bool) : Prop where
  blk : w.heap[j]? = some (.cells #[.pointer (some ⟨r, 0, none⟩), bv, .int .i64 (sf : Int), .int .i64 a, .bool st] 67)
  row : w.ownsRow 0 5 1 bv l.length (bytesV l)
  ne : bv.ownBlock ≠ some j
theorem JB.lt {w : World} {j r : Nat} {bv : Value} {l : List UInt8} {sf : Nat} {a : Int} {st : Bool} (h : JB w j r bv l sf a st) : j < w.heap.size := (Array.getElem?_eq_some_iff.1 h.blk).1
theorem JB.rlt {w : World} {j r : Nat} {bv : Value} {l : List UInt8} {sf : Nat} {a : Int} {st : Bool} (h : JB w j r bv l sf a st) : ∀ g, bv.ownBlock = some g → g < w.heap.size := fun g hg => (h.row.lt g hg).2
theorem JB.keep {w w' : World} {j r : Nat} {bv : Value} {l : List UInt8} {sf : Nat} {a : Int} {st : Bool} (h : JB w j r bv l sf a st) (h1 : w'.heap[j]? = w.heap[j]?) (h2 : ∀ g, bv.ownBlock = some g → w'.heap[g]? = w.heap[g]?) : JB w' j r bv l sf a st :=
  ⟨h1.trans h.blk, prow_keep h.row h2, h.ne⟩
theorem JB.below {w w' : World} {j r : Nat} {bv : Value} {l : List UInt8} {sf : Nat} {a : Int} {st : Bool} (h : JB w j r bv l sf a st) (hb : RowKit.Below w.heap.size w w') : JB w' j r bv l sf a st :=
  h.keep (hb.block j h.lt) fun g hg => hb.block g (h.rlt g hg)
theorem JB.cells {w : World} {j r : Nat} {bv : Value} {l : List UInt8} {sf : Nat} {a : Int} {st : Bool} (h : JB w j r bv l sf a st) :
    (w.cell? ⟨j, 0, none⟩ = some (.pointer (some ⟨r, 0, none⟩)) ∧ w.cell? ⟨j, 1, none⟩ = some bv ∧ w.cell? ⟨j, 2, none⟩ = some (.int .i64 (sf : Int)) ∧ w.cell? ⟨j, 3, none⟩ = some (.int .i64 a) ∧ w.cell? ⟨j, 4, none⟩ = some (.bool st)) ∧ ∀ o, w.frozen? ⟨j, o, none⟩ = false := by
  have h := h.blk
  refine ⟨⟨?_, ?_, ?_, ?_, ?_⟩, fun o => ?_⟩ <;> simp [World.cell?, World.frozen?, h]
theorem JB.set1 {w : World} {j r : Nat} {bv bv' : Value} {l' : List UInt8} {sf : Nat} {a : Int} {st : Bool} (h : w.heap[j]? = some (.cells #[.pointer (some ⟨r, 0, none⟩), bv, .int .i64 (sf : Int), .int .i64 a, .bool st] 67)) (hr : w.ownsRow 0 5 1 bv' l'.length (bytesV l')) (hn : bv'.ownBlock ≠ some j) : JB (w.setCell ⟨j, 1, none⟩ bv') j r bv' l' sf a st :=
  ⟨by simpa using heap_setCell_same w j 1 _ _ bv' h, prow_keep hr fun g hg => heap_setCell_other _ _ _ _ (fun e => hn (by subst e; exact hg)), hn⟩
theorem JB.set2 {w : World} {j r : Nat} {bv : Value} {l : List UInt8} {sf : Nat} {a : Int} {st : Bool} (h : JB w j r bv l sf a st) (n : Nat) : JB (w.setCell ⟨j, 2, none⟩ (.int .i64 (n : Int))) j r bv l n a st :=
  ⟨by simpa using heap_setCell_same w j 2 _ _ (.int .i64 (n : Int)) h.blk, prow_keep h.row fun g hg => heap_setCell_other _ _ _ _ (fun e => h.ne (by subst e; exact hg)), h.ne⟩
theorem JB.set3 {w : World} {j r : Nat} {bv : Value} {l : List UInt8} {sf : Nat} {a : Int} {st : Bool} (h : JB w j r bv l sf a st) (n : Int) : JB (w.setCell ⟨j, 3, none⟩ (.int .i64 n)) j r bv l sf n st :=
  ⟨by simpa using heap_setCell_same w j 3 _ _ (.int .i64 n) h.blk, prow_keep h.row fun g hg => heap_setCell_other _ _ _ _ (fun e => h.ne (by subst e; exact hg)), h.ne⟩
theorem JB.set4 {w : World} {j r : Nat} {bv : Value} {l : List UInt8} {sf : Nat} {a : Int} {st : Bool} (h : JB w j r bv l sf a st) (b : Bool) : JB (w.setCell ⟨j, 4, none⟩ (.bool b)) j r bv l sf a b :=
  ⟨by simpa using heap_setCell_same w j 4 _ _ (.bool b) h.blk, prow_keep h.row fun g hg => heap_setCell_other _ _ _ _ (fun e => h.ne (by subst e; exact hg)), h.ne⟩

def StopsAns (w : World) (j r : Nat) (bv : Value) (l : List UInt8) (sf : Nat) (a : Int) (st : Bool) (e : Ending) (w' : World) : Prop := e = .returned (.bool (stepS a st)) ∧ JB w' j r bv l sf (stepA a) (stepS a st) ∧ But j w w' ∧ w'.heap.size = w.heap.size
set_option maxHeartbeats 1000000 in
theorem stops_any (w : World) (j r : Nat) (bv : Value) (l : List UInt8) (sf : Nat) (a : Int) (st : Bool) (h : JB w j r bv l sf a st) (h0 : -9223372036854775808 ≤ a) (h1 : a ≤ 9223372036854775807) :
    Calls Tryz.prog 25 #[.pointer (some ⟨j, 0, none⟩)] w (StopsAns w j r bv l sf a st) := by
  have H := hideO h
  obtain ⟨⟨c0, c1, c2, c3, c4⟩, fz⟩ := h.cells
  have f3 := fz 3
  have f4 := fz 4
  have hlt := h.lt
  by_cases ha : a = 0
  · subst ha
    have fin : Hid (StopsAns w j r bv l sf 0 st (.returned (.bool true)) (w.setCell ⟨j, 4, none⟩ (.bool true))) := by
      have e1 : stepS 0 st = true := by unfold stepS; simp
      have e2 : stepA 0 = 0 := rfl
      refine ⟨by rw [e1], by rw [e1, e2]; exact H.out.set4 true, But.set _, by simp [World.setCell]⟩
    clear h h0 h1 fz
    generalize StopsAns w j r bv l sf 0 st = G at *
    go_enter Tryz.func25, Tryz.ntmps25
    go_wp2
    exact fin.out
  · by_cases hp : 0 < a
    · have hw : IntKind.i64.wrap (a - 1) = a - 1 := by simp [IntKind.wrap, IntKind.bits, IntKind.signed]; omega
      have ha' : (a == 0) = false := by simpa using ha
      have hp' : a > 0 := hp
      have fin : Hid (StopsAns w j r bv l sf a st (.returned (.bool st)) (w.setCell ⟨j, 3, none⟩ (.int .i64 (a - 1)))) := by
        have e1 : stepS a st = st := by unfold stepS; simp [ha]
        have e2 : stepA a = a - 1 := if_pos hp
        refine ⟨by rw [e1], by rw [e1, e2]; exact H.out.set3 (a - 1), But.set _, by simp [World.setCell]⟩
      clear h h0 h1 fz
      generalize StopsAns w j r bv l sf a st = G at *
      go_enter Tryz.func25, Tryz.ntmps25
      go_wp2
      exact fin.out
    · have ha' : (a == 0) = false := by simpa using ha
      have hp' : ¬ a > 0 := hp
      have fin : Hid (StopsAns w j r bv l sf a st (.returned (.bool st)) w) := by
        have e1 : stepS a st = st := by unfold stepS; simp [ha]
        have e2 : stepA a = a := if_neg hp
        refine ⟨by rw [e1], by rw [e1, e2]; exact H.out, But.of (RowKit.Below.refl _ _), rfl⟩
      clear h h0 h1 fz
      generalize StopsAns w j r bv l sf a st = G at *
      go_enter Tryz.func25, Tryz.ntmps25
      go_wp2
      exact fin.out

/-- a text behind bytes of one's own -/
theorem app_bytes {w : World} (ty : TypeId) {bv : Value} {l : List UInt8} (h : w.ownsRow 0 5 1 bv l.length (bytesV l)) (s : List UInt8) (hl : l.length + s.length ≤ 100000000000) :
    ∃ bv' w', (Builtin.append_ #[65, 9] ty #[bv, .string ⟨s.toArray⟩]).run Tryz.prog w = .ok bv' w' ∧ w'.ownsRow 0 5 1 bv' (l ++ s).length (bytesV (l ++ s)) ∧ w.grownBy w' bv.ownBlock ∧ ∀ g, bv'.ownBlock = some g → bv.ownBlock = some g ∨ w.heap.size ≤ g := by
  obtain ⟨i0, hi0, hz⟩ := Option.map_eq_some_iff.1 infoU8
  have hz0 : i0.zero = some (.int .u8 0) := congrArg Prod.fst hz
  have hz1 : i0.size = 1 := congrArg (fun p => p.2.1) hz
  have hz2 : i0.bytes = 1 := congrArg (fun p => p.2.2) hz
  have hsz : (⟨s.toArray⟩ : ByteArray).size = s.length := rfl
  have hbc : Lib.strCells ⟨s.toArray⟩ = bytesV s := by simp [Lib.strCells, bytesV]
  obtain ⟨v', w', hr, ho, hgr, _⟩ := Lib.run_append_own_string (P := Tryz.prog) (w := w) 0 65 9 ty 5 i0 Tryz.underlying65 Tryz.underlying9 hi0 hz0 hz1 hz2 bv l.length (bytesV l) h ⟨s.toArray⟩ (by rw [hsz]; unfold maxLen; omega) (by rw [hsz]; omega) (Nat.zero_le _)
  refine ⟨v', w', hr, ?_, hgr, ?_⟩
  · rw [hsz, hbc] at ho
    rw [List.length_append, bytesV_app]
    exact ho
  · rcases h.2 with ⟨rfl, h0⟩ | ⟨g, cap, cur, rfl, hbg, hg, hnc, hcm, hcs, htake⟩
    · have hl0 : l = [] := List.eq_nil_of_length_eq_zero h0
      subst hl0
      obtain ⟨v2, w2, hr2, ho2, _⟩ := Lib.run_append_own_string (P := Tryz.prog) (w := w) w.heap.size 65 9 ty 5 i0 Tryz.underlying65 Tryz.underlying9 hi0 hz0 hz1 hz2 (.slice none 0 0) 0 [] (World.ownsRow_nil _ _ _ _) ⟨s.toArray⟩ (by rw [hsz]; unfold maxLen; simp only [List.length_nil] at hl; omega) (by rw [hsz]; simp only [List.length_nil] at hl; omega) (Nat.le_refl _)
      have e := hr.symm.trans hr2
      injection e with e1 e2
      subst e1
      exact fun j hj => Or.inr (ho2.lt j hj).1
    · by_cases hroom : l.length + s.length ≤ cap
      · have hr2 := Lib.run_append_room_string (P := Tryz.prog) (w := w) 65 9 ty 5 i0 Tryz.underlying65 Tryz.underlying9 hi0 hz1 g l.length cap cur hg ⟨s.toArray⟩ (by rw [hsz]; exact hroom) (by rw [hsz]; simp only [Nat.mul_one] at hcs; omega)
        have e := hr.symm.trans hr2
        injection e with e1 e2
        subst e1
        exact fun j hj => Or.inl hj
      · have hr2 := Lib.run_append_grow_string (P := Tryz.prog) (w := w) 65 9 ty 5 i0 (.int .u8 0) Tryz.underlying65 Tryz.underlying9 hi0 hz0 ⟨g, 0, none⟩ l.length cap (bytesV l) (by rw [hz1, bytesV_len, Nat.mul_one]) (h.cells (g := g) rfl) ⟨s.toArray⟩ (by rw [hsz]; omega) (by rw [hsz]; omega) (by rw [hz2]; exact growslice_fits (by rw [hsz]; omega) (by rw [hsz]; omega))
        have e := hr.symm.trans hr2
        injection e with e1 e2
        subst e1
        exact fun j hj => Or.inr (by simp only [Value.ownBlock, Option.some.injEq] at hj; omega)

/-- at a step of a region that draws: an append of a text whose run is known -/
theorem step_appendM {P : Program} {w : World} {ops : Array Oper} {o : Oper} {a : Act} {K : Act → World → Prop} {Q : Exit → Act → World → Prop} {E : Prop} (hgd : o.guard = none) (s x : Operand) (t u : TypeId)
    (ho : o.op = .call { callee := .builtin .append, args := #[s, x], argTypes := #[t, u] }) (v y : Value) (hs : a.eval s = v) (hx : a.eval x = y) {v' : Value} {w' : World}
    (hr : (Builtin.append_ #[t, u] o.type #[v, y]).run P w = .ok v' w') (h : K (a.put o.dst v') w') : if Region.wanted o (yielded ops a.tmps) = true then Oper.wp P o a w K Q else E := by
  rw [if_pos (by simp [Region.wanted, hgd])]
  unfold Oper.wp execOp
  simp only [ho, resolve, invoke, builtin, Sem.run_bind, Sem.run_pure, Result.andThen_ok, List.map_toArray, List.map_cons, List.map_nil, hs, hx, hr]
  exact h
/-- an append of a text whose run is known -/
theorem wpList_append_eqM {P : Program} {w w' : World} {ops : Array Oper} {rest : List Oper} {o : Oper} {a : Act} {Q : Exit → Act → World → Prop} {v x y : Value} (hgd : o.guard = none) (s z : Operand) (t u : TypeId)
    (ho : o.op = .call { callee := .builtin .append, args := #[s, z], argTypes := #[t, u] }) (hs : a.eval s = x) (hx : a.eval z = y) (hrun : (Builtin.append_ #[t, u] o.type #[x, y]).run P w = .ok v w')
    (h : wpList P ops Q rest (a.put o.dst v) w') : wpList P ops Q (o :: rest) a w := by
  refine wpList_plain hgd fun K hK => ?_
  unfold Oper.wp
  simp [execOp, ho, resolve, invoke, builtin, hs, hx, hrun, Result.andThen]
  exact hK _ _ h
/-- a text behind the journal's bytes, stored -/
theorem JB.more {w : World} {j r : Nat} {bv : Value} {l : List UInt8} {sf : Nat} {a : Int} {st : Bool} (h : JB w j r bv l sf a st) (s : List UInt8) (hl : l.length + s.length ≤ 100000000000) (ty : TypeId) :
    ∃ bv' w', (Builtin.append_ #[65, 9] ty #[bv, .string ⟨s.toArray⟩]).run Tryz.prog w = .ok bv' w' ∧ w'.cell? ⟨j, 1, none⟩ = some bv ∧ w'.frozen? ⟨j, 1, none⟩ = false ∧ j < w'.heap.size ∧ (∃ ad n c, bv' = .slice ad n c) ∧
      JB (w'.setCell ⟨j, 1, none⟩ bv') j r bv' (l ++ s) sf a st ∧ Offs (fun i => i = j ∨ bv.ownBlock = some i) w (w'.setCell ⟨j, 1, none⟩ bv') ∧ ∀ g, bv'.ownBlock = some g → bv.ownBlock = some g ∨ w.heap.size ≤ g := by
  obtain ⟨bv', w', hr, ho, hg, hn⟩ := app_bytes ty h.row s hl
  have hlt : j < w.heap.size := h.lt
  have hj : w'.heap[j]? = some (.cells #[.pointer (some ⟨r, 0, none⟩), bv, .int .i64 (sf : Int), .int .i64 a, .bool st] 67) := (hg.block j hlt (fun e => h.ne e.symm)).trans h.blk
  have hne : bv'.ownBlock ≠ some j := fun e => (hn j e).elim h.ne (fun h => by have : w.heap.size ≤ j := h; omega)
  refine ⟨bv', w', hr, by simp [World.cell?, hj], by simp [World.frozen?, hj], (Array.getElem?_eq_some_iff.1 hj).1, (by obtain ⟨ad, c, e⟩ := prow_form ho; exact ⟨ad, _, c, e⟩), JB.set1 hj ho hne, ⟨?_, ?_, ?_, ?_, fun k hk hO => ?_⟩, fun g hg' => hn g hg'⟩
  · exact hg.os
  · exact hg.tape
  · exact hg.output
  · have := hg.size
    simpa [World.setCell] using this
  · rw [heap_setCell_other _ _ _ _ (fun e => hO (Or.inl e))]
    exact hg.block k hk (fun e => hO (Or.inr e.symm))

def halfL (l : List UInt8) : List UInt8 := l.take (l.length / 2)
/-- behind a record's writing: all of it, or half of it where the journal stops -/
def wrote (a : Int) (l : List UInt8) (d : Dd) : List UInt8 := if a = 0 then l ++ halfL (recD d) else l ++ recD d
def WriteAns (w : World) (j r : Nat) (bv : Value) (l : List UInt8) (sf : Nat) (a : Int) (d : Dd) (e : Ending) (w' : World) : Prop := e = .returned (errV (if a = 0 then 6 else 0)) ∧ ∃ bv', JB w' j r bv' (wrote a l d) sf (stepA a) (decide (a = 0)) ∧ Offs (fun i => i = j ∨ bv.ownBlock = some i) w w' ∧ ∀ g, bv'.ownBlock = some g → bv.ownBlock = some g ∨ w.heap.size ≤ g
set_option maxHeartbeats 4000000 in
set_option maxRecDepth 100000 in
theorem write_any (w : World) (j r : Nat) (bv : Value) (l : List UInt8) (sf : Nat) (a : Int) (d : Dd) (ad : Option Addr) (ca : Nat) (h : JB w j r bv l sf a false) (h0 : -9223372036854775808 ≤ a) (h1 : a ≤ 9223372036854775807) (hd : InD w d ad ca) (ho : OkD d) (hL : ∀ W, RowKit.Below w.heap.size w W → LaidN W) (hl : l.length ≤ 1000000000) :
    Calls Tryz.prog 46 #[.pointer (some ⟨j, 0, none⟩), valD d ad ca] w (WriteAns w j r bv l sf a d) := by
  have H1 := fun W (hb : RowKit.Below w.heap.size w W) => record_any W d ad ca (hd.below hb) ho (fun W' hb' => hL W' (bstep hb hb'))
  have H2 := fun W (hb : RowKit.Below w.heap.size w W) => stops_any W j r bv l sf a false (h.below hb) h0 h1
  have hrl := rec_len ho
  have H := hideO h
  clear hd ho hL
  obtain ⟨k, nm, S, m, n⟩ := d
  unfold valD at *
  by_cases ha : a = 0
  · have e1 : stepS a false = true := by unfold stepS; simp [ha]
    have fin : Hid (∀ w2 bv' w3, RowKit.Below w.heap.size w w2 ∨ Offs (fun i => i = j ∨ bv.ownBlock = some i) w w2 → JB w3 j r bv' (l ++ halfL (recD (k, nm, S, m, n))) sf (stepA a) true → Offs (fun i => i = j ∨ bv.ownBlock = some i) w2 w3 → (∀ g, bv'.ownBlock = some g → bv.ownBlock = some g ∨ w.heap.size ≤ g) → WriteAns w j r bv l sf a (k, nm, S, m, n) (.returned (.iface 72 (.int .i64 6))) w3) := fun w2 bv' w3 h2 hj ho hn => by
      have o1 : Offs (fun i => i = j ∨ bv.ownBlock = some i) w w2 := h2.elim Offs.of_below id
      refine ⟨by rw [if_pos ha]; rfl, bv', ?_, o1.trans ho fun _ h => Or.inl h, hn⟩
      unfold wrote
      rw [if_pos ha, decide_eq_true ha]
      exact hj
    generalize WriteAns w j r bv l sf a (k, nm, S, m, n) = G at *
    generalize recD (k, nm, S, m, n) = B at *
    go_enter Tryz.func46, Tryz.ntmps46
    go_wp2_with fail
    refine (H1 _ (by first | exact RowKit.Below.refl _ _ | exact balloc _ _)).mono ?_
    rintro e w1 ⟨rfl, hb1'⟩
    have hb1 : RowKit.Below w.heap.size w w1 := by first | exact hb1' | exact bstep (balloc _ _) hb1'
    clear hb1'
    dsimp only
    go_wp2_with fail
    refine (H2 _ hb1).mono ?_
    rintro e w2 ⟨rfl, hj2, hk2, hz2⟩
    rw [e1] at hj2 ⊢
    obtain ⟨bv', w3, hr9, q1, q2, q3, ⟨a9, n9, c9, rfl⟩, hj3, ho3', hn3⟩ := (hj2.below (RowKit.Below.refl _ w2).drew).more (halfL B) (by unfold halfL; rw [List.length_take]; omega) 65
    obtain ⟨⟨c0, c1, c2, c3, c4⟩, fz⟩ := hj2.cells
    have hlj := hj2.lt
    have ho3 := (Offs.of_below (O := fun i => i = j ∨ bv.ownBlock = some i) (RowKit.Below.refl _ w2).drew).trans ho3' fun _ h => Or.inl h
    clear ho3'
    have hq : IntKind.i64.wrap ((B.length : Int) / 2) = ((B.length / 2 : Nat) : Int) := by
      simp [IntKind.wrap, IntKind.bits, IntKind.signed]
      omega
    have hql : B.length / 2 ≤ B.length := by omega
    have ht := takeX B (B.length / 2)
    have hsz : (⟨B.toArray⟩ : ByteArray).size = B.length := rfl
    have hfin := fin.out w2 _ _ (Or.inr ((Offs.of_below hb1).trans (Offs.of_grown hk2 (O := fun i => i = j ∨ bv.ownBlock = some i) (fun k e => by cases e; exact Or.inl rfl)) fun _ h => Or.inl h)) hj3 ho3 (fun g hg => (hn3 g hg).imp id (fun h => by have := hb1.size; have h : w2.heap.size ≤ g := h; omega))
    have HF := hideO hfin
    clear hj3 ho3 hn3 hfin fin H1 H2 hb1 hk2 hz2 hj2 fz H h
    unfold halfL at hr9
    generalize B.length / 2 = q at *
    dsimp only
    go_wp2_with fail
    go_region_law (refine step_appendM rfl (.tmp 21) (.tmp 26) 65 9 rfl _ _ rfl rfl hr9 ?_)
    go_wp2_with fail
    exact HF.out
  · have e1 : stepS a false = false := by unfold stepS; simp [ha]
    have fin : Hid (∀ w2 bv' w3, Offs (fun i => i = j ∨ bv.ownBlock = some i) w w2 → JB w3 j r bv' (l ++ recD (k, nm, S, m, n)) sf (stepA a) false → Offs (fun i => i = j ∨ bv.ownBlock = some i) w2 w3 → (∀ g, bv'.ownBlock = some g → bv.ownBlock = some g ∨ w.heap.size ≤ g) → WriteAns w j r bv l sf a (k, nm, S, m, n) (.returned .nilIface) w3) := fun w2 bv' w3 o1 hj ho hn => by
      refine ⟨by rw [if_neg ha]; rfl, bv', ?_, o1.trans ho fun _ h => Or.inl h, hn⟩
      unfold wrote
      rw [if_neg ha, decide_eq_false ha]
      exact hj
    generalize WriteAns w j r bv l sf a (k, nm, S, m, n) = G at *
    generalize recD (k, nm, S, m, n) = B at *
    go_enter Tryz.func46, Tryz.ntmps46
    go_wp2_with fail
    refine (H1 _ (by first | exact RowKit.Below.refl _ _ | exact balloc _ _)).mono ?_
    rintro e w1 ⟨rfl, hb1'⟩
    have hb1 : RowKit.Below w.heap.size w w1 := by first | exact hb1' | exact bstep (balloc _ _) hb1'
    clear hb1'
    dsimp only
    go_wp2_with fail
    refine (H2 _ hb1).mono ?_
    rintro e w2 ⟨rfl, hj2, hk2, hz2⟩
    rw [e1] at hj2 ⊢
    obtain ⟨bv', w3, hr9, q1, q2, q3, ⟨a9, n9, c9, rfl⟩, hj3, ho3, hn3⟩ := hj2.more B (by omega) 65
    obtain ⟨⟨c0, c1, c2, c3, c4⟩, fz⟩ := hj2.cells
    have hlj := hj2.lt
    have hfin := fin.out w2 _ _ ((Offs.of_below hb1).trans (Offs.of_grown hk2 (O := fun i => i = j ∨ bv.ownBlock = some i) (fun k e => by cases e; exact Or.inl rfl)) fun _ h => Or.inl h) hj3 ho3 (fun g hg => (hn3 g hg).imp id (fun h => by have := hb1.size; have h : w2.heap.size ≤ g := h; omega))
    have HF := hideO hfin
    clear hj3 ho3 hn3 hfin fin H1 H2 hb1 hk2 hz2 hj2 fz H h
    dsimp only
    go_wp2_with (at_builtin; refine wpList_append_eqM rfl _ _ 65 9 rfl rfl rfl hr9 ?_)
    exact HF.out
end Go.Proofs.YtnphjdckdkjopaaGreatDoor

/- slices.Clone at commits. -/
namespace Go.Proofs.YtnphjdckdkjopaaGreatDoor
open Go Go.RowKit Go.Proofs Go.Maps
set_option synthInstance.maxSize 1000

/-- an empty row of one's own -/
theorem own_emptyC (w : World) (t : TypeId) (sz : Nat) : (w.alloc (.cells #[] t)).ownsRow w.heap.size t sz (.slice (some ⟨w.heap.size, 0, none⟩) 0 0) 0 [] :=
  ⟨by simp, Or.inr ⟨w.heap.size, 0, #[], rfl, Nat.le_refl _, heap_alloc_new w _, Nat.le_refl _, by decide, by simp, by simp⟩⟩
/-- a row in whatever block, appended to an empty row of one's own: another row of one's own -/
theorem row_clone {w : World} (t ty e : TypeId) (z : Value) (sz bytes : Nat) (hu : Tryz.prog.underlying t = some (.slice e)) (hinfo : (Tryz.prog.info? e).map (fun i => (i.zero, i.size, i.bytes)) = some (some z, sz, bytes)) (hzs : z.cells.size = sz) (hsz : 0 < sz) {v : Value} {n : Nat} {cs : List Value} (h : w.ownsRow 0 e sz v n cs) (h1 : ∀ u ∈ cs, u.oneCell' = true) (hn : n ≤ 1000000000) (hbn : n * bytes ≤ 140737488355328) (hv : ∀ c, v ≠ .slice none 0 c) :
    ∃ v' w', (Builtin.append_ #[t, t] ty #[.slice (some ⟨w.heap.size, 0, none⟩) 0 0, v]).run Tryz.prog (w.alloc (.cells #[] e)) = .ok v' w' ∧ w'.ownsRow w.heap.size e sz v' n cs ∧ RowKit.Below w.heap.size w w' := by
  obtain ⟨i0, hi0, hz⟩ := Option.map_eq_some_iff.1 hinfo
  simp only [Prod.mk.injEq] at hz
  obtain ⟨hz0, hz1, hz2⟩ := hz
  rcases h.2 with ⟨e0, hv0⟩ | ⟨g, cap, cur, rfl, hg, hm, hnc, hcm, hcs, htk⟩
  · exact absurd e0 (hv _)
  · by_cases h0 : n = 0
    · subst h0
      have hc0 : cs = [] := List.eq_nil_of_length_eq_zero (by rw [h.1]; simp)
      subst hc0
      refine ⟨_, _, run_append_nothing (P := Tryz.prog) (w.alloc (.cells #[] e)) t t ty e i0 hu hi0 (some ⟨w.heap.size, 0, none⟩) 0 0 (Nat.le_refl _) _ ?_, own_emptyC w e sz, balloc _ _⟩
      exact Src.ofSlice (w.alloc (.cells #[] e)) (size := i0.size) hu ⟨g, 0, none⟩ 0 cap [] (by simp) (fun j u hj => by simp at hj) (fun u hu => by simp at hu)
    · obtain ⟨g', cap', w', hr, ho, hgr, _, _⟩ := run_append_lies (P := Tryz.prog) (w.alloc (.cells #[] e)) t ty w.heap.size e i0 z sz bytes hu hi0 hz0 hz1 hz2 hzs hsz _ 0 [] (own_emptyC w e sz) ⟨g, 0, none⟩ n cap cs (by rw [h.1]) (fun j u hj => by
        have hlt : j < cs.length := (List.getElem?_eq_some_iff.1 hj).1
        rw [h.1] at hlt
        have := h.cellAt j hlt
        rw [Addr.add_lit]
        have hb' : g < w.heap.size := (h.lt g rfl).2
        show (w.alloc _).cell? ⟨g, 0 + j, none⟩ = _
        rw [Nat.zero_add, World.cell?_of_block (w := w) (a := ⟨g, j, none⟩) (Below.heap_alloc _ _ g hb'), this]
        exact hj) h1 (by omega) (by unfold maxLen; omega) (by rw [Nat.zero_add]; exact hbn) (by simp) _ rfl
      refine ⟨_, w', hr, by simpa using ho, ?_⟩
      exact (balloc w (.cells #[] e)).grown hgr (by simp) fun j hj => by cases hj; exact Nat.le_refl _

set_option maxHeartbeats 2000000 in
set_option maxRecDepth 100000 in
theorem CloneCm_any (w : World) (cv : Value) (l : List Cm) (P : Nat → Prop) (h : ComRow w cv l P) (hl : l.length ≤ 1000) :
    Calls Tryz.prog 66 #[cv] w fun e w' => ∃ cv', e = .returned cv' ∧ ComRow w' cv' l P ∧ RowKit.Below w.heap.size w w' ∧ ∀ j, cv'.ownBlock = some j → w.heap.size ≤ j := by
  obtain ⟨cs, ho, h2⟩ := h
  have h1 : ∀ u ∈ cs, u.oneCell' = true := fun u hu => by
    obtain ⟨j, hj, rfl⟩ := List.getElem_of_mem hu
    have hj' := hj
    rw [ho.1] at hj'
    obtain ⟨i, k, hi, hk, rfl⟩ : ∃ i k, i < l.length ∧ k < 3 ∧ j = i * 3 + k := ⟨j / 3, j % 3, by omega, by omega, by omega⟩
    obtain ⟨a, c, q0, q1, q2, _⟩ := h2 i hi
    rcases (by omega : k = 0 ∨ k = 1 ∨ k = 2) with rfl | rfl | rfl
    · rw [show cs[i * 3 + 0] = _ from (List.getElem?_eq_some_iff.1 q0).2]; rfl
    · rw [show cs[i * 3 + 1] = _ from (List.getElem?_eq_some_iff.1 q1).2]; rfl
    · rw [show cs[i * 3 + 2] = _ from (List.getElem?_eq_some_iff.1 q2).2]; rfl
  have fin : ∀ w' cv', w'.ownsRow w.heap.size 113 3 cv' l.length cs → RowKit.Below w.heap.size w w' → ComRow w' cv' l P ∧ RowKit.Below w.heap.size w w' ∧ ∀ j, cv'.ownBlock = some j → w.heap.size ≤ j := fun w' cv' ho' hb => by
    refine ⟨⟨cs, ⟨ho'.1, ?_⟩, fun i hi => ?_⟩, hb, fun j hj => (ho'.lt j hj).1⟩
    · rcases ho'.2 with q | ⟨g, cap, cur, q1, q2, q3⟩
      · exact Or.inl q
      · exact Or.inr ⟨g, cap, cur, q1, Nat.zero_le _, q3⟩
    · obtain ⟨a, c, q0, q1, q2, q3, q4⟩ := h2 i hi
      exact ⟨a, c, q0, q1, q2, q3.below hb, q4⟩
  have H := hideO fin
  obtain ⟨ad, cap, rfl⟩ := prow_form ho
  cases ad with
  | none =>
    have hnil : l.length = 0 ∧ cap = 0 := by
      rcases ho.2 with ⟨e, h0⟩ | ⟨g, cap', cur, e, _⟩
      · injection e with e1 e2 e3; exact ⟨e2, e3⟩
      · injection e with e1 e2 e3; cases e1
    have hf := hideO (fin w (.slice none l.length cap) (by
      obtain ⟨h0, rfl⟩ := hnil
      have hc0 : cs = [] := List.eq_nil_of_length_eq_zero (by rw [ho.1, h0])
      subst hc0
      rw [h0]
      exact World.ownsRow_nil _ _ _ _) (RowKit.Below.refl _ _))
    have hq := fun W n c' => Lib.run_eql_slice_nil (P := Tryz.prog) W 54 113 none n cap 0 c' Tryz.underlying54
    clear ho h1 h2 fin H
    generalize l.length = n at *
    obtain ⟨rfl, rfl⟩ := hnil
    go_enter Tryz.func66, Tryz.ntmps66
    go_wp2_with fail
    exact bodyPost_ret (v := .slice none 0 0) (by simp [results, Tryz.results66, go_sem]) rfl ⟨_, rfl, hf.out⟩
  | some d =>
    obtain ⟨v', w', hr, ho', hb'⟩ := row_clone (w := w) 54 54 113 (.agg #[.slice none 0 0, .int .i64 0, .string ⟨#[]⟩]) 3 48 Tryz.underlying54 infoCmQ rfl (by decide) ho h1 (by omega) (by omega) (fun c e => by injection e with e1; cases e1)
    have hf := hideO (H.out w' v' ho' hb')
    have hq := fun W n c' => Lib.run_eql_slice_nil (P := Tryz.prog) W 54 113 (some d) n cap 0 c' Tryz.underlying54
    clear ho h1 h2 fin H ho' hb'
    generalize l.length = n at *
    go_enter Tryz.func66, Tryz.ntmps66
    go_wp2_with (at_builtin; refine wpList_append_eq rfl _ _ 54 rfl rfl rfl hr ?_)
    exact bodyPost_ret (v := v') (by simp [results, Tryz.results66, go_sem]) rfl ⟨_, rfl, hf.out⟩
end Go.Proofs.YtnphjdckdkjopaaGreatDoor

/- store.Clone: a store of its own with the same objects. -/
namespace Go.Proofs.YtnphjdckdkjopaaGreatDoor
open Go Go.RowKit Go.Proofs Go.Maps
set_option synthInstance.maxSize 1000

set_option maxHeartbeats 2000000 in
set_option maxRecDepth 100000 in
theorem CloneIds_any (b : Nat) (es : Array MapEntry) (clock : Nat) (w : World) (hb : w.heap[b]? = some (.map es clock)) :
    Calls Tryz.prog 67 #[.map (some b)] w fun e w' => e = .returned (.map (some w.heap.size)) ∧ w' = w.alloc (.map es clock) := by
  have hq := fun w => run_eql_map_nil_sl (P := Tryz.prog) w 82 _ _ (some b) Tryz.underlying82
  go_enter Tryz.func67, Tryz.ntmps67
  go_wp2
  rw [run_callFunc_extern Tryz.func93 (by kernel_rfl) (by kernel_rfl) (by kernel_rfl) (e := Extern.MapsClone.clone) (by kernel_rfl), run_maps_clone_sl w 82 hb]
  simp only [Result.andThen]
  rw [Oper.upon_value]
  go_wp2
  rw [run_typeAssert_map_sl _ 82 _ _ _ _ Tryz.underlying82]
  simp only [Result.andThen]
  rw [Oper.upon_value]
  go_wp2
  go_ret
  exact ⟨rfl, rfl⟩
set_option maxHeartbeats 2000000 in
set_option maxRecDepth 100000 in
theorem CloneObj_any (b : Nat) (es : Array MapEntry) (clock : Nat) (w : World) (hb : w.heap[b]? = some (.map es clock)) :
    Calls Tryz.prog 92 #[.map (some b)] w fun e w' => e = .returned (.map (some w.heap.size)) ∧ w' = w.alloc (.map es clock) := by
  have hq := fun w => run_eql_map_nil_sl (P := Tryz.prog) w 123 _ _ (some b) Tryz.underlying123
  go_enter Tryz.func92, Tryz.ntmps92
  go_wp2
  rw [run_callFunc_extern Tryz.func93 (by kernel_rfl) (by kernel_rfl) (by kernel_rfl) (e := Extern.MapsClone.clone) (by kernel_rfl), run_maps_clone_sl w 123 hb]
  simp only [Result.andThen]
  rw [Oper.upon_value]
  go_wp2
  rw [run_typeAssert_map_sl _ 123 _ _ _ _ Tryz.underlying123]
  simp only [Result.andThen]
  rw [Oper.upon_value]
  go_wp2
  go_ret
  exact ⟨rfl, rfl⟩
/-- a map in a block of its own, cloned -/
theorem clone_ids {w : World} {b n : Nat} {D : DataW Unit} (h : w.ownsMap Tryz.prog 9 (plainElem Tryz.prog 3) b n D) :
    Calls Tryz.prog 67 #[.map (some b)] w fun e w' => e = .returned (.map (some w.heap.size)) ∧ w'.ownsMap Tryz.prog 9 (plainElem Tryz.prog 3) w.heap.size n D ∧ RowKit.Below w.heap.size w w' ∧ w'.heap.size = w.heap.size + 1 := by
  obtain ⟨es, clock, hb, r⟩ := h
  refine (CloneIds_any b es clock w hb).mono ?_
  rintro e w' ⟨rfl, rfl⟩
  exact ⟨rfl, ⟨es, clock, (MapKept.heap_alloc w _).1, r⟩, balloc _ _, by simp⟩
theorem clone_obj {w : World} {b n : Nat} {D : DataW Unit} (h : w.ownsMap Tryz.prog 3 objElem b n D) :
    Calls Tryz.prog 92 #[.map (some b)] w fun e w' => e = .returned (.map (some w.heap.size)) ∧ w'.ownsMap Tryz.prog 3 objElem w.heap.size n D ∧ RowKit.Below w.heap.size w w' ∧ w'.heap.size = w.heap.size + 1 := by
  obtain ⟨es, clock, hb, r⟩ := h
  refine (CloneObj_any b es clock w hb).mono ?_
  rintro e w' ⟨rfl, rfl⟩
  exact ⟨rfl, ⟨es, clock, (MapKept.heap_alloc w _).1, r⟩, balloc _ _, by simp⟩
/-- a later world in which nothing old has turned -/
def BK (w W : World) : Prop := RowKit.Below w.heap.size w W
theorem BK.refl (w : World) : BK w w := RowKit.Below.refl _ _
theorem BK.drew {w W : World} (h : BK w W) : BK w W.drew := RowKit.Below.drew h
theorem BK.alloc {w W : World} (h : BK w W) (o : Obj) : BK w (W.alloc o) := bstep h (balloc _ _)
theorem BK.step {w W W' : World} (h : BK w W) (k : RowKit.Below W.heap.size W W') : BK w W' := bstep h k
theorem hp_size (w : World) (o : Obj) : (w.alloc o).heap.size = w.heap.size + 1 := by simp

set_option maxHeartbeats 2000000 in
set_option maxRecDepth 100000 in
theorem StClone_any (w : World) (s : Nat) (O : Nat → Prop) (n : Nat) (L : List Ob) (h : theFace.At w s O n L) :
    Calls Tryz.prog 65 #[.pointer (some ⟨s, 0, none⟩)] w fun e w' => ∃ (s' : Nat) (O' : Nat → Prop), e = .returned (.pointer (some ⟨s', 0, none⟩)) ∧ theFace.At w' s' O' n L ∧ RowKit.Below w.heap.size w w' ∧ ∀ j, O' j → w.heap.size ≤ j := by
  obtain ⟨b1, b2, h, -⟩ := h
  have H := hideO h
  have C1 := fun W (hW : RowKit.Below w.heap.size w W) => (h.below hW).c0
  have C2 := fun W (hW : RowKit.Below w.heap.size w W) => (h.below hW).c1
  have C3 := fun W (hW : RowKit.Below w.heap.size w W) => (h.below hW).c2
  obtain ⟨D1, D2, o1, o2, f1, f2, hs⟩ := h.two
  have H1 := fun W (hW : RowKit.Below w.heap.size w W) => clone_ids (w := W) (ownsMap_block o1 (hW.block b1 o1.lt))
  have H2 := fun W (hW : RowKit.Below w.heap.size w W) => clone_obj (w := W) (ownsMap_block o2 (hW.block b2 o2.lt))
  have F := hideO (And.intro f1 (And.intro f2 hs))
  have c0 := C1 w (RowKit.Below.refl _ _)
  have c1 := C2 w (RowKit.Below.refl _ _)
  have c2 := C3 w (RowKit.Below.refl _ _)
  have hlt := h.lts
  clear h o1 o2 f1 f2 hs
  go_enter Tryz.func65, Tryz.ntmps65
  go_wp2_with fail
  have mk := hideO (fun W (h : BK w W) => (⟨h, C1 W h, C2 W h, C3 W h⟩ : BK w W ∧ W.cell? ⟨s, 0, none⟩ = some (.map (some b1)) ∧ W.cell? ⟨s, 1, none⟩ = some (.map (some b2)) ∧ W.cell? ⟨s, 2, none⟩ = some (.int .i64 (n : Int))))
  clear C1 C2 C3 c0 c1 c2
  go_region_held3 (fun W => BK w W ∧ W.cell? ⟨s, 0, none⟩ = some (.map (some b1)) ∧ W.cell? ⟨s, 1, none⟩ = some (.map (some b2)) ∧ W.cell? ⟨s, 2, none⟩ = some (.int .i64 (n : Int))) ((refine mk.out _ ?_; repeat (first | (with_reducible refine BK.alloc ?_ _) | (with_reducible refine BK.step ?_ ho) | (with_reducible refine BK.step ?_ hi) | (with_reducible refine BK.drew ?_) | (with_reducible exact BK.refl _)))) (first
    | (go_at_call 67; refine (H1 _ (BK.refl _).drew).mono ?_; rintro e wi ⟨rfl, oi, hi, zi⟩; dsimp only)
    | (go_at_call 92; refine (H2 _ ((BK.refl _).drew.step hi)).mono ?_; rintro e wo ⟨rfl, oo, ho, zo⟩; dsimp only))
  have hz1 : wi.heap.size = w.heap.size + 1 := zi
  have hz2 : wo.heap.size = w.heap.size + 1 + 1 := by omega
  have hb : RowKit.Below w.heap.size w wo := ((BK.refl w).drew.step hi).step ho
  have hO := H.out
  have fin : Hid (∀ o, o = Obj.cells #[.map (some w.heap.size), .map (some (w.heap.size + 1)), .int .i64 (n : Int)] 125 → theFace.At (wo.alloc o) (w.heap.size + 1 + 1) (ownO (w.heap.size + 1 + 1) w.heap.size (w.heap.size + 1)) n L ∧ RowKit.Below w.heap.size w (wo.alloc o) ∧ ∀ j, ownO (w.heap.size + 1 + 1) w.heap.size (w.heap.size + 1) j → w.heap.size ≤ j) := fun o ho' => by
    subst ho'
    have hn := heap_alloc_new wo (Obj.cells #[.map (some w.heap.size), .map (some (w.heap.size + 1)), .int .i64 (n : Int)] 125)
    rw [hz2] at hn
    have e1 : (wo.alloc (Obj.cells #[.map (some w.heap.size), .map (some (w.heap.size + 1)), .int .i64 (n : Int)] 125)).heap[w.heap.size]? = wi.heap[w.heap.size]? := (Below.heap_alloc _ _ _ (by omega)).trans (ho.block _ (by omega))
    have e2 : (wo.alloc (Obj.cells #[.map (some w.heap.size), .map (some (w.heap.size + 1)), .int .i64 (n : Int)] 125)).heap[w.heap.size + 1]? = wo.heap[w.heap.size + 1]? := Below.heap_alloc _ _ _ (by omega)
    rw [hz1] at oo
    refine ⟨⟨w.heap.size, w.heap.size + 1, ⟨by omega, by omega, by omega, ?_, ?_, ?_, ?_, ⟨D1, D2, ownsMap_block oi e1, ownsMap_block oo e2, F.out.1, F.out.2.1, F.out.2.2⟩, hO.short, hO.big⟩, fun _ => Iff.rfl⟩, bstep hb (balloc _ _), ?_⟩
    · simp [World.cell?, hn]
    · simp [World.cell?, hn]
    · simp [World.cell?, hn]
    · simp [World.frozen?, hn]
    · rintro j (rfl | rfl | rfl) <;> omega
  clear H1 H2 F H D1 D2 oi hi zi oo ho zo hz1 hz2 hb hO mk
  go_wp2_with fail
  exact bodyPost_ret (v := .pointer (some ⟨w.heap.size + 1 + 1, 0, none⟩)) (by simp [results, Tryz.results65, go_sem]) rfl ⟨_, _, rfl, fin.out _ rfl⟩
end Go.Proofs.YtnphjdckdkjopaaGreatDoor

/- repo.AllOrNone: steps on a repo of their own; if they tell an error, it is as if none had been. -/
namespace Go.Proofs.YtnphjdckdkjopaaGreatDoor
open Go Go.RowKit Go.Proofs Go.Maps
set_option synthInstance.maxSize 1000

attribute [local go_sem] eql_errV neq_errV guard_errV

/-- what is asked of the steps: they turn the repo that is handed to them, and besides what lies in X; what they tell is T -/
def StepsC (w : World) (P : Nat → Prop) (R : Rp) (g : Nat) (caps : Array Value) (X : Nat → Prop) (T : World → World → Int → Rp → (Nat → Prop) → Prop) : Prop :=
  ∀ (W : World) (n s bm : Nat) (cv : Value) (OS : Nat → Prop), RowKit.Below w.heap.size w W → RpW W n s bm cv OS P R → (∀ j, RpO n bm cv OS NoP j → w.heap.size ≤ j) →
    Calls Tryz.prog g (#[.pointer (some ⟨n, 0, none⟩)] ++ caps) W fun e W' => ∃ (N : Int) (R' : Rp) (cv' : Value) (OS' P' : Nat → Prop), e = .returned (errV N) ∧ T W W' N R' (RpO n bm cv' OS' P') ∧ RpW W' n s bm cv' OS' P' R' ∧ Offs (fun j => RpO n bm cv OS NoP j ∨ X j) W W' ∧ RpIn W n bm cv OS P cv' OS' P'
/-- what comes of it: with an error the repo is as it was, else it is the one that the steps made -/
def OwnTo (w : World) (r s bm : Nat) (cv : Value) (OS P : Nat → Prop) (R : Rp) (X : Nat → Prop) (T : World → World → Int → Rp → (Nat → Prop) → Prop) (e : Ending) (w' : World) : Prop :=
  ∃ (N : Int) (R' : Rp) (O1 : Nat → Prop) (W W' : World), e = .returned (errV N) ∧ RowKit.Below w.heap.size w W ∧ T W W' N R' O1 ∧
    ((N ≠ 0 ∧ w' = W' ∧ RpW w' r s bm cv OS P R ∧ Offs X w w') ∨
     (N = 0 ∧ Offs (fun j => j = r) W' w' ∧ w'.heap.size = W'.heap.size ∧ ∃ (s' bm' : Nat) (cv' : Value) (OS' P' : Nat → Prop), RpW w' r s' bm' cv' OS' P' R' ∧ Offs (fun j => j = r ∨ X j) w w' ∧ ∀ j, RpO r bm' cv' OS' P' j → (RpO r bm cv OS P j ∨ w.heap.size ≤ j) ∧ (j = r ∨ O1 j)))

/-- branches in a map, cloned -/
theorem clone_br {w : World} {b : Nat} {l : List Rf} (h : BrMap w b l) :
    Calls Tryz.prog 67 #[.map (some b)] w fun e w' => e = .returned (.map (some w.heap.size)) ∧ BrMap w' w.heap.size l ∧ RowKit.Below w.heap.size w w' ∧ w'.heap.size = w.heap.size + 1 := by
  obtain ⟨D, ho, r⟩ := h
  refine (clone_ids ho).mono ?_
  rintro e w' ⟨rfl, ho', hb, hz⟩
  exact ⟨rfl, ⟨D, ho', r⟩, hb, hz⟩
/-- a repo's struct takes another one's parts -/
theorem RpW.moved {w : World} {r n s bm s0 bm0 : Nat} {cv cv0 : Value} {OS P : Nat → Prop} {R : Rp} (h : RpW w n s bm cv OS P R) (hr : w.heap[r]? = some (.cells #[.pointer (some ⟨s0, 0, none⟩), cv0, .map (some bm0)] 85)) (h1 : r ≠ bm) (h2 : ¬ OS r) (h3 : cv.ownBlock ≠ some r) (h4 : ¬ P r) :
    RpW (((w.setCell ⟨r, 0, none⟩ (.pointer (some ⟨s, 0, none⟩))).setCell ⟨r, 1, none⟩ cv).setCell ⟨r, 2, none⟩ (.map (some bm))) r s bm cv OS P R ∧ Offs (fun j => j = r) w (((w.setCell ⟨r, 0, none⟩ (.pointer (some ⟨s, 0, none⟩))).setCell ⟨r, 1, none⟩ cv).setCell ⟨r, 2, none⟩ (.map (some bm))) ∧ (((w.setCell ⟨r, 0, none⟩ (.pointer (some ⟨s, 0, none⟩))).setCell ⟨r, 1, none⟩ cv).setCell ⟨r, 2, none⟩ (.map (some bm))).heap.size = w.heap.size := by
  have hb : (((w.setCell ⟨r, 0, none⟩ (.pointer (some ⟨s, 0, none⟩))).setCell ⟨r, 1, none⟩ cv).setCell ⟨r, 2, none⟩ (.map (some bm))).heap[r]? = some (.cells #[.pointer (some ⟨s, 0, none⟩), cv, .map (some bm)] 85) := by
    have e1 := heap_setCell_same w r 0 _ _ (.pointer (some ⟨s, 0, none⟩)) hr
    have e2 := heap_setCell_same _ r 1 _ _ cv e1
    have e3 := heap_setCell_same _ r 2 _ _ (.map (some bm)) e2
    simpa using e3
  have hk : ∀ j, j ≠ r → (((w.setCell ⟨r, 0, none⟩ (.pointer (some ⟨s, 0, none⟩))).setCell ⟨r, 1, none⟩ cv).setCell ⟨r, 2, none⟩ (.map (some bm))).heap[j]? = w.heap[j]? := fun j hj => by
    rw [heap_setCell_other _ _ _ _ hj, heap_setCell_other _ _ _ _ hj, heap_setCell_other _ _ _ _ hj]
  have hz : (((w.setCell ⟨r, 0, none⟩ (.pointer (some ⟨s, 0, none⟩))).setCell ⟨r, 1, none⟩ cv).setCell ⟨r, 2, none⟩ (.map (some bm))).heap.size = w.heap.size := by simp [World.setCell]
  refine ⟨⟨hb, theFace.keep h.st fun j hj => hk j (fun e => h2 (e ▸ hj)), h.com.keep (fun j hj => hk j (fun e => h3 (e ▸ hj))) (fun j hj => hk j (fun e => h4 (e ▸ hj))), h.map.keep (hk bm (fun e => h1 e.symm)), h.link, fun j hj => by rw [hz]; exact h.plt j hj, ⟨h2, h.ap1.2.1, h1⟩, fun j hj => ⟨(h.ap2 j hj).1, fun e => h3 (e ▸ hj), (h.ap2 j hj).2.2⟩, fun j hj => ⟨(h.ap3 j hj).1, fun e => h4 (e ▸ hj), (h.ap3 j hj).2.2⟩⟩, ⟨?_, ?_, ?_, Nat.le_of_eq hz.symm, fun k hk1 hO => hk k hO⟩, hz⟩
  · simp [World.setCell]
  · simp [World.setCell]
  · simp [World.setCell]
/-- the repo that the steps are handed -/
theorem rp_made {w ws wc wm : World} {r s bm s' : Nat} {cv cv' : Value} {OS P OS' : Nat → Prop} {R : Rp} (h : RpW w r s bm cv OS P R)
    (h1 : theFace.At ws s' OS' R.n R.L) (b1 : RowKit.Below w.heap.size w ws) (n1 : ∀ j, OS' j → w.heap.size ≤ j)
    (h2 : ComRow wc cv' R.coms P) (b2 : RowKit.Below ws.heap.size ws wc) (n2 : ∀ j, cv'.ownBlock = some j → ws.heap.size ≤ j)
    (h3 : BrMap wm wc.heap.size R.refs) (b3 : RowKit.Below wc.heap.size wc wm) (z3 : wm.heap.size = wc.heap.size + 1) :
    RpW (wm.alloc (.cells #[.pointer (some ⟨s', 0, none⟩), cv', .map (some wc.heap.size)] 85)) wm.heap.size s' wc.heap.size cv' OS' P R ∧
      RowKit.Below w.heap.size w (wm.alloc (.cells #[.pointer (some ⟨s', 0, none⟩), cv', .map (some wc.heap.size)] 85)) ∧
      ∀ j, RpO wm.heap.size wc.heap.size cv' OS' NoP j → w.heap.size ≤ j := by
  have z1 := b1.size
  have z2 := b2.size
  have bz := balloc wm (.cells #[.pointer (some ⟨s', 0, none⟩), cv', .map (some wc.heap.size)] 85)
  have hO : ∀ j, OS' j → j < ws.heap.size := fun j hj => theFace.own h1 j hj
  have hc : ∀ j, cv'.ownBlock = some j → j < wc.heap.size := fun j hj => by
    obtain ⟨cs, hc, _⟩ := h2
    exact (hc.lt j hj).2
  have hP : ∀ j, P j → j < w.heap.size := h.plt
  have bAll : RowKit.Below w.heap.size w (wm.alloc (.cells #[.pointer (some ⟨s', 0, none⟩), cv', .map (some wc.heap.size)] 85)) := bstep (bstep (bstep b1 b2) b3) bz
  refine ⟨⟨heap_alloc_new wm _, theFace.keep h1 fun j hj => ?_, h2.keep (fun j hj => ?_) (fun j hj => ?_), h3.keep (bz.block _ (by omega)), h.link, fun j hj => ?_, ⟨fun e => by have := hO _ e; omega, fun e => by have := hO _ e; omega, by omega⟩, fun j hj => ⟨fun e => by have := hO _ e; have := n2 j hj; omega, by have := hc j hj; omega, by have := hc j hj; omega, fun e => by have := hP j e; have := n2 j hj; omega⟩, fun j hj => ⟨fun e => by have := n1 j e; have := hP j hj; omega, by have := hP j hj; omega, by have := hP j hj; omega⟩⟩, bAll, ?_⟩
  · have := hO j hj
    exact (bz.block j (by omega)).trans ((b3.block j (by omega)).trans (b2.block j this))
  · have := hc j hj
    exact (bz.block j (by omega)).trans (b3.block j this)
  · have := hP j hj
    exact (bz.block j (by omega)).trans (b3.block j (by omega))
  · have := hP j hj
    have := bz.size
    omega
  · rintro j (rfl | rfl | hj | hj | hj)
    · omega
    · omega
    · have := n2 j hj; omega
    · exact absurd hj id
    · exact n1 j hj

set_option maxHeartbeats 4000000 in
set_option maxRecDepth 100000 in
theorem AllOrNone_any (w : World) (r s bm : Nat) (cv : Value) (OS P : Nat → Prop) (R : Rp) (g : Nat) (caps : Array Value) (X : Nat → Prop) (T : World → World → Int → Rp → (Nat → Prop) → Prop)
    (h : RpW w r s bm cv OS P R) (hg : GoodR R) (eg : ∀ args w, (callFunc g args).run Tryz.prog w = .ok (.enter g args) w) (hX : ∀ j, X j → ¬ RpO r bm cv OS P j) (hX2 : ∀ j, X j → j < w.heap.size) (hS : StepsC w P R g caps X T) :
    Calls Tryz.prog 43 #[.pointer (some ⟨r, 0, none⟩), .func (.func g) #[] caps] w (OwnTo w r s bm cv OS P R X T) := by
  have H := hideO h
  have HS := hideO hS
  have HX := hideO hX
  have HX2 := hideO hX2
  have hlt := h.lt
  have HC := hideO (fun W (hW : RowKit.Below w.heap.size w W) => (h.below hW).cells)
  have H1 := fun W (hW : RowKit.Below w.heap.size w W) => StClone_any W s OS R.n R.L (h.below hW).st
  have H2 := fun W (hW : RowKit.Below w.heap.size w W) => CloneCm_any W cv R.coms P (h.below hW).com (by have := hg.coms.1; omega)
  have H3 := fun W (hW : RowKit.Below w.heap.size w W) => clone_br (h.below hW).map
  have mk := hideO (fun W (hW : BK w W) => (⟨hW, (HC.out W hW).1, (HC.out W hW).2.1, (HC.out W hW).2.2.1⟩ : BK w W ∧ W.cell? ⟨r, 0, none⟩ = some (.pointer (some ⟨s, 0, none⟩)) ∧ W.cell? ⟨r, 1, none⟩ = some cv ∧ W.cell? ⟨r, 2, none⟩ = some (.map (some bm))))
  obtain ⟨av, cap, hcv⟩ := h.com.form
  have HCV := hideO hcv
  clear h hg hS hX hX2 hcv
  go_enter Tryz.func43, Tryz.ntmps43
  go_wp2_with fail
  go_region_held3 (fun W => BK w W ∧ W.cell? ⟨r, 0, none⟩ = some (.pointer (some ⟨s, 0, none⟩)) ∧ W.cell? ⟨r, 1, none⟩ = some cv ∧ W.cell? ⟨r, 2, none⟩ = some (.map (some bm))) ((refine mk.out _ ?_; repeat (first | (with_reducible refine BK.alloc ?_ _) | (with_reducible refine BK.step ?_ b3) | (with_reducible refine BK.step ?_ b2) | (with_reducible refine BK.step ?_ b1) | (with_reducible refine BK.drew ?_) | (with_reducible exact BK.refl _)))) (first
    | (go_at_call 65; refine (H1 _ (BK.refl _).drew).mono ?_; rintro e ws ⟨s', OS', rfl, h1, b1, n1⟩; dsimp only)
    | (go_at_call 66; refine (H2 _ ((BK.refl _).drew.step b1)).mono ?_; rintro e wc ⟨cv', rfl, h2, b2, n2⟩; obtain ⟨ad', c', rfl⟩ := h2.form; dsimp only)
    | (go_at_call 67; refine (H3 _ (((BK.refl _).drew.step b1).step b2)).mono ?_; rintro e wm ⟨rfl, h3, b3, z3⟩; dsimp only))
  have b1' : RowKit.Below w.heap.size w ws := (BK.refl w).drew.step b1
  obtain ⟨hR, hB, hN⟩ := rp_made H.out h1 b1' n1 h2 b2 n2 h3 b3 z3
  rw [z3] at hR hN
  obtain ⟨Wn, hWn⟩ : ∃ Wn, Wn = wm.alloc (.cells #[.pointer (some ⟨s', 0, none⟩), .slice ad' R.coms.length c', .map (some wc.heap.size)] 85) := ⟨_, rfl⟩
  rw [← hWn] at hR hB ⊢
  have HSW := HS.out Wn (wc.heap.size + 1) s' wc.heap.size (.slice ad' R.coms.length c') OS' hB hR hN
  generalize wc.heap.size = bn at *
  have HR := hideO hR
  have HB := hideO hB
  have HN := hideO hN
  clear H1 H2 H3 mk h1 b1 n1 h2 b2 n2 h3 b3 z3 hWn b1' hR hB hN HS
  go_wp2_with fail
  refine HSW.mono ?_
  rintro e W2 ⟨N, R', cv2, OS2, P2, rfl, hT, hR2, hoff, hin⟩
  have hzB := HB.out.size
  have o1 : Offs X w W2 := (Offs.of_below HB.out).trans hoff fun j hj => hj.elim (fun h => Or.inr (HN.out j h)) Or.inl
  by_cases h0 : N = 0
  · subst h0
    have hr2 : W2.heap[r]? = some (.cells #[.pointer (some ⟨s, 0, none⟩), cv, .map (some bm)] 85) :=
      (o1.block r hlt fun h => HX.out r h (Or.inl rfl)).trans H.out.blk
    obtain ⟨a2, c2, rfl⟩ := hR2.com.form
    have hall : ∀ j, RpO (bn + 1) bn (.slice a2 R'.coms.length c2) OS2 NoP j → w.heap.size ≤ j := fun j hj => (hin.1 j hj).elim (HN.out j) (fun h => Nat.le_trans hzB h)
    obtain ⟨m1, m2, m3⟩ := hR2.moved hr2 (fun e => by have := hall bn (Or.inr (Or.inl rfl)); omega) (fun e => by have := hall r (Or.inr (Or.inr (Or.inr (Or.inr e)))); omega) (fun e => by have := hall r (Or.inr (Or.inr (Or.inl e))); omega) (fun e => (hin.2 r e).elim (fun h => (H.out.ap3 r h).2.1 rfl) (fun h => by omega))
    have fin : Hid (∀ w3, w3 = (((W2.setCell ⟨r, 0, none⟩ (.pointer (some ⟨s', 0, none⟩))).setCell ⟨r, 1, none⟩ (.slice a2 R'.coms.length c2)).setCell ⟨r, 2, none⟩ (.map (some bn))) → OwnTo w r s bm cv OS P R X T (.returned .nilIface) w3) := fun w3 e3 => by
      subst e3
      refine ⟨0, R', _, Wn, W2, rfl, HB.out, hT, Or.inr ⟨rfl, m2, m3, s', bn, _, OS2, P2, m1, ?_, ?_⟩⟩
      · exact (o1.mono (O' := fun j => j = r ∨ X j) fun j hj => Or.inl (Or.inr hj)).trans m2 fun j hj => Or.inl (Or.inl hj)
      · rintro j (hj | hj | hj | hj | hj)
        · exact ⟨Or.inl (Or.inl hj), Or.inl hj⟩
        · exact ⟨Or.inr (hall j (Or.inr (Or.inl hj))), Or.inr (Or.inr (Or.inl hj))⟩
        · exact ⟨Or.inr (hall j (Or.inr (Or.inr (Or.inl hj)))), Or.inr (Or.inr (Or.inr (Or.inl hj)))⟩
        · exact ⟨(hin.2 j hj).elim (fun h => Or.inl (Or.inr (Or.inr (Or.inr (Or.inl h))))) (fun h => Or.inr (Nat.le_trans hzB h)), Or.inr (Or.inr (Or.inr (Or.inr (Or.inl hj))))⟩
        · exact ⟨Or.inr (hall j (Or.inr (Or.inr (Or.inr (Or.inr hj))))), Or.inr (Or.inr (Or.inr (Or.inr (Or.inr hj))))⟩
    obtain ⟨k0, k1, k2, kf⟩ := hR2.cells
    have f0 : W2.frozen? ⟨r, 0, none⟩ = false := by simp [World.frozen?, hr2]
    have f1 : W2.frozen? ⟨r, 1, none⟩ = false := by simp [World.frozen?, hr2]
    have f2 : W2.frozen? ⟨r, 2, none⟩ = false := by simp [World.frozen?, hr2]
    have q0 : W2.cell? ⟨r, 0, none⟩ = some (.pointer (some ⟨s, 0, none⟩)) := by simp [World.cell?, hr2]
    have q1 : W2.cell? ⟨r, 1, none⟩ = some cv := by simp [World.cell?, hr2]
    have q2 : W2.cell? ⟨r, 2, none⟩ = some (.map (some bm)) := by simp [World.cell?, hr2]
    have hl2 : r < W2.heap.size := (Array.getElem?_eq_some_iff.1 hr2).1
    clear hr2 hall m1 m2 m3 hR2 hoff hin hT o1 HSW HN HB HR HX HX2 HC H HCV hzB
    generalize R'.coms.length = n2 at *
    generalize R.coms.length = n1 at *
    generalize OwnTo w r s bm cv OS P R X T = G at *
    rw [show errV 0 = Value.nilIface from rfl]
    dsimp only
    go_wp2_with fail
    exact fin.out _ rfl
  · have h0' : (N == 0) = false := by simpa using h0
    have fin : Hid (OwnTo w r s bm cv OS P R X T (.returned (errV N)) W2) := ⟨N, R', _, Wn, W2, rfl, HB.out, hT, Or.inl ⟨h0, rfl, H.out.keep fun j hj => o1.block j (H.out.own j hj) fun h => HX.out j h hj, o1⟩⟩
    clear hR2 hoff hin hT o1 HSW HN HB HR HX HX2 HC H HCV hzB h0
    generalize R.coms.length = n1 at *
    generalize OwnTo w r s bm cv OS P R X T = G at *
    dsimp only
    go_wp2_with fail
    exact fin.out
end Go.Proofs.YtnphjdckdkjopaaGreatDoor

/- journal's keep: the steps that the repo takes. -/
namespace Go.Proofs.YtnphjdckdkjopaaGreatDoor
open Go Go.RowKit Go.Proofs Go.Maps
set_option synthInstance.maxSize 1000

attribute [local go_sem] eql_errV neq_errV guard_errV

theorem slT_block {w w' : World} {ad : Option Addr} {l : List Tr} (h : SlT w ad l) (hb : l ≠ [] → ∀ d, ad = some d → w'.heap[d.block]? = w.heap[d.block]?) : SlT w' ad l := fun hl => by
  obtain ⟨b, o, e, h1⟩ := h hl
  have q := hb hl _ e
  exact ⟨b, o, e, fun j v hv => (World.cell?_of_block (w := w) (a := ⟨b, o + j, none⟩) q).trans (h1 j v hv)⟩
/-- the boxes of what is done, its number and the journal, and the journal -/
structure KIn (w : World) (bd ba bj j r : Nat) (bv : Value) (l : List UInt8) (sf : Nat) (a : Int) (d : Dd) (ad : Option Addr) (ca : Nat) : Prop where
  d0 : w.cell? ⟨bd, 0, none⟩ = some (.string ⟨d.1.toArray⟩)
  d1 : w.cell? ⟨bd, 1, none⟩ = some (.string ⟨d.2.1.toArray⟩)
  d2 : w.cell? ⟨bd, 2, none⟩ = some (.slice ad d.2.2.1.length ca)
  d3 : w.cell? ⟨bd, 3, none⟩ = some (.string ⟨d.2.2.2.1.toArray⟩)
  d4 : w.cell? ⟨bd, 4, none⟩ = some (.int .i64 d.2.2.2.2)
  jc : w.cell? ⟨bj, 0, none⟩ = some (.pointer (some ⟨j, 0, none⟩))
  ac : ∃ n : Int, w.cell? ⟨ba, 0, none⟩ = some (.int .i64 n)
  af : w.frozen? ⟨ba, 0, none⟩ = false
  jb : JB w j r bv l sf a false
  ind : InD w d ad ca
  set : d.2.2.1 ≠ [] → ∀ x, ad = some x → x.block < w.heap.size ∧ x.block ≠ ba
theorem KIn.keep {w w' : World} {bd ba bj j r : Nat} {bv : Value} {l : List UInt8} {sf : Nat} {a : Int} {d : Dd} {ad : Option Addr} {ca : Nat} (h : KIn w bd ba bj j r bv l sf a d ad ca) (hz : w.heap.size ≤ w'.heap.size) (hb : ∀ i, i < w.heap.size → w'.heap[i]? = w.heap[i]?) : KIn w' bd ba bj j r bv l sf a d ad ca := by
  have hc : ∀ b o v, w.cell? ⟨b, o, none⟩ = some v → w'.cell? ⟨b, o, none⟩ = some v := fun b o v e => (World.cell?_of_block (w := w) (a := ⟨b, o, none⟩) (hb b (World.block_lt_of_cell? w _ e))).trans e
  obtain ⟨n, hn⟩ := h.ac
  exact ⟨hc _ _ _ h.d0, hc _ _ _ h.d1, hc _ _ _ h.d2, hc _ _ _ h.d3, hc _ _ _ h.d4, hc _ _ _ h.jc, ⟨n, hc _ _ _ hn⟩, (World.frozen?_of_block (w := w) (a := ⟨ba, 0, none⟩) (hb ba (World.block_lt_of_cell? w _ hn))).trans h.af, h.jb.keep (hb j h.jb.lt) (fun g hg => hb g (h.jb.rlt g hg)), ⟨h.ind.name, h.ind.msg, slT_block h.ind.set (fun hne x hx => hb _ (h.set hne x hx).1), h.ind.fit, h.ind.len, h.ind.kind⟩, fun hne x hx => ⟨Nat.lt_of_lt_of_le (h.set hne x hx).1 hz, (h.set hne x hx).2⟩⟩

def keepN (E a : Int) : Int := if E ≠ 0 then E else if a = 0 then 6 else 0
def keepB (E a : Int) (l : List UInt8) (d : Dd) : List UInt8 := if E ≠ 0 then l else wrote a l d
def keepA (E a : Int) : Int := if E ≠ 0 then a else stepA a
def keepS (E a : Int) : Bool := if E ≠ 0 then false else decide (a = 0)
/-- what the steps tell -/
def KeepT (ba j r : Nat) (bv : Value) (l : List UInt8) (sf : Nat) (a : Int) (R : Rp) (d : Dd) (W W' : World) (N : Int) (R' : Rp) (O1 : Nat → Prop) : Prop :=
  N = keepN (doE R d) a ∧ R' = doR R d ∧ W'.cell? ⟨ba, 0, none⟩ = some (.int .i64 (doI R d : Int)) ∧ ∃ bv', JB W' j r bv' (keepB (doE R d) a l d) sf (keepA (doE R d) a) (keepS (doE R d) a) ∧ ∀ g, bv'.ownBlock = some g → bv.ownBlock = some g ∨ (W.heap.size ≤ g ∧ ¬ O1 g)

set_option maxHeartbeats 4000000 in
set_option maxRecDepth 100000 in
theorem keep1_any (w : World) (B bd ba bj j r : Nat) (bv : Value) (l : List UInt8) (sf : Nat) (a : Int) (d : Dd) (ad : Option Addr) (ca : Nat) (P : Nat → Prop) (R : Rp) (hk : KIn w bd ba bj j r bv l sf a d ad ca) (hg : GoodR R) (ho : doE R d = 0 → OkD d) (hL : ∀ W, RowKit.Below B w W → LaidN W) (hB : B ≤ w.heap.size) (hBa : B ≤ ba) (h0 : -9223372036854775808 ≤ a) (h1 : a ≤ 9223372036854775807) (hl : l.length ≤ 1000000000)
    (n1 : ba ≠ bd) (n2 : ba ≠ bj) (n3 : ba ≠ j) (n4 : bv.ownBlock ≠ some ba) (nP : ∀ i, P i → i ≠ ba ∧ i ≠ j ∧ bv.ownBlock ≠ some i) :
    StepsC w P R 44 #[.pointer (some ⟨bd, 0, none⟩), .pointer (some ⟨ba, 0, none⟩), .pointer (some ⟨bj, 0, none⟩)] (fun i => i = ba ∨ i = j ∨ bv.ownBlock = some i) (KeepT ba j r bv l sf a R d) := by
  intro W n s bm cv OS hW hR hN
  have hzW := hW.size
  have hK := hk.keep hzW fun i hi => hW.block i hi
  have hbaW : ba < w.heap.size := by obtain ⟨x, hx⟩ := hk.ac; exact World.block_lt_of_cell? w _ hx
  have HD := do_any W n s bm cv OS P R d ad ca hR hg hK.ind
  have hj : j < w.heap.size := hk.jb.lt
  have hbv : ∀ g, bv.ownBlock = some g → g < w.heap.size := hk.jb.rlt
  -- behind what was done, and its number's store
  have step : Hid (∀ w1, RpTo W n s bm cv OS P (doR R d) w1 → KIn w1 bd ba bj j r bv l sf a d ad ca ∧ ba < w1.heap.size ∧ ∃ cv1 OS1 P1, RpW (w1.setCell ⟨ba, 0, none⟩ (.int .i64 (doI R d : Int))) n s bm cv1 OS1 P1 (doR R d) ∧ RpIn W n bm cv OS P cv1 OS1 P1 ∧ Offs (fun i => RpO n bm cv OS NoP i ∨ (i = ba ∨ i = j ∨ bv.ownBlock = some i)) W (w1.setCell ⟨ba, 0, none⟩ (.int .i64 (doI R d : Int))) ∧ (∀ i, RpO n bm cv1 OS1 P1 i → i < w1.heap.size ∧ i ≠ ba ∧ i ≠ j ∧ bv.ownBlock ≠ some i) ∧ JB (w1.setCell ⟨ba, 0, none⟩ (.int .i64 (doI R d : Int))) j r bv l sf a false ∧ InD (w1.setCell ⟨ba, 0, none⟩ (.int .i64 (doI R d : Int))) d ad ca ∧ RowKit.Below B w (w1.setCell ⟨ba, 0, none⟩ (.int .i64 (doI R d : Int))) ∧ (w1.setCell ⟨ba, 0, none⟩ (.int .i64 (doI R d : Int))).cell? ⟨ba, 0, none⟩ = some (.int .i64 (doI R d : Int))) := fun w1 hto => by
    obtain ⟨cv1, OS1, P1, hR1, hO1, hI1⟩ := hto
    have hold : ∀ i, i < w.heap.size → w1.heap[i]? = w.heap[i]? := fun i hi => (hO1.block i (Nat.lt_of_lt_of_le hi hzW) (fun h => by have := hN i h; omega)).trans (hW.block i hi)
    have hz1 := hO1.size
    have hK1 := hk.keep (Nat.le_trans hzW hz1) hold
    have hba1 : ba < w1.heap.size := by omega
    have hoth : ∀ i, i ≠ ba → (w1.setCell ⟨ba, 0, none⟩ (.int .i64 (doI R d : Int))).heap[i]? = w1.heap[i]? := fun i hi => heap_setCell_other _ _ _ _ hi
    have hown : ∀ i, RpO n bm cv1 OS1 P1 i → i < w1.heap.size ∧ i ≠ ba ∧ i ≠ j ∧ bv.ownBlock ≠ some i := fun i hi => by
      have hi1 := hR1.own i hi
      have hcase : (w.heap.size ≤ i) ∨ P i := by
        rcases hI1.all i hi with h | h
        · rcases h with h | h | h | h | h
          · exact Or.inl (hN i (Or.inl h))
          · exact Or.inl (hN i (Or.inr (Or.inl h)))
          · exact Or.inl (hN i (Or.inr (Or.inr (Or.inl h))))
          · exact Or.inr h
          · exact Or.inl (hN i (Or.inr (Or.inr (Or.inr (Or.inr h)))))
        · exact Or.inl (Nat.le_trans hzW h)
      rcases hcase with h | h
      · exact ⟨hi1, by omega, by omega, fun e => by have := hbv i e; omega⟩
      · exact ⟨hi1, nP i h⟩
    have hR2 := hR1.keep (w' := w1.setCell ⟨ba, 0, none⟩ (.int .i64 (doI R d : Int))) fun i hi => hoth i (hown i hi).2.1
    have hz2 : (w1.setCell ⟨ba, 0, none⟩ (.int .i64 (doI R d : Int))).heap.size = w1.heap.size := by simp [World.setCell]
    have hof2 : Offs (fun i => i = ba) w1 (w1.setCell ⟨ba, 0, none⟩ (.int .i64 (doI R d : Int))) := ⟨by simp [World.setCell], by simp [World.setCell], by simp [World.setCell], Nat.le_of_eq hz2.symm, fun k hk hne => hoth k hne⟩
    have hofs := (hO1.mono (O' := fun i => RpO n bm cv OS NoP i ∨ (i = ba ∨ i = j ∨ bv.ownBlock = some i)) fun i h => Or.inl (Or.inl h)).trans hof2 fun i h => Or.inl (Or.inr (Or.inl h))
    refine ⟨hK1, hba1, cv1, OS1, P1, hR2, hI1, hofs, hown, hK1.jb.keep (hoth j (fun e => n3 e.symm)) (fun g hg => hoth g (fun e => n4 (e ▸ hg))), ⟨hK1.ind.name, hK1.ind.msg, slT_block hK1.ind.set (fun hne x hx => hoth _ (hk.set hne x hx).2), hK1.ind.fit, hK1.ind.len, hK1.ind.kind⟩, ?_, ?_⟩
    · have b1 : RowKit.Below B w W := hW.mono hB
      have b2 : RowKit.Below B W w1 := hO1.below (fun i h => Nat.le_trans hB (hN i h)) (by omega)
      exact (b1.trans b2).trans (hof2.below (fun i h => by rw [h]; exact hBa) (by omega))
    · obtain ⟨x, hx⟩ := hK1.ac
      exact World.cell?_setCell_same _ _ _ hx
  have HW := hideO (fun W2 (hb : RowKit.Below B w W2) (hj : JB W2 j r bv l sf a false) (hi : InD W2 d ad ca) (hE : doE R d = 0) => write_any W2 j r bv l sf a d ad ca hj h0 h1 hi (ho hE) (fun W' hb' => hL W' (hb.trans (hb'.mono (Nat.le_trans hB hb.size)))) hl)
  -- what is told behind the writing
  have fin1 : Hid (∀ w1 w3 e, RpTo W n s bm cv OS P (doR R d) w1 → doE R d = 0 → WriteAns (w1.setCell ⟨ba, 0, none⟩ (.int .i64 (doI R d : Int))) j r bv l sf a d e w3 → ∃ (N : Int) (R' : Rp) (cv' : Value) (OS' P' : Nat → Prop), e = .returned (errV N) ∧ KeepT ba j r bv l sf a R d W w3 N R' (RpO n bm cv' OS' P') ∧ RpW w3 n s bm cv' OS' P' R' ∧ Offs (fun j_1 => RpO n bm cv OS NoP j_1 ∨ (j_1 = ba ∨ j_1 = j ∨ bv.ownBlock = some j_1)) W w3 ∧ RpIn W n bm cv OS P cv' OS' P') := fun w1 w3 e hto hE hw => by
    obtain ⟨hK1, hba1, cv1, OS1, P1, q1, q2, q3, q4, q5, q6, q7, q8⟩ := step.out w1 hto
    have hz2 : (w1.setCell ⟨ba, 0, none⟩ (.int .i64 (doI R d : Int))).heap.size = w1.heap.size := by simp [World.setCell]
    generalize w1.setCell ⟨ba, 0, none⟩ (.int .i64 (doI R d : Int)) = w2 at *
    obtain ⟨rfl, bv', hj3, ho3, hn3⟩ := hw
    have hnE : ¬ doE R d ≠ 0 := fun h => h hE
    refine ⟨_, _, cv1, OS1, P1, rfl, ⟨?_, rfl, ?_, bv', ?_, fun g hg => (hn3 g hg).imp id fun h => ⟨?_, fun hO => ?_⟩⟩, q1.keep fun i hi => ho3.block i (by rw [hz2]; exact (q4 i hi).1) (fun h => h.elim (q4 i hi).2.2.1 (q4 i hi).2.2.2), q3.trans ho3 fun i h => Or.inl (Or.inr (Or.inr h)), q2⟩
    · unfold keepN; rw [if_neg hnE]
    · exact (World.cell?_of_block (w := w2) (a := ⟨ba, 0, none⟩) (ho3.block ba (by rw [hz2]; exact hba1) (fun h => h.elim n3 n4))).trans q8
    · unfold keepB keepA keepS
      rw [if_neg hnE, if_neg hnE, if_neg hnE]
      exact hj3
    · have := q3.size; omega
    · have := (q4 g hO).1; omega
  have fin0 : Hid (∀ w1, RpTo W n s bm cv OS P (doR R d) w1 → doE R d ≠ 0 → ∃ (N : Int) (R' : Rp) (cv' : Value) (OS' P' : Nat → Prop), Ending.returned (errV (doE R d)) = .returned (errV N) ∧ KeepT ba j r bv l sf a R d W (w1.setCell ⟨ba, 0, none⟩ (.int .i64 (doI R d : Int))) N R' (RpO n bm cv' OS' P') ∧ RpW (w1.setCell ⟨ba, 0, none⟩ (.int .i64 (doI R d : Int))) n s bm cv' OS' P' R' ∧ Offs (fun j_1 => RpO n bm cv OS NoP j_1 ∨ (j_1 = ba ∨ j_1 = j ∨ bv.ownBlock = some j_1)) W (w1.setCell ⟨ba, 0, none⟩ (.int .i64 (doI R d : Int))) ∧ RpIn W n bm cv OS P cv' OS' P') := fun w1 hto hE => by
    obtain ⟨hK1, hba1, cv1, OS1, P1, q1, q2, q3, q4, q5, q6, q7, q8⟩ := step.out w1 hto
    refine ⟨_, _, cv1, OS1, P1, rfl, ⟨?_, rfl, q8, bv, ?_, fun g hg => Or.inl hg⟩, q1, q3, q2⟩
    · unfold keepN; rw [if_pos hE]
    · unfold keepB keepA keepS
      rw [if_pos hE, if_pos hE, if_pos hE]
      exact q5
  have HST := hideO (fun w1 (hto : RpTo W n s bm cv OS P (doR R d) w1) => by
    obtain ⟨hK1, hba1, cv1, OS1, P1, q1, q2, q3, q4, q5, q6, q7, q8⟩ := step.out w1 hto
    obtain ⟨x, hx⟩ := hK1.ac
    exact (⟨⟨hK1.d0, hK1.d1, hK1.d2, hK1.d3, hK1.d4, hK1.jc⟩, ⟨x, hx⟩, hK1.af, q5, q6, q7⟩ : (w1.cell? ⟨bd, 0, none⟩ = some (.string ⟨d.1.toArray⟩) ∧ w1.cell? ⟨bd, 1, none⟩ = some (.string ⟨d.2.1.toArray⟩) ∧ w1.cell? ⟨bd, 2, none⟩ = some (.slice ad d.2.2.1.length ca) ∧ w1.cell? ⟨bd, 3, none⟩ = some (.string ⟨d.2.2.2.1.toArray⟩) ∧ w1.cell? ⟨bd, 4, none⟩ = some (.int .i64 d.2.2.2.2) ∧ w1.cell? ⟨bj, 0, none⟩ = some (.pointer (some ⟨j, 0, none⟩))) ∧ (∃ x : Int, w1.cell? ⟨ba, 0, none⟩ = some (.int .i64 x)) ∧ w1.frozen? ⟨ba, 0, none⟩ = false ∧ JB (w1.setCell ⟨ba, 0, none⟩ (.int .i64 (doI R d : Int))) j r bv l sf a false ∧ InD (w1.setCell ⟨ba, 0, none⟩ (.int .i64 (doI R d : Int))) d ad ca ∧ RowKit.Below B w (w1.setCell ⟨ba, 0, none⟩ (.int .i64 (doI R d : Int)))))
  have c0 := hK.d0
  have c1 := hK.d1
  have c2 := hK.d2
  have c3 := hK.d3
  have c4 := hK.d4
  have c5 := hK.jc
  clear step hK hk hj hbv hbaW hL ho hg hN hR hW nP
  obtain ⟨k, nm, S, m, z⟩ := d
  dsimp only at c0 c1 c2 c3 c4
  unfold valD at HD
  unfold DoAns at HD
  show Calls Tryz.prog 44 #[.pointer (some ⟨n, 0, none⟩), .pointer (some ⟨bd, 0, none⟩), .pointer (some ⟨ba, 0, none⟩), .pointer (some ⟨bj, 0, none⟩)] W _
  go_enter Tryz.func44, Tryz.ntmps44
  go_wp2_with fail
  refine HD.mono ?_
  rintro e w1 ⟨rfl, hto⟩
  obtain ⟨⟨u0, u1, u2, u3, u4, u5⟩, ⟨x, hx⟩, hf, hj2, hi2, hb2⟩ := HST.out w1 hto
  by_cases hE : doE R (k, nm, S, m, z) = 0
  · have HW2 := HW.out _ hb2 hj2 hi2 hE
    have F := hideO (fin1.out w1)
    clear fin0 fin1 HST HW hb2 hj2 hi2 HD
    have hE' : errV (doE R (k, nm, S, m, z)) = .nilIface := by rw [hE]; rfl
    rw [hE']
    have HT := hideO hto
    have HE := hideO hE
    clear hto hE hE' c0 c1 c2 c3 c4 c5
    unfold valD at HW2
    dsimp only at HW2
    generalize doI R (k, nm, S, m, z) = I at *
    dsimp only
    go_wp2_with fail
    refine HW2.mono ?_
    intro e w3 hw
    have HWR := hideO (F.out w3 e HT.out HE.out hw)
    obtain ⟨rfl, _⟩ := hw
    clear F HW2 HT HE
    generalize (if a = 0 then (6 : Int) else 0) = N6 at *
    dsimp only
    go_wp2_with fail
    exact bodyPost_ret (v := errV N6) (by unfold results; rw [Tryz.results44]; go_simp) rfl HWR.out
  · have F := hideO (fin0.out w1 hto hE)
    have hE' : (doE R (k, nm, S, m, z) == 0) = false := by simpa using hE
    clear fin0 fin1 HST HW hb2 hj2 hi2 HD hto hE c0 c1 c2 c3 c4 c5
    generalize doI R (k, nm, S, m, z) = I at *
    generalize doE R (k, nm, S, m, z) = E at *
    dsimp only
    go_wp2_with fail
    exact bodyPost_ret (v := errV E) (by unfold results; rw [Tryz.results44]; go_simp) rfl F.out
end Go.Proofs.YtnphjdckdkjopaaGreatDoor
