import Derived.Test.YtenakehnnmencahGreatMA0x4
import Derived.Test.YtenakehnnmencahGreatMA0x7
import Derived.Maps.AppendAt
import Derived.Deep.QuietTactic
import Derived.BigQuiet
import Derived.WalkKit

/- solve.meet: the groups by key, and the list that is made; in memory. -/
namespace Go.Proofs.YtenakehnnmencahGreat
open Go Go.RowKit Go.Proofs Go.Maps
set_option synthInstance.maxSize 1000

/-- which of some keys are one -/
def atK (keys : List Tr) (k : Tr) (n : Nat) : List Nat := (List.range n).filter fun j => decide (keys[j]? = some k)
theorem atK_hit {keys : List Tr} {k : Tr} {n : Nat} (h : keys[n]? = some k) : atK keys k (n + 1) = atK keys k n ++ [n] := by
  simp [atK, List.range_succ, h]
theorem atK_miss {keys : List Tr} {k k' : Tr} {n : Nat} (h : keys[n]? = some k) (hne : k' ≠ k) : atK keys k' (n + 1) = atK keys k' n := by
  have : keys[n]? ≠ some k' := fun e => hne (by rw [h] at e; exact (Option.some.inj e).symm)
  simp [atK, List.range_succ, this]
theorem atK_len (keys : List Tr) (k : Tr) (n : Nat) : (atK keys k n).length ≤ n := by
  have := List.length_filter_le (fun j => decide (keys[j]? = some k)) (List.range n)
  simpa [atK] using this
def cellM (b : Nat) : Value := .map (some b)
/-- the groups -/
structure GSt (W : World) (bK base k : Nat) (hd : Tr → Value) (keys : List Tr) (bml : List Nat) : Prop where
  map : GrpAt W bK k hd
  low : bK < base
  size : base ≤ W.heap.size
  rows : ∀ c, wf3 c → W.ownsRow base 89 1 (hd c) (atK keys c k).length ((atK keys c k).map fun j => cellM (bml.getD j 0))
  apart : ∀ c c', wf3 c → wf3 c' → c ≠ c' → (hd c).ownBlock = none ∨ (hd c).ownBlock ≠ (hd c').ownBlock
theorem GSt.start (w : World) (keys : List Tr) (bml : List Nat) : GSt (w.alloc (.map #[] 0)) w.heap.size (w.heap.size + 1) 0 (fun _ => .slice none 0 0) keys bml :=
  ⟨grpAt_made w, by omega, by simp, fun c _ => by simpa [atK] using World.ownsRow_nil _ _ _ _, fun _ _ _ _ _ => Or.inl rfl⟩
theorem GSt.below {W W' : World} {bK base k : Nat} {hd : Tr → Value} {keys : List Tr} {bml : List Nat} (h : GSt W bK base k hd keys bml) (hb : RowKit.Below W.heap.size W W') : GSt W' bK base k hd keys bml :=
  ⟨h.map.below hb, h.low, Nat.le_trans h.size hb.size, fun c hc => ownsRow_belowV (h.rows c hc) hb, h.apart⟩
theorem infoM : (Tryz.prog.info? 89).map (fun i => (i.zero, i.size, i.bytes)) = some (some (.map none), 1, 8) := by kernel_rfl
/-- an append of one answer to a row of one's own -/
theorem wpList_appendE {ops : Array Oper} {rest : List Oper} {o : Oper} {a : Act} {Q : Exit → Act → World → Prop} (w : World) (hgd : o.guard = none) (s x : Operand)
    (ho : o.op = .call { callee := .builtin .append, args := #[s, x], argTypes := #[85, 85] })
    (base B : Nat) (v : Value) (n : Nat) (vs : List Value) (u : Nat) (hs : a.eval s = v) (hx : a.eval x = .slice (some ⟨B, 0, none⟩) 1 1) (hown : w.ownsRow base 89 1 v n vs)
    (hy : w.cell? ⟨B, 0, none⟩ = some (.map (some u))) (h63 : n ≤ 1000000) (hbase : base ≤ w.heap.size)
    (h : ∀ v' w', w'.ownsRow base 89 1 v' (n + 1) (vs ++ [cellM u]) → w.grownBy w' v.ownBlock → (v'.ownBlock = v.ownBlock ∨ v'.ownBlock = some w.heap.size) → wpList Tryz.prog ops Q rest (a.put o.dst v') w') : wpList Tryz.prog ops Q (o :: rest) a w := by
  obtain ⟨i0, hi, hz⟩ := Option.map_eq_some_iff.1 infoM
  simp only [Prod.mk.injEq] at hz
  obtain ⟨hz0, hz1, hz2⟩ := hz
  refine wpList_append_own_at _ hgd s x _ ho base 89 i0 (.map none) 1 8 Tryz.underlying85 hi hz0 hz1 hz2 rfl (by decide) v n vs hs hown ⟨B, 0, none⟩ 1 1 [cellM u] hx rfl ?_ (fun z hz => by simp at hz; subst hz; rfl) (by unfold maxLen; omega) (by omega) hbase ?_
  · intro j z hj
    have h1 : j < 1 := (List.getElem?_eq_some_iff.1 hj).1
    obtain rfl : j = 0 := by omega
    simp at hj
    subst hj
    rw [Addr.add_lit]
    exact hy
  · intro v' w' h2 h3 _ h5
    exact h v' w' h2 h3 h5
theorem wpList_mapEntryE (w : World) {ops : Array Oper} {rest : List Oper} {o : Oper} {a : Act} {Q : Exit → Act → World → Prop} (hg : o.guard = none) (m x : Operand) (t : TypeId) (hop : o.op = Op.mapEntry t m x)
    (mv kv : Value) (hm : a.eval m = mv) (hx : a.eval x = kv) {v : Value} {w1 : World} (hrun : (Instr.mapEntry t mv kv).run Tryz.prog w = .ok v w1) (hK : wpList Tryz.prog ops Q rest (a.put o.dst v) w1) : wpList Tryz.prog ops Q (o :: rest) a w := by
  refine wpList_plain hg fun K' hK' => ?_
  unfold Oper.wp
  simp [execOp, hop, hm, hx, hrun, Result.andThen]
  exact hK' _ _ hK
theorem wpList_entryStoreE (w : World) {ops : Array Oper} {rest : List Oper} {o : Oper} {a : Act} {Q : Exit → Act → World → Prop} (hg : o.guard = none) (m x v : Operand) (t : TypeId) (hop : o.op = Op.entryStore t m x v)
    (mv kv vv : Value) (hm : a.eval m = mv) (hx : a.eval x = kv) (hv : a.eval v = vv) {w1 : World} (hrun : (Instr.entryStore t mv kv vv).run Tryz.prog w = .ok () w1) (hK : wpList Tryz.prog ops Q rest (a.put o.dst undef) w1) : wpList Tryz.prog ops Q (o :: rest) a w := by
  refine wpList_plain hg fun K' hK' => ?_
  unfold Oper.wp
  simp [execOp, hop, hm, hx, hv, hrun, Result.andThen]
  exact hK' _ _ hK
/-- one more answer in its group: what the three operations leave -/
theorem GSt.step {W w1 w2 w3 : World} {bK base k : Nat} {hd : Tr → Value} {keys : List Tr} {bml : List Nat} (h : GSt W bK base k hd keys bml) {c : Tr} (hc : wf3 c) (hkc : keys[k]? = some c)
    (g1 : W.grownBy w1 (some bK)) {v' : Value} (hown : w2.ownsRow base 89 1 v' ((atK keys c k).length + 1) (((atK keys c k).map fun j => cellM (bml.getD j 0)) ++ [cellM (bml.getD k 0)])) (g2 : w1.grownBy w2 (hd c).ownBlock) (hv' : v'.ownBlock = (hd c).ownBlock ∨ v'.ownBlock = some w1.heap.size)
    (hs1 : w1.heap.size = W.heap.size) (hG : GrpAt w3 bK (k + 1) (fun c' => if c' = c then v' else hd c')) (g3 : w2.grownBy w3 (some bK)) : GSt w3 bK base (k + 1) (fun c' => if c' = c then v' else hd c') keys bml := by
  have hz := h.size
  have hsz : base ≤ w3.heap.size := by have := g2.size; have := g3.size; omega
  have offK : ∀ {w : World} {e s n : Nat} {v : Value} {xs : List Value}, w.ownsRow base e s v n xs → v.ownBlock = none ∨ v.ownBlock ≠ some bK := fun {w e s n v xs} ho => by
    cases hb : v.ownBlock with
    | none => exact Or.inl rfl
    | some g =>
      refine Or.inr (fun e => ?_)
      have := (ho.lt g hb).1
      have := Option.some.inj e
      have := h.low
      omega
  have small : ∀ c', wf3 c' → (hd c').ownBlock ≠ some w1.heap.size := fun c' hc' e => by
    have := ((h.rows c' hc').lt _ e).2
    omega
  refine ⟨hG, h.low, hsz, fun c' hc' => ?_, fun c1 c2 h1 h2 hne => ?_⟩
  · by_cases e : c' = c
    · subst e
      rw [if_pos rfl, atK_hit hkc, List.length_append, List.map_append]
      exact hown.kept g3 (offK hown)
    · rw [if_neg e, atK_miss hkc e]
      have r0 := h.rows c' hc'
      have r1 := r0.kept g1 (offK r0)
      have r2 := r1.kept g2 (h.apart c' c hc' hc e)
      exact r2.kept g3 (offK r2)
  · by_cases e1 : c1 = c
    · subst e1
      rw [if_pos rfl, if_neg (fun e => hne e.symm)]
      rcases hv' with hv' | hv'
      · rw [hv']
        exact h.apart c1 c2 h1 h2 hne
      · rw [hv']
        exact Or.inr (fun e => small c2 h2 e.symm)
    · rw [if_neg e1]
      by_cases e2 : c2 = c
      · subst e2
        rw [if_pos rfl]
        rcases hv' with hv' | hv'
        · rw [hv']
          exact h.apart c1 c2 h1 h2 hne
        · rw [hv']
          exact Or.inr (small c1 h1)
      · rw [if_neg e2]
        exact h.apart c1 c2 h1 h2 hne
/-- a list of answers of one's own -/
def OwnE (W : World) (B : Nat) (v : Value) (N : Nat) (L : List Ev) : Prop := ∃ bs : List Nat, bs.length = L.length ∧ W.ownsRow B 89 1 v L.length (bs.map cellM) ∧ ∀ j (hj : j < L.length), EvAt W (bs.getD j 0) N L[j]
theorem EvAt.ne_own {W : World} {bm N base e size n : Nat} {f : Ev} {v : Value} {xs : List Value} (h : EvAt W bm N f) (ho : W.ownsRow base e size v n xs) : some bm ≠ v.ownBlock := fun q => by
  obtain ⟨D, ⟨es, clock, hm, _⟩, _⟩ := h
  rcases ho.2 with ⟨rfl, _⟩ | ⟨g, cap, cur, rfl, _, hg, _⟩
  · cases q
  · have e1 : bm = g := by simpa [Value.ownBlock] using q
    rw [e1, hg] at hm
    cases hm
theorem OwnE.nil (W : World) (B N : Nat) : OwnE W B (.slice none 0 0) N [] := ⟨[], rfl, World.ownsRow_nil _ _ _ _, fun j h => by simp at h⟩
theorem OwnE.below {W W' : World} {B N : Nat} {v : Value} {L : List Ev} (h : OwnE W B v N L) (hb : RowKit.Below W.heap.size W W') : OwnE W' B v N L := by
  obtain ⟨bs, e, o, g⟩ := h
  exact ⟨bs, e, ownsRow_belowV o hb, fun j hj => (g j hj).below hb⟩
theorem OwnE.push {W W' : World} {B N u : Nat} {v v' : Value} {L : List Ev} {bs : List Nat} {f : Ev} (e : bs.length = L.length) (o : W.ownsRow B 89 1 v L.length (bs.map cellM)) (g : ∀ j (hj : j < L.length), EvAt W (bs.getD j 0) N L[j]) (hu : EvAt W u N f)
    (ho : W'.ownsRow B 89 1 v' (L.length + 1) (bs.map cellM ++ [cellM u])) (hg : W.grownBy W' v.ownBlock) : OwnE W' B v' N (L ++ [f]) := by
  refine ⟨bs ++ [u], by simp [e], by simpa using ho, fun j hj => ?_⟩
  by_cases hlt : j < L.length
  · have h1 : (L ++ [f])[j] = L[j] := List.getElem_append_left hlt
    have h2 : (bs ++ [u]).getD j 0 = bs.getD j 0 := by
      rw [List.getD_eq_getElem?_getD, List.getD_eq_getElem?_getD, List.getElem?_append_left (by omega)]
    rw [h1, h2]
    exact (g j hlt).kept hg ((g j hlt).ne_own o)
  · have hjj : j = L.length := by simp at hj; omega
    subst hjj
    have h1 : (L ++ [f])[L.length] = f := by simp
    have h2 : (bs ++ [u]).getD L.length 0 = u := by
      rw [List.getD_eq_getElem?_getD, List.getElem?_append_right (by omega)]
      simp [e]
    rw [h1, h2]
    exact hu.kept hg (hu.ne_own o)
theorem OwnE.sl {W : World} {B N : Nat} {v : Value} {L : List Ev} (h : OwnE W B v N L) : ∃ ad c, v = .slice ad L.length c ∧ SlE W ad N L := by
  obtain ⟨bs, e, o, g⟩ := h
  rcases o.2 with ⟨rfl, h0⟩ | ⟨b, cap, cur, rfl, _⟩
  · exact ⟨none, 0, by rw [h0], fun hne => absurd (List.eq_nil_of_length_eq_zero h0) hne⟩
  · refine ⟨some ⟨b, 0, none⟩, cap, rfl, fun _ => ⟨b, 0, rfl, fun j hj => ⟨bs.getD j 0, ?_, g j hj⟩⟩⟩
    have hb : j < bs.length := by omega
    have hc := o.cells (g := b) rfl j (cellM (bs.getD j 0)) (by
      rw [List.getElem?_map, List.getElem?_eq_getElem hb, List.getD_eq_getElem?_getD, List.getElem?_eq_getElem hb]
      rfl)
    rw [Addr.add_lit] at hc
    exact hc
end Go.Proofs.YtenakehnnmencahGreat

/- A region that draws its order, whose operations only read and whose calls leave all that was: walked once, in the order of the text. -/
namespace Go.Proofs.YtenakehnnmencahGreat
open Go Go.RowKit Go.Proofs

/-- the worlds in which nothing old has turned -/
structure Lat (w : World) where
  val : World
  low : RowKit.Below w.heap.size w val
theorem lat_some (w : World) : Nonempty (Lat w) := ⟨⟨w, RowKit.Below.refl _ _⟩⟩
theorem lat_cell {w : World} {p : Addr} {v : Value} (h : w.cell? p = some v) : ∀ n : Lat w, n.val.cell? p = some v := fun n => (n.low.cell (World.block_lt_of_cell? w p h)).trans h
theorem lat_region {P : Program} {id : Nat} {Q : Exit → Act → World → Prop} {a : Act} {w : World} {l : List Oper} (hm : P.follows .mixedOrders = true) (hB : Region.lexB .any l.toArray = true)
    (h : wpQuiet P l.toArray (fun W => ∃ n : Lat w, W = n.val) (fun a' => ∀ W, (∃ n : Lat w, W = n.val) → Q .normal a' W) l a) : (Code.region id l.toArray true).wp P Q a w :=
  wp_region_quiet (C := fun W => ∃ n : Lat w, W = n.val) hm hB ⟨⟨w.drew, (RowKit.Below.refl _ _).drew⟩, rfl⟩ (by simpa using h)
theorem lat_call {P : Program} {f : FuncId} {args : Array Value} {w : World} {n : Lat w} {v : Value}
    (h : Calls P f args n.val fun e w' => e = .returned v ∧ RowKit.Below n.val.heap.size n.val w') : Calls P f args n.val fun e w'' => e = .returned v ∧ ∃ m : Lat w, w'' = m.val :=
  h.mono fun _ w' ⟨he, hb⟩ => ⟨he, ⟨w', n.low.trans (hb.mono n.low.size)⟩, rfl⟩
end Go.Proofs.YtenakehnnmencahGreat

/- solve.meet: answers that agree, made one. -/
namespace Go.Proofs.YtenakehnnmencahGreat
open Go Go.RowKit Go.Proofs Go.Maps
set_option synthInstance.maxSize 1000

/-- those of a list of answers that have one's key, each made one with it -/
def meetOne (sh : List (List UInt8)) (Lb : List Ev) (f : Ev) : List Ev := (atK (Lb.map (keyT sh)) (keyT sh f) Lb.length).map fun j => bothE f (Lb.getD j noneE)
def meetE (sh : List (List UInt8)) (La Lb : List Ev) : List Ev := La.flatMap (meetOne sh Lb)
def headE (L : List Ev) : Ev := L.headD noneE
/-- the variables that the first two share -/
def SharedE (La Lb : List Ev) (sh : List (List UInt8)) : Prop := sh.Nodup ∧ (∀ v ∈ sh, v.length ≤ maxLen) ∧ ∀ v : List UInt8, v.length ≤ maxLen → (v ∈ sh ↔ (headE Lb v).isSome = true ∧ (headE La v).isSome = true)
def MeetAns (La Lb : List Ev) (N : Nat) (w : World) (e : Ending) (w' : World) : Prop := RowKit.Below w.heap.size w w' ∧ ∃ sh ad c L, SharedE La Lb sh ∧ L = (meetE sh La Lb).take 501 ∧ e = .returned (.slice ad L.length c) ∧ SlE w' ad N L
/-- all terms that an answer gives may be keys -/
def WfE (f : Ev) : Prop := ∀ v x, f v = some x → wfK x
theorem wfK_zero : wfK tmZero := ⟨by decide, by simp [tmZero], by simp [tmZero]⟩
theorem WfE.nth {f : Ev} (h : WfE f) (sh : List (List UInt8)) (i : Nat) : wfK (nthE sh f i) := by
  unfold nthE
  split
  · rename_i v _
    cases hv : f v with
    | none => exact wfK_zero
    | some x => exact h v x hv
  · exact wfK_zero
theorem WfE.key {f : Ev} (h : WfE f) (sh : List (List UInt8)) : wf3 (keyT sh f) := ⟨h.nth sh 0, h.nth sh 1, h.nth sh 2⟩
theorem meet_none_a (sh : List (List UInt8)) (Lb : List Ev) : meetE sh [] Lb = [] := rfl
theorem meet_none_b (sh : List (List UInt8)) (La : List Ev) : meetE sh La [] = [] := by
  unfold meetE
  rw [List.flatMap_eq_nil_iff]
  intro f _
  simp [meetOne, atK]
theorem enters155 : ∀ args w, (callFunc 155 args).run Tryz.prog w = .ok (.enter 155 args) w := enters_of Tryz.func155 (by kernel_rfl) rfl
theorem few_le : ∀ (l m : List (List UInt8)), l.Nodup → (∀ v ∈ l, v ∈ m) → l.length ≤ m.length
  | [], _, _, _ => by simp
  | x :: l, m, hn, hs => by
    obtain ⟨h1, h2⟩ := List.nodup_cons.1 hn
    have hx : x ∈ m := hs x (by simp)
    have h3 := few_le l (m.erase x) h2 (fun v hv => (List.mem_erase_of_ne (fun (e : v = x) => h1 (e ▸ hv))).2 (hs v (by simp [hv])))
    rw [List.length_erase_of_mem hx] at h3
    have := List.length_pos_of_mem hx
    simp
    omega
theorem shared_few {sh V : List (List UInt8)} (hn : sh.Nodup) (hV : ∀ v ∈ sh, v ∈ V) (h3 : V.length ≤ 3) : sh.length ≤ 3 := Nat.le_trans (few_le _ _ hn hV) h3
theorem meet_next {sh : List (List UInt8)} {La Lb : List Ev} {k : Nat} (h : k < La.length) : meetE sh (La.take (k + 1)) Lb = meetE sh (La.take k) Lb ++ meetOne sh Lb La[k] := by
  unfold meetE
  rw [List.take_succ_eq_append_getElem h, List.flatMap_append]
  simp
theorem one_len (sh : List (List UInt8)) (Lb : List Ev) (f : Ev) : (meetOne sh Lb f).length = (atK (Lb.map (keyT sh)) (keyT sh f) Lb.length).length := by simp [meetOne]
theorem meet_prefix {sh : List (List UInt8)} {La Lb : List Ev} {k : Nat} (h : k < La.length) (j : Nat) : ∃ r, meetE sh La Lb = (meetE sh (La.take k) Lb ++ (meetOne sh Lb La[k]).take j) ++ r := by
  refine ⟨(meetOne sh Lb La[k]).drop j ++ meetE sh (La.drop (k + 1)) Lb, ?_⟩
  have e : La = La.take k ++ La[k] :: La.drop (k + 1) := by rw [← List.drop_eq_getElem_cons h, List.take_append_drop]
  have e2 : meetE sh La Lb = meetE sh (La.take k) Lb ++ (meetOne sh Lb La[k] ++ meetE sh (La.drop (k + 1)) Lb) := by
    conv => lhs; rw [e]
    unfold meetE
    rw [List.flatMap_append, List.flatMap_cons]
  rw [e2, List.append_assoc, ← List.append_assoc (List.take j _), List.take_append_drop]
theorem SlE.list {w : World} {b o n : Nat} {L : List Ev} (h : SlE w (some ⟨b, o, none⟩) n L) : ∃ bs : List Nat, bs.length = L.length ∧ ∀ j (hj : j < L.length), w.cell? ⟨b, o + j, none⟩ = some (.map (some (bs.getD j 0))) ∧ EvAt w (bs.getD j 0) n L[j] := by
  have hx : ∀ j : Fin L.length, ∃ bm, w.cell? ⟨b, o + j.val, none⟩ = some (.map (some bm)) ∧ EvAt w bm n L[j.val] := fun j => by
    obtain ⟨b', o', bm, e, c, s⟩ := h.at j.val j.isLt
    simp at e
    obtain ⟨rfl, rfl⟩ := e
    exact ⟨bm, c, s⟩
  refine ⟨List.ofFn fun j => Classical.choose (hx j), by simp, fun j hj => ?_⟩
  have e : (List.ofFn fun j => Classical.choose (hx j)).getD j 0 = Classical.choose (hx ⟨j, hj⟩) := by
    rw [List.getD_eq_getElem?_getD, List.getElem?_ofFn, dif_pos hj]
    rfl
  rw [e]
  exact Classical.choose_spec (hx ⟨j, hj⟩)
theorem atK_lt {keys : List Tr} {k : Tr} {n i : Nat} (h : i ∈ atK keys k n) : i < n := by
  simp [atK] at h
  exact h.1
theorem own_cell {W : World} {base e n c i : Nat} {ad : Option Addr} {xs : List Value} {u : Value} (h : W.ownsRow base e 1 (.slice ad n c) n xs) (hi : i < n) (hx : xs[i]? = some u) : ∃ gb, ad = some ⟨gb, 0, none⟩ ∧ W.cell? ⟨gb, i, none⟩ = some u := by
  rcases h.2 with ⟨hv, h0⟩ | ⟨g, cap, cur, hv, _⟩
  · omega
  · simp at hv
    obtain ⟨rfl, rfl⟩ := hv
    refine ⟨g, rfl, ?_⟩
    rw [h.cellAt i (by omega)]
    exact hx
theorem makeGrp (w : World) : (Instr.makeMap 183 none).run Tryz.prog w = .ok (.map (some w.heap.size)) (w.alloc (.map #[] 0)) := by kernel_rfl
theorem valTr_agg (t : Tr) : valTr t = .agg #[.int .i64 t.1.1, .string ⟨t.1.2.1.toArray⟩, .string ⟨t.1.2.2.toArray⟩, .int .i64 t.2.1.1, .string ⟨t.2.1.2.1.toArray⟩, .string ⟨t.2.1.2.2.toArray⟩, .int .i64 t.2.2.1, .string ⟨t.2.2.2.1.toArray⟩, .string ⟨t.2.2.2.2.toArray⟩] := rfl
set_option maxHeartbeats 8000000 in
set_option maxRecDepth 100000 in
theorem meet_any (aa ab : Option Addr) (ca cb na nb : Nat) (La Lb : List Ev) (V : List (List UInt8)) (w : World) (ha : SlE w aa na La) (hb : SlE w ab nb Lb) (hla : La.length ≤ 500) (hlb : Lb.length ≤ 200) (hna : na ≤ 1000) (hnb : nb ≤ 1000)
    (wa : ∀ f ∈ La, WfE f) (wb : ∀ f ∈ Lb, WfE f) (hV : V.length ≤ 3) (hd : ∀ f ∈ Lb, ∀ v, (f v).isSome = true → v ∈ V) :
    Calls Tryz.prog 66 #[.slice aa La.length ca, .slice ab Lb.length cb] w (MeetAns La Lb (na + nb) w) := by
  by_cases h0 : La.length = 0
  · obtain rfl : La = [] := List.eq_nil_of_length_eq_zero h0
    have hS : Hid (SharedE [] Lb []) := ⟨List.nodup_nil, by simp, fun v _ => by simp [headE, noneE]⟩
    clear ha hb wa wb hd h0
    go_enter Tryz.func66, Tryz.ntmps66
    go_wp2_with fail
    go_ret
    exact ⟨RowKit.Below.refl _ _, [], none, 0, [], hS.out, rfl, rfl, slE_nil _ _ _⟩
  · by_cases h1 : Lb.length = 0
    · obtain rfl : Lb = [] := List.eq_nil_of_length_eq_zero h1
      have hS : Hid (SharedE La [] []) := ⟨List.nodup_nil, by simp, fun v _ => by simp [headE, noneE]⟩
      have hm : Hid (([] : List Ev) = (meetE [] La []).take 501) := by show _ = _; rw [meet_none_b]; rfl
      clear ha hb wa wb hd h1
      generalize La.length = NA at *
      have t0 : ((NA : Int) == 0) = false := by simp; omega
      go_enter Tryz.func66, Tryz.ntmps66
      go_wp2_with fail
      go_ret
      exact ⟨RowKit.Below.refl _ _, [], none, 0, [], hS.out, hm.out, rfl, slE_nil _ _ _⟩
    · obtain ⟨f0, Ra, hLa0⟩ : ∃ f r, La = f :: r := List.exists_cons_of_length_pos (by omega)
      obtain ⟨g0, Rb, hLb0⟩ : ∃ f r, Lb = f :: r := List.exists_cons_of_length_pos (by omega)
      obtain ⟨pa, oa, bx0, rfl, cx0, ex0⟩ := ha.at 0 (by omega)
      obtain ⟨pb, ob, by0, rfl, cy0, ey0⟩ := hb.at 0 (by omega)
      have ef0 : La[0] = f0 := by simp [hLa0]
      have eg0 : Lb[0] = g0 := by simp [hLb0]
      rw [ef0] at ex0
      rw [eg0] at ey0
      have HK := keyer_any bx0 by0 na nb f0 g0 w.drew ex0 ey0 hnb
      have HA := hideE ha
      have HB := hideE hb
      obtain ⟨Q, hQ⟩ : ∃ Q, Q = MeetAns La Lb (na + nb) w := ⟨_, rfl⟩
      have HQ : Hid (∀ e w', MeetAns La Lb (na + nb) w e w' → Q e w') := fun e w' h => by rw [hQ]; exact h
      rw [← hQ]
      have WA := hideE wa
      have WB := hideE wb
      have HD : Hid (∀ v, (g0 v).isSome = true → v ∈ V) := hd g0 (by rw [hLb0]; simp)
      have Hh : Hid (headE La = f0 ∧ headE Lb = g0) := ⟨by rw [hLa0]; rfl, by rw [hLb0]; rfl⟩
      clear ha hb wa wb hd hQ ef0 eg0 hLa0 hLb0 ex0 ey0
      obtain ⟨NA, hNA⟩ : ∃ n, n = La.length := ⟨_, rfl⟩
      obtain ⟨NB, hNB⟩ : ∃ n, n = Lb.length := ⟨_, rfl⟩
      rw [← hNA, ← hNB]
      rw [← hNA] at h0 hla
      rw [← hNB] at h1 hlb
      have HNA := hideE hNA
      have HNB := hideE hNB
      clear hNA hNB
      have t0 : ((NA : Int) == 0) = false := by simp; omega
      have t1 : ((NB : Int) == 0) = false := by simp; omega
      have i0 : 0 < NA := by omega
      have i1 : 0 < NB := by omega
      rw [Nat.add_zero] at cx0 cy0
      go_enter Tryz.func66, Tryz.ntmps66
      go_upto_region 3 with fail
      go_cut [5] from 23 to 29 (fun v W => Hid (KeyerAns f0 g0 w.drew (.returned v) W))
      case first =>
        go_region_law (go_simp; go_at_call 106; refine HK.mono ?_; rintro e w1 ⟨hb1, sh, B, rfl, hk, hn⟩; have HH : Hid (RowKit.Below w.drew.heap.size w.drew w1 ∧ KeyAt w1 B sh ∧ sh.Nodup ∧ (∀ v ∈ sh, v.length ≤ maxLen) ∧ ∀ v : List UInt8, v.length ≤ maxLen → (v ∈ sh ↔ (g0 v).isSome = true ∧ (f0 v).isSome = true)) := ⟨hb1, hk, hn⟩; clear hb1 hk hn)
        all_goals
          go_wp2_with fail
          go_meet
          case rel => exact ⟨HH.out.1, sh, B, rfl, HH.out.2⟩
      case rest =>
        clear HK cx0 cy0 t0 t1 i0 i1
        obtain ⟨hb1, sh, B, hv, hk1, hnd, hsl, hmm⟩ := hcut.out
        obtain rfl := Ending.returned.inj hv
        have hbw : RowKit.Below w.heap.size w wc := (RowKit.Below.refl _ w).drew.trans hb1
        have hsh3 : sh.length ≤ 3 := shared_few hnd (fun v hv => HD.out v ((hmm v (hsl v hv)).1 hv).1) hV
        have HS : Hid (SharedE La Lb sh) := ⟨hnd, hsl, fun v hv => by rw [Hh.out.1, Hh.out.2]; exact hmm v hv⟩
        have Hk1 := hideE hk1
        have Hsl := hideE hsl
        have Hs3 := hideE hsh3
        have HAc := hideE (HA.out.below hbw)
        obtain ⟨bml, hbl, hbc⟩ := (HB.out.below hbw).list
        obtain ⟨aml, hal, hac⟩ := (HA.out.below hbw).list
        have Hbl := hideE hbl
        have Hbc := hideE hbc
        have Hac := hideE hac
        have eg := enters155
        have hmkG := makeGrp
        have hG0 := hideE (GSt.start wc (Lb.map (keyT sh)) bml)
        clear hcut hv hk1 hsl hsh3 hnd hmm hb1 hbl hbc hal hac HA HB Hh HD HAc
        go_wp2_with fail
        go_loopw [33] (fun i wr => ∃ (k : Nat) (hd : Tr → Value), k ≤ NB ∧ i = .int .i64 k ∧ Hid (GSt wr wc.heap.size (wc.heap.size + 1) k hd (Lb.map (keyT sh)) bml) ∧ RowKit.Below wc.heap.size wc wr) (fun i wr => NB - (intOf i).toNat)
        case atStart => exact ⟨0, _, Nat.zero_le _, rfl, hG0.out, balloc _ _⟩
        case round =>
          clear hG0 hmkG
          obtain ⟨k, hd, hk, rfl, hG, hbr⟩ := hrel
          have hzr := hbr.size
          by_cases hlt : k < NB
          · have t1 : decide ((k : Int) < (NB : Int)) = true := by simp; omega
            have i0 : (0 : Int) ≤ (k : Int) := by omega
            have i1 : (k : Int) < (NB : Int) := by omega
            have hkL : k < Lb.length := by rw [← HNB.out]; exact hlt
            obtain ⟨cy0, ey0⟩ := Hbc.out k hkL
            have cy := (hbr.cell (World.block_lt_of_cell? wc _ cy0)).trans cy0
            have hwf := hideE ((WB.out _ (List.getElem_mem hkL)).key sh)
            have HKY := key_any (bml.getD k 0) nb B Lb[k] sh wr (ey0.far hbr ey0.lt) (Hk1.out.below hbr) Hsl.out Hs3.out
            have hkk := hideE (show (Lb.map (keyT sh))[k]? = some (keyT sh Lb[k]) by rw [List.getElem?_map, List.getElem?_eq_getElem hkL]; rfl)
            have Hyb := hideE (show bml.getD k 0 = bml.getD k 0 from rfl)
            generalize keyT sh Lb[k] = kap at *
            generalize hyb : bml.getD k 0 = yb at *
            have HYB := hideE hyb
            clear hyb Hyb cy0 ey0
            rw [valTr_agg] at HKY
            go_wp2_with fail
            go_at_fn 155
            refine HKY.mono ?_
            rintro e w2 ⟨rfl, hb2⟩
            dsimp only
            obtain ⟨W4, hW4⟩ : ∃ W4, W4 = (w2.alloc (.cells #[.int .i64 kap.1.1, .string ⟨kap.1.2.1.toArray⟩, .string ⟨kap.1.2.2.toArray⟩, .int .i64 kap.2.1.1, .string ⟨kap.2.1.2.1.toArray⟩, .string ⟨kap.2.1.2.2.toArray⟩, .int .i64 kap.2.2.1, .string ⟨kap.2.2.2.1.toArray⟩, .string ⟨kap.2.2.2.2.toArray⟩] 184)).alloc (.cells #[.map (some yb)] 89) := ⟨_, rfl⟩
            have hb4 : RowKit.Below wr.heap.size wr W4 := by rw [hW4]; exact bstep (bstep hb2 (balloc _ _)) (balloc _ _)
            have hG4 := hideE (hG.out.below hb4)
            have hn4 : k < maxLen := by unfold maxLen; omega
            obtain ⟨st, w5, hrun, g1, hs1, hback⟩ := grp_entry hG4.out.map hn4 kap hwf.out
            rw [valTr_agg] at hrun
            have cz : w5.cell? ⟨w2.heap.size + 1, 0, none⟩ = some (.map (some yb)) := by
              have c4 : W4.cell? ⟨w2.heap.size + 1, 0, none⟩ = some (.map (some yb)) := by rw [hW4]; go_simp
              have hlow := hG4.out.low
              have h2 := hb2.size
              exact (grown_cellE g1 (b := w2.heap.size + 1) (World.block_lt_of_cell? W4 _ c4) (fun e => by have := Option.some.inj e; omega) 0).1.trans c4
            have hrow := hideE (show w5.ownsRow (wc.heap.size + 1) 89 1 (hd kap) (atK (Lb.map (keyT sh)) kap k).length ((atK (Lb.map (keyT sh)) kap k).map fun j => cellM (bml.getD j 0)) from (hG4.out.rows kap hwf.out).kept g1 (by
              cases hb : (hd kap).ownBlock with
              | none => exact Or.inl rfl
              | some g =>
                refine Or.inr (fun e => ?_)
                have := ((hG4.out.rows kap hwf.out).lt g hb).1
                have := Option.some.inj e
                omega))
            have hlen := atK_len (Lb.map (keyT sh)) kap k
            have hz5 : wc.heap.size + 1 ≤ w5.heap.size := by have := hG4.out.size; omega
            have HG1 := hideE g1
            have HS1 := hideE hs1
            have HBK := hideE hback
            clear g1 hs1 hback
            go_wp2_with (first
              | (rw [← hW4]; refine wpList_mapEntryE _ rfl _ _ _ rfl _ _ rfl rfl hrun ?_)
              | (at_builtin; go_loud (refine wpList_appendE _ rfl _ _ rfl (wc.heap.size + 1) (w2.heap.size + 1) (hd kap) _ _ yb rfl rfl hrow.out cz (by omega) hz5 ?_); intro v' w6 hown6 hg6 hv6; obtain ⟨w7, hst, hG7, g7⟩ := HBK.out w6 v' (hg6.block wc.heap.size (by omega) (own_aboveE hrow.out (by omega))) (isHd_own hown6))
              | (refine wpList_entryStoreE _ rfl _ _ _ _ rfl _ _ _ rfl rfl rfl hst ?_))
            have hGs := hideE (hG4.out.step hwf.out hkk.out HG1.out (v' := v') (by rw [HYB.out]; exact hown6) hg6 hv6 HS1.out hG7 g7)
            have hBf : RowKit.Below wc.heap.size wc w7 := (((hbr.trans (hb4.mono hzr)).grown HG1.out (by have := hb4.size; omega) (fun j e => by have := Option.some.inj e; omega)).grown hg6 (by omega) (fun j e => by have := (hrow.out.lt j e).1; omega)).grown g7 (by have := hg6.size; omega) (fun j e => by have := Option.some.inj e; omega)
            go_roundw
            case rel => exact ⟨k + 1, _, by omega, by go_num, hGs, hBf⟩
            case measure => simp [intOf]; omega
          · obtain rfl : k = NB := by omega
            have t1 : decide ((k : Int) < (k : Int)) = false := by simp
            go_wp2_with fail
            obtain ⟨Wz, rfl⟩ : ∃ Wz, Wz = wr := ⟨wr, rfl⟩
            go_loopw [10, 51] (fun vo i wr => ∃ n : Nat, n ≤ NA ∧ i = .int .i64 n ∧ Hid (OwnE wr Wz.heap.size vo (na + nb) (meetE sh (La.take n) Lb)) ∧ (meetE sh (La.take n) Lb).length ≤ 500 ∧ RowKit.Below Wz.heap.size Wz wr) (fun _ i wr => NA - (intOf i).toNat)
            case atStart => exact ⟨0, Nat.zero_le _, rfl, OwnE.nil _ _ _, by simp [meetE], RowKit.Below.refl _ _⟩
            case round =>
              obtain ⟨n, hn, rfl, hO, hO5, hbq⟩ := hrel
              have hzq := hbq.size
              by_cases hltn : n < NA
              · have t2 : decide ((n : Int) < (NA : Int)) = true := by simp; omega
                have j0 : (0 : Int) ≤ (n : Int) := by omega
                have j1 : (n : Int) < (NA : Int) := by omega
                have hnL : n < La.length := by rw [← HNA.out]; exact hltn
                obtain ⟨cx0, ex0⟩ := Hac.out n hnL
                have hbcq : RowKit.Below wc.heap.size wc wr := hbr.trans (hbq.mono hzr)
                have cx := (hbcq.cell (World.block_lt_of_cell? wc _ cx0)).trans cx0
                have hwf := hideE ((WA.out _ (List.getElem_mem hnL)).key sh)
                have HKX := key_any (aml.getD n 0) na B La[n] sh wr (ex0.far hbcq ex0.lt) (Hk1.out.below hbcq) Hsl.out Hs3.out
                have HX := hideE (ex0.far hbcq ex0.lt)
                have hnext := hideE (meet_next (sh := sh) (Lb := Lb) hnL)
                have hpre := hideE (fun j => meet_prefix (sh := sh) (Lb := Lb) hnL j)
                have hone := hideE (one_len sh Lb La[n])
                have hdef := hideE (show meetOne sh Lb La[n] = (atK (Lb.map (keyT sh)) (keyT sh La[n]) Lb.length).map (fun j => bothE La[n] (Lb.getD j noneE)) from rfl)
                have hGq := hideE (hG.out.below hbq)
                have hrow := hideE (hGq.out.rows _ hwf.out)
                have hlk := grp_look hGq.out.map _ hwf.out
                have hLbl : Lb.length = k := HNB.out.symm
                rw [hLbl] at hone hdef
                obtain ⟨adg, cg, hhd⟩ := own_form hrow.out
                have hrz := hideE (hG.out.rows _ hwf.out)
                rw [hhd] at hrz
                have HHD := hideE hhd
                have HXc := hideE ex0
                clear hhd hlk hrow
                generalize hM : (meetOne sh Lb La[n]) = M1 at *
                generalize hM0 : meetE sh (La.take n) Lb = M0 at *
                generalize keyT sh La[n] = kap at *
                generalize hat : atK (Lb.map (keyT sh)) kap k = gs at *
                generalize La[n] = fx at *
                generalize aml.getD n 0 = xb at *
                have hgl : ∀ i ∈ gs, i < k := fun i hi => by rw [← hat] at hi; exact atK_lt hi
                have Hgl := hideE hgl
                have hgk : gs.length ≤ 200 := by rw [← hat]; exact Nat.le_trans (atK_len _ _ _) hlb
                clear hat hM hM0 cx0 ex0 hgl
                rw [valTr_agg] at HKX
                go_wp2_with fail
                go_at_fn 155
                refine HKX.mono ?_
                rintro e w2 ⟨rfl, hb2⟩
                dsimp only
                have hlk := grp_look (hGq.out.below hb2).map kap hwf.out
                rw [HHD.out, valTr_agg] at hlk
                have hO2 := hideE (hO.out.below hb2)
                have hb2z : RowKit.Below Wz.heap.size Wz w2 := hbq.trans (hb2.mono hzq)
                clear hO HX hwf hGq HKX cx
                go_wp2_with fail
                go_loopw [10, 61] (fun vo j wq => ∃ i : Nat, i ≤ gs.length ∧ j = .int .i64 i ∧ Hid (OwnE wq Wz.heap.size vo (na + nb) (M0 ++ M1.take i)) ∧ (M0 ++ M1.take i).length ≤ 500 ∧ RowKit.Below Wz.heap.size Wz wq) (fun _ j wq => gs.length - (intOf j).toNat)
                case atStart => exact ⟨0, Nat.zero_le _, rfl, by show OwnE _ _ _ _ _; simpa using hO2.out, by simpa using hO5, hb2z⟩
                case round =>
                  clear hO2 hb2z hbq hzq hlk hb2
                  obtain ⟨i, hi, rfl, hP, hP5, hbp⟩ := hrel
                  have hzp := hbp.size
                  have hbcp : RowKit.Below wc.heap.size wc wr := hbr.trans (hbp.mono hzr)
                  by_cases hlti : i < gs.length
                  · have t3 : decide ((i : Int) < (gs.length : Int)) = true := by simp; omega
                    have l0 : (0 : Int) ≤ (i : Int) := by omega
                    have l1 : (i : Int) < (gs.length : Int) := by omega
                    have hgi := Hgl.out _ (List.getElem_mem hlti)
                    have hgL : gs[i] < Lb.length := by rw [hLbl]; exact hgi
                    obtain ⟨gb, rfl, cg0⟩ := own_cell (u := .map (some (bml.getD gs[i] 0))) hrz.out hlti (by rw [List.getElem?_map, List.getElem?_eq_getElem hlti]; rfl)
                    have cgi := (hbp.cell (World.block_lt_of_cell? Wz _ cg0)).trans cg0
                    have hy := (Hbc.out _ hgL).2
                    have HB2 := both_any xb (bml.getD gs[i] 0) na nb fx Lb[gs[i]] wr (HXc.out.far hbcp HXc.out.lt) (hy.far hbcp hy.lt) (by omega)
                    have hM1 : M1[i]? = some (bothE fx Lb[gs[i]]) := by
                      rw [hdef.out, List.getElem?_map, List.getElem?_eq_getElem hlti]
                      simp [List.getD_eq_getElem?_getD, List.getElem?_eq_getElem hgL]
                    have hiM : i < M1.length := (List.getElem?_eq_some_iff.1 hM1).1
                    have hstep : Hid (M0 ++ M1.take (i + 1) = (M0 ++ M1.take i) ++ [bothE fx Lb[gs[i]]]) := by
                      show _ = _
                      rw [List.take_succ_eq_append_getElem hiM, List.append_assoc, (List.getElem?_eq_some_iff.1 hM1).2]
                    obtain ⟨r, hr⟩ := hpre.out (i + 1)
                    rw [hstep.out] at hr
                    have Hr := hideE hr
                    generalize bothE fx Lb[gs[i]] = fz at *
                    generalize bml.getD gs[i] 0 = yb at *
                    generalize hLL : M0 ++ M1.take (i + 1) = L' at *
                    generalize M0 ++ M1.take i = L at *
                    obtain ⟨bs, ebs, obs, gbs⟩ := hP.out
                    have HLL := hideE hLL
                    clear hr hy cg0 hM1 hLL hgL hgi hP
                    go_wp2_with fail
                    refine HB2.mono ?_
                    rintro e w3 ⟨rfl, he3, hb3⟩
                    dsimp only
                    obtain ⟨W4, hW4⟩ : ∃ W4, W4 = w3.alloc (.cells #[.map (some wr.heap.size)] 89) := ⟨_, rfl⟩
                    have hb4 : RowKit.Below wr.heap.size wr W4 := by rw [hW4]; exact bstep hb3 (balloc _ _)
                    have c4 : W4.cell? ⟨w3.heap.size, 0, none⟩ = some (.map (some wr.heap.size)) := by rw [hW4]; go_simp
                    have he4 : EvAt W4 wr.heap.size (na + nb) fz := by rw [hW4]; exact he3.below (balloc _ _)
                    have ob4 := ownsRow_belowV obs hb4
                    have gb4 := hideE (fun j (hj : j < L.length) => (gbs j hj).below hb4)
                    have hz4 : Wz.heap.size ≤ W4.heap.size := by have := hb4.size; omega
                    have HE4 := hideE he4
                    have Hebs := hideE ebs
                    have hoo := hideE (fun (v' : Value) (w' : World) (h : w'.ownsRow Wz.heap.size 89 1 v' (L.length + 1) (bs.map cellM ++ [cellM wr.heap.size])) (hg : W4.grownBy w' u10.ownBlock) => OwnE.push ebs ob4 gb4.out HE4.out h hg)
                    obtain ⟨nl, hnl⟩ : ∃ nl, nl = L.length := ⟨_, rfl⟩
                    rw [← hnl] at ob4 hP5 hoo
                    have Hnl := hideE hnl
                    clear hnl
                    clear obs gbs he3 he4 ebs
                    have hpush : Hid (∀ v' w5, w5.ownsRow Wz.heap.size 89 1 v' (nl + 1) (bs.map cellM ++ [cellM wr.heap.size]) → W4.grownBy w5 u10.ownBlock → OwnE w5 Wz.heap.size v' (na + nb) (L ++ [fz]) ∧ RowKit.Below Wz.heap.size Wz w5) := fun v' w5 h1 h2 => ⟨hoo.out v' w5 h1 h2, (hbp.trans (hb4.mono hzp)).grown h2 hz4 (fun j e => (ob4.lt j e).1)⟩
                    by_cases h5 : 500 < nl + 1
                    · have t5 : decide ((nl : Int) + 1 > 500) = true := by simp; omega
                      have t6 : decide (500 < (nl : Int) + 1) = true := by simp; omega
                      go_wp2_with (first
                        | (at_builtin; rw [← hW4]; go_loud (refine wpList_appendE _ rfl _ _ rfl Wz.heap.size w3.heap.size _ nl _ wr.heap.size rfl rfl ob4 c4 (by omega) hz4 ?_); intro v' w5 hown5 hg5 hv5; obtain ⟨av, cv, rfl⟩ := own_form hown5))
                      obtain ⟨hOf, hBf⟩ := hpush.out _ _ hown5 hg5
                      obtain ⟨ad, c, ev, hs⟩ := hOf.sl
                      have hll : (L ++ [fz]).length = nl + 1 := by simp [Hnl.out]
                      have hfin : L ++ [fz] = (meetE sh La Lb).take 501 := by
                        rw [Hr.out]
                        rw [List.take_append_of_le_length (by rw [hll]; omega), List.take_of_length_le (by rw [hll]; omega)]
                      rw [hll] at ev
                      simp only [Value.slice.injEq] at ev
                      obtain ⟨rfl, _, rfl⟩ := ev
                      exact HQ.out _ _ ⟨hbw.trans ((hbr.trans (hBf.mono hzr)).mono hbw.size), sh, av, cv, L ++ [fz], HS.out, hfin, by rw [hll]; rfl, hs⟩
                    · have t5 : decide ((nl : Int) + 1 > 500) = false := by simp; omega
                      have t6 : decide (500 < (nl : Int) + 1) = false := by simp; omega
                      go_wp2_with (first
                        | (at_builtin; rw [← hW4]; go_loud (refine wpList_appendE _ rfl _ _ rfl Wz.heap.size w3.heap.size _ nl _ wr.heap.size rfl rfl ob4 c4 (by omega) hz4 ?_); intro v' w5 hown5 hg5 hv5; obtain ⟨av, cv, rfl⟩ := own_form hown5))
                      obtain ⟨hOf, hBf⟩ := hpush.out _ _ hown5 hg5
                      have HOf := hideE hOf
                      clear hOf
                      go_roundw
                      case rel => exact ⟨i + 1, by omega, by go_num, by show OwnE _ _ _ _ _; rw [HLL.out, hstep.out]; exact HOf.out, by rw [HLL.out, hstep.out]; simp [← Hnl.out]; omega, hBf⟩
                      case measure => simp [intOf]; omega
                  · obtain rfl : i = gs.length := by omega
                    have t3 : decide ((gs.length : Int) < (gs.length : Int)) = false := by simp
                    have hfull : Hid (meetE sh (La.take (n + 1)) Lb = M0 ++ M1.take gs.length) := by
                      show _ = _
                      rw [hnext.out, List.take_of_length_le (by rw [hone.out]; exact Nat.le_refl _)]
                    go_wp2_with fail
                    go_roundw
                    case rel => exact ⟨n + 1, by omega, by go_num, by show OwnE _ _ _ _ _; rw [hfull.out]; exact hP.out, by rw [hfull.out]; exact hP5, hbp⟩
                    case measure => simp [intOf]; omega
              · obtain rfl : n = NA := by omega
                have t2 : decide ((n : Int) < (n : Int)) = false := by simp
                have hall : Hid (meetE sh La Lb = meetE sh (La.take n) Lb) := by show _ = _; rw [HNA.out, List.take_length]
                obtain ⟨ad, c, rfl, hs⟩ := hO.out.sl
                have HSl := hideE hs
                clear hs hO
                generalize hM0 : meetE sh (La.take n) Lb = M0 at *
                clear hM0
                go_wp2_with fail
                exact HQ.out _ _ ⟨hbw.trans ((hbr.trans (hbq.mono hzr)).mono hbw.size), sh, ad, c, M0, HS.out, by rw [hall.out, List.take_of_length_le (by omega)], rfl, HSl.out⟩
end Go.Proofs.YtenakehnnmencahGreat

/- Rows of terms in order: sorted, once each, and just one way; plain lists, no program. -/
namespace Go.Proofs.YtenakehnnmencahGreat
open Go Go.RowKit Go.Proofs
set_option synthInstance.maxSize 1000

/-- an order of rows of one length -/
structure OrdR (lt : List Tm → List Tm → Bool) (n : Nat) : Prop where
  irr : ∀ a, lt a a = false
  trans : ∀ {a b c}, lt a b = true → lt b c = true → lt a c = true
  total : ∀ {a b}, a.length = n → b.length = n → lt a b = false → lt b a = false → a = b
theorem ordQ (q : Qu) (n : Nat) : OrdR (ltQ q) n := ⟨fun a => ahead_irr _ _ a, fun h1 h2 => ahead_trans h1 h2, fun h1 h2 h3 h4 => ahead_total (h1.trans h2.symm) h3 h4⟩
/-- none is ahead of one before it -/
def SortedR (lt : List Tm → List Tm → Bool) (l : List (List Tm)) : Prop := l.Pairwise fun a b => lt b a = false
def LenR (n : Nat) (l : List (List Tm)) : Prop := ∀ x ∈ l, x.length = n
section
variable {lt : List Tm → List Tm → Bool} {n : Nat}
theorem OrdR.asym (o : OrdR lt n) {a b : List Tm} (h : lt a b = true) : lt b a = false := by
  cases h2 : lt b a with
  | false => rfl
  | true => exact absurd (o.trans h h2) (by rw [o.irr]; decide)
theorem OrdR.back (o : OrdR lt n) {a b c : List Tm} (ha : a.length = n) (hb : b.length = n) (h1 : lt b a = false) (h2 : lt c b = false) : lt c a = false := by
  cases h : lt c a with
  | false => rfl
  | true =>
    exfalso
    cases h3 : lt a b with
    | true => rw [o.trans h h3] at h2; cases h2
    | false => rw [o.total ha hb h3 h1] at h; rw [h] at h2; cases h2
theorem mem_ins {r x : List Tm} {l : List (List Tm)} : x ∈ insR lt r l ↔ x = r ∨ x ∈ l := by
  induction l with
  | nil => simp [insR]
  | cons y l ih =>
    unfold insR
    split
    · simp
    · simp only [List.mem_cons, ih]
      constructor
      · rintro (h | h | h)
        · exact Or.inr (Or.inl h)
        · exact Or.inl h
        · exact Or.inr (Or.inr h)
      · rintro (h | h | h)
        · exact Or.inr (Or.inl h)
        · exact Or.inl h
        · exact Or.inr (Or.inr h)
theorem len_ins (r : List Tm) (l : List (List Tm)) : (insR lt r l).length = l.length + 1 := by
  induction l with
  | nil => rfl
  | cons y l ih => unfold insR; split <;> simp [ih]
theorem perm_ins (r : List Tm) (l : List (List Tm)) : (insR lt r l).Perm (r :: l) := by
  induction l with
  | nil => exact List.Perm.refl _
  | cons y l ih =>
    unfold insR
    split
    · exact List.Perm.refl _
    · exact (List.Perm.cons y ih).trans (List.Perm.swap r y l)
theorem sorted_ins (o : OrdR lt n) {r : List Tm} {l : List (List Tm)} (hr : r.length = n) (hn : LenR n l) (h : SortedR lt l) : SortedR lt (insR lt r l) := by
  induction l with
  | nil => simp [SortedR, insR]
  | cons y l ih =>
    have hy := hn y (by simp)
    obtain ⟨h1, h2⟩ := List.pairwise_cons.1 h
    unfold insR
    split
    · rename_i hlt
      refine List.pairwise_cons.2 ⟨fun x hx => ?_, h⟩
      rcases List.mem_cons.1 hx with rfl | hx
      · exact o.asym hlt
      · cases hxr : lt x r with
        | false => rfl
        | true => have := o.trans hxr hlt; rw [h1 x hx] at this; cases this
    · rename_i hlt
      refine List.pairwise_cons.2 ⟨fun x hx => ?_, ih (fun x hx => hn x (by simp [hx])) h2⟩
      rcases mem_ins.1 hx with rfl | hx
      · simpa using hlt
      · exact h1 x hx
theorem len_put {dist : Bool} {out : List (List Tm)} {r : List Tm} (hr : r.length = n) (hn : LenR n out) : LenR n (putR lt dist out r) := by
  unfold putR
  split
  · exact hn
  · intro x hx
    rcases mem_ins.1 hx with rfl | hx
    · exact hr
    · exact hn x hx
theorem sorted_put (o : OrdR lt n) {dist : Bool} {out : List (List Tm)} {r : List Tm} (hr : r.length = n) (hn : LenR n out) (h : SortedR lt out) : SortedR lt (putR lt dist out r) := by
  unfold putR
  split
  · exact h
  · exact sorted_ins o hr hn h
theorem mem_put {dist : Bool} {out : List (List Tm)} {r x : List Tm} : x ∈ putR lt dist out r ↔ x = r ∨ x ∈ out := by
  unfold putR
  split
  · rename_i h
    constructor
    · exact Or.inr
    · rintro (rfl | h')
      · exact h.2
      · exact h'
  · exact mem_ins
theorem fold_len {dist : Bool} {rows : List (List Tm)} : ∀ {out : List (List Tm)}, LenR n rows → LenR n out → LenR n (rows.foldl (putR lt dist) out) := by
  induction rows with
  | nil => exact fun _ h => h
  | cons r l ih => exact fun h1 h2 => ih (fun x hx => h1 x (by simp [hx])) (len_put (h1 r (by simp)) h2)
theorem fold_sorted (o : OrdR lt n) {dist : Bool} {rows : List (List Tm)} : ∀ {out : List (List Tm)}, LenR n rows → LenR n out → SortedR lt out → SortedR lt (rows.foldl (putR lt dist) out) := by
  induction rows with
  | nil => exact fun _ _ h => h
  | cons r l ih => exact fun h1 h2 h3 => ih (fun x hx => h1 x (by simp [hx])) (len_put (h1 r (by simp)) h2) (sorted_put o (h1 r (by simp)) h2 h3)
theorem fold_mem {dist : Bool} {rows : List (List Tm)} {x : List Tm} : ∀ {out : List (List Tm)}, x ∈ rows.foldl (putR lt dist) out ↔ x ∈ rows ∨ x ∈ out := by
  induction rows with
  | nil => simp
  | cons r l ih =>
    intro out
    rw [List.foldl_cons, ih, mem_put, List.mem_cons]
    constructor
    · rintro (h | h | h)
      · exact Or.inl (Or.inr h)
      · exact Or.inl (Or.inl h)
      · exact Or.inr h
    · rintro ((h | h) | h)
      · exact Or.inr (Or.inl h)
      · exact Or.inl h
      · exact Or.inr (Or.inr h)
theorem fold_perm {rows : List (List Tm)} : ∀ {out : List (List Tm)}, (rows.foldl (putR lt false) out).Perm (rows ++ out) := by
  induction rows with
  | nil => exact fun {out} => List.Perm.refl _
  | cons r l ih =>
    intro out
    have e : putR lt false out r = insR lt r out := by unfold putR; rw [if_neg (by simp)]
    rw [List.foldl_cons, e]
    exact ih.trans ((List.Perm.append_left l (perm_ins r out)).trans List.perm_middle)
theorem fold_once {rows : List (List Tm)} : ∀ {out : List (List Tm)}, out.Nodup → (rows.foldl (putR lt true) out).Nodup := by
  induction rows with
  | nil => exact fun h => h
  | cons r l ih =>
    intro out h
    rw [List.foldl_cons]
    refine ih ?_
    unfold putR
    split
    · exact h
    · rename_i hn
      have hr : r ∉ out := fun h' => hn ⟨rfl, h'⟩
      exact (perm_ins r out).nodup_iff.2 (List.nodup_cons.2 ⟨hr, h⟩)
/-- two in order of the same are the same -/
theorem sorted_one (o : OrdR lt n) : ∀ {l m : List (List Tm)}, LenR n l → SortedR lt l → SortedR lt m → l.Perm m → l = m
  | [], m, _, _, _, hp => (List.Perm.nil_eq hp)
  | a :: l, [], _, _, _, hp => absurd hp.symm (by simp)
  | a :: l, b :: m, hn, h1, h2, hp => by
    have hn' : LenR n (b :: m) := fun x hx => hn x (hp.mem_iff.2 hx)
    obtain ⟨p1, q1⟩ := List.pairwise_cons.1 h1
    obtain ⟨p2, q2⟩ := List.pairwise_cons.1 h2
    have e : a = b := by
      have ha : a ∈ b :: m := hp.mem_iff.1 (by simp)
      have hb : b ∈ a :: l := hp.mem_iff.2 (by simp)
      rcases List.mem_cons.1 ha with h | ha
      · exact h
      · rcases List.mem_cons.1 hb with h | hb
        · exact h.symm
        · exact o.total (hn a (by simp)) (hn' b (by simp)) (p2 a ha) (p1 b hb)
    subst e
    rw [sorted_one o (fun x hx => hn x (by simp [hx])) q1 q2 ((List.perm_cons a).1 hp)]
/-- what is sorted, whoever does it -/
theorem sortR_all (o : OrdR lt n) {rows m : List (List Tm)} (hn : LenR n rows) (hs : SortedR lt m) (hp : m.Perm rows) : m = sortR lt false rows := by
  have hp' : (sortR lt false rows).Perm rows := by simpa [sortR] using fold_perm (lt := lt) (rows := rows) (out := [])
  exact (sorted_one o (fun x hx => hn x (hp'.mem_iff.1 hx)) (fold_sorted o hn (fun x hx => (by cases hx)) List.Pairwise.nil) hs (hp'.trans hp.symm)).symm
theorem sortR_once (o : OrdR lt n) {rows m : List (List Tm)} (hn : LenR n rows) (hs : SortedR lt m) (hd : m.Nodup) (hm : ∀ x, x ∈ m ↔ x ∈ rows) : m = sortR lt true rows := by
  have hd' : (sortR lt true rows).Nodup := fold_once List.nodup_nil
  have hm' : ∀ x, x ∈ sortR lt true rows ↔ x ∈ rows := fun x => by unfold sortR; simpa using fold_mem (lt := lt) (dist := true) (rows := rows) (x := x) (out := [])
  refine (sorted_one o (fun x hx => hn x ((hm' x).1 hx)) (fold_sorted o hn (fun x hx => (by cases hx)) List.Pairwise.nil) hs ?_).symm
  exact (List.perm_ext_iff_of_nodup hd' hd).2 fun x => (hm' x).trans (hm x).symm

/-- where a row comes in: behind the last that it is not ahead of -/
theorem ins_at (o : OrdR lt n) {r : List Tm} {l : List (List Tm)} (hn : LenR n l) (hs : SortedR lt l) {k : Nat} (hk : k ≤ l.length) (h1 : ∀ j (hj : j < l.length), k ≤ j → lt r l[j] = true) (h2 : ∀ (h : 0 < k), lt r (l[k - 1]'(by omega)) = false) : insR lt r l = l.take k ++ r :: l.drop k := by
  induction l generalizing k with
  | nil => simp [insR]
  | cons y l ih =>
    unfold insR
    cases k with
    | zero =>
      have h0 : lt r y = true := h1 0 (by simp) (Nat.le_refl _)
      rw [if_pos h0]; rfl
    | succ k =>
      obtain ⟨p1, q1⟩ := List.pairwise_cons.1 hs
      have hy : lt r y = false := by
        have h3 := h2 (by omega)
        cases k with
        | zero => exact h3
        | succ k =>
          have hm : (y :: l)[k + 1]'(by simp at hk ⊢; omega) ∈ l := by simp
          have e : (y :: l)[k + 1 + 1 - 1]'(by simp at hk ⊢; omega) = (y :: l)[k + 1]'(by simp at hk ⊢; omega) := rfl
          rw [e] at h3
          exact o.back (hn y (by simp)) (hn _ (List.mem_cons_of_mem y hm)) (p1 _ hm) h3
      rw [if_neg (by rw [hy]; decide), ih (fun x hx => hn x (by simp [hx])) q1 (k := k) (by simpa using hk) (fun j hj hkj => h1 (j + 1) (by simpa using hj) (by omega)) (fun h => ?_)]
      · rfl
      · have h3 := h2 (by omega)
        obtain ⟨k', rfl⟩ : ∃ k', k = k' + 1 := ⟨k - 1, by omega⟩
        exact h3
theorem mem_at (o : OrdR lt n) {r : List Tm} {l : List (List Tm)} (hr : r.length = n) (hn : LenR n l) (hs : SortedR lt l) {k : Nat} (hk : k ≤ l.length) (h1 : ∀ j (hj : j < l.length), k ≤ j → lt r l[j] = true) (h2 : ∀ (h : 0 < k), lt r (l[k - 1]'(by omega)) = false) : r ∈ l ↔ ∃ h : 0 < k, l[k - 1]'(by omega) = r := by
  constructor
  · intro hm
    obtain ⟨j, hj, e⟩ := List.getElem_of_mem hm
    have hjk : j < k := by
      rcases Nat.lt_or_ge j k with h | h
      · exact h
      · have := h1 j hj h
        rw [e, o.irr] at this
        cases this
    refine ⟨by omega, ?_⟩
    rcases Nat.lt_or_ge j (k - 1) with h | h
    · have h3 := List.pairwise_iff_getElem.1 hs j (k - 1) hj (by omega) h
      rw [e] at h3
      exact o.total (hn _ (List.getElem_mem _)) hr h3 (h2 (by omega))
    · have : j = k - 1 := by omega
      subst this
      exact e
  · rintro ⟨h, e⟩
    rw [← e]
    exact List.getElem_mem _
end
end Go.Proofs.YtenakehnnmencahGreat

/- An answer answers: each part that is asked is there; plain lists, no program. -/
namespace Go.Proofs.YtenakehnnmencahGreat
open Go Go.RowKit Go.Proofs
set_option synthInstance.maxSize 1000

/-! ### what a variable is -/
theorem bound_app : ∀ {vars fr : List (List UInt8)} {r ts : List Tm} {s : List UInt8} {x : Tm}, r.length = vars.length → boundT vars r s = some x → boundT (vars ++ fr) (r ++ ts) s = some x
  | [], _, _, _, _, _, _, h => by simp [boundT] at h
  | v :: vs, fr, [], ts, s, x, hl, h => by simp at hl
  | v :: vs, fr, t :: r, ts, s, x, hl, h => by
    simp only [List.cons_append, boundT] at h ⊢
    split
    · rename_i hc; rw [if_pos hc] at h; exact h
    · rename_i hc; rw [if_neg hc] at h; exact bound_app (by simpa using hl) h
theorem bound_new : ∀ {vars fr : List (List UInt8)} {r ts : List Tm} {s : List UInt8}, r.length = vars.length → boundT vars r s = none → boundT (vars ++ fr) (r ++ ts) s = boundT fr ts s
  | [], _, [], _, _, _, _ => rfl
  | [], _, t :: r, _, _, hl, _ => by simp at hl
  | v :: vs, fr, [], ts, s, hl, h => by simp at hl
  | v :: vs, fr, t :: r, ts, s, hl, h => by
    simp only [List.cons_append, boundT] at h ⊢
    split
    · rename_i hc; rw [if_pos hc] at h; cases h
    · rename_i hc; rw [if_neg hc] at h; exact bound_new (by simpa using hl) h
theorem bound_none : ∀ {vars : List (List UInt8)} {r : List Tm} {s : List UInt8}, s ≠ [] → r.length = vars.length → (boundT vars r s = none ↔ s ∉ vars)
  | [], r, s, _, _ => by simp [boundT]
  | v :: vs, [], s, _, hl => by simp at hl
  | v :: vs, t :: r, s, hs, hl => by
    simp only [boundT]
    by_cases hv : v = s
    · rw [if_pos ⟨hv, hs⟩]; simp [hv]
    · rw [if_neg (fun h => hv h.1), bound_none hs (by simpa using hl)]
      simp [Ne.symm hv]
theorem bound_empty : ∀ (vars : List (List UInt8)) (r : List Tm), boundT vars r [] = none
  | [], _ => rfl
  | v :: vs, [] => rfl
  | v :: vs, t :: r => by simp only [boundT]; rw [if_neg (by simp)]; exact bound_empty vs r
theorem bound_map : ∀ {fr : List (List UInt8)} {f : List UInt8 → Tm} {s : List UInt8}, s ≠ [] → s ∈ fr → boundT fr (fr.map f) s = some (f s)
  | [], _, _, _, h => by cases h
  | v :: vs, f, s, hs, h => by
    simp only [List.map_cons, boundT]
    by_cases hv : v = s
    · rw [if_pos ⟨hv, hs⟩, hv]
    · rw [if_neg (fun h => hv h.1)]
      refine bound_map hs ?_
      rcases List.mem_cons.1 h with h | h
      · exact absurd h.symm hv
      · exact h
theorem bound_mem : ∀ {vars : List (List UInt8)} {r : List Tm} {s : List UInt8} {x : Tm}, boundT vars r s = some x → x ∈ r
  | [], _, _, _, h => by simp [boundT] at h
  | v :: vs, [], _, _, h => by simp [boundT] at h
  | v :: vs, t :: r, s, x, h => by
    simp only [boundT] at h
    split at h
    · injection h with h; subst h; simp
    · exact List.mem_cons_of_mem _ (bound_mem h)
theorem addV_mem {l : List (List UInt8)} {s : Sl} {v : List UInt8} : v ∈ addV l s ↔ v ∈ l ∨ (v = s.1 ∧ v ≠ []) := by
  unfold addV
  by_cases h0 : s.1 = []
  · rw [if_pos h0]
    constructor
    · exact Or.inl
    · rintro (h | ⟨h, h'⟩)
      · exact h
      · exact absurd (h.trans h0) h'
  · rw [if_neg h0]
    by_cases h1 : s.1 ∈ l
    · rw [if_pos h1]
      constructor
      · exact Or.inl
      · rintro (h | ⟨h, _⟩)
        · exact h
        · rw [h]; exact h1
    · rw [if_neg h1, List.mem_append, List.mem_singleton]
      constructor
      · rintro (h | h)
        · exact Or.inl h
        · exact Or.inr ⟨h, by rw [h]; exact h0⟩
      · rintro (h | ⟨h, _⟩)
        · exact Or.inl h
        · exact Or.inr h
theorem varsL_mem {p : Pt} {v : List UInt8} : v ∈ varsL p ↔ v ≠ [] ∧ (v = p.1.1 ∨ v = p.2.1.1 ∨ v = p.2.2.1) := by
  unfold varsL
  rw [addV_mem, addV_mem, addV_mem]
  constructor
  · rintro ((((h | ⟨h, k⟩) | ⟨h, k⟩)) | ⟨h, k⟩)
    · cases h
    · exact ⟨k, Or.inl h⟩
    · exact ⟨k, Or.inr (Or.inl h)⟩
    · exact ⟨k, Or.inr (Or.inr h)⟩
  · rintro ⟨k, h | h | h⟩
    · exact Or.inl (Or.inl (Or.inr ⟨h, k⟩))
    · exact Or.inl (Or.inr ⟨h, k⟩)
    · exact Or.inr ⟨h, k⟩

/-! ### a part is there -/
def slotOk (vars : List (List UInt8)) (r : List Tm) (s : Sl) (x : Tm) : Prop := if s.1 = [] then x = s.2 else boundT vars r s.1 = some x
def HoldsAt (S : List Tr) (vars : List (List UInt8)) (r : List Tm) (p : Pt) : Prop := ∃ t ∈ S, slotOk vars r p.1 t.1 ∧ slotOk vars r p.2.1 t.2.1 ∧ slotOk vars r p.2.2 t.2.2
theorem ok_app {vars fr : List (List UInt8)} {r ts : List Tm} {s : Sl} {x : Tm} (hl : r.length = vars.length) (h : slotOk vars r s x) : slotOk (vars ++ fr) (r ++ ts) s x := by
  unfold slotOk at *
  split
  · rename_i h0; rw [if_pos h0] at h; exact h
  · rename_i h0; rw [if_neg h0] at h; exact bound_app hl h
theorem holds_app {S : List Tr} {vars fr : List (List UInt8)} {r ts : List Tm} {p : Pt} (hl : r.length = vars.length) (h : HoldsAt S vars r p) : HoldsAt S (vars ++ fr) (r ++ ts) p := by
  obtain ⟨t, ht, h1, h2, h3⟩ := h
  exact ⟨t, ht, ok_app hl h1, ok_app hl h2, ok_app hl h3⟩
theorem bindS_some {vars : List (List UInt8)} {r : List Tm} {s : Sl} {x : Tm} (h : boundT vars r s.1 = some x) : bindS vars r s = ([], x) := by unfold bindS; rw [h]
theorem bindS_none {vars : List (List UInt8)} {r : List Tm} {s : Sl} (h : boundT vars r s.1 = none) : bindS vars r s = s := by unfold bindS; rw [h]
theorem fresh_mem {vars : List (List UInt8)} {p : Pt} {v : List UInt8} : v ∈ freshV vars p ↔ v ∈ varsL p ∧ v ∉ vars := by simp [freshV]
/-- a slot of a pattern that a triple fits, behind what it told -/
theorem ext_ok {vars : List (List UInt8)} {p : Pt} {r : List Tm} {t : Tr} {s : Sl} {x : Tm} (hl : r.length = vars.length) (hs : s.1 ≠ [] → s.1 ∈ varsL p) (h0 : s.1 = [] → x = s.2) (h1 : ∀ y, s.1 ≠ [] → boundT vars r s.1 = some y → x = y) (h2 : s.1 ≠ [] → boundT vars r s.1 = none → pickT p t s.1 = x) : slotOk (vars ++ freshV vars p) (extR vars p r t) s x := by
  unfold slotOk extR
  by_cases he : s.1 = []
  · rw [if_pos he]; exact h0 he
  · rw [if_neg he]
    cases hb : boundT vars r s.1 with
    | some y => rw [bound_app hl hb, h1 y he hb]
    | none =>
      rw [bound_new hl hb, bound_map he (fresh_mem.2 ⟨hs he, (bound_none he hl).1 hb⟩), h2 he hb]
theorem fits_holds {S : List Tr} {vars : List (List UInt8)} {r : List Tm} {p : Pt} {t : Tr} (hl : r.length = vars.length) (ht : t ∈ matchP S (bindP vars r p)) : HoldsAt S (vars ++ freshV vars p) (extR vars p r t) p := by
  obtain ⟨hS, hf⟩ := List.mem_filter.1 ht
  unfold fitsB bindP at hf
  simp only [Bool.and_eq_true] at hf
  obtain ⟨f1, f2, f3⟩ := hf
  refine ⟨t, hS, ext_ok hl (fun h => varsL_mem.2 ⟨h, Or.inl rfl⟩) (fun h => ?_) (fun y h hb => ?_) (fun h hb => ?_), ext_ok hl (fun h => varsL_mem.2 ⟨h, Or.inr (Or.inl rfl)⟩) (fun h => ?_) (fun y h hb => ?_) (fun h hb => ?_), ext_ok hl (fun h => varsL_mem.2 ⟨h, Or.inr (Or.inr rfl)⟩) (fun h => ?_) (fun y h hb => ?_) (fun h hb => ?_)⟩
  · rw [bindS_none (by rw [h]; exact bound_empty _ _), if_pos h] at f1
    exact of_decide_eq_true f1
  · rw [bindS_some hb, if_pos rfl] at f1
    exact of_decide_eq_true f1
  · unfold pickT; rw [if_pos rfl]
  · rw [bindS_none (s := p.2.1) (by rw [h]; exact bound_empty _ _), if_pos h] at f2
    exact of_decide_eq_true f2
  · rw [bindS_some (s := p.2.1) hb, if_pos rfl] at f2
    exact of_decide_eq_true f2
  · unfold pickT
    by_cases e : p.1.1 = p.2.1.1
    · rw [if_pos e]
      rw [bindS_none (s := p.2.1) hb, if_neg h, bindS_none (s := p.1) (by rw [e]; exact hb), if_pos e.symm] at f2
      exact (of_decide_eq_true f2).symm
    · rw [if_neg e, if_pos rfl]
  · rw [bindS_none (s := p.2.2) (by rw [h]; exact bound_empty _ _), if_pos h] at f3
    exact of_decide_eq_true f3
  · rw [bindS_some (s := p.2.2) hb, if_pos rfl] at f3
    exact of_decide_eq_true f3
  · unfold pickT
    by_cases e : p.1.1 = p.2.2.1
    · rw [if_pos e]
      rw [bindS_none (s := p.2.2) hb, if_neg h, bindS_none (s := p.1) (by rw [e]; exact hb), if_pos e.symm] at f3
      exact (of_decide_eq_true f3).symm
    · rw [if_neg e]
      by_cases e2 : p.2.1.1 = p.2.2.1
      · rw [if_pos e2]
        have hne : p.2.2.1 ≠ (bindS vars r p.1).1 := by
          cases hb1 : boundT vars r p.1.1 with
          | none => rw [bindS_none hb1]; exact fun h' => e h'.symm
          | some y => rw [bindS_some hb1]; exact h
        rw [bindS_none (s := p.2.2) hb, if_neg h, if_neg hne, bindS_none (s := p.2.1) (by rw [e2]; exact hb), if_pos e2.symm] at f3
        exact (of_decide_eq_true f3).symm
      · rw [if_neg e2]

/-! ### all answers -/
/-- what holds of the answers so far -/
structure AnsOK (S : List Tr) (done : List Pt) (vars : List (List UInt8)) (rows : List (List Tm)) : Prop where
  len : ∀ r ∈ rows, r.length = vars.length
  holds : ∀ r ∈ rows, ∀ p ∈ done, HoldsAt S vars r p
  has : ∀ p ∈ done, ∀ v ∈ varsL p, v ∈ vars
  from_ : ∀ r ∈ rows, ∀ x ∈ r, ∃ t ∈ S, x = t.1 ∨ x = t.2.1 ∨ x = t.2.2
theorem AnsOK.start (S : List Tr) : AnsOK S [] [] [[]] := ⟨fun r h => by simp at h; simp [h], fun _ _ p h => (by cases h), fun p h => (by cases h), fun r h x hx => by simp at h; rw [h] at hx; cases hx⟩
theorem AnsOK.step {S : List Tr} {done : List Pt} {vars : List (List UInt8)} {rows : List (List Tm)} (h : AnsOK S done vars rows) (p : Pt) : AnsOK S (done ++ [p]) (vars ++ freshV vars p) (stepR S vars p rows) := by
  have hm : ∀ r' ∈ stepR S vars p rows, ∃ r ∈ rows, ∃ t, t ∈ matchP S (bindP vars r p) ∧ r' = extR vars p r t := fun r' hr' => by
    obtain ⟨r, hr, h1⟩ := List.mem_flatMap.1 hr'
    obtain ⟨t, ht, rfl⟩ := List.mem_map.1 h1
    exact ⟨r, hr, t, ht, rfl⟩
  refine ⟨fun r' hr' => ?_, fun r' hr' p' hp' => ?_, fun p' hp' v hv => ?_, fun r' hr' x hx => ?_⟩
  · obtain ⟨r, hr, t, ht, rfl⟩ := hm r' hr'
    simp [extR, h.len r hr]
  · obtain ⟨r, hr, t, ht, rfl⟩ := hm r' hr'
    rcases List.mem_append.1 hp' with hp' | hp'
    · exact holds_app (h.len r hr) (h.holds r hr p' hp')
    · have e : p' = p := by simpa using hp'
      subst e
      exact fits_holds (h.len r hr) ht
  · rcases List.mem_append.1 hp' with hp' | hp'
    · exact List.mem_append_left _ (h.has p' hp' v hv)
    · have e : p' = p := by simpa using hp'
      subst e
      by_cases hin : v ∈ vars
      · exact List.mem_append_left _ hin
      · exact List.mem_append_right _ (fresh_mem.2 ⟨hv, hin⟩)
  · obtain ⟨r, hr, t, ht, rfl⟩ := hm r' hr'
    rcases List.mem_append.1 hx with hx | hx
    · exact h.from_ r hr x hx
    · obtain ⟨v, _, rfl⟩ := List.mem_map.1 hx
      refine ⟨t, (List.mem_filter.1 ht).1, ?_⟩
      unfold pickT
      split
      · exact Or.inl rfl
      · split
        · exact Or.inr (Or.inl rfl)
        · exact Or.inr (Or.inr rfl)
theorem answers_ok {S : List Tr} : ∀ (ps : List Pt) {done : List Pt} {vars vars' : List (List UInt8)} {rows rows' : List (List Tm)}, AnsOK S done vars rows → answersF S vars rows ps = some (vars', rows') → AnsOK S (done ++ ps) vars' rows' ∧ rows'.length ≤ max rows.length 500
  | [], done, vars, vars', rows, rows', h, e => by
    simp only [answersF, Option.some.injEq, Prod.mk.injEq] at e
    obtain ⟨rfl, rfl⟩ := e
    rw [List.append_nil]
    exact ⟨h, Nat.le_max_left _ _⟩
  | p :: ps, done, vars, vars', rows, rows', h, e => by
    unfold answersF at e
    split at e
    · cases e
    · rename_i hn
      obtain ⟨h1, h2⟩ := answers_ok ps (h.step p) e
      rw [List.append_assoc] at h1
      refine ⟨h1, ?_⟩
      omega
theorem answersL_ok {S : List Tr} {ps : List Pt} {vars : List (List UInt8)} {rows : List (List Tm)} (e : answersL S ps = some (vars, rows)) : AnsOK S ps vars rows ∧ rows.length ≤ 500 := by
  obtain ⟨h1, h2⟩ := answers_ok ps (AnsOK.start S) e
  exact ⟨by simpa using h1, by simpa using h2⟩
theorem addAll_mem : ∀ {l o : List (List UInt8)} {v : List UInt8}, v ∈ addAll o l ↔ v ∈ o ∨ v ∈ l
  | [], o, v => by simp [addAll]
  | x :: l, o, v => by
    rw [addAll, addAll_mem]
    by_cases h : x ∈ o
    · rw [if_pos h, List.mem_cons]
      constructor
      · rintro (h' | h')
        · exact Or.inl h'
        · exact Or.inr (Or.inr h')
      · rintro (h' | h' | h')
        · exact Or.inl h'
        · rw [h']; exact Or.inl h
        · exact Or.inr h'
    · rw [if_neg h, List.mem_append, List.mem_singleton, List.mem_cons]
      constructor
      · rintro ((h' | h') | h')
        · exact Or.inl h'
        · exact Or.inr (Or.inl h')
        · exact Or.inr (Or.inr h')
      · rintro (h' | h' | h')
        · exact Or.inl (Or.inl h')
        · exact Or.inl (Or.inr h')
        · exact Or.inr h'
theorem partsV_mem : ∀ {l : List Pt} {o : List (List UInt8)} {v : List UInt8}, v ∈ partsV o l ↔ v ∈ o ∨ ∃ p ∈ l, v ∈ varsL p
  | [], o, v => by simp [partsV]
  | p :: l, o, v => by
    rw [partsV, partsV_mem, addAll_mem]
    constructor
    · rintro ((h | h) | ⟨p', h1, h2⟩)
      · exact Or.inl h
      · exact Or.inr ⟨p, by simp, h⟩
      · exact Or.inr ⟨p', by simp [h1], h2⟩
    · rintro (h | ⟨p', h1, h2⟩)
      · exact Or.inl (Or.inl h)
      · rcases List.mem_cons.1 h1 with rfl | h1
        · exact Or.inl (Or.inr h2)
        · exact Or.inr ⟨p', h1, h2⟩

/-! ### what is told, bound -/
theorem told_bound {vars told : List (List UInt8)} {r : List Tm} {s : List UInt8} {x : Tm} (h0 : s ≠ []) (hs : s ∈ told) (hx : boundT vars r s = some x) : boundT told (projR vars told r) s = some x := by
  unfold projR
  rw [bound_map h0 hs, hx]
  rfl
theorem told_free {vars told : List (List UInt8)} {r : List Tm} {s : List UInt8} (hs : s ∉ told) : boundT told (projR vars told r) s = none := by
  by_cases h0 : s = []
  · rw [h0]; exact bound_empty _ _
  · exact (bound_none h0 (by simp [projR])).2 hs
/-- an answer's own triple fits a part with what is told bound -/
theorem told_fits {vars told : List (List UInt8)} {r : List Tm} {p : Pt} {t : Tr} (h1 : slotOk vars r p.1 t.1) (h2 : slotOk vars r p.2.1 t.2.1) (h3 : slotOk vars r p.2.2 t.2.2) : fitsB (bindP told (projR vars told r) p) t = true := by
  have key : ∀ (s : Sl) (x : Tm), slotOk vars r s x → (bindS told (projR vars told r) s = ([], x)) ∨ (s.1 ≠ [] ∧ bindS told (projR vars told r) s = s ∧ boundT vars r s.1 = some x) := fun s x h => by
    unfold slotOk at h
    by_cases h0 : s.1 = []
    · rw [if_pos h0] at h
      left
      rw [bindS_none (by rw [h0]; exact bound_empty _ _)]
      obtain ⟨a, b⟩ := s
      simp only at h0 h
      rw [h0, h]
    · rw [if_neg h0] at h
      by_cases hs : s.1 ∈ told
      · exact Or.inl (bindS_some (told_bound h0 hs h))
      · exact Or.inr ⟨h0, bindS_none (told_free hs), h⟩
  have two : ∀ {s s' : Sl} {x x' : Tm}, boundT vars r s.1 = some x → boundT vars r s'.1 = some x' → s.1 = s'.1 → x = x' := fun h h' e => by
    rw [e] at h
    exact Option.some.inj (h.symm.trans h')
  unfold fitsB bindP
  simp only [Bool.and_eq_true]
  refine ⟨?_, ?_, ?_⟩
  · rcases key _ _ h1 with e | ⟨n1, e, b1⟩
    · rw [e]; simp
    · rw [e, if_neg n1]
  · rcases key _ _ h2 with e | ⟨n2, e, b2⟩
    · rw [e]; simp
    · rw [e, if_neg n2]
      rcases key _ _ h1 with e1 | ⟨n1, e1, b1⟩
      · rw [e1, if_neg n2]
      · rw [e1]
        split
        · rename_i he; exact decide_eq_true (two b2 b1 he)
        · rfl
  · rcases key _ _ h3 with e | ⟨n3, e, b3⟩
    · rw [e]; simp
    · rw [e, if_neg n3]
      rcases key _ _ h1 with e1 | ⟨n1, e1, b1⟩
      · rw [e1, if_neg n3]
        rcases key _ _ h2 with e2 | ⟨n2, e2, b2⟩
        · rw [e2, if_neg n3]
        · rw [e2]
          split
          · rename_i he; exact decide_eq_true (two b3 b2 he)
          · rfl
      · rw [e1]
        split
        · rename_i he; exact decide_eq_true (two b3 b1 he)
        · rcases key _ _ h2 with e2 | ⟨n2, e2, b2⟩
          · rw [e2, if_neg n3]
          · rw [e2]
            split
            · rename_i he; exact decide_eq_true (two b3 b2 he)
            · rfl
end Go.Proofs.YtenakehnnmencahGreat
