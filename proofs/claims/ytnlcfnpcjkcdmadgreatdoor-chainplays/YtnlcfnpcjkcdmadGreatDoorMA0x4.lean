import Derived.Test.YtnlcfnpcjkcdmadGreatDoorMA0x3
import Derived.Laws.IdiomStrings
import Derived.OwnWalk
import Derived.Deep.RegionHeld3
import Derived.Deep.RegionLaw

/- append, copy and clear over a row of layers. -/
namespace Go.Proofs.YtnlcfnpcjkcdmadGreatDoor
open Go Go.RowKit Go.Proofs
set_option synthInstance.maxSize 1000

theorem sl_one {u : Value} (h : slB u = true) : u.oneCell' = true := by cases u <;> first | rfl | (simp [slB] at h)
theorem Sheet.new (w : World) (cs : Array Value) (e : TypeId) (cap : Nat) (xs : List Vp) (hs : cs.size = cap * 2) (hm : cap ≤ maxLen) (hle : xs.length ≤ cap) (hall : ∀ (j : Nat) u, cs[j]? = some u → slB u = true) (hat : ∀ (j : Nat) u, (cellsL xs)[j]? = some u → cs[j]? = some u) : Sheet (w.alloc (.cells cs e)) w.heap.size cap xs := by
  refine ⟨hle, hm, fun j hj => ?_, fun j hj => ?_, fun j u hu => ?_⟩
  · have := World.frozen?_alloc_mark w cs e 0 0 j
    rw [this]
    simp
  · rw [World.cell?_alloc_mark]
    have hb := hall j cs[j] (Array.getElem?_eq_getElem (by omega))
    rw [Array.getElem?_eq_getElem (by omega)]
    generalize cs[j]'(by omega) = u at *
    cases u <;> first | exact ⟨_, _, _, rfl⟩ | (simp [slB] at hb)
  · rw [World.cell?_alloc_mark]
    exact hat j u hu
theorem cellsL_sl {w : World} {g cap : Nat} {xs : List Vp} (h : Sheet w g cap xs) : ∀ (j : Nat) u, (cellsL xs)[j]? = some u → slB u = true := fun j u hu => by
  have hj := (List.getElem?_eq_some_iff.1 hu).1
  rw [cellsL_len] at hj
  have := h.le
  obtain ⟨a, n, c, e⟩ := h.sl j (by omega)
  rw [h.at_ j u hu] at e
  obtain rfl := Option.some.inj e
  rfl

theorem setCells_size (g : Nat) : ∀ (vs : List Value) (p : Nat) (w : World), (w.setCells g p vs).heap.size = w.heap.size
  | [], _, _ => rfl
  | v :: r, p, w => by rw [World.setCells, setCells_size g r]; simp [World.setCell]
theorem setCells_other (g k : Nat) (hk : k ≠ g) : ∀ (vs : List Value) (p : Nat) (w : World), (w.setCells g p vs).heap[k]? = w.heap[k]?
  | [], _, _ => rfl
  | v :: r, p, w => by rw [World.setCells, setCells_other g k hk r, Below.heap_setCell _ _ _ _ (by exact hk)]
theorem setCells_os (g : Nat) : ∀ (vs : List Value) (p : Nat) (w : World), (w.setCells g p vs).os = w.os ∧ (w.setCells g p vs).tape = w.tape ∧ (w.setCells g p vs).output = w.output
  | [], _, _ => ⟨rfl, rfl, rfl⟩
  | v :: r, p, w => setCells_os g r (p + 1) (w.setCell ⟨g, p, none⟩ v)
theorem grown_setCells (w : World) (g p : Nat) (vs : List Value) : w.grownBy (w.setCells g p vs) (some g) :=
  ⟨(setCells_os g vs p w).1, (setCells_os g vs p w).2.1, (setCells_os g vs p w).2.2, by rw [setCells_size]; exact Nat.le_refl _, fun k _ hk => setCells_other g k (fun e => hk (by rw [e])) vs p w⟩

theorem zeroCells2 (n : Nat) : (Builtin.zeroCells (Value.cells (.agg #[.slice none 0 0, .slice none 0 0])) n).toList = List.replicate (n * 2) (.slice none 0 0) := by
  have e : (Value.cells (.agg #[.slice none 0 0, .slice none 0 0])) = #[.slice none 0 0, .slice none 0 0] := rfl
  rw [e]
  apply List.ext_getElem
  · simp [Builtin.zeroCells]
  · intro k h1 h2
    simp [Builtin.zeroCells]
    have : k % 2 = 0 ∨ k % 2 = 1 := by omega
    rcases this with e | e <;> simp [e]

section
variable {P : Program} {w : World}

theorem run_append_sheet {base : Nat} {v : Value} {xs : List Vp} (t ty e : TypeId) (i : TypeInfo) (ht : P.underlying t = some (.slice e)) (hi : P.info? e = some i) (hz : i.zero = some (.agg #[.slice none 0 0, .slice none 0 0])) (hs : i.size = 2) (hby : i.bytes ≤ 100)
    (h : SheetV w base v xs) (x : Vp) (hx1 : slB x.1 = true) (hx2 : slB x.2 = true) (a : Addr) (c : Nat) (ha : ∀ (j : Nat) u, ([x.1, x.2] : List Value)[j]? = some u → w.cell? (a.add j) = some u) (hb : base ≤ w.heap.size) (hn : xs.length ≤ 1000) :
    ∃ v' w', (Builtin.append_ #[t, t] ty #[v, .slice (some a) 1 c]).run P w = .ok v' w' ∧ SheetV w' base v' (xs ++ [x]) ∧ w.grownBy w' v.ownBlock ∧ RowsOn w w' ∧ (v'.ownBlock = v.ownBlock ∨ v'.ownBlock = some w.heap.size) ∧ ∃ ad cap, v' = .slice ad (xs.length + 1) cap := by
  have hnews : ([x.1, x.2] : List Value).length = 1 * i.size := by rw [hs]; rfl
  have hzs : ∀ k, (Builtin.zeroCells (Value.cells (.agg #[.slice none 0 0, .slice none 0 0])) k).size = k * 2 := fun k => by rw [size_zeroCells]; rfl
  have hzz : ∀ (k j : Nat) u, (Builtin.zeroCells (Value.cells (.agg #[.slice none 0 0, .slice none 0 0])) k)[j]? = some u → slB u = true := by
    intro k j u hu
    rw [← Array.getElem?_toList, zeroCells2] at hu
    rw [List.eq_of_mem_replicate (List.mem_of_getElem? hu)]
    rfl
  have newsl : ∀ (j : Nat) u, ([x.1, x.2] : List Value)[j]? = some u → slB u = true := fun j u hu => by
    have := List.mem_of_getElem? hu
    simp at this
    rcases this with rfl | rfl <;> assumption
  rcases h with ⟨rfl, rfl⟩ | ⟨g, cap, rfl, hg, hlt, h⟩
  · have hr := run_append_nil (P := P) w t ty e i _ ht hi hz a 1 c [x.1, x.2] hnews ha (by omega) (by omega) (by omega)
    refine ⟨_, _, hr, Or.inr ⟨w.heap.size, grownCap w 1 0 e, rfl, hb, by simp, ?_⟩, ⟨rfl, rfl, rfl, by simp, fun k hk _ => Below.heap_alloc w.drew _ k hk⟩, RowsOn.of_below ((Below.refl _ _).drew.alloc (Nat.le_refl _) _), Or.inr rfl, _, _, rfl⟩
    have hge := grownCap_ge w 1 0 e
    refine Sheet.new w.drew _ e _ _ (by simp [hzs]; omega) (grownCap_le_maxLen w 1 0 e (by simp [maxLen])) (by simpa using hge) (fun j u hu => ?_) (fun j u hu => ?_)
    · rw [Array.getElem?_append] at hu
      split at hu
      · exact newsl j u (by simpa using hu)
      · exact hzz _ _ u hu
    · have hj := (List.getElem?_eq_some_iff.1 hu).1
      rw [Array.getElem?_append, if_pos (by simpa [cellsL] using hj)]
      simpa [cellsL] using hu
  · by_cases hroom : xs.length + 1 ≤ cap
    · have hr := run_append_room_cells (P := P) w t ty e i ht hi g 0 xs.length cap a 1 c [x.1, x.2] hnews ha (fun u hu => by simp at hu; rcases hu with rfl | rfl; exact sl_one hx1; exact sl_one hx2) hroom
        (fun j hj => by rw [hs]; simp at hj; obtain ⟨a', n', c', e'⟩ := h.sl (0 + xs.length * 2 + j) (by omega); rw [e']; rfl) (fun j hj => by rw [hs]; simp at hj; exact h.free _ (by omega))
      rw [hs, Nat.zero_add] at hr
      refine ⟨_, _, hr, Or.inr ⟨g, cap, by simp, hg, by rw [setCells_size]; exact hlt, ?_⟩, grown_setCells w g _ _, fun ad l hl => h.puts _ _ (by simp; omega) hl, Or.inl rfl, _, _, rfl⟩
      · refine h.write _ _ (fun u hu => by simp at hu; rcases hu with rfl | rfl <;> assumption) (by simp; omega) _ (by simp; omega) (fun j u hu => ?_)
        rw [cellsL_app, List.getElem?_append, cellsL_len] at hu
        split at hu
        · rw [if_neg (by omega)]; exact hu
        · have hj := (List.getElem?_eq_some_iff.1 hu).1
          simp [cellsL] at hj
          rw [if_pos ⟨by omega, by simp; omega⟩]
          simpa [cellsL] using hu
    · have hr := run_append_grow (P := P) w t ty e i _ ht hi hz ⟨g, 0, none⟩ xs.length cap (cellsL xs) (by rw [cellsL_len, hs]) (fun j u hu => by rw [Addr.add_lit, Nat.zero_add]; exact h.at_ j u hu) a 1 c [x.1, x.2] hnews ha (by omega) (by omega) (growslice_fits (by omega) (by have := Nat.mul_le_mul (show xs.length + 1 ≤ 1001 by omega) hby; omega))
      have hge := grownCap_ge w (xs.length + 1) cap e
      refine ⟨_, _, hr, Or.inr ⟨w.heap.size, grownCap w (xs.length + 1) cap e, by simp, hb, by simp, ?_⟩, ⟨rfl, rfl, rfl, by simp, fun k hk _ => Below.heap_alloc w.drew _ k hk⟩, RowsOn.of_below ((Below.refl _ _).drew.alloc (Nat.le_refl _) _), Or.inr rfl, _, _, rfl⟩
      refine Sheet.new w.drew _ e _ _ (by simp [hzs, cellsL_len]; omega) (grownCap_le_maxLen w _ _ e (by simp [maxLen]; omega)) (by simpa using hge) (fun j u hu => ?_) (fun j u hu => ?_)
      · rw [Array.getElem?_append] at hu
        split at hu
        · rw [Array.getElem?_append] at hu
          split at hu
          · exact cellsL_sl h j u (by simpa using hu)
          · exact newsl _ u (by simpa using hu)
        · exact hzz _ _ u hu
      · have hj := (List.getElem?_eq_some_iff.1 hu).1
        rw [cellsL_len] at hj
        simp at hj
        rw [Array.getElem?_append, if_pos (by simp [cellsL_len]; omega)]
        rw [cellsL_app] at hu
        simpa [cellsL] using hu

/-- copy, where elements have two cells -/
theorem run_copy2 (dT sT ty elem : TypeId) (b o dLen dCap : Nat) (a : Addr) (sLen sCap : Nat) (cs : List Value) (hu : P.underlying dT = some (.slice elem)) (hs : (P.info? elem).map (·.size) = some 2) (hn : cs.length = Nat.min sLen dLen * 2)
    (hsrc : ∀ j v, cs[j]? = some v → w.cell? (a.add j) = some v) (hc : ∀ j, j < cs.length → (w.cell? ⟨b, o + j, none⟩).isSome = true) (hf : ∀ j, j < cs.length → w.frozen? ⟨b, o + j, none⟩ = false) (h1 : ∀ v ∈ cs, v.oneCell' = true) :
    (Builtin.copy_ #[dT, sT] ty #[.slice (some ⟨b, o, none⟩) dLen dCap, .slice (some a) sLen sCap]).run P w = .ok (goInt (Nat.min sLen dLen)) (w.setCells b o cs) := by
  have hl := run_loadCells_list (P := P) w a cs hsrc
  have hst := run_storeCells_cells (P := P) b o cs 0 w (by simpa using hc) (by simpa using hf) h1
  rw [Nat.add_zero] at hst
  rw [hn] at hl
  cases hq : P.info? elem with
  | none => simp [hq] at hs
  | some i =>
    have hi : i.size = 2 := by simpa [hq] using hs
    simp [Builtin.copy_, run_underlying hu, Builtin.lenOf, Builtin.firstCells, sizeOf, typeInfo, hq, hi, hl, hst]
theorem run_copy2_none (dT sT ty elem : TypeId) (d a : Option Addr) (dLen dCap sCap : Nat) (hu : P.underlying dT = some (.slice elem)) (hs : (P.info? elem).map (·.size) = some 2) :
    (Builtin.copy_ #[dT, sT] ty #[.slice d dLen dCap, .slice a 0 sCap]).run P w = .ok (goInt 0) w := by
  cases hq : P.info? elem with
  | none => simp [hq] at hs
  | some i =>
    have hl : ∀ (x : Addr), (loadCells x 0).run P w = .ok #[] w := fun x => by simpa using run_loadCells_list (P := P) w x [] (by simp)
    have h0 : Nat.min 0 dLen = 0 := Nat.zero_min _
    cases d <;> cases a <;> simp [Builtin.copy_, run_underlying hu, Builtin.lenOf, Builtin.firstCells, sizeOf, typeInfo, hq, storeCells, hl]

/-- clear, where elements have two cells -/
theorem run_clear2 (t ty e : TypeId) (ht : P.underlying t = some (.slice e)) (hz : ∀ w, (zeroValue e).run P w = .ok (.agg #[.slice none 0 0, .slice none 0 0]) w) (b o n c : Nat) (hc : ∀ j, j < n * 2 → (w.cell? ⟨b, o + j, none⟩).isSome = true) (hf : ∀ j, j < n * 2 → w.frozen? ⟨b, o + j, none⟩ = false) :
    (Builtin.clear_ #[t] ty #[.slice (some ⟨b, o, none⟩) n c]).run P w = .ok (.tuple #[]) (w.setCells b o (List.replicate (n * 2) (.slice none 0 0))) := by
  have hzc := zeroCells2 n
  have hst := run_storeCells_cells (P := P) b o (List.replicate (n * 2) (.slice none 0 0)) 0 w (by simpa using hc) (by simpa using hf) (by intro v hv'; rw [List.eq_of_mem_replicate hv']; rfl)
  rw [Nat.add_zero] at hst
  cases n with
  | zero => simp [Builtin.clear_, run_underlying ht, World.setCells]
  | succ m => simp [Builtin.clear_, run_underlying ht, hz, hzc, hst]

/-- at a step of a region that draws: append, copy, whose runs are known -/
theorem step_append_eq {ops : Array Oper} {o : Oper} {a : Act} {K : Act → World → Prop} {Q : Exit → Act → World → Prop} {E : Prop} (hgd : o.guard = none) (s x : Operand) (t : TypeId)
    (ho : o.op = .call { callee := .builtin .append, args := #[s, x], argTypes := #[t, t] }) (v u : Value) (hs : a.eval s = v) (hx : a.eval x = u) {v' : Value} {w' : World}
    (hr : (Builtin.append_ #[t, t] o.type #[v, u]).run P w = .ok v' w') (h : K (a.put o.dst v') w') : if Region.wanted o (yielded ops a.tmps) = true then Oper.wp P o a w K Q else E := by
  rw [if_pos (by simp [Region.wanted, hgd])]
  unfold Oper.wp execOp
  simp only [ho, resolve, invoke, builtin, Sem.run_bind, Sem.run_pure, Result.andThen_ok, List.map_toArray, List.map_cons, List.map_nil, hs, hx, hr]
  exact h
theorem step_copy_eq {ops : Array Oper} {o : Oper} {a : Act} {K : Act → World → Prop} {Q : Exit → Act → World → Prop} {E : Prop} (hgd : o.guard = none) (s x : Operand) (t t' : TypeId)
    (ho : o.op = .call { callee := .builtin .copy, args := #[s, x], argTypes := #[t, t'] }) (v u : Value) (hs : a.eval s = v) (hx : a.eval x = u) {v' : Value} {w' : World}
    (hr : (Builtin.copy_ #[t, t'] o.type #[v, u]).run P w = .ok v' w') (h : K (a.put o.dst v') w') : if Region.wanted o (yielded ops a.tmps) = true then Oper.wp P o a w K Q else E := by
  rw [if_pos (by simp [Region.wanted, hgd])]
  unfold Oper.wp execOp
  simp only [ho, resolve, invoke, builtin, Sem.run_bind, Sem.run_pure, Result.andThen_ok, List.map_toArray, List.map_cons, List.map_nil, hs, hx, hr]
  exact h
theorem wpList_copy_eq {ops : Array Oper} {rest : List Oper} {o : Oper} {a : Act} {Q : Exit → Act → World → Prop} (hgd : o.guard = none) (s x : Operand) (t t' : TypeId)
    (ho : o.op = .call { callee := .builtin .copy, args := #[s, x], argTypes := #[t, t'] }) (v u : Value) (hs : a.eval s = v) (hx : a.eval x = u) {v' : Value} {w' : World}
    (hr : (Builtin.copy_ #[t, t'] o.type #[v, u]).run P w = .ok v' w') (h : wpList P ops Q rest (a.put o.dst v') w') : wpList P ops Q (o :: rest) a w :=
  wpList_plain hgd fun K hK => by
    unfold Oper.wp execOp
    simp only [ho, resolve, invoke, builtin, Sem.run_bind, Sem.run_pure, Result.andThen_ok, List.map_toArray, List.map_cons, List.map_nil, hs, hx, hr]
    exact hK _ _ h
end
end Go.Proofs.YtnlcfnpcjkcdmadGreatDoor

/- A chain in memory: a layer more, a layer less, layers made one. -/
namespace Go.Proofs.YtnlcfnpcjkcdmadGreatDoor
open Go Go.RowKit Go.Proofs
set_option synthInstance.maxSize 1000

/-- the row is the same, or a new one -/
def NewV (w : World) (v v' : Value) : Prop := v'.ownBlock = v.ownBlock ∨ ∀ g, v'.ownBlock = some g → w.heap.size ≤ g

theorem arr_cell {w : World} {n0 : Nat} {a b : Value} {T : TypeId} (h : w.heap[n0]? = some (.cells #[a, b] T)) : w.cell? ⟨n0, 0, none⟩ = some a ∧ w.cell? ⟨n0, 1, none⟩ = some b ∧ w.frozen? ⟨n0, 0, none⟩ = false ∧ w.frozen? ⟨n0, 1, none⟩ = false := by
  refine ⟨?_, ?_, ?_, ?_⟩ <;> simp [World.cell?, World.frozen?, h]

/-- behind a store of another list of layers -/
theorem chain_store {W W9 : World} {n0 : Nat} {v v' : Value} {s : List Tr} {bd : Option Addr} {cb : Nat} {gs' : List (List Tr)} {xs' : List Vp} {r' : List (List Tr)}
    (hgs : gs' = s :: r') (hset : ∀ g ∈ gs', IsSet g) (harr : W.heap[n0]? = some (.cells #[.slice bd s.length cb, v] 84)) (hsl : SlT W bd s) (hv : ∃ ad n cap, v = .slice ad n cap) (hne : v.ownBlock ≠ some n0) (hne' : v'.ownBlock ≠ some n0)
    (hg : W.grownBy W9 v.ownBlock) (hr : RowsOn W W9) (hsh : SheetV W9 (n0 + 1) v' xs') (hly : LaysV W9 xs' (stepsL gs')) :
    W9.cell? ⟨n0, 1, none⟩ = some v ∧ W9.frozen? ⟨n0, 1, none⟩ = false ∧ ChainAt (W9.setCell ⟨n0, 1, none⟩ v') n0 v' gs' ∧ Off n0 v W (W9.setCell ⟨n0, 1, none⟩ v') := by
  have hlt : n0 < W.heap.size := (Array.getElem?_eq_some_iff.1 harr).1
  have h9 : W9.heap[n0]? = some (.cells #[.slice bd s.length cb, v] 84) := (hg.block n0 hlt (fun e => hne e.symm)).trans harr
  obtain ⟨_, k1, _, k3⟩ := arr_cell h9
  obtain ⟨ad, n, cap, rfl⟩ := hv
  have hrow : RowsOn W9 (W9.setCell ⟨n0, 1, none⟩ v') := fun ad l hl => hl.put k1 v'
  have hs : ∀ k, k ≠ n0 → (W9.setCell ⟨n0, 1, none⟩ v').heap[k]? = W9.heap[k]? := fun k hk => Below.heap_setCell _ _ _ _ hk
  have hz : (W9.setCell ⟨n0, 1, none⟩ v').heap.size = W9.heap.size := by simp [World.setCell]
  refine ⟨k1, k3, ⟨s, r', bd, cb, xs', hgs, hset, ?_, hrow _ _ (hr _ _ hsl), hsh.keep (by rw [hz]; exact Nat.le_refl _) (fun g hg' => hs g (fun e => hne' (by rw [← e]; exact hg'))), hly.rows hrow⟩, ⟨hg.os, hg.tape, hg.output, by rw [hz]; exact hg.size, fun k hk h1 h2 => (hs k h1).trans (hg.block k hk (fun e => h2 e.symm)), hr.trans hrow⟩⟩
  have := heap_setCell_same W9 n0 1 _ _ v' h9
  simpa using this

section
variable {P : Program}
theorem chain_push {W : World} {n0 : Nat} {v : Value} {gs : List (List Tr)} (h : ChainAt W n0 v gs) (g u : List Tr) (hg : gs.getLast? = some g) (su : IsSet u) (hn : gs.length ≤ 900) (x : Vp) (hx : LayV W x (btw g u)) (a : Addr) (c : Nat) (ha : ∀ (j : Nat) y, ([x.1, x.2] : List Value)[j]? = some y → W.cell? (a.add j) = some y)
    (t ty e : TypeId) (i : TypeInfo) (ht : P.underlying t = some (.slice e)) (hi : P.info? e = some i) (hz : i.zero = some (.agg #[.slice none 0 0, .slice none 0 0])) (hs : i.size = 2) (hby : i.bytes ≤ 100) :
    ∃ v' W9, (Builtin.append_ #[t, t] ty #[v, .slice (some a) 1 c]).run P W = .ok v' W9 ∧ W.grownBy W9 v.ownBlock ∧ W9.cell? ⟨n0, 1, none⟩ = some v ∧ W9.frozen? ⟨n0, 1, none⟩ = false ∧ ChainAt (W9.setCell ⟨n0, 1, none⟩ v') n0 v' (gs ++ [u]) ∧ Off n0 v W (W9.setCell ⟨n0, 1, none⟩ v') ∧ NewV W v v' ∧ ∃ ad cap, v' = .slice ad gs.length cap := by
  obtain ⟨s, r, bd, cb, xs, rfl, hset, harr, hsl, hsh, hly⟩ := h
  have hlt : n0 < W.heap.size := (Array.getElem?_eq_some_iff.1 harr).1
  have hlen := hly.1.trans (stepsL_len _)
  obtain ⟨a1, c1, a2, c2, rfl, q1, q2⟩ := hx
  obtain ⟨v', W9, hr, hsh', hgr, hrow, hob, ad, cap, hv'⟩ := run_append_sheet (P := P) t ty e i ht hi hz hs hby hsh (.slice a1 _ c1, .slice a2 _ c2) rfl rfl a c ha (by omega) (by rw [hlen]; omega)
  have hv : ∃ ad n cap, v = .slice ad n cap := by
    rcases hsh with ⟨rfl, _⟩ | ⟨g', cap', rfl, _⟩
    · exact ⟨_, _, _, rfl⟩
    · exact ⟨_, _, _, rfl⟩
  have hne : v.ownBlock ≠ some n0 := fun e => by have := (hsh.lt n0 e).1; omega
  have hne' : v'.ownBlock ≠ some n0 := fun e => by have := (hsh'.lt n0 e).1; omega
  obtain ⟨k1, k3, hC, hO⟩ := chain_store (gs' := (s :: r) ++ [u]) (r' := r ++ [u]) (xs' := xs ++ [(.slice a1 (btw g u).1.length c1, .slice a2 (btw g u).2.length c2)]) rfl (fun m hm => by
    rcases List.mem_append.1 hm with h | h
    · exact hset m h
    · rw [List.mem_singleton.1 h]; exact su) harr hsl hv hne hne' hgr hrow hsh' (by
    rw [stepsL_snoc _ g u hg]
    exact (hly.rows hrow).snoc ⟨a1, c1, a2, c2, rfl, hrow _ _ q1, hrow _ _ q2⟩)
  refine ⟨v', W9, hr, hgr, k1, k3, hC, hO, ?_, ad, cap, by rw [hv', hlen]; simp⟩
  rcases hob with h | h
  · exact Or.inl h
  · exact Or.inr fun g' hg' => by rw [h] at hg'; exact Nat.le_of_eq (Option.some.inj hg')
end

/-- layers from f to t made one: the row behind slices.Replace -/
theorem chain_squash {W W9 : World} {n0 : Nat} {v v' : Value} {gs : List (List Tr)} {xs : List Vp} {s : List Tr} {r : List (List Tr)} {bd : Option Addr} {cb : Nat} {f t : Nat} {g u : List Tr} {x : Vp}
    (hgs : gs = s :: r) (hset : ∀ g ∈ gs, IsSet g) (harr : W.heap[n0]? = some (.cells #[.slice bd s.length cb, v] 84)) (hsl : SlT W bd s) (hv : ∃ ad n cap, v = .slice ad n cap) (hne : v.ownBlock ≠ some n0) (hob : v'.ownBlock = v.ownBlock)
    (hly : LaysV W xs (stepsL gs)) (h1 : 1 ≤ f) (h2 : f ≤ t) (hg : gs[f - 1]? = some g) (hu : gs[t]? = some u) (hx : LayV W x (btw g u))
    (hgr : W.grownBy W9 v.ownBlock) (hr : RowsOn W W9) (hsh : SheetV W9 (n0 + 1) v' (xs.take (f - 1) ++ x :: xs.drop t)) :
    W9.cell? ⟨n0, 1, none⟩ = some v ∧ W9.frozen? ⟨n0, 1, none⟩ = false ∧ ChainAt (W9.setCell ⟨n0, 1, none⟩ v') n0 v' (gs.take f ++ gs.drop t) ∧ Off n0 v W (W9.setCell ⟨n0, 1, none⟩ v') := by
  have ht : t < gs.length := (List.getElem?_eq_some_iff.1 hu).1
  have hl := hly.1.trans (stepsL_len _)
  refine chain_store (r' := r.take (f - 1) ++ gs.drop t) (xs' := xs.take (f - 1) ++ x :: xs.drop t) ?_ (fun m hm => ?_) harr hsl hv hne (by rw [hob]; exact hne) hgr hr hsh ?_
  · obtain ⟨f', rfl⟩ : ∃ f', f = f' + 1 := ⟨f - 1, by omega⟩
    rw [hgs]
    simp
  · rcases List.mem_append.1 hm with h | h
    · exact hset m (List.mem_of_mem_take h)
    · exact hset m (List.mem_of_mem_drop h)
  · rw [stepsL_squash gs f t g u h1 h2 hg hu]
    exact (hly.rows hr).cut (hx.rows hr) (f - 1) t (by omega) (by rw [hl]; omega)
/-- the top layer taken off: the row behind slices.Delete -/
theorem chain_pop {W W9 : World} {n0 : Nat} {v v' : Value} {gs : List (List Tr)} {xs : List Vp} {s : List Tr} {r : List (List Tr)} {bd : Option Addr} {cb : Nat}
    (hgs : gs = s :: r) (hr0 : r ≠ []) (hset : ∀ g ∈ gs, IsSet g) (harr : W.heap[n0]? = some (.cells #[.slice bd s.length cb, v] 84)) (hsl : SlT W bd s) (hv : ∃ ad n cap, v = .slice ad n cap) (hne : v.ownBlock ≠ some n0) (hob : v'.ownBlock = v.ownBlock)
    (hly : LaysV W xs (stepsL gs)) (hgr : W.grownBy W9 v.ownBlock) (hr : RowsOn W W9) (hsh : SheetV W9 (n0 + 1) v' xs.dropLast) :
    W9.cell? ⟨n0, 1, none⟩ = some v ∧ W9.frozen? ⟨n0, 1, none⟩ = false ∧ ChainAt (W9.setCell ⟨n0, 1, none⟩ v') n0 v' gs.dropLast ∧ Off n0 v W (W9.setCell ⟨n0, 1, none⟩ v') := by
  refine chain_store (r' := r.dropLast) (xs' := xs.dropLast) ?_ (fun m hm => hset m ((List.dropLast_sublist _).subset hm)) harr hsl hv hne (by rw [hob]; exact hne) hgr hr hsh ?_
  · rw [hgs, List.dropLast_cons_of_ne_nil hr0]
  · rw [stepsL_init]
    exact (hly.rows hr).init
end Go.Proofs.YtnlcfnpcjkcdmadGreatDoor

/- chain: ownTerm, own: a list in memory of the chain's own. -/
namespace Go.Proofs.YtnlcfnpcjkcdmadGreatDoor
open Go Go.RowKit Go.Proofs
set_option synthInstance.maxSize 1000

theorem CloneC_any (l : List UInt8) (w : World) (hl : l.length ≤ 281474976710656) :
    Calls Tryz.prog 107 #[.string ⟨l.toArray⟩] w fun e w' => e = .returned (.string ⟨l.toArray⟩) ∧ RowKit.Below w.heap.size w w' := by
  go_enter Tryz.func107, Tryz.ntmps107
  go_wp2_with (go_at_call 129; refine (Tryz.stringslite_Clone ⟨l.toArray⟩ _ hl).mono ?_; rintro e w' ⟨rfl, hb⟩)
  go_ret
  exact ⟨rfl, hb⟩

/-- nothing that was there at v has turned -/
def BC (v W : World) : Prop := RowKit.Below v.heap.size v W
theorem BC.refl (v : World) : BC v v := RowKit.Below.refl _ _
theorem BC.drew {v W : World} (h : BC v W) : BC v W.drew := RowKit.Below.drew h
theorem BC.alloc {v W : World} (h : BC v W) (o : Obj) : BC v (W.alloc o) := bstep h (balloc _ _)
theorem BC.call {v W W' : World} (h : BC v W) (hb : RowKit.Below W.heap.size W W') : BC v W' := bstep h hb
def Zc (W : World) (B : Nat) : Prop := W.cell? ⟨B, 0, none⟩ = some (.int .i64 0) ∧ W.cell? ⟨B, 1, none⟩ = some (.string ⟨#[]⟩) ∧ W.cell? ⟨B, 2, none⟩ = some (.string ⟨#[]⟩) ∧ W.frozen? ⟨B, 0, none⟩ = false ∧ W.frozen? ⟨B, 1, none⟩ = false ∧ W.frozen? ⟨B, 2, none⟩ = false
theorem Zc.below {W W' : World} {B : Nat} (h : Zc W B) (hb : RowKit.Below W.heap.size W W') : Zc W' B := by
  obtain ⟨k, f⟩ := bcell hb
  have hB : B < W.heap.size := World.block_lt_of_cell? W _ h.1
  unfold Zc at h ⊢
  simp only [k _ _ hB, f _ _ hB]
  exact h
def B3 (W : World) (n : Nat) (x : Tm) : Prop := W.cell? ⟨n, 0, none⟩ = some (.int .i64 x.1) ∧ W.cell? ⟨n, 1, none⟩ = some (.string ⟨x.2.1.toArray⟩) ∧ W.cell? ⟨n, 2, none⟩ = some (.string ⟨x.2.2.toArray⟩)
theorem B3.below {W W' : World} {n : Nat} {x : Tm} (h : B3 W n x) (hb : RowKit.Below W.heap.size W W') : B3 W' n x := by
  obtain ⟨k, f⟩ := bcell hb
  have hB : n < W.heap.size := World.block_lt_of_cell? W _ h.1
  unfold B3 at h ⊢
  simp only [k _ _ hB]
  exact h
theorem B3.set3 {W : World} {n : Nat} {x : Tm} (h : B3 W n x) {g : Nat} (hg : g ≠ n) (a b c : Value) : B3 (((W.setCell ⟨g, 0, none⟩ a).setCell ⟨g, 1, none⟩ b).setCell ⟨g, 2, none⟩ c) n x := by
  unfold B3 at h ⊢
  refine ⟨?_, ?_, ?_⟩
  all_goals
    rw [World.cell?_setCell_other _ _ _ _ (by simp <;> omega), World.cell?_setCell_other _ _ _ _ (by simp <;> omega), World.cell?_setCell_other _ _ _ _ (by simp <;> omega)]
  · exact h.1
  · exact h.2.1
  · exact h.2.2
theorem ownsRow_belowC {W W' : World} {base : Nat} {e : TypeId} {sz : Nat} {v : Value} {n : Nat} {cs : List Value} (h : W.ownsRow base e sz v n cs) (hb : RowKit.Below W.heap.size W W') : W'.ownsRow base e sz v n cs :=
  h.kept (row := none) ⟨hb.os, hb.tape, hb.output, hb.size, fun i hi _ => hb.block i hi⟩ (Classical.em _)

set_option maxHeartbeats 4000000 in
set_option maxRecDepth 100000 in
theorem ownTerm_any (x : Tm) (w : World) (l1 : x.2.1.length ≤ 281474976710656) (l2 : x.2.2.length ≤ 281474976710656) :
    Calls Tryz.prog 76 #[.agg #[.int .i64 x.1, .string ⟨x.2.1.toArray⟩, .string ⟨x.2.2.toArray⟩]] w fun e w' => e = .returned (.agg #[.int .i64 x.1, .string ⟨x.2.1.toArray⟩, .string ⟨x.2.2.toArray⟩]) ∧ RowKit.Below w.heap.size w w' := by
  go_enter Tryz.func76, Tryz.ntmps76
  go_wp2_with fail
  obtain ⟨v0, hv0⟩ : ∃ v0, v0 = ((w.alloc (.cells #[.int .i64 x.1, .string ⟨x.2.1.toArray⟩, .string ⟨x.2.2.toArray⟩] 43)).alloc (.cells #[.int .i64 0, .string ⟨#[]⟩, .string ⟨#[]⟩] 43)) := ⟨_, rfl⟩
  have hZ : Zc v0 (w.heap.size + 1) := by rw [hv0]; unfold Zc; refine ⟨?_, ?_, ?_, ?_, ?_, ?_⟩ <;> go_simp
  have hX : B3 v0 w.heap.size x := by rw [hv0]; unfold B3; refine ⟨?_, ?_, ?_⟩ <;> go_simp
  have hB : Hid (RowKit.Below w.heap.size w v0) := by show RowKit.Below _ _ _; rw [hv0]; exact bstep (balloc _ _) (balloc _ _)
  have hz : v0.heap.size = w.heap.size + 2 := by rw [hv0]; simp
  have hZd : Hid (Zc v0.drew (w.heap.size + 1)) := hZ
  have hXd : B3 v0.drew w.heap.size x := hX
  try rw [show (ByteArray.empty) = ⟨#[]⟩ from rfl]
  rw [← hv0]
  clear hv0 hZ hX
  go_region_held3 (fun W => B3 W w.heap.size x ∧ W.cell? ⟨w.heap.size, 0, none⟩ = some (.int .i64 x.1) ∧ W.cell? ⟨w.heap.size, 1, none⟩ = some (.string ⟨x.2.1.toArray⟩) ∧ W.cell? ⟨w.heap.size, 2, none⟩ = some (.string ⟨x.2.2.toArray⟩)) ((refine (fun (W : World) (h : B3 W w.heap.size x) => (⟨h, h⟩ : B3 W w.heap.size x ∧ B3 W w.heap.size x)) _ ?_; repeat (first | (with_reducible refine B3.set3 ?_ (by omega) _ _ _) | (with_reducible refine B3.below ?_ hb1) | (with_reducible refine B3.below ?_ hb2) | (with_reducible exact hXd) | (with_reducible exact And.left (by assumption))))) (first
    | (go_at_call_of 107 (Value.string ⟨x.2.1.toArray⟩); refine (CloneC_any x.2.1 _ l1).mono ?_; rintro e w1 ⟨rfl, hb1⟩; have hZ1 : Hid (Zc w1 (w.heap.size + 1)) := hZd.out.below hb1)
    | (go_at_call_of 107 (Value.string ⟨x.2.2.toArray⟩); refine (CloneC_any x.2.2 _ l2).mono ?_; rintro e w2 ⟨rfl, hb2⟩; have hZ2 : Zc w2 (w.heap.size + 1) := hZ1.out.below hb2; obtain ⟨q0, q1, q2, q3, q4, q5⟩ := id hZ2))
  all_goals go_wp2_with fail
  exact bodyPost_ret (v := .agg #[.int .i64 x.1, .string ⟨x.2.1.toArray⟩, .string ⟨x.2.2.toArray⟩]) (by unfold results; rw [Tryz.results76]; go_simp) rfl ⟨rfl, (((bstep (bstep hB.out.drew hb1) hb2).setCell (p := ⟨w.heap.size + 1, 0, none⟩) (by show _ ≤ _ + 1; omega) _).setCell (p := ⟨w.heap.size + 1, 1, none⟩) (by show _ ≤ _ + 1; omega) _).setCell (p := ⟨w.heap.size + 1, 2, none⟩) (by show _ ≤ _ + 1; omega) _⟩

def B9 (W : World) (n : Nat) (y : Tr) : Prop := W.cell? ⟨n, 0, none⟩ = some (.int .i64 y.1.1) ∧ W.cell? ⟨n, 1, none⟩ = some (.string ⟨y.1.2.1.toArray⟩) ∧ W.cell? ⟨n, 2, none⟩ = some (.string ⟨y.1.2.2.toArray⟩) ∧ W.cell? ⟨n, 3, none⟩ = some (.int .i64 y.2.1.1) ∧ W.cell? ⟨n, 4, none⟩ = some (.string ⟨y.2.1.2.1.toArray⟩) ∧ W.cell? ⟨n, 5, none⟩ = some (.string ⟨y.2.1.2.2.toArray⟩) ∧ W.cell? ⟨n, 6, none⟩ = some (.int .i64 y.2.2.1) ∧ W.cell? ⟨n, 7, none⟩ = some (.string ⟨y.2.2.2.1.toArray⟩) ∧ W.cell? ⟨n, 8, none⟩ = some (.string ⟨y.2.2.2.2.toArray⟩)
theorem B9.below {W W' : World} {n : Nat} {y : Tr} (h : B9 W n y) (hb : RowKit.Below W.heap.size W W') : B9 W' n y := by
  obtain ⟨k, f⟩ := bcell hb
  have hB : n < W.heap.size := World.block_lt_of_cell? W _ h.1
  unfold B9 at h ⊢
  simp only [k _ _ hB]
  exact h
theorem B9.alloc {W : World} {n : Nat} {y : Tr} (h : B9 W n y) (o : Obj) : B9 (W.alloc o) n y := h.below (balloc _ _)
theorem B9.grown {W W' : World} {n : Nat} {y : Tr} {row : Option Nat} (h : B9 W n y) (hg : W.grownBy W' row) (hn : some n ≠ row) : B9 W' n y := by
  have hB : n < W.heap.size := World.block_lt_of_cell? W _ h.1
  have k : ∀ o, W'.cell? ⟨n, o, none⟩ = W.cell? ⟨n, o, none⟩ := fun o => World.cell?_of_block (w := W) (hg.block n hB hn)
  unfold B9 at h ⊢
  simp only [k]
  exact h
theorem small_chk {x : Tr} (h : chkTr x = 0) : (x.1.2.1.length ≤ 281474976710656 ∧ x.1.2.2.length ≤ 281474976710656) ∧ (x.2.1.2.1.length ≤ 281474976710656 ∧ x.2.1.2.2.length ≤ 281474976710656) ∧ x.2.2.2.1.length ≤ 281474976710656 ∧ x.2.2.2.2.length ≤ 281474976710656 := by
  obtain ⟨h1, h2, h3, _⟩ := chk_zero h
  have a1 := (check_zero h1).2.1
  have a2 := (check_zero h2).2.1
  have a3 := (check_zero h3).2.1
  have b1 := spell_lang (check_zero h1).2.2
  have b2 := spell_lang (check_zero h2).2.2
  have b3 := spell_lang (check_zero h3).2.2
  omega

/-- what append does to a list of one's own -/
theorem append_mine (W : World) (B : Nat) (v : Value) (t : List Tr) (y : Tr) (hown : W.ownsRow B 88 9 v t.length (cellsT t)) (hB : B ≤ W.heap.size) (ht : t.length ≤ 1000) (ty : TypeId) :
    ∃ v' W', (Builtin.append_ #[27, 27] ty #[v, .slice (some ⟨W.heap.size, 0, none⟩) 1 1]).run Tryz.prog (W.alloc (.cells (encTr y).toArray 88)) = .ok v' W' ∧ W'.ownsRow B 88 9 v' (t ++ [y]).length (cellsT (t ++ [y])) ∧ (W.alloc (.cells (encTr y).toArray 88)).grownBy W' v.ownBlock := by
  obtain ⟨i0, hi, hz⟩ := Option.map_eq_some_iff.1 infoTr
  simp only [Prod.mk.injEq] at hz
  obtain ⟨hz0, hz1, hz2⟩ := hz
  have hc : ∀ j u, (encTr y)[j]? = some u → (W.alloc (.cells (encTr y).toArray 88)).cell? ((⟨W.heap.size, 0, none⟩ : Addr).add j) = some u := by
    intro i u hi'
    rw [Addr.add_lit, Nat.zero_add, World.cell?_alloc_new]
    simpa using hi'
  obtain ⟨v', W', hr, h2, h3, _⟩ := run_append_own (P := Tryz.prog) (W.alloc (.cells (encTr y).toArray 88)) B 27 ty 88 i0 (.agg (encTr zeroTr).toArray) 9 120 Tryz.underlying27 hi hz0 hz1 hz2 rfl (by decide) v t.length (cellsT t) (hown.alloc _) ⟨W.heap.size, 0, none⟩ 1 1 (encTr y) rfl hc (encTr_one y) (by unfold maxLen; omega) (by omega) (by simp; omega)
  refine ⟨v', W', hr, ?_, h3⟩
  rw [List.length_append, show cellsT (t ++ [y]) = cellsT t ++ encTr y by simp [cellsT]]
  exact h2

set_option maxHeartbeats 8000000 in
set_option maxRecDepth 100000 in
theorem own_any (ad : Option Addr) (ca : Nat) (l : List Tr) (w : World) (hl : SlT w ad l) (hs : IsSet l) :
    Calls Tryz.prog 37 #[.slice ad l.length ca] w fun e w' => ∃ ad' c', e = .returned (.slice ad' l.length c') ∧ SlT w' ad' l ∧ RowKit.Below w.heap.size w w' := by
  have Hl : Hid (SlT w ad l) := hl
  have Hs : Hid (IsSet l) := hs
  have n200 : l.length ≤ 200 := hs.1
  clear hl hs
  go_enter Tryz.func37, Tryz.ntmps37
  go_wp2_with fail
  go_loopw [3, 8] (fun v i wr => ∃ k : Nat, k ≤ l.length ∧ i = .int .i64 k ∧ Hid (wr.ownsRow w.heap.size 88 9 v (l.take k).length (cellsT (l.take k))) ∧ Hid (RowKit.Below w.heap.size w wr)) (fun _ i wr => l.length - (intOf i).toNat)
  case atStart => exact ⟨0, Nat.zero_le _, rfl, by show World.ownsRow _ _ _ _ _ _ _; rw [List.take_zero]; exact World.ownsRow_nil _ _ _ _, RowKit.Below.refl _ _⟩
  case round =>
    obtain ⟨k, hk, rfl, hown, hbr⟩ := hrel
    by_cases hlt : k < l.length
    · obtain ⟨b, o, rfl, hr⟩ := (Hl.out.below hbr.out).at k hlt
      obtain ⟨c0, c1, c2, c3, c4, c5, c6, c7, c8⟩ := hr.at k hlt
      have i0' : (0 : Int) ≤ (k : Int) := by omega
      have i1 : (k : Int) < (l.length : Int) := by omega
      have hsm := small_chk (Hs.out.2.1 _ (List.getElem_mem hlt))
      have htk : Hid (l.take (k + 1) = l.take k ++ [l[k]]) := by show _ = _; rw [List.take_add_one]; simp [hlt]
      have hk' : Hid ((l.take k).length ≤ 200) := by show _ ≤ _; rw [List.length_take]; omega
      generalize l.take k = t0 at *
      generalize l[k] = y at *
      have H1 := fun W => ownTerm_any y.1 W hsm.1.1 hsm.1.2
      have H2 := fun W => ownTerm_any y.2.1 W hsm.2.1.1 hsm.2.1.2
      have H3 := fun W => ownTerm_any y.2.2 W hsm.2.2.1 hsm.2.2.2
      have HN : Hid (B9 (wr.alloc (.cells #[.int .i64 y.1.1, .string ⟨y.1.2.1.toArray⟩, .string ⟨y.1.2.2.toArray⟩, .int .i64 y.2.1.1, .string ⟨y.2.1.2.1.toArray⟩, .string ⟨y.2.1.2.2.toArray⟩, .int .i64 y.2.2.1, .string ⟨y.2.2.2.1.toArray⟩, .string ⟨y.2.2.2.2.toArray⟩] 88)) wr.heap.size y) := by show B9 _ _ _; unfold B9; refine ⟨?_, ?_, ?_, ?_, ?_, ?_, ?_, ?_, ?_⟩ <;> go_simp
      have HB : Hid (RowKit.Below w.heap.size w (wr.alloc (.cells #[.int .i64 y.1.1, .string ⟨y.1.2.1.toArray⟩, .string ⟨y.1.2.2.toArray⟩, .int .i64 y.2.1.1, .string ⟨y.2.1.2.1.toArray⟩, .string ⟨y.2.1.2.2.toArray⟩, .int .i64 y.2.2.1, .string ⟨y.2.2.2.1.toArray⟩, .string ⟨y.2.2.2.2.toArray⟩] 88))) := bstep hbr.out (balloc _ _)
      have HO : Hid (World.ownsRow (wr.alloc (.cells #[.int .i64 y.1.1, .string ⟨y.1.2.1.toArray⟩, .string ⟨y.1.2.2.toArray⟩, .int .i64 y.2.1.1, .string ⟨y.2.1.2.1.toArray⟩, .string ⟨y.2.1.2.2.toArray⟩, .int .i64 y.2.2.1, .string ⟨y.2.2.2.1.toArray⟩, .string ⟨y.2.2.2.2.toArray⟩] 88)) w.heap.size 88 9 _ t0.length (cellsT t0)) := hown.out.alloc _
      have Hn0 : Hid (some wr.heap.size ≠ Value.ownBlock _) := fun e => by have := (hown.out.lt _ e.symm).2; omega
      have hzz : Hid (w.heap.size ≤ wr.heap.size) := hbr.out.size
      clear hsm hr
      go_wp2_with fail
      obtain ⟨v1, hv1⟩ : ∃ v1, v1 = (wr.alloc (.cells #[.int .i64 y.1.1, .string ⟨y.1.2.1.toArray⟩, .string ⟨y.1.2.2.toArray⟩, .int .i64 y.2.1.1, .string ⟨y.2.1.2.1.toArray⟩, .string ⟨y.2.1.2.2.toArray⟩, .int .i64 y.2.2.1, .string ⟨y.2.2.2.1.toArray⟩, .string ⟨y.2.2.2.2.toArray⟩] 88)) := ⟨_, rfl⟩
      rw [← hv1] at HN HB HO ⊢
      have HNd : B9 v1.drew wr.heap.size y := HN.out
      clear hv1 c0 c1 c2 c3 c4 c5 c6 c7 c8 hown hbr
      go_region_held3 (fun W => B9 W wr.heap.size y ∧ W.cell? ⟨wr.heap.size, 0, none⟩ = some (.int .i64 y.1.1) ∧ W.cell? ⟨wr.heap.size, 1, none⟩ = some (.string ⟨y.1.2.1.toArray⟩) ∧ W.cell? ⟨wr.heap.size, 2, none⟩ = some (.string ⟨y.1.2.2.toArray⟩) ∧ W.cell? ⟨wr.heap.size, 3, none⟩ = some (.int .i64 y.2.1.1) ∧ W.cell? ⟨wr.heap.size, 4, none⟩ = some (.string ⟨y.2.1.2.1.toArray⟩) ∧ W.cell? ⟨wr.heap.size, 5, none⟩ = some (.string ⟨y.2.1.2.2.toArray⟩) ∧ W.cell? ⟨wr.heap.size, 6, none⟩ = some (.int .i64 y.2.2.1) ∧ W.cell? ⟨wr.heap.size, 7, none⟩ = some (.string ⟨y.2.2.2.1.toArray⟩) ∧ W.cell? ⟨wr.heap.size, 8, none⟩ = some (.string ⟨y.2.2.2.2.toArray⟩)) ((refine (fun (W : World) (h : B9 W wr.heap.size y) => (⟨h, h⟩ : B9 W wr.heap.size y ∧ B9 W wr.heap.size y)) _ ?_; repeat (first | (with_reducible exact hN9.out) | (with_reducible refine B9.alloc ?_ _) | (with_reducible refine B9.below ?_ hb1) | (with_reducible refine B9.below ?_ hb2) | (with_reducible refine B9.below ?_ hb3) | (with_reducible exact HNd) | (with_reducible exact And.left (by assumption))))) (first
        | (go_at_call_of 76 (Value.agg #[.int .i64 y.1.1, .string ⟨y.1.2.1.toArray⟩, .string ⟨y.1.2.2.toArray⟩]); refine (H1 _).mono ?_; rintro e w1 ⟨rfl, hb1⟩)
        | (go_at_call_of 76 (Value.agg #[.int .i64 y.2.1.1, .string ⟨y.2.1.2.1.toArray⟩, .string ⟨y.2.1.2.2.toArray⟩]); refine (H2 _).mono ?_; rintro e w2 ⟨rfl, hb2⟩)
        | (go_at_call_of 76 (Value.agg #[.int .i64 y.2.2.1, .string ⟨y.2.2.2.1.toArray⟩, .string ⟨y.2.2.2.2.toArray⟩]); refine (H3 _).mono ?_; rintro e w3 ⟨rfl, hb3⟩; have hB4 : Hid (RowKit.Below w.heap.size w w3) := bstep (bstep (bstep HB.out.drew hb1) hb2) hb3; obtain ⟨v', w9, hr9, ho9, hg9⟩ := append_mine w3 w.heap.size _ t0 y (ownsRow_belowC (ownsRow_belowC (ownsRow_belowC HO.out.drew hb1) hb2) hb3) hB4.out.size (by have := hk'.out; omega) 27; have hN9 : Hid (B9 w9 wr.heap.size y) := (((HN.out.below ((RowKit.Below.refl _ v1).drew.trans (bstep (bstep hb1 hb2) hb3))).alloc _).grown hg9 Hn0.out))
        | (refine step_append_eq rfl (.tmp 12) (.tmp 23) 27 rfl _ _ rfl rfl hr9 ?_))
      have hbel : Hid (RowKit.Below w.heap.size w w9) := (bstep hB4.out (balloc _ _)).grown hg9 (by have := hB4.out.size; simp; omega) (fun q hq => (HO.out.lt q hq).1)
      go_wp2_with fail
      go_roundw
      case rel =>
        refine ⟨k + 1, by omega, by go_num, ?_, hbel⟩
        show World.ownsRow _ _ _ _ _ _ _
        rw [htk.out]
        exact ho9
      case measure => simp [intOf]; omega
    · obtain rfl : k = l.length := by omega
      have hown' := hown.out
      rw [List.take_length] at hown'
      obtain ⟨ad', cap', rfl, hsl⟩ := own_slT hown'
      have Hsl : Hid (SlT wr ad' l) := hsl
      clear hown' hown hsl
      go_wp2_with fail
      exact bodyPost_ret (v := .slice ad' l.length cap') (by simp [results, Tryz.results37, go_sem]) rfl ⟨ad', cap', rfl, Hsl.out, hbr.out⟩
end Go.Proofs.YtnlcfnpcjkcdmadGreatDoor

/- chain: Len, New, Graph. -/
namespace Go.Proofs.YtnlcfnpcjkcdmadGreatDoor
open Go Go.RowKit Go.Proofs
set_option synthInstance.maxSize 1000
attribute [local go_sem] eql_errV neq_errV guard_errV

theorem ChainAt.form {w : World} {n0 : Nat} {v : Value} {gs : List (List Tr)} (h : ChainAt w n0 v gs) : ∃ ad cap, v = .slice ad (gs.length - 1) cap := by
  obtain ⟨s, r, bd, cb, xs, rfl, _, _, _, h, hl⟩ := h
  have e := hl.1.trans (stepsL_len _)
  rcases h with ⟨rfl, rfl⟩ | ⟨g, cap, rfl, _⟩
  · exact ⟨none, 0, by rw [← e]; rfl⟩
  · exact ⟨_, cap, by rw [← e]⟩
theorem ChainAt.pos {w : World} {n0 : Nat} {v : Value} {gs : List (List Tr)} (h : ChainAt w n0 v gs) : 0 < gs.length := by
  obtain ⟨s, r, bd, cb, xs, rfl, _⟩ := h
  simp
theorem ChainAt.c1 {w : World} {n0 : Nat} {v : Value} {gs : List (List Tr)} (h : ChainAt w n0 v gs) : w.cell? ⟨n0, 1, none⟩ = some v := by
  obtain ⟨s, r, bd, cb, xs, rfl, _, h, _⟩ := h
  exact (arr_cell h).2.1
theorem ChainAt.set {w : World} {n0 : Nat} {v : Value} {gs : List (List Tr)} (h : ChainAt w n0 v gs) {i : Nat} {g : List Tr} (hg : gs[i]? = some g) : IsSet g := by
  obtain ⟨s, r, bd, cb, xs, rfl, h, _⟩ := h
  exact h g (List.mem_of_getElem? hg)
/-- what lies behind a place of the list of layers -/
theorem ChainAt.step {w : World} {n0 : Nat} {v : Value} {gs : List (List Tr)} (h : ChainAt w n0 v gs) {i : Nat} {g u : List Tr} (hg : gs[i]? = some g) (hu : gs[i + 1]? = some u) :
    ∃ bl cap a1 c1 a2 c2, v = .slice (some ⟨bl, 0, none⟩) (gs.length - 1) cap ∧ i < gs.length - 1 ∧ gs.length - 1 ≤ cap ∧ w.cell? ⟨bl, i * 2, none⟩ = some (.slice a1 (lessL u g).length c1) ∧ w.cell? ⟨bl, i * 2 + 1, none⟩ = some (.slice a2 (lessL g u).length c2) ∧ SlT w a1 (lessL u g) ∧ SlT w a2 (lessL g u) := by
  obtain ⟨s, r, bd, cb, xs, rfl, _, _, _, h, hl⟩ := h
  have e := hl.1.trans (stepsL_len _)
  have hi := (List.getElem?_eq_some_iff.1 hu).1
  rcases h with ⟨rfl, rfl⟩ | ⟨bl, cap, rfl, _, _, h⟩
  · simp at e
    simp at hi
    omega
  · have hx : i < xs.length := by rw [e]; omega
    obtain ⟨a1, c1, a2, c2, e1, q1, q2⟩ := hl.2 i xs[i] (btw g u) (List.getElem?_eq_getElem hx) (stepsL_get hg hu)
    have p0 : (cellsL xs)[i * 2]? = some (xs[i]).1 := by rw [cellsL_at, show i * 2 / 2 = i by omega, List.getElem?_eq_getElem hx]; simp
    have p1 : (cellsL xs)[i * 2 + 1]? = some (xs[i]).2 := by rw [cellsL_at, show (i * 2 + 1) / 2 = i by omega, List.getElem?_eq_getElem hx]; simp
    have c0 := h.at_ _ _ p0
    have c1' := h.at_ _ _ p1
    rw [e1] at c0 c1'
    exact ⟨bl, cap, a1, c1, a2, c2, by rw [← e], by omega, by rw [← e]; exact h.le, c0, c1', q1, q2⟩

set_option maxHeartbeats 1000000 in
theorem CLen_any (n0 : Nat) (v : Value) (gs : List (List Tr)) (w : World) (h : ChainAt w n0 v gs) (hn : gs.length ≤ 1000) :
    Calls Tryz.prog 11 #[.pointer (some ⟨n0, 0, none⟩)] w fun e w' => e = .returned (.int .i64 ((gs.length - 1 : Nat) : Int)) ∧ w' = w := by
  have c1 := h.c1
  obtain ⟨ad, cap, rfl⟩ := h.form
  generalize hm : gs.length - 1 = m at *
  have hm' : m ≤ 1000 := by omega
  clear h hm hn
  go_enter Tryz.func11, Tryz.ntmps11
  go_wp2_with fail
  go_ret
  exact ⟨rfl, rfl⟩

/-- what New tells -/
def NewAns (s : List Tr) (w : World) (e : Ending) (w' : World) : Prop := RowKit.Below w.heap.size w w' ∧ (sortedN s = 0 → ∃ n0, e = .returned (.tuple #[.pointer (some ⟨n0, 0, none⟩), .nilIface]) ∧ w.heap.size ≤ n0 ∧ ChainAt w' n0 (.slice none 0 0) [s]) ∧ (sortedN s ≠ 0 → e = .returned (.tuple #[.pointer none, errV (sortedN s)]))
theorem chain_new {w : World} {s : List Tr} {bd : Option Addr} {cb : Nat} (hs : IsSet s) (h : SlT w bd s) : ChainAt (w.alloc (.cells #[.slice bd s.length cb, .slice none 0 0] 84)) w.heap.size (.slice none 0 0) [s] :=
  ⟨s, [], bd, cb, [], rfl, by simpa using hs, heap_alloc_new w _, h.below (balloc _ _), Or.inl ⟨rfl, rfl⟩, LaysV.nil _⟩

set_option maxHeartbeats 1000000 in
set_option maxRecDepth 100000 in
theorem CNew_any (ad : Option Addr) (ca : Nat) (s : List Tr) (w : World) (h : SlT w ad s) (fs : ∀ x ∈ s, fitTr x) (ns : s.length ≤ 9223372036854775807) :
    Calls Tryz.prog 6 #[.slice ad s.length ca] w (NewAns s w) := by
  have HS := fun W hW => Sorted_any ad ca s W hW fs ns
  have HO := fun W hW hs => own_any ad ca s W hW hs
  have hz : Hid (sortedN s = 0 → IsSet s) := fun h => sortedN_set.1 h
  have Hs : Hid (SlT w ad s) := h
  have out0 : Hid (¬ sortedN s = 0 → ∀ w', RowKit.Below w.heap.size w w' → NewAns s w (.returned (.tuple #[.pointer none, errV (sortedN s)])) w') := fun h0 w' hb => ⟨hb, fun h => absurd h h0, fun _ => rfl⟩
  have out1 : Hid (sortedN s = 0 → ∀ w' n0, RowKit.Below w.heap.size w w' → w.heap.size ≤ n0 → ChainAt w' n0 (.slice none 0 0) [s] → NewAns s w (.returned (.tuple #[.pointer (some ⟨n0, 0, none⟩), .nilIface])) w') := fun h0 w' n0 hb hn hc => ⟨hb, fun _ => ⟨n0, rfl, hn, hc⟩, fun h => absurd h0 h⟩
  generalize sortedN s = n at *
  clear h fs ns
  go_enter Tryz.func6, Tryz.ntmps6
  go_wp2_with fail
  refine (HS _ Hs.out).mono ?_
  rintro e w1 ⟨rfl, hb1⟩
  cases hn : (n == 0)
  · have h0 : ¬ n = 0 := by simpa using hn
    have H0 : Hid _ := out0.out h0
    clear h0 out0 out1
    go_wp2_with fail
    exact bodyPost_ret (v := .tuple #[.pointer none, errV n]) (by simp [results, Tryz.results6, go_sem]) rfl (H0.out _ hb1)
  · have h0 : n = 0 := by simpa using hn
    have hset : Hid (IsSet s) := hz.out h0
    have H1 : Hid _ := out1.out h0
    clear out1
    subst h0
    rw [show errV 0 = .nilIface from rfl]
    clear hn hz out0
    go_wp2_with fail
    refine (HO _ (Hs.out.below hb1) hset.out).mono ?_
    rintro e w2 ⟨ad', c', rfl, hsl, hb2⟩
    have hB : Hid (RowKit.Below w.heap.size w w2) := bstep hb1 hb2
    have Hsl : Hid (SlT w2 ad' s) := hsl
    clear hsl hb1 hb2
    go_wp2_with fail
    exact bodyPost_ret (v := .tuple #[.pointer (some ⟨w2.heap.size, 0, none⟩), .nilIface]) (by simp [results, Tryz.results6, go_sem]) rfl (H1.out _ w2.heap.size (bstep hB.out (balloc _ _)) hB.out.size (chain_new hset.out Hsl.out))

set_option maxHeartbeats 2000000 in
set_option maxRecDepth 100000 in
theorem GraphBad_any (n0 : Nat) (v : Value) (gs : List (List Tr)) (i : Int) (w : World) (h : ChainAt w n0 v gs) (hn : gs.length ≤ 1000) (hi : i < 0 ∨ ((gs.length - 1 : Nat) : Int) < i) :
    Calls Tryz.prog 10 #[.pointer (some ⟨n0, 0, none⟩), .int .i64 i] w fun e w' => e = .returned (.tuple #[.slice none 0 0, .iface 89 (.int .i64 1)]) ∧ w' = w := by
  have HL := CLen_any n0 v gs w h hn
  generalize hm : gs.length - 1 = m at *
  clear h hn hm
  by_cases h0 : i < 0
  · have b0 : decide (i < 0) = true := by simpa using h0
    clear hi
    go_enter Tryz.func10, Tryz.ntmps10
    go_wp2_with fail
    exact bodyPost_ret (v := .tuple #[.slice none 0 0, .iface 89 (.int .i64 1)]) (by simp [results, Tryz.results10, go_sem]) rfl ⟨rfl, rfl⟩
  · have b0 : decide (i < 0) = false := by simpa using h0
    have hi2 : (m : Int) < i := by rcases hi with h | h; exact absurd h h0; exact h
    have b1 : decide ((m : Int) < i) = true := by simpa using hi2
    clear hi
    go_enter Tryz.func10, Tryz.ntmps10
    go_wp2_with fail
    refine HL.mono ?_
    rintro e w1 ⟨rfl, rfl⟩
    go_wp2_with fail
    exact bodyPost_ret (v := .tuple #[.slice none 0 0, .iface 89 (.int .i64 1)]) (by simp [results, Tryz.results10, go_sem]) rfl ⟨rfl, rfl⟩

set_option maxHeartbeats 2000000 in
set_option maxRecDepth 100000 in
theorem GraphNil_any (n0 : Nat) (s : List Tr) (w : World) (h : ChainAt w n0 (.slice none 0 0) [s]) :
    Calls Tryz.prog 10 #[.pointer (some ⟨n0, 0, none⟩), .int .i64 0] w (TOk w s) := by
  have HL := CLen_any n0 _ _ w h (by simp)
  obtain ⟨s', r', bd, cb, xs, e0, hset, harr, hsl, _, _⟩ := h
  obtain ⟨rfl, rfl⟩ := List.cons.inj e0
  obtain ⟨c0, c1, _, _⟩ := arr_cell harr
  have n200 : s.length ≤ 200 := (hset s (by simp)).1
  have Hs : Hid (SlT w bd s) := hsl
  have hnil : Hid (w.ownsRow w.heap.size 88 9 (.slice none 0 0) ([] : List Tr).length (cellsT [])) := World.ownsRow_nil _ _ _ _
  clear e0 hset harr hsl
  go_enter Tryz.func10, Tryz.ntmps10
  go_wp2_with fail
  refine HL.mono ?_
  rintro e w1 ⟨rfl, rfl⟩
  go_wp2_with (at_builtin; refine wpList_append_list _ rfl _ _ rfl w1.heap.size _ [] s bd cb rfl rfl hnil.out Hs.out (by simp; omega) (Nat.le_refl _) ?_; clear hnil; intro v1 w2 hown1 hb1; have hown1' : w2.ownsRow w1.heap.size 88 9 v1 s.length (cellsT s) := hown1; clear hown1; obtain ⟨ad', c', rfl, hsl⟩ := own_slT hown1'; have Hsl : Hid (SlT w2 ad' s) := hsl; clear hsl hown1'; have c1' : w2.cell? ⟨n0, 1, none⟩ = some (.slice none 0 0) := (hb1.cell (World.block_lt_of_cell? _ _ c1)).trans c1)
  go_loopw [6, 32] (fun v i wr => v = .slice ad' s.length c' ∧ i = .int .i64 0 ∧ wr = w2) (fun _ i wr => 0)
  case atStart => exact ⟨rfl, rfl, rfl⟩
  case round =>
    obtain ⟨rfl, rfl, rfl⟩ := hrel
    go_wp2_with fail
    exact bodyPost_ret (v := .tuple #[.slice ad' s.length c', .nilIface]) (by simp [results, Tryz.results10, go_sem]) rfl ⟨hb1, ad', c', rfl, Hsl.out⟩

set_option maxHeartbeats 4000000 in
set_option maxRecDepth 100000 in
theorem GraphSome_any (n0 bl cap : Nat) (gs : List (List Tr)) (i : Nat) (g : List Tr) (w : World) (h : ChainAt w n0 (.slice (some ⟨bl, 0, none⟩) (gs.length - 1) cap) gs) (hn : gs.length ≤ 1000) (hi : gs[i]? = some g) :
    Calls Tryz.prog 10 #[.pointer (some ⟨n0, 0, none⟩), .int .i64 i] w (TOk w g) := by
  have HL := CLen_any n0 _ _ w h hn
  have HC : Hid (ChainAt w n0 (.slice (some ⟨bl, 0, none⟩) (gs.length - 1) cap) gs) := h
  have hlt : i < gs.length := (List.getElem?_eq_some_iff.1 hi).1
  obtain ⟨s, r, bd, cb, xs, e0, hset, harr, hsl, hsh, hly⟩ := h
  have hcap : gs.length - 1 ≤ cap := by
    have e := hly.1.trans (stepsL_len _)
    rcases hsh with ⟨h, _⟩ | ⟨_, _, h, _, _, h2⟩
    · simp at h
    · obtain ⟨_, _, rfl⟩ := Value.slice.inj h
      rw [← e]
      exact h2.le
  obtain ⟨c0, c1, _, _⟩ := arr_cell harr
  have hs0 : Hid (gs[0]? = some s) := by show _ = _; rw [e0]; rfl
  have n200 : s.length ≤ 200 := (hset s (by rw [e0]; simp)).1
  have Hs : Hid (SlT w bd s) := hsl
  have hnil : Hid (w.ownsRow w.heap.size 88 9 (.slice none 0 0) ([] : List Tr).length (cellsT [])) := World.ownsRow_nil _ _ _ _
  have Hi : Hid (gs[i]? = some g) := hi
  have b0 : decide ((i : Int) < 0) = false := by simp
  have him : i ≤ gs.length - 1 := by omega
  have b1 : decide (((gs.length - 1 : Nat) : Int) < (i : Int)) = false := by simp; omega
  have hic : (i : Int) ≤ (cap : Int) := by omega
  clear e0 hset harr hsl hsh hly hi
  generalize hm : gs.length - 1 = m at *
  have Hm : Hid (gs.length - 1 = m) := hm
  have hm' : m ≤ 1000 := by omega
  clear hm hn hlt
  go_enter Tryz.func10, Tryz.ntmps10
  go_wp2_with fail
  refine HL.mono ?_
  rintro e w1 ⟨rfl, rfl⟩
  go_wp2_with (at_builtin; refine wpList_append_list _ rfl _ _ rfl w1.heap.size _ [] s bd cb rfl rfl hnil.out Hs.out (by simp; omega) (Nat.le_refl _) ?_; clear hnil; intro v1 w2 hown1 hb1; have hown1' : w2.ownsRow w1.heap.size 88 9 v1 s.length (cellsT s) := hown1; clear hown1; obtain ⟨ad', c', rfl, hsl⟩ := own_slT hown1'; have Hsl : Hid (SlT w2 ad' s) := hsl; clear hsl hown1'; have c1' : w2.cell? ⟨n0, 1, none⟩ = some (.slice (some ⟨bl, 0, none⟩) m cap) := (hb1.cell (World.block_lt_of_cell? _ _ c1)).trans c1)
  go_loopw [6, 32] (fun v j wr => ∃ (k : Nat) (u : List Tr) (ad : Option Addr) (c : Nat), k ≤ i ∧ j = .int .i64 k ∧ v = .slice ad u.length c ∧ Hid (gs[k]? = some u) ∧ Hid (SlT wr ad u) ∧ Hid (RowKit.Below w1.heap.size w1 wr)) (fun _ j wr => i - (intOf j).toNat)
  case atStart => exact ⟨0, s, ad', c', Nat.zero_le _, rfl, rfl, hs0, Hsl, hb1⟩
  case round =>
    obtain ⟨k, u, ad, c, hk, rfl, rfl, hgk, hsu, hbr⟩ := hrel
    by_cases hki : k < i
    · have hk1 : k + 1 < gs.length := by have := Hm.out; omega
      have hu1 : gs[k + 1]? = some gs[k + 1] := List.getElem?_eq_getElem hk1
      have HCr := HC.out.below hbr.out
      have su := HCr.set hgk.out
      have su1 := HCr.set hu1
      obtain ⟨bl', cap', a1, c1, a2, c2, e1, e5, e6, d0, d1, q1, q2⟩ := HCr.step hgk.out hu1
      clear e5 e6
      obtain ⟨e2, e3, e4⟩ := Value.slice.inj e1
      obtain ⟨rfl, _⟩ := Addr.mk.inj (Option.some.inj e2)
      have HA := fun W h1 h2 h4 => ApplyGood_any ad a1 a2 c c1 c2 u (gs[k + 1]'hk1) W h1 h2 h4 su su1
      have Hq : Hid (SlT wr a1 (lessL gs[k + 1] u) ∧ SlT wr a2 (lessL u gs[k + 1])) := ⟨q1, q2⟩
      have hg1 : Hid (gs[k + 1]? = some gs[k + 1]) := hu1
      clear e1 e2 e3 e4 q1 q2 su su1 HCr hu1
      generalize gs[k + 1] = u1 at *
      generalize lessL u1 u = L1 at *
      generalize lessL u u1 = L2 at *
      have i0' : (0 : Int) ≤ (k : Int) := by omega
      have i1 : (k : Int) < (i : Int) := by omega
      clear c1'
      go_wp2_with fail
      refine (HA _ (hsu.out.below (balloc _ _)) (Hq.out.1.below (balloc _ _)) (Hq.out.2.below (balloc _ _))).mono ?_
      rintro e w3 ⟨hb3, a3, c3, rfl, hs3⟩
      have Hs3 : Hid (SlT w3 a3 u1) := hs3
      have hB3 : Hid (RowKit.Below w1.heap.size w1 w3) := bstep (bstep hbr.out (balloc _ _)) hb3
      clear hs3 hb3
      go_wp2_with fail
      go_roundw
      case rel => exact ⟨k + 1, u1, a3, c3, by omega, by go_num, rfl, hg1, Hs3, hB3⟩
      case measure => simp [intOf]; omega
    · obtain rfl : k = i := by omega
      have e := hgk.out.symm.trans Hi.out
      obtain rfl := Option.some.inj e
      clear e
      go_wp2_with fail
      exact bodyPost_ret (v := .tuple #[.slice ad u.length c, .nilIface]) (by simp [results, Tryz.results10, go_sem]) rfl ⟨hbr.out, ad, c, rfl, hsu.out⟩

/-- Graph behind i layers -/
theorem Graph_any (n0 : Nat) (v : Value) (gs : List (List Tr)) (i : Nat) (g : List Tr) (w : World) (h : ChainAt w n0 v gs) (hn : gs.length ≤ 1000) (hi : gs[i]? = some g) :
    Calls Tryz.prog 10 #[.pointer (some ⟨n0, 0, none⟩), .int .i64 i] w (TOk w g) := by
  have h' := h
  obtain ⟨s, r, bd, cb, xs, rfl, _, _, _, hsh, hly⟩ := h'
  have e := hly.1.trans (stepsL_len _)
  rcases hsh with ⟨rfl, rfl⟩ | ⟨bl, cap, rfl, _⟩
  · have hr : r = [] := by simp at e; exact List.eq_nil_of_length_eq_zero e.symm
    subst hr
    have hi' := (List.getElem?_eq_some_iff.1 hi).1
    simp at hi'
    subst hi'
    simp at hi
    subst hi
    exact GraphNil_any n0 _ w h
  · rw [e] at h
    exact GraphSome_any n0 bl cap _ i g w h hn hi
end Go.Proofs.YtnlcfnpcjkcdmadGreatDoor

/- chain.Push: a layer more. -/
namespace Go.Proofs.YtnlcfnpcjkcdmadGreatDoor
open Go Go.RowKit Go.Proofs
set_option synthInstance.maxSize 1000
attribute [local go_sem] eql_errV neq_errV guard_errV

theorem infoLy : (Tryz.prog.info? 31).map (fun i => (i.zero, i.size, i.bytes)) = some (some (.agg #[.slice none 0 0, .slice none 0 0]), 2, 48) := by kernel_rfl

theorem BoxL.store {W : World} {b : Nat} {v0 v1 : Value} (h : BoxL W b v0 v1) {n0 o : Nat} (hn : n0 ≠ b) (u : Value) : BoxL (W.setCell ⟨n0, o, none⟩ u) b v0 v1 :=
  ⟨by rw [World.cell?_setCell_other _ _ _ _ (by simp <;> omega)]; exact h.1, by rw [World.cell?_setCell_other _ _ _ _ (by simp <;> omega)]; exact h.2⟩
theorem BoxL.grown {W W' : World} {b : Nat} {v0 v1 : Value} {row : Option Nat} (h : BoxL W b v0 v1) (hg : W.grownBy W' row) (hn : some b ≠ row) : BoxL W' b v0 v1 := by
  have hB : b < W.heap.size := World.block_lt_of_cell? W _ h.1
  have k : ∀ o, W'.cell? ⟨b, o, none⟩ = W.cell? ⟨b, o, none⟩ := fun o => World.cell?_of_block (w := W) (hg.block b hB hn)
  exact ⟨(k 0).trans h.1, (k 1).trans h.2⟩
theorem BoxL.alloc {W : World} {b : Nat} {v0 v1 : Value} (h : BoxL W b v0 v1) (o : Obj) : BoxL (W.alloc o) b v0 v1 := h.below (balloc _ _)

/-- append of a layer that lies in a new block -/
theorem chain_push' {W : World} {n0 : Nat} {v : Value} {gs : List (List Tr)} (h : ChainAt W n0 v gs) (g u : List Tr) (hg : gs.getLast? = some g) (su : IsSet u) (hn : gs.length ≤ 900) (a1 a2 : Option Addr) (c1 c2 : Nat) (q1 : SlT W a1 (btw g u).1) (q2 : SlT W a2 (btw g u).2) (ty : TypeId) :
    ∃ v' W9, (Builtin.append_ #[40, 40] ty #[v, .slice (some ⟨W.heap.size, 0, none⟩) 1 1]).run Tryz.prog (W.alloc (.cells #[.slice a1 (btw g u).1.length c1, .slice a2 (btw g u).2.length c2] 31)) = .ok v' W9 ∧ (W.alloc (.cells #[.slice a1 (btw g u).1.length c1, .slice a2 (btw g u).2.length c2] 31)).grownBy W9 v.ownBlock ∧ W9.cell? ⟨n0, 1, none⟩ = some v ∧ W9.frozen? ⟨n0, 1, none⟩ = false ∧ ChainAt (W9.setCell ⟨n0, 1, none⟩ v') n0 v' (gs ++ [u]) ∧ Off n0 v W (W9.setCell ⟨n0, 1, none⟩ v') ∧ NewV W v v' ∧ ∃ ad cap, v' = .slice ad gs.length cap := by
  obtain ⟨i0, hi, hz⟩ := Option.map_eq_some_iff.1 infoLy
  simp only [Prod.mk.injEq] at hz
  obtain ⟨hz0, hz1, hz2⟩ := hz
  have hb := balloc W (.cells #[.slice a1 (btw g u).1.length c1, .slice a2 (btw g u).2.length c2] 31)
  obtain ⟨v', W9, hr, hgr, k1, k3, hC, hO, hN, hf⟩ := chain_push (P := Tryz.prog) (h.below hb) g u hg su hn (.slice a1 (btw g u).1.length c1, .slice a2 (btw g u).2.length c2) ⟨a1, c1, a2, c2, rfl, q1.below hb, q2.below hb⟩ ⟨W.heap.size, 0, none⟩ 1 (fun j y hj => by
    have h2 : j < 2 := (List.getElem?_eq_some_iff.1 hj).1
    rw [Addr.add_lit]
    rcases (by omega : j = 0 ∨ j = 1) with rfl | rfl
    all_goals
      simp at hj
      subst hj
      simp) 40 ty 31 i0 Tryz.underlying40 hi hz0 hz1 (by omega)
  refine ⟨v', W9, hr, hgr, k1, k3, hC, (Off.of_below (v := v) hb).trans hO (Or.inl rfl), ?_, hf⟩
  rcases hN with h | h
  · exact Or.inl h
  · exact Or.inr fun g' hg' => by have := h g' hg'; simp at this; omega

/-- what Push tells -/
def pushN (gs : List (List Tr)) (g : List Tr) (l : Ly) : Int := if 31 ≤ gs.length then 4 else applyN g l.1 l.2
def PushAns (n0 : Nat) (v : Value) (gs : List (List Tr)) (g : List Tr) (l : Ly) (w : World) (e : Ending) (w' : World) : Prop :=
  e = .returned (errV (pushN gs g l)) ∧ ∃ gs' v', ChainAt w' n0 v' gs' ∧ Off n0 v w w' ∧ NewV w v v' ∧ (pushN gs g l = 0 → ∃ u, gs' = gs ++ [u] ∧ IsSet u ∧ l = btw g u) ∧ (pushN gs g l ≠ 0 → gs' = gs ∧ v' = v)
theorem PushAns.no {n0 : Nat} {v : Value} {gs : List (List Tr)} {g : List Tr} {l : Ly} {w w' : World} {n : Int} (h : ChainAt w n0 v gs) (hb : RowKit.Below w.heap.size w w') (hn : pushN gs g l = n) (h0 : n ≠ 0) : PushAns n0 v gs g l w (.returned (errV n)) w' :=
  ⟨by rw [hn], gs, v, h.below hb, Off.of_below hb, Or.inl rfl, fun e => absurd (hn.symm.trans e) h0, fun _ => ⟨rfl, rfl⟩⟩

theorem PushAns.yes {n0 : Nat} {v v' : Value} {gs : List (List Tr)} {g u : List Tr} {l : Ly} {w w3 w5 w' : World} (h0 : pushN gs g l = 0) (hu : IsSet u ∧ l = btw g u) (hb : RowKit.Below w.heap.size w w3) (hb' : RowKit.Below w3.heap.size w3 w5) (h : ChainAt w' n0 v' (gs ++ [u]) ∧ Off n0 v w5 w' ∧ NewV w5 v v') : PushAns n0 v gs g l w (.returned .nilIface) w' := by
  refine ⟨by rw [h0]; rfl, gs ++ [u], v', h.1, (Off.of_below (bstep hb hb')).trans h.2.1 (Or.inl rfl), ?_, fun _ => ⟨u, rfl, hu.1, hu.2⟩, fun hne => absurd h0 hne⟩
  rcases h.2.2 with h | h
  · exact Or.inl h
  · exact Or.inr fun g' hg' => Nat.le_trans (bstep hb hb').size (h g' hg')

set_option maxHeartbeats 8000000 in
set_option maxRecDepth 100000 in
theorem Push_any (n0 : Nat) (v : Value) (gs : List (List Tr)) (g : List Tr) (a1 a2 : Option Addr) (c1 c2 : Nat) (l : Ly) (w : World) (h : ChainAt w n0 v gs) (hn : gs.length ≤ 900) (hg : gs.getLast? = some g) (h1 : SlT w a1 l.1) (h2 : SlT w a2 l.2) (f1 : ∀ x ∈ l.1, fitTr x) (f2 : ∀ x ∈ l.2, fitTr x) (n1 : l.1.length ≤ 9223372036854775807) (n2 : l.2.length ≤ 9223372036854775807) :
    Calls Tryz.prog 8 #[.pointer (some ⟨n0, 0, none⟩), .agg #[.slice a1 l.1.length c1, .slice a2 l.2.length c2]] w (PushAns n0 v gs g l w) := by
  have hp := h.pos
  have hlt := h.lt
  have hgi : gs[gs.length - 1]? = some g := by rw [← List.getLast?_eq_getElem?]; exact hg
  have sg : IsSet g := h.set hgi
  have HL := fun W hW => CLen_any n0 v gs W hW (by omega)
  have HG := fun W hW => Graph_any n0 v gs (gs.length - 1) g W hW (by omega) hgi
  have HA := fun W sd cs h0 h1 h2 => LApply_any sd a1 a2 cs c1 c2 g l.1 l.2 W h0 h1 h2 sg.fit f1 f2 (setLen sg) n1 n2
  have H0 : Hid (ChainAt w n0 v gs) := h
  have H12 : Hid (SlT w a1 l.1 ∧ SlT w a2 l.2) := ⟨h1, h2⟩
  have hB0 : Hid (RowKit.Below w.heap.size w (w.alloc (.cells #[.slice a1 l.1.length c1, .slice a2 l.2.length c2] 31))) := balloc _ _
  have Hg : Hid (gs.getLast? = some g) := hg
  have no := fun (w' : World) (n : Int) (hb : RowKit.Below w.heap.size w w') (e : pushN gs g l = n) (h0 : n ≠ 0) => PushAns.no (g := g) (l := l) h hb e h0
  have No : Hid _ := no
  have HN : Hid (gs.length ≤ 900) := hn
  have Hp : Hid (pushN gs g l = if 31 ≤ gs.length then 4 else applyN g l.1 l.2) := rfl
  have Ok : Hid (applyN g l.1 l.2 = 0 → ∀ m, ApplyAns g l.1 l.2 m → IsSet m ∧ l = btw g m) := fun e m hm => apply_is e (hm.1 e)
  clear h h1 h2 f1 f2 n1 n2 hgi sg hg no
  by_cases h30 : 31 ≤ gs.length
  · have e4 : Hid (pushN gs g l = 4) := by show _ = _; rw [Hp.out, if_pos h30]
    have b0 : decide ((30 : Int) ≤ ((gs.length - 1 : Nat) : Int)) = true := by simp; omega
    generalize hm : gs.length - 1 = m at *
    clear hm hn hp h30 HG HA
    go_enter Tryz.func8, Tryz.ntmps8
    go_wp2_with fail
    refine (HL _ (H0.out.below hB0.out)).mono ?_
    rintro e w1 ⟨rfl, rfl⟩
    go_wp2_with fail
    exact bodyPost_ret (v := .iface 89 (.int .i64 4)) (by simp [results, Tryz.results8, go_sem]) rfl (No.out _ 4 hB0.out e4.out (by decide))
  · have ep : Hid (pushN gs g l = applyN g l.1 l.2) := by show _ = _; rw [Hp.out, if_neg h30]
    have b0 : decide ((30 : Int) ≤ ((gs.length - 1 : Nat) : Int)) = false := by simp; omega
    generalize hm : gs.length - 1 = m at *
    clear hm hn hp h30
    generalize hnn : applyN g l.1 l.2 = n at *
    have Hnn : Hid (applyN g l.1 l.2 = n) := hnn
    clear hnn
    go_enter Tryz.func8, Tryz.ntmps8
    go_wp2_with fail
    refine (HL _ (H0.out.below hB0.out)).mono ?_
    rintro e w1 ⟨rfl, rfl⟩
    go_wp2_with fail
    refine (HL _ (H0.out.below hB0.out)).mono ?_
    rintro e w1 ⟨rfl, rfl⟩
    go_wp2_with fail
    refine (HG _ (H0.out.below hB0.out)).mono ?_
    rintro e w2 ⟨hb2, ad, cd, rfl, hs2⟩
    obtain ⟨x0, x1, hz1, _, _⟩ := twobox hb2
    have hB2 : Hid (RowKit.Below w.heap.size w w2) := bstep hB0.out hb2
    have Hs2 : Hid (SlT w2 ad g) := hs2
    clear hb2 hs2 HG HL
    go_wp2_with fail
    refine (HA _ ad cd Hs2.out (H12.out.1.below hB2.out) (H12.out.2.below hB2.out)).mono ?_
    rintro e w3 ⟨hb3, u, ad3, cd3, rfl, hs3, hu⟩
    have hB3 : Hid (RowKit.Below w.heap.size w w3) := bstep hB2.out hb3
    have y0 : w3.cell? ⟨w.heap.size, 0, none⟩ = some (.slice a1 l.1.length c1) := (hb3.cell (World.block_lt_of_cell? _ _ x0)).trans x0
    have y1 : w3.cell? ⟨w.heap.size, 1, none⟩ = some (.slice a2 l.2.length c2) := (hb3.cell (World.block_lt_of_cell? _ _ x1)).trans x1
    have Hu : Hid (ApplyAns g l.1 l.2 u) := hu
    clear x0 x1 hb3 hs3 hu HA Hs2 hB2
    cases hn0 : (n == 0)
    · have hne : ¬ n = 0 := by simpa using hn0
      have Hne : Hid (¬ n = 0) := hne
      clear hne
      go_wp2_with fail
      refine bodyPost_ret (v := errV n) (by simp [results, Tryz.results8, go_sem]) rfl ?_
      exact PushAns.no H0.out hB3.out ep.out Hne.out
    · have h0 : n = 0 := by simpa using hn0
      subst h0
      rw [show errV 0 = .nilIface from rfl]
      obtain ⟨su, hl⟩ := Ok.out rfl u Hu.out
      have Su : Hid (IsSet u ∧ l = btw g u) := ⟨su, hl⟩
      have Se : Hid (IsSet l.1 ∧ IsSet l.2) := by
        have sg : IsSet g := by
          have := orN_zero.1 Hnn.out
          exact sortedN_set.1 this.1
        show IsSet l.1 ∧ IsSet l.2
        rw [hl]
        exact ⟨lessSet su, lessSet sg⟩
      have HO1 := fun W hW => own_any a1 c1 l.1 W hW Se.out.1
      have HO2 := fun W hW => own_any a2 c2 l.2 W hW Se.out.2
      have HC3 : Hid (ChainAt w3 n0 v gs) := H0.out.below hB3.out
      have c1v := HC3.out.c1
      have Hq : Hid (SlT w3.drew a1 l.1 ∧ SlT w3.drew a2 l.2) := ⟨H12.out.1.below hB3.out.drew, H12.out.2.below hB3.out.drew⟩
      clear hn0 su hl Hu Ok No
      go_wp2_with fail
      go_region_law (first
        | (refine step_append_eq rfl (.tmp 36) (.tmp 44) 40 rfl _ _ rfl rfl hr9 ?_)
        | (go_simp; go_at_call_of 37 (Value.slice a1 l.1.length c1); refine (HO1 _ Hq.out.1).mono ?_; rintro e w4 ⟨b1, d1, rfl, hs4, hb4⟩; have k4 : w4.cell? ⟨n0, 1, none⟩ = some v := (hb4.cell (World.block_lt_of_cell? _ _ c1v)).trans c1v; have z0 : w4.cell? ⟨w.heap.size, 0, none⟩ = some (.slice a1 l.1.length c1) := (hb4.cell (World.block_lt_of_cell? _ _ y0)).trans y0; have z1 : w4.cell? ⟨w.heap.size, 1, none⟩ = some (.slice a2 l.2.length c2) := (hb4.cell (World.block_lt_of_cell? _ _ y1)).trans y1)
        | (go_simp; go_at_call_of 37 (Value.slice a2 l.2.length c2); refine (HO2 _ (Hq.out.2.below hb4)).mono ?_; rintro e w5 ⟨b2, d2, rfl, hs5, hb5⟩; have k5 : w5.cell? ⟨n0, 1, none⟩ = some v := (hb5.cell (World.block_lt_of_cell? _ _ k4)).trans k4; have k5z : n0 < w5.heap.size := World.block_lt_of_cell? _ _ k5; have hB5 : Hid (RowKit.Below w3.heap.size w3 w5) := bstep ((RowKit.Below.refl _ w3).drew.trans hb4) hb5; obtain ⟨v', w9, hr9, hg9, k9, f9, hc9, ho9, hn9, adv, capv, hv9⟩ := chain_push' (HC3.out.below hB5.out) g u Hg.out Su.out.1 HN.out b1 b2 d1 d2 (by rw [← Su.out.2]; exact hs4.below hb5) (by rw [← Su.out.2]; exact hs5) 40; rw [← Su.out.2] at hr9; have hfin : Hid (ChainAt (w9.setCell ⟨n0, 1, none⟩ v') n0 v' (gs ++ [u]) ∧ Off n0 v w5 (w9.setCell ⟨n0, 1, none⟩ v') ∧ NewV w5 v v') := ⟨hc9, ho9, hn9⟩; clear hc9 ho9 hn9 hg9; subst hv9))
      all_goals go_wp2_with fail
      all_goals
        exact bodyPost_ret (v := .nilIface) (by simp [results, Tryz.results8, go_sem]) rfl (PushAns.yes ep.out Su.out hB3.out hB5.out hfin.out)
end Go.Proofs.YtnlcfnpcjkcdmadGreatDoor
