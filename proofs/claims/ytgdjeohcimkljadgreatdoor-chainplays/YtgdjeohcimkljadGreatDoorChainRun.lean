/- append, copy and clear over a row of layers. -/
import Derived.Test.YtgdjeohcimkljadGreatDoorChainPlain
import Derived.Laws.IdiomStrings
namespace Go.Proofs.YtgdjeohcimkljadGreatDoor
open Go Go.RowKit Go.Proofs
set_option synthInstance.maxSize 1000

theorem sl_one {u : Value} (h : slB u = true) : u.oneCell' = true := by cases u <;> first | rfl | (simp [slB] at h)
theorem Sheet.new (w : World) (cs : Array Value) (e : TypeId) (cap : Nat) (xs : List Vp) (hs : cs.size = cap * 2) (hm : cap ≤ maxLen) (hle : xs.length ≤ cap) (hall : ∀ (j : Nat) u, cs[j]? = some u → slB u = true) (hat : ∀ (j : Nat) u, (cellsL xs)[j]? = some u → cs[j]? = some u) : Sheet (w.alloc (.cells cs e)) w.heap.size cap xs := by
  refine ⟨hle, hm, fun j hj => ?_, fun j hj => ?_, fun j u hu => ?_⟩
  · have := World.frozen?_alloc_mark w cs e 0 0 j
    rw [this]
    simp
  · rw [World.cell?_alloc_mark]
    have hb := hall j cs[j] (Array.getElem?_eq_getElem (by omega))
    rw [Array.getElem?_eq_getElem (by omega)]
    generalize cs[j]'(by omega) = u at *
    cases u <;> first | exact ⟨_, _, _, rfl⟩ | (simp [slB] at hb)
  · rw [World.cell?_alloc_mark]
    exact hat j u hu
theorem cellsL_sl {w : World} {g cap : Nat} {xs : List Vp} (h : Sheet w g cap xs) : ∀ (j : Nat) u, (cellsL xs)[j]? = some u → slB u = true := fun j u hu => by
  have hj := (List.getElem?_eq_some_iff.1 hu).1
  rw [cellsL_len] at hj
  have := h.le
  obtain ⟨a, n, c, e⟩ := h.sl j (by omega)
  rw [h.at_ j u hu] at e
  obtain rfl := Option.some.inj e
  rfl

theorem setCells_size (g : Nat) : ∀ (vs : List Value) (p : Nat) (w : World), (w.setCells g p vs).heap.size = w.heap.size
  | [], _, _ => rfl
  | v :: r, p, w => by rw [World.setCells, setCells_size g r]; simp [World.setCell]
theorem setCells_other (g k : Nat) (hk : k ≠ g) : ∀ (vs : List Value) (p : Nat) (w : World), (w.setCells g p vs).heap[k]? = w.heap[k]?
  | [], _, _ => rfl
  | v :: r, p, w => by rw [World.setCells, setCells_other g k hk r, Below.heap_setCell _ _ _ _ (by exact hk)]
theorem setCells_os (g : Nat) : ∀ (vs : List Value) (p : Nat) (w : World), (w.setCells g p vs).os = w.os ∧ (w.setCells g p vs).tape = w.tape ∧ (w.setCells g p vs).output = w.output
  | [], _, _ => ⟨rfl, rfl, rfl⟩
  | v :: r, p, w => setCells_os g r (p + 1) (w.setCell ⟨g, p, none⟩ v)
theorem grown_setCells (w : World) (g p : Nat) (vs : List Value) : w.grownBy (w.setCells g p vs) (some g) :=
  ⟨(setCells_os g vs p w).1, (setCells_os g vs p w).2.1, (setCells_os g vs p w).2.2, by rw [setCells_size]; exact Nat.le_refl _, fun k _ hk => setCells_other g k (fun e => hk (by rw [e])) vs p w⟩

theorem zeroCells2 (n : Nat) : (Builtin.zeroCells (Value.cells (.agg #[.slice none 0 0, .slice none 0 0])) n).toList = List.replicate (n * 2) (.slice none 0 0) := by
  have e : (Value.cells (.agg #[.slice none 0 0, .slice none 0 0])) = #[.slice none 0 0, .slice none 0 0] := rfl
  rw [e]
  apply List.ext_getElem
  · simp [Builtin.zeroCells]
  · intro k h1 h2
    simp [Builtin.zeroCells]
    have : k % 2 = 0 ∨ k % 2 = 1 := by omega
    rcases this with e | e <;> simp [e]

section
variable {P : Program} {w : World}

theorem run_append_sheet {base : Nat} {v : Value} {xs : List Vp} (t ty e : TypeId) (i : TypeInfo) (ht : P.underlying t = some (.slice e)) (hi : P.info? e = some i) (hz : i.zero = some (.agg #[.slice none 0 0, .slice none 0 0])) (hs : i.size = 2) (hby : i.bytes ≤ 100)
    (h : SheetV w base v xs) (x : Vp) (hx1 : slB x.1 = true) (hx2 : slB x.2 = true) (a : Addr) (c : Nat) (ha : ∀ (j : Nat) u, ([x.1, x.2] : List Value)[j]? = some u → w.cell? (a.add j) = some u) (hb : base ≤ w.heap.size) (hn : xs.length ≤ 1000) :
    ∃ v' w', (Builtin.append_ #[t, t] ty #[v, .slice (some a) 1 c]).run P w = .ok v' w' ∧ SheetV w' base v' (xs ++ [x]) ∧ w.grownBy w' v.ownBlock ∧ RowsOn w w' ∧ (v'.ownBlock = v.ownBlock ∨ v'.ownBlock = some w.heap.size) ∧ ∃ ad cap, v' = .slice ad (xs.length + 1) cap := by
  have hnews : ([x.1, x.2] : List Value).length = 1 * i.size := by rw [hs]; rfl
  have hzs : ∀ k, (Builtin.zeroCells (Value.cells (.agg #[.slice none 0 0, .slice none 0 0])) k).size = k * 2 := fun k => by rw [size_zeroCells]; rfl
  have hzz : ∀ (k j : Nat) u, (Builtin.zeroCells (Value.cells (.agg #[.slice none 0 0, .slice none 0 0])) k)[j]? = some u → slB u = true := by
    intro k j u hu
    rw [← Array.getElem?_toList, zeroCells2] at hu
    rw [List.eq_of_mem_replicate (List.mem_of_getElem? hu)]
    rfl
  have newsl : ∀ (j : Nat) u, ([x.1, x.2] : List Value)[j]? = some u → slB u = true := fun j u hu => by
    have := List.mem_of_getElem? hu
    simp at this
    rcases this with rfl | rfl <;> assumption
  rcases h with ⟨rfl, rfl⟩ | ⟨g, cap, rfl, hg, hlt, h⟩
  · have hr := run_append_nil (P := P) w t ty e i _ ht hi hz a 1 c [x.1, x.2] hnews ha (by omega) (by omega) (by omega)
    refine ⟨_, _, hr, Or.inr ⟨w.heap.size, grownCap w 1 0 e, rfl, hb, by simp, ?_⟩, ⟨rfl, rfl, rfl, by simp, fun k hk _ => Below.heap_alloc w.drew _ k hk⟩, RowsOn.of_below ((Below.refl _ _).drew.alloc (Nat.le_refl _) _), Or.inr rfl, _, _, rfl⟩
    have hge := grownCap_ge w 1 0 e
    refine Sheet.new w.drew _ e _ _ (by simp [hzs]; omega) (grownCap_le_maxLen w 1 0 e (by simp [maxLen])) (by simpa using hge) (fun j u hu => ?_) (fun j u hu => ?_)
    · rw [Array.getElem?_append] at hu
      split at hu
      · exact newsl j u (by simpa using hu)
      · exact hzz _ _ u hu
    · have hj := (List.getElem?_eq_some_iff.1 hu).1
      rw [Array.getElem?_append, if_pos (by simpa [cellsL] using hj)]
      simpa [cellsL] using hu
  · by_cases hroom : xs.length + 1 ≤ cap
    · have hr := run_append_room_cells (P := P) w t ty e i ht hi g 0 xs.length cap a 1 c [x.1, x.2] hnews ha (fun u hu => by simp at hu; rcases hu with rfl | rfl; exact sl_one hx1; exact sl_one hx2) hroom
        (fun j hj => by rw [hs]; simp at hj; obtain ⟨a', n', c', e'⟩ := h.sl (0 + xs.length * 2 + j) (by omega); rw [e']; rfl) (fun j hj => by rw [hs]; simp at hj; exact h.free _ (by omega))
      rw [hs, Nat.zero_add] at hr
      refine ⟨_, _, hr, Or.inr ⟨g, cap, by simp, hg, by rw [setCells_size]; exact hlt, ?_⟩, grown_setCells w g _ _, fun ad l hl => h.puts _ _ (by simp; omega) hl, Or.inl rfl, _, _, rfl⟩
      · refine h.write _ _ (fun u hu => by simp at hu; rcases hu with rfl | rfl <;> assumption) (by simp; omega) _ (by simp; omega) (fun j u hu => ?_)
        rw [cellsL_app, List.getElem?_append, cellsL_len] at hu
        split at hu
        · rw [if_neg (by omega)]; exact hu
        · have hj := (List.getElem?_eq_some_iff.1 hu).1
          simp [cellsL] at hj
          rw [if_pos ⟨by omega, by simp; omega⟩]
          simpa [cellsL] using hu
    · have hr := run_append_grow (P := P) w t ty e i _ ht hi hz ⟨g, 0, none⟩ xs.length cap (cellsL xs) (by rw [cellsL_len, hs]) (fun j u hu => by rw [Addr.add_lit, Nat.zero_add]; exact h.at_ j u hu) a 1 c [x.1, x.2] hnews ha (by omega) (by omega) (growslice_fits (by omega) (by have := Nat.mul_le_mul (show xs.length + 1 ≤ 1001 by omega) hby; omega))
      have hge := grownCap_ge w (xs.length + 1) cap e
      refine ⟨_, _, hr, Or.inr ⟨w.heap.size, grownCap w (xs.length + 1) cap e, by simp, hb, by simp, ?_⟩, ⟨rfl, rfl, rfl, by simp, fun k hk _ => Below.heap_alloc w.drew _ k hk⟩, RowsOn.of_below ((Below.refl _ _).drew.alloc (Nat.le_refl _) _), Or.inr rfl, _, _, rfl⟩
      refine Sheet.new w.drew _ e _ _ (by simp [hzs, cellsL_len]; omega) (grownCap_le_maxLen w _ _ e (by simp [maxLen]; omega)) (by simpa using hge) (fun j u hu => ?_) (fun j u hu => ?_)
      · rw [Array.getElem?_append] at hu
        split at hu
        · rw [Array.getElem?_append] at hu
          split at hu
          · exact cellsL_sl h j u (by simpa using hu)
          · exact newsl _ u (by simpa using hu)
        · exact hzz _ _ u hu
      · have hj := (List.getElem?_eq_some_iff.1 hu).1
        rw [cellsL_len] at hj
        simp at hj
        rw [Array.getElem?_append, if_pos (by simp [cellsL_len]; omega)]
        rw [cellsL_app] at hu
        simpa [cellsL] using hu

/-- copy, where elements have two cells -/
theorem run_copy2 (dT sT ty elem : TypeId) (b o dLen dCap : Nat) (a : Addr) (sLen sCap : Nat) (cs : List Value) (hu : P.underlying dT = some (.slice elem)) (hs : (P.info? elem).map (·.size) = some 2) (hn : cs.length = Nat.min sLen dLen * 2)
    (hsrc : ∀ j v, cs[j]? = some v → w.cell? (a.add j) = some v) (hc : ∀ j, j < cs.length → (w.cell? ⟨b, o + j, none⟩).isSome = true) (hf : ∀ j, j < cs.length → w.frozen? ⟨b, o + j, none⟩ = false) (h1 : ∀ v ∈ cs, v.oneCell' = true) :
    (Builtin.copy_ #[dT, sT] ty #[.slice (some ⟨b, o, none⟩) dLen dCap, .slice (some a) sLen sCap]).run P w = .ok (goInt (Nat.min sLen dLen)) (w.setCells b o cs) := by
  have hl := run_loadCells_list (P := P) w a cs hsrc
  have hst := run_storeCells_cells (P := P) b o cs 0 w (by simpa using hc) (by simpa using hf) h1
  rw [Nat.add_zero] at hst
  rw [hn] at hl
  cases hq : P.info? elem with
  | none => simp [hq] at hs
  | some i =>
    have hi : i.size = 2 := by simpa [hq] using hs
    simp [Builtin.copy_, run_underlying hu, Builtin.lenOf, Builtin.firstCells, sizeOf, typeInfo, hq, hi, hl, hst]
theorem run_copy2_none (dT sT ty elem : TypeId) (d a : Option Addr) (dLen dCap sCap : Nat) (hu : P.underlying dT = some (.slice elem)) (hs : (P.info? elem).map (·.size) = some 2) :
    (Builtin.copy_ #[dT, sT] ty #[.slice d dLen dCap, .slice a 0 sCap]).run P w = .ok (goInt 0) w := by
  cases hq : P.info? elem with
  | none => simp [hq] at hs
  | some i =>
    have hl : ∀ (x : Addr), (loadCells x 0).run P w = .ok #[] w := fun x => by simpa using run_loadCells_list (P := P) w x [] (by simp)
    have h0 : Nat.min 0 dLen = 0 := Nat.zero_min _
    cases d <;> cases a <;> simp [Builtin.copy_, run_underlying hu, Builtin.lenOf, Builtin.firstCells, sizeOf, typeInfo, hq, storeCells, hl]

/-- clear, where elements have two cells -/
theorem run_clear2 (t ty e : TypeId) (ht : P.underlying t = some (.slice e)) (hz : ∀ w, (zeroValue e).run P w = .ok (.agg #[.slice none 0 0, .slice none 0 0]) w) (b o n c : Nat) (hc : ∀ j, j < n * 2 → (w.cell? ⟨b, o + j, none⟩).isSome = true) (hf : ∀ j, j < n * 2 → w.frozen? ⟨b, o + j, none⟩ = false) :
    (Builtin.clear_ #[t] ty #[.slice (some ⟨b, o, none⟩) n c]).run P w = .ok (.tuple #[]) (w.setCells b o (List.replicate (n * 2) (.slice none 0 0))) := by
  have hzc := zeroCells2 n
  have hst := run_storeCells_cells (P := P) b o (List.replicate (n * 2) (.slice none 0 0)) 0 w (by simpa using hc) (by simpa using hf) (by intro v hv'; rw [List.eq_of_mem_replicate hv']; rfl)
  rw [Nat.add_zero] at hst
  cases n with
  | zero => simp [Builtin.clear_, run_underlying ht, World.setCells]
  | succ m => simp [Builtin.clear_, run_underlying ht, hz, hzc, hst]

/-- at a step of a region that draws: append, copy, whose runs are known -/
theorem step_append_eq {ops : Array Oper} {o : Oper} {a : Act} {K : Act → World → Prop} {Q : Exit → Act → World → Prop} {E : Prop} (hgd : o.guard = none) (s x : Operand) (t : TypeId)
    (ho : o.op = .call { callee := .builtin .append, args := #[s, x], argTypes := #[t, t] }) (v u : Value) (hs : a.eval s = v) (hx : a.eval x = u) {v' : Value} {w' : World}
    (hr : (Builtin.append_ #[t, t] o.type #[v, u]).run P w = .ok v' w') (h : K (a.put o.dst v') w') : if Region.wanted o (yielded ops a.tmps) = true then Oper.wp P o a w K Q else E := by
  rw [if_pos (by simp [Region.wanted, hgd])]
  unfold Oper.wp execOp
  simp only [ho, resolve, invoke, builtin, Sem.run_bind, Sem.run_pure, Result.andThen_ok, List.map_toArray, List.map_cons, List.map_nil, hs, hx, hr]
  exact h
theorem step_copy_eq {ops : Array Oper} {o : Oper} {a : Act} {K : Act → World → Prop} {Q : Exit → Act → World → Prop} {E : Prop} (hgd : o.guard = none) (s x : Operand) (t t' : TypeId)
    (ho : o.op = .call { callee := .builtin .copy, args := #[s, x], argTypes := #[t, t'] }) (v u : Value) (hs : a.eval s = v) (hx : a.eval x = u) {v' : Value} {w' : World}
    (hr : (Builtin.copy_ #[t, t'] o.type #[v, u]).run P w = .ok v' w') (h : K (a.put o.dst v') w') : if Region.wanted o (yielded ops a.tmps) = true then Oper.wp P o a w K Q else E := by
  rw [if_pos (by simp [Region.wanted, hgd])]
  unfold Oper.wp execOp
  simp only [ho, resolve, invoke, builtin, Sem.run_bind, Sem.run_pure, Result.andThen_ok, List.map_toArray, List.map_cons, List.map_nil, hs, hx, hr]
  exact h
theorem wpList_copy_eq {ops : Array Oper} {rest : List Oper} {o : Oper} {a : Act} {Q : Exit → Act → World → Prop} (hgd : o.guard = none) (s x : Operand) (t t' : TypeId)
    (ho : o.op = .call { callee := .builtin .copy, args := #[s, x], argTypes := #[t, t'] }) (v u : Value) (hs : a.eval s = v) (hx : a.eval x = u) {v' : Value} {w' : World}
    (hr : (Builtin.copy_ #[t, t'] o.type #[v, u]).run P w = .ok v' w') (h : wpList P ops Q rest (a.put o.dst v') w') : wpList P ops Q (o :: rest) a w :=
  wpList_plain hgd fun K hK => by
    unfold Oper.wp execOp
    simp only [ho, resolve, invoke, builtin, Sem.run_bind, Sem.run_pure, Result.andThen_ok, List.map_toArray, List.map_cons, List.map_nil, hs, hx, hr]
    exact hK _ _ h
end
end Go.Proofs.YtgdjeohcimkljadGreatDoor
