/- A chain in memory: a layer more, a layer less, layers made one. -/
import Derived.Test.YtgdjeohcimkljadGreatDoorChainRun
import Derived.OwnWalk
namespace Go.Proofs.YtgdjeohcimkljadGreatDoor
open Go Go.RowKit Go.Proofs
set_option synthInstance.maxSize 1000

/-- the row is the same, or a new one -/
def NewV (w : World) (v v' : Value) : Prop := v'.ownBlock = v.ownBlock ∨ ∀ g, v'.ownBlock = some g → w.heap.size ≤ g

theorem arr_cell {w : World} {n0 : Nat} {a b : Value} {T : TypeId} (h : w.heap[n0]? = some (.cells #[a, b] T)) : w.cell? ⟨n0, 0, none⟩ = some a ∧ w.cell? ⟨n0, 1, none⟩ = some b ∧ w.frozen? ⟨n0, 0, none⟩ = false ∧ w.frozen? ⟨n0, 1, none⟩ = false := by
  refine ⟨?_, ?_, ?_, ?_⟩ <;> simp [World.cell?, World.frozen?, h]

/-- behind a store of another list of layers -/
theorem chain_store {W W9 : World} {n0 : Nat} {v v' : Value} {s : List Tr} {bd : Option Addr} {cb : Nat} {gs' : List (List Tr)} {xs' : List Vp} {r' : List (List Tr)}
    (hgs : gs' = s :: r') (hset : ∀ g ∈ gs', IsSet g) (harr : W.heap[n0]? = some (.cells #[.slice bd s.length cb, v] 68)) (hsl : SlT W bd s) (hv : ∃ ad n cap, v = .slice ad n cap) (hne : v.ownBlock ≠ some n0) (hne' : v'.ownBlock ≠ some n0)
    (hg : W.grownBy W9 v.ownBlock) (hr : RowsOn W W9) (hsh : SheetV W9 (n0 + 1) v' xs') (hly : LaysV W9 xs' (stepsL gs')) :
    W9.cell? ⟨n0, 1, none⟩ = some v ∧ W9.frozen? ⟨n0, 1, none⟩ = false ∧ ChainAt (W9.setCell ⟨n0, 1, none⟩ v') n0 v' gs' ∧ Off n0 v W (W9.setCell ⟨n0, 1, none⟩ v') := by
  have hlt : n0 < W.heap.size := (Array.getElem?_eq_some_iff.1 harr).1
  have h9 : W9.heap[n0]? = some (.cells #[.slice bd s.length cb, v] 68) := (hg.block n0 hlt (fun e => hne e.symm)).trans harr
  obtain ⟨_, k1, _, k3⟩ := arr_cell h9
  obtain ⟨ad, n, cap, rfl⟩ := hv
  have hrow : RowsOn W9 (W9.setCell ⟨n0, 1, none⟩ v') := fun ad l hl => hl.put k1 v'
  have hs : ∀ k, k ≠ n0 → (W9.setCell ⟨n0, 1, none⟩ v').heap[k]? = W9.heap[k]? := fun k hk => Below.heap_setCell _ _ _ _ hk
  have hz : (W9.setCell ⟨n0, 1, none⟩ v').heap.size = W9.heap.size := by simp [World.setCell]
  refine ⟨k1, k3, ⟨s, r', bd, cb, xs', hgs, hset, ?_, hrow _ _ (hr _ _ hsl), hsh.keep (by rw [hz]; exact Nat.le_refl _) (fun g hg' => hs g (fun e => hne' (by rw [← e]; exact hg'))), hly.rows hrow⟩, ⟨hg.os, hg.tape, hg.output, by rw [hz]; exact hg.size, fun k hk h1 h2 => (hs k h1).trans (hg.block k hk (fun e => h2 e.symm)), hr.trans hrow⟩⟩
  have := heap_setCell_same W9 n0 1 _ _ v' h9
  simpa using this

section
variable {P : Program}
theorem chain_push {W : World} {n0 : Nat} {v : Value} {gs : List (List Tr)} (h : ChainAt W n0 v gs) (g u : List Tr) (hg : gs.getLast? = some g) (su : IsSet u) (hn : gs.length ≤ 900) (x : Vp) (hx : LayV W x (btw g u)) (a : Addr) (c : Nat) (ha : ∀ (j : Nat) y, ([x.1, x.2] : List Value)[j]? = some y → W.cell? (a.add j) = some y)
    (t ty e : TypeId) (i : TypeInfo) (ht : P.underlying t = some (.slice e)) (hi : P.info? e = some i) (hz : i.zero = some (.agg #[.slice none 0 0, .slice none 0 0])) (hs : i.size = 2) (hby : i.bytes ≤ 100) :
    ∃ v' W9, (Builtin.append_ #[t, t] ty #[v, .slice (some a) 1 c]).run P W = .ok v' W9 ∧ W.grownBy W9 v.ownBlock ∧ W9.cell? ⟨n0, 1, none⟩ = some v ∧ W9.frozen? ⟨n0, 1, none⟩ = false ∧ ChainAt (W9.setCell ⟨n0, 1, none⟩ v') n0 v' (gs ++ [u]) ∧ Off n0 v W (W9.setCell ⟨n0, 1, none⟩ v') ∧ NewV W v v' ∧ ∃ ad cap, v' = .slice ad gs.length cap := by
  obtain ⟨s, r, bd, cb, xs, rfl, hset, harr, hsl, hsh, hly⟩ := h
  have hlt : n0 < W.heap.size := (Array.getElem?_eq_some_iff.1 harr).1
  have hlen := hly.1.trans (stepsL_len _)
  obtain ⟨a1, c1, a2, c2, rfl, q1, q2⟩ := hx
  obtain ⟨v', W9, hr, hsh', hgr, hrow, hob, ad, cap, hv'⟩ := run_append_sheet (P := P) t ty e i ht hi hz hs hby hsh (.slice a1 _ c1, .slice a2 _ c2) rfl rfl a c ha (by omega) (by rw [hlen]; omega)
  have hv : ∃ ad n cap, v = .slice ad n cap := by
    rcases hsh with ⟨rfl, _⟩ | ⟨g', cap', rfl, _⟩
    · exact ⟨_, _, _, rfl⟩
    · exact ⟨_, _, _, rfl⟩
  have hne : v.ownBlock ≠ some n0 := fun e => by have := (hsh.lt n0 e).1; omega
  have hne' : v'.ownBlock ≠ some n0 := fun e => by have := (hsh'.lt n0 e).1; omega
  obtain ⟨k1, k3, hC, hO⟩ := chain_store (gs' := (s :: r) ++ [u]) (r' := r ++ [u]) (xs' := xs ++ [(.slice a1 (btw g u).1.length c1, .slice a2 (btw g u).2.length c2)]) rfl (fun m hm => by
    rcases List.mem_append.1 hm with h | h
    · exact hset m h
    · rw [List.mem_singleton.1 h]; exact su) harr hsl hv hne hne' hgr hrow hsh' (by
    rw [stepsL_snoc _ g u hg]
    exact (hly.rows hrow).snoc ⟨a1, c1, a2, c2, rfl, hrow _ _ q1, hrow _ _ q2⟩)
  refine ⟨v', W9, hr, hgr, k1, k3, hC, hO, ?_, ad, cap, by rw [hv', hlen]; simp⟩
  rcases hob with h | h
  · exact Or.inl h
  · exact Or.inr fun g' hg' => by rw [h] at hg'; exact Nat.le_of_eq (Option.some.inj hg')
end

/-- layers from f to t made one: the row behind slices.Replace -/
theorem chain_squash {W W9 : World} {n0 : Nat} {v v' : Value} {gs : List (List Tr)} {xs : List Vp} {s : List Tr} {r : List (List Tr)} {bd : Option Addr} {cb : Nat} {f t : Nat} {g u : List Tr} {x : Vp}
    (hgs : gs = s :: r) (hset : ∀ g ∈ gs, IsSet g) (harr : W.heap[n0]? = some (.cells #[.slice bd s.length cb, v] 68)) (hsl : SlT W bd s) (hv : ∃ ad n cap, v = .slice ad n cap) (hne : v.ownBlock ≠ some n0) (hob : v'.ownBlock = v.ownBlock)
    (hly : LaysV W xs (stepsL gs)) (h1 : 1 ≤ f) (h2 : f ≤ t) (hg : gs[f - 1]? = some g) (hu : gs[t]? = some u) (hx : LayV W x (btw g u))
    (hgr : W.grownBy W9 v.ownBlock) (hr : RowsOn W W9) (hsh : SheetV W9 (n0 + 1) v' (xs.take (f - 1) ++ x :: xs.drop t)) :
    W9.cell? ⟨n0, 1, none⟩ = some v ∧ W9.frozen? ⟨n0, 1, none⟩ = false ∧ ChainAt (W9.setCell ⟨n0, 1, none⟩ v') n0 v' (gs.take f ++ gs.drop t) ∧ Off n0 v W (W9.setCell ⟨n0, 1, none⟩ v') := by
  have ht : t < gs.length := (List.getElem?_eq_some_iff.1 hu).1
  have hl := hly.1.trans (stepsL_len _)
  refine chain_store (r' := r.take (f - 1) ++ gs.drop t) (xs' := xs.take (f - 1) ++ x :: xs.drop t) ?_ (fun m hm => ?_) harr hsl hv hne (by rw [hob]; exact hne) hgr hr hsh ?_
  · obtain ⟨f', rfl⟩ : ∃ f', f = f' + 1 := ⟨f - 1, by omega⟩
    rw [hgs]
    simp
  · rcases List.mem_append.1 hm with h | h
    · exact hset m (List.mem_of_mem_take h)
    · exact hset m (List.mem_of_mem_drop h)
  · rw [stepsL_squash gs f t g u h1 h2 hg hu]
    exact (hly.rows hr).cut (hx.rows hr) (f - 1) t (by omega) (by rw [hl]; omega)
/-- the top layer taken off: the row behind slices.Delete -/
theorem chain_pop {W W9 : World} {n0 : Nat} {v v' : Value} {gs : List (List Tr)} {xs : List Vp} {s : List Tr} {r : List (List Tr)} {bd : Option Addr} {cb : Nat}
    (hgs : gs = s :: r) (hr0 : r ≠ []) (hset : ∀ g ∈ gs, IsSet g) (harr : W.heap[n0]? = some (.cells #[.slice bd s.length cb, v] 68)) (hsl : SlT W bd s) (hv : ∃ ad n cap, v = .slice ad n cap) (hne : v.ownBlock ≠ some n0) (hob : v'.ownBlock = v.ownBlock)
    (hly : LaysV W xs (stepsL gs)) (hgr : W.grownBy W9 v.ownBlock) (hr : RowsOn W W9) (hsh : SheetV W9 (n0 + 1) v' xs.dropLast) :
    W9.cell? ⟨n0, 1, none⟩ = some v ∧ W9.frozen? ⟨n0, 1, none⟩ = false ∧ ChainAt (W9.setCell ⟨n0, 1, none⟩ v') n0 v' gs.dropLast ∧ Off n0 v W (W9.setCell ⟨n0, 1, none⟩ v') := by
  refine chain_store (r' := r.dropLast) (xs' := xs.dropLast) ?_ (fun m hm => hset m ((List.dropLast_sublist _).subset hm)) harr hsl hv hne (by rw [hob]; exact hne) hgr hr hsh ?_
  · rw [hgs, List.dropLast_cons_of_ne_nil hr0]
  · rw [stepsL_init]
    exact (hly.rows hr).init
end Go.Proofs.YtgdjeohcimkljadGreatDoor
