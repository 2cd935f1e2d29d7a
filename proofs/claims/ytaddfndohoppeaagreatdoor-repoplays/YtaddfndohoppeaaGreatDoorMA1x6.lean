import Derived.Shelf.SlGeneric
import Derived.Shelf.SlIter.Sorted
import Derived.Test.YtaddfndohoppeaaGreatDoorProg
import Derived.Test.YtaddfndohoppeaaGreatDoorMA1x5

/- The contracts of maps.Keys and slices.Sorted at string keys, laid at this program by program. -/
namespace Go.Proofs
open Go.Shelf
def Tryz.keysS_ren : Go.Shelf.Ren := ⟨fun | 7 => 43 | 10 => 67 | n => n, fun | 23 => 69 | 26 => 9 | 3 => 3 | 28 => 94 | 0 => 0 | 27 => 93 | 33 => 74 | 4 => 4 | n => n, fun | n => n⟩
theorem Tryz.keysS : Go.Proofs.SlLaysZ.n7 Tryz.prog Tryz.keysS_ren := {
  mixed := by kernel_rfl
  f7 := ⟨Tryz.f43.name, by decide, Tryz.func43.trans (congrArg some (by kernel_rfl))⟩
  f10 := ⟨Tryz.f67.name, by decide, Tryz.func67.trans (congrArg some (by kernel_rfl))⟩
  t0 := Tryz.underlying0
  a0 := Tryz.isAgg0
  z0 := Tryz.sizeOf0
  v0 := Tryz.zeroValue0
  t4 := Tryz.underlying4
  a4 := Tryz.isAgg4
  z4 := Tryz.sizeOf4
  v4 := Tryz.zeroValue4
  t23 := Tryz.underlying69
  a23 := Tryz.isAgg69
  z23 := Tryz.sizeOf69
  v23 := Tryz.zeroValue69
  t26 := Tryz.underlying9
  a26 := Tryz.isAgg9
  z26 := Tryz.sizeOf9
  v26 := Tryz.zeroValue9
  t27 := Tryz.underlying93
  a27 := Tryz.isAgg93
  z27 := Tryz.sizeOf93
  v27 := Tryz.zeroValue93
  t28 := Tryz.underlying94
  a28 := Tryz.isAgg94
  z28 := Tryz.sizeOf94
  v28 := Tryz.zeroValue94
  t33 := Tryz.underlying74
  a33 := Tryz.isAgg74
  z33 := Tryz.sizeOf74
  v33 := Tryz.zeroValue74 }
def Tryz.sortedS_ren : Go.Shelf.Ren := ⟨fun | 6 => 42 | 8 => 65 | 9 => 66 | 11 => 97 | 13 => 99 | 12 => 98 | 23 => 133 | 24 => 134 | 14 => 124 | 15 => 125 | 16 => 126 | 17 => 127 | 18 => 128 | 19 => 129 | 20 => 130 | 21 => 131 | 22 => 132 | 25 => 155 | 26 => 156 | 27 => 157 | 28 => 158 | 29 => 159 | 30 => 160 | 31 => 173 | n => n, fun | 26 => 9 | 28 => 94 | 24 => 23 | 0 => 0 | 3 => 3 | 37 => 166 | 48 => 208 | 50 => 210 | 4 => 4 | 40 => 201 | 39 => 200 | 45 => 78 | 5 => 5 | 9 => 9 | 51 => 224 | 55 => 228 | 57 => 237 | 58 => 38 | 33 => 74 | n => n, fun | n => n⟩
theorem Tryz.sortedS : Go.Proofs.SlLaysZ.n6 Tryz.prog Tryz.sortedS_ren := {
  mixed := by kernel_rfl
  f6 := ⟨Tryz.f42.name, by decide, Tryz.func42.trans (congrArg some (by kernel_rfl))⟩
  f8 := ⟨Tryz.f65.name, by decide, Tryz.func65.trans (congrArg some (by kernel_rfl))⟩
  f11 := ⟨Tryz.f97.name, by decide, Tryz.func97.trans (congrArg some (by kernel_rfl))⟩
  t0 := Tryz.underlying0
  a0 := Tryz.isAgg0
  z0 := Tryz.sizeOf0
  v0 := Tryz.zeroValue0
  t24 := Tryz.underlying23
  a24 := Tryz.isAgg23
  z24 := Tryz.sizeOf23
  v24 := Tryz.zeroValue23
  t26 := Tryz.underlying9
  a26 := Tryz.isAgg9
  z26 := Tryz.sizeOf9
  v26 := Tryz.zeroValue9
  t28 := Tryz.underlying94
  a28 := Tryz.isAgg94
  z28 := Tryz.sizeOf94
  v28 := Tryz.zeroValue94
  i26 := by kernel_rfl }
end Go.Proofs

/- repo's Refs: the branches by name. -/
namespace Go.Proofs.YtaddfndohoppeaaGreatDoor
open Go Go.RowKit Go.Proofs Go.Maps Go.Sort Go.Shelf
set_option synthInstance.maxSize 1000

theorem sortsQ (m : Nat) : AnyZ.SortsIn Tryz.prog Tryz.sortedS_ren Fence.wide m :=
  ⟨fun blk off cap ss W hH hblk hsz => callsIn_wide.2 (Tryz.slices_Sort_string blk off cap ss W hH hblk hsz),
   fun p cap W => callsIn_wide.2 (Tryz.slices_Sort_string_none p cap W)⟩
def namesOf (l : List Rf) : List (List UInt8) := l.map fun x => x.1
theorem names_rise {l : List Rf} (h : ByName l) : (namesOf l).Pairwise (fun a b => a < b) := by
  unfold namesOf
  rw [List.pairwise_map]
  exact h
theorem has_len {w : World} {b n : Nat} {D : DataW Unit} (o : w.ownsMap Tryz.prog 9 (plainElem Tryz.prog 3) b n D) {x : List UInt8} (h : Maps.has D (.string x) = true) : x.length ≤ maxLen := by
  obtain ⟨es, rfl, hko⟩ := o.keysOf
  obtain ⟨p, hp, hs⟩ := List.any_eq_true.1 h
  obtain ⟨v, hv⟩ := hko p hp
  rw [WideAt.sameKey_eq hs] at hv
  obtain ⟨y, _, hy, hl⟩ := Maps.keyOf_str Tryz.underlying9 hv
  cases hy
  exact hl
theorem name_len {b : List UInt8} (h : nameR b = true) : b.length ≤ 10 := by
  unfold nameR at h
  simp at h
  exact h.2.1
/-- the keys of the branches' map, sorted, are their names -/
theorem keys_names {w : World} {b m : Nat} {D : DataW Unit} {l : List Rf} (o : w.ownsMap Tryz.prog 9 (plainElem Tryz.prog 3) b m D) (f : BrD D l) (hl : ByName l) (hn : ∀ x ∈ l, nameR x.1 = true) {ss : List (List UInt8)} (hp : ss.Perm (strKeys D)) : ss.mergeSort (fun x y => decide (x ≤ y)) = namesOf l := by
  have h1 : (namesOf l).Perm (strKeys D) := by
    refine Collected.perm (left := fun _ => false) ⟨(names_rise hl).imp fun h e => by rw [e] at h; exact List.lt_irrefl _ h, fun x => ?_⟩ o keyedSO Tryz.underlying9 fun _ => rfl
    simp only [and_true]
    constructor
    · intro hx
      obtain ⟨y, hy, rfl⟩ := List.mem_map.1 hx
      have hlen := name_len (hn y hy)
      rw [(f _ (by unfold maxLen; omega)).1]
      have : atR l y.1 = (y.2 : Int) := (atR_mem hl).2 hy
      rw [this]
      simp
    · intro hx
      rw [(f _ (has_len o hx)).1] at hx
      have h0 : 0 ≤ atR l x := by simpa using hx
      obtain ⟨k, hk⟩ := patR_some h0
      exact List.mem_map.2 ⟨(x, k), (atR_mem hl).1 hk, rfl⟩
  have h2 := hp.trans h1.symm
  have tr : ∀ a b c : List UInt8, decide (a ≤ b) = true → decide (b ≤ c) = true → decide (a ≤ c) = true := fun a b c h1 h2 => by simp only [decide_eq_true_eq] at *; exact List.le_trans h1 h2
  have to : ∀ a b : List UInt8, (decide (a ≤ b) || decide (b ≤ a)) = true := fun a b => by simp only [Bool.or_eq_true, decide_eq_true_eq]; exact List.le_total a b
  refine List.Perm.eq_of_pairwise (le := fun a b => decide (a ≤ b) = true) (fun a b _ _ h1 h2 => ?_) (List.pairwise_mergeSort tr to ss) ?_ ((List.mergeSort_perm ss _).trans h2)
  · simp only [decide_eq_true_eq] at h1 h2; exact List.le_antisymm h1 h2
  · exact (names_rise hl).imp fun h => by simp only [decide_eq_true_eq]; exact List.le_of_lt h
/-- a look-up of a branch that is there -/
theorem look_br1 {w : World} {bm : Nat} {l : List Rf} (h : BrMap w bm l) (t : List UInt8) (ht : t.length ≤ maxLen) {k : Nat} (hk : atR l t = (k : Int)) :
    (Instr.lookup 69 (.map (some bm)) (.string ⟨t.toArray⟩) false).run Tryz.prog w = .ok (.int .i64 (k : Int)) w := by
  obtain ⟨D, o1, f1, hs⟩ := h
  obtain ⟨c, hrun, hc, _⟩ := o1.lookup_int keyedSO Tryz.underlying69 Tryz.underlying3 (zeroNum w) (keyS t ht)
  rw [(f1 t ht).2] at hc
  have e : brI l t = (k : Int) := by rw [brI_pos (by omega), hk]
  rw [e] at hc
  simp only [DataW.lit.injEq, Lit.int.injEq, true_and] at hc
  rw [hrun, ← hc]
def encRf (x : Rf) : List Value := [.string ⟨x.1.toArray⟩, .int .i64 (x.2 : Int)]
def cellsRf (l : List Rf) : List Value := l.flatMap encRf
theorem cellsRf_len (l : List Rf) : (cellsRf l).length = l.length * 2 := by
  induction l with
  | nil => rfl
  | cons x r ih =>
    have e : cellsRf (x :: r) = encRf x ++ cellsRf r := by simp [cellsRf]
    rw [e, List.length_append, ih]
    simp [encRf]
    omega
theorem cellsRf_at (l : List Rf) (k : Nat) (hk : k < l.length) : (cellsRf l)[k * 2]? = some (.string ⟨l[k].1.toArray⟩) ∧ (cellsRf l)[k * 2 + 1]? = some (.int .i64 (l[k].2 : Int)) := by
  induction l generalizing k with
  | nil => simp at hk
  | cons x r ih =>
    have e : cellsRf (x :: r) = encRf x ++ cellsRf r := by simp [cellsRf]
    rw [e]
    cases k with
    | zero => simp [encRf]
    | succ n =>
      have h2 : (encRf x).length = 2 := rfl
      obtain ⟨q1, q2⟩ := ih n (by simpa using hk)
      rw [List.getElem?_append_right (by rw [h2]; omega), List.getElem?_append_right (by rw [h2]; omega), h2, show (n + 1) * 2 - 2 = n * 2 by omega, show (n + 1) * 2 + 1 - 2 = n * 2 + 1 by omega]
      simpa using ⟨q1, q2⟩
theorem infoRf : (Tryz.prog.info? 84).map (fun i => (i.zero, i.size, i.bytes)) = some (some (.agg #[.string ⟨#[]⟩, .int .i64 0]), 2, 24) := by kernel_rfl
theorem newRf (W : World) (x : Rf) : ∀ (j : Nat) u, (encRf x)[j]? = some u → (W.alloc (.cells #[.string ⟨x.1.toArray⟩, .int .i64 (x.2 : Int)] 84)).cell? (Addr.add ⟨W.heap.size, 0, none⟩ j) = some u := fun j u hu => by
  have hj : j < 2 := by have := (List.getElem?_eq_some_iff.1 hu).1; simpa [encRf] using this
  rw [Addr.add_lit]
  rcases (by omega : j = 0 ∨ j = 1) with rfl | rfl
  · simp [encRf] at hu; subst hu; go_simp
  · simp [encRf] at hu; subst hu; go_simp
/-- one more in the row -/
theorem rf_push {W : World} {base : Nat} {v : Value} {l : List Rf} (h : W.ownsRow base 84 2 v l.length (cellsRf l)) (x : Rf) (hl : l.length ≤ 1000) (hb : base ≤ W.heap.size) (ty : TypeId) :
    ∃ g cap W9, (Builtin.append_ #[32, 32] ty #[v, .slice (some ⟨W.heap.size, 0, none⟩) 1 1]).run Tryz.prog (W.alloc (.cells #[.string ⟨x.1.toArray⟩, .int .i64 (x.2 : Int)] 84)) = .ok (.slice (some ⟨g, 0, none⟩) (l.length + 1) cap) W9 ∧
      W9.ownsRow base 84 2 (.slice (some ⟨g, 0, none⟩) (l.length + 1) cap) (l ++ [x]).length (cellsRf (l ++ [x])) ∧ ∀ {w : World}, RowKit.Below base w W → RowKit.Below base w W9 := by
  obtain ⟨i0, hi0, hz⟩ := Option.map_eq_some_iff.1 infoRf
  simp only [Prod.mk.injEq] at hz
  obtain ⟨hz0, hz1, hz2⟩ := hz
  obtain ⟨g, cap, W9, hrun, hrow, hgr, hat, hlt9⟩ := run_append_lies (P := Tryz.prog) (W.alloc (.cells #[.string ⟨x.1.toArray⟩, .int .i64 (x.2 : Int)] 84)) 32 ty base 84 i0 (.agg #[.string ⟨#[]⟩, .int .i64 0]) 2 24 Tryz.underlying32 hi0 hz0 hz1 hz2 rfl (by decide) v l.length (cellsRf l) (h.alloc _) ⟨W.heap.size, 0, none⟩ 1 1 (encRf x) rfl (newRf W x) (by simp [encRf, Value.oneCell']) (by decide) (by unfold maxLen; omega) (by omega) (by simp; omega) _ rfl
  refine ⟨g, cap, W9, hrun, ?_, fun {w} hw => ?_⟩
  · rw [List.length_append]
    have e : cellsRf (l ++ [x]) = cellsRf l ++ encRf x := by simp [cellsRf]
    rw [e]
    exact hrow
  · have h1 : RowKit.Below base w (W.alloc (.cells #[.string ⟨x.1.toArray⟩, .int .i64 (x.2 : Int)] 84)) := hw.trans ((balloc W _).mono hb)
    exact h1.grown hgr (by simp; omega) (fun j e => (h.lt j e).1)
/-- what is answered of branches -/
def RefsOut (w : World) (l : List Rf) (e : Ending) (w' : World) : Prop := ∃ ad ca, e = .returned (.slice ad l.length ca) ∧ SlF w' ad l ∧ RowKit.Below w.heap.size w w'
theorem refs_out {w w' : World} {base : Nat} {v : Value} {l : List Rf} (h : w'.ownsRow base 84 2 v l.length (cellsRf l)) (hb : RowKit.Below w.heap.size w w') : ∃ ad ca, v = .slice ad l.length ca ∧ RefsOut w l (.returned (.slice ad l.length ca)) w' := by
  by_cases hn : 0 < l.length
  · obtain ⟨g, cap, rfl, hcap, hx⟩ := prow_at h hn
    refine ⟨_, _, rfl, _, _, rfl, fun _ => ⟨g, 0, rfl, fun i hi => ?_⟩, hb⟩
    obtain ⟨q1, q2⟩ := cellsRf_at l i hi
    rw [Nat.zero_add]
    exact ⟨hx _ _ q1, hx _ _ q2⟩
  · have hl : l = [] := List.eq_nil_of_length_eq_zero (by omega)
    subst hl
    rcases h.2 with ⟨rfl, _⟩ | ⟨g, cap, cur, rfl, _⟩
    · exact ⟨none, 0, rfl, none, 0, rfl, fun h => absurd rfl h, hb⟩
    · exact ⟨_, cap, rfl, _, cap, rfl, fun h => absurd rfl h, hb⟩

set_option maxHeartbeats 1000000 in
/-- the names, sorted, in a new list -/
theorem Qkeys_any (w : World) (bm : Nat) (l : List Rf) (h : BrMap w bm l) (hl : ByName l) (hn : ∀ x ∈ l, nameR x.1 = true) (h8 : l.length ≤ 8) :
    Calls Tryz.prog 42 #[.func (.func 67) #[] #[.pointer (some ⟨w.heap.size, 0, none⟩)]] (w.alloc (.cells #[.map (some bm)] 69)) fun e w' => ∃ ad ca, e = .returned (.slice ad l.length ca) ∧ (∀ (j : Nat) (hj : j < l.length), ∃ g, ad = some ⟨g, 0, none⟩ ∧ w'.cell? ⟨g, j, none⟩ = some (.string ⟨l[j].1.toArray⟩)) ∧ RowKit.Below w.heap.size w w' := by
  obtain ⟨D, o, f, hs⟩ := h
  have hbl := o.lt
  have hle := o.size_le
  have hseq : SeqGives Fence.wide 2 Tryz.prog 67 #[.pointer (some ⟨w.heap.size, 0, none⟩)] encStr (fun ss => ss.Perm (strKeys D)) (Maps.size D) (w.alloc (.cells #[.map (some bm)] 69)) :=
    AnyZ.keys_gives (ρ := Tryz.keysS_ren) { Tryz.keysS with } Fence.wide _ trivial rfl (by omega) w.heap.size bm 100 D _ (by simp) (by simp) (o.alloc _)
  have cS := AnyZ.sorted_in Tryz.sortedS Fence.wide 5 trivial trivial trivial trivial rfl (by omega) (sortsQ _) (enters_of Tryz.func66 (by kernel_rfl) rfl) 67 #[.pointer (some ⟨w.heap.size, 0, none⟩)] trivial (enters_of Tryz.func67 (by kernel_rfl) rfl) _ _ (by unfold maxLen; omega) (by omega) _ hseq
  change CallsIn _ _ Tryz.prog 42 _ _ _ at cS
  refine (callsIn_wide.1 cS).mono ?_
  rintro e w' ⟨v, ss, rfl, hS, hrow, hnil, hb⟩
  have hids := keys_names o f hl hn hS
  have hlen : ss.length = l.length := by
    have : (ss.mergeSort (fun x y => decide (x ≤ y))).length = ss.length := (List.mergeSort_perm ss _).length_eq
    rw [hids] at this
    simpa [namesOf] using this.symm
  rw [hids] at hrow
  have hbb : RowKit.Below w.heap.size w w' := ((RowKit.Below.refl _ w).alloc (Nat.le_refl _) _).trans (hb.mono (by simp))
  obtain ⟨ad, ca, rfl⟩ := prow_form hrow
  rw [hlen] at hrow ⊢
  refine ⟨ad, ca, rfl, fun j hj => ?_, hbb⟩
  obtain ⟨g, cap, e, _, hx⟩ := prow_at hrow (by omega)
  obtain ⟨rfl, _, _⟩ := Value.slice.inj e
  refine ⟨g, rfl, hx j _ ?_⟩
  simp [namesOf, encStr, hj]
theorem QKeysF_any (mb : Option Nat) (W : World) : Calls Tryz.prog 43 #[.map mb] W fun e w' => e = .returned (.func (.func 67) #[] #[.pointer (some ⟨W.heap.size, 0, none⟩)]) ∧ w' = W.alloc (.cells #[.map mb] 69) :=
  (callsIn_wide (n := 5)).1 (AnyZ.keys_in Tryz.keysS Fence.wide 5 trivial rfl mb W)

set_option maxHeartbeats 4000000 in
set_option maxRecDepth 100000 in
theorem QRefs_any (w : World) (r s bm : Nat) (cv : Value) (OS P : Nat → Prop) (R : Rp) (h : RpW w r s bm cv OS P R) (hg : GoodR R) :
    Calls Tryz.prog 21 #[.pointer (some ⟨r, 0, none⟩)] w (RefsOut w R.refs) := by
  obtain ⟨c0, c1, c2, cf⟩ := h.cells
  have hlt := h.lt
  have HK := Qkeys_any w bm R.refs h.map hg.refs (fun x hx => (hg.names x hx).1) hg.few
  have HL := hideO (fun W (hW : RowKit.Below w.heap.size w W) (x : Rf) (hx : x ∈ R.refs) => look_br1 (h.below hW).map x.1 (by have := name_len (hg.names x hx).1; unfold maxLen; omega) ((atR_mem hg.refs).2 hx))
  have HC := hideO (fun W (hW : RowKit.Below w.heap.size w W) => (h.below hW).cells)
  have HN := hideO (fun (x : Rf) (hx : x ∈ R.refs) => name_len (hg.names x hx).1)
  have h8 := hg.few
  clear h hg
  generalize R.refs = l at *
  go_enter Tryz.func21, Tryz.ntmps21
  go_wp2_with (first
    | (go_at_call 43; refine (QKeysF_any _ _).mono ?_; rintro e w1 ⟨rfl, rfl⟩; dsimp only)
    | (go_at_call 42; refine HK.mono ?_; rintro e w2 ⟨ad, ca, rfl, hcells, hb2⟩; dsimp only; have HCE := hideO hcells; have HB2 := hideO hb2; clear hcells hb2 HK))
  go_loopw [3, 13] (fun v i wr => ∃ (k : Nat), k ≤ l.length ∧ i = .int .i64 k ∧ Hid (RowKit.Below w2.heap.size w2 wr) ∧ Hid (wr.ownsRow w2.heap.size 84 2 v (l.take k).length (cellsRf (l.take k)))) (fun _ i wr => l.length - (intOf i).toNat)
  case atStart => exact ⟨0, Nat.zero_le _, rfl, RowKit.Below.refl _ w2, World.ownsRow_nil _ _ _ _⟩
  case round =>
    obtain ⟨k, hk, rfl, hbr, hown⟩ := hrel
    by_cases hltk : k < l.length
    · obtain ⟨g, rfl, hc0⟩ := HCE.out k hltk
      have hc := (hbr.out.cell (World.block_lt_of_cell? w2 _ hc0)).trans hc0
      have i0 : (0 : Int) ≤ (k : Int) := by omega
      have i1 : (k : Int) < (l.length : Int) := by omega
      have hmem : l[k] ∈ l := List.getElem_mem hltk
      have hcl : l[k].1.length ≤ 281474976710656 := by have := HN.out _ hmem; omega
      have htk : Hid (l.take (k + 1) = l.take k ++ [l[k]]) := List.take_succ_eq_append_getElem hltk
      have hlk : Hid ((l.take k).length = k) := by show _ = _; rw [List.length_take]; omega
      have HLk := hideO (fun W (hW : RowKit.Below w.heap.size w W) => HL.out W hW l[k] hmem)
      have hbw := hideO (bstep HB2.out hbr.out)
      clear hc0 hmem
      generalize l[k] = x at *
      have hlD : (Instr.lookup 69 (.map (some bm)) (.string ⟨x.1.toArray⟩) false).run Tryz.prog wr.drew = .ok (.int .i64 (x.2 : Int)) wr.drew := HLk.out _ hbw.out.drew
      obtain ⟨d0, d1, d2, df⟩ := HC.out _ hbw.out
      have zr : r < wr.heap.size := by have := hbw.out.size; omega
      go_wp2_with fail
      go_region_law (first
        | (refine step_appendQ rfl (.tmp 17) (.tmp 27) 32 rfl _ _ rfl rfl hr9 ?_)
        | (go_simp; go_at_call 44; refine (SClone_any x.1 _ hcl).mono ?_; rintro e w5 ⟨rfl, hb5'⟩; dsimp only; have hb5 : RowKit.Below wr.heap.size wr w5 := (RowKit.Below.refl _ wr).drew.trans hb5'; have hl5 := HLk.out _ (bstep hbw.out hb5); obtain ⟨m0, m1, m2, mf⟩ := HC.out _ (bstep hbw.out hb5); have z5 : r < w5.heap.size := (by have := hb5.size; omega); obtain ⟨g9, cap9, W9, hr9, ho9, hB9⟩ := rf_push (ownsO_below hown.out hb5) x (by rw [hlk.out]; omega) (by have := hbr.out.size; have := hb5.size; omega) 32; have HO9 := hideO ho9; have HB9 := hideO (hB9 (bstep hbr.out hb5)); clear ho9 hB9))
      all_goals go_wp2_with fail
      all_goals exact ⟨⟨k + 1, by omega, by go_num, HB9, by show World.ownsRow _ _ _ _ _ _ _; rw [htk.out]; have := HO9.out; rw [hlk.out] at this; exact this⟩, by simp [intOf]; omega⟩
    · have hkk : k = l.length := by omega
      subst hkk
      have hfin : wr.ownsRow w2.heap.size 84 2 u3 l.length (cellsRf l) := by have := hown.out; rw [List.take_length] at this; exact this
      obtain ⟨ad', ca', rfl, hout⟩ := refs_out hfin (bstep HB2.out hbr.out)
      have HOut := hideO hout
      clear hout hown hfin HCE HN HL
      go_wp2_with fail
      go_ret
      exact HOut.out
end Go.Proofs.YtaddfndohoppeaaGreatDoor

/- The program's repo keeps the face's contracts. -/
namespace Go.Proofs.YtaddfndohoppeaaGreatDoor
open Go Go.RowKit Go.Proofs Go.Maps
set_option synthInstance.maxSize 1000

theorem RpTo.at_ {w w' : World} {r s bm : Nat} {cv : Value} {OS P O : Nat → Prop} {R' : Rp} (h : RpTo w r s bm cv OS P R' w') (hO : ∀ j, O j ↔ RpO r bm cv OS P j) : ∃ O' : Nat → Prop, RepAt w' r O' R' ∧ Offs O w w' ∧ ∀ j, O' j → O j ∨ w.heap.size ≤ j := by
  obtain ⟨cv', OS', P', h1, h2, h3⟩ := h
  exact ⟨RpO r bm cv' OS' P', ⟨s, bm, cv', OS', P', h1, fun _ => Iff.rfl⟩, h2.mono fun j hj => Or.inl ((hO j).2 hj), fun j hj => (h3 j hj).imp (hO j).2 id⟩
def theRepo : RFace := {
  lim := reachBytes
  At := RepAt
  own := by
    rintro w r O R ⟨s, bm, cv, OS, P, h, hO⟩ j hj
    exact h.own j ((hO j).1 hj)
  keep := by
    rintro w w' r O R ⟨s, bm, cv, OS, P, h, hO⟩ hk
    exact ⟨s, bm, cv, OS, P, h.keep fun j hj => hk j ((hO j).2 hj), hO⟩
  new := QNew_any
  commit := by
    rintro w r O R b ad ca S t ⟨s, bm, cv, OS, P, h, hO⟩ hg hS hb ht
    refine (QCommit_any w r s bm cv OS P R b ad ca S t h hg hb hS.sl hS.fit hS.len ht).mono ?_
    rintro e w' ⟨rfl, hto⟩
    exact ⟨rfl, hto.at_ hO⟩
  join := by
    rintro w r O R b o ad ca S t ⟨s, bm, cv, OS, P, h, hO⟩ hg hS hb ht
    refine (QJoin_any w r s bm cv OS P R b o ad ca S t h hg hb hS.sl hS.fit hS.len ht).mono ?_
    rintro e w' ⟨rfl, hto⟩
    exact ⟨rfl, hto.at_ hO⟩
  branch := by
    rintro w r O R b a ⟨s, bm, cv, OS, P, h, hO⟩ hg hb
    refine (QBranch_any w r s bm cv OS P R b a h hg hb).mono ?_
    rintro e w' ⟨rfl, hto⟩
    exact ⟨rfl, hto.at_ hO⟩
  move := by
    rintro w r O R b f t ⟨s, bm, cv, OS, P, h, hO⟩ hg hb
    refine (QMove_any w r s bm cv OS P R b f t h hg hb).mono ?_
    rintro e w' ⟨rfl, hto⟩
    exact ⟨rfl, hto.at_ hO⟩
  drop := by
    rintro w r O R b ⟨s, bm, cv, OS, P, h, hO⟩ hg hb
    refine (QDrop_any w r s bm cv OS P R b h hg hb).mono ?_
    rintro e w' ⟨rfl, hto⟩
    exact ⟨rfl, hto.at_ hO⟩
  head := by
    rintro w r O R b ⟨s, bm, cv, OS, P, h, hO⟩ hg hb
    exact QHead_any w r s bm cv OS P R b h (by unfold reachBytes at hb; unfold maxLen; omega)
  graph := by
    rintro w r O R a ⟨s, bm, cv, OS, P, h, hO⟩ hg
    exact QGraph_any w r s bm cv OS P R a h hg
  refs := by
    rintro w r O R ⟨s, bm, cv, OS, P, h, hO⟩ hg
    exact QRefs_any w r s bm cv OS P R h hg
  commits := by
    rintro w r O R ⟨s, bm, cv, OS, P, h, hO⟩ hg
    exact QCommits_any w r s bm cv OS P R h hg
  object := by
    rintro w r O R id ⟨s, bm, cv, OS, P, h, hO⟩ hg
    exact QObject_any w r s bm cv OS P R id h hg
}
theorem theRepo_lim : theRepo.lim = reachBytes := rfl
end Go.Proofs.YtaddfndohoppeaaGreatDoor
