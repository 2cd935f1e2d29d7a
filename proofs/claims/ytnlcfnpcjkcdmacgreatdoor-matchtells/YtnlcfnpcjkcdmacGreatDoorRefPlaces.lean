/- The document's answer (package strataref1): Places; rows and lists of places ahead of it. -/
import Derived.Test.YtnlcfnpcjkcdmacGreatDoorRefTurned
import Derived.Test.YtnlcfnpcjkcdmacGreatDoorIdxPlain
import Derived.Test.YtnlcfnpcjkcdmacGreatDoorTripleSort
import Derived.Lib.AppendZeros
import Derived.Deep.Upon
import Derived.OwnWalk
import Derived.Test.YtnlcfnpcjkcdmacGreatDoorSetPlain
namespace Go.Proofs.YtnlcfnpcjkcdmacGreatDoor
open Go Go.RowKit Go.Proofs
set_option synthInstance.maxSize 1000

def cellsI (m : List Nat) : List Value := m.map fun (j : Nat) => Value.int .i64 (j : Int)
theorem cellsI_len (m : List Nat) : (cellsI m).length = m.length * 1 := by simp [cellsI]
theorem cellsI_one (m : List Nat) : ∀ v ∈ cellsI m, v.oneCell' = true := by
  intro v hv
  obtain ⟨j, _, rfl⟩ := List.mem_map.1 hv
  rfl
def RowN (w : World) (b o : Nat) (m : List Nat) : Prop := ∀ j v, (cellsI m)[j]? = some v → w.cell? ⟨b, o + j, none⟩ = some v
theorem RowN.below {w w' : World} {b o : Nat} {m : List Nat} (h : RowN w b o m) (hb : RowKit.Below w.heap.size w w') : RowN w' b o m := fun j v hv => (hb.cell (World.block_lt_of_cell? w _ (h j v hv))).trans (h j v hv)
theorem RowN.at {w : World} {b o : Nat} {m : List Nat} (h : RowN w b o m) (j : Nat) (hj : j < m.length) : w.cell? ⟨b, o + j, none⟩ = some (.int .i64 (m[j] : Int)) := h j _ (by simp [cellsI, hj])
theorem RowN.part {w : World} {b o : Nat} {l m : List Nat} (h : RowN w b o (l ++ m)) : RowN w b o l ∧ RowN w b (o + l.length) m := by
  refine ⟨fun j v hv => h j v ?_, fun j v hv => ?_⟩
  · simp only [cellsI, List.map_append]
    rw [List.getElem?_append_left (by exact (List.getElem?_eq_some_iff.1 hv).1)]
    exact hv
  · rw [Nat.add_assoc]
    refine h _ v ?_
    simp only [cellsI, List.map_append]
    rw [List.getElem?_append_right (by simp), show l.length + j - (l.map fun (j : Nat) => Value.int .i64 (j : Int)).length = j by simp]
    exact hv
def SlN (w : World) (ad : Option Addr) (m : List Nat) : Prop := m ≠ [] → ∃ b o, ad = some ⟨b, o, none⟩ ∧ RowN w b o m
theorem SlN.below {w w' : World} {ad : Option Addr} {m : List Nat} (h : SlN w ad m) (hb : RowKit.Below w.heap.size w w') : SlN w' ad m := fun hm => by
  obtain ⟨b, o, rfl, hr⟩ := h hm
  exact ⟨b, o, rfl, hr.below hb⟩
theorem slN_one (w : World) (i : Nat) (T : TypeId) : SlN (w.alloc (.cells #[.int .i64 (i : Int)] T)) (some ⟨w.heap.size, 0, none⟩) [i] := fun _ => ⟨w.heap.size, 0, rfl, fun j v hv => by
  have hj : j < 1 := by have := (List.getElem?_eq_some_iff.1 hv).1; simpa [cellsI] using this
  obtain rfl : j = 0 := by omega
  simp [cellsI] at hv
  subst hv
  go_simp⟩

theorem infoI : (Tryz.prog.info? 3).map (fun i => (i.zero, i.size, i.bytes)) = some (some (.int .i64 0), 1, 8) := by kernel_rfl

theorem append_emptyN {base n : Nat} {v : Value} {cs : List Value} {W : World} (h : W.ownsRow base 3 1 v n cs) (ad : Option Addr) (cap : Nat) (ty : TypeId) :
    (Builtin.append_ #[45, 45] ty #[v, .slice ad 0 cap]).run Tryz.prog W = .ok v W := by
  obtain ⟨i, hi, hz⟩ := Option.map_eq_some_iff.1 infoI
  have hf : (Builtin.firstCells i.size 0 (.slice ad 0 cap)).run Tryz.prog W = .ok #[] W := by
    cases ad with
    | none => exact run_firstCells_none W _ _ _ _
    | some a => exact run_firstCells_some (P := Tryz.prog) W i.size 0 a 0 cap [] (by simp) (by simp)
  rcases h.2 with ⟨rfl, h0⟩ | ⟨g, c, cur, rfl, _, _, hle, _⟩
  · simp [Builtin.append_, run_underlying Tryz.underlying45, sizeOf, typeInfo, hi, Builtin.lenOf, hf]
  · simp [Builtin.append_, run_underlying Tryz.underlying45, sizeOf, typeInfo, hi, Builtin.lenOf, hf, hle, storeCells]

/-- an append of a list to a row of one's own, for the walk -/
theorem wpList_append_listN {ops : Array Oper} {rest : List Oper} {o : Oper} {a : Act} {Q : Exit → Act → World → Prop} (w : World) (hgd : o.guard = none) (s x : Operand)
    (ho : o.op = .call { callee := .builtin .append, args := #[s, x], argTypes := #[45, 45] })
    (base : Nat) (v : Value) (t l : List Nat) (ad : Option Addr) (c : Nat) (hs : a.eval s = v) (hx : a.eval x = .slice ad l.length c) (hown : w.ownsRow base 3 1 v t.length (cellsI t)) (hl : SlN w ad l)
    (h63 : t.length + l.length ≤ 1000000) (hbase : base ≤ w.heap.size)
    (h : ∀ v' w', w'.ownsRow base 3 1 v' (t ++ l).length (cellsI (t ++ l)) → RowKit.Below base w w' → wpList Tryz.prog ops Q rest (a.put o.dst v') w') : wpList Tryz.prog ops Q (o :: rest) a w := by
  obtain ⟨i0, hi, hz⟩ := Option.map_eq_some_iff.1 infoI
  simp only [Prod.mk.injEq] at hz
  obtain ⟨hz0, hz1, hz2⟩ := hz
  cases l with
  | nil =>
    refine Lib.wpList_append_run w hgd s x _ _ ho v _ hs hx v w (append_emptyN hown ad c _) (h v w ?_ (RowKit.Below.refl _ _))
    simpa using hown
  | cons y r =>
    obtain ⟨b, off, rfl, hr⟩ := hl (by simp)
    refine wpList_append_own w hgd s x _ ho base 3 i0 (.int .i64 0) 1 8 Tryz.underlying45 hi hz0 hz1 hz2 rfl (by decide) v t.length (cellsI t) hs hown ⟨b, off, none⟩ (y :: r).length c (cellsI (y :: r)) hx (cellsI_len _) ?_ (cellsI_one _) (by unfold maxLen; omega) (by omega) hbase ?_
    · intro j u hj
      rw [Addr.add_lit]
      exact hr j u hj
    · intro v' w' h2 h3 _
      refine h v' w' ?_ ((RowKit.Below.refl _ _).grown h3 hbase (fun k hk => (hown.lt k hk).1))
      rw [List.length_append]
      simpa [cellsI] using h2

theorem own_ints {W : World} {base : Nat} {e : TypeId} {v : Value} {t : List Nat} (h : W.ownsRow base e 1 v t.length (cellsI t)) : ∃ ad cap, v = .slice ad t.length cap ∧ IntsAt W ad t := by
  have h' := h
  rcases h.2 with ⟨rfl, h0⟩ | ⟨g, cap, cur, rfl, _⟩
  · exact ⟨none, 0, by rw [h0], fun hne => absurd (List.eq_nil_of_length_eq_zero h0) hne⟩
  · refine ⟨some ⟨g, 0, none⟩, cap, rfl, fun _ => ⟨g, rfl, fun j hj => ?_⟩⟩
    have := h'.cells (g := g) rfl j (.int .i64 (t[j] : Int)) (by simp [cellsI, hj])
    rwa [Addr.add_lit, Nat.zero_add] at this
theorem ownsRow_baseN {W : World} {base base' : Nat} {e : TypeId} {size : Nat} {v : Value} {k : Nat} {xs : List Value} (h : W.ownsRow base e size v k xs) (hb : base' ≤ base) : W.ownsRow base' e size v k xs := by
  refine ⟨h.1, ?_⟩
  rcases h.2 with hn | ⟨g, cap, cur, hv, hbg, rest⟩
  · exact .inl hn
  · exact .inr ⟨g, cap, cur, hv, Nat.le_trans hb hbg, rest⟩

/-- the places as far as k -/
def PlacesTo (q : Nat × Nat × Nat) (l : List Tr) (k : Nat) (m : List Nat) : Prop := m.Pairwise (aheadO q l) ∧ (∀ j, j ∈ m ↔ j < k) ∧ m.length = k

theorem insP {q : Nat × Nat × Nat} {l : List Tr} {m : List Nat} {i k : Nat} (hm : PlacesTo q l i m)
    (hhi : ∀ j (hj : j < m.length), k ≤ j → cmpO q (atL l i) (atL l m[j]) < 0) (hlo : ∀ j (hj : j < m.length), j < k → cmpO q (atL l m[j]) (atL l i) < 0) : PlacesTo q l (i + 1) (m.take k ++ [i] ++ m.drop k) := by
  have hr' : (m.take k ++ m.drop k).Pairwise (aheadO q l) := by rw [List.take_append_drop]; exact hm.1
  obtain ⟨h1, h2, h3⟩ := List.pairwise_append.1 hr'
  rw [show m.take k ++ [i] ++ m.drop k = m.take k ++ i :: m.drop k by simp]
  refine ⟨List.pairwise_append.2 ⟨h1, List.pairwise_cons.2 ⟨fun z hz => ?_, h2⟩, fun a ha z hz => ?_⟩, fun j => ?_, ?_⟩
  · obtain ⟨p, hp, rfl⟩ := List.getElem_of_mem hz
    rw [List.getElem_drop]
    have hp' : k + p < m.length := by simp at hp; omega
    exact hhi (k + p) hp' (by omega)
  · rcases List.mem_cons.1 hz with rfl | hz
    · obtain ⟨p, hp, rfl⟩ := List.getElem_of_mem ha
      rw [List.getElem_take]
      have hp' : p < k ∧ p < m.length := by simp at hp; omega
      exact hlo p hp'.2 hp'.1
    · exact h3 a ha z hz
  · rw [List.mem_append, List.mem_cons]
    have h4 : j ∈ m ↔ j ∈ m.take k ∨ j ∈ m.drop k := by rw [← List.mem_append, List.take_append_drop]
    have h5 := hm.2.1 j
    constructor
    · rintro (h | h | h)
      · have := h5.1 (h4.2 (Or.inl h)); omega
      · omega
      · have := h5.1 (h4.2 (Or.inr h)); omega
    · intro h
      by_cases e : j = i
      · exact Or.inr (Or.inl e)
      · rcases h4.1 (h5.2 (by omega)) with h | h
        · exact Or.inl h
        · exact Or.inr (Or.inr h)
  · have := hm.2.2
    simp
    omega

theorem lowP {q : Nat × Nat × Nat} (hq : PermQ q) {l : List Tr} (hr : Rising l) {m : List Nat} {i p : Nat} (hi : i < l.length) (hm : PlacesTo q l i m) (hp : p < m.length) (h : ¬ cmpO q (atL l i) (atL l m[p]) < 0) :
    ∀ j (hj : j < m.length), j < p + 1 → cmpO q (atL l m[j]) (atL l i) < 0 := by
  have hmp : m[p] < i := (hm.2.1 _).1 (List.getElem_mem hp)
  have hne : cmpO q (atL l m[p]) (atL l i) ≠ 0 := fun h0 => by
    have h3 := (cmpO_zero hq _ _).1 h0
    have e1 : atL l m[p] = l[m[p]]'(by omega) := by simp [atL, show m[p] < l.length by omega]
    have e2 : atL l i = l[i] := by simp [atL, hi]
    rw [e1, e2] at h3
    have := rising_nodupI hr _ _ h3
    omega
  have hpi : cmpO q (atL l m[p]) (atL l i) < 0 := by
    have := cmpO_neg q (atL l m[p]) (atL l i)
    omega
  intro j hj hle
  rcases Nat.lt_or_eq_of_le (Nat.le_of_lt_succ hle) with h1 | h1
  · exact cmpO_lt_trans hq (List.pairwise_iff_getElem.1 hm.1 j p hj hp h1) hpi
  · subst h1; exact hpi
/-! ### Places -/
theorem wrapP (n : Nat) (h : n ≤ 1000000) : IntKind.i64.wrap (n : Int) = n := by simp [IntKind.wrap, IntKind.bits, IntKind.signed]; omega
def PAns (s : Bool) (P : List Nat → Prop) (w : World) (e : Ending) (w' : World) : Prop := RowKit.Below w.heap.size w w' ∧ ∃ (m : List Nat) (ad : Option Addr) (c : Nat), e = .returned (.tuple #[.slice ad m.length c, .bool s]) ∧ IntsAt w' ad m ∧ P m
theorem PAns.mk {s : Bool} {P : List Nat → Prop} {w w' : World} (hb : RowKit.Below w.heap.size w w') (m : List Nat) (ad : Option Addr) (c : Nat) (hs : IntsAt w' ad m) (hp : P m) : PAns s P w (.returned (.tuple #[.slice ad m.length c, .bool s])) w' := ⟨hb, m, ad, c, rfl, hs, hp⟩
def PlsAns (l : List Tr) (o : List UInt8) (m : List Nat) : Prop := ((ordN o).isSome = true → IsPlaces (ordV o) l m) ∧ ((ordN o).isSome = false → m = [])

set_option maxHeartbeats 2000000 in
set_option maxRecDepth 100000 in
theorem RPlaces_none (ad : Option Addr) (ca : Nat) (l : List Tr) (o : List UInt8) (w : World) (hs : (ordN o).isSome = false) :
    Calls Tryz.prog 14 #[.slice ad l.length ca, .string ⟨o.toArray⟩] w (PAns false (PlsAns l o) w) := by
  have h1 : (o == [115, 112, 111]) = false := by cases h : (o == [115, 112, 111]); rfl; rw [eq_of_beq h] at hs; cases hs
  have h2 : (o == [115, 111, 112]) = false := by cases h : (o == [115, 111, 112]); rfl; rw [eq_of_beq h] at hs; cases hs
  have h3 : (o == [112, 115, 111]) = false := by cases h : (o == [112, 115, 111]); rfl; rw [eq_of_beq h] at hs; cases hs
  have h4 : (o == [112, 111, 115]) = false := by cases h : (o == [112, 111, 115]); rfl; rw [eq_of_beq h] at hs; cases hs
  have h5 : (o == [111, 115, 112]) = false := by cases h : (o == [111, 115, 112]); rfl; rw [eq_of_beq h] at hs; cases hs
  have h6 : (o == [111, 112, 115]) = false := by cases h : (o == [111, 112, 115]); rfl; rw [eq_of_beq h] at hs; cases hs
  have g1 : (o != [115, 112, 111]) = true := by show (!(o == [115, 112, 111])) = true; rw [h1]; rfl
  have g2 : (o != [115, 111, 112]) = true := by show (!(o == [115, 111, 112])) = true; rw [h2]; rfl
  have g3 : (o != [112, 115, 111]) = true := by show (!(o == [112, 115, 111])) = true; rw [h3]; rfl
  have g4 : (o != [112, 111, 115]) = true := by show (!(o == [112, 111, 115])) = true; rw [h4]; rfl
  have g5 : (o != [111, 115, 112]) = true := by show (!(o == [111, 115, 112])) = true; rw [h5]; rfl
  have g6 : (o != [111, 112, 115]) = true := by show (!(o == [111, 112, 115])) = true; rw [h6]; rfl
  have HP : Hid (PlsAns l o []) := ⟨fun h => (by rw [hs] at h; cases h), fun _ => rfl⟩
  generalize PlsAns l o = PA at *
  clear hs
  go_enter Tryz.func14, Tryz.ntmps14
  go_wp2_with fail
  exact bodyPost_ret (v := .tuple #[.slice none 0 0, .bool false]) (by simp [results, Tryz.results14, go_sem]) rfl (PAns.mk (RowKit.Below.refl _ _) [] none 0 (fun h => absurd rfl h) HP.out)

set_option maxHeartbeats 16000000 in
set_option maxRecDepth 100000 in
theorem RPlaces_some (ad : Option Addr) (ca : Nat) (l : List Tr) (d0 d1 d2 : UInt8) (q : Nat × Nat × Nat) (w : World) (hl : SlT w ad l) (h200 : l.length ≤ 200) (hr : Rising l) (hq : PermQ q) (hqv : q = (byteK (d0.toNat : Int), byteK (d1.toNat : Int), byteK (d2.toNat : Int)))
    (hsix : [d0, d1, d2] = [115, 112, 111] ∨ [d0, d1, d2] = [115, 111, 112] ∨ [d0, d1, d2] = [112, 115, 111] ∨ [d0, d1, d2] = [112, 111, 115] ∨ [d0, d1, d2] = [111, 115, 112] ∨ [d0, d1, d2] = [111, 112, 115]) :
    Calls Tryz.prog 14 #[.slice ad l.length ca, .string ⟨#[d0, d1, d2]⟩] w (PAns true (IsPlaces q l) w) := by
  have Hl : Hid (SlT w ad l) := hl
  have HT := fun (x y : Tr) W => turned3_any x y d0 d1 d2 W
  have HP0 : Hid (PermQ q) := hq
  have Hr : Hid (Rising l) := hr
  rw [← hqv] at HT
  clear hl hqv hq hr
  unfold valTr at HT
  go_enter Tryz.func14, Tryz.ntmps14
  go_upto_region 1 with fail
  go_cut [31] (fun v W => v = .bool false ∧ w = W)
  case first =>
    clear HT
    rcases hsix with h | h | h | h | h | h
    all_goals
      simp only [List.cons.injEq, and_true] at h
      obtain ⟨rfl, rfl, rfl⟩ := h
      go_wp2_with fail
      go_meet
      case rel => exact ⟨rfl, rfl⟩
  case rest =>
    obtain ⟨rfl, rfl⟩ := hcut
    clear hsix
    go_wp2_with fail
    go_loopw [6, 7] (fun v iv wr => ∃ (i : Nat) (t : List Nat), i ≤ l.length ∧ iv = .int .i64 i ∧ Hid (PlacesTo q l i t) ∧ Hid (wr.ownsRow w.heap.size 3 1 v t.length (cellsI t)) ∧ RowKit.Below w.heap.size w wr) (fun _ iv wr => l.length - (intOf iv).toNat)
    case atStart => exact ⟨0, [], Nat.zero_le _, rfl, ⟨List.Pairwise.nil, fun j => by simp, rfl⟩, World.ownsRow_nil _ _ _ _, RowKit.Below.refl _ _⟩
    case round =>
      obtain ⟨i, t, hi, rfl, ht, hown, hbr⟩ := hrel
      by_cases hlt : i < l.length
      · have Htl : Hid (t.length = i) := ht.out.2.2
        obtain ⟨b, oo, rfl, hrow⟩ := Hl.out.at i hlt
        have Hrow : Hid (∀ W, RowKit.Below wr.heap.size wr W → RowR W b oo l) := fun W h => (hrow.below hbr).below h
        have i0 : (0 : Int) ≤ (i : Int) := by omega
        have i1 : (i : Int) < (l.length : Int) := by omega
        clear hrow
        obtain ⟨wi, rfl, hbr⟩ : ∃ W', W' = wr ∧ RowKit.Below w.heap.size w W' := ⟨wr, rfl, hbr⟩
        rcases hown.out.2 with ⟨rfl, h0⟩ | ⟨g, ct, cur, rfl, hg0, hgb, hct, hctm, hcs, htk2⟩
        · -- nothing as yet
          obtain rfl : t = [] := List.eq_nil_of_length_eq_zero h0
          go_wp2_with fail
          go_loopw [8] (fun kv w2 => kv = .int .i64 0 ∧ RowKit.Below wi.heap.size wi w2) (fun _ _ => 0)
          case atStart => exact ⟨rfl, RowKit.Below.refl _ _⟩
          case round =>
            obtain ⟨rfl, hb2⟩ := hrel
            go_wp2_with fail
            go_region
            have hBz := bstep hbr hb2.drew
            generalize wr.drew = wz at *
            have Hnil : Hid (wz.ownsRow wz.heap.size 3 1 (.slice none 0 0) ([] : List Nat).length (cellsI [])) := World.ownsRow_nil _ _ _ _
            have hfin : Hid (PlacesTo q l (i + 1) ([i] ++ [])) := by
              have := insP (k := 0) ht.out (fun j hj h => by simp at hj) (fun j hj h => by simp at hj)
              show PlacesTo _ _ _ _
              simpa using this
            clear hown ht
            go_wp2_with (first
                    | (at_builtin; refine wpList_append_listN _ rfl _ _ rfl wz.heap.size _ [] [i] (some ⟨wz.heap.size, 0, none⟩) 1 rfl rfl (Hnil.out.alloc _) (slN_one _ _ _) (by simp) (by simp) ?_; clear Hnil; intro v2 w6 hown2 hb6
                       have Hown2 : Hid (w6.ownsRow wz.heap.size 3 1 v2 [i].length (cellsI [i])) := hown2
                       clear hown2
                       have hb6' : RowKit.Below wz.heap.size wz w6 := (balloc _ _).trans hb6
                       have hz6 := hb6'.size)
                    | (at_builtin; refine wpList_append_listN _ rfl _ _ rfl wz.heap.size _ [i] [] none 0 rfl rfl Hown2.out (fun h => absurd rfl h) (by simp <;> omega) hz6 ?_; clear Hown2; intro v3 w7 hown3 hb7
                       have Hown3 : Hid (w7.ownsRow wz.heap.size 3 1 v3 ([i] ++ []).length (cellsI ([i] ++ []))) := hown3
                       clear hown3
                       have hb7' : RowKit.Below wz.heap.size wz w7 := hb6'.trans hb7))
            go_roundw
            case rel => exact ⟨i + 1, [i] ++ [], by omega, by go_num, hfin.out, ownsRow_baseN Hown3.out hBz.size, bstep hBz hb7'⟩
            case measure => simp [intOf]; omega
        · have Hrg : Hid (RowN wi g 0 t) := fun z u hz => by
            have := hown.out.cells (g := g) rfl z u hz
            rwa [Addr.add_lit] at this
          have Hcap : Hid (t.length ≤ ct) := hct
          have hti : t.length ≤ 200 := by have := Htl.out; omega
          clear hgb hcs htk2 hg0
          go_wp2_with fail
          go_loopw [8] (fun kv w2 => ∃ k : Nat, k ≤ t.length ∧ kv = .int .i64 k ∧ Hid (∀ j (hj : j < t.length), k ≤ j → cmpO q (atL l i) (atL l t[j]) < 0) ∧ RowKit.Below wi.heap.size wi w2) (fun kv w2 => (intOf kv).toNat)
          case atStart => exact ⟨t.length, Nat.le_refl _, rfl, fun j hj h => by omega, RowKit.Below.refl _ _⟩
          case round =>
            obtain ⟨k, hk, rfl, hhi, hb2⟩ := hrel
            obtain ⟨w2, rfl, hb2⟩ : ∃ W', W' = wr ∧ RowKit.Below wi.heap.size wi W' := ⟨wr, rfl, hb2⟩
            rcases Nat.eq_zero_or_pos k with rfl | hpos
            · go_wp2_with fail
              go_region
              have hBz := bstep hbr hb2.drew
              have hBi := hb2.drew
              generalize w2.drew = wz at *
              have Hgz : Hid (SlN wz (some ⟨g, 0, none⟩) t) := fun _ => ⟨g, 0, rfl, Hrg.out.below hBi⟩
              have Hnil : Hid (wz.ownsRow wz.heap.size 3 1 (.slice none 0 0) ([] : List Nat).length (cellsI [])) := World.ownsRow_nil _ _ _ _
              have hfin : Hid (PlacesTo q l (i + 1) ([i] ++ t)) := by
                have := insP (k := 0) ht.out hhi.out (fun j hj h => by omega)
                show PlacesTo _ _ _ _
                simpa using this
              have hcap' : (t.length : Int) ≤ (ct : Int) := by have := Hcap.out; omega
              have hcap0 : (0 : Int) ≤ (ct : Int) := by omega
              have htl0' : (0 : Int) ≤ (t.length : Int) := by omega
              clear hown ht
              go_wp2_with (first
                    | (at_builtin; refine wpList_append_listN _ rfl _ _ rfl wz.heap.size _ [] [i] (some ⟨wz.heap.size, 0, none⟩) 1 rfl rfl (Hnil.out.alloc _) (slN_one _ _ _) (by simp) (by simp) ?_; clear Hnil; intro v2 w6 hown2 hb6
                       have Hown2 : Hid (w6.ownsRow wz.heap.size 3 1 v2 [i].length (cellsI [i])) := hown2
                       clear hown2
                       have hb6' : RowKit.Below wz.heap.size wz w6 := (balloc _ _).trans hb6
                       have hz6 := hb6'.size)
                    | (at_builtin; refine wpList_append_listN _ rfl _ _ rfl wz.heap.size _ [i] t (some ⟨g, 0, none⟩) ct rfl rfl Hown2.out (Hgz.out.below hb6') (by simp <;> omega) hz6 ?_; clear Hown2; intro v3 w7 hown3 hb7
                       have Hown3 : Hid (w7.ownsRow wz.heap.size 3 1 v3 ([i] ++ t).length (cellsI ([i] ++ t))) := hown3
                       clear hown3
                       have hb7' : RowKit.Below wz.heap.size wz w7 := hb6'.trans hb7))
              go_roundw
              case rel => exact ⟨i + 1, [i] ++ t, by omega, by go_num, hfin.out, ownsRow_baseN Hown3.out hBz.size, bstep hBz hb7'⟩
              case measure => simp [intOf]; omega
            · obtain ⟨p, hkp⟩ : ∃ p, k = p + 1 := ⟨k - 1, by omega⟩
              have hpt : p < t.length := by omega
              have hri : t[p] < i := (ht.out.2.1 _).1 (List.getElem_mem hpt)
              obtain ⟨r, hrr⟩ : ∃ r, r = t[p] := ⟨_, rfl⟩
              have hrl : r < l.length := by omega
              have g0 := (Hrg.out.below hb2).at p hpt
              rw [Nat.zero_add, ← hrr] at g0
              obtain ⟨c0, c1, c2, c3, c4, c5, c6, c7, c8⟩ := (Hrow.out _ hb2).at i hlt
              obtain ⟨e0, e1, e2, e3, e4, e5, e6, e7, e8⟩ := (Hrow.out _ hb2).at r hrl
              have HC := fun W => HT l[i] l[r] W
              have ei : atL l i = l[i] := by simp [atL, hlt]
              have er : atL l r = l[r] := by simp [atL, hrl]
              have fhi : Hid (cmpO q l[i] l[r] < 0 → ∀ j (hj : j < t.length), p ≤ j → cmpO q (atL l i) (atL l t[j]) < 0) := fun h j hj hle => by
                rcases Nat.lt_or_eq_of_le hle with h1 | h1
                · exact hhi.out j hj (by omega)
                · subst h1; rw [← hrr, ei, er]; exact h
              have flo : Hid (¬ cmpO q l[i] l[r] < 0 → ∀ j (hj : j < t.length), j < k → cmpO q (atL l t[j]) (atL l i) < 0) := fun h j hj hlt' => lowP HP0.out Hr.out hlt ht.out hpt (by rw [← hrr, ei, er]; exact h) j hj (by omega)
              have hwr : IntKind.i64.wrap ((k : Int) - 1) = (p : Int) := by rw [show (k : Int) - 1 = (p : Int) by omega]; exact wrapP p (by omega)
              have j0 : (0 : Int) ≤ (p : Int) := by omega
              have j1 : (p : Int) < (t.length : Int) := by omega
              have r0 : (0 : Int) ≤ (r : Int) := by omega
              have r1 : (r : Int) < (l.length : Int) := by omega
              have hd0 : decide (0 < k) = true := by simp; omega
              have hd1 : decide ((k : Int) > 0) = true := by simp; omega
              have Hkp : Hid (k = p + 1) := hkp
              clear hkp hpos ei er hrr hri
              generalize l[i] = x at *
              generalize l[r] = y at *
              have mk : ∀ W, BL w2 W → BL w2 W ∧ W.cell? ⟨b, oo + i * 9, none⟩ = some (.int .i64 x.1.1) ∧ W.cell? ⟨b, oo + i * 9 + 1, none⟩ = some (.string ⟨x.1.2.1.toArray⟩) ∧ W.cell? ⟨b, oo + i * 9 + 2, none⟩ = some (.string ⟨x.1.2.2.toArray⟩) ∧ W.cell? ⟨b, oo + i * 9 + 3, none⟩ = some (.int .i64 x.2.1.1) ∧ W.cell? ⟨b, oo + i * 9 + 4, none⟩ = some (.string ⟨x.2.1.2.1.toArray⟩) ∧ W.cell? ⟨b, oo + i * 9 + 5, none⟩ = some (.string ⟨x.2.1.2.2.toArray⟩) ∧ W.cell? ⟨b, oo + i * 9 + 6, none⟩ = some (.int .i64 x.2.2.1) ∧ W.cell? ⟨b, oo + i * 9 + 7, none⟩ = some (.string ⟨x.2.2.2.1.toArray⟩) ∧ W.cell? ⟨b, oo + i * 9 + 8, none⟩ = some (.string ⟨x.2.2.2.2.toArray⟩) ∧ W.cell? ⟨g, p, none⟩ = some (.int .i64 (r : Int)) ∧ W.cell? ⟨b, oo + r * 9, none⟩ = some (.int .i64 y.1.1) ∧ W.cell? ⟨b, oo + r * 9 + 1, none⟩ = some (.string ⟨y.1.2.1.toArray⟩) ∧ W.cell? ⟨b, oo + r * 9 + 2, none⟩ = some (.string ⟨y.1.2.2.toArray⟩) ∧ W.cell? ⟨b, oo + r * 9 + 3, none⟩ = some (.int .i64 y.2.1.1) ∧ W.cell? ⟨b, oo + r * 9 + 4, none⟩ = some (.string ⟨y.2.1.2.1.toArray⟩) ∧ W.cell? ⟨b, oo + r * 9 + 5, none⟩ = some (.string ⟨y.2.1.2.2.toArray⟩) ∧ W.cell? ⟨b, oo + r * 9 + 6, none⟩ = some (.int .i64 y.2.2.1) ∧ W.cell? ⟨b, oo + r * 9 + 7, none⟩ = some (.string ⟨y.2.2.2.1.toArray⟩) ∧ W.cell? ⟨b, oo + r * 9 + 8, none⟩ = some (.string ⟨y.2.2.2.2.toArray⟩) := fun W h => by
                have z := fun (a : Addr) (v : Value) (hv : w2.cell? a = some v) => (RowKit.Below.cell h (World.block_lt_of_cell? w2 a hv)).trans hv
                exact ⟨h, z _ _ c0, z _ _ c1, z _ _ c2, z _ _ c3, z _ _ c4, z _ _ c5, z _ _ c6, z _ _ c7, z _ _ c8, z _ _ g0, z _ _ e0, z _ _ e1, z _ _ e2, z _ _ e3, z _ _ e4, z _ _ e5, z _ _ e6, z _ _ e7, z _ _ e8⟩
              have Hmk : Hid _ := mk
              have hr0 : BL w2 w2.drew := (BL.refl w2).drew
              clear mk
              obtain ⟨dd, hdd⟩ : ∃ dd, dd = decide (cmpO q x y < 0) := ⟨_, rfl⟩
              rw [← hdd] at HC
              have Hdd : Hid (dd = decide (cmpO q x y < 0)) := hdd
              clear hdd HT
              cases dd
              · have hnl : Hid (¬ cmpO q x y < 0) := by have := Hdd.out; simpa [Hid] using this
                go_wp2_with fail
                go_region_held3 (fun W => BL w2 W ∧ W.cell? ⟨b, oo + i * 9, none⟩ = some (.int .i64 x.1.1) ∧ W.cell? ⟨b, oo + i * 9 + 1, none⟩ = some (.string ⟨x.1.2.1.toArray⟩) ∧ W.cell? ⟨b, oo + i * 9 + 2, none⟩ = some (.string ⟨x.1.2.2.toArray⟩) ∧ W.cell? ⟨b, oo + i * 9 + 3, none⟩ = some (.int .i64 x.2.1.1) ∧ W.cell? ⟨b, oo + i * 9 + 4, none⟩ = some (.string ⟨x.2.1.2.1.toArray⟩) ∧ W.cell? ⟨b, oo + i * 9 + 5, none⟩ = some (.string ⟨x.2.1.2.2.toArray⟩) ∧ W.cell? ⟨b, oo + i * 9 + 6, none⟩ = some (.int .i64 x.2.2.1) ∧ W.cell? ⟨b, oo + i * 9 + 7, none⟩ = some (.string ⟨x.2.2.2.1.toArray⟩) ∧ W.cell? ⟨b, oo + i * 9 + 8, none⟩ = some (.string ⟨x.2.2.2.2.toArray⟩) ∧ W.cell? ⟨g, p, none⟩ = some (.int .i64 (r : Int)) ∧ W.cell? ⟨b, oo + r * 9, none⟩ = some (.int .i64 y.1.1) ∧ W.cell? ⟨b, oo + r * 9 + 1, none⟩ = some (.string ⟨y.1.2.1.toArray⟩) ∧ W.cell? ⟨b, oo + r * 9 + 2, none⟩ = some (.string ⟨y.1.2.2.toArray⟩) ∧ W.cell? ⟨b, oo + r * 9 + 3, none⟩ = some (.int .i64 y.2.1.1) ∧ W.cell? ⟨b, oo + r * 9 + 4, none⟩ = some (.string ⟨y.2.1.2.1.toArray⟩) ∧ W.cell? ⟨b, oo + r * 9 + 5, none⟩ = some (.string ⟨y.2.1.2.2.toArray⟩) ∧ W.cell? ⟨b, oo + r * 9 + 6, none⟩ = some (.int .i64 y.2.2.1) ∧ W.cell? ⟨b, oo + r * 9 + 7, none⟩ = some (.string ⟨y.2.2.2.1.toArray⟩) ∧ W.cell? ⟨b, oo + r * 9 + 8, none⟩ = some (.string ⟨y.2.2.2.2.toArray⟩)) ((refine Hmk.out _ ?_; first | (with_reducible exact BL.call (And.left (by assumption)) hb3) | (with_reducible exact hr0) | (with_reducible exact And.left (by assumption)))) (first
                  | (go_at_call 42; refine (HC _).mono ?_; rintro e w3 ⟨rfl, hb3⟩))
                have hB3 := bstep hb2.drew hb3
                have hBz := bstep hbr hB3
                have hlo : Hid _ := flo.out hnl.out
                clear c0 c1 c2 c3 c4 c5 c6 c7 c8 e0 e1 e2 e3 e4 e5 e6 e7 e8 g0 HC Hmk hr0 hb3 fhi flo Hdd hnl
                generalize w3 = wz at *
                have hrows := Hrg.out.below hB3
                rw [← List.take_append_drop k t] at hrows
                have hlk : (t.take k).length = k := by simp; omega
                have hld : (t.drop k).length = t.length - k := by simp
                have hparts := hrows.part
                rw [hlk] at hparts
                have Hhd : Hid (SlN wz (some ⟨g, 0, none⟩) (t.take k)) := fun _ => ⟨g, 0, rfl, hparts.1⟩
                have Htl2 : Hid (SlN wz (some ⟨g, k, none⟩) (t.drop k)) := fun _ => ⟨g, k, rfl, by have := hparts.2; rwa [Nat.zero_add] at this⟩
                clear hrows hparts hown
                have Hnil : Hid (wz.ownsRow wz.heap.size 3 1 (.slice none 0 0) ([] : List Nat).length (cellsI [])) := World.ownsRow_nil _ _ _ _
                have hfin : Hid (PlacesTo q l (i + 1) (t.take k ++ [i] ++ t.drop k)) := insP ht.out hhi.out hlo.out
                have hcap' : (k : Int) ≤ (ct : Int) := by have := Hcap.out; omega
                have hcap0 : (0 : Int) ≤ (k : Int) := by omega
                have htl0' : (k : Int) ≤ (t.length : Int) := by omega
                clear ht hhi hlo
                by_cases hck : ct = k
                · have hdn : Hid (t.drop k = []) := by show _ = _; have := Hcap.out; rw [List.drop_eq_nil_iff]; omega
                  have hld0 : t.length - k = 0 := by have := Hcap.out; omega
                  rw [hld0] at hld
                  have hck' := hck.symm
                  clear hck
                  subst hck'
                  go_wp2_with (first
                    | (at_builtin; refine wpList_append_listN _ rfl _ _ rfl wz.heap.size _ [] (t.take k) (some ⟨g, 0, none⟩) _ rfl (congrArg (fun n => Value.slice (some ⟨g, 0, none⟩) n _) hlk.symm) Hnil.out Hhd.out (by simp; omega) (Nat.le_refl _) ?_; clear Hnil; intro v1 w5 hown1 hb5
                       have Hown1 : Hid (w5.ownsRow wz.heap.size 3 1 v1 (t.take k).length (cellsI (t.take k))) := hown1
                       clear hown1
                       have hz5 := hb5.size)
                    | (at_builtin; refine wpList_append_listN _ rfl _ _ rfl wz.heap.size _ (t.take k) [i] (some ⟨w5.heap.size, 0, none⟩) 1 rfl rfl (Hown1.out.alloc _) (slN_one _ _ _) (by simp; omega) (by simp; omega) ?_; clear Hown1; intro v2 w6 hown2 hb6
                       have Hown2 : Hid (w6.ownsRow wz.heap.size 3 1 v2 ((t.take k) ++ [i]).length (cellsI ((t.take k) ++ [i]))) := hown2
                       clear hown2
                       have hb6' : RowKit.Below wz.heap.size wz w6 := (hb5.alloc hz5 _).trans hb6
                       have hz6 := hb6'.size)
                    | (at_builtin; refine wpList_append_listN _ rfl _ _ rfl wz.heap.size _ (t.take k ++ [i]) (t.drop k) _ _ rfl (congrArg (fun n => Value.slice _ n _) hld.symm) Hown2.out (fun h => absurd hdn.out h) (by simp <;> omega) hz6 ?_; clear Hown2; intro v3 w7 hown3 hb7
                       have Hown3 : Hid (w7.ownsRow wz.heap.size 3 1 v3 ((t.take k ++ [i]) ++ (t.drop k)).length (cellsI ((t.take k ++ [i]) ++ (t.drop k)))) := hown3
                       clear hown3
                       have hb7' : RowKit.Below wz.heap.size wz w7 := hb6'.trans hb7))
                  go_roundw
                  case rel => exact ⟨i + 1, t.take k ++ [i] ++ t.drop k, by omega, by go_num, hfin.out, ownsRow_baseN Hown3.out hBz.size, bstep hBz hb7'⟩
                  case measure => simp [intOf]; omega
                · skip
                  go_wp2_with (first
                    | (at_builtin; refine wpList_append_listN _ rfl _ _ rfl wz.heap.size _ [] (t.take k) (some ⟨g, 0, none⟩) ct rfl (congrArg (fun n => Value.slice (some ⟨g, 0, none⟩) n _) hlk.symm) Hnil.out Hhd.out (by simp; omega) (Nat.le_refl _) ?_; clear Hnil; intro v1 w5 hown1 hb5
                       have Hown1 : Hid (w5.ownsRow wz.heap.size 3 1 v1 (t.take k).length (cellsI (t.take k))) := hown1
                       clear hown1
                       have hz5 := hb5.size)
                    | (at_builtin; refine wpList_append_listN _ rfl _ _ rfl wz.heap.size _ (t.take k) [i] (some ⟨w5.heap.size, 0, none⟩) 1 rfl rfl (Hown1.out.alloc _) (slN_one _ _ _) (by simp; omega) (by simp; omega) ?_; clear Hown1; intro v2 w6 hown2 hb6
                       have Hown2 : Hid (w6.ownsRow wz.heap.size 3 1 v2 ((t.take k) ++ [i]).length (cellsI ((t.take k) ++ [i]))) := hown2
                       clear hown2
                       have hb6' : RowKit.Below wz.heap.size wz w6 := (hb5.alloc hz5 _).trans hb6
                       have hz6 := hb6'.size)
                    | (at_builtin; refine wpList_append_listN _ rfl _ _ rfl wz.heap.size _ (t.take k ++ [i]) (t.drop k) (some ⟨g, k, none⟩) (ct - k) rfl (congrArg (fun n => Value.slice (some ⟨g, k, none⟩) n (ct - k)) hld.symm) Hown2.out (Htl2.out.below hb6') (by simp <;> omega) hz6 ?_; clear Hown2; intro v3 w7 hown3 hb7
                       have Hown3 : Hid (w7.ownsRow wz.heap.size 3 1 v3 ((t.take k ++ [i]) ++ (t.drop k)).length (cellsI ((t.take k ++ [i]) ++ (t.drop k)))) := hown3
                       clear hown3
                       have hb7' : RowKit.Below wz.heap.size wz w7 := hb6'.trans hb7))
                  go_roundw
                  case rel => exact ⟨i + 1, t.take k ++ [i] ++ t.drop k, by omega, by go_num, hfin.out, ownsRow_baseN Hown3.out hBz.size, bstep hBz hb7'⟩
                  case measure => simp [intOf]; omega
              · have hnl : Hid (cmpO q x y < 0) := by have := Hdd.out; simpa [Hid] using this
                go_wp2_with fail
                go_region_held3 (fun W => BL w2 W ∧ W.cell? ⟨b, oo + i * 9, none⟩ = some (.int .i64 x.1.1) ∧ W.cell? ⟨b, oo + i * 9 + 1, none⟩ = some (.string ⟨x.1.2.1.toArray⟩) ∧ W.cell? ⟨b, oo + i * 9 + 2, none⟩ = some (.string ⟨x.1.2.2.toArray⟩) ∧ W.cell? ⟨b, oo + i * 9 + 3, none⟩ = some (.int .i64 x.2.1.1) ∧ W.cell? ⟨b, oo + i * 9 + 4, none⟩ = some (.string ⟨x.2.1.2.1.toArray⟩) ∧ W.cell? ⟨b, oo + i * 9 + 5, none⟩ = some (.string ⟨x.2.1.2.2.toArray⟩) ∧ W.cell? ⟨b, oo + i * 9 + 6, none⟩ = some (.int .i64 x.2.2.1) ∧ W.cell? ⟨b, oo + i * 9 + 7, none⟩ = some (.string ⟨x.2.2.2.1.toArray⟩) ∧ W.cell? ⟨b, oo + i * 9 + 8, none⟩ = some (.string ⟨x.2.2.2.2.toArray⟩) ∧ W.cell? ⟨g, p, none⟩ = some (.int .i64 (r : Int)) ∧ W.cell? ⟨b, oo + r * 9, none⟩ = some (.int .i64 y.1.1) ∧ W.cell? ⟨b, oo + r * 9 + 1, none⟩ = some (.string ⟨y.1.2.1.toArray⟩) ∧ W.cell? ⟨b, oo + r * 9 + 2, none⟩ = some (.string ⟨y.1.2.2.toArray⟩) ∧ W.cell? ⟨b, oo + r * 9 + 3, none⟩ = some (.int .i64 y.2.1.1) ∧ W.cell? ⟨b, oo + r * 9 + 4, none⟩ = some (.string ⟨y.2.1.2.1.toArray⟩) ∧ W.cell? ⟨b, oo + r * 9 + 5, none⟩ = some (.string ⟨y.2.1.2.2.toArray⟩) ∧ W.cell? ⟨b, oo + r * 9 + 6, none⟩ = some (.int .i64 y.2.2.1) ∧ W.cell? ⟨b, oo + r * 9 + 7, none⟩ = some (.string ⟨y.2.2.2.1.toArray⟩) ∧ W.cell? ⟨b, oo + r * 9 + 8, none⟩ = some (.string ⟨y.2.2.2.2.toArray⟩)) ((refine Hmk.out _ ?_; first | (with_reducible exact BL.call (And.left (by assumption)) hb3) | (with_reducible exact hr0) | (with_reducible exact And.left (by assumption)))) (first
                  | (go_at_call 42; refine (HC _).mono ?_; rintro e w3 ⟨rfl, hb3⟩))
                have hB3 := bstep hb2.drew hb3
                go_wp2_with fail
                exact ⟨⟨p, by omega, by go_num, fhi.out hnl.out, hB3⟩, by have := Hkp.out; simp [intOf]; omega⟩
      · obtain rfl : i = l.length := by omega
        obtain ⟨ad', cap', rfl, hsl⟩ := own_ints hown.out
        have Hsl : Hid _ := hsl
        have Ht : Hid (IsPlaces q l t) := ht.out
        clear hown hsl ht
        go_wp2_with fail
        exact bodyPost_ret (v := .tuple #[.slice ad' t.length cap', .bool true]) (by simp [results, Tryz.results14, go_sem]) rfl (PAns.mk hbr t ad' cap' Hsl.out Ht.out)
end Go.Proofs.YtnlcfnpcjkcdmacGreatDoor
