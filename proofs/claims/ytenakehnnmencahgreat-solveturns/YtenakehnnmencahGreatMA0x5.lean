import Derived.Test.YtenakehnnmencahGreatMA0x4
import Derived.Shelf.SlMaps.Clone
import Derived.Maps.Ext
import Derived.Laws.IdiomRangeMap
import Derived.Test.YtenakehnnmencahGreatMA0x0
import Derived.Test.YtenakehnnmencahGreatMA0x1
import Derived.Lib.Builder
import Derived.OwnWalk
import Derived.Deep.RegionWith
import Derived.BigQuiet
import Derived.Outline
import Derived.Test.YtenakehnnmencahGreatMA0x2

/- maps.Clone and maps.Copy at answers; solve.both. -/
namespace Go.Proofs.YtenakehnnmencahGreat
open Go Go.RowKit Go.Proofs Go.Maps
set_option synthInstance.maxSize 1000

theorem EvAt.same {w : World} {bm n : Nat} {f g : Ev} (h : EvAt w bm n f) (e : ∀ v : List UInt8, v.length ≤ maxLen → f v = g v) : EvAt w bm n g := by
  obtain ⟨D, o, k⟩ := h
  exact ⟨D, o, fun v hv => by rw [← e v hv]; exact k v hv⟩
theorem termElemM_form {v : Value} {y : DataW Unit × List MemPlace} (h : termElemM v = some y) : ∃ c : Tm, v = .agg #[.int .i64 c.1, .string ⟨c.2.1.toArray⟩, .string ⟨c.2.2.toArray⟩] ∧ y = (encDM c, []) := by
  unfold termElemM at h
  split at h
  · rename_i cs
    split at h
    · rename_i k S L hcs
      injection h with h
      obtain ⟨l, rfl⟩ : ∃ l : List Value, cs = l.toArray := ⟨cs.toList, by simp⟩
      simp at hcs
      subst hcs
      exact ⟨(k, S.data.toList, L.data.toList), rfl, h.symm⟩
    · cases h
  · cases h
theorem keyOf_string_invE {P : Program} {k : TypeId} (hk : P.underlying k = some .string) {key : Value} {kl : Lit} (h : keyOf P k key = some kl) : ∃ v : List UInt8, key = .string ⟨v.toArray⟩ ∧ kl = .string v ∧ v.length ≤ maxLen := by
  cases key <;> simp [keyOf, hk, mapKey] at h
  rename_i s
  obtain ⟨h1, h2⟩ := h
  exact ⟨s.data.toList, rfl, h2.symm, h1⟩
theorem keyOf_v_inv {key : Value} {kl : Lit} (h : keyOf Tryz.prog 9 key = some kl) : ∃ v : List UInt8, key = .string ⟨v.toArray⟩ ∧ kl = .string v ∧ v.length ≤ maxLen := keyOf_string_invE Tryz.underlying9 h
set_option maxHeartbeats 2000000 in
set_option maxRecDepth 100000 in
theorem CloneE_any (b : Nat) (es : Array MapEntry) (clock : Nat) (w : World) (hb : w.heap[b]? = some (.map es clock)) :
    Calls Tryz.prog 156 #[.map (some b)] w fun e w' => e = .returned (.map (some w.heap.size)) ∧ w' = w.alloc (.map es clock) := by
  have hq := fun w => run_eql_map_nil_sl (P := Tryz.prog) w 89 _ _ (some b) Tryz.underlying89
  go_enter Tryz.func156, Tryz.ntmps156
  go_wp2
  rw [run_callFunc_extern Tryz.func195 (by kernel_rfl) (by kernel_rfl) (by kernel_rfl) (e := Extern.MapsClone.clone) (by kernel_rfl), run_maps_clone_sl w 89 hb]
  simp only [Result.andThen]
  rw [Oper.upon_value]
  go_wp2
  rw [run_typeAssert_map_sl _ 89 _ _ _ _ Tryz.underlying89]
  simp only [Result.andThen]
  rw [Oper.upon_value]
  go_wp2
  go_ret
  exact ⟨rfl, rfl⟩
theorem CloneM_any (b n : Nat) (f : Ev) (w : World) (h : EvAt w b n f) :
    Calls Tryz.prog 156 #[.map (some b)] w fun e w' => e = .returned (.map (some w.heap.size)) ∧ EvAt w' w.heap.size n f ∧ RowKit.Below w.heap.size w w' := by
  obtain ⟨D, ⟨es, clock, hb, r⟩, k⟩ := h
  refine (CloneE_any b es clock w hb).mono ?_
  rintro e w' ⟨rfl, rfl⟩
  exact ⟨rfl, ⟨D, ⟨es, clock, (MapKept.heap_alloc w _).1, r⟩, k⟩, balloc _ _⟩
/-- as far as the range has come -/
def MergedE (h f g : Ev) (left : Lit → Bool) : Prop := ∀ v : List UInt8, v.length ≤ maxLen → h v = if (g v).isSome = true ∧ left (.string v) = false then g v else f v
set_option maxHeartbeats 4000000 in
set_option maxRecDepth 100000 in
theorem Copy_any (bd bs nd ns : Nat) (f g : Ev) (w : World) (hd : EvAt w bd nd f) (hs : EvAt w bs ns g) (hne : bd ≠ bs) (hroom : nd + ns < 1000000) :
    Calls Tryz.prog 157 #[.map (some bd), .map (some bs)] w fun e w' => e = .returned (.tuple #[]) ∧ EvAt w' bd (nd + ns) (bothE f g) ∧ w.grownBy w' (some bd) := by
  have hbd := hd.lt
  have hbs := hs.lt
  have Hd := hideE hd
  obtain ⟨Ds, os, ks⟩ := hs
  have Ks := hideE ks
  have hsz : Maps.size Ds ≤ ns := os.size_le
  clear hd ks
  go_enter Tryz.func157, Tryz.ntmps157
  go_wp2_with (at_range; refine wpList_range_own _ rfl _ 89 rfl 9 28 keyedStr Tryz.underlying89 termElemM bs ns Ds rfl os ?_; intro w0 hrg0 hg0 hs0)
  go_frame
  go_loopw [8] (fun _ wr => ∃ (left : Lit → Bool) (cnt : Nat) (h : Ev), wr.ranges Tryz.prog 9 termElemM bs w.heap.size ns Ds left cnt ∧ cnt ≤ Maps.size Ds ∧ Hid (EvAt wr bd (nd + (Maps.size Ds - cnt)) h) ∧ Hid (MergedE h f g left) ∧ w.grownBy wr (some bd))
    (fun _ wr => wr.rangeLeft bs w.heap.size)
  case atStart =>
    refine ⟨_, _, f, hrg0, Nat.le_refl _, ((Hd.out.kept hg0 (by simp)).mono (by omega)), ?_, hg0.but _⟩
    intro v hv
    rw [if_neg]
    rintro ⟨h1, h2⟩
    rw [(Ks.out v hv).1, h1] at h2
    cases h2
  case round =>
    obtain ⟨left, cnt, h, hrg, hcs, hout, hM, hgw⟩ := hrel
    go_wp2_with (at_next; refine wpList_next_ranges _ rfl _ rfl 9 keyedStr termElemM (fun v : List UInt8 => .string ⟨v.toArray⟩) (fun c : Tm => .agg #[.int .i64 c.1, .string ⟨c.2.1.toArray⟩, .string ⟨c.2.2.toArray⟩]) (fun key kl hk => by obtain ⟨x, hx, _⟩ := keyOf_v_inv hk; exact ⟨x, hx⟩) (fun v y hy => by obtain ⟨c, hc, _⟩ := termElemM_form hy; exact ⟨c, hc⟩) bs w.heap.size ns Ds left cnt rfl hrg ?_ ?_)
    · intro hc0 hl0
      go_wp2
      go_end0
      refine ⟨rfl, (hout.out.mono (by omega)).same (fun v hv => ?_), hgw⟩
      rw [hM.out v hv, hl0]
      unfold bothE
      cases hgv : g v <;> simp
    · intro v ck cS cL kl yd yp w1 cnt1 hkey hlx hv hat hrg1 hlt hg1 hs1 hen
      obtain ⟨v', ev, rfl, hvl⟩ := keyOf_v_inv hkey
      obtain rfl : v = v' := by simpa using ev
      clear ev
      have hout1 := hideE (hout.out.kept hg1 (fun e => by have := Option.some.inj e; omega))
      obtain ⟨c', ec, ey⟩ := termElemM_form hv
      have hg' : g v = some (ck, cS, cL) := by
        have e1 : c' = (ck, cS, cL) := by
          obtain ⟨a, b, c⟩ := c'
          simp at ec
          simp [ec]
        rw [e1] at ey
        have h1 := has_true_of_atKey hat
        rw [(Ks.out v hvl).1] at h1
        have h2 := (Ks.out v hvl).2
        rw [hat] at h2
        have h3 : yd = encDM (ck, cS, cL) := (Prod.mk.inj ey).1
        rw [h3] at h2
        have h4 := encDM_inj h2
        cases hgv : g v with
        | none => rw [hgv] at h1; cases h1
        | some z => rw [hgv] at h4; rw [h4]; rfl
      clear hv ec ey hat
      have hbr : bd < wr.heap.size := hout.out.lt
      obtain ⟨cc, rfl, rfl, rfl⟩ : ∃ cc : Tm, ck = cc.1 ∧ cS = cc.2.1 ∧ cL = cc.2.2 := ⟨(ck, cS, cL), rfl, rfl, rfl⟩
      go_wp2_with (first
        | (at_mapUpdate; go_loud (refine wpList_put_ev _ rfl _ _ _ rfl bd (nd + (Maps.size Ds - cnt)) h rfl (hout1.out.below (balloc _ _)) (by unfold maxLen; omega) v hvl rfl cc rfl ?_); intro w2 hout2 hg2))
      have hrg2 := (hrg1.alloc _).kept hg2 (fun e => hne (Option.some.inj e).symm) (fun e => by have := Option.some.inj e; omega)
      have hMM : Hid (MergedE (putEv h v cc) f g (fun z => left z && !z.sameKey (.string v))) := by
        intro u hu
        unfold putEv
        by_cases e : u = v
        · subst e
          rw [if_pos rfl, if_pos ⟨by rw [hg']; rfl, by simp [Lit.sameKey]⟩, hg']
        · rw [if_neg e, hM.out u hu]
          have hne2 : (Lit.string u).sameKey (Lit.string v) = false := Maps.sameKey_ne (fun e' => e (by simpa using e'))
          show _ = if (g u).isSome = true ∧ (left (Lit.string u) && !(Lit.string u).sameKey (Lit.string v)) = false then g u else f u
          rw [hne2]
          simp
      have hgg := ((hgw.andThen hg1 (fun j hj => .inl (by cases hj; exact Nat.le_refl _))).andThen (World.grownBy_alloc _ (.cells #[.int .i64 cc.1, .string ⟨cc.2.1.toArray⟩, .string ⟨cc.2.2.toArray⟩] 28) (some bd)) (fun j hj => .inr hj)).andThen hg2 (fun j hj => .inr hj)
      have hou : Hid (EvAt w2 bd (nd + (Maps.size Ds - cnt1)) (putEv h v cc)) := hout2.mono (by omega)
      have hc1 : cnt1 ≤ Maps.size Ds := by omega
      go_roundw
      case rel => first | exact ⟨_, cnt1, _, hrg2, hc1, hou, hMM, hgg⟩ | ((repeat apply Exists.intro); exact ⟨⟨_, cnt1, _, hrg2, hc1, hou, hMM, hgg⟩, rfl⟩)
      case measure => rw [hrg2.left_eq, hrg.left_eq]; exact hlt
theorem both_any (bx bg nx ng : Nat) (f g : Ev) (w : World) (hx : EvAt w bx nx f) (hg : EvAt w bg ng g) (hroom : nx + ng < 1000000) :
    Calls Tryz.prog 107 #[.map (some bx), .map (some bg)] w fun e w' => e = .returned (.map (some w.heap.size)) ∧ EvAt w' w.heap.size (nx + ng) (bothE f g) ∧ RowKit.Below w.heap.size w w' := by
  have HC := CloneM_any bx nx f w hx
  have Hg := hideE hg
  have hlt := hg.lt
  clear hx hg
  go_enter Tryz.func107, Tryz.ntmps107
  go_wp2_with fail
  refine HC.mono ?_
  rintro e w1 ⟨rfl, he1, hb1⟩
  have HY := Copy_any w.heap.size bg nx ng f g w1 he1 (Hg.out.below hb1) (by omega) hroom
  clear he1
  go_wp2_with fail
  refine HY.mono ?_
  rintro e w2 ⟨rfl, he2, hg2⟩
  go_wp2_with fail
  go_ret
  exact ⟨rfl, he2, below_grownE hb1 hg2 (Nat.le_refl _) (Nat.le_refl _)⟩
end Go.Proofs.YtenakehnnmencahGreat

/- strings.Builder: WriteByte (its own check walked here), String; strings.Clone. -/
namespace Go.Proofs.YtenakehnnmencahGreat
open Go Go.RowKit Go.Proofs

theorem neBuilder : (170 : TypeId) ≠ 5 := by decide
theorem sizeBuilder : (Tryz.prog.info? 170).map (·.size) = some 2 := by kernel_rfl
theorem liesBuilder : liesAt Tryz.prog Tryz.prog.depth 170 (2 / Tryz.prog.cellsOf 170) 0 170 1 = true := by kernel_rfl
theorem infoByte : (Tryz.prog.info? 5).map (fun i => (i.zero, i.size, i.bytes)) = some (some (.int .u8 0), 1, 1) := by kernel_rfl

set_option maxHeartbeats 1000000 in
set_option maxRecDepth 100000 in
theorem copyCheck_fresh (b : Nat) (w : World) (h0 : w.cell? ⟨b, 0, none⟩ = some (.pointer none)) (hsh : w.shape? b = some (170, 2)) (hz : w.frozen? ⟨b, 0, none⟩ = false) :
    Calls Tryz.prog 146 #[.pointer (some ⟨b, 0, none⟩)] w fun e w' => e = .returned (.tuple #[]) ∧ w' = w.setCell ⟨b, 0, none⟩ (.pointer (some ⟨b, 0, none⟩)) := by
  obtain ⟨j, hj, hjs⟩ := Option.map_eq_some_iff.1 sizeBuilder
  go_enter Tryz.func146, Tryz.ntmps146
  go_wp2
  rw [Lib.run_to_unsafe w ⟨b, 0, none⟩ Tryz.underlying167 Tryz.underlying244 hj (by rw [hjs]; decide) hsh (Nat.zero_lt_succ 1)]
  simp only [Result.andThen]
  rw [Oper.upon_value]
  go_wp2
  rw [run_callFunc_extern Tryz.func187 (by kernel_rfl) (by kernel_rfl) (by kernel_rfl) (e := Extern.AbiNoEscape.same) (by kernel_rfl)]
  rw [Lib.run_noEscape]
  simp only [Result.andThen]
  rw [Oper.upon_value]
  go_wp2
  rw [Lib.run_from_unsafe w ⟨b, 0, none⟩ Tryz.underlying244 Tryz.underlying167 hj hsh liesBuilder]
  simp only [Result.andThen]
  rw [Oper.upon_value]
  go_wp2
  go_end0
  exact ⟨rfl, rfl⟩

set_option maxHeartbeats 1000000 in
set_option maxRecDepth 100000 in
theorem copyCheck_used (b : Nat) (w : World) (h0 : w.cell? ⟨b, 0, none⟩ = some (.pointer (some ⟨b, 0, none⟩))) :
    Calls Tryz.prog 146 #[.pointer (some ⟨b, 0, none⟩)] w fun e w' => e = .returned (.tuple #[]) ∧ w' = w := by
  obtain ⟨j, hj, _⟩ := Option.map_eq_some_iff.1 sizeBuilder
  go_enter Tryz.func146, Tryz.ntmps146
  go_wp2
  rw [Lib.run_neq_ptr_same w _ Tryz.underlying167 hj]
  go_wp2
  go_end0
  exact ⟨rfl, rfl⟩

theorem copyCheck_any (B b : Nat) (bs : List Value) (w : World) (h : Lib.IsBuilder 170 5 B b bs w) :
    Calls Tryz.prog 146 #[.pointer (some ⟨b, 0, none⟩)] w fun e w' => e = .returned (.tuple #[]) ∧ (Lib.BuilderAt 170 5 B b (.pointer (some ⟨b, 0, none⟩)) bs w' ∧ Below B w w') := by
  rcases h with h | h
  · refine (copyCheck_fresh b w h.cell0 h.shape h.frozen0).mono ?_
    rintro e w' ⟨rfl, rfl⟩
    exact ⟨rfl, h.used _, (Below.refl B w).setCell (p := ⟨b, 0, none⟩) h.1 _⟩
  · refine (copyCheck_used b w h.cell0).mono ?_
    rintro e w' ⟨rfl, rfl⟩
    exact ⟨rfl, h, Below.refl B _⟩

set_option maxHeartbeats 1000000 in
set_option maxRecDepth 100000 in
theorem WriteByte_any (B b : Nat) (bs : List Value) (c : Int) (w : World) (h : Lib.IsBuilder 170 5 B b bs w) (hlen : bs.length + 1 ≤ 140737488355328) (hBw : B ≤ w.heap.size) :
    Calls Tryz.prog 235 #[.pointer (some ⟨b, 0, none⟩), .int .u8 c] w fun e w' => e = .returned .nilIface ∧ (Lib.BuilderAt 170 5 B b (.pointer (some ⟨b, 0, none⟩)) (bs ++ [.int .u8 c]) w' ∧ Below B w w') := by
  obtain ⟨i0, hi, hz⟩ := Option.map_eq_some_iff.1 infoByte
  simp only [Prod.mk.injEq] at hz
  obtain ⟨hz0, hz1, hz2⟩ := hz
  go_enter Tryz.func235, Tryz.ntmps235
  go_wp2_with (go_at_call 146; refine (copyCheck_any B b bs _ h).mono ?_)
  rintro e w1 ⟨rfl, h1, hb1⟩
  obtain ⟨hB, v, hbk, hown, hne⟩ := h1
  have c0 : w1.cell? ⟨b, 0, none⟩ = some (.pointer (some ⟨b, 0, none⟩)) := by rw [Lib.cell_of_heap hbk]; rfl
  have c1 : w1.cell? ⟨b, 1, none⟩ = some v := by rw [Lib.cell_of_heap hbk]; rfl
  go_wp2_with (at_builtin; refine wpList_append_own _ rfl _ _ 168 rfl B 5 i0 (.int .u8 0) 1 1 Tryz.underlying168 hi hz0 hz1 hz2 rfl (by decide) _ _ _ rfl (hown.alloc _) ⟨w1.heap.size, 0, none⟩ 1 1 [.int .u8 c] rfl rfl ?c1 ?c2 ?c3 ?c4 ?c5 ?_)
  case c1 =>
    intro j u hj
    match j, hj with
    | 0, hj => simp at hj; subst hj; simp [Addr.add]
  case c2 => intro u hu; simp at hu; subst hu; rfl
  case c3 => unfold maxLen; omega
  case c4 => omega
  case c5 => have := hb1.size; simp; omega
  intro v' w2 hown' hgrow _
  have hlt : b < w1.heap.size := by
    rcases Nat.lt_or_ge b w1.heap.size with h' | h'
    · exact h'
    · simp [Array.getElem?_eq_none h'] at hbk
  have hb2 : w2.heap[b]? = some (.cells #[.pointer (some ⟨b, 0, none⟩), v] 170 (0, 0)) := by
    rw [hgrow.block b (by simp; omega) (fun e => hne e.symm), Lib.alloc_old w1 _ b hlt]
    exact hbk
  have d0 : w2.cell? ⟨b, 0, none⟩ = some (.pointer (some ⟨b, 0, none⟩)) := by rw [Lib.cell_of_heap hb2]; rfl
  have d1 : w2.cell? ⟨b, 1, none⟩ = some v := by rw [Lib.cell_of_heap hb2]; rfl
  have f1 : w2.frozen? ⟨b, 1, none⟩ = false := Lib.frozen_of_heap hb2 1
  obtain ⟨g, cap, rfl⟩ : ∃ g cap, v' = .slice (some ⟨g, 0, none⟩) (bs.length + 1) cap := by
    rcases hown'.2 with ⟨_, h0⟩ | ⟨g, cap, cur, hv, _⟩
    · omega
    · exact ⟨g, cap, hv⟩
  go_wp2
  go_ret
  refine ⟨rfl, ?_, ?_⟩
  · exact Lib.BuilderAt.put (T := 170) (e := 5) hB hb2 (bs' := bs ++ [.int .u8 c]) (by simpa using hown') neBuilder
  · exact ((hb1.alloc (by have := hb1.size; omega) _).grown hgrow (by have := hb1.size; simp; omega) (fun k hk => (hown.lt k hk).1)).setCell (p := ⟨b, 1, none⟩) hB _

theorem Clone_any (l : List UInt8) (w : World) (hl : l.length ≤ 281474976710656) :
    Calls Tryz.prog 91 #[.string ⟨l.toArray⟩] w fun e w' => e = .returned (.string ⟨l.toArray⟩) ∧ Below w.heap.size w w' := by
  go_enter Tryz.func91, Tryz.ntmps91
  go_wp2_with (go_at_call 135; refine (Tryz.stringslite_Clone ⟨l.toArray⟩ _ hl).mono ?_; rintro e w' ⟨rfl, hb⟩)
  go_ret
  exact ⟨rfl, hb⟩
end Go.Proofs.YtenakehnnmencahGreat

/- quote, langMark: a text between quotes, and what stands behind it. -/
namespace Go.Proofs.YtenakehnnmencahGreat
open Go Go.RowKit Go.Proofs

/-- what stands between the quotes -/
def escL (l : List UInt8) : List UInt8 := l.flatMap fun c => if markB (c.toNat : Int) then [92, c] else [c]
def quoteL (l : List UInt8) : List UInt8 := 34 :: (escL l ++ [34])

theorem escL_len (l : List UInt8) : (escL l).length ≤ 2 * l.length := by
  induction l with
  | nil => simp [escL]
  | cons c r ih =>
    have : escL (c :: r) = (if markB (c.toNat : Int) then [92, c] else [c]) ++ escL r := by simp [escL]
    rw [this, List.length_append]
    cases markB (c.toNat : Int) <;> simp <;> omega

theorem escL_take (l : List UInt8) (k : Nat) (h : k < l.length) : escL (l.take (k + 1)) = escL (l.take k) ++ if markB (l[k].toNat : Int) then [92, l[k]] else [l[k]] := by
  rw [List.take_succ_eq_append_getElem h]
  simp only [escL, List.flatMap_append, List.flatMap_cons, List.flatMap_nil, List.append_nil]

theorem cells_snoc (l : List UInt8) (c : UInt8) : Lib.byteCells l ++ [.int .u8 (c.toNat : Int)] = Lib.byteCells (l ++ [c]) := by simp [Lib.byteCells]

set_option maxHeartbeats 1000000 in
set_option maxRecDepth 100000 in
theorem quote_any (S : List UInt8) (w : World) (hs : S.length ≤ 1000000) :
    Calls Tryz.prog 204 #[.string ⟨S.toArray⟩] w fun e w' => e = .returned (.string ⟨(quoteL S).toArray⟩) ∧ Below w.heap.size w w' := by
  have hB0 := Lib.fresh_isBuilder 170 5 w
  go_enter Tryz.func204, Tryz.ntmps204
  go_wp2_with fail
  refine (WriteByte_any w.heap.size w.heap.size [] 34 _ hB0 (by simp) (by simp)).mono ?_
  rintro e w1 ⟨rfl, hI1, hb1⟩
  have hI1' : Lib.IsBuilder 170 5 w.heap.size w.heap.size (Lib.byteCells (34 :: escL (S.take 0))) w1 := Or.inr hI1
  clear hI1
  have hbw : Below w.heap.size w w1 := (balloc w _).trans hb1
  clear hb1 hB0
  go_wp2_with fail
  go_loopw [8] (fun i wr => ∃ k : Nat, k ≤ S.length ∧ i = .int .i64 k ∧ Lib.IsBuilder 170 5 w.heap.size w.heap.size (Lib.byteCells (34 :: escL (S.take k))) wr ∧ Below w.heap.size w wr) (fun i wr => S.length - (intOf i).toNat)
  case atStart => exact ⟨0, Nat.zero_le _, rfl, hI1', hbw⟩
  case round =>
    obtain ⟨k, hk, rfl, hI, hbr⟩ := hrel
    have hlen := escL_len (S.take k)
    have hlt2 : (S.take k).length ≤ k := List.length_take_le _ _
    have hsz := hbr.size
    clear hI1' hbw
    by_cases hlt : k < S.length
    · have hidx : ∀ h, (⟨S.toArray⟩ : ByteArray)[k]'h = S[k] := fun _ => rfl
      cases hm : markB (S[k].toNat : Int)
      · have hnext : Hid (Lib.byteCells (34 :: escL (S.take (k + 1))) = Lib.byteCells (34 :: escL (S.take k)) ++ [.int .u8 (S[k].toNat : Int)]) := by
          show _ = _; rw [cells_snoc, escL_take S k hlt, hm]; simp
        go_wp2_with (first | (go_at_call 236; refine (isMarked_any _ _).mono ?_; rintro e w' ⟨rfl, rfl⟩))
        refine (WriteByte_any w.heap.size w.heap.size _ _ _ hI (by simp [Lib.byteCells]; omega) hsz).mono ?_
        rintro e w2 ⟨rfl, hI2, hb2⟩
        rw [← hnext.out] at hI2
        go_wp2_with fail
        exact ⟨⟨k + 1, by omega, by go_num, Or.inr hI2, hbr.trans hb2⟩, by simp [intOf]; omega⟩
      · have hnext : Hid (Lib.byteCells (34 :: escL (S.take (k + 1))) = (Lib.byteCells (34 :: escL (S.take k)) ++ [.int .u8 92]) ++ [.int .u8 (S[k].toNat : Int)]) := by
          show _ = _
          have e92 : (.int .u8 92 : Value) = .int .u8 ((92 : UInt8).toNat : Int) := rfl
          rw [e92, cells_snoc, cells_snoc, escL_take S k hlt, hm]; simp
        go_wp2_with (first | (go_at_call 236; refine (isMarked_any _ _).mono ?_; rintro e w' ⟨rfl, rfl⟩))
        refine (WriteByte_any w.heap.size w.heap.size _ _ _ hI (by simp [Lib.byteCells]; omega) hsz).mono ?_
        rintro e w2 ⟨rfl, hI2, hb2⟩
        have hbr2 := hbr.trans hb2
        have hsz2 := hbr2.size
        go_wp2_with fail
        refine (WriteByte_any w.heap.size w.heap.size _ _ _ (Or.inr hI2) (by simp [Lib.byteCells]; omega) hsz2).mono ?_
        rintro e w3 ⟨rfl, hI3, hb3⟩
        rw [← hnext.out] at hI3
        go_wp2_with fail
        exact ⟨⟨k + 1, by omega, by go_num, Or.inr hI3, hbr2.trans hb3⟩, by simp [intOf]; omega⟩
    · have hk' : k = S.length := by omega
      subst hk'
      rw [List.take_length] at hI hlen
      go_wp2_with fail
      refine (WriteByte_any w.heap.size w.heap.size _ _ _ hI (by simp [Lib.byteCells]; omega) hsz).mono ?_
      rintro e w2 ⟨rfl, hI2, hb2⟩
      have hbr2 := hbr.trans hb2
      have hsz2 := hbr2.size
      have e34 : (.int .u8 34 : Value) = .int .u8 ((34 : UInt8).toNat : Int) := rfl
      rw [e34, cells_snoc] at hI2
      clear e34
      go_wp2_with fail
      refine (Tryz.Builder_String_any w.heap.size w.heap.size _ _ (Or.inr hI2) hsz2).mono ?_
      rintro e w3 ⟨rfl, hb3⟩
      go_wp2_with fail
      go_ret
      exact ⟨rfl, hbr2.trans hb3⟩

theorem str_app (a b : List UInt8) : ((⟨a.toArray⟩ : ByteArray) ++ (⟨b.toArray⟩ : ByteArray)) = ⟨(a ++ b).toArray⟩ := by
  apply ByteArray.ext
  rw [ByteArray.data_append]
  simp

def markL (L : List UInt8) : List UInt8 := match L with | [] => [] | c :: r => 64 :: c :: r
theorem markL_len (L : List UInt8) : (markL L).length ≤ L.length + 1 := by cases L <;> simp [markL]
theorem quoteL_len (L : List UInt8) : (quoteL L).length ≤ 2 * L.length + 2 := by have := escL_len L; simp [quoteL]; omega

theorem langMark_any (L : List UInt8) (w : World) (hl : L.length ≤ 1000000) :
    Calls Tryz.prog 205 #[.string ⟨L.toArray⟩] w fun e w' => e = .returned (.string ⟨(markL L).toArray⟩) ∧ w' = w := by
  cases L with
  | nil =>
    go_enter Tryz.func205, Tryz.ntmps205
    go_wp2
    go_ret
    exact ⟨rfl, rfl⟩
  | cons c r =>
    simp only [List.length_cons] at hl
    go_enter Tryz.func205, Tryz.ntmps205
    go_wp2
    go_ret
    exact ⟨ret_val (congrArg Value.string (str_app [64] (c :: r))), rfl⟩
end Go.Proofs.YtenakehnnmencahGreat

/- Print: a term as text. -/
namespace Go.Proofs.YtenakehnnmencahGreat
open Go Go.RowKit Go.Proofs

/-- the text of a right term -/
def showL (k : Int) (S L : List UInt8) : List UInt8 := if k = 2 then 95 :: S else if k = 3 then quoteL S ++ markL L else S
def printL (k : Int) (S L : List UInt8) : List UInt8 := if checkN k S L = 0 then showL k S L else []

theorem str_app2 (c : UInt8) (b : List UInt8) : ((⟨#[c]⟩ : ByteArray) ++ (⟨b.toArray⟩ : ByteArray)) = ⟨(c :: b).toArray⟩ := str_app [c] b

theorem Print_bad (k : Int) (S L : List UInt8) (w : World) (hs : S.length ≤ maxLen) (hl : L.length ≤ maxLen) (h : checkN k S L ≠ 0) :
    Calls Tryz.prog 185 #[.agg #[.int .i64 k, .string ⟨S.toArray⟩, .string ⟨L.toArray⟩]] w fun e w' => e = .returned (.tuple #[.string ⟨#[]⟩, errV (checkN k S L)]) ∧ Below w.heap.size w w' := by
  have he : errV (checkN k S L) = .iface 95 (.int .i64 (checkN k S L)) := by simp [errV, h]
  rw [he]
  have He : Hid (errV (checkN k S L) = .iface 95 (.int .i64 (checkN k S L))) := he
  clear he
  go_enter Tryz.func185, Tryz.ntmps185
  go_wp2_with fail
  refine (Check_any k S L _ hs hl).mono ?_
  rintro e w1 ⟨rfl, hb1⟩
  rw [He.out]
  go_wp2_with fail
  go_ret2
  exact ⟨rfl, bstep (balloc _ _) hb1⟩

set_option maxHeartbeats 2000000 in
theorem Print_text (S L : List UInt8) (w : World) (hS : S.length ≤ 24) (hL : L.length ≤ 2) (He : Hid (errV (checkN 3 S L) = .nilIface)) :
    Calls Tryz.prog 185 #[.agg #[.int .i64 3, .string ⟨S.toArray⟩, .string ⟨L.toArray⟩]] w fun e w' => e = .returned (.tuple #[.string ⟨(showL 3 S L).toArray⟩, .nilIface]) ∧ Below w.heap.size w w' := by
  have hs : S.length ≤ maxLen := by unfold maxLen; omega
  have hl : L.length ≤ maxLen := by unfold maxLen; omega
  have fin : Hid (showL 3 S L = quoteL S ++ markL L) := rfl
  go_enter Tryz.func185, Tryz.ntmps185
  go_wp2_with fail
  refine (Check_any 3 S L _ hs hl).mono ?_
  rintro e w1 ⟨rfl, hb1⟩
  obtain ⟨hc1, hf1⟩ := bcell hb1
  have hz : w.heap.size < w1.heap.size := by have := hb1.size; simp at this; omega
  rw [He.out]
  go_wp2_with fail
  have hcS : w1.cell? ⟨w.heap.size, 1, none⟩ = some (.string ⟨S.toArray⟩) := by rw [hc1 _ _ (by simp)]; simp
  have hcL : w1.cell? ⟨w.heap.size, 2, none⟩ = some (.string ⟨L.toArray⟩) := by rw [hc1 _ _ (by simp)]; simp
  clear hc1 hf1
  have hq := quoteL_len S
  have hm := markL_len L
  go_region_with (first
    | (go_at_call 204; refine (quote_any S _ (by omega)).mono ?_; rintro e w2 ⟨rfl, hb2⟩
       have hcS2 : w2.cell? ⟨w.heap.size, 1, none⟩ = some (.string ⟨S.toArray⟩) := (hb2.cell (p := ⟨w.heap.size, 1, none⟩) hz).trans hcS
       have hcL2 : w2.cell? ⟨w.heap.size, 2, none⟩ = some (.string ⟨L.toArray⟩) := (hb2.cell (p := ⟨w.heap.size, 2, none⟩) hz).trans hcL)
    | (go_at_call 205; refine (langMark_any L _ (by omega)).mono ?_; rintro e w3 ⟨rfl, rfl⟩))
  all_goals
    go_wp2
    go_ret2
    exact ⟨ret_two (by rw [fin.out, ← str_app]; rfl) rfl, bstep (bstep (balloc _ _) hb1) (bdrew hb2)⟩

theorem Print_good (k : Int) (S L : List UInt8) (w : World) (h : checkN k S L = 0) :
    Calls Tryz.prog 185 #[.agg #[.int .i64 k, .string ⟨S.toArray⟩, .string ⟨L.toArray⟩]] w fun e w' => e = .returned (.tuple #[.string ⟨(showL k S L).toArray⟩, .nilIface]) ∧ Below w.heap.size w w' := by
  obtain ⟨hk, hS, hsp⟩ := check_zero h
  have hL := spell_lang hsp
  have hs : S.length ≤ maxLen := by unfold maxLen; omega
  have hl : L.length ≤ maxLen := by unfold maxLen; omega
  have He : Hid (errV (checkN k S L) = .nilIface) := by show _ = _; rw [h]; rfl
  clear h hsp
  rcases hk with rfl | rfl | rfl
  · have fin : Hid (showL 1 S L = S) := rfl
    go_enter Tryz.func185, Tryz.ntmps185
    go_wp2_with fail
    refine (Check_any 1 S L _ hs hl).mono ?_
    rintro e w1 ⟨rfl, hb1⟩
    obtain ⟨hc1, hf1⟩ := bcell hb1
    rw [He.out]
    go_wp2_with fail
    refine (Clone_any S _ (by omega)).mono ?_
    rintro e w2 ⟨rfl, hb2⟩
    go_wp2_with fail
    go_ret2
    exact ⟨ret_two (by rw [fin.out]; rfl) rfl, bstep (bstep (balloc _ _) hb1) hb2⟩
  · have fin : Hid (showL 2 S L = 95 :: S) := rfl
    go_enter Tryz.func185, Tryz.ntmps185
    go_wp2_with fail
    refine (Check_any 2 S L _ hs hl).mono ?_
    rintro e w1 ⟨rfl, hb1⟩
    obtain ⟨hc1, hf1⟩ := bcell hb1
    rw [He.out]
    go_wp2_with fail
    go_ret2
    exact ⟨ret_two (by rw [fin.out, ← str_app2 95 S]; rfl) rfl, bstep (balloc _ _) hb1⟩
  · exact Print_text S L w hS hL He

theorem Print_any (k : Int) (S L : List UInt8) (w : World) (hs : S.length ≤ maxLen) (hl : L.length ≤ maxLen) :
    Calls Tryz.prog 185 #[.agg #[.int .i64 k, .string ⟨S.toArray⟩, .string ⟨L.toArray⟩]] w fun e w' => e = .returned (.tuple #[.string ⟨(printL k S L).toArray⟩, errV (checkN k S L)]) ∧ Below w.heap.size w w' := by
  by_cases h : checkN k S L = 0
  · refine (Print_good k S L w h).mono ?_
    rintro e w' ⟨rfl, hb⟩
    exact ⟨by rw [show printL k S L = showL k S L from if_pos h, h]; rfl, hb⟩
  · refine (Print_bad k S L w hs hl h).mono ?_
    rintro e w' ⟨rfl, hb⟩
    exact ⟨by rw [show printL k S L = [] from if_neg h], hb⟩
end Go.Proofs.YtenakehnnmencahGreat

/- unquote: up to the quote that ends a text. -/
namespace Go.Proofs.YtenakehnnmencahGreat
open Go Go.RowKit Go.Proofs

def unqL : List UInt8 → Option (List UInt8 × List UInt8)
  | [] => none
  | c :: r =>
    if c = 34 then some ([], r)
    else if c = 92 then
      match r with
      | [] => none
      | d :: r' => if markB (d.toNat : Int) then (unqL r').map (fun p => (d :: p.1, p.2)) else none
    else (unqL r).map (fun p => (c :: p.1, p.2))

theorem unqL_cons (c : UInt8) (r : List UInt8) : unqL (c :: r) = if c = 34 then some ([], r) else if c = 92 then (match r with | [] => none | d :: r' => if markB (d.toNat : Int) then (unqL r').map (fun p => (d :: p.1, p.2)) else none) else (unqL r).map (fun p => (c :: p.1, p.2)) := by
  cases r <;> rfl

def unqV (o : Option (List UInt8 × List UInt8)) : Value := match o with
  | none => .tuple #[.string ⟨#[]⟩, .string ⟨#[]⟩, .bool false]
  | some p => .tuple #[.string ⟨p.1.toArray⟩, .string ⟨p.2.toArray⟩, .bool true]

/-- what is read so far, and what is left to read -/
def unqAt (l : List UInt8) (k : Nat) (acc : List UInt8) : Prop := unqL l = (unqL (l.drop k)).map (fun p => (acc ++ p.1, p.2))

theorem unqAt_zero (l : List UInt8) : unqAt l 0 [] := by
  unfold unqAt; simp

theorem drop_at (l : List UInt8) (k : Nat) (h : k < l.length) : l.drop k = l[k] :: l.drop (k + 1) := List.drop_eq_getElem_cons h

theorem unqAt_end (l : List UInt8) (k : Nat) (acc : List UInt8) (h : unqAt l k acc) (hk : l.length ≤ k) : unqL l = none := by
  unfold unqAt at h
  rw [h, List.drop_eq_nil_of_le hk]; rfl

theorem unqAt_quote (l : List UInt8) (k : Nat) (acc : List UInt8) (h : unqAt l k acc) (hk : k < l.length) (hq : l[k] = 34) : unqL l = some (acc, l.drop (k + 1)) := by
  unfold unqAt at h
  rw [h, drop_at l k hk, hq, unqL_cons]; simp

theorem unqAt_plain (l : List UInt8) (k : Nat) (acc : List UInt8) (h : unqAt l k acc) (hk : k < l.length) (hq : l[k] ≠ 34) (hm : l[k] ≠ 92) : unqAt l (k + 1) (acc ++ [l[k]]) := by
  unfold unqAt at h ⊢
  rw [h, drop_at l k hk, unqL_cons, if_neg hq, if_neg hm, Option.map_map]
  congr 1
  funext p
  simp

theorem unqAt_cut (l : List UInt8) (k : Nat) (acc : List UInt8) (h : unqAt l k acc) (hk : k < l.length) (hm : l[k] = 92) (he : k + 1 = l.length) : unqL l = none := by
  unfold unqAt at h
  rw [h, drop_at l k hk, hm, List.drop_eq_nil_of_le (by omega), unqL_cons]; rfl

theorem unqAt_bad (l : List UInt8) (k : Nat) (acc : List UInt8) (h : unqAt l k acc) (hk : k + 1 < l.length) (hm : l[k] = 92) (hb : markB (l[k + 1].toNat : Int) = false) : unqL l = none := by
  unfold unqAt at h
  rw [h, drop_at l k (by omega), hm, drop_at l (k + 1) hk, unqL_cons, if_neg (by decide), if_pos rfl]; simp [hb]

theorem unqAt_mark (l : List UInt8) (k : Nat) (acc : List UInt8) (h : unqAt l k acc) (hk : k + 1 < l.length) (hm : l[k] = 92) (hb : markB (l[k + 1].toNat : Int) = true) : unqAt l (k + 2) (acc ++ [l[k + 1]]) := by
  unfold unqAt at h ⊢
  rw [h, drop_at l k (by omega), hm, drop_at l (k + 1) hk, unqL_cons, if_neg (by decide), if_pos rfl]
  simp only [hb, if_true, Option.map_map]
  congr 1
  funext p
  simp

theorem drop_extract (l : List UInt8) (k : Nat) : (⟨l.toArray⟩ : ByteArray).extract k l.length = ⟨(l.drop k).toArray⟩ := by
  apply ByteArray.ext
  rw [ByteArray.data_extract]
  simp
  exact List.take_of_length_le (by simp)

theorem bdrewB {B : Nat} {w w1 : World} (h : Below B w.drew w1) : Below B w w1 := ⟨h.os, h.tape, h.output, h.size, h.block⟩

theorem byte_eq (c d : UInt8) : ((c.toNat : Int) == (d.toNat : Int)) = (c == d) := by
  rw [Bool.eq_iff_iff]; simp [UInt8.toNat_inj, Int.natCast_inj]

set_option maxHeartbeats 2000000 in
set_option maxRecDepth 100000 in
theorem unquote_any (l : List UInt8) (w : World) (hl : l.length ≤ 140737488355328) :
    Calls Tryz.prog 258 #[.string ⟨l.toArray⟩] w fun e w' => e = .returned (unqV (unqL l)) ∧ Below w.heap.size w w' := by
  have hB0 := Lib.fresh_isBuilder 170 5 w
  go_enter Tryz.func258, Tryz.ntmps258
  go_wp2_with fail
  go_loopw [6] (fun i wr => ∃ (k : Nat) (acc : List UInt8), k ≤ l.length ∧ acc.length ≤ k ∧ i = .int .i64 k ∧ Hid (unqAt l k acc) ∧ Lib.IsBuilder 170 5 w.heap.size w.heap.size (Lib.byteCells acc) wr ∧ Below w.heap.size w wr) (fun i wr => l.length - (intOf i).toNat)
  case atStart => exact ⟨0, [], Nat.zero_le _, Nat.zero_le _, rfl, unqAt_zero l, hB0, balloc _ _⟩
  case round =>
    obtain ⟨k, acc, hk, hacc, rfl, hat, hI, hbr⟩ := hrel
    have hsz := hbr.size
    clear hB0
    by_cases hlt : k < l.length
    · have hidx : ∀ h, (⟨l.toArray⟩ : ByteArray)[k]'h = l[k] := fun _ => rfl
      by_cases hq : l[k] = 34
      · have fin : Hid (unqV (unqL l) = .tuple #[.string ⟨acc.toArray⟩, .string ⟨(l.drop (k + 1)).toArray⟩, .bool true]) := by
          show _ = _; rw [unqAt_quote l k acc hat.out hlt hq]; rfl
        have hq' : ((l[k].toNat : Int) == 34) = true := by rw [hq]; rfl
        clear hq
        go_wp2_with fail
        have hwr : IntKind.i64.wrap ((k : Int) + 1) = (k : Int) + 1 := by rw [IntKind.wrap_i64]; omega
        have hb1 : (k : Int) + 1 ≤ (l.length : Int) := by omega
        go_region_with (first
          | (go_at_call 100; refine (Tryz.Builder_String_any w.heap.size w.heap.size acc wr.drew hI hsz).mono ?_; rintro e w2 ⟨rfl, hb2⟩))
        all_goals
          go_wp2
          go_ret3
          exact ⟨ret_val (by rw [fin.out, ← drop_extract]; rfl), hbr.trans (bdrewB hb2)⟩
      · have hq' : ((l[k].toNat : Int) == 34) = false := by
          have := byte_eq l[k] 34
          rw [show ((34 : UInt8).toNat : Int) = 34 from rfl] at this
          rw [this]; simpa using hq
        by_cases hm : l[k] = 92
        · have hm' : ((l[k].toNat : Int) == 92) = true := by rw [hm]; rfl
          by_cases he : k + 1 = l.length
          · have fin : Hid (unqV (unqL l) = .tuple #[.string ⟨#[]⟩, .string ⟨#[]⟩, .bool false]) := by
              show _ = _; rw [unqAt_cut l k acc hat.out hlt hm he]; rfl
            have he' : (((k : Int) + 1) == (l.length : Int)) = true := by rw [beq_iff_eq]; omega
            clear hq hm he
            go_wp2
            go_ret3
            exact ⟨ret_val fin.out.symm, hbr⟩
          · have he' : (((k : Int) + 1) == (l.length : Int)) = false := by rw [beq_eq_false_iff_ne]; omega
            have hlt1 : k + 1 < l.length := by omega
            have hidx1 : ∀ h, (⟨l.toArray⟩ : ByteArray)[k + 1]'h = l[k + 1] := fun _ => rfl
            cases hb : markB (l[k + 1].toNat : Int)
            · have fin : Hid (unqV (unqL l) = .tuple #[.string ⟨#[]⟩, .string ⟨#[]⟩, .bool false]) := by
                show _ = _; rw [unqAt_bad l k acc hat.out hlt1 hm hb]; rfl
              clear hq hm he
              go_wp2_with (first | (go_at_call 236; refine (isMarked_any _ _).mono ?_; rintro e w' ⟨rfl, rfl⟩))
              go_ret3
              exact ⟨ret_val fin.out.symm, hbr⟩
            · have hnext : Hid (unqAt l (k + 2) (acc ++ [l[k + 1]])) := unqAt_mark l k acc hat.out hlt1 hm hb
              clear hq hm he
              go_wp2_with (first | (go_at_call 236; refine (isMarked_any _ _).mono ?_; rintro e w' ⟨rfl, rfl⟩))
              refine (WriteByte_any w.heap.size w.heap.size _ _ _ hI (by simp [Lib.byteCells]; omega) hsz).mono ?_
              rintro e w2 ⟨rfl, hI2, hb2⟩
              rw [cells_snoc] at hI2
              go_wp2_with fail
              exact ⟨⟨k + 2, _, by omega, by simp; omega, by go_num, hnext, Or.inr hI2, hbr.trans hb2⟩, by simp [intOf]; omega⟩
        · have hm' : ((l[k].toNat : Int) == 92) = false := by
            have := byte_eq l[k] 92
            rw [show ((92 : UInt8).toNat : Int) = 92 from rfl] at this
            rw [this]; simpa using hm
          have hnext : Hid (unqAt l (k + 1) (acc ++ [l[k]])) := unqAt_plain l k acc hat.out hlt hq hm
          clear hq hm
          go_wp2_with fail
          refine (WriteByte_any w.heap.size w.heap.size _ _ _ hI (by simp [Lib.byteCells]; omega) hsz).mono ?_
          rintro e w2 ⟨rfl, hI2, hb2⟩
          rw [cells_snoc] at hI2
          go_wp2_with fail
          exact ⟨⟨k + 1, _, by omega, by simp; omega, by go_num, hnext, Or.inr hI2, hbr.trans hb2⟩, by simp [intOf]; omega⟩
    · have fin : Hid (unqV (unqL l) = .tuple #[.string ⟨#[]⟩, .string ⟨#[]⟩, .bool false]) := by
        show _ = _; rw [unqAt_end l k acc hat.out (by omega)]; rfl
      go_wp2
      go_ret3
      exact ⟨ret_val fin.out.symm, hbr⟩
end Go.Proofs.YtenakehnnmencahGreat

/- readLang, readText, read: a text cut into the parts of a term. -/
namespace Go.Proofs.YtenakehnnmencahGreat
open Go Go.RowKit Go.Proofs

theorem cut_yes (c : UInt8) (r : List UInt8) (w : World) :
    Calls Tryz.prog 150 #[.string ⟨(c :: r).toArray⟩, .string ⟨#[c]⟩] w fun e w' => e = .returned (.tuple #[.string ⟨r.toArray⟩, .bool true]) ∧ w' = w := by
  refine (Tryz.strings_CutPrefix ⟨(c :: r).toArray⟩ ⟨#[c]⟩ w).mono ?_
  rintro e w' ⟨rfl, rfl⟩
  have h : Lib.hasPrefix (c :: r) [c] = true := by simp [Lib.hasPrefix]
  have h2 : Lib.trimPrefix (c :: r) [c] = r := by simp [Lib.trimPrefix, h]
  exact ⟨ret_two (by show Value.string ⟨(Lib.trimPrefix (c :: r) [c]).toArray⟩ = _; rw [h2]) (by show Value.bool (Lib.hasPrefix (c :: r) [c]) = _; rw [h]), rfl⟩

theorem cut_no (c d : UInt8) (r : List UInt8) (w : World) (hne : d ≠ c) :
    Calls Tryz.prog 150 #[.string ⟨(d :: r).toArray⟩, .string ⟨#[c]⟩] w fun e w' => e = .returned (.tuple #[.string ⟨(d :: r).toArray⟩, .bool false]) ∧ w' = w := by
  refine (Tryz.strings_CutPrefix ⟨(d :: r).toArray⟩ ⟨#[c]⟩ w).mono ?_
  rintro e w' ⟨rfl, rfl⟩
  have h : Lib.hasPrefix (d :: r) [c] = false := by show ((c == d) && _) = false; simp [Ne.symm hne]
  have h2 : Lib.trimPrefix (d :: r) [c] = d :: r := by simp [Lib.trimPrefix, h]
  exact ⟨ret_two (by show Value.string ⟨(Lib.trimPrefix (d :: r) [c]).toArray⟩ = _; rw [h2]) (by show Value.bool (Lib.hasPrefix (d :: r) [c]) = _; rw [h]), rfl⟩

theorem cut_nil (c : UInt8) (w : World) :
    Calls Tryz.prog 150 #[.string ⟨#[]⟩, .string ⟨#[c]⟩] w fun e w' => e = .returned (.tuple #[.string ⟨#[]⟩, .bool false]) ∧ w' = w := by
  refine (Tryz.strings_CutPrefix ⟨#[]⟩ ⟨#[c]⟩ w).mono ?_
  rintro e w' ⟨rfl, rfl⟩
  exact ⟨ret_two rfl rfl, rfl⟩

def langR (l : List UInt8) : Option (List UInt8) := match l with
  | [] => some []
  | c :: r => if c = 64 then (if langOk r then some r else none) else none
def langV (o : Option (List UInt8)) : Value := match o with
  | none => .tuple #[.string ⟨#[]⟩, .bool false]
  | some l => .tuple #[.string ⟨l.toArray⟩, .bool true]

theorem readLang_any (l : List UInt8) (w : World) (hl : l.length ≤ 140737488355328) :
    Calls Tryz.prog 259 #[.string ⟨l.toArray⟩] w fun e w' => e = .returned (langV (langR l)) ∧ Below w.heap.size w w' := by
  cases l with
  | nil =>
    go_enter Tryz.func259, Tryz.ntmps259
    go_wp2
    go_ret2
    exact ⟨rfl, Below.refl _ _⟩
  | cons c r =>
    simp only [List.length_cons] at hl
    by_cases hc : c = 64
    · subst hc
      have hr : r.length ≤ maxLen := by unfold maxLen; omega
      cases hk : langOk r
      · have fin : Hid (langV (langR (64 :: r)) = .tuple #[.string ⟨#[]⟩, .bool false]) := by
          show _ = _; simp [langR, hk, langV]
        go_enter Tryz.func259, Tryz.ntmps259
        go_wp2_with (first
          | (go_at_call 150; refine (cut_yes 64 r _).mono ?_; rintro e w' ⟨rfl, rfl⟩)
          | (go_at_call 123; refine (isLang_any r _ hr).mono ?_; rintro e w' ⟨rfl, rfl⟩))
        go_ret2
        exact ⟨ret_val fin.out.symm, Below.refl _ _⟩
      · have fin : Hid (langV (langR (64 :: r)) = .tuple #[.string ⟨r.toArray⟩, .bool true]) := by
          show _ = _; simp [langR, hk, langV]
        go_enter Tryz.func259, Tryz.ntmps259
        go_wp2_with (first
          | (go_at_call 150; refine (cut_yes 64 r _).mono ?_; rintro e w' ⟨rfl, rfl⟩)
          | (go_at_call 123; refine (isLang_any r _ hr).mono ?_; rintro e w' ⟨rfl, rfl⟩)
          | (go_at_call 91; refine (Clone_any r _ (by omega)).mono ?_; rintro e w' ⟨rfl, hb⟩))
        go_ret2
        exact ⟨ret_val fin.out.symm, hb⟩
    · have fin : Hid (langV (langR (c :: r)) = .tuple #[.string ⟨#[]⟩, .bool false]) := by
        show _ = _; simp [langR, hc, langV]
      go_enter Tryz.func259, Tryz.ntmps259
      go_wp2_with (first
        | (go_at_call 150; refine (cut_no 64 c r _ hc).mono ?_; rintro e w' ⟨rfl, rfl⟩))
      go_ret2
      exact ⟨ret_val fin.out.symm, Below.refl _ _⟩

/-- how long the parts are that are read -/
theorem unqL_len (n : Nat) : ∀ (l s b : List UInt8), l.length ≤ n → unqL l = some (s, b) → s.length + b.length < l.length := by
  induction n with
  | zero => intro l s b hl h; cases l with
    | nil => simp [unqL] at h
    | cons => simp at hl
  | succ n ih =>
    intro l s b hl h
    cases l with
    | nil => simp [unqL] at h
    | cons c r =>
      rw [unqL_cons] at h
      simp only [List.length_cons] at hl ⊢
      by_cases hc : c = 34
      · simp [hc] at h; obtain ⟨rfl, rfl⟩ := h; simp
      · rw [if_neg hc] at h
        by_cases hm : c = 92
        · rw [if_pos hm] at h
          cases r with
          | nil => simp at h
          | cons d r' =>
            simp only at h
            cases hb : markB (d.toNat : Int)
            · simp [hb] at h
            · simp only [hb, if_true, Option.map_eq_some_iff] at h
              obtain ⟨⟨s', b'⟩, h1, h2⟩ := h
              simp only [Prod.mk.injEq] at h2
              obtain ⟨rfl, rfl⟩ := h2
              have := ih r' s' b' (by simp at hl; omega) h1
              simp; omega
        · rw [if_neg hm, Option.map_eq_some_iff] at h
          obtain ⟨⟨s', b'⟩, h1, h2⟩ := h
          simp only [Prod.mk.injEq] at h2
          obtain ⟨rfl, rfl⟩ := h2
          have := ih r s' b' (by omega) h1
          simp; omega

theorem bset3 {w w1 : World} (h : Below w.heap.size w w1) (a b c : Value) : Below w.heap.size w (((w1.setCell ⟨w.heap.size, 0, none⟩ a).setCell ⟨w.heap.size, 1, none⟩ b).setCell ⟨w.heap.size, 2, none⟩ c) :=
  ((h.setCell (p := ⟨w.heap.size, 0, none⟩) (Nat.le_refl _) a).setCell (p := ⟨w.heap.size, 1, none⟩) (Nat.le_refl _) b).setCell (p := ⟨w.heap.size, 2, none⟩) (Nat.le_refl _) c

def readTextL (l : List UInt8) : Option (List UInt8 × List UInt8) := match unqL l with
  | none => none
  | some p => match langR p.2 with
    | none => none
    | some L => some (p.1, L)
def textV (o : Option (List UInt8 × List UInt8)) : Value := match o with
  | none => .tuple #[.agg #[.int .i64 0, .string ⟨#[]⟩, .string ⟨#[]⟩], .bool false]
  | some p => .tuple #[.agg #[.int .i64 3, .string ⟨p.1.toArray⟩, .string ⟨p.2.toArray⟩], .bool true]

set_option maxHeartbeats 1000000 in
theorem readText_any (l : List UInt8) (w : World) (hl : l.length ≤ 140737488355328) :
    Calls Tryz.prog 257 #[.string ⟨l.toArray⟩] w fun e w' => e = .returned (textV (readTextL l)) ∧ Below w.heap.size w w' := by
  cases hu : unqL l with
  | none =>
    have fin : Hid (textV (readTextL l) = .tuple #[.agg #[.int .i64 0, .string ⟨#[]⟩, .string ⟨#[]⟩], .bool false]) := by
      show _ = _; simp [readTextL, hu, textV]
    have Hu : Hid (unqL l = none) := hu
    clear hu
    go_enter Tryz.func257, Tryz.ntmps257
    go_wp2_with fail
    refine (unquote_any l _ hl).mono ?_
    rintro e w1 ⟨rfl, hb1⟩
    rw [Hu.out]
    obtain ⟨hc1, hf1⟩ := bcell hb1
    simp only [unqV]
    go_wp2_with fail
    refine bodyPost_ret (v := .tuple #[.agg #[.int .i64 0, .string ⟨#[]⟩, .string ⟨#[]⟩], .bool false]) (by simp [results, Tryz.results257, go_sem, hc1]) rfl ⟨ret_val fin.out.symm, bset3 (bstep (balloc _ _) hb1) _ _ _⟩
  | some p =>
    have hlen := unqL_len l.length l p.1 p.2 (Nat.le_refl _) hu
    cases hr : langR p.2 with
    | none =>
      have fin : Hid (textV (readTextL l) = .tuple #[.agg #[.int .i64 0, .string ⟨#[]⟩, .string ⟨#[]⟩], .bool false]) := by
        show _ = _; simp [readTextL, hu, hr, textV]
      have Hu : Hid (unqL l = some p) := hu
      have Hr : Hid (langR p.2 = none) := hr
      clear hu hr
      go_enter Tryz.func257, Tryz.ntmps257
      go_wp2_with fail
      refine (unquote_any l _ hl).mono ?_
      rintro e w1 ⟨rfl, hb1⟩
      rw [Hu.out]
      simp only [unqV]
      go_wp2_with fail
      refine (readLang_any p.2 _ (by omega)).mono ?_
      rintro e w2 ⟨rfl, hb2⟩
      rw [Hr.out]
      simp only [langV]
      have hb12 := bstep hb1 hb2
      obtain ⟨hc1, hf1⟩ := bcell hb12
      clear hb1 hb2
      go_wp2_with fail
      refine bodyPost_ret (v := .tuple #[.agg #[.int .i64 0, .string ⟨#[]⟩, .string ⟨#[]⟩], .bool false]) (by simp [results, Tryz.results257, go_sem, hc1]) rfl ⟨ret_val fin.out.symm, bset3 (bstep (balloc _ _) hb12) _ _ _⟩
    | some L =>
      have fin : Hid (textV (readTextL l) = .tuple #[.agg #[.int .i64 3, .string ⟨p.1.toArray⟩, .string ⟨L.toArray⟩], .bool true]) := by
        show _ = _; simp [readTextL, hu, hr, textV]
      have Hu : Hid (unqL l = some p) := hu
      have Hr : Hid (langR p.2 = some L) := hr
      clear hu hr
      go_enter Tryz.func257, Tryz.ntmps257
      go_wp2_with fail
      refine (unquote_any l _ hl).mono ?_
      rintro e w1 ⟨rfl, hb1⟩
      rw [Hu.out]
      simp only [unqV]
      go_wp2_with fail
      refine (readLang_any p.2 _ (by omega)).mono ?_
      rintro e w2 ⟨rfl, hb2⟩
      rw [Hr.out]
      simp only [langV]
      have hb12 := bstep hb1 hb2
      obtain ⟨hc1, hf1⟩ := bcell hb12
      clear hb1 hb2
      go_wp2_with fail
      exact bodyPost_ret (v := .tuple #[.agg #[.int .i64 3, .string ⟨p.1.toArray⟩, .string ⟨L.toArray⟩], .bool true]) (by simp [results, Tryz.results257, go_sem, hc1]) rfl ⟨ret_val fin.out.symm, bset3 (bstep (balloc _ _) hb12) _ _ _⟩

/-- the parts of a term: its Kind, S and Lang -/
def readL (l : List UInt8) : Option (Int × List UInt8 × List UInt8) := match l with
  | [] => some (1, [], [])
  | c :: r => if c = 95 then some (2, r, []) else if c = 34 then (readTextL r).map (fun p => (3, p.1, p.2)) else some (1, c :: r, [])
def readV (o : Option (Int × List UInt8 × List UInt8)) : Value := match o with
  | none => .tuple #[.agg #[.int .i64 0, .string ⟨#[]⟩, .string ⟨#[]⟩], .bool false]
  | some p => .tuple #[.agg #[.int .i64 p.1, .string ⟨p.2.1.toArray⟩, .string ⟨p.2.2.toArray⟩], .bool true]

theorem read_nil (w : World) :
    Calls Tryz.prog 251 #[.string ⟨#[]⟩] w fun e w' => e = .returned (.tuple #[.agg #[.int .i64 1, .string ⟨#[]⟩, .string ⟨#[]⟩], .bool true]) ∧ Below w.heap.size w w' := by
  go_enter Tryz.func251, Tryz.ntmps251
  go_wp2_with fail
  refine (cut_nil 95 _).mono ?_
  rintro e w1 ⟨rfl, rfl⟩
  go_wp2_with fail
  refine (cut_nil 34 _).mono ?_
  rintro e w1 ⟨rfl, rfl⟩
  go_wp2_with fail
  refine (Clone_any [] _ (by simp)).mono ?_
  rintro e w1 ⟨rfl, hb1⟩
  obtain ⟨hc1, hf1⟩ := bcell hb1
  go_wp2_with fail
  exact bodyPost_ret (v := .tuple #[.agg #[.int .i64 1, .string ⟨#[]⟩, .string ⟨#[]⟩], .bool true]) (by simp [results, Tryz.results251, go_sem, hc1]) rfl ⟨rfl, bset3 (bstep (balloc _ _) hb1) _ _ _⟩

theorem read_anon (r : List UInt8) (w : World) (hl : r.length ≤ 140737488355328) :
    Calls Tryz.prog 251 #[.string ⟨(95 :: r).toArray⟩] w fun e w' => e = .returned (.tuple #[.agg #[.int .i64 2, .string ⟨r.toArray⟩, .string ⟨#[]⟩], .bool true]) ∧ Below w.heap.size w w' := by
  go_enter Tryz.func251, Tryz.ntmps251
  go_wp2_with fail
  refine (cut_yes 95 r _).mono ?_
  rintro e w1 ⟨rfl, rfl⟩
  go_wp2_with fail
  refine (Clone_any r _ (by omega)).mono ?_
  rintro e w1 ⟨rfl, hb1⟩
  obtain ⟨hc1, hf1⟩ := bcell hb1
  go_wp2_with fail
  exact bodyPost_ret (v := .tuple #[.agg #[.int .i64 2, .string ⟨r.toArray⟩, .string ⟨#[]⟩], .bool true]) (by simp [results, Tryz.results251, go_sem, hc1]) rfl ⟨rfl, bset3 (bstep (balloc _ _) hb1) _ _ _⟩

theorem read_name (c : UInt8) (r : List UInt8) (w : World) (hl : r.length ≤ 140737488355328) (h1 : c ≠ 95) (h2 : c ≠ 34) :
    Calls Tryz.prog 251 #[.string ⟨(c :: r).toArray⟩] w fun e w' => e = .returned (.tuple #[.agg #[.int .i64 1, .string ⟨(c :: r).toArray⟩, .string ⟨#[]⟩], .bool true]) ∧ Below w.heap.size w w' := by
  go_enter Tryz.func251, Tryz.ntmps251
  go_wp2_with fail
  refine (cut_no 95 c r _ h1).mono ?_
  rintro e w1 ⟨rfl, rfl⟩
  go_wp2_with fail
  refine (cut_no 34 c r _ h2).mono ?_
  rintro e w1 ⟨rfl, rfl⟩
  go_wp2_with fail
  refine (Clone_any (c :: r) _ (by simp; omega)).mono ?_
  rintro e w1 ⟨rfl, hb1⟩
  obtain ⟨hc1, hf1⟩ := bcell hb1
  go_wp2_with fail
  exact bodyPost_ret (v := .tuple #[.agg #[.int .i64 1, .string ⟨(c :: r).toArray⟩, .string ⟨#[]⟩], .bool true]) (by simp [results, Tryz.results251, go_sem, hc1]) rfl ⟨rfl, bset3 (bstep (balloc _ _) hb1) _ _ _⟩

theorem read_text (r : List UInt8) (w : World) (hl : r.length ≤ 140737488355328) :
    Calls Tryz.prog 251 #[.string ⟨(34 :: r).toArray⟩] w fun e w' => e = .returned (textV (readTextL r)) ∧ Below w.heap.size w w' := by
  cases hr : readTextL r with
  | none =>
    have Hr : Hid (readTextL r = none) := hr
    clear hr
    go_enter Tryz.func251, Tryz.ntmps251
    go_wp2_with fail
    refine (cut_no 95 34 r _ (by decide)).mono ?_
    rintro e w1 ⟨rfl, rfl⟩
    go_wp2_with fail
    refine (cut_yes 34 r _).mono ?_
    rintro e w1 ⟨rfl, rfl⟩
    go_wp2_with fail
    refine (readText_any r _ hl).mono ?_
    rintro e w1 ⟨rfl, hb1⟩
    rw [Hr.out]
    simp only [textV]
    obtain ⟨hc1, hf1⟩ := bcell hb1
    go_wp2_with fail
    exact bodyPost_ret (v := .tuple #[.agg #[.int .i64 0, .string ⟨#[]⟩, .string ⟨#[]⟩], .bool false]) (by simp [results, Tryz.results251, go_sem, hc1]) rfl ⟨rfl, bset3 (bstep (balloc _ _) hb1) _ _ _⟩
  | some p =>
    have Hr : Hid (readTextL r = some p) := hr
    clear hr
    go_enter Tryz.func251, Tryz.ntmps251
    go_wp2_with fail
    refine (cut_no 95 34 r _ (by decide)).mono ?_
    rintro e w1 ⟨rfl, rfl⟩
    go_wp2_with fail
    refine (cut_yes 34 r _).mono ?_
    rintro e w1 ⟨rfl, rfl⟩
    go_wp2_with fail
    refine (readText_any r _ hl).mono ?_
    rintro e w1 ⟨rfl, hb1⟩
    rw [Hr.out]
    simp only [textV]
    obtain ⟨hc1, hf1⟩ := bcell hb1
    go_wp2_with fail
    exact bodyPost_ret (v := .tuple #[.agg #[.int .i64 3, .string ⟨p.1.toArray⟩, .string ⟨p.2.toArray⟩], .bool true]) (by simp [results, Tryz.results251, go_sem, hc1]) rfl ⟨rfl, bset3 (bstep (balloc _ _) hb1) _ _ _⟩

theorem read_any (l : List UInt8) (w : World) (hl : l.length ≤ 140737488355328) :
    Calls Tryz.prog 251 #[.string ⟨l.toArray⟩] w fun e w' => e = .returned (readV (readL l)) ∧ Below w.heap.size w w' := by
  cases l with
  | nil => exact read_nil w
  | cons c r =>
    simp only [List.length_cons] at hl
    by_cases h1 : c = 95
    · subst h1; exact read_anon r w (by omega)
    · by_cases h2 : c = 34
      · subst h2
        refine (read_text r w (by omega)).mono ?_
        rintro e w' ⟨rfl, hb⟩
        refine ⟨ret_val ?_, hb⟩
        have e1 : readL (34 :: r) = (readTextL r).map (fun p => (3, p.1, p.2)) := rfl
        rw [e1]
        cases readTextL r <;> rfl
      · refine (read_name c r w (by omega) h1 h2).mono ?_
        rintro e w' ⟨rfl, hb⟩
        refine ⟨ret_val ?_, hb⟩
        have e1 : readL (c :: r) = some (1, c :: r, []) := by simp [readL, h1, h2]
        rw [e1]; rfl
end Go.Proofs.YtenakehnnmencahGreat

/- Parse: a text as a term. -/
namespace Go.Proofs.YtenakehnnmencahGreat
open Go Go.RowKit Go.Proofs

def parseN (l : List UInt8) : Int := match readL l with
  | none => 2
  | some p => if spellB p.1 p.2.1 p.2.2 = false then 2 else if longB p.2.1 = true then 4 else 0
def parseT (l : List UInt8) : Int × List UInt8 × List UInt8 := match readL l with
  | none => (0, [], [])
  | some p => if spellB p.1 p.2.1 p.2.2 = false then (0, [], []) else if longB p.2.1 = true then (0, [], []) else p
def termV (p : Int × List UInt8 × List UInt8) : Value := .agg #[.int .i64 p.1, .string ⟨p.2.1.toArray⟩, .string ⟨p.2.2.toArray⟩]

theorem readL_len (l : List UInt8) (p : Int × List UInt8 × List UInt8) (h : readL l = some p) : p.2.1.length ≤ l.length ∧ p.2.2.length ≤ l.length := by
  cases l with
  | nil => simp [readL] at h; subst h; simp
  | cons c r =>
    by_cases h1 : c = 95
    · simp [readL, h1] at h; subst h; simp
    · by_cases h2 : c = 34
      · subst h2
        have e1 : readL (34 :: r) = (readTextL r).map (fun p => (3, p.1, p.2)) := rfl
        rw [e1, Option.map_eq_some_iff] at h
        obtain ⟨q, hq, rfl⟩ := h
        unfold readTextL at hq
        cases hu : unqL r with
        | none => simp [hu] at hq
        | some u =>
          have := unqL_len r.length r u.1 u.2 (Nat.le_refl _) hu
          simp only [hu] at hq
          cases hr : langR u.2 with
          | none => simp [hr] at hq
          | some L =>
            simp [hr] at hq
            subst hq
            have hL : L.length ≤ u.2.length := by
              cases hu2 : u.2 with
              | nil => rw [hu2] at hr; simp [langR] at hr; subst hr; simp
              | cons d t =>
                rw [hu2] at hr
                by_cases hd : d = 64
                · cases hk : langOk t
                  · simp [langR, hd, hk] at hr
                  · simp [langR, hd, hk] at hr; subst hr; simp
                · simp [langR, hd] at hr
            simp only [List.length_cons]
            omega
      · simp [readL, h1, h2] at h; subst h; simp

theorem bnew {w w1 : World} (h : Below w.heap.size w w1) (o : Obj) : Below w.heap.size w (w1.alloc o) := bstep h (balloc _ _)

/-- the block that a call laid last ahead of another one reads behind that as it did -/
theorem kept1 {w w2 : World} {o : Obj} (hb : Below (w.alloc o).heap.size (w.alloc o) w2) :
    (∀ j, w2.cell? ⟨w.heap.size, j, none⟩ = (w.alloc o).cell? ⟨w.heap.size, j, none⟩) ∧ (∀ j, w2.frozen? ⟨w.heap.size, j, none⟩ = (w.alloc o).frozen? ⟨w.heap.size, j, none⟩) :=
  ⟨fun j => (bcell hb).1 _ j (by simp), fun j => (bcell hb).2 _ j (by simp)⟩
/-- .. and the block that was laid ahead of a call ahead of it -/
theorem kept2 {w w1 w2 : World} {o o' : Obj} (hb1 : Below (w.alloc o).heap.size (w.alloc o) w1) (hb2 : Below (w1.alloc o').heap.size (w1.alloc o') w2) (hz : w.heap.size < w1.heap.size) :
    (∀ j, w2.cell? ⟨w.heap.size, j, none⟩ = (w.alloc o).cell? ⟨w.heap.size, j, none⟩) ∧ (∀ j, w2.frozen? ⟨w.heap.size, j, none⟩ = (w.alloc o).frozen? ⟨w.heap.size, j, none⟩) :=
  ⟨fun j => ((bcell hb2).1 _ j (by simp; omega)).trans (((bcell (balloc w1 o')).1 _ j hz).trans ((bcell hb1).1 _ j (by simp))),
   fun j => ((bcell hb2).2 _ j (by simp; omega)).trans (((bcell (balloc w1 o')).2 _ j hz).trans ((bcell hb1).2 _ j (by simp)))⟩

set_option maxHeartbeats 1000000 in
theorem Any_none (l : List UInt8) (w : World) (hl : l.length ≤ 140737488355328) (hr : readL l = none) :
    Calls Tryz.prog 239 #[.string ⟨l.toArray⟩] w fun e w' => e = .returned (.tuple #[.agg #[.int .i64 0, .string ⟨#[]⟩, .string ⟨#[]⟩], .iface 95 (.int .i64 2)]) ∧ Below w.heap.size w w' := by
  have Hr : Hid (readL l = none) := hr
  clear hr
  go_enter Tryz.func239, Tryz.ntmps239
  go_wp2_with fail
  refine (read_any l _ hl).mono ?_
  rintro e w1 ⟨rfl, hb1⟩
  rw [Hr.out]
  simp only [readV]
  obtain ⟨hc1, hf1⟩ := bcell hb1
  have hz : w.heap.size < w1.heap.size := by have := hb1.size; simp at this; omega
  go_wp2_with fail
  exact bodyPost_ret (v := .tuple #[.agg #[.int .i64 0, .string ⟨#[]⟩, .string ⟨#[]⟩], .iface 95 (.int .i64 2)]) (by simp [results, Tryz.results239, go_sem, hc1, hz]) rfl ⟨rfl, bnew (bset3 (bstep (balloc _ _) hb1) _ _ _) _⟩

set_option maxHeartbeats 1000000 in
theorem Any_wrong (l : List UInt8) (k : Int) (S L : List UInt8) (w : World) (hl : l.length ≤ 140737488355328) (hr : readL l = some (k, S, L)) (hS : S.length ≤ l.length) (hL : L.length ≤ l.length) (hsp : spellB k S L = false) :
    Calls Tryz.prog 239 #[.string ⟨l.toArray⟩] w fun e w' => e = .returned (.tuple #[.agg #[.int .i64 0, .string ⟨#[]⟩, .string ⟨#[]⟩], .iface 95 (.int .i64 2)]) ∧ Below w.heap.size w w' := by
  have Hr : Hid (readL l = some (k, S, L)) := hr
  clear hr
  have hs' : S.length ≤ maxLen := by unfold maxLen; omega
  have hl' : L.length ≤ maxLen := by unfold maxLen; omega
  go_enter Tryz.func239, Tryz.ntmps239
  go_wp2_with fail
  refine (read_any l _ hl).mono ?_
  rintro e w1 ⟨rfl, hb1⟩
  rw [Hr.out]
  simp only [readV]
  have hz : w.heap.size < w1.heap.size := by have := hb1.size; simp at this; omega
  go_wp2_with fail
  refine (spelled_any k S L _ hs' hl').mono ?_
  rintro e w2 ⟨rfl, hb2⟩
  obtain ⟨hw, hwf⟩ := kept2 hb1 hb2 hz
  go_wp2_with fail
  exact bodyPost_ret (v := .tuple #[.agg #[.int .i64 0, .string ⟨#[]⟩, .string ⟨#[]⟩], .iface 95 (.int .i64 2)]) (by simp [results, Tryz.results239, go_sem, hw]) rfl ⟨rfl, bset3 (bstep (bstep (bstep (balloc _ _) hb1) (balloc _ _)) hb2) _ _ _⟩

set_option maxHeartbeats 1000000 in
theorem Any_good (l : List UInt8) (k : Int) (S L : List UInt8) (w : World) (hl : l.length ≤ 140737488355328) (hr : readL l = some (k, S, L)) (hS : S.length ≤ l.length) (hL : L.length ≤ l.length) (hsp : spellB k S L = true) :
    Calls Tryz.prog 239 #[.string ⟨l.toArray⟩] w fun e w' => e = .returned (.tuple #[.agg #[.int .i64 k, .string ⟨S.toArray⟩, .string ⟨L.toArray⟩], .nilIface]) ∧ Below w.heap.size w w' := by
  have Hr : Hid (readL l = some (k, S, L)) := hr
  clear hr
  have hs' : S.length ≤ maxLen := by unfold maxLen; omega
  have hl' : L.length ≤ maxLen := by unfold maxLen; omega
  go_enter Tryz.func239, Tryz.ntmps239
  go_wp2_with fail
  refine (read_any l _ hl).mono ?_
  rintro e w1 ⟨rfl, hb1⟩
  rw [Hr.out]
  simp only [readV]
  have hz : w.heap.size < w1.heap.size := by have := hb1.size; simp at this; omega
  go_wp2_with fail
  refine (spelled_any k S L _ hs' hl').mono ?_
  rintro e w2 ⟨rfl, hb2⟩
  obtain ⟨hw, hwf⟩ := kept2 hb1 hb2 hz
  obtain ⟨ht3, htf3⟩ := kept1 hb2
  go_wp2_with fail
  exact bodyPost_ret (v := .tuple #[.agg #[.int .i64 k, .string ⟨S.toArray⟩, .string ⟨L.toArray⟩], .nilIface]) (by simp [results, Tryz.results239, go_sem, hw]) rfl ⟨rfl, bset3 (bstep (bstep (bstep (balloc _ _) hb1) (balloc _ _)) hb2) _ _ _⟩

/-- what a text of whatever length is -/
def anyN (l : List UInt8) : Int := match readL l with
  | none => 2
  | some p => if spellB p.1 p.2.1 p.2.2 = false then 2 else 0
def anyT (l : List UInt8) : Int × List UInt8 × List UInt8 := match readL l with
  | none => (0, [], [])
  | some p => if spellB p.1 p.2.1 p.2.2 = false then (0, [], []) else p

theorem any_cases (l : List UInt8) : (anyN l = 2 ∧ anyT l = (0, [], [])) ∨ (anyN l = 0 ∧ readL l = some (anyT l) ∧ spellB (anyT l).1 (anyT l).2.1 (anyT l).2.2 = true ∧ (anyT l).2.1.length ≤ l.length ∧ (anyT l).2.2.length ≤ l.length) := by
  cases hr : readL l with
  | none => left; simp [anyN, anyT, hr]
  | some p =>
    cases hsp : spellB p.1 p.2.1 p.2.2
    · left; simp [anyN, anyT, hr, hsp]
    · right
      have e : anyT l = p := by simp [anyT, hr, hsp]
      rw [e]
      exact ⟨by simp [anyN, hr, hsp], rfl, hsp, readL_len l p hr⟩

theorem Any_any (l : List UInt8) (w : World) (hl : l.length ≤ 140737488355328) :
    Calls Tryz.prog 239 #[.string ⟨l.toArray⟩] w fun e w' => e = .returned (.tuple #[termV (anyT l), errV (anyN l)]) ∧ Below w.heap.size w w' := by
  cases hr : readL l with
  | none =>
    refine (Any_none l w hl hr).mono ?_
    rintro e w' ⟨rfl, hb⟩
    exact ⟨ret_two (by simp [anyT, hr, termV]) (by simp [anyN, hr, errV]), hb⟩
  | some p =>
    obtain ⟨k, S, L⟩ := p
    obtain ⟨hS, hL⟩ := readL_len l _ hr
    cases hsp : spellB k S L
    · refine (Any_wrong l k S L w hl hr hS hL hsp).mono ?_
      rintro e w' ⟨rfl, hb⟩
      exact ⟨ret_two (by simp [anyT, hr, hsp, termV]) (by simp [anyN, hr, hsp, errV]), hb⟩
    · refine (Any_good l k S L w hl hr hS hL hsp).mono ?_
      rintro e w' ⟨rfl, hb⟩
      exact ⟨ret_two (by simp [anyT, hr, hsp, termV]) (by simp [anyN, hr, hsp, errV]), hb⟩

end Go.Proofs.YtenakehnnmencahGreat

/- What is shown is read, what is read is shown; terms are in one order: plain lists, no program. -/
namespace Go.Proofs.YtenakehnnmencahGreat
open Go Go.RowKit Go.Proofs

theorem mark_cases (c : UInt8) : markB (c.toNat : Int) = true ↔ c = 34 ∨ c = 92 := by
  have h34 := byte_eq c 34
  have h92 := byte_eq c 92
  rw [show ((34 : UInt8).toNat : Int) = 34 from rfl] at h34
  rw [show ((92 : UInt8).toNat : Int) = 92 from rfl] at h92
  rw [Bool.eq_iff_iff] at h34 h92
  simp only [beq_iff_eq] at h34 h92
  simp [markB, h34, h92]

theorem escL_cons (c : UInt8) (r : List UInt8) : escL (c :: r) = (if markB (c.toNat : Int) then [92, c] else [c]) ++ escL r := by simp [escL]

theorem unq_esc (S b : List UInt8) : unqL (escL S ++ 34 :: b) = some (S, b) := by
  induction S with
  | nil => show unqL (34 :: b) = _; rw [unqL_cons]; simp
  | cons c r ih =>
    rw [escL_cons]
    cases hm : markB (c.toNat : Int)
    · have hne : ¬ (c = 34 ∨ c = 92) := fun h => by rw [(mark_cases c).2 h] at hm; cases hm
      simp only [Bool.false_eq_true, if_false, List.cons_append, List.nil_append]
      rw [unqL_cons, if_neg (fun h => hne (Or.inl h)), if_neg (fun h => hne (Or.inr h)), ih]
      rfl
    · simp only [if_true, List.cons_append, List.nil_append]
      rw [unqL_cons, if_neg (by decide), if_pos rfl]
      simp only [hm, if_true]
      rw [ih]
      rfl

theorem esc_unq (n : Nat) : ∀ (l s b : List UInt8), l.length ≤ n → unqL l = some (s, b) → l = escL s ++ 34 :: b := by
  induction n with
  | zero => intro l s b hl h; cases l with
    | nil => simp [unqL] at h
    | cons => simp at hl
  | succ n ih =>
    intro l s b hl h
    cases l with
    | nil => simp [unqL] at h
    | cons c r =>
      rw [unqL_cons] at h
      simp only [List.length_cons] at hl
      by_cases hc : c = 34
      · simp [hc] at h; obtain ⟨rfl, rfl⟩ := h; subst hc; rfl
      · rw [if_neg hc] at h
        by_cases hm : c = 92
        · rw [if_pos hm] at h
          cases r with
          | nil => simp at h
          | cons d r' =>
            simp only at h
            cases hb : markB (d.toNat : Int)
            · simp [hb] at h
            · simp only [hb, if_true, Option.map_eq_some_iff] at h
              obtain ⟨⟨s', b'⟩, h1, h2⟩ := h
              simp only [Prod.mk.injEq] at h2
              obtain ⟨rfl, rfl⟩ := h2
              have := ih r' s' b' (by simp at hl; omega) h1
              rw [escL_cons, hb, hm]
              simp [← this]
        · rw [if_neg hm, Option.map_eq_some_iff] at h
          obtain ⟨⟨s', b'⟩, h1, h2⟩ := h
          simp only [Prod.mk.injEq] at h2
          obtain ⟨rfl, rfl⟩ := h2
          have := ih r s' b' (by omega) h1
          have hm' : markB (c.toNat : Int) = false := by
            cases hx : markB (c.toNat : Int)
            · rfl
            · rcases (mark_cases c).1 hx with h | h
              · exact absurd h hc
              · exact absurd h hm
          rw [escL_cons, hm']
          simp [← this]

theorem langR_mark (L : List UInt8) (h : L = [] ∨ langOk L = true) : langR (markL L) = some L := by
  cases L with
  | nil => rfl
  | cons c r =>
    have hk : langOk (c :: r) = true := by rcases h with h | h; exact absurd h (by simp); exact h
    show langR (64 :: c :: r) = _
    simp [langR, hk]

theorem mark_langR (b L : List UInt8) (h : langR b = some L) : b = markL L ∧ (L = [] ∨ langOk L = true) := by
  cases b with
  | nil => simp [langR] at h; subst h; exact ⟨rfl, Or.inl rfl⟩
  | cons c r =>
    by_cases hc : c = 64
    · cases hk : langOk r
      · simp [langR, hc, hk] at h
      · simp [langR, hc, hk] at h
        subst h hc
        refine ⟨?_, Or.inr hk⟩
        cases r with
        | nil => simp [langOk] at hk
        | cons => rfl
    · simp [langR, hc] at h

theorem let_ne (c : UInt8) (h : letB (c.toNat : Int) = true) : c ≠ 95 ∧ c ≠ 34 := by
  refine ⟨?_, ?_⟩
  · rintro rfl; revert h; decide
  · rintro rfl; revert h; decide

theorem spell_text {S L : List UInt8} (h : spellB 3 S L = true) : L = [] ∨ langOk L = true := by
  have e : spellB 3 S L = ((L.isEmpty || langOk L) && textOk S) := rfl
  rw [e] at h
  simp only [Bool.and_eq_true, Bool.or_eq_true, List.isEmpty_iff] at h
  exact h.1

theorem read_show (k : Int) (S L : List UInt8) (hk : k = 1 ∨ k = 2 ∨ k = 3) (hsp : spellB k S L = true) : readL (showL k S L) = some (k, S, L) := by
  rcases hk with rfl | rfl | rfl
  · have e : spellB 1 S L = (L.isEmpty && nameOk S) := rfl
    rw [e] at hsp
    simp only [Bool.and_eq_true, List.isEmpty_iff] at hsp
    obtain ⟨rfl, hn⟩ := hsp
    cases S with
    | nil => simp [nameOk] at hn
    | cons c r =>
      simp only [nameOk, Bool.and_eq_true] at hn
      obtain ⟨h1, h2⟩ := let_ne c hn.1
      show readL (c :: r) = _
      simp [readL, h1, h2]
  · have e : spellB 2 S L = (L.isEmpty && anonOk S) := rfl
    rw [e] at hsp
    simp only [Bool.and_eq_true, List.isEmpty_iff] at hsp
    obtain ⟨rfl, hn⟩ := hsp
    rfl
  · have hL := spell_text hsp
    have e1 : showL 3 S L = 34 :: (escL S ++ 34 :: markL L) := by
      show quoteL S ++ markL L = _
      simp [quoteL]
    have e2 : readTextL (escL S ++ 34 :: markL L) = some (S, L) := by
      simp [readTextL, unq_esc, langR_mark L hL]
    rw [e1]
    show (readTextL (escL S ++ 34 :: markL L)).map _ = _
    rw [e2]; rfl

theorem show_read (l : List UInt8) (k : Int) (S L : List UInt8) (h : readL l = some (k, S, L)) : showL k S L = l ∧ (k = 1 ∨ k = 2 ∨ k = 3) := by
  cases l with
  | nil => simp [readL] at h; obtain ⟨rfl, rfl, rfl⟩ := h; exact ⟨rfl, Or.inl rfl⟩
  | cons c r =>
    by_cases h1 : c = 95
    · simp [readL, h1] at h; obtain ⟨rfl, rfl, rfl⟩ := h; subst h1; exact ⟨rfl, Or.inr (Or.inl rfl)⟩
    · by_cases h2 : c = 34
      · subst h2
        have e1 : readL (34 :: r) = (readTextL r).map (fun p => (3, p.1, p.2)) := rfl
        rw [e1, Option.map_eq_some_iff] at h
        obtain ⟨q, hq, h3⟩ := h
        simp only [Prod.mk.injEq] at h3
        obtain ⟨rfl, rfl, rfl⟩ := h3
        unfold readTextL at hq
        cases hu : unqL r with
        | none => simp [hu] at hq
        | some u =>
          simp only [hu] at hq
          cases hr : langR u.2 with
          | none => simp [hr] at hq
          | some L' =>
            simp [hr] at hq
            subst hq
            obtain ⟨hm, _⟩ := mark_langR _ _ hr
            have := esc_unq r.length r u.1 u.2 (Nat.le_refl _) hu
            refine ⟨?_, Or.inr (Or.inr rfl)⟩
            show quoteL u.1 ++ markL L' = _
            rw [← hm, this]
            simp [quoteL]
      · simp [readL, h1, h2] at h; obtain ⟨rfl, rfl, rfl⟩ := h; exact ⟨rfl, Or.inl rfl⟩

/-- what is shown is read as it was -/
theorem parse_show (k : Int) (S L : List UInt8) (h : checkN k S L = 0) : parseN (showL k S L) = 0 ∧ parseT (showL k S L) = (k, S, L) := by
  obtain ⟨hk, hS, hsp⟩ := check_zero h
  have hr := read_show k S L hk hsp
  have hlo : longB S = false := by simp [longB]; omega
  exact ⟨by simp [parseN, hr, hsp, hlo], by simp [parseT, hr, hsp, hlo]⟩

/-- what is read is shown as it was -/
theorem show_parse (l : List UInt8) (h : parseN l = 0) : checkN (parseT l).1 (parseT l).2.1 (parseT l).2.2 = 0 ∧ showL (parseT l).1 (parseT l).2.1 (parseT l).2.2 = l := by
  cases hr : readL l with
  | none => simp [parseN, hr] at h
  | some p =>
    obtain ⟨k, S, L⟩ := p
    cases hsp : spellB k S L
    · simp [parseN, hr, hsp] at h
    · cases hlo : longB S
      · have e : parseT l = (k, S, L) := by simp [parseT, hr, hsp, hlo]
        obtain ⟨hs, hk⟩ := show_read l k S L hr
        rw [e]
        refine ⟨?_, hs⟩
        have hkb : kindB k = true := by simp [kindB]; exact hk
        show checkN k S L = 0
        simp [checkN, hkb, hsp, hlo]
      · simp [parseN, hr, hsp, hlo] at h

theorem show_len (k : Int) (S L : List UInt8) (h : checkN k S L = 0) : (showL k S L).length ≤ 140737488355328 := by
  obtain ⟨_, hS, hsp⟩ := check_zero h
  have hL := spell_lang hsp
  have h1 := quoteL_len S
  have h2 := markL_len L
  unfold showL
  repeat' split
  all_goals (simp; try omega)

end Go.Proofs.YtenakehnnmencahGreat
