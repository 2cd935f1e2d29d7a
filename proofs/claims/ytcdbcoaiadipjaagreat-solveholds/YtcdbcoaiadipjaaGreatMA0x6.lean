import Derived.Test.YtcdbcoaiadipjaaGreatMA0x5
import Derived.Shelf.SlMaps.Clone
import Derived.Maps.Ext
import Derived.Laws.IdiomRangeMap
import Derived.Test.YtcdbcoaiadipjaaGreatMA0x2
import Derived.Test.YtcdbcoaiadipjaaGreatMA0x4
import Derived.Lib.AppendZeros
import Derived.Test.YtcdbcoaiadipjaaGreatMA0x0
import Derived.Shelf.SlSortCmp.WholeK
import Derived.Laws.OwnMore
import Derived.Laws.EntriesVeiled
import Derived.RangeFuncBox
import Derived.Test.YtcdbcoaiadipjaaGreatMA0x3
import Derived.Laws.MakeOwn
import Derived.Deep.WholeRow
import Derived.Laws.IdiomCopy
import Derived.Deep.RegionLaw

/- maps.Clone and maps.Copy at answers; solve.both. -/
namespace Go.Proofs.YtcdbcoaiadipjaaGreat
open Go Go.RowKit Go.Proofs Go.Maps
set_option synthInstance.maxSize 1000

theorem EvAt.same {w : World} {bm n : Nat} {f g : Ev} (h : EvAt w bm n f) (e : ∀ v : List UInt8, v.length ≤ maxLen → f v = g v) : EvAt w bm n g := by
  obtain ⟨D, o, k⟩ := h
  exact ⟨D, o, fun v hv => by rw [← e v hv]; exact k v hv⟩
theorem termElemM_form {v : Value} {y : DataW Unit × List MemPlace} (h : termElemM v = some y) : ∃ c : Tm, v = .agg #[.int .i64 c.1, .string ⟨c.2.1.toArray⟩, .string ⟨c.2.2.toArray⟩] ∧ y = (encDM c, []) := by
  unfold termElemM at h
  split at h
  · rename_i cs
    split at h
    · rename_i k S L hcs
      injection h with h
      obtain ⟨l, rfl⟩ : ∃ l : List Value, cs = l.toArray := ⟨cs.toList, by simp⟩
      simp at hcs
      subst hcs
      exact ⟨(k, S.data.toList, L.data.toList), rfl, h.symm⟩
    · cases h
  · cases h
theorem keyOf_string_invE {P : Program} {k : TypeId} (hk : P.underlying k = some .string) {key : Value} {kl : Lit} (h : keyOf P k key = some kl) : ∃ v : List UInt8, key = .string ⟨v.toArray⟩ ∧ kl = .string v ∧ v.length ≤ maxLen := by
  cases key <;> simp [keyOf, hk, mapKey] at h
  rename_i s
  obtain ⟨h1, h2⟩ := h
  exact ⟨s.data.toList, rfl, h2.symm, h1⟩
theorem keyOf_v_inv {key : Value} {kl : Lit} (h : keyOf Tryz.prog 9 key = some kl) : ∃ v : List UInt8, key = .string ⟨v.toArray⟩ ∧ kl = .string v ∧ v.length ≤ maxLen := keyOf_string_invE Tryz.underlying9 h
set_option maxHeartbeats 2000000 in
set_option maxRecDepth 100000 in
theorem CloneE_any (b : Nat) (es : Array MapEntry) (clock : Nat) (w : World) (hb : w.heap[b]? = some (.map es clock)) :
    Calls Tryz.prog 82 #[.map (some b)] w fun e w' => e = .returned (.map (some w.heap.size)) ∧ w' = w.alloc (.map es clock) := by
  have hq := fun w => run_eql_map_nil_sl (P := Tryz.prog) w 61 _ _ (some b) Tryz.underlying61
  go_enter Tryz.func82, Tryz.ntmps82
  go_wp2
  rw [run_callFunc_extern Tryz.func100 (by kernel_rfl) (by kernel_rfl) (by kernel_rfl) (e := Extern.MapsClone.clone) (by kernel_rfl), run_maps_clone_sl w 61 hb]
  simp only [Result.andThen]
  rw [Oper.upon_value]
  go_wp2
  rw [run_typeAssert_map_sl _ 61 _ _ _ _ Tryz.underlying61]
  simp only [Result.andThen]
  rw [Oper.upon_value]
  go_wp2
  go_ret
  exact ⟨rfl, rfl⟩
theorem CloneM_any (b n : Nat) (f : Ev) (w : World) (h : EvAt w b n f) :
    Calls Tryz.prog 82 #[.map (some b)] w fun e w' => e = .returned (.map (some w.heap.size)) ∧ EvAt w' w.heap.size n f ∧ RowKit.Below w.heap.size w w' := by
  obtain ⟨D, ⟨es, clock, hb, r⟩, k⟩ := h
  refine (CloneE_any b es clock w hb).mono ?_
  rintro e w' ⟨rfl, rfl⟩
  exact ⟨rfl, ⟨D, ⟨es, clock, (MapKept.heap_alloc w _).1, r⟩, k⟩, balloc _ _⟩
/-- as far as the range has come -/
def MergedE (h f g : Ev) (left : Lit → Bool) : Prop := ∀ v : List UInt8, v.length ≤ maxLen → h v = if (g v).isSome = true ∧ left (.string v) = false then g v else f v
set_option maxHeartbeats 4000000 in
set_option maxRecDepth 100000 in
theorem Copy_any (bd bs nd ns : Nat) (f g : Ev) (w : World) (hd : EvAt w bd nd f) (hs : EvAt w bs ns g) (hne : bd ≠ bs) (hroom : nd + ns < 1000000) :
    Calls Tryz.prog 83 #[.map (some bd), .map (some bs)] w fun e w' => e = .returned (.tuple #[]) ∧ EvAt w' bd (nd + ns) (bothE f g) ∧ w.grownBy w' (some bd) := by
  have hbd := hd.lt
  have hbs := hs.lt
  have Hd := hideE hd
  obtain ⟨Ds, os, ks⟩ := hs
  have Ks := hideE ks
  have hsz : Maps.size Ds ≤ ns := os.size_le
  clear hd ks
  go_enter Tryz.func83, Tryz.ntmps83
  go_wp2_with (at_range; refine wpList_range_own _ rfl _ 61 rfl 9 28 keyedStr Tryz.underlying61 termElemM bs ns Ds rfl os ?_; intro w0 hrg0 hg0 hs0)
  go_frame
  go_loopw [8] (fun _ wr => ∃ (left : Lit → Bool) (cnt : Nat) (h : Ev), wr.ranges Tryz.prog 9 termElemM bs w.heap.size ns Ds left cnt ∧ cnt ≤ Maps.size Ds ∧ Hid (EvAt wr bd (nd + (Maps.size Ds - cnt)) h) ∧ Hid (MergedE h f g left) ∧ w.grownBy wr (some bd))
    (fun _ wr => wr.rangeLeft bs w.heap.size)
  case atStart =>
    refine ⟨_, _, f, hrg0, Nat.le_refl _, ((Hd.out.kept hg0 (by simp)).mono (by omega)), ?_, hg0.but _⟩
    intro v hv
    rw [if_neg]
    rintro ⟨h1, h2⟩
    rw [(Ks.out v hv).1, h1] at h2
    cases h2
  case round =>
    obtain ⟨left, cnt, h, hrg, hcs, hout, hM, hgw⟩ := hrel
    go_wp2_with (at_next; refine wpList_next_ranges _ rfl _ rfl 9 keyedStr termElemM (fun v : List UInt8 => .string ⟨v.toArray⟩) (fun c : Tm => .agg #[.int .i64 c.1, .string ⟨c.2.1.toArray⟩, .string ⟨c.2.2.toArray⟩]) (fun key kl hk => by obtain ⟨x, hx, _⟩ := keyOf_v_inv hk; exact ⟨x, hx⟩) (fun v y hy => by obtain ⟨c, hc, _⟩ := termElemM_form hy; exact ⟨c, hc⟩) bs w.heap.size ns Ds left cnt rfl hrg ?_ ?_)
    · intro hc0 hl0
      go_wp2
      go_end0
      refine ⟨rfl, (hout.out.mono (by omega)).same (fun v hv => ?_), hgw⟩
      rw [hM.out v hv, hl0]
      unfold bothE
      cases hgv : g v <;> simp
    · intro v ck cS cL kl yd yp w1 cnt1 hkey hlx hv hat hrg1 hlt hg1 hs1 hen
      obtain ⟨v', ev, rfl, hvl⟩ := keyOf_v_inv hkey
      obtain rfl : v = v' := by simpa using ev
      clear ev
      have hout1 := hideE (hout.out.kept hg1 (fun e => by have := Option.some.inj e; omega))
      obtain ⟨c', ec, ey⟩ := termElemM_form hv
      have hg' : g v = some (ck, cS, cL) := by
        have e1 : c' = (ck, cS, cL) := by
          obtain ⟨a, b, c⟩ := c'
          simp at ec
          simp [ec]
        rw [e1] at ey
        have h1 := has_true_of_atKey hat
        rw [(Ks.out v hvl).1] at h1
        have h2 := (Ks.out v hvl).2
        rw [hat] at h2
        have h3 : yd = encDM (ck, cS, cL) := (Prod.mk.inj ey).1
        rw [h3] at h2
        have h4 := encDM_inj h2
        cases hgv : g v with
        | none => rw [hgv] at h1; cases h1
        | some z => rw [hgv] at h4; rw [h4]; rfl
      clear hv ec ey hat
      have hbr : bd < wr.heap.size := hout.out.lt
      obtain ⟨cc, rfl, rfl, rfl⟩ : ∃ cc : Tm, ck = cc.1 ∧ cS = cc.2.1 ∧ cL = cc.2.2 := ⟨(ck, cS, cL), rfl, rfl, rfl⟩
      go_wp2_with (first
        | (at_mapUpdate; go_loud (refine wpList_put_ev _ rfl _ _ _ rfl bd (nd + (Maps.size Ds - cnt)) h rfl (hout1.out.below (balloc _ _)) (by unfold maxLen; omega) v hvl rfl cc rfl ?_); intro w2 hout2 hg2))
      have hrg2 := (hrg1.alloc _).kept hg2 (fun e => hne (Option.some.inj e).symm) (fun e => by have := Option.some.inj e; omega)
      have hMM : Hid (MergedE (putEv h v cc) f g (fun z => left z && !z.sameKey (.string v))) := by
        intro u hu
        unfold putEv
        by_cases e : u = v
        · subst e
          rw [if_pos rfl, if_pos ⟨by rw [hg']; rfl, by simp [Lit.sameKey]⟩, hg']
        · rw [if_neg e, hM.out u hu]
          have hne2 : (Lit.string u).sameKey (Lit.string v) = false := Maps.sameKey_ne (fun e' => e (by simpa using e'))
          show _ = if (g u).isSome = true ∧ (left (Lit.string u) && !(Lit.string u).sameKey (Lit.string v)) = false then g u else f u
          rw [hne2]
          simp
      have hgg := ((hgw.andThen hg1 (fun j hj => .inl (by cases hj; exact Nat.le_refl _))).andThen (World.grownBy_alloc _ (.cells #[.int .i64 cc.1, .string ⟨cc.2.1.toArray⟩, .string ⟨cc.2.2.toArray⟩] 28) (some bd)) (fun j hj => .inr hj)).andThen hg2 (fun j hj => .inr hj)
      have hou : Hid (EvAt w2 bd (nd + (Maps.size Ds - cnt1)) (putEv h v cc)) := hout2.mono (by omega)
      have hc1 : cnt1 ≤ Maps.size Ds := by omega
      go_roundw
      case rel => first | exact ⟨_, cnt1, _, hrg2, hc1, hou, hMM, hgg⟩ | ((repeat apply Exists.intro); exact ⟨⟨_, cnt1, _, hrg2, hc1, hou, hMM, hgg⟩, rfl⟩)
      case measure => rw [hrg2.left_eq, hrg.left_eq]; exact hlt
theorem both_any (bx bg nx ng : Nat) (f g : Ev) (w : World) (hx : EvAt w bx nx f) (hg : EvAt w bg ng g) (hroom : nx + ng < 1000000) :
    Calls Tryz.prog 54 #[.map (some bx), .map (some bg)] w fun e w' => e = .returned (.map (some w.heap.size)) ∧ EvAt w' w.heap.size (nx + ng) (bothE f g) ∧ RowKit.Below w.heap.size w w' := by
  have HC := CloneM_any bx nx f w hx
  have Hg := hideE hg
  have hlt := hg.lt
  clear hx hg
  go_enter Tryz.func54, Tryz.ntmps54
  go_wp2_with fail
  refine HC.mono ?_
  rintro e w1 ⟨rfl, he1, hb1⟩
  have HY := Copy_any w.heap.size bg nx ng f g w1 he1 (Hg.out.below hb1) (by omega) hroom
  clear he1
  go_wp2_with fail
  refine HY.mono ?_
  rintro e w2 ⟨rfl, he2, hg2⟩
  go_wp2_with fail
  go_ret
  exact ⟨rfl, he2, below_grownE hb1 hg2 (Nat.le_refl _) (Nat.le_refl _)⟩
end Go.Proofs.YtcdbcoaiadipjaaGreat

/- Lists of texts and of patterns in memory; a question as a value. -/
namespace Go.Proofs.YtcdbcoaiadipjaaGreat
open Go Go.RowKit Go.Proofs Go.Maps
set_option synthInstance.maxSize 1000

/-- a slice holds a list of texts, wherever it begins -/
def SlW (w : World) (ad : Option Addr) (l : List (List UInt8)) : Prop := l ≠ [] → ∃ b o, ad = some ⟨b, o, none⟩ ∧ ∀ j (hj : j < l.length), w.cell? ⟨b, o + j, none⟩ = some (encV l[j])
theorem SlW.below {w w' : World} {ad : Option Addr} {l : List (List UInt8)} (h : SlW w ad l) (hb : RowKit.Below w.heap.size w w') : SlW w' ad l := fun hl => by
  obtain ⟨b, o, e, r⟩ := h hl
  exact ⟨b, o, e, fun j hj => (hb.cell (World.block_lt_of_cell? w _ (r j hj))).trans (r j hj)⟩
theorem SlW.at {w : World} {ad : Option Addr} {l : List (List UInt8)} (h : SlW w ad l) (k : Nat) (hk : k < l.length) : ∃ b o, ad = some ⟨b, o, none⟩ ∧ w.cell? ⟨b, o + k, none⟩ = some (.string ⟨l[k].toArray⟩) := by
  obtain ⟨b, o, e, r⟩ := h (fun e => by rw [e] at hk; simp at hk)
  exact ⟨b, o, e, r k hk⟩
theorem slW_nil (W : World) (ad : Option Addr) : SlW W ad [] := fun h => absurd rfl h
theorem SlV.w {w : World} {ad : Option Addr} {l : List (List UInt8)} (h : SlV w ad l) : SlW w ad l := fun hl => by
  obtain ⟨b, e, r⟩ := h hl
  exact ⟨b, 0, e, fun j hj => by rw [Nat.zero_add]; exact r j hj⟩
theorem SlW.take {w : World} {ad : Option Addr} {l : List (List UInt8)} (h : SlW w ad l) (k : Nat) : SlW w ad (l.take k) := fun hl => by
  have hne : l ≠ [] := fun e => by rw [e] at hl; simp at hl
  obtain ⟨b, o, e, r⟩ := h hne
  refine ⟨b, o, e, fun j hj => ?_⟩
  rw [List.length_take] at hj
  rw [List.getElem_take]
  exact r j (by omega)
theorem own_w {W : World} {base : Nat} {v : Value} {t : List (List UInt8)} (h : W.ownsRow base 9 1 v t.length (t.map encV)) : ∃ ad cap, v = .slice ad t.length cap ∧ SlW W ad t := by
  obtain ⟨ad, cap, e, hs⟩ := own_v h
  exact ⟨ad, cap, e, hs.w⟩

/-- the patterns of a list, cell by cell -/
def cellsPt (l : List Pt) : List Value := l.flatMap encPt
theorem encPt_len (x : Pt) : (encPt x).length = 12 := rfl
theorem encPt_one (x : Pt) : ∀ v ∈ encPt x, v.oneCell' = true := by
  intro v hv
  simp [encPt] at hv
  rcases hv with rfl | rfl | rfl | rfl | rfl | rfl | rfl | rfl | rfl | rfl | rfl | rfl <;> rfl
theorem cellsPt_len (l : List Pt) : (cellsPt l).length = l.length * 12 := by
  induction l with
  | nil => rfl
  | cons x r ih => simp only [cellsPt, List.flatMap_cons, List.length_append, List.length_cons] at *; rw [ih, encPt_len]; omega
theorem cellsPt_at (l : List Pt) (i : Nat) (h : i < l.length) (j : Nat) (hj : j < 12) : (cellsPt l)[i * 12 + j]? = (encPt l[i])[j]? := by
  induction l generalizing i with
  | nil => simp at h
  | cons x r ih =>
    simp only [cellsPt, List.flatMap_cons] at *
    cases i with
    | zero => rw [List.getElem?_append_left (by rw [encPt_len]; omega)]; simp
    | succ n =>
      rw [List.getElem?_append_right (by rw [encPt_len]; omega), encPt_len, show (n + 1) * 12 + j - 12 = n * 12 + j by omega, ih n (by simpa using h)]
      simp
def RowPt (w : World) (b o : Nat) (l : List Pt) : Prop := ∀ j v, (cellsPt l)[j]? = some v → w.cell? ⟨b, o + j, none⟩ = some v
theorem RowPt.below {w w' : World} {b o : Nat} {l : List Pt} (h : RowPt w b o l) (hb : RowKit.Below w.heap.size w w') : RowPt w' b o l := fun j v hv =>
  (hb.cell (World.block_lt_of_cell? w _ (h j v hv))).trans (h j v hv)
theorem RowPt.at {w : World} {b o : Nat} {l : List Pt} (h : RowPt w b o l) (i : Nat) (hi : i < l.length) : ∀ j v, (encPt l[i])[j]? = some v → w.cell? ⟨b, o + i * 12 + j, none⟩ = some v := fun j v hv => by
  have hj : j < 12 := (List.getElem?_eq_some_iff.1 hv).1
  rw [Nat.add_assoc]
  exact h _ v (by rw [cellsPt_at l i hi j hj]; exact hv)
/-- a slice holds a list of patterns -/
def SlPt (w : World) (ad : Option Addr) (l : List Pt) : Prop := l ≠ [] → ∃ b o, ad = some ⟨b, o, none⟩ ∧ RowPt w b o l
theorem SlPt.below {w w' : World} {ad : Option Addr} {l : List Pt} (h : SlPt w ad l) (hb : RowKit.Below w.heap.size w w') : SlPt w' ad l := fun hl => by
  obtain ⟨b, o, e, r⟩ := h hl
  exact ⟨b, o, e, r.below hb⟩
theorem SlPt.at {w : World} {ad : Option Addr} {l : List Pt} (h : SlPt w ad l) (i : Nat) (hi : i < l.length) : ∃ b o, ad = some ⟨b, o, none⟩ ∧ RowPt w b o l :=
  h (fun e => by rw [e] at hi; simp at hi)
theorem slPt_nil (W : World) (ad : Option Addr) : SlPt W ad [] := fun h => absurd rfl h
theorem own_slPt {W : World} {base : Nat} {e : TypeId} {v : Value} {t : List Pt} (h : W.ownsRow base e 12 v t.length (cellsPt t)) : ∃ ad cap, v = .slice ad t.length cap ∧ SlPt W ad t := by
  have h' := h
  rcases h.2 with ⟨rfl, h0⟩ | ⟨g, cap, cur, rfl, _⟩
  · exact ⟨none, 0, by rw [h0], fun hne => absurd (List.eq_nil_of_length_eq_zero h0) hne⟩
  · refine ⟨some ⟨g, 0, none⟩, cap, rfl, fun _ => ⟨g, 0, rfl, fun j u hj => ?_⟩⟩
    have := h'.cells (g := g) rfl j u hj
    rwa [Addr.add_lit] at this
theorem infoPt : (Tryz.prog.info? 34).map (fun i => (i.zero, i.size, i.bytes)) = some (some (.agg (encPt (([], tmZero), ([], tmZero), ([], tmZero))).toArray), 12, 168) := by kernel_rfl

/-- a question as a value: where its lists lie -/
def valQ (q : Qu) (vd : Option Addr) (vc : Nat) (pd : Option Addr) (pc : Nat) : Value := .agg #[.slice vd q.vars.length vc, .slice pd q.parts.length pc, .string ⟨q.order.toArray⟩, .bool q.down, .bool q.dist, .int .i64 q.lim]
/-- a question that is handed in, or answered -/
structure QuIn (w : World) (q : Qu) (vd pd : Option Addr) : Prop where
  vars : SlW w vd q.vars
  parts : SlPt w pd q.parts
theorem QuIn.below {w w' : World} {q : Qu} {vd pd : Option Addr} (h : QuIn w q vd pd) (hb : RowKit.Below w.heap.size w w') : QuIn w' q vd pd := ⟨h.vars.below hb, h.parts.below hb⟩
theorem hideQ {p : Prop} (h : p) : Hid p := h
/-- a question's box -/
structure BoxQ (w : World) (b : Nat) (q : Qu) (vd pd : Option Addr) (vc pc : Nat) : Prop where
  c0 : w.cell? ⟨b, 0, none⟩ = some (.slice vd q.vars.length vc)
  c1 : w.cell? ⟨b, 1, none⟩ = some (.slice pd q.parts.length pc)
  c2 : w.cell? ⟨b, 2, none⟩ = some (.string ⟨q.order.toArray⟩)
  c3 : w.cell? ⟨b, 3, none⟩ = some (.bool q.down)
  c4 : w.cell? ⟨b, 4, none⟩ = some (.bool q.dist)
  c5 : w.cell? ⟨b, 5, none⟩ = some (.int .i64 q.lim)
theorem BoxQ.below {w w' : World} {b : Nat} {q : Qu} {vd pd : Option Addr} {vc pc : Nat} (h : BoxQ w b q vd pd vc pc) (hb : RowKit.Below w.heap.size w w') : BoxQ w' b q vd pd vc pc := by
  have s : ∀ j v, w.cell? ⟨b, j, none⟩ = some v → w'.cell? ⟨b, j, none⟩ = some v := fun j v hv => (hb.cell (World.block_lt_of_cell? w _ hv)).trans hv
  exact ⟨s _ _ h.c0, s _ _ h.c1, s _ _ h.c2, s _ _ h.c3, s _ _ h.c4, s _ _ h.c5⟩
theorem boxQ_new (w : World) (q : Qu) (vd pd : Option Addr) (vc pc : Nat) : BoxQ (w.alloc (.cells #[.slice vd q.vars.length vc, .slice pd q.parts.length pc, .string ⟨q.order.toArray⟩, .bool q.down, .bool q.dist, .int .i64 q.lim] 26)) w.heap.size q vd pd vc pc :=
  ⟨by go_simp, by go_simp, by go_simp, by go_simp, by go_simp, by go_simp⟩
/-- its texts and lists are no longer than such may be -/
structure FitQ (q : Qu) : Prop where
  vl : q.vars.length ≤ 9223372036854775807
  pl : q.parts.length ≤ 9223372036854775807
  vt : ∀ v ∈ q.vars, v.length ≤ maxLen
  pt : ∀ p ∈ q.parts, fitPt p
  ord : q.order.length ≤ maxLen
  lim : (Lit.int .i64 q.lim).wf = true
end Go.Proofs.YtcdbcoaiadipjaaGreat

/- An append of a list of texts to a row of one's own. -/
namespace Go.Proofs.YtcdbcoaiadipjaaGreat
open Go Go.RowKit Go.Proofs Go.Maps
set_option synthInstance.maxSize 1000

theorem append_emptyW {W : World} {base : Nat} {v : Value} {t : List (List UInt8)} (h : W.ownsRow base 9 1 v t.length (t.map encV)) (ad : Option Addr) (c : Nat) (ty : TypeId) : (Builtin.append_ #[23, 23] ty #[v, .slice ad 0 c]).run Tryz.prog W = .ok v W := by
  obtain ⟨i, hi, hz⟩ := Option.map_eq_some_iff.1 infoStrV
  have hf : (Builtin.firstCells i.size 0 (.slice ad 0 c)).run Tryz.prog W = .ok #[] W := by
    cases ad with
    | none => exact run_firstCells_none W _ _ _ _
    | some a => exact run_firstCells_some (P := Tryz.prog) W i.size 0 a 0 c [] (by simp) (by simp)
  rcases h.2 with ⟨rfl, h0⟩ | ⟨g, cc, cur, rfl, _, _, hle, _⟩
  · simp [Builtin.append_, run_underlying Tryz.underlying23, sizeOf, typeInfo, hi, Builtin.lenOf, hf]
  · simp [Builtin.append_, run_underlying Tryz.underlying23, sizeOf, typeInfo, hi, Builtin.lenOf, hf, hle, storeCells]
/-- an append of a list of texts to a row of one's own: just that row turns -/
theorem wpList_append_textsW {ops : Array Oper} {rest : List Oper} {o : Oper} {a : Act} {Q : Exit → Act → World → Prop} (w : World) (hgd : o.guard = none) (s x : Operand)
    (ho : o.op = .call { callee := .builtin .append, args := #[s, x], argTypes := #[23, 23] })
    (base : Nat) (v : Value) (t l : List (List UInt8)) (ad : Option Addr) (c : Nat) (hs : a.eval s = v) (hx : a.eval x = .slice ad l.length c) (hown : w.ownsRow base 9 1 v t.length (t.map encV)) (hl : SlW w ad l)
    (h63 : t.length + l.length ≤ 1000000) (hbase : base ≤ w.heap.size)
    (h : ∀ v' w', w'.ownsRow base 9 1 v' (t ++ l).length ((t ++ l).map encV) → w.grownBy w' v.ownBlock → wpList Tryz.prog ops Q rest (a.put o.dst v') w') : wpList Tryz.prog ops Q (o :: rest) a w := by
  obtain ⟨i0, hi, hz⟩ := Option.map_eq_some_iff.1 infoStrV
  simp only [Prod.mk.injEq] at hz
  obtain ⟨hz0, hz1, hz2⟩ := hz
  cases l with
  | nil =>
    refine Lib.wpList_append_run w hgd s x _ _ ho v _ hs hx v w (append_emptyW hown ad c _) (h v w ?_ (World.grownBy.refl _ _))
    simpa using hown
  | cons y r =>
    obtain ⟨b, off, rfl, hr⟩ := hl (by simp)
    refine wpList_append_own w hgd s x _ ho base 9 i0 (.string ByteArray.empty) 1 16 Tryz.underlying23 hi hz0 hz1 hz2 rfl (by decide) v t.length (t.map encV) hs hown ⟨b, off, none⟩ (y :: r).length c ((y :: r).map encV) hx (by simp) ?_ (fun u hu => by obtain ⟨z, _, rfl⟩ := List.mem_map.1 hu; rfl) (by unfold maxLen; omega) (by omega) hbase ?_
    · intro j u hj
      have hj' : j < (y :: r).length := by have := (List.getElem?_eq_some_iff.1 hj).1; simpa using this
      rw [Addr.add_lit, hr j hj']
      rw [List.getElem?_map, List.getElem?_eq_getElem hj'] at hj
      exact hj
    · intro v' w' h2 h3 _
      refine h v' w' ?_ h3
      rw [List.length_append]
      simpa using h2
end Go.Proofs.YtcdbcoaiadipjaaGreat

/- solve.keyer: the variables that two answers share. -/
namespace Go.Proofs.YtcdbcoaiadipjaaGreat
open Go Go.RowKit Go.Proofs Go.Maps Go.Sort
set_option synthInstance.maxSize 1000

theorem grown_cellE {W w1 : World} {row : Option Nat} {b : Nat} (h : W.grownBy w1 row) (hb : b < W.heap.size) (hne : some b ≠ row) (o : Nat) : w1.cell? ⟨b, o, none⟩ = W.cell? ⟨b, o, none⟩ ∧ w1.frozen? ⟨b, o, none⟩ = W.frozen? ⟨b, o, none⟩ := by
  have e := h.block b hb hne
  refine ⟨World.cell?_of_block (w := W) e, ?_⟩
  simp only [World.frozen?]
  rw [e]
theorem own_aboveE {w : World} {base e size n B : Nat} {v : Value} {xs : List Value} (h : w.ownsRow base e size v n xs) (hB : B < base) : some B ≠ v.ownBlock := fun q => by
  have := (h.lt B q.symm).1
  omega
theorem own_form {w : World} {base e size n : Nat} {v : Value} {xs : List Value} (h : w.ownsRow base e size v n xs) : ∃ ad c, v = .slice ad n c := by
  rcases h.2 with ⟨rfl, h0⟩ | ⟨g, cap, cur, rfl, _⟩
  · exact ⟨none, 0, by rw [h0]⟩
  · exact ⟨_, _, rfl⟩
/-- the names that the range has come by and that the other has, too -/
def CollE (f g : Ev) (left : Lit → Bool) (ss : List (List UInt8)) : Prop := ss.Nodup ∧ (∀ v ∈ ss, v.length ≤ maxLen) ∧ ∀ v : List UInt8, v.length ≤ maxLen → (v ∈ ss ↔ (g v).isSome = true ∧ left (.string v) = false ∧ (f v).isSome = true)
theorem CollE.step {f g : Ev} {left : Lit → Bool} {ss : List (List UInt8)} (h : CollE f g left ss) {v : List UInt8} (hv : v.length ≤ maxLen) (hl : left (.string v) = true) (hg : (g v).isSome = true) : CollE f g (fun z => left z && !z.sameKey (.string v)) (if (f v).isSome = true then ss ++ [v] else ss) := by
  obtain ⟨h1, h2, h3⟩ := h
  have hself : (Lit.string v).sameKey (.string v) = true := by simp [Lit.sameKey]
  have hoth : ∀ u, u ≠ v → (Lit.string u).sameKey (.string v) = false := fun u hu => Maps.sameKey_ne (fun e' => hu (by simpa using e'))
  have hnot : v ∉ ss := fun hm => by
    have := ((h3 v hv).1 hm).2.1
    rw [hl] at this
    cases this
  by_cases hf : (f v).isSome = true
  · rw [if_pos hf]
    refine ⟨?_, ?_, fun u hu => ?_⟩
    · rw [List.nodup_append]
      refine ⟨h1, by simp, fun a ha b hb e => ?_⟩
      simp at hb
      subst hb
      exact hnot (e ▸ ha)
    · intro u hu
      rw [List.mem_append, List.mem_singleton] at hu
      rcases hu with hu | rfl
      · exact h2 u hu
      · exact hv
    · rw [List.mem_append, List.mem_singleton]
      by_cases e : u = v
      · subst e
        simp [hself, hg, hf]
      · rw [h3 u hu]
        simp [hoth u e, e]
  · rw [if_neg hf]
    refine ⟨h1, h2, fun u hu => ?_⟩
    by_cases e : u = v
    · subst e
      simp [hnot, hf]
    · rw [h3 u hu]
      simp [hoth u e]
/-- the shared variables, in a box -/
def KeyAt (w : World) (B : Nat) (sh : List (List UInt8)) : Prop := ∃ ad c, w.cell? ⟨B, 0, none⟩ = some (.slice ad sh.length c) ∧ SlW w ad sh
theorem KeyAt.below {w w' : World} {B : Nat} {sh : List (List UInt8)} (h : KeyAt w B sh) (hb : RowKit.Below w.heap.size w w') : KeyAt w' B sh := by
  obtain ⟨ad, c, h1, h2⟩ := h
  exact ⟨ad, c, (hb.cell (World.block_lt_of_cell? w _ h1)).trans h1, h2.below hb⟩
def KeyerAns (f g : Ev) (w : World) (e : Ending) (w' : World) : Prop := RowKit.Below w.heap.size w w' ∧ ∃ sh B, e = .returned (.func (.func 81) #[] #[.pointer (some ⟨B, 0, none⟩)]) ∧ KeyAt w' B sh ∧ sh.Nodup ∧ (∀ v ∈ sh, v.length ≤ maxLen) ∧ ∀ v : List UInt8, v.length ≤ maxLen → (v ∈ sh ↔ (g v).isSome = true ∧ (f v).isSome = true)
/-- a row of texts, sorted -/
theorem sortTexts_any (base g cap : Nat) (ss : List (List UInt8)) (w : World) (hown : w.ownsRow base 9 1 (.slice (some ⟨g, 0, none⟩) ss.length cap) ss.length (ss.map encV)) (h63 : ss.length ≤ 1000000) :
    Calls Tryz.prog 80 #[.slice (some ⟨g, 0, none⟩) ss.length cap] w fun e w' => e = .returned (.tuple #[]) ∧ RowKit.Below g w w' ∧ SlW w' (some ⟨g, 0, none⟩) (ss.mergeSort fun x y => decide (x ≤ y)) := by
  have hg : g < w.heap.size := (hown.lt g rfl).2
  have hH : Holds encStr w g 0 ss.toArray := fun j hj => by
    have hj' : j < ss.length := by simpa using hj
    rw [Nat.zero_add]
    refine ⟨?_, hown.frozenAt j⟩
    rw [hown.cellAt j (by omega), List.getElem?_map, List.getElem?_eq_getElem hj', getElem!_pos ss.toArray j hj]
    simp [encV]
  refine (Tryz.slices_Sort_string g 0 cap ss w hH hg (by omega)).mono ?_
  rintro e w' ⟨rfl, n, os, rfl⟩
  have hd := holds_sortWorld encStr w g 0 n ss.toArray (ss.mergeSort fun x y => decide (x ≤ y)).toArray os hg hH (by simp)
  refine ⟨rfl, ?_, fun _ => ⟨g, 0, rfl, fun j hj => ?_⟩⟩
  · refine ⟨rfl, rfl, rfl, ?_, fun k hk => ?_⟩
    · show w.heap.size ≤ (_ ++ os).size
      simp [putRow, mapBlock, Sort.ahead]
    · show (_ ++ os)[k]? = _
      rw [Array.getElem?_append_left (by simp [putRow, mapBlock, Sort.ahead]; omega)]
      simp only [putRow, mapBlock, Sort.ahead, Array.getElem?_modify]
      rw [if_neg (by omega)]
  · have := (hd j (by simpa using hj)).1
    rw [getElem!_pos _ j (by simpa using hj)] at this
    rw [Nat.zero_add] at this
    rw [Nat.zero_add]
    refine Eq.trans this ?_
    simp [encV]
set_option maxHeartbeats 4000000 in
set_option maxRecDepth 100000 in
theorem keyer_any (bx bg nx ng : Nat) (f g : Ev) (w : World) (hx : EvAt w bx nx f) (hg : EvAt w bg ng g) (hroom : ng ≤ 1000) :
    Calls Tryz.prog 53 #[.map (some bx), .map (some bg)] w (KeyerAns f g w) := by
  have hbx := hx.lt
  have hbg := hg.lt
  have Hx := hideE hx
  obtain ⟨Dg, og, kg⟩ := hg
  have Kg := hideE kg
  have hsz : Maps.size Dg ≤ ng := og.size_le
  obtain ⟨W0, hW0⟩ : ∃ W0, W0 = w.alloc (.cells #[.slice none 0 0] 23) := ⟨_, rfl⟩
  have hB0 : RowKit.Below w.heap.size w W0 := by rw [hW0]; exact balloc _ _
  have hz0 : W0.heap.size = w.heap.size + 1 := by rw [hW0]; simp
  have c0 : W0.cell? ⟨w.heap.size, 0, none⟩ = some (.slice none 0 0) := by rw [hW0]; go_simp
  have f0 : W0.frozen? ⟨w.heap.size, 0, none⟩ = false := by rw [hW0]; go_simp
  have og0 : W0.ownsMap Tryz.prog 9 termElemM bg ng Dg := by rw [hW0]; exact og.alloc _
  have HQ := hideE (show ∀ e w', KeyerAns f g w e w' → KeyerAns f g w e w' from fun _ _ h => h)
  generalize hQ : KeyerAns f g w = Q at HQ ⊢
  rw [← hQ] at HQ
  have HQ2 : Hid (∀ e w', KeyerAns f g w e w' → Q e w') := fun e w' h => by rw [← hQ]; exact h
  clear hx kg hQ HQ
  go_enter Tryz.func53, Tryz.ntmps53
  go_upto_region 2 with fail
  rw [← hW0]
  clear hW0
  go_wp2_with (at_range; refine wpList_range_own _ rfl _ 61 rfl 9 28 keyedStr Tryz.underlying61 termElemM bg ng Dg rfl og0 ?_; intro w0 hrg0 hg0 hs0)
  go_frame
  rw [hz0] at hrg0 ⊢
  go_loopw [11] (fun _ wr => ∃ (left : Lit → Bool) (cnt : Nat) (ss : List (List UInt8)) (v : Value), wr.ranges Tryz.prog 9 termElemM bg (w.heap.size + 1) ng Dg left cnt ∧ ss.length + cnt ≤ Maps.size Dg ∧ wr.cell? ⟨w.heap.size, 0, none⟩ = some v ∧ wr.frozen? ⟨w.heap.size, 0, none⟩ = false ∧ Hid (wr.ownsRow (w.heap.size + 2) 9 1 v ss.length (ss.map encV)) ∧ Hid (CollE f g left ss) ∧ RowKit.Below w.heap.size w wr)
    (fun _ wr => wr.rangeLeft bg (w.heap.size + 1))
  case atStart =>
    obtain ⟨e1, e2⟩ := grown_cellE hg0 (b := w.heap.size) (by omega) (by simp) 0
    refine ⟨_, _, [], _, hrg0, by simp, e1.trans c0, e2.trans f0, World.ownsRow_nil _ _ _ _, ⟨List.nodup_nil, by simp, fun v hv => ?_⟩, hB0.grown hg0 (by omega) (fun k e => by cases e)⟩
    rw [(Kg.out v hv).1]
    simp
    intro h1 h2
    rw [h2] at h1
    cases h1
  case round =>
    clear og og0 hrg0 hg0 c0 f0
    obtain ⟨left, cnt, ss, v, hrg, hcs, hc, hf, hown, hC, hbr⟩ := hrel
    have hzr := hbr.size
    have hrl := hrg.lt
    go_wp2_with (at_next; refine wpList_next_ranges _ rfl _ rfl 9 keyedStr termElemM (fun v : List UInt8 => .string ⟨v.toArray⟩) (fun c : Tm => .agg #[.int .i64 c.1, .string ⟨c.2.1.toArray⟩, .string ⟨c.2.2.toArray⟩]) (fun key kl hk => by obtain ⟨x, hx, _⟩ := keyOf_v_inv hk; exact ⟨x, hx⟩) (fun v y hy => by obtain ⟨c, hc, _⟩ := termElemM_form hy; exact ⟨c, hc⟩) bg (w.heap.size + 1) ng Dg left cnt rfl hrg ?_ ?_)
    · intro hc0 hl0
      have hfin : Hid (ss.Nodup ∧ (∀ v ∈ ss, v.length ≤ maxLen) ∧ ∀ v : List UInt8, v.length ≤ maxLen → (v ∈ ss ↔ (g v).isSome = true ∧ (f v).isSome = true)) := ⟨hC.out.1, hC.out.2.1, fun u hu => by rw [hC.out.2.2 u hu, hl0]; simp⟩
      rcases hown.out.2 with ⟨rfl, h0⟩ | ⟨g', cap, cur, rfl, hg'⟩
      · obtain rfl : ss = [] := List.eq_nil_of_length_eq_zero h0
        clear h0 hC hown hrg hcs
        go_wp2_with (go_at_call 80; refine (Tryz.slices_Sort_string_none none 0 _).mono ?_; rintro e w' ⟨rfl, rfl⟩)
        exact HQ2.out _ _ ⟨hbr, [], w.heap.size, rfl, ⟨none, 0, hc, fun h => absurd rfl h⟩, hfin.out⟩
      · have hs63 : ss.length ≤ 1000000 := by omega
        have HS := sortTexts_any _ g' cap ss wr hown.out hs63
        have hgg := (hown.out.lt g' rfl).1
        clear hg' hC hown hrg hcs
        go_wp2_with fail
        refine HS.mono ?_
        rintro e w1 ⟨rfl, hb1, hs1⟩
        dsimp only
        go_wp2_with fail
        refine HQ2.out _ _ ⟨hbr.trans (hb1.mono (by omega)), ss.mergeSort fun x y => decide (x ≤ y), w.heap.size, rfl, ⟨some ⟨g', 0, none⟩, cap, ?_, hs1⟩, ?_, ?_, ?_⟩
        · rw [List.length_mergeSort]
          exact (hb1.cell (by show w.heap.size < g'; omega)).trans hc
        · exact (List.mergeSort_perm _ _).nodup_iff.2 hfin.out.1
        · intro u hu
          exact hfin.out.2.1 u ((List.mergeSort_perm _ _).mem_iff.1 hu)
        · intro u hu
          rw [(List.mergeSort_perm _ _).mem_iff]
          exact hfin.out.2.2 u hu
    · intro nm ck cS cL kl yd yp w1 cnt1 hkey hlx hv hat hrg1 hlt hg1 hs1 hen
      obtain ⟨v', ev, rfl, hvl⟩ := keyOf_v_inv hkey
      obtain rfl : nm = v' := by simpa using ev
      clear ev
      have hgn : (g nm).isSome = true := by
        have h1 := has_true_of_atKey hat
        rw [(Kg.out nm hvl).1] at h1
        exact h1
      have hE1 := hideE ((Hx.out.far hbr hbx).kept hg1 (fun e => by have := Option.some.inj e; omega))
      obtain ⟨e1, e2⟩ := grown_cellE hg1 (b := w.heap.size) (by omega) (fun e => by have := Option.some.inj e; omega) 0
      have hc1 := e1.trans hc
      have hf1 := e2.trans hf
      have hown1 := hideE (hown.out.kept hg1 (by
        rcases hb : v.ownBlock with _ | k
        · exact Or.inl rfl
        · refine Or.inr (fun e => ?_)
          have := (hown.out.lt k hb).1
          have := Option.some.inj e
          omega))
      have hB1 := hbr.grown hg1 (by omega) (fun k e => by have := Option.some.inj e; omega)
      have hC1 := hideE (hC.out.step hvl hlx hgn)
      have hle := hrg.left_eq
      have hw1 : w.heap.size < w1.heap.size := by omega
      have hw2 : w.heap.size + 2 ≤ w1.heap.size := by omega
      clear hv hat hkey hrg hc hf e1 e2 hown hC hgn hlx hs1
      cases hfn : f nm with
      | none =>
        rw [hfn] at hC1
        have HC2 : Hid (CollE f g (fun z => left z && !z.sameKey (.string nm)) ss) := hC1.out
        have Hfn := hideE hfn
        clear hfn hC1
        go_wp2_with (first
          | (at_lookup; refine wpList_look_ev _ rfl _ _ rfl bx nx f rfl hE1.out nm hvl rfl tmZero false (by rw [Hfn.out]; rfl) (by rw [Hfn.out]; rfl) ?_))
        have hrg2 := hrg1.alloc (.cells #[.int .i64 tmZero.1, .string ⟨tmZero.2.1.toArray⟩, .string ⟨tmZero.2.2.toArray⟩] 28)
        go_roundw
        case rel => first | exact ⟨_, cnt1, ss, v, hrg2, by omega, ((balloc w1 _).cell hw1).trans hc1, ((balloc w1 _).frozen hw1).trans hf1, hown1.out.alloc _, HC2.out, bstep hB1 (balloc _ _)⟩ | ((repeat apply Exists.intro); exact ⟨⟨_, cnt1, ss, v, hrg2, by omega, ((balloc w1 _).cell hw1).trans hc1, ((balloc w1 _).frozen hw1).trans hf1, hown1.out.alloc _, HC2.out, bstep hB1 (balloc _ _)⟩, rfl⟩)
        case measure => rw [hrg2.left_eq, hle]; exact hlt
      | some y =>
        rw [hfn] at hC1
        have HC2 : Hid (CollE f g (fun z => left z && !z.sameKey (.string nm)) (ss ++ [nm])) := hC1.out
        have Hfn := hideE hfn
        clear hfn hC1
        obtain ⟨W2, hW2⟩ : ∃ W2, W2 = (w1.alloc (.cells #[.int .i64 y.1, .string ⟨y.2.1.toArray⟩, .string ⟨y.2.2.toArray⟩] 28)).alloc (.cells #[.string ⟨nm.toArray⟩] 9) := ⟨_, rfl⟩
        have hB12 : RowKit.Below w1.heap.size w1 W2 := by rw [hW2]; exact bstep (balloc _ _) (balloc _ _)
        have hz2 : w.heap.size + 2 ≤ W2.heap.size := by rw [hW2]; simp; omega
        have hown2 : W2.ownsRow (w.heap.size + 2) 9 1 v ss.length (ss.map encV) := by rw [hW2]; exact (hown1.out.alloc _).alloc _
        have hrg2 : W2.ranges Tryz.prog 9 termElemM bg (w.heap.size + 1) ng Dg (fun z => left z && !z.sameKey (.string nm)) cnt1 := by rw [hW2]; exact (hrg1.alloc _).alloc _
        have hc2 := (hB12.cell (p := ⟨w.heap.size, 0, none⟩) hw1).trans hc1
        have hf2 := (hB12.frozen (p := ⟨w.heap.size, 0, none⟩) hw1).trans hf1
        have hsl : SlW W2 (some ⟨w1.heap.size + 1, 0, none⟩) [nm] := fun _ => ⟨_, _, rfl, fun j hj => by
          obtain rfl : j = 0 := by simpa using hj
          rw [hW2]
          go_simp
          rfl⟩
        have hs63 : ss.length + [nm].length ≤ 1000000 := by simp; omega
        go_wp2_with (first
          | (at_lookup; refine wpList_look_ev _ rfl _ _ rfl bx nx f rfl hE1.out nm hvl rfl y true (by rw [Hfn.out]; rfl) (by rw [Hfn.out]; rfl) ?_)
          | (at_builtin; rw [← hW2]; go_loud (refine wpList_append_textsW _ rfl _ _ rfl (w.heap.size + 2) v ss [nm] (some ⟨w1.heap.size + 1, 0, none⟩) 1 rfl rfl hown2 hsl hs63 hz2 ?_); intro v' w3 hown3 hg3; have hc3 := (grown_cellE hg3 (b := w.heap.size) (by omega) (own_aboveE hown2 (by omega)) 0).1.trans hc2; have hf3 := (grown_cellE hg3 (b := w.heap.size) (by omega) (own_aboveE hown2 (by omega)) 0).2.trans hf2; obtain ⟨n3, hn3⟩ : ∃ n3, n3 = (ss ++ [nm]).length := ⟨_, rfl⟩; rw [← hn3] at hown3; have Hn3 := hideE hn3; clear hn3; obtain ⟨av, cv, rfl⟩ := own_form hown3))
        have hrg3 := (hrg2.kept hg3 (own_aboveE hown2 (by omega)) (own_aboveE hown2 (by omega))).kept (grownBy_setCell' w3 w.heap.size (.slice av n3 cv)) (fun e => by have := Option.some.inj e; omega) (fun e => by have := Option.some.inj e; omega)
        have hown4 := hown3.kept (grownBy_setCell' w3 w.heap.size (.slice av n3 cv)) (by
          rcases hb : (Value.slice av n3 cv).ownBlock with _ | k
          · exact Or.inl rfl
          · refine Or.inr (fun e => ?_)
            have := (hown3.lt k hb).1
            have := Option.some.inj e
            omega)
        have hcf := World.cell?_setCell_same w3 ⟨w.heap.size, 0, none⟩ (.slice av n3 cv) hc3
        have hff : (w3.setCell ⟨w.heap.size, 0, none⟩ (.slice av n3 cv)).frozen? ⟨w.heap.size, 0, none⟩ = false := by rw [World.frozen?_setCell]; exact hf3
        have hBf := ((hB1.trans (hB12.mono hB1.size)).grown hg3 (by omega) (fun k e => by have := (hown2.lt k e).1; omega)).setCell (p := ⟨w.heap.size, 0, none⟩) (Nat.le_refl _) (.slice av n3 cv)
        have hown5 : Hid (World.ownsRow (w3.setCell ⟨w.heap.size, 0, none⟩ (.slice av n3 cv)) (w.heap.size + 2) 9 1 (.slice av n3 cv) (ss ++ [nm]).length ((ss ++ [nm]).map encV)) := by show World.ownsRow _ _ _ _ _ _ _; rw [← Hn3.out]; exact hown4
        have hcl : (ss ++ [nm]).length + cnt1 ≤ Maps.size Dg := by rw [List.length_append]; simp only [List.length_cons, List.length_nil]; omega
        go_roundw
        case rel => exact ⟨_, cnt1, ss ++ [nm], .slice av n3 cv, hrg3, hcl, hcf, hff, hown5, HC2.out, hBf⟩
        case measure => rw [hrg3.left_eq, hle]; exact hlt
end Go.Proofs.YtcdbcoaiadipjaaGreat

/- Rows of terms, and lists of such rows, in memory. -/
namespace Go.Proofs.YtcdbcoaiadipjaaGreat
open Go Go.RowKit Go.Proofs Go.Maps
set_option synthInstance.maxSize 1000

def encQ (x : Tm) : List Value := [.int .i64 x.1, .string ⟨x.2.1.toArray⟩, .string ⟨x.2.2.toArray⟩]
def valTQ (x : Tm) : Value := .agg #[.int .i64 x.1, .string ⟨x.2.1.toArray⟩, .string ⟨x.2.2.toArray⟩]
def cellsQ (l : List Tm) : List Value := l.flatMap encQ
theorem encQ_len (x : Tm) : (encQ x).length = 3 := rfl
theorem encQ_one (x : Tm) : ∀ v ∈ encQ x, v.oneCell' = true := by
  intro v hv
  simp [encQ] at hv
  rcases hv with rfl | rfl | rfl <;> rfl
theorem cellsQ_len (l : List Tm) : (cellsQ l).length = l.length * 3 := by
  induction l with
  | nil => rfl
  | cons x r ih => simp only [cellsQ, List.flatMap_cons, List.length_append, List.length_cons] at *; rw [ih, encQ_len]; omega
theorem cellsQ_at (l : List Tm) (i : Nat) (h : i < l.length) (j : Nat) (hj : j < 3) : (cellsQ l)[i * 3 + j]? = (encQ l[i])[j]? := by
  induction l generalizing i with
  | nil => simp at h
  | cons x r ih =>
    simp only [cellsQ, List.flatMap_cons] at *
    cases i with
    | zero => rw [List.getElem?_append_left (by rw [encQ_len]; omega)]; simp
    | succ n =>
      rw [List.getElem?_append_right (by rw [encQ_len]; omega), encQ_len, show (n + 1) * 3 + j - 3 = n * 3 + j by omega, ih n (by simpa using h)]
      simp
theorem cellsQ_app (a b : List Tm) : cellsQ (a ++ b) = cellsQ a ++ cellsQ b := by simp [cellsQ]
/-- a slice holds a list of terms -/
def SlQ (w : World) (ad : Option Addr) (l : List Tm) : Prop := l ≠ [] → ∃ b o, ad = some ⟨b, o, none⟩ ∧ ∀ j v, (cellsQ l)[j]? = some v → w.cell? ⟨b, o + j, none⟩ = some v
theorem SlQ.below {w w' : World} {ad : Option Addr} {l : List Tm} (h : SlQ w ad l) (hb : RowKit.Below w.heap.size w w') : SlQ w' ad l := fun hl => by
  obtain ⟨b, o, e, r⟩ := h hl
  exact ⟨b, o, e, fun j v hv => (hb.cell (World.block_lt_of_cell? w _ (r j v hv))).trans (r j v hv)⟩
theorem SlQ.at {w : World} {ad : Option Addr} {l : List Tm} (h : SlQ w ad l) (k : Nat) (hk : k < l.length) : ∃ b o, ad = some ⟨b, o, none⟩ ∧ w.cell? ⟨b, o + k * 3, none⟩ = some (.int .i64 l[k].1) ∧ w.cell? ⟨b, o + k * 3 + 1, none⟩ = some (.string ⟨l[k].2.1.toArray⟩) ∧ w.cell? ⟨b, o + k * 3 + 2, none⟩ = some (.string ⟨l[k].2.2.toArray⟩) := by
  obtain ⟨b, o, e, r⟩ := h (fun e => by rw [e] at hk; simp at hk)
  have hx : ∀ j (hj : j < 3) v, (encQ l[k])[j]? = some v → w.cell? ⟨b, o + k * 3 + j, none⟩ = some v := fun j hj v hv => by
    rw [Nat.add_assoc]
    exact r _ v (by rw [cellsQ_at l k hk j hj]; exact hv)
  exact ⟨b, o, e, hx 0 (by omega) _ rfl, hx 1 (by omega) _ rfl, hx 2 (by omega) _ rfl⟩
theorem slQ_nil (W : World) (ad : Option Addr) : SlQ W ad [] := fun h => absurd rfl h
theorem own_slQ {W : World} {base : Nat} {e : TypeId} {v : Value} {t : List Tm} (h : W.ownsRow base e 3 v t.length (cellsQ t)) : ∃ ad cap, v = .slice ad t.length cap ∧ SlQ W ad t := by
  have h' := h
  rcases h.2 with ⟨rfl, h0⟩ | ⟨g, cap, cur, rfl, _⟩
  · exact ⟨none, 0, by rw [h0], fun hne => absurd (List.eq_nil_of_length_eq_zero h0) hne⟩
  · refine ⟨some ⟨g, 0, none⟩, cap, rfl, fun _ => ⟨g, 0, rfl, fun j u hj => ?_⟩⟩
    have := h'.cells (g := g) rfl j u hj
    rwa [Addr.add_lit] at this
theorem infoQ : (Tryz.prog.info? 28).map (fun i => (i.zero, i.size, i.bytes)) = some (some (.agg (encQ tmZero).toArray), 3, 40) := by kernel_rfl
/-- a slice holds a list of rows -/
def SlR (w : World) (ad : Option Addr) (L : List (List Tm)) : Prop := L ≠ [] → ∃ b o, ad = some ⟨b, o, none⟩ ∧ ∀ j (hj : j < L.length), ∃ rd rc, w.cell? ⟨b, o + j, none⟩ = some (.slice rd L[j].length rc) ∧ SlQ w rd L[j]
theorem SlR.below {w w' : World} {ad : Option Addr} {L : List (List Tm)} (h : SlR w ad L) (hb : RowKit.Below w.heap.size w w') : SlR w' ad L := fun hl => by
  obtain ⟨b, o, e, r⟩ := h hl
  refine ⟨b, o, e, fun j hj => ?_⟩
  obtain ⟨rd, rc, c, s⟩ := r j hj
  exact ⟨rd, rc, (hb.cell (World.block_lt_of_cell? w _ c)).trans c, s.below hb⟩
theorem SlR.at {w : World} {ad : Option Addr} {L : List (List Tm)} (h : SlR w ad L) (k : Nat) (hk : k < L.length) : ∃ b o rd rc, ad = some ⟨b, o, none⟩ ∧ w.cell? ⟨b, o + k, none⟩ = some (.slice rd L[k].length rc) ∧ SlQ w rd L[k] := by
  obtain ⟨b, o, e, r⟩ := h (fun e => by rw [e] at hk; simp at hk)
  obtain ⟨rd, rc, c, s⟩ := r k hk
  exact ⟨b, o, rd, rc, e, c, s⟩
theorem slR_nil (W : World) (ad : Option Addr) : SlR W ad [] := fun h => absurd rfl h
/-- rows of one's own: a row of slices, each a row of terms; none of them is another one's -/
structure OwnR (W : World) (B : Nat) (v : Value) (L : List (List Tm)) (vs : List Value) : Prop where
  len : vs.length = L.length
  row : W.ownsRow B 40 1 v L.length vs
  each : ∀ j (h : j < L.length), W.ownsRow B 28 3 (vs[j]'(by omega)) L[j].length (cellsQ L[j])
theorem types_ne : (40 : Nat) ≠ 28 := by decide
/-- what owns blocks of two types shares none -/
theorem own_types {W : World} {B e e' s s' n n' : Nat} {v v' : Value} {cs cs' : List Value} (h : W.ownsRow B e s v n cs) (h' : W.ownsRow B e' s' v' n' cs') (hne : e ≠ e') : v'.ownBlock = none ∨ v'.ownBlock ≠ v.ownBlock := by
  rcases h'.2 with ⟨rfl, _⟩ | ⟨g', c', cur', rfl, _, hg', _⟩
  · exact Or.inl rfl
  · right
    intro hq
    rcases h.2 with ⟨rfl, _⟩ | ⟨g, c, cur, rfl, _, hg, _⟩
    · cases hq
    · have e1 : g' = g := by simpa [Value.ownBlock] using hq
      rw [e1, hg] at hg'
      injection hg' with hg'
      injection hg' with _ h2 _
      exact hne h2
theorem OwnR.below {W W' : World} {B : Nat} {v : Value} {L : List (List Tm)} {vs : List Value} (h : OwnR W B v L vs) (hb : RowKit.Below W.heap.size W W') : OwnR W' B v L vs := ⟨h.len, ownsRow_belowV h.row hb, fun j hj => ownsRow_belowV (h.each j hj) hb⟩
theorem OwnR.nil (W : World) (B : Nat) : OwnR W B (.slice none 0 0) [] [] := ⟨rfl, World.ownsRow_nil _ _ _ _, fun j h => by simp at h⟩
/-- one row more: the list of rows grew, the row was there -/
theorem OwnR.push {W W' : World} {B : Nat} {v v' : Value} {L : List (List Tm)} {vs : List Value} {r : List Tm} {u : Value} (h : OwnR W B v L vs) (hr : W.ownsRow B 28 3 u r.length (cellsQ r)) (hrow : W'.ownsRow B 40 1 v' (L ++ [r]).length (vs ++ [u])) (hg : W.grownBy W' v.ownBlock) : OwnR W' B v' (L ++ [r]) (vs ++ [u]) := by
  refine ⟨by simp [h.len], hrow, fun j hj => ?_⟩
  by_cases hjl : j < L.length
  · have e1 : (L ++ [r])[j] = L[j] := List.getElem_append_left hjl
    have e2 : (vs ++ [u])[j]'(by simp; have := h.len; omega) = vs[j]'(by have := h.len; omega) := List.getElem_append_left (by have := h.len; omega)
    rw [e1, e2]
    exact (h.each j hjl).kept hg (own_types h.row (h.each j hjl) types_ne)
  · have hjj : j = L.length := by simp at hj; omega
    subst hjj
    have e1 : (L ++ [r])[L.length] = r := by simp
    have e2 : (vs ++ [u])[L.length]'(by simp [h.len]) = u := by
      have := h.len
      rw [List.getElem_append_right (by omega)]
      simp [this]
    rw [e1, e2]
    exact hr.kept hg (own_types h.row hr types_ne)
theorem OwnR.sl {W : World} {B : Nat} {v : Value} {L : List (List Tm)} {vs : List Value} (h : OwnR W B v L vs) : ∃ ad cap, v = .slice ad L.length cap ∧ SlR W ad L := by
  rcases h.row.2 with ⟨rfl, h0⟩ | ⟨g, cap, cur, rfl, _⟩
  · exact ⟨none, 0, by rw [h0], fun hne => absurd (List.eq_nil_of_length_eq_zero h0) hne⟩
  · refine ⟨some ⟨g, 0, none⟩, cap, rfl, fun _ => ⟨g, 0, rfl, fun j hj => ?_⟩⟩
    have hjv : j < vs.length := by have := h.len; omega
    have hc := h.row.cells (g := g) rfl j vs[j] (List.getElem?_eq_getElem hjv)
    rw [Addr.add_lit] at hc
    obtain ⟨rd, rc, e, s⟩ := own_slQ (h.each j hj)
    rw [e] at hc
    exact ⟨rd, rc, hc, s⟩
end Go.Proofs.YtcdbcoaiadipjaaGreat

/- A row of terms that is written one by one; the terms that an answer gives to some variables. -/
namespace Go.Proofs.YtcdbcoaiadipjaaGreat
open Go Go.RowKit Go.Proofs Go.Maps
set_option synthInstance.maxSize 1000

/-- the cells of a block, from its first on, are a list's, and may be written -/
def RowQ (W : World) (g : Nat) (L : List Tm) : Prop := ∀ j v, (cellsQ L)[j]? = some v → W.cell? ⟨g, j, none⟩ = some v ∧ W.frozen? ⟨g, j, none⟩ = false
theorem RowQ.at {W : World} {g : Nat} {L : List Tm} (h : RowQ W g L) (k : Nat) (hk : k < L.length) :
    (W.cell? ⟨g, k * 3, none⟩ = some (.int .i64 L[k].1) ∧ W.cell? ⟨g, k * 3 + 1, none⟩ = some (.string ⟨L[k].2.1.toArray⟩) ∧ W.cell? ⟨g, k * 3 + 2, none⟩ = some (.string ⟨L[k].2.2.toArray⟩)) ∧
    (W.frozen? ⟨g, k * 3, none⟩ = false ∧ W.frozen? ⟨g, k * 3 + 1, none⟩ = false ∧ W.frozen? ⟨g, k * 3 + 2, none⟩ = false) := by
  have q := fun c (hc : c < 3) v (hv : (encQ L[k])[c]? = some v) => h (k * 3 + c) v (by rw [cellsQ_at L k hk c hc]; exact hv)
  exact ⟨⟨(q 0 (by omega) _ rfl).1, (q 1 (by omega) _ rfl).1, (q 2 (by omega) _ rfl).1⟩, ⟨(q 0 (by omega) _ rfl).2, (q 1 (by omega) _ rfl).2, (q 2 (by omega) _ rfl).2⟩⟩
theorem RowQ.sl {W : World} {g : Nat} {L : List Tm} (h : RowQ W g L) : SlQ W (some ⟨g, 0, none⟩) L := fun _ => ⟨g, 0, rfl, fun j v hv => by rw [Nat.zero_add]; exact (h j v hv).1⟩
theorem RowQ.set {W : World} {g k : Nat} {L : List Tm} (h : RowQ W g L) (x : Tm) :
    RowQ (((W.setCell ⟨g, k * 3, none⟩ (.int .i64 x.1)).setCell ⟨g, k * 3 + 1, none⟩ (.string ⟨x.2.1.toArray⟩)).setCell ⟨g, k * 3 + 2, none⟩ (.string ⟨x.2.2.toArray⟩)) g (L.set k x) := fun j v hv => by
  have hj : j < L.length * 3 := by
    have := (List.getElem?_eq_some_iff.1 hv).1
    rwa [cellsQ_len, List.length_set] at this
  have hi : j / 3 < L.length := by omega
  have hv2 := hv
  rw [show j = j / 3 * 3 + j % 3 by omega, cellsQ_at (L.set k x) (j / 3) (by rw [List.length_set]; exact hi) (j % 3) (by omega)] at hv2
  have o : ∀ (V : World) (i : Nat) (u : Value), i ≠ j → (V.setCell ⟨g, i, none⟩ u).cell? ⟨g, j, none⟩ = V.cell? ⟨g, j, none⟩ := fun V i u hne => World.cell?_setCell_other V _ _ u (fun e => hne (congrArg Addr.off e))
  obtain ⟨v0, hv0⟩ : ∃ v0, (cellsQ L)[j]? = some v0 := ⟨_, List.getElem?_eq_getElem (by rw [cellsQ_len]; exact hj)⟩
  obtain ⟨c0, f0⟩ := h j v0 hv0
  refine ⟨?_, by rw [World.frozen?_setCell, World.frozen?_setCell, World.frozen?_setCell]; exact f0⟩
  by_cases e : j / 3 = k
  · rw [List.getElem_set, if_pos e.symm] at hv2
    rcases (by omega : j % 3 = 0 ∨ j % 3 = 1 ∨ j % 3 = 2) with r | r | r
    · rw [r] at hv2
      have ev : v = .int .i64 x.1 := by simpa [encQ] using hv2.symm
      have ej : j = k * 3 := by omega
      subst ev
      rw [o _ _ _ (by omega), o _ _ _ (by omega), ej]
      rw [ej] at c0
      exact World.cell?_setCell_same W _ _ c0
    · rw [r] at hv2
      have ev : v = .string ⟨x.2.1.toArray⟩ := by simpa [encQ] using hv2.symm
      have ej : j = k * 3 + 1 := by omega
      subst ev
      rw [o _ _ _ (by omega), ej]
      rw [ej] at c0
      exact World.cell?_setCell_same _ _ _ ((World.cell?_setCell_other W _ _ _ (fun e => by have := congrArg Addr.off e; simp at this)).trans c0)
    · rw [r] at hv2
      have ev : v = .string ⟨x.2.2.toArray⟩ := by simpa [encQ] using hv2.symm
      have ej : j = k * 3 + 2 := by omega
      subst ev
      rw [ej]
      rw [ej] at c0
      exact World.cell?_setCell_same _ _ _ ((World.cell?_setCell_other _ _ _ _ (fun e => by have := congrArg Addr.off e; simp at this)).trans ((World.cell?_setCell_other W _ _ _ (fun e => by have := congrArg Addr.off e; simp at this)).trans c0))
  · rw [List.getElem_set, if_neg (fun h => e h.symm)] at hv2
    rw [o _ _ _ (by omega), o _ _ _ (by omega), o _ _ _ (by omega), c0, ← hv0]
    rw [show j = j / 3 * 3 + j % 3 by omega, cellsQ_at L (j / 3) hi (j % 3) (by omega), hv2]
theorem rowQ_made (W : World) (n : Nat) (T : TypeId) : RowQ (W.alloc (.cells (madeCells (encQ tmZero).toArray (n * 3)) T)) W.heap.size (List.replicate n tmZero) := fun j v hv => by
  have hh := heap_alloc_last W (.cells (madeCells (encQ tmZero).toArray (n * 3)) T)
  have hj : j < n * 3 := by
    have := (List.getElem?_eq_some_iff.1 hv).1
    rwa [cellsQ_len, List.length_replicate] at this
  refine ⟨?_, frozen_of_row _ _ j _ T hh⟩
  rw [cell_of_row _ _ j _ T (0, 0) hh]
  rw [show j = j / 3 * 3 + j % 3 by omega, cellsQ_at _ (j / 3) (by simp; omega) (j % 3) (by omega)] at hv
  simp only [List.getElem_replicate] at hv
  rw [← hv]
  have h3 : (encQ tmZero).toArray.size = 3 := rfl
  simp only [madeCells, h3]
  rw [Array.getElem?_map, Array.getElem?_range, if_pos (by simpa using hj)]
  rcases (by omega : j % 3 = 0 ∨ j % 3 = 1 ∨ j % 3 = 2) with r | r | r <;> simp [r, encQ]
theorem makeTms (n : Nat) (w : World) (h : n ≤ 100000) : (Instr.makeSlice 40 (.int .i64 (n : Int)) (.int .i64 (n : Int))).run Tryz.prog w = .ok (.slice (some ⟨w.heap.size, 0, none⟩) n n) (w.alloc (.cells (madeCells (encQ tmZero).toArray (n * 3)) 28)) := by
  obtain ⟨i, hi, hz⟩ := Option.map_eq_some_iff.1 infoQ
  simp only [Prod.mk.injEq] at hz
  obtain ⟨h1, h2, h3⟩ := hz
  have := run_make (P := Tryz.prog) w 40 28 i _ Tryz.underlying40 hi h1 .i64 .i64 (n : Int) (n : Int) (by omega) (Int.le_refl _) (by rw [h3]; omega) (by omega)
  rw [h2] at this
  simpa [Value.cells] using this
def termsE (f : Ev) (names : List (List UInt8)) : List Tm := names.map fun v => (f v).getD tmZero
def termsK (f : Ev) (names : List (List UInt8)) (k : Nat) : List Tm := termsE f (names.take k) ++ List.replicate (names.length - k) tmZero
theorem termsK_len (f : Ev) (names : List (List UInt8)) (k : Nat) (h : k ≤ names.length) : (termsK f names k).length = names.length := by
  simp [termsK, termsE]; omega
theorem termsK_next {f : Ev} {names : List (List UInt8)} {k : Nat} (h : k < names.length) : (termsK f names k).set k ((f names[k]).getD tmZero) = termsK f names (k + 1) := by
  unfold termsK termsE
  obtain ⟨m, hm⟩ : ∃ m, names.length - k = m + 1 := ⟨names.length - k - 1, by omega⟩
  have hm2 : names.length - (k + 1) = m := by omega
  have hk : (List.map (fun v => (f v).getD tmZero) (names.take k)).length = k := by simp; omega
  rw [hm, hm2, List.replicate_succ, List.set_append_right _ _ (by omega), hk, Nat.sub_self, List.set_cons_zero, List.take_succ_eq_append_getElem h, List.map_append, List.append_assoc]
  rfl
theorem termsK_all (f : Ev) (names : List (List UInt8)) : termsK f names names.length = termsE f names := by simp [termsK, termsE]
set_option maxHeartbeats 4000000 in
set_option maxRecDepth 100000 in
theorem terms_any (bm n : Nat) (f : Ev) (vd : Option Addr) (vc : Nat) (names : List (List UInt8)) (w : World) (h : EvAt w bm n f) (hv : SlW w vd names) (hn : ∀ v ∈ names, v.length ≤ maxLen) (h1 : names.length ≤ 100000) :
    Calls Tryz.prog 17 #[.map (some bm), .slice vd names.length vc] w fun e w' => e = .returned (.slice (some ⟨w.heap.size, 0, none⟩) names.length names.length) ∧ RowQ w' w.heap.size (termsE f names) ∧ RowKit.Below w.heap.size w w' := by
  have hmk := fun W => makeTms names.length W h1
  have HE := hideE h
  have HV := hideE hv
  have HN := hideE hn
  clear h hv hn
  obtain ⟨W0, hW0⟩ : ∃ W0, W0 = w.alloc (.cells (madeCells (encQ tmZero).toArray (names.length * 3)) 28) := ⟨_, rfl⟩
  have hR0 := hideE (rowQ_made w names.length 28)
  have hB0 : RowKit.Below w.heap.size w W0 := by rw [hW0]; exact balloc _ _
  go_enter Tryz.func17, Tryz.ntmps17
  go_upto_region 2 with fail
  rw [← hW0] at hR0 ⊢
  clear hW0
  go_wp2_with fail
  go_loopw [13] (fun i wr => ∃ k : Nat, k ≤ names.length ∧ i = .int .i64 k ∧ Hid (RowQ wr w.heap.size (termsK f names k)) ∧ RowKit.Below w.heap.size w wr) (fun i wr => names.length - (intOf i).toNat)
  case atStart => exact ⟨0, Nat.zero_le _, rfl, by show RowQ _ _ _; simpa [termsK, termsE] using hR0.out, hB0⟩
  case round =>
    clear hR0 hB0
    obtain ⟨k, hk, rfl, hR, hbr⟩ := hrel
    by_cases hlt : k < names.length
    · have t1 : decide ((k : Int) < (names.length : Int)) = true := by simp; omega
      have i0 : (0 : Int) ≤ (k : Int) := by omega
      have i1 : (k : Int) < (names.length : Int) := by omega
      obtain ⟨b, o, rfl, ck⟩ := (HV.out.below hbr).at k hlt
      have hvk := HN.out _ (List.getElem_mem hlt)
      have hNx := hideE (hR.out.set (k := k) ((f names[k]).getD tmZero))
      rw [termsK_next hlt] at hNx
      obtain ⟨⟨c0, c1, c2⟩, f0, f1, f2⟩ := hR.out.at k (by rw [termsK_len f names k hk]; exact hlt)
      generalize hy : (f names[k]).getD tmZero = y at *
      go_wp2_with (first
        | (at_lookup; refine wpList_look0_ev _ rfl _ _ rfl bm n f rfl (HE.out.far hbr HE.out.lt) names[k] hvk rfl y hy ?_))
      go_roundw
      case rel => exact ⟨k + 1, by omega, by go_num, hNx.out, ((hbr.setCell (p := ⟨w.heap.size, k * 3, none⟩) (Nat.le_refl _) _).setCell (p := ⟨w.heap.size, k * 3 + 1, none⟩) (Nat.le_refl _) _).setCell (p := ⟨w.heap.size, k * 3 + 2, none⟩) (Nat.le_refl _) _⟩
      case measure => simp [intOf]; omega
    · obtain rfl : k = names.length := by omega
      have t1 : decide ((names.length : Int) < (names.length : Int)) = false := by simp
      go_wp2_with fail
      go_ret
      exact ⟨rfl, by rw [← termsK_all]; exact hR.out, hbr⟩
end Go.Proofs.YtcdbcoaiadipjaaGreat

/- The key by which answers meet: what keyer makes. -/
namespace Go.Proofs.YtcdbcoaiadipjaaGreat
open Go Go.RowKit Go.Proofs Go.Maps
set_option synthInstance.maxSize 1000

section
variable {P : Program} {w : World}
theorem step_copyE {ops : Array Oper} {o : Oper} {a : Act} {K : Act → World → Prop} {Q : Exit → Act → World → Prop} {E : Prop} (hgd : o.guard = none) (s x : Operand) (t t' : TypeId)
    (ho : o.op = .call { callee := .builtin .copy, args := #[s, x], argTypes := #[t, t'] }) (v u : Value) (hs : a.eval s = v) (hx : a.eval x = u) {v' : Value} {w' : World}
    (hr : (Builtin.copy_ #[t, t'] o.type #[v, u]).run P w = .ok v' w') (h : K (a.put o.dst v') w') : if Region.wanted o (yielded ops a.tmps) = true then Oper.wp P o a w K Q else E := by
  rw [if_pos (by simp [Region.wanted, hgd])]
  unfold Oper.wp execOp
  simp only [ho, resolve, invoke, builtin, Sem.run_bind, Sem.run_pure, Result.andThen_ok, List.map_toArray, List.map_cons, List.map_nil, hs, hx, hr]
  exact h
end
theorem run_copyQ (w : World) (ty : TypeId) (b g n c : Nat) (xs : List Tm) (hn : xs.length = n) (h3 : n ≤ 3) (hsrc : ∀ j v, (cellsQ xs)[j]? = some v → w.cell? ⟨g, j, none⟩ = some v)
    (hc : ∀ j, j < 9 → (w.cell? ⟨b, j, none⟩).isSome = true) (hf : ∀ j, j < 9 → w.frozen? ⟨b, j, none⟩ = false) :
    (Builtin.copy_ #[40, 40] ty #[.slice (some ⟨b, 0, none⟩) 3 3, .slice (some ⟨g, 0, none⟩) n c]).run Tryz.prog w = .ok (.int .i64 n) (w.setCells b 0 (cellsQ xs)) := by
  have hlen : (cellsQ xs).length = n * 3 := by rw [cellsQ_len, hn]
  have hl := run_loadCells_list (P := Tryz.prog) w ⟨g, 0, none⟩ (cellsQ xs) (fun j v hv => by rw [Addr.add_lit, Nat.zero_add]; exact hsrc j v hv)
  have hst := run_storeCells_cells (P := Tryz.prog) b 0 (cellsQ xs) 0 w (fun j hj => by simpa using hc j (by omega)) (fun j hj => by simpa using hf j (by omega)) (fun u hu => by
    obtain ⟨z, _, hz⟩ := List.mem_flatMap.1 hu
    exact encQ_one z u hz)
  rw [hlen] at hl
  obtain ⟨i, hi, hz⟩ := Option.map_eq_some_iff.1 infoQ
  simp only [Prod.mk.injEq] at hz
  obtain ⟨_, h2, _⟩ := hz
  have hmin : Nat.min n 3 = n := Nat.min_eq_left h3
  simp [Builtin.copy_, run_underlying Tryz.underlying40, Builtin.lenOf, Builtin.firstCells, sizeOf, typeInfo, hi, h2, hmin, hl, hst, goInt]
def zero3 : Tr := (tmZero, tmZero, tmZero)
theorem key_cells (sh : List (List UInt8)) (h3 : sh.length ≤ 3) (f : Ev) (j : Nat) (hj : j < 9) : (encTr (keyT sh f))[j]? = if j < sh.length * 3 then (cellsQ (termsE f sh))[j]? else (encTr zero3)[j]? := by
  match sh, h3 with
  | [], _ => rfl
  | [a], _ => rcases (by omega : j = 0 ∨ j = 1 ∨ j = 2 ∨ j = 3 ∨ j = 4 ∨ j = 5 ∨ j = 6 ∨ j = 7 ∨ j = 8) with rfl | rfl | rfl | rfl | rfl | rfl | rfl | rfl | rfl <;> rfl
  | [a, b], _ => rcases (by omega : j = 0 ∨ j = 1 ∨ j = 2 ∨ j = 3 ∨ j = 4 ∨ j = 5 ∨ j = 6 ∨ j = 7 ∨ j = 8) with rfl | rfl | rfl | rfl | rfl | rfl | rfl | rfl | rfl <;> rfl
  | [a, b, c], _ => rcases (by omega : j = 0 ∨ j = 1 ∨ j = 2 ∨ j = 3 ∨ j = 4 ∨ j = 5 ∨ j = 6 ∨ j = 7 ∨ j = 8) with rfl | rfl | rfl | rfl | rfl | rfl | rfl | rfl | rfl <;> rfl
  | a :: b :: c :: d :: r, h => simp at h
/-- nine cells of a block -/
def NineAt (w : World) (b : Nat) (t : Tr) : Prop := ∀ j v, (encTr t)[j]? = some v → w.cell? ⟨b, j, none⟩ = some v ∧ w.frozen? ⟨b, j, none⟩ = false
theorem NineAt.all {w : World} {b : Nat} {t : Tr} (h : NineAt w b t) : (w.cell? ⟨b, 0, none⟩ = some (.int .i64 t.1.1) ∧ w.cell? ⟨b, 1, none⟩ = some (.string ⟨t.1.2.1.toArray⟩) ∧ w.cell? ⟨b, 2, none⟩ = some (.string ⟨t.1.2.2.toArray⟩) ∧ w.cell? ⟨b, 3, none⟩ = some (.int .i64 t.2.1.1) ∧ w.cell? ⟨b, 4, none⟩ = some (.string ⟨t.2.1.2.1.toArray⟩) ∧ w.cell? ⟨b, 5, none⟩ = some (.string ⟨t.2.1.2.2.toArray⟩) ∧ w.cell? ⟨b, 6, none⟩ = some (.int .i64 t.2.2.1) ∧ w.cell? ⟨b, 7, none⟩ = some (.string ⟨t.2.2.2.1.toArray⟩) ∧ w.cell? ⟨b, 8, none⟩ = some (.string ⟨t.2.2.2.2.toArray⟩)) ∧
    (w.frozen? ⟨b, 0, none⟩ = false ∧ w.frozen? ⟨b, 1, none⟩ = false ∧ w.frozen? ⟨b, 2, none⟩ = false ∧ w.frozen? ⟨b, 3, none⟩ = false ∧ w.frozen? ⟨b, 4, none⟩ = false ∧ w.frozen? ⟨b, 5, none⟩ = false ∧ w.frozen? ⟨b, 6, none⟩ = false ∧ w.frozen? ⟨b, 7, none⟩ = false ∧ w.frozen? ⟨b, 8, none⟩ = false) :=
  ⟨⟨(h 0 _ rfl).1, (h 1 _ rfl).1, (h 2 _ rfl).1, (h 3 _ rfl).1, (h 4 _ rfl).1, (h 5 _ rfl).1, (h 6 _ rfl).1, (h 7 _ rfl).1, (h 8 _ rfl).1⟩, ⟨(h 0 _ rfl).2, (h 1 _ rfl).2, (h 2 _ rfl).2, (h 3 _ rfl).2, (h 4 _ rfl).2, (h 5 _ rfl).2, (h 6 _ rfl).2, (h 7 _ rfl).2, (h 8 _ rfl).2⟩⟩
theorem NineAt.lt {w : World} {b : Nat} {t : Tr} (h : NineAt w b t) : b < w.heap.size := World.block_lt_of_cell? w _ (h 0 _ rfl).1
theorem NineAt.below {w w' : World} {b : Nat} {t : Tr} (h : NineAt w b t) (hb : RowKit.Below w.heap.size w w') : NineAt w' b t := fun j v hv => ⟨(hb.cell h.lt).trans (h j v hv).1, (hb.frozen h.lt).trans (h j v hv).2⟩
theorem nineAt_new (w : World) (t : Tr) (T : TypeId) : NineAt (w.alloc (.cells (encTr t).toArray T)) w.heap.size t := fun j v hv => by
  have hh := heap_alloc_last w (.cells (encTr t).toArray T)
  exact ⟨by rw [cell_of_row _ _ j _ T (0, 0) hh, List.getElem?_toArray]; exact hv, frozen_of_row _ _ j _ T hh⟩
theorem NineAt.copied {w : World} {b : Nat} {sh : List (List UInt8)} {f : Ev} (h : NineAt w b zero3) (h3 : sh.length ≤ 3) : NineAt (w.setCells b 0 (cellsQ (termsE f sh))) b (keyT sh f) := fun j v hv => by
  have hj : j < 9 := (List.getElem?_eq_some_iff.1 hv).1
  have hl : (cellsQ (termsE f sh)).length = sh.length * 3 := by rw [cellsQ_len]; simp [termsE]
  obtain ⟨u, hu⟩ : ∃ u, (encTr zero3)[j]? = some u := ⟨_, List.getElem?_eq_getElem hj⟩
  refine ⟨?_, by rw [World.frozen?_setCells]; exact (h j u hu).2⟩
  rw [key_cells sh h3 f j hj] at hv
  by_cases hlt : j < sh.length * 3
  · rw [if_pos hlt] at hv
    have hin := World.cell?_setCells_in b (cellsQ (termsE f sh)) 0 w (fun i hi => by
      obtain ⟨x, hx⟩ : ∃ x, (encTr zero3)[i]? = some x := ⟨_, List.getElem?_eq_getElem (show i < 9 by omega)⟩
      rw [Nat.zero_add, (h i x hx).1]; rfl) j (by omega)
    rw [Nat.zero_add] at hin
    rw [hin]
    rw [List.getElem?_eq_getElem (by omega)] at hv
    exact hv
  · rw [if_neg hlt] at hv
    rw [World.cell?_setCells_out b _ 0 w ⟨b, j, none⟩ (fun _ _ => Or.inr (by show 0 + _ ≤ j; omega))]
    exact (h j v hv).1
theorem below_setCells {B b : Nat} {a w : World} (h : RowKit.Below B a w) (hb : B ≤ b) : ∀ (vs : List Value) (o : Nat), RowKit.Below B a (w.setCells b o vs) := by
  intro vs
  induction vs generalizing w with
  | nil => intro o; exact h
  | cons v r ih => intro o; exact ih (h.setCell (p := ⟨b, o, none⟩) hb v) (o + 1)
set_option maxHeartbeats 4000000 in
set_option maxRecDepth 100000 in
theorem key_any (bm n B : Nat) (f : Ev) (sh : List (List UInt8)) (w : World) (h : EvAt w bm n f) (hk : KeyAt w B sh) (hs : ∀ v ∈ sh, v.length ≤ maxLen) (h3 : sh.length ≤ 3) :
    Calls Tryz.prog 81 #[.map (some bm), .pointer (some ⟨B, 0, none⟩)] w fun e w' => e = .returned (valTr (keyT sh f)) ∧ RowKit.Below w.heap.size w w' := by
  obtain ⟨ad, c, hB, hsl⟩ := hk
  have hBl := World.block_lt_of_cell? w _ hB
  obtain ⟨W0, hW0⟩ : ∃ W0, W0 = (w.alloc (.cells (encTr zero3).toArray 104)).alloc (.cells (encTr zero3).toArray 104) := ⟨_, rfl⟩
  have hB0 : RowKit.Below w.heap.size w W0 := by rw [hW0]; exact bstep (balloc _ _) (balloc _ _)
  have hz0 : W0.heap.size = w.heap.size + 1 + 1 := by rw [hW0]; simp
  have n0 : NineAt W0 w.heap.size zero3 := by rw [hW0]; exact (nineAt_new w zero3 _).below (balloc _ _)
  have n1 : NineAt W0 (w.heap.size + 1) zero3 := by
    rw [hW0]
    have := nineAt_new (w.alloc (.cells (encTr zero3).toArray 104)) zero3 104
    simpa using this
  have cB : W0.cell? ⟨B, 0, none⟩ = some (.slice ad sh.length c) := (hB0.cell hBl).trans hB
  have HT := terms_any bm n f ad c sh W0.drew (h.below hB0.drew) (hsl.below hB0.drew) hs (by omega)
  have N0 := hideE n0
  have N1 := hideE n1
  have H3 := hideE h3
  have HZ := hideE hz0
  have hlt2 : W0.heap.size = W0.drew.heap.size := rfl
  clear h hsl hs hB n0 n1 h3 hz0
  go_enter Tryz.func81, Tryz.ntmps81
  go_upto_region 2 with fail
  rw [show ((w.alloc (.cells #[.int .i64 0, .string ⟨#[]⟩, .string ⟨#[]⟩, .int .i64 0, .string ⟨#[]⟩, .string ⟨#[]⟩, .int .i64 0, .string ⟨#[]⟩, .string ⟨#[]⟩] 104)).alloc (.cells #[.int .i64 0, .string ⟨#[]⟩, .string ⟨#[]⟩, .int .i64 0, .string ⟨#[]⟩, .string ⟨#[]⟩, .int .i64 0, .string ⟨#[]⟩, .string ⟨#[]⟩] 104)) = W0 from hW0.symm]
  clear hW0
  have hq : ∀ w3, RowQ w3 W0.drew.heap.size (termsE f sh) → RowKit.Below W0.drew.heap.size W0.drew w3 → ∀ ty, (Builtin.copy_ #[40, 40] ty #[.slice (some ⟨w.heap.size + 1, 0, none⟩) 3 3, .slice (some ⟨W0.drew.heap.size, 0, none⟩) sh.length sh.length]).run Tryz.prog w3 = .ok (.int .i64 sh.length) (w3.setCells (w.heap.size + 1) 0 (cellsQ (termsE f sh))) := fun w3 hr hb ty => by
    have hn3 : NineAt w3 (w.heap.size + 1) zero3 := N1.out.below ((RowKit.Below.refl _ W0).drew.trans hb)
    refine run_copyQ w3 ty (w.heap.size + 1) W0.drew.heap.size sh.length sh.length (termsE f sh) (by simp [termsE]) H3.out (fun j v hv => (hr j v hv).1) (fun j hj => ?_) (fun j hj => ?_)
    · obtain ⟨x, hx⟩ : ∃ x, (encTr zero3)[j]? = some x := ⟨_, List.getElem?_eq_getElem hj⟩
      rw [(hn3 j x hx).1]; rfl
    · obtain ⟨x, hx⟩ : ∃ x, (encTr zero3)[j]? = some x := ⟨_, List.getElem?_eq_getElem hj⟩
      exact (hn3 j x hx).2
  have Hq := hideE hq
  clear hq hlt2
  go_region_law (first
    | (refine step_copyE rfl (.tmp 5) (.tmp 8) 40 40 rfl _ _ rfl rfl (Hq.out w3 hr3 hb3 _) ?_)
    | (go_simp; go_at_call 17; refine HT.mono ?_; rintro e w3 ⟨rfl, hr3, hb3⟩))
  all_goals
    have hb3' : RowKit.Below W0.heap.size W0 w3 := (RowKit.Below.refl _ W0).drew.trans hb3
    have hn4 := hideE ((N1.out.below hb3').copied (sh := sh) (f := f) H3.out)
    have hn5 := hideE (show NineAt (w3.setCells (w.heap.size + 1) 0 (cellsQ (termsE f sh))) w.heap.size zero3 from fun j v hv => by
      have q := (N0.out.below hb3') j v hv
      exact ⟨(World.cell?_setCells_out _ _ _ _ _ (fun e _ => absurd e (by show w.heap.size ≠ w.heap.size + 1; omega))).trans q.1, by rw [World.frozen?_setCells]; exact q.2⟩)
    have hBf := hideE (below_setCells (hB0.trans (hb3'.mono hB0.size)) (show w.heap.size ≤ w.heap.size + 1 by omega) (cellsQ (termsE f sh)) 0)
    generalize w3.setCells (w.heap.size + 1) 0 (cellsQ (termsE f sh)) = W4 at *
    generalize hK3 : keyT sh f = K3 at *
    have HK := hideE hK3
    clear hK3
    obtain ⟨⟨k0, k1, k2, k3, k4, k5, k6, k7, k8⟩, _⟩ := hn4.out.all
    obtain ⟨⟨z0, z1, z2, z3, z4, z5, z6, z7, z8⟩, y0, y1, y2, y3, y4, y5, y6, y7, y8⟩ := hn5.out.all
    go_wp2_with fail
    exact bodyPost_ret (v := .agg #[.int .i64 K3.1.1, .string ⟨K3.1.2.1.toArray⟩, .string ⟨K3.1.2.2.toArray⟩, .int .i64 K3.2.1.1, .string ⟨K3.2.1.2.1.toArray⟩, .string ⟨K3.2.1.2.2.toArray⟩, .int .i64 K3.2.2.1, .string ⟨K3.2.2.2.1.toArray⟩, .string ⟨K3.2.2.2.2.toArray⟩]) (by unfold results; rw [Tryz.results81]; go_simp) rfl ⟨by rw [HK.out]; rfl, (((((((((hBf.out.setCell (p := ⟨w.heap.size, 0, none⟩) (Nat.le_refl _) _).setCell (p := ⟨w.heap.size, 1, none⟩) (Nat.le_refl _) _).setCell (p := ⟨w.heap.size, 2, none⟩) (Nat.le_refl _) _).setCell (p := ⟨w.heap.size, 3, none⟩) (Nat.le_refl _) _).setCell (p := ⟨w.heap.size, 4, none⟩) (Nat.le_refl _) _).setCell (p := ⟨w.heap.size, 5, none⟩) (Nat.le_refl _) _).setCell (p := ⟨w.heap.size, 6, none⟩) (Nat.le_refl _) _).setCell (p := ⟨w.heap.size, 7, none⟩) (Nat.le_refl _) _).setCell (p := ⟨w.heap.size, 8, none⟩) (Nat.le_refl _) _)⟩
end Go.Proofs.YtcdbcoaiadipjaaGreat
