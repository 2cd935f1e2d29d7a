import Derived.Test.YtcdbcoaiadipjaaGreatDoorMA0x4
import Derived.Test.YtcdbcoaiadipjaaGreatDoorMA0x5
import Derived.Maps.OwnSet
import Derived.Maps.AppendAt
import Derived.Test.YtcdbcoaiadipjaaGreatDoorMA0x2
import Derived.Test.YtcdbcoaiadipjaaGreatDoorMA0x0
import Derived.OwnWalk
import Derived.Laws.OwnMore
import Derived.Deep.RegionHeld3
import Derived.Deep.AppendLies
import Derived.Deep.Draws
import Derived.Deep.DeepCutAuto

/- plan's names: a map of the variables that are known; slotsOf, fixed, learn. -/
namespace Go.Proofs.YtcdbcoaiadipjaaGreatDoor
open Go Go.RowKit Go.Proofs Go.Maps
set_option synthInstance.maxSize 1000

/-- the map at a block has these texts -/
def KnownAt (w : World) (bm n : Nat) (K : List (List UInt8)) : Prop := ∃ D : DataW Unit, w.ownsMap Tryz.prog 9 unitElem bm n D ∧ ∀ v : List UInt8, v.length ≤ maxLen → Maps.has D (.string v) = decide (v ∈ K)
theorem KnownAt.below {w w' : World} {bm n : Nat} {K : List (List UInt8)} (h : KnownAt w bm n K) (hb : RowKit.Below w.heap.size w w') : KnownAt w' bm n K := by
  obtain ⟨D, o, g⟩ := h
  exact ⟨D, ownsMap_belowM o hb, g⟩
theorem KnownAt.lt {w : World} {bm n : Nat} {K : List (List UInt8)} (h : KnownAt w bm n K) : bm < w.heap.size := by
  obtain ⟨D, o, g⟩ := h
  exact o.lt
theorem KnownAt.kept {w w' : World} {bm n : Nat} {K : List (List UInt8)} {row : Option Nat} (h : KnownAt w bm n K) (hg : w.grownBy w' row) (hne : some bm ≠ row) : KnownAt w' bm n K := by
  obtain ⟨D, o, g⟩ := h
  exact ⟨D, o.kept hg hne, g⟩
theorem KnownAt.mono {w : World} {bm n m : Nat} {K : List (List UInt8)} (h : KnownAt w bm n K) (hn : n ≤ m) : KnownAt w bm m K := by
  obtain ⟨D, o, g⟩ := h
  exact ⟨D, o.mono hn, g⟩
theorem knownAt_made (w : World) : KnownAt (w.alloc (.map #[] 0)) w.heap.size 0 [] :=
  ⟨.map [], World.ownsMap_made _ _ _ _, fun v _ => by simp [Maps.has_eq]⟩
theorem zeroUnitN (w : World) : (zeroValue 172).run Tryz.prog w = .ok (.agg #[]) w := by kernel_rfl
theorem known_put {K : List (List UInt8)} {v : List UInt8} {D : DataW Unit} (hv : v.length ≤ maxLen) (m1 : IsMap D) (g : ∀ v : List UInt8, v.length ≤ maxLen → Maps.has D (.string v) = decide (v ∈ K)) (d : DataW Unit) :
    ∀ u : List UInt8, u.length ≤ maxLen → Maps.has (D.put (.string v) d) (.string u) = decide (u ∈ K ++ [v]) := fun u hu => by
  have hk := keyedStr.key (keyOf_v v hv)
  by_cases e : u = v
  · subst e
    rw [Maps.has_put_same m1 hk]
    simp
  · have hne : (Lit.string u) ≠ (Lit.string v) := fun e' => e (by simpa using e')
    rw [Maps.has_put_other hne, g u hu]
    simp [e]

theorem pslotsOf_any (p : Pt) (w : World) : Calls Tryz.prog 119 #[valPt p] w fun e w' => e = .returned (valPt p) ∧ RowKit.Below w.heap.size w w' := by
  unfold valPt
  go_enter Tryz.func119, Tryz.ntmps119
  go_wp2_with fail
  refine bodyPost_ret (v := .agg (encPt p).toArray) (by unfold results; rw [Tryz.results119]; unfold encPt; go_simp) rfl ⟨rfl, ?_⟩
  exact bstep (balloc _ _) (balloc _ _)

/-! ### how many slots are fixed -/
def fixK (K : List (List UInt8)) (p : Pt) (k : Nat) : Nat := if k = 0 then 0 else if k = 1 then fixS K p.1 else if k = 2 then fixS K p.1 + fixS K p.2.1 else fixN K p
theorem fixK_step (K : List (List UInt8)) (p : Pt) (k : Nat) (hk : k < 3) : fixK K p (k + 1) = fixK K p k + fixS K (slotK p k) := by
  rcases (by omega : k = 0 ∨ k = 1 ∨ k = 2) with rfl | rfl | rfl
  · simp [fixK, slotK]
  · simp [fixK, slotK]
  · simp [fixK, slotK, fixN]
theorem fixS_one (K : List (List UInt8)) (s : Sl) : fixS K s ≤ 1 := by unfold fixS; split <;> omega
theorem fixK_le (K : List (List UInt8)) (p : Pt) (k : Nat) : fixK K p k ≤ 3 := by
  have h1 := fixS_one K p.1
  have h2 := fixS_one K p.2.1
  have h3 := fixS_one K p.2.2
  unfold fixK fixN
  repeat' split
  all_goals omega
attribute [local go_sem ↓] eqlEmpty neqEmpty
set_option maxHeartbeats 4000000 in
set_option maxRecDepth 100000 in
theorem fixed_any (bm n : Nat) (K : List (List UInt8)) (p : Pt) (w : World) (h : KnownAt w bm n K) (hp : fitPt p) :
    Calls Tryz.prog 84 #[.map (some bm), valPt p] w fun e w' => e = .returned (.int .i64 (fixN K p : Nat)) ∧ RowKit.Below w.heap.size w w' := by
  have HS := pslotsOf_any p
  have Hp := hideE hp
  have H := hideE h
  clear h hp
  have HX : Hid (∀ k : Nat, k < 3 → ∀ W, (Instr.index 116 (valPt p) (.int .i64 k)).run Tryz.prog W = .ok (valSl (slotK p k)) W) := indexSl p
  unfold valPt at HS HX ⊢
  go_enter Tryz.func84, Tryz.ntmps84
  go_wp2_with fail
  refine (HS _).mono ?_
  rintro e w1 ⟨rfl, hb1⟩
  have hB1 := bstep (balloc _ _) hb1
  clear hb1 HS
  dsimp only
  go_wp2_with fail
  go_loopw [5, 12] (fun v i wr => ∃ k : Nat, k ≤ 3 ∧ i = .int .i64 k ∧ v = .int .i64 (fixK K p k : Nat) ∧ RowKit.Below w.heap.size w wr) (fun _ i wr => 3 - (intOf i).toNat)
  case atStart => exact ⟨0, by omega, rfl, rfl, hB1⟩
  case round =>
    clear hB1
    obtain ⟨k, hk, rfl, rfl, hbr⟩ := hrel
    by_cases hlt : k < 3
    · have hix := HX.out k hlt
      have hst := hideE (fixK_step K p k hlt)
      have hle := fixK_le K p k
      have hfs := hideE (fit_slotK Hp.out k)
      obtain ⟨D, own0, g⟩ := H.out.below hbr
      have own := hideE own0
      have i1 : (k : Int) < 3 := by omega
      generalize slotK p k = s at *
      generalize fixK K p k = m at *
      obtain ⟨v, kk, S, L⟩ := s
      have hvl : v.length ≤ maxLen := hfs.out.1
      have hd0 := g v hvl
      have hkey := keyOf_v v hvl
      unfold valSl at hix
      dsimp only at hix
      clear own0 g hfs
      cases hm : decide (v ∈ K) with
      | true =>
        rw [hm] at hd0
        have hf : fixS K (v, kk, S, L) = 1 := by unfold fixS; rw [if_pos (Or.inl (of_decide_eq_true hm))]
        have hf2 := hideE (show fixK K p (k + 1) = m + 1 by rw [hst.out, hf])
        clear hst hf hm hvl
        go_wp2_with (first
          | (at_lookup; refine wpList_lookup_own_unit _ rfl _ _ 127 rfl 9 172 keyedStr Tryz.underlying127 (zeroUnitN _) bm _ _ rfl (own.out.alloc _) _ _ rfl hkey ?_))
        go_roundw
        case rel => exact ⟨k + 1, by omega, by go_num, by rw [hf2.out]; go_num, bstep (bstep hbr (balloc _ _)) (balloc _ _)⟩
        case measure => simp [intOf]; omega
      | false =>
        rw [hm] at hd0
        have hnm : v ∉ K := of_decide_eq_false hm
        cases hve : v.isEmpty with
        | true =>
          have hv0 : v = [] := by simpa using hve
          have hf : fixS K (v, kk, S, L) = 1 := by unfold fixS; rw [if_pos (Or.inr hv0)]
          have hf2 := hideE (show fixK K p (k + 1) = m + 1 by rw [hst.out, hf])
          clear hst hf hm hvl hnm hv0
          go_wp2_with (first
            | (at_lookup; refine wpList_lookup_own_unit _ rfl _ _ 127 rfl 9 172 keyedStr Tryz.underlying127 (zeroUnitN _) bm _ _ rfl (own.out.alloc _) _ _ rfl hkey ?_))
          go_roundw
          case rel => exact ⟨k + 1, by omega, by go_num, by rw [hf2.out]; go_num, bstep (bstep hbr (balloc _ _)) (balloc _ _)⟩
          case measure => simp [intOf]; omega
        | false =>
          have hv0 : ¬ v = [] := by simpa using hve
          have hf : fixS K (v, kk, S, L) = 0 := by unfold fixS; rw [if_neg (fun h => h.elim hnm hv0)]
          have hf2 := hideE (show fixK K p (k + 1) = m by rw [hst.out, hf]; rfl)
          clear hst hf hm hvl hnm hv0
          go_wp2_with (first
            | (at_lookup; refine wpList_lookup_own_unit _ rfl _ _ 127 rfl 9 172 keyedStr Tryz.underlying127 (zeroUnitN _) bm _ _ rfl (own.out.alloc _) _ _ rfl hkey ?_))
          go_roundw
          case rel => exact ⟨k + 1, by omega, by go_num, by rw [hf2.out], bstep (bstep hbr (balloc _ _)) (balloc _ _)⟩
          case measure => simp [intOf]; omega
    · obtain rfl : k = 3 := by omega
      have he : fixK K p 3 = fixN K p := rfl
      rw [he]
      clear he
      go_wp2_with fail
      refine bodyPost_ret (v := .int .i64 ((fixN K p : Nat) : Int)) (by simp [results, Tryz.results84, go_sem]) rfl ⟨rfl, hbr⟩

/-! ### more are known -/
def learnK (K : List (List UInt8)) (p : Pt) (k : Nat) : List (List UInt8) := if k = 0 then K else if k = 1 then learnS K p.1 else if k = 2 then learnS (learnS K p.1) p.2.1 else learnP K p
theorem learnK_step (K : List (List UInt8)) (p : Pt) (k : Nat) (hk : k < 3) : learnK K p (k + 1) = learnS (learnK K p k) (slotK p k) := by
  rcases (by omega : k = 0 ∨ k = 1 ∨ k = 2) with rfl | rfl | rfl
  · simp [learnK, slotK]
  · simp [learnK, slotK]
  · simp [learnK, slotK, learnP]
theorem below_map {W W' : World} {B b : Nat} (h : W.grownBy W' (some b)) (hb : B ≤ b) (hs : B ≤ W.heap.size) : RowKit.Below B W W' :=
  ⟨h.os, h.tape, h.output, h.size, fun i hi => h.block i (by omega) (fun e => by simp at e; omega)⟩
/-- what was is as it was, but the map -/
def ButM (b : Nat) (w w' : World) : Prop := w.grownBy w' (some b)
theorem ButM.refl (b : Nat) (w : World) : ButM b w w := ⟨rfl, rfl, rfl, Nat.le_refl _, fun _ _ _ => rfl⟩
theorem ButM.below {b : Nat} {w w1 w2 : World} (h : ButM b w w1) (hb : RowKit.Below w1.heap.size w1 w2) : ButM b w w2 :=
  ⟨hb.os.trans h.os, hb.tape.trans h.tape, hb.output.trans h.output, Nat.le_trans h.size hb.size, fun k hk hne => (hb.block k (Nat.lt_of_lt_of_le hk h.size)).trans (h.block k hk hne)⟩
theorem ButM.trans {b : Nat} {w w1 w2 : World} (h : ButM b w w1) (k : ButM b w1 w2) : ButM b w w2 := World.grownBy.trans h k
set_option maxHeartbeats 4000000 in
set_option maxRecDepth 100000 in
theorem learn_any (bm n : Nat) (K : List (List UInt8)) (p : Pt) (w : World) (h : KnownAt w bm n K) (hp : fitPt p) (hn : n ≤ 1000) :
    Calls Tryz.prog 85 #[.map (some bm), valPt p] w fun e w' => e = .returned (.tuple #[]) ∧ KnownAt w' bm (n + 3) (learnP K p) ∧ ButM bm w w' := by
  have HS := pslotsOf_any p
  have Hp := hideE hp
  have H := hideE h
  clear h hp
  have HX : Hid (∀ k : Nat, k < 3 → ∀ W, (Instr.index 116 (valPt p) (.int .i64 k)).run Tryz.prog W = .ok (valSl (slotK p k)) W) := indexSl p
  unfold valPt at HS HX ⊢
  go_enter Tryz.func85, Tryz.ntmps85
  go_wp2_with fail
  refine (HS _).mono ?_
  rintro e w1 ⟨rfl, hb1⟩
  have hB1 := bstep (balloc _ _) hb1
  have hlt0 := hideE H.out.lt
  clear hb1 HS
  dsimp only
  go_wp2_with fail
  go_loopw [8] (fun i wr => ∃ k : Nat, k ≤ 3 ∧ i = .int .i64 k ∧ Hid (KnownAt wr bm (n + k) (learnK K p k)) ∧ Hid (ButM bm w wr)) (fun i wr => 3 - (intOf i).toNat)
  case atStart => exact ⟨0, by omega, rfl, H.out.below hB1, (ButM.refl bm w).below hB1⟩
  case round =>
    clear hB1
    obtain ⟨k, hk, rfl, hK, hbr⟩ := hrel
    by_cases hlt : k < 3
    · have hix := HX.out k hlt
      have hst := hideE (learnK_step K p k hlt)
      have hfs := hideE (fit_slotK Hp.out k)
      have i1 : (k : Int) < 3 := by omega
      generalize slotK p k = s at *
      generalize learnK K p k = M at *
      obtain ⟨v, kk, S, L⟩ := s
      have hvl : v.length ≤ maxLen := hfs.out.1
      have hkey := keyOf_v v hvl
      unfold valSl at hix
      dsimp only at hix
      clear hfs
      cases hve : v.isEmpty with
      | true =>
        have hv0 : v = [] := by simpa using hve
        have hf2 := hideE (show learnK K p (k + 1) = M by rw [hst.out]; unfold learnS; rw [if_pos hv0])
        clear hst hvl hv0
        go_wp2_with fail
        go_roundw
        case rel => exact ⟨k + 1, by omega, by go_num, by show KnownAt _ _ _ _; rw [hf2.out]; exact (hK.out.below (balloc _ _)).mono (by omega), hbr.out.below (balloc _ _)⟩
        case measure => simp [intOf]; omega
      | false =>
        have hv0 : ¬ v = [] := by simpa using hve
        have hf2 := hideE (show learnK K p (k + 1) = M ++ [v] by rw [hst.out]; unfold learnS; rw [if_neg hv0])
        obtain ⟨D, own0, g⟩ := hK.out.below (balloc wr (.cells #[.string ⟨v.toArray⟩, .int .i64 kk, .string ⟨S.toArray⟩, .string ⟨L.toArray⟩] 30))
        have own := hideE own0
        have hput := hideE (known_put hvl own0.isMap g (.agg []))
        clear own0 g hK hst hv0 hvl
        go_wp2_with (first
          | (at_mapUpdate; refine wpList_mapUpdate_own _ rfl _ _ _ 127 rfl 9 172 keyedStr Tryz.underlying127 (unitElem (H := Unit)) bm (n + k) _ rfl own.out (by unfold maxLen; omega) _ _ _ rfl rfl hkey _ [] unitElem_mk ?_; intro w2 hown2 hgrow2))
        go_roundw
        case rel => exact ⟨k + 1, by omega, by go_num, by show KnownAt _ _ _ _; rw [hf2.out]; exact ⟨_, hown2, hput.out⟩, (hbr.out.below (balloc _ _)).trans hgrow2⟩
        case measure => simp [intOf]; omega
    · obtain rfl : k = 3 := by omega
      have hK2 := hideE (show KnownAt wr bm (n + 3) (learnP K p) from hK.out)
      clear hK
      go_wp2_with fail
      go_end0
      exact ⟨rfl, hK2.out, hbr.out⟩
end Go.Proofs.YtcdbcoaiadipjaaGreatDoor

/- Lists of texts and of patterns in memory; a question as a value. -/
namespace Go.Proofs.YtcdbcoaiadipjaaGreatDoor
open Go Go.RowKit Go.Proofs Go.Maps
set_option synthInstance.maxSize 1000

/-- a slice holds a list of texts, wherever it begins -/
def SlW (w : World) (ad : Option Addr) (l : List (List UInt8)) : Prop := l ≠ [] → ∃ b o, ad = some ⟨b, o, none⟩ ∧ ∀ j (hj : j < l.length), w.cell? ⟨b, o + j, none⟩ = some (encV l[j])
theorem SlW.below {w w' : World} {ad : Option Addr} {l : List (List UInt8)} (h : SlW w ad l) (hb : RowKit.Below w.heap.size w w') : SlW w' ad l := fun hl => by
  obtain ⟨b, o, e, r⟩ := h hl
  exact ⟨b, o, e, fun j hj => (hb.cell (World.block_lt_of_cell? w _ (r j hj))).trans (r j hj)⟩
theorem SlW.at {w : World} {ad : Option Addr} {l : List (List UInt8)} (h : SlW w ad l) (k : Nat) (hk : k < l.length) : ∃ b o, ad = some ⟨b, o, none⟩ ∧ w.cell? ⟨b, o + k, none⟩ = some (.string ⟨l[k].toArray⟩) := by
  obtain ⟨b, o, e, r⟩ := h (fun e => by rw [e] at hk; simp at hk)
  exact ⟨b, o, e, r k hk⟩
theorem slW_nil (W : World) (ad : Option Addr) : SlW W ad [] := fun h => absurd rfl h
theorem SlV.w {w : World} {ad : Option Addr} {l : List (List UInt8)} (h : SlV w ad l) : SlW w ad l := fun hl => by
  obtain ⟨b, e, r⟩ := h hl
  exact ⟨b, 0, e, fun j hj => by rw [Nat.zero_add]; exact r j hj⟩
theorem SlW.take {w : World} {ad : Option Addr} {l : List (List UInt8)} (h : SlW w ad l) (k : Nat) : SlW w ad (l.take k) := fun hl => by
  have hne : l ≠ [] := fun e => by rw [e] at hl; simp at hl
  obtain ⟨b, o, e, r⟩ := h hne
  refine ⟨b, o, e, fun j hj => ?_⟩
  rw [List.length_take] at hj
  rw [List.getElem_take]
  exact r j (by omega)
theorem own_w {W : World} {base : Nat} {v : Value} {t : List (List UInt8)} (h : W.ownsRow base 9 1 v t.length (t.map encV)) : ∃ ad cap, v = .slice ad t.length cap ∧ SlW W ad t := by
  obtain ⟨ad, cap, e, hs⟩ := own_v h
  exact ⟨ad, cap, e, hs.w⟩

/-- the patterns of a list, cell by cell -/
def cellsPt (l : List Pt) : List Value := l.flatMap encPt
theorem encPt_len (x : Pt) : (encPt x).length = 12 := rfl
theorem encPt_one (x : Pt) : ∀ v ∈ encPt x, v.oneCell' = true := by
  intro v hv
  simp [encPt] at hv
  rcases hv with rfl | rfl | rfl | rfl | rfl | rfl | rfl | rfl | rfl | rfl | rfl | rfl <;> rfl
theorem cellsPt_len (l : List Pt) : (cellsPt l).length = l.length * 12 := by
  induction l with
  | nil => rfl
  | cons x r ih => simp only [cellsPt, List.flatMap_cons, List.length_append, List.length_cons] at *; rw [ih, encPt_len]; omega
theorem cellsPt_at (l : List Pt) (i : Nat) (h : i < l.length) (j : Nat) (hj : j < 12) : (cellsPt l)[i * 12 + j]? = (encPt l[i])[j]? := by
  induction l generalizing i with
  | nil => simp at h
  | cons x r ih =>
    simp only [cellsPt, List.flatMap_cons] at *
    cases i with
    | zero => rw [List.getElem?_append_left (by rw [encPt_len]; omega)]; simp
    | succ n =>
      rw [List.getElem?_append_right (by rw [encPt_len]; omega), encPt_len, show (n + 1) * 12 + j - 12 = n * 12 + j by omega, ih n (by simpa using h)]
      simp
def RowPt (w : World) (b o : Nat) (l : List Pt) : Prop := ∀ j v, (cellsPt l)[j]? = some v → w.cell? ⟨b, o + j, none⟩ = some v
theorem RowPt.below {w w' : World} {b o : Nat} {l : List Pt} (h : RowPt w b o l) (hb : RowKit.Below w.heap.size w w') : RowPt w' b o l := fun j v hv =>
  (hb.cell (World.block_lt_of_cell? w _ (h j v hv))).trans (h j v hv)
theorem RowPt.at {w : World} {b o : Nat} {l : List Pt} (h : RowPt w b o l) (i : Nat) (hi : i < l.length) : ∀ j v, (encPt l[i])[j]? = some v → w.cell? ⟨b, o + i * 12 + j, none⟩ = some v := fun j v hv => by
  have hj : j < 12 := (List.getElem?_eq_some_iff.1 hv).1
  rw [Nat.add_assoc]
  exact h _ v (by rw [cellsPt_at l i hi j hj]; exact hv)
/-- a slice holds a list of patterns -/
def SlPt (w : World) (ad : Option Addr) (l : List Pt) : Prop := l ≠ [] → ∃ b o, ad = some ⟨b, o, none⟩ ∧ RowPt w b o l
theorem SlPt.below {w w' : World} {ad : Option Addr} {l : List Pt} (h : SlPt w ad l) (hb : RowKit.Below w.heap.size w w') : SlPt w' ad l := fun hl => by
  obtain ⟨b, o, e, r⟩ := h hl
  exact ⟨b, o, e, r.below hb⟩
theorem SlPt.at {w : World} {ad : Option Addr} {l : List Pt} (h : SlPt w ad l) (i : Nat) (hi : i < l.length) : ∃ b o, ad = some ⟨b, o, none⟩ ∧ RowPt w b o l :=
  h (fun e => by rw [e] at hi; simp at hi)
theorem slPt_nil (W : World) (ad : Option Addr) : SlPt W ad [] := fun h => absurd rfl h
theorem own_slPt {W : World} {base : Nat} {e : TypeId} {v : Value} {t : List Pt} (h : W.ownsRow base e 12 v t.length (cellsPt t)) : ∃ ad cap, v = .slice ad t.length cap ∧ SlPt W ad t := by
  have h' := h
  rcases h.2 with ⟨rfl, h0⟩ | ⟨g, cap, cur, rfl, _⟩
  · exact ⟨none, 0, by rw [h0], fun hne => absurd (List.eq_nil_of_length_eq_zero h0) hne⟩
  · refine ⟨some ⟨g, 0, none⟩, cap, rfl, fun _ => ⟨g, 0, rfl, fun j u hj => ?_⟩⟩
    have := h'.cells (g := g) rfl j u hj
    rwa [Addr.add_lit] at this
theorem infoPt : (Tryz.prog.info? 32).map (fun i => (i.zero, i.size, i.bytes)) = some (some (.agg (encPt (([], tmZero), ([], tmZero), ([], tmZero))).toArray), 12, 168) := by kernel_rfl

/-- a question as a value: where its lists lie -/
def valQ (q : Qu) (vd : Option Addr) (vc : Nat) (pd : Option Addr) (pc : Nat) : Value := .agg #[.slice vd q.vars.length vc, .slice pd q.parts.length pc, .string ⟨q.order.toArray⟩, .bool q.down, .bool q.dist, .int .i64 q.lim]
/-- a question that is handed in, or answered -/
structure QuIn (w : World) (q : Qu) (vd pd : Option Addr) : Prop where
  vars : SlW w vd q.vars
  parts : SlPt w pd q.parts
theorem QuIn.below {w w' : World} {q : Qu} {vd pd : Option Addr} (h : QuIn w q vd pd) (hb : RowKit.Below w.heap.size w w') : QuIn w' q vd pd := ⟨h.vars.below hb, h.parts.below hb⟩
theorem hideQ {p : Prop} (h : p) : Hid p := h
/-- a question's box -/
structure BoxQ (w : World) (b : Nat) (q : Qu) (vd pd : Option Addr) (vc pc : Nat) : Prop where
  c0 : w.cell? ⟨b, 0, none⟩ = some (.slice vd q.vars.length vc)
  c1 : w.cell? ⟨b, 1, none⟩ = some (.slice pd q.parts.length pc)
  c2 : w.cell? ⟨b, 2, none⟩ = some (.string ⟨q.order.toArray⟩)
  c3 : w.cell? ⟨b, 3, none⟩ = some (.bool q.down)
  c4 : w.cell? ⟨b, 4, none⟩ = some (.bool q.dist)
  c5 : w.cell? ⟨b, 5, none⟩ = some (.int .i64 q.lim)
theorem BoxQ.below {w w' : World} {b : Nat} {q : Qu} {vd pd : Option Addr} {vc pc : Nat} (h : BoxQ w b q vd pd vc pc) (hb : RowKit.Below w.heap.size w w') : BoxQ w' b q vd pd vc pc := by
  have s : ∀ j v, w.cell? ⟨b, j, none⟩ = some v → w'.cell? ⟨b, j, none⟩ = some v := fun j v hv => (hb.cell (World.block_lt_of_cell? w _ hv)).trans hv
  exact ⟨s _ _ h.c0, s _ _ h.c1, s _ _ h.c2, s _ _ h.c3, s _ _ h.c4, s _ _ h.c5⟩
theorem boxQ_new (w : World) (q : Qu) (vd pd : Option Addr) (vc pc : Nat) : BoxQ (w.alloc (.cells #[.slice vd q.vars.length vc, .slice pd q.parts.length pc, .string ⟨q.order.toArray⟩, .bool q.down, .bool q.dist, .int .i64 q.lim] 26)) w.heap.size q vd pd vc pc :=
  ⟨by go_simp, by go_simp, by go_simp, by go_simp, by go_simp, by go_simp⟩
/-- its texts and lists are no longer than such may be -/
structure FitQ (q : Qu) : Prop where
  vl : q.vars.length ≤ 9223372036854775807
  pl : q.parts.length ≤ 9223372036854775807
  vt : ∀ v ∈ q.vars, v.length ≤ maxLen
  pt : ∀ p ∈ q.parts, fitPt p
  ord : q.order.length ≤ maxLen
  lim : (Lit.int .i64 q.lim).wf = true
end Go.Proofs.YtcdbcoaiadipjaaGreatDoor

/- A store in plain words: objects by number; what is put, got, found, kept. -/
namespace Go.Proofs.YtcdbcoaiadipjaaGreatDoor
open Go Go.RowKit Go.Proofs
set_option synthInstance.maxSize 1000

/-- an object: its number, its bytes -/
abbrev Ob := Nat × List UInt8
def findO : List Ob → List UInt8 → Nat
  | [], _ => 0
  | x :: r, b => if x.2 = b then x.1 else findO r b
def getO : List Ob → Int → Option (List UInt8)
  | [], _ => none
  | x :: r, n => if (x.1 : Int) = n then some x.2 else getO r n
def sizeO (L : List Ob) : Nat := (L.map fun x => x.2.length).sum
/-- a number as an int has it -/
def wr64 (n : Int) : Int := (n + 9223372036854775808) % 18446744073709551616 - 9223372036854775808
theorem wr64_id {n : Int} (h0 : -9223372036854775808 ≤ n) (h1 : n ≤ 9223372036854775807) : wr64 n = n := by unfold wr64; omega
theorem wr64_add (a b : Int) : wr64 (wr64 a + b) = wr64 (a + b) := by unfold wr64; omega
def fullO (L : List Ob) (b : List UInt8) : Bool := decide (300 ≤ L.length ∨ 60000 < wr64 (b.length + sizeO L : Nat))
/-- put: the fault, the number, the last number and the list behind it -/
def putE (L : List Ob) (b : List UInt8) : Int := if findO L b ≠ 0 then 0 else if fullO L b = true then 4 else 0
def putI (n : Nat) (L : List Ob) (b : List UInt8) : Nat := if findO L b ≠ 0 then findO L b else if fullO L b = true then 0 else n + 1
def putM (n : Nat) (L : List Ob) (b : List UInt8) : Nat := if findO L b ≠ 0 then n else if fullO L b = true then n else n + 1
def putL (n : Nat) (L : List Ob) (b : List UInt8) : List Ob := if findO L b ≠ 0 then L else if fullO L b = true then L else L ++ [(n + 1, b)]
/-- keep: whether all are there, what is left -/
def heldO (L : List Ob) (ids : List Int) : Bool := ids.all fun i => (getO L i).isSome
def keepO (L : List Ob) (ids : List Int) : List Ob := L.filter fun x => ids.contains (x.1 : Int)
def keepE (L : List Ob) (ids : List Int) : Int := if heldO L ids = true then 0 else 5
def keepI (L : List Ob) (ids : List Int) : Nat := if heldO L ids = true then L.length - (keepO L ids).length else 0
def keepL (L : List Ob) (ids : List Int) : List Ob := if heldO L ids = true then keepO L ids else L

/-- what a store's list is: numbers rise, from 1 to the last; each object once; no more than may be -/
structure GoodO (n : Nat) (L : List Ob) : Prop where
  low : ∀ x ∈ L, 1 ≤ x.1 ∧ x.1 ≤ n
  rise : L.Pairwise fun x y => x.1 < y.1
  once : L.Pairwise fun x y => x.2 ≠ y.2
  len : L.length ≤ 300

theorem goodO_nil (n : Nat) : GoodO n [] := ⟨by simp, by simp, by simp, by simp⟩
theorem sizeO_app (L M : List Ob) : sizeO (L ++ M) = sizeO L + sizeO M := by simp [sizeO]
theorem sizeO_filter (p : Ob → Bool) (L : List Ob) : sizeO (L.filter p) ≤ sizeO L := by
  induction L with
  | nil => simp [sizeO]
  | cons x r ih =>
    rw [List.filter_cons]
    have e : sizeO (x :: r) = x.2.length + sizeO r := by simp [sizeO]
    split
    · have e' : sizeO (x :: r.filter p) = x.2.length + sizeO (r.filter p) := by simp [sizeO]
      omega
    · omega
theorem findO_mem {L : List Ob} {b : List UInt8} (hl : ∀ x ∈ L, 1 ≤ x.1) : findO L b ≠ 0 ↔ ∃ x ∈ L, x.2 = b := by
  induction L with
  | nil => simp [findO]
  | cons x r ih =>
    have := ih fun y hy => hl y (List.mem_cons_of_mem _ hy)
    unfold findO
    split
    · rename_i h
      have := hl x (List.mem_cons_self ..)
      constructor
      · exact fun _ => ⟨x, List.mem_cons_self .., h⟩
      · exact fun _ => by omega
    · rename_i h
      rw [this]
      constructor
      · rintro ⟨y, hy, e⟩; exact ⟨y, List.mem_cons_of_mem _ hy, e⟩
      · rintro ⟨y, hy, e⟩
        rcases List.mem_cons.1 hy with rfl | hy
        · exact absurd e h
        · exact ⟨y, hy, e⟩
theorem findO_at {L : List Ob} {b : List UInt8} {k : Nat} (hk : k < L.length) (hn : ∀ x ∈ L.take k, x.2 ≠ b) (he : L[k].2 = b) : findO L b = L[k].1 := by
  induction L generalizing k with
  | nil => simp at hk
  | cons x r ih =>
    cases k with
    | zero => simp at he; simp [findO, he]
    | succ j =>
      have h0 : x.2 ≠ b := hn x (by simp)
      simp at hk he
      unfold findO
      rw [if_neg h0, ih hk (fun y hy => hn y (by simp [hy])) he]
      simp
theorem findO_none {L : List Ob} {b : List UInt8} (hn : ∀ x ∈ L, x.2 ≠ b) : findO L b = 0 := by
  induction L with
  | nil => rfl
  | cons x r ih =>
    unfold findO
    rw [if_neg (hn x (by simp)), ih fun y hy => hn y (List.mem_cons_of_mem _ hy)]
theorem getO_at {L : List Ob} {n : Int} {k : Nat} (hk : k < L.length) (hn : ∀ x ∈ L.take k, (x.1 : Int) ≠ n) (he : (L[k].1 : Int) = n) : getO L n = some L[k].2 := by
  induction L generalizing k with
  | nil => simp at hk
  | cons x r ih =>
    cases k with
    | zero => simp at he; simp [getO, he]
    | succ j =>
      have h0 : (x.1 : Int) ≠ n := hn x (by simp)
      simp at hk he
      unfold getO
      rw [if_neg h0, ih hk (fun y hy => hn y (by simp [hy])) he]
      simp
theorem getO_none {L : List Ob} {n : Int} (hn : ∀ x ∈ L, (x.1 : Int) ≠ n) : getO L n = none := by
  induction L with
  | nil => rfl
  | cons x r ih =>
    unfold getO
    rw [if_neg (hn x (by simp)), ih fun y hy => hn y (List.mem_cons_of_mem _ hy)]
theorem getO_some {L : List Ob} {n : Int} {b : List UInt8} (h : getO L n = some b) : ∃ x ∈ L, (x.1 : Int) = n ∧ x.2 = b := by
  induction L with
  | nil => simp [getO] at h
  | cons x r ih =>
    unfold getO at h
    split at h
    · rename_i e
      exact ⟨x, by simp, e, Option.some.inj h⟩
    · obtain ⟨y, hy, e⟩ := ih h
      exact ⟨y, List.mem_cons_of_mem _ hy, e⟩
theorem getO_mem {L : List Ob} (hr : L.Pairwise fun x y => x.1 < y.1) {x : Ob} (hx : x ∈ L) : getO L x.1 = some x.2 := by
  induction L with
  | nil => simp at hx
  | cons y r ih =>
    obtain ⟨h1, h2⟩ := List.pairwise_cons.1 hr
    unfold getO
    rcases List.mem_cons.1 hx with rfl | hx
    · rw [if_pos rfl]
    · rw [if_neg (by have := h1 x hx; omega), ih h2 hx]
theorem findO_in {L : List Ob} (ho : L.Pairwise fun x y => x.2 ≠ y.2) {x : Ob} (hx : x ∈ L) : findO L x.2 = x.1 := by
  induction L with
  | nil => simp at hx
  | cons y r ih =>
    obtain ⟨h1, h2⟩ := List.pairwise_cons.1 ho
    unfold findO
    rcases List.mem_cons.1 hx with rfl | hx
    · rw [if_pos rfl]
    · rw [if_neg (h1 x hx), ih h2 hx]

theorem GoodO.put {n : Nat} {L : List Ob} (h : GoodO n L) (b : List UInt8) : GoodO (putM n L b) (putL n L b) := by
  unfold putM putL
  split
  · exact h
  · rename_i h0
    split
    · exact h
    · rename_i hf
      have hf' : ¬ (300 ≤ L.length ∨ 60000 < wr64 (b.length + sizeO L : Nat)) := by simpa [fullO] using hf
      have hnb : ∀ x ∈ L, x.2 ≠ b := fun x hx e => h0 ((findO_mem fun y hy => (h.low y hy).1).2 ⟨x, hx, e⟩)
      refine ⟨fun x hx => ?_, List.pairwise_append.2 ⟨h.rise, by simp, fun x hx y hy => ?_⟩, List.pairwise_append.2 ⟨h.once, by simp, fun x hx y hy => ?_⟩, by simp; omega⟩
      · rcases List.mem_append.1 hx with hx | hx
        · have := h.low x hx; omega
        · simp at hx; subst hx; exact ⟨by show 1 ≤ n + 1; omega, Nat.le_refl _⟩
      · simp at hy; subst hy; have := h.low x hx; show x.1 < n + 1; omega
      · simp at hy; subst hy; exact hnb x hx
theorem GoodO.keep {n : Nat} {L : List Ob} (h : GoodO n L) (ids : List Int) : GoodO n (keepL L ids) := by
  unfold keepL
  split
  · unfold keepO
    refine ⟨fun x hx => h.low x (List.mem_filter.1 hx).1, h.rise.filter _, h.once.filter _, Nat.le_trans (List.length_filter_le _ _) h.len⟩
  · exact h

/-- as long as texts are not too long for a sum, there are no more bytes than may be -/
theorem putL_size {n : Nat} {L : List Ob} {b : List UInt8} (hL : sizeO L ≤ 60000) (hb : b.length ≤ 9223372036854715807) : sizeO (putL n L b) ≤ 60000 := by
  unfold putL
  split
  · exact hL
  · split
    · exact hL
    · rename_i hf
      have hf' : ¬ (300 ≤ L.length ∨ 60000 < wr64 (b.length + sizeO L : Nat)) := by simpa [fullO] using hf
      rw [wr64_id (by omega) (by omega)] at hf'
      rw [sizeO_app]
      simp [sizeO] at hf' ⊢
      omega
theorem keepL_size {L : List Ob} (ids : List Int) : sizeO (keepL L ids) ≤ sizeO L := by
  unfold keepL
  split
  · exact sizeO_filter _ _
  · exact Nat.le_refl _

/-! ### objects in memory -/
def encO (x : Ob) : List Value := [.int .i64 (x.1 : Int), .string ⟨x.2.toArray⟩]
def cellsO (L : List Ob) : List Value := L.flatMap encO
theorem cellsO_len (L : List Ob) : (cellsO L).length = L.length * 2 := by
  induction L with
  | nil => rfl
  | cons x r ih => simp only [cellsO, List.flatMap_cons, List.length_append, List.length_cons] at ih ⊢; rw [ih]; simp [encO]; omega
theorem cellsO_app (L M : List Ob) : cellsO (L ++ M) = cellsO L ++ cellsO M := by simp [cellsO]
theorem cellsO_at (L : List Ob) (k : Nat) (hk : k < L.length) : (cellsO L)[k * 2]? = some (.int .i64 (L[k].1 : Int)) ∧ (cellsO L)[k * 2 + 1]? = some (.string ⟨L[k].2.toArray⟩) := by
  induction L generalizing k with
  | nil => simp at hk
  | cons x r ih =>
    have e : cellsO (x :: r) = .int .i64 (x.1 : Int) :: .string ⟨x.2.toArray⟩ :: cellsO r := rfl
    rw [e]
    cases k with
    | zero => exact ⟨rfl, rfl⟩
    | succ j =>
      have := ih j (by simpa using hk)
      rw [show (j + 1) * 2 = j * 2 + 1 + 1 by omega]
      simpa using this
theorem ownO_at {W : World} {base : Nat} {e : TypeId} {v : Value} {L : List Ob} (h : W.ownsRow base e 2 v L.length (cellsO L)) (k : Nat) (hk : k < L.length) :
    ∃ g cap, v = .slice (some ⟨g, 0, none⟩) L.length cap ∧ W.cell? ⟨g, k * 2, none⟩ = some (.int .i64 (L[k].1 : Int)) ∧ W.cell? ⟨g, k * 2 + 1, none⟩ = some (.string ⟨L[k].2.toArray⟩) := by
  have h' := h
  rcases h.2 with ⟨rfl, h0⟩ | ⟨g, cap, cur, rfl, _⟩
  · omega
  · obtain ⟨c0, c1⟩ := cellsO_at L k hk
    have q0 := h'.cells (g := g) rfl _ _ c0
    have q1 := h'.cells (g := g) rfl _ _ c1
    rw [Addr.add_lit, Nat.zero_add] at q0 q1
    exact ⟨g, cap, rfl, q0, q1⟩
theorem ownO_form {W : World} {base : Nat} {e : TypeId} {v : Value} {L : List Ob} (h : W.ownsRow base e 2 v L.length (cellsO L)) : ∃ ad cap, v = .slice ad L.length cap := by
  rcases h.2 with ⟨rfl, h0⟩ | ⟨g, cap, cur, rfl, _⟩
  · exact ⟨none, 0, by rw [h0]⟩
  · exact ⟨_, cap, rfl⟩
theorem hideO {p : Prop} (h : p) : Hid p := h
theorem ownsO_below {W W' : World} {base : Nat} {e : TypeId} {sz : Nat} {v : Value} {n : Nat} {cs : List Value} (h : W.ownsRow base e sz v n cs) (hb : RowKit.Below W.heap.size W W') : W'.ownsRow base e sz v n cs :=
  h.kept (row := none) ⟨hb.os, hb.tape, hb.output, hb.size, fun i hi _ => hb.block i hi⟩ (Classical.em _)
theorem bdO (w : World) (q : Nat) : RowKit.Below w.heap.size w (w.drewN q) := ⟨rfl, rfl, rfl, Nat.le_refl _, fun _ _ => rfl⟩

/-- the blocks that a change may turn: all others are as they were -/
structure Offs (O : Nat → Prop) (w w' : World) : Prop where
  os : w'.os = w.os
  tape : w'.tape = w.tape
  output : w'.output = w.output
  size : w.heap.size ≤ w'.heap.size
  block : ∀ k, k < w.heap.size → ¬ O k → w'.heap[k]? = w.heap[k]?
theorem Offs.of_below {O : Nat → Prop} {w w' : World} (h : RowKit.Below w.heap.size w w') : Offs O w w' := ⟨h.os, h.tape, h.output, h.size, fun k hk _ => h.block k hk⟩
theorem Offs.of_grown {O : Nat → Prop} {w w' : World} {row : Option Nat} (h : w.grownBy w' row) (hr : ∀ k, row = some k → O k) : Offs O w w' :=
  ⟨h.os, h.tape, h.output, h.size, fun k hk hO => h.block k hk fun e => hO (hr k e.symm)⟩
theorem Offs.trans {O O' : Nat → Prop} {a b c : World} (h : Offs O a b) (k : Offs O' b c) (hO : ∀ j, O' j → O j ∨ a.heap.size ≤ j) : Offs O a c :=
  ⟨k.os.trans h.os, k.tape.trans h.tape, k.output.trans h.output, Nat.le_trans h.size k.size, fun j hj hn => (k.block j (Nat.lt_of_lt_of_le hj h.size) fun hj' => (hO j hj').elim hn (fun h' => by omega)).trans (h.block j hj hn)⟩
theorem Offs.step {O : Nat → Prop} {a b c : World} (h : Offs O a b) (k : RowKit.Below b.heap.size b c) : Offs O a c := h.trans (Offs.of_below (O := O) k) fun _ h' => Or.inl h'
theorem Offs.mono {O O' : Nat → Prop} {a b : World} (h : Offs O a b) (hO : ∀ j, O j → O' j ∨ a.heap.size ≤ j) : Offs O' a b :=
  ⟨h.os, h.tape, h.output, h.size, fun j hj hn => h.block j hj fun hj' => (hO j hj').elim hn (fun h' => by omega)⟩
theorem Offs.cell {O : Nat → Prop} {w w' : World} (h : Offs O w w') {p : Addr} (hp : p.block < w.heap.size) (hO : ¬ O p.block) : w'.cell? p = w.cell? p := World.cell?_of_block (w := w) (h.block p.block hp hO)
theorem Offs.below {O : Nat → Prop} {B : Nat} {w w' : World} (h : Offs O w w') (hO : ∀ j, O j → B ≤ j) (hB : B ≤ w.heap.size) : RowKit.Below B w w' :=
  ⟨h.os, h.tape, h.output, h.size, fun k hk => h.block k (by omega) fun hk' => by have := hO k hk'; omega⟩

/-- a slice of numbers (nothing is said of an empty one) -/
def SlI (w : World) (ad : Option Addr) (l : List Int) : Prop := l ≠ [] → ∃ b o, ad = some ⟨b, o, none⟩ ∧ ∀ (j : Nat) (hj : j < l.length), w.cell? ⟨b, o + j, none⟩ = some (.int .i64 l[j])
theorem SlI.below {w w' : World} {ad : Option Addr} {l : List Int} (h : SlI w ad l) (hb : RowKit.Below w.heap.size w w') : SlI w' ad l := fun hl => by
  obtain ⟨b, o, e, h1⟩ := h hl
  exact ⟨b, o, e, fun j hj => (hb.cell (World.block_lt_of_cell? w _ (h1 j hj))).trans (h1 j hj)⟩
theorem SlI.at {w : World} {ad : Option Addr} {l : List Int} (h : SlI w ad l) {j : Nat} (hj : j < l.length) : ∃ b o, ad = some ⟨b, o, none⟩ ∧ w.cell? ⟨b, o + j, none⟩ = some (.int .i64 l[j]) := by
  obtain ⟨b, o, e, h1⟩ := h (fun e => by rw [e] at hj; simp at hj)
  exact ⟨b, o, e, h1 j hj⟩

/-- lists of numbers, in a list -/
def ListsAt (w : World) (b o : Nat) (Q : List (List Int)) : Prop := ∀ (i : Nat) (hi : i < Q.length), ∃ a c, w.cell? ⟨b, o + i, none⟩ = some (.slice a Q[i].length c) ∧ SlI w a Q[i] ∧ Q[i].length ≤ c
/-- texts, in a list -/
def TextsAt (w : World) (b o : Nat) (T : List (List UInt8)) : Prop := ∀ (i : Nat) (hi : i < T.length), w.cell? ⟨b, o + i, none⟩ = some (.string ⟨T[i].toArray⟩)

end Go.Proofs.YtcdbcoaiadipjaaGreatDoor

/- Natural numbers in a row of one's own. -/
namespace Go.Proofs.YtcdbcoaiadipjaaGreatDoor
open Go Go.RowKit Go.Proofs
set_option synthInstance.maxSize 1000

def cellsU (m : List Nat) : List Value := m.map fun k : Nat => Value.int .i64 (k : Int)
theorem infoU : (Tryz.prog.info? 3).map (fun i => (i.zero, i.size, i.bytes)) = some (some (.int .i64 0), 1, 8) := by kernel_rfl
theorem ownU_sl {W : World} {base : Nat} {e : TypeId} {v : Value} {m : List Nat} (h : W.ownsRow base e 1 v m.length (cellsU m)) : ∃ ad cap, v = .slice ad m.length cap ∧ SlI W ad (m.map fun k : Nat => (k : Int)) := by
  have h' := h
  rcases h.2 with ⟨rfl, h0⟩ | ⟨g, cap, cur, rfl, _⟩
  · exact ⟨none, 0, by rw [h0], fun hne => absurd (by rw [List.eq_nil_of_length_eq_zero h0]; rfl) hne⟩
  · refine ⟨some ⟨g, 0, none⟩, cap, rfl, fun _ => ⟨g, 0, rfl, fun j hj => ?_⟩⟩
    have hj' : j < m.length := by simpa using hj
    have := h'.cells (g := g) rfl j (.int .i64 (m[j] : Int)) (by simp [cellsU, hj'])
    rw [Addr.add_lit] at this
    rw [this]
    simp
theorem ownU_one (w : World) (i : Nat) : (w.alloc (.cells #[.int .i64 (i : Int)] 3)).ownsRow w.heap.size 3 1 (.slice (some ⟨w.heap.size, 0, none⟩) 1 1) [i].length (cellsU [i]) := by
  refine ⟨by simp [cellsU], Or.inr ⟨w.heap.size, 1, #[.int .i64 (i : Int)], rfl, Nat.le_refl _, by show (w.heap.push _)[w.heap.size]? = _; simp, Nat.le_refl _, by unfold maxLen; omega, by simp, by simp [cellsU]⟩⟩
end Go.Proofs.YtcdbcoaiadipjaaGreatDoor

/- The comparer by which the next part is picked: cmp.Compare, cmp.Or of two, plan.take's first closure. -/
namespace Go.Proofs.YtcdbcoaiadipjaaGreatDoor
open Go Go.RowKit Go.Proofs
set_option synthInstance.maxSize 1000

theorem isNaN_any (x : Int) (w : World) : Calls Tryz.prog 118 #[.int .i64 x] w fun e w' => e = .returned (.bool false) ∧ w' = w := by
  have h : (x != x) = false := by simp
  go_enter Tryz.func118, Tryz.ntmps118
  go_wp2_with fail
  go_ret
  exact ⟨ret_bool (by simp), rfl⟩
set_option maxRecDepth 100000 in
theorem CmpI_any (x y : Int) (w : World) : Calls Tryz.prog 83 #[.int .i64 x, .int .i64 y] w fun e w' => e = .returned (.int .i64 (cmpI x y)) ∧ w' = w := by
  have H := isNaN_any
  by_cases h1 : x < y
  · have fin : cmpI x y = -1 := by unfold cmpI; rw [if_pos h1]
    have t1 : decide (x < y) = true := decide_eq_true h1
    rw [fin]
    clear fin
    go_enter Tryz.func83, Tryz.ntmps83
    go_wp2_with (first
      | (go_at_call_of 118 (Value.int .i64 x); refine (H x _).mono ?_; rintro e w1 ⟨rfl, rfl⟩; dsimp only)
      | (go_at_call_of 118 (Value.int .i64 y); refine (H y _).mono ?_; rintro e w1 ⟨rfl, rfl⟩; dsimp only))
    go_ret
    exact ⟨rfl, rfl⟩
  · have t1 : decide (x < y) = false := decide_eq_false h1
    by_cases h2 : x > y
    · have fin : cmpI x y = 1 := by unfold cmpI; rw [if_neg h1, if_pos h2]
      have t2 : decide (x > y) = true := decide_eq_true h2
      have t3 : decide (y < x) = true := decide_eq_true h2
      rw [fin]
      clear fin
      go_enter Tryz.func83, Tryz.ntmps83
      go_wp2_with (first
        | (go_at_call_of 118 (Value.int .i64 x); refine (H x _).mono ?_; rintro e w1 ⟨rfl, rfl⟩; dsimp only)
        | (go_at_call_of 118 (Value.int .i64 y); refine (H y _).mono ?_; rintro e w1 ⟨rfl, rfl⟩; dsimp only))
      go_ret
      exact ⟨rfl, rfl⟩
    · have fin : cmpI x y = 0 := by unfold cmpI; rw [if_neg h1, if_neg h2]
      have t2 : decide (x > y) = false := decide_eq_false h2
      have t3 : decide (y < x) = false := decide_eq_false h2
      rw [fin]
      clear fin
      go_enter Tryz.func83, Tryz.ntmps83
      go_wp2_with (first
        | (go_at_call_of 118 (Value.int .i64 x); refine (H x _).mono ?_; rintro e w1 ⟨rfl, rfl⟩; dsimp only)
        | (go_at_call_of 118 (Value.int .i64 y); refine (H y _).mono ?_; rintro e w1 ⟨rfl, rfl⟩; dsimp only))
      go_ret
      exact ⟨rfl, rfl⟩
theorem OrP_any (b : Nat) (x y : Int) (w : World) (h0 : w.cell? ⟨b, 0, none⟩ = some (.int .i64 x)) (h1 : w.cell? ⟨b, 1, none⟩ = some (.int .i64 y)) :
    Calls Tryz.prog 82 #[.slice (some ⟨b, 0, none⟩) 2 2] w fun e w' => e = .returned (.int .i64 (orP x y)) ∧ w' = w := by
  have fin : Hid (orP x y = if x ≠ 0 then x else y) := rfl
  go_enter Tryz.func82, Tryz.ntmps82
  go_wp2
  go_loop [8] (fun i => ∃ k : Int, 0 ≤ k ∧ k ≤ 2 ∧ i = .int .i64 k ∧ (0 < k → x = 0) ∧ (1 < k → y = 0)) (fun i => (2 - intOf i).toNat)
  case atStart => exact ⟨0, by omega, by omega, rfl, by omega, by omega⟩
  case round =>
    obtain ⟨k, hk, hk', rfl, q0, q1⟩ := hrel
    rcases (by omega : k = 0 ∨ k = 1 ∨ k = 2) with rfl | rfl | rfl
    · clear hk hk' q0 q1
      cases hx : (x != 0)
      · go_wp2
        simp at hx
        exact ⟨⟨1, by omega, by omega, by go_num, by omega, by omega⟩, by simp [intOf]⟩
      · go_wp2
        go_ret
        simp at hx
        exact ⟨ret_int (by rw [fin.out]; simp [hx]), rfl⟩
    · have hx : Hid (x = 0) := q0 (by omega)
      clear hk hk' q0 q1
      cases hy : (y != 0)
      · go_wp2
        simp at hy
        exact ⟨⟨2, by omega, by omega, by go_num, fun _ => hx.out, fun _ => hy⟩, by simp [intOf]⟩
      · go_wp2
        go_ret
        exact ⟨ret_int (by rw [fin.out]; simp [hx.out]), rfl⟩
    · have hx : Hid (x = 0) := q0 (by omega)
      have hy : Hid (y = 0) := q1 (by omega)
      clear hk hk' q0 q1
      go_wp2
      go_ret
      exact ⟨ret_int (by rw [fin.out]; simp [hx.out, hy.out]), rfl⟩

/-- what the closures of plan.take see -/
structure TakeEnv (w : World) (kb pb cb bm nm : Nat) (K : List (List UInt8)) (parts : List Pt) (pd : Option Addr) (pc : Nat) (counts : List Nat) (cd : Option Addr) (cc : Nat) : Prop where
  k : w.cell? ⟨kb, 0, none⟩ = some (.map (some bm))
  p : w.cell? ⟨pb, 0, none⟩ = some (.slice pd parts.length pc)
  c : w.cell? ⟨cb, 0, none⟩ = some (.slice cd counts.length cc)
  known : KnownAt w bm nm K
  pts : SlPt w pd parts
  cnt : SlI w cd (counts.map fun n : Nat => (n : Int))
theorem cell_k {W W' : World} {a : Addr} {v : Value} (h : W.cell? a = some v) (hb : RowKit.Below W.heap.size W W') : W'.cell? a = some v := (hb.cell (World.block_lt_of_cell? _ _ h)).trans h
theorem TakeEnv.below {w w' : World} {kb pb cb bm nm : Nat} {K : List (List UInt8)} {parts : List Pt} {pd : Option Addr} {pc : Nat} {counts : List Nat} {cd : Option Addr} {cc : Nat} (h : TakeEnv w kb pb cb bm nm K parts pd pc counts cd cc) (hb : RowKit.Below w.heap.size w w') : TakeEnv w' kb pb cb bm nm K parts pd pc counts cd cc :=
  ⟨cell_k h.k hb, cell_k h.p hb, cell_k h.c hb, h.known.below hb, h.pts.below hb, h.cnt.below hb⟩
/-- what is asked of a comparer -/
def CmpG (g : Nat) (lb : Array Value) (D : Int → Prop) (c : Int → Int → Int) (w : World) : Prop :=
  ∀ (W : World) (x y : Int), RowKit.Below w.heap.size w W → D x → D y → Calls Tryz.prog g (#[.int .i64 x, .int .i64 y] ++ lb) W fun e w' => e = .returned (.int .i64 (c x y)) ∧ RowKit.Below W.heap.size W w'
theorem CmpG.below {g : Nat} {lb : Array Value} {D : Int → Prop} {c : Int → Int → Int} {w w1 : World} (h : CmpG g lb D c w) (hb : RowKit.Below w.heap.size w w1) : CmpG g lb D c w1 :=
  fun W x y hW hx hy => h W x y (hb.trans (hW.mono hb.size)) hx hy
set_option maxHeartbeats 16000000 in
set_option maxRecDepth 100000 in
theorem take1_at (kb pb cb bm nm rb ro tb tq n m pc cc i j : Nat) (K : List (List UInt8)) (x y : Pt) (cx cy : Int) (w : World) (hk : w.cell? ⟨kb, 0, none⟩ = some (.map (some bm))) (hp : w.cell? ⟨pb, 0, none⟩ = some (.slice (some ⟨rb, ro, none⟩) n pc)) (hc : w.cell? ⟨cb, 0, none⟩ = some (.slice (some ⟨tb, tq, none⟩) m cc))
    (hK : KnownAt w bm nm K) (fx : fitPt x) (fy : fitPt y) (hx : ∀ q v, (encPt x)[q]? = some v → w.cell? ⟨rb, ro + i * 12 + q, none⟩ = some v) (hy : ∀ q v, (encPt y)[q]? = some v → w.cell? ⟨rb, ro + j * 12 + q, none⟩ = some v) (hcx : w.cell? ⟨tb, tq + i, none⟩ = some (.int .i64 cx)) (hcy : w.cell? ⟨tb, tq + j, none⟩ = some (.int .i64 cy))
    (hi : i < n) (hj : j < n) (hi2 : i < m) (hj2 : j < m) :
    Calls Tryz.prog 81 #[.int .i64 (i : Int), .int .i64 (j : Int), .pointer (some ⟨kb, 0, none⟩), .pointer (some ⟨pb, 0, none⟩), .pointer (some ⟨cb, 0, none⟩)] w fun e w' => e = .returned (.int .i64 (orP (cmpI (fixN K y : Nat) (fixN K x : Nat)) (cmpI cx cy))) ∧ RowKit.Below w.heap.size w w' := by
  have HX := fun W (hb : RowKit.Below w.heap.size w W) => fixed_any bm nm K x W (hK.below hb) fx
  have HY := fun W (hb : RowKit.Below w.heap.size w W) => fixed_any bm nm K y W (hK.below hb) fy
  generalize ((fixN K x : Nat) : Int) = gx at *
  generalize ((fixN K y : Nat) : Int) = gy at *
  have C1 := CmpI_any gy gx
  have C2 := CmpI_any cx cy
  generalize cmpI gy gx = d1 at *
  generalize cmpI cx cy = d2 at *
  have HO := fun b W h0 h1 => OrP_any b d1 d2 W h0 h1
  generalize orP d1 d2 = r at *
  have x0 := hx 0 _ rfl
  have x1 := hx 1 _ rfl
  have x2 := hx 2 _ rfl
  have x3 := hx 3 _ rfl
  have x4 := hx 4 _ rfl
  have x5 := hx 5 _ rfl
  have x6 := hx 6 _ rfl
  have x7 := hx 7 _ rfl
  have x8 := hx 8 _ rfl
  have x9 := hx 9 _ rfl
  have x10 := hx 10 _ rfl
  have x11 := hx 11 _ rfl
  have y0 := hy 0 _ rfl
  have y1 := hy 1 _ rfl
  have y2 := hy 2 _ rfl
  have y3 := hy 3 _ rfl
  have y4 := hy 4 _ rfl
  have y5 := hy 5 _ rfl
  have y6 := hy 6 _ rfl
  have y7 := hy 7 _ rfl
  have y8 := hy 8 _ rfl
  have y9 := hy 9 _ rfl
  have y10 := hy 10 _ rfl
  have y11 := hy 11 _ rfl
  rw [Nat.add_zero] at x0 y0
  have i0 : (0 : Int) ≤ (i : Int) := by omega
  have i1 : (i : Int) < (n : Int) := by omega
  have j0 : (0 : Int) ≤ (j : Int) := by omega
  have j1 : (j : Int) < (n : Int) := by omega
  have i2 : (i : Int) < (m : Int) := by omega
  have j2 : (j : Int) < (m : Int) := by omega
  clear hx hy hK fx fy
  have mk : ∀ W, RowKit.Below w.heap.size w W → RowKit.Below w.heap.size w W ∧ W.cell? ⟨kb, 0, none⟩ = some (.map (some bm)) ∧ W.cell? ⟨pb, 0, none⟩ = some (.slice (some ⟨rb, ro, none⟩) n pc) ∧ W.cell? ⟨cb, 0, none⟩ = some (.slice (some ⟨tb, tq, none⟩) m cc) ∧ W.cell? ⟨rb, ro + i * 12, none⟩ = some (.string ⟨x.1.1.toArray⟩) ∧ W.cell? ⟨rb, ro + i * 12 + 1, none⟩ = some (.int .i64 x.1.2.1) ∧ W.cell? ⟨rb, ro + i * 12 + 2, none⟩ = some (.string ⟨x.1.2.2.1.toArray⟩) ∧ W.cell? ⟨rb, ro + i * 12 + 3, none⟩ = some (.string ⟨x.1.2.2.2.toArray⟩) ∧ W.cell? ⟨rb, ro + i * 12 + 4, none⟩ = some (.string ⟨x.2.1.1.toArray⟩) ∧ W.cell? ⟨rb, ro + i * 12 + 5, none⟩ = some (.int .i64 x.2.1.2.1) ∧ W.cell? ⟨rb, ro + i * 12 + 6, none⟩ = some (.string ⟨x.2.1.2.2.1.toArray⟩) ∧ W.cell? ⟨rb, ro + i * 12 + 7, none⟩ = some (.string ⟨x.2.1.2.2.2.toArray⟩) ∧ W.cell? ⟨rb, ro + i * 12 + 8, none⟩ = some (.string ⟨x.2.2.1.toArray⟩) ∧ W.cell? ⟨rb, ro + i * 12 + 9, none⟩ = some (.int .i64 x.2.2.2.1) ∧ W.cell? ⟨rb, ro + i * 12 + 10, none⟩ = some (.string ⟨x.2.2.2.2.1.toArray⟩) ∧ W.cell? ⟨rb, ro + i * 12 + 11, none⟩ = some (.string ⟨x.2.2.2.2.2.toArray⟩) ∧ W.cell? ⟨rb, ro + j * 12, none⟩ = some (.string ⟨y.1.1.toArray⟩) ∧ W.cell? ⟨rb, ro + j * 12 + 1, none⟩ = some (.int .i64 y.1.2.1) ∧ W.cell? ⟨rb, ro + j * 12 + 2, none⟩ = some (.string ⟨y.1.2.2.1.toArray⟩) ∧ W.cell? ⟨rb, ro + j * 12 + 3, none⟩ = some (.string ⟨y.1.2.2.2.toArray⟩) ∧ W.cell? ⟨rb, ro + j * 12 + 4, none⟩ = some (.string ⟨y.2.1.1.toArray⟩) ∧ W.cell? ⟨rb, ro + j * 12 + 5, none⟩ = some (.int .i64 y.2.1.2.1) ∧ W.cell? ⟨rb, ro + j * 12 + 6, none⟩ = some (.string ⟨y.2.1.2.2.1.toArray⟩) ∧ W.cell? ⟨rb, ro + j * 12 + 7, none⟩ = some (.string ⟨y.2.1.2.2.2.toArray⟩) ∧ W.cell? ⟨rb, ro + j * 12 + 8, none⟩ = some (.string ⟨y.2.2.1.toArray⟩) ∧ W.cell? ⟨rb, ro + j * 12 + 9, none⟩ = some (.int .i64 y.2.2.2.1) ∧ W.cell? ⟨rb, ro + j * 12 + 10, none⟩ = some (.string ⟨y.2.2.2.2.1.toArray⟩) ∧ W.cell? ⟨rb, ro + j * 12 + 11, none⟩ = some (.string ⟨y.2.2.2.2.2.toArray⟩) ∧ W.cell? ⟨tb, tq + i, none⟩ = some (.int .i64 cx) ∧ W.cell? ⟨tb, tq + j, none⟩ = some (.int .i64 cy) := fun W h =>
    ⟨h, (h.cell (World.block_lt_of_cell? w _ hk)).trans hk, (h.cell (World.block_lt_of_cell? w _ hp)).trans hp, (h.cell (World.block_lt_of_cell? w _ hc)).trans hc, (h.cell (World.block_lt_of_cell? w _ x0)).trans x0, (h.cell (World.block_lt_of_cell? w _ x1)).trans x1, (h.cell (World.block_lt_of_cell? w _ x2)).trans x2, (h.cell (World.block_lt_of_cell? w _ x3)).trans x3, (h.cell (World.block_lt_of_cell? w _ x4)).trans x4, (h.cell (World.block_lt_of_cell? w _ x5)).trans x5, (h.cell (World.block_lt_of_cell? w _ x6)).trans x6, (h.cell (World.block_lt_of_cell? w _ x7)).trans x7, (h.cell (World.block_lt_of_cell? w _ x8)).trans x8, (h.cell (World.block_lt_of_cell? w _ x9)).trans x9, (h.cell (World.block_lt_of_cell? w _ x10)).trans x10, (h.cell (World.block_lt_of_cell? w _ x11)).trans x11, (h.cell (World.block_lt_of_cell? w _ y0)).trans y0, (h.cell (World.block_lt_of_cell? w _ y1)).trans y1, (h.cell (World.block_lt_of_cell? w _ y2)).trans y2, (h.cell (World.block_lt_of_cell? w _ y3)).trans y3, (h.cell (World.block_lt_of_cell? w _ y4)).trans y4, (h.cell (World.block_lt_of_cell? w _ y5)).trans y5, (h.cell (World.block_lt_of_cell? w _ y6)).trans y6, (h.cell (World.block_lt_of_cell? w _ y7)).trans y7, (h.cell (World.block_lt_of_cell? w _ y8)).trans y8, (h.cell (World.block_lt_of_cell? w _ y9)).trans y9, (h.cell (World.block_lt_of_cell? w _ y10)).trans y10, (h.cell (World.block_lt_of_cell? w _ y11)).trans y11, (h.cell (World.block_lt_of_cell? w _ hcx)).trans hcx, (h.cell (World.block_lt_of_cell? w _ hcy)).trans hcy⟩
  have Hmk := hideE mk
  have hr0 : RowKit.Below w.heap.size w w.drew := (RowKit.Below.refl _ _).drew
  clear mk
  unfold valPt at HX HY
  go_enter Tryz.func81, Tryz.ntmps81
  go_wp2_with fail
  go_region_held3 (fun W => RowKit.Below w.heap.size w W ∧ W.cell? ⟨kb, 0, none⟩ = some (.map (some bm)) ∧ W.cell? ⟨pb, 0, none⟩ = some (.slice (some ⟨rb, ro, none⟩) n pc) ∧ W.cell? ⟨cb, 0, none⟩ = some (.slice (some ⟨tb, tq, none⟩) m cc) ∧ W.cell? ⟨rb, ro + i * 12, none⟩ = some (.string ⟨x.1.1.toArray⟩) ∧ W.cell? ⟨rb, ro + i * 12 + 1, none⟩ = some (.int .i64 x.1.2.1) ∧ W.cell? ⟨rb, ro + i * 12 + 2, none⟩ = some (.string ⟨x.1.2.2.1.toArray⟩) ∧ W.cell? ⟨rb, ro + i * 12 + 3, none⟩ = some (.string ⟨x.1.2.2.2.toArray⟩) ∧ W.cell? ⟨rb, ro + i * 12 + 4, none⟩ = some (.string ⟨x.2.1.1.toArray⟩) ∧ W.cell? ⟨rb, ro + i * 12 + 5, none⟩ = some (.int .i64 x.2.1.2.1) ∧ W.cell? ⟨rb, ro + i * 12 + 6, none⟩ = some (.string ⟨x.2.1.2.2.1.toArray⟩) ∧ W.cell? ⟨rb, ro + i * 12 + 7, none⟩ = some (.string ⟨x.2.1.2.2.2.toArray⟩) ∧ W.cell? ⟨rb, ro + i * 12 + 8, none⟩ = some (.string ⟨x.2.2.1.toArray⟩) ∧ W.cell? ⟨rb, ro + i * 12 + 9, none⟩ = some (.int .i64 x.2.2.2.1) ∧ W.cell? ⟨rb, ro + i * 12 + 10, none⟩ = some (.string ⟨x.2.2.2.2.1.toArray⟩) ∧ W.cell? ⟨rb, ro + i * 12 + 11, none⟩ = some (.string ⟨x.2.2.2.2.2.toArray⟩) ∧ W.cell? ⟨rb, ro + j * 12, none⟩ = some (.string ⟨y.1.1.toArray⟩) ∧ W.cell? ⟨rb, ro + j * 12 + 1, none⟩ = some (.int .i64 y.1.2.1) ∧ W.cell? ⟨rb, ro + j * 12 + 2, none⟩ = some (.string ⟨y.1.2.2.1.toArray⟩) ∧ W.cell? ⟨rb, ro + j * 12 + 3, none⟩ = some (.string ⟨y.1.2.2.2.toArray⟩) ∧ W.cell? ⟨rb, ro + j * 12 + 4, none⟩ = some (.string ⟨y.2.1.1.toArray⟩) ∧ W.cell? ⟨rb, ro + j * 12 + 5, none⟩ = some (.int .i64 y.2.1.2.1) ∧ W.cell? ⟨rb, ro + j * 12 + 6, none⟩ = some (.string ⟨y.2.1.2.2.1.toArray⟩) ∧ W.cell? ⟨rb, ro + j * 12 + 7, none⟩ = some (.string ⟨y.2.1.2.2.2.toArray⟩) ∧ W.cell? ⟨rb, ro + j * 12 + 8, none⟩ = some (.string ⟨y.2.2.1.toArray⟩) ∧ W.cell? ⟨rb, ro + j * 12 + 9, none⟩ = some (.int .i64 y.2.2.2.1) ∧ W.cell? ⟨rb, ro + j * 12 + 10, none⟩ = some (.string ⟨y.2.2.2.2.1.toArray⟩) ∧ W.cell? ⟨rb, ro + j * 12 + 11, none⟩ = some (.string ⟨y.2.2.2.2.2.toArray⟩) ∧ W.cell? ⟨tb, tq + i, none⟩ = some (.int .i64 cx) ∧ W.cell? ⟨tb, tq + j, none⟩ = some (.int .i64 cy)) ((refine Hmk.out _ ?_; repeat (first | (with_reducible refine bstep ?_ hb1) | (with_reducible refine bstep ?_ hb2) | (with_reducible refine bstep ?_ (balloc _ _)) | (with_reducible refine RowKit.Below.drew ?_) | (with_reducible exact hr0) | (with_reducible exact RowKit.Below.refl _ _)))) (first
    | (go_at_call_of 84 (Value.agg #[.string ⟨x.1.1.toArray⟩, .int .i64 x.1.2.1, .string ⟨x.1.2.2.1.toArray⟩, .string ⟨x.1.2.2.2.toArray⟩, .string ⟨x.2.1.1.toArray⟩, .int .i64 x.2.1.2.1, .string ⟨x.2.1.2.2.1.toArray⟩, .string ⟨x.2.1.2.2.2.toArray⟩, .string ⟨x.2.2.1.toArray⟩, .int .i64 x.2.2.2.1, .string ⟨x.2.2.2.2.1.toArray⟩, .string ⟨x.2.2.2.2.2.toArray⟩]); refine (HX _ (by with_reducible first | assumption | exact (by assumption : _ ∧ _).1)).mono ?_; rintro e w1 ⟨rfl, hb1⟩; dsimp only)
    | (go_at_call_of 84 (Value.agg #[.string ⟨y.1.1.toArray⟩, .int .i64 y.1.2.1, .string ⟨y.1.2.2.1.toArray⟩, .string ⟨y.1.2.2.2.toArray⟩, .string ⟨y.2.1.1.toArray⟩, .int .i64 y.2.1.2.1, .string ⟨y.2.1.2.2.1.toArray⟩, .string ⟨y.2.1.2.2.2.toArray⟩, .string ⟨y.2.2.1.toArray⟩, .int .i64 y.2.2.2.1, .string ⟨y.2.2.2.2.1.toArray⟩, .string ⟨y.2.2.2.2.2.toArray⟩]); refine (HY _ (by with_reducible first | assumption | exact (by assumption : _ ∧ _).1)).mono ?_; rintro e w2 ⟨rfl, hb2⟩; dsimp only)
    | (go_at_call_of 83 (Value.int .i64 gy); refine (C1 _).mono ?_; rintro e w3 ⟨rfl, rfl⟩; dsimp only)
    | (go_at_call_of 83 (Value.int .i64 cx); refine (C2 _).mono ?_; rintro e w4 ⟨rfl, rfl⟩; dsimp only)
    | (go_at_call 82; refine (HO _ _ (by go_simp) (by go_simp)).mono ?_; rintro e w5 ⟨rfl, rfl⟩; dsimp only))
  all_goals go_wp2_with fail
  all_goals go_ret
  all_goals refine ⟨rfl, ?_⟩
  all_goals repeat (first | (with_reducible refine bstep ?_ hb1) | (with_reducible refine bstep ?_ hb2) | (with_reducible refine bstep ?_ (balloc _ _)) | (with_reducible exact hr0) | (with_reducible refine RowKit.Below.drew ?_) | (with_reducible exact RowKit.Below.refl _ _))
theorem enters81 : ∀ args w, (callFunc 81 args).run Tryz.prog w = .ok (.enter 81 args) w := enters_of Tryz.func81 (by kernel_rfl) rfl
theorem take1_any {w : World} {kb pb cb bm nm : Nat} {K : List (List UInt8)} {parts : List Pt} {pd : Option Addr} {pc : Nat} {counts : List Nat} {cd : Option Addr} {cc : Nat} (h : TakeEnv w kb pb cb bm nm K parts pd pc counts cd cc) (hf : ∀ p ∈ parts, fitPt p) (hl : counts.length = parts.length) :
    CmpG 81 #[.pointer (some ⟨kb, 0, none⟩), .pointer (some ⟨pb, 0, none⟩), .pointer (some ⟨cb, 0, none⟩)] (fun x => 0 ≤ x ∧ x < parts.length) (cmpP2 parts counts K) w := by
  intro W x y hW hx hy
  have h1 := h.below hW
  obtain ⟨i, rfl⟩ : ∃ i : Nat, x = i := ⟨x.toNat, by omega⟩
  obtain ⟨j, rfl⟩ : ∃ j : Nat, y = j := ⟨y.toNat, by omega⟩
  have hi : i < parts.length := by omega
  have hj : j < parts.length := by omega
  obtain ⟨rb, ro, rfl, hr⟩ := h1.pts.at i hi
  have hne : (counts.map fun n : Nat => (n : Int)) ≠ [] := fun e => by
    have h9 : (counts.map fun n : Nat => (n : Int)).length = 0 := by rw [e]; rfl
    rw [List.length_map] at h9
    omega
  obtain ⟨tb, tq, rfl, ht⟩ := h1.cnt hne
  have ci := ht i (by simp; omega)
  have cj := ht j (by simp; omega)
  have e : cmpP2 parts counts K (i : Int) (j : Int) = orP (cmpI (fixN K parts[j] : Nat) (fixN K parts[i] : Nat)) (cmpI (counts[i] : Nat) (counts[j] : Nat)) := by
    unfold cmpP2
    rw [Int.toNat_natCast, Int.toNat_natCast, List.getD_eq_getElem?_getD, List.getD_eq_getElem?_getD, List.getD_eq_getElem?_getD, List.getD_eq_getElem?_getD, List.getElem?_eq_getElem hi, List.getElem?_eq_getElem hj, List.getElem?_eq_getElem (by omega : i < counts.length), List.getElem?_eq_getElem (by omega : j < counts.length)]
    rfl
  rw [e]
  simp only [List.getElem_map] at ci cj
  exact take1_at kb pb cb bm nm rb ro tb tq parts.length counts.length pc cc i j K parts[i] parts[j] _ _ W h1.k h1.p h1.c h1.known (hf _ (List.getElem_mem hi)) (hf _ (List.getElem_mem hj)) (hr.at i hi) (hr.at j hj) ci cj hi hj (by omega) (by omega)
end Go.Proofs.YtcdbcoaiadipjaaGreatDoor
