import Derived.Test.YtaddfndohoppeaaGreatMCTopLayersx0
import Derived.Deep.RegionLaw
import Derived.Test.YtaddfndohoppeaaGreatMA0x0
import Derived.Lib.Builder
import Derived.OwnWalk
import Derived.Deep.RegionWith
import Derived.BigQuiet
import Derived.Test.YtaddfndohoppeaaGreatMA0x1

/- A chain, with the blocks that it lies in: what a repo does elsewhere leaves it. -/
namespace Go.Proofs.YtaddfndohoppeaaGreat
open Go Go.RowKit Go.Proofs
set_option synthInstance.maxSize 1000
attribute [local go_sem] eql_errV neq_errV guard_errV

theorem own_slTB {W : World} {base : Nat} {e : TypeId} {v : Value} {t : List Tr} (h : W.ownsRow base e 9 v t.length (cellsT t)) : ∃ ad cap, v = .slice ad t.length cap ∧ SlT W ad t ∧ ∀ d, ad = some d → base ≤ d.block := by
  obtain ⟨ad, cap, e1, hs⟩ := own_slT h
  refine ⟨ad, cap, e1, hs, fun d hd => ?_⟩
  rcases h.2 with ⟨e2, _⟩ | ⟨g, c, cur, e2, hg, _⟩
  · rw [e1, hd] at e2
    injection e2 with e3 _ _
    cases e3
  · rw [e1, hd] at e2
    injection e2 with e3 _ _
    injection e3 with e3
    rw [e3]
    exact hg

set_option maxHeartbeats 8000000 in
set_option maxRecDepth 100000 in
theorem own2_any (ad : Option Addr) (ca : Nat) (l : List Tr) (w : World) (hl : SlT w ad l) (hs : IsSet l) :
    Calls Tryz.prog 22 #[.slice ad l.length ca] w fun e w' => ∃ ad' c', e = .returned (.slice ad' l.length c') ∧ SlT w' ad' l ∧ RowKit.Below w.heap.size w w' ∧ ∀ d, ad' = some d → w.heap.size ≤ d.block := by
  have Hl : Hid (SlT w ad l) := hl
  have Hs : Hid (IsSet l) := hs
  have n200 : l.length ≤ 200 := hs.1
  clear hl hs
  go_enter Tryz.func22, Tryz.ntmps22
  go_wp2_with fail
  go_loopw [3, 8] (fun v i wr => ∃ k : Nat, k ≤ l.length ∧ i = .int .i64 k ∧ Hid (wr.ownsRow w.heap.size 58 9 v (l.take k).length (cellsT (l.take k))) ∧ Hid (RowKit.Below w.heap.size w wr)) (fun _ i wr => l.length - (intOf i).toNat)
  case atStart => exact ⟨0, Nat.zero_le _, rfl, by show World.ownsRow _ _ _ _ _ _ _; rw [List.take_zero]; exact World.ownsRow_nil _ _ _ _, RowKit.Below.refl _ _⟩
  case round =>
    obtain ⟨k, hk, rfl, hown, hbr⟩ := hrel
    by_cases hlt : k < l.length
    · obtain ⟨b, o, rfl, hr⟩ := (Hl.out.below hbr.out).at k hlt
      obtain ⟨c0, c1, c2, c3, c4, c5, c6, c7, c8⟩ := hr.at k hlt
      have i0' : (0 : Int) ≤ (k : Int) := by omega
      have i1 : (k : Int) < (l.length : Int) := by omega
      have hsm := small_chk (Hs.out.2.1 _ (List.getElem_mem hlt))
      have htk : Hid (l.take (k + 1) = l.take k ++ [l[k]]) := by show _ = _; rw [List.take_add_one]; simp [hlt]
      have hk' : Hid ((l.take k).length ≤ 200) := by show _ ≤ _; rw [List.length_take]; omega
      generalize l.take k = t0 at *
      generalize l[k] = y at *
      have H1 := fun W => ownTerm_any y.1 W hsm.1.1 hsm.1.2
      have H2 := fun W => ownTerm_any y.2.1 W hsm.2.1.1 hsm.2.1.2
      have H3 := fun W => ownTerm_any y.2.2 W hsm.2.2.1 hsm.2.2.2
      have HN : Hid (B9 (wr.alloc (.cells #[.int .i64 y.1.1, .string ⟨y.1.2.1.toArray⟩, .string ⟨y.1.2.2.toArray⟩, .int .i64 y.2.1.1, .string ⟨y.2.1.2.1.toArray⟩, .string ⟨y.2.1.2.2.toArray⟩, .int .i64 y.2.2.1, .string ⟨y.2.2.2.1.toArray⟩, .string ⟨y.2.2.2.2.toArray⟩] 58)) wr.heap.size y) := by show B9 _ _ _; unfold B9; refine ⟨?_, ?_, ?_, ?_, ?_, ?_, ?_, ?_, ?_⟩ <;> go_simp
      have HB : Hid (RowKit.Below w.heap.size w (wr.alloc (.cells #[.int .i64 y.1.1, .string ⟨y.1.2.1.toArray⟩, .string ⟨y.1.2.2.toArray⟩, .int .i64 y.2.1.1, .string ⟨y.2.1.2.1.toArray⟩, .string ⟨y.2.1.2.2.toArray⟩, .int .i64 y.2.2.1, .string ⟨y.2.2.2.1.toArray⟩, .string ⟨y.2.2.2.2.toArray⟩] 58))) := bstep hbr.out (balloc _ _)
      have HO : Hid (World.ownsRow (wr.alloc (.cells #[.int .i64 y.1.1, .string ⟨y.1.2.1.toArray⟩, .string ⟨y.1.2.2.toArray⟩, .int .i64 y.2.1.1, .string ⟨y.2.1.2.1.toArray⟩, .string ⟨y.2.1.2.2.toArray⟩, .int .i64 y.2.2.1, .string ⟨y.2.2.2.1.toArray⟩, .string ⟨y.2.2.2.2.toArray⟩] 58)) w.heap.size 58 9 _ t0.length (cellsT t0)) := hown.out.alloc _
      have Hn0 : Hid (some wr.heap.size ≠ Value.ownBlock _) := fun e => by have := (hown.out.lt _ e.symm).2; omega
      have hzz : Hid (w.heap.size ≤ wr.heap.size) := hbr.out.size
      clear hsm hr
      go_wp2_with fail
      obtain ⟨v1, hv1⟩ : ∃ v1, v1 = (wr.alloc (.cells #[.int .i64 y.1.1, .string ⟨y.1.2.1.toArray⟩, .string ⟨y.1.2.2.toArray⟩, .int .i64 y.2.1.1, .string ⟨y.2.1.2.1.toArray⟩, .string ⟨y.2.1.2.2.toArray⟩, .int .i64 y.2.2.1, .string ⟨y.2.2.2.1.toArray⟩, .string ⟨y.2.2.2.2.toArray⟩] 58)) := ⟨_, rfl⟩
      rw [← hv1] at HN HB HO ⊢
      have HNd : B9 v1.drew wr.heap.size y := HN.out
      clear hv1 c0 c1 c2 c3 c4 c5 c6 c7 c8 hown hbr
      go_region_held3 (fun W => B9 W wr.heap.size y ∧ W.cell? ⟨wr.heap.size, 0, none⟩ = some (.int .i64 y.1.1) ∧ W.cell? ⟨wr.heap.size, 1, none⟩ = some (.string ⟨y.1.2.1.toArray⟩) ∧ W.cell? ⟨wr.heap.size, 2, none⟩ = some (.string ⟨y.1.2.2.toArray⟩) ∧ W.cell? ⟨wr.heap.size, 3, none⟩ = some (.int .i64 y.2.1.1) ∧ W.cell? ⟨wr.heap.size, 4, none⟩ = some (.string ⟨y.2.1.2.1.toArray⟩) ∧ W.cell? ⟨wr.heap.size, 5, none⟩ = some (.string ⟨y.2.1.2.2.toArray⟩) ∧ W.cell? ⟨wr.heap.size, 6, none⟩ = some (.int .i64 y.2.2.1) ∧ W.cell? ⟨wr.heap.size, 7, none⟩ = some (.string ⟨y.2.2.2.1.toArray⟩) ∧ W.cell? ⟨wr.heap.size, 8, none⟩ = some (.string ⟨y.2.2.2.2.toArray⟩)) ((refine (fun (W : World) (h : B9 W wr.heap.size y) => (⟨h, h⟩ : B9 W wr.heap.size y ∧ B9 W wr.heap.size y)) _ ?_; repeat (first | (with_reducible exact hN9.out) | (with_reducible refine B9.alloc ?_ _) | (with_reducible refine B9.below ?_ hb1) | (with_reducible refine B9.below ?_ hb2) | (with_reducible refine B9.below ?_ hb3) | (with_reducible exact HNd) | (with_reducible exact And.left (by assumption))))) (first
        | (go_at_call_of 48 (Value.agg #[.int .i64 y.1.1, .string ⟨y.1.2.1.toArray⟩, .string ⟨y.1.2.2.toArray⟩]); refine (H1 _).mono ?_; rintro e w1 ⟨rfl, hb1⟩)
        | (go_at_call_of 48 (Value.agg #[.int .i64 y.2.1.1, .string ⟨y.2.1.2.1.toArray⟩, .string ⟨y.2.1.2.2.toArray⟩]); refine (H2 _).mono ?_; rintro e w2 ⟨rfl, hb2⟩)
        | (go_at_call_of 48 (Value.agg #[.int .i64 y.2.2.1, .string ⟨y.2.2.2.1.toArray⟩, .string ⟨y.2.2.2.2.toArray⟩]); refine (H3 _).mono ?_; rintro e w3 ⟨rfl, hb3⟩; have hB4 : Hid (RowKit.Below w.heap.size w w3) := bstep (bstep (bstep HB.out.drew hb1) hb2) hb3; obtain ⟨v', w9, hr9, ho9, hg9⟩ := append_mine w3 w.heap.size _ t0 y (ownsRow_belowC (ownsRow_belowC (ownsRow_belowC HO.out.drew hb1) hb2) hb3) hB4.out.size (by have := hk'.out; omega) 33; have hN9 : Hid (B9 w9 wr.heap.size y) := (((HN.out.below ((RowKit.Below.refl _ v1).drew.trans (bstep (bstep hb1 hb2) hb3))).alloc _).grown hg9 Hn0.out))
        | (refine step_append_eq rfl (.tmp 12) (.tmp 23) 33 rfl _ _ rfl rfl hr9 ?_))
      have hbel : Hid (RowKit.Below w.heap.size w w9) := (bstep hB4.out (balloc _ _)).grown hg9 (by have := hB4.out.size; simp; omega) (fun q hq => (HO.out.lt q hq).1)
      go_wp2_with fail
      go_roundw
      case rel =>
        refine ⟨k + 1, by omega, by go_num, ?_, hbel⟩
        show World.ownsRow _ _ _ _ _ _ _
        rw [htk.out]
        exact ho9
      case measure => simp [intOf]; omega
    · obtain rfl : k = l.length := by omega
      have hown' := hown.out
      rw [List.take_length] at hown'
      obtain ⟨ad', cap', rfl, hsl, had⟩ := own_slTB hown'
      have Had : Hid (∀ d, ad' = some d → w.heap.size ≤ d.block) := had
      have Hsl : Hid (SlT wr ad' l) := hsl
      clear hown' hown hsl had
      go_wp2_with fail
      exact bodyPost_ret (v := .slice ad' l.length cap') (by simp [results, Tryz.results22, go_sem]) rfl ⟨ad', cap', rfl, Hsl.out, hbr.out, Had.out⟩

/-- a list that lies in blocks of Z -/
def InZ (Z : Nat → Prop) (ad : Option Addr) (l : List Tr) : Prop := l ≠ [] → ∀ d, ad = some d → Z d.block
def LayZ (Z : Nat → Prop) (w : World) (x : Vp) (l : Ly) : Prop := ∃ a1 c1 a2 c2, x = (.slice a1 l.1.length c1, .slice a2 l.2.length c2) ∧ SlT w a1 l.1 ∧ SlT w a2 l.2 ∧ InZ Z a1 l.1 ∧ InZ Z a2 l.2
def LaysZ (Z : Nat → Prop) (w : World) (xs : List Vp) (ls : List Ly) : Prop := xs.length = ls.length ∧ ∀ (i : Nat) (x : Vp) (l : Ly), xs[i]? = some x → ls[i]? = some l → LayZ Z w x l
/-- a chain that lies in blocks of Z -/
def ChainZ (Z : Nat → Prop) (w : World) (n0 : Nat) (v : Value) (gs : List (List Tr)) : Prop :=
  (∃ s r bd cb xs, gs = s :: r ∧ (∀ g ∈ gs, IsSet g) ∧ w.heap[n0]? = some (.cells #[.slice bd s.length cb, v] 80) ∧ SlT w bd s ∧ InZ Z bd s ∧ SheetV w (n0 + 1) v xs ∧ LaysZ Z w xs (stepsL gs)) ∧ Z n0 ∧ ∀ g, v.ownBlock = some g → Z g
theorem LaysZ.at {Z : Nat → Prop} {w : World} {xs : List Vp} {ls : List Ly} (h : LaysZ Z w xs ls) : LaysV w xs ls := ⟨h.1, fun i x l h1 h2 => by
  obtain ⟨a1, c1, a2, c2, e, s1, s2, _⟩ := h.2 i x l h1 h2
  exact ⟨a1, c1, a2, c2, e, s1, s2⟩⟩
theorem ChainZ.at {Z : Nat → Prop} {w : World} {n0 : Nat} {v : Value} {gs : List (List Tr)} (h : ChainZ Z w n0 v gs) : ChainAt w n0 v gs := by
  obtain ⟨⟨s, r, bd, cb, xs, e, h0, h1, h2, _, h3, h4⟩, _⟩ := h
  exact ⟨s, r, bd, cb, xs, e, h0, h1, h2, h3, h4.at⟩
theorem SlT.block {w w' : World} {ad : Option Addr} {l : List Tr} (h : SlT w ad l) (hb : ∀ d, l ≠ [] → ad = some d → w'.heap[d.block]? = w.heap[d.block]?) : SlT w' ad l := fun hl => by
  obtain ⟨b, o, e, r⟩ := h hl
  refine ⟨b, o, e, fun j v hv => ?_⟩
  have h1 := hb _ hl e
  have h2 := r j v hv
  unfold World.cell? at h2 ⊢
  rw [h1]
  exact h2
theorem slT_old {w : World} {ad : Option Addr} {l : List Tr} (h : SlT w ad l) (hl : l ≠ []) {d : Addr} (hd : ad = some d) : d.block < w.heap.size := by
  obtain ⟨b, o, e, r⟩ := h hl
  rw [hd] at e
  cases e
  cases l with
  | nil => exact absurd rfl hl
  | cons x t => exact World.block_lt_of_cell? w _ (r 0 (.int .i64 x.1.1) (by simp [cellsT, encTr]))
theorem ChainZ.keep {Z : Nat → Prop} {w w' : World} {n0 : Nat} {v : Value} {gs : List (List Tr)} (h : ChainZ Z w n0 v gs) (hz : w.heap.size ≤ w'.heap.size) (hb : ∀ k, Z k → k < w.heap.size → w'.heap[k]? = w.heap[k]?) : ChainZ Z w' n0 v gs := by
  have hlt := h.at.lt
  have hown := h.at.own
  obtain ⟨⟨s, r, bd, cb, xs, e, h0, h1, h2, i2, h3, h4⟩, zn, zv⟩ := h
  refine ⟨⟨s, r, bd, cb, xs, e, h0, (hb n0 zn hlt).trans h1, h2.block (fun d hl hd => hb _ (i2 hl d hd) (slT_old h2 hl hd)), i2, h3.keep hz fun g hg => hb g (zv g hg) (hown g hg).2, h4.1, fun i x l hx hl => ?_⟩, zn, zv⟩
  obtain ⟨a1, c1, a2, c2, e1, s1, s2, j1, j2⟩ := h4.2 i x l hx hl
  exact ⟨a1, c1, a2, c2, e1, s1.block (fun d hn hd => hb _ (j1 hn d hd) (slT_old s1 hn hd)), s2.block (fun d hn hd => hb _ (j2 hn d hd) (slT_old s2 hn hd)), j1, j2⟩
theorem ChainZ.below {Z : Nat → Prop} {w w' : World} {n0 : Nat} {v : Value} {gs : List (List Tr)} (h : ChainZ Z w n0 v gs) (hb : RowKit.Below w.heap.size w w') : ChainZ Z w' n0 v gs := h.keep hb.size fun k _ hk => hb.block k hk
theorem ChainZ.grow {Z Y : Nat → Prop} {w : World} {n0 : Nat} {v : Value} {gs : List (List Tr)} (h : ChainZ Z w n0 v gs) (hz : ∀ k, Z k → Y k) : ChainZ Y w n0 v gs := by
  obtain ⟨⟨s, r, bd, cb, xs, e, h0, h1, h2, i2, h3, h4⟩, zn, zv⟩ := h
  refine ⟨⟨s, r, bd, cb, xs, e, h0, h1, h2, fun hl d hd => hz _ (i2 hl d hd), h3, h4.1, fun i x l hx hl => ?_⟩, hz _ zn, fun g hg => hz _ (zv g hg)⟩
  obtain ⟨a1, c1, a2, c2, e1, s1, s2, j1, j2⟩ := h4.2 i x l hx hl
  exact ⟨a1, c1, a2, c2, e1, s1, s2, fun hl d hd => hz _ (j1 hl d hd), fun hl d hd => hz _ (j2 hl d hd)⟩
theorem ChainZ.start {w : World} {n0 : Nat} (h : ChainAt w n0 (.slice none 0 0) [[]]) : ChainZ (fun k => k = n0) w n0 (.slice none 0 0) [[]] := by
  obtain ⟨s, r, bd, cb, xs, e, h0, h1, h2, h3, h4⟩ := h
  obtain ⟨rfl, rfl⟩ : [] = s ∧ [] = r := by simpa using e
  have hx : xs = [] := List.eq_nil_of_length_eq_zero h4.1
  subst hx
  exact ⟨⟨[], [], bd, cb, [], rfl, h0, h1, h2, fun hl => absurd rfl hl, h3, rfl, fun i x l hx => by simp at hx⟩, rfl, fun g hg => by cases hg⟩

theorem LaysZ.rows {Z : Nat → Prop} {w w' : World} {xs : List Vp} {ls : List Ly} (h : LaysZ Z w xs ls) (hr : RowsOn w w') : LaysZ Z w' xs ls := ⟨h.1, fun i x l hx hl => by
  obtain ⟨a1, c1, a2, c2, e1, s1, s2, j1, j2⟩ := h.2 i x l hx hl
  exact ⟨a1, c1, a2, c2, e1, hr _ _ s1, hr _ _ s2, j1, j2⟩⟩
theorem LaysZ.snoc {Z : Nat → Prop} {w : World} {xs : List Vp} {ls : List Ly} {x : Vp} {l : Ly} (h : LaysZ Z w xs ls) (hx : LayZ Z w x l) : LaysZ Z w (xs ++ [x]) (ls ++ [l]) := by
  refine ⟨by simp [h.1], fun i y m h1 h2 => ?_⟩
  by_cases hi : i < xs.length
  · rw [List.getElem?_append_left hi] at h1
    rw [List.getElem?_append_left (by rw [← h.1]; exact hi)] at h2
    exact h.2 i y m h1 h2
  · rw [List.getElem?_append_right (by omega)] at h1
    rw [List.getElem?_append_right (by rw [← h.1]; omega)] at h2
    have e : i - xs.length = 0 := by
      have := (List.getElem?_eq_some_iff.1 h1).1
      simp at this
      omega
    rw [← h.1] at h2
    rw [e] at h1 h2
    simp at h1 h2
    subst h1 h2
    exact hx
theorem chain_storeZ {Y : Nat → Prop} {W W9 : World} {n0 : Nat} {v v' : Value} {s : List Tr} {bd : Option Addr} {cb : Nat} {gs' : List (List Tr)} {xs' : List Vp} {r' : List (List Tr)}
    (hgs : gs' = s :: r') (hset : ∀ g ∈ gs', IsSet g) (harr : W.heap[n0]? = some (.cells #[.slice bd s.length cb, v] 80)) (hsl : SlT W bd s) (i2 : InZ Y bd s) (hv : ∃ ad n cap, v = .slice ad n cap) (hne : v.ownBlock ≠ some n0) (hne' : v'.ownBlock ≠ some n0)
    (hg : W.grownBy W9 v.ownBlock) (hr : RowsOn W W9) (hsh : SheetV W9 (n0 + 1) v' xs') (hly : LaysZ Y W9 xs' (stepsL gs')) (zn : Y n0) (zv : ∀ g, v'.ownBlock = some g → Y g) :
    ChainZ Y (W9.setCell ⟨n0, 1, none⟩ v') n0 v' gs' := by
  have hlt : n0 < W.heap.size := (Array.getElem?_eq_some_iff.1 harr).1
  have h9 : W9.heap[n0]? = some (.cells #[.slice bd s.length cb, v] 80) := (hg.block n0 hlt (fun e => hne e.symm)).trans harr
  obtain ⟨_, k1, _, k3⟩ := arr_cell h9
  obtain ⟨ad, n, cap, rfl⟩ := hv
  have hrow : RowsOn W9 (W9.setCell ⟨n0, 1, none⟩ v') := fun ad l hl => hl.put k1 v'
  have hs : ∀ k, k ≠ n0 → (W9.setCell ⟨n0, 1, none⟩ v').heap[k]? = W9.heap[k]? := fun k hk => Below.heap_setCell _ _ _ _ hk
  have hz : (W9.setCell ⟨n0, 1, none⟩ v').heap.size = W9.heap.size := by simp [World.setCell]
  refine ⟨⟨s, r', bd, cb, xs', hgs, hset, ?_, hrow _ _ (hr _ _ hsl), i2, hsh.keep (by rw [hz]; exact Nat.le_refl _) (fun g hg' => hs g (fun e => hne' (by rw [← e]; exact hg'))), hly.rows hrow⟩, zn, zv⟩
  have := heap_setCell_same W9 n0 1 _ _ v' h9
  simpa using this
theorem chain_pushZ {Z Y : Nat → Prop} {W : World} {n0 : Nat} {v : Value} {gs : List (List Tr)} (h : ChainZ Z W n0 v gs) (g u : List Tr) (hg : gs.getLast? = some g) (su : IsSet u) (hn : gs.length ≤ 900) (a1 a2 : Option Addr) (c1 c2 : Nat) (q1 : SlT W a1 (btw g u).1) (q2 : SlT W a2 (btw g u).2) (j1 : ∀ d, a1 = some d → Y d.block) (j2 : ∀ d, a2 = some d → Y d.block) (hZ : ∀ k, Z k → Y k) (hY : ∀ k, W.heap.size ≤ k → Y k) (ty : TypeId) :
    ∃ v' W9, (Builtin.append_ #[78, 78] ty #[v, .slice (some ⟨W.heap.size, 0, none⟩) 1 1]).run Tryz.prog (W.alloc (.cells #[.slice a1 (btw g u).1.length c1, .slice a2 (btw g u).2.length c2] 42)) = .ok v' W9 ∧ (W.alloc (.cells #[.slice a1 (btw g u).1.length c1, .slice a2 (btw g u).2.length c2] 42)).grownBy W9 v.ownBlock ∧ W9.cell? ⟨n0, 1, none⟩ = some v ∧ W9.frozen? ⟨n0, 1, none⟩ = false ∧ ChainZ Y (W9.setCell ⟨n0, 1, none⟩ v') n0 v' (gs ++ [u]) ∧ Off n0 v W (W9.setCell ⟨n0, 1, none⟩ v') ∧ NewV W v v' ∧ ∃ ad cap, v' = .slice ad gs.length cap := by
  obtain ⟨i0, hi, hz⟩ := Option.map_eq_some_iff.1 infoLy
  simp only [Prod.mk.injEq] at hz
  obtain ⟨hz0, hz1, hz2⟩ := hz
  have hb := balloc W (.cells #[.slice a1 (btw g u).1.length c1, .slice a2 (btw g u).2.length c2] 42)
  have hWs : (W.alloc (.cells #[.slice a1 (btw g u).1.length c1, .slice a2 (btw g u).2.length c2] 42)).heap.size = W.heap.size + 1 := by simp
  obtain ⟨⟨s, r, bd, cb, xs, rfl, hset, harr, hsl, i2, hsh, hly⟩, zn, zv⟩ := h.below hb
  have hlt : n0 < _ := (Array.getElem?_eq_some_iff.1 harr).1
  have hlen := hly.1.trans (stepsL_len _)
  obtain ⟨v', W9, hr, hsh', hgr, hrow, hob, ad, cap, hv'⟩ := run_append_sheet (P := Tryz.prog) 78 ty 42 i0 Tryz.underlying78 hi hz0 hz1 (by omega) hsh (.slice a1 (btw g u).1.length c1, .slice a2 (btw g u).2.length c2) rfl rfl ⟨W.heap.size, 0, none⟩ 1 (fun j y hj => by
    have h2 : j < 2 := (List.getElem?_eq_some_iff.1 hj).1
    rw [Addr.add_lit]
    rcases (by omega : j = 0 ∨ j = 1) with rfl | rfl
    all_goals
      simp at hj
      subst hj
      simp) (by omega) (by rw [hlen]; omega)
  have hv : ∃ ad n cap, v = .slice ad n cap := by
    rcases hsh with ⟨rfl, _⟩ | ⟨g', cap', rfl, _⟩
    · exact ⟨_, _, _, rfl⟩
    · exact ⟨_, _, _, rfl⟩
  have hne : v.ownBlock ≠ some n0 := fun e => by have := (hsh.lt n0 e).1; omega
  have hne' : v'.ownBlock ≠ some n0 := fun e => by have := (hsh'.lt n0 e).1; omega
  have hset' : ∀ m ∈ (s :: r) ++ [u], IsSet m := fun m hm => by
    rcases List.mem_append.1 hm with h | h
    · exact hset m h
    · rw [List.mem_singleton.1 h]; exact su
  have hly' : LaysZ Y W9 (xs ++ [(.slice a1 (btw g u).1.length c1, .slice a2 (btw g u).2.length c2)]) (stepsL ((s :: r) ++ [u])) := by
    rw [stepsL_snoc _ g u hg]
    refine LaysZ.snoc ⟨hly.1, fun i x l hx hl => ?_⟩ ⟨a1, c1, a2, c2, rfl, hrow _ _ (q1.below hb), hrow _ _ (q2.below hb), fun _ d hd => j1 d hd, fun _ d hd => j2 d hd⟩
    obtain ⟨b1, e1, b2, e2, ex, s1, s2, k1, k2⟩ := hly.2 i x l hx hl
    exact ⟨b1, e1, b2, e2, ex, hrow _ _ s1, hrow _ _ s2, fun hl d hd => hZ _ (k1 hl d hd), fun hl d hd => hZ _ (k2 hl d hd)⟩
  obtain ⟨k1, k3, _, hO⟩ := chain_store (gs' := (s :: r) ++ [u]) (r' := r ++ [u]) rfl hset' harr hsl hv hne hne' hgr hrow hsh' hly'.at
  have hC := chain_storeZ (Y := Y) (gs' := (s :: r) ++ [u]) (r' := r ++ [u]) rfl hset' harr hsl (fun hl d hd => hZ _ (i2 hl d hd)) hv hne hne' hgr hrow hsh' hly' (hZ _ zn) (fun k hk => by
    rcases hob with h | h
    · rw [h] at hk; exact hZ _ (zv k hk)
    · rw [h] at hk
      have := Option.some.inj hk
      exact hY k (by omega))
  refine ⟨v', W9, hr, hgr, k1, k3, hC, (Off.of_below (v := v) hb).trans hO (Or.inl rfl), ?_, ad, cap, by rw [hv', hlen]; simp⟩
  rcases hob with h | h
  · exact Or.inl h
  · exact Or.inr fun g' hg' => by rw [h] at hg'; have := Option.some.inj hg'; omega

set_option maxHeartbeats 8000000 in
set_option maxRecDepth 100000 in
theorem PushZ_any (Z : Nat → Prop) (n0 : Nat) (v : Value) (gs : List (List Tr)) (g u : List Tr) (a1 a2 : Option Addr) (c1 c2 : Nat) (w : World) (h : ChainZ Z w n0 v gs) (hn : gs.length ≤ 30) (hg : gs.getLast? = some g) (su : IsSet u) (h1 : SlT w a1 (lessL u g)) (h2 : SlT w a2 (lessL g u)) :
    Calls Tryz.prog 16 #[.pointer (some ⟨n0, 0, none⟩), .agg #[.slice a1 (lessL u g).length c1, .slice a2 (lessL g u).length c2]] w fun e w' => e = .returned .nilIface ∧ ∃ v', ChainZ (fun k => Z k ∨ w.heap.size ≤ k) w' n0 v' (gs ++ [u]) ∧ Off n0 v w w' ∧ NewV w v v' := by
  have hp := h.at.pos
  have hlt := h.at.lt
  have hgi : gs[gs.length - 1]? = some g := by rw [← List.getLast?_eq_getElem?]; exact hg
  have sg : IsSet g := h.at.set hgi
  have s1 : IsSet (lessL u g) := lessSet su
  have s2 : IsSet (lessL g u) := lessSet sg
  have HL := fun W hW => CLen_any n0 v gs W hW (by omega)
  have HG := fun W hW => Graph_any n0 v gs (gs.length - 1) g W hW (by omega) hgi
  have HA := fun W sd cs h0 h1 h2 => ApplyGood_any sd a1 a2 cs c1 c2 g u W h0 h1 h2 sg su
  have HO1 := fun W hW => own2_any a1 c1 (lessL u g) W hW s1
  have HO2 := fun W hW => own2_any a2 c2 (lessL g u) W hW s2
  have H0 : Hid (ChainZ Z w n0 v gs) := h
  have H12 : Hid (SlT w a1 (lessL u g) ∧ SlT w a2 (lessL g u)) := ⟨h1, h2⟩
  have hB0 : Hid (RowKit.Below w.heap.size w (w.alloc (.cells #[.slice a1 (lessL u g).length c1, .slice a2 (lessL g u).length c2] 42))) := balloc _ _
  have Hg : Hid (gs.getLast? = some g) := hg
  have HN : Hid (gs.length ≤ 30) := hn
  have Su : Hid (IsSet u) := su
  have b0 : decide ((30 : Int) ≤ ((gs.length - 1 : Nat) : Int)) = false := by simp; omega
  clear h h1 h2 hgi sg su s1 s2 hg
  generalize hm : gs.length - 1 = m at *
  clear hm hn hp
  generalize hl1 : (lessL u g).length = n1 at *
  generalize hl2 : (lessL g u).length = n2 at *
  have Hl1 : Hid ((lessL u g).length = n1) := hl1
  have Hl2 : Hid ((lessL g u).length = n2) := hl2
  clear hl1 hl2
  go_enter Tryz.func16, Tryz.ntmps16
  go_wp2_with fail
  refine (HL _ (H0.out.at.below hB0.out)).mono ?_
  rintro e w1 ⟨rfl, rfl⟩
  go_wp2_with fail
  refine (HL _ (H0.out.at.below hB0.out)).mono ?_
  rintro e w1 ⟨rfl, rfl⟩
  go_wp2_with fail
  refine (HG _ (H0.out.at.below hB0.out)).mono ?_
  rintro e w2 ⟨hb2, ad, cd, rfl, hs2⟩
  obtain ⟨x0, x1, hz1, _, _⟩ := twobox hb2
  have hB2 : Hid (RowKit.Below w.heap.size w w2) := bstep hB0.out hb2
  have Hs2 : Hid (SlT w2 ad g) := hs2
  clear hb2 hs2 HG HL
  go_wp2_with fail
  refine (HA _ ad cd Hs2.out (H12.out.1.below hB2.out) (H12.out.2.below hB2.out)).mono ?_
  rintro e w3 ⟨hb3, ad3, cd3, rfl, hs3⟩
  have hB3 : Hid (RowKit.Below w.heap.size w w3) := bstep hB2.out hb3
  have y0 : w3.cell? ⟨w.heap.size, 0, none⟩ = some (.slice a1 n1 c1) := (hb3.cell (World.block_lt_of_cell? _ _ x0)).trans x0
  have y1 : w3.cell? ⟨w.heap.size, 1, none⟩ = some (.slice a2 n2 c2) := (hb3.cell (World.block_lt_of_cell? _ _ x1)).trans x1
  clear x0 x1 hb3 hs3 HA Hs2 hB2
  have HC3 : Hid (ChainZ Z w3 n0 v gs) := H0.out.below hB3.out
  have c1v := HC3.out.at.c1
  have Hq : Hid (SlT w3.drew a1 (lessL u g) ∧ SlT w3.drew a2 (lessL g u)) := ⟨H12.out.1.below hB3.out.drew, H12.out.2.below hB3.out.drew⟩
  go_wp2_with fail
  go_region_law (first
    | (refine step_append_eq rfl (.tmp 36) (.tmp 44) 78 rfl _ _ rfl rfl hr9 ?_)
    | (go_simp; go_at_call_of 22 (Value.slice a1 n1 c1); refine (HO1 _ Hq.out.1).mono ?_; rintro e w4 ⟨b1, d1, rfl, hs4, hb4, hf4⟩; have k4 : w4.cell? ⟨n0, 1, none⟩ = some v := (hb4.cell (World.block_lt_of_cell? _ _ c1v)).trans c1v; have z0 : w4.cell? ⟨w.heap.size, 0, none⟩ = some (.slice a1 n1 c1) := (hb4.cell (World.block_lt_of_cell? _ _ y0)).trans y0; have z1 : w4.cell? ⟨w.heap.size, 1, none⟩ = some (.slice a2 n2 c2) := (hb4.cell (World.block_lt_of_cell? _ _ y1)).trans y1)
    | (go_simp; go_at_call_of 22 (Value.slice a2 n2 c2); refine (HO2 _ (Hq.out.2.below hb4)).mono ?_; rintro e w5 ⟨b2, d2, rfl, hs5, hb5, hf5⟩; have k5 : w5.cell? ⟨n0, 1, none⟩ = some v := (hb5.cell (World.block_lt_of_cell? _ _ k4)).trans k4; have k5z : n0 < w5.heap.size := World.block_lt_of_cell? _ _ k5; have hB5 : Hid (RowKit.Below w3.heap.size w3 w5) := bstep ((RowKit.Below.refl _ w3).drew.trans hb4) hb5; have hz35 : Hid (w.heap.size ≤ w3.heap.size ∧ w3.heap.size ≤ w4.heap.size ∧ w3.heap.size ≤ w5.heap.size) := ⟨hB3.out.size, hb4.size, hB5.out.size⟩; obtain ⟨v', w9, hr9, hg9, k9, f9, hc9, ho9, hn9, adv, capv, hv9⟩ := chain_pushZ (Y := fun k => Z k ∨ w.heap.size ≤ k) (HC3.out.below hB5.out) g u Hg.out Su.out (by have := HN.out; omega) b1 b2 d1 d2 (hs4.below hb5) hs5 (fun d hd => Or.inr (Nat.le_trans hz35.out.1 (hf4 d hd))) (fun d hd => Or.inr (Nat.le_trans (Nat.le_trans hz35.out.1 hz35.out.2.1) (hf5 d hd))) (fun k hk => Or.inl hk) (fun k hk => Or.inr (by have := hz35.out; omega)) 78; dsimp only [btw] at hr9; rw [Hl1.out, Hl2.out] at hr9; have hfin : Hid (ChainZ (fun k => Z k ∨ w.heap.size ≤ k) (w9.setCell ⟨n0, 1, none⟩ v') n0 v' (gs ++ [u]) ∧ Off n0 v w5 (w9.setCell ⟨n0, 1, none⟩ v') ∧ NewV w5 v v') := ⟨hc9, ho9, hn9⟩; clear hc9 ho9 hn9 hg9; subst hv9))
  all_goals go_wp2_with fail
  all_goals
    refine bodyPost_ret (v := .nilIface) (by simp [results, Tryz.results16, go_sem]) rfl ⟨rfl, _, hfin.out.1, (Off.of_below (bstep hB3.out hB5.out)).trans hfin.out.2.1 (Or.inl rfl), ?_⟩
    rcases hfin.out.2.2 with h | h
    · exact Or.inl h
    · exact Or.inr fun g' hg' => Nat.le_trans (bstep hB3.out hB5.out).size (h g' hg')
end Go.Proofs.YtaddfndohoppeaaGreat

/- TopLayers: what there is in memory: a repo, and a chain beside it. -/
namespace Go.Proofs.YtaddfndohoppeaaGreat
open Go Go.RowKit Go.Proofs
set_option synthInstance.maxSize 1000

/-- sets in a list of lists -/
def SetsAtT (w : World) (b o : Nat) (S : List (List Tr)) : Prop := ∀ (i : Nat) (hi : i < S.length), ∃ a c, w.cell? ⟨b, o + i, none⟩ = some (.slice a S[i].length c) ∧ SetIn w a c S[i]
theorem ChainZ.cut {Z : Nat → Prop} {w : World} {n0 : Nat} {v : Value} {gs : List (List Tr)} (h : ChainZ Z w n0 v gs) : ChainZ (fun k => Z k ∧ k < w.heap.size) w n0 v gs := by
  have hlt := h.at.lt
  have hown := h.at.own
  obtain ⟨⟨s, r, bd, cb, xs, e, h0, h1, h2, i2, h3, h4⟩, zn, zv⟩ := h
  refine ⟨⟨s, r, bd, cb, xs, e, h0, h1, h2, fun hl d hd => ⟨i2 hl d hd, slT_old h2 hl hd⟩, h3, h4.1, fun i x l hx hl => ?_⟩, ⟨zn, hlt⟩, fun g hg => ⟨zv g hg, (hown g hg).2⟩⟩
  obtain ⟨a1, c1, a2, c2, e1, s1, s2, j1, j2⟩ := h4.2 i x l hx hl
  exact ⟨a1, c1, a2, c2, e1, s1, s2, fun hn d hd => ⟨j1 hn d hd, slT_old s1 hn hd⟩, fun hn d hd => ⟨j2 hn d hd, slT_old s2 hn hd⟩⟩
structure TLW (F : RFace) (w0 : World) (r n0 : Nat) (R : Rp) (gs : List (List Tr)) (v : Value) (O Z : Nat → Prop) (W : World) : Prop where
  pro : F.At W r O R
  chn : ChainZ Z W n0 v gs
  low : RowKit.Below w0.heap.size w0 W
  high : ∀ j, O j → w0.heap.size ≤ j
  zhi : ∀ j, Z j → w0.heap.size ≤ j
  zin : ∀ j, Z j → j < W.heap.size
  ap : ∀ j, O j → ¬ Z j
def TL (F : RFace) (w0 : World) (r n0 : Nat) (R : Rp) (gs : List (List Tr)) (v : Value) (W : World) : Prop := ∃ O Z : Nat → Prop, TLW F w0 r n0 R gs v O Z W
section
variable {F : RFace} {w0 : World} {r n0 : Nat} {R : Rp} {gs : List (List Tr)} {v : Value} {W W' : World}
theorem TL.below (h : TL F w0 r n0 R gs v W) (hb : RowKit.Below W.heap.size W W') : TL F w0 r n0 R gs v W' := by
  obtain ⟨O, Z, h⟩ := h
  exact ⟨O, Z, F.below h.pro hb, h.chn.below hb, bstep h.low hb, h.high, h.zhi, fun j hj => Nat.lt_of_lt_of_le (h.zin j hj) hb.size, h.ap⟩
theorem TL.low (h : TL F w0 r n0 R gs v W) : RowKit.Below w0.heap.size w0 W := by
  obtain ⟨O, Z, h⟩ := h
  exact h.low
theorem TL.chain (h : TL F w0 r n0 R gs v W) : ChainAt W n0 v gs := by
  obtain ⟨O, Z, h⟩ := h
  exact h.chn.at
theorem TL.start {w1 w2 : World} {O : Nat → Prop} (hb1 : RowKit.Below w0.heap.size w0 w1) (hA : F.At w1 r O emptyR) (hO : ∀ j, O j → w0.heap.size ≤ j) (hn : w1.heap.size ≤ n0) (hc : ChainAt w2 n0 (.slice none 0 0) [[]]) (hb2 : RowKit.Below w1.heap.size w1 w2) : TL F w0 r n0 emptyR [[]] (.slice none 0 0) w2 := by
  have hs := hb1.size
  refine ⟨O, fun k => k = n0, F.below hA hb2, ChainZ.start hc, bstep hb1 hb2, hO, fun j hj => by omega, fun j hj => by rw [hj]; exact hc.lt, fun j hj e => ?_⟩
  have := F.own hA j hj
  omega
theorem TL.commit (b : List UInt8) (sd : Option Addr) (sc : Nat) (s : List Tr) (t : List UInt8) (h : TL F w0 r n0 R gs v W) (hg : GoodR R) (hb : b.length ≤ F.lim) (ht : t.length ≤ F.lim) (hs : SetIn w0 sd sc s) :
    Calls Tryz.prog 7 #[.pointer (some ⟨r, 0, none⟩), .string ⟨b.toArray⟩, .slice sd s.length sc, .string ⟨t.toArray⟩] W fun e W' => e = .returned (.tuple #[.int .i64 (commitI R b s t : Int), errV (commitE R b s t)]) ∧ TL F w0 r n0 (commitR R b s t) gs v W' := by
  obtain ⟨O, Z, h⟩ := h
  refine (F.commit W r O R b sd sc s t h.pro hg ⟨hs.sl.below h.low, hs.cap, hs.fit, hs.len, fun hne d hd hO => by have h9 := hs.low hne d hd; have h8 := h.high _ hO; omega⟩ hb ht).mono ?_
  rintro e W' ⟨rfl, O', hA, ho, hn⟩
  have hz := h.low.size
  refine ⟨rfl, O', Z, hA, h.chn.keep ho.size (fun k hk hl => ho.block k hl (fun hO => h.ap k hO hk)), h.low.trans (ho.below h.high hz), fun j hj => ?_, h.zhi, fun j hj => Nat.lt_of_lt_of_le (h.zin j hj) ho.size, fun j hj hZ => ?_⟩
  · rcases hn j hj with hj | hj
    · exact h.high j hj
    · omega
  · rcases hn j hj with hj | hj
    · exact h.ap j hj hZ
    · have := h.zin j hZ; omega
theorem TL.commits (h : TL F w0 r n0 R gs v W) (hg : GoodR R) :
    Calls Tryz.prog 8 #[.pointer (some ⟨r, 0, none⟩)] W fun e W' => ∃ ad ca, e = .returned (.slice ad R.coms.length ca) ∧ SlC W' ad R.coms ∧ RowKit.Below W.heap.size W W' := by
  obtain ⟨O, Z, h⟩ := h
  exact (F.commits W r O R h.pro hg).mono fun e W' ⟨ad, ca, h1, _, h3, _, h5⟩ => ⟨ad, ca, h1, h3, h5⟩
theorem TL.object (id : Int) (h : TL F w0 r n0 R gs v W) (hg : GoodR R) :
    Calls Tryz.prog 9 #[.pointer (some ⟨r, 0, none⟩), .int .i64 id] W fun e W' => e = .returned (.tuple #[.string ⟨(objB R.L id).toArray⟩, errV (objE R.L id)]) ∧ RowKit.Below W.heap.size W W' := by
  obtain ⟨O, Z, h⟩ := h
  exact F.object W r O R id h.pro hg
theorem TL.graph (a : Int) (h : TL F w0 r n0 R gs v W) (hg : GoodR R) :
    Calls Tryz.prog 11 #[.pointer (some ⟨r, 0, none⟩), .int .i64 a] W fun e W' => ∃ ad ca, e = .returned (.tuple #[.slice ad (graphL R a).length ca, errV (graphE R a)]) ∧ SlT W' ad (graphL R a) ∧ RowKit.Below W.heap.size W W' := by
  obtain ⟨O, Z, h⟩ := h
  exact F.graph W r O R a h.pro hg
theorem TL.push (g u : List Tr) (a1 a2 : Option Addr) (c1 c2 : Nat) (h : TL F w0 r n0 R gs v W) (hn : gs.length ≤ 30) (hg : gs.getLast? = some g) (su : IsSet u) (h1 : SlT W a1 (lessL u g)) (h2 : SlT W a2 (lessL g u)) :
    Calls Tryz.prog 16 #[.pointer (some ⟨n0, 0, none⟩), .agg #[.slice a1 (lessL u g).length c1, .slice a2 (lessL g u).length c2]] W fun e W' => e = .returned .nilIface ∧ ∃ v', TL F w0 r n0 R (gs ++ [u]) v' W' := by
  obtain ⟨O, Z, h⟩ := h
  refine (PushZ_any Z n0 v gs g u a1 a2 c1 c2 W h.chn hn hg su h1 h2).mono ?_
  rintro e W' ⟨rfl, v', hC, hO, hN⟩
  have zn := h.chn.2.1
  have zv := h.chn.2.2
  have hz := h.low.size
  refine ⟨rfl, v', O, _, F.keep h.pro fun j hj => hO.block j (F.own h.pro j hj) (fun e => h.ap j hj (e ▸ zn)) (fun e => h.ap j hj (zv j e)), hC.cut, h.low.trans (hO.below (h.zhi _ zn) (fun g hg => h.zhi g (zv g hg)) hz), h.high, fun j hj => ?_, fun j hj => hj.2, fun j hj hZ => ?_⟩
  · rcases hj.1 with hj | hj
    · exact h.zhi j hj
    · omega
  · rcases hZ.1 with hZ | hZ
    · exact h.ap j hj hZ
    · have := F.own h.pro j hj; omega
end
end Go.Proofs.YtaddfndohoppeaaGreat

/- strings.Builder: WriteByte (its own check walked here), String; strings.Clone. -/
namespace Go.Proofs.YtaddfndohoppeaaGreat
open Go Go.RowKit Go.Proofs

theorem neBuilder : (138 : TypeId) ≠ 5 := by decide
theorem sizeBuilder : (Tryz.prog.info? 138).map (·.size) = some 2 := by kernel_rfl
theorem liesBuilder : liesAt Tryz.prog Tryz.prog.depth 138 (2 / Tryz.prog.cellsOf 138) 0 138 1 = true := by kernel_rfl
theorem infoByte : (Tryz.prog.info? 5).map (fun i => (i.zero, i.size, i.bytes)) = some (some (.int .u8 0), 1, 1) := by kernel_rfl

set_option maxHeartbeats 1000000 in
set_option maxRecDepth 100000 in
theorem copyCheck_fresh (b : Nat) (w : World) (h0 : w.cell? ⟨b, 0, none⟩ = some (.pointer none)) (hsh : w.shape? b = some (138, 2)) (hz : w.frozen? ⟨b, 0, none⟩ = false) :
    Calls Tryz.prog 100 #[.pointer (some ⟨b, 0, none⟩)] w fun e w' => e = .returned (.tuple #[]) ∧ w' = w.setCell ⟨b, 0, none⟩ (.pointer (some ⟨b, 0, none⟩)) := by
  obtain ⟨j, hj, hjs⟩ := Option.map_eq_some_iff.1 sizeBuilder
  go_enter Tryz.func100, Tryz.ntmps100
  go_wp2
  rw [Lib.run_to_unsafe w ⟨b, 0, none⟩ Tryz.underlying135 Tryz.underlying214 hj (by rw [hjs]; decide) hsh (Nat.zero_lt_succ 1)]
  simp only [Result.andThen]
  rw [Oper.upon_value]
  go_wp2
  rw [run_callFunc_extern Tryz.func145 (by kernel_rfl) (by kernel_rfl) (by kernel_rfl) (e := Extern.AbiNoEscape.same) (by kernel_rfl)]
  rw [Lib.run_noEscape]
  simp only [Result.andThen]
  rw [Oper.upon_value]
  go_wp2
  rw [Lib.run_from_unsafe w ⟨b, 0, none⟩ Tryz.underlying214 Tryz.underlying135 hj hsh liesBuilder]
  simp only [Result.andThen]
  rw [Oper.upon_value]
  go_wp2
  go_end0
  exact ⟨rfl, rfl⟩

set_option maxHeartbeats 1000000 in
set_option maxRecDepth 100000 in
theorem copyCheck_used (b : Nat) (w : World) (h0 : w.cell? ⟨b, 0, none⟩ = some (.pointer (some ⟨b, 0, none⟩))) :
    Calls Tryz.prog 100 #[.pointer (some ⟨b, 0, none⟩)] w fun e w' => e = .returned (.tuple #[]) ∧ w' = w := by
  obtain ⟨j, hj, _⟩ := Option.map_eq_some_iff.1 sizeBuilder
  go_enter Tryz.func100, Tryz.ntmps100
  go_wp2
  rw [Lib.run_neq_ptr_same w _ Tryz.underlying135 hj]
  go_wp2
  go_end0
  exact ⟨rfl, rfl⟩

theorem copyCheck_any (B b : Nat) (bs : List Value) (w : World) (h : Lib.IsBuilder 138 5 B b bs w) :
    Calls Tryz.prog 100 #[.pointer (some ⟨b, 0, none⟩)] w fun e w' => e = .returned (.tuple #[]) ∧ (Lib.BuilderAt 138 5 B b (.pointer (some ⟨b, 0, none⟩)) bs w' ∧ Below B w w') := by
  rcases h with h | h
  · refine (copyCheck_fresh b w h.cell0 h.shape h.frozen0).mono ?_
    rintro e w' ⟨rfl, rfl⟩
    exact ⟨rfl, h.used _, (Below.refl B w).setCell (p := ⟨b, 0, none⟩) h.1 _⟩
  · refine (copyCheck_used b w h.cell0).mono ?_
    rintro e w' ⟨rfl, rfl⟩
    exact ⟨rfl, h, Below.refl B _⟩

set_option maxHeartbeats 1000000 in
set_option maxRecDepth 100000 in
theorem WriteByte_any (B b : Nat) (bs : List Value) (c : Int) (w : World) (h : Lib.IsBuilder 138 5 B b bs w) (hlen : bs.length + 1 ≤ 140737488355328) (hBw : B ≤ w.heap.size) :
    Calls Tryz.prog 212 #[.pointer (some ⟨b, 0, none⟩), .int .u8 c] w fun e w' => e = .returned .nilIface ∧ (Lib.BuilderAt 138 5 B b (.pointer (some ⟨b, 0, none⟩)) (bs ++ [.int .u8 c]) w' ∧ Below B w w') := by
  obtain ⟨i0, hi, hz⟩ := Option.map_eq_some_iff.1 infoByte
  simp only [Prod.mk.injEq] at hz
  obtain ⟨hz0, hz1, hz2⟩ := hz
  go_enter Tryz.func212, Tryz.ntmps212
  go_wp2_with (go_at_call 100; refine (copyCheck_any B b bs _ h).mono ?_)
  rintro e w1 ⟨rfl, h1, hb1⟩
  obtain ⟨hB, v, hbk, hown, hne⟩ := h1
  have c0 : w1.cell? ⟨b, 0, none⟩ = some (.pointer (some ⟨b, 0, none⟩)) := by rw [Lib.cell_of_heap hbk]; rfl
  have c1 : w1.cell? ⟨b, 1, none⟩ = some v := by rw [Lib.cell_of_heap hbk]; rfl
  go_wp2_with (at_builtin; refine wpList_append_own _ rfl _ _ 136 rfl B 5 i0 (.int .u8 0) 1 1 Tryz.underlying136 hi hz0 hz1 hz2 rfl (by decide) _ _ _ rfl (hown.alloc _) ⟨w1.heap.size, 0, none⟩ 1 1 [.int .u8 c] rfl rfl ?c1 ?c2 ?c3 ?c4 ?c5 ?_)
  case c1 =>
    intro j u hj
    match j, hj with
    | 0, hj => simp at hj; subst hj; simp [Addr.add]
  case c2 => intro u hu; simp at hu; subst hu; rfl
  case c3 => unfold maxLen; omega
  case c4 => omega
  case c5 => have := hb1.size; simp; omega
  intro v' w2 hown' hgrow _
  have hlt : b < w1.heap.size := by
    rcases Nat.lt_or_ge b w1.heap.size with h' | h'
    · exact h'
    · simp [Array.getElem?_eq_none h'] at hbk
  have hb2 : w2.heap[b]? = some (.cells #[.pointer (some ⟨b, 0, none⟩), v] 138 (0, 0)) := by
    rw [hgrow.block b (by simp; omega) (fun e => hne e.symm), Lib.alloc_old w1 _ b hlt]
    exact hbk
  have d0 : w2.cell? ⟨b, 0, none⟩ = some (.pointer (some ⟨b, 0, none⟩)) := by rw [Lib.cell_of_heap hb2]; rfl
  have d1 : w2.cell? ⟨b, 1, none⟩ = some v := by rw [Lib.cell_of_heap hb2]; rfl
  have f1 : w2.frozen? ⟨b, 1, none⟩ = false := Lib.frozen_of_heap hb2 1
  obtain ⟨g, cap, rfl⟩ : ∃ g cap, v' = .slice (some ⟨g, 0, none⟩) (bs.length + 1) cap := by
    rcases hown'.2 with ⟨_, h0⟩ | ⟨g, cap, cur, hv, _⟩
    · omega
    · exact ⟨g, cap, hv⟩
  go_wp2
  go_ret
  refine ⟨rfl, ?_, ?_⟩
  · exact Lib.BuilderAt.put (T := 138) (e := 5) hB hb2 (bs' := bs ++ [.int .u8 c]) (by simpa using hown') neBuilder
  · exact ((hb1.alloc (by have := hb1.size; omega) _).grown hgrow (by have := hb1.size; simp; omega) (fun k hk => (hown.lt k hk).1)).setCell (p := ⟨b, 1, none⟩) hB _

theorem Clone_any (l : List UInt8) (w : World) (hl : l.length ≤ 281474976710656) :
    Calls Tryz.prog 57 #[.string ⟨l.toArray⟩] w fun e w' => e = .returned (.string ⟨l.toArray⟩) ∧ Below w.heap.size w w' := by
  go_enter Tryz.func57, Tryz.ntmps57
  go_wp2_with (go_at_call 89; refine (Tryz.stringslite_Clone ⟨l.toArray⟩ _ hl).mono ?_; rintro e w' ⟨rfl, hb⟩)
  go_ret
  exact ⟨rfl, hb⟩
end Go.Proofs.YtaddfndohoppeaaGreat

/- quote, langMark: a text between quotes, and what stands behind it. -/
namespace Go.Proofs.YtaddfndohoppeaaGreat
open Go Go.RowKit Go.Proofs

/-- what stands between the quotes -/
def escL (l : List UInt8) : List UInt8 := l.flatMap fun c => if markB (c.toNat : Int) then [92, c] else [c]
def quoteL (l : List UInt8) : List UInt8 := 34 :: (escL l ++ [34])

theorem escL_len (l : List UInt8) : (escL l).length ≤ 2 * l.length := by
  induction l with
  | nil => simp [escL]
  | cons c r ih =>
    have : escL (c :: r) = (if markB (c.toNat : Int) then [92, c] else [c]) ++ escL r := by simp [escL]
    rw [this, List.length_append]
    cases markB (c.toNat : Int) <;> simp <;> omega

theorem escL_take (l : List UInt8) (k : Nat) (h : k < l.length) : escL (l.take (k + 1)) = escL (l.take k) ++ if markB (l[k].toNat : Int) then [92, l[k]] else [l[k]] := by
  rw [List.take_succ_eq_append_getElem h]
  simp only [escL, List.flatMap_append, List.flatMap_cons, List.flatMap_nil, List.append_nil]

theorem cells_snoc (l : List UInt8) (c : UInt8) : Lib.byteCells l ++ [.int .u8 (c.toNat : Int)] = Lib.byteCells (l ++ [c]) := by simp [Lib.byteCells]

set_option maxHeartbeats 1000000 in
set_option maxRecDepth 100000 in
theorem quote_any (S : List UInt8) (w : World) (hs : S.length ≤ 1000000) :
    Calls Tryz.prog 176 #[.string ⟨S.toArray⟩] w fun e w' => e = .returned (.string ⟨(quoteL S).toArray⟩) ∧ Below w.heap.size w w' := by
  have hB0 := Lib.fresh_isBuilder 138 5 w
  go_enter Tryz.func176, Tryz.ntmps176
  go_wp2_with fail
  refine (WriteByte_any w.heap.size w.heap.size [] 34 _ hB0 (by simp) (by simp)).mono ?_
  rintro e w1 ⟨rfl, hI1, hb1⟩
  have hI1' : Lib.IsBuilder 138 5 w.heap.size w.heap.size (Lib.byteCells (34 :: escL (S.take 0))) w1 := Or.inr hI1
  clear hI1
  have hbw : Below w.heap.size w w1 := (balloc w _).trans hb1
  clear hb1 hB0
  go_wp2_with fail
  go_loopw [8] (fun i wr => ∃ k : Nat, k ≤ S.length ∧ i = .int .i64 k ∧ Lib.IsBuilder 138 5 w.heap.size w.heap.size (Lib.byteCells (34 :: escL (S.take k))) wr ∧ Below w.heap.size w wr) (fun i wr => S.length - (intOf i).toNat)
  case atStart => exact ⟨0, Nat.zero_le _, rfl, hI1', hbw⟩
  case round =>
    obtain ⟨k, hk, rfl, hI, hbr⟩ := hrel
    have hlen := escL_len (S.take k)
    have hlt2 : (S.take k).length ≤ k := List.length_take_le _ _
    have hsz := hbr.size
    clear hI1' hbw
    by_cases hlt : k < S.length
    · have hidx : ∀ h, (⟨S.toArray⟩ : ByteArray)[k]'h = S[k] := fun _ => rfl
      cases hm : markB (S[k].toNat : Int)
      · have hnext : Hid (Lib.byteCells (34 :: escL (S.take (k + 1))) = Lib.byteCells (34 :: escL (S.take k)) ++ [.int .u8 (S[k].toNat : Int)]) := by
          show _ = _; rw [cells_snoc, escL_take S k hlt, hm]; simp
        go_wp2_with (first | (go_at_call 213; refine (isMarked_any _ _).mono ?_; rintro e w' ⟨rfl, rfl⟩))
        refine (WriteByte_any w.heap.size w.heap.size _ _ _ hI (by simp [Lib.byteCells]; omega) hsz).mono ?_
        rintro e w2 ⟨rfl, hI2, hb2⟩
        rw [← hnext.out] at hI2
        go_wp2_with fail
        exact ⟨⟨k + 1, by omega, by go_num, Or.inr hI2, hbr.trans hb2⟩, by simp [intOf]; omega⟩
      · have hnext : Hid (Lib.byteCells (34 :: escL (S.take (k + 1))) = (Lib.byteCells (34 :: escL (S.take k)) ++ [.int .u8 92]) ++ [.int .u8 (S[k].toNat : Int)]) := by
          show _ = _
          have e92 : (.int .u8 92 : Value) = .int .u8 ((92 : UInt8).toNat : Int) := rfl
          rw [e92, cells_snoc, cells_snoc, escL_take S k hlt, hm]; simp
        go_wp2_with (first | (go_at_call 213; refine (isMarked_any _ _).mono ?_; rintro e w' ⟨rfl, rfl⟩))
        refine (WriteByte_any w.heap.size w.heap.size _ _ _ hI (by simp [Lib.byteCells]; omega) hsz).mono ?_
        rintro e w2 ⟨rfl, hI2, hb2⟩
        have hbr2 := hbr.trans hb2
        have hsz2 := hbr2.size
        go_wp2_with fail
        refine (WriteByte_any w.heap.size w.heap.size _ _ _ (Or.inr hI2) (by simp [Lib.byteCells]; omega) hsz2).mono ?_
        rintro e w3 ⟨rfl, hI3, hb3⟩
        rw [← hnext.out] at hI3
        go_wp2_with fail
        exact ⟨⟨k + 1, by omega, by go_num, Or.inr hI3, hbr2.trans hb3⟩, by simp [intOf]; omega⟩
    · have hk' : k = S.length := by omega
      subst hk'
      rw [List.take_length] at hI hlen
      go_wp2_with fail
      refine (WriteByte_any w.heap.size w.heap.size _ _ _ hI (by simp [Lib.byteCells]; omega) hsz).mono ?_
      rintro e w2 ⟨rfl, hI2, hb2⟩
      have hbr2 := hbr.trans hb2
      have hsz2 := hbr2.size
      have e34 : (.int .u8 34 : Value) = .int .u8 ((34 : UInt8).toNat : Int) := rfl
      rw [e34, cells_snoc] at hI2
      clear e34
      go_wp2_with fail
      refine (Tryz.Builder_String_any w.heap.size w.heap.size _ _ (Or.inr hI2) hsz2).mono ?_
      rintro e w3 ⟨rfl, hb3⟩
      go_wp2_with fail
      go_ret
      exact ⟨rfl, hbr2.trans hb3⟩

theorem str_app (a b : List UInt8) : ((⟨a.toArray⟩ : ByteArray) ++ (⟨b.toArray⟩ : ByteArray)) = ⟨(a ++ b).toArray⟩ := by
  apply ByteArray.ext
  rw [ByteArray.data_append]
  simp

def markL (L : List UInt8) : List UInt8 := match L with | [] => [] | c :: r => 64 :: c :: r
theorem markL_len (L : List UInt8) : (markL L).length ≤ L.length + 1 := by cases L <;> simp [markL]
theorem quoteL_len (L : List UInt8) : (quoteL L).length ≤ 2 * L.length + 2 := by have := escL_len L; simp [quoteL]; omega

theorem langMark_any (L : List UInt8) (w : World) (hl : L.length ≤ 1000000) :
    Calls Tryz.prog 177 #[.string ⟨L.toArray⟩] w fun e w' => e = .returned (.string ⟨(markL L).toArray⟩) ∧ w' = w := by
  cases L with
  | nil =>
    go_enter Tryz.func177, Tryz.ntmps177
    go_wp2
    go_ret
    exact ⟨rfl, rfl⟩
  | cons c r =>
    simp only [List.length_cons] at hl
    go_enter Tryz.func177, Tryz.ntmps177
    go_wp2
    go_ret
    exact ⟨ret_val (congrArg Value.string (str_app [64] (c :: r))), rfl⟩
end Go.Proofs.YtaddfndohoppeaaGreat

/- Print: a term as text. -/
namespace Go.Proofs.YtaddfndohoppeaaGreat
open Go Go.RowKit Go.Proofs

/-- the text of a right term -/
def showL (k : Int) (S L : List UInt8) : List UInt8 := if k = 2 then 95 :: S else if k = 3 then quoteL S ++ markL L else S
theorem str_app2 (c : UInt8) (b : List UInt8) : ((⟨#[c]⟩ : ByteArray) ++ (⟨b.toArray⟩ : ByteArray)) = ⟨(c :: b).toArray⟩ := str_app [c] b

set_option maxHeartbeats 2000000 in
theorem Print_text (S L : List UInt8) (w : World) (hS : S.length ≤ 24) (hL : L.length ≤ 2) (He : Hid (errV (checkN 3 S L) = .nilIface)) :
    Calls Tryz.prog 143 #[.agg #[.int .i64 3, .string ⟨S.toArray⟩, .string ⟨L.toArray⟩]] w fun e w' => e = .returned (.tuple #[.string ⟨(showL 3 S L).toArray⟩, .nilIface]) ∧ Below w.heap.size w w' := by
  have hs : S.length ≤ maxLen := by unfold maxLen; omega
  have hl : L.length ≤ maxLen := by unfold maxLen; omega
  have fin : Hid (showL 3 S L = quoteL S ++ markL L) := rfl
  go_enter Tryz.func143, Tryz.ntmps143
  go_wp2_with fail
  refine (Check_any 3 S L _ hs hl).mono ?_
  rintro e w1 ⟨rfl, hb1⟩
  obtain ⟨hc1, hf1⟩ := bcell hb1
  have hz : w.heap.size < w1.heap.size := by have := hb1.size; simp at this; omega
  rw [He.out]
  go_wp2_with fail
  have hcS : w1.cell? ⟨w.heap.size, 1, none⟩ = some (.string ⟨S.toArray⟩) := by rw [hc1 _ _ (by simp)]; simp
  have hcL : w1.cell? ⟨w.heap.size, 2, none⟩ = some (.string ⟨L.toArray⟩) := by rw [hc1 _ _ (by simp)]; simp
  clear hc1 hf1
  have hq := quoteL_len S
  have hm := markL_len L
  go_region_with (first
    | (go_at_call 176; refine (quote_any S _ (by omega)).mono ?_; rintro e w2 ⟨rfl, hb2⟩
       have hcS2 : w2.cell? ⟨w.heap.size, 1, none⟩ = some (.string ⟨S.toArray⟩) := (hb2.cell (p := ⟨w.heap.size, 1, none⟩) hz).trans hcS
       have hcL2 : w2.cell? ⟨w.heap.size, 2, none⟩ = some (.string ⟨L.toArray⟩) := (hb2.cell (p := ⟨w.heap.size, 2, none⟩) hz).trans hcL)
    | (go_at_call 177; refine (langMark_any L _ (by omega)).mono ?_; rintro e w3 ⟨rfl, rfl⟩))
  all_goals
    go_wp2
    go_ret2
    exact ⟨ret_two (by rw [fin.out, ← str_app]; rfl) rfl, bstep (bstep (balloc _ _) hb1) (bdrew hb2)⟩

theorem Print_good (k : Int) (S L : List UInt8) (w : World) (h : checkN k S L = 0) :
    Calls Tryz.prog 143 #[.agg #[.int .i64 k, .string ⟨S.toArray⟩, .string ⟨L.toArray⟩]] w fun e w' => e = .returned (.tuple #[.string ⟨(showL k S L).toArray⟩, .nilIface]) ∧ Below w.heap.size w w' := by
  obtain ⟨hk, hS, hsp⟩ := check_zero h
  have hL := spell_lang hsp
  have hs : S.length ≤ maxLen := by unfold maxLen; omega
  have hl : L.length ≤ maxLen := by unfold maxLen; omega
  have He : Hid (errV (checkN k S L) = .nilIface) := by show _ = _; rw [h]; rfl
  clear h hsp
  rcases hk with rfl | rfl | rfl
  · have fin : Hid (showL 1 S L = S) := rfl
    go_enter Tryz.func143, Tryz.ntmps143
    go_wp2_with fail
    refine (Check_any 1 S L _ hs hl).mono ?_
    rintro e w1 ⟨rfl, hb1⟩
    obtain ⟨hc1, hf1⟩ := bcell hb1
    rw [He.out]
    go_wp2_with fail
    refine (Clone_any S _ (by omega)).mono ?_
    rintro e w2 ⟨rfl, hb2⟩
    go_wp2_with fail
    go_ret2
    exact ⟨ret_two (by rw [fin.out]; rfl) rfl, bstep (bstep (balloc _ _) hb1) hb2⟩
  · have fin : Hid (showL 2 S L = 95 :: S) := rfl
    go_enter Tryz.func143, Tryz.ntmps143
    go_wp2_with fail
    refine (Check_any 2 S L _ hs hl).mono ?_
    rintro e w1 ⟨rfl, hb1⟩
    obtain ⟨hc1, hf1⟩ := bcell hb1
    rw [He.out]
    go_wp2_with fail
    go_ret2
    exact ⟨ret_two (by rw [fin.out, ← str_app2 95 S]; rfl) rfl, bstep (balloc _ _) hb1⟩
  · exact Print_text S L w hS hL He

end Go.Proofs.YtaddfndohoppeaaGreat

/- (*strings.Builder).WriteString; strings.Join of three texts. -/
namespace Go.Proofs.YtaddfndohoppeaaGreat
open Go Go.RowKit Go.Proofs

set_option maxHeartbeats 1000000 in
set_option maxRecDepth 100000 in
theorem WriteString_any (B b : Nat) (bs l : List UInt8) (w : World) (h : Lib.IsBuilder 138 5 B b (Lib.byteCells bs) w) (hlen : bs.length + l.length ≤ 140737488355328) (hBw : B ≤ w.heap.size) :
    Calls Tryz.prog 66 #[.pointer (some ⟨b, 0, none⟩), .string ⟨l.toArray⟩] w fun e w' => (∃ v, e = .returned v) ∧ (Lib.BuilderAt 138 5 B b (.pointer (some ⟨b, 0, none⟩)) (Lib.byteCells (bs ++ l)) w' ∧ Below B w w') := by
  obtain ⟨i0, hi, hz⟩ := Option.map_eq_some_iff.1 infoByte
  simp only [Prod.mk.injEq] at hz
  obtain ⟨hz0, hz1, hz2⟩ := hz
  have hbl : (Lib.byteCells bs).length = bs.length := by simp [Lib.byteCells]
  go_enter Tryz.func66, Tryz.ntmps66
  go_wp2_with (go_at_call 100; refine (copyCheck_any B b (Lib.byteCells bs) _ h).mono ?_)
  rintro e w1 ⟨rfl, h1, hb1⟩
  obtain ⟨hB, v, hbk, hown, hne⟩ := h1
  have c0 : w1.cell? ⟨b, 0, none⟩ = some (.pointer (some ⟨b, 0, none⟩)) := by rw [Lib.cell_of_heap hbk]; rfl
  have c1 : w1.cell? ⟨b, 1, none⟩ = some v := by rw [Lib.cell_of_heap hbk]; rfl
  go_wp2_with (at_builtin; refine Lib.wpList_append_own_string _ rfl _ _ 136 9 rfl B 5 i0 Tryz.underlying136 Tryz.underlying9 hi hz0 hz1 hz2 _ _ _ rfl hown ⟨l.toArray⟩ rfl ?c3 ?c4 ?c5 ?_)
  case c3 => unfold maxLen; simp [ByteArray.size]; omega
  case c4 => simp [ByteArray.size]; omega
  case c5 => have := hb1.size; omega
  intro v' w2 hown' hgrow _
  have hlt : b < w1.heap.size := by
    rcases Nat.lt_or_ge b w1.heap.size with h' | h'
    · exact h'
    · simp [Array.getElem?_eq_none h'] at hbk
  have hb2 : w2.heap[b]? = some (.cells #[.pointer (some ⟨b, 0, none⟩), v] 138 (0, 0)) := by
    rw [hgrow.block b hlt (fun e => hne e.symm)]
    exact hbk
  have d0 : w2.cell? ⟨b, 0, none⟩ = some (.pointer (some ⟨b, 0, none⟩)) := by rw [Lib.cell_of_heap hb2]; rfl
  have d1 : w2.cell? ⟨b, 1, none⟩ = some v := by rw [Lib.cell_of_heap hb2]; rfl
  have f1 : w2.frozen? ⟨b, 1, none⟩ = false := Lib.frozen_of_heap hb2 1
  obtain ⟨ao, n', cap, rfl⟩ : ∃ ao n' cap, v' = .slice ao n' cap := by
    rcases hown'.2 with ⟨hv, _⟩ | ⟨g, cap, cur, hv, _⟩
    · exact ⟨_, _, _, hv⟩
    · exact ⟨_, _, _, hv⟩
  have hcat : Lib.byteCells bs ++ Lib.strCells ⟨l.toArray⟩ = Lib.byteCells (bs ++ l) := by simp [Lib.byteCells, Lib.strCells]
  rw [hcat] at hown'
  go_wp2
  refine bodyPost_ret (v := .tuple #[.int .i64 l.length, .nilIface]) (by simp [results, Tryz.results66, go_sem]) rfl ⟨⟨_, rfl⟩, ?_, ?_⟩
  · exact Lib.BuilderAt.put (T := 138) (e := 5) hB hb2 (bs' := Lib.byteCells (bs ++ l)) (by simpa [Lib.byteCells, ByteArray.size] using hown') neBuilder
  · exact (hb1.grown hgrow (by have := hb1.size; omega) (fun k hk => (hown.lt k hk).1)).setCell (p := ⟨b, 1, none⟩) hB _

theorem Grow_any (b n : Nat) (N : Int) (w : World) (hN : N = (n : Int)) (hbk : w.heap[b]? = some (.cells #[.pointer none, .slice none 0 0] 138 (0, 0))) (hBw : b ≤ w.heap.size) (hn : n ≤ 281474976710656) :
    Calls Tryz.prog 178 #[.pointer (some ⟨b, 0, none⟩), .int .i64 N] w fun e w' => e = .returned (.tuple #[]) ∧ (Lib.BuilderAt 138 5 b b (.pointer (some ⟨b, 0, none⟩)) [] w' ∧ Below b w w') := by
  subst hN
  exact Tryz.Builder_Grow_fresh b b n w (Nat.le_refl _) hbk hBw hn

/-- how long what was counted is -/
def lenUpto (x y z : List UInt8) (k : Nat) : Nat := 2 + (if 0 < k then x.length else 0) + (if 1 < k then y.length else 0) + (if 2 < k then z.length else 0)
/-- what was written -/
def joinUpto (x y z : List UInt8) (k : Nat) : List UInt8 := x ++ (if 0 < k then 32 :: y else []) ++ (if 1 < k then 32 :: z else [])

set_option maxHeartbeats 4000000 in
set_option maxRecDepth 100000 in
theorem Join_any (c : Nat) (x y z : List UInt8) (w : World) (hx : x.length ≤ 1000) (hy : y.length ≤ 1000) (hz : z.length ≤ 1000)
    (h0 : w.cell? ⟨c, 0, none⟩ = some (.string ⟨x.toArray⟩)) (h1 : w.cell? ⟨c, 1, none⟩ = some (.string ⟨y.toArray⟩)) (h2 : w.cell? ⟨c, 2, none⟩ = some (.string ⟨z.toArray⟩)) :
    Calls Tryz.prog 144 #[.slice (some ⟨c, 0, none⟩) 3 3, .string ⟨#[32]⟩] w fun e w' => e = .returned (.string ⟨(joinUpto x y z 2).toArray⟩) ∧ Below w.heap.size w w' := by
  go_enter Tryz.func144, Tryz.ntmps144
  go_wp2
  go_loop [5, 41] (fun n i => ∃ (k : Nat) (N : Int), k ≤ 3 ∧ i = .int .i64 k ∧ n = .int .i64 N ∧ 0 ≤ N ∧ N ≤ 10000 ∧ Hid (N = (lenUpto x y z k : Int))) (fun _ i => 3 - (intOf i).toNat)
  case atStart => exact ⟨0, 2, by omega, rfl, rfl, by omega, by omega, rfl⟩
  case round =>
    obtain ⟨k, N, hk, rfl, rfl, hN0, hN1, hN⟩ := hrel
    have hw1 : IntKind.i64.wrap (9223372036854775807 - N) = 9223372036854775807 - N := by simp [IntKind.wrap, IntKind.bits, IntKind.signed]; omega
    rcases (by omega : k = 0 ∨ k = 1 ∨ k = 2 ∨ k = 3) with rfl | rfl | rfl | rfl
    · have hs : IntKind.i64.wrap (N + (x.length : Int)) = N + (x.length : Int) := by simp [IntKind.wrap, IntKind.bits, IntKind.signed]; omega
      have hd : decide ((x.length : Int) > 9223372036854775807 - N) = false := by simp; omega
      go_wp2
      exact ⟨⟨1, N + x.length, by omega, by go_num, rfl, by omega, by have := hN.out; simp [lenUpto] at this; omega, by have := hN.out; simp [Hid, lenUpto] at this ⊢; omega⟩, by simp [intOf]⟩
    · have hs : IntKind.i64.wrap (N + (y.length : Int)) = N + (y.length : Int) := by simp [IntKind.wrap, IntKind.bits, IntKind.signed]; omega
      have hd : decide ((y.length : Int) > 9223372036854775807 - N) = false := by simp; omega
      go_wp2
      exact ⟨⟨2, N + y.length, by omega, by go_num, rfl, by omega, by have := hN.out; simp [lenUpto] at this; omega, by have := hN.out; simp [Hid, lenUpto] at this ⊢; omega⟩, by simp [intOf]⟩
    · have hs : IntKind.i64.wrap (N + (z.length : Int)) = N + (z.length : Int) := by simp [IntKind.wrap, IntKind.bits, IntKind.signed]; omega
      have hd : decide ((z.length : Int) > 9223372036854775807 - N) = false := by simp; omega
      go_wp2
      exact ⟨⟨3, N + z.length, by omega, by go_num, rfl, by omega, by have := hN.out; simp [lenUpto] at this; omega, by have := hN.out; simp [Hid, lenUpto] at this ⊢; omega⟩, by simp [intOf]⟩
    · clear hw1
      go_wp2_with fail
      refine (Grow_any w.heap.size (lenUpto x y z 3) N _ hN.out (heap_alloc_new w _) (by simp) (by have : lenUpto x y z 3 = 2 + x.length + y.length + z.length := rfl; omega)).mono ?_
      rintro e w1 ⟨rfl, hI1, hb1⟩
      have hbw : Below w.heap.size w w1 := (balloc w _).trans hb1
      have hB1 := hbw.size
      obtain ⟨kc, _⟩ := bcell hbw
      have g0 := hbw.cell (World.block_lt_of_cell? w _ h0) |>.trans h0
      have g1 := hbw.cell (World.block_lt_of_cell? w _ h1) |>.trans h1
      have g2 := hbw.cell (World.block_lt_of_cell? w _ h2) |>.trans h2
      clear hb1 kc
      go_wp2_with fail
      refine (WriteString_any w.heap.size w.heap.size [] x _ (Or.inr hI1) (by simp; omega) hB1).mono ?_
      rintro e w2 ⟨⟨v, rfl⟩, hI2, hb2⟩
      have hbw2 := hbw.trans hb2
      clear hb2 hI1 hbw g0 g1 g2 hB1
      go_wp2_with fail
      go_loopw [65] (fun i wr => ∃ k : Nat, k ≤ 2 ∧ i = .int .i64 k ∧ Lib.IsBuilder 138 5 w.heap.size w.heap.size (Lib.byteCells (joinUpto x y z k)) wr ∧ Below w.heap.size w wr) (fun i wr => 2 - (intOf i).toNat)
      case atStart => exact ⟨0, by omega, rfl, Or.inr (by simpa [joinUpto] using hI2), hbw2⟩
      case round =>
        obtain ⟨k, hk, rfl, hI, hbr⟩ := hrel
        have hB := hbr.size
        have g1 := hbr.cell (World.block_lt_of_cell? w _ h1) |>.trans h1
        have g2 := hbr.cell (World.block_lt_of_cell? w _ h2) |>.trans h2
        rcases (by omega : k = 0 ∨ k = 1 ∨ k = 2) with rfl | rfl | rfl
        · go_wp2_with fail
          refine (WriteString_any w.heap.size w.heap.size _ [32] _ hI (by simp [joinUpto]; omega) hB).mono ?_
          rintro e w3 ⟨⟨v, rfl⟩, hI3, hb3⟩
          have hbr3 := hbr.trans hb3
          have hB3 := hbr3.size
          go_wp2_with fail
          refine (WriteString_any w.heap.size w.heap.size _ y _ (Or.inr hI3) (by simp [joinUpto]; omega) hB3).mono ?_
          rintro e w4 ⟨⟨v, rfl⟩, hI4, hb4⟩
          go_wp2_with fail
          exact ⟨⟨1, by omega, by go_num, Or.inr (by simpa [joinUpto] using hI4), hbr3.trans hb4⟩, by simp [intOf]⟩
        · go_wp2_with fail
          refine (WriteString_any w.heap.size w.heap.size _ [32] _ hI (by simp [joinUpto]; omega) hB).mono ?_
          rintro e w3 ⟨⟨v, rfl⟩, hI3, hb3⟩
          have hbr3 := hbr.trans hb3
          have hB3 := hbr3.size
          go_wp2_with fail
          refine (WriteString_any w.heap.size w.heap.size _ z _ (Or.inr hI3) (by simp [joinUpto]; omega) hB3).mono ?_
          rintro e w4 ⟨⟨v, rfl⟩, hI4, hb4⟩
          go_wp2_with fail
          exact ⟨⟨2, by omega, by go_num, Or.inr (by simpa [joinUpto] using hI4), hbr3.trans hb4⟩, by simp [intOf]⟩
        · go_wp2_with fail
          refine (Tryz.Builder_String_any w.heap.size w.heap.size (joinUpto x y z 2) _ hI hB).mono ?_
          rintro e w3 ⟨rfl, hb3⟩
          go_wp2_with fail
          go_ret
          exact ⟨rfl, hbr.trans hb3⟩
end Go.Proofs.YtaddfndohoppeaaGreat

/- triple.Print: the three, a blank between. -/
namespace Go.Proofs.YtaddfndohoppeaaGreat
open Go Go.RowKit Go.Proofs
set_option synthInstance.maxSize 1000

attribute [local go_sem] eql_errV neq_errV guard_errV

theorem show_short (k : Int) (S L : List UInt8) (h : checkN k S L = 0) : (showL k S L).length ≤ 1000 := by
  obtain ⟨_, hS, hsp⟩ := check_zero h
  have hL := spell_lang hsp
  have h1 := quoteL_len S
  have h2 := markL_len L
  unfold showL
  repeat' split
  all_goals (simp; try omega)

theorem mk3 (w : World) : (Instr.makeSlice 59 (.int .i64 3) (.int .i64 3)).run Tryz.prog w = .ok (.slice (some ⟨w.heap.size, 0, none⟩) 3 3) (w.alloc (.cells #[.string ⟨#[]⟩, .string ⟨#[]⟩, .string ⟨#[]⟩] 9)) := by kernel_rfl
attribute [local go_sem] mk3

set_option maxHeartbeats 4000000 in
set_option maxRecDepth 100000 in
theorem printTerms_any (c : Nat) (k1 : Int) (S1 L1 : List UInt8) (k2 : Int) (S2 L2 : List UInt8) (k3 : Int) (S3 L3 : List UInt8) (w : World) (h1 : checkN k1 S1 L1 = 0) (h2 : checkN k2 S2 L2 = 0) (h3 : checkN k3 S3 L3 = 0)
    (a0 : w.cell? ⟨c, 0, none⟩ = some (.int .i64 k1)) (a1 : w.cell? ⟨c, 1, none⟩ = some (.string ⟨S1.toArray⟩)) (a2 : w.cell? ⟨c, 2, none⟩ = some (.string ⟨L1.toArray⟩))
    (b0 : w.cell? ⟨c, 3, none⟩ = some (.int .i64 k2)) (b1 : w.cell? ⟨c, 4, none⟩ = some (.string ⟨S2.toArray⟩)) (b2 : w.cell? ⟨c, 5, none⟩ = some (.string ⟨L2.toArray⟩))
    (d0 : w.cell? ⟨c, 6, none⟩ = some (.int .i64 k3)) (d1 : w.cell? ⟨c, 7, none⟩ = some (.string ⟨S3.toArray⟩)) (d2 : w.cell? ⟨c, 8, none⟩ = some (.string ⟨L3.toArray⟩)) :
    Calls Tryz.prog 99 #[.slice (some ⟨c, 0, none⟩) 3 3] w fun e w' => e = .returned (.tuple #[.string ⟨(joinUpto (showL k1 S1 L1) (showL k2 S2 L2) (showL k3 S3 L3) 2).toArray⟩, .nilIface]) ∧ Below w.heap.size w w' := by
  have P1 := fun W => Print_good k1 S1 L1 W h1
  have P2 := fun W => Print_good k2 S2 L2 W h2
  have P3 := fun W => Print_good k3 S3 L3 W h3
  have l1 := show_short k1 S1 L1 h1
  have l2 := show_short k2 S2 L2 h2
  have l3 := show_short k3 S3 L3 h3
  generalize showL k1 S1 L1 = x at P1 l1 ⊢
  generalize showL k2 S2 L2 = y at P2 l2 ⊢
  generalize showL k3 S3 L3 = z at P3 l3 ⊢
  have KC : Hid (∀ W, Below w.heap.size w W → (W.cell? ⟨c, 0, none⟩ = some (.int .i64 k1) ∧ W.cell? ⟨c, 1, none⟩ = some (.string ⟨S1.toArray⟩) ∧ W.cell? ⟨c, 2, none⟩ = some (.string ⟨L1.toArray⟩) ∧ W.cell? ⟨c, 3, none⟩ = some (.int .i64 k2) ∧ W.cell? ⟨c, 4, none⟩ = some (.string ⟨S2.toArray⟩) ∧ W.cell? ⟨c, 5, none⟩ = some (.string ⟨L2.toArray⟩) ∧ W.cell? ⟨c, 6, none⟩ = some (.int .i64 k3) ∧ W.cell? ⟨c, 7, none⟩ = some (.string ⟨S3.toArray⟩) ∧ W.cell? ⟨c, 8, none⟩ = some (.string ⟨L3.toArray⟩)) ∧ c < w.heap.size) := by
    intro W hb
    have q : ∀ (p : Addr) (v : Value), w.cell? p = some v → W.cell? p = some v := fun p v hv => (hb.cell (World.block_lt_of_cell? w p hv)).trans hv
    exact ⟨⟨q _ _ a0, q _ _ a1, q _ _ a2, q _ _ b0, q _ _ b1, q _ _ b2, q _ _ d0, q _ _ d1, q _ _ d2⟩, World.block_lt_of_cell? w _ a0⟩
  clear a0 a1 a2 b0 b1 b2 d0 d1 d2 h1 h2 h3
  go_enter Tryz.func99, Tryz.ntmps99
  go_wp2_with fail
  go_loopw [14] (fun i wr => ∃ k : Nat, k ≤ 3 ∧ i = .int .i64 k ∧ wr.cell? ⟨w.heap.size, 0, none⟩ = some (.string ⟨(if 0 < k then x else []).toArray⟩) ∧ wr.cell? ⟨w.heap.size, 1, none⟩ = some (.string ⟨(if 1 < k then y else []).toArray⟩) ∧ wr.cell? ⟨w.heap.size, 2, none⟩ = some (.string ⟨(if 2 < k then z else []).toArray⟩)
      ∧ wr.frozen? ⟨w.heap.size, 0, none⟩ = false ∧ wr.frozen? ⟨w.heap.size, 1, none⟩ = false ∧ wr.frozen? ⟨w.heap.size, 2, none⟩ = false ∧ w.heap.size < wr.heap.size ∧ Below w.heap.size w wr) (fun i wr => 3 - (intOf i).toNat)
  case atStart => exact ⟨0, by omega, rfl, by go_simp, by go_simp, by go_simp, by go_simp, by go_simp, by go_simp, by simp, balloc _ _⟩
  case round =>
    obtain ⟨k, hk, rfl, e0, e1, e2, f0, f1, f2, hz, hbr⟩ := hrel
    obtain ⟨⟨a0, a1, a2, b0, b1, b2, d0, d1, d2⟩, hc⟩ := KC.out wr hbr
    have hne : c ≠ w.heap.size := by omega
    rcases (by omega : k = 0 ∨ k = 1 ∨ k = 2 ∨ k = 3) with rfl | rfl | rfl | rfl
    · replace e0 : wr.cell? ⟨w.heap.size, 0, none⟩ = some (.string ⟨(([] : List UInt8)).toArray⟩) := e0
      replace e1 : wr.cell? ⟨w.heap.size, 1, none⟩ = some (.string ⟨(([] : List UInt8)).toArray⟩) := e1
      replace e2 : wr.cell? ⟨w.heap.size, 2, none⟩ = some (.string ⟨(([] : List UInt8)).toArray⟩) := e2
      go_wp2_with fail
      refine (P1 _).mono ?_
      rintro e w1 ⟨rfl, hb1⟩
      have hB := bstep (balloc _ _) hb1
      obtain ⟨kc, kf⟩ := bcell hB
      have g0 := (kc _ 0 hz).trans e0
      have g1 := (kc _ 1 hz).trans e1
      have g2 := (kc _ 2 hz).trans e2
      have m0 := (kf _ 0 hz).trans f0
      have m1 := (kf _ 1 hz).trans f1
      have m2 := (kf _ 2 hz).trans f2
      have hz1 : w.heap.size < w1.heap.size := by have := hB.size; omega
      clear kc kf
      go_wp2_with fail
      exact ⟨⟨1, by omega, by go_num, by go_simp, by go_simp, by go_simp, by go_simp, by go_simp, by go_simp, by simpa using hz1, (bstep hbr hB).setCell (p := ⟨w.heap.size, 0, none⟩) (Nat.le_refl _) _⟩, by simp [intOf]⟩
    · replace e0 : wr.cell? ⟨w.heap.size, 0, none⟩ = some (.string ⟨(x).toArray⟩) := e0
      replace e1 : wr.cell? ⟨w.heap.size, 1, none⟩ = some (.string ⟨(([] : List UInt8)).toArray⟩) := e1
      replace e2 : wr.cell? ⟨w.heap.size, 2, none⟩ = some (.string ⟨(([] : List UInt8)).toArray⟩) := e2
      go_wp2_with fail
      refine (P2 _).mono ?_
      rintro e w1 ⟨rfl, hb1⟩
      have hB := bstep (balloc _ _) hb1
      obtain ⟨kc, kf⟩ := bcell hB
      have g0 := (kc _ 0 hz).trans e0
      have g1 := (kc _ 1 hz).trans e1
      have g2 := (kc _ 2 hz).trans e2
      have m0 := (kf _ 0 hz).trans f0
      have m1 := (kf _ 1 hz).trans f1
      have m2 := (kf _ 2 hz).trans f2
      have hz1 : w.heap.size < w1.heap.size := by have := hB.size; omega
      clear kc kf
      go_wp2_with fail
      exact ⟨⟨2, by omega, by go_num, by go_simp, by go_simp, by go_simp, by go_simp, by go_simp, by go_simp, by simpa using hz1, (bstep hbr hB).setCell (p := ⟨w.heap.size, 1, none⟩) (Nat.le_refl _) _⟩, by simp [intOf]⟩
    · replace e0 : wr.cell? ⟨w.heap.size, 0, none⟩ = some (.string ⟨(x).toArray⟩) := e0
      replace e1 : wr.cell? ⟨w.heap.size, 1, none⟩ = some (.string ⟨(y).toArray⟩) := e1
      replace e2 : wr.cell? ⟨w.heap.size, 2, none⟩ = some (.string ⟨(([] : List UInt8)).toArray⟩) := e2
      go_wp2_with fail
      refine (P3 _).mono ?_
      rintro e w1 ⟨rfl, hb1⟩
      have hB := bstep (balloc _ _) hb1
      obtain ⟨kc, kf⟩ := bcell hB
      have g0 := (kc _ 0 hz).trans e0
      have g1 := (kc _ 1 hz).trans e1
      have g2 := (kc _ 2 hz).trans e2
      have m0 := (kf _ 0 hz).trans f0
      have m1 := (kf _ 1 hz).trans f1
      have m2 := (kf _ 2 hz).trans f2
      have hz1 : w.heap.size < w1.heap.size := by have := hB.size; omega
      clear kc kf
      go_wp2_with fail
      exact ⟨⟨3, by omega, by go_num, by go_simp, by go_simp, by go_simp, by go_simp, by go_simp, by go_simp, by simpa using hz1, (bstep hbr hB).setCell (p := ⟨w.heap.size, 2, none⟩) (Nat.le_refl _) _⟩, by simp [intOf]⟩
    · replace e0 : wr.cell? ⟨w.heap.size, 0, none⟩ = some (.string ⟨(x).toArray⟩) := e0
      replace e1 : wr.cell? ⟨w.heap.size, 1, none⟩ = some (.string ⟨(y).toArray⟩) := e1
      replace e2 : wr.cell? ⟨w.heap.size, 2, none⟩ = some (.string ⟨(z).toArray⟩) := e2
      have HJ := fun W (hb : Below wr.heap.size wr W) => Join_any w.heap.size x y z W l1 l2 l3 ((hb.cell hz).trans e0) ((hb.cell hz).trans e1) ((hb.cell hz).trans e2)
      go_wp2_with fail
      refine (HJ _ (Below.refl _ _)).mono ?_
      rintro e w1 ⟨rfl, hb1⟩
      go_wp2_with fail
      exact bodyPost_ret (v := .tuple #[.string ⟨(joinUpto x y z 2).toArray⟩, .nilIface]) (by simp [results, Tryz.results99, go_sem]) rfl ⟨rfl, bstep hbr hb1⟩

/-- a triple as text -/
def showTr (x : Tr) : List UInt8 := joinUpto (showL x.1.1 x.1.2.1 x.1.2.2) (showL x.2.1.1 x.2.1.2.1 x.2.1.2.2) (showL x.2.2.1 x.2.2.2.1 x.2.2.2.2) 2
set_option maxHeartbeats 1000000 in
theorem TPrint_good (x : Tr) (w : World) (hx : fitTr x) (h : chkTr x = 0) : Calls Tryz.prog 65 #[valTr x] w fun e w' => e = .returned (.tuple #[.string ⟨(showTr x).toArray⟩, .nilIface]) ∧ Below w.heap.size w w' := by
  have H := fun W => ChkTr_any x W hx
  rw [h, show errV 0 = .nilIface from rfl] at H
  obtain ⟨h1, h2, h3, _⟩ := chk_zero h
  have HP := fun c W => printTerms_any c x.1.1 x.1.2.1 x.1.2.2 x.2.1.1 x.2.1.2.1 x.2.1.2.2 x.2.2.1 x.2.2.2.1 x.2.2.2.2 W h1 h2 h3
  clear h h1 h2 h3 hx
  have fin : Hid (showTr x = joinUpto (showL x.1.1 x.1.2.1 x.1.2.2) (showL x.2.1.1 x.2.1.2.1 x.2.1.2.2) (showL x.2.2.1 x.2.2.2.1 x.2.2.2.2) 2) := rfl
  unfold valTr at *
  go_enter Tryz.func65, Tryz.ntmps65
  go_wp2_with fail
  refine (H _).mono ?_
  rintro e w1 ⟨rfl, hb1⟩
  obtain ⟨a0, a1, a2, b0, b1, b2, d0, d1, d2, hz⟩ := ninebox hb1
  go_wp2_with fail
  refine (HP w1.heap.size _ (by go_simp) (by go_simp) (by go_simp) (by go_simp) (by go_simp) (by go_simp) (by go_simp) (by go_simp) (by go_simp)).mono ?_
  rintro e w2 ⟨rfl, hb2⟩
  go_wp2_with fail
  exact bodyPost_ret (v := .tuple #[.string ⟨(showTr x).toArray⟩, .nilIface]) (by rw [fin.out]; simp [results, Tryz.results65, go_sem]) rfl ⟨rfl, bstep (bstep (bstep (balloc _ _) hb1) (balloc _ _)) hb2⟩
end Go.Proofs.YtaddfndohoppeaaGreat
