import Derived.Test.YtaddfndohoppeaaGreatMDx2
import Derived.Test.YtaddfndohoppeaaGreatMDx1
import Derived.Test.YtaddfndohoppeaaGreatMA0x0
import Derived.Test.YtaddfndohoppeaaGreatMA0x1
import Derived.Laws.Cover1
import Derived.Deep.Draws
import Derived.RegionTactic
import Derived.Test.YtaddfndohoppeaaGreatRows
import Derived.WalkKit
import Derived.Maps.AppendAt
import Derived.OwnWalk

/- solve.meet: answers that agree, made one. -/
namespace Go.Proofs.YtaddfndohoppeaaGreat
open Go Go.RowKit Go.Proofs Go.Maps
set_option synthInstance.maxSize 1000

/-- those of a list of answers that have one's key, each made one with it -/
def meetOne (sh : List (List UInt8)) (Lb : List Ev) (f : Ev) : List Ev := (atK (Lb.map (keyT sh)) (keyT sh f) Lb.length).map fun j => bothE f (Lb.getD j noneE)
def meetE (sh : List (List UInt8)) (La Lb : List Ev) : List Ev := La.flatMap (meetOne sh Lb)
def headEv (L : List Ev) : Ev := L.headD noneE
/-- the variables that the first two share -/
def SharedE (La Lb : List Ev) (sh : List (List UInt8)) : Prop := sh.Nodup ∧ (∀ v ∈ sh, v.length ≤ maxLen) ∧ ∀ v : List UInt8, v.length ≤ maxLen → (v ∈ sh ↔ (headEv Lb v).isSome = true ∧ (headEv La v).isSome = true)
def MeetAns (La Lb : List Ev) (N : Nat) (w : World) (e : Ending) (w' : World) : Prop := RowKit.Below w.heap.size w w' ∧ ∃ sh ad c L, SharedE La Lb sh ∧ L = (meetE sh La Lb).take 501 ∧ e = .returned (.slice ad L.length c) ∧ SlE w' ad N L ∧ TyE w' ad
/-- all terms that an answer gives may be keys -/
def WfE (f : Ev) : Prop := ∀ v x, f v = some x → wfK x
theorem wfK_zero : wfK tmZero := ⟨by decide, by simp [tmZero], by simp [tmZero]⟩
theorem WfE.nth {f : Ev} (h : WfE f) (sh : List (List UInt8)) (i : Nat) : wfK (nthE sh f i) := by
  unfold nthE
  split
  · rename_i v _
    cases hv : f v with
    | none => exact wfK_zero
    | some x => exact h v x hv
  · exact wfK_zero
theorem WfE.key {f : Ev} (h : WfE f) (sh : List (List UInt8)) : wf3 (keyT sh f) := ⟨h.nth sh 0, h.nth sh 1, h.nth sh 2⟩
theorem meet_none_b (sh : List (List UInt8)) (La : List Ev) : meetE sh La [] = [] := by
  unfold meetE
  rw [List.flatMap_eq_nil_iff]
  intro f _
  simp [meetOne, atK]
theorem enters156 : ∀ args w, (callFunc 156 args).run Tryz.prog w = .ok (.enter 156 args) w := enters_of Tryz.func156 (by kernel_rfl) rfl
theorem few_le : ∀ (l m : List (List UInt8)), l.Nodup → (∀ v ∈ l, v ∈ m) → l.length ≤ m.length
  | [], _, _, _ => by simp
  | x :: l, m, hn, hs => by
    obtain ⟨h1, h2⟩ := List.nodup_cons.1 hn
    have hx : x ∈ m := hs x (by simp)
    have h3 := few_le l (m.erase x) h2 (fun v hv => (List.mem_erase_of_ne (fun (e : v = x) => h1 (e ▸ hv))).2 (hs v (by simp [hv])))
    rw [List.length_erase_of_mem hx] at h3
    have := List.length_pos_of_mem hx
    simp
    omega
theorem shared_few {sh V : List (List UInt8)} (hn : sh.Nodup) (hV : ∀ v ∈ sh, v ∈ V) (h3 : V.length ≤ 3) : sh.length ≤ 3 := Nat.le_trans (few_le _ _ hn hV) h3
theorem meet_next {sh : List (List UInt8)} {La Lb : List Ev} {k : Nat} (h : k < La.length) : meetE sh (La.take (k + 1)) Lb = meetE sh (La.take k) Lb ++ meetOne sh Lb La[k] := by
  unfold meetE
  rw [List.take_succ_eq_append_getElem h, List.flatMap_append]
  simp
theorem one_len (sh : List (List UInt8)) (Lb : List Ev) (f : Ev) : (meetOne sh Lb f).length = (atK (Lb.map (keyT sh)) (keyT sh f) Lb.length).length := by simp [meetOne]
theorem meet_prefix {sh : List (List UInt8)} {La Lb : List Ev} {k : Nat} (h : k < La.length) (j : Nat) : ∃ r, meetE sh La Lb = (meetE sh (La.take k) Lb ++ (meetOne sh Lb La[k]).take j) ++ r := by
  refine ⟨(meetOne sh Lb La[k]).drop j ++ meetE sh (La.drop (k + 1)) Lb, ?_⟩
  have e : La = La.take k ++ La[k] :: La.drop (k + 1) := by rw [← List.drop_eq_getElem_cons h, List.take_append_drop]
  have e2 : meetE sh La Lb = meetE sh (La.take k) Lb ++ (meetOne sh Lb La[k] ++ meetE sh (La.drop (k + 1)) Lb) := by
    conv => lhs; rw [e]
    unfold meetE
    rw [List.flatMap_append, List.flatMap_cons]
  rw [e2, List.append_assoc, ← List.append_assoc (List.take j _), List.take_append_drop]
theorem SlE.list {w : World} {b o n : Nat} {L : List Ev} (h : SlE w (some ⟨b, o, none⟩) n L) : ∃ bs : List Nat, bs.length = L.length ∧ ∀ j (hj : j < L.length), w.cell? ⟨b, o + j, none⟩ = some (.map (some (bs.getD j 0))) ∧ EvAt w (bs.getD j 0) n L[j] := by
  have hx : ∀ j : Fin L.length, ∃ bm, w.cell? ⟨b, o + j.val, none⟩ = some (.map (some bm)) ∧ EvAt w bm n L[j.val] := fun j => by
    obtain ⟨b', o', bm, e, c, s⟩ := h.at j.val j.isLt
    simp at e
    obtain ⟨rfl, rfl⟩ := e
    exact ⟨bm, c, s⟩
  refine ⟨List.ofFn fun j => Classical.choose (hx j), by simp, fun j hj => ?_⟩
  have e : (List.ofFn fun j => Classical.choose (hx j)).getD j 0 = Classical.choose (hx ⟨j, hj⟩) := by
    rw [List.getD_eq_getElem?_getD, List.getElem?_ofFn, dif_pos hj]
    rfl
  rw [e]
  exact Classical.choose_spec (hx ⟨j, hj⟩)
theorem atK_lt {keys : List Tr} {k : Tr} {n i : Nat} (h : i ∈ atK keys k n) : i < n := by
  simp [atK] at h
  exact h.1
theorem own_cell {W : World} {base e n c i : Nat} {ad : Option Addr} {xs : List Value} {u : Value} (h : W.ownsRow base e 1 (.slice ad n c) n xs) (hi : i < n) (hx : xs[i]? = some u) : ∃ gb, ad = some ⟨gb, 0, none⟩ ∧ W.cell? ⟨gb, i, none⟩ = some u := by
  rcases h.2 with ⟨hv, h0⟩ | ⟨g, cap, cur, hv, _⟩
  · omega
  · simp at hv
    obtain ⟨rfl, rfl⟩ := hv
    refine ⟨g, rfl, ?_⟩
    rw [h.cellAt i (by omega)]
    exact hx
theorem makeGrp (w : World) : (Instr.makeMap 185 none).run Tryz.prog w = .ok (.map (some w.heap.size)) (w.alloc (.map #[] 0)) := by kernel_rfl
theorem valTr_agg (t : Tr) : valTr t = .agg #[.int .i64 t.1.1, .string ⟨t.1.2.1.toArray⟩, .string ⟨t.1.2.2.toArray⟩, .int .i64 t.2.1.1, .string ⟨t.2.1.2.1.toArray⟩, .string ⟨t.2.1.2.2.toArray⟩, .int .i64 t.2.2.1, .string ⟨t.2.2.2.1.toArray⟩, .string ⟨t.2.2.2.2.toArray⟩] := rfl
set_option maxHeartbeats 8000000 in
set_option maxRecDepth 100000 in
theorem meet_any (aa ab : Option Addr) (ca cb na nb : Nat) (La Lb : List Ev) (V : List (List UInt8)) (w : World) (ha : SlE w aa na La) (hb : SlE w ab nb Lb) (hla : La.length ≤ 500) (hlb : Lb.length ≤ 200) (hna : na ≤ 1000) (hnb : nb ≤ 1000)
    (wa : ∀ f ∈ La, WfE f) (wb : ∀ f ∈ Lb, WfE f) (hV : V.length ≤ 3) (hd : ∀ f ∈ Lb, ∀ v, (f v).isSome = true → v ∈ V) :
    Calls Tryz.prog 72 #[.slice aa La.length ca, .slice ab Lb.length cb] w (MeetAns La Lb (na + nb) w) := by
  by_cases h0 : La.length = 0
  · obtain rfl : La = [] := List.eq_nil_of_length_eq_zero h0
    have hS : Hid (SharedE [] Lb []) := ⟨List.nodup_nil, by simp, fun v _ => by simp [headEv, noneE]⟩
    clear ha hb wa wb hd h0
    go_enter Tryz.func72, Tryz.ntmps72
    go_wp2_with fail
    go_ret
    exact ⟨RowKit.Below.refl _ _, [], none, 0, [], hS.out, rfl, rfl, slE_nil _ _ _, tyE_none _⟩
  · by_cases h1 : Lb.length = 0
    · obtain rfl : Lb = [] := List.eq_nil_of_length_eq_zero h1
      have hS : Hid (SharedE La [] []) := ⟨List.nodup_nil, by simp, fun v _ => by simp [headEv, noneE]⟩
      have hm : Hid (([] : List Ev) = (meetE [] La []).take 501) := by show _ = _; rw [meet_none_b]; rfl
      clear ha hb wa wb hd h1
      generalize La.length = NA at *
      have t0 : ((NA : Int) == 0) = false := by simp; omega
      go_enter Tryz.func72, Tryz.ntmps72
      go_wp2_with fail
      go_ret
      exact ⟨RowKit.Below.refl _ _, [], none, 0, [], hS.out, hm.out, rfl, slE_nil _ _ _, tyE_none _⟩
    · obtain ⟨f0, Ra, hLa0⟩ : ∃ f r, La = f :: r := List.exists_cons_of_length_pos (by omega)
      obtain ⟨g0, Rb, hLb0⟩ : ∃ f r, Lb = f :: r := List.exists_cons_of_length_pos (by omega)
      obtain ⟨pa, oa, bx0, rfl, cx0, ex0⟩ := ha.at 0 (by omega)
      obtain ⟨pb, ob, by0, rfl, cy0, ey0⟩ := hb.at 0 (by omega)
      have ef0 : La[0] = f0 := by simp [hLa0]
      have eg0 : Lb[0] = g0 := by simp [hLb0]
      rw [ef0] at ex0
      rw [eg0] at ey0
      have HK := keyer_any bx0 by0 na nb f0 g0 w.drew ex0 ey0 hnb
      have HA := hideE ha
      have HB := hideE hb
      obtain ⟨Q, hQ⟩ : ∃ Q, Q = MeetAns La Lb (na + nb) w := ⟨_, rfl⟩
      have HQ : Hid (∀ e w', MeetAns La Lb (na + nb) w e w' → Q e w') := fun e w' h => by rw [hQ]; exact h
      rw [← hQ]
      have WA := hideE wa
      have WB := hideE wb
      have HD : Hid (∀ v, (g0 v).isSome = true → v ∈ V) := hd g0 (by rw [hLb0]; simp)
      have Hh : Hid (headEv La = f0 ∧ headEv Lb = g0) := ⟨by rw [hLa0]; rfl, by rw [hLb0]; rfl⟩
      clear ha hb wa wb hd hQ ef0 eg0 hLa0 hLb0 ex0 ey0
      obtain ⟨NA, hNA⟩ : ∃ n, n = La.length := ⟨_, rfl⟩
      obtain ⟨NB, hNB⟩ : ∃ n, n = Lb.length := ⟨_, rfl⟩
      rw [← hNA, ← hNB]
      rw [← hNA] at h0 hla
      rw [← hNB] at h1 hlb
      have HNA := hideE hNA
      have HNB := hideE hNB
      clear hNA hNB
      have t0 : ((NA : Int) == 0) = false := by simp; omega
      have t1 : ((NB : Int) == 0) = false := by simp; omega
      have i0 : 0 < NA := by omega
      have i1 : 0 < NB := by omega
      rw [Nat.add_zero] at cx0 cy0
      go_enter Tryz.func72, Tryz.ntmps72
      go_upto_region 3 with fail
      go_cut [5] from 23 to 29 (fun v W => Hid (KeyerAns f0 g0 w.drew (.returned v) W))
      case first =>
        go_region_law (go_simp; go_at_call 111; refine HK.mono ?_; rintro e w1 ⟨hb1, sh, B, rfl, hk, hn⟩; have HH : Hid (RowKit.Below w.drew.heap.size w.drew w1 ∧ KeyAt w1 B sh ∧ sh.Nodup ∧ (∀ v ∈ sh, v.length ≤ maxLen) ∧ ∀ v : List UInt8, v.length ≤ maxLen → (v ∈ sh ↔ (g0 v).isSome = true ∧ (f0 v).isSome = true)) := ⟨hb1, hk, hn⟩; clear hb1 hk hn)
        all_goals
          go_wp2_with fail
          go_meet
          case rel => exact ⟨HH.out.1, sh, B, rfl, HH.out.2⟩
      case rest =>
        clear HK cx0 cy0 t0 t1 i0 i1
        obtain ⟨hb1, sh, B, hv, hk1, hnd, hsl, hmm⟩ := hcut.out
        obtain rfl := Ending.returned.inj hv
        have hbw : RowKit.Below w.heap.size w wc := (RowKit.Below.refl _ w).drew.trans hb1
        have hsh3 : sh.length ≤ 3 := shared_few hnd (fun v hv => HD.out v ((hmm v (hsl v hv)).1 hv).1) hV
        have HS : Hid (SharedE La Lb sh) := ⟨hnd, hsl, fun v hv => by rw [Hh.out.1, Hh.out.2]; exact hmm v hv⟩
        have Hk1 := hideE hk1
        have Hsl := hideE hsl
        have Hs3 := hideE hsh3
        have HAc := hideE (HA.out.below hbw)
        obtain ⟨bml, hbl, hbc⟩ := (HB.out.below hbw).list
        obtain ⟨aml, hal, hac⟩ := (HA.out.below hbw).list
        have Hbl := hideE hbl
        have Hbc := hideE hbc
        have Hac := hideE hac
        have eg := enters156
        have hmkG := makeGrp
        have hG0 := hideE (GSt.start wc (Lb.map (keyT sh)) bml)
        clear hcut hv hk1 hsl hsh3 hnd hmm hb1 hbl hbc hal hac HA HB Hh HD HAc
        go_wp2_with fail
        go_loopw [33] (fun i wr => ∃ (k : Nat) (hd : Tr → Value), k ≤ NB ∧ i = .int .i64 k ∧ Hid (GSt wr wc.heap.size (wc.heap.size + 1) k hd (Lb.map (keyT sh)) bml) ∧ RowKit.Below wc.heap.size wc wr) (fun i wr => NB - (intOf i).toNat)
        case atStart => exact ⟨0, _, Nat.zero_le _, rfl, hG0.out, balloc _ _⟩
        case round =>
          clear hG0 hmkG
          obtain ⟨k, hd, hk, rfl, hG, hbr⟩ := hrel
          have hzr := hbr.size
          by_cases hlt : k < NB
          · have t1 : decide ((k : Int) < (NB : Int)) = true := by simp; omega
            have i0 : (0 : Int) ≤ (k : Int) := by omega
            have i1 : (k : Int) < (NB : Int) := by omega
            have hkL : k < Lb.length := by rw [← HNB.out]; exact hlt
            obtain ⟨cy0, ey0⟩ := Hbc.out k hkL
            have cy := (hbr.cell (World.block_lt_of_cell? wc _ cy0)).trans cy0
            have hwf := hideE ((WB.out _ (List.getElem_mem hkL)).key sh)
            have HKY := key_any (bml.getD k 0) nb B Lb[k] sh wr (ey0.far hbr ey0.lt) (Hk1.out.below hbr) Hsl.out Hs3.out
            have hkk := hideE (show (Lb.map (keyT sh))[k]? = some (keyT sh Lb[k]) by rw [List.getElem?_map, List.getElem?_eq_getElem hkL]; rfl)
            have Hyb := hideE (show bml.getD k 0 = bml.getD k 0 from rfl)
            generalize keyT sh Lb[k] = kap at *
            generalize hyb : bml.getD k 0 = yb at *
            have HYB := hideE hyb
            clear hyb Hyb cy0 ey0
            rw [valTr_agg] at HKY
            go_wp2_with fail
            go_at_fn 156
            refine HKY.mono ?_
            rintro e w2 ⟨rfl, hb2⟩
            dsimp only
            obtain ⟨W4, hW4⟩ : ∃ W4, W4 = (w2.alloc (.cells #[.int .i64 kap.1.1, .string ⟨kap.1.2.1.toArray⟩, .string ⟨kap.1.2.2.toArray⟩, .int .i64 kap.2.1.1, .string ⟨kap.2.1.2.1.toArray⟩, .string ⟨kap.2.1.2.2.toArray⟩, .int .i64 kap.2.2.1, .string ⟨kap.2.2.2.1.toArray⟩, .string ⟨kap.2.2.2.2.toArray⟩] 156)).alloc (.cells #[.map (some yb)] 101) := ⟨_, rfl⟩
            have hb4 : RowKit.Below wr.heap.size wr W4 := by rw [hW4]; exact bstep (bstep hb2 (balloc _ _)) (balloc _ _)
            have hG4 := hideE (hG.out.below hb4)
            have hn4 : k < maxLen := by unfold maxLen; omega
            obtain ⟨st, w5, hrun, g1, hs1, hback⟩ := grp_entry hG4.out.map hn4 kap hwf.out
            rw [valTr_agg] at hrun
            have cz : w5.cell? ⟨w2.heap.size + 1, 0, none⟩ = some (.map (some yb)) := by
              have c4 : W4.cell? ⟨w2.heap.size + 1, 0, none⟩ = some (.map (some yb)) := by rw [hW4]; go_simp
              have hlow := hG4.out.low
              have h2 := hb2.size
              exact (grown_cellE g1 (b := w2.heap.size + 1) (World.block_lt_of_cell? W4 _ c4) (fun e => by have := Option.some.inj e; omega) 0).1.trans c4
            have hrow := hideE (show w5.ownsRow (wc.heap.size + 1) 101 1 (hd kap) (atK (Lb.map (keyT sh)) kap k).length ((atK (Lb.map (keyT sh)) kap k).map fun j => cellM (bml.getD j 0)) from (hG4.out.rows kap hwf.out).kept g1 (by
              cases hb : (hd kap).ownBlock with
              | none => exact Or.inl rfl
              | some g =>
                refine Or.inr (fun e => ?_)
                have := ((hG4.out.rows kap hwf.out).lt g hb).1
                have := Option.some.inj e
                omega))
            have hlen := atK_len (Lb.map (keyT sh)) kap k
            have hz5 : wc.heap.size + 1 ≤ w5.heap.size := by have := hG4.out.size; omega
            have HG1 := hideE g1
            have HS1 := hideE hs1
            have HBK := hideE hback
            clear g1 hs1 hback
            go_wp2_with (first
              | (rw [← hW4]; refine wpList_mapEntryE _ rfl _ _ _ rfl _ _ rfl rfl hrun ?_)
              | (at_builtin; go_loud (refine wpList_appendE _ rfl _ _ rfl (wc.heap.size + 1) (w2.heap.size + 1) (hd kap) _ _ yb rfl rfl hrow.out cz (by omega) hz5 ?_); intro v' w6 hown6 hg6 hv6; obtain ⟨w7, hst, hG7, g7⟩ := HBK.out w6 v' (hg6.block wc.heap.size (by omega) (own_aboveE hrow.out (by omega))) (isHd_own hown6))
              | (refine wpList_entryStoreE _ rfl _ _ _ _ rfl _ _ _ rfl rfl rfl hst ?_))
            have hGs := hideE (hG4.out.step hwf.out hkk.out HG1.out (v' := v') (by rw [HYB.out]; exact hown6) hg6 hv6 HS1.out hG7 g7)
            have hBf : RowKit.Below wc.heap.size wc w7 := (((hbr.trans (hb4.mono hzr)).grown HG1.out (by have := hb4.size; omega) (fun j e => by have := Option.some.inj e; omega)).grown hg6 (by omega) (fun j e => by have := (hrow.out.lt j e).1; omega)).grown g7 (by have := hg6.size; omega) (fun j e => by have := Option.some.inj e; omega)
            go_roundw
            case rel => exact ⟨k + 1, _, by omega, by go_num, hGs, hBf⟩
            case measure => simp [intOf]; omega
          · obtain rfl : k = NB := by omega
            have t1 : decide ((k : Int) < (k : Int)) = false := by simp
            go_wp2_with fail
            obtain ⟨Wz, rfl⟩ : ∃ Wz, Wz = wr := ⟨wr, rfl⟩
            go_loopw [10, 51] (fun vo i wr => ∃ n : Nat, n ≤ NA ∧ i = .int .i64 n ∧ Hid (OwnE wr Wz.heap.size vo (na + nb) (meetE sh (La.take n) Lb)) ∧ (meetE sh (La.take n) Lb).length ≤ 500 ∧ RowKit.Below Wz.heap.size Wz wr) (fun _ i wr => NA - (intOf i).toNat)
            case atStart => exact ⟨0, Nat.zero_le _, rfl, OwnE.nil _ _ _, by simp [meetE], RowKit.Below.refl _ _⟩
            case round =>
              obtain ⟨n, hn, rfl, hO, hO5, hbq⟩ := hrel
              have hzq := hbq.size
              by_cases hltn : n < NA
              · have t2 : decide ((n : Int) < (NA : Int)) = true := by simp; omega
                have j0 : (0 : Int) ≤ (n : Int) := by omega
                have j1 : (n : Int) < (NA : Int) := by omega
                have hnL : n < La.length := by rw [← HNA.out]; exact hltn
                obtain ⟨cx0, ex0⟩ := Hac.out n hnL
                have hbcq : RowKit.Below wc.heap.size wc wr := hbr.trans (hbq.mono hzr)
                have cx := (hbcq.cell (World.block_lt_of_cell? wc _ cx0)).trans cx0
                have hwf := hideE ((WA.out _ (List.getElem_mem hnL)).key sh)
                have HKX := key_any (aml.getD n 0) na B La[n] sh wr (ex0.far hbcq ex0.lt) (Hk1.out.below hbcq) Hsl.out Hs3.out
                have HX := hideE (ex0.far hbcq ex0.lt)
                have hnext := hideE (meet_next (sh := sh) (Lb := Lb) hnL)
                have hpre := hideE (fun j => meet_prefix (sh := sh) (Lb := Lb) hnL j)
                have hone := hideE (one_len sh Lb La[n])
                have hdef := hideE (show meetOne sh Lb La[n] = (atK (Lb.map (keyT sh)) (keyT sh La[n]) Lb.length).map (fun j => bothE La[n] (Lb.getD j noneE)) from rfl)
                have hGq := hideE (hG.out.below hbq)
                have hrow := hideE (hGq.out.rows _ hwf.out)
                have hlk := grp_look hGq.out.map _ hwf.out
                have hLbl : Lb.length = k := HNB.out.symm
                rw [hLbl] at hone hdef
                obtain ⟨adg, cg, hhd⟩ := own_form hrow.out
                have hrz := hideE (hG.out.rows _ hwf.out)
                rw [hhd] at hrz
                have HHD := hideE hhd
                have HXc := hideE ex0
                clear hhd hlk hrow
                generalize hM : (meetOne sh Lb La[n]) = M1 at *
                generalize hM0 : meetE sh (La.take n) Lb = M0 at *
                generalize keyT sh La[n] = kap at *
                generalize hat : atK (Lb.map (keyT sh)) kap k = gs at *
                generalize La[n] = fx at *
                generalize aml.getD n 0 = xb at *
                have hgl : ∀ i ∈ gs, i < k := fun i hi => by rw [← hat] at hi; exact atK_lt hi
                have Hgl := hideE hgl
                have hgk : gs.length ≤ 200 := by rw [← hat]; exact Nat.le_trans (atK_len _ _ _) hlb
                clear hat hM hM0 cx0 ex0 hgl
                rw [valTr_agg] at HKX
                go_wp2_with fail
                go_at_fn 156
                refine HKX.mono ?_
                rintro e w2 ⟨rfl, hb2⟩
                dsimp only
                have hlk := grp_look (hGq.out.below hb2).map kap hwf.out
                rw [HHD.out, valTr_agg] at hlk
                have hO2 := hideE (hO.out.below hb2)
                have hb2z : RowKit.Below Wz.heap.size Wz w2 := hbq.trans (hb2.mono hzq)
                clear hO HX hwf hGq HKX cx
                go_wp2_with fail
                go_loopw [10, 61] (fun vo j wq => ∃ i : Nat, i ≤ gs.length ∧ j = .int .i64 i ∧ Hid (OwnE wq Wz.heap.size vo (na + nb) (M0 ++ M1.take i)) ∧ (M0 ++ M1.take i).length ≤ 500 ∧ RowKit.Below Wz.heap.size Wz wq) (fun _ j wq => gs.length - (intOf j).toNat)
                case atStart => exact ⟨0, Nat.zero_le _, rfl, by show OwnE _ _ _ _ _; simpa using hO2.out, by simpa using hO5, hb2z⟩
                case round =>
                  clear hO2 hb2z hbq hzq hlk hb2
                  obtain ⟨i, hi, rfl, hP, hP5, hbp⟩ := hrel
                  have hzp := hbp.size
                  have hbcp : RowKit.Below wc.heap.size wc wr := hbr.trans (hbp.mono hzr)
                  by_cases hlti : i < gs.length
                  · have t3 : decide ((i : Int) < (gs.length : Int)) = true := by simp; omega
                    have l0 : (0 : Int) ≤ (i : Int) := by omega
                    have l1 : (i : Int) < (gs.length : Int) := by omega
                    have hgi := Hgl.out _ (List.getElem_mem hlti)
                    have hgL : gs[i] < Lb.length := by rw [hLbl]; exact hgi
                    obtain ⟨gb, rfl, cg0⟩ := own_cell (u := .map (some (bml.getD gs[i] 0))) hrz.out hlti (by rw [List.getElem?_map, List.getElem?_eq_getElem hlti]; rfl)
                    have cgi := (hbp.cell (World.block_lt_of_cell? Wz _ cg0)).trans cg0
                    have hy := (Hbc.out _ hgL).2
                    have HB2 := both_any xb (bml.getD gs[i] 0) na nb fx Lb[gs[i]] wr (HXc.out.far hbcp HXc.out.lt) (hy.far hbcp hy.lt) (by omega)
                    have hM1 : M1[i]? = some (bothE fx Lb[gs[i]]) := by
                      rw [hdef.out, List.getElem?_map, List.getElem?_eq_getElem hlti]
                      simp [List.getD_eq_getElem?_getD, List.getElem?_eq_getElem hgL]
                    have hiM : i < M1.length := (List.getElem?_eq_some_iff.1 hM1).1
                    have hstep : Hid (M0 ++ M1.take (i + 1) = (M0 ++ M1.take i) ++ [bothE fx Lb[gs[i]]]) := by
                      show _ = _
                      rw [List.take_succ_eq_append_getElem hiM, List.append_assoc, (List.getElem?_eq_some_iff.1 hM1).2]
                    obtain ⟨r, hr⟩ := hpre.out (i + 1)
                    rw [hstep.out] at hr
                    have Hr := hideE hr
                    generalize bothE fx Lb[gs[i]] = fz at *
                    generalize bml.getD gs[i] 0 = yb at *
                    generalize hLL : M0 ++ M1.take (i + 1) = L' at *
                    generalize M0 ++ M1.take i = L at *
                    obtain ⟨bs, ebs, obs, gbs⟩ := hP.out
                    have HLL := hideE hLL
                    clear hr hy cg0 hM1 hLL hgL hgi hP
                    go_wp2_with fail
                    refine HB2.mono ?_
                    rintro e w3 ⟨rfl, he3, hb3⟩
                    dsimp only
                    obtain ⟨W4, hW4⟩ : ∃ W4, W4 = w3.alloc (.cells #[.map (some wr.heap.size)] 101) := ⟨_, rfl⟩
                    have hb4 : RowKit.Below wr.heap.size wr W4 := by rw [hW4]; exact bstep hb3 (balloc _ _)
                    have c4 : W4.cell? ⟨w3.heap.size, 0, none⟩ = some (.map (some wr.heap.size)) := by rw [hW4]; go_simp
                    have he4 : EvAt W4 wr.heap.size (na + nb) fz := by rw [hW4]; exact he3.below (balloc _ _)
                    have ob4 := ownsRow_belowV obs hb4
                    have gb4 := hideE (fun j (hj : j < L.length) => (gbs j hj).below hb4)
                    have hz4 : Wz.heap.size ≤ W4.heap.size := by have := hb4.size; omega
                    have HE4 := hideE he4
                    have Hebs := hideE ebs
                    have hoo := hideE (fun (v' : Value) (w' : World) (h : w'.ownsRow Wz.heap.size 101 1 v' (L.length + 1) (bs.map cellM ++ [cellM wr.heap.size])) (hg : W4.grownBy w' u10.ownBlock) => OwnE.push ebs ob4 gb4.out HE4.out h hg)
                    obtain ⟨nl, hnl⟩ : ∃ nl, nl = L.length := ⟨_, rfl⟩
                    rw [← hnl] at ob4 hP5 hoo
                    have Hnl := hideE hnl
                    clear hnl
                    clear obs gbs he3 he4 ebs
                    have hpush : Hid (∀ v' w5, w5.ownsRow Wz.heap.size 101 1 v' (nl + 1) (bs.map cellM ++ [cellM wr.heap.size]) → W4.grownBy w5 u10.ownBlock → OwnE w5 Wz.heap.size v' (na + nb) (L ++ [fz]) ∧ RowKit.Below Wz.heap.size Wz w5) := fun v' w5 h1 h2 => ⟨hoo.out v' w5 h1 h2, (hbp.trans (hb4.mono hzp)).grown h2 hz4 (fun j e => (ob4.lt j e).1)⟩
                    by_cases h5 : 500 < nl + 1
                    · have t5 : decide ((nl : Int) + 1 > 500) = true := by simp; omega
                      have t6 : decide (500 < (nl : Int) + 1) = true := by simp; omega
                      go_wp2_with (first
                        | (at_builtin; rw [← hW4]; go_loud (refine wpList_appendE _ rfl _ _ rfl Wz.heap.size w3.heap.size _ nl _ wr.heap.size rfl rfl ob4 c4 (by omega) hz4 ?_); intro v' w5 hown5 hg5 hv5; obtain ⟨av, cv, rfl⟩ := own_form hown5))
                      obtain ⟨hOf, hBf⟩ := hpush.out _ _ hown5 hg5
                      obtain ⟨ad, c, ev, hs⟩ := hOf.sl
                      have hll : (L ++ [fz]).length = nl + 1 := by simp [Hnl.out]
                      have hfin : L ++ [fz] = (meetE sh La Lb).take 501 := by
                        rw [Hr.out]
                        rw [List.take_append_of_le_length (by rw [hll]; omega), List.take_of_length_le (by rw [hll]; omega)]
                      rw [hll] at ev
                      simp only [Value.slice.injEq] at ev
                      obtain ⟨rfl, _, rfl⟩ := ev
                      exact HQ.out _ _ ⟨hbw.trans ((hbr.trans (hBf.mono hzr)).mono hbw.size), sh, av, cv, L ++ [fz], HS.out, hfin, by rw [hll]; rfl, hs⟩
                    · have t5 : decide ((nl : Int) + 1 > 500) = false := by simp; omega
                      have t6 : decide (500 < (nl : Int) + 1) = false := by simp; omega
                      go_wp2_with (first
                        | (at_builtin; rw [← hW4]; go_loud (refine wpList_appendE _ rfl _ _ rfl Wz.heap.size w3.heap.size _ nl _ wr.heap.size rfl rfl ob4 c4 (by omega) hz4 ?_); intro v' w5 hown5 hg5 hv5; obtain ⟨av, cv, rfl⟩ := own_form hown5))
                      obtain ⟨hOf, hBf⟩ := hpush.out _ _ hown5 hg5
                      have HOf := hideE hOf
                      clear hOf
                      go_roundw
                      case rel => exact ⟨i + 1, by omega, by go_num, by show OwnE _ _ _ _ _; rw [HLL.out, hstep.out]; exact HOf.out, by rw [HLL.out, hstep.out]; simp [← Hnl.out]; omega, hBf⟩
                      case measure => simp [intOf]; omega
                  · obtain rfl : i = gs.length := by omega
                    have t3 : decide ((gs.length : Int) < (gs.length : Int)) = false := by simp
                    have hfull : Hid (meetE sh (La.take (n + 1)) Lb = M0 ++ M1.take gs.length) := by
                      show _ = _
                      rw [hnext.out, List.take_of_length_le (by rw [hone.out]; exact Nat.le_refl _)]
                    go_wp2_with fail
                    go_roundw
                    case rel => exact ⟨n + 1, by omega, by go_num, by show OwnE _ _ _ _ _; rw [hfull.out]; exact hP.out, by rw [hfull.out]; exact hP5, hbp⟩
                    case measure => simp [intOf]; omega
              · obtain rfl : n = NA := by omega
                have t2 : decide ((n : Int) < (n : Int)) = false := by simp
                have hall : Hid (meetE sh La Lb = meetE sh (La.take n) Lb) := by show _ = _; rw [HNA.out, List.take_length]
                obtain ⟨ad, c, rfl, hs⟩ := hO.out.sl
                have HSl := hideE hs
                clear hs hO
                generalize hM0 : meetE sh (La.take n) Lb = M0 at *
                clear hM0
                go_wp2_with fail
                exact HQ.out _ _ ⟨hbw.trans ((hbr.trans (hbq.mono hzr)).mono hbw.size), sh, ad, c, M0, HS.out, by rw [hall.out, List.take_of_length_le (by omega)], rfl, HSl.out⟩
end Go.Proofs.YtaddfndohoppeaaGreat

/- Rows of terms in order: sorted, once each, and just one way; plain lists, no program. -/
namespace Go.Proofs.YtaddfndohoppeaaGreat
open Go Go.RowKit Go.Proofs
set_option synthInstance.maxSize 1000

/-- an order of rows of one length -/
structure OrdR (lt : List Tm → List Tm → Bool) (n : Nat) : Prop where
  irr : ∀ a, lt a a = false
  trans : ∀ {a b c}, lt a b = true → lt b c = true → lt a c = true
  total : ∀ {a b}, a.length = n → b.length = n → lt a b = false → lt b a = false → a = b
theorem ordQ (q : Qu) (n : Nat) : OrdR (ltQ q) n := ⟨fun a => ahead_irr _ _ a, fun h1 h2 => ahead_trans h1 h2, fun h1 h2 h3 h4 => ahead_total (h1.trans h2.symm) h3 h4⟩
/-- none is ahead of one before it -/
def SortedR (lt : List Tm → List Tm → Bool) (l : List (List Tm)) : Prop := l.Pairwise fun a b => lt b a = false
def LenR (n : Nat) (l : List (List Tm)) : Prop := ∀ x ∈ l, x.length = n
section
variable {lt : List Tm → List Tm → Bool} {n : Nat}
theorem OrdR.asym (o : OrdR lt n) {a b : List Tm} (h : lt a b = true) : lt b a = false := by
  cases h2 : lt b a with
  | false => rfl
  | true => exact absurd (o.trans h h2) (by rw [o.irr]; decide)
theorem OrdR.back (o : OrdR lt n) {a b c : List Tm} (ha : a.length = n) (hb : b.length = n) (h1 : lt b a = false) (h2 : lt c b = false) : lt c a = false := by
  cases h : lt c a with
  | false => rfl
  | true =>
    exfalso
    cases h3 : lt a b with
    | true => rw [o.trans h h3] at h2; cases h2
    | false => rw [o.total ha hb h3 h1] at h; rw [h] at h2; cases h2
theorem mem_ins {r x : List Tm} {l : List (List Tm)} : x ∈ insR lt r l ↔ x = r ∨ x ∈ l := by
  induction l with
  | nil => simp [insR]
  | cons y l ih =>
    unfold insR
    split
    · simp
    · simp only [List.mem_cons, ih]
      constructor
      · rintro (h | h | h)
        · exact Or.inr (Or.inl h)
        · exact Or.inl h
        · exact Or.inr (Or.inr h)
      · rintro (h | h | h)
        · exact Or.inr (Or.inl h)
        · exact Or.inl h
        · exact Or.inr (Or.inr h)
theorem perm_ins (r : List Tm) (l : List (List Tm)) : (insR lt r l).Perm (r :: l) := by
  induction l with
  | nil => exact List.Perm.refl _
  | cons y l ih =>
    unfold insR
    split
    · exact List.Perm.refl _
    · exact (List.Perm.cons y ih).trans (List.Perm.swap r y l)
theorem sorted_ins (o : OrdR lt n) {r : List Tm} {l : List (List Tm)} (hr : r.length = n) (hn : LenR n l) (h : SortedR lt l) : SortedR lt (insR lt r l) := by
  induction l with
  | nil => simp [SortedR, insR]
  | cons y l ih =>
    have hy := hn y (by simp)
    obtain ⟨h1, h2⟩ := List.pairwise_cons.1 h
    unfold insR
    split
    · rename_i hlt
      refine List.pairwise_cons.2 ⟨fun x hx => ?_, h⟩
      rcases List.mem_cons.1 hx with rfl | hx
      · exact o.asym hlt
      · cases hxr : lt x r with
        | false => rfl
        | true => have := o.trans hxr hlt; rw [h1 x hx] at this; cases this
    · rename_i hlt
      refine List.pairwise_cons.2 ⟨fun x hx => ?_, ih (fun x hx => hn x (by simp [hx])) h2⟩
      rcases mem_ins.1 hx with rfl | hx
      · simpa using hlt
      · exact h1 x hx
theorem len_put {dist : Bool} {out : List (List Tm)} {r : List Tm} (hr : r.length = n) (hn : LenR n out) : LenR n (putR lt dist out r) := by
  unfold putR
  split
  · exact hn
  · intro x hx
    rcases mem_ins.1 hx with rfl | hx
    · exact hr
    · exact hn x hx
theorem sorted_put (o : OrdR lt n) {dist : Bool} {out : List (List Tm)} {r : List Tm} (hr : r.length = n) (hn : LenR n out) (h : SortedR lt out) : SortedR lt (putR lt dist out r) := by
  unfold putR
  split
  · exact h
  · exact sorted_ins o hr hn h
theorem mem_put {dist : Bool} {out : List (List Tm)} {r x : List Tm} : x ∈ putR lt dist out r ↔ x = r ∨ x ∈ out := by
  unfold putR
  split
  · rename_i h
    constructor
    · exact Or.inr
    · rintro (rfl | h')
      · exact h.2
      · exact h'
  · exact mem_ins
theorem fold_sorted (o : OrdR lt n) {dist : Bool} {rows : List (List Tm)} : ∀ {out : List (List Tm)}, LenR n rows → LenR n out → SortedR lt out → SortedR lt (rows.foldl (putR lt dist) out) := by
  induction rows with
  | nil => exact fun _ _ h => h
  | cons r l ih => exact fun h1 h2 h3 => ih (fun x hx => h1 x (by simp [hx])) (len_put (h1 r (by simp)) h2) (sorted_put o (h1 r (by simp)) h2 h3)
theorem fold_mem {dist : Bool} {rows : List (List Tm)} {x : List Tm} : ∀ {out : List (List Tm)}, x ∈ rows.foldl (putR lt dist) out ↔ x ∈ rows ∨ x ∈ out := by
  induction rows with
  | nil => simp
  | cons r l ih =>
    intro out
    rw [List.foldl_cons, ih, mem_put, List.mem_cons]
    constructor
    · rintro (h | h | h)
      · exact Or.inl (Or.inr h)
      · exact Or.inl (Or.inl h)
      · exact Or.inr h
    · rintro ((h | h) | h)
      · exact Or.inr (Or.inl h)
      · exact Or.inl h
      · exact Or.inr (Or.inr h)
theorem fold_perm {rows : List (List Tm)} : ∀ {out : List (List Tm)}, (rows.foldl (putR lt false) out).Perm (rows ++ out) := by
  induction rows with
  | nil => exact fun {out} => List.Perm.refl _
  | cons r l ih =>
    intro out
    have e : putR lt false out r = insR lt r out := by unfold putR; rw [if_neg (by simp)]
    rw [List.foldl_cons, e]
    exact ih.trans ((List.Perm.append_left l (perm_ins r out)).trans List.perm_middle)
theorem fold_once {rows : List (List Tm)} : ∀ {out : List (List Tm)}, out.Nodup → (rows.foldl (putR lt true) out).Nodup := by
  induction rows with
  | nil => exact fun h => h
  | cons r l ih =>
    intro out h
    rw [List.foldl_cons]
    refine ih ?_
    unfold putR
    split
    · exact h
    · rename_i hn
      have hr : r ∉ out := fun h' => hn ⟨rfl, h'⟩
      exact (perm_ins r out).nodup_iff.2 (List.nodup_cons.2 ⟨hr, h⟩)
/-- two in order of the same are the same -/
theorem sorted_one (o : OrdR lt n) : ∀ {l m : List (List Tm)}, LenR n l → SortedR lt l → SortedR lt m → l.Perm m → l = m
  | [], m, _, _, _, hp => (List.Perm.nil_eq hp)
  | a :: l, [], _, _, _, hp => absurd hp.symm (by simp)
  | a :: l, b :: m, hn, h1, h2, hp => by
    have hn' : LenR n (b :: m) := fun x hx => hn x (hp.mem_iff.2 hx)
    obtain ⟨p1, q1⟩ := List.pairwise_cons.1 h1
    obtain ⟨p2, q2⟩ := List.pairwise_cons.1 h2
    have e : a = b := by
      have ha : a ∈ b :: m := hp.mem_iff.1 (by simp)
      have hb : b ∈ a :: l := hp.mem_iff.2 (by simp)
      rcases List.mem_cons.1 ha with h | ha
      · exact h
      · rcases List.mem_cons.1 hb with h | hb
        · exact h.symm
        · exact o.total (hn a (by simp)) (hn' b (by simp)) (p2 a ha) (p1 b hb)
    subst e
    rw [sorted_one o (fun x hx => hn x (by simp [hx])) q1 q2 ((List.perm_cons a).1 hp)]
/-- what is sorted, whoever does it -/
theorem sortR_all (o : OrdR lt n) {rows m : List (List Tm)} (hn : LenR n rows) (hs : SortedR lt m) (hp : m.Perm rows) : m = sortR lt false rows := by
  have hp' : (sortR lt false rows).Perm rows := by simpa [sortR] using fold_perm (lt := lt) (rows := rows) (out := [])
  exact (sorted_one o (fun x hx => hn x (hp'.mem_iff.1 hx)) (fold_sorted o hn (fun x hx => (by cases hx)) List.Pairwise.nil) hs (hp'.trans hp.symm)).symm
theorem sortR_once (o : OrdR lt n) {rows m : List (List Tm)} (hn : LenR n rows) (hs : SortedR lt m) (hd : m.Nodup) (hm : ∀ x, x ∈ m ↔ x ∈ rows) : m = sortR lt true rows := by
  have hd' : (sortR lt true rows).Nodup := fold_once List.nodup_nil
  have hm' : ∀ x, x ∈ sortR lt true rows ↔ x ∈ rows := fun x => by unfold sortR; simpa using fold_mem (lt := lt) (dist := true) (rows := rows) (x := x) (out := [])
  refine (sorted_one o (fun x hx => hn x ((hm' x).1 hx)) (fold_sorted o hn (fun x hx => (by cases hx)) List.Pairwise.nil) hs ?_).symm
  exact (List.perm_ext_iff_of_nodup hd' hd).2 fun x => (hm' x).trans (hm x).symm

end
end Go.Proofs.YtaddfndohoppeaaGreat

/- An answer answers: each part that is asked is there; plain lists, no program. -/
namespace Go.Proofs.YtaddfndohoppeaaGreat
open Go Go.RowKit Go.Proofs
set_option synthInstance.maxSize 1000

/-! ### what a variable is -/
theorem bound_app : ∀ {vars fr : List (List UInt8)} {r ts : List Tm} {s : List UInt8} {x : Tm}, r.length = vars.length → boundT vars r s = some x → boundT (vars ++ fr) (r ++ ts) s = some x
  | [], _, _, _, _, _, _, h => by simp [boundT] at h
  | v :: vs, fr, [], ts, s, x, hl, h => by simp at hl
  | v :: vs, fr, t :: r, ts, s, x, hl, h => by
    simp only [List.cons_append, boundT] at h ⊢
    split
    · rename_i hc; rw [if_pos hc] at h; exact h
    · rename_i hc; rw [if_neg hc] at h; exact bound_app (by simpa using hl) h
theorem bound_new : ∀ {vars fr : List (List UInt8)} {r ts : List Tm} {s : List UInt8}, r.length = vars.length → boundT vars r s = none → boundT (vars ++ fr) (r ++ ts) s = boundT fr ts s
  | [], _, [], _, _, _, _ => rfl
  | [], _, t :: r, _, _, hl, _ => by simp at hl
  | v :: vs, fr, [], ts, s, hl, h => by simp at hl
  | v :: vs, fr, t :: r, ts, s, hl, h => by
    simp only [List.cons_append, boundT] at h ⊢
    split
    · rename_i hc; rw [if_pos hc] at h; cases h
    · rename_i hc; rw [if_neg hc] at h; exact bound_new (by simpa using hl) h
theorem bound_none : ∀ {vars : List (List UInt8)} {r : List Tm} {s : List UInt8}, s ≠ [] → r.length = vars.length → (boundT vars r s = none ↔ s ∉ vars)
  | [], r, s, _, _ => by simp [boundT]
  | v :: vs, [], s, _, hl => by simp at hl
  | v :: vs, t :: r, s, hs, hl => by
    simp only [boundT]
    by_cases hv : v = s
    · rw [if_pos ⟨hv, hs⟩]; simp [hv]
    · rw [if_neg (fun h => hv h.1), bound_none hs (by simpa using hl)]
      simp [Ne.symm hv]
theorem bound_empty : ∀ (vars : List (List UInt8)) (r : List Tm), boundT vars r [] = none
  | [], _ => rfl
  | v :: vs, [] => rfl
  | v :: vs, t :: r => by simp only [boundT]; rw [if_neg (by simp)]; exact bound_empty vs r
theorem bound_map : ∀ {fr : List (List UInt8)} {f : List UInt8 → Tm} {s : List UInt8}, s ≠ [] → s ∈ fr → boundT fr (fr.map f) s = some (f s)
  | [], _, _, _, h => by cases h
  | v :: vs, f, s, hs, h => by
    simp only [List.map_cons, boundT]
    by_cases hv : v = s
    · rw [if_pos ⟨hv, hs⟩, hv]
    · rw [if_neg (fun h => hv h.1)]
      refine bound_map hs ?_
      rcases List.mem_cons.1 h with h | h
      · exact absurd h.symm hv
      · exact h
theorem bound_mem : ∀ {vars : List (List UInt8)} {r : List Tm} {s : List UInt8} {x : Tm}, boundT vars r s = some x → x ∈ r
  | [], _, _, _, h => by simp [boundT] at h
  | v :: vs, [], _, _, h => by simp [boundT] at h
  | v :: vs, t :: r, s, x, h => by
    simp only [boundT] at h
    split at h
    · injection h with h; subst h; simp
    · exact List.mem_cons_of_mem _ (bound_mem h)
theorem addV_mem {l : List (List UInt8)} {s : Sl} {v : List UInt8} : v ∈ addV l s ↔ v ∈ l ∨ (v = s.1 ∧ v ≠ []) := by
  unfold addV
  by_cases h0 : s.1 = []
  · rw [if_pos h0]
    constructor
    · exact Or.inl
    · rintro (h | ⟨h, h'⟩)
      · exact h
      · exact absurd (h.trans h0) h'
  · rw [if_neg h0]
    by_cases h1 : s.1 ∈ l
    · rw [if_pos h1]
      constructor
      · exact Or.inl
      · rintro (h | ⟨h, _⟩)
        · exact h
        · rw [h]; exact h1
    · rw [if_neg h1, List.mem_append, List.mem_singleton]
      constructor
      · rintro (h | h)
        · exact Or.inl h
        · exact Or.inr ⟨h, by rw [h]; exact h0⟩
      · rintro (h | ⟨h, _⟩)
        · exact Or.inl h
        · exact Or.inr h
theorem varsL_mem {p : Pt} {v : List UInt8} : v ∈ varsL p ↔ v ≠ [] ∧ (v = p.1.1 ∨ v = p.2.1.1 ∨ v = p.2.2.1) := by
  unfold varsL
  rw [addV_mem, addV_mem, addV_mem]
  constructor
  · rintro ((((h | ⟨h, k⟩) | ⟨h, k⟩)) | ⟨h, k⟩)
    · cases h
    · exact ⟨k, Or.inl h⟩
    · exact ⟨k, Or.inr (Or.inl h)⟩
    · exact ⟨k, Or.inr (Or.inr h)⟩
  · rintro ⟨k, h | h | h⟩
    · exact Or.inl (Or.inl (Or.inr ⟨h, k⟩))
    · exact Or.inl (Or.inr ⟨h, k⟩)
    · exact Or.inr ⟨h, k⟩

/-! ### a part is there -/
def slotOk (vars : List (List UInt8)) (r : List Tm) (s : Sl) (x : Tm) : Prop := if s.1 = [] then x = s.2 else boundT vars r s.1 = some x
def HoldsAt (S : List Tr) (vars : List (List UInt8)) (r : List Tm) (p : Pt) : Prop := ∃ t ∈ S, slotOk vars r p.1 t.1 ∧ slotOk vars r p.2.1 t.2.1 ∧ slotOk vars r p.2.2 t.2.2
theorem ok_app {vars fr : List (List UInt8)} {r ts : List Tm} {s : Sl} {x : Tm} (hl : r.length = vars.length) (h : slotOk vars r s x) : slotOk (vars ++ fr) (r ++ ts) s x := by
  unfold slotOk at *
  split
  · rename_i h0; rw [if_pos h0] at h; exact h
  · rename_i h0; rw [if_neg h0] at h; exact bound_app hl h
theorem holds_app {S : List Tr} {vars fr : List (List UInt8)} {r ts : List Tm} {p : Pt} (hl : r.length = vars.length) (h : HoldsAt S vars r p) : HoldsAt S (vars ++ fr) (r ++ ts) p := by
  obtain ⟨t, ht, h1, h2, h3⟩ := h
  exact ⟨t, ht, ok_app hl h1, ok_app hl h2, ok_app hl h3⟩
theorem bindS_some {vars : List (List UInt8)} {r : List Tm} {s : Sl} {x : Tm} (h : boundT vars r s.1 = some x) : bindS vars r s = ([], x) := by unfold bindS; rw [h]
theorem bindS_none {vars : List (List UInt8)} {r : List Tm} {s : Sl} (h : boundT vars r s.1 = none) : bindS vars r s = s := by unfold bindS; rw [h]
theorem fresh_mem {vars : List (List UInt8)} {p : Pt} {v : List UInt8} : v ∈ freshV vars p ↔ v ∈ varsL p ∧ v ∉ vars := by simp [freshV]
/-- a slot of a pattern that a triple fits, behind what it told -/
theorem ext_ok {vars : List (List UInt8)} {p : Pt} {r : List Tm} {t : Tr} {s : Sl} {x : Tm} (hl : r.length = vars.length) (hs : s.1 ≠ [] → s.1 ∈ varsL p) (h0 : s.1 = [] → x = s.2) (h1 : ∀ y, s.1 ≠ [] → boundT vars r s.1 = some y → x = y) (h2 : s.1 ≠ [] → boundT vars r s.1 = none → pickT p t s.1 = x) : slotOk (vars ++ freshV vars p) (extR vars p r t) s x := by
  unfold slotOk extR
  by_cases he : s.1 = []
  · rw [if_pos he]; exact h0 he
  · rw [if_neg he]
    cases hb : boundT vars r s.1 with
    | some y => rw [bound_app hl hb, h1 y he hb]
    | none =>
      rw [bound_new hl hb, bound_map he (fresh_mem.2 ⟨hs he, (bound_none he hl).1 hb⟩), h2 he hb]
theorem fits_holds {S : List Tr} {vars : List (List UInt8)} {r : List Tm} {p : Pt} {t : Tr} (hl : r.length = vars.length) (ht : t ∈ matchP S (bindP vars r p)) : HoldsAt S (vars ++ freshV vars p) (extR vars p r t) p := by
  obtain ⟨hS, hf⟩ := List.mem_filter.1 ht
  unfold fitsB bindP at hf
  simp only [Bool.and_eq_true] at hf
  obtain ⟨f1, f2, f3⟩ := hf
  refine ⟨t, hS, ext_ok hl (fun h => varsL_mem.2 ⟨h, Or.inl rfl⟩) (fun h => ?_) (fun y h hb => ?_) (fun h hb => ?_), ext_ok hl (fun h => varsL_mem.2 ⟨h, Or.inr (Or.inl rfl)⟩) (fun h => ?_) (fun y h hb => ?_) (fun h hb => ?_), ext_ok hl (fun h => varsL_mem.2 ⟨h, Or.inr (Or.inr rfl)⟩) (fun h => ?_) (fun y h hb => ?_) (fun h hb => ?_)⟩
  · rw [bindS_none (by rw [h]; exact bound_empty _ _), if_pos h] at f1
    exact of_decide_eq_true f1
  · rw [bindS_some hb, if_pos rfl] at f1
    exact of_decide_eq_true f1
  · unfold pickT; rw [if_pos rfl]
  · rw [bindS_none (s := p.2.1) (by rw [h]; exact bound_empty _ _), if_pos h] at f2
    exact of_decide_eq_true f2
  · rw [bindS_some (s := p.2.1) hb, if_pos rfl] at f2
    exact of_decide_eq_true f2
  · unfold pickT
    by_cases e : p.1.1 = p.2.1.1
    · rw [if_pos e]
      rw [bindS_none (s := p.2.1) hb, if_neg h, bindS_none (s := p.1) (by rw [e]; exact hb), if_pos e.symm] at f2
      exact (of_decide_eq_true f2).symm
    · rw [if_neg e, if_pos rfl]
  · rw [bindS_none (s := p.2.2) (by rw [h]; exact bound_empty _ _), if_pos h] at f3
    exact of_decide_eq_true f3
  · rw [bindS_some (s := p.2.2) hb, if_pos rfl] at f3
    exact of_decide_eq_true f3
  · unfold pickT
    by_cases e : p.1.1 = p.2.2.1
    · rw [if_pos e]
      rw [bindS_none (s := p.2.2) hb, if_neg h, bindS_none (s := p.1) (by rw [e]; exact hb), if_pos e.symm] at f3
      exact (of_decide_eq_true f3).symm
    · rw [if_neg e]
      by_cases e2 : p.2.1.1 = p.2.2.1
      · rw [if_pos e2]
        have hne : p.2.2.1 ≠ (bindS vars r p.1).1 := by
          cases hb1 : boundT vars r p.1.1 with
          | none => rw [bindS_none hb1]; exact fun h' => e h'.symm
          | some y => rw [bindS_some hb1]; exact h
        rw [bindS_none (s := p.2.2) hb, if_neg h, if_neg hne, bindS_none (s := p.2.1) (by rw [e2]; exact hb), if_pos e2.symm] at f3
        exact (of_decide_eq_true f3).symm
      · rw [if_neg e2]

/-! ### all answers -/
/-- what holds of the answers so far -/
structure AnsOK (S : List Tr) (done : List Pt) (vars : List (List UInt8)) (rows : List (List Tm)) : Prop where
  len : ∀ r ∈ rows, r.length = vars.length
  holds : ∀ r ∈ rows, ∀ p ∈ done, HoldsAt S vars r p
  has : ∀ p ∈ done, ∀ v ∈ varsL p, v ∈ vars
  from_ : ∀ r ∈ rows, ∀ x ∈ r, ∃ t ∈ S, x = t.1 ∨ x = t.2.1 ∨ x = t.2.2
theorem AnsOK.start (S : List Tr) : AnsOK S [] [] [[]] := ⟨fun r h => by simp at h; simp [h], fun _ _ p h => (by cases h), fun p h => (by cases h), fun r h x hx => by simp at h; rw [h] at hx; cases hx⟩
theorem AnsOK.step {S : List Tr} {done : List Pt} {vars : List (List UInt8)} {rows : List (List Tm)} (h : AnsOK S done vars rows) (p : Pt) : AnsOK S (done ++ [p]) (vars ++ freshV vars p) (stepR S vars p rows) := by
  have hm : ∀ r' ∈ stepR S vars p rows, ∃ r ∈ rows, ∃ t, t ∈ matchP S (bindP vars r p) ∧ r' = extR vars p r t := fun r' hr' => by
    obtain ⟨r, hr, h1⟩ := List.mem_flatMap.1 hr'
    obtain ⟨t, ht, rfl⟩ := List.mem_map.1 h1
    exact ⟨r, hr, t, ht, rfl⟩
  refine ⟨fun r' hr' => ?_, fun r' hr' p' hp' => ?_, fun p' hp' v hv => ?_, fun r' hr' x hx => ?_⟩
  · obtain ⟨r, hr, t, ht, rfl⟩ := hm r' hr'
    simp [extR, h.len r hr]
  · obtain ⟨r, hr, t, ht, rfl⟩ := hm r' hr'
    rcases List.mem_append.1 hp' with hp' | hp'
    · exact holds_app (h.len r hr) (h.holds r hr p' hp')
    · have e : p' = p := by simpa using hp'
      subst e
      exact fits_holds (h.len r hr) ht
  · rcases List.mem_append.1 hp' with hp' | hp'
    · exact List.mem_append_left _ (h.has p' hp' v hv)
    · have e : p' = p := by simpa using hp'
      subst e
      by_cases hin : v ∈ vars
      · exact List.mem_append_left _ hin
      · exact List.mem_append_right _ (fresh_mem.2 ⟨hv, hin⟩)
  · obtain ⟨r, hr, t, ht, rfl⟩ := hm r' hr'
    rcases List.mem_append.1 hx with hx | hx
    · exact h.from_ r hr x hx
    · obtain ⟨v, _, rfl⟩ := List.mem_map.1 hx
      refine ⟨t, (List.mem_filter.1 ht).1, ?_⟩
      unfold pickT
      split
      · exact Or.inl rfl
      · split
        · exact Or.inr (Or.inl rfl)
        · exact Or.inr (Or.inr rfl)
theorem answers_ok {S : List Tr} : ∀ (ps : List Pt) {done : List Pt} {vars vars' : List (List UInt8)} {rows rows' : List (List Tm)}, AnsOK S done vars rows → answersF S vars rows ps = some (vars', rows') → AnsOK S (done ++ ps) vars' rows' ∧ rows'.length ≤ max rows.length 500
  | [], done, vars, vars', rows, rows', h, e => by
    simp only [answersF, Option.some.injEq, Prod.mk.injEq] at e
    obtain ⟨rfl, rfl⟩ := e
    rw [List.append_nil]
    exact ⟨h, Nat.le_max_left _ _⟩
  | p :: ps, done, vars, vars', rows, rows', h, e => by
    unfold answersF at e
    split at e
    · cases e
    · rename_i hn
      obtain ⟨h1, h2⟩ := answers_ok ps (h.step p) e
      rw [List.append_assoc] at h1
      refine ⟨h1, ?_⟩
      omega
theorem answersL_ok {S : List Tr} {ps : List Pt} {vars : List (List UInt8)} {rows : List (List Tm)} (e : answersL S ps = some (vars, rows)) : AnsOK S ps vars rows ∧ rows.length ≤ 500 := by
  obtain ⟨h1, h2⟩ := answers_ok ps (AnsOK.start S) e
  exact ⟨by simpa using h1, by simpa using h2⟩
/-! ### what is told, bound -/
end Go.Proofs.YtaddfndohoppeaaGreat

/- The document's Answers, step by step; plain lists, no program. -/
namespace Go.Proofs.YtaddfndohoppeaaGreat
open Go Go.RowKit Go.Proofs
set_option synthInstance.maxSize 1000

/-! ### which variables are new -/
theorem varsL_few (p : Pt) : (varsL p).length ≤ 3 := by
  have h : ∀ (l : List (List UInt8)) (s : Sl), (addV l s).length ≤ l.length + 1 := fun l s => by
    unfold addV
    split
    · omega
    · split
      · omega
      · simp
  unfold varsL
  have h1 := h [] p.1
  have h2 := h (addV [] p.1) p.2.1
  have h3 := h (addV (addV [] p.1) p.2.1) p.2.2
  simp at h1
  omega
/-! ### a row -/
/-! ### rows -/
theorem answers_next {S : List Tr} {vars : List (List UInt8)} {p : Pt} {ps : List Pt} {rows : List (List Tm)} (h : ¬ 500 < (stepR S vars p rows).length) : answersF S vars rows (p :: ps) = answersF S (vars ++ freshV vars p) (stepR S vars p rows) ps := by
  rw [answersF, if_neg h]
end Go.Proofs.YtaddfndohoppeaaGreat

/- Answers that agree, in plain words: by keys, and what is made of two. -/
namespace Go.Proofs.YtaddfndohoppeaaGreat
open Go Go.RowKit Go.Proofs
set_option synthInstance.maxSize 1000

theorem fits_iff (p : Pt) (t : Tr) : fitsB p t = true ↔ (p.1.1 = [] → t.1 = p.1.2) ∧ (p.2.1.1 = [] → t.2.1 = p.2.1.2) ∧ (p.2.2.1 = [] → t.2.2 = p.2.2.2) ∧ (p.2.1.1 ≠ [] → p.2.1.1 = p.1.1 → t.2.1 = t.1) ∧ (p.2.2.1 ≠ [] → p.2.2.1 = p.1.1 → t.2.2 = t.1) ∧ (p.2.2.1 ≠ [] → p.2.2.1 = p.2.1.1 → t.2.2 = t.2.1) := by
  unfold fitsB
  grind
theorem evT_none {p : Pt} {t : Tr} {v : List UInt8} : evT p t v = none ↔ v ∉ varsL p := by
  rw [varsL_mem]
  unfold evT
  grind
theorem evT_pick {p : Pt} {t : Tr} {v : List UInt8} (hf : fitsB p t = true) (hv : v ∈ varsL p) : evT p t v = some (pickT p t v) := by
  rw [varsL_mem] at hv
  rw [fits_iff] at hf
  unfold evT pickT
  grind
/-- does an answer agree with a triple? -/
def agreeB (vars : List (List UInt8)) (p : Pt) (r : List Tm) (t : Tr) : Bool := vars.all fun v => !decide (v ∈ varsL p) || decide (boundT vars r v = evT p t v)
theorem agree_iff {vars : List (List UInt8)} {p : Pt} {r : List Tm} {t : Tr} : agreeB vars p r t = true ↔ ∀ v ∈ vars, v ∈ varsL p → boundT vars r v = evT p t v := by
  unfold agreeB
  rw [List.all_eq_true]
  constructor
  · intro h v h1 h2
    have := h v h1
    simpa [h2] using this
  · intro h v h1
    by_cases h2 : v ∈ varsL p
    · simp [h2, h v h1 h2]
    · simp [h2]
theorem fits_bind {vars : List (List UInt8)} {p : Pt} {r : List Tm} {t : Tr} (hl : r.length = vars.length) : fitsB (bindP vars r p) t = (fitsB p t && agreeB vars p r t) := by
  have hE := bound_empty vars r
  rw [Bool.eq_iff_iff, Bool.and_eq_true, agree_iff]
  have key : ∀ v, v ≠ [] → (v ∈ vars ↔ boundT vars r v ≠ none) := fun v hv => by
    rw [Ne, bound_none hv hl]; simp
  have hag : (∀ v ∈ vars, v ∈ varsL p → boundT vars r v = evT p t v) ↔ ∀ v, v ∈ varsL p → boundT vars r v ≠ none → boundT vars r v = evT p t v := by
    constructor
    · intro h v h1 h2
      exact h v ((key v (varsL_mem.1 h1).1).2 h2) h1
    · intro h v h1 h2
      exact h v h2 ((key v (varsL_mem.1 h2).1).1 h1)
  rw [hag, fits_iff, fits_iff]
  clear hag key hl
  obtain ⟨⟨a, x⟩, ⟨b, y⟩, ⟨c, z⟩⟩ := p
  obtain ⟨s, q, o⟩ := t
  simp only [bindP, bindS, varsL_mem, evT]
  generalize boundT vars r = f at *
  constructor
  · intro h
    refine ⟨?_, ?_⟩
    · cases ha : f a <;> cases hb : f b <;> cases hc : f c <;> simp only [ha, hb, hc] at h <;> grind
    · intro v hv
      cases ha : f a <;> cases hb : f b <;> cases hc : f c <;> simp only [ha, hb, hc] at h <;> grind
  · rintro ⟨h, h2⟩
    have ha2 := h2 a
    have hb2 := h2 b
    have hc2 := h2 c
    cases ha : f a <;> cases hb : f b <;> cases hc : f c <;> grind
theorem match_bind {S : List Tr} {vars : List (List UInt8)} {p : Pt} {r : List Tm} (hl : r.length = vars.length) : matchP S (bindP vars r p) = (matchP S p).filter (agreeB vars p r) := by
  unfold matchP
  rw [List.filter_filter]
  congr 1
  funext t
  rw [fits_bind hl, Bool.and_comm]
theorem ext_ev {vars : List (List UInt8)} {p : Pt} {r : List Tm} {t : Tr} (hl : r.length = vars.length) (hf : fitsB p t = true) (ha : agreeB vars p r t = true) : boundT (vars ++ freshV vars p) (extR vars p r t) = bothE (boundT vars r) (evT p t) := by
  rw [agree_iff] at ha
  funext v
  unfold bothE extR
  by_cases hv0 : v = []
  · subst hv0
    rw [bound_empty, bound_empty]
    simp [evT]
  · by_cases hv : v ∈ varsL p
    · by_cases hvs : v ∈ vars
      · cases hb : boundT vars r v with
        | none => exact absurd hvs ((bound_none hv0 hl).1 hb)
        | some x =>
          have := ha v hvs hv
          rw [hb] at this
          rw [bound_app hl hb, ← this]
      · rw [bound_new hl ((bound_none hv0 hl).2 hvs), bound_map hv0 (fresh_mem.2 ⟨hv, hvs⟩), evT_pick hf hv]
    · rw [evT_none.2 hv]
      cases hb : boundT vars r v with
      | none =>
        rw [bound_new hl hb]
        exact (bound_none hv0 (by simp)).2 (fun h => hv (fresh_mem.1 h).1)
      | some x => exact bound_app hl hb

/-! ### by keys -/
theorem key_iff {sh : List (List UInt8)} (h3 : sh.length ≤ 3) {f g : Ev} : keyT sh f = keyT sh g ↔ ∀ v ∈ sh, (f v).getD tmZero = (g v).getD tmZero := by
  unfold keyT nthE
  match sh, h3 with
  | [], _ => simp
  | [a], _ => simp
  | [a, b], _ => simp
  | [a, b, c], _ => simp
  | a :: b :: c :: d :: r, h => simp at h
/-- the variables that both have -/
def SharedV (vars : List (List UInt8)) (p : Pt) (sh : List (List UInt8)) : Prop := sh.Nodup ∧ ∀ v, v ∈ sh ↔ v ∈ vars ∧ v ∈ varsL p
theorem key_agree {vars : List (List UInt8)} {p : Pt} {r : List Tm} {t : Tr} {sh : List (List UInt8)} (hs : SharedV vars p sh) (h3 : sh.length ≤ 3) (hl : r.length = vars.length) : decide (keyT sh (evT p t) = keyT sh (boundT vars r)) = agreeB vars p r t := by
  rw [Bool.eq_iff_iff, decide_eq_true_eq, key_iff h3, agree_iff]
  have two : ∀ v, v ∈ vars → v ∈ varsL p → ∃ x y, boundT vars r v = some x ∧ evT p t v = some y := fun v h1 h2 => by
    cases hb : boundT vars r v with
    | none => exact absurd h1 ((bound_none (varsL_mem.1 h2).1 hl).1 hb)
    | some x =>
      cases he : evT p t v with
      | none => exact absurd h2 (evT_none.1 he)
      | some y => exact ⟨x, y, rfl, rfl⟩
  constructor
  · intro h v h1 h2
    obtain ⟨x, y, e1, e2⟩ := two v h1 h2
    have := h v ((hs.2 v).2 ⟨h1, h2⟩)
    rw [e1, e2] at this ⊢
    simp at this
    rw [this]
  · intro h v hv
    obtain ⟨h1, h2⟩ := (hs.2 v).1 hv
    rw [h v h1 h2]
/-- all that one answer meets -/
def meetR (vars : List (List UInt8)) (p : Pt) (M : List Tr) (r : List Tm) : List (List Tm) := (M.filter (agreeB vars p r)).map (extR vars p r)
theorem rows_meet {S : List Tr} {vars : List (List UInt8)} {p : Pt} {r : List Tm} (hl : r.length = vars.length) : rowsOf S vars p r = meetR vars p (matchP S p) r := by
  unfold rowsOf meetR
  rw [match_bind hl]
theorem step_meet {S : List Tr} {vars : List (List UInt8)} {p : Pt} {rows : List (List Tm)} (hl : ∀ r ∈ rows, r.length = vars.length) : stepR S vars p rows = rows.flatMap (meetR vars p (matchP S p)) := by
  unfold stepR
  rw [List.flatMap_def, List.flatMap_def, List.map_congr_left (fun r hr => rows_meet (hl r hr))]
end Go.Proofs.YtaddfndohoppeaaGreat

/- A question as text, piece by piece; plain lists, no program. -/
namespace Go.Proofs.YtaddfndohoppeaaGreat
open Go Go.RowKit Go.Proofs
set_option synthInstance.maxSize 1000

/-! ### how long -/
theorem nodup_le : ∀ (l m : List (List UInt8)), l.Nodup → (∀ v ∈ l, v ∈ m) → l.length ≤ m.length
  | [], m, _, _ => by simp
  | v :: r, m, hn, hs => by
    rw [List.nodup_cons] at hn
    have ih := nodup_le r (m.erase v) hn.2 (fun x hx => (List.mem_erase_of_ne (fun (e : x = v) => hn.1 (e ▸ hx))).2 (hs x (by simp [hx])))
    have h1 := List.length_erase_of_mem (hs v (by simp))
    have h2 : 0 < m.length := List.length_pos_of_mem (hs v (by simp))
    rw [List.length_cons]
    omega
theorem GoodQ.few {q : Qu} (g : GoodQ q) : q.vars.length ≤ 8 := Nat.le_trans (nodup_le _ _ g.once g.within) g.eight
end Go.Proofs.YtaddfndohoppeaaGreat

/- What the laws of Solve ask, in plain words; plain lists, no program. -/
namespace Go.Proofs.YtaddfndohoppeaaGreat
open Go Go.RowKit Go.Proofs
set_option synthInstance.maxSize 1000

theorem solve_good {S : List Tr} {q : Qu} (h : solveN S q = 0) : IsSet S ∧ GoodQ q ∧ ∃ vars rows, answersL S q.parts = some (vars, rows) := by
  unfold solveN at h
  split at h
  · rename_i h1; exact absurd h h1
  · rename_i h1
    split at h
    · rename_i h2; exact absurd h h2
    · rename_i h2
      split at h
      · cases h
      · rename_i h3
        refine ⟨sortedN_set.1 (Classical.byContradiction h1), ask_good (Classical.byContradiction h2), ?_⟩
        cases ha : answersL S q.parts with
        | none => rw [ha] at h3; simp at h3
        | some v => exact ⟨v.1, v.2, rfl⟩
theorem proj_len (vars told : List (List UInt8)) (rows : List (List Tm)) : LenR told.length (rows.map (projR vars told)) := fun x hx => by
  obtain ⟨r, _, rfl⟩ := List.mem_map.1 hx
  simp [projR]
theorem sort_len (lt : List Tm → List Tm → Bool) (rows : List (List Tm)) : (sortR lt false rows).length = rows.length := by
  have := (fold_perm (lt := lt) (rows := rows) (out := [])).length_eq
  simpa [sortR] using this
theorem sort_mem {lt : List Tm → List Tm → Bool} {dist : Bool} {rows : List (List Tm)} {x : List Tm} : x ∈ sortR lt dist rows ↔ x ∈ rows := by
  unfold sortR
  simpa using fold_mem (lt := lt) (dist := dist) (rows := rows) (x := x) (out := [])
/-- the terms of a set are right -/
theorem set_term {S : List Tr} (h : IsSet S) {t : Tr} (ht : t ∈ S) {x : Tm} (hx : x = t.1 ∨ x = t.2.1 ∨ x = t.2.2) : tmChk x = 0 := by
  obtain ⟨h1, h2, h3, _⟩ := chk_zero (h.2.1 t ht)
  rcases hx with rfl | rfl | rfl
  · exact h1
  · exact h2
  · exact h3
theorem once_le : ∀ (l m : List (List Tm)), l.Nodup → (∀ v ∈ l, v ∈ m) → l.length ≤ m.length
  | [], m, _, _ => by simp
  | v :: r, m, hn, hs => by
    rw [List.nodup_cons] at hn
    have ih := once_le r (m.erase v) hn.2 (fun x hx => (List.mem_erase_of_ne (fun (e : x = v) => hn.1 (e ▸ hx))).2 (hs x (by simp [hx])))
    have h1 := List.length_erase_of_mem (hs v (by simp))
    have h2 : 0 < m.length := List.length_pos_of_mem (hs v (by simp))
    rw [List.length_cons]
    omega
theorem sort_once (lt : List Tm → List Tm → Bool) (rows : List (List Tm)) : (sortR lt true rows).Nodup := fold_once List.nodup_nil
/-! ### what does not matter -/
/-! ### turned -/
end Go.Proofs.YtaddfndohoppeaaGreat

/- What solve.meet makes of answers is what the document's step makes; plain lists. -/
namespace Go.Proofs.YtaddfndohoppeaaGreat
open Go Go.RowKit Go.Proofs
set_option synthInstance.maxSize 1000

theorem atK_filter {α : Type} (key : Ev → Tr) (c : Tr) (h : Ev → α) : ∀ (L : List Ev) (m : Nat), m ≤ L.length → (atK (L.map key) c m).map (fun j => h (L.getD j noneE)) = ((L.take m).filter fun g => decide (key g = c)).map h
  | L, 0, _ => by simp [atK]
  | L, m + 1, hm => by
    have ih := atK_filter key c h L m (by omega)
    have hlt : m < L.length := by omega
    have hg : (L.map key)[m]? = some (key L[m]) := by rw [List.getElem?_map, List.getElem?_eq_getElem hlt]; rfl
    rw [List.take_succ_eq_append_getElem hlt, List.filter_append, List.map_append, ← ih]
    by_cases e : key L[m] = c
    · rw [atK_hit (by rw [hg, e]), List.map_append]
      simp [e, List.getElem?_eq_getElem hlt]
    · rw [atK_miss hg (fun h => e h.symm)]
      simp [e]
theorem meetOne_filter (sh : List (List UInt8)) (Lb : List Ev) (f : Ev) : meetOne sh Lb f = (Lb.filter fun g => decide (keyT sh g = keyT sh f)).map (bothE f) := by
  unfold meetOne
  rw [atK_filter (keyT sh) (keyT sh f) (bothE f) Lb Lb.length (Nat.le_refl _), List.take_length]
theorem meet_step {S : List Tr} {vars : List (List UInt8)} {p : Pt} {rows : List (List Tm)} {sh : List (List UInt8)} (hl : ∀ r ∈ rows, r.length = vars.length) (hs : rows ≠ [] → matchP S p ≠ [] → SharedV vars p sh ∧ sh.length ≤ 3) :
    meetE sh (rows.map (boundT vars)) ((matchP S p).map (evT p)) = (stepR S vars p rows).map (boundT (vars ++ freshV vars p)) := by
  by_cases hM : matchP S p = []
  · rw [hM, List.map_nil, meet_none_b, step_meet hl, hM]
    have : rows.flatMap (meetR vars p []) = [] := by
      rw [List.flatMap_eq_nil_iff]
      intro r _
      rfl
    rw [this]
    rfl
  · rw [step_meet hl]
    unfold meetE
    rw [List.flatMap_map, List.map_flatMap, List.flatMap_def, List.flatMap_def]
    congr 1
    apply List.map_congr_left
    intro r hr
    obtain ⟨h1, h2⟩ := hs (fun e => by rw [e] at hr; cases hr) hM
    rw [meetOne_filter, List.filter_map, List.map_map]
    unfold meetR
    rw [List.map_map]
    have e1 : ((fun g => decide (keyT sh g = keyT sh (boundT vars r))) ∘ evT p) = agreeB vars p r := by
      funext t
      exact key_agree h1 h2 (hl r hr)
    rw [e1]
    apply List.map_congr_left
    intro t ht
    obtain ⟨ht1, ht2⟩ := List.mem_filter.1 ht
    have hf : fitsB p t = true := (List.mem_filter.1 ht1).2
    exact (ext_ev (hl r hr) hf ht2).symm
theorem shared_v {S : List Tr} {vars : List (List UInt8)} {p : Pt} {rows : List (List Tm)} {sh : List (List UInt8)} (hl : ∀ r ∈ rows, r.length = vars.length) (hp : ∀ v ∈ varsL p, v.length ≤ maxLen) (h : SharedE (rows.map (boundT vars)) ((matchP S p).map (evT p)) sh) (h1 : rows ≠ []) (h2 : matchP S p ≠ []) : SharedV vars p sh ∧ sh.length ≤ 3 := by
  obtain ⟨r, R, rfl⟩ : ∃ r R, rows = r :: R := by
    cases rows with
    | nil => exact absurd rfl h1
    | cons r R => exact ⟨r, R, rfl⟩
  obtain ⟨t, M, hM⟩ : ∃ t M, matchP S p = t :: M := by
    cases hm : matchP S p with
    | nil => exact absurd hm h2
    | cons t M => exact ⟨t, M, rfl⟩
  obtain ⟨n1, n2, n3⟩ := h
  have hr := hl r (by simp)
  have key : ∀ v, v ∈ sh ↔ v ∈ vars ∧ v ∈ varsL p := fun v => by
    have q : ∀ hv : v.length ≤ maxLen, (v ∈ sh ↔ v ∈ vars ∧ v ∈ varsL p) := fun hv => by
      rw [n3 v hv, hM]
      show ((evT p t v).isSome = true ∧ (boundT vars r v).isSome = true) ↔ _
      constructor
      · rintro ⟨a, b⟩
        have hv2 : v ∈ varsL p := Classical.byContradiction fun hn => by rw [evT_none.2 hn] at a; cases a
        refine ⟨Classical.byContradiction fun hn => ?_, hv2⟩
        rw [(bound_none (varsL_mem.1 hv2).1 hr).2 hn] at b
        cases b
      · rintro ⟨a, b⟩
        constructor
        · cases he : evT p t v with
          | none => exact absurd b (evT_none.1 he)
          | some x => rfl
        · cases he : boundT vars r v with
          | none => exact absurd a ((bound_none (varsL_mem.1 b).1 hr).1 he)
          | some x => rfl
    constructor
    · intro hv; exact (q (n2 v hv)).1 hv
    · intro hv; exact (q (hp v hv.2)).2 hv
  exact ⟨⟨n1, key⟩, shared_few n1 (fun v hv => ((key v).1 hv).2) (varsL_few p)⟩
theorem wfK_chk {x : Tm} (h : tmChk x = 0) : wfK x := by
  obtain ⟨hk, hS, hsp⟩ := check_zero h
  have := spell_lang hsp
  refine ⟨?_, by unfold maxLen; omega, by unfold maxLen; omega⟩
  rcases hk with h | h | h <;> rw [h] <;> decide
theorem wfE_bound {S : List Tr} (hS : IsSet S) {vars : List (List UInt8)} {r : List Tm} (h : ∀ x ∈ r, ∃ t ∈ S, x = t.1 ∨ x = t.2.1 ∨ x = t.2.2) : WfE (boundT vars r) := fun v x hx => by
  obtain ⟨t, ht, e⟩ := h x (bound_mem hx)
  exact wfK_chk (set_term hS ht e)
theorem wfE_evT {S : List Tr} (hS : IsSet S) {p : Pt} {t : Tr} (ht : t ∈ S) : WfE (evT p t) := fun v x hx => by
  unfold evT at hx
  split at hx
  · cases hx
  · split at hx
    · exact wfK_chk (set_term hS ht (by injection hx with hx; exact Or.inr (Or.inr hx.symm)))
    · split at hx
      · exact wfK_chk (set_term hS ht (by injection hx with hx; exact Or.inr (Or.inl hx.symm)))
      · split at hx
        · exact wfK_chk (set_term hS ht (by injection hx with hx; exact Or.inl hx.symm))
        · cases hx
end Go.Proofs.YtaddfndohoppeaaGreat

/- The document's answer (package strataref1): letter, digit, Letters, right. -/
namespace Go.Proofs.YtaddfndohoppeaaGreat
open Go Go.RowKit Go.Proofs

end Go.Proofs.YtaddfndohoppeaaGreat

/- The document's answer (package strataref1): right at a name and at an anonymous one; Term. -/
namespace Go.Proofs.YtaddfndohoppeaaGreat
open Go Go.RowKit Go.Proofs

end Go.Proofs.YtaddfndohoppeaaGreat

/- The document's answer (package strataref1): Term, Compare, Show. -/
namespace Go.Proofs.YtaddfndohoppeaaGreat
open Go Go.RowKit Go.Proofs

end Go.Proofs.YtaddfndohoppeaaGreat

/- The document's Vars, and what it leans on: Slots, Three, Letters up to ten, Has; lists of texts held against one another. -/
namespace Go.Proofs.YtaddfndohoppeaaGreat
open Go Go.RowKit Go.Proofs Go.Maps
set_option synthInstance.maxSize 1000

end Go.Proofs.YtaddfndohoppeaaGreat

/- Has and stratasame.Texts of lists of texts, wherever these begin. -/
namespace Go.Proofs.YtaddfndohoppeaaGreat
open Go Go.RowKit Go.Proofs Go.Maps
set_option synthInstance.maxSize 1000

end Go.Proofs.YtaddfndohoppeaaGreat

/- Rows of one's own that lie in blocks of their own. -/
namespace Go.Proofs.YtaddfndohoppeaaGreat
open Go Go.RowKit Go.Proofs

theorem own_mono {W : World} {B C e s n : Nat} {v : Value} {xs : List Value} (h : W.ownsRow B e s v n xs) (hb : C ≤ B) : W.ownsRow C e s v n xs :=
  ⟨h.1, h.2.imp id fun ⟨g, cap, cur, e, hg, r⟩ => ⟨g, cap, cur, e, Nat.le_trans hb hg, r⟩⟩
/-- two rows of one's own lie in blocks of their own -/
def Far2 (v u : Value) : Prop := ∀ g, v.ownBlock = some g → u.ownBlock ≠ some g
theorem Far2.symm {v u : Value} (h : Far2 v u) : Far2 u v := fun g h1 h2 => h g h2 h1
theorem Far2.out {v u : Value} (h : Far2 v u) : u.ownBlock = none ∨ u.ownBlock ≠ v.ownBlock := by
  cases e : u.ownBlock with
  | none => exact .inl rfl
  | some g => exact .inr fun e' => h g e'.symm e
theorem Far2.grow {v v' u : Value} {W : World} {B e s n : Nat} {ys : List Value} (h : Far2 v u) (hu : W.ownsRow B e s u n ys) (hv : v'.ownBlock = v.ownBlock ∨ v'.ownBlock = some W.heap.size) : Far2 v' u := fun g h1 h2 => by
  rcases hv with hv | hv
  · exact h g (hv ▸ h1) h2
  · rw [hv] at h1
    cases h1
    have := (hu.lt _ h2).2
    omega
end Go.Proofs.YtaddfndohoppeaaGreat

/- The document's Vars: the walk. -/
namespace Go.Proofs.YtaddfndohoppeaaGreat
open Go Go.RowKit Go.Proofs Go.Maps
set_option synthInstance.maxSize 1000

attribute [local go_sem ↓] eqlEmpty neqEmpty

end Go.Proofs.YtaddfndohoppeaaGreat
