/- match.Match and match.Count. -/
import Derived.Test.YtnlcfnpcjkcdmacGreatDoorMatchFits
import Derived.Test.YtnlcfnpcjkcdmacGreatDoorSetPlain
import Derived.OwnWalk
namespace Go.Proofs.YtnlcfnpcjkcdmacGreatDoor
open Go Go.RowKit Go.Proofs Go.Maps
set_option synthInstance.maxSize 1000

attribute [local go_sem] eql_errV neq_errV guard_errV

/-- what Match tells, and which it is -/
def matchN (l : List Tr) (p : Pt) : Int := if sortedN l = 0 then varsN p else sortedN l
def matchL (l : List Tr) (p : Pt) : List Tr := l.filter (fitsB p)
def MatchAns (l : List Tr) (p : Pt) (m : List Tr) : Prop := m = if matchN l p = 0 then matchL l p else []

theorem patBox (w : World) (p : Pt) (T : TypeId) : PatAt (w.alloc (.cells (encPt p).toArray T)) w.heap.size p := fun j v hj => by
  have h12 : j < 12 := (List.getElem?_eq_some_iff.1 hj).1
  rcases (by omega : j = 0 ∨ j = 1 ∨ j = 2 ∨ j = 3 ∨ j = 4 ∨ j = 5 ∨ j = 6 ∨ j = 7 ∨ j = 8 ∨ j = 9 ∨ j = 10 ∨ j = 11) with rfl | rfl | rfl | rfl | rfl | rfl | rfl | rfl | rfl | rfl | rfl | rfl
  all_goals
    simp [encPt] at hj
    subst hj
    simp only [encPt]
    go_simp
theorem PatAt.all {w : World} {b : Nat} {p : Pt} (h : PatAt w b p) :
    w.cell? ⟨b, 0, none⟩ = some (.string ⟨p.1.1.toArray⟩) ∧ w.cell? ⟨b, 1, none⟩ = some (.int .i64 p.1.2.1) ∧ w.cell? ⟨b, 2, none⟩ = some (.string ⟨p.1.2.2.1.toArray⟩) ∧ w.cell? ⟨b, 3, none⟩ = some (.string ⟨p.1.2.2.2.toArray⟩) ∧
    w.cell? ⟨b, 4, none⟩ = some (.string ⟨p.2.1.1.toArray⟩) ∧ w.cell? ⟨b, 5, none⟩ = some (.int .i64 p.2.1.2.1) ∧ w.cell? ⟨b, 6, none⟩ = some (.string ⟨p.2.1.2.2.1.toArray⟩) ∧ w.cell? ⟨b, 7, none⟩ = some (.string ⟨p.2.1.2.2.2.toArray⟩) ∧
    w.cell? ⟨b, 8, none⟩ = some (.string ⟨p.2.2.1.toArray⟩) ∧ w.cell? ⟨b, 9, none⟩ = some (.int .i64 p.2.2.2.1) ∧ w.cell? ⟨b, 10, none⟩ = some (.string ⟨p.2.2.2.2.1.toArray⟩) ∧ w.cell? ⟨b, 11, none⟩ = some (.string ⟨p.2.2.2.2.2.toArray⟩) :=
  ⟨h _ _ rfl, h _ _ rfl, h _ _ rfl, h _ _ rfl, h _ _ rfl, h _ _ rfl, h _ _ rfl, h _ _ rfl, h _ _ rfl, h _ _ rfl, h _ _ rfl, h _ _ rfl⟩

theorem own_slM3 {W : World} {base : Nat} {e : TypeId} {v : Value} {t : List Tr} (h : W.ownsRow base e 9 v t.length (cellsT t)) : ∃ ad cap, v = .slice ad t.length cap ∧ SlT W ad t := by
  have h' := h
  rcases h.2 with ⟨rfl, h0⟩ | ⟨g, cap, cur, rfl, _⟩
  · exact ⟨none, 0, by rw [h0], fun hne => absurd (List.eq_nil_of_length_eq_zero h0) hne⟩
  · refine ⟨some ⟨g, 0, none⟩, cap, rfl, fun _ => ⟨g, 0, rfl, fun j u hj => ?_⟩⟩
    have := h'.cells (g := g) rfl j u hj
    rwa [Addr.add_lit] at this
theorem filter_stepM (l : List Tr) (p : Tr → Bool) (k : Nat) (h : k < l.length) : (l.take (k + 1)).filter p = (l.take k).filter p ++ (if p l[k] then [l[k]] else []) := by
  rw [List.take_succ_eq_append_getElem h, List.filter_append]
  cases hp : p l[k] <;> simp [hp]

set_option maxHeartbeats 8000000 in
set_option maxRecDepth 100000 in
theorem Match_any (ad : Option Addr) (cap : Nat) (l : List Tr) (p : Pt) (w : World) (h : SlT w ad l) (hfit : ∀ x ∈ l, fitTr x) (hp : fitPt p) (hn : l.length ≤ 9223372036854775807) :
    Calls Tryz.prog 11 #[.slice ad l.length cap, valPt p] w fun e w' => Below w.heap.size w w' ∧ ∃ m ad' cap', e = .returned (.tuple #[.slice ad' m.length cap', errV (matchN l p)]) ∧ SlT w' ad' m ∧ MatchAns l p m := by
  have HS := fun W hW => Sorted_any ad cap l W hW hfit hn
  have HV := fun W => Vars_any p W hp
  have HA := fun W => askerM_any p W
  have HF := fun bx x W (hW : PatAt W bx p) => fits_any bx p x W hW hp
  have Hl : Hid (SlT w ad l) := h
  have Hset : Hid (sortedN l = 0 → l.length ≤ 200) := fun h => (sortedN_set.1 h).1
  have fin : Hid (matchN l p = if sortedN l = 0 then varsN p else sortedN l) := rfl
  have hA : Hid (∀ m, (m = if matchN l p = 0 then matchL l p else []) → MatchAns l p m) := fun m h => h
  obtain ⟨i0, hi, hz⟩ := Option.map_eq_some_iff.1 infoTr
  simp only [Prod.mk.injEq] at hz
  obtain ⟨hz0, hz1, hz2⟩ := hz
  clear h hfit hp hn
  generalize MatchAns l p = A at *
  generalize matchN l p = N at *
  unfold valPt at HV HA ⊢
  cases hs : (sortedN l == 0)
  · go_enter Tryz.func11, Tryz.ntmps11
    go_wp2_with fail
    refine (HS _ (Hl.out.below (balloc _ _))).mono ?_
    rintro e w1 ⟨rfl, hb1⟩
    go_wp2_with fail
    simp at hs
    have hN : N = sortedN l := by rw [fin.out, if_neg hs]
    exact bodyPost_ret (v := .tuple #[.slice none 0 0, errV (sortedN l)]) (by simp [results, Tryz.results11, go_sem]) rfl ⟨bstep (balloc _ _) hb1, [], none, 0, by rw [hN]; rfl, fun h => absurd rfl h, hA.out _ (by rw [hN, if_neg hs])⟩
  · have hs0 : sortedN l = 0 := by simpa using hs
    have h200 := Hset.out hs0
    have hN : Hid (N = varsN p) := by show _ = _; rw [fin.out, if_pos hs0]
    clear hs0 Hset fin
    cases hv : (varsN p == 0)
    · go_enter Tryz.func11, Tryz.ntmps11
      go_wp2_with fail
      refine (HS _ (Hl.out.below (balloc _ _))).mono ?_
      rintro e w1 ⟨rfl, hb1⟩
      obtain ⟨p0, p1, p2, p3, p4, p5, p6, p7, p8, p9, p10, p11⟩ := ((patBox w p 28).below hb1).all
      go_wp2_with fail
      refine (HV _).mono ?_
      rintro e w2 ⟨hb2, m, ad', c', rfl, hm, hans⟩
      clear p0 p1 p2 p3 p4 p5 p6 p7 p8 p9 p10 p11
      go_wp2_with fail
      simp at hv
      exact bodyPost_ret (v := .tuple #[.slice none 0 0, errV (varsN p)]) (by simp [results, Tryz.results11, go_sem]) rfl ⟨bstep (bstep (balloc _ _) hb1) hb2, [], none, 0, by rw [hN.out]; rfl, fun h => absurd rfl h, hA.out _ (by rw [hN.out, if_neg hv])⟩
    · have hv0 : Hid (N = 0) := by show _ = _; rw [hN.out]; simpa using hv
      go_enter Tryz.func11, Tryz.ntmps11
      go_wp2_with fail
      refine (HS _ (Hl.out.below (balloc _ _))).mono ?_
      rintro e w1 ⟨rfl, hb1⟩
      have hpb : Hid (PatAt w1 w.heap.size p) := (patBox w p 28).below hb1
      obtain ⟨p0, p1, p2, p3, p4, p5, p6, p7, p8, p9, p10, p11⟩ := hpb.out.all
      go_wp2_with fail
      refine (HV _).mono ?_
      rintro e w2 ⟨hb2, m, ad', c', rfl, hm, hans⟩
      clear p0 p1 p2 p3 p4 p5 p6 p7 p8 p9 p10 p11 hm hans
      obtain ⟨p0, p1, p2, p3, p4, p5, p6, p7, p8, p9, p10, p11⟩ := (hpb.out.below hb2).all
      go_wp2_with fail
      refine (HA _).mono ?_
      rintro e w3 ⟨bx, rfl, hpat, hb3⟩
      have Hpat : Hid (PatAt w3 bx p) := hpat
      have hB3 : Hid (Below w.heap.size w w3) := bstep (bstep (bstep (balloc _ _) hb1) hb2) hb3
      have Hl3 : Hid (SlT w3 ad l) := Hl.out.below hB3.out
      have eg := enters71
      clear p0 p1 p2 p3 p4 p5 p6 p7 p8 p9 p10 p11 hpat hb1 hb2 hb3 hpb HS HV HA hs hv
      go_wp2_with fail
      go_loopw [9, 30] (fun v i wr => ∃ k : Nat, k ≤ l.length ∧ i = .int .i64 k ∧ Hid (wr.ownsRow w3.heap.size 82 9 v ((l.take k).filter (fitsB p)).length (cellsT ((l.take k).filter (fitsB p)))) ∧ Below w3.heap.size w3 wr) (fun _ i wr => l.length - (intOf i).toNat)
      case atStart => exact ⟨0, Nat.zero_le _, rfl, by show World.ownsRow _ _ _ _ _ _ _; rw [List.take_zero]; exact World.ownsRow_nil _ _ _ _, Below.refl _ _⟩
      case round =>
        obtain ⟨k, hk, rfl, hown, hbr⟩ := hrel
        by_cases hlt : k < l.length
        · obtain ⟨b, o, rfl, hr⟩ := (Hl3.out.below hbr).at k hlt
          obtain ⟨c0, c1, c2, c3, c4, c5, c6, c7, c8⟩ := hr.at k hlt
          have i0' : (0 : Int) ≤ (k : Int) := by omega
          have i1 : (k : Int) < (l.length : Int) := by omega
          have hstep : Hid _ := filter_stepM l (fitsB p) k hlt
          have hfil : ((l.take k).filter (fitsB p)).length ≤ k := Nat.le_trans (List.length_filter_le _ _) (by simp; omega)
          have H := fun W (hW : PatAt W bx p) => HF bx l[k] W hW
          have hzr := hbr.size
          generalize ht : (l.take (k + 1)).filter (fitsB p) = t1 at hstep
          have Ht : Hid _ := ht
          generalize (l.take k).filter (fitsB p) = t0 at *
          generalize l[k] = y at *
          clear hr ht
          cases hp : fitsB p y
          · rw [hp] at H
            have hs2 : Hid (t1 = t0) := by have := hstep.out; rw [hp] at this; simpa [Hid] using this
            unfold valTr at H
            go_wp2_with fail
            go_at_fn 71
            refine (H _ (Hpat.out.below (bstep hbr (balloc _ _)))).mono ?_
            rintro e w4 ⟨rfl, hb4⟩
            go_wp2_with fail
            go_roundw
            case rel =>
              refine ⟨k + 1, by omega, by go_num, ?_, bstep (bstep hbr (balloc _ _)) hb4⟩
              show World.ownsRow _ _ _ _ _ _ _
              rw [Ht.out, hs2.out]
              exact ownsRow_belowV (hown.out.alloc _) hb4
            case measure => simp [intOf]; omega
          · rw [hp] at H
            have hs2 : Hid (t1 = t0 ++ [y]) := by have := hstep.out; rw [hp] at this; simpa [Hid] using this
            unfold valTr at H
            go_wp2_with fail
            go_at_fn 71
            refine (H _ (Hpat.out.below (bstep hbr (balloc _ _)))).mono ?_
            rintro e w4 ⟨rfl, hb4⟩
            have hrow1 : Hid (w4.ownsRow w3.heap.size 82 9 _ t0.length (cellsT t0)) := ownsRow_belowV (hown.out.alloc _) hb4
            have hB1 := bstep (bstep hbr (balloc _ _)) hb4
            have hz1' := hB1.size
            obtain ⟨a0, a1, a2, b0, b1, b2, d0, d1, d2, hzz⟩ := ninebox hb4
            clear c0 c1 c2 c3 c4 c5 c6 c7 c8 hown
            go_wp2_with (at_builtin; refine wpList_append_own _ rfl _ _ 22 rfl w3.heap.size 82 i0 (.agg (encTr zeroTr).toArray) 9 120 Tryz.underlying22 hi hz0 hz1 hz2 rfl (by decide) _ _ _ rfl (hrow1.out.alloc _) ⟨w4.heap.size, 0, none⟩ 1 1 (encTr y) rfl rfl ?c1 ?c2 ?c3 ?c4 ?c5 ?_)
            case c1 =>
              intro i u hi'
              have h9 : i < 9 := (List.getElem?_eq_some_iff.1 hi').1
              rw [Addr.add_lit]
              rcases (by omega : i = 0 ∨ i = 1 ∨ i = 2 ∨ i = 3 ∨ i = 4 ∨ i = 5 ∨ i = 6 ∨ i = 7 ∨ i = 8) with rfl | rfl | rfl | rfl | rfl | rfl | rfl | rfl | rfl
              all_goals
                simp [encTr] at hi'
                subst hi'
                go_simp
            case c2 => exact encTr_one y
            case c3 => unfold maxLen; omega
            case c4 => omega
            case c5 => simp; omega
            intro v' w9 hown' hgrow _
            have hbel := (hB1.alloc hz1' (.cells (encTr y).toArray 82)).grown hgrow (by simp; omega) (fun k hk => (hrow1.out.lt k hk).1)
            go_wp2_with fail
            go_roundw
            case rel =>
              refine ⟨k + 1, by omega, by go_num, ?_, hbel⟩
              show World.ownsRow _ _ _ _ _ _ _
              rw [Ht.out, hs2.out]
              simpa [cellsT] using hown'
            case measure => simp [intOf]; omega
        · obtain rfl : k = l.length := by omega
          have hown' := hown.out
          rw [List.take_length] at hown'
          obtain ⟨ad', cap', rfl, hsl⟩ := own_slM3 hown'
          have Hsl : Hid (SlT wr ad' (matchL l p)) := hsl
          clear hown' hown hsl
          rw [show l.filter (fitsB p) = matchL l p from rfl]
          go_wp2_with fail
          exact bodyPost_ret (v := .tuple #[.slice ad' (matchL l p).length cap', .nilIface]) (by simp [results, Tryz.results11, go_sem]) rfl ⟨hB3.out.trans (hbr.mono hB3.out.size), matchL l p, ad', cap', by rw [hv0.out]; rfl, Hsl.out, hA.out _ (by rw [hv0.out]; rfl)⟩

/-- how many -/
def CountAns (l : List Tr) (p : Pt) : Nat := if matchN l p = 0 then (matchL l p).length else 0
set_option maxHeartbeats 1000000 in
set_option maxRecDepth 100000 in
theorem Count_any (ad : Option Addr) (cap : Nat) (l : List Tr) (p : Pt) (w : World) (h : SlT w ad l) (hfit : ∀ x ∈ l, fitTr x) (hp : fitPt p) (hn : l.length ≤ 9223372036854775807) :
    Calls Tryz.prog 13 #[.slice ad l.length cap, valPt p] w fun e w' => e = .returned (.tuple #[.int .i64 (CountAns l p), errV (matchN l p)]) ∧ Below w.heap.size w w' := by
  have HM := fun W hW => Match_any ad cap l p W hW hfit hp hn
  have Hl : Hid (SlT w ad l) := h
  have hA : Hid (∀ m, MatchAns l p m → m.length = CountAns l p) := fun m hm => by
    unfold MatchAns at hm
    unfold CountAns
    rw [hm]
    split <;> simp
  clear h hfit hp hn
  generalize matchN l p = N at *
  generalize CountAns l p = C at *
  generalize MatchAns l p = A at *
  unfold valPt at HM ⊢
  go_enter Tryz.func13, Tryz.ntmps13
  go_wp2_with fail
  refine (HM _ (Hl.out.below (balloc _ _))).mono ?_
  rintro e w1 ⟨hb1, m, ad', c', rfl, hm, hans⟩
  have hc := hA.out m hans
  rw [hc]
  go_wp2_with fail
  exact bodyPost_ret (v := .tuple #[.int .i64 C, errV N]) (by simp [results, Tryz.results13, go_sem]) rfl ⟨rfl, bstep (balloc _ _) hb1⟩
end Go.Proofs.YtnlcfnpcjkcdmacGreatDoor
