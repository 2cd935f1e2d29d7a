/- stratalaw1.ChainPlays: the walk. -/
import Derived.Test.YtnlcfnpcjkcdmadGreatDoorMCChainPlaysx6
import Derived.Deep.DeepCutAuto
import Derived.Deep.CutBlock
import Derived.Deep.RegionHeld3

namespace Go.Proofs.YtnlcfnpcjkcdmadGreatDoor
open Go Go.RowKit Go.Proofs
set_option synthInstance.maxSize 1000

attribute [local go_sem] eql_errV neq_errV guard_errV

set_option maxHeartbeats 32000000 in
set_option maxRecDepth 1000000 in
theorem chainPlays_any (sd ld qd : Option Addr) (cs cl cq : Nat) (s : List Tr) (ls : List Ly) (Q : List (List Int)) (p : Pt) (w : World) (hg : errVar w) (hs : SlT w sd s) (hl : ls ≠ [] → ∃ b o, ld = some ⟨b, o, none⟩ ∧ LsAt w b o ls) (hq : Q ≠ [] → ∃ b o, qd = some ⟨b, o, none⟩ ∧ AskAt w b o Q)
    (fs : ∀ x ∈ s, fitTr x) (ns : s.length ≤ 9223372036854775807) (fl : ∀ l ∈ ls, FitL l) (nq : ∀ q ∈ Q, q.length ≤ 9223372036854775807) (nl : ls.length ≤ 9223372036854775807) (nQ : Q.length ≤ 9223372036854775807) (fp : fitPt p) :
    Calls Tryz.prog 4 #[.slice sd s.length cs, .slice ld ls.length cl, .slice qd Q.length cq, valPt p] w fun e w' => e = .returned (.bool true) ∧ RowKit.Below w.heap.size w w' := by
  have Hargs : Hid (errVar w ∧ SlT w sd s) := ⟨hg, hs⟩
  have Hl : Hid _ := hl
  have Hq : Hid _ := hq
  have Hf : Hid _ := fl
  have Hnq : Hid _ := nq
  have Hp : Hid (fitPt p) := fp
  have HR := fun W h => RSet_any sd cs s W h fs ns
  have HW := fun W h => CNew_any sd cs s W h fs ns
  have HE := SameErrorT
  have hz : Hid (sortedN s = 0 → IsSet s) := fun h => sortedN_set.1 h
  clear hg hs hl hq fl nq fp
  unfold valPt
  go_enter Tryz.func4, Tryz.ntmps4
  go_wp2_with fail
  refine (HR _ (Hargs.out.2.below (balloc _ _))).mono ?_
  rintro e w1 ⟨rfl, hb1⟩
  have hP1 : Hid (PatAt w1 w.heap.size p) := (patBox w p 47).below hb1
  have hB1 : Hid (RowKit.Below w.heap.size w w1) := bstep (balloc _ _) hb1
  clear hb1 HR
  go_wp2_with fail
  refine (HW _ (Hargs.out.2.below hB1.out)).mono ?_
  rintro e w2 ⟨hb2, hy, hno⟩
  have hP2 : Hid (PatAt w2 w.heap.size p) := hP1.out.below hb2
  have hB2 : Hid (RowKit.Below w.heap.size w w2) := bstep hB1.out hb2
  have hw1 : w.heap.size < w1.heap.size := hP1.out.lt
  clear hP1 hB1 HW hb2
  by_cases hs0 : sortedN s = 0
  · obtain ⟨n0, rfl, hn0, hC⟩ := hy hs0
    have E0 := fun W h => HE 0 W h
    rw [show errV 0 = .nilIface from rfl] at E0
    rw [hs0]
    have hn0' : w.heap.size < n0 := Nat.lt_of_lt_of_le hw1 hn0
    have hst : Hid (PSt w n0 s p [s] (.slice none 0 0) (.slice none 0 0) w2) := ⟨⟨hC, ⟨[], Or.inl ⟨rfl, rfl⟩, LaysV.nil _⟩, fun g hg => by simp [Value.ownBlock] at hg, hB2.out, hP2.out, hn0'⟩, by simp, rfl⟩
    clear hy hno hC hs0 hz hn0
    go_wp2_with fail
    refine (E0 _ (Hargs.out.1.below hB2.out)).mono ?_
    rintro e w3 ⟨rfl, hb3⟩
    have hst3 : Hid (PSt w n0 s p [s] (.slice none 0 0) (.slice none 0 0) w3) := hst.out.below hb3
    clear hb3 hst hP2 hB2
    go_wp2_with fail
    generalize hQl : Q.length = nq at *
    have HQl : Hid (Q.length = nq) := hQl
    clear hQl
    go_loopw [13, 14] (fun vm i wr => ∃ (k : Nat) (gs : List (List Tr)) (v : Value), k ≤ nq ∧ k ≤ 50 ∧ i = .int .i64 k ∧ Hid (PSt w n0 s p gs v vm wr)) (fun _ i wr => 50 - (intOf i).toNat)
    case atStart => exact ⟨0, [s], _, Nat.zero_le _, by omega, rfl, hst3⟩
    case round =>
      obtain ⟨k, gs, v, hk1, hk2, rfl, hst⟩ := hrel
      obtain ⟨mad, mcap, hvm⟩ := hst.out.1.2.1.form
      subst hvm
      generalize hW0 : wr = W0 at *
      clear hW0
      by_cases hkq : k < nq
      · by_cases hk50 : k < 50
        · have i1 : (k : Int) < (nq : Int) := by omega
          have i2 : (k : Int) < 50 := by omega
          have i0 : (0 : Int) ≤ (k : Int) := by omega
          obtain ⟨bq, oq, rfl, hAq⟩ := Hq.out (fun e => by have := HQl.out; rw [e] at this; simp at this; omega)
          have hbw : Hid (RowKit.Below w.heap.size w W0) := hst.out.1.2.2.2.1
          obtain ⟨aq, cq', hcq, hin⟩ := hAq k (by rw [HQl.out]; exact hkq)
          have hcW : Hid (∀ W', RowKit.Below w.heap.size w W' → W'.cell? ⟨bq, oq + k, none⟩ = some (.slice aq (Q.getD k []).length cq')) := fun W' h => (h.cell (World.block_lt_of_cell? w _ hcq)).trans hcq
          have hiW : Hid (∀ j, j < (Q.getD k []).length → ∃ b' o', aq = some ⟨b', o', none⟩ ∧ ∀ W', RowKit.Below w.heap.size w W' → W'.cell? ⟨b', o' + j, none⟩ = some (.int .i64 (askJ (Q.getD k []) j))) := fun j hj => by
            obtain ⟨b', o', e, h⟩ := hin j hj
            exact ⟨b', o', e, fun W' hW => (hW.cell (World.block_lt_of_cell? w _ h)).trans h⟩
          have hzero : Hid (∀ j, ¬ j < (Q.getD k []).length → askJ (Q.getD k []) j = 0) := fun j hj => askJ_out hj
          have nq0 : (Q.getD k []).length ≤ 9223372036854775807 := Hnq.out _ (by rw [List.getD_eq_getElem?_getD, List.getElem?_eq_getElem (by rw [HQl.out]; exact hkq)]; exact List.getElem_mem _)
          clear hin hcq hAq
          generalize Q.getD k [] = q at *
          have ar0 : Hid (Num3 (W0.alloc (.cells #[.int .i64 0, .int .i64 0, .int .i64 0] 49)) W0.heap.size 0 0 0) := Num3.new _
          go_upto_block 2 with fail
          go_cut [16] (fun _ W' => Hid (Num3 W' W0.heap.size (askJ q 0) (askJ q 1) (askJ q 2)) ∧ Hid (RowKit.Below W0.heap.size W0 W'))
          case first =>
            go_wp2_with fail
            go_loopw [16] (fun i W' => ((i = .int .i64 0 ∧ Hid (Num3 W' W0.heap.size 0 0 0))
                ∨ (i = .int .i64 1 ∧ Hid (0 < q.length) ∧ Hid (Num3 W' W0.heap.size (askJ q 0) 0 0))
                ∨ (i = .int .i64 2 ∧ Hid (1 < q.length) ∧ Hid (Num3 W' W0.heap.size (askJ q 0) (askJ q 1) 0))
                ∨ (i = .int .i64 3 ∧ Hid (2 < q.length) ∧ Hid (Num3 W' W0.heap.size (askJ q 0) (askJ q 1) (askJ q 2))))
                ∧ Hid (RowKit.Below W0.heap.size W0 W')) (fun i W' => 3 - (intOf i).toNat)
            case atStart => exact ⟨.inl ⟨rfl, ar0⟩, balloc _ _⟩
            case round =>
              obtain ⟨hcs, hbl⟩ := hrel
              have hcq := hcW.out _ (bstep hbw.out hbl.out)
              rcases hcs with ⟨rfl, ha⟩ | ⟨rfl, hp, ha⟩ | ⟨rfl, hp, ha⟩ | ⟨rfl, hp, ha⟩
              · by_cases hlt : 0 < q.length
                · have j1 : (0 : Int) < (q.length : Int) := by omega
                  obtain ⟨b', o', rfl, hcell⟩ := hiW.out 0 hlt
                  have hc0 : wr.cell? ⟨b', o', none⟩ = some (.int .i64 (askJ q 0)) := hcell _ (bstep hbw.out hbl.out)
                  obtain ⟨a0, a1, a2, f0, f1, f2⟩ := id ha.out
                  have hzl := World.block_lt_of_cell? _ _ a0
                  go_wp2_with fail
                  go_roundw
                  case rel => exact ⟨.inr (.inl ⟨rfl, hlt, ha.out.set0 _⟩), hbl.out.setCell (p := ⟨W0.heap.size, 0, none⟩) (Nat.le_refl _) _⟩
                  case measure => simp [intOf]
                · have j1 : ¬ ((0 : Int) < (q.length : Int)) := by omega
                  have z0 := hzero.out 0 (by omega)
                  have z1 := hzero.out 1 (by omega)
                  have z2 := hzero.out 2 (by omega)
                  go_wp2_with fail
                  go_meet
                  case rel =>
                    refine ⟨?_, hbl⟩
                    show Num3 _ _ _ _ _
                    rw [z0, z1, z2]
                    exact ha.out
              · by_cases hlt : 1 < q.length
                · have j1 : (1 : Int) < (q.length : Int) := by omega
                  obtain ⟨b', o', rfl, hcell⟩ := hiW.out 1 hlt
                  have hc0 : wr.cell? ⟨b', o' + 1, none⟩ = some (.int .i64 (askJ q 1)) := hcell _ (bstep hbw.out hbl.out)
                  obtain ⟨a0, a1, a2, f0, f1, f2⟩ := id ha.out
                  have hzl := World.block_lt_of_cell? _ _ a0
                  go_wp2_with fail
                  go_roundw
                  case rel => exact ⟨.inr (.inr (.inl ⟨rfl, hlt, ha.out.set1 _⟩)), hbl.out.setCell (p := ⟨W0.heap.size, 1, none⟩) (Nat.le_refl _) _⟩
                  case measure => simp [intOf]
                · have j1 : ¬ ((1 : Int) < (q.length : Int)) := by omega
                  have z1 := hzero.out 1 (by omega)
                  have z2 := hzero.out 2 (by omega)
                  go_wp2_with fail
                  go_meet
                  case rel =>
                    refine ⟨?_, hbl⟩
                    show Num3 _ _ _ _ _
                    rw [z1, z2]
                    exact ha.out
              · by_cases hlt : 2 < q.length
                · have j1 : (2 : Int) < (q.length : Int) := by omega
                  obtain ⟨b', o', rfl, hcell⟩ := hiW.out 2 hlt
                  have hc0 : wr.cell? ⟨b', o' + 2, none⟩ = some (.int .i64 (askJ q 2)) := hcell _ (bstep hbw.out hbl.out)
                  obtain ⟨a0, a1, a2, f0, f1, f2⟩ := id ha.out
                  have hzl := World.block_lt_of_cell? _ _ a0
                  go_wp2_with fail
                  go_roundw
                  case rel => exact ⟨.inr (.inr (.inr ⟨rfl, hlt, ha.out.set2 _⟩)), hbl.out.setCell (p := ⟨W0.heap.size, 2, none⟩) (Nat.le_refl _) _⟩
                  case measure => simp [intOf]
                · have j1 : ¬ ((2 : Int) < (q.length : Int)) := by omega
                  have z2 := hzero.out 2 (by omega)
                  go_wp2_with fail
                  go_meet
                  case rel =>
                    refine ⟨?_, hbl⟩
                    show Num3 _ _ _ _ _
                    rw [z2]
                    exact ha.out
              · have j1 : (3 : Int) < (q.length : Int) ∨ ¬ ((3 : Int) < (q.length : Int)) := by omega
                by_cases j2 : (3 : Int) < (q.length : Int)
                · go_wp2_with fail
                  go_meet
                  case rel => exact ⟨ha, hbl⟩
                · go_wp2_with fail
                  go_meet
                  case rel => exact ⟨ha, hbl⟩
          case rest =>
            obtain ⟨hNum, hbl⟩ := hcut
            have hst2 : Hid (PSt w n0 s p gs v (.slice mad (gs.length - 1) mcap) wc) := hst.out.below hbl.out
            have hpos : 0 < gs.length := hst2.out.1.1.pos
            have hbv : n0 < W0.heap.size := hst.out.1.1.lt
            have hbo : v.ownBlock ≠ some W0.heap.size := fun e => by have := (hst.out.1.1.own _ e).2; omega
            have hbm : Value.ownBlock (.slice mad (gs.length - 1) mcap) ≠ some W0.heap.size := fun e => by
              obtain ⟨xm, hS, _⟩ := hst.out.1.2.1
              have := (hS.lt _ e).2
              omega
            obtain ⟨m, hm⟩ : ∃ m, gs.length = m + 1 := ⟨gs.length - 1, by omega⟩
            have hm1 : gs.length - 1 = m := by omega
            rw [hm1] at hst2 hbm
            rw [hm1]
            have HQm : Hid (k < nq ∧ k < 50) := ⟨hkq, hk50⟩
            clear hcW hiW hzero nq0 ar0 hst hbw
            refine go_on (by assumption) ?_
            refine playsStep _ _ _ _ _ _ _ _ _ _ _ _ _ _ _ _ _ _ _ _ _ _ _ _ _ _ _ _ _ _ _ _ _ _ _ _ _ _ _ _ _ _ _ _ _ _ _ _ _ _ _ _ _ _ _ _ _ _ _ _ _ _ _ _ _ _ _ _ _ _ _ _ _ _ _ _ _ _ _ _ _ _ _ _ _ _ _ _ _ _ _ _ _ _ _ _ _ _ _ _ _ _ _ _ _ _ _ _ _ _ _ _ _ _ _ _ _ _ _ _ _ _ _ _ _ _ _ _ _ _ _ _ _ _ _ _ _ _ _ _ _ _ _ _ _ _ _ _ _ _ _ _ _ _ _ _ _ _ _ _ _ _ _ _ _ _ _ _ _ _ _ _ _ _ _ _ _ _ _ _ _ _ _ _ _ _ _ _ _ _ _ _ _ _ _ _ _ _ _ _ _ _ _ _ _ _ _ _ _ _ _ _ _ _ _ _ _ _ _ _ _ _ _ _ _ _ _ _ _ _ _ _ _ _ _ _ _ _ _ _ _ _ _ _ _ _ _ _ _ _ _ _ _ _ _ _ _ _ _ _ _ _ _ _ _ _ _ _ _ _ _ _ _ _ _ _ _ _ _ _ _ _ _ _ _ _ _ _ _ _ _ _ _ _ _ _ _ _ _ _ _ _ _ _ _ _ _ sd ld _ cs cl cq k n0 nq W0.heap.size s ls p gs v _ _ _ w wc mad m mcap Hargs.out.1 Hargs.out.2 Hp.out Hl.out Hf.out nl hm hst2.out hNum.out (Nat.ne_of_gt hbv) hbo hbm ?_
            intros
            rename_i vm' gs' v' W' hst'
            have Hst' : Hid (PSt w n0 s p gs' v' vm' W') := hst'
            clear hst' hst2 hNum hbl hbo hbm hm hm1
            go_wp2_with fail
            go_roundw
            case rel => exact ⟨k + 1, gs', v', by have := HQm.out; omega, by have := HQm.out; omega, by go_num, Hst'⟩
            case measure => simp [intOf]; omega
        · obtain rfl : k = 50 := by omega
          have i1 : ((50 : Nat) : Int) < (nq : Int) := by omega
          have hbw : Hid (RowKit.Below w.heap.size w W0) := hst.out.1.2.2.2.1
          clear hst
          go_wp2_with fail
          exact bodyPost_ret (v := .bool true) (by simp [results, Tryz.results4, go_sem]) rfl ⟨rfl, hbw.out⟩
      · obtain rfl : k = nq := by omega
        have hbw : Hid (RowKit.Below w.heap.size w W0) := hst.out.1.2.2.2.1
        clear hst
        go_wp2_with fail
        exact bodyPost_ret (v := .bool true) (by simp [results, Tryz.results4, go_sem]) rfl ⟨rfl, hbw.out⟩
  · have e := hno hs0
    subst e
    have HEx := HE (sortedN s)
    generalize sortedN s = m at *
    have hm : (m == 0) = false := by simpa using hs0
    have hm' : (m != 0) = true := by simpa using hs0
    clear hy hno
    go_wp2_with fail
    refine (HEx _ (Hargs.out.1.below hB2.out)).mono ?_
    rintro e w3 ⟨rfl, hb3⟩
    go_wp2_with fail
    exact bodyPost_ret (v := .bool true) (by simp [results, Tryz.results4, go_sem]) rfl ⟨rfl, bstep hB2.out hb3⟩
end Go.Proofs.YtnlcfnpcjkcdmadGreatDoor
