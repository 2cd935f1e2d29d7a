/- The document's Vars: the walk. -/
import Derived.Test.YtnlcfnpcjkcdmacGreatDoorRefVars
import Derived.Test.YtnlcfnpcjkcdmacGreatDoorFarRows
import Derived.OwnWalk
namespace Go.Proofs.YtnlcfnpcjkcdmacGreatDoor
open Go Go.RowKit Go.Proofs Go.Maps
set_option synthInstance.maxSize 1000

attribute [local go_sem ↓] eqlEmpty neqEmpty

set_option maxHeartbeats 8000000 in
set_option maxRecDepth 100000 in
theorem RVarsO_any (p : Pt) (w : World) (hp : fitPt p) :
    Calls Tryz.prog 5 #[valPt p] w fun e w' => Below w.heap.size w w' ∧ ∃ m ad cap, e = .returned (.tuple #[.slice ad m.length cap, .int .i64 (varsN p)]) ∧ w'.ownsRow w.heap.size 9 1 (.slice ad m.length cap) m.length (m.map encV) ∧ VarsAns p m := by
  have HS := RSlots_any p
  have Hp : Hid (fitPt p) := hp
  obtain ⟨i0, hi0, hz⟩ := Option.map_eq_some_iff.1 infoStr
  simp only [Prod.mk.injEq] at hz
  obtain ⟨hz0, hz1, hz2⟩ := hz
  clear hp
  unfold valPt at HS ⊢
  have hA : Hid (∀ m, (m = if varsN p = 0 then varsL p else []) → VarsAns p m) := fun m h => h
  generalize VarsAns p = A at *
  generalize hvN : varsN p = N at *
  have HN : Hid (varsN p = N) := hvN
  clear hvN
  go_enter Tryz.func5, Tryz.ntmps5
  go_wp2_with fail
  refine (HS _).mono ?_
  rintro e w1 ⟨bs, rfl, hps, hb1⟩
  have hB1 := bstep (balloc _ _) hb1
  have Hps : Hid (PatAt w1 bs p) := hps
  clear hps hb1 HS
  go_wp2_with fail
  go_loopw [4, 6] (fun v i wr => ∃ k : Nat, k ≤ 3 ∧ i = .int .i64 k ∧ Hid (wr.ownsRow w1.heap.size 9 1 v (vK p k).length ((vK p k).map encV)) ∧ Hid (N = restN p k) ∧ Below w1.heap.size w1 wr) (fun _ i wr => 3 - (intOf i).toNat)
  case atStart => exact ⟨0, by omega, rfl, World.ownsRow_nil _ _ _ _, HN.out.symm.trans rfl, Below.refl _ _⟩
  case round =>
    obtain ⟨k, hk, rfl, hown, hrest, hbr⟩ := hrel
    by_cases hlt : k < 3
    · have hst : Hid _ := restN_step p k hlt
      have hvs : Hid _ := vK_step p k hlt
      have hvl : (vK p k).length ≤ 3 := Nat.le_trans (vK_len p k hk) hk
      have hfs : Hid (fitSl (slotK p k)) := fit_slotK Hp.out k
      have i1 : (k : Int) < 3 := by omega
      have i0' : (0 : Int) ≤ (k : Int) := by omega
      have hzr := hbr.size
      have hps := Hps.out.below hbr
      have hbs := hps.lt
      obtain ⟨c0, c1, c2, c3⟩ := hps.at k hlt
      clear hps
      generalize slotK p k = s at *
      obtain ⟨v, kk, S, L⟩ := s
      dsimp only at c0 c1 c2 c3
      have c4 : wr.cell? ⟨bs, k * 4 + 1 + 1, none⟩ = some (.string ⟨S.toArray⟩) := c2
      have c5 : wr.cell? ⟨bs, k * 4 + 1 + 2, none⟩ = some (.string ⟨L.toArray⟩) := c3
      have HT := fun W => RTerm_any kk S L W hfs.out.2.1 hfs.out.2.2
      have HL := fun W => LettersTen_any v W hfs.out.1
      cases hve : v.isEmpty
      rotate_left
      · obtain rfl : v = [] := by simpa using hve
        have hsn : Hid (slotN ([], kk, S, L) = checkN kk S L) := rfl
        have hv2 : Hid (vK p (k + 1) = vK p k) := hvs.out
        clear hve
        generalize checkN kk S L = c at *
        cases hc : (c != 0)
        · have hr2 : Hid (N = restN p (k + 1)) := by show _ = _; rw [hrest.out, hst.out, hsn.out, if_pos (by simpa using hc)]
          go_wp2_with fail
          refine (HT _).mono ?_
          rintro e w2 ⟨rfl, hb2⟩
          go_wp2_with fail
          go_roundw
          case rel =>
            refine ⟨k + 1, by omega, by go_num, ?_, hr2, bstep hbr hb2⟩
            show World.ownsRow _ _ _ _ _ _ _
            rw [hv2.out]
            exact ownsRow_belowV hown.out hb2
          case measure => simp [intOf]; omega
        · have hcn : ¬ c = 0 := by simpa using hc
          have hNN : N = c := by rw [hrest.out, hst.out, hsn.out, if_neg hcn]
          have HNN : Hid (N = c) := hNN
          have HCN : Hid (¬ c = 0) := hcn
          clear hNN hcn
          go_wp2_with fail
          refine (HT _).mono ?_
          rintro e w2 ⟨rfl, hb2⟩
          go_wp2_with fail
          exact bodyPost_ret (v := .tuple #[.slice none 0 0, .int .i64 c]) (by simp [results, Tryz.results5, go_sem]) rfl ⟨bstep hB1 (bstep hbr hb2), [], none, 0, by rw [HNN.out]; rfl, World.ownsRow_nil _ _ _ _, hA.out _ (by rw [HNN.out, if_neg HCN.out])⟩
      · have hvn : Hid (¬ v = []) := by show ¬ v = []; simpa using hve
        have hsn : Hid (slotN (v, kk, S, L) = if spellV v = false then 2 else if (kk, S, L) = tmZero then 0 else 3) := by
          show slotN _ = _
          unfold slotN
          rw [if_neg hvn.out]
        rw [ten_spell hvn.out] at HL
        have hvs2 : Hid (vK p (k + 1) = if v ∈ vK p k then vK p k else vK p k ++ [v]) := by
          show _ = _
          rw [hvs.out]
          exact if_neg hvn.out
        clear hvs
        generalize spellV v = sp at *
        cases sp
        · have HNN : Hid (N = 2) := by show _ = _; rw [hrest.out, hst.out, hsn.out]; simp
          go_wp2_with fail
          refine (HL _).mono ?_
          rintro e w2 ⟨rfl, rfl⟩
          go_wp2_with fail
          exact bodyPost_ret (v := .tuple #[.slice none 0 0, .int .i64 2]) (by simp [results, Tryz.results5, go_sem]) rfl ⟨bstep hB1 hbr, [], none, 0, by rw [HNN.out]; rfl, World.ownsRow_nil _ _ _ _, hA.out _ (by rw [HNN.out]; rfl)⟩
        · by_cases hz : (kk, S, L) = tmZero
          · obtain ⟨rfl, rfl, rfl⟩ : kk = 0 ∧ S = [] ∧ L = [] := by simpa [tmZero] using hz
            have hr2 : Hid (N = restN p (k + 1)) := by show _ = _; rw [hrest.out, hst.out, hsn.out]; simp [tmZero]
            clear hz hst hrest hsn
            obtain ⟨ad, cap, rfl, hsl0⟩ := own_v hown.out
            have hsl : Hid (SlV wr ad (vK p k)) := hsl0
            have HC := fun W h => RHas_any ad cap (vK p k) v W h (by omega)
            clear hsl0
            generalize ht : vK p (k + 1) = t1 at *
            have Ht : Hid _ := ht
            generalize vK p k = t0 at *
            clear ht
            cases hd : decide (v ∈ t0)
            · have hv2 : Hid (t1 = t0 ++ [v]) := by show _ = _; rw [hvs2.out, if_neg (by simpa using hd)]
              rw [hd] at HC
              go_wp2_with fail
              refine (HL _).mono ?_
              rintro e w2 ⟨rfl, rfl⟩
              go_wp2_with fail
              refine (HC _ (hsl.out.below (balloc _ _))).mono ?_
              rintro e w4 ⟨rfl, hw4⟩
              subst hw4
              go_wp2_with (at_builtin; refine wpList_append_own _ rfl _ _ 29 rfl w1.heap.size 9 i0 (.string ByteArray.empty) 1 16 Tryz.underlying29 hi0 hz0 hz1 hz2 rfl (by decide) _ _ _ rfl ((hown.out.alloc _).alloc _) ⟨w2.heap.size + 1, 0, none⟩ 1 1 [encV v] rfl rfl ?c1 ?c2 ?c3 ?c4 ?c5 ?_)
              case c1 =>
                intro j u hj
                have h1 : j < 1 := (List.getElem?_eq_some_iff.1 hj).1
                obtain rfl : j = 0 := by omega
                simp [encV] at hj
                subst hj
                rw [Addr.add_lit]
                go_simp
              case c2 => intro u hu; rw [List.mem_singleton.1 hu]; rfl
              case c3 => unfold maxLen; omega
              case c4 => omega
              case c5 => simp; omega
              intro v' w9 hown' hgrow _
              have hbel := ((hbr.alloc hzr (.cells #[.int .i64 0, .string ⟨#[]⟩, .string ⟨#[]⟩] 24)).alloc (by simp; omega) (.cells #[encV v] 9)).grown hgrow (by simp; omega) (fun k hk => (hown.out.lt k hk).1)
              go_wp2_with fail
              go_roundw
              case rel =>
                refine ⟨k + 1, by omega, by go_num, ?_, hr2, hbel⟩
                show World.ownsRow _ _ _ _ _ _ _
                rw [Ht.out, hv2.out, List.length_append, List.map_append]
                exact hown'
              case measure => simp [intOf]; omega
            · have hv2 : Hid (t1 = t0) := by show _ = _; rw [hvs2.out, if_pos (by simpa using hd)]
              rw [hd] at HC
              go_wp2_with fail
              refine (HL _).mono ?_
              rintro e w2 ⟨rfl, rfl⟩
              go_wp2_with fail
              refine (HC _ (hsl.out.below (balloc _ _))).mono ?_
              rintro e w4 ⟨rfl, hw4⟩
              subst hw4
              go_wp2_with fail
              go_roundw
              case rel =>
                refine ⟨k + 1, by omega, by go_num, ?_, hr2, bstep hbr (balloc _ _)⟩
                show World.ownsRow _ _ _ _ _ _ _
                rw [Ht.out, hv2.out]
                exact hown.out.alloc _
              case measure => simp [intOf]; omega
          · have HNN : Hid (N = 3) := by show _ = _; rw [hrest.out, hst.out, hsn.out]; simp [hz]
            have hcs : (kk == 0 && (S.isEmpty && L.isEmpty)) = false := by
              cases h : (kk == 0 && (S.isEmpty && L.isEmpty))
              · rfl
              · exact absurd (by simp at h; obtain ⟨rfl, rfl, rfl⟩ := h; rfl) hz
            clear hz hst hrest hsn
            cases h1 : (kk != 0)
            · have h1' : (kk == 0) = true := by simpa using h1
              cases h2 : S.isEmpty
              · go_wp2_with fail
                refine (HL _).mono ?_
                rintro e w2 ⟨rfl, rfl⟩
                go_wp2_with fail
                exact bodyPost_ret (v := .tuple #[.slice none 0 0, .int .i64 3]) (by simp [results, Tryz.results5, go_sem]) rfl ⟨bstep hB1 (bstep hbr (balloc _ _)), [], none, 0, by rw [HNN.out]; rfl, World.ownsRow_nil _ _ _ _, hA.out _ (by rw [HNN.out]; rfl)⟩
              · have h3 : L.isEmpty = false := by rw [h1', h2] at hcs; simpa using hcs
                go_wp2_with fail
                refine (HL _).mono ?_
                rintro e w2 ⟨rfl, rfl⟩
                go_wp2_with fail
                exact bodyPost_ret (v := .tuple #[.slice none 0 0, .int .i64 3]) (by simp [results, Tryz.results5, go_sem]) rfl ⟨bstep hB1 (bstep hbr (balloc _ _)), [], none, 0, by rw [HNN.out]; rfl, World.ownsRow_nil _ _ _ _, hA.out _ (by rw [HNN.out]; rfl)⟩
            · go_wp2_with fail
              refine (HL _).mono ?_
              rintro e w2 ⟨rfl, rfl⟩
              go_wp2_with fail
              exact bodyPost_ret (v := .tuple #[.slice none 0 0, .int .i64 3]) (by simp [results, Tryz.results5, go_sem]) rfl ⟨bstep hB1 (bstep hbr (balloc _ _)), [], none, 0, by rw [HNN.out]; rfl, World.ownsRow_nil _ _ _ _, hA.out _ (by rw [HNN.out]; rfl)⟩
    · obtain rfl : k = 3 := by omega
      have hbase := hB1.size
      obtain ⟨ad, cap, rfl, _⟩ := own_v hown.out
      have hsl := own_mono hown.out hbase
      have H0 : Hid (N = 0) := hrest.out
      have hvw : vK p 3 = varsL p := rfl
      rw [hvw] at hsl
      have Hsl : Hid _ := hsl
      rw [hvw]
      clear hown hrest hvw hsl
      go_wp2_with fail
      exact bodyPost_ret (v := .tuple #[.slice ad (varsL p).length cap, .int .i64 0]) (by simp [results, Tryz.results5, go_sem]) rfl ⟨bstep hB1 hbr, _, ad, cap, by rw [H0.out], Hsl.out, hA.out _ (by rw [H0.out]; rfl)⟩
theorem RVars_any (p : Pt) (w : World) (hp : fitPt p) :
    Calls Tryz.prog 5 #[valPt p] w fun e w' => Below w.heap.size w w' ∧ ∃ m ad cap, e = .returned (.tuple #[.slice ad m.length cap, .int .i64 (varsN p)]) ∧ SlV w' ad m ∧ VarsAns p m := by
  refine (RVarsO_any p w hp).mono ?_
  rintro e w' ⟨hb, m, ad, cap, rfl, ho, ha⟩
  obtain ⟨ad', cap', e', hs⟩ := own_v ho
  cases e'
  exact ⟨hb, m, ad, cap, rfl, hs, ha⟩
end Go.Proofs.YtnlcfnpcjkcdmacGreatDoor
