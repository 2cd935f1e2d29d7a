import Derived.Test.YtbacenhgedopjaaGreatDoorMA0x5
import Derived.OwnWalk
import Derived.Test.YtbacenhgedopjaaGreatDoorMA0x3
import Derived.Test.YtbacenhgedopjaaGreatDoorMA0x4
import Derived.Lib.AppendZeros
import Derived.Test.YtbacenhgedopjaaGreatDoorMA0x2
import Derived.Deep.DeepCutAuto
import Derived.Maps.OwnSet
import Derived.DeepKeys4
import Derived.Test.YtbacenhgedopjaaGreatDoorMA0x1

/- The document's Vars: the walk. -/
namespace Go.Proofs.YtbacenhgedopjaaGreatDoor
open Go Go.RowKit Go.Proofs Go.Maps
set_option synthInstance.maxSize 1000

attribute [local go_sem ↓] eqlEmpty neqEmpty

set_option maxHeartbeats 8000000 in
set_option maxRecDepth 100000 in
theorem RVarsO_any (p : Pt) (w : World) (hp : fitPt p) :
    Calls Tryz.prog 13 #[valPt p] w fun e w' => Below w.heap.size w w' ∧ ∃ m ad cap, e = .returned (.tuple #[.slice ad m.length cap, .int .i64 (varsN p)]) ∧ w'.ownsRow w.heap.size 9 1 (.slice ad m.length cap) m.length (m.map encV) ∧ VarsAns p m := by
  have HS := RSlots_any p
  have Hp : Hid (fitPt p) := hp
  obtain ⟨i0, hi0, hz⟩ := Option.map_eq_some_iff.1 infoStrV
  simp only [Prod.mk.injEq] at hz
  obtain ⟨hz0, hz1, hz2⟩ := hz
  clear hp
  unfold valPt at HS ⊢
  have hA : Hid (∀ m, (m = if varsN p = 0 then varsL p else []) → VarsAns p m) := fun m h => h
  generalize VarsAns p = A at *
  generalize hvN : varsN p = N at *
  have HN : Hid (varsN p = N) := hvN
  clear hvN
  go_enter Tryz.func13, Tryz.ntmps13
  go_wp2_with fail
  refine (HS _).mono ?_
  rintro e w1 ⟨bs, rfl, hps, hb1⟩
  have hB1 := bstep (balloc _ _) hb1
  have Hps : Hid (PatAt w1 bs p) := hps
  clear hps hb1 HS
  go_wp2_with fail
  go_loopw [4, 6] (fun v i wr => ∃ k : Nat, k ≤ 3 ∧ i = .int .i64 k ∧ Hid (wr.ownsRow w1.heap.size 9 1 v (vK p k).length ((vK p k).map encV)) ∧ Hid (N = restN p k) ∧ Below w1.heap.size w1 wr) (fun _ i wr => 3 - (intOf i).toNat)
  case atStart => exact ⟨0, by omega, rfl, World.ownsRow_nil _ _ _ _, HN.out.symm.trans rfl, Below.refl _ _⟩
  case round =>
    obtain ⟨k, hk, rfl, hown, hrest, hbr⟩ := hrel
    by_cases hlt : k < 3
    · have hst : Hid _ := restN_step p k hlt
      have hvs : Hid _ := vK_step p k hlt
      have hvl : (vK p k).length ≤ 3 := Nat.le_trans (vK_len p k hk) hk
      have hfs : Hid (fitSl (slotK p k)) := fit_slotK Hp.out k
      have i1 : (k : Int) < 3 := by omega
      have i0' : (0 : Int) ≤ (k : Int) := by omega
      have hzr := hbr.size
      have hps := Hps.out.below hbr
      have hbs := hps.lt
      obtain ⟨c0, c1, c2, c3⟩ := hps.at k hlt
      clear hps
      generalize slotK p k = s at *
      obtain ⟨v, kk, S, L⟩ := s
      dsimp only at c0 c1 c2 c3
      have c4 : wr.cell? ⟨bs, k * 4 + 1 + 1, none⟩ = some (.string ⟨S.toArray⟩) := c2
      have c5 : wr.cell? ⟨bs, k * 4 + 1 + 2, none⟩ = some (.string ⟨L.toArray⟩) := c3
      have HT := fun W => RTerm_any kk S L W hfs.out.2.1 hfs.out.2.2
      have HL := fun W => LettersTen_any v W hfs.out.1
      cases hve : v.isEmpty
      rotate_left
      · obtain rfl : v = [] := by simpa using hve
        have hsn : Hid (slotN ([], kk, S, L) = checkN kk S L) := rfl
        have hv2 : Hid (vK p (k + 1) = vK p k) := hvs.out
        clear hve
        generalize checkN kk S L = c at *
        cases hc : (c != 0)
        · have hr2 : Hid (N = restN p (k + 1)) := by show _ = _; rw [hrest.out, hst.out, hsn.out, if_pos (by simpa using hc)]
          go_wp2_with fail
          refine (HT _).mono ?_
          rintro e w2 ⟨rfl, hb2⟩
          go_wp2_with fail
          go_roundw
          case rel =>
            refine ⟨k + 1, by omega, by go_num, ?_, hr2, bstep hbr hb2⟩
            show World.ownsRow _ _ _ _ _ _ _
            rw [hv2.out]
            exact ownsRow_belowV hown.out hb2
          case measure => simp [intOf]; omega
        · have hcn : ¬ c = 0 := by simpa using hc
          have hNN : N = c := by rw [hrest.out, hst.out, hsn.out, if_neg hcn]
          have HNN : Hid (N = c) := hNN
          have HCN : Hid (¬ c = 0) := hcn
          clear hNN hcn
          go_wp2_with fail
          refine (HT _).mono ?_
          rintro e w2 ⟨rfl, hb2⟩
          go_wp2_with fail
          exact bodyPost_ret (v := .tuple #[.slice none 0 0, .int .i64 c]) (by simp [results, Tryz.results13, go_sem]) rfl ⟨bstep hB1 (bstep hbr hb2), [], none, 0, by rw [HNN.out]; rfl, World.ownsRow_nil _ _ _ _, hA.out _ (by rw [HNN.out, if_neg HCN.out])⟩
      · have hvn : Hid (¬ v = []) := by show ¬ v = []; simpa using hve
        have hsn : Hid (slotN (v, kk, S, L) = if spellV v = false then 2 else if (kk, S, L) = tmZero then 0 else 3) := by
          show slotN _ = _
          unfold slotN
          rw [if_neg hvn.out]
        rw [ten_spell hvn.out] at HL
        have hvs2 : Hid (vK p (k + 1) = if v ∈ vK p k then vK p k else vK p k ++ [v]) := by
          show _ = _
          rw [hvs.out]
          exact if_neg hvn.out
        clear hvs
        generalize spellV v = sp at *
        cases sp
        · have HNN : Hid (N = 2) := by show _ = _; rw [hrest.out, hst.out, hsn.out]; simp
          go_wp2_with fail
          refine (HL _).mono ?_
          rintro e w2 ⟨rfl, rfl⟩
          go_wp2_with fail
          exact bodyPost_ret (v := .tuple #[.slice none 0 0, .int .i64 2]) (by simp [results, Tryz.results13, go_sem]) rfl ⟨bstep hB1 hbr, [], none, 0, by rw [HNN.out]; rfl, World.ownsRow_nil _ _ _ _, hA.out _ (by rw [HNN.out]; rfl)⟩
        · by_cases hz : (kk, S, L) = tmZero
          · obtain ⟨rfl, rfl, rfl⟩ : kk = 0 ∧ S = [] ∧ L = [] := by simpa [tmZero] using hz
            have hr2 : Hid (N = restN p (k + 1)) := by show _ = _; rw [hrest.out, hst.out, hsn.out]; simp [tmZero]
            clear hz hst hrest hsn
            obtain ⟨ad, cap, rfl, hsl0⟩ := own_v hown.out
            have hsl : Hid (SlV wr ad (vK p k)) := hsl0
            have HC := fun W h => RHas_any ad cap (vK p k) v W h (by omega)
            clear hsl0
            generalize ht : vK p (k + 1) = t1 at *
            have Ht : Hid _ := ht
            generalize vK p k = t0 at *
            clear ht
            cases hd : decide (v ∈ t0)
            · have hv2 : Hid (t1 = t0 ++ [v]) := by show _ = _; rw [hvs2.out, if_neg (by simpa using hd)]
              rw [hd] at HC
              go_wp2_with fail
              refine (HL _).mono ?_
              rintro e w2 ⟨rfl, rfl⟩
              go_wp2_with fail
              refine (HC _ (hsl.out.below (balloc _ _))).mono ?_
              rintro e w4 ⟨rfl, hw4⟩
              subst hw4
              go_wp2_with (at_builtin; refine wpList_append_own _ rfl _ _ 23 rfl w1.heap.size 9 i0 (.string ByteArray.empty) 1 16 Tryz.underlying23 hi0 hz0 hz1 hz2 rfl (by decide) _ _ _ rfl ((hown.out.alloc _).alloc _) ⟨w2.heap.size + 1, 0, none⟩ 1 1 [encV v] rfl rfl ?c1 ?c2 ?c3 ?c4 ?c5 ?_)
              case c1 =>
                intro j u hj
                have h1 : j < 1 := (List.getElem?_eq_some_iff.1 hj).1
                obtain rfl : j = 0 := by omega
                simp [encV] at hj
                subst hj
                rw [Addr.add_lit]
                go_simp
              case c2 => intro u hu; rw [List.mem_singleton.1 hu]; rfl
              case c3 => unfold maxLen; omega
              case c4 => omega
              case c5 => simp; omega
              intro v' w9 hown' hgrow _
              have hbel := ((hbr.alloc hzr (.cells #[.int .i64 0, .string ⟨#[]⟩, .string ⟨#[]⟩] 28)).alloc (by simp; omega) (.cells #[encV v] 9)).grown hgrow (by simp; omega) (fun k hk => (hown.out.lt k hk).1)
              go_wp2_with fail
              go_roundw
              case rel =>
                refine ⟨k + 1, by omega, by go_num, ?_, hr2, hbel⟩
                show World.ownsRow _ _ _ _ _ _ _
                rw [Ht.out, hv2.out, List.length_append, List.map_append]
                exact hown'
              case measure => simp [intOf]; omega
            · have hv2 : Hid (t1 = t0) := by show _ = _; rw [hvs2.out, if_pos (by simpa using hd)]
              rw [hd] at HC
              go_wp2_with fail
              refine (HL _).mono ?_
              rintro e w2 ⟨rfl, rfl⟩
              go_wp2_with fail
              refine (HC _ (hsl.out.below (balloc _ _))).mono ?_
              rintro e w4 ⟨rfl, hw4⟩
              subst hw4
              go_wp2_with fail
              go_roundw
              case rel =>
                refine ⟨k + 1, by omega, by go_num, ?_, hr2, bstep hbr (balloc _ _)⟩
                show World.ownsRow _ _ _ _ _ _ _
                rw [Ht.out, hv2.out]
                exact hown.out.alloc _
              case measure => simp [intOf]; omega
          · have HNN : Hid (N = 3) := by show _ = _; rw [hrest.out, hst.out, hsn.out]; simp [hz]
            have hcs : (kk == 0 && (S.isEmpty && L.isEmpty)) = false := by
              cases h : (kk == 0 && (S.isEmpty && L.isEmpty))
              · rfl
              · exact absurd (by simp at h; obtain ⟨rfl, rfl, rfl⟩ := h; rfl) hz
            clear hz hst hrest hsn
            cases h1 : (kk != 0)
            · have h1' : (kk == 0) = true := by simpa using h1
              cases h2 : S.isEmpty
              · go_wp2_with fail
                refine (HL _).mono ?_
                rintro e w2 ⟨rfl, rfl⟩
                go_wp2_with fail
                exact bodyPost_ret (v := .tuple #[.slice none 0 0, .int .i64 3]) (by simp [results, Tryz.results13, go_sem]) rfl ⟨bstep hB1 (bstep hbr (balloc _ _)), [], none, 0, by rw [HNN.out]; rfl, World.ownsRow_nil _ _ _ _, hA.out _ (by rw [HNN.out]; rfl)⟩
              · have h3 : L.isEmpty = false := by rw [h1', h2] at hcs; simpa using hcs
                go_wp2_with fail
                refine (HL _).mono ?_
                rintro e w2 ⟨rfl, rfl⟩
                go_wp2_with fail
                exact bodyPost_ret (v := .tuple #[.slice none 0 0, .int .i64 3]) (by simp [results, Tryz.results13, go_sem]) rfl ⟨bstep hB1 (bstep hbr (balloc _ _)), [], none, 0, by rw [HNN.out]; rfl, World.ownsRow_nil _ _ _ _, hA.out _ (by rw [HNN.out]; rfl)⟩
            · go_wp2_with fail
              refine (HL _).mono ?_
              rintro e w2 ⟨rfl, rfl⟩
              go_wp2_with fail
              exact bodyPost_ret (v := .tuple #[.slice none 0 0, .int .i64 3]) (by simp [results, Tryz.results13, go_sem]) rfl ⟨bstep hB1 (bstep hbr (balloc _ _)), [], none, 0, by rw [HNN.out]; rfl, World.ownsRow_nil _ _ _ _, hA.out _ (by rw [HNN.out]; rfl)⟩
    · obtain rfl : k = 3 := by omega
      have hbase := hB1.size
      obtain ⟨ad, cap, rfl, _⟩ := own_v hown.out
      have hsl := own_mono hown.out hbase
      have H0 : Hid (N = 0) := hrest.out
      have hvw : vK p 3 = varsL p := rfl
      rw [hvw] at hsl
      have Hsl : Hid _ := hsl
      rw [hvw]
      clear hown hrest hvw hsl
      go_wp2_with fail
      exact bodyPost_ret (v := .tuple #[.slice ad (varsL p).length cap, .int .i64 0]) (by simp [results, Tryz.results13, go_sem]) rfl ⟨bstep hB1 hbr, _, ad, cap, by rw [H0.out], Hsl.out, hA.out _ (by rw [H0.out]; rfl)⟩
theorem RVars_any (p : Pt) (w : World) (hp : fitPt p) :
    Calls Tryz.prog 13 #[valPt p] w fun e w' => Below w.heap.size w w' ∧ ∃ m ad cap, e = .returned (.tuple #[.slice ad m.length cap, .int .i64 (varsN p)]) ∧ SlV w' ad m ∧ VarsAns p m := by
  refine (RVarsO_any p w hp).mono ?_
  rintro e w' ⟨hb, m, ad, cap, rfl, ho, ha⟩
  obtain ⟨ad', cap', e', hs⟩ := own_v ho
  cases e'
  exact ⟨hb, m, ad, cap, rfl, hs, ha⟩
end Go.Proofs.YtbacenhgedopjaaGreatDoor

/- The document's Vars of a question (package strataref3). -/
namespace Go.Proofs.YtbacenhgedopjaaGreatDoor
open Go Go.RowKit Go.Proofs Go.Maps
set_option synthInstance.maxSize 1000

theorem addAll_step (o l : List (List UInt8)) (k : Nat) (h : k < l.length) : addAll o (l.take (k + 1)) = if l[k] ∈ addAll o (l.take k) then addAll o (l.take k) else addAll o (l.take k) ++ [l[k]] := by
  induction l generalizing o k with
  | nil => simp at h
  | cons x r ih =>
    cases k with
    | zero => simp [addAll]
    | succ k =>
      have h' : k < r.length := by simpa using h
      simp only [List.take_succ_cons, addAll, List.getElem_cons_succ]
      exact ih _ k h'
theorem addAll_len (o l : List (List UInt8)) : (addAll o l).length ≤ o.length + l.length := by
  induction l generalizing o with
  | nil => simp [addAll]
  | cons x r ih =>
    have := ih (if x ∈ o then o else o ++ [x])
    unfold addAll
    split at this
    · rename_i hx; rw [if_pos hx]; simp; omega
    · rename_i hx; rw [if_neg hx]; simp at this ⊢; omega
theorem varsL_len (p : Pt) : (varsL p).length ≤ 3 := by
  have q : ∀ l s, (addV l s).length ≤ l.length + 1 := fun l s => by
    unfold addV
    split
    · omega
    · split
      · omega
      · simp
  have h1 := q [] p.1
  have h2 := q (addV [] p.1) p.2.1
  have h3 := q (addV (addV [] p.1) p.2.1) p.2.2
  unfold varsL
  simp at h1
  omega

/-- an append of a text to a row of one's own: just that row turns -/
theorem wpList_append_text {ops : Array Oper} {rest : List Oper} {o : Oper} {a : Act} {Q : Exit → Act → World → Prop} (w : World) (hgd : o.guard = none) (s x : Operand)
    (ho : o.op = .call { callee := .builtin .append, args := #[s, x], argTypes := #[23, 23] })
    (base B : Nat) (v : Value) (t : List (List UInt8)) (y : List UInt8) (hs : a.eval s = v) (hx : a.eval x = .slice (some ⟨B, 0, none⟩) 1 1) (hown : w.ownsRow base 9 1 v t.length (t.map encV))
    (hy : w.cell? ⟨B, 0, none⟩ = some (.string ⟨y.toArray⟩)) (h63 : t.length ≤ 1000000000000) (hbase : base ≤ w.heap.size)
    (h : ∀ v' w', w'.ownsRow base 9 1 v' (t ++ [y]).length ((t ++ [y]).map encV) → w.grownBy w' v.ownBlock → (v'.ownBlock = v.ownBlock ∨ v'.ownBlock = some w.heap.size) → wpList Tryz.prog ops Q rest (a.put o.dst v') w') : wpList Tryz.prog ops Q (o :: rest) a w := by
  obtain ⟨i0, hi, hz⟩ := Option.map_eq_some_iff.1 infoStrV
  simp only [Prod.mk.injEq] at hz
  obtain ⟨hz0, hz1, hz2⟩ := hz
  refine wpList_append_own_at _ hgd s x _ ho base 9 i0 (.string ByteArray.empty) 1 16 Tryz.underlying23 hi hz0 hz1 hz2 rfl (by decide) v t.length (t.map encV) hs hown ⟨B, 0, none⟩ 1 1 [encV y] hx rfl ?_ (by simp [encV, Value.oneCell']) (by unfold maxLen; omega) (by omega) hbase ?_
  · intro j u hj
    have h1 : j < 1 := (List.getElem?_eq_some_iff.1 hj).1
    obtain rfl : j = 0 := by omega
    simp at hj
    subst hj
    rw [Addr.add_lit]
    exact hy
  · intro v' w' h2 h3 _ h5
    refine h v' w' ?_ h3 h5
    simpa using h2

set_option maxHeartbeats 16000000 in
set_option maxRecDepth 100000 in
theorem QVars_any (q : Qu) (vd pd : Option Addr) (vc pc : Nat) (w : World) (h : QuIn w q vd pd) (h6 : q.parts.length ≤ 6) (hf : ∀ p ∈ q.parts, fitPt p) :
    Calls Tryz.prog 18 #[valQ q vd vc pd pc] w fun e w' => RowKit.Below w.heap.size w w' ∧ ∃ m ad cap, e = .returned (.tuple #[.slice ad m.length cap, .int .i64 (partsN q.parts)]) ∧ SlV w' ad m ∧ m = if partsN q.parts = 0 then partsV [] q.parts else [] := by
  have Hp := hideQ h.parts
  have Hf := hideQ hf
  have hN := hideQ (rfl : partsN q.parts = partsN q.parts)
  obtain ⟨A, hA⟩ : ∃ A : List (List UInt8) → Prop, A = fun m => m = if partsN q.parts = 0 then partsV [] q.parts else [] := ⟨_, rfl⟩
  have HA : Hid (∀ m, (m = if partsN q.parts = 0 then partsV [] q.parts else []) → A m) := fun m h => by rw [hA]; exact h
  suffices hs : Calls Tryz.prog 18 #[valQ q vd vc pd pc] w fun e w' => RowKit.Below w.heap.size w w' ∧ ∃ m ad cap, e = .returned (.tuple #[.slice ad m.length cap, .int .i64 (partsN q.parts)]) ∧ SlV w' ad m ∧ A m by rw [hA] at hs; exact hs
  clear hA h hf hN
  unfold valQ
  have hPV : Hid (∀ X, X = partsV [] q.parts → X = partsV [] q.parts) := fun _ h => h
  clear hPV
  generalize hPN : partsN q.parts = N at *
  have HPN := hideQ hPN
  generalize hPV : partsV [] q.parts = V at *
  have HPV := hideQ hPV
  clear hPN hPV
  generalize q.parts = L at *
  generalize q.vars.length = nv at *
  go_enter Tryz.func18, Tryz.ntmps18
  go_wp2_with fail
  obtain ⟨w1, hw1⟩ : ∃ w1, w1 = w.alloc (.cells #[.slice vd nv vc, .slice pd L.length pc, .string ⟨q.order.toArray⟩, .bool q.down, .bool q.dist, .int .i64 q.lim] 26) := ⟨_, rfl⟩
  have hb1 : RowKit.Below w.heap.size w w1 := by rw [hw1]; exact balloc _ _
  have hbox : w1.cell? ⟨w.heap.size, 1, none⟩ = some (.slice pd L.length pc) := by rw [hw1]; go_simp
  have hlt0 : w.heap.size < w1.heap.size := by rw [hw1]; simp
  rw [← hw1]
  have Hp1 := hideQ (Hp.out.below hb1)
  clear hw1 Hp
  go_loopw [4, 5] (fun v i wr => ∃ (k : Nat) (o : List (List UInt8)), k ≤ L.length ∧ i = .int .i64 k ∧ o.length ≤ 3 * k ∧ Hid (wr.ownsRow w1.heap.size 9 1 v o.length (o.map encV)) ∧ Hid (N = partsN (L.drop k)) ∧ Hid (V = partsV o (L.drop k)) ∧ RowKit.Below w1.heap.size w1 wr) (fun _ i wr => L.length - (intOf i).toNat)
  case atStart => exact ⟨0, [], Nat.zero_le _, rfl, by simp, World.ownsRow_nil _ _ _ _, HPN.out.symm, HPV.out.symm, RowKit.Below.refl _ _⟩
  case round =>
    obtain ⟨k, o, hk, rfl, hol, hown, hN, hV, hbr⟩ := hrel
    have hc1 : wr.cell? ⟨w.heap.size, 1, none⟩ = some (.slice pd L.length pc) := (hbr.cell hlt0).trans hbox
    by_cases hlt : k < L.length
    · obtain ⟨b, off, rfl, hrow⟩ := (Hp1.out.below hbr).at k hlt
      have hat := hrow.at k hlt
      have e0 := hat 0 _ rfl
      have e1 := hat 1 _ rfl
      have e2 := hat 2 _ rfl
      have e3 := hat 3 _ rfl
      have e4 := hat 4 _ rfl
      have e5 := hat 5 _ rfl
      have e6 := hat 6 _ rfl
      have e7 := hat 7 _ rfl
      have e8 := hat 8 _ rfl
      have e9 := hat 9 _ rfl
      have e10 := hat 10 _ rfl
      have e11 := hat 11 _ rfl
      rw [Nat.add_zero] at e0
      have i0 : (0 : Int) ≤ (k : Int) := by omega
      have i1 : (k : Int) < (L.length : Int) := by omega
      have hfp := Hf.out _ (List.getElem_mem hlt)
      have HR := fun W => RVarsO_any L[k] W hfp
      have hd : L.drop k = L[k] :: L.drop (k + 1) := List.drop_eq_getElem_cons hlt
      rw [hd] at hN hV
      have hml := varsL_len L[k]
      clear hat hrow hd hfp
      generalize L[k] = p at *
      generalize hD : L.drop (k + 1) = D at *
      have HD := hideQ hD
      clear hD
      unfold valPt at HR
      have hzr := hbr.size
      go_wp2_with fail
      refine (HR _).mono ?_
      rintro e w2 ⟨hb2, m, md, mc, rfl, hm, hmA⟩
      have hB2 := bstep hbr hb2
      have hown2 := hideQ (ownsRow_belowV hown.out hb2)
      have Hm := hideQ (own_mono hm hzr)
      have hfar : Hid (Far2 _ (.slice md m.length mc)) := fun g h1 h2 => by
        have q1 := (hown.out.lt g h1).2
        have q2 := (hm.lt g h2).1
        omega
      have hmA' : m = if varsN p = 0 then varsL p else [] := hmA
      clear HR hown hm hmA e0 e1 e2 e3 e4 e5 e6 e7 e8 e9 e10 e11 hc1
      by_cases hv : varsN p = 0
      · rw [if_pos hv] at hmA'
        subst hmA'
        have hN2 : Hid (N = partsN D) := by have := hN.out; unfold partsN at this; rw [if_pos hv] at this; exact this
        have hV2 : Hid (V = partsV (addAll o (varsL p)) D) := hV.out
        rw [hv]
        clear hN hV hv
        generalize varsL p = m at *
        go_wp2_with fail
        go_loopw [4, 8] (fun v i wi => ∃ j : Nat, j ≤ m.length ∧ i = .int .i64 j ∧ Hid (wi.ownsRow w1.heap.size 9 1 v (addAll o (m.take j)).length ((addAll o (m.take j)).map encV)) ∧ Hid (wi.ownsRow w1.heap.size 9 1 (.slice md m.length mc) m.length (m.map encV)) ∧ Hid (Far2 v (.slice md m.length mc)) ∧ RowKit.Below w1.heap.size w1 wi) (fun _ i wi => m.length - (intOf i).toNat)
        case atStart => exact ⟨0, Nat.zero_le _, rfl, hown2.out, Hm.out, hfar.out, hB2⟩
        case round =>
          obtain ⟨j, hj, rfl, hown3, Hm3, hfar3, hbi⟩ := hrel
          by_cases hjl : j < m.length
          · obtain ⟨md', mc', em, hmV⟩ := own_v Hm3.out
            obtain ⟨rfl, _, rfl⟩ : md = md' ∧ m.length = m.length ∧ mc = mc' := by simpa using em
            obtain ⟨mb, rfl, hmr⟩ := hmV (by intro e; rw [e] at hjl; simp at hjl)
            have c0 := hmr j hjl
            unfold encV at c0
            have j0 : (0 : Int) ≤ (j : Int) := by omega
            have j1 : (j : Int) < (m.length : Int) := by omega
            have hst := hideQ (addAll_step o m j hjl)
            have hle : (addAll o (m.take j)).length ≤ 1000 := by
              have := addAll_len o (m.take j)
              rw [List.length_take] at this
              omega
            obtain ⟨ad, cap, rfl, hsl⟩ := own_v hown3.out
            have HC := RHas_any ad cap (addAll o (m.take j)) m[j] wr hsl (by omega)
            have hzi := hbi.size
            clear hmr hsl em hmV
            generalize ht : addAll o (m.take (j + 1)) = t1 at hst
            have Ht := hideQ ht
            generalize addAll o (m.take j) = t0 at *
            generalize m[j] = y at *
            clear ht
            cases hd : decide (y ∈ t0)
            · rw [hd] at HC
              have e1 : Hid (t1 = t0 ++ [y]) := by have := hst.out; rw [if_neg (by simpa using hd)] at this; exact this
              clear hst hd
              go_wp2_with fail
              refine HC.mono ?_
              rintro e w3 ⟨rfl, hw3⟩
              subst hw3
              go_wp2_with (at_builtin; refine wpList_append_text _ rfl _ _ rfl w1.heap.size w3.heap.size _ t0 y rfl rfl (hown3.out.alloc _) (by go_simp) (by omega) (by simp; omega) ?_; intro v' w4 hv4 hg4 hat4)
              have hal : RowKit.Below w3.heap.size w3 (w3.alloc (.cells #[.string ⟨y.toArray⟩] 9)) := balloc _ _
              have hbel : RowKit.Below w1.heap.size w1 w4 := (bstep hbi hal).grown hg4 (by simp; omega) (fun g hg => (hown3.out.lt g hg).1)
              have hm4 := hideQ ((ownsRow_belowV Hm3.out hal).kept hg4 hfar3.out.out)
              have hfar4 := hideQ (hfar3.out.grow (ownsRow_belowV Hm3.out hal) hat4)
              have hv5 := hideQ hv4
              clear hv4 hg4 hat4 c0 HC
              go_wp2_with fail
              go_roundw
              case rel =>
                refine ⟨j + 1, by omega, by go_num, ?_, hm4, hfar4, hbel⟩
                show World.ownsRow _ _ _ _ _ _ _
                rw [Ht.out, e1.out]
                exact hv5.out
              case measure => simp [intOf]; omega
            · rw [hd] at HC
              have e1 : Hid (t1 = t0) := by have := hst.out; rw [if_pos (by simpa using hd)] at this; exact this
              clear hst hd
              go_wp2_with fail
              refine HC.mono ?_
              rintro e w3 ⟨rfl, hw3⟩
              subst hw3
              clear HC c0
              go_wp2_with fail
              go_roundw
              case rel =>
                refine ⟨j + 1, by omega, by go_num, ?_, Hm3, hfar3, hbi⟩
                show World.ownsRow _ _ _ _ _ _ _
                rw [Ht.out, e1.out]
                exact hown3.out
              case measure => simp [intOf]; omega
          · obtain rfl : j = m.length := by omega
            have ho4 := hown3.out
            rw [List.take_length] at ho4
            have Ho4 := hideQ ho4
            have hle := addAll_len o m
            clear ho4 hown3
            go_wp2_with fail
            go_roundw
            case rel =>
              refine ⟨k + 1, addAll o m, by omega, by go_num, by omega, Ho4, ?_, ?_, hbi⟩
              · show _ = _
                rw [HD.out]; exact hN2.out
              · show _ = _
                rw [HD.out]; exact hV2.out
            case measure => simp [intOf]; omega
      · have hN2 : Hid (N = varsN p) := by have := hN.out; unfold partsN at this; rw [if_neg hv] at this; exact this
        rw [if_neg hv] at hmA'
        subst hmA'
        have hne : (varsN p != 0) = true := by simpa using hv
        have Hv := hideQ hv
        generalize varsN p = c at *
        clear hN hV hv Hm hown2
        go_wp2_with fail
        exact bodyPost_ret (v := .tuple #[.slice none 0 0, .int .i64 c]) (by simp [results, Tryz.results18, go_sem]) rfl ⟨bstep hb1 hB2, [], none, 0, by rw [hN2.out]; rfl, fun h => absurd rfl h, HA.out _ (by rw [hN2.out, if_neg Hv.out])⟩
    · obtain rfl : k = L.length := by omega
      have hN2 : Hid (N = 0) := by have := hN.out; rw [List.drop_length] at this; exact this
      have hV2 : Hid (V = o) := by have := hV.out; rw [List.drop_length] at this; exact this
      obtain ⟨ad, cap, rfl, hsl⟩ := own_v hown.out
      have Hsl := hideQ hsl
      clear hsl hown hN hV
      go_wp2_with fail
      exact bodyPost_ret (v := .tuple #[.slice ad o.length cap, .int .i64 0]) (by simp [results, Tryz.results18, go_sem]) rfl ⟨bstep hb1 hbr, o, ad, cap, by rw [hN2.out], Hsl.out, HA.out _ (by rw [hN2.out, if_pos rfl, hV2.out])⟩
end Go.Proofs.YtbacenhgedopjaaGreatDoor

/- An append of a list of texts to a row of one's own. -/
namespace Go.Proofs.YtbacenhgedopjaaGreatDoor
open Go Go.RowKit Go.Proofs Go.Maps
set_option synthInstance.maxSize 1000

theorem append_emptyW {W : World} {base : Nat} {v : Value} {t : List (List UInt8)} (h : W.ownsRow base 9 1 v t.length (t.map encV)) (ad : Option Addr) (c : Nat) (ty : TypeId) : (Builtin.append_ #[23, 23] ty #[v, .slice ad 0 c]).run Tryz.prog W = .ok v W := by
  obtain ⟨i, hi, hz⟩ := Option.map_eq_some_iff.1 infoStrV
  have hf : (Builtin.firstCells i.size 0 (.slice ad 0 c)).run Tryz.prog W = .ok #[] W := by
    cases ad with
    | none => exact run_firstCells_none W _ _ _ _
    | some a => exact run_firstCells_some (P := Tryz.prog) W i.size 0 a 0 c [] (by simp) (by simp)
  rcases h.2 with ⟨rfl, h0⟩ | ⟨g, cc, cur, rfl, _, _, hle, _⟩
  · simp [Builtin.append_, run_underlying Tryz.underlying23, sizeOf, typeInfo, hi, Builtin.lenOf, hf]
  · simp [Builtin.append_, run_underlying Tryz.underlying23, sizeOf, typeInfo, hi, Builtin.lenOf, hf, hle, storeCells]
/-- an append of a list of texts to a row of one's own: just that row turns -/
theorem wpList_append_textsW {ops : Array Oper} {rest : List Oper} {o : Oper} {a : Act} {Q : Exit → Act → World → Prop} (w : World) (hgd : o.guard = none) (s x : Operand)
    (ho : o.op = .call { callee := .builtin .append, args := #[s, x], argTypes := #[23, 23] })
    (base : Nat) (v : Value) (t l : List (List UInt8)) (ad : Option Addr) (c : Nat) (hs : a.eval s = v) (hx : a.eval x = .slice ad l.length c) (hown : w.ownsRow base 9 1 v t.length (t.map encV)) (hl : SlW w ad l)
    (h63 : t.length + l.length ≤ 1000000) (hbase : base ≤ w.heap.size)
    (h : ∀ v' w', w'.ownsRow base 9 1 v' (t ++ l).length ((t ++ l).map encV) → w.grownBy w' v.ownBlock → wpList Tryz.prog ops Q rest (a.put o.dst v') w') : wpList Tryz.prog ops Q (o :: rest) a w := by
  obtain ⟨i0, hi, hz⟩ := Option.map_eq_some_iff.1 infoStrV
  simp only [Prod.mk.injEq] at hz
  obtain ⟨hz0, hz1, hz2⟩ := hz
  cases l with
  | nil =>
    refine Lib.wpList_append_run w hgd s x _ _ ho v _ hs hx v w (append_emptyW hown ad c _) (h v w ?_ (World.grownBy.refl _ _))
    simpa using hown
  | cons y r =>
    obtain ⟨b, off, rfl, hr⟩ := hl (by simp)
    refine wpList_append_own w hgd s x _ ho base 9 i0 (.string ByteArray.empty) 1 16 Tryz.underlying23 hi hz0 hz1 hz2 rfl (by decide) v t.length (t.map encV) hs hown ⟨b, off, none⟩ (y :: r).length c ((y :: r).map encV) hx (by simp) ?_ (fun u hu => by obtain ⟨z, _, rfl⟩ := List.mem_map.1 hu; rfl) (by unfold maxLen; omega) (by omega) hbase ?_
    · intro j u hj
      have hj' : j < (y :: r).length := by have := (List.getElem?_eq_some_iff.1 hj).1; simpa using this
      rw [Addr.add_lit, hr j hj']
      rw [List.getElem?_map, List.getElem?_eq_getElem hj'] at hj
      exact hj
    · intro v' w' h2 h3 _
      refine h v' w' ?_ h3
      rw [List.length_append]
      simpa using h2
end Go.Proofs.YtbacenhgedopjaaGreatDoor

/- A question as text, piece by piece; plain lists, no program. -/
namespace Go.Proofs.YtbacenhgedopjaaGreatDoor
open Go Go.RowKit Go.Proofs
set_option synthInstance.maxSize 1000

/-- words with a blank ahead of each -/
def tailT : List (List UInt8) → List UInt8
  | [] => []
  | w :: r => 32 :: (w ++ tailT r)
theorem tailT_app (a b : List (List UInt8)) : tailT (a ++ b) = tailT a ++ tailT b := by
  induction a with
  | nil => rfl
  | cons x r ih => simp [tailT, ih]
theorem join_tail (w : List UInt8) (r : List (List UInt8)) : joinT (w :: r) = w ++ tailT r := by
  induction r generalizing w with
  | nil => simp [joinT, tailT]
  | cons x r ih => rw [joinT, ih]; rfl
/-- parts as words, the first one's word and the others' -/
def partsK : Nat → List Pt → List (List UInt8)
  | _, [] => []
  | n, p :: r => (if n = 0 then wWhere else wAnd) :: (partT p ++ partsK (n + 1) r)
theorem partsK_app (n : Nat) (a b : List Pt) : partsK n (a ++ b) = partsK n a ++ partsK (n + a.length) b := by
  induction a generalizing n with
  | nil => rfl
  | cons x r ih => simp [partsK, ih, Nat.add_comm, Nat.add_left_comm]
theorem partsK_and (n : Nat) : ∀ (l : List Pt), l ≠ [] → partsK (n + 1) l = wAnd :: partsT l
  | [], h => absurd rfl h
  | p :: r, _ => by
    rw [partsK, if_neg (by omega), partsT]
    by_cases hr : r = []
    · subst hr; simp [partsK]
    · rw [if_neg hr, partsK_and (n + 1) r hr]
theorem partsK_where {l : List Pt} (h : l ≠ []) : partsK 0 l = wWhere :: partsT l := by
  cases l with
  | nil => exact absurd rfl h
  | cons p r =>
    rw [partsK, if_pos rfl, partsT]
    by_cases hr : r = []
    · subst hr; simp [partsK]
    · rw [if_neg hr, partsK_and 0 r hr]
def headT (q : Qu) : List UInt8 := wSel ++ tailT (if q.dist = true then [wDist] else [])
/-- the text up to some of what is told -/
def varsT (q : Qu) (k : Nat) : List UInt8 := headT q ++ tailT ((q.vars.take k).map varT)
/-- and up to some parts -/
def partsX (q : Qu) (k : Nat) : List UInt8 := varsT q q.vars.length ++ tailT (partsK 0 (q.parts.take k))
theorem textQ_eq {q : Qu} (h : q.parts ≠ []) : textQ q = partsX q q.parts.length ++ (tailT (ordT q) ++ tailT (limT q)) := by
  unfold textQ wordsQ partsX varsT headT
  rw [join_tail, List.take_length, List.take_length, partsK_where h]
  simp [tailT_app, List.append_assoc, tailT]
theorem varsT_zero (q : Qu) : varsT q 0 = headT q := by simp [varsT, tailT]
theorem varsT_next (q : Qu) (k : Nat) (h : k < q.vars.length) : varsT q (k + 1) = varsT q k ++ 32 :: 63 :: q.vars[k] := by
  unfold varsT
  rw [List.take_succ_eq_append_getElem h, List.map_append, tailT_app]
  simp [tailT, varT]
theorem partsX_zero (q : Qu) : partsX q 0 = varsT q q.vars.length := by simp [partsX, partsK, tailT]
theorem partsX_next (q : Qu) (k : Nat) (h : k < q.parts.length) : partsX q (k + 1) = partsX q k ++ (32 :: (if k = 0 then wWhere else wAnd) ++ (32 :: slotT q.parts[k].1 ++ (32 :: slotT q.parts[k].2.1 ++ 32 :: slotT q.parts[k].2.2))) := by
  unfold partsX
  rw [List.take_succ_eq_append_getElem h, partsK_app, tailT_app, List.length_take, Nat.min_eq_left (by omega)]
  simp [tailT, partsK, partT, List.append_assoc]

/-! ### how long -/
theorem show_hun (k : Int) (S L : List UInt8) (h : checkN k S L = 0) : (showL k S L).length ≤ 100 := by
  obtain ⟨_, hS, hsp⟩ := check_zero h
  have hL := spell_lang hsp
  have h1 := quoteL_len S
  have h2 := markL_len L
  unfold showL
  repeat' split
  all_goals (simp; try omega)
theorem var_short {v : List UInt8} (h : spellV v = true) : v.length ≤ 10 := by
  unfold spellV at h
  simp at h
  omega
theorem slot_short {s : Sl} (h : slotN s = 0) : (slotT s).length ≤ 100 := by
  unfold slotT
  split
  · rename_i hs; exact show_hun _ _ _ (slot_term h hs)
  · rename_i hs
    have := var_short (slot_spell h hs).1
    simp [varT]
    omega
theorem head_short (q : Qu) : (headT q).length ≤ 15 := by
  unfold headT
  split <;> simp [wSel, wDist, tailT]
theorem varsT_short {q : Qu} (g : GoodQ q) : ∀ k, k ≤ q.vars.length → (varsT q k).length ≤ 15 + 12 * k
  | 0, _ => by rw [varsT_zero]; exact head_short q
  | k + 1, hk => by
    have ih := varsT_short g k (by omega)
    have := var_short (g.vars _ (List.getElem_mem (show k < q.vars.length by omega))).2
    rw [varsT_next q k (by omega)]
    simp
    omega
theorem partsX_short {q : Qu} (g : GoodQ q) : ∀ k, k ≤ q.parts.length → (partsX q k).length ≤ 15 + 12 * q.vars.length + 400 * k
  | 0, _ => by rw [partsX_zero]; have := varsT_short g q.vars.length (Nat.le_refl _); omega
  | k + 1, hk => by
    have ih := partsX_short g k (by omega)
    obtain ⟨h1, h2, h3⟩ := vars_zero (g.parts _ (List.getElem_mem (show k < q.parts.length by omega)))
    have s1 := slot_short h1
    have s2 := slot_short h2
    have s3 := slot_short h3
    have sw : (if k = 0 then wWhere else wAnd).length ≤ 5 := by split <;> simp [wWhere, wAnd]
    rw [partsX_next q k (by omega)]
    simp only [List.length_append, List.length_cons]
    omega
theorem nodup_le : ∀ (l m : List (List UInt8)), l.Nodup → (∀ v ∈ l, v ∈ m) → l.length ≤ m.length
  | [], m, _, _ => by simp
  | v :: r, m, hn, hs => by
    rw [List.nodup_cons] at hn
    have ih := nodup_le r (m.erase v) hn.2 (fun x hx => (List.mem_erase_of_ne (fun (e : x = v) => hn.1 (e ▸ hx))).2 (hs x (by simp [hx])))
    have h1 := List.length_erase_of_mem (hs v (by simp))
    have h2 : 0 < m.length := List.length_pos_of_mem (hs v (by simp))
    rw [List.length_cons]
    omega
theorem GoodQ.few {q : Qu} (g : GoodQ q) : q.vars.length ≤ 8 := Nat.le_trans (nodup_le _ _ g.once g.within) g.eight
theorem digits_long : ∀ (f n : Nat), n ≤ f → (digitsN n).length ≤ n + 1
  | 0, n, h => by rw [digits_lt (by omega)]; simp
  | f + 1, n, h => by
    by_cases hn : n < 10
    · rw [digits_lt hn]; simp
    · have := digits_long f (n / 10) (by omega)
      rw [digits_ge hn]
      simp
      omega
def ordX (q : Qu) : List UInt8 := if q.order = [] then [] else 32 :: (wOrder ++ 32 :: 63 :: q.order)
def downX (q : Qu) : List UInt8 := if q.down = true then 32 :: wDown else []
def limX (q : Qu) : List UInt8 := if 0 ≤ q.lim then 32 :: (wLimit ++ 32 :: digitsN q.lim.toNat) else []
theorem textQ_end {q : Qu} (g : GoodQ q) : textQ q = partsX q q.parts.length ++ (ordX q ++ (downX q ++ limX q)) := by
  rw [textQ_eq g.some]
  have h1 : tailT (ordT q) = ordX q ++ downX q := by
    unfold ordT ordX downX
    by_cases ho : q.order = []
    · have hd : ¬ q.down = true := fun h => g.down h ho
      simp [ho, hd, tailT]
    · by_cases hd : q.down = true
      · simp [ho, hd, tailT, varT]
      · simp [ho, hd, tailT, varT]
  have h2 : tailT (limT q) = limX q := by
    unfold limT limX
    split <;> simp [tailT]
  rw [h1, h2, List.append_assoc]
theorem text_short {q : Qu} (g : GoodQ q) : (partsX q q.parts.length).length ≤ 2600 := by
  have := partsX_short g q.parts.length (Nat.le_refl _)
  have := g.few
  have := g.six
  omega
theorem text_len {q : Qu} (h : askN q = 0) : (textQ q).length ≤ 10000 := by
  have g := ask_good h
  have h1 := text_short g
  have h2 : (ordX q).length ≤ 20 := by
    unfold ordX
    split
    · simp
    · rename_i ho
      have := var_short (g.vars _ (g.order.resolve_left ho)).2
      simp [wOrder]; omega
  have h3 : (downX q).length ≤ 10 := by unfold downX; split <;> simp [wDown]
  have h4 : (limX q).length ≤ 1000 := by
    unfold limX
    split
    · have hl := g.lim
      have := digits_long q.lim.toNat q.lim.toNat (Nat.le_refl _)
      simp [wLimit]; omega
    · simp
  rw [textQ_end g]
  simp only [List.length_append]
  omega
end Go.Proofs.YtbacenhgedopjaaGreatDoor

/- What the laws of Solve ask, in plain words; plain lists, no program. -/
namespace Go.Proofs.YtbacenhgedopjaaGreatDoor
open Go Go.RowKit Go.Proofs
set_option synthInstance.maxSize 1000

theorem solve_good {S : List Tr} {q : Qu} (h : solveN S q = 0) : IsSet S ∧ GoodQ q ∧ ∃ vars rows, answersL S q.parts = some (vars, rows) := by
  unfold solveN at h
  split at h
  · rename_i h1; exact absurd h h1
  · rename_i h1
    split at h
    · rename_i h2; exact absurd h h2
    · rename_i h2
      split at h
      · cases h
      · rename_i h3
        refine ⟨sortedN_set.1 (Classical.byContradiction h1), ask_good (Classical.byContradiction h2), ?_⟩
        cases ha : answersL S q.parts with
        | none => rw [ha] at h3; simp at h3
        | some v => exact ⟨v.1, v.2, rfl⟩
theorem proj_len (vars told : List (List UInt8)) (rows : List (List Tm)) : LenR told.length (rows.map (projR vars told)) := fun x hx => by
  obtain ⟨r, _, rfl⟩ := List.mem_map.1 hx
  simp [projR]
theorem sort_len (lt : List Tm → List Tm → Bool) (rows : List (List Tm)) : (sortR lt false rows).length = rows.length := by
  have := (fold_perm (lt := lt) (rows := rows) (out := [])).length_eq
  simpa [sortR] using this
theorem sort_mem {lt : List Tm → List Tm → Bool} {dist : Bool} {rows : List (List Tm)} {x : List Tm} : x ∈ sortR lt dist rows ↔ x ∈ rows := by
  unfold sortR
  simpa using fold_mem (lt := lt) (dist := dist) (rows := rows) (x := x) (out := [])
/-- the terms of a set are right -/
theorem set_term {S : List Tr} (h : IsSet S) {t : Tr} (ht : t ∈ S) {x : Tm} (hx : x = t.1 ∨ x = t.2.1 ∨ x = t.2.2) : tmChk x = 0 := by
  obtain ⟨h1, h2, h3, _⟩ := chk_zero (h.2.1 t ht)
  rcases hx with rfl | rfl | rfl
  · exact h1
  · exact h2
  · exact h3
theorem terms_zero : ∀ {l : List Tm}, (∀ x ∈ l, tmChk x = 0) → termsN l = 0
  | [], _ => rfl
  | x :: l, h => by
    rw [termsN, if_pos (h x (by simp))]
    exact terms_zero fun y hy => h y (by simp [hy])
theorem bindS_zero {vars : List (List UInt8)} {r : List Tm} {s : Sl} (hs : slotN s = 0) (hr : ∀ x ∈ r, tmChk x = 0) : slotN (bindS vars r s) = 0 := by
  cases hb : boundT vars r s.1 with
  | none => rw [bindS_none hb]; exact hs
  | some x =>
    rw [bindS_some hb]
    unfold slotN
    rw [if_pos rfl]
    exact hr x (bound_mem hb)
theorem bindP_zero {vars : List (List UInt8)} {r : List Tm} {p : Pt} (hp : varsN p = 0) (hr : ∀ x ∈ r, tmChk x = 0) : varsN (bindP vars r p) = 0 := by
  obtain ⟨h1, h2, h3⟩ := vars_zero hp
  unfold varsN bindP
  rw [if_pos (bindS_zero h1 hr), if_pos (bindS_zero h2 hr)]
  exact bindS_zero h3 hr
/-- each answer, with what it tells bound, is there -/
theorem answer_there {S : List Tr} {q : Qu} (hS : IsSet S) (g : GoodQ q) {vars : List (List UInt8)} {rows : List (List Tm)} (ha : answersL S q.parts = some (vars, rows)) {row : List Tm} (hr : row ∈ rows.map (projR vars q.vars)) {p : Pt} (hp : p ∈ q.parts) :
    bindN q.vars row p = 0 ∧ varsN (bindP q.vars row p) = 0 ∧ 1 ≤ (matchP S (bindP q.vars row p)).length ∧ ∀ x ∈ row, tmChk x = 0 := by
  obtain ⟨ok, _⟩ := answersL_ok ha
  obtain ⟨r, hr', rfl⟩ := List.mem_map.1 hr
  have hin : ∀ v ∈ q.vars, v ∈ vars := fun v hv => by
    rcases partsV_mem.1 (g.within v hv) with h | ⟨p', h1, h2⟩
    · cases h
    · exact ok.has p' h1 v h2
  have hgood : ∀ x ∈ projR vars q.vars r, tmChk x = 0 := fun x hx => by
    obtain ⟨v, hv, rfl⟩ := List.mem_map.1 hx
    have h0 := (g.vars v hv).1
    cases hb : boundT vars r v with
    | none => exact absurd (hin v hv) ((bound_none h0 (ok.len r hr')).1 hb)
    | some y =>
      obtain ⟨t, ht, hx'⟩ := ok.from_ r hr' y (bound_mem hb)
      exact set_term hS ht hx'
  have hv := g.parts p hp
  refine ⟨?_, bindP_zero hv hgood, ?_, hgood⟩
  · unfold bindN
    rw [if_neg (by simp [projR]), if_neg (by rw [terms_zero hgood]; simp)]
    exact hv
  · obtain ⟨t, ht, h1, h2, h3⟩ := ok.holds r hr' p hp
    have hm : t ∈ matchP S (bindP q.vars (projR vars q.vars r) p) := List.mem_filter.2 ⟨ht, told_fits h1 h2 h3⟩
    exact List.length_pos_of_mem hm
/-- the first of two rows' terms that are not the same -/
def cmpR : List Tm → List Tm → Int
  | x :: a, y :: b => if cmpTm x y = 0 then cmpR a b else cmpTm x y
  | _, _ => 0
theorem less_cmp : ∀ (a b : List Tm), lessR b a = false → cmpR a b ≤ 0
  | [], _, _ => by simp [cmpR]
  | x :: a, [], _ => by simp [cmpR]
  | x :: a, y :: b, h => by
    unfold lessR at h
    unfold cmpR
    have hn := cmpTm_neg x y
    by_cases e : cmpTm x y = 0
    · rw [if_pos e]
      rw [if_pos (by omega)] at h
      exact less_cmp a b h
    · rw [if_neg e]
      rw [if_neg (by omega)] at h
      simp at h
      omega
theorem sorted_next {lt : List Tm → List Tm → Bool} {l : List (List Tm)} (h : SortedR lt l) {i : Nat} (hi : i + 1 < l.length) : lt l[i + 1] (l[i]'(by omega)) = false := List.pairwise_iff_getElem.1 h i (i + 1) (by omega) hi (by omega)
theorem once_next {l : List (List Tm)} (h : l.Nodup) {i : Nat} (hi : i + 1 < l.length) : l[i]'(by omega) ≠ l[i + 1] := List.pairwise_iff_getElem.1 h i (i + 1) (by omega) hi (by omega)
theorem once_le : ∀ (l m : List (List Tm)), l.Nodup → (∀ v ∈ l, v ∈ m) → l.length ≤ m.length
  | [], m, _, _ => by simp
  | v :: r, m, hn, hs => by
    rw [List.nodup_cons] at hn
    have ih := once_le r (m.erase v) hn.2 (fun x hx => (List.mem_erase_of_ne (fun (e : x = v) => hn.1 (e ▸ hx))).2 (hs x (by simp [hx])))
    have h1 := List.length_erase_of_mem (hs v (by simp))
    have h2 : 0 < m.length := List.length_pos_of_mem (hs v (by simp))
    rw [List.length_cons]
    omega
theorem sort_sorted (q : Qu) (dist : Bool) {vars : List (List UInt8)} {rows : List (List Tm)} : SortedR (ltQ q) (sortR (ltQ q) dist (rows.map (projR vars q.vars))) :=
  fold_sorted (ordQ q q.vars.length) (proj_len vars q.vars rows) (fun x hx => (by cases hx)) List.Pairwise.nil
theorem sort_once (lt : List Tm → List Tm → Bool) (rows : List (List Tm)) : (sortR lt true rows).Nodup := fold_once List.nodup_nil
theorem where_none {q : Qu} (g : GoodQ q) (h : q.order = []) : whereV q.vars q.order = none := by
  unfold whereV
  rw [h, if_neg (fun h' => (g.vars _ h').1 rfl)]
theorem lt_none {q : Qu} (g : GoodQ q) (h : q.order = []) : ltQ q = lessR := by
  funext a b
  unfold ltQ aheadB byC
  rw [where_none g h]
  simp

/-! ### what does not matter -/
def plainQ (q : Qu) : Qu := { q with lim := -1, dist := false }
theorem ask_dist (q : Qu) (b : Bool) : askN { q with dist := b } = askN q := rfl
theorem ask_lim {q : Qu} {n : Int} (h : -1 ≤ q.lim ∧ q.lim ≤ 500) (hn : -1 ≤ n ∧ n ≤ 500) : askN { q with lim := n } = askN q := by
  unfold askN
  dsimp only
  have e1 : (q.lim < -1 ∨ 500 < q.lim) ↔ (n < -1 ∨ 500 < n) := by omega
  simp only [e1]

/-! ### turned -/
theorem one_turn {a b : List Tm} (ha : a.length = 1) (hb : b.length = 1) : aheadB (some 0) true a b = aheadB (some 0) false b a := by
  match a, b, ha, hb with
  | [x], [y], _, _ =>
    have hn := cmpTm_neg x y
    have e1 : byC (some 0) true [x] [y] = byC (some 0) false [y] [x] := by simp [byC]; omega
    unfold aheadB
    rw [e1]
    by_cases h : byC (some 0) false [y] [x] = 0
    · have h' : cmpTm y x = 0 := by simpa [byC] using h
      have hxy := tmZ.1 h'
      subst hxy
      rfl
    · simp [h]
theorem turned_rows {rows : List (List Tm)} (hn : LenR 1 rows) : sortR (aheadB (some 0) true) true rows = (sortR (aheadB (some 0) false) true rows).reverse := by
  have o : ∀ d, OrdR (aheadB (some 0) d) 1 := fun d => ⟨fun a => ahead_irr _ _ a, fun h1 h2 => ahead_trans h1 h2, fun h1 h2 h3 h4 => ahead_total (h1.trans h2.symm) h3 h4⟩
  have hu : SortedR (aheadB (some 0) false) (sortR (aheadB (some 0) false) true rows) := fold_sorted (o false) hn (fun x hx => (by cases hx)) List.Pairwise.nil
  refine (sortR_once (o true) hn ?_ ((List.reverse_perm _).nodup_iff.2 (sort_once _ _)) (fun x => by rw [List.mem_reverse]; exact sort_mem)).symm
  unfold SortedR
  rw [List.pairwise_reverse]
  refine List.Pairwise.imp_of_mem (fun {a b} ha hb h => ?_) hu
  rw [one_turn (hn a (sort_mem.1 ha)) (hn b (sort_mem.1 hb))]
  exact h
end Go.Proofs.YtbacenhgedopjaaGreatDoor

/- The document's Check of a question (package strataref3). -/
namespace Go.Proofs.YtbacenhgedopjaaGreatDoor
open Go Go.RowKit Go.Proofs Go.Maps
set_option synthInstance.maxSize 1000

/-! ### one fault behind the other -/
section
variable {q : Qu}
theorem ask_full (h : 6 < q.parts.length) : askN q = 4 := by unfold askN; rw [if_pos h]
theorem ask_nil (h : q.parts = []) : askN q = 5 := by unfold askN; rw [if_neg (by rw [h]; decide), if_pos h]
theorem ask_part (h1 : ¬ 6 < q.parts.length) (h2 : ¬ q.parts = []) (h3 : partsN q.parts ≠ 0) : askN q = partsN q.parts := by unfold askN; rw [if_neg h1, if_neg h2, if_pos h3]
/-- what is asked of Vars, Order, Down and Limit -/
def askT (q : Qu) (V : List (List UInt8)) : Int := if 8 < V.length then 4
  else if q.vars = [] then 5 else if (∃ v ∈ q.vars, v ∉ V) then 5 else if ¬ q.vars.Nodup then 7 else if q.order ≠ [] ∧ q.order ∉ q.vars then 5
  else if q.down = true ∧ q.order = [] then 3 else if q.lim < -1 ∨ 500 < q.lim then 1 else 0
theorem ask_tail (h1 : ¬ 6 < q.parts.length) (h2 : ¬ q.parts = []) (h3 : partsN q.parts = 0) : askN q = askT q (partsV [] q.parts) := by unfold askN askT; rw [if_neg h1, if_neg h2, if_neg (fun h => h h3)]
variable {V : List (List UInt8)}
theorem askT_full (h : 8 < V.length) : askT q V = 4 := by unfold askT; rw [if_pos h]
theorem askT_nil (h1 : ¬ 8 < V.length) (h2 : q.vars = []) : askT q V = 5 := by unfold askT; rw [if_neg h1, if_pos h2]
theorem askT_out (h1 : ¬ 8 < V.length) (h2 : ¬ q.vars = []) (h3 : ∃ v ∈ q.vars, v ∉ V) : askT q V = 5 := by unfold askT; rw [if_neg h1, if_neg h2, if_pos h3]
theorem askT_twice (h1 : ¬ 8 < V.length) (h2 : ¬ q.vars = []) (h3 : ∀ v ∈ q.vars, v ∈ V) (h4 : ¬ q.vars.Nodup) : askT q V = 7 := by
  unfold askT; rw [if_neg h1, if_neg h2, if_neg (fun ⟨v, hv, hn⟩ => hn (h3 v hv)), if_pos h4]
def askE (q : Qu) : Int := if q.order ≠ [] ∧ q.order ∉ q.vars then 5 else if q.down = true ∧ q.order = [] then 3 else if q.lim < -1 ∨ 500 < q.lim then 1 else 0
theorem askT_end (h1 : ¬ 8 < V.length) (h2 : ¬ q.vars = []) (h3 : ∀ v ∈ q.vars, v ∈ V) (h4 : q.vars.Nodup) : askT q V = askE q := by
  unfold askT askE; rw [if_neg h1, if_neg h2, if_neg (fun ⟨v, hv, hn⟩ => hn (h3 v hv)), if_neg (fun h => h h4)]
end
theorem nodup_take {l : List (List UInt8)} {k : Nat} (h : (l.take k).Nodup) (hk : k < l.length) (hn : l[k] ∉ l.take k) : (l.take (k + 1)).Nodup := by
  rw [List.take_succ_eq_append_getElem hk]
  refine List.nodup_append.2 ⟨h, by simp, fun a ha b hb => ?_⟩
  simp only [List.mem_singleton] at hb
  subst hb
  exact fun e => hn (e ▸ ha)
theorem not_nodup {l : List (List UInt8)} {k : Nat} (hk : k < l.length) (hn : l[k] ∈ l.take k) : ¬ l.Nodup := fun h => by
  have h2 : (l.take (k + 1)).Nodup := h.sublist (List.take_sublist _ _)
  rw [List.take_succ_eq_append_getElem hk] at h2
  exact (List.nodup_append.1 h2).2.2 _ hn _ (List.mem_singleton.2 rfl) rfl

attribute [local go_sem ↓] eqlEmpty neqEmpty

set_option maxHeartbeats 16000000 in
set_option maxRecDepth 100000 in
theorem QCheck_any (q : Qu) (vd pd : Option Addr) (vc pc : Nat) (w : World) (h : QuIn w q vd pd) (hf : FitQ q) (hcap : q.vars.length ≤ vc) :
    Calls Tryz.prog 5 #[valQ q vd vc pd pc] w fun e w' => e = .returned (.int .i64 (askN q)) ∧ RowKit.Below w.heap.size w w' := by
  have HV := fun (h6 : q.parts.length ≤ 6) W hW => QVars_any q vd pd vc pc W (h.below hW) h6 hf.pt
  have Hvs := hideQ h.vars
  have fl := hf.vl
  have fp := hf.pl
  have fo := hf.ord
  unfold valQ at HV ⊢
  obtain ⟨w1, hw1⟩ : ∃ w1, w1 = w.alloc (.cells #[.slice vd q.vars.length vc, .slice pd q.parts.length pc, .string ⟨q.order.toArray⟩, .bool q.down, .bool q.dist, .int .i64 q.lim] 26) := ⟨_, rfl⟩
  have hb1 : RowKit.Below w.heap.size w w1 := by rw [hw1]; exact balloc _ _
  have HB : Hid (BoxQ w1 w.heap.size q vd pd vc pc) := by show BoxQ _ _ _ _ _ _ _; rw [hw1]; exact boxQ_new _ _ _ _ _ _
  obtain ⟨c0, c1, c2, c3, c4, c5⟩ := HB.out
  have hN := hideQ (rfl : askN q = askN q)
  have hw1' := hideQ hw1
  clear h hf
  go_enter Tryz.func5, Tryz.ntmps5
  go_upto_region 1 with fail
  rw [← hw1'.out]
  clear hw1 hw1'
  by_cases h6 : 6 < q.parts.length
  · have d1 : decide ((q.parts.length : Int) > 6) = true := by simp; omega
    have fin := hideQ (ask_full h6)
    go_wp2_with fail
    go_ret
    exact ⟨ret_int fin.out.symm, hb1⟩
  · have d1 : decide ((q.parts.length : Int) > 6) = false := by simp; omega
    by_cases h0 : q.parts = []
    · have d2 : ((q.parts.length : Int) == 0) = true := by simp [h0]
      have fin := hideQ (ask_nil h0)
      clear h0
      go_wp2_with fail
      go_ret
      exact ⟨ret_int fin.out.symm, hb1⟩
    · have d2 : ((q.parts.length : Int) == 0) = false := by simp; exact h0
      have HV1 := HV (by omega) w1 hb1
      clear HV
      by_cases hp : partsN q.parts = 0
      · have ft := hideQ (ask_tail h6 h0 hp)
        have d3 : (partsN q.parts != 0) = false := by simpa using hp
        go_wp2_with fail
        refine HV1.mono ?_
        rintro e w2 ⟨hb2, m, md, mc, rfl, hm, hmA⟩
        rw [if_pos hp] at hmA
        subst hmA
        have hB2 := bstep hb1 hb2
        have Hm := hideQ hm
        have HB2 := hideQ (HB.out.below hb2)
        have Hvs2 := hideQ (Hvs.out.below hB2)
        clear c0 c1 c2 c3 c4 c5 HB hm HV1 d1 d2 Hvs hp h0 h6
        obtain ⟨c0, c1, c2, c3, c4, c5⟩ := HB2.out
        generalize partsN q.parts = np at *
        generalize partsV [] q.parts = V at *
        by_cases h8 : 8 < V.length
        · have d4 : decide ((V.length : Int) > 8) = true := by simp; omega
          have fin : Hid (askN q = 4) := ft.out.trans (askT_full h8)
          go_wp2_with fail
          go_ret
          exact ⟨ret_int fin.out.symm, hB2⟩
        · have d4 : decide ((V.length : Int) > 8) = false := by simp; omega
          by_cases hv0 : q.vars = []
          · have d5 : ((q.vars.length : Int) == 0) = true := by simp [hv0]
            have fin : Hid (askN q = 5) := ft.out.trans (askT_nil h8 hv0)
            clear hv0
            go_wp2_with fail
            go_ret
            exact ⟨ret_int fin.out.symm, hB2⟩
          · have d5 : ((q.vars.length : Int) == 0) = false := by simp; exact hv0
            have Hv0 := hideQ hv0
            have H8 := hideQ h8
            have hV8 : V.length ≤ 8 := by omega
            clear hv0 h8
            go_wp2_with fail
            go_loop [5] (fun i => ∃ k : Nat, k ≤ q.vars.length ∧ i = .int .i64 k ∧ Hid (∀ j (hj : j < q.vars.length), j < k → q.vars[j] ∈ V)) (fun i => q.vars.length - (intOf i).toNat)
            case atStart => exact ⟨0, Nat.zero_le _, rfl, fun j _ h => absurd h (by omega)⟩
            case round =>
              obtain ⟨k, hk, rfl, hall⟩ := hrel
              by_cases hlt : k < q.vars.length
              · obtain ⟨b, off, rfl, ck⟩ := Hvs2.out.at k hlt
                have i0 : (0 : Int) ≤ (k : Int) := by omega
                have i1 : (k : Int) < (q.vars.length : Int) := by omega
                have HC := RHas_any md mc V q.vars[k] w2 Hm.out (by omega)
                cases hd : decide (q.vars[k] ∈ V)
                · rw [hd] at HC
                  have fin : Hid (askN q = 5) := ft.out.trans (askT_out H8.out Hv0.out ⟨_, List.getElem_mem hlt, by simpa using hd⟩)
                  clear hd
                  go_wp2_with fail
                  refine HC.mono ?_
                  rintro e w3 ⟨rfl, rfl⟩
                  go_wp2_with fail
                  go_ret
                  exact ⟨ret_int fin.out.symm, hB2⟩
                · rw [hd] at HC
                  have Hd := hideQ (of_decide_eq_true hd)
                  clear hd
                  go_wp2_with fail
                  refine HC.mono ?_
                  rintro e w3 ⟨rfl, hw3⟩
                  subst hw3
                  go_wp2_with fail
                  refine ⟨⟨k + 1, by omega, by go_num, fun j hj hjk => ?_⟩, by simp [intOf]; omega⟩
                  by_cases e : j = k
                  · subst e; exact Hd.out
                  · exact hall.out j hj (by omega)
              · obtain rfl : k = q.vars.length := by omega
                have hin := hideQ (fun v (hv : v ∈ q.vars) => by
                  obtain ⟨j, hj, rfl⟩ := List.getElem_of_mem hv
                  exact hall.out j hj hj : ∀ v ∈ q.vars, v ∈ V)
                clear hall
                go_wp2_with fail
                go_loopw [7] (fun i wr => ∃ k : Nat, k ≤ q.vars.length ∧ i = .int .i64 k ∧ Hid ((q.vars.take k).Nodup) ∧ RowKit.Below w2.heap.size w2 wr) (fun i wr => q.vars.length - (intOf i).toNat)
                case atStart => exact ⟨0, Nat.zero_le _, rfl, by show List.Nodup _; simp, RowKit.Below.refl _ _⟩
                case round =>
                  obtain ⟨k, hk, rfl, hnd, hbr⟩ := hrel
                  clear c0 c1 c2 c3 c4 c5
                  obtain ⟨c0, c1, c2, c3, c4, c5⟩ := (HB2.out.below hbr)
                  by_cases hlt : k < q.vars.length
                  · obtain ⟨b, off, rfl, ck⟩ := (Hvs2.out.below hbr).at k hlt
                    have i0 : (0 : Int) ≤ (k : Int) := by omega
                    have i1 : (k : Int) < (q.vars.length : Int) := by omega
                    have i2 : (k : Int) ≤ (vc : Int) := by omega
                    have hne := lat_some wr
                    have q0 := lat_cell c0
                    have q1 := lat_cell ck
                    have hlen : (q.vars.take k).length = k := by rw [List.length_take]; omega
                    have HC : ∀ n : Lat wr, Calls Tryz.prog 19 #[.slice (some ⟨b, off, none⟩) k vc, .string ⟨q.vars[k].toArray⟩] n.val fun e w' => e = .returned (.bool (decide (q.vars[k] ∈ q.vars.take k))) ∧ RowKit.Below n.val.heap.size n.val w' := fun n => by
                      have h1 := WHas_any (some ⟨b, off, none⟩) vc (q.vars.take k) q.vars[k] n.val (((Hvs2.out.below hbr).below n.low).take k) (by rw [hlen]; omega)
                      rw [hlen] at h1
                      refine h1.mono ?_
                      rintro e w' ⟨rfl, hw'⟩
                      subst hw'
                      exact ⟨rfl, RowKit.Below.refl _ _⟩
                    cases hd : decide (q.vars[k] ∈ q.vars.take k)
                    · rw [hd] at HC
                      have hnd2 := hideQ (nodup_take hnd.out hlt (by simpa using hd))
                      clear hd hnd
                      go_wp2_with fail
                      refine lat_region (by kernel_rfl) (by kernel_rfl) ?_
                      repeat (go_big_quiet_step (fail))
                      go_big_quiet_step (exact lat_call (HC _))
                      repeat (go_big_quiet_step (fail))
                      refine wpQuiet_nil ?_
                      intro w3 hw'
                      obtain ⟨nW, rfl⟩ := hw'
                      have hb3 := nW.low
                      go_wp2_with fail
                      go_roundw
                      case rel => exact ⟨k + 1, by omega, by go_num, hnd2, bstep hbr hb3⟩
                      case measure => simp [intOf]; omega
                    · rw [hd] at HC
                      have fin : Hid (askN q = 7) := ft.out.trans (askT_twice H8.out Hv0.out hin.out (not_nodup hlt (of_decide_eq_true hd)))
                      clear hd hnd
                      go_wp2_with fail
                      refine lat_region (by kernel_rfl) (by kernel_rfl) ?_
                      repeat (go_big_quiet_step (fail))
                      go_big_quiet_step (exact lat_call (HC _))
                      repeat (go_big_quiet_step (fail))
                      refine wpQuiet_nil ?_
                      intro w3 hw'
                      obtain ⟨nW, rfl⟩ := hw'
                      have hb3 := nW.low
                      go_wp2_with fail
                      go_ret
                      exact ⟨ret_int fin.out.symm, bstep hB2 (bstep hbr hb3)⟩
                  · obtain rfl : k = q.vars.length := by omega
                    have hnd' := hnd.out
                    rw [List.take_length] at hnd'
                    have fe : Hid (askN q = askE q) := ft.out.trans (askT_end H8.out Hv0.out hin.out hnd')
                    have HC := WHas_any vd vc q.vars q.order wr (Hvs2.out.below hbr) (by omega)
                    have hB3 := bstep hB2 hbr
                    clear hnd hnd' ft hin H8 Hv0 Hm Hvs2 HB2
                    have fin : ∀ x : Int, askE q = x → Hid (askN q = x) := fun x h => fe.out.trans h
                    unfold askE at fin
                    by_cases ho : q.order = []
                    · have de : q.order.isEmpty = true := by simp [ho]
                      have f1 : ∀ x : Int, (if q.down = true then 3 else if q.lim < -1 ∨ 500 < q.lim then 1 else 0) = x → Hid (askN q = x) := fun x h => fin x (by rw [if_neg (fun h => h.1 ho)]; simpa [ho] using h)
                      have F1 := hideQ f1
                      clear fin ho f1 fe
                      generalize decide (q.order ∈ q.vars) = hs at *
                      go_wp2_with fail
                      refine HC.mono ?_
                      rintro e w3 ⟨rfl, hw3⟩
                      subst hw3
                      cases hdn : q.down
                      · rw [hdn] at c3
                        by_cases l1 : q.lim < -1
                        · have dl : decide (q.lim < -1) = true := by simpa using l1
                          have fin := F1.out 1 (by simp [hdn, l1])
                          clear l1
                          go_wp2_with fail
                          go_ret
                          exact ⟨ret_int fin.out.symm, hB3⟩
                        · have dl : decide (q.lim < -1) = false := by simpa using l1
                          by_cases l2 : 500 < q.lim
                          · have dm : decide (q.lim > 500) = true := by simpa using l2
                            have fin := F1.out 1 (by simp [hdn, l2])
                            clear l1 l2
                            go_wp2_with fail
                            go_ret
                            exact ⟨ret_int fin.out.symm, hB3⟩
                          · have dm : decide (q.lim > 500) = false := by simpa using l2
                            have fin := F1.out 0 (by simp [hdn, l1, l2])
                            clear l1 l2
                            go_wp2_with fail
                            go_ret
                            exact ⟨ret_int fin.out.symm, hB3⟩
                      · rw [hdn] at c3
                        have fin := F1.out 3 (by simp [hdn])
                        go_wp2_with fail
                        go_ret
                        exact ⟨ret_int fin.out.symm, hB3⟩
                    · have de : q.order.isEmpty = false := by simp [ho]
                      cases hd : decide (q.order ∈ q.vars)
                      · rw [hd] at HC
                        have fin := fin 5 (by rw [if_pos ⟨ho, by simpa using hd⟩])
                        clear ho hd fe
                        go_wp2_with fail
                        refine HC.mono ?_
                        rintro e w3 ⟨rfl, hw3⟩
                        subst hw3
                        go_wp2_with fail
                        go_ret
                        exact ⟨ret_int fin.out.symm, hB3⟩
                      · rw [hd] at HC
                        have f1 : ∀ x : Int, (if q.lim < -1 ∨ 500 < q.lim then 1 else 0) = x → Hid (askN q = x) := fun x h => fin x (by rw [if_neg (fun h => h.2 (of_decide_eq_true hd)), if_neg (fun h => ho h.2)]; exact h)
                        have F1 := hideQ f1
                        clear ho hd fe fin f1
                        go_wp2_with fail
                        refine HC.mono ?_
                        rintro e w3 ⟨rfl, hw3⟩
                        subst hw3
                        cases hdn : q.down
                        · rw [hdn] at c3
                          by_cases l1 : q.lim < -1
                          · have dl : decide (q.lim < -1) = true := by simpa using l1
                            have fin := F1.out 1 (by simp [l1])
                            clear l1
                            go_wp2_with fail
                            go_ret
                            exact ⟨ret_int fin.out.symm, hB3⟩
                          · have dl : decide (q.lim < -1) = false := by simpa using l1
                            by_cases l2 : 500 < q.lim
                            · have dm : decide (q.lim > 500) = true := by simpa using l2
                              have fin := F1.out 1 (by simp [l2])
                              clear l1 l2
                              go_wp2_with fail
                              go_ret
                              exact ⟨ret_int fin.out.symm, hB3⟩
                            · have dm : decide (q.lim > 500) = false := by simpa using l2
                              have fin := F1.out 0 (by simp [l1, l2])
                              clear l1 l2
                              go_wp2_with fail
                              go_ret
                              exact ⟨ret_int fin.out.symm, hB3⟩
                        · rw [hdn] at c3
                          by_cases l1 : q.lim < -1
                          · have dl : decide (q.lim < -1) = true := by simpa using l1
                            have fin := F1.out 1 (by simp [l1])
                            clear l1
                            go_wp2_with fail
                            go_ret
                            exact ⟨ret_int fin.out.symm, hB3⟩
                          · have dl : decide (q.lim < -1) = false := by simpa using l1
                            by_cases l2 : 500 < q.lim
                            · have dm : decide (q.lim > 500) = true := by simpa using l2
                              have fin := F1.out 1 (by simp [l2])
                              clear l1 l2
                              go_wp2_with fail
                              go_ret
                              exact ⟨ret_int fin.out.symm, hB3⟩
                            · have dm : decide (q.lim > 500) = false := by simpa using l2
                              have fin := F1.out 0 (by simp [l1, l2])
                              clear l1 l2
                              go_wp2_with fail
                              go_ret
                              exact ⟨ret_int fin.out.symm, hB3⟩
      · have fin := hideQ (ask_part h6 h0 hp)
        have d3 : (partsN q.parts != 0) = true := by simpa using hp
        go_wp2_with fail
        refine HV1.mono ?_
        rintro e w2 ⟨hb2, m, md, mc, rfl, _, _⟩
        go_wp2_with fail
        go_ret
        exact ⟨ret_int fin.out.symm, bstep hb1 hb2⟩
end Go.Proofs.YtbacenhgedopjaaGreatDoor

/- A map whose keys are triples: which triples are in it. -/
namespace Go.Proofs.YtbacenhgedopjaaGreatDoor
open Go Go.RowKit Go.Proofs Go.Maps
set_option synthInstance.maxSize 1000

theorem laidOutP : laidOutB Tryz.prog = true := by kernel_rfl
theorem rowTr : (58 : TypeId) < Tryz.prog.types.size := of_decide_eq_true (by kernel_rfl)
theorem wideTr : (match Tryz.prog.underlying 58 with | some (.array _ _) | some (.struct _) => true | _ => false) = true := by kernel_rfl
set_option maxRecDepth 100000 in
theorem keyedTr : Keyed Tryz.prog 58 := Keyed.of_law (deep_law_laid laidOutP (m := 4) (by omega) rowTr (by kernel_rfl) wideTr)
theorem cellsOfTr : Tryz.prog.cellsOf 58 = 9 := by kernel_rfl
theorem cellsOfTm : Tryz.prog.cellsOf 28 = 3 := by kernel_rfl
theorem cellsOfInt : Tryz.prog.cellsOf 3 = 1 := by kernel_rfl
theorem cellsOfStr : Tryz.prog.cellsOf 9 = 1 := by kernel_rfl
theorem keyTypeTr : Tryz.prog.keyType 58 = true := by kernel_rfl

theorem keyLits_term (d : Nat) (k : Int) (S L : List UInt8) (hk : (Lit.int .i64 k).wf = true) (hS : S.length ≤ maxLen) (hL : L.length ≤ maxLen) :
    Tryz.prog.keyLits (d + 2) 28 [.int .i64 k, .string ⟨S.toArray⟩, .string ⟨L.toArray⟩] = some [.int .i64 k, .string S, .string L] := by
  have hS' : (⟨S.toArray⟩ : ByteArray).size ≤ maxLen := hS
  have hL' : (⟨L.toArray⟩ : ByteArray).size ≤ maxLen := hL
  have e1 : Tryz.prog.keyLits (d + 1) 3 [.int .i64 k] = some [.int .i64 k] := by
    unfold Program.keyLits; rw [Tryz.underlying3]; simp [hk]
  have e2 : ∀ s : List UInt8, (⟨s.toArray⟩ : ByteArray).size ≤ maxLen → Tryz.prog.keyLits (d + 1) 9 [.string ⟨s.toArray⟩] = some [.string s] := by
    intro s hs
    unfold Program.keyLits; rw [Tryz.underlying9]; simp [hs]
  unfold Program.keyLits
  simp only [Tryz.underlying28, cellsOfTm]
  simp [e1, e2 S hS', e2 L hL', cellsOfInt, cellsOfStr]

/-- what a triple reads as, as a map's key -/
def litsTr (x : Tr) : List Lit := [.int .i64 x.1.1, .string x.1.2.1, .string x.1.2.2, .int .i64 x.2.1.1, .string x.2.1.2.1, .string x.2.1.2.2, .int .i64 x.2.2.1, .string x.2.2.2.1, .string x.2.2.2.2]
def keyTr (x : Tr) : Lit := .string (keyBytes (litsTr x))

theorem keyLits_triple (d : Nat) (x : Tr) (h : chkTr x = 0) : Tryz.prog.keyLits (d + 3) 58 (encTr x) = some (litsTr x) := by
  obtain ⟨h1, h2, h3, _⟩ := chk_zero h
  have q : ∀ k S L, checkN k S L = 0 → (Lit.int .i64 k).wf = true ∧ S.length ≤ maxLen ∧ L.length ≤ maxLen := fun k S L hh => by
    obtain ⟨hk, hS, hsp⟩ := check_zero hh
    have := spell_lang hsp
    refine ⟨?_, by unfold maxLen; omega, by unfold maxLen; omega⟩
    rcases hk with rfl | rfl | rfl <;> decide
  obtain ⟨a1, a2, a3⟩ := q _ _ _ h1
  obtain ⟨b1, b2, b3⟩ := q _ _ _ h2
  obtain ⟨c1, c2, c3⟩ := q _ _ _ h3
  have e1 := keyLits_term d x.1.1 x.1.2.1 x.1.2.2 a1 a2 a3
  have e2 := keyLits_term d x.2.1.1 x.2.1.2.1 x.2.1.2.2 b1 b2 b3
  have e3 := keyLits_term d x.2.2.1 x.2.2.2.1 x.2.2.2.2 c1 c2 c3
  unfold Program.keyLits
  simp only [Tryz.underlying58, cellsOfTr, encTr]
  simp [e1, e2, e3, litsTr, cellsOfTm]

theorem keyOf_tr (x : Tr) (h : chkTr x = 0) : keyOf Tryz.prog 58 (valTr x) = some (keyTr x) := by
  have hl := keyLits_triple (Tryz.prog.types.size - 2) x h
  have hsz : Tryz.prog.types.size - 2 + 3 = Tryz.prog.types.size + 1 := by
    have : 2 ≤ Tryz.prog.types.size := of_decide_eq_true (by kernel_rfl)
    omega
  rw [hsz] at hl
  have hf : (valTr x).formed Tryz.prog 58 = true := by
    simp [Value.formed, Tryz.underlying58, cellsOfTr, valTr]
  unfold keyOf
  rw [Tryz.underlying58]
  simp only [keyTypeTr, hf, Bool.and_self, if_true]
  have hc : (valTr x).cells.toList = encTr x := rfl
  rw [hc, hl]
  rfl

theorem list_of_array {a b : List UInt8} (h : (⟨a.toArray⟩ : ByteArray) = ⟨b.toArray⟩) : a = b := by
  have := congrArg (fun s : ByteArray => s.data.toList) h
  simpa using this

theorem valTr_inj {x y : Tr} (h : valTr x = valTr y) : x = y := by
  obtain ⟨⟨a1, a2, a3⟩, ⟨b1, b2, b3⟩, ⟨c1, c2, c3⟩⟩ := x
  obtain ⟨⟨a1', a2', a3'⟩, ⟨b1', b2', b3'⟩, ⟨c1', c2', c3'⟩⟩ := y
  simp only [valTr, Value.agg.injEq, Array.mk.injEq, List.cons.injEq, Value.int.injEq, Value.string.injEq, true_and, and_true] at h
  obtain ⟨h1, h2, h3, h4, h5, h6, h7, h8, h9⟩ := h
  rw [h1, list_of_array h2, list_of_array h3, h4, list_of_array h5, list_of_array h6, h7, list_of_array h8, list_of_array h9]

theorem keyTr_ne {x y : Tr} (hx : chkTr x = 0) (hy : chkTr y = 0) (h : x ≠ y) : keyTr x ≠ keyTr y := fun e => by
  have h1 := keyOf_tr x hx
  have h2 := keyOf_tr y hy
  rw [e] at h1
  exact h (valTr_inj (keyedTr.inj h1 h2))

/-- the map at a block holds just these triples -/
def InMap (w : World) (b : Nat) (l : List Tr) : Prop :=
  ∃ D : DataW Unit, w.ownsMap Tryz.prog 58 unitElem b l.length D ∧ ∀ x, chkTr x = 0 → Maps.has D (keyTr x) = decide (x ∈ l)

theorem inMap_made (w : World) : InMap (w.alloc (.map #[] 0)) w.heap.size [] :=
  ⟨.map [], World.ownsMap_made _ _ _ _, fun x _ => by simp [Maps.has_eq]⟩

theorem InMap.below {w w' : World} {b : Nat} {l : List Tr} (h : InMap w b l) (hb : RowKit.Below w.heap.size w w') : InMap w' b l := by
  obtain ⟨D, ⟨es, clock, hm, r⟩, hD⟩ := h
  have hlt : b < w.heap.size := (Array.getElem?_eq_some_iff.1 hm).1
  exact ⟨D, ⟨es, clock, (hb.block b hlt).trans hm, r⟩, hD⟩

theorem has_put {D : DataW Unit} {l : List Tr} {y : Tr} (hm : IsMap D) (hy : chkTr y = 0) (hD : ∀ x, chkTr x = 0 → Maps.has D (keyTr x) = decide (x ∈ l)) (d : DataW Unit) :
    ∀ x, chkTr x = 0 → Maps.has (D.put (keyTr y) d) (keyTr x) = decide (x ∈ l ++ [y]) := fun x hx => by
  by_cases e : x = y
  · subst e
    rw [Maps.has_put_same hm (keyedTr.key (keyOf_tr x hx))]
    simp
  · rw [Maps.has_put_other (keyTr_ne hx hy e), hD x hx]
    simp [e]

end Go.Proofs.YtbacenhgedopjaaGreatDoor

/- What gives variables terms, in plain words. -/
namespace Go.Proofs.YtbacenhgedopjaaGreatDoor
open Go Go.RowKit Go.Proofs
set_option synthInstance.maxSize 1000

/-! ### what gives variables terms -/
abbrev Ev := List UInt8 → Option Tm
/-- what a triple gives to a pattern's variables: the last counts -/
def evT (p : Pt) (t : Tr) : Ev := fun v => if v = [] then none else if v = p.2.2.1 then some t.2.2 else if v = p.2.1.1 then some t.2.1 else if v = p.1.1 then some t.1 else none
def bothE (f g : Ev) : Ev := fun v => match g v with
  | some x => some x
  | none => f v
def noneE : Ev := fun _ => none
def putEv (f : Ev) (v : List UInt8) (x : Tm) : Ev := fun u => if u = v then some x else f u
def nthE (sh : List (List UInt8)) (f : Ev) (i : Nat) : Tm := match sh[i]? with
  | some v => (f v).getD tmZero
  | none => tmZero
/-- what an answer gives to at most three variables -/
def keyT (sh : List (List UInt8)) (f : Ev) : Tr := (nthE sh f 0, nthE sh f 1, nthE sh f 2)
end Go.Proofs.YtbacenhgedopjaaGreatDoor
