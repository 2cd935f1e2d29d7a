import Derived.Test.YtaddfndohoppeaaGreatMDx3
import Derived.Test.YtaddfndohoppeaaGreatMDx4
import Derived.Shelf.SlSortCmp.Whole1
import Derived.Lib.SlicesCompact
import Derived.Test.YtaddfndohoppeaaGreatMDx2
import Derived.Test.YtaddfndohoppeaaGreatMA0x1
import Derived.Laws.EntriesVeiled
import Derived.Shelf.SlGeneric
import Derived.Test.YtaddfndohoppeaaGreatProg
import Derived.Test.YtaddfndohoppeaaGreatMA0x0
import Derived.Deep.DeepCutAuto

/- solve.answersTo: all answers, or what is wrong. -/
namespace Go.Proofs.YtaddfndohoppeaaGreat
open Go Go.RowKit Go.Proofs Go.Maps
set_option synthInstance.maxSize 1000
attribute [local go_sem] eql_errV neq_errV guard_errV

def AnsTo (S : List Tr) (q : Qu) (w : World) (e : Ending) (w' : World) : Prop := RowKit.Below w.heap.size w w' ∧ (solveN S q ≠ 0 → e = .returned (.tuple #[.slice none 0 0, .slice none 0 0, errV (solveN S q)])) ∧ (solveN S q = 0 → ∃ vars rows ad c az cz, answersL S q.parts = some (vars, rows) ∧ e = .returned (.tuple #[.slice ad rows.length c, .slice az (sizesL S q.parts).length cz, .nilIface]) ∧ SlE w' ad 18 (rows.map (boundT vars)) ∧ SlI w' az ((sizesL S q.parts).map fun n : Nat => (n : Int)))
theorem AnsTo.bad {S : List Tr} {q : Qu} {w w' : World} {n : Int} (hb : RowKit.Below w.heap.size w w') (hn : solveN S q = n) (h0 : n ≠ 0) : AnsTo S q w (.returned (.tuple #[.slice none 0 0, .slice none 0 0, errV n])) w' := ⟨hb, fun _ => by rw [hn], fun h => absurd (hn.symm.trans h) h0⟩
/-- as far as the parts have come -/
structure AnsSt (S : List Tr) (ps : List Pt) (k : Nat) (vars : List (List UInt8)) (rows : List (List Tm)) (szs : List Nat) : Prop where
  ok : AnsOK S (ps.take k) vars rows
  few : rows.length ≤ 500
  same : answersL S ps = answersF S vars rows (ps.drop k)
  sizes : sizesL S ps = szs ++ sizesF S vars rows (ps.drop k)
  slen : szs.length = k
theorem AnsSt.start (S : List Tr) (ps : List Pt) : AnsSt S ps 0 [] [[]] [] := ⟨by simpa using AnsOK.start S, by simp, rfl, rfl, rfl⟩
theorem AnsSt.over {S : List Tr} {ps : List Pt} {k : Nat} {vars : List (List UInt8)} {rows : List (List Tm)} {szs : List Nat} (h : AnsSt S ps k vars rows szs) (hk : k < ps.length) (h5 : 500 < (stepR S vars ps[k] rows).length) : answersL S ps = none := by
  rw [h.same, List.drop_eq_getElem_cons hk]
  unfold answersF
  rw [if_pos h5]
theorem AnsSt.next {S : List Tr} {ps : List Pt} {k : Nat} {vars : List (List UInt8)} {rows : List (List Tm)} {szs : List Nat} (h : AnsSt S ps k vars rows szs) (hk : k < ps.length) (h5 : ¬ 500 < (stepR S vars ps[k] rows).length) : AnsSt S ps (k + 1) (vars ++ freshV vars ps[k]) (stepR S vars ps[k] rows) (szs ++ [(stepR S vars ps[k] rows).length]) := by
  refine ⟨?_, by omega, ?_, ?_, by simp [h.slen]⟩
  · rw [List.take_succ_eq_append_getElem hk]
    exact h.ok.step _
  · rw [h.same, List.drop_eq_getElem_cons hk, answers_next h5]
  · rw [h.sizes, List.drop_eq_getElem_cons hk, List.append_assoc]
    rfl
theorem AnsSt.done {S : List Tr} {ps : List Pt} {vars : List (List UInt8)} {rows : List (List Tm)} {szs : List Nat} (h : AnsSt S ps ps.length vars rows szs) : answersL S ps = some (vars, rows) := by
  rw [h.same, List.drop_length]
  rfl
theorem AnsSt.szs {S : List Tr} {ps : List Pt} {vars : List (List UInt8)} {rows : List (List Tm)} {szs : List Nat} (h : AnsSt S ps ps.length vars rows szs) : szs = sizesL S ps := by
  rw [h.sizes, List.drop_length]
  simp [sizesF]
/-- a row of answers stays when numbers of one's own are written -/
theorem ne_numbers {w : World} {B n : Nat} {a : Addr} {cur : Array Value} {v : Value} {cs : List Value} (hc : w.heap[a.block]? = some (.cells cur 101 (0, 0))) (ho : w.ownsRow B 3 1 v n cs) : some a.block ≠ v.ownBlock := fun q => by
  rcases ho.2 with ⟨rfl, _⟩ | ⟨g, cap, c2, rfl, _, hg, _⟩
  · cases q
  · have e1 : a.block = g := by simpa [Value.ownBlock] using q
    rw [e1, hg] at hc
    simp at hc
theorem TyE.grown {w w' : World} {B n : Nat} {ad : Option Addr} {v : Value} {cs : List Value} (h : TyE w ad) (ho : w.ownsRow B 3 1 v n cs) (hg : w.grownBy w' v.ownBlock) : TyE w' ad := fun a ha => by
  obtain ⟨cur, hc⟩ := h a ha
  exact ⟨cur, (hg.block _ (Array.getElem?_eq_some_iff.1 hc).1 (ne_numbers hc ho)).trans hc⟩
theorem SlE.grown {w w' : World} {B n m : Nat} {ad : Option Addr} {v : Value} {cs : List Value} {L : List Ev} (h : SlE w ad m L) (ht : TyE w ad) (ho : w.ownsRow B 3 1 v n cs) (hg : w.grownBy w' v.ownBlock) : SlE w' ad m L := fun hl => by
  obtain ⟨b, o, e, r⟩ := h hl
  obtain ⟨cur, hc⟩ := ht _ e
  refine ⟨b, o, e, fun j hj => ?_⟩
  obtain ⟨bm, c, s⟩ := r j hj
  exact ⟨bm, hg.cell c (ne_numbers (a := ⟨b, o + j, none⟩) hc ho), s.kept hg (s.ne_own ho)⟩
theorem tyE_one (w : World) : TyE ((w.alloc (.map #[] 0)).alloc (.cells #[.map (some w.heap.size)] 101)) (some ⟨w.heap.size + 1, 0, none⟩) := fun a ha => by
  injection ha with ha
  subst ha
  have := heap_alloc_last (w.alloc (.map #[] 0)) (.cells #[.map (some w.heap.size)] 101)
  exact ⟨_, by simpa using this⟩
theorem solveN_s {S : List Tr} {q : Qu} (h : sortedN S ≠ 0) : solveN S q = sortedN S := by unfold solveN; rw [if_pos h]
theorem solveN_a {S : List Tr} {q : Qu} (h : sortedN S = 0) (h2 : askN q ≠ 0) : solveN S q = askN q := by unfold solveN; rw [if_neg (fun k => k h), if_pos h2]
theorem solveN_f {S : List Tr} {q : Qu} (h : sortedN S = 0) (h2 : askN q = 0) (h3 : answersL S q.parts = none) : solveN S q = 4 := by unfold solveN; rw [if_neg (fun k => k h), if_neg (fun k => k h2), h3]; rfl
theorem solveN_z {S : List Tr} {q : Qu} (h : sortedN S = 0) (h2 : askN q = 0) {a : List (List UInt8) × List (List Tm)} (h3 : answersL S q.parts = some a) : solveN S q = 0 := by unfold solveN; rw [if_neg (fun k => k h), if_neg (fun k => k h2), h3]; rfl
theorem slE_one (w : World) : SlE ((w.alloc (.map #[] 0)).alloc (.cells #[.map (some w.heap.size)] 101)) (some ⟨w.heap.size + 1, 0, none⟩) 0 (([[]] : List (List Tm)).map (boundT [])) := fun _ => by
  refine ⟨w.heap.size + 1, 0, rfl, fun j hj => ?_⟩
  obtain rfl : j = 0 := by simpa using hj
  refine ⟨w.heap.size, by go_simp, ?_⟩
  exact ((evAt_made w).below (balloc _ _)).same (fun v _ => rfl)
theorem take_map_le {L : List (List Tm)} {f : List Tm → Ev} (h : ¬ 500 < L.length) : (L.map f).take 501 = L.map f := List.take_of_length_le (by simp; omega)
set_option maxHeartbeats 8000000 in
set_option maxRecDepth 100000 in
theorem answersTo_any (ad : Option Addr) (ca : Nat) (S : List Tr) (q : Qu) (vd pd : Option Addr) (vc pc : Nat) (w : World) (h : SlT w ad S) (hfit : ∀ x ∈ S, fitTr x) (hn : S.length ≤ 9223372036854775807) (hq : QuIn w q vd pd) (hf : FitQ q) (hvc : q.vars.length ≤ vc) :
    Calls Tryz.prog 38 #[.slice ad S.length ca, valQ q vd vc pd pc] w (AnsTo S q w) := by
  have HS := fun W hW => Sorted_any ad ca S W hW hfit hn
  have HC := fun W hW => CheckO_any q vd pd vc pc W hW hf hvc
  have Hh := hideE h
  have Hq := hideE hq
  obtain ⟨Q, hQ⟩ : ∃ Q, Q = AnsTo S q w := ⟨_, rfl⟩
  have HQ : Hid (∀ e w', AnsTo S q w e w' → Q e w') := fun e w' h => by rw [hQ]; exact h
  rw [← hQ]
  clear hQ h hq
  obtain ⟨W0, hW0⟩ : ∃ W0, W0 = w.alloc (.cells #[.slice vd q.vars.length vc, .slice pd q.parts.length pc, .string ⟨q.order.toArray⟩, .bool q.down, .bool q.dist, .int .i64 q.lim] 66) := ⟨_, rfl⟩
  have hB0 : RowKit.Below w.heap.size w W0 := by rw [hW0]; exact balloc _ _
  have hX0 := hideE (show BoxQ W0 w.heap.size q vd pd vc pc by rw [hW0]; exact boxQ_new _ _ _ _ _ _)
  unfold valQ at HC ⊢
  by_cases hs : sortedN S = 0
  · by_cases hk : askN q = 0
    · have hset := sortedN_set.1 hs
      have hgq := ask_good hk
      have h200 : S.length ≤ 200 := hset.1
      have e1 := hideE hs
      have e2 := hideE hk
      have Hset := hideE hset
      have Hgq := hideE hgq
      have Hpt := hideE hf.pt
      have Hfit := hideE hfit
      have hpl : q.parts.length ≤ 6 := hgq.six
      have hmk := makeAns
      rw [hs] at HS
      rw [hk] at HC
      clear hs hk hset hgq hf hfit hn
      go_enter Tryz.func38, Tryz.ntmps38
      go_upto_region 1 with fail
      rw [← hW0]
      clear hW0
      go_wp2_with fail
      refine (HS _ (Hh.out.below hB0)).mono ?_
      rintro e w1 ⟨rfl, hb1⟩
      have hX1 := hX0.out.below hb1
      obtain ⟨c0, c1, c2, c3, c4, c5⟩ := hX1
      have hB1 := bstep hB0 hb1
      dsimp only
      go_wp2_with fail
      refine (HC _ (Hq.out.below hB1)).mono ?_
      rintro e w2 ⟨rfl, hb2⟩
      have hX2 := hideE (hX0.out.below hb1 |>.below hb2)
      have c1b := hX2.out.c1
      have hz2 := World.block_lt_of_cell? w2 _ c1b
      dsimp only at hz2
      have hB2 := bstep hB1 hb2
      have Hq2 := hideE (Hq.out.below hB2)
      have Hh2 := hideE (Hh.out.below hB2)
      have hone := hideE (slE_one w2)
      have htyo := hideE (tyE_one w2)
      obtain ⟨i0', hi0, hz⟩ := Option.map_eq_some_iff.1 infoU
      simp only [Prod.mk.injEq] at hz
      obtain ⟨hz0, hz1, hz2'⟩ := hz
      have hst0 := hideE (AnsSt.start S q.parts)
      clear c0 c1 c2 c3 c4 c5 HC HS hb1 hb2 hB1 hX0 hB0 Hq Hh
      dsimp only
      go_wp2_with fail
      go_loopw [9, 10, 30] (fun va sv i wr => ∃ (k : Nat) (vars : List (List UInt8)) (rows : List (List Tm)) (ax : Option Addr) (cx : Nat) (szs : List Nat), k ≤ q.parts.length ∧ i = .int .i64 k ∧ va = .slice ax rows.length cx ∧ Hid (AnsSt S q.parts k vars rows szs) ∧ Hid (SlE wr ax (3 * k) (rows.map (boundT vars))) ∧ Hid (TyE wr ax) ∧ Hid (wr.ownsRow w2.heap.size 3 1 sv szs.length (cellsU szs)) ∧ RowKit.Below w2.heap.size w2 wr) (fun _ _ i wr => q.parts.length - (intOf i).toNat)
      case atStart => exact ⟨0, [], [[]], _, _, [], Nat.zero_le _, rfl, rfl, hst0.out, hone.out, htyo.out, World.ownsRow_nil _ _ _ _, bstep (balloc _ _) (balloc _ _)⟩
      case round =>
        clear hone htyo hst0 hmk
        obtain ⟨k, vars, rows, ax, cx, szs, hk, rfl, rfl, hA, hL, hTy, hOw, hbr⟩ := hrel
        have hzr := hbr.size
        by_cases hlt : k < q.parts.length
        · have t1 : decide ((k : Int) < (q.parts.length : Int)) = true := by simp; omega
          have i0 : (0 : Int) ≤ (k : Int) := by omega
          have i1 : (k : Int) < (q.parts.length : Int) := by omega
          obtain ⟨b, o, rfl, hr0⟩ := (Hq2.out.parts.below hbr).at k hlt
          have hr := hr0.at k hlt
          have hpk := Hpt.out _ (List.getElem_mem hlt)
          have hvk := Hgq.out.parts _ (List.getElem_mem hlt)
          have hnext := hideE (fun h5 => hA.out.next hlt h5)
          have hover := hideE (fun h5 => hA.out.over hlt h5)
          generalize q.parts[k] = p at *
          have hN : matchN S p = 0 := by unfold matchN; rw [if_pos e1.out]; exact hvk
          have HP := fun W hW => answersToPart_any ad ca S p W hW Hfit.out hpk h200 hN
          have hrl := hA.out.ok.len
          have hshort : ∀ v ∈ varsL p, v.length ≤ maxLen := fun v hv => by
            rcases (varsL_mem.1 hv).2 with h | h | h
            · rw [h]; exact hpk.1.1
            · rw [h]; exact hpk.2.1.1
            · rw [h]; exact hpk.2.2.1
          have hmeet := hideE (fun sh (hsh : SharedE (rows.map (boundT vars)) ((matchP S p).map (evT p)) sh) => meet_step (S := S) (p := p) (sh := sh) hrl (fun h1 h2 => shared_v hrl hshort hsh h1 h2))
          have hM200 : (matchL S p).length ≤ 200 := Nat.le_trans (List.length_filter_le _ _) h200
          have hwa : ∀ f ∈ rows.map (boundT vars), WfE f := fun f hf => by
            obtain ⟨r, hr, rfl⟩ := List.mem_map.1 hf
            exact wfE_bound Hset.out (hA.out.ok.from_ r hr)
          have hwb : ∀ f ∈ (matchL S p).map (evT p), WfE f := fun f hf => by
            obtain ⟨t, ht, rfl⟩ := List.mem_map.1 hf
            exact wfE_evT Hset.out ((List.mem_filter.1 ht).1)
          have hdd : ∀ f ∈ (matchL S p).map (evT p), ∀ v, (f v).isSome = true → v ∈ varsL p := fun f hf v hv => by
            obtain ⟨t, ht, rfl⟩ := List.mem_map.1 hf
            exact Classical.byContradiction fun hn => by rw [evT_none.2 hn] at hv; cases hv
          have HME := fun aa ab ca cb W ha hb => meet_any aa ab ca cb (3 * k) 3 (rows.map (boundT vars)) ((matchL S p).map (evT p)) (varsL p) W ha hb (by simpa using hA.out.few) (by simpa using hM200) (by omega) (by omega) hwa hwb (varsL_few _) hdd
          have HHM := hideE HME
          have hcells := hideE hr
          have c0 := hr 0 _ rfl
          have c1 := hr 1 _ rfl
          have c2 := hr 2 _ rfl
          have c3 := hr 3 _ rfl
          have c4 := hr 4 _ rfl
          have c5 := hr 5 _ rfl
          have c6 := hr 6 _ rfl
          have c7 := hr 7 _ rfl
          have c8 := hr 8 _ rfl
          have c9 := hr 9 _ rfl
          have c10 := hr 10 _ rfl
          have c11 := hr 11 _ rfl
          rw [Nat.add_zero] at c0
          clear hr hr0 hwa hwb hdd HME hcells hrl hshort hN hvk hpk
          unfold valPt at HP
          go_wp2_with fail
          refine (HP _ (Hh2.out.below (bstep hbr (balloc _ _)))).mono ?_
          rintro e w4 ⟨hb4, ab, cb, rfl, hs4⟩
          have hb4' : RowKit.Below wr.heap.size wr w4 := bstep (balloc wr (.cells (encPt p).toArray 63)) hb4
          have HM := HHM.out ax ab cx cb w4 (hL.out.below hb4') hs4
          rw [List.length_map, List.length_map] at HM
          have HB4 := hideE hb4'
          clear hs4 HHM HP hL c0 c1 c2 c3 c4 c5 c6 c7 c8 c9 c10 c11 hb4 hb4'
          dsimp only
          generalize (matchL S p).length = nm at *
          go_wp2_with fail
          refine HM.mono ?_
          rintro e w5 ⟨hb5, sh, ay, cy, L, hsh, hLe, rfl, hs5, ht5⟩
          have Hty5 := hideE ht5
          have ho5 := hideE (ownsRow_belowV (hOw.out.kept (row := none) ⟨HB4.out.os, HB4.out.tape, HB4.out.output, HB4.out.size, fun i hi _ => HB4.out.block i hi⟩ (Classical.em _)) hb5)
          have hsl := hA.out.slen
          clear ht5 hOw hTy
          replace hLe : L = List.take 501 (meetE sh (rows.map (boundT vars)) ((matchP S p).map (evT p))) := hLe
          rw [hmeet.out sh hsh] at hLe
          have Hs5 := hideE hs5
          have HLe := hideE hLe
          have hBf := hideE (bstep (hbr.trans (HB4.out.mono hzr)) hb5)
          clear hs5 hLe hsh hb5 HM
          dsimp only
          by_cases h5 : 500 < (stepR S vars p rows).length
          · have hl : L.length = 501 := by rw [HLe.out, List.length_take, List.length_map]; omega
            have hnone := hideE (hover.out h5)
            rw [hl]
            clear hl h5
            go_wp2_with fail
            refine bodyPost_ret (v := .tuple #[.slice none 0 0, .slice none 0 0, errV 4]) (by simp [results, Tryz.results38, go_sem, errV]) rfl ?_
            exact HQ.out _ _ (AnsTo.bad (n := 4) (bstep hB2 hBf.out) (solveN_f e1.out e2.out hnone.out) (by decide))
          · have hL3 : L = (stepR S vars p rows).map (boundT (vars ++ freshV vars p)) := by rw [HLe.out, take_map_le h5]
            have hA2 := hideE (hnext.out h5)
            have hl : L.length = (stepR S vars p rows).length := by rw [hL3]; simp
            have Hs6 := hideE (show SlE w5 ay (3 * (k + 1)) ((stepR S vars p rows).map (boundT (vars ++ freshV vars p))) by rw [← hL3]; exact Hs5.out)
            rw [hl]
            clear hl hL3 HLe Hs5 hnext hover hmeet hA
            generalize stepR S vars p rows = R2 at *
            have t5 : decide ((R2.length : Int) > 500) = false := by simp; omega
            have t6 : decide (500 < (R2.length : Int)) = false := by simp; omega
            have hslE := hideE hsl
            have hm6 : szs.length ≤ 6 := by omega
            clear hsl
            go_wp2_with (at_builtin; refine wpList_append_own _ rfl _ _ 38 rfl w2.heap.size 3 i0' (.int .i64 0) 1 8 Tryz.underlying38 hi0 hz0 hz1 hz2' rfl (by decide) _ _ _ rfl (ho5.out.alloc _) ⟨w5.heap.size, 0, none⟩ 1 1 [.int .i64 (R2.length : Int)] rfl rfl ?c1 (by simp [Value.oneCell']) (by unfold maxLen; omega) (by omega) (by have := hBf.out.size; simp; omega) ?_)
            case c1 =>
              intro j u hu
              have hj : j < 1 := by have := (List.getElem?_eq_some_iff.1 hu).1; simpa using this
              obtain rfl : j = 0 := by omega
              rw [Addr.add_lit]
              simp at hu; subst hu; go_simp
            intro v' w7 h2 h3 _
            have hb7 : Hid (RowKit.Below w2.heap.size w2 w7) := (hBf.out.trans ((balloc w5 _).mono hBf.out.size)).grown h3 (by have := hBf.out.size; simp; omega) (fun j hj => (ho5.out.lt j hj).1)
            have ho7 : Hid (w7.ownsRow w2.heap.size 3 1 v' (szs ++ [R2.length]).length (cellsU (szs ++ [R2.length]))) := by
              show World.ownsRow _ _ _ _ _ _ _
              rw [List.length_append]
              simpa [cellsU] using h2
            have hs7 := hideE ((Hs6.out.below (balloc w5 (.cells #[.int .i64 (R2.length : Int)] 3))).grown (Hty5.out.below (balloc _ _)) (ho5.out.alloc _) h3)
            have ht7 := hideE ((Hty5.out.below (balloc w5 (.cells #[.int .i64 (R2.length : Int)] 3))).grown (ho5.out.alloc _) h3)
            clear h2 h3
            go_wp2_with fail
            go_roundw
            case rel => exact ⟨k + 1, _, R2, ay, cy, szs ++ [R2.length], by omega, by go_num, rfl, hA2.out, hs7.out, ht7.out, ho7.out, hb7.out⟩
            case measure => simp [intOf]; omega
        · obtain rfl : k = q.parts.length := by omega
          have t1 : decide ((q.parts.length : Int) < (q.parts.length : Int)) = false := by simp
          have hd := hideE hA.out.done
          have hsz : Hid (szs = sizesL S q.parts) := hA.out.szs
          obtain ⟨az, cz, rfl, hsi⟩ := ownU_sl hOw.out
          have Hsi := hideE hsi
          clear hsi hOw
          obtain ⟨nz, hnz⟩ : ∃ n, n = szs.length := ⟨_, rfl⟩
          have Hnz := hideE hnz
          rw [← hnz]
          clear hnz
          go_wp2_with fail
          refine bodyPost_ret (v := .tuple #[.slice ax rows.length cx, .slice az nz cz, .nilIface]) (by simp [results, Tryz.results38, go_sem]) rfl ?_
          exact HQ.out _ _ ⟨bstep hB2 hbr, fun h => absurd (solveN_z e1.out e2.out hd.out) h, fun _ => ⟨vars, rows, ax, cx, az, cz, hd.out, by rw [← hsz.out, Hnz.out], by
            have := hL.out
            exact fun hne => by
              obtain ⟨b, o, e, r⟩ := this hne
              exact ⟨b, o, e, fun j hj => by obtain ⟨bm, c, s⟩ := r j hj; exact ⟨bm, c, s.mono (by omega)⟩⟩, by rw [← hsz.out]; exact Hsi.out⟩⟩
    · have h0 := hideE (solveN_a hs hk)
      have h1 := hideE hk
      generalize askN q = n1 at *
      have e1 : (n1 == 0) = false := by simpa using hk
      rw [hs] at HS
      clear hs hk
      go_enter Tryz.func38, Tryz.ntmps38
      go_upto_region 1 with fail
      rw [← hW0]
      clear hW0
      go_wp2_with fail
      refine (HS _ (Hh.out.below hB0)).mono ?_
      rintro e w1 ⟨rfl, hb1⟩
      obtain ⟨c0, c1, c2, c3, c4, c5⟩ := hX0.out.below hb1
      have hB1 := bstep hB0 hb1
      dsimp only
      go_wp2_with fail
      refine (HC _ (Hq.out.below hB1)).mono ?_
      rintro e w2 ⟨rfl, hb2⟩
      go_wp2_with fail
      refine bodyPost_ret (v := .tuple #[.slice none 0 0, .slice none 0 0, errV n1]) (by simp [results, Tryz.results38, go_sem]) rfl ?_
      exact HQ.out _ _ (AnsTo.bad (bstep hB1 hb2) h0.out h1.out)
  · have h0 := hideE (solveN_s (q := q) hs)
    have h1 := hideE hs
    generalize sortedN S = n1 at *
    have e1 : (n1 == 0) = false := by simpa using hs
    clear hs HC
    go_enter Tryz.func38, Tryz.ntmps38
    go_upto_region 1 with fail
    rw [← hW0]
    clear hW0
    go_wp2_with fail
    refine (HS _ (Hh.out.below hB0)).mono ?_
    rintro e w1 ⟨rfl, hb1⟩
    go_wp2_with fail
    refine bodyPost_ret (v := .tuple #[.slice none 0 0, .slice none 0 0, errV n1]) (by simp [results, Tryz.results38, go_sem]) rfl ?_
    exact HQ.out _ _ (AnsTo.bad (bstep hB0 hb1) h0.out h1.out)
end Go.Proofs.YtaddfndohoppeaaGreat

/- Rows of terms as the program compares and sorts them, and equal ones once; plain lists, no program. -/
namespace Go.Proofs.YtaddfndohoppeaaGreat
open Go Go.RowKit Go.Proofs Go.Sort Go.Lib
set_option synthInstance.maxSize 1000
variable {lt : List Tm → List Tm → Bool}
def allQ (n : Nat) : Array (Fin n) := Array.ofFn fun i => i
theorem allQ_size (n : Nat) : (allQ n).size = n := by simp [allQ]
/-! ### as the program compares -/
def cmpF : List Tm → List Tm → Int
  | [], [] => 0
  | [], _ :: _ => -1
  | _ :: _, [] => 1
  | x :: a, y :: b => if cmpTm x y = 0 then cmpF a b else cmpTm x y
theorem cmpF_less : ∀ (a b : List Tm), a.length = b.length → decide (cmpF a b < 0) = lessR a b
  | [], [], _ => rfl
  | [], y :: b, h => by simp at h
  | x :: a, [], h => by simp at h
  | x :: a, y :: b, h => by
    unfold cmpF lessR
    by_cases e : cmpTm x y = 0
    · rw [if_pos e, if_pos e]; exact cmpF_less a b (by simpa using h)
    · rw [if_neg e, if_neg e]
def cmpQ (i : Option Nat) (down : Bool) (a b : List Tm) : Int := match i with
  | none => cmpF a b
  | some i => if cmpTm (a.getD i tmZero) (b.getD i tmZero) = 0 then cmpF a b else if down = true then - cmpTm (a.getD i tmZero) (b.getD i tmZero) else cmpTm (a.getD i tmZero) (b.getD i tmZero)
theorem cmpQ_ahead (i : Option Nat) (down : Bool) (a b : List Tm) (h : a.length = b.length) : decide (cmpQ i down a b < 0) = aheadB i down a b := by
  have hl := cmpF_less a b h
  unfold cmpQ aheadB byC
  cases i with
  | none => simp [hl]
  | some i =>
    generalize hc : cmpTm (a.getD i tmZero) (b.getD i tmZero) = c
    simp only [hc]
    by_cases e : c = 0
    · subst e
      cases down <;> simp [hl]
    · have e' : ¬ -c = 0 := by omega
      cases down <;> simp [e, e']
theorem swoQ (i : Option Nat) (down : Bool) {k : Nat} (o : OrdR (aheadB i down) k) (L : List (List Tm)) (hL : LenR k L) : SWO (ltOf fun (x y : Fin L.length) => cmpQ i down L[x] L[y]) := by
  have e : ∀ x y : Fin L.length, ltOf (fun (x y : Fin L.length) => cmpQ i down L[x] L[y]) x y = aheadB i down L[x] L[y] := fun x y => cmpQ_ahead i down _ _ ((hL _ (List.getElem_mem x.isLt)).trans (hL _ (List.getElem_mem y.isLt)).symm)
  refine ⟨fun x => by rw [e]; exact o.irr _, fun x y z h1 h2 => ?_, fun x y z h1 h2 => ?_⟩
  · rw [e] at h1 h2 ⊢; exact o.trans h1 h2
  · rw [e] at h1 h2 ⊢
    exact o.back (hL _ (List.getElem_mem z.isLt)) (hL _ (List.getElem_mem y.isLt)) h2 h1
theorem allQ_map (L : List (List Tm)) : (allQ L.length).toList.map (fun i => L[i]) = L := by
  apply List.ext_getElem
  · simp [allQ]
  · intro i h1 h2
    simp [allQ]
theorem sorted_rows (i : Option Nat) (down : Bool) {k : Nat} (o : OrdR (aheadB i down) k) (L : List (List Tm)) (hL : LenR k L) [Inhabited (Fin L.length)] {d' : Array (Fin L.length)} (hp : PermIn 0 (allQ L.length).size (allQ L.length) d')
    (hs : SortedIn (ltOf fun (x y : Fin L.length) => cmpQ i down L[x] L[y]) 0 (allQ L.length).size d') : d'.size = L.length ∧ d'.toList.map (fun j => L[j]) = sortR (aheadB i down) false L := by
  rw [allQ_size] at hp hs
  have hsz : d'.size = L.length := by rw [hp.1, allQ_size]
  have e : ∀ x y : Fin L.length, ltOf (fun (x y : Fin L.length) => cmpQ i down L[x] L[y]) x y = aheadB i down L[x] L[y] := fun x y => cmpQ_ahead i down _ _ ((hL _ (List.getElem_mem x.isLt)).trans (hL _ (List.getElem_mem y.isLt)).symm)
  refine ⟨hsz, sortR_all o hL ?_ ?_⟩
  · refine List.pairwise_iff_getElem.2 ?_
    intro a b ha hb hab
    have ha' : a < d'.size := by simpa using ha
    have hb' : b < d'.size := by simpa using hb
    have h1 := hs a b (Nat.zero_le _) hab (by omega)
    rw [getElem!_pos d' a ha', getElem!_pos d' b hb', e] at h1
    simpa using h1
  · have h := hp.2.2
    have q : ∀ (a : Array (Fin L.length)), a.size = L.length → (a.extract 0 L.length).toList = a.toList := fun a ha => by
      rw [Array.toList_extract]
      simp [List.take_of_length_le (show a.toList.length ≤ L.length by simp [ha])]
    rw [q d' hsz, q _ (allQ_size _)] at h
    have h2 := h.map (fun i : Fin L.length => L[i])
    rwa [allQ_map] at h2
/-- a sorted list, neighbours that are equal once -/
theorem compQ_mem {l : List (List Tm)} {x : List Tm} : x ∈ compact l ↔ x ∈ l := by
  unfold compact compactUpTo
  simp only [List.mem_map, List.mem_filter, List.mem_range]
  constructor
  · rintro ⟨j, ⟨hj, _⟩, rfl⟩
    rw [getElem!_pos l.toArray j (by simpa using hj)]
    simp
  · intro h
    have key : ∀ j, j < l.length → ∃ a, (a < l.length ∧ keeps l.toArray a = true) ∧ l.toArray[a]! = l.toArray[j]! := by
      intro j
      induction j with
      | zero => exact fun h0 => ⟨0, ⟨h0, by simp [keeps]⟩, rfl⟩
      | succ m ih =>
        intro hm
        by_cases hk : keeps l.toArray (m + 1) = true
        · exact ⟨m + 1, ⟨hm, hk⟩, rfl⟩
        · obtain ⟨a, ha, e⟩ := ih (by omega)
          refine ⟨a, ha, e.trans ?_⟩
          simp only [keeps, decide_eq_true_eq, not_or] at hk
          have h2 : l.toArray[m + 1]! = l.toArray[m + 1 - 1]! := Classical.byContradiction hk.2
          exact h2.symm
    obtain ⟨j, hj, rfl⟩ := List.getElem_of_mem h
    obtain ⟨a, ha, e⟩ := key j hj
    refine ⟨a, ha, e.trans ?_⟩
    rw [getElem!_pos l.toArray j (by simpa using hj)]
    simp
theorem comp_sorted {l : List (List Tm)} {k : Nat} (o : OrdR lt k) (hL : LenR k l) (h : SortedR lt l) : SortedR lt (compact l) ∧ (compact l).Nodup := by
  have h' := List.pairwise_iff_getElem.1 h
  have le : ∀ a b, a ≤ b → b < l.length → lt l.toArray[b]! l.toArray[a]! = false := fun a b hab hb => by
    rw [getElem!_pos l.toArray a (by simp; omega), getElem!_pos l.toArray b (by simpa using hb)]
    rcases Nat.lt_or_ge a b with h1 | h1
    · simpa using h' a b (by omega) hb h1
    · have : a = b := by omega
      subst this
      exact o.irr _
  have hlen : ∀ a, a < l.length → (l.toArray[a]!).length = k := fun a ha => by
    rw [getElem!_pos l.toArray a (by simpa using ha)]
    exact hL _ (by simp)
  have hpw : ((List.range l.length).filter (keeps l.toArray)).Pairwise fun a b => a < b ∧ b < l.length ∧ keeps l.toArray b = true := by
    have h1 : (List.range l.length).Pairwise fun a b => a < b := List.pairwise_lt_range
    have h2 := h1.filter (keeps l.toArray)
    refine h2.imp_of_mem ?_
    intro a b _ hb hab
    rw [List.mem_filter, List.mem_range] at hb
    exact ⟨hab, hb⟩
  constructor
  · unfold SortedR compact compactUpTo
    rw [List.pairwise_map]
    exact hpw.imp (fun {a b} hh => le a b (by omega) hh.2.1)
  · unfold List.Nodup compact compactUpTo
    rw [List.pairwise_map]
    refine hpw.imp (fun {a b} hh => ?_)
    obtain ⟨hab, hb, hk⟩ := hh
    intro e
    simp only [keeps, decide_eq_true_eq] at hk
    have hne : l.toArray[b]! ≠ l.toArray[b - 1]! := by
      rcases hk with h0 | h0
      · omega
      · exact h0
    refine hne (o.total (hlen b hb) (hlen (b - 1) (by omega)) (le (b - 1) b (by omega) hb) ?_)
    rw [← e]
    exact le a (b - 1) (by omega) (by omega)
theorem comp_sort {k : Nat} (o : OrdR lt k) {rows : List (List Tm)} (hL : LenR k rows) (hs : SortedR lt (sortR lt false rows)) : compact (sortR lt false rows) = sortR lt true rows := by
  have hL2 : LenR k (sortR lt false rows) := fun x hx => hL x (sort_mem.1 hx)
  obtain ⟨h1, h2⟩ := comp_sorted o hL2 hs
  exact sortR_once o hL h1 h2 (fun x => by rw [compQ_mem, sort_mem])
end Go.Proofs.YtaddfndohoppeaaGreat

/- Rows of terms compared: slices.CompareFunc with term.Compare, slices.Equal, and solve.ordering. -/
namespace Go.Proofs.YtaddfndohoppeaaGreat
open Go Go.RowKit Go.Proofs Go.Maps Go.Sort
set_option synthInstance.maxSize 1000
attribute [local go_sem ↓] neqTerm eqlTerm

theorem enters77 : ∀ args w, (callFunc 77 args).run Tryz.prog w = .ok (.enter 77 args) w := enters_of Tryz.func77 (by kernel_rfl) rfl
theorem cmpF_at {a b : List Tm} {k : Nat} (h1 : k < a.length) (h2 : k < b.length) : cmpF (a.drop k) (b.drop k) = if cmpTm a[k] b[k] = 0 then cmpF (a.drop (k + 1)) (b.drop (k + 1)) else cmpTm a[k] b[k] := by
  rw [List.drop_eq_getElem_cons h1, List.drop_eq_getElem_cons h2, cmpF]
theorem SlQ.grew {w w' : World} {ad : Option Addr} {l : List Tm} (h : SlQ w ad l) (hg : Grew w w') : SlQ w' ad l := h.below hg.below
set_option maxHeartbeats 4000000 in
set_option maxRecDepth 100000 in
theorem CompareQ_any (ad bd : Option Addr) (ca cb : Nat) (a b : List Tm) (w : World) (ha : SlQ w ad a) (hb : SlQ w bd b) (la : a.length ≤ 1000000) :
    Calls Tryz.prog 76 #[.slice ad a.length ca, .slice bd b.length cb, .func (.func 77) #[] #[]] w fun e w' => e = .returned (.int .i64 (cmpF a b)) ∧ Grew w w' := by
  have HA := hideE ha
  have HB := hideE hb
  have eg := enters77
  obtain ⟨R, hR⟩ : ∃ R, R = cmpF a b := ⟨_, rfl⟩
  have HR := hideE hR
  rw [← hR]
  clear ha hb hR
  go_enter Tryz.func76, Tryz.ntmps76
  go_wp2_with fail
  go_loopw [13] (fun i wr => ∃ k : Nat, k ≤ a.length ∧ k ≤ b.length ∧ i = .int .i64 k ∧ Hid (R = cmpF (a.drop k) (b.drop k)) ∧ Grew w wr) (fun i wr => a.length - (intOf i).toNat)
  case atStart => exact ⟨0, Nat.zero_le _, Nat.zero_le _, rfl, HR.out, Grew.refl _⟩
  case round =>
    obtain ⟨k, hk, hkb, rfl, hC, hg⟩ := hrel
    by_cases h1 : k < a.length
    · have t1 : decide ((k : Int) < (a.length : Int)) = true := by simp; omega
      have i0 : (0 : Int) ≤ (k : Int) := by omega
      have i1 : (k : Int) < (a.length : Int) := by omega
      obtain ⟨g, o, rfl, c0, c1, c2⟩ := (HA.out.grew hg).at k h1
      by_cases h2 : k < b.length
      · have t2 : decide ((k : Int) ≥ (b.length : Int)) = false := by simp; omega
        have i2 : (k : Int) < (b.length : Int) := by omega
        obtain ⟨g', o', rfl, d0, d1, d2⟩ := (HB.out.grew hg).at k h2
        have hC2 := hC.out
        rw [cmpF_at h1 h2] at hC2
        have HC2 := hideE hC2
        have HK := fun W => Compare_grew a[k].1 a[k].2.1 a[k].2.2 b[k].1 b[k].2.1 b[k].2.2 W
        have hdef := hideE (show cmpT a[k].1 a[k].2.1 a[k].2.2 b[k].1 b[k].2.1 b[k].2.2 = cmpTm a[k] b[k] from rfl)
        clear hC hC2
        generalize cmpT a[k].1 a[k].2.1 a[k].2.2 b[k].1 b[k].2.1 b[k].2.2 = cc at *
        generalize a[k] = x at *
        generalize b[k] = y at *
        have z1 := World.block_lt_of_cell? wr _ d0
        dsimp only at z1
        by_cases hcc : cc = 0
        · have t3 : (cc != 0) = false := by simp [hcc]
          have hR2 := hideE (show R = cmpF (a.drop (k + 1)) (b.drop (k + 1)) by rw [HC2.out, if_pos (by rw [← hdef.out]; exact hcc)])
          go_wp2_with fail
          go_at_fn 77
          refine (HK _).mono ?_
          rintro e w2 ⟨rfl, hg2⟩
          dsimp only
          go_wp2_with fail
          go_roundw
          case rel => exact ⟨k + 1, by omega, by omega, by go_num, hR2.out, ((hg.trans (grew_alloc _ _)).trans (grew_alloc _ _)).trans hg2⟩
          case measure => simp [intOf]; omega
        · have t3 : (cc != 0) = true := by simp [hcc]
          have hR2 := hideE (show R = cc by rw [HC2.out, if_neg (by rw [← hdef.out]; exact hcc), ← hdef.out])
          go_wp2_with fail
          go_at_fn 77
          refine (HK _).mono ?_
          rintro e w2 ⟨rfl, hg2⟩
          dsimp only
          go_wp2_with fail
          go_ret
          exact ⟨by rw [hR2.out]; rfl, ((hg.trans (grew_alloc _ _)).trans (grew_alloc _ _)).trans hg2⟩
      · have t2 : decide ((k : Int) ≥ (b.length : Int)) = true := by simp; omega
        have hR2 := hideE (show R = 1 by rw [hC.out, List.drop_eq_getElem_cons h1, List.drop_eq_nil_of_le (show b.length ≤ k by omega), cmpF])
        go_wp2_with fail
        go_ret
        exact ⟨by rw [hR2.out]; rfl, hg.trans (grew_alloc _ _)⟩
    · obtain rfl : k = a.length := by omega
      have t1 : decide ((a.length : Int) < (a.length : Int)) = false := by simp
      by_cases h2 : a.length < b.length
      · have t2 : decide ((a.length : Int) < (b.length : Int)) = true := by simp; omega
        have hR2 := hideE (show R = -1 by rw [hC.out, List.drop_eq_nil_of_le (Nat.le_refl _), List.drop_eq_getElem_cons h2, cmpF])
        go_wp2_with fail
        go_ret
        exact ⟨by rw [hR2.out]; rfl, hg⟩
      · have t2 : decide ((a.length : Int) < (b.length : Int)) = false := by simp; omega
        have hR2 := hideE (show R = 0 by rw [hC.out, List.drop_eq_nil_of_le (Nat.le_refl _), List.drop_eq_nil_of_le (by omega), cmpF])
        go_wp2_with fail
        go_ret
        exact ⟨by rw [hR2.out]; rfl, hg⟩
end Go.Proofs.YtaddfndohoppeaaGreat

/- solve.ordering and its closures; slices.Index at texts; slices.Equal at terms. -/
namespace Go.Proofs.YtaddfndohoppeaaGreat
open Go Go.RowKit Go.Proofs Go.Maps Go.Sort
set_option synthInstance.maxSize 1000
attribute [local go_sem ↓] neqTerm eqlTerm

def idxW (o : Option Nat) : Int := match o with
  | some i => (i : Int)
  | none => -1
theorem idx_leW (x : List UInt8) : ∀ (l : List (List UInt8)) (j : Nat) (h : j < l.length), l[j] = x → l.idxOf x ≤ j
  | [], j, h, _ => by simp at h
  | c :: r, 0, _, e => by
    simp at e
    simp [e]
  | c :: r, j + 1, h, e => by
    have := idx_leW x r j (by simpa using h) (by simpa using e)
    rw [List.idxOf_cons]
    cases c == x <;> simp <;> omega
theorem IndexW_any (ad : Option Addr) (cap : Nat) (l : List (List UInt8)) (x : List UInt8) (w : World) (h : SlW w ad l) (hn : l.length ≤ 9223372036854775807) :
    Calls Tryz.prog 78 #[.slice ad l.length cap, .string ⟨x.toArray⟩] w fun e w' => e = .returned (.int .i64 (idxW (whereV l x))) ∧ w' = w := by
  cases hl : l with
  | nil =>
    simpa [whereV, idxW, Lib.idxOfS, Lib.idxFromS] using Tryz.slices_Index_string_empty ad cap ⟨x.toArray⟩ w
  | cons c r =>
    rw [← hl]
    obtain ⟨b, o, rfl, hr⟩ := h (by rw [hl]; simp)
    refine (Tryz.slices_Index_string b o l.length cap (l.map fun v => ⟨v.toArray⟩) ⟨x.toArray⟩ w (by simp) (by omega) ?_).mono ?_
    · intro j hj
      have hj' : j < l.length := by simpa using hj
      rw [hr j hj']
      simp [encV, List.getD_eq_getElem?_getD, List.getElem?_eq_getElem hj']
    · rintro e w' ⟨rfl, rfl⟩
      refine ⟨?_, rfl⟩
      have hd : ∀ j, j < l.length → (l.map fun v => (⟨v.toArray⟩ : ByteArray)).getD j ByteArray.empty = ⟨(l.getD j []).toArray⟩ := fun j hj => by
        simp [List.getD_eq_getElem?_getD, List.getElem?_eq_getElem hj]
      have inj : ∀ a b : List UInt8, (⟨a.toArray⟩ : ByteArray) = ⟨b.toArray⟩ → a = b := fun a b e => by
        have := congrArg (fun s : ByteArray => s.data.toList) e
        simpa using this
      unfold whereV
      by_cases hx : x ∈ l
      · rw [if_pos hx]
        have hk := List.idxOf_lt_length_of_mem hx
        have hat : l.getD (l.idxOf x) [] = x := by rw [List.getD_eq_getElem?_getD, List.getElem?_eq_getElem hk]; simp
        rw [Lib.idxOfS_hit _ l.length (l.idxOf x) _ hk (by simp) (by rw [hd _ hk, hat]) (fun j hj e => ?_)]
        · rfl
        · rw [hd j (by omega)] at e
          have e2 := inj _ _ e
          have hj2 : j < l.length := by omega
          rw [List.getD_eq_getElem?_getD, List.getElem?_eq_getElem hj2] at e2
          have e3 : l[j] = x := e2
          have := idx_leW x l j hj2 e3
          omega
      · rw [if_neg hx, Lib.idxOfS_miss _ l.length _ (fun j hj e => ?_)]
        · rfl
        · rw [hd j hj] at e
          have e2 := inj _ _ e
          rw [List.getD_eq_getElem?_getD, List.getElem?_eq_getElem hj] at e2
          exact hx (by rw [← e2]; simp)
theorem keepG7 {W W' : World} {p0 p1 p2 p3 p4 p5 p6 : Addr} {v0 v1 v2 v3 v4 v5 v6 : Value} (h : W.cell? p0 = some v0 ∧ W.cell? p1 = some v1 ∧ W.cell? p2 = some v2 ∧ W.cell? p3 = some v3 ∧ W.cell? p4 = some v4 ∧ W.cell? p5 = some v5 ∧ W.cell? p6 = some v6) (hb : Grew W W') :
    W'.cell? p0 = some v0 ∧ W'.cell? p1 = some v1 ∧ W'.cell? p2 = some v2 ∧ W'.cell? p3 = some v3 ∧ W'.cell? p4 = some v4 ∧ W'.cell? p5 = some v5 ∧ W'.cell? p6 = some v6 := by
  have q := hb.keep
  obtain ⟨h0, h1, h2, h3, h4, h5, h6⟩ := h
  exact ⟨q _ _ h0, q _ _ h1, q _ _ h2, q _ _ h3, q _ _ h4, q _ _ h5, q _ _ h6⟩
theorem enters75 : ∀ args w, (callFunc 75 args).run Tryz.prog w = .ok (.enter 75 args) w := enters_of Tryz.func75 (by kernel_rfl) rfl
theorem enters79 : ∀ args w, (callFunc 79 args).run Tryz.prog w = .ok (.enter 79 args) w := enters_of Tryz.func79 (by kernel_rfl) rfl
theorem ordOne_any (ad bd : Option Addr) (ca cb : Nat) (a b : List Tm) (w : World) (ha : SlQ w ad a) (hb : SlQ w bd b) (la : a.length ≤ 1000000) :
    Calls Tryz.prog 75 #[.slice ad a.length ca, .slice bd b.length cb] w fun e w' => e = .returned (.int .i64 (cmpF a b)) ∧ Grew w w' := by
  have HC := CompareQ_any ad bd ca cb a b w ha hb la
  clear ha hb
  go_enter Tryz.func75, Tryz.ntmps75
  go_wp2_with fail
  refine HC.mono ?_
  rintro e w1 ⟨rfl, hg⟩
  dsimp only
  go_wp2_with fail
  go_ret
  exact ⟨rfl, hg⟩
set_option maxHeartbeats 4000000 in
set_option maxRecDepth 100000 in
theorem ordTwo_any (ad bd : Option Addr) (ca cb bA bS bQ i : Nat) (down : Bool) (a b : List Tm) (w : World) (ha : SlQ w ad a) (hb : SlQ w bd b) (la : a.length ≤ 1000000) (hi : i < a.length) (hj : i < b.length)
    (hA : w.cell? ⟨bA, 0, none⟩ = some (.int .i64 (i : Int))) (hS : w.cell? ⟨bS, 0, none⟩ = some (.func (.func 75) #[] #[])) (hQ : w.cell? ⟨bQ, 3, none⟩ = some (.bool down)) :
    Calls Tryz.prog 79 #[.slice ad a.length ca, .slice bd b.length cb, .pointer (some ⟨bA, 0, none⟩), .pointer (some ⟨bS, 0, none⟩), .pointer (some ⟨bQ, 0, none⟩)] w fun e w' => e = .returned (.int .i64 (cmpQ (some i) down a b)) ∧ Grew w w' := by
  have HC := fun W (hg : Grew w W) => ordOne_any ad bd ca cb a b W (ha.grew hg) (hb.grew hg) la
  have HCC := hideE HC
  have eg := enters75
  obtain ⟨g, o, rfl, c0, c1, c2⟩ := ha.at i hi
  obtain ⟨g', o', rfl, d0, d1, d2⟩ := hb.at i hj
  have i0 : (0 : Int) ≤ (i : Int) := by omega
  have i1 : (i : Int) < (a.length : Int) := by omega
  have i2 : (i : Int) < (b.length : Int) := by omega
  have ea : a.getD i tmZero = a[i] := by rw [List.getD_eq_getElem?_getD, List.getElem?_eq_getElem hi]; rfl
  have eb : b.getD i tmZero = b[i] := by rw [List.getD_eq_getElem?_getD, List.getElem?_eq_getElem hj]; rfl
  obtain ⟨R, hR⟩ : ∃ R, R = cmpQ (some i) down a b := ⟨_, rfl⟩
  rw [← hR]
  have HR : Hid (R = if cmpTm a[i] b[i] = 0 then cmpF a b else if down = true then - cmpTm a[i] b[i] else cmpTm a[i] b[i]) := by
    show _ = _
    rw [hR]
    unfold cmpQ
    dsimp only
    rw [ea, eb]
  have HK := fun W => Compare_grew a[i].1 a[i].2.1 a[i].2.2 b[i].1 b[i].2.1 b[i].2.2 W
  have hdef := hideE (show cmpT a[i].1 a[i].2.1 a[i].2.2 b[i].1 b[i].2.1 b[i].2.2 = cmpTm a[i] b[i] from rfl)
  have hrg := cmpT_range a[i].1 a[i].2.1 a[i].2.2 b[i].1 b[i].2.1 b[i].2.2
  clear ha hb HC ea eb hR
  generalize cmpT a[i].1 a[i].2.1 a[i].2.2 b[i].1 b[i].2.1 b[i].2.2 = cc at *
  generalize cmpF a b = cf at *
  generalize a[i] = x at *
  generalize b[i] = y at *
  go_enter Tryz.func79, Tryz.ntmps79
  go_upto_region 1 with fail
  go_cut [8] from 9 to 17 (fun v W => v = .int .i64 cc ∧ Hid (Grew w W))
  case first =>
    go_region_held3 (fun W => W.cell? ⟨bA, 0, none⟩ = some (.int .i64 (i : Int)) ∧ W.cell? ⟨g, o + i * 3, none⟩ = some (.int .i64 x.1) ∧ W.cell? ⟨g, o + i * 3 + 1, none⟩ = some (.string ⟨x.2.1.toArray⟩) ∧ W.cell? ⟨g, o + i * 3 + 2, none⟩ = some (.string ⟨x.2.2.toArray⟩) ∧ W.cell? ⟨g', o' + i * 3, none⟩ = some (.int .i64 y.1) ∧ W.cell? ⟨g', o' + i * 3 + 1, none⟩ = some (.string ⟨y.2.1.toArray⟩) ∧ W.cell? ⟨g', o' + i * 3 + 2, none⟩ = some (.string ⟨y.2.2.toArray⟩)) (first | go_keep | exact keepG7 (by assumption) hg2) (first | (go_at_call 77; refine (HK _).mono ?_; rintro e w2 ⟨rfl, hg2⟩))
    all_goals
      go_wp2_with fail
      go_meet
      case rel => exact ⟨rfl, (Grew.refl w).drew.trans hg2⟩
  case rest =>
    obtain ⟨rfl, hg⟩ := hcut
    have kp := fun (p : Addr) (v : Value) (hv : w.cell? p = some v) => hg.out.keep p v hv
    have s0 := kp _ _ hS
    have q0 := kp _ _ hQ
    have HC2 := HCC.out wc hg.out
    clear c0 c1 c2 d0 d1 d2 hA hS hQ HK HCC
    by_cases hcc : cc = 0
    · have t3 : (cc == 0) = true := by simp [hcc]
      have hR2 := hideE (show R = cf by rw [HR.out, if_pos (by rw [← hdef.out]; exact hcc)])
      go_wp2_with fail
      go_at_fn 75
      refine HC2.mono ?_
      rintro e w2 ⟨rfl, hg2⟩
      dsimp only
      go_wp2_with fail
      go_ret
      exact ⟨by rw [hR2.out]; rfl, hg.out.trans hg2⟩
    · have t3 : (cc == 0) = false := by simp [hcc]
      cases down with
      | true =>
        have hR2 := hideE (show R = -cc by rw [HR.out, if_neg (by rw [← hdef.out]; exact hcc), if_pos rfl, ← hdef.out])
        have hw : IntKind.i64.wrap (-cc) = -cc := by simp [IntKind.wrap, IntKind.bits, IntKind.signed]; omega
        go_wp2_with fail
        go_ret
        exact ⟨by rw [hR2.out]; rfl, hg.out⟩
      | false =>
        have hR2 := hideE (show R = cc by rw [HR.out, if_neg (by rw [← hdef.out]; exact hcc), if_neg (by simp), ← hdef.out])
        go_wp2_with fail
        go_ret
        exact ⟨by rw [hR2.out]; rfl, hg.out⟩
end Go.Proofs.YtaddfndohoppeaaGreat

/- The contract of slices.SortFunc at rows of terms, laid at this program by program. -/
namespace Go.Proofs
open Go.Shelf
def Tryz.sortQ_ren : Go.Shelf.Ren := ⟨fun | 6 => 40 | 15 => 74 | 14 => 73 | 28 => 121 | 29 => 122 | 20 => 113 | 21 => 114 | 22 => 115 | 23 => 116 | 24 => 117 | 25 => 118 | 26 => 119 | 27 => 120 | 46 => 159 | 47 => 160 | 48 => 161 | 49 => 162 | 50 => 163 | 57 => 195 | n => n, fun | 22 => 67 | 24 => 70 | 25 => 104 | 3 => 3 | 39 => 152 | 0 => 0 | 53 => 195 | 55 => 197 | 4 => 4 | 46 => 189 | 45 => 188 | 50 => 83 | 5 => 5 | 9 => 9 | 66 => 227 | 70 => 231 | 76 => 253 | 77 => 165 | n => n, fun | n => n⟩
theorem Tryz.sortQ : Go.Proofs.SlLaysF.n6 Tryz.prog Tryz.sortQ_ren := {
  mixed := by kernel_rfl
  f6 := ⟨Tryz.f40.name, by decide, Tryz.func40.trans (congrArg some (by kernel_rfl))⟩
  f14 := ⟨Tryz.f73.name, by decide, Tryz.func73.trans (congrArg some (by kernel_rfl))⟩
  f15 := Tryz.func74.trans (congrArg some (by kernel_rfl))
  f20 := ⟨Tryz.f113.name, by decide, Tryz.func113.trans (congrArg some (by kernel_rfl))⟩
  f21 := ⟨Tryz.f114.name, by decide, Tryz.func114.trans (congrArg some (by kernel_rfl))⟩
  f22 := ⟨Tryz.f115.name, by decide, Tryz.func115.trans (congrArg some (by kernel_rfl))⟩
  f23 := ⟨Tryz.f116.name, by decide, Tryz.func116.trans (congrArg some (by kernel_rfl))⟩
  f24 := ⟨Tryz.f117.name, by decide, Tryz.func117.trans (congrArg some (by kernel_rfl))⟩
  f25 := ⟨Tryz.f118.name, by decide, Tryz.func118.trans (congrArg some (by kernel_rfl))⟩
  f26 := ⟨Tryz.f119.name, by decide, Tryz.func119.trans (congrArg some (by kernel_rfl))⟩
  f27 := ⟨Tryz.f120.name, by decide, Tryz.func120.trans (congrArg some (by kernel_rfl))⟩
  f28 := Tryz.func121.trans (congrArg some (by kernel_rfl))
  f29 := Tryz.func122.trans (congrArg some (by kernel_rfl))
  f46 := ⟨Tryz.f159.name, by decide, Tryz.func159.trans (congrArg some (by kernel_rfl))⟩
  f47 := Tryz.func160.trans (congrArg some (by kernel_rfl))
  f48 := Tryz.func161.trans (congrArg some (by kernel_rfl))
  f49 := ⟨Tryz.f162.name, by decide, Tryz.func162.trans (congrArg some (by kernel_rfl))⟩
  f50 := ⟨Tryz.f163.name, by decide, Tryz.func163.trans (congrArg some (by kernel_rfl))⟩
  f57 := ⟨Tryz.f195.name, by decide, Tryz.func195.trans (congrArg some (by kernel_rfl))⟩
  t0 := Tryz.underlying0
  a0 := Tryz.isAgg0
  z0 := Tryz.sizeOf0
  v0 := Tryz.zeroValue0
  t3 := Tryz.underlying3
  a3 := Tryz.isAgg3
  z3 := Tryz.sizeOf3
  v3 := Tryz.zeroValue3
  t4 := Tryz.underlying4
  a4 := Tryz.isAgg4
  z4 := Tryz.sizeOf4
  v4 := Tryz.zeroValue4
  t5 := Tryz.underlying5
  a5 := Tryz.isAgg5
  z5 := Tryz.sizeOf5
  v5 := Tryz.zeroValue5
  t9 := Tryz.underlying9
  a9 := Tryz.isAgg9
  z9 := Tryz.sizeOf9
  v9 := Tryz.zeroValue9
  t22 := Tryz.underlying67
  a22 := Tryz.isAgg67
  z22 := Tryz.sizeOf67
  v22 := Tryz.zeroValue67
  a24 := Tryz.isAgg70
  z24 := Tryz.sizeOf70
  t25 := Tryz.underlying104
  a25 := Tryz.isAgg104
  z25 := Tryz.sizeOf104
  v25 := Tryz.zeroValue104
  t39 := Tryz.underlying152
  a39 := Tryz.isAgg152
  z39 := Tryz.sizeOf152
  v39 := Tryz.zeroValue152
  t45 := Tryz.underlying188
  a45 := Tryz.isAgg188
  z45 := Tryz.sizeOf188
  v45 := Tryz.zeroValue188
  t46 := Tryz.underlying189
  a46 := Tryz.isAgg189
  z46 := Tryz.sizeOf189
  v46 := Tryz.zeroValue189
  t50 := Tryz.underlying83
  a50 := Tryz.isAgg83
  z50 := Tryz.sizeOf83
  v50 := Tryz.zeroValue83
  t53 := Tryz.underlying195
  a53 := Tryz.isAgg195
  z53 := Tryz.sizeOf195
  v53 := Tryz.zeroValue195
  t55 := Tryz.underlying197
  a55 := Tryz.isAgg197
  z55 := Tryz.sizeOf197
  v55 := Tryz.zeroValue197
  t66 := Tryz.underlying227
  a66 := Tryz.isAgg227
  z66 := Tryz.sizeOf227
  v66 := Tryz.zeroValue227
  t70 := Tryz.underlying231
  a70 := Tryz.isAgg231
  z70 := Tryz.sizeOf231
  v70 := Tryz.zeroValue231
  t76 := Tryz.underlying253
  a76 := Tryz.isAgg253
  z76 := Tryz.sizeOf253
  v76 := Tryz.zeroValue253
  t77 := Tryz.underlying165
  a77 := Tryz.isAgg165
  z77 := Tryz.sizeOf165
  v77 := Tryz.zeroValue165 }
end Go.Proofs

/- solve.ordering, and slices.SortFunc of rows by what it makes. -/
namespace Go.Proofs.YtaddfndohoppeaaGreat
open Go Go.RowKit Go.Proofs Go.Maps Go.Sort
set_option synthInstance.maxSize 1000

/-- a function value that tells which of two rows is ahead -/
def OrdFn (w : World) (i : Option Nat) (down : Bool) (v : Value) : Prop := match i with
  | none => v = .func (.func 75) #[] #[]
  | some i => ∃ bA bS bQ, v = .func (.func 79) #[] #[.pointer (some ⟨bA, 0, none⟩), .pointer (some ⟨bS, 0, none⟩), .pointer (some ⟨bQ, 0, none⟩)] ∧ w.cell? ⟨bA, 0, none⟩ = some (.int .i64 (i : Int)) ∧ w.cell? ⟨bS, 0, none⟩ = some (.func (.func 75) #[] #[]) ∧ w.cell? ⟨bQ, 3, none⟩ = some (.bool down)
set_option maxHeartbeats 4000000 in
set_option maxRecDepth 100000 in
theorem ordering_any (q : Qu) (vd pd : Option Addr) (vc pc : Nat) (w : World) (hq : QuIn w q vd pd) (hf : FitQ q) :
    Calls Tryz.prog 41 #[valQ q vd vc pd pc] w fun e w' => ∃ v, e = .returned v ∧ OrdFn w' (whereV q.vars q.order) q.down v ∧ RowKit.Below w.heap.size w w' ∧ ∀ bA bS bQ, v = .func (.func 79) #[] #[.pointer (some ⟨bA, 0, none⟩), .pointer (some ⟨bS, 0, none⟩), .pointer (some ⟨bQ, 0, none⟩)] → w.heap.size ≤ bA ∧ w.heap.size ≤ bS ∧ w.heap.size ≤ bQ := by
  have HI := fun W (hb : RowKit.Below w.heap.size w W) => IndexW_any vd vc q.vars q.order W (hq.vars.below hb) hf.vl
  have hlt : ∀ i, whereV q.vars q.order = some i → i < q.vars.length := fun i h => by
    unfold whereV at h
    split at h
    · rename_i hm
      injection h with h
      rw [← h]
      exact List.idxOf_lt_length_of_mem hm
    · cases h
  have hvl := hf.vl
  have HHI := hideE HI
  clear hq hf HI
  unfold valQ
  generalize whereV q.vars q.order = wh at *
  cases wh with
  | none =>
    go_enter Tryz.func41, Tryz.ntmps41
    go_wp2_with fail
    refine (HHI.out _ (bstep (balloc _ _) (balloc _ _))).mono ?_
    rintro e w1 ⟨rfl, rfl⟩
    have t : decide ((-1 : Int) < 0) = true := by decide
    dsimp only [idxW]
    go_wp2_with fail
    go_ret
    exact ⟨_, rfl, rfl, bstep (bstep (balloc _ _) (balloc _ _)) (balloc _ _), fun bA bS bQ h => (by simp at h)⟩
  | some i =>
    have hi := hlt i rfl
    have t : decide ((i : Int) < 0) = false := by simp
    go_enter Tryz.func41, Tryz.ntmps41
    go_wp2_with fail
    refine (HHI.out _ (bstep (balloc _ _) (balloc _ _))).mono ?_
    rintro e w1 ⟨rfl, rfl⟩
    dsimp only [idxW]
    go_wp2_with fail
    go_ret
    refine ⟨_, rfl, ⟨_, _, _, rfl, ?_, ?_, ?_⟩, bstep (bstep (balloc _ _) (balloc _ _)) (balloc _ _), fun bA bS bQ h => ?_⟩
    · go_simp
    · go_simp
    · go_simp
    · simp at h
      omega

/-! ### rows in a block, one behind the other -/
structure RowsC (W : World) (g : Nat) (L : List (List Tm)) : Prop where
  at_ : ∀ j (h : j < L.length), ∃ rd rc, W.cell? ⟨g, j, none⟩ = some (.slice rd L[j].length rc) ∧ SlQ W rd L[j] ∧ (∀ a, rd = some a → a.block ≠ g)
  free : ∀ j, j < L.length → W.frozen? ⟨g, j, none⟩ = false
theorem RowsC.below {W W' : World} {g : Nat} {L : List (List Tm)} (h : RowsC W g L) (hb : RowKit.Below W.heap.size W W') : RowsC W' g L := by
  refine ⟨fun j hj => ?_, fun j hj => ?_⟩
  · obtain ⟨rd, rc, c, s, n⟩ := h.at_ j hj
    exact ⟨rd, rc, (hb.cell (World.block_lt_of_cell? W _ c)).trans c, s.below hb, n⟩
  · obtain ⟨rd, rc, c, _⟩ := h.at_ j hj
    exact (hb.frozen (World.block_lt_of_cell? W _ c)).trans (h.free j hj)
theorem RowsC.sl {W : World} {g : Nat} {L : List (List Tm)} (h : RowsC W g L) : SlR W (some ⟨g, 0, none⟩) L := fun _ => ⟨g, 0, rfl, fun j hj => by
  obtain ⟨rd, rc, c, s, _⟩ := h.at_ j hj
  exact ⟨rd, rc, by rw [Nat.zero_add]; exact c, s⟩⟩
/-- the slices that lie there -/
theorem RowsC.list {W : World} {g : Nat} {L : List (List Tm)} (h : RowsC W g L) : ∃ hs : Fin L.length → Option Addr × Nat, ∀ j : Fin L.length, W.cell? ⟨g, j.val, none⟩ = some (.slice (hs j).1 L[j.val].length (hs j).2) ∧ SlQ W (hs j).1 L[j.val] ∧ (∀ a, (hs j).1 = some a → a.block ≠ g) := by
  have hx : ∀ j : Fin L.length, ∃ p : Option Addr × Nat, W.cell? ⟨g, j.val, none⟩ = some (.slice p.1 L[j.val].length p.2) ∧ SlQ W p.1 L[j.val] ∧ (∀ a, p.1 = some a → a.block ≠ g) := fun j => by
    obtain ⟨rd, rc, c, s, n⟩ := h.at_ j.val j.isLt
    exact ⟨(rd, rc), c, s, n⟩
  exact ⟨fun j => Classical.choose (hx j), fun j => Classical.choose_spec (hx j)⟩
theorem SlQ.off {W W' : World} {rd : Option Addr} {l : List Tm} {g : Nat} (h : SlQ W rd l) (hn : ∀ a, rd = some a → a.block ≠ g) (hk : ∀ k, k < W.heap.size → k ≠ g → W'.heap[k]? = W.heap[k]?) : SlQ W' rd l := fun hl => by
  obtain ⟨b, o, e, r⟩ := h hl
  refine ⟨b, o, e, fun j v hv => ?_⟩
  have hc := r j v hv
  have hb := World.block_lt_of_cell? W _ hc
  exact (World.cell?_of_block (w := W) (hk b hb (hn _ e))).trans hc
theorem sortWorld_off {α : Type} [Inhabited α] (enc : α → Value) (w : World) (g n : Nat) (d : Array α) (os : Array Obj) : ∀ k, k < w.heap.size → k ≠ g → (sortWorld enc w g 0 n d os).heap[k]? = w.heap[k]? := fun k hk hne => by
  show (_ ++ os)[k]? = _
  rw [Array.getElem?_append_left (by simp [putRow, mapBlock, Sort.ahead]; omega)]
  simp only [putRow, mapBlock, Sort.ahead, Array.getElem?_modify]
  rw [if_neg (fun e => hne e.symm)]
theorem below_sortQ {α : Type} [Inhabited α] {enc : α → Value} {w : World} {b n B : Nat} {d : Array α} {os : Array Obj} (hB : B ≤ b) (hBw : B ≤ w.heap.size) : RowKit.Below B w (sortWorld enc w b 0 n d os) := by
  refine ⟨rfl, rfl, rfl, ?_, fun k hk => sortWorld_off enc w b n d os k (by omega) (by omega)⟩
  show w.heap.size ≤ (_ ++ os).size
  simp [putRow, mapBlock, Sort.ahead]
/-! ### nothing to sort -/
theorem insertNoneQ (a : Option Addr) (c : Nat) (f : Value) (w : World) : Calls Tryz.prog 113 #[.slice a 0 c, .int .i64 0, .int .i64 0, f] w fun e w' => e = .returned (.tuple #[]) ∧ w' = w := by
  go_enter Tryz.func113, Tryz.ntmps113
  go_wp2
  go_loop [8] (fun i => i = .int .i64 1) (fun _ => 0)
  case atStart => rfl
  case round =>
    subst hrel
    go_wp2
    go_end0
    exact ⟨rfl, rfl⟩
theorem pdqNoneQ (a : Option Addr) (c : Nat) (f : Value) (n : Int) (w : World) : Calls Tryz.prog 73 #[.slice a 0 c, .int .i64 0, .int .i64 0, .int .i64 n, f] w fun e w' => e = .returned (.tuple #[]) ∧ w' = w := by
  go_enter Tryz.func73, Tryz.ntmps73
  go_wp2
  go_loop [1, 2] (fun a b => a = .int .i64 0 ∧ b = .int .i64 0) (fun _ _ => 0)
  case atStart => exact ⟨rfl, rfl⟩
  case round =>
    obtain ⟨rfl, rfl⟩ := hrel
    go_wp2_with (go_at_call 113; refine (insertNoneQ _ _ _ _).mono ?_; rintro e w' ⟨rfl, rfl⟩)
    exact bodyPost_ret (v := .tuple #[]) (by simp [results, Tryz.results73, go_sem]) rfl ⟨rfl, rfl⟩
theorem SortNoneQ (a : Option Addr) (c : Nat) (f : Value) (w : World) : Calls Tryz.prog 40 #[.slice a 0 c, f] w fun e w' => e = .returned (.tuple #[]) ∧ w' = w := by
  go_enter Tryz.func40, Tryz.ntmps40
  go_wp2_with (first
    | (go_at_call 74; refine (Tryz.bits_Len 0 _ (by omega) (by omega)).mono ?_; rintro e w' ⟨rfl, rfl⟩)
    | (go_at_call 73; refine (pdqNoneQ _ _ _ _ _).mono ?_; rintro e w' ⟨rfl, rfl⟩))
  go_end0
  exact ⟨rfl, rfl⟩
/-! ### the sort -/
theorem sortRows_any (g c k : Nat) (i : Option Nat) (down : Bool) (v : Value) (L : List (List Tm)) (w : World) (hv : OrdFn w i down v) (hR : RowsC w g L) (hL : LenR k L) (hk : k ≤ 1000000) (hi : ∀ j, i = some j → j < k) (hn : L.length ≤ 1000000)
    (hfar : ∀ j, i = some j → ∀ bA bS bQ, v = .func (.func 79) #[] #[.pointer (some ⟨bA, 0, none⟩), .pointer (some ⟨bS, 0, none⟩), .pointer (some ⟨bQ, 0, none⟩)] → bA ≠ g ∧ bS ≠ g ∧ bQ ≠ g) :
    Calls Tryz.prog 40 #[.slice (some ⟨g, 0, none⟩) L.length c, v] w fun e w' => e = .returned (.tuple #[]) ∧ RowKit.Below g w w' ∧ RowsC w' g (sortR (aheadB i down) false L) := by
  by_cases h0 : L.length = 0
  · obtain rfl : L = [] := List.eq_nil_of_length_eq_zero h0
    refine (SortNoneQ _ _ _ _).mono ?_
    rintro e w' ⟨rfl, rfl⟩
    exact ⟨rfl, RowKit.Below.refl _ _, ⟨fun j hj => by simp [sortR] at hj, fun j hj => by simp [sortR] at hj⟩⟩
  · have hpos : 0 < L.length := by omega
    have inst : Inhabited (Fin L.length) := ⟨⟨0, hpos⟩⟩
    obtain ⟨hs, hh⟩ := hR.list
    let enc : Fin L.length → Value := fun j => .slice (hs j).1 L[j.val].length (hs j).2
    have hone : OneCell enc := fun _ => rfl
    have hg : g < w.heap.size := World.block_lt_of_cell? w _ (hh ⟨0, hpos⟩).1
    have hH : Holds enc w g 0 (allQ L.length) := fun j hj => by
      have hj' : j < L.length := by rw [allQ_size] at hj; exact hj
      rw [Nat.zero_add, getElem!_pos (allQ L.length) j hj]
      refine ⟨?_, hR.free j hj'⟩
      rw [(hh ⟨j, hj'⟩).1]
      simp [enc, allQ]
    have hord : OrdR (aheadB i down) k := ⟨fun a => ahead_irr _ _ a, fun h1 h2 => ahead_trans h1 h2, fun h1 h2 h3 h4 => ahead_total (h1.trans h2.symm) h3 h4⟩
    have hsw := swoQ i down hord L hL
    have hsz : (allQ L.length).size = L.length := allQ_size _
    have hlen : ∀ x : Fin L.length, L[x.val].length = k := fun x => hL _ (List.getElem_mem x.isLt)
    have key : ∀ gf cb, (∀ args w, (callFunc gf args).run Tryz.prog w = .ok (.enter gf args) w) → CmpLays1 Tryz.prog gf cb enc (fun (x y : Fin L.length) => cmpQ i down L[x] L[y]) g 0 (allQ L.length).size w →
        Calls Tryz.prog 40 #[.slice (some ⟨g, 0, none⟩) L.length c, .func (.func gf) #[] cb] w fun e w' => e = .returned (.tuple #[]) ∧ RowKit.Below g w w' ∧ RowsC w' g (sortR (aheadB i down) false L) := fun gf cb eg hcmp => by
      have hS := Any.slices_SortFunc Tryz.sortQ enc hone (fun (x y : Fin L.length) => cmpQ i down L[x] L[y]) hsw gf cb g 0 c (allQ L.length) w eg hcmp hH hg (by rw [hsz]; omega)
      rw [hsz] at hS
      refine Calls.mono hS ?_
      rintro e w' ⟨rfl, d', n, os, hp, hso, rfl⟩
      obtain ⟨hd1, hd2⟩ := sorted_rows i down hord L hL (by rw [hsz]; exact hp) (by rw [hsz]; exact hso)
      have hHd := holds_sortWorld enc w g 0 n (allQ L.length) d' os hg hH (by rw [hd1, hsz])
      refine ⟨rfl, below_sortQ (Nat.le_refl _) (by omega), ?_⟩
      rw [← hd2]
      refine ⟨fun j hj => ?_, fun j hj => ?_⟩
      · have hj' : j < d'.size := by simpa using hj
        have := (hHd j hj').1
        rw [Nat.zero_add, getElem!_pos d' j hj'] at this
        have q := hh d'[j]
        refine ⟨(hs d'[j]).1, (hs d'[j]).2, by simpa [enc] using this, ?_, q.2.2⟩
        have := q.2.1.off q.2.2 (sortWorld_off enc w g n d' os)
        simpa using this
      · have hj' : j < d'.size := by simpa using hj
        have := (hHd j hj').2
        rwa [Nat.zero_add] at this
    have off : ∀ m os dk (x : Fin L.length), SlQ (sortWorld enc w g 0 m dk os) (hs x).1 L[x.val] := fun m os dk x => (hh x).2.1.off (hh x).2.2 (sortWorld_off enc w g m dk os)
    cases i with
    | none =>
      obtain rfl : v = .func (.func 75) #[] #[] := hv
      refine key _ _ enters75 (fun m os dk hdk x y => ?_)
      refine (ordOne_any (hs x).1 (hs y).1 (hs x).2 (hs y).2 L[x.val] L[y.val] _ (off m os dk x) (off m os dk y) (by rw [hlen]; omega)).mono ?_
      rintro e w' ⟨rfl, hgr⟩
      exact ⟨rfl, hgr⟩
    | some j =>
      obtain ⟨bA, bS, bQ, rfl, cA, cS, cQ⟩ := hv
      obtain ⟨nA, nS, nQ⟩ := hfar j rfl bA bS bQ rfl
      have hj := hi j rfl
      refine key _ _ enters79 (fun m os dk hdk x y => ?_)
      have kp : ∀ (b o : Nat) (u : Value), b ≠ g → w.cell? ⟨b, o, none⟩ = some u → (sortWorld enc w g 0 m dk os).cell? ⟨b, o, none⟩ = some u := fun b o u hb hu => (World.cell?_of_block (w := w) (sortWorld_off enc w g m dk os b (World.block_lt_of_cell? w _ hu) hb)).trans hu
      refine (ordTwo_any (hs x).1 (hs y).1 (hs x).2 (hs y).2 bA bS bQ j down L[x.val] L[y.val] _ (off m os dk x) (off m os dk y) (by rw [hlen]; omega) (by rw [hlen]; exact hj) (by rw [hlen]; exact hj) (kp _ _ _ nA cA) (kp _ _ _ nS cS) (kp _ _ _ nQ cQ)).mono ?_
      rintro e w' ⟨rfl, hgr⟩
      exact ⟨rfl, hgr⟩
end Go.Proofs.YtaddfndohoppeaaGreat
