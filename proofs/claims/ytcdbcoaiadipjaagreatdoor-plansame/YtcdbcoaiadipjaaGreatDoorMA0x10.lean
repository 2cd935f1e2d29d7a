import Derived.Test.YtcdbcoaiadipjaaGreatDoorMA0x9
import Derived.Laws.IdiomStrings
import Derived.Test.YtcdbcoaiadipjaaGreatDoorMA0x7
import Derived.Test.YtcdbcoaiadipjaaGreatDoorMA0x5
import Derived.Test.YtcdbcoaiadipjaaGreatDoorMA0x6
import Derived.Lib.AppendZeros
import Derived.Test.YtcdbcoaiadipjaaGreatDoorMA0x4

/- slices.ContainsFunc at numbers and at bytes, with whatever test; slices.Contains at numbers. -/
namespace Go.Proofs.YtcdbcoaiadipjaaGreatDoor
open Go Go.RowKit Go.Proofs
set_option synthInstance.maxSize 1000

/-- what is asked of a test: at every number of D it tells p, and leaves what lay there -/
def PredI (g : Nat) (lb : Array Value) (D : Int → Prop) (p : Int → Bool) (w : World) : Prop :=
  ∀ (W : World) (x : Int), RowKit.Below w.heap.size w W → D x → Calls Tryz.prog g (#[.int .i64 x] ++ lb) W fun e w' => e = .returned (.bool (p x)) ∧ RowKit.Below W.heap.size W w'
theorem PredI.below {g : Nat} {lb : Array Value} {D : Int → Prop} {p : Int → Bool} {w w1 : World} (h : PredI g lb D p w) (hb : RowKit.Below w.heap.size w w1) : PredI g lb D p w1 :=
  fun W x hW hx => h W x (hb.trans (hW.mono hb.size)) hx
theorem any_hit {ids : List Int} {p : Int → Bool} {k : Nat} (hk : k < ids.length) (h : p ids[k] = true) : ids.any p = true := by
  rw [List.any_eq_true]
  exact ⟨_, List.getElem_mem hk, h⟩
theorem any_miss {ids : List Int} {p : Int → Bool} (h : ∀ (j : Nat) (hj : j < ids.length), p ids[j] = false) : ids.any p = false := by
  rw [List.any_eq_false]
  intro x hx
  obtain ⟨j, hj, rfl⟩ := List.getElem_of_mem hx
  rw [h j hj]
  simp

set_option maxHeartbeats 4000000 in
set_option maxRecDepth 100000 in
theorem DIndex_any (g : Nat) (lb : Array Value) (D : Int → Prop) (p : Int → Bool) (w : World) (ad : Option Addr) (ca : Nat) (ids : List Int) (eg : ∀ args w, (callFunc g args).run Tryz.prog w = .ok (.enter g args) w) (hp : PredI g lb D p w) (hD : ∀ x ∈ ids, D x) (hs : SlI w ad ids) (hl : ids.length ≤ 9223372036854775807) :
    Calls Tryz.prog 120 #[.slice ad ids.length ca, .func (.func g) #[] lb] w fun e w' => (∃ r : Int, e = .returned (.int .i64 r) ∧ decide (0 ≤ r) = ids.any p) ∧ RowKit.Below w.heap.size w w' := by
  have H : Hid (PredI g lb D p w) := hp
  have HD : Hid (∀ x ∈ ids, D x) := hD
  have HS : Hid (SlI w ad ids) := hs
  clear hp hD hs
  go_enter Tryz.func120, Tryz.ntmps120
  go_wp2_with fail
  go_loopw [8] (fun i wr => ∃ (k : Nat), k ≤ ids.length ∧ i = .int .i64 k ∧ RowKit.Below w.heap.size w wr ∧ Hid (∀ (j : Nat) (hj : j < ids.length), j < k → p ids[j] = false)) (fun i wr => ids.length - (intOf i).toNat)
  case atStart => exact ⟨0, Nat.zero_le _, rfl, RowKit.Below.refl _ w, fun j hj h0 => by omega⟩
  case round =>
    obtain ⟨k, hk, rfl, hbr, hall⟩ := hrel
    by_cases hlt : k < ids.length
    · obtain ⟨b, o, rfl, hc⟩ := (HS.out.below hbr).at hlt
      have hcall := H.out wr ids[k] hbr (HD.out _ (List.getElem_mem hlt))
      have i0 : (0 : Int) ≤ (k : Int) := by omega
      have i1 : (k : Int) < (ids.length : Int) := by omega
      have HV : Hid (∀ q, p ids[k] = q → (q = false → (∀ (j : Nat) (hj : j < ids.length), j < k + 1 → p ids[j] = false)) ∧ (q = true → ids.any p = true)) := by
        intro q hq
        refine ⟨fun e j hj h1 => ?_, fun e => any_hit hlt (hq.trans e)⟩
        by_cases ej : j = k
        · subst ej; exact hq.trans e
        · exact hall.out j hj (by omega)
      cases hq : p ids[k] with
      | false =>
        rw [hq] at hcall
        have hnext : Hid (∀ (j : Nat) (hj : j < ids.length), j < k + 1 → p ids[j] = false) := (HV.out _ hq).1 rfl
        clear HV hq hall
        generalize ids[k] = z at *
        go_wp2_with (go_at_fn g; refine hcall.mono ?_; rintro e w' ⟨rfl, hb'⟩; dsimp only)
        go_roundw
        case rel => exact ⟨k + 1, by omega, by go_num, bstep hbr hb', hnext⟩
        case measure => simp [intOf]; omega
      | true =>
        rw [hq] at hcall
        have hno2 : Hid (ids.any p = true) := (HV.out _ hq).2 rfl
        clear HV hq hall
        generalize ids[k] = z at *
        go_wp2_with (go_at_fn g; refine hcall.mono ?_; rintro e w' ⟨rfl, hb'⟩; dsimp only)
        go_ret
        exact ⟨⟨(k : Int), rfl, by rw [hno2.out]; simp⟩, bstep hbr hb'⟩
    · have hkk : k = ids.length := by omega
      have hyes : Hid (ids.any p = false) := any_miss fun j hj => hall.out j hj (by omega)
      subst hkk
      clear hall
      go_wp2_with fail
      go_ret
      exact ⟨⟨-1, rfl, by rw [hyes.out]; rfl⟩, hbr⟩

set_option maxHeartbeats 1000000 in
theorem DContains_any (g : Nat) (lb : Array Value) (D : Int → Prop) (p : Int → Bool) (w : World) (ad : Option Addr) (ca : Nat) (ids : List Int) (eg : ∀ args w, (callFunc g args).run Tryz.prog w = .ok (.enter g args) w) (hp : PredI g lb D p w) (hD : ∀ x ∈ ids, D x) (hs : SlI w ad ids) (hl : ids.length ≤ 9223372036854775807) :
    Calls Tryz.prog 90 #[.slice ad ids.length ca, .func (.func g) #[] lb] w fun e w' => e = .returned (.bool (ids.any p)) ∧ RowKit.Below w.heap.size w w' := by
  have hc := DIndex_any g lb D p w ad ca ids eg hp hD hs hl
  clear hp hD hs
  generalize ids.any p = q at *
  go_enter Tryz.func90, Tryz.ntmps90
  go_wp2_with (go_at_call 120; refine hc.mono ?_; rintro e w' ⟨⟨r, rfl, hr⟩, hb⟩; dsimp only; have hr2 : Hid _ := hr; clear hr)
  go_ret
  refine ⟨?_, hb⟩
  rw [← hr2.out]
  simp

/-- bytes in a block -/
def SlBy (w : World) (b : Nat) (l : List UInt8) : Prop := ∀ (j : Nat) (hj : j < l.length), w.cell? ⟨b, j, none⟩ = some (.int .u8 (l[j].toNat : Int))
set_option maxHeartbeats 4000000 in
set_option maxRecDepth 100000 in
theorem DIdx_any (w : World) (ad : Option Addr) (ca : Nat) (ids : List Int) (n : Int) (hs : SlI w ad ids) (hl : ids.length ≤ 9223372036854775807) :
    Calls Tryz.prog 121 #[.slice ad ids.length ca, .int .i64 n] w fun e w' => (∃ r : Int, e = .returned (.int .i64 r) ∧ decide (0 ≤ r) = decide (n ∈ ids)) ∧ w' = w := by
  have HS : Hid (SlI w ad ids) := hs
  clear hs
  obtain ⟨q, hq⟩ : ∃ q, decide (n ∈ ids) = q := ⟨_, rfl⟩
  rw [hq]
  have HQ := hideO hq
  clear hq
  go_enter Tryz.func121, Tryz.ntmps121
  go_wp2_with fail
  go_loopw [8] (fun i wr => ∃ (k : Nat), k ≤ ids.length ∧ i = .int .i64 k ∧ wr = w ∧ Hid (∀ (j : Nat) (hj : j < ids.length), j < k → ids[j] ≠ n)) (fun i wr => ids.length - (intOf i).toNat)
  case atStart => exact ⟨0, Nat.zero_le _, rfl, rfl, fun j hj h0 => by omega⟩
  case round =>
    obtain ⟨k, hk, rfl, hw, hall⟩ := hrel
    obtain rfl : w = wr := hw.symm
    by_cases hlt : k < ids.length
    · obtain ⟨b, o, rfl, hc⟩ := HS.out.at hlt
      have i0 : (0 : Int) ≤ (k : Int) := by omega
      have i1 : (k : Int) < (ids.length : Int) := by omega
      by_cases he : n = ids[k]
      · have hd : (n == ids[k]) = true := by simpa using he
        have hf : Hid (q = true) := by
          show _ = _
          rw [← HQ.out, decide_eq_true_eq, he]
          exact List.getElem_mem hlt
        clear he hall
        generalize ids[k] = z at *
        go_wp2_with fail
        go_ret
        exact ⟨⟨(k : Int), rfl, by rw [hf.out]; simp⟩, rfl⟩
      · have hd : (n == ids[k]) = false := by simpa using he
        have hnext : Hid (∀ (j : Nat) (hj : j < ids.length), j < k + 1 → ids[j] ≠ n) := fun j hj h1 => by
          by_cases ej : j = k
          · subst ej; exact fun e => he e.symm
          · exact hall.out j hj (by omega)
        clear he hall
        generalize ids[k] = z at *
        go_wp2_with fail
        go_roundw
        case rel => exact ⟨k + 1, by omega, by go_num, by trivial, hnext⟩
        case measure => simp [intOf]; omega
    · have hkk : k = ids.length := by omega
      have hyes : Hid (q = false) := by
        show _ = _
        rw [← HQ.out, decide_eq_false_iff_not]
        intro hm
        obtain ⟨j, hj, e⟩ := List.getElem_of_mem hm
        exact hall.out j hj (by omega) e
      subst hkk
      clear hall
      go_wp2_with fail
      go_ret
      exact ⟨⟨-1, rfl, by rw [hyes.out]; rfl⟩, rfl⟩
set_option maxHeartbeats 1000000 in
theorem DIn_any (w : World) (ad : Option Addr) (ca : Nat) (ids : List Int) (n : Int) (hs : SlI w ad ids) (hl : ids.length ≤ 9223372036854775807) :
    Calls Tryz.prog 89 #[.slice ad ids.length ca, .int .i64 n] w fun e w' => e = .returned (.bool (decide (n ∈ ids))) ∧ w' = w := by
  have hc := DIdx_any w ad ca ids n hs hl
  clear hs
  generalize decide (n ∈ ids) = q at *
  go_enter Tryz.func89, Tryz.ntmps89
  go_wp2_with (go_at_call 121; refine hc.mono ?_; rintro e w' ⟨⟨r, rfl, hr⟩, hb⟩; subst hb; dsimp only; have hr2 : Hid _ := hr; clear hr)
  go_ret
  refine ⟨?_, rfl⟩
  rw [← hr2.out]
  simp
end Go.Proofs.YtcdbcoaiadipjaaGreatDoor

/- plan.Order, plan.Swap, plan.Cost, solve.Sizes. -/
namespace Go.Proofs.YtcdbcoaiadipjaaGreatDoor
open Go Go.RowKit Go.Proofs Go.Maps
set_option synthInstance.maxSize 1000
attribute [local go_sem] eql_errV neq_errV guard_errV

def OrderAns (S : List Tr) (q : Qu) (w : World) (e : Ending) (w' : World) : Prop := RowKit.Below w.heap.size w w' ∧ (orderN S q ≠ 0 → e = .returned (.tuple #[.slice none 0 0, errV (orderN S q)])) ∧ (orderN S q = 0 → ∃ ad c, e = .returned (.tuple #[.slice ad q.parts.length c, .nilIface]) ∧ SlI w' ad (orderL S q))
theorem OrderAns.bad {S : List Tr} {q : Qu} {w w' : World} {n : Int} (hb : RowKit.Below w.heap.size w w') (hn : orderN S q = n) (h0 : n ≠ 0) : OrderAns S q w (.returned (.tuple #[.slice none 0 0, errV n])) w' := ⟨hb, fun _ => by rw [hn], fun h => absurd (hn.symm.trans h) h0⟩
theorem orderN_s {S : List Tr} {q : Qu} (h : sortedN S ≠ 0) : orderN S q = sortedN S := by unfold orderN; rw [if_pos h]
theorem orderN_a {S : List Tr} {q : Qu} (h : sortedN S = 0) : orderN S q = askN q := by unfold orderN; rw [if_neg (fun k => k h)]
theorem slPt_low {w : World} {ad : Option Addr} {l : List Pt} (h : SlPt w ad l) (hl : l ≠ []) : ∀ b o, ad = some ⟨b, o, none⟩ → b < w.heap.size := fun b o e => by
  obtain ⟨b', o', e', r⟩ := h hl
  rw [e] at e'
  have e2 : b = b' := by simpa using (congrArg (fun a : Option Addr => a.map Addr.block) e')
  rw [e2]
  cases l with
  | nil => exact absurd rfl hl
  | cons x r' => exact World.block_lt_of_cell? w ⟨b', o' + 0, none⟩ (r 0 _ rfl)
set_option maxHeartbeats 8000000 in
set_option maxRecDepth 100000 in
theorem Order_any (ad : Option Addr) (ca : Nat) (S : List Tr) (q : Qu) (vd pd : Option Addr) (vc pc : Nat) (w : World) (h : SlT w ad S) (hfit : ∀ x ∈ S, fitTr x) (hn : S.length ≤ 9223372036854775807) (hq : QuIn w q vd pd) (hf : FitQ q) (hvc : q.vars.length ≤ vc) :
    Calls Tryz.prog 18 #[.slice ad S.length ca, valQ q vd vc pd pc] w (OrderAns S q w) := by
  have HS := fun W hW => Sorted_any ad ca S W hW hfit hn
  have HC := fun W hW => CheckO_any q vd pd vc pc W hW hf hvc
  have Hh := hideE h
  have Hq := hideE hq
  obtain ⟨Q, hQ⟩ : ∃ Q, Q = OrderAns S q w := ⟨_, rfl⟩
  have HQ : Hid (∀ e w', OrderAns S q w e w' → Q e w') := fun e w' h => by rw [hQ]; exact h
  rw [← hQ]
  clear hQ h hq
  obtain ⟨W0, hW0⟩ : ∃ W0, W0 = w.alloc (.cells #[.slice vd q.vars.length vc, .slice pd q.parts.length pc, .string ⟨q.order.toArray⟩, .bool q.down, .bool q.dist, .int .i64 q.lim] 26) := ⟨_, rfl⟩
  have hB0 : RowKit.Below w.heap.size w W0 := by rw [hW0]; exact balloc _ _
  have hX0 := hideE (show BoxQ W0 w.heap.size q vd pd vc pc by rw [hW0]; exact boxQ_new _ _ _ _ _ _)
  unfold valQ at HC ⊢
  by_cases hs : sortedN S = 0
  · by_cases hk : askN q = 0
    · have hgq := ask_good hk
      have h200 : S.length ≤ 200 := (sortedN_set.1 hs).1
      have HE := hideE (fun W (hW : SlT W ad S) (hP : SlPt W pd q.parts) => countEach_any ad ca S q.parts pd pc W hW hfit h200 hP hf.pt hgq.six hs hgq.parts)
      have HT := hideE (fun W (cd : Option Addr) (hP : SlPt W pd q.parts) (hc : SlI W cd ((countsL S q.parts).map fun n : Nat => (n : Int))) (hcd : ∀ b o, cd = some ⟨b, o, none⟩ → b < W.heap.size) => take_any q.parts (countsL S q.parts) pd pc cd q.parts.length W hP hc hf.pt hgq.six (by simp [countsL]) (slPt_low hP hgq.some) hcd)
      have hcl : Hid ((countsL S q.parts).length = q.parts.length) := by show _ = _; simp [countsL]
      have hol : Hid (takeL q.parts (countsL S q.parts) = orderL S q) := rfl
      have hzero : Hid (orderN S q = 0) := by show _ = _; rw [orderN_a hs, hk]
      have hlen := hideE (order_len S q)
      have hpos : Hid (0 < q.parts.length) := List.length_pos_iff.2 hgq.some
      rw [hs] at HS
      rw [hk] at HC
      clear hs hk hgq hf hfit hn
      go_enter Tryz.func18, Tryz.ntmps18
      go_upto_region 1 with fail
      rw [← hW0]
      clear hW0
      go_wp2_with fail
      refine (HS _ (Hh.out.below hB0)).mono ?_
      rintro e w1 ⟨rfl, hb1⟩
      obtain ⟨c0, c1, c2, c3, c4, c5⟩ := hX0.out.below hb1
      have hB1 := bstep hB0 hb1
      dsimp only
      go_wp2_with fail
      refine (HC _ (Hq.out.below hB1)).mono ?_
      rintro e w2 ⟨rfl, hb2⟩
      have hX2 := hideE (hX0.out.below hb1 |>.below hb2)
      have c1b := hX2.out.c1
      have hB2 := bstep hB1 hb2
      have Hq2 := hideE (Hq.out.below hB2)
      have HE2 := HE.out w2 (Hh.out.below hB2) Hq2.out.parts
      obtain ⟨np, hnp⟩ : ∃ n, n = q.parts.length := ⟨_, rfl⟩
      have Hnp := hideE hnp
      rw [← hnp] at HE2 c1b
      clear c0 c1 c2 c3 c4 c5 HC HS hb1 hb2 hB1 hX0 hB0 Hq Hh HE
      dsimp only
      rw [← hnp]
      clear hnp
      go_wp2_with fail
      refine HE2.mono ?_
      rintro e w3 ⟨rfl, hr3, hb3⟩
      have c1c := cell_k c1b hb3
      have hB3 := bstep hB2 hb3
      have hr3' := hideE hr3.sl
      have hz3 : w2.heap.size < w3.heap.size := World.block_lt_of_cell? w3 ⟨w2.heap.size, 0, none⟩ (hr3.at_ 0 (by simp [toI, countsL]; exact hpos.out))
      have HT3 := HT.out w3 (some ⟨w2.heap.size, 0, none⟩) (Hq2.out.parts.below hb3) hr3.sl (fun b o e => by
        have e2 : w2.heap.size = b := by simpa using (congrArg (fun a : Option Addr => a.map Addr.block) e)
        omega)
      rw [hcl.out, ← Hnp.out] at HT3
      have HB3 := hideE hB3
      clear hr3 hb3 HT c1b
      dsimp only
      go_wp2_with fail
      refine HT3.mono ?_
      rintro e w4 ⟨hb4, az, cz, rfl, hsl⟩
      rw [hol.out] at hsl ⊢
      rw [hlen.out]
      have Hsl := hideE hsl
      have Hb4 := hideE (bstep HB3.out hb4)
      clear hsl hb4
      dsimp only
      go_wp2_with fail
      exact HQ.out _ _ ⟨Hb4.out, fun h => absurd hzero.out h, fun _ => ⟨az, cz, rfl, Hsl.out⟩⟩
    · have h0 := hideE (show orderN S q = askN q from orderN_a hs)
      have h1 := hideE hk
      generalize askN q = n1 at *
      have e1 : (n1 == 0) = false := by simpa using hk
      rw [hs] at HS
      clear hs hk
      go_enter Tryz.func18, Tryz.ntmps18
      go_upto_region 1 with fail
      rw [← hW0]
      clear hW0
      go_wp2_with fail
      refine (HS _ (Hh.out.below hB0)).mono ?_
      rintro e w1 ⟨rfl, hb1⟩
      obtain ⟨c0, c1, c2, c3, c4, c5⟩ := hX0.out.below hb1
      have hB1 := bstep hB0 hb1
      dsimp only
      go_wp2_with fail
      refine (HC _ (Hq.out.below hB1)).mono ?_
      rintro e w2 ⟨rfl, hb2⟩
      go_wp2_with fail
      exact HQ.out _ _ (OrderAns.bad (bstep hB1 hb2) h0.out h1.out)
  · have h0 := hideE (orderN_s (q := q) hs)
    have h1 := hideE hs
    generalize sortedN S = n1 at *
    have e1 : (n1 == 0) = false := by simpa using hs
    clear hs HC
    go_enter Tryz.func18, Tryz.ntmps18
    go_upto_region 1 with fail
    rw [← hW0]
    clear hW0
    go_wp2_with fail
    refine (HS _ (Hh.out.below hB0)).mono ?_
    rintro e w1 ⟨rfl, hb1⟩
    go_wp2_with fail
    exact HQ.out _ _ (OrderAns.bad (bstep hB0 hb1) h0.out h1.out)
end Go.Proofs.YtcdbcoaiadipjaaGreatDoor

/- An append of a list of texts to a row of one's own. -/
namespace Go.Proofs.YtcdbcoaiadipjaaGreatDoor
open Go Go.RowKit Go.Proofs Go.Maps
set_option synthInstance.maxSize 1000

theorem append_emptyW {W : World} {base : Nat} {v : Value} {t : List (List UInt8)} (h : W.ownsRow base 9 1 v t.length (t.map encV)) (ad : Option Addr) (c : Nat) (ty : TypeId) : (Builtin.append_ #[23, 23] ty #[v, .slice ad 0 c]).run Tryz.prog W = .ok v W := by
  obtain ⟨i, hi, hz⟩ := Option.map_eq_some_iff.1 infoStrV
  have hf : (Builtin.firstCells i.size 0 (.slice ad 0 c)).run Tryz.prog W = .ok #[] W := by
    cases ad with
    | none => exact run_firstCells_none W _ _ _ _
    | some a => exact run_firstCells_some (P := Tryz.prog) W i.size 0 a 0 c [] (by simp) (by simp)
  rcases h.2 with ⟨rfl, h0⟩ | ⟨g, cc, cur, rfl, _, _, hle, _⟩
  · simp [Builtin.append_, run_underlying Tryz.underlying23, sizeOf, typeInfo, hi, Builtin.lenOf, hf]
  · simp [Builtin.append_, run_underlying Tryz.underlying23, sizeOf, typeInfo, hi, Builtin.lenOf, hf, hle, storeCells]
/-- an append of a list of texts to a row of one's own: just that row turns -/
theorem wpList_append_textsW {ops : Array Oper} {rest : List Oper} {o : Oper} {a : Act} {Q : Exit → Act → World → Prop} (w : World) (hgd : o.guard = none) (s x : Operand)
    (ho : o.op = .call { callee := .builtin .append, args := #[s, x], argTypes := #[23, 23] })
    (base : Nat) (v : Value) (t l : List (List UInt8)) (ad : Option Addr) (c : Nat) (hs : a.eval s = v) (hx : a.eval x = .slice ad l.length c) (hown : w.ownsRow base 9 1 v t.length (t.map encV)) (hl : SlW w ad l)
    (h63 : t.length + l.length ≤ 1000000) (hbase : base ≤ w.heap.size)
    (h : ∀ v' w', w'.ownsRow base 9 1 v' (t ++ l).length ((t ++ l).map encV) → w.grownBy w' v.ownBlock → wpList Tryz.prog ops Q rest (a.put o.dst v') w') : wpList Tryz.prog ops Q (o :: rest) a w := by
  obtain ⟨i0, hi, hz⟩ := Option.map_eq_some_iff.1 infoStrV
  simp only [Prod.mk.injEq] at hz
  obtain ⟨hz0, hz1, hz2⟩ := hz
  cases l with
  | nil =>
    refine Lib.wpList_append_run w hgd s x _ _ ho v _ hs hx v w (append_emptyW hown ad c _) (h v w ?_ (World.grownBy.refl _ _))
    simpa using hown
  | cons y r =>
    obtain ⟨b, off, rfl, hr⟩ := hl (by simp)
    refine wpList_append_own w hgd s x _ ho base 9 i0 (.string ByteArray.empty) 1 16 Tryz.underlying23 hi hz0 hz1 hz2 rfl (by decide) v t.length (t.map encV) hs hown ⟨b, off, none⟩ (y :: r).length c ((y :: r).map encV) hx (by simp) ?_ (fun u hu => by obtain ⟨z, _, rfl⟩ := List.mem_map.1 hu; rfl) (by unfold maxLen; omega) (by omega) hbase ?_
    · intro j u hj
      have hj' : j < (y :: r).length := by have := (List.getElem?_eq_some_iff.1 hj).1; simpa using this
      rw [Addr.add_lit, hr j hj']
      rw [List.getElem?_map, List.getElem?_eq_getElem hj'] at hj
      exact hj
    · intro v' w' h2 h3 _
      refine h v' w' ?_ h3
      rw [List.length_append]
      simpa using h2
end Go.Proofs.YtcdbcoaiadipjaaGreatDoor

/- plan.isAll, slices.Clone at texts, plan.Swap. -/
namespace Go.Proofs.YtcdbcoaiadipjaaGreatDoor
open Go Go.RowKit Go.Proofs Go.Maps
set_option synthInstance.maxSize 1000
attribute [local go_sem] eql_errV neq_errV guard_errV

/-! ### whether an order has all places -/
theorem enters88 : ∀ args w, (callFunc 88 args).run Tryz.prog w = .ok (.enter 88 args) w := enters_of Tryz.func88 (by kernel_rfl) rfl
theorem missing_any (ob : Nat) (od : Option Addr) (oc : Nat) (o : List Int) (x : Int) (w : World) (h : w.cell? ⟨ob, 0, none⟩ = some (.slice od o.length oc)) (hs : SlI w od o) (hl : o.length ≤ 9223372036854775807) : Calls Tryz.prog 88 #[.int .i64 x, .pointer (some ⟨ob, 0, none⟩)] w fun e w' => e = .returned (.bool (!decide (x ∈ o))) ∧ RowKit.Below w.heap.size w w' := by
  have HI := DIn_any w od oc o x hs hl
  clear hs
  generalize decide (x ∈ o) = d at *
  go_enter Tryz.func88, Tryz.ntmps88
  go_wp2_with (go_at_call 89; refine HI.mono ?_; rintro e w1 ⟨rfl, rfl⟩; dsimp only)
  go_ret
  exact ⟨rfl, RowKit.Below.refl _ _⟩
theorem missing_pred {ob : Nat} {od : Option Addr} {oc : Nat} {o : List Int} {w : World} (h : w.cell? ⟨ob, 0, none⟩ = some (.slice od o.length oc)) (hs : SlI w od o) (hl : o.length ≤ 9223372036854775807) : PredI 88 #[.pointer (some ⟨ob, 0, none⟩)] (fun _ => True) (fun x => !decide (x ∈ o)) w :=
  fun W x hW _ => missing_any ob od oc o x W (cell_k h hW) (hs.below hW) hl
set_option maxHeartbeats 4000000 in
set_option maxRecDepth 100000 in
theorem isAll_any (od : Option Addr) (oc : Nat) (o : List Int) (n : Nat) (w : World) (hs : SlI w od o) (hl : o.length ≤ 9223372036854775807) (hn : n ≤ 1000) : Calls Tryz.prog 50 #[.slice od o.length oc, .int .i64 (n : Int)] w fun e w' => e = .returned (.bool (isAllB o n)) ∧ RowKit.Below w.heap.size w w' := by
  have HP := fun W => places_any n W hn
  have hpl : Hid ((placesI n).length = n) := by show _ = _; simp [placesI]
  have HM := hideE (fun W (h : W.cell? ⟨w.heap.size, 0, none⟩ = some (.slice od o.length oc)) (hb : RowKit.Below w.heap.size w W) => missing_pred h (hs.below hb) hl)
  have hA : Hid (isAllB o n = (decide (o.length = n) && !(placesI n).any fun i => !decide (i ∈ o))) := rfl
  have HD := hideE (fun W ad (hs : SlI W ad (placesI n)) (hp : PredI 88 #[.pointer (some ⟨w.heap.size, 0, none⟩)] (fun _ => True) (fun x => !decide (x ∈ o)) W) => DContains_any 88 #[.pointer (some ⟨w.heap.size, 0, none⟩)] (fun _ => True) (fun x => !decide (x ∈ o)) W ad n (placesI n) enters88 hp (fun _ _ => trivial) hs (by simp [placesI]; omega))
  clear hs
  generalize isAllB o n = R at *
  generalize ((placesI n).any fun i => !decide (i ∈ o)) = D at *
  have HL := hideE hl
  obtain ⟨m, hm⟩ : ∃ m, m = o.length := ⟨_, rfl⟩
  have Hm := hideE hm
  rw [← hm] at hl hA HM ⊢
  clear hm
  by_cases he : m = n
  · have t1 : ((m : Int) == (n : Int)) = true := by simp; omega
    have hR : Hid (R = !D) := by show _ = _; rw [hA.out, decide_eq_true he]; rfl
    clear hA he
    go_enter Tryz.func50, Tryz.ntmps50
    go_wp2_with (first
      | (go_at_call 79; refine (HP _).mono ?_; rintro e w1 ⟨rfl, hr1, hb1⟩; have HB1 := hideE hb1; have HR1 := hideE (show RowL w1 (w.heap.size + 1) (placesI n) from (by simpa using hr1)); dsimp only)
      | (go_at_call 90; have HH := HD.out w1 (some ⟨w.heap.size + 1, 0, none⟩) HR1.out.sl (HM.out w1 (cell_k (by go_simp) HB1.out) (bstep (balloc _ _) HB1.out)); rw [hpl.out] at HH; refine HH.mono ?_; rintro e w2 ⟨rfl, hb2⟩; dsimp only))
    go_ret
    exact ⟨ret_bool (by rw [hR.out]), bstep (bstep (balloc _ _) HB1.out) hb2⟩
  · have t1 : ((m : Int) == (n : Int)) = false := by simp; omega
    have hR : Hid (R = false) := by show _ = _; rw [hA.out, decide_eq_false he]; rfl
    clear hA he
    go_enter Tryz.func50, Tryz.ntmps50
    go_wp2_with fail
    go_ret
    exact ⟨ret_bool (by rw [hR.out]), balloc _ _⟩

/-! ### slices.Clone at texts -/
theorem own_empty (w : World) : (w.alloc (.cells #[] 9)).ownsRow w.heap.size 9 1 (.slice (some ⟨w.heap.size, 0, none⟩) 0 0) ([] : List (List UInt8)).length (([] : List (List UInt8)).map encV) :=
  ⟨rfl, Or.inr ⟨w.heap.size, 0, #[], rfl, Nat.le_refl _, heap_alloc_last _ _, Nat.le_refl _, by decide, rfl, rfl⟩⟩
set_option maxHeartbeats 4000000 in
set_option maxRecDepth 100000 in
theorem CloneW_any (ad : Option Addr) (c : Nat) (l : List (List UInt8)) (w : World) (h : SlW w ad l) (h0 : l ≠ []) (hl : l.length ≤ 1000) : Calls Tryz.prog 51 #[.slice ad l.length c] w fun e w' => RowKit.Below w.heap.size w w' ∧ ∃ ad' c', e = .returned (.slice ad' l.length c') ∧ SlW w' ad' l ∧ l.length ≤ c' ∧ (∀ b o, ad' = some ⟨b, o, none⟩ → w.heap.size ≤ b) := by
  obtain ⟨b, o, rfl, _⟩ := h h0
  have H := hideE h
  have hnil := fun W n c' => Lib.run_eql_slice_nil (P := Tryz.prog) W 23 9 (some ⟨b, o, none⟩) n c 0 c' Tryz.underlying23
  obtain ⟨n, hn⟩ : ∃ n, n = l.length := ⟨_, rfl⟩
  have Hn := hideE hn
  clear h h0
  go_enter Tryz.func51, Tryz.ntmps51
  go_wp2_with (first
    | (at_builtin; refine wpList_append_textsW _ rfl _ _ rfl w.heap.size _ [] l (some ⟨b, o, none⟩) c rfl rfl (own_empty _) (H.out.below (balloc _ _)) (by simp; omega) (by simp) ?_; intro v' w2 h2 h3))
  have hb : RowKit.Below w.heap.size w w2 := (balloc w (.cells #[] 9)).grown h3 (by simp) (fun j hj => by cases hj; exact Nat.le_refl _)
  rw [List.nil_append] at h2
  obtain ⟨ad', c', rfl, hs'⟩ := own_v h2
  have hc' : l.length ≤ c' := by
    rcases h2.2 with ⟨e, h0⟩ | ⟨g, cap, cur, e, _, _, hle, _⟩
    · simp at e; omega
    · simp at e; omega
  have hnew : Hid (∀ b o, ad' = some ⟨b, o, none⟩ → w.heap.size ≤ b) := fun b' o' e => by
    rw [e] at h2
    exact (h2.lt b' rfl).1
  have Hs' := hideE (show SlW w2 ad' l from fun hl => by obtain ⟨b, e, r⟩ := hs' hl; exact ⟨b, 0, e, fun j hj => by rw [Nat.zero_add]; exact r j hj⟩)
  rw [← hn] at hc' ⊢
  clear h2 h3 hs' hn
  go_wp2_with fail
  refine bodyPost_ret (v := .slice ad' n c') (by simp [results, Tryz.results51, go_sem]) rfl ⟨hb, ad', c', by rw [Hn.out], Hs'.out, hc', hnew.out⟩
end Go.Proofs.YtcdbcoaiadipjaaGreatDoor

/- A question whose parts are put in an order, and back; plain lists, no program. -/
namespace Go.Proofs.YtcdbcoaiadipjaaGreatDoor
open Go Go.RowKit Go.Proofs
set_option synthInstance.maxSize 1000

theorem fewP_le : ∀ (l m : List (List UInt8)), l.Nodup → (∀ v ∈ l, v ∈ m) → l.length ≤ m.length
  | [], _, _, _ => Nat.zero_le _
  | x :: l, m, h, hm => by
    have hx := hm x (by simp)
    have h' := List.nodup_cons.1 h
    have := fewP_le l (m.erase x) h'.2 fun v hv => (List.mem_erase_of_ne (fun e => by subst e; exact h'.1 hv)).2 (hm v (List.mem_cons_of_mem _ hv))
    rw [List.length_erase_of_mem hx] at this
    have := List.length_pos_of_mem hx
    simp only [List.length_cons]
    omega

/-! ### a question that is swapped -/
theorem partsV_nodup : ∀ (l : List Pt) (o : List (List UInt8)), o.Nodup → (partsV o l).Nodup
  | [], o, h => h
  | p :: l, o, h => by
    have add : ∀ (vs : List (List UInt8)) (o : List (List UInt8)), o.Nodup → (addAll o vs).Nodup := by
      intro vs
      induction vs with
      | nil => exact fun o h => h
      | cons v r ih =>
        intro o h
        unfold addAll
        refine ih _ ?_
        split
        · exact h
        · rename_i hn
          exact List.nodup_append.2 ⟨h, by simp, fun a ha b hb => by
            have e : b = v := by simpa using hb
            rw [e]
            exact fun k => hn (k ▸ ha)⟩
    unfold partsV
    exact partsV_nodup l _ (add _ _ h)
theorem partsV_perm {a b : List Pt} (h : a.Perm b) : (partsV [] a).length = (partsV [] b).length := by
  refine (perm_nodup (partsV_nodup a [] List.nodup_nil) (partsV_nodup b [] List.nodup_nil) fun v => ?_).length_eq
  rw [partsV_mem, partsV_mem]
  constructor
  · rintro (k | ⟨p, hp, k⟩)
    · exact Or.inl k
    · exact Or.inr ⟨p, h.mem_iff.1 hp, k⟩
  · rintro (k | ⟨p, hp, k⟩)
    · exact Or.inl k
    · exact Or.inr ⟨p, h.mem_iff.2 hp, k⟩
theorem ask_swap {q : Qu} {o : List Int} (h : askN q = 0) (hp : (swapQ q o).parts.Perm q.parts) : askN (swapQ q o) = 0 := by
  have g := ask_good h
  have hl := hp.length_eq
  have hv : (swapQ q o).vars = q.vars := rfl
  unfold askN
  rw [if_neg (by rw [hl]; have := g.six; omega), if_neg (fun e => by rw [e] at hp; exact g.some hp.symm.eq_nil), if_neg (fun k => k (partsN_zero fun p hp' => g.parts p (hp.mem_iff.1 hp'))), if_neg (by rw [partsV_perm hp]; have := g.eight; omega), if_neg (by rw [hv]; exact g.told)]
  rw [if_neg (by
    rintro ⟨v, hv1, hv2⟩
    have k := g.within v hv1
    refine hv2 (partsV_mem.2 ?_)
    rcases partsV_mem.1 k with k | ⟨p, hp', k⟩
    · exact Or.inl k
    · exact Or.inr ⟨p, hp.mem_iff.2 hp', k⟩)]
  rw [if_neg (by rw [hv]; exact fun k => k g.once), if_neg (by
    rintro ⟨k1, k2⟩
    rcases g.order with k | k
    · exact k1 k
    · exact k2 k), if_neg (by
    rintro ⟨k1, k2⟩
    exact g.down k1 k2), if_neg (by
    have := g.lim
    rintro (k | k)
    · have : q.lim < -1 := k
      omega
    · have : 500 < q.lim := k
      omega)]
/-- back where it was -/
theorem swap_back {q : Qu} {o b : List Int} (ho : o.Perm (placesI q.parts.length)) (hb : b.length = q.parts.length) (h : ∀ (i : Nat) (hi : i < o.length), b.getD o[i].toNat 0 = (i : Int)) : swapQ (swapQ q o) b = q ∧ isAllB b q.parts.length = true := by
  have hol : o.length = q.parts.length := by simpa [placesI] using ho.length_eq
  have inv : ∀ (j : Nat), j < q.parts.length → ∃ i, ∃ hi : i < o.length, o[i] = (j : Int) := fun j hj => by
    have : (j : Int) ∈ o := ho.mem_iff.2 (placesI_mem.2 ⟨by omega, by omega⟩)
    obtain ⟨i, hi, e⟩ := List.getElem_of_mem this
    exact ⟨i, hi, e⟩
  have hbj : ∀ (j : Nat) (hj : j < q.parts.length) (i : Nat) (hi : i < o.length), o[i] = (j : Int) → b[j]'(by omega) = (i : Int) := fun j hj i hi e => by
    have k := h i hi
    rw [e, Int.toNat_natCast, List.getD_eq_getElem?_getD, List.getElem?_eq_getElem (by omega : j < b.length)] at k
    exact k
  constructor
  · have hpp : b.map (fun i => (swapQ q o).parts.getD i.toNat patZero) = q.parts := by
      refine List.ext_getElem (by simp [hb]) fun j h1 h2 => ?_
      obtain ⟨i, hi, e⟩ := inv j h2
      rw [List.getElem_map, hbj j h2 i hi e, Int.toNat_natCast]
      have hi2 : i < (swapQ q o).parts.length := by simp [swapQ]; exact hi
      rw [List.getD_eq_getElem?_getD, List.getElem?_eq_getElem hi2]
      show (swapQ q o).parts[i] = q.parts[j]
      simp only [swapQ, List.getElem_map, e, Int.toNat_natCast, List.getD_eq_getElem?_getD, List.getElem?_eq_getElem h2, Option.getD_some]
    show ({ q with parts := b.map (fun i => (swapQ q o).parts.getD i.toNat patZero) } : Qu) = q
    rw [hpp]
  · unfold isAllB
    rw [Bool.and_eq_true, decide_eq_true_eq, Bool.not_eq_true', List.any_eq_false]
    refine ⟨hb, fun x hx => ?_⟩
    have hx2 := placesI_mem.1 (show x ∈ placesI q.parts.length from hx)
    obtain ⟨i, rfl⟩ : ∃ i : Nat, x = i := ⟨x.toNat, by omega⟩
    have hi : i < o.length := by omega
    have hoi := placesI_mem.1 (ho.mem_iff.1 (List.getElem_mem hi))
    obtain ⟨j, hj⟩ : ∃ j : Nat, o[i] = (j : Int) := ⟨o[i].toNat, by omega⟩
    have hjn : j < q.parts.length := by omega
    have e := hbj j hjn i hi hj
    have : (i : Int) ∈ b := e ▸ List.getElem_mem (by omega)
    simpa using this
end Go.Proofs.YtcdbcoaiadipjaaGreatDoor

/- plan.Swap: a question with its parts in an order. -/
namespace Go.Proofs.YtcdbcoaiadipjaaGreatDoor
open Go Go.RowKit Go.Proofs Go.Maps
set_option synthInstance.maxSize 1000
attribute [local go_sem] eql_errV neq_errV guard_errV

/-- a block holds these cells, and may be written -/
structure RowV (w : World) (B : Nat) (L : List Value) : Prop where
  at_ : ∀ (j : Nat) (v : Value), L[j]? = some v → w.cell? ⟨B, j, none⟩ = some v
  free : ∀ (j : Nat), j < L.length → w.frozen? ⟨B, j, none⟩ = false
theorem RowV.below {w w' : World} {B : Nat} {L : List Value} (h : RowV w B L) (hb : RowKit.Below w.heap.size w w') : RowV w' B L :=
  ⟨fun j v hv => cell_k (h.at_ j v hv) hb, fun j hj => (hb.frozen (p := ⟨B, j, none⟩) (World.block_lt_of_cell? w _ (h.at_ j _ (List.getElem?_eq_getElem hj)))).trans (h.free j hj)⟩
theorem RowV.setV {W : World} {B : Nat} {L : List Value} (h : RowV W B L) {j : Nat} (hj : j < L.length) (v : Value) : RowV (W.setCell ⟨B, j, none⟩ v) B (L.set j v) := by
  refine ⟨fun i u hu => ?_, fun i hi => ?_⟩
  · have hi : i < L.length := by have := (List.getElem?_eq_some_iff.1 hu).1; simpa using this
    by_cases e : i = j
    · subst e
      rw [List.getElem?_set_self hi] at hu
      rw [← Option.some.inj hu]
      exact World.cell?_setCell_same _ _ _ (h.at_ i _ (List.getElem?_eq_getElem hi))
    · rw [List.getElem?_set_ne (fun h => e h.symm)] at hu
      rw [World.cell?_setCell_other _ _ _ _ (fun h => e (by simpa using congrArg Addr.off h.symm))]
      exact h.at_ i u hu
  · rw [World.frozen?_setCell]
    exact h.free i (by simpa using hi)
theorem RowV.set12 {W : World} {B n : Nat} {A R : List Value} {z0 z1 z2 z3 z4 z5 z6 z7 z8 z9 z10 z11 : Value} (h : RowV W B (A ++ (z0 :: z1 :: z2 :: z3 :: z4 :: z5 :: z6 :: z7 :: z8 :: z9 :: z10 :: z11 :: R))) (hA : A.length = n) (v0 v1 v2 v3 v4 v5 v6 v7 v8 v9 v10 v11 : Value) : RowV ((((((((((((W.setCell ⟨B, n, none⟩ v0).setCell ⟨B, n + 1, none⟩ v1).setCell ⟨B, n + 2, none⟩ v2).setCell ⟨B, n + 3, none⟩ v3).setCell ⟨B, n + 4, none⟩ v4).setCell ⟨B, n + 5, none⟩ v5).setCell ⟨B, n + 6, none⟩ v6).setCell ⟨B, n + 7, none⟩ v7).setCell ⟨B, n + 8, none⟩ v8).setCell ⟨B, n + 9, none⟩ v9).setCell ⟨B, n + 10, none⟩ v10).setCell ⟨B, n + 11, none⟩ v11) B (A ++ (v0 :: v1 :: v2 :: v3 :: v4 :: v5 :: v6 :: v7 :: v8 :: v9 :: v10 :: v11 :: R)) := by
  have key : ∀ (i : Nat) (X : List Value) (v : Value), (A ++ X).set (A.length + i) v = A ++ X.set i v := fun i X v => by
    rw [List.set_append_right _ _ (by omega), Nat.add_sub_cancel_left]
  subst hA
  have h0 := h.setV (j := A.length) (by simp; try omega) v0
  rw [List.set_append_right _ _ (Nat.le_refl _), Nat.sub_self] at h0
  replace h0 : RowV _ B (A ++ (v0 :: z1 :: z2 :: z3 :: z4 :: z5 :: z6 :: z7 :: z8 :: z9 :: z10 :: z11 :: R)) := h0
  have h1 := h0.setV (j := A.length + 1) (by simp; try omega) v1
  rw [key 1 _ v1] at h1
  replace h1 : RowV _ B (A ++ (v0 :: v1 :: z2 :: z3 :: z4 :: z5 :: z6 :: z7 :: z8 :: z9 :: z10 :: z11 :: R)) := h1
  have h2 := h1.setV (j := A.length + 2) (by simp; try omega) v2
  rw [key 2 _ v2] at h2
  replace h2 : RowV _ B (A ++ (v0 :: v1 :: v2 :: z3 :: z4 :: z5 :: z6 :: z7 :: z8 :: z9 :: z10 :: z11 :: R)) := h2
  have h3 := h2.setV (j := A.length + 3) (by simp; try omega) v3
  rw [key 3 _ v3] at h3
  replace h3 : RowV _ B (A ++ (v0 :: v1 :: v2 :: v3 :: z4 :: z5 :: z6 :: z7 :: z8 :: z9 :: z10 :: z11 :: R)) := h3
  have h4 := h3.setV (j := A.length + 4) (by simp; try omega) v4
  rw [key 4 _ v4] at h4
  replace h4 : RowV _ B (A ++ (v0 :: v1 :: v2 :: v3 :: v4 :: z5 :: z6 :: z7 :: z8 :: z9 :: z10 :: z11 :: R)) := h4
  have h5 := h4.setV (j := A.length + 5) (by simp; try omega) v5
  rw [key 5 _ v5] at h5
  replace h5 : RowV _ B (A ++ (v0 :: v1 :: v2 :: v3 :: v4 :: v5 :: z6 :: z7 :: z8 :: z9 :: z10 :: z11 :: R)) := h5
  have h6 := h5.setV (j := A.length + 6) (by simp; try omega) v6
  rw [key 6 _ v6] at h6
  replace h6 : RowV _ B (A ++ (v0 :: v1 :: v2 :: v3 :: v4 :: v5 :: v6 :: z7 :: z8 :: z9 :: z10 :: z11 :: R)) := h6
  have h7 := h6.setV (j := A.length + 7) (by simp; try omega) v7
  rw [key 7 _ v7] at h7
  replace h7 : RowV _ B (A ++ (v0 :: v1 :: v2 :: v3 :: v4 :: v5 :: v6 :: v7 :: z8 :: z9 :: z10 :: z11 :: R)) := h7
  have h8 := h7.setV (j := A.length + 8) (by simp; try omega) v8
  rw [key 8 _ v8] at h8
  replace h8 : RowV _ B (A ++ (v0 :: v1 :: v2 :: v3 :: v4 :: v5 :: v6 :: v7 :: v8 :: z9 :: z10 :: z11 :: R)) := h8
  have h9 := h8.setV (j := A.length + 9) (by simp; try omega) v9
  rw [key 9 _ v9] at h9
  replace h9 : RowV _ B (A ++ (v0 :: v1 :: v2 :: v3 :: v4 :: v5 :: v6 :: v7 :: v8 :: v9 :: z10 :: z11 :: R)) := h9
  have h10 := h9.setV (j := A.length + 10) (by simp; try omega) v10
  rw [key 10 _ v10] at h10
  replace h10 : RowV _ B (A ++ (v0 :: v1 :: v2 :: v3 :: v4 :: v5 :: v6 :: v7 :: v8 :: v9 :: v10 :: z11 :: R)) := h10
  have h11 := h10.setV (j := A.length + 11) (by simp; try omega) v11
  rw [key 11 _ v11] at h11
  replace h11 : RowV _ B (A ++ (v0 :: v1 :: v2 :: v3 :: v4 :: v5 :: v6 :: v7 :: v8 :: v9 :: v10 :: v11 :: R)) := h11
  exact h11
theorem infoPtS : (Tryz.prog.info? 32).map (fun i => (i.zero, i.size, i.bytes)) = some (some (.agg (encPt patZero).toArray), 12, 168) := by kernel_rfl
theorem makePts (n : Nat) (w : World) (h : n ≤ 1000) : (Instr.makeSlice 24 (.int .i64 (n : Int)) (.int .i64 (n : Int))).run Tryz.prog w = .ok (.slice (some ⟨w.heap.size, 0, none⟩) n n) (w.alloc (.cells (madeCells (encPt patZero).toArray (n * 12)) 32)) := by
  obtain ⟨i, hi, hz⟩ := Option.map_eq_some_iff.1 infoPtS
  simp only [Prod.mk.injEq] at hz
  obtain ⟨h1, h2, h3⟩ := hz
  have := run_make (P := Tryz.prog) w 24 32 i _ Tryz.underlying24 hi h1 .i64 .i64 (n : Int) (n : Int) (by omega) (Int.le_refl _) (by rw [h3]; omega) (by omega)
  rw [h2] at this
  simpa [Value.cells] using this
theorem rowV_made (W : World) (n : Nat) : RowV (W.alloc (.cells (madeCells (encPt patZero).toArray (n * 12)) 32)) W.heap.size (cellsPt (List.replicate n patZero)) := by
  have hh := heap_alloc_last W (.cells (madeCells (encPt patZero).toArray (n * 12)) 32)
  refine ⟨fun j v hv => ?_, fun j hj => frozen_of_row _ _ j _ 32 hh⟩
  have hj : j < n * 12 := by have := (List.getElem?_eq_some_iff.1 hv).1; rwa [cellsPt_len, List.length_replicate] at this
  rw [cell_of_row _ _ j _ 32 (0, 0) hh]
  have e := cellsPt_at (List.replicate n patZero) (j / 12) (by simp; omega) (j % 12) (by omega)
  rw [show j / 12 * 12 + j % 12 = j by omega, hv, List.getElem_replicate] at e
  rw [e]
  unfold madeCells
  rw [Array.getElem?_map, Array.getElem?_range, if_pos hj]
  have h12 : j % 12 < 12 := by omega
  rcases (by omega : j % 12 = 0 ∨ j % 12 = 1 ∨ j % 12 = 2 ∨ j % 12 = 3 ∨ j % 12 = 4 ∨ j % 12 = 5 ∨ j % 12 = 6 ∨ j % 12 = 7 ∨ j % 12 = 8 ∨ j % 12 = 9 ∨ j % 12 = 10 ∨ j % 12 = 11) with q | q | q | q | q | q | q | q | q | q | q | q <;> simp [q, encPt]
/-- as far as the parts are laid -/
def rowPk (L : List Pt) (k : Nat) : List Value := cellsPt (L.take k) ++ cellsPt (List.replicate (L.length - k) patZero)
theorem rowPk_zero (L : List Pt) : rowPk L 0 = cellsPt (List.replicate L.length patZero) := by simp [rowPk, cellsPt]
theorem rowPk_all (L : List Pt) : rowPk L L.length = cellsPt L := by simp [rowPk, cellsPt]
theorem cellsPt_cons (x : Pt) (l : List Pt) : cellsPt (x :: l) = encPt x ++ cellsPt l := by simp [cellsPt]
theorem cellsPt_snoc (x : Pt) (l : List Pt) : cellsPt (l ++ [x]) = cellsPt l ++ encPt x := by simp [cellsPt]
theorem rowPk_next {W : World} {B k : Nat} {L : List Pt} (h : RowV W B (rowPk L k)) (hk : k < L.length) (x : Pt) (hx : x = L[k]) : RowV ((((((((((((W.setCell ⟨B, k * 12, none⟩ (.string ⟨x.1.1.toArray⟩)).setCell ⟨B, k * 12 + 1, none⟩ (.int .i64 x.1.2.1)).setCell ⟨B, k * 12 + 2, none⟩ (.string ⟨x.1.2.2.1.toArray⟩)).setCell ⟨B, k * 12 + 3, none⟩ (.string ⟨x.1.2.2.2.toArray⟩)).setCell ⟨B, k * 12 + 4, none⟩ (.string ⟨x.2.1.1.toArray⟩)).setCell ⟨B, k * 12 + 5, none⟩ (.int .i64 x.2.1.2.1)).setCell ⟨B, k * 12 + 6, none⟩ (.string ⟨x.2.1.2.2.1.toArray⟩)).setCell ⟨B, k * 12 + 7, none⟩ (.string ⟨x.2.1.2.2.2.toArray⟩)).setCell ⟨B, k * 12 + 8, none⟩ (.string ⟨x.2.2.1.toArray⟩)).setCell ⟨B, k * 12 + 9, none⟩ (.int .i64 x.2.2.2.1)).setCell ⟨B, k * 12 + 10, none⟩ (.string ⟨x.2.2.2.2.1.toArray⟩)).setCell ⟨B, k * 12 + 11, none⟩ (.string ⟨x.2.2.2.2.2.toArray⟩)) B (rowPk L (k + 1)) := by
  have hA : (cellsPt (L.take k)).length = k * 12 := by rw [cellsPt_len, List.length_take, Nat.min_eq_left (by omega)]
  obtain ⟨m, hm⟩ : ∃ m, L.length - k = m + 1 := ⟨L.length - k - 1, by omega⟩
  have hm2 : L.length - (k + 1) = m := by omega
  have e1 : rowPk L k = cellsPt (L.take k) ++ (encPt patZero ++ cellsPt (List.replicate m patZero)) := by unfold rowPk; rw [hm, List.replicate_succ, cellsPt_cons]
  have e2 : rowPk L (k + 1) = cellsPt (L.take k) ++ (encPt x ++ cellsPt (List.replicate m patZero)) := by unfold rowPk; rw [hm2, List.take_succ_eq_append_getElem hk, ← hx, cellsPt_snoc, List.append_assoc]
  rw [e1] at h
  rw [e2]
  exact RowV.set12 h hA (.string ⟨x.1.1.toArray⟩) (.int .i64 x.1.2.1) (.string ⟨x.1.2.2.1.toArray⟩) (.string ⟨x.1.2.2.2.toArray⟩) (.string ⟨x.2.1.1.toArray⟩) (.int .i64 x.2.1.2.1) (.string ⟨x.2.1.2.2.1.toArray⟩) (.string ⟨x.2.1.2.2.2.toArray⟩) (.string ⟨x.2.2.1.toArray⟩) (.int .i64 x.2.2.2.1) (.string ⟨x.2.2.2.2.1.toArray⟩) (.string ⟨x.2.2.2.2.2.toArray⟩)
theorem RowV.sl {w : World} {B : Nat} {L : List Pt} (h : RowV w B (cellsPt L)) : SlPt w (some ⟨B, 0, none⟩) L := fun _ => ⟨B, 0, rfl, fun j v hv => by rw [Nat.zero_add]; exact h.at_ j v hv⟩
theorem below12 {w W : World} {B b n : Nat} {v0 v1 v2 v3 v4 v5 v6 v7 v8 v9 v10 v11 : Value} (h : RowKit.Below B w W) (hb : B ≤ b) : RowKit.Below B w ((((((((((((W.setCell ⟨b, n, none⟩ v0).setCell ⟨b, n + 1, none⟩ v1).setCell ⟨b, n + 2, none⟩ v2).setCell ⟨b, n + 3, none⟩ v3).setCell ⟨b, n + 4, none⟩ v4).setCell ⟨b, n + 5, none⟩ v5).setCell ⟨b, n + 6, none⟩ v6).setCell ⟨b, n + 7, none⟩ v7).setCell ⟨b, n + 8, none⟩ v8).setCell ⟨b, n + 9, none⟩ v9).setCell ⟨b, n + 10, none⟩ v10).setCell ⟨b, n + 11, none⟩ v11) :=
  (((((((((((h.setCell (p := ⟨b, n, none⟩) hb v0).setCell (p := ⟨b, n + 1, none⟩) hb v1).setCell (p := ⟨b, n + 2, none⟩) hb v2).setCell (p := ⟨b, n + 3, none⟩) hb v3).setCell (p := ⟨b, n + 4, none⟩) hb v4).setCell (p := ⟨b, n + 5, none⟩) hb v5).setCell (p := ⟨b, n + 6, none⟩) hb v6).setCell (p := ⟨b, n + 7, none⟩) hb v7).setCell (p := ⟨b, n + 8, none⟩) hb v8).setCell (p := ⟨b, n + 9, none⟩) hb v9).setCell (p := ⟨b, n + 10, none⟩) hb v10).setCell (p := ⟨b, n + 11, none⟩) hb v11
theorem SlW.setC {W : World} {ad : Option Addr} {l : List (List UInt8)} (h : SlW W ad l) {p : Addr} (hne : ∀ b o, ad = some ⟨b, o, none⟩ → p.block < b) (v : Value) : SlW (W.setCell p v) ad l := fun hl => by
  obtain ⟨b, o, e, r⟩ := h hl
  exact ⟨b, o, e, fun j hj => (World.cell?_setCell_other _ _ _ _ (fun q => by have := hne b o e; rw [q] at this; exact absurd this (Nat.lt_irrefl _))).trans (r j hj)⟩
theorem SlPt.setC {W : World} {ad : Option Addr} {l : List Pt} (h : SlPt W ad l) {p : Addr} (hne : ∀ b o, ad = some ⟨b, o, none⟩ → p.block < b) (v : Value) : SlPt (W.setCell p v) ad l := fun hl => by
  obtain ⟨b, o, e, r⟩ := h hl
  exact ⟨b, o, e, fun j u hu => (World.cell?_setCell_other _ _ _ _ (fun q => by have := hne b o e; rw [q] at this; exact absurd this (Nat.lt_irrefl _))).trans (r j u hu)⟩
theorem below8 {w W : World} {B b : Nat} {v0 v1 u0 u1 u2 u3 u4 u5 : Value} (h : RowKit.Below B w W) (hb : B ≤ b) (hb2 : B ≤ b + 1) : RowKit.Below B w ((((((((W.setCell ⟨b, 1, none⟩ v0).setCell ⟨b, 0, none⟩ v1).setCell ⟨b + 1, 0, none⟩ u0).setCell ⟨b + 1, 1, none⟩ u1).setCell ⟨b + 1, 2, none⟩ u2).setCell ⟨b + 1, 3, none⟩ u3).setCell ⟨b + 1, 4, none⟩ u4).setCell ⟨b + 1, 5, none⟩ u5) :=
  ((((((((h.setCell (p := ⟨b, 1, none⟩) hb _).setCell (p := ⟨b, 0, none⟩) hb _).setCell (p := ⟨b + 1, 0, none⟩) hb2 _).setCell (p := ⟨b + 1, 1, none⟩) hb2 _).setCell (p := ⟨b + 1, 2, none⟩) hb2 _).setCell (p := ⟨b + 1, 3, none⟩) hb2 _).setCell (p := ⟨b + 1, 4, none⟩) hb2 _).setCell (p := ⟨b + 1, 5, none⟩) hb2 _)
theorem slW8 {W : World} {b : Nat} {ad : Option Addr} {l : List (List UInt8)} {v0 v1 u0 u1 u2 u3 u4 u5 : Value} (h : SlW W ad l) (hl : ∀ g o, ad = some ⟨g, o, none⟩ → b + 2 ≤ g) : SlW ((((((((W.setCell ⟨b, 1, none⟩ v0).setCell ⟨b, 0, none⟩ v1).setCell ⟨b + 1, 0, none⟩ u0).setCell ⟨b + 1, 1, none⟩ u1).setCell ⟨b + 1, 2, none⟩ u2).setCell ⟨b + 1, 3, none⟩ u3).setCell ⟨b + 1, 4, none⟩ u4).setCell ⟨b + 1, 5, none⟩ u5) ad l :=
  ((((((((h.setC (p := ⟨b, 1, none⟩) (fun g o e => by have := hl g o e; show b < g; omega) _).setC (p := ⟨b, 0, none⟩) (fun g o e => by have := hl g o e; show b < g; omega) _).setC (p := ⟨b + 1, 0, none⟩) (fun g o e => by have := hl g o e; show b + 1 < g; omega) _).setC (p := ⟨b + 1, 1, none⟩) (fun g o e => by have := hl g o e; show b + 1 < g; omega) _).setC (p := ⟨b + 1, 2, none⟩) (fun g o e => by have := hl g o e; show b + 1 < g; omega) _).setC (p := ⟨b + 1, 3, none⟩) (fun g o e => by have := hl g o e; show b + 1 < g; omega) _).setC (p := ⟨b + 1, 4, none⟩) (fun g o e => by have := hl g o e; show b + 1 < g; omega) _).setC (p := ⟨b + 1, 5, none⟩) (fun g o e => by have := hl g o e; show b + 1 < g; omega) _)
theorem slPt8 {W : World} {b : Nat} {ad : Option Addr} {l : List Pt} {v0 v1 u0 u1 u2 u3 u4 u5 : Value} (h : SlPt W ad l) (hl : ∀ g o, ad = some ⟨g, o, none⟩ → b + 2 ≤ g) : SlPt ((((((((W.setCell ⟨b, 1, none⟩ v0).setCell ⟨b, 0, none⟩ v1).setCell ⟨b + 1, 0, none⟩ u0).setCell ⟨b + 1, 1, none⟩ u1).setCell ⟨b + 1, 2, none⟩ u2).setCell ⟨b + 1, 3, none⟩ u3).setCell ⟨b + 1, 4, none⟩ u4).setCell ⟨b + 1, 5, none⟩ u5) ad l :=
  ((((((((h.setC (p := ⟨b, 1, none⟩) (fun g o e => by have := hl g o e; show b < g; omega) _).setC (p := ⟨b, 0, none⟩) (fun g o e => by have := hl g o e; show b < g; omega) _).setC (p := ⟨b + 1, 0, none⟩) (fun g o e => by have := hl g o e; show b + 1 < g; omega) _).setC (p := ⟨b + 1, 1, none⟩) (fun g o e => by have := hl g o e; show b + 1 < g; omega) _).setC (p := ⟨b + 1, 2, none⟩) (fun g o e => by have := hl g o e; show b + 1 < g; omega) _).setC (p := ⟨b + 1, 3, none⟩) (fun g o e => by have := hl g o e; show b + 1 < g; omega) _).setC (p := ⟨b + 1, 4, none⟩) (fun g o e => by have := hl g o e; show b + 1 < g; omega) _).setC (p := ⟨b + 1, 5, none⟩) (fun g o e => by have := hl g o e; show b + 1 < g; omega) _)
def FreeQ (w : World) (b : Nat) : Prop := ∀ j, j < 6 → w.frozen? ⟨b, j, none⟩ = false
theorem FreeQ.below {w w' : World} {b : Nat} (h : FreeQ w b) (hb : RowKit.Below w.heap.size w w') (hl : b < w.heap.size) : FreeQ w' b := fun j hj => (hb.frozen (p := ⟨b, j, none⟩) hl).trans (h j hj)
theorem freeQ_new (w : World) (cs : Array Value) (T : TypeId) : FreeQ (w.alloc (.cells cs T)) w.heap.size := fun j _ => frozen_of_row _ _ j _ T (heap_alloc_last w (.cells cs T))
def zeroQ : Qu := ⟨[], [], [], false, false, 0⟩
def SwapAns (q : Qu) (o : List Int) (w : World) (e : Ending) (w' : World) : Prop := RowKit.Below w.heap.size w w' ∧ (swapN q o ≠ 0 → e = .returned (.tuple #[valQ zeroQ none 0 none 0, errV (swapN q o)])) ∧ (swapN q o = 0 → ∃ vd vc pd, e = .returned (.tuple #[valQ (swapQ q o) vd vc pd o.length, .nilIface]) ∧ QuIn w' (swapQ q o) vd pd ∧ q.vars.length ≤ vc)
theorem SwapAns.bad {q : Qu} {o : List Int} {w w' : World} {n : Int} (hb : RowKit.Below w.heap.size w w') (hn : swapN q o = n) (h0 : n ≠ 0) : SwapAns q o w (.returned (.tuple #[valQ zeroQ none 0 none 0, errV n])) w' := ⟨hb, fun _ => by rw [hn], fun h => absurd (hn.symm.trans h) h0⟩
set_option maxHeartbeats 8000000 in
set_option maxRecDepth 100000 in
theorem Swap_any (q : Qu) (vd pd : Option Addr) (vc pc : Nat) (od : Option Addr) (oc : Nat) (o : List Int) (w : World) (hq : QuIn w q vd pd) (hf : FitQ q) (hvc : q.vars.length ≤ vc) (ho : SlI w od o) (hl : o.length ≤ 9223372036854775807) :
    Calls Tryz.prog 19 #[valQ q vd vc pd pc, .slice od o.length oc] w (SwapAns q o w) := by
  have HC := fun W hW => CheckO_any q vd pd vc pc W hW hf hvc
  have Hq := hideE hq
  have Ho := hideE ho
  obtain ⟨Q, hQ⟩ : ∃ Q, Q = SwapAns q o w := ⟨_, rfl⟩
  have HQ : Hid (∀ e w', SwapAns q o w e w' → Q e w') := fun e w' h => by rw [hQ]; exact h
  rw [← hQ]
  clear hQ hq ho
  obtain ⟨W0, hW0⟩ : ∃ W0, W0 = (w.alloc (.cells #[.slice vd q.vars.length vc, .slice pd q.parts.length pc, .string ⟨q.order.toArray⟩, .bool q.down, .bool q.dist, .int .i64 q.lim] 26)).alloc (.cells #[.slice none 0 0, .slice none 0 0, .string ⟨#[]⟩, .bool false, .bool false, .int .i64 0] 26) := ⟨_, rfl⟩
  have hB0 : RowKit.Below w.heap.size w W0 := by rw [hW0]; exact bstep (balloc _ _) (balloc _ _)
  have hX0 := hideE (show BoxQ W0 w.heap.size q vd pd vc pc by rw [hW0]; exact (boxQ_new _ _ _ _ _ _).below (balloc _ _))
  have hZ0 := hideE (show BoxQ W0 (w.heap.size + 1) zeroQ none none 0 0 by rw [hW0]; have := boxQ_new (w.alloc (.cells #[.slice vd q.vars.length vc, .slice pd q.parts.length pc, .string ⟨q.order.toArray⟩, .bool q.down, .bool q.dist, .int .i64 q.lim] 26)) zeroQ none none 0 0; rw [World.size_alloc] at this; exact this)
  have hFX := hideE (show FreeQ W0 w.heap.size by rw [hW0]; exact (freeQ_new _ _ _).below (balloc _ _) (by simp))
  have hFZ := hideE (show FreeQ W0 (w.heap.size + 1) by rw [hW0]; have := freeQ_new (w.alloc (.cells #[.slice vd q.vars.length vc, .slice pd q.parts.length pc, .string ⟨q.order.toArray⟩, .bool q.down, .bool q.dist, .int .i64 q.lim] 26)) #[.slice none 0 0, .slice none 0 0, .string ⟨#[]⟩, .bool false, .bool false, .int .i64 0] 26; rw [World.size_alloc] at this; exact this)
  have hW2 : w.heap.size + 1 < W0.heap.size := by rw [hW0]; simp
  unfold valQ at HC ⊢
  by_cases hk : askN q = 0
  · have hgq := ask_good hk
    have hv0 : q.vars ≠ [] := hgq.told
    have hv8 : q.vars.length ≤ 1000 := by
      have := fewP_le q.vars (partsV [] q.parts) hgq.once (fun v hv => hgq.within v hv)
      have := hgq.eight
      omega
    have HA := hideE (fun W (h : SlI W od o) => isAll_any od oc o q.parts.length W h hl (by have := hgq.six; omega))
    have HCl := hideE (fun W (h : SlW W vd q.vars) => CloneW_any vd vc q.vars W h hv0 hv8)
    have h6 := hgq.six
    cases ha : isAllB o q.parts.length with
    | false =>
      have hsw : Hid (swapN q o = 3) := by show _ = _; unfold swapN; rw [if_neg (fun h => h hk), ha]; rfl
      have HA2 := hideE (fun W (h : SlI W od o) => (by have := HA.out W h; rw [ha] at this; exact this : Calls Tryz.prog 50 #[.slice od o.length oc, .int .i64 (q.parts.length : Int)] W fun e w' => e = .returned (.bool false) ∧ RowKit.Below W.heap.size W w'))
      rw [hk] at HC
      clear hk hgq hf HA HCl ha
      go_enter Tryz.func19, Tryz.ntmps19
      go_upto_region 1 with fail
      rw [← hW0]
      clear hW0
      obtain ⟨x0, x1, x2, x3, x4, x5⟩ := hX0.out
      go_wp2_with fail
      refine (HC _ (Hq.out.below hB0)).mono ?_
      rintro e w1 ⟨rfl, hb1⟩
      have y1 := (hX0.out.below hb1).c1
      have HA3 := HA2.out w1 (Ho.out.below (bstep hB0 hb1))
      clear x0 x1 x2 x3 x4 x5
      dsimp only
      go_wp2_with fail
      refine HA3.mono ?_
      rintro e w2 ⟨rfl, hb2⟩
      obtain ⟨c0, c1, c2, c3, c4, c5⟩ := (hZ0.out.below hb1).below hb2
      have F2 := (hFZ.out.below hb1 hW2).below hb2 (by have := hb1.size; omega)
      have f0 := F2 0 (by omega)
      have f1 := F2 1 (by omega)
      have f2 := F2 2 (by omega)
      have f3 := F2 3 (by omega)
      have f4 := F2 4 (by omega)
      have f5 := F2 5 (by omega)
      have hB2 := hideE (bstep (bstep hB0 hb1) hb2)
      clear F2 hb2 hb1 hB0 HA3
      dsimp only
      go_wp2_with fail
      refine bodyPost_ret (v := .tuple #[valQ zeroQ none 0 none 0, errV 3]) (by unfold results; rw [Tryz.results19]; go_simp; exact ⟨rfl, rfl⟩) rfl (HQ.out _ _ (SwapAns.bad ?_ hsw.out (by decide)))
      exact (((((hB2.out.setCell (p := ⟨w.heap.size + 1, 0, none⟩) (by simp) _).setCell (p := ⟨w.heap.size + 1, 1, none⟩) (by simp) _).setCell (p := ⟨w.heap.size + 1, 2, none⟩) (by simp) _).setCell (p := ⟨w.heap.size + 1, 3, none⟩) (by simp) _).setCell (p := ⟨w.heap.size + 1, 4, none⟩) (by simp) _).setCell (p := ⟨w.heap.size + 1, 5, none⟩) (by simp) _
    | true =>
      have hsw : Hid (swapN q o = 0) := by show _ = _; unfold swapN; rw [if_neg (fun h => h hk), ha]; rfl
      have HA2 := hideE (fun W (h : SlI W od o) => (by have := HA.out W h; rw [ha] at this; exact this : Calls Tryz.prog 50 #[.slice od o.length oc, .int .i64 (q.parts.length : Int)] W fun e w' => e = .returned (.bool true) ∧ RowKit.Below W.heap.size W w'))
      have hper := isAll_perm.1 ha
      have hon : o.length = q.parts.length := by have := hper.length_eq; simpa [placesI] using this
      have hoi : Hid (∀ x ∈ o, 0 ≤ x ∧ x < (q.parts.length : Int)) := fun x hx => placesI_mem.1 (hper.mem_iff.1 hx)
      rw [hk] at HC
      have Hf := hideE hf
      obtain ⟨L, hL⟩ : ∃ L, L = (swapQ q o).parts := ⟨_, rfl⟩
      have HL := hideE hL
      have hLl : Hid (L.length = o.length) := by show _ = _; rw [hL]; simp [swapQ]
      have hLk : Hid (∀ k (hk : k < o.length) (hk2 : k < L.length) (i : Nat) (hi : i < q.parts.length), o[k] = (i : Int) → q.parts[i] = L[k]) := fun k hk hk2 i hi e => by
        simp only [hL, swapQ, List.getElem_map, e, Int.toNat_natCast, List.getD_eq_getElem?_getD, List.getElem?_eq_getElem hi, Option.getD_some]
      obtain ⟨n, hnn⟩ : ∃ n, n = o.length := ⟨_, rfl⟩
      have Hnn := hideE hnn
      obtain ⟨np, hnp⟩ : ∃ n, n = q.parts.length := ⟨_, rfl⟩
      have Hnp := hideE hnp
      obtain ⟨nv, hnv⟩ : ∃ n, n = q.vars.length := ⟨_, rfl⟩
      have Hnv := hideE hnv
      have hnnp : n ≤ np ∧ np ≤ n := by omega
      have hpos : Hid (0 < q.parts.length) := List.length_pos_iff.2 hgq.some
      have hnpo : Hid (q.parts.length = n) := by show _ = _; omega
      have hn6 : n ≤ 6 := by omega
      have hmk := fun W => makePts n W (by omega)
      rw [← hnn] at hl ⊢
      rw [← hnp, ← hnn] at HA2
      have hR0 := fun W => rowV_made W n
      have HCl2 := hideE HCl.out
      clear hk hgq hf HA HCl ha hper hon hL h6 hnn hnp hnv
      go_enter Tryz.func19, Tryz.ntmps19
      go_upto_region 1 with fail
      rw [← hW0]
      clear hW0
      obtain ⟨x0, x1, x2, x3, x4, x5⟩ := hX0.out
      go_wp2_with fail
      refine (HC _ (Hq.out.below hB0)).mono ?_
      rintro e w1 ⟨rfl, hb1⟩
      have y1 := (hX0.out.below hb1).c1
      rw [← Hnp.out] at y1
      have HA3 := HA2.out w1 (Ho.out.below (bstep hB0 hb1))
      clear x0 x1 x2 x3 x4 x5
      dsimp only
      go_wp2_with fail
      refine HA3.mono ?_
      rintro e w2 ⟨rfl, hb2⟩
      have hZ2 := hideE ((hZ0.out.below hb1).below hb2)
      have hX2 := hideE ((hX0.out.below hb1).below hb2)
      have hs1 := hb1.size
      have hs2 := hb2.size
      have FZ2 := hideE ((hFZ.out.below hb1 hW2).below hb2 (by omega))
      have FX2 := hideE ((hFX.out.below hb1 (by omega)).below hb2 (by omega))
      have hB2 := hideE (bstep (bstep hB0 hb1) hb2)
      have hz2 : w.heap.size + 1 < w2.heap.size := by omega
      have Hmade := hideE (hR0 w2)
      clear hb2 hb1 hB0 HA3 hs1 hs2 hW2 hR0 HA2 HC y1 hX0 hZ0 hFX hFZ
      dsimp only
      obtain ⟨W3, hW3⟩ : ∃ W3, W3 = w2.alloc (.cells (madeCells (encPt patZero).toArray (n * 12)) 32) := ⟨_, rfl⟩
      have hmk2 := hmk w2
      rw [← hW3] at hmk2 Hmade
      have hB3 : RowKit.Below w2.heap.size w2 W3 := by rw [hW3]; exact balloc _ _
      have hRow0 := hideE (show RowV W3 w2.heap.size (rowPk L 0) by rw [rowPk_zero, hLl.out, ← Hnn.out]; exact Hmade.out)
      have hz3 : w2.heap.size < W3.heap.size := by rw [hW3]; simp
      clear hmk hW3 Hmade
      go_wp2_with fail
      clear hmk2
      go_loopw [29] (fun i wr => ∃ k : Nat, k ≤ n ∧ i = .int .i64 k ∧ Hid (RowV wr w2.heap.size (rowPk L k)) ∧ RowKit.Below w2.heap.size w2 wr) (fun i wr => n - (intOf i).toNat)
      case atStart => exact ⟨0, Nat.zero_le _, rfl, hRow0.out, hB3⟩
      case round =>
        clear hRow0 hB3
        obtain ⟨k, hk, rfl, hR, hbr⟩ := hrel
        have hzr := hbr.size
        by_cases hlt : k < n
        · have hko : k < o.length := by rw [← Hnn.out]; exact hlt
          have hkL : k < L.length := by rw [hLl.out]; exact hko
          obtain ⟨ob, oo, rfl, hoc⟩ := ((Ho.out.below hB2.out).below hbr).at hko
          have hran := hoi.out o[k] (List.getElem_mem hko)
          obtain ⟨i, hi⟩ : ∃ i : Nat, o[k] = (i : Int) := ⟨o[k].toNat, by omega⟩
          have hip : i < q.parts.length := by omega
          have hxe := hLk.out k hko hkL i hip hi
          obtain ⟨pb, po, rfl, hr0⟩ := ((Hq.out.below hB2.out).parts.below hbr).at i hip
          have hr := hr0.at i hip
          have hnext := hideE (rowPk_next hR.out hkL q.parts[i] hxe)
          rw [hi] at hoc
          have k1 := (hX2.out.below hbr).c1
          rw [← Hnp.out] at k1
          have hrl : (rowPk L k).length = n * 12 := by
            have := hLl.out
            have := Hnn.out
            simp only [rowPk, List.length_append, cellsPt_len, List.length_take, List.length_replicate]
            omega
          have i0 : (0 : Int) ≤ (i : Int) := by omega
          have i1 : (i : Int) < (np : Int) := by have := Hnp.out; omega
          have j0 : (0 : Int) ≤ (k : Int) := by omega
          have j1 : (k : Int) < (n : Int) := by omega
          have t1 : decide ((k : Int) < (n : Int)) = true := by simp; omega
          generalize q.parts[i] = x at *
          have c0 := hr 0 _ rfl
          obtain ⟨u0, d0⟩ : ∃ u, wr.cell? ⟨w2.heap.size, k * 12, none⟩ = some u := ⟨_, hR.out.at_ (k * 12) _ (List.getElem?_eq_getElem (by omega))⟩
          have f0 := hR.out.free (k * 12) (by omega)
          have c1 := hr 1 _ rfl
          obtain ⟨u1, d1⟩ : ∃ u, wr.cell? ⟨w2.heap.size, k * 12 + 1, none⟩ = some u := ⟨_, hR.out.at_ (k * 12 + 1) _ (List.getElem?_eq_getElem (by omega))⟩
          have f1 := hR.out.free (k * 12 + 1) (by omega)
          have c2 := hr 2 _ rfl
          obtain ⟨u2, d2⟩ : ∃ u, wr.cell? ⟨w2.heap.size, k * 12 + 2, none⟩ = some u := ⟨_, hR.out.at_ (k * 12 + 2) _ (List.getElem?_eq_getElem (by omega))⟩
          have f2 := hR.out.free (k * 12 + 2) (by omega)
          have c3 := hr 3 _ rfl
          obtain ⟨u3, d3⟩ : ∃ u, wr.cell? ⟨w2.heap.size, k * 12 + 3, none⟩ = some u := ⟨_, hR.out.at_ (k * 12 + 3) _ (List.getElem?_eq_getElem (by omega))⟩
          have f3 := hR.out.free (k * 12 + 3) (by omega)
          have c4 := hr 4 _ rfl
          obtain ⟨u4, d4⟩ : ∃ u, wr.cell? ⟨w2.heap.size, k * 12 + 4, none⟩ = some u := ⟨_, hR.out.at_ (k * 12 + 4) _ (List.getElem?_eq_getElem (by omega))⟩
          have f4 := hR.out.free (k * 12 + 4) (by omega)
          have c5 := hr 5 _ rfl
          obtain ⟨u5, d5⟩ : ∃ u, wr.cell? ⟨w2.heap.size, k * 12 + 5, none⟩ = some u := ⟨_, hR.out.at_ (k * 12 + 5) _ (List.getElem?_eq_getElem (by omega))⟩
          have f5 := hR.out.free (k * 12 + 5) (by omega)
          have c6 := hr 6 _ rfl
          obtain ⟨u6, d6⟩ : ∃ u, wr.cell? ⟨w2.heap.size, k * 12 + 6, none⟩ = some u := ⟨_, hR.out.at_ (k * 12 + 6) _ (List.getElem?_eq_getElem (by omega))⟩
          have f6 := hR.out.free (k * 12 + 6) (by omega)
          have c7 := hr 7 _ rfl
          obtain ⟨u7, d7⟩ : ∃ u, wr.cell? ⟨w2.heap.size, k * 12 + 7, none⟩ = some u := ⟨_, hR.out.at_ (k * 12 + 7) _ (List.getElem?_eq_getElem (by omega))⟩
          have f7 := hR.out.free (k * 12 + 7) (by omega)
          have c8 := hr 8 _ rfl
          obtain ⟨u8, d8⟩ : ∃ u, wr.cell? ⟨w2.heap.size, k * 12 + 8, none⟩ = some u := ⟨_, hR.out.at_ (k * 12 + 8) _ (List.getElem?_eq_getElem (by omega))⟩
          have f8 := hR.out.free (k * 12 + 8) (by omega)
          have c9 := hr 9 _ rfl
          obtain ⟨u9, d9⟩ : ∃ u, wr.cell? ⟨w2.heap.size, k * 12 + 9, none⟩ = some u := ⟨_, hR.out.at_ (k * 12 + 9) _ (List.getElem?_eq_getElem (by omega))⟩
          have f9 := hR.out.free (k * 12 + 9) (by omega)
          have c10 := hr 10 _ rfl
          obtain ⟨u10, d10⟩ : ∃ u, wr.cell? ⟨w2.heap.size, k * 12 + 10, none⟩ = some u := ⟨_, hR.out.at_ (k * 12 + 10) _ (List.getElem?_eq_getElem (by omega))⟩
          have f10 := hR.out.free (k * 12 + 10) (by omega)
          have c11 := hr 11 _ rfl
          obtain ⟨u11, d11⟩ : ∃ u, wr.cell? ⟨w2.heap.size, k * 12 + 11, none⟩ = some u := ⟨_, hR.out.at_ (k * 12 + 11) _ (List.getElem?_eq_getElem (by omega))⟩
          have f11 := hR.out.free (k * 12 + 11) (by omega)
          rw [Nat.add_zero] at c0
          clear hr hr0 hR hxe hran hi hip hko hkL hrl
          go_wp2_with fail
          go_roundw
          case rel => exact ⟨k + 1, by omega, by go_num, hnext.out, below12 hbr (Nat.le_refl _)⟩
          case measure => simp [intOf]; omega
        · obtain rfl : k = n := by omega
          have t1 : decide ((k : Int) < (k : Int)) = false := by simp
          have hall := hideE (show RowV wr w2.heap.size (cellsPt L) by have := hR.out; rw [show rowPk L k = cellsPt L by rw [Hnn.out, ← hLl.out]; exact rowPk_all L] at this; exact this)
          clear hR
          have hX3 := hX2.out.below hbr
          have hZ3 := hZ2.out.below hbr
          obtain ⟨x0, x1, x2, x3, x4, x5⟩ := hX3
          obtain ⟨z0, z1, z2, z3, z4, z5⟩ := hZ3
          have hvs := hideE ((Hq.out.below hB2.out).vars.below hbr)
          have hB4 := hideE (bstep hB2.out hbr)
          have FZ3 := hideE (FZ2.out.below hbr hz2)
          have FX3 := hideE (FX2.out.below hbr (by omega))
          have hz5 : w.heap.size + 1 < wr.heap.size := by have := hbr.size; omega
          have hz6 : w2.heap.size < wr.heap.size := World.block_lt_of_cell? wr ⟨w2.heap.size, 0, none⟩ (hall.out.at_ 0 _ (List.getElem?_eq_getElem (by rw [cellsPt_len]; have := hLl.out; have := Hnn.out; have := hpos.out; have := hnpo.out; omega)))
          have HC5 := HCl2.out wr hvs.out
          have hwr : Hid (w2.heap.size ≤ wr.heap.size) := hbr.size
          clear hbr
          go_wp2_with fail
          refine HC5.mono ?_
          rintro e w6 ⟨hb6, av, cv, rfl, hsv, hcv, hnv⟩
          have Hsv := hideE hsv
          have Hnv2 := hideE hnv
          have Hcv := hideE hcv
          have y0 := cell_k x0 hb6
          have y1 := cell_k x1 hb6
          have y2 := cell_k x2 hb6
          have y3 := cell_k x3 hb6
          have y4 := cell_k x4 hb6
          have y5 := cell_k x5 hb6
          have q0 := cell_k z0 hb6
          have q1 := cell_k z1 hb6
          have q2 := cell_k z2 hb6
          have q3 := cell_k z3 hb6
          have q4 := cell_k z4 hb6
          have q5 := cell_k z5 hb6
          have F6 := FZ3.out.below hb6 hz5
          have G6 := FX3.out.below hb6 (by omega)
          have f0 := F6 0 (by omega)
          have f1 := F6 1 (by omega)
          have f2 := F6 2 (by omega)
          have f3 := F6 3 (by omega)
          have f4 := F6 4 (by omega)
          have f5 := F6 5 (by omega)
          have g0 := G6 0 (by omega)
          have g1 := G6 1 (by omega)
          have hB6 := hideE (bstep hB4.out hb6)
          have hrow6 := hideE (RowV.sl (hall.out.below hb6))
          have hlow : Hid (∀ b o, av = some ⟨b, o, none⟩ → w.heap.size + 2 ≤ b) := fun b o e => by have := Hnv2.out b o e; have := hwr.out; omega
          clear x0 x1 x2 x3 x4 x5 z0 z1 z2 z3 z4 z5 F6 G6 HC5 hb6 hsv hnv hcv hz5 hz6
          dsimp only
          go_wp2_with fail
          refine bodyPost_ret (v := .tuple #[.agg #[.slice av q.vars.length cv, .slice (some ⟨w2.heap.size, 0, none⟩) k k, .string ⟨q.order.toArray⟩, .bool q.down, .bool q.dist, .int .i64 q.lim], .nilIface]) (by unfold results; rw [Tryz.results19]; go_simp) rfl (HQ.out _ _ ⟨?_, fun h => absurd hsw.out h, fun _ => ⟨av, cv, some ⟨w2.heap.size, 0, none⟩, ?_, ⟨?_, ?_⟩, Hcv.out⟩⟩)
          · exact below8 hB6.out (Nat.le_refl _) (by omega)
          · rw [← Hnn.out]
            have hpl : (swapQ q o).parts.length = k := by rw [← HL.out, hLl.out]; exact Hnn.out.symm
            show _ = Ending.returned (Value.tuple #[.agg #[.slice av q.vars.length cv, .slice (some ⟨w2.heap.size, 0, none⟩) (swapQ q o).parts.length k, .string ⟨q.order.toArray⟩, .bool q.down, .bool q.dist, .int .i64 q.lim], .nilIface])
            rw [hpl]
          · exact slW8 Hsv.out hlow.out
          · show SlPt _ _ (swapQ q o).parts
            rw [← HL.out]
            exact slPt8 hrow6.out (fun b o e => by have e2 : w2.heap.size = b := (by simpa using (congrArg (fun a : Option Addr => a.map Addr.block) e)); omega)
  · have h0 : Hid (swapN q o = askN q) := by show _ = _; unfold swapN; rw [if_pos hk]
    have h1 := hideE hk
    generalize askN q = n1 at *
    have e1 : (n1 == 0) = false := by simpa using hk
    clear hk hf
    go_enter Tryz.func19, Tryz.ntmps19
    go_upto_region 1 with fail
    rw [← hW0]
    clear hW0
    obtain ⟨x0, x1, x2, x3, x4, x5⟩ := hX0.out
    go_wp2_with fail
    refine (HC _ (Hq.out.below hB0)).mono ?_
    rintro e w1 ⟨rfl, hb1⟩
    obtain ⟨c0, c1, c2, c3, c4, c5⟩ := hZ0.out.below hb1
    have F2 := hFZ.out.below hb1 hW2
    have f0 := F2 0 (by omega)
    have f1 := F2 1 (by omega)
    have f2 := F2 2 (by omega)
    have f3 := F2 3 (by omega)
    have f4 := F2 4 (by omega)
    have f5 := F2 5 (by omega)
    have hB2 := hideE (bstep hB0 hb1)
    clear x0 x1 x2 x3 x4 x5 F2 hb1 hB0
    dsimp only
    go_wp2_with fail
    refine bodyPost_ret (v := .tuple #[valQ zeroQ none 0 none 0, errV n1]) (by unfold results; rw [Tryz.results19]; go_simp; rfl) rfl (HQ.out _ _ (SwapAns.bad ?_ h0.out h1.out))
    exact (((((hB2.out.setCell (p := ⟨w.heap.size + 1, 0, none⟩) (by simp) _).setCell (p := ⟨w.heap.size + 1, 1, none⟩) (by simp) _).setCell (p := ⟨w.heap.size + 1, 2, none⟩) (by simp) _).setCell (p := ⟨w.heap.size + 1, 3, none⟩) (by simp) _).setCell (p := ⟨w.heap.size + 1, 4, none⟩) (by simp) _).setCell (p := ⟨w.heap.size + 1, 5, none⟩) (by simp) _
end Go.Proofs.YtcdbcoaiadipjaaGreatDoor
