import Derived.Test.YtenakehnnmencahGreatMA0x9
import Derived.Test.YtenakehnnmencahGreatMA0x4
import Derived.Shelf.SlSortCmp.Whole1
import Derived.Lib.SlicesCompact
import Derived.Test.YtenakehnnmencahGreatMA0x7
import Derived.Test.YtenakehnnmencahGreatMA0x1
import Derived.Laws.EntriesVeiled
import Derived.Shelf.SlGeneric
import Derived.Test.YtenakehnnmencahGreatProg

/- ask.varsFault, ask.Check; slices.ContainsFunc at texts with whatever test. -/
namespace Go.Proofs.YtenakehnnmencahGreat
open Go Go.RowKit Go.Proofs Go.Maps
set_option synthInstance.maxSize 1000

attribute [local go_sem] eql_errV neq_errV guard_errV

/-- what is asked of a test of texts -/
def PredT (g : Nat) (lb : Array Value) (p : List UInt8 → Bool) (w : World) : Prop :=
  ∀ (W : World) (x : List UInt8), RowKit.Below w.heap.size w W → Calls Tryz.prog g (#[.string ⟨x.toArray⟩] ++ lb) W fun e w' => e = .returned (.bool (p x)) ∧ RowKit.Below W.heap.size W w'
theorem anyT_hit {l : List (List UInt8)} {p : List UInt8 → Bool} {k : Nat} (hk : k < l.length) (h : p l[k] = true) : l.any p = true := by
  rw [List.any_eq_true]
  exact ⟨_, List.getElem_mem hk, h⟩
theorem anyT_miss {l : List (List UInt8)} {p : List UInt8 → Bool} (h : ∀ (j : Nat) (hj : j < l.length), p l[j] = false) : l.any p = false := by
  rw [List.any_eq_false]
  intro x hx
  obtain ⟨j, hj, rfl⟩ := List.getElem_of_mem hx
  rw [h j hj]
  simp
set_option maxHeartbeats 4000000 in
set_option maxRecDepth 100000 in
theorem TIndex_any (g : Nat) (lb : Array Value) (p : List UInt8 → Bool) (w : World) (ad : Option Addr) (ca : Nat) (l : List (List UInt8)) (eg : ∀ args w, (callFunc g args).run Tryz.prog w = .ok (.enter g args) w) (hp : PredT g lb p w) (hs : SlW w ad l) (hl : l.length ≤ 9223372036854775807) :
    Calls Tryz.prog 193 #[.slice ad l.length ca, .func (.func g) #[] lb] w fun e w' => (∃ r : Int, e = .returned (.int .i64 r) ∧ decide (0 ≤ r) = l.any p) ∧ RowKit.Below w.heap.size w w' := by
  have H := hideQ hp
  have HS := hideQ hs
  clear hp hs
  go_enter Tryz.func193, Tryz.ntmps193
  go_wp2_with fail
  go_loopw [8] (fun i wr => ∃ (k : Nat), k ≤ l.length ∧ i = .int .i64 k ∧ RowKit.Below w.heap.size w wr ∧ Hid (∀ (j : Nat) (hj : j < l.length), j < k → p l[j] = false)) (fun i wr => l.length - (intOf i).toNat)
  case atStart => exact ⟨0, Nat.zero_le _, rfl, RowKit.Below.refl _ w, fun j hj h0 => by omega⟩
  case round =>
    obtain ⟨k, hk, rfl, hbr, hall⟩ := hrel
    by_cases hlt : k < l.length
    · obtain ⟨b, o, rfl, hc⟩ := (HS.out.below hbr).at k hlt
      have hcall := H.out wr l[k] hbr
      have i0 : (0 : Int) ≤ (k : Int) := by omega
      have i1 : (k : Int) < (l.length : Int) := by omega
      have HV : Hid (∀ q, p l[k] = q → (q = false → (∀ (j : Nat) (hj : j < l.length), j < k + 1 → p l[j] = false)) ∧ (q = true → l.any p = true)) := by
        intro q hq
        refine ⟨fun e j hj h1 => ?_, fun e => anyT_hit hlt (hq.trans e)⟩
        by_cases ej : j = k
        · subst ej; exact hq.trans e
        · exact hall.out j hj (by omega)
      cases hq : p l[k] with
      | false =>
        rw [hq] at hcall
        have hnext : Hid (∀ (j : Nat) (hj : j < l.length), j < k + 1 → p l[j] = false) := (HV.out _ hq).1 rfl
        clear HV hq hall
        generalize l[k] = z at *
        go_wp2_with (go_at_fn g; refine hcall.mono ?_; rintro e w' ⟨rfl, hb'⟩; dsimp only)
        go_roundw
        case rel => exact ⟨k + 1, by omega, by go_num, bstep hbr hb', hnext⟩
        case measure => simp [intOf]; omega
      | true =>
        rw [hq] at hcall
        have hno2 : Hid (l.any p = true) := (HV.out _ hq).2 rfl
        clear HV hq hall
        generalize l[k] = z at *
        go_wp2_with (go_at_fn g; refine hcall.mono ?_; rintro e w' ⟨rfl, hb'⟩; dsimp only)
        go_ret
        exact ⟨⟨(k : Int), rfl, by rw [hno2.out]; simp⟩, bstep hbr hb'⟩
    · have hkk : k = l.length := by omega
      have hyes : Hid (l.any p = false) := anyT_miss fun j hj => hall.out j hj (by omega)
      subst hkk
      clear hall
      go_wp2_with fail
      go_ret
      exact ⟨⟨-1, rfl, by rw [hyes.out]; rfl⟩, hbr⟩
set_option maxHeartbeats 1000000 in
theorem TContains_any (g : Nat) (lb : Array Value) (p : List UInt8 → Bool) (w : World) (ad : Option Addr) (ca : Nat) (l : List (List UInt8)) (eg : ∀ args w, (callFunc g args).run Tryz.prog w = .ok (.enter g args) w) (hp : PredT g lb p w) (hs : SlW w ad l) (hl : l.length ≤ 9223372036854775807) :
    Calls Tryz.prog 153 #[.slice ad l.length ca, .func (.func g) #[] lb] w fun e w' => e = .returned (.bool (l.any p)) ∧ RowKit.Below w.heap.size w w' := by
  have hc := TIndex_any g lb p w ad ca l eg hp hs hl
  clear hp hs
  generalize l.any p = q at *
  go_enter Tryz.func153, Tryz.ntmps153
  go_wp2_with fail
  refine hc.mono ?_
  rintro e w1 ⟨⟨r, rfl, hr⟩, hb1⟩
  dsimp only
  go_wp2_with fail
  go_ret
  exact ⟨rfl, hb1⟩
theorem vfault1_any (V : List (List UInt8)) (vd : Option Addr) (vc b : Nat) (x : List UInt8) (W : World) (hb : W.cell? ⟨b, 0, none⟩ = some (.slice vd V.length vc)) (hs : SlW W vd V) (hl : V.length ≤ 100) :
    Calls Tryz.prog 152 #[.string ⟨x.toArray⟩, .pointer (some ⟨b, 0, none⟩)] W fun e w' => e = .returned (.bool (!decide (x ∈ V))) ∧ RowKit.Below W.heap.size W w' := by
  have HC := ContainsW_any vd vc V x W hs (by omega)
  generalize decide (x ∈ V) = d at *
  go_enter Tryz.func152, Tryz.ntmps152
  go_wp2_with fail
  refine HC.mono ?_
  rintro e w1 ⟨rfl, hw1⟩
  subst hw1
  dsimp only
  go_wp2_with fail
  go_ret
  exact ⟨rfl, RowKit.Below.refl _ _⟩
theorem entersVF : ∀ args w, (callFunc 152 args).run Tryz.prog w = .ok (.enter 152 args) w := enters_of Tryz.func152 (by kernel_rfl) rfl
/-- what is wrong with the variables that are told -/
def faultV (T V : List (List UInt8)) : Int := if T = [] then 5 else if (∃ v ∈ T, v ∉ V) then 5 else if ¬ T.Nodup then 7 else 0
theorem any_out {T V : List (List UInt8)} : T.any (fun x => !decide (x ∈ V)) = decide (∃ v ∈ T, v ∉ V) := by
  rw [Bool.eq_iff_iff, List.any_eq_true, decide_eq_true_eq]
  constructor
  · rintro ⟨x, hx, h⟩
    exact ⟨x, hx, by simpa using h⟩
  · rintro ⟨x, hx, h⟩
    exact ⟨x, hx, by simpa using h⟩
set_option maxHeartbeats 4000000 in
set_option maxRecDepth 100000 in
theorem VarsFault_any (T V : List (List UInt8)) (td vd : Option Addr) (tc vc : Nat) (w : World) (hT : SlW w td T) (hV : SlW w vd V) (hl : T.length ≤ 9223372036854775807) (htc : T.length ≤ tc) (hv : V.length ≤ 100) :
    Calls Tryz.prog 104 #[.slice td T.length tc, .slice vd V.length vc] w fun e w' => e = .returned (errV (faultV T V)) ∧ RowKit.Below w.heap.size w w' := by
  obtain ⟨w0, hw0⟩ : ∃ w0, w0 = w.alloc (.cells #[.slice vd V.length vc] 23) := ⟨_, rfl⟩
  have hb0 : RowKit.Below w.heap.size w w0 := by rw [hw0]; exact balloc _ _
  have c0 : w0.cell? ⟨w.heap.size, 0, none⟩ = some (.slice vd V.length vc) := by rw [hw0]; go_simp
  have hT0 := hideQ (hT.below hb0)
  have HC := TContains_any 152 #[.pointer (some ⟨w.heap.size, 0, none⟩)] (fun x => !decide (x ∈ V)) w0 td tc T entersVF (fun W x hW => vfault1_any V vd vc w.heap.size x W ((hW.cell (World.block_lt_of_cell? w0 _ c0)).trans c0) ((hV.below hb0).below hW) hv) hT0.out hl
  rw [any_out] at HC
  have HW := hideQ hw0
  have hF : Hid (faultV T V = if T = [] then 5 else if (∃ v ∈ T, v ∉ V) then 5 else if ¬ T.Nodup then 7 else 0) := rfl
  clear hw0 hT hV c0
  generalize faultV T V = F at *
  by_cases h0 : T = []
  · have d2 : ((T.length : Int) == 0) = true := by simp [h0]
    have fin : Hid (F = 5) := by show _ = _; rw [hF.out, if_pos h0]
    clear h0 HC
    go_enter Tryz.func104, Tryz.ntmps104
    go_wp2_with fail
    go_ret
    exact ⟨ret_val (by rw [fin.out]; rfl), by rw [← HW.out]; exact hb0⟩
  · have d2 : ((T.length : Int) == 0) = false := by simp; exact h0
    by_cases h1 : ∃ v ∈ T, v ∉ V
    · rw [decide_eq_true h1] at HC
      have fin : Hid (F = 5) := by show _ = _; rw [hF.out, if_neg h0, if_pos h1]
      clear h0 h1
      go_enter Tryz.func104, Tryz.ntmps104
      go_wp2_with fail
      rw [← HW.out]
      refine HC.mono ?_
      rintro e w1 ⟨rfl, hb1⟩
      dsimp only
      go_wp2_with fail
      go_ret
      exact ⟨ret_val (by rw [fin.out]; rfl), bstep hb0 hb1⟩
    · rw [decide_eq_false h1] at HC
      have hF2 : Hid (F = if ¬ T.Nodup then 7 else 0) := by show _ = _; rw [hF.out, if_neg h0, if_neg h1]
      clear h0 h1 hF
      go_enter Tryz.func104, Tryz.ntmps104
      go_wp2_with fail
      rw [← HW.out]
      refine HC.mono ?_
      rintro e w1 ⟨rfl, hb1⟩
      dsimp only
      have hT1 := hideQ (hT0.out.below hb1)
      go_wp2_with fail
      go_loop [20] (fun i => ∃ k : Nat, k ≤ T.length ∧ i = .int .i64 k ∧ Hid ((T.take k).Nodup)) (fun i => T.length - (intOf i).toNat)
      case atStart => exact ⟨0, Nat.zero_le _, rfl, by show List.Nodup _; simp⟩
      case round =>
        obtain ⟨k, hk, rfl, hnd⟩ := hrel
        by_cases hlt : k < T.length
        · obtain ⟨b, off, rfl, ck⟩ := hT1.out.at k hlt
          have i0 : (0 : Int) ≤ (k : Int) := by omega
          have i1 : (k : Int) < (T.length : Int) := by omega
          have i2 : (k : Int) ≤ (tc : Int) := by omega
          have hlen : (T.take k).length = k := by rw [List.length_take]; omega
          have HH := ContainsW_any (some ⟨b, off, none⟩) tc (T.take k) T[k] w1 (hT1.out.take k) (by rw [hlen]; omega)
          rw [hlen] at HH
          cases hd : decide (T[k] ∈ T.take k)
          · rw [hd] at HH
            have hnd2 := hideQ (nodup_take hnd.out hlt (by simpa using hd))
            clear hd hnd hlen
            go_wp2_with fail
            refine HH.mono ?_
            rintro e w3 ⟨rfl, hw3⟩
            subst hw3
            dsimp only
            go_wp2_with fail
            exact ⟨⟨k + 1, by omega, by go_num, hnd2⟩, by simp [intOf]; omega⟩
          · rw [hd] at HH
            have fin : Hid (F = 7) := by show _ = _; rw [hF2.out, if_pos (not_nodup hlt (of_decide_eq_true hd))]
            clear hd hnd hlen
            go_wp2_with fail
            refine HH.mono ?_
            rintro e w3 ⟨rfl, hw3⟩
            subst hw3
            dsimp only
            go_wp2_with fail
            go_ret
            exact ⟨ret_val (by rw [fin.out]; rfl), bstep hb0 hb1⟩
        · obtain rfl : k = T.length := by omega
          have hnd' := hnd.out
          rw [List.take_length] at hnd'
          have fin : Hid (F = 0) := by show _ = _; rw [hF2.out, if_neg (fun h => h hnd')]
          clear hnd hnd'
          go_wp2_with fail
          go_ret
          exact ⟨ret_val (by rw [fin.out]; rfl), bstep hb0 hb1⟩
/-! ### Check -/
theorem ask_vof {q : Qu} (h : vofN q.parts ≠ 0) : askN q = vofN q.parts := by
  unfold vofN at h ⊢
  unfold askN
  by_cases h1 : 6 < q.parts.length
  · rw [if_pos h1, if_pos h1]
  · rw [if_neg h1] at h ⊢
    rw [if_neg h1]
    by_cases h2 : q.parts = []
    · rw [if_pos h2, if_pos h2]
    · rw [if_neg h2] at h ⊢
      rw [if_neg h2]
      by_cases h3 : partsN q.parts ≠ 0
      · rw [if_pos h3, if_pos h3]
      · rw [if_neg h3] at h ⊢
        rw [if_neg h3]
        by_cases h4 : 8 < (partsV [] q.parts).length
        · rw [if_pos h4, if_pos h4]
        · rw [if_neg h4] at h
          exact absurd rfl h
theorem ask_fault {q : Qu} (h : vofN q.parts = 0) : askN q = if faultV q.vars (partsV [] q.parts) ≠ 0 then faultV q.vars (partsV [] q.parts) else askE q := by
  unfold vofN at h
  have h1 : ¬ 6 < q.parts.length := fun k => by rw [if_pos k] at h; cases h
  rw [if_neg h1] at h
  have h2 : ¬ q.parts = [] := fun k => by rw [if_pos k] at h; cases h
  rw [if_neg h2] at h
  have h3 : partsN q.parts = 0 := Classical.byContradiction fun k => by rw [if_pos k] at h; exact k h
  rw [if_neg (fun k => k h3)] at h
  have h4 : ¬ 8 < (partsV [] q.parts).length := fun k => by rw [if_pos k] at h; cases h
  rw [ask_tail h1 h2 h3]
  unfold faultV
  by_cases h5 : q.vars = []
  · rw [if_pos h5, askT_nil h4 h5]; rfl
  · by_cases h6 : ∃ v ∈ q.vars, v ∉ partsV [] q.parts
    · rw [if_neg h5, if_pos h6, askT_out h4 h5 h6]; rfl
    · have h6' : ∀ v ∈ q.vars, v ∈ partsV [] q.parts := fun v hv => Classical.byContradiction fun k => h6 ⟨v, hv, k⟩
      by_cases h7 : q.vars.Nodup
      · have hz : (if ¬ q.vars.Nodup then (7 : Int) else 0) = 0 := if_neg (fun k => k h7)
        rw [if_neg h5, if_neg h6, hz, askT_end h4 h5 h6' h7]
        rfl
      · have hz : (if ¬ q.vars.Nodup then (7 : Int) else 0) = 7 := if_pos h7
        rw [if_neg h5, if_neg h6, hz, askT_twice h4 h5 h6' h7]
        rfl

attribute [local go_sem ↓] eqlEmpty neqEmpty
set_option maxHeartbeats 8000000 in
set_option maxRecDepth 100000 in
theorem CheckO_any (q : Qu) (vd pd : Option Addr) (vc pc : Nat) (w : World) (h : QuIn w q vd pd) (hf : FitQ q) (hvc : q.vars.length ≤ vc) :
    Calls Tryz.prog 64 #[valQ q vd vc pd pc] w fun e w' => e = .returned (errV (askN q)) ∧ RowKit.Below w.heap.size w w' := by
  obtain ⟨w1, hw1⟩ : ∃ w1, w1 = w.alloc (.cells #[.slice vd q.vars.length vc, .slice pd q.parts.length pc, .string ⟨q.order.toArray⟩, .bool q.down, .bool q.dist, .int .i64 q.lim] 26) := ⟨_, rfl⟩
  have hb1 : RowKit.Below w.heap.size w w1 := by rw [hw1]; exact balloc _ _
  have HB : Hid (BoxQ w1 w.heap.size q vd pd vc pc) := by show BoxQ _ _ _ _ _ _ _; rw [hw1]; exact boxQ_new _ _ _ _ _ _
  have Hin := hideQ (h.below hb1)
  have HV := VarsOf_any q.parts pd pc w1 (Hin.out.parts) hf.pt hf.pl
  have HF := fun W V ad cap hW hV hv => VarsFault_any q.vars V vd ad vc cap W (Hin.out.vars.below hW) hV hf.vl hvc hv
  have HO := fun W hW => ContainsW_any vd vc q.vars q.order W (Hin.out.vars.below hW) hf.vl
  have hN1 := hideQ (fun h => ask_vof (q := q) h)
  have hN2 := hideQ (fun h => ask_fault (q := q) h)
  have hE : Hid (askE q = if q.order ≠ [] ∧ q.order ∉ q.vars then 5 else if q.down = true ∧ q.order = [] then 3 else if q.lim < -1 ∨ 500 < q.lim then 1 else 0) := rfl
  have HW := hideQ hw1
  unfold valQ
  clear h hf hw1
  unfold VofAns at HV
  generalize askN q = N at *
  generalize askE q = E at *
  generalize vofN q.parts = vn at *
  go_enter Tryz.func64, Tryz.ntmps64
  go_upto_region 1 with fail
  rw [← HW.out]
  obtain ⟨c0, c1, c2, c3, c4, c5⟩ := HB.out
  go_wp2_with fail
  refine HV.mono ?_
  rintro e w2 ⟨m, ad, cap, rfl, hm, hml, hme, hb2⟩
  dsimp only
  clear HV c0 c1 c2 c3 c4 c5
  by_cases h0 : vn = 0
  · subst h0
    have em := hme rfl
    have HFW := HF w2 m ad cap hb2 hm hml
    have hN3 := hideQ (hN2.out rfl)
    rw [← em] at hN3
    obtain ⟨c0, c1, c2, c3, c4, c5⟩ := HB.out.below hb2
    clear HF hme em hN1 hN2
    generalize faultV q.vars m = fn at *
    go_wp2_with fail
    refine HFW.mono ?_
    rintro e w3 ⟨rfl, hb3⟩
    dsimp only
    clear c0 c1 c2 c3 c4 c5 HFW
    by_cases h1 : fn = 0
    · subst h1
      have hN4 : Hid (N = E) := by show _ = _; rw [hN3.out]; rfl
      have hB3 := bstep hb2 hb3
      obtain ⟨c0, c1, c2, c3, c4, c5⟩ := HB.out.below hB3
      have HC := HO w3 hB3
      have hBB := bstep hb1 hB3
      clear HO hN3
      cases ho : q.order.isEmpty with
      | true =>
        have ho' : q.order = [] := by simpa using ho
        have e1 : Hid (E = if q.down = true then 3 else if q.lim < -1 ∨ 500 < q.lim then 1 else 0) := by show _ = _; rw [hE.out, if_neg (fun k => k.1 ho')]; simp [ho']
        clear hE HC ho'
        cases hd : q.down with
        | true =>
          have fin : Hid (N = 3) := by show _ = _; rw [hN4.out, e1.out, if_pos hd]
          rw [hd] at c3
          go_wp2_with fail
          go_ret
          exact ⟨ret_val (by rw [fin.out]; rfl), hBB⟩
        | false =>
          have e2 : Hid (E = if q.lim < -1 ∨ 500 < q.lim then 1 else 0) := by show _ = _; rw [e1.out, if_neg (by rw [hd]; simp)]
          rw [hd] at c3
          clear e1
          by_cases l1 : q.lim < -1
          · have dl : decide (q.lim < -1) = true := by simpa using l1
            have fin : Hid (N = 1) := by show _ = _; rw [hN4.out, e2.out, if_pos (Or.inl l1)]
            clear l1
            go_wp2_with fail
            go_ret
            exact ⟨ret_val (by rw [fin.out]; rfl), hBB⟩
          · have dl : decide (q.lim < -1) = false := by simpa using l1
            by_cases l2 : 500 < q.lim
            · have dm : decide (q.lim > 500) = true := by simpa using l2
              have fin : Hid (N = 1) := by show _ = _; rw [hN4.out, e2.out, if_pos (Or.inr l2)]
              clear l1 l2
              go_wp2_with fail
              go_ret
              exact ⟨ret_val (by rw [fin.out]; rfl), hBB⟩
            · have dm : decide (q.lim > 500) = false := by simpa using l2
              have fin : Hid (N = 0) := by show _ = _; rw [hN4.out, e2.out, if_neg (by omega)]
              clear l1 l2
              go_wp2_with fail
              go_ret
              exact ⟨ret_val (by rw [fin.out]; rfl), hBB⟩
      | false =>
        have ho' : q.order ≠ [] := by simpa using ho
        cases hm2 : decide (q.order ∈ q.vars) with
        | false =>
          have fin : Hid (N = 5) := by show _ = _; rw [hN4.out, hE.out, if_pos ⟨ho', by simpa using hm2⟩]
          rw [hm2] at HC
          clear ho' hm2 hE
          go_wp2_with fail
          refine HC.mono ?_
          rintro e w4 ⟨rfl, hw4⟩
          subst hw4
          dsimp only
          go_wp2_with fail
          go_ret
          exact ⟨ret_val (by rw [fin.out]; rfl), hBB⟩
        | true =>
          have e2 : Hid (E = if q.lim < -1 ∨ 500 < q.lim then 1 else 0) := by show _ = _; rw [hE.out, if_neg (fun k => k.2 (of_decide_eq_true hm2)), if_neg (fun k => ho' k.2)]
          rw [hm2] at HC
          clear ho' hm2 hE
          go_wp2_with fail
          refine HC.mono ?_
          rintro e w4 ⟨rfl, hw4⟩
          subst hw4
          dsimp only
          by_cases l1 : q.lim < -1
          · have dl : decide (q.lim < -1) = true := by simpa using l1
            have fin : Hid (N = 1) := by show _ = _; rw [hN4.out, e2.out, if_pos (Or.inl l1)]
            clear l1
            cases hd : q.down
            all_goals
              rw [hd] at c3
              go_wp2_with fail
              go_ret
              exact ⟨ret_val (by rw [fin.out]; rfl), hBB⟩
          · have dl : decide (q.lim < -1) = false := by simpa using l1
            by_cases l2 : 500 < q.lim
            · have dm : decide (q.lim > 500) = true := by simpa using l2
              have fin : Hid (N = 1) := by show _ = _; rw [hN4.out, e2.out, if_pos (Or.inr l2)]
              clear l1 l2
              cases hd : q.down
              all_goals
                rw [hd] at c3
                go_wp2_with fail
                go_ret
                exact ⟨ret_val (by rw [fin.out]; rfl), hBB⟩
            · have dm : decide (q.lim > 500) = false := by simpa using l2
              have fin : Hid (N = 0) := by show _ = _; rw [hN4.out, e2.out, if_neg (by omega)]
              clear l1 l2
              cases hd : q.down
              all_goals
                rw [hd] at c3
                go_wp2_with fail
                go_ret
                exact ⟨ret_val (by rw [fin.out]; rfl), hBB⟩
    · have hne : (fn == 0) = false := by simpa using h1
      have hne2 : (fn != 0) = true := by simpa using h1
      have fin : Hid (N = fn) := by show _ = _; rw [hN3.out, if_pos h1]
      clear h1 hN3
      go_wp2_with fail
      go_ret
      exact ⟨ret_val (by rw [fin.out]; rfl), bstep hb1 (bstep hb2 hb3)⟩
  · have hne : (vn == 0) = false := by simpa using h0
    have hne2 : (vn != 0) = true := by simpa using h0
    have fin := hideQ (hN1.out h0)
    clear h0 hN1 hN2 hme
    go_wp2_with fail
    go_ret
    exact ⟨ret_val (by rw [fin.out]; rfl), bstep hb1 hb2⟩
end Go.Proofs.YtenakehnnmencahGreat

/- solve.answersTo: all answers, or what is wrong. -/
namespace Go.Proofs.YtenakehnnmencahGreat
open Go Go.RowKit Go.Proofs Go.Maps
set_option synthInstance.maxSize 1000
attribute [local go_sem] eql_errV neq_errV guard_errV

def AnsTo (S : List Tr) (q : Qu) (w : World) (e : Ending) (w' : World) : Prop := RowKit.Below w.heap.size w w' ∧ (solveN S q ≠ 0 → e = .returned (.tuple #[.slice none 0 0, errV (solveN S q)])) ∧ (solveN S q = 0 → ∃ vars rows ad c, answersL S q.parts = some (vars, rows) ∧ e = .returned (.tuple #[.slice ad rows.length c, .nilIface]) ∧ SlE w' ad 18 (rows.map (boundT vars)))
theorem AnsTo.bad {S : List Tr} {q : Qu} {w w' : World} {n : Int} (hb : RowKit.Below w.heap.size w w') (hn : solveN S q = n) (h0 : n ≠ 0) : AnsTo S q w (.returned (.tuple #[.slice none 0 0, errV n])) w' := ⟨hb, fun _ => by rw [hn], fun h => absurd (hn.symm.trans h) h0⟩
/-- as far as the parts have come -/
structure AnsSt (S : List Tr) (ps : List Pt) (k : Nat) (vars : List (List UInt8)) (rows : List (List Tm)) : Prop where
  ok : AnsOK S (ps.take k) vars rows
  few : rows.length ≤ 500
  same : answersL S ps = answersF S vars rows (ps.drop k)
theorem AnsSt.start (S : List Tr) (ps : List Pt) : AnsSt S ps 0 [] [[]] := ⟨by simpa using AnsOK.start S, by simp, rfl⟩
theorem AnsSt.over {S : List Tr} {ps : List Pt} {k : Nat} {vars : List (List UInt8)} {rows : List (List Tm)} (h : AnsSt S ps k vars rows) (hk : k < ps.length) (h5 : 500 < (stepR S vars ps[k] rows).length) : answersL S ps = none := by
  rw [h.same, List.drop_eq_getElem_cons hk]
  unfold answersF
  rw [if_pos h5]
theorem AnsSt.next {S : List Tr} {ps : List Pt} {k : Nat} {vars : List (List UInt8)} {rows : List (List Tm)} (h : AnsSt S ps k vars rows) (hk : k < ps.length) (h5 : ¬ 500 < (stepR S vars ps[k] rows).length) : AnsSt S ps (k + 1) (vars ++ freshV vars ps[k]) (stepR S vars ps[k] rows) := by
  refine ⟨?_, by omega, ?_⟩
  · rw [List.take_succ_eq_append_getElem hk]
    exact h.ok.step _
  · rw [h.same, List.drop_eq_getElem_cons hk, answers_next h5]
theorem AnsSt.done {S : List Tr} {ps : List Pt} {vars : List (List UInt8)} {rows : List (List Tm)} (h : AnsSt S ps ps.length vars rows) : answersL S ps = some (vars, rows) := by
  rw [h.same, List.drop_length]
  rfl
theorem solveN_s {S : List Tr} {q : Qu} (h : sortedN S ≠ 0) : solveN S q = sortedN S := by unfold solveN; rw [if_pos h]
theorem solveN_a {S : List Tr} {q : Qu} (h : sortedN S = 0) (h2 : askN q ≠ 0) : solveN S q = askN q := by unfold solveN; rw [if_neg (fun k => k h), if_pos h2]
theorem solveN_f {S : List Tr} {q : Qu} (h : sortedN S = 0) (h2 : askN q = 0) (h3 : answersL S q.parts = none) : solveN S q = 4 := by unfold solveN; rw [if_neg (fun k => k h), if_neg (fun k => k h2), h3]; rfl
theorem solveN_z {S : List Tr} {q : Qu} (h : sortedN S = 0) (h2 : askN q = 0) {a : List (List UInt8) × List (List Tm)} (h3 : answersL S q.parts = some a) : solveN S q = 0 := by unfold solveN; rw [if_neg (fun k => k h), if_neg (fun k => k h2), h3]; rfl
theorem slE_one (w : World) : SlE ((w.alloc (.map #[] 0)).alloc (.cells #[.map (some w.heap.size)] 89)) (some ⟨w.heap.size + 1, 0, none⟩) 0 (([[]] : List (List Tm)).map (boundT [])) := fun _ => by
  refine ⟨w.heap.size + 1, 0, rfl, fun j hj => ?_⟩
  obtain rfl : j = 0 := by simpa using hj
  refine ⟨w.heap.size, by go_simp, ?_⟩
  exact ((evAt_made w).below (balloc _ _)).same (fun v _ => rfl)
theorem take_map_le {L : List (List Tm)} {f : List Tm → Ev} (h : ¬ 500 < L.length) : (L.map f).take 501 = L.map f := List.take_of_length_le (by simp; omega)
set_option maxHeartbeats 8000000 in
set_option maxRecDepth 100000 in
theorem answersTo_any (ad : Option Addr) (ca : Nat) (S : List Tr) (q : Qu) (vd pd : Option Addr) (vc pc : Nat) (w : World) (h : SlT w ad S) (hfit : ∀ x ∈ S, fitTr x) (hn : S.length ≤ 9223372036854775807) (hq : QuIn w q vd pd) (hf : FitQ q) (hvc : q.vars.length ≤ vc) :
    Calls Tryz.prog 32 #[.slice ad S.length ca, valQ q vd vc pd pc] w (AnsTo S q w) := by
  have HS := fun W hW => Sorted_any ad ca S W hW hfit hn
  have HC := fun W hW => CheckO_any q vd pd vc pc W hW hf hvc
  have Hh := hideE h
  have Hq := hideE hq
  obtain ⟨Q, hQ⟩ : ∃ Q, Q = AnsTo S q w := ⟨_, rfl⟩
  have HQ : Hid (∀ e w', AnsTo S q w e w' → Q e w') := fun e w' h => by rw [hQ]; exact h
  rw [← hQ]
  clear hQ h hq
  obtain ⟨W0, hW0⟩ : ∃ W0, W0 = w.alloc (.cells #[.slice vd q.vars.length vc, .slice pd q.parts.length pc, .string ⟨q.order.toArray⟩, .bool q.down, .bool q.dist, .int .i64 q.lim] 26) := ⟨_, rfl⟩
  have hB0 : RowKit.Below w.heap.size w W0 := by rw [hW0]; exact balloc _ _
  have hX0 := hideE (show BoxQ W0 w.heap.size q vd pd vc pc by rw [hW0]; exact boxQ_new _ _ _ _ _ _)
  unfold valQ at HC ⊢
  by_cases hs : sortedN S = 0
  · by_cases hk : askN q = 0
    · have hset := sortedN_set.1 hs
      have hgq := ask_good hk
      have h200 : S.length ≤ 200 := hset.1
      have e1 := hideE hs
      have e2 := hideE hk
      have Hset := hideE hset
      have Hgq := hideE hgq
      have Hpt := hideE hf.pt
      have Hfit := hideE hfit
      have hpl : q.parts.length ≤ 6 := hgq.six
      have hmk := makeAns
      rw [hs] at HS
      rw [hk] at HC
      clear hs hk hset hgq hf hfit hn
      go_enter Tryz.func32, Tryz.ntmps32
      go_upto_region 1 with fail
      rw [← hW0]
      clear hW0
      go_wp2_with fail
      refine (HS _ (Hh.out.below hB0)).mono ?_
      rintro e w1 ⟨rfl, hb1⟩
      have hX1 := hX0.out.below hb1
      obtain ⟨c0, c1, c2, c3, c4, c5⟩ := hX1
      have hB1 := bstep hB0 hb1
      dsimp only
      go_wp2_with fail
      refine (HC _ (Hq.out.below hB1)).mono ?_
      rintro e w2 ⟨rfl, hb2⟩
      have hX2 := hideE (hX0.out.below hb1 |>.below hb2)
      have c1b := hX2.out.c1
      have hz2 := World.block_lt_of_cell? w2 _ c1b
      dsimp only at hz2
      have hB2 := bstep hB1 hb2
      have Hq2 := hideE (Hq.out.below hB2)
      have Hh2 := hideE (Hh.out.below hB2)
      have hone := hideE (slE_one w2)
      have hst0 := hideE (AnsSt.start S q.parts)
      clear c0 c1 c2 c3 c4 c5 HC HS hb1 hb2 hB1 hX0 hB0 Hq Hh
      dsimp only
      go_wp2_with fail
      go_loopw [8, 28] (fun va i wr => ∃ (k : Nat) (vars : List (List UInt8)) (rows : List (List Tm)) (ax : Option Addr) (cx : Nat), k ≤ q.parts.length ∧ i = .int .i64 k ∧ va = .slice ax rows.length cx ∧ Hid (AnsSt S q.parts k vars rows) ∧ Hid (SlE wr ax (3 * k) (rows.map (boundT vars))) ∧ RowKit.Below w2.heap.size w2 wr) (fun _ i wr => q.parts.length - (intOf i).toNat)
      case atStart => exact ⟨0, [], [[]], _, _, Nat.zero_le _, rfl, rfl, hst0.out, hone.out, bstep (balloc _ _) (balloc _ _)⟩
      case round =>
        clear hone hst0 hmk
        obtain ⟨k, vars, rows, ax, cx, hk, rfl, rfl, hA, hL, hbr⟩ := hrel
        have hzr := hbr.size
        by_cases hlt : k < q.parts.length
        · have t1 : decide ((k : Int) < (q.parts.length : Int)) = true := by simp; omega
          have i0 : (0 : Int) ≤ (k : Int) := by omega
          have i1 : (k : Int) < (q.parts.length : Int) := by omega
          obtain ⟨b, o, rfl, hr0⟩ := (Hq2.out.parts.below hbr).at k hlt
          have hr := hr0.at k hlt
          have hpk := Hpt.out _ (List.getElem_mem hlt)
          have hvk := Hgq.out.parts _ (List.getElem_mem hlt)
          have hnext := hideE (fun h5 => hA.out.next hlt h5)
          have hover := hideE (fun h5 => hA.out.over hlt h5)
          generalize q.parts[k] = p at *
          have hN : matchN S p = 0 := by unfold matchN; rw [if_pos e1.out]; exact hvk
          have HP := fun W hW => answersToPart_any ad ca S p W hW Hfit.out hpk h200 hN
          have hrl := hA.out.ok.len
          have hshort : ∀ v ∈ varsL p, v.length ≤ maxLen := fun v hv => by
            rcases (varsL_mem.1 hv).2 with h | h | h
            · rw [h]; exact hpk.1.1
            · rw [h]; exact hpk.2.1.1
            · rw [h]; exact hpk.2.2.1
          have hmeet := hideE (fun sh (hsh : SharedE (rows.map (boundT vars)) ((matchP S p).map (evT p)) sh) => meet_step (S := S) (p := p) (sh := sh) hrl (fun h1 h2 => shared_v hrl hshort hsh h1 h2))
          have hM200 : (matchL S p).length ≤ 200 := Nat.le_trans (List.length_filter_le _ _) h200
          have hwa : ∀ f ∈ rows.map (boundT vars), WfE f := fun f hf => by
            obtain ⟨r, hr, rfl⟩ := List.mem_map.1 hf
            exact wfE_bound Hset.out (hA.out.ok.from_ r hr)
          have hwb : ∀ f ∈ (matchL S p).map (evT p), WfE f := fun f hf => by
            obtain ⟨t, ht, rfl⟩ := List.mem_map.1 hf
            exact wfE_evT Hset.out ((List.mem_filter.1 ht).1)
          have hdd : ∀ f ∈ (matchL S p).map (evT p), ∀ v, (f v).isSome = true → v ∈ varsL p := fun f hf v hv => by
            obtain ⟨t, ht, rfl⟩ := List.mem_map.1 hf
            exact Classical.byContradiction fun hn => by rw [evT_none.2 hn] at hv; cases hv
          have HME := fun aa ab ca cb W ha hb => meet_any aa ab ca cb (3 * k) 3 (rows.map (boundT vars)) ((matchL S p).map (evT p)) (varsL p) W ha hb (by simpa using hA.out.few) (by simpa using hM200) (by omega) (by omega) hwa hwb (varsL_few _) hdd
          have HHM := hideE HME
          have hcells := hideE hr
          have c0 := hr 0 _ rfl
          have c1 := hr 1 _ rfl
          have c2 := hr 2 _ rfl
          have c3 := hr 3 _ rfl
          have c4 := hr 4 _ rfl
          have c5 := hr 5 _ rfl
          have c6 := hr 6 _ rfl
          have c7 := hr 7 _ rfl
          have c8 := hr 8 _ rfl
          have c9 := hr 9 _ rfl
          have c10 := hr 10 _ rfl
          have c11 := hr 11 _ rfl
          rw [Nat.add_zero] at c0
          clear hr hr0 hwa hwb hdd HME hcells hrl hshort hN hvk hpk
          unfold valPt at HP
          go_wp2_with fail
          refine (HP _ (Hh2.out.below (bstep hbr (balloc _ _)))).mono ?_
          rintro e w4 ⟨hb4, ab, cb, rfl, hs4⟩
          have hb4' : RowKit.Below wr.heap.size wr w4 := bstep (balloc wr (.cells (encPt p).toArray 34)) hb4
          have HM := HHM.out ax ab cx cb w4 (hL.out.below hb4') hs4
          rw [List.length_map, List.length_map] at HM
          have HB4 := hideE hb4'
          clear hs4 HHM HP hL c0 c1 c2 c3 c4 c5 c6 c7 c8 c9 c10 c11 hb4 hb4'
          dsimp only
          generalize (matchL S p).length = nm at *
          go_wp2_with fail
          refine HM.mono ?_
          rintro e w5 ⟨hb5, sh, ay, cy, L, hsh, hLe, rfl, hs5⟩
          replace hLe : L = List.take 501 (meetE sh (rows.map (boundT vars)) ((matchP S p).map (evT p))) := hLe
          rw [hmeet.out sh hsh] at hLe
          have Hs5 := hideE hs5
          have HLe := hideE hLe
          have hBf := hideE (bstep (hbr.trans (HB4.out.mono hzr)) hb5)
          clear hs5 hLe hsh hb5 HM
          dsimp only
          by_cases h5 : 500 < (stepR S vars p rows).length
          · have hl : L.length = 501 := by rw [HLe.out, List.length_take, List.length_map]; omega
            have hnone := hideE (hover.out h5)
            rw [hl]
            clear hl h5
            go_wp2_with fail
            exact HQ.out _ _ (AnsTo.bad (n := 4) (bstep hB2 hBf.out) (solveN_f e1.out e2.out hnone.out) (by decide))
          · have hL3 : L = (stepR S vars p rows).map (boundT (vars ++ freshV vars p)) := by rw [HLe.out, take_map_le h5]
            have hA2 := hideE (hnext.out h5)
            have hl : L.length = (stepR S vars p rows).length := by rw [hL3]; simp
            have Hs6 := hideE (show SlE w5 ay (3 * (k + 1)) ((stepR S vars p rows).map (boundT (vars ++ freshV vars p))) by rw [← hL3]; exact Hs5.out)
            rw [hl]
            clear hl hL3 HLe Hs5 hnext hover hmeet hA
            generalize stepR S vars p rows = R2 at *
            have t5 : decide ((R2.length : Int) > 500) = false := by simp; omega
            have t6 : decide (500 < (R2.length : Int)) = false := by simp; omega
            go_wp2_with fail
            go_roundw
            case rel => exact ⟨k + 1, _, R2, ay, cy, by omega, by go_num, rfl, hA2.out, Hs6.out, hBf.out⟩
            case measure => simp [intOf]; omega
        · obtain rfl : k = q.parts.length := by omega
          have t1 : decide ((q.parts.length : Int) < (q.parts.length : Int)) = false := by simp
          have hd := hideE hA.out.done
          go_wp2_with fail
          exact HQ.out _ _ ⟨bstep hB2 hbr, fun h => absurd (solveN_z e1.out e2.out hd.out) h, fun _ => ⟨vars, rows, ax, cx, hd.out, rfl, by
            have := hL.out
            exact fun hne => by
              obtain ⟨b, o, e, r⟩ := this hne
              exact ⟨b, o, e, fun j hj => by obtain ⟨bm, c, s⟩ := r j hj; exact ⟨bm, c, s.mono (by omega)⟩⟩⟩⟩
    · have h0 := hideE (solveN_a hs hk)
      have h1 := hideE hk
      generalize askN q = n1 at *
      have e1 : (n1 == 0) = false := by simpa using hk
      rw [hs] at HS
      clear hs hk
      go_enter Tryz.func32, Tryz.ntmps32
      go_upto_region 1 with fail
      rw [← hW0]
      clear hW0
      go_wp2_with fail
      refine (HS _ (Hh.out.below hB0)).mono ?_
      rintro e w1 ⟨rfl, hb1⟩
      obtain ⟨c0, c1, c2, c3, c4, c5⟩ := hX0.out.below hb1
      have hB1 := bstep hB0 hb1
      dsimp only
      go_wp2_with fail
      refine (HC _ (Hq.out.below hB1)).mono ?_
      rintro e w2 ⟨rfl, hb2⟩
      go_wp2_with fail
      exact HQ.out _ _ (AnsTo.bad (bstep hB1 hb2) h0.out h1.out)
  · have h0 := hideE (solveN_s (q := q) hs)
    have h1 := hideE hs
    generalize sortedN S = n1 at *
    have e1 : (n1 == 0) = false := by simpa using hs
    clear hs HC
    go_enter Tryz.func32, Tryz.ntmps32
    go_upto_region 1 with fail
    rw [← hW0]
    clear hW0
    go_wp2_with fail
    refine (HS _ (Hh.out.below hB0)).mono ?_
    rintro e w1 ⟨rfl, hb1⟩
    go_wp2_with fail
    exact HQ.out _ _ (AnsTo.bad (bstep hB0 hb1) h0.out h1.out)
end Go.Proofs.YtenakehnnmencahGreat

/- Rows of terms as the program compares and sorts them, and equal ones once; plain lists, no program. -/
namespace Go.Proofs.YtenakehnnmencahGreat
open Go Go.RowKit Go.Proofs Go.Sort Go.Lib
set_option synthInstance.maxSize 1000
variable {lt : List Tm → List Tm → Bool}
def allQ (n : Nat) : Array (Fin n) := Array.ofFn fun i => i
theorem allQ_size (n : Nat) : (allQ n).size = n := by simp [allQ]
/-! ### as the program compares -/
def cmpF : List Tm → List Tm → Int
  | [], [] => 0
  | [], _ :: _ => -1
  | _ :: _, [] => 1
  | x :: a, y :: b => if cmpTm x y = 0 then cmpF a b else cmpTm x y
theorem cmpF_less : ∀ (a b : List Tm), a.length = b.length → decide (cmpF a b < 0) = lessR a b
  | [], [], _ => rfl
  | [], y :: b, h => by simp at h
  | x :: a, [], h => by simp at h
  | x :: a, y :: b, h => by
    unfold cmpF lessR
    by_cases e : cmpTm x y = 0
    · rw [if_pos e, if_pos e]; exact cmpF_less a b (by simpa using h)
    · rw [if_neg e, if_neg e]
def cmpQ (i : Option Nat) (down : Bool) (a b : List Tm) : Int := match i with
  | none => cmpF a b
  | some i => if cmpTm (a.getD i tmZero) (b.getD i tmZero) = 0 then cmpF a b else if down = true then - cmpTm (a.getD i tmZero) (b.getD i tmZero) else cmpTm (a.getD i tmZero) (b.getD i tmZero)
theorem cmpQ_ahead (i : Option Nat) (down : Bool) (a b : List Tm) (h : a.length = b.length) : decide (cmpQ i down a b < 0) = aheadB i down a b := by
  have hl := cmpF_less a b h
  unfold cmpQ aheadB byC
  cases i with
  | none => simp [hl]
  | some i =>
    generalize hc : cmpTm (a.getD i tmZero) (b.getD i tmZero) = c
    simp only [hc]
    by_cases e : c = 0
    · subst e
      cases down <;> simp [hl]
    · have e' : ¬ -c = 0 := by omega
      cases down <;> simp [e, e']
theorem swoQ (i : Option Nat) (down : Bool) {k : Nat} (o : OrdR (aheadB i down) k) (L : List (List Tm)) (hL : LenR k L) : SWO (ltOf fun (x y : Fin L.length) => cmpQ i down L[x] L[y]) := by
  have e : ∀ x y : Fin L.length, ltOf (fun (x y : Fin L.length) => cmpQ i down L[x] L[y]) x y = aheadB i down L[x] L[y] := fun x y => cmpQ_ahead i down _ _ ((hL _ (List.getElem_mem x.isLt)).trans (hL _ (List.getElem_mem y.isLt)).symm)
  refine ⟨fun x => by rw [e]; exact o.irr _, fun x y z h1 h2 => ?_, fun x y z h1 h2 => ?_⟩
  · rw [e] at h1 h2 ⊢; exact o.trans h1 h2
  · rw [e] at h1 h2 ⊢
    exact o.back (hL _ (List.getElem_mem z.isLt)) (hL _ (List.getElem_mem y.isLt)) h2 h1
theorem allQ_map (L : List (List Tm)) : (allQ L.length).toList.map (fun i => L[i]) = L := by
  apply List.ext_getElem
  · simp [allQ]
  · intro i h1 h2
    simp [allQ]
theorem sorted_rows (i : Option Nat) (down : Bool) {k : Nat} (o : OrdR (aheadB i down) k) (L : List (List Tm)) (hL : LenR k L) [Inhabited (Fin L.length)] {d' : Array (Fin L.length)} (hp : PermIn 0 (allQ L.length).size (allQ L.length) d')
    (hs : SortedIn (ltOf fun (x y : Fin L.length) => cmpQ i down L[x] L[y]) 0 (allQ L.length).size d') : d'.size = L.length ∧ d'.toList.map (fun j => L[j]) = sortR (aheadB i down) false L := by
  rw [allQ_size] at hp hs
  have hsz : d'.size = L.length := by rw [hp.1, allQ_size]
  have e : ∀ x y : Fin L.length, ltOf (fun (x y : Fin L.length) => cmpQ i down L[x] L[y]) x y = aheadB i down L[x] L[y] := fun x y => cmpQ_ahead i down _ _ ((hL _ (List.getElem_mem x.isLt)).trans (hL _ (List.getElem_mem y.isLt)).symm)
  refine ⟨hsz, sortR_all o hL ?_ ?_⟩
  · refine List.pairwise_iff_getElem.2 ?_
    intro a b ha hb hab
    have ha' : a < d'.size := by simpa using ha
    have hb' : b < d'.size := by simpa using hb
    have h1 := hs a b (Nat.zero_le _) hab (by omega)
    rw [getElem!_pos d' a ha', getElem!_pos d' b hb', e] at h1
    simpa using h1
  · have h := hp.2.2
    have q : ∀ (a : Array (Fin L.length)), a.size = L.length → (a.extract 0 L.length).toList = a.toList := fun a ha => by
      rw [Array.toList_extract]
      simp [List.take_of_length_le (show a.toList.length ≤ L.length by simp [ha])]
    rw [q d' hsz, q _ (allQ_size _)] at h
    have h2 := h.map (fun i : Fin L.length => L[i])
    rwa [allQ_map] at h2
/-- a sorted list, neighbours that are equal once -/
theorem compQ_mem {l : List (List Tm)} {x : List Tm} : x ∈ compact l ↔ x ∈ l := by
  unfold compact compactUpTo
  simp only [List.mem_map, List.mem_filter, List.mem_range]
  constructor
  · rintro ⟨j, ⟨hj, _⟩, rfl⟩
    rw [getElem!_pos l.toArray j (by simpa using hj)]
    simp
  · intro h
    have key : ∀ j, j < l.length → ∃ a, (a < l.length ∧ keeps l.toArray a = true) ∧ l.toArray[a]! = l.toArray[j]! := by
      intro j
      induction j with
      | zero => exact fun h0 => ⟨0, ⟨h0, by simp [keeps]⟩, rfl⟩
      | succ m ih =>
        intro hm
        by_cases hk : keeps l.toArray (m + 1) = true
        · exact ⟨m + 1, ⟨hm, hk⟩, rfl⟩
        · obtain ⟨a, ha, e⟩ := ih (by omega)
          refine ⟨a, ha, e.trans ?_⟩
          simp only [keeps, decide_eq_true_eq, not_or] at hk
          have h2 : l.toArray[m + 1]! = l.toArray[m + 1 - 1]! := Classical.byContradiction hk.2
          exact h2.symm
    obtain ⟨j, hj, rfl⟩ := List.getElem_of_mem h
    obtain ⟨a, ha, e⟩ := key j hj
    refine ⟨a, ha, e.trans ?_⟩
    rw [getElem!_pos l.toArray j (by simpa using hj)]
    simp
theorem comp_sorted {l : List (List Tm)} {k : Nat} (o : OrdR lt k) (hL : LenR k l) (h : SortedR lt l) : SortedR lt (compact l) ∧ (compact l).Nodup := by
  have h' := List.pairwise_iff_getElem.1 h
  have le : ∀ a b, a ≤ b → b < l.length → lt l.toArray[b]! l.toArray[a]! = false := fun a b hab hb => by
    rw [getElem!_pos l.toArray a (by simp; omega), getElem!_pos l.toArray b (by simpa using hb)]
    rcases Nat.lt_or_ge a b with h1 | h1
    · simpa using h' a b (by omega) hb h1
    · have : a = b := by omega
      subst this
      exact o.irr _
  have hlen : ∀ a, a < l.length → (l.toArray[a]!).length = k := fun a ha => by
    rw [getElem!_pos l.toArray a (by simpa using ha)]
    exact hL _ (by simp)
  have hpw : ((List.range l.length).filter (keeps l.toArray)).Pairwise fun a b => a < b ∧ b < l.length ∧ keeps l.toArray b = true := by
    have h1 : (List.range l.length).Pairwise fun a b => a < b := List.pairwise_lt_range
    have h2 := h1.filter (keeps l.toArray)
    refine h2.imp_of_mem ?_
    intro a b _ hb hab
    rw [List.mem_filter, List.mem_range] at hb
    exact ⟨hab, hb⟩
  constructor
  · unfold SortedR compact compactUpTo
    rw [List.pairwise_map]
    exact hpw.imp (fun {a b} hh => le a b (by omega) hh.2.1)
  · unfold List.Nodup compact compactUpTo
    rw [List.pairwise_map]
    refine hpw.imp (fun {a b} hh => ?_)
    obtain ⟨hab, hb, hk⟩ := hh
    intro e
    simp only [keeps, decide_eq_true_eq] at hk
    have hne : l.toArray[b]! ≠ l.toArray[b - 1]! := by
      rcases hk with h0 | h0
      · omega
      · exact h0
    refine hne (o.total (hlen b hb) (hlen (b - 1) (by omega)) (le (b - 1) b (by omega) hb) ?_)
    rw [← e]
    exact le a (b - 1) (by omega) (by omega)
theorem comp_sort {k : Nat} (o : OrdR lt k) {rows : List (List Tm)} (hL : LenR k rows) (hs : SortedR lt (sortR lt false rows)) : compact (sortR lt false rows) = sortR lt true rows := by
  have hL2 : LenR k (sortR lt false rows) := fun x hx => hL x (sort_mem.1 hx)
  obtain ⟨h1, h2⟩ := comp_sorted o hL2 hs
  exact sortR_once o hL h1 h2 (fun x => by rw [compQ_mem, sort_mem])
end Go.Proofs.YtenakehnnmencahGreat

/- Rows of terms compared: slices.CompareFunc with term.Compare, slices.Equal, and solve.ordering. -/
namespace Go.Proofs.YtenakehnnmencahGreat
open Go Go.RowKit Go.Proofs Go.Maps Go.Sort
set_option synthInstance.maxSize 1000
attribute [local go_sem ↓] neqTerm eqlTerm

theorem enters71 : ∀ args w, (callFunc 71 args).run Tryz.prog w = .ok (.enter 71 args) w := enters_of Tryz.func71 (by kernel_rfl) rfl
theorem cmpF_at {a b : List Tm} {k : Nat} (h1 : k < a.length) (h2 : k < b.length) : cmpF (a.drop k) (b.drop k) = if cmpTm a[k] b[k] = 0 then cmpF (a.drop (k + 1)) (b.drop (k + 1)) else cmpTm a[k] b[k] := by
  rw [List.drop_eq_getElem_cons h1, List.drop_eq_getElem_cons h2, cmpF]
theorem SlQ.grew {w w' : World} {ad : Option Addr} {l : List Tm} (h : SlQ w ad l) (hg : Grew w w') : SlQ w' ad l := h.below hg.below
set_option maxHeartbeats 4000000 in
set_option maxRecDepth 100000 in
theorem CompareQ_any (ad bd : Option Addr) (ca cb : Nat) (a b : List Tm) (w : World) (ha : SlQ w ad a) (hb : SlQ w bd b) (la : a.length ≤ 1000000) :
    Calls Tryz.prog 70 #[.slice ad a.length ca, .slice bd b.length cb, .func (.func 71) #[] #[]] w fun e w' => e = .returned (.int .i64 (cmpF a b)) ∧ Grew w w' := by
  have HA := hideE ha
  have HB := hideE hb
  have eg := enters71
  obtain ⟨R, hR⟩ : ∃ R, R = cmpF a b := ⟨_, rfl⟩
  have HR := hideE hR
  rw [← hR]
  clear ha hb hR
  go_enter Tryz.func70, Tryz.ntmps70
  go_wp2_with fail
  go_loopw [13] (fun i wr => ∃ k : Nat, k ≤ a.length ∧ k ≤ b.length ∧ i = .int .i64 k ∧ Hid (R = cmpF (a.drop k) (b.drop k)) ∧ Grew w wr) (fun i wr => a.length - (intOf i).toNat)
  case atStart => exact ⟨0, Nat.zero_le _, Nat.zero_le _, rfl, HR.out, Grew.refl _⟩
  case round =>
    obtain ⟨k, hk, hkb, rfl, hC, hg⟩ := hrel
    by_cases h1 : k < a.length
    · have t1 : decide ((k : Int) < (a.length : Int)) = true := by simp; omega
      have i0 : (0 : Int) ≤ (k : Int) := by omega
      have i1 : (k : Int) < (a.length : Int) := by omega
      obtain ⟨g, o, rfl, c0, c1, c2⟩ := (HA.out.grew hg).at k h1
      by_cases h2 : k < b.length
      · have t2 : decide ((k : Int) ≥ (b.length : Int)) = false := by simp; omega
        have i2 : (k : Int) < (b.length : Int) := by omega
        obtain ⟨g', o', rfl, d0, d1, d2⟩ := (HB.out.grew hg).at k h2
        have hC2 := hC.out
        rw [cmpF_at h1 h2] at hC2
        have HC2 := hideE hC2
        have HK := fun W => Compare_grew a[k].1 a[k].2.1 a[k].2.2 b[k].1 b[k].2.1 b[k].2.2 W
        have hdef := hideE (show cmpT a[k].1 a[k].2.1 a[k].2.2 b[k].1 b[k].2.1 b[k].2.2 = cmpTm a[k] b[k] from rfl)
        clear hC hC2
        generalize cmpT a[k].1 a[k].2.1 a[k].2.2 b[k].1 b[k].2.1 b[k].2.2 = cc at *
        generalize a[k] = x at *
        generalize b[k] = y at *
        have z1 := World.block_lt_of_cell? wr _ d0
        dsimp only at z1
        by_cases hcc : cc = 0
        · have t3 : (cc != 0) = false := by simp [hcc]
          have hR2 := hideE (show R = cmpF (a.drop (k + 1)) (b.drop (k + 1)) by rw [HC2.out, if_pos (by rw [← hdef.out]; exact hcc)])
          go_wp2_with fail
          go_at_fn 71
          refine (HK _).mono ?_
          rintro e w2 ⟨rfl, hg2⟩
          dsimp only
          go_wp2_with fail
          go_roundw
          case rel => exact ⟨k + 1, by omega, by omega, by go_num, hR2.out, ((hg.trans (grew_alloc _ _)).trans (grew_alloc _ _)).trans hg2⟩
          case measure => simp [intOf]; omega
        · have t3 : (cc != 0) = true := by simp [hcc]
          have hR2 := hideE (show R = cc by rw [HC2.out, if_neg (by rw [← hdef.out]; exact hcc), ← hdef.out])
          go_wp2_with fail
          go_at_fn 71
          refine (HK _).mono ?_
          rintro e w2 ⟨rfl, hg2⟩
          dsimp only
          go_wp2_with fail
          go_ret
          exact ⟨by rw [hR2.out]; rfl, ((hg.trans (grew_alloc _ _)).trans (grew_alloc _ _)).trans hg2⟩
      · have t2 : decide ((k : Int) ≥ (b.length : Int)) = true := by simp; omega
        have hR2 := hideE (show R = 1 by rw [hC.out, List.drop_eq_getElem_cons h1, List.drop_eq_nil_of_le (show b.length ≤ k by omega), cmpF])
        go_wp2_with fail
        go_ret
        exact ⟨by rw [hR2.out]; rfl, hg.trans (grew_alloc _ _)⟩
    · obtain rfl : k = a.length := by omega
      have t1 : decide ((a.length : Int) < (a.length : Int)) = false := by simp
      by_cases h2 : a.length < b.length
      · have t2 : decide ((a.length : Int) < (b.length : Int)) = true := by simp; omega
        have hR2 := hideE (show R = -1 by rw [hC.out, List.drop_eq_nil_of_le (Nat.le_refl _), List.drop_eq_getElem_cons h2, cmpF])
        go_wp2_with fail
        go_ret
        exact ⟨by rw [hR2.out]; rfl, hg⟩
      · have t2 : decide ((a.length : Int) < (b.length : Int)) = false := by simp; omega
        have hR2 := hideE (show R = 0 by rw [hC.out, List.drop_eq_nil_of_le (Nat.le_refl _), List.drop_eq_nil_of_le (by omega), cmpF])
        go_wp2_with fail
        go_ret
        exact ⟨by rw [hR2.out]; rfl, hg⟩
end Go.Proofs.YtenakehnnmencahGreat

/- solve.ordering and its closures; slices.Index at texts; slices.Equal at terms. -/
namespace Go.Proofs.YtenakehnnmencahGreat
open Go Go.RowKit Go.Proofs Go.Maps Go.Sort
set_option synthInstance.maxSize 1000
attribute [local go_sem ↓] neqTerm eqlTerm

def idxW (o : Option Nat) : Int := match o with
  | some i => (i : Int)
  | none => -1
theorem idx_leW (x : List UInt8) : ∀ (l : List (List UInt8)) (j : Nat) (h : j < l.length), l[j] = x → l.idxOf x ≤ j
  | [], j, h, _ => by simp at h
  | c :: r, 0, _, e => by
    simp at e
    simp [e]
  | c :: r, j + 1, h, e => by
    have := idx_leW x r j (by simpa using h) (by simpa using e)
    rw [List.idxOf_cons]
    cases c == x <;> simp <;> omega
theorem IndexW_any (ad : Option Addr) (cap : Nat) (l : List (List UInt8)) (x : List UInt8) (w : World) (h : SlW w ad l) (hn : l.length ≤ 9223372036854775807) :
    Calls Tryz.prog 72 #[.slice ad l.length cap, .string ⟨x.toArray⟩] w fun e w' => e = .returned (.int .i64 (idxW (whereV l x))) ∧ w' = w := by
  cases hl : l with
  | nil =>
    simpa [whereV, idxW, Lib.idxOfS, Lib.idxFromS] using Tryz.slices_Index_string_empty ad cap ⟨x.toArray⟩ w
  | cons c r =>
    rw [← hl]
    obtain ⟨b, o, rfl, hr⟩ := h (by rw [hl]; simp)
    refine (Tryz.slices_Index_string b o l.length cap (l.map fun v => ⟨v.toArray⟩) ⟨x.toArray⟩ w (by simp) (by omega) ?_).mono ?_
    · intro j hj
      have hj' : j < l.length := by simpa using hj
      rw [hr j hj']
      simp [encV, List.getD_eq_getElem?_getD, List.getElem?_eq_getElem hj']
    · rintro e w' ⟨rfl, rfl⟩
      refine ⟨?_, rfl⟩
      have hd : ∀ j, j < l.length → (l.map fun v => (⟨v.toArray⟩ : ByteArray)).getD j ByteArray.empty = ⟨(l.getD j []).toArray⟩ := fun j hj => by
        simp [List.getD_eq_getElem?_getD, List.getElem?_eq_getElem hj]
      have inj : ∀ a b : List UInt8, (⟨a.toArray⟩ : ByteArray) = ⟨b.toArray⟩ → a = b := fun a b e => by
        have := congrArg (fun s : ByteArray => s.data.toList) e
        simpa using this
      unfold whereV
      by_cases hx : x ∈ l
      · rw [if_pos hx]
        have hk := List.idxOf_lt_length_of_mem hx
        have hat : l.getD (l.idxOf x) [] = x := by rw [List.getD_eq_getElem?_getD, List.getElem?_eq_getElem hk]; simp
        rw [Lib.idxOfS_hit _ l.length (l.idxOf x) _ hk (by simp) (by rw [hd _ hk, hat]) (fun j hj e => ?_)]
        · rfl
        · rw [hd j (by omega)] at e
          have e2 := inj _ _ e
          have hj2 : j < l.length := by omega
          rw [List.getD_eq_getElem?_getD, List.getElem?_eq_getElem hj2] at e2
          have e3 : l[j] = x := e2
          have := idx_leW x l j hj2 e3
          omega
      · rw [if_neg hx, Lib.idxOfS_miss _ l.length _ (fun j hj e => ?_)]
        · rfl
        · rw [hd j hj] at e
          have e2 := inj _ _ e
          rw [List.getD_eq_getElem?_getD, List.getElem?_eq_getElem hj] at e2
          exact hx (by rw [← e2]; simp)
theorem keepG7 {W W' : World} {p0 p1 p2 p3 p4 p5 p6 : Addr} {v0 v1 v2 v3 v4 v5 v6 : Value} (h : W.cell? p0 = some v0 ∧ W.cell? p1 = some v1 ∧ W.cell? p2 = some v2 ∧ W.cell? p3 = some v3 ∧ W.cell? p4 = some v4 ∧ W.cell? p5 = some v5 ∧ W.cell? p6 = some v6) (hb : Grew W W') :
    W'.cell? p0 = some v0 ∧ W'.cell? p1 = some v1 ∧ W'.cell? p2 = some v2 ∧ W'.cell? p3 = some v3 ∧ W'.cell? p4 = some v4 ∧ W'.cell? p5 = some v5 ∧ W'.cell? p6 = some v6 := by
  have q := hb.keep
  obtain ⟨h0, h1, h2, h3, h4, h5, h6⟩ := h
  exact ⟨q _ _ h0, q _ _ h1, q _ _ h2, q _ _ h3, q _ _ h4, q _ _ h5, q _ _ h6⟩
theorem enters69 : ∀ args w, (callFunc 69 args).run Tryz.prog w = .ok (.enter 69 args) w := enters_of Tryz.func69 (by kernel_rfl) rfl
theorem enters73 : ∀ args w, (callFunc 73 args).run Tryz.prog w = .ok (.enter 73 args) w := enters_of Tryz.func73 (by kernel_rfl) rfl
theorem ordOne_any (ad bd : Option Addr) (ca cb : Nat) (a b : List Tm) (w : World) (ha : SlQ w ad a) (hb : SlQ w bd b) (la : a.length ≤ 1000000) :
    Calls Tryz.prog 69 #[.slice ad a.length ca, .slice bd b.length cb] w fun e w' => e = .returned (.int .i64 (cmpF a b)) ∧ Grew w w' := by
  have HC := CompareQ_any ad bd ca cb a b w ha hb la
  clear ha hb
  go_enter Tryz.func69, Tryz.ntmps69
  go_wp2_with fail
  refine HC.mono ?_
  rintro e w1 ⟨rfl, hg⟩
  dsimp only
  go_wp2_with fail
  go_ret
  exact ⟨rfl, hg⟩
set_option maxHeartbeats 4000000 in
set_option maxRecDepth 100000 in
theorem ordTwo_any (ad bd : Option Addr) (ca cb bA bS bQ i : Nat) (down : Bool) (a b : List Tm) (w : World) (ha : SlQ w ad a) (hb : SlQ w bd b) (la : a.length ≤ 1000000) (hi : i < a.length) (hj : i < b.length)
    (hA : w.cell? ⟨bA, 0, none⟩ = some (.int .i64 (i : Int))) (hS : w.cell? ⟨bS, 0, none⟩ = some (.func (.func 69) #[] #[])) (hQ : w.cell? ⟨bQ, 3, none⟩ = some (.bool down)) :
    Calls Tryz.prog 73 #[.slice ad a.length ca, .slice bd b.length cb, .pointer (some ⟨bA, 0, none⟩), .pointer (some ⟨bS, 0, none⟩), .pointer (some ⟨bQ, 0, none⟩)] w fun e w' => e = .returned (.int .i64 (cmpQ (some i) down a b)) ∧ Grew w w' := by
  have HC := fun W (hg : Grew w W) => ordOne_any ad bd ca cb a b W (ha.grew hg) (hb.grew hg) la
  have HCC := hideE HC
  have eg := enters69
  obtain ⟨g, o, rfl, c0, c1, c2⟩ := ha.at i hi
  obtain ⟨g', o', rfl, d0, d1, d2⟩ := hb.at i hj
  have i0 : (0 : Int) ≤ (i : Int) := by omega
  have i1 : (i : Int) < (a.length : Int) := by omega
  have i2 : (i : Int) < (b.length : Int) := by omega
  have ea : a.getD i tmZero = a[i] := by rw [List.getD_eq_getElem?_getD, List.getElem?_eq_getElem hi]; rfl
  have eb : b.getD i tmZero = b[i] := by rw [List.getD_eq_getElem?_getD, List.getElem?_eq_getElem hj]; rfl
  obtain ⟨R, hR⟩ : ∃ R, R = cmpQ (some i) down a b := ⟨_, rfl⟩
  rw [← hR]
  have HR : Hid (R = if cmpTm a[i] b[i] = 0 then cmpF a b else if down = true then - cmpTm a[i] b[i] else cmpTm a[i] b[i]) := by
    show _ = _
    rw [hR]
    unfold cmpQ
    dsimp only
    rw [ea, eb]
  have HK := fun W => Compare_grew a[i].1 a[i].2.1 a[i].2.2 b[i].1 b[i].2.1 b[i].2.2 W
  have hdef := hideE (show cmpT a[i].1 a[i].2.1 a[i].2.2 b[i].1 b[i].2.1 b[i].2.2 = cmpTm a[i] b[i] from rfl)
  have hrg := cmpT_range a[i].1 a[i].2.1 a[i].2.2 b[i].1 b[i].2.1 b[i].2.2
  clear ha hb HC ea eb hR
  generalize cmpT a[i].1 a[i].2.1 a[i].2.2 b[i].1 b[i].2.1 b[i].2.2 = cc at *
  generalize cmpF a b = cf at *
  generalize a[i] = x at *
  generalize b[i] = y at *
  go_enter Tryz.func73, Tryz.ntmps73
  go_upto_region 1 with fail
  go_cut [8] from 9 to 17 (fun v W => v = .int .i64 cc ∧ Hid (Grew w W))
  case first =>
    go_region_held3 (fun W => W.cell? ⟨bA, 0, none⟩ = some (.int .i64 (i : Int)) ∧ W.cell? ⟨g, o + i * 3, none⟩ = some (.int .i64 x.1) ∧ W.cell? ⟨g, o + i * 3 + 1, none⟩ = some (.string ⟨x.2.1.toArray⟩) ∧ W.cell? ⟨g, o + i * 3 + 2, none⟩ = some (.string ⟨x.2.2.toArray⟩) ∧ W.cell? ⟨g', o' + i * 3, none⟩ = some (.int .i64 y.1) ∧ W.cell? ⟨g', o' + i * 3 + 1, none⟩ = some (.string ⟨y.2.1.toArray⟩) ∧ W.cell? ⟨g', o' + i * 3 + 2, none⟩ = some (.string ⟨y.2.2.toArray⟩)) (first | go_keep | exact keepG7 (by assumption) hg2) (first | (go_at_call 71; refine (HK _).mono ?_; rintro e w2 ⟨rfl, hg2⟩))
    all_goals
      go_wp2_with fail
      go_meet
      case rel => exact ⟨rfl, (Grew.refl w).drew.trans hg2⟩
  case rest =>
    obtain ⟨rfl, hg⟩ := hcut
    have kp := fun (p : Addr) (v : Value) (hv : w.cell? p = some v) => hg.out.keep p v hv
    have s0 := kp _ _ hS
    have q0 := kp _ _ hQ
    have HC2 := HCC.out wc hg.out
    clear c0 c1 c2 d0 d1 d2 hA hS hQ HK HCC
    by_cases hcc : cc = 0
    · have t3 : (cc == 0) = true := by simp [hcc]
      have hR2 := hideE (show R = cf by rw [HR.out, if_pos (by rw [← hdef.out]; exact hcc)])
      go_wp2_with fail
      go_at_fn 69
      refine HC2.mono ?_
      rintro e w2 ⟨rfl, hg2⟩
      dsimp only
      go_wp2_with fail
      go_ret
      exact ⟨by rw [hR2.out]; rfl, hg.out.trans hg2⟩
    · have t3 : (cc == 0) = false := by simp [hcc]
      cases down with
      | true =>
        have hR2 := hideE (show R = -cc by rw [HR.out, if_neg (by rw [← hdef.out]; exact hcc), if_pos rfl, ← hdef.out])
        have hw : IntKind.i64.wrap (-cc) = -cc := by simp [IntKind.wrap, IntKind.bits, IntKind.signed]; omega
        go_wp2_with fail
        go_ret
        exact ⟨by rw [hR2.out]; rfl, hg.out⟩
      | false =>
        have hR2 := hideE (show R = cc by rw [HR.out, if_neg (by rw [← hdef.out]; exact hcc), if_neg (by simp), ← hdef.out])
        go_wp2_with fail
        go_ret
        exact ⟨by rw [hR2.out]; rfl, hg.out⟩
end Go.Proofs.YtenakehnnmencahGreat

/- The contract of slices.SortFunc at rows of terms, laid at this program by program. -/
namespace Go.Proofs
open Go.Shelf
def Tryz.sortQ_ren : Go.Shelf.Ren := ⟨fun | 6 => 34 | 15 => 68 | 14 => 67 | 28 => 116 | 29 => 117 | 20 => 108 | 21 => 109 | 22 => 110 | 23 => 111 | 24 => 112 | 25 => 113 | 26 => 114 | 27 => 115 | 46 => 158 | 47 => 159 | 48 => 160 | 49 => 161 | 50 => 162 | 57 => 196 | n => n, fun | 22 => 35 | 24 => 40 | 25 => 92 | 3 => 3 | 39 => 135 | 0 => 0 | 53 => 194 | 55 => 196 | 4 => 4 | 46 => 188 | 45 => 187 | 50 => 116 | 5 => 5 | 9 => 9 | 66 => 223 | 70 => 227 | 76 => 252 | 77 => 207 | n => n, fun | n => n⟩
theorem Tryz.sortQ : Go.Proofs.SlLaysF.n6 Tryz.prog Tryz.sortQ_ren := {
  mixed := by kernel_rfl
  f6 := ⟨Tryz.f34.name, by decide, Tryz.func34.trans (congrArg some (by kernel_rfl))⟩
  f14 := ⟨Tryz.f67.name, by decide, Tryz.func67.trans (congrArg some (by kernel_rfl))⟩
  f15 := Tryz.func68.trans (congrArg some (by kernel_rfl))
  f20 := ⟨Tryz.f108.name, by decide, Tryz.func108.trans (congrArg some (by kernel_rfl))⟩
  f21 := ⟨Tryz.f109.name, by decide, Tryz.func109.trans (congrArg some (by kernel_rfl))⟩
  f22 := ⟨Tryz.f110.name, by decide, Tryz.func110.trans (congrArg some (by kernel_rfl))⟩
  f23 := ⟨Tryz.f111.name, by decide, Tryz.func111.trans (congrArg some (by kernel_rfl))⟩
  f24 := ⟨Tryz.f112.name, by decide, Tryz.func112.trans (congrArg some (by kernel_rfl))⟩
  f25 := ⟨Tryz.f113.name, by decide, Tryz.func113.trans (congrArg some (by kernel_rfl))⟩
  f26 := ⟨Tryz.f114.name, by decide, Tryz.func114.trans (congrArg some (by kernel_rfl))⟩
  f27 := ⟨Tryz.f115.name, by decide, Tryz.func115.trans (congrArg some (by kernel_rfl))⟩
  f28 := Tryz.func116.trans (congrArg some (by kernel_rfl))
  f29 := Tryz.func117.trans (congrArg some (by kernel_rfl))
  f46 := ⟨Tryz.f158.name, by decide, Tryz.func158.trans (congrArg some (by kernel_rfl))⟩
  f47 := Tryz.func159.trans (congrArg some (by kernel_rfl))
  f48 := Tryz.func160.trans (congrArg some (by kernel_rfl))
  f49 := ⟨Tryz.f161.name, by decide, Tryz.func161.trans (congrArg some (by kernel_rfl))⟩
  f50 := ⟨Tryz.f162.name, by decide, Tryz.func162.trans (congrArg some (by kernel_rfl))⟩
  f57 := ⟨Tryz.f196.name, by decide, Tryz.func196.trans (congrArg some (by kernel_rfl))⟩
  t0 := Tryz.underlying0
  a0 := Tryz.isAgg0
  z0 := Tryz.sizeOf0
  v0 := Tryz.zeroValue0
  t3 := Tryz.underlying3
  a3 := Tryz.isAgg3
  z3 := Tryz.sizeOf3
  v3 := Tryz.zeroValue3
  t4 := Tryz.underlying4
  a4 := Tryz.isAgg4
  z4 := Tryz.sizeOf4
  v4 := Tryz.zeroValue4
  t5 := Tryz.underlying5
  a5 := Tryz.isAgg5
  z5 := Tryz.sizeOf5
  v5 := Tryz.zeroValue5
  t9 := Tryz.underlying9
  a9 := Tryz.isAgg9
  z9 := Tryz.sizeOf9
  v9 := Tryz.zeroValue9
  t22 := Tryz.underlying35
  a22 := Tryz.isAgg35
  z22 := Tryz.sizeOf35
  v22 := Tryz.zeroValue35
  a24 := Tryz.isAgg40
  z24 := Tryz.sizeOf40
  t25 := Tryz.underlying92
  a25 := Tryz.isAgg92
  z25 := Tryz.sizeOf92
  v25 := Tryz.zeroValue92
  t39 := Tryz.underlying135
  a39 := Tryz.isAgg135
  z39 := Tryz.sizeOf135
  v39 := Tryz.zeroValue135
  t45 := Tryz.underlying187
  a45 := Tryz.isAgg187
  z45 := Tryz.sizeOf187
  v45 := Tryz.zeroValue187
  t46 := Tryz.underlying188
  a46 := Tryz.isAgg188
  z46 := Tryz.sizeOf188
  v46 := Tryz.zeroValue188
  t50 := Tryz.underlying116
  a50 := Tryz.isAgg116
  z50 := Tryz.sizeOf116
  v50 := Tryz.zeroValue116
  t53 := Tryz.underlying194
  a53 := Tryz.isAgg194
  z53 := Tryz.sizeOf194
  v53 := Tryz.zeroValue194
  t55 := Tryz.underlying196
  a55 := Tryz.isAgg196
  z55 := Tryz.sizeOf196
  v55 := Tryz.zeroValue196
  t66 := Tryz.underlying223
  a66 := Tryz.isAgg223
  z66 := Tryz.sizeOf223
  v66 := Tryz.zeroValue223
  t70 := Tryz.underlying227
  a70 := Tryz.isAgg227
  z70 := Tryz.sizeOf227
  v70 := Tryz.zeroValue227
  t76 := Tryz.underlying252
  a76 := Tryz.isAgg252
  z76 := Tryz.sizeOf252
  v76 := Tryz.zeroValue252
  t77 := Tryz.underlying207
  a77 := Tryz.isAgg207
  z77 := Tryz.sizeOf207
  v77 := Tryz.zeroValue207 }
end Go.Proofs
