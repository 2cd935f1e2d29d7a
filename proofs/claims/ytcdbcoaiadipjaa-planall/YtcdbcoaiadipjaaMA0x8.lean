import Derived.Test.YtcdbcoaiadipjaaMA0x7
import Derived.Deep.DeepCutAuto
import Derived.Test.YtcdbcoaiadipjaaMA0x5
import Derived.Test.YtcdbcoaiadipjaaMA0x3
import Derived.Test.YtcdbcoaiadipjaaMA0x6
import Derived.Laws.IdiomStrings
import Derived.Lib.AppendZeros

/- The document's Check of a question (package strataref3). -/
namespace Go.Proofs.Ytcdbcoaiadipjaa
open Go Go.RowKit Go.Proofs Go.Maps
set_option synthInstance.maxSize 1000

/-! ### one fault behind the other -/
section
variable {q : Qu}
theorem ask_full (h : 6 < q.parts.length) : askN q = 4 := by unfold askN; rw [if_pos h]
theorem ask_nil (h : q.parts = []) : askN q = 5 := by unfold askN; rw [if_neg (by rw [h]; decide), if_pos h]
theorem ask_part (h1 : ¬ 6 < q.parts.length) (h2 : ¬ q.parts = []) (h3 : partsN q.parts ≠ 0) : askN q = partsN q.parts := by unfold askN; rw [if_neg h1, if_neg h2, if_pos h3]
/-- what is asked of Vars, Order, Down and Limit -/
def askT (q : Qu) (V : List (List UInt8)) : Int := if 8 < V.length then 4
  else if q.vars = [] then 5 else if (∃ v ∈ q.vars, v ∉ V) then 5 else if ¬ q.vars.Nodup then 7 else if q.order ≠ [] ∧ q.order ∉ q.vars then 5
  else if q.down = true ∧ q.order = [] then 3 else if q.lim < -1 ∨ 500 < q.lim then 1 else 0
theorem ask_tail (h1 : ¬ 6 < q.parts.length) (h2 : ¬ q.parts = []) (h3 : partsN q.parts = 0) : askN q = askT q (partsV [] q.parts) := by unfold askN askT; rw [if_neg h1, if_neg h2, if_neg (fun h => h h3)]
variable {V : List (List UInt8)}
theorem askT_full (h : 8 < V.length) : askT q V = 4 := by unfold askT; rw [if_pos h]
theorem askT_nil (h1 : ¬ 8 < V.length) (h2 : q.vars = []) : askT q V = 5 := by unfold askT; rw [if_neg h1, if_pos h2]
theorem askT_out (h1 : ¬ 8 < V.length) (h2 : ¬ q.vars = []) (h3 : ∃ v ∈ q.vars, v ∉ V) : askT q V = 5 := by unfold askT; rw [if_neg h1, if_neg h2, if_pos h3]
theorem askT_twice (h1 : ¬ 8 < V.length) (h2 : ¬ q.vars = []) (h3 : ∀ v ∈ q.vars, v ∈ V) (h4 : ¬ q.vars.Nodup) : askT q V = 7 := by
  unfold askT; rw [if_neg h1, if_neg h2, if_neg (fun ⟨v, hv, hn⟩ => hn (h3 v hv)), if_pos h4]
def askE (q : Qu) : Int := if q.order ≠ [] ∧ q.order ∉ q.vars then 5 else if q.down = true ∧ q.order = [] then 3 else if q.lim < -1 ∨ 500 < q.lim then 1 else 0
theorem askT_end (h1 : ¬ 8 < V.length) (h2 : ¬ q.vars = []) (h3 : ∀ v ∈ q.vars, v ∈ V) (h4 : q.vars.Nodup) : askT q V = askE q := by
  unfold askT askE; rw [if_neg h1, if_neg h2, if_neg (fun ⟨v, hv, hn⟩ => hn (h3 v hv)), if_neg (fun h => h h4)]
end
theorem nodup_take {l : List (List UInt8)} {k : Nat} (h : (l.take k).Nodup) (hk : k < l.length) (hn : l[k] ∉ l.take k) : (l.take (k + 1)).Nodup := by
  rw [List.take_succ_eq_append_getElem hk]
  refine List.nodup_append.2 ⟨h, by simp, fun a ha b hb => ?_⟩
  simp only [List.mem_singleton] at hb
  subst hb
  exact fun e => hn (e ▸ ha)
theorem not_nodup {l : List (List UInt8)} {k : Nat} (hk : k < l.length) (hn : l[k] ∈ l.take k) : ¬ l.Nodup := fun h => by
  have h2 : (l.take (k + 1)).Nodup := h.sublist (List.take_sublist _ _)
  rw [List.take_succ_eq_append_getElem hk] at h2
  exact (List.nodup_append.1 h2).2.2 _ hn _ (List.mem_singleton.2 rfl) rfl

attribute [local go_sem ↓] eqlEmpty neqEmpty

end Go.Proofs.Ytcdbcoaiadipjaa

/- ask.varsFault, ask.Check; slices.ContainsFunc at texts with whatever test. -/
namespace Go.Proofs.Ytcdbcoaiadipjaa
open Go Go.RowKit Go.Proofs Go.Maps
set_option synthInstance.maxSize 1000

attribute [local go_sem] eql_errV neq_errV guard_errV

/-- what is asked of a test of texts -/
def PredT (g : Nat) (lb : Array Value) (p : List UInt8 → Bool) (w : World) : Prop :=
  ∀ (W : World) (x : List UInt8), RowKit.Below w.heap.size w W → Calls Try.prog g (#[.string ⟨x.toArray⟩] ++ lb) W fun e w' => e = .returned (.bool (p x)) ∧ RowKit.Below W.heap.size W w'
theorem anyT_hit {l : List (List UInt8)} {p : List UInt8 → Bool} {k : Nat} (hk : k < l.length) (h : p l[k] = true) : l.any p = true := by
  rw [List.any_eq_true]
  exact ⟨_, List.getElem_mem hk, h⟩
theorem anyT_miss {l : List (List UInt8)} {p : List UInt8 → Bool} (h : ∀ (j : Nat) (hj : j < l.length), p l[j] = false) : l.any p = false := by
  rw [List.any_eq_false]
  intro x hx
  obtain ⟨j, hj, rfl⟩ := List.getElem_of_mem hx
  rw [h j hj]
  simp
set_option maxHeartbeats 4000000 in
set_option maxRecDepth 100000 in
theorem TIndex_any (g : Nat) (lb : Array Value) (p : List UInt8 → Bool) (w : World) (ad : Option Addr) (ca : Nat) (l : List (List UInt8)) (eg : ∀ args w, (callFunc g args).run Try.prog w = .ok (.enter g args) w) (hp : PredT g lb p w) (hs : SlW w ad l) (hl : l.length ≤ 9223372036854775807) :
    Calls Try.prog 57 #[.slice ad l.length ca, .func (.func g) #[] lb] w fun e w' => (∃ r : Int, e = .returned (.int .i64 r) ∧ decide (0 ≤ r) = l.any p) ∧ RowKit.Below w.heap.size w w' := by
  have H := hideQ hp
  have HS := hideQ hs
  clear hp hs
  go_enter Try.func57, Try.ntmps57
  go_wp2_with fail
  go_loopw [8] (fun i wr => ∃ (k : Nat), k ≤ l.length ∧ i = .int .i64 k ∧ RowKit.Below w.heap.size w wr ∧ Hid (∀ (j : Nat) (hj : j < l.length), j < k → p l[j] = false)) (fun i wr => l.length - (intOf i).toNat)
  case atStart => exact ⟨0, Nat.zero_le _, rfl, RowKit.Below.refl _ w, fun j hj h0 => by omega⟩
  case round =>
    obtain ⟨k, hk, rfl, hbr, hall⟩ := hrel
    by_cases hlt : k < l.length
    · obtain ⟨b, o, rfl, hc⟩ := (HS.out.below hbr).at k hlt
      have hcall := H.out wr l[k] hbr
      have i0 : (0 : Int) ≤ (k : Int) := by omega
      have i1 : (k : Int) < (l.length : Int) := by omega
      have HV : Hid (∀ q, p l[k] = q → (q = false → (∀ (j : Nat) (hj : j < l.length), j < k + 1 → p l[j] = false)) ∧ (q = true → l.any p = true)) := by
        intro q hq
        refine ⟨fun e j hj h1 => ?_, fun e => anyT_hit hlt (hq.trans e)⟩
        by_cases ej : j = k
        · subst ej; exact hq.trans e
        · exact hall.out j hj (by omega)
      cases hq : p l[k] with
      | false =>
        rw [hq] at hcall
        have hnext : Hid (∀ (j : Nat) (hj : j < l.length), j < k + 1 → p l[j] = false) := (HV.out _ hq).1 rfl
        clear HV hq hall
        generalize l[k] = z at *
        go_wp2_with (go_at_fn g; refine hcall.mono ?_; rintro e w' ⟨rfl, hb'⟩; dsimp only)
        go_roundw
        case rel => exact ⟨k + 1, by omega, by go_num, bstep hbr hb', hnext⟩
        case measure => simp [intOf]; omega
      | true =>
        rw [hq] at hcall
        have hno2 : Hid (l.any p = true) := (HV.out _ hq).2 rfl
        clear HV hq hall
        generalize l[k] = z at *
        go_wp2_with (go_at_fn g; refine hcall.mono ?_; rintro e w' ⟨rfl, hb'⟩; dsimp only)
        go_ret
        exact ⟨⟨(k : Int), rfl, by rw [hno2.out]; simp⟩, bstep hbr hb'⟩
    · have hkk : k = l.length := by omega
      have hyes : Hid (l.any p = false) := anyT_miss fun j hj => hall.out j hj (by omega)
      subst hkk
      clear hall
      go_wp2_with fail
      go_ret
      exact ⟨⟨-1, rfl, by rw [hyes.out]; rfl⟩, hbr⟩
set_option maxHeartbeats 1000000 in
theorem TContains_any (g : Nat) (lb : Array Value) (p : List UInt8 → Bool) (w : World) (ad : Option Addr) (ca : Nat) (l : List (List UInt8)) (eg : ∀ args w, (callFunc g args).run Try.prog w = .ok (.enter g args) w) (hp : PredT g lb p w) (hs : SlW w ad l) (hl : l.length ≤ 9223372036854775807) :
    Calls Try.prog 43 #[.slice ad l.length ca, .func (.func g) #[] lb] w fun e w' => e = .returned (.bool (l.any p)) ∧ RowKit.Below w.heap.size w w' := by
  have hc := TIndex_any g lb p w ad ca l eg hp hs hl
  clear hp hs
  generalize l.any p = q at *
  go_enter Try.func43, Try.ntmps43
  go_wp2_with fail
  refine hc.mono ?_
  rintro e w1 ⟨⟨r, rfl, hr⟩, hb1⟩
  dsimp only
  go_wp2_with fail
  go_ret
  exact ⟨rfl, hb1⟩
theorem vfault1_any (V : List (List UInt8)) (vd : Option Addr) (vc b : Nat) (x : List UInt8) (W : World) (hb : W.cell? ⟨b, 0, none⟩ = some (.slice vd V.length vc)) (hs : SlW W vd V) (hl : V.length ≤ 100) :
    Calls Try.prog 42 #[.string ⟨x.toArray⟩, .pointer (some ⟨b, 0, none⟩)] W fun e w' => e = .returned (.bool (!decide (x ∈ V))) ∧ RowKit.Below W.heap.size W w' := by
  have HC := ContainsW_any vd vc V x W hs (by omega)
  generalize decide (x ∈ V) = d at *
  go_enter Try.func42, Try.ntmps42
  go_wp2_with fail
  refine HC.mono ?_
  rintro e w1 ⟨rfl, hw1⟩
  subst hw1
  dsimp only
  go_wp2_with fail
  go_ret
  exact ⟨rfl, RowKit.Below.refl _ _⟩
theorem entersVF : ∀ args w, (callFunc 42 args).run Try.prog w = .ok (.enter 42 args) w := enters_of Try.func42 (by kernel_rfl) rfl
/-- what is wrong with the variables that are told -/
def faultV (T V : List (List UInt8)) : Int := if T = [] then 5 else if (∃ v ∈ T, v ∉ V) then 5 else if ¬ T.Nodup then 7 else 0
theorem any_out {T V : List (List UInt8)} : T.any (fun x => !decide (x ∈ V)) = decide (∃ v ∈ T, v ∉ V) := by
  rw [Bool.eq_iff_iff, List.any_eq_true, decide_eq_true_eq]
  constructor
  · rintro ⟨x, hx, h⟩
    exact ⟨x, hx, by simpa using h⟩
  · rintro ⟨x, hx, h⟩
    exact ⟨x, hx, by simpa using h⟩
set_option maxHeartbeats 4000000 in
set_option maxRecDepth 100000 in
theorem VarsFault_any (T V : List (List UInt8)) (td vd : Option Addr) (tc vc : Nat) (w : World) (hT : SlW w td T) (hV : SlW w vd V) (hl : T.length ≤ 9223372036854775807) (htc : T.length ≤ tc) (hv : V.length ≤ 100) :
    Calls Try.prog 23 #[.slice td T.length tc, .slice vd V.length vc] w fun e w' => e = .returned (errV (faultV T V)) ∧ RowKit.Below w.heap.size w w' := by
  obtain ⟨w0, hw0⟩ : ∃ w0, w0 = w.alloc (.cells #[.slice vd V.length vc] 23) := ⟨_, rfl⟩
  have hb0 : RowKit.Below w.heap.size w w0 := by rw [hw0]; exact balloc _ _
  have c0 : w0.cell? ⟨w.heap.size, 0, none⟩ = some (.slice vd V.length vc) := by rw [hw0]; go_simp
  have hT0 := hideQ (hT.below hb0)
  have HC := TContains_any 42 #[.pointer (some ⟨w.heap.size, 0, none⟩)] (fun x => !decide (x ∈ V)) w0 td tc T entersVF (fun W x hW => vfault1_any V vd vc w.heap.size x W ((hW.cell (World.block_lt_of_cell? w0 _ c0)).trans c0) ((hV.below hb0).below hW) hv) hT0.out hl
  rw [any_out] at HC
  have HW := hideQ hw0
  have hF : Hid (faultV T V = if T = [] then 5 else if (∃ v ∈ T, v ∉ V) then 5 else if ¬ T.Nodup then 7 else 0) := rfl
  clear hw0 hT hV c0
  generalize faultV T V = F at *
  by_cases h0 : T = []
  · have d2 : ((T.length : Int) == 0) = true := by simp [h0]
    have fin : Hid (F = 5) := by show _ = _; rw [hF.out, if_pos h0]
    clear h0 HC
    go_enter Try.func23, Try.ntmps23
    go_wp2_with fail
    go_ret
    exact ⟨ret_val (by rw [fin.out]; rfl), by rw [← HW.out]; exact hb0⟩
  · have d2 : ((T.length : Int) == 0) = false := by simp; exact h0
    by_cases h1 : ∃ v ∈ T, v ∉ V
    · rw [decide_eq_true h1] at HC
      have fin : Hid (F = 5) := by show _ = _; rw [hF.out, if_neg h0, if_pos h1]
      clear h0 h1
      go_enter Try.func23, Try.ntmps23
      go_wp2_with fail
      rw [← HW.out]
      refine HC.mono ?_
      rintro e w1 ⟨rfl, hb1⟩
      dsimp only
      go_wp2_with fail
      go_ret
      exact ⟨ret_val (by rw [fin.out]; rfl), bstep hb0 hb1⟩
    · rw [decide_eq_false h1] at HC
      have hF2 : Hid (F = if ¬ T.Nodup then 7 else 0) := by show _ = _; rw [hF.out, if_neg h0, if_neg h1]
      clear h0 h1 hF
      go_enter Try.func23, Try.ntmps23
      go_wp2_with fail
      rw [← HW.out]
      refine HC.mono ?_
      rintro e w1 ⟨rfl, hb1⟩
      dsimp only
      have hT1 := hideQ (hT0.out.below hb1)
      go_wp2_with fail
      go_loop [20] (fun i => ∃ k : Nat, k ≤ T.length ∧ i = .int .i64 k ∧ Hid ((T.take k).Nodup)) (fun i => T.length - (intOf i).toNat)
      case atStart => exact ⟨0, Nat.zero_le _, rfl, by show List.Nodup _; simp⟩
      case round =>
        obtain ⟨k, hk, rfl, hnd⟩ := hrel
        by_cases hlt : k < T.length
        · obtain ⟨b, off, rfl, ck⟩ := hT1.out.at k hlt
          have i0 : (0 : Int) ≤ (k : Int) := by omega
          have i1 : (k : Int) < (T.length : Int) := by omega
          have i2 : (k : Int) ≤ (tc : Int) := by omega
          have hlen : (T.take k).length = k := by rw [List.length_take]; omega
          have HH := ContainsW_any (some ⟨b, off, none⟩) tc (T.take k) T[k] w1 (hT1.out.take k) (by rw [hlen]; omega)
          rw [hlen] at HH
          cases hd : decide (T[k] ∈ T.take k)
          · rw [hd] at HH
            have hnd2 := hideQ (nodup_take hnd.out hlt (by simpa using hd))
            clear hd hnd hlen
            go_wp2_with fail
            refine HH.mono ?_
            rintro e w3 ⟨rfl, hw3⟩
            subst hw3
            dsimp only
            go_wp2_with fail
            exact ⟨⟨k + 1, by omega, by go_num, hnd2⟩, by simp [intOf]; omega⟩
          · rw [hd] at HH
            have fin : Hid (F = 7) := by show _ = _; rw [hF2.out, if_pos (not_nodup hlt (of_decide_eq_true hd))]
            clear hd hnd hlen
            go_wp2_with fail
            refine HH.mono ?_
            rintro e w3 ⟨rfl, hw3⟩
            subst hw3
            dsimp only
            go_wp2_with fail
            go_ret
            exact ⟨ret_val (by rw [fin.out]; rfl), bstep hb0 hb1⟩
        · obtain rfl : k = T.length := by omega
          have hnd' := hnd.out
          rw [List.take_length] at hnd'
          have fin : Hid (F = 0) := by show _ = _; rw [hF2.out, if_neg (fun h => h hnd')]
          clear hnd hnd'
          go_wp2_with fail
          go_ret
          exact ⟨ret_val (by rw [fin.out]; rfl), bstep hb0 hb1⟩
/-! ### Check -/
theorem ask_vof {q : Qu} (h : vofN q.parts ≠ 0) : askN q = vofN q.parts := by
  unfold vofN at h ⊢
  unfold askN
  by_cases h1 : 6 < q.parts.length
  · rw [if_pos h1, if_pos h1]
  · rw [if_neg h1] at h ⊢
    rw [if_neg h1]
    by_cases h2 : q.parts = []
    · rw [if_pos h2, if_pos h2]
    · rw [if_neg h2] at h ⊢
      rw [if_neg h2]
      by_cases h3 : partsN q.parts ≠ 0
      · rw [if_pos h3, if_pos h3]
      · rw [if_neg h3] at h ⊢
        rw [if_neg h3]
        by_cases h4 : 8 < (partsV [] q.parts).length
        · rw [if_pos h4, if_pos h4]
        · rw [if_neg h4] at h
          exact absurd rfl h
theorem ask_fault {q : Qu} (h : vofN q.parts = 0) : askN q = if faultV q.vars (partsV [] q.parts) ≠ 0 then faultV q.vars (partsV [] q.parts) else askE q := by
  unfold vofN at h
  have h1 : ¬ 6 < q.parts.length := fun k => by rw [if_pos k] at h; cases h
  rw [if_neg h1] at h
  have h2 : ¬ q.parts = [] := fun k => by rw [if_pos k] at h; cases h
  rw [if_neg h2] at h
  have h3 : partsN q.parts = 0 := Classical.byContradiction fun k => by rw [if_pos k] at h; exact k h
  rw [if_neg (fun k => k h3)] at h
  have h4 : ¬ 8 < (partsV [] q.parts).length := fun k => by rw [if_pos k] at h; cases h
  rw [ask_tail h1 h2 h3]
  unfold faultV
  by_cases h5 : q.vars = []
  · rw [if_pos h5, askT_nil h4 h5]; rfl
  · by_cases h6 : ∃ v ∈ q.vars, v ∉ partsV [] q.parts
    · rw [if_neg h5, if_pos h6, askT_out h4 h5 h6]; rfl
    · have h6' : ∀ v ∈ q.vars, v ∈ partsV [] q.parts := fun v hv => Classical.byContradiction fun k => h6 ⟨v, hv, k⟩
      by_cases h7 : q.vars.Nodup
      · have hz : (if ¬ q.vars.Nodup then (7 : Int) else 0) = 0 := if_neg (fun k => k h7)
        rw [if_neg h5, if_neg h6, hz, askT_end h4 h5 h6' h7]
        rfl
      · have hz : (if ¬ q.vars.Nodup then (7 : Int) else 0) = 7 := if_pos h7
        rw [if_neg h5, if_neg h6, hz, askT_twice h4 h5 h6' h7]
        rfl

attribute [local go_sem ↓] eqlEmpty neqEmpty
set_option maxHeartbeats 8000000 in
set_option maxRecDepth 100000 in
theorem CheckO_any (q : Qu) (vd pd : Option Addr) (vc pc : Nat) (w : World) (h : QuIn w q vd pd) (hf : FitQ q) (hvc : q.vars.length ≤ vc) :
    Calls Try.prog 10 #[valQ q vd vc pd pc] w fun e w' => e = .returned (errV (askN q)) ∧ RowKit.Below w.heap.size w w' := by
  obtain ⟨w1, hw1⟩ : ∃ w1, w1 = w.alloc (.cells #[.slice vd q.vars.length vc, .slice pd q.parts.length pc, .string ⟨q.order.toArray⟩, .bool q.down, .bool q.dist, .int .i64 q.lim] 26) := ⟨_, rfl⟩
  have hb1 : RowKit.Below w.heap.size w w1 := by rw [hw1]; exact balloc _ _
  have HB : Hid (BoxQ w1 w.heap.size q vd pd vc pc) := by show BoxQ _ _ _ _ _ _ _; rw [hw1]; exact boxQ_new _ _ _ _ _ _
  have Hin := hideQ (h.below hb1)
  have HV := VarsOf_any q.parts pd pc w1 (Hin.out.parts) hf.pt hf.pl
  have HF := fun W V ad cap hW hV hv => VarsFault_any q.vars V vd ad vc cap W (Hin.out.vars.below hW) hV hf.vl hvc hv
  have HO := fun W hW => ContainsW_any vd vc q.vars q.order W (Hin.out.vars.below hW) hf.vl
  have hN1 := hideQ (fun h => ask_vof (q := q) h)
  have hN2 := hideQ (fun h => ask_fault (q := q) h)
  have hE : Hid (askE q = if q.order ≠ [] ∧ q.order ∉ q.vars then 5 else if q.down = true ∧ q.order = [] then 3 else if q.lim < -1 ∨ 500 < q.lim then 1 else 0) := rfl
  have HW := hideQ hw1
  unfold valQ
  clear h hf hw1
  unfold VofAns at HV
  generalize askN q = N at *
  generalize askE q = E at *
  generalize vofN q.parts = vn at *
  go_enter Try.func10, Try.ntmps10
  go_upto_region 1 with fail
  rw [← HW.out]
  obtain ⟨c0, c1, c2, c3, c4, c5⟩ := HB.out
  go_wp2_with fail
  refine HV.mono ?_
  rintro e w2 ⟨m, ad, cap, rfl, hm, hml, hme, hb2⟩
  dsimp only
  clear HV c0 c1 c2 c3 c4 c5
  by_cases h0 : vn = 0
  · subst h0
    have em := hme rfl
    have HFW := HF w2 m ad cap hb2 hm hml
    have hN3 := hideQ (hN2.out rfl)
    rw [← em] at hN3
    obtain ⟨c0, c1, c2, c3, c4, c5⟩ := HB.out.below hb2
    clear HF hme em hN1 hN2
    generalize faultV q.vars m = fn at *
    go_wp2_with fail
    refine HFW.mono ?_
    rintro e w3 ⟨rfl, hb3⟩
    dsimp only
    clear c0 c1 c2 c3 c4 c5 HFW
    by_cases h1 : fn = 0
    · subst h1
      have hN4 : Hid (N = E) := by show _ = _; rw [hN3.out]; rfl
      have hB3 := bstep hb2 hb3
      obtain ⟨c0, c1, c2, c3, c4, c5⟩ := HB.out.below hB3
      have HC := HO w3 hB3
      have hBB := bstep hb1 hB3
      clear HO hN3
      cases ho : q.order.isEmpty with
      | true =>
        have ho' : q.order = [] := by simpa using ho
        have e1 : Hid (E = if q.down = true then 3 else if q.lim < -1 ∨ 500 < q.lim then 1 else 0) := by show _ = _; rw [hE.out, if_neg (fun k => k.1 ho')]; simp [ho']
        clear hE HC ho'
        cases hd : q.down with
        | true =>
          have fin : Hid (N = 3) := by show _ = _; rw [hN4.out, e1.out, if_pos hd]
          rw [hd] at c3
          go_wp2_with fail
          go_ret
          exact ⟨ret_val (by rw [fin.out]; rfl), hBB⟩
        | false =>
          have e2 : Hid (E = if q.lim < -1 ∨ 500 < q.lim then 1 else 0) := by show _ = _; rw [e1.out, if_neg (by rw [hd]; simp)]
          rw [hd] at c3
          clear e1
          by_cases l1 : q.lim < -1
          · have dl : decide (q.lim < -1) = true := by simpa using l1
            have fin : Hid (N = 1) := by show _ = _; rw [hN4.out, e2.out, if_pos (Or.inl l1)]
            clear l1
            go_wp2_with fail
            go_ret
            exact ⟨ret_val (by rw [fin.out]; rfl), hBB⟩
          · have dl : decide (q.lim < -1) = false := by simpa using l1
            by_cases l2 : 500 < q.lim
            · have dm : decide (q.lim > 500) = true := by simpa using l2
              have fin : Hid (N = 1) := by show _ = _; rw [hN4.out, e2.out, if_pos (Or.inr l2)]
              clear l1 l2
              go_wp2_with fail
              go_ret
              exact ⟨ret_val (by rw [fin.out]; rfl), hBB⟩
            · have dm : decide (q.lim > 500) = false := by simpa using l2
              have fin : Hid (N = 0) := by show _ = _; rw [hN4.out, e2.out, if_neg (by omega)]
              clear l1 l2
              go_wp2_with fail
              go_ret
              exact ⟨ret_val (by rw [fin.out]; rfl), hBB⟩
      | false =>
        have ho' : q.order ≠ [] := by simpa using ho
        cases hm2 : decide (q.order ∈ q.vars) with
        | false =>
          have fin : Hid (N = 5) := by show _ = _; rw [hN4.out, hE.out, if_pos ⟨ho', by simpa using hm2⟩]
          rw [hm2] at HC
          clear ho' hm2 hE
          go_wp2_with fail
          refine HC.mono ?_
          rintro e w4 ⟨rfl, hw4⟩
          subst hw4
          dsimp only
          go_wp2_with fail
          go_ret
          exact ⟨ret_val (by rw [fin.out]; rfl), hBB⟩
        | true =>
          have e2 : Hid (E = if q.lim < -1 ∨ 500 < q.lim then 1 else 0) := by show _ = _; rw [hE.out, if_neg (fun k => k.2 (of_decide_eq_true hm2)), if_neg (fun k => ho' k.2)]
          rw [hm2] at HC
          clear ho' hm2 hE
          go_wp2_with fail
          refine HC.mono ?_
          rintro e w4 ⟨rfl, hw4⟩
          subst hw4
          dsimp only
          by_cases l1 : q.lim < -1
          · have dl : decide (q.lim < -1) = true := by simpa using l1
            have fin : Hid (N = 1) := by show _ = _; rw [hN4.out, e2.out, if_pos (Or.inl l1)]
            clear l1
            cases hd : q.down
            all_goals
              rw [hd] at c3
              go_wp2_with fail
              go_ret
              exact ⟨ret_val (by rw [fin.out]; rfl), hBB⟩
          · have dl : decide (q.lim < -1) = false := by simpa using l1
            by_cases l2 : 500 < q.lim
            · have dm : decide (q.lim > 500) = true := by simpa using l2
              have fin : Hid (N = 1) := by show _ = _; rw [hN4.out, e2.out, if_pos (Or.inr l2)]
              clear l1 l2
              cases hd : q.down
              all_goals
                rw [hd] at c3
                go_wp2_with fail
                go_ret
                exact ⟨ret_val (by rw [fin.out]; rfl), hBB⟩
            · have dm : decide (q.lim > 500) = false := by simpa using l2
              have fin : Hid (N = 0) := by show _ = _; rw [hN4.out, e2.out, if_neg (by omega)]
              clear l1 l2
              cases hd : q.down
              all_goals
                rw [hd] at c3
                go_wp2_with fail
                go_ret
                exact ⟨ret_val (by rw [fin.out]; rfl), hBB⟩
    · have hne : (fn == 0) = false := by simpa using h1
      have hne2 : (fn != 0) = true := by simpa using h1
      have fin : Hid (N = fn) := by show _ = _; rw [hN3.out, if_pos h1]
      clear h1 hN3
      go_wp2_with fail
      go_ret
      exact ⟨ret_val (by rw [fin.out]; rfl), bstep hb1 (bstep hb2 hb3)⟩
  · have hne : (vn == 0) = false := by simpa using h0
    have hne2 : (vn != 0) = true := by simpa using h0
    have fin := hideQ (hN1.out h0)
    clear h0 hN1 hN2 hme
    go_wp2_with fail
    go_ret
    exact ⟨ret_val (by rw [fin.out]; rfl), bstep hb1 hb2⟩
end Go.Proofs.Ytcdbcoaiadipjaa

/- Rows of terms, and lists of such rows, in memory. -/
namespace Go.Proofs.Ytcdbcoaiadipjaa
open Go Go.RowKit Go.Proofs Go.Maps
set_option synthInstance.maxSize 1000

def encQ (x : Tm) : List Value := [.int .i64 x.1, .string ⟨x.2.1.toArray⟩, .string ⟨x.2.2.toArray⟩]
def valTQ (x : Tm) : Value := .agg #[.int .i64 x.1, .string ⟨x.2.1.toArray⟩, .string ⟨x.2.2.toArray⟩]
def cellsQ (l : List Tm) : List Value := l.flatMap encQ
theorem encQ_len (x : Tm) : (encQ x).length = 3 := rfl
theorem encQ_one (x : Tm) : ∀ v ∈ encQ x, v.oneCell' = true := by
  intro v hv
  simp [encQ] at hv
  rcases hv with rfl | rfl | rfl <;> rfl
theorem cellsQ_len (l : List Tm) : (cellsQ l).length = l.length * 3 := by
  induction l with
  | nil => rfl
  | cons x r ih => simp only [cellsQ, List.flatMap_cons, List.length_append, List.length_cons] at *; rw [ih, encQ_len]; omega
theorem cellsQ_at (l : List Tm) (i : Nat) (h : i < l.length) (j : Nat) (hj : j < 3) : (cellsQ l)[i * 3 + j]? = (encQ l[i])[j]? := by
  induction l generalizing i with
  | nil => simp at h
  | cons x r ih =>
    simp only [cellsQ, List.flatMap_cons] at *
    cases i with
    | zero => rw [List.getElem?_append_left (by rw [encQ_len]; omega)]; simp
    | succ n =>
      rw [List.getElem?_append_right (by rw [encQ_len]; omega), encQ_len, show (n + 1) * 3 + j - 3 = n * 3 + j by omega, ih n (by simpa using h)]
      simp
theorem cellsQ_app (a b : List Tm) : cellsQ (a ++ b) = cellsQ a ++ cellsQ b := by simp [cellsQ]
/-- a slice holds a list of terms -/
def SlQ (w : World) (ad : Option Addr) (l : List Tm) : Prop := l ≠ [] → ∃ b o, ad = some ⟨b, o, none⟩ ∧ ∀ j v, (cellsQ l)[j]? = some v → w.cell? ⟨b, o + j, none⟩ = some v
theorem SlQ.below {w w' : World} {ad : Option Addr} {l : List Tm} (h : SlQ w ad l) (hb : RowKit.Below w.heap.size w w') : SlQ w' ad l := fun hl => by
  obtain ⟨b, o, e, r⟩ := h hl
  exact ⟨b, o, e, fun j v hv => (hb.cell (World.block_lt_of_cell? w _ (r j v hv))).trans (r j v hv)⟩
theorem SlQ.at {w : World} {ad : Option Addr} {l : List Tm} (h : SlQ w ad l) (k : Nat) (hk : k < l.length) : ∃ b o, ad = some ⟨b, o, none⟩ ∧ w.cell? ⟨b, o + k * 3, none⟩ = some (.int .i64 l[k].1) ∧ w.cell? ⟨b, o + k * 3 + 1, none⟩ = some (.string ⟨l[k].2.1.toArray⟩) ∧ w.cell? ⟨b, o + k * 3 + 2, none⟩ = some (.string ⟨l[k].2.2.toArray⟩) := by
  obtain ⟨b, o, e, r⟩ := h (fun e => by rw [e] at hk; simp at hk)
  have hx : ∀ j (hj : j < 3) v, (encQ l[k])[j]? = some v → w.cell? ⟨b, o + k * 3 + j, none⟩ = some v := fun j hj v hv => by
    rw [Nat.add_assoc]
    exact r _ v (by rw [cellsQ_at l k hk j hj]; exact hv)
  exact ⟨b, o, e, hx 0 (by omega) _ rfl, hx 1 (by omega) _ rfl, hx 2 (by omega) _ rfl⟩
theorem slQ_nil (W : World) (ad : Option Addr) : SlQ W ad [] := fun h => absurd rfl h
theorem own_slQ {W : World} {base : Nat} {e : TypeId} {v : Value} {t : List Tm} (h : W.ownsRow base e 3 v t.length (cellsQ t)) : ∃ ad cap, v = .slice ad t.length cap ∧ SlQ W ad t := by
  have h' := h
  rcases h.2 with ⟨rfl, h0⟩ | ⟨g, cap, cur, rfl, _⟩
  · exact ⟨none, 0, by rw [h0], fun hne => absurd (List.eq_nil_of_length_eq_zero h0) hne⟩
  · refine ⟨some ⟨g, 0, none⟩, cap, rfl, fun _ => ⟨g, 0, rfl, fun j u hj => ?_⟩⟩
    have := h'.cells (g := g) rfl j u hj
    rwa [Addr.add_lit] at this
theorem infoQ : (Try.prog.info? 28).map (fun i => (i.zero, i.size, i.bytes)) = some (some (.agg (encQ tmZero).toArray), 3, 40) := by kernel_rfl
/-- a slice holds a list of rows -/
def SlR (w : World) (ad : Option Addr) (L : List (List Tm)) : Prop := L ≠ [] → ∃ b o, ad = some ⟨b, o, none⟩ ∧ ∀ j (hj : j < L.length), ∃ rd rc, w.cell? ⟨b, o + j, none⟩ = some (.slice rd L[j].length rc) ∧ SlQ w rd L[j]
theorem SlR.below {w w' : World} {ad : Option Addr} {L : List (List Tm)} (h : SlR w ad L) (hb : RowKit.Below w.heap.size w w') : SlR w' ad L := fun hl => by
  obtain ⟨b, o, e, r⟩ := h hl
  refine ⟨b, o, e, fun j hj => ?_⟩
  obtain ⟨rd, rc, c, s⟩ := r j hj
  exact ⟨rd, rc, (hb.cell (World.block_lt_of_cell? w _ c)).trans c, s.below hb⟩
theorem SlR.at {w : World} {ad : Option Addr} {L : List (List Tm)} (h : SlR w ad L) (k : Nat) (hk : k < L.length) : ∃ b o rd rc, ad = some ⟨b, o, none⟩ ∧ w.cell? ⟨b, o + k, none⟩ = some (.slice rd L[k].length rc) ∧ SlQ w rd L[k] := by
  obtain ⟨b, o, e, r⟩ := h (fun e => by rw [e] at hk; simp at hk)
  obtain ⟨rd, rc, c, s⟩ := r k hk
  exact ⟨b, o, rd, rc, e, c, s⟩
theorem slR_nil (W : World) (ad : Option Addr) : SlR W ad [] := fun h => absurd rfl h
/-- what owns blocks of two types shares none -/
theorem own_types {W : World} {B e e' s s' n n' : Nat} {v v' : Value} {cs cs' : List Value} (h : W.ownsRow B e s v n cs) (h' : W.ownsRow B e' s' v' n' cs') (hne : e ≠ e') : v'.ownBlock = none ∨ v'.ownBlock ≠ v.ownBlock := by
  rcases h'.2 with ⟨rfl, _⟩ | ⟨g', c', cur', rfl, _, hg', _⟩
  · exact Or.inl rfl
  · right
    intro hq
    rcases h.2 with ⟨rfl, _⟩ | ⟨g, c, cur, rfl, _, hg, _⟩
    · cases hq
    · have e1 : g' = g := by simpa [Value.ownBlock] using hq
      rw [e1, hg] at hg'
      injection hg' with hg'
      injection hg' with _ h2 _
      exact hne h2
end Go.Proofs.Ytcdbcoaiadipjaa

/- Commits in plain words: which is wrong; who comes of whom. -/
namespace Go.Proofs.Ytcdbcoaiadipjaa
open Go Go.RowKit Go.Proofs
set_option synthInstance.maxSize 1000

/-- a commit: its parents, its layer, its message -/
abbrev Cm := List Int × Int × List UInt8
def okM (l : List UInt8) : Bool := l.all fun c => decide (32 ≤ c.toNat ∧ c.toNat ≤ 126)
def msgN (l : List UInt8) : Int := if 24 < l.length then 4 else if okM l = true then 0 else 2
def twinB (p : List Int) : Bool := match p with
  | [a, b] => decide (a = b)
  | _ => false
def rangeB (p : List Int) (i : Nat) : Bool := p.all fun a => decide (0 ≤ a ∧ a < i)
/-- the fault of commit i -/
def comN (c : Cm) (i : Nat) : Int :=
  if 2 < c.1.length ∨ msgN c.2.2 = 4 then 4 else if rangeB c.1 i = false then 1 else if twinB c.1 = true then 7 else if msgN c.2.2 ≠ 0 then msgN c.2.2 else if c.2.1 < 1 ∨ 300 < c.2.1 then 1 else 0
/-- the first that is wrong, from i on -/
def firstC : List Cm → Nat → Nat × Int
  | [], _ => (0, 0)
  | c :: r, i => if comN c i ≠ 0 then (i, comN c i) else firstC r (i + 1)
def comsN (l : List Cm) : Nat × Int := if 60 < l.length then (0, 4) else firstC l 0
theorem firstC_at {l : List Cm} {i k : Nat} (hk : k < l.length) (hn : ∀ (j : Nat) (hj : j < k), comN (l[j]'(by omega)) (i + j) = 0) (h : comN l[k] (i + k) ≠ 0) : firstC l i = (i + k, comN l[k] (i + k)) := by
  induction l generalizing i k with
  | nil => simp at hk
  | cons c r ih =>
    cases k with
    | zero => unfold firstC; rw [if_pos (by simpa using h)]; rfl
    | succ m =>
      have h0 := hn 0 (by omega)
      unfold firstC
      rw [if_neg (fun h' => h' (by simpa using h0))]
      have := ih (i := i + 1) (k := m) (by simpa using hk) (fun j hj => by have := hn (j + 1) (by omega); simpa [Nat.add_assoc, Nat.add_comm 1 j] using this) (by simpa [Nat.add_assoc, Nat.add_comm 1 m] using h)
      rw [this]
      simp [Nat.add_assoc, Nat.add_comm 1 m]
theorem firstC_none {l : List Cm} {i : Nat} (hn : ∀ (j : Nat) (hj : j < l.length), comN l[j] (i + j) = 0) : firstC l i = (0, 0) := by
  induction l generalizing i with
  | nil => rfl
  | cons c r ih =>
    have h0 := hn 0 (by simp)
    unfold firstC
    rw [if_neg (fun h' => h' (by simpa using h0))]
    exact ih fun j hj => by have := hn (j + 1) (by simpa using hj); simpa [Nat.add_assoc, Nat.add_comm 1 j] using this

theorem firstC_zero {l : List Cm} {i : Nat} (h : (firstC l i).2 = 0) : ∀ (j : Nat) (hj : j < l.length), comN l[j] (i + j) = 0 := by
  induction l generalizing i with
  | nil => intro j hj; simp at hj
  | cons c r ih =>
    unfold firstC at h
    split at h
    · rename_i h0; exact absurd h h0
    · rename_i h0
      have h0' : comN c i = 0 := Classical.byContradiction h0
      intro j hj
      cases j with
      | zero => simpa using h0'
      | succ m =>
        have := ih h m (by simpa using hj)
        simpa [Nat.add_assoc, Nat.add_comm 1 m] using this
/-- commits that are right -/
def GoodC (l : List Cm) : Prop := l.length ≤ 60 ∧ ∀ (j : Nat) (hj : j < l.length), comN l[j] j = 0
theorem coms_good {l : List Cm} : (comsN l).2 = 0 ↔ GoodC l := by
  unfold comsN GoodC
  by_cases h : 60 < l.length
  · rw [if_pos h]
    constructor
    · intro e; cases e
    · intro e; omega
  · rw [if_neg h]
    constructor
    · intro e
      exact ⟨by omega, fun j hj => by simpa using firstC_zero e j hj⟩
    · rintro ⟨_, e⟩
      rw [firstC_none fun j hj => by simpa using e j hj]

/-- who comes of whom: k is i, or a parent of one that is -/
def parsOf (l : List Cm) (c : Nat) : List Int := (l[c]?.map fun x => x.1).getD []
def Up (l : List Cm) (i k : Nat) : Prop := ∀ S : Nat → Prop, S i → (∀ c p : Nat, S c → (p : Int) ∈ parsOf l c → S p) → S k
theorem Up.refl (l : List Cm) (i : Nat) : Up l i i := fun _ h _ => h
theorem Up.step {l : List Cm} {i c p : Nat} (h : Up l i c) (hp : (p : Int) ∈ parsOf l c) : Up l i p := fun S h1 h2 => h2 c p (h S h1 h2) hp
/-- a rising list is told by what is in it -/
def RiseN (m : List Nat) : Prop := m.Pairwise fun a b => a < b
theorem rise_unique {m q : List Nat} (hm : RiseN m) (hq : RiseN q) (h : ∀ k, k ∈ m ↔ k ∈ q) : m = q := by
  induction m generalizing q with
  | nil =>
    cases q with
    | nil => rfl
    | cons b s => exact absurd ((h b).2 (by simp)) (by simp)
  | cons a r ih =>
    cases q with
    | nil => exact absurd ((h a).1 (by simp)) (by simp)
    | cons b s =>
      obtain ⟨m1, m2⟩ := List.pairwise_cons.1 hm
      obtain ⟨q1, q2⟩ := List.pairwise_cons.1 hq
      have hab : a = b := by
        have h1 := (h a).1 (by simp)
        have h2 := (h b).2 (by simp)
        rcases List.mem_cons.1 h1 with e | h1
        · exact e
        · rcases List.mem_cons.1 h2 with e | h2
          · exact e.symm
          · have := q1 a h1
            have := m1 b h2
            omega
      subst hab
      congr 1
      refine ih m2 q2 fun k => ?_
      constructor
      · intro hk
        have := m1 k hk
        rcases List.mem_cons.1 ((h k).1 (List.mem_cons_of_mem _ hk)) with e | h'
        · omega
        · exact h'
      · intro hk
        have := q1 k hk
        rcases List.mem_cons.1 ((h k).2 (List.mem_cons_of_mem _ hk)) with e | h'
        · omega
        · exact h'

/-! ### commits in memory -/
/-- commits, in a list: three cells each -/
def ComsAt (w : World) (b o : Nat) (l : List Cm) : Prop := ∀ (i : Nat) (hi : i < l.length), ∃ a c, w.cell? ⟨b, o + i * 3, none⟩ = some (.slice a l[i].1.length c) ∧ w.cell? ⟨b, o + i * 3 + 1, none⟩ = some (.int .i64 l[i].2.1) ∧ w.cell? ⟨b, o + i * 3 + 2, none⟩ = some (.string ⟨l[i].2.2.toArray⟩) ∧ SlI w a l[i].1
def SlC (w : World) (ad : Option Addr) (l : List Cm) : Prop := l ≠ [] → ∃ b o, ad = some ⟨b, o, none⟩ ∧ ComsAt w b o l
theorem SlC.below {w w' : World} {ad : Option Addr} {l : List Cm} (h : SlC w ad l) (hb : RowKit.Below w.heap.size w w') : SlC w' ad l := fun hl => by
  obtain ⟨b, o, e, h1⟩ := h hl
  refine ⟨b, o, e, fun i hi => ?_⟩
  obtain ⟨a, c, h2, h3, h4, h5⟩ := h1 i hi
  exact ⟨a, c, (hb.cell (World.block_lt_of_cell? w _ h2)).trans h2, (hb.cell (World.block_lt_of_cell? w _ h3)).trans h3, (hb.cell (World.block_lt_of_cell? w _ h4)).trans h4, h5.below hb⟩
theorem SlC.at {w : World} {ad : Option Addr} {l : List Cm} (h : SlC w ad l) {i : Nat} (hi : i < l.length) : ∃ b o a c, ad = some ⟨b, o, none⟩ ∧ w.cell? ⟨b, o + i * 3, none⟩ = some (.slice a l[i].1.length c) ∧ w.cell? ⟨b, o + i * 3 + 1, none⟩ = some (.int .i64 l[i].2.1) ∧ w.cell? ⟨b, o + i * 3 + 2, none⟩ = some (.string ⟨l[i].2.2.toArray⟩) ∧ SlI w a l[i].1 := by
  obtain ⟨b, o, e, h1⟩ := h (fun e => by rw [e] at hi; simp at hi)
  obtain ⟨a, c, h2, h3, h4, h5⟩ := h1 i hi
  exact ⟨b, o, a, c, e, h2, h3, h4, h5⟩
end Go.Proofs.Ytcdbcoaiadipjaa

/- Who comes of whom, marked one by one. -/
namespace Go.Proofs.Ytcdbcoaiadipjaa
open Go Go.RowKit Go.Proofs
set_option synthInstance.maxSize 1000

def onB (B : List Bool) (k : Nat) : Bool := B.getD k false
def SoundB (l : List Cm) (i : Nat) (B : List Bool) : Prop := ∀ k, onB B k = true → Up l i k
def ClosedTo (l : List Cm) (B : List Bool) (m : Nat) : Prop := ∀ c, c < m → onB B c = true → ∀ p : Nat, (p : Int) ∈ parsOf l c → onB B p = true
theorem onB_set {B : List Bool} {p k : Nat} (hp : p < B.length) : onB (B.set p true) k = if k = p then true else onB B k := by
  unfold onB
  rw [List.getD_eq_getElem?_getD, List.getD_eq_getElem?_getD]
  by_cases e : k = p
  · subst e
    rw [if_pos rfl, List.getElem?_set_self hp]
    rfl
  · rw [if_neg e, List.getElem?_set_ne (fun h => e h.symm)]
theorem onB_lt {B : List Bool} {k : Nat} (h : onB B k = true) : k < B.length := by
  unfold onB at h
  rw [List.getD_eq_getElem?_getD] at h
  exact Classical.byContradiction fun hn => by
    rw [List.getElem?_eq_none (by omega)] at h
    simp at h
theorem onB_get {B : List Bool} {k : Nat} (h : k < B.length) : onB B k = B[k] := by
  unfold onB
  rw [List.getD_eq_getElem?_getD, List.getElem?_eq_getElem h]
  rfl
theorem SoundB.set {l : List Cm} {i : Nat} {B : List Bool} (h : SoundB l i B) {p : Nat} (hp : p < B.length) (hu : Up l i p) : SoundB l i (B.set p true) := fun k hk => by
  rw [onB_set hp] at hk
  split at hk
  · rename_i e; rw [e]; exact hu
  · exact h k hk
theorem closed_up {l : List Cm} {i : Nat} {B : List Bool} (hi : onB B i = true) (hc : ClosedTo l B B.length) : ∀ k, Up l i k → onB B k = true := by
  intro k h
  exact h (fun k => onB B k = true) hi fun c p h1 hp => hc c (onB_lt h1) h1 p hp
/-- how many are not marked -/
def nF : List Bool → Nat
  | [] => 0
  | b :: r => (if b = true then 0 else 1) + nF r
theorem nF_set {B : List Bool} {p : Nat} (hp : p < B.length) (h : onB B p = false) : nF (B.set p true) < nF B := by
  induction B generalizing p with
  | nil => simp at hp
  | cons b r ih =>
    cases p with
    | zero =>
      have hb : b = false := by simpa [onB] using h
      subst hb
      simp [nF]
    | succ m =>
      have := ih (p := m) (by simpa using hp) (by simpa [onB] using h)
      simp only [List.set_cons_succ, nF]
      omega
/-- those that are marked, rising -/
def markedB (B : List Bool) (k : Nat) : List Nat := (List.range k).filter fun j => onB B j
theorem marked_next (B : List Bool) (k : Nat) : markedB B (k + 1) = markedB B k ++ if onB B k = true then [k] else [] := by
  unfold markedB
  rw [List.range_succ, List.filter_append, List.filter_cons]
  simp
theorem marked_rise (B : List Bool) (k : Nat) : RiseN (markedB B k) := by
  unfold markedB RiseN
  exact List.Pairwise.filter _ List.pairwise_lt_range
theorem marked_up {l : List Cm} {i : Nat} {B : List Bool} (hs : SoundB l i B) (hi : onB B i = true) (hc : ClosedTo l B B.length) : ∀ k, k ∈ markedB B B.length ↔ Up l i k := by
  intro k
  unfold markedB
  rw [List.mem_filter, List.mem_range]
  constructor
  · rintro ⟨_, h⟩; exact hs k h
  · intro h
    have := closed_up hi hc k h
    exact ⟨onB_lt this, this⟩
theorem marked_len (B : List Bool) (k : Nat) : (markedB B k).length ≤ k := by
  unfold markedB
  exact Nat.le_trans (List.length_filter_le _ _) (by simp)
/-- parents of commits that are right are earlier ones -/
theorem good_pars {l : List Cm} (h : GoodC l) {c : Nat} (hc : c < l.length) : ∀ z ∈ parsOf l c, 0 ≤ z ∧ z < c := by
  have h1 := h.2 c hc
  have e : parsOf l c = l[c].1 := by unfold parsOf; rw [List.getElem?_eq_getElem hc]; rfl
  rw [e]
  unfold comN at h1
  split at h1
  · cases h1
  · split at h1
    · cases h1
    · rename_i h2
      have h3 : rangeB l[c].1 c = true := by simpa using h2
      unfold rangeB at h3
      rw [List.all_eq_true] at h3
      intro z hz
      simpa using h3 z hz
theorem up_le {l : List Cm} (h : GoodC l) {i k : Nat} (hi : i < l.length) (hu : Up l i k) : k ≤ i ∧ k < l.length := by
  refine hu (fun k => k ≤ i ∧ k < l.length) ⟨Nat.le_refl _, hi⟩ fun c p h1 hp => ?_
  have := (good_pars h h1.2) _ hp
  have h2 : c ≤ i ∧ c < l.length := h1
  show p ≤ i ∧ p < l.length
  omega
end Go.Proofs.Ytcdbcoaiadipjaa

/- Bases in plain words: of those that two have, the ones that no other one of them comes of. -/
namespace Go.Proofs.Ytcdbcoaiadipjaa
open Go Go.RowKit Go.Proofs
set_option synthInstance.maxSize 1000

def isBase (l : List Cm) (a b z : Nat) : Prop := Up l a z ∧ Up l b z ∧ ∀ c, Up l a c → Up l b c → c ≠ z → ¬ Up l c z
def dbothN (x y : List Nat) : List Nat := x.filter fun k => decide (k ∈ y)
theorem both_next {x y : List Nat} {k : Nat} (hk : k < x.length) : dbothN (x.take (k + 1)) y = dbothN (x.take k) y ++ if x[k] ∈ y then [x[k]] else [] := by
  unfold dbothN
  rw [List.take_succ_eq_append_getElem hk, List.filter_append, List.filter_cons]
  simp
theorem both_rise {x y : List Nat} (h : RiseN x) : RiseN (dbothN x y) := List.Pairwise.filter _ h
theorem both_len (x y : List Nat) : (dbothN x y).length ≤ x.length := List.length_filter_le _ _
/-- below: another one of the list comes of number q of it -/
def belowP (l : List Cm) (t : List Nat) (q m : Nat) : Prop := ∃ r, r < m ∧ r ≠ q ∧ Up l (t.getD r 0) (t.getD q 0)
theorem below_next {l : List Cm} {t : List Nat} {q m : Nat} : belowP l t q (m + 1) ↔ belowP l t q m ∨ (m ≠ q ∧ Up l (t.getD m 0) (t.getD q 0)) := by
  constructor
  · rintro ⟨r, h1, h2, h3⟩
    rcases (by omega : r < m ∨ r = m) with h | rfl
    · exact Or.inl ⟨r, h, h2, h3⟩
    · exact Or.inr ⟨h2, h3⟩
  · rintro (⟨r, h1, h2, h3⟩ | ⟨h2, h3⟩)
    · exact ⟨r, by omega, h2, h3⟩
    · exact ⟨m, by omega, h2, h3⟩
/-- what is told as far as i -/
def OutsTo (l : List Cm) (t : List Nat) (i : Nat) (m : List Nat) : Prop := RiseN m ∧ m.length ≤ i ∧ ∀ z, z ∈ m ↔ ∃ q, q < i ∧ q < t.length ∧ z = t.getD q 0 ∧ ¬ belowP l t q t.length
theorem OutsTo.nil (l : List Cm) (t : List Nat) : OutsTo l t 0 [] := ⟨List.Pairwise.nil, by simp, fun z => ⟨fun h => by simp at h, fun ⟨q, h, _⟩ => by omega⟩⟩
theorem rise_get {t : List Nat} (h : RiseN t) {p q : Nat} (hpq : p < q) (hq : q < t.length) : t.getD p 0 < t.getD q 0 := by
  rw [List.getD_eq_getElem?_getD, List.getD_eq_getElem?_getD, List.getElem?_eq_getElem hq, List.getElem?_eq_getElem (show p < t.length by omega)]
  exact List.pairwise_iff_getElem.1 h p q (by omega) hq hpq
theorem OutsTo.skip {l : List Cm} {t : List Nat} {i : Nat} {m : List Nat} (h : OutsTo l t i m) (hb : belowP l t i t.length) : OutsTo l t (i + 1) m := by
  refine ⟨h.1, by have := h.2.1; omega, fun z => ?_⟩
  rw [h.2.2 z]
  constructor
  · rintro ⟨q, h1, h2⟩; exact ⟨q, by omega, h2⟩
  · rintro ⟨q, h1, h2, h3, h4⟩
    rcases (by omega : q < i ∨ q = i) with h5 | rfl
    · exact ⟨q, h5, h2, h3, h4⟩
    · exact absurd hb h4
theorem OutsTo.more {l : List Cm} {t : List Nat} {i : Nat} {m : List Nat} (h : OutsTo l t i m) (ht : RiseN t) (hi : i < t.length) (hb : ¬ belowP l t i t.length) : OutsTo l t (i + 1) (m ++ [t.getD i 0]) := by
  refine ⟨List.pairwise_append.2 ⟨h.1, List.pairwise_singleton _ _, fun x hx y hy => ?_⟩, by have := h.2.1; simp; omega, fun z => ?_⟩
  · rw [List.mem_singleton.1 hy]
    obtain ⟨q, h1, _, rfl, _⟩ := (h.2.2 x).1 hx
    exact rise_get ht h1 hi
  · rw [List.mem_append, h.2.2 z, List.mem_singleton]
    constructor
    · rintro (⟨q, h1, h2⟩ | rfl)
      · exact ⟨q, by omega, h2⟩
      · exact ⟨i, by omega, hi, rfl, hb⟩
    · rintro ⟨q, h1, h2, h3, h4⟩
      rcases (by omega : q < i ∨ q = i) with h5 | rfl
      · exact Or.inl ⟨q, h5, h2, h3, h4⟩
      · exact Or.inr h3
theorem outs_base {l : List Cm} {a b : Nat} {x y m : List Nat} (hx : RiseN x) (ux : ∀ k, k ∈ x ↔ Up l a k) (uy : ∀ k, k ∈ y ↔ Up l b k) (h : OutsTo l (dbothN x y) (dbothN x y).length m) : ∀ z, z ∈ m ↔ isBase l a b z := by
  have hm : ∀ z, z ∈ dbothN x y ↔ Up l a z ∧ Up l b z := fun z => by
    unfold dbothN
    rw [List.mem_filter, ux, decide_eq_true_eq, uy]
  have ht := both_rise (y := y) hx
  have hmem : ∀ q, q < (dbothN x y).length → (dbothN x y).getD q 0 ∈ dbothN x y := fun q hq => by
    rw [List.getD_eq_getElem?_getD, List.getElem?_eq_getElem hq]
    exact List.getElem_mem hq
  have hidx : ∀ z ∈ dbothN x y, ∃ q, q < (dbothN x y).length ∧ (dbothN x y).getD q 0 = z := fun z hz => by
    obtain ⟨q, hq, e⟩ := List.getElem_of_mem hz
    exact ⟨q, hq, by rw [List.getD_eq_getElem?_getD, List.getElem?_eq_getElem hq]; exact e⟩
  intro z
  rw [h.2.2 z]
  constructor
  · rintro ⟨q, _, hq, rfl, hb⟩
    obtain ⟨h1, h2⟩ := (hm _).1 (hmem q hq)
    refine ⟨h1, h2, fun c hca hcb hne hu => hb ?_⟩
    obtain ⟨r, hr, rfl⟩ := hidx c ((hm c).2 ⟨hca, hcb⟩)
    exact ⟨r, hr, fun e => hne (by rw [e]), hu⟩
  · rintro ⟨h1, h2, h3⟩
    obtain ⟨q, hq, rfl⟩ := hidx z ((hm z).2 ⟨h1, h2⟩)
    refine ⟨q, hq, hq, rfl, ?_⟩
    rintro ⟨r, hr, hne, hu⟩
    obtain ⟨h4, h5⟩ := (hm _).1 (hmem r hr)
    refine h3 _ h4 h5 (fun e => ?_) hu
    rcases (by omega : r < q ∨ q < r) with h6 | h6
    · have := rise_get ht h6 hq; omega
    · have := rise_get ht h6 hr; omega
end Go.Proofs.Ytcdbcoaiadipjaa

/- A dag's face: what the laws ask of the program's dag, whatever it is made of. -/
namespace Go.Proofs.Ytcdbcoaiadipjaa
open Go Go.RowKit Go.Proofs
set_option synthInstance.maxSize 1000

def natI (m : List Nat) : List Int := m.map fun k : Nat => (k : Int)
theorem natI_len (m : List Nat) : (natI m).length = m.length := by simp [natI]
theorem natI_inj {m q : List Nat} (h : natI m = natI q) : m = q := by
  induction m generalizing q with
  | nil => cases q with
    | nil => rfl
    | cons b r => simp [natI] at h
  | cons a s ih => cases q with
    | nil => simp [natI] at h
    | cons b r =>
      simp only [natI, List.map_cons, List.cons.injEq] at h
      rw [show a = b by omega, ih h.2]
/-- commits in a list that a caller holds -/
structure ComsOK (w : World) (ad : Option Addr) (ca : Nat) (l : List Cm) : Prop where
  sl : SlC w ad l
  cap : l.length ≤ ca
  len : l.length ≤ maxLen
  pars : ∀ c ∈ l, c.1.length ≤ maxLen
  msg : ∀ c ∈ l, c.2.2.length ≤ maxLen
  caps : ∀ b o, ad = some ⟨b, o, none⟩ → ∀ i, i < l.length → ∀ a n c, w.cell? ⟨b, o + i * 3, none⟩ = some (.slice a n c) → n ≤ c
theorem ComsOK.below {w w' : World} {ad : Option Addr} {ca : Nat} {l : List Cm} (h : ComsOK w ad ca l) (hb : RowKit.Below w.heap.size w w') : ComsOK w' ad ca l := by
  refine ⟨h.sl.below hb, h.cap, h.len, h.pars, h.msg, fun b o e i hi a n c hc => h.caps b o e i hi a n c ?_⟩
  obtain ⟨b', o', a', c', e', h2, _⟩ := h.sl.at hi
  rw [e] at e'
  cases e'
  rw [← hb.cell (p := ⟨b, o + i * 3, none⟩) (World.block_lt_of_cell? w _ h2)]
  exact hc

def ancE (l : List Cm) (i : Int) : Int := if (comsN l).2 ≠ 0 then (comsN l).2 else if 0 ≤ i ∧ i < l.length then 0 else 1
def twoE (l : List Cm) (a b : Int) : Int := if ancE l a ≠ 0 then ancE l a else ancE l b
theorem ancE_zero {l : List Cm} {i : Int} (h : ancE l i = 0) : GoodC l ∧ 0 ≤ i ∧ i < l.length := by
  unfold ancE at h
  split at h
  · rename_i h1; exact absurd h h1
  · rename_i h1
    split at h
    · rename_i h2; exact ⟨coms_good.1 (by simpa using h1), h2⟩
    · simp at h
theorem ancE_good {l : List Cm} {i : Int} (h : GoodC l) (h0 : 0 ≤ i) (h1 : i < l.length) : ancE l i = 0 := by
  unfold ancE
  rw [if_neg (by simp; exact coms_good.2 h), if_pos ⟨h0, h1⟩]
theorem twoE_zero {l : List Cm} {a b : Int} : twoE l a b = 0 ↔ ancE l a = 0 ∧ ancE l b = 0 := by
  unfold twoE
  by_cases h : ancE l a = 0
  · simp [h]
  · simp [h]

def upP (l : List Cm) (i : Nat) (m : List Nat) : Prop := RiseN m ∧ ∀ k, k ∈ m ↔ Up l i k
def logP (l : List Cm) (i : Nat) (m : List Nat) : Prop := upP l i m.reverse
def baseP (l : List Cm) (a b : Nat) (m : List Nat) : Prop := RiseN m ∧ ∀ z, z ∈ m ↔ isBase l a b z
/-- a list and an error: with an error there is none -/
def ListAns (w : World) (f : Int) (P : List Nat → Prop) (e : Ending) (w' : World) : Prop :=
  ∃ (ad : Option Addr) (c : Nat) (m : List Nat), e = .returned (.tuple #[.slice ad m.length c, errV f]) ∧ (f = 0 → P m) ∧ (f ≠ 0 → m = []) ∧ SlI w' ad (natI m) ∧ RowKit.Below w.heap.size w w' ∧ m.length ≤ 60 ∧ (m ≠ [] → ∀ d, ad = some d → w.heap.size ≤ d.block) ∧ m.length ≤ c

structure DFace where
end Go.Proofs.Ytcdbcoaiadipjaa

/- slices.ContainsFunc at numbers and at bytes, with whatever test; slices.Contains at numbers. -/
namespace Go.Proofs.Ytcdbcoaiadipjaa
open Go Go.RowKit Go.Proofs
set_option synthInstance.maxSize 1000

/-- what is asked of a test: at every number of D it tells p, and leaves what lay there -/
def PredI (g : Nat) (lb : Array Value) (D : Int → Prop) (p : Int → Bool) (w : World) : Prop :=
  ∀ (W : World) (x : Int), RowKit.Below w.heap.size w W → D x → Calls Try.prog g (#[.int .i64 x] ++ lb) W fun e w' => e = .returned (.bool (p x)) ∧ RowKit.Below W.heap.size W w'
theorem PredI.below {g : Nat} {lb : Array Value} {D : Int → Prop} {p : Int → Bool} {w w1 : World} (h : PredI g lb D p w) (hb : RowKit.Below w.heap.size w w1) : PredI g lb D p w1 :=
  fun W x hW hx => h W x (hb.trans (hW.mono hb.size)) hx
theorem any_hit {ids : List Int} {p : Int → Bool} {k : Nat} (hk : k < ids.length) (h : p ids[k] = true) : ids.any p = true := by
  rw [List.any_eq_true]
  exact ⟨_, List.getElem_mem hk, h⟩
theorem any_miss {ids : List Int} {p : Int → Bool} (h : ∀ (j : Nat) (hj : j < ids.length), p ids[j] = false) : ids.any p = false := by
  rw [List.any_eq_false]
  intro x hx
  obtain ⟨j, hj, rfl⟩ := List.getElem_of_mem hx
  rw [h j hj]
  simp

set_option maxHeartbeats 4000000 in
set_option maxRecDepth 100000 in
theorem DIndex_any (g : Nat) (lb : Array Value) (D : Int → Prop) (p : Int → Bool) (w : World) (ad : Option Addr) (ca : Nat) (ids : List Int) (eg : ∀ args w, (callFunc g args).run Try.prog w = .ok (.enter g args) w) (hp : PredI g lb D p w) (hD : ∀ x ∈ ids, D x) (hs : SlI w ad ids) (hl : ids.length ≤ 9223372036854775807) :
    Calls Try.prog 48 #[.slice ad ids.length ca, .func (.func g) #[] lb] w fun e w' => (∃ r : Int, e = .returned (.int .i64 r) ∧ decide (0 ≤ r) = ids.any p) ∧ RowKit.Below w.heap.size w w' := by
  have H : Hid (PredI g lb D p w) := hp
  have HD : Hid (∀ x ∈ ids, D x) := hD
  have HS : Hid (SlI w ad ids) := hs
  clear hp hD hs
  go_enter Try.func48, Try.ntmps48
  go_wp2_with fail
  go_loopw [8] (fun i wr => ∃ (k : Nat), k ≤ ids.length ∧ i = .int .i64 k ∧ RowKit.Below w.heap.size w wr ∧ Hid (∀ (j : Nat) (hj : j < ids.length), j < k → p ids[j] = false)) (fun i wr => ids.length - (intOf i).toNat)
  case atStart => exact ⟨0, Nat.zero_le _, rfl, RowKit.Below.refl _ w, fun j hj h0 => by omega⟩
  case round =>
    obtain ⟨k, hk, rfl, hbr, hall⟩ := hrel
    by_cases hlt : k < ids.length
    · obtain ⟨b, o, rfl, hc⟩ := (HS.out.below hbr).at hlt
      have hcall := H.out wr ids[k] hbr (HD.out _ (List.getElem_mem hlt))
      have i0 : (0 : Int) ≤ (k : Int) := by omega
      have i1 : (k : Int) < (ids.length : Int) := by omega
      have HV : Hid (∀ q, p ids[k] = q → (q = false → (∀ (j : Nat) (hj : j < ids.length), j < k + 1 → p ids[j] = false)) ∧ (q = true → ids.any p = true)) := by
        intro q hq
        refine ⟨fun e j hj h1 => ?_, fun e => any_hit hlt (hq.trans e)⟩
        by_cases ej : j = k
        · subst ej; exact hq.trans e
        · exact hall.out j hj (by omega)
      cases hq : p ids[k] with
      | false =>
        rw [hq] at hcall
        have hnext : Hid (∀ (j : Nat) (hj : j < ids.length), j < k + 1 → p ids[j] = false) := (HV.out _ hq).1 rfl
        clear HV hq hall
        generalize ids[k] = z at *
        go_wp2_with (go_at_fn g; refine hcall.mono ?_; rintro e w' ⟨rfl, hb'⟩; dsimp only)
        go_roundw
        case rel => exact ⟨k + 1, by omega, by go_num, bstep hbr hb', hnext⟩
        case measure => simp [intOf]; omega
      | true =>
        rw [hq] at hcall
        have hno2 : Hid (ids.any p = true) := (HV.out _ hq).2 rfl
        clear HV hq hall
        generalize ids[k] = z at *
        go_wp2_with (go_at_fn g; refine hcall.mono ?_; rintro e w' ⟨rfl, hb'⟩; dsimp only)
        go_ret
        exact ⟨⟨(k : Int), rfl, by rw [hno2.out]; simp⟩, bstep hbr hb'⟩
    · have hkk : k = ids.length := by omega
      have hyes : Hid (ids.any p = false) := any_miss fun j hj => hall.out j hj (by omega)
      subst hkk
      clear hall
      go_wp2_with fail
      go_ret
      exact ⟨⟨-1, rfl, by rw [hyes.out]; rfl⟩, hbr⟩

set_option maxHeartbeats 1000000 in
theorem DContains_any (g : Nat) (lb : Array Value) (D : Int → Prop) (p : Int → Bool) (w : World) (ad : Option Addr) (ca : Nat) (ids : List Int) (eg : ∀ args w, (callFunc g args).run Try.prog w = .ok (.enter g args) w) (hp : PredI g lb D p w) (hD : ∀ x ∈ ids, D x) (hs : SlI w ad ids) (hl : ids.length ≤ 9223372036854775807) :
    Calls Try.prog 37 #[.slice ad ids.length ca, .func (.func g) #[] lb] w fun e w' => e = .returned (.bool (ids.any p)) ∧ RowKit.Below w.heap.size w w' := by
  have hc := DIndex_any g lb D p w ad ca ids eg hp hD hs hl
  clear hp hD hs
  generalize ids.any p = q at *
  go_enter Try.func37, Try.ntmps37
  go_wp2_with (go_at_call 48; refine hc.mono ?_; rintro e w' ⟨⟨r, rfl, hr⟩, hb⟩; dsimp only; have hr2 : Hid _ := hr; clear hr)
  go_ret
  refine ⟨?_, hb⟩
  rw [← hr2.out]
  simp

/-- bytes in a block -/
def SlBy (w : World) (b : Nat) (l : List UInt8) : Prop := ∀ (j : Nat) (hj : j < l.length), w.cell? ⟨b, j, none⟩ = some (.int .u8 (l[j].toNat : Int))
set_option maxHeartbeats 4000000 in
set_option maxRecDepth 100000 in
theorem DIdx_any (w : World) (ad : Option Addr) (ca : Nat) (ids : List Int) (n : Int) (hs : SlI w ad ids) (hl : ids.length ≤ 9223372036854775807) :
    Calls Try.prog 49 #[.slice ad ids.length ca, .int .i64 n] w fun e w' => (∃ r : Int, e = .returned (.int .i64 r) ∧ decide (0 ≤ r) = decide (n ∈ ids)) ∧ w' = w := by
  have HS : Hid (SlI w ad ids) := hs
  clear hs
  obtain ⟨q, hq⟩ : ∃ q, decide (n ∈ ids) = q := ⟨_, rfl⟩
  rw [hq]
  have HQ := hideO hq
  clear hq
  go_enter Try.func49, Try.ntmps49
  go_wp2_with fail
  go_loopw [8] (fun i wr => ∃ (k : Nat), k ≤ ids.length ∧ i = .int .i64 k ∧ wr = w ∧ Hid (∀ (j : Nat) (hj : j < ids.length), j < k → ids[j] ≠ n)) (fun i wr => ids.length - (intOf i).toNat)
  case atStart => exact ⟨0, Nat.zero_le _, rfl, rfl, fun j hj h0 => by omega⟩
  case round =>
    obtain ⟨k, hk, rfl, hw, hall⟩ := hrel
    obtain rfl : w = wr := hw.symm
    by_cases hlt : k < ids.length
    · obtain ⟨b, o, rfl, hc⟩ := HS.out.at hlt
      have i0 : (0 : Int) ≤ (k : Int) := by omega
      have i1 : (k : Int) < (ids.length : Int) := by omega
      by_cases he : n = ids[k]
      · have hd : (n == ids[k]) = true := by simpa using he
        have hf : Hid (q = true) := by
          show _ = _
          rw [← HQ.out, decide_eq_true_eq, he]
          exact List.getElem_mem hlt
        clear he hall
        generalize ids[k] = z at *
        go_wp2_with fail
        go_ret
        exact ⟨⟨(k : Int), rfl, by rw [hf.out]; simp⟩, rfl⟩
      · have hd : (n == ids[k]) = false := by simpa using he
        have hnext : Hid (∀ (j : Nat) (hj : j < ids.length), j < k + 1 → ids[j] ≠ n) := fun j hj h1 => by
          by_cases ej : j = k
          · subst ej; exact fun e => he e.symm
          · exact hall.out j hj (by omega)
        clear he hall
        generalize ids[k] = z at *
        go_wp2_with fail
        go_roundw
        case rel => exact ⟨k + 1, by omega, by go_num, by trivial, hnext⟩
        case measure => simp [intOf]; omega
    · have hkk : k = ids.length := by omega
      have hyes : Hid (q = false) := by
        show _ = _
        rw [← HQ.out, decide_eq_false_iff_not]
        intro hm
        obtain ⟨j, hj, e⟩ := List.getElem_of_mem hm
        exact hall.out j hj (by omega) e
      subst hkk
      clear hall
      go_wp2_with fail
      go_ret
      exact ⟨⟨-1, rfl, by rw [hyes.out]; rfl⟩, rfl⟩
set_option maxHeartbeats 1000000 in
theorem DIn_any (w : World) (ad : Option Addr) (ca : Nat) (ids : List Int) (n : Int) (hs : SlI w ad ids) (hl : ids.length ≤ 9223372036854775807) :
    Calls Try.prog 36 #[.slice ad ids.length ca, .int .i64 n] w fun e w' => e = .returned (.bool (decide (n ∈ ids))) ∧ w' = w := by
  have hc := DIdx_any w ad ca ids n hs hl
  clear hs
  generalize decide (n ∈ ids) = q at *
  go_enter Try.func36, Try.ntmps36
  go_wp2_with (go_at_call 49; refine hc.mono ?_; rintro e w' ⟨⟨r, rfl, hr⟩, hb⟩; subst hb; dsimp only; have hr2 : Hid _ := hr; clear hr)
  go_ret
  refine ⟨?_, rfl⟩
  rw [← hr2.out]
  simp
end Go.Proofs.Ytcdbcoaiadipjaa

/- plan.Order, plan.Swap, plan.Cost, solve.Sizes. -/
namespace Go.Proofs.Ytcdbcoaiadipjaa
open Go Go.RowKit Go.Proofs Go.Maps
set_option synthInstance.maxSize 1000
attribute [local go_sem] eql_errV neq_errV guard_errV

def OrderAns (S : List Tr) (q : Qu) (w : World) (e : Ending) (w' : World) : Prop := RowKit.Below w.heap.size w w' ∧ (orderN S q ≠ 0 → e = .returned (.tuple #[.slice none 0 0, errV (orderN S q)])) ∧ (orderN S q = 0 → ∃ ad c, e = .returned (.tuple #[.slice ad q.parts.length c, .nilIface]) ∧ SlI w' ad (orderL S q))
theorem OrderAns.bad {S : List Tr} {q : Qu} {w w' : World} {n : Int} (hb : RowKit.Below w.heap.size w w') (hn : orderN S q = n) (h0 : n ≠ 0) : OrderAns S q w (.returned (.tuple #[.slice none 0 0, errV n])) w' := ⟨hb, fun _ => by rw [hn], fun h => absurd (hn.symm.trans h) h0⟩
theorem orderN_s {S : List Tr} {q : Qu} (h : sortedN S ≠ 0) : orderN S q = sortedN S := by unfold orderN; rw [if_pos h]
theorem orderN_a {S : List Tr} {q : Qu} (h : sortedN S = 0) : orderN S q = askN q := by unfold orderN; rw [if_neg (fun k => k h)]
theorem slPt_low {w : World} {ad : Option Addr} {l : List Pt} (h : SlPt w ad l) (hl : l ≠ []) : ∀ b o, ad = some ⟨b, o, none⟩ → b < w.heap.size := fun b o e => by
  obtain ⟨b', o', e', r⟩ := h hl
  rw [e] at e'
  have e2 : b = b' := by simpa using (congrArg (fun a : Option Addr => a.map Addr.block) e')
  rw [e2]
  cases l with
  | nil => exact absurd rfl hl
  | cons x r' => exact World.block_lt_of_cell? w ⟨b', o' + 0, none⟩ (r 0 _ rfl)
set_option maxHeartbeats 8000000 in
set_option maxRecDepth 100000 in
theorem Order_any (ad : Option Addr) (ca : Nat) (S : List Tr) (q : Qu) (vd pd : Option Addr) (vc pc : Nat) (w : World) (h : SlT w ad S) (hfit : ∀ x ∈ S, fitTr x) (hn : S.length ≤ 9223372036854775807) (hq : QuIn w q vd pd) (hf : FitQ q) (hvc : q.vars.length ≤ vc) :
    Calls Try.prog 5 #[.slice ad S.length ca, valQ q vd vc pd pc] w (OrderAns S q w) := by
  have HS := fun W hW => Sorted_any ad ca S W hW hfit hn
  have HC := fun W hW => CheckO_any q vd pd vc pc W hW hf hvc
  have Hh := hideE h
  have Hq := hideE hq
  obtain ⟨Q, hQ⟩ : ∃ Q, Q = OrderAns S q w := ⟨_, rfl⟩
  have HQ : Hid (∀ e w', OrderAns S q w e w' → Q e w') := fun e w' h => by rw [hQ]; exact h
  rw [← hQ]
  clear hQ h hq
  obtain ⟨W0, hW0⟩ : ∃ W0, W0 = w.alloc (.cells #[.slice vd q.vars.length vc, .slice pd q.parts.length pc, .string ⟨q.order.toArray⟩, .bool q.down, .bool q.dist, .int .i64 q.lim] 26) := ⟨_, rfl⟩
  have hB0 : RowKit.Below w.heap.size w W0 := by rw [hW0]; exact balloc _ _
  have hX0 := hideE (show BoxQ W0 w.heap.size q vd pd vc pc by rw [hW0]; exact boxQ_new _ _ _ _ _ _)
  unfold valQ at HC ⊢
  by_cases hs : sortedN S = 0
  · by_cases hk : askN q = 0
    · have hgq := ask_good hk
      have h200 : S.length ≤ 200 := (sortedN_set.1 hs).1
      have HE := hideE (fun W (hW : SlT W ad S) (hP : SlPt W pd q.parts) => countEach_any ad ca S q.parts pd pc W hW hfit h200 hP hf.pt hgq.six hs hgq.parts)
      have HT := hideE (fun W (cd : Option Addr) (hP : SlPt W pd q.parts) (hc : SlI W cd ((countsL S q.parts).map fun n : Nat => (n : Int))) (hcd : ∀ b o, cd = some ⟨b, o, none⟩ → b < W.heap.size) => take_any q.parts (countsL S q.parts) pd pc cd q.parts.length W hP hc hf.pt hgq.six (by simp [countsL]) (slPt_low hP hgq.some) hcd)
      have hcl : Hid ((countsL S q.parts).length = q.parts.length) := by show _ = _; simp [countsL]
      have hol : Hid (takeL q.parts (countsL S q.parts) = orderL S q) := rfl
      have hzero : Hid (orderN S q = 0) := by show _ = _; rw [orderN_a hs, hk]
      have hlen := hideE (order_len S q)
      have hpos : Hid (0 < q.parts.length) := List.length_pos_iff.2 hgq.some
      rw [hs] at HS
      rw [hk] at HC
      clear hs hk hgq hf hfit hn
      go_enter Try.func5, Try.ntmps5
      go_upto_region 1 with fail
      rw [← hW0]
      clear hW0
      go_wp2_with fail
      refine (HS _ (Hh.out.below hB0)).mono ?_
      rintro e w1 ⟨rfl, hb1⟩
      obtain ⟨c0, c1, c2, c3, c4, c5⟩ := hX0.out.below hb1
      have hB1 := bstep hB0 hb1
      dsimp only
      go_wp2_with fail
      refine (HC _ (Hq.out.below hB1)).mono ?_
      rintro e w2 ⟨rfl, hb2⟩
      have hX2 := hideE (hX0.out.below hb1 |>.below hb2)
      have c1b := hX2.out.c1
      have hB2 := bstep hB1 hb2
      have Hq2 := hideE (Hq.out.below hB2)
      have HE2 := HE.out w2 (Hh.out.below hB2) Hq2.out.parts
      obtain ⟨np, hnp⟩ : ∃ n, n = q.parts.length := ⟨_, rfl⟩
      have Hnp := hideE hnp
      rw [← hnp] at HE2 c1b
      clear c0 c1 c2 c3 c4 c5 HC HS hb1 hb2 hB1 hX0 hB0 Hq Hh HE
      dsimp only
      rw [← hnp]
      clear hnp
      go_wp2_with fail
      refine HE2.mono ?_
      rintro e w3 ⟨rfl, hr3, hb3⟩
      have c1c := cell_k c1b hb3
      have hB3 := bstep hB2 hb3
      have hr3' := hideE hr3.sl
      have hz3 : w2.heap.size < w3.heap.size := World.block_lt_of_cell? w3 ⟨w2.heap.size, 0, none⟩ (hr3.at_ 0 (by simp [toI, countsL]; exact hpos.out))
      have HT3 := HT.out w3 (some ⟨w2.heap.size, 0, none⟩) (Hq2.out.parts.below hb3) hr3.sl (fun b o e => by
        have e2 : w2.heap.size = b := by simpa using (congrArg (fun a : Option Addr => a.map Addr.block) e)
        omega)
      rw [hcl.out, ← Hnp.out] at HT3
      have HB3 := hideE hB3
      clear hr3 hb3 HT c1b
      dsimp only
      go_wp2_with fail
      refine HT3.mono ?_
      rintro e w4 ⟨hb4, az, cz, rfl, hsl⟩
      rw [hol.out] at hsl ⊢
      rw [hlen.out]
      have Hsl := hideE hsl
      have Hb4 := hideE (bstep HB3.out hb4)
      clear hsl hb4
      dsimp only
      go_wp2_with fail
      exact HQ.out _ _ ⟨Hb4.out, fun h => absurd hzero.out h, fun _ => ⟨az, cz, rfl, Hsl.out⟩⟩
    · have h0 := hideE (show orderN S q = askN q from orderN_a hs)
      have h1 := hideE hk
      generalize askN q = n1 at *
      have e1 : (n1 == 0) = false := by simpa using hk
      rw [hs] at HS
      clear hs hk
      go_enter Try.func5, Try.ntmps5
      go_upto_region 1 with fail
      rw [← hW0]
      clear hW0
      go_wp2_with fail
      refine (HS _ (Hh.out.below hB0)).mono ?_
      rintro e w1 ⟨rfl, hb1⟩
      obtain ⟨c0, c1, c2, c3, c4, c5⟩ := hX0.out.below hb1
      have hB1 := bstep hB0 hb1
      dsimp only
      go_wp2_with fail
      refine (HC _ (Hq.out.below hB1)).mono ?_
      rintro e w2 ⟨rfl, hb2⟩
      go_wp2_with fail
      exact HQ.out _ _ (OrderAns.bad (bstep hB1 hb2) h0.out h1.out)
  · have h0 := hideE (orderN_s (q := q) hs)
    have h1 := hideE hs
    generalize sortedN S = n1 at *
    have e1 : (n1 == 0) = false := by simpa using hs
    clear hs HC
    go_enter Try.func5, Try.ntmps5
    go_upto_region 1 with fail
    rw [← hW0]
    clear hW0
    go_wp2_with fail
    refine (HS _ (Hh.out.below hB0)).mono ?_
    rintro e w1 ⟨rfl, hb1⟩
    go_wp2_with fail
    exact HQ.out _ _ (OrderAns.bad (bstep hB0 hb1) h0.out h1.out)
end Go.Proofs.Ytcdbcoaiadipjaa

/- An append of a list of texts to a row of one's own. -/
namespace Go.Proofs.Ytcdbcoaiadipjaa
open Go Go.RowKit Go.Proofs Go.Maps
set_option synthInstance.maxSize 1000

theorem append_emptyW {W : World} {base : Nat} {v : Value} {t : List (List UInt8)} (h : W.ownsRow base 9 1 v t.length (t.map encV)) (ad : Option Addr) (c : Nat) (ty : TypeId) : (Builtin.append_ #[23, 23] ty #[v, .slice ad 0 c]).run Try.prog W = .ok v W := by
  obtain ⟨i, hi, hz⟩ := Option.map_eq_some_iff.1 infoStrV
  have hf : (Builtin.firstCells i.size 0 (.slice ad 0 c)).run Try.prog W = .ok #[] W := by
    cases ad with
    | none => exact run_firstCells_none W _ _ _ _
    | some a => exact run_firstCells_some (P := Try.prog) W i.size 0 a 0 c [] (by simp) (by simp)
  rcases h.2 with ⟨rfl, h0⟩ | ⟨g, cc, cur, rfl, _, _, hle, _⟩
  · simp [Builtin.append_, run_underlying Try.underlying23, sizeOf, typeInfo, hi, Builtin.lenOf, hf]
  · simp [Builtin.append_, run_underlying Try.underlying23, sizeOf, typeInfo, hi, Builtin.lenOf, hf, hle, storeCells]
/-- an append of a list of texts to a row of one's own: just that row turns -/
theorem wpList_append_textsW {ops : Array Oper} {rest : List Oper} {o : Oper} {a : Act} {Q : Exit → Act → World → Prop} (w : World) (hgd : o.guard = none) (s x : Operand)
    (ho : o.op = .call { callee := .builtin .append, args := #[s, x], argTypes := #[23, 23] })
    (base : Nat) (v : Value) (t l : List (List UInt8)) (ad : Option Addr) (c : Nat) (hs : a.eval s = v) (hx : a.eval x = .slice ad l.length c) (hown : w.ownsRow base 9 1 v t.length (t.map encV)) (hl : SlW w ad l)
    (h63 : t.length + l.length ≤ 1000000) (hbase : base ≤ w.heap.size)
    (h : ∀ v' w', w'.ownsRow base 9 1 v' (t ++ l).length ((t ++ l).map encV) → w.grownBy w' v.ownBlock → wpList Try.prog ops Q rest (a.put o.dst v') w') : wpList Try.prog ops Q (o :: rest) a w := by
  obtain ⟨i0, hi, hz⟩ := Option.map_eq_some_iff.1 infoStrV
  simp only [Prod.mk.injEq] at hz
  obtain ⟨hz0, hz1, hz2⟩ := hz
  cases l with
  | nil =>
    refine Lib.wpList_append_run w hgd s x _ _ ho v _ hs hx v w (append_emptyW hown ad c _) (h v w ?_ (World.grownBy.refl _ _))
    simpa using hown
  | cons y r =>
    obtain ⟨b, off, rfl, hr⟩ := hl (by simp)
    refine wpList_append_own w hgd s x _ ho base 9 i0 (.string ByteArray.empty) 1 16 Try.underlying23 hi hz0 hz1 hz2 rfl (by decide) v t.length (t.map encV) hs hown ⟨b, off, none⟩ (y :: r).length c ((y :: r).map encV) hx (by simp) ?_ (fun u hu => by obtain ⟨z, _, rfl⟩ := List.mem_map.1 hu; rfl) (by unfold maxLen; omega) (by omega) hbase ?_
    · intro j u hj
      have hj' : j < (y :: r).length := by have := (List.getElem?_eq_some_iff.1 hj).1; simpa using this
      rw [Addr.add_lit, hr j hj']
      rw [List.getElem?_map, List.getElem?_eq_getElem hj'] at hj
      exact hj
    · intro v' w' h2 h3 _
      refine h v' w' ?_ h3
      rw [List.length_append]
      simpa using h2
end Go.Proofs.Ytcdbcoaiadipjaa
