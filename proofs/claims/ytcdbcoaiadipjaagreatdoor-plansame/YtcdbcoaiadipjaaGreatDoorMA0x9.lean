import Derived.Deep.QuietTactic
import Derived.BigQuiet
import Derived.WalkKit
import Derived.Test.YtcdbcoaiadipjaaGreatDoorMA0x8
import Derived.Deep.DeepCutAuto
import Derived.Test.YtcdbcoaiadipjaaGreatDoorMA0x5
import Derived.Test.YtcdbcoaiadipjaaGreatDoorMA0x3
import Derived.Test.YtcdbcoaiadipjaaGreatDoorMA0x6

/- A region that draws its order, whose operations only read and whose calls leave all that was: walked once, in the order of the text. -/
namespace Go.Proofs.YtcdbcoaiadipjaaGreatDoor
open Go Go.RowKit Go.Proofs

/-- the worlds in which nothing old has turned -/
structure Lat (w : World) where
  val : World
  low : RowKit.Below w.heap.size w val
theorem lat_some (w : World) : Nonempty (Lat w) := ⟨⟨w, RowKit.Below.refl _ _⟩⟩
theorem lat_cell {w : World} {p : Addr} {v : Value} (h : w.cell? p = some v) : ∀ n : Lat w, n.val.cell? p = some v := fun n => (n.low.cell (World.block_lt_of_cell? w p h)).trans h
theorem lat_region {P : Program} {id : Nat} {Q : Exit → Act → World → Prop} {a : Act} {w : World} {l : List Oper} (hm : P.follows .mixedOrders = true) (hB : Region.lexB .any l.toArray = true)
    (h : wpQuiet P l.toArray (fun W => ∃ n : Lat w, W = n.val) (fun a' => ∀ W, (∃ n : Lat w, W = n.val) → Q .normal a' W) l a) : (Code.region id l.toArray true).wp P Q a w :=
  wp_region_quiet (C := fun W => ∃ n : Lat w, W = n.val) hm hB ⟨⟨w.drew, (RowKit.Below.refl _ _).drew⟩, rfl⟩ (by simpa using h)
theorem lat_call {P : Program} {f : FuncId} {args : Array Value} {w : World} {n : Lat w} {v : Value}
    (h : Calls P f args n.val fun e w' => e = .returned v ∧ RowKit.Below n.val.heap.size n.val w') : Calls P f args n.val fun e w'' => e = .returned v ∧ ∃ m : Lat w, w'' = m.val :=
  h.mono fun _ w' ⟨he, hb⟩ => ⟨he, ⟨w', n.low.trans (hb.mono n.low.size)⟩, rfl⟩
end Go.Proofs.YtcdbcoaiadipjaaGreatDoor

/- The document's Check of a question (package strataref3). -/
namespace Go.Proofs.YtcdbcoaiadipjaaGreatDoor
open Go Go.RowKit Go.Proofs Go.Maps
set_option synthInstance.maxSize 1000

/-! ### one fault behind the other -/
section
variable {q : Qu}
theorem ask_full (h : 6 < q.parts.length) : askN q = 4 := by unfold askN; rw [if_pos h]
theorem ask_nil (h : q.parts = []) : askN q = 5 := by unfold askN; rw [if_neg (by rw [h]; decide), if_pos h]
theorem ask_part (h1 : ¬ 6 < q.parts.length) (h2 : ¬ q.parts = []) (h3 : partsN q.parts ≠ 0) : askN q = partsN q.parts := by unfold askN; rw [if_neg h1, if_neg h2, if_pos h3]
/-- what is asked of Vars, Order, Down and Limit -/
def askT (q : Qu) (V : List (List UInt8)) : Int := if 8 < V.length then 4
  else if q.vars = [] then 5 else if (∃ v ∈ q.vars, v ∉ V) then 5 else if ¬ q.vars.Nodup then 7 else if q.order ≠ [] ∧ q.order ∉ q.vars then 5
  else if q.down = true ∧ q.order = [] then 3 else if q.lim < -1 ∨ 500 < q.lim then 1 else 0
theorem ask_tail (h1 : ¬ 6 < q.parts.length) (h2 : ¬ q.parts = []) (h3 : partsN q.parts = 0) : askN q = askT q (partsV [] q.parts) := by unfold askN askT; rw [if_neg h1, if_neg h2, if_neg (fun h => h h3)]
variable {V : List (List UInt8)}
theorem askT_full (h : 8 < V.length) : askT q V = 4 := by unfold askT; rw [if_pos h]
theorem askT_nil (h1 : ¬ 8 < V.length) (h2 : q.vars = []) : askT q V = 5 := by unfold askT; rw [if_neg h1, if_pos h2]
theorem askT_out (h1 : ¬ 8 < V.length) (h2 : ¬ q.vars = []) (h3 : ∃ v ∈ q.vars, v ∉ V) : askT q V = 5 := by unfold askT; rw [if_neg h1, if_neg h2, if_pos h3]
theorem askT_twice (h1 : ¬ 8 < V.length) (h2 : ¬ q.vars = []) (h3 : ∀ v ∈ q.vars, v ∈ V) (h4 : ¬ q.vars.Nodup) : askT q V = 7 := by
  unfold askT; rw [if_neg h1, if_neg h2, if_neg (fun ⟨v, hv, hn⟩ => hn (h3 v hv)), if_pos h4]
def askE (q : Qu) : Int := if q.order ≠ [] ∧ q.order ∉ q.vars then 5 else if q.down = true ∧ q.order = [] then 3 else if q.lim < -1 ∨ 500 < q.lim then 1 else 0
theorem askT_end (h1 : ¬ 8 < V.length) (h2 : ¬ q.vars = []) (h3 : ∀ v ∈ q.vars, v ∈ V) (h4 : q.vars.Nodup) : askT q V = askE q := by
  unfold askT askE; rw [if_neg h1, if_neg h2, if_neg (fun ⟨v, hv, hn⟩ => hn (h3 v hv)), if_neg (fun h => h h4)]
end
theorem nodup_take {l : List (List UInt8)} {k : Nat} (h : (l.take k).Nodup) (hk : k < l.length) (hn : l[k] ∉ l.take k) : (l.take (k + 1)).Nodup := by
  rw [List.take_succ_eq_append_getElem hk]
  refine List.nodup_append.2 ⟨h, by simp, fun a ha b hb => ?_⟩
  simp only [List.mem_singleton] at hb
  subst hb
  exact fun e => hn (e ▸ ha)
theorem not_nodup {l : List (List UInt8)} {k : Nat} (hk : k < l.length) (hn : l[k] ∈ l.take k) : ¬ l.Nodup := fun h => by
  have h2 : (l.take (k + 1)).Nodup := h.sublist (List.take_sublist _ _)
  rw [List.take_succ_eq_append_getElem hk] at h2
  exact (List.nodup_append.1 h2).2.2 _ hn _ (List.mem_singleton.2 rfl) rfl

attribute [local go_sem ↓] eqlEmpty neqEmpty

set_option maxHeartbeats 16000000 in
set_option maxRecDepth 100000 in
theorem QCheck_any (q : Qu) (vd pd : Option Addr) (vc pc : Nat) (w : World) (h : QuIn w q vd pd) (hf : FitQ q) (hcap : q.vars.length ≤ vc) :
    Calls Tryz.prog 6 #[valQ q vd vc pd pc] w fun e w' => e = .returned (.int .i64 (askN q)) ∧ RowKit.Below w.heap.size w w' := by
  have HV := fun (h6 : q.parts.length ≤ 6) W hW => QVars_any q vd pd vc pc W (h.below hW) h6 hf.pt
  have Hvs := hideQ h.vars
  have fl := hf.vl
  have fp := hf.pl
  have fo := hf.ord
  unfold valQ at HV ⊢
  obtain ⟨w1, hw1⟩ : ∃ w1, w1 = w.alloc (.cells #[.slice vd q.vars.length vc, .slice pd q.parts.length pc, .string ⟨q.order.toArray⟩, .bool q.down, .bool q.dist, .int .i64 q.lim] 26) := ⟨_, rfl⟩
  have hb1 : RowKit.Below w.heap.size w w1 := by rw [hw1]; exact balloc _ _
  have HB : Hid (BoxQ w1 w.heap.size q vd pd vc pc) := by show BoxQ _ _ _ _ _ _ _; rw [hw1]; exact boxQ_new _ _ _ _ _ _
  obtain ⟨c0, c1, c2, c3, c4, c5⟩ := HB.out
  have hN := hideQ (rfl : askN q = askN q)
  have hw1' := hideQ hw1
  clear h hf
  go_enter Tryz.func6, Tryz.ntmps6
  go_upto_region 1 with fail
  rw [← hw1'.out]
  clear hw1 hw1'
  by_cases h6 : 6 < q.parts.length
  · have d1 : decide ((q.parts.length : Int) > 6) = true := by simp; omega
    have fin := hideQ (ask_full h6)
    go_wp2_with fail
    go_ret
    exact ⟨ret_int fin.out.symm, hb1⟩
  · have d1 : decide ((q.parts.length : Int) > 6) = false := by simp; omega
    by_cases h0 : q.parts = []
    · have d2 : ((q.parts.length : Int) == 0) = true := by simp [h0]
      have fin := hideQ (ask_nil h0)
      clear h0
      go_wp2_with fail
      go_ret
      exact ⟨ret_int fin.out.symm, hb1⟩
    · have d2 : ((q.parts.length : Int) == 0) = false := by simp; exact h0
      have HV1 := HV (by omega) w1 hb1
      clear HV
      by_cases hp : partsN q.parts = 0
      · have ft := hideQ (ask_tail h6 h0 hp)
        have d3 : (partsN q.parts != 0) = false := by simpa using hp
        go_wp2_with fail
        refine HV1.mono ?_
        rintro e w2 ⟨hb2, m, md, mc, rfl, hm, hmA⟩
        rw [if_pos hp] at hmA
        subst hmA
        have hB2 := bstep hb1 hb2
        have Hm := hideQ hm
        have HB2 := hideQ (HB.out.below hb2)
        have Hvs2 := hideQ (Hvs.out.below hB2)
        clear c0 c1 c2 c3 c4 c5 HB hm HV1 d1 d2 Hvs hp h0 h6
        obtain ⟨c0, c1, c2, c3, c4, c5⟩ := HB2.out
        generalize partsN q.parts = np at *
        generalize partsV [] q.parts = V at *
        by_cases h8 : 8 < V.length
        · have d4 : decide ((V.length : Int) > 8) = true := by simp; omega
          have fin : Hid (askN q = 4) := ft.out.trans (askT_full h8)
          go_wp2_with fail
          go_ret
          exact ⟨ret_int fin.out.symm, hB2⟩
        · have d4 : decide ((V.length : Int) > 8) = false := by simp; omega
          by_cases hv0 : q.vars = []
          · have d5 : ((q.vars.length : Int) == 0) = true := by simp [hv0]
            have fin : Hid (askN q = 5) := ft.out.trans (askT_nil h8 hv0)
            clear hv0
            go_wp2_with fail
            go_ret
            exact ⟨ret_int fin.out.symm, hB2⟩
          · have d5 : ((q.vars.length : Int) == 0) = false := by simp; exact hv0
            have Hv0 := hideQ hv0
            have H8 := hideQ h8
            have hV8 : V.length ≤ 8 := by omega
            clear hv0 h8
            go_wp2_with fail
            go_loop [5] (fun i => ∃ k : Nat, k ≤ q.vars.length ∧ i = .int .i64 k ∧ Hid (∀ j (hj : j < q.vars.length), j < k → q.vars[j] ∈ V)) (fun i => q.vars.length - (intOf i).toNat)
            case atStart => exact ⟨0, Nat.zero_le _, rfl, fun j _ h => absurd h (by omega)⟩
            case round =>
              obtain ⟨k, hk, rfl, hall⟩ := hrel
              by_cases hlt : k < q.vars.length
              · obtain ⟨b, off, rfl, ck⟩ := Hvs2.out.at k hlt
                have i0 : (0 : Int) ≤ (k : Int) := by omega
                have i1 : (k : Int) < (q.vars.length : Int) := by omega
                have HC := RHas_any md mc V q.vars[k] w2 Hm.out (by omega)
                cases hd : decide (q.vars[k] ∈ V)
                · rw [hd] at HC
                  have fin : Hid (askN q = 5) := ft.out.trans (askT_out H8.out Hv0.out ⟨_, List.getElem_mem hlt, by simpa using hd⟩)
                  clear hd
                  go_wp2_with fail
                  refine HC.mono ?_
                  rintro e w3 ⟨rfl, rfl⟩
                  go_wp2_with fail
                  go_ret
                  exact ⟨ret_int fin.out.symm, hB2⟩
                · rw [hd] at HC
                  have Hd := hideQ (of_decide_eq_true hd)
                  clear hd
                  go_wp2_with fail
                  refine HC.mono ?_
                  rintro e w3 ⟨rfl, hw3⟩
                  subst hw3
                  go_wp2_with fail
                  refine ⟨⟨k + 1, by omega, by go_num, fun j hj hjk => ?_⟩, by simp [intOf]; omega⟩
                  by_cases e : j = k
                  · subst e; exact Hd.out
                  · exact hall.out j hj (by omega)
              · obtain rfl : k = q.vars.length := by omega
                have hin := hideQ (fun v (hv : v ∈ q.vars) => by
                  obtain ⟨j, hj, rfl⟩ := List.getElem_of_mem hv
                  exact hall.out j hj hj : ∀ v ∈ q.vars, v ∈ V)
                clear hall
                go_wp2_with fail
                go_loopw [7] (fun i wr => ∃ k : Nat, k ≤ q.vars.length ∧ i = .int .i64 k ∧ Hid ((q.vars.take k).Nodup) ∧ RowKit.Below w2.heap.size w2 wr) (fun i wr => q.vars.length - (intOf i).toNat)
                case atStart => exact ⟨0, Nat.zero_le _, rfl, by show List.Nodup _; simp, RowKit.Below.refl _ _⟩
                case round =>
                  obtain ⟨k, hk, rfl, hnd, hbr⟩ := hrel
                  clear c0 c1 c2 c3 c4 c5
                  obtain ⟨c0, c1, c2, c3, c4, c5⟩ := (HB2.out.below hbr)
                  by_cases hlt : k < q.vars.length
                  · obtain ⟨b, off, rfl, ck⟩ := (Hvs2.out.below hbr).at k hlt
                    have i0 : (0 : Int) ≤ (k : Int) := by omega
                    have i1 : (k : Int) < (q.vars.length : Int) := by omega
                    have i2 : (k : Int) ≤ (vc : Int) := by omega
                    have hne := lat_some wr
                    have q0 := lat_cell c0
                    have q1 := lat_cell ck
                    have hlen : (q.vars.take k).length = k := by rw [List.length_take]; omega
                    have HC : ∀ n : Lat wr, Calls Tryz.prog 23 #[.slice (some ⟨b, off, none⟩) k vc, .string ⟨q.vars[k].toArray⟩] n.val fun e w' => e = .returned (.bool (decide (q.vars[k] ∈ q.vars.take k))) ∧ RowKit.Below n.val.heap.size n.val w' := fun n => by
                      have h1 := WHas_any (some ⟨b, off, none⟩) vc (q.vars.take k) q.vars[k] n.val (((Hvs2.out.below hbr).below n.low).take k) (by rw [hlen]; omega)
                      rw [hlen] at h1
                      refine h1.mono ?_
                      rintro e w' ⟨rfl, hw'⟩
                      subst hw'
                      exact ⟨rfl, RowKit.Below.refl _ _⟩
                    cases hd : decide (q.vars[k] ∈ q.vars.take k)
                    · rw [hd] at HC
                      have hnd2 := hideQ (nodup_take hnd.out hlt (by simpa using hd))
                      clear hd hnd
                      go_wp2_with fail
                      refine lat_region (by kernel_rfl) (by kernel_rfl) ?_
                      repeat (go_big_quiet_step (fail))
                      go_big_quiet_step (exact lat_call (HC _))
                      repeat (go_big_quiet_step (fail))
                      refine wpQuiet_nil ?_
                      intro w3 hw'
                      obtain ⟨nW, rfl⟩ := hw'
                      have hb3 := nW.low
                      go_wp2_with fail
                      go_roundw
                      case rel => exact ⟨k + 1, by omega, by go_num, hnd2, bstep hbr hb3⟩
                      case measure => simp [intOf]; omega
                    · rw [hd] at HC
                      have fin : Hid (askN q = 7) := ft.out.trans (askT_twice H8.out Hv0.out hin.out (not_nodup hlt (of_decide_eq_true hd)))
                      clear hd hnd
                      go_wp2_with fail
                      refine lat_region (by kernel_rfl) (by kernel_rfl) ?_
                      repeat (go_big_quiet_step (fail))
                      go_big_quiet_step (exact lat_call (HC _))
                      repeat (go_big_quiet_step (fail))
                      refine wpQuiet_nil ?_
                      intro w3 hw'
                      obtain ⟨nW, rfl⟩ := hw'
                      have hb3 := nW.low
                      go_wp2_with fail
                      go_ret
                      exact ⟨ret_int fin.out.symm, bstep hB2 (bstep hbr hb3)⟩
                  · obtain rfl : k = q.vars.length := by omega
                    have hnd' := hnd.out
                    rw [List.take_length] at hnd'
                    have fe : Hid (askN q = askE q) := ft.out.trans (askT_end H8.out Hv0.out hin.out hnd')
                    have HC := WHas_any vd vc q.vars q.order wr (Hvs2.out.below hbr) (by omega)
                    have hB3 := bstep hB2 hbr
                    clear hnd hnd' ft hin H8 Hv0 Hm Hvs2 HB2
                    have fin : ∀ x : Int, askE q = x → Hid (askN q = x) := fun x h => fe.out.trans h
                    unfold askE at fin
                    by_cases ho : q.order = []
                    · have de : q.order.isEmpty = true := by simp [ho]
                      have f1 : ∀ x : Int, (if q.down = true then 3 else if q.lim < -1 ∨ 500 < q.lim then 1 else 0) = x → Hid (askN q = x) := fun x h => fin x (by rw [if_neg (fun h => h.1 ho)]; simpa [ho] using h)
                      have F1 := hideQ f1
                      clear fin ho f1 fe
                      generalize decide (q.order ∈ q.vars) = hs at *
                      go_wp2_with fail
                      refine HC.mono ?_
                      rintro e w3 ⟨rfl, hw3⟩
                      subst hw3
                      cases hdn : q.down
                      · rw [hdn] at c3
                        by_cases l1 : q.lim < -1
                        · have dl : decide (q.lim < -1) = true := by simpa using l1
                          have fin := F1.out 1 (by simp [hdn, l1])
                          clear l1
                          go_wp2_with fail
                          go_ret
                          exact ⟨ret_int fin.out.symm, hB3⟩
                        · have dl : decide (q.lim < -1) = false := by simpa using l1
                          by_cases l2 : 500 < q.lim
                          · have dm : decide (q.lim > 500) = true := by simpa using l2
                            have fin := F1.out 1 (by simp [hdn, l2])
                            clear l1 l2
                            go_wp2_with fail
                            go_ret
                            exact ⟨ret_int fin.out.symm, hB3⟩
                          · have dm : decide (q.lim > 500) = false := by simpa using l2
                            have fin := F1.out 0 (by simp [hdn, l1, l2])
                            clear l1 l2
                            go_wp2_with fail
                            go_ret
                            exact ⟨ret_int fin.out.symm, hB3⟩
                      · rw [hdn] at c3
                        have fin := F1.out 3 (by simp [hdn])
                        go_wp2_with fail
                        go_ret
                        exact ⟨ret_int fin.out.symm, hB3⟩
                    · have de : q.order.isEmpty = false := by simp [ho]
                      cases hd : decide (q.order ∈ q.vars)
                      · rw [hd] at HC
                        have fin := fin 5 (by rw [if_pos ⟨ho, by simpa using hd⟩])
                        clear ho hd fe
                        go_wp2_with fail
                        refine HC.mono ?_
                        rintro e w3 ⟨rfl, hw3⟩
                        subst hw3
                        go_wp2_with fail
                        go_ret
                        exact ⟨ret_int fin.out.symm, hB3⟩
                      · rw [hd] at HC
                        have f1 : ∀ x : Int, (if q.lim < -1 ∨ 500 < q.lim then 1 else 0) = x → Hid (askN q = x) := fun x h => fin x (by rw [if_neg (fun h => h.2 (of_decide_eq_true hd)), if_neg (fun h => ho h.2)]; exact h)
                        have F1 := hideQ f1
                        clear ho hd fe fin f1
                        go_wp2_with fail
                        refine HC.mono ?_
                        rintro e w3 ⟨rfl, hw3⟩
                        subst hw3
                        cases hdn : q.down
                        · rw [hdn] at c3
                          by_cases l1 : q.lim < -1
                          · have dl : decide (q.lim < -1) = true := by simpa using l1
                            have fin := F1.out 1 (by simp [l1])
                            clear l1
                            go_wp2_with fail
                            go_ret
                            exact ⟨ret_int fin.out.symm, hB3⟩
                          · have dl : decide (q.lim < -1) = false := by simpa using l1
                            by_cases l2 : 500 < q.lim
                            · have dm : decide (q.lim > 500) = true := by simpa using l2
                              have fin := F1.out 1 (by simp [l2])
                              clear l1 l2
                              go_wp2_with fail
                              go_ret
                              exact ⟨ret_int fin.out.symm, hB3⟩
                            · have dm : decide (q.lim > 500) = false := by simpa using l2
                              have fin := F1.out 0 (by simp [l1, l2])
                              clear l1 l2
                              go_wp2_with fail
                              go_ret
                              exact ⟨ret_int fin.out.symm, hB3⟩
                        · rw [hdn] at c3
                          by_cases l1 : q.lim < -1
                          · have dl : decide (q.lim < -1) = true := by simpa using l1
                            have fin := F1.out 1 (by simp [l1])
                            clear l1
                            go_wp2_with fail
                            go_ret
                            exact ⟨ret_int fin.out.symm, hB3⟩
                          · have dl : decide (q.lim < -1) = false := by simpa using l1
                            by_cases l2 : 500 < q.lim
                            · have dm : decide (q.lim > 500) = true := by simpa using l2
                              have fin := F1.out 1 (by simp [l2])
                              clear l1 l2
                              go_wp2_with fail
                              go_ret
                              exact ⟨ret_int fin.out.symm, hB3⟩
                            · have dm : decide (q.lim > 500) = false := by simpa using l2
                              have fin := F1.out 0 (by simp [l1, l2])
                              clear l1 l2
                              go_wp2_with fail
                              go_ret
                              exact ⟨ret_int fin.out.symm, hB3⟩
      · have fin := hideQ (ask_part h6 h0 hp)
        have d3 : (partsN q.parts != 0) = true := by simpa using hp
        go_wp2_with fail
        refine HV1.mono ?_
        rintro e w2 ⟨hb2, m, md, mc, rfl, _, _⟩
        go_wp2_with fail
        go_ret
        exact ⟨ret_int fin.out.symm, bstep hb1 hb2⟩
end Go.Proofs.YtcdbcoaiadipjaaGreatDoor

/- ask.varsFault, ask.Check; slices.ContainsFunc at texts with whatever test. -/
namespace Go.Proofs.YtcdbcoaiadipjaaGreatDoor
open Go Go.RowKit Go.Proofs Go.Maps
set_option synthInstance.maxSize 1000

attribute [local go_sem] eql_errV neq_errV guard_errV

/-- what is asked of a test of texts -/
def PredT (g : Nat) (lb : Array Value) (p : List UInt8 → Bool) (w : World) : Prop :=
  ∀ (W : World) (x : List UInt8), RowKit.Below w.heap.size w W → Calls Tryz.prog g (#[.string ⟨x.toArray⟩] ++ lb) W fun e w' => e = .returned (.bool (p x)) ∧ RowKit.Below W.heap.size W w'
theorem anyT_hit {l : List (List UInt8)} {p : List UInt8 → Bool} {k : Nat} (hk : k < l.length) (h : p l[k] = true) : l.any p = true := by
  rw [List.any_eq_true]
  exact ⟨_, List.getElem_mem hk, h⟩
theorem anyT_miss {l : List (List UInt8)} {p : List UInt8 → Bool} (h : ∀ (j : Nat) (hj : j < l.length), p l[j] = false) : l.any p = false := by
  rw [List.any_eq_false]
  intro x hx
  obtain ⟨j, hj, rfl⟩ := List.getElem_of_mem hx
  rw [h j hj]
  simp
set_option maxHeartbeats 4000000 in
set_option maxRecDepth 100000 in
theorem TIndex_any (g : Nat) (lb : Array Value) (p : List UInt8 → Bool) (w : World) (ad : Option Addr) (ca : Nat) (l : List (List UInt8)) (eg : ∀ args w, (callFunc g args).run Tryz.prog w = .ok (.enter g args) w) (hp : PredT g lb p w) (hs : SlW w ad l) (hl : l.length ≤ 9223372036854775807) :
    Calls Tryz.prog 144 #[.slice ad l.length ca, .func (.func g) #[] lb] w fun e w' => (∃ r : Int, e = .returned (.int .i64 r) ∧ decide (0 ≤ r) = l.any p) ∧ RowKit.Below w.heap.size w w' := by
  have H := hideQ hp
  have HS := hideQ hs
  clear hp hs
  go_enter Tryz.func144, Tryz.ntmps144
  go_wp2_with fail
  go_loopw [8] (fun i wr => ∃ (k : Nat), k ≤ l.length ∧ i = .int .i64 k ∧ RowKit.Below w.heap.size w wr ∧ Hid (∀ (j : Nat) (hj : j < l.length), j < k → p l[j] = false)) (fun i wr => l.length - (intOf i).toNat)
  case atStart => exact ⟨0, Nat.zero_le _, rfl, RowKit.Below.refl _ w, fun j hj h0 => by omega⟩
  case round =>
    obtain ⟨k, hk, rfl, hbr, hall⟩ := hrel
    by_cases hlt : k < l.length
    · obtain ⟨b, o, rfl, hc⟩ := (HS.out.below hbr).at k hlt
      have hcall := H.out wr l[k] hbr
      have i0 : (0 : Int) ≤ (k : Int) := by omega
      have i1 : (k : Int) < (l.length : Int) := by omega
      have HV : Hid (∀ q, p l[k] = q → (q = false → (∀ (j : Nat) (hj : j < l.length), j < k + 1 → p l[j] = false)) ∧ (q = true → l.any p = true)) := by
        intro q hq
        refine ⟨fun e j hj h1 => ?_, fun e => anyT_hit hlt (hq.trans e)⟩
        by_cases ej : j = k
        · subst ej; exact hq.trans e
        · exact hall.out j hj (by omega)
      cases hq : p l[k] with
      | false =>
        rw [hq] at hcall
        have hnext : Hid (∀ (j : Nat) (hj : j < l.length), j < k + 1 → p l[j] = false) := (HV.out _ hq).1 rfl
        clear HV hq hall
        generalize l[k] = z at *
        go_wp2_with (go_at_fn g; refine hcall.mono ?_; rintro e w' ⟨rfl, hb'⟩; dsimp only)
        go_roundw
        case rel => exact ⟨k + 1, by omega, by go_num, bstep hbr hb', hnext⟩
        case measure => simp [intOf]; omega
      | true =>
        rw [hq] at hcall
        have hno2 : Hid (l.any p = true) := (HV.out _ hq).2 rfl
        clear HV hq hall
        generalize l[k] = z at *
        go_wp2_with (go_at_fn g; refine hcall.mono ?_; rintro e w' ⟨rfl, hb'⟩; dsimp only)
        go_ret
        exact ⟨⟨(k : Int), rfl, by rw [hno2.out]; simp⟩, bstep hbr hb'⟩
    · have hkk : k = l.length := by omega
      have hyes : Hid (l.any p = false) := anyT_miss fun j hj => hall.out j hj (by omega)
      subst hkk
      clear hall
      go_wp2_with fail
      go_ret
      exact ⟨⟨-1, rfl, by rw [hyes.out]; rfl⟩, hbr⟩
set_option maxHeartbeats 1000000 in
theorem TContains_any (g : Nat) (lb : Array Value) (p : List UInt8 → Bool) (w : World) (ad : Option Addr) (ca : Nat) (l : List (List UInt8)) (eg : ∀ args w, (callFunc g args).run Tryz.prog w = .ok (.enter g args) w) (hp : PredT g lb p w) (hs : SlW w ad l) (hl : l.length ≤ 9223372036854775807) :
    Calls Tryz.prog 117 #[.slice ad l.length ca, .func (.func g) #[] lb] w fun e w' => e = .returned (.bool (l.any p)) ∧ RowKit.Below w.heap.size w w' := by
  have hc := TIndex_any g lb p w ad ca l eg hp hs hl
  clear hp hs
  generalize l.any p = q at *
  go_enter Tryz.func117, Tryz.ntmps117
  go_wp2_with fail
  refine hc.mono ?_
  rintro e w1 ⟨⟨r, rfl, hr⟩, hb1⟩
  dsimp only
  go_wp2_with fail
  go_ret
  exact ⟨rfl, hb1⟩
theorem vfault1_any (V : List (List UInt8)) (vd : Option Addr) (vc b : Nat) (x : List UInt8) (W : World) (hb : W.cell? ⟨b, 0, none⟩ = some (.slice vd V.length vc)) (hs : SlW W vd V) (hl : V.length ≤ 100) :
    Calls Tryz.prog 116 #[.string ⟨x.toArray⟩, .pointer (some ⟨b, 0, none⟩)] W fun e w' => e = .returned (.bool (!decide (x ∈ V))) ∧ RowKit.Below W.heap.size W w' := by
  have HC := ContainsW_any vd vc V x W hs (by omega)
  generalize decide (x ∈ V) = d at *
  go_enter Tryz.func116, Tryz.ntmps116
  go_wp2_with fail
  refine HC.mono ?_
  rintro e w1 ⟨rfl, hw1⟩
  subst hw1
  dsimp only
  go_wp2_with fail
  go_ret
  exact ⟨rfl, RowKit.Below.refl _ _⟩
theorem entersVF : ∀ args w, (callFunc 116 args).run Tryz.prog w = .ok (.enter 116 args) w := enters_of Tryz.func116 (by kernel_rfl) rfl
/-- what is wrong with the variables that are told -/
def faultV (T V : List (List UInt8)) : Int := if T = [] then 5 else if (∃ v ∈ T, v ∉ V) then 5 else if ¬ T.Nodup then 7 else 0
theorem any_out {T V : List (List UInt8)} : T.any (fun x => !decide (x ∈ V)) = decide (∃ v ∈ T, v ∉ V) := by
  rw [Bool.eq_iff_iff, List.any_eq_true, decide_eq_true_eq]
  constructor
  · rintro ⟨x, hx, h⟩
    exact ⟨x, hx, by simpa using h⟩
  · rintro ⟨x, hx, h⟩
    exact ⟨x, hx, by simpa using h⟩
set_option maxHeartbeats 4000000 in
set_option maxRecDepth 100000 in
theorem VarsFault_any (T V : List (List UInt8)) (td vd : Option Addr) (tc vc : Nat) (w : World) (hT : SlW w td T) (hV : SlW w vd V) (hl : T.length ≤ 9223372036854775807) (htc : T.length ≤ tc) (hv : V.length ≤ 100) :
    Calls Tryz.prog 77 #[.slice td T.length tc, .slice vd V.length vc] w fun e w' => e = .returned (errV (faultV T V)) ∧ RowKit.Below w.heap.size w w' := by
  obtain ⟨w0, hw0⟩ : ∃ w0, w0 = w.alloc (.cells #[.slice vd V.length vc] 23) := ⟨_, rfl⟩
  have hb0 : RowKit.Below w.heap.size w w0 := by rw [hw0]; exact balloc _ _
  have c0 : w0.cell? ⟨w.heap.size, 0, none⟩ = some (.slice vd V.length vc) := by rw [hw0]; go_simp
  have hT0 := hideQ (hT.below hb0)
  have HC := TContains_any 116 #[.pointer (some ⟨w.heap.size, 0, none⟩)] (fun x => !decide (x ∈ V)) w0 td tc T entersVF (fun W x hW => vfault1_any V vd vc w.heap.size x W ((hW.cell (World.block_lt_of_cell? w0 _ c0)).trans c0) ((hV.below hb0).below hW) hv) hT0.out hl
  rw [any_out] at HC
  have HW := hideQ hw0
  have hF : Hid (faultV T V = if T = [] then 5 else if (∃ v ∈ T, v ∉ V) then 5 else if ¬ T.Nodup then 7 else 0) := rfl
  clear hw0 hT hV c0
  generalize faultV T V = F at *
  by_cases h0 : T = []
  · have d2 : ((T.length : Int) == 0) = true := by simp [h0]
    have fin : Hid (F = 5) := by show _ = _; rw [hF.out, if_pos h0]
    clear h0 HC
    go_enter Tryz.func77, Tryz.ntmps77
    go_wp2_with fail
    go_ret
    exact ⟨ret_val (by rw [fin.out]; rfl), by rw [← HW.out]; exact hb0⟩
  · have d2 : ((T.length : Int) == 0) = false := by simp; exact h0
    by_cases h1 : ∃ v ∈ T, v ∉ V
    · rw [decide_eq_true h1] at HC
      have fin : Hid (F = 5) := by show _ = _; rw [hF.out, if_neg h0, if_pos h1]
      clear h0 h1
      go_enter Tryz.func77, Tryz.ntmps77
      go_wp2_with fail
      rw [← HW.out]
      refine HC.mono ?_
      rintro e w1 ⟨rfl, hb1⟩
      dsimp only
      go_wp2_with fail
      go_ret
      exact ⟨ret_val (by rw [fin.out]; rfl), bstep hb0 hb1⟩
    · rw [decide_eq_false h1] at HC
      have hF2 : Hid (F = if ¬ T.Nodup then 7 else 0) := by show _ = _; rw [hF.out, if_neg h0, if_neg h1]
      clear h0 h1 hF
      go_enter Tryz.func77, Tryz.ntmps77
      go_wp2_with fail
      rw [← HW.out]
      refine HC.mono ?_
      rintro e w1 ⟨rfl, hb1⟩
      dsimp only
      have hT1 := hideQ (hT0.out.below hb1)
      go_wp2_with fail
      go_loop [20] (fun i => ∃ k : Nat, k ≤ T.length ∧ i = .int .i64 k ∧ Hid ((T.take k).Nodup)) (fun i => T.length - (intOf i).toNat)
      case atStart => exact ⟨0, Nat.zero_le _, rfl, by show List.Nodup _; simp⟩
      case round =>
        obtain ⟨k, hk, rfl, hnd⟩ := hrel
        by_cases hlt : k < T.length
        · obtain ⟨b, off, rfl, ck⟩ := hT1.out.at k hlt
          have i0 : (0 : Int) ≤ (k : Int) := by omega
          have i1 : (k : Int) < (T.length : Int) := by omega
          have i2 : (k : Int) ≤ (tc : Int) := by omega
          have hlen : (T.take k).length = k := by rw [List.length_take]; omega
          have HH := ContainsW_any (some ⟨b, off, none⟩) tc (T.take k) T[k] w1 (hT1.out.take k) (by rw [hlen]; omega)
          rw [hlen] at HH
          cases hd : decide (T[k] ∈ T.take k)
          · rw [hd] at HH
            have hnd2 := hideQ (nodup_take hnd.out hlt (by simpa using hd))
            clear hd hnd hlen
            go_wp2_with fail
            refine HH.mono ?_
            rintro e w3 ⟨rfl, hw3⟩
            subst hw3
            dsimp only
            go_wp2_with fail
            exact ⟨⟨k + 1, by omega, by go_num, hnd2⟩, by simp [intOf]; omega⟩
          · rw [hd] at HH
            have fin : Hid (F = 7) := by show _ = _; rw [hF2.out, if_pos (not_nodup hlt (of_decide_eq_true hd))]
            clear hd hnd hlen
            go_wp2_with fail
            refine HH.mono ?_
            rintro e w3 ⟨rfl, hw3⟩
            subst hw3
            dsimp only
            go_wp2_with fail
            go_ret
            exact ⟨ret_val (by rw [fin.out]; rfl), bstep hb0 hb1⟩
        · obtain rfl : k = T.length := by omega
          have hnd' := hnd.out
          rw [List.take_length] at hnd'
          have fin : Hid (F = 0) := by show _ = _; rw [hF2.out, if_neg (fun h => h hnd')]
          clear hnd hnd'
          go_wp2_with fail
          go_ret
          exact ⟨ret_val (by rw [fin.out]; rfl), bstep hb0 hb1⟩
/-! ### Check -/
theorem ask_vof {q : Qu} (h : vofN q.parts ≠ 0) : askN q = vofN q.parts := by
  unfold vofN at h ⊢
  unfold askN
  by_cases h1 : 6 < q.parts.length
  · rw [if_pos h1, if_pos h1]
  · rw [if_neg h1] at h ⊢
    rw [if_neg h1]
    by_cases h2 : q.parts = []
    · rw [if_pos h2, if_pos h2]
    · rw [if_neg h2] at h ⊢
      rw [if_neg h2]
      by_cases h3 : partsN q.parts ≠ 0
      · rw [if_pos h3, if_pos h3]
      · rw [if_neg h3] at h ⊢
        rw [if_neg h3]
        by_cases h4 : 8 < (partsV [] q.parts).length
        · rw [if_pos h4, if_pos h4]
        · rw [if_neg h4] at h
          exact absurd rfl h
theorem ask_fault {q : Qu} (h : vofN q.parts = 0) : askN q = if faultV q.vars (partsV [] q.parts) ≠ 0 then faultV q.vars (partsV [] q.parts) else askE q := by
  unfold vofN at h
  have h1 : ¬ 6 < q.parts.length := fun k => by rw [if_pos k] at h; cases h
  rw [if_neg h1] at h
  have h2 : ¬ q.parts = [] := fun k => by rw [if_pos k] at h; cases h
  rw [if_neg h2] at h
  have h3 : partsN q.parts = 0 := Classical.byContradiction fun k => by rw [if_pos k] at h; exact k h
  rw [if_neg (fun k => k h3)] at h
  have h4 : ¬ 8 < (partsV [] q.parts).length := fun k => by rw [if_pos k] at h; cases h
  rw [ask_tail h1 h2 h3]
  unfold faultV
  by_cases h5 : q.vars = []
  · rw [if_pos h5, askT_nil h4 h5]; rfl
  · by_cases h6 : ∃ v ∈ q.vars, v ∉ partsV [] q.parts
    · rw [if_neg h5, if_pos h6, askT_out h4 h5 h6]; rfl
    · have h6' : ∀ v ∈ q.vars, v ∈ partsV [] q.parts := fun v hv => Classical.byContradiction fun k => h6 ⟨v, hv, k⟩
      by_cases h7 : q.vars.Nodup
      · have hz : (if ¬ q.vars.Nodup then (7 : Int) else 0) = 0 := if_neg (fun k => k h7)
        rw [if_neg h5, if_neg h6, hz, askT_end h4 h5 h6' h7]
        rfl
      · have hz : (if ¬ q.vars.Nodup then (7 : Int) else 0) = 7 := if_pos h7
        rw [if_neg h5, if_neg h6, hz, askT_twice h4 h5 h6' h7]
        rfl

attribute [local go_sem ↓] eqlEmpty neqEmpty
set_option maxHeartbeats 8000000 in
set_option maxRecDepth 100000 in
theorem CheckO_any (q : Qu) (vd pd : Option Addr) (vc pc : Nat) (w : World) (h : QuIn w q vd pd) (hf : FitQ q) (hvc : q.vars.length ≤ vc) :
    Calls Tryz.prog 47 #[valQ q vd vc pd pc] w fun e w' => e = .returned (errV (askN q)) ∧ RowKit.Below w.heap.size w w' := by
  obtain ⟨w1, hw1⟩ : ∃ w1, w1 = w.alloc (.cells #[.slice vd q.vars.length vc, .slice pd q.parts.length pc, .string ⟨q.order.toArray⟩, .bool q.down, .bool q.dist, .int .i64 q.lim] 26) := ⟨_, rfl⟩
  have hb1 : RowKit.Below w.heap.size w w1 := by rw [hw1]; exact balloc _ _
  have HB : Hid (BoxQ w1 w.heap.size q vd pd vc pc) := by show BoxQ _ _ _ _ _ _ _; rw [hw1]; exact boxQ_new _ _ _ _ _ _
  have Hin := hideQ (h.below hb1)
  have HV := VarsOf_any q.parts pd pc w1 (Hin.out.parts) hf.pt hf.pl
  have HF := fun W V ad cap hW hV hv => VarsFault_any q.vars V vd ad vc cap W (Hin.out.vars.below hW) hV hf.vl hvc hv
  have HO := fun W hW => ContainsW_any vd vc q.vars q.order W (Hin.out.vars.below hW) hf.vl
  have hN1 := hideQ (fun h => ask_vof (q := q) h)
  have hN2 := hideQ (fun h => ask_fault (q := q) h)
  have hE : Hid (askE q = if q.order ≠ [] ∧ q.order ∉ q.vars then 5 else if q.down = true ∧ q.order = [] then 3 else if q.lim < -1 ∨ 500 < q.lim then 1 else 0) := rfl
  have HW := hideQ hw1
  unfold valQ
  clear h hf hw1
  unfold VofAns at HV
  generalize askN q = N at *
  generalize askE q = E at *
  generalize vofN q.parts = vn at *
  go_enter Tryz.func47, Tryz.ntmps47
  go_upto_region 1 with fail
  rw [← HW.out]
  obtain ⟨c0, c1, c2, c3, c4, c5⟩ := HB.out
  go_wp2_with fail
  refine HV.mono ?_
  rintro e w2 ⟨m, ad, cap, rfl, hm, hml, hme, hb2⟩
  dsimp only
  clear HV c0 c1 c2 c3 c4 c5
  by_cases h0 : vn = 0
  · subst h0
    have em := hme rfl
    have HFW := HF w2 m ad cap hb2 hm hml
    have hN3 := hideQ (hN2.out rfl)
    rw [← em] at hN3
    obtain ⟨c0, c1, c2, c3, c4, c5⟩ := HB.out.below hb2
    clear HF hme em hN1 hN2
    generalize faultV q.vars m = fn at *
    go_wp2_with fail
    refine HFW.mono ?_
    rintro e w3 ⟨rfl, hb3⟩
    dsimp only
    clear c0 c1 c2 c3 c4 c5 HFW
    by_cases h1 : fn = 0
    · subst h1
      have hN4 : Hid (N = E) := by show _ = _; rw [hN3.out]; rfl
      have hB3 := bstep hb2 hb3
      obtain ⟨c0, c1, c2, c3, c4, c5⟩ := HB.out.below hB3
      have HC := HO w3 hB3
      have hBB := bstep hb1 hB3
      clear HO hN3
      cases ho : q.order.isEmpty with
      | true =>
        have ho' : q.order = [] := by simpa using ho
        have e1 : Hid (E = if q.down = true then 3 else if q.lim < -1 ∨ 500 < q.lim then 1 else 0) := by show _ = _; rw [hE.out, if_neg (fun k => k.1 ho')]; simp [ho']
        clear hE HC ho'
        cases hd : q.down with
        | true =>
          have fin : Hid (N = 3) := by show _ = _; rw [hN4.out, e1.out, if_pos hd]
          rw [hd] at c3
          go_wp2_with fail
          go_ret
          exact ⟨ret_val (by rw [fin.out]; rfl), hBB⟩
        | false =>
          have e2 : Hid (E = if q.lim < -1 ∨ 500 < q.lim then 1 else 0) := by show _ = _; rw [e1.out, if_neg (by rw [hd]; simp)]
          rw [hd] at c3
          clear e1
          by_cases l1 : q.lim < -1
          · have dl : decide (q.lim < -1) = true := by simpa using l1
            have fin : Hid (N = 1) := by show _ = _; rw [hN4.out, e2.out, if_pos (Or.inl l1)]
            clear l1
            go_wp2_with fail
            go_ret
            exact ⟨ret_val (by rw [fin.out]; rfl), hBB⟩
          · have dl : decide (q.lim < -1) = false := by simpa using l1
            by_cases l2 : 500 < q.lim
            · have dm : decide (q.lim > 500) = true := by simpa using l2
              have fin : Hid (N = 1) := by show _ = _; rw [hN4.out, e2.out, if_pos (Or.inr l2)]
              clear l1 l2
              go_wp2_with fail
              go_ret
              exact ⟨ret_val (by rw [fin.out]; rfl), hBB⟩
            · have dm : decide (q.lim > 500) = false := by simpa using l2
              have fin : Hid (N = 0) := by show _ = _; rw [hN4.out, e2.out, if_neg (by omega)]
              clear l1 l2
              go_wp2_with fail
              go_ret
              exact ⟨ret_val (by rw [fin.out]; rfl), hBB⟩
      | false =>
        have ho' : q.order ≠ [] := by simpa using ho
        cases hm2 : decide (q.order ∈ q.vars) with
        | false =>
          have fin : Hid (N = 5) := by show _ = _; rw [hN4.out, hE.out, if_pos ⟨ho', by simpa using hm2⟩]
          rw [hm2] at HC
          clear ho' hm2 hE
          go_wp2_with fail
          refine HC.mono ?_
          rintro e w4 ⟨rfl, hw4⟩
          subst hw4
          dsimp only
          go_wp2_with fail
          go_ret
          exact ⟨ret_val (by rw [fin.out]; rfl), hBB⟩
        | true =>
          have e2 : Hid (E = if q.lim < -1 ∨ 500 < q.lim then 1 else 0) := by show _ = _; rw [hE.out, if_neg (fun k => k.2 (of_decide_eq_true hm2)), if_neg (fun k => ho' k.2)]
          rw [hm2] at HC
          clear ho' hm2 hE
          go_wp2_with fail
          refine HC.mono ?_
          rintro e w4 ⟨rfl, hw4⟩
          subst hw4
          dsimp only
          by_cases l1 : q.lim < -1
          · have dl : decide (q.lim < -1) = true := by simpa using l1
            have fin : Hid (N = 1) := by show _ = _; rw [hN4.out, e2.out, if_pos (Or.inl l1)]
            clear l1
            cases hd : q.down
            all_goals
              rw [hd] at c3
              go_wp2_with fail
              go_ret
              exact ⟨ret_val (by rw [fin.out]; rfl), hBB⟩
          · have dl : decide (q.lim < -1) = false := by simpa using l1
            by_cases l2 : 500 < q.lim
            · have dm : decide (q.lim > 500) = true := by simpa using l2
              have fin : Hid (N = 1) := by show _ = _; rw [hN4.out, e2.out, if_pos (Or.inr l2)]
              clear l1 l2
              cases hd : q.down
              all_goals
                rw [hd] at c3
                go_wp2_with fail
                go_ret
                exact ⟨ret_val (by rw [fin.out]; rfl), hBB⟩
            · have dm : decide (q.lim > 500) = false := by simpa using l2
              have fin : Hid (N = 0) := by show _ = _; rw [hN4.out, e2.out, if_neg (by omega)]
              clear l1 l2
              cases hd : q.down
              all_goals
                rw [hd] at c3
                go_wp2_with fail
                go_ret
                exact ⟨ret_val (by rw [fin.out]; rfl), hBB⟩
    · have hne : (fn == 0) = false := by simpa using h1
      have hne2 : (fn != 0) = true := by simpa using h1
      have fin : Hid (N = fn) := by show _ = _; rw [hN3.out, if_pos h1]
      clear h1 hN3
      go_wp2_with fail
      go_ret
      exact ⟨ret_val (by rw [fin.out]; rfl), bstep hb1 (bstep hb2 hb3)⟩
  · have hne : (vn == 0) = false := by simpa using h0
    have hne2 : (vn != 0) = true := by simpa using h0
    have fin := hideQ (hN1.out h0)
    clear h0 hN1 hN2 hme
    go_wp2_with fail
    go_ret
    exact ⟨ret_val (by rw [fin.out]; rfl), bstep hb1 hb2⟩
end Go.Proofs.YtcdbcoaiadipjaaGreatDoor

/- Rows of terms, and lists of such rows, in memory. -/
namespace Go.Proofs.YtcdbcoaiadipjaaGreatDoor
open Go Go.RowKit Go.Proofs Go.Maps
set_option synthInstance.maxSize 1000

def encQ (x : Tm) : List Value := [.int .i64 x.1, .string ⟨x.2.1.toArray⟩, .string ⟨x.2.2.toArray⟩]
def valTQ (x : Tm) : Value := .agg #[.int .i64 x.1, .string ⟨x.2.1.toArray⟩, .string ⟨x.2.2.toArray⟩]
def cellsQ (l : List Tm) : List Value := l.flatMap encQ
theorem encQ_len (x : Tm) : (encQ x).length = 3 := rfl
theorem encQ_one (x : Tm) : ∀ v ∈ encQ x, v.oneCell' = true := by
  intro v hv
  simp [encQ] at hv
  rcases hv with rfl | rfl | rfl <;> rfl
theorem cellsQ_len (l : List Tm) : (cellsQ l).length = l.length * 3 := by
  induction l with
  | nil => rfl
  | cons x r ih => simp only [cellsQ, List.flatMap_cons, List.length_append, List.length_cons] at *; rw [ih, encQ_len]; omega
theorem cellsQ_at (l : List Tm) (i : Nat) (h : i < l.length) (j : Nat) (hj : j < 3) : (cellsQ l)[i * 3 + j]? = (encQ l[i])[j]? := by
  induction l generalizing i with
  | nil => simp at h
  | cons x r ih =>
    simp only [cellsQ, List.flatMap_cons] at *
    cases i with
    | zero => rw [List.getElem?_append_left (by rw [encQ_len]; omega)]; simp
    | succ n =>
      rw [List.getElem?_append_right (by rw [encQ_len]; omega), encQ_len, show (n + 1) * 3 + j - 3 = n * 3 + j by omega, ih n (by simpa using h)]
      simp
theorem cellsQ_app (a b : List Tm) : cellsQ (a ++ b) = cellsQ a ++ cellsQ b := by simp [cellsQ]
/-- a slice holds a list of terms -/
def SlQ (w : World) (ad : Option Addr) (l : List Tm) : Prop := l ≠ [] → ∃ b o, ad = some ⟨b, o, none⟩ ∧ ∀ j v, (cellsQ l)[j]? = some v → w.cell? ⟨b, o + j, none⟩ = some v
theorem SlQ.below {w w' : World} {ad : Option Addr} {l : List Tm} (h : SlQ w ad l) (hb : RowKit.Below w.heap.size w w') : SlQ w' ad l := fun hl => by
  obtain ⟨b, o, e, r⟩ := h hl
  exact ⟨b, o, e, fun j v hv => (hb.cell (World.block_lt_of_cell? w _ (r j v hv))).trans (r j v hv)⟩
theorem SlQ.at {w : World} {ad : Option Addr} {l : List Tm} (h : SlQ w ad l) (k : Nat) (hk : k < l.length) : ∃ b o, ad = some ⟨b, o, none⟩ ∧ w.cell? ⟨b, o + k * 3, none⟩ = some (.int .i64 l[k].1) ∧ w.cell? ⟨b, o + k * 3 + 1, none⟩ = some (.string ⟨l[k].2.1.toArray⟩) ∧ w.cell? ⟨b, o + k * 3 + 2, none⟩ = some (.string ⟨l[k].2.2.toArray⟩) := by
  obtain ⟨b, o, e, r⟩ := h (fun e => by rw [e] at hk; simp at hk)
  have hx : ∀ j (hj : j < 3) v, (encQ l[k])[j]? = some v → w.cell? ⟨b, o + k * 3 + j, none⟩ = some v := fun j hj v hv => by
    rw [Nat.add_assoc]
    exact r _ v (by rw [cellsQ_at l k hk j hj]; exact hv)
  exact ⟨b, o, e, hx 0 (by omega) _ rfl, hx 1 (by omega) _ rfl, hx 2 (by omega) _ rfl⟩
theorem slQ_nil (W : World) (ad : Option Addr) : SlQ W ad [] := fun h => absurd rfl h
theorem own_slQ {W : World} {base : Nat} {e : TypeId} {v : Value} {t : List Tm} (h : W.ownsRow base e 3 v t.length (cellsQ t)) : ∃ ad cap, v = .slice ad t.length cap ∧ SlQ W ad t := by
  have h' := h
  rcases h.2 with ⟨rfl, h0⟩ | ⟨g, cap, cur, rfl, _⟩
  · exact ⟨none, 0, by rw [h0], fun hne => absurd (List.eq_nil_of_length_eq_zero h0) hne⟩
  · refine ⟨some ⟨g, 0, none⟩, cap, rfl, fun _ => ⟨g, 0, rfl, fun j u hj => ?_⟩⟩
    have := h'.cells (g := g) rfl j u hj
    rwa [Addr.add_lit] at this
theorem infoQ : (Tryz.prog.info? 28).map (fun i => (i.zero, i.size, i.bytes)) = some (some (.agg (encQ tmZero).toArray), 3, 40) := by kernel_rfl
/-- a slice holds a list of rows -/
def SlR (w : World) (ad : Option Addr) (L : List (List Tm)) : Prop := L ≠ [] → ∃ b o, ad = some ⟨b, o, none⟩ ∧ ∀ j (hj : j < L.length), ∃ rd rc, w.cell? ⟨b, o + j, none⟩ = some (.slice rd L[j].length rc) ∧ SlQ w rd L[j]
theorem SlR.below {w w' : World} {ad : Option Addr} {L : List (List Tm)} (h : SlR w ad L) (hb : RowKit.Below w.heap.size w w') : SlR w' ad L := fun hl => by
  obtain ⟨b, o, e, r⟩ := h hl
  refine ⟨b, o, e, fun j hj => ?_⟩
  obtain ⟨rd, rc, c, s⟩ := r j hj
  exact ⟨rd, rc, (hb.cell (World.block_lt_of_cell? w _ c)).trans c, s.below hb⟩
theorem SlR.at {w : World} {ad : Option Addr} {L : List (List Tm)} (h : SlR w ad L) (k : Nat) (hk : k < L.length) : ∃ b o rd rc, ad = some ⟨b, o, none⟩ ∧ w.cell? ⟨b, o + k, none⟩ = some (.slice rd L[k].length rc) ∧ SlQ w rd L[k] := by
  obtain ⟨b, o, e, r⟩ := h (fun e => by rw [e] at hk; simp at hk)
  obtain ⟨rd, rc, c, s⟩ := r k hk
  exact ⟨b, o, rd, rc, e, c, s⟩
theorem slR_nil (W : World) (ad : Option Addr) : SlR W ad [] := fun h => absurd rfl h
/-- rows of one's own: a row of slices, each a row of terms; none of them is another one's -/
structure OwnR (W : World) (B : Nat) (v : Value) (L : List (List Tm)) (vs : List Value) : Prop where
  len : vs.length = L.length
  row : W.ownsRow B 33 1 v L.length vs
  each : ∀ j (h : j < L.length), W.ownsRow B 28 3 (vs[j]'(by omega)) L[j].length (cellsQ L[j])
theorem types_ne : (33 : Nat) ≠ 28 := by decide
/-- what owns blocks of two types shares none -/
theorem own_types {W : World} {B e e' s s' n n' : Nat} {v v' : Value} {cs cs' : List Value} (h : W.ownsRow B e s v n cs) (h' : W.ownsRow B e' s' v' n' cs') (hne : e ≠ e') : v'.ownBlock = none ∨ v'.ownBlock ≠ v.ownBlock := by
  rcases h'.2 with ⟨rfl, _⟩ | ⟨g', c', cur', rfl, _, hg', _⟩
  · exact Or.inl rfl
  · right
    intro hq
    rcases h.2 with ⟨rfl, _⟩ | ⟨g, c, cur, rfl, _, hg, _⟩
    · cases hq
    · have e1 : g' = g := by simpa [Value.ownBlock] using hq
      rw [e1, hg] at hg'
      injection hg' with hg'
      injection hg' with _ h2 _
      exact hne h2
theorem OwnR.below {W W' : World} {B : Nat} {v : Value} {L : List (List Tm)} {vs : List Value} (h : OwnR W B v L vs) (hb : RowKit.Below W.heap.size W W') : OwnR W' B v L vs := ⟨h.len, ownsRow_belowV h.row hb, fun j hj => ownsRow_belowV (h.each j hj) hb⟩
theorem OwnR.nil (W : World) (B : Nat) : OwnR W B (.slice none 0 0) [] [] := ⟨rfl, World.ownsRow_nil _ _ _ _, fun j h => by simp at h⟩
/-- one row more: the list of rows grew, the row was there -/
theorem OwnR.push {W W' : World} {B : Nat} {v v' : Value} {L : List (List Tm)} {vs : List Value} {r : List Tm} {u : Value} (h : OwnR W B v L vs) (hr : W.ownsRow B 28 3 u r.length (cellsQ r)) (hrow : W'.ownsRow B 33 1 v' (L ++ [r]).length (vs ++ [u])) (hg : W.grownBy W' v.ownBlock) : OwnR W' B v' (L ++ [r]) (vs ++ [u]) := by
  refine ⟨by simp [h.len], hrow, fun j hj => ?_⟩
  by_cases hjl : j < L.length
  · have e1 : (L ++ [r])[j] = L[j] := List.getElem_append_left hjl
    have e2 : (vs ++ [u])[j]'(by simp; have := h.len; omega) = vs[j]'(by have := h.len; omega) := List.getElem_append_left (by have := h.len; omega)
    rw [e1, e2]
    exact (h.each j hjl).kept hg (own_types h.row (h.each j hjl) types_ne)
  · have hjj : j = L.length := by simp at hj; omega
    subst hjj
    have e1 : (L ++ [r])[L.length] = r := by simp
    have e2 : (vs ++ [u])[L.length]'(by simp [h.len]) = u := by
      have := h.len
      rw [List.getElem_append_right (by omega)]
      simp [this]
    rw [e1, e2]
    exact hr.kept hg (own_types h.row hr types_ne)
theorem OwnR.sl {W : World} {B : Nat} {v : Value} {L : List (List Tm)} {vs : List Value} (h : OwnR W B v L vs) : ∃ ad cap, v = .slice ad L.length cap ∧ SlR W ad L := by
  rcases h.row.2 with ⟨rfl, h0⟩ | ⟨g, cap, cur, rfl, _⟩
  · exact ⟨none, 0, by rw [h0], fun hne => absurd (List.eq_nil_of_length_eq_zero h0) hne⟩
  · refine ⟨some ⟨g, 0, none⟩, cap, rfl, fun _ => ⟨g, 0, rfl, fun j hj => ?_⟩⟩
    have hjv : j < vs.length := by have := h.len; omega
    have hc := h.row.cells (g := g) rfl j vs[j] (List.getElem?_eq_getElem hjv)
    rw [Addr.add_lit] at hc
    obtain ⟨rd, rc, e, s⟩ := own_slQ (h.each j hj)
    rw [e] at hc
    exact ⟨rd, rc, hc, s⟩
end Go.Proofs.YtcdbcoaiadipjaaGreatDoor

/- Commits in plain words: which is wrong; who comes of whom. -/
namespace Go.Proofs.YtcdbcoaiadipjaaGreatDoor
open Go Go.RowKit Go.Proofs
set_option synthInstance.maxSize 1000

/-- a commit: its parents, its layer, its message -/
abbrev Cm := List Int × Int × List UInt8
def okM (l : List UInt8) : Bool := l.all fun c => decide (32 ≤ c.toNat ∧ c.toNat ≤ 126)
def msgN (l : List UInt8) : Int := if 24 < l.length then 4 else if okM l = true then 0 else 2
def twinB (p : List Int) : Bool := match p with
  | [a, b] => decide (a = b)
  | _ => false
def rangeB (p : List Int) (i : Nat) : Bool := p.all fun a => decide (0 ≤ a ∧ a < i)
/-- the fault of commit i -/
def comN (c : Cm) (i : Nat) : Int :=
  if 2 < c.1.length ∨ msgN c.2.2 = 4 then 4 else if rangeB c.1 i = false then 1 else if twinB c.1 = true then 7 else if msgN c.2.2 ≠ 0 then msgN c.2.2 else if c.2.1 < 1 ∨ 300 < c.2.1 then 1 else 0
/-- the first that is wrong, from i on -/
def firstC : List Cm → Nat → Nat × Int
  | [], _ => (0, 0)
  | c :: r, i => if comN c i ≠ 0 then (i, comN c i) else firstC r (i + 1)
def comsN (l : List Cm) : Nat × Int := if 60 < l.length then (0, 4) else firstC l 0
theorem firstC_at {l : List Cm} {i k : Nat} (hk : k < l.length) (hn : ∀ (j : Nat) (hj : j < k), comN (l[j]'(by omega)) (i + j) = 0) (h : comN l[k] (i + k) ≠ 0) : firstC l i = (i + k, comN l[k] (i + k)) := by
  induction l generalizing i k with
  | nil => simp at hk
  | cons c r ih =>
    cases k with
    | zero => unfold firstC; rw [if_pos (by simpa using h)]; rfl
    | succ m =>
      have h0 := hn 0 (by omega)
      unfold firstC
      rw [if_neg (fun h' => h' (by simpa using h0))]
      have := ih (i := i + 1) (k := m) (by simpa using hk) (fun j hj => by have := hn (j + 1) (by omega); simpa [Nat.add_assoc, Nat.add_comm 1 j] using this) (by simpa [Nat.add_assoc, Nat.add_comm 1 m] using h)
      rw [this]
      simp [Nat.add_assoc, Nat.add_comm 1 m]
theorem firstC_none {l : List Cm} {i : Nat} (hn : ∀ (j : Nat) (hj : j < l.length), comN l[j] (i + j) = 0) : firstC l i = (0, 0) := by
  induction l generalizing i with
  | nil => rfl
  | cons c r ih =>
    have h0 := hn 0 (by simp)
    unfold firstC
    rw [if_neg (fun h' => h' (by simpa using h0))]
    exact ih fun j hj => by have := hn (j + 1) (by simpa using hj); simpa [Nat.add_assoc, Nat.add_comm 1 j] using this

theorem firstC_zero {l : List Cm} {i : Nat} (h : (firstC l i).2 = 0) : ∀ (j : Nat) (hj : j < l.length), comN l[j] (i + j) = 0 := by
  induction l generalizing i with
  | nil => intro j hj; simp at hj
  | cons c r ih =>
    unfold firstC at h
    split at h
    · rename_i h0; exact absurd h h0
    · rename_i h0
      have h0' : comN c i = 0 := Classical.byContradiction h0
      intro j hj
      cases j with
      | zero => simpa using h0'
      | succ m =>
        have := ih h m (by simpa using hj)
        simpa [Nat.add_assoc, Nat.add_comm 1 m] using this
/-- commits that are right -/
def GoodC (l : List Cm) : Prop := l.length ≤ 60 ∧ ∀ (j : Nat) (hj : j < l.length), comN l[j] j = 0
theorem coms_good {l : List Cm} : (comsN l).2 = 0 ↔ GoodC l := by
  unfold comsN GoodC
  by_cases h : 60 < l.length
  · rw [if_pos h]
    constructor
    · intro e; cases e
    · intro e; omega
  · rw [if_neg h]
    constructor
    · intro e
      exact ⟨by omega, fun j hj => by simpa using firstC_zero e j hj⟩
    · rintro ⟨_, e⟩
      rw [firstC_none fun j hj => by simpa using e j hj]

/-- who comes of whom: k is i, or a parent of one that is -/
def parsOf (l : List Cm) (c : Nat) : List Int := (l[c]?.map fun x => x.1).getD []
def Up (l : List Cm) (i k : Nat) : Prop := ∀ S : Nat → Prop, S i → (∀ c p : Nat, S c → (p : Int) ∈ parsOf l c → S p) → S k
theorem Up.refl (l : List Cm) (i : Nat) : Up l i i := fun _ h _ => h
theorem Up.step {l : List Cm} {i c p : Nat} (h : Up l i c) (hp : (p : Int) ∈ parsOf l c) : Up l i p := fun S h1 h2 => h2 c p (h S h1 h2) hp
/-- a rising list is told by what is in it -/
def RiseN (m : List Nat) : Prop := m.Pairwise fun a b => a < b
theorem rise_unique {m q : List Nat} (hm : RiseN m) (hq : RiseN q) (h : ∀ k, k ∈ m ↔ k ∈ q) : m = q := by
  induction m generalizing q with
  | nil =>
    cases q with
    | nil => rfl
    | cons b s => exact absurd ((h b).2 (by simp)) (by simp)
  | cons a r ih =>
    cases q with
    | nil => exact absurd ((h a).1 (by simp)) (by simp)
    | cons b s =>
      obtain ⟨m1, m2⟩ := List.pairwise_cons.1 hm
      obtain ⟨q1, q2⟩ := List.pairwise_cons.1 hq
      have hab : a = b := by
        have h1 := (h a).1 (by simp)
        have h2 := (h b).2 (by simp)
        rcases List.mem_cons.1 h1 with e | h1
        · exact e
        · rcases List.mem_cons.1 h2 with e | h2
          · exact e.symm
          · have := q1 a h1
            have := m1 b h2
            omega
      subst hab
      congr 1
      refine ih m2 q2 fun k => ?_
      constructor
      · intro hk
        have := m1 k hk
        rcases List.mem_cons.1 ((h k).1 (List.mem_cons_of_mem _ hk)) with e | h'
        · omega
        · exact h'
      · intro hk
        have := q1 k hk
        rcases List.mem_cons.1 ((h k).2 (List.mem_cons_of_mem _ hk)) with e | h'
        · omega
        · exact h'

/-! ### commits in memory -/
/-- commits, in a list: three cells each -/
def ComsAt (w : World) (b o : Nat) (l : List Cm) : Prop := ∀ (i : Nat) (hi : i < l.length), ∃ a c, w.cell? ⟨b, o + i * 3, none⟩ = some (.slice a l[i].1.length c) ∧ w.cell? ⟨b, o + i * 3 + 1, none⟩ = some (.int .i64 l[i].2.1) ∧ w.cell? ⟨b, o + i * 3 + 2, none⟩ = some (.string ⟨l[i].2.2.toArray⟩) ∧ SlI w a l[i].1
def SlC (w : World) (ad : Option Addr) (l : List Cm) : Prop := l ≠ [] → ∃ b o, ad = some ⟨b, o, none⟩ ∧ ComsAt w b o l
theorem SlC.below {w w' : World} {ad : Option Addr} {l : List Cm} (h : SlC w ad l) (hb : RowKit.Below w.heap.size w w') : SlC w' ad l := fun hl => by
  obtain ⟨b, o, e, h1⟩ := h hl
  refine ⟨b, o, e, fun i hi => ?_⟩
  obtain ⟨a, c, h2, h3, h4, h5⟩ := h1 i hi
  exact ⟨a, c, (hb.cell (World.block_lt_of_cell? w _ h2)).trans h2, (hb.cell (World.block_lt_of_cell? w _ h3)).trans h3, (hb.cell (World.block_lt_of_cell? w _ h4)).trans h4, h5.below hb⟩
theorem SlC.at {w : World} {ad : Option Addr} {l : List Cm} (h : SlC w ad l) {i : Nat} (hi : i < l.length) : ∃ b o a c, ad = some ⟨b, o, none⟩ ∧ w.cell? ⟨b, o + i * 3, none⟩ = some (.slice a l[i].1.length c) ∧ w.cell? ⟨b, o + i * 3 + 1, none⟩ = some (.int .i64 l[i].2.1) ∧ w.cell? ⟨b, o + i * 3 + 2, none⟩ = some (.string ⟨l[i].2.2.toArray⟩) ∧ SlI w a l[i].1 := by
  obtain ⟨b, o, e, h1⟩ := h (fun e => by rw [e] at hi; simp at hi)
  obtain ⟨a, c, h2, h3, h4, h5⟩ := h1 i hi
  exact ⟨b, o, a, c, e, h2, h3, h4, h5⟩
end Go.Proofs.YtcdbcoaiadipjaaGreatDoor

/- Who comes of whom, marked one by one. -/
namespace Go.Proofs.YtcdbcoaiadipjaaGreatDoor
open Go Go.RowKit Go.Proofs
set_option synthInstance.maxSize 1000

def onB (B : List Bool) (k : Nat) : Bool := B.getD k false
def SoundB (l : List Cm) (i : Nat) (B : List Bool) : Prop := ∀ k, onB B k = true → Up l i k
def ClosedTo (l : List Cm) (B : List Bool) (m : Nat) : Prop := ∀ c, c < m → onB B c = true → ∀ p : Nat, (p : Int) ∈ parsOf l c → onB B p = true
theorem onB_set {B : List Bool} {p k : Nat} (hp : p < B.length) : onB (B.set p true) k = if k = p then true else onB B k := by
  unfold onB
  rw [List.getD_eq_getElem?_getD, List.getD_eq_getElem?_getD]
  by_cases e : k = p
  · subst e
    rw [if_pos rfl, List.getElem?_set_self hp]
    rfl
  · rw [if_neg e, List.getElem?_set_ne (fun h => e h.symm)]
theorem onB_lt {B : List Bool} {k : Nat} (h : onB B k = true) : k < B.length := by
  unfold onB at h
  rw [List.getD_eq_getElem?_getD] at h
  exact Classical.byContradiction fun hn => by
    rw [List.getElem?_eq_none (by omega)] at h
    simp at h
theorem onB_get {B : List Bool} {k : Nat} (h : k < B.length) : onB B k = B[k] := by
  unfold onB
  rw [List.getD_eq_getElem?_getD, List.getElem?_eq_getElem h]
  rfl
theorem SoundB.set {l : List Cm} {i : Nat} {B : List Bool} (h : SoundB l i B) {p : Nat} (hp : p < B.length) (hu : Up l i p) : SoundB l i (B.set p true) := fun k hk => by
  rw [onB_set hp] at hk
  split at hk
  · rename_i e; rw [e]; exact hu
  · exact h k hk
theorem closed_up {l : List Cm} {i : Nat} {B : List Bool} (hi : onB B i = true) (hc : ClosedTo l B B.length) : ∀ k, Up l i k → onB B k = true := by
  intro k h
  exact h (fun k => onB B k = true) hi fun c p h1 hp => hc c (onB_lt h1) h1 p hp
/-- how many are not marked -/
def nF : List Bool → Nat
  | [] => 0
  | b :: r => (if b = true then 0 else 1) + nF r
theorem nF_set {B : List Bool} {p : Nat} (hp : p < B.length) (h : onB B p = false) : nF (B.set p true) < nF B := by
  induction B generalizing p with
  | nil => simp at hp
  | cons b r ih =>
    cases p with
    | zero =>
      have hb : b = false := by simpa [onB] using h
      subst hb
      simp [nF]
    | succ m =>
      have := ih (p := m) (by simpa using hp) (by simpa [onB] using h)
      simp only [List.set_cons_succ, nF]
      omega
/-- those that are marked, rising -/
def markedB (B : List Bool) (k : Nat) : List Nat := (List.range k).filter fun j => onB B j
theorem marked_next (B : List Bool) (k : Nat) : markedB B (k + 1) = markedB B k ++ if onB B k = true then [k] else [] := by
  unfold markedB
  rw [List.range_succ, List.filter_append, List.filter_cons]
  simp
theorem marked_rise (B : List Bool) (k : Nat) : RiseN (markedB B k) := by
  unfold markedB RiseN
  exact List.Pairwise.filter _ List.pairwise_lt_range
theorem marked_up {l : List Cm} {i : Nat} {B : List Bool} (hs : SoundB l i B) (hi : onB B i = true) (hc : ClosedTo l B B.length) : ∀ k, k ∈ markedB B B.length ↔ Up l i k := by
  intro k
  unfold markedB
  rw [List.mem_filter, List.mem_range]
  constructor
  · rintro ⟨_, h⟩; exact hs k h
  · intro h
    have := closed_up hi hc k h
    exact ⟨onB_lt this, this⟩
theorem marked_len (B : List Bool) (k : Nat) : (markedB B k).length ≤ k := by
  unfold markedB
  exact Nat.le_trans (List.length_filter_le _ _) (by simp)
/-- parents of commits that are right are earlier ones -/
theorem good_pars {l : List Cm} (h : GoodC l) {c : Nat} (hc : c < l.length) : ∀ z ∈ parsOf l c, 0 ≤ z ∧ z < c := by
  have h1 := h.2 c hc
  have e : parsOf l c = l[c].1 := by unfold parsOf; rw [List.getElem?_eq_getElem hc]; rfl
  rw [e]
  unfold comN at h1
  split at h1
  · cases h1
  · split at h1
    · cases h1
    · rename_i h2
      have h3 : rangeB l[c].1 c = true := by simpa using h2
      unfold rangeB at h3
      rw [List.all_eq_true] at h3
      intro z hz
      simpa using h3 z hz
theorem up_le {l : List Cm} (h : GoodC l) {i k : Nat} (hi : i < l.length) (hu : Up l i k) : k ≤ i ∧ k < l.length := by
  refine hu (fun k => k ≤ i ∧ k < l.length) ⟨Nat.le_refl _, hi⟩ fun c p h1 hp => ?_
  have := (good_pars h h1.2) _ hp
  have h2 : c ≤ i ∧ c < l.length := h1
  show p ≤ i ∧ p < l.length
  omega
end Go.Proofs.YtcdbcoaiadipjaaGreatDoor

/- Bases in plain words: of those that two have, the ones that no other one of them comes of. -/
namespace Go.Proofs.YtcdbcoaiadipjaaGreatDoor
open Go Go.RowKit Go.Proofs
set_option synthInstance.maxSize 1000

def isBase (l : List Cm) (a b z : Nat) : Prop := Up l a z ∧ Up l b z ∧ ∀ c, Up l a c → Up l b c → c ≠ z → ¬ Up l c z
def dbothN (x y : List Nat) : List Nat := x.filter fun k => decide (k ∈ y)
theorem both_next {x y : List Nat} {k : Nat} (hk : k < x.length) : dbothN (x.take (k + 1)) y = dbothN (x.take k) y ++ if x[k] ∈ y then [x[k]] else [] := by
  unfold dbothN
  rw [List.take_succ_eq_append_getElem hk, List.filter_append, List.filter_cons]
  simp
theorem both_rise {x y : List Nat} (h : RiseN x) : RiseN (dbothN x y) := List.Pairwise.filter _ h
theorem both_len (x y : List Nat) : (dbothN x y).length ≤ x.length := List.length_filter_le _ _
/-- below: another one of the list comes of number q of it -/
def belowP (l : List Cm) (t : List Nat) (q m : Nat) : Prop := ∃ r, r < m ∧ r ≠ q ∧ Up l (t.getD r 0) (t.getD q 0)
theorem below_next {l : List Cm} {t : List Nat} {q m : Nat} : belowP l t q (m + 1) ↔ belowP l t q m ∨ (m ≠ q ∧ Up l (t.getD m 0) (t.getD q 0)) := by
  constructor
  · rintro ⟨r, h1, h2, h3⟩
    rcases (by omega : r < m ∨ r = m) with h | rfl
    · exact Or.inl ⟨r, h, h2, h3⟩
    · exact Or.inr ⟨h2, h3⟩
  · rintro (⟨r, h1, h2, h3⟩ | ⟨h2, h3⟩)
    · exact ⟨r, by omega, h2, h3⟩
    · exact ⟨m, by omega, h2, h3⟩
/-- what is told as far as i -/
def OutsTo (l : List Cm) (t : List Nat) (i : Nat) (m : List Nat) : Prop := RiseN m ∧ m.length ≤ i ∧ ∀ z, z ∈ m ↔ ∃ q, q < i ∧ q < t.length ∧ z = t.getD q 0 ∧ ¬ belowP l t q t.length
theorem OutsTo.nil (l : List Cm) (t : List Nat) : OutsTo l t 0 [] := ⟨List.Pairwise.nil, by simp, fun z => ⟨fun h => by simp at h, fun ⟨q, h, _⟩ => by omega⟩⟩
theorem rise_get {t : List Nat} (h : RiseN t) {p q : Nat} (hpq : p < q) (hq : q < t.length) : t.getD p 0 < t.getD q 0 := by
  rw [List.getD_eq_getElem?_getD, List.getD_eq_getElem?_getD, List.getElem?_eq_getElem hq, List.getElem?_eq_getElem (show p < t.length by omega)]
  exact List.pairwise_iff_getElem.1 h p q (by omega) hq hpq
theorem OutsTo.skip {l : List Cm} {t : List Nat} {i : Nat} {m : List Nat} (h : OutsTo l t i m) (hb : belowP l t i t.length) : OutsTo l t (i + 1) m := by
  refine ⟨h.1, by have := h.2.1; omega, fun z => ?_⟩
  rw [h.2.2 z]
  constructor
  · rintro ⟨q, h1, h2⟩; exact ⟨q, by omega, h2⟩
  · rintro ⟨q, h1, h2, h3, h4⟩
    rcases (by omega : q < i ∨ q = i) with h5 | rfl
    · exact ⟨q, h5, h2, h3, h4⟩
    · exact absurd hb h4
theorem OutsTo.more {l : List Cm} {t : List Nat} {i : Nat} {m : List Nat} (h : OutsTo l t i m) (ht : RiseN t) (hi : i < t.length) (hb : ¬ belowP l t i t.length) : OutsTo l t (i + 1) (m ++ [t.getD i 0]) := by
  refine ⟨List.pairwise_append.2 ⟨h.1, List.pairwise_singleton _ _, fun x hx y hy => ?_⟩, by have := h.2.1; simp; omega, fun z => ?_⟩
  · rw [List.mem_singleton.1 hy]
    obtain ⟨q, h1, _, rfl, _⟩ := (h.2.2 x).1 hx
    exact rise_get ht h1 hi
  · rw [List.mem_append, h.2.2 z, List.mem_singleton]
    constructor
    · rintro (⟨q, h1, h2⟩ | rfl)
      · exact ⟨q, by omega, h2⟩
      · exact ⟨i, by omega, hi, rfl, hb⟩
    · rintro ⟨q, h1, h2, h3, h4⟩
      rcases (by omega : q < i ∨ q = i) with h5 | rfl
      · exact Or.inl ⟨q, h5, h2, h3, h4⟩
      · exact Or.inr h3
theorem outs_base {l : List Cm} {a b : Nat} {x y m : List Nat} (hx : RiseN x) (ux : ∀ k, k ∈ x ↔ Up l a k) (uy : ∀ k, k ∈ y ↔ Up l b k) (h : OutsTo l (dbothN x y) (dbothN x y).length m) : ∀ z, z ∈ m ↔ isBase l a b z := by
  have hm : ∀ z, z ∈ dbothN x y ↔ Up l a z ∧ Up l b z := fun z => by
    unfold dbothN
    rw [List.mem_filter, ux, decide_eq_true_eq, uy]
  have ht := both_rise (y := y) hx
  have hmem : ∀ q, q < (dbothN x y).length → (dbothN x y).getD q 0 ∈ dbothN x y := fun q hq => by
    rw [List.getD_eq_getElem?_getD, List.getElem?_eq_getElem hq]
    exact List.getElem_mem hq
  have hidx : ∀ z ∈ dbothN x y, ∃ q, q < (dbothN x y).length ∧ (dbothN x y).getD q 0 = z := fun z hz => by
    obtain ⟨q, hq, e⟩ := List.getElem_of_mem hz
    exact ⟨q, hq, by rw [List.getD_eq_getElem?_getD, List.getElem?_eq_getElem hq]; exact e⟩
  intro z
  rw [h.2.2 z]
  constructor
  · rintro ⟨q, _, hq, rfl, hb⟩
    obtain ⟨h1, h2⟩ := (hm _).1 (hmem q hq)
    refine ⟨h1, h2, fun c hca hcb hne hu => hb ?_⟩
    obtain ⟨r, hr, rfl⟩ := hidx c ((hm c).2 ⟨hca, hcb⟩)
    exact ⟨r, hr, fun e => hne (by rw [e]), hu⟩
  · rintro ⟨h1, h2, h3⟩
    obtain ⟨q, hq, rfl⟩ := hidx z ((hm z).2 ⟨h1, h2⟩)
    refine ⟨q, hq, hq, rfl, ?_⟩
    rintro ⟨r, hr, hne, hu⟩
    obtain ⟨h4, h5⟩ := (hm _).1 (hmem r hr)
    refine h3 _ h4 h5 (fun e => ?_) hu
    rcases (by omega : r < q ∨ q < r) with h6 | h6
    · have := rise_get ht h6 hq; omega
    · have := rise_get ht h6 hr; omega
end Go.Proofs.YtcdbcoaiadipjaaGreatDoor

/- A dag's face: what the laws ask of the program's dag, whatever it is made of. -/
namespace Go.Proofs.YtcdbcoaiadipjaaGreatDoor
open Go Go.RowKit Go.Proofs
set_option synthInstance.maxSize 1000

def natI (m : List Nat) : List Int := m.map fun k : Nat => (k : Int)
theorem natI_len (m : List Nat) : (natI m).length = m.length := by simp [natI]
theorem natI_inj {m q : List Nat} (h : natI m = natI q) : m = q := by
  induction m generalizing q with
  | nil => cases q with
    | nil => rfl
    | cons b r => simp [natI] at h
  | cons a s ih => cases q with
    | nil => simp [natI] at h
    | cons b r =>
      simp only [natI, List.map_cons, List.cons.injEq] at h
      rw [show a = b by omega, ih h.2]
/-- commits in a list that a caller holds -/
structure ComsOK (w : World) (ad : Option Addr) (ca : Nat) (l : List Cm) : Prop where
  sl : SlC w ad l
  cap : l.length ≤ ca
  len : l.length ≤ maxLen
  pars : ∀ c ∈ l, c.1.length ≤ maxLen
  msg : ∀ c ∈ l, c.2.2.length ≤ maxLen
  caps : ∀ b o, ad = some ⟨b, o, none⟩ → ∀ i, i < l.length → ∀ a n c, w.cell? ⟨b, o + i * 3, none⟩ = some (.slice a n c) → n ≤ c
theorem ComsOK.below {w w' : World} {ad : Option Addr} {ca : Nat} {l : List Cm} (h : ComsOK w ad ca l) (hb : RowKit.Below w.heap.size w w') : ComsOK w' ad ca l := by
  refine ⟨h.sl.below hb, h.cap, h.len, h.pars, h.msg, fun b o e i hi a n c hc => h.caps b o e i hi a n c ?_⟩
  obtain ⟨b', o', a', c', e', h2, _⟩ := h.sl.at hi
  rw [e] at e'
  cases e'
  rw [← hb.cell (p := ⟨b, o + i * 3, none⟩) (World.block_lt_of_cell? w _ h2)]
  exact hc

def ancE (l : List Cm) (i : Int) : Int := if (comsN l).2 ≠ 0 then (comsN l).2 else if 0 ≤ i ∧ i < l.length then 0 else 1
def twoE (l : List Cm) (a b : Int) : Int := if ancE l a ≠ 0 then ancE l a else ancE l b
theorem ancE_zero {l : List Cm} {i : Int} (h : ancE l i = 0) : GoodC l ∧ 0 ≤ i ∧ i < l.length := by
  unfold ancE at h
  split at h
  · rename_i h1; exact absurd h h1
  · rename_i h1
    split at h
    · rename_i h2; exact ⟨coms_good.1 (by simpa using h1), h2⟩
    · simp at h
theorem ancE_good {l : List Cm} {i : Int} (h : GoodC l) (h0 : 0 ≤ i) (h1 : i < l.length) : ancE l i = 0 := by
  unfold ancE
  rw [if_neg (by simp; exact coms_good.2 h), if_pos ⟨h0, h1⟩]
theorem twoE_zero {l : List Cm} {a b : Int} : twoE l a b = 0 ↔ ancE l a = 0 ∧ ancE l b = 0 := by
  unfold twoE
  by_cases h : ancE l a = 0
  · simp [h]
  · simp [h]

def upP (l : List Cm) (i : Nat) (m : List Nat) : Prop := RiseN m ∧ ∀ k, k ∈ m ↔ Up l i k
def logP (l : List Cm) (i : Nat) (m : List Nat) : Prop := upP l i m.reverse
def baseP (l : List Cm) (a b : Nat) (m : List Nat) : Prop := RiseN m ∧ ∀ z, z ∈ m ↔ isBase l a b z
/-- a list and an error: with an error there is none -/
def ListAns (w : World) (f : Int) (P : List Nat → Prop) (e : Ending) (w' : World) : Prop :=
  ∃ (ad : Option Addr) (c : Nat) (m : List Nat), e = .returned (.tuple #[.slice ad m.length c, errV f]) ∧ (f = 0 → P m) ∧ (f ≠ 0 → m = []) ∧ SlI w' ad (natI m) ∧ RowKit.Below w.heap.size w w' ∧ m.length ≤ 60 ∧ (m ≠ [] → ∀ d, ad = some d → w.heap.size ≤ d.block) ∧ m.length ≤ c

structure DFace where
end Go.Proofs.YtcdbcoaiadipjaaGreatDoor
