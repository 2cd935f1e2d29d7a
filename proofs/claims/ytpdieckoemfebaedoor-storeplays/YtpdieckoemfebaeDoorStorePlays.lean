/- stratalaw2.StorePlays: the walk. -/
import Derived.Test.YtpdieckoemfebaeDoorSPlaysStep
import Derived.Deep.DeepCutAuto
import Derived.Deep.CutBlock
namespace Go.Proofs.YtpdieckoemfebaeDoor
open Go Go.RowKit Go.Proofs
set_option synthInstance.maxSize 1000

theorem heap_new (w : World) (o : Obj) : (w.alloc o).heap[w.heap.size]? = some o := by
  show (w.heap.push o)[w.heap.size]? = some o
  simp
theorem PB.new {F : Face} {w w1 : World} {s : Nat} {O : Nat → Prop} (hA : F.At w1 s O 0 []) (hb : RowKit.Below w.heap.size w w1) (hO : ∀ j, O j → w.heap.size ≤ j) : PB F w s w1.heap.size 0 [] (w1.alloc (.cells #[.int .i64 0, .slice none 0 0] 39)) := by
  refine ⟨.slice none 0 0, O, ⟨?_, World.ownsRow_nil _ _ _ _⟩, F.below hA (balloc _ _), bstep hb (balloc _ _), hb.size, hO, fun j hj hr => ?_⟩
  · exact heap_new _ _
  · have h1 := F.own hA j hj
    rcases hr with rfl | hr
    · omega
    · simp [Value.ownBlock] at hr
def askZ (q : List Int) (j : Nat) : Int := q.getD j 0
theorem askZ_at {q : List Int} {j : Nat} (h : j < q.length) : askZ q j = q[j] := by
  unfold askZ
  rw [List.getD_eq_getElem?_getD, List.getElem?_eq_getElem h]
  rfl
theorem askZ_out {q : List Int} {j : Nat} (h : ¬ j < q.length) : askZ q j = 0 := by
  unfold askZ
  rw [List.getD_eq_getElem?_getD, List.getElem?_eq_none (by omega)]
  rfl

set_option maxHeartbeats 32000000 in
set_option maxRecDepth 1000000 in
theorem storePlays_any (F : Face) (qd od ld : Option Addr) (cq co cl : Nat) (Q : List (List Int)) (T : List (List UInt8)) (ls : List (List Int)) (w : World) (hg : errVar w)
    (hq : Q ≠ [] → ∃ b o, qd = some ⟨b, o, none⟩ ∧ ListsAt w b o Q) (hqn : Q.length ≤ 9223372036854775807) (hqe : ∀ q ∈ Q, q.length ≤ 9223372036854775807)
    (hT : T ≠ [] → ∃ b o, od = some ⟨b, o, none⟩ ∧ TextsAt w b o T) (hb : ∀ b ∈ T, b.length ≤ F.lim) (hb9 : ∀ b ∈ T, b.length ≤ 9223372036854775807)
    (hl : ls ≠ [] → ∃ b o, ld = some ⟨b, o, none⟩ ∧ ListsAt w b o ls) (hle : ∀ q ∈ ls, q.length ≤ 9223372036854775807) :
    Calls Tryd.prog 4 #[.slice qd Q.length cq, .slice od T.length co, .slice ld ls.length cl] w fun e w' => e = .returned (.bool true) ∧ RowKit.Below w.heap.size w w' := by
  have Hg := hideO hg
  have Hq := hideO hq
  have Hqe := hideO hqe
  have HT : Hid _ := And.intro hT (And.intro hb hb9)
  have Hl : Hid _ := And.intro hl hle
  have HN := F.new w
  clear hg hq hqe hT hb hb9 hl hle
  go_enter Tryd.func4, Tryd.ntmps4
  go_wp2_with fail
  refine HN.mono ?_
  rintro e w1 ⟨s, O, rfl, hA, hb1, hO⟩
  have hst3 : Hid (PB F w s w1.heap.size 0 [] (w1.alloc (.cells #[.int .i64 0, .slice none 0 0] 39))) := PB.new hA hb1 hO
  clear hA hb1 hO HN
  generalize hQl : Q.length = nq at *
  have HQl := hideO hQl
  clear hQl
  go_wp2_with fail
  generalize hm0 : w1.heap.size = m at *
  clear hm0
  go_loopw [9] (fun i wr => ∃ (k n : Nat) (L : List Ob), k ≤ nq ∧ k ≤ 60 ∧ i = .int .i64 k ∧ n ≤ k ∧ Hid (GoodO n L) ∧ Hid (PB F w s m n L wr)) (fun i wr => 60 - (intOf i).toNat)
  case atStart => exact ⟨0, 0, [], Nat.zero_le _, by omega, rfl, Nat.le_refl _, goodO_nil 0, hst3⟩
  case round =>
    obtain ⟨k, n, L, hk1, hk2, rfl, hnk, hG, hst⟩ := hrel
    generalize hW0 : wr = W0 at *
    clear hW0 hst3
    by_cases hkq : k < nq
    · by_cases hk60 : k < 60
      · have i1 : (k : Int) < (nq : Int) := by omega
        have i2 : (k : Int) < 60 := by omega
        have i0 : (0 : Int) ≤ (k : Int) := by omega
        have hkQ : k < Q.length := by rw [HQl.out]; exact hkq
        obtain ⟨bq, oq, rfl, hAq⟩ := Hq.out (fun e => by rw [e] at hkQ; simp at hkQ)
        have hbw : Hid (RowKit.Below w.heap.size w W0) := hst.out.low
        obtain ⟨aq, cq', hcq, hin, _⟩ := hAq k hkQ
        have hcW : Hid (∀ W', RowKit.Below w.heap.size w W' → W'.cell? ⟨bq, oq + k, none⟩ = some (.slice aq Q[k].length cq')) := fun W' h => (h.cell (World.block_lt_of_cell? w _ hcq)).trans hcq
        have hiW : Hid (∀ j, j < Q[k].length → ∃ b' o', aq = some ⟨b', o', none⟩ ∧ ∀ W', RowKit.Below w.heap.size w W' → W'.cell? ⟨b', o' + j, none⟩ = some (.int .i64 (askZ Q[k] j))) := fun j hj => by
          obtain ⟨b', o', e, h⟩ := hin.at hj
          rw [← askZ_at hj] at h
          exact ⟨b', o', e, fun W' hW => (hW.cell (World.block_lt_of_cell? w _ h)).trans h⟩
        have hzero : Hid (∀ j, ¬ j < Q[k].length → askZ Q[k] j = 0) := fun j hj => askZ_out hj
        have nq0 : Q[k].length ≤ 9223372036854775807 := Hqe.out _ (List.getElem_mem hkQ)
        clear hin hcq hAq
        generalize Q[k] = q at *
        clear hkQ
        have ar0 : Hid (Num2 (W0.alloc (.cells #[.int .i64 0, .int .i64 0] 40)) W0.heap.size 0 0) := Num2.new _
        go_upto_block 2 with fail
        go_cut [11] (fun _ W' => Hid (Num2 W' W0.heap.size (askZ q 0) (askZ q 1)) ∧ Hid (RowKit.Below W0.heap.size W0 W'))
        case first =>
          go_wp2_with fail
          go_loopw [11] (fun i W' => ((i = .int .i64 0 ∧ Hid (Num2 W' W0.heap.size 0 0))
              ∨ (i = .int .i64 1 ∧ Hid (0 < q.length) ∧ Hid (Num2 W' W0.heap.size (askZ q 0) 0))
              ∨ (i = .int .i64 2 ∧ Hid (1 < q.length) ∧ Hid (Num2 W' W0.heap.size (askZ q 0) (askZ q 1))))
              ∧ Hid (RowKit.Below W0.heap.size W0 W')) (fun i W' => 2 - (intOf i).toNat)
          case atStart => exact ⟨.inl ⟨rfl, ar0⟩, balloc _ _⟩
          case round =>
            obtain ⟨hcs, hbl⟩ := hrel
            have hcq := hcW.out _ (bstep hbw.out hbl.out)
            rcases hcs with ⟨rfl, ha⟩ | ⟨rfl, hp, ha⟩ | ⟨rfl, hp, ha⟩
            · by_cases hlt : 0 < q.length
              · have j1 : (0 : Int) < (q.length : Int) := by omega
                obtain ⟨b', o', rfl, hcell⟩ := hiW.out 0 hlt
                have hc0 : wr.cell? ⟨b', o', none⟩ = some (.int .i64 (askZ q 0)) := hcell _ (bstep hbw.out hbl.out)
                obtain ⟨a0, a1, f0, f1⟩ := id ha.out
                have hzl := World.block_lt_of_cell? _ _ a0
                go_wp2_with fail
                go_roundw
                case rel => exact ⟨.inr (.inl ⟨rfl, hlt, ha.out.set0 _⟩), hbl.out.setCell (p := ⟨W0.heap.size, 0, none⟩) (Nat.le_refl _) _⟩
                case measure => simp [intOf]
              · have j1 : ¬ ((0 : Int) < (q.length : Int)) := by omega
                have z0 := hzero.out 0 (by omega)
                have z1 := hzero.out 1 (by omega)
                go_wp2_with fail
                go_meet
                case rel =>
                  refine ⟨?_, hbl⟩
                  show Num2 _ _ _ _
                  rw [z0, z1]
                  exact ha.out
            · by_cases hlt : 1 < q.length
              · have j1 : (1 : Int) < (q.length : Int) := by omega
                obtain ⟨b', o', rfl, hcell⟩ := hiW.out 1 hlt
                have hc0 : wr.cell? ⟨b', o' + 1, none⟩ = some (.int .i64 (askZ q 1)) := hcell _ (bstep hbw.out hbl.out)
                obtain ⟨a0, a1, f0, f1⟩ := id ha.out
                have hzl := World.block_lt_of_cell? _ _ a0
                go_wp2_with fail
                go_roundw
                case rel => exact ⟨.inr (.inr ⟨rfl, hlt, ha.out.set1 _⟩), hbl.out.setCell (p := ⟨W0.heap.size, 1, none⟩) (Nat.le_refl _) _⟩
                case measure => simp [intOf]
              · have j1 : ¬ ((1 : Int) < (q.length : Int)) := by omega
                have z1 := hzero.out 1 (by omega)
                go_wp2_with fail
                go_meet
                case rel =>
                  refine ⟨?_, hbl⟩
                  show Num2 _ _ _ _
                  rw [z1]
                  exact ha.out
            · by_cases j2 : (2 : Int) < (q.length : Int)
              · go_wp2_with fail
                go_meet
                case rel => exact ⟨ha, hbl⟩
              · go_wp2_with fail
                go_meet
                case rel => exact ⟨ha, hbl⟩
        case rest =>
          obtain ⟨hNum, hbl⟩ := hcut
          have hst2 : Hid (PS F w s m W0.heap.size (askZ q 0) (askZ q 1) n L n L wc) := hst.out.box hbl.out hNum.out
          have HQm := hideO (And.intro hkq (And.intro hk60 hnk))
          have hn6 : n ≤ 1000000 := by omega
          clear hcW hiW hzero nq0 ar0 hst hbw hNum hbl
          refine go_on (by assumption) ?_
          refine splaysStep F _ _ _ _ _ _ _ _ _ _ _ _ _ _ _ _ _ _ _ _ _ _ _ _ _ _ _ _ _ _ _ _ _ _ _ _ _ _ _ _ _ _ _ _ _ _ _ _ _ _ _ _ _ _ _ _ _ _ _ _ _ _ _ _ _ _ _ _ _ _ _ _ _ _ _ _ _ _ _ _ _ _ _ _ _ _ _ _ _ _ _ _ _ _ _ _ _ _ _ _ _ _ _ _ _ _ _ _ _ _ _ _ _ _ _ _ _ _ _ _ _ _ _ _ _ _ _ _ _ _ _ _ _ _ _ _ _ _ _ _ _ _ _ _ _ _ _ _ _ _ _ _ _ _ _ _ _ _ _ _ _ _ _ _ _ _ _ _ _ _ _ _ _ _ _ _ _ _ _ _ _ _ _ _ _ _ _ _ _ _ _ _ _ _ _ _ _ _ _ _ _ _ _ _ _ _ _ _ _ _ _ _ _ _ _ _ _ _ _ _ _ _ _ _ _ _ _ _ _ _ _ _ _ _ od ld cq co cl nq T.length ls.length k s m W0.heap.size n L (askZ q 0) (askZ q 1) w wc ls T Hg.out hG.out hn6 HT.out.1 rfl HT.out.2.1 HT.out.2.2 Hl.out.1 rfl Hl.out.2 hst2.out ?_
          intros
          rename_i n' L' W' hst' hG' hn'
          have Hst' := hideO hst'
          have HG' := hideO hG'
          clear hst' hst2 hG'
          go_wp2_with fail
          go_roundw
          case rel => exact ⟨k + 1, n', L', by have := HQm.out; omega, by have := HQm.out; omega, by go_num, by have := HQm.out; omega, HG', Hst'⟩
          case measure => simp [intOf]; omega
      · obtain rfl : k = 60 := by omega
        have i1 : ((60 : Nat) : Int) < (nq : Int) := by omega
        have hbw : Hid (RowKit.Below w.heap.size w W0) := hst.out.low
        clear hst
        go_wp2_with fail
        exact bodyPost_ret (v := .bool true) (by simp [results, Tryd.results4, go_sem]) rfl ⟨rfl, hbw.out⟩
    · obtain rfl : k = nq := by omega
      have hbw : Hid (RowKit.Below w.heap.size w W0) := hst.out.low
      clear hst
      go_wp2_with fail
      exact bodyPost_ret (v := .bool true) (by simp [results, Tryd.results4, go_sem]) rfl ⟨rfl, hbw.out⟩
end Go.Proofs.YtpdieckoemfebaeDoor
