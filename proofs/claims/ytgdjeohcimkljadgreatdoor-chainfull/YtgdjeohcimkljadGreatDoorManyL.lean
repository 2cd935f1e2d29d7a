/- stratalaw4's name and many. -/
import Derived.Test.YtgdjeohcimkljadGreatDoorManyPlain
import Derived.Test.YtgdjeohcimkljadGreatDoorTextL
import Derived.Deep.RegionHeld3
import Derived.Deep.AppendLies
namespace Go.Proofs.YtgdjeohcimkljadGreatDoor
open Go Go.RowKit Go.Proofs
set_option synthInstance.maxSize 1000

theorem nameS_any (S : List UInt8) (w : World) : Calls Tryz.prog 26 #[.string ⟨S.toArray⟩] w
    fun e w' => e = .returned (.agg #[.int .i64 1, .string ⟨S.toArray⟩, .string ⟨#[]⟩]) ∧ RowKit.Below w.heap.size w w' := by
  go_enter Tryz.func26, Tryz.ntmps26
  go_wp2
  refine bodyPost_ret (v := .agg #[.int .i64 1, .string ⟨S.toArray⟩, .string ⟨#[]⟩]) (by simp [results, Tryz.results26, go_sem]) rfl ⟨rfl, balloc _ _⟩

theorem keepM {W W' : World} {p0 p1 p2 : Addr} {v0 v1 v2 : Value} {base : Nat} {e : TypeId} {sz : Nat} {v : Value} {n : Nat} {cs : List Value}
    (h : W.cell? p0 = some v0 ∧ W.cell? p1 = some v1 ∧ W.cell? p2 = some v2 ∧ W.ownsRow base e sz v n cs) (hb : RowKit.Below W.heap.size W W') : W'.cell? p0 = some v0 ∧ W'.cell? p1 = some v1 ∧ W'.cell? p2 = some v2 ∧ W'.ownsRow base e sz v n cs :=
  ⟨(hb.cell (World.block_lt_of_cell? W _ h.1)).trans h.1, (hb.cell (World.block_lt_of_cell? W _ h.2.1)).trans h.2.1, (hb.cell (World.block_lt_of_cell? W _ h.2.2.1)).trans h.2.2.1, ownsRow_below h.2.2.2 hb⟩

theorem keepS {W W' : World} {B : Nat} {p0 p1 p2 : Addr} {v0 v1 v2 : Value} (h : W.cell? p0 = some v0 ∧ W.cell? p1 = some v1 ∧ W.cell? p2 = some v2 ∧ B < W.heap.size) (hb : RowKit.Below W.heap.size W W') : W'.cell? p0 = some v0 ∧ W'.cell? p1 = some v1 ∧ W'.cell? p2 = some v2 ∧ B < W'.heap.size :=
  ⟨(hb.cell (World.block_lt_of_cell? W _ h.1)).trans h.1, (hb.cell (World.block_lt_of_cell? W _ h.2.1)).trans h.2.1, (hb.cell (World.block_lt_of_cell? W _ h.2.2.1)).trans h.2.2.1, Nat.lt_of_lt_of_le h.2.2.2 hb.size⟩
theorem keepA {W : World} {B : Nat} {p0 p1 p2 : Addr} {v0 v1 v2 : Value} (h : W.cell? p0 = some v0 ∧ W.cell? p1 = some v1 ∧ W.cell? p2 = some v2 ∧ B < W.heap.size) (o : Obj) : (W.alloc o).cell? p0 = some v0 ∧ (W.alloc o).cell? p1 = some v1 ∧ (W.alloc o).cell? p2 = some v2 ∧ B < (W.alloc o).heap.size := keepS h (balloc W o)
theorem keepG {W W' : World} {B : Nat} {v0 v1 v2 : Value} {row : Option Nat} (h : W.cell? ⟨B, 0, none⟩ = some v0 ∧ W.cell? ⟨B, 1, none⟩ = some v1 ∧ W.cell? ⟨B, 2, none⟩ = some v2 ∧ B < W.heap.size) (hg : W.grownBy W' row) (hne : row ≠ some B) : W'.cell? ⟨B, 0, none⟩ = some v0 ∧ W'.cell? ⟨B, 1, none⟩ = some v1 ∧ W'.cell? ⟨B, 2, none⟩ = some v2 ∧ B < W'.heap.size :=
  ⟨hg.cell h.1 (Ne.symm hne), hg.cell h.2.1 (Ne.symm hne), hg.cell h.2.2.1 (Ne.symm hne), Nat.lt_of_lt_of_le h.2.2.2 hg.size⟩

set_option maxHeartbeats 4000000 in
set_option maxRecDepth 100000 in
theorem many_any (n : Nat) (w : World) (hn : n ≤ 200) : Calls Tryz.prog 6 #[.int .i64 n] w
    fun e w' => ∃ v, e = .returned v ∧ w'.ownsRow w.heap.size 72 9 v n (cellsT (manyL 115 n)) ∧ RowKit.Below w.heap.size w w' := by
  obtain ⟨i0, hi, hz⟩ := Option.map_eq_some_iff.1 infoTr
  simp only [Prod.mk.injEq] at hz
  obtain ⟨hz0, hz1, hz2⟩ := hz
  have NS := fun W => nameS_any [115] W
  have NP := fun W => nameS_any [112] W
  go_enter Tryz.func6, Tryz.ntmps6
  go_wp2_with fail
  go_loopw [3, 4] (fun v i wr => ∃ k : Nat, k ≤ n ∧ i = .int .i64 k ∧ Hid (wr.ownsRow w.heap.size 72 9 v k (cellsT (manyL 115 k))) ∧ RowKit.Below w.heap.size w wr) (fun _ i wr => n - (intOf i).toNat)
  case atStart => exact ⟨0, Nat.zero_le _, rfl, World.ownsRow_nil _ _ _ _, RowKit.Below.refl _ _⟩
  case round =>
    obtain ⟨k, hk, rfl, hown, hbr⟩ := hrel
    by_cases hlt : k < n
    · have i1 : (k : Int) < (n : Int) := by omega
      have HT := text_any k wr (by omega)
      have hnew : Hid (manyL 115 (k + 1) = manyL 115 k ++ [(nameT 115, nameT 112, textT k)]) := manyL_succ 115 k
      generalize textT k = y at *
      generalize manyL 115 k = t0 at *
      unfold valTm at HT
      go_wp2_with fail
      refine HT.mono ?_
      rintro e w1 ⟨rfl, hb1⟩
      have hB1 := bstep hbr hb1
      have ho1 := hideT (ownsRow_below hown.out hb1)
      have hz1' := hB1.size
      clear HT hown hb1 hbr
      go_wp2_with fail
      have hne : u3.ownBlock ≠ some w1.heap.size := fun e => by have := (ho1.out.lt _ e).2; omega
      go_region_held3 (fun W => W.cell? ⟨w1.heap.size, 0, none⟩ = some (.int .i64 y.1) ∧ W.cell? ⟨w1.heap.size, 1, none⟩ = some (.string ⟨y.2.1.toArray⟩) ∧ W.cell? ⟨w1.heap.size, 2, none⟩ = some (.string ⟨y.2.2.toArray⟩) ∧ w1.heap.size < W.heap.size)
        (first
          | (refine keepG ?_ hgrow hne; assumption)
          | (refine keepS ?_ hb3; assumption)
          | (refine keepS ?_ hb2; assumption)
          | (refine keepA ?_ _; assumption)
          | (refine ⟨?_, ?_, ?_, ?_⟩ <;> first | (go_simp; done) | (simp; done)))
        (first
          | (go_at_call_of 26 (Value.string ⟨#[115]⟩); refine (NS _).mono ?_; rintro e w2 ⟨rfl, hb2⟩)
          | (go_at_call_of 26 (Value.string ⟨#[112]⟩); refine (NP _).mono ?_; rintro e w3 ⟨rfl, hb3⟩)
          | (refine step_append_lies _ (by rfl) _ _ _ (by rfl) w.heap.size 72 i0 _ 9 120 Tryz.underlying27 hi hz0 hz1 hz2 rfl (by omega) u3 k (cellsT t0) (by rfl) ((ownsRow_below (ownsRow_below (ho1.out.alloc _).drew hb2) hb3).alloc _)
              ⟨w3.heap.size, 0, none⟩ 1 1 (encTr (nameT 115, nameT 112, y)) (by rfl) (by rfl) (World.news_of_block (cs := (encTr (nameT 115, nameT 112, y)).toArray) (t := 72) (fr := (0, 0)) (heap_alloc_new w3 _)) (encTr_one _)
              (by omega) (by unfold maxLen; omega) (by omega) (by have h1 := hb2.size; have h2 := hb3.size; simp at h1 h2 ⊢; omega) (w3.heap.size + 1) (by simp) ?_; intro gg cap w4 hown4 hgrow hat hlt4))
      have hB4 : RowKit.Below w.heap.size w w4 := by
        have hb12 := bstep (bstep (bstep hB1 (balloc _ _)).drew hb2) hb3
        exact (bstep hb12 (balloc _ _)).grown hgrow (by have := hb12.size; simp; omega) (fun j hj => (ho1.out.lt j hj).1)
      go_wp2_with fail
      go_roundw
      case rel =>
        refine ⟨k + 1, by omega, by go_num, ?_, hB4⟩
        show World.ownsRow _ _ _ _ _ _ _
        rw [hnew.out]
        simpa [cellsT] using hown4
      case measure => simp [intOf]; omega
    · obtain rfl : k = n := by omega
      go_wp2_with fail
      go_ret
      exact ⟨_, rfl, hown.out, hbr⟩
end Go.Proofs.YtgdjeohcimkljadGreatDoor
