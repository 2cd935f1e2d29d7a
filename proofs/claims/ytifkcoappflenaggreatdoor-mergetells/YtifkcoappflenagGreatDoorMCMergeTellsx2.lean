import Derived.Test.YtifkcoappflenagGreatDoorMCMergeTellsx1
import Derived.Deep.AppendLies
import Derived.Test.YtifkcoappflenagGreatDoorMA0x3
import Derived.Test.YtifkcoappflenagGreatDoorMA0x1
import Derived.Deep.Draws
import Derived.RegionTactic
import Derived.Test.YtifkcoappflenagGreatDoorMA0x0
import Derived.LaidEql
import Derived.Stop.Asserts
import Derived.RowKitTokens

/- The document's answer (package strataref2): pairs. -/
namespace Go.Proofs.YtifkcoappflenagGreatDoor
open Go Go.RowKit Go.Proofs
set_option synthInstance.maxSize 1000

theorem hideM {p : Prop} (h : p) : Hid p := h
theorem pairs_step {m : List Tr} {k : Nat} (h : k < m.length) : pairsL (m.take (k + 1)) = pairsS (pairsL (m.take k)) m[k] := pairsL_next h
theorem pairsS_nil (x : Tr) : pairsS [] x = [pairOf x] := rfl
theorem pairs_len (m : List Tr) : (pairsL m).length ≤ m.length := by
  suffices h : ∀ (m : List Tr) (l : List Pr), (m.foldl pairsS l).length ≤ l.length + m.length by simpa [pairsL] using h m []
  intro m
  induction m with
  | nil => intro l; simp
  | cons x r ih =>
    intro l
    have h1 := ih (pairsS l x)
    have h2 : (pairsS l x).length ≤ l.length + 1 := by unfold pairsS; split <;> simp
    simp only [List.foldl_cons, List.length_cons]
    omega
theorem keep6A {W : World} {g o k : Nat} {v0 v1 v2 v3 v4 v5 : Value} (h : W.cell? ⟨g, o + k * 9, none⟩ = some v0 ∧ W.cell? ⟨g, o + k * 9 + 1, none⟩ = some v1 ∧ W.cell? ⟨g, o + k * 9 + 2, none⟩ = some v2 ∧ W.cell? ⟨g, o + k * 9 + 3, none⟩ = some v3 ∧ W.cell? ⟨g, o + k * 9 + 4, none⟩ = some v4 ∧ W.cell? ⟨g, o + k * 9 + 5, none⟩ = some v5 ∧ g < W.heap.size) (b : Obj) : (W.alloc b).cell? ⟨g, o + k * 9, none⟩ = some v0 ∧ (W.alloc b).cell? ⟨g, o + k * 9 + 1, none⟩ = some v1 ∧ (W.alloc b).cell? ⟨g, o + k * 9 + 2, none⟩ = some v2 ∧ (W.alloc b).cell? ⟨g, o + k * 9 + 3, none⟩ = some v3 ∧ (W.alloc b).cell? ⟨g, o + k * 9 + 4, none⟩ = some v4 ∧ (W.alloc b).cell? ⟨g, o + k * 9 + 5, none⟩ = some v5 ∧ g < (W.alloc b).heap.size := by
  have q : ∀ (p : Addr) (v : Value), W.cell? p = some v → (W.alloc b).cell? p = some v := fun p v hv => ((balloc W b).cell (World.block_lt_of_cell? W p hv)).trans hv
  obtain ⟨h0, h1, h2, h3, h4, h5, h6⟩ := h
  exact ⟨q _ _ h0, q _ _ h1, q _ _ h2, q _ _ h3, q _ _ h4, q _ _ h5, by simp; omega⟩
theorem keep6G {W W' : World} {g o k : Nat} {v0 v1 v2 v3 v4 v5 : Value} {row : Option Nat} (h : W.cell? ⟨g, o + k * 9, none⟩ = some v0 ∧ W.cell? ⟨g, o + k * 9 + 1, none⟩ = some v1 ∧ W.cell? ⟨g, o + k * 9 + 2, none⟩ = some v2 ∧ W.cell? ⟨g, o + k * 9 + 3, none⟩ = some v3 ∧ W.cell? ⟨g, o + k * 9 + 4, none⟩ = some v4 ∧ W.cell? ⟨g, o + k * 9 + 5, none⟩ = some v5 ∧ g < W.heap.size) (hg : W.grownBy W' row) (hne : row ≠ some g) : W'.cell? ⟨g, o + k * 9, none⟩ = some v0 ∧ W'.cell? ⟨g, o + k * 9 + 1, none⟩ = some v1 ∧ W'.cell? ⟨g, o + k * 9 + 2, none⟩ = some v2 ∧ W'.cell? ⟨g, o + k * 9 + 3, none⟩ = some v3 ∧ W'.cell? ⟨g, o + k * 9 + 4, none⟩ = some v4 ∧ W'.cell? ⟨g, o + k * 9 + 5, none⟩ = some v5 ∧ g < W'.heap.size := by
  have q : ∀ (j : Nat) (v : Value), W.cell? ⟨g, j, none⟩ = some v → W'.cell? ⟨g, j, none⟩ = some v := fun j v hv => (hg.cell_far ⟨g, j, none⟩ h.2.2.2.2.2.2 (fun e => hne e.symm)).trans hv
  obtain ⟨h0, h1, h2, h3, h4, h5, h6⟩ := h
  exact ⟨q _ _ h0, q _ _ h1, q _ _ h2, q _ _ h3, q _ _ h4, q _ _ h5, Nat.lt_of_lt_of_le h6 hg.size⟩

set_option maxHeartbeats 32000000 in
set_option maxRecDepth 100000 in
theorem RPairs0_any (ad : Option Addr) (ca : Nat) (l : List Tr) (w : World) (hl : SlT w ad l) (hr : Rising l) (nl : l.length ≤ 1000) :
    Calls Tryz.prog 20 #[.slice ad l.length ca] w fun e w' => ∃ ad' c, e = .returned (.slice ad' (pairsL l).length c) ∧ SlP w' ad' (pairsL l) ∧ RowKit.Below w.heap.size w w' := by
  have HS := RSorted_any ad ca l w hl (by omega)
  have Hr : Hid (Rising l) := hr
  clear hl hr
  obtain ⟨i0, hi, hz⟩ := Option.map_eq_some_iff.1 infoP
  simp only [Prod.mk.injEq] at hz
  obtain ⟨hz0, hz1, hz2⟩ := hz
  go_enter Tryz.func20, Tryz.ntmps20
  go_wp2_with fail
  refine HS.mono ?_
  rintro e w1 ⟨m, am, cm, rfl, hm, hmr, hmem, hml, hb1⟩
  have em := rising_unique m l hmr Hr.out hmem
  subst em
  have Hm0 : Hid (SlT w1 am m) := hm
  have Hb1 : Hid (RowKit.Below w.heap.size w w1) := hb1
  clear HS hm hmr hmem hml hb1 Hr
  dsimp only
  go_wp2_with fail
  go_loopw [3, 5] (fun v i wr => ∃ k : Nat, k ≤ m.length ∧ i = .int .i64 k ∧ Hid (wr.ownsRow w1.heap.size 55 6 v (pairsL (m.take k)).length (cellsP (pairsL (m.take k)))) ∧ RowKit.Below w1.heap.size w1 wr) (fun _ i wr => m.length - (intOf i).toNat)
  case atStart => exact ⟨0, Nat.zero_le _, rfl, by show World.ownsRow _ _ _ _ _ _ _; rw [List.take_zero]; exact World.ownsRow_nil _ _ _ _, RowKit.Below.refl _ _⟩
  case round =>
    obtain ⟨k, hk, rfl, hown, hbr⟩ := hrel
    obtain ⟨vd, vc, rfl, hsl⟩ := own_slP hown.out
    by_cases hlt : k < m.length
    · obtain ⟨g, o, rfl, hrow⟩ := Hm0.out.at k hlt
      obtain ⟨c0, c1, c2, c3, c4, c5, c6, c7, c8⟩ := (hrow.below hbr).at k hlt
      have hg1 : g < w1.heap.size := World.block_lt_of_cell? _ _ (hrow.at k hlt).1
      have Hm : Hid (∀ {W : World}, RowKit.Below w1.heap.size w1 W ∧ g < w1.heap.size → True ∧ ∀ j (hj : j < m.length), _) := fun {W} hW => ⟨trivial, fun j hj => (hrow.below hW.1).at j hj⟩
      have HX : Hid (∀ {W : World}, RowKit.Below w1.heap.size w1 W → RowKit.Below w1.heap.size w1 W ∧ g < w1.heap.size) := fun {W} hW => ⟨hW, hg1⟩
      have i0' : (0 : Int) ≤ (k : Int) := by omega
      have i1 : (k : Int) < (m.length : Int) := by omega
      have hstep : Hid _ := pairs_step hlt
      have hlen : (pairsL (m.take k)).length ≤ k := Nat.le_trans (pairs_len _) (by simp; omega)
      have hzr := hbr.size
      obtain ⟨y, hy⟩ : ∃ y, y = m[k] := ⟨_, rfl⟩
      have Hy : Hid (y = m[k]) := hy
      rw [← hy] at hstep c0 c1 c2 c3 c4 c5 c6 c7 c8
      generalize ht : pairsL (m.take (k + 1)) = t1 at hstep
      have Ht : Hid _ := ht
      generalize pairsL (m.take k) = t0 at *
      clear hrow ht hy hg1
      have hne := lat_some wr
      have q0 := lat_cell c0
      have q1 := lat_cell c1
      have q2 := lat_cell c2
      have q3 := lat_cell c3
      have q4 := lat_cell c4
      have q5 := lat_cell c5
      clear c0 c1 c2 c3 c4 c5 c6 c7 c8
      by_cases h0 : t0 = []
      · subst h0
        have hs2 : Hid (t1 = [] ++ [pairOf y]) := hstep.out
        clear hstep
        clear hsl
        go_wp2_with fail
        refine lat_region (by kernel_rfl) (by kernel_rfl) ?_
        repeat (go_big_quiet_step (fail))
        refine wpQuiet_nil ?_
        intro w2 hw'
        have hW : RowKit.Below wr.heap.size wr w2 := by obtain ⟨nW, rfl⟩ := hw'; exact nW.low
        clear hw'
        have hB2 := bstep hbr hW
        have ho2 := hideM (ownsRow_belowS hown.out hW)
        obtain ⟨c0, c1, c2, c3, c4, c5, c6, c7, c8⟩ := (Hm.out (HX.out hB2)).2 k hlt
        rw [← Hy.out] at c0 c1 c2 c3 c4 c5
        have hgl : g < w2.heap.size := World.block_lt_of_cell? _ _ c0
        have hzz2 := hB2.size
        have hng : (Value.slice vd 0 vc).ownBlock ≠ some g := fun e => by have := (ho2.out.lt _ e).1; have := (HX.out (RowKit.Below.refl _ w1)).2; omega
        clear c6 c7 c8 hown hbr
        go_wp2_with fail
        go_region_held3 (fun W => W.cell? ⟨g, o + k * 9, none⟩ = some (.int .i64 y.1.1) ∧ W.cell? ⟨g, o + k * 9 + 1, none⟩ = some (.string ⟨y.1.2.1.toArray⟩) ∧ W.cell? ⟨g, o + k * 9 + 2, none⟩ = some (.string ⟨y.1.2.2.toArray⟩) ∧ W.cell? ⟨g, o + k * 9 + 3, none⟩ = some (.int .i64 y.2.1.1) ∧ W.cell? ⟨g, o + k * 9 + 4, none⟩ = some (.string ⟨y.2.1.2.1.toArray⟩) ∧ W.cell? ⟨g, o + k * 9 + 5, none⟩ = some (.string ⟨y.2.1.2.2.toArray⟩) ∧ g < W.heap.size)
          (first
            | (refine keep6G ?_ hg9 hng; assumption)
            | (refine keep6A ?_ _; assumption)
            | (refine ⟨?_, ?_, ?_, ?_, ?_, ?_, ?_⟩ <;> first | (go_simp; done) | (simp; done) | assumption))
          (first
            | (refine step_append_lies _ (by rfl) _ _ _ (by rfl) w1.heap.size 55 i0 _ 6 80 Tryz.underlying25 hi hz0 hz1 hz2 rfl (by omega) (.slice vd 0 vc) 0 (cellsP []) (by rfl) ((ho2.out.alloc _).drew)
                ⟨w2.heap.size, 0, none⟩ 1 1 (encP (pairOf y)) (by rfl) (by rfl) (World.news_of_block (cs := (encP (pairOf y)).toArray) (t := 55) (fr := (0, 0)) (heap_alloc_new w2 _)) (encP_one _)
                (by omega) (by unfold maxLen; omega) (by omega) (by simp; omega) (w2.heap.size + 1) (by simp) ?_; intro gg cap w4 hown4 hg9 hat9 hlt9))
        have hB4 : RowKit.Below w1.heap.size w1 w4 := (bstep hB2 (balloc _ _)).drew.grown hg9 (by have := hB2.size; simp; omega) (fun j hj => (ho2.out.lt j hj).1)
        go_wp2_with fail
        go_roundw
        case rel =>
          refine ⟨k + 1, by omega, by go_num, ?_, hB4⟩
          show World.ownsRow _ _ _ _ _ _ _
          rw [Ht.out, hs2.out]
          simpa [cellsP] using hown4
        case measure => simp [intOf]; omega
      · obtain ⟨j, hj⟩ : ∃ j, t0.length = j + 1 := ⟨t0.length - 1, by have := List.length_pos_iff.2 h0; omega⟩
        have hjl : j < t0.length := by omega
        obtain ⟨b2, o2, rfl, hrp⟩ := hsl.at j hjl
        obtain ⟨d0, d1, d2, d3, d4, d5⟩ := hrp.at j hjl
        have hlast : t0.getLast? = some t0[j] := by rw [List.getLast?_eq_getElem?, show t0.length - 1 = j by omega, List.getElem?_eq_getElem hjl]
        obtain ⟨p, hp⟩ : ∃ p, p = t0[j] := ⟨_, rfl⟩
        rw [← hp] at d0 d1 d2 d3 d4 d5 hlast
        have H1 := fun W => RCompare_any p.1.1 p.1.2.1 p.1.2.2 y.1.1 y.1.2.1 y.1.2.2 W
        have H2 := fun W => RCompare_any p.2.1 p.2.2.1 p.2.2.2 y.2.1.1 y.2.1.2.1 y.2.1.2.2 W
        have hcp : Hid (t0.getLast? = some (pairOf y) ↔ cmpT p.1.1 p.1.2.1 p.1.2.2 y.1.1 y.1.2.1 y.1.2.2 = 0 ∧ cmpT p.2.1 p.2.2.1 p.2.2.2 y.2.1.1 y.2.1.2.1 y.2.1.2.2 = 0) := by
          show _ ↔ cmpTm p.1 y.1 = 0 ∧ cmpTm p.2 y.2.1 = 0
          rw [hlast, cmpTm_zero, cmpTm_zero]
          constructor
          · intro h; injection h with h; rw [h]; exact ⟨rfl, rfl⟩
          · rintro ⟨h1, h2⟩; unfold pairOf; rw [← h1, ← h2]
        generalize cmpT p.1.1 p.1.2.1 p.1.2.2 y.1.1 y.1.2.1 y.1.2.2 = x1 at H1 hcp
        generalize cmpT p.2.1 p.2.2.1 p.2.2.2 y.2.1.1 y.2.1.2.1 y.2.1.2.2 = x2 at H2 hcp
        have j0 : (0 : Int) ≤ (j : Int) := by omega
        have j1 : (j : Int) < (j : Int) + 1 := by omega
        have j2 : (j : Int) < ((j + 1 : Nat) : Int) := by omega
        have wj1 : IntKind.i64.wrap ((j : Int) + 1 - 1) = (j : Int) := by simp [IntKind.wrap, IntKind.bits, IntKind.signed]; omega
        have wj2 : IntKind.i64.wrap (j : Int) = (j : Int) := by simp [IntKind.wrap, IntKind.bits, IntKind.signed]; omega
        have hj1000 : j + 1 ≤ 1000 := by omega
        have Hj : Hid (t0.length = j + 1) := hj
        rw [hj] at hown ⊢
        clear hsl hrp hlast hp hjl hj h0
        have r0 := lat_cell d0
        have r1 := lat_cell d1
        have r2 := lat_cell d2
        have r3 := lat_cell d3
        have r4 := lat_cell d4
        have r5 := lat_cell d5
        clear d0 d1 d2 d3 d4 d5
        by_cases h1 : x1 = 0
        · subst h1
          by_cases h2 : x2 = 0
          · have hs2 : Hid (t1 = t0) := by have := hstep.out; unfold pairsS at this; rw [if_pos (hcp.out.2 ⟨rfl, h2⟩)] at this; exact this
            subst h2
            clear hstep hcp
            go_wp2_with fail
            refine lat_region (by kernel_rfl) (by kernel_rfl) ?_
            repeat (go_big_quiet_step (fail))
            go_big_quiet_step (exact lat_call (H1 _))
            repeat (go_big_quiet_step (fail))
            go_big_quiet_step (exact lat_call (H2 _))
            repeat (go_big_quiet_step (fail))
            refine wpQuiet_nil ?_
            intro w2 hw'
            have hW : RowKit.Below wr.heap.size wr w2 := by obtain ⟨nW, rfl⟩ := hw'; exact nW.low
            clear hw'
            go_wp2_with fail
            go_roundw
            case rel =>
              refine ⟨k + 1, by omega, by go_num, ?_, bstep hbr hW⟩
              show World.ownsRow _ _ _ _ _ _ _
              rw [Ht.out, hs2.out, Hj.out]
              exact ownsRow_belowS hown.out hW
            case measure => simp [intOf]; omega
          · have hs2 : Hid (t1 = t0 ++ [pairOf y]) := by have := hstep.out; unfold pairsS at this; rw [if_neg (fun h => h2 (hcp.out.1 h).2)] at this; exact this
            have h2' : (x2 == 0) = false := by simpa using h2
            clear hstep hcp
            go_wp2_with fail
            refine lat_region (by kernel_rfl) (by kernel_rfl) ?_
            repeat (go_big_quiet_step (fail))
            go_big_quiet_step (exact lat_call (H1 _))
            repeat (go_big_quiet_step (fail))
            go_big_quiet_step (exact lat_call (H2 _))
            repeat (go_big_quiet_step (fail))
            refine wpQuiet_nil ?_
            intro w2 hw'
            have hW : RowKit.Below wr.heap.size wr w2 := by obtain ⟨nW, rfl⟩ := hw'; exact nW.low
            clear hw'
            have hB2 := bstep hbr hW
            have ho2 := hideM (ownsRow_belowS hown.out hW)
            obtain ⟨c0, c1, c2, c3, c4, c5, c6, c7, c8⟩ := (Hm.out (HX.out hB2)).2 k hlt
            rw [← Hy.out] at c0 c1 c2 c3 c4 c5
            have hgl : g < w2.heap.size := World.block_lt_of_cell? _ _ c0
            have hzz2 := hB2.size
            have hng : (Value.slice (some ⟨b2, o2, none⟩) (j + 1) vc).ownBlock ≠ some g := fun e => by have := (ho2.out.lt _ e).1; have := (HX.out (RowKit.Below.refl _ w1)).2; omega
            clear c6 c7 c8 hown hbr
            go_wp2_with fail
            go_region_held3 (fun W => W.cell? ⟨g, o + k * 9, none⟩ = some (.int .i64 y.1.1) ∧ W.cell? ⟨g, o + k * 9 + 1, none⟩ = some (.string ⟨y.1.2.1.toArray⟩) ∧ W.cell? ⟨g, o + k * 9 + 2, none⟩ = some (.string ⟨y.1.2.2.toArray⟩) ∧ W.cell? ⟨g, o + k * 9 + 3, none⟩ = some (.int .i64 y.2.1.1) ∧ W.cell? ⟨g, o + k * 9 + 4, none⟩ = some (.string ⟨y.2.1.2.1.toArray⟩) ∧ W.cell? ⟨g, o + k * 9 + 5, none⟩ = some (.string ⟨y.2.1.2.2.toArray⟩) ∧ g < W.heap.size)
              (first
                | (refine keep6G ?_ hg9 hng; assumption)
                | (refine keep6A ?_ _; assumption)
                | (refine ⟨?_, ?_, ?_, ?_, ?_, ?_, ?_⟩ <;> first | (go_simp; done) | (simp; done) | assumption))
              (first
                | (refine step_append_lies _ (by rfl) _ _ _ (by rfl) w1.heap.size 55 i0 _ 6 80 Tryz.underlying25 hi hz0 hz1 hz2 rfl (by omega) (.slice (some ⟨b2, o2, none⟩) (j + 1) vc) (j + 1) (cellsP t0) (by rfl) ((ho2.out.alloc _).drew)
                    ⟨w2.heap.size, 0, none⟩ 1 1 (encP (pairOf y)) (by rfl) (by rfl) (World.news_of_block (cs := (encP (pairOf y)).toArray) (t := 55) (fr := (0, 0)) (heap_alloc_new w2 _)) (encP_one _)
                    (by omega) (by unfold maxLen; omega) (by omega) (by simp; omega) (w2.heap.size + 1) (by simp) ?_; intro gg cap w4 hown4 hg9 hat9 hlt9))
            have hB4 : RowKit.Below w1.heap.size w1 w4 := (bstep hB2 (balloc _ _)).drew.grown hg9 (by have := hB2.size; simp; omega) (fun j hj => (ho2.out.lt j hj).1)
            go_wp2_with fail
            go_roundw
            case rel =>
              refine ⟨k + 1, by omega, by go_num, ?_, hB4⟩
              show World.ownsRow _ _ _ _ _ _ _
              rw [Ht.out, hs2.out]
              simpa [cellsP, Hj.out] using hown4
            case measure => simp [intOf]; omega
        · have hs2 : Hid (t1 = t0 ++ [pairOf y]) := by have := hstep.out; unfold pairsS at this; rw [if_neg (fun h => h1 (hcp.out.1 h).1)] at this; exact this
          have h1' : (x1 == 0) = false := by simpa using h1
          clear hstep hcp
          go_wp2_with fail
          refine lat_region (by kernel_rfl) (by kernel_rfl) ?_
          repeat (go_big_quiet_step (fail))
          go_big_quiet_step (exact lat_call (H1 _))
          repeat (go_big_quiet_step (fail))
          refine wpQuiet_nil ?_
          intro w2 hw'
          have hW : RowKit.Below wr.heap.size wr w2 := by obtain ⟨nW, rfl⟩ := hw'; exact nW.low
          clear hw'
          have hB2 := bstep hbr hW
          have ho2 := hideM (ownsRow_belowS hown.out hW)
          obtain ⟨c0, c1, c2, c3, c4, c5, c6, c7, c8⟩ := (Hm.out (HX.out hB2)).2 k hlt
          rw [← Hy.out] at c0 c1 c2 c3 c4 c5
          have hgl : g < w2.heap.size := World.block_lt_of_cell? _ _ c0
          have hzz2 := hB2.size
          have hng : (Value.slice (some ⟨b2, o2, none⟩) (j + 1) vc).ownBlock ≠ some g := fun e => by have := (ho2.out.lt _ e).1; have := (HX.out (RowKit.Below.refl _ w1)).2; omega
          clear c6 c7 c8 hown hbr
          go_wp2_with fail
          go_region_held3 (fun W => W.cell? ⟨g, o + k * 9, none⟩ = some (.int .i64 y.1.1) ∧ W.cell? ⟨g, o + k * 9 + 1, none⟩ = some (.string ⟨y.1.2.1.toArray⟩) ∧ W.cell? ⟨g, o + k * 9 + 2, none⟩ = some (.string ⟨y.1.2.2.toArray⟩) ∧ W.cell? ⟨g, o + k * 9 + 3, none⟩ = some (.int .i64 y.2.1.1) ∧ W.cell? ⟨g, o + k * 9 + 4, none⟩ = some (.string ⟨y.2.1.2.1.toArray⟩) ∧ W.cell? ⟨g, o + k * 9 + 5, none⟩ = some (.string ⟨y.2.1.2.2.toArray⟩) ∧ g < W.heap.size)
            (first
              | (refine keep6G ?_ hg9 hng; assumption)
              | (refine keep6A ?_ _; assumption)
              | (refine ⟨?_, ?_, ?_, ?_, ?_, ?_, ?_⟩ <;> first | (go_simp; done) | (simp; done) | assumption))
            (first
              | (refine step_append_lies _ (by rfl) _ _ _ (by rfl) w1.heap.size 55 i0 _ 6 80 Tryz.underlying25 hi hz0 hz1 hz2 rfl (by omega) (.slice (some ⟨b2, o2, none⟩) (j + 1) vc) (j + 1) (cellsP t0) (by rfl) ((ho2.out.alloc _).drew)
                  ⟨w2.heap.size, 0, none⟩ 1 1 (encP (pairOf y)) (by rfl) (by rfl) (World.news_of_block (cs := (encP (pairOf y)).toArray) (t := 55) (fr := (0, 0)) (heap_alloc_new w2 _)) (encP_one _)
                  (by omega) (by unfold maxLen; omega) (by omega) (by simp; omega) (w2.heap.size + 1) (by simp) ?_; intro gg cap w4 hown4 hg9 hat9 hlt9))
          have hB4 : RowKit.Below w1.heap.size w1 w4 := (bstep hB2 (balloc _ _)).drew.grown hg9 (by have := hB2.size; simp; omega) (fun j hj => (ho2.out.lt j hj).1)
          go_wp2_with fail
          go_roundw
          case rel =>
            refine ⟨k + 1, by omega, by go_num, ?_, hB4⟩
            show World.ownsRow _ _ _ _ _ _ _
            rw [Ht.out, hs2.out]
            simpa [cellsP, Hj.out] using hown4
          case measure => simp [intOf]; omega
    · obtain rfl : k = m.length := by omega
      have hown' := hown.out
      rw [List.take_length] at hown' hsl
      rw [List.take_length]
      have Hsl : Hid _ := hsl
      clear hown' hown hsl
      go_wp2_with fail
      go_ret
      exact ⟨vd, vc, rfl, Hsl.out, bstep Hb1.out hbr⟩
end Go.Proofs.YtifkcoappflenagGreatDoor

/- The document's answer (package strataref2): Pairs. -/
namespace Go.Proofs.YtifkcoappflenagGreatDoor
open Go Go.RowKit Go.Proofs
set_option synthInstance.maxSize 1000

theorem newPr (W : World) (x : Pr) : ∀ (j : Nat) u, (encP x)[j]? = some u → (W.alloc (.cells (encP x).toArray 55)).cell? (Addr.add ⟨W.heap.size, 0, none⟩ j) = some u := fun j u hu => by
  have h9 : j < 6 := (List.getElem?_eq_some_iff.1 hu).1
  rw [Addr.add_lit]
  rcases (by omega : j = 0 ∨ j = 1 ∨ j = 2 ∨ j = 3 ∨ j = 4 ∨ j = 5) with rfl | rfl | rfl | rfl | rfl | rfl
  all_goals
    simp [encP] at hu
    subst hu
    unfold encP
    go_simp
theorem filterP_step (l : List Pr) (f : Pr → Bool) (k : Nat) (h : k < l.length) : (l.take (k + 1)).filter f = (l.take k).filter f ++ (if f l[k] then [l[k]] else []) := by
  rw [List.take_succ_eq_append_getElem h, List.filter_append]
  cases hp : f l[k] <;> simp [hp]
theorem rowP_grown {W W' : World} {base : Nat} {e : TypeId} {sz : Nat} {v : Value} {n : Nat} {cs : List Value} (h : W.ownsRow base e sz v n cs) (hb : RowKit.Below W.heap.size W W') : W'.ownsRow base e sz v n cs :=
  h.kept (row := none) ⟨hb.os, hb.tape, hb.output, hb.size, fun i hi _ => hb.block i hi⟩ (Classical.em _)

set_option maxHeartbeats 32000000 in
set_option maxRecDepth 100000 in
theorem RDiff_any (ad bd : Option Addr) (ca cb : Nat) (a b : List Tr) (w : World) (ha : SlT w ad a) (hb : SlT w bd b) (na : a.length ≤ 200) (nb : b.length ≤ 200) :
    Calls Tryz.prog 13 #[.slice ad a.length ca, .slice bd b.length cb] w fun e w' => ∃ ad' c, e = .returned (.slice ad' (diffL a b).length c) ∧ SlP w' ad' (diffL a b) ∧ RowKit.Below w.heap.size w w' := by
  have HU := RUnionW_any ad bd ca cb a b w ha hb (by omega) (by omega)
  have Ha : Hid (SlT w ad a) := ha
  have Hb : Hid (SlT w bd b) := hb
  clear ha hb
  obtain ⟨i0, hi, hz⟩ := Option.map_eq_some_iff.1 infoP
  simp only [Prod.mk.injEq] at hz
  obtain ⟨hz0, hz1, hz2⟩ := hz
  go_enter Tryz.func13, Tryz.ntmps13
  go_wp2_with fail
  refine HU.mono ?_
  rintro e w1 ⟨u, ud, uc, rfl, hu, hj, hb1⟩
  have hul : u.length ≤ 1000 := by
    have hn := rising_nodup hj.1
    have := List.Nodup.length_le_of_subset (l₂ := a ++ b) hn fun x hx => List.mem_append.2 ((hj.2 x).1 hx)
    rw [List.length_append] at this
    omega
  have HP := RPairs0_any ud uc u w1 hu hj.1 hul
  have hle : (pairsL u).length ≤ 1000 := Nat.le_trans (pairs_len u) hul
  rw [pairs_two hj] at HP hle
  clear HU hu hj hul
  dsimp only
  go_wp2_with fail
  refine HP.mono ?_
  rintro e w2 ⟨pd, pc, rfl, hp, hb2⟩
  have HL : Hid (SlP w2 pd (pairs2 a b)) := hp
  have Hd : Hid ((pairs2 a b).filter (fun p => decide (ofL a p ≠ ofL b p)) = diffL a b) := rfl
  have hB2 := bstep hb1 hb2
  have Ha2 : Hid (SlT w2 ad a) := Ha.out.below hB2
  have Hb2 : Hid (SlT w2 bd b) := Hb.out.below hB2
  clear HP hp hb1 hb2 Ha Hb
  generalize pairs2 a b = L at *
  dsimp only
  go_wp2_with fail
  go_loopw [5, 7] (fun v i wr => ∃ k : Nat, k ≤ L.length ∧ i = .int .i64 k ∧ Hid (wr.ownsRow w2.heap.size 55 6 v ((L.take k).filter fun p => decide (ofL a p ≠ ofL b p)).length (cellsP ((L.take k).filter fun p => decide (ofL a p ≠ ofL b p)))) ∧ RowKit.Below w2.heap.size w2 wr) (fun _ i wr => L.length - (intOf i).toNat)
  case atStart => exact ⟨0, Nat.zero_le _, rfl, by show World.ownsRow _ _ _ _ _ _ _; rw [List.take_zero]; exact World.ownsRow_nil _ _ _ _, RowKit.Below.refl _ _⟩
  case round =>
    obtain ⟨k, hk, rfl, hown, hbr⟩ := hrel
    by_cases hlt : k < L.length
    · obtain ⟨g, o, rfl, hrow⟩ := HL.out.at k hlt
      have Hrow : Hid (RowP w2 g o L) := hrow
      obtain ⟨c0, c1, c2, c3, c4, c5⟩ := (hrow.below hbr).at k hlt
      have i0' : (0 : Int) ≤ (k : Int) := by omega
      have i1 : (k : Int) < (L.length : Int) := by omega
      have hstep : Hid _ := filterP_step L (fun p => decide (ofL a p ≠ ofL b p)) k hlt
      have hfil : ((L.take k).filter fun p => decide (ofL a p ≠ ofL b p)).length ≤ k := Nat.le_trans (List.length_filter_le _ _) (by simp; omega)
      obtain ⟨y, hy⟩ : ∃ y, y = L[k] := ⟨_, rfl⟩
      have Hy : Hid (y = L[k]) := hy
      rw [← hy] at hstep c0 c1 c2 c3 c4 c5
      have HA := fun W (hW : RowKit.Below w2.heap.size w2 W) => ROf_any ad ca a y W (Ha2.out.below hW) (by omega)
      have HB := fun W (hW : RowKit.Below w2.heap.size w2 W) => ROf_any bd cb b y W (Hb2.out.below hW) (by omega)
      have lx : (ofL a y).length ≤ 200 := Nat.le_trans (ofL_len _ _) na
      have ly : (ofL b y).length ≤ 200 := Nat.le_trans (ofL_len _ _) nb
      have HS := fun (xd yd : Option Addr) (xc yc : Nat) (W : World) (h1 : SlT W xd (ofL a y)) (h2 : SlT W yd (ofL b y)) => RSame_any xd yd xc yc (ofL a y) (ofL b y) W h1 h2 (by omega) (by omega)
      generalize ht : (L.take (k + 1)).filter (fun p => decide (ofL a p ≠ ofL b p)) = t1 at hstep
      have Ht : Hid _ := ht
      generalize (L.take k).filter (fun p => decide (ofL a p ≠ ofL b p)) = t0 at *
      generalize ofL a y = x1 at *
      generalize ofL b y = x2 at *
      clear hrow ht hy
      unfold valP at HA HB
      go_wp2_with fail
      refine (HA _ hbr).mono ?_
      rintro e w3 ⟨xd, xc, rfl, hx, hb3⟩
      have hB3 := bstep hbr hb3
      have Hx : Hid (SlT w3 xd x1) := hx
      clear hx c0 c1 c2 c3 c4 c5 HA
      obtain ⟨c0, c1, c2, c3, c4, c5⟩ := (Hrow.out.below hB3).at k hlt
      rw [← Hy.out] at c0 c1 c2 c3 c4 c5
      dsimp only
      go_wp2_with fail
      refine (HB _ hB3).mono ?_
      rintro e w4 ⟨yd, yc, rfl, hyy, hb4⟩
      have hB4 := bstep hB3 hb4
      have HS4 := HS xd yd xc yc w4 (Hx.out.below hb4) hyy
      clear c0 c1 c2 c3 c4 c5 HB HS Hx hyy
      dsimp only
      go_wp2_with fail
      refine HS4.mono ?_
      rintro e w5 ⟨rfl, hb5⟩
      have hB5 := bstep hB4 hb5
      have hz5 := hB5.size
      have ho5 := hideM (rowP_grown hown.out (bstep (bstep hb3 hb4) hb5))
      clear HS4 hown hB3 hB4 hb3 hb4 hb5
      obtain ⟨c0, c1, c2, c3, c4, c5⟩ := (Hrow.out.below hB5).at k hlt
      rw [← Hy.out] at c0 c1 c2 c3 c4 c5
      by_cases he : x1 = x2
      · have hd : decide (x1 = x2) = true := by simpa using he
        have hs2 : Hid (t1 = t0) := by have := hstep.out; rw [he] at this; simpa [Hid] using this
        rw [hd]
        clear hstep he
        dsimp only
        go_wp2_with fail
        go_roundw
        case rel =>
          refine ⟨k + 1, by omega, by go_num, ?_, hB5⟩
          show World.ownsRow _ _ _ _ _ _ _
          rw [Ht.out, hs2.out]
          exact ho5.out
        case measure => simp [intOf]; omega
      · have hd : decide (x1 = x2) = false := by simpa using he
        have hs2 : Hid (t1 = t0 ++ [y]) := by have := hstep.out; simpa [Hid, he] using this
        rw [hd]
        clear hstep he
        dsimp only
        go_wp2_with (at_builtin; refine wpList_append_own _ rfl _ _ 25 rfl w2.heap.size 55 i0 (.agg (encP ((0, [], []), (0, [], []))).toArray) 6 80 Tryz.underlying25 hi hz0 hz1 hz2 rfl (by decide) _ _ _ rfl (ho5.out.alloc _) ⟨w5.heap.size, 0, none⟩ 1 1 (encP y) rfl rfl (newPr w5 y) (encP_one y) (by unfold maxLen; omega) (by omega) (by simp; omega) ?_; intro v' w9 hown' hgrow _)
        have hbel := (hB5.alloc hz5 (.cells (encP y).toArray 55)).grown hgrow (by simp; omega) (fun k hk => (ho5.out.lt k hk).1)
        go_wp2_with fail
        go_roundw
        case rel =>
          refine ⟨k + 1, by omega, by go_num, ?_, hbel⟩
          show World.ownsRow _ _ _ _ _ _ _
          rw [Ht.out, hs2.out]
          simpa [cellsP] using hown'
        case measure => simp [intOf]; omega
    · obtain rfl : k = L.length := by omega
      have hown' := hown.out
      rw [List.take_length, Hd.out] at hown'
      obtain ⟨vd, vc, rfl, hsl⟩ := own_slP hown'
      have Hsl : Hid _ := hsl
      clear hown' hown hsl
      go_wp2_with fail
      go_ret
      exact ⟨vd, vc, rfl, Hsl.out, bstep hB2 hbr⟩
end Go.Proofs.YtifkcoappflenagGreatDoor

/- The document's answer (package strataref2): Merge. -/
namespace Go.Proofs.YtifkcoappflenagGreatDoor
open Go Go.RowKit Go.Proofs
set_option synthInstance.maxSize 1000

/-- an append of a list to a row of one's own: just that row turns -/
theorem wpList_append_listG {ops : Array Oper} {rest : List Oper} {o : Oper} {a : Act} {Q : Exit → Act → World → Prop} (w : World) (hgd : o.guard = none) (s x : Operand)
    (ho : o.op = .call { callee := .builtin .append, args := #[s, x], argTypes := #[22, 22] })
    (base : Nat) (v : Value) (t l : List Tr) (ad : Option Addr) (c : Nat) (hs : a.eval s = v) (hx : a.eval x = .slice ad l.length c) (hown : w.ownsRow base 44 9 v t.length (cellsT t)) (hl : SlT w ad l)
    (h63 : t.length + l.length ≤ 1000000) (hbase : base ≤ w.heap.size)
    (h : ∀ v' w', w'.ownsRow base 44 9 v' (t ++ l).length (cellsT (t ++ l)) → w.grownBy w' v.ownBlock → wpList Tryz.prog ops Q rest (a.put o.dst v') w') : wpList Tryz.prog ops Q (o :: rest) a w := by
  obtain ⟨i0, hi, hz⟩ := Option.map_eq_some_iff.1 infoTr
  simp only [Prod.mk.injEq] at hz
  obtain ⟨hz0, hz1, hz2⟩ := hz
  cases l with
  | nil =>
    refine Lib.wpList_append_run w hgd s x _ _ ho v _ hs hx v w (append_empty hown ad c _) (h v w ?_ (World.grownBy.refl _ _))
    simpa using hown
  | cons y r =>
    obtain ⟨b, off, rfl, hr⟩ := hl (by simp)
    refine wpList_append_own w hgd s x _ ho base 44 i0 (.agg (encTr zeroTr).toArray) 9 120 Tryz.underlying22 hi hz0 hz1 hz2 rfl (by decide) v t.length (cellsT t) hs hown ⟨b, off, none⟩ (y :: r).length c (cellsT (y :: r)) hx (cellsT_len _) ?_ (cellsT_one _) (by unfold maxLen; omega) (by omega) hbase ?_
    · intro j u hj
      rw [Addr.add_lit]
      exact hr j u hj
    · intro v' w' h2 h3 _
      refine h v' w' ?_ h3
      rw [List.length_append]
      simpa [cellsT] using h2
/-- rows of two types lie apart -/
theorem own_apart {W : World} {B C e f s t n m : Nat} {v u : Value} {xs ys : List Value} (hv : W.ownsRow B e s v n xs) (hu : W.ownsRow C f t u m ys) (hef : e ≠ f) : u.ownBlock = none ∨ u.ownBlock ≠ v.ownBlock := by
  rcases hu.2 with ⟨rfl, _⟩ | ⟨g, cap, cur, rfl, _, hgb, _⟩
  · exact .inl rfl
  · refine .inr fun e' => ?_
    rcases hv.2 with ⟨rfl, _⟩ | ⟨g2, cap2, cur2, rfl, _, hgb2, _⟩
    · cases e'
    · obtain rfl : g = g2 := by simpa [Value.ownBlock] using e'
      have := hgb.symm.trans hgb2
      simp at this
      exact hef this.2.symm
theorem flatP_step (l : List Pr) (f : Pr → List Tr) (k : Nat) (h : k < l.length) : (l.take (k + 1)).flatMap f = (l.take k).flatMap f ++ f l[k] := by
  rw [List.take_succ_eq_append_getElem h, List.flatMap_append]
  simp
theorem flatP_len (l : List Pr) (f : Pr → List Tr) (hf : ∀ p, (f p).length ≤ 200) : (l.flatMap f).length ≤ 200 * l.length := by
  induction l with
  | nil => simp
  | cons p r ih =>
    have := hf p
    rw [List.flatMap_cons, List.length_append, List.length_cons]
    omega

theorem clash_more {W : World} {B : Nat} {u : Value} {e0 : List Pr} {y : Pr} (h : W.ownsRow B 55 6 u (e0.length + 1) (cellsP e0 ++ encP y)) : W.ownsRow B 55 6 u (e0 ++ [y]).length (cellsP (e0 ++ [y])) := by simpa [cellsP] using h
/-- a list of one's own stays when pairs are laid -/
theorem slT_apart {W W' : World} {B C n : Nat} {u : Value} {ys : List Value} {ad : Option Addr} {c : Nat} {m : List Tr} (hu : W.ownsRow B 55 6 u n ys) (hg : W.grownBy W' u.ownBlock) (hm : W.ownsRow C 44 9 (.slice ad m.length c) m.length (cellsT m)) : SlT W' ad m := by
  obtain ⟨ad2, c2, e2, hs2⟩ := own_slT (hm.kept hg (own_apart hu hm (by decide)))
  rw [(Value.slice.inj e2).1]
  exact hs2

set_option maxHeartbeats 64000000 in
set_option maxRecDepth 100000 in
theorem RMerge_any (od ad bd : Option Addr) (oc ca cb : Nat) (o a b : List Tr) (first : Bool) (w : World) (ho : SlT w od o) (ha : SlT w ad a) (hb : SlT w bd b) (no : o.length ≤ 200) (na : a.length ≤ 200) (nb : b.length ≤ 200) :
    Calls Tryz.prog 7 #[.slice od o.length oc, .slice ad a.length ca, .slice bd b.length cb, .bool first] w fun e w' => ∃ xd xc yd yc, e = .returned (.tuple #[.slice xd (outL o a b first).length xc, .slice yd (clashL o a b).length yc]) ∧ SlT w' xd (outL o a b first) ∧ SlP w' yd (clashL o a b) ∧ RowKit.Below w.heap.size w w' := by
  have HU := RUnionW_any od ad oc ca o a w ho ha (by omega) (by omega)
  have Ho : Hid (SlT w od o) := ho
  have Ha : Hid (SlT w ad a) := ha
  have Hb : Hid (SlT w bd b) := hb
  clear ho ha hb
  obtain ⟨i0, hi, hz⟩ := Option.map_eq_some_iff.1 infoP
  simp only [Prod.mk.injEq] at hz
  obtain ⟨hz0, hz1, hz2⟩ := hz
  go_enter Tryz.func7, Tryz.ntmps7
  go_wp2_with fail
  refine HU.mono ?_
  rintro e w1 ⟨v0, vd, vc, rfl, hv, hj0, hb1⟩
  have len : ∀ (m x y : List Tr), JoinOf x y m → m.length ≤ x.length + y.length := fun m x y hj => by
    have hn := rising_nodup hj.1
    have := List.Nodup.length_le_of_subset (l₂ := x ++ y) hn fun z hz => List.mem_append.2 ((hj.2 z).1 hz)
    rw [List.length_append] at this
    exact this
  have hvl := len _ _ _ hj0
  have HU2 := RUnionW_any vd bd vc cb v0 b w1 hv (Hb.out.below hb1) (by omega) (by omega)
  clear HU hv
  dsimp only
  go_wp2_with fail
  refine HU2.mono ?_
  rintro e w2 ⟨u0, ud, uc, rfl, hu, hj, hb2⟩
  have hul := len _ _ _ hj
  have HP := RPairs0_any ud uc u0 w2 hu hj.1 (by omega)
  have hle : (pairsL u0).length ≤ 1000 := Nat.le_trans (pairs_len u0) (by omega)
  rw [pairs_three hj0 hj] at HP hle
  have hB2 := bstep hb1 hb2
  clear HU2 hu hj hj0 hul hvl len hb1 hb2
  dsimp only
  go_wp2_with fail
  refine HP.mono ?_
  rintro e w3 ⟨pd, pc, rfl, hp, hb3⟩
  have HL : Hid (SlP w3 pd (pairs3 o a b)) := hp
  have Hd : Hid ((pairs3 o a b).flatMap (mineL o a b first) = outL o a b first) := rfl
  have He : Hid ((pairs3 o a b).filter (fun p => decide (ofL o p ≠ ofL a p ∧ ofL o p ≠ ofL b p ∧ ofL a p ≠ ofL b p)) = clashL o a b) := rfl
  have hB3 := bstep hB2 hb3
  have Ho3 : Hid (SlT w3 od o) := Ho.out.below hB3
  have Ha3 : Hid (SlT w3 ad a) := Ha.out.below hB3
  have Hb3 : Hid (SlT w3 bd b) := Hb.out.below hB3
  have hml : ∀ p, (mineL o a b first p).length ≤ 200 := fun p => by
    rcases mine_or o a b first p with e | e
    · rw [e]; exact Nat.le_trans (ofL_len _ _) na
    · rw [e]; exact Nat.le_trans (ofL_len _ _) nb
  have Hml : Hid (∀ p, (mineL o a b first p).length ≤ 200) := hml
  clear HP hp hb3 hB2 Ho Ha Hb hml
  generalize pairs3 o a b = L at *
  dsimp only
  go_wp2_with fail
  go_loopw [10, 11, 13] (fun v u i wr => ∃ k : Nat, k ≤ L.length ∧ i = .int .i64 k ∧ Hid (wr.ownsRow w3.heap.size 44 9 v ((L.take k).flatMap (mineL o a b first)).length (cellsT ((L.take k).flatMap (mineL o a b first)))) ∧ Hid (wr.ownsRow w3.heap.size 55 6 u ((L.take k).filter (fun p => decide (ofL o p ≠ ofL a p ∧ ofL o p ≠ ofL b p ∧ ofL a p ≠ ofL b p))).length (cellsP ((L.take k).filter (fun p => decide (ofL o p ≠ ofL a p ∧ ofL o p ≠ ofL b p ∧ ofL a p ≠ ofL b p))))) ∧ RowKit.Below w3.heap.size w3 wr) (fun _ _ i wr => L.length - (intOf i).toNat)
  case atStart => exact ⟨0, Nat.zero_le _, rfl, by show World.ownsRow _ _ _ _ _ _ _; rw [List.take_zero]; exact World.ownsRow_nil _ _ _ _, by show World.ownsRow _ _ _ _ _ _ _; rw [List.take_zero]; exact World.ownsRow_nil _ _ _ _, RowKit.Below.refl _ _⟩
  case round =>
    obtain ⟨k, hk, rfl, hown, hcl, hbr⟩ := hrel
    by_cases hlt : k < L.length
    · obtain ⟨g, off, rfl, hrow⟩ := HL.out.at k hlt
      have Hrow : Hid (RowP w3 g off L) := hrow
      obtain ⟨c0, c1, c2, c3, c4, c5⟩ := (hrow.below hbr).at k hlt
      have i0' : (0 : Int) ≤ (k : Int) := by omega
      have i1 : (k : Int) < (L.length : Int) := by omega
      have hstep : Hid _ := flatP_step L (mineL o a b first) k hlt
      have hcst : Hid _ := filterP_step L (fun p => decide (ofL o p ≠ ofL a p ∧ ofL o p ≠ ofL b p ∧ ofL a p ≠ ofL b p)) k hlt
      have hfil : ((L.take k).filter (fun p => decide (ofL o p ≠ ofL a p ∧ ofL o p ≠ ofL b p ∧ ofL a p ≠ ofL b p))).length ≤ k := Nat.le_trans (List.length_filter_le _ _) (by simp; omega)
      have hfla : ((L.take k).flatMap (mineL o a b first)).length ≤ 200 * k := Nat.le_trans (flatP_len _ _ Hml.out) (by rw [List.length_take]; omega)
      obtain ⟨y, hy⟩ : ∃ y, y = L[k] := ⟨_, rfl⟩
      have Hy : Hid (y = L[k]) := hy
      rw [← hy] at hstep hcst c0 c1 c2 c3 c4 c5
      have HO := fun W (hW : RowKit.Below w3.heap.size w3 W) => ROfO_any od oc o y W (Ho3.out.below hW) (by omega)
      have HA := fun W (hW : RowKit.Below w3.heap.size w3 W) => ROfO_any ad ca a y W (Ha3.out.below hW) (by omega)
      have HB := fun W (hW : RowKit.Below w3.heap.size w3 W) => ROfO_any bd cb b y W (Hb3.out.below hW) (by omega)
      have lo : (ofL o y).length ≤ 200 := Nat.le_trans (ofL_len _ _) no
      have lx : (ofL a y).length ≤ 200 := Nat.le_trans (ofL_len _ _) na
      have ly : (ofL b y).length ≤ 200 := Nat.le_trans (ofL_len _ _) nb
      have hmn : Hid (mineL o a b first y = (if ofL o y = ofL a y then ofL b y else if ofL o y ≠ ofL b y ∧ ofL a y ≠ ofL b y ∧ first = false then ofL b y else ofL a y)) := rfl
      generalize mineL o a b first y = mn at hmn hstep
      generalize ht : (L.take (k + 1)).flatMap (mineL o a b first) = t1 at hstep
      have Ht : Hid _ := ht
      generalize (L.take k).flatMap (mineL o a b first) = t0 at *
      generalize hc : (L.take (k + 1)).filter (fun p => decide (ofL o p ≠ ofL a p ∧ ofL o p ≠ ofL b p ∧ ofL a p ≠ ofL b p)) = e1 at hcst
      have Hc1 : Hid _ := hc
      generalize (L.take k).filter (fun p => decide (ofL o p ≠ ofL a p ∧ ofL o p ≠ ofL b p ∧ ofL a p ≠ ofL b p)) = e0 at *
      generalize ofL o y = o1 at *
      generalize ofL a y = x1 at *
      generalize ofL b y = x2 at *
      clear hrow ht hy hc
      unfold valP at HO HA HB
      go_wp2_with fail
      refine (HO _ hbr).mono ?_
      rintro e w4 ⟨qd, qc, rfl, hq, hb4, _⟩
      have hB4 := bstep hbr hb4
      have Hq : Hid (SlT w4 qd o1) := hq
      clear hq c0 c1 c2 c3 c4 c5 HO
      obtain ⟨c0, c1, c2, c3, c4, c5⟩ := (Hrow.out.below hB4).at k hlt
      rw [← Hy.out] at c0 c1 c2 c3 c4 c5
      dsimp only
      go_wp2_with fail
      refine (HA _ hB4).mono ?_
      rintro e w5 ⟨xd, xc, rfl, hx, hb5, Bx, hox⟩
      have hB5 := bstep hB4 hb5
      have Hx : Hid (SlT w5 xd x1) := hx
      have Hox := hideM hox
      clear hx hox c0 c1 c2 c3 c4 c5 HA
      obtain ⟨c0, c1, c2, c3, c4, c5⟩ := (Hrow.out.below hB5).at k hlt
      rw [← Hy.out] at c0 c1 c2 c3 c4 c5
      dsimp only
      go_wp2_with fail
      refine (HB _ hB5).mono ?_
      rintro e w6 ⟨yd, yc, rfl, hyy, hb6, By, hoy⟩
      have hB6 := bstep hB5 hb6
      have Hq6 : Hid (SlT w6 qd o1) := (Hq.out.below hb5).below hb6
      have Hx6 : Hid (SlT w6 xd x1) := Hx.out.below hb6
      have Hy6 : Hid (SlT w6 yd x2) := hyy
      have Hox6 := hideM (rowP_grown Hox.out hb6)
      have Hoy6 := hideM hoy
      have H1 := fun W (hW : RowKit.Below w6.heap.size w6 W) => RSame_any qd xd qc xc o1 x1 W (Hq6.out.below hW) (Hx6.out.below hW) (by omega) (by omega)
      have H2 := fun W (hW : RowKit.Below w6.heap.size w6 W) => RSame_any qd yd qc yc o1 x2 W (Hq6.out.below hW) (Hy6.out.below hW) (by omega) (by omega)
      have H3 := fun W (hW : RowKit.Below w6.heap.size w6 W) => RSame_any xd yd xc yc x1 x2 W (Hx6.out.below hW) (Hy6.out.below hW) (by omega) (by omega)
      clear c0 c1 c2 c3 c4 c5 HB hyy hoy Hox
      dsimp only
      go_wp2_with fail
      refine (H1 _ (RowKit.Below.refl _ _)).mono ?_
      rintro e w7 ⟨rfl, hb7⟩
      dsimp only
      go_wp2_with fail
      refine (H2 _ hb7).mono ?_
      rintro e w8a ⟨rfl, hb8a⟩
      have hb8a' := bstep hb7 hb8a
      dsimp only
      go_wp2_with fail
      refine (H3 _ hb8a').mono ?_
      rintro e w8 ⟨rfl, hb8⟩
      have hW6 := bstep hb8a' hb8
      have hB8 := bstep hB6 hW6
      have Hx8 : Hid (SlT w8 xd x1) := Hx6.out.below hW6
      have Hy8 : Hid (SlT w8 yd x2) := Hy6.out.below hW6
      have Hox8 := hideM (rowP_grown Hox6.out hW6)
      have Hoy8 := hideM (rowP_grown Hoy6.out hW6)
      have hW8 := bstep (bstep (bstep hb4 hb5) hb6) hW6
      have ho8 := hideM (rowP_grown hown.out hW8)
      have hc8 := hideM (rowP_grown hcl.out hW8)
      have hz8 := hB8.size
      clear H1 H2 H3 hown hcl hB4 hB5 hB6 hb4 hb5 hb6 hb7 hb8 hb8a hb8a' hW6 hW8 Hq Hx Hq6 Hx6 Hy6 Hox6 Hoy6
      obtain ⟨c0, c1, c2, c3, c4, c5⟩ := (Hrow.out.below hB8).at k hlt
      rw [← Hy.out] at c0 c1 c2 c3 c4 c5
      dsimp only
      by_cases he1 : o1 = x1
      · have d1 : decide (o1 = x1) = true := by simpa using he1
        rw [d1]
        have hs2 : Hid (t1 = t0 ++ x2) := by have := hstep.out; rw [hmn.out, if_pos he1] at this; exact this
        have hs3 : Hid (e1 = e0) := by have := hcst.out; simpa [Hid, he1] using this
        clear hstep hcst he1
        have hBz := hB8
        have hoz := ho8
        have hcz := hc8
        have hzz := hBz.size
        go_wp2_with (at_builtin; refine wpList_append_listG _ rfl _ _ rfl w3.heap.size _ t0 x2 yd yc rfl rfl hoz.out (Hy8.out) (by omega) hzz ?_; intro v' w9 hown9 hg9)
        have hbel : RowKit.Below w3.heap.size w3 w9 := hBz.grown hg9 hBz.size (fun j hj => (hoz.out.lt j hj).1)
        have hc9 := hideM (hcz.out.kept hg9 (own_apart hoz.out hcz.out (by decide)))
        have ho9 := hideM hown9
        clear hown9
        go_wp2_with fail
        go_roundw
        case rel =>
          refine ⟨k + 1, by omega, by go_num, ?_, ?_, hbel⟩
          · show World.ownsRow _ _ _ _ _ _ _
            rw [Ht.out, hs2.out]
            exact ho9.out
          · show World.ownsRow _ _ _ _ _ _ _
            rw [Hc1.out, hs3.out]
            exact hc9.out
        case measure => simp [intOf]; omega
      · have d1 : decide (o1 = x1) = false := by simpa using he1
        by_cases he2 : o1 = x2
        · have d2 : decide (o1 = x2) = true := by simpa using he2
          rw [d1, d2]
          have hs2 : Hid (t1 = t0 ++ x1) := by have := hstep.out; rw [hmn.out, if_neg he1, if_neg (fun h => h.1 he2)] at this; exact this
          have hs3 : Hid (e1 = e0) := by have := hcst.out; simpa [Hid, he2] using this
          clear hstep hcst he1 he2
          have hBz := hB8
          have hoz := ho8
          have hcz := hc8
          have hzz := hBz.size
          go_wp2_with (at_builtin; refine wpList_append_listG _ rfl _ _ rfl w3.heap.size _ t0 x1 xd xc rfl rfl hoz.out (Hx8.out) (by omega) hzz ?_; intro v' w9 hown9 hg9)
          have hbel : RowKit.Below w3.heap.size w3 w9 := hBz.grown hg9 hBz.size (fun j hj => (hoz.out.lt j hj).1)
          have hc9 := hideM (hcz.out.kept hg9 (own_apart hoz.out hcz.out (by decide)))
          have ho9 := hideM hown9
          clear hown9
          go_wp2_with fail
          go_roundw
          case rel =>
            refine ⟨k + 1, by omega, by go_num, ?_, ?_, hbel⟩
            · show World.ownsRow _ _ _ _ _ _ _
              rw [Ht.out, hs2.out]
              exact ho9.out
            · show World.ownsRow _ _ _ _ _ _ _
              rw [Hc1.out, hs3.out]
              exact hc9.out
          case measure => simp [intOf]; omega
        · have d2 : decide (o1 = x2) = false := by simpa using he2
          by_cases he3 : x1 = x2
          · have d3 : decide (x1 = x2) = true := by simpa using he3
            rw [d1, d2, d3]
            have hs2 : Hid (t1 = t0 ++ x1) := by have := hstep.out; rw [hmn.out, if_neg he1, if_neg (fun h => h.2.1 he3)] at this; exact this
            have hs3 : Hid (e1 = e0) := by have := hcst.out; simpa [Hid, he3] using this
            clear hstep hcst he1 he2 he3
            have hBz := hB8
            have hoz := ho8
            have hcz := hc8
            have hzz := hBz.size
            go_wp2_with (at_builtin; refine wpList_append_listG _ rfl _ _ rfl w3.heap.size _ t0 x1 xd xc rfl rfl hoz.out (Hx8.out) (by omega) hzz ?_; intro v' w9 hown9 hg9)
            have hbel : RowKit.Below w3.heap.size w3 w9 := hBz.grown hg9 hBz.size (fun j hj => (hoz.out.lt j hj).1)
            have hc9 := hideM (hcz.out.kept hg9 (own_apart hoz.out hcz.out (by decide)))
            have ho9 := hideM hown9
            clear hown9
            go_wp2_with fail
            go_roundw
            case rel =>
              refine ⟨k + 1, by omega, by go_num, ?_, ?_, hbel⟩
              · show World.ownsRow _ _ _ _ _ _ _
                rw [Ht.out, hs2.out]
                exact ho9.out
              · show World.ownsRow _ _ _ _ _ _ _
                rw [Hc1.out, hs3.out]
                exact hc9.out
            case measure => simp [intOf]; omega
          · have d3 : decide (x1 = x2) = false := by simpa using he3
            have hs3 : Hid (e1 = e0 ++ [y]) := by have := hcst.out; simpa [Hid, he1, he2, he3] using this
            cases first with
            | true =>
              have hs2 : Hid (t1 = t0 ++ x1) := by have := hstep.out; rw [hmn.out, if_neg he1, if_neg (fun h => by cases h.2.2)] at this; exact this
              clear hstep he1 he2 he3 hcst hmn
              rw [d1, d2, d3]
              go_wp2_with (first
                | (at_builtin; refine wpList_append_own _ rfl _ _ 25 rfl w3.heap.size 55 i0 (.agg (encP ((0, [], []), (0, [], []))).toArray) 6 80 Tryz.underlying25 hi hz0 hz1 hz2 rfl (by decide) _ _ _ rfl (hc8.out.alloc _) ⟨w8.heap.size, 0, none⟩ 1 1 (encP y) rfl rfl (newPr w8 y) (encP_one y) (by unfold maxLen; omega) (by omega) (by simp; omega) ?_; intro u' wc hownc hgc _
                   have hal : RowKit.Below w8.heap.size w8 (w8.alloc (.cells (encP y).toArray 55)) := balloc _ _
                   have hBz : RowKit.Below w3.heap.size w3 wc := (bstep hB8 hal).grown hgc (by simp; omega) (fun j hj => (hc8.out.lt j hj).1)
                   have hzz := hBz.size
                   have hoz := hideM ((rowP_grown ho8.out hal).kept hgc (own_apart (rowP_grown hc8.out hal) (rowP_grown ho8.out hal) (by decide)))
                   have hcz : Hid (wc.ownsRow w3.heap.size 55 6 u' (e0 ++ [y]).length (cellsP (e0 ++ [y]))) := clash_more hownc
                   have Hxc : Hid (SlT wc xd x1) := slT_apart (rowP_grown hc8.out hal) hgc (rowP_grown Hox8.out hal)
                   have Hyc : Hid (SlT wc yd x2) := slT_apart (rowP_grown hc8.out hal) hgc (rowP_grown Hoy8.out hal)
                   clear hownc hgc c0 c1 c2 c3 c4 c5)
                | (at_builtin; refine wpList_append_listG _ rfl _ _ rfl w3.heap.size _ t0 x1 xd xc rfl rfl hoz.out Hxc.out (by omega) hzz ?_; intro v' w9 hown9 hg9))
              have hbel : RowKit.Below w3.heap.size w3 w9 := hBz.grown hg9 hBz.size (fun j hj => (hoz.out.lt j hj).1)
              have hc9 := hideM (hcz.out.kept hg9 (own_apart hoz.out hcz.out (by decide)))
              have ho9 := hideM hown9
              clear hown9
              go_wp2_with fail
              go_roundw
              case rel =>
                refine ⟨k + 1, by omega, by go_num, ?_, ?_, hbel⟩
                · show World.ownsRow _ _ _ _ _ _ _
                  rw [Ht.out, hs2.out]
                  exact ho9.out
                · show World.ownsRow _ _ _ _ _ _ _
                  rw [Hc1.out, hs3.out]
                  exact hc9.out
              case measure => simp [intOf]; omega
            | false =>
              have hs2 : Hid (t1 = t0 ++ x2) := by have := hstep.out; rw [hmn.out, if_neg he1, if_pos ⟨he2, he3, rfl⟩] at this; exact this
              clear hstep he1 he2 he3 hcst hmn
              rw [d1, d2, d3]
              go_wp2_with (first
                | (at_builtin; refine wpList_append_own _ rfl _ _ 25 rfl w3.heap.size 55 i0 (.agg (encP ((0, [], []), (0, [], []))).toArray) 6 80 Tryz.underlying25 hi hz0 hz1 hz2 rfl (by decide) _ _ _ rfl (hc8.out.alloc _) ⟨w8.heap.size, 0, none⟩ 1 1 (encP y) rfl rfl (newPr w8 y) (encP_one y) (by unfold maxLen; omega) (by omega) (by simp; omega) ?_; intro u' wc hownc hgc _
                   have hal : RowKit.Below w8.heap.size w8 (w8.alloc (.cells (encP y).toArray 55)) := balloc _ _
                   have hBz : RowKit.Below w3.heap.size w3 wc := (bstep hB8 hal).grown hgc (by simp; omega) (fun j hj => (hc8.out.lt j hj).1)
                   have hzz := hBz.size
                   have hoz := hideM ((rowP_grown ho8.out hal).kept hgc (own_apart (rowP_grown hc8.out hal) (rowP_grown ho8.out hal) (by decide)))
                   have hcz : Hid (wc.ownsRow w3.heap.size 55 6 u' (e0 ++ [y]).length (cellsP (e0 ++ [y]))) := clash_more hownc
                   have Hxc : Hid (SlT wc xd x1) := slT_apart (rowP_grown hc8.out hal) hgc (rowP_grown Hox8.out hal)
                   have Hyc : Hid (SlT wc yd x2) := slT_apart (rowP_grown hc8.out hal) hgc (rowP_grown Hoy8.out hal)
                   clear hownc hgc c0 c1 c2 c3 c4 c5)
                | (at_builtin; refine wpList_append_listG _ rfl _ _ rfl w3.heap.size _ t0 x2 yd yc rfl rfl hoz.out Hyc.out (by omega) hzz ?_; intro v' w9 hown9 hg9))
              have hbel : RowKit.Below w3.heap.size w3 w9 := hBz.grown hg9 hBz.size (fun j hj => (hoz.out.lt j hj).1)
              have hc9 := hideM (hcz.out.kept hg9 (own_apart hoz.out hcz.out (by decide)))
              have ho9 := hideM hown9
              clear hown9
              go_wp2_with fail
              go_roundw
              case rel =>
                refine ⟨k + 1, by omega, by go_num, ?_, ?_, hbel⟩
                · show World.ownsRow _ _ _ _ _ _ _
                  rw [Ht.out, hs2.out]
                  exact ho9.out
                · show World.ownsRow _ _ _ _ _ _ _
                  rw [Hc1.out, hs3.out]
                  exact hc9.out
              case measure => simp [intOf]; omega
    · obtain rfl : k = L.length := by omega
      have hown' := hown.out
      have hcl' := hcl.out
      rw [List.take_length, Hd.out] at hown'
      rw [List.take_length, He.out] at hcl'
      obtain ⟨xd, xc, rfl, hsx⟩ := own_slT hown'
      obtain ⟨yd, yc, rfl, hsy⟩ := own_slP hcl'
      have Hsx : Hid (SlT wr xd (outL o a b first)) := hsx
      have Hsy : Hid (SlP wr yd (clashL o a b)) := hsy
      clear hown' hcl' hown hcl hsx hsy
      go_wp2_with fail
      exact bodyPost_ret (v := .tuple #[.slice xd (outL o a b first).length xc, .slice yd (clashL o a b).length yc]) (by simp [results, Tryz.results7, go_sem]) rfl ⟨xd, xc, yd, yc, rfl, Hsx.out, Hsy.out, bstep hB3 hbr⟩
end Go.Proofs.YtifkcoappflenagGreatDoor

/- stratasame.Clashes: are two lists of pairs the same? -/
namespace Go.Proofs.YtifkcoappflenagGreatDoor
open Go Go.RowKit Go.Proofs
set_option synthInstance.maxSize 1000

theorem pr_eq (x y : Pr) : decide (x = y) = (eqTB x.1.1 x.1.2.1 x.1.2.2 y.1.1 y.1.2.1 y.1.2.2 && eqTB x.2.1 x.2.2.1 x.2.2.2 y.2.1 y.2.2.1 y.2.2.2) := by
  obtain ⟨⟨k1, s1, l1⟩, ⟨k2, s2, l2⟩⟩ := x
  obtain ⟨⟨k1', s1', l1'⟩, ⟨k2', s2', l2'⟩⟩ := y
  rw [Bool.eq_iff_iff]
  simp only [decide_eq_true_eq, Bool.and_eq_true, eqTB_iff, Prod.mk.injEq]

set_option maxRecDepth 100000 in
set_option maxHeartbeats 1000000 in
theorem equalPair (x y : Pr) (w : World) :
    (Op.equalIn 10000 55 (.agg #[.int .i64 x.1.1, .string ⟨x.1.2.1.toArray⟩, .string ⟨x.1.2.2.toArray⟩, .int .i64 x.2.1, .string ⟨x.2.2.1.toArray⟩, .string ⟨x.2.2.2.toArray⟩]) (.agg #[.int .i64 y.1.1, .string ⟨y.1.2.1.toArray⟩, .string ⟨y.1.2.2.toArray⟩, .int .i64 y.2.1, .string ⟨y.2.2.1.toArray⟩, .string ⟨y.2.2.2.toArray⟩])).run Tryz.prog w = .ok (decide (x = y)) w := by
  have hS : Tryz.prog.underlying 55 = some (.struct (Tryz.prog.fieldsOf 55)) := by kernel_rfl
  rw [show (10000 : Nat) = 9999 + 1 from rfl, run_equalIn_agg w 9999 55 _ _ hS (by kernel_rfl), pr_eq]
  simp only [Program.fieldsOf, Tryz.underlying55]
  unfold eqTB
  go_simp
  by_cases h0 : x.1.1 = y.1.1
  rotate_left
  · simp [h0]
  by_cases h1 : x.1.2.1 = y.1.2.1
  rotate_left
  · simp [h0, h1]
  by_cases h2 : x.1.2.2 = y.1.2.2
  rotate_left
  · simp [h0, h1, h2]
  by_cases h3 : x.2.1 = y.2.1
  rotate_left
  · simp [h0, h1, h2, h3]
  by_cases h4 : x.2.2.1 = y.2.2.1
  rotate_left
  · simp [h0, h1, h2, h3, h4]
  by_cases h5 : x.2.2.2 = y.2.2.2
  rotate_left
  · simp [h0, h1, h2, h3, h4, h5]
  simp [h0, h1, h2, h3, h4, h5]

theorem neqPair (x y : Pr) (w : World) : (binOp .neq 55 (.agg #[.int .i64 x.1.1, .string ⟨x.1.2.1.toArray⟩, .string ⟨x.1.2.2.toArray⟩, .int .i64 x.2.1, .string ⟨x.2.2.1.toArray⟩, .string ⟨x.2.2.2.toArray⟩]) (.agg #[.int .i64 y.1.1, .string ⟨y.1.2.1.toArray⟩, .string ⟨y.1.2.2.toArray⟩, .int .i64 y.2.1, .string ⟨y.2.2.1.toArray⟩, .string ⟨y.2.2.2.toArray⟩])).run Tryz.prog w = .ok (.bool (!decide (x = y))) w := by
  rw [run_neq_struct, equalPair]; rfl

attribute [local go_sem ↓] neqPair

theorem bdNP (w : World) (q : Nat) : RowKit.Below w.heap.size w (w.drewN q) := ⟨rfl, rfl, rfl, Nat.le_refl _, fun _ _ => rfl⟩
theorem take_sameP {l m : List Pr} {k : Nat} (h : l.take k = m.take k) (hl : k < l.length) (hm : k < m.length) (e : l[k] = m[k]) : l.take (k + 1) = m.take (k + 1) := by
  rw [List.take_succ_eq_append_getElem hl, List.take_succ_eq_append_getElem hm, h, e]

set_option maxHeartbeats 2000000 in
set_option maxRecDepth 100000 in
theorem SameClashes_any (ad bd : Option Addr) (ca cb : Nat) (l m : List Pr) (w : World) (hl : SlP w ad l) (hm : SlP w bd m) (h200 : l.length ≤ 1000000) (h200' : m.length ≤ 1000000) :
    Calls Tryz.prog 11 #[.slice ad l.length ca, .slice bd m.length cb] w fun e w' => e = .returned (.bool (decide (l = m))) ∧ RowKit.Below w.heap.size w w' := by
  have Hl : Hid (SlP w ad l) := hl
  have Hm : Hid (SlP w bd m) := hm
  clear hl hm
  by_cases hlen : l.length = m.length
  · have hd : ((l.length : Int) != (m.length : Int)) = false := by simp [hlen]
    have Hlen : Hid (l.length = m.length) := hlen
    clear hlen
    go_enter Tryz.func11, Tryz.ntmps11
    go_wp2_with fail
    go_loopw [5] (fun i wr => ∃ (k q : Nat), k ≤ l.length ∧ i = .int .i64 k ∧ wr = w.drewN q ∧ Hid (l.take k = m.take k)) (fun i wr => l.length - (intOf i).toNat)
    case atStart => exact ⟨0, 0, by omega, rfl, rfl, rfl⟩
    case round =>
      obtain ⟨k, q, hk, rfl, rfl, hs⟩ := hrel
      by_cases hlt : k < l.length
      · have hlt' : k < m.length := by have := Hlen.out; omega
        obtain ⟨b, o, rfl, hr⟩ := Hl.out.at k hlt
        obtain ⟨b', o', rfl, hr'⟩ := Hm.out.at k hlt'
        obtain ⟨c0, c1, c2, c3, c4, c5⟩ := hr.at k hlt
        obtain ⟨d0, d1, d2, d3, d4, d5⟩ := hr'.at k hlt'
        have i0 : (0 : Int) ≤ (k : Int) := by omega
        have i1 : (k : Int) < (l.length : Int) := by omega
        have i2 : (k : Int) < (m.length : Int) := by omega
        clear hr hr'
        by_cases he : l[k] = m[k]
        · have hd2 : decide (l[k] = m[k]) = true := by simpa using he
          have He : Hid (l[k] = m[k]) := he
          clear he
          go_wp2_with fail
          go_region
          go_wp2
          exact ⟨⟨k + 1, q + 1, by omega, by go_num, rfl, take_sameP hs.out hlt hlt' He.out⟩, by simp [intOf]; omega⟩
        · have hd2 : decide (l[k] = m[k]) = false := by simpa using he
          have He : Hid (¬ l[k] = m[k]) := he
          clear he
          go_wp2_with fail
          go_region
          go_wp2
          go_ret
          refine ⟨ret_bool ?_, bdNP _ _⟩
          have : ¬ l = m := fun e => He.out (by subst e; rfl)
          simp [this]
      · have hke : k = l.length := by omega
        go_wp2
        go_ret
        refine ⟨ret_bool ?_, bdNP _ _⟩
        have : l = m := by
          have h := hs.out
          rw [hke, List.take_length, Hlen.out, List.take_length] at h
          exact h
        simp [this]
  · have hd : ((l.length : Int) != (m.length : Int)) = true := by simp; omega
    have hne : Hid (¬ l = m) := fun e => hlen (by rw [e])
    clear hlen
    go_enter Tryz.func11, Tryz.ntmps11
    go_wp2
    go_ret
    exact ⟨ret_bool (by simp [hne.out]), RowKit.Below.refl _ _⟩
end Go.Proofs.YtifkcoappflenagGreatDoor

/- errors.As at a target of type api.Errno, of an error that is one; plain.Told. Go's own text is walked; the facts are on the model's entries for internal/reflectlite at this program's types. -/
namespace Go.Proofs.YtifkcoappflenagGreatDoor
open Go Go.RowKit Go.Extern.Stop Go.Stop Go.Extern

theorem valueOfP (t : Addr) (w : World) : (ReflectliteValue.unpack (.iface 89 (.pointer (some t)))).run Tryz.prog w
    = .ok (.agg #[.pointer (some ⟨2, 89, none⟩), .pointer (some ⟨w.heap.size, 0, none⟩), .int .u64 150]) (w.alloc (.cells #[.pointer (some t)] 89)) := by kernel_rfl
theorem typeP (a : Addr) (w : World) : (ReflectliteValue.methodAny (ReflectliteValue.valueError "reflectlite.Value.Type" 0) (fun t _ _ _ => ReflectliteType.toType t) #[.agg #[.pointer (some ⟨2, 89, none⟩), .pointer (some a), .int .u64 150]]).run Tryz.prog w
    = .ok (.iface 126 (.agg #[.pointer (some ⟨2, 89, none⟩)])) w := by kernel_rfl
theorem kindP (w : World) : ((ReflectliteType.abiMethod fun t => (fun a : Nat => Value.int IntKind.u8 (a : Int)) <$> Rtype.kind t) #[.pointer (some ⟨2, 89, none⟩)]).run Tryz.prog w = .ok (.int .u8 22) w := by kernel_rfl
theorem kindE (w : World) : ((ReflectliteType.abiMethod fun t => (fun a : Nat => Value.int IntKind.u8 (a : Int)) <$> Rtype.kind t) #[.pointer (some ⟨2, 58, none⟩)]).run Tryz.prog w = .ok (.int .u8 2) w := by kernel_rfl
theorem methodKind (h : Value) (w : World) : (Go.method 299 126 (.agg #[h]) "Kind").run Tryz.prog w = .ok (137, h) w := by kernel_rfl
theorem methodElem (h : Value) (w : World) : (Go.method 299 126 (.agg #[h]) "Elem").run Tryz.prog w = .ok (147, .agg #[h]) w := by kernel_rfl
theorem methodImplements (h : Value) (w : World) : (Go.method 299 126 (.agg #[h]) "Implements").run Tryz.prog w = .ok (148, .agg #[h]) w := by kernel_rfl
theorem methodAssignableTo (h : Value) (w : World) : (Go.method 299 126 (.agg #[h]) "AssignableTo").run Tryz.prog w = .ok (145, .agg #[h]) w := by kernel_rfl
theorem rlm (z : Sem Value) (f : TypeId → Addr → Nat → Nat → Sem Value) (v : Value) :
    ReflectliteValue.method z f #[v] = (do match ← ReflectliteValue.parts v with | none => z | some (t, a, fl) => f t a fl (fl % 32)) := rfl
theorem partsP (a : Addr) (w : World) : (ReflectliteValue.parts (.agg #[.pointer (some ⟨2, 89, none⟩), .pointer (some a), .int .u64 150])).run Tryz.prog w = .ok (some (89, a, 150)) w := by kernel_rfl
theorem isNilP (a p : Addr) (W : World) (ha : W.cell? a = some (.pointer (some p))) :
    (ReflectliteValue.method (ReflectliteValue.valueError "reflectlite.Value.IsNil" 0) ReflectliteValue.isNil #[.agg #[.pointer (some ⟨2, 89, none⟩), .pointer (some a), .int .u64 150]]).run Tryz.prog W = .ok (.bool false) W := by
  rw [rlm]
  simp only [Sem.run_bind, partsP, Result.andThen]
  simp [ReflectliteValue.isNil, loadVar, isAgg, underlying, Tryz.underlying89, ha, Result.andThen]
theorem elemTP (w : World) : (ReflectliteType.method ReflectliteType.elem #[.agg #[.pointer (some ⟨2, 89, none⟩)]]).run Tryz.prog w = .ok (.iface 126 (.agg #[.pointer (some ⟨2, 58, none⟩)])) w := by kernel_rfl
theorem implementsE (w : World) : (ReflectliteType.relation "Implements" ReflectliteType.implements_ #[.agg #[.pointer (some ⟨2, 58, none⟩)], .iface 126 (.agg #[.pointer (some ⟨2, 29, none⟩)])]).run Tryz.prog w = .ok (.bool true) w := by kernel_rfl
theorem typeOfE (v : Value) (w : World) : (ReflectliteType.typeOf #[.iface 58 v]).run Tryz.prog w = .ok (.iface 126 (.agg #[.pointer (some ⟨2, 58, none⟩)])) w := by kernel_rfl
theorem assignableE (w : World) : (ReflectliteType.relation "AssignableTo" ReflectliteType.assignableTo #[.agg #[.pointer (some ⟨2, 58, none⟩)], .iface 126 (.agg #[.pointer (some ⟨2, 58, none⟩)])]).run Tryz.prog w = .ok (.bool true) w := by kernel_rfl
theorem valueOfE (n : Int) (w : World) : (ReflectliteValue.unpack (.iface 58 (.int .i64 n))).run Tryz.prog w
    = .ok (.agg #[.pointer (some ⟨2, 58, none⟩), .pointer (some ⟨w.heap.size, 0, none⟩), .int .u64 130]) (w.alloc (.cells #[.int .i64 n] 58)) := by kernel_rfl
theorem elemOfP (w : World) : (Rtype.elem? 89).run Tryz.prog w = .ok (some 58) w := by kernel_rfl
theorem mkE (p : Addr) (w : World) : (ReflectliteValue.mk 58 p ReflectliteValue.flagAddr).run Tryz.prog w = .ok (.agg #[.pointer (some ⟨2, 58, none⟩), .pointer (some p), .int .u64 386]) w := by kernel_rfl
theorem elemVP (a p : Addr) (W : World) (ha : W.cell? a = some (.pointer (some p))) :
    (ReflectliteValue.method (ReflectliteValue.valueError "reflectlite.Value.Elem" 0) ReflectliteValue.elem #[.agg #[.pointer (some ⟨2, 89, none⟩), .pointer (some a), .int .u64 150]]).run Tryz.prog W
      = .ok (.agg #[.pointer (some ⟨2, 58, none⟩), .pointer (some p), .int .u64 386]) W := by
  rw [rlm]
  simp only [Sem.run_bind, partsP, Result.andThen]
  simp [ReflectliteValue.elem, loadVar, isAgg, underlying, Tryz.underlying89, ha, Result.andThen, elemOfP, mkE]
theorem partsEa (a : Addr) (w : World) : (ReflectliteValue.parts (.agg #[.pointer (some ⟨2, 58, none⟩), .pointer (some a), .int .u64 386])).run Tryz.prog w = .ok (some (58, a, 386)) w := by kernel_rfl
theorem partsE (a : Addr) (w : World) : (ReflectliteValue.parts (.agg #[.pointer (some ⟨2, 58, none⟩), .pointer (some a), .int .u64 130])).run Tryz.prog w = .ok (some (58, a, 130)) w := by kernel_rfl
theorem directE (w : World) : (Rtype.directlyAssignable 58 58).run Tryz.prog w = .ok true w := by kernel_rfl
theorem setE (ta b : Addr) (n : Int) (old : Value) (W : World) (hb : W.cell? b = some (.int .i64 n)) (ht : W.cell? ta = some old) (hf : W.frozen? ta = false) :
    (ReflectliteValue.set #[.agg #[.pointer (some ⟨2, 58, none⟩), .pointer (some ta), .int .u64 386], .agg #[.pointer (some ⟨2, 58, none⟩), .pointer (some b), .int .u64 130]]).run Tryz.prog W
      = .ok (.tuple #[]) (W.setCell ta (.int .i64 n)) := by
  change Sem.run _ (ReflectliteValue.parts (.agg #[.pointer (some ⟨2, 58, none⟩), .pointer (some ta), .int .u64 386]) >>= fun p1 => ReflectliteValue.parts (.agg #[.pointer (some ⟨2, 58, none⟩), .pointer (some b), .int .u64 130]) >>= fun p2 => _) _ = _
  simp only [Sem.run_bind, partsEa, partsE, Result.andThen]
  simp [ReflectliteValue.flagAddr, loadVar, isAgg, underlying, Tryz.underlying58, hb, Result.andThen, directE, storeVar, Value.cells, storeCells, Addr.add]
  rw [run_store Tryz.prog W ta _ _ (by rfl)]
  simp [ht, hf]

end Go.Proofs.YtifkcoappflenagGreatDoor

/- errors.As at a target of type api.Errno, of an error that is one: Go's own text, walked; plain.Told. -/
namespace Go.Proofs.YtifkcoappflenagGreatDoor
open Go Go.RowKit Go.Extern.Stop Go.Stop Go.Extern

set_option maxHeartbeats 4000000 in
set_option maxRecDepth 100000 in
theorem as_hit (n : Int) (t : Addr) (old : Value) (w : World) (hg : w.cell? ⟨0, 0, none⟩ = some (.iface 126 (.agg #[.pointer (some ⟨2, 29, none⟩)]))) (ht0 : w.cell? t = some old) (hf0 : w.frozen? t = false) :
    Calls Tryz.prog 48 #[.iface 58 (.int .i64 n), .iface 89 (.pointer (some t))] w fun ev w' => ev = .returned (.bool true) ∧ w' = ((((w.alloc (.cells #[.pointer (some t)] 89)).alloc (.cells #[.pointer (some ⟨2, 89, none⟩), .pointer (some ⟨w.heap.size, 0, none⟩), .int .u64 150] 107)).alloc (.cells #[.pointer (some ⟨2, 89, none⟩), .pointer (some ⟨w.heap.size, 0, none⟩), .int .u64 150] 107)).alloc (.cells #[.int .i64 n] 58)).setCell t (.int .i64 n) := by
  have h1 := @run_callFunc_extern Tryz.prog 65 _ (fun args => ReflectliteValue.unpack (args.getD 0 (.tuple #[]))) Tryz.func65 (by kernel_rfl) (by kernel_rfl) (by kernel_rfl) (by kernel_rfl)
  have h2 := @run_callFunc_extern Tryz.prog 66 _ (ReflectliteValue.methodAny (ReflectliteValue.valueError "reflectlite.Value.Type" 0) (fun t _ _ _ => ReflectliteType.toType t)) Tryz.func66 (by kernel_rfl) (by kernel_rfl) (by kernel_rfl) (by kernel_rfl)
  have h3 := @run_callFunc_extern Tryz.prog 67 _ (ReflectliteValue.method (ReflectliteValue.valueError "reflectlite.Value.IsNil" 0) ReflectliteValue.isNil) Tryz.func67 (by kernel_rfl) (by kernel_rfl) (by kernel_rfl) (by kernel_rfl)
  have h4 := @run_callFunc_extern Tryz.prog 137 _ (ReflectliteType.abiMethod fun t => do pure (.int .u8 (← Rtype.kind t))) Tryz.func137 (by kernel_rfl) (by kernel_rfl) (by kernel_rfl) (by kernel_rfl)
  have h5 := @run_callFunc_extern Tryz.prog 147 _ (ReflectliteType.method ReflectliteType.elem) Tryz.func147 (by kernel_rfl) (by kernel_rfl) (by kernel_rfl) (by kernel_rfl)
  have h6 := @run_callFunc_extern Tryz.prog 148 _ (ReflectliteType.relation "Implements" ReflectliteType.implements_) Tryz.func148 (by kernel_rfl) (by kernel_rfl) (by kernel_rfl) (by kernel_rfl)
  have h7 := @run_callFunc_extern Tryz.prog 81 _ ReflectliteType.typeOf Tryz.func81 (by kernel_rfl) (by kernel_rfl) (by kernel_rfl) (by kernel_rfl)
  have h8 := @run_callFunc_extern Tryz.prog 145 _ (ReflectliteType.relation "AssignableTo" ReflectliteType.assignableTo) Tryz.func145 (by kernel_rfl) (by kernel_rfl) (by kernel_rfl) (by kernel_rfl)
  have h9 := @run_callFunc_extern Tryz.prog 82 _ (ReflectliteValue.method (ReflectliteValue.valueError "reflectlite.Value.Elem" 0) ReflectliteValue.elem) Tryz.func82 (by kernel_rfl) (by kernel_rfl) (by kernel_rfl) (by kernel_rfl)
  have h10 := @run_callFunc_extern Tryz.prog 83 _ ReflectliteValue.set Tryz.func83 (by kernel_rfl) (by kernel_rfl) (by kernel_rfl) (by kernel_rfl)
  have g1 := valueOfP
  have g2 := typeP
  have g3 := kindP
  have g4 := kindE
  have g5 := elemTP
  have g6 := implementsE
  have g7 := typeOfE
  have g8 := assignableE
  have g9 := valueOfE
  have m1 := methodKind
  have m2 := methodElem
  have m3 := methodImplements
  have m4 := methodAssignableTo
  have n8 := isNilP ⟨w.heap.size, 0, none⟩ t ((w.alloc (.cells #[.pointer (some t)] 89)).alloc (.cells #[.pointer (some ⟨2, 89, none⟩), .pointer (some ⟨w.heap.size, 0, none⟩), .int .u64 150] 107)) (by simp)
  have hlt : 0 < w.heap.size := by
    rcases Nat.eq_zero_or_pos w.heap.size with h0 | h
    · simp [World.cell?, h0] at hg
    · exact h
  have hg2 : ((w.alloc (.cells #[.pointer (some t)] 89)).alloc (.cells #[.pointer (some ⟨2, 89, none⟩), .pointer (some ⟨w.heap.size, 0, none⟩), .int .u64 150] 107)).cell? ⟨0, 0, none⟩ = some (.iface 126 (.agg #[.pointer (some ⟨2, 29, none⟩)])) := by
    rw [World.cell?_alloc_lt _ _ ⟨0, 0, none⟩ (by simp), World.cell?_alloc_lt _ _ ⟨0, 0, none⟩ hlt]; exact hg
  have htl : t.block < w.heap.size := by
    rcases Nat.lt_or_ge t.block w.heap.size with h | h
    · exact h
    · simp [World.cell?, Array.getElem?_eq_none h] at ht0
  have el := elemVP ⟨w.heap.size, 0, none⟩ t (((w.alloc (.cells #[.pointer (some t)] 89)).alloc (.cells #[.pointer (some ⟨2, 89, none⟩), .pointer (some ⟨w.heap.size, 0, none⟩), .int .u64 150] 107)).alloc (.cells #[.pointer (some ⟨2, 89, none⟩), .pointer (some ⟨w.heap.size, 0, none⟩), .int .u64 150] 107)) (by rw [World.cell?_alloc_lt _ _ ⟨w.heap.size, 0, none⟩ (by simp; omega)]; simp)
  have st := setE t ⟨w.heap.size + 1 + 1 + 1, 0, none⟩ n old ((((w.alloc (.cells #[.pointer (some t)] 89)).alloc (.cells #[.pointer (some ⟨2, 89, none⟩), .pointer (some ⟨w.heap.size, 0, none⟩), .int .u64 150] 107)).alloc (.cells #[.pointer (some ⟨2, 89, none⟩), .pointer (some ⟨w.heap.size, 0, none⟩), .int .u64 150] 107)).alloc (.cells #[.int .i64 n] 58))
    (by rw [World.cell?_alloc_at _ _ _ _ (by simp)]; rfl)
    (by rw [World.cell?_alloc_lt _ _ t (by simp; omega), World.cell?_alloc_lt _ _ t (by simp; omega), World.cell?_alloc_lt _ _ t (by simp; omega), World.cell?_alloc_lt _ _ t htl]; exact ht0)
    (by rw [World.frozen?_alloc_old _ _ t (by simp; omega), World.frozen?_alloc_old _ _ t (by simp; omega), World.frozen?_alloc_old _ _ t (by simp; omega), World.frozen?_alloc_old _ _ t (Nat.ne_of_lt htl)]; exact hf0)
  go_enter Tryz.func48, Tryz.ntmps48
  go_wp2
  refine wp_loop_rounds 1 ?_
  rw [rounds_succ]
  go_wp2
  go_ret
  exact ⟨rfl, rfl⟩

/-- the error type's variable, as the program lays it -/
def errVar (w : World) : Prop := w.cell? ⟨0, 0, none⟩ = some (.iface 126 (.agg #[.pointer (some ⟨2, 29, none⟩)]))

theorem errVar.below {w w' : World} (h : errVar w) (hb : Below w.heap.size w w') : errVar w' := by
  unfold errVar at *
  have hlt : 0 < w.heap.size := by
    rcases Nat.eq_zero_or_pos w.heap.size with h0 | h'
    · simp [World.cell?, h0] at h
    · exact h'
  rw [hb.cell (p := ⟨0, 0, none⟩) hlt]; exact h

theorem Told_nil (w : World) : Calls Tryz.prog 26 #[.nilIface] w fun e w' => e = .returned (.int .i64 0) ∧ Below w.heap.size w w' := by
  go_enter Tryz.func26, Tryz.ntmps26
  go_wp2
  go_ret
  exact ⟨rfl, Below.refl _ _⟩

set_option maxHeartbeats 1000000 in
theorem Told_hit (n : Int) (w : World) (hg : errVar w) : Calls Tryz.prog 26 #[.iface 58 (.int .i64 n)] w fun e w' => e = .returned (.int .i64 n) ∧ Below w.heap.size w w' := by
  have hgA := hg.below (balloc w (.cells #[.int .i64 0] 58))
  unfold errVar at hgA
  have htA : (w.alloc (.cells #[.int .i64 0] 58)).cell? ⟨w.heap.size, 0, none⟩ = some (.int .i64 0) := by simp
  have hfA : (w.alloc (.cells #[.int .i64 0] 58)).frozen? ⟨w.heap.size, 0, none⟩ = false := by simp
  go_enter Tryz.func26, Tryz.ntmps26
  go_wp2_with fail
  refine (as_hit n _ (.int .i64 0) _ hgA htA hfA).mono ?_
  rintro e w' ⟨rfl, rfl⟩
  go_wp2_with fail
  go_ret
  exact ⟨rfl, bstep (bstep (bstep (bstep (balloc _ _) (balloc _ _)) (balloc _ _)) (balloc _ _)) (balloc _ _)⟩

/-- stratasame.Error: is it the error of that number? -/
theorem SameError_any (m e : Int) (w : World) (hg : errVar w) : Calls Tryz.prog 9 #[errV m, .int .i64 e] w fun r w' => r = .returned (.bool (m == e)) ∧ Below w.heap.size w w' := by
  by_cases h : m = 0
  · subst h
    rw [show errV 0 = .nilIface from rfl]
    go_enter Tryz.func9, Tryz.ntmps9
    go_wp2_with (go_at_call 26; refine (Told_nil _).mono ?_; rintro e w1 ⟨rfl, hb⟩)
    go_ret
    exact ⟨rfl, hb⟩
  · rw [show errV m = .iface 58 (.int .i64 m) from if_neg h]
    go_enter Tryz.func9, Tryz.ntmps9
    go_wp2_with (go_at_call 26; refine (Told_hit m _ hg).mono ?_; rintro e w1 ⟨rfl, hb⟩)
    go_ret
    exact ⟨rfl, hb⟩
end Go.Proofs.YtifkcoappflenagGreatDoor
