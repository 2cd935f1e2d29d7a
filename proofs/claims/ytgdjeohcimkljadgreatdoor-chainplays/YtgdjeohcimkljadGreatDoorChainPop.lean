/- chain.Pop: a layer less. -/
import Derived.Test.YtgdjeohcimkljadGreatDoorChainSquash
namespace Go.Proofs.YtgdjeohcimkljadGreatDoor
open Go Go.RowKit Go.Proofs
set_option synthInstance.maxSize 1000

theorem chain_del {W : World} {n0 bl cap i : Nat} {gs : List (List Tr)} (h : ChainAt W n0 (.slice (some ⟨bl, 0, none⟩) (i + 1) cap) gs) (hl : gs.length = i + 2) (hn : gs.length ≤ 900) :
    Calls Tryz.prog 31 #[.slice (some ⟨bl, 0, none⟩) (i + 1) cap, .int .i64 i, .int .i64 ((i : Int) + 1)] W fun e w9 => ∃ n, e = .returned (.slice (some ⟨bl, 0, none⟩) n cap) ∧ W.grownBy w9 (some bl) ∧ w9.cell? ⟨n0, 1, none⟩ = some (.slice (some ⟨bl, 0, none⟩) (i + 1) cap) ∧ w9.frozen? ⟨n0, 1, none⟩ = false ∧ SqAns n0 (.slice (some ⟨bl, 0, none⟩) (i + 1) cap) gs.dropLast W (.slice (some ⟨bl, 0, none⟩) n cap) (w9.setCell ⟨n0, 1, none⟩ (.slice (some ⟨bl, 0, none⟩) n cap)) := by
  have hown := h.own
  obtain ⟨s, r, bd, cb, xs, hgs, hset, harr, hsl, hsh, hly⟩ := h
  have hx := hly.1.trans (stepsL_len _)
  rcases hsh with ⟨h1, _⟩ | ⟨g', cap', h1, h2, h3, hS⟩
  · simp at h1
  · obtain ⟨e1, e2, e3⟩ := Value.slice.inj h1
    obtain ⟨e4, _⟩ := Addr.mk.inj (Option.some.inj e1)
    subst e4 e3
    have hxl : xs.length = i + 1 := e2.symm
    have H := DeleteLast_any bl cap i xs W hS hxl (by omega)
    rw [hxl] at H
    refine H.mono ?_
    rintro e w9 ⟨rfl, hgr, hrow, hS9⟩
    have hlt9 : bl < w9.heap.size := Nat.lt_of_lt_of_le h3 hgr.size
    have hr0 : r ≠ [] := fun e => by rw [hgs, e] at hl; simp at hl
    obtain ⟨k1, k3, hC, hO⟩ := chain_pop (v' := .slice (some ⟨bl, 0, none⟩) xs.dropLast.length cap) hgs hr0 hset harr hsl ⟨_, _, _, rfl⟩ (fun e => by have := (hown n0 e).1; omega) rfl hly hgr hrow (Or.inr ⟨bl, cap, rfl, h2, hlt9, hS9⟩)
    exact ⟨_, rfl, hgr, k1, k3, hC, hO, rfl⟩

/-- a store into a box that is new -/
theorem SqAns.put2 {n0 : Nat} {v v' : Value} {gs' : List (List Tr)} {w W w' : World} {b : Nat} {x y : Value} (hb : RowKit.Below w.heap.size w W) (h : SqAns n0 v gs' W v' w') (hn : n0 < w.heap.size) (hv : ∀ g, v.ownBlock = some g → g < w.heap.size) (hbw : w.heap.size ≤ b) (hB : BoxL w' b (.slice none 0 0) (.slice none 0 0)) : SqAns n0 v gs' w v' ((w'.setCell ⟨b, 0, none⟩ x).setCell ⟨b, 1, none⟩ y) ∧ RowsOn w' ((w'.setCell ⟨b, 0, none⟩ x).setCell ⟨b, 1, none⟩ y) := by
  have hr : RowsOn w' ((w'.setCell ⟨b, 0, none⟩ x).setCell ⟨b, 1, none⟩ y) := fun a l hl => hl.put2 hB.1 hB.2 _ _
  have hk : ∀ k, k ≠ b → ((w'.setCell ⟨b, 0, none⟩ x).setCell ⟨b, 1, none⟩ y).heap[k]? = w'.heap[k]? := fun k hkb => by rw [Below.heap_setCell _ _ _ _ hkb, Below.heap_setCell _ _ _ _ hkb]
  have hz : ((w'.setCell ⟨b, 0, none⟩ x).setCell ⟨b, 1, none⟩ y).heap.size = w'.heap.size := by simp [World.setCell]
  refine ⟨⟨h.1.keep (by rw [hz]; exact Nat.le_refl _) hr (fun k hk' => hk k ?_), ?_, h.2.2⟩, hr⟩
  · rcases hk' with rfl | hk'
    · omega
    · rw [h.2.2] at hk'
      have := hv k hk'
      omega
  · have hO := (Off.of_below (v := v) (n0 := n0) hb).trans h.2.1 (Or.inl rfl)
    exact ⟨hO.os, hO.tape, hO.output, by rw [hz]; exact hO.size, fun k h1 h2 h3 => (hk k (by omega)).trans (hO.block k h1 h2 h3), hO.rows.trans hr⟩

set_option maxHeartbeats 2000000 in
set_option maxRecDepth 100000 in
theorem PopBad_any (n0 : Nat) (v : Value) (gs : List (List Tr)) (w : World) (h : ChainAt w n0 v gs) (hn : gs.length = 1) :
    Calls Tryz.prog 12 #[.pointer (some ⟨n0, 0, none⟩)] w fun e w' => e = .returned (.tuple #[.agg #[.slice none 0 0, .slice none 0 0], .iface 73 (.int .i64 5)]) ∧ RowKit.Below w.heap.size w w' := by
  have HL := fun W hW => CLen_any n0 v gs W hW (by omega)
  rw [hn] at HL
  have H0 : Hid (ChainAt w n0 v gs) := h
  clear h hn
  go_enter Tryz.func12, Tryz.ntmps12
  go_wp2_with fail
  refine (HL _ (H0.out.below (balloc _ _))).mono ?_
  rintro e w1 ⟨rfl, rfl⟩
  go_wp2_with fail
  refine bodyPost_ret (v := .tuple #[.agg #[.slice none 0 0, .slice none 0 0], .iface 73 (.int .i64 5)]) (by unfold results; rw [Tryz.results12]; go_simp) rfl ⟨rfl, ?_⟩
  first | exact balloc _ _ | exact below_two (balloc _ _) (Nat.le_refl _) _ _

set_option maxHeartbeats 8000000 in
set_option maxRecDepth 100000 in
theorem Pop_any (n0 : Nat) (v : Value) (gs : List (List Tr)) (i : Nat) (w : World) (h : ChainAt w n0 v gs) (hn : gs.length ≤ 900) (hi : gs.length = i + 2) :
    Calls Tryz.prog 12 #[.pointer (some ⟨n0, 0, none⟩)] w fun e w' => ∃ a1 c1 a2 c2 v', e = .returned (.tuple #[.agg #[.slice a1 (lessL (gat gs (i + 1)) (gat gs i)).length c1, .slice a2 (lessL (gat gs i) (gat gs (i + 1))).length c2], .nilIface]) ∧ SlT w' a1 (lessL (gat gs (i + 1)) (gat gs i)) ∧ SlT w' a2 (lessL (gat gs i) (gat gs (i + 1))) ∧ SqAns n0 v gs.dropLast w v' w' := by
  have HL := fun W hW => CLen_any n0 v gs W hW (by omega)
  have hlt0 := h.lt
  obtain ⟨bl, cap, a1, c1, a2, c2, rfl, _, hcap, d0, d1, q1, q2⟩ := h.step (gat_eq (k := i) (by omega)) (gat_eq (k := i + 1) (by omega))
  have hob : bl < w.heap.size := (h.own bl rfl).2
  have k1 := h.c1
  have H0 : Hid (ChainAt w n0 (.slice (some ⟨bl, 0, none⟩) (gs.length - 1) cap) gs) := h
  have hm : gs.length - 1 = i + 1 := by omega
  rw [hm] at HL H0 k1 hcap ⊢
  have HD := fun W hW => chain_del (W := W) (n0 := n0) (bl := bl) (cap := cap) (i := i) (gs := gs) hW hi hn
  have Hq : Hid (SlT w a1 (lessL (gat gs (i + 1)) (gat gs i)) ∧ SlT w a2 (lessL (gat gs i) (gat gs (i + 1)))) := ⟨q1, q2⟩
  have hi9 : i ≤ 1000 := by omega
  clear h hi hn hm q1 q2
  generalize lessL (gat gs (i + 1)) (gat gs i) = L1 at *
  generalize lessL (gat gs i) (gat gs (i + 1)) = L2 at *
  have z0 : ¬ ((i : Int) < 0) := by omega
  have z1 : (0 : Int) ≤ (i : Int) := by omega
  have z2 : (i : Int) < (i : Int) + 1 := by omega
  have hB0 : Hid (RowKit.Below w.heap.size w (w.alloc (.cells #[.slice none 0 0, .slice none 0 0] 31))) := balloc _ _
  have hB1 : Hid (RowKit.Below w.heap.size w ((w.alloc (.cells #[.slice none 0 0, .slice none 0 0] 31)).alloc (.cells #[.slice a1 L1.length c1, .slice a2 L2.length c2] 31))) := bstep hB0.out (balloc _ _)
  go_enter Tryz.func12, Tryz.ntmps12
  go_wp2_with fail
  refine (HL _ (H0.out.below hB0.out)).mono ?_
  rintro e w1 ⟨rfl, rfl⟩
  clear HL
  go_wp2_with fail
  refine (HD _ (H0.out.below hB1.out)).mono ?_
  rintro e w9 ⟨n, rfl, hgr, k9, f9, hsq⟩
  have hk : ∀ b, b < ((w.alloc (.cells #[.slice none 0 0, .slice none 0 0] 31)).alloc (.cells #[.slice a1 L1.length c1, .slice a2 L2.length c2] 31)).heap.size → b ≠ bl → w9.heap[b]? = ((w.alloc (.cells #[.slice none 0 0, .slice none 0 0] 31)).alloc (.cells #[.slice a1 L1.length c1, .slice a2 L2.length c2] 31)).heap[b]? := fun b hb hne => hgr.block b hb (fun e => hne (Option.some.inj e))
  have y0 : w9.cell? ⟨w.heap.size, 0, none⟩ = some (.slice none 0 0) := (World.cell?_of_block (hk w.heap.size (by simp; omega) (by omega))).trans (by go_simp)
  have y1 : w9.cell? ⟨w.heap.size, 1, none⟩ = some (.slice none 0 0) := (World.cell?_of_block (hk w.heap.size (by simp; omega) (by omega))).trans (by go_simp)
  have y2 : w9.frozen? ⟨w.heap.size, 0, none⟩ = false := (World.frozen?_of_block (hk w.heap.size (by simp; omega) (by omega))).trans (by go_simp)
  have y3 : w9.frozen? ⟨w.heap.size, 1, none⟩ = false := (World.frozen?_of_block (hk w.heap.size (by simp; omega) (by omega))).trans (by go_simp)
  have x0 : w9.cell? ⟨w.heap.size + 1, 0, none⟩ = some (.slice a1 L1.length c1) := (World.cell?_of_block (hk (w.heap.size + 1) (by simp) (by omega))).trans (by go_simp)
  have x1 : w9.cell? ⟨w.heap.size + 1, 1, none⟩ = some (.slice a2 L2.length c2) := (World.cell?_of_block (hk (w.heap.size + 1) (by simp) (by omega))).trans (by go_simp)
  have hn9 : n0 ≠ w.heap.size := by omega
  have hbx : BoxL (w9.setCell ⟨n0, 1, none⟩ (.slice (some ⟨bl, 0, none⟩) n cap)) w.heap.size (.slice none 0 0) (.slice none 0 0) := BoxL.store ⟨y0, y1⟩ hn9 _
  have hfin := SqAns.put2 (x := .slice a1 L1.length c1) (y := .slice a2 L2.length c2) hB1.out hsq hlt0 (fun g hg => by have e := Option.some.inj hg; simp at e; omega) (Nat.le_refl _) hbx
  have Hfin : Hid _ := hfin
  have Hs : Hid (SlT (w9.setCell ⟨n0, 1, none⟩ (.slice (some ⟨bl, 0, none⟩) n cap)) a1 L1 ∧ SlT (w9.setCell ⟨n0, 1, none⟩ (.slice (some ⟨bl, 0, none⟩) n cap)) a2 L2) := ⟨hsq.2.1.rows _ _ (Hq.out.1.below hB1.out), hsq.2.1.rows _ _ (Hq.out.2.below hB1.out)⟩
  clear hsq hgr hk hfin hbx HD d0 d1 k1
  go_wp2_with fail
  exact bodyPost_ret (v := .tuple #[.agg #[.slice a1 L1.length c1, .slice a2 L2.length c2], .nilIface]) (by unfold results; rw [Tryz.results12]; go_simp) rfl ⟨a1, c1, a2, c2, _, rfl, Hfin.out.2 _ _ Hs.out.1, Hfin.out.2 _ _ Hs.out.2, Hfin.out.1⟩
end Go.Proofs.YtgdjeohcimkljadGreatDoor
