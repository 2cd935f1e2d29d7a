/- What Push, New and Squash tell where nothing is wrong. -/
import Derived.Test.YtgdjeohcimkljadGreatDoorChainPop
namespace Go.Proofs.YtgdjeohcimkljadGreatDoor
open Go Go.RowKit Go.Proofs
set_option synthInstance.maxSize 1000

/-- what parts two sets tells the other one -/
theorem btw_inj {g u b : List Tr} (su : IsSet u) (sb : IsSet b) (h : btw g b = btw g u) : u = b := by
  have h1 : lessL b g = lessL u g := (Prod.mk.inj h).1
  have h2 : lessL g b = lessL g u := (Prod.mk.inj h).2
  refine rising_unique _ _ su.2.2 sb.2.2 fun x => ?_
  have k1 : x ∈ lessL b g ↔ x ∈ lessL u g := by rw [h1]
  have k2 : x ∈ lessL g b ↔ x ∈ lessL g u := by rw [h2]
  rw [mem_lessL, mem_lessL] at k1 k2
  by_cases hg : x ∈ g
  · by_cases hu : x ∈ u
    · by_cases hb : x ∈ b
      · exact ⟨fun _ => hb, fun _ => hu⟩
      · exact absurd hu (k2.1 ⟨hg, hb⟩).2
    · by_cases hb : x ∈ b
      · exact absurd hb (k2.2 ⟨hg, hu⟩).2
      · exact ⟨fun h => absurd h hu, fun h => absurd h hb⟩
  · exact ⟨fun h => (k1.2 ⟨h, hg⟩).1, fun h => (k1.1 ⟨h, hg⟩).1⟩

/-- Push where the layer parts the top from another set -/
theorem PushGood_any (n0 : Nat) (v : Value) (gs : List (List Tr)) (g u : List Tr) (a1 a2 : Option Addr) (c1 c2 : Nat) (w : World) (h : ChainAt w n0 v gs) (hn : gs.length ≤ 30) (hg : gs.getLast? = some g) (su : IsSet u) (h1 : SlT w a1 (lessL u g)) (h2 : SlT w a2 (lessL g u)) :
    Calls Tryz.prog 7 #[.pointer (some ⟨n0, 0, none⟩), .agg #[.slice a1 (lessL u g).length c1, .slice a2 (lessL g u).length c2]] w fun e w' => e = .returned .nilIface ∧ ∃ v', ChainAt w' n0 v' (gs ++ [u]) ∧ Off n0 v w w' ∧ NewV w v v' := by
  have sg : IsSet g := h.set (i := gs.length - 1) (by rw [← List.getLast?_eq_getElem?]; exact hg)
  have s1 : IsSet (lessL u g) := lessSet su
  have s2 : IsSet (lessL g u) := lessSet sg
  have h0 : pushN gs g (btw g u) = 0 := by
    unfold pushN
    rw [if_neg (by omega)]
    exact apply_btw sg su
  refine (Push_any n0 v gs g a1 a2 c1 c2 (btw g u) w h (by omega) hg h1 h2 s1.fit s2.fit (setLen s1) (setLen s2)).mono ?_
  rintro e w' ⟨rfl, gs', v', hC, hO, hN, hy, _⟩
  obtain ⟨u', rfl, su', hb⟩ := hy h0
  obtain rfl := btw_inj su' su hb
  exact ⟨by rw [h0]; rfl, v', hC, hO, hN⟩

theorem NewNil_any (w : World) : Calls Tryz.prog 5 #[.slice none 0 0] w fun e w' => ∃ n, e = .returned (.tuple #[.pointer (some ⟨n, 0, none⟩), .nilIface]) ∧ w.heap.size ≤ n ∧ ChainAt w' n (.slice none 0 0) [[]] ∧ RowKit.Below w.heap.size w w' := by
  refine (CNew_any none 0 [] w (slT_nil _ _) (by simp) (by simp)).mono ?_
  rintro e w' ⟨hb, hy, _⟩
  obtain ⟨n, rfl, hn, hC⟩ := hy (sortedN_set.2 isSet_nil)
  exact ⟨n, rfl, hn, hC, hb⟩
theorem sq_len {ss : List (List Tr)} {i t : Nat} (hit : i + 1 ≤ t) (ht : t < ss.length) : (ss.take (i + 1) ++ ss.drop t).length = ss.length - (t - (i + 1)) := by simp; omega
theorem sq_low {ss : List (List Tr)} {i t k : Nat} (hit : i + 1 ≤ t) (ht : t < ss.length) (hk : k < i + 1) : (ss.take (i + 1) ++ ss.drop t)[k]? = some (gat ss k) := by
  rw [List.getElem?_append_left (by simp; omega), List.getElem?_take_of_lt hk]
  exact gat_eq (by omega)
theorem sq_high {ss : List (List Tr)} {i t k : Nat} (hit : i + 1 ≤ t) (ht : t ≤ k) (hk : k < ss.length) : (ss.take (i + 1) ++ ss.drop t)[k - (t - (i + 1))]? = some (gat ss k) := by
  rw [List.getElem?_append_right (by simp; omega), List.getElem?_drop, List.length_take, Nat.min_eq_left (by omega), show t + (k - (t - (i + 1)) - (i + 1)) = k by omega]
  exact gat_eq hk
theorem ChainAt.low {w : World} {n0 B : Nat} {v : Value} {gs : List (List Tr)} (h : ChainAt w n0 v gs) (hB : B ≤ n0) : ∀ g, v.ownBlock = some g → B ≤ g := fun g hg => by have := (h.own g hg).1; omega
theorem BC.set2 {v W : World} (h : BC v W) {g : Nat} (hg : v.heap.size ≤ g) (a b : Value) : BC v ((W.setCell ⟨g, 0, none⟩ a).setCell ⟨g, 1, none⟩ b) :=
  (RowKit.Below.setCell (p := ⟨g, 0, none⟩) h hg a).setCell (p := ⟨g, 1, none⟩) hg b
def Z2 (W : World) (B : Nat) : Prop := W.cell? ⟨B, 0, none⟩ = some (.slice none 0 0) ∧ W.cell? ⟨B, 1, none⟩ = some (.slice none 0 0) ∧ W.frozen? ⟨B, 0, none⟩ = false ∧ W.frozen? ⟨B, 1, none⟩ = false
theorem Z2.below {W W' : World} {B : Nat} (h : Z2 W B) (hb : RowKit.Below W.heap.size W W') : Z2 W' B := by
  obtain ⟨k, f⟩ := bcell hb
  have hB : B < W.heap.size := World.block_lt_of_cell? W _ h.1
  unfold Z2 at h ⊢
  simp only [k _ _ hB, f _ _ hB]
  exact h
theorem Z2.newD (w : World) : Z2 ((w.alloc (.cells #[.slice none 0 0, .slice none 0 0] 31)).drew) w.heap.size := by
  have h : Z2 (w.alloc (.cells #[.slice none 0 0, .slice none 0 0] 31)) w.heap.size := by
    unfold Z2
    refine ⟨?_, ?_, ?_, ?_⟩ <;> go_simp
  exact h
end Go.Proofs.YtgdjeohcimkljadGreatDoor
