/- What LayerTells leans on: answers that are one, their lengths, the two like. -/
import Derived.Test.YtgihagcjnjfpcacGreatDoorRefLayer2
import Derived.Test.YtgihagcjnjfpcacGreatDoorLayerGood
import Derived.Test.YtgihagcjnjfpcacGreatDoorAs
namespace Go.Proofs.YtgihagcjnjfpcacGreatDoor
open Go Go.RowKit Go.Proofs
set_option synthInstance.maxSize 1000

theorem SwapAns.len {s o i m : List Tr} (h : SwapAns s o i m) : m.length ≤ 200 := by
  by_cases e : swapN s o i = 0
  · have h1 := h.1 e
    obtain ⟨g1, g2⟩ := orN_zero.1 e
    obtain ⟨s1, _⟩ := bothN_zero.1 g1
    unfold joinN at g2
    by_cases hb : bothN (lessL s o) i = 0
    · rw [if_pos hb] at g2
      by_cases hl : (lessL s o).length + (lessL i (lessL s o)).length ≤ 200
      · rw [h1.len (lessSet s1).2.2 (bothN_zero.1 hb).2.2.2]; exact hl
      · rw [if_neg hl] at g2; exact absurd g2 (by decide)
    · rw [if_neg hb] at g2; exact absurd g2 hb
  · rw [h.2 e]; simp
theorem ApplyAns.swap {s a b m : List Tr} (h : ApplyAns s a b m) (e : applyN s a b = 0) : SwapAns s b a m := by
  have h5 := (orN_zero.1 (orN_zero.1 (orN_zero.1 (orN_zero.1 e).2).2).2).2
  exact ⟨fun _ => h.1 e, fun e' => absurd h5 e'⟩
theorem ApplyAns.len {s a b m : List Tr} (h : ApplyAns s a b m) : m.length ≤ 200 := by
  by_cases e : applyN s a b = 0
  · exact (h.swap e).len
  · rw [h.2 e]; simp
theorem ApplyAns.same {s a b m n : List Tr} (h : ApplyAns s a b m) (k : ApplyAns s a b n) : m = n := by
  by_cases e : applyN s a b = 0
  · exact (h.1 e).unique (k.1 e)
  · rw [h.2 e, k.2 e]
theorem BtwAns.len {a b m1 m2 : List Tr} (h : BtwAns a b m1 m2) : m1.length ≤ 200 ∧ m2.length ≤ 200 := by
  by_cases e : bothN a b = 0
  · obtain ⟨rfl, rfl⟩ := h.1 e
    exact ⟨lenLess (bothN_zero.1 e).2.1, lenLess (bothN_zero.1 e).1.1⟩
  · obtain ⟨rfl, rfl⟩ := h.2 e
    simp
theorem BtwAns.same {a b m1 m2 n1 n2 : List Tr} (h : BtwAns a b m1 m2) (k : BtwAns a b n1 n2) : m1 = n1 ∧ m2 = n2 := by
  by_cases e : bothN a b = 0
  · obtain ⟨rfl, rfl⟩ := h.1 e
    obtain ⟨rfl, rfl⟩ := k.1 e
    exact ⟨rfl, rfl⟩
  · obtain ⟨rfl, rfl⟩ := h.2 e
    obtain ⟨rfl, rfl⟩ := k.2 e
    exact ⟨rfl, rfl⟩
theorem TurnAns.len {a b m1 m2 : List Tr} (h : TurnAns a b m1 m2) : m1.length ≤ 200 ∧ m2.length ≤ 200 := by
  by_cases e : apartN a b = 0
  · obtain ⟨h1, h2⟩ := h.1 e
    have h0 := bothN_zero.1 (orN_zero.1 e).1
    rw [h1, h2]
    exact ⟨h0.2.1, h0.1.1⟩
  · obtain ⟨rfl, rfl⟩ := h.2 e
    simp
theorem TurnAns.same {a b m1 m2 n1 n2 : List Tr} (h : TurnAns a b m1 m2) (k : TurnAns a b n1 n2) : m1 = n1 ∧ m2 = n2 := by
  by_cases e : apartN a b = 0
  · rw [(h.1 e).1, (h.1 e).2, (k.1 e).1, (k.1 e).2]
    exact ⟨rfl, rfl⟩
  · rw [(h.2 e).1, (h.2 e).2, (k.2 e).1, (k.2 e).2]
    exact ⟨rfl, rfl⟩
theorem afterN_len {did undid does undoes m : List Tr} (e : afterN did undid does undoes = 0) (h : JoinOf (lessL did undoes) (lessL does undid) m) : m.length ≤ 200 := by
  have h2 := (orN_zero.1 e).2
  exact SwapAns.len (s := did) (o := undoes) (i := lessL does undid) ⟨fun _ => h, fun e' => absurd h2 e'⟩
theorem ThenAns.len {a b c d m1 m2 : List Tr} (h : ThenAns a b c d m1 m2) : m1.length ≤ 200 ∧ m2.length ≤ 200 := by
  by_cases e : thenN a b c d = 0
  · obtain ⟨h1, h2⟩ := h.1 e
    have h0 := orN_zero.1 (orN_zero.1 e).2
    exact ⟨afterN_len h0.1 h1, afterN_len h0.2 h2⟩
  · obtain ⟨rfl, rfl⟩ := h.2 e
    simp
theorem ThenAns.same {a b c d m1 m2 n1 n2 : List Tr} (h : ThenAns a b c d m1 m2) (k : ThenAns a b c d n1 n2) : m1 = n1 ∧ m2 = n2 := by
  by_cases e : thenN a b c d = 0
  · exact ⟨(h.1 e).1.unique (k.1 e).1, (h.1 e).2.unique (k.1 e).2⟩
  · rw [(h.2 e).1, (h.2 e).2, (k.2 e).1, (k.2 e).2]
    exact ⟨rfl, rfl⟩

theorem SameErrorT (m : Int) (w : World) (hg : errVar w) : Calls Tryz.prog 7 #[errV m, .int .i64 m] w fun r w' => r = .returned (.bool true) ∧ RowKit.Below w.heap.size w w' := by
  have := SameError_any m m w hg
  rw [show (m == m) = true by simp] at this
  exact this
theorem SameListT (ad bd : Option Addr) (ca cb : Nat) (l m : List Tr) (w : World) (hl : SlT w ad l) (hm : SlT w bd m) (h2 : m.length ≤ 200) (e : l = m) :
    Calls Tryz.prog 12 #[.slice ad l.length ca, .slice bd m.length cb] w fun e w' => e = .returned (.bool true) ∧ RowKit.Below w.heap.size w w' := by
  have := SameTriples_any ad bd ca cb l m w hl hm (by rw [e]; omega) (by omega)
  rwa [show decide (l = m) = true by simpa using e] at this
theorem SameLayT (a1 a2 a3 a4 : Option Addr) (c1 c2 c3 c4 : Nat) (l m n k : List Tr) (w : World) (h1 : SlT w a1 l) (h2 : SlT w a2 m) (h3 : SlT w a3 n) (h4 : SlT w a4 k) (hl : n.length ≤ 200 ∧ k.length ≤ 200) (e : l = n ∧ m = k) :
    Calls Tryz.prog 24 #[.agg #[.slice a1 l.length c1, .slice a2 m.length c2], .agg #[.slice a3 n.length c3, .slice a4 k.length c4]] w fun e w' => e = .returned (.bool true) ∧ RowKit.Below w.heap.size w w' := by
  have := SameLayer_any a1 a2 a3 a4 c1 c2 c3 c4 l m n k w h1 h2 h3 h4 (by rw [e.1]; omega) (by rw [e.2]; omega) (by omega) (by omega)
  rwa [show (decide (l = n) && decide (m = k)) = true by simp [e.1, e.2]] at this

/-- a layer in a box, whatever its lists are told to be -/
def LayB (W : World) (b : Nat) (P : List Tr → List Tr → Prop) : Prop := ∃ (m1 : List Tr) (a1 : Option Addr) (c1 : Nat) (m2 : List Tr) (a2 : Option Addr) (c2 : Nat), BoxL W b (.slice a1 m1.length c1) (.slice a2 m2.length c2) ∧ SlT W a1 m1 ∧ SlT W a2 m2 ∧ P m1 m2
theorem LayB.below {W W' : World} {b : Nat} {P : List Tr → List Tr → Prop} (h : LayB W b P) (hb : RowKit.Below W.heap.size W W') : LayB W' b P := by
  obtain ⟨m1, a1, c1, m2, a2, c2, h1, h2, h3, h4⟩ := h
  exact ⟨m1, a1, c1, m2, a2, c2, h1.below hb, h2.below hb, h3.below hb, h4⟩
end Go.Proofs.YtgihagcjnjfpcacGreatDoor
