/-
  stratalaw2.RepoKeeps returns true for every list of sets and of names: each commit's graph is what it was committed with, whatever is done behind it; a branch leads to what was committed on it. No other condition.
-/
import Derived.Test.YtpomdoelihmebaaGreatMCRepoKeepsx0
import Derived.Test.YtpomdoelihmebaaGreatMA1x6
import Derived.Test.YtpomdoelihmebaaGreatMDx0

namespace Go.Proofs.YtpomdoelihmebaaGreat.repoKeeps
open Go Go.ChangeShapes Go.WideShapes Go.ChangeAt Go.RowKit Go.Joins Go.Deep Go.Proofs.YtpomdoelihmebaaGreat

theorem laidOut : laidOutB Tryz.prog = true := by kernel_rfl
set_option maxRecDepth 100000 in
theorem lifted (os : Os) (started : os.Started) (H : Type) (enc : TypeId × Value → H) :
    ReturnsInHanded {} Tryz.checked os 3 .any (Rows.repoKeepsSpec.pre6 enc Tryz.prog Tryz.f3 Rows.repoKeepsRow.domain false) (Rows.repoKeepsSpec.post enc Tryz.prog Tryz.f3 false true false false) := by
  refine returnsInHanded_of_change_sized (C := Tryz.checked) own started (by kernel_rfl) Tryz.func3
    (ChangeSpec.witness6 (enc := enc) (C := Tryz.checked) false ⟨#[], #[.slice none 0 0, .slice none 0 0], []⟩ 8 (by kernel_rfl) (by kernel_rfl) (by kernel_rfl) (by kernel_rfl)) ?_
  intro W base args ds gs before hval0 hW hcnd hsz _
  have hval : ∀ (j : Nat) t v, Tryz.f3.params[j]? = some t → args[j]? = some v → Value.okWide Tryz.prog W .any base t v := hval0
  have hW' := hW
  obtain ⟨p, q, hA0, hV, rfl, hfz, hnd⟩ := hW
  have hA : DataW.TrodAll enc Tryz.prog W 0 (fun _ => true) true Tryz.f3.params.toList args.toList ds p := hA0
  rw [Tryz.params3] at hA hval
  obtain ⟨v0, vs0, d0, ds0, p0, q0, hargs, rfl, rfl, h0, r0⟩ := trodAll_cons hA
  obtain ⟨v1, vs1, d1, ds1, p1, q1, rfl, rfl, rfl, h1, r1⟩ := trodAll_cons r0
  obtain ⟨rfl, rfl, rfl⟩ := trodAll_nil r1
  obtain rfl : args = #[v0, v1] := by cases args; simp_all
  obtain ⟨rfl, rfl⟩ := trodVars_none hV
  have h0k := h0
  have h1k := h1
  obtain ⟨a0, c0, l0, rfl, hl0, n0⟩ := open_sets (hval 0 22 v0 rfl rfl) h0
  obtain ⟨a1, c1, l1, rfl, hl1, n1, m1, t1⟩ := open_texts (hval 1 23 v1 rfl rfl) h1
  have hT1 : ∀ t ∈ l1, t.length ≤ reachBytes := by
    refine (fits_texts t1 fun n hn => ?_).1
    have hsz' := hsz
    rw [Tryz.params3] at hsz'
    rw [List.all_eq_true] at hsz'
    have := hsz' n (by simp only [List.cons_append, DataW.weightsEach, List.mem_append]; exact Or.inr (Or.inl hn))
    simpa using this
  clear hA0 hval0 hsz
  have hlt : ∀ y ∈ (p0 ++ (p1 ++ [])) ++ [], y.block < W.heap.size := fun y hy => hW'.lt y hy
  refine (repoKeeps_any theRepo theDag a0 a1 c0 c1 l0 l1 W (by rw [theRepo_lim]; decide) hl0 hl1 (fun t ht => by rw [theRepo_lim]; exact hT1 t ht) n0 m1).mono fun e W' ⟨he, bel⟩ => ?_
  subst he
  have k0 := Below.trod laidOut (by kernel_rfl) (of_decide_eq_true (by kernel_rfl)) h0k bel (fun y hy => hlt y (by simp [hy]))
  have k1 := Below.trod laidOut (by kernel_rfl) (of_decide_eq_true (by kernel_rfl)) h1k bel (fun y hy => hlt y (by simp [hy]))
  exact ⟨_, rfl, _, _, _, [], _, [], hW', trodAll_mk1 (shut_bool Tryz.underlying4 _), (trodAll_cons_mk k0 (trodAll_cons_mk k1 trodAll_mk0)), rfl, bel.frame _, fun h => by cases h⟩

theorem over : Rows.repoKeepsRow.holds Tryz.pinned (OpenSpec.ofChange Rows.repoKeepsSpec) :=
  OpenClaim.holds_of_wide 3 Tryz.f3 rfl rfl rfl rfl rfl rfl rfl ⟨rfl, rfl, rfl, rfl, rfl⟩ rfl rfl rfl rfl rfl (by kernel_rfl) Tryz.func3 (by kernel_rfl)
    (of_decide_eq_true (by kernel_rfl)) (by unfold Func.isWrapper; first | (rw [if_pos (by decide +kernel)]; kernel_rfl) | (rw [if_neg (by decide +kernel)]; exact ⟨rfl, rfl⟩))
    (fun os started H enc _ => lifted os started H enc)

theorem proved : Rows.RepoKeepsSaid := over
#print axioms proved
end Go.Proofs.YtpomdoelihmebaaGreat.repoKeeps
