/-
  stratalaw2.StoreBack returns true for every list of objects and of numbers: put twice an object has one number; what was put is got as it was; what is gone has another number, if it comes again. No other condition.
-/
import Derived.Test.YtpdieckoemfebaeStoreBack
import Derived.Test.YtpdieckoemfebaeStoreProg
import Derived.Test.YtpdieckoemfebaeStoreArgs
namespace Go.Proofs.Ytpdieckoemfebae.storeBack
open Go Go.ChangeShapes Go.WideShapes Go.ChangeAt Go.RowKit Go.Joins Go.Deep Go.Proofs.Ytpdieckoemfebae

theorem laidOut : laidOutB Try.prog = true := by kernel_rfl
set_option maxRecDepth 100000 in
theorem lifted (os : Os) (started : os.Started) (H : Type) (enc : TypeId × Value → H) :
    ReturnsInHanded {} Try.checked os 4 .any (Rows.storeBackSpec.pre6 enc Try.prog Try.f4 Rows.storeBackRow.domain false) (Rows.storeBackSpec.post enc Try.prog Try.f4 false true false false) := by
  refine returnsInHanded_of_change_sized (C := Try.checked) own started (by kernel_rfl) Try.func4
    (ChangeSpec.witness6 (enc := enc) (C := Try.checked) false ⟨#[], #[.slice none 0 0, .slice none 0 0], []⟩ 8 (by kernel_rfl) (by kernel_rfl) (by kernel_rfl) (by kernel_rfl)) ?_
  intro W base args ds gs before hval0 hW hcnd hsz _
  have hval : ∀ (j : Nat) t v, Try.f4.params[j]? = some t → args[j]? = some v → Value.okWide Try.prog W .any base t v := hval0
  have hW' := hW
  obtain ⟨p, q, hA0, hV, rfl, hfz, hnd⟩ := hW
  have hA : DataW.TrodAll enc Try.prog W 0 (fun _ => true) true Try.f4.params.toList args.toList ds p := hA0
  rw [Try.params4] at hA hval
  obtain ⟨v0, vs0, d0, ds0, p0, q0, hargs, rfl, rfl, h0, r0⟩ := trodAll_cons hA
  obtain ⟨v1, vs1, d1, ds1, p1, q1, rfl, rfl, rfl, h1, r1⟩ := trodAll_cons r0
  obtain ⟨rfl, rfl, rfl⟩ := trodAll_nil r1
  obtain rfl : args = #[v0, v1] := by cases args; simp_all
  obtain ⟨rfl, rfl⟩ := trodVars_none hV
  have h0k := h0
  have h1k := h1
  obtain ⟨od, co, T, rfl, hT, nT, lT, dT⟩ := open_texts (hval 0 33 v0 rfl rfl) h0
  obtain ⟨kd, ck, ids, rfl, hk, lk, lc⟩ := open_nums (hval 1 34 v1 rfl rfl) h1
  have hTs : (∀ t ∈ T, t.length ≤ reachBytes) ∧ T.length * 16 ≤ reachBytes := by
    refine fits_texts dT fun n hn => ?_
    rw [Try.params4] at hsz
    rw [List.all_eq_true] at hsz
    have := hsz n (by simp only [List.cons_append, DataW.weightsEach, List.mem_append]; exact Or.inl hn)
    simpa using this
  clear hA0 hval0 hsz
  have hlt : ∀ y ∈ (p0 ++ (p1 ++ [])) ++ [], y.block < W.heap.size := fun y hy => hW'.lt y hy
  refine (storeBack_any theFace od kd co ck T ids W hT (fun t ht => by rw [theFace_lim]; exact hTs.1 t ht) (by rw [theFace_lim]; decide) hTs.2 hk lk lc).mono fun e W' ⟨he, bel⟩ => ?_
  subst he
  have k0 := Below.trod laidOut (by kernel_rfl) (of_decide_eq_true (by kernel_rfl)) h0k bel (fun y hy => hlt y (by simp [hy]))
  have k1 := Below.trod laidOut (by kernel_rfl) (of_decide_eq_true (by kernel_rfl)) h1k bel (fun y hy => hlt y (by simp [hy]))
  exact ⟨_, rfl, _, _, _, [], _, [], hW', trodAll_mk1 (shut_bool Try.underlying4 _), (trodAll_cons_mk k0 (trodAll_cons_mk k1 trodAll_mk0)), rfl, bel.frame _, fun h => by cases h⟩

theorem over : Rows.storeBackRow.holds Try.pinned (OpenSpec.ofChange Rows.storeBackSpec) :=
  OpenClaim.holds_of_wide 4 Try.f4 rfl rfl rfl rfl rfl rfl rfl ⟨rfl, rfl, rfl, rfl, rfl⟩ rfl rfl rfl rfl rfl (by kernel_rfl) Try.func4 (by kernel_rfl)
    (of_decide_eq_true (by kernel_rfl)) (by unfold Func.isWrapper; first | (rw [if_pos (by decide +kernel)]; kernel_rfl) | (rw [if_neg (by decide +kernel)]; exact ⟨rfl, rfl⟩))
    (fun os started H enc _ => lifted os started H enc)

theorem proved : Rows.StoreBackSaid := over
#print axioms proved
end Go.Proofs.Ytpdieckoemfebae.storeBack
