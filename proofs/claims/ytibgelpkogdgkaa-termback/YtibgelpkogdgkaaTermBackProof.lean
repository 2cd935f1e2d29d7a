/-
  stratalaw1.TermBack returns true for every three terms and every text: what is shown is read as it was, what is read is shown as it was, and Compare is one order. No condition.
-/
import Derived.Test.YtibgelpkogdgkaaTermBack
import Derived.Test.YtibgelpkogdgkaaTermArgs
namespace Go.Proofs.Ytibgelpkogdgkaa.termBack
open Go Go.ChangeShapes Go.WideShapes Go.ChangeAt Go.RowKit Go.Joins Go.Proofs.Ytibgelpkogdgkaa
open Go.ChangeMaps (open_string shut_string)

set_option maxRecDepth 100000 in
theorem lifted (os : Os) (started : os.Started) (H : Type) (enc : TypeId × Value → H) :
    ReturnsInHanded {} Try.checked os 4 .any (Rows.termBackSpec.pre6 enc Try.prog Try.f4 Rows.termBackRow.domain false) (Rows.termBackSpec.post enc Try.prog Try.f4 false true false false) := by
  refine returnsInHanded_of_change_sized (C := Try.checked) own started (by kernel_rfl) Try.func4
    (ChangeSpec.witness6 (enc := enc) (C := Try.checked) false ⟨#[], #[.agg #[.int .i64 0, .string ByteArray.empty, .string ByteArray.empty], .agg #[.int .i64 0, .string ByteArray.empty, .string ByteArray.empty], .agg #[.int .i64 0, .string ByteArray.empty, .string ByteArray.empty], .string ByteArray.empty], []⟩ 8 (by kernel_rfl) (by kernel_rfl) (by kernel_rfl) (by kernel_rfl)) ?_
  intro W base args ds gs before hval0 hW hcnd hsz _
  have hval : ∀ (j : Nat) t v, Try.f4.params[j]? = some t → args[j]? = some v → Value.okWide Try.prog W .any base t v := hval0
  have hW' := hW
  obtain ⟨p, q, hA0, hV, rfl, hfz, hnd⟩ := hW
  have hA : DataW.TrodAll enc Try.prog W 0 (fun _ => true) true Try.f4.params.toList args.toList ds p := hA0
  rw [Try.params4] at hA hval
  obtain ⟨v0, vs0, d0, ds0, p0, q0, hargs, rfl, rfl, h0, r0⟩ := trodAll_cons hA
  obtain ⟨v1, vs1, d1, ds1, p1, q1, rfl, rfl, rfl, h1, r1⟩ := trodAll_cons r0
  obtain ⟨v2, vs2, d2, ds2, p2, q2, rfl, rfl, rfl, h2, r2⟩ := trodAll_cons r1
  obtain ⟨v3, vs3, d3, ds3, p3, q3, rfl, rfl, rfl, h3, r3⟩ := trodAll_cons r2
  obtain ⟨rfl, rfl, rfl⟩ := trodAll_nil r3
  obtain rfl : args = #[v0, v1, v2, v3] := by cases args; simp_all
  obtain ⟨rfl, rfl⟩ := trodVars_none hV
  obtain ⟨k1, S1, L1, rfl, rfl, rfl, wk1, hS1, hL1⟩ := open_term (hval 0 27 v0 rfl rfl) h0
  obtain ⟨k2, S2, L2, rfl, rfl, rfl, wk2, hS2, hL2⟩ := open_term (hval 1 27 v1 rfl rfl) h1
  obtain ⟨k3, S3, L3, rfl, rfl, rfl, wk3, hS3, hL3⟩ := open_term (hval 2 27 v2 rfl rfl) h2
  obtain ⟨s, rfl, rfl, rfl, ws⟩ := open_string Try.underlying9 (hval 3 9 v3 rfl rfl) h3
  have hlen : s.data.toList.length ≤ reachBytes := sized_string (j := 3) (t := 9) hsz (by rw [Try.params4]; rfl) rfl
  clear hA0 hval0 hsz
  simp only [List.append_nil] at hW'
  refine (back_any k1 S1 L1 k2 S2 L2 k3 S3 L3 s.data.toList W hS1 hL1 (Nat.le_trans hlen (by decide))).mono fun e W' ⟨he, bel⟩ => ?_
  subst he
  exact ⟨_, rfl, _, _, _, [], [], [], hW', trodAll_mk1 (shut_bool Try.underlying4 _), (trodAll_cons_mk (read_term wk1 hS1 hL1 _ _) (trodAll_cons_mk (read_term wk2 hS2 hL2 _ _) (trodAll_cons_mk (read_term wk3 hS3 hL3 _ _) (trodAll_cons_mk (shut_string Try.underlying9 ws) trodAll_mk0)))), rfl, bel.frame _, fun h => by cases h⟩

theorem over : Rows.termBackRow.holds Try.pinned (OpenSpec.ofChange Rows.termBackSpec) :=
  OpenClaim.holds_of_wide 4 Try.f4 rfl rfl rfl rfl rfl rfl rfl ⟨rfl, rfl, rfl, rfl, rfl⟩ rfl rfl rfl rfl rfl (by kernel_rfl) Try.func4 (by kernel_rfl)
    (of_decide_eq_true (by kernel_rfl)) (by unfold Func.isWrapper; first | (rw [if_pos (by decide +kernel)]; kernel_rfl) | (rw [if_neg (by decide +kernel)]; exact ⟨rfl, rfl⟩))
    (fun os started H enc _ => lifted os started H enc)

theorem proved : Rows.TermBackSaid := over
#print axioms proved
end Go.Proofs.Ytibgelpkogdgkaa.termBack
