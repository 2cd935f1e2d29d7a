/-
  stratalaw2.RepoPlays returns true for every list of steps, of names, of sets and of messages: Commit, Join, Branch, Move, Drop, Head, Graph, Refs, Commits and Object answer as the document's own definitions do. Its one listed variable, errors.errorType, is tied to the program's text by the given tie. No other condition.
-/
import Derived.Test.YtaddfndohoppeaaGreatDoorMCRepoPlaysx7
import Derived.Test.YtaddfndohoppeaaGreatDoorMA1x6
import Derived.Test.YtaddfndohoppeaaGreatDoorMDx0
import Derived.Test.YtaddfndohoppeaaGreatDoorCards
import Derived.Test.YtaddfndohoppeaaGreatDoorTie
import Derived.Deep.DeepHandedRow
import Derived.LaidLaws
import Derived.LaidHandle

namespace Go.Proofs.YtaddfndohoppeaaGreatDoor.repoPlays
open Go Go.ChangeShapes Go.WideShapes Go.ChangeAt Go.RowKit Go.Joins Go.Proofs.YtaddfndohoppeaaGreatDoor
open Go.ChangeMaps (open_string shut_string)

theorem et : Tryz.prog.globalNamed "errors.errorType" = some 0 := by kernel_rfl
/-- the name of the type of which a datum is told to be -/
def told (d : DataW Unit) : String := match d with
  | .iface n _ => n
  | _ => ""
theorem rt : (Tryz.prog.cutTypes.find? (·.1 == told Rows.laid_errors_errorType)).map (·.2) = some 179 := by kernel_rfl
theorem oneRow : ((List.range 276).filter fun t => Tryz.prog.rowNamed t [101, 114, 114, 111, 114]) = [41] := by kernel_rfl
theorem sizeT : Tryz.prog.types.size = 276 := by kernel_rfl

theorem laidOut : laidOutB Tryz.prog = true := by kernel_rfl
/-- what the row's list gives a walk: the variable's one cell -/
theorem handle_of_laid {W : World} (h : laidMetH Tryz.prog Rows.repoPlaysRow.laid W) : errVar W := by
  have h' : laidMet Tryz.prog [] W ∧ handlesMet Tryz.prog Rows.repoPlaysRow.laid W := h
  obtain ⟨name, u, ty, e1, e2, e3, e4, e5⟩ := h'.2 _ (List.mem_singleton.2 rfl)
  have en : name = [101, 114, 114, 111, 114] := (Option.some.inj e1).symm
  subst en
  obtain rfl := Option.some.inj (rt.symm.trans e2)
  have hm : ty ∈ (List.range 276).filter fun t => Tryz.prog.rowNamed t [101, 114, 114, 111, 114] := List.mem_filter.2 ⟨List.mem_range.2 (by rw [← sizeT]; exact e3), e4⟩
  rw [oneRow] at hm
  obtain rfl := List.mem_singleton.1 hm
  have hh : typeHandle Tryz.prog 41 = .pointer (some ⟨2, 41, none⟩) := by kernel_rfl
  rw [hh] at e5
  simpa [errVar] using World.var?_cell et e5 0

/-- a world with the variable laid -/
def lay (w0 : World) : World :=
  { w0 with heap := w0.heap.modify 0 fun
      | .cells _ t frozen => .cells #[.iface 179 (.agg #[.pointer (some ⟨2, 41, none⟩)])] t frozen
      | o => o }
theorem laid_met (os : Os) (args : Array Value) : laidMetH Tryz.prog Rows.repoPlaysRow.laid ((lay (World.holding Tryz.prog os ⟨#[], #[], []⟩)).forCall (fun _ _ => 0) ⟨#[], args, []⟩).memory :=
  laidMetH_of_parts (laidMet_nil _ _) (by kernel_rfl)
theorem reads (os : Os) {H : Type} (enc : TypeId × Value → H) : ∃ places, DataW.whole enc Tryz.prog ((lay (World.holding Tryz.prog os ⟨#[], #[], []⟩)).forCall (fun _ _ => 0) ⟨#[], #[.slice none 0 0, .slice none 0 0, .slice none 0 0, .slice none 0 0], []⟩).memory Tryz.f3.params.toList Rows.repoPlaysSpec.vars false #[Value.slice none 0 0, .slice none 0 0, .slice none 0 0, .slice none 0 0].toList 8
    = some ([.nil, .nil, .nil, .nil], [], places) :=
  ⟨[], by kernel_rfl⟩

set_option maxRecDepth 100000 in
theorem contract (H : Type) (enc : TypeId × Value → H) (W : World) (base : Nat) (args : Array Value) (ds gs : List (DataW H)) (before : List MemPlace)
    (hval : ∀ (j : Nat) t v, Tryz.f3.params[j]? = some t → args[j]? = some v → Value.okWide Tryz.prog W .any base t v)
    (hW : DataW.Whole enc Tryz.prog Tryz.f3.params.toList Rows.repoPlaysSpec.vars false W args.toList ds gs before)
    (hsz : (DataW.weightsEach Tryz.prog (Tryz.f3.params.toList ++ (OpenSpec.ofChange Rows.repoPlaysSpec).bare.plain.varTypes Tryz.prog) (ds ++ gs)).all (· ≤ reachBytes) = true)
    (hL : laidMetH Tryz.prog Rows.repoPlaysRow.laid W) :
    Calls Tryz.prog 3 args W fun e W' => ∃ v, e = .returned v ∧ Rows.repoPlaysSpec.post enc Tryz.prog Tryz.f3 false true false false W args v W' := by
  have hW' := hW
  obtain ⟨p, q, hA0, hV, rfl, hfz, hnd⟩ := hW
  have hA : DataW.TrodAll enc Tryz.prog W 0 (fun _ => true) true Tryz.f3.params.toList args.toList ds p := hA0
  rw [Tryz.params3] at hA hval
  obtain ⟨v0, vs0, d0, ds0, p0, q0, hargs, rfl, rfl, h0, r0⟩ := trodAll_cons hA
  obtain ⟨v1, vs1, d1, ds1, p1, q1, rfl, rfl, rfl, h1, r1⟩ := trodAll_cons r0
  obtain ⟨v2, vs2, d2, ds2, p2, q2, rfl, rfl, rfl, h2, r2⟩ := trodAll_cons r1
  obtain ⟨v3, vs3, d3, ds3, p3, q3, rfl, rfl, rfl, h3, r3⟩ := trodAll_cons r2
  obtain ⟨rfl, rfl, rfl⟩ := trodAll_nil r3
  obtain rfl : args = #[v0, v1, v2, v3] := by cases args; simp_all
  obtain ⟨rfl, rfl⟩ := trodVars_none hV
  have h0k := h0
  have h1k := h1
  have h2k := h2
  have h3k := h3
  obtain ⟨a0, c0, l0, rfl, hl0, n0, m0⟩ := open_lists (hval 0 22 v0 rfl rfl) h0
  obtain ⟨a1, c1, l1, rfl, hl1, n1, m1, t1⟩ := open_texts (hval 1 23 v1 rfl rfl) h1
  have hT1 : ∀ t ∈ l1, t.length ≤ reachBytes := by
    refine (fits_texts t1 fun n hn => ?_).1
    have hsz' := hsz
    rw [Tryz.params3] at hsz'
    rw [List.all_eq_true] at hsz'
    have := hsz' n (by simp only [List.cons_append, DataW.weightsEach, List.mem_append]; exact Or.inr (Or.inl hn))
    simpa using this
  obtain ⟨a2, c2, l2, rfl, hl2, n2⟩ := open_sets (hval 2 24 v2 rfl rfl) h2
  obtain ⟨a3, c3, l3, rfl, hl3, n3, m3, t3⟩ := open_texts (hval 3 23 v3 rfl rfl) h3
  have hT3 : ∀ t ∈ l3, t.length ≤ reachBytes := by
    refine (fits_texts t3 fun n hn => ?_).1
    have hsz' := hsz
    rw [Tryz.params3] at hsz'
    rw [List.all_eq_true] at hsz'
    have := hsz' n (by simp only [List.cons_append, DataW.weightsEach, List.mem_append]; exact Or.inr (Or.inr (Or.inr (Or.inl hn))))
    simpa using this
  clear hA0 hsz
  have hlt : ∀ y ∈ (p0 ++ (p1 ++ (p2 ++ (p3 ++ [])))) ++ [], y.block < W.heap.size := fun y hy => hW'.lt y hy
  refine (repoPlays_any theRepo a0 a1 a2 a3 c0 c1 c2 c3 l0 l1 l3 l2 W (handle_of_laid hL) hl0 m0 n0 hl1 (fun t ht => ⟨by rw [theRepo_lim]; exact hT1 t ht, n1 t ht⟩) hl3 (fun t ht => by rw [theRepo_lim]; exact hT3 t ht) hl2).mono fun e W' ⟨he, bel⟩ => ?_
  subst he
  have k0 := Below.trod laidOut (by kernel_rfl) (of_decide_eq_true (by kernel_rfl)) h0k bel (fun y hy => hlt y (by simp [hy]))
  have k1 := Below.trod laidOut (by kernel_rfl) (of_decide_eq_true (by kernel_rfl)) h1k bel (fun y hy => hlt y (by simp [hy]))
  have k2 := Below.trod laidOut (by kernel_rfl) (of_decide_eq_true (by kernel_rfl)) h2k bel (fun y hy => hlt y (by simp [hy]))
  have k3 := Below.trod laidOut (by kernel_rfl) (of_decide_eq_true (by kernel_rfl)) h3k bel (fun y hy => hlt y (by simp [hy]))
  exact ⟨_, rfl, _, _, _, [], _, [], hW', trodAll_mk1 (shut_bool Tryz.underlying4 _), (trodAll_cons_mk k0 (trodAll_cons_mk k1 (trodAll_cons_mk k2 (trodAll_cons_mk k3 trodAll_mk0)))), rfl, bel.frame _, fun h => by cases h⟩

set_option maxRecDepth 100000 in
theorem lifted (os : Os) (started : os.Started) (H : Type) (enc : TypeId × Value → H) (F : Stop.Interp) :
    ReturnsInHanded {} Tryz.checked os 3 .any ((OpenSpec.ofChange Rows.repoPlaysSpec).preRow enc Tryz.prog Tryz.f3 Rows.repoPlaysRow.domain false Rows.repoPlaysRow.laid) (((OpenSpec.ofChange Rows.repoPlaysSpec).at F).post enc Tryz.prog Tryz.f3 false true false false) := by
  obtain ⟨places, hx⟩ := reads os enc
  refine returnsInHanded_of_row (C := Tryz.checked) (s := OpenSpec.ofChange Rows.repoPlaysSpec) own started (by kernel_rfl) Tryz.func3
    (witness_row_at (enc := enc) (C := Tryz.checked) false (lay (World.holding Tryz.prog os ⟨#[], #[], []⟩)) #[.slice none 0 0, .slice none 0 0, .slice none 0 0, .slice none 0 0] rfl (by kernel_rfl) (by kernel_rfl) (by kernel_rfl)
      (OpenSpec.preRow_of_cond 8 hx (by kernel_rfl) (fun k hk => by cases hk) (by kernel_rfl) (laid_met os _))) ?_
  intro W base args ds gs before hval hW _ _ hsz hL _ _
  exact contract H enc W base args ds gs before hval hW hsz hL

theorem said : Rows.RepoPlaysSaid :=
  OpenClaim.holds_of_cond 3 Tryz.f3 rfl rfl rfl rfl rfl rfl rfl ⟨rfl, rfl, rfl, rfl, rfl⟩ rfl rfl rfl rfl rfl (by kernel_rfl) Tryz.func3 (by kernel_rfl)
    (of_decide_eq_true (by kernel_rfl)) (by unfold Func.isWrapper; first | (rw [if_pos (by decide +kernel)]; kernel_rfl) | (rw [if_neg (by decide +kernel)]; exact ⟨rfl, rfl⟩))
    (fun os started H enc _ F => by rw [OpenClaim.pre_eq_preRow]; exact lifted os started H enc F)

set_option maxRecDepth 100000 in
theorem plain (f : FuncId) (fn : Func) (hf : Tryz.pinned.checked.prog.funcNamed Rows.repoPlaysRow.func = some f) (hfn : Tryz.pinned.checked.prog.funcs[f]? = some fn) :
    true = Tryz.pinned.checked.prog.looks [] ∧ ∀ (j : Nat) t, fn.params[j]? = some t → Tryz.pinned.checked.prog.wantsStandIn t = false := by
  obtain rfl : f = 3 := Option.some.inj ((show Tryz.prog.funcNamed Rows.repoPlaysRow.func = some 3 by kernel_rfl).symm.trans hf) |>.symm
  obtain rfl : fn = Tryz.f3 := (Option.some.inj (Tryz.func3.symm.trans hfn)).symm
  refine ⟨by kernel_rfl, fun j t ht => ?_⟩
  rw [Tryz.params3] at ht
  have hm := Array.mem_of_getElem? ht
  simp at hm
  rcases hm with rfl | rfl | rfl | rfl
  all_goals first
    | exact (show Tryz.prog.wantsStandIn 22 = false by kernel_rfl)
    | exact (show Tryz.prog.wantsStandIn 23 = false by kernel_rfl)
    | exact (show Tryz.prog.wantsStandIn 24 = false by kernel_rfl)

set_option maxRecDepth 100000 in
theorem card : Rows.RepoPlaysCardSaid :=
  Claim7.holds_tied_plain_at .later [] _ _ _ _ said (fun _ h => by cases h) (by kernel_rfl) (fun _ h => by cases h) repoPlays_row_tie rfl ⟨rfl, rfl⟩ (by kernel_rfl) rfl plain (by kernel_rfl)
#print axioms card
end Go.Proofs.YtaddfndohoppeaaGreatDoor.repoPlays
