/-
  stratalaw2.AskBack returns true for every question and every text that together are of bulk at most 1048576 (the second form): any question as text is read so; any text that is one is written so. No other condition.
-/
import Derived.Test.YtenakehnnmencagGreatDoorMCAskBackx0
import Derived.Test.YtenakehnnmencagGreatDoorMA1x4
import Derived.Test.YtenakehnnmencagGreatDoorMDx0
import Derived.Test.YtenakehnnmencagGreatDoorCards
import Derived.Test.YtenakehnnmencagGreatDoorTie
import Derived.Deep.DeepHandedRow
import Derived.LaidLaws
import Derived.LaidHandle
import Derived.Lib.LaidTab

namespace Go.Proofs.YtenakehnnmencagGreatDoor.askBack
open Go Go.ChangeShapes Go.WideShapes Go.ChangeAt Go.RowKit Go.Joins Go.Proofs.YtenakehnnmencagGreatDoor
open Go.ChangeMaps (open_string shut_string)

theorem laidOut : laidOutB Tryz.prog = true := by kernel_rfl
/-- what the row's list gives a walk: strconv's table and its two errors -/
theorem laid_num {W : World} (h : laidMetH Tryz.prog Rows.askBackUptoRow.laid W) : NumLaid W := by
  have h' : laidMet Tryz.prog Rows.askBackUptoRow.laid W := h
  obtain ⟨ps, ⟨g1, t1, c1, f1, p1, q1, _, _, _, _, ⟨g2, t2, c2, f2, p2, q2, _, _, _, _, ⟨g3, t3, c3, f3, p3, q3, hg3, ht3, hv3, hd3, ⟨g4, t4, c4, f4, p4, q4, hg4, ht4, hv4, hd4, ⟨g5, t5, c5, f5, p5, q5, hg5, ht5, hv5, hd5, _, _⟩, _⟩, _⟩, _⟩, _⟩, _, _⟩ := h'
  obtain rfl := Option.some.inj ((show Tryz.prog.globalNamed "internal/strconv.uint64pow10" = some 2 by kernel_rfl).symm.trans hg3)
  obtain rfl := Option.some.inj ((show Tryz.prog.globalNamed "strconv.ErrRange" = some 4 by kernel_rfl).symm.trans hg4)
  obtain rfl := Option.some.inj ((show Tryz.prog.globalNamed "strconv.ErrSyntax" = some 3 by kernel_rfl).symm.trans hg5)
  obtain rfl := Option.some.inj ((show (Tryz.prog.globals[2]?).map (·.type) = some 279 by kernel_rfl).symm.trans ht3)
  obtain rfl := Option.some.inj ((show (Tryz.prog.globals[4]?).map (·.type) = some 29 by kernel_rfl).symm.trans ht4)
  obtain rfl := Option.some.inj ((show (Tryz.prog.globals[3]?).map (·.type) = some 29 by kernel_rfl).symm.trans ht5)
  obtain ⟨_, u4, x4, e4, _, _⟩ := iface_of_trod Tryz.underlying29 hd4
  obtain ⟨_, u5, x5, e5, _, _⟩ := iface_of_trod Tryz.underlying29 hd5
  refine ⟨?_, ⟨u5, x5, ?_⟩, ⟨u4, x4, ?_⟩⟩
  · unfold Lib.TabIs
    rw [hv3, ← Lib.cells_of_tab Tryz.underlying279 Tryz.underlying225 (by kernel_rfl) (by kernel_rfl) hd3]
  · rw [hv5, ← e5]
  · rw [hv4, ← e4]

/-- the cells of a table's datum -/
def cellsOf (d : DataW Unit) : Array Value := match d with
  | .agg l => (l.map fun
      | .lit (.int k z) => Value.int k z
      | _ => .nilIface).toArray
  | _ => #[]
def textOf (d : DataW Unit) : List UInt8 := match d with
  | .iface _ (.ptr (.agg [.lit (.string s)])) => s
  | _ => []
def put (h : Array Obj) (g : Nat) (cs : Array Value) : Array Obj := h.modify g fun
  | .cells _ t frozen => .cells cs t frozen
  | o => o
/-- a world with the variables laid -/
def lay (w0 : World) : World :=
  { w0 with heap := ((put (put (put (put (put w0.heap 5 (cellsOf Rows.laid_math_bits_deBruijn32tab)) 6 (cellsOf Rows.laid_math_bits_deBruijn64tab)) 2 (cellsOf Rows.laid_internal_strconv_uint64pow10))
      4 #[.iface 289 (.pointer (some ⟨w0.heap.size, 0, none⟩))]) 3 #[.iface 289 (.pointer (some ⟨w0.heap.size + 1, 0, none⟩))]).push (.cells #[.string ⟨(textOf Rows.laid_strconv_ErrRange).toArray⟩] 291)).push (.cells #[.string ⟨(textOf Rows.laid_strconv_ErrSyntax).toArray⟩] 291) }
theorem laid_met (os : Os) (args : Array Value) : laidMetH Tryz.prog Rows.askBackUptoRow.laid ((lay (World.holding Tryz.prog os ⟨#[], #[], []⟩)).forCall (fun _ _ => 0) ⟨#[], args, []⟩).memory := by
  have h : laidMet Tryz.prog Rows.askBackUptoRow.laid ((lay (World.holding Tryz.prog os ⟨#[], #[], []⟩)).forCall (fun _ _ => 0) ⟨#[], args, []⟩).memory := laidMet_of_run' 20 (by kernel_rfl) (by kernel_rfl)
  exact h
theorem reads (os : Os) {H : Type} (enc : TypeId × Value → H) : ∃ places, DataW.whole enc Tryz.prog ((lay (World.holding Tryz.prog os ⟨#[], #[], []⟩)).forCall (fun _ _ => 0) ⟨#[], #[.agg #[.slice none 0 0, .slice none 0 0, .string ByteArray.empty, .bool false, .bool false, .int .i64 0], .string ByteArray.empty], []⟩).memory Tryz.f6.params.toList Rows.askBackSpec.vars false #[Value.agg #[.slice none 0 0, .slice none 0 0, .string ByteArray.empty, .bool false, .bool false, .int .i64 0], .string ByteArray.empty].toList 8
    = some ([.agg [.nil, .nil, .lit (.string []), .lit (.bool false), .lit (.bool false), .lit (.int .i64 0)], .lit (.string [])], [], places) :=
  ⟨[], by kernel_rfl⟩

/-- a part's bulk is at most the whole's -/
theorem part_le {H : Type} {d : DataW H} {l : List (DataW H)} (h : d ∈ l) : Rows.uptoBulk d ≤ Rows.uptoBulkAll l := by
  induction l with
  | nil => cases h
  | cons x r ih =>
    simp only [Rows.uptoBulkAll]
    cases List.mem_cons.1 h with
    | inl e => subst e; omega
    | inr e => have := ih e; omega

set_option maxRecDepth 100000 in
theorem contract (H : Type) (enc : TypeId × Value → H) (W : World) (base : Nat) (args : Array Value) (ds gs : List (DataW H)) (before : List MemPlace)
    (hval0 : ∀ (j : Nat) t v, Tryz.f6.params[j]? = some t → args[j]? = some v → Value.okWide Tryz.prog W .any base t v)
    (hW : DataW.Whole enc Tryz.prog Tryz.f6.params.toList Rows.askBackSpec.vars false W args.toList ds gs before)
    (hk : Rows.uptoSmall H (ds ++ gs) = true)
    (hL : laidMetH Tryz.prog Rows.askBackUptoRow.laid W) :
    Calls Tryz.prog 6 args W fun e W' => ∃ v, e = .returned v ∧ Rows.askBackSpec.post enc Tryz.prog Tryz.f6 false true false false W args v W' := by
  have hval : ∀ (j : Nat) t v, Tryz.f6.params[j]? = some t → args[j]? = some v → Value.okWide Tryz.prog W .any base t v := hval0
  have hW' := hW
  obtain ⟨p, q, hA0, hV, rfl, hfz, hnd⟩ := hW
  have hA : DataW.TrodAll enc Tryz.prog W 0 (fun _ => true) true Tryz.f6.params.toList args.toList ds p := hA0
  rw [Tryz.params6] at hA hval
  obtain ⟨v0, vs0, d0, ds0, p0, y0, hargs, rfl, rfl, h0, r0⟩ := trodAll_cons hA
  obtain ⟨v1, vs1, d1, ds1, p1, y1, rfl, rfl, rfl, h1, r1⟩ := trodAll_cons r0
  obtain ⟨rfl, rfl, rfl⟩ := trodAll_nil r1
  obtain rfl : args = #[v0, v1] := by cases args; simp_all
  obtain ⟨rfl, rfl⟩ := trodVars_none hV
  have h0k := h0
  have h1k := h1
  obtain ⟨q0, vd0, pd0, vc0, pc0, rfl, hq0, fq0, kv0, kp0⟩ := open_query (hval 0 52 v0 rfl rfl) h0
  obtain ⟨s1, rfl, rfl, rfl, ws1⟩ := open_string Tryz.underlying9 (hval 1 9 v1 rfl rfl) h1
  have hbb : Rows.uptoBulkAll ([d0, DataW.lit (H := H) (.string s1.data.toList)] ++ []) ≤ 1048576 := of_decide_eq_true hk
  have hb1 := part_le (d := DataW.lit (H := H) (.string s1.data.toList)) (l := [d0, DataW.lit (H := H) (.string s1.data.toList)] ++ []) (by simp)
  have hlen1 : s1.data.toList.length ≤ 100000000 := by
    have e : Rows.uptoBulk (DataW.lit (H := H) (.string s1.data.toList)) = s1.data.toList.length + 1 := by simp [Rows.uptoBulk]
    have := Nat.le_trans hb1 hbb
    omega
  clear hA0 hval0 hk hbb
  have hlt : ∀ y ∈ (p0 ++ ([] ++ [])) ++ [], y.block < W.heap.size := fun y hy => hW'.lt y hy
  refine (askBack_any theAsk q0 vd0 pd0 vc0 pc0 s1.data.toList W hq0 fq0 kv0 kp0 (Nat.le_trans hlen1 theAsk_lim) (Nat.le_trans (by decide) theAsk_lim) (laid_num hL)).mono fun e W' ⟨he, bel⟩ => ?_
  subst he
  have k0 := Below.trod laidOut (by kernel_rfl) (of_decide_eq_true (by kernel_rfl)) h0k bel (fun y hy => hlt y (by simp [hy]))
  have k1 := Below.trod laidOut (by kernel_rfl) (of_decide_eq_true (by kernel_rfl)) h1k bel (fun y hy => by simp at hy)
  exact ⟨_, rfl, _, _, _, [], _, [], hW', trodAll_mk1 (shut_bool Tryz.underlying4 _), (trodAll_cons_mk k0 (trodAll_cons_mk k1 trodAll_mk0)), rfl, bel.frame _, fun h => by cases h⟩

set_option maxRecDepth 100000 in
theorem lifted (os : Os) (started : os.Started) (H : Type) (enc : TypeId × Value → H) (F : Stop.Interp) :
    ReturnsInHanded {} Tryz.checked os 6 .any ((Rows.OpenSpec.upto Rows.askBackSpec).preRow enc Tryz.prog Tryz.f6 Rows.askBackUptoRow.domain false Rows.askBackUptoRow.laid) (((Rows.OpenSpec.upto Rows.askBackSpec).at F).post enc Tryz.prog Tryz.f6 false true false false) := by
  obtain ⟨places, hx⟩ := reads os enc
  refine returnsInHanded_of_row (C := Tryz.checked) (s := Rows.OpenSpec.upto Rows.askBackSpec) own started (by kernel_rfl) Tryz.func6
    (witness_row_at (enc := enc) (C := Tryz.checked) false (lay (World.holding Tryz.prog os ⟨#[], #[], []⟩)) #[.agg #[.slice none 0 0, .slice none 0 0, .string ByteArray.empty, .bool false, .bool false, .int .i64 0], .string ByteArray.empty] rfl (by kernel_rfl) (by kernel_rfl) (by kernel_rfl)
      (OpenSpec.preRow_of_cond 8 hx (by kernel_rfl) (fun k hk => by cases hk; kernel_rfl) (by kernel_rfl) (laid_met os _))) ?_
  intro W base args ds gs before hval hW _ hcond _ hL _ _
  exact contract H enc W base args ds gs before hval hW (hcond _ rfl) hL

theorem said : Rows.AskBackUptoSaid :=
  OpenClaim.holds_of_cond 6 Tryz.f6 rfl rfl rfl rfl rfl rfl rfl ⟨rfl, rfl, rfl, rfl, rfl⟩ rfl rfl rfl rfl rfl (by kernel_rfl) Tryz.func6 (by kernel_rfl)
    (of_decide_eq_true (by kernel_rfl)) (by unfold Func.isWrapper; first | (rw [if_pos (by decide +kernel)]; kernel_rfl) | (rw [if_neg (by decide +kernel)]; exact ⟨rfl, rfl⟩))
    (fun os started H enc _ F => by rw [OpenClaim.pre_eq_preRow]; exact lifted os started H enc F)

set_option maxRecDepth 100000 in
theorem plain (f : FuncId) (fn : Func) (hf : Tryz.pinned.checked.prog.funcNamed Rows.askBackUptoRow.func = some f) (hfn : Tryz.pinned.checked.prog.funcs[f]? = some fn) :
    true = Tryz.pinned.checked.prog.looks [] ∧ ∀ (j : Nat) t, fn.params[j]? = some t → Tryz.pinned.checked.prog.wantsStandIn t = false := by
  obtain rfl : f = 6 := Option.some.inj ((show Tryz.prog.funcNamed Rows.askBackUptoRow.func = some 6 by kernel_rfl).symm.trans hf) |>.symm
  obtain rfl : fn = Tryz.f6 := (Option.some.inj (Tryz.func6.symm.trans hfn)).symm
  refine ⟨by kernel_rfl, fun j t ht => ?_⟩
  rw [Tryz.params6] at ht
  have hm := Array.mem_of_getElem? ht
  simp at hm
  rcases hm with rfl | rfl
  all_goals first
    | exact (show Tryz.prog.wantsStandIn 52 = false by kernel_rfl)
    | exact (show Tryz.prog.wantsStandIn 9 = false by kernel_rfl)

set_option maxRecDepth 100000 in
theorem card : Rows.AskBackUptoCardSaid :=
  Claim7.holds_tied_plain_at .later [] _ _ _ _ said (fun _ h => by cases h) (by kernel_rfl) (fun _ h => by cases h) askBackUpto_row_tie rfl ⟨rfl, rfl⟩ (by kernel_rfl) rfl plain (by kernel_rfl)
#print axioms card
end Go.Proofs.YtenakehnnmencagGreatDoor.askBack
