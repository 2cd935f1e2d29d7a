import Derived.Test.YtnphjdckdkjopaaGreatDoorMCJournalStopsx0
import Derived.Test.YtnphjdckdkjopaaGreatDoorMA0x13

/- errors.As at a target of type api.Errno, of an error that is one: Go's own text, walked; plain.Told. -/
namespace Go.Proofs.YtnphjdckdkjopaaGreatDoor
open Go Go.RowKit Go.Extern.Stop Go.Stop Go.Extern

set_option maxHeartbeats 4000000 in
set_option maxRecDepth 100000 in
theorem as_hit (n : Int) (t : Addr) (old : Value) (w : World) (hg : w.cell? ⟨0, 0, none⟩ = some (.iface 174 (.agg #[.pointer (some ⟨7, 28, none⟩)]))) (ht0 : w.cell? t = some old) (hf0 : w.frozen? t = false) :
    Calls Tryz.prog 47 #[.iface 72 (.int .i64 n), .iface 104 (.pointer (some t))] w fun ev w' => ev = .returned (.bool true) ∧ w' = ((((w.alloc (.cells #[.pointer (some t)] 104)).alloc (.cells #[.pointer (some ⟨7, 104, none⟩), .pointer (some ⟨w.heap.size, 0, none⟩), .int .u64 150] 132)).alloc (.cells #[.pointer (some ⟨7, 104, none⟩), .pointer (some ⟨w.heap.size, 0, none⟩), .int .u64 150] 132)).alloc (.cells #[.int .i64 n] 72)).setCell t (.int .i64 n) := by
  have h1 := @run_callFunc_extern Tryz.prog 71 _ (fun args => ReflectliteValue.unpack (args.getD 0 (.tuple #[]))) Tryz.func71 (by kernel_rfl) (by kernel_rfl) (by kernel_rfl) (by kernel_rfl)
  have h2 := @run_callFunc_extern Tryz.prog 72 _ (ReflectliteValue.methodAny (ReflectliteValue.valueError "reflectlite.Value.Type" 0) (fun t _ _ _ => ReflectliteType.toType t)) Tryz.func72 (by kernel_rfl) (by kernel_rfl) (by kernel_rfl) (by kernel_rfl)
  have h3 := @run_callFunc_extern Tryz.prog 73 _ (ReflectliteValue.method (ReflectliteValue.valueError "reflectlite.Value.IsNil" 0) ReflectliteValue.isNil) Tryz.func73 (by kernel_rfl) (by kernel_rfl) (by kernel_rfl) (by kernel_rfl)
  have h4 := @run_callFunc_extern Tryz.prog 266 _ (ReflectliteType.abiMethod fun t => do pure (.int .u8 (← Rtype.kind t))) Tryz.func266 (by kernel_rfl) (by kernel_rfl) (by kernel_rfl) (by kernel_rfl)
  have h5 := @run_callFunc_extern Tryz.prog 276 _ (ReflectliteType.method ReflectliteType.elem) Tryz.func276 (by kernel_rfl) (by kernel_rfl) (by kernel_rfl) (by kernel_rfl)
  have h6 := @run_callFunc_extern Tryz.prog 277 _ (ReflectliteType.relation "Implements" ReflectliteType.implements_) Tryz.func277 (by kernel_rfl) (by kernel_rfl) (by kernel_rfl) (by kernel_rfl)
  have h7 := @run_callFunc_extern Tryz.prog 101 _ ReflectliteType.typeOf Tryz.func101 (by kernel_rfl) (by kernel_rfl) (by kernel_rfl) (by kernel_rfl)
  have h8 := @run_callFunc_extern Tryz.prog 274 _ (ReflectliteType.relation "AssignableTo" ReflectliteType.assignableTo) Tryz.func274 (by kernel_rfl) (by kernel_rfl) (by kernel_rfl) (by kernel_rfl)
  have h9 := @run_callFunc_extern Tryz.prog 102 _ (ReflectliteValue.method (ReflectliteValue.valueError "reflectlite.Value.Elem" 0) ReflectliteValue.elem) Tryz.func102 (by kernel_rfl) (by kernel_rfl) (by kernel_rfl) (by kernel_rfl)
  have h10 := @run_callFunc_extern Tryz.prog 103 _ ReflectliteValue.set Tryz.func103 (by kernel_rfl) (by kernel_rfl) (by kernel_rfl) (by kernel_rfl)
  have g1 := valueOfP
  have g2 := typeP
  have g3 := kindP
  have g4 := kindE
  have g5 := elemTP
  have g6 := implementsE
  have g7 := typeOfE
  have g8 := assignableE
  have g9 := valueOfE
  have m1 := methodKind
  have m2 := methodElem
  have m3 := methodImplements
  have m4 := methodAssignableTo
  have n8 := isNilP ⟨w.heap.size, 0, none⟩ t ((w.alloc (.cells #[.pointer (some t)] 104)).alloc (.cells #[.pointer (some ⟨7, 104, none⟩), .pointer (some ⟨w.heap.size, 0, none⟩), .int .u64 150] 132)) (by simp)
  have hlt : 0 < w.heap.size := by
    rcases Nat.eq_zero_or_pos w.heap.size with h0 | h
    · simp [World.cell?, h0] at hg
    · exact h
  have hg2 : ((w.alloc (.cells #[.pointer (some t)] 104)).alloc (.cells #[.pointer (some ⟨7, 104, none⟩), .pointer (some ⟨w.heap.size, 0, none⟩), .int .u64 150] 132)).cell? ⟨0, 0, none⟩ = some (.iface 174 (.agg #[.pointer (some ⟨7, 28, none⟩)])) := by
    rw [World.cell?_alloc_lt _ _ ⟨0, 0, none⟩ (by simp), World.cell?_alloc_lt _ _ ⟨0, 0, none⟩ hlt]; exact hg
  have htl : t.block < w.heap.size := by
    rcases Nat.lt_or_ge t.block w.heap.size with h | h
    · exact h
    · simp [World.cell?, Array.getElem?_eq_none h] at ht0
  have el := elemVP ⟨w.heap.size, 0, none⟩ t (((w.alloc (.cells #[.pointer (some t)] 104)).alloc (.cells #[.pointer (some ⟨7, 104, none⟩), .pointer (some ⟨w.heap.size, 0, none⟩), .int .u64 150] 132)).alloc (.cells #[.pointer (some ⟨7, 104, none⟩), .pointer (some ⟨w.heap.size, 0, none⟩), .int .u64 150] 132)) (by rw [World.cell?_alloc_lt _ _ ⟨w.heap.size, 0, none⟩ (by simp; omega)]; simp)
  have st := setE t ⟨w.heap.size + 1 + 1 + 1, 0, none⟩ n old ((((w.alloc (.cells #[.pointer (some t)] 104)).alloc (.cells #[.pointer (some ⟨7, 104, none⟩), .pointer (some ⟨w.heap.size, 0, none⟩), .int .u64 150] 132)).alloc (.cells #[.pointer (some ⟨7, 104, none⟩), .pointer (some ⟨w.heap.size, 0, none⟩), .int .u64 150] 132)).alloc (.cells #[.int .i64 n] 72))
    (by rw [World.cell?_alloc_at _ _ _ _ (by simp)]; rfl)
    (by rw [World.cell?_alloc_lt _ _ t (by simp; omega), World.cell?_alloc_lt _ _ t (by simp; omega), World.cell?_alloc_lt _ _ t (by simp; omega), World.cell?_alloc_lt _ _ t htl]; exact ht0)
    (by rw [World.frozen?_alloc_old _ _ t (by simp; omega), World.frozen?_alloc_old _ _ t (by simp; omega), World.frozen?_alloc_old _ _ t (by simp; omega), World.frozen?_alloc_old _ _ t (Nat.ne_of_lt htl)]; exact hf0)
  go_enter Tryz.func47, Tryz.ntmps47
  go_wp2
  refine wp_loop_rounds 1 ?_
  rw [rounds_succ]
  go_wp2
  go_ret
  exact ⟨rfl, rfl⟩

/-- the error type's variable, as the program lays it -/
def errVar (w : World) : Prop := w.cell? ⟨0, 0, none⟩ = some (.iface 174 (.agg #[.pointer (some ⟨7, 28, none⟩)]))

theorem errVar.below {w w' : World} (h : errVar w) (hb : Below w.heap.size w w') : errVar w' := by
  unfold errVar at *
  have hlt : 0 < w.heap.size := by
    rcases Nat.eq_zero_or_pos w.heap.size with h0 | h'
    · simp [World.cell?, h0] at h
    · exact h'
  rw [hb.cell (p := ⟨0, 0, none⟩) hlt]; exact h

theorem Told_nil (w : World) : Calls Tryz.prog 24 #[.nilIface] w fun e w' => e = .returned (.int .i64 0) ∧ Below w.heap.size w w' := by
  go_enter Tryz.func24, Tryz.ntmps24
  go_wp2
  go_ret
  exact ⟨rfl, Below.refl _ _⟩

set_option maxHeartbeats 1000000 in
theorem Told_hit (n : Int) (w : World) (hg : errVar w) : Calls Tryz.prog 24 #[.iface 72 (.int .i64 n)] w fun e w' => e = .returned (.int .i64 n) ∧ Below w.heap.size w w' := by
  have hgA := hg.below (balloc w (.cells #[.int .i64 0] 72))
  unfold errVar at hgA
  have htA : (w.alloc (.cells #[.int .i64 0] 72)).cell? ⟨w.heap.size, 0, none⟩ = some (.int .i64 0) := by simp
  have hfA : (w.alloc (.cells #[.int .i64 0] 72)).frozen? ⟨w.heap.size, 0, none⟩ = false := by simp
  go_enter Tryz.func24, Tryz.ntmps24
  go_wp2_with fail
  refine (as_hit n _ (.int .i64 0) _ hgA htA hfA).mono ?_
  rintro e w' ⟨rfl, rfl⟩
  go_wp2_with fail
  go_ret
  exact ⟨rfl, bstep (bstep (bstep (bstep (balloc _ _) (balloc _ _)) (balloc _ _)) (balloc _ _)) (balloc _ _)⟩

/-- stratasame.Error: is it the error of that number? -/
theorem SameError_any (m e : Int) (w : World) (hg : errVar w) : Calls Tryz.prog 9 #[errV m, .int .i64 e] w fun r w' => r = .returned (.bool (m == e)) ∧ Below w.heap.size w w' := by
  by_cases h : m = 0
  · subst h
    rw [show errV 0 = .nilIface from rfl]
    go_enter Tryz.func9, Tryz.ntmps9
    go_wp2_with (go_at_call 24; refine (Told_nil _).mono ?_; rintro e w1 ⟨rfl, hb⟩)
    go_ret
    exact ⟨rfl, hb⟩
  · rw [show errV m = .iface 72 (.int .i64 m) from if_neg h]
    go_enter Tryz.func9, Tryz.ntmps9
    go_wp2_with (go_at_call 24; refine (Told_hit m _ hg).mono ?_; rintro e w1 ⟨rfl, hb⟩)
    go_ret
    exact ⟨rfl, hb⟩
end Go.Proofs.YtnphjdckdkjopaaGreatDoor

/- stratalaw3.JournalStops: when it has stopped it has stopped. -/
namespace Go.Proofs.YtnphjdckdkjopaaGreatDoor
open Go Go.RowKit Go.Proofs Go.Maps
set_option synthInstance.maxSize 1000

attribute [local go_sem] eql_errV neq_errV guard_errV

/-- a commit of no triple, in a repo -/
theorem commit_nil (R : Rp) (b : List UInt8) : (nameR b = false → doE R (comK, b, [], [109], 0) = 2) ∧ (nameR b = true → doE R (comK, b, [], [109], 0) = 0 ∨ doE R (comK, b, [], [109], 0) = 4) := by
  have e : doE R (comK, b, [], [109], 0) = commitE R b [] [109] := by unfold doE; rw [if_neg (show ¬ comK = brK by decide)]
  rw [e]
  constructor
  · intro h
    have hf : commitF R b [] [109] = 2 := by unfold commitF; rw [if_pos h]
    unfold commitE
    rw [hf, if_pos (by decide)]
  · intro h
    have hs : setF [] [109] = 0 := by decide
    have hf : commitF R b [] [109] = if roomR R b = false then 4 else 0 := by
      unfold commitF
      rw [if_neg (by rw [h]; decide), if_neg (fun h => h hs)]
    unfold commitE
    rw [hf]
    by_cases hr : roomR R b = false
    · rw [if_pos hr, if_pos (by decide)]
      exact Or.inr rfl
    · rw [if_neg hr, if_neg (by decide)]
      unfold addE
      split
      · exact Or.inl rfl
      · split
        · exact Or.inr rfl
        · unfold putE
          split
          · exact Or.inl rfl
          · split
            · exact Or.inr rfl
            · exact Or.inl rfl

/-- behind s steps of those of which the one of number a stops it -/
structure JInv (a s : Nat) (J : Jn) : Prop where
  good : GoodJ J
  run : s ≤ a → J.stop = false ∧ J.ahead = (a : Int) - (s : Int)
  end_ : a < s → J.stop = true
structure JS (w0 wr : World) (j a s i : Nat) : Prop where
  low : RowKit.Below w0.heap.size w0 wr
  at_ : ∃ O J, JAt wr j O J ∧ (∀ k, O k → w0.heap.size ≤ k) ∧ J.ds.length ≤ i ∧ JInv a s J
theorem JS.below {w0 wr w' : World} {j a s i : Nat} (h : JS w0 wr j a s i) (hb : RowKit.Below wr.heap.size wr w') : JS w0 w' j a s i := by
  obtain ⟨O, J, h1, h2, h3, h4⟩ := h.at_
  exact ⟨bstep h.low hb, O, J, h1.below hb, h2, h3, h4⟩
theorem JS.more {w0 wr : World} {j a s i i' : Nat} (h : JS w0 wr j a s i) (hi : i ≤ i') : JS w0 wr j a s i' := by
  obtain ⟨O, J, h1, h2, h3, h4⟩ := h.at_
  exact ⟨h.low, O, J, h1, h2, Nat.le_trans h3 hi, h4⟩
theorem JTo.js {w0 wr w' : World} {j a s i : Nat} {O : Nat → Prop} {J : Jn} (hlow : RowKit.Below w0.heap.size w0 wr) (hO : ∀ k, O k → w0.heap.size ≤ k) (h : JTo wr O j J w') (hi : J.ds.length ≤ i) (hJ : JInv a s J) : JS w0 w' j a s i := by
  obtain ⟨O', h1, h2, h3⟩ := h
  exact ⟨hlow.trans (h2.below (fun k hk => hO k hk) hlow.size), O', J, h1, fun k hk => (h3 k hk).elim (hO k) (Nat.le_trans hlow.size), hi, hJ⟩
/-- what a Commit tells of a journal that stops -/
def CommitPost (w0 : World) (j a s i : Nat) (b : List UInt8) (e : Ending) (w' : World) : Prop := ∃ I E : Int, e = .returned (.tuple #[.int .i64 I, errV E]) ∧
  ((a < s ∧ E = 6 ∧ JS w0 w' j a s i) ∨ (s ≤ a ∧ nameR b = false ∧ E = 2 ∧ JS w0 w' j a s i) ∨ (s ≤ a ∧ nameR b = true ∧ ((E = 4 ∧ JS w0 w' j a s i) ∨ (s = a ∧ E = 6 ∧ JS w0 w' j a (s + 1) i) ∨ (s < a ∧ E = 0 ∧ JS w0 w' j a (s + 1) (i + 1)))))
theorem js_commit {w0 wr : World} {j a s i : Nat} (h : JS w0 wr j a s i) (hL : ∀ W, RowKit.Below w0.heap.size w0 W → LaidN W) (hi : i ≤ 100) (b : List UInt8) (hb : b.length ≤ reachBytes) :
    Calls Tryz.prog 8 #[.pointer (some ⟨j, 0, none⟩), .string ⟨b.toArray⟩, .slice none 0 0, .string ⟨#[109]⟩] wr (CommitPost w0 j a s i b) := by
  obtain ⟨O, J, h1, h2, h3, h4⟩ := h.at_
  have H := JCommit_any wr w0.heap.size j O J b none 0 [] [109] h1 h4.good (by omega) ⟨hb, by show 1 ≤ reachBytes; decide, fun h => absurd rfl h, fun _ h => (by cases h), by simp, by show comK.length ≤ 1000000; decide⟩ (fun W hW => hL W (h.low.trans hW)) h.low.size
  refine H.mono ?_
  rintro e w' ⟨rfl, hto⟩
  obtain ⟨c1, c2⟩ := commit_nil (playR J.ds) b
  refine ⟨_, _, rfl, ?_⟩
  by_cases hs : a < s
  · have hst := h4.end_ hs
    have e1 : keepJE J (comK, b, [], [109], 0) = 6 := by unfold keepJE; rw [if_pos hst]
    have e2 : keepJ J (comK, b, [], [109], 0) = J := by unfold keepJ; rw [if_pos hst]
    rw [e2] at hto
    exact Or.inl ⟨hs, e1, hto.js h.low h2 h3 h4⟩
  · obtain ⟨r1, r2⟩ := h4.run (by omega)
    have hst : ¬ J.stop = true := by rw [r1]; decide
    cases hn : nameR b with
    | false =>
      have hE := c1 hn
      have hE' : doE (playR J.ds) (comK, b, [], [109], 0) ≠ 0 := by rw [hE]; decide
      have e1 : keepJE J (comK, b, [], [109], 0) = 2 := by unfold keepJE; rw [if_neg hst, if_pos hE', hE]
      have e2 : keepJ J (comK, b, [], [109], 0) = J := by unfold keepJ; rw [if_neg hst, if_pos hE']
      rw [e2] at hto
      exact Or.inr (Or.inl ⟨by omega, rfl, e1, hto.js h.low h2 h3 h4⟩)
    | true =>
      refine Or.inr (Or.inr ⟨by omega, rfl, ?_⟩)
      rcases c2 hn with hE | hE
      · have hE' : ¬ doE (playR J.ds) (comK, b, [], [109], 0) ≠ 0 := fun h => h hE
        by_cases ha : J.ahead = 0
        · have e1 : keepJE J (comK, b, [], [109], 0) = 6 := by unfold keepJE; rw [if_neg hst, if_neg hE', if_pos ha]
          have e2 : keepJ J (comK, b, [], [109], 0) = ⟨J.ds, (recD (comK, b, [], [109], 0)).take ((recD (comK, b, [], [109], 0)).length / 2), J.sn, J.ahead, true⟩ := by unfold keepJ; rw [if_neg hst, if_neg hE', if_pos ha]
          have hsa : s = a := by omega
          refine Or.inr (Or.inl ⟨hsa, e1, hto.js h.low h2 (by rw [e2]; exact h3) ⟨h4.good.keep ok_commit, fun h => by omega, fun _ => by rw [e2]⟩⟩)
        · have e1 : keepJE J (comK, b, [], [109], 0) = 0 := by unfold keepJE; rw [if_neg hst, if_neg hE', if_neg ha]
          have e2 : keepJ J (comK, b, [], [109], 0) = ⟨J.ds ++ [(comK, b, [], [109], 0)], J.half, J.sn, stepA J.ahead, false⟩ := by unfold keepJ; rw [if_neg hst, if_neg hE', if_neg ha]
          have hsa : s < a := by omega
          refine Or.inr (Or.inr ⟨hsa, e1, hto.js h.low h2 (by rw [e2]; simpa using h3) ⟨h4.good.keep ok_commit, fun h => ?_, fun h => by omega⟩⟩)
          rw [e2]
          refine ⟨rfl, ?_⟩
          show stepA J.ahead = _
          unfold stepA
          rw [if_pos (by omega), r2]
          omega
      · have hE' : doE (playR J.ds) (comK, b, [], [109], 0) ≠ 0 := by rw [hE]; decide
        have e1 : keepJE J (comK, b, [], [109], 0) = 4 := by unfold keepJE; rw [if_neg hst, if_pos hE', hE]
        have e2 : keepJ J (comK, b, [], [109], 0) = J := by unfold keepJ; rw [if_neg hst, if_pos hE']
        rw [e2] at hto
        exact Or.inl ⟨e1, hto.js h.low h2 h3 h4⟩
def SyncPost (w0 : World) (j a s i : Nat) (e : Ending) (w' : World) : Prop := ∃ E : Int, e = .returned (errV E) ∧ ((s < a ∧ E = 0) ∨ (a ≤ s ∧ E = 6)) ∧ JS w0 w' j a (s + 1) i
theorem js_sync {w0 wr : World} {j a s i : Nat} (h : JS w0 wr j a s i) :
    Calls Tryz.prog 10 #[.pointer (some ⟨j, 0, none⟩)] wr (SyncPost w0 j a s i) := by
  obtain ⟨O, J, h1, h2, h3, h4⟩ := h.at_
  refine (JSync_any wr j O J h1 h4.good).mono ?_
  rintro e w' ⟨rfl, hto⟩
  refine ⟨_, rfl, ?_, hto.js h.low h2 ?_ ⟨h4.good.sync, fun hs => ?_, fun hs => ?_⟩⟩
  · by_cases hs : s < a
    · obtain ⟨r1, r2⟩ := h4.run (by omega)
      refine Or.inl ⟨hs, ?_⟩
      unfold syncE
      rw [if_neg]
      unfold stepS
      rw [r1, decide_eq_false (by omega)]
      decide
    · refine Or.inr ⟨by omega, ?_⟩
      unfold syncE
      rw [if_pos]
      unfold stepS
      by_cases he : s = a
      · obtain ⟨r1, r2⟩ := h4.run (by omega)
        rw [decide_eq_true (by omega)]
        simp
      · rw [h4.end_ (by omega)]
        rfl
  · unfold syncJ; split <;> exact h3
  · obtain ⟨r1, r2⟩ := h4.run (by omega)
    have hn : stepS J.ahead J.stop = false := by unfold stepS; rw [r1, decide_eq_false (by omega)]; rfl
    unfold syncJ
    rw [hn]
    refine ⟨rfl, ?_⟩
    show stepA J.ahead = _
    unfold stepA
    rw [if_pos (by omega), r2]
    omega
  · have hn : stepS J.ahead J.stop = true := by
      unfold stepS
      by_cases he : s = a
      · obtain ⟨r1, r2⟩ := h4.run (by omega)
        rw [decide_eq_true (by omega)]
        simp
      · rw [h4.end_ (by omega)]
        rfl
    unfold syncJ
    rw [hn]
    rfl
/-- a journal that has stopped tells it of a Branch -/
theorem js_branch {w0 wr : World} {j a s i : Nat} (h : JS w0 wr j a s i) (hL : ∀ W, RowKit.Below w0.heap.size w0 W → LaidN W) (hi : i ≤ 100) (hs : a < s) :
    Calls Tryz.prog 11 #[.pointer (some ⟨j, 0, none⟩), .string ⟨#[113]⟩, .int .i64 0] wr fun e w' => e = .returned (errV 6) ∧ JS w0 w' j a s i := by
  obtain ⟨O, J, h1, h2, h3, h4⟩ := h.at_
  refine (JBranch_any wr w0.heap.size j O J [113] 0 h1 h4.good (by omega) (by decide) (by decide) (by decide) (fun W hW => hL W (h.low.trans hW)) h.low.size).mono ?_
  rintro e w' ⟨rfl, hto⟩
  have hst := h4.end_ hs
  have e1 : keepJE J (brK, [113], [], [], 0) = 6 := by unfold keepJE; rw [if_pos hst]
  have e2 : keepJ J (brK, [113], [], [], 0) = J := by unfold keepJ; rw [if_pos hst]
  rw [e2] at hto
  rw [e1]
  exact ⟨rfl, hto.js h.low h2 h3 h4⟩
/-- behind a crash it goes on -/
theorem js_crash {w0 wr : World} {j a s i : Nat} (h : JS w0 wr j a s i) (hL : ∀ W, RowKit.Below w0.heap.size w0 W → LaidN W) (hi : i ≤ 100) (k : Int) :
    Calls Tryz.prog 12 #[.pointer (some ⟨j, 0, none⟩), .int .i64 k] wr fun e w' => e = .returned (.tuple #[]) ∧ RowKit.Below w0.heap.size w0 w' ∧ ∃ O J, JAt w' j O J ∧ GoodJ J ∧ syncE J = 0 ∧ ∀ k, O k → w0.heap.size ≤ k := by
  obtain ⟨O, J, h1, h2, h3, h4⟩ := h.at_
  refine (JCrash_any wr w0.heap.size j O J k h1 h4.good (by omega) (fun W hW => hL W (h.low.trans hW)) h.low.size).mono ?_
  rintro e w' ⟨rfl, O', q1, q2, q3⟩
  exact ⟨rfl, h.low.trans (q2.below (fun k hk => h2 k hk) h.low.size), O', crashJ J k, q1, h4.good.crash k, rfl, fun i hi => (q3 i hi).elim (h2 i) (Nat.le_trans h.low.size)⟩

def StopsPost (w : World) (e : Ending) (w' : World) : Prop := e = .returned (.bool true) ∧ RowKit.Below w.heap.size w w'

set_option maxHeartbeats 8000000 in
set_option maxRecDepth 100000 in
theorem journalStops_any (nd : Option Addr) (nc : Nat) (T : List (List UInt8)) (a k : Int) (w : World) (hg : errVar w) (hL : ∀ W, RowKit.Below w.heap.size w W → LaidN W)
    (hT : T ≠ [] → ∃ b o, nd = some ⟨b, o, none⟩ ∧ TextsAt w b o T) (hTl : ∀ t ∈ T, t.length ≤ reachBytes) (hTn : T.length ≤ maxLen) :
    Calls Tryz.prog 3 #[.slice nd T.length nc, .int .i64 a, .int .i64 k] w (StopsPost w) := by
  have HN := JNew_any w
  have HG := hideO (fun W (hW : RowKit.Below w.heap.size w W) => hg.below hW)
  have HE := hideO (fun (m e : Int) W (hW : RowKit.Below w.heap.size w W) => SameError_any m e W (hg.below hW))
  have HT := hideO (fun (i : Nat) (hi : i < T.length) W (hW : RowKit.Below w.heap.size w W) => by
    obtain ⟨b, o, e, h1⟩ := hT (fun e => by rw [e] at hi; simp at hi)
    have h2 := h1 i hi
    exact (⟨b, o, e, (hW.cell (World.block_lt_of_cell? w _ h2)).trans h2⟩ : ∃ b o, nd = some ⟨b, o, none⟩ ∧ W.cell? ⟨b, o + i, none⟩ = some (.string ⟨T[i].toArray⟩)))
  have HTL := hideO hTl
  have HL := hideO hL
  have HTN := hideO hTn
  clear hg hT hTl hL hTn
  go_enter Tryz.func3, Tryz.ntmps3
  go_wp2_with fail
  refine HN.mono ?_
  rintro e w1 ⟨j, O, rfl, hJ, hb1, hO⟩
  by_cases ha : a < 0
  · have F := hideO (show StopsPost w (.returned (.bool true)) w1 from ⟨rfl, hb1⟩)
    clear HN HG HE HT HTL HL HTN hJ hb1 hO
    dsimp only
    go_wp2_with fail
    go_ret
    exact F.out
  · by_cases ha2 : a > 20
    · have F := hideO (show StopsPost w (.returned (.bool true)) w1 from ⟨rfl, hb1⟩)
      clear HN HG HE HT HTL HL HTN hJ hb1 hO
      dsimp only
      go_wp2_with fail
      go_ret
      exact F.out
    · obtain ⟨n, rfl⟩ : ∃ n : Nat, a = (n : Int) := ⟨a.toNat, by omega⟩
      have HF := JFail_any w1 j O emptyJ (n : Int) hJ
      have Hb1 := hideO hb1
      have HO := hideO hO
      clear hJ hb1 hO HN
      dsimp only
      go_wp2_with fail
      refine HF.mono ?_
      rintro e w2 ⟨rfl, hto⟩
      have hS0 : JS w w2 j n 0 0 := hto.js Hb1.out HO.out (Nat.le_refl _) ⟨goodJ_empty.fail (by omega) (by omega), fun _ => ⟨rfl, by show (n : Int) = _; omega⟩, fun h => by omega⟩
      have HS0 := hideO hS0
      clear hto hS0 HF Hb1 HO
      dsimp only
      go_wp2_with fail
      go_loopw [8, 9] (fun s i wr => ∃ (s' i' : Nat), s = .int .i64 (s' : Int) ∧ i = .int .i64 (i' : Int) ∧ i' ≤ T.length ∧ i' ≤ 30 ∧ s' ≤ i' ∧ Hid (JS w wr j n s' i')) (fun s i wr => T.length - (intOf i).toNat)
      case atStart => exact ⟨0, 0, rfl, rfl, Nat.zero_le _, by omega, Nat.le_refl _, HS0⟩
      case round =>
        obtain ⟨s', i', rfl, rfl, hi1, hi2, hsi, hS⟩ := hrel
        by_cases hlt : i' < T.length ∧ i' < 30
        · obtain ⟨b, o, e, hc⟩ := HT.out i' hlt.1 wr hS.out.low
          subst e
          have ht := HTL.out _ (List.getElem_mem hlt.1)
          have hml : T[i'].length ≤ maxLen := by unfold reachBytes at ht; unfold maxLen; omega
          have HC := js_commit hS.out HL.out (by omega) T[i'] ht
          have HR := RName_any T[i'] wr hml
          have l1 := hlt.1
          have l2 := hlt.2
          have x1 : (i' : Int) < (T.length : Int) := by omega
          have x2 : (i' : Int) < 30 := by omega
          have x0 : (0 : Int) ≤ (i' : Int) := by omega
          have hw1 : IntKind.i64.wrap ((i' : Int) + 1) = ((i' + 1 : Nat) : Int) := by simp [IntKind.wrap, IntKind.bits, IntKind.signed]; omega
          have hw2 : IntKind.i64.wrap ((s' : Int) + 1) = ((s' + 1 : Nat) : Int) := by simp [IntKind.wrap, IntKind.bits, IntKind.signed]; omega
          have HI := hideO (show i' + 1 ≤ T.length ∧ i' + 1 ≤ 30 from ⟨by omega, by omega⟩)
          clear ht hml
          generalize T[i'] = t at *
          clear HT HTL hlt HTN
          by_cases hA : n < s'
          · have y1 : (s' : Int) > (n : Int) := by omega
            clear hS
            go_wp2_with (go_at_call 7; refine HR.mono ?_; rintro e w3 ⟨rfl, rfl⟩; dsimp only)
            refine HC.mono ?_
            rintro e w4 ⟨I, E, rfl, hcase⟩
            rcases hcase with ⟨_, rfl, hS4⟩ | ⟨h, _⟩ | ⟨h, _⟩
            · have HE6 := HE.out 6 6 w4 hS4.low
              have HS4 := hideO hS4
              clear hS4 HC HR
              dsimp only
              go_wp2_with fail
              refine HE6.mono ?_
              rintro e w5 ⟨rfl, hb5⟩
              have HS5 := hideO ((HS4.out.below hb5).more (Nat.le_succ _))
              clear hb5 HE6 HS4
              rw [show ((6 : Int) == 6) = true from rfl]
              dsimp only
              go_wp2_with fail
              go_roundw
              case rel => exact ⟨s', i' + 1, rfl, by go_num, HI.out.1, HI.out.2, by omega, HS5⟩
              case measure => simp [intOf]; omega
            · exact absurd hA (by omega)
            · exact absurd hA (by omega)
          · have y1 : ¬ (s' : Int) > (n : Int) := by omega
            cases hn : nameR t with
            | false =>
              rw [hn] at HR
              clear hS
              go_wp2_with (go_at_call 7; refine HR.mono ?_; rintro e w3 ⟨rfl, rfl⟩; dsimp only)
              refine HC.mono ?_
              rintro e w4 ⟨I, E, rfl, hcase⟩
              rcases hcase with ⟨h, _⟩ | ⟨_, _, rfl, hS4⟩ | ⟨_, h, _⟩
              · exact absurd h hA
              · have HE6 := HE.out 2 6 w4 hS4.low
                have HE2 := hideO (fun w5 (hb : RowKit.Below w4.heap.size w4 w5) => HE.out 2 2 w5 (bstep hS4.low hb))
                have HS4 := hideO hS4
                clear hS4 HC HR
                dsimp only
                go_wp2_with fail
                refine HE6.mono ?_
                rintro e w5 ⟨rfl, hb5⟩
                have HE2' := HE2.out w5 hb5
                have Hb5 := hideO hb5
                clear hb5 HE6 HE2
                rw [show ((2 : Int) == 6) = false from rfl]
                dsimp only
                go_wp2_with fail
                refine HE2'.mono ?_
                rintro e w6 ⟨rfl, hb6⟩
                have HS5 := hideO (((HS4.out.below Hb5.out).below hb6).more (Nat.le_succ _))
                clear hb6 HE2' HS4 Hb5
                rw [show ((2 : Int) == 2) = true from rfl]
                dsimp only
                go_wp2_with fail
                go_roundw
                case rel => exact ⟨s', i' + 1, rfl, by go_num, HI.out.1, HI.out.2, by omega, HS5⟩
                case measure => simp [intOf]; omega
              · rw [hn] at h; cases h
            | true =>
              rw [hn] at HR
              clear hS
              go_wp2_with (go_at_call 7; refine HR.mono ?_; rintro e w3 ⟨rfl, rfl⟩; dsimp only)
              refine HC.mono ?_
              rintro e w4 ⟨I, E, rfl, hcase⟩
              rcases hcase with ⟨h, _⟩ | ⟨_, h, _⟩ | ⟨_, _, hcase⟩
              · exact absurd h hA
              · rw [hn] at h; cases h
              · rcases hcase with ⟨rfl, hS4⟩ | ⟨he, rfl, hS4⟩ | ⟨hl, rfl, hS4⟩
                · have HE6 := HE.out 4 6 w4 hS4.low
                  have HE2 := hideO (fun w5 (hb : RowKit.Below w4.heap.size w4 w5) => HE.out 4 4 w5 (bstep hS4.low hb))
                  have HS4 := hideO hS4
                  clear hS4 HC HR
                  dsimp only
                  go_wp2_with fail
                  refine HE6.mono ?_
                  rintro e w5 ⟨rfl, hb5⟩
                  have HE2' := HE2.out w5 hb5
                  have Hb5 := hideO hb5
                  clear hb5 HE6 HE2
                  rw [show ((4 : Int) == 6) = false from rfl]
                  dsimp only
                  go_wp2_with fail
                  refine HE2'.mono ?_
                  rintro e w6 ⟨rfl, hb6⟩
                  have HS5 := hideO (((HS4.out.below Hb5.out).below hb6).more (Nat.le_succ _))
                  clear hb6 HE2' HS4 Hb5
                  rw [show ((4 : Int) == 4) = true from rfl]
                  dsimp only
                  go_wp2_with fail
                  go_roundw
                  case rel => exact ⟨s', i' + 1, rfl, by go_num, HI.out.1, HI.out.2, by omega, HS5⟩
                  case measure => simp [intOf]; omega
                · have HE6 := HE.out 6 6 w4 hS4.low
                  have HE2 := hideO (fun w5 (hb : RowKit.Below w4.heap.size w4 w5) => HE.out 6 4 w5 (bstep hS4.low hb))
                  have HS4 := hideO hS4
                  have y2 : (s' : Int) = (n : Int) := by omega
                  have y3 : ((s' : Int) == (n : Int)) = true := by simpa using y2
                  clear hS4 HC HR y2
                  dsimp only
                  go_wp2_with fail
                  refine HE6.mono ?_
                  rintro e w5 ⟨rfl, hb5⟩
                  have HE2' := HE2.out w5 hb5
                  have Hb5 := hideO hb5
                  clear hb5 HE6 HE2
                  rw [show ((6 : Int) == 6) = true from rfl]
                  dsimp only
                  go_wp2_with fail
                  refine HE2'.mono ?_
                  rintro e w6 ⟨rfl, hb6⟩
                  have HS5 := hideO (((HS4.out.below Hb5.out).below hb6).more (Nat.le_succ _))
                  clear hb6 HE2' HS4 Hb5
                  rw [show ((6 : Int) == 4) = false from rfl]
                  dsimp only
                  go_wp2_with fail
                  go_roundw
                  case rel => exact ⟨s' + 1, i' + 1, by go_num, by go_num, HI.out.1, HI.out.2, by omega, HS5⟩
                  case measure => simp [intOf]; omega
                · have HE6 := HE.out 0 6 w4 hS4.low
                  have HE2 := hideO (fun w5 (hb : RowKit.Below w4.heap.size w4 w5) => HE.out 0 4 w5 (bstep hS4.low hb))
                  have HS4 := hideO hS4
                  have y3 : ((s' : Int) == (n : Int)) = false := beq_eq_false_iff_ne.2 (by omega)
                  clear hS4 HC HR
                  dsimp only
                  go_wp2_with fail
                  refine HE6.mono ?_
                  rintro e w5 ⟨rfl, hb5⟩
                  have HE2' := HE2.out w5 hb5
                  have Hb5 := hideO hb5
                  clear hb5 HE6 HE2
                  rw [show ((0 : Int) == 6) = false from rfl]
                  dsimp only
                  go_wp2_with fail
                  refine HE2'.mono ?_
                  rintro e w6 ⟨rfl, hb6⟩
                  have HS5 := hideO ((HS4.out.below Hb5.out).below hb6)
                  clear hb6 HE2' HS4 Hb5
                  rw [show ((0 : Int) == 4) = false from rfl]
                  dsimp only
                  go_wp2_with fail
                  go_roundw
                  case rel => exact ⟨s' + 1, i' + 1, by go_num, by go_num, HI.out.1, HI.out.2, by omega, HS5⟩
                  case measure => simp [intOf]; omega
        · by_cases hx : i' < T.length
          · have x1 : (i' : Int) < (T.length : Int) := by omega
            have x2 : ¬ (i' : Int) < 30 := by omega
            clear HT HTL HTN hlt
            go_wp2_with fail
            go_loopw [8] (fun s wr => ∃ (s' : Nat), s = .int .i64 (s' : Int) ∧ s' ≤ 100 ∧ Hid (JS w wr j n s' i')) (fun s wr => n + 1 - (intOf s).toNat)
            case atStart => exact ⟨s', rfl, by omega, hS⟩
            case round =>
              obtain ⟨s2, rfl, hs2, hS2⟩ := hrel
              have hw2 : IntKind.i64.wrap ((s2 : Int) + 1) = ((s2 + 1 : Nat) : Int) := by simp [IntKind.wrap, IntKind.bits, IntKind.signed]; omega
              have HC := js_sync hS2.out
              by_cases hle : s2 ≤ n
              · have y1 : (s2 : Int) ≤ (n : Int) := by omega
                clear hS hS2
                go_wp2_with fail
                refine HC.mono ?_
                rintro e w4 ⟨E, rfl, hcase, hS4⟩
                have HS4 := hideO hS4
                clear hS4 HC
                rcases hcase with ⟨hl, rfl⟩ | ⟨hl, rfl⟩
                · have y3 : ((s2 : Int) == (n : Int)) = false := beq_eq_false_iff_ne.2 (by omega)
                  dsimp only
                  go_wp2_with fail
                  go_roundw
                  case rel => exact ⟨s2 + 1, by go_num, by omega, HS4⟩
                  case measure => simp [intOf]; omega
                · have y3 : ((s2 : Int) == (n : Int)) = true := by have : (s2 : Int) = (n : Int) := by omega
                                                                   simpa using this
                  dsimp only
                  go_wp2_with fail
                  go_roundw
                  case rel => exact ⟨s2 + 1, by go_num, by omega, HS4⟩
                  case measure => simp [intOf]; omega
              · have y1 : ¬ (s2 : Int) ≤ (n : Int) := by omega
                clear hS hS2
                go_wp2_with fail
                refine HC.mono ?_
                rintro e w4 ⟨E, rfl, hcase, hS4⟩
                rcases hcase with ⟨hl, _⟩ | ⟨hl, rfl⟩
                · exact absurd hl (by omega)
                · have HB := js_branch hS4 HL.out (by omega) (by omega)
                  clear hS4 HC
                  dsimp only
                  go_wp2_with fail
                  refine HB.mono ?_
                  rintro e w5 ⟨rfl, hS5⟩
                  have HE6 := HE.out 6 6 w5 hS5.low
                  have HE7 := hideO (fun w6 (hb : RowKit.Below w5.heap.size w5 w6) => HE.out 6 6 w6 (bstep hS5.low hb))
                  have HS5 := hideO hS5
                  clear hS5 HB HE
                  dsimp only
                  go_wp2_with fail
                  refine HE6.mono ?_
                  rintro e w6 ⟨rfl, hb6⟩
                  have HE7' := HE7.out w6 hb6
                  have HS6 := hideO (HS5.out.below hb6)
                  clear hb6 HE6 HE7 HS5
                  rw [show ((6 : Int) == 6) = true from rfl] at HE7' ⊢
                  dsimp only
                  go_wp2_with fail
                  refine HE7'.mono ?_
                  rintro e w7 ⟨rfl, hb7⟩
                  have HCR := js_crash (HS6.out.below hb7) HL.out (by omega) k
                  clear hb7 HE7' HS6
                  dsimp only
                  go_wp2_with fail
                  refine HCR.mono ?_
                  rintro e w8 ⟨rfl, hb8, O8, J8, hJ8, hg8, he8, hO8⟩
                  have HSY := JSync_any w8 j O8 J8 hJ8 hg8
                  rw [he8, show errV 0 = Value.nilIface from rfl] at HSY
                  have HB8 := hideO hb8
                  clear hJ8 hg8 he8 hb8 HCR
                  dsimp only
                  go_wp2_with fail
                  refine HSY.mono ?_
                  rintro e w9 ⟨rfl, O9, _, hof, _⟩
                  have F := hideO (show StopsPost w (.returned (.bool true)) w9 from ⟨rfl, HB8.out.trans (hof.below (fun i hi => hO8 i hi) HB8.out.size)⟩)
                  clear hof HSY HB8
                  dsimp only
                  go_wp2_with fail
                  go_ret
                  exact F.out
          · have x1 : ¬ (i' : Int) < (T.length : Int) := by omega
            clear HT HTL HTN hlt
            go_wp2_with fail
            go_loopw [8] (fun s wr => ∃ (s' : Nat), s = .int .i64 (s' : Int) ∧ s' ≤ 100 ∧ Hid (JS w wr j n s' i')) (fun s wr => n + 1 - (intOf s).toNat)
            case atStart => exact ⟨s', rfl, by omega, hS⟩
            case round =>
              obtain ⟨s2, rfl, hs2, hS2⟩ := hrel
              have hw2 : IntKind.i64.wrap ((s2 : Int) + 1) = ((s2 + 1 : Nat) : Int) := by simp [IntKind.wrap, IntKind.bits, IntKind.signed]; omega
              have HC := js_sync hS2.out
              by_cases hle : s2 ≤ n
              · have y1 : (s2 : Int) ≤ (n : Int) := by omega
                clear hS hS2
                go_wp2_with fail
                refine HC.mono ?_
                rintro e w4 ⟨E, rfl, hcase, hS4⟩
                have HS4 := hideO hS4
                clear hS4 HC
                rcases hcase with ⟨hl, rfl⟩ | ⟨hl, rfl⟩
                · have y3 : ((s2 : Int) == (n : Int)) = false := beq_eq_false_iff_ne.2 (by omega)
                  dsimp only
                  go_wp2_with fail
                  go_roundw
                  case rel => exact ⟨s2 + 1, by go_num, by omega, HS4⟩
                  case measure => simp [intOf]; omega
                · have y3 : ((s2 : Int) == (n : Int)) = true := by have : (s2 : Int) = (n : Int) := by omega
                                                                   simpa using this
                  dsimp only
                  go_wp2_with fail
                  go_roundw
                  case rel => exact ⟨s2 + 1, by go_num, by omega, HS4⟩
                  case measure => simp [intOf]; omega
              · have y1 : ¬ (s2 : Int) ≤ (n : Int) := by omega
                clear hS hS2
                go_wp2_with fail
                refine HC.mono ?_
                rintro e w4 ⟨E, rfl, hcase, hS4⟩
                rcases hcase with ⟨hl, _⟩ | ⟨hl, rfl⟩
                · exact absurd hl (by omega)
                · have HB := js_branch hS4 HL.out (by omega) (by omega)
                  clear hS4 HC
                  dsimp only
                  go_wp2_with fail
                  refine HB.mono ?_
                  rintro e w5 ⟨rfl, hS5⟩
                  have HE6 := HE.out 6 6 w5 hS5.low
                  have HE7 := hideO (fun w6 (hb : RowKit.Below w5.heap.size w5 w6) => HE.out 6 6 w6 (bstep hS5.low hb))
                  have HS5 := hideO hS5
                  clear hS5 HB HE
                  dsimp only
                  go_wp2_with fail
                  refine HE6.mono ?_
                  rintro e w6 ⟨rfl, hb6⟩
                  have HE7' := HE7.out w6 hb6
                  have HS6 := hideO (HS5.out.below hb6)
                  clear hb6 HE6 HE7 HS5
                  rw [show ((6 : Int) == 6) = true from rfl] at HE7' ⊢
                  dsimp only
                  go_wp2_with fail
                  refine HE7'.mono ?_
                  rintro e w7 ⟨rfl, hb7⟩
                  have HCR := js_crash (HS6.out.below hb7) HL.out (by omega) k
                  clear hb7 HE7' HS6
                  dsimp only
                  go_wp2_with fail
                  refine HCR.mono ?_
                  rintro e w8 ⟨rfl, hb8, O8, J8, hJ8, hg8, he8, hO8⟩
                  have HSY := JSync_any w8 j O8 J8 hJ8 hg8
                  rw [he8, show errV 0 = Value.nilIface from rfl] at HSY
                  have HB8 := hideO hb8
                  clear hJ8 hg8 he8 hb8 HCR
                  dsimp only
                  go_wp2_with fail
                  refine HSY.mono ?_
                  rintro e w9 ⟨rfl, O9, _, hof, _⟩
                  have F := hideO (show StopsPost w (.returned (.bool true)) w9 from ⟨rfl, HB8.out.trans (hof.below (fun i hi => hO8 i hi) HB8.out.size)⟩)
                  clear hof HSY HB8
                  dsimp only
                  go_wp2_with fail
                  go_ret
                  exact F.out
end Go.Proofs.YtnphjdckdkjopaaGreatDoor
