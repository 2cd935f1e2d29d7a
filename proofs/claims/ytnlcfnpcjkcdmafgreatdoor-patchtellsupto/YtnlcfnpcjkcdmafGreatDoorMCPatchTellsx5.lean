import Derived.Test.YtnlcfnpcjkcdmafGreatDoorMCPatchTellsx4
import Derived.Test.YtnlcfnpcjkcdmafGreatDoorMA0x5
import Derived.Test.YtnlcfnpcjkcdmafGreatDoorMCPatchTellsx0
import Derived.Deep.DeepCutAuto

/- errors.As at a target of type api.Errno, of an error that is one: Go's own text, walked; plain.Told. -/
namespace Go.Proofs.YtnlcfnpcjkcdmafGreatDoor
open Go Go.RowKit Go.Extern.Stop Go.Stop Go.Extern

set_option maxHeartbeats 4000000 in
set_option maxRecDepth 100000 in
theorem as_hit (n : Int) (t : Addr) (old : Value) (w : World) (hg : w.cell? ⟨0, 0, none⟩ = some (.iface 223 (.agg #[.pointer (some ⟨2, 25, none⟩)]))) (ht0 : w.cell? t = some old) (hf0 : w.frozen? t = false) :
    Calls Tryz.prog 80 #[.iface 91 (.int .i64 n), .iface 145 (.pointer (some t))] w fun ev w' => ev = .returned (.bool true) ∧ w' = ((((w.alloc (.cells #[.pointer (some t)] 145)).alloc (.cells #[.pointer (some ⟨2, 145, none⟩), .pointer (some ⟨w.heap.size, 0, none⟩), .int .u64 150] 186)).alloc (.cells #[.pointer (some ⟨2, 145, none⟩), .pointer (some ⟨w.heap.size, 0, none⟩), .int .u64 150] 186)).alloc (.cells #[.int .i64 n] 91)).setCell t (.int .i64 n) := by
  have h1 := @run_callFunc_extern Tryz.prog 119 _ (fun args => ReflectliteValue.unpack (args.getD 0 (.tuple #[]))) Tryz.func119 (by kernel_rfl) (by kernel_rfl) (by kernel_rfl) (by kernel_rfl)
  have h2 := @run_callFunc_extern Tryz.prog 120 _ (ReflectliteValue.methodAny (ReflectliteValue.valueError "reflectlite.Value.Type" 0) (fun t _ _ _ => ReflectliteType.toType t)) Tryz.func120 (by kernel_rfl) (by kernel_rfl) (by kernel_rfl) (by kernel_rfl)
  have h3 := @run_callFunc_extern Tryz.prog 121 _ (ReflectliteValue.method (ReflectliteValue.valueError "reflectlite.Value.IsNil" 0) ReflectliteValue.isNil) Tryz.func121 (by kernel_rfl) (by kernel_rfl) (by kernel_rfl) (by kernel_rfl)
  have h4 := @run_callFunc_extern Tryz.prog 274 _ (ReflectliteType.abiMethod fun t => do pure (.int .u8 (← Rtype.kind t))) Tryz.func274 (by kernel_rfl) (by kernel_rfl) (by kernel_rfl) (by kernel_rfl)
  have h5 := @run_callFunc_extern Tryz.prog 285 _ (ReflectliteType.method ReflectliteType.elem) Tryz.func285 (by kernel_rfl) (by kernel_rfl) (by kernel_rfl) (by kernel_rfl)
  have h6 := @run_callFunc_extern Tryz.prog 286 _ (ReflectliteType.relation "Implements" ReflectliteType.implements_) Tryz.func286 (by kernel_rfl) (by kernel_rfl) (by kernel_rfl) (by kernel_rfl)
  have h7 := @run_callFunc_extern Tryz.prog 156 _ ReflectliteType.typeOf Tryz.func156 (by kernel_rfl) (by kernel_rfl) (by kernel_rfl) (by kernel_rfl)
  have h8 := @run_callFunc_extern Tryz.prog 283 _ (ReflectliteType.relation "AssignableTo" ReflectliteType.assignableTo) Tryz.func283 (by kernel_rfl) (by kernel_rfl) (by kernel_rfl) (by kernel_rfl)
  have h9 := @run_callFunc_extern Tryz.prog 157 _ (ReflectliteValue.method (ReflectliteValue.valueError "reflectlite.Value.Elem" 0) ReflectliteValue.elem) Tryz.func157 (by kernel_rfl) (by kernel_rfl) (by kernel_rfl) (by kernel_rfl)
  have h10 := @run_callFunc_extern Tryz.prog 158 _ ReflectliteValue.set Tryz.func158 (by kernel_rfl) (by kernel_rfl) (by kernel_rfl) (by kernel_rfl)
  have g1 := valueOfP
  have g2 := typeP
  have g3 := kindP
  have g4 := kindE
  have g5 := elemTP
  have g6 := implementsE
  have g7 := typeOfE
  have g8 := assignableE
  have g9 := valueOfE
  have m1 := methodKind
  have m2 := methodElem
  have m3 := methodImplements
  have m4 := methodAssignableTo
  have n8 := isNilP ⟨w.heap.size, 0, none⟩ t ((w.alloc (.cells #[.pointer (some t)] 145)).alloc (.cells #[.pointer (some ⟨2, 145, none⟩), .pointer (some ⟨w.heap.size, 0, none⟩), .int .u64 150] 186)) (by simp)
  have hlt : 0 < w.heap.size := by
    rcases Nat.eq_zero_or_pos w.heap.size with h0 | h
    · simp [World.cell?, h0] at hg
    · exact h
  have hg2 : ((w.alloc (.cells #[.pointer (some t)] 145)).alloc (.cells #[.pointer (some ⟨2, 145, none⟩), .pointer (some ⟨w.heap.size, 0, none⟩), .int .u64 150] 186)).cell? ⟨0, 0, none⟩ = some (.iface 223 (.agg #[.pointer (some ⟨2, 25, none⟩)])) := by
    rw [World.cell?_alloc_lt _ _ ⟨0, 0, none⟩ (by simp), World.cell?_alloc_lt _ _ ⟨0, 0, none⟩ hlt]; exact hg
  have htl : t.block < w.heap.size := by
    rcases Nat.lt_or_ge t.block w.heap.size with h | h
    · exact h
    · simp [World.cell?, Array.getElem?_eq_none h] at ht0
  have el := elemVP ⟨w.heap.size, 0, none⟩ t (((w.alloc (.cells #[.pointer (some t)] 145)).alloc (.cells #[.pointer (some ⟨2, 145, none⟩), .pointer (some ⟨w.heap.size, 0, none⟩), .int .u64 150] 186)).alloc (.cells #[.pointer (some ⟨2, 145, none⟩), .pointer (some ⟨w.heap.size, 0, none⟩), .int .u64 150] 186)) (by rw [World.cell?_alloc_lt _ _ ⟨w.heap.size, 0, none⟩ (by simp; omega)]; simp)
  have st := setE t ⟨w.heap.size + 1 + 1 + 1, 0, none⟩ n old ((((w.alloc (.cells #[.pointer (some t)] 145)).alloc (.cells #[.pointer (some ⟨2, 145, none⟩), .pointer (some ⟨w.heap.size, 0, none⟩), .int .u64 150] 186)).alloc (.cells #[.pointer (some ⟨2, 145, none⟩), .pointer (some ⟨w.heap.size, 0, none⟩), .int .u64 150] 186)).alloc (.cells #[.int .i64 n] 91))
    (by rw [World.cell?_alloc_at _ _ _ _ (by simp)]; rfl)
    (by rw [World.cell?_alloc_lt _ _ t (by simp; omega), World.cell?_alloc_lt _ _ t (by simp; omega), World.cell?_alloc_lt _ _ t (by simp; omega), World.cell?_alloc_lt _ _ t htl]; exact ht0)
    (by rw [World.frozen?_alloc_old _ _ t (by simp; omega), World.frozen?_alloc_old _ _ t (by simp; omega), World.frozen?_alloc_old _ _ t (by simp; omega), World.frozen?_alloc_old _ _ t (Nat.ne_of_lt htl)]; exact hf0)
  go_enter Tryz.func80, Tryz.ntmps80
  go_wp2
  refine wp_loop_rounds 1 ?_
  rw [rounds_succ]
  go_wp2
  go_ret
  exact ⟨rfl, rfl⟩

/-- the error type's variable, as the program lays it -/
def errVar (w : World) : Prop := w.cell? ⟨0, 0, none⟩ = some (.iface 223 (.agg #[.pointer (some ⟨2, 25, none⟩)]))

theorem errVar.below {w w' : World} (h : errVar w) (hb : Below w.heap.size w w') : errVar w' := by
  unfold errVar at *
  have hlt : 0 < w.heap.size := by
    rcases Nat.eq_zero_or_pos w.heap.size with h0 | h'
    · simp [World.cell?, h0] at h
    · exact h'
  rw [hb.cell (p := ⟨0, 0, none⟩) hlt]; exact h

theorem Told_nil (w : World) : Calls Tryz.prog 43 #[.nilIface] w fun e w' => e = .returned (.int .i64 0) ∧ Below w.heap.size w w' := by
  go_enter Tryz.func43, Tryz.ntmps43
  go_wp2
  go_ret
  exact ⟨rfl, Below.refl _ _⟩

set_option maxHeartbeats 1000000 in
theorem Told_hit (n : Int) (w : World) (hg : errVar w) : Calls Tryz.prog 43 #[.iface 91 (.int .i64 n)] w fun e w' => e = .returned (.int .i64 n) ∧ Below w.heap.size w w' := by
  have hgA := hg.below (balloc w (.cells #[.int .i64 0] 91))
  unfold errVar at hgA
  have htA : (w.alloc (.cells #[.int .i64 0] 91)).cell? ⟨w.heap.size, 0, none⟩ = some (.int .i64 0) := by simp
  have hfA : (w.alloc (.cells #[.int .i64 0] 91)).frozen? ⟨w.heap.size, 0, none⟩ = false := by simp
  go_enter Tryz.func43, Tryz.ntmps43
  go_wp2_with fail
  refine (as_hit n _ (.int .i64 0) _ hgA htA hfA).mono ?_
  rintro e w' ⟨rfl, rfl⟩
  go_wp2_with fail
  go_ret
  exact ⟨rfl, bstep (bstep (bstep (bstep (balloc _ _) (balloc _ _)) (balloc _ _)) (balloc _ _)) (balloc _ _)⟩

/-- stratasame.Error: is it the error of that number? -/
theorem SameError_any (m e : Int) (w : World) (hg : errVar w) : Calls Tryz.prog 9 #[errV m, .int .i64 e] w fun r w' => r = .returned (.bool (m == e)) ∧ Below w.heap.size w w' := by
  by_cases h : m = 0
  · subst h
    rw [show errV 0 = .nilIface from rfl]
    go_enter Tryz.func9, Tryz.ntmps9
    go_wp2_with (go_at_call 43; refine (Told_nil _).mono ?_; rintro e w1 ⟨rfl, hb⟩)
    go_ret
    exact ⟨rfl, hb⟩
  · rw [show errV m = .iface 91 (.int .i64 m) from if_neg h]
    go_enter Tryz.func9, Tryz.ntmps9
    go_wp2_with (go_at_call 43; refine (Told_hit m _ hg).mono ?_; rintro e w1 ⟨rfl, hb⟩)
    go_ret
    exact ⟨rfl, hb⟩
end Go.Proofs.YtnlcfnpcjkcdmafGreatDoor

/- stratalaw2.PatchTells: the walk, over a patch's face. -/
namespace Go.Proofs.YtnlcfnpcjkcdmafGreatDoor
open Go Go.RowKit Go.Proofs
set_option synthInstance.maxSize 1000

attribute [local go_sem] eql_errV neq_errV guard_errV

theorem sameErrP (m : Int) (w : World) (hg : errVar w) : Calls Tryz.prog 9 #[errV m, .int .i64 m] w fun r w' => r = .returned (.bool true) ∧ RowKit.Below w.heap.size w w' := by
  have := SameError_any m m w hg
  rw [show (m == m) = true by simp] at this
  exact this
theorem readF_zero (f : Nat) : ∀ (s : List UInt8) (l : LyP) (n : Nat), s.length ≤ f → (readF f s l n).1 = 0 → (readF f s l n).2.1 = 0 := by
  induction f with
  | zero => intro s l n _ _; rfl
  | succ f ih =>
    intro s l n hl h0
    cases s with
    | nil => rfl
    | cons c r =>
      rw [readF_cons] at h0 ⊢
      cases hc : cutN (c :: r) with
      | none => rw [hc] at h0; cases h0
      | some p =>
        obtain ⟨u, t⟩ := p
        rw [hc] at h0
        dsimp only at h0 ⊢
        split at h0
        · rename_i hb; exact absurd h0 hb
        · rename_i hb
          rw [if_neg hb]
          have hs := (cutN_some hc).1
          have hl2 : (c :: r).length = u.length + 1 + t.length := by rw [hs]; simp; omega
          exact ih t _ _ (by simp only [List.length_cons] at hl hl2; omega) h0
theorem parse_zero {s : List UInt8} (h : (parseP s).1 = 0) : (parseP s).2.1 = 0 := readF_zero s.length s _ _ (Nat.le_refl _) h
theorem readF_none (f : Nat) : ∀ (s : List UInt8) (l : LyP) (n : Nat), (readF f s l n).1 ≠ 0 → (readF f s l n).2.2 = ([], []) := by
  induction f with
  | zero => intro s l n h; exact absurd rfl h
  | succ f ih =>
    intro s l n h
    cases s with
    | nil => exact absurd rfl h
    | cons c r =>
      rw [readF_cons] at h ⊢
      cases hc : cutN (c :: r) with
      | none => rfl
      | some p =>
        obtain ⟨u, t⟩ := p
        rw [hc] at h
        dsimp only at h ⊢
        split
        · rfl
        · rename_i hb
          rw [if_neg hb] at h
          exact ih t _ _ h
theorem parse_none {s : List UInt8} (h : (parseP s).1 ≠ 0) : (parseP s).2.2 = ([], []) := readF_none s.length s _ _ h
theorem parse_short (s : List UInt8) : (parseP s).2.2.1.length ≤ 200 ∧ (parseP s).2.2.2.length ≤ 200 := by
  by_cases h : (parseP s).1 = 0
  · have := (parse_ok h).1
    exact ⟨this.add.1, this.take.1⟩
  · have : (parseP s).2.2 = ([], []) := parse_none h
    rw [this]
    exact ⟨Nat.zero_le _, Nat.zero_le _⟩
theorem countN_next {s : List UInt8} {i : Nat} (h : i < s.length) : countN (s.take (i + 1)) = countN (s.take i) + if s[i] = 10 then 1 else 0 := by
  unfold countN
  rw [List.take_succ_eq_append_getElem h, List.filter_append, List.length_append]
  congr 1
  by_cases e : s[i] = 10 <;> simp [e]
theorem countN_le (s : List UInt8) : countN s ≤ s.length := List.length_filter_le _ _
theorem apply_same {m : List Tr} {s : List UInt8} {t u : List Tr} (ht : ApplyP m s t) (hu : ApplyP m s u) : t = u := by
  by_cases h : applyE m s = 0
  · obtain ⟨r1, m1⟩ := ht.1 h
    obtain ⟨r2, m2⟩ := hu.1 h
    exact rising_unique t u r1 r2 fun x => (m1 x).trans (m2 x).symm
  · rw [ht.2 h, hu.2 h]
theorem applyE_bad {m : List Tr} {s : List UInt8} (h : (parseP s).1 ≠ 0) : applyE m s = (parseP s).1 ∧ applyI m s = (parseP s).2.1 := by
  unfold applyE applyI
  rw [if_pos h, if_pos h]
  exact ⟨rfl, rfl⟩
theorem applyE_good {m : List Tr} {s : List UInt8} (h : (parseP s).1 = 0) : applyE m s = applyN m (parseP s).2.2.1 (parseP s).2.2.2 ∧ applyI m s = if applyN m (parseP s).2.2.1 (parseP s).2.2.2 ≠ 0 then countN s else 0 := by
  unfold applyE applyI
  rw [if_neg (fun h' => h' h), if_neg (fun h' => h' h)]
  exact ⟨rfl, rfl⟩
theorem applyN_set {m a b : List Tr} (h : sortedN m ≠ 0) : applyN m a b = sortedN m := by unfold applyN; exact orN_neg h
theorem applyA_len {s a b m : List Tr} (h : ApplyAns s a b m) : m.length ≤ 200 := by
  by_cases e0 : applyN s a b = 0
  · have h1 := h.1 e0
    have e := (orN_zero.1 (orN_zero.1 (orN_zero.1 (orN_zero.1 e0).2).2).2).2
    obtain ⟨g1, g2⟩ := orN_zero.1 e
    obtain ⟨s1, _⟩ := bothN_zero.1 g1
    unfold joinN at g2
    by_cases hb : bothN (lessL s b) a = 0
    · rw [if_pos hb] at g2
      by_cases hl : (lessL s b).length + (lessL a (lessL s b)).length ≤ 200
      · rw [h1.len (lessSet s1).2.2 (bothN_zero.1 hb).2.2.2]; exact hl
      · rw [if_neg hl] at g2; exact absurd g2 (by decide)
    · rw [if_neg hb] at g2; exact absurd g2 hb
  · rw [h.2 e0]; simp
theorem applyP_len {m : List Tr} {s : List UInt8} {t : List Tr} (h : ApplyP m s t) : t.length ≤ 200 := by
  by_cases hE : (parseP s).1 = 0
  · have e1 := (applyE_good (m := m) hE).1
    exact applyA_len (s := m) (a := (parseP s).2.2.1) (b := (parseP s).2.2.2) ⟨fun h0 => h.1 (e1.trans h0), fun h0 => h.2 (fun h' => h0 (e1.symm.trans h'))⟩
  · have e1 := (applyE_bad (m := m) hE).1
    rw [h.2 (fun h' => hE (e1.symm.trans h'))]; simp

set_option maxHeartbeats 32000000 in
set_option maxRecDepth 1000000 in
theorem patchTells_any (F : PFace) (a1 a2 ad : Option Addr) (c1 c2 ca : Nat) (l : LyP) (s : List UInt8) (m : List Tr) (w : World) (hev : errVar w) (hl : LayIn w a1 a2 l) (hs : s.length ≤ 100000000) (hlim : s.length ≤ F.lim) (hm : SlT w ad m) (fm : ∀ x ∈ m, fitTr x) (nm : m.length ≤ maxLen) :
    Calls Tryz.prog 5 #[.agg #[.slice a1 l.1.length c1, .slice a2 l.2.length c2], .string ⟨s.toArray⟩, .slice ad m.length ca] w fun e w' => e = .returned (.bool true) ∧ RowKit.Below w.heap.size w w' := by
  obtain ⟨B0, hB0⟩ : ∃ B0, B0 = w.alloc (.cells #[.slice a1 l.1.length c1, .slice a2 l.2.length c2] 70) := ⟨_, rfl⟩
  have hw0 : RowKit.Below w.heap.size w B0 := by rw [hB0]; exact balloc _ _
  have HA : Hid (∀ W, RowKit.Below B0.heap.size B0 W → SlT W a1 l.1 ∧ SlT W a2 l.2 ∧ SlT W ad m ∧ errVar W ∧ RowKit.Below w.heap.size w W) := fun W h => ⟨hl.add.below (bstep hw0 h), hl.take.below (bstep hw0 h), hm.below (bstep hw0 h), hev.below (bstep hw0 h), bstep hw0 h⟩
  have HX : Hid (∀ W, RowKit.Below B0.heap.size B0 W → W.cell? ⟨w.heap.size, 0, none⟩ = some (.slice a1 l.1.length c1) ∧ W.cell? ⟨w.heap.size, 1, none⟩ = some (.slice a2 l.2.length c2) ∧ w.heap.size < W.heap.size) := by
    intro W h
    have hb0 : B0.cell? ⟨w.heap.size, 0, none⟩ = some (.slice a1 l.1.length c1) := by rw [hB0]; go_simp
    have hb1 : B0.cell? ⟨w.heap.size, 1, none⟩ = some (.slice a2 l.2.length c2) := by rw [hB0]; go_simp
    have q0 := (h.cell (World.block_lt_of_cell? _ _ hb0)).trans hb0
    exact ⟨q0, (h.cell (World.block_lt_of_cell? _ _ hb1)).trans hb1, World.block_lt_of_cell? _ _ q0⟩
  have nl1 : l.1.length ≤ 9223372036854775807 := by have := hl.lenA; unfold maxLen at this; omega
  have nl2 : l.2.length ≤ 9223372036854775807 := by have := hl.lenT; unfold maxLen at this; omega
  have nm' : m.length ≤ 9223372036854775807 := by unfold maxLen at nm; omega
  have C1 := fun W h1 h2 => RLayer_any a1 a2 c1 c2 l.1 l.2 W h1 h2 hl.fitA hl.fitT nl1 nl2
  have C2 := hideO (fun (h0 : apartN l.1 l.2 = 0) W h1 h2 => RPatchText_any a1 a2 c1 c2 l W h1 h2 (apart_good.1 h0))
  have C3 := fun W h1 h2 => F.print W a1 a2 c1 c2 l ⟨h1, h2, hl.fitA, hl.fitT, hl.lenA, hl.lenT⟩
  have C4 := fun W => RReadPatch_any s W hs
  have C5 := fun W => F.parse W s hlim
  have C6 := fun W h1 => RSet_any ad ca m W h1 fm nm'
  have C7 := hideO (fun (hE : (parseP s).1 = 0) (hm0 : sortedN m = 0) W x1 x2 k1 k2 h1 h2 h3 => RApply_any ad x1 x2 ca k1 k2 m (parseP s).2.2.1 (parseP s).2.2.2 W h1 h2 h3 (sortedN_set.1 hm0) (parse_ok hE).1.add (parse_ok hE).1.take (apart_good.2 (parse_ok hE).1))
  have C8 := fun W h1 => F.apply W ad ca m s h1 fm nm hlim
  have hpr : Hid (printP l = if apartN l.1 l.2 = 0 then patchB l else []) := rfl
  obtain ⟨hp1, hp2⟩ := parse_short s
  clear hev hl hm fm nm hw0 nl1 nl2 nm' hlim
  go_enter Tryz.func5, Tryz.ntmps5
  go_wp2_with fail
  rw [← hB0]
  have hR := RowKit.Below.refl B0.heap.size B0
  refine (C1 _ (HA.out _ hR).1 (HA.out _ hR).2.1).mono ?_
  rintro e w1 ⟨rfl, hB1⟩
  dsimp only
  clear hR C1 hB0
  go_upto_if 28 with fail
  go_cut [8] from 29 to 30 (fun v W => v = .string ⟨(printP l).toArray⟩ ∧ RowKit.Below B0.heap.size B0 W)
  case first =>
    by_cases h0 : apartN l.1 l.2 = 0
    · have h0' : (apartN l.1 l.2 == 0) = true := by simpa using h0
      have e0 : printP l = patchB l := by rw [hpr.out, if_pos h0]
      have E0 := hideO e0
      have CT := C2.out h0
      obtain ⟨x0, x1, hz⟩ := HX.out _ hB1
      clear h0 e0
      generalize apartN l.1 l.2 = N at *
      go_wp2_with fail
      refine (CT _ (HA.out _ hB1).1 (HA.out _ hB1).2.1).mono ?_
      rintro e w2 ⟨rfl, hb2⟩
      dsimp only
      go_wp2_with fail
      go_meet
      exact ⟨by rw [E0.out], bstep hB1 hb2⟩
    · have h0' : (apartN l.1 l.2 == 0) = false := by simpa using h0
      have E0 : Hid (printP l = []) := by show _ = _; rw [hpr.out, if_neg h0]
      clear h0
      generalize apartN l.1 l.2 = N at *
      go_wp2_with fail
      go_meet
      exact ⟨by rw [E0.out], hB1⟩
  case rest =>
    obtain ⟨rfl, hB2⟩ := hcut
    obtain ⟨w2, rfl, hB2⟩ : ∃ W, W = _ ∧ RowKit.Below B0.heap.size B0 W := ⟨_, rfl, hB2⟩
    obtain ⟨x0, x1, hz⟩ := HX.out _ hB2
    clear hB1 C2 hpr
    go_wp2_with fail
    refine (C3 _ (HA.out _ hB2).1 (HA.out _ hB2).2.1).mono ?_
    rintro e w3 ⟨rfl, hb3⟩
    dsimp only
    have hB3 := bstep hB2 hb3
    clear hb3 hB2 x0 x1 hz C3
    go_wp2_with fail
    refine (sameErrP _ _ (HA.out _ hB3).2.2.2.1).mono ?_
    rintro e w4 ⟨rfl, hb4⟩
    dsimp only
    have hB4 := bstep hB3 hb4
    clear hb4 hB3
    generalize printP l = pr at *
    generalize apartN l.1 l.2 = N at *
    go_wp2_with fail
    refine (C4 _).mono ?_
    rintro e w5 ⟨b1, k1, b2, k2, rfl, s1, s2, hb5⟩
    dsimp only
    have hB5 := bstep hB4 hb5
    clear hb5 hB4 C4
    go_wp2_with fail
    refine (C5 _).mono ?_
    rintro e w6 ⟨d1, j1, d2, j2, rfl, t1, t2, hb6⟩
    dsimp only
    have hB6 := bstep (bstep hB5 (balloc _ _)) hb6
    have S6 := hideO (And.intro (s1.below (bstep (balloc _ _) hb6)) (s2.below (bstep (balloc _ _) hb6)))
    have y0 : w6.cell? ⟨w5.heap.size, 0, none⟩ = some (.slice b1 (parseP s).2.2.1.length k1) := by rw [(bcell hb6).1 _ _ (by simp)]; go_simp
    have y1 : w6.cell? ⟨w5.heap.size, 1, none⟩ = some (.slice b2 (parseP s).2.2.2.length k2) := by rw [(bcell hb6).1 _ _ (by simp)]; go_simp
    have T6 := hideO (And.intro t1 t2)
    generalize w5.heap.size = bx at *
    clear hb6 hB5 s1 s2 t1 t2 C5
    obtain ⟨B1, hB1e⟩ : ∃ B1, B1 = w6.alloc (.cells #[.slice d1 (parseP s).2.2.1.length j1, .slice d2 (parseP s).2.2.2.length j2] 70) := ⟨_, rfl⟩
    have hba : RowKit.Below w6.heap.size w6 B1 := by rw [hB1e]; exact balloc _ _
    have z0 : B1.cell? ⟨w6.heap.size, 0, none⟩ = some (.slice d1 (parseP s).2.2.1.length j1) := by rw [hB1e]; go_simp
    have z1 : B1.cell? ⟨w6.heap.size, 1, none⟩ = some (.slice d2 (parseP s).2.2.2.length j2) := by rw [hB1e]; go_simp
    have HY : Hid (∀ W, RowKit.Below B1.heap.size B1 W → RowKit.Below B0.heap.size B0 W ∧ (SlT W b1 (parseP s).2.2.1 ∧ SlT W b2 (parseP s).2.2.2) ∧ (SlT W d1 (parseP s).2.2.1 ∧ SlT W d2 (parseP s).2.2.2)) := fun W h => ⟨bstep (bstep hB6 hba) h, ⟨S6.out.1.below (bstep hba h), S6.out.2.below (bstep hba h)⟩, ⟨T6.out.1.below (bstep hba h), T6.out.2.below (bstep hba h)⟩⟩
    have HZ : Hid (∀ W, RowKit.Below B1.heap.size B1 W → W.cell? ⟨bx, 0, none⟩ = some (.slice b1 (parseP s).2.2.1.length k1) ∧ W.cell? ⟨bx, 1, none⟩ = some (.slice b2 (parseP s).2.2.2.length k2) ∧ W.cell? ⟨w6.heap.size, 0, none⟩ = some (.slice d1 (parseP s).2.2.1.length j1) ∧ W.cell? ⟨w6.heap.size, 1, none⟩ = some (.slice d2 (parseP s).2.2.2.length j2) ∧ bx < W.heap.size ∧ w6.heap.size < W.heap.size) := fun W h => by
      have q0 := ((bstep hba h).cell (World.block_lt_of_cell? _ _ y0)).trans y0
      have q2 := (h.cell (World.block_lt_of_cell? _ _ z0)).trans z0
      exact ⟨q0, ((bstep hba h).cell (World.block_lt_of_cell? _ _ y1)).trans y1, q2, (h.cell (World.block_lt_of_cell? _ _ z1)).trans z1, World.block_lt_of_cell? _ _ q0, World.block_lt_of_cell? _ _ q2⟩
    clear y0 y1 z0 z1 hba hB6 S6 T6
    have hE0 : Hid ((parseP s).1 ≠ 0 → applyE m s = (parseP s).1 ∧ applyI m s = (parseP s).2.1) := fun h => applyE_bad h
    have hE1 : Hid ((parseP s).1 = 0 → (parseP s).2.1 = 0 ∧ applyE m s = applyN m (parseP s).2.2.1 (parseP s).2.2.2 ∧ (applyN m (parseP s).2.2.1 (parseP s).2.2.2 ≠ 0 → applyI m s = countN s) ∧ (applyN m (parseP s).2.2.1 (parseP s).2.2.2 = 0 → applyI m s = 0)) := fun h => by
      obtain ⟨q1, q2⟩ := applyE_good (m := m) h
      exact ⟨parse_zero h, q1, fun h1 => by rw [q2, if_pos h1], fun h1 => by rw [q2, if_neg (fun h' => h' h1)]⟩
    have hAP : Hid (∀ u, ((parseP s).1 = 0 → ApplyAns m (parseP s).2.2.1 (parseP s).2.2.2 u) → ((parseP s).1 ≠ 0 → u = []) → ApplyP m s u) := fun u q1 q2 => by
      by_cases h : (parseP s).1 = 0
      · obtain ⟨e1, _⟩ := applyE_good (m := m) h
        obtain ⟨r1, r2⟩ := q1 h
        exact ⟨fun h0 => r1 (e1 ▸ h0), fun h0 => r2 (e1 ▸ h0)⟩
      · obtain ⟨e1, _⟩ := applyE_bad (m := m) h
        exact ⟨fun h0 => absurd (e1 ▸ h0) h, fun _ => q2 h⟩
    have C9 := fun W (h1 : SlT W d1 (parseP s).2.2.1) (h2 : SlT W d2 (parseP s).2.2.2) (h3 : SlT W b1 (parseP s).2.2.1) (h4 : SlT W b2 (parseP s).2.2.2) => SameLayer_any d1 d2 b1 b2 j1 j2 k1 k2 (parseP s).2.2.1 (parseP s).2.2.2 (parseP s).2.2.1 (parseP s).2.2.2 W h1 h2 h3 h4 (by omega) (by omega) (by omega) (by omega)
    rw [show (decide ((parseP s).2.2.1 = (parseP s).2.2.1) && decide ((parseP s).2.2.2 = (parseP s).2.2.2)) = true by simp] at C9
    generalize (parseP s).1 = E at *
    generalize (parseP s).2.1 = n at *
    generalize (parseP s).2.2.1 = X1 at *
    generalize (parseP s).2.2.2 = X2 at *
    have hBB := RowKit.Below.refl B1.heap.size B1
    go_wp2_with fail
    rw [← hB1e]
    generalize w6.heap.size = bz at *
    refine (sameErrP _ _ (HA.out _ (HY.out _ hBB).1).2.2.2.1).mono ?_
    rintro e w7 ⟨rfl, hB7⟩
    dsimp only
    obtain ⟨y0, y1, z0, z1, hy, hz⟩ := HZ.out _ hB7
    clear hB1e hBB
    go_wp2_with fail
    refine (C9 _ (HY.out _ hB7).2.2.1 (HY.out _ hB7).2.2.2 (HY.out _ hB7).2.1.1 (HY.out _ hB7).2.1.2).mono ?_
    rintro e w8 ⟨rfl, hb8⟩
    dsimp only
    have hB8 := bstep hB7 hb8
    clear y0 y1 z0 z1 hy hz hb8 hB7 C9
    go_upto_if 59 with fail
    go_cut [7, 18, 19, 20] from 60 to 83 (fun ve vo vk _ W => ∃ (u : List Tr) (au : Option Addr) (cu : Nat), ve = .int .i64 (applyE m s) ∧ vo = .slice au u.length cu ∧ vk = .int .i64 ((applyI m s : Nat) : Int) ∧ Hid (ApplyP m s u) ∧ Hid (SlT W au u) ∧ Hid (RowKit.Below B1.heap.size B1 W))
    case first =>
      by_cases hE : E = 0
      · obtain ⟨hn0, e1, e2, e3⟩ := hE1.out hE
        have hAP1 : Hid (∀ u, ApplyAns m X1 X2 u → ApplyP m s u) := fun u h => hAP.out u (fun _ => h) (fun h' => absurd hE h')
        have CA := C7.out hE
        clear C7 hAP hE0 hE1
        subst hE hn0
        have H1 := hideO e1
        have H2 := hideO e2
        have H3 := hideO e3
        clear e1 e2 e3
        generalize applyE m s = AE at *
        generalize applyI m s = AI at *
        obtain ⟨y0, y1, _, _, hy, _⟩ := HZ.out _ hB8
        go_wp2_with fail
        refine (C6 _ (HA.out _ (HY.out _ hB8).1).2.2.1).mono ?_
        rintro e w9 ⟨rfl, hb9⟩
        dsimp only
        have hB9 := bstep hB8 hb9
        clear y0 y1 hy hb9 hB8 C6
        have HS0 : Hid (sortedN m ≠ 0 → applyN m X1 X2 = sortedN m) := fun h => applyN_set h
        obtain ⟨y0, y1, _, _, hy, _⟩ := HZ.out _ hB9
        generalize sortedN m = S at *
        go_upto_if 63 with fail
        go_cut [7, 18] from 64 to 69 (fun ve vo W => ∃ (u : List Tr) (au : Option Addr) (cu : Nat), ve = .int .i64 (applyN m X1 X2) ∧ vo = .slice au u.length cu ∧ Hid (ApplyAns m X1 X2 u) ∧ Hid (SlT W au u) ∧ Hid (RowKit.Below B1.heap.size B1 W))
        case first =>
          by_cases hS : S = 0
          · have CB := CA hS
            clear CA HS0
            subst hS
            go_wp2_with fail
            refine (CB _ _ _ _ _ (HA.out _ (HY.out _ hB9).1).2.2.1 (HY.out _ hB9).2.1.1 (HY.out _ hB9).2.1.2).mono ?_
            rintro e w10 ⟨hb10, u, au, cu, rfl, hsu, hu⟩
            dsimp only
            go_wp2_with fail
            go_meet
            exact ⟨u, au, cu, rfl, rfl, hu, hsu, bstep hB9 hb10⟩
          · have hS' : (S == 0) = false := by simpa using hS
            have e0 := HS0.out hS
            clear CA HS0
            go_wp2_with fail
            go_meet
            refine ⟨[], none, 0, by rw [e0], rfl, ⟨fun h => absurd (e0.symm.trans h) hS, fun _ => rfl⟩, slT_nil _ _, hB9⟩
        case rest =>
          obtain ⟨u, au, cu, rfl, rfl, hu, hsu, hB10⟩ := hcut
          have HU := hideO (hAP1.out u hu.out)
          clear hB9 y0 y1 hy hAP1 hu
          generalize applyN m X1 X2 = A at *
          by_cases hA : A = 0
          · have e3 := H3.out hA
            subst hA
            go_wp2_with fail
            go_meet
            exact ⟨u, au, cu, by rw [H1.out], rfl, by rw [e3]; rfl, HU, hsu, hB10⟩
          · have hA' : (A == 0) = false := by simpa using hA
            have e2 := H2.out hA
            go_wp2_with fail
            go_loopw [19, 20] (fun vk vi wr => ∃ i c : Nat, i ≤ s.length ∧ c ≤ i ∧ vi = .int .i64 i ∧ vk = .int .i64 c ∧ Hid (c = countN (s.take i)) ∧ Hid (SlT wr au u) ∧ Hid (RowKit.Below B1.heap.size B1 wr)) (fun _ vi wr => s.length - (intOf vi).toNat)
            case atStart => exact ⟨0, 0, Nat.zero_le _, Nat.le_refl _, rfl, rfl, rfl, hsu, hB10⟩
            case round =>
              obtain ⟨i, c, hi, hc, rfl, rfl, hcn, hsu', hB10'⟩ := hrel
              by_cases hlt : i < s.length
              · have hidx : ∀ h, (⟨s.toArray⟩ : ByteArray)[i]'h = s[i] := fun _ => rfl
                have hnx := hideO (countN_next hlt)
                by_cases h10 : s[i] = 10
                · have h10' : ((s[i]).toNat : Int) = 10 := by rw [h10]; rfl
                  have hn2 : Hid (c + 1 = countN (s.take (i + 1))) := by show _ = _; rw [hnx.out, if_pos h10, hcn.out]
                  go_wp2_with fail
                  refine ⟨⟨i + 1, c + 1, by omega, by omega, by go_num, by go_num, hn2, hsu', hB10'⟩, by simp [intOf]; omega⟩
                · have h10' : ¬ ((s[i]).toNat : Int) = 10 := fun h => h10 (UInt8.toNat_inj.1 (by simpa using Int.ofNat.inj h))
                  have hn2 : Hid (c = countN (s.take (i + 1))) := by show _ = _; rw [hnx.out, if_neg h10, hcn.out]; rfl
                  go_wp2_with fail
                  refine ⟨⟨i + 1, c, by omega, by omega, by go_num, rfl, hn2, hsu', hB10'⟩, by simp [intOf]; omega⟩
              · obtain rfl : i = s.length := by omega
                have hcc : Hid (c = countN s) := by show _ = _; rw [hcn.out, List.take_length]
                go_wp2_with fail
                go_meet
                exact ⟨u, au, cu, by rw [H1.out], rfl, by rw [e2, hcc.out], HU, hsu', hB10'⟩
      · obtain ⟨e1, e2⟩ := hE0.out hE
        have HU := hideO (hAP.out [] (fun h => absurd h hE) (fun _ => rfl))
        have hE' : (E == 0) = false := by simpa using hE
        clear C7 hAP hE0 hE1
        go_wp2_with fail
        go_meet
        exact ⟨[], none, 0, by rw [e1], rfl, by rw [e2], HU, slT_nil _ _, hB8⟩
    case rest =>
      obtain ⟨u, au, cu, rfl, rfl, rfl, hu, hsu, hB11⟩ := hcut
      have hB11' := hB11.out
      clear hB8 C6 C7 hE0 hE1 hAP
      go_wp2_with fail
      refine (C8 _ (HA.out _ (HY.out _ hB11').1).2.2.1).mono ?_
      rintro e w12 ⟨t, a, c, rfl, ht, hst, hb12⟩
      dsimp only
      obtain rfl : t = u := apply_same ht hu.out
      have hl200 := applyP_len ht
      have hsu' := hsu.out.below hb12
      have hB12 := bstep hB11' hb12
      clear C8 hu ht hsu hb12 hB11' hB11
      generalize applyE m s = AE at *
      generalize applyI m s = AI at *
      go_wp2_with fail
      refine (sameErrP _ _ (HA.out _ (HY.out _ hB12).1).2.2.2.1).mono ?_
      rintro e w13 ⟨rfl, hb13⟩
      dsimp only
      have hB13 := bstep hB12 hb13
      have C10 := SameTriples_any a au c cu t t w13 (hst.below hb13) (hsu'.below hb13) (by omega) (by omega)
      rw [show decide (t = t) = true by simp] at C10
      clear hb13 hst hsu' hB12 hl200
      go_wp2_with fail
      refine C10.mono ?_
      rintro e w14 ⟨rfl, hb14⟩
      dsimp only
      have hend := (HA.out _ (HY.out _ (bstep hB13 hb14)).1).2.2.2.2
      clear C10 HA HY HX HZ hb14 hB13
      go_wp2_with fail
      go_ret
      exact ⟨rfl, hend⟩
end Go.Proofs.YtnlcfnpcjkcdmafGreatDoor
