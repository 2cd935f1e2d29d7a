import Derived.Test.YtbacenhgedopjaaGreatDoorMA0x4
import Derived.Test.YtbacenhgedopjaaGreatDoorMA0x2
import Derived.Test.YtbacenhgedopjaaGreatDoorMA0x5
import Derived.Deep.Draws
import Derived.RegionTactic
import Derived.Deep.DeepCutAuto
import Derived.Test.YtbacenhgedopjaaGreatDoorMA0x0
import Derived.LaidEql
import Derived.Stop.Asserts
import Derived.RowKitTokens
import Derived.Test.YtbacenhgedopjaaGreatDoorMCSolveTellsx3
import Derived.Test.YtbacenhgedopjaaGreatDoorMA0x6
import Derived.Test.YtbacenhgedopjaaGreatDoorMA0x11
import Derived.Laws.StructEq

/- stratasame.Terms and stratasame.Answers of what is the same. -/
namespace Go.Proofs.YtbacenhgedopjaaGreatDoor
open Go Go.RowKit Go.Proofs Go.Maps
set_option synthInstance.maxSize 1000

theorem neqTmV (x : Tm) (w : World) : (binOp .neq 28 (.agg #[.int .i64 x.1, .string ⟨x.2.1.toArray⟩, .string ⟨x.2.2.toArray⟩]) (.agg #[.int .i64 x.1, .string ⟨x.2.1.toArray⟩, .string ⟨x.2.2.toArray⟩])).run Tryz.prog w = .ok (.bool false) w := by
  have h := equalTerm x.1 x.2.1 x.2.2 x.1 x.2.1 x.2.2 w
  rw [show eqTB x.1 x.2.1 x.2.2 x.1 x.2.1 x.2.2 = true by simp [eqTB]] at h
  rw [run_neq_struct, h]; rfl
attribute [local go_sem ↓] neqTmV

set_option maxHeartbeats 2000000 in
set_option maxRecDepth 100000 in
theorem SameTermsQ_true (ad bd : Option Addr) (ca cb : Nat) (l : List Tm) (w : World) (hl : SlQ w ad l) (hm : SlQ w bd l) (h200 : l.length ≤ 9223372036854775807) :
    Calls Tryz.prog 33 #[.slice ad l.length ca, .slice bd l.length cb] w fun e w' => e = .returned (.bool true) ∧ RowKit.Below w.heap.size w w' := by
  have Hl := hideQ hl
  have Hm := hideQ hm
  clear hl hm
  have hd : ((l.length : Int) != (l.length : Int)) = false := by simp
  go_enter Tryz.func33, Tryz.ntmps33
  go_wp2_with fail
  go_loopw [5] (fun i wr => ∃ (k q : Nat), k ≤ l.length ∧ i = .int .i64 k ∧ wr = w.drewN q) (fun i wr => l.length - (intOf i).toNat)
  case atStart => exact ⟨0, 0, by omega, rfl, rfl⟩
  case round =>
    obtain ⟨k, q, hk, rfl, rfl⟩ := hrel
    by_cases hlt : k < l.length
    · obtain ⟨b, o, rfl, e0, e1, e2⟩ := Hl.out.at k hlt
      obtain ⟨b', o', rfl, f0, f1, f2⟩ := Hm.out.at k hlt
      have i0 : (0 : Int) ≤ (k : Int) := by omega
      have i1 : (k : Int) < (l.length : Int) := by omega
      go_wp2_with fail
      go_region
      go_wp2
      exact ⟨⟨k + 1, q + 1, by omega, by go_num, rfl⟩, by simp [intOf]; omega⟩
    · go_wp2
      go_ret
      exact ⟨rfl, ⟨rfl, rfl, rfl, Nat.le_refl _, fun _ _ => rfl⟩⟩
set_option maxHeartbeats 2000000 in
set_option maxRecDepth 100000 in
theorem SameAnswers_true (ad bd : Option Addr) (ca cb : Nat) (L : List (List Tm)) (w : World) (hl : SlR w ad L) (hm : SlR w bd L) (h200 : L.length ≤ 9223372036854775807) (hr : ∀ r ∈ L, r.length ≤ 9223372036854775807) :
    Calls Tryz.prog 10 #[.slice ad L.length ca, .slice bd L.length cb] w fun e w' => e = .returned (.bool true) ∧ RowKit.Below w.heap.size w w' := by
  have Hl := hideQ hl
  have Hm := hideQ hm
  have Hr := hideQ hr
  clear hl hm hr
  have hd : ((L.length : Int) != (L.length : Int)) = false := by simp
  go_enter Tryz.func10, Tryz.ntmps10
  go_wp2_with fail
  go_loopw [5, 6] (fun i _ wr => ∃ (k : Nat), k ≤ L.length ∧ i = .int .i64 k ∧ RowKit.Below w.heap.size w wr) (fun i _ wr => L.length - (intOf i).toNat)
  case atStart => exact ⟨0, by omega, rfl, RowKit.Below.refl _ _⟩
  case round =>
    obtain ⟨k, hk, rfl, hbr⟩ := hrel
    by_cases hlt : k < L.length
    · obtain ⟨b, o, rd, rc, rfl, c, s⟩ := (Hl.out.below hbr).at k hlt
      obtain ⟨b', o', rd', rc', rfl, c', s'⟩ := (Hm.out.below hbr).at k hlt
      have i0 : (0 : Int) ≤ (k : Int) := by omega
      have i1 : (k : Int) < (L.length : Int) := by omega
      have HT : ∀ n : Lat wr, Calls Tryz.prog 33 #[.slice rd L[k].length rc, .slice rd' L[k].length rc'] n.val fun e w' => e = .returned (.bool true) ∧ RowKit.Below n.val.heap.size n.val w' := fun n => SameTermsQ_true rd rd' rc rc' L[k] n.val (s.below n.low) (s'.below n.low) (Hr.out _ (List.getElem_mem hlt))
      have hne := lat_some wr
      have q0 := lat_cell c
      have q1 := lat_cell c'
      clear s s' c c'
      generalize L[k].length = m at *
      go_wp2_with fail
      refine lat_region (by kernel_rfl) (by kernel_rfl) ?_
      repeat (go_big_quiet_step (fail))
      go_big_quiet_step (exact lat_call (HT _))
      repeat (go_big_quiet_step (fail))
      refine wpQuiet_nil ?_
      intro w3 hw'
      obtain ⟨nW, rfl⟩ := hw'
      have hb3 := nW.low
      generalize nW.val = w3 at *
      clear q0 q1 hne HT
      go_wp2_with fail
      go_roundw
      case rel => exact ⟨k + 1, by omega, by go_num, bstep hbr hb3⟩
      case measure => simp [intOf]; omega
    · go_wp2
      go_ret
      exact ⟨rfl, hbr⟩
end Go.Proofs.YtbacenhgedopjaaGreatDoor

/- errors.As at a target of type api.Errno, of an error that is one; plain.Told. Go's own text is walked; the facts are on the model's entries for internal/reflectlite at this program's types. -/
namespace Go.Proofs.YtbacenhgedopjaaGreatDoor
open Go Go.RowKit Go.Extern.Stop Go.Stop Go.Extern

theorem valueOfP (t : Addr) (w : World) : (ReflectliteValue.unpack (.iface 103 (.pointer (some t)))).run Tryz.prog w
    = .ok (.agg #[.pointer (some ⟨2, 103, none⟩), .pointer (some ⟨w.heap.size, 0, none⟩), .int .u64 150]) (w.alloc (.cells #[.pointer (some t)] 103)) := by kernel_rfl
theorem typeP (a : Addr) (w : World) : (ReflectliteValue.methodAny (ReflectliteValue.valueError "reflectlite.Value.Type" 0) (fun t _ _ _ => ReflectliteType.toType t) #[.agg #[.pointer (some ⟨2, 103, none⟩), .pointer (some a), .int .u64 150]]).run Tryz.prog w
    = .ok (.iface 165 (.agg #[.pointer (some ⟨2, 103, none⟩)])) w := by kernel_rfl
theorem kindP (w : World) : ((ReflectliteType.abiMethod fun t => (fun a : Nat => Value.int IntKind.u8 (a : Int)) <$> Rtype.kind t) #[.pointer (some ⟨2, 103, none⟩)]).run Tryz.prog w = .ok (.int .u8 22) w := by kernel_rfl
theorem kindE (w : World) : ((ReflectliteType.abiMethod fun t => (fun a : Nat => Value.int IntKind.u8 (a : Int)) <$> Rtype.kind t) #[.pointer (some ⟨2, 81, none⟩)]).run Tryz.prog w = .ok (.int .u8 2) w := by kernel_rfl
theorem methodKind (h : Value) (w : World) : (Go.method 329 165 (.agg #[h]) "Kind").run Tryz.prog w = .ok (159, h) w := by kernel_rfl
theorem methodElem (h : Value) (w : World) : (Go.method 329 165 (.agg #[h]) "Elem").run Tryz.prog w = .ok (169, .agg #[h]) w := by kernel_rfl
theorem methodImplements (h : Value) (w : World) : (Go.method 329 165 (.agg #[h]) "Implements").run Tryz.prog w = .ok (170, .agg #[h]) w := by kernel_rfl
theorem methodAssignableTo (h : Value) (w : World) : (Go.method 329 165 (.agg #[h]) "AssignableTo").run Tryz.prog w = .ok (167, .agg #[h]) w := by kernel_rfl
theorem rlm (z : Sem Value) (f : TypeId → Addr → Nat → Nat → Sem Value) (v : Value) :
    ReflectliteValue.method z f #[v] = (do match ← ReflectliteValue.parts v with | none => z | some (t, a, fl) => f t a fl (fl % 32)) := rfl
theorem partsP (a : Addr) (w : World) : (ReflectliteValue.parts (.agg #[.pointer (some ⟨2, 103, none⟩), .pointer (some a), .int .u64 150])).run Tryz.prog w = .ok (some (103, a, 150)) w := by kernel_rfl
theorem isNilP (a p : Addr) (W : World) (ha : W.cell? a = some (.pointer (some p))) :
    (ReflectliteValue.method (ReflectliteValue.valueError "reflectlite.Value.IsNil" 0) ReflectliteValue.isNil #[.agg #[.pointer (some ⟨2, 103, none⟩), .pointer (some a), .int .u64 150]]).run Tryz.prog W = .ok (.bool false) W := by
  rw [rlm]
  simp only [Sem.run_bind, partsP, Result.andThen]
  simp [ReflectliteValue.isNil, loadVar, isAgg, underlying, Tryz.underlying103, ha, Result.andThen]
theorem elemTP (w : World) : (ReflectliteType.method ReflectliteType.elem #[.agg #[.pointer (some ⟨2, 103, none⟩)]]).run Tryz.prog w = .ok (.iface 165 (.agg #[.pointer (some ⟨2, 81, none⟩)])) w := by kernel_rfl
theorem implementsE (w : World) : (ReflectliteType.relation "Implements" ReflectliteType.implements_ #[.agg #[.pointer (some ⟨2, 81, none⟩)], .iface 165 (.agg #[.pointer (some ⟨2, 42, none⟩)])]).run Tryz.prog w = .ok (.bool true) w := by kernel_rfl
theorem typeOfE (v : Value) (w : World) : (ReflectliteType.typeOf #[.iface 81 v]).run Tryz.prog w = .ok (.iface 165 (.agg #[.pointer (some ⟨2, 81, none⟩)])) w := by kernel_rfl
theorem assignableE (w : World) : (ReflectliteType.relation "AssignableTo" ReflectliteType.assignableTo #[.agg #[.pointer (some ⟨2, 81, none⟩)], .iface 165 (.agg #[.pointer (some ⟨2, 81, none⟩)])]).run Tryz.prog w = .ok (.bool true) w := by kernel_rfl
theorem valueOfE (n : Int) (w : World) : (ReflectliteValue.unpack (.iface 81 (.int .i64 n))).run Tryz.prog w
    = .ok (.agg #[.pointer (some ⟨2, 81, none⟩), .pointer (some ⟨w.heap.size, 0, none⟩), .int .u64 130]) (w.alloc (.cells #[.int .i64 n] 81)) := by kernel_rfl
theorem elemOfP (w : World) : (Rtype.elem? 103).run Tryz.prog w = .ok (some 81) w := by kernel_rfl
theorem mkE (p : Addr) (w : World) : (ReflectliteValue.mk 81 p ReflectliteValue.flagAddr).run Tryz.prog w = .ok (.agg #[.pointer (some ⟨2, 81, none⟩), .pointer (some p), .int .u64 386]) w := by kernel_rfl
theorem elemVP (a p : Addr) (W : World) (ha : W.cell? a = some (.pointer (some p))) :
    (ReflectliteValue.method (ReflectliteValue.valueError "reflectlite.Value.Elem" 0) ReflectliteValue.elem #[.agg #[.pointer (some ⟨2, 103, none⟩), .pointer (some a), .int .u64 150]]).run Tryz.prog W
      = .ok (.agg #[.pointer (some ⟨2, 81, none⟩), .pointer (some p), .int .u64 386]) W := by
  rw [rlm]
  simp only [Sem.run_bind, partsP, Result.andThen]
  simp [ReflectliteValue.elem, loadVar, isAgg, underlying, Tryz.underlying103, ha, Result.andThen, elemOfP, mkE]
theorem partsEa (a : Addr) (w : World) : (ReflectliteValue.parts (.agg #[.pointer (some ⟨2, 81, none⟩), .pointer (some a), .int .u64 386])).run Tryz.prog w = .ok (some (81, a, 386)) w := by kernel_rfl
theorem partsE (a : Addr) (w : World) : (ReflectliteValue.parts (.agg #[.pointer (some ⟨2, 81, none⟩), .pointer (some a), .int .u64 130])).run Tryz.prog w = .ok (some (81, a, 130)) w := by kernel_rfl
theorem directE (w : World) : (Rtype.directlyAssignable 81 81).run Tryz.prog w = .ok true w := by kernel_rfl
theorem setE (ta b : Addr) (n : Int) (old : Value) (W : World) (hb : W.cell? b = some (.int .i64 n)) (ht : W.cell? ta = some old) (hf : W.frozen? ta = false) :
    (ReflectliteValue.set #[.agg #[.pointer (some ⟨2, 81, none⟩), .pointer (some ta), .int .u64 386], .agg #[.pointer (some ⟨2, 81, none⟩), .pointer (some b), .int .u64 130]]).run Tryz.prog W
      = .ok (.tuple #[]) (W.setCell ta (.int .i64 n)) := by
  change Sem.run _ (ReflectliteValue.parts (.agg #[.pointer (some ⟨2, 81, none⟩), .pointer (some ta), .int .u64 386]) >>= fun p1 => ReflectliteValue.parts (.agg #[.pointer (some ⟨2, 81, none⟩), .pointer (some b), .int .u64 130]) >>= fun p2 => _) _ = _
  simp only [Sem.run_bind, partsEa, partsE, Result.andThen]
  simp [ReflectliteValue.flagAddr, loadVar, isAgg, underlying, Tryz.underlying81, hb, Result.andThen, directE, storeVar, Value.cells, storeCells, Addr.add]
  rw [run_store Tryz.prog W ta _ _ (by rfl)]
  simp [ht, hf]

end Go.Proofs.YtbacenhgedopjaaGreatDoor

/- errors.As at a target of type api.Errno, of an error that is one: Go's own text, walked; plain.Told. -/
namespace Go.Proofs.YtbacenhgedopjaaGreatDoor
open Go Go.RowKit Go.Extern.Stop Go.Stop Go.Extern

set_option maxHeartbeats 4000000 in
set_option maxRecDepth 100000 in
theorem as_hit (n : Int) (t : Addr) (old : Value) (w : World) (hg : w.cell? ⟨0, 0, none⟩ = some (.iface 165 (.agg #[.pointer (some ⟨2, 42, none⟩)]))) (ht0 : w.cell? t = some old) (hf0 : w.frozen? t = false) :
    Calls Tryz.prog 54 #[.iface 81 (.int .i64 n), .iface 103 (.pointer (some t))] w fun ev w' => ev = .returned (.bool true) ∧ w' = ((((w.alloc (.cells #[.pointer (some t)] 103)).alloc (.cells #[.pointer (some ⟨2, 103, none⟩), .pointer (some ⟨w.heap.size, 0, none⟩), .int .u64 150] 142)).alloc (.cells #[.pointer (some ⟨2, 103, none⟩), .pointer (some ⟨w.heap.size, 0, none⟩), .int .u64 150] 142)).alloc (.cells #[.int .i64 n] 81)).setCell t (.int .i64 n) := by
  have h1 := @run_callFunc_extern Tryz.prog 86 _ (fun args => ReflectliteValue.unpack (args.getD 0 (.tuple #[]))) Tryz.func86 (by kernel_rfl) (by kernel_rfl) (by kernel_rfl) (by kernel_rfl)
  have h2 := @run_callFunc_extern Tryz.prog 87 _ (ReflectliteValue.methodAny (ReflectliteValue.valueError "reflectlite.Value.Type" 0) (fun t _ _ _ => ReflectliteType.toType t)) Tryz.func87 (by kernel_rfl) (by kernel_rfl) (by kernel_rfl) (by kernel_rfl)
  have h3 := @run_callFunc_extern Tryz.prog 88 _ (ReflectliteValue.method (ReflectliteValue.valueError "reflectlite.Value.IsNil" 0) ReflectliteValue.isNil) Tryz.func88 (by kernel_rfl) (by kernel_rfl) (by kernel_rfl) (by kernel_rfl)
  have h4 := @run_callFunc_extern Tryz.prog 159 _ (ReflectliteType.abiMethod fun t => do pure (.int .u8 (← Rtype.kind t))) Tryz.func159 (by kernel_rfl) (by kernel_rfl) (by kernel_rfl) (by kernel_rfl)
  have h5 := @run_callFunc_extern Tryz.prog 169 _ (ReflectliteType.method ReflectliteType.elem) Tryz.func169 (by kernel_rfl) (by kernel_rfl) (by kernel_rfl) (by kernel_rfl)
  have h6 := @run_callFunc_extern Tryz.prog 170 _ (ReflectliteType.relation "Implements" ReflectliteType.implements_) Tryz.func170 (by kernel_rfl) (by kernel_rfl) (by kernel_rfl) (by kernel_rfl)
  have h7 := @run_callFunc_extern Tryz.prog 110 _ ReflectliteType.typeOf Tryz.func110 (by kernel_rfl) (by kernel_rfl) (by kernel_rfl) (by kernel_rfl)
  have h8 := @run_callFunc_extern Tryz.prog 167 _ (ReflectliteType.relation "AssignableTo" ReflectliteType.assignableTo) Tryz.func167 (by kernel_rfl) (by kernel_rfl) (by kernel_rfl) (by kernel_rfl)
  have h9 := @run_callFunc_extern Tryz.prog 111 _ (ReflectliteValue.method (ReflectliteValue.valueError "reflectlite.Value.Elem" 0) ReflectliteValue.elem) Tryz.func111 (by kernel_rfl) (by kernel_rfl) (by kernel_rfl) (by kernel_rfl)
  have h10 := @run_callFunc_extern Tryz.prog 112 _ ReflectliteValue.set Tryz.func112 (by kernel_rfl) (by kernel_rfl) (by kernel_rfl) (by kernel_rfl)
  have g1 := valueOfP
  have g2 := typeP
  have g3 := kindP
  have g4 := kindE
  have g5 := elemTP
  have g6 := implementsE
  have g7 := typeOfE
  have g8 := assignableE
  have g9 := valueOfE
  have m1 := methodKind
  have m2 := methodElem
  have m3 := methodImplements
  have m4 := methodAssignableTo
  have n8 := isNilP ⟨w.heap.size, 0, none⟩ t ((w.alloc (.cells #[.pointer (some t)] 103)).alloc (.cells #[.pointer (some ⟨2, 103, none⟩), .pointer (some ⟨w.heap.size, 0, none⟩), .int .u64 150] 142)) (by simp)
  have hlt : 0 < w.heap.size := by
    rcases Nat.eq_zero_or_pos w.heap.size with h0 | h
    · simp [World.cell?, h0] at hg
    · exact h
  have hg2 : ((w.alloc (.cells #[.pointer (some t)] 103)).alloc (.cells #[.pointer (some ⟨2, 103, none⟩), .pointer (some ⟨w.heap.size, 0, none⟩), .int .u64 150] 142)).cell? ⟨0, 0, none⟩ = some (.iface 165 (.agg #[.pointer (some ⟨2, 42, none⟩)])) := by
    rw [World.cell?_alloc_lt _ _ ⟨0, 0, none⟩ (by simp), World.cell?_alloc_lt _ _ ⟨0, 0, none⟩ hlt]; exact hg
  have htl : t.block < w.heap.size := by
    rcases Nat.lt_or_ge t.block w.heap.size with h | h
    · exact h
    · simp [World.cell?, Array.getElem?_eq_none h] at ht0
  have el := elemVP ⟨w.heap.size, 0, none⟩ t (((w.alloc (.cells #[.pointer (some t)] 103)).alloc (.cells #[.pointer (some ⟨2, 103, none⟩), .pointer (some ⟨w.heap.size, 0, none⟩), .int .u64 150] 142)).alloc (.cells #[.pointer (some ⟨2, 103, none⟩), .pointer (some ⟨w.heap.size, 0, none⟩), .int .u64 150] 142)) (by rw [World.cell?_alloc_lt _ _ ⟨w.heap.size, 0, none⟩ (by simp; omega)]; simp)
  have st := setE t ⟨w.heap.size + 1 + 1 + 1, 0, none⟩ n old ((((w.alloc (.cells #[.pointer (some t)] 103)).alloc (.cells #[.pointer (some ⟨2, 103, none⟩), .pointer (some ⟨w.heap.size, 0, none⟩), .int .u64 150] 142)).alloc (.cells #[.pointer (some ⟨2, 103, none⟩), .pointer (some ⟨w.heap.size, 0, none⟩), .int .u64 150] 142)).alloc (.cells #[.int .i64 n] 81))
    (by rw [World.cell?_alloc_at _ _ _ _ (by simp)]; rfl)
    (by rw [World.cell?_alloc_lt _ _ t (by simp; omega), World.cell?_alloc_lt _ _ t (by simp; omega), World.cell?_alloc_lt _ _ t (by simp; omega), World.cell?_alloc_lt _ _ t htl]; exact ht0)
    (by rw [World.frozen?_alloc_old _ _ t (by simp; omega), World.frozen?_alloc_old _ _ t (by simp; omega), World.frozen?_alloc_old _ _ t (by simp; omega), World.frozen?_alloc_old _ _ t (Nat.ne_of_lt htl)]; exact hf0)
  go_enter Tryz.func54, Tryz.ntmps54
  go_wp2
  refine wp_loop_rounds 1 ?_
  rw [rounds_succ]
  go_wp2
  go_ret
  exact ⟨rfl, rfl⟩

/-- the error type's variable, as the program lays it -/
def errVar (w : World) : Prop := w.cell? ⟨0, 0, none⟩ = some (.iface 165 (.agg #[.pointer (some ⟨2, 42, none⟩)]))

theorem errVar.below {w w' : World} (h : errVar w) (hb : Below w.heap.size w w') : errVar w' := by
  unfold errVar at *
  have hlt : 0 < w.heap.size := by
    rcases Nat.eq_zero_or_pos w.heap.size with h0 | h'
    · simp [World.cell?, h0] at h
    · exact h'
  rw [hb.cell (p := ⟨0, 0, none⟩) hlt]; exact h

theorem Told_nil (w : World) : Calls Tryz.prog 32 #[.nilIface] w fun e w' => e = .returned (.int .i64 0) ∧ Below w.heap.size w w' := by
  go_enter Tryz.func32, Tryz.ntmps32
  go_wp2
  go_ret
  exact ⟨rfl, Below.refl _ _⟩

set_option maxHeartbeats 1000000 in
theorem Told_hit (n : Int) (w : World) (hg : errVar w) : Calls Tryz.prog 32 #[.iface 81 (.int .i64 n)] w fun e w' => e = .returned (.int .i64 n) ∧ Below w.heap.size w w' := by
  have hgA := hg.below (balloc w (.cells #[.int .i64 0] 81))
  unfold errVar at hgA
  have htA : (w.alloc (.cells #[.int .i64 0] 81)).cell? ⟨w.heap.size, 0, none⟩ = some (.int .i64 0) := by simp
  have hfA : (w.alloc (.cells #[.int .i64 0] 81)).frozen? ⟨w.heap.size, 0, none⟩ = false := by simp
  go_enter Tryz.func32, Tryz.ntmps32
  go_wp2_with fail
  refine (as_hit n _ (.int .i64 0) _ hgA htA hfA).mono ?_
  rintro e w' ⟨rfl, rfl⟩
  go_wp2_with fail
  go_ret
  exact ⟨rfl, bstep (bstep (bstep (bstep (balloc _ _) (balloc _ _)) (balloc _ _)) (balloc _ _)) (balloc _ _)⟩

/-- stratasame.Error: is it the error of that number? -/
theorem SameError_any (m e : Int) (w : World) (hg : errVar w) : Calls Tryz.prog 9 #[errV m, .int .i64 e] w fun r w' => r = .returned (.bool (m == e)) ∧ Below w.heap.size w w' := by
  by_cases h : m = 0
  · subst h
    rw [show errV 0 = .nilIface from rfl]
    go_enter Tryz.func9, Tryz.ntmps9
    go_wp2_with (go_at_call 32; refine (Told_nil _).mono ?_; rintro e w1 ⟨rfl, hb⟩)
    go_ret
    exact ⟨rfl, hb⟩
  · rw [show errV m = .iface 81 (.int .i64 m) from if_neg h]
    go_enter Tryz.func9, Tryz.ntmps9
    go_wp2_with (go_at_call 32; refine (Told_hit m _ hg).mono ?_; rintro e w1 ⟨rfl, hb⟩)
    go_ret
    exact ⟨rfl, hb⟩
end Go.Proofs.YtbacenhgedopjaaGreatDoor

/- stratalaw2.SolveTells: the walk. -/
namespace Go.Proofs.YtbacenhgedopjaaGreatDoor
open Go Go.RowKit Go.Proofs Go.Maps
set_option synthInstance.maxSize 1000

attribute [local go_sem] eql_errV neq_errV guard_errV
theorem hideT {p : Prop} (h : p) : Hid p := h
theorem sameErrT (m : Int) (w : World) (hg : errVar w) : Calls Tryz.prog 9 #[errV m, .int .i64 m] w fun r w' => r = .returned (.bool true) ∧ RowKit.Below w.heap.size w w' := by
  have := SameError_any m m w hg
  rw [show (m == m) = true by simp] at this
  exact this
theorem tells_lens {S : List Tr} {q : Qu} : (solveL S q).length ≤ 500 ∧ ∀ r ∈ solveL S q, r.length ≤ q.vars.length := by
  by_cases hz : solveN S q = 0
  · obtain ⟨hS, g, vars, rows, ha⟩ := solve_good hz
    rw [solve_rows hz ha]
    have hk := (answersL_ok ha).2
    have hs : (sortR (ltQ q) q.dist (rows.map (projR vars q.vars))).length ≤ 500 := by
      have := fold_few (ltQ q) q.dist (rows.map (projR vars q.vars)) []
      simp only [List.length_nil, List.length_map] at this
      unfold sortR
      omega
    have hm : ∀ r ∈ sortR (ltQ q) q.dist (rows.map (projR vars q.vars)), r.length ≤ q.vars.length := fun r hr => Nat.le_of_eq (proj_len vars q.vars rows r (sort_mem.1 hr))
    unfold limR
    split
    · exact ⟨by rw [List.length_take]; omega, fun r hr => hm r (List.mem_of_mem_take hr)⟩
    · exact ⟨hs, hm⟩
  · unfold solveL
    rw [if_neg hz]
    exact ⟨by simp, fun r h => by cases h⟩
theorem eqlPtSelf (p : Pt) (w : World) : (binOp .eql 32 (.agg #[.string ⟨p.1.1.toArray⟩, .int .i64 p.1.2.1, .string ⟨p.1.2.2.1.toArray⟩, .string ⟨p.1.2.2.2.toArray⟩, .string ⟨p.2.1.1.toArray⟩, .int .i64 p.2.1.2.1, .string ⟨p.2.1.2.2.1.toArray⟩, .string ⟨p.2.1.2.2.2.toArray⟩, .string ⟨p.2.2.1.toArray⟩, .int .i64 p.2.2.2.1, .string ⟨p.2.2.2.2.1.toArray⟩, .string ⟨p.2.2.2.2.2.toArray⟩]) (.agg #[.string ⟨p.1.1.toArray⟩, .int .i64 p.1.2.1, .string ⟨p.1.2.2.1.toArray⟩, .string ⟨p.1.2.2.2.toArray⟩, .string ⟨p.2.1.1.toArray⟩, .int .i64 p.2.1.2.1, .string ⟨p.2.1.2.2.1.toArray⟩, .string ⟨p.2.1.2.2.2.toArray⟩, .string ⟨p.2.2.1.toArray⟩, .int .i64 p.2.2.2.1, .string ⟨p.2.2.2.2.1.toArray⟩, .string ⟨p.2.2.2.2.2.toArray⟩])).run Tryz.prog w = .ok (.bool true) w := by
  go_simp
attribute [local go_sem ↓] eqlPtSelf
/-- the fault of a set and a question, ahead of the answers -/
def firstN (S : List Tr) (q : Qu) : Int := if sortedN S = 0 then askN q else sortedN S
theorem solveN_first {S : List Tr} {q : Qu} (h : firstN S q ≠ 0) : solveN S q = firstN S q ∧ naiveI S q = 0 ∧ solveL S q = [] := by
  have e : solveN S q = firstN S q := by
    unfold firstN at h ⊢
    unfold solveN
    by_cases h1 : sortedN S = 0
    · rw [if_pos h1] at h ⊢
      rw [if_neg (fun h' => h' h1), if_pos h]
    · rw [if_neg h1, if_pos h1]
  refine ⟨e, ?_, ?_⟩
  · unfold naiveI; rw [if_neg (by rw [e]; exact h)]
  · unfold solveL; rw [if_neg (by rw [e]; exact h)]
theorem solveN_ok {S : List Tr} {q : Qu} (h : firstN S q = 0) : sortedN S = 0 ∧ askN q = 0 ∧ (answersL S q.parts = none → solveN S q = 4 ∧ naiveI S q = 0 ∧ solveL S q = []) ∧ ∀ vars rows, answersL S q.parts = some (vars, rows) → solveN S q = 0 ∧ naiveI S q = rows.length ∧ solveL S q = limR q.lim (sortR (ltQ q) q.dist (rows.map (projR vars q.vars))) := by
  have h1 : sortedN S = 0 := by
    unfold firstN at h
    by_cases h1 : sortedN S = 0
    · exact h1
    · rw [if_neg h1] at h; exact absurd h h1
  have h2 : askN q = 0 := by unfold firstN at h; rw [if_pos h1] at h; exact h
  have hs : solveN S q = if (answersL S q.parts).isNone = true then 4 else 0 := by
    unfold solveN
    rw [if_neg (fun h' => h' h1), if_neg (fun h' => h' h2)]
  refine ⟨h1, h2, fun ha => ?_, fun vars rows ha => ?_⟩
  · have e : solveN S q = 4 := by rw [hs, ha]; rfl
    refine ⟨e, ?_, ?_⟩
    · unfold naiveI; rw [if_neg (by rw [e]; decide)]
    · unfold solveL; rw [if_neg (by rw [e]; decide)]
  · have e : solveN S q = 0 := by rw [hs, ha]; rfl
    refine ⟨e, ?_, solve_rows e ha⟩
    unfold naiveI
    rw [if_pos e, ha]
theorem terms_step {vals : List Tm} {k : Nat} (hk : k < vals.length) (h : termsN (vals.take k) = 0) : termsN (vals.take (k + 1)) = tmChk vals[k] := by
  induction vals generalizing k with
  | nil => simp at hk
  | cons x r ih =>
    cases k with
    | zero =>
      show termsN [x] = tmChk x
      unfold termsN
      split
      · rename_i h0; rw [h0]; rfl
      · rfl
    | succ k =>
      rw [List.take_succ_cons, termsN] at h ⊢
      by_cases h0 : tmChk x = 0
      · rw [if_pos h0] at h ⊢
        exact ih (by simpa using hk) h
      · rw [if_neg h0] at h
        exact absurd h h0
theorem terms_stop {vals : List Tm} {k : Nat} (h : termsN (vals.take k) ≠ 0) : termsN vals = termsN (vals.take k) := by
  induction vals generalizing k with
  | nil => rw [List.take_nil] at h ⊢
  | cons x r ih =>
    cases k with
    | zero => exact absurd rfl h
    | succ k =>
      rw [List.take_succ_cons, termsN] at h ⊢
      rw [termsN]
      by_cases h0 : tmChk x = 0
      · rw [if_pos h0] at h ⊢
        rw [if_pos h0]
        exact ih h
      · rw [if_neg h0, if_neg h0]
/-- what the caller's things are, later on -/
structure StH (w : World) (S : List Tr) (ad : Option Addr) (q : Qu) (vd pd : Option Addr) (vc pc : Nat) (p : Pt) (vars : List (List UInt8)) (xd : Option Addr) (vals : List Tm) (td : Option Addr) (B W : World) : Prop where
  below : RowKit.Below B.heap.size B W
  set : SlT W ad S
  qu : QuIn W q vd pd
  vs : SlW W xd vars
  tm : SlQ W td vals
  ev : errVar W
  first : RowKit.Below w.heap.size w W
  box : BoxQ W w.heap.size q vd pd vc pc
  pat : PatAt W (w.heap.size + 1) p

set_option maxHeartbeats 16000000 in
set_option maxRecDepth 100000 in
theorem solveTells_any (S : List Tr) (ad : Option Addr) (ca : Nat) (q : Qu) (vd pd : Option Addr) (vc pc : Nat) (p : Pt) (vars : List (List UInt8)) (xd : Option Addr) (xc : Nat) (vals : List Tm) (td : Option Addr) (tc : Nat) (w : World) (hev : errVar w) (hS : SlT w ad S) (hfit : ∀ x ∈ S, fitTr x) (hn : S.length ≤ 9223372036854775807) (hq : QuIn w q vd pd) (hf : FitQ q) (hvc : q.vars.length ≤ vc) (hp : fitPt p) (hv : SlW w xd vars) (ht : SlQ w td vals) (hvl : ∀ v ∈ vars, v.length ≤ maxLen) (htf : ∀ x ∈ vals, x.2.1.length ≤ maxLen ∧ x.2.2.length ≤ maxLen) (hvn : vars.length < maxLen) (htn : vals.length ≤ 9223372036854775807) :
    Calls Tryz.prog 3 #[.slice ad S.length ca, valQ q vd vc pd pc, valPt p, .slice xd vars.length xc, .slice td vals.length tc] w fun e w' => e = .returned (.bool true) ∧ RowKit.Below w.heap.size w w' := by
  obtain ⟨B0, hB0⟩ : ∃ B0, B0 = (w.alloc (.cells #[.slice vd q.vars.length vc, .slice pd q.parts.length pc, .string ⟨q.order.toArray⟩, .bool q.down, .bool q.dist, .int .i64 q.lim] 26)).alloc (.cells #[.string ⟨p.1.1.toArray⟩, .int .i64 p.1.2.1, .string ⟨p.1.2.2.1.toArray⟩, .string ⟨p.1.2.2.2.toArray⟩, .string ⟨p.2.1.1.toArray⟩, .int .i64 p.2.1.2.1, .string ⟨p.2.1.2.2.1.toArray⟩, .string ⟨p.2.1.2.2.2.toArray⟩, .string ⟨p.2.2.1.toArray⟩, .int .i64 p.2.2.2.1, .string ⟨p.2.2.2.2.1.toArray⟩, .string ⟨p.2.2.2.2.2.toArray⟩] 32) := ⟨_, rfl⟩
  have hw0 : RowKit.Below w.heap.size w B0 := by rw [hB0]; exact bstep (balloc _ _) (balloc _ _)
  have HB : Hid (BoxQ B0 w.heap.size q vd pd vc pc) := by show BoxQ _ _ _ _ _ _ _; rw [hB0]; exact BoxQ.below (boxQ_new _ _ _ _ _ _) (balloc _ _)
  have HPb : Hid (PatAt B0 (w.heap.size + 1) p) := by
    show PatAt _ _ _
    rw [hB0]
    have := patBox (w.alloc (.cells #[.slice vd q.vars.length vc, .slice pd q.parts.length pc, .string ⟨q.order.toArray⟩, .bool q.down, .bool q.dist, .int .i64 q.lim] 26)) p 32
    unfold encPt at this
    simpa using this
  have hzB : w.heap.size + 2 ≤ B0.heap.size := by rw [hB0]; simp
  have HA : Hid (∀ W, RowKit.Below B0.heap.size B0 W → StH w S ad q vd pd vc pc p vars xd vals td B0 W) := fun W h1 => ⟨h1, hS.below (bstep hw0 h1), hq.below (bstep hw0 h1), hv.below (bstep hw0 h1), ht.below (bstep hw0 h1), hev.below (bstep hw0 h1), bstep hw0 h1, HB.out.below h1, HPb.out.below h1⟩
  have C0 := hideT (fun W (h : StH w S ad q vd pd vc pc p vars xd vals td B0 W) => RSet_any ad ca S W h.set hfit hn)
  have C1 := hideT (fun W (h : StH w S ad q vd pd vc pc p vars xd vals td B0 W) => QCheck_any q vd pd vc pc W h.qu hf hvc)
  have C2 := hideT (fun (h0 : firstN S q = 0) W (h : StH w S ad q vd pd vc pc p vars xd vals td B0 W) => Answers_any S ad ca q vd pd vc pc W h.set (sortedN_set.1 (solveN_ok h0).1).1 h.qu (ask_good (solveN_ok h0).2.1).six hf.pt (ask_good (solveN_ok h0).2.1).parts)
  have C3 := hideT (fun (h0 : firstN S q = 0) W (h : StH w S ad q vd pd vc pc p vars xd vals td B0 W) => RSolve_any ad ca S q vd pd vc pc W h.set h.qu (solveN_ok h0).1 (solveN_ok h0).2.1 hf)
  have C4 := hideT (fun W (h : StH w S ad q vd pd vc pc p vars xd vals td B0 W) => Solve_any ad ca S q vd pd vc pc W h.set hfit hn h.qu hf hvc)
  have hql := hf.vl
  have C5 := hideT (fun ad' bd' ca' cb' W h1 h2 => SameAnswers_true ad' bd' ca' cb' (solveL S q) W h1 h2 (by have := (tells_lens (S := S) (q := q)).1; omega) (fun r hr => by have := (tells_lens (S := S) (q := q)).2 r hr; omega))
  have C6 := hideT (fun W (h : StH w S ad q vd pd vc pc p vars xd vals td B0 W) => Naive_any ad ca S q vd pd vc pc W h.set hfit hn h.qu hf hvc)
  have C7 := hideT (fun (k : Nat) (hk : k < vals.length) W => RTerm_any vals[k].1 vals[k].2.1 vals[k].2.2 W (htf _ (List.getElem_mem hk)).1 (htf _ (List.getElem_mem hk)).2)
  have C8 := hideT (fun W => RVars_any p W hp)
  have C9 := hideT (fun W (h : StH w S ad q vd pd vc pc p vars xd vals td B0 W) => Bind_any xd td xc tc vars vals p W h.vs h.tm (by unfold maxLen at hvn; omega))
  have C10 := hideT (fun W (h : StH w S ad q vd pd vc pc p vars xd vals td B0 W) => PBind_any p xd td xc tc vars vals W hp h.vs h.tm hvl htf hvn htn)
  have HF := hideT (fun h => solveN_first (S := S) (q := q) h)
  have HO := hideT (fun h => solveN_ok (S := S) (q := q) h)
  have hbB : Hid (bindB vars vals p = if bindN vars vals p = 0 then bindP vars vals p else patZero) := rfl
  have hfN : Hid (firstN S q = if sortedN S = 0 then askN q else sortedN S) := rfl
  have HB0 := hideT hB0
  have Hw0 := hideT hw0
  clear hev hS hfit hq hf hvc hp hv ht hvl htf hB0 HB HPb hw0 hn hql
  generalize hfs : firstN S q = E1 at *
  unfold valQ valPt
  go_enter Tryz.func3, Tryz.ntmps3
  go_upto_region 1 with fail
  rw [← HB0.out]
  have hR := HA.out _ (RowKit.Below.refl B0.heap.size B0)
  go_wp2_with fail
  refine (C0.out _ hR).mono ?_
  rintro e w1 ⟨rfl, hb1⟩
  dsimp only
  have A1 := hideT (HA.out _ hb1)
  clear hR C0 HB0 hb1
  go_upto_if 31 with fail
  go_cut [11] from 28 to 33 (fun v W' => Hid (v = .int .i64 E1) ∧ Hid (RowKit.Below B0.heap.size B0 W'))
  case first =>
    by_cases h0 : sortedN S = 0
    · have t1 : (sortedN S == 0) = true := by simpa using h0
      have hE := hideT (show askN q = E1 by rw [hfN.out, if_pos h0])
      obtain ⟨x0, x1, x2, x3, x4, x5⟩ := A1.out.box
      have HC := C1.out _ A1.out
      unfold valQ at HC
      clear h0
      generalize sortedN S = N at *
      generalize askN q = M at *
      go_wp2_with fail
      refine HC.mono ?_
      rintro e w4 ⟨rfl, hb4⟩
      dsimp only
      have hb5 := hideT (bstep A1.out.below hb4)
      clear hb4 HC
      go_wp2_with fail
      go_meet
      case rel => exact ⟨by show _ = _; rw [hE.out], hb5⟩
    · have t1 : (sortedN S == 0) = false := by simpa using h0
      have hE := hideT (show sortedN S = E1 by rw [hfN.out, if_neg h0])
      clear h0
      generalize sortedN S = N at *
      go_wp2_with fail
      go_meet
      case rel => exact ⟨by show _ = _; rw [hE.out], hideT A1.out.below⟩
  case rest =>
    obtain ⟨hv, hb⟩ := hcut
    have hv' := hv.out
    subst hv'
    have A2 := hideT (HA.out _ hb.out)
    clear A1 C1 hfN hv hb
    generalize hgw : wc = w2 at *
    clear hgw
    go_upto_if 35 with fail
    go_cut [11, 13, 14, 15, 16, 17] from 34 to 48 (fun e n _ _ _ _ W' => Hid (e = .int .i64 (solveN S q)) ∧ Hid (n = .int .i64 (naiveI S q : Int)) ∧ Hid (RowKit.Below B0.heap.size B0 W'))
    case first =>
      by_cases h0 : E1 = 0
      · subst h0
        have HC := C2.out rfl w2 A2.out
        have HOk := hideT (HO.out rfl)
        obtain ⟨x0, x1, x2, x3, x4, x5⟩ := A2.out.box
        unfold valQ AnsAns at HC
        clear hfs
        go_wp2_with fail
        refine HC.mono ?_
        rintro e w3 ⟨hb3, hans⟩
        have hb4 := hideT (bstep A2.out.below hb3)
        clear hb3 HC x0 x1 x2 x3 x4 x5
        cases ha : answersL S q.parts with
        | none =>
          rw [ha] at hans
          obtain rfl := hans
          obtain ⟨k1, k2, _⟩ := HOk.out.2.2.1 ha
          have K1 := hideT k1
          have K2 := hideT k2
          clear k1 k2 ha HOk
          dsimp only
          go_wp2_with fail
          go_meet
          case rel => exact ⟨by show _ = _; rw [K1.out], by show _ = _; rw [K2.out]; rfl, hb4⟩
        | some a =>
          obtain ⟨av, rows⟩ := a
          rw [ha] at hans
          obtain ⟨d1, c1, d2, c2, rfl, _, _⟩ := hans
          obtain ⟨k1, k2, _⟩ := HOk.out.2.2.2 av rows ha
          have K1 := hideT k1
          have K2 := hideT k2
          clear k1 k2 ha HOk
          generalize looked S q.parts = lk at *
          generalize rows.length = nr at *
          generalize av.length = na at *
          dsimp only
          go_wp2_with fail
          go_meet
          case rel => exact ⟨by show _ = _; rw [K1.out], by show _ = _; rw [K2.out], hb4⟩
      · have t1 : (E1 == 0) = false := by simpa using h0
        obtain ⟨k1, k2, _⟩ := HF.out h0
        have K1 := hideT k1
        have K2 := hideT k2
        clear k1 k2 h0 hfs
        go_wp2_with fail
        go_meet
        case rel => exact ⟨by show _ = _; rw [K1.out], by show _ = _; rw [K2.out]; rfl, hideT A2.out.below⟩
    case rest =>
      obtain ⟨he, hm, hb⟩ := hcut
      have he' := he.out
      have hm' := hm.out
      subst he' hm'
      have A3 := hideT (HA.out _ hb.out)
      clear A2 C2 he hm hb
      generalize hgw : wc = w3 at *
      clear hgw
      go_upto_if 50 with fail
      go_cut [11, 12] from 49 to 56 (fun e v W' => Hid (e = .int .i64 (solveN S q)) ∧ (∃ sd sc, v = .slice sd (solveL S q).length sc ∧ Hid (SlR W' sd (solveL S q))) ∧ Hid (RowKit.Below B0.heap.size B0 W'))
      case first =>
        by_cases h0 : solveN S q = 0
        · have hE : E1 = 0 := Classical.byContradiction fun hne => by
            obtain ⟨k1, _⟩ := HF.out hne
            exact hne (k1.symm.trans h0)
          subst hE
          have HC := C3.out rfl w3 A3.out
          obtain ⟨_, _, o1, o2⟩ := HO.out rfl
          obtain ⟨⟨av, rows⟩, ha⟩ : ∃ a, answersL S q.parts = some a := by
            cases ha : answersL S q.parts with
            | none => have := (o1 ha).1; omega
            | some a => exact ⟨a, rfl⟩
          have k3 := (o2 av rows ha).2.2
          have K3 := hideT k3
          have Ha := hideT ha
          have K0 := hideT h0
          obtain ⟨x0, x1, x2, x3, x4, x5⟩ := A3.out.box
          unfold valQ RSolveAns at HC
          clear k3 ha o1 o2 hfs
          go_wp2_with fail
          refine HC.mono ?_
          rintro e w4 ⟨hb4, _, hans⟩
          obtain ⟨sd, sc, rfl, hs⟩ := hans av rows Ha.out
          rw [← K3.out] at hs ⊢
          have hb5 := hideT (bstep A3.out.below hb4)
          have Hs := hideT hs
          clear hb4 hs hans HC x0 x1 x2 x3 x4 x5 h0
          generalize (solveL S q).length = sl at *
          dsimp only
          go_wp2_with fail
          go_meet
          case rel => exact ⟨by show _ = _; rw [K0.out], ⟨sd, sc, rfl, Hs⟩, hb5⟩
        · have t1 : (solveN S q == 0) = false := by simpa using h0
          have hnil : solveL S q = [] := by unfold solveL; rw [if_neg h0]
          have Hnil := hideT hnil
          clear h0 hnil
          generalize solveN S q = N at *
          go_wp2_with fail
          go_meet
          case rel => exact ⟨rfl, ⟨none, 0, by rw [Hnil.out]; rfl, by show SlR _ _ _; rw [Hnil.out]; exact fun h => absurd rfl h⟩, hideT A3.out.below⟩
      case rest =>
        obtain ⟨he, ⟨sd, sc, rfl, hs⟩, hb⟩ := hcut
        have he' := he.out
        subst he'
        have A4 := hideT (HA.out _ hb.out)
        clear A3 C3 he hb HF HO hfs
        generalize hgw : wc = w4 at *
        clear hgw
        obtain ⟨x0, x1, x2, x3, x4, x5⟩ := A4.out.box
        have HC := C4.out w4 A4.out
        unfold valQ SolveAns at HC
        go_wp2_with fail
        refine HC.mono ?_
        rintro e w5 ⟨hb5, gd, gc, rfl, hg, _, _⟩
        have A5 := hideT (HA.out _ (bstep A4.out.below hb5))
        have Hg := hideT hg
        have Hs := hideT (hs.out.below hb5)
        clear hb5 hg hs HC x0 x1 x2 x3 x4 x5 A4 C4
        dsimp only
        go_wp2_with fail
        refine (sameErrT _ _ A5.out.ev).mono ?_
        rintro e w6 ⟨rfl, hb6⟩
        have HC := C5.out gd sd gc sc w6 (Hg.out.below hb6) (Hs.out.below hb6)
        have A6 := hideT (HA.out _ (bstep A5.out.below hb6))
        clear hb6 Hg Hs A5 C5
        dsimp only
        go_wp2_with fail
        refine HC.mono ?_
        rintro e w7 ⟨rfl, hb7⟩
        have A7 := hideT (HA.out _ (bstep A6.out.below hb7))
        clear hb7 HC A6
        dsimp only
        have HC := C6.out w7 A7.out
        obtain ⟨x0, x1, x2, x3, x4, x5⟩ := A7.out.box
        unfold valQ at HC
        generalize (solveL S q).length = sl at *
        go_wp2_with fail
        refine HC.mono ?_
        rintro e w8 ⟨rfl, hb8⟩
        have A8 := hideT (HA.out _ (bstep A7.out.below hb8))
        clear hb8 HC A7 x0 x1 x2 x3 x4 x5 C6
        dsimp only
        go_wp2_with fail
        refine (sameErrT _ _ A8.out.ev).mono ?_
        rintro e w9 ⟨rfl, hb9⟩
        have A9 := hideT (HA.out _ (bstep A8.out.below hb9))
        clear hb9 A8
        dsimp only
        generalize solveN S q = SN at *
        generalize naiveI S q = NI at *
        go_upto_if 82 with fail
        go_cut [11] from 78 to 82 (fun v W' => Hid (v = .int .i64 (if vars.length ≠ vals.length then 3 else 0)) ∧ Hid (W' = w9))
        case first =>
          by_cases h0 : vars.length = vals.length
          · have t1 : ((vars.length : Int) != (vals.length : Int)) = false := by simp [h0]
            have K := hideT (show (if vars.length ≠ vals.length then (3 : Int) else 0) = 0 by rw [if_neg (fun h => h h0)])
            clear h0
            go_wp2_with fail
            go_meet
            case rel => exact ⟨by show _ = _; rw [K.out], rfl⟩
          · have t1 : ((vars.length : Int) != (vals.length : Int)) = true := by simp; omega
            have K := hideT (show (if vars.length ≠ vals.length then (3 : Int) else 0) = 3 by rw [if_pos h0])
            clear h0
            go_wp2_with fail
            go_meet
            case rel => exact ⟨by show _ = _; rw [K.out], rfl⟩
        case rest =>
          obtain ⟨hv, hw⟩ := hcut
          have hv' := hv.out
          have hw' := hw.out
          subst hw'
          obtain ⟨E3, hE3⟩ : ∃ E3 : Int, E3 = if vars.length ≠ vals.length then 3 else 0 := ⟨_, rfl⟩
          rw [← hE3] at hv'
          subst hv'
          have HE3 := hideT hE3
          clear hv hw hE3
          go_upto_block 0 with fail
          go_cut [11, 24] from 83 to 97 (fun v _ W' => Hid (v = .int .i64 (if E3 ≠ 0 then E3 else termsN vals)) ∧ Hid (RowKit.Below B0.heap.size B0 W'))
          case first =>
            go_wp2_with fail
            go_loopw [11, 24] (fun v i wr => ∃ k : Nat, k ≤ vals.length ∧ i = .int .i64 k ∧ (∃ N : Int, v = .int .i64 N ∧ Hid (N = if E3 ≠ 0 then E3 else termsN (vals.take k))) ∧ Hid (RowKit.Below B0.heap.size B0 wr)) (fun _ i wr => vals.length - (intOf i).toNat)
            case atStart => exact ⟨0, Nat.zero_le _, rfl, ⟨E3, rfl, by show _ = _; rw [List.take_zero]; unfold termsN; split <;> omega⟩, hideT A9.out.below⟩
            case round =>
              obtain ⟨k, hk, rfl, ⟨N, rfl, hN⟩, hbr⟩ := hrel
              have Ar := hideT (HA.out _ hbr.out)
              by_cases hlt : k < vals.length
              · have t1 : decide ((k : Int) < (vals.length : Int)) = true := by simp; omega
                by_cases hN0 : N = 0
                · subst hN0
                  have hE0 : E3 = 0 := Classical.byContradiction fun hne => by have := hN.out; rw [if_pos hne] at this; exact hne this.symm
                  have hT0 : termsN (vals.take k) = 0 := by have := hN.out; rw [if_neg (fun h => h hE0)] at this; exact this.symm
                  have Hst := hideT (show tmChk vals[k] = if E3 ≠ 0 then E3 else termsN (vals.take (k + 1)) by rw [if_neg (fun h => h hE0), terms_step hlt hT0])
                  obtain ⟨b1, o1, rfl, d0, d1, d2⟩ := Ar.out.tm.at k hlt
                  have HC := C7.out k hlt wr
                  have i0 : (0 : Int) ≤ (k : Int) := by omega
                  have i1 : (k : Int) < (vals.length : Int) := by omega
                  have hck : Hid (tmChk vals[k] = checkN vals[k].1 vals[k].2.1 vals[k].2.2) := rfl
                  clear hE0 hT0 hN
                  generalize vals[k] = x at *
                  generalize checkN x.1 x.2.1 x.2.2 = cn at *
                  go_wp2_with fail
                  refine HC.mono ?_
                  rintro e wn ⟨rfl, hbn⟩
                  have Hbn := hideT (bstep hbr.out hbn)
                  clear HC hbn d0 d1 d2
                  dsimp only
                  go_wp2_with fail
                  go_roundw
                  case rel => exact ⟨k + 1, by omega, by go_num, ⟨cn, rfl, by show _ = _; rw [← Hst.out, hck.out]⟩, Hbn⟩
                  case measure => simp [intOf]; omega
                · have t2 : (N == 0) = false := by simpa using hN0
                  have Hend := hideT (show N = if E3 ≠ 0 then E3 else termsN vals by
                    have := hN.out
                    by_cases hE : E3 = 0
                    · rw [if_neg (fun h => h hE)] at this ⊢
                      rw [this] at hN0 ⊢
                      exact (terms_stop hN0).symm
                    · rw [if_pos hE] at this ⊢
                      exact this)
                  clear hN hN0
                  go_wp2_with fail
                  go_meet
                  case rel => exact ⟨by show _ = _; rw [← Hend.out], hbr⟩
              · have t1 : decide ((k : Int) < (vals.length : Int)) = false := by simp; omega
                have Hend := hideT (show N = if E3 ≠ 0 then E3 else termsN vals by
                  have := hN.out
                  rw [List.take_of_length_le (by omega)] at this
                  exact this)
                clear hN
                go_wp2_with fail
                go_meet
                case rel => exact ⟨by show _ = _; rw [← Hend.out], hbr⟩
          case rest =>
            obtain ⟨hv, hb⟩ := hcut
            have hv' := hv.out
            have A10 := hideT (HA.out _ hb.out)
            obtain ⟨E4, hE4⟩ : ∃ E4 : Int, E4 = if E3 ≠ 0 then E3 else termsN vals := ⟨_, rfl⟩
            rw [← hE4] at hv'
            subst hv'
            have HE5 := hideT (show bindN vars vals p = if E4 ≠ 0 then E4 else varsN p by
              rw [hE4, HE3.out]
              unfold bindN
              by_cases h1 : vars.length ≠ vals.length
              · simp [h1]
              · simp [h1])
            clear hv hb hE4 HE3 A9 C7
            generalize hgw : wc = w10 at *
            clear hgw
            go_upto_if 99 with fail
            go_cut [11] from 98 to 104 (fun v W' => Hid (v = .int .i64 (bindN vars vals p)) ∧ Hid (RowKit.Below B0.heap.size B0 W'))
            case first =>
              by_cases h0 : E4 = 0
              · subst h0
                have K := hideT (show bindN vars vals p = varsN p by rw [HE5.out, if_neg (by decide)])
                obtain ⟨y0, y1, y2, y3, y4, y5, y6, y7, y8, y9, y10, y11⟩ := A10.out.pat.all
                have HC := C8.out w10
                unfold valPt at HC
                generalize varsN p = vp at *
                go_wp2_with fail
                refine HC.mono ?_
                rintro e w11 ⟨hb11, m, md, mc, rfl, _, _⟩
                have Hb := hideT (bstep A10.out.below hb11)
                clear HC hb11 y0 y1 y2 y3 y4 y5 y6 y7 y8 y9 y10 y11
                generalize m.length = ml at *
                dsimp only
                go_wp2_with fail
                go_meet
                case rel => exact ⟨by show _ = _; rw [K.out], Hb⟩
              · have t1 : (E4 == 0) = false := by simpa using h0
                have K := hideT (show bindN vars vals p = E4 by rw [HE5.out, if_pos h0])
                clear h0
                go_wp2_with fail
                go_meet
                case rel => exact ⟨by show _ = _; rw [K.out], hideT A10.out.below⟩
            case rest =>
              obtain ⟨hv, hb⟩ := hcut
              have hv' := hv.out
              subst hv'
              have A11 := hideT (HA.out _ hb.out)
              clear hv hb HE5 A10 C8
              generalize hgw : wc = w11 at *
              clear hgw
              go_upto_region 29 with fail
              have hba := balloc w11 (.cells #[.string ⟨#[]⟩, .int .i64 0, .string ⟨#[]⟩, .string ⟨#[]⟩, .string ⟨#[]⟩, .int .i64 0, .string ⟨#[]⟩, .string ⟨#[]⟩, .string ⟨#[]⟩, .int .i64 0, .string ⟨#[]⟩, .string ⟨#[]⟩] 32)
              have PZ : Hid (PatAt (w11.alloc (.cells #[.string ⟨#[]⟩, .int .i64 0, .string ⟨#[]⟩, .string ⟨#[]⟩, .string ⟨#[]⟩, .int .i64 0, .string ⟨#[]⟩, .string ⟨#[]⟩, .string ⟨#[]⟩, .int .i64 0, .string ⟨#[]⟩, .string ⟨#[]⟩] 32)) w11.heap.size patZero) := patBox w11 patZero 32
              have FZ : Hid (∀ j, j < 12 → (w11.alloc (.cells #[.string ⟨#[]⟩, .int .i64 0, .string ⟨#[]⟩, .string ⟨#[]⟩, .string ⟨#[]⟩, .int .i64 0, .string ⟨#[]⟩, .string ⟨#[]⟩, .string ⟨#[]⟩, .int .i64 0, .string ⟨#[]⟩, .string ⟨#[]⟩] 32)).frozen? ⟨w11.heap.size, j, none⟩ = false) := by
                intro j hj
                rcases (by omega : j = 0 ∨ j = 1 ∨ j = 2 ∨ j = 3 ∨ j = 4 ∨ j = 5 ∨ j = 6 ∨ j = 7 ∨ j = 8 ∨ j = 9 ∨ j = 10 ∨ j = 11) with rfl | rfl | rfl | rfl | rfl | rfl | rfl | rfl | rfl | rfl | rfl | rfl <;> go_simp
              generalize hZ : w11.alloc _ = wz at hba PZ FZ ⊢
              have hzz : w11.heap.size < wz.heap.size := by rw [← hZ]; simp
              have AZ := hideT (HA.out _ (bstep A11.out.below hba))
              have hz11 := A11.out.below.size
              clear hZ hba
              go_upto_if 106 with fail
              go_cut [] from 105 to 110 (fun W' => Hid (PatAt W' w11.heap.size (bindB vars vals p)) ∧ Hid (RowKit.Below B0.heap.size B0 W'))
              case first =>
                by_cases h0 : bindN vars vals p = 0
                · have t1 : (bindN vars vals p == 0) = true := by simpa using h0
                  have K := hideT (show bindB vars vals p = bindP vars vals p by rw [hbB.out, if_pos h0])
                  obtain ⟨y0, y1, y2, y3, y4, y5, y6, y7, y8, y9, y10, y11⟩ := AZ.out.pat.all
                  have HC := C9.out wz AZ.out
                  unfold valPt at HC
                  clear h0
                  generalize bindN vars vals p = bn at *
                  generalize bindP vars vals p = bp at *
                  go_wp2_with fail
                  refine HC.mono ?_
                  rintro e w12 ⟨rfl, hb12⟩
                  have hPZ := PZ.out.below hb12
                  obtain ⟨z0, z1, z2, z3, z4, z5, z6, z7, z8, z9, z10, z11⟩ := hPZ.all
                  have ff := fun j (hj : j < 12) => (hb12.frozen (p := ⟨w11.heap.size, j, none⟩) hzz).trans (FZ.out j hj)
                  have f0 := ff 0 (by omega)
                  have f1 := ff 1 (by omega)
                  have f2 := ff 2 (by omega)
                  have f3 := ff 3 (by omega)
                  have f4 := ff 4 (by omega)
                  have f5 := ff 5 (by omega)
                  have f6 := ff 6 (by omega)
                  have f7 := ff 7 (by omega)
                  have f8 := ff 8 (by omega)
                  have f9 := ff 9 (by omega)
                  have f10 := ff 10 (by omega)
                  have f11 := ff 11 (by omega)
                  have HP9 := hideT hPZ
                  have Hb := hideT (bstep AZ.out.below hb12)
                  clear HC hb12 hPZ ff y0 y1 y2 y3 y4 y5 y6 y7 y8 y9 y10 y11
                  dsimp only
                  go_wp2_with fail
                  go_meet
                  case rel => exact ⟨by show PatAt _ _ _; rw [K.out]; exact pset_pat HP9.out, pset_below Hb.out hz11⟩
                · have t1 : (bindN vars vals p == 0) = false := by simpa using h0
                  have K := hideT (show bindB vars vals p = patZero by rw [hbB.out, if_neg h0])
                  clear h0
                  generalize bindN vars vals p = bn at *
                  go_wp2_with fail
                  go_meet
                  case rel => exact ⟨by show PatAt _ _ _; rw [K.out]; exact PZ.out, hideT AZ.out.below⟩
              case rest =>
                obtain ⟨hPt, hb⟩ := hcut
                have A12 := hideT (HA.out _ hb.out)
                clear hb PZ FZ AZ C9 hbB hzz
                generalize hgw : wc = w12 at *
                clear hgw
                obtain ⟨y0, y1, y2, y3, y4, y5, y6, y7, y8, y9, y10, y11⟩ := A12.out.pat.all
                have HC := C10.out w12 A12.out
                unfold valPt at HC
                generalize bindB vars vals p = bp at *
                generalize bindN vars vals p = bn at *
                go_wp2_with fail
                refine HC.mono ?_
                rintro e w13 ⟨rfl, hb13⟩
                have Hb13 := hideT (bstep A12.out.below hb13)
                have HP13 := hideT (hPt.out.below hb13)
                clear HC hb13 hPt y0 y1 y2 y3 y4 y5 y6 y7 y8 y9 y10 y11 A12 C10
                dsimp only
                go_upto_region 32 with fail
                have HX := hideT (patBox w13 bp 32)
                unfold encPt at HX
                have hba := balloc w13 (.cells #[.string ⟨bp.1.1.toArray⟩, .int .i64 bp.1.2.1, .string ⟨bp.1.2.2.1.toArray⟩, .string ⟨bp.1.2.2.2.toArray⟩, .string ⟨bp.2.1.1.toArray⟩, .int .i64 bp.2.1.2.1, .string ⟨bp.2.1.2.2.1.toArray⟩, .string ⟨bp.2.1.2.2.2.toArray⟩, .string ⟨bp.2.2.1.toArray⟩, .int .i64 bp.2.2.2.1, .string ⟨bp.2.2.2.2.1.toArray⟩, .string ⟨bp.2.2.2.2.2.toArray⟩] 32)
                have HX2 : Hid (PatAt (w13.alloc (.cells #[.string ⟨bp.1.1.toArray⟩, .int .i64 bp.1.2.1, .string ⟨bp.1.2.2.1.toArray⟩, .string ⟨bp.1.2.2.2.toArray⟩, .string ⟨bp.2.1.1.toArray⟩, .int .i64 bp.2.1.2.1, .string ⟨bp.2.1.2.2.1.toArray⟩, .string ⟨bp.2.1.2.2.2.toArray⟩, .string ⟨bp.2.2.1.toArray⟩, .int .i64 bp.2.2.2.1, .string ⟨bp.2.2.2.2.1.toArray⟩, .string ⟨bp.2.2.2.2.2.toArray⟩] 32)) w13.heap.size bp) := HX.out
                have HP14 := hideT (HP13.out.below hba)
                have A14 := hideT (HA.out _ (bstep Hb13.out hba))
                generalize w13.alloc _ = w14 at hba HX2 HP14 A14 ⊢
                clear hba HX HP13 Hb13
                generalize w13.heap.size = g13 at *
                generalize w11.heap.size = g11 at *
                go_wp2_with fail
                refine (sameErrT _ _ A14.out.ev).mono ?_
                rintro e w15 ⟨rfl, hb15⟩
                have Hb := hideT (bstep A14.out.first hb15)
                obtain ⟨y0, y1, y2, y3, y4, y5, y6, y7, y8, y9, y10, y11⟩ := (HX2.out.below hb15).all
                obtain ⟨z0, z1, z2, z3, z4, z5, z6, z7, z8, z9, z10, z11⟩ := (HP14.out.below hb15).all
                have s1 : ((NI : Int) == (NI : Int)) = true := by simp
                clear HX2 HP14 A14 hb15
                dsimp only
                go_wp2_with fail
                go_ret
                exact ⟨rfl, Hb.out⟩
end Go.Proofs.YtbacenhgedopjaaGreatDoor
