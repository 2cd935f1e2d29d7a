/- errors.Is of an Errno against ErrFull: Go's own text, walked. -/
import Derived.Test.YtnlcfnpcjkcdmaaGreatDoorErrEq
import Derived.LaidEql
import Derived.Stop.Asserts
import Derived.RowKitTokens
namespace Go.Proofs.YtnlcfnpcjkcdmaaGreatDoor
open Go Go.RowKit Go.Extern.Stop Go.Stop Go.Extern

theorem typeOfF (v : Value) (w : World) : (ReflectliteType.typeOf #[.iface 49 v]).run Tryz.prog w = .ok (.iface 131 (.agg #[.pointer (some ⟨2, 49, none⟩)])) w := by kernel_rfl
theorem methodComparable (h : Value) (w : World) : (Go.method 291 131 (.agg #[h]) "Comparable").run Tryz.prog w = .ok (141, .agg #[h]) w := by kernel_rfl
theorem comparableE (w : World) : (ReflectliteType.method (fun t => do Rtype.noPackHeld "Comparable" t; (fun a : TypeInfo => Value.bool a.comparable) <$> typeInfo t) #[.agg #[.pointer (some ⟨2, 49, none⟩)]]).run Tryz.prog w = .ok (.bool true) w := by kernel_rfl

theorem eqlNilE (n : Int) (w : World) : (binOp .eql 30 .nilIface (.iface 49 (.int .i64 n))).run Tryz.prog w = .ok (.bool false) w := by kernel_rfl
theorem eqlEE (n m : Int) (w : World) : (binOp .eql 30 (.iface 49 (.int .i64 n)) (.iface 49 (.int .i64 m))).run Tryz.prog w = .ok (.bool (n == m)) w := by kernel_rfl
theorem assertIs (n : Int) (w : World) : (Instr.typeAssert (.iface 49 (.int .i64 n)) 30 149 true).run Tryz.prog w = .ok (.tuple #[.nilIface, .bool false]) w := run_typeAssert_lacksB Tryz.underlying149 (by kernel_rfl) (by kernel_rfl) _ _ w
theorem assertOne (n : Int) (w : World) : (Instr.typeAssert (.iface 49 (.int .i64 n)) 30 138 true).run Tryz.prog w = .ok (.tuple #[.nilIface, .bool false]) w := run_typeAssert_lacksB Tryz.underlying138 (by kernel_rfl) (by kernel_rfl) _ _ w
theorem assertMany (n : Int) (w : World) : (Instr.typeAssert (.iface 49 (.int .i64 n)) 30 140 true).run Tryz.prog w = .ok (.tuple #[.nilIface, .bool false]) w := run_typeAssert_lacksB Tryz.underlying140 (by kernel_rfl) (by kernel_rfl) _ _ w
attribute [local go_sem] eqlNilE eqlEE assertIs assertOne assertMany

set_option maxHeartbeats 1000000 in
set_option maxRecDepth 100000 in
theorem is_any (n : Int) (w : World) : Calls Tryz.prog 73 #[.iface 49 (.int .i64 n), .iface 49 (.int .i64 4), .bool true] w fun e w' => e = .returned (.bool (n == 4)) ∧ w' = w := by
  by_cases h : n = 4
  · subst h
    go_enter Tryz.func73, Tryz.ntmps73
    go_wp2
    refine wp_loop_rounds 1 ?_
    rw [rounds_succ]
    go_wp2
    go_ret
    exact ⟨rfl, rfl⟩
  · have h' : (n == 4) = false := by simpa using h
    go_enter Tryz.func73, Tryz.ntmps73
    go_wp2
    refine wp_loop_rounds 1 ?_
    rw [rounds_succ]
    go_wp2
    go_ret
    exact ⟨by rw [h']; rfl, rfl⟩

set_option maxHeartbeats 1000000 in
set_option maxRecDepth 100000 in
theorem Is_any (n : Int) (w : World) : Calls Tryz.prog 48 #[errV n, .iface 49 (.int .i64 4)] w fun e w' => e = .returned (.bool (n == 4)) ∧ w' = w := by
  have h7 := @run_callFunc_extern Tryz.prog 72 _ ReflectliteType.typeOf Tryz.func72 (by kernel_rfl) (by kernel_rfl) (by kernel_rfl) (by kernel_rfl)
  have h8 := @run_callFunc_extern Tryz.prog 141 _ (ReflectliteType.method (fun t => do Rtype.noPackHeld "Comparable" t; pure (.bool (← typeInfo t).comparable))) Tryz.func141 (by kernel_rfl) (by kernel_rfl) (by kernel_rfl) (by kernel_rfl)
  have g7 := typeOfF
  have g8 := comparableE
  have m1 := methodComparable
  by_cases h : n = 0
  · subst h
    rw [show errV 0 = .nilIface from rfl]
    go_enter Tryz.func48, Tryz.ntmps48
    go_wp2
    go_ret
    exact ⟨rfl, rfl⟩
  · rw [show errV n = .iface 49 (.int .i64 n) from if_neg h]
    go_enter Tryz.func48, Tryz.ntmps48
    go_wp2_with (go_at_call 73; refine (is_any n _).mono ?_; rintro e w' ⟨rfl, rfl⟩)
    go_ret
    exact ⟨rfl, rfl⟩
end Go.Proofs.YtnlcfnpcjkcdmaaGreatDoor
