/- errors.Is of an Errno against ErrFull: Go's own text, walked. -/
import Derived.Test.YtnlcfnpcjkcdmaaGreatErrEq
import Derived.LaidEql
import Derived.Stop.Asserts
import Derived.RowKitTokens
namespace Go.Proofs.YtnlcfnpcjkcdmaaGreat
open Go Go.RowKit Go.Extern.Stop Go.Stop Go.Extern

theorem typeOfF (v : Value) (w : World) : (ReflectliteType.typeOf #[.iface 41 v]).run Tryz.prog w = .ok (.iface 107 (.agg #[.pointer (some ⟨1, 41, none⟩)])) w := by kernel_rfl
theorem methodComparable (h : Value) (w : World) : (Go.method 264 107 (.agg #[h]) "Comparable").run Tryz.prog w = .ok (112, .agg #[h]) w := by kernel_rfl
theorem comparableE (w : World) : (ReflectliteType.method (fun t => do Rtype.noPackHeld "Comparable" t; (fun a : TypeInfo => Value.bool a.comparable) <$> typeInfo t) #[.agg #[.pointer (some ⟨1, 41, none⟩)]]).run Tryz.prog w = .ok (.bool true) w := by kernel_rfl

theorem eqlNilE (n : Int) (w : World) : (binOp .eql 28 .nilIface (.iface 41 (.int .i64 n))).run Tryz.prog w = .ok (.bool false) w := by kernel_rfl
theorem eqlEE (n m : Int) (w : World) : (binOp .eql 28 (.iface 41 (.int .i64 n)) (.iface 41 (.int .i64 m))).run Tryz.prog w = .ok (.bool (n == m)) w := by kernel_rfl
theorem assertIs (n : Int) (w : World) : (Instr.typeAssert (.iface 41 (.int .i64 n)) 28 109 true).run Tryz.prog w = .ok (.tuple #[.nilIface, .bool false]) w := run_typeAssert_lacksB Tryz.underlying109 (by kernel_rfl) (by kernel_rfl) _ _ w
theorem assertOne (n : Int) (w : World) : (Instr.typeAssert (.iface 41 (.int .i64 n)) 28 112 true).run Tryz.prog w = .ok (.tuple #[.nilIface, .bool false]) w := run_typeAssert_lacksB Tryz.underlying112 (by kernel_rfl) (by kernel_rfl) _ _ w
theorem assertMany (n : Int) (w : World) : (Instr.typeAssert (.iface 41 (.int .i64 n)) 28 114 true).run Tryz.prog w = .ok (.tuple #[.nilIface, .bool false]) w := run_typeAssert_lacksB Tryz.underlying114 (by kernel_rfl) (by kernel_rfl) _ _ w
attribute [local go_sem] eqlNilE eqlEE assertIs assertOne assertMany

set_option maxHeartbeats 1000000 in
set_option maxRecDepth 100000 in
theorem is_any (n : Int) (w : World) : Calls Tryz.prog 36 #[.iface 41 (.int .i64 n), .iface 41 (.int .i64 4), .bool true] w fun e w' => e = .returned (.bool (n == 4)) ∧ w' = w := by
  by_cases h : n = 4
  · subst h
    go_enter Tryz.func36, Tryz.ntmps36
    go_wp2
    refine wp_loop_rounds 1 ?_
    rw [rounds_succ]
    go_wp2
    go_ret
    exact ⟨rfl, rfl⟩
  · have h' : (n == 4) = false := by simpa using h
    go_enter Tryz.func36, Tryz.ntmps36
    go_wp2
    refine wp_loop_rounds 1 ?_
    rw [rounds_succ]
    go_wp2
    go_ret
    exact ⟨by rw [h']; rfl, rfl⟩

set_option maxHeartbeats 1000000 in
set_option maxRecDepth 100000 in
theorem Is_any (n : Int) (w : World) : Calls Tryz.prog 22 #[errV n, .iface 41 (.int .i64 4)] w fun e w' => e = .returned (.bool (n == 4)) ∧ w' = w := by
  have h7 := @run_callFunc_extern Tryz.prog 35 _ ReflectliteType.typeOf Tryz.func35 (by kernel_rfl) (by kernel_rfl) (by kernel_rfl) (by kernel_rfl)
  have h8 := @run_callFunc_extern Tryz.prog 112 _ (ReflectliteType.method (fun t => do Rtype.noPackHeld "Comparable" t; pure (.bool (← typeInfo t).comparable))) Tryz.func112 (by kernel_rfl) (by kernel_rfl) (by kernel_rfl) (by kernel_rfl)
  have g7 := typeOfF
  have g8 := comparableE
  have m1 := methodComparable
  by_cases h : n = 0
  · subst h
    rw [show errV 0 = .nilIface from rfl]
    go_enter Tryz.func22, Tryz.ntmps22
    go_wp2
    go_ret
    exact ⟨rfl, rfl⟩
  · rw [show errV n = .iface 41 (.int .i64 n) from if_neg h]
    go_enter Tryz.func22, Tryz.ntmps22
    go_wp2_with (go_at_call 36; refine (is_any n _).mono ?_; rintro e w' ⟨rfl, rfl⟩)
    go_ret
    exact ⟨rfl, rfl⟩
end Go.Proofs.YtnlcfnpcjkcdmaaGreat
