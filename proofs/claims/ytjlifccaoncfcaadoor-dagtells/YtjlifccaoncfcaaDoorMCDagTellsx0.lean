import Derived.Test.YtjlifccaoncfcaaDoorMA0x0
import Derived.LaidEql
import Derived.Stop.Asserts
import Derived.RowKitTokens
import Derived.OwnWalk
import Derived.RegionTactic
import Derived.Deep.RegionHeld3
import Derived.Deep.RegionLaw

/- errors.As at a target of type api.Errno, of an error that is one; plain.Told. Go's own text is walked; the facts are on the model's entries for internal/reflectlite at this program's types. -/
namespace Go.Proofs.YtjlifccaoncfcaaDoor
open Go Go.RowKit Go.Extern.Stop Go.Stop Go.Extern

theorem valueOfP (t : Addr) (w : World) : (ReflectliteValue.unpack (.iface 56 (.pointer (some t)))).run Tryd.prog w
    = .ok (.agg #[.pointer (some ⟨1, 56, none⟩), .pointer (some ⟨w.heap.size, 0, none⟩), .int .u64 150]) (w.alloc (.cells #[.pointer (some t)] 56)) := by kernel_rfl
theorem typeP (a : Addr) (w : World) : (ReflectliteValue.methodAny (ReflectliteValue.valueError "reflectlite.Value.Type" 0) (fun t _ _ _ => ReflectliteType.toType t) #[.agg #[.pointer (some ⟨1, 56, none⟩), .pointer (some a), .int .u64 150]]).run Tryd.prog w
    = .ok (.iface 77 (.agg #[.pointer (some ⟨1, 56, none⟩)])) w := by kernel_rfl
theorem kindP (w : World) : ((ReflectliteType.abiMethod fun t => (fun a : Nat => Value.int IntKind.u8 (a : Int)) <$> Rtype.kind t) #[.pointer (some ⟨1, 56, none⟩)]).run Tryd.prog w = .ok (.int .u8 22) w := by kernel_rfl
theorem kindE (w : World) : ((ReflectliteType.abiMethod fun t => (fun a : Nat => Value.int IntKind.u8 (a : Int)) <$> Rtype.kind t) #[.pointer (some ⟨1, 44, none⟩)]).run Tryd.prog w = .ok (.int .u8 2) w := by kernel_rfl
theorem methodKind (h : Value) (w : World) : (Go.method 220 77 (.agg #[h]) "Kind").run Tryd.prog w = .ok (58, h) w := by kernel_rfl
theorem methodElem (h : Value) (w : World) : (Go.method 220 77 (.agg #[h]) "Elem").run Tryd.prog w = .ok (68, .agg #[h]) w := by kernel_rfl
theorem methodImplements (h : Value) (w : World) : (Go.method 220 77 (.agg #[h]) "Implements").run Tryd.prog w = .ok (69, .agg #[h]) w := by kernel_rfl
theorem methodAssignableTo (h : Value) (w : World) : (Go.method 220 77 (.agg #[h]) "AssignableTo").run Tryd.prog w = .ok (66, .agg #[h]) w := by kernel_rfl
theorem rlm (z : Sem Value) (f : TypeId → Addr → Nat → Nat → Sem Value) (v : Value) :
    ReflectliteValue.method z f #[v] = (do match ← ReflectliteValue.parts v with | none => z | some (t, a, fl) => f t a fl (fl % 32)) := rfl
theorem partsP (a : Addr) (w : World) : (ReflectliteValue.parts (.agg #[.pointer (some ⟨1, 56, none⟩), .pointer (some a), .int .u64 150])).run Tryd.prog w = .ok (some (56, a, 150)) w := by kernel_rfl
theorem isNilP (a p : Addr) (W : World) (ha : W.cell? a = some (.pointer (some p))) :
    (ReflectliteValue.method (ReflectliteValue.valueError "reflectlite.Value.IsNil" 0) ReflectliteValue.isNil #[.agg #[.pointer (some ⟨1, 56, none⟩), .pointer (some a), .int .u64 150]]).run Tryd.prog W = .ok (.bool false) W := by
  rw [rlm]
  simp only [Sem.run_bind, partsP, Result.andThen]
  simp [ReflectliteValue.isNil, loadVar, isAgg, underlying, Tryd.underlying56, ha, Result.andThen]
theorem elemTP (w : World) : (ReflectliteType.method ReflectliteType.elem #[.agg #[.pointer (some ⟨1, 56, none⟩)]]).run Tryd.prog w = .ok (.iface 77 (.agg #[.pointer (some ⟨1, 44, none⟩)])) w := by kernel_rfl
theorem implementsE (w : World) : (ReflectliteType.relation "Implements" ReflectliteType.implements_ #[.agg #[.pointer (some ⟨1, 44, none⟩)], .iface 77 (.agg #[.pointer (some ⟨1, 26, none⟩)])]).run Tryd.prog w = .ok (.bool true) w := by kernel_rfl
theorem typeOfE (v : Value) (w : World) : (ReflectliteType.typeOf #[.iface 44 v]).run Tryd.prog w = .ok (.iface 77 (.agg #[.pointer (some ⟨1, 44, none⟩)])) w := by kernel_rfl
theorem assignableE (w : World) : (ReflectliteType.relation "AssignableTo" ReflectliteType.assignableTo #[.agg #[.pointer (some ⟨1, 44, none⟩)], .iface 77 (.agg #[.pointer (some ⟨1, 44, none⟩)])]).run Tryd.prog w = .ok (.bool true) w := by kernel_rfl
theorem valueOfE (n : Int) (w : World) : (ReflectliteValue.unpack (.iface 44 (.int .i64 n))).run Tryd.prog w
    = .ok (.agg #[.pointer (some ⟨1, 44, none⟩), .pointer (some ⟨w.heap.size, 0, none⟩), .int .u64 130]) (w.alloc (.cells #[.int .i64 n] 44)) := by kernel_rfl
theorem elemOfP (w : World) : (Rtype.elem? 56).run Tryd.prog w = .ok (some 44) w := by kernel_rfl
theorem mkE (p : Addr) (w : World) : (ReflectliteValue.mk 44 p ReflectliteValue.flagAddr).run Tryd.prog w = .ok (.agg #[.pointer (some ⟨1, 44, none⟩), .pointer (some p), .int .u64 386]) w := by kernel_rfl
theorem elemVP (a p : Addr) (W : World) (ha : W.cell? a = some (.pointer (some p))) :
    (ReflectliteValue.method (ReflectliteValue.valueError "reflectlite.Value.Elem" 0) ReflectliteValue.elem #[.agg #[.pointer (some ⟨1, 56, none⟩), .pointer (some a), .int .u64 150]]).run Tryd.prog W
      = .ok (.agg #[.pointer (some ⟨1, 44, none⟩), .pointer (some p), .int .u64 386]) W := by
  rw [rlm]
  simp only [Sem.run_bind, partsP, Result.andThen]
  simp [ReflectliteValue.elem, loadVar, isAgg, underlying, Tryd.underlying56, ha, Result.andThen, elemOfP, mkE]
theorem partsEa (a : Addr) (w : World) : (ReflectliteValue.parts (.agg #[.pointer (some ⟨1, 44, none⟩), .pointer (some a), .int .u64 386])).run Tryd.prog w = .ok (some (44, a, 386)) w := by kernel_rfl
theorem partsE (a : Addr) (w : World) : (ReflectliteValue.parts (.agg #[.pointer (some ⟨1, 44, none⟩), .pointer (some a), .int .u64 130])).run Tryd.prog w = .ok (some (44, a, 130)) w := by kernel_rfl
theorem directE (w : World) : (Rtype.directlyAssignable 44 44).run Tryd.prog w = .ok true w := by kernel_rfl
theorem setE (ta b : Addr) (n : Int) (old : Value) (W : World) (hb : W.cell? b = some (.int .i64 n)) (ht : W.cell? ta = some old) (hf : W.frozen? ta = false) :
    (ReflectliteValue.set #[.agg #[.pointer (some ⟨1, 44, none⟩), .pointer (some ta), .int .u64 386], .agg #[.pointer (some ⟨1, 44, none⟩), .pointer (some b), .int .u64 130]]).run Tryd.prog W
      = .ok (.tuple #[]) (W.setCell ta (.int .i64 n)) := by
  change Sem.run _ (ReflectliteValue.parts (.agg #[.pointer (some ⟨1, 44, none⟩), .pointer (some ta), .int .u64 386]) >>= fun p1 => ReflectliteValue.parts (.agg #[.pointer (some ⟨1, 44, none⟩), .pointer (some b), .int .u64 130]) >>= fun p2 => _) _ = _
  simp only [Sem.run_bind, partsEa, partsE, Result.andThen]
  simp [ReflectliteValue.flagAddr, loadVar, isAgg, underlying, Tryd.underlying44, hb, Result.andThen, directE, storeVar, Value.cells, storeCells, Addr.add]
  rw [run_store Tryd.prog W ta _ _ (by rfl)]
  simp [ht, hf]

end Go.Proofs.YtjlifccaoncfcaaDoor

/- errors.As at a target of type api.Errno, of an error that is one: Go's own text, walked; plain.Told. -/
namespace Go.Proofs.YtjlifccaoncfcaaDoor
open Go Go.RowKit Go.Extern.Stop Go.Stop Go.Extern

set_option maxHeartbeats 4000000 in
set_option maxRecDepth 100000 in
theorem as_hit (n : Int) (t : Addr) (old : Value) (w : World) (hg : w.cell? ⟨0, 0, none⟩ = some (.iface 77 (.agg #[.pointer (some ⟨1, 26, none⟩)]))) (ht0 : w.cell? t = some old) (hf0 : w.frozen? t = false) :
    Calls Tryd.prog 29 #[.iface 44 (.int .i64 n), .iface 56 (.pointer (some t))] w fun ev w' => ev = .returned (.bool true) ∧ w' = ((((w.alloc (.cells #[.pointer (some t)] 56)).alloc (.cells #[.pointer (some ⟨1, 56, none⟩), .pointer (some ⟨w.heap.size, 0, none⟩), .int .u64 150] 65)).alloc (.cells #[.pointer (some ⟨1, 56, none⟩), .pointer (some ⟨w.heap.size, 0, none⟩), .int .u64 150] 65)).alloc (.cells #[.int .i64 n] 44)).setCell t (.int .i64 n) := by
  have h1 := @run_callFunc_extern Tryd.prog 36 _ (fun args => ReflectliteValue.unpack (args.getD 0 (.tuple #[]))) Tryd.func36 (by kernel_rfl) (by kernel_rfl) (by kernel_rfl) (by kernel_rfl)
  have h2 := @run_callFunc_extern Tryd.prog 37 _ (ReflectliteValue.methodAny (ReflectliteValue.valueError "reflectlite.Value.Type" 0) (fun t _ _ _ => ReflectliteType.toType t)) Tryd.func37 (by kernel_rfl) (by kernel_rfl) (by kernel_rfl) (by kernel_rfl)
  have h3 := @run_callFunc_extern Tryd.prog 38 _ (ReflectliteValue.method (ReflectliteValue.valueError "reflectlite.Value.IsNil" 0) ReflectliteValue.isNil) Tryd.func38 (by kernel_rfl) (by kernel_rfl) (by kernel_rfl) (by kernel_rfl)
  have h4 := @run_callFunc_extern Tryd.prog 58 _ (ReflectliteType.abiMethod fun t => do pure (.int .u8 (← Rtype.kind t))) Tryd.func58 (by kernel_rfl) (by kernel_rfl) (by kernel_rfl) (by kernel_rfl)
  have h5 := @run_callFunc_extern Tryd.prog 68 _ (ReflectliteType.method ReflectliteType.elem) Tryd.func68 (by kernel_rfl) (by kernel_rfl) (by kernel_rfl) (by kernel_rfl)
  have h6 := @run_callFunc_extern Tryd.prog 69 _ (ReflectliteType.relation "Implements" ReflectliteType.implements_) Tryd.func69 (by kernel_rfl) (by kernel_rfl) (by kernel_rfl) (by kernel_rfl)
  have h7 := @run_callFunc_extern Tryd.prog 41 _ ReflectliteType.typeOf Tryd.func41 (by kernel_rfl) (by kernel_rfl) (by kernel_rfl) (by kernel_rfl)
  have h8 := @run_callFunc_extern Tryd.prog 66 _ (ReflectliteType.relation "AssignableTo" ReflectliteType.assignableTo) Tryd.func66 (by kernel_rfl) (by kernel_rfl) (by kernel_rfl) (by kernel_rfl)
  have h9 := @run_callFunc_extern Tryd.prog 42 _ (ReflectliteValue.method (ReflectliteValue.valueError "reflectlite.Value.Elem" 0) ReflectliteValue.elem) Tryd.func42 (by kernel_rfl) (by kernel_rfl) (by kernel_rfl) (by kernel_rfl)
  have h10 := @run_callFunc_extern Tryd.prog 43 _ ReflectliteValue.set Tryd.func43 (by kernel_rfl) (by kernel_rfl) (by kernel_rfl) (by kernel_rfl)
  have g1 := valueOfP
  have g2 := typeP
  have g3 := kindP
  have g4 := kindE
  have g5 := elemTP
  have g6 := implementsE
  have g7 := typeOfE
  have g8 := assignableE
  have g9 := valueOfE
  have m1 := methodKind
  have m2 := methodElem
  have m3 := methodImplements
  have m4 := methodAssignableTo
  have n8 := isNilP ⟨w.heap.size, 0, none⟩ t ((w.alloc (.cells #[.pointer (some t)] 56)).alloc (.cells #[.pointer (some ⟨1, 56, none⟩), .pointer (some ⟨w.heap.size, 0, none⟩), .int .u64 150] 65)) (by simp)
  have hlt : 0 < w.heap.size := by
    rcases Nat.eq_zero_or_pos w.heap.size with h0 | h
    · simp [World.cell?, h0] at hg
    · exact h
  have hg2 : ((w.alloc (.cells #[.pointer (some t)] 56)).alloc (.cells #[.pointer (some ⟨1, 56, none⟩), .pointer (some ⟨w.heap.size, 0, none⟩), .int .u64 150] 65)).cell? ⟨0, 0, none⟩ = some (.iface 77 (.agg #[.pointer (some ⟨1, 26, none⟩)])) := by
    rw [World.cell?_alloc_lt _ _ ⟨0, 0, none⟩ (by simp), World.cell?_alloc_lt _ _ ⟨0, 0, none⟩ hlt]; exact hg
  have htl : t.block < w.heap.size := by
    rcases Nat.lt_or_ge t.block w.heap.size with h | h
    · exact h
    · simp [World.cell?, Array.getElem?_eq_none h] at ht0
  have el := elemVP ⟨w.heap.size, 0, none⟩ t (((w.alloc (.cells #[.pointer (some t)] 56)).alloc (.cells #[.pointer (some ⟨1, 56, none⟩), .pointer (some ⟨w.heap.size, 0, none⟩), .int .u64 150] 65)).alloc (.cells #[.pointer (some ⟨1, 56, none⟩), .pointer (some ⟨w.heap.size, 0, none⟩), .int .u64 150] 65)) (by rw [World.cell?_alloc_lt _ _ ⟨w.heap.size, 0, none⟩ (by simp; omega)]; simp)
  have st := setE t ⟨w.heap.size + 1 + 1 + 1, 0, none⟩ n old ((((w.alloc (.cells #[.pointer (some t)] 56)).alloc (.cells #[.pointer (some ⟨1, 56, none⟩), .pointer (some ⟨w.heap.size, 0, none⟩), .int .u64 150] 65)).alloc (.cells #[.pointer (some ⟨1, 56, none⟩), .pointer (some ⟨w.heap.size, 0, none⟩), .int .u64 150] 65)).alloc (.cells #[.int .i64 n] 44))
    (by rw [World.cell?_alloc_at _ _ _ _ (by simp)]; rfl)
    (by rw [World.cell?_alloc_lt _ _ t (by simp; omega), World.cell?_alloc_lt _ _ t (by simp; omega), World.cell?_alloc_lt _ _ t (by simp; omega), World.cell?_alloc_lt _ _ t htl]; exact ht0)
    (by rw [World.frozen?_alloc_old _ _ t (by simp; omega), World.frozen?_alloc_old _ _ t (by simp; omega), World.frozen?_alloc_old _ _ t (by simp; omega), World.frozen?_alloc_old _ _ t (Nat.ne_of_lt htl)]; exact hf0)
  go_enter Tryd.func29, Tryd.ntmps29
  go_wp2
  refine wp_loop_rounds 1 ?_
  rw [rounds_succ]
  go_wp2
  go_ret
  exact ⟨rfl, rfl⟩

/-- the error type's variable, as the program lays it -/
def errVar (w : World) : Prop := w.cell? ⟨0, 0, none⟩ = some (.iface 77 (.agg #[.pointer (some ⟨1, 26, none⟩)]))

theorem errVar.below {w w' : World} (h : errVar w) (hb : Below w.heap.size w w') : errVar w' := by
  unfold errVar at *
  have hlt : 0 < w.heap.size := by
    rcases Nat.eq_zero_or_pos w.heap.size with h0 | h'
    · simp [World.cell?, h0] at h
    · exact h'
  rw [hb.cell (p := ⟨0, 0, none⟩) hlt]; exact h

theorem Told_nil (w : World) : Calls Tryd.prog 17 #[.nilIface] w fun e w' => e = .returned (.int .i64 0) ∧ Below w.heap.size w w' := by
  go_enter Tryd.func17, Tryd.ntmps17
  go_wp2
  go_ret
  exact ⟨rfl, Below.refl _ _⟩

set_option maxHeartbeats 1000000 in
theorem Told_hit (n : Int) (w : World) (hg : errVar w) : Calls Tryd.prog 17 #[.iface 44 (.int .i64 n)] w fun e w' => e = .returned (.int .i64 n) ∧ Below w.heap.size w w' := by
  have hgA := hg.below (balloc w (.cells #[.int .i64 0] 44))
  unfold errVar at hgA
  have htA : (w.alloc (.cells #[.int .i64 0] 44)).cell? ⟨w.heap.size, 0, none⟩ = some (.int .i64 0) := by simp
  have hfA : (w.alloc (.cells #[.int .i64 0] 44)).frozen? ⟨w.heap.size, 0, none⟩ = false := by simp
  go_enter Tryd.func17, Tryd.ntmps17
  go_wp2_with fail
  refine (as_hit n _ (.int .i64 0) _ hgA htA hfA).mono ?_
  rintro e w' ⟨rfl, rfl⟩
  go_wp2_with fail
  go_ret
  exact ⟨rfl, bstep (bstep (bstep (bstep (balloc _ _) (balloc _ _)) (balloc _ _)) (balloc _ _)) (balloc _ _)⟩

/-- stratasame.Error: is it the error of that number? -/
theorem SameError_any (m e : Int) (w : World) (hg : errVar w) : Calls Tryd.prog 6 #[errV m, .int .i64 e] w fun r w' => r = .returned (.bool (m == e)) ∧ Below w.heap.size w w' := by
  by_cases h : m = 0
  · subst h
    rw [show errV 0 = .nilIface from rfl]
    go_enter Tryd.func6, Tryd.ntmps6
    go_wp2_with (go_at_call 17; refine (Told_nil _).mono ?_; rintro e w1 ⟨rfl, hb⟩)
    go_ret
    exact ⟨rfl, hb⟩
  · rw [show errV m = .iface 44 (.int .i64 m) from if_neg h]
    go_enter Tryd.func6, Tryd.ntmps6
    go_wp2_with (go_at_call 17; refine (Told_hit m _ hg).mono ?_; rintro e w1 ⟨rfl, hb⟩)
    go_ret
    exact ⟨rfl, hb⟩
end Go.Proofs.YtjlifccaoncfcaaDoor

/- The document's answer (package strataref2): Message, In. -/
namespace Go.Proofs.YtjlifccaoncfcaaDoor
open Go Go.RowKit Go.Proofs
set_option synthInstance.maxSize 1000

set_option maxHeartbeats 2000000 in
set_option maxRecDepth 100000 in
theorem RIn_any (ad : Option Addr) (ca : Nat) (l : List Int) (n : Int) (w : World) (hl : SlI w ad l) (hz : l.length ≤ 1000000) :
    Calls Tryd.prog 12 #[.slice ad l.length ca, .int .i64 n] w fun e w' => e = .returned (.bool (l.contains n)) ∧ w' = w := by
  have Hl := hideO hl
  clear hl
  obtain ⟨ans, hans⟩ : ∃ ans, l.contains n = ans := ⟨_, rfl⟩
  rw [hans]
  have Hans := hideO hans
  clear hans
  go_enter Tryd.func12, Tryd.ntmps12
  go_wp2_with fail
  go_loopw [5] (fun i wr => ∃ (k : Nat), k ≤ l.length ∧ i = .int .i64 k ∧ wr = w ∧ Hid (∀ x ∈ l.take k, x ≠ n)) (fun i wr => l.length - (intOf i).toNat)
  case atStart => exact ⟨0, by omega, rfl, rfl, by show ∀ x ∈ _, _; simp⟩
  case round =>
    obtain ⟨k, hk, rfl, hw, hs⟩ := hrel
    obtain rfl : w = wr := hw.symm
    by_cases hlt : k < l.length
    · obtain ⟨b, o, rfl, c0⟩ := Hl.out.at hlt
      have i0 : (0 : Int) ≤ (k : Int) := by omega
      have i1 : (k : Int) < (l.length : Int) := by omega
      by_cases he : l[k] = n
      · have hd : (l[k] == n) = true := by simpa using he
        have hf : Hid (ans = true) := by
          show _ = _
          rw [← Hans.out, List.contains_eq_mem, decide_eq_true_eq, ← he]
          exact List.getElem_mem hlt
        clear he
        go_wp2
        go_ret
        exact ⟨by rw [hf.out]; rfl, rfl⟩
      · have hd : (l[k] == n) = false := by simpa using he
        have hs' : Hid (∀ x ∈ l.take (k + 1), x ≠ n) := by
          show ∀ x ∈ _, _
          rw [List.take_succ_eq_append_getElem hlt]
          intro x hx
          rcases List.mem_append.1 hx with hx | hx
          · exact hs.out x hx
          · simp at hx; subst hx; exact he
        clear he
        go_wp2
        exact ⟨⟨k + 1, by omega, by go_num, by trivial, hs'⟩, by simp [intOf]; omega⟩
    · obtain rfl : k = l.length := by omega
      have hf : Hid (ans = false) := by
        show _ = _
        rw [← Hans.out, List.contains_eq_mem, decide_eq_false_iff_not]
        intro hm
        have := hs.out n (by rw [List.take_length]; exact hm)
        exact this rfl
      go_wp2
      go_ret
      exact ⟨by rw [hf.out]; rfl, rfl⟩

theorem okM_take {l : List UInt8} {k : Nat} (hk : k < l.length) : okM (l.take (k + 1)) = (okM (l.take k) && decide (32 ≤ l[k].toNat ∧ l[k].toNat ≤ 126)) := by
  unfold okM
  rw [List.take_succ_eq_append_getElem hk, List.all_append]
  simp
set_option maxHeartbeats 2000000 in
set_option maxRecDepth 100000 in
theorem RMessage_any (l : List UInt8) (w : World) :
    Calls Tryd.prog 15 #[.string ⟨l.toArray⟩] w fun e w' => e = .returned (.int .i64 (msgN l)) ∧ w' = w := by
  by_cases h24 : 24 < l.length
  · have hf : Hid (msgN l = 4) := by show _ = _; unfold msgN; rw [if_pos h24]
    have j0 : (24 : Int) < (l.length : Int) := by omega
    go_enter Tryd.func15, Tryd.ntmps15
    go_wp2
    go_ret
    exact ⟨by rw [hf.out]; rfl, rfl⟩
  · have hmsg : Hid (msgN l = if okM l = true then 0 else 2) := by show _ = _; unfold msgN; rw [if_neg h24]
    have j0 : ¬ (24 : Int) < (l.length : Int) := by omega
    have hz : l.length ≤ 24 := by omega
    clear h24
    go_enter Tryd.func15, Tryd.ntmps15
    go_wp2_with fail
    go_loopw [3] (fun i wr => ∃ (k : Nat), k ≤ l.length ∧ i = .int .i64 k ∧ wr = w ∧ Hid (okM (l.take k) = true)) (fun i wr => l.length - (intOf i).toNat)
    case atStart => exact ⟨0, by omega, rfl, rfl, by show _ = _; simp [okM]⟩
    case round =>
      obtain ⟨k, hk, rfl, hw, hs⟩ := hrel
      obtain rfl : w = wr := hw.symm
      by_cases hlt : k < l.length
      · have i0 : (0 : Int) ≤ (k : Int) := by omega
        have i1 : (k : Int) < (l.length : Int) := by omega
        have hot := hideO (okM_take hlt)
        have hidx : ∀ h, (⟨l.toArray⟩ : ByteArray)[k]'h = l[k] := fun _ => rfl
        by_cases h1 : l[k].toNat < 32
        · have g1 : ((l[k].toNat : Int) < 32) := by omega
          have hf : Hid (msgN l = 2) := by
            show _ = _
            rw [hmsg.out, if_neg]
            intro h
            unfold okM at h
            rw [List.all_eq_true] at h
            have := h _ (List.getElem_mem hlt)
            simp at this
            omega
          clear h1
          go_wp2
          go_ret
          exact ⟨by rw [hf.out]; rfl, rfl⟩
        · by_cases h2 : 126 < l[k].toNat
          · have g1 : ¬ ((l[k].toNat : Int) < 32) := by omega
            have g2 : (126 : Int) < (l[k].toNat : Int) := by omega
            have hf : Hid (msgN l = 2) := by
              show _ = _
              rw [hmsg.out, if_neg]
              intro h
              unfold okM at h
              rw [List.all_eq_true] at h
              have := h _ (List.getElem_mem hlt)
              simp at this
              omega
            clear h1 h2
            go_wp2
            go_ret
            exact ⟨by rw [hf.out]; rfl, rfl⟩
          · have g1 : ¬ ((l[k].toNat : Int) < 32) := by omega
            have g2 : ¬ (126 : Int) < (l[k].toNat : Int) := by omega
            have hs' : Hid (okM (l.take (k + 1)) = true) := by
              show _ = _
              rw [hot.out, hs.out]
              simp
              omega
            clear h1 h2
            go_wp2
            exact ⟨⟨k + 1, by omega, by go_num, by trivial, hs'⟩, by simp [intOf]; omega⟩
      · obtain rfl : k = l.length := by omega
        have hf : Hid (msgN l = 0) := by
          show _ = _
          have := hs.out
          rw [List.take_length] at this
          rw [hmsg.out, if_pos this]
        go_wp2
        go_ret
        exact ⟨by rw [hf.out]; rfl, rfl⟩
end Go.Proofs.YtjlifccaoncfcaaDoor

/- The document's answer (package strataref2): Commits. -/
namespace Go.Proofs.YtjlifccaoncfcaaDoor
open Go Go.RowKit Go.Proofs
set_option synthInstance.maxSize 1000

theorem coms_at {l : List Cm} (hz : ¬ 60 < l.length) {k : Nat} (hk : k < l.length) (hn : ∀ (j : Nat) (hj : j < k), comN (l[j]'(by omega)) j = 0) {e : Int} (he : comN l[k] k = e) (h0 : e ≠ 0) : comsN l = (k, e) := by
  unfold comsN
  rw [if_neg hz]
  have := firstC_at (i := 0) hk (fun j hj => by simpa using hn j hj) (by simpa [he] using h0)
  simpa [he] using this

theorem twin_two {p : List Int} (h : p.length = 2) : twinB p = decide (p[0]'(by omega) = p[1]'(by omega)) := by
  match p, h with
  | [a, b], _ => rfl
theorem twin_not {p : List Int} (h : ¬ p.length = 2) : twinB p = false := by
  match p, h with
  | [], _ => rfl
  | [_], _ => rfl
  | [a, b], h => simp at h
  | _ :: _ :: _ :: _, _ => rfl
set_option maxHeartbeats 8000000 in
set_option maxRecDepth 100000 in
theorem RCommits_any (ad : Option Addr) (ca : Nat) (l : List Cm) (w : World) (hl : SlC w ad l) (hz : l.length ≤ 9223372036854775807) (hps : ∀ c ∈ l, c.1.length ≤ 9223372036854775807) :
    Calls Tryd.prog 4 #[.slice ad l.length ca] w fun e w' => e = .returned (.tuple #[.int .i64 ((comsN l).1 : Int), .int .i64 (comsN l).2]) ∧ RowKit.Below w.heap.size w w' := by
  have Hl := hideO hl
  have Hps := hideO hps
  clear hl hps
  by_cases h60 : 60 < l.length
  · have j0 : (60 : Int) < (l.length : Int) := by omega
    have hf : Hid (comsN l = (0, 4)) := by show _ = _; unfold comsN; rw [if_pos h60]
    generalize comsN l = A at *
    go_enter Tryd.func4, Tryd.ntmps4
    go_wp2_with fail
    exact bodyPost_ret (v := .tuple #[.int .i64 0, .int .i64 4]) (by simp [results, Tryd.results4, go_sem]) rfl ⟨by rw [hf.out]; rfl, RowKit.Below.refl _ _⟩
  · have j0 : ¬ (60 : Int) < (l.length : Int) := by omega
    have hat : Hid (∀ (k : Nat) (hk : k < l.length), (∀ (j : Nat) (hj : j < k), comN (l[j]'(by omega)) j = 0) → ∀ e : Int, comN l[k] k = e → e ≠ 0 → comsN l = (k, e)) := fun k hk hn e he h0 => coms_at h60 hk hn he h0
    have hno : Hid ((∀ (j : Nat) (hj : j < l.length), comN l[j] j = 0) → comsN l = (0, 0)) := fun h => by
      unfold comsN
      rw [if_neg h60, firstC_none fun j hj => by simpa using h j hj]
    generalize comsN l = A at *
    go_enter Tryd.func4, Tryd.ntmps4
    go_wp2_with fail
    go_loopw [4] (fun i wr => ∃ (k q : Nat), k ≤ l.length ∧ i = .int .i64 k ∧ wr = w.drewN q ∧ Hid (∀ (j : Nat) (_ : j < k) (hj : j < l.length), comN l[j] j = 0)) (fun i wr => l.length - (intOf i).toNat)
    case atStart => exact ⟨0, 0, by omega, rfl, rfl, fun j hj => by omega⟩
    case round =>
      obtain ⟨k, q, hk, rfl, rfl, hs⟩ := hrel
      by_cases hlt : k < l.length
      · obtain ⟨b, o, ap, cp, rfl, d0, d1, d2, hsp⟩ := Hl.out.at hlt
        have k0 : (0 : Int) ≤ (k : Int) := by omega
        have k1 : (k : Int) < (l.length : Int) := by omega
        have Hsp := hideO hsp
        have hpz := Hps.out _ (List.getElem_mem hlt)
        have HM := RMessage_any l[k].2.2
        have hhit : Hid (∀ e : Int, comN l[k] k = e → e ≠ 0 → A = (k, e)) := fun e he h0 => hat.out k hlt (fun j hj => hs.out j hj (by omega)) e he h0
        have hnext : Hid (comN l[k] k = 0 → ∀ (j : Nat) (_ : j < k + 1) (hj : j < l.length), comN l[j] j = 0) := fun h j h1 hj => by
          rcases (by omega : j < k ∨ j = k) with h2 | rfl
          · exact hs.out j h2 hj
          · exact h
        have hcom : Hid (comN l[k] k = if 2 < l[k].1.length ∨ msgN l[k].2.2 = 4 then 4 else if rangeB l[k].1 k = false then 1 else if twinB l[k].1 = true then 7 else if msgN l[k].2.2 ≠ 0 then msgN l[k].2.2 else if l[k].2.1 < 1 ∨ 300 < l[k].2.1 then 1 else 0) := rfl
        clear hsp
        generalize comN l[k] k = N at *
        generalize hc1 : l[k].1 = ps at *
        generalize hc2 : l[k].2.1 = ly at *
        generalize hc3 : l[k].2.2 = ms at *
        clear hc1 hc2 hc3
        have hm9 : msgN ms = 0 ∨ msgN ms = 2 ∨ msgN ms = 4 := by unfold msgN; split; exact Or.inr (Or.inr rfl); split; exact Or.inl rfl; exact Or.inr (Or.inl rfl)
        generalize msgN ms = mn at *
        go_wp2_with fail
        refine (HM _).mono ?_
        rintro e w1 ⟨rfl, rfl⟩
        by_cases h2 : 2 < ps.length
        · have g2 : (2 : Int) < (ps.length : Int) := by omega
          have hA := hideO (hhit.out 4 (by rw [hcom.out, if_pos (Or.inl h2)]) (by decide))
          go_wp2_with fail
          exact bodyPost_ret (v := .tuple #[.int .i64 (k : Int), .int .i64 4]) (by simp [results, Tryd.results4, go_sem]) rfl ⟨by rw [hA.out], bdO _ _⟩
        · have g2 : ¬ (2 : Int) < (ps.length : Int) := by omega
          by_cases h4 : mn = 4
          · subst h4
            have hA := hideO (hhit.out 4 (by rw [hcom.out, if_pos (Or.inr rfl)]) (by decide))
            go_wp2_with fail
            exact bodyPost_ret (v := .tuple #[.int .i64 (k : Int), .int .i64 4]) (by simp [results, Tryd.results4, go_sem]) rfl ⟨by rw [hA.out], bdO _ _⟩
          · have g4 : (mn == 4) = false := by simpa using h4
            have hcom2 : Hid (N = if rangeB ps k = false then 1 else if twinB ps = true then 7 else if mn ≠ 0 then mn else if ly < 1 ∨ 300 < ly then 1 else 0) := by
              show _ = _
              rw [hcom.out, if_neg (fun h => h.elim h2 h4)]
            clear h2 h4 hcom
            go_wp2_with fail
            go_loopw [7] (fun jj w6 => ∃ (j q2 : Nat), j ≤ ps.length ∧ jj = .int .i64 j ∧ w6 = w.drewN q2 ∧ Hid (rangeB (ps.take j) k = true)) (fun jj w6 => ps.length - (intOf jj).toNat)
            case atStart => exact ⟨0, q, by omega, rfl, rfl, by show _ = _; simp [rangeB]⟩
            case round =>
              obtain ⟨j, q2, hj, rfl, rfl, hr⟩ := hrel
              by_cases hjl : j < ps.length
              · obtain ⟨b2, o2, rfl, e0⟩ := Hsp.out.at hjl
                have j0' : (0 : Int) ≤ (j : Int) := by omega
                have j1 : (j : Int) < (ps.length : Int) := by omega
                have hbad : Hid (¬ (0 ≤ ps[j] ∧ ps[j] < (k : Int)) → N = 1) := fun h => by
                  rw [hcom2.out, if_pos]
                  unfold rangeB
                  rw [List.all_eq_false]
                  exact ⟨ps[j], List.getElem_mem hjl, by simpa using h⟩
                have hgood : Hid ((0 ≤ ps[j] ∧ ps[j] < (k : Int)) → rangeB (ps.take (j + 1)) k = true) := fun h => by
                  have := hr.out
                  unfold rangeB at this ⊢
                  rw [List.take_succ_eq_append_getElem hjl, List.all_append, this]
                  simpa using h
                generalize ps[j] = x at *
                by_cases h1 : x < 0
                · have hA := hideO (hhit.out 1 (hbad.out (by omega)) (by decide))
                  go_wp2_with fail
                  exact bodyPost_ret (v := .tuple #[.int .i64 (k : Int), .int .i64 1]) (by simp [results, Tryd.results4, go_sem]) rfl ⟨by rw [hA.out], bdO _ _⟩
                · by_cases h2 : (k : Int) ≤ x
                  · have hA := hideO (hhit.out 1 (hbad.out (by omega)) (by decide))
                    go_wp2_with fail
                    exact bodyPost_ret (v := .tuple #[.int .i64 (k : Int), .int .i64 1]) (by simp [results, Tryd.results4, go_sem]) rfl ⟨by rw [hA.out], bdO _ _⟩
                  · have hr' := hideO (hgood.out (by omega))
                    go_wp2_with fail
                    go_roundw
                    case rel => exact ⟨j + 1, q2, by omega, by go_num, rfl, hr'⟩
                    case measure => simp [intOf]; omega
              · obtain rfl : j = ps.length := by omega
                have hrg : rangeB ps k = true := by have := hr.out; rwa [List.take_length] at this
                have hcom3 : Hid (N = if twinB ps = true then 7 else if mn ≠ 0 then mn else if ly < 1 ∨ 300 < ly then 1 else 0) := by
                  show _ = _
                  rw [hcom2.out, if_neg (by rw [hrg]; decide)]
                clear hrg hcom2
                by_cases hl2 : ps.length = 2
                · obtain ⟨b2, o2, rfl, hc⟩ := Hsp.out (fun e => by rw [e] at hl2; simp at hl2)
                  have e0 : w.cell? ⟨b2, o2, none⟩ = some (.int .i64 (ps[0]'(by omega))) := by have := hc 0 (by omega); simpa using this
                  have e1 : w.cell? ⟨b2, o2 + 1, none⟩ = some (.int .i64 (ps[1]'(by omega))) := hc 1 (by omega)
                  have htw : twinB ps = decide (ps[0]'(by omega) = ps[1]'(by omega)) := twin_two hl2
                  have t0 : ((ps.length : Int) == 2) = true := by simp [hl2]
                  have t1 : (1 : Int) < (ps.length : Int) := by omega
                  have t2 : (0 : Int) < (ps.length : Int) := by omega
                  clear hc
                  generalize ps[0]'(by omega) = a at *
                  generalize ps[1]'(by omega) = b' at *
                  clear hl2
                  by_cases hab : a = b'
                  · have hA := hideO (hhit.out 7 (by rw [hcom3.out, if_pos (by rw [htw]; simpa using hab)]) (by decide))
                    have tab : (a == b') = true := by simpa using hab
                    clear hab htw
                    go_wp2_with fail
                    go_region
                    go_wp2_with fail
                    exact bodyPost_ret (v := .tuple #[.int .i64 (k : Int), .int .i64 7]) (by simp [results, Tryd.results4, go_sem]) rfl ⟨by rw [hA.out], bdO _ _⟩
                  · have tab : (a == b') = false := by simpa using hab
                    have hcom4 : Hid (N = if mn ≠ 0 then mn else if ly < 1 ∨ 300 < ly then 1 else 0) := by
                      show _ = _
                      rw [hcom3.out, if_neg (by rw [htw]; simpa using hab)]
                    clear hab htw hcom3
                    rcases hm9 with rfl | rfl | rfl
                    · by_cases hy1 : ly < 1
                      · have hA := hideO (hhit.out 1 (by rw [hcom4.out, if_neg (by decide), if_pos (Or.inl hy1)]) (by decide))
                        go_wp2_with fail
                        go_region
                        go_wp2_with fail
                        exact bodyPost_ret (v := .tuple #[.int .i64 (k : Int), .int .i64 1]) (by simp [results, Tryd.results4, go_sem]) rfl ⟨by rw [hA.out], bdO _ _⟩
                      · by_cases hy2 : 300 < ly
                        · have hA := hideO (hhit.out 1 (by rw [hcom4.out, if_neg (by decide), if_pos (Or.inr hy2)]) (by decide))
                          go_wp2_with fail
                          go_region
                          go_wp2_with fail
                          exact bodyPost_ret (v := .tuple #[.int .i64 (k : Int), .int .i64 1]) (by simp [results, Tryd.results4, go_sem]) rfl ⟨by rw [hA.out], bdO _ _⟩
                        · have hn2 := hideO (hnext.out (by rw [hcom4.out, if_neg (by decide), if_neg (fun h => h.elim hy1 hy2)]))
                          go_wp2_with fail
                          go_region
                          go_wp2_with fail
                          go_roundw
                          case rel => exact ⟨k + 1, _, by omega, by go_num, by first | rfl | exact World.drewN_succ _ _, hn2⟩
                          case measure => simp [intOf]; omega
                    · have hA := hideO (hhit.out 2 (by rw [hcom4.out, if_pos (by decide)]) (by decide))
                      go_wp2_with fail
                      go_region
                      go_wp2_with fail
                      exact bodyPost_ret (v := .tuple #[.int .i64 (k : Int), .int .i64 2]) (by simp [results, Tryd.results4, go_sem]) rfl ⟨by rw [hA.out], bdO _ _⟩
                    · simp at g4
                · have t0 : ((ps.length : Int) == 2) = false := by simp; omega
                  have hcom4 : Hid (N = if mn ≠ 0 then mn else if ly < 1 ∨ 300 < ly then 1 else 0) := by
                    show _ = _
                    rw [hcom3.out, if_neg (by rw [twin_not hl2]; decide)]
                  clear hl2 hcom3
                  rcases hm9 with rfl | rfl | rfl
                  · by_cases hy1 : ly < 1
                    · have hA := hideO (hhit.out 1 (by rw [hcom4.out, if_neg (by decide), if_pos (Or.inl hy1)]) (by decide))
                      go_wp2_with fail
                      go_region
                      go_wp2_with fail
                      exact bodyPost_ret (v := .tuple #[.int .i64 (k : Int), .int .i64 1]) (by simp [results, Tryd.results4, go_sem]) rfl ⟨by rw [hA.out], bdO _ _⟩
                    · by_cases hy2 : 300 < ly
                      · have hA := hideO (hhit.out 1 (by rw [hcom4.out, if_neg (by decide), if_pos (Or.inr hy2)]) (by decide))
                        go_wp2_with fail
                        go_region
                        go_wp2_with fail
                        exact bodyPost_ret (v := .tuple #[.int .i64 (k : Int), .int .i64 1]) (by simp [results, Tryd.results4, go_sem]) rfl ⟨by rw [hA.out], bdO _ _⟩
                      · have hn2 := hideO (hnext.out (by rw [hcom4.out, if_neg (by decide), if_neg (fun h => h.elim hy1 hy2)]))
                        go_wp2_with fail
                        go_region
                        go_wp2_with fail
                        go_roundw
                        case rel => exact ⟨k + 1, _, by omega, by go_num, by first | rfl | exact World.drewN_succ _ _, hn2⟩
                        case measure => simp [intOf]; omega
                  · have hA := hideO (hhit.out 2 (by rw [hcom4.out, if_pos (by decide)]) (by decide))
                    go_wp2_with fail
                    go_region
                    go_wp2_with fail
                    exact bodyPost_ret (v := .tuple #[.int .i64 (k : Int), .int .i64 2]) (by simp [results, Tryd.results4, go_sem]) rfl ⟨by rw [hA.out], bdO _ _⟩
                  · simp at g4
      · obtain rfl : k = l.length := by omega
        have hA := hideO (hno.out fun j hj => hs.out j hj hj)
        go_wp2_with fail
        exact bodyPost_ret (v := .tuple #[.int .i64 0, .int .i64 0]) (by simp [results, Tryd.results4, go_sem]) rfl ⟨by rw [hA.out]; rfl, bdO _ _⟩
end Go.Proofs.YtjlifccaoncfcaaDoor

/- The document's answer (package strataref2): Ancestors. -/
namespace Go.Proofs.YtjlifccaoncfcaaDoor
open Go Go.RowKit Go.Proofs
set_option synthInstance.maxSize 1000

/-- what Ancestors answers -/
def UpAns (w : World) (l : List Cm) (i : Nat) (e : Ending) (w' : World) : Prop :=
  ∃ a c m, e = .returned (.slice a m.length c) ∧ RiseN m ∧ (∀ k, k ∈ m ↔ Up l i k) ∧ SlI w' a (m.map fun k : Nat => (k : Int)) ∧ RowKit.Below w.heap.size w w' ∧ m.length ≤ 60

set_option maxHeartbeats 8000000 in
set_option maxRecDepth 100000 in
theorem RAncestors_any (ad : Option Addr) (ca : Nat) (l : List Cm) (i : Nat) (w : World) (hl : SlC w ad l) (hG : GoodC l) (hi : i < l.length) :
    Calls Tryd.prog 7 #[.slice ad l.length ca, .int .i64 (i : Int)] w fun e w' => UpAns w l i e w' := by
  have Hl := hideO hl
  have HG := hideO hG
  have hz : l.length ≤ 60 := hG.1
  have hmk := fun W => makeBoolsO l.length W (by omega)
  have hM1 : Hid (MarkAt (w.alloc (rowB (List.replicate l.length false))) w.heap.size (List.replicate l.length false)) := by
    show (w.heap.push _)[w.heap.size]? = _
    simp
  have hBl : (List.replicate l.length false).length = l.length := by simp
  have hB0 : Hid (∀ k, onB (List.replicate l.length false) k = false) := fun k => by
    unfold onB
    rw [List.getD_eq_getElem?_getD, List.getElem?_replicate]
    split <;> rfl
  have hb1 : Hid (RowKit.Below w.heap.size w (w.alloc (rowB (List.replicate l.length false)))) := balloc _ _
  have i0 : (0 : Int) ≤ (i : Int) := by omega
  have i1 : (i : Int) < (l.length : Int) := by omega
  clear hl hG
  generalize List.replicate l.length false = B0 at *
  have c1 := hM1.out.cell (j := i) (by omega)
  obtain ⟨c1, f1⟩ := c1
  rw [hB0.out i] at c1
  have hM2 := hideO (hM1.out.set i)
  have hb2 : Hid (RowKit.Below w.heap.size w ((w.alloc (rowB B0)).setCell ⟨w.heap.size, i, none⟩ (.bool true))) := hb1.out.setCell (p := ⟨w.heap.size, i, none⟩) (Nat.le_refl _) _
  have hS2 : Hid (SoundB l i (B0.set i true)) := SoundB.set (fun k hk => by rw [hB0.out k] at hk; cases hk) (by omega) (Up.refl l i)
  have hI2 : Hid (onB (B0.set i true) i = true) := by show _ = _; rw [onB_set (by omega), if_pos rfl]
  have hL2 : (B0.set i true).length = l.length := by simp [hBl]
  clear hM1 hb1 hB0
  go_enter Tryd.func7, Tryd.ntmps7
  go_wp2_with fail
  generalize hW2 : (w.alloc (rowB B0)).setCell ⟨w.heap.size, i, none⟩ (.bool true) = w2 at *
  generalize B0.set i true = B2 at *
  clear hW2 c1 f1 hmk hBl
  generalize hbi : w.heap.size = bi at *
  go_loopw [6] (fun ag wr => ∃ (B : List Bool) (g : Bool), ag = .bool g ∧ B.length = l.length ∧ Hid (onB B i = true) ∧ Hid (SoundB l i B) ∧ Hid (g = false → ClosedTo l B l.length) ∧ Hid (MarkAt wr bi B) ∧ Hid (RowKit.Below bi w wr)) (fun ag wr => 2 * nW wr bi + (match ag with | .bool true => 1 | _ => 0))
  case atStart => exact ⟨B2, true, rfl, hL2, hI2, hS2, (fun h => by cases h), hM2, hb2⟩
  case round =>
    obtain ⟨B, g, rfl, hBl, hI, hS, hC, hM, hb⟩ := hrel
    generalize hW0 : wr = W0 at *
    clear hW0
    cases g with
    | false =>
      have hC' := hideO (hC.out rfl)
      obtain ⟨i0', hi0, hz0, hz1, hz2⟩ := info_parts infoU
      go_wp2_with fail
      go_loopw [10, 11] (fun v kk w6 => ∃ (k : Nat), k ≤ l.length ∧ kk = .int .i64 k ∧ Hid (w6.ownsRow W0.heap.size 3 1 v (markedB B k).length (cellsU (markedB B k))) ∧ Hid (RowKit.Below W0.heap.size W0 w6)) (fun _ kk w6 => l.length - (intOf kk).toNat)
      case atStart => exact ⟨0, by omega, rfl, World.ownsRow_nil _ _ _ _, RowKit.Below.refl _ _⟩
      case round =>
        obtain ⟨k, hk, rfl, ho, hbw⟩ := hrel
        by_cases hlt : k < l.length
        · have c6 := ((hM.out.below hbw.out).cell (j := k) (by omega)).1
          have k0 : (0 : Int) ≤ (k : Int) := by omega
          have k1 : (k : Int) < (l.length : Int) := by omega
          have hmn := marked_next B k
          have hml := marked_len B k
          cases hon : onB B k with
          | false =>
            rw [hon] at c6 hmn
            have hmn' : Hid (markedB B (k + 1) = markedB B k) := by show _ = _; rw [hmn]; simp
            clear hmn hml
            go_wp2_with fail
            go_roundw
            case rel => exact ⟨k + 1, by omega, by go_num, by rw [hmn'.out]; exact ho, hbw⟩
            case measure => simp [intOf]; omega
          | true =>
            rw [hon] at c6 hmn
            have hmn' : Hid (markedB B (k + 1) = markedB B k ++ [k]) := by show _ = _; rw [hmn]; simp
            have hm6 : (markedB B k).length ≤ 60 := by omega
            clear hmn hml
            generalize markedB B k = m at *
            go_wp2_with (at_builtin; refine wpList_append_own _ rfl _ _ 30 rfl W0.heap.size 3 i0' (.int .i64 0) 1 8 Tryd.underlying30 hi0 hz0 hz1 hz2 rfl (by decide) _ _ _ rfl (ho.out.alloc _) ⟨wr.heap.size, 0, none⟩ 1 1 [.int .i64 (k : Int)] rfl rfl ?c1 (by simp [Value.oneCell']) (by unfold maxLen; omega) (by omega) (by have := hbw.out.size; simp; omega) ?_)
            case c1 =>
              intro j u hu
              have hj : j < 1 := by have := (List.getElem?_eq_some_iff.1 hu).1; simpa using this
              obtain rfl : j = 0 := by omega
              rw [Addr.add_lit]
              simp at hu; subst hu; go_simp
            intro v' w7 h2 h3 _
            have hb7 : Hid (RowKit.Below W0.heap.size W0 w7) := (hbw.out.trans ((balloc wr _).mono hbw.out.size)).grown h3 (by have := hbw.out.size; simp; omega) (fun j hj => (ho.out.lt j hj).1)
            have ho7 : Hid (w7.ownsRow W0.heap.size 3 1 v' (m ++ [k]).length (cellsU (m ++ [k]))) := by
              show World.ownsRow _ _ _ _ _ _ _
              rw [List.length_append]
              simpa [cellsU] using h2
            clear h2 h3
            go_wp2_with fail
            go_roundw
            case rel => exact ⟨k + 1, by omega, by go_num, by rw [hmn'.out]; exact ho7, hb7⟩
            case measure => simp [intOf]; omega
        · obtain rfl : k = l.length := by omega
          obtain ⟨a2, c2, hv, hsl⟩ := ownU_sl ho.out
          subst hv
          have hfin : Hid (UpAns w l i (.returned (.slice a2 (markedB B l.length).length c2)) wr) := by
            have h1 := marked_up hS.out hI.out (by rw [hBl]; exact hC'.out)
            rw [hBl] at h1
            refine ⟨a2, c2, markedB B l.length, rfl, marked_rise _ _, h1, hsl, ?_, Nat.le_trans (marked_len _ _) hz⟩
            rw [hbi]
            exact hb.out.trans (hbw.out.mono (Nat.le_trans (by rw [← hbi]; exact Nat.le_refl _) hb.out.size))
          clear hsl
          generalize (markedB B l.length).length = q at *
          go_wp2_with fail
          exact bodyPost_ret (v := .slice a2 q c2) (by simp [results, Tryd.results7, go_sem]) rfl hfin.out
    | true =>
      have hcnt := hM.out.count
      go_wp2_with fail
      go_loopw [6, 7] (fun ag kk w6 => ∃ (B1 : List Bool) (g : Bool) (k : Nat), ag = .bool g ∧ kk = .int .i64 k ∧ k ≤ l.length ∧ B1.length = l.length ∧ Hid (onB B1 i = true) ∧ Hid (SoundB l i B1) ∧ Hid (g = false → B1 = B ∧ ClosedTo l B1 k) ∧ Hid (g = true → nF B1 < nF B) ∧ Hid (MarkAt w6 bi B1) ∧ Hid (RowKit.Below bi w w6)) (fun _ kk w6 => l.length - (intOf kk).toNat)
      case atStart => exact ⟨B, false, 0, rfl, rfl, by omega, hBl, hI, hS, (fun _ => ⟨rfl, fun c hc => by omega⟩), (fun h => by cases h), hM, hb⟩
      case round =>
        obtain ⟨B1, g, k, rfl, rfl, hk, hB1, hI1, hS1, hF1, hT1, hM1, hb1⟩ := hrel
        generalize hW1 : wr = W1 at *
        clear hW1
        by_cases hlt : k < l.length
        · have c6 := (hM1.out.cell (j := k) (by omega)).1
          have k0 : (0 : Int) ≤ (k : Int) := by omega
          have k1 : (k : Int) < (l.length : Int) := by omega
          cases hon : onB B1 k with
          | false =>
            rw [hon] at c6
            have hF2 : Hid (g = false → B1 = B ∧ ClosedTo l B1 (k + 1)) := fun hg => by
              obtain ⟨h1, h2⟩ := hF1.out hg
              refine ⟨h1, fun c hc h3 => ?_⟩
              rcases (by omega : c < k ∨ c = k) with h4 | rfl
              · exact h2 c h4 h3
              · rw [hon] at h3; cases h3
            go_wp2_with fail
            go_roundw
            case rel => exact ⟨B1, g, k + 1, rfl, by go_num, by omega, hB1, hI1, hS1, hF2, hT1, hM1, hb1⟩
            case measure => simp [intOf]; omega
          | true =>
            rw [hon] at c6
            have hon' := hideO hon
            have hup := hideO (hS1.out k hon)
            obtain ⟨b, o, ap, cp, rfl, d0, _, _, hsp⟩ := Hl.out.at hlt
            have hbw : w.heap.size = bi := hbi
            have Hd0 : Hid (∀ W', RowKit.Below bi w W' → W'.cell? ⟨b, o + k * 3, none⟩ = some (.slice ap l[k].1.length cp)) := fun W' h => by
              have hb' : b < bi := by rw [← hbi]; exact World.block_lt_of_cell? w _ d0
              exact (h.cell (p := ⟨b, o + k * 3, none⟩) hb').trans d0
            have Hsp := hideO hsp
            have hpe : Hid (parsOf l k = l[k].1) := by show _ = _; unfold parsOf; rw [List.getElem?_eq_getElem hlt]; rfl
            have hgp := hideO (good_pars HG.out hlt)
            have hp2 : l[k].1.length ≤ 2 := by
              have := HG.out.2 k hlt
              unfold comN at this
              split at this
              · cases this
              · omega
            clear d0 hsp hon
            generalize l[k].1 = ps at *
            go_wp2_with fail
            go_loopw [6, 8] (fun ag jj w7 => ∃ (B2 : List Bool) (g2 : Bool) (j : Nat), ag = .bool g2 ∧ jj = .int .i64 j ∧ j ≤ ps.length ∧ B2.length = l.length ∧ Hid (onB B2 i = true) ∧ Hid (SoundB l i B2) ∧ Hid (g2 = false → B2 = B ∧ ClosedTo l B2 k ∧ ∀ z ∈ ps.take j, onB B2 z.toNat = true) ∧ Hid (g2 = true → nF B2 < nF B) ∧ Hid (MarkAt w7 bi B2) ∧ Hid (RowKit.Below bi w w7)) (fun _ jj w7 => ps.length - (intOf jj).toNat)
            case atStart => exact ⟨B1, g, 0, rfl, rfl, by omega, hB1, hI1, hS1, (fun h => ⟨(hF1.out h).1, (hF1.out h).2, by simp⟩), hT1, hM1, hb1⟩
            case round =>
              obtain ⟨B2, g2, j, rfl, rfl, hj, hB2, hI2', hS2', hF2, hT2, hM2', hb2'⟩ := hrel
              have d1 := Hd0.out _ hb2'.out
              by_cases hjl : j < ps.length
              · obtain ⟨b2, o2, rfl, e0⟩ := Hsp.out.at hjl
                have hrg := hgp.out ps[j] (by rw [hpe.out]; exact List.getElem_mem hjl)
                obtain ⟨P, hP⟩ : ∃ P : Nat, ps[j] = (P : Int) := ⟨ps[j].toNat, by omega⟩
                have hPl : P < B2.length := by omega
                have hPm : Hid ((P : Int) ∈ parsOf l k) := by show _ ∈ _; rw [hpe.out, ← hP]; exact List.getElem_mem hjl
                have htk : Hid (∀ z ∈ ps.take (j + 1), z ∈ ps.take j ∨ z = (P : Int)) := fun z hz => by
                  rw [List.take_succ_eq_append_getElem hjl] at hz
                  rcases List.mem_append.1 hz with h | h
                  · exact Or.inl h
                  · simp at h; exact Or.inr (h.trans hP)
                have e1 : wr.cell? ⟨b2, o2 + j, none⟩ = some (.int .i64 (P : Int)) := by
                  have hb' : b2 < bi := by rw [← hbi]; exact World.block_lt_of_cell? w _ e0
                  rw [← hP]
                  exact (hb2'.out.cell (p := ⟨b2, o2 + j, none⟩) hb').trans e0
                obtain ⟨m0, f0⟩ := hM2'.out.cell hPl
                have j0 : (0 : Int) ≤ (j : Int) := by omega
                have j1 : (j : Int) < (ps.length : Int) := by omega
                have p0 : (0 : Int) ≤ (P : Int) := by omega
                have p1 : (P : Int) < (l.length : Int) := by omega
                clear e0 hP hrg
                cases hmk : onB B2 P with
                | true =>
                  rw [hmk] at m0
                  have hF3 : Hid (g2 = false → B2 = B ∧ ClosedTo l B2 k ∧ ∀ z ∈ ps.take (j + 1), onB B2 z.toNat = true) := fun hg => by
                    obtain ⟨h1, h2, h3⟩ := hF2.out hg
                    refine ⟨h1, h2, fun z hz => ?_⟩
                    rcases htk.out z hz with h | rfl
                    · exact h3 z h
                    · simpa using hmk
                  go_wp2_with fail
                  go_roundw
                  case rel => exact ⟨B2, g2, j + 1, rfl, by go_num, by omega, hB2, hI2', hS2', hF3, hT2, hM2', hb2'⟩
                  case measure => simp [intOf]; omega
                | false =>
                  rw [hmk] at m0
                  have hT3 : Hid (nF (B2.set P true) < nF B) := by
                    have h1 := nF_set hPl hmk
                    show _ < _
                    cases g2 with
                    | false => rw [(hF2.out rfl).1] at h1 ⊢; exact h1
                    | true => have := hT2.out rfl; omega
                  have hI3 : Hid (onB (B2.set P true) i = true) := by
                    show _ = _
                    rw [onB_set hPl]
                    split
                    · rfl
                    · exact hI2'.out
                  have hS3 : Hid (SoundB l i (B2.set P true)) := hS2'.out.set hPl (hup.out.step hPm.out)
                  have hM3 := hideO (hM2'.out.set P)
                  have hb3 : Hid (RowKit.Below bi w (wr.setCell ⟨bi, P, none⟩ (.bool true))) := hb2'.out.setCell (p := ⟨bi, P, none⟩) (Nat.le_refl _) _
                  have hB3 : (B2.set P true).length = l.length := by simp [hB2]
                  go_wp2_with fail
                  go_roundw
                  case rel => exact ⟨B2.set P true, true, j + 1, rfl, by go_num, by omega, hB3, hI3, hS3, (fun h => by cases h), (fun _ => hT3.out), hM3, hb3⟩
                  case measure => simp [intOf]; omega
              · obtain rfl : j = ps.length := by omega
                have hF3 : Hid (g2 = false → B2 = B ∧ ClosedTo l B2 (k + 1)) := fun hg => by
                  obtain ⟨h1, h2, h3⟩ := hF2.out hg
                  refine ⟨h1, fun c hc h4 p hp => ?_⟩
                  rcases (by omega : c < k ∨ c = k) with h5 | rfl
                  · exact h2 c h5 h4 p hp
                  · rw [hpe.out] at hp
                    have := h3 (p : Int) (by rw [List.take_length]; exact hp)
                    simpa using this
                go_wp2_with fail
                go_roundw
                case rel => exact ⟨B2, g2, k + 1, rfl, by go_num, by omega, hB2, hI2', hS2', hF3, hT2, hM2', hb2'⟩
                case measure => simp [intOf]; omega
        · obtain rfl : k = l.length := by omega
          go_wp2_with fail
          go_roundw
          case rel => exact ⟨B1, g, rfl, hB1, hI1, hS1, (fun hg => (hF1.out hg).2), hM1, hb1⟩
          case measure =>
            have h1 := hM1.out.count
            have h2 := hF1.out
            have h3 := hT1.out
            rw [h1, hcnt]
            cases g with
            | false => rw [(h2 rfl).1]; simp
            | true => have := h3 rfl; simp; omega
end Go.Proofs.YtjlifccaoncfcaaDoor

/- The document's answer (package strataref2): Bases. -/
namespace Go.Proofs.YtjlifccaoncfcaaDoor
open Go Go.RowKit Go.Proofs
set_option synthInstance.maxSize 1000

/-- what Bases answers -/
def BaseAns (w : World) (l : List Cm) (a b : Nat) (e : Ending) (w' : World) : Prop :=
  ∃ ad c m, e = .returned (.slice ad m.length c) ∧ RiseN m ∧ (∀ z, z ∈ m ↔ isBase l a b z) ∧ SlI w' ad (m.map fun k : Nat => (k : Int)) ∧ RowKit.Below w.heap.size w w' ∧ m.length ≤ 60
theorem has_nat (y : List Nat) (k : Nat) : (y.map fun k : Nat => (k : Int)).contains (k : Int) = decide (k ∈ y) := by
  rw [List.contains_eq_mem, decide_eq_decide, List.mem_map]
  constructor
  · rintro ⟨z, hz, e⟩
    rw [show k = z by omega]; exact hz
  · exact fun h => ⟨k, h, rfl⟩
theorem SlI.nat {W : World} {ad : Option Addr} {m : List Nat} (h : SlI W ad (m.map fun k : Nat => (k : Int))) {k : Nat} (hk : k < m.length) : ∃ b o, ad = some ⟨b, o, none⟩ ∧ W.cell? ⟨b, o + k, none⟩ = some (.int .i64 ((m.getD k 0 : Nat) : Int)) := by
  obtain ⟨b, o, e, h1⟩ := h.at (j := k) (by simpa using hk)
  refine ⟨b, o, e, h1.trans ?_⟩
  rw [List.getD_eq_getElem?_getD, List.getElem?_eq_getElem hk]
  simp
theorem RInN_any (ad : Option Addr) (ca : Nat) (m : List Nat) (n : Nat) (w : World) (h : SlI w ad (m.map fun k : Nat => (k : Int))) (hz : m.length ≤ 60) :
    Calls Tryd.prog 12 #[.slice ad m.length ca, .int .i64 (n : Int)] w fun e w' => e = .returned (.bool (decide (n ∈ m))) ∧ w' = w := by
  have := RIn_any ad ca (m.map fun k : Nat => (k : Int)) (n : Int) w h (by simp; omega)
  rw [has_nat, List.length_map] at this
  exact this

theorem holdC {W W' : World} {ad : Option Addr} {l : List Cm} {p q : Addr} {u v : Value} (h : SlC W ad l ∧ W.cell? p = some u ∧ W.cell? q = some v) (hb : RowKit.Below W.heap.size W W') : SlC W' ad l ∧ W'.cell? p = some u ∧ W'.cell? q = some v :=
  ⟨h.1.below hb, (hb.cell (World.block_lt_of_cell? W _ h.2.1)).trans h.2.1, (hb.cell (World.block_lt_of_cell? W _ h.2.2)).trans h.2.2⟩
set_option maxHeartbeats 8000000 in
set_option maxRecDepth 100000 in
theorem RBases_any (ad : Option Addr) (ca : Nat) (l : List Cm) (a b : Nat) (w : World) (hl : SlC w ad l) (hG : GoodC l) (ha : a < l.length) (hb : b < l.length) :
    Calls Tryd.prog 11 #[.slice ad l.length ca, .int .i64 (a : Int), .int .i64 (b : Int)] w fun e w' => BaseAns w l a b e w' := by
  have HAn := fun (i : Nat) (hi : i < l.length) W (h : SlC W ad l) => RAncestors_any ad ca l i W h hG hi
  have Hl := hideO hl
  have Hup := hideO (fun k => @up_le l hG a k ha)
  obtain ⟨i0', hi0, hz0, hz1, hz2⟩ := info_parts infoU
  have Ha := hideO ha
  have Hb := hideO hb
  clear hl hG ha hb
  go_enter Tryd.func11, Tryd.ntmps11
  go_wp2_with fail
  refine (HAn a Ha.out _ Hl.out).mono ?_
  rintro e w1 ⟨xa, xc, x, rfl, hx, ux, sx, hb1, lx⟩
  have Hx := hideO (And.intro hx (And.intro ux (And.intro sx hb1)))
  clear hx ux sx hb1
  dsimp only
  go_wp2_with fail
  refine (HAn b Hb.out _ (Hl.out.below Hx.out.2.2.2)).mono ?_
  rintro e w2 ⟨ya, yc, y, rfl, hy, uy, sy, hb2, ly⟩
  have Hy := hideO (And.intro uy (And.intro sy hb2))
  have hB2 := hideO (bstep Hx.out.2.2.2 hb2)
  have Hx2 := hideO (Hx.out.2.2.1.below hb2)
  clear hy uy sy hb2
  dsimp only
  go_wp2_with fail
  go_loopw [9, 11] (fun v kk wr => ∃ (k : Nat), k ≤ x.length ∧ kk = .int .i64 k ∧ Hid (wr.ownsRow w2.heap.size 3 1 v (dbothN (x.take k) y).length (cellsU (dbothN (x.take k) y))) ∧ Hid (RowKit.Below w2.heap.size w2 wr)) (fun _ kk wr => x.length - (intOf kk).toNat)
  case atStart => exact ⟨0, by omega, rfl, World.ownsRow_nil _ _ _ _, RowKit.Below.refl _ _⟩
  case round =>
    obtain ⟨k, hk, rfl, ho, hbw⟩ := hrel
    by_cases hlt : k < x.length
    · obtain ⟨b1, o1, rfl, c1⟩ := (Hx2.out.below hbw.out).nat hlt
      have hxe : x.getD k 0 = x[k] := by rw [List.getD_eq_getElem?_getD, List.getElem?_eq_getElem hlt]; rfl
      have HI := RInN_any ya yc y (x.getD k 0) wr (Hy.out.2.1.below hbw.out) ly
      have hbn := both_next (y := y) hlt
      have hbl := both_len (x.take k) y
      rw [← hxe] at hbn
      have hb60 : (dbothN (x.take k) y).length ≤ 60 := by simp at hbl; omega
      have k0 : (0 : Int) ≤ (k : Int) := by omega
      have k1 : (k : Int) < (x.length : Int) := by omega
      clear hxe hbl
      generalize x.getD k 0 = z at *
      by_cases hm : z ∈ y
      · have hbn' : Hid (dbothN (x.take (k + 1)) y = dbothN (x.take k) y ++ [z]) := by show _ = _; rw [hbn, if_pos hm]
        rw [decide_eq_true hm] at HI
        clear hbn hm
        generalize dbothN (x.take k) y = m at *
        go_wp2_with fail
        refine HI.mono ?_
        rintro e w5 ⟨rfl, hw5⟩
        obtain rfl : wr = w5 := hw5.symm
        dsimp only
        go_wp2_with (at_builtin; refine wpList_append_own _ rfl _ _ 30 rfl w2.heap.size 3 i0' (.int .i64 0) 1 8 Tryd.underlying30 hi0 hz0 hz1 hz2 rfl (by decide) _ _ _ rfl (ho.out.alloc _) ⟨wr.heap.size, 0, none⟩ 1 1 [.int .i64 (z : Int)] rfl rfl ?q1 (by simp [Value.oneCell']) (by unfold maxLen; omega) (by omega) (by have := hbw.out.size; simp; omega) ?_)
        intro v' w7 h2 h3 _
        have hb7 : Hid (RowKit.Below w2.heap.size w2 w7) := (hbw.out.trans ((balloc wr _).mono hbw.out.size)).grown h3 (by have := hbw.out.size; simp; omega) (fun j hj => (ho.out.lt j hj).1)
        have ho7 : Hid (w7.ownsRow w2.heap.size 3 1 v' (m ++ [z]).length (cellsU (m ++ [z]))) := by
          show World.ownsRow _ _ _ _ _ _ _
          rw [List.length_append]
          simpa [cellsU] using h2
        clear h2 h3
        go_wp2_with fail
        go_roundw
        case rel => exact ⟨k + 1, by omega, by go_num, by rw [hbn'.out]; exact ho7, hb7⟩
        case measure => simp [intOf]; omega
      · have hbn' : Hid (dbothN (x.take (k + 1)) y = dbothN (x.take k) y) := by show _ = _; rw [hbn, if_neg hm]; simp
        rw [decide_eq_false hm] at HI
        clear hbn hm
        generalize dbothN (x.take k) y = m at *
        go_wp2_with fail
        refine HI.mono ?_
        rintro e w5 ⟨rfl, hw5⟩
        obtain rfl : wr = w5 := hw5.symm
        dsimp only
        go_wp2_with fail
        go_roundw
        case rel => exact ⟨k + 1, by omega, by go_num, by rw [hbn'.out]; exact ho, hbw⟩
        case measure => simp [intOf]; omega
    · obtain rfl : k = x.length := by omega
      rw [List.take_length] at ho
      obtain ⟨ba, bc, hv, sb⟩ := ownU_sl ho.out
      subst hv
      have Hsb := hideO sb
      have hT := hideO (both_rise (y := y) Hx.out.1)
      have hfin : Hid (∀ m, OutsTo l (dbothN x y) (dbothN x y).length m → ∀ z, z ∈ m ↔ isBase l a b z) := fun m h => outs_base Hx.out.1 Hx.out.2.1 Hy.out.1 h
      have htl : (dbothN x y).length ≤ 60 := by have := both_len x y; omega
      have hin : Hid (∀ q, q < (dbothN x y).length → (dbothN x y).getD q 0 < l.length) := fun q hq => by
        have h1 : (dbothN x y).getD q 0 ∈ dbothN x y := by rw [List.getD_eq_getElem?_getD, List.getElem?_eq_getElem hq]; exact List.getElem_mem hq
        exact (Hup.out _ ((Hx.out.2.1 _).1 (List.mem_filter.1 h1).1)).2
      have hB3 := hideO (bstep hB2.out (show RowKit.Below w2.heap.size w2 wr from hbw.out))
      clear ho sb hbw hk hlt Hx2
      generalize hW3 : wr = w3 at *
      clear hW3
      generalize dbothN x y = t at *
      go_wp2_with fail
      go_loopw [10, 13] (fun v ii wr => ∃ (i : Nat) (m : List Nat), i ≤ t.length ∧ ii = .int .i64 i ∧ Hid (OutsTo l t i m) ∧ Hid (wr.ownsRow w3.heap.size 3 1 v m.length (cellsU m)) ∧ Hid (RowKit.Below w3.heap.size w3 wr)) (fun _ ii wr => t.length - (intOf ii).toNat)
      case atStart => exact ⟨0, [], by omega, rfl, OutsTo.nil l t, World.ownsRow_nil _ _ _ _, RowKit.Below.refl _ _⟩
      case round =>
        obtain ⟨i, m, hi, rfl, hO, ho, hbw⟩ := hrel
        by_cases hit : i < t.length
        · have ii0 : (0 : Int) ≤ (i : Int) := by omega
          have ii1 : (i : Int) < (t.length : Int) := by omega
          obtain ⟨b1, o1, rfl, d0⟩ := Hsb.out.nat hit
          have Hcell : Hid (∀ q, q < t.length → ∀ W', RowKit.Below w3.heap.size w3 W' → W'.cell? ⟨b1, o1 + q, none⟩ = some (.int .i64 ((t.getD q 0 : Nat) : Int))) := fun q hq W' h => by
            obtain ⟨b2, o2, e2, d2⟩ := Hsb.out.nat hq
            cases e2
            exact (h.cell (World.block_lt_of_cell? w3 _ d2)).trans d2
          generalize hW4 : wr = w4 at *
          clear hW4 d0
          go_wp2_with fail
          go_loopw [14, 15] (fun bl kk wr => ∃ (k : Nat) (g : Bool), k ≤ t.length ∧ kk = .int .i64 k ∧ bl = .bool g ∧ Hid (g = true ↔ belowP l t i k) ∧ Hid (RowKit.Below w4.heap.size w4 wr)) (fun _ kk wr => t.length - (intOf kk).toNat)
          case atStart => exact ⟨0, false, by omega, rfl, rfl, ⟨(fun h => by cases h), (fun ⟨r, h, _⟩ => by omega)⟩, RowKit.Below.refl _ _⟩
          case round =>
            obtain ⟨k, g, hk, rfl, rfl, hg, hbk⟩ := hrel
            by_cases hkt : k < t.length
            · have kk0 : (0 : Int) ≤ (k : Int) := by omega
              have kk1 : (k : Int) < (t.length : Int) := by omega
              have hB5 := hideO (bstep hbw.out hbk.out)
              have hS1 : SlC wr.drew ad l ∧ wr.drew.cell? ⟨b1, o1 + k, none⟩ = some (.int .i64 ((t.getD k 0 : Nat) : Int)) ∧ wr.drew.cell? ⟨b1, o1 + i, none⟩ = some (.int .i64 ((t.getD i 0 : Nat) : Int)) :=
                ⟨Hl.out.below (bstep hB3.out (hB5.out.drew)), Hcell.out k hkt _ hB5.out.drew, Hcell.out i hit _ hB5.out.drew⟩
              have HA := HAn (t.getD k 0) (hin.out k hkt)
              have hbn := hideO (@below_next l t i k)
              generalize t.getD k 0 = tk at *
              generalize t.getD i 0 = ti at *
              go_wp2_with fail
              go_region_held3 (fun W => SlC W ad l ∧ W.cell? ⟨b1, o1 + k, none⟩ = some (.int .i64 (tk : Int)) ∧ W.cell? ⟨b1, o1 + i, none⟩ = some (.int .i64 (ti : Int))) (first | exact holdC (by assumption) hb5 | assumption) (first
                | (go_at_call 7; refine (HA _ (And.left (by assumption))).mono ?_; rintro e w5 ⟨a5, c5, m5, rfl, h5, u5, s5, hb5, l5⟩; dsimp only)
                | (go_at_call 12; refine (RInN_any a5 c5 m5 ti _ s5 l5).mono ?_; rintro e w6 ⟨rfl, hw6⟩; obtain rfl : w5 = w6 := hw6.symm; dsimp only))
              have hbk' : Hid (RowKit.Below w4.heap.size w4 w5) := bstep hbk.out.drew hb5
              have hu5 := hideO (u5 ti)
              clear h5 u5 s5 hS1
              cases g with
              | true =>
                have hg' : Hid (true = true ↔ belowP l t i (k + 1)) := ⟨fun _ => hbn.out.2 (Or.inl (hg.out.1 rfl)), fun _ => rfl⟩
                go_wp2_with fail
                go_roundw
                case rel => exact ⟨k + 1, true, by omega, by go_num, rfl, hg', hbk'⟩
                case measure => simp [intOf]; omega
              | false =>
                by_cases hki : k = i
                · have t1 : ((k : Int) != (i : Int)) = false := by simp [hki]
                  have hg' : Hid (false = true ↔ belowP l t i (k + 1)) := ⟨(fun h => by cases h), (fun h => (hbn.out.1 h).elim hg.out.2 (fun h' => absurd hki h'.1))⟩
                  clear hki
                  go_wp2_with fail
                  go_roundw
                  case rel => exact ⟨k + 1, false, by omega, by go_num, rfl, hg', hbk'⟩
                  case measure => simp [intOf]; omega
                · have t1 : ((k : Int) != (i : Int)) = true := by simp; omega
                  by_cases hm : ti ∈ m5
                  · have hg' : Hid (true = true ↔ belowP l t i (k + 1)) := ⟨fun _ => hbn.out.2 (Or.inr ⟨hki, hu5.out.1 hm⟩), fun _ => rfl⟩
                    have t2 : decide (ti ∈ m5) = true := by simpa using hm
                    clear hki
                    go_wp2_with fail
                    go_roundw
                    case rel => exact ⟨k + 1, true, by omega, by go_num, by first | rfl | (simp [hm]), hg', hbk'⟩
                    case measure => simp [intOf]; omega
                  · have hg' : Hid (false = true ↔ belowP l t i (k + 1)) := ⟨(fun h => by cases h), (fun h => (hbn.out.1 h).elim hg.out.2 (fun h' => absurd (hu5.out.2 h'.2) hm))⟩
                    have t2 : decide (ti ∈ m5) = false := by simpa using hm
                    clear hki
                    go_wp2_with fail
                    go_roundw
                    case rel => exact ⟨k + 1, false, by omega, by go_num, by first | rfl | (simp [hm]), hg', hbk'⟩
                    case measure => simp [intOf]; omega
            · obtain rfl : k = t.length := by omega
              have hB5 := hideO (bstep hbw.out hbk.out)
              have hoR := hideO (ownsO_below ho.out (show RowKit.Below w4.heap.size w4 wr from hbk.out))
              cases g with
              | true =>
                have hO' := hideO (hO.out.skip (hg.out.1 rfl))
                go_wp2_with fail
                go_roundw
                case rel => exact ⟨i + 1, m, by omega, by go_num, hO', hoR, hB5⟩
                case measure => simp [intOf]; omega
              | false =>
                have hO' := hideO (hO.out.more hT.out hit (fun h => by have := hg.out.2 h; cases this))
                have d5 := Hcell.out i hit _ hB5.out
                have hm60 : m.length ≤ 60 := by have := hO.out.2.1; omega
                generalize t.getD i 0 = ti at *
                go_wp2_with (at_builtin; refine wpList_append_own _ rfl _ _ 30 rfl w3.heap.size 3 i0' (.int .i64 0) 1 8 Tryd.underlying30 hi0 hz0 hz1 hz2 rfl (by decide) _ _ _ rfl (hoR.out.alloc _) ⟨wr.heap.size, 0, none⟩ 1 1 [.int .i64 (ti : Int)] rfl rfl ?q2 (by simp [Value.oneCell']) (by unfold maxLen; omega) (by omega) (by have := hB5.out.size; simp; omega) ?_)
                case q2 =>
                  intro j u hu
                  have hj : j < 1 := by have := (List.getElem?_eq_some_iff.1 hu).1; simpa using this
                  obtain rfl : j = 0 := by omega
                  rw [Addr.add_lit]
                  simp at hu; subst hu; go_simp
                intro v' w7 h2 h3 _
                have hb7 : Hid (RowKit.Below w3.heap.size w3 w7) := (hB5.out.trans ((balloc wr _).mono hB5.out.size)).grown h3 (by have := hB5.out.size; simp; omega) (fun j hj => (hoR.out.lt j hj).1)
                have ho7 : Hid (w7.ownsRow w3.heap.size 3 1 v' (m ++ [ti]).length (cellsU (m ++ [ti]))) := by
                  show World.ownsRow _ _ _ _ _ _ _
                  rw [List.length_append]
                  simpa [cellsU] using h2
                clear h2 h3
                go_wp2_with fail
                go_roundw
                case rel => exact ⟨i + 1, m ++ [ti], by omega, by go_num, hO', ho7, hb7⟩
                case measure => simp [intOf]; omega
        · obtain rfl : i = t.length := by omega
          obtain ⟨oa, oc, hv, so⟩ := ownU_sl ho.out
          subst hv
          have hans : Hid (BaseAns w l a b (.returned (.slice oa m.length oc)) wr) := ⟨oa, oc, m, rfl, hO.out.1, hfin.out m hO.out, so, bstep hB3.out hbw.out, by have := hO.out.2.1; omega⟩
          clear so
          generalize m.length = ml at *
          go_wp2_with fail
          exact bodyPost_ret (v := .slice oa ml oc) (by simp [results, Tryd.results11, go_sem]) rfl hans.out
end Go.Proofs.YtjlifccaoncfcaaDoor

/- stratasame.Ints: whether two lists of numbers are the same. -/
namespace Go.Proofs.YtjlifccaoncfcaaDoor
open Go Go.RowKit Go.Proofs
set_option synthInstance.maxSize 1000

set_option maxHeartbeats 2000000 in
set_option maxRecDepth 100000 in
theorem SameInts_any (ad bd : Option Addr) (ca cb : Nat) (l m : List Int) (w : World) (hl : SlI w ad l) (hm : SlI w bd m) (h200 : l.length ≤ 1000000) (h200' : m.length ≤ 1000000) :
    Calls Tryd.prog 10 #[.slice ad l.length ca, .slice bd m.length cb] w fun e w' => e = .returned (.bool (decide (l = m))) ∧ RowKit.Below w.heap.size w w' := by
  have Hl := hideO hl
  have Hm := hideO hm
  clear hl hm
  by_cases hlen : l.length = m.length
  · have hd : ((l.length : Int) != (m.length : Int)) = false := by simp [hlen]
    have Hlen := hideO hlen
    clear hlen
    go_enter Tryd.func10, Tryd.ntmps10
    go_wp2_with fail
    go_loopw [5] (fun i wr => ∃ (k q : Nat), k ≤ l.length ∧ i = .int .i64 k ∧ wr = w.drewN q ∧ Hid (l.take k = m.take k)) (fun i wr => l.length - (intOf i).toNat)
    case atStart => exact ⟨0, 0, by omega, rfl, rfl, rfl⟩
    case round =>
      obtain ⟨k, q, hk, rfl, rfl, hs⟩ := hrel
      by_cases hlt : k < l.length
      · have hlt' : k < m.length := by have := Hlen.out; omega
        obtain ⟨b, o, rfl, c0⟩ := Hl.out.at hlt
        obtain ⟨b', o', rfl, d0⟩ := Hm.out.at hlt'
        have i0 : (0 : Int) ≤ (k : Int) := by omega
        have i1 : (k : Int) < (l.length : Int) := by omega
        have i2 : (k : Int) < (m.length : Int) := by omega
        have hs' : Hid (l[k] = m[k] → l.take (k + 1) = m.take (k + 1)) := by
          show _ → _
          intro e
          rw [List.take_succ_eq_append_getElem hlt, List.take_succ_eq_append_getElem hlt', hs.out, e]
        have hn : Hid (¬ l[k] = m[k] → ¬ l = m) := by
          show _ → _
          intro h1 h2
          subst h2
          exact h1 rfl
        by_cases he : l[k] = m[k]
        · have hd2 : (l[k] != m[k]) = false := by simpa using he
          have He := hideO he
          clear he
          go_wp2_with fail
          go_region
          go_wp2
          exact ⟨⟨k + 1, q + 1, by omega, by go_num, rfl, hs'.out He.out⟩, by simp [intOf]; omega⟩
        · have hd2 : (l[k] != m[k]) = true := by simpa using he
          have He := hideO he
          clear he
          go_wp2_with fail
          go_region
          go_wp2
          go_ret
          refine ⟨ret_bool ?_, bdO _ _⟩
          have := hn.out He.out
          simp [this]
      · have hke : k = l.length := by omega
        go_wp2
        go_ret
        refine ⟨ret_bool ?_, bdO _ _⟩
        have : l = m := by
          have h1 := hs.out
          have h2 := Hlen.out
          rw [hke, List.take_length, h2, List.take_length] at h1
          exact h1
        simp [this]
  · have hd : ((l.length : Int) != (m.length : Int)) = true := by simp; omega
    have hne : Hid (¬ l = m) := by
      show ¬ _
      rintro rfl
      exact hlen rfl
    clear hlen
    go_enter Tryd.func10, Tryd.ntmps10
    go_wp2
    go_ret
    refine ⟨ret_bool ?_, RowKit.Below.refl _ _⟩
    have := hne.out
    simp [this]
end Go.Proofs.YtjlifccaoncfcaaDoor

/- stratasame.Ints at numbers that are the same. -/
namespace Go.Proofs.YtjlifccaoncfcaaDoor
open Go Go.RowKit Go.Proofs
set_option synthInstance.maxSize 1000

theorem SameNat (ad bd : Option Addr) (ca cb : Nat) (m q : List Nat) (w : World) (hl : SlI w ad (natI m)) (hm : SlI w bd (natI q)) (h : m = q) (hz : m.length ≤ 60) :
    Calls Tryd.prog 10 #[.slice ad m.length ca, .slice bd q.length cb] w fun e w' => e = .returned (.bool true) ∧ RowKit.Below w.heap.size w w' := by
  subst h
  have := SameInts_any ad bd ca cb (natI m) (natI m) w hl hm (by rw [natI_len]; omega) (by rw [natI_len]; omega)
  rw [natI_len, decide_eq_true rfl] at this
  exact this
theorem errV_zero : errV 0 = .nilIface := rfl
theorem errV_some {f : Int} (h : f ≠ 0) : errV f = .iface 44 (.int .i64 f) := by unfold errV; rw [if_neg h]
end Go.Proofs.YtjlifccaoncfcaaDoor
