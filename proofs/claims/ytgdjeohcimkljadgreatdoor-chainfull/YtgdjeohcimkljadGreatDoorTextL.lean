/- stratalaw4's text of a number. -/
import Derived.Test.YtgdjeohcimkljadGreatDoorSetOps
import Derived.Test.YtgdjeohcimkljadGreatDoorTripleSame
namespace Go.Proofs.YtgdjeohcimkljadGreatDoor
open Go Go.RowKit Go.Proofs
set_option synthInstance.maxSize 1000

def valTm (x : Tm) : Value := .agg #[.int .i64 x.1, .string ⟨x.2.1.toArray⟩, .string ⟨x.2.2.toArray⟩]
/-- a letter -/
def letN (n : Nat) : UInt8 := UInt8.ofNat (97 + n)
def textT (i : Nat) : Tm := (3, [letN (i / 26 % 26), letN (i % 26)], [])

theorem catB (x y : UInt8) : (⟨#[x]⟩ : ByteArray) ++ ⟨#[y]⟩ = ⟨#[x, y]⟩ := by
  apply ByteArray.ext
  simp [ByteArray.data_append]
theorem hideT {p : Prop} (h : p) : Hid p := h
set_option maxRecDepth 100000 in
theorem sliceA (a : Nat) (h : a < 26) (w : World) : (Instr.sliceAt 9 (.string ⟨#[97, 98, 99, 100, 101, 102, 103, 104, 105, 106, 107, 108, 109, 110, 111, 112, 113, 114, 115, 116, 117, 118, 119, 120, 121, 122]⟩) (some (.int .i64 (a : Int))) (some (.int .i64 ((a : Int) + 1))) none).run Tryz.prog w = .ok (.string ⟨#[letN a]⟩) w := by
  rcases (by omega : a = 0 ∨ a = 1 ∨ a = 2 ∨ a = 3 ∨ a = 4 ∨ a = 5 ∨ a = 6 ∨ a = 7 ∨ a = 8 ∨ a = 9 ∨ a = 10 ∨ a = 11 ∨ a = 12 ∨ a = 13 ∨ a = 14 ∨ a = 15 ∨ a = 16 ∨ a = 17 ∨ a = 18 ∨ a = 19 ∨ a = 20 ∨ a = 21 ∨ a = 22 ∨ a = 23 ∨ a = 24 ∨ a = 25) with rfl | rfl | rfl | rfl | rfl | rfl | rfl | rfl | rfl | rfl | rfl | rfl | rfl | rfl | rfl | rfl | rfl | rfl | rfl | rfl | rfl | rfl | rfl | rfl | rfl | rfl
  all_goals kernel_rfl

set_option maxHeartbeats 2000000 in
set_option maxRecDepth 100000 in
theorem text_any (n : Nat) (w : World) (hn : n ≤ 1000000) : Calls Tryz.prog 25 #[.int .i64 n] w fun e w' => e = .returned (valTm (textT n)) ∧ RowKit.Below w.heap.size w w' := by
  have ea : ((n : Int) / 26 % 26) = ((n / 26 % 26 : Nat) : Int) := by omega
  have eb : ((n : Int) % 26) = ((n % 26 : Nat) : Int) := by omega
  have sa := sliceA (n / 26 % 26) (by omega)
  have sb := sliceA (n % 26) (by omega)
  have la : n / 26 % 26 < 26 := by omega
  have lb : n % 26 < 26 := by omega
  have fin : Hid (valTm (textT n) = .agg #[.int .i64 3, .string ⟨#[letN (n / 26 % 26), letN (n % 26)]⟩, .string ⟨#[]⟩]) := rfl
  have EA := hideT ea
  have EB := hideT eb
  clear ea eb
  generalize n / 26 % 26 = a at *
  generalize n % 26 = b at *
  generalize valTm (textT n) = v at *
  go_enter Tryz.func25, Tryz.ntmps25
  go_wp2_with fail
  rw [EA.out, EB.out]
  go_region
  go_wp2_with fail
  exact bodyPost_ret (v := .agg #[.int .i64 3, .string ((⟨#[letN a]⟩ : ByteArray) ++ ⟨#[letN b]⟩), .string ⟨#[]⟩]) (by unfold results; rw [Tryz.results25]; go_simp) rfl ⟨by rw [fin.out, catB], (balloc _ _).drew⟩
end Go.Proofs.YtgdjeohcimkljadGreatDoor
