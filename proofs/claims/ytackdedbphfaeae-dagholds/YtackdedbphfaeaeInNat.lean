/- The document's In at natural numbers. -/
import Derived.Test.YtackdedbphfaeaeRefDag
import Derived.Test.YtackdedbphfaeaeDagFace
namespace Go.Proofs.Ytackdedbphfaeae
open Go Go.RowKit Go.Proofs
set_option synthInstance.maxSize 1000

theorem natI_has (y : List Nat) (k : Nat) : (natI y).contains (k : Int) = decide (k ∈ y) := by
  unfold natI
  rw [List.contains_eq_mem, decide_eq_decide, List.mem_map]
  constructor
  · rintro ⟨z, hz, e⟩
    rw [show k = z by omega]; exact hz
  · exact fun h => ⟨k, h, rfl⟩
theorem InNat_any (ad : Option Addr) (ca : Nat) (m : List Nat) (n : Nat) (w : World) (h : SlI w ad (natI m)) (hz : m.length ≤ 1000) :
    Calls Try.prog 17 #[.slice ad m.length ca, .int .i64 (n : Int)] w fun e w' => e = .returned (.bool (decide (n ∈ m))) ∧ w' = w := by
  have := RIn_any ad ca (natI m) (n : Int) w h (by rw [natI_len]; omega)
  rw [natI_has, natI_len] at this
  exact this
end Go.Proofs.Ytackdedbphfaeae
