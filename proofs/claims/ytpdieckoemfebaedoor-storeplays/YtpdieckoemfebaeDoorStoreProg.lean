/- The program's store keeps the face's contracts. -/
import Derived.Test.YtpdieckoemfebaeDoorStorePut
import Derived.Test.YtpdieckoemfebaeDoorStoreKeep
import Derived.Test.YtpdieckoemfebaeDoorStoreIds
namespace Go.Proofs.YtpdieckoemfebaeDoor
open Go Go.RowKit Go.Proofs Go.Maps
set_option synthInstance.maxSize 1000

def theFace : Face := {
  lim := reachBytes
  At := StoreAt
  own := by
    rintro w s O n L ⟨b1, b2, h, hO⟩ j hj
    rcases (hO j).1 hj with rfl | rfl | rfl
    · exact h.lts
    · exact h.lt1
    · exact h.lt2
  keep := by
    rintro w w' s O n L ⟨b1, b2, h, hO⟩ hk
    exact ⟨b1, b2, h.kept (hk _ ((hO _).2 (Or.inl rfl))) (hk _ ((hO _).2 (Or.inr (Or.inl rfl)))) (hk _ ((hO _).2 (Or.inr (Or.inr rfl)))), hO⟩
  new := by
    intro w
    refine (SNew_any w).mono ?_
    rintro e w' ⟨rfl, h, hb⟩
    refine ⟨_, ownO (w.heap.size + 2) w.heap.size (w.heap.size + 1), rfl, ⟨_, _, h, fun _ => Iff.rfl⟩, hb, fun j hj => ?_⟩
    rcases hj with rfl | rfl | rfl <;> omega
  put := by
    rintro w s O n L b ⟨b1, b2, h, hO⟩ hg hn hb
    refine (SPut_any w s b1 b2 n L b h hg hn hb).mono ?_
    rintro e w' ⟨rfl, h', ho⟩
    exact ⟨rfl, O, ⟨b1, b2, h', hO⟩, ho.mono fun j hj => Or.inl ((hO j).2 hj), fun j hj => Or.inl hj⟩
  get := by
    rintro w s O n L id ⟨b1, b2, h, hO⟩ hg
    exact SGet_any w s b1 b2 n L id h hg.low
  find := by
    rintro w s O n L b ⟨b1, b2, h, hO⟩ hg hb
    exact SFind_any w s b1 b2 n L b h (by unfold reachBytes at hb; unfold maxLen; omega)
  kept := by
    rintro w s O n L ad ca ids ⟨b1, b2, h, hO⟩ hg hs hl _ _
    refine (SKeep_any w s b1 b2 n L ad ca ids h hg hs hl).mono ?_
    rintro e w' ⟨rfl, h', ho⟩
    exact ⟨rfl, O, ⟨b1, b2, h', hO⟩, ho.mono fun j hj => Or.inl ((hO j).2 hj), fun j hj => Or.inl hj⟩
  len := by
    rintro w s O n L ⟨b1, b2, h, hO⟩ hg
    refine (SLen_any w s b1 b2 n L h).mono ?_
    rintro e w' ⟨rfl, rfl⟩
    exact ⟨rfl, RowKit.Below.refl _ _⟩
  ids := by
    rintro w s O n L ⟨b1, b2, h, hO⟩ hg
    exact SIds_any w s b1 b2 n L h hg
}
theorem theFace_lim : theFace.lim = reachBytes := rfl
end Go.Proofs.YtpdieckoemfebaeDoor
