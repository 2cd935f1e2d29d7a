/- An order of places: which parts it names; the document's part and turned; lists of places held against one another. -/
import Derived.Test.YtnlcfnpcjkcdmacGreatDoorRefFits
import Derived.Test.YtnlcfnpcjkcdmacGreatDoorTripleOrd
import Derived.Test.YtnlcfnpcjkcdmacGreatDoorSetPlain
import Derived.Deep.Draws
import Derived.RegionTactic
namespace Go.Proofs.YtnlcfnpcjkcdmacGreatDoor
open Go Go.RowKit Go.Proofs Go.Maps
set_option synthInstance.maxSize 1000

/-- the parts that an order names -/
def ordN (o : List UInt8) : Option (Nat × Nat × Nat) :=
  if o = [115, 112, 111] then some (0, 1, 2) else if o = [115, 111, 112] then some (0, 2, 1) else if o = [112, 115, 111] then some (1, 0, 2)
  else if o = [112, 111, 115] then some (1, 2, 0) else if o = [111, 115, 112] then some (2, 0, 1) else if o = [111, 112, 115] then some (2, 1, 0) else none
def ordV (o : List UInt8) : Nat × Nat × Nat := (ordN o).getD (0, 0, 0)
/-- which of two triples is ahead, by these parts -/
def cmpO (q : Nat × Nat × Nat) (x y : Tr) : Int := orI (cmpTm (termK x q.1) (termK y q.1)) (cmpTm (termK x q.2.1) (termK y q.2.1)) (cmpTm (termK x q.2.2) (termK y q.2.2))

theorem ord_six {o : List UInt8} (h : (ordN o).isSome = true) : o = [115, 112, 111] ∨ o = [115, 111, 112] ∨ o = [112, 115, 111] ∨ o = [112, 111, 115] ∨ o = [111, 115, 112] ∨ o = [111, 112, 115] := by
  unfold ordN at h
  repeat' split at h
  all_goals first | (simp at h; done) | simp_all

/-- the part that a byte names -/
def byteK (n : Int) : Nat := if n = 115 then 0 else if n = 112 then 1 else 2

set_option maxHeartbeats 1000000 in
theorem part_any (t : Tr) (n : Int) (w : World) : Calls Tryz.prog 73 #[valTr t, .int .u8 n] w fun e w' => e = .returned (valTermM (termK t (byteK n))) ∧ Below w.heap.size w w' := by
  unfold valTr valTermM
  cases h1 : (n == 115)
  · cases h2 : (n == 112)
    · have hk : termK t (byteK n) = t.2.2 := by simp at h1 h2; simp [byteK, h1, h2, termK]
      rw [hk]
      go_enter Tryz.func73, Tryz.ntmps73
      go_wp2_with fail
      exact bodyPost_ret (v := .agg #[.int .i64 t.2.2.1, .string ⟨t.2.2.2.1.toArray⟩, .string ⟨t.2.2.2.2.toArray⟩]) (by unfold results; rw [Tryz.results73]; go_simp) rfl ⟨rfl, bstep (balloc _ _) (balloc _ _)⟩
    · have hk : termK t (byteK n) = t.2.1 := by simp at h1 h2; simp [byteK, h2, termK]
      rw [hk]
      go_enter Tryz.func73, Tryz.ntmps73
      go_wp2_with fail
      exact bodyPost_ret (v := .agg #[.int .i64 t.2.1.1, .string ⟨t.2.1.2.1.toArray⟩, .string ⟨t.2.1.2.2.toArray⟩]) (by unfold results; rw [Tryz.results73]; go_simp) rfl ⟨rfl, bstep (balloc _ _) (balloc _ _)⟩
  · have hk : termK t (byteK n) = t.1 := by simp at h1; simp [byteK, h1, termK]
    rw [hk]
    go_enter Tryz.func73, Tryz.ntmps73
    go_wp2_with fail
    exact bodyPost_ret (v := .agg #[.int .i64 t.1.1, .string ⟨t.1.2.1.toArray⟩, .string ⟨t.1.2.2.toArray⟩]) (by unfold results; rw [Tryz.results73]; go_simp) rfl ⟨rfl, bstep (balloc _ _) (balloc _ _)⟩

def IntsAt (w : World) (ad : Option Addr) (l : List Nat) : Prop := l ≠ [] → ∃ b, ad = some ⟨b, 0, none⟩ ∧ ∀ j (hj : j < l.length), w.cell? ⟨b, j, none⟩ = some (.int .i64 (l[j] : Int))
theorem IntsAt.below {w w' : World} {ad : Option Addr} {l : List Nat} (h : IntsAt w ad l) (hb : Below w.heap.size w w') : IntsAt w' ad l := fun hl => by
  obtain ⟨b, e, r⟩ := h hl
  exact ⟨b, e, fun j hj => (hb.cell (World.block_lt_of_cell? w _ (r j hj))).trans (r j hj)⟩
theorem take_sameI {l m : List Nat} {k : Nat} (h : l.take k = m.take k) (hl : k < l.length) (hm : k < m.length) (e : l[k] = m[k]) : l.take (k + 1) = m.take (k + 1) := by
  rw [List.take_succ_eq_append_getElem hl, List.take_succ_eq_append_getElem hm, h, e]

set_option maxHeartbeats 2000000 in
set_option maxRecDepth 100000 in
theorem SameInts_any (ad bd : Option Addr) (ca cb : Nat) (l m : List Nat) (w : World) (hl : IntsAt w ad l) (hm : IntsAt w bd m) (h200 : l.length ≤ 1000000) (h200' : m.length ≤ 1000000) :
    Calls Tryz.prog 16 #[.slice ad l.length ca, .slice bd m.length cb] w fun e w' => e = .returned (.bool (decide (l = m))) ∧ RowKit.Below w.heap.size w w' := by
  have Hl : Hid (IntsAt w ad l) := hl
  have Hm : Hid (IntsAt w bd m) := hm
  clear hl hm
  by_cases hlen : l.length = m.length
  · have hd : ((l.length : Int) != (m.length : Int)) = false := by simp [hlen]
    have Hlen : Hid (l.length = m.length) := hlen
    clear hlen
    go_enter Tryz.func16, Tryz.ntmps16
    go_wp2_with fail
    go_loopw [5] (fun i wr => ∃ (k q : Nat), k ≤ l.length ∧ i = .int .i64 k ∧ wr = w.drewN q ∧ Hid (l.take k = m.take k)) (fun i wr => l.length - (intOf i).toNat)
    case atStart => exact ⟨0, 0, by omega, rfl, rfl, rfl⟩
    case round =>
      obtain ⟨k, q, hk, rfl, rfl, hs⟩ := hrel
      by_cases hlt : k < l.length
      · have hlt' : k < m.length := by have := Hlen.out; omega
        obtain ⟨b, rfl, hr⟩ := Hl.out (by intro e; rw [e] at hlt; simp at hlt)
        obtain ⟨b', rfl, hr'⟩ := Hm.out (by intro e; rw [e] at hlt'; simp at hlt')
        have c0 := hr k hlt
        have d0 := hr' k hlt'
        have i0 : (0 : Int) ≤ (k : Int) := by omega
        have i1 : (k : Int) < (l.length : Int) := by omega
        have i2 : (k : Int) < (m.length : Int) := by omega
        clear hr hr'
        by_cases he : l[k] = m[k]
        · have He : Hid (l[k] = m[k]) := he
          have hd3 : ((l[k] : Int) != (m[k] : Int)) = false := by simp [he]
          clear he
          generalize (l[k] : Int) = a at *
          generalize (m[k] : Int) = b at *
          go_wp2_with fail
          go_region
          go_wp2
          exact ⟨⟨k + 1, q + 1, by omega, by go_num, rfl, take_sameI hs.out hlt hlt' He.out⟩, by simp [intOf]; omega⟩
        · have He : Hid (¬ l[k] = m[k]) := he
          have hd3 : ((l[k] : Int) != (m[k] : Int)) = true := by simp; omega
          clear he
          generalize (l[k] : Int) = a at *
          generalize (m[k] : Int) = b at *
          go_wp2_with fail
          go_region
          go_wp2
          go_ret
          refine ⟨ret_bool ?_, ⟨rfl, rfl, rfl, Nat.le_refl _, fun _ _ => rfl⟩⟩
          have : ¬ l = m := fun e => He.out (by subst e; rfl)
          simp [this]
      · have hke : k = l.length := by omega
        go_wp2
        go_ret
        refine ⟨ret_bool ?_, ⟨rfl, rfl, rfl, Nat.le_refl _, fun _ _ => rfl⟩⟩
        have : l = m := by
          have h := hs.out
          rw [hke, List.take_length, Hlen.out, List.take_length] at h
          exact h
        simp [this]
  · have hd : ((l.length : Int) != (m.length : Int)) = true := by simp; omega
    have hne : Hid (¬ l = m) := fun e => hlen (by rw [e])
    clear hlen
    go_enter Tryz.func16, Tryz.ntmps16
    go_wp2
    go_ret
    exact ⟨ret_bool (by simp [hne.out]), RowKit.Below.refl _ _⟩

set_option maxHeartbeats 2000000 in
set_option maxRecDepth 100000 in
theorem partsOf_any (o : List UInt8) (w : World) :
    Calls Tryz.prog 43 #[.string ⟨o.toArray⟩] w fun e w' => e = .returned (.tuple #[.agg #[.int .i64 ((ordV o).1 : Int), .int .i64 ((ordV o).2.1 : Int), .int .i64 ((ordV o).2.2 : Int)], .bool (ordN o).isSome]) ∧ Below w.heap.size w w' := by
  cases hs : (ordN o).isSome
  · have h1 : (o == [115, 112, 111]) = false := by cases h : (o == [115, 112, 111]); rfl; rw [eq_of_beq h] at hs; cases hs
    have h2 : (o == [115, 111, 112]) = false := by cases h : (o == [115, 111, 112]); rfl; rw [eq_of_beq h] at hs; cases hs
    have h3 : (o == [112, 115, 111]) = false := by cases h : (o == [112, 115, 111]); rfl; rw [eq_of_beq h] at hs; cases hs
    have h4 : (o == [112, 111, 115]) = false := by cases h : (o == [112, 111, 115]); rfl; rw [eq_of_beq h] at hs; cases hs
    have h5 : (o == [111, 115, 112]) = false := by cases h : (o == [111, 115, 112]); rfl; rw [eq_of_beq h] at hs; cases hs
    have h6 : (o == [111, 112, 115]) = false := by cases h : (o == [111, 112, 115]); rfl; rw [eq_of_beq h] at hs; cases hs
    have hv : ordV o = (0, 0, 0) := by
      unfold ordV
      cases h : ordN o with
      | none => rfl
      | some q => rw [h] at hs; cases hs
    rw [hv]
    clear hs hv
    go_enter Tryz.func43, Tryz.ntmps43
    go_wp2_with fail
    exact bodyPost_ret (v := .tuple #[.agg #[.int .i64 0, .int .i64 0, .int .i64 0], .bool false]) (by unfold results; rw [Tryz.results43]; go_simp) rfl ⟨rfl, balloc _ _⟩
  · rcases ord_six hs with rfl | rfl | rfl | rfl | rfl | rfl
    · clear hs
      go_enter Tryz.func43, Tryz.ntmps43
      go_wp2_with fail
      exact bodyPost_ret (v := .tuple #[.agg #[.int .i64 0, .int .i64 1, .int .i64 2], .bool true]) (by unfold results; rw [Tryz.results43]; go_simp) rfl ⟨rfl, balloc _ _⟩
    · clear hs
      go_enter Tryz.func43, Tryz.ntmps43
      go_wp2_with fail
      exact bodyPost_ret (v := .tuple #[.agg #[.int .i64 0, .int .i64 2, .int .i64 1], .bool true]) (by unfold results; rw [Tryz.results43]; go_simp) rfl ⟨rfl, balloc _ _⟩
    · clear hs
      go_enter Tryz.func43, Tryz.ntmps43
      go_wp2_with fail
      exact bodyPost_ret (v := .tuple #[.agg #[.int .i64 1, .int .i64 0, .int .i64 2], .bool true]) (by unfold results; rw [Tryz.results43]; go_simp) rfl ⟨rfl, balloc _ _⟩
    · clear hs
      go_enter Tryz.func43, Tryz.ntmps43
      go_wp2_with fail
      exact bodyPost_ret (v := .tuple #[.agg #[.int .i64 1, .int .i64 2, .int .i64 0], .bool true]) (by unfold results; rw [Tryz.results43]; go_simp) rfl ⟨rfl, balloc _ _⟩
    · clear hs
      go_enter Tryz.func43, Tryz.ntmps43
      go_wp2_with fail
      exact bodyPost_ret (v := .tuple #[.agg #[.int .i64 2, .int .i64 0, .int .i64 1], .bool true]) (by unfold results; rw [Tryz.results43]; go_simp) rfl ⟨rfl, balloc _ _⟩
    · clear hs
      go_enter Tryz.func43, Tryz.ntmps43
      go_wp2_with fail
      exact bodyPost_ret (v := .tuple #[.agg #[.int .i64 2, .int .i64 1, .int .i64 0], .bool true]) (by unfold results; rw [Tryz.results43]; go_simp) rfl ⟨rfl, balloc _ _⟩
end Go.Proofs.YtnlcfnpcjkcdmacGreatDoor
