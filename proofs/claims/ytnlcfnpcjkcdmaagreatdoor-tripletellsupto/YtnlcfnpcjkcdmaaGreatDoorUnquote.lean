/- unquote: up to the quote that ends a text. -/
import Derived.Test.YtnlcfnpcjkcdmaaGreatDoorPrint
namespace Go.Proofs.YtnlcfnpcjkcdmaaGreatDoor
open Go Go.RowKit Go.Proofs

def unqL : List UInt8 → Option (List UInt8 × List UInt8)
  | [] => none
  | c :: r =>
    if c = 34 then some ([], r)
    else if c = 92 then
      match r with
      | [] => none
      | d :: r' => if markB (d.toNat : Int) then (unqL r').map (fun p => (d :: p.1, p.2)) else none
    else (unqL r).map (fun p => (c :: p.1, p.2))

theorem unqL_cons (c : UInt8) (r : List UInt8) : unqL (c :: r) = if c = 34 then some ([], r) else if c = 92 then (match r with | [] => none | d :: r' => if markB (d.toNat : Int) then (unqL r').map (fun p => (d :: p.1, p.2)) else none) else (unqL r).map (fun p => (c :: p.1, p.2)) := by
  cases r <;> rfl

def unqV (o : Option (List UInt8 × List UInt8)) : Value := match o with
  | none => .tuple #[.string ⟨#[]⟩, .string ⟨#[]⟩, .bool false]
  | some p => .tuple #[.string ⟨p.1.toArray⟩, .string ⟨p.2.toArray⟩, .bool true]

/-- what is read so far, and what is left to read -/
def unqAt (l : List UInt8) (k : Nat) (acc : List UInt8) : Prop := unqL l = (unqL (l.drop k)).map (fun p => (acc ++ p.1, p.2))

theorem unqAt_zero (l : List UInt8) : unqAt l 0 [] := by
  unfold unqAt; simp

theorem drop_at (l : List UInt8) (k : Nat) (h : k < l.length) : l.drop k = l[k] :: l.drop (k + 1) := List.drop_eq_getElem_cons h

theorem unqAt_end (l : List UInt8) (k : Nat) (acc : List UInt8) (h : unqAt l k acc) (hk : l.length ≤ k) : unqL l = none := by
  unfold unqAt at h
  rw [h, List.drop_eq_nil_of_le hk]; rfl

theorem unqAt_quote (l : List UInt8) (k : Nat) (acc : List UInt8) (h : unqAt l k acc) (hk : k < l.length) (hq : l[k] = 34) : unqL l = some (acc, l.drop (k + 1)) := by
  unfold unqAt at h
  rw [h, drop_at l k hk, hq, unqL_cons]; simp

theorem unqAt_plain (l : List UInt8) (k : Nat) (acc : List UInt8) (h : unqAt l k acc) (hk : k < l.length) (hq : l[k] ≠ 34) (hm : l[k] ≠ 92) : unqAt l (k + 1) (acc ++ [l[k]]) := by
  unfold unqAt at h ⊢
  rw [h, drop_at l k hk, unqL_cons, if_neg hq, if_neg hm, Option.map_map]
  congr 1
  funext p
  simp

theorem unqAt_cut (l : List UInt8) (k : Nat) (acc : List UInt8) (h : unqAt l k acc) (hk : k < l.length) (hm : l[k] = 92) (he : k + 1 = l.length) : unqL l = none := by
  unfold unqAt at h
  rw [h, drop_at l k hk, hm, List.drop_eq_nil_of_le (by omega), unqL_cons]; rfl

theorem unqAt_bad (l : List UInt8) (k : Nat) (acc : List UInt8) (h : unqAt l k acc) (hk : k + 1 < l.length) (hm : l[k] = 92) (hb : markB (l[k + 1].toNat : Int) = false) : unqL l = none := by
  unfold unqAt at h
  rw [h, drop_at l k (by omega), hm, drop_at l (k + 1) hk, unqL_cons, if_neg (by decide), if_pos rfl]; simp [hb]

theorem unqAt_mark (l : List UInt8) (k : Nat) (acc : List UInt8) (h : unqAt l k acc) (hk : k + 1 < l.length) (hm : l[k] = 92) (hb : markB (l[k + 1].toNat : Int) = true) : unqAt l (k + 2) (acc ++ [l[k + 1]]) := by
  unfold unqAt at h ⊢
  rw [h, drop_at l k (by omega), hm, drop_at l (k + 1) hk, unqL_cons, if_neg (by decide), if_pos rfl]
  simp only [hb, if_true, Option.map_map]
  congr 1
  funext p
  simp

theorem drop_extract (l : List UInt8) (k : Nat) : (⟨l.toArray⟩ : ByteArray).extract k l.length = ⟨(l.drop k).toArray⟩ := by
  apply ByteArray.ext
  rw [ByteArray.data_extract]
  simp
  exact List.take_of_length_le (by simp)

theorem bdrewB {B : Nat} {w w1 : World} (h : Below B w.drew w1) : Below B w w1 := ⟨h.os, h.tape, h.output, h.size, h.block⟩

theorem byte_eq (c d : UInt8) : ((c.toNat : Int) == (d.toNat : Int)) = (c == d) := by
  rw [Bool.eq_iff_iff]; simp [UInt8.toNat_inj, Int.natCast_inj]

set_option maxHeartbeats 2000000 in
set_option maxRecDepth 100000 in
theorem unquote_any (l : List UInt8) (w : World) (hl : l.length ≤ 140737488355328) :
    Calls Tryz.prog 114 #[.string ⟨l.toArray⟩] w fun e w' => e = .returned (unqV (unqL l)) ∧ Below w.heap.size w w' := by
  have hB0 := Lib.fresh_isBuilder 107 5 w
  go_enter Tryz.func114, Tryz.ntmps114
  go_wp2_with fail
  go_loopw [6] (fun i wr => ∃ (k : Nat) (acc : List UInt8), k ≤ l.length ∧ acc.length ≤ k ∧ i = .int .i64 k ∧ Hid (unqAt l k acc) ∧ Lib.IsBuilder 107 5 w.heap.size w.heap.size (Lib.byteCells acc) wr ∧ Below w.heap.size w wr) (fun i wr => l.length - (intOf i).toNat)
  case atStart => exact ⟨0, [], Nat.zero_le _, Nat.zero_le _, rfl, unqAt_zero l, hB0, balloc _ _⟩
  case round =>
    obtain ⟨k, acc, hk, hacc, rfl, hat, hI, hbr⟩ := hrel
    have hsz := hbr.size
    clear hB0
    by_cases hlt : k < l.length
    · have hidx : ∀ h, (⟨l.toArray⟩ : ByteArray)[k]'h = l[k] := fun _ => rfl
      by_cases hq : l[k] = 34
      · have fin : Hid (unqV (unqL l) = .tuple #[.string ⟨acc.toArray⟩, .string ⟨(l.drop (k + 1)).toArray⟩, .bool true]) := by
          show _ = _; rw [unqAt_quote l k acc hat.out hlt hq]; rfl
        have hq' : ((l[k].toNat : Int) == 34) = true := by rw [hq]; rfl
        clear hq
        go_wp2_with fail
        have hwr : IntKind.i64.wrap ((k : Int) + 1) = (k : Int) + 1 := by rw [IntKind.wrap_i64]; omega
        have hb1 : (k : Int) + 1 ≤ (l.length : Int) := by omega
        go_region_with (first
          | (go_at_call 68; refine (Tryz.Builder_String_any w.heap.size w.heap.size acc wr.drew hI hsz).mono ?_; rintro e w2 ⟨rfl, hb2⟩))
        all_goals
          go_wp2
          go_ret3
          exact ⟨ret_val (by rw [fin.out, ← drop_extract]; rfl), hbr.trans (bdrewB hb2)⟩
      · have hq' : ((l[k].toNat : Int) == 34) = false := by
          have := byte_eq l[k] 34
          rw [show ((34 : UInt8).toNat : Int) = 34 from rfl] at this
          rw [this]; simpa using hq
        by_cases hm : l[k] = 92
        · have hm' : ((l[k].toNat : Int) == 92) = true := by rw [hm]; rfl
          by_cases he : k + 1 = l.length
          · have fin : Hid (unqV (unqL l) = .tuple #[.string ⟨#[]⟩, .string ⟨#[]⟩, .bool false]) := by
              show _ = _; rw [unqAt_cut l k acc hat.out hlt hm he]; rfl
            have he' : (((k : Int) + 1) == (l.length : Int)) = true := by rw [beq_iff_eq]; omega
            clear hq hm he
            go_wp2
            go_ret3
            exact ⟨ret_val fin.out.symm, hbr⟩
          · have he' : (((k : Int) + 1) == (l.length : Int)) = false := by rw [beq_eq_false_iff_ne]; omega
            have hlt1 : k + 1 < l.length := by omega
            have hidx1 : ∀ h, (⟨l.toArray⟩ : ByteArray)[k + 1]'h = l[k + 1] := fun _ => rfl
            cases hb : markB (l[k + 1].toNat : Int)
            · have fin : Hid (unqV (unqL l) = .tuple #[.string ⟨#[]⟩, .string ⟨#[]⟩, .bool false]) := by
                show _ = _; rw [unqAt_bad l k acc hat.out hlt1 hm hb]; rfl
              clear hq hm he
              go_wp2_with (first | (go_at_call 95; refine (isMarked_any _ _).mono ?_; rintro e w' ⟨rfl, rfl⟩))
              go_ret3
              exact ⟨ret_val fin.out.symm, hbr⟩
            · have hnext : Hid (unqAt l (k + 2) (acc ++ [l[k + 1]])) := unqAt_mark l k acc hat.out hlt1 hm hb
              clear hq hm he
              go_wp2_with (first | (go_at_call 95; refine (isMarked_any _ _).mono ?_; rintro e w' ⟨rfl, rfl⟩))
              refine (WriteByte_any w.heap.size w.heap.size _ _ _ hI (by simp [Lib.byteCells]; omega) hsz).mono ?_
              rintro e w2 ⟨rfl, hI2, hb2⟩
              rw [cells_snoc] at hI2
              go_wp2_with fail
              exact ⟨⟨k + 2, _, by omega, by simp; omega, by go_num, hnext, Or.inr hI2, hbr.trans hb2⟩, by simp [intOf]; omega⟩
        · have hm' : ((l[k].toNat : Int) == 92) = false := by
            have := byte_eq l[k] 92
            rw [show ((92 : UInt8).toNat : Int) = 92 from rfl] at this
            rw [this]; simpa using hm
          have hnext : Hid (unqAt l (k + 1) (acc ++ [l[k]])) := unqAt_plain l k acc hat.out hlt hq hm
          clear hq hm
          go_wp2_with fail
          refine (WriteByte_any w.heap.size w.heap.size _ _ _ hI (by simp [Lib.byteCells]; omega) hsz).mono ?_
          rintro e w2 ⟨rfl, hI2, hb2⟩
          rw [cells_snoc] at hI2
          go_wp2_with fail
          exact ⟨⟨k + 1, _, by omega, by simp; omega, by go_num, hnext, Or.inr hI2, hbr.trans hb2⟩, by simp [intOf]; omega⟩
    · have fin : Hid (unqV (unqL l) = .tuple #[.string ⟨#[]⟩, .string ⟨#[]⟩, .bool false]) := by
        show _ = _; rw [unqAt_end l k acc hat.out (by omega)]; rfl
      go_wp2
      go_ret3
      exact ⟨ret_val fin.out.symm, hbr⟩
end Go.Proofs.YtnlcfnpcjkcdmaaGreatDoor
