/- The document's Bytes, Three, SetBytes. -/
import Derived.Test.YtonmmnhikjfibadGreatDoorCodeOps
namespace Go.Proofs.YtonmmnhikjfibadGreatDoor
open Go Go.RowKit Go.Proofs
set_option synthInstance.maxSize 1000

theorem Buf.lit {B : Nat} {W0 w : World} {c : UInt8} {n : Int} (h : RowKit.Below B W0 w ∧ B ≤ w.heap.size) (hn : n = (c.toNat : Int)) : Buf B (.slice (some ⟨w.heap.size, 0, none⟩) 1 1) [c] W0 (w.alloc (.cells #[.int .u8 n] 5)) := by
  subst hn
  refine ⟨⟨rfl, Or.inr ⟨w.heap.size, 1, _, (0, 0), rfl, h.2, heap_alloc_new w _, Nat.zero_le _, Nat.le_refl _, by unfold maxLen; omega, rfl, rfl⟩⟩, h.1.alloc h.2 _, ?_⟩
  simp
  omega
theorem Buf.lit2 {B : Nat} {W0 w : World} {c d : UInt8} {n m : Int} (h : RowKit.Below B W0 w ∧ B ≤ w.heap.size) (hn : n = (c.toNat : Int)) (hm : m = (d.toNat : Int)) : Buf B (.slice (some ⟨w.heap.size, 0, none⟩) 2 2) [c, d] W0 (w.alloc (.cells #[.int .u8 n, .int .u8 m] 5)) := by
  subst hn hm
  refine ⟨⟨rfl, Or.inr ⟨w.heap.size, 2, _, (0, 0), rfl, h.2, heap_alloc_new w _, Nat.zero_le _, Nat.le_refl _, by unfold maxLen; omega, rfl, rfl⟩⟩, h.1.alloc h.2 _, ?_⟩
  simp
  omega

set_option maxHeartbeats 4000000 in
set_option maxRecDepth 100000 in
theorem RBytes_any (x : Tm) (w : World) (hx : okTm x = 0) :
    Calls Tryz.prog 25 #[.agg #[.int .i64 x.1, .string ⟨x.2.1.toArray⟩, .string ⟨x.2.2.toArray⟩]] w fun e w' => e = .returned (.string ⟨(encT x).toArray⟩) ∧ RowKit.Below w.heap.size w w' := by
  obtain ⟨hk, hS, hL⟩ := ok_parts hx
  obtain ⟨k, S, L⟩ := x
  dsimp only at hk hS hL ⊢
  have hT : TBox (w.alloc (.cells #[.int .i64 k, .string ⟨S.toArray⟩, .string ⟨L.toArray⟩] 43)) w.heap.size (k, S, L) := heap_alloc_new w _
  have hw : RowKit.Below w.heap.size w (w.alloc (.cells #[.int .i64 k, .string ⟨S.toArray⟩, .string ⟨L.toArray⟩] 43)) ∧ w.heap.size ≤ (w.alloc (.cells #[.int .i64 k, .string ⟨S.toArray⟩, .string ⟨L.toArray⟩] 43)).heap.size := ⟨balloc _ _, by simp⟩
  have hc8 : Hid ((S.length : Int) = ((UInt8.ofNat S.length).toNat : Int)) := by show _ = _; rw [toNat_ofNat (by omega)]
  clear hx
  rcases hL with rfl | ⟨rfl, hL⟩
  · rcases hk with rfl | rfl | rfl
    · have hT1 := hT.keep (Keep.alloc _ (.cells #[.int .u8 1] 5))
      have hb1 : Buf w.heap.size (.slice (some ⟨w.heap.size + 1, 0, none⟩) 1 1) [1] w ((w.alloc (.cells #[.int .i64 1, .string ⟨S.toArray⟩, .string ⟨#[]⟩] 43)).alloc (.cells #[.int .u8 1] 5)) := by
        have := Buf.lit (c := 1) hw rfl
        rwa [World.size_alloc] at this
      go_enter Tryz.func25, Tryz.ntmps25
      go_wp2_with (at_builtin; first
        | (refine app_text rfl _ _ rfl w.heap.size v3 ([1] ++ [] ++ [UInt8.ofNat S.length]) (by rfl) w hb3 S (by rfl) (by simp; omega) ?_; intro v4 w4 hb4 hk4; have hcv := hb4.string (by simp))
        | (refine app_byte rfl _ _ rfl w.heap.size v2 ([1] ++ []) (by rfl) w _ _ hb2 _ (by rfl) (by simp) (UInt8.ofNat S.length) hc8.out (by simp) ?_; intro v3 w3 hb3 hk3; have hT3 := hT2.keep hk3; have f1 : w3.cell? ⟨w.heap.size, 1, none⟩ = some (.string ⟨S.toArray⟩) := hT3.c1)
        | (refine app_text rfl _ _ rfl w.heap.size (.slice (some ⟨w.heap.size + 1, 0, none⟩) 1 1) [1] (by rfl) w hb1 [] (by rfl) (by simp) ?_; intro v2 w2 hb2 hk2; have hT2 := hT1.keep hk2; have e1 : w2.cell? ⟨w.heap.size, 1, none⟩ = some (.string ⟨S.toArray⟩) := hT2.c1))
      go_ret
      refine ⟨?_, hb4.2.1⟩
      rw [show encT (1, S, []) = [1] ++ [] ++ [UInt8.ofNat S.length] ++ S by simp [encT]]
      rfl
    · have hT1 := hT.keep (Keep.alloc _ (.cells #[.int .u8 2] 5))
      have hb1 : Buf w.heap.size (.slice (some ⟨w.heap.size + 1, 0, none⟩) 1 1) [2] w ((w.alloc (.cells #[.int .i64 2, .string ⟨S.toArray⟩, .string ⟨#[]⟩] 43)).alloc (.cells #[.int .u8 2] 5)) := by
        have := Buf.lit (c := 2) hw rfl
        rwa [World.size_alloc] at this
      go_enter Tryz.func25, Tryz.ntmps25
      go_wp2_with (at_builtin; first
        | (refine app_text rfl _ _ rfl w.heap.size v3 ([2] ++ [] ++ [UInt8.ofNat S.length]) (by rfl) w hb3 S (by rfl) (by simp; omega) ?_; intro v4 w4 hb4 hk4; have hcv := hb4.string (by simp))
        | (refine app_byte rfl _ _ rfl w.heap.size v2 ([2] ++ []) (by rfl) w _ _ hb2 _ (by rfl) (by simp) (UInt8.ofNat S.length) hc8.out (by simp) ?_; intro v3 w3 hb3 hk3; have hT3 := hT2.keep hk3; have f1 : w3.cell? ⟨w.heap.size, 1, none⟩ = some (.string ⟨S.toArray⟩) := hT3.c1)
        | (refine app_text rfl _ _ rfl w.heap.size (.slice (some ⟨w.heap.size + 1, 0, none⟩) 1 1) [2] (by rfl) w hb1 [] (by rfl) (by simp) ?_; intro v2 w2 hb2 hk2; have hT2 := hT1.keep hk2; have e1 : w2.cell? ⟨w.heap.size, 1, none⟩ = some (.string ⟨S.toArray⟩) := hT2.c1))
      go_ret
      refine ⟨?_, hb4.2.1⟩
      rw [show encT (2, S, []) = [2] ++ [] ++ [UInt8.ofNat S.length] ++ S by simp [encT]]
      rfl
    · have hT1 := hT.keep (Keep.alloc _ (.cells #[.int .u8 3] 5))
      have hb1 : Buf w.heap.size (.slice (some ⟨w.heap.size + 1, 0, none⟩) 1 1) [3] w ((w.alloc (.cells #[.int .i64 3, .string ⟨S.toArray⟩, .string ⟨#[]⟩] 43)).alloc (.cells #[.int .u8 3] 5)) := by
        have := Buf.lit (c := 3) hw rfl
        rwa [World.size_alloc] at this
      go_enter Tryz.func25, Tryz.ntmps25
      go_wp2_with (at_builtin; first
        | (refine app_text rfl _ _ rfl w.heap.size v3 ([3] ++ [] ++ [UInt8.ofNat S.length]) (by rfl) w hb3 S (by rfl) (by simp; omega) ?_; intro v4 w4 hb4 hk4; have hcv := hb4.string (by simp))
        | (refine app_byte rfl _ _ rfl w.heap.size v2 ([3] ++ []) (by rfl) w _ _ hb2 _ (by rfl) (by simp) (UInt8.ofNat S.length) hc8.out (by simp) ?_; intro v3 w3 hb3 hk3; have hT3 := hT2.keep hk3; have f1 : w3.cell? ⟨w.heap.size, 1, none⟩ = some (.string ⟨S.toArray⟩) := hT3.c1)
        | (refine app_text rfl _ _ rfl w.heap.size (.slice (some ⟨w.heap.size + 1, 0, none⟩) 1 1) [3] (by rfl) w hb1 [] (by rfl) (by simp) ?_; intro v2 w2 hb2 hk2; have hT2 := hT1.keep hk2; have e1 : w2.cell? ⟨w.heap.size, 1, none⟩ = some (.string ⟨S.toArray⟩) := hT2.c1))
      go_ret
      refine ⟨?_, hb4.2.1⟩
      rw [show encT (3, S, []) = [3] ++ [] ++ [UInt8.ofNat S.length] ++ S by simp [encT]]
      rfl
  · obtain ⟨p, q, rfl⟩ : ∃ p q, L = [p, q] := by
      match L, hL with
      | [p, q], _ => exact ⟨p, q, rfl⟩
    clear hL hk
    have hT1 := hT.keep (Keep.alloc _ (.cells #[.int .u8 7] 5))
    have hb1 : Buf w.heap.size (.slice (some ⟨w.heap.size + 1, 0, none⟩) 1 1) [7] w ((w.alloc (.cells #[.int .i64 3, .string ⟨S.toArray⟩, .string ⟨#[p, q]⟩] 43)).alloc (.cells #[.int .u8 7] 5)) := by
      have := Buf.lit (c := 7) hw rfl
      rwa [World.size_alloc] at this
    go_enter Tryz.func25, Tryz.ntmps25
    go_wp2_with (at_builtin; first
      | (refine app_text rfl _ _ rfl w.heap.size v3 ([7] ++ [p, q] ++ [UInt8.ofNat S.length]) (by rfl) w hb3 S (by rfl) (by simp; omega) ?_; intro v4 w4 hb4 hk4; have hcv := hb4.string (by simp))
      | (refine app_byte rfl _ _ rfl w.heap.size v2 ([7] ++ [p, q]) (by rfl) w _ _ hb2 _ (by rfl) (by simp) (UInt8.ofNat S.length) hc8.out (by simp) ?_; intro v3 w3 hb3 hk3; have hT3 := hT2.keep hk3; have f1 : w3.cell? ⟨w.heap.size, 1, none⟩ = some (.string ⟨S.toArray⟩) := hT3.c1)
      | (refine app_text rfl _ _ rfl w.heap.size (.slice (some ⟨w.heap.size + 1, 0, none⟩) 1 1) [7] (by rfl) w hb1 [p, q] (by rfl) (by simp) ?_; intro v2 w2 hb2 hk2; have hT2 := hT1.keep hk2; have e1 : w2.cell? ⟨w.heap.size, 1, none⟩ = some (.string ⟨S.toArray⟩) := hT2.c1))
    go_ret
    refine ⟨?_, hb4.2.1⟩
    rw [show encT (3, S, [p, q]) = [7] ++ [p, q] ++ [UInt8.ofNat S.length] ++ S by simp [encT]]
    rfl

/-- three terms in a row -/
def T9 (w : World) (g : Nat) (y : Tr) : Prop := w.heap[g]? = some (Obj.cells (encTr y).toArray 43)
theorem T9.keep {w w' : World} {g : Nat} {y : Tr} (h : T9 w g y) (k : Keep w w') : T9 w' g y := k _ _ _ _ (by decide) h
theorem T9.lt {w : World} {g : Nat} {y : Tr} (h : T9 w g y) : g < w.heap.size := (Array.getElem?_eq_some_iff.1 h).1
theorem T9.below {w w' : World} {g : Nat} {y : Tr} (h : T9 w g y) (hb : RowKit.Below w.heap.size w w') : T9 w' g y := (hb.block g h.lt).trans h
theorem T9.all {W : World} {n : Nat} {y : Tr} (h : T9 W n y) : C9 W n y := by
  unfold C9
  simp only [cell_of_row W n _ _ _ _ h]
  exact ⟨rfl, rfl, rfl, rfl, rfl, rfl, rfl, rfl, rfl⟩
theorem Buf.below {B : Nat} {v : Value} {l : List UInt8} {W0 w w' : World} (h : Buf B v l W0 w) (hb : RowKit.Below w.heap.size w w') : Buf B v l W0 w' :=
  ⟨h.1.kept (row := none) ⟨hb.os, hb.tape, hb.output, hb.size, fun i hi _ => hb.block i hi⟩ (by cases v.ownBlock <;> simp), h.2.1.trans (hb.mono h.2.2), Nat.le_trans h.2.2 hb.size⟩

set_option maxHeartbeats 2000000 in
set_option maxRecDepth 100000 in
theorem RThree_any (y : Tr) (w : World) :
    Calls Tryz.prog 58 #[valTr y] w fun e w' => ∃ g, e = .returned (.slice (some ⟨g, 0, none⟩) 3 3) ∧ T9 w' g y ∧ RowKit.Below w.heap.size w w' := by
  unfold valTr
  go_enter Tryz.func58, Tryz.ntmps58
  go_wp2_with fail
  go_ret
  refine ⟨w.heap.size + 1, rfl, ?_, bstep (balloc _ _) (balloc _ _)⟩
  have := heap_alloc_new (w.alloc (.cells (encTr y).toArray 88)) (.cells (encTr y).toArray 43)
  rw [World.size_alloc] at this
  exact this

def encK (y : Tr) (k : Nat) : List UInt8 := if k = 0 then [] else if k = 1 then encT y.1 else if k = 2 then encT y.1 ++ encT y.2.1 else encX y
theorem encK_len {y : Tr} (h : okTr y) (k : Nat) : (encK y k).length ≤ 84 := by
  have h1 := encT_len h.1
  have h2 := encT_len h.2.1
  have h3 := encX_len h
  unfold encK
  split
  · simp
  · split
    · omega
    · split
      · simp; omega
      · exact h3

set_option maxHeartbeats 8000000 in
set_option maxRecDepth 100000 in
theorem RSetBytes_any (ad : Option Addr) (ca : Nat) (l : List Tr) (w : World) (hl : SlT w ad l) (hs : IsSet l) :
    Calls Tryz.prog 27 #[.slice ad l.length ca] w fun e w' => e = .returned (.string ⟨(encS l).toArray⟩) ∧ RowKit.Below w.heap.size w w' := by
  have Hl : Hid (SlT w ad l) := hl
  have Hok : Hid (∀ x ∈ l, okTr x) := okTr_set hs
  have hn : l.length ≤ 200 := hs.1
  have hc : Hid ((l.length : Int) / 256 = ((UInt8.ofNat (l.length / 256)).toNat : Int)) := by show _ = _; rw [toNat_ofNat (by omega)]; omega
  have hd : Hid ((l.length : Int) % 256 = ((UInt8.ofNat l.length).toNat : Int)) := by show _ = _; rw [toNat_ofNat (by omega)]; omega
  clear hl hs
  go_enter Tryz.func27, Tryz.ntmps27
  go_wp2_with fail
  generalize hq : [UInt8.ofNat (l.length / 256), UInt8.ofNat l.length] = q2 at *
  have hq2 : q2.length = 2 := by rw [← hq]; rfl
  have hb0 : Hid (Buf w.heap.size (.slice (some ⟨w.heap.size, 0, none⟩) 2 2) q2 w (w.alloc (.cells #[.int .u8 ((l.length : Int) / 256), .int .u8 ((l.length : Int) % 256)] 5))) := by
    show Buf _ _ _ _ _
    rw [← hq]
    exact Buf.lit2 ⟨RowKit.Below.refl _ _, Nat.le_refl _⟩ hc.out hd.out
  go_loopw [3, 4] (fun v iv wr => ∃ k : Nat, k ≤ l.length ∧ iv = .int .i64 k ∧ Hid (Buf w.heap.size v (q2 ++ encR (l.take k)) w wr)) (fun _ iv _ => l.length - (intOf iv).toNat)
  case atStart => exact ⟨0, Nat.zero_le _, rfl, by show Buf _ _ _ _ _; simpa [encR] using hb0.out⟩
  case round =>
    obtain ⟨k, hk, rfl, hbu⟩ := hrel
    by_cases hlt : k < l.length
    · obtain ⟨b, o, rfl, hr⟩ := (Hl.out.below hbu.out.2.1).at k hlt
      obtain ⟨c0, c1, c2, c3, c4, c5, c6, c7, c8⟩ := hr.at k hlt
      have i0' : (0 : Int) ≤ (k : Int) := by omega
      have i1 : (k : Int) < (l.length : Int) := by omega
      have hy := Hok.out _ (List.getElem_mem hlt)
      have htk : Hid (encR (l.take (k + 1)) = encR (l.take k) ++ encX l[k]) := by show encR _ = _; unfold encR; rw [List.take_succ_eq_append_getElem hlt, List.flatMap_append]; simp only [List.flatMap_cons, List.flatMap_nil, List.append_nil]
      have hlen : Hid ((q2 ++ encR (l.take k)).length ≤ 20000) := by
        show _ ≤ _
        have h1 := encR_len (l.take k) (fun x hx => Hok.out x (List.mem_of_mem_take hx))
        have h2 : (l.take k).length ≤ 200 := by rw [List.length_take]; omega
        simp only [List.length_append]
        omega
      generalize hbase : q2 ++ encR (l.take k) = base at *
      generalize encR (l.take k) = t0 at *
      generalize l[k] = y at *
      have H3 := fun W => RThree_any y W
      unfold valTr at H3
      clear hr hb0 hq
      go_wp2_with fail
      refine (H3 _).mono ?_
      rintro e W1 ⟨g, rfl, hT, hb1⟩
      have hT : Hid (T9 W1 g y) := hT
      have hB : Hid (Buf w.heap.size _ base w W1) := hbu.out.below hb1
      clear hb1 hbu c0 c1 c2 c3 c4 c5 c6 c7 c8 H3
      go_wp2_with fail
      go_loopw [3, 6] (fun v jv W2 => ∃ j : Nat, j ≤ 3 ∧ jv = .int .i64 j ∧ Hid (Buf w.heap.size v (base ++ encK y j) w W2) ∧ Hid (T9 W2 g y)) (fun _ jv _ => 3 - (intOf jv).toNat)
      case atStart => exact ⟨0, by omega, rfl, by show Buf _ _ _ _ _; rw [show encK y 0 = [] from rfl, List.append_nil]; exact hB.out, hT⟩
      case round =>
        obtain ⟨j, hj, rfl, hB, hT⟩ := hrel
        obtain ⟨x0, x1, x2, x3, x4, x5, x6, x7, x8⟩ := hT.out.all
        rcases (by omega : j = 0 ∨ j = 1 ∨ j = 2 ∨ j = 3) with rfl | rfl | rfl | rfl
        · have ek : encK y 0 = [] := rfl
          have ek' : Hid (encK y 1 = encK y 0 ++ encT y.1) := by show _ = _; simp [encK]
          have HB := fun W => RBytes_any y.1 W hy.1
          have hlen2 : Hid ((base ++ encK y 0).length + (encT y.1).length ≤ 500000) := by show _ ≤ _; have := hlen.out; have := encK_len hy 0; have := encT_len hy.1; simp only [List.length_append]; omega
          clear ek
          go_wp2_with fail
          refine (HB _).mono ?_
          rintro e W2 ⟨rfl, hb2⟩
          have hB2 := hB.out.below hb2
          have hT2 : T9 W2 g y := hT.out.below hb2
          clear hb2 HB
          go_wp2_with (at_builtin; refine app_text rfl _ _ rfl w.heap.size _ (base ++ encK y 0) (by rfl) w hB2 (encT y.1) (by rfl) (by have := hlen2.out; omega) ?_; intro v3 W3 hb3 hk3)
          have hB3 : Hid (Buf w.heap.size v3 (base ++ encK y 1) w W3) := by show Buf _ _ _ _ _; rw [ek'.out, ← List.append_assoc]; exact hb3
          have hT3 : Hid (T9 W3 g y) := hT2.keep hk3
          go_roundw
          case rel => exact ⟨1, by omega, rfl, hB3, hT3⟩
          case measure => simp [intOf]
        · have ek : encK y 1 = encT y.1 := rfl
          have ek' : Hid (encK y 2 = encK y 1 ++ encT y.2.1) := by show _ = _; simp [encK]
          have HB := fun W => RBytes_any y.2.1 W hy.2.1
          have hlen2 : Hid ((base ++ encK y 1).length + (encT y.2.1).length ≤ 500000) := by show _ ≤ _; have := hlen.out; have := encK_len hy 1; have := encT_len hy.2.1; simp only [List.length_append]; omega
          clear ek
          go_wp2_with fail
          refine (HB _).mono ?_
          rintro e W2 ⟨rfl, hb2⟩
          have hB2 := hB.out.below hb2
          have hT2 : T9 W2 g y := hT.out.below hb2
          clear hb2 HB
          go_wp2_with (at_builtin; refine app_text rfl _ _ rfl w.heap.size _ (base ++ encK y 1) (by rfl) w hB2 (encT y.2.1) (by rfl) (by have := hlen2.out; omega) ?_; intro v3 W3 hb3 hk3)
          have hB3 : Hid (Buf w.heap.size v3 (base ++ encK y 2) w W3) := by show Buf _ _ _ _ _; rw [ek'.out, ← List.append_assoc]; exact hb3
          have hT3 : Hid (T9 W3 g y) := hT2.keep hk3
          go_roundw
          case rel => exact ⟨2, by omega, rfl, hB3, hT3⟩
          case measure => simp [intOf]
        · have ek : encK y 2 = encT y.1 ++ encT y.2.1 := rfl
          have ek' : Hid (encK y 3 = encK y 2 ++ encT y.2.2) := by show _ = _; simp [encK, encX]
          have HB := fun W => RBytes_any y.2.2 W hy.2.2
          have hlen2 : Hid ((base ++ encK y 2).length + (encT y.2.2).length ≤ 500000) := by show _ ≤ _; have := hlen.out; have := encK_len hy 2; have := encT_len hy.2.2; simp only [List.length_append]; omega
          clear ek
          go_wp2_with fail
          refine (HB _).mono ?_
          rintro e W2 ⟨rfl, hb2⟩
          have hB2 := hB.out.below hb2
          have hT2 : T9 W2 g y := hT.out.below hb2
          clear hb2 HB
          go_wp2_with (at_builtin; refine app_text rfl _ _ rfl w.heap.size _ (base ++ encK y 2) (by rfl) w hB2 (encT y.2.2) (by rfl) (by have := hlen2.out; omega) ?_; intro v3 W3 hb3 hk3)
          have hB3 : Hid (Buf w.heap.size v3 (base ++ encK y 3) w W3) := by show Buf _ _ _ _ _; rw [ek'.out, ← List.append_assoc]; exact hb3
          have hT3 : Hid (T9 W3 g y) := hT2.keep hk3
          go_roundw
          case rel => exact ⟨3, by omega, rfl, hB3, hT3⟩
          case measure => simp [intOf]
        · have hmv : Hid (∀ u W, Buf w.heap.size u (base ++ encK y 3) w W → Buf w.heap.size u (q2 ++ encR (l.take (k + 1))) w W) := fun u W h => by
            rw [htk.out, ← List.append_assoc, hbase]
            exact h
          go_wp2_with fail
          exact ⟨⟨k + 1, by omega, by go_num, hmv.out _ _ hB.out⟩, by simp [intOf]; omega⟩
    · obtain rfl : k = l.length := by omega
      have hbu' := hbu.out
      rw [List.take_length, ← hq] at hbu'
      have e : [UInt8.ofNat (l.length / 256), UInt8.ofNat l.length] ++ encR l = encS l := rfl
      rw [e] at hbu'
      have hcv := hbu'.string (encS_ne l)
      go_wp2_with fail
      go_ret
      exact ⟨rfl, hbu'.2.1⟩
end Go.Proofs.YtonmmnhikjfibadGreatDoor
