/- match.Index: what it tells. -/
import Derived.Test.YtnlcfnpcjkcdmacGreatDoorMatchCmp
import Derived.Test.YtnlcfnpcjkcdmacGreatDoorIdxPlain
import Derived.Test.YtnlcfnpcjkcdmacGreatDoorSortShelfI
import Derived.Test.YtnlcfnpcjkcdmacGreatDoorShelf
import Derived.Test.YtnlcfnpcjkcdmacGreatDoorSetPlain
import Derived.Laws.MakeOwn
import Derived.Laws.OwnMore
import Derived.Laws.EntriesVeiled
import Derived.Deep.WholeRow
namespace Go.Proofs.YtnlcfnpcjkcdmacGreatDoor
open Go Go.RowKit Go.Proofs Go.Sort
set_option synthInstance.maxSize 1000

attribute [local go_sem] eql_errV neq_errV guard_errV

def encN (n : Nat) (i : Fin n) : Value := .int .i64 (i.val : Int)
theorem encN_one (n : Nat) : OneCell (encN n) := fun _ => rfl

/-! ### nothing to sort -/
theorem insertNoneI (a : Option Addr) (c : Nat) (f : Value) (w : World) : Calls Tryz.prog 96 #[.slice a 0 c, .int .i64 0, .int .i64 0, f] w fun e w' => e = .returned (.tuple #[]) ∧ w' = w := by
  go_enter Tryz.func96, Tryz.ntmps96
  go_wp2
  go_loop [8] (fun i => i = .int .i64 1) (fun _ => 0)
  case atStart => rfl
  case round =>
    subst hrel
    go_wp2
    go_end0
    exact ⟨rfl, rfl⟩
theorem pdqNoneI (a : Option Addr) (c : Nat) (f : Value) (n : Int) (w : World) : Calls Tryz.prog 74 #[.slice a 0 c, .int .i64 0, .int .i64 0, .int .i64 n, f] w fun e w' => e = .returned (.tuple #[]) ∧ w' = w := by
  go_enter Tryz.func74, Tryz.ntmps74
  go_wp2
  go_loop [1, 2] (fun a b => a = .int .i64 0 ∧ b = .int .i64 0) (fun _ _ => 0)
  case atStart => exact ⟨rfl, rfl⟩
  case round =>
    obtain ⟨rfl, rfl⟩ := hrel
    go_wp2_with (go_at_call 96; refine (insertNoneI _ _ _ _).mono ?_; rintro e w' ⟨rfl, rfl⟩)
    exact bodyPost_ret (v := .tuple #[]) (by simp [results, Tryz.results74, go_sem]) rfl ⟨rfl, rfl⟩
theorem SortNoneI (a : Option Addr) (c : Nat) (f : Value) (w : World) : Calls Tryz.prog 44 #[.slice a 0 c, f] w fun e w' => e = .returned (.tuple #[]) ∧ w' = w := by
  go_enter Tryz.func44, Tryz.ntmps44
  go_wp2_with (first
    | (go_at_call 75; refine (Tryz.bits_Len 0 _ (by omega) (by omega)).mono ?_; rintro e w' ⟨rfl, rfl⟩)
    | (go_at_call 74; refine (pdqNoneI _ _ _ _ _).mono ?_; rintro e w' ⟨rfl, rfl⟩))
  go_end0
  exact ⟨rfl, rfl⟩

theorem makeInts (n : Nat) (w : World) (h : n ≤ 200) : (Instr.makeSlice 45 (.int .i64 (n : Int)) (.int .i64 (n : Int))).run Tryz.prog w = .ok (.slice (some ⟨w.heap.size, 0, none⟩) n n) (w.alloc (.cells (madeCells #[.int .i64 0] n) 3)) := by
  have hi : (Tryz.prog.info? 3).map (fun i => (i.zero, i.size, i.bytes)) = some (some (.int .i64 0), 1, 8) := by kernel_rfl
  obtain ⟨i, hi, h1⟩ := Option.map_eq_some_iff.1 hi
  simp only [Prod.mk.injEq] at h1
  obtain ⟨h1, h2, h3⟩ := h1
  have := run_make (P := Tryz.prog) w 45 3 i _ Tryz.underlying45 hi h1 .i64 .i64 (n : Int) (n : Int) (by omega) (Int.le_refl _) (by rw [h3]; omega) (by omega)
  rw [h2] at this
  simpa [Value.cells] using this

/-- a row of places, laid as far as k -/
def LaidTo (W : World) (g n k : Nat) : Prop := ∀ j, j < n → W.cell? ⟨g, j, none⟩ = some (.int .i64 (if j < k then (j : Int) else 0)) ∧ W.frozen? ⟨g, j, none⟩ = false
theorem LaidTo.step {W : World} {g n k : Nat} (h : LaidTo W g n k) (hk : k < n) : LaidTo (W.setCell ⟨g, k, none⟩ (.int .i64 (k : Int))) g n (k + 1) := fun j hj => by
  refine ⟨?_, by rw [World.frozen?_setCell]; exact (h j hj).2⟩
  by_cases e : j = k
  · subst e
    rw [World.cell?_setCell_same _ _ _ (h j hj).1, if_pos (by omega)]
  · rw [World.cell?_setCell_other _ _ _ _ (fun h => e (by simpa using congrArg Addr.off h.symm)), (h j hj).1]
    by_cases h1 : j < k
    · rw [if_pos h1, if_pos (by omega)]
    · rw [if_neg h1, if_neg (by omega)]
theorem LaidTo.holds {W : World} {g n : Nat} [Inhabited (Fin n)] (h : LaidTo W g n n) : Holds (encN n) W g 0 (allI n) := fun j hj => by
  have hj' : j < n := by rw [allI_size] at hj; exact hj
  have := h j hj'
  rw [Nat.zero_add, getElem!_pos (allI n) j hj]
  rw [if_pos hj'] at this
  refine ⟨?_, this.2⟩
  rw [this.1]
  simp [encN, allI]

def indexN (l : List Tr) (o : List UInt8) : Int := if sortedN l = 0 then (if (ordN o).isSome = true then 0 else 2) else sortedN l
def IdxAns (l : List Tr) (o : List UInt8) (m : List Nat) : Prop := (indexN l o = 0 → IsPlaces (ordV o) l m) ∧ (indexN l o ≠ 0 → m = [])
def IAns (n : Int) (P : List Nat → Prop) (w : World) (e : Ending) (w' : World) : Prop := RowKit.Below w.heap.size w w' ∧ ∃ (m : List Nat) (ad : Option Addr) (c : Nat), e = .returned (.tuple #[.slice ad m.length c, errV n]) ∧ IntsAt w' ad m ∧ P m
theorem IAns.mk {n : Int} {P : List Nat → Prop} {w w' : World} (hb : RowKit.Below w.heap.size w w') (m : List Nat) (ad : Option Addr) (c : Nat) (hs : IntsAt w' ad m) (hp : P m) : IAns n P w (.returned (.tuple #[.slice ad m.length c, errV n])) w' := ⟨hb, m, ad, c, rfl, hs, hp⟩
theorem intsNil (W : World) (ad : Option Addr) : IntsAt W ad [] := fun h => absurd rfl h

theorem enters45 : ∀ args w, (callFunc 45 args).run Tryz.prog w = .ok (.enter 45 args) w := enters_of Tryz.func45 (by kernel_rfl) rfl

/-- the sort of the places -/
theorem sortPlaces_any (b o cap bl bp g c : Nat) (q : Nat × Nat × Nat) (l : List Tr) (w : World) (hq : PermQ q) (hl : Rising l) (h0 : 0 < l.length) (h200 : l.length ≤ 200)
    (hbox : w.cell? ⟨bl, 0, none⟩ = some (.slice (some ⟨b, o, none⟩) l.length cap)) (hrow : RowR w b o l)
    (hp0 : w.cell? ⟨bp, 0, none⟩ = some (.int .i64 (q.1 : Int))) (hp1 : w.cell? ⟨bp, 1, none⟩ = some (.int .i64 (q.2.1 : Int))) (hp2 : w.cell? ⟨bp, 2, none⟩ = some (.int .i64 (q.2.2 : Int)))
    (hg : g < w.heap.size) (hbl : bl < g) (hb : b < g) (hbp : bp < g) (hL : LaidTo w g l.length l.length) :
    Calls Tryz.prog 44 #[.slice (some ⟨g, 0, none⟩) l.length c, .func (.func 45) #[] #[.pointer (some ⟨bl, 0, none⟩), .pointer (some ⟨bp, 0, none⟩)]] w
      fun e w' => e = .returned (.tuple #[]) ∧ RowKit.Below g w w' ∧ ∃ m : List Nat, m.length = l.length ∧ IsPlaces q l m ∧ IntsAt w' (some ⟨g, 0, none⟩) m := by
  have inst : Inhabited (Fin l.length) := ⟨⟨0, h0⟩⟩
  have hH := hL.holds
  have hsz : (allI l.length).size = l.length := allI_size _
  have hS := Any.slices_SortFunc Tryz.sortI (encN l.length) (encN_one _) (fun (i j : Fin l.length) => cmpO q l[i] l[j]) (swoO q hq l) 45 #[.pointer (some ⟨bl, 0, none⟩), .pointer (some ⟨bp, 0, none⟩)] g 0 c (allI l.length) w enters45
    (fun m os dk hdk x y => by
      have hB : RowKit.Below g w (sortWorld (encN l.length) w g 0 m dk os) := below_sort1 (Nat.le_refl _) (by omega)
      have kp := fun (p : Addr) (v : Value) (hp : p.block < g) (hv : w.cell? p = some v) => (hB.cell hp).trans hv
      refine (idxCmp_any b o cap bl bp q l x.val y.val _ x.isLt y.isLt hq (kp _ _ hbl hbox) (fun j v hv => kp _ _ hb (hrow j v hv)) (kp _ _ hbp hp0) (kp _ _ hbp hp1) (kp _ _ hbp hp2)).mono ?_
      rintro e w' ⟨rfl, hgr⟩
      exact ⟨rfl, hgr⟩) hH hg (by rw [hsz]; omega)
  rw [hsz] at hS
  refine Calls.mono hS ?_
  rintro e w' ⟨rfl, d', n, os, hp, hs, rfl⟩
  have hpl := places_of hq hl (by rw [hsz]; exact hp) (by rw [hsz]; exact hs)
  refine ⟨rfl, below_sort1 (Nat.le_refl _) (by omega), d'.toList.map (·.val), by simpa using hpl.1, hpl.2, fun _ => ⟨g, rfl, fun j hj => ?_⟩⟩
  have hHd := holds_sortWorld (encN l.length) w g 0 n (allI l.length) d' os hg hH (by rw [hpl.1, hsz])
  have hj' : j < d'.size := by simpa using hj
  have := (hHd j hj').1
  rw [Nat.zero_add, getElem!_pos d' j hj'] at this
  rw [this]
  simp [encN]
/-! ### the walk -/
theorem laid_new (W : World) (n : Nat) (T : TypeId) : LaidTo (W.alloc (.cells (madeCells #[.int .i64 0] n) T)) W.heap.size n 0 := fun j hj => by
  have hh := heap_alloc_last W (.cells (madeCells #[.int .i64 0] n) T)
  refine ⟨?_, frozen_of_row _ _ j _ T hh⟩
  rw [cell_of_row _ _ j _ T (0, 0) hh, if_neg (by omega), ← Array.getElem?_toList, toList_madeCells_one]
  simp [hj]

set_option maxHeartbeats 8000000 in
set_option maxRecDepth 100000 in
theorem Index_any (ad : Option Addr) (ca : Nat) (l : List Tr) (o : List UInt8) (w : World) (hl : SlT w ad l) (fl : ∀ x ∈ l, fitTr x) (nl : l.length ≤ 9223372036854775807) :
    Calls Tryz.prog 15 #[.slice ad l.length ca, .string ⟨o.toArray⟩] w (IAns (indexN l o) (IdxAns l o) w) := by
  have H1 := fun W h1 => Sorted_any ad ca l W h1 fl nl
  have H2 := fun W => partsOf_any o W
  have Hl : Hid (SlT w ad l) := hl
  have fin : Hid (indexN l o = if sortedN l = 0 then (if (ordN o).isSome = true then 0 else 2) else sortedN l) := rfl
  have f0 : Hid (∀ n, indexN l o = n → ¬ n = 0 → IdxAns l o []) := fun n h h0 => ⟨fun e => absurd (h.symm.trans e) h0, fun _ => rfl⟩
  have f1 : Hid (∀ m, indexN l o = 0 → IsPlaces (ordV o) l m → IdxAns l o m) := fun m h hm => ⟨fun _ => hm, fun e => absurd h e⟩
  have hset := @sortedN_set l
  have hord := @ord_perm o
  generalize IdxAns l o = IA at *
  generalize indexN l o = N at *
  generalize sortedN l = n1 at *
  clear hl fl nl
  go_enter Tryz.func15, Tryz.ntmps15
  go_wp2_with fail
  refine (H1 _ (Hl.out.below (balloc _ _))).mono ?_
  rintro e w1 ⟨rfl, hb1⟩
  have hB1 := bstep (balloc _ _) hb1
  clear H1
  cases hn1 : (n1 == 0)
  · have h0 : ¬ n1 = 0 := by simpa using hn1
    have hN : N = n1 := by have := fin.out; rw [if_neg h0] at this; exact this
    have F0 : Hid _ := f0.out _ hN h0
    subst hN
    clear fin f0 f1 H2 h0 hset hord
    go_wp2_with fail
    exact bodyPost_ret (v := .tuple #[.slice none 0 0, errV N]) (by simp [results, Tryz.results15, go_sem]) rfl (IAns.mk hB1 [] none 0 (intsNil _ _) F0.out)
  · have h0 : n1 = 0 := by simpa using hn1
    obtain ⟨s1, _, s3⟩ := hset.1 h0
    have g1 : Hid (N = if (ordN o).isSome = true then 0 else 2) := by have := fin.out; rw [if_pos h0] at this; exact this
    have Hr : Hid (Rising l) := s3
    clear fin hset h0 s3
    go_wp2_with fail
    refine (H2 _).mono ?_
    rintro e w2 ⟨rfl, hb2⟩
    have hb12 := bstep hb1 hb2
    have hB2 := bstep hB1 hb2
    clear H2
    cases hs : (ordN o).isSome
    · have hN : N = 2 := by have := g1.out; rw [hs] at this; exact this
      have F0 : Hid _ := f0.out _ hN (by decide)
      subst hN
      clear f0 f1 g1 hord hs
      generalize ordV o = q at *
      go_wp2_with fail
      exact bodyPost_ret (v := .tuple #[.slice none 0 0, errV 2]) (by simp [results, Tryz.results15, go_sem]; rfl) rfl (IAns.mk (bstep hB2 (balloc _ _)) [] none 0 (intsNil _ _) F0.out)
    · have hN : N = 0 := by have := g1.out; rw [hs] at this; exact this
      have hq := hord hs
      have F1 : Hid _ := fun m => f1.out m hN
      subst hN
      clear f0 f1 g1 hord hs
      generalize ordV o = q at *
      have hmk := fun W => makeInts l.length W s1
      have k0 : w2.cell? ⟨w.heap.size, 0, none⟩ = some (.slice ad l.length ca) := by
        obtain ⟨k, _⟩ := bcell hb12
        rw [k _ _ (by simp)]
        go_simp
      have kz := World.block_lt_of_cell? _ _ k0
      have hb3 : RowKit.Below w2.heap.size w2 (w2.alloc (.cells #[.int .i64 (q.1 : Int), .int .i64 (q.2.1 : Int), .int .i64 (q.2.2 : Int)] 89)) := balloc _ _
      go_wp2_with fail
      go_loopw [29] (fun i wr => ∃ k : Nat, k ≤ l.length ∧ i = .int .i64 k ∧ Hid (LaidTo wr (w2.heap.size + 1) l.length k) ∧ Hid (RowKit.Below (w2.heap.size + 1) (w2.alloc (.cells #[.int .i64 (q.1 : Int), .int .i64 (q.2.1 : Int), .int .i64 (q.2.2 : Int)] 89)) wr) ∧ w2.heap.size + 1 < wr.heap.size) (fun i wr => l.length - (intOf i).toNat)
      case atStart =>
        have hn := laid_new (w2.alloc (.cells #[.int .i64 (q.1 : Int), .int .i64 (q.2.1 : Int), .int .i64 (q.2.2 : Int)] 89)) l.length 3
        rw [World.size_alloc] at hn
        have hbn := balloc (w2.alloc (.cells #[.int .i64 (q.1 : Int), .int .i64 (q.2.1 : Int), .int .i64 (q.2.2 : Int)] 89)) (.cells (madeCells #[.int .i64 0] l.length) 3)
        rw [World.size_alloc] at hbn
        exact ⟨0, Nat.zero_le _, rfl, hn, hbn, by simp⟩
      case round =>
        obtain ⟨k, hk, rfl, hL, hB, hz⟩ := hrel
        by_cases hlt : k < l.length
        · have c0 := (hL.out k hlt).1
          have c1 := (hL.out k hlt).2
          rw [if_neg (by omega)] at c0
          have i0 : (0 : Int) ≤ (k : Int) := by omega
          have i1 : (k : Int) < (l.length : Int) := by omega
          go_wp2_with fail
          exact ⟨⟨k + 1, by omega, by go_num, hL.out.step hlt, hB.out.setCell (p := ⟨w2.heap.size + 1, k, none⟩) (Nat.le_refl _) _, by simpa using hz⟩, by simp [intOf]; omega⟩
        · obtain rfl : k = l.length := by omega
          have hB' := hB.out
          have e0 : wr.cell? ⟨w.heap.size, 0, none⟩ = some (.slice ad l.length ca) := (hB'.cell (p := ⟨w.heap.size, 0, none⟩) (by show w.heap.size < w2.heap.size + 1; omega)).trans ((hb3.cell (p := ⟨w.heap.size, 0, none⟩) kz).trans k0)
          have p0 : wr.cell? ⟨w2.heap.size, 0, none⟩ = some (.int .i64 (q.1 : Int)) := (hB'.cell (p := ⟨w2.heap.size, 0, none⟩) (by show w2.heap.size < w2.heap.size + 1; omega)).trans (by go_simp)
          have p1 : wr.cell? ⟨w2.heap.size, 1, none⟩ = some (.int .i64 (q.2.1 : Int)) := (hB'.cell (p := ⟨w2.heap.size, 1, none⟩) (by show w2.heap.size < w2.heap.size + 1; omega)).trans (by go_simp)
          have p2 : wr.cell? ⟨w2.heap.size, 2, none⟩ = some (.int .i64 (q.2.2 : Int)) := (hB'.cell (p := ⟨w2.heap.size, 2, none⟩) (by show w2.heap.size < w2.heap.size + 1; omega)).trans (by go_simp)
          have hBw : RowKit.Below w.heap.size w wr := by
            have h3 := bstep hB2 hb3
            exact h3.trans (hB'.mono (by omega))
          have HBw : Hid (RowKit.Below w.heap.size w wr) := hBw
          by_cases h00 : l.length = 0
          · have hl0 : l = [] := List.eq_nil_of_length_eq_zero h00
            subst hl0
            have F2 : Hid (IA []) := F1.out [] ⟨List.Pairwise.nil, fun i => by simp, rfl⟩
            clear F1 hL hB
            go_wp2_with fail
            refine (SortNoneI _ _ _ _).mono ?_
            rintro e w9 ⟨rfl, rfl⟩
            go_wp2_with fail
            exact bodyPost_ret (v := .tuple #[.slice (some ⟨w2.heap.size + 1, 0, none⟩) 0 0, errV 0]) (by simp [results, Tryz.results15, go_sem]; rfl) rfl (IAns.mk HBw.out [] _ 0 (intsNil _ _) F2.out)
          · obtain ⟨b, oo, rfl, hrow⟩ := Hl.out (by intro h; subst h; exact h00 rfl)
            have hbw : b < w.heap.size := by
              have h9 : 0 < (cellsT l).length := by rw [cellsT_len]; omega
              exact World.block_lt_of_cell? w _ (hrow 0 _ (List.getElem?_eq_getElem h9))
            have hzz := hB2.size
            have HC := sortPlaces_any b oo ca w.heap.size w2.heap.size (w2.heap.size + 1) l.length q l wr hq Hr.out (by omega) s1 e0 (hrow.below hBw) p0 p1 p2 hz (by omega) (by omega) (by omega) hL.out
            have Hrow : Hid (RowR w b oo l) := hrow
            clear hrow hL hB hBw
            go_wp2_with fail
            refine HC.mono ?_
            rintro e w9 ⟨rfl, hb9, m, hm, hP, hI⟩
            have F2 : Hid (IA m) := F1.out m hP
            have HI : Hid (IntsAt w9 (some ⟨w2.heap.size + 1, 0, none⟩) m) := hI
            have hB9 : RowKit.Below w.heap.size w w9 := HBw.out.trans (hb9.mono (by omega))
            have Hm : Hid (m.length = l.length) := hm
            clear HC hP hI hm
            go_wp2_with fail
            exact bodyPost_ret (v := .tuple #[.slice (some ⟨w2.heap.size + 1, 0, none⟩) m.length l.length, errV 0]) (by rw [Hm.out]; simp [results, Tryz.results15, go_sem]; rfl) rfl (IAns.mk hB9 m _ l.length HI.out F2.out)
end Go.Proofs.YtnlcfnpcjkcdmacGreatDoor
