import Derived.Test.YtcdbcoaiadipjaaMA0x6
import Derived.Test.YtcdbcoaiadipjaaMA0x5
import Derived.Laws.Rows
import Derived.Test.YtcdbcoaiadipjaaMA0x0
import Derived.Test.YtcdbcoaiadipjaaMA0x1
import Derived.Laws.Cover1
import Derived.Deep.Draws
import Derived.RegionTactic
import Derived.Test.YtcdbcoaiadipjaaRows
import Derived.WalkKit
import Derived.Maps.AppendAt
import Derived.OwnWalk
import Derived.Deep.QuietTactic
import Derived.BigQuiet

/- plan.places, plan.countEach, plan.take: the places of a question's parts as they are taken. -/
namespace Go.Proofs.Ytcdbcoaiadipjaa
open Go Go.RowKit Go.Proofs Go.Maps
set_option synthInstance.maxSize 1000
attribute [local go_sem] eql_errV neq_errV guard_errV

/-! ### a row that is laid number by number -/
def rowJ (C : List Int) (k : Nat) : List Int := C.take k ++ List.replicate (C.length - k) 0
theorem rowJ_len (C : List Int) (k : Nat) (h : k ≤ C.length) : (rowJ C k).length = C.length := by simp [rowJ]; omega
theorem rowJ_next {C : List Int} {k : Nat} (h : k < C.length) : (rowJ C k).set k C[k] = rowJ C (k + 1) := by
  unfold rowJ
  obtain ⟨m, hm⟩ : ∃ m, C.length - k = m + 1 := ⟨C.length - k - 1, by omega⟩
  have hm2 : C.length - (k + 1) = m := by omega
  have hk : (C.take k).length = k := by simp; omega
  rw [hm, hm2, List.replicate_succ, List.set_append_right _ _ (by omega), hk, Nat.sub_self, List.set_cons_zero, List.take_succ_eq_append_getElem h, List.append_assoc]
  rfl
theorem rowJ_all (C : List Int) : rowJ C C.length = C := by simp [rowJ]
theorem rowJ_full {C : List Int} {k : Nat} (h : C.length = k) : rowJ C k = C := by rw [← h]; exact rowJ_all C
theorem rowJ_zero (C : List Int) : rowJ C 0 = List.replicate C.length 0 := by simp [rowJ]
theorem RowL.set {W : World} {b : Nat} {l : List Int} (h : RowL W b l) {k : Nat} (hk : k < l.length) (v : Int) : RowL (W.setCell ⟨b, k, none⟩ (.int .i64 v)) b (l.set k v) := by
  refine ⟨fun j hj => ?_, fun j hj => ?_⟩
  · have hj' : j < l.length := by simpa using hj
    by_cases e : j = k
    · subst e
      rw [List.getElem_set_self]
      exact World.cell?_setCell_same _ _ _ (h.at_ j hj')
    · rw [List.getElem_set_ne (fun h => e h.symm), World.cell?_setCell_other _ _ _ _ (fun h => e (by simpa using congrArg Addr.off h.symm))]
      exact h.at_ j hj'
  · rw [World.frozen?_setCell]
    exact h.free j (by simpa using hj)
theorem makeInts (n : Nat) (w : World) (h : n ≤ 100000) : (Instr.makeSlice 34 (.int .i64 (n : Int)) (.int .i64 (n : Int))).run Try.prog w = .ok (.slice (some ⟨w.heap.size, 0, none⟩) n n) (w.alloc (.cells (madeCells #[.int .i64 0] n) 3)) := by
  obtain ⟨i, hi, hz⟩ := Option.map_eq_some_iff.1 infoU
  simp only [Prod.mk.injEq] at hz
  obtain ⟨h1, h2, h3⟩ := hz
  have := run_make (P := Try.prog) w 34 3 i _ Try.underlying34 hi h1 .i64 .i64 (n : Int) (n : Int) (by omega) (Int.le_refl _) (by rw [h3]; omega) (by omega)
  rw [h2] at this
  simpa [Value.cells] using this
theorem rowL_made (W : World) (n : Nat) : RowL (W.alloc (.cells (madeCells #[.int .i64 0] n) 3)) W.heap.size (List.replicate n 0) := by
  have hh := heap_alloc_last W (.cells (madeCells #[.int .i64 0] n) 3)
  refine ⟨fun j hj => ?_, fun j hj => frozen_of_row _ _ j _ 3 hh⟩
  have hj' : j < n := by simpa using hj
  rw [cell_of_row _ _ j _ 3 (0, 0) hh, ← Array.getElem?_toList, toList_madeCells_one]
  simp [hj']

set_option maxHeartbeats 4000000 in
set_option maxRecDepth 100000 in
theorem places_any (n : Nat) (w : World) (h : n ≤ 1000) :
    Calls Try.prog 26 #[.int .i64 (n : Int)] w fun e w' => e = .returned (.slice (some ⟨w.heap.size, 0, none⟩) n n) ∧ RowL w' w.heap.size (placesI n) ∧ RowKit.Below w.heap.size w w' := by
  have hmk := makeInts n w (by omega)
  have hln : (placesI n).length = n := by simp [placesI]
  have hR0 := rowL_made w n
  rw [show List.replicate n (0 : Int) = rowJ (placesI n) 0 by rw [rowJ_zero, hln]] at hR0
  have hget : Hid (∀ k (hk : k < (placesI n).length), (placesI n)[k] = (k : Int)) := fun k hk => by simp [placesI]
  have HR := hideE hR0
  have Hln := hideE hln
  have hB0 : RowKit.Below w.heap.size w (w.alloc (.cells (madeCells #[.int .i64 0] n) 3)) := balloc _ _
  obtain ⟨W0, hW0⟩ : ∃ W0, W0 = w.alloc (.cells (madeCells #[.int .i64 0] n) 3) := ⟨_, rfl⟩
  rw [← hW0] at hmk HR hB0
  have hz0 : w.heap.size < W0.heap.size := by rw [hW0]; simp
  clear hR0 hln hW0
  go_enter Try.func26, Try.ntmps26
  go_wp2_with fail
  clear hmk
  go_loopw [9] (fun i wr => ∃ k : Nat, k ≤ n ∧ i = .int .i64 k ∧ Hid (RowL wr w.heap.size (rowJ (placesI n) k)) ∧ RowKit.Below w.heap.size w wr) (fun i wr => n - (intOf i).toNat)
  case atStart => exact ⟨0, Nat.zero_le _, rfl, HR.out, hB0⟩
  case round =>
    clear HR hB0
    obtain ⟨k, hk, rfl, hR, hbr⟩ := hrel
    by_cases hlt : k < n
    · have hkl : k < (placesI n).length := by rw [Hln.out]; exact hlt
      have hjl := rowJ_len (placesI n) k (by omega)
      have ck := hR.out.at_ k (by rw [hjl]; exact hkl)
      have fk := hR.out.free k (by rw [hjl]; exact hkl)
      generalize (rowJ (placesI n) k)[k]'(by rw [hjl]; exact hkl) = u at *
      have hset := hideE (hR.out.set (k := k) (by rw [hjl]; exact hkl) (k : Int))
      have e1 := rowJ_next hkl
      rw [hget.out k hkl] at e1
      have hset2 := hideE (show RowL (wr.setCell ⟨w.heap.size, k, none⟩ (.int .i64 (k : Int))) w.heap.size (rowJ (placesI n) (k + 1)) by rw [← e1]; exact hset.out)
      have t1 : decide ((k : Int) < (n : Int)) = true := by simp; omega
      have i0 : (0 : Int) ≤ (k : Int) := by omega
      have i1 : (k : Int) < (n : Int) := by omega
      clear hset e1 hjl hR hkl
      go_wp2_with fail
      go_roundw
      case rel => exact ⟨k + 1, by omega, by go_num, hset2.out, hbr.setCell (p := ⟨w.heap.size, k, none⟩) (Nat.le_refl _) _⟩
      case measure => simp [intOf]; omega
    · obtain rfl : k = n := by omega
      have t1 : decide ((k : Int) < (k : Int)) = false := by simp
      have hfin := hideE (show RowL wr w.heap.size (placesI k) by have := hR.out; rw [rowJ_full Hln.out] at this; exact this)
      clear hR
      go_wp2_with fail
      refine bodyPost_ret (v := .slice (some ⟨w.heap.size, 0, none⟩) k k) (by simp [results, Try.results26, go_sem]) rfl ⟨rfl, hfin.out, hbr⟩
def toI (l : List Nat) : List Int := l.map fun n : Nat => (n : Int)
set_option maxHeartbeats 4000000 in
set_option maxRecDepth 100000 in
theorem countEach_any (ad : Option Addr) (ca : Nat) (S : List Tr) (ps : List Pt) (pd : Option Addr) (pc : Nat) (w : World) (h : SlT w ad S) (hfit : ∀ x ∈ S, fitTr x) (hn : S.length ≤ 200) (hps : SlPt w pd ps) (hf : ∀ p ∈ ps, fitPt p) (h6 : ps.length ≤ 6) (hs : sortedN S = 0) (hv : ∀ p ∈ ps, varsN p = 0) :
    Calls Try.prog 11 #[.slice ad S.length ca, .slice pd ps.length pc] w fun e w' => e = .returned (.tuple #[.slice (some ⟨w.heap.size, 0, none⟩) ps.length ps.length, .nilIface]) ∧ RowL w' w.heap.size (toI (countsL S ps)) ∧ RowKit.Below w.heap.size w w' := by
  have hmk := makeInts ps.length w (by omega)
  have hln : (toI (countsL S ps)).length = ps.length := by simp [toI, countsL]
  have hR0 := rowL_made w ps.length
  rw [show List.replicate ps.length (0 : Int) = rowJ (toI (countsL S ps)) 0 by rw [rowJ_zero, hln]] at hR0
  have hget : Hid (∀ k (hk : k < ps.length), (toI (countsL S ps))[k]'(by rw [hln]; exact hk) = ((matchL S ps[k]).length : Int)) := fun k hk => by simp [toI, countsL]; rfl
  have hN : Hid (∀ p ∈ ps, matchN S p = 0) := fun p hp => by unfold matchN; rw [if_pos hs]; exact hv p hp
  have hC : Hid (∀ p, matchN S p = 0 → CountAns S p = (matchL S p).length) := fun p h => by unfold CountAns; rw [if_pos h]
  have HR := hideE hR0
  have Hln := hideE hln
  have Hh := hideE h
  have Hps := hideE hps
  have Hf := hideE hf
  have HCt := fun p W hW hp => Count_any ad ca S p W hW hfit hp (by omega)
  have HHC := hideE HCt
  have hB0 : RowKit.Below w.heap.size w (w.alloc (.cells (madeCells #[.int .i64 0] ps.length) 3)) := balloc _ _
  obtain ⟨W0, hW0⟩ : ∃ W0, W0 = w.alloc (.cells (madeCells #[.int .i64 0] ps.length) 3) := ⟨_, rfl⟩
  rw [← hW0] at hmk HR hB0
  clear hR0 hW0 h hps hf hs hv hfit HCt
  obtain ⟨C, hCe⟩ : ∃ C, C = toI (countsL S ps) := ⟨_, rfl⟩
  have HCe := hideE hCe
  obtain ⟨n, hnn⟩ : ∃ n, n = ps.length := ⟨_, rfl⟩
  rw [← hnn] at hmk h6 ⊢
  have Hnn := hideE hnn
  clear hCe hnn
  go_enter Try.func11, Try.ntmps11
  go_wp2_with fail
  clear hmk
  go_loopw [16] (fun i wr => ∃ k : Nat, k ≤ n ∧ i = .int .i64 k ∧ Hid (RowL wr w.heap.size (rowJ C k)) ∧ RowKit.Below w.heap.size w wr) (fun i wr => n - (intOf i).toNat)
  case atStart => exact ⟨0, Nat.zero_le _, rfl, by show RowL _ _ _; rw [HCe.out]; exact HR.out, hB0⟩
  case round =>
    clear HR hB0
    obtain ⟨k, hk, rfl, hR, hbr⟩ := hrel
    by_cases hlt : k < n
    · have hkp : k < ps.length := by rw [← Hnn.out]; exact hlt
      have hCl : C.length = ps.length := by rw [HCe.out]; exact Hln.out
      have hkl : k < C.length := by omega
      have hjl := rowJ_len C k (by omega)
      have ck := hR.out.at_ k (by rw [hjl]; exact hkl)
      have fk := hR.out.free k (by rw [hjl]; exact hkl)
      generalize (rowJ C k)[k]'(by rw [hjl]; exact hkl) = u at *
      have zk := World.block_lt_of_cell? wr _ ck
      dsimp only at zk
      have hgk : C[k] = ((matchL S ps[k]).length : Int) := by
        have := hget.out k hkp
        simp only [HCe.out]
        exact this
      have hnext := hideE (fun (W' : World) (hb : RowKit.Below wr.heap.size wr W') => (by
        have q := (hR.out.below hb).set (k := k) (by rw [hjl]; exact hkl) C[k]
        rw [rowJ_next hkl, hgk] at q
        exact q : RowL (W'.setCell ⟨w.heap.size, k, none⟩ (.int .i64 ((matchL S ps[k]).length : Int))) w.heap.size (rowJ C (k + 1))))
      obtain ⟨b, o, rfl, hr0⟩ := (Hps.out.below hbr).at k hkp
      have hr := hr0.at k hkp
      have hpk := Hf.out _ (List.getElem_mem hkp)
      have hNk := hN.out _ (List.getElem_mem hkp)
      have hCk := hC.out _ hNk
      have HP := fun W hW => HHC.out ps[k] W hW hpk
      rw [hNk, hCk] at HP
      generalize ps[k] = p at *
      have t1 : decide ((k : Int) < (n : Int)) = true := by simp; omega
      have i0 : (0 : Int) ≤ (k : Int) := by omega
      have i1 : (k : Int) < (n : Int) := by omega
      have c0 := hr 0 _ rfl
      have c1 := hr 1 _ rfl
      have c2 := hr 2 _ rfl
      have c3 := hr 3 _ rfl
      have c4 := hr 4 _ rfl
      have c5 := hr 5 _ rfl
      have c6 := hr 6 _ rfl
      have c7 := hr 7 _ rfl
      have c8 := hr 8 _ rfl
      have c9 := hr 9 _ rfl
      have c10 := hr 10 _ rfl
      have c11 := hr 11 _ rfl
      rw [Nat.add_zero] at c0
      clear hr hr0 hjl hR hkl hgk hCl hkp hpk hNk hCk
      generalize (matchL S p).length = mc at *
      unfold valPt at HP
      go_wp2_with fail
      refine (HP _ (Hh.out.below (bstep hbr (balloc _ _)))).mono ?_
      rintro e w4 ⟨rfl, hb4⟩
      have hb4' : RowKit.Below wr.heap.size wr w4 := bstep (balloc wr (.cells (encPt p).toArray 32)) hb4
      have ck4 := cell_k ck hb4'
      have fk4 := (hb4'.frozen (p := ⟨w.heap.size, k, none⟩) zk).trans fk
      have HB4 := hideE (bstep hbr hb4')
      have HN4 := hideE (hnext.out w4 hb4')
      clear ck fk c0 c1 c2 c3 c4 c5 c6 c7 c8 c9 c10 c11 HP hnext hb4 hb4'
      dsimp only
      go_wp2_with fail
      go_roundw
      case rel => exact ⟨k + 1, by omega, by go_num, HN4.out, HB4.out.setCell (p := ⟨w.heap.size, k, none⟩) (Nat.le_refl _) _⟩
      case measure => simp [intOf]; omega
    · obtain rfl : k = n := by omega
      have t1 : decide ((k : Int) < (k : Int)) = false := by simp
      have hkC : k = C.length := by rw [HCe.out, Hln.out]; exact Hnn.out
      have hfin := hideE (show RowL wr w.heap.size (toI (countsL S ps)) by have := hR.out; rw [rowJ_full hkC.symm, HCe.out] at this; exact this)
      clear hR hkC
      go_wp2_with fail
      refine bodyPost_ret (v := .tuple #[.slice (some ⟨w.heap.size, 0, none⟩) k k, .nilIface]) (by simp [results, Try.results11, go_sem]) rfl ⟨rfl, hfin.out, hbr⟩
end Go.Proofs.Ytcdbcoaiadipjaa

/- plan.take: the loop that picks the next part. -/
namespace Go.Proofs.Ytcdbcoaiadipjaa
open Go Go.RowKit Go.Proofs Go.Maps
set_option synthInstance.maxSize 1000
attribute [local go_sem] eql_errV neq_errV guard_errV

theorem SlPt.kept {w w' : World} {ad : Option Addr} {l : List Pt} {row : Option Nat} (h : SlPt w ad l) (hg : w.grownBy w' row) (hne : ∀ b o, ad = some ⟨b, o, none⟩ → some b ≠ row) : SlPt w' ad l := fun hl => by
  obtain ⟨b, o, e, r⟩ := h hl
  exact ⟨b, o, e, fun j v hv => hg.cell (r j v hv) (hne b o e)⟩
theorem SlI.keptB {w w' : World} {ad : Option Addr} {l : List Int} {row : Option Nat} (h : SlI w ad l) (hg : w.grownBy w' row) (hne : ∀ b o, ad = some ⟨b, o, none⟩ → some b ≠ row) : SlI w' ad l := fun hl => by
  obtain ⟨b, o, e, r⟩ := h hl
  exact ⟨b, o, e, fun j hj => hg.cell (r j hj) (hne b o e)⟩
theorem RowL.kept {w w' : World} {lb : Nat} {l : List Int} {row : Option Nat} (h : RowL w lb l) (hg : w.grownBy w' row) (hne : some lb ≠ row) : RowL w' lb l :=
  ⟨fun j hj => hg.cell (h.at_ j hj) hne, fun j hj => by
    rw [World.frozen?_of_block (hg.block lb (World.block_lt_of_cell? w _ (h.at_ j hj)) hne)]
    exact h.free j hj⟩
/-- the boxes and the blocks of plan.take: from B on its own, below B the caller's -/
structure TakeSt (w : World) (B : Nat) (K : List (List UInt8)) (nm : Nat) (parts : List Pt) (pd : Option Addr) (pc : Nat) (counts : List Nat) (cd : Option Addr) (cc : Nat) : Prop where
  env : TakeEnv w (B + 1 + 1 + 1) B (B + 1) (B + 1 + 1) nm K parts pd pc counts cd cc
  pd_ : ∀ b o, pd = some ⟨b, o, none⟩ → b < B
  cd_ : ∀ b o, cd = some ⟨b, o, none⟩ → b < B
theorem TakeSt.below {w w' : World} {B : Nat} {K : List (List UInt8)} {nm : Nat} {parts : List Pt} {pd : Option Addr} {pc : Nat} {counts : List Nat} {cd : Option Addr} {cc : Nat} (h : TakeSt w B K nm parts pd pc counts cd cc) (hb : RowKit.Below w.heap.size w w') : TakeSt w' B K nm parts pd pc counts cd cc :=
  ⟨h.env.below hb, h.pd_, h.cd_⟩
/-- a write into a row that lies behind the boxes -/
theorem TakeSt.kept {w w' : World} {B : Nat} {K : List (List UInt8)} {nm : Nat} {parts : List Pt} {pd : Option Addr} {pc : Nat} {counts : List Nat} {cd : Option Addr} {cc : Nat} {row : Option Nat} (h : TakeSt w B K nm parts pd pc counts cd cc) (hg : w.grownBy w' row) (hr : ∀ j, row = some j → B + 4 ≤ j) : TakeSt w' B K nm parts pd pc counts cd cc := by
  have ne : ∀ k, k < B + 4 → some k ≠ row := fun k hk e => by have := hr k e.symm; omega
  exact ⟨⟨hg.cell h.env.k (ne _ (by show B + 1 + 1 + 1 < _; omega)), hg.cell h.env.p (ne _ (by show B < _; omega)), hg.cell h.env.c (ne _ (by show B + 1 < _; omega)), h.env.known.kept hg (ne _ (by omega)), h.env.pts.kept hg fun b o e => ne b (by have := h.pd_ b o e; omega), h.env.cnt.keptB hg fun b o e => ne b (by have := h.cd_ b o e; omega)⟩, h.pd_, h.cd_⟩
/-- more is known -/
theorem TakeSt.learn {w w' : World} {B : Nat} {K K' : List (List UInt8)} {nm nm' : Nat} {parts : List Pt} {pd : Option Addr} {pc : Nat} {counts : List Nat} {cd : Option Addr} {cc : Nat} (h : TakeSt w B K nm parts pd pc counts cd cc) (hg : ButM (B + 1 + 1) w w') (hk : KnownAt w' (B + 1 + 1) nm' K') : TakeSt w' B K' nm' parts pd pc counts cd cc := by
  have ne : ∀ k, k ≠ B + 1 + 1 → some k ≠ some (B + 1 + 1) := fun k hk e => hk (Option.some.inj e)
  exact ⟨⟨World.grownBy.cell hg h.env.k (ne _ (by show B + 1 + 1 + 1 ≠ _; omega)), World.grownBy.cell hg h.env.p (ne _ (by show B ≠ _; omega)), World.grownBy.cell hg h.env.c (ne _ (by show B + 1 ≠ _; omega)), hk, h.env.pts.kept hg fun b o e => ne b (by have := h.pd_ b o e; omega), h.env.cnt.keptB hg fun b o e => ne b (by have := h.cd_ b o e; omega)⟩, h.pd_, h.cd_⟩
theorem enters34 : ∀ args w, (callFunc 34 args).run Try.prog w = .ok (.enter 34 args) w := enters_of Try.func34 (by kernel_rfl) rfl
set_option maxRecDepth 100000 in
theorem take2_any (nb : Nat) (x m : Int) (w : World) (h : w.cell? ⟨nb, 0, none⟩ = some (.int .i64 m)) : Calls Try.prog 34 #[.int .i64 x, .pointer (some ⟨nb, 0, none⟩)] w fun e w' => e = .returned (.bool (decide (x = m))) ∧ RowKit.Below w.heap.size w w' := by
  go_enter Try.func34, Try.ntmps34
  go_wp2_with fail
  go_ret
  exact ⟨rfl, RowKit.Below.refl _ _⟩
theorem take2_pred {nb lb : Nat} {m : Int} {w : World} (h : w.cell? ⟨nb, 0, none⟩ = some (.int .i64 m)) (hne : nb ≠ lb) : PredM 34 #[.pointer (some ⟨nb, 0, none⟩)] (fun x => decide (x = m)) lb w := fun W x hW =>
  take2_any nb x m W (World.grownBy.cell hW h (fun e => hne (Option.some.inj e)))

/-- as far as the parts are taken -/
structure DoneSt (parts : List Pt) (counts : List Nat) (known : List (List UInt8)) (done left : List Int) : Prop where
  all : takeL parts counts = done ++ takeF parts counts left.length known left
  nodup : left.Nodup
  within : ∀ x ∈ left, 0 ≤ x ∧ x < parts.length
  len : done.length + left.length = parts.length
theorem DoneSt.start (parts : List Pt) (counts : List Nat) : DoneSt parts counts [] [] (placesI parts.length) :=
  ⟨by unfold takeL; rw [show (placesI parts.length).length = parts.length by simp [placesI]]; rfl, placesI_nodup _, fun x hx => placesI_mem.1 hx, by simp [placesI]⟩
theorem DoneSt.next {parts : List Pt} {counts : List Nat} {known : List (List UInt8)} {done left : List Int} (h : DoneSt parts counts known done left) (h0 : left ≠ []) :
    DoneSt parts counts (learnP known (parts.getD (nextP parts counts known left).toNat patZero)) (done ++ [nextP parts counts known left]) (leftP left (nextP parts counts known left)) := by
  have hm := nextP_mem (parts := parts) (counts := counts) (known := known) h0
  have hlt := leftP_less hm
  have hl : (leftP left (nextP parts counts known left)).length + 1 = left.length := by
    have he : leftP left (nextP parts counts known left) = left.erase (nextP parts counts known left) := by
      unfold leftP
      rw [h.nodup.erase_eq_filter]
      refine List.filter_congr fun x _ => ?_
      by_cases e : x = nextP parts counts known left
      · simp [e]
      · simp [e]
    rw [he, List.length_erase_of_mem hm]
    omega
  refine ⟨?_, h.nodup.sublist List.filter_sublist, fun x hx => h.within x (List.mem_filter.1 hx).1, by have := h.len; simp; omega⟩
  obtain ⟨n, hn⟩ : ∃ n, left.length = n + 1 := ⟨left.length - 1, by omega⟩
  rw [h.all, hn, List.append_assoc]
  conv => lhs; rw [takeF]
  rw [if_neg h0, takeF_more parts counts n (leftP left (nextP parts counts known left)).length _ _ (by omega) (Nat.le_refl _)]
  rfl
theorem DoneSt.done {parts : List Pt} {counts : List Nat} {known : List (List UInt8)} {done : List Int} (h : DoneSt parts counts known done []) : done = takeL parts counts := by
  rw [h.all]
  simp [takeF]
def cellsI2 (m : List Int) : List Value := m.map fun k : Int => Value.int .i64 k
theorem ownI_sl {W : World} {base : Nat} {e : TypeId} {v : Value} {m : List Int} (h : W.ownsRow base e 1 v m.length (cellsI2 m)) : ∃ ad cap, v = .slice ad m.length cap ∧ SlI W ad m := by
  have h' := h
  rcases h.2 with ⟨rfl, h0⟩ | ⟨g, cap, cur, rfl, _⟩
  · exact ⟨none, 0, by rw [h0], fun hne => absurd (List.eq_nil_of_length_eq_zero h0) hne⟩
  · refine ⟨some ⟨g, 0, none⟩, cap, rfl, fun _ => ⟨g, 0, rfl, fun j hj => ?_⟩⟩
    have := h'.cells (g := g) rfl j (.int .i64 m[j]) (by simp [cellsI2, hj])
    rw [Addr.add_lit] at this
    exact this
theorem own_lo {W : World} {base n : Nat} {e : TypeId} {v : Value} {cs : List Value} (h : W.ownsRow base e 1 v n cs) : ∀ j, v.ownBlock = some j → base ≤ j := fun j hj => (h.lt j hj).1
def TakeAns (parts : List Pt) (counts : List Nat) (w : World) (e : Ending) (w' : World) : Prop := RowKit.Below w.heap.size w w' ∧ ∃ ad c, e = .returned (.slice ad (takeL parts counts).length c) ∧ SlI w' ad (takeL parts counts)
/-! ### the loop -/
def sliceLen : Value → Nat
  | .slice _ n _ => n
  | _ => 0
def S7 (B rb ro n pc nb xi : Nat) (x : Pt) (W : World) : Prop := W.cell? ⟨B + 1 + 1 + 1, 0, none⟩ = some (.map (some (B + 1 + 1))) ∧ W.cell? ⟨B, 0, none⟩ = some (.slice (some ⟨rb, ro, none⟩) n pc) ∧ W.cell? ⟨nb, 0, none⟩ = some (.int .i64 (xi : Int)) ∧ W.cell? ⟨rb, ro + xi * 12, none⟩ = some (.string ⟨x.1.1.toArray⟩) ∧ W.cell? ⟨rb, ro + xi * 12 + 1, none⟩ = some (.int .i64 x.1.2.1) ∧ W.cell? ⟨rb, ro + xi * 12 + 2, none⟩ = some (.string ⟨x.1.2.2.1.toArray⟩) ∧ W.cell? ⟨rb, ro + xi * 12 + 3, none⟩ = some (.string ⟨x.1.2.2.2.toArray⟩) ∧ W.cell? ⟨rb, ro + xi * 12 + 4, none⟩ = some (.string ⟨x.2.1.1.toArray⟩) ∧ W.cell? ⟨rb, ro + xi * 12 + 5, none⟩ = some (.int .i64 x.2.1.2.1) ∧ W.cell? ⟨rb, ro + xi * 12 + 6, none⟩ = some (.string ⟨x.2.1.2.2.1.toArray⟩) ∧ W.cell? ⟨rb, ro + xi * 12 + 7, none⟩ = some (.string ⟨x.2.1.2.2.2.toArray⟩) ∧ W.cell? ⟨rb, ro + xi * 12 + 8, none⟩ = some (.string ⟨x.2.2.1.toArray⟩) ∧ W.cell? ⟨rb, ro + xi * 12 + 9, none⟩ = some (.int .i64 x.2.2.2.1) ∧ W.cell? ⟨rb, ro + xi * 12 + 10, none⟩ = some (.string ⟨x.2.2.2.2.1.toArray⟩) ∧ W.cell? ⟨rb, ro + xi * 12 + 11, none⟩ = some (.string ⟨x.2.2.2.2.2.toArray⟩)
theorem S7.keep {B rb ro n pc nb xi : Nat} {x : Pt} {W W' : World} {row : Option Nat} (h : S7 B rb ro n pc nb xi x W) (hg : W.grownBy W' row) (h1 : some (B + 1 + 1 + 1) ≠ row) (h2 : some B ≠ row) (h3 : some nb ≠ row) (h4 : some rb ≠ row) : S7 B rb ro n pc nb xi x W' := by
  obtain ⟨a1, a2, a3, c0, c1, c2, c3, c4, c5, c6, c7, c8, c9, c10, c11⟩ := h
  exact ⟨hg.cell a1 h1, hg.cell a2 h2, hg.cell a3 h3, hg.cell c0 h4, hg.cell c1 h4, hg.cell c2 h4, hg.cell c3 h4, hg.cell c4 h4, hg.cell c5 h4, hg.cell c6 h4, hg.cell c7 h4, hg.cell c8 h4, hg.cell c9 h4, hg.cell c10 h4, hg.cell c11 h4⟩
set_option maxHeartbeats 16000000 in
set_option maxRecDepth 100000 in
theorem take_any (parts : List Pt) (counts : List Nat) (pd : Option Addr) (pc : Nat) (cd : Option Addr) (cc : Nat) (w : World) (hp : SlPt w pd parts) (hc : SlI w cd (counts.map fun n : Nat => (n : Int))) (hf : ∀ p ∈ parts, fitPt p) (h6 : parts.length ≤ 6) (hl : counts.length = parts.length)
    (hpd : ∀ b o, pd = some ⟨b, o, none⟩ → b < w.heap.size) (hcd : ∀ b o, cd = some ⟨b, o, none⟩ → b < w.heap.size) :
    Calls Try.prog 12 #[.slice pd parts.length pc, .slice cd counts.length cc] w (TakeAns parts counts w) := by
  obtain ⟨i0', hi0, hz⟩ := Option.map_eq_some_iff.1 infoU
  simp only [Prod.mk.injEq] at hz
  obtain ⟨hz0, hz1, hz2⟩ := hz
  obtain ⟨Q, hQ⟩ : ∃ Q, Q = TakeAns parts counts w := ⟨_, rfl⟩
  have HQ : Hid (∀ e w', TakeAns parts counts w e w' → Q e w') := fun e w' h => by rw [hQ]; exact h
  rw [← hQ]
  have Hf := hideE hf
  have Hl := hideE hl
  have hmk : ∀ W : World, (Instr.makeMap 67 none).run Try.prog W = .ok (.map (some W.heap.size)) (W.alloc (.map #[] 0)) := fun W => by kernel_rfl
  have HPl := fun W => places_any parts.length W (by omega)
  have hst0 := hideE (DoneSt.start parts counts)
  have hT : Hid (∀ W, W = (((w.alloc (.cells #[.slice pd parts.length pc] 24)).alloc (.cells #[.slice cd counts.length cc] 34)).alloc (.map #[] 0)).alloc (.cells #[.map (some (w.heap.size + 1 + 1))] 67) → TakeSt W w.heap.size [] 0 parts pd pc counts cd cc) := fun W hW => by
    have hk0 := knownAt_made ((w.alloc (.cells #[.slice pd parts.length pc] 24)).alloc (.cells #[.slice cd counts.length cc] 34))
    rw [World.size_alloc, World.size_alloc] at hk0
    rw [hW]
    refine ⟨⟨by go_simp, by go_simp, by go_simp, hk0.below (balloc _ _), (((hp.below (balloc _ _)).below (balloc _ _)).below (balloc _ _)).below (balloc _ _), (((hc.below (balloc _ _)).below (balloc _ _)).below (balloc _ _)).below (balloc _ _)⟩, hpd, hcd⟩
  obtain ⟨n, hnp⟩ : ∃ n, n = parts.length := ⟨_, rfl⟩
  obtain ⟨nc, hnc⟩ : ∃ n, n = counts.length := ⟨_, rfl⟩
  have Hnp := hideE hnp
  rw [← hnp] at HPl h6 ⊢
  rw [← hnc]
  rw [← hnp, ← hnc] at hT
  clear hp hc hf hl hpd hcd hQ hnp hnc
  obtain ⟨B, hB⟩ : ∃ B, B = w.heap.size := ⟨_, rfl⟩
  go_enter Try.func12, Try.ntmps12
  go_upto_region 3 with fail
  obtain ⟨W0, hW0⟩ : ∃ W0, W0 = (((w.alloc (.cells #[.slice pd n pc] 24)).alloc (.cells #[.slice cd nc cc] 34)).alloc (.map #[] 0)).alloc (.cells #[.map (some (w.heap.size + 1 + 1))] 67) := ⟨_, rfl⟩
  have HT0 := hideE (hT.out W0 hW0)
  have hb0 : RowKit.Below w.heap.size w W0 := by rw [hW0]; exact bstep (bstep (bstep (balloc _ _) (balloc _ _)) (balloc _ _)) (balloc _ _)
  have hsz : Hid (W0.heap.size = w.heap.size + 4) := by show _ = _; rw [hW0]; simp
  rw [← hW0]
  rw [← hB] at HT0 ⊢
  have HB := hideE hB
  clear hW0 hT hmk hB
  have cp : W0.cell? ⟨B, 0, none⟩ = some (.slice pd n pc) := by have := HT0.out.env.p; rw [← Hnp.out] at this; exact this
  go_wp2_with fail
  refine (HPl W0).mono ?_
  rintro e w1 ⟨rfl, hR1, hb1⟩
  have HR1 := hideE hR1
  have HT1 := hideE (HT0.out.below hb1)
  have hB1 := bstep hb0 hb1
  obtain ⟨lb, hlb⟩ : ∃ lb, lb = W0.heap.size := ⟨_, rfl⟩
  rw [← hlb] at HR1 ⊢
  have Hlb : Hid (lb = B + 4) := by show _ = _; rw [hlb, hsz.out, HB.out]
  have hl1 : Hid (lb < w1.heap.size ∨ n = 0) := by
    by_cases h0 : n = 0
    · exact Or.inr h0
    · exact Or.inl (World.block_lt_of_cell? w1 ⟨lb, 0, none⟩ (HR1.out.at_ 0 (by simp [placesI]; omega)))
  have hs1 : Hid (B + 4 ≤ w1.heap.size) := by have := hb1.size; have := hsz.out; have := HB.out; show _ ≤ _; omega
  clear hR1 HT0 hb0 hb1 cp hlb HPl hsz
  dsimp only
  have hpn : Hid ((placesI parts.length).length = n) := by show _ = _; rw [Hnp.out]; simp [placesI]
  go_wp2_with fail
  go_loopw [5, 7] (fun v5 v7 wr => ∃ (known : List (List UInt8)) (done left : List Int) (nm : Nat), v7 = .slice (some ⟨lb, 0, none⟩) left.length n ∧ Hid (DoneSt parts counts known done left) ∧ Hid (RowL wr lb left) ∧ Hid (TakeSt wr B known nm parts pd pc counts cd cc) ∧ Hid (nm ≤ 3 * done.length) ∧ Hid (wr.ownsRow w1.heap.size 3 1 v5 done.length (cellsI2 done)) ∧ Hid (RowKit.Below w.heap.size w wr) ∧ Hid (w1.heap.size ≤ wr.heap.size)) (fun _ v7 wr => sliceLen v7)
  case atStart => exact ⟨[], [], placesI parts.length, 0, by rw [hpn.out], hst0.out, by show RowL _ _ _; rw [← Hnp.out]; exact HR1.out, HT1.out, by show 0 ≤ _; omega, World.ownsRow_nil _ _ _ _, hB1, Nat.le_refl _⟩
  case round =>
    clear hst0 HR1 HT1 hpn hB1
    obtain ⟨known, done, left, nm, rfl, hD, hRow, hTk, hnm, hOw, hbr, hsr⟩ := hrel
    obtain ⟨ln, hln⟩ : ∃ ln, ln = left.length := ⟨_, rfl⟩
    have Hln := hideE hln
    by_cases h0 : left = []
    · have hl0 : ln = 0 := by rw [hln, h0]; rfl
      have hfin : Hid (done = takeL parts counts) := by
        have := hD.out
        rw [h0] at this
        exact this.done
      obtain ⟨az, cz, rfl, hsi⟩ := ownI_sl hOw.out
      have Hsi := hideE hsi
      rw [← hln, hl0]
      obtain ⟨nd, hnd⟩ : ∃ m, m = done.length := ⟨_, rfl⟩
      have Hnd := hideE hnd
      rw [← hnd]
      clear hsi hOw hD hRow hTk hnd hln hl0 h0
      go_wp2_with fail
      exact HQ.out (.returned (.slice az nd cz)) _ ⟨hbr.out, az, cz, by rw [← hfin.out, Hnd.out], by rw [← hfin.out]; exact Hsi.out⟩
    · obtain ⟨m0, l, hle⟩ : ∃ m0 l, left = m0 :: l := List.exists_cons_of_ne_nil h0
      have hn1 : 1 ≤ ln := by rw [hln, hle]; simp
      have hln6 : ln ≤ 6 := by have := hD.out.len; have := Hnp.out; rw [hln]; omega
      have hlnn : Hid (ln ≤ n) := by have := hD.out.len; have := Hnp.out; show _ ≤ _; rw [hln]; omega
      have hnext := hideE (hD.out.next h0)
      have hdn0 : done.length ≤ 6 := by have := hD.out.len; have := Hnp.out; omega
      have hmem : nextP parts counts known left ∈ left := nextP_mem h0
      have hwin := hD.out.within _ hmem
      have hlt := leftP_less hmem
      have HM := MinFunc_any 28 #[.pointer (some ⟨B + 1 + 1 + 1, 0, none⟩), .pointer (some ⟨B, 0, none⟩), .pointer (some ⟨B + 1, 0, none⟩)] (fun x => 0 ≤ x ∧ x < parts.length) (cmpP2 parts counts known) wr lb n m0 l enters28 (take1_any hTk.out.env Hf.out Hl.out) (fun x hx => hD.out.within x (by rw [hle]; exact hx)) (by rw [← hle]; exact hRow.out) (by rw [← hle, ← hln]; omega)
      have hmin : minF (cmpP2 parts counts known) m0 l = nextP parts counts known left := by rw [hle]; rfl
      rw [hmin, ← hle, ← hln] at HM
      rw [← hln] at hlt ⊢
      obtain ⟨xi, hxi⟩ : ∃ xi : Nat, nextP parts counts known left = (xi : Int) := ⟨(nextP parts counts known left).toNat, by omega⟩
      have hxn : xi < n := by have := Hnp.out; omega
      have hxp : xi < parts.length := by have := Hnp.out; omega
      rw [hxi] at HM hnext hlt
      have hgd : parts.getD (Int.toNat (xi : Int)) patZero = parts[xi] := by rw [Int.toNat_natCast, List.getD_eq_getElem?_getD, List.getElem?_eq_getElem hxp]; rfl
      rw [hgd] at hnext
      have hfx := hideE (Hf.out _ (List.getElem_mem hxp))
      obtain ⟨rb, ro, hpd, hrow⟩ := hTk.out.env.pts.at xi hxp
      have hrbB := hTk.out.pd_ rb ro hpd
      have Hrow := hideE (hrow.at xi hxp)
      have hkeepL : Hid (keepF (fun x => decide (x = (xi : Int))) left = leftP left (xi : Int)) := rfl
      have hlw : Hid (lb < wr.heap.size) := World.block_lt_of_cell? wr ⟨lb, 0, none⟩ (hRow.out.at_ 0 (by rw [← hln]; omega))
      have t1 : decide ((ln : Int) > 0) = true := by simp; omega
      have t2 : decide (0 < ln) = true := by simp; omega
      have t3 : decide (0 < (ln : Int)) = true := by simp; omega
      have i0 : (0 : Int) ≤ (xi : Int) := by omega
      have i1 : (xi : Int) < (n : Int) := by omega
      have Hlt := hideE hlt
      clear h0 hle hmin hmem hwin hD hln hrow hgd hxi hlt
      generalize parts[xi]'(by have := Hnp.out; omega) = x at *
      subst hpd
      have hdn : done.length ≤ 6 := hdn0
      have HLe0 := hideE (fun W (hK : KnownAt W (B + 1 + 1) nm known) => learn_any (B + 1 + 1) nm known x W hK hfx.out (by have := hnm.out; omega))
      go_wp2_with (first
        | (go_at_call 27; refine HM.mono ?_; rintro e w2 ⟨rfl, hb2⟩; have ho2 := hideE (ownsRow_belowV hOw.out hb2); have hs2 := hb2.size; dsimp only)
        | (at_builtin; refine wpList_append_own _ rfl _ _ 34 rfl w1.heap.size 3 i0' (.int .i64 0) 1 8 Try.underlying34 hi0 hz0 hz1 hz2 rfl (by decide) _ _ _ rfl ((ho2.out.alloc _).alloc _) ⟨w2.heap.size + 1, 0, none⟩ 1 1 [.int .i64 (xi : Int)] rfl rfl ?c1 (by simp [Value.oneCell']) (by unfold maxLen; omega) (by omega) (by have := hsr.out; simp; omega) ?_))
      case c1 =>
        intro j u hu
        have hj : j < 1 := by have := (List.getElem?_eq_some_iff.1 hu).1; simpa using this
        obtain rfl : j = 0 := by omega
        rw [Addr.add_lit]
        simp at hu; subst hu; go_simp
      intro v' w5 h2 h3 _
      have ho2' := ho2.out
      have lo2 : ∀ j, u5.ownBlock = some j → w1.heap.size ≤ j ∧ j < w2.heap.size := fun j hj => ho2'.lt j hj
      have hs1' := hs1.out
      have hn2 : n ≠ 0 := by have := hlnn.out; omega
      have hl1' : lb < w1.heap.size := hl1.out.resolve_right hn2
      obtain ⟨hlbA, hlbZ⟩ : B + 4 ≤ lb ∧ lb ≤ B + 4 := by have := Hlb.out; exact ⟨by omega, by omega⟩
      obtain ⟨nb, hnb⟩ : ∃ nb, nb = w2.heap.size := ⟨_, rfl⟩
      have hs0 := hsr.out
      have ha2 : RowKit.Below w2.heap.size w2 ((w2.alloc (.cells #[.int .i64 (xi : Int)] 3)).alloc (.cells #[.int .i64 (xi : Int)] 3)) := bstep (balloc _ _) (balloc _ _)
      have hT5 := hideE (((hTk.out.below hb2).below ha2).kept h3 (fun j hj => by have := (lo2 j hj).1; omega))
      have hR5 := hideE (((hRow.out.below hb2).below ha2).kept h3 (fun e => by have := (lo2 lb e.symm).1; omega))
      have hN5 : w5.cell? ⟨nb, 0, none⟩ = some (.int .i64 (xi : Int)) := by
        rw [hnb]
        exact h3.cell (by go_simp) (fun e => by have := (lo2 w2.heap.size e.symm).2; omega)
      have hC5 := hideE (fun (q : Nat) (v : Value) (hq : (encPt x)[q]? = some v) => h3.cell (cell_k (cell_k (Hrow.out q v hq) hb2) ha2) (fun e => by have := (lo2 rb e.symm).1; omega))
      have ho5 : Hid (w5.ownsRow w1.heap.size 3 1 v' (done ++ [(xi : Int)]).length (cellsI2 (done ++ [(xi : Int)]))) := by
        show World.ownsRow _ _ _ _ _ _ _
        rw [List.length_append]
        simpa [cellsI2] using h2
      have hs5 : w2.heap.size + 1 < w5.heap.size := by have := h3.size; simp at this; omega
      have hb5 := hideE ((bstep (bstep hbr.out hb2) ha2).grown h3 (by have := HB.out; simp; omega) (fun j hj => by have := (lo2 j hj).1; have := HB.out; omega))
      clear h2 h3 ho2' ha2 hb2 HM hTk hRow hOw hbr hsr Hrow ho2 lo2
      have hnbB : B + 4 ≤ nb ∧ lb < nb ∧ nb < w5.heap.size := ⟨by omega, by omega, by omega⟩
      have hnb1 : w1.heap.size ≤ nb := by omega
      have hs5' : w1.heap.size ≤ w5.heap.size := by omega
      rw [← hnb]
      clear hnb hs0 hs2 hs5
      have ck := hT5.out.env.k
      have cp := hT5.out.env.p
      rw [← Hnp.out] at cp
      have c0 := hC5.out 0 _ rfl
      have c1 := hC5.out 1 _ rfl
      have c2 := hC5.out 2 _ rfl
      have c3 := hC5.out 3 _ rfl
      have c4 := hC5.out 4 _ rfl
      have c5 := hC5.out 5 _ rfl
      have c6 := hC5.out 6 _ rfl
      have c7 := hC5.out 7 _ rfl
      have c8 := hC5.out 8 _ rfl
      have c9 := hC5.out 9 _ rfl
      have c10 := hC5.out 10 _ rfl
      have c11 := hC5.out 11 _ rfl
      rw [Nat.add_zero] at c0
      have HS7 := hideE (show S7 B rb ro n pc nb xi x w5.drew from ⟨ck, cp, hN5, c0, c1, c2, c3, c4, c5, c6, c7, c8, c9, c10, c11⟩)
      have HLe := HLe0.out w5.drew (hT5.out.env.known.below (RowKit.Below.refl _ _).drew)
      have HDe := hideE (fun (W : World) (hg : ButM (B + 1 + 1) w5.drew W) => (by
        have q1 : RowL W lb left := (hR5.out.below (RowKit.Below.refl _ _).drew).kept hg (fun e => by have := Option.some.inj e; omega)
        have q2 : W.cell? ⟨nb, 0, none⟩ = some (.int .i64 (xi : Int)) := World.grownBy.cell hg (a := ⟨nb, 0, none⟩) hN5 (fun e => by have : nb = B + 1 + 1 := Option.some.inj e; omega)
        have q := DeleteFunc_any 34 #[.pointer (some ⟨nb, 0, none⟩)] (fun x => decide (x = (xi : Int))) W lb n left enters34 (take2_pred q2 (by omega)) q1 (by rw [← Hln.out]; omega) (by rw [← Hln.out]; exact hlnn.out)
        rw [← Hln.out, hkeepL.out] at q
        exact q : Calls Try.prog 33 #[.slice (some ⟨lb, 0, none⟩) ln n, .func (.func 34) #[] #[.pointer (some ⟨nb, 0, none⟩)]] W fun e w' => e = .returned (.slice (some ⟨lb, 0, none⟩) (leftP left (xi : Int)).length n) ∧ RowL w' lb (leftP left (xi : Int)) ∧ ButM lb W w'))
      clear HLe0 hC5
      unfold valPt at HLe
      go_wp2_with fail
      go_region_held3 (fun W => W.cell? ⟨B + 1 + 1 + 1, 0, none⟩ = some (.map (some (B + 1 + 1))) ∧ W.cell? ⟨B, 0, none⟩ = some (.slice (some ⟨rb, ro, none⟩) n pc) ∧ W.cell? ⟨nb, 0, none⟩ = some (.int .i64 (xi : Int)) ∧ W.cell? ⟨rb, ro + xi * 12, none⟩ = some (.string ⟨x.1.1.toArray⟩) ∧ W.cell? ⟨rb, ro + xi * 12 + 1, none⟩ = some (.int .i64 x.1.2.1) ∧ W.cell? ⟨rb, ro + xi * 12 + 2, none⟩ = some (.string ⟨x.1.2.2.1.toArray⟩) ∧ W.cell? ⟨rb, ro + xi * 12 + 3, none⟩ = some (.string ⟨x.1.2.2.2.toArray⟩) ∧ W.cell? ⟨rb, ro + xi * 12 + 4, none⟩ = some (.string ⟨x.2.1.1.toArray⟩) ∧ W.cell? ⟨rb, ro + xi * 12 + 5, none⟩ = some (.int .i64 x.2.1.2.1) ∧ W.cell? ⟨rb, ro + xi * 12 + 6, none⟩ = some (.string ⟨x.2.1.2.2.1.toArray⟩) ∧ W.cell? ⟨rb, ro + xi * 12 + 7, none⟩ = some (.string ⟨x.2.1.2.2.2.toArray⟩) ∧ W.cell? ⟨rb, ro + xi * 12 + 8, none⟩ = some (.string ⟨x.2.2.1.toArray⟩) ∧ W.cell? ⟨rb, ro + xi * 12 + 9, none⟩ = some (.int .i64 x.2.2.2.1) ∧ W.cell? ⟨rb, ro + xi * 12 + 10, none⟩ = some (.string ⟨x.2.2.2.2.1.toArray⟩) ∧ W.cell? ⟨rb, ro + xi * 12 + 11, none⟩ = some (.string ⟨x.2.2.2.2.2.toArray⟩)) (first | exact HS7.out | exact HS7.out.keep hg6 (fun e => by have := Option.some.inj e; omega) (fun e => by have := Option.some.inj e; omega) (fun e => by have := Option.some.inj e; omega) (fun e => by have := Option.some.inj e; omega) | assumption | go_keep) (first
        | (go_at_call 32; refine HLe.mono ?_; rintro e w6 ⟨rfl, hk6, hg6⟩; dsimp only))
      have hT6 := hideE ((hT5.out.below (RowKit.Below.refl _ _).drew).learn hg6 hk6)
      have HD7 := HDe.out w6 hg6
      have hs6 : w5.heap.size ≤ w6.heap.size := hg6.size
      have hb6 := hideE ((hb5.out.trans ((RowKit.Below.refl w5.heap.size w5).drew.mono (hb5.out.size))).grown hg6 (hb5.out.size) (fun j hj => by have e : B + 1 + 1 = j := (by simpa using hj); have := HB.out; omega))
      have ho6 := hideE ((ownsRow_belowV ho5.out (RowKit.Below.refl _ _).drew).kept hg6 (Or.inr (fun e => by have := (ho5.out.lt _ e).1; omega)))
      clear HDe HLe hT5 hR5 hb5 ho5 HS7 hk6 hg6 ck cp c0 c1 c2 c3 c4 c5 c6 c7 c8 c9 c10 c11 hN5
      obtain ⟨ll, hll⟩ : ∃ k, k = (leftP left (xi : Int)).length := ⟨_, rfl⟩
      have Hll := hideE hll
      rw [← hll] at HD7
      clear hll
      go_wp2_with (go_at_call 33; refine HD7.mono ?_; rintro e w7 ⟨rfl, hR7, hg7⟩; dsimp only)
      go_roundw
      case rel =>
        refine ⟨learnP known x, done ++ [(xi : Int)], leftP left (xi : Int), nm + 3, by rw [Hll.out], hnext.out, hR7, hT6.out.kept hg7 (fun j hj => by have e : lb = j := (by simpa using hj); omega), by have := hnm.out; show _ ≤ _; simp; omega, ?_, ?_, by have := hg7.size; show _ ≤ _; omega⟩
        · exact ho6.out.kept hg7 (Or.inr (fun e => by have := (ho6.out.lt _ e).1; omega))
        · exact hb6.out.grown hg7 (by have := hb6.out.size; exact this) (fun j hj => by have e : lb = j := (by simpa using hj); have := HB.out; omega)
      case measure => show ll < ln; rw [Hll.out]; exact Hlt.out
end Go.Proofs.Ytcdbcoaiadipjaa

/- The document's answer (package strataref1): letter, digit, Letters, right. -/
namespace Go.Proofs.Ytcdbcoaiadipjaa
open Go Go.RowKit Go.Proofs

theorem allL_take (p : Int → Bool) (S : List UInt8) (k : Nat) (h : k < S.length) : allB p (S.take (k + 1)) = (allB p (S.take k) && p (S[k].toNat : Int)) := by
  unfold allB
  rw [List.take_succ_eq_append_getElem h]
  simp only [List.all_append, List.all_cons, List.all_nil, Bool.and_true]

theorem allL_false (p : Int → Bool) (S : List UInt8) (k : Nat) (h : k < S.length) (hp : p (S[k].toNat : Int) = false) : allB p S = false := by
  unfold allB
  rw [List.all_eq_false]
  exact ⟨S[k], List.getElem_mem _, by rw [hp]; simp⟩

/-- one to two letters -/
def lettersB (L : List UInt8) : Bool := !L.isEmpty && (decide (L.length ≤ 2) && allB letB L)

end Go.Proofs.Ytcdbcoaiadipjaa

/- The document's answer (package strataref1): right at a name and at an anonymous one; Term. -/
namespace Go.Proofs.Ytcdbcoaiadipjaa
open Go Go.RowKit Go.Proofs

theorem anonOk_eq (L : List UInt8) (h : ¬ L = []) : anonOk L = allB anonB L := by cases L <;> simp_all [anonOk]
theorem nameOk_eq (L : List UInt8) (h : 0 < L.length) : nameOk L = (letB (L[0].toNat : Int) && allB nameB L) := by
  cases L with
  | nil => simp at h
  | cons => rfl

end Go.Proofs.Ytcdbcoaiadipjaa

/- The document's answer (package strataref1): Term, Compare, Show. -/
namespace Go.Proofs.Ytcdbcoaiadipjaa
open Go Go.RowKit Go.Proofs

theorem ret_i64 {a b : Int} (h : a = b) : Ending.returned (.int .i64 a) = .returned (.int .i64 b) := by rw [h]

theorem letters_lang (L : List UInt8) (h : L.length = 2) : lettersB L = langOk L := by
  cases L with
  | nil => simp at h
  | cons c r => simp [lettersB, langOk, h]

theorem less_cb (a : List UInt8) : ∀ b, Op.bytesLess a b = decide (Lib.compareBytes a b < 0) := by
  induction a with
  | nil => intro b; cases b <;> simp [Op.bytesLess, Lib.compareBytes]
  | cons x xs ih =>
    intro b
    cases b with
    | nil => simp [Op.bytesLess, Lib.compareBytes]
    | cons y ys =>
      by_cases h1 : x < y
      · simp [Op.bytesLess, Lib.compareBytes, h1]
      · by_cases h2 : y < x
        · have hne : (x == y) = false := by
            rw [beq_eq_false_iff_ne]; rintro rfl; exact absurd h2 (by simp)
          simp [Op.bytesLess, Lib.compareBytes, h1, h2, hne]
        · have : x = y := UInt8.le_antisymm (UInt8.not_lt.1 h2) (UInt8.not_lt.1 h1)
          subst this
          simp [Op.bytesLess, Lib.compareBytes, ih]

theorem cbr (a : List UInt8) : ∀ b, -1 ≤ Lib.compareBytes a b ∧ Lib.compareBytes a b ≤ 1 := by
  induction a with
  | nil => intro b; cases b <;> simp [Lib.compareBytes]
  | cons x xs ih =>
    intro b
    cases b with
    | nil => simp [Lib.compareBytes]
    | cons y ys =>
      by_cases h1 : x < y
      · simp [Lib.compareBytes, h1]
      · by_cases h2 : y < x
        · simp [Lib.compareBytes, h1, h2]
        · simp only [Lib.compareBytes, h1, h2, if_false]; exact ih ys

theorem cb_val (a b : List UInt8) : Lib.compareBytes a b = if Op.bytesLess a b = true then -1 else if a = b then 0 else 1 := by
  have h1 := less_cb a b
  have h2 := cb_zero a b
  have h3 := cbr a b
  by_cases h : Lib.compareBytes a b < 0
  · rw [h1]; simp only [h, decide_true, if_true]; omega
  · rw [h1]
    simp only [h, decide_false, Bool.false_eq_true, if_false]
    by_cases e : a = b
    · rw [if_pos e]; exact h2.2 e
    · rw [if_neg e]
      have : Lib.compareBytes a b ≠ 0 := fun q => e (h2.1 q)
      omega

theorem cmpT_same (k : Int) (S L S' L' : List UInt8) : cmpT k S L k S' L' = if S = S' then Lib.compareBytes L L' else Lib.compareBytes S S' := by
  have h1 : Lib.compareInt k k = 0 := (ci_zero k k).2 rfl
  have h2 := cb_zero S S'
  unfold cmpT orI
  rw [h1, if_pos rfl]
  by_cases e : S = S'
  · rw [if_pos (h2.2 e), if_pos e]
  · rw [if_neg (fun q => e (h2.1 q)), if_neg e]

end Go.Proofs.Ytcdbcoaiadipjaa

/- The document's Vars, and what it leans on: Slots, Three, Letters up to ten, Has; lists of texts held against one another. -/
namespace Go.Proofs.Ytcdbcoaiadipjaa
open Go Go.RowKit Go.Proofs Go.Maps
set_option synthInstance.maxSize 1000

/-- one to ten letters -/
def lettersTenB (L : List UInt8) : Bool := !L.isEmpty && (decide (L.length ≤ 10) && allB letB L)
theorem ten_spell {v : List UInt8} (h : ¬ v = []) : lettersTenB v = spellV v := by
  cases v with
  | nil => exact absurd rfl h
  | cons c r => rfl

theorem mem_false {l : List (List UInt8)} {x : List UInt8} (h : ∀ j (hj : j < l.length), ¬ l[j] = x) : decide (x ∈ l) = false := by
  rw [decide_eq_false_iff_not]
  intro hm
  obtain ⟨j, hj, e⟩ := List.getElem_of_mem hm
  exact h j hj e

theorem take_sameV {l m : List (List UInt8)} {k : Nat} (h : l.take k = m.take k) (hl : k < l.length) (hm : k < m.length) (e : l[k] = m[k]) : l.take (k + 1) = m.take (k + 1) := by
  rw [List.take_succ_eq_append_getElem hl, List.take_succ_eq_append_getElem hm, h, e]

set_option maxHeartbeats 2000000 in
set_option maxRecDepth 100000 in
theorem SameTexts_any (ad bd : Option Addr) (ca cb : Nat) (l m : List (List UInt8)) (w : World) (hl : SlV w ad l) (hm : SlV w bd m) (h200 : l.length ≤ 1000000) (h200' : m.length ≤ 1000000) :
    Calls Try.prog 16 #[.slice ad l.length ca, .slice bd m.length cb] w fun e w' => e = .returned (.bool (decide (l = m))) ∧ RowKit.Below w.heap.size w w' := by
  have Hl : Hid (SlV w ad l) := hl
  have Hm : Hid (SlV w bd m) := hm
  clear hl hm
  by_cases hlen : l.length = m.length
  · have hd : ((l.length : Int) != (m.length : Int)) = false := by simp [hlen]
    have Hlen : Hid (l.length = m.length) := hlen
    clear hlen
    go_enter Try.func16, Try.ntmps16
    go_wp2_with fail
    go_loopw [5] (fun i wr => ∃ (k q : Nat), k ≤ l.length ∧ i = .int .i64 k ∧ wr = w.drewN q ∧ Hid (l.take k = m.take k)) (fun i wr => l.length - (intOf i).toNat)
    case atStart => exact ⟨0, 0, by omega, rfl, rfl, rfl⟩
    case round =>
      obtain ⟨k, q, hk, rfl, rfl, hs⟩ := hrel
      by_cases hlt : k < l.length
      · have hlt' : k < m.length := by have := Hlen.out; omega
        obtain ⟨b, rfl, hr⟩ := Hl.out (by intro e; rw [e] at hlt; simp at hlt)
        obtain ⟨b', rfl, hr'⟩ := Hm.out (by intro e; rw [e] at hlt'; simp at hlt')
        have c0 := hr k hlt
        have d0 := hr' k hlt'
        unfold encV at c0 d0
        have i0 : (0 : Int) ≤ (k : Int) := by omega
        have i1 : (k : Int) < (l.length : Int) := by omega
        have i2 : (k : Int) < (m.length : Int) := by omega
        clear hr hr'
        by_cases he : l[k] = m[k]
        · have hd2 : (l[k] == m[k]) = true := by simpa using he
          have hd3 : (l[k] != m[k]) = false := by simpa using he
          have He : Hid (l[k] = m[k]) := he
          clear he
          go_wp2_with fail
          go_region
          go_wp2
          exact ⟨⟨k + 1, q + 1, by omega, by go_num, rfl, take_sameV hs.out hlt hlt' He.out⟩, by simp [intOf]; omega⟩
        · have hd2 : (l[k] == m[k]) = false := by simpa using he
          have hd3 : (l[k] != m[k]) = true := by simpa using he
          have He : Hid (¬ l[k] = m[k]) := he
          clear he
          go_wp2_with fail
          go_region
          go_wp2
          go_ret
          refine ⟨ret_bool ?_, ⟨rfl, rfl, rfl, Nat.le_refl _, fun _ _ => rfl⟩⟩
          have : ¬ l = m := fun e => He.out (by subst e; rfl)
          simp [this]
      · have hke : k = l.length := by omega
        go_wp2
        go_ret
        refine ⟨ret_bool ?_, ⟨rfl, rfl, rfl, Nat.le_refl _, fun _ _ => rfl⟩⟩
        have : l = m := by
          have h := hs.out
          rw [hke, List.take_length, Hlen.out, List.take_length] at h
          exact h
        simp [this]
  · have hd : ((l.length : Int) != (m.length : Int)) = true := by simp; omega
    have hne : Hid (¬ l = m) := fun e => hlen (by rw [e])
    clear hlen
    go_enter Try.func16, Try.ntmps16
    go_wp2
    go_ret
    exact ⟨ret_bool (by simp [hne.out]), RowKit.Below.refl _ _⟩
end Go.Proofs.Ytcdbcoaiadipjaa

/- Has and stratasame.Texts of lists of texts, wherever these begin. -/
namespace Go.Proofs.Ytcdbcoaiadipjaa
open Go Go.RowKit Go.Proofs Go.Maps
set_option synthInstance.maxSize 1000

set_option maxHeartbeats 2000000 in
set_option maxRecDepth 100000 in
theorem SameTextsW_any (ad bd : Option Addr) (ca cb : Nat) (l m : List (List UInt8)) (w : World) (hl : SlW w ad l) (hm : SlW w bd m) (h200 : l.length ≤ 9223372036854775807) (h200' : m.length ≤ 9223372036854775807) :
    Calls Try.prog 16 #[.slice ad l.length ca, .slice bd m.length cb] w fun e w' => e = .returned (.bool (decide (l = m))) ∧ RowKit.Below w.heap.size w w' := by
  have Hl : Hid (SlW w ad l) := hl
  have Hm : Hid (SlW w bd m) := hm
  clear hl hm
  by_cases hlen : l.length = m.length
  · have hd : ((l.length : Int) != (m.length : Int)) = false := by simp [hlen]
    have Hlen : Hid (l.length = m.length) := hlen
    clear hlen
    go_enter Try.func16, Try.ntmps16
    go_wp2_with fail
    go_loopw [5] (fun i wr => ∃ (k q : Nat), k ≤ l.length ∧ i = .int .i64 k ∧ wr = w.drewN q ∧ Hid (l.take k = m.take k)) (fun i wr => l.length - (intOf i).toNat)
    case atStart => exact ⟨0, 0, by omega, rfl, rfl, rfl⟩
    case round =>
      obtain ⟨k, q, hk, rfl, rfl, hs⟩ := hrel
      by_cases hlt : k < l.length
      · have hlt' : k < m.length := by have := Hlen.out; omega
        obtain ⟨b, o, rfl, hr⟩ := Hl.out (by intro e; rw [e] at hlt; simp at hlt)
        obtain ⟨b', o', rfl, hr'⟩ := Hm.out (by intro e; rw [e] at hlt'; simp at hlt')
        have c0 := hr k hlt
        have d0 := hr' k hlt'
        unfold encV at c0 d0
        have i0 : (0 : Int) ≤ (k : Int) := by omega
        have i1 : (k : Int) < (l.length : Int) := by omega
        have i2 : (k : Int) < (m.length : Int) := by omega
        clear hr hr'
        by_cases he : l[k] = m[k]
        · have hd2 : (l[k] == m[k]) = true := by simpa using he
          have hd3 : (l[k] != m[k]) = false := by simpa using he
          have He : Hid (l[k] = m[k]) := he
          clear he
          go_wp2_with fail
          go_region
          go_wp2
          exact ⟨⟨k + 1, q + 1, by omega, by go_num, rfl, take_sameV hs.out hlt hlt' He.out⟩, by simp [intOf]; omega⟩
        · have hd2 : (l[k] == m[k]) = false := by simpa using he
          have hd3 : (l[k] != m[k]) = true := by simpa using he
          have He : Hid (¬ l[k] = m[k]) := he
          clear he
          go_wp2_with fail
          go_region
          go_wp2
          go_ret
          refine ⟨ret_bool ?_, ⟨rfl, rfl, rfl, Nat.le_refl _, fun _ _ => rfl⟩⟩
          have : ¬ l = m := fun e => He.out (by subst e; rfl)
          simp [this]
      · have hke : k = l.length := by omega
        go_wp2
        go_ret
        refine ⟨ret_bool ?_, ⟨rfl, rfl, rfl, Nat.le_refl _, fun _ _ => rfl⟩⟩
        have : l = m := by
          have h := hs.out
          rw [hke, List.take_length, Hlen.out, List.take_length] at h
          exact h
        simp [this]
  · have hd : ((l.length : Int) != (m.length : Int)) = true := by simp; omega
    have hne : Hid (¬ l = m) := fun e => hlen (by rw [e])
    clear hlen
    go_enter Try.func16, Try.ntmps16
    go_wp2
    go_ret
    exact ⟨ret_bool (by simp [hne.out]), RowKit.Below.refl _ _⟩
end Go.Proofs.Ytcdbcoaiadipjaa

/- Rows of one's own that lie in blocks of their own. -/
namespace Go.Proofs.Ytcdbcoaiadipjaa
open Go Go.RowKit Go.Proofs

theorem own_mono {W : World} {B C e s n : Nat} {v : Value} {xs : List Value} (h : W.ownsRow B e s v n xs) (hb : C ≤ B) : W.ownsRow C e s v n xs :=
  ⟨h.1, h.2.imp id fun ⟨g, cap, cur, e, hg, r⟩ => ⟨g, cap, cur, e, Nat.le_trans hb hg, r⟩⟩
/-- two rows of one's own lie in blocks of their own -/
def Far2 (v u : Value) : Prop := ∀ g, v.ownBlock = some g → u.ownBlock ≠ some g
theorem Far2.symm {v u : Value} (h : Far2 v u) : Far2 u v := fun g h1 h2 => h g h2 h1
theorem Far2.out {v u : Value} (h : Far2 v u) : u.ownBlock = none ∨ u.ownBlock ≠ v.ownBlock := by
  cases e : u.ownBlock with
  | none => exact .inl rfl
  | some g => exact .inr fun e' => h g e'.symm e
theorem far2_nil (u : Value) : Far2 (.slice none 0 0) u := fun g h => by cases h
theorem Far2.grow {v v' u : Value} {W : World} {B e s n : Nat} {ys : List Value} (h : Far2 v u) (hu : W.ownsRow B e s u n ys) (hv : v'.ownBlock = v.ownBlock ∨ v'.ownBlock = some W.heap.size) : Far2 v' u := fun g h1 h2 => by
  rcases hv with hv | hv
  · exact h g (hv ▸ h1) h2
  · rw [hv] at h1
    cases h1
    have := (hu.lt _ h2).2
    omega
end Go.Proofs.Ytcdbcoaiadipjaa

/- The document's Vars: the walk. -/
namespace Go.Proofs.Ytcdbcoaiadipjaa
open Go Go.RowKit Go.Proofs Go.Maps
set_option synthInstance.maxSize 1000

attribute [local go_sem ↓] eqlEmpty neqEmpty

end Go.Proofs.Ytcdbcoaiadipjaa

/- The document's Vars of a question (package strataref3). -/
namespace Go.Proofs.Ytcdbcoaiadipjaa
open Go Go.RowKit Go.Proofs Go.Maps
set_option synthInstance.maxSize 1000

theorem addAll_step (o l : List (List UInt8)) (k : Nat) (h : k < l.length) : addAll o (l.take (k + 1)) = if l[k] ∈ addAll o (l.take k) then addAll o (l.take k) else addAll o (l.take k) ++ [l[k]] := by
  induction l generalizing o k with
  | nil => simp at h
  | cons x r ih =>
    cases k with
    | zero => simp [addAll]
    | succ k =>
      have h' : k < r.length := by simpa using h
      simp only [List.take_succ_cons, addAll, List.getElem_cons_succ]
      exact ih _ k h'
theorem addAll_len (o l : List (List UInt8)) : (addAll o l).length ≤ o.length + l.length := by
  induction l generalizing o with
  | nil => simp [addAll]
  | cons x r ih =>
    have := ih (if x ∈ o then o else o ++ [x])
    unfold addAll
    split at this
    · rename_i hx; rw [if_pos hx]; simp; omega
    · rename_i hx; rw [if_neg hx]; simp at this ⊢; omega
theorem varsL_len (p : Pt) : (varsL p).length ≤ 3 := by
  have q : ∀ l s, (addV l s).length ≤ l.length + 1 := fun l s => by
    unfold addV
    split
    · omega
    · split
      · omega
      · simp
  have h1 := q [] p.1
  have h2 := q (addV [] p.1) p.2.1
  have h3 := q (addV (addV [] p.1) p.2.1) p.2.2
  unfold varsL
  simp at h1
  omega

/-- an append of a text to a row of one's own: just that row turns -/
theorem wpList_append_text {ops : Array Oper} {rest : List Oper} {o : Oper} {a : Act} {Q : Exit → Act → World → Prop} (w : World) (hgd : o.guard = none) (s x : Operand)
    (ho : o.op = .call { callee := .builtin .append, args := #[s, x], argTypes := #[23, 23] })
    (base B : Nat) (v : Value) (t : List (List UInt8)) (y : List UInt8) (hs : a.eval s = v) (hx : a.eval x = .slice (some ⟨B, 0, none⟩) 1 1) (hown : w.ownsRow base 9 1 v t.length (t.map encV))
    (hy : w.cell? ⟨B, 0, none⟩ = some (.string ⟨y.toArray⟩)) (h63 : t.length ≤ 1000000000000) (hbase : base ≤ w.heap.size)
    (h : ∀ v' w', w'.ownsRow base 9 1 v' (t ++ [y]).length ((t ++ [y]).map encV) → w.grownBy w' v.ownBlock → (v'.ownBlock = v.ownBlock ∨ v'.ownBlock = some w.heap.size) → wpList Try.prog ops Q rest (a.put o.dst v') w') : wpList Try.prog ops Q (o :: rest) a w := by
  obtain ⟨i0, hi, hz⟩ := Option.map_eq_some_iff.1 infoStrV
  simp only [Prod.mk.injEq] at hz
  obtain ⟨hz0, hz1, hz2⟩ := hz
  refine wpList_append_own_at _ hgd s x _ ho base 9 i0 (.string ByteArray.empty) 1 16 Try.underlying23 hi hz0 hz1 hz2 rfl (by decide) v t.length (t.map encV) hs hown ⟨B, 0, none⟩ 1 1 [encV y] hx rfl ?_ (by simp [encV, Value.oneCell']) (by unfold maxLen; omega) (by omega) hbase ?_
  · intro j u hj
    have h1 : j < 1 := (List.getElem?_eq_some_iff.1 hj).1
    obtain rfl : j = 0 := by omega
    simp at hj
    subst hj
    rw [Addr.add_lit]
    exact hy
  · intro v' w' h2 h3 _ h5
    refine h v' w' ?_ h3 h5
    simpa using h2

end Go.Proofs.Ytcdbcoaiadipjaa

/- ask.varsOf: the variables of all parts, or what is wrong with them; slices.Contains at texts. -/
namespace Go.Proofs.Ytcdbcoaiadipjaa
open Go Go.RowKit Go.Proofs Go.Maps
set_option synthInstance.maxSize 1000

attribute [local go_sem] eql_errV neq_errV guard_errV

theorem ContainsW_any (ad : Option Addr) (cap : Nat) (l : List (List UInt8)) (x : List UInt8) (w : World) (h : SlW w ad l) (hn : l.length ≤ 9223372036854775807) :
    Calls Try.prog 24 #[.slice ad l.length cap, .string ⟨x.toArray⟩] w fun e w' => e = .returned (.bool (decide (x ∈ l))) ∧ w' = w := by
  cases hl : l with
  | nil =>
    simpa using Try.slices_Contains_string_empty ad cap ⟨x.toArray⟩ w
  | cons c r =>
    rw [← hl]
    obtain ⟨b, o, rfl, hr⟩ := h (by rw [hl]; simp)
    refine (Try.slices_Contains_string b o l.length cap (l.map fun v => ⟨v.toArray⟩) ⟨x.toArray⟩ w (by simp) (by omega) ?_).mono ?_
    · intro j hj
      have hj' : j < l.length := by simpa using hj
      rw [hr j hj']
      simp [encV, List.getD_eq_getElem?_getD, List.getElem?_eq_getElem hj']
    · rintro e w' ⟨rfl, rfl⟩
      refine ⟨ret_bool ?_, rfl⟩
      rw [show l.length = (l.map fun v => (⟨v.toArray⟩ : ByteArray)).length by simp, List.take_length, Bool.eq_iff_iff, Lib.containsS_iff]
      simp only [List.mem_map, decide_eq_true_eq]
      constructor
      · rintro ⟨v, hv, e⟩
        have := congrArg (fun s : ByteArray => s.data.toList) e
        simp at this
        exact this ▸ hv
      · intro hx
        exact ⟨x, hx, rfl⟩
/-- what varsOf tells of parts -/
def vofN (L : List Pt) : Int := if 6 < L.length then 4 else if L = [] then 5 else if partsN L ≠ 0 then partsN L else if 8 < (partsV [] L).length then 4 else 0
def VofAns (L : List Pt) (w : World) (e : Ending) (w' : World) : Prop := ∃ m ad cap, e = .returned (.tuple #[.slice ad m.length cap, errV (vofN L)]) ∧ SlW w' ad m ∧ m.length ≤ 100 ∧ (vofN L = 0 → m = partsV [] L) ∧ RowKit.Below w.heap.size w w'
theorem vof_nil {L : List Pt} {w w' : World} {n : Int} (h : vofN L = n) (hn : n ≠ 0) (hb : RowKit.Below w.heap.size w w') : VofAns L w (.returned (.tuple #[.slice none 0 0, errV n])) w' :=
  ⟨[], none, 0, by rw [h]; rfl, slW_nil _ _, by simp, fun h0 => absurd (h.symm.trans h0) hn, hb⟩

set_option maxHeartbeats 16000000 in
set_option maxRecDepth 100000 in
theorem VarsOf_any (L : List Pt) (pd : Option Addr) (pc : Nat) (w : World) (h : SlPt w pd L) (hf : ∀ p ∈ L, fitPt p) (hl : L.length ≤ 9223372036854775807) :
    Calls Try.prog 22 #[.slice pd L.length pc] w (VofAns L w) := by
  obtain ⟨Q, hQ⟩ : ∃ Q, Q = VofAns L w := ⟨_, rfl⟩
  have HQ : Hid (∀ e w', VofAns L w e w' → Q e w') := fun e w' h => by rw [hQ]; exact h
  rw [← hQ]
  clear hQ
  by_cases h6 : 6 < L.length
  · have d1 : decide ((L.length : Int) > 6) = true := by simp; omega
    have fin := hideQ (show vofN L = 4 by unfold vofN; rw [if_pos h6])
    go_enter Try.func22, Try.ntmps22
    go_wp2_with fail
    exact HQ.out _ _ (vof_nil fin.out (by decide) (RowKit.Below.refl _ _))
  · have d1 : decide ((L.length : Int) > 6) = false := by simp; omega
    by_cases h0 : L = []
    · have d2 : ((L.length : Int) == 0) = true := by simp [h0]
      have fin := hideQ (show vofN L = 5 by unfold vofN; rw [if_neg h6, if_pos h0])
      clear h0
      go_enter Try.func22, Try.ntmps22
      go_wp2_with fail
      exact HQ.out _ _ (vof_nil fin.out (by decide) (RowKit.Below.refl _ _))
    · have d2 : ((L.length : Int) == 0) = false := by simp; exact h0
      have f1 := hideQ (fun h => show vofN L = partsN L by unfold vofN; rw [if_neg h6, if_neg h0, if_pos h])
      have f2 := hideQ (fun h h' => show vofN L = 4 by unfold vofN; rw [if_neg h6, if_neg h0, if_neg (fun k => k h), if_pos h'])
      have f3 := hideQ (fun h h' => show vofN L = 0 by unfold vofN; rw [if_neg h6, if_neg h0, if_neg (fun k => k h), if_neg h'])
      have Hp := hideQ h
      have Hf := hideQ hf
      clear h hf h0
      generalize hPN : partsN L = N at *
      have HPN := hideQ hPN
      generalize hPV : partsV [] L = V at *
      have HPV := hideQ hPV
      clear hPN hPV
      go_enter Try.func22, Try.ntmps22
      go_wp2_with fail
      go_loopw [4, 23] (fun v i wr => ∃ (k : Nat) (o : List (List UInt8)), k ≤ L.length ∧ i = .int .i64 k ∧ o.length ≤ 3 * k ∧ Hid (wr.ownsRow w.heap.size 9 1 v o.length (o.map encV)) ∧ Hid (N = partsN (L.drop k)) ∧ Hid (V = partsV o (L.drop k)) ∧ RowKit.Below w.heap.size w wr) (fun _ i wr => L.length - (intOf i).toNat)
      case atStart => exact ⟨0, [], Nat.zero_le _, rfl, by simp, World.ownsRow_nil _ _ _ _, HPN.out.symm, HPV.out.symm, RowKit.Below.refl _ _⟩
      case round =>
        obtain ⟨k, o, hk, rfl, hol, hown, hN, hV, hbr⟩ := hrel
        by_cases hlt : k < L.length
        · obtain ⟨b, off, rfl, hrow⟩ := (Hp.out.below hbr).at k hlt
          have hat := hrow.at k hlt
          have e0 := hat 0 _ rfl
          have e1 := hat 1 _ rfl
          have e2 := hat 2 _ rfl
          have e3 := hat 3 _ rfl
          have e4 := hat 4 _ rfl
          have e5 := hat 5 _ rfl
          have e6 := hat 6 _ rfl
          have e7 := hat 7 _ rfl
          have e8 := hat 8 _ rfl
          have e9 := hat 9 _ rfl
          have e10 := hat 10 _ rfl
          have e11 := hat 11 _ rfl
          rw [Nat.add_zero] at e0
          have i0 : (0 : Int) ≤ (k : Int) := by omega
          have i1 : (k : Int) < (L.length : Int) := by omega
          have hfp := Hf.out _ (List.getElem_mem hlt)
          have HR := fun W => VarsO_any L[k] W hfp
          have hd : L.drop k = L[k] :: L.drop (k + 1) := List.drop_eq_getElem_cons hlt
          rw [hd] at hN hV
          have hml := varsL_len L[k]
          clear hat hrow hd hfp
          generalize L[k] = p at *
          generalize hD : L.drop (k + 1) = D at *
          have HD := hideQ hD
          clear hD
          unfold valPt at HR
          have hzr := hbr.size
          go_wp2_with fail
          refine (HR _).mono ?_
          rintro e w2 ⟨hb2, m, md, mc, rfl, hm, hmA⟩
          dsimp only
          have hal : RowKit.Below wr.heap.size wr (wr.alloc (.cells #[.string ⟨p.1.1.toArray⟩, .int .i64 p.1.2.1, .string ⟨p.1.2.2.1.toArray⟩, .string ⟨p.1.2.2.2.toArray⟩, .string ⟨p.2.1.1.toArray⟩, .int .i64 p.2.1.2.1, .string ⟨p.2.1.2.2.1.toArray⟩, .string ⟨p.2.1.2.2.2.toArray⟩, .string ⟨p.2.2.1.toArray⟩, .int .i64 p.2.2.2.1, .string ⟨p.2.2.2.2.1.toArray⟩, .string ⟨p.2.2.2.2.2.toArray⟩] 32)) := balloc _ _
          have hB2 := bstep hbr (bstep hal hb2)
          have hown2 := hideQ (ownsRow_belowV hown.out (bstep hal hb2))
          have Hm := hideQ (own_mono hm (Nat.le_trans hzr hal.size))
          have hfar : Hid (Far2 _ (.slice md m.length mc)) := fun g h1 h2 => by
            have q1 := (hown.out.lt g h1).2
            have q2 := (hm.lt g h2).1
            have q3 := hal.size
            omega
          have hmA' : m = if varsN p = 0 then varsL p else [] := hmA
          clear HR hown hm hmA e0 e1 e2 e3 e4 e5 e6 e7 e8 e9 e10 e11 hal
          by_cases hv : varsN p = 0
          · rw [if_pos hv] at hmA'
            subst hmA'
            have hN2 : Hid (N = partsN D) := by have := hN.out; unfold partsN at this; rw [if_pos hv] at this; exact this
            have hV2 : Hid (V = partsV (addAll o (varsL p)) D) := hV.out
            rw [hv]
            clear hN hV hv
            generalize varsL p = m at *
            go_wp2_with fail
            go_loopw [4, 37] (fun v i wi => ∃ j : Nat, j ≤ m.length ∧ i = .int .i64 j ∧ Hid (wi.ownsRow w.heap.size 9 1 v (addAll o (m.take j)).length ((addAll o (m.take j)).map encV)) ∧ Hid (wi.ownsRow w.heap.size 9 1 (.slice md m.length mc) m.length (m.map encV)) ∧ Hid (Far2 v (.slice md m.length mc)) ∧ RowKit.Below w.heap.size w wi) (fun _ i wi => m.length - (intOf i).toNat)
            case atStart => exact ⟨0, Nat.zero_le _, rfl, hown2.out, Hm.out, hfar.out, hB2⟩
            case round =>
              obtain ⟨j, hj, rfl, hown3, Hm3, hfar3, hbi⟩ := hrel
              by_cases hjl : j < m.length
              · obtain ⟨md', mc', em, hmV⟩ := own_v Hm3.out
                obtain ⟨rfl, _, rfl⟩ : md = md' ∧ m.length = m.length ∧ mc = mc' := by simpa using em
                obtain ⟨mb, rfl, hmr⟩ := hmV (by intro e; rw [e] at hjl; simp at hjl)
                have c0 := hmr j hjl
                unfold encV at c0
                have j0 : (0 : Int) ≤ (j : Int) := by omega
                have j1 : (j : Int) < (m.length : Int) := by omega
                have hst := hideQ (addAll_step o m j hjl)
                have hle : (addAll o (m.take j)).length ≤ 1000 := by
                  have := addAll_len o (m.take j)
                  rw [List.length_take] at this
                  omega
                obtain ⟨ad, cap, rfl, hsl⟩ := own_v hown3.out
                have HC := ContainsW_any ad cap (addAll o (m.take j)) m[j] wr hsl.w (by omega)
                have hzi := hbi.size
                clear hmr hsl em hmV
                generalize ht : addAll o (m.take (j + 1)) = t1 at hst
                have Ht := hideQ ht
                generalize addAll o (m.take j) = t0 at *
                generalize m[j] = y at *
                clear ht
                cases hd : decide (y ∈ t0)
                · rw [hd] at HC
                  have e1 : Hid (t1 = t0 ++ [y]) := by have := hst.out; rw [if_neg (by simpa using hd)] at this; exact this
                  clear hst hd
                  go_wp2_with fail
                  refine HC.mono ?_
                  rintro e w3 ⟨rfl, hw3⟩
                  subst hw3
                  dsimp only
                  go_wp2_with (at_builtin; refine wpList_append_text _ rfl _ _ rfl w.heap.size w3.heap.size _ t0 y rfl rfl (hown3.out.alloc _) (by go_simp) (by omega) (by simp; omega) ?_; intro v' w4 hv4 hg4 hat4)
                  have hal : RowKit.Below w3.heap.size w3 (w3.alloc (.cells #[.string ⟨y.toArray⟩] 9)) := balloc _ _
                  have hbel : RowKit.Below w.heap.size w w4 := (bstep hbi hal).grown hg4 (by simp; omega) (fun g hg => (hown3.out.lt g hg).1)
                  have hm4 := hideQ ((ownsRow_belowV Hm3.out hal).kept hg4 hfar3.out.out)
                  have hfar4 := hideQ (hfar3.out.grow (ownsRow_belowV Hm3.out hal) hat4)
                  have hv5 := hideQ hv4
                  clear hv4 hg4 hat4 c0 HC
                  go_wp2_with fail
                  go_roundw
                  case rel =>
                    refine ⟨j + 1, by omega, by go_num, ?_, hm4, hfar4, hbel⟩
                    show World.ownsRow _ _ _ _ _ _ _
                    rw [Ht.out, e1.out]
                    exact hv5.out
                  case measure => simp [intOf]; omega
                · rw [hd] at HC
                  have e1 : Hid (t1 = t0) := by have := hst.out; rw [if_pos (by simpa using hd)] at this; exact this
                  clear hst hd
                  go_wp2_with fail
                  refine HC.mono ?_
                  rintro e w3 ⟨rfl, hw3⟩
                  subst hw3
                  dsimp only
                  clear HC c0
                  go_wp2_with fail
                  go_roundw
                  case rel =>
                    refine ⟨j + 1, by omega, by go_num, ?_, Hm3, hfar3, hbi⟩
                    show World.ownsRow _ _ _ _ _ _ _
                    rw [Ht.out, e1.out]
                    exact hown3.out
                  case measure => simp [intOf]; omega
              · obtain rfl : j = m.length := by omega
                have ho4 := hown3.out
                rw [List.take_length] at ho4
                have Ho4 := hideQ ho4
                have hle := addAll_len o m
                clear ho4 hown3
                go_wp2_with fail
                go_roundw
                case rel =>
                  refine ⟨k + 1, addAll o m, by omega, by go_num, by omega, Ho4, ?_, ?_, hbi⟩
                  · show _ = _
                    rw [HD.out]; exact hN2.out
                  · show _ = _
                    rw [HD.out]; exact hV2.out
                case measure => simp [intOf]; omega
          · have hN2 : Hid (N = varsN p) := by have := hN.out; unfold partsN at this; rw [if_neg hv] at this; exact this
            rw [if_neg hv] at hmA'
            subst hmA'
            have hne : (varsN p == 0) = false := by simpa using hv
            have hne2 : (varsN p != 0) = true := by simpa using hv
            have Hv := hideQ hv
            generalize varsN p = c at *
            clear hN hV hv Hm hown2
            go_wp2_with fail
            exact HQ.out _ _ (vof_nil ((f1.out (by rw [hN2.out]; exact Hv.out)).trans hN2.out) Hv.out hB2)
        · obtain rfl : k = L.length := by omega
          have hN2 : Hid (N = 0) := by have := hN.out; rw [List.drop_length] at this; exact this
          have hV2 : Hid (V = o) := by have := hV.out; rw [List.drop_length] at this; exact this
          obtain ⟨ad, cap, rfl, hsl⟩ := own_v hown.out
          have Hsl := hideQ hsl
          clear hsl hown hN hV
          by_cases h8 : 8 < o.length
          · have d3 : decide ((o.length : Int) > 8) = true := by simp; omega
            have fin := hideQ (f2.out hN2.out (by rw [hV2.out]; exact h8))
            go_wp2_with fail
            exact HQ.out _ _ (vof_nil fin.out (by decide) hbr)
          · have d3 : decide ((o.length : Int) > 8) = false := by simp; omega
            have fin := hideQ (f3.out hN2.out (by rw [hV2.out]; exact h8))
            go_wp2_with fail
            exact HQ.out _ _ ⟨o, ad, cap, by rw [fin.out]; rfl, Hsl.out.w, by omega, fun _ => hV2.out.symm.trans HPV.out.symm, hbr⟩
end Go.Proofs.Ytcdbcoaiadipjaa

/- A region that draws its order, whose operations only read and whose calls leave all that was: walked once, in the order of the text. -/
namespace Go.Proofs.Ytcdbcoaiadipjaa
open Go Go.RowKit Go.Proofs

/-- the worlds in which nothing old has turned -/
structure Lat (w : World) where
  val : World
  low : RowKit.Below w.heap.size w val
theorem lat_some (w : World) : Nonempty (Lat w) := ⟨⟨w, RowKit.Below.refl _ _⟩⟩
theorem lat_cell {w : World} {p : Addr} {v : Value} (h : w.cell? p = some v) : ∀ n : Lat w, n.val.cell? p = some v := fun n => (n.low.cell (World.block_lt_of_cell? w p h)).trans h
theorem lat_region {P : Program} {id : Nat} {Q : Exit → Act → World → Prop} {a : Act} {w : World} {l : List Oper} (hm : P.follows .mixedOrders = true) (hB : Region.lexB .any l.toArray = true)
    (h : wpQuiet P l.toArray (fun W => ∃ n : Lat w, W = n.val) (fun a' => ∀ W, (∃ n : Lat w, W = n.val) → Q .normal a' W) l a) : (Code.region id l.toArray true).wp P Q a w :=
  wp_region_quiet (C := fun W => ∃ n : Lat w, W = n.val) hm hB ⟨⟨w.drew, (RowKit.Below.refl _ _).drew⟩, rfl⟩ (by simpa using h)
theorem lat_call {P : Program} {f : FuncId} {args : Array Value} {w : World} {n : Lat w} {v : Value}
    (h : Calls P f args n.val fun e w' => e = .returned v ∧ RowKit.Below n.val.heap.size n.val w') : Calls P f args n.val fun e w'' => e = .returned v ∧ ∃ m : Lat w, w'' = m.val :=
  h.mono fun _ w' ⟨he, hb⟩ => ⟨he, ⟨w', n.low.trans (hb.mono n.low.size)⟩, rfl⟩
end Go.Proofs.Ytcdbcoaiadipjaa
