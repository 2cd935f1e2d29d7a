import Derived.Test.YtnphjdckdkjopaaGreatDoorMA0x11
import Derived.Shelf.SlGeneric
import Derived.Shelf.SlIter.Sorted
import Derived.Test.YtnphjdckdkjopaaGreatDoorProg
import Derived.Test.YtnphjdckdkjopaaGreatDoorMA0x10
import Derived.Test.YtnphjdckdkjopaaGreatDoorMA0x6
import Derived.Test.YtnphjdckdkjopaaGreatDoorMA0x1
import Derived.Test.YtnphjdckdkjopaaGreatDoorMA0x5

/- The program's journal, whole: keep, Commit, Branch, Sync, Fail, New, Repo, Bytes, Safe. -/
namespace Go.Proofs.YtnphjdckdkjopaaGreatDoor
open Go Go.RowKit Go.Proofs Go.Maps
set_option synthInstance.maxSize 1000

attribute [local go_sem] eql_errV neq_errV guard_errV

/-- the journal at block j: its struct, its bytes, its repo -/
structure JW (w : World) (j r s bm : Nat) (cv : Value) (OS P : Nat → Prop) (bv : Value) (J : Jn) : Prop where
  jb : JB w j r bv J.bytes J.safe J.ahead J.stop
  rp : RpW w r s bm cv OS P (playR J.ds)
  a1 : ¬ RpO r bm cv OS P j
  a2 : ∀ g, bv.ownBlock = some g → ¬ RpO r bm cv OS P g
def JO (j r bm : Nat) (cv : Value) (OS P : Nat → Prop) (bv : Value) (i : Nat) : Prop := i = j ∨ bv.ownBlock = some i ∨ RpO r bm cv OS P i
def JAt (w : World) (j : Nat) (O : Nat → Prop) (J : Jn) : Prop := ∃ r s bm cv OS P bv, JW w j r s bm cv OS P bv J ∧ ∀ i, O i ↔ JO j r bm cv OS P bv i
theorem JW.own {w : World} {j r s bm : Nat} {cv : Value} {OS P : Nat → Prop} {bv : Value} {J : Jn} (h : JW w j r s bm cv OS P bv J) : ∀ i, JO j r bm cv OS P bv i → i < w.heap.size := by
  rintro i (rfl | hi | hi)
  · exact h.jb.lt
  · exact h.jb.rlt i hi
  · exact h.rp.own i hi
theorem JW.keep {w w' : World} {j r s bm : Nat} {cv : Value} {OS P : Nat → Prop} {bv : Value} {J : Jn} (h : JW w j r s bm cv OS P bv J) (hb : ∀ i, JO j r bm cv OS P bv i → w'.heap[i]? = w.heap[i]?) : JW w' j r s bm cv OS P bv J :=
  ⟨h.jb.keep (hb j (Or.inl rfl)) (fun g hg => hb g (Or.inr (Or.inl hg))), h.rp.keep fun i hi => hb i (Or.inr (Or.inr hi)), h.a1, h.a2⟩
theorem JW.below {w w' : World} {j r s bm : Nat} {cv : Value} {OS P : Nat → Prop} {bv : Value} {J : Jn} (h : JW w j r s bm cv OS P bv J) (hb : RowKit.Below w.heap.size w w') : JW w' j r s bm cv OS P bv J := h.keep fun i hi => hb.block i (h.own i hi)
theorem JAt.own {w : World} {j : Nat} {O : Nat → Prop} {J : Jn} (h : JAt w j O J) : ∀ i, O i → i < w.heap.size := by
  obtain ⟨r, s, bm, cv, OS, P, bv, h1, h2⟩ := h
  exact fun i hi => h1.own i ((h2 i).1 hi)
theorem JAt.keep {w w' : World} {j : Nat} {O : Nat → Prop} {J : Jn} (h : JAt w j O J) (hb : ∀ i, O i → w'.heap[i]? = w.heap[i]?) : JAt w' j O J := by
  obtain ⟨r, s, bm, cv, OS, P, bv, h1, h2⟩ := h
  exact ⟨r, s, bm, cv, OS, P, bv, h1.keep fun i hi => hb i ((h2 i).2 hi), h2⟩
theorem JAt.below {w w' : World} {j : Nat} {O : Nat → Prop} {J : Jn} (h : JAt w j O J) (hb : RowKit.Below w.heap.size w w') : JAt w' j O J := h.keep fun i hi => hb.block i (h.own i hi)
/-- what a call leaves of a journal -/
def JTo (w : World) (O : Nat → Prop) (j : Nat) (J' : Jn) (w' : World) : Prop := ∃ O' : Nat → Prop, JAt w' j O' J' ∧ Offs O w w' ∧ ∀ i, O' i → O i ∨ w.heap.size ≤ i
theorem JTo.same {w w' : World} {O : Nat → Prop} {j : Nat} {J : Jn} (h : JAt w j O J) (hb : RowKit.Below w.heap.size w w') : JTo w O j J w' := ⟨O, h.below hb, Offs.of_below hb, fun _ hi => Or.inl hi⟩

/-! ### plain -/
theorem wrote_eq {J : Jn} (h : GoodJ J) (hs : J.stop = false) (d : Dd) : wrote J.ahead J.bytes d = if J.ahead = 0 then recs J.ds ++ halfL (recD d) else recs (J.ds ++ [d]) ++ J.half := by
  have h0 := h.whole hs
  unfold wrote Jn.bytes
  rw [h0, List.append_nil, List.append_nil, recs_app]
  split
  · rfl
  · simp [recs]
theorem keep_plain {J : Jn} (h : GoodJ J) (hs : J.stop = false) (d : Dd) :
    (keepJ J d).bytes = keepB (doE (playR J.ds) d) J.ahead J.bytes d ∧ (keepJ J d).safe = J.safe ∧ (keepJ J d).ahead = keepA (doE (playR J.ds) d) J.ahead ∧ (keepJ J d).stop = keepS (doE (playR J.ds) d) J.ahead ∧ keepJE J d = keepN (doE (playR J.ds) d) J.ahead ∧
      (keepN (doE (playR J.ds) d) J.ahead ≠ 0 → playR (keepJ J d).ds = playR J.ds ∧ keepJI J d = 0) ∧ (keepN (doE (playR J.ds) d) J.ahead = 0 → playR (keepJ J d).ds = doR (playR J.ds) d ∧ keepJI J d = doI (playR J.ds) d) := by
  have hw := wrote_eq h hs d
  have hs' : ¬ J.stop = true := by rw [hs]; decide
  by_cases hE : doE (playR J.ds) d = 0
  · have hE' : ¬ doE (playR J.ds) d ≠ 0 := fun h => h hE
    by_cases ha : J.ahead = 0
    · have e1 : keepJE J d = 6 := by unfold keepJE; rw [if_neg hs', if_neg hE', if_pos ha]
      have e2 : keepJ J d = ⟨J.ds, (recD d).take ((recD d).length / 2), J.sn, J.ahead, true⟩ := by unfold keepJ; rw [if_neg hs', if_neg hE', if_pos ha]
      have e3 : keepN (doE (playR J.ds) d) J.ahead = 6 := by unfold keepN; rw [if_neg hE', if_pos ha]
      have e4 : keepJI J d = 0 := by unfold keepJI; rw [e1]; rfl
      rw [e1, e2, e3, e4]
      unfold keepB keepA keepS
      rw [if_neg hE', if_neg hE', if_neg hE', hw, if_pos ha]
      refine ⟨rfl, rfl, ?_, ?_, rfl, fun _ => ⟨rfl, rfl⟩, fun h => absurd h (by decide)⟩
      · unfold stepA; rw [if_neg (by omega)]
      · exact (decide_eq_true ha).symm
    · have e1 : keepJE J d = 0 := by unfold keepJE; rw [if_neg hs', if_neg hE', if_neg ha]
      have e2 : keepJ J d = ⟨J.ds ++ [d], J.half, J.sn, stepA J.ahead, false⟩ := by unfold keepJ; rw [if_neg hs', if_neg hE', if_neg ha]
      have e3 : keepN (doE (playR J.ds) d) J.ahead = 0 := by unfold keepN; rw [if_neg hE', if_neg ha]
      have e4 : keepJI J d = doI (playR J.ds) d := by unfold keepJI; rw [e1, if_pos rfl]
      rw [e1, e2, e3, e4]
      unfold keepB keepA keepS
      rw [if_neg hE', if_neg hE', if_neg hE', hw, if_neg ha]
      refine ⟨rfl, ?_, rfl, (decide_eq_false ha).symm, rfl, fun h => absurd rfl h, fun _ => ⟨play_snoc _ _, rfl⟩⟩
      show (recs ((J.ds ++ [d]).take J.sn)).length = (recs (J.ds.take J.sn)).length
      rw [List.take_append_of_le_length h.sn]
  · have hE' : doE (playR J.ds) d ≠ 0 := hE
    have e1 : keepJE J d = doE (playR J.ds) d := by unfold keepJE; rw [if_neg hs', if_pos hE']
    have e2 : keepJ J d = J := by unfold keepJ; rw [if_neg hs', if_pos hE']
    have e3 : keepN (doE (playR J.ds) d) J.ahead = doE (playR J.ds) d := by unfold keepN; rw [if_pos hE']
    have e4 : keepJI J d = 0 := by unfold keepJI; rw [e1, if_neg hE]
    rw [e1, e2, e3, e4]
    unfold keepB keepA keepS
    rw [if_pos hE', if_pos hE', if_pos hE']
    exact ⟨rfl, rfl, rfl, hs, rfl, fun _ => ⟨rfl, rfl⟩, fun h => absurd h hE⟩

def KeepAnsJ (w : World) (O : Nat → Prop) (j : Nat) (J : Jn) (d : Dd) (e : Ending) (w' : World) : Prop := e = .returned (.tuple #[.int .i64 (keepJI J d : Int), errV (keepJE J d)]) ∧ JTo w O j (keepJ J d) w'
theorem entersKeep : ∀ args w, (callFunc 44 args).run Tryz.prog w = .ok (.enter 44 args) w := enters_of Tryz.func44 (by kernel_rfl) rfl

set_option maxHeartbeats 4000000 in
set_option maxRecDepth 100000 in
theorem jkeep_any (w : World) (B j r s bm : Nat) (cv : Value) (OS P : Nat → Prop) (bv : Value) (J : Jn) (d : Dd) (ad : Option Addr) (ca : Nat) (h : JW w j r s bm cv OS P bv J) (hg : GoodJ J) (hn : J.ds.length ≤ 1000) (hd : InD w d ad ca) (ho : doE (playR J.ds) d = 0 → OkD d) (hL : ∀ W, RowKit.Below B w W → LaidN W) (hB : B ≤ w.heap.size) :
    Calls Tryz.prog 23 #[.pointer (some ⟨j, 0, none⟩), valD d ad ca] w (KeepAnsJ w (JO j r bm cv OS P bv) j J d) := by
  have hlen := hg.len hn
  have H := hideO h
  have hlt := h.jb.lt
  by_cases hs : J.stop = true
  · have fin : Hid (∀ w', RowKit.Below w.heap.size w w' → KeepAnsJ w (JO j r bm cv OS P bv) j J d (.returned (.tuple #[.int .i64 0, .iface 72 (.int .i64 6)])) w') := fun w' hb => by
      have e1 : keepJE J d = 6 := by unfold keepJE; rw [if_pos hs]
      have e2 : keepJ J d = J := by unfold keepJ; rw [if_pos hs]
      have e3 : keepJI J d = 0 := by unfold keepJI; rw [e1]; rfl
      unfold KeepAnsJ
      rw [e1, e2, e3]
      exact ⟨rfl, JTo.same ⟨r, s, bm, cv, OS, P, bv, H.out, fun _ => Iff.rfl⟩ hb⟩
    obtain ⟨⟨c0, c1, c2, c3, c4⟩, fz⟩ := h.jb.cells
    rw [hs] at c4
    generalize KeepAnsJ w (JO j r bm cv OS P bv) j J d = G at *
    obtain ⟨k, nm, S, m, z⟩ := d
    unfold valD
    clear h hg hd ho hL c0 c1 c2 c3 fz hlen hn H
    go_enter Tryz.func23, Tryz.ntmps23
    go_wp2_with fail
    exact fin.out _ (bstep (balloc _ _) (balloc _ _))
  · have hs' : J.stop = false := by simpa using hs
    obtain ⟨p1, p2, p3, p4, p5, p6, p7⟩ := keep_plain hg hs' d
    -- the three boxes
    obtain ⟨k, nm, S, m, z⟩ := d
    have hb3 : RowKit.Below w.heap.size w (((w.alloc (.cells #[.pointer (some ⟨j, 0, none⟩)] 23)).alloc (.cells #[.string ⟨k.toArray⟩, .string ⟨nm.toArray⟩, .slice ad S.length ca, .string ⟨m.toArray⟩, .int .i64 z] 71)).alloc (.cells #[.int .i64 0] 3)) := bstep (bstep (balloc _ _) (balloc _ _)) (balloc _ _)
    obtain ⟨W3, hW3⟩ : ∃ W3, W3 = (((w.alloc (.cells #[.pointer (some ⟨j, 0, none⟩)] 23)).alloc (.cells #[.string ⟨k.toArray⟩, .string ⟨nm.toArray⟩, .slice ad S.length ca, .string ⟨m.toArray⟩, .int .i64 z] 71)).alloc (.cells #[.int .i64 0] 3)) := ⟨_, rfl⟩
    have hz3 : W3.heap.size = w.heap.size + 3 := by rw [hW3]; simp
    rw [← hW3] at hb3
    have h3 := h.below hb3
    have hK : KIn W3 (w.heap.size + 1) (w.heap.size + 2) w.heap.size j r bv J.bytes J.safe J.ahead (k, nm, S, m, z) ad ca := by
      refine ⟨?_, ?_, ?_, ?_, ?_, ?_, ⟨0, ?_⟩, ?_, ?_, hd.below hb3, fun hne x hx => ?_⟩
      · rw [hW3]; go_simp
      · rw [hW3]; go_simp
      · rw [hW3]; go_simp
      · rw [hW3]; go_simp
      · rw [hW3]; go_simp
      · rw [hW3]; go_simp
      · rw [hW3]; go_simp
      · rw [hW3]; go_simp
      · have := h3.jb; rw [hs'] at this; exact this
      · obtain ⟨b, o, e, h1⟩ := hd.set hne
        rw [hx] at e
        cases e
        have hpos : 0 < (cellsT S).length := by rw [cellsT_len]; have := List.length_pos_iff.2 hne; dsimp only at this; omega
        have := World.block_lt_of_cell? w _ (h1 0 _ (List.getElem?_eq_getElem hpos))
        have : b < w.heap.size := this
        exact ⟨by show b < _; omega, by show b ≠ _; omega⟩
    have hS3 := keep1_any W3 B (w.heap.size + 1) (w.heap.size + 2) w.heap.size j r bv J.bytes J.safe J.ahead (k, nm, S, m, z) ad ca P (playR J.ds) hK (good_play _) ho (fun W hW => hL W ((hb3.mono hB).trans hW)) (by omega) (by omega) hg.low hg.high (by omega) (by omega) (by omega) (by omega) (fun e => by have := h.jb.rlt _ e; omega) (fun i hi => ⟨by have := h.rp.plt i hi; omega, fun e => h.a1 (by subst e; exact Or.inr (Or.inr (Or.inr (Or.inl hi)))), fun e => h.a2 i e (Or.inr (Or.inr (Or.inr (Or.inl hi))))⟩)
    have hrz : r < w.heap.size := h.rp.lt
    have HA := AllOrNone_any W3 r s bm cv OS P (playR J.ds) 44 #[.pointer (some ⟨w.heap.size + 1, 0, none⟩), .pointer (some ⟨w.heap.size + 2, 0, none⟩), .pointer (some ⟨w.heap.size, 0, none⟩)] (fun i => i = w.heap.size + 2 ∨ i = j ∨ bv.ownBlock = some i) _ h3.rp (good_play _) entersKeep (fun i hi hO => by
      rcases hi with rfl | rfl | hi
      · have := h.rp.own _ hO; omega
      · exact h.a1 hO
      · exact h.a2 i hi hO) (fun i hi => by
      rcases hi with rfl | rfl | hi
      · omega
      · omega
      · have := h.jb.rlt i hi; omega) hS3
    have hX : ∀ i, (i = w.heap.size + 2 ∨ i = j ∨ bv.ownBlock = some i) → JO j r bm cv OS P bv i ∨ w.heap.size ≤ i := fun i hi => by
      rcases hi with rfl | rfl | hi
      · exact Or.inr (by omega)
      · exact Or.inl (Or.inl rfl)
      · exact Or.inl (Or.inr (Or.inl hi))
    have hOwn : Hid (∀ e w', OwnTo W3 r s bm cv OS P (playR J.ds) (fun i => i = w.heap.size + 2 ∨ i = j ∨ bv.ownBlock = some i) (KeepT (w.heap.size + 2) j r bv J.bytes J.safe J.ahead (playR J.ds) (k, nm, S, m, z)) e w' → ∃ N : Int, e = .returned (errV N) ∧ (N ≠ 0 → KeepAnsJ w (JO j r bm cv OS P bv) j J (k, nm, S, m, z) (.returned (.tuple #[.int .i64 0, errV N])) w') ∧ (N = 0 → w'.cell? ⟨w.heap.size + 2, 0, none⟩ = some (.int .i64 (doI (playR J.ds) (k, nm, S, m, z) : Int)) ∧ KeepAnsJ w (JO j r bm cv OS P bv) j J (k, nm, S, m, z) (.returned (.tuple #[.int .i64 (doI (playR J.ds) (k, nm, S, m, z) : Int), .nilIface])) w')) := by
      rintro e w' ⟨N, R', O1, Wc, W', rfl, hbc, ⟨hN, hR', hc, bv', hjb, hown⟩, hcase⟩
      have hzc := hbc.size
      rw [← p1, ← p2, ← p3, ← p4] at hjb
      have hbv' : ∀ g, bv'.ownBlock = some g → bv.ownBlock = some g ∨ w.heap.size ≤ g := fun g hg => (hown g hg).imp id fun h => by have := h.1; omega
      refine ⟨N, rfl, fun hne => ?_, fun he => ?_⟩
      · rcases hcase with ⟨_, rfl, hrp, hof⟩ | ⟨h0, _⟩
        · rw [hN] at hne
          obtain ⟨x1, x2⟩ := p6 hne
          refine ⟨by rw [x2, p5, hN]; rfl, JO j r bm cv OS P bv', ⟨r, s, bm, cv, OS, P, bv', ⟨hjb, by rw [x1]; exact hrp, h.a1, fun g hg hO => ?_⟩, fun _ => Iff.rfl⟩, (Offs.of_below hb3).trans hof hX, fun i hi => ?_⟩
          · rcases hbv' g hg with h' | h'
            · exact h.a2 g h' hO
            · have := h.rp.own g hO; omega
          · rcases hi with hi | hi | hi
            · exact Or.inl (Or.inl hi)
            · exact (hbv' i hi).imp (fun h => Or.inr (Or.inl h)) id
            · exact Or.inl (Or.inr (Or.inr hi))
        · exact absurd h0 hne
      · rcases hcase with ⟨h0, _⟩ | ⟨_, hofr, hzr, s', bm', cv', OS', P', hrp, hof, hown2⟩
        · exact absurd he h0
        · rw [hN] at he
          obtain ⟨x1, x2⟩ := p7 he
          have hjr : j ≠ r := fun e => h.a1 (Or.inl e)
          have hcl : w'.cell? ⟨w.heap.size + 2, 0, none⟩ = some (.int .i64 (doI (playR J.ds) (k, nm, S, m, z) : Int)) := (World.cell?_of_block (w := W') (a := ⟨w.heap.size + 2, 0, none⟩) (hofr.block _ (World.block_lt_of_cell? W' _ hc) (by show ¬ (w.heap.size + 2 = r); omega))).trans hc
          refine ⟨hcl, by rw [x2, p5, he]; rfl, JO j r bm' cv' OS' P' bv', ⟨r, s', bm', cv', OS', P', bv', ⟨hjb.keep (hofr.block j hjb.lt hjr) (fun g hg => hofr.block g (hjb.rlt g hg) ?_), by rw [x1, ← hR']; exact hrp, fun hO => ?_, fun g hg hO => ?_⟩, fun _ => Iff.rfl⟩, (Offs.of_below hb3).trans hof fun i hi => ?_, fun i hi => ?_⟩
          · rintro rfl
            rcases hbv' g hg with h' | h'
            · exact h.a2 g h' (Or.inl rfl)
            · omega
          · rcases (hown2 j hO).1 with h' | h'
            · exact h.a1 h'
            · omega
          · rcases hown g hg with h' | ⟨h', h''⟩
            · rcases (hown2 g hO).1 with q | q
              · exact h.a2 g h' q
              · have := h.jb.rlt g h'; omega
            · rcases (hown2 g hO).2 with rfl | q
              · omega
              · exact h'' q
          · rcases hi with rfl | hi
            · exact Or.inl (Or.inr (Or.inr (Or.inl rfl)))
            · exact hX i hi
          · rcases hi with hi | hi | hi
            · exact Or.inl (Or.inl hi)
            · exact (hbv' i hi).imp (fun h => Or.inr (Or.inl h)) id
            · exact (hown2 i hi).1.imp (fun h => Or.inr (Or.inr h)) (fun h => by omega)
    obtain ⟨⟨c0, c1, c2, c3, c4⟩, fz⟩ := h.jb.cells
    obtain ⟨⟨t0, t1, t2, t3, t4⟩, tz⟩ := h3.jb.cells
    have b0 := hK.jc
    rw [hs'] at c4
    clear hS3 hK h3 hX fz tz t1 t2 t3 t4 c1 c2 c3 H hg hd ho hL p1 p2 p3 p4 p5 p6 p7 hlen hn
    generalize KeepAnsJ w (JO j r bm cv OS P bv) j J (k, nm, S, m, z) = G at *
    generalize doI (playR J.ds) (k, nm, S, m, z) = I at *
    clear h hb3 hz3 b0
    subst hW3
    unfold valD
    go_enter Tryz.func23, Tryz.ntmps23
    go_wp2_with fail
    refine HA.mono ?_
    intro e w' hw
    obtain ⟨N, rfl, q1, q2⟩ := hOwn.out e w' hw
    clear hw hOwn HA t0 c0 c4
    by_cases h0 : N = 0
    · obtain ⟨q3, q4⟩ := q2 h0
      subst h0
      have Q4 := hideO q4
      clear q1 q2 q4
      rw [show errV 0 = Value.nilIface from rfl]
      dsimp only
      go_wp2_with fail
      exact Q4.out
    · have Q1 := hideO (q1 h0)
      have h0' : (N == 0) = false := by simpa using h0
      clear q1 q2 h0
      dsimp only
      go_wp2_with fail
      exact Q1.out
end Go.Proofs.YtnphjdckdkjopaaGreatDoor

/- The contracts of maps.Keys and slices.Sorted at string keys, laid at this program by program. -/
namespace Go.Proofs
open Go.Shelf
def Tryz.keysS_ren : Go.Shelf.Ren := ⟨fun | 7 => 29 | 10 => 52 | n => n, fun | 23 => 82 | 26 => 9 | 3 => 3 | 28 => 80 | 0 => 0 | 27 => 79 | 33 => 89 | 4 => 4 | n => n, fun | n => n⟩
theorem Tryz.keysS : Go.Proofs.SlLaysZ.n7 Tryz.prog Tryz.keysS_ren := {
  mixed := by kernel_rfl
  f7 := ⟨Tryz.f29.name, by decide, Tryz.func29.trans (congrArg some (by kernel_rfl))⟩
  f10 := ⟨Tryz.f52.name, by decide, Tryz.func52.trans (congrArg some (by kernel_rfl))⟩
  t0 := Tryz.underlying0
  a0 := Tryz.isAgg0
  z0 := Tryz.sizeOf0
  v0 := Tryz.zeroValue0
  t4 := Tryz.underlying4
  a4 := Tryz.isAgg4
  z4 := Tryz.sizeOf4
  v4 := Tryz.zeroValue4
  t23 := Tryz.underlying82
  a23 := Tryz.isAgg82
  z23 := Tryz.sizeOf82
  v23 := Tryz.zeroValue82
  t26 := Tryz.underlying9
  a26 := Tryz.isAgg9
  z26 := Tryz.sizeOf9
  v26 := Tryz.zeroValue9
  t27 := Tryz.underlying79
  a27 := Tryz.isAgg79
  z27 := Tryz.sizeOf79
  v27 := Tryz.zeroValue79
  t28 := Tryz.underlying80
  a28 := Tryz.isAgg80
  z28 := Tryz.sizeOf80
  v28 := Tryz.zeroValue80
  t33 := Tryz.underlying89
  a33 := Tryz.isAgg89
  z33 := Tryz.sizeOf89
  v33 := Tryz.zeroValue89 }
def Tryz.sortedS_ren : Go.Shelf.Ren := ⟨fun | 6 => 28 | 8 => 50 | 9 => 51 | 11 => 78 | 13 => 80 | 12 => 79 | 23 => 120 | 24 => 121 | 14 => 111 | 15 => 112 | 16 => 113 | 17 => 114 | 18 => 115 | 19 => 116 | 20 => 117 | 21 => 118 | 22 => 119 | 25 => 149 | 26 => 150 | 27 => 151 | 28 => 152 | 29 => 153 | 30 => 154 | 31 => 179 | n => n, fun | 26 => 9 | 28 => 80 | 24 => 22 | 0 => 0 | 3 => 3 | 37 => 148 | 48 => 200 | 50 => 202 | 4 => 4 | 40 => 194 | 39 => 193 | 45 => 170 | 5 => 5 | 9 => 9 | 51 => 233 | 55 => 237 | 57 => 257 | 58 => 60 | 33 => 89 | n => n, fun | n => n⟩
theorem Tryz.sortedS : Go.Proofs.SlLaysZ.n6 Tryz.prog Tryz.sortedS_ren := {
  mixed := by kernel_rfl
  f6 := ⟨Tryz.f28.name, by decide, Tryz.func28.trans (congrArg some (by kernel_rfl))⟩
  f8 := ⟨Tryz.f50.name, by decide, Tryz.func50.trans (congrArg some (by kernel_rfl))⟩
  f11 := ⟨Tryz.f78.name, by decide, Tryz.func78.trans (congrArg some (by kernel_rfl))⟩
  t0 := Tryz.underlying0
  a0 := Tryz.isAgg0
  z0 := Tryz.sizeOf0
  v0 := Tryz.zeroValue0
  t24 := Tryz.underlying22
  a24 := Tryz.isAgg22
  z24 := Tryz.sizeOf22
  v24 := Tryz.zeroValue22
  t26 := Tryz.underlying9
  a26 := Tryz.isAgg9
  z26 := Tryz.sizeOf9
  v26 := Tryz.zeroValue9
  t28 := Tryz.underlying80
  a28 := Tryz.isAgg80
  z28 := Tryz.sizeOf80
  v28 := Tryz.zeroValue80
  i26 := by kernel_rfl }
end Go.Proofs

/- repo's Refs: the branches by name. -/
namespace Go.Proofs.YtnphjdckdkjopaaGreatDoor
open Go Go.RowKit Go.Proofs Go.Maps Go.Sort Go.Shelf
set_option synthInstance.maxSize 1000

theorem sortsQ (m : Nat) : AnyZ.SortsIn Tryz.prog Tryz.sortedS_ren Fence.wide m :=
  ⟨fun blk off cap ss W hH hblk hsz => callsIn_wide.2 (Tryz.slices_Sort_string blk off cap ss W hH hblk hsz),
   fun p cap W => callsIn_wide.2 (Tryz.slices_Sort_string_none p cap W)⟩
def namesOf (l : List Rf) : List (List UInt8) := l.map fun x => x.1
theorem names_rise {l : List Rf} (h : ByName l) : (namesOf l).Pairwise (fun a b => a < b) := by
  unfold namesOf
  rw [List.pairwise_map]
  exact h
theorem has_len {w : World} {b n : Nat} {D : DataW Unit} (o : w.ownsMap Tryz.prog 9 (plainElem Tryz.prog 3) b n D) {x : List UInt8} (h : Maps.has D (.string x) = true) : x.length ≤ maxLen := by
  obtain ⟨es, rfl, hko⟩ := o.keysOf
  obtain ⟨p, hp, hs⟩ := List.any_eq_true.1 h
  obtain ⟨v, hv⟩ := hko p hp
  rw [WideAt.sameKey_eq hs] at hv
  obtain ⟨y, _, hy, hl⟩ := Maps.keyOf_str Tryz.underlying9 hv
  cases hy
  exact hl
theorem name_len {b : List UInt8} (h : nameR b = true) : b.length ≤ 10 := by
  unfold nameR at h
  simp at h
  exact h.2.1
/-- the keys of the branches' map, sorted, are their names -/
theorem keys_names {w : World} {b m : Nat} {D : DataW Unit} {l : List Rf} (o : w.ownsMap Tryz.prog 9 (plainElem Tryz.prog 3) b m D) (f : BrD D l) (hl : ByName l) (hn : ∀ x ∈ l, nameR x.1 = true) {ss : List (List UInt8)} (hp : ss.Perm (strKeys D)) : ss.mergeSort (fun x y => decide (x ≤ y)) = namesOf l := by
  have h1 : (namesOf l).Perm (strKeys D) := by
    refine Collected.perm (left := fun _ => false) ⟨(names_rise hl).imp fun h e => by rw [e] at h; exact List.lt_irrefl _ h, fun x => ?_⟩ o keyedSO Tryz.underlying9 fun _ => rfl
    simp only [and_true]
    constructor
    · intro hx
      obtain ⟨y, hy, rfl⟩ := List.mem_map.1 hx
      have hlen := name_len (hn y hy)
      rw [(f _ (by unfold maxLen; omega)).1]
      have : atR l y.1 = (y.2 : Int) := (atR_mem hl).2 hy
      rw [this]
      simp
    · intro hx
      rw [(f _ (has_len o hx)).1] at hx
      have h0 : 0 ≤ atR l x := by simpa using hx
      obtain ⟨k, hk⟩ := patR_some h0
      exact List.mem_map.2 ⟨(x, k), (atR_mem hl).1 hk, rfl⟩
  have h2 := hp.trans h1.symm
  have tr : ∀ a b c : List UInt8, decide (a ≤ b) = true → decide (b ≤ c) = true → decide (a ≤ c) = true := fun a b c h1 h2 => by simp only [decide_eq_true_eq] at *; exact List.le_trans h1 h2
  have to : ∀ a b : List UInt8, (decide (a ≤ b) || decide (b ≤ a)) = true := fun a b => by simp only [Bool.or_eq_true, decide_eq_true_eq]; exact List.le_total a b
  refine List.Perm.eq_of_pairwise (le := fun a b => decide (a ≤ b) = true) (fun a b _ _ h1 h2 => ?_) (List.pairwise_mergeSort tr to ss) ?_ ((List.mergeSort_perm ss _).trans h2)
  · simp only [decide_eq_true_eq] at h1 h2; exact List.le_antisymm h1 h2
  · exact (names_rise hl).imp fun h => by simp only [decide_eq_true_eq]; exact List.le_of_lt h
/-- a look-up of a branch that is there -/
theorem look_br1 {w : World} {bm : Nat} {l : List Rf} (h : BrMap w bm l) (t : List UInt8) (ht : t.length ≤ maxLen) {k : Nat} (hk : atR l t = (k : Int)) :
    (Instr.lookup 82 (.map (some bm)) (.string ⟨t.toArray⟩) false).run Tryz.prog w = .ok (.int .i64 (k : Int)) w := by
  obtain ⟨D, o1, f1, hs⟩ := h
  obtain ⟨c, hrun, hc, _⟩ := o1.lookup_int keyedSO Tryz.underlying82 Tryz.underlying3 (zeroNum w) (keyS t ht)
  rw [(f1 t ht).2] at hc
  have e : brI l t = (k : Int) := by rw [brI_pos (by omega), hk]
  rw [e] at hc
  simp only [DataW.lit.injEq, Lit.int.injEq, true_and] at hc
  rw [hrun, ← hc]
def encRf (x : Rf) : List Value := [.string ⟨x.1.toArray⟩, .int .i64 (x.2 : Int)]
def cellsRf (l : List Rf) : List Value := l.flatMap encRf
theorem cellsRf_len (l : List Rf) : (cellsRf l).length = l.length * 2 := by
  induction l with
  | nil => rfl
  | cons x r ih =>
    have e : cellsRf (x :: r) = encRf x ++ cellsRf r := by simp [cellsRf]
    rw [e, List.length_append, ih]
    simp [encRf]
    omega
theorem cellsRf_at (l : List Rf) (k : Nat) (hk : k < l.length) : (cellsRf l)[k * 2]? = some (.string ⟨l[k].1.toArray⟩) ∧ (cellsRf l)[k * 2 + 1]? = some (.int .i64 (l[k].2 : Int)) := by
  induction l generalizing k with
  | nil => simp at hk
  | cons x r ih =>
    have e : cellsRf (x :: r) = encRf x ++ cellsRf r := by simp [cellsRf]
    rw [e]
    cases k with
    | zero => simp [encRf]
    | succ n =>
      have h2 : (encRf x).length = 2 := rfl
      obtain ⟨q1, q2⟩ := ih n (by simpa using hk)
      rw [List.getElem?_append_right (by rw [h2]; omega), List.getElem?_append_right (by rw [h2]; omega), h2, show (n + 1) * 2 - 2 = n * 2 by omega, show (n + 1) * 2 + 1 - 2 = n * 2 + 1 by omega]
      simpa using ⟨q1, q2⟩
theorem infoRf : (Tryz.prog.info? 48).map (fun i => (i.zero, i.size, i.bytes)) = some (some (.agg #[.string ⟨#[]⟩, .int .i64 0]), 2, 24) := by kernel_rfl
theorem newRf (W : World) (x : Rf) : ∀ (j : Nat) u, (encRf x)[j]? = some u → (W.alloc (.cells #[.string ⟨x.1.toArray⟩, .int .i64 (x.2 : Int)] 48)).cell? (Addr.add ⟨W.heap.size, 0, none⟩ j) = some u := fun j u hu => by
  have hj : j < 2 := by have := (List.getElem?_eq_some_iff.1 hu).1; simpa [encRf] using this
  rw [Addr.add_lit]
  rcases (by omega : j = 0 ∨ j = 1) with rfl | rfl
  · simp [encRf] at hu; subst hu; go_simp
  · simp [encRf] at hu; subst hu; go_simp
/-- one more in the row -/
theorem rf_push {W : World} {base : Nat} {v : Value} {l : List Rf} (h : W.ownsRow base 48 2 v l.length (cellsRf l)) (x : Rf) (hl : l.length ≤ 1000) (hb : base ≤ W.heap.size) (ty : TypeId) :
    ∃ g cap W9, (Builtin.append_ #[43, 43] ty #[v, .slice (some ⟨W.heap.size, 0, none⟩) 1 1]).run Tryz.prog (W.alloc (.cells #[.string ⟨x.1.toArray⟩, .int .i64 (x.2 : Int)] 48)) = .ok (.slice (some ⟨g, 0, none⟩) (l.length + 1) cap) W9 ∧
      W9.ownsRow base 48 2 (.slice (some ⟨g, 0, none⟩) (l.length + 1) cap) (l ++ [x]).length (cellsRf (l ++ [x])) ∧ ∀ {w : World}, RowKit.Below base w W → RowKit.Below base w W9 := by
  obtain ⟨i0, hi0, hz⟩ := Option.map_eq_some_iff.1 infoRf
  simp only [Prod.mk.injEq] at hz
  obtain ⟨hz0, hz1, hz2⟩ := hz
  obtain ⟨g, cap, W9, hrun, hrow, hgr, hat, hlt9⟩ := run_append_lies (P := Tryz.prog) (W.alloc (.cells #[.string ⟨x.1.toArray⟩, .int .i64 (x.2 : Int)] 48)) 43 ty base 48 i0 (.agg #[.string ⟨#[]⟩, .int .i64 0]) 2 24 Tryz.underlying43 hi0 hz0 hz1 hz2 rfl (by decide) v l.length (cellsRf l) (h.alloc _) ⟨W.heap.size, 0, none⟩ 1 1 (encRf x) rfl (newRf W x) (by simp [encRf, Value.oneCell']) (by decide) (by unfold maxLen; omega) (by omega) (by simp; omega) _ rfl
  refine ⟨g, cap, W9, hrun, ?_, fun {w} hw => ?_⟩
  · rw [List.length_append]
    have e : cellsRf (l ++ [x]) = cellsRf l ++ encRf x := by simp [cellsRf]
    rw [e]
    exact hrow
  · have h1 : RowKit.Below base w (W.alloc (.cells #[.string ⟨x.1.toArray⟩, .int .i64 (x.2 : Int)] 48)) := hw.trans ((balloc W _).mono hb)
    exact h1.grown hgr (by simp; omega) (fun j e => (h.lt j e).1)
/-- what is answered of branches -/
def RefsOut (w : World) (l : List Rf) (e : Ending) (w' : World) : Prop := ∃ ad ca, e = .returned (.slice ad l.length ca) ∧ SlF w' ad l ∧ RowKit.Below w.heap.size w w'
theorem refs_out {w w' : World} {base : Nat} {v : Value} {l : List Rf} (h : w'.ownsRow base 48 2 v l.length (cellsRf l)) (hb : RowKit.Below w.heap.size w w') : ∃ ad ca, v = .slice ad l.length ca ∧ RefsOut w l (.returned (.slice ad l.length ca)) w' := by
  by_cases hn : 0 < l.length
  · obtain ⟨g, cap, rfl, hcap, hx⟩ := prow_at h hn
    refine ⟨_, _, rfl, _, _, rfl, fun _ => ⟨g, 0, rfl, fun i hi => ?_⟩, hb⟩
    obtain ⟨q1, q2⟩ := cellsRf_at l i hi
    rw [Nat.zero_add]
    exact ⟨hx _ _ q1, hx _ _ q2⟩
  · have hl : l = [] := List.eq_nil_of_length_eq_zero (by omega)
    subst hl
    rcases h.2 with ⟨rfl, _⟩ | ⟨g, cap, cur, rfl, _⟩
    · exact ⟨none, 0, rfl, none, 0, rfl, fun h => absurd rfl h, hb⟩
    · exact ⟨_, cap, rfl, _, cap, rfl, fun h => absurd rfl h, hb⟩

set_option maxHeartbeats 1000000 in
/-- the names, sorted, in a new list -/
theorem Qkeys_any (w : World) (bm : Nat) (l : List Rf) (h : BrMap w bm l) (hl : ByName l) (hn : ∀ x ∈ l, nameR x.1 = true) (h8 : l.length ≤ 8) :
    Calls Tryz.prog 28 #[.func (.func 52) #[] #[.pointer (some ⟨w.heap.size, 0, none⟩)]] (w.alloc (.cells #[.map (some bm)] 82)) fun e w' => ∃ ad ca, e = .returned (.slice ad l.length ca) ∧ (∀ (j : Nat) (hj : j < l.length), ∃ g, ad = some ⟨g, 0, none⟩ ∧ w'.cell? ⟨g, j, none⟩ = some (.string ⟨l[j].1.toArray⟩)) ∧ RowKit.Below w.heap.size w w' := by
  obtain ⟨D, o, f, hs⟩ := h
  have hbl := o.lt
  have hle := o.size_le
  have hseq : SeqGives Fence.wide 2 Tryz.prog 52 #[.pointer (some ⟨w.heap.size, 0, none⟩)] encStr (fun ss => ss.Perm (strKeys D)) (Maps.size D) (w.alloc (.cells #[.map (some bm)] 82)) :=
    AnyZ.keys_gives (ρ := Tryz.keysS_ren) { Tryz.keysS with } Fence.wide _ trivial rfl (by omega) w.heap.size bm 100 D _ (by simp) (by simp) (o.alloc _)
  have cS := AnyZ.sorted_in Tryz.sortedS Fence.wide 5 trivial trivial trivial trivial rfl (by omega) (sortsQ _) (enters_of Tryz.func51 (by kernel_rfl) rfl) 52 #[.pointer (some ⟨w.heap.size, 0, none⟩)] trivial (enters_of Tryz.func52 (by kernel_rfl) rfl) _ _ (by unfold maxLen; omega) (by omega) _ hseq
  change CallsIn _ _ Tryz.prog 28 _ _ _ at cS
  refine (callsIn_wide.1 cS).mono ?_
  rintro e w' ⟨v, ss, rfl, hS, hrow, hnil, hb⟩
  have hids := keys_names o f hl hn hS
  have hlen : ss.length = l.length := by
    have : (ss.mergeSort (fun x y => decide (x ≤ y))).length = ss.length := (List.mergeSort_perm ss _).length_eq
    rw [hids] at this
    simpa [namesOf] using this.symm
  rw [hids] at hrow
  have hbb : RowKit.Below w.heap.size w w' := ((RowKit.Below.refl _ w).alloc (Nat.le_refl _) _).trans (hb.mono (by simp))
  obtain ⟨ad, ca, rfl⟩ := prow_form hrow
  rw [hlen] at hrow ⊢
  refine ⟨ad, ca, rfl, fun j hj => ?_, hbb⟩
  obtain ⟨g, cap, e, _, hx⟩ := prow_at hrow (by omega)
  obtain ⟨rfl, _, _⟩ := Value.slice.inj e
  refine ⟨g, rfl, hx j _ ?_⟩
  simp [namesOf, encStr, hj]
theorem QKeysF_any (mb : Option Nat) (W : World) : Calls Tryz.prog 29 #[.map mb] W fun e w' => e = .returned (.func (.func 52) #[] #[.pointer (some ⟨W.heap.size, 0, none⟩)]) ∧ w' = W.alloc (.cells #[.map mb] 82) :=
  (callsIn_wide (n := 5)).1 (AnyZ.keys_in Tryz.keysS Fence.wide 5 trivial rfl mb W)

set_option maxHeartbeats 4000000 in
set_option maxRecDepth 100000 in
theorem QRefs_any (w : World) (r s bm : Nat) (cv : Value) (OS P : Nat → Prop) (R : Rp) (h : RpW w r s bm cv OS P R) (hg : GoodR R) :
    Calls Tryz.prog 14 #[.pointer (some ⟨r, 0, none⟩)] w (RefsOut w R.refs) := by
  obtain ⟨c0, c1, c2, cf⟩ := h.cells
  have hlt := h.lt
  have HK := Qkeys_any w bm R.refs h.map hg.refs (fun x hx => (hg.names x hx).1) hg.few
  have HL := hideO (fun W (hW : RowKit.Below w.heap.size w W) (x : Rf) (hx : x ∈ R.refs) => look_br1 (h.below hW).map x.1 (by have := name_len (hg.names x hx).1; unfold maxLen; omega) ((atR_mem hg.refs).2 hx))
  have HC := hideO (fun W (hW : RowKit.Below w.heap.size w W) => (h.below hW).cells)
  have HN := hideO (fun (x : Rf) (hx : x ∈ R.refs) => name_len (hg.names x hx).1)
  have h8 := hg.few
  clear h hg
  generalize R.refs = l at *
  go_enter Tryz.func14, Tryz.ntmps14
  go_wp2_with (first
    | (go_at_call 29; refine (QKeysF_any _ _).mono ?_; rintro e w1 ⟨rfl, rfl⟩; dsimp only)
    | (go_at_call 28; refine HK.mono ?_; rintro e w2 ⟨ad, ca, rfl, hcells, hb2⟩; dsimp only; have HCE := hideO hcells; have HB2 := hideO hb2; clear hcells hb2 HK))
  go_loopw [3, 13] (fun v i wr => ∃ (k : Nat), k ≤ l.length ∧ i = .int .i64 k ∧ Hid (RowKit.Below w2.heap.size w2 wr) ∧ Hid (wr.ownsRow w2.heap.size 48 2 v (l.take k).length (cellsRf (l.take k)))) (fun _ i wr => l.length - (intOf i).toNat)
  case atStart => exact ⟨0, Nat.zero_le _, rfl, RowKit.Below.refl _ w2, World.ownsRow_nil _ _ _ _⟩
  case round =>
    obtain ⟨k, hk, rfl, hbr, hown⟩ := hrel
    by_cases hltk : k < l.length
    · obtain ⟨g, rfl, hc0⟩ := HCE.out k hltk
      have hc := (hbr.out.cell (World.block_lt_of_cell? w2 _ hc0)).trans hc0
      have i0 : (0 : Int) ≤ (k : Int) := by omega
      have i1 : (k : Int) < (l.length : Int) := by omega
      have hmem : l[k] ∈ l := List.getElem_mem hltk
      have hcl : l[k].1.length ≤ 281474976710656 := by have := HN.out _ hmem; omega
      have htk : Hid (l.take (k + 1) = l.take k ++ [l[k]]) := List.take_succ_eq_append_getElem hltk
      have hlk : Hid ((l.take k).length = k) := by show _ = _; rw [List.length_take]; omega
      have HLk := hideO (fun W (hW : RowKit.Below w.heap.size w W) => HL.out W hW l[k] hmem)
      have hbw := hideO (bstep HB2.out hbr.out)
      clear hc0 hmem
      generalize l[k] = x at *
      have hlD : (Instr.lookup 82 (.map (some bm)) (.string ⟨x.1.toArray⟩) false).run Tryz.prog wr.drew = .ok (.int .i64 (x.2 : Int)) wr.drew := HLk.out _ hbw.out.drew
      obtain ⟨d0, d1, d2, df⟩ := HC.out _ hbw.out
      have zr : r < wr.heap.size := by have := hbw.out.size; omega
      go_wp2_with fail
      go_region_law (first
        | (refine step_appendQ rfl (.tmp 17) (.tmp 27) 43 rfl _ _ rfl rfl hr9 ?_)
        | (go_simp; go_at_call 30; refine (SClone_any x.1 _ hcl).mono ?_; rintro e w5 ⟨rfl, hb5'⟩; dsimp only; have hb5 : RowKit.Below wr.heap.size wr w5 := (RowKit.Below.refl _ wr).drew.trans hb5'; have hl5 := HLk.out _ (bstep hbw.out hb5); obtain ⟨m0, m1, m2, mf⟩ := HC.out _ (bstep hbw.out hb5); have z5 : r < w5.heap.size := (by have := hb5.size; omega); obtain ⟨g9, cap9, W9, hr9, ho9, hB9⟩ := rf_push (ownsO_below hown.out hb5) x (by rw [hlk.out]; omega) (by have := hbr.out.size; have := hb5.size; omega) 43; have HO9 := hideO ho9; have HB9 := hideO (hB9 (bstep hbr.out hb5)); clear ho9 hB9))
      all_goals go_wp2_with fail
      all_goals exact ⟨⟨k + 1, by omega, by go_num, HB9, by show World.ownsRow _ _ _ _ _ _ _; rw [htk.out]; have := HO9.out; rw [hlk.out] at this; exact this⟩, by simp [intOf]; omega⟩
    · have hkk : k = l.length := by omega
      subst hkk
      have hfin : wr.ownsRow w2.heap.size 48 2 u3 l.length (cellsRf l) := by have := hown.out; rw [List.take_length] at this; exact this
      obtain ⟨ad', ca', rfl, hout⟩ := refs_out hfin (bstep HB2.out hbr.out)
      have HOut := hideO hout
      clear hout hown hfin HCE HN HL
      go_wp2_with fail
      go_ret
      exact HOut.out
end Go.Proofs.YtnphjdckdkjopaaGreatDoor

/- The program's repo keeps the face's contracts. -/
namespace Go.Proofs.YtnphjdckdkjopaaGreatDoor
open Go Go.RowKit Go.Proofs Go.Maps
set_option synthInstance.maxSize 1000

theorem RpTo.at_ {w w' : World} {r s bm : Nat} {cv : Value} {OS P O : Nat → Prop} {R' : Rp} (h : RpTo w r s bm cv OS P R' w') (hO : ∀ j, O j ↔ RpO r bm cv OS P j) : ∃ O' : Nat → Prop, RepAt w' r O' R' ∧ Offs O w w' ∧ ∀ j, O' j → O j ∨ w.heap.size ≤ j := by
  obtain ⟨cv', OS', P', h1, h2, h3⟩ := h
  exact ⟨RpO r bm cv' OS' P', ⟨s, bm, cv', OS', P', h1, fun _ => Iff.rfl⟩, h2.mono fun j hj => Or.inl ((hO j).2 hj.any), fun j hj => (h3.all j hj).imp (hO j).2 id⟩
def theRepo : RFace := {
  lim := reachBytes
  At := RepAt
  own := by
    rintro w r O R ⟨s, bm, cv, OS, P, h, hO⟩ j hj
    exact h.own j ((hO j).1 hj)
  keep := by
    rintro w w' r O R ⟨s, bm, cv, OS, P, h, hO⟩ hk
    exact ⟨s, bm, cv, OS, P, h.keep fun j hj => hk j ((hO j).2 hj), hO⟩
  new := QNew_any
  commit := by
    rintro w r O R b ad ca S t ⟨s, bm, cv, OS, P, h, hO⟩ hg hS hb ht
    refine (QCommit_any w r s bm cv OS P R b ad ca S t h hg hb hS.sl hS.fit hS.len ht).mono ?_
    rintro e w' ⟨rfl, hto⟩
    exact ⟨rfl, hto.at_ hO⟩
  branch := by
    rintro w r O R b a ⟨s, bm, cv, OS, P, h, hO⟩ hg hb
    refine (QBranch_any w r s bm cv OS P R b a h hg hb).mono ?_
    rintro e w' ⟨rfl, hto⟩
    exact ⟨rfl, hto.at_ hO⟩
  graph := by
    rintro w r O R a ⟨s, bm, cv, OS, P, h, hO⟩ hg
    exact QGraph_any w r s bm cv OS P R a h hg
  refs := by
    rintro w r O R ⟨s, bm, cv, OS, P, h, hO⟩ hg
    exact QRefs_any w r s bm cv OS P R h hg
  commits := by
    rintro w r O R ⟨s, bm, cv, OS, P, h, hO⟩ hg
    exact QCommits_any w r s bm cv OS P R h hg
  object := by
    rintro w r O R id ⟨s, bm, cv, OS, P, h, hO⟩ hg
    exact QObject_any w r s bm cv OS P R id h hg
}
theorem theRepo_lim : theRepo.lim = reachBytes := rfl
end Go.Proofs.YtnphjdckdkjopaaGreatDoor

/- The program's journal: New, Commit, Branch, Sync, Fail, Repo, Bytes, Safe. -/
namespace Go.Proofs.YtnphjdckdkjopaaGreatDoor
open Go Go.RowKit Go.Proofs Go.Maps
set_option synthInstance.maxSize 1000

attribute [local go_sem] eql_errV neq_errV guard_errV

theorem ok_commit {R : Rp} {b : List UInt8} {S : List Tr} {t : List UInt8} (h : doE R (comK, b, S, t, 0) = 0) : OkD (comK, b, S, t, 0) := by
  unfold doE at h
  rw [if_neg (show ¬ comK = brK by decide)] at h
  dsimp only at h
  unfold commitE at h
  by_cases hf : commitF R b S t = 0
  · unfold commitF at hf
    split at hf
    · cases hf
    · rename_i hn
      have hn' : nameR b = true := by simpa using hn
      split at hf
      · rename_i hs; exact absurd hf hs
      · rename_i hs
        have hs' : setF S t = 0 := Classical.byContradiction fun h => hs h
        unfold setF at hs'
        split at hs'
        · rename_i h1; exact absurd hs' h1
        · rename_i h1
          have h1' : sortedN S = 0 := Classical.byContradiction fun h => h1 h
          exact ⟨hn', Or.inr ⟨rfl, sortedN_set.1 h1', hs', rfl⟩⟩
  · rw [if_pos hf] at h
    exact absurd h hf
theorem ok_branch {R : Rp} {b : List UInt8} {a : Int} (h0 : -9223372036854775808 ≤ a) (h1 : a ≤ 9223372036854775807) (h : doE R (brK, b, [], [], a) = 0) : OkD (brK, b, [], [], a) := by
  unfold doE at h
  rw [if_pos rfl] at h
  dsimp only at h
  unfold branchE at h
  split at h
  · cases h
  · rename_i hn
    exact ⟨by simpa using hn, Or.inl ⟨rfl, rfl, rfl, h0, h1⟩⟩
theorem JTo.iff {w w' : World} {O O2 : Nat → Prop} {j : Nat} {J : Jn} (h : JTo w O2 j J w') (hO : ∀ i, O i ↔ O2 i) : JTo w O j J w' := by
  obtain ⟨O', h1, h2, h3⟩ := h
  exact ⟨O', h1, h2.mono fun i hi => Or.inl ((hO i).2 hi), fun i hi => (h3 i hi).imp (hO i).2 id⟩

set_option maxHeartbeats 1000000 in
theorem JCommit_any (w : World) (B j : Nat) (O : Nat → Prop) (J : Jn) (b : List UInt8) (ad : Option Addr) (ca : Nat) (S : List Tr) (t : List UInt8) (h : JAt w j O J) (hg : GoodJ J) (hn : J.ds.length ≤ 1000) (hd : InD w (comK, b, S, t, 0) ad ca) (hL : ∀ W, RowKit.Below B w W → LaidN W) (hB : B ≤ w.heap.size) :
    Calls Tryz.prog 8 #[.pointer (some ⟨j, 0, none⟩), .string ⟨b.toArray⟩, .slice ad S.length ca, .string ⟨t.toArray⟩] w fun e w' => e = .returned (.tuple #[.int .i64 (keepJI J (comK, b, S, t, 0) : Int), errV (keepJE J (comK, b, S, t, 0))]) ∧ JTo w O j (keepJ J (comK, b, S, t, 0)) w' := by
  obtain ⟨r, s, bm, cv, OS, P, bv, hw, hO⟩ := h
  have H := jkeep_any w B j r s bm cv OS P bv J (comK, b, S, t, 0) ad ca hw hg hn hd ok_commit hL hB
  unfold KeepAnsJ valD at H
  have fin : Hid (∀ w', JTo w (JO j r bm cv OS P bv) j (keepJ J (comK, b, S, t, 0)) w' → JTo w O j (keepJ J (comK, b, S, t, 0)) w') := fun w' h => h.iff hO
  clear hw hg hn hd hL hB
  generalize keepJI J (comK, b, S, t, 0) = I at *
  generalize keepJE J (comK, b, S, t, 0) = E at *
  generalize keepJ J (comK, b, S, t, 0) = J' at *
  unfold comK at H
  go_enter Tryz.func8, Tryz.ntmps8
  go_wp2_with fail
  refine H.mono ?_
  rintro e w1 ⟨rfl, hto⟩
  have HT := hideO (fin.out _ hto)
  clear hto fin H
  dsimp only
  go_wp2_with fail
  exact bodyPost_ret (v := .tuple #[.int .i64 (I : Int), errV E]) (by unfold results; rw [Tryz.results8]; go_simp) rfl ⟨rfl, HT.out⟩
set_option maxHeartbeats 1000000 in
theorem JBranch_any (w : World) (B j : Nat) (O : Nat → Prop) (J : Jn) (b : List UInt8) (a : Int) (h : JAt w j O J) (hg : GoodJ J) (hn : J.ds.length ≤ 1000) (hb : b.length ≤ reachBytes) (h0 : -9223372036854775808 ≤ a) (h1 : a ≤ 9223372036854775807) (hL : ∀ W, RowKit.Below B w W → LaidN W) (hB : B ≤ w.heap.size) :
    Calls Tryz.prog 11 #[.pointer (some ⟨j, 0, none⟩), .string ⟨b.toArray⟩, .int .i64 a] w fun e w' => e = .returned (errV (keepJE J (brK, b, [], [], a))) ∧ JTo w O j (keepJ J (brK, b, [], [], a)) w' := by
  obtain ⟨r, s, bm, cv, OS, P, bv, hw, hO⟩ := h
  have H := jkeep_any w B j r s bm cv OS P bv J (brK, b, [], [], a) none 0 hw hg hn ⟨hb, by simp, fun h => absurd rfl h, fun _ h => (by cases h), by simp, by show brK.length ≤ 1000000; decide⟩ (ok_branch h0 h1) hL hB
  unfold KeepAnsJ valD at H
  have fin : Hid (∀ w', JTo w (JO j r bm cv OS P bv) j (keepJ J (brK, b, [], [], a)) w' → JTo w O j (keepJ J (brK, b, [], [], a)) w') := fun w' h => h.iff hO
  clear hw hg hn hL hB h0 h1
  generalize keepJI J (brK, b, [], [], a) = I at *
  generalize keepJE J (brK, b, [], [], a) = E at *
  generalize keepJ J (brK, b, [], [], a) = J' at *
  unfold brK at H
  go_enter Tryz.func11, Tryz.ntmps11
  go_wp2_with fail
  refine H.mono ?_
  rintro e w1 ⟨rfl, hto⟩
  have HT := hideO (fin.out _ hto)
  clear hto fin H
  dsimp only
  go_wp2_with fail
  exact bodyPost_ret (v := errV E) (by unfold results; rw [Tryz.results11]; go_simp) rfl ⟨rfl, HT.out⟩

/-- the struct alone has turned -/
theorem JW.turn {w w' : World} {j r s bm : Nat} {cv : Value} {OS P : Nat → Prop} {bv : Value} {J J' : Jn} (h : JW w j r s bm cv OS P bv J) (hj : JB w' j r bv J'.bytes J'.safe J'.ahead J'.stop) (hd : J'.ds = J.ds) (hk : But j w w') : JW w' j r s bm cv OS P bv J' :=
  ⟨hj, by rw [hd]; exact h.rp.keep fun i hi => hk.block i (h.rp.own i hi) (fun e => h.a1 (by injection e with e; subst e; exact hi)), h.a1, h.a2⟩
theorem JW.to {w w' : World} {j r s bm : Nat} {cv : Value} {OS P : Nat → Prop} {bv : Value} {J' : Jn} {O : Nat → Prop} (h : JW w' j r s bm cv OS P bv J') (hO : ∀ i, O i ↔ JO j r bm cv OS P bv i) (hk : But j w w') : JTo w O j J' w' := by
  exact ⟨O, ⟨r, s, bm, cv, OS, P, bv, h, hO⟩, Offs.of_grown hk fun k hk => by cases hk; exact (hO j).2 (Or.inl rfl), fun _ hi => Or.inl hi⟩
set_option maxHeartbeats 1000000 in
theorem JFail_any (w : World) (j : Nat) (O : Nat → Prop) (J : Jn) (n : Int) (h : JAt w j O J) :
    Calls Tryz.prog 6 #[.pointer (some ⟨j, 0, none⟩), .int .i64 n] w fun e w' => e = .returned (.tuple #[]) ∧ JTo w O j (failJ J n) w' := by
  obtain ⟨r, s, bm, cv, OS, P, bv, hw, hO⟩ := h
  obtain ⟨⟨c0, c1, c2, c3, c4⟩, fz⟩ := hw.jb.cells
  have f3 := fz 3
  have hlt := hw.jb.lt
  have fin : Hid (JTo w O j (failJ J n) (w.setCell ⟨j, 3, none⟩ (.int .i64 n))) := (hw.turn (J' := failJ J n) (hw.jb.set3 n) rfl (But.set _)).to hO (But.set _)
  clear fz hw hO
  go_enter Tryz.func6, Tryz.ntmps6
  go_wp2
  go_end0
  exact ⟨rfl, fin.out⟩
set_option maxHeartbeats 1000000 in
theorem JSync_any (w : World) (j : Nat) (O : Nat → Prop) (J : Jn) (h : JAt w j O J) (hg : GoodJ J) :
    Calls Tryz.prog 10 #[.pointer (some ⟨j, 0, none⟩)] w fun e w' => e = .returned (errV (syncE J)) ∧ JTo w O j (syncJ J) w' := by
  obtain ⟨r, s, bm, cv, OS, P, bv, hw, hO⟩ := h
  have H := stops_any w j r bv J.bytes J.safe J.ahead J.stop hw.jb hg.low hg.high
  cases hs : stepS J.ahead J.stop with
  | true =>
    have e1 : syncE J = 6 := by unfold syncE; rw [if_pos hs]
    have e2 : syncJ J = ⟨J.ds, J.half, J.sn, stepA J.ahead, true⟩ := by unfold syncJ; rw [if_pos hs]
    have fin : Hid (∀ w1, JB w1 j r bv J.bytes J.safe (stepA J.ahead) true → But j w w1 → JTo w O j (syncJ J) w1) := fun w1 h1 h2 => by
      rw [e2]
      exact (hw.turn (J' := ⟨J.ds, J.half, J.sn, stepA J.ahead, true⟩) h1 rfl h2).to hO h2
    rw [e1]
    unfold StopsAns at H
    rw [hs] at H
    clear hw hg e1 e2
    go_enter Tryz.func10, Tryz.ntmps10
    go_wp2_with fail
    refine H.mono ?_
    rintro e w1 ⟨rfl, h1, h2, h3⟩
    have F := hideO (fin.out w1 h1 h2)
    clear fin h1 h2 h3 H
    dsimp only
    go_wp2_with fail
    go_ret
    exact ⟨rfl, F.out⟩
  | false =>
    have e1 : syncE J = 0 := by unfold syncE; rw [hs]; rfl
    have e2 : syncJ J = ⟨J.ds, J.half, J.ds.length, stepA J.ahead, false⟩ := by unfold syncJ; rw [hs]; rfl
    have hst : J.stop = false := by
      unfold stepS at hs
      simp only [Bool.or_eq_false_iff] at hs
      exact hs.1
    have e3 : (⟨J.ds, J.half, J.ds.length, stepA J.ahead, false⟩ : Jn).safe = J.bytes.length := by
      unfold Jn.safe Jn.bytes
      rw [hg.whole hst]
      simp
    have fin : Hid (∀ w1, JB w1 j r bv J.bytes J.safe (stepA J.ahead) false → But j w w1 → JTo w O j (syncJ J) (w1.setCell ⟨j, 2, none⟩ (.int .i64 (J.bytes.length : Int)))) := fun w1 h1 h2 => by
      rw [e2]
      have hk : But j w (w1.setCell ⟨j, 2, none⟩ (.int .i64 (J.bytes.length : Int))) := h2.trans (But.set _)
      refine (hw.turn (J' := ⟨J.ds, J.half, J.ds.length, stepA J.ahead, false⟩) ?_ rfl hk).to hO hk
      rw [e3]
      exact h1.set2 J.bytes.length
    rw [e1]
    unfold StopsAns at H
    rw [hs] at H
    obtain ⟨av, cap, hbv⟩ := prow_form hw.jb.row
    subst hbv
    clear hw hg e1 e2 e3 hst
    generalize J.bytes = l at *
    go_enter Tryz.func10, Tryz.ntmps10
    go_wp2_with fail
    refine H.mono ?_
    rintro e w1 ⟨rfl, h1, h2, h3⟩
    have F := hideO (fin.out w1 h1 h2)
    obtain ⟨⟨c0, c1, c2, c3, c4⟩, fz⟩ := h1.cells
    have f2 := fz 2
    have hlt := h1.lt
    clear fin h1 h2 h3 H fz
    generalize l.length = n at *
    dsimp only
    go_wp2_with fail
    go_ret
    exact ⟨rfl, F.out⟩
set_option maxHeartbeats 1000000 in
theorem JNew_any (w : World) : Calls Tryz.prog 5 #[] w fun e w' => ∃ (j : Nat) (O : Nat → Prop), e = .returned (.pointer (some ⟨j, 0, none⟩)) ∧ JAt w' j O emptyJ ∧ RowKit.Below w.heap.size w w' ∧ ∀ i, O i → w.heap.size ≤ i := by
  have H := QNew_any w
  go_enter Tryz.func5, Tryz.ntmps5
  go_wp2_with fail
  refine H.mono ?_
  rintro e w1 ⟨r, OR, rfl, ⟨s, bm, cv, OS, P, hr, hOR⟩, hb1, hnew⟩
  have hb2 := balloc w1 (.cells #[.pointer (some ⟨r, 0, none⟩), .slice none 0 0, .int .i64 0, .int .i64 (-1), .bool false] 67)
  have F := hideO (show ∃ (j : Nat) (O : Nat → Prop), Ending.returned (.pointer (some ⟨w1.heap.size, 0, none⟩)) = .returned (.pointer (some ⟨j, 0, none⟩)) ∧ JAt (w1.alloc (.cells #[.pointer (some ⟨r, 0, none⟩), .slice none 0 0, .int .i64 0, .int .i64 (-1), .bool false] 67)) j O emptyJ ∧ RowKit.Below w.heap.size w (w1.alloc (.cells #[.pointer (some ⟨r, 0, none⟩), .slice none 0 0, .int .i64 0, .int .i64 (-1), .bool false] 67)) ∧ ∀ i, O i → w.heap.size ≤ i from by
    refine ⟨w1.heap.size, JO w1.heap.size r bm cv OS P (.slice none 0 0), rfl, ⟨r, s, bm, cv, OS, P, .slice none 0 0, ⟨⟨heap_alloc_new w1 _, World.ownsRow_nil _ _ _ _, fun e => by cases e⟩, hr.below hb2, fun hO => by have := hr.own _ hO; omega, fun g hg => by cases hg⟩, fun _ => Iff.rfl⟩, bstep hb1 hb2, fun i hi => ?_⟩
    rcases hi with rfl | hi | hi
    · exact hb1.size
    · cases hi
    · exact hnew i ((hOR i).2 hi))
  clear hb2 hr hOR hnew hb1 H
  dsimp only
  go_wp2_with fail
  go_ret
  exact F.out
set_option maxHeartbeats 1000000 in
theorem JBytes_any (w : World) (j : Nat) (O : Nat → Prop) (J : Jn) (h : JAt w j O J) :
    Calls Tryz.prog 15 #[.pointer (some ⟨j, 0, none⟩)] w fun e w' => e = .returned (.int .i64 (J.bytes.length : Int)) ∧ w' = w := by
  obtain ⟨r, s, bm, cv, OS, P, bv, hw, hO⟩ := h
  obtain ⟨⟨c0, c1, c2, c3, c4⟩, fz⟩ := hw.jb.cells
  obtain ⟨av, cap, hbv⟩ := prow_form hw.jb.row
  subst hbv
  clear hw hO fz
  go_enter Tryz.func15, Tryz.ntmps15
  go_wp2
  go_ret
  exact ⟨rfl, rfl⟩
set_option maxHeartbeats 1000000 in
theorem JSafe_any (w : World) (j : Nat) (O : Nat → Prop) (J : Jn) (h : JAt w j O J) :
    Calls Tryz.prog 16 #[.pointer (some ⟨j, 0, none⟩)] w fun e w' => e = .returned (.int .i64 (J.safe : Int)) ∧ w' = w := by
  obtain ⟨r, s, bm, cv, OS, P, bv, hw, hO⟩ := h
  obtain ⟨⟨c0, c1, c2, c3, c4⟩, fz⟩ := hw.jb.cells
  clear hw hO fz
  go_enter Tryz.func16, Tryz.ntmps16
  go_wp2
  go_ret
  exact ⟨rfl, rfl⟩
set_option maxHeartbeats 1000000 in
theorem JRepo_any (w : World) (j : Nat) (O : Nat → Prop) (J : Jn) (h : JAt w j O J) :
    Calls Tryz.prog 13 #[.pointer (some ⟨j, 0, none⟩)] w fun e w' => ∃ (r : Nat) (OR : Nat → Prop), e = .returned (.pointer (some ⟨r, 0, none⟩)) ∧ RepAt w r OR (playR J.ds) ∧ w' = w := by
  obtain ⟨r, s, bm, cv, OS, P, bv, hw, hO⟩ := h
  obtain ⟨⟨c0, c1, c2, c3, c4⟩, fz⟩ := hw.jb.cells
  have F := hideO (show RepAt w r (RpO r bm cv OS P) (playR J.ds) from ⟨s, bm, cv, OS, P, hw.rp, fun _ => Iff.rfl⟩)
  clear hw hO fz
  go_enter Tryz.func13, Tryz.ntmps13
  go_wp2
  go_ret
  exact ⟨r, _, rfl, F.out, rfl⟩
end Go.Proofs.YtnphjdckdkjopaaGreatDoor

/- strings.Cut at one sign. -/
namespace Go.Proofs.YtnphjdckdkjopaaGreatDoor
open Go Go.RowKit Go.Proofs
set_option synthInstance.maxSize 1000


theorem cutC_index (c : UInt8) : ∀ (l : List UInt8), (cutC c l = none ∧ Lib.indexByte l c = -1) ∨ ∃ x r, cutC c l = some (x, r) ∧ Lib.indexByte l c = (x.length : Int) ∧ l = x ++ c :: r
  | [] => Or.inl ⟨rfl, rfl⟩
  | d :: l => by
    by_cases h : d = c
    · subst h
      exact Or.inr ⟨[], l, by simp [cutC], by simp [Lib.indexByte], rfl⟩
    · have hb : (d == c) = false := by simpa using h
      rcases cutC_index c l with ⟨h1, h2⟩ | ⟨x, r, h1, h2, h3⟩
      · exact Or.inl ⟨by simp [cutC, h, h1], by simp [Lib.indexByte, hb, h2]⟩
      · refine Or.inr ⟨d :: x, r, by simp [cutC, h, h1], ?_, by rw [h3]; rfl⟩
        simp [Lib.indexByte, hb, h2]
set_option maxHeartbeats 2000000 in
set_option maxRecDepth 100000 in
theorem cutLiteC (c : UInt8) (l : List UInt8) (w : World) (hl : l.length ≤ 9223372036854775000) :
    Calls Tryz.prog 104 #[.string ⟨l.toArray⟩, .string ⟨#[c]⟩] w fun e w' => e = .returned (.tuple #[.string ⟨(cutV c l).1.toArray⟩, .string ⟨(cutV c l).2.1.toArray⟩, .bool (cutV c l).2.2]) ∧ RowKit.Below w.heap.size w w' := by
  have HI := Tryz.stringslite_Index_one ⟨l.toArray⟩ c w
  have hd : (⟨l.toArray⟩ : ByteArray).data.toList = l := rfl
  rw [hd] at HI
  have hsz : (⟨l.toArray⟩ : ByteArray).size = l.length := rfl
  rcases cutC_index c l with ⟨h1, h2⟩ | ⟨x, r, h1, h2, h3⟩
  · have e : Hid (cutV c l = (l, [], false)) := by show _ = _; unfold cutV; rw [h1]
    rw [h2] at HI
    rw [e.out]
    have t1 : decide ((-1 : Int) ≥ 0) = false := by decide
    clear h1 h2 e
    go_enter Tryz.func104, Tryz.ntmps104
    go_wp2_with fail
    refine HI.mono ?_
    rintro e w1 ⟨rfl, hw⟩
    have hw' := hw.symm
    subst hw'
    clear HI
    go_wp2_with fail
    exact bodyPost_ret (v := .tuple #[.string ⟨l.toArray⟩, .string ⟨#[]⟩, .bool false]) (by simp [results, Tryz.results104, go_sem]) rfl ⟨rfl, RowKit.Below.refl _ _⟩
  · have e : Hid (cutV c l = (x, r, true)) := by show _ = _; unfold cutV; rw [h1]
    rw [h2] at HI
    rw [e.out]
    have t1 : decide ((x.length : Int) ≥ 0) = true := by simp
    have hxl : x.length + 1 ≤ l.length := by rw [h3]; simp
    have w1 : IntKind.i64.wrap ((x.length : Int) + 1) = ((x.length + 1 : Nat) : Int) := by simp [IntKind.wrap, IntKind.bits, IntKind.signed]; omega
    have ex := takeX l x.length
    have ed := dropX l (x.length + 1)
    have ex2 : l.take x.length = x := by rw [h3]; simp
    have ed2 : l.drop (x.length + 1) = r := by rw [h3]; simp
    rw [ex2] at ex
    rw [ed2] at ed
    clear h1 h2 h3 e ex2 ed2
    go_enter Tryz.func104, Tryz.ntmps104
    go_wp2_with fail
    refine HI.mono ?_
    rintro e w2 ⟨rfl, hw⟩
    have hw' := hw.symm
    subst hw'
    clear HI
    go_wp2_with fail
    go_region
    go_wp2_with fail
    exact bodyPost_ret (v := .tuple #[.string ⟨x.toArray⟩, .string ⟨r.toArray⟩, .bool true]) (by simp [results, Tryz.results104, go_sem]) rfl ⟨rfl, (RowKit.Below.refl _ _).drew⟩
set_option maxHeartbeats 2000000 in
set_option maxRecDepth 100000 in
theorem cutAt_any (c : UInt8) (l : List UInt8) (w : World) (hl : l.length ≤ 9223372036854775000) :
    Calls Tryz.prog 75 #[.string ⟨l.toArray⟩, .string ⟨#[c]⟩] w fun e w' => e = .returned (.tuple #[.string ⟨(cutV c l).1.toArray⟩, .string ⟨(cutV c l).2.1.toArray⟩, .bool (cutV c l).2.2]) ∧ RowKit.Below w.heap.size w w' := by
  have HC := cutLiteC c l w hl
  generalize (cutV c l).1 = a at *
  generalize (cutV c l).2.1 = b at *
  generalize (cutV c l).2.2 = d at *
  go_enter Tryz.func75, Tryz.ntmps75
  go_wp2_with fail
  refine HC.mono ?_
  rintro e w2 ⟨rfl, hb2⟩
  have Hb2 := hideO hb2
  clear HC hb2
  dsimp only
  go_wp2_with fail
  exact bodyPost_ret (v := .tuple #[.string ⟨a.toArray⟩, .string ⟨b.toArray⟩, .bool d]) (by simp [results, Tryz.results75, go_sem]) rfl ⟨rfl, Hb2.out⟩
end Go.Proofs.YtnphjdckdkjopaaGreatDoor

/- journal's first, parse, replay: what was written is read again. -/
namespace Go.Proofs.YtnphjdckdkjopaaGreatDoor
open Go Go.RowKit Go.Proofs Go.Maps
set_option synthInstance.maxSize 1000

attribute [local go_sem] eql_errV neq_errV guard_errV

theorem cutV_short (c : UInt8) (l : List UInt8) : (cutV c l).1.length ≤ l.length ∧ (cutV c l).2.1.length ≤ l.length := by
  have := cutV_len c l
  omega
theorem cutV_room (c : UInt8) (l : List UInt8) (h : (cutV c l).2.1 ≠ []) : (cutV c l).1.length + 1 + (cutV c l).2.1.length = l.length := by
  unfold cutV at h ⊢
  cases hc : cutC c l with
  | none => rw [hc] at h; exact absurd rfl h
  | some a => obtain ⟨x, r⟩ := a; have := cutC_len hc; simp only; omega
/-- no number of bytes that would be below 0 -/
def NoNeg (b : List UInt8) : Prop := ∀ v, Lib.atoiAll (cutV 58 b).1 = .ok v → 0 ≤ v
theorem noneg_rec {d : Dd} (h : OkD d) (r : List UInt8) : NoNeg (recD d ++ r) := fun v hv => by
  have h1 := body_len h
  have e : cutV 58 (recD d ++ r) = (Lib.itoa (bodyD d).length, bodyD d ++ r, true) := by
    unfold recD
    rw [List.append_assoc, List.cons_append]
    exact cutV_word (itoa_no _ (by decide))
  rw [e] at hv
  rw [atoi_itoa (by omega) (by omega)] at hv
  injection hv with hv
  omega
theorem noneg_piece {p : List UInt8} (h : Piece p) : NoNeg p := by
  rcases h with rfl | ⟨d, k, h1, h2, rfl⟩
  · intro v hv
    have e : Lib.atoiAll (cutV 58 []).1 = Lib.atoiAll [] := rfl
    rw [e] at hv
    cases hv
  · intro v hv
    have hb := body_len h1
    have h3 : 6 ≤ (bodyD d).length := by
      unfold bodyD
      split
      · simp [brK]
      · simp [comK]
    by_cases hs : k ≤ (Lib.itoa (bodyD d).length).length
    · have e : (recD d).take k = (Lib.itoa (bodyD d).length).take k := by
        unfold recD
        exact List.take_append_of_le_length hs
      have hno : ∀ c ∈ (Lib.itoa (bodyD d).length).take k, c ≠ 58 := fun c hc => itoa_no _ (by decide) c (List.mem_of_mem_take hc)
      rw [e, cutV_none hno] at hv
      dsimp only at hv
      rw [itoa_nat] at hs hv
      rcases dec_piece _ _ (Nat.le_refl _) (by omega) k hs with rfl | ⟨m, m1, m2, m3⟩
      · rw [List.take_zero] at hv; cases hv
      · rw [m3, ← itoa_nat, atoi_itoa (by omega) (by omega)] at hv
        injection hv with hv
        omega
    · have e : (recD d).take k = Lib.itoa (bodyD d).length ++ 58 :: (bodyD d).take (k - (Lib.itoa (bodyD d).length).length - 1) := by
        unfold recD
        rw [List.take_append, List.take_of_length_le (by omega)]
        congr 1
        obtain ⟨j, hj⟩ : ∃ j, k - (Lib.itoa (bodyD d).length).length = j + 1 := ⟨k - (Lib.itoa (bodyD d).length).length - 1, by omega⟩
        rw [hj, List.take_succ_cons]
        rfl
      rw [e, cutV_word (itoa_no _ (by decide)), atoi_itoa (by omega) (by omega)] at hv
      injection hv with hv
      omega

set_option maxHeartbeats 4000000 in
set_option maxRecDepth 100000 in
theorem first_any (b : List UInt8) (w : World) (hb : b.length ≤ 1000000000) (hL : ∀ W, RowKit.Below w.heap.size w W → ErrsL W) (hn : NoNeg b) :
    Calls Tryz.prog 48 #[.string ⟨b.toArray⟩] w fun e w' => e = .returned (.tuple #[.string ⟨(firstD b).1.toArray⟩, .int .i64 ((firstD b).2 : Int)]) ∧ RowKit.Below w.heap.size w w' := by
  have hc := cutV_short 58 b
  have H1 := cutAt_any 58 b w (by omega)
  have H2 := fun W (hW : RowKit.Below w.heap.size w W) => atoiB (cutV 58 b).1 W (by omega) (hL W hW)
  have hro := cutV_room 58 b
  have hF : Hid ((∀ v, Lib.atoiAll (cutV 58 b).1 = .ok v → 0 ≤ v ∧ (((cutV 58 b).2.1.length : Int) < v → firstD b = ([], 0)) ∧ (v ≤ ((cutV 58 b).2.1.length : Int) → firstD b = ((cutV 58 b).2.1.take v.toNat, (cutV 58 b).1.length + 1 + v.toNat))) ∧ ((∀ v, Lib.atoiAll (cutV 58 b).1 ≠ .ok v) → firstD b = ([], 0))) := by
    refine ⟨fun v hv => ⟨hn v hv, fun h => ?_, fun h => ?_⟩, fun h => ?_⟩
    · unfold firstD; rw [hv]; dsimp only; rw [if_pos h]
    · unfold firstD; rw [hv]; dsimp only; rw [if_neg (by omega)]
    · unfold firstD
      split
      · rename_i v hv; exact absurd hv (h v)
      · rfl
  generalize firstD b = F at *
  generalize (cutV 58 b).2.2 = ok at *
  generalize (cutV 58 b).1 = D at *
  generalize (cutV 58 b).2.1 = T at *
  clear hn hL
  go_enter Tryz.func48, Tryz.ntmps48
  go_wp2_with fail
  refine H1.mono ?_
  rintro e w1 ⟨rfl, hb1⟩
  have HA := H2 w1 hb1
  have Hb1 := hideO hb1
  clear H1 H2 hb1
  dsimp only
  go_wp2_with fail
  refine HA.mono ?_
  rintro e w2 ⟨hb2', he⟩
  have Hb2 := hideO (bstep Hb1.out hb2')
  clear HA hb2' Hb1
  rcases he with ⟨v, hv, rfl⟩ | ⟨hno, v, T', pe, rfl⟩
  · obtain ⟨h0, q1, q2⟩ := hF.out.1 v hv
    by_cases hlt : ((T.length : Nat) : Int) < v
    · have eF := q1 hlt
      have HE := hideO eF
      have hgt : v > (T.length : Int) := hlt
      clear hF q1 q2 hv eF
      dsimp only
      go_wp2_with fail
      exact bodyPost_ret (v := .tuple #[.string ⟨#[]⟩, .int .i64 0]) (by unfold results; rw [Tryz.results48]; go_simp) rfl ⟨by rw [HE.out]; rfl, Hb2.out⟩
    · have HE := hideO (q2 (by omega))
      have hgt : ¬ v > (T.length : Int) := hlt
      obtain ⟨n, rfl⟩ : ∃ n : Nat, v = (n : Int) := ⟨v.toNat, by omega⟩
      have hnl : n ≤ T.length := by omega
      have ht := takeX T n
      have w1' : IntKind.i64.wrap ((D.length : Int) + 1) = ((D.length + 1 : Nat) : Int) := by simp [IntKind.wrap, IntKind.bits, IntKind.signed]; omega
      have w2' : IntKind.i64.wrap (((D.length + 1 : Nat) : Int) + (n : Int)) = ((D.length + 1 + n : Nat) : Int) := by simp [IntKind.wrap, IntKind.bits, IntKind.signed]; omega
      clear hF q1 q2 hv hlt hro
      dsimp only
      go_wp2_with fail
      exact bodyPost_ret (v := .tuple #[.string ⟨(T.take n).toArray⟩, .int .i64 ((D.length + 1 + n : Nat) : Int)]) (by unfold results; rw [Tryz.results48]; go_simp) rfl ⟨by rw [HE.out, Int.toNat_natCast], Hb2.out⟩
  · have HE := hideO (hF.out.2 hno)
    clear hF hno
    dsimp only
    go_wp2_with fail
    exact bodyPost_ret (v := .tuple #[.string ⟨#[]⟩, .int .i64 0]) (by unfold results; rw [Tryz.results48]; go_simp) rfl ⟨by rw [HE.out]; rfl, Hb2.out⟩
end Go.Proofs.YtnphjdckdkjopaaGreatDoor

/- journal's parse: of a record's body what was done. -/
namespace Go.Proofs.YtnphjdckdkjopaaGreatDoor
open Go Go.RowKit Go.Proofs Go.Maps
set_option synthInstance.maxSize 1000

attribute [local go_sem] eql_errV neq_errV guard_errV

def zeroD : Obj := .cells #[.string ⟨#[]⟩, .string ⟨#[]⟩, .slice none 0 0, .string ⟨#[]⟩, .int .i64 0] 71
theorem zeroD_box {w w1 : World} (hb : RowKit.Below (w.alloc zeroD).heap.size (w.alloc zeroD) w1) :
    (w1.cell? ⟨w.heap.size, 0, none⟩ = some (.string ⟨#[]⟩) ∧ w1.cell? ⟨w.heap.size, 1, none⟩ = some (.string ⟨#[]⟩) ∧ w1.cell? ⟨w.heap.size, 2, none⟩ = some (.slice none 0 0) ∧ w1.cell? ⟨w.heap.size, 3, none⟩ = some (.string ⟨#[]⟩) ∧ w1.cell? ⟨w.heap.size, 4, none⟩ = some (.int .i64 0)) ∧
    (w1.frozen? ⟨w.heap.size, 0, none⟩ = false ∧ w1.frozen? ⟨w.heap.size, 1, none⟩ = false ∧ w1.frozen? ⟨w.heap.size, 2, none⟩ = false ∧ w1.frozen? ⟨w.heap.size, 3, none⟩ = false ∧ w1.frozen? ⟨w.heap.size, 4, none⟩ = false) ∧ w.heap.size < w1.heap.size := by
  have hh : w1.heap[w.heap.size]? = some zeroD := (hb.block _ (by simp)).trans (heap_alloc_new w zeroD)
  unfold zeroD at hh
  refine ⟨⟨?_, ?_, ?_, ?_, ?_⟩, ⟨?_, ?_, ?_, ?_, ?_⟩, (Array.getElem?_eq_some_iff.1 hh).1⟩ <;> simp [World.cell?, World.frozen?, hh]
/-- what was stored in the box, and nothing old has turned -/
theorem below_box {w w1 : World} (hb : RowKit.Below w.heap.size w w1) (v0 v1 v2 v3 v4 : Value) : RowKit.Below w.heap.size w (((((w1.setCell ⟨w.heap.size, 0, none⟩ v0).setCell ⟨w.heap.size, 1, none⟩ v1).setCell ⟨w.heap.size, 2, none⟩ v2).setCell ⟨w.heap.size, 3, none⟩ v3).setCell ⟨w.heap.size, 4, none⟩ v4) :=
  ((((hb.setCell (p := ⟨w.heap.size, 0, none⟩) (Nat.le_refl _) v0).setCell (p := ⟨w.heap.size, 1, none⟩) (Nat.le_refl _) v1).setCell (p := ⟨w.heap.size, 2, none⟩) (Nat.le_refl _) v2).setCell (p := ⟨w.heap.size, 3, none⟩) (Nat.le_refl _) v3).setCell (p := ⟨w.heap.size, 4, none⟩) (Nat.le_refl _) v4

theorem box_far {w w3 : World} {ad : Option Addr} {S : List Tr} (hb : RowKit.Below (w.alloc zeroD).heap.size (w.alloc zeroD) w3) (hs : SlT w3 ad S) (hne : S ≠ []) {x : Addr} (hx : ad = some x) : x.block ≠ w.heap.size := by
  have hh : w3.heap[w.heap.size]? = some zeroD := (hb.block _ (by simp)).trans (heap_alloc_new w zeroD)
  obtain ⟨b, o, e, h1⟩ := hs hne
  rw [hx] at e
  cases e
  intro e
  have e : b = w.heap.size := e
  subst e
  have hpos := List.length_pos_iff.2 hne
  have hj : 8 < (cellsT S).length := by rw [cellsT_len]; omega
  have h2 := h1 8 _ (List.getElem?_eq_getElem hj)
  unfold zeroD at hh
  simp [World.cell?, hh] at h2
def ParseAns (w : World) (d : Dd) (e : Ending) (w' : World) : Prop := ∃ ad ca, e = .returned (.tuple #[valD d ad ca, .nilIface]) ∧ InD w' d ad ca ∧ RowKit.Below w.heap.size w w'
set_option maxHeartbeats 4000000 in
set_option maxRecDepth 100000 in
theorem jparse_any (d : Dd) (ho : OkD d) (w : World) (hL : ∀ W, RowKit.Below w.heap.size w W → ErrsL W) :
    Calls Tryz.prog 49 #[.string ⟨(bodyD d).toArray⟩] w (ParseAns w d) := by
  have hbl := body_len ho
  have hnl := name_short ho.name
  obtain ⟨k, n, S, m, a⟩ := d
  have hn := ho.name
  have hbz : RowKit.Below w.heap.size w (w.alloc zeroD) := balloc _ _
  rcases ho.kind with ⟨h1, h2, h3, h4, h5⟩ | ⟨h1, h2, h3, h4⟩
  · dsimp only at h1 h2 h3 h4 h5 hn hnl
    subst h1 h2 h3
    have e1 : cutV 32 (bodyD (brK, n, [], [], a)) = (brK, n ++ 32 :: Lib.itoa a, true) := by
      unfold bodyD
      rw [if_pos rfl]
      exact cutV_word (by decide)
    have e2 : cutV 32 (n ++ 32 :: Lib.itoa a) = (n, Lib.itoa a, true) := cutV_word (name_no hn (by decide))
    have il := itoa_len h4 h5
    have H1 := fun W => cutAt_any 32 (bodyD (brK, n, [], [], a)) W (by omega)
    have H2 := fun W => cutAt_any 32 (n ++ 32 :: Lib.itoa a) W (by simp only [List.length_append, List.length_cons]; omega)
    have H3 := fun W (hW : RowKit.Below w.heap.size w W) => atoiB (Lib.itoa a) W (by omega) (hL W hW)
    rw [e1] at H1
    rw [e2] at H2
    dsimp only at H1 H2
    have ha := atoi_itoa h4 h5
    rw [ha] at H3
    have fin : Hid (∀ w', RowKit.Below w.heap.size w w' → ParseAns w (brK, n, [], [], a) (.returned (.tuple #[.agg #[.string ⟨#[98, 114, 97, 110, 99, 104]⟩, .string ⟨n.toArray⟩, .slice none 0 0, .string ⟨#[]⟩, .int .i64 a], .nilIface])) w') := fun w' hb =>
      ⟨none, 0, rfl, ⟨by unfold reachBytes; dsimp only; omega, by simp, fun h => absurd rfl h, fun _ h => (by cases h), by simp, by show brK.length ≤ 1000000; decide⟩, hb⟩
    generalize bodyD (brK, n, [], [], a) = B at *
    generalize ParseAns w (brK, n, [], [], a) = G at *
    generalize Lib.itoa a = T at *
    generalize n ++ 32 :: T = T2 at *
    unfold brK at H1
    clear ho hL e1 e2 ha hn h4 h5
    go_enter Tryz.func49, Tryz.ntmps49
    go_wp2_with fail
    refine (H1 _).mono ?_
    rintro e w1 ⟨rfl, hb1⟩
    dsimp only
    go_wp2_with fail
    refine (H2 _).mono ?_
    rintro e w2 ⟨rfl, hb2'⟩
    have hb2 := bstep hb1 hb2'
    clear hb2' hb1
    dsimp only
    go_wp2_with fail
    refine (H3 _ (bstep hbz hb2)).mono ?_
    rintro e w3 ⟨hb3', he⟩
    have hb3 := bstep hb2 hb3'
    clear hb3' hb2
    obtain ⟨v, hv, rfl⟩ : ∃ v, a = v ∧ e = .returned (.tuple #[.int .i64 v, .nilIface]) := by
      rcases he with ⟨v, hv, he⟩ | ⟨hno, _⟩
      · injection hv with hv; exact ⟨v, hv, he⟩
      · exact absurd rfl (hno a)
    subst hv
    obtain ⟨⟨c0, c1, c2, c3, c4⟩, ⟨f0, f1, f2, f3, f4⟩, hz⟩ := zeroD_box hb3
    have F := hideO (fun v0 v1 v2 v3 v4 => fin.out _ (below_box (bstep hbz hb3) v0 v1 v2 v3 v4))
    clear fin H1 H2 H3 hb3 hbz he
    dsimp only
    go_wp2_with fail
    exact bodyPost_ret (v := .tuple #[.agg #[.string ⟨#[98, 114, 97, 110, 99, 104]⟩, .string ⟨n.toArray⟩, .slice none 0 0, .string ⟨#[]⟩, .int .i64 a], .nilIface]) (by unfold results; rw [Tryz.results49]; go_simp) rfl (F.out _ _ _ _ _)
  · dsimp only at h1 h2 h3 h4 hn hnl
    subst h1 h4
    have hk : ¬ comK = brK := by decide
    have e1 : cutV 32 (bodyD (comK, n, S, m, 0)) = (comK, n ++ 32 :: (m ++ 10 :: encS S), true) := by
      unfold bodyD
      rw [if_neg hk]
      exact cutV_word (by decide)
    have e2 : cutV 32 (n ++ 32 :: (m ++ 10 :: encS S)) = (n, m ++ 10 :: encS S, true) := cutV_word (name_no hn (by decide))
    have e3 : cutV 10 (m ++ 10 :: encS S) = (m, encS S, true) := cutV_word (msg_no10 h3)
    have ml := msg_len24 h3
    have sl := encS_len h2
    obtain ⟨b1, b2⟩ := back_set h2
    have H1 := fun W => cutAt_any 32 (bodyD (comK, n, S, m, 0)) W (by omega)
    have H2 := fun W => cutAt_any 32 (n ++ 32 :: (m ++ 10 :: encS S)) W (by simp only [List.length_append, List.length_cons]; omega)
    have H3 := fun W => cutAt_any 10 (m ++ 10 :: encS S) W (by simp only [List.length_append, List.length_cons]; omega)
    have H4 := fun W => ReadSet_any (encS S) W
    rw [e1] at H1
    rw [e2] at H2
    rw [e3] at H3
    rw [b1, b2] at H4
    dsimp only at H1 H2 H3
    have fin : Hid (∀ w3 ad ca v0 v1 v2 v3 v4, RowKit.Below (w.alloc zeroD).heap.size (w.alloc zeroD) w3 → SlT w3 ad S → ParseAns w (comK, n, S, m, 0) (.returned (.tuple #[.agg #[.string ⟨#[99, 111, 109, 109, 105, 116]⟩, .string ⟨n.toArray⟩, .slice ad S.length ca, .string ⟨m.toArray⟩, .int .i64 0], .nilIface])) (((((w3.setCell ⟨w.heap.size, 0, none⟩ v0).setCell ⟨w.heap.size, 1, none⟩ v1).setCell ⟨w.heap.size, 2, none⟩ v2).setCell ⟨w.heap.size, 3, none⟩ v3).setCell ⟨w.heap.size, 4, none⟩ v4)) := fun w3 ad ca v0 v1 v2 v3 v4 hb hs => by
      refine ⟨ad, ca, rfl, ⟨by unfold reachBytes; dsimp only; omega, by unfold reachBytes; dsimp only; omega, slT_block hs fun hne x hx => ?_, h2.fit, setLen h2, by show comK.length ≤ 1000000; decide⟩, below_box (bstep hbz hb) _ _ _ _ _⟩
      have hx' : x.block ≠ w.heap.size := box_far hb hs hne hx
      rw [heap_setCell_other _ _ _ _ hx', heap_setCell_other _ _ _ _ hx', heap_setCell_other _ _ _ _ hx', heap_setCell_other _ _ _ _ hx', heap_setCell_other _ _ _ _ hx']
    generalize bodyD (comK, n, S, m, 0) = B at *
    generalize ParseAns w (comK, n, S, m, 0) = G at *
    generalize encS S = T at *
    generalize m ++ 10 :: T = T3 at *
    generalize n ++ 32 :: T3 = T2 at *
    unfold comK at H1
    clear ho hL e1 e2 e3 hn h2 h3 hk b1 b2
    go_enter Tryz.func49, Tryz.ntmps49
    go_wp2_with fail
    refine (H1 _).mono ?_
    rintro e w1 ⟨rfl, hb1⟩
    dsimp only
    go_wp2_with fail
    refine (H2 _).mono ?_
    rintro e w2 ⟨rfl, hb2'⟩
    have hb2 := bstep hb1 hb2'
    clear hb2' hb1
    dsimp only
    go_wp2_with fail
    refine (H3 _).mono ?_
    rintro e w3 ⟨rfl, hb3'⟩
    have hb3 := bstep hb2 hb3'
    clear hb3' hb2
    dsimp only
    go_wp2_with fail
    refine (H4 _).mono ?_
    rintro e w4 ⟨hb4', ad, ca, rfl, hs⟩
    have hb4 := bstep hb3 hb4'
    clear hb4' hb3
    rw [show errV 0 = Value.nilIface from rfl]
    obtain ⟨⟨c0, c1, c2, c3, c4⟩, ⟨f0, f1, f2, f3, f4⟩, hz⟩ := zeroD_box hb4
    have F := hideO (fun v0 v1 v2 v3 v4 => fin.out w4 ad ca v0 v1 v2 v3 v4 hb4 hs)
    clear fin H1 H2 H3 H4 hb4 hbz hs
    generalize S.length = sl' at *
    dsimp only
    go_wp2_with fail
    exact bodyPost_ret (v := .tuple #[.agg #[.string ⟨#[99, 111, 109, 109, 105, 116]⟩, .string ⟨n.toArray⟩, .slice ad sl' ca, .string ⟨m.toArray⟩, .int .i64 0], .nilIface]) (by unfold results; rw [Tryz.results49]; go_simp) rfl (F.out _ _ _ _ _)
end Go.Proofs.YtnphjdckdkjopaaGreatDoor
