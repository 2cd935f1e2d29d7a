import Derived.Test.YtaddfndohoppeaaGreatDoorMCRepoPlaysx0
import Derived.Test.YtaddfndohoppeaaGreatDoorMA0x3
import Derived.Test.YtaddfndohoppeaaGreatDoorMCRepoPlaysx3
import Derived.Deep.RegionLaw
import Derived.RegionTactic
import Derived.BigQuiet
import Derived.Test.YtaddfndohoppeaaGreatDoorMA0x0
import Derived.LaidEql
import Derived.Stop.Asserts
import Derived.RowKitTokens
import Derived.Test.YtaddfndohoppeaaGreatDoorRows
import Derived.WalkKit
import Derived.Deep.QuietTactic
import Derived.Deep.DeepCutAuto
import Derived.Deep.CutBlock
import Derived.Deep.RegionHeld3

/- The document's repo (package strataref2): Branch, Drop. -/
namespace Go.Proofs.YtaddfndohoppeaaGreatDoor
open Go Go.RowKit Go.Proofs
set_option synthInstance.maxSize 1000

set_option maxHeartbeats 4000000 in
set_option maxRecDepth 100000 in
theorem RBranch_any (w : World) (B0 m : Nat) (v cv gv rv : Value) (R : Rp) (P : Nat → Prop) (b : List UInt8) (t : Int) (h : RepW w B0 m v cv gv rv R P) (hf : R.refs.length ≤ 100) (hb : b.length ≤ maxLen) :
    Calls Tryz.prog 10 #[.pointer (some ⟨m, 0, none⟩), .string ⟨b.toArray⟩, .int .i64 t] w fun e w' => e = .returned (.int .i64 (branchE R b t)) ∧ RepTo w B0 m (RepO m v cv gv rv P) (branchR R b t) w' := by
  have D0 := RName_any b w hb
  have D1 := RAtName_any m (m + 1) rv R.refs b w h.cells.2.2.1 h.ref (by omega)
  have D4 := RRoom_any m (m + 1) rv R b w h.cells.2.2.1 h.ref hf
  have D2 := fun k => RLead_any m (m + 1) rv R.refs b k w h.cells.2.2.1 h.cells.2.2.2.2.2 h.ref hf
  obtain ⟨c2, _⟩ := h.cells
  have hlt := h.lt
  obtain ⟨ad, cap, rfl⟩ := h.comForm
  have e1 : Hid (branchE R b t = if nameR b = false then 2 else if inR R t = false then 1 else if 0 ≤ atR R.refs b then 7 else if R.refs.length < 8 then 0 else 4) := rfl
  have e2 : Hid (branchR R b t = if branchE R b t ≠ 0 then R else leadTo R b t.toNat) := rfl
  have e4 : Hid (inR R t = decide (0 ≤ t ∧ t < R.coms.length)) := rfl
  have e5 : Hid (roomR R b = decide (0 ≤ atR R.refs b ∨ R.refs.length < 8)) := rfl
  have hsame : Hid (branchE R b t ≠ 0 → RepTo w B0 m (RepO m v (.slice ad R.coms.length cap) gv rv P) (branchR R b t) w) := fun q => by rw [e2.out, if_pos q]; exact RepTo.same h
  have hlead : Hid (branchE R b t = 0 → ∀ W v', RowKit.Below w.heap.size w W → W.ownsRow w.heap.size 84 2 v' (leadR R.refs b t.toNat).length (cellsF (leadR R.refs b t.toNat)) → RepTo w B0 m (RepO m v (.slice ad R.coms.length cap) gv rv P) (branchR R b t) (W.setCell ⟨m, 4, none⟩ v')) := fun q W v' h1 h2 => by
    rw [e2.out, if_neg (by simpa using q)]
    exact RepTo.lead h h1 h2
  clear h hb hf e2
  generalize RepTo w B0 m (RepO m v (.slice ad R.coms.length cap) gv rv P) (branchR R b t) = T at *
  generalize branchE R b t = me at *
  generalize roomR R b = rm at *
  generalize atR R.refs b = x at *
  cases hn : nameR b with
  | false =>
    rw [hn] at D0 e1
    obtain rfl : me = 2 := e1.out
    have hs := hideO (hsame.out (by decide))
    clear e1 hlead hsame D2 e4 e5 hn
    go_enter Tryz.func10, Tryz.ntmps10
    go_wp2_with (go_at_call 27; refine D0.mono ?_; rintro e w1 ⟨rfl, rfl⟩; dsimp only)
    go_ret
    exact ⟨rfl, hs.out⟩
  | true =>
    rw [hn] at D0 e1
    simp only [Bool.true_eq_false, if_false] at e1
    clear hn
    by_cases h3 : 0 ≤ t ∧ t < R.coms.length
    · rw [e4.out, decide_eq_true h3] at e1
      simp only [Bool.true_eq_false, if_false] at e1
      have h4 : ¬ t < 0 := by omega
      have h5 : ¬ t ≥ R.coms.length := by omega
      clear e4
      by_cases h6 : x ≥ 0
      · rw [if_pos h6] at e1
        obtain rfl : me = 7 := e1.out
        have hs := hideO (hsame.out (by decide))
        clear e1 hlead hsame D2 e5 h3
        go_enter Tryz.func10, Tryz.ntmps10
        go_wp2_with (first
          | (go_at_call 27; refine D0.mono ?_; rintro e w1 ⟨rfl, rfl⟩; dsimp only)
          | (go_at_call 31; refine D1.mono ?_; rintro e w1 ⟨rfl, rfl⟩; dsimp only))
        go_ret
        exact ⟨rfl, hs.out⟩
      · rw [if_neg h6] at e1
        by_cases h7 : R.refs.length < 8
        · rw [if_pos h7] at e1
          obtain rfl : me = 0 := e1.out
          obtain rfl : rm = true := by rw [e5.out]; exact decide_eq_true (Or.inr h7)
          have hl := hlead.out rfl
          obtain ⟨k, hk⟩ : ∃ k : Nat, t = (k : Int) := ⟨t.toNat, by omega⟩
          subst hk
          have D3 := D2 k
          simp only [Int.toNat_natCast] at hl
          have HL := hideO hl
          clear e1 h3 hl hlead hsame D2 e5 h7
          go_enter Tryz.func10, Tryz.ntmps10
          go_wp2_with (first
            | (go_at_call 27; refine D0.mono ?_; rintro e w1 ⟨rfl, rfl⟩; dsimp only)
            | (go_at_call 31; refine D1.mono ?_; rintro e w1 ⟨rfl, rfl⟩; dsimp only)
            | (go_at_call 30; refine D4.mono ?_; rintro e w1 ⟨rfl, rfl⟩; dsimp only)
            | (go_at_call 33; refine D3.mono ?_; rintro e w2 ⟨rfl, v', W, hb2, ho2, rfl⟩; dsimp only))
          go_ret
          exact ⟨rfl, HL.out _ _ hb2 ho2⟩
        · rw [if_neg h7] at e1
          obtain rfl : me = 4 := e1.out
          obtain rfl : rm = false := by rw [e5.out]; exact decide_eq_false (by omega)
          have hs := hideO (hsame.out (by decide))
          clear e1 hlead hsame D2 e5 h3 h7
          go_enter Tryz.func10, Tryz.ntmps10
          go_wp2_with (first
            | (go_at_call 27; refine D0.mono ?_; rintro e w1 ⟨rfl, rfl⟩; dsimp only)
            | (go_at_call 31; refine D1.mono ?_; rintro e w1 ⟨rfl, rfl⟩; dsimp only)
            | (go_at_call 30; refine D4.mono ?_; rintro e w1 ⟨rfl, rfl⟩; dsimp only))
          go_ret
          exact ⟨rfl, hs.out⟩
    · rw [e4.out, decide_eq_false h3] at e1
      obtain rfl : me = 1 := e1.out
      have hs := hideO (hsame.out (by decide))
      clear e1 hlead hsame D2 e4 e5
      by_cases h4 : t < 0
      · clear h3
        go_enter Tryz.func10, Tryz.ntmps10
        go_wp2_with (go_at_call 27; refine D0.mono ?_; rintro e w1 ⟨rfl, rfl⟩; dsimp only)
        go_ret
        exact ⟨rfl, hs.out⟩
      · have h5 : t ≥ R.coms.length := by omega
        clear h3
        go_enter Tryz.func10, Tryz.ntmps10
        go_wp2_with (go_at_call 27; refine D0.mono ?_; rintro e w1 ⟨rfl, rfl⟩; dsimp only)
        go_ret
        exact ⟨rfl, hs.out⟩

theorem drop_take {l : List Rf} {k : Nat} (hk : k < l.length) (b : List UInt8) : dropL (l.take (k + 1)) b = dropL (l.take k) b ++ if l[k].1 ≠ b then [l[k]] else [] := by
  unfold dropL
  rw [List.take_succ_eq_append_getElem hk, List.filter_append, List.filter_cons]
  by_cases e : l[k].1 = b
  · simp [e]
  · simp [e]
theorem drop_le (l : List Rf) (b : List UInt8) (k : Nat) : (dropL (l.take k) b).length ≤ k := by
  unfold dropL
  have h1 := List.length_filter_le (fun x : Rf => decide (x.1 ≠ b)) (l.take k)
  have h2 := List.length_take_le k l
  omega

set_option maxHeartbeats 8000000 in
set_option maxRecDepth 100000 in
theorem RDrop_any (w : World) (B0 m : Nat) (v cv gv rv : Value) (R : Rp) (P : Nat → Prop) (b : List UInt8) (h : RepW w B0 m v cv gv rv R P) (hf : R.refs.length ≤ 100) (hb : b.length ≤ maxLen) :
    Calls Tryz.prog 14 #[.pointer (some ⟨m, 0, none⟩), .string ⟨b.toArray⟩] w fun e w' => e = .returned (.int .i64 (headE R b)) ∧ RepTo w B0 m (RepO m v cv gv rv P) (dropR R b) w' := by
  have D1 := RHead_any w B0 m v cv gv rv R P b h hf hb
  have H := hideO h
  have e2 : Hid (dropR R b = if headE R b ≠ 0 then R else ⟨R.n, R.L, R.coms, R.gr, dropL R.refs b⟩) := rfl
  by_cases h1 : headE R b = 0
  · have hlead : Hid (∀ W v', RowKit.Below w.heap.size w W → W.ownsRow w.heap.size 84 2 v' (dropL R.refs b).length (cellsF (dropL R.refs b)) → RepTo w B0 m (RepO m v cv gv rv P) (dropR R b) (W.setCell ⟨m, 4, none⟩ v')) := fun W v' q1 q2 => by
      rw [e2.out, if_neg (by simpa using h1)]
      obtain ⟨r1, r2, r3⟩ := h.newRefs q1 q2
      exact ⟨v, cv, gv, v', P, r1, r2, r3⟩
    have hc := h.cells.2.2.1
    have hz := h.cells.2.2.2.2.2
    have hmz : m < w.heap.size := h.lt
    have HC : Hid (∀ W, RowKit.Below w.heap.size w W → W.cell? ⟨m, 4, none⟩ = some rv ∧ W.frozen? ⟨m, 4, none⟩ = false ∧ m < W.heap.size) := fun W hb => ⟨(hb.cell (p := ⟨m, 4, none⟩) hmz).trans hc, (hb.frozen (p := ⟨m, 4, none⟩) hmz).trans hz, by have := hb.size; omega⟩
    have Ho := hideO h.ref
    obtain ⟨ad, cap, rfl⟩ := ownF_form h.ref
    obtain ⟨i0', hi0, hz0, hz1, hz2⟩ := info_parts infoF
    rw [h1] at D1 ⊢
    clear h hb e2 hc hz h1 H
    generalize RepTo w B0 m (RepO m v cv gv (.slice ad R.refs.length cap) P) (dropR R b) = T at *
    generalize headI R b = hi at *
    generalize R.refs = l at *
    go_enter Tryz.func14, Tryz.ntmps14
    go_wp2_with (go_at_call 16; refine D1.mono ?_; rintro e w1 ⟨rfl, rfl⟩; dsimp only; clear D1)
    go_loopw [7, 8] (fun u i wr => ∃ (k : Nat), k ≤ l.length ∧ i = .int .i64 k ∧ Hid (wr.ownsRow w1.heap.size 84 2 u (dropL (l.take k) b).length (cellsF (dropL (l.take k) b))) ∧ Hid (RowKit.Below w1.heap.size w1 wr)) (fun _ i wr => l.length - (intOf i).toNat)
    case atStart => exact ⟨0, by omega, rfl, World.ownsRow_nil _ _ _ _, RowKit.Below.refl _ _⟩
    case round =>
      obtain ⟨k, hk, rfl, hu, hbr⟩ := hrel
      obtain ⟨cm, fm, zm⟩ := HC.out _ hbr.out
      have hsz := hbr.out.size
      by_cases hlt : k < l.length
      · obtain ⟨g, cap', e1, c0', c1'⟩ := ownF_at Ho.out k hlt
        obtain ⟨rfl, _, rfl⟩ := Value.slice.inj e1
        have hgz : g < w1.heap.size := World.block_lt_of_cell? w1 _ c0'
        have c0 : wr.cell? ⟨g, k * 2, none⟩ = some (.string ⟨l[k].1.toArray⟩) := (hbr.out.cell (p := ⟨g, k * 2, none⟩) hgz).trans c0'
        have c1 : wr.cell? ⟨g, k * 2 + 1, none⟩ = some (.int .i64 (l[k].2 : Int)) := (hbr.out.cell (p := ⟨g, k * 2 + 1, none⟩) hgz).trans c1'
        have i0 : (0 : Int) ≤ (k : Int) := by omega
        have i1 : (k : Int) < (l.length : Int) := by omega
        have hnx := drop_take hlt b
        have hle := drop_le l b k
        clear e1 c0' c1'
        generalize l[k] = x at *
        generalize dropL (l.take k) b = a at *
        by_cases hxb : x.1 = b
        · have hd : (x.1 == b) = true := by simpa using hxb
          rw [if_neg (by simpa using hxb), List.append_nil] at hnx
          have hfin := hideO hnx
          clear hnx hxb
          go_wp2_with fail
          go_roundw
          case rel => exact ⟨k + 1, by omega, by go_num, by rw [hfin.out]; exact hu, hbr⟩
          case measure => simp [intOf]; omega
        · have hd : (x.1 == b) = false := by simpa using hxb
          rw [if_pos hxb] at hnx
          have hfin := hideO hnx
          clear hnx hxb
          go_wp2_with (at_builtin; refine wpList_append_own _ rfl _ _ 32 rfl w1.heap.size 84 i0' (.agg #[.string ⟨#[]⟩, .int .i64 0]) 2 24 Tryz.underlying32 hi0 hz0 hz1 hz2 rfl (by decide) _ _ _ rfl (hu.out.alloc _) ⟨wr.heap.size, 0, none⟩ 1 1 (encF x) rfl rfl (newF wr x _) (oneF _) (by unfold maxLen; omega) (by omega) (by simp; omega) ?_)
          intro v' w7 h2 h3 _
          have hb7 : Hid (RowKit.Below w1.heap.size w1 w7) := (bstep hbr.out (balloc wr _)).grown h3 (by simp; omega) (fun j hj => (hu.out.lt j hj).1)
          have hu7 := hideO (ownF_push h2)
          clear h2 h3
          go_wp2_with fail
          go_roundw
          case rel => exact ⟨k + 1, by omega, by go_num, by rw [hfin.out]; exact hu7, hb7⟩
          case measure => simp [intOf]; omega
      · obtain rfl : k = l.length := by omega
        have Hu := hideO hu.out
        rw [List.take_length] at Hu
        have hu := hu.out
        rw [List.take_length] at hu
        obtain ⟨ud, uc, rfl⟩ := ownF_form hu
        clear hu
        go_wp2_with fail
        go_ret
        exact ⟨rfl, hlead.out _ _ hbr.out Hu.out⟩
  · have h1' : (headE R b != 0) = true := by simpa using h1
    have hs : Hid (RepTo w B0 m (RepO m v cv gv rv P) (dropR R b) w) := by show RepTo _ _ _ _ _ _; rw [e2.out, if_pos h1]; exact RepTo.same h
    clear h hb hf e2 h1
    generalize RepTo w B0 m (RepO m v cv gv rv P) (dropR R b) = T at *
    generalize headI R b = hi at *
    generalize headE R b = he at *
    go_enter Tryz.func14, Tryz.ntmps14
    go_wp2_with (go_at_call 16; refine D1.mono ?_; rintro e w1 ⟨rfl, rfl⟩; dsimp only)
    go_ret
    exact ⟨rfl, hs.out⟩
end Go.Proofs.YtaddfndohoppeaaGreatDoor

/- Both repos side by side, the document's and the program's. -/
namespace Go.Proofs.YtaddfndohoppeaaGreatDoor
open Go Go.RowKit Go.Proofs
set_option synthInstance.maxSize 1000

/-- five numbers in a block -/
def rowFive (V : List Int) : Obj := .cells (V.map (Value.int .i64)).toArray 35
def Num5 (W : World) (b : Nat) (V : List Int) : Prop := W.heap[b]? = some (rowFive V) ∧ V.length = 5
theorem Num5.keep {W W' : World} {b : Nat} {V : List Int} (h : Num5 W b V) (hb : W'.heap[b]? = W.heap[b]?) : Num5 W' b V := ⟨hb.trans h.1, h.2⟩
theorem Num5.lt {W : World} {b : Nat} {V : List Int} (h : Num5 W b V) : b < W.heap.size := (Array.getElem?_eq_some_iff.1 h.1).1
theorem Num5.cell {W : World} {b : Nat} {V : List Int} (h : Num5 W b V) {j : Nat} (hj : j < 5) : W.cell? ⟨b, j, none⟩ = some (.int .i64 (V.getD j 0)) ∧ W.frozen? ⟨b, j, none⟩ = false := by
  obtain ⟨h1, h2⟩ := h
  unfold rowFive at h1
  refine ⟨?_, ?_⟩
  · simp [World.cell?, h1, h2, hj]
  · simp [World.frozen?, h1]
theorem Num5.set {W : World} {b : Nat} {V : List Int} (h : Num5 W b V) (j : Nat) (z : Int) : Num5 (W.setCell ⟨b, j, none⟩ (.int .i64 z)) b (V.set j z) := by
  refine ⟨?_, by rw [List.length_set]; exact h.2⟩
  have := heap_setCell_same W b j _ _ (.int .i64 z) h.1
  rw [this]
  unfold rowFive
  congr 2
  apply Array.ext'
  simp [List.map_set]
theorem Num5.new (w : World) : Num5 (w.alloc (.cells #[.int .i64 0, .int .i64 0, .int .i64 0, .int .i64 0, .int .i64 0] 35)) w.heap.size [0, 0, 0, 0, 0] := by
  refine ⟨?_, rfl⟩
  show (w.heap.push _)[w.heap.size]? = _
  simp [rowFive]

/-- both repos: the document's is R1, the program's R2 -/
structure RBoth (F : RFace) (w0 : World) (r m : Nat) (R1 R2 : Rp) (v cv gv rv : Value) (P O : Nat → Prop) (W : World) : Prop where
  doc : RepW W w0.heap.size m v cv gv rv R1 P
  pro : F.At W r O R2
  low : RowKit.Below w0.heap.size w0 W
  high : ∀ j, O j → w0.heap.size ≤ j
  far : ∀ j, O j → ¬ RepO m v cv gv rv P j
section
variable {F : RFace} {w0 : World} {r m : Nat} {R1 R2 : Rp} {v cv gv rv : Value} {P O : Nat → Prop} {W W' : World}
theorem RBoth.below (h : RBoth F w0 r m R1 R2 v cv gv rv P O W) (hb : RowKit.Below W.heap.size W W') : RBoth F w0 r m R1 R2 v cv gv rv P O W' :=
  ⟨h.doc.below hb, F.below h.pro hb, bstep h.low hb, h.high, h.far⟩
theorem RBoth.ref {R1' : Rp} (h : RBoth F w0 r m R1 R2 v cv gv rv P O W) (hR : RepTo W w0.heap.size m (RepO m v cv gv rv P) R1' W') : ∃ v' cv' gv' rv' P', RBoth F w0 r m R1' R2 v' cv' gv' rv' P' O W' ∧ Offs (RepO m v cv gv rv P) W W' ∧ ∀ j, RepO m v' cv' gv' rv' P' j → RepO m v cv gv rv P j ∨ W.heap.size ≤ j := by
  obtain ⟨v', cv', gv', rv', P', h1, h2, h3⟩ := hR
  refine ⟨v', cv', gv', rv', P', ⟨h1, F.keep h.pro (fun j hj => h2.block j (F.own h.pro j hj) (h.far j hj)), h.low.trans (h2.below (fun j hj => Nat.le_trans h.doc.base (h.doc.own j hj).1) h.low.size), h.high, fun j hj hr => ?_⟩, h2, h3⟩
  rcases h3 j hr with hr | hr
  · exact h.far j hj hr
  · have := F.own h.pro j hj; omega
theorem RBoth.prog {R2' : Rp} {O' : Nat → Prop} (h : RBoth F w0 r m R1 R2 v cv gv rv P O W) (hA : F.At W' r O' R2') (ho : Offs O W W') (hn : ∀ j, O' j → O j ∨ W.heap.size ≤ j) : RBoth F w0 r m R1 R2' v cv gv rv P O' W' := by
  have hz := h.low.size
  refine ⟨h.doc.keep fun j hj => ho.block j ?_ ?_, hA, h.low.trans (ho.below h.high hz), fun j hj => ?_, fun j hj hr => ?_⟩
  · rcases hj with hj | hj
    · exact (h.doc.own j hj).2
    · omega
  · intro hO
    rcases hj with hj | hj
    · exact h.far j hO hj
    · have := h.high j hO; omega
  · rcases hn j hj with hj | hj
    · exact h.high j hj
    · omega
  · rcases hn j hj with hj | hj
    · exact h.far j hj hr
    · have := (h.doc.own j hr).2; omega
end

/-- both repos, and the block of five numbers -/
def RS (F : RFace) (w0 : World) (r m bv : Nat) (V : List Int) (R1 R2 : Rp) (W : World) : Prop :=
  ∃ (v cv gv rv : Value) (P O : Nat → Prop), RBoth F w0 r m R1 R2 v cv gv rv P O W ∧ Num5 W bv V ∧ ¬ O bv ∧ ¬ RepO m v cv gv rv P bv ∧ w0.heap.size ≤ bv
/-- both repos alone -/
def RB (F : RFace) (w0 : World) (r m : Nat) (R : Rp) (W : World) : Prop := ∃ (v cv gv rv : Value) (P O : Nat → Prop), RBoth F w0 r m R R v cv gv rv P O W
section
variable {F : RFace} {w0 : World} {r m bv : Nat} {V : List Int} {R1 R2 R : Rp} {W W' : World}
theorem RS.drop (h : RS F w0 r m bv V R R W) : RB F w0 r m R W := by
  obtain ⟨v, cv, gv, rv, P, O, h, _⟩ := h
  exact ⟨v, cv, gv, rv, P, O, h⟩
theorem RB.below (h : RB F w0 r m R W) (hb : RowKit.Below W.heap.size W W') : RB F w0 r m R W' := by
  obtain ⟨v, cv, gv, rv, P, O, h⟩ := h
  exact ⟨v, cv, gv, rv, P, O, h.below hb⟩
theorem RB.low (h : RB F w0 r m R W) : RowKit.Below w0.heap.size w0 W := by
  obtain ⟨v, cv, gv, rv, P, O, h⟩ := h
  exact h.low
theorem RB.box (h : RB F w0 r m R W) (hb : RowKit.Below W.heap.size W W') (hn : Num5 W' W.heap.size V) : RS F w0 r m W.heap.size V R R W' := by
  obtain ⟨v, cv, gv, rv, P, O, h⟩ := h
  refine ⟨v, cv, gv, rv, P, O, h.below hb, hn, fun hO => ?_, fun hR => ?_, h.low.size⟩
  · have := F.own h.pro _ hO; omega
  · have := (h.doc.own _ hR).2; omega
theorem RS.below (h : RS F w0 r m bv V R1 R2 W) (hb : RowKit.Below W.heap.size W W') : RS F w0 r m bv V R1 R2 W' := by
  obtain ⟨v, cv, gv, rv, P, O, h1, h2, h3⟩ := h
  exact ⟨v, cv, gv, rv, P, O, h1.below hb, h2.keep (hb.block _ h2.lt), h3⟩
theorem RS.low (h : RS F w0 r m bv V R1 R2 W) : RowKit.Below w0.heap.size w0 W := by
  obtain ⟨v, cv, gv, rv, P, O, h1, _⟩ := h
  exact h1.low
theorem RS.num (h : RS F w0 r m bv V R1 R2 W) : Num5 W bv V := by
  obtain ⟨v, cv, gv, rv, P, O, _, h2, _⟩ := h
  exact h2
theorem RS.set (h : RS F w0 r m bv V R1 R2 W) (j : Nat) (z : Int) : RS F w0 r m bv (V.set j z) R1 R2 (W.setCell ⟨bv, j, none⟩ (.int .i64 z)) := by
  obtain ⟨v, cv, gv, rv, P, O, h1, h2, h3, h4, h5⟩ := h
  have hk : ∀ k, k ≠ bv → (W.setCell ⟨bv, j, none⟩ (.int .i64 z)).heap[k]? = W.heap[k]? := fun k hk => heap_setCell_other _ _ _ _ hk
  refine ⟨v, cv, gv, rv, P, O, ⟨h1.doc.keep fun k hk' => hk k ?_, F.keep h1.pro (fun k hk' => hk k ?_), h1.low.setCell (p := ⟨bv, j, none⟩) h5 _, h1.high, h1.far⟩, h2.set j z, h3, h4, h5⟩
  · rintro rfl
    rcases hk' with hk' | hk'
    · exact h4 hk'
    · omega
  · rintro rfl
    exact h3 hk'
/-- a change of the document's repo -/
theorem RS.refTo {R1' : Rp} {v cv gv rv : Value} {P O : Nat → Prop} (h1 : RBoth F w0 r m R1 R2 v cv gv rv P O W) (h2 : Num5 W bv V) (h3 : ¬ O bv) (h4 : ¬ RepO m v cv gv rv P bv) (h5 : w0.heap.size ≤ bv) (hR : RepTo W w0.heap.size m (RepO m v cv gv rv P) R1' W') : RS F w0 r m bv V R1' R2 W' := by
  obtain ⟨v', cv', gv', rv', P', q1, q2, q3⟩ := h1.ref hR
  refine ⟨v', cv', gv', rv', P', O, q1, h2.keep (q2.block _ h2.lt h4), h3, fun hr => ?_, h5⟩
  rcases q3 _ hr with hr | hr
  · exact h4 hr
  · have := h2.lt; omega
theorem RS.progTo {R2' : Rp} {v cv gv rv : Value} {P O O' : Nat → Prop} (h1 : RBoth F w0 r m R1 R2 v cv gv rv P O W) (h2 : Num5 W bv V) (h3 : ¬ O bv) (h4 : ¬ RepO m v cv gv rv P bv) (h5 : w0.heap.size ≤ bv) (hA : F.At W' r O' R2') (ho : Offs O W W') (hn : ∀ j, O' j → O j ∨ W.heap.size ≤ j) : RS F w0 r m bv V R1 R2' W' := by
  refine ⟨v, cv, gv, rv, P, O', h1.prog hA ho hn, h2.keep (ho.block _ h2.lt h3), fun hr => ?_, h4, h5⟩
  rcases hn _ hr with hr | hr
  · exact h3 hr
  · have := h2.lt; omega
theorem RS.rcommit (b : List UInt8) (sd : Option Addr) (sc : Nat) (s : List Tr) (t : List UInt8) (h : RS F w0 r m bv V R1 R2 W) (hg : GoodR R1) (hb : b.length ≤ maxLen) (hs : SetIn w0 sd sc s) :
    Calls Tryz.prog 5 #[.pointer (some ⟨m, 0, none⟩), .string ⟨b.toArray⟩, .slice sd s.length sc, .string ⟨t.toArray⟩] W fun e W' => e = .returned (.tuple #[.int .i64 (commitI R1 b s t : Int), .int .i64 (commitE R1 b s t)]) ∧ RS F w0 r m bv V (commitR R1 b s t) R2 W' := by
  obtain ⟨v, cv, gv, rv, P, O, h1, h2, h3, h4, h5⟩ := h
  refine (RCommit_any W _ m v cv gv rv R1 P b sd sc s t h1.doc hg hb (hs.sl.below h1.low) hs.fit (by have := hs.len; unfold maxLen at this; omega) hs.low).mono ?_
  rintro e W' ⟨rfl, hR⟩
  exact ⟨rfl, RS.refTo h1 h2 h3 h4 h5 hR⟩
theorem RS.rjoin (b : List UInt8) (o : Int) (sd : Option Addr) (sc : Nat) (s : List Tr) (t : List UInt8) (h : RS F w0 r m bv V R1 R2 W) (hg : GoodR R1) (hb : b.length ≤ maxLen) (hs : SetIn w0 sd sc s) :
    Calls Tryz.prog 8 #[.pointer (some ⟨m, 0, none⟩), .string ⟨b.toArray⟩, .int .i64 o, .slice sd s.length sc, .string ⟨t.toArray⟩] W fun e W' => e = .returned (.tuple #[.int .i64 (joinI R1 b o s t : Int), .int .i64 (joinE R1 b o s t)]) ∧ RS F w0 r m bv V (joinR R1 b o s t) R2 W' := by
  obtain ⟨v, cv, gv, rv, P, O, h1, h2, h3, h4, h5⟩ := h
  refine (RJoin_any W _ m v cv gv rv R1 P b o sd sc s t h1.doc hg hb (hs.sl.below h1.low) hs.fit (by have := hs.len; unfold maxLen at this; omega) hs.low).mono ?_
  rintro e W' ⟨rfl, hR⟩
  exact ⟨rfl, RS.refTo h1 h2 h3 h4 h5 hR⟩
theorem RS.rbranch (b : List UInt8) (t : Int) (h : RS F w0 r m bv V R1 R2 W) (hg : GoodR R1) (hb : b.length ≤ maxLen) :
    Calls Tryz.prog 10 #[.pointer (some ⟨m, 0, none⟩), .string ⟨b.toArray⟩, .int .i64 t] W fun e W' => e = .returned (.int .i64 (branchE R1 b t)) ∧ RS F w0 r m bv V (branchR R1 b t) R2 W' := by
  obtain ⟨v, cv, gv, rv, P, O, h1, h2, h3, h4, h5⟩ := h
  refine (RBranch_any W _ m v cv gv rv R1 P b t h1.doc (by have := hg.few; omega) hb).mono ?_
  rintro e W' ⟨rfl, hR⟩
  exact ⟨rfl, RS.refTo h1 h2 h3 h4 h5 hR⟩
theorem RS.rmove (b : List UInt8) (f t : Int) (h : RS F w0 r m bv V R1 R2 W) (hg : GoodR R1) (hb : b.length ≤ maxLen) :
    Calls Tryz.prog 12 #[.pointer (some ⟨m, 0, none⟩), .string ⟨b.toArray⟩, .int .i64 f, .int .i64 t] W fun e W' => e = .returned (.int .i64 (moveE R1 b f t)) ∧ RS F w0 r m bv V (moveR R1 b f t) R2 W' := by
  obtain ⟨v, cv, gv, rv, P, O, h1, h2, h3, h4, h5⟩ := h
  refine (RMove_any W _ m v cv gv rv R1 P b f t h1.doc (by have := hg.few; omega) hb).mono ?_
  rintro e W' ⟨rfl, hR⟩
  exact ⟨rfl, RS.refTo h1 h2 h3 h4 h5 hR⟩
theorem RS.rdrop (b : List UInt8) (h : RS F w0 r m bv V R1 R2 W) (hg : GoodR R1) (hb : b.length ≤ maxLen) :
    Calls Tryz.prog 14 #[.pointer (some ⟨m, 0, none⟩), .string ⟨b.toArray⟩] W fun e W' => e = .returned (.int .i64 (headE R1 b)) ∧ RS F w0 r m bv V (dropR R1 b) R2 W' := by
  obtain ⟨v, cv, gv, rv, P, O, h1, h2, h3, h4, h5⟩ := h
  refine (RDrop_any W _ m v cv gv rv R1 P b h1.doc (by have := hg.few; omega) hb).mono ?_
  rintro e W' ⟨rfl, hR⟩
  exact ⟨rfl, RS.refTo h1 h2 h3 h4 h5 hR⟩
theorem RS.rhead (b : List UInt8) (h : RS F w0 r m bv V R1 R2 W) (hg : GoodR R1) (hb : b.length ≤ maxLen) :
    Calls Tryz.prog 16 #[.pointer (some ⟨m, 0, none⟩), .string ⟨b.toArray⟩] W fun e W' => e = .returned (.tuple #[.int .i64 (headI R1 b), .int .i64 (headE R1 b)]) ∧ W' = W := by
  obtain ⟨v, cv, gv, rv, P, O, h1, _⟩ := h
  exact RHead_any W _ m v cv gv rv R1 P b h1.doc (by have := hg.few; omega) hb
theorem RS.rget (id : Int) (h : RS F w0 r m bv V R1 R2 W) (hg : GoodR R1) :
    Calls Tryz.prog 24 #[.pointer (some ⟨m, 0, none⟩), .int .i64 id] W fun e W' => e = .returned (.tuple #[.string ⟨(objB R1.L id).toArray⟩, .int .i64 (objE R1.L id)]) ∧ W' = W := by
  obtain ⟨v, cv, gv, rv, P, O, h1, _⟩ := h
  refine (RGetX_any m v R1.n R1.L id W h1.doc.st (by have := hg.store.len; omega)).mono ?_
  rintro e W' ⟨rfl, rfl⟩
  refine ⟨?_, rfl⟩
  unfold objB objE gotVX
  cases getO R1.L id <;> rfl
theorem RS.commit (b : List UInt8) (sd : Option Addr) (sc : Nat) (s : List Tr) (t : List UInt8) (h : RS F w0 r m bv V R1 R2 W) (hg : GoodR R2) (hb : b.length ≤ F.lim) (ht : t.length ≤ F.lim) (hs : SetIn w0 sd sc s) :
    Calls Tryz.prog 6 #[.pointer (some ⟨r, 0, none⟩), .string ⟨b.toArray⟩, .slice sd s.length sc, .string ⟨t.toArray⟩] W fun e W' => e = .returned (.tuple #[.int .i64 (commitI R2 b s t : Int), errV (commitE R2 b s t)]) ∧ RS F w0 r m bv V R1 (commitR R2 b s t) W' := by
  obtain ⟨v, cv, gv, rv, P, O, h1, h2, h3, h4, h5⟩ := h
  refine (F.commit W r O R2 b sd sc s t h1.pro hg ⟨hs.sl.below h1.low, hs.cap, hs.fit, hs.len, fun hne d hd hO => by have h9 := hs.low hne d hd; have h8 := h1.high _ hO; omega⟩ hb ht).mono ?_
  rintro e W' ⟨rfl, O', hA, ho, hn⟩
  exact ⟨rfl, RS.progTo h1 h2 h3 h4 h5 hA ho hn⟩
theorem RS.join (b : List UInt8) (o : Int) (sd : Option Addr) (sc : Nat) (s : List Tr) (t : List UInt8) (h : RS F w0 r m bv V R1 R2 W) (hg : GoodR R2) (hb : b.length ≤ F.lim) (ht : t.length ≤ F.lim) (hs : SetIn w0 sd sc s) :
    Calls Tryz.prog 9 #[.pointer (some ⟨r, 0, none⟩), .string ⟨b.toArray⟩, .int .i64 o, .slice sd s.length sc, .string ⟨t.toArray⟩] W fun e W' => e = .returned (.tuple #[.int .i64 (joinI R2 b o s t : Int), errV (joinE R2 b o s t)]) ∧ RS F w0 r m bv V R1 (joinR R2 b o s t) W' := by
  obtain ⟨v, cv, gv, rv, P, O, h1, h2, h3, h4, h5⟩ := h
  refine (F.join W r O R2 b o sd sc s t h1.pro hg ⟨hs.sl.below h1.low, hs.cap, hs.fit, hs.len, fun hne d hd hO => by have h9 := hs.low hne d hd; have h8 := h1.high _ hO; omega⟩ hb ht).mono ?_
  rintro e W' ⟨rfl, O', hA, ho, hn⟩
  exact ⟨rfl, RS.progTo h1 h2 h3 h4 h5 hA ho hn⟩
theorem RS.branch (b : List UInt8) (t : Int) (h : RS F w0 r m bv V R1 R2 W) (hg : GoodR R2) (hb : b.length ≤ F.lim) :
    Calls Tryz.prog 11 #[.pointer (some ⟨r, 0, none⟩), .string ⟨b.toArray⟩, .int .i64 t] W fun e W' => e = .returned (errV (branchE R2 b t)) ∧ RS F w0 r m bv V R1 (branchR R2 b t) W' := by
  obtain ⟨v, cv, gv, rv, P, O, h1, h2, h3, h4, h5⟩ := h
  refine (F.branch W r O R2 b t h1.pro hg hb).mono ?_
  rintro e W' ⟨rfl, O', hA, ho, hn⟩
  exact ⟨rfl, RS.progTo h1 h2 h3 h4 h5 hA ho hn⟩
theorem RS.move (b : List UInt8) (f t : Int) (h : RS F w0 r m bv V R1 R2 W) (hg : GoodR R2) (hb : b.length ≤ F.lim) :
    Calls Tryz.prog 13 #[.pointer (some ⟨r, 0, none⟩), .string ⟨b.toArray⟩, .int .i64 f, .int .i64 t] W fun e W' => e = .returned (errV (moveE R2 b f t)) ∧ RS F w0 r m bv V R1 (moveR R2 b f t) W' := by
  obtain ⟨v, cv, gv, rv, P, O, h1, h2, h3, h4, h5⟩ := h
  refine (F.move W r O R2 b f t h1.pro hg hb).mono ?_
  rintro e W' ⟨rfl, O', hA, ho, hn⟩
  exact ⟨rfl, RS.progTo h1 h2 h3 h4 h5 hA ho hn⟩
theorem RS.dropB (b : List UInt8) (h : RS F w0 r m bv V R1 R2 W) (hg : GoodR R2) (hb : b.length ≤ F.lim) :
    Calls Tryz.prog 15 #[.pointer (some ⟨r, 0, none⟩), .string ⟨b.toArray⟩] W fun e W' => e = .returned (errV (headE R2 b)) ∧ RS F w0 r m bv V R1 (dropR R2 b) W' := by
  obtain ⟨v, cv, gv, rv, P, O, h1, h2, h3, h4, h5⟩ := h
  refine (F.drop W r O R2 b h1.pro hg hb).mono ?_
  rintro e W' ⟨rfl, O', hA, ho, hn⟩
  exact ⟨rfl, RS.progTo h1 h2 h3 h4 h5 hA ho hn⟩
theorem RS.head (b : List UInt8) (h : RS F w0 r m bv V R1 R2 W) (hg : GoodR R2) (hb : b.length ≤ F.lim) :
    Calls Tryz.prog 17 #[.pointer (some ⟨r, 0, none⟩), .string ⟨b.toArray⟩] W fun e W' => e = .returned (.tuple #[.int .i64 (headI R2 b), errV (headE R2 b)]) ∧ RowKit.Below W.heap.size W W' := by
  obtain ⟨v, cv, gv, rv, P, O, h1, _⟩ := h
  exact F.head W r O R2 b h1.pro hg hb
theorem RS.graph (a : Int) (h : RS F w0 r m bv V R1 R2 W) (hg : GoodR R2) :
    Calls Tryz.prog 18 #[.pointer (some ⟨r, 0, none⟩), .int .i64 a] W fun e W' => ∃ ad ca, e = .returned (.tuple #[.slice ad (graphL R2 a).length ca, errV (graphE R2 a)]) ∧ SlT W' ad (graphL R2 a) ∧ RowKit.Below W.heap.size W W' := by
  obtain ⟨v, cv, gv, rv, P, O, h1, _⟩ := h
  exact F.graph W r O R2 a h1.pro hg
theorem RS.refs (h : RS F w0 r m bv V R1 R2 W) (hg : GoodR R2) :
    Calls Tryz.prog 21 #[.pointer (some ⟨r, 0, none⟩)] W fun e W' => ∃ ad ca, e = .returned (.slice ad R2.refs.length ca) ∧ SlF W' ad R2.refs ∧ RowKit.Below W.heap.size W W' := by
  obtain ⟨v, cv, gv, rv, P, O, h1, _⟩ := h
  exact F.refs W r O R2 h1.pro hg
theorem RS.commits (h : RS F w0 r m bv V R1 R2 W) (hg : GoodR R2) :
    Calls Tryz.prog 23 #[.pointer (some ⟨r, 0, none⟩)] W fun e W' => ∃ ad ca, e = .returned (.slice ad R2.coms.length ca) ∧ SlC W' ad R2.coms ∧ RowKit.Below W.heap.size W W' := by
  obtain ⟨v, cv, gv, rv, P, O, h1, _⟩ := h
  refine (F.commits W r O R2 h1.pro hg).mono ?_
  rintro e W' ⟨ad, ca, h1, _, h2, _, h3⟩
  exact ⟨ad, ca, h1, h2, h3⟩
theorem RS.object (id : Int) (h : RS F w0 r m bv V R1 R2 W) (hg : GoodR R2) :
    Calls Tryz.prog 25 #[.pointer (some ⟨r, 0, none⟩), .int .i64 id] W fun e W' => e = .returned (.tuple #[.string ⟨(objB R2.L id).toArray⟩, errV (objE R2.L id)]) ∧ RowKit.Below W.heap.size W W' := by
  obtain ⟨v, cv, gv, rv, P, O, h1, _⟩ := h
  exact F.object W r O R2 id h1.pro hg
/-- the document's lists, read by the law itself -/
theorem RS.rows (h : RS F w0 r m bv V R1 R2 W) : ∃ ca cc ga gc ra rc, W.cell? ⟨m, 2, none⟩ = some (.slice ca R1.coms.length cc) ∧ W.cell? ⟨m, 3, none⟩ = some (.slice ga R1.gr.length gc) ∧ W.cell? ⟨m, 4, none⟩ = some (.slice ra R1.refs.length rc) ∧ SlC W ca R1.coms ∧ SlF W ra R1.refs ∧
    ∀ (i : Nat) (hi : i < R1.gr.length), ∃ g a c, ga = some ⟨g, 0, none⟩ ∧ W.cell? ⟨g, i, none⟩ = some (.slice a R1.gr[i].length c) ∧ SlT W a R1.gr[i] := by
  obtain ⟨v, cv, gv, rv, P, O, h1, _⟩ := h
  obtain ⟨c2, c3, c4, _⟩ := h1.doc.cells
  obtain ⟨ra, rc, rfl⟩ := ownF_form h1.doc.ref
  obtain ⟨ca, cc, rfl⟩ := h1.doc.comForm
  have hgf : ∃ ga gc, gv = .slice ga R1.gr.length gc := by
    obtain ⟨cs, hc, _⟩ := h1.doc.gr
    rcases hc.2 with ⟨rfl, h0⟩ | ⟨g, cap, cur, rfl, _⟩
    · exact ⟨none, 0, by rw [h0]⟩
    · exact ⟨_, cap, rfl⟩
  obtain ⟨ga, gc, rfl⟩ := hgf
  refine ⟨ca, cc, ga, gc, ra, rc, c2, c3, c4, fun hne => ?_, fun hne => ?_, fun i hi => ?_⟩
  · obtain ⟨cs, hc, hi⟩ := h1.doc.com
    rcases hc.2 with ⟨_, h0⟩ | ⟨g, cap, cur, e1, _⟩
    · exact absurd (List.eq_nil_of_length_eq_zero h0) hne
    · cases e1
      refine ⟨g, 0, rfl, fun i hlt => ?_⟩
      obtain ⟨a, c, q1, q2, q3, q4, _⟩ := hi i hlt
      refine ⟨a, c, ?_, ?_, ?_, q4⟩
      · have := hc.cells (g := g) rfl _ _ q1; rw [Addr.add_lit] at this; simpa using this
      · have := hc.cells (g := g) rfl _ _ q2; rw [Addr.add_lit] at this; simpa using this
      · have := hc.cells (g := g) rfl _ _ q3; rw [Addr.add_lit] at this; simpa using this
  · have hr := h1.doc.ref
    rcases hr.2 with ⟨_, h0⟩ | ⟨g, cap, cur, e1, _⟩
    · exact absurd (List.eq_nil_of_length_eq_zero h0) hne
    · cases e1
      refine ⟨g, 0, rfl, fun i hlt => ?_⟩
      obtain ⟨g', cap', e2, d0, d1⟩ := ownF_at hr i hlt
      cases e2
      exact ⟨by simpa using d0, by simpa using d1⟩
  · obtain ⟨cs, hc, hi2⟩ := h1.doc.gr
    obtain ⟨a, c, q1, q2, _⟩ := hi2 i hi
    rcases hc.2 with ⟨_, h0⟩ | ⟨g, cap, cur, e1, _⟩
    · omega
    · cases e1
      refine ⟨g, a, c, rfl, ?_, q2⟩
      have := hc.cells (g := g) rfl _ _ q1
      rw [Addr.add_lit] at this
      simpa using this
end
end Go.Proofs.YtaddfndohoppeaaGreatDoor

/- Package stratasame, of lists that are the same: Ints, Refs. -/
namespace Go.Proofs.YtaddfndohoppeaaGreatDoor
open Go Go.RowKit Go.Proofs
set_option synthInstance.maxSize 1000

set_option maxHeartbeats 4000000 in
set_option maxRecDepth 100000 in
theorem SInts_true (ad bd : Option Addr) (ca cb : Nat) (l : List Int) (w : World) (hl : SlI w ad l) (hm : SlI w bd l) (hn : l.length ≤ 1000000) :
    Calls Tryz.prog 45 #[.slice ad l.length ca, .slice bd l.length cb] w fun e w' => e = .returned (.bool true) ∧ RowKit.Below w.heap.size w w' := by
  have Hl := hideO (And.intro hl hm)
  clear hl hm
  go_enter Tryz.func45, Tryz.ntmps45
  go_wp2_with fail
  go_loopw [5] (fun i wr => ∃ (k : Nat), k ≤ l.length ∧ i = .int .i64 k ∧ Hid (RowKit.Below w.heap.size w wr)) (fun i wr => l.length - (intOf i).toNat)
  case atStart => exact ⟨0, by omega, rfl, RowKit.Below.refl _ _⟩
  case round =>
    obtain ⟨k, hk, rfl, hbr⟩ := hrel
    by_cases hlt : k < l.length
    · obtain ⟨b, o, rfl, c0⟩ := (Hl.out.1.below hbr.out).at hlt
      obtain ⟨b', o', rfl, c1⟩ := (Hl.out.2.below hbr.out).at hlt
      have i0 : (0 : Int) ≤ (k : Int) := by omega
      have i1 : (k : Int) < (l.length : Int) := by omega
      have hbd := hideO hbr.out.drew
      clear Hl
      generalize l[k] = x at *
      go_wp2_with fail
      go_region
      go_wp2_with fail
      go_roundw
      case rel => exact ⟨k + 1, by omega, by go_num, hbd⟩
      case measure => simp [intOf]; omega
    · obtain rfl : k = l.length := by omega
      go_wp2_with fail
      go_ret
      exact ⟨rfl, hbr.out⟩
set_option maxHeartbeats 4000000 in
set_option maxRecDepth 100000 in
theorem SRefs_true (ad bd : Option Addr) (ca cb : Nat) (l : List Rf) (w : World) (hl : SlF w ad l) (hm : SlF w bd l) (hn : l.length ≤ 1000000) :
    Calls Tryz.prog 20 #[.slice ad l.length ca, .slice bd l.length cb] w fun e w' => e = .returned (.bool true) ∧ RowKit.Below w.heap.size w w' := by
  have Hl := hideO (And.intro hl hm)
  clear hl hm
  go_enter Tryz.func20, Tryz.ntmps20
  go_wp2_with fail
  go_loopw [5] (fun i wr => ∃ (k : Nat), k ≤ l.length ∧ i = .int .i64 k ∧ Hid (RowKit.Below w.heap.size w wr)) (fun i wr => l.length - (intOf i).toNat)
  case atStart => exact ⟨0, by omega, rfl, RowKit.Below.refl _ _⟩
  case round =>
    obtain ⟨k, hk, rfl, hbr⟩ := hrel
    by_cases hlt : k < l.length
    · obtain ⟨b, o, rfl, c0, d0⟩ := (Hl.out.1.below hbr.out).at hlt
      obtain ⟨b', o', rfl, c1, d1⟩ := (Hl.out.2.below hbr.out).at hlt
      have i0 : (0 : Int) ≤ (k : Int) := by omega
      have i1 : (k : Int) < (l.length : Int) := by omega
      have hbd := hideO hbr.out.drew
      clear Hl
      generalize l[k] = x at *
      go_wp2_with fail
      go_region
      go_wp2_with fail
      go_roundw
      case rel => exact ⟨k + 1, by omega, by go_num, hbd⟩
      case measure => simp [intOf]; omega
    · obtain rfl : k = l.length := by omega
      go_wp2_with fail
      go_ret
      exact ⟨rfl, hbr.out⟩
end Go.Proofs.YtaddfndohoppeaaGreatDoor

/- Package stratasame, of commits that are the same. -/
namespace Go.Proofs.YtaddfndohoppeaaGreatDoor
open Go Go.RowKit Go.Proofs
set_option synthInstance.maxSize 1000

set_option maxHeartbeats 8000000 in
set_option maxRecDepth 100000 in
theorem SComs_true (ad bd : Option Addr) (ca cb : Nat) (l : List Cm) (w : World) (hl : SlC w ad l) (hm : SlC w bd l) (hn : l.length ≤ 1000000) (hp : ∀ x ∈ l, x.1.length ≤ 1000000) :
    Calls Tryz.prog 22 #[.slice ad l.length ca, .slice bd l.length cb] w fun e w' => e = .returned (.bool true) ∧ RowKit.Below w.heap.size w w' := by
  have Hl := hideO (And.intro hl hm)
  have Hp := hideO hp
  clear hl hm hp
  go_enter Tryz.func22, Tryz.ntmps22
  go_wp2_with fail
  go_loopw [5] (fun i wr => ∃ (k : Nat), k ≤ l.length ∧ i = .int .i64 k ∧ Hid (RowKit.Below w.heap.size w wr)) (fun i wr => l.length - (intOf i).toNat)
  case atStart => exact ⟨0, by omega, rfl, RowKit.Below.refl _ _⟩
  case round =>
    obtain ⟨k, hk, rfl, hbr⟩ := hrel
    by_cases hlt : k < l.length
    · obtain ⟨b, o, a, c, rfl, p1, p2, p3, p4⟩ := (Hl.out.1.below hbr.out).at hlt
      obtain ⟨b', o', a', c', rfl, q1, q2, q3, q4⟩ := (Hl.out.2.below hbr.out).at hlt
      have hx := Hp.out _ (List.getElem_mem hlt)
      have i0 : (0 : Int) ≤ (k : Int) := by omega
      have i1 : (k : Int) < (l.length : Int) := by omega
      have HC : Hid (∀ W, RowKit.Below wr.heap.size wr W → W.cell? ⟨b, o + k * 3 + 1, none⟩ = some (.int .i64 l[k].2.1) ∧ W.cell? ⟨b, o + k * 3 + 2, none⟩ = some (.string ⟨l[k].2.2.toArray⟩) ∧ W.cell? ⟨b', o' + k * 3 + 1, none⟩ = some (.int .i64 l[k].2.1) ∧ W.cell? ⟨b', o' + k * 3 + 2, none⟩ = some (.string ⟨l[k].2.2.toArray⟩)) := fun W hW =>
        ⟨(hW.cell (World.block_lt_of_cell? wr _ p2)).trans p2, (hW.cell (World.block_lt_of_cell? wr _ p3)).trans p3, (hW.cell (World.block_lt_of_cell? wr _ q2)).trans q2, (hW.cell (World.block_lt_of_cell? wr _ q3)).trans q3⟩
      have hdr : RowKit.Below wr.heap.size wr wr.drew := (RowKit.Below.refl _ _).drew
      have D := SInts_true a a' c c' l[k].1 wr.drew (p4.below hdr) (q4.below hdr) hx
      have hbd := hideO hbr.out.drew
      have hdr := hideO hdr
      clear Hl Hp p2 p3 p4 q2 q3 q4 hx
      generalize l[k].2.1 = y1 at *
      generalize l[k].2.2 = y2 at *
      generalize l[k].1 = y0 at *
      go_wp2_with fail
      go_region_law (go_simp; go_at_call 45; refine D.mono ?_; rintro e w4 ⟨rfl, hb4⟩; dsimp only)
      all_goals
        have hB4 := hideO (bstep hdr.out hb4)
        obtain ⟨s1, s2, s3, s4⟩ := HC.out _ hB4.out
        have hbd4 : Hid (∀ n, RowKit.Below w.heap.size w (w4.drewN n)) := fun n => (bstep hbr.out hB4.out).trans ⟨rfl, rfl, rfl, Nat.le_refl _, fun _ _ => rfl⟩
        have t1 : (y1 == y1) = true := by simp
        have t2 : (y2 == y2) = true := by simp
        clear hb4 hdr HC D hB4 p1 q1
        go_wp2_with fail
        go_quiet (fail)
        go_wp2_with fail
        go_roundw
      case rel => exact ⟨k + 1, by omega, by go_num, hbd4.out _⟩
      case measure => simp [intOf]; omega
      case rel => exact ⟨k + 1, by omega, by go_num, hbd4.out _⟩
      case measure => simp [intOf]; omega
    · obtain rfl : k = l.length := by omega
      go_wp2_with fail
      go_ret
      exact ⟨rfl, hbr.out⟩
end Go.Proofs.YtaddfndohoppeaaGreatDoor

/- errors.As at a target of type api.Errno, of an error that is one; plain.Told. Go's own text is walked; the facts are on the model's entries for internal/reflectlite at this program's types. -/
namespace Go.Proofs.YtaddfndohoppeaaGreatDoor
open Go Go.RowKit Go.Extern.Stop Go.Stop Go.Extern

theorem valueOfP (t : Addr) (w : World) : (ReflectliteValue.unpack (.iface 117 (.pointer (some t)))).run Tryz.prog w
    = .ok (.agg #[.pointer (some ⟨2, 117, none⟩), .pointer (some ⟨w.heap.size, 0, none⟩), .int .u64 150]) (w.alloc (.cells #[.pointer (some t)] 117)) := by kernel_rfl
theorem typeP (a : Addr) (w : World) : (ReflectliteValue.methodAny (ReflectliteValue.valueError "reflectlite.Value.Type" 0) (fun t _ _ _ => ReflectliteType.toType t) #[.agg #[.pointer (some ⟨2, 117, none⟩), .pointer (some a), .int .u64 150]]).run Tryz.prog w
    = .ok (.iface 179 (.agg #[.pointer (some ⟨2, 117, none⟩)])) w := by kernel_rfl
theorem kindP (w : World) : ((ReflectliteType.abiMethod fun t => (fun a : Nat => Value.int IntKind.u8 (a : Int)) <$> Rtype.kind t) #[.pointer (some ⟨2, 117, none⟩)]).run Tryz.prog w = .ok (.int .u8 22) w := by kernel_rfl
theorem kindE (w : World) : ((ReflectliteType.abiMethod fun t => (fun a : Nat => Value.int IntKind.u8 (a : Int)) <$> Rtype.kind t) #[.pointer (some ⟨2, 77, none⟩)]).run Tryz.prog w = .ok (.int .u8 2) w := by kernel_rfl
theorem methodKind (h : Value) (w : World) : (Go.method 376 179 (.agg #[h]) "Kind").run Tryz.prog w = .ok (208, h) w := by kernel_rfl
theorem methodElem (h : Value) (w : World) : (Go.method 376 179 (.agg #[h]) "Elem").run Tryz.prog w = .ok (218, .agg #[h]) w := by kernel_rfl
theorem methodImplements (h : Value) (w : World) : (Go.method 376 179 (.agg #[h]) "Implements").run Tryz.prog w = .ok (219, .agg #[h]) w := by kernel_rfl
theorem methodAssignableTo (h : Value) (w : World) : (Go.method 376 179 (.agg #[h]) "AssignableTo").run Tryz.prog w = .ok (216, .agg #[h]) w := by kernel_rfl
theorem rlm (z : Sem Value) (f : TypeId → Addr → Nat → Nat → Sem Value) (v : Value) :
    ReflectliteValue.method z f #[v] = (do match ← ReflectliteValue.parts v with | none => z | some (t, a, fl) => f t a fl (fl % 32)) := rfl
theorem partsP (a : Addr) (w : World) : (ReflectliteValue.parts (.agg #[.pointer (some ⟨2, 117, none⟩), .pointer (some a), .int .u64 150])).run Tryz.prog w = .ok (some (117, a, 150)) w := by kernel_rfl
theorem isNilP (a p : Addr) (W : World) (ha : W.cell? a = some (.pointer (some p))) :
    (ReflectliteValue.method (ReflectliteValue.valueError "reflectlite.Value.IsNil" 0) ReflectliteValue.isNil #[.agg #[.pointer (some ⟨2, 117, none⟩), .pointer (some a), .int .u64 150]]).run Tryz.prog W = .ok (.bool false) W := by
  rw [rlm]
  simp only [Sem.run_bind, partsP, Result.andThen]
  simp [ReflectliteValue.isNil, loadVar, isAgg, underlying, Tryz.underlying117, ha, Result.andThen]
theorem elemTP (w : World) : (ReflectliteType.method ReflectliteType.elem #[.agg #[.pointer (some ⟨2, 117, none⟩)]]).run Tryz.prog w = .ok (.iface 179 (.agg #[.pointer (some ⟨2, 77, none⟩)])) w := by kernel_rfl
theorem implementsE (w : World) : (ReflectliteType.relation "Implements" ReflectliteType.implements_ #[.agg #[.pointer (some ⟨2, 77, none⟩)], .iface 179 (.agg #[.pointer (some ⟨2, 41, none⟩)])]).run Tryz.prog w = .ok (.bool true) w := by kernel_rfl
theorem typeOfE (v : Value) (w : World) : (ReflectliteType.typeOf #[.iface 77 v]).run Tryz.prog w = .ok (.iface 179 (.agg #[.pointer (some ⟨2, 77, none⟩)])) w := by kernel_rfl
theorem assignableE (w : World) : (ReflectliteType.relation "AssignableTo" ReflectliteType.assignableTo #[.agg #[.pointer (some ⟨2, 77, none⟩)], .iface 179 (.agg #[.pointer (some ⟨2, 77, none⟩)])]).run Tryz.prog w = .ok (.bool true) w := by kernel_rfl
theorem valueOfE (n : Int) (w : World) : (ReflectliteValue.unpack (.iface 77 (.int .i64 n))).run Tryz.prog w
    = .ok (.agg #[.pointer (some ⟨2, 77, none⟩), .pointer (some ⟨w.heap.size, 0, none⟩), .int .u64 130]) (w.alloc (.cells #[.int .i64 n] 77)) := by kernel_rfl
theorem elemOfP (w : World) : (Rtype.elem? 117).run Tryz.prog w = .ok (some 77) w := by kernel_rfl
theorem mkE (p : Addr) (w : World) : (ReflectliteValue.mk 77 p ReflectliteValue.flagAddr).run Tryz.prog w = .ok (.agg #[.pointer (some ⟨2, 77, none⟩), .pointer (some p), .int .u64 386]) w := by kernel_rfl
theorem elemVP (a p : Addr) (W : World) (ha : W.cell? a = some (.pointer (some p))) :
    (ReflectliteValue.method (ReflectliteValue.valueError "reflectlite.Value.Elem" 0) ReflectliteValue.elem #[.agg #[.pointer (some ⟨2, 117, none⟩), .pointer (some a), .int .u64 150]]).run Tryz.prog W
      = .ok (.agg #[.pointer (some ⟨2, 77, none⟩), .pointer (some p), .int .u64 386]) W := by
  rw [rlm]
  simp only [Sem.run_bind, partsP, Result.andThen]
  simp [ReflectliteValue.elem, loadVar, isAgg, underlying, Tryz.underlying117, ha, Result.andThen, elemOfP, mkE]
theorem partsEa (a : Addr) (w : World) : (ReflectliteValue.parts (.agg #[.pointer (some ⟨2, 77, none⟩), .pointer (some a), .int .u64 386])).run Tryz.prog w = .ok (some (77, a, 386)) w := by kernel_rfl
theorem partsE (a : Addr) (w : World) : (ReflectliteValue.parts (.agg #[.pointer (some ⟨2, 77, none⟩), .pointer (some a), .int .u64 130])).run Tryz.prog w = .ok (some (77, a, 130)) w := by kernel_rfl
theorem directE (w : World) : (Rtype.directlyAssignable 77 77).run Tryz.prog w = .ok true w := by kernel_rfl
theorem setE (ta b : Addr) (n : Int) (old : Value) (W : World) (hb : W.cell? b = some (.int .i64 n)) (ht : W.cell? ta = some old) (hf : W.frozen? ta = false) :
    (ReflectliteValue.set #[.agg #[.pointer (some ⟨2, 77, none⟩), .pointer (some ta), .int .u64 386], .agg #[.pointer (some ⟨2, 77, none⟩), .pointer (some b), .int .u64 130]]).run Tryz.prog W
      = .ok (.tuple #[]) (W.setCell ta (.int .i64 n)) := by
  change Sem.run _ (ReflectliteValue.parts (.agg #[.pointer (some ⟨2, 77, none⟩), .pointer (some ta), .int .u64 386]) >>= fun p1 => ReflectliteValue.parts (.agg #[.pointer (some ⟨2, 77, none⟩), .pointer (some b), .int .u64 130]) >>= fun p2 => _) _ = _
  simp only [Sem.run_bind, partsEa, partsE, Result.andThen]
  simp [ReflectliteValue.flagAddr, loadVar, isAgg, underlying, Tryz.underlying77, hb, Result.andThen, directE, storeVar, Value.cells, storeCells, Addr.add]
  rw [run_store Tryz.prog W ta _ _ (by rfl)]
  simp [ht, hf]

end Go.Proofs.YtaddfndohoppeaaGreatDoor

/- errors.As at a target of type api.Errno, of an error that is one: Go's own text, walked; plain.Told. -/
namespace Go.Proofs.YtaddfndohoppeaaGreatDoor
open Go Go.RowKit Go.Extern.Stop Go.Stop Go.Extern

set_option maxHeartbeats 4000000 in
set_option maxRecDepth 100000 in
theorem as_hit (n : Int) (t : Addr) (old : Value) (w : World) (hg : w.cell? ⟨0, 0, none⟩ = some (.iface 179 (.agg #[.pointer (some ⟨2, 41, none⟩)]))) (ht0 : w.cell? t = some old) (hf0 : w.frozen? t = false) :
    Calls Tryz.prog 61 #[.iface 77 (.int .i64 n), .iface 117 (.pointer (some t))] w fun ev w' => ev = .returned (.bool true) ∧ w' = ((((w.alloc (.cells #[.pointer (some t)] 117)).alloc (.cells #[.pointer (some ⟨2, 117, none⟩), .pointer (some ⟨w.heap.size, 0, none⟩), .int .u64 150] 147)).alloc (.cells #[.pointer (some ⟨2, 117, none⟩), .pointer (some ⟨w.heap.size, 0, none⟩), .int .u64 150] 147)).alloc (.cells #[.int .i64 n] 77)).setCell t (.int .i64 n) := by
  have h1 := @run_callFunc_extern Tryz.prog 86 _ (fun args => ReflectliteValue.unpack (args.getD 0 (.tuple #[]))) Tryz.func86 (by kernel_rfl) (by kernel_rfl) (by kernel_rfl) (by kernel_rfl)
  have h2 := @run_callFunc_extern Tryz.prog 87 _ (ReflectliteValue.methodAny (ReflectliteValue.valueError "reflectlite.Value.Type" 0) (fun t _ _ _ => ReflectliteType.toType t)) Tryz.func87 (by kernel_rfl) (by kernel_rfl) (by kernel_rfl) (by kernel_rfl)
  have h3 := @run_callFunc_extern Tryz.prog 88 _ (ReflectliteValue.method (ReflectliteValue.valueError "reflectlite.Value.IsNil" 0) ReflectliteValue.isNil) Tryz.func88 (by kernel_rfl) (by kernel_rfl) (by kernel_rfl) (by kernel_rfl)
  have h4 := @run_callFunc_extern Tryz.prog 208 _ (ReflectliteType.abiMethod fun t => do pure (.int .u8 (← Rtype.kind t))) Tryz.func208 (by kernel_rfl) (by kernel_rfl) (by kernel_rfl) (by kernel_rfl)
  have h5 := @run_callFunc_extern Tryz.prog 218 _ (ReflectliteType.method ReflectliteType.elem) Tryz.func218 (by kernel_rfl) (by kernel_rfl) (by kernel_rfl) (by kernel_rfl)
  have h6 := @run_callFunc_extern Tryz.prog 219 _ (ReflectliteType.relation "Implements" ReflectliteType.implements_) Tryz.func219 (by kernel_rfl) (by kernel_rfl) (by kernel_rfl) (by kernel_rfl)
  have h7 := @run_callFunc_extern Tryz.prog 116 _ ReflectliteType.typeOf Tryz.func116 (by kernel_rfl) (by kernel_rfl) (by kernel_rfl) (by kernel_rfl)
  have h8 := @run_callFunc_extern Tryz.prog 216 _ (ReflectliteType.relation "AssignableTo" ReflectliteType.assignableTo) Tryz.func216 (by kernel_rfl) (by kernel_rfl) (by kernel_rfl) (by kernel_rfl)
  have h9 := @run_callFunc_extern Tryz.prog 117 _ (ReflectliteValue.method (ReflectliteValue.valueError "reflectlite.Value.Elem" 0) ReflectliteValue.elem) Tryz.func117 (by kernel_rfl) (by kernel_rfl) (by kernel_rfl) (by kernel_rfl)
  have h10 := @run_callFunc_extern Tryz.prog 118 _ ReflectliteValue.set Tryz.func118 (by kernel_rfl) (by kernel_rfl) (by kernel_rfl) (by kernel_rfl)
  have g1 := valueOfP
  have g2 := typeP
  have g3 := kindP
  have g4 := kindE
  have g5 := elemTP
  have g6 := implementsE
  have g7 := typeOfE
  have g8 := assignableE
  have g9 := valueOfE
  have m1 := methodKind
  have m2 := methodElem
  have m3 := methodImplements
  have m4 := methodAssignableTo
  have n8 := isNilP ⟨w.heap.size, 0, none⟩ t ((w.alloc (.cells #[.pointer (some t)] 117)).alloc (.cells #[.pointer (some ⟨2, 117, none⟩), .pointer (some ⟨w.heap.size, 0, none⟩), .int .u64 150] 147)) (by simp)
  have hlt : 0 < w.heap.size := by
    rcases Nat.eq_zero_or_pos w.heap.size with h0 | h
    · simp [World.cell?, h0] at hg
    · exact h
  have hg2 : ((w.alloc (.cells #[.pointer (some t)] 117)).alloc (.cells #[.pointer (some ⟨2, 117, none⟩), .pointer (some ⟨w.heap.size, 0, none⟩), .int .u64 150] 147)).cell? ⟨0, 0, none⟩ = some (.iface 179 (.agg #[.pointer (some ⟨2, 41, none⟩)])) := by
    rw [World.cell?_alloc_lt _ _ ⟨0, 0, none⟩ (by simp), World.cell?_alloc_lt _ _ ⟨0, 0, none⟩ hlt]; exact hg
  have htl : t.block < w.heap.size := by
    rcases Nat.lt_or_ge t.block w.heap.size with h | h
    · exact h
    · simp [World.cell?, Array.getElem?_eq_none h] at ht0
  have el := elemVP ⟨w.heap.size, 0, none⟩ t (((w.alloc (.cells #[.pointer (some t)] 117)).alloc (.cells #[.pointer (some ⟨2, 117, none⟩), .pointer (some ⟨w.heap.size, 0, none⟩), .int .u64 150] 147)).alloc (.cells #[.pointer (some ⟨2, 117, none⟩), .pointer (some ⟨w.heap.size, 0, none⟩), .int .u64 150] 147)) (by rw [World.cell?_alloc_lt _ _ ⟨w.heap.size, 0, none⟩ (by simp; omega)]; simp)
  have st := setE t ⟨w.heap.size + 1 + 1 + 1, 0, none⟩ n old ((((w.alloc (.cells #[.pointer (some t)] 117)).alloc (.cells #[.pointer (some ⟨2, 117, none⟩), .pointer (some ⟨w.heap.size, 0, none⟩), .int .u64 150] 147)).alloc (.cells #[.pointer (some ⟨2, 117, none⟩), .pointer (some ⟨w.heap.size, 0, none⟩), .int .u64 150] 147)).alloc (.cells #[.int .i64 n] 77))
    (by rw [World.cell?_alloc_at _ _ _ _ (by simp)]; rfl)
    (by rw [World.cell?_alloc_lt _ _ t (by simp; omega), World.cell?_alloc_lt _ _ t (by simp; omega), World.cell?_alloc_lt _ _ t (by simp; omega), World.cell?_alloc_lt _ _ t htl]; exact ht0)
    (by rw [World.frozen?_alloc_old _ _ t (by simp; omega), World.frozen?_alloc_old _ _ t (by simp; omega), World.frozen?_alloc_old _ _ t (by simp; omega), World.frozen?_alloc_old _ _ t (Nat.ne_of_lt htl)]; exact hf0)
  go_enter Tryz.func61, Tryz.ntmps61
  go_wp2
  refine wp_loop_rounds 1 ?_
  rw [rounds_succ]
  go_wp2
  go_ret
  exact ⟨rfl, rfl⟩

/-- the error type's variable, as the program lays it -/
def errVar (w : World) : Prop := w.cell? ⟨0, 0, none⟩ = some (.iface 179 (.agg #[.pointer (some ⟨2, 41, none⟩)]))

theorem errVar.below {w w' : World} (h : errVar w) (hb : Below w.heap.size w w') : errVar w' := by
  unfold errVar at *
  have hlt : 0 < w.heap.size := by
    rcases Nat.eq_zero_or_pos w.heap.size with h0 | h'
    · simp [World.cell?, h0] at h
    · exact h'
  rw [hb.cell (p := ⟨0, 0, none⟩) hlt]; exact h

theorem Told_nil (w : World) : Calls Tryz.prog 36 #[.nilIface] w fun e w' => e = .returned (.int .i64 0) ∧ Below w.heap.size w w' := by
  go_enter Tryz.func36, Tryz.ntmps36
  go_wp2
  go_ret
  exact ⟨rfl, Below.refl _ _⟩

set_option maxHeartbeats 1000000 in
theorem Told_hit (n : Int) (w : World) (hg : errVar w) : Calls Tryz.prog 36 #[.iface 77 (.int .i64 n)] w fun e w' => e = .returned (.int .i64 n) ∧ Below w.heap.size w w' := by
  have hgA := hg.below (balloc w (.cells #[.int .i64 0] 77))
  unfold errVar at hgA
  have htA : (w.alloc (.cells #[.int .i64 0] 77)).cell? ⟨w.heap.size, 0, none⟩ = some (.int .i64 0) := by simp
  have hfA : (w.alloc (.cells #[.int .i64 0] 77)).frozen? ⟨w.heap.size, 0, none⟩ = false := by simp
  go_enter Tryz.func36, Tryz.ntmps36
  go_wp2_with fail
  refine (as_hit n _ (.int .i64 0) _ hgA htA hfA).mono ?_
  rintro e w' ⟨rfl, rfl⟩
  go_wp2_with fail
  go_ret
  exact ⟨rfl, bstep (bstep (bstep (bstep (balloc _ _) (balloc _ _)) (balloc _ _)) (balloc _ _)) (balloc _ _)⟩

/-- stratasame.Error: is it the error of that number? -/
theorem SameError_any (m e : Int) (w : World) (hg : errVar w) : Calls Tryz.prog 7 #[errV m, .int .i64 e] w fun r w' => r = .returned (.bool (m == e)) ∧ Below w.heap.size w w' := by
  by_cases h : m = 0
  · subst h
    rw [show errV 0 = .nilIface from rfl]
    go_enter Tryz.func7, Tryz.ntmps7
    go_wp2_with (go_at_call 36; refine (Told_nil _).mono ?_; rintro e w1 ⟨rfl, hb⟩)
    go_ret
    exact ⟨rfl, hb⟩
  · rw [show errV m = .iface 77 (.int .i64 m) from if_neg h]
    go_enter Tryz.func7, Tryz.ntmps7
    go_wp2_with (go_at_call 36; refine (Told_hit m _ hg).mono ?_; rintro e w1 ⟨rfl, hb⟩)
    go_ret
    exact ⟨rfl, hb⟩
end Go.Proofs.YtaddfndohoppeaaGreatDoor

/- A law's code, in pieces. -/
namespace Go.Proofs.YtaddfndohoppeaaGreatDoor
open Go Go.Proofs

/-- the first region of a piece of code, and the piece that begins with one -/
def leftmost : Code → Option Nat
  | .region n _ _ => some n
  | .seq a _ => leftmost a
  | .block _ c => leftmost c
  | .loop c => leftmost c
  | .scope c => leftmost c
  | _ => none
def findAt (n : Nat) : Code → Option Code
  | .region m o b => if m = n then some (.region m o b) else none
  | .seq a b => if leftmost a = some n then some (.seq a b) else match findAt n a with
    | some c => some c
    | none => findAt n b
  | .block m c => if leftmost c = some n then some (.block m c) else findAt n c
  | .loop c => if leftmost c = some n then some (.loop c) else findAt n c
  | .scope c => if leftmost c = some n then some (.scope c) else findAt n c
  | .cond _ a b => match findAt n a with
    | some c => some c
    | none => findAt n b
  | _ => none
def codeOf (b : Option Code) (n : Nat) : Code := ((b.bind (findAt n)).getD .skip)
/-- a region alone -/
def regAt (n : Nat) : Code → Option Code
  | .region m o b => if m = n then some (.region m o b) else none
  | .seq a b => match regAt n a with
    | some c => some c
    | none => regAt n b
  | .block _ c => regAt n c
  | .loop c => regAt n c
  | .scope c => regAt n c
  | .cond _ a b => match regAt n a with
    | some c => some c
    | none => regAt n b
  | _ => none
def regOf (b : Option Code) (n : Nat) : Code := ((b.bind (regAt n)).getD .skip)
theorem go_on {P : Program} {c : Code} {Q0 : Exit → Act → World → Prop} {K : Act → World → Prop} {a : Act} {w : World} (h : ∀ a w, Code.wp P c Q0 a w → K a w) (hc : Code.wp P c Q0 a w) : K a w := h a w hc
end Go.Proofs.YtaddfndohoppeaaGreatDoor

/- RepoPlays' round, its end: branches, commits and an object are compared; the test. -/
namespace Go.Proofs.YtaddfndohoppeaaGreatDoor
open Go Go.RowKit Go.Proofs
set_option synthInstance.maxSize 1000

theorem SameErrorR (m : Int) (w : World) (hg : errVar w) : Calls Tryz.prog 7 #[errV m, .int .i64 m] w fun r w' => r = .returned (.bool true) ∧ RowKit.Below w.heap.size w w' := by
  have := SameError_any m m w hg
  rw [show (m == m) = true by simp] at this
  exact this
theorem RS.hold {F : RFace} {w0 : World} {r m bv : Nat} {V : List Int} {R1 R2 : Rp} {W W' : World} {u : Value} {a : Addr} (h : RS F w0 r m bv V R1 R2 W ∧ W.cell? a = some u) (hb : RowKit.Below W.heap.size W W') : RS F w0 r m bv V R1 R2 W' ∧ W'.cell? a = some u :=
  ⟨h.1.below hb, (hb.cell (World.block_lt_of_cell? W _ h.2)).trans h.2⟩
theorem SameComsR (ad bd : Option Addr) (ca cb : Nat) (l : List Cm) (w : World) (hG : GoodC l) (hl : SlC w ad l) (hm : SlC w bd l) :
    Calls Tryz.prog 22 #[.slice ad l.length ca, .slice bd l.length cb] w fun e w' => e = .returned (.bool true) ∧ RowKit.Below w.heap.size w w' :=
  SComs_true ad bd ca cb l w hl hm (by have := hG.1; omega) (fun c hc => by
    obtain ⟨j, hj, rfl⟩ := List.getElem_of_mem hc
    have h := hG.2 j hj
    unfold comN at h
    split at h
    · cases h
    · omega)
theorem belowDrew (W : World) : RowKit.Below W.heap.size W W.drew := ⟨rfl, rfl, rfl, Nat.le_refl _, fun _ _ => rfl⟩
theorem belowDrewN (W : World) (n : Nat) : RowKit.Below W.heap.size W (W.drewN n) := ⟨rfl, rfl, rfl, Nat.le_refl _, fun _ _ => rfl⟩
theorem neqSelfR (a : Int) (w : World) : (binOp .neq 3 (.int .i64 a) (.int .i64 a)).run Tryz.prog w = .ok (.bool false) w := by go_simp
theorem neqSelfT (a : ByteArray) (w : World) : (binOp .neq 9 (.string a) (.string a)).run Tryz.prog w = .ok (.bool false) w := by go_simp
attribute [local go_sem ↓] neqSelfR neqSelfT
set_option maxHeartbeats 32000000 in
set_option maxRecDepth 1000000 in
theorem rpEnd (F : RFace) (Q0 : Exit → Act → World → Prop) (u13 u14 u15 u16 u18 u19 u20 u21 u22 u23 u24 u25 u26 u27 u28 u30 u32 u34 u35 u38 u39 u40 u41 u42 u46 u47 u48 u49 u50 u51 u52 u53 u54 u55 u56 u57 u58 u59 u60 u61 u62 u63 u64 u65 u66 u67 u68 u69 u70 u71 u72 u73 u74 u75 u76 u77 u78 u79 u80 u81 u82 u83 u84 u85 u86 u87 u88 u89 u90 u91 u92 u93 u94 u95 u96 u97 u98 u99 u100 u101 u102 u103 u104 u105 u106 u107 u108 u109 u110 u111 u112 u113 u114 u115 u116 u117 u118 u119 u120 u121 u122 u123 u124 u125 u126 u127 u128 u129 u130 u131 u132 u133 u134 u135 u136 u137 u138 u139 u140 u141 u142 u143 u144 u145 u146 u147 u148 u149 u150 u151 u152 u153 u154 u155 u156 u157 u158 u159 u160 u161 u162 u163 u164 u165 u166 u167 u168 u169 u170 u171 u172 u173 u174 u175 u176 u177 u178 u179 u180 u181 u182 u183 u184 u185 u186 u187 u188 u189 u190 u191 u192 u193 u194 u195 u196 u197 u198 u199 u200 u201 u202 u203 u204 u205 u206 u207 u208 u209 u210 u211 u212 u213 u214 u215 u216 u217 u218 u219 u220 u221 u222 u223 u224 u225 u226 u227 u228 u229 u230 u231 u232 u233 u234 u235 u236 u237 u238 u239 u240 u241 u242 u243 u244 u245 u246 u247 u248 u249 u250 u251 u252 u253 u254 u255 u256 u257 u258 u259 u260 u261 u262 u263 u264 u265 u266 u267 u268 u269 u270 u271 u272 u273 u274 u275 u276 u277 u278 u279 u280 u281 u282 u283 u284 u285 u286 u287 u288 u289 u290 u291 u292 u293 u294 u295 u296 u297 u298 u299 u300 u301 u302 u303 u304 u305 u306 u307 u308 u309 u310 u311 u312 u313 u314 u315 u316 u317 u318 u319 u320 u321 u322 u323 u324 u325 u326 u327 u328 u329 u330 u331 u332 u333 u334 u335 u336 u337 u338 : Value) (c4 c5 c6 c7 c8 c43 c44 c45 : Value) (qd nd sd md : Option Addr) (cq nc sc mc nz nn ns nm k0 r m bv : Nat) (R : Rp) (V : List Int) (w W : World) (hd : Int)
    (hg : errVar w) (hG : GoodR R) (hst : RS F w r m bv V R R W)
    (hQ : ∀ (x12 x13 x14 x15 x16 x17 x18 x19 x20 x21 x22 x23 x24 x25 x26 x27 x28 x29 x30 x31 x32 x33 x34 x35 x36 x37 x38 x39 x40 x41 x42 x46 x47 x48 x49 x50 x51 x52 x53 x54 x55 x56 x57 x58 x59 x60 x61 x62 x63 x64 x65 x66 x67 x68 x69 x70 x71 x72 x73 x74 x75 x76 x77 x78 x79 x80 x81 x82 x83 x84 x85 x86 x87 x88 x89 x90 x91 x92 x93 x94 x95 x96 x97 x98 x99 x100 x101 x102 x103 x104 x105 x106 x107 x108 x109 x110 x111 x112 x113 x114 x115 x116 x117 x118 x119 x120 x121 x122 x123 x124 x125 x126 x127 x128 x129 x130 x131 x132 x133 x134 x135 x136 x137 x138 x139 x140 x141 x142 x143 x144 x145 x146 x147 x148 x149 x150 x151 x152 x153 x154 x155 x156 x157 x158 x159 x160 x161 x162 x163 x164 x165 x166 x167 x168 x169 x170 x171 x172 x173 x174 x175 x176 x177 x178 x179 x180 x181 x182 x183 x184 x185 x186 x187 x188 x189 x190 x191 x192 x193 x194 x195 x196 x197 x198 x199 x200 x201 x202 x203 x204 x205 x206 x207 x208 x209 x210 x211 x212 x213 x214 x215 x216 x217 x218 x219 x220 x221 x222 x223 x224 x225 x226 x227 x228 x229 x230 x231 x232 x233 x234 x235 x236 x237 x238 x239 x240 x241 x242 x243 x244 x245 x246 x247 x248 x249 x250 x251 x252 x253 x254 x255 x256 x257 x258 x259 x260 x261 x262 x263 x264 x265 x266 x267 x268 x269 x270 x271 x272 x273 x274 x275 x276 x277 x278 x279 x280 x281 x282 x283 x284 x285 x286 x287 x288 x289 x290 x291 x292 x293 x294 x295 x296 x297 x298 x299 x300 x301 x302 x303 x304 x305 x306 x307 x308 x309 x310 x311 x312 x313 x314 x315 x316 x317 x318 x319 x320 x321 x322 x323 x324 x325 x326 x327 x328 x329 x330 x331 x332 x333 x334 x335 x336 x337 x338 : Value) (W' : World), RB F w r m R W' → Q0 .normal ⟨#[.slice qd nz cq, .slice nd nn nc, .slice sd ns sc, .slice md nm mc, c4, c5, c6, c7, c8, .pointer (some ⟨r, 0, none⟩), .pointer (some ⟨m, 0, none⟩), .int .i64 (k0 : Int), x12, x13, x14, x15, x16, x17, x18, x19, x20, x21, x22, x23, x24, x25, x26, x27, x28, x29, x30, x31, x32, x33, x34, x35, x36, x37, x38, x39, x40, x41, x42, c43, c44, c45, x46, x47, x48, x49, x50, x51, x52, x53, x54, x55, x56, x57, x58, x59, x60, x61, x62, x63, x64, x65, x66, x67, x68, x69, x70, x71, x72, x73, x74, x75, x76, x77, x78, x79, x80, x81, x82, x83, x84, x85, x86, x87, x88, x89, x90, x91, x92, x93, x94, x95, x96, x97, x98, x99, x100, x101, x102, x103, x104, x105, x106, x107, x108, x109, x110, x111, x112, x113, x114, x115, x116, x117, x118, x119, x120, x121, x122, x123, x124, x125, x126, x127, x128, x129, x130, x131, x132, x133, x134, x135, x136, x137, x138, x139, x140, x141, x142, x143, x144, x145, x146, x147, x148, x149, x150, x151, x152, x153, x154, x155, x156, x157, x158, x159, x160, x161, x162, x163, x164, x165, x166, x167, x168, x169, x170, x171, x172, x173, x174, x175, x176, x177, x178, x179, x180, x181, x182, x183, x184, x185, x186, x187, x188, x189, x190, x191, x192, x193, x194, x195, x196, x197, x198, x199, x200, x201, x202, x203, x204, x205, x206, x207, x208, x209, x210, x211, x212, x213, x214, x215, x216, x217, x218, x219, x220, x221, x222, x223, x224, x225, x226, x227, x228, x229, x230, x231, x232, x233, x234, x235, x236, x237, x238, x239, x240, x241, x242, x243, x244, x245, x246, x247, x248, x249, x250, x251, x252, x253, x254, x255, x256, x257, x258, x259, x260, x261, x262, x263, x264, x265, x266, x267, x268, x269, x270, x271, x272, x273, x274, x275, x276, x277, x278, x279, x280, x281, x282, x283, x284, x285, x286, x287, x288, x289, x290, x291, x292, x293, x294, x295, x296, x297, x298, x299, x300, x301, x302, x303, x304, x305, x306, x307, x308, x309, x310, x311, x312, x313, x314, x315, x316, x317, x318, x319, x320, x321, x322, x323, x324, x325, x326, x327, x328, x329, x330, x331, x332, x333, x334, x335, x336, x337, x338], []⟩ W') :
    Code.wp Tryz.prog (codeOf Tryz.f3.body 54) Q0 ⟨#[.slice qd nz cq, .slice nd nn nc, .slice sd ns sc, .slice md nm mc, c4, c5, c6, c7, c8, .pointer (some ⟨r, 0, none⟩), .pointer (some ⟨m, 0, none⟩), .int .i64 (k0 : Int), .pointer (some ⟨bv, 0, none⟩), u13, u14, u15, u16, .bool true, u18, u19, u20, u21, u22, u23, u24, u25, u26, u27, u28, .int .i64 hd, u30, .int .i64 hd, u32, .bool true, u34, u35, .bool true, .bool true, u38, u39, u40, u41, u42, c43, c44, c45, u46, u47, u48, u49, u50, u51, u52, u53, u54, u55, u56, u57, u58, u59, u60, u61, u62, u63, u64, u65, u66, u67, u68, u69, u70, u71, u72, u73, u74, u75, u76, u77, u78, u79, u80, u81, u82, u83, u84, u85, u86, u87, u88, u89, u90, u91, u92, u93, u94, u95, u96, u97, u98, u99, u100, u101, u102, u103, u104, u105, u106, u107, u108, u109, u110, u111, u112, u113, u114, u115, u116, u117, u118, u119, u120, u121, u122, u123, u124, u125, u126, u127, u128, u129, u130, u131, u132, u133, u134, u135, u136, u137, u138, u139, u140, u141, u142, u143, u144, u145, u146, u147, u148, u149, u150, u151, u152, u153, u154, u155, u156, u157, u158, u159, u160, u161, u162, u163, u164, u165, u166, u167, u168, u169, u170, u171, u172, u173, u174, u175, u176, u177, u178, u179, u180, u181, u182, u183, u184, u185, u186, u187, u188, u189, u190, u191, u192, u193, u194, u195, u196, u197, u198, u199, u200, u201, u202, u203, u204, u205, u206, u207, u208, u209, u210, u211, u212, u213, u214, u215, u216, u217, u218, u219, u220, u221, u222, u223, u224, u225, u226, u227, u228, u229, u230, u231, u232, u233, u234, u235, u236, u237, u238, u239, u240, u241, u242, u243, u244, u245, u246, u247, u248, u249, u250, u251, u252, u253, u254, u255, u256, u257, u258, u259, u260, u261, u262, u263, u264, u265, u266, u267, u268, u269, u270, u271, u272, u273, u274, u275, u276, u277, u278, u279, u280, u281, u282, u283, u284, u285, u286, u287, u288, u289, u290, u291, u292, u293, u294, u295, u296, u297, u298, u299, u300, u301, u302, u303, u304, u305, u306, u307, u308, u309, u310, u311, u312, u313, u314, u315, u316, u317, u318, u319, u320, u321, u322, u323, u324, u325, u326, u327, u328, u329, u330, u331, u332, u333, u334, u335, u336, u337, u338], []⟩ W := by
  have HQ : Hid _ := hQ
  have HRf := fun W (h : RS F w r m bv V R R W) => h.refs hG
  have HCm := fun W (h : RS F w r m bv V R R W) => h.commits hG
  have HGt := fun W (h : RS F w r m bv V R R W) => h.rget (V.getD 4 0) hG
  have HOb := fun W (h : RS F w r m bv V R R W) => h.object (V.getD 4 0) hG
  have HE := fun e W (h : RS F w r m bv V R R W) => SameErrorR e W (hg.below h.low)
  have HRows := fun W (h : RS F w r m bv V R R W) => h.rows
  have HNum := fun W (h : RS F w r m bv V R R W) => h.num.cell (j := 4) (by omega)
  have hfew : R.refs.length ≤ 1000000 := by have := hG.few; omega
  have hcs := hideO hG.coms
  have Hst := hideO hst
  have Hrows := hideO HRows
  have Hnum := hideO HNum
  clear hQ hg hst HRows HNum hG
  conv => arg 2; whnf
  dsimp only
  obtain ⟨_, _, _, _, ra, rc, _, _, c4, _, hF, _⟩ := Hrows.out _ Hst.out
  have hF0 : Hid (SlF W.drew ra R.refs) := hF
  have hS1 : RS F w r m bv V R R W.drew ∧ W.drew.cell? ⟨m, 4, none⟩ = some (.slice ra R.refs.length rc) := ⟨Hst.out.below (belowDrew W), c4⟩
  have Hst0 := hideO hS1.1
  clear hF c4
  go_wp2_with fail
  go_cut [38] from 270 to 276 (fun v W' => v = .bool true ∧ Hid (RS F w r m bv V R R W'))
  case first =>
    go_region_held3 (fun W' => RS F w r m bv V R R W' ∧ W'.cell? ⟨m, 4, none⟩ = some (.slice ra R.refs.length rc)) (first | exact RS.hold (by assumption) hb2 | exact RS.hold (by assumption) hb1 | assumption) (first
      | (go_simp; go_at_call 21; refine (HRf _ (And.left (by assumption))).mono ?_; rintro e w1 ⟨fd, fc, rfl, hf, hb1⟩; dsimp only)
      | (go_simp; go_at_call 20; refine (SRefs_true fd ra fc rc R.refs _ hf (hF0.out.below hb1) hfew).mono ?_; rintro e w2 ⟨rfl, hb2⟩; dsimp only))
    all_goals go_wp2_with fail
    all_goals go_meet
    all_goals exact ⟨rfl, (Hst0.out.below hb1).below hb2⟩
  case rest =>
    obtain ⟨rfl, hst2⟩ := hcut
    obtain ⟨W2, hW2, Hst2⟩ : ∃ W2, W2 = _ ∧ Hid (RS F w r m bv V R R W2) := ⟨_, rfl, hst2⟩
    subst hW2
    clear hst2 Hst0 hS1 hF0 HRf
    obtain ⟨ca, cc, _, _, _, _, c2, _, _, hC, _⟩ := Hrows.out _ Hst2.out
    have hC0 : Hid (SlC W2.drew ca R.coms) := hC
    have hS1 : RS F w r m bv V R R W2.drew ∧ W2.drew.cell? ⟨m, 2, none⟩ = some (.slice ca R.coms.length cc) := ⟨Hst2.out.below (belowDrew W2), c2⟩
    have Hst0 := hideO hS1.1
    clear hC c2
    go_wp2_with fail
    go_cut [39] from 277 to 283 (fun v W' => v = .bool true ∧ Hid (RS F w r m bv V R R W'))
    case first =>
      go_region_held3 (fun W' => RS F w r m bv V R R W' ∧ W'.cell? ⟨m, 2, none⟩ = some (.slice ca R.coms.length cc)) (first | exact RS.hold (by assumption) hb2 | exact RS.hold (by assumption) hb1 | assumption) (first
        | (go_simp; go_at_call 23; refine (HCm _ (And.left (by assumption))).mono ?_; rintro e w1 ⟨fd, fc, rfl, hf, hb1⟩; dsimp only)
        | (go_simp; go_at_call 22; refine (SameComsR fd ca fc cc R.coms _ hcs.out hf (hC0.out.below hb1)).mono ?_; rintro e w2 ⟨rfl, hb2⟩; dsimp only))
      all_goals go_wp2_with fail
      all_goals go_meet
      all_goals exact ⟨rfl, (Hst0.out.below hb1).below hb2⟩
    case rest =>
      obtain ⟨rfl, hst3⟩ := hcut
      obtain ⟨W3, hW3, Hst3⟩ : ∃ W3, W3 = _ ∧ Hid (RS F w r m bv V R R W3) := ⟨_, rfl, hst3⟩
      subst hW3
      clear hst3 Hst0 hS1 hC0 HCm Hst2
      obtain ⟨n4, _⟩ := Hnum.out _ Hst3.out
      have HGd := hideO (fun n => HGt (W3.drewN n) (Hst3.out.below (belowDrewN W3 n)))
      generalize objB R.L (V.getD 4 0) = oB at *
      generalize objE R.L (V.getD 4 0) = oE at *
      clear HGt
      go_wp2_with fail
      go_quiet (first | (go_at_call 24; refine Calls.quiet_of_same (HGd.out _)))
      have Hst4 := hideO (Hst3.out.below (belowDrewN W3 nq))
      have n5 := (Hnum.out _ Hst4.out).1
      generalize W3.drewN nq = W4 at *
      clear Hst3 HGd n4
      go_wp2_with fail
      refine (HOb _ Hst4.out).mono ?_
      rintro e w5 ⟨rfl, hb5⟩
      have Hst5 := hideO (Hst4.out.below hb5)
      clear hb5 HOb Hst4 n5
      dsimp only
      go_wp2_with fail
      refine (HE oE _ Hst5.out).mono ?_
      rintro e w6 ⟨rfl, hb6⟩
      have Hst6 := hideO (Hst5.out.below hb6)
      clear hb6 HE Hst5
      dsimp only
      go_wp2_with fail
      apply HQ.out
      exact Hst6.out.drop
end Go.Proofs.YtaddfndohoppeaaGreatDoor
