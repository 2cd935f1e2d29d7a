import Derived.Test.YtnphjdckdkjopaaGreatDoorMA0x3
import Derived.RegionTactic
import Derived.Laws.Cover1
import Derived.Test.YtnphjdckdkjopaaGreatDoorMA0x4
import Derived.Sort.Walk0
import Derived.Deep.RegionLaw
import Derived.Test.YtnphjdckdkjopaaGreatDoorMA0x0
import Derived.LaidEql
import Derived.Stop.Asserts
import Derived.RowKitTokens

/- The document's repo (package strataref2): where a branch leads. -/
namespace Go.Proofs.YtnphjdckdkjopaaGreatDoor
open Go Go.RowKit Go.Proofs
set_option synthInstance.maxSize 1000

def encF (x : Rf) : List Value := [.string ⟨x.1.toArray⟩, .int .i64 (x.2 : Int)]
def cellsF (l : List Rf) : List Value := l.flatMap encF
theorem cellsF_len (l : List Rf) : (cellsF l).length = l.length * 2 := by
  induction l with
  | nil => rfl
  | cons x r ih => simp only [cellsF, List.flatMap_cons, List.length_append, List.length_cons] at ih ⊢; rw [ih]; simp [encF]; omega
theorem cellsF_app (l m : List Rf) : cellsF (l ++ m) = cellsF l ++ cellsF m := by simp [cellsF]
theorem cellsF_at (l : List Rf) (k : Nat) (hk : k < l.length) : (cellsF l)[k * 2]? = some (.string ⟨l[k].1.toArray⟩) ∧ (cellsF l)[k * 2 + 1]? = some (.int .i64 (l[k].2 : Int)) := by
  induction l generalizing k with
  | nil => simp at hk
  | cons x r ih =>
    have e : cellsF (x :: r) = .string ⟨x.1.toArray⟩ :: .int .i64 (x.2 : Int) :: cellsF r := rfl
    rw [e]
    cases k with
    | zero => exact ⟨rfl, rfl⟩
    | succ j =>
      have := ih j (by simpa using hk)
      rw [show (j + 1) * 2 = j * 2 + 1 + 1 by omega]
      simpa using this
theorem ownF_at {W : World} {base : Nat} {e : TypeId} {v : Value} {l : List Rf} (h : W.ownsRow base e 2 v l.length (cellsF l)) (k : Nat) (hk : k < l.length) :
    ∃ g cap, v = .slice (some ⟨g, 0, none⟩) l.length cap ∧ W.cell? ⟨g, k * 2, none⟩ = some (.string ⟨l[k].1.toArray⟩) ∧ W.cell? ⟨g, k * 2 + 1, none⟩ = some (.int .i64 (l[k].2 : Int)) := by
  have h' := h
  rcases h.2 with ⟨rfl, h0⟩ | ⟨g, cap, cur, rfl, _⟩
  · omega
  · obtain ⟨c0, c1⟩ := cellsF_at l k hk
    have q0 := h'.cells (g := g) rfl _ _ c0
    have q1 := h'.cells (g := g) rfl _ _ c1
    rw [Addr.add_lit, Nat.zero_add] at q0 q1
    exact ⟨g, cap, rfl, q0, q1⟩
theorem ownF_form {W : World} {base : Nat} {e : TypeId} {v : Value} {l : List Rf} (h : W.ownsRow base e 2 v l.length (cellsF l)) : ∃ ad cap, v = .slice ad l.length cap := by
  rcases h.2 with ⟨rfl, h0⟩ | ⟨g, cap, cur, rfl, _⟩
  · exact ⟨none, 0, by rw [h0]⟩
  · exact ⟨_, cap, rfl⟩
theorem atR_here {l : List Rf} {b : List UInt8} {k : Nat} (hk : k < l.length) (hn : ∀ x ∈ l.take k, x.1 ≠ b) (he : l[k].1 = b) : atR l b = (l[k].2 : Int) := by
  induction l generalizing k with
  | nil => simp at hk
  | cons x r ih =>
    cases k with
    | zero => simp at he; simp [atR, he]
    | succ j =>
      have h0 : x.1 ≠ b := hn x (by simp)
      simp at hk he
      unfold atR
      rw [if_neg h0, ih hk (fun y hy => hn y (by simp [hy])) he]
      simp
theorem atR_none {l : List Rf} {b : List UInt8} (hn : ∀ x ∈ l, x.1 ≠ b) : atR l b = -1 := by
  have := atR_neg.2 hn
  have := atR_ge l b
  omega

set_option maxHeartbeats 2000000 in
set_option maxRecDepth 100000 in
theorem RAtName_any (m base : Nat) (v : Value) (l : List Rf) (b : List UInt8) (w : World) (hc : w.cell? ⟨m, 4, none⟩ = some v) (ho : w.ownsRow base 48 2 v l.length (cellsF l)) (hl : l.length ≤ 1000) :
    Calls Tryz.prog 34 #[.pointer (some ⟨m, 0, none⟩), .string ⟨b.toArray⟩] w fun e w' => e = .returned (.int .i64 (atR l b)) ∧ w' = w := by
  have Ho := hideO ho
  obtain ⟨ad, cap, rfl⟩ := ownF_form ho
  clear ho
  go_enter Tryz.func34, Tryz.ntmps34
  go_wp2_with fail
  go_loopw [5] (fun i wr => ∃ (k : Nat), k ≤ l.length ∧ i = .int .i64 k ∧ wr = w ∧ Hid (∀ x ∈ l.take k, x.1 ≠ b)) (fun i wr => l.length - (intOf i).toNat)
  case atStart => exact ⟨0, by omega, rfl, rfl, by show ∀ x ∈ _, _; simp⟩
  case round =>
    obtain ⟨k, hk, rfl, rfl, hs⟩ := hrel
    by_cases hlt : k < l.length
    · obtain ⟨g, cap', e1, c0, c1⟩ := ownF_at Ho.out k hlt
      obtain ⟨rfl, _, rfl⟩ := Value.slice.inj e1
      have i0 : (0 : Int) ≤ (k : Int) := by omega
      have i1 : (k : Int) < (l.length : Int) := by omega
      clear e1
      by_cases he : l[k].1 = b
      · have hd2 : (l[k].1 == b) = true := by simpa using he
        have hf := hideO (atR_here hlt hs.out he)
        clear he
        go_wp2
        go_ret
        exact ⟨by rw [hf.out]; rfl, rfl⟩
      · have hd2 : (l[k].1 == b) = false := by simpa using he
        have hs' : Hid (∀ x ∈ l.take (k + 1), x.1 ≠ b) := by
          show ∀ x ∈ _, _
          rw [List.take_succ_eq_append_getElem hlt]
          intro x hx
          rcases List.mem_append.1 hx with hx | hx
          · exact hs.out x hx
          · simp at hx; subst hx; exact he
        clear he
        go_wp2
        exact ⟨⟨k + 1, by omega, by go_num, by trivial, hs'⟩, by simp [intOf]; omega⟩
    · obtain rfl : k = l.length := by omega
      go_wp2
      go_ret
      refine ⟨?_, rfl⟩
      rw [atR_none (by simpa using hs.out)]
      rfl
end Go.Proofs.YtnphjdckdkjopaaGreatDoor

/- The document's repo (package strataref2): a branch leads to a commit; has it room? -/
namespace Go.Proofs.YtnphjdckdkjopaaGreatDoor
open Go Go.RowKit Go.Proofs
set_option synthInstance.maxSize 1000

theorem infoF : (Tryz.prog.info? 48).map (fun i => (i.zero, i.size, i.bytes)) = some (some (.agg #[.string ⟨#[]⟩, .int .i64 0]), 2, 24) := by kernel_rfl
theorem newF (W : World) (x : Rf) (t : TypeId) : ∀ (j : Nat) u, (encF x)[j]? = some u → (W.alloc (.cells #[.string ⟨x.1.toArray⟩, .int .i64 (x.2 : Int)] t)).cell? ((⟨W.heap.size, 0, none⟩ : Addr).add j) = some u := by
  intro j u hu
  have hj : j < 2 := by have := (List.getElem?_eq_some_iff.1 hu).1; simpa [encF] using this
  rw [Addr.add_lit]
  rcases (by omega : j = 0 ∨ j = 1) with rfl | rfl
  all_goals
    simp [encF] at hu
    subst hu
    go_simp
theorem oneF (x : Rf) : ∀ u ∈ encF x, u.oneCell' = true := by simp [encF, Value.oneCell']
theorem ownF_push {W : World} {base : Nat} {v : Value} {l : List Rf} {x : Rf} (h : W.ownsRow base 48 2 v (l.length + 1) (cellsF l ++ encF x)) : W.ownsRow base 48 2 v (l ++ [x]).length (cellsF (l ++ [x])) := by
  rw [cellsF_app, List.length_append]
  simpa [cellsF] using h

/-- the list as it grows -/
def leadStep (b : List UInt8) (t : Nat) (a : List Rf × Bool) (x : Rf) : List Rf × Bool :=
  (a.1 ++ (if a.2 = false ∧ b ≤ x.1 then [(b, t)] else []) ++ (if x.1 ≠ b then [x] else []), a.2 || decide (b ≤ x.1))
def leadPre (l : List Rf) (b : List UInt8) (t k : Nat) : List Rf × Bool := (l.take k).foldl (leadStep b t) ([], false)
theorem leadPre_next {l : List Rf} {b : List UInt8} {t k : Nat} (hk : k < l.length) : leadPre l b t (k + 1) = leadStep b t (leadPre l b t k) l[k] := by
  unfold leadPre
  rw [List.take_succ_eq_append_getElem hk, List.foldl_append]
  rfl
theorem lead_fold (r : List Rf) (b : List UInt8) (t : Nat) : ∀ (a : List Rf) (p : Bool), ((r.foldl (leadStep b t) (a, p)).1 ++ if (r.foldl (leadStep b t) (a, p)).2 = true then [] else [(b, t)]) = a ++ leadG r b t p := by
  induction r with
  | nil => intro a p; cases p <;> simp [leadG]
  | cons x q ih =>
    intro a p
    rw [List.foldl_cons]
    have := ih (leadStep b t (a, p) x).1 (leadStep b t (a, p) x).2
    rw [show ((leadStep b t (a, p) x).1, (leadStep b t (a, p) x).2) = leadStep b t (a, p) x from rfl] at this
    rw [this]
    unfold leadStep
    conv => rhs; unfold leadG
    simp only [List.append_assoc]
theorem leadPre_end (l : List Rf) (b : List UInt8) (t : Nat) : ((leadPre l b t l.length).1 ++ if (leadPre l b t l.length).2 = true then [] else [(b, t)]) = leadR l b t := by
  unfold leadPre leadR
  rw [List.take_length, lead_fold]
  simp
theorem leadPre_len (l : List Rf) (b : List UInt8) (t : Nat) : ∀ k, (leadPre l b t k).1.length ≤ 2 * k := by
  intro k
  induction k with
  | zero => simp [leadPre]
  | succ k ih =>
    by_cases hk : k < l.length
    · rw [leadPre_next hk]
      unfold leadStep
      simp only [List.length_append]
      have h1 : (if (leadPre l b t k).2 = false ∧ b ≤ l[k].1 then [(b, t)] else []).length ≤ 1 := by split <;> simp
      have h2 : (if l[k].1 ≠ b then [l[k]] else []).length ≤ 1 := by split <;> simp
      omega
    · have : leadPre l b t (k + 1) = leadPre l b t k := by
        unfold leadPre
        rw [List.take_of_length_le (by omega), List.take_of_length_le (by omega)]
      rw [this]
      omega

set_option maxHeartbeats 8000000 in
set_option maxRecDepth 100000 in
theorem RLead_any (m base : Nat) (v : Value) (l : List Rf) (b : List UInt8) (t : Nat) (w : World) (hc : w.cell? ⟨m, 4, none⟩ = some v) (hz : w.frozen? ⟨m, 4, none⟩ = false) (ho : w.ownsRow base 48 2 v l.length (cellsF l)) (hl : l.length ≤ 100) :
    Calls Tryz.prog 36 #[.pointer (some ⟨m, 0, none⟩), .string ⟨b.toArray⟩, .int .i64 (t : Int)] w fun e w' => e = .returned (.tuple #[]) ∧ ∃ v' W, RowKit.Below w.heap.size w W ∧ W.ownsRow w.heap.size 48 2 v' (leadR l b t).length (cellsF (leadR l b t)) ∧ w' = W.setCell ⟨m, 4, none⟩ v' := by
  have hmz := World.block_lt_of_cell? w _ hc
  have hmz : m < w.heap.size := hmz
  have HC : Hid (∀ W, RowKit.Below w.heap.size w W → W.cell? ⟨m, 4, none⟩ = some v ∧ W.frozen? ⟨m, 4, none⟩ = false ∧ m < W.heap.size) := fun W hb => ⟨(hb.cell (p := ⟨m, 4, none⟩) hmz).trans hc, (hb.frozen (p := ⟨m, 4, none⟩) hmz).trans hz, by have := hb.size; omega⟩
  have Ho := hideO ho
  obtain ⟨ad, cap, rfl⟩ := ownF_form ho
  obtain ⟨i0', hi0, hz0, hz1, hz2⟩ := info_parts infoF
  clear ho
  go_enter Tryz.func36, Tryz.ntmps36
  go_wp2_with fail
  go_loopw [6, 7, 8] (fun u p i wr => ∃ (k : Nat) (a : List Rf) (q : Bool), k ≤ l.length ∧ i = .int .i64 k ∧ p = .bool q ∧ Hid (leadPre l b t k = (a, q)) ∧ a.length ≤ 2 * k ∧ Hid (wr.ownsRow w.heap.size 48 2 u a.length (cellsF a)) ∧ Hid (RowKit.Below w.heap.size w wr)) (fun _ _ i wr => l.length - (intOf i).toNat)
  case atStart => exact ⟨0, [], false, by omega, rfl, rfl, rfl, by simp, World.ownsRow_nil _ _ _ _, RowKit.Below.refl _ _⟩
  case round =>
    obtain ⟨k, a, q, hk, rfl, rfl, hp, la, hu, hbr⟩ := hrel
    obtain ⟨cm, fm, zm⟩ := HC.out _ hbr.out
    have hsz := hbr.out.size
    by_cases hlt : k < l.length
    · obtain ⟨g, cap', e1, c0', c1'⟩ := ownF_at Ho.out k hlt
      obtain ⟨rfl, _, rfl⟩ := Value.slice.inj e1
      have hgz : g < w.heap.size := World.block_lt_of_cell? w _ c0'
      have c0 : wr.cell? ⟨g, k * 2, none⟩ = some (.string ⟨l[k].1.toArray⟩) := (hbr.out.cell (p := ⟨g, k * 2, none⟩) hgz).trans c0'
      have c1 : wr.cell? ⟨g, k * 2 + 1, none⟩ = some (.int .i64 (l[k].2 : Int)) := (hbr.out.cell (p := ⟨g, k * 2 + 1, none⟩) hgz).trans c1'
      have i0 : (0 : Int) ≤ (k : Int) := by omega
      have i1 : (k : Int) < (l.length : Int) := by omega
      have hnx := leadPre_next (b := b) (t := t) hlt
      rw [hp.out] at hnx
      have hbl : Hid (Op.bytesLess l[k].1 b = decide (l[k].1 < b)) := bytesLess_eq _ _
      have C0 := hideO (And.intro c0' c1')
      clear e1 hp c0' c1'
      generalize l[k] = x at *
      cases q with
      | true =>
        by_cases hxb : x.1 = b
        · have hd : (x.1 == b) = true := by simpa using hxb
          have hfin : Hid (leadPre l b t (k + 1) = (a, true)) := by
            show _ = _
            rw [hnx]
            unfold leadStep
            simp [hxb]
          clear hnx hxb hbl
          go_wp2_with fail
          go_roundw
          case rel => exact ⟨k + 1, a, true, by omega, by go_num, rfl, hfin, by omega, hu, hbr⟩
          case measure => simp [intOf]; omega
        · have hd : (x.1 == b) = false := by simpa using hxb
          have hfin : Hid (leadPre l b t (k + 1) = (a ++ [x], true)) := by
            show _ = _
            rw [hnx]
            unfold leadStep
            simp [hxb]
          clear hnx hxb hbl
          go_wp2_with (at_builtin; refine wpList_append_own _ rfl _ _ 43 rfl w.heap.size 48 i0' (.agg #[.string ⟨#[]⟩, .int .i64 0]) 2 24 Tryz.underlying43 hi0 hz0 hz1 hz2 rfl (by decide) _ _ _ rfl (hu.out.alloc _) ⟨wr.heap.size, 0, none⟩ 1 1 (encF x) rfl rfl (newF wr x _) (oneF _) (by unfold maxLen; omega) (by omega) (by simp; omega) ?_)
          intro v' w7 h2 h3 _
          have hb7 : Hid (RowKit.Below w.heap.size w w7) := (bstep hbr.out (balloc wr _)).grown h3 (by simp; omega) (fun j hj => (hu.out.lt j hj).1)
          have hu7 := hideO (ownF_push h2)
          clear h2 h3
          go_wp2_with fail
          go_roundw
          case rel => exact ⟨k + 1, a ++ [x], true, by omega, by go_num, rfl, hfin, by rw [List.length_append]; simp; omega, hu7, hb7⟩
          case measure => simp [intOf]; omega
      | false =>
        by_cases hle : b ≤ x.1
        · have hbf : Op.bytesLess x.1 b = false := by rw [hbl.out]; exact decide_eq_false fun h => absurd hle (List.not_le.2 h)
          by_cases hxb : x.1 = b
          · have hd : (x.1 == b) = true := by simpa using hxb
            have hfin : Hid (leadPre l b t (k + 1) = (a ++ [(b, t)], true)) := by
              show _ = _
              rw [hnx]
              unfold leadStep
              simp [hxb]
            clear hnx hxb hbl hle
            go_wp2_with (at_builtin; refine wpList_append_own _ rfl _ _ 43 rfl w.heap.size 48 i0' (.agg #[.string ⟨#[]⟩, .int .i64 0]) 2 24 Tryz.underlying43 hi0 hz0 hz1 hz2 rfl (by decide) _ _ _ rfl (hu.out.alloc _) ⟨wr.heap.size, 0, none⟩ 1 1 (encF (b, t)) rfl rfl (newF wr (b, t) _) (oneF _) (by unfold maxLen; omega) (by omega) (by simp; omega) ?_)
            intro v' w7 h2 h3 _
            have hb7 : Hid (RowKit.Below w.heap.size w w7) := (bstep hbr.out (balloc wr _)).grown h3 (by simp; omega) (fun j hj => (hu.out.lt j hj).1)
            have hu7 := hideO (ownF_push h2)
            obtain ⟨cm7, fm7, zm7⟩ := HC.out _ hb7.out
            have d0 : w7.cell? ⟨g, k * 2, none⟩ = some (.string ⟨x.1.toArray⟩) := (hb7.out.cell (p := ⟨g, k * 2, none⟩) hgz).trans C0.out.1
            have hgz7 : g < w7.heap.size := by have := hb7.out.size; omega
            clear h2 h3 c0 c1 cm fm
            go_wp2_with fail
            go_roundw
            case rel => exact ⟨k + 1, a ++ [(b, t)], true, by omega, by go_num, rfl, hfin, by simp only [List.length_append, List.length_singleton]; omega, hu7, hb7⟩
            case measure => simp [intOf]; omega
          · have hd : (x.1 == b) = false := by simpa using hxb
            have hfin : Hid (leadPre l b t (k + 1) = (a ++ [(b, t)] ++ [x], true)) := by
              show _ = _
              rw [hnx]
              unfold leadStep
              simp [hxb, hle]
            clear hnx hxb hbl hle
            go_wp2_with (at_builtin; refine wpList_append_own _ rfl _ _ 43 rfl w.heap.size 48 i0' (.agg #[.string ⟨#[]⟩, .int .i64 0]) 2 24 Tryz.underlying43 hi0 hz0 hz1 hz2 rfl (by decide) _ _ _ rfl (hu.out.alloc _) ⟨wr.heap.size, 0, none⟩ 1 1 (encF (b, t)) rfl rfl (newF wr (b, t) _) (oneF _) (by unfold maxLen; omega) (by omega) (by simp; omega) ?_)
            intro v' w7 h2 h3 _
            have hb7 : Hid (RowKit.Below w.heap.size w w7) := (bstep hbr.out (balloc wr _)).grown h3 (by simp; omega) (fun j hj => (hu.out.lt j hj).1)
            have hu7 := hideO (ownF_push h2)
            obtain ⟨cm7, fm7, zm7⟩ := HC.out _ hb7.out
            have d0 : w7.cell? ⟨g, k * 2, none⟩ = some (.string ⟨x.1.toArray⟩) := (hb7.out.cell (p := ⟨g, k * 2, none⟩) hgz).trans C0.out.1
            have d1 : w7.cell? ⟨g, k * 2 + 1, none⟩ = some (.int .i64 (x.2 : Int)) := (hb7.out.cell (p := ⟨g, k * 2 + 1, none⟩) hgz).trans C0.out.2
            have hs7 := hb7.out.size
            have hgz7 : g < w7.heap.size := by omega
            have la7 : (a ++ [(b, t)]).length ≤ 2 * k + 1 := by simp only [List.length_append, List.length_singleton]; omega
            clear h2 h3 c0 c1 cm fm
            go_wp2_with (at_builtin; refine wpList_append_own _ rfl _ _ 43 rfl w.heap.size 48 i0' (.agg #[.string ⟨#[]⟩, .int .i64 0]) 2 24 Tryz.underlying43 hi0 hz0 hz1 hz2 rfl (by decide) _ _ _ rfl (hu7.out.alloc _) ⟨w7.heap.size, 0, none⟩ 1 1 (encF x) rfl rfl (newF w7 x _) (oneF _) (by unfold maxLen; omega) (by omega) (by simp; omega) ?_)
            intro v8 w8 h2 h3 _
            have hb8 : Hid (RowKit.Below w.heap.size w w8) := (bstep hb7.out (balloc w7 _)).grown h3 (by simp; omega) (fun j hj => (hu7.out.lt j hj).1)
            have hu8 : Hid (w8.ownsRow w.heap.size 48 2 v8 (a ++ [(b, t)] ++ [x]).length (cellsF (a ++ [(b, t)] ++ [x]))) := ownF_push (l := a ++ [(b, t)]) (by simpa using h2)
            clear h2 h3
            go_wp2_with fail
            go_roundw
            case rel => exact ⟨k + 1, a ++ [(b, t)] ++ [x], true, by omega, by go_num, rfl, hfin, by simp only [List.length_append, List.length_singleton]; omega, hu8, hb8⟩
            case measure => simp [intOf]; omega
        · have hbf : Op.bytesLess x.1 b = true := by rw [hbl.out]; exact decide_eq_true (List.not_le.1 hle)
          have hxb : x.1 ≠ b := fun e => hle (by rw [e]; exact List.le_refl _)
          have hd : (x.1 == b) = false := by simpa using hxb
          have hfin : Hid (leadPre l b t (k + 1) = (a ++ [x], false)) := by
            show _ = _
            rw [hnx]
            unfold leadStep
            simp [hxb, hle]
          clear hnx hxb hbl hle
          go_wp2_with (at_builtin; refine wpList_append_own _ rfl _ _ 43 rfl w.heap.size 48 i0' (.agg #[.string ⟨#[]⟩, .int .i64 0]) 2 24 Tryz.underlying43 hi0 hz0 hz1 hz2 rfl (by decide) _ _ _ rfl (hu.out.alloc _) ⟨wr.heap.size, 0, none⟩ 1 1 (encF x) rfl rfl (newF wr x _) (oneF _) (by unfold maxLen; omega) (by omega) (by simp; omega) ?_)
          intro v' w7 h2 h3 _
          have hb7 : Hid (RowKit.Below w.heap.size w w7) := (bstep hbr.out (balloc wr _)).grown h3 (by simp; omega) (fun j hj => (hu.out.lt j hj).1)
          have hu7 := hideO (ownF_push h2)
          clear h2 h3
          go_wp2_with fail
          go_roundw
          case rel => exact ⟨k + 1, a ++ [x], false, by omega, by go_num, rfl, hfin, by simp only [List.length_append, List.length_singleton]; omega, hu7, hb7⟩
          case measure => simp [intOf]; omega
    · obtain rfl : k = l.length := by omega
      have hend := leadPre_end l b t
      rw [hp.out] at hend
      have Hend := hideO hend
      clear hend hp
      cases q with
      | true =>
        simp only [if_true, List.append_nil] at Hend
        have Hu := hideO hu.out
        obtain ⟨ud, uc, rfl⟩ := ownF_form hu.out
        clear hu
        go_wp2_with fail
        go_end0
        exact ⟨rfl, _, _, hbr.out, by rw [← Hend.out]; exact Hu.out, rfl⟩
      | false =>
        simp only [Bool.false_eq_true, if_false] at Hend
        go_wp2_with (at_builtin; refine wpList_append_own _ rfl _ _ 43 rfl w.heap.size 48 i0' (.agg #[.string ⟨#[]⟩, .int .i64 0]) 2 24 Tryz.underlying43 hi0 hz0 hz1 hz2 rfl (by decide) _ _ _ rfl (hu.out.alloc _) ⟨wr.heap.size, 0, none⟩ 1 1 (encF (b, t)) rfl rfl (newF wr (b, t) _) (oneF _) (by unfold maxLen; omega) (by omega) (by simp; omega) ?_)
        intro v' w7 h2 h3 _
        have hb7 : Hid (RowKit.Below w.heap.size w w7) := (bstep hbr.out (balloc wr _)).grown h3 (by simp; omega) (fun j hj => (hu.out.lt j hj).1)
        have hu7 := hideO (ownF_push h2)
        obtain ⟨cm7, fm7, zm7⟩ := HC.out _ hb7.out
        have Hu := hideO hu7.out
        obtain ⟨ud, uc, rfl⟩ := ownF_form hu7.out
        clear h2 h3 cm fm hu7
        go_wp2_with fail
        go_end0
        exact ⟨rfl, _, _, hb7.out, by rw [← Hend.out]; have h9 := Hu.out; rw [show (a ++ [(b, t)]).length = a.length + 1 by simp] at h9 ⊢; exact h9, rfl⟩

set_option maxHeartbeats 2000000 in
set_option maxRecDepth 100000 in
theorem RRoom_any (m base : Nat) (v : Value) (R : Rp) (b : List UInt8) (w : World) (hc : w.cell? ⟨m, 4, none⟩ = some v) (ho : w.ownsRow base 48 2 v R.refs.length (cellsF R.refs)) (hl : R.refs.length ≤ 100) :
    Calls Tryz.prog 33 #[.pointer (some ⟨m, 0, none⟩), .string ⟨b.toArray⟩] w fun e w' => e = .returned (.bool (roomR R b)) ∧ w' = w := by
  have D := RAtName_any m base v R.refs b w hc ho (by omega)
  obtain ⟨ad, cap, rfl⟩ := ownF_form ho
  have hfin : Hid (roomR R b = decide (0 ≤ atR R.refs b ∨ R.refs.length < 8)) := rfl
  clear ho
  generalize roomR R b = q at *
  generalize atR R.refs b = x at *
  by_cases h0 : x ≥ 0
  · have hq : Hid (q = true) := by show _ = _; rw [hfin.out]; exact decide_eq_true (Or.inl h0)
    clear hfin
    go_enter Tryz.func33, Tryz.ntmps33
    go_wp2_with (go_at_call 34; refine D.mono ?_; rintro e w1 ⟨rfl, rfl⟩; dsimp only)
    go_ret
    exact ⟨by rw [hq.out]; rfl, rfl⟩
  · have hq : Hid (q = decide ((R.refs.length : Int) < 8)) := by
      show _ = _
      rw [hfin.out, decide_eq_decide]
      omega
    clear hfin
    go_enter Tryz.func33, Tryz.ntmps33
    go_wp2_with (go_at_call 34; refine D.mono ?_; rintro e w1 ⟨rfl, rfl⟩; dsimp only)
    go_ret
    exact ⟨by rw [hq.out]; rfl, rfl⟩
end Go.Proofs.YtnphjdckdkjopaaGreatDoor

/- The document's store at the head of a block of more cells: Find, Get, Put. -/
namespace Go.Proofs.YtnphjdckdkjopaaGreatDoor
open Go Go.RowKit Go.Proofs
set_option synthInstance.maxSize 1000

/-- the document's store: block m has the last number and the list v -/
def RAtX (tyX : TypeId) (restX : List Value) (w : World) (m : Nat) (v : Value) (n : Nat) (L : List Ob) : Prop :=
  w.heap[m]? = some (.cells (.int .i64 (n : Int) :: v :: restX).toArray tyX) ∧ w.ownsRow (m + 1) 159 2 v L.length (cellsO L)
def ROwnX (m : Nat) (v : Value) (j : Nat) : Prop := j = m ∨ v.ownBlock = some j
variable {tyX : TypeId} {restX : List Value}
theorem RAtX.lt {w : World} {m : Nat} {v : Value} {n : Nat} {L : List Ob} (h : RAtX tyX restX w m v n L) : m < w.heap.size := (Array.getElem?_eq_some_iff.1 h.1).1
theorem RAtX.keep {w w' : World} {m : Nat} {v : Value} {n : Nat} {L : List Ob} (h : RAtX tyX restX w m v n L) (hb : ∀ j, ROwnX m v j → w'.heap[j]? = w.heap[j]?) : RAtX tyX restX w' m v n L := by
  refine ⟨(hb m (Or.inl rfl)).trans h.1, h.2.1, ?_⟩
  rcases h.2.2 with h0 | ⟨g, cap, cur, hv, hg, hm, r⟩
  · exact Or.inl h0
  · exact Or.inr ⟨g, cap, cur, hv, hg, (hb g (Or.inr (by rw [hv]; rfl))).trans hm, r⟩
theorem RAtX.own {w : World} {m : Nat} {v : Value} {n : Nat} {L : List Ob} (h : RAtX tyX restX w m v n L) : ∀ j, ROwnX m v j → m ≤ j ∧ j < w.heap.size := by
  rintro j (rfl | hj)
  · exact ⟨Nat.le_refl _, h.lt⟩
  · have := h.2.lt j hj; omega
theorem RAtX.below {w w' : World} {m : Nat} {v : Value} {n : Nat} {L : List Ob} (h : RAtX tyX restX w m v n L) (hb : RowKit.Below w.heap.size w w') : RAtX tyX restX w' m v n L := h.keep fun j hj => hb.block j (h.own j hj).2
theorem RAtX.cells {w : World} {m : Nat} {v : Value} {n : Nat} {L : List Ob} (h : RAtX tyX restX w m v n L) : w.cell? ⟨m, 0, none⟩ = some (.int .i64 (n : Int)) ∧ w.cell? ⟨m, 1, none⟩ = some v ∧ w.frozen? ⟨m, 0, none⟩ = false ∧ w.frozen? ⟨m, 1, none⟩ = false := by
  have h := h.1
  refine ⟨?_, ?_, ?_, ?_⟩ <;> simp [World.cell?, World.frozen?, h]

set_option maxHeartbeats 2000000 in
set_option maxRecDepth 100000 in
theorem RFindX_any (m : Nat) (v : Value) (n : Nat) (L : List Ob) (b : List UInt8) (w : World) (h : RAtX tyX restX w m v n L) (hL : L.length ≤ 1000) :
    Calls Tryz.prog 87 #[.pointer (some ⟨m, 0, none⟩), .string ⟨b.toArray⟩] w fun e w' => e = .returned (.int .i64 (findO L b : Int)) ∧ w' = w := by
  obtain ⟨s0, s1, _, _⟩ := h.cells
  have Ho := hideO h.2
  obtain ⟨ad, cap, rfl⟩ := ownO_form h.2
  clear h
  go_enter Tryz.func87, Tryz.ntmps87
  go_wp2_with fail
  go_loopw [5] (fun i wr => ∃ (k : Nat), k ≤ L.length ∧ i = .int .i64 k ∧ wr = w ∧ Hid (∀ x ∈ L.take k, x.2 ≠ b)) (fun i wr => L.length - (intOf i).toNat)
  case atStart => exact ⟨0, by omega, rfl, rfl, by show ∀ x ∈ _, _; simp⟩
  case round =>
    obtain ⟨k, hk, rfl, rfl, hs⟩ := hrel
    by_cases hlt : k < L.length
    · obtain ⟨g, cap', e1, c0, c1⟩ := ownO_at Ho.out k hlt
      obtain ⟨rfl, _, rfl⟩ := Value.slice.inj e1
      have i0 : (0 : Int) ≤ (k : Int) := by omega
      have i1 : (k : Int) < (L.length : Int) := by omega
      clear e1
      by_cases he : L[k].2 = b
      · have hd2 : (L[k].2 == b) = true := by simpa using he
        have hf := hideO (findO_at hlt hs.out he)
        clear he
        go_wp2
        go_ret
        exact ⟨by rw [hf.out]; rfl, rfl⟩
      · have hd2 : (L[k].2 == b) = false := by simpa using he
        have hs' : Hid (∀ x ∈ L.take (k + 1), x.2 ≠ b) := by
          show ∀ x ∈ _, _
          rw [List.take_succ_eq_append_getElem hlt]
          intro x hx
          rcases List.mem_append.1 hx with hx | hx
          · exact hs.out x hx
          · simp at hx; subst hx; exact he
        clear he
        go_wp2
        exact ⟨⟨k + 1, by omega, by go_num, by trivial, hs'⟩, by simp [intOf]; omega⟩
    · obtain rfl : k = L.length := by omega
      go_wp2
      go_ret
      refine ⟨?_, rfl⟩
      rw [findO_none (by simpa using hs.out)]
      rfl

def gotVX (o : Option (List UInt8)) : Value := match o with | some b => .tuple #[.string ⟨b.toArray⟩, .int .i64 0] | none => .tuple #[.string ⟨#[]⟩, .int .i64 5]

theorem infoObX : (Tryz.prog.info? 159).map (fun i => (i.zero, i.size, i.bytes)) = some (some (.agg #[.int .i64 0, .string ⟨#[]⟩]), 2, 24) := by kernel_rfl

theorem sizeAX (w : World) (o : Obj) : (w.alloc o).heap.size = w.heap.size + 1 := by simp
/-- append of an object to a row of one's own -/
theorem obj_pushX {W : World} {base : Nat} {v : Value} {L : List Ob} (h : W.ownsRow base 159 2 v L.length (cellsO L)) (x : Ob) (a : Addr) (c : Nat) (ha : ∀ (j : Nat) u, (encO x)[j]? = some u → W.cell? (a.add j) = some u) (ty : TypeId) (hn : L.length ≤ 1000) (hb : base ≤ W.heap.size) :
    ∃ g cap W9, (Builtin.append_ #[51, 51] ty #[v, .slice (some a) 1 c]).run Tryz.prog W = .ok (.slice (some ⟨g, 0, none⟩) (L.length + 1) cap) W9 ∧ W9.ownsRow base 159 2 (.slice (some ⟨g, 0, none⟩) (L.length + 1) cap) (L ++ [x]).length (cellsO (L ++ [x])) ∧ W.grownBy W9 v.ownBlock ∧ (v.ownBlock = some g ∨ g = W.heap.size) := by
  obtain ⟨i, hi, hz⟩ := Option.map_eq_some_iff.1 infoObX
  simp only [Prod.mk.injEq] at hz
  obtain ⟨hz0, hz1, hz2⟩ := hz
  obtain ⟨g, cap, W9, hrun, ho, hg, hat, _⟩ := run_append_lies (P := Tryz.prog) W 51 ty base 159 i _ 2 24 Tryz.underlying51 hi hz0 hz1 hz2 rfl (by decide) v L.length (cellsO L) h a 1 c (encO x) rfl ha (by simp [encO, Value.oneCell']) (by omega) (by unfold maxLen; omega) (by omega) hb W.heap.size rfl
  refine ⟨g, cap, W9, hrun, ?_, hg, hat⟩
  rw [cellsO_app, List.length_append]
  simpa [cellsO] using ho

/-- the store behind a put -/
theorem r_pushX {w : World} {m : Nat} {v : Value} {n : Nat} {L : List Ob} (h : RAtX tyX restX w m v n L) (b : List UInt8) (ty : TypeId) (hn : L.length ≤ 1000) (N : Int) (hN : N = ((n + 1 : Nat) : Int)) (W2 : World) (hW : W2 = ((w.setCell ⟨m, 0, none⟩ (.int .i64 N)).alloc (.cells #[.int .i64 N, .string ⟨b.toArray⟩] 159)).drew) :
    ∃ g cap W9, (Builtin.append_ #[51, 51] ty #[v, .slice (some ⟨w.heap.size, 0, none⟩) 1 1]).run Tryz.prog W2 = .ok (.slice (some ⟨g, 0, none⟩) (L.length + 1) cap) W9 ∧
      W9.cell? ⟨m, 1, none⟩ = some v ∧ W9.frozen? ⟨m, 1, none⟩ = false ∧ (W9.setCell ⟨m, 1, none⟩ (.slice (some ⟨g, 0, none⟩) (L.length + 1) cap)).cell? ⟨m, 0, none⟩ = some (.int .i64 N) ∧
      RAtX tyX restX (W9.setCell ⟨m, 1, none⟩ (.slice (some ⟨g, 0, none⟩) (L.length + 1) cap)) m (.slice (some ⟨g, 0, none⟩) (L.length + 1) cap) (n + 1) (L ++ [(n + 1, b)]) ∧
      Offs (ROwnX m v) w (W9.setCell ⟨m, 1, none⟩ (.slice (some ⟨g, 0, none⟩) (L.length + 1) cap)) ∧ (∀ j, ROwnX m (.slice (some ⟨g, 0, none⟩) (L.length + 1) cap) j → ROwnX m v j ∨ w.heap.size ≤ j) := by
  subst hN
  subst hW
  have hlt := h.lt
  have hz1 : (w.setCell ⟨m, 0, none⟩ (.int .i64 ((n + 1 : Nat) : Int))).heap.size = w.heap.size := by simp [World.setCell]
  have hz2 : ((w.setCell ⟨m, 0, none⟩ (.int .i64 ((n + 1 : Nat) : Int))).alloc (.cells #[.int .i64 ((n + 1 : Nat) : Int), .string ⟨b.toArray⟩] 159)).drew.heap.size = w.heap.size + 1 := (sizeAX _ _).trans (by rw [hz1])
  have hown : ((w.setCell ⟨m, 0, none⟩ (.int .i64 ((n + 1 : Nat) : Int))).alloc (.cells #[.int .i64 ((n + 1 : Nat) : Int), .string ⟨b.toArray⟩] 159)).drew.ownsRow (m + 1) 159 2 v L.length (cellsO L) := World.ownsRow.drew ((ownsRow_setCell_below h.2 (by show m < m + 1; omega) _).alloc _)
  have hm1 : (w.setCell ⟨m, 0, none⟩ (.int .i64 ((n + 1 : Nat) : Int))).heap[m]? = some (.cells (.int .i64 ((n + 1 : Nat) : Int) :: v :: restX).toArray tyX) := by
    have := heap_setCell_same w m 0 _ _ (.int .i64 ((n + 1 : Nat) : Int)) h.1
    simpa using this
  have hm2 : ((w.setCell ⟨m, 0, none⟩ (.int .i64 ((n + 1 : Nat) : Int))).alloc (.cells #[.int .i64 ((n + 1 : Nat) : Int), .string ⟨b.toArray⟩] 159)).drew.heap[m]? = some (.cells (.int .i64 ((n + 1 : Nat) : Int) :: v :: restX).toArray tyX) := (Below.heap_alloc _ _ m (by show m < (w.setCell _ _).heap.size; rw [hz1]; exact hlt)).trans hm1
  obtain ⟨g, cap, W9, hrun, ho, hg, hat⟩ := obj_pushX hown (n + 1, b) ⟨w.heap.size, 0, none⟩ 1 (fun j u hu => by
    have hj : j < 2 := by have := (List.getElem?_eq_some_iff.1 hu).1; simpa [encO] using this
    rw [Addr.add_lit]
    rcases (by omega : j = 0 ∨ j = 1) with rfl | rfl
    · simp [encO] at hu; subst hu
      rw [show w.heap.size = (w.setCell ⟨m, 0, none⟩ (.int .i64 ((n + 1 : Nat) : Int))).heap.size from hz1.symm]
      go_simp
    · simp [encO] at hu; subst hu
      rw [show w.heap.size = (w.setCell ⟨m, 0, none⟩ (.int .i64 ((n + 1 : Nat) : Int))).heap.size from hz1.symm]
      go_simp) ty hn (by have := hz2; omega)
  have hne : v.ownBlock ≠ some m := fun e => by have := (h.2.lt m e).1; omega
  have hgm : m < g := by
    rcases hat with e | e
    · have := (h.2.lt g e).1; omega
    · rw [e, hz2]; omega
  have hm9 : W9.heap[m]? = some (.cells (.int .i64 ((n + 1 : Nat) : Int) :: v :: restX).toArray tyX) := (hg.block m (by rw [hz2]; omega) (fun e => hne e.symm)).trans hm2
  have hm9' : (W9.setCell ⟨m, 1, none⟩ (.slice (some ⟨g, 0, none⟩) (L.length + 1) cap)).heap[m]? = some (.cells (.int .i64 ((n + 1 : Nat) : Int) :: .slice (some ⟨g, 0, none⟩) (L.length + 1) cap :: restX).toArray tyX) := by
    have := heap_setCell_same W9 m 1 _ _ (.slice (some ⟨g, 0, none⟩) (L.length + 1) cap) hm9
    simpa using this
  have hR : RAtX tyX restX (W9.setCell ⟨m, 1, none⟩ (.slice (some ⟨g, 0, none⟩) (L.length + 1) cap)) m (.slice (some ⟨g, 0, none⟩) (L.length + 1) cap) (n + 1) (L ++ [(n + 1, b)]) := ⟨hm9', ownsRow_setCell_below ho (by show m < m + 1; omega) _⟩
  refine ⟨g, cap, W9, hrun, by simp [World.cell?, hm9], by simp [World.frozen?, hm9], hR.cells.1, hR, ?_, ?_⟩
  · refine ⟨hg.os, hg.tape, hg.output, ?_, fun k hk hO => ?_⟩
    · have h9 := hg.size
      rw [hz2] at h9
      have : (W9.setCell ⟨m, 1, none⟩ (.slice (some ⟨g, 0, none⟩) (L.length + 1) cap)).heap.size = W9.heap.size := by simp [World.setCell]
      omega
    · have k1 : k ≠ m := fun e => hO (Or.inl e)
      have k2 : v.ownBlock ≠ some k := fun e => hO (Or.inr e)
      rw [heap_setCell_other _ _ _ _ k1]
      refine (hg.block k (by rw [hz2]; omega) (fun e => k2 e.symm)).trans ?_
      refine (Below.heap_alloc _ _ k (by show k < (w.setCell _ _).heap.size; rw [hz1]; exact hk)).trans ?_
      exact heap_setCell_other _ _ _ _ k1
  · rintro j (rfl | hj)
    · exact Or.inl (Or.inl rfl)
    · have hj : some g = some j := hj
      cases hj
      rcases hat with e | e
      · exact Or.inl (Or.inr e)
      · refine Or.inr ?_
        rw [e, hz2]
        omega

section
variable {P : Program} {w : World}
/-- at a step of a region that draws: an append whose run is known -/
theorem step_appendOX {ops : Array Oper} {o : Oper} {a : Act} {K : Act → World → Prop} {Q : Exit → Act → World → Prop} {E : Prop} (hgd : o.guard = none) (s x : Operand) (t : TypeId)
    (ho : o.op = .call { callee := .builtin .append, args := #[s, x], argTypes := #[t, t] }) (v u : Value) (hs : a.eval s = v) (hx : a.eval x = u) {v' : Value} {w' : World}
    (hr : (Builtin.append_ #[t, t] o.type #[v, u]).run P w = .ok v' w') (h : K (a.put o.dst v') w') : if Region.wanted o (yielded ops a.tmps) = true then Oper.wp P o a w K Q else E := by
  rw [if_pos (by simp [Region.wanted, hgd])]
  unfold Oper.wp execOp
  simp only [ho, resolve, invoke, builtin, Sem.run_bind, Sem.run_pure, Result.andThen_ok, List.map_toArray, List.map_cons, List.map_nil, hs, hx, hr]
  exact h
end
theorem sizeO_takeX {L : List Ob} {k : Nat} (hk : k < L.length) : sizeO (L.take (k + 1)) = sizeO (L.take k) + L[k].2.length := by
  rw [List.take_succ_eq_append_getElem hk, sizeO_app]
  simp [sizeO]
theorem sizeO_take_leX (L : List Ob) (k : Nat) : sizeO (L.take k) ≤ sizeO L := by
  have h := sizeO_app (L.take k) (L.drop k)
  rw [List.take_append_drop] at h
  omega

/-- what a put answers, and what it leaves -/
def RPutAnsX (tyX : TypeId) (restX : List Value) (w : World) (m : Nat) (v : Value) (n : Nat) (L : List Ob) (b : List UInt8) (e : Ending) (w' : World) : Prop :=
  e = .returned (.tuple #[.int .i64 (putI n L b : Int), .int .i64 (putE L b)]) ∧ ∃ v', RAtX tyX restX w' m v' (putM n L b) (putL n L b) ∧ Offs (ROwnX m v) w w' ∧ (∀ j, ROwnX m v' j → ROwnX m v j ∨ w.heap.size ≤ j)

set_option maxHeartbeats 2000000 in
set_option maxRecDepth 100000 in
theorem RPutX_any (m : Nat) (v : Value) (n : Nat) (L : List Ob) (b : List UInt8) (w : World) (h : RAtX tyX restX w m v n L) (hL : L.length ≤ 1000) (hn : n ≤ 1000000) (hb : b.length ≤ 9223372036854775807) :
    Calls Tryz.prog 59 #[.pointer (some ⟨m, 0, none⟩), .string ⟨b.toArray⟩] w fun e w' => RPutAnsX tyX restX w m v n L b e w' := by
  have HF := RFindX_any m v n L b w h hL
  have HR := hideO h
  obtain ⟨s0, s1, f0, f1⟩ := h.cells
  have Ho := hideO h.2
  obtain ⟨ad, cap, rfl⟩ := ownO_form h.2
  clear h
  cases hf : (findO L b == 0)
  · have hf' : Hid (findO L b ≠ 0) := by show _ ≠ _; simpa using hf
    have hpos : 0 < findO L b := by have := hf'.out; omega
    have ha : Hid (∀ (a : Ending), a = .returned (.tuple #[.int .i64 (findO L b : Int), .int .i64 0]) → RPutAnsX tyX restX w m (.slice ad L.length cap) n L b a w) := by
      show ∀ _, _
      rintro _ rfl
      refine ⟨?_, .slice ad L.length cap, ?_, Offs.of_below (RowKit.Below.refl _ _), fun j hj => Or.inl hj⟩
      · unfold putI putE; rw [if_pos hf'.out, if_pos hf'.out]
      · unfold putM putL; rw [if_pos hf'.out, if_pos hf'.out]; exact HR.out
    clear hf
    generalize findO L b = F at *
    go_enter Tryz.func59, Tryz.ntmps59
    go_wp2_with fail
    refine HF.mono ?_
    rintro e w1 ⟨rfl, rfl⟩
    go_wp2_with fail
    exact bodyPost_ret (v := .tuple #[.int .i64 (F : Int), .int .i64 0]) (by simp [results, Tryz.results59, go_sem]) rfl (ha.out _ rfl)
  · have hf' : findO L b = 0 := by simpa using hf
    have HF0 := hideO hf'
    rw [hf'] at HF
    clear hf hf'
    go_enter Tryz.func59, Tryz.ntmps59
    go_wp2_with fail
    refine HF.mono ?_
    rintro e w1 ⟨rfl, rfl⟩
    go_wp2_with fail
    go_loopw [7, 8] (fun s i wr => ∃ (k : Nat), k ≤ L.length ∧ i = .int .i64 k ∧ s = .int .i64 (wr64 (b.length + sizeO (L.take k) : Nat)) ∧ wr = w1) (fun _ i wr => L.length - (intOf i).toNat)
    case atStart => exact ⟨0, by omega, rfl, by simp [sizeO]; rw [wr64_id (by omega) (by omega)], rfl⟩
    case round =>
      obtain ⟨k, hk, rfl, rfl, rfl⟩ := hrel
      by_cases hlt : k < L.length
      · obtain ⟨g, cap', e1, c0, c1⟩ := ownO_at Ho.out k hlt
        obtain ⟨rfl, _, rfl⟩ := Value.slice.inj e1
        have i0 : (0 : Int) ≤ (k : Int) := by omega
        have i1 : (k : Int) < (L.length : Int) := by omega
        have hk1 := sizeO_takeX hlt
        have Hk1 := hideO hk1
        clear e1 hk1
        go_wp2
        exact ⟨⟨k + 1, by omega, by go_num, by rw [Hk1.out]; refine congrArg (Value.int .i64) ?_; unfold wr64; simp only [RowKit.wrap64]; omega, by trivial⟩, by simp [intOf]; omega⟩
      · obtain rfl : k = L.length := by omega
        rw [List.take_length]
        have hF : Hid (∀ z, wr64 (b.length + sizeO L : Nat) = z → fullO L b = decide (300 ≤ L.length ∨ 60000 < z)) := by
          show ∀ _, _
          rintro _ rfl
          rfl
        have hF := hideO (hF.out _ rfl)
        clear hk hlt
        generalize wr64 (b.length + sizeO L : Nat) = z at *
        cases hful : (decide (300 ≤ L.length ∨ 60000 < z))
        · have hno : ¬ (300 ≤ L.length ∨ 60000 < z) := by simpa using hful
          have h3 : ¬ 300 ≤ L.length := fun h => hno (Or.inl h)
          have h6 : ¬ 60000 < z := fun h => hno (Or.inr h)
          rw [hful] at hF
          clear hno hful
          obtain ⟨g, cap', W9, hr9, k9, z9, l9, hR9, hO9, hB9⟩ := r_pushX HR.out b 51 hL ((n : Int) + 1) (by omega) _ rfl
          have hfin : Hid (RPutAnsX tyX restX wr m (.slice ad L.length cap) n L b (.returned (.tuple #[.int .i64 ((n : Int) + 1), .int .i64 0])) (W9.setCell ⟨m, 1, none⟩ (.slice (some ⟨g, 0, none⟩) (L.length + 1) cap'))) := by
            have e0 : ¬ findO L b ≠ 0 := fun h => h HF0.out
            have e1 : ¬ fullO L b = true := by rw [hF.out]; decide
            refine ⟨?_, _, ?_, hO9, hB9⟩
            · unfold putI putE; rw [if_neg e0, if_neg e1, if_neg e0, if_neg e1]; rfl
            · unfold putM putL; rw [if_neg e0, if_neg e1, if_neg e0, if_neg e1]; exact hR9
          clear hb HF Ho HF0 hF HR hR9 hO9 hB9
          have t0 : (wr.setCell ⟨m, 0, none⟩ (.int .i64 ((n : Int) + 1))).cell? ⟨m, 0, none⟩ = some (.int .i64 ((n : Int) + 1)) := World.cell?_setCell_same' _ _ _ (by rw [s0]; rfl)
          have t1 : (wr.setCell ⟨m, 0, none⟩ (.int .i64 ((n : Int) + 1))).cell? ⟨m, 1, none⟩ = some (.slice ad L.length cap) := by rw [World.cell?_setCell_other _ _ _ _ (by simp)]; exact s1
          have tz : (wr.setCell ⟨m, 0, none⟩ (.int .i64 ((n : Int) + 1))).heap.size = wr.heap.size := by simp [World.setCell]
          have hmz : m < (wr.setCell ⟨m, 0, none⟩ (.int .i64 ((n : Int) + 1))).heap.size := by rw [tz]; exact World.block_lt_of_cell? wr _ s0
          rw [← tz] at hr9
          clear tz
          go_wp2_with fail
          generalize wr.setCell ⟨m, 0, none⟩ (.int .i64 ((n : Int) + 1)) = W1 at *
          go_region_law (first
            | (refine step_appendOX rfl (.tmp 58) (.tmp 65) 51 rfl _ _ rfl rfl hr9 ?_))
          all_goals go_wp2_with fail
          all_goals exact bodyPost_ret (v := .tuple #[.int .i64 ((n : Int) + 1), .int .i64 0]) (by simp [results, Tryz.results59, go_sem]) rfl hfin.out
        · have hfin : Hid (RPutAnsX tyX restX wr m (.slice ad L.length cap) n L b (.returned (.tuple #[.int .i64 0, .int .i64 4])) wr) := by
            have e0 : ¬ findO L b ≠ 0 := fun h => h HF0.out
            have e1 : fullO L b = true := by rw [hF.out, hful]
            refine ⟨?_, _, ?_, Offs.of_below (RowKit.Below.refl _ _), fun j hj => Or.inl hj⟩
            · unfold putI putE; rw [if_neg e0, if_pos e1, if_neg e0, if_pos e1]; rfl
            · unfold putM putL; rw [if_neg e0, if_pos e1, if_neg e0, if_pos e1]; exact HR.out
          by_cases h3 : 300 ≤ L.length
          · clear hful hF
            go_wp2_with fail
            exact bodyPost_ret (v := .tuple #[.int .i64 0, .int .i64 4]) (by simp [results, Tryz.results59, go_sem]) rfl hfin.out
          · have h6 : 60000 < z := by simp [h3] at hful; exact hful
            clear hful hF
            go_wp2_with fail
            exact bodyPost_ret (v := .tuple #[.int .i64 0, .int .i64 4]) (by simp [results, Tryz.results59, go_sem]) rfl hfin.out

end Go.Proofs.YtnphjdckdkjopaaGreatDoor

/- The document's repo (package strataref2) in memory. -/
namespace Go.Proofs.YtnphjdckdkjopaaGreatDoor
open Go Go.RowKit Go.Proofs
set_option synthInstance.maxSize 1000

/-- the repo at block m: its store, and three rows; P: where the parents lie; graphs lie below B0 -/
structure RepW (w : World) (B0 m : Nat) (v cv gv rv : Value) (R : Rp) (P : Nat → Prop) : Prop where
  st : RAtX 56 [cv, gv, rv] w m v R.n R.L
  com : ∃ cs : List Value, w.ownsRow (m + 1) 113 3 cv R.coms.length cs ∧ ∀ (i : Nat) (hi : i < R.coms.length), ∃ a c, cs[i * 3]? = some (.slice a R.coms[i].1.length c) ∧ cs[i * 3 + 1]? = some (.int .i64 R.coms[i].2.1) ∧ cs[i * 3 + 2]? = some (.string ⟨R.coms[i].2.2.toArray⟩) ∧ SlI w a R.coms[i].1 ∧ (R.coms[i].1 ≠ [] → ∀ d, a = some d → P d.block)
  gr : ∃ cs : List Value, w.ownsRow (m + 1) 42 1 gv R.gr.length cs ∧ ∀ (i : Nat) (hi : i < R.gr.length), ∃ a c, cs[i]? = some (.slice a R.gr[i].length c) ∧ SlT w a R.gr[i] ∧ (R.gr[i] ≠ [] → ∀ d, a = some d → d.block < B0)
  ref : w.ownsRow (m + 1) 48 2 rv R.refs.length (cellsF R.refs)
  base : B0 ≤ m
  pty : ∀ j, P j → m < j ∧ ∃ cur, w.heap[j]? = some (.cells cur 3 (0, 0))
/-- the blocks that it owns -/
def RepO (m : Nat) (v cv gv rv : Value) (P : Nat → Prop) (j : Nat) : Prop := j = m ∨ v.ownBlock = some j ∨ cv.ownBlock = some j ∨ gv.ownBlock = some j ∨ rv.ownBlock = some j ∨ P j
theorem RepW.lt {w : World} {B0 m : Nat} {v cv gv rv : Value} {R : Rp} {P : Nat → Prop} (h : RepW w B0 m v cv gv rv R P) : m < w.heap.size := h.st.lt
theorem RepW.own {w : World} {B0 m : Nat} {v cv gv rv : Value} {R : Rp} {P : Nat → Prop} (h : RepW w B0 m v cv gv rv R P) : ∀ j, RepO m v cv gv rv P j → m ≤ j ∧ j < w.heap.size := by
  obtain ⟨cs, hc, _⟩ := h.com
  obtain ⟨gs, hg, _⟩ := h.gr
  rintro j (rfl | hj | hj | hj | hj | hj)
  · exact ⟨Nat.le_refl _, h.lt⟩
  · have := h.st.2.lt j hj; omega
  · have := hc.lt j hj; omega
  · have := hg.lt j hj; omega
  · have := h.ref.lt j hj; omega
  · obtain ⟨h1, cur, h2⟩ := h.pty j hj
    exact ⟨by omega, (Array.getElem?_eq_some_iff.1 h2).1⟩
theorem row_keep {w w' : World} {base : Nat} {e : TypeId} {sz : Nat} {v : Value} {n : Nat} {cs : List Value} (h : w.ownsRow base e sz v n cs) (hb : ∀ j, v.ownBlock = some j → w'.heap[j]? = w.heap[j]?) : w'.ownsRow base e sz v n cs := by
  refine ⟨h.1, ?_⟩
  rcases h.2 with h0 | ⟨g, cap, cur, hv, hg, hm, r⟩
  · exact Or.inl h0
  · exact Or.inr ⟨g, cap, cur, hv, hg, (hb g (by rw [hv]; rfl)).trans hm, r⟩
theorem SlI.keep {w w' : World} {ad : Option Addr} {l : List Int} (h : SlI w ad l) (hb : l ≠ [] → ∀ d, ad = some d → w'.heap[d.block]? = w.heap[d.block]?) : SlI w' ad l := fun hl => by
  obtain ⟨b, o, e, h1⟩ := h hl
  have q := hb hl _ e
  exact ⟨b, o, e, fun j hj => (World.cell?_of_block (w := w) (a := ⟨b, o + j, none⟩) q).trans (h1 j hj)⟩
theorem SlT.keepB {w w' : World} {ad : Option Addr} {l : List Tr} (h : SlT w ad l) (hb : l ≠ [] → ∀ d, ad = some d → w'.heap[d.block]? = w.heap[d.block]?) : SlT w' ad l := fun hl => by
  obtain ⟨b, o, e, h1⟩ := h hl
  have q := hb hl _ e
  exact ⟨b, o, e, fun j v hj => (World.cell?_of_block (w := w) (a := ⟨b, o + j, none⟩) q).trans (h1 j v hj)⟩
theorem RepW.keep {w w' : World} {B0 m : Nat} {v cv gv rv : Value} {R : Rp} {P : Nat → Prop} (h : RepW w B0 m v cv gv rv R P) (hb : ∀ j, (RepO m v cv gv rv P j ∨ j < B0) → w'.heap[j]? = w.heap[j]?) : RepW w' B0 m v cv gv rv R P := by
  obtain ⟨cs, hc, hc2⟩ := h.com
  obtain ⟨gs, hg, hg2⟩ := h.gr
  refine ⟨h.st.keep fun j hj => hb j (Or.inl (by rcases hj with hj | hj; exact Or.inl hj; exact Or.inr (Or.inl hj))), ⟨cs, row_keep hc fun j hj => hb j (Or.inl (Or.inr (Or.inr (Or.inl hj)))), fun i hi => ?_⟩, ⟨gs, row_keep hg fun j hj => hb j (Or.inl (Or.inr (Or.inr (Or.inr (Or.inl hj))))), fun i hi => ?_⟩, row_keep h.ref fun j hj => hb j (Or.inl (Or.inr (Or.inr (Or.inr (Or.inr (Or.inl hj)))))), h.base, fun j hj => ?_⟩
  · obtain ⟨a, c, q1, q2, q3, q4, q5⟩ := hc2 i hi
    exact ⟨a, c, q1, q2, q3, q4.keep fun hl d hd => hb _ (Or.inl (Or.inr (Or.inr (Or.inr (Or.inr (Or.inr (q5 hl d hd))))))), q5⟩
  · obtain ⟨a, c, q1, q2, q3⟩ := hg2 i hi
    exact ⟨a, c, q1, q2.keepB fun hl d hd => hb _ (Or.inr (q3 hl d hd)), q3⟩
  · obtain ⟨h1, cur, h2⟩ := h.pty j hj
    exact ⟨h1, cur, (hb j (Or.inl (Or.inr (Or.inr (Or.inr (Or.inr (Or.inr hj))))))).trans h2⟩
theorem RepW.below {w w' : World} {B0 m : Nat} {v cv gv rv : Value} {R : Rp} {P : Nat → Prop} (h : RepW w B0 m v cv gv rv R P) (hb : RowKit.Below w.heap.size w w') : RepW w' B0 m v cv gv rv R P :=
  h.keep fun j hj => hb.block j (by
    have := h.base
    have := h.lt
    rcases hj with hj | hj
    · exact (h.own j hj).2
    · omega)
theorem RepW.cells {w : World} {B0 m : Nat} {v cv gv rv : Value} {R : Rp} {P : Nat → Prop} (h : RepW w B0 m v cv gv rv R P) : w.cell? ⟨m, 2, none⟩ = some cv ∧ w.cell? ⟨m, 3, none⟩ = some gv ∧ w.cell? ⟨m, 4, none⟩ = some rv ∧ w.frozen? ⟨m, 2, none⟩ = false ∧ w.frozen? ⟨m, 3, none⟩ = false ∧ w.frozen? ⟨m, 4, none⟩ = false := by
  have h := h.st.1
  refine ⟨?_, ?_, ?_, ?_, ?_, ?_⟩ <;> simp [World.cell?, World.frozen?, h]
/-- a row's block is no other row's, by their types; nor that of the parents -/
theorem row_ty {w : World} {base : Nat} {e : TypeId} {sz : Nat} {v : Value} {n : Nat} {cs : List Value} (h : w.ownsRow base e sz v n cs) {j : Nat} (hj : v.ownBlock = some j) : ∃ cur, w.heap[j]? = some (.cells cur e (0, 0)) := by
  rcases h.2 with ⟨rfl, _⟩ | ⟨g, cap, cur, rfl, _, hm, _⟩
  · cases hj
  · have e : some g = some j := hj
    cases e
    exact ⟨cur, hm⟩
/-- the repo with another row of branches -/
theorem RepW.newRefs {w W : World} {B0 m : Nat} {v cv gv rv rv' : Value} {R : Rp} {P : Nat → Prop} {l : List Rf} (h : RepW w B0 m v cv gv rv R P) (hb : RowKit.Below w.heap.size w W) (ho : W.ownsRow w.heap.size 48 2 rv' l.length (cellsF l)) :
    RepW (W.setCell ⟨m, 4, none⟩ rv') B0 m v cv gv rv' ⟨R.n, R.L, R.coms, R.gr, l⟩ P ∧ Offs (RepO m v cv gv rv P) w (W.setCell ⟨m, 4, none⟩ rv') ∧ ∀ j, RepO m v cv gv rv' P j → RepO m v cv gv rv P j ∨ w.heap.size ≤ j := by
  have hW := h.below hb
  have hlt := h.lt
  have hbk : ∀ j, j ≠ m → (W.setCell ⟨m, 4, none⟩ rv').heap[j]? = W.heap[j]? := fun j hj => heap_setCell_other _ _ _ _ hj
  have hm : (W.setCell ⟨m, 4, none⟩ rv').heap[m]? = some (.cells (.int .i64 (R.n : Int) :: v :: [cv, gv, rv']).toArray 56) := by
    have := heap_setCell_same W m 4 _ _ rv' hW.st.1
    simpa using this
  obtain ⟨cs, hc, hc2⟩ := hW.com
  obtain ⟨gs, hg, hg2⟩ := hW.gr
  have hne : ∀ {e : TypeId} {sz : Nat} {u : Value} {n : Nat} {xs : List Value}, W.ownsRow (m + 1) e sz u n xs → ∀ j, u.ownBlock = some j → j ≠ m := fun hr j hj => by have := (hr.lt j hj).1; omega
  refine ⟨⟨⟨hm, row_keep hW.st.2 fun j hj => hbk j (hne hW.st.2 j hj)⟩, ⟨cs, row_keep hc fun j hj => hbk j (hne hc j hj), fun i hi => ?_⟩, ⟨gs, row_keep hg fun j hj => hbk j (hne hg j hj), fun i hi => ?_⟩, ?_, h.base, fun j hj => ?_⟩, ?_, ?_⟩
  · obtain ⟨a, c, q1, q2, q3, q4, q5⟩ := hc2 i hi
    exact ⟨a, c, q1, q2, q3, q4.keep fun hl d hd => hbk _ (by have := (hW.pty _ (q5 hl d hd)).1; omega), q5⟩
  · obtain ⟨a, c, q1, q2, q3⟩ := hg2 i hi
    exact ⟨a, c, q1, q2.keepB fun hl d hd => hbk _ (by have := q3 hl d hd; have := h.base; omega), q3⟩
  · refine row_keep ⟨ho.1, ?_⟩ fun j hj => hbk j ?_
    · rcases ho.2 with h0 | ⟨g, cap, cur, hv, hgb, r⟩
      · exact Or.inl h0
      · exact Or.inr ⟨g, cap, cur, hv, by omega, r⟩
    · have := (ho.lt j hj).1; omega
  · obtain ⟨h1, cur, h2⟩ := hW.pty j hj
    exact ⟨h1, cur, (hbk j (by omega)).trans h2⟩
  · refine ⟨hb.os, hb.tape, hb.output, by have := hb.size; simpa using this, fun k hk hO => ?_⟩
    exact (hbk k fun e => hO (Or.inl e)).trans (hb.block k hk)
  · rintro j (hj | hj | hj | hj | hj | hj)
    · exact Or.inl (Or.inl hj)
    · exact Or.inl (Or.inr (Or.inl hj))
    · exact Or.inl (Or.inr (Or.inr (Or.inl hj)))
    · exact Or.inl (Or.inr (Or.inr (Or.inr (Or.inl hj))))
    · exact Or.inr (ho.lt j hj).1
    · exact Or.inl (Or.inr (Or.inr (Or.inr (Or.inr (Or.inr hj)))))
end Go.Proofs.YtnphjdckdkjopaaGreatDoor

/- The document's answer (package strataref1): letter, digit, Letters, right. -/
namespace Go.Proofs.YtnphjdckdkjopaaGreatDoor
open Go Go.RowKit Go.Proofs

theorem letter_any (n : Int) (w : World) :
    Calls Tryz.prog 22 #[.int .u8 n] w fun e w' => e = .returned (.bool (letB n)) ∧ w' = w := by
  by_cases h1 : 97 ≤ n
  all_goals
    go_enter Tryz.func22, Tryz.ntmps22
    go_wp2
    go_ret
    exact ⟨ret_bool (by first | exact decide_eq_decide.2 (by omega) | exact (decide_eq_false (by omega)).symm), rfl⟩

theorem digit_any (n : Int) (w : World) :
    Calls Tryz.prog 155 #[.int .u8 n] w fun e w' => e = .returned (.bool (digB n)) ∧ w' = w := by
  by_cases h1 : 48 ≤ n
  all_goals
    go_enter Tryz.func155, Tryz.ntmps155
    go_wp2
    go_ret
    exact ⟨ret_bool (by first | exact decide_eq_decide.2 (by omega) | exact (decide_eq_false (by omega)).symm), rfl⟩

theorem allL_take (p : Int → Bool) (S : List UInt8) (k : Nat) (h : k < S.length) : allB p (S.take (k + 1)) = (allB p (S.take k) && p (S[k].toNat : Int)) := by
  unfold allB
  rw [List.take_succ_eq_append_getElem h]
  simp only [List.all_append, List.all_cons, List.all_nil, Bool.and_true]

theorem allL_false (p : Int → Bool) (S : List UInt8) (k : Nat) (h : k < S.length) (hp : p (S[k].toNat : Int) = false) : allB p S = false := by
  unfold allB
  rw [List.all_eq_false]
  exact ⟨S[k], List.getElem_mem _, by rw [hp]; simp⟩

/-- one to two letters -/
def lettersB (L : List UInt8) : Bool := !L.isEmpty && (decide (L.length ≤ 2) && allB letB L)

set_option maxHeartbeats 400000 in
theorem Letters_any (L : List UInt8) (w : World) (hl : L.length ≤ maxLen) :
    Calls Tryz.prog 7 #[.string ⟨L.toArray⟩, .int .i64 2] w fun e w' => e = .returned (.bool (lettersB L)) ∧ w' = w := by
  unfold maxLen at hl
  cases L with
  | nil =>
    go_enter Tryz.func7, Tryz.ntmps7
    go_wp2
    go_ret
    exact ⟨rfl, rfl⟩
  | cons c r =>
    have fin : Hid (lettersB (c :: r) = (decide ((c :: r).length ≤ 2) && allB letB (c :: r))) := rfl
    generalize hL : c :: r = L at *
    have hne : ¬ L = [] := by rw [← hL]; simp
    have hne' : L.isEmpty = false := by rw [← hL]; rfl
    clear hL
    by_cases h2 : L.length ≤ 2
    · go_enter Tryz.func7, Tryz.ntmps7
      go_wp2
      go_loop [5] (fun i => ∃ k : Nat, k ≤ L.length ∧ i = .int .i64 k ∧ Hid (allB letB (L.take k) = true)) (fun i => L.length - (intOf i).toNat)
      case atStart => exact ⟨0, Nat.zero_le _, rfl, rfl⟩
      case round =>
        obtain ⟨k, hk, rfl, hall⟩ := hrel
        by_cases hlt : k < L.length
        · have hidx : ∀ h, (⟨L.toArray⟩ : ByteArray)[k]'h = L[k] := fun _ => rfl
          cases hp : letB (L[k].toNat : Int)
          · go_wp2_with (go_at_call 22; refine (letter_any _ _).mono ?_; rintro e w' ⟨rfl, rfl⟩)
            go_ret
            exact ⟨ret_bool (by rw [fin.out, allL_false letB L k hlt hp]; simp), rfl⟩
          · go_wp2_with (go_at_call 22; refine (letter_any _ _).mono ?_; rintro e w' ⟨rfl, rfl⟩)
            refine ⟨⟨k + 1, by omega, by go_num, ?_⟩, by simp [intOf]; omega⟩
            show _ = _
            rw [allL_take letB L k hlt, hall.out, hp]; rfl
        · go_wp2
          go_ret
          have e := hall.out
          rw [List.take_of_length_le (by omega)] at e
          exact ⟨ret_bool (by rw [fin.out, e]; simp [h2]), rfl⟩
    · go_enter Tryz.func7, Tryz.ntmps7
      go_wp2
      go_ret
      exact ⟨ret_bool (by rw [fin.out]; simp [h2]), rfl⟩

set_option maxHeartbeats 1000000 in
theorem right_text (S : List UInt8) (w : World) (hl : S.length ≤ maxLen) :
    Calls Tryz.prog 122 #[.int .i64 3, .string ⟨S.toArray⟩] w fun e w' => e = .returned (.bool (textOk S)) ∧ w' = w := by
  unfold maxLen at hl
  cases S with
  | nil =>
    go_enter Tryz.func122, Tryz.ntmps122
    go_wp2
    go_ret
    exact ⟨rfl, rfl⟩
  | cons c r =>
    have fin : Hid (textOk (c :: r) = allB textB (c :: r)) := rfl
    generalize hL : c :: r = L at *
    have hne : ¬ L = [] := by rw [← hL]; simp
    have hne' : L.isEmpty = false := by rw [← hL]; rfl
    clear hL
    go_enter Tryz.func122, Tryz.ntmps122
    go_wp2
    go_loop [5] (fun i => ∃ k : Nat, k ≤ L.length ∧ i = .int .i64 k ∧ Hid (allB textB (L.take k) = true)) (fun i => L.length - (intOf i).toNat)
    case atStart => exact ⟨0, Nat.zero_le _, rfl, rfl⟩
    case round =>
      obtain ⟨k, hk, rfl, hall⟩ := hrel
      by_cases hlt : k < L.length
      · have hidx : ∀ h, (⟨L.toArray⟩ : ByteArray)[k]'h = L[k] := fun _ => rfl
        have ht : Hid (textB (L[k].toNat : Int) = decide (32 ≤ (L[k].toNat : Int) ∧ (L[k].toNat : Int) ≤ 126)) := rfl
        by_cases h1 : (L[k].toNat : Int) < 32
        · go_wp2_with (first
            | (go_at_call 22; refine (letter_any _ _).mono ?_; rintro e w' ⟨rfl, rfl⟩)
            | (go_at_call 155; refine (digit_any _ _).mono ?_; rintro e w' ⟨rfl, rfl⟩))
          go_ret
          exact ⟨ret_bool (by rw [fin.out, allL_false textB L k hlt (by rw [ht.out]; simp; omega)]), rfl⟩
        · by_cases h2 : 126 < (L[k].toNat : Int)
          · go_wp2_with (first
              | (go_at_call 22; refine (letter_any _ _).mono ?_; rintro e w' ⟨rfl, rfl⟩)
              | (go_at_call 155; refine (digit_any _ _).mono ?_; rintro e w' ⟨rfl, rfl⟩))
            go_ret
            exact ⟨ret_bool (by rw [fin.out, allL_false textB L k hlt (by rw [ht.out]; simp; omega)]), rfl⟩
          · go_wp2_with (first
              | (go_at_call 22; refine (letter_any _ _).mono ?_; rintro e w' ⟨rfl, rfl⟩)
              | (go_at_call 155; refine (digit_any _ _).mono ?_; rintro e w' ⟨rfl, rfl⟩))
            refine ⟨⟨k + 1, by omega, by go_num, ?_⟩, by simp [intOf]; omega⟩
            show _ = _
            rw [allL_take textB L k hlt, hall.out, ht.out]
            simp; omega
      · go_wp2
        go_ret
        have e := hall.out
        rw [List.take_of_length_le (by omega)] at e
        exact ⟨ret_bool (by rw [fin.out, e]), rfl⟩
end Go.Proofs.YtnphjdckdkjopaaGreatDoor

/- The document's repo (package strataref2): Head, Branch, Move. -/
namespace Go.Proofs.YtnphjdckdkjopaaGreatDoor
open Go Go.RowKit Go.Proofs
set_option synthInstance.maxSize 1000

set_option maxHeartbeats 400000 in
theorem RName_any (L : List UInt8) (w : World) (hl : L.length ≤ maxLen) :
    Calls Tryz.prog 7 #[.string ⟨L.toArray⟩, .int .i64 10] w fun e w' => e = .returned (.bool (nameR L)) ∧ w' = w := by
  unfold maxLen at hl
  cases L with
  | nil =>
    go_enter Tryz.func7, Tryz.ntmps7
    go_wp2
    go_ret
    exact ⟨rfl, rfl⟩
  | cons c r =>
    have fin : Hid (nameR (c :: r) = (decide ((c :: r).length ≤ 10) && allB letB (c :: r))) := rfl
    generalize hL : c :: r = L at *
    have hne : ¬ L = [] := by rw [← hL]; simp
    have hne' : L.isEmpty = false := by rw [← hL]; rfl
    clear hL
    by_cases h2 : L.length ≤ 10
    · go_enter Tryz.func7, Tryz.ntmps7
      go_wp2
      go_loop [5] (fun i => ∃ k : Nat, k ≤ L.length ∧ i = .int .i64 k ∧ Hid (allB letB (L.take k) = true)) (fun i => L.length - (intOf i).toNat)
      case atStart => exact ⟨0, Nat.zero_le _, rfl, rfl⟩
      case round =>
        obtain ⟨k, hk, rfl, hall⟩ := hrel
        by_cases hlt : k < L.length
        · have hidx : ∀ h, (⟨L.toArray⟩ : ByteArray)[k]'h = L[k] := fun _ => rfl
          cases hp : letB (L[k].toNat : Int)
          · go_wp2_with (go_at_call 22; refine (letter_any _ _).mono ?_; rintro e w' ⟨rfl, rfl⟩)
            go_ret
            exact ⟨ret_bool (by rw [fin.out, allL_false letB L k hlt hp]; simp), rfl⟩
          · go_wp2_with (go_at_call 22; refine (letter_any _ _).mono ?_; rintro e w' ⟨rfl, rfl⟩)
            refine ⟨⟨k + 1, by omega, by go_num, ?_⟩, by simp [intOf]; omega⟩
            show _ = _
            rw [allL_take letB L k hlt, hall.out, hp]; rfl
        · go_wp2
          go_ret
          have e := hall.out
          rw [List.take_of_length_le (by omega)] at e
          exact ⟨ret_bool (by rw [fin.out, e]; simp [h2]), rfl⟩
    · go_enter Tryz.func7, Tryz.ntmps7
      go_wp2
      go_ret
      exact ⟨ret_bool (by rw [fin.out]; simp [h2]), rfl⟩

/-- the repo behind a change -/
def RepTo (w : World) (B0 m : Nat) (O : Nat → Prop) (R : Rp) (w' : World) : Prop :=
  ∃ v cv gv rv P, RepW w' B0 m v cv gv rv R P ∧ Offs O w w' ∧ ∀ j, RepO m v cv gv rv P j → O j ∨ w.heap.size ≤ j
theorem RepTo.same {w : World} {B0 m : Nat} {v cv gv rv : Value} {R : Rp} {P : Nat → Prop} (h : RepW w B0 m v cv gv rv R P) : RepTo w B0 m (RepO m v cv gv rv P) R w :=
  ⟨v, cv, gv, rv, P, h, Offs.of_below (RowKit.Below.refl _ _), fun _ hj => Or.inl hj⟩
theorem RepTo.lead {w W : World} {B0 m : Nat} {v cv gv rv v' : Value} {R : Rp} {P : Nat → Prop} {b : List UInt8} {t : Nat} (h : RepW w B0 m v cv gv rv R P) (hb : RowKit.Below w.heap.size w W) (ho : W.ownsRow w.heap.size 48 2 v' (leadR R.refs b t).length (cellsF (leadR R.refs b t))) : RepTo w B0 m (RepO m v cv gv rv P) (leadTo R b t) (W.setCell ⟨m, 4, none⟩ v') := by
  obtain ⟨h1, h2, h3⟩ := h.newRefs hb ho
  exact ⟨v, cv, gv, v', P, h1, h2, h3⟩
/-- the commits' row, as far as its length goes -/
theorem RepW.comForm {w : World} {B0 m : Nat} {v cv gv rv : Value} {R : Rp} {P : Nat → Prop} (h : RepW w B0 m v cv gv rv R P) : ∃ ad cap, cv = .slice ad R.coms.length cap := by
  obtain ⟨cs, hc, _⟩ := h.com
  rcases hc.2 with ⟨rfl, h0⟩ | ⟨g, cap, cur, rfl, _⟩
  · exact ⟨none, 0, by rw [h0]⟩
  · exact ⟨_, cap, rfl⟩

end Go.Proofs.YtnphjdckdkjopaaGreatDoor

/- errors.As at a target of type api.Errno, of an error that is one; plain.Told. Go's own text is walked; the facts are on the model's entries for internal/reflectlite at this program's types. -/
namespace Go.Proofs.YtnphjdckdkjopaaGreatDoor
open Go Go.RowKit Go.Extern.Stop Go.Stop Go.Extern

theorem valueOfP (t : Addr) (w : World) : (ReflectliteValue.unpack (.iface 104 (.pointer (some t)))).run Tryz.prog w
    = .ok (.agg #[.pointer (some ⟨7, 104, none⟩), .pointer (some ⟨w.heap.size, 0, none⟩), .int .u64 150]) (w.alloc (.cells #[.pointer (some t)] 104)) := by kernel_rfl
theorem typeP (a : Addr) (w : World) : (ReflectliteValue.methodAny (ReflectliteValue.valueError "reflectlite.Value.Type" 0) (fun t _ _ _ => ReflectliteType.toType t) #[.agg #[.pointer (some ⟨7, 104, none⟩), .pointer (some a), .int .u64 150]]).run Tryz.prog w
    = .ok (.iface 174 (.agg #[.pointer (some ⟨7, 104, none⟩)])) w := by kernel_rfl
theorem kindP (w : World) : ((ReflectliteType.abiMethod fun t => (fun a : Nat => Value.int IntKind.u8 (a : Int)) <$> Rtype.kind t) #[.pointer (some ⟨7, 104, none⟩)]).run Tryz.prog w = .ok (.int .u8 22) w := by kernel_rfl
theorem kindE (w : World) : ((ReflectliteType.abiMethod fun t => (fun a : Nat => Value.int IntKind.u8 (a : Int)) <$> Rtype.kind t) #[.pointer (some ⟨7, 72, none⟩)]).run Tryz.prog w = .ok (.int .u8 2) w := by kernel_rfl
theorem methodKind (h : Value) (w : World) : (Go.method 431 174 (.agg #[h]) "Kind").run Tryz.prog w = .ok (266, h) w := by kernel_rfl
theorem methodElem (h : Value) (w : World) : (Go.method 431 174 (.agg #[h]) "Elem").run Tryz.prog w = .ok (276, .agg #[h]) w := by kernel_rfl
theorem methodImplements (h : Value) (w : World) : (Go.method 431 174 (.agg #[h]) "Implements").run Tryz.prog w = .ok (277, .agg #[h]) w := by kernel_rfl
theorem methodAssignableTo (h : Value) (w : World) : (Go.method 431 174 (.agg #[h]) "AssignableTo").run Tryz.prog w = .ok (274, .agg #[h]) w := by kernel_rfl
theorem rlm (z : Sem Value) (f : TypeId → Addr → Nat → Nat → Sem Value) (v : Value) :
    ReflectliteValue.method z f #[v] = (do match ← ReflectliteValue.parts v with | none => z | some (t, a, fl) => f t a fl (fl % 32)) := rfl
theorem partsP (a : Addr) (w : World) : (ReflectliteValue.parts (.agg #[.pointer (some ⟨7, 104, none⟩), .pointer (some a), .int .u64 150])).run Tryz.prog w = .ok (some (104, a, 150)) w := by kernel_rfl
theorem isNilP (a p : Addr) (W : World) (ha : W.cell? a = some (.pointer (some p))) :
    (ReflectliteValue.method (ReflectliteValue.valueError "reflectlite.Value.IsNil" 0) ReflectliteValue.isNil #[.agg #[.pointer (some ⟨7, 104, none⟩), .pointer (some a), .int .u64 150]]).run Tryz.prog W = .ok (.bool false) W := by
  rw [rlm]
  simp only [Sem.run_bind, partsP, Result.andThen]
  simp [ReflectliteValue.isNil, loadVar, isAgg, underlying, Tryz.underlying104, ha, Result.andThen]
theorem elemTP (w : World) : (ReflectliteType.method ReflectliteType.elem #[.agg #[.pointer (some ⟨7, 104, none⟩)]]).run Tryz.prog w = .ok (.iface 174 (.agg #[.pointer (some ⟨7, 72, none⟩)])) w := by kernel_rfl
theorem implementsE (w : World) : (ReflectliteType.relation "Implements" ReflectliteType.implements_ #[.agg #[.pointer (some ⟨7, 72, none⟩)], .iface 174 (.agg #[.pointer (some ⟨7, 28, none⟩)])]).run Tryz.prog w = .ok (.bool true) w := by kernel_rfl
theorem typeOfE (v : Value) (w : World) : (ReflectliteType.typeOf #[.iface 72 v]).run Tryz.prog w = .ok (.iface 174 (.agg #[.pointer (some ⟨7, 72, none⟩)])) w := by kernel_rfl
theorem assignableE (w : World) : (ReflectliteType.relation "AssignableTo" ReflectliteType.assignableTo #[.agg #[.pointer (some ⟨7, 72, none⟩)], .iface 174 (.agg #[.pointer (some ⟨7, 72, none⟩)])]).run Tryz.prog w = .ok (.bool true) w := by kernel_rfl
theorem valueOfE (n : Int) (w : World) : (ReflectliteValue.unpack (.iface 72 (.int .i64 n))).run Tryz.prog w
    = .ok (.agg #[.pointer (some ⟨7, 72, none⟩), .pointer (some ⟨w.heap.size, 0, none⟩), .int .u64 130]) (w.alloc (.cells #[.int .i64 n] 72)) := by kernel_rfl
theorem elemOfP (w : World) : (Rtype.elem? 104).run Tryz.prog w = .ok (some 72) w := by kernel_rfl
theorem mkE (p : Addr) (w : World) : (ReflectliteValue.mk 72 p ReflectliteValue.flagAddr).run Tryz.prog w = .ok (.agg #[.pointer (some ⟨7, 72, none⟩), .pointer (some p), .int .u64 386]) w := by kernel_rfl
theorem elemVP (a p : Addr) (W : World) (ha : W.cell? a = some (.pointer (some p))) :
    (ReflectliteValue.method (ReflectliteValue.valueError "reflectlite.Value.Elem" 0) ReflectliteValue.elem #[.agg #[.pointer (some ⟨7, 104, none⟩), .pointer (some a), .int .u64 150]]).run Tryz.prog W
      = .ok (.agg #[.pointer (some ⟨7, 72, none⟩), .pointer (some p), .int .u64 386]) W := by
  rw [rlm]
  simp only [Sem.run_bind, partsP, Result.andThen]
  simp [ReflectliteValue.elem, loadVar, isAgg, underlying, Tryz.underlying104, ha, Result.andThen, elemOfP, mkE]
theorem partsEa (a : Addr) (w : World) : (ReflectliteValue.parts (.agg #[.pointer (some ⟨7, 72, none⟩), .pointer (some a), .int .u64 386])).run Tryz.prog w = .ok (some (72, a, 386)) w := by kernel_rfl
theorem partsE (a : Addr) (w : World) : (ReflectliteValue.parts (.agg #[.pointer (some ⟨7, 72, none⟩), .pointer (some a), .int .u64 130])).run Tryz.prog w = .ok (some (72, a, 130)) w := by kernel_rfl
theorem directE (w : World) : (Rtype.directlyAssignable 72 72).run Tryz.prog w = .ok true w := by kernel_rfl
theorem setE (ta b : Addr) (n : Int) (old : Value) (W : World) (hb : W.cell? b = some (.int .i64 n)) (ht : W.cell? ta = some old) (hf : W.frozen? ta = false) :
    (ReflectliteValue.set #[.agg #[.pointer (some ⟨7, 72, none⟩), .pointer (some ta), .int .u64 386], .agg #[.pointer (some ⟨7, 72, none⟩), .pointer (some b), .int .u64 130]]).run Tryz.prog W
      = .ok (.tuple #[]) (W.setCell ta (.int .i64 n)) := by
  change Sem.run _ (ReflectliteValue.parts (.agg #[.pointer (some ⟨7, 72, none⟩), .pointer (some ta), .int .u64 386]) >>= fun p1 => ReflectliteValue.parts (.agg #[.pointer (some ⟨7, 72, none⟩), .pointer (some b), .int .u64 130]) >>= fun p2 => _) _ = _
  simp only [Sem.run_bind, partsEa, partsE, Result.andThen]
  simp [ReflectliteValue.flagAddr, loadVar, isAgg, underlying, Tryz.underlying72, hb, Result.andThen, directE, storeVar, Value.cells, storeCells, Addr.add]
  rw [run_store Tryz.prog W ta _ _ (by rfl)]
  simp [ht, hf]

end Go.Proofs.YtnphjdckdkjopaaGreatDoor
