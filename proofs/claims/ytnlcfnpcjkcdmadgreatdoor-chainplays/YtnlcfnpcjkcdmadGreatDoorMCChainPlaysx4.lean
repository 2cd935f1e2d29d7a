import Derived.Test.YtnlcfnpcjkcdmadGreatDoorMCChainPlaysx3
import Derived.Test.YtnlcfnpcjkcdmadGreatDoorMCChainPlaysx0
import Derived.Deep.Draws
import Derived.RegionTactic
import Derived.Deep.RegionHeld3
import Derived.Deep.DeepCutAuto
import Derived.OwnWalk
import Derived.Test.YtnlcfnpcjkcdmadGreatDoorMCChainPlaysx2
import Derived.Test.YtnlcfnpcjkcdmadGreatDoorRows
import Derived.WalkKit
import Derived.Maps.AppendAt

/- The document's Vars, and what it leans on: Slots, Three, Letters up to ten, Has; lists of texts held against one another. -/
namespace Go.Proofs.YtnlcfnpcjkcdmadGreatDoor
open Go Go.RowKit Go.Proofs Go.Maps
set_option synthInstance.maxSize 1000

/-- one to ten letters -/
def lettersTenB (L : List UInt8) : Bool := !L.isEmpty && (decide (L.length ≤ 10) && allB letB L)
theorem ten_spell {v : List UInt8} (h : ¬ v = []) : lettersTenB v = spellV v := by
  cases v with
  | nil => exact absurd rfl h
  | cons c r => rfl

set_option maxHeartbeats 400000 in
theorem LettersTen_any (L : List UInt8) (w : World) (hl : L.length ≤ maxLen) :
    Calls Tryz.prog 51 #[.string ⟨L.toArray⟩, .int .i64 10] w fun e w' => e = .returned (.bool (lettersTenB L)) ∧ w' = w := by
  unfold maxLen at hl
  cases L with
  | nil =>
    go_enter Tryz.func51, Tryz.ntmps51
    go_wp2
    go_ret
    exact ⟨rfl, rfl⟩
  | cons c r =>
    have fin : Hid (lettersTenB (c :: r) = (decide ((c :: r).length ≤ 10) && allB letB (c :: r))) := rfl
    generalize hL : c :: r = L at *
    have hne : ¬ L = [] := by rw [← hL]; simp
    have hne' : L.isEmpty = false := by rw [← hL]; rfl
    clear hL
    by_cases h2 : L.length ≤ 10
    · go_enter Tryz.func51, Tryz.ntmps51
      go_wp2
      go_loop [5] (fun i => ∃ k : Nat, k ≤ L.length ∧ i = .int .i64 k ∧ Hid (allB letB (L.take k) = true)) (fun i => L.length - (intOf i).toNat)
      case atStart => exact ⟨0, Nat.zero_le _, rfl, rfl⟩
      case round =>
        obtain ⟨k, hk, rfl, hall⟩ := hrel
        by_cases hlt : k < L.length
        · have hidx : ∀ h, (⟨L.toArray⟩ : ByteArray)[k]'h = L[k] := fun _ => rfl
          cases hp : letB (L[k].toNat : Int)
          · go_wp2_with (go_at_call 91; refine (letter_any _ _).mono ?_; rintro e w' ⟨rfl, rfl⟩)
            go_ret
            exact ⟨ret_bool (by rw [fin.out, allL_false letB L k hlt hp]; simp), rfl⟩
          · go_wp2_with (go_at_call 91; refine (letter_any _ _).mono ?_; rintro e w' ⟨rfl, rfl⟩)
            refine ⟨⟨k + 1, by omega, by go_num, ?_⟩, by simp [intOf]; omega⟩
            show _ = _
            rw [allL_take letB L k hlt, hall.out, hp]; rfl
        · go_wp2
          go_ret
          have e := hall.out
          rw [List.take_of_length_le (by omega)] at e
          exact ⟨ret_bool (by rw [fin.out, e]; simp [h2]), rfl⟩
    · go_enter Tryz.func51, Tryz.ntmps51
      go_wp2
      go_ret
      exact ⟨ret_bool (by rw [fin.out]; simp [h2]), rfl⟩


theorem RSlots_any (p : Pt) (w : World) : Calls Tryz.prog 50 #[valPt p] w fun e w' => ∃ b, e = .returned (.slice (some ⟨b, 0, none⟩) 3 3) ∧ PatAt w' b p ∧ Below w.heap.size w w' := by
  have HB : PatAt ((w.alloc (.cells (encPt p).toArray 47)).alloc (.cells (encPt p).toArray 45)) (w.heap.size + 1) p := by
    have := patBox (w.alloc (.cells (encPt p).toArray 47)) p 45
    simpa using this
  unfold valPt
  go_enter Tryz.func50, Tryz.ntmps50
  go_wp2_with fail
  go_ret
  exact ⟨_, rfl, HB, bstep (balloc _ _) (balloc _ _)⟩
theorem RThree_any (t : Tr) (w : World) : Calls Tryz.prog 58 #[valTr t] w fun e w' => ∃ b, e = .returned (.slice (some ⟨b, 0, none⟩) 3 3) ∧ TripAt w' b t ∧ Below w.heap.size w w' := by
  have HB : TripAt ((w.alloc (.cells (encTr t).toArray 88)).alloc (.cells (encTr t).toArray 43)) (w.heap.size + 1) t := by
    have := tripBox (w.alloc (.cells (encTr t).toArray 88)) t 43
    simpa using this
  unfold valTr
  go_enter Tryz.func58, Tryz.ntmps58
  go_wp2_with fail
  go_ret
  exact ⟨_, rfl, HB, bstep (balloc _ _) (balloc _ _)⟩

theorem mem_false {l : List (List UInt8)} {x : List UInt8} (h : ∀ j (hj : j < l.length), ¬ l[j] = x) : decide (x ∈ l) = false := by
  rw [decide_eq_false_iff_not]
  intro hm
  obtain ⟨j, hj, e⟩ := List.getElem_of_mem hm
  exact h j hj e

set_option maxHeartbeats 1000000 in
theorem RHas_any (ad : Option Addr) (cap : Nat) (l : List (List UInt8)) (x : List UInt8) (w : World) (h : SlV w ad l) (hn : l.length ≤ 1000000) :
    Calls Tryz.prog 52 #[.slice ad l.length cap, .string ⟨x.toArray⟩] w fun e w' => e = .returned (.bool (decide (x ∈ l))) ∧ w' = w := by
  have Hl : Hid (SlV w ad l) := h
  clear h
  generalize hd : decide (x ∈ l) = d at *
  have Hd : Hid (decide (x ∈ l) = d) := hd
  clear hd
  go_enter Tryz.func52, Tryz.ntmps52
  go_wp2_with fail
  go_loop [5] (fun i => ∃ k : Nat, k ≤ l.length ∧ i = .int .i64 k ∧ Hid (∀ j (hj : j < l.length), j < k → ¬ l[j] = x)) (fun i => l.length - (intOf i).toNat)
  case atStart => exact ⟨0, Nat.zero_le _, rfl, fun j _ h => absurd h (by omega)⟩
  case round =>
    obtain ⟨k, hk, rfl, hno⟩ := hrel
    by_cases hlt : k < l.length
    · obtain ⟨b, rfl, hr⟩ := Hl.out (by intro e; rw [e] at hlt; simp at hlt)
      have c0 := hr k hlt
      unfold encV at c0
      have i0 : (0 : Int) ≤ (k : Int) := by omega
      have i1 : (k : Int) < (l.length : Int) := by omega
      clear hr
      by_cases he : l[k] = x
      · have hd2 : (l[k] == x) = true := by simpa using he
        have hdt : Hid (d = true) := by show d = true; rw [← Hd.out]; simp; exact he ▸ List.getElem_mem hlt
        clear he
        go_wp2
        go_ret
        exact ⟨ret_bool hdt.out.symm, rfl⟩
      · have hd2 : (l[k] == x) = false := by simpa using he
        have He : Hid (¬ l[k] = x) := he
        clear he
        go_wp2
        refine ⟨⟨k + 1, by omega, by go_num, fun j hj hjk => ?_⟩, by simp [intOf]; omega⟩
        by_cases e : j = k
        · subst e; exact He.out
        · exact hno.out j hj (by omega)
    · go_wp2
      go_ret
      exact ⟨ret_bool (by rw [← Hd.out, mem_false fun j hj => hno.out j hj (by omega)]), rfl⟩

theorem take_sameV {l m : List (List UInt8)} {k : Nat} (h : l.take k = m.take k) (hl : k < l.length) (hm : k < m.length) (e : l[k] = m[k]) : l.take (k + 1) = m.take (k + 1) := by
  rw [List.take_succ_eq_append_getElem hl, List.take_succ_eq_append_getElem hm, h, e]

end Go.Proofs.YtnlcfnpcjkcdmadGreatDoor

/- The document's Fits: has a triple what a pattern asks? -/
namespace Go.Proofs.YtnlcfnpcjkcdmadGreatDoor
open Go Go.RowKit Go.Proofs Go.Maps
set_option synthInstance.maxSize 1000

/-! ### slot by slot, and each against those ahead -/
def pairB (p : Pt) (t : Tr) (i k : Nat) : Bool := if (slotK p i).1 = [] then true else if (slotK p k).1 = (slotK p i).1 then decide (termK t k = termK t i) else true
def inB (p : Pt) (t : Tr) (i : Nat) : Nat → Bool
  | 0 => true
  | k + 1 => inB p t i k && pairB p t i k
def headB (p : Pt) (t : Tr) (i : Nat) : Bool := if (slotK p i).1 = [] then decide ((slotK p i).2 = termK t i) else true
def okB (p : Pt) (t : Tr) (i : Nat) : Bool := headB p t i && inB p t i i
def restR (p : Pt) (t : Tr) (i : Nat) : Bool := if i = 0 then okB p t 0 && (okB p t 1 && okB p t 2) else if i = 1 then okB p t 1 && okB p t 2 else if i = 2 then okB p t 2 else true
theorem restR_step (p : Pt) (t : Tr) (i : Nat) (hi : i < 3) : restR p t i = (okB p t i && restR p t (i + 1)) := by
  rcases (by omega : i = 0 ∨ i = 1 ∨ i = 2) with rfl | rfl | rfl <;> simp [restR]
theorem inB_false {p : Pt} {t : Tr} {i k n : Nat} (h : inB p t i k = true → False ∨ pairB p t i k = false) (hk : k < n) : inB p t i n = false := by
  induction n with
  | zero => omega
  | succ m ih =>
    unfold inB
    by_cases e : k = m
    · subst e
      cases hb : inB p t i k
      · rfl
      · rcases h hb with h | h
        · exact h.elim
        · rw [h]; rfl
    · rw [ih (by omega)]; rfl

theorem fits_ref (p : Pt) (t : Tr) : restR p t 0 = fitsB p t := by
  obtain ⟨⟨v0, a0⟩, ⟨v1, a1⟩, ⟨v2, a2⟩⟩ := p
  obtain ⟨x0, x1, x2⟩ := t
  rw [Bool.eq_iff_iff]
  simp [restR, okB, headB, inB, pairB, slotK, termK, fitsB]
  grind

/-- seven, and eight, cells behind a call that lays blocks -/
theorem keep7 {W W' : World} {p0 p1 p2 p3 p4 p5 p6 : Addr} {v0 v1 v2 v3 v4 v5 v6 : Value}
    (h : W.cell? p0 = some v0 ∧ W.cell? p1 = some v1 ∧ W.cell? p2 = some v2 ∧ W.cell? p3 = some v3 ∧ W.cell? p4 = some v4 ∧ W.cell? p5 = some v5 ∧ W.cell? p6 = some v6) (hb : Below W.heap.size W W') :
    W'.cell? p0 = some v0 ∧ W'.cell? p1 = some v1 ∧ W'.cell? p2 = some v2 ∧ W'.cell? p3 = some v3 ∧ W'.cell? p4 = some v4 ∧ W'.cell? p5 = some v5 ∧ W'.cell? p6 = some v6 := by
  have q : ∀ {p : Addr} {v : Value}, W.cell? p = some v → W'.cell? p = some v := fun {p v} hp => (hb.cell (World.block_lt_of_cell? W _ hp)).trans hp
  exact ⟨q h.1, q h.2.1, q h.2.2.1, q h.2.2.2.1, q h.2.2.2.2.1, q h.2.2.2.2.2.1, q h.2.2.2.2.2.2⟩
theorem keep8 {W W' : World} {p0 p1 p2 p3 p4 p5 p6 p7 : Addr} {v0 v1 v2 v3 v4 v5 v6 v7 : Value}
    (h : W.cell? p0 = some v0 ∧ W.cell? p1 = some v1 ∧ W.cell? p2 = some v2 ∧ W.cell? p3 = some v3 ∧ W.cell? p4 = some v4 ∧ W.cell? p5 = some v5 ∧ W.cell? p6 = some v6 ∧ W.cell? p7 = some v7) (hb : Below W.heap.size W W') :
    W'.cell? p0 = some v0 ∧ W'.cell? p1 = some v1 ∧ W'.cell? p2 = some v2 ∧ W'.cell? p3 = some v3 ∧ W'.cell? p4 = some v4 ∧ W'.cell? p5 = some v5 ∧ W'.cell? p6 = some v6 ∧ W'.cell? p7 = some v7 := by
  have q : ∀ {p : Addr} {v : Value}, W.cell? p = some v → W'.cell? p = some v := fun {p v} hp => (hb.cell (World.block_lt_of_cell? W _ hp)).trans hp
  exact ⟨q h.1, q h.2.1, q h.2.2.1, q h.2.2.2.1, q h.2.2.2.2.1, q h.2.2.2.2.2.1, q h.2.2.2.2.2.2.1, q h.2.2.2.2.2.2.2⟩
theorem TripAt.at {w : World} {b : Nat} {t : Tr} (h : TripAt w b t) (k : Nat) (hk : k < 3) :
    w.cell? ⟨b, k * 3, none⟩ = some (.int .i64 (termK t k).1) ∧ w.cell? ⟨b, k * 3 + 1, none⟩ = some (.string ⟨(termK t k).2.1.toArray⟩) ∧ w.cell? ⟨b, k * 3 + 2, none⟩ = some (.string ⟨(termK t k).2.2.toArray⟩) := by
  rcases (by omega : k = 0 ∨ k = 1 ∨ k = 2) with rfl | rfl | rfl
  all_goals exact ⟨h _ _ rfl, h _ _ rfl, h _ _ rfl⟩
theorem TripAt.lt {w : World} {b : Nat} {t : Tr} (h : TripAt w b t) : b < w.heap.size := World.block_lt_of_cell? w _ (h 0 _ rfl)

theorem eqlEmF (v : List UInt8) (h : v.isEmpty = false) (w : World) : (binOp .eql 9 (.string ⟨v.toArray⟩) (.string ⟨#[]⟩)).run Tryz.prog w = .ok (.bool false) w := by rw [eqlEmpty, h]
theorem neqEmT (v : List UInt8) (h : v.isEmpty = false) (w : World) : (binOp .neq 9 (.string ⟨v.toArray⟩) (.string ⟨#[]⟩)).run Tryz.prog w = .ok (.bool true) w := by rw [neqEmpty, h]; rfl
theorem eqlSelfS (v : List UInt8) (w : World) : (binOp .eql 9 (.string ⟨v.toArray⟩) (.string ⟨v.toArray⟩)).run Tryz.prog w = .ok (.bool true) w := by rw [eqlStr]; simp
theorem eqlOtherS (a b : List UInt8) (h : (a == b) = false) (w : World) : (binOp .eql 9 (.string ⟨a.toArray⟩) (.string ⟨b.toArray⟩)).run Tryz.prog w = .ok (.bool false) w := by rw [eqlStr]; simp at h; simp [h]

theorem bnot_of {c d : Bool} (h : c = !d) (hc : c = true) : d = false := by cases d <;> simp_all

attribute [local go_sem ↓] eqlEmF neqEmT eqlSelfS eqlOtherS

set_option maxHeartbeats 8000000 in
set_option maxRecDepth 100000 in
theorem RFits_any (t : Tr) (p : Pt) (w : World) :
    Calls Tryz.prog 53 #[valTr t, valPt p] w fun e w' => e = .returned (.bool (fitsB p t)) ∧ Below w.heap.size w w' := by
  have HS := RSlots_any p
  have HT := RThree_any t
  have fin : Hid (fitsB p t = restR p t 0) := (fits_ref p t).symm
  generalize fitsB p t = ans at *
  have HPB : Hid (∀ T, PatAt ((w.alloc (.cells (encTr t).toArray T)).alloc (.cells (encPt p).toArray 47)) (w.heap.size + 1) p) := fun T => by
    have := patBox (w.alloc (.cells (encTr t).toArray T)) p 47
    simpa using this
  have HTB : Hid (TripAt (w.alloc (.cells (encTr t).toArray 88)) w.heap.size t) := tripBox w t 88
  unfold valPt at HS ⊢
  unfold valTr at HT ⊢
  go_enter Tryz.func53, Tryz.ntmps53
  go_wp2_with fail
  refine (HS _).mono ?_
  rintro e w1 ⟨bs, rfl, hps, hb1⟩
  have hB1 := bstep (bstep (balloc _ _) (balloc _ _)) hb1
  obtain ⟨t0, t1, t2, t3, t4, t5, t6, t7, t8⟩ := ((HTB.out.below (balloc _ _)).below hb1).all
  go_wp2_with fail
  refine (HT _).mono ?_
  rintro e w2 ⟨bx, rfl, htx, hb2⟩
  have Hps : Hid (PatAt w2 bs p) := hps.below hb2
  have Htx : Hid (TripAt w2 bx t) := htx
  have hB2 := bstep hB1 hb2
  clear t0 t1 t2 t3 t4 t5 t6 t7 t8 hps htx hb1 hb2 hB1 HS HT HPB HTB
  go_wp2_with fail
  go_loopw [7] (fun i wr => ∃ k : Nat, k ≤ 3 ∧ i = .int .i64 k ∧ Hid (ans = restR p t k) ∧ Below w2.heap.size w2 wr) (fun i wr => 3 - (intOf i).toNat)
  case atStart => exact ⟨0, by omega, rfl, fin.out, Below.refl _ _⟩
  case round =>
    obtain ⟨i, hi, rfl, hrest, hbr⟩ := hrel
    by_cases hlt : i < 3
    · have hst : Hid _ := restR_step p t i hlt
      have hok : Hid (okB p t i = (headB p t i && inB p t i i)) := rfl
      have hhd : Hid (headB p t i = if (slotK p i).1 = [] then decide ((slotK p i).2 = termK t i) else true) := rfl
      have i1 : (i : Int) < 3 := by omega
      have i0 : (0 : Int) ≤ (i : Int) := by omega
      have hps := Hps.out.below hbr
      have htx := Htx.out.below hbr
      obtain ⟨c0, c1, c2, c3⟩ := hps.at i hlt
      obtain ⟨x0, x1, x2⟩ := htx.at i hlt
      have HC := fun W => RCompare_any (slotK p i).2.1 (slotK p i).2.2.1 (slotK p i).2.2.2 (termK t i).1 (termK t i).2.1 (termK t i).2.2 W
      have hcz : Hid ((cmpT (slotK p i).2.1 (slotK p i).2.2.1 (slotK p i).2.2.2 (termK t i).1 (termK t i).2.1 (termK t i).2.2 != 0) = !decide ((slotK p i).2 = termK t i)) := by
        show _ = _
        rw [← eqTB_tm, ← cmp_eq]
        rfl
      clear hps htx
      generalize cmpT (slotK p i).2.1 (slotK p i).2.2.1 (slotK p i).2.2.2 (termK t i).1 (termK t i).2.1 (termK t i).2.2 = c at *
      have hsl : Hid (∃ s : Sl, s = slotK p i) := ⟨_, rfl⟩
      obtain ⟨⟨v, kk, S, L⟩, hs⟩ := hsl.out
      have hx' : Hid (∃ x : Tm, x = termK t i) := ⟨_, rfl⟩
      obtain ⟨⟨xk, xS, xL⟩, hx⟩ := hx'.out
      rw [← hs] at c0 c1 c2 c3 HC hcz hhd
      rw [← hx] at x0 x1 x2 HC hcz hhd
      dsimp only at c0 c1 c2 c3 x0 x1 x2 HC hcz hhd
      have c4 : wr.cell? ⟨bs, i * 4 + 1 + 1, none⟩ = some (.string ⟨S.toArray⟩) := c2
      have c5 : wr.cell? ⟨bs, i * 4 + 1 + 2, none⟩ = some (.string ⟨L.toArray⟩) := c3
      have Hs : Hid ((v, kk, S, L) = slotK p i) := hs
      have Hx : Hid ((xk, xS, xL) = termK t i) := hx
      clear hsl hx' hs hx
      go_upto_region 6 with fail
      go_cut [35] from 17 to 35 (fun u W' => ∃ b, u = .bool b ∧ Hid (b = !headB p t i) ∧ Below w2.heap.size w2 W')
      case first =>
        cases hve : v.isEmpty
        · have hhd2 : Hid (headB p t i = true) := by show _ = _; rw [hhd.out]; exact if_neg (by intro e; rw [e] at hve; cases hve)
          go_region
          go_wp2_with fail
          go_meet
          case rel => exact ⟨_, rfl, by show _ = _; rw [hhd2.out]; rfl, hbr.drew⟩
        · obtain rfl : v = [] := by simpa using hve
          have hhd2 : Hid (headB p t i = decide ((kk, S, L) = (xk, xS, xL))) := hhd.out
          cases hcc : (c != 0)
          · go_region_held3 (fun W => W.cell? ⟨bs, i * 4, none⟩ = some (.string ⟨#[]⟩) ∧ W.cell? ⟨bs, i * 4 + 1, none⟩ = some (.int .i64 kk) ∧ W.cell? ⟨bs, i * 4 + 1 + 1, none⟩ = some (.string ⟨S.toArray⟩) ∧ W.cell? ⟨bs, i * 4 + 1 + 2, none⟩ = some (.string ⟨L.toArray⟩) ∧ W.cell? ⟨bx, i * 3, none⟩ = some (.int .i64 xk) ∧ W.cell? ⟨bx, i * 3 + 1, none⟩ = some (.string ⟨xS.toArray⟩) ∧ W.cell? ⟨bx, i * 3 + 2, none⟩ = some (.string ⟨xL.toArray⟩)) (first | exact keep7 (by assumption) hb3 | go_keep) (first
            | (go_at_call 88; refine (HC _).mono ?_; rintro e w3 ⟨rfl, hb3⟩))
            go_wp2_with fail
            go_meet
            case rel => exact ⟨_, rfl, by show _ = _; rw [hhd2.out, ← hcz.out, hcc], bstep hbr.drew hb3⟩
          · go_region_held3 (fun W => W.cell? ⟨bs, i * 4, none⟩ = some (.string ⟨#[]⟩) ∧ W.cell? ⟨bs, i * 4 + 1, none⟩ = some (.int .i64 kk) ∧ W.cell? ⟨bs, i * 4 + 1 + 1, none⟩ = some (.string ⟨S.toArray⟩) ∧ W.cell? ⟨bs, i * 4 + 1 + 2, none⟩ = some (.string ⟨L.toArray⟩) ∧ W.cell? ⟨bx, i * 3, none⟩ = some (.int .i64 xk) ∧ W.cell? ⟨bx, i * 3 + 1, none⟩ = some (.string ⟨xS.toArray⟩) ∧ W.cell? ⟨bx, i * 3 + 2, none⟩ = some (.string ⟨xL.toArray⟩)) (first | exact keep7 (by assumption) hb3 | go_keep) (first
            | (go_at_call 88; refine (HC _).mono ?_; rintro e w3 ⟨rfl, hb3⟩))
            go_wp2_with fail
            go_meet
            case rel => exact ⟨_, rfl, by show _ = _; rw [hhd2.out, ← hcz.out, hcc], bstep hbr.drew hb3⟩
      case rest =>
        obtain ⟨hb, rfl, hhb, hbc⟩ := hcut
        clear c0 c1 c2 c3 c4 c5 x0 x1 x2 HC hcz hhd
        cases hb
        rotate_left
        · go_wp2_with fail
          go_ret
          exact ⟨ret_bool (by have := hhb.out; rw [hrest.out, hst.out, hok.out, show headB p t i = false by simpa using this]; rfl), bstep hB2 hbc⟩
        · have hh2 : Hid (headB p t i = true) := by have := hhb.out; show _ = _; simpa using this
          go_wp2_with fail
          go_loopw [8] (fun u W' => ∃ k : Nat, k ≤ i ∧ u = .int .i64 k ∧ Hid (inB p t i k = true) ∧ Below w2.heap.size w2 W') (fun u W' => i - (intOf u).toNat)
          case atStart => exact ⟨0, by omega, rfl, rfl, hbc⟩
          case round =>
            clear hbc
            obtain ⟨k, hk, rfl, hin, hbk⟩ := hrel
            by_cases hki : k < i
            · have hk3 : k < 3 := by omega
              have j1 : (k : Int) < 3 := by omega
              have j0 : (0 : Int) ≤ (k : Int) := by omega
              have hps := Hps.out.below hbk
              have htx := Htx.out.below hbk
              obtain ⟨c0, _, _, _⟩ := hps.at i hlt
              obtain ⟨e0, _, _, _⟩ := hps.at k hk3
              obtain ⟨x0, x1, x2⟩ := htx.at i hlt
              obtain ⟨y0, y1, y2⟩ := htx.at k hk3
              have hpair : Hid (pairB p t i k = if (slotK p i).1 = [] then true else if (slotK p k).1 = (slotK p i).1 then decide (termK t k = termK t i) else true) := rfl
              have hst2 : Hid (inB p t i (k + 1) = (inB p t i k && pairB p t i k)) := rfl
              have hfl : Hid (pairB p t i k = false → inB p t i i = false) := fun h => inB_false (fun _ => .inr h) hki
              have HD := fun W => RCompare_any (termK t k).1 (termK t k).2.1 (termK t k).2.2 (termK t i).1 (termK t i).2.1 (termK t i).2.2 W
              have hcz : Hid ((cmpT (termK t k).1 (termK t k).2.1 (termK t k).2.2 (termK t i).1 (termK t i).2.1 (termK t i).2.2 != 0) = !decide (termK t k = termK t i)) := by
                show _ = _
                rw [← eqTB_tm, ← cmp_eq]
                rfl
              clear hps htx
              generalize cmpT (termK t k).1 (termK t k).2.1 (termK t k).2.2 (termK t i).1 (termK t i).2.1 (termK t i).2.2 = c at *
              rw [← Hs.out] at c0 hpair
              rw [← Hx.out] at x0 x1 x2 HD hcz hpair
              generalize slotK p k = sk at *
              obtain ⟨vk, ak⟩ := sk
              generalize termK t k = y at *
              obtain ⟨yk, yS, yL⟩ := y
              dsimp only at c0 e0 x0 x1 x2 y0 y1 y2 HD hcz hpair
              cases hve : v.isEmpty
              rotate_left
              · obtain rfl : v = [] := by simpa using hve
                have hp2 : Hid (pairB p t i k = true) := by show _ = _; rw [hpair.out]; exact if_pos rfl
                go_wp2_with fail
                go_region
                go_wp2_with fail
                go_roundw
                case rel => exact ⟨k + 1, by omega, by go_num, by show _ = _; rw [hst2.out, hin.out, hp2.out]; rfl, hbk.drew⟩
                case measure => simp [intOf]; omega
              · have hvn : ¬ v = [] := by intro e; rw [e] at hve; cases hve
                cases heq : (vk == v)
                · have hp2 : Hid (pairB p t i k = true) := by
                    show _ = _
                    rw [hpair.out, if_neg hvn, if_neg (by simpa using heq)]
                  clear hvn
                  go_wp2_with fail
                  go_region
                  go_wp2_with fail
                  go_roundw
                  case rel => exact ⟨k + 1, by omega, by go_num, by show _ = _; rw [hst2.out, hin.out, hp2.out]; rfl, hbk.drew⟩
                  case measure => simp [intOf]; omega
                · have hp2 : Hid (pairB p t i k = decide ((yk, yS, yL) = (xk, xS, xL))) := by
                    show _ = _
                    rw [hpair.out, if_neg hvn, if_pos (by simpa using heq)]
                  clear hvn
                  obtain rfl : vk = v := by simpa using heq
                  clear heq
                  cases hcc : (c != 0)
                  · go_wp2_with fail
                    go_region_held3 (fun W => W.cell? ⟨bs, i * 4, none⟩ = some (.string ⟨vk.toArray⟩) ∧ W.cell? ⟨bs, k * 4, none⟩ = some (.string ⟨vk.toArray⟩) ∧ W.cell? ⟨bx, k * 3, none⟩ = some (.int .i64 yk) ∧ W.cell? ⟨bx, k * 3 + 1, none⟩ = some (.string ⟨yS.toArray⟩) ∧ W.cell? ⟨bx, k * 3 + 2, none⟩ = some (.string ⟨yL.toArray⟩) ∧ W.cell? ⟨bx, i * 3, none⟩ = some (.int .i64 xk) ∧ W.cell? ⟨bx, i * 3 + 1, none⟩ = some (.string ⟨xS.toArray⟩) ∧ W.cell? ⟨bx, i * 3 + 2, none⟩ = some (.string ⟨xL.toArray⟩)) (first | exact keep8 (by assumption) hb3 | go_keep) (first
                | (go_at_call 88; refine (HD _).mono ?_; rintro e w3 ⟨rfl, hb3⟩))
                    go_wp2_with fail
                    go_roundw
                    case rel => exact ⟨k + 1, by omega, by go_num, by show _ = _; rw [hst2.out, hin.out, hp2.out]; have := hcz.out; rw [hcc] at this; simpa using this.symm, bstep hbk.drew hb3⟩
                    case measure => simp [intOf]; omega
                  · go_wp2_with fail
                    go_region_held3 (fun W => W.cell? ⟨bs, i * 4, none⟩ = some (.string ⟨vk.toArray⟩) ∧ W.cell? ⟨bs, k * 4, none⟩ = some (.string ⟨vk.toArray⟩) ∧ W.cell? ⟨bx, k * 3, none⟩ = some (.int .i64 yk) ∧ W.cell? ⟨bx, k * 3 + 1, none⟩ = some (.string ⟨yS.toArray⟩) ∧ W.cell? ⟨bx, k * 3 + 2, none⟩ = some (.string ⟨yL.toArray⟩) ∧ W.cell? ⟨bx, i * 3, none⟩ = some (.int .i64 xk) ∧ W.cell? ⟨bx, i * 3 + 1, none⟩ = some (.string ⟨xS.toArray⟩) ∧ W.cell? ⟨bx, i * 3 + 2, none⟩ = some (.string ⟨xL.toArray⟩)) (first | exact keep8 (by assumption) hb3 | go_keep) (first
                | (go_at_call 88; refine (HD _).mono ?_; rintro e w3 ⟨rfl, hb3⟩))
                    go_wp2_with fail
                    go_ret
                    exact ⟨ret_bool (by rw [hrest.out, hst.out, hok.out, hfl.out (hp2.out.trans (bnot_of hcz.out hcc))]; simp), bstep hB2 (bstep hbk.drew hb3)⟩
            · obtain rfl : k = i := by omega
              go_wp2_with fail
              go_roundw
              case rel => exact ⟨k + 1, by omega, by go_num, by show _ = _; rw [hrest.out, hst.out, hok.out, hh2.out, hin.out]; rfl, hbk⟩
              case measure => simp [intOf]; omega
    · obtain rfl : i = 3 := by omega
      go_wp2_with fail
      go_ret
      exact ⟨ret_bool (by rw [hrest.out]; rfl), bstep hB2 hbr⟩
end Go.Proofs.YtnlcfnpcjkcdmadGreatDoor

/- The document's Match: those of a set that fit. -/
namespace Go.Proofs.YtnlcfnpcjkcdmadGreatDoor
open Go Go.RowKit Go.Proofs Go.Maps
set_option synthInstance.maxSize 1000

theorem keep21 {W W' : World} {p0 p1 p2 p3 p4 p5 p6 p7 p8 p9 p10 p11 p12 p13 p14 p15 p16 p17 p18 p19 p20 : Addr} {v0 v1 v2 v3 v4 v5 v6 v7 v8 v9 v10 v11 v12 v13 v14 v15 v16 v17 v18 v19 v20 : Value}
    (h : W.cell? p0 = some v0 ∧ W.cell? p1 = some v1 ∧ W.cell? p2 = some v2 ∧ W.cell? p3 = some v3 ∧ W.cell? p4 = some v4 ∧ W.cell? p5 = some v5 ∧ W.cell? p6 = some v6 ∧ W.cell? p7 = some v7 ∧ W.cell? p8 = some v8 ∧ W.cell? p9 = some v9 ∧ W.cell? p10 = some v10 ∧ W.cell? p11 = some v11 ∧ W.cell? p12 = some v12 ∧ W.cell? p13 = some v13 ∧ W.cell? p14 = some v14 ∧ W.cell? p15 = some v15 ∧ W.cell? p16 = some v16 ∧ W.cell? p17 = some v17 ∧ W.cell? p18 = some v18 ∧ W.cell? p19 = some v19 ∧ W.cell? p20 = some v20) (hb : Below W.heap.size W W') :
    W'.cell? p0 = some v0 ∧ W'.cell? p1 = some v1 ∧ W'.cell? p2 = some v2 ∧ W'.cell? p3 = some v3 ∧ W'.cell? p4 = some v4 ∧ W'.cell? p5 = some v5 ∧ W'.cell? p6 = some v6 ∧ W'.cell? p7 = some v7 ∧ W'.cell? p8 = some v8 ∧ W'.cell? p9 = some v9 ∧ W'.cell? p10 = some v10 ∧ W'.cell? p11 = some v11 ∧ W'.cell? p12 = some v12 ∧ W'.cell? p13 = some v13 ∧ W'.cell? p14 = some v14 ∧ W'.cell? p15 = some v15 ∧ W'.cell? p16 = some v16 ∧ W'.cell? p17 = some v17 ∧ W'.cell? p18 = some v18 ∧ W'.cell? p19 = some v19 ∧ W'.cell? p20 = some v20 := by
  have q : ∀ {p : Addr} {v : Value}, W.cell? p = some v → W'.cell? p = some v := fun {p v} hp => (hb.cell (World.block_lt_of_cell? W _ hp)).trans hp
  exact ⟨q h.1, q h.2.1, q h.2.2.1, q h.2.2.2.1, q h.2.2.2.2.1, q h.2.2.2.2.2.1, q h.2.2.2.2.2.2.1, q h.2.2.2.2.2.2.2.1, q h.2.2.2.2.2.2.2.2.1, q h.2.2.2.2.2.2.2.2.2.1, q h.2.2.2.2.2.2.2.2.2.2.1, q h.2.2.2.2.2.2.2.2.2.2.2.1, q h.2.2.2.2.2.2.2.2.2.2.2.2.1, q h.2.2.2.2.2.2.2.2.2.2.2.2.2.1, q h.2.2.2.2.2.2.2.2.2.2.2.2.2.2.1, q h.2.2.2.2.2.2.2.2.2.2.2.2.2.2.2.1, q h.2.2.2.2.2.2.2.2.2.2.2.2.2.2.2.2.1, q h.2.2.2.2.2.2.2.2.2.2.2.2.2.2.2.2.2.1, q h.2.2.2.2.2.2.2.2.2.2.2.2.2.2.2.2.2.2.1, q h.2.2.2.2.2.2.2.2.2.2.2.2.2.2.2.2.2.2.2.1, q h.2.2.2.2.2.2.2.2.2.2.2.2.2.2.2.2.2.2.2.2⟩

set_option maxHeartbeats 8000000 in
set_option maxRecDepth 100000 in
theorem RMatch_any (ad : Option Addr) (cap : Nat) (l : List Tr) (p : Pt) (w : World) (h : SlT w ad l) (h200 : l.length ≤ 200) :
    Calls Tryz.prog 22 #[.slice ad l.length cap, valPt p] w fun e w' => Below w.heap.size w w' ∧ ∃ ad' cap', e = .returned (.slice ad' (matchL l p).length cap') ∧ SlT w' ad' (matchL l p) := by
  have HF := fun x W => RFits_any x p W
  have Hl : Hid (SlT w ad l) := h
  obtain ⟨i0, hi, hz⟩ := Option.map_eq_some_iff.1 infoTr
  simp only [Prod.mk.injEq] at hz
  obtain ⟨hz0, hz1, hz2⟩ := hz
  have HPB : Hid (PatAt (w.alloc (.cells (encPt p).toArray 47)) w.heap.size p) := patBox w p 47
  have hW0 := balloc w (.cells (encPt p).toArray 47)
  have Hl0 : Hid (SlT (w.alloc (.cells (encPt p).toArray 47)) ad l) := h.below hW0
  clear h
  have hml : Hid (matchL l p = l.filter (fitsB p)) := rfl
  generalize matchL l p = ML at *
  unfold valPt at HF ⊢
  go_enter Tryz.func22, Tryz.ntmps22
  go_wp2_with fail
  go_loopw [5, 6] (fun v i wr => ∃ k : Nat, k ≤ l.length ∧ i = .int .i64 k ∧ Hid (wr.ownsRow (w.heap.size + 1) 88 9 v ((l.take k).filter (fitsB p)).length (cellsT ((l.take k).filter (fitsB p)))) ∧ Below (w.heap.size + 1) (w.alloc (.cells (encPt p).toArray 47)) wr) (fun _ i wr => l.length - (intOf i).toNat)
  case atStart => exact ⟨0, Nat.zero_le _, rfl, by show World.ownsRow _ _ _ _ _ _ _; rw [List.take_zero]; exact World.ownsRow_nil _ _ _ _, Below.refl _ _⟩
  case round =>
    obtain ⟨k, hk, rfl, hown, hbr0⟩ := hrel
    have hbr : Below (w.alloc (.cells (encPt p).toArray 47)).heap.size (w.alloc (.cells (encPt p).toArray 47)) wr := by simpa using hbr0
    have hzr : w.heap.size + 1 ≤ wr.heap.size := by have := hbr.size; simpa using this
    by_cases hlt : k < l.length
    · obtain ⟨b, o, rfl, hr⟩ := (Hl0.out.below hbr).at k hlt
      obtain ⟨c0, c1, c2, c3, c4, c5, c6, c7, c8⟩ := hr.at k hlt
      obtain ⟨p0, p1, p2, p3, p4, p5, p6, p7, p8, p9, p10, p11⟩ := (HPB.out.below hbr).all
      have i0' : (0 : Int) ≤ (k : Int) := by omega
      have i1 : (k : Int) < (l.length : Int) := by omega
      have hstep : Hid _ := filter_stepM l (fitsB p) k hlt
      have hfil : ((l.take k).filter (fitsB p)).length ≤ k := Nat.le_trans (List.length_filter_le _ _) (by simp; omega)
      have H := fun W => HF l[k] W
      generalize ht : (l.take (k + 1)).filter (fitsB p) = t1 at hstep
      have Ht : Hid _ := ht
      generalize (l.take k).filter (fitsB p) = t0 at *
      generalize l[k] = y at *
      clear hr ht hbr0
      cases hp : fitsB p y
      · rw [hp] at H
        have hs2 : Hid (t1 = t0) := by have := hstep.out; rw [hp] at this; simpa [Hid] using this
        unfold valTr at H
        go_wp2_with fail
        go_region_held3 (fun W => W.cell? ⟨b, o + k * 9, none⟩ = some (.int .i64 y.1.1) ∧ W.cell? ⟨b, o + k * 9 + 1, none⟩ = some (.string ⟨y.1.2.1.toArray⟩) ∧ W.cell? ⟨b, o + k * 9 + 2, none⟩ = some (.string ⟨y.1.2.2.toArray⟩) ∧ W.cell? ⟨b, o + k * 9 + 3, none⟩ = some (.int .i64 y.2.1.1) ∧ W.cell? ⟨b, o + k * 9 + 4, none⟩ = some (.string ⟨y.2.1.2.1.toArray⟩) ∧ W.cell? ⟨b, o + k * 9 + 5, none⟩ = some (.string ⟨y.2.1.2.2.toArray⟩) ∧ W.cell? ⟨b, o + k * 9 + 6, none⟩ = some (.int .i64 y.2.2.1) ∧ W.cell? ⟨b, o + k * 9 + 7, none⟩ = some (.string ⟨y.2.2.2.1.toArray⟩) ∧ W.cell? ⟨b, o + k * 9 + 8, none⟩ = some (.string ⟨y.2.2.2.2.toArray⟩) ∧ W.cell? ⟨w.heap.size, 0, none⟩ = some (.string ⟨p.1.1.toArray⟩) ∧ W.cell? ⟨w.heap.size, 1, none⟩ = some (.int .i64 p.1.2.1) ∧ W.cell? ⟨w.heap.size, 2, none⟩ = some (.string ⟨p.1.2.2.1.toArray⟩) ∧ W.cell? ⟨w.heap.size, 3, none⟩ = some (.string ⟨p.1.2.2.2.toArray⟩) ∧ W.cell? ⟨w.heap.size, 4, none⟩ = some (.string ⟨p.2.1.1.toArray⟩) ∧ W.cell? ⟨w.heap.size, 5, none⟩ = some (.int .i64 p.2.1.2.1) ∧ W.cell? ⟨w.heap.size, 6, none⟩ = some (.string ⟨p.2.1.2.2.1.toArray⟩) ∧ W.cell? ⟨w.heap.size, 7, none⟩ = some (.string ⟨p.2.1.2.2.2.toArray⟩) ∧ W.cell? ⟨w.heap.size, 8, none⟩ = some (.string ⟨p.2.2.1.toArray⟩) ∧ W.cell? ⟨w.heap.size, 9, none⟩ = some (.int .i64 p.2.2.2.1) ∧ W.cell? ⟨w.heap.size, 10, none⟩ = some (.string ⟨p.2.2.2.2.1.toArray⟩) ∧ W.cell? ⟨w.heap.size, 11, none⟩ = some (.string ⟨p.2.2.2.2.2.toArray⟩)) (first | exact keep21 (by assumption) hb4 | go_keep) (first
          | (go_at_call 53; refine (H _).mono ?_; rintro e w4 ⟨rfl, hb4⟩))
        go_wp2_with fail
        go_roundw
        case rel =>
          refine ⟨k + 1, by omega, by go_num, ?_, by have := bstep hbr.drew hb4; simpa using this⟩
          show World.ownsRow _ _ _ _ _ _ _
          rw [Ht.out, hs2.out]
          exact ownsRow_belowV (ownsRow_belowV hown.out (Below.refl _ _).drew) hb4
        case measure => simp [intOf]; omega
      · rw [hp] at H
        have hs2 : Hid (t1 = t0 ++ [y]) := by have := hstep.out; rw [hp] at this; simpa [Hid] using this
        unfold valTr at H
        go_wp2_with fail
        go_region_held3 (fun W => W.cell? ⟨b, o + k * 9, none⟩ = some (.int .i64 y.1.1) ∧ W.cell? ⟨b, o + k * 9 + 1, none⟩ = some (.string ⟨y.1.2.1.toArray⟩) ∧ W.cell? ⟨b, o + k * 9 + 2, none⟩ = some (.string ⟨y.1.2.2.toArray⟩) ∧ W.cell? ⟨b, o + k * 9 + 3, none⟩ = some (.int .i64 y.2.1.1) ∧ W.cell? ⟨b, o + k * 9 + 4, none⟩ = some (.string ⟨y.2.1.2.1.toArray⟩) ∧ W.cell? ⟨b, o + k * 9 + 5, none⟩ = some (.string ⟨y.2.1.2.2.toArray⟩) ∧ W.cell? ⟨b, o + k * 9 + 6, none⟩ = some (.int .i64 y.2.2.1) ∧ W.cell? ⟨b, o + k * 9 + 7, none⟩ = some (.string ⟨y.2.2.2.1.toArray⟩) ∧ W.cell? ⟨b, o + k * 9 + 8, none⟩ = some (.string ⟨y.2.2.2.2.toArray⟩) ∧ W.cell? ⟨w.heap.size, 0, none⟩ = some (.string ⟨p.1.1.toArray⟩) ∧ W.cell? ⟨w.heap.size, 1, none⟩ = some (.int .i64 p.1.2.1) ∧ W.cell? ⟨w.heap.size, 2, none⟩ = some (.string ⟨p.1.2.2.1.toArray⟩) ∧ W.cell? ⟨w.heap.size, 3, none⟩ = some (.string ⟨p.1.2.2.2.toArray⟩) ∧ W.cell? ⟨w.heap.size, 4, none⟩ = some (.string ⟨p.2.1.1.toArray⟩) ∧ W.cell? ⟨w.heap.size, 5, none⟩ = some (.int .i64 p.2.1.2.1) ∧ W.cell? ⟨w.heap.size, 6, none⟩ = some (.string ⟨p.2.1.2.2.1.toArray⟩) ∧ W.cell? ⟨w.heap.size, 7, none⟩ = some (.string ⟨p.2.1.2.2.2.toArray⟩) ∧ W.cell? ⟨w.heap.size, 8, none⟩ = some (.string ⟨p.2.2.1.toArray⟩) ∧ W.cell? ⟨w.heap.size, 9, none⟩ = some (.int .i64 p.2.2.2.1) ∧ W.cell? ⟨w.heap.size, 10, none⟩ = some (.string ⟨p.2.2.2.2.1.toArray⟩) ∧ W.cell? ⟨w.heap.size, 11, none⟩ = some (.string ⟨p.2.2.2.2.2.toArray⟩)) (first | exact keep21 (by assumption) hb4 | go_keep) (first
          | (go_at_call 53; refine (H _).mono ?_; rintro e w4 ⟨rfl, hb4⟩))
        have hB1 := bstep hbr.drew hb4
        have hz1' : w.heap.size + 1 ≤ w4.heap.size := by have := hB1.size; simpa using this
        have hrow1 : Hid (w4.ownsRow (w.heap.size + 1) 88 9 _ t0.length (cellsT t0)) := ownsRow_belowV (ownsRow_belowV hown.out (Below.refl _ _).drew) hb4
        have d0 := (hb4.cell (World.block_lt_of_cell? wr _ c0)).trans c0
        have d1 := (hb4.cell (World.block_lt_of_cell? wr _ c1)).trans c1
        have d2 := (hb4.cell (World.block_lt_of_cell? wr _ c2)).trans c2
        have d3 := (hb4.cell (World.block_lt_of_cell? wr _ c3)).trans c3
        have d4 := (hb4.cell (World.block_lt_of_cell? wr _ c4)).trans c4
        have d5 := (hb4.cell (World.block_lt_of_cell? wr _ c5)).trans c5
        have d6 := (hb4.cell (World.block_lt_of_cell? wr _ c6)).trans c6
        have d7 := (hb4.cell (World.block_lt_of_cell? wr _ c7)).trans c7
        have d8 := (hb4.cell (World.block_lt_of_cell? wr _ c8)).trans c8
        clear c0 c1 c2 c3 c4 c5 c6 c7 c8 p0 p1 p2 p3 p4 p5 p6 p7 p8 p9 p10 p11 hown
        go_wp2_with (at_builtin; refine wpList_append_own _ rfl _ _ 27 rfl (w.heap.size + 1) 88 i0 (.agg (encTr zeroTr).toArray) 9 120 Tryz.underlying27 hi hz0 hz1 hz2 rfl (by decide) _ _ _ rfl (hrow1.out.alloc _) ⟨w4.heap.size, 0, none⟩ 1 1 (encTr y) rfl rfl ?c1 ?c2 ?c3 ?c4 ?c5 ?_)
        case c1 =>
          intro i u hi'
          have h9 : i < 9 := (List.getElem?_eq_some_iff.1 hi').1
          rw [Addr.add_lit]
          rcases (by omega : i = 0 ∨ i = 1 ∨ i = 2 ∨ i = 3 ∨ i = 4 ∨ i = 5 ∨ i = 6 ∨ i = 7 ∨ i = 8) with rfl | rfl | rfl | rfl | rfl | rfl | rfl | rfl | rfl
          all_goals
            simp [encTr] at hi'
            subst hi'
            go_simp
        case c2 => exact encTr_one y
        case c3 => unfold maxLen; omega
        case c4 => omega
        case c5 => simp; omega
        intro v' w9 hown' hgrow _
        have hB1' : Below (w.heap.size + 1) (w.alloc (.cells (encPt p).toArray 47)) w4 := by simpa using hB1
        have hbel := (hB1'.alloc hz1' (.cells (encTr y).toArray 88)).grown hgrow (by simp; omega) (fun k hk => (hrow1.out.lt k hk).1)
        go_wp2_with fail
        go_roundw
        case rel =>
          refine ⟨k + 1, by omega, by go_num, ?_, hbel⟩
          show World.ownsRow _ _ _ _ _ _ _
          rw [Ht.out, hs2.out]
          simpa [cellsT] using hown'
        case measure => simp [intOf]; omega
    · obtain rfl : k = l.length := by omega
      have hown' := hown.out
      rw [List.take_length, ← hml.out] at hown'
      obtain ⟨ad', cap', rfl, hsl⟩ := own_slM3 hown'
      have Hsl : Hid (SlT wr ad' ML) := hsl
      clear hown' hown hsl
      go_wp2_with fail
      go_ret
      exact ⟨hW0.trans (hbr.mono (by simp)), ad', cap', rfl, Hsl.out⟩
end Go.Proofs.YtnlcfnpcjkcdmadGreatDoor

/- ChainPlays: its arguments, its boxes. -/
namespace Go.Proofs.YtnlcfnpcjkcdmadGreatDoor
open Go Go.RowKit Go.Proofs
set_option synthInstance.maxSize 1000

/-- layers, in a list -/
def LsAt (w : World) (b o : Nat) (ls : List Ly) : Prop := ∀ i, i < ls.length → ∃ a1 c1 a2 c2, w.cell? ⟨b, o + i * 2, none⟩ = some (.slice a1 (ls.getD i ([], [])).1.length c1) ∧ w.cell? ⟨b, o + i * 2 + 1, none⟩ = some (.slice a2 (ls.getD i ([], [])).2.length c2) ∧ SlT w a1 (ls.getD i ([], [])).1 ∧ SlT w a2 (ls.getD i ([], [])).2
theorem LsAt.below {w w' : World} {b o : Nat} {ls : List Ly} (h : LsAt w b o ls) (hb : RowKit.Below w.heap.size w w') : LsAt w' b o ls := fun i hi => by
  obtain ⟨a1, c1, a2, c2, h1, h2, h3, h4⟩ := h i hi
  exact ⟨a1, c1, a2, c2, (hb.cell (World.block_lt_of_cell? w _ h1)).trans h1, (hb.cell (World.block_lt_of_cell? w _ h2)).trans h2, h3.below hb, h4.below hb⟩
def askJ (q : List Int) (j : Nat) : Int := q.getD j 0
theorem askJ_at {q : List Int} {j : Nat} (h : j < q.length) : askJ q j = q[j] := by
  unfold askJ
  rw [List.getD_eq_getElem?_getD, List.getElem?_eq_getElem h]
  rfl
theorem askJ_out {q : List Int} {j : Nat} (h : ¬ j < q.length) : askJ q j = 0 := by
  unfold askJ
  rw [List.getD_eq_getElem?_getD, List.getElem?_eq_none (by omega)]
  rfl
/-- lists of numbers, in a list -/
def AskAt (W : World) (b o : Nat) (Q : List (List Int)) : Prop := ∀ i, i < Q.length → ∃ a c, W.cell? ⟨b, o + i, none⟩ = some (.slice a (Q.getD i []).length c) ∧ ∀ j, j < (Q.getD i []).length → ∃ b' o', a = some ⟨b', o', none⟩ ∧ W.cell? ⟨b', o' + j, none⟩ = some (.int .i64 (askJ (Q.getD i []) j))
theorem AskAt.below {w w' : World} {b o : Nat} {Q : List (List Int)} (h : AskAt w b o Q) (hb : RowKit.Below w.heap.size w w') : AskAt w' b o Q := fun i hi => by
  obtain ⟨a, c, h1, h2⟩ := h i hi
  refine ⟨a, c, (hb.cell (World.block_lt_of_cell? w _ h1)).trans h1, fun j hj => ?_⟩
  obtain ⟨b', o', e', h3⟩ := h2 j hj
  exact ⟨b', o', e', (hb.cell (World.block_lt_of_cell? w _ h3)).trans h3⟩
/-- three numbers in a block -/
def Num3 (W : World) (b : Nat) (x y z : Int) : Prop := W.cell? ⟨b, 0, none⟩ = some (.int .i64 x) ∧ W.cell? ⟨b, 1, none⟩ = some (.int .i64 y) ∧ W.cell? ⟨b, 2, none⟩ = some (.int .i64 z) ∧ W.frozen? ⟨b, 0, none⟩ = false ∧ W.frozen? ⟨b, 1, none⟩ = false ∧ W.frozen? ⟨b, 2, none⟩ = false
theorem Num3.below {W W' : World} {b : Nat} {x y z : Int} (h : Num3 W b x y z) (hb : RowKit.Below W.heap.size W W') : Num3 W' b x y z := by
  obtain ⟨k, f⟩ := bcell hb
  have hB : b < W.heap.size := World.block_lt_of_cell? W _ h.1
  unfold Num3 at h ⊢
  simp only [k _ _ hB, f _ _ hB]
  exact h
theorem Num3.new (w : World) : Num3 (w.alloc (.cells #[.int .i64 0, .int .i64 0, .int .i64 0] 49)) w.heap.size 0 0 0 := by
  unfold Num3
  refine ⟨?_, ?_, ?_, ?_, ?_, ?_⟩ <;> go_simp
theorem Num3.off {W W' : World} {b n0 : Nat} {v : Value} {x y z : Int} (h : Num3 W b x y z) (ho : Off n0 v W W') (hn : b ≠ n0) (hv : v.ownBlock ≠ some b) : Num3 W' b x y z := by
  have hB : b < W.heap.size := World.block_lt_of_cell? W _ h.1
  have k : ∀ o, W'.cell? ⟨b, o, none⟩ = W.cell? ⟨b, o, none⟩ := fun o => World.cell?_of_block (w := W) (ho.block b hB hn hv)
  have f : ∀ o, W'.frozen? ⟨b, o, none⟩ = W.frozen? ⟨b, o, none⟩ := fun o => World.frozen?_of_block (w := W) (ho.block b hB hn hv)
  unfold Num3 at h ⊢
  simp only [k, f]
  exact h

theorem Num3.set0 {W : World} {b : Nat} {x y z : Int} (h : Num3 W b x y z) (u : Int) : Num3 (W.setCell ⟨b, 0, none⟩ (.int .i64 u)) b u y z := by
  obtain ⟨h0, h1, h2, h3, h4, h5⟩ := h
  refine ⟨World.cell?_setCell_same' _ _ _ (by rw [h0]; rfl), ?_, ?_, ?_, ?_, ?_⟩
  · rw [World.cell?_setCell_other _ _ _ _ (by simp)]; exact h1
  · rw [World.cell?_setCell_other _ _ _ _ (by simp)]; exact h2
  · rw [World.frozen?_setCell]; exact h3
  · rw [World.frozen?_setCell]; exact h4
  · rw [World.frozen?_setCell]; exact h5
theorem Num3.set1 {W : World} {b : Nat} {x y z : Int} (h : Num3 W b x y z) (u : Int) : Num3 (W.setCell ⟨b, 1, none⟩ (.int .i64 u)) b x u z := by
  obtain ⟨h0, h1, h2, h3, h4, h5⟩ := h
  refine ⟨?_, World.cell?_setCell_same' _ _ _ (by rw [h1]; rfl), ?_, ?_, ?_, ?_⟩
  · rw [World.cell?_setCell_other _ _ _ _ (by simp)]; exact h0
  · rw [World.cell?_setCell_other _ _ _ _ (by simp)]; exact h2
  · rw [World.frozen?_setCell]; exact h3
  · rw [World.frozen?_setCell]; exact h4
  · rw [World.frozen?_setCell]; exact h5
theorem Num3.set2 {W : World} {b : Nat} {x y z : Int} (h : Num3 W b x y z) (u : Int) : Num3 (W.setCell ⟨b, 2, none⟩ (.int .i64 u)) b x y u := by
  obtain ⟨h0, h1, h2, h3, h4, h5⟩ := h
  refine ⟨?_, ?_, World.cell?_setCell_same' _ _ _ (by rw [h2]; rfl), ?_, ?_, ?_⟩
  · rw [World.cell?_setCell_other _ _ _ _ (by simp)]; exact h0
  · rw [World.cell?_setCell_other _ _ _ _ (by simp)]; exact h1
  · rw [World.frozen?_setCell]; exact h3
  · rw [World.frozen?_setCell]; exact h4
  · rw [World.frozen?_setCell]; exact h5

/-- a layer in a box, its lists beside it -/
def XAt (W : World) (b : Nat) (a1 a2 : Option Addr) (c1 c2 : Nat) (l : Ly) : Prop := BoxL W b (.slice a1 l.1.length c1) (.slice a2 l.2.length c2) ∧ SlT W a1 l.1 ∧ SlT W a2 l.2
theorem XAt.below {W W' : World} {b : Nat} {a1 a2 : Option Addr} {c1 c2 : Nat} {l : Ly} (h : XAt W b a1 a2 c1 c2 l) (hb : RowKit.Below W.heap.size W W') : XAt W' b a1 a2 c1 c2 l := ⟨h.1.below hb, h.2.1.below hb, h.2.2.below hb⟩
theorem XAt.off {W W' : World} {b n0 : Nat} {v : Value} {a1 a2 : Option Addr} {c1 c2 : Nat} {l : Ly} (h : XAt W b a1 a2 c1 c2 l) (ho : Off n0 v W W') (hn : b ≠ n0) (hv : v.ownBlock ≠ some b) : XAt W' b a1 a2 c1 c2 l := by
  have hB : b < W.heap.size := World.block_lt_of_cell? W _ h.1.1
  have k : ∀ o, W'.cell? ⟨b, o, none⟩ = W.cell? ⟨b, o, none⟩ := fun o => World.cell?_of_block (w := W) (ho.block b hB hn hv)
  exact ⟨⟨(k 0).trans h.1.1, (k 1).trans h.1.2⟩, ho.rows _ _ h.2.1, ho.rows _ _ h.2.2⟩
def FitL (l : Ly) : Prop := ((∀ x ∈ l.1, fitTr x) ∧ l.1.length ≤ 9223372036854775807) ∧ (∀ x ∈ l.2, fitTr x) ∧ l.2.length ≤ 9223372036854775807
theorem fitL_nil : FitL ([], []) := ⟨⟨by simp, by simp⟩, by simp, by simp⟩
theorem pushN_of {gs : List (List Tr)} {g : List Tr} {l : Ly} (sg : IsSet g) : pushN gs g l = orN (orN (if 31 ≤ gs.length then 4 else 0) (apartN l.1 l.2)) (applyN g l.1 l.2) := by
  unfold pushN
  by_cases h : 31 ≤ gs.length
  · rw [if_pos h, if_pos h]
    rfl
  · rw [if_neg h, if_neg h, show orN 0 (apartN l.1 l.2) = apartN l.1 l.2 from rfl]
    by_cases h2 : apartN l.1 l.2 = 0
    · rw [orN_pos h2]
    · rw [orN_neg h2]
      unfold applyN
      rw [orN_pos (sortedN_set.2 sg), orN_neg h2]

end Go.Proofs.YtnlcfnpcjkcdmadGreatDoor

/- Rows of one's own that lie in blocks of their own. -/
namespace Go.Proofs.YtnlcfnpcjkcdmadGreatDoor
open Go Go.RowKit Go.Proofs

theorem own_mono {W : World} {B C e s n : Nat} {v : Value} {xs : List Value} (h : W.ownsRow B e s v n xs) (hb : C ≤ B) : W.ownsRow C e s v n xs :=
  ⟨h.1, h.2.imp id fun ⟨g, cap, cur, e, hg, r⟩ => ⟨g, cap, cur, e, Nat.le_trans hb hg, r⟩⟩
/-- two rows of one's own lie in blocks of their own -/
def Far2 (v u : Value) : Prop := ∀ g, v.ownBlock = some g → u.ownBlock ≠ some g
theorem Far2.symm {v u : Value} (h : Far2 v u) : Far2 u v := fun g h1 h2 => h g h2 h1
theorem Far2.out {v u : Value} (h : Far2 v u) : u.ownBlock = none ∨ u.ownBlock ≠ v.ownBlock := by
  cases e : u.ownBlock with
  | none => exact .inl rfl
  | some g => exact .inr fun e' => h g e'.symm e
theorem far2_nil (u : Value) : Far2 (.slice none 0 0) u := fun g h => by cases h
theorem Far2.grow {v v' u : Value} {W : World} {B e s n : Nat} {ys : List Value} (h : Far2 v u) (hu : W.ownsRow B e s u n ys) (hv : v'.ownBlock = v.ownBlock ∨ v'.ownBlock = some W.heap.size) : Far2 v' u := fun g h1 h2 => by
  rcases hv with hv | hv
  · exact h g (hv ▸ h1) h2
  · rw [hv] at h1
    cases h1
    have := (hu.lt _ h2).2
    omega
end Go.Proofs.YtnlcfnpcjkcdmadGreatDoor

/- The document's Vars: the walk. -/
namespace Go.Proofs.YtnlcfnpcjkcdmadGreatDoor
open Go Go.RowKit Go.Proofs Go.Maps
set_option synthInstance.maxSize 1000

attribute [local go_sem ↓] eqlEmpty neqEmpty

set_option maxHeartbeats 8000000 in
set_option maxRecDepth 100000 in
theorem RVarsO_any (p : Pt) (w : World) (hp : fitPt p) :
    Calls Tryz.prog 21 #[valPt p] w fun e w' => Below w.heap.size w w' ∧ ∃ m ad cap, e = .returned (.tuple #[.slice ad m.length cap, .int .i64 (varsN p)]) ∧ w'.ownsRow w.heap.size 9 1 (.slice ad m.length cap) m.length (m.map encV) ∧ VarsAns p m := by
  have HS := RSlots_any p
  have Hp : Hid (fitPt p) := hp
  obtain ⟨i0, hi0, hz⟩ := Option.map_eq_some_iff.1 infoStr
  simp only [Prod.mk.injEq] at hz
  obtain ⟨hz0, hz1, hz2⟩ := hz
  clear hp
  unfold valPt at HS ⊢
  have hA : Hid (∀ m, (m = if varsN p = 0 then varsL p else []) → VarsAns p m) := fun m h => h
  generalize VarsAns p = A at *
  generalize hvN : varsN p = N at *
  have HN : Hid (varsN p = N) := hvN
  clear hvN
  go_enter Tryz.func21, Tryz.ntmps21
  go_wp2_with fail
  refine (HS _).mono ?_
  rintro e w1 ⟨bs, rfl, hps, hb1⟩
  have hB1 := bstep (balloc _ _) hb1
  have Hps : Hid (PatAt w1 bs p) := hps
  clear hps hb1 HS
  go_wp2_with fail
  go_loopw [4, 6] (fun v i wr => ∃ k : Nat, k ≤ 3 ∧ i = .int .i64 k ∧ Hid (wr.ownsRow w1.heap.size 9 1 v (vK p k).length ((vK p k).map encV)) ∧ Hid (N = restN p k) ∧ Below w1.heap.size w1 wr) (fun _ i wr => 3 - (intOf i).toNat)
  case atStart => exact ⟨0, by omega, rfl, World.ownsRow_nil _ _ _ _, HN.out.symm.trans rfl, Below.refl _ _⟩
  case round =>
    obtain ⟨k, hk, rfl, hown, hrest, hbr⟩ := hrel
    by_cases hlt : k < 3
    · have hst : Hid _ := restN_step p k hlt
      have hvs : Hid _ := vK_step p k hlt
      have hvl : (vK p k).length ≤ 3 := Nat.le_trans (vK_len p k hk) hk
      have hfs : Hid (fitSl (slotK p k)) := fit_slotK Hp.out k
      have i1 : (k : Int) < 3 := by omega
      have i0' : (0 : Int) ≤ (k : Int) := by omega
      have hzr := hbr.size
      have hps := Hps.out.below hbr
      have hbs := hps.lt
      obtain ⟨c0, c1, c2, c3⟩ := hps.at k hlt
      clear hps
      generalize slotK p k = s at *
      obtain ⟨v, kk, S, L⟩ := s
      dsimp only at c0 c1 c2 c3
      have c4 : wr.cell? ⟨bs, k * 4 + 1 + 1, none⟩ = some (.string ⟨S.toArray⟩) := c2
      have c5 : wr.cell? ⟨bs, k * 4 + 1 + 2, none⟩ = some (.string ⟨L.toArray⟩) := c3
      have HT := fun W => RTerm_any kk S L W hfs.out.2.1 hfs.out.2.2
      have HL := fun W => LettersTen_any v W hfs.out.1
      cases hve : v.isEmpty
      rotate_left
      · obtain rfl : v = [] := by simpa using hve
        have hsn : Hid (slotN ([], kk, S, L) = checkN kk S L) := rfl
        have hv2 : Hid (vK p (k + 1) = vK p k) := hvs.out
        clear hve
        generalize checkN kk S L = c at *
        cases hc : (c != 0)
        · have hr2 : Hid (N = restN p (k + 1)) := by show _ = _; rw [hrest.out, hst.out, hsn.out, if_pos (by simpa using hc)]
          go_wp2_with fail
          refine (HT _).mono ?_
          rintro e w2 ⟨rfl, hb2⟩
          go_wp2_with fail
          go_roundw
          case rel =>
            refine ⟨k + 1, by omega, by go_num, ?_, hr2, bstep hbr hb2⟩
            show World.ownsRow _ _ _ _ _ _ _
            rw [hv2.out]
            exact ownsRow_belowV hown.out hb2
          case measure => simp [intOf]; omega
        · have hcn : ¬ c = 0 := by simpa using hc
          have hNN : N = c := by rw [hrest.out, hst.out, hsn.out, if_neg hcn]
          have HNN : Hid (N = c) := hNN
          have HCN : Hid (¬ c = 0) := hcn
          clear hNN hcn
          go_wp2_with fail
          refine (HT _).mono ?_
          rintro e w2 ⟨rfl, hb2⟩
          go_wp2_with fail
          exact bodyPost_ret (v := .tuple #[.slice none 0 0, .int .i64 c]) (by simp [results, Tryz.results21, go_sem]) rfl ⟨bstep hB1 (bstep hbr hb2), [], none, 0, by rw [HNN.out]; rfl, World.ownsRow_nil _ _ _ _, hA.out _ (by rw [HNN.out, if_neg HCN.out])⟩
      · have hvn : Hid (¬ v = []) := by show ¬ v = []; simpa using hve
        have hsn : Hid (slotN (v, kk, S, L) = if spellV v = false then 2 else if (kk, S, L) = tmZero then 0 else 3) := by
          show slotN _ = _
          unfold slotN
          rw [if_neg hvn.out]
        rw [ten_spell hvn.out] at HL
        have hvs2 : Hid (vK p (k + 1) = if v ∈ vK p k then vK p k else vK p k ++ [v]) := by
          show _ = _
          rw [hvs.out]
          exact if_neg hvn.out
        clear hvs
        generalize spellV v = sp at *
        cases sp
        · have HNN : Hid (N = 2) := by show _ = _; rw [hrest.out, hst.out, hsn.out]; simp
          go_wp2_with fail
          refine (HL _).mono ?_
          rintro e w2 ⟨rfl, rfl⟩
          go_wp2_with fail
          exact bodyPost_ret (v := .tuple #[.slice none 0 0, .int .i64 2]) (by simp [results, Tryz.results21, go_sem]) rfl ⟨bstep hB1 hbr, [], none, 0, by rw [HNN.out]; rfl, World.ownsRow_nil _ _ _ _, hA.out _ (by rw [HNN.out]; rfl)⟩
        · by_cases hz : (kk, S, L) = tmZero
          · obtain ⟨rfl, rfl, rfl⟩ : kk = 0 ∧ S = [] ∧ L = [] := by simpa [tmZero] using hz
            have hr2 : Hid (N = restN p (k + 1)) := by show _ = _; rw [hrest.out, hst.out, hsn.out]; simp [tmZero]
            clear hz hst hrest hsn
            obtain ⟨ad, cap, rfl, hsl0⟩ := own_v hown.out
            have hsl : Hid (SlV wr ad (vK p k)) := hsl0
            have HC := fun W h => RHas_any ad cap (vK p k) v W h (by omega)
            clear hsl0
            generalize ht : vK p (k + 1) = t1 at *
            have Ht : Hid _ := ht
            generalize vK p k = t0 at *
            clear ht
            cases hd : decide (v ∈ t0)
            · have hv2 : Hid (t1 = t0 ++ [v]) := by show _ = _; rw [hvs2.out, if_neg (by simpa using hd)]
              rw [hd] at HC
              go_wp2_with fail
              refine (HL _).mono ?_
              rintro e w2 ⟨rfl, rfl⟩
              go_wp2_with fail
              refine (HC _ (hsl.out.below (balloc _ _))).mono ?_
              rintro e w4 ⟨rfl, hw4⟩
              subst hw4
              go_wp2_with (at_builtin; refine wpList_append_own _ rfl _ _ 59 rfl w1.heap.size 9 i0 (.string ByteArray.empty) 1 16 Tryz.underlying59 hi0 hz0 hz1 hz2 rfl (by decide) _ _ _ rfl ((hown.out.alloc _).alloc _) ⟨w2.heap.size + 1, 0, none⟩ 1 1 [encV v] rfl rfl ?c1 ?c2 ?c3 ?c4 ?c5 ?_)
              case c1 =>
                intro j u hj
                have h1 : j < 1 := (List.getElem?_eq_some_iff.1 hj).1
                obtain rfl : j = 0 := by omega
                simp [encV] at hj
                subst hj
                rw [Addr.add_lit]
                go_simp
              case c2 => intro u hu; rw [List.mem_singleton.1 hu]; rfl
              case c3 => unfold maxLen; omega
              case c4 => omega
              case c5 => simp; omega
              intro v' w9 hown' hgrow _
              have hbel := ((hbr.alloc hzr (.cells #[.int .i64 0, .string ⟨#[]⟩, .string ⟨#[]⟩] 43)).alloc (by simp; omega) (.cells #[encV v] 9)).grown hgrow (by simp; omega) (fun k hk => (hown.out.lt k hk).1)
              go_wp2_with fail
              go_roundw
              case rel =>
                refine ⟨k + 1, by omega, by go_num, ?_, hr2, hbel⟩
                show World.ownsRow _ _ _ _ _ _ _
                rw [Ht.out, hv2.out, List.length_append, List.map_append]
                exact hown'
              case measure => simp [intOf]; omega
            · have hv2 : Hid (t1 = t0) := by show _ = _; rw [hvs2.out, if_pos (by simpa using hd)]
              rw [hd] at HC
              go_wp2_with fail
              refine (HL _).mono ?_
              rintro e w2 ⟨rfl, rfl⟩
              go_wp2_with fail
              refine (HC _ (hsl.out.below (balloc _ _))).mono ?_
              rintro e w4 ⟨rfl, hw4⟩
              subst hw4
              go_wp2_with fail
              go_roundw
              case rel =>
                refine ⟨k + 1, by omega, by go_num, ?_, hr2, bstep hbr (balloc _ _)⟩
                show World.ownsRow _ _ _ _ _ _ _
                rw [Ht.out, hv2.out]
                exact hown.out.alloc _
              case measure => simp [intOf]; omega
          · have HNN : Hid (N = 3) := by show _ = _; rw [hrest.out, hst.out, hsn.out]; simp [hz]
            have hcs : (kk == 0 && (S.isEmpty && L.isEmpty)) = false := by
              cases h : (kk == 0 && (S.isEmpty && L.isEmpty))
              · rfl
              · exact absurd (by simp at h; obtain ⟨rfl, rfl, rfl⟩ := h; rfl) hz
            clear hz hst hrest hsn
            cases h1 : (kk != 0)
            · have h1' : (kk == 0) = true := by simpa using h1
              cases h2 : S.isEmpty
              · go_wp2_with fail
                refine (HL _).mono ?_
                rintro e w2 ⟨rfl, rfl⟩
                go_wp2_with fail
                exact bodyPost_ret (v := .tuple #[.slice none 0 0, .int .i64 3]) (by simp [results, Tryz.results21, go_sem]) rfl ⟨bstep hB1 (bstep hbr (balloc _ _)), [], none, 0, by rw [HNN.out]; rfl, World.ownsRow_nil _ _ _ _, hA.out _ (by rw [HNN.out]; rfl)⟩
              · have h3 : L.isEmpty = false := by rw [h1', h2] at hcs; simpa using hcs
                go_wp2_with fail
                refine (HL _).mono ?_
                rintro e w2 ⟨rfl, rfl⟩
                go_wp2_with fail
                exact bodyPost_ret (v := .tuple #[.slice none 0 0, .int .i64 3]) (by simp [results, Tryz.results21, go_sem]) rfl ⟨bstep hB1 (bstep hbr (balloc _ _)), [], none, 0, by rw [HNN.out]; rfl, World.ownsRow_nil _ _ _ _, hA.out _ (by rw [HNN.out]; rfl)⟩
            · go_wp2_with fail
              refine (HL _).mono ?_
              rintro e w2 ⟨rfl, rfl⟩
              go_wp2_with fail
              exact bodyPost_ret (v := .tuple #[.slice none 0 0, .int .i64 3]) (by simp [results, Tryz.results21, go_sem]) rfl ⟨bstep hB1 (bstep hbr (balloc _ _)), [], none, 0, by rw [HNN.out]; rfl, World.ownsRow_nil _ _ _ _, hA.out _ (by rw [HNN.out]; rfl)⟩
    · obtain rfl : k = 3 := by omega
      have hbase := hB1.size
      obtain ⟨ad, cap, rfl, _⟩ := own_v hown.out
      have hsl := own_mono hown.out hbase
      have H0 : Hid (N = 0) := hrest.out
      have hvw : vK p 3 = varsL p := rfl
      rw [hvw] at hsl
      have Hsl : Hid _ := hsl
      rw [hvw]
      clear hown hrest hvw hsl
      go_wp2_with fail
      exact bodyPost_ret (v := .tuple #[.slice ad (varsL p).length cap, .int .i64 0]) (by simp [results, Tryz.results21, go_sem]) rfl ⟨bstep hB1 hbr, _, ad, cap, by rw [H0.out], Hsl.out, hA.out _ (by rw [H0.out]; rfl)⟩
theorem RVars_any (p : Pt) (w : World) (hp : fitPt p) :
    Calls Tryz.prog 21 #[valPt p] w fun e w' => Below w.heap.size w w' ∧ ∃ m ad cap, e = .returned (.tuple #[.slice ad m.length cap, .int .i64 (varsN p)]) ∧ SlV w' ad m ∧ VarsAns p m := by
  refine (RVarsO_any p w hp).mono ?_
  rintro e w' ⟨hb, m, ad, cap, rfl, ho, ha⟩
  obtain ⟨ad', cap', e', hs⟩ := own_v ho
  cases e'
  exact ⟨hb, m, ad, cap, rfl, hs, ha⟩
end Go.Proofs.YtnlcfnpcjkcdmadGreatDoor

/- ChainPlays' code, in pieces. -/
namespace Go.Proofs.YtnlcfnpcjkcdmadGreatDoor
open Go Go.RowKit Go.Proofs

/-- the first region of a piece of code, and the piece that begins with one -/
def leftmost : Code → Option Nat
  | .region n _ _ => some n
  | .seq a _ => leftmost a
  | .block _ c => leftmost c
  | .loop c => leftmost c
  | .scope c => leftmost c
  | _ => none
def findAt (n : Nat) : Code → Option Code
  | .region m o b => if m = n then some (.region m o b) else none
  | .seq a b => if leftmost a = some n then some (.seq a b) else match findAt n a with
    | some c => some c
    | none => findAt n b
  | .block m c => if leftmost c = some n then some (.block m c) else findAt n c
  | .loop c => if leftmost c = some n then some (.loop c) else findAt n c
  | .scope c => if leftmost c = some n then some (.scope c) else findAt n c
  | .cond _ a b => match findAt n a with
    | some c => some c
    | none => findAt n b
  | _ => none
def codeOf (b : Option Code) (n : Nat) : Code := ((b.bind (findAt n)).getD .skip)
theorem go_on {P : Program} {c : Code} {Q0 : Exit → Act → World → Prop} {K : Act → World → Prop} {a : Act} {w : World} (h : ∀ a w, Code.wp P c Q0 a w → K a w) (hc : Code.wp P c Q0 a w) : K a w := h a w hc
/-- lists that are the same -/
theorem SameNil_any (w : World) : Calls Tryz.prog 20 #[.slice none 0 0, .slice none 0 0] w fun e w' => e = .returned (.bool true) ∧ RowKit.Below w.heap.size w w' :=
  SameListT none none 0 0 [] [] w (slT_nil _ _) (slT_nil _ _) (by simp) rfl
end Go.Proofs.YtnlcfnpcjkcdmadGreatDoor
