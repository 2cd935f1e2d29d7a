/- The document's Fits: has a triple what a pattern asks? -/
import Derived.Test.YtnlcfnpcjkcdmacGreatDoorRefVars
import Derived.Test.YtnlcfnpcjkcdmacGreatDoorMatchAsk
import Derived.Deep.RegionHeld3
import Derived.Deep.DeepCutAuto
namespace Go.Proofs.YtnlcfnpcjkcdmacGreatDoor
open Go Go.RowKit Go.Proofs Go.Maps
set_option synthInstance.maxSize 1000

/-! ### slot by slot, and each against those ahead -/
def pairB (p : Pt) (t : Tr) (i k : Nat) : Bool := if (slotK p i).1 = [] then true else if (slotK p k).1 = (slotK p i).1 then decide (termK t k = termK t i) else true
def inB (p : Pt) (t : Tr) (i : Nat) : Nat → Bool
  | 0 => true
  | k + 1 => inB p t i k && pairB p t i k
def headB (p : Pt) (t : Tr) (i : Nat) : Bool := if (slotK p i).1 = [] then decide ((slotK p i).2 = termK t i) else true
def okB (p : Pt) (t : Tr) (i : Nat) : Bool := headB p t i && inB p t i i
def restR (p : Pt) (t : Tr) (i : Nat) : Bool := if i = 0 then okB p t 0 && (okB p t 1 && okB p t 2) else if i = 1 then okB p t 1 && okB p t 2 else if i = 2 then okB p t 2 else true
theorem restR_step (p : Pt) (t : Tr) (i : Nat) (hi : i < 3) : restR p t i = (okB p t i && restR p t (i + 1)) := by
  rcases (by omega : i = 0 ∨ i = 1 ∨ i = 2) with rfl | rfl | rfl <;> simp [restR]
theorem inB_false {p : Pt} {t : Tr} {i k n : Nat} (h : inB p t i k = true → False ∨ pairB p t i k = false) (hk : k < n) : inB p t i n = false := by
  induction n with
  | zero => omega
  | succ m ih =>
    unfold inB
    by_cases e : k = m
    · subst e
      cases hb : inB p t i k
      · rfl
      · rcases h hb with h | h
        · exact h.elim
        · rw [h]; rfl
    · rw [ih (by omega)]; rfl

theorem fits_ref (p : Pt) (t : Tr) : restR p t 0 = fitsB p t := by
  obtain ⟨⟨v0, a0⟩, ⟨v1, a1⟩, ⟨v2, a2⟩⟩ := p
  obtain ⟨x0, x1, x2⟩ := t
  rw [Bool.eq_iff_iff]
  simp [restR, okB, headB, inB, pairB, slotK, termK, fitsB]
  grind

/-- seven, and eight, cells behind a call that lays blocks -/
theorem keep7 {W W' : World} {p0 p1 p2 p3 p4 p5 p6 : Addr} {v0 v1 v2 v3 v4 v5 v6 : Value}
    (h : W.cell? p0 = some v0 ∧ W.cell? p1 = some v1 ∧ W.cell? p2 = some v2 ∧ W.cell? p3 = some v3 ∧ W.cell? p4 = some v4 ∧ W.cell? p5 = some v5 ∧ W.cell? p6 = some v6) (hb : Below W.heap.size W W') :
    W'.cell? p0 = some v0 ∧ W'.cell? p1 = some v1 ∧ W'.cell? p2 = some v2 ∧ W'.cell? p3 = some v3 ∧ W'.cell? p4 = some v4 ∧ W'.cell? p5 = some v5 ∧ W'.cell? p6 = some v6 := by
  have q : ∀ {p : Addr} {v : Value}, W.cell? p = some v → W'.cell? p = some v := fun {p v} hp => (hb.cell (World.block_lt_of_cell? W _ hp)).trans hp
  exact ⟨q h.1, q h.2.1, q h.2.2.1, q h.2.2.2.1, q h.2.2.2.2.1, q h.2.2.2.2.2.1, q h.2.2.2.2.2.2⟩
theorem keep8 {W W' : World} {p0 p1 p2 p3 p4 p5 p6 p7 : Addr} {v0 v1 v2 v3 v4 v5 v6 v7 : Value}
    (h : W.cell? p0 = some v0 ∧ W.cell? p1 = some v1 ∧ W.cell? p2 = some v2 ∧ W.cell? p3 = some v3 ∧ W.cell? p4 = some v4 ∧ W.cell? p5 = some v5 ∧ W.cell? p6 = some v6 ∧ W.cell? p7 = some v7) (hb : Below W.heap.size W W') :
    W'.cell? p0 = some v0 ∧ W'.cell? p1 = some v1 ∧ W'.cell? p2 = some v2 ∧ W'.cell? p3 = some v3 ∧ W'.cell? p4 = some v4 ∧ W'.cell? p5 = some v5 ∧ W'.cell? p6 = some v6 ∧ W'.cell? p7 = some v7 := by
  have q : ∀ {p : Addr} {v : Value}, W.cell? p = some v → W'.cell? p = some v := fun {p v} hp => (hb.cell (World.block_lt_of_cell? W _ hp)).trans hp
  exact ⟨q h.1, q h.2.1, q h.2.2.1, q h.2.2.2.1, q h.2.2.2.2.1, q h.2.2.2.2.2.1, q h.2.2.2.2.2.2.1, q h.2.2.2.2.2.2.2⟩
theorem TripAt.at {w : World} {b : Nat} {t : Tr} (h : TripAt w b t) (k : Nat) (hk : k < 3) :
    w.cell? ⟨b, k * 3, none⟩ = some (.int .i64 (termK t k).1) ∧ w.cell? ⟨b, k * 3 + 1, none⟩ = some (.string ⟨(termK t k).2.1.toArray⟩) ∧ w.cell? ⟨b, k * 3 + 2, none⟩ = some (.string ⟨(termK t k).2.2.toArray⟩) := by
  rcases (by omega : k = 0 ∨ k = 1 ∨ k = 2) with rfl | rfl | rfl
  all_goals exact ⟨h _ _ rfl, h _ _ rfl, h _ _ rfl⟩
theorem TripAt.lt {w : World} {b : Nat} {t : Tr} (h : TripAt w b t) : b < w.heap.size := World.block_lt_of_cell? w _ (h 0 _ rfl)

theorem eqlEmF (v : List UInt8) (h : v.isEmpty = false) (w : World) : (binOp .eql 9 (.string ⟨v.toArray⟩) (.string ⟨#[]⟩)).run Tryz.prog w = .ok (.bool false) w := by rw [eqlEmpty, h]
theorem neqEmT (v : List UInt8) (h : v.isEmpty = false) (w : World) : (binOp .neq 9 (.string ⟨v.toArray⟩) (.string ⟨#[]⟩)).run Tryz.prog w = .ok (.bool true) w := by rw [neqEmpty, h]; rfl
theorem eqlSelfS (v : List UInt8) (w : World) : (binOp .eql 9 (.string ⟨v.toArray⟩) (.string ⟨v.toArray⟩)).run Tryz.prog w = .ok (.bool true) w := by rw [eqlStr]; simp
theorem eqlOtherS (a b : List UInt8) (h : (a == b) = false) (w : World) : (binOp .eql 9 (.string ⟨a.toArray⟩) (.string ⟨b.toArray⟩)).run Tryz.prog w = .ok (.bool false) w := by rw [eqlStr]; simp at h; simp [h]

theorem bnot_of {c d : Bool} (h : c = !d) (hc : c = true) : d = false := by cases d <;> simp_all

attribute [local go_sem ↓] eqlEmF neqEmT eqlSelfS eqlOtherS

set_option maxHeartbeats 8000000 in
set_option maxRecDepth 100000 in
theorem RFits_any (t : Tr) (p : Pt) (w : World) :
    Calls Tryz.prog 39 #[valTr t, valPt p] w fun e w' => e = .returned (.bool (fitsB p t)) ∧ Below w.heap.size w w' := by
  have HS := RSlots_any p
  have HT := RThree_any t
  have fin : Hid (fitsB p t = restR p t 0) := (fits_ref p t).symm
  generalize fitsB p t = ans at *
  have HPB : Hid (∀ T, PatAt ((w.alloc (.cells (encTr t).toArray T)).alloc (.cells (encPt p).toArray 28)) (w.heap.size + 1) p) := fun T => by
    have := patBox (w.alloc (.cells (encTr t).toArray T)) p 28
    simpa using this
  have HTB : Hid (TripAt (w.alloc (.cells (encTr t).toArray 82)) w.heap.size t) := tripBox w t 82
  unfold valPt at HS ⊢
  unfold valTr at HT ⊢
  go_enter Tryz.func39, Tryz.ntmps39
  go_wp2_with fail
  refine (HS _).mono ?_
  rintro e w1 ⟨bs, rfl, hps, hb1⟩
  have hB1 := bstep (bstep (balloc _ _) (balloc _ _)) hb1
  obtain ⟨t0, t1, t2, t3, t4, t5, t6, t7, t8⟩ := ((HTB.out.below (balloc _ _)).below hb1).all
  go_wp2_with fail
  refine (HT _).mono ?_
  rintro e w2 ⟨bx, rfl, htx, hb2⟩
  have Hps : Hid (PatAt w2 bs p) := hps.below hb2
  have Htx : Hid (TripAt w2 bx t) := htx
  have hB2 := bstep hB1 hb2
  clear t0 t1 t2 t3 t4 t5 t6 t7 t8 hps htx hb1 hb2 hB1 HS HT HPB HTB
  go_wp2_with fail
  go_loopw [7] (fun i wr => ∃ k : Nat, k ≤ 3 ∧ i = .int .i64 k ∧ Hid (ans = restR p t k) ∧ Below w2.heap.size w2 wr) (fun i wr => 3 - (intOf i).toNat)
  case atStart => exact ⟨0, by omega, rfl, fin.out, Below.refl _ _⟩
  case round =>
    obtain ⟨i, hi, rfl, hrest, hbr⟩ := hrel
    by_cases hlt : i < 3
    · have hst : Hid _ := restR_step p t i hlt
      have hok : Hid (okB p t i = (headB p t i && inB p t i i)) := rfl
      have hhd : Hid (headB p t i = if (slotK p i).1 = [] then decide ((slotK p i).2 = termK t i) else true) := rfl
      have i1 : (i : Int) < 3 := by omega
      have i0 : (0 : Int) ≤ (i : Int) := by omega
      have hps := Hps.out.below hbr
      have htx := Htx.out.below hbr
      obtain ⟨c0, c1, c2, c3⟩ := hps.at i hlt
      obtain ⟨x0, x1, x2⟩ := htx.at i hlt
      have HC := fun W => RCompare_any (slotK p i).2.1 (slotK p i).2.2.1 (slotK p i).2.2.2 (termK t i).1 (termK t i).2.1 (termK t i).2.2 W
      have hcz : Hid ((cmpT (slotK p i).2.1 (slotK p i).2.2.1 (slotK p i).2.2.2 (termK t i).1 (termK t i).2.1 (termK t i).2.2 != 0) = !decide ((slotK p i).2 = termK t i)) := by
        show _ = _
        rw [← eqTB_tm, ← cmp_eq]
        rfl
      clear hps htx
      generalize cmpT (slotK p i).2.1 (slotK p i).2.2.1 (slotK p i).2.2.2 (termK t i).1 (termK t i).2.1 (termK t i).2.2 = c at *
      have hsl : Hid (∃ s : Sl, s = slotK p i) := ⟨_, rfl⟩
      obtain ⟨⟨v, kk, S, L⟩, hs⟩ := hsl.out
      have hx' : Hid (∃ x : Tm, x = termK t i) := ⟨_, rfl⟩
      obtain ⟨⟨xk, xS, xL⟩, hx⟩ := hx'.out
      rw [← hs] at c0 c1 c2 c3 HC hcz hhd
      rw [← hx] at x0 x1 x2 HC hcz hhd
      dsimp only at c0 c1 c2 c3 x0 x1 x2 HC hcz hhd
      have c4 : wr.cell? ⟨bs, i * 4 + 1 + 1, none⟩ = some (.string ⟨S.toArray⟩) := c2
      have c5 : wr.cell? ⟨bs, i * 4 + 1 + 2, none⟩ = some (.string ⟨L.toArray⟩) := c3
      have Hs : Hid ((v, kk, S, L) = slotK p i) := hs
      have Hx : Hid ((xk, xS, xL) = termK t i) := hx
      clear hsl hx' hs hx
      go_upto_region 6 with fail
      go_cut [35] from 17 to 35 (fun u W' => ∃ b, u = .bool b ∧ Hid (b = !headB p t i) ∧ Below w2.heap.size w2 W')
      case first =>
        cases hve : v.isEmpty
        · have hhd2 : Hid (headB p t i = true) := by show _ = _; rw [hhd.out]; exact if_neg (by intro e; rw [e] at hve; cases hve)
          go_region
          go_wp2_with fail
          go_meet
          case rel => exact ⟨_, rfl, by show _ = _; rw [hhd2.out]; rfl, hbr.drew⟩
        · obtain rfl : v = [] := by simpa using hve
          have hhd2 : Hid (headB p t i = decide ((kk, S, L) = (xk, xS, xL))) := hhd.out
          cases hcc : (c != 0)
          · go_region_held3 (fun W => W.cell? ⟨bs, i * 4, none⟩ = some (.string ⟨#[]⟩) ∧ W.cell? ⟨bs, i * 4 + 1, none⟩ = some (.int .i64 kk) ∧ W.cell? ⟨bs, i * 4 + 1 + 1, none⟩ = some (.string ⟨S.toArray⟩) ∧ W.cell? ⟨bs, i * 4 + 1 + 2, none⟩ = some (.string ⟨L.toArray⟩) ∧ W.cell? ⟨bx, i * 3, none⟩ = some (.int .i64 xk) ∧ W.cell? ⟨bx, i * 3 + 1, none⟩ = some (.string ⟨xS.toArray⟩) ∧ W.cell? ⟨bx, i * 3 + 2, none⟩ = some (.string ⟨xL.toArray⟩)) (first | exact keep7 (by assumption) hb3 | go_keep) (first
            | (go_at_call 65; refine (HC _).mono ?_; rintro e w3 ⟨rfl, hb3⟩))
            go_wp2_with fail
            go_meet
            case rel => exact ⟨_, rfl, by show _ = _; rw [hhd2.out, ← hcz.out, hcc], bstep hbr.drew hb3⟩
          · go_region_held3 (fun W => W.cell? ⟨bs, i * 4, none⟩ = some (.string ⟨#[]⟩) ∧ W.cell? ⟨bs, i * 4 + 1, none⟩ = some (.int .i64 kk) ∧ W.cell? ⟨bs, i * 4 + 1 + 1, none⟩ = some (.string ⟨S.toArray⟩) ∧ W.cell? ⟨bs, i * 4 + 1 + 2, none⟩ = some (.string ⟨L.toArray⟩) ∧ W.cell? ⟨bx, i * 3, none⟩ = some (.int .i64 xk) ∧ W.cell? ⟨bx, i * 3 + 1, none⟩ = some (.string ⟨xS.toArray⟩) ∧ W.cell? ⟨bx, i * 3 + 2, none⟩ = some (.string ⟨xL.toArray⟩)) (first | exact keep7 (by assumption) hb3 | go_keep) (first
            | (go_at_call 65; refine (HC _).mono ?_; rintro e w3 ⟨rfl, hb3⟩))
            go_wp2_with fail
            go_meet
            case rel => exact ⟨_, rfl, by show _ = _; rw [hhd2.out, ← hcz.out, hcc], bstep hbr.drew hb3⟩
      case rest =>
        obtain ⟨hb, rfl, hhb, hbc⟩ := hcut
        clear c0 c1 c2 c3 c4 c5 x0 x1 x2 HC hcz hhd
        cases hb
        rotate_left
        · go_wp2_with fail
          go_ret
          exact ⟨ret_bool (by have := hhb.out; rw [hrest.out, hst.out, hok.out, show headB p t i = false by simpa using this]; rfl), bstep hB2 hbc⟩
        · have hh2 : Hid (headB p t i = true) := by have := hhb.out; show _ = _; simpa using this
          go_wp2_with fail
          go_loopw [8] (fun u W' => ∃ k : Nat, k ≤ i ∧ u = .int .i64 k ∧ Hid (inB p t i k = true) ∧ Below w2.heap.size w2 W') (fun u W' => i - (intOf u).toNat)
          case atStart => exact ⟨0, by omega, rfl, rfl, hbc⟩
          case round =>
            clear hbc
            obtain ⟨k, hk, rfl, hin, hbk⟩ := hrel
            by_cases hki : k < i
            · have hk3 : k < 3 := by omega
              have j1 : (k : Int) < 3 := by omega
              have j0 : (0 : Int) ≤ (k : Int) := by omega
              have hps := Hps.out.below hbk
              have htx := Htx.out.below hbk
              obtain ⟨c0, _, _, _⟩ := hps.at i hlt
              obtain ⟨e0, _, _, _⟩ := hps.at k hk3
              obtain ⟨x0, x1, x2⟩ := htx.at i hlt
              obtain ⟨y0, y1, y2⟩ := htx.at k hk3
              have hpair : Hid (pairB p t i k = if (slotK p i).1 = [] then true else if (slotK p k).1 = (slotK p i).1 then decide (termK t k = termK t i) else true) := rfl
              have hst2 : Hid (inB p t i (k + 1) = (inB p t i k && pairB p t i k)) := rfl
              have hfl : Hid (pairB p t i k = false → inB p t i i = false) := fun h => inB_false (fun _ => .inr h) hki
              have HD := fun W => RCompare_any (termK t k).1 (termK t k).2.1 (termK t k).2.2 (termK t i).1 (termK t i).2.1 (termK t i).2.2 W
              have hcz : Hid ((cmpT (termK t k).1 (termK t k).2.1 (termK t k).2.2 (termK t i).1 (termK t i).2.1 (termK t i).2.2 != 0) = !decide (termK t k = termK t i)) := by
                show _ = _
                rw [← eqTB_tm, ← cmp_eq]
                rfl
              clear hps htx
              generalize cmpT (termK t k).1 (termK t k).2.1 (termK t k).2.2 (termK t i).1 (termK t i).2.1 (termK t i).2.2 = c at *
              rw [← Hs.out] at c0 hpair
              rw [← Hx.out] at x0 x1 x2 HD hcz hpair
              generalize slotK p k = sk at *
              obtain ⟨vk, ak⟩ := sk
              generalize termK t k = y at *
              obtain ⟨yk, yS, yL⟩ := y
              dsimp only at c0 e0 x0 x1 x2 y0 y1 y2 HD hcz hpair
              cases hve : v.isEmpty
              rotate_left
              · obtain rfl : v = [] := by simpa using hve
                have hp2 : Hid (pairB p t i k = true) := by show _ = _; rw [hpair.out]; exact if_pos rfl
                go_wp2_with fail
                go_region
                go_wp2_with fail
                go_roundw
                case rel => exact ⟨k + 1, by omega, by go_num, by show _ = _; rw [hst2.out, hin.out, hp2.out]; rfl, hbk.drew⟩
                case measure => simp [intOf]; omega
              · have hvn : ¬ v = [] := by intro e; rw [e] at hve; cases hve
                cases heq : (vk == v)
                · have hp2 : Hid (pairB p t i k = true) := by
                    show _ = _
                    rw [hpair.out, if_neg hvn, if_neg (by simpa using heq)]
                  clear hvn
                  go_wp2_with fail
                  go_region
                  go_wp2_with fail
                  go_roundw
                  case rel => exact ⟨k + 1, by omega, by go_num, by show _ = _; rw [hst2.out, hin.out, hp2.out]; rfl, hbk.drew⟩
                  case measure => simp [intOf]; omega
                · have hp2 : Hid (pairB p t i k = decide ((yk, yS, yL) = (xk, xS, xL))) := by
                    show _ = _
                    rw [hpair.out, if_neg hvn, if_pos (by simpa using heq)]
                  clear hvn
                  obtain rfl : vk = v := by simpa using heq
                  clear heq
                  cases hcc : (c != 0)
                  · go_wp2_with fail
                    go_region_held3 (fun W => W.cell? ⟨bs, i * 4, none⟩ = some (.string ⟨vk.toArray⟩) ∧ W.cell? ⟨bs, k * 4, none⟩ = some (.string ⟨vk.toArray⟩) ∧ W.cell? ⟨bx, k * 3, none⟩ = some (.int .i64 yk) ∧ W.cell? ⟨bx, k * 3 + 1, none⟩ = some (.string ⟨yS.toArray⟩) ∧ W.cell? ⟨bx, k * 3 + 2, none⟩ = some (.string ⟨yL.toArray⟩) ∧ W.cell? ⟨bx, i * 3, none⟩ = some (.int .i64 xk) ∧ W.cell? ⟨bx, i * 3 + 1, none⟩ = some (.string ⟨xS.toArray⟩) ∧ W.cell? ⟨bx, i * 3 + 2, none⟩ = some (.string ⟨xL.toArray⟩)) (first | exact keep8 (by assumption) hb3 | go_keep) (first
                | (go_at_call 65; refine (HD _).mono ?_; rintro e w3 ⟨rfl, hb3⟩))
                    go_wp2_with fail
                    go_roundw
                    case rel => exact ⟨k + 1, by omega, by go_num, by show _ = _; rw [hst2.out, hin.out, hp2.out]; have := hcz.out; rw [hcc] at this; simpa using this.symm, bstep hbk.drew hb3⟩
                    case measure => simp [intOf]; omega
                  · go_wp2_with fail
                    go_region_held3 (fun W => W.cell? ⟨bs, i * 4, none⟩ = some (.string ⟨vk.toArray⟩) ∧ W.cell? ⟨bs, k * 4, none⟩ = some (.string ⟨vk.toArray⟩) ∧ W.cell? ⟨bx, k * 3, none⟩ = some (.int .i64 yk) ∧ W.cell? ⟨bx, k * 3 + 1, none⟩ = some (.string ⟨yS.toArray⟩) ∧ W.cell? ⟨bx, k * 3 + 2, none⟩ = some (.string ⟨yL.toArray⟩) ∧ W.cell? ⟨bx, i * 3, none⟩ = some (.int .i64 xk) ∧ W.cell? ⟨bx, i * 3 + 1, none⟩ = some (.string ⟨xS.toArray⟩) ∧ W.cell? ⟨bx, i * 3 + 2, none⟩ = some (.string ⟨xL.toArray⟩)) (first | exact keep8 (by assumption) hb3 | go_keep) (first
                | (go_at_call 65; refine (HD _).mono ?_; rintro e w3 ⟨rfl, hb3⟩))
                    go_wp2_with fail
                    go_ret
                    exact ⟨ret_bool (by rw [hrest.out, hst.out, hok.out, hfl.out (hp2.out.trans (bnot_of hcz.out hcc))]; simp), bstep hB2 (bstep hbk.drew hb3)⟩
            · obtain rfl : k = i := by omega
              go_wp2_with fail
              go_roundw
              case rel => exact ⟨k + 1, by omega, by go_num, by show _ = _; rw [hrest.out, hst.out, hok.out, hh2.out, hin.out]; rfl, hbk⟩
              case measure => simp [intOf]; omega
    · obtain rfl : i = 3 := by omega
      go_wp2_with fail
      go_ret
      exact ⟨ret_bool (by rw [hrest.out]; rfl), bstep hB2 hbr⟩
end Go.Proofs.YtnlcfnpcjkcdmacGreatDoor
