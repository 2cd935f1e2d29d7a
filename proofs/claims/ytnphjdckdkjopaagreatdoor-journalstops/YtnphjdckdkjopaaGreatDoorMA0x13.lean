import Derived.Test.YtnphjdckdkjopaaGreatDoorMA0x12
import Derived.Test.YtnphjdckdkjopaaGreatDoorMA0x4

/- journal's replay: of whole records the repo that comes of them. -/
namespace Go.Proofs.YtnphjdckdkjopaaGreatDoor
open Go Go.RowKit Go.Proofs Go.Maps
set_option synthInstance.maxSize 1000

attribute [local go_sem] eql_errV neq_errV guard_errV

/-- the repo at block r, in new memory -/
def NewR (w wr : World) (r : Nat) (R : Rp) : Prop := ∃ s bm cv OS P, RpW wr r s bm cv OS P R ∧ ∀ i, RpO r bm cv OS P i → w.heap.size ≤ i
theorem NewR.below {w wr wr' : World} {r : Nat} {R : Rp} (h : NewR w wr r R) (hb : RowKit.Below wr.heap.size wr wr') : NewR w wr' r R := by
  obtain ⟨s, bm, cv, OS, P, h1, h2⟩ := h
  exact ⟨s, bm, cv, OS, P, h1.below hb, h2⟩
def ReplayAns (w : World) (ds : List Dd) (e : Ending) (w' : World) : Prop := ∃ r, e = .returned (.tuple #[.pointer (some ⟨r, 0, none⟩), .int .i64 ((recs ds).length : Int)]) ∧ NewR w w' r (playR ds) ∧ RowKit.Below w.heap.size w w'
theorem drop_recs {ds : List Dd} {p : List UInt8} {k : Nat} : (recs ds ++ p).drop (recs (ds.take k)).length = recs (ds.drop k) ++ p := by
  conv => lhs; rw [← List.take_append_drop k ds]
  rw [recs_app, List.append_assoc]
  have : (recs (List.take k (List.take k ds ++ List.drop k ds))).length = (recs (List.take k ds)).length := by rw [List.take_append_drop]
  rw [this]
  exact List.drop_left
set_option maxHeartbeats 8000000 in
set_option maxRecDepth 100000 in
theorem replay_any (ds : List Dd) (p : List UInt8) (hds : ∀ d ∈ ds, OkD d) (hp : Piece p) (w : World) (hb : (recs ds ++ p).length ≤ 1000000000) (hL : ∀ W, RowKit.Below w.heap.size w W → ErrsL W) :
    Calls Tryz.prog 26 #[.string ⟨(recs ds ++ p).toArray⟩] w (ReplayAns w ds) := by
  have H0 := QNew_any w
  have HF1 := hideO (fun (k : Nat) (hk : k < ds.length) W (hW : RowKit.Below w.heap.size w W) => by
    have e : recs (ds.drop k) ++ p = recD ds[k] ++ (recs (ds.drop (k + 1)) ++ p) := by
      rw [List.drop_eq_getElem_cons hk, recs_cons, List.append_assoc]
    have hl : (recs (ds.drop k) ++ p).length ≤ 1000000000 := by
      rw [← drop_recs (k := k)]
      rw [List.length_drop]
      omega
    have := first_any (recs (ds.drop k) ++ p) W hl (fun W' h' => hL W' (bstep hW h')) (by rw [e]; exact noneg_rec (hds _ (List.getElem_mem hk)) _)
    have e2 : firstD (recs (ds.drop k) ++ p) = (bodyD ds[k], (recD ds[k]).length) := by rw [e]; exact first_rec (hds _ (List.getElem_mem hk)) _
    rw [e2] at this
    exact this)
  have HF0 := hideO (fun W (hW : RowKit.Below w.heap.size w W) => by
    have := first_any p W (by rw [List.length_append] at hb; omega) (fun W' h' => hL W' (bstep hW h')) (noneg_piece hp)
    rw [hp.first] at this
    exact this)
  have HP := hideO (fun (k : Nat) (hk : k < ds.length) W (hW : RowKit.Below w.heap.size w W) => jparse_any ds[k] (hds _ (List.getElem_mem hk)) W (fun W' h' => hL W' (bstep hW h')))
  have HD := hideO (fun (k : Nat) (hk : k < ds.length) W (r s bm : Nat) (cv : Value) (OS P : Nat → Prop) ad ca (h : RpW W r s bm cv OS P (playR (ds.take k))) (hi : InD W ds[k] ad ca) => do_any W r s bm cv OS P (playR (ds.take k)) ds[k] ad ca h (good_play _) hi)
  have HB := hideO hb
  have HR := hideO (fun (k : Nat) (hk : k < ds.length) => rec_len (hds _ (List.getElem_mem hk)))
  clear hds hp hb hL
  go_enter Tryz.func26, Tryz.ntmps26
  go_wp2_with fail
  refine H0.mono ?_
  rintro e w1 ⟨r, OR, rfl, ⟨s0, bm0, cv0, OS0, P0, hr0, hO0⟩, hb1, hn1⟩
  have hN1 : NewR w w1 r emptyR := ⟨s0, bm0, cv0, OS0, P0, hr0, fun i hi => hn1 i ((hO0 i).2 hi)⟩
  have Hb1 := hideO hb1
  have HN1 := hideO hN1
  clear hr0 hO0 hn1 hN1 hb1 H0
  dsimp only
  go_wp2_with fail
  go_loopw [5] (fun i wr => ∃ (k : Nat), k ≤ ds.length ∧ i = .int .i64 ((recs (ds.take k)).length : Int) ∧ Hid (NewR w wr r (playR (ds.take k))) ∧ Hid (RowKit.Below w.heap.size w wr)) (fun i wr => (recs ds).length + 1 - (intOf i).toNat)
  case atStart => exact ⟨0, Nat.zero_le _, by simp [recs], by simpa [playR] using HN1, Hb1⟩
  case round =>
    obtain ⟨k, hk, rfl, hNk, hBk⟩ := hrel
    have hlen : (recs (ds.take k)).length ≤ (recs ds ++ p).length := by
      rw [List.length_append]
      conv => rhs; rw [← List.take_append_drop k ds, recs_app, List.length_append]
      omega
    have hB9 := HB.out
    have ed := dropX (recs ds ++ p) (recs (ds.take k)).length
    rw [drop_recs] at ed
    have hsz : (⟨(recs ds ++ p).toArray⟩ : ByteArray).size = (recs ds ++ p).length := rfl
    by_cases hlt : k < ds.length
    · have h1 := HF1.out k hlt wr hBk.out
      have hP := HP.out k hlt
      have hD := HD.out k hlt
      have hr := HR.out k hlt
      have hnx : recs (ds.take (k + 1)) = recs (ds.take k) ++ recD ds[k] := by
        rw [List.take_succ_eq_append_getElem hlt, recs_app]
        simp [recs]
      have hpl : playR (ds.take (k + 1)) = doR (playR (ds.take k)) ds[k] := by
        rw [List.take_succ_eq_append_getElem hlt, play_snoc]
      have hfit : (recs (ds.take (k + 1))).length ≤ (recs ds).length := by
        conv => rhs; rw [← List.take_append_drop (k + 1) ds, recs_app, List.length_append]
        omega
      rw [hnx, List.length_append] at hfit
      have NX := hideO hnx
      have PX := hideO hpl
      have KX := hideO hlt
      clear hnx hpl HF1 HF0 HP HD HR
      generalize ds[k] = d at *
      clear hlt
      generalize recD d = RD at *
      have hL0 : ((RD.length : Int) == 0) = false := beq_eq_false_iff_ne.2 (by have := hr.2; omega)
      generalize recs (ds.drop k) ++ p = T at *
      have hle : (recs ds).length ≤ (recs ds ++ p).length := by rw [List.length_append]; omega
      obtain ⟨tl, htl⟩ : ∃ tl, tl = (recs ds).length := ⟨_, rfl⟩
      rw [← htl] at hfit hle ⊢
      have hw : IntKind.i64.wrap (((recs (ds.take k)).length : Int) + (RD.length : Int)) = (((recs (ds.take k)).length + RD.length : Nat) : Int) := by simp [IntKind.wrap, IntKind.bits, IntKind.signed]; omega
      generalize recs ds ++ p = B at *
      obtain ⟨n, hn⟩ : ∃ n, n = (recs (ds.take k)).length := ⟨_, rfl⟩
      rw [← hn] at hlen ed hfit hw ⊢
      have HN := hideO hn
      have HTL := hideO htl
      clear hn htl
      go_wp2_with fail
      refine h1.mono ?_
      rintro e w2 ⟨rfl, hb2⟩
      dsimp only
      go_wp2_with fail
      refine (hP w2 (bstep hBk.out hb2)).mono ?_
      rintro e w4 ⟨ad, ca, rfl, hi4, hb4⟩
      have hb24 := bstep hb2 hb4
      have hB4 := bstep hBk.out hb24
      obtain ⟨s, bm, cv, OS, P, hrp, hown⟩ := hNk.out.below hb24
      have HB4 := hideO hB4
      have HRP := hideO hrp
      have HOW := hideO hown
      have HI4 := hideO hi4
      clear hb2 hb4 hb24 hB4 hrp hown hi4 h1 hP hNk hBk
      obtain ⟨kk, nm, S, m, z⟩ := d
      unfold valD at hD ⊢
      dsimp only at hD ⊢
      go_wp2_with fail
      refine (hD _ r s bm cv OS P ad ca (HRP.out.below (balloc _ _)) (HI4.out.below (balloc _ _))).mono ?_
      rintro e w6 ⟨rfl, cv6, OS6, P6, q1, q2, q3⟩
      have F1 : Hid (NewR w w6 r (doR (playR (ds.take k)) (kk, nm, S, m, z))) := by
        refine ⟨s, bm, cv6, OS6, P6, q1, fun i hi => (q3.all i hi).elim (HOW.out i) fun h => ?_⟩
        have := HB4.out.size
        have hz := (balloc w4 (.cells #[.string ⟨kk.toArray⟩, .string ⟨nm.toArray⟩, .slice ad S.length ca, .string ⟨m.toArray⟩, .int .i64 z] 71)).size
        exact Nat.le_trans this (Nat.le_trans hz h)
      have F2 : Hid (RowKit.Below w.heap.size w w6) := by
        have hz := balloc w4 (.cells #[.string ⟨kk.toArray⟩, .string ⟨nm.toArray⟩, .slice ad S.length ca, .string ⟨m.toArray⟩, .int .i64 z] 71)
        have h5 := bstep HB4.out hz
        exact h5.trans ((q2.below (B := w.heap.size) (fun j hj => HOW.out j hj.any) h5.size))
      clear q1 q2 q3 HB4 HRP HOW HI4 hD
      dsimp only
      go_wp2_with fail
      go_roundw
      case rel => exact ⟨k + 1, KX.out, by rw [NX.out, List.length_append, ← HN.out]; rfl, by rw [PX.out]; exact F1, F2⟩
      case measure =>
        have := hr.2
        simp [intOf]
        omega
    · obtain rfl : k = ds.length := by omega
      have h1 := HF0.out wr hBk.out
      have hNk' := hNk.out
      rw [List.drop_length, show recs [] ++ p = p from rfl] at ed
      rw [List.take_length] at hlen ed hNk' ⊢
      have fin : Hid (∀ w', RowKit.Below wr.heap.size wr w' → ReplayAns w ds (.returned (.tuple #[.pointer (some ⟨r, 0, none⟩), .int .i64 ((recs ds).length : Int)])) w') := fun w' hb' => ⟨r, rfl, hNk'.below hb', bstep hBk.out hb'⟩
      clear hNk hNk' hBk HF1 HF0 HP HD HR HB hlt
      generalize ReplayAns w ds = G at *
      generalize recs ds ++ p = B at *
      generalize (recs ds).length = n at *
      go_wp2_with fail
      refine h1.mono ?_
      rintro e w2 ⟨rfl, hb2⟩
      have F := hideO (fin.out w2 hb2)
      clear fin h1 hb2
      dsimp only
      go_wp2_with fail
      exact F.out
end Go.Proofs.YtnphjdckdkjopaaGreatDoor

/- journal's Crash. -/
namespace Go.Proofs.YtnphjdckdkjopaaGreatDoor
open Go Go.RowKit Go.Proofs Go.Maps
set_option synthInstance.maxSize 1000

attribute [local go_sem] eql_errV neq_errV guard_errV

theorem bytes_one (l : List UInt8) : ∀ u ∈ bytesV l, u.oneCell' = true := fun u hu => by
  obtain ⟨b, _, rfl⟩ := List.mem_map.1 hu
  rfl
set_option maxHeartbeats 2000000 in
set_option maxRecDepth 100000 in
theorem cloneB_any (w : World) (v : Value) (l : List UInt8) (h : w.ownsRow 0 5 1 v l.length (bytesV l)) (hl : l.length ≤ 1000000000) :
    Calls Tryz.prog 27 #[v] w fun e w' => ∃ v', e = .returned v' ∧ w'.ownsRow 0 5 1 v' l.length (bytesV l) ∧ RowKit.Below w.heap.size w w' ∧ ∀ g, v'.ownBlock = some g → w.heap.size ≤ g := by
  have H := hideO h
  obtain ⟨ad, cap, rfl⟩ := prow_form h
  cases ad with
  | none =>
    have hq := fun W n c' => Lib.run_eql_slice_nil (P := Tryz.prog) W 65 5 none n cap 0 c' Tryz.underlying65
    have hnil : l.length = 0 ∧ cap = 0 := by
      rcases h.2 with ⟨e, h0⟩ | ⟨g, cap', cur, e, _⟩
      · injection e with e1 e2 e3; exact ⟨e2, e3⟩
      · injection e with e1 e2 e3; cases e1
    have fin : Hid (w.ownsRow 0 5 1 (.slice none 0 0) l.length (bytesV l)) := by
      have := h
      rw [hnil.2, hnil.1] at this
      rw [hnil.1]
      exact this
    obtain ⟨h0, rfl⟩ := hnil
    clear H h
    generalize bytesV l = C at *
    generalize l.length = n at *
    subst h0
    go_enter Tryz.func27, Tryz.ntmps27
    go_wp2_with fail
    exact bodyPost_ret (v := .slice none 0 0) (by simp [results, Tryz.results27, go_sem]) rfl ⟨_, rfl, fin.out, RowKit.Below.refl _ _, fun g hg => by cases hg⟩
  | some d =>
    obtain ⟨v', w', hr, ho', hb'⟩ := row_clone (w := w) 65 65 5 (.int .u8 0) 1 1 Tryz.underlying65 infoU8 rfl (by decide) h (bytes_one l) hl (by omega) (fun c e => by injection e with e1; cases e1)
    have hq := fun W n c' => Lib.run_eql_slice_nil (P := Tryz.prog) W 65 5 (some d) n cap 0 c' Tryz.underlying65
    have fin : Hid (w'.ownsRow 0 5 1 v' l.length (bytesV l) ∧ RowKit.Below w.heap.size w w' ∧ ∀ g, v'.ownBlock = some g → w.heap.size ≤ g) := by
      refine ⟨⟨ho'.1, ?_⟩, hb', fun g hg => (ho'.lt g hg).1⟩
      rcases ho'.2 with q | ⟨g, cap', cur, q1, q2, q3⟩
      · exact Or.inl q
      · exact Or.inr ⟨g, cap', cur, q1, Nat.zero_le _, q3⟩
    clear h H ho' hb'
    generalize bytesV l = C at *
    generalize l.length = n at *
    go_enter Tryz.func27, Tryz.ntmps27
    go_wp2_with (at_builtin; refine wpList_append_eq rfl _ _ 65 rfl rfl rfl hr ?_)
    exact bodyPost_ret (v := v') (by simp [results, Tryz.results27, go_sem]) rfl ⟨_, rfl, fin.out⟩
/-- the first so many of a row -/
theorem row_take {w : World} {ad : Option Addr} {l : List UInt8} {cap : Nat} (h : w.ownsRow 0 5 1 (.slice ad l.length cap) l.length (bytesV l)) (t : Nat) (ht : t ≤ l.length) : w.ownsRow 0 5 1 (.slice ad t cap) (l.take t).length (bytesV (l.take t)) ∧ l.length ≤ cap ∧ (ad = none ∨ ∃ g, ad = some ⟨g, 0, none⟩) := by
  have hlt : (l.take t).length = t := by rw [List.length_take]; omega
  have hbt : bytesV (l.take t) = (bytesV l).take t := by simp [bytesV]
  rcases h.2 with ⟨e, h0⟩ | ⟨g, cap', cur, e, hg, hm, hnc, hcm, hcs, htk⟩
  · injection e with e1 e2 e3
    subst e1 e3
    have ht0 : t = 0 := by omega
    subst ht0
    exact ⟨World.ownsRow_nil _ _ _ _, by omega, Or.inl rfl⟩
  · injection e with e1 e2 e3
    subst e1 e3
    refine ⟨⟨by rw [bytesV_len, Nat.mul_one], Or.inr ⟨g, cap, cur, by rw [hlt], hg, hm, by omega, hcm, hcs, ?_⟩⟩, hnc, Or.inr ⟨g, rfl⟩⟩
    rw [hlt, hbt, ← htk, List.take_take]
    congr 1
    omega
set_option maxRecDepth 100000 in
theorem row_string {w : World} {ad : Option Addr} {l : List UInt8} {cap : Nat} (h : w.ownsRow 0 5 1 (.slice ad l.length cap) l.length (bytesV l)) : (convert 65 9 (.slice ad l.length cap)).run Tryz.prog w = .ok (.string ⟨l.toArray⟩) w := by
  rcases h.2 with ⟨e, h0⟩ | ⟨g, cap', cur, e, hg, hm, hnc, hcm, hcs, htk⟩
  · injection e with e1 e2 e3
    subst e1
    have hl : l = [] := List.eq_nil_of_length_eq_zero h0
    subst hl
    rw [run_convert_bytes_nil w 65 5 Tryz.underlying65 u8U _ _ _ Tryz.underlying9]
    rfl
  · injection e with e1 e2 e3
    subst e1
    refine run_convert_bytes_back w 65 9 5 ⟨g, 0, none⟩ cap l Tryz.underlying65 u8U Tryz.underlying9 ?_
    intro j hj
    refine h.cells (g := g) rfl j _ ?_
    simp [bytesV, hj]
/-! ### what is left -/
theorem there_le (J : Jn) (k : Int) : thereJ J k ≤ J.bytes.length ∧ (thereJ J k : Int) = (J.safe : Int) + min (max k 0) ((J.bytes.length : Int) - J.safe) := by
  have h1 := J.safe_le
  have h2 : (recs J.ds).length ≤ J.bytes.length := by unfold Jn.bytes; rw [List.length_append]; omega
  unfold thereJ
  omega
theorem crash_cut {J : Jn} (h : GoodJ J) (k : Int) : ∃ p, Piece p ∧ J.bytes.take (thereJ J k) = recs (crashJ J k).ds ++ p := by
  obtain ⟨p, h1, h2⟩ := whole_cut (ds := J.ds) (half := J.half) (thereJ J k) h.ok h.half
  exact ⟨p, h1, h2⟩
theorem crash_bytes (J : Jn) (k : Int) : (recs (crashJ J k).ds).length ≤ J.bytes.length ∧ J.bytes.take (recs (crashJ J k).ds).length = recs (crashJ J k).ds ∧ (crashJ J k).bytes = recs (crashJ J k).ds ∧ (crashJ J k).safe = (recs (crashJ J k).ds).length := by
  have e : J.bytes = recs (crashJ J k).ds ++ (recs (J.ds.drop (wholeD J.ds (thereJ J k))) ++ J.half) := by
    unfold Jn.bytes
    conv => lhs; rw [← List.take_append_drop (wholeD J.ds (thereJ J k)) J.ds, recs_app, List.append_assoc]
    rfl
  refine ⟨?_, ?_, ?_, ?_⟩
  · rw [e, List.length_append]; omega
  · conv => lhs; rw [e]
    exact List.take_left
  · unfold Jn.bytes
    show _ ++ [] = _
    rw [List.append_nil]
  · unfold Jn.safe
    show (recs ((J.ds.take (wholeD J.ds (thereJ J k))).take (wholeD J.ds (thereJ J k)))).length = (recs (J.ds.take (wholeD J.ds (thereJ J k)))).length
    rw [List.take_take, Nat.min_self]

set_option maxHeartbeats 4000000 in
set_option maxRecDepth 100000 in
theorem JCrash_any (w : World) (B j : Nat) (O : Nat → Prop) (J : Jn) (k : Int) (h : JAt w j O J) (hg : GoodJ J) (hn : J.ds.length ≤ 1000) (hL : ∀ W, RowKit.Below B w W → LaidN W) (hB : B ≤ w.heap.size) :
    Calls Tryz.prog 12 #[.pointer (some ⟨j, 0, none⟩), .int .i64 k] w fun e w' => e = .returned (.tuple #[]) ∧ JTo w O j (crashJ J k) w' := by
  obtain ⟨r, s, bm, cv, OS, P, bv, hw, hO⟩ := h
  have hlen := hg.len hn
  obtain ⟨ht1, ht2⟩ := there_le J k
  obtain ⟨p, hp, hcut⟩ := crash_cut hg k
  obtain ⟨hc1, hc2, hc3, hc4⟩ := crash_bytes J k
  obtain ⟨⟨c0, c1, c2, c3, c4⟩, fz⟩ := hw.jb.cells
  have hlt := hw.jb.lt
  have hrow := hw.jb.row
  obtain ⟨ad, cap, rfl⟩ := prow_form hrow
  obtain ⟨hr1, hcap, had⟩ := row_take hrow (thereJ J k) ht1
  have hs1 := row_string (w := w.drew) (l := J.bytes.take (thereJ J k)) (by rw [List.length_take, Nat.min_eq_left ht1] at hr1 ⊢; exact prow_keep hr1 fun _ _ => rfl)
  rw [List.length_take, Nat.min_eq_left ht1, hcut] at hs1
  have hsl := J.safe_le
  have HR := hideO (fun W (hW : RowKit.Below w.heap.size w W) => replay_any (crashJ J k).ds p (hg.crash k).ok hp W (by rw [← hcut, List.length_take]; omega) (fun W' h' => (hL W' ((hW.mono hB).trans (h'.mono (Nat.le_trans hB hW.size)))).errs))
  obtain ⟨hq1, hq2, _⟩ := row_take hrow (recs (crashJ J k).ds).length hc1
  rw [hc2] at hq1
  have HQ := hideO (fun W (hW : RowKit.Below w.heap.size w W) => cloneB_any W _ _ (prow_keep hq1 fun g hg => hW.block g (hw.jb.rlt g (by cases ad <;> exact hg))) (by omega))
  have HC := hideO (fun W (hW : RowKit.Below w.heap.size w W) => ((hw.jb.below hW).cells))
  have fin : Hid (∀ w2 w3 r' ad' c', NewR w w2 r' (playR (crashJ J k).ds) → RowKit.Below w.heap.size w w2 → RowKit.Below w2.heap.size w2 w3 → w3.ownsRow 0 5 1 (.slice ad' (recs (crashJ J k).ds).length c') (recs (crashJ J k).ds).length (bytesV (recs (crashJ J k).ds)) → (∀ g, (Value.slice ad' (recs (crashJ J k).ds).length c').ownBlock = some g → w2.heap.size ≤ g) → JTo w O j (crashJ J k) (((((w3.setCell ⟨j, 0, none⟩ (.pointer (some ⟨r', 0, none⟩))).setCell ⟨j, 1, none⟩ (.slice ad' (recs (crashJ J k).ds).length c')).setCell ⟨j, 2, none⟩ (.int .i64 ((recs (crashJ J k).ds).length : Int))).setCell ⟨j, 3, none⟩ (.int .i64 (-1))).setCell ⟨j, 4, none⟩ (.bool false))) := by
    rintro w2 w3 r' ad' c' ⟨s', bm', cv', OS', P', hR, hown⟩ b2 b3 hrw hnb
    generalize (Value.slice ad' (recs (crashJ J k).ds).length c') = v' at *
    have z2 := b2.size
    have b23 := bstep b2 b3
    have hj3 : w3.heap[j]? = some (.cells #[.pointer (some ⟨r, 0, none⟩), .slice ad J.bytes.length cap, .int .i64 (J.safe : Int), .int .i64 J.ahead, .bool J.stop] 67) := (b23.block j hlt).trans hw.jb.blk
    have e0 := heap_setCell_same w3 j 0 _ _ (.pointer (some ⟨r', 0, none⟩)) hj3
    have e1 := heap_setCell_same _ j 1 _ _ v' e0
    have e2 := heap_setCell_same _ j 2 _ _ (.int .i64 ((recs (crashJ J k).ds).length : Int)) e1
    have e3 := heap_setCell_same _ j 3 _ _ (.int .i64 (-1)) e2
    have e4 := heap_setCell_same _ j 4 _ _ (.bool false) e3
    have hk : ∀ i, i ≠ j → (((((w3.setCell ⟨j, 0, none⟩ (.pointer (some ⟨r', 0, none⟩))).setCell ⟨j, 1, none⟩ v').setCell ⟨j, 2, none⟩ (.int .i64 ((recs (crashJ J k).ds).length : Int))).setCell ⟨j, 3, none⟩ (.int .i64 (-1))).setCell ⟨j, 4, none⟩ (.bool false)).heap[i]? = w3.heap[i]? := fun i hi => by
      rw [heap_setCell_other _ _ _ _ hi, heap_setCell_other _ _ _ _ hi, heap_setCell_other _ _ _ _ hi, heap_setCell_other _ _ _ _ hi, heap_setCell_other _ _ _ _ hi]
    have hne : v'.ownBlock ≠ some j := fun e => by have := hnb j e; omega
    refine ⟨JO j r' bm' cv' OS' P' v', ⟨r', s', bm', cv', OS', P', v', ⟨⟨?_, ?_, hne⟩, ?_, fun hO' => by have := hown j hO'; omega, fun g hg hO' => by have := hnb g hg; have := hR.own g hO'; omega⟩, fun _ => Iff.rfl⟩, ⟨?_, ?_, ?_, ?_, fun i hi hOi => ?_⟩, fun i hi => ?_⟩
    · rw [hc4, show (crashJ J k).ahead = -1 from rfl, show (crashJ J k).stop = false from rfl]
      simpa using e4
    · rw [hc3]
      exact prow_keep hrw fun g hg => hk g (fun e => hne (e ▸ hg))
    · exact (hR.below b3).keep fun i hi => hk i (fun e => by have := hown i hi; omega)
    · have := b23.os; simpa [World.setCell] using this
    · have := b23.tape; simpa [World.setCell] using this
    · have := b23.output; simpa [World.setCell] using this
    · have := b23.size; simpa [World.setCell] using this
    · exact (hk i (fun e => hOi ((hO i).2 (Or.inl e)))).trans (b23.block i hi)
    · rcases hi with rfl | hi | hi
      · exact Or.inl ((hO i).2 (Or.inl rfl))
      · exact Or.inr (by have := hnb i hi; omega)
      · exact Or.inr (hown i hi)
  have hw1 : IntKind.i64.wrap ((J.bytes.length : Int) - (J.safe : Int)) = (J.bytes.length : Int) - (J.safe : Int) := by simp [IntKind.wrap, IntKind.bits, IntKind.signed]; unfold Jn.bytes at hlen ⊢; rw [List.length_append] at hlen ⊢; omega
  have hw2 : IntKind.i64.wrap ((J.safe : Int) + min (max k 0) ((J.bytes.length : Int) - (J.safe : Int))) = (thereJ J k : Int) := by rw [← ht2]; simp [IntKind.wrap, IntKind.bits, IntKind.signed]; omega
  clear fz hw hO hg hn hL hB hrow hr1 hq1 hq2 hcut hp hc2 hc3 hc4 ht2 hsl
  generalize crashJ J k = JC at *
  unfold ReplayAns at HR
  generalize recs JC.ds = RC at *
  generalize thereJ J k = th at *
  generalize J.bytes = bs at *
  generalize J.safe = sf at *
  go_enter Tryz.func12, Tryz.ntmps12
  go_wp2_with fail
  go_region
  all_goals go_wp2_with fail
  refine (HR.out _ (RowKit.Below.refl _ w).drew).mono ?_
  rintro e w2 ⟨r', rfl, hN, hb2'⟩
  have hb2 : RowKit.Below w.heap.size w w2 := bstep (RowKit.Below.refl _ w).drew hb2'
  have hN : NewR w w2 r' (playR JC.ds) := hN
  have HQ2 := HQ.out w2 hb2
  obtain ⟨⟨d0, d1, d2, d3, d4⟩, dz⟩ := HC.out w2 hb2
  have HN2 := hideO hN
  have HB2 := hideO hb2
  clear hN hb2 hb2' HR HQ hs1 c0 c1 c2 c3 c4
  dsimp only
  go_wp2_with fail
  refine HQ2.mono ?_
  rintro e w3 ⟨v', rfl, hrw, hb3, hnb⟩
  obtain ⟨ad', c', rfl⟩ := prow_form hrw
  have F := hideO (fin.out w2 w3 r' ad' c' HN2.out HB2.out hb3 hrw hnb)
  obtain ⟨⟨q0, q1, q2, q3, q4⟩, qz⟩ := HC.out w3 (bstep HB2.out hb3)
  have f0 := qz 0
  have f1 := qz 1
  have f2 := qz 2
  have f3 := qz 3
  have f4 := qz 4
  have hl3 : j < w3.heap.size := World.block_lt_of_cell? w3 _ q0
  clear fin HQ2 HC hrw hb3 hnb HN2 HB2 d0 d1 d2 d3 d4 dz qz
  generalize RC.length = rl at *
  dsimp only
  go_wp2_with fail
  go_end0
  exact ⟨rfl, F.out⟩
end Go.Proofs.YtnphjdckdkjopaaGreatDoor
