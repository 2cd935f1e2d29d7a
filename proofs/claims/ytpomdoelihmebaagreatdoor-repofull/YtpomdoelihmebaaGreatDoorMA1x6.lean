import Derived.Test.YtpomdoelihmebaaGreatDoorMA1x5
import Derived.Shelf.SlGeneric
import Derived.Shelf.SlIter.Sorted
import Derived.Test.YtpomdoelihmebaaGreatDoorProg

/- repo's Commit, Join, Branch, Move, Drop, New. -/
namespace Go.Proofs.YtpomdoelihmebaaGreatDoor
open Go Go.RowKit Go.Proofs Go.Maps
set_option synthInstance.maxSize 1000

attribute [local go_sem] eql_errV neq_errV guard_errV

theorem commit_lead {R : Rp} {b : List UInt8} {S : List Tr} {t : List UInt8} (hn : nameR b = true) : commitE R b S t = leadE R b (parR R b) S t ∧ commitI R b S t = leadI R b (parR R b) S t ∧ commitR R b S t = leadN R b (parR R b) S t := by
  have e1 : commitF R b S t = leadF R b S t := by unfold commitF leadF; rw [if_neg (by rw [hn]; decide)]
  have e2 : commitE R b S t = leadE R b (parR R b) S t := by unfold commitE leadE; rw [e1]
  refine ⟨e2, ?_, ?_⟩
  · unfold commitI leadI; rw [e2]
  · unfold commitR leadN; rw [e2]
theorem sl_oneR {W : World} {b : Nat} {i : Int} (h : W.cell? ⟨b, 0, none⟩ = some (.int .i64 i)) : SlI W (some ⟨b, 0, none⟩) [i] := fun _ => ⟨b, 0, rfl, fun j hj => by
  simp at hj
  subst hj
  exact h⟩
theorem sl_two {W : World} {b : Nat} {i k : Int} (h : W.cell? ⟨b, 0, none⟩ = some (.int .i64 i)) (h2 : W.cell? ⟨b, 1, none⟩ = some (.int .i64 k)) : SlI W (some ⟨b, 0, none⟩) [i, k] := fun _ => ⟨b, 0, rfl, fun j hj => by
  simp at hj
  rcases (by omega : j = 0 ∨ j = 1) with rfl | rfl
  · exact h
  · exact h2⟩

set_option maxHeartbeats 4000000 in
set_option maxRecDepth 100000 in
theorem QCommit_any (w : World) (r s bm : Nat) (cv : Value) (OS P : Nat → Prop) (R : Rp) (b : List UInt8) (sd : Option Addr) (sc : Nat) (S : List Tr) (t : List UInt8) (h : RpW w r s bm cv OS P R) (hg : GoodR R) (hb : b.length ≤ reachBytes) (hS : SlT w sd S) (fS : ∀ x ∈ S, fitTr x) (nS : S.length ≤ maxLen) (ht : t.length ≤ reachBytes) :
    Calls Tryz.prog 6 #[.pointer (some ⟨r, 0, none⟩), .string ⟨b.toArray⟩, .slice sd S.length sc, .string ⟨t.toArray⟩] w fun e w' => e = .returned (.tuple #[.int .i64 (commitI R b S t : Int), errV (commitE R b S t)]) ∧ RpTo w r s bm cv OS P (commitR R b S t) w' := by
  have hml : b.length ≤ maxLen := by unfold reachBytes at hb; unfold maxLen; omega
  have HN := QIsName_any b w hml
  have HL := fun W (hW : RowKit.Below w.heap.size w W) => look_br (h.below hW).map b hml
  have HC := hideO (fun W (hW : RowKit.Below w.heap.size w W) => (h.below hW).cells)
  have hlt := h.lt
  cases hn : nameR b with
  | false =>
    have eE : commitE R b S t = 2 := by
      have : commitF R b S t = 2 := by unfold commitF; rw [if_pos hn]
      unfold commitE; rw [this]; rfl
    have eI : commitI R b S t = 0 := by unfold commitI; rw [if_pos (by rw [eE]; decide)]
    have eR : commitR R b S t = R := by unfold commitR; rw [if_pos (by rw [eE]; decide)]
    rw [eE, eI, eR]
    rw [hn] at HN
    have HH := hideO h
    clear HL HC hn eE eI eR h hg hS fS nS ht hb
    go_enter Tryz.func6, Tryz.ntmps6
    go_wp2_with (go_at_call 29; refine HN.mono ?_; rintro e w1 ⟨rfl, hb1⟩; dsimp only)
    exact bodyPost_ret (v := .tuple #[.int .i64 0, .iface 75 (.int .i64 2)]) (by unfold results; rw [Tryz.results6]; go_simp) rfl ⟨rfl, RpTo.same HH.out hb1⟩
  | true =>
    obtain ⟨eE, eI, eR⟩ := commit_lead (R := R) (S := S) (t := t) hn
    rw [eE, eI, eR]
    rw [hn] at HN
    have hpo := par_ok hg b
    by_cases h0 : 0 ≤ atR R.refs b
    · have ep : parR R b = [atR R.refs b] := if_pos h0
      rw [ep] at hpo ⊢
      have HLd := hideO (fun W (hW : RowKit.Below w.heap.size w W) pd hs hpd => Qlead_any W r s bm cv OS P R b pd 1 [atR R.refs b] sd sc S t (h.below hW) hg hb hs hpo hpd (hS.below hW) fS nS ht)
      rw [brI_pos h0, decide_eq_true h0] at HL
      have HO := hideO h.own
      clear h hg hS fS nS ht hb hml hn eE eI eR ep hpo h0
      generalize atR R.refs b = z at *
      go_enter Tryz.func6, Tryz.ntmps6
      go_wp2_with (go_at_call 29; refine HN.mono ?_; rintro e w1 ⟨rfl, hb1⟩; dsimp only; obtain ⟨k0, k1, k2, kf⟩ := HC.out _ hb1; have hl := HL _ hb1; have hlt1 : r < w1.heap.size := (by have := hb1.size; omega))
      have hba := balloc w1 (.cells #[.int .i64 z] 3)
      refine (HLd.out _ (bstep hb1 hba) (some ⟨w1.heap.size, 0, none⟩) (sl_oneR (by go_simp)) (fun _ d hd hO => by cases hd; have h7 := HO.out _ hO; have h8 := hb1.size; have h7 : w1.heap.size < w.heap.size := h7; omega)).mono ?_
      rintro e w2 ⟨rfl, hto⟩
      dsimp only
      have HT := hideO (RpTo.from (bstep hb1 hba) hto)
      clear hto hba hl k0 k1 k2 kf
      go_wp2_with fail
      exact bodyPost_ret (v := .tuple #[.int .i64 (leadI R b [z] S t : Int), errV (leadE R b [z] S t)]) (by unfold results; rw [Tryz.results6]; go_simp) rfl ⟨rfl, HT.out⟩
    · have ep : parR R b = [] := if_neg h0
      rw [ep] at hpo ⊢
      have HLd := hideO (fun W (hW : RowKit.Below w.heap.size w W) => Qlead_any W r s bm cv OS P R b none 0 [] sd sc S t (h.below hW) hg hb (fun h => absurd rfl h) hpo (fun h => absurd rfl h) (hS.below hW) fS nS ht)
      rw [show brI R.refs b = 0 from if_neg h0, decide_eq_false h0] at HL
      clear h hg hS fS nS ht hb hml hn eE eI eR ep hpo h0
      go_enter Tryz.func6, Tryz.ntmps6
      go_wp2_with (go_at_call 29; refine HN.mono ?_; rintro e w1 ⟨rfl, hb1⟩; dsimp only; obtain ⟨k0, k1, k2, kf⟩ := HC.out _ hb1; have hl := HL _ hb1; have hlt1 : r < w1.heap.size := (by have := hb1.size; omega))
      refine (HLd.out _ hb1).mono ?_
      rintro e w2 ⟨rfl, hto⟩
      dsimp only
      have HT := hideO (RpTo.from hb1 hto)
      clear hto hl k0 k1 k2 kf
      go_wp2_with fail
      exact bodyPost_ret (v := .tuple #[.int .i64 (leadI R b [] S t : Int), errV (leadE R b [] S t)]) (by unfold results; rw [Tryz.results6]; go_simp) rfl ⟨rfl, HT.out⟩

theorem join_lead {R : Rp} {b : List UInt8} {o : Int} {S : List Tr} {t : List UInt8} (h1 : headE R b = 0) (h2 : inR R o = true) (h3 : o ≠ atR R.refs b) : joinE R b o S t = leadE R b [atR R.refs b, o] S t ∧ joinI R b o S t = leadI R b [atR R.refs b, o] S t ∧ joinR R b o S t = leadN R b [atR R.refs b, o] S t := by
  have h0 := (headE_zero h1).2
  have e0 : joinF R b o S t = setF S t := by unfold joinF; rw [if_neg (fun h => h h1), if_neg (by rw [h2]; decide), if_neg h3]
  have e1 : leadF R b S t = setF S t := by
    have hr : roomR R b = true := by unfold roomR; exact decide_eq_true (Or.inl h0)
    unfold leadF
    by_cases hs : setF S t = 0
    · rw [if_neg (fun h => h hs), if_neg (by rw [hr]; decide), hs]
    · rw [if_pos hs]
  have e2 : joinE R b o S t = leadE R b [atR R.refs b, o] S t := by unfold joinE leadE; rw [e0, e1]
  refine ⟨e2, ?_, ?_⟩
  · unfold joinI leadI; rw [e2]
  · unfold joinR leadN; rw [e2]
theorem join_no {R : Rp} {b : List UInt8} {o : Int} {S : List Tr} {t : List UInt8} {N : Int} (hN : N ≠ 0) (h : joinF R b o S t = N) : joinE R b o S t = N ∧ joinI R b o S t = 0 ∧ joinR R b o S t = R := by
  have e : joinE R b o S t = N := by unfold joinE; rw [h, if_pos hN]
  refine ⟨e, ?_, ?_⟩
  · unfold joinI; rw [e, if_pos hN]
  · unfold joinR; rw [e, if_pos hN]
set_option maxHeartbeats 4000000 in
set_option maxRecDepth 100000 in
theorem QJoin_any (w : World) (r s bm : Nat) (cv : Value) (OS P : Nat → Prop) (R : Rp) (b : List UInt8) (o : Int) (sd : Option Addr) (sc : Nat) (S : List Tr) (t : List UInt8) (h : RpW w r s bm cv OS P R) (hg : GoodR R) (hb : b.length ≤ reachBytes) (hS : SlT w sd S) (fS : ∀ x ∈ S, fitTr x) (nS : S.length ≤ maxLen) (ht : t.length ≤ reachBytes) :
    Calls Tryz.prog 15 #[.pointer (some ⟨r, 0, none⟩), .string ⟨b.toArray⟩, .int .i64 o, .slice sd S.length sc, .string ⟨t.toArray⟩] w fun e w' => e = .returned (.tuple #[.int .i64 (joinI R b o S t : Int), errV (joinE R b o S t)]) ∧ RpTo w r s bm cv OS P (joinR R b o S t) w' := by
  have hml : b.length ≤ maxLen := by unfold reachBytes at hb; unfold maxLen; omega
  have HD := QHead_any w r s bm cv OS P R b h hml
  have HA := fun W (hW : RowKit.Below w.heap.size w W) => Qhas_any W r s bm cv OS P R o (h.below hW)
  have HH := hideO h
  by_cases h1 : headE R b = 0
  · have hI : headI R b = atR R.refs b := if_pos h1
    rw [h1, hI, show errV 0 = Value.nilIface from rfl] at HD
    have h0 := (headE_zero h1).2
    cases h2 : inR R o with
    | false =>
      have eF : joinF R b o S t = 1 := by unfold joinF; rw [if_neg (fun h => h h1), if_pos h2]
      obtain ⟨eE, eI, eR⟩ := join_no (by decide) eF
      rw [eE, eI, eR]
      rw [h2] at HA
      clear h hg hS fS nS ht hb hml eE eI eR eF h1 h2 hI h0
      generalize atR R.refs b = z at *
      go_enter Tryz.func15, Tryz.ntmps15
      go_wp2_with fail
      refine HD.mono ?_
      rintro e w1 ⟨rfl, hb1⟩
      dsimp only
      go_wp2_with fail
      refine (HA _ hb1).mono ?_
      rintro e w2 ⟨rfl, hb2⟩
      dsimp only
      go_wp2_with fail
      exact bodyPost_ret (v := .tuple #[.int .i64 0, .iface 75 (.int .i64 1)]) (by unfold results; rw [Tryz.results15]; go_simp) rfl ⟨rfl, RpTo.same HH.out (bstep hb1 hb2)⟩
    | true =>
      rw [h2] at HA
      by_cases h3 : o = atR R.refs b
      · have eF : joinF R b o S t = 7 := by unfold joinF; rw [if_neg (fun h => h h1), if_neg (by rw [h2]; decide), if_pos h3]
        obtain ⟨eE, eI, eR⟩ := join_no (by decide) eF
        rw [eE, eI, eR]
        have h3' : (o == atR R.refs b) = true := by simpa using h3
        clear h hg hS fS nS ht hb hml eE eI eR eF h1 h2 hI h0 h3
        generalize atR R.refs b = z at *
        go_enter Tryz.func15, Tryz.ntmps15
        go_wp2_with fail
        refine HD.mono ?_
        rintro e w1 ⟨rfl, hb1⟩
        dsimp only
        go_wp2_with fail
        refine (HA _ hb1).mono ?_
        rintro e w2 ⟨rfl, hb2⟩
        dsimp only
        go_wp2_with fail
        exact bodyPost_ret (v := .tuple #[.int .i64 0, .iface 75 (.int .i64 7)]) (by unfold results; rw [Tryz.results15]; go_simp) rfl ⟨rfl, RpTo.same HH.out (bstep hb1 hb2)⟩
      · obtain ⟨eE, eI, eR⟩ := join_lead (S := S) (t := t) h1 h2 h3
        rw [eE, eI, eR]
        have hpo := two_ok hg h0 h2 h3
        have HLd := hideO (fun W (hW : RowKit.Below w.heap.size w W) pd hs hpd => Qlead_any W r s bm cv OS P R b pd 2 [atR R.refs b, o] sd sc S t (h.below hW) hg hb hs hpo hpd (hS.below hW) fS nS ht)
        have HO := hideO h.own
        have h3' : (o == atR R.refs b) = false := by simpa using h3
        clear h hg hS fS nS ht hb hml eE eI eR h1 h2 hI h0 h3 hpo
        generalize atR R.refs b = z at *
        go_enter Tryz.func15, Tryz.ntmps15
        go_wp2_with fail
        refine HD.mono ?_
        rintro e w1 ⟨rfl, hb1⟩
        dsimp only
        go_wp2_with fail
        refine (HA _ hb1).mono ?_
        rintro e w2 ⟨rfl, hb2⟩
        dsimp only
        have hB2 := hideO (bstep hb1 hb2)
        clear hb1 hb2
        go_wp2_with fail
        have hba := balloc w2 (.cells #[.int .i64 z, .int .i64 o] 3)
        refine (HLd.out _ (bstep hB2.out hba) (some ⟨w2.heap.size, 0, none⟩) (sl_two (by go_simp) (by go_simp)) (fun _ d hd hO => by cases hd; have h7 := HO.out _ hO; have h8 := hB2.out.size; have h7 : w2.heap.size < w.heap.size := h7; omega)).mono ?_
        rintro e w3 ⟨rfl, hto⟩
        dsimp only
        have HT := hideO (RpTo.from (bstep hB2.out hba) hto)
        clear hto hba
        go_wp2_with fail
        exact bodyPost_ret (v := .tuple #[.int .i64 (leadI R b [z, o] S t : Int), errV (leadE R b [z, o] S t)]) (by unfold results; rw [Tryz.results15]; go_simp) rfl ⟨rfl, HT.out⟩
  · have eF : joinF R b o S t = headE R b := by unfold joinF; rw [if_pos h1]
    obtain ⟨eE, eI, eR⟩ := join_no h1 eF
    rw [eE, eI, eR]
    have h1' : (headE R b == 0) = false := by simpa using h1
    clear h hg hS fS nS ht hb hml eE eI eR eF h1 HA
    generalize headE R b = N at *
    generalize headI R b = z at *
    go_enter Tryz.func15, Tryz.ntmps15
    go_wp2_with fail
    refine HD.mono ?_
    rintro e w1 ⟨rfl, hb1⟩
    dsimp only
    go_wp2_with fail
    exact bodyPost_ret (v := .tuple #[.int .i64 0, errV N]) (by unfold results; rw [Tryz.results15]; go_simp) rfl ⟨rfl, RpTo.same HH.out hb1⟩

theorem toNat_nat {a : Int} (h : 0 ≤ a) : ((a.toNat : Nat) : Int) = a := by omega
/-- a name that leads elsewhere -/
theorem QpointI_any (w : World) (r s bm : Nat) (cv : Value) (OS P : Nat → Prop) (R : Rp) (b : List UInt8) (a : Int) (h : RpW w r s bm cv OS P R) (hg : GoodR R) (ha : inR R a = true) (hr : 0 ≤ atR R.refs b ∨ R.refs.length < 8) (hb : b.length ≤ reachBytes) :
    Calls Tryz.prog 37 #[.pointer (some ⟨r, 0, none⟩), .string ⟨b.toArray⟩, .int .i64 a] w fun e w' => e = .returned (.tuple #[]) ∧ RpTo w r s bm cv OS P (leadTo R b a.toNat) w' := by
  obtain ⟨h0, h1⟩ := inR_iff.1 ha
  have h60 := hg.coms.1
  have := Qpoint_any w r s bm cv OS P R b a.toNat h hg.refs (lead_few hg.few hr) hb (by omega)
  rw [toNat_nat h0] at this
  refine this.mono ?_
  rintro e w' ⟨rfl, q1, q2⟩
  exact ⟨rfl, cv, OS, P, q1, q2, fun _ hj => Or.inl hj⟩
set_option maxHeartbeats 4000000 in
set_option maxRecDepth 100000 in
theorem QBranch_any (w : World) (r s bm : Nat) (cv : Value) (OS P : Nat → Prop) (R : Rp) (b : List UInt8) (a : Int) (h : RpW w r s bm cv OS P R) (hg : GoodR R) (hb : b.length ≤ reachBytes) :
    Calls Tryz.prog 10 #[.pointer (some ⟨r, 0, none⟩), .string ⟨b.toArray⟩, .int .i64 a] w fun e w' => e = .returned (errV (branchE R b a)) ∧ RpTo w r s bm cv OS P (branchR R b a) w' := by
  have hml : b.length ≤ maxLen := by unfold reachBytes at hb; unfold maxLen; omega
  have HN := QIsName_any b w hml
  have HA := fun W (hW : RowKit.Below w.heap.size w W) => Qhas_any W r s bm cv OS P R a (h.below hW)
  have HB := fun W (hW : RowKit.Below w.heap.size w W) => QhasBranch_any W r s bm cv OS P R b (h.below hW) hml
  have HM := fun W (hW : RowKit.Below w.heap.size w W) => QhasRoom_any W r s bm cv OS P R (h.below hW)
  have HP := hideO (fun (ha : inR R a = true) (hr : 0 ≤ atR R.refs b ∨ R.refs.length < 8) W (hW : RowKit.Below w.heap.size w W) => QpointI_any W r s bm cv OS P R b a (h.below hW) hg ha hr hb)
  have HH := hideO h
  have fin : Hid (∀ N w', N ≠ 0 → branchE R b a = N → RowKit.Below w.heap.size w w' → Ending.returned (errV N) = .returned (errV (branchE R b a)) ∧ RpTo w r s bm cv OS P (branchR R b a) w') := fun N w' hN he hb' => by
    have : branchR R b a = R := by unfold branchR; rw [he, if_pos hN]
    rw [he, this]
    exact ⟨rfl, RpTo.same HH.out hb'⟩
  cases hn : nameR b with
  | false =>
    have eE : branchE R b a = 2 := by unfold branchE; rw [if_pos hn]
    have fin2 : Hid (∀ w', RowKit.Below w.heap.size w w' → Ending.returned (.iface 75 (.int .i64 2)) = .returned (errV (branchE R b a)) ∧ RpTo w r s bm cv OS P (branchR R b a) w') := fun w' hb' => fin.out 2 w' (by decide) eE hb'
    rw [hn] at HN
    clear h hg hb hml hn eE fin HA HB HM HP
    go_enter Tryz.func10, Tryz.ntmps10
    go_wp2_with fail
    refine HN.mono ?_
    rintro e w1 ⟨rfl, hb1⟩
    dsimp only
    go_wp2_with fail
    go_ret
    exact fin2.out _ hb1
  | true =>
    rw [hn] at HN
    cases h1 : inR R a with
    | false =>
      have eE : branchE R b a = 1 := by unfold branchE; rw [if_neg (by rw [hn]; decide), if_pos h1]
      have fin2 : Hid (∀ w', RowKit.Below w.heap.size w w' → Ending.returned (.iface 75 (.int .i64 1)) = .returned (errV (branchE R b a)) ∧ RpTo w r s bm cv OS P (branchR R b a) w') := fun w' hb' => fin.out 1 w' (by decide) eE hb'
      rw [h1] at HA
      clear h hg hb hml hn eE fin HB HM HP h1
      go_enter Tryz.func10, Tryz.ntmps10
      go_wp2_with fail
      refine HN.mono ?_
      rintro e w1 ⟨rfl, hb1⟩
      dsimp only
      go_wp2_with fail
      refine (HA _ hb1).mono ?_
      rintro e w2 ⟨rfl, hb2⟩
      dsimp only
      go_wp2_with fail
      go_ret
      exact fin2.out _ (bstep hb1 hb2)
    | true =>
      rw [h1] at HA
      by_cases h0 : 0 ≤ atR R.refs b
      · have eE : branchE R b a = 7 := by unfold branchE; rw [if_neg (by rw [hn]; decide), if_neg (by rw [h1]; decide), if_pos h0]
        have fin2 : Hid (∀ w', RowKit.Below w.heap.size w w' → Ending.returned (.iface 75 (.int .i64 7)) = .returned (errV (branchE R b a)) ∧ RpTo w r s bm cv OS P (branchR R b a) w') := fun w' hb' => fin.out 7 w' (by decide) eE hb'
        rw [decide_eq_true h0] at HB
        clear h hg hb hml hn eE fin HM HP h1 h0
        go_enter Tryz.func10, Tryz.ntmps10
        go_wp2_with fail
        refine HN.mono ?_
        rintro e w1 ⟨rfl, hb1⟩
        dsimp only
        go_wp2_with fail
        refine (HA _ hb1).mono ?_
        rintro e w2 ⟨rfl, hb2⟩
        dsimp only
        go_wp2_with fail
        refine (HB _ (bstep hb1 hb2)).mono ?_
        rintro e w3 ⟨rfl, hb3⟩
        dsimp only
        go_wp2_with fail
        go_ret
        exact fin2.out _ (bstep (bstep hb1 hb2) hb3)
      · rw [decide_eq_false h0] at HB
        by_cases h8 : R.refs.length < 8
        · have eE : branchE R b a = 0 := by unfold branchE; rw [if_neg (by rw [hn]; decide), if_neg (by rw [h1]; decide), if_neg h0, if_pos h8]
          have eR : branchR R b a = leadTo R b a.toNat := by unfold branchR; rw [if_neg (fun h => h eE)]
          rw [eE, eR]
          have HPt := HP.out h1 (Or.inr h8)
          rw [decide_eq_true h8] at HM
          clear h hg hb hml hn eE eR fin HP h1 h0 h8
          go_enter Tryz.func10, Tryz.ntmps10
          go_wp2_with fail
          refine HN.mono ?_
          rintro e w1 ⟨rfl, hb1⟩
          dsimp only
          go_wp2_with fail
          refine (HA _ hb1).mono ?_
          rintro e w2 ⟨rfl, hb2⟩
          dsimp only
          go_wp2_with fail
          refine (HB _ (bstep hb1 hb2)).mono ?_
          rintro e w3 ⟨rfl, hb3⟩
          dsimp only
          go_wp2_with fail
          refine (HM _ (bstep (bstep hb1 hb2) hb3)).mono ?_
          rintro e w4 ⟨rfl, hb4⟩
          dsimp only
          go_wp2_with fail
          refine (HPt _ (bstep (bstep (bstep hb1 hb2) hb3) hb4)).mono ?_
          rintro e w5 ⟨rfl, hto⟩
          dsimp only
          go_wp2_with fail
          go_ret
          exact ⟨rfl, RpTo.from (bstep (bstep (bstep hb1 hb2) hb3) hb4) hto⟩
        · have eE : branchE R b a = 4 := by unfold branchE; rw [if_neg (by rw [hn]; decide), if_neg (by rw [h1]; decide), if_neg h0, if_neg h8]
          have fin2 : Hid (∀ w', RowKit.Below w.heap.size w w' → Ending.returned (.iface 75 (.int .i64 4)) = .returned (errV (branchE R b a)) ∧ RpTo w r s bm cv OS P (branchR R b a) w') := fun w' hb' => fin.out 4 w' (by decide) eE hb'
          rw [decide_eq_false h8] at HM
          clear h hg hb hml hn eE fin HP h1 h0 h8
          go_enter Tryz.func10, Tryz.ntmps10
          go_wp2_with fail
          refine HN.mono ?_
          rintro e w1 ⟨rfl, hb1⟩
          dsimp only
          go_wp2_with fail
          refine (HA _ hb1).mono ?_
          rintro e w2 ⟨rfl, hb2⟩
          dsimp only
          go_wp2_with fail
          refine (HB _ (bstep hb1 hb2)).mono ?_
          rintro e w3 ⟨rfl, hb3⟩
          dsimp only
          go_wp2_with fail
          refine (HM _ (bstep (bstep hb1 hb2) hb3)).mono ?_
          rintro e w4 ⟨rfl, hb4⟩
          dsimp only
          go_wp2_with fail
          go_ret
          exact fin2.out _ (bstep (bstep (bstep hb1 hb2) hb3) hb4)
set_option maxHeartbeats 4000000 in
set_option maxRecDepth 100000 in
theorem QMove_any (w : World) (r s bm : Nat) (cv : Value) (OS P : Nat → Prop) (R : Rp) (b : List UInt8) (f a : Int) (h : RpW w r s bm cv OS P R) (hg : GoodR R) (hb : b.length ≤ reachBytes) :
    Calls Tryz.prog 18 #[.pointer (some ⟨r, 0, none⟩), .string ⟨b.toArray⟩, .int .i64 f, .int .i64 a] w fun e w' => e = .returned (errV (moveE R b f a)) ∧ RpTo w r s bm cv OS P (moveR R b f a) w' := by
  have hml : b.length ≤ maxLen := by unfold reachBytes at hb; unfold maxLen; omega
  have HD := QHead_any w r s bm cv OS P R b h hml
  have HA := fun W (hW : RowKit.Below w.heap.size w W) => Qhas_any W r s bm cv OS P R a (h.below hW)
  have HP := hideO (fun (ha : inR R a = true) (hr : 0 ≤ atR R.refs b ∨ R.refs.length < 8) W (hW : RowKit.Below w.heap.size w W) => QpointI_any W r s bm cv OS P R b a (h.below hW) hg ha hr hb)
  have HH := hideO h
  have fin : Hid (∀ N w', N ≠ 0 → moveE R b f a = N → RowKit.Below w.heap.size w w' → Ending.returned (errV N) = .returned (errV (moveE R b f a)) ∧ RpTo w r s bm cv OS P (moveR R b f a) w') := fun N w' hN he hb' => by
    have : moveR R b f a = R := by unfold moveR; rw [he, if_pos hN]
    rw [he, this]
    exact ⟨rfl, RpTo.same HH.out hb'⟩
  by_cases h1 : headE R b = 0
  · have hI : headI R b = atR R.refs b := if_pos h1
    rw [h1, hI, show errV 0 = Value.nilIface from rfl] at HD
    have h0 := (headE_zero h1).2
    by_cases h2 : atR R.refs b = f
    · have h2' : (atR R.refs b != f) = false := by simpa using h2
      cases h3 : inR R a with
      | false =>
        have eE : moveE R b f a = 1 := by unfold moveE; rw [if_neg (fun h => h h1), if_neg (fun h => h h2), if_pos h3]
        have fin2 : Hid (∀ w', RowKit.Below w.heap.size w w' → Ending.returned (.iface 75 (.int .i64 1)) = .returned (errV (moveE R b f a)) ∧ RpTo w r s bm cv OS P (moveR R b f a) w') := fun w' hb' => fin.out 1 w' (by decide) eE hb'
        rw [h3] at HA
        clear h hg hb hml eE fin HP h1 h2 h3 hI h0
        generalize atR R.refs b = z at *
        go_enter Tryz.func18, Tryz.ntmps18
        go_wp2_with fail
        refine HD.mono ?_
        rintro e w1 ⟨rfl, hb1⟩
        dsimp only
        go_wp2_with fail
        refine (HA _ hb1).mono ?_
        rintro e w2 ⟨rfl, hb2⟩
        dsimp only
        go_wp2_with fail
        go_ret
        exact fin2.out _ (bstep hb1 hb2)
      | true =>
        have eE : moveE R b f a = 0 := by unfold moveE; rw [if_neg (fun h => h h1), if_neg (fun h => h h2), if_neg (by rw [h3]; decide)]
        have eR : moveR R b f a = leadTo R b a.toNat := by unfold moveR; rw [if_neg (fun h => h eE)]
        rw [eE, eR]
        have HPt := HP.out h3 (Or.inl h0)
        rw [h3] at HA
        clear h hg hb hml eE eR fin HP h1 h2 h3 hI h0
        generalize atR R.refs b = z at *
        go_enter Tryz.func18, Tryz.ntmps18
        go_wp2_with fail
        refine HD.mono ?_
        rintro e w1 ⟨rfl, hb1⟩
        dsimp only
        go_wp2_with fail
        refine (HA _ hb1).mono ?_
        rintro e w2 ⟨rfl, hb2⟩
        dsimp only
        go_wp2_with fail
        refine (HPt _ (bstep hb1 hb2)).mono ?_
        rintro e w3 ⟨rfl, hto⟩
        dsimp only
        go_wp2_with fail
        go_ret
        exact ⟨rfl, RpTo.from (bstep hb1 hb2) hto⟩
    · have h2' : (atR R.refs b != f) = true := by simpa using h2
      have eE : moveE R b f a = 6 := by unfold moveE; rw [if_neg (fun h => h h1), if_pos h2]
      have fin2 : Hid (∀ w', RowKit.Below w.heap.size w w' → Ending.returned (.iface 75 (.int .i64 6)) = .returned (errV (moveE R b f a)) ∧ RpTo w r s bm cv OS P (moveR R b f a) w') := fun w' hb' => fin.out 6 w' (by decide) eE hb'
      clear h hg hb hml eE fin HP HA h1 h2 hI h0
      generalize atR R.refs b = z at *
      go_enter Tryz.func18, Tryz.ntmps18
      go_wp2_with fail
      refine HD.mono ?_
      rintro e w1 ⟨rfl, hb1⟩
      dsimp only
      go_wp2_with fail
      go_ret
      exact fin2.out _ hb1
  · have eE : moveE R b f a = headE R b := by unfold moveE; rw [if_pos h1]
    have fin2 : Hid (∀ w', RowKit.Below w.heap.size w w' → Ending.returned (errV (headE R b)) = .returned (errV (moveE R b f a)) ∧ RpTo w r s bm cv OS P (moveR R b f a) w') := fun w' hb' => fin.out _ w' h1 eE hb'
    have h1' : (headE R b == 0) = false := by simpa using h1
    clear h hg hb hml eE fin HP HA h1
    generalize headE R b = N at *
    generalize headI R b = z at *
    go_enter Tryz.func18, Tryz.ntmps18
    go_wp2_with fail
    refine HD.mono ?_
    rintro e w1 ⟨rfl, hb1⟩
    dsimp only
    go_wp2_with fail
    go_ret
    exact fin2.out _ hb1
set_option maxHeartbeats 4000000 in
set_option maxRecDepth 100000 in
theorem QDrop_any (w : World) (r s bm : Nat) (cv : Value) (OS P : Nat → Prop) (R : Rp) (b : List UInt8) (h : RpW w r s bm cv OS P R) (hg : GoodR R) (hb : b.length ≤ reachBytes) :
    Calls Tryz.prog 9 #[.pointer (some ⟨r, 0, none⟩), .string ⟨b.toArray⟩] w fun e w' => e = .returned (errV (headE R b)) ∧ RpTo w r s bm cv OS P (dropR R b) w' := by
  have hml : b.length ≤ maxLen := by unfold reachBytes at hb; unfold maxLen; omega
  have HD := QHead_any w r s bm cv OS P R b h hml
  have HH := hideO h
  by_cases h1 : headE R b = 0
  · have h0 := (headE_zero h1).2
    have eR : dropR R b = ⟨R.n, R.L, R.coms, R.gr, dropL R.refs b⟩ := by unfold dropR; rw [if_neg (fun h => h h1)]
    rw [eR]
    rw [h1, show errV 0 = Value.nilIface from rfl] at HD
    rw [h1, show errV 0 = Value.nilIface from rfl]
    have K : Hid (∀ W, RowKit.Below w.heap.size w W → ∃ W', (Builtin.delete_ #[71, 9] 0 #[.map (some bm), .string ⟨b.toArray⟩]).run Tryz.prog W = .ok (.tuple #[]) W' ∧ RpTo w r s bm cv OS P ⟨R.n, R.L, R.coms, R.gr, dropL R.refs b⟩ W') := fun W hW => by
      have hR := h.below hW
      obtain ⟨D, o1, f1, hs⟩ := hR.map
      obtain ⟨W4, hr4, o4, g4⟩ := World.ownsMap.drop (w := W) o1 keyedSO Tryz.underlying71 (keyS b hml) 0
      have hsz := f1.size_less (o1.tidy keyedSO) hg.refs hml h0 hs
      obtain ⟨q1, q2⟩ := hR.turn (l := dropL R.refs b) ⟨_, o4, f1.less hg.refs b, hsz⟩ g4.grown
      exact ⟨W4, hr4, cv, OS, P, q1, (Offs.of_below hW).trans q2 fun _ hj => Or.inl hj, fun _ hj => Or.inl hj⟩
    have HC := hideO (fun W (hW : RowKit.Below w.heap.size w W) => (h.below hW).cells)
    have hlt := h.lt
    clear h hg hb hml h1 h0 eR
    generalize headI R b = z at *
    go_enter Tryz.func9, Tryz.ntmps9
    go_wp2_with fail
    refine HD.mono ?_
    rintro e w1 ⟨rfl, hb1⟩
    dsimp only
    obtain ⟨k0, k1, k2, kf⟩ := HC.out _ hb1
    obtain ⟨W4, hr4, q1⟩ := K.out _ hb1
    have Q1 := hideO q1
    have hlt1 : r < w1.heap.size := by have := hb1.size; omega
    clear q1 K HC HD
    go_wp2_with fail
    go_ret
    exact ⟨rfl, Q1.out⟩
  · have eR : dropR R b = R := by unfold dropR; rw [if_pos h1]
    rw [eR]
    have h1' : (headE R b == 0) = false := by simpa using h1
    clear h hg hb hml h1 eR
    generalize headE R b = N at *
    generalize headI R b = z at *
    go_enter Tryz.func9, Tryz.ntmps9
    go_wp2_with fail
    refine HD.mono ?_
    rintro e w1 ⟨rfl, hb1⟩
    dsimp only
    go_wp2_with fail
    go_ret
    exact ⟨rfl, RpTo.same HH.out hb1⟩
end Go.Proofs.YtpomdoelihmebaaGreatDoor

/- repo's New and Commits. -/
namespace Go.Proofs.YtpomdoelihmebaaGreatDoor
open Go Go.RowKit Go.Proofs Go.Maps
set_option synthInstance.maxSize 1000

attribute [local go_sem] eql_errV neq_errV guard_errV

set_option maxHeartbeats 1000000 in
theorem QNew_any (w : World) : Calls Tryz.prog 5 #[] w fun e w' => ∃ (r : Nat) (O : Nat → Prop), e = .returned (.pointer (some ⟨r, 0, none⟩)) ∧ RepAt w' r O emptyR ∧ RowKit.Below w.heap.size w w' ∧ ∀ j, O j → w.heap.size ≤ j := by
  have H := theFace.new w
  have h1 := makeNums
  go_enter Tryz.func5, Tryz.ntmps5
  go_wp2_with (go_at_call 28; refine H.mono ?_; rintro e w1 ⟨s, OS, rfl, hst, hb1, hnew⟩; dsimp only)
  go_ret
  have hz := hb1.size
  have hown := theFace.own hst
  have hb2 := bstep (balloc w1 (.map #[] 0)) (balloc (w1.alloc (.map #[] 0)) (.cells #[.pointer (some ⟨s, 0, none⟩), .slice none 0 0, .map (some w1.heap.size)] 73))
  refine ⟨w1.heap.size + 1, RpO (w1.heap.size + 1) w1.heap.size (.slice none 0 0) OS (fun _ => False), by simp, ⟨s, w1.heap.size, .slice none 0 0, OS, fun _ => False, ⟨?_, theFace.below hst hb2, ⟨[], World.ownsRow_nil _ _ _ _, fun i hi => absurd hi (by simp [emptyR])⟩, ⟨.map [], own_few ((World.ownsMap_made w1 Tryz.prog 9 (plainElem Tryz.prog 3)).alloc _) (by simp [Maps.size]), BrD.nil, rfl⟩, linked_empty, fun _ h => h.elim, ⟨fun h => by have := hown _ h; omega, fun h => by have := hown _ h; omega, by omega⟩, fun j hj => (by cases hj), fun _ h => h.elim⟩, fun _ => Iff.rfl⟩, bstep hb1 hb2, ?_⟩
  · show ((w1.heap.push _).push _)[w1.heap.size + 1]? = _
    rw [Array.getElem?_push, if_pos (by simp)]
  · rintro j (rfl | rfl | hj | hj | hj)
    · omega
    · omega
    · cases hj
    · exact hj.elim
    · exact hnew j hj

/-- commits in a new row, the parents' numbers in new memory -/
def ComNew (w0 w : World) (v : Value) (l : List Cm) : Prop := ∃ cs : List Value, w.ownsRow w0.heap.size 99 3 v l.length cs ∧ ∀ (i : Nat) (hi : i < l.length), ∃ a c, cs[i * 3]? = some (.slice a l[i].1.length c) ∧ cs[i * 3 + 1]? = some (.int .i64 l[i].2.1) ∧ cs[i * 3 + 2]? = some (.string ⟨l[i].2.2.toArray⟩) ∧ SlI w a l[i].1 ∧ l[i].1.length ≤ c ∧ (l[i].1 ≠ [] → ∀ d, a = some d → v.ownBlock ≠ some d.block)
theorem slI_lt {w : World} {a : Option Addr} {l : List Int} (h : SlI w a l) (hne : l ≠ []) {d : Addr} (hd : a = some d) : d.block < w.heap.size := by
  obtain ⟨b, o, e, h1⟩ := h hne
  rw [e] at hd
  cases hd
  exact World.block_lt_of_cell? w _ (h1 0 (List.length_pos_iff.2 hne))
theorem ComNew.nil (w0 w : World) : ComNew w0 w (.slice none 0 0) [] := ⟨[], World.ownsRow_nil _ _ _ _, fun i hi => absurd hi (by simp)⟩
theorem ComNew.below {w0 w w' : World} {v : Value} {l : List Cm} (h : ComNew w0 w v l) (hb : RowKit.Below w.heap.size w w') : ComNew w0 w' v l := by
  obtain ⟨cs, ho, h2⟩ := h
  refine ⟨cs, ownsO_below ho hb, fun i hi => ?_⟩
  obtain ⟨a, c, q1, q2, q3, q4, q5, q6⟩ := h2 i hi
  exact ⟨a, c, q1, q2, q3, q4.below hb, q5, q6⟩
theorem ComNew.push {w0 W W2 : World} {v : Value} {l : List Cm} {cs : List Value} {g cap : Nat} {a : Option Addr} {c : Nat} {ps : List Int} {y : Int} {t : List UInt8} (ho : W.ownsRow w0.heap.size 99 3 v l.length cs)
    (h2 : ∀ (i : Nat) (hi : i < l.length), ∃ a c, cs[i * 3]? = some (.slice a l[i].1.length c) ∧ cs[i * 3 + 1]? = some (.int .i64 l[i].2.1) ∧ cs[i * 3 + 2]? = some (.string ⟨l[i].2.2.toArray⟩) ∧ SlI W a l[i].1 ∧ l[i].1.length ≤ c ∧ (l[i].1 ≠ [] → ∀ d, a = some d → v.ownBlock ≠ some d.block))
    (hs : SlI W a ps) (hc : ps.length ≤ c) (ha : ps ≠ [] → ∀ d, a = some d → v.ownBlock ≠ some d.block) (hrow : W2.ownsRow w0.heap.size 99 3 (.slice (some ⟨g, 0, none⟩) (l.length + 1) cap) (l.length + 1) (cs ++ comCellsQ a c ps y t)) (hg : W.grownBy W2 v.ownBlock) (hat : v.ownBlock = some g ∨ W.heap.size ≤ g) :
    ComNew w0 W2 (.slice (some ⟨g, 0, none⟩) (l.length + 1) cap) (l ++ [(ps, y, t)]) := by
  have hcl : cs.length = l.length * 3 := ho.1
  have hgo : ∀ {x : Option Addr} {m : List Int}, SlI W x m → m ≠ [] → ∀ d, x = some d → v.ownBlock ≠ some d.block → g ≠ d.block := fun hx hm d hd hv e => by
    rcases hat with h | h
    · exact hv (by rw [← e]; exact h)
    · have := slI_lt hx hm hd; omega
  refine ⟨_, by rw [List.length_append]; exact hrow, fun i hi => ?_⟩
  simp only [List.length_append, List.length_singleton] at hi
  by_cases hil : i < l.length
  · obtain ⟨b, d, q1, q2, q3, q4, q5, q6⟩ := h2 i hil
    have e : (l ++ [(ps, y, t)])[i]'(by rw [List.length_append]; omega) = l[i] := List.getElem_append_left hil
    rw [e, List.getElem?_append_left (by omega), List.getElem?_append_left (by omega), List.getElem?_append_left (by omega)]
    refine ⟨b, d, q1, q2, q3, psl_keep q4 fun hne d hd => hg.block _ (slI_lt q4 hne hd) (fun e => q6 hne d hd e.symm), q5, fun hne d hd e => ?_⟩
    have e : some g = some d.block := e
    exact hgo q4 hne d hd (q6 hne d hd) (Option.some.inj e)
  · obtain rfl : i = l.length := by omega
    have e : (l ++ [(ps, y, t)])[l.length]'(by rw [List.length_append]; simp) = (ps, y, t) := by rw [List.getElem_append_right (Nat.le_refl _)]; simp
    rw [e, List.getElem?_append_right (by omega), List.getElem?_append_right (by omega), List.getElem?_append_right (by omega), hcl]
    rw [show l.length * 3 - l.length * 3 = 0 by omega, show l.length * 3 + 1 - l.length * 3 = 1 by omega, show l.length * 3 + 2 - l.length * 3 = 2 by omega]
    refine ⟨a, c, rfl, rfl, rfl, psl_keep hs fun hne d hd => hg.block _ (slI_lt hs hne hd) (fun e => ha hne d hd e.symm), hc, fun hne d hd e => ?_⟩
    have e : some g = some d.block := e
    exact hgo hs hne d hd (ha hne d hd) (Option.some.inj e)
/-- what is answered of commits -/
def ComsOut (w : World) (l : List Cm) (e : Ending) (w' : World) : Prop := ∃ ad ca, e = .returned (.slice ad l.length ca) ∧ l.length ≤ ca ∧ SlC w' ad l ∧ (∀ b o, ad = some ⟨b, o, none⟩ → ∀ i, i < l.length → ∀ a n c, w'.cell? ⟨b, o + i * 3, none⟩ = some (.slice a n c) → n ≤ c) ∧ RowKit.Below w.heap.size w w'
theorem ComNew.out {w0 w : World} {v : Value} {l : List Cm} (h : ComNew w0 w v l) (hb : RowKit.Below w0.heap.size w0 w) : ∃ ad ca, v = .slice ad l.length ca ∧ ComsOut w0 l (.returned (.slice ad l.length ca)) w := by
  obtain ⟨cs, ho, h2⟩ := h
  by_cases hn : 0 < l.length
  · obtain ⟨g, cap, rfl, hcap, hx⟩ := prow_at ho hn
    refine ⟨_, _, rfl, _, _, rfl, hcap, fun _ => ⟨g, 0, rfl, fun i hi => ?_⟩, fun b o e i hi a n c hc => ?_, hb⟩
    · obtain ⟨a, c, q1, q2, q3, q4, q5, q6⟩ := h2 i hi
      refine ⟨a, c, ?_, ?_, ?_, q4⟩
      · rw [Nat.zero_add]; exact hx _ _ q1
      · rw [Nat.zero_add]; exact hx _ _ q2
      · rw [Nat.zero_add]; exact hx _ _ q3
    · obtain ⟨a', c', q1, q2, q3, q4, q5, q6⟩ := h2 i hi
      cases e
      rw [Nat.zero_add, hx _ _ q1] at hc
      cases hc
      exact q5
  · have hl : l = [] := List.eq_nil_of_length_eq_zero (by omega)
    subst hl
    rcases ho.2 with ⟨rfl, _⟩ | ⟨g, cap, cur, rfl, _⟩
    · exact ⟨none, 0, rfl, none, 0, rfl, Nat.le_refl _, fun h => absurd rfl h, fun b o e => (by cases e), hb⟩
    · exact ⟨_, cap, rfl, _, cap, rfl, Nat.zero_le _, fun h => absurd rfl h, fun b o e i hi => absurd hi (by simp), hb⟩

set_option maxHeartbeats 4000000 in
set_option maxRecDepth 100000 in
theorem QCommits_any (w : World) (r s bm : Nat) (cv : Value) (OS P : Nat → Prop) (R : Rp) (h : RpW w r s bm cv OS P R) (hg : GoodR R) :
    Calls Tryz.prog 25 #[.pointer (some ⟨r, 0, none⟩)] w (ComsOut w R.coms) := by
  obtain ⟨ad, cap, rfl⟩ := h.com.form
  obtain ⟨c0, c1, c2, cf⟩ := h.cells
  have hlt := h.lt
  have HS := hideO h.here
  have hmx : R.coms.length ≤ 60 := hg.coms.1
  have HM := hideO (fun (c : Cm) (hc : c ∈ R.coms) => (show c.1.length ≤ 1000000 ∧ c.2.2.length ≤ 281474976710656 by
    obtain ⟨j, hj, rfl⟩ := List.getElem_of_mem hc
    have := hg.coms.2 j hj
    unfold comN at this
    split at this
    · cases this
    · rename_i h9
      have h8 : ¬ msgN R.coms[j].2.2 = 4 := fun e => h9 (Or.inr e)
      unfold msgN at h8
      split at h8
      · exact absurd rfl h8
      · omega))
  obtain ⟨i0, hi0, hz⟩ := Option.map_eq_some_iff.1 infoCmQ
  simp only [Prod.mk.injEq] at hz
  obtain ⟨hz0, hz1, hz2⟩ := hz
  clear h hg
  generalize R.coms = l at *
  go_enter Tryz.func25, Tryz.ntmps25
  go_wp2_with fail
  go_loopw [3, 11] (fun v i wr => ∃ (k : Nat), k ≤ l.length ∧ i = .int .i64 k ∧ RowKit.Below w.heap.size w wr ∧ Hid (ComNew w wr v (l.take k))) (fun _ i wr => l.length - (intOf i).toNat)
  case atStart => exact ⟨0, Nat.zero_le _, rfl, RowKit.Below.refl _ w, ComNew.nil w w⟩
  case round =>
    obtain ⟨k, hk, rfl, hbr, hN⟩ := hrel
    by_cases hltk : k < l.length
    · obtain ⟨b, a, c, rfl, q0, q1, q2, q3, q4⟩ := HS.out wr hbr k hltk
      have i0' : (0 : Int) ≤ (k : Int) := by omega
      have i1 : (k : Int) < (l.length : Int) := by omega
      obtain ⟨hm1, hm2⟩ := HM.out _ (List.getElem_mem hltk)
      have htk : Hid (l.take (k + 1) = l.take k ++ [l[k]]) := List.take_succ_eq_append_getElem hltk
      have hlk : Hid ((l.take k).length = k) := by show _ = _; rw [List.length_take]; omega
      have Q3 := hideO q3
      clear q3 q4
      generalize l[k] = z at *
      obtain ⟨ps, y, m⟩ := z
      dsimp only at *
      have hba := balloc wr (.cells #[.slice a ps.length c, .int .i64 y, .string ⟨m.toArray⟩] 99)
      have HF := Qfresh_any a c ps y m _ (Q3.out.below hba) hm1 hm2
      have hlo : Hid (∀ j, u3.ownBlock = some j → j < wr.heap.size) := fun j hj => by
        obtain ⟨cs0, ho0, _⟩ := hN.out
        exact (ho0.lt j hj).2
      have hzw := hbr.size
      go_wp2_with (first
        | (go_at_call 50; refine HF.mono ?_; rintro e w3 ⟨a5, c5, rfl, hN5⟩; dsimp only; have hb3 := bstep (bstep hba hN5.2.2.2) (balloc w3 (.cells #[.slice a5 ps.length c5, .int .i64 y, .string ⟨m.toArray⟩] 99)); obtain ⟨cs, ho, h2⟩ := hN.out.below hb3; have HO := hideO ho; have H2 := hideO h2; have HB3 := hideO hb3; have HN5 := hideO hN5; clear ho h2 hN hb3 hba hN5)
        | (at_builtin; refine wpList_append_lies _ rfl _ _ 44 rfl w.heap.size 99 i0 (.agg #[.slice none 0 0, .int .i64 0, .string ⟨#[]⟩]) 3 48 Tryz.underlying44 hi0 hz0 hz1 hz2 rfl (by decide) u3 _ cs rfl HO.out ⟨w3.heap.size, 0, none⟩ 1 1 (comCellsQ a5 c5 ps y m) rfl rfl (newCmQ w3 a5 c5 ps y m) (by simp [comCellsQ, Value.oneCell']) (by decide) (by rw [hlk.out]; unfold maxLen; omega) (by rw [hlk.out]; omega) (by have := HB3.out.size; omega) _ rfl ?_; intro g cp w9 g1 g2 g3 g4; have hp := hideO (ComNew.push HO.out H2.out (HN5.out.1.below (balloc w3 _)) HN5.out.2.1 (fun hne d hd e => by have h7 := hlo.out _ e; have h8 := HN5.out.2.2.1 hne d hd; simp at h8; omega) g1 g2 (g3.imp id (fun e => by rw [e]; exact Nat.le_refl _))); have hb9 := hideO ((bstep hbr HB3.out).grown g2 (bstep hbr HB3.out).size (fun j e => (HO.out.lt j e).1)); clear g1 g2 g3 g4 HO H2))
      go_roundw
      case rel => exact ⟨k + 1, by omega, by go_num, hb9.out, by show ComNew _ _ _ _; rw [htk.out]; have := hp.out; rw [hlk.out] at this; exact this⟩
      case measure => simp [intOf]; omega
    · have hkk : k = l.length := by omega
      subst hkk
      have hfin : ComNew w wr u3 l := by have := hN.out; rw [List.take_length] at this; exact this
      obtain ⟨ad', ca', rfl, hout⟩ := hfin.out hbr
      have HOut := hideO hout
      clear hout hN hfin HS HM
      go_wp2_with fail
      go_ret
      exact HOut.out
end Go.Proofs.YtpomdoelihmebaaGreatDoor

/- The contracts of maps.Keys and slices.Sorted at string keys, laid at this program by program. -/
namespace Go.Proofs
open Go.Shelf
def Tryz.keysS_ren : Go.Shelf.Ren := ⟨fun | 7 => 39 | 10 => 61 | n => n, fun | 23 => 71 | 26 => 9 | 3 => 3 | 28 => 90 | 0 => 0 | 27 => 89 | 33 => 74 | 4 => 4 | n => n, fun | n => n⟩
theorem Tryz.keysS : Go.Proofs.SlLaysZ.n7 Tryz.prog Tryz.keysS_ren := {
  mixed := by kernel_rfl
  f7 := ⟨Tryz.f39.name, by decide, Tryz.func39.trans (congrArg some (by kernel_rfl))⟩
  f10 := ⟨Tryz.f61.name, by decide, Tryz.func61.trans (congrArg some (by kernel_rfl))⟩
  t0 := Tryz.underlying0
  a0 := Tryz.isAgg0
  z0 := Tryz.sizeOf0
  v0 := Tryz.zeroValue0
  t4 := Tryz.underlying4
  a4 := Tryz.isAgg4
  z4 := Tryz.sizeOf4
  v4 := Tryz.zeroValue4
  t23 := Tryz.underlying71
  a23 := Tryz.isAgg71
  z23 := Tryz.sizeOf71
  v23 := Tryz.zeroValue71
  t26 := Tryz.underlying9
  a26 := Tryz.isAgg9
  z26 := Tryz.sizeOf9
  v26 := Tryz.zeroValue9
  t27 := Tryz.underlying89
  a27 := Tryz.isAgg89
  z27 := Tryz.sizeOf89
  v27 := Tryz.zeroValue89
  t28 := Tryz.underlying90
  a28 := Tryz.isAgg90
  z28 := Tryz.sizeOf90
  v28 := Tryz.zeroValue90
  t33 := Tryz.underlying74
  a33 := Tryz.isAgg74
  z33 := Tryz.sizeOf74
  v33 := Tryz.zeroValue74 }
def Tryz.sortedS_ren : Go.Shelf.Ren := ⟨fun | 6 => 38 | 8 => 59 | 9 => 60 | 11 => 87 | 13 => 89 | 12 => 88 | 23 => 131 | 24 => 132 | 14 => 122 | 15 => 123 | 16 => 124 | 17 => 125 | 18 => 126 | 19 => 127 | 20 => 128 | 21 => 129 | 22 => 130 | 25 => 153 | 26 => 154 | 27 => 155 | 28 => 156 | 29 => 157 | 30 => 158 | 31 => 173 | n => n, fun | 26 => 9 | 28 => 90 | 24 => 38 | 0 => 0 | 3 => 3 | 37 => 155 | 48 => 204 | 50 => 206 | 4 => 4 | 40 => 197 | 39 => 196 | 45 => 76 | 5 => 5 | 9 => 9 | 51 => 224 | 55 => 228 | 57 => 238 | 58 => 49 | 33 => 74 | n => n, fun | n => n⟩
theorem Tryz.sortedS : Go.Proofs.SlLaysZ.n6 Tryz.prog Tryz.sortedS_ren := {
  mixed := by kernel_rfl
  f6 := ⟨Tryz.f38.name, by decide, Tryz.func38.trans (congrArg some (by kernel_rfl))⟩
  f8 := ⟨Tryz.f59.name, by decide, Tryz.func59.trans (congrArg some (by kernel_rfl))⟩
  f11 := ⟨Tryz.f87.name, by decide, Tryz.func87.trans (congrArg some (by kernel_rfl))⟩
  t0 := Tryz.underlying0
  a0 := Tryz.isAgg0
  z0 := Tryz.sizeOf0
  v0 := Tryz.zeroValue0
  t24 := Tryz.underlying38
  a24 := Tryz.isAgg38
  z24 := Tryz.sizeOf38
  v24 := Tryz.zeroValue38
  t26 := Tryz.underlying9
  a26 := Tryz.isAgg9
  z26 := Tryz.sizeOf9
  v26 := Tryz.zeroValue9
  t28 := Tryz.underlying90
  a28 := Tryz.isAgg90
  z28 := Tryz.sizeOf90
  v28 := Tryz.zeroValue90
  i26 := by kernel_rfl }
end Go.Proofs

/- repo's Refs: the branches by name. -/
namespace Go.Proofs.YtpomdoelihmebaaGreatDoor
open Go Go.RowKit Go.Proofs Go.Maps Go.Sort Go.Shelf
set_option synthInstance.maxSize 1000

theorem sortsQ (m : Nat) : AnyZ.SortsIn Tryz.prog Tryz.sortedS_ren Fence.wide m :=
  ⟨fun blk off cap ss W hH hblk hsz => callsIn_wide.2 (Tryz.slices_Sort_string blk off cap ss W hH hblk hsz),
   fun p cap W => callsIn_wide.2 (Tryz.slices_Sort_string_none p cap W)⟩
def namesOf (l : List Rf) : List (List UInt8) := l.map fun x => x.1
theorem names_rise {l : List Rf} (h : ByName l) : (namesOf l).Pairwise (fun a b => a < b) := by
  unfold namesOf
  rw [List.pairwise_map]
  exact h
theorem has_len {w : World} {b n : Nat} {D : DataW Unit} (o : w.ownsMap Tryz.prog 9 (plainElem Tryz.prog 3) b n D) {x : List UInt8} (h : Maps.has D (.string x) = true) : x.length ≤ maxLen := by
  obtain ⟨es, rfl, hko⟩ := o.keysOf
  obtain ⟨p, hp, hs⟩ := List.any_eq_true.1 h
  obtain ⟨v, hv⟩ := hko p hp
  rw [WideAt.sameKey_eq hs] at hv
  obtain ⟨y, _, hy, hl⟩ := Maps.keyOf_str Tryz.underlying9 hv
  cases hy
  exact hl
theorem name_len {b : List UInt8} (h : nameR b = true) : b.length ≤ 10 := by
  unfold nameR at h
  simp at h
  exact h.2.1
/-- the keys of the branches' map, sorted, are their names -/
theorem keys_names {w : World} {b m : Nat} {D : DataW Unit} {l : List Rf} (o : w.ownsMap Tryz.prog 9 (plainElem Tryz.prog 3) b m D) (f : BrD D l) (hl : ByName l) (hn : ∀ x ∈ l, nameR x.1 = true) {ss : List (List UInt8)} (hp : ss.Perm (strKeys D)) : ss.mergeSort (fun x y => decide (x ≤ y)) = namesOf l := by
  have h1 : (namesOf l).Perm (strKeys D) := by
    refine Collected.perm (left := fun _ => false) ⟨(names_rise hl).imp fun h e => by rw [e] at h; exact List.lt_irrefl _ h, fun x => ?_⟩ o keyedSO Tryz.underlying9 fun _ => rfl
    simp only [and_true]
    constructor
    · intro hx
      obtain ⟨y, hy, rfl⟩ := List.mem_map.1 hx
      have hlen := name_len (hn y hy)
      rw [(f _ (by unfold maxLen; omega)).1]
      have : atR l y.1 = (y.2 : Int) := (atR_mem hl).2 hy
      rw [this]
      simp
    · intro hx
      rw [(f _ (has_len o hx)).1] at hx
      have h0 : 0 ≤ atR l x := by simpa using hx
      obtain ⟨k, hk⟩ := patR_some h0
      exact List.mem_map.2 ⟨(x, k), (atR_mem hl).1 hk, rfl⟩
  have h2 := hp.trans h1.symm
  have tr : ∀ a b c : List UInt8, decide (a ≤ b) = true → decide (b ≤ c) = true → decide (a ≤ c) = true := fun a b c h1 h2 => by simp only [decide_eq_true_eq] at *; exact List.le_trans h1 h2
  have to : ∀ a b : List UInt8, (decide (a ≤ b) || decide (b ≤ a)) = true := fun a b => by simp only [Bool.or_eq_true, decide_eq_true_eq]; exact List.le_total a b
  refine List.Perm.eq_of_pairwise (le := fun a b => decide (a ≤ b) = true) (fun a b _ _ h1 h2 => ?_) (List.pairwise_mergeSort tr to ss) ?_ ((List.mergeSort_perm ss _).trans h2)
  · simp only [decide_eq_true_eq] at h1 h2; exact List.le_antisymm h1 h2
  · exact (names_rise hl).imp fun h => by simp only [decide_eq_true_eq]; exact List.le_of_lt h
/-- a look-up of a branch that is there -/
theorem look_br1 {w : World} {bm : Nat} {l : List Rf} (h : BrMap w bm l) (t : List UInt8) (ht : t.length ≤ maxLen) {k : Nat} (hk : atR l t = (k : Int)) :
    (Instr.lookup 71 (.map (some bm)) (.string ⟨t.toArray⟩) false).run Tryz.prog w = .ok (.int .i64 (k : Int)) w := by
  obtain ⟨D, o1, f1, hs⟩ := h
  obtain ⟨c, hrun, hc, _⟩ := o1.lookup_int keyedSO Tryz.underlying71 Tryz.underlying3 (zeroNum w) (keyS t ht)
  rw [(f1 t ht).2] at hc
  have e : brI l t = (k : Int) := by rw [brI_pos (by omega), hk]
  rw [e] at hc
  simp only [DataW.lit.injEq, Lit.int.injEq, true_and] at hc
  rw [hrun, ← hc]
def encRf (x : Rf) : List Value := [.string ⟨x.1.toArray⟩, .int .i64 (x.2 : Int)]
def cellsRf (l : List Rf) : List Value := l.flatMap encRf
theorem cellsRf_len (l : List Rf) : (cellsRf l).length = l.length * 2 := by
  induction l with
  | nil => rfl
  | cons x r ih =>
    have e : cellsRf (x :: r) = encRf x ++ cellsRf r := by simp [cellsRf]
    rw [e, List.length_append, ih]
    simp [encRf]
    omega
theorem cellsRf_at (l : List Rf) (k : Nat) (hk : k < l.length) : (cellsRf l)[k * 2]? = some (.string ⟨l[k].1.toArray⟩) ∧ (cellsRf l)[k * 2 + 1]? = some (.int .i64 (l[k].2 : Int)) := by
  induction l generalizing k with
  | nil => simp at hk
  | cons x r ih =>
    have e : cellsRf (x :: r) = encRf x ++ cellsRf r := by simp [cellsRf]
    rw [e]
    cases k with
    | zero => simp [encRf]
    | succ n =>
      have h2 : (encRf x).length = 2 := rfl
      obtain ⟨q1, q2⟩ := ih n (by simpa using hk)
      rw [List.getElem?_append_right (by rw [h2]; omega), List.getElem?_append_right (by rw [h2]; omega), h2, show (n + 1) * 2 - 2 = n * 2 by omega, show (n + 1) * 2 + 1 - 2 = n * 2 + 1 by omega]
      simpa using ⟨q1, q2⟩
theorem infoRf : (Tryz.prog.info? 94).map (fun i => (i.zero, i.size, i.bytes)) = some (some (.agg #[.string ⟨#[]⟩, .int .i64 0]), 2, 24) := by kernel_rfl
theorem newRf (W : World) (x : Rf) : ∀ (j : Nat) u, (encRf x)[j]? = some u → (W.alloc (.cells #[.string ⟨x.1.toArray⟩, .int .i64 (x.2 : Int)] 94)).cell? (Addr.add ⟨W.heap.size, 0, none⟩ j) = some u := fun j u hu => by
  have hj : j < 2 := by have := (List.getElem?_eq_some_iff.1 hu).1; simpa [encRf] using this
  rw [Addr.add_lit]
  rcases (by omega : j = 0 ∨ j = 1) with rfl | rfl
  · simp [encRf] at hu; subst hu; go_simp
  · simp [encRf] at hu; subst hu; go_simp
/-- one more in the row -/
theorem rf_push {W : World} {base : Nat} {v : Value} {l : List Rf} (h : W.ownsRow base 94 2 v l.length (cellsRf l)) (x : Rf) (hl : l.length ≤ 1000) (hb : base ≤ W.heap.size) (ty : TypeId) :
    ∃ g cap W9, (Builtin.append_ #[34, 34] ty #[v, .slice (some ⟨W.heap.size, 0, none⟩) 1 1]).run Tryz.prog (W.alloc (.cells #[.string ⟨x.1.toArray⟩, .int .i64 (x.2 : Int)] 94)) = .ok (.slice (some ⟨g, 0, none⟩) (l.length + 1) cap) W9 ∧
      W9.ownsRow base 94 2 (.slice (some ⟨g, 0, none⟩) (l.length + 1) cap) (l ++ [x]).length (cellsRf (l ++ [x])) ∧ ∀ {w : World}, RowKit.Below base w W → RowKit.Below base w W9 := by
  obtain ⟨i0, hi0, hz⟩ := Option.map_eq_some_iff.1 infoRf
  simp only [Prod.mk.injEq] at hz
  obtain ⟨hz0, hz1, hz2⟩ := hz
  obtain ⟨g, cap, W9, hrun, hrow, hgr, hat, hlt9⟩ := run_append_lies (P := Tryz.prog) (W.alloc (.cells #[.string ⟨x.1.toArray⟩, .int .i64 (x.2 : Int)] 94)) 34 ty base 94 i0 (.agg #[.string ⟨#[]⟩, .int .i64 0]) 2 24 Tryz.underlying34 hi0 hz0 hz1 hz2 rfl (by decide) v l.length (cellsRf l) (h.alloc _) ⟨W.heap.size, 0, none⟩ 1 1 (encRf x) rfl (newRf W x) (by simp [encRf, Value.oneCell']) (by decide) (by unfold maxLen; omega) (by omega) (by simp; omega) _ rfl
  refine ⟨g, cap, W9, hrun, ?_, fun {w} hw => ?_⟩
  · rw [List.length_append]
    have e : cellsRf (l ++ [x]) = cellsRf l ++ encRf x := by simp [cellsRf]
    rw [e]
    exact hrow
  · have h1 : RowKit.Below base w (W.alloc (.cells #[.string ⟨x.1.toArray⟩, .int .i64 (x.2 : Int)] 94)) := hw.trans ((balloc W _).mono hb)
    exact h1.grown hgr (by simp; omega) (fun j e => (h.lt j e).1)
/-- what is answered of branches -/
def RefsOut (w : World) (l : List Rf) (e : Ending) (w' : World) : Prop := ∃ ad ca, e = .returned (.slice ad l.length ca) ∧ SlF w' ad l ∧ RowKit.Below w.heap.size w w'
theorem refs_out {w w' : World} {base : Nat} {v : Value} {l : List Rf} (h : w'.ownsRow base 94 2 v l.length (cellsRf l)) (hb : RowKit.Below w.heap.size w w') : ∃ ad ca, v = .slice ad l.length ca ∧ RefsOut w l (.returned (.slice ad l.length ca)) w' := by
  by_cases hn : 0 < l.length
  · obtain ⟨g, cap, rfl, hcap, hx⟩ := prow_at h hn
    refine ⟨_, _, rfl, _, _, rfl, fun _ => ⟨g, 0, rfl, fun i hi => ?_⟩, hb⟩
    obtain ⟨q1, q2⟩ := cellsRf_at l i hi
    rw [Nat.zero_add]
    exact ⟨hx _ _ q1, hx _ _ q2⟩
  · have hl : l = [] := List.eq_nil_of_length_eq_zero (by omega)
    subst hl
    rcases h.2 with ⟨rfl, _⟩ | ⟨g, cap, cur, rfl, _⟩
    · exact ⟨none, 0, rfl, none, 0, rfl, fun h => absurd rfl h, hb⟩
    · exact ⟨_, cap, rfl, _, cap, rfl, fun h => absurd rfl h, hb⟩

set_option maxHeartbeats 1000000 in
/-- the names, sorted, in a new list -/
theorem Qkeys_any (w : World) (bm : Nat) (l : List Rf) (h : BrMap w bm l) (hl : ByName l) (hn : ∀ x ∈ l, nameR x.1 = true) (h8 : l.length ≤ 8) :
    Calls Tryz.prog 38 #[.func (.func 61) #[] #[.pointer (some ⟨w.heap.size, 0, none⟩)]] (w.alloc (.cells #[.map (some bm)] 71)) fun e w' => ∃ ad ca, e = .returned (.slice ad l.length ca) ∧ (∀ (j : Nat) (hj : j < l.length), ∃ g, ad = some ⟨g, 0, none⟩ ∧ w'.cell? ⟨g, j, none⟩ = some (.string ⟨l[j].1.toArray⟩)) ∧ RowKit.Below w.heap.size w w' := by
  obtain ⟨D, o, f, hs⟩ := h
  have hbl := o.lt
  have hle := o.size_le
  have hseq : SeqGives Fence.wide 2 Tryz.prog 61 #[.pointer (some ⟨w.heap.size, 0, none⟩)] encStr (fun ss => ss.Perm (strKeys D)) (Maps.size D) (w.alloc (.cells #[.map (some bm)] 71)) :=
    AnyZ.keys_gives (ρ := Tryz.keysS_ren) { Tryz.keysS with } Fence.wide _ trivial rfl (by omega) w.heap.size bm 100 D _ (by simp) (by simp) (o.alloc _)
  have cS := AnyZ.sorted_in Tryz.sortedS Fence.wide 5 trivial trivial trivial trivial rfl (by omega) (sortsQ _) (enters_of Tryz.func60 (by kernel_rfl) rfl) 61 #[.pointer (some ⟨w.heap.size, 0, none⟩)] trivial (enters_of Tryz.func61 (by kernel_rfl) rfl) _ _ (by unfold maxLen; omega) (by omega) _ hseq
  change CallsIn _ _ Tryz.prog 38 _ _ _ at cS
  refine (callsIn_wide.1 cS).mono ?_
  rintro e w' ⟨v, ss, rfl, hS, hrow, hnil, hb⟩
  have hids := keys_names o f hl hn hS
  have hlen : ss.length = l.length := by
    have : (ss.mergeSort (fun x y => decide (x ≤ y))).length = ss.length := (List.mergeSort_perm ss _).length_eq
    rw [hids] at this
    simpa [namesOf] using this.symm
  rw [hids] at hrow
  have hbb : RowKit.Below w.heap.size w w' := ((RowKit.Below.refl _ w).alloc (Nat.le_refl _) _).trans (hb.mono (by simp))
  obtain ⟨ad, ca, rfl⟩ := prow_form hrow
  rw [hlen] at hrow ⊢
  refine ⟨ad, ca, rfl, fun j hj => ?_, hbb⟩
  obtain ⟨g, cap, e, _, hx⟩ := prow_at hrow (by omega)
  obtain ⟨rfl, _, _⟩ := Value.slice.inj e
  refine ⟨g, rfl, hx j _ ?_⟩
  simp [namesOf, encStr, hj]
theorem QKeysF_any (mb : Option Nat) (W : World) : Calls Tryz.prog 39 #[.map mb] W fun e w' => e = .returned (.func (.func 61) #[] #[.pointer (some ⟨W.heap.size, 0, none⟩)]) ∧ w' = W.alloc (.cells #[.map mb] 71) :=
  (callsIn_wide (n := 5)).1 (AnyZ.keys_in Tryz.keysS Fence.wide 5 trivial rfl mb W)

set_option maxHeartbeats 4000000 in
set_option maxRecDepth 100000 in
theorem QRefs_any (w : World) (r s bm : Nat) (cv : Value) (OS P : Nat → Prop) (R : Rp) (h : RpW w r s bm cv OS P R) (hg : GoodR R) :
    Calls Tryz.prog 12 #[.pointer (some ⟨r, 0, none⟩)] w (RefsOut w R.refs) := by
  obtain ⟨c0, c1, c2, cf⟩ := h.cells
  have hlt := h.lt
  have HK := Qkeys_any w bm R.refs h.map hg.refs (fun x hx => (hg.names x hx).1) hg.few
  have HL := hideO (fun W (hW : RowKit.Below w.heap.size w W) (x : Rf) (hx : x ∈ R.refs) => look_br1 (h.below hW).map x.1 (by have := name_len (hg.names x hx).1; unfold maxLen; omega) ((atR_mem hg.refs).2 hx))
  have HC := hideO (fun W (hW : RowKit.Below w.heap.size w W) => (h.below hW).cells)
  have HN := hideO (fun (x : Rf) (hx : x ∈ R.refs) => name_len (hg.names x hx).1)
  have h8 := hg.few
  clear h hg
  generalize R.refs = l at *
  go_enter Tryz.func12, Tryz.ntmps12
  go_wp2_with (first
    | (go_at_call 39; refine (QKeysF_any _ _).mono ?_; rintro e w1 ⟨rfl, rfl⟩; dsimp only)
    | (go_at_call 38; refine HK.mono ?_; rintro e w2 ⟨ad, ca, rfl, hcells, hb2⟩; dsimp only; have HCE := hideO hcells; have HB2 := hideO hb2; clear hcells hb2 HK))
  go_loopw [3, 13] (fun v i wr => ∃ (k : Nat), k ≤ l.length ∧ i = .int .i64 k ∧ Hid (RowKit.Below w2.heap.size w2 wr) ∧ Hid (wr.ownsRow w2.heap.size 94 2 v (l.take k).length (cellsRf (l.take k)))) (fun _ i wr => l.length - (intOf i).toNat)
  case atStart => exact ⟨0, Nat.zero_le _, rfl, RowKit.Below.refl _ w2, World.ownsRow_nil _ _ _ _⟩
  case round =>
    obtain ⟨k, hk, rfl, hbr, hown⟩ := hrel
    by_cases hltk : k < l.length
    · obtain ⟨g, rfl, hc0⟩ := HCE.out k hltk
      have hc := (hbr.out.cell (World.block_lt_of_cell? w2 _ hc0)).trans hc0
      have i0 : (0 : Int) ≤ (k : Int) := by omega
      have i1 : (k : Int) < (l.length : Int) := by omega
      have hmem : l[k] ∈ l := List.getElem_mem hltk
      have hcl : l[k].1.length ≤ 281474976710656 := by have := HN.out _ hmem; omega
      have htk : Hid (l.take (k + 1) = l.take k ++ [l[k]]) := List.take_succ_eq_append_getElem hltk
      have hlk : Hid ((l.take k).length = k) := by show _ = _; rw [List.length_take]; omega
      have HLk := hideO (fun W (hW : RowKit.Below w.heap.size w W) => HL.out W hW l[k] hmem)
      have hbw := hideO (bstep HB2.out hbr.out)
      clear hc0 hmem
      generalize l[k] = x at *
      have hlD : (Instr.lookup 71 (.map (some bm)) (.string ⟨x.1.toArray⟩) false).run Tryz.prog wr.drew = .ok (.int .i64 (x.2 : Int)) wr.drew := HLk.out _ hbw.out.drew
      obtain ⟨d0, d1, d2, df⟩ := HC.out _ hbw.out
      have zr : r < wr.heap.size := by have := hbw.out.size; omega
      go_wp2_with fail
      go_region_law (first
        | (refine step_appendQ rfl (.tmp 17) (.tmp 27) 34 rfl _ _ rfl rfl hr9 ?_)
        | (go_simp; go_at_call 40; refine (SClone_any x.1 _ hcl).mono ?_; rintro e w5 ⟨rfl, hb5'⟩; dsimp only; have hb5 : RowKit.Below wr.heap.size wr w5 := (RowKit.Below.refl _ wr).drew.trans hb5'; have hl5 := HLk.out _ (bstep hbw.out hb5); obtain ⟨m0, m1, m2, mf⟩ := HC.out _ (bstep hbw.out hb5); have z5 : r < w5.heap.size := (by have := hb5.size; omega); obtain ⟨g9, cap9, W9, hr9, ho9, hB9⟩ := rf_push (ownsO_below hown.out hb5) x (by rw [hlk.out]; omega) (by have := hbr.out.size; have := hb5.size; omega) 34; have HO9 := hideO ho9; have HB9 := hideO (hB9 (bstep hbr.out hb5)); clear ho9 hB9))
      all_goals go_wp2_with fail
      all_goals exact ⟨⟨k + 1, by omega, by go_num, HB9, by show World.ownsRow _ _ _ _ _ _ _; rw [htk.out]; have := HO9.out; rw [hlk.out] at this; exact this⟩, by simp [intOf]; omega⟩
    · have hkk : k = l.length := by omega
      subst hkk
      have hfin : wr.ownsRow w2.heap.size 94 2 u3 l.length (cellsRf l) := by have := hown.out; rw [List.take_length] at this; exact this
      obtain ⟨ad', ca', rfl, hout⟩ := refs_out hfin (bstep HB2.out hbr.out)
      have HOut := hideO hout
      clear hout hown hfin HCE HN HL
      go_wp2_with fail
      go_ret
      exact HOut.out
end Go.Proofs.YtpomdoelihmebaaGreatDoor

/- The program's repo keeps the face's contracts. -/
namespace Go.Proofs.YtpomdoelihmebaaGreatDoor
open Go Go.RowKit Go.Proofs Go.Maps
set_option synthInstance.maxSize 1000

theorem RpTo.at_ {w w' : World} {r s bm : Nat} {cv : Value} {OS P O : Nat → Prop} {R' : Rp} (h : RpTo w r s bm cv OS P R' w') (hO : ∀ j, O j ↔ RpO r bm cv OS P j) : ∃ O' : Nat → Prop, RepAt w' r O' R' ∧ Offs O w w' ∧ ∀ j, O' j → O j ∨ w.heap.size ≤ j := by
  obtain ⟨cv', OS', P', h1, h2, h3⟩ := h
  exact ⟨RpO r bm cv' OS' P', ⟨s, bm, cv', OS', P', h1, fun _ => Iff.rfl⟩, h2.mono fun j hj => Or.inl ((hO j).2 hj), fun j hj => (h3 j hj).imp (hO j).2 id⟩
def theRepo : RFace := {
  lim := reachBytes
  At := RepAt
  own := by
    rintro w r O R ⟨s, bm, cv, OS, P, h, hO⟩ j hj
    exact h.own j ((hO j).1 hj)
  keep := by
    rintro w w' r O R ⟨s, bm, cv, OS, P, h, hO⟩ hk
    exact ⟨s, bm, cv, OS, P, h.keep fun j hj => hk j ((hO j).2 hj), hO⟩
  new := QNew_any
  commit := by
    rintro w r O R b ad ca S t ⟨s, bm, cv, OS, P, h, hO⟩ hg hS hb ht
    refine (QCommit_any w r s bm cv OS P R b ad ca S t h hg hb hS.sl hS.fit hS.len ht).mono ?_
    rintro e w' ⟨rfl, hto⟩
    exact ⟨rfl, hto.at_ hO⟩
  join := by
    rintro w r O R b o ad ca S t ⟨s, bm, cv, OS, P, h, hO⟩ hg hS hb ht
    refine (QJoin_any w r s bm cv OS P R b o ad ca S t h hg hb hS.sl hS.fit hS.len ht).mono ?_
    rintro e w' ⟨rfl, hto⟩
    exact ⟨rfl, hto.at_ hO⟩
  branch := by
    rintro w r O R b a ⟨s, bm, cv, OS, P, h, hO⟩ hg hb
    refine (QBranch_any w r s bm cv OS P R b a h hg hb).mono ?_
    rintro e w' ⟨rfl, hto⟩
    exact ⟨rfl, hto.at_ hO⟩
  move := by
    rintro w r O R b f t ⟨s, bm, cv, OS, P, h, hO⟩ hg hb
    refine (QMove_any w r s bm cv OS P R b f t h hg hb).mono ?_
    rintro e w' ⟨rfl, hto⟩
    exact ⟨rfl, hto.at_ hO⟩
  drop := by
    rintro w r O R b ⟨s, bm, cv, OS, P, h, hO⟩ hg hb
    refine (QDrop_any w r s bm cv OS P R b h hg hb).mono ?_
    rintro e w' ⟨rfl, hto⟩
    exact ⟨rfl, hto.at_ hO⟩
  head := by
    rintro w r O R b ⟨s, bm, cv, OS, P, h, hO⟩ hg hb
    exact QHead_any w r s bm cv OS P R b h (by unfold reachBytes at hb; unfold maxLen; omega)
  graph := by
    rintro w r O R a ⟨s, bm, cv, OS, P, h, hO⟩ hg
    exact QGraph_any w r s bm cv OS P R a h hg
  refs := by
    rintro w r O R ⟨s, bm, cv, OS, P, h, hO⟩ hg
    exact QRefs_any w r s bm cv OS P R h hg
  commits := by
    rintro w r O R ⟨s, bm, cv, OS, P, h, hO⟩ hg
    exact QCommits_any w r s bm cv OS P R h hg
  object := by
    rintro w r O R id ⟨s, bm, cv, OS, P, h, hO⟩ hg
    exact QObject_any w r s bm cv OS P R id h hg
}
theorem theRepo_lim : theRepo.lim = reachBytes := rfl
end Go.Proofs.YtpomdoelihmebaaGreatDoor
