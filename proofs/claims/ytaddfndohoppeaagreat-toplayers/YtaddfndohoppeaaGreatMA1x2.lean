import Derived.Test.YtaddfndohoppeaaGreatMA1x1

/- repo's Commit, Join, Branch, Move, Drop, New. -/
namespace Go.Proofs.YtaddfndohoppeaaGreat
open Go Go.RowKit Go.Proofs Go.Maps
set_option synthInstance.maxSize 1000

attribute [local go_sem] eql_errV neq_errV guard_errV

theorem commit_lead {R : Rp} {b : List UInt8} {S : List Tr} {t : List UInt8} (hn : nameR b = true) : commitE R b S t = leadE R b (parR R b) S t ∧ commitI R b S t = leadI R b (parR R b) S t ∧ commitR R b S t = leadN R b (parR R b) S t := by
  have e1 : commitF R b S t = leadF R b S t := by unfold commitF leadF; rw [if_neg (by rw [hn]; decide)]
  have e2 : commitE R b S t = leadE R b (parR R b) S t := by unfold commitE leadE; rw [e1]
  refine ⟨e2, ?_, ?_⟩
  · unfold commitI leadI; rw [e2]
  · unfold commitR leadN; rw [e2]
theorem sl_oneR {W : World} {b : Nat} {i : Int} (h : W.cell? ⟨b, 0, none⟩ = some (.int .i64 i)) : SlI W (some ⟨b, 0, none⟩) [i] := fun _ => ⟨b, 0, rfl, fun j hj => by
  simp at hj
  subst hj
  exact h⟩
set_option maxHeartbeats 4000000 in
set_option maxRecDepth 100000 in
theorem QCommit_any (w : World) (r s bm : Nat) (cv : Value) (OS P : Nat → Prop) (R : Rp) (b : List UInt8) (sd : Option Addr) (sc : Nat) (S : List Tr) (t : List UInt8) (h : RpW w r s bm cv OS P R) (hg : GoodR R) (hb : b.length ≤ reachBytes) (hS : SlT w sd S) (fS : ∀ x ∈ S, fitTr x) (nS : S.length ≤ maxLen) (ht : t.length ≤ reachBytes) :
    Calls Tryz.prog 7 #[.pointer (some ⟨r, 0, none⟩), .string ⟨b.toArray⟩, .slice sd S.length sc, .string ⟨t.toArray⟩] w fun e w' => e = .returned (.tuple #[.int .i64 (commitI R b S t : Int), errV (commitE R b S t)]) ∧ RpTo w r s bm cv OS P (commitR R b S t) w' := by
  have hml : b.length ≤ maxLen := by unfold reachBytes at hb; unfold maxLen; omega
  have HN := QIsName_any b w hml
  have HL := fun W (hW : RowKit.Below w.heap.size w W) => look_br (h.below hW).map b hml
  have HC := hideO (fun W (hW : RowKit.Below w.heap.size w W) => (h.below hW).cells)
  have hlt := h.lt
  cases hn : nameR b with
  | false =>
    have eE : commitE R b S t = 2 := by
      have : commitF R b S t = 2 := by unfold commitF; rw [if_pos hn]
      unfold commitE; rw [this]; rfl
    have eI : commitI R b S t = 0 := by unfold commitI; rw [if_pos (by rw [eE]; decide)]
    have eR : commitR R b S t = R := by unfold commitR; rw [if_pos (by rw [eE]; decide)]
    rw [eE, eI, eR]
    rw [hn] at HN
    have HH := hideO h
    clear HL HC hn eE eI eR h hg hS fS nS ht hb
    go_enter Tryz.func7, Tryz.ntmps7
    go_wp2_with (go_at_call 23; refine HN.mono ?_; rintro e w1 ⟨rfl, hb1⟩; dsimp only)
    exact bodyPost_ret (v := .tuple #[.int .i64 0, .iface 82 (.int .i64 2)]) (by unfold results; rw [Tryz.results7]; go_simp) rfl ⟨rfl, RpTo.same HH.out hb1⟩
  | true =>
    obtain ⟨eE, eI, eR⟩ := commit_lead (R := R) (S := S) (t := t) hn
    rw [eE, eI, eR]
    rw [hn] at HN
    have hpo := par_ok hg b
    by_cases h0 : 0 ≤ atR R.refs b
    · have ep : parR R b = [atR R.refs b] := if_pos h0
      rw [ep] at hpo ⊢
      have HLd := hideO (fun W (hW : RowKit.Below w.heap.size w W) pd hs hpd => Qlead_any W r s bm cv OS P R b pd 1 [atR R.refs b] sd sc S t (h.below hW) hg hb hs hpo hpd (hS.below hW) fS nS ht)
      rw [brI_pos h0, decide_eq_true h0] at HL
      have HO := hideO h.own
      clear h hg hS fS nS ht hb hml hn eE eI eR ep hpo h0
      generalize atR R.refs b = z at *
      go_enter Tryz.func7, Tryz.ntmps7
      go_wp2_with (go_at_call 23; refine HN.mono ?_; rintro e w1 ⟨rfl, hb1⟩; dsimp only; obtain ⟨k0, k1, k2, kf⟩ := HC.out _ hb1; have hl := HL _ hb1; have hlt1 : r < w1.heap.size := (by have := hb1.size; omega))
      have hba := balloc w1 (.cells #[.int .i64 z] 3)
      refine (HLd.out _ (bstep hb1 hba) (some ⟨w1.heap.size, 0, none⟩) (sl_oneR (by go_simp)) (fun _ d hd hO => by cases hd; have h7 := HO.out _ hO; have h8 := hb1.size; have h7 : w1.heap.size < w.heap.size := h7; omega)).mono ?_
      rintro e w2 ⟨rfl, hto⟩
      dsimp only
      have HT := hideO (RpTo.from (bstep hb1 hba) hto)
      clear hto hba hl k0 k1 k2 kf
      go_wp2_with fail
      exact bodyPost_ret (v := .tuple #[.int .i64 (leadI R b [z] S t : Int), errV (leadE R b [z] S t)]) (by unfold results; rw [Tryz.results7]; go_simp) rfl ⟨rfl, HT.out⟩
    · have ep : parR R b = [] := if_neg h0
      rw [ep] at hpo ⊢
      have HLd := hideO (fun W (hW : RowKit.Below w.heap.size w W) => Qlead_any W r s bm cv OS P R b none 0 [] sd sc S t (h.below hW) hg hb (fun h => absurd rfl h) hpo (fun h => absurd rfl h) (hS.below hW) fS nS ht)
      rw [show brI R.refs b = 0 from if_neg h0, decide_eq_false h0] at HL
      clear h hg hS fS nS ht hb hml hn eE eI eR ep hpo h0
      go_enter Tryz.func7, Tryz.ntmps7
      go_wp2_with (go_at_call 23; refine HN.mono ?_; rintro e w1 ⟨rfl, hb1⟩; dsimp only; obtain ⟨k0, k1, k2, kf⟩ := HC.out _ hb1; have hl := HL _ hb1; have hlt1 : r < w1.heap.size := (by have := hb1.size; omega))
      refine (HLd.out _ hb1).mono ?_
      rintro e w2 ⟨rfl, hto⟩
      dsimp only
      have HT := hideO (RpTo.from hb1 hto)
      clear hto hl k0 k1 k2 kf
      go_wp2_with fail
      exact bodyPost_ret (v := .tuple #[.int .i64 (leadI R b [] S t : Int), errV (leadE R b [] S t)]) (by unfold results; rw [Tryz.results7]; go_simp) rfl ⟨rfl, HT.out⟩


end Go.Proofs.YtaddfndohoppeaaGreat

/- repo's New and Commits. -/
namespace Go.Proofs.YtaddfndohoppeaaGreat
open Go Go.RowKit Go.Proofs Go.Maps
set_option synthInstance.maxSize 1000

attribute [local go_sem] eql_errV neq_errV guard_errV

set_option maxHeartbeats 1000000 in
theorem QNew_any (w : World) : Calls Tryz.prog 5 #[] w fun e w' => ∃ (r : Nat) (O : Nat → Prop), e = .returned (.pointer (some ⟨r, 0, none⟩)) ∧ RepAt w' r O emptyR ∧ RowKit.Below w.heap.size w w' ∧ ∀ j, O j → w.heap.size ≤ j := by
  have H := theFace.new w
  have h1 := makeNums
  go_enter Tryz.func5, Tryz.ntmps5
  go_wp2_with (go_at_call 20; refine H.mono ?_; rintro e w1 ⟨s, OS, rfl, hst, hb1, hnew⟩; dsimp only)
  go_ret
  have hz := hb1.size
  have hown := theFace.own hst
  have hb2 := bstep (balloc w1 (.map #[] 0)) (balloc (w1.alloc (.map #[] 0)) (.cells #[.pointer (some ⟨s, 0, none⟩), .slice none 0 0, .map (some w1.heap.size)] 75))
  refine ⟨w1.heap.size + 1, RpO (w1.heap.size + 1) w1.heap.size (.slice none 0 0) OS (fun _ => False), by simp, ⟨s, w1.heap.size, .slice none 0 0, OS, fun _ => False, ⟨?_, theFace.below hst hb2, ⟨[], World.ownsRow_nil _ _ _ _, fun i hi => absurd hi (by simp [emptyR])⟩, ⟨.map [], own_few ((World.ownsMap_made w1 Tryz.prog 9 (plainElem Tryz.prog 3)).alloc _) (by simp [Maps.size]), BrD.nil, rfl⟩, linked_empty, fun _ h => h.elim, ⟨fun h => by have := hown _ h; omega, fun h => by have := hown _ h; omega, by omega⟩, fun j hj => (by cases hj), fun _ h => h.elim⟩, fun _ => Iff.rfl⟩, bstep hb1 hb2, ?_⟩
  · show ((w1.heap.push _).push _)[w1.heap.size + 1]? = _
    rw [Array.getElem?_push, if_pos (by simp)]
  · rintro j (rfl | rfl | hj | hj | hj)
    · omega
    · omega
    · cases hj
    · exact hj.elim
    · exact hnew j hj

/-- commits in a new row, the parents' numbers in new memory -/
def ComNew (w0 w : World) (v : Value) (l : List Cm) : Prop := ∃ cs : List Value, w.ownsRow w0.heap.size 40 3 v l.length cs ∧ ∀ (i : Nat) (hi : i < l.length), ∃ a c, cs[i * 3]? = some (.slice a l[i].1.length c) ∧ cs[i * 3 + 1]? = some (.int .i64 l[i].2.1) ∧ cs[i * 3 + 2]? = some (.string ⟨l[i].2.2.toArray⟩) ∧ SlI w a l[i].1 ∧ l[i].1.length ≤ c ∧ (l[i].1 ≠ [] → ∀ d, a = some d → v.ownBlock ≠ some d.block)
theorem slI_lt {w : World} {a : Option Addr} {l : List Int} (h : SlI w a l) (hne : l ≠ []) {d : Addr} (hd : a = some d) : d.block < w.heap.size := by
  obtain ⟨b, o, e, h1⟩ := h hne
  rw [e] at hd
  cases hd
  exact World.block_lt_of_cell? w _ (h1 0 (List.length_pos_iff.2 hne))
theorem ComNew.nil (w0 w : World) : ComNew w0 w (.slice none 0 0) [] := ⟨[], World.ownsRow_nil _ _ _ _, fun i hi => absurd hi (by simp)⟩
theorem ComNew.below {w0 w w' : World} {v : Value} {l : List Cm} (h : ComNew w0 w v l) (hb : RowKit.Below w.heap.size w w') : ComNew w0 w' v l := by
  obtain ⟨cs, ho, h2⟩ := h
  refine ⟨cs, ownsO_below ho hb, fun i hi => ?_⟩
  obtain ⟨a, c, q1, q2, q3, q4, q5, q6⟩ := h2 i hi
  exact ⟨a, c, q1, q2, q3, q4.below hb, q5, q6⟩
theorem ComNew.push {w0 W W2 : World} {v : Value} {l : List Cm} {cs : List Value} {g cap : Nat} {a : Option Addr} {c : Nat} {ps : List Int} {y : Int} {t : List UInt8} (ho : W.ownsRow w0.heap.size 40 3 v l.length cs)
    (h2 : ∀ (i : Nat) (hi : i < l.length), ∃ a c, cs[i * 3]? = some (.slice a l[i].1.length c) ∧ cs[i * 3 + 1]? = some (.int .i64 l[i].2.1) ∧ cs[i * 3 + 2]? = some (.string ⟨l[i].2.2.toArray⟩) ∧ SlI W a l[i].1 ∧ l[i].1.length ≤ c ∧ (l[i].1 ≠ [] → ∀ d, a = some d → v.ownBlock ≠ some d.block))
    (hs : SlI W a ps) (hc : ps.length ≤ c) (ha : ps ≠ [] → ∀ d, a = some d → v.ownBlock ≠ some d.block) (hrow : W2.ownsRow w0.heap.size 40 3 (.slice (some ⟨g, 0, none⟩) (l.length + 1) cap) (l.length + 1) (cs ++ comCellsQ a c ps y t)) (hg : W.grownBy W2 v.ownBlock) (hat : v.ownBlock = some g ∨ W.heap.size ≤ g) :
    ComNew w0 W2 (.slice (some ⟨g, 0, none⟩) (l.length + 1) cap) (l ++ [(ps, y, t)]) := by
  have hcl : cs.length = l.length * 3 := ho.1
  have hgo : ∀ {x : Option Addr} {m : List Int}, SlI W x m → m ≠ [] → ∀ d, x = some d → v.ownBlock ≠ some d.block → g ≠ d.block := fun hx hm d hd hv e => by
    rcases hat with h | h
    · exact hv (by rw [← e]; exact h)
    · have := slI_lt hx hm hd; omega
  refine ⟨_, by rw [List.length_append]; exact hrow, fun i hi => ?_⟩
  simp only [List.length_append, List.length_singleton] at hi
  by_cases hil : i < l.length
  · obtain ⟨b, d, q1, q2, q3, q4, q5, q6⟩ := h2 i hil
    have e : (l ++ [(ps, y, t)])[i]'(by rw [List.length_append]; omega) = l[i] := List.getElem_append_left hil
    rw [e, List.getElem?_append_left (by omega), List.getElem?_append_left (by omega), List.getElem?_append_left (by omega)]
    refine ⟨b, d, q1, q2, q3, psl_keep q4 fun hne d hd => hg.block _ (slI_lt q4 hne hd) (fun e => q6 hne d hd e.symm), q5, fun hne d hd e => ?_⟩
    have e : some g = some d.block := e
    exact hgo q4 hne d hd (q6 hne d hd) (Option.some.inj e)
  · obtain rfl : i = l.length := by omega
    have e : (l ++ [(ps, y, t)])[l.length]'(by rw [List.length_append]; simp) = (ps, y, t) := by rw [List.getElem_append_right (Nat.le_refl _)]; simp
    rw [e, List.getElem?_append_right (by omega), List.getElem?_append_right (by omega), List.getElem?_append_right (by omega), hcl]
    rw [show l.length * 3 - l.length * 3 = 0 by omega, show l.length * 3 + 1 - l.length * 3 = 1 by omega, show l.length * 3 + 2 - l.length * 3 = 2 by omega]
    refine ⟨a, c, rfl, rfl, rfl, psl_keep hs fun hne d hd => hg.block _ (slI_lt hs hne hd) (fun e => ha hne d hd e.symm), hc, fun hne d hd e => ?_⟩
    have e : some g = some d.block := e
    exact hgo hs hne d hd (ha hne d hd) (Option.some.inj e)
/-- what is answered of commits -/
def ComsOut (w : World) (l : List Cm) (e : Ending) (w' : World) : Prop := ∃ ad ca, e = .returned (.slice ad l.length ca) ∧ l.length ≤ ca ∧ SlC w' ad l ∧ (∀ b o, ad = some ⟨b, o, none⟩ → ∀ i, i < l.length → ∀ a n c, w'.cell? ⟨b, o + i * 3, none⟩ = some (.slice a n c) → n ≤ c) ∧ RowKit.Below w.heap.size w w'
theorem ComNew.out {w0 w : World} {v : Value} {l : List Cm} (h : ComNew w0 w v l) (hb : RowKit.Below w0.heap.size w0 w) : ∃ ad ca, v = .slice ad l.length ca ∧ ComsOut w0 l (.returned (.slice ad l.length ca)) w := by
  obtain ⟨cs, ho, h2⟩ := h
  by_cases hn : 0 < l.length
  · obtain ⟨g, cap, rfl, hcap, hx⟩ := prow_at ho hn
    refine ⟨_, _, rfl, _, _, rfl, hcap, fun _ => ⟨g, 0, rfl, fun i hi => ?_⟩, fun b o e i hi a n c hc => ?_, hb⟩
    · obtain ⟨a, c, q1, q2, q3, q4, q5, q6⟩ := h2 i hi
      refine ⟨a, c, ?_, ?_, ?_, q4⟩
      · rw [Nat.zero_add]; exact hx _ _ q1
      · rw [Nat.zero_add]; exact hx _ _ q2
      · rw [Nat.zero_add]; exact hx _ _ q3
    · obtain ⟨a', c', q1, q2, q3, q4, q5, q6⟩ := h2 i hi
      cases e
      rw [Nat.zero_add, hx _ _ q1] at hc
      cases hc
      exact q5
  · have hl : l = [] := List.eq_nil_of_length_eq_zero (by omega)
    subst hl
    rcases ho.2 with ⟨rfl, _⟩ | ⟨g, cap, cur, rfl, _⟩
    · exact ⟨none, 0, rfl, none, 0, rfl, Nat.le_refl _, fun h => absurd rfl h, fun b o e => (by cases e), hb⟩
    · exact ⟨_, cap, rfl, _, cap, rfl, Nat.zero_le _, fun h => absurd rfl h, fun b o e i hi => absurd hi (by simp), hb⟩

set_option maxHeartbeats 4000000 in
set_option maxRecDepth 100000 in
theorem QCommits_any (w : World) (r s bm : Nat) (cv : Value) (OS P : Nat → Prop) (R : Rp) (h : RpW w r s bm cv OS P R) (hg : GoodR R) :
    Calls Tryz.prog 8 #[.pointer (some ⟨r, 0, none⟩)] w (ComsOut w R.coms) := by
  obtain ⟨ad, cap, rfl⟩ := h.com.form
  obtain ⟨c0, c1, c2, cf⟩ := h.cells
  have hlt := h.lt
  have HS := hideO h.here
  have hmx : R.coms.length ≤ 60 := hg.coms.1
  have HM := hideO (fun (c : Cm) (hc : c ∈ R.coms) => (show c.1.length ≤ 1000000 ∧ c.2.2.length ≤ 281474976710656 by
    obtain ⟨j, hj, rfl⟩ := List.getElem_of_mem hc
    have := hg.coms.2 j hj
    unfold comN at this
    split at this
    · cases this
    · rename_i h9
      have h8 : ¬ msgN R.coms[j].2.2 = 4 := fun e => h9 (Or.inr e)
      unfold msgN at h8
      split at h8
      · exact absurd rfl h8
      · omega))
  obtain ⟨i0, hi0, hz⟩ := Option.map_eq_some_iff.1 infoCmQ
  simp only [Prod.mk.injEq] at hz
  obtain ⟨hz0, hz1, hz2⟩ := hz
  clear h hg
  generalize R.coms = l at *
  go_enter Tryz.func8, Tryz.ntmps8
  go_wp2_with fail
  go_loopw [3, 11] (fun v i wr => ∃ (k : Nat), k ≤ l.length ∧ i = .int .i64 k ∧ RowKit.Below w.heap.size w wr ∧ Hid (ComNew w wr v (l.take k))) (fun _ i wr => l.length - (intOf i).toNat)
  case atStart => exact ⟨0, Nat.zero_le _, rfl, RowKit.Below.refl _ w, ComNew.nil w w⟩
  case round =>
    obtain ⟨k, hk, rfl, hbr, hN⟩ := hrel
    by_cases hltk : k < l.length
    · obtain ⟨b, a, c, rfl, q0, q1, q2, q3, q4⟩ := HS.out wr hbr k hltk
      have i0' : (0 : Int) ≤ (k : Int) := by omega
      have i1 : (k : Int) < (l.length : Int) := by omega
      obtain ⟨hm1, hm2⟩ := HM.out _ (List.getElem_mem hltk)
      have htk : Hid (l.take (k + 1) = l.take k ++ [l[k]]) := List.take_succ_eq_append_getElem hltk
      have hlk : Hid ((l.take k).length = k) := by show _ = _; rw [List.length_take]; omega
      have Q3 := hideO q3
      clear q3 q4
      generalize l[k] = z at *
      obtain ⟨ps, y, m⟩ := z
      dsimp only at *
      have hba := balloc wr (.cells #[.slice a ps.length c, .int .i64 y, .string ⟨m.toArray⟩] 40)
      have HF := Qfresh_any a c ps y m _ (Q3.out.below hba) hm1 hm2
      have hlo : Hid (∀ j, u3.ownBlock = some j → j < wr.heap.size) := fun j hj => by
        obtain ⟨cs0, ho0, _⟩ := hN.out
        exact (ho0.lt j hj).2
      have hzw := hbr.size
      go_wp2_with (first
        | (go_at_call 25; refine HF.mono ?_; rintro e w3 ⟨a5, c5, rfl, hN5⟩; dsimp only; have hb3 := bstep (bstep hba hN5.2.2.2) (balloc w3 (.cells #[.slice a5 ps.length c5, .int .i64 y, .string ⟨m.toArray⟩] 40)); obtain ⟨cs, ho, h2⟩ := hN.out.below hb3; have HO := hideO ho; have H2 := hideO h2; have HB3 := hideO hb3; have HN5 := hideO hN5; clear ho h2 hN hb3 hba hN5)
        | (at_builtin; refine wpList_append_lies _ rfl _ _ 34 rfl w.heap.size 40 i0 (.agg #[.slice none 0 0, .int .i64 0, .string ⟨#[]⟩]) 3 48 Tryz.underlying34 hi0 hz0 hz1 hz2 rfl (by decide) u3 _ cs rfl HO.out ⟨w3.heap.size, 0, none⟩ 1 1 (comCellsQ a5 c5 ps y m) rfl rfl (newCmQ w3 a5 c5 ps y m) (by simp [comCellsQ, Value.oneCell']) (by decide) (by rw [hlk.out]; unfold maxLen; omega) (by rw [hlk.out]; omega) (by have := HB3.out.size; omega) _ rfl ?_; intro g cp w9 g1 g2 g3 g4; have hp := hideO (ComNew.push HO.out H2.out (HN5.out.1.below (balloc w3 _)) HN5.out.2.1 (fun hne d hd e => by have h7 := hlo.out _ e; have h8 := HN5.out.2.2.1 hne d hd; simp at h8; omega) g1 g2 (g3.imp id (fun e => by rw [e]; exact Nat.le_refl _))); have hb9 := hideO ((bstep hbr HB3.out).grown g2 (bstep hbr HB3.out).size (fun j e => (HO.out.lt j e).1)); clear g1 g2 g3 g4 HO H2))
      go_roundw
      case rel => exact ⟨k + 1, by omega, by go_num, hb9.out, by show ComNew _ _ _ _; rw [htk.out]; have := hp.out; rw [hlk.out] at this; exact this⟩
      case measure => simp [intOf]; omega
    · have hkk : k = l.length := by omega
      subst hkk
      have hfin : ComNew w wr u3 l := by have := hN.out; rw [List.take_length] at this; exact this
      obtain ⟨ad', ca', rfl, hout⟩ := hfin.out hbr
      have HOut := hideO hout
      clear hout hN hfin HS HM
      go_wp2_with fail
      go_ret
      exact HOut.out
end Go.Proofs.YtaddfndohoppeaaGreat

/- repo's Refs: the branches by name. -/
namespace Go.Proofs.YtaddfndohoppeaaGreat
open Go Go.RowKit Go.Proofs Go.Maps Go.Sort Go.Shelf
set_option synthInstance.maxSize 1000

end Go.Proofs.YtaddfndohoppeaaGreat

/- The program's repo keeps the face's contracts. -/
namespace Go.Proofs.YtaddfndohoppeaaGreat
open Go Go.RowKit Go.Proofs Go.Maps
set_option synthInstance.maxSize 1000

theorem RpTo.at_ {w w' : World} {r s bm : Nat} {cv : Value} {OS P O : Nat → Prop} {R' : Rp} (h : RpTo w r s bm cv OS P R' w') (hO : ∀ j, O j ↔ RpO r bm cv OS P j) : ∃ O' : Nat → Prop, RepAt w' r O' R' ∧ Offs O w w' ∧ ∀ j, O' j → O j ∨ w.heap.size ≤ j := by
  obtain ⟨cv', OS', P', h1, h2, h3⟩ := h
  exact ⟨RpO r bm cv' OS' P', ⟨s, bm, cv', OS', P', h1, fun _ => Iff.rfl⟩, h2.mono fun j hj => Or.inl ((hO j).2 hj), fun j hj => (h3 j hj).imp (hO j).2 id⟩
def theRepo : RFace := {
  lim := reachBytes
  At := RepAt
  own := by
    rintro w r O R ⟨s, bm, cv, OS, P, h, hO⟩ j hj
    exact h.own j ((hO j).1 hj)
  keep := by
    rintro w w' r O R ⟨s, bm, cv, OS, P, h, hO⟩ hk
    exact ⟨s, bm, cv, OS, P, h.keep fun j hj => hk j ((hO j).2 hj), hO⟩
  new := QNew_any
  commit := by
    rintro w r O R b ad ca S t ⟨s, bm, cv, OS, P, h, hO⟩ hg hS hb ht
    refine (QCommit_any w r s bm cv OS P R b ad ca S t h hg hb hS.sl hS.fit hS.len ht).mono ?_
    rintro e w' ⟨rfl, hto⟩
    exact ⟨rfl, hto.at_ hO⟩
  graph := by
    rintro w r O R a ⟨s, bm, cv, OS, P, h, hO⟩ hg
    exact QGraph_any w r s bm cv OS P R a h hg
  commits := by
    rintro w r O R ⟨s, bm, cv, OS, P, h, hO⟩ hg
    exact QCommits_any w r s bm cv OS P R h hg
  object := by
    rintro w r O R id ⟨s, bm, cv, OS, P, h, hO⟩ hg
    exact QObject_any w r s bm cv OS P R id h hg
}
theorem theRepo_lim : theRepo.lim = reachBytes := rfl
end Go.Proofs.YtaddfndohoppeaaGreat
