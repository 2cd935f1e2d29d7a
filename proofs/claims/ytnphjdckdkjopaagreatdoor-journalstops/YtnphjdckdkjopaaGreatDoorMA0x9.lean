import Derived.Test.YtnphjdckdkjopaaGreatDoorMA0x8
import Derived.Test.YtnphjdckdkjopaaGreatDoorMA0x6
import Derived.Deep.RegionLaw
import Derived.Test.YtnphjdckdkjopaaGreatDoorMA0x0
import Derived.Laws.IdiomStrings
import Derived.BigQuiet
import Derived.Deep.QuietTactic
import Derived.Test.YtnphjdckdkjopaaGreatDoorMA0x5
import Derived.Deep.AppendLies

/- repo's start and Graph: a commit's graph, out of the layers above it. -/
namespace Go.Proofs.YtnphjdckdkjopaaGreatDoor
open Go Go.RowKit Go.Proofs Go.Maps
set_option synthInstance.maxSize 1000

attribute [local go_sem] eql_errV neq_errV guard_errV

def GraphOk (r s bm : Nat) (cv : Value) (OS P : Nat → Prop) (R : Rp) (k : Nat) : Prop :=
  ∀ W, RpW W r s bm cv OS P R → Calls Tryz.prog 40 #[.pointer (some ⟨r, 0, none⟩), .int .i64 (k : Int)] W (TOk W ((R.gr[k]?).getD []))

theorem Qstart_any (w : World) (r s bm : Nat) (cv : Value) (OS P : Nat → Prop) (R : Rp) (pd : Option Addr) (pc : Nat) (ps : List Int) (h : RpW w r s bm cv OS P R) (hs : SlI w pd ps) (hl : ps.length ≤ maxLen) (hp : ∀ p ∈ ps, 0 ≤ p) (IH : ∀ p : Nat, (p : Int) ∈ ps → GraphOk r s bm cv OS P R p) :
    Calls Tryz.prog 89 #[.pointer (some ⟨r, 0, none⟩), .slice pd ps.length pc] w (TOk w (fromR R ps)) := by
  cases ps with
  | nil =>
    have fin : Hid (∀ w', RowKit.Below w.heap.size w w' → TOk w (fromR R []) (.returned (.tuple #[.slice none 0 0, .nilIface])) w') := fun w' hb => ⟨hb, none, 0, rfl, fun h => absurd rfl h⟩
    clear h hs hl hp IH
    generalize fromR R [] = m at *
    rw [show ([] : List Int).length = 0 from rfl]
    go_enter Tryz.func89, Tryz.ntmps89
    go_wp2_with fail
    exact bodyPost_ret (v := .tuple #[.slice none 0 0, .nilIface]) (by unfold results; rw [Tryz.results89]; go_simp) rfl (fin.out _ (RowKit.Below.refl _ _))
  | cons p t =>
    obtain ⟨q, rfl⟩ := Int.eq_ofNat_of_zero_le (hp p (by simp))
    obtain ⟨b, o, rfl, hc⟩ := hs.at (j := 0) (by simp)
    have H := IH q (by simp) w h
    have e : fromR R ((q : Int) :: t) = (R.gr[q]?).getD [] := by simp [fromR]
    rw [e]
    simp only [List.getElem_cons_zero, Nat.add_zero] at hc
    obtain ⟨n, hn⟩ : ∃ n : Nat, ((q : Int) :: t).length = n := ⟨_, rfl⟩
    have hn0 : 0 < n := by rw [← hn]; simp
    have h0 : ((n : Int) == 0) = false := by simp; omega
    have h1 : (0 : Int) < (n : Int) := by omega
    rw [hn] at hl ⊢
    unfold maxLen at hl
    clear hn h hs hp IH e
    generalize (R.gr[q]?).getD [] = m at *
    go_enter Tryz.func89, Tryz.ntmps89
    go_wp2_with (go_at_call 40; refine H.mono ?_; rintro e w1 ⟨hb1, a1, c1, rfl, hs1⟩; dsimp only)
    exact bodyPost_ret (v := .tuple #[.slice a1 m.length c1, .nilIface]) (by unfold results; rw [Tryz.results89]; go_simp) rfl ⟨hb1, a1, c1, rfl, hs1⟩

set_option maxHeartbeats 4000000 in
set_option maxRecDepth 100000 in
theorem Qgr_any (w : World) (r s bm : Nat) (cv : Value) (OS P : Nat → Prop) (R : Rp) (pd : Option Addr) (pc : Nat) (ps : List Int) (g : List Tr) (h : RpW w r s bm cv OS P R) (hg : GoodR R) (hs : SlI w pd ps) (hl : ps.length ≤ maxLen) (hp : ∀ p ∈ ps, 0 ≤ p) (sg : IsSet g) (IH : ∀ p : Nat, (p : Int) ∈ ps → GraphOk r s bm cv OS P R p) :
    Calls Tryz.prog 64 #[.pointer (some ⟨r, 0, none⟩), .slice pd ps.length pc, .string ⟨(bytesR R ps g).toArray⟩] w (TOk w g) := by
  have HS := Qstart_any w r s bm cv OS P R pd pc ps h hs hl hp IH
  obtain ⟨r1, r2, r3⟩ := bytes_read hg (ps := ps) sg
  have HR := fun W => ReadLayer_any (bytesR R ps g) W
  rw [r1, r2, r3] at HR
  have HA := fun W sd a1 a2 cs c1 c2 h0 h1 h2 => ApplyGood_any sd a1 a2 cs c1 c2 (fromR R ps) g W h0 h1 h2 (pfrom_set hg ps) sg
  clear r1 r2 r3 h hg hs hl hp sg IH
  generalize bytesR R ps g = B at *
  generalize lessL g (fromR R ps) = A at *
  generalize lessL (fromR R ps) g = D at *
  generalize fromR R ps = f at *
  go_enter Tryz.func64, Tryz.ntmps64
  go_wp2_with fail
  refine HS.mono ?_
  rintro e w3 ⟨hb2, sd, sc, rfl, hs2⟩
  dsimp only
  have hB3 := hideO hb2
  have hS3 := hideO hs2
  clear HS hb2 hs2
  go_wp2_with fail
  refine (HR _).mono ?_
  rintro e w4 ⟨hb4, a1, n1, a2, n2, rfl, hx1, hx2⟩
  rw [show errV 0 = Value.nilIface from rfl]
  dsimp only
  have hB4 := hideO (bstep hB3.out hb4)
  have hS4 := hideO (hS3.out.below hb4)
  have hX1 := hideO hx1
  have hX2 := hideO hx2
  clear HR hb4 hS3 hB3 hx1 hx2
  go_wp2_with fail
  have hba := balloc w4 (.cells #[.slice a1 A.length n1, .slice a2 D.length n2] 162)
  refine (HA _ sd a1 a2 sc n1 n2 (hS4.out.below hba) (hX1.out.below hba) (hX2.out.below hba)).mono ?_
  rintro e w5 ⟨hb5, am, cm, rfl, hm5⟩
  dsimp only
  have hB5 := hideO (bstep (bstep hB4.out hba) hb5)
  have hM5 := hideO hm5
  clear HA hb5 hba hm5 hB4 hX1 hX2 hS4
  go_wp2_with fail
  exact bodyPost_ret (v := .tuple #[.slice am g.length cm, .nilIface]) (by unfold results; rw [Tryz.results64]; go_simp) rfl ⟨hB5.out, am, cm, rfl, hM5.out⟩

set_option maxHeartbeats 4000000 in
set_option maxRecDepth 100000 in
theorem graph_ok (r s bm : Nat) (cv : Value) (OS P : Nat → Prop) (R : Rp) (hg : GoodR R) : ∀ k, k < R.coms.length → GraphOk r s bm cv OS P R k := by
  intro k
  induction k using Nat.strongRecOn with
  | ind k ih =>
    intro hk w h
    obtain ⟨c, g, hc, hgr, sg, hpar⟩ := gr_at hg hk
    have eG : (R.gr[k]?).getD [] = g := by rw [hgr]; rfl
    rw [eG]
    have hin : inR R (k : Int) = true := inR_iff.2 ⟨by omega, by omega⟩
    have hlk := h.link k c g hc hgr
    have eB : getB R.L c.2.1 = bytesR R c.1 g := by unfold getB; rw [hlk]; rfl
    have eE : getE R.L c.2.1 = 0 := by unfold getE; rw [hlk]; rfl
    have HH := Qhas_any w r s bm cv OS P R (k : Int) h
    rw [hin] at HH
    have HO := fun W hW => QObject_any W r s bm cv OS P R c.2.1 (h.below hW) hg
    rw [eB, eE] at HO
    have hpl : c.1.length ≤ maxLen := by
      have hd := hg.coms.2 k hk
      have e : R.coms[k] = c := (List.getElem?_eq_some_iff.1 hc).2
      rw [e] at hd
      unfold comN at hd
      split at hd
      · cases hd
      · rename_i h9
        unfold maxLen
        omega
    have HG := fun W hW pd pc hs => Qgr_any W r s bm cv OS P R pd pc c.1 g (h.below hW) hg hs hpl (fun p hp => (hpar p hp).1) sg (fun p hp => ih p (by have := hpar _ hp; omega) (by have := hpar _ hp; omega))
    have HC := hideO (fun W (hW : RowKit.Below w.heap.size w W) => ((h.below hW).com.at_ hc))
    have HL := hideO (fun W (hW : RowKit.Below w.heap.size w W) => ((h.below hW).cells))
    have hlt := h.lt
    have hmx : R.coms.length ≤ 60 := hg.coms.1
    generalize bytesR R c.1 g = B at *
    obtain ⟨ps, y, m⟩ := c
    dsimp only at *
    obtain ⟨gb, cap, _, _, rfl, _⟩ := HC.out w (RowKit.Below.refl _ _)
    clear ih h hg hc hgr eG hin hlk eB eE hpar hpl sg
    obtain ⟨n, hn⟩ : ∃ n : Nat, R.coms.length = n := ⟨_, rfl⟩
    rw [hn] at HC HL hk hmx
    have i0 : (0 : Int) ≤ (k : Int) := by omega
    have i1 : (k : Int) < (n : Int) := by omega
    clear hn
    go_enter Tryz.func40, Tryz.ntmps40
    go_wp2_with fail
    refine HH.mono ?_
    rintro e w1 ⟨rfl, hb1⟩
    dsimp only
    obtain ⟨k0, k1, k2, kf⟩ := HL.out _ hb1
    obtain ⟨g', cap', a, ca, e1, q0, q1, q2, q3, q4⟩ := HC.out _ hb1
    obtain ⟨rfl, rfl⟩ : gb = g' ∧ cap = cap' := by simpa using e1
    clear HH HC HL
    have z1 : r < w1.heap.size := by have := hb1.size; omega
    have zg := World.block_lt_of_cell? _ _ q0
    have hQ3 := hideO q3
    have hB1 := hideO hb1
    clear q3 hb1 e1 kf
    go_wp2_with fail
    have hba := balloc w1 (.cells #[.slice a ps.length ca, .int .i64 y, .string ⟨m.toArray⟩] 113)
    refine (HO _ (bstep hB1.out hba)).mono ?_
    rintro e w2 ⟨rfl, hb2⟩
    rw [show errV 0 = Value.nilIface from rfl]
    dsimp only
    have kb0 : w2.cell? ⟨w1.heap.size, 0, none⟩ = some (.slice a ps.length ca) := by rw [(bcell hb2).1 _ _ (by simp)]; go_simp
    have zb1 := World.block_lt_of_cell? _ _ kb0
    have hB2 := hideO (bstep (bstep hB1.out hba) hb2)
    have hS2 := hideO ((hQ3.out.below hba).below hb2)
    clear HO hb2 hba hQ3 hB1 q0 q1 q2 k0 k1 k2 zg z1
    go_wp2_with fail
    refine (HG _ hB2.out a ca hS2.out).mono ?_
    rintro e w5 ⟨hb5, am, cm, rfl, hm5⟩
    dsimp only
    have hB5 := hideO (bstep hB2.out hb5)
    have hM5 := hideO hm5
    clear HG hb5 hm5 hB2 hS2 kb0 zb1
    go_wp2_with fail
    exact bodyPost_ret (v := .tuple #[.slice am g.length cm, .nilIface]) (by unfold results; rw [Tryz.results40]; go_simp) rfl ⟨hB5.out, am, cm, rfl, hM5.out⟩

theorem QGraph_any (w : World) (r s bm : Nat) (cv : Value) (OS P : Nat → Prop) (R : Rp) (a : Int) (h : RpW w r s bm cv OS P R) (hg : GoodR R) :
    Calls Tryz.prog 40 #[.pointer (some ⟨r, 0, none⟩), .int .i64 a] w fun e w' => ∃ ad ca, e = .returned (.tuple #[.slice ad (graphL R a).length ca, errV (graphE R a)]) ∧ SlT w' ad (graphL R a) ∧ RowKit.Below w.heap.size w w' := by
  cases hin : inR R a with
  | true =>
    obtain ⟨h0, h1⟩ := inR_iff.1 hin
    obtain ⟨k, rfl⟩ := Int.eq_ofNat_of_zero_le h0
    have e1 : graphL R (k : Int) = (R.gr[k]?).getD [] := by unfold graphL; rw [if_pos hin]; simp
    have e2 : graphE R (k : Int) = 0 := by unfold graphE; rw [if_pos hin]
    rw [e1, e2]
    refine (graph_ok r s bm cv OS P R hg k (by omega) w h).mono ?_
    rintro e w' ⟨hb, ad, ca, rfl, hs⟩
    exact ⟨ad, ca, rfl, hs, hb⟩
  | false =>
    have e1 : graphL R a = [] := by unfold graphL; rw [if_neg (by rw [hin]; decide)]
    have e2 : graphE R a = 1 := by unfold graphE; rw [if_neg (by rw [hin]; decide)]
    rw [e1, e2]
    have HH := Qhas_any w r s bm cv OS P R a h
    rw [hin] at HH
    have fin : Hid (∀ w', RowKit.Below w.heap.size w w' → ∃ ad ca, Ending.returned (.tuple #[.slice none 0 0, .iface 72 (.int .i64 1)]) = .returned (.tuple #[.slice ad ([] : List Tr).length ca, errV 1]) ∧ SlT w' ad [] ∧ RowKit.Below w.heap.size w w') := fun w' hb => ⟨none, 0, rfl, fun h => absurd rfl h, hb⟩
    clear h hg hin e1 e2
    go_enter Tryz.func40, Tryz.ntmps40
    go_wp2_with fail
    refine HH.mono ?_
    rintro e w1 ⟨rfl, hb1⟩
    dsimp only
    go_wp2_with fail
    exact bodyPost_ret (v := .tuple #[.slice none 0 0, .iface 72 (.int .i64 1)]) (by unfold results; rw [Tryz.results40]; go_simp) rfl (fin.out _ hb1)
end Go.Proofs.YtnphjdckdkjopaaGreatDoor

/- repo's point, Branch, Move, Drop. -/
namespace Go.Proofs.YtnphjdckdkjopaaGreatDoor
open Go Go.RowKit Go.Proofs Go.Maps
set_option synthInstance.maxSize 1000

attribute [local go_sem] eql_errV neq_errV guard_errV

/-- the branches have turned -/
theorem RpW.turn {w w' : World} {r s bm : Nat} {cv : Value} {OS P : Nat → Prop} {R : Rp} {l : List Rf} (h : RpW w r s bm cv OS P R) (hm : BrMap w' bm l) (hg : w.grownBy w' (some bm)) : RpW w' r s bm cv OS P ⟨R.n, R.L, R.coms, R.gr, l⟩ ∧ Offs (RpO r bm cv OS NoP) w w' := by
  have hb : ∀ j, j < w.heap.size → j ≠ bm → w'.heap[j]? = w.heap[j]? := fun j h1 h2 => hg.block j h1 (by simp; exact h2)
  obtain ⟨a1, a2, a3⟩ := h.ap1
  refine ⟨⟨(hb r h.lt a3).trans h.blk, theFace.keep h.st fun j hj => hb j (theFace.own h.st j hj) (fun e => a2 (e ▸ hj)), h.com.keep (fun j hj => hb j (h.own j (Or.inr (Or.inr (Or.inl hj)))) (h.ap2 j hj).2.2.1) (fun j hj => hb j (h.plt j hj) (h.ap3 j hj).2.2), hm, h.link.same rfl rfl rfl, fun j hj => Nat.lt_of_lt_of_le (h.plt j hj) hg.size, h.ap1, h.ap2, h.ap3⟩, Offs.of_grown hg fun k e => by cases e; exact Or.inr (Or.inl rfl)⟩

set_option maxHeartbeats 1000000 in
theorem Qpoint_any (w : World) (r s bm : Nat) (cv : Value) (OS P : Nat → Prop) (R : Rp) (b : List UInt8) (t : Nat) (h : RpW w r s bm cv OS P R) (hn : ByName R.refs) (hf : (leadR R.refs b t).length ≤ 8) (hb : b.length ≤ reachBytes) (ht : t ≤ 1000000) :
    Calls Tryz.prog 97 #[.pointer (some ⟨r, 0, none⟩), .string ⟨b.toArray⟩, .int .i64 (t : Int)] w fun e w' => e = .returned (.tuple #[]) ∧ RpW w' r s bm cv OS P (leadTo R b t) ∧ Offs (RpO r bm cv OS NoP) w w' := by
  have hml : b.length ≤ maxLen := by unfold reachBytes at hb; unfold maxLen; omega
  have hcl : b.length ≤ 281474976710656 := by unfold reachBytes at hb; omega
  have hw1 : (Lit.int .i64 (t : Int)).wf = true := wfO (by omega) (by omega)
  have K : Hid (∀ W, RowKit.Below w.heap.size w W → ∃ W', (Instr.mapUpdate 82 (.map (some bm)) (.string ⟨b.toArray⟩) (.int .i64 (t : Int))).run Tryz.prog W = .ok () W' ∧ RpW W' r s bm cv OS P (leadTo R b t) ∧ Offs (RpO r bm cv OS NoP) w W') := fun W hW => by
    have hR := h.below hW
    obtain ⟨D, o1, f1, hs⟩ := hR.map
    obtain ⟨W4, hr4, o4, g4⟩ := o1.update keyedSO Tryz.underlying82 (by unfold maxLen; omega) (keyS b hml) (plainElem_int Tryz.underlying3 hw1)
    have hsz := f1.size_put (o1.tidy keyedSO) hn hml t hs
    obtain ⟨q1, q2⟩ := hR.turn (l := leadR R.refs b t) ⟨_, own_few o4 (by rw [hsz]; omega), f1.put o1.isMap hn hml t, hsz⟩ g4
    exact ⟨W4, hr4, q1, (Offs.of_below hW).trans q2 fun j hj => Or.inl hj⟩
  obtain ⟨c0, c1, c2, cf⟩ := h.cells
  have hlt := h.lt
  have HC := fun W (hW : RowKit.Below w.heap.size w W) => (h.below hW).cells
  clear h hn hf hb hml hw1 ht
  go_enter Tryz.func97, Tryz.ntmps97
  go_wp2_with fail
  go_region_law (go_simp; go_at_call 30; refine (SClone_any b _ hcl).mono ?_; rintro e w1 ⟨rfl, hb1'⟩; dsimp only; have hb1 : RowKit.Below w.heap.size w w1 := (RowKit.Below.refl _ w).drew.trans hb1'; obtain ⟨k0, k1, k2, kf⟩ := HC _ hb1; obtain ⟨W4, hr4, q1, q2⟩ := K.out _ hb1; have Q1 := hideO q1; have Q2 := hideO q2; clear q1 q2; have hlt1 : r < w1.heap.size := (by have := hb1.size; omega))
  all_goals go_wp2_with fail
  all_goals go_end0
  all_goals exact ⟨rfl, Q1.out, Q2.out⟩
end Go.Proofs.YtnphjdckdkjopaaGreatDoor

/- Bases in plain words: of those that two have, the ones that no other one of them comes of. -/
namespace Go.Proofs.YtnphjdckdkjopaaGreatDoor
open Go Go.RowKit Go.Proofs
set_option synthInstance.maxSize 1000

def isBase (l : List Cm) (a b z : Nat) : Prop := Up l a z ∧ Up l b z ∧ ∀ c, Up l a c → Up l b c → c ≠ z → ¬ Up l c z
def dbothN (x y : List Nat) : List Nat := x.filter fun k => decide (k ∈ y)
theorem both_next {x y : List Nat} {k : Nat} (hk : k < x.length) : dbothN (x.take (k + 1)) y = dbothN (x.take k) y ++ if x[k] ∈ y then [x[k]] else [] := by
  unfold dbothN
  rw [List.take_succ_eq_append_getElem hk, List.filter_append, List.filter_cons]
  simp
theorem both_rise {x y : List Nat} (h : RiseN x) : RiseN (dbothN x y) := List.Pairwise.filter _ h
theorem both_len (x y : List Nat) : (dbothN x y).length ≤ x.length := List.length_filter_le _ _
/-- below: another one of the list comes of number q of it -/
def belowP (l : List Cm) (t : List Nat) (q m : Nat) : Prop := ∃ r, r < m ∧ r ≠ q ∧ Up l (t.getD r 0) (t.getD q 0)
theorem below_next {l : List Cm} {t : List Nat} {q m : Nat} : belowP l t q (m + 1) ↔ belowP l t q m ∨ (m ≠ q ∧ Up l (t.getD m 0) (t.getD q 0)) := by
  constructor
  · rintro ⟨r, h1, h2, h3⟩
    rcases (by omega : r < m ∨ r = m) with h | rfl
    · exact Or.inl ⟨r, h, h2, h3⟩
    · exact Or.inr ⟨h2, h3⟩
  · rintro (⟨r, h1, h2, h3⟩ | ⟨h2, h3⟩)
    · exact ⟨r, by omega, h2, h3⟩
    · exact ⟨m, by omega, h2, h3⟩
/-- what is told as far as i -/
def OutsTo (l : List Cm) (t : List Nat) (i : Nat) (m : List Nat) : Prop := RiseN m ∧ m.length ≤ i ∧ ∀ z, z ∈ m ↔ ∃ q, q < i ∧ q < t.length ∧ z = t.getD q 0 ∧ ¬ belowP l t q t.length
theorem OutsTo.nil (l : List Cm) (t : List Nat) : OutsTo l t 0 [] := ⟨List.Pairwise.nil, by simp, fun z => ⟨fun h => by simp at h, fun ⟨q, h, _⟩ => by omega⟩⟩
theorem rise_get {t : List Nat} (h : RiseN t) {p q : Nat} (hpq : p < q) (hq : q < t.length) : t.getD p 0 < t.getD q 0 := by
  rw [List.getD_eq_getElem?_getD, List.getD_eq_getElem?_getD, List.getElem?_eq_getElem hq, List.getElem?_eq_getElem (show p < t.length by omega)]
  exact List.pairwise_iff_getElem.1 h p q (by omega) hq hpq
theorem OutsTo.skip {l : List Cm} {t : List Nat} {i : Nat} {m : List Nat} (h : OutsTo l t i m) (hb : belowP l t i t.length) : OutsTo l t (i + 1) m := by
  refine ⟨h.1, by have := h.2.1; omega, fun z => ?_⟩
  rw [h.2.2 z]
  constructor
  · rintro ⟨q, h1, h2⟩; exact ⟨q, by omega, h2⟩
  · rintro ⟨q, h1, h2, h3, h4⟩
    rcases (by omega : q < i ∨ q = i) with h5 | rfl
    · exact ⟨q, h5, h2, h3, h4⟩
    · exact absurd hb h4
theorem OutsTo.more {l : List Cm} {t : List Nat} {i : Nat} {m : List Nat} (h : OutsTo l t i m) (ht : RiseN t) (hi : i < t.length) (hb : ¬ belowP l t i t.length) : OutsTo l t (i + 1) (m ++ [t.getD i 0]) := by
  refine ⟨List.pairwise_append.2 ⟨h.1, List.pairwise_singleton _ _, fun x hx y hy => ?_⟩, by have := h.2.1; simp; omega, fun z => ?_⟩
  · rw [List.mem_singleton.1 hy]
    obtain ⟨q, h1, _, rfl, _⟩ := (h.2.2 x).1 hx
    exact rise_get ht h1 hi
  · rw [List.mem_append, h.2.2 z, List.mem_singleton]
    constructor
    · rintro (⟨q, h1, h2⟩ | rfl)
      · exact ⟨q, by omega, h2⟩
      · exact ⟨i, by omega, hi, rfl, hb⟩
    · rintro ⟨q, h1, h2, h3, h4⟩
      rcases (by omega : q < i ∨ q = i) with h5 | rfl
      · exact Or.inl ⟨q, h5, h2, h3, h4⟩
      · exact Or.inr h3
theorem outs_base {l : List Cm} {a b : Nat} {x y m : List Nat} (hx : RiseN x) (ux : ∀ k, k ∈ x ↔ Up l a k) (uy : ∀ k, k ∈ y ↔ Up l b k) (h : OutsTo l (dbothN x y) (dbothN x y).length m) : ∀ z, z ∈ m ↔ isBase l a b z := by
  have hm : ∀ z, z ∈ dbothN x y ↔ Up l a z ∧ Up l b z := fun z => by
    unfold dbothN
    rw [List.mem_filter, ux, decide_eq_true_eq, uy]
  have ht := both_rise (y := y) hx
  have hmem : ∀ q, q < (dbothN x y).length → (dbothN x y).getD q 0 ∈ dbothN x y := fun q hq => by
    rw [List.getD_eq_getElem?_getD, List.getElem?_eq_getElem hq]
    exact List.getElem_mem hq
  have hidx : ∀ z ∈ dbothN x y, ∃ q, q < (dbothN x y).length ∧ (dbothN x y).getD q 0 = z := fun z hz => by
    obtain ⟨q, hq, e⟩ := List.getElem_of_mem hz
    exact ⟨q, hq, by rw [List.getD_eq_getElem?_getD, List.getElem?_eq_getElem hq]; exact e⟩
  intro z
  rw [h.2.2 z]
  constructor
  · rintro ⟨q, _, hq, rfl, hb⟩
    obtain ⟨h1, h2⟩ := (hm _).1 (hmem q hq)
    refine ⟨h1, h2, fun c hca hcb hne hu => hb ?_⟩
    obtain ⟨r, hr, rfl⟩ := hidx c ((hm c).2 ⟨hca, hcb⟩)
    exact ⟨r, hr, fun e => hne (by rw [e]), hu⟩
  · rintro ⟨h1, h2, h3⟩
    obtain ⟨q, hq, rfl⟩ := hidx z ((hm z).2 ⟨h1, h2⟩)
    refine ⟨q, hq, hq, rfl, ?_⟩
    rintro ⟨r, hr, hne, hu⟩
    obtain ⟨h4, h5⟩ := (hm _).1 (hmem r hr)
    refine h3 _ h4 h5 (fun e => ?_) hu
    rcases (by omega : r < q ∨ q < r) with h6 | h6
    · have := rise_get ht h6 hq; omega
    · have := rise_get ht h6 hr; omega
end Go.Proofs.YtnphjdckdkjopaaGreatDoor

/- A dag's face: what the laws ask of the program's dag, whatever it is made of. -/
namespace Go.Proofs.YtnphjdckdkjopaaGreatDoor
open Go Go.RowKit Go.Proofs
set_option synthInstance.maxSize 1000

def natI (m : List Nat) : List Int := m.map fun k : Nat => (k : Int)
theorem natI_len (m : List Nat) : (natI m).length = m.length := by simp [natI]
theorem natI_inj {m q : List Nat} (h : natI m = natI q) : m = q := by
  induction m generalizing q with
  | nil => cases q with
    | nil => rfl
    | cons b r => simp [natI] at h
  | cons a s ih => cases q with
    | nil => simp [natI] at h
    | cons b r =>
      simp only [natI, List.map_cons, List.cons.injEq] at h
      rw [show a = b by omega, ih h.2]
/-- commits in a list that a caller holds -/
structure ComsOK (w : World) (ad : Option Addr) (ca : Nat) (l : List Cm) : Prop where
  sl : SlC w ad l
  cap : l.length ≤ ca
  len : l.length ≤ maxLen
  pars : ∀ c ∈ l, c.1.length ≤ maxLen
  msg : ∀ c ∈ l, c.2.2.length ≤ maxLen
  caps : ∀ b o, ad = some ⟨b, o, none⟩ → ∀ i, i < l.length → ∀ a n c, w.cell? ⟨b, o + i * 3, none⟩ = some (.slice a n c) → n ≤ c
theorem ComsOK.below {w w' : World} {ad : Option Addr} {ca : Nat} {l : List Cm} (h : ComsOK w ad ca l) (hb : RowKit.Below w.heap.size w w') : ComsOK w' ad ca l := by
  refine ⟨h.sl.below hb, h.cap, h.len, h.pars, h.msg, fun b o e i hi a n c hc => h.caps b o e i hi a n c ?_⟩
  obtain ⟨b', o', a', c', e', h2, _⟩ := h.sl.at hi
  rw [e] at e'
  cases e'
  rw [← hb.cell (p := ⟨b, o + i * 3, none⟩) (World.block_lt_of_cell? w _ h2)]
  exact hc

def ancE (l : List Cm) (i : Int) : Int := if (comsN l).2 ≠ 0 then (comsN l).2 else if 0 ≤ i ∧ i < l.length then 0 else 1
def twoE (l : List Cm) (a b : Int) : Int := if ancE l a ≠ 0 then ancE l a else ancE l b
theorem ancE_zero {l : List Cm} {i : Int} (h : ancE l i = 0) : GoodC l ∧ 0 ≤ i ∧ i < l.length := by
  unfold ancE at h
  split at h
  · rename_i h1; exact absurd h h1
  · rename_i h1
    split at h
    · rename_i h2; exact ⟨coms_good.1 (by simpa using h1), h2⟩
    · simp at h
theorem ancE_good {l : List Cm} {i : Int} (h : GoodC l) (h0 : 0 ≤ i) (h1 : i < l.length) : ancE l i = 0 := by
  unfold ancE
  rw [if_neg (by simp; exact coms_good.2 h), if_pos ⟨h0, h1⟩]
theorem twoE_zero {l : List Cm} {a b : Int} : twoE l a b = 0 ↔ ancE l a = 0 ∧ ancE l b = 0 := by
  unfold twoE
  by_cases h : ancE l a = 0
  · simp [h]
  · simp [h]

def upP (l : List Cm) (i : Nat) (m : List Nat) : Prop := RiseN m ∧ ∀ k, k ∈ m ↔ Up l i k
def logP (l : List Cm) (i : Nat) (m : List Nat) : Prop := upP l i m.reverse
def baseP (l : List Cm) (a b : Nat) (m : List Nat) : Prop := RiseN m ∧ ∀ z, z ∈ m ↔ isBase l a b z
/-- a list and an error: with an error there is none -/
def ListAns (w : World) (f : Int) (P : List Nat → Prop) (e : Ending) (w' : World) : Prop :=
  ∃ (ad : Option Addr) (c : Nat) (m : List Nat), e = .returned (.tuple #[.slice ad m.length c, errV f]) ∧ (f = 0 → P m) ∧ (f ≠ 0 → m = []) ∧ SlI w' ad (natI m) ∧ RowKit.Below w.heap.size w w' ∧ m.length ≤ 60 ∧ (m ≠ [] → ∀ d, ad = some d → w.heap.size ≤ d.block) ∧ m.length ≤ c

structure DFace where
end Go.Proofs.YtnphjdckdkjopaaGreatDoor

/- slices.ContainsFunc at numbers and at bytes, with whatever test; slices.Contains at numbers. -/
namespace Go.Proofs.YtnphjdckdkjopaaGreatDoor
open Go Go.RowKit Go.Proofs
set_option synthInstance.maxSize 1000

/-- what is asked of a test: at every number of D it tells p, and leaves what lay there -/
def PredI (g : Nat) (lb : Array Value) (D : Int → Prop) (p : Int → Bool) (w : World) : Prop :=
  ∀ (W : World) (x : Int), RowKit.Below w.heap.size w W → D x → Calls Tryz.prog g (#[.int .i64 x] ++ lb) W fun e w' => e = .returned (.bool (p x)) ∧ RowKit.Below W.heap.size W w'
theorem PredI.below {g : Nat} {lb : Array Value} {D : Int → Prop} {p : Int → Bool} {w w1 : World} (h : PredI g lb D p w) (hb : RowKit.Below w.heap.size w w1) : PredI g lb D p w1 :=
  fun W x hW hx => h W x (hb.trans (hW.mono hb.size)) hx
theorem any_hit {ids : List Int} {p : Int → Bool} {k : Nat} (hk : k < ids.length) (h : p ids[k] = true) : ids.any p = true := by
  rw [List.any_eq_true]
  exact ⟨_, List.getElem_mem hk, h⟩
theorem any_miss {ids : List Int} {p : Int → Bool} (h : ∀ (j : Nat) (hj : j < ids.length), p ids[j] = false) : ids.any p = false := by
  rw [List.any_eq_false]
  intro x hx
  obtain ⟨j, hj, rfl⟩ := List.getElem_of_mem hx
  rw [h j hj]
  simp

set_option maxHeartbeats 4000000 in
set_option maxRecDepth 100000 in
theorem DIndex_any (g : Nat) (lb : Array Value) (D : Int → Prop) (p : Int → Bool) (w : World) (ad : Option Addr) (ca : Nat) (ids : List Int) (eg : ∀ args w, (callFunc g args).run Tryz.prog w = .ok (.enter g args) w) (hp : PredI g lb D p w) (hD : ∀ x ∈ ids, D x) (hs : SlI w ad ids) (hl : ids.length ≤ 9223372036854775807) :
    Calls Tryz.prog 215 #[.slice ad ids.length ca, .func (.func g) #[] lb] w fun e w' => (∃ r : Int, e = .returned (.int .i64 r) ∧ decide (0 ≤ r) = ids.any p) ∧ RowKit.Below w.heap.size w w' := by
  have H : Hid (PredI g lb D p w) := hp
  have HD : Hid (∀ x ∈ ids, D x) := hD
  have HS : Hid (SlI w ad ids) := hs
  clear hp hD hs
  go_enter Tryz.func215, Tryz.ntmps215
  go_wp2_with fail
  go_loopw [8] (fun i wr => ∃ (k : Nat), k ≤ ids.length ∧ i = .int .i64 k ∧ RowKit.Below w.heap.size w wr ∧ Hid (∀ (j : Nat) (hj : j < ids.length), j < k → p ids[j] = false)) (fun i wr => ids.length - (intOf i).toNat)
  case atStart => exact ⟨0, Nat.zero_le _, rfl, RowKit.Below.refl _ w, fun j hj h0 => by omega⟩
  case round =>
    obtain ⟨k, hk, rfl, hbr, hall⟩ := hrel
    by_cases hlt : k < ids.length
    · obtain ⟨b, o, rfl, hc⟩ := (HS.out.below hbr).at hlt
      have hcall := H.out wr ids[k] hbr (HD.out _ (List.getElem_mem hlt))
      have i0 : (0 : Int) ≤ (k : Int) := by omega
      have i1 : (k : Int) < (ids.length : Int) := by omega
      have HV : Hid (∀ q, p ids[k] = q → (q = false → (∀ (j : Nat) (hj : j < ids.length), j < k + 1 → p ids[j] = false)) ∧ (q = true → ids.any p = true)) := by
        intro q hq
        refine ⟨fun e j hj h1 => ?_, fun e => any_hit hlt (hq.trans e)⟩
        by_cases ej : j = k
        · subst ej; exact hq.trans e
        · exact hall.out j hj (by omega)
      cases hq : p ids[k] with
      | false =>
        rw [hq] at hcall
        have hnext : Hid (∀ (j : Nat) (hj : j < ids.length), j < k + 1 → p ids[j] = false) := (HV.out _ hq).1 rfl
        clear HV hq hall
        generalize ids[k] = z at *
        go_wp2_with (go_at_fn g; refine hcall.mono ?_; rintro e w' ⟨rfl, hb'⟩; dsimp only)
        go_roundw
        case rel => exact ⟨k + 1, by omega, by go_num, bstep hbr hb', hnext⟩
        case measure => simp [intOf]; omega
      | true =>
        rw [hq] at hcall
        have hno2 : Hid (ids.any p = true) := (HV.out _ hq).2 rfl
        clear HV hq hall
        generalize ids[k] = z at *
        go_wp2_with (go_at_fn g; refine hcall.mono ?_; rintro e w' ⟨rfl, hb'⟩; dsimp only)
        go_ret
        exact ⟨⟨(k : Int), rfl, by rw [hno2.out]; simp⟩, bstep hbr hb'⟩
    · have hkk : k = ids.length := by omega
      have hyes : Hid (ids.any p = false) := any_miss fun j hj => hall.out j hj (by omega)
      subst hkk
      clear hall
      go_wp2_with fail
      go_ret
      exact ⟨⟨-1, rfl, by rw [hyes.out]; rfl⟩, hbr⟩

set_option maxHeartbeats 1000000 in
theorem DContains_any (g : Nat) (lb : Array Value) (D : Int → Prop) (p : Int → Bool) (w : World) (ad : Option Addr) (ca : Nat) (ids : List Int) (eg : ∀ args w, (callFunc g args).run Tryz.prog w = .ok (.enter g args) w) (hp : PredI g lb D p w) (hD : ∀ x ∈ ids, D x) (hs : SlI w ad ids) (hl : ids.length ≤ 9223372036854775807) :
    Calls Tryz.prog 188 #[.slice ad ids.length ca, .func (.func g) #[] lb] w fun e w' => e = .returned (.bool (ids.any p)) ∧ RowKit.Below w.heap.size w w' := by
  have hc := DIndex_any g lb D p w ad ca ids eg hp hD hs hl
  clear hp hD hs
  generalize ids.any p = q at *
  go_enter Tryz.func188, Tryz.ntmps188
  go_wp2_with (go_at_call 215; refine hc.mono ?_; rintro e w' ⟨⟨r, rfl, hr⟩, hb⟩; dsimp only; have hr2 : Hid _ := hr; clear hr)
  go_ret
  refine ⟨?_, hb⟩
  rw [← hr2.out]
  simp

/-- bytes in a block -/
def SlBy (w : World) (b : Nat) (l : List UInt8) : Prop := ∀ (j : Nat) (hj : j < l.length), w.cell? ⟨b, j, none⟩ = some (.int .u8 (l[j].toNat : Int))
set_option maxHeartbeats 4000000 in
set_option maxRecDepth 100000 in
theorem DIndexB_any (g : Nat) (p : Int → Bool) (w : World) (b : Nat) (ca : Nat) (l : List UInt8) (eg : ∀ args w, (callFunc g args).run Tryz.prog w = .ok (.enter g args) w) (hp : ∀ (n : Int) (w : World), Calls Tryz.prog g #[.int .u8 n] w fun e w' => e = .returned (.bool (p n)) ∧ w' = w) (hs : SlBy w b l) (hl : l.length ≤ 9223372036854775807) :
    Calls Tryz.prog 230 #[.slice (some ⟨b, 0, none⟩) l.length ca, .func (.func g) #[] #[]] w fun e w' => (∃ r : Int, e = .returned (.int .i64 r) ∧ decide (0 ≤ r) = l.any fun c => p (c.toNat : Int)) ∧ w' = w := by
  have H : Hid (∀ (n : Int) (w : World), Calls Tryz.prog g #[.int .u8 n] w fun e w' => e = .returned (.bool (p n)) ∧ w' = w) := hp
  have HS : Hid (SlBy w b l) := hs
  clear hp hs
  go_enter Tryz.func230, Tryz.ntmps230
  go_wp2_with fail
  go_loopw [8] (fun i wr => ∃ (k : Nat), k ≤ l.length ∧ i = .int .i64 k ∧ wr = w ∧ Hid (∀ (j : Nat) (hj : j < l.length), j < k → p (l[j].toNat : Int) = false)) (fun i wr => l.length - (intOf i).toNat)
  case atStart => exact ⟨0, Nat.zero_le _, rfl, rfl, fun j hj h0 => by omega⟩
  case round =>
    obtain ⟨k, hk, rfl, hw, hall⟩ := hrel
    obtain rfl : w = wr := hw.symm
    by_cases hlt : k < l.length
    · have hc := HS.out k hlt
      have i0 : (0 : Int) ≤ (k : Int) := by omega
      have i1 : (k : Int) < (l.length : Int) := by omega
      have hcall := H.out (l[k].toNat : Int) w
      have HV : Hid (∀ q, p (l[k].toNat : Int) = q → (q = false → (∀ (j : Nat) (hj : j < l.length), j < k + 1 → p (l[j].toNat : Int) = false)) ∧ (q = true → (l.any fun c => p (c.toNat : Int)) = true)) := by
        intro q hq
        refine ⟨fun e j hj h1 => ?_, fun e => ?_⟩
        · by_cases ej : j = k
          · subst ej; exact hq.trans e
          · exact hall.out j hj (by omega)
        · rw [List.any_eq_true]
          exact ⟨_, List.getElem_mem hlt, hq.trans e⟩
      cases hq : p (l[k].toNat : Int) with
      | false =>
        rw [hq] at hcall
        have hnext : Hid (∀ (j : Nat) (hj : j < l.length), j < k + 1 → p (l[j].toNat : Int) = false) := (HV.out _ hq).1 rfl
        clear HV hq hall
        generalize (l[k].toNat : Int) = z at *
        go_wp2_with (go_at_fn g; refine hcall.mono ?_; rintro e w' ⟨rfl, hb'⟩; subst hb'; dsimp only)
        go_roundw
        case rel => exact ⟨k + 1, by omega, by go_num, by trivial, hnext⟩
        case measure => simp [intOf]; omega
      | true =>
        rw [hq] at hcall
        have hno2 : Hid ((l.any fun c => p (c.toNat : Int)) = true) := (HV.out _ hq).2 rfl
        clear HV hq hall
        generalize (l[k].toNat : Int) = z at *
        go_wp2_with (go_at_fn g; refine hcall.mono ?_; rintro e w' ⟨rfl, hb'⟩; subst hb'; dsimp only)
        go_ret
        exact ⟨⟨(k : Int), rfl, by rw [hno2.out]; simp⟩, rfl⟩
    · have hkk : k = l.length := by omega
      have hyes : Hid ((l.any fun c => p (c.toNat : Int)) = false) := by
        show _ = _
        rw [List.any_eq_false]
        intro x hx
        obtain ⟨j, hj, rfl⟩ := List.getElem_of_mem hx
        rw [hall.out j hj (by omega)]
        simp
      subst hkk
      clear hall
      go_wp2_with fail
      go_ret
      exact ⟨⟨-1, rfl, by rw [hyes.out]; rfl⟩, rfl⟩

set_option maxHeartbeats 1000000 in
theorem DContainsB_any (g : Nat) (p : Int → Bool) (w : World) (b : Nat) (ca : Nat) (l : List UInt8) (eg : ∀ args w, (callFunc g args).run Tryz.prog w = .ok (.enter g args) w) (hp : ∀ (n : Int) (w : World), Calls Tryz.prog g #[.int .u8 n] w fun e w' => e = .returned (.bool (p n)) ∧ w' = w) (hs : SlBy w b l) (hl : l.length ≤ 9223372036854775807) :
    Calls Tryz.prog 216 #[.slice (some ⟨b, 0, none⟩) l.length ca, .func (.func g) #[] #[]] w fun e w' => e = .returned (.bool (l.any fun c => p (c.toNat : Int))) ∧ w' = w := by
  have hc := DIndexB_any g p w b ca l eg hp hs hl
  clear hp hs
  generalize (l.any fun c => p (c.toNat : Int)) = q at *
  go_enter Tryz.func216, Tryz.ntmps216
  go_wp2_with (go_at_call 230; refine hc.mono ?_; rintro e w' ⟨⟨r, rfl, hr⟩, hb⟩; subst hb; dsimp only; have hr2 : Hid _ := hr; clear hr)
  go_ret
  refine ⟨?_, rfl⟩
  rw [← hr2.out]
  simp

end Go.Proofs.YtnphjdckdkjopaaGreatDoor

/- The program's dag: Check, checkAll. -/
namespace Go.Proofs.YtnphjdckdkjopaaGreatDoor
open Go Go.RowKit Go.Proofs
set_option synthInstance.maxSize 1000

theorem dmsg1_any (n : Int) (w : World) :
    Calls Tryz.prog 217 #[.int .u8 n] w fun e w' => e = .returned (.bool (decide (n < 32 ∨ 126 < n))) ∧ w' = w := by
  by_cases h1 : n < 32
  all_goals
    go_enter Tryz.func217, Tryz.ntmps217
    go_wp2
    go_ret
    exact ⟨ret_bool (by rw [Bool.eq_iff_iff]; simp; omega), rfl⟩
theorem okM_any (l : List UInt8) : okM l = !(l.any fun c => decide ((c.toNat : Int) < 32 ∨ 126 < (c.toNat : Int))) := by
  unfold okM
  rw [List.not_any_eq_all_not]
  congr 1
  funext c
  rw [Bool.eq_iff_iff]
  simp
  omega
theorem dbytes_of (l : List UInt8) (w1 : World) : ∃ cap w2, (convert 9 65 (.string ⟨l.toArray⟩)).run Tryz.prog w1 = .ok (.slice (some ⟨w1.heap.size, 0, none⟩) l.length cap) w2 ∧ RowKit.Below w1.heap.size w1 w2 ∧ SlBy w2 w1.heap.size l := by
  refine ⟨_, _, run_bytes_of_string (P := Tryz.prog) w1 9 65 5 ⟨l.toArray⟩ Tryz.underlying9 Tryz.underlying65 (by kernel_rfl), (RowKit.Below.refl _ w1).drew.alloc (Nat.le_refl _) _, fun j hj => ?_⟩
  exact (World.cell?_alloc_mark w1.drew _ _ _ j).trans (bytesRow_at ⟨l.toArray⟩ _ j hj)
set_option maxHeartbeats 1000000 in
theorem dmsg_any (l : List UInt8) (w : World) (hl : l.length ≤ maxLen) :
    Calls Tryz.prog 190 #[.string ⟨l.toArray⟩] w fun e w' => e = .returned (.bool (okM l)) ∧ RowKit.Below w.heap.size w w' := by
  have eg : ∀ args w, (callFunc 217 args).run Tryz.prog w = .ok (.enter 217 args) w := enters_of Tryz.func217 (by kernel_rfl) rfl
  obtain ⟨cap, w2, hrun, hb2, hs2⟩ := dbytes_of l w
  have hc := DContainsB_any 217 (fun n => decide (n < 32 ∨ 126 < n)) w2 w.heap.size cap l eg dmsg1_any hs2 (by unfold maxLen at hl; omega)
  have hf := hideO (okM_any l)
  have hb := hideO hb2
  generalize (l.any fun c => decide ((c.toNat : Int) < 32 ∨ 126 < (c.toNat : Int))) = q at *
  clear hs2 hb2
  go_enter Tryz.func190, Tryz.ntmps190
  go_wp2_with (go_at_call 216; refine hc.mono ?_; rintro e w' ⟨rfl, hw⟩; subst hw; dsimp only)
  go_ret
  exact ⟨ret_bool (by rw [hf.out]), hb.out⟩

theorem dchk1_any (W : World) (B : Nat) (x i : Int) (hB : W.cell? ⟨B, 0, none⟩ = some (.int .i64 i)) :
    Calls Tryz.prog 189 #[.int .i64 x, .pointer (some ⟨B, 0, none⟩)] W fun e w' => e = .returned (.bool (decide (x < 0 ∨ i ≤ x))) ∧ RowKit.Below W.heap.size W w' := by
  by_cases h1 : x < 0
  all_goals
    go_enter Tryz.func189, Tryz.ntmps189
    go_wp2
    go_ret
    exact ⟨ret_bool (by rw [Bool.eq_iff_iff]; simp; omega), RowKit.Below.refl _ _⟩
theorem range_any (ids : List Int) (i : Nat) : (ids.any fun x => decide (x < 0 ∨ (i : Int) ≤ x)) = !rangeB ids i := by
  unfold rangeB
  rw [List.not_all_eq_any_not]
  congr 1
  funext x
  rw [Bool.eq_iff_iff]
  simp
theorem dchkIn_any (W : World) (B : Nat) (i : Nat) (ad : Option Addr) (ca : Nat) (ids : List Int) (hB : W.cell? ⟨B, 0, none⟩ = some (.int .i64 (i : Int))) (hs : SlI W ad ids) (hl : ids.length ≤ maxLen) :
    Calls Tryz.prog 188 #[.slice ad ids.length ca, .func (.func 189) #[] #[.pointer (some ⟨B, 0, none⟩)]] W fun e w' => e = .returned (.bool (!rangeB ids i)) ∧ RowKit.Below W.heap.size W w' := by
  have eg : ∀ args w, (callFunc 189 args).run Tryz.prog w = .ok (.enter 189 args) w := enters_of Tryz.func189 (by kernel_rfl) rfl
  have := DContains_any 189 #[.pointer (some ⟨B, 0, none⟩)] (fun _ => True) (fun x => decide (x < 0 ∨ (i : Int) ≤ x)) W ad ca ids eg (fun W' x hW _ => dchk1_any W' B x i ((hW.cell (World.block_lt_of_cell? W _ hB)).trans hB)) (fun _ _ => trivial) hs (by unfold maxLen at hl; omega)
  rw [range_any] at this
  exact this
theorem oneBox {w W : World} {T T2 : TypeId} {a0 a1 a2 b0 : Value}
    (hb : RowKit.Below ((w.alloc (.cells #[a0, a1, a2] T)).alloc (.cells #[b0] T2)).heap.size ((w.alloc (.cells #[a0, a1, a2] T)).alloc (.cells #[b0] T2)) W) :
    W.cell? ⟨w.heap.size, 0, none⟩ = some a0 ∧ W.cell? ⟨w.heap.size, 1, none⟩ = some a1 ∧ W.cell? ⟨w.heap.size, 2, none⟩ = some a2 ∧ W.cell? ⟨w.heap.size + 1, 0, none⟩ = some b0 ∧ RowKit.Below w.heap.size w W ∧ w.heap.size + 1 < W.heap.size := by
  obtain ⟨h, _⟩ := bcell hb
  have hs := hb.size
  refine ⟨?_, ?_, ?_, ?_, bstep (bstep (balloc _ _) (balloc _ _)) hb, by simp at hs; omega⟩
  all_goals rw [h] <;> first | go_simp | (simp <;> omega)
theorem dtwin_two (p q : Int) : twinB [p, q] = decide (p = q) := rfl
theorem dtwin_eq (p q : Int) : twinB [p, q] = (p == q) := by
  rw [dtwin_two, Bool.eq_iff_iff]
  simp
theorem dtwin_at {ps : List Int} (h : ps.length = 2) : twinB ps = (ps[0] == ps[1]) := by
  match ps, h with
  | [p, q], _ => exact dtwin_eq p q
theorem dtwin_not {ps : List Int} (h : ps.length ≠ 2) : twinB ps = false := by
  unfold twinB
  split
  · simp at h
  · rfl

set_option maxHeartbeats 8000000 in
set_option maxRecDepth 100000 in
theorem dchkOne_any (w : World) (a : Option Addr) (ca : Nat) (ps : List Int) (ly : Int) (ms : List UInt8) (i : Nat) (hs : SlI w a ps) (hl : ps.length ≤ maxLen) (hm : ms.length ≤ maxLen) :
    Calls Tryz.prog 160 #[.agg #[.slice a ps.length ca, .int .i64 ly, .string ⟨ms.toArray⟩], .int .i64 (i : Int)] w fun e w' => e = .returned (errV (comN (ps, ly, ms) i)) ∧ RowKit.Below w.heap.size w w' := by
  obtain ⟨v, hv⟩ : ∃ v, errV (comN (ps, ly, ms) i) = v := ⟨_, rfl⟩
  rw [hv]
  have HV := hideO hv
  have HS := hideO hs
  have HM := hideO hm
  have HL := hideO hl
  clear hv hs hm hl
  have hmx : (ps.length : Int) ≤ 9223372036854775807 ∧ (ms.length : Int) ≤ 9223372036854775807 := by
    have h1 := HL.out
    have h2 := HM.out
    unfold maxLen at h1 h2
    omega
  obtain ⟨hmx1, hmx2⟩ := hmx
  by_cases h1 : 2 < ps.length
  · have hf : Hid (v = errV 4) := by show _ = _; rw [← HV.out]; unfold comN; rw [if_pos (Or.inl h1)]
    have j1 : (2 : Int) < (ps.length : Int) := by omega
    go_enter Tryz.func160, Tryz.ntmps160
    go_wp2_with fail
    go_ret
    exact ⟨by rw [hf.out]; rfl, bstep (balloc _ _) (balloc _ _)⟩
  have j1 : ¬ (2 : Int) < (ps.length : Int) := by omega
  by_cases h2 : 24 < ms.length
  · have hf : Hid (v = errV 4) := by show _ = _; rw [← HV.out]; unfold comN; rw [if_pos (Or.inr (by show msgN ms = 4; unfold msgN; rw [if_pos h2]))]
    have j2 : (24 : Int) < (ms.length : Int) := by omega
    go_enter Tryz.func160, Tryz.ntmps160
    go_wp2_with fail
    go_ret
    exact ⟨by rw [hf.out]; rfl, bstep (balloc _ _) (balloc _ _)⟩
  have j2 : ¬ (24 : Int) < (ms.length : Int) := by omega
  have hmsg : msgN ms = if okM ms = true then 0 else 2 := by unfold msgN; rw [if_neg h2]
  have hne4 : ¬ (2 < ps.length ∨ msgN ms = 4) := by
    rw [hmsg]
    rintro (h | h)
    · exact h1 h
    · split at h <;> cases h
  have HV2 : Hid (v = errV (if rangeB ps i = false then 1 else if twinB ps = true then 7 else if okM ms = true then (if ly < 1 ∨ 300 < ly then 1 else 0) else 2)) := by
    show _ = _
    rw [← HV.out]
    unfold comN
    rw [if_neg hne4]
    dsimp only
    rw [hmsg]
    cases okM ms <;> simp
  clear HV hmsg hne4 h1 h2
  cases hr : rangeB ps i with
  | false =>
    have hf : Hid (v = errV 1) := by show _ = _; rw [HV2.out, hr]; rfl
    go_enter Tryz.func160, Tryz.ntmps160
    go_wp2_with (go_at_call 188; refine (dchkIn_any _ _ i _ _ ps (by go_simp) (HS.out.below (bstep (balloc _ _) (balloc _ _))) HL.out).mono ?_; rintro e w1 ⟨rfl, hb1⟩; rw [hr]; dsimp only)
    go_ret
    exact ⟨by rw [hf.out]; rfl, bstep (bstep (balloc _ _) (balloc _ _)) hb1⟩
  | true =>
    have HV3 : Hid (v = errV (if twinB ps = true then 7 else if okM ms = true then (if ly < 1 ∨ 300 < ly then 1 else 0) else 2)) := by show _ = _; rw [HV2.out, hr]; rfl
    clear HV2
    have HR := hideO hr
    clear hr
    go_enter Tryz.func160, Tryz.ntmps160
    go_wp2_with (go_at_call 188; refine (dchkIn_any _ _ i _ _ ps (by go_simp) (HS.out.below (bstep (balloc _ _) (balloc _ _))) HL.out).mono ?_; rintro e w1 ⟨rfl, hb1⟩; rw [HR.out]; dsimp only)
    obtain ⟨c0, c1, c2, c3, hbw, hz⟩ := oneBox hb1
    have Hbw := hideO hbw
    have hz' : w.heap.size < w1.heap.size := by omega
    clear hb1 HR c3 hz
    by_cases h3 : ps.length = 2
    · obtain ⟨b, o, hab, e0⟩ := (HS.out.below hbw).at (j := 0) (by omega)
      obtain ⟨b', o', hab', e1⟩ := (HS.out.below hbw).at (j := 1) (by omega)
      rw [hab] at hab'
      cases hab'
      subst hab
      rw [Nat.add_zero] at e0
      have t2 : ((ps.length : Int) == 2) = true := by simp; omega
      have i1 : (0 : Int) < (ps.length : Int) := by omega
      have i2 : (1 : Int) < (ps.length : Int) := by omega
      have i3 : 0 < ps.length := by omega
      have i4 : 1 < ps.length := by omega
      have htw : Hid (twinB ps = (ps[0] == ps[1])) := dtwin_at h3
      generalize ps[0] = p at *
      generalize ps[1] = q at *
      clear h3 hbw
      cases hpq : (p == q) with
      | true =>
        have hf : Hid (v = errV 7) := by show _ = _; rw [HV3.out, htw.out, hpq]; rfl
        clear HV3 htw
        go_wp2_with fail
        go_quiet (fail)
        go_wp2_with fail
        go_ret
        exact ⟨by rw [hf.out]; rfl, Hbw.out.trans ⟨rfl, rfl, rfl, Nat.le_refl _, fun _ _ => rfl⟩⟩
      | false =>
        have HV4 : Hid (v = errV (if okM ms = true then (if ly < 1 ∨ 300 < ly then 1 else 0) else 2)) := by show _ = _; rw [HV3.out, htw.out, hpq]; rfl
        clear HV3 htw
        go_wp2_with fail
        go_quiet (fail)
        have hbq : Hid (RowKit.Below w.heap.size w (w1.drewN nq)) := Hbw.out.trans ⟨rfl, rfl, rfl, Nat.le_refl _, fun _ _ => rfl⟩
        cases hok : okM ms with
        | false =>
          have hf : Hid (v = errV 2) := by show _ = _; rw [HV4.out, hok]; rfl
          clear HV4
          go_wp2_with (go_at_call 190; refine (dmsg_any ms _ HM.out).mono ?_; rintro e w2 ⟨rfl, hb2⟩; rw [hok]; dsimp only)
          go_ret
          exact ⟨by rw [hf.out]; rfl, bstep hbq.out hb2⟩
        | true =>
          have HV5 : Hid (v = errV (if ly < 1 ∨ 300 < ly then 1 else 0)) := by show _ = _; rw [HV4.out, hok]; rfl
          clear HV4
          by_cases h5 : ly < 1
          · have hf : Hid (v = errV 1) := by show _ = _; rw [HV5.out, if_pos (Or.inl h5)]
            clear HV5
            go_wp2_with (go_at_call 190; refine (dmsg_any ms _ HM.out).mono ?_; rintro e w2 ⟨rfl, hb2⟩; rw [hok]; dsimp only; have k1 := ((bcell hb2).1 _ 1 hz').trans c1)
            go_ret
            exact ⟨by rw [hf.out]; rfl, bstep hbq.out hb2⟩
          · by_cases h6 : 300 < ly
            · have hf : Hid (v = errV 1) := by show _ = _; rw [HV5.out, if_pos (Or.inr h6)]
              clear HV5
              go_wp2_with (go_at_call 190; refine (dmsg_any ms _ HM.out).mono ?_; rintro e w2 ⟨rfl, hb2⟩; rw [hok]; dsimp only; have k1 := ((bcell hb2).1 _ 1 hz').trans c1)
              go_ret
              exact ⟨by rw [hf.out]; rfl, bstep hbq.out hb2⟩
            · have hf : Hid (v = errV 0) := by show _ = _; rw [HV5.out, if_neg (by omega)]
              clear HV5
              go_wp2_with (go_at_call 190; refine (dmsg_any ms _ HM.out).mono ?_; rintro e w2 ⟨rfl, hb2⟩; rw [hok]; dsimp only; have k1 := ((bcell hb2).1 _ 1 hz').trans c1)
              go_ret
              exact ⟨by rw [hf.out]; rfl, bstep hbq.out hb2⟩
    · have t2 : ((ps.length : Int) == 2) = false := by simp; omega
      have HV4 : Hid (v = errV (if okM ms = true then (if ly < 1 ∨ 300 < ly then 1 else 0) else 2)) := by show _ = _; rw [HV3.out, dtwin_not h3]; rfl
      clear HV3 h3 hbw
      go_wp2_with fail
      go_quiet (fail)
      have hbq : Hid (RowKit.Below w.heap.size w (w1.drewN nq)) := Hbw.out.trans ⟨rfl, rfl, rfl, Nat.le_refl _, fun _ _ => rfl⟩
      cases hok : okM ms with
      | false =>
        have hf : Hid (v = errV 2) := by show _ = _; rw [HV4.out, hok]; rfl
        clear HV4
        go_wp2_with (go_at_call 190; refine (dmsg_any ms _ HM.out).mono ?_; rintro e w2 ⟨rfl, hb2⟩; rw [hok]; dsimp only)
        go_ret
        exact ⟨by rw [hf.out]; rfl, bstep hbq.out hb2⟩
      | true =>
        have HV5 : Hid (v = errV (if ly < 1 ∨ 300 < ly then 1 else 0)) := by show _ = _; rw [HV4.out, hok]; rfl
        clear HV4
        by_cases h5 : ly < 1
        · have hf : Hid (v = errV 1) := by show _ = _; rw [HV5.out, if_pos (Or.inl h5)]
          clear HV5
          go_wp2_with (go_at_call 190; refine (dmsg_any ms _ HM.out).mono ?_; rintro e w2 ⟨rfl, hb2⟩; rw [hok]; dsimp only; have k1 := ((bcell hb2).1 _ 1 hz').trans c1)
          go_ret
          exact ⟨by rw [hf.out]; rfl, bstep hbq.out hb2⟩
        · by_cases h6 : 300 < ly
          · have hf : Hid (v = errV 1) := by show _ = _; rw [HV5.out, if_pos (Or.inr h6)]
            clear HV5
            go_wp2_with (go_at_call 190; refine (dmsg_any ms _ HM.out).mono ?_; rintro e w2 ⟨rfl, hb2⟩; rw [hok]; dsimp only; have k1 := ((bcell hb2).1 _ 1 hz').trans c1)
            go_ret
            exact ⟨by rw [hf.out]; rfl, bstep hbq.out hb2⟩
          · have hf : Hid (v = errV 0) := by show _ = _; rw [HV5.out, if_neg (by omega)]
            clear HV5
            go_wp2_with (go_at_call 190; refine (dmsg_any ms _ HM.out).mono ?_; rintro e w2 ⟨rfl, hb2⟩; rw [hok]; dsimp only; have k1 := ((bcell hb2).1 _ 1 hz').trans c1)
            go_ret
            exact ⟨by rw [hf.out]; rfl, bstep hbq.out hb2⟩

theorem errV_some {n : Int} (h : n ≠ 0) : errV n = .iface 72 (.int .i64 n) := by unfold errV; rw [if_neg h]

def allE (l : List Cm) (ids : List Int) : Int := if (comsN l).2 ≠ 0 then (comsN l).2 else if rangeB ids l.length = true then 0 else 1
end Go.Proofs.YtnphjdckdkjopaaGreatDoor

/- repo's check, change, and what one commit more does to a repo. -/
namespace Go.Proofs.YtnphjdckdkjopaaGreatDoor
open Go Go.RowKit Go.Proofs Go.Maps
set_option synthInstance.maxSize 1000

attribute [local go_sem] eql_errV neq_errV guard_errV

theorem com_msg {k : Nat} {ps : List Int} {t : List UInt8} (hp : okPar k ps) : comN (ps, 1, t) k = msgN t := by
  have e : rangeB ps k = true := by unfold rangeB; rw [List.all_eq_true]; intro p hp'; simpa using hp.2.1 p hp'
  have hl := hp.1
  unfold comN
  dsimp only
  by_cases h4 : msgN t = 4
  · rw [if_pos (Or.inr h4), h4]
  · rw [if_neg (fun h => h.elim (fun h => by omega) h4), if_neg (by rw [e]; simp), if_neg (by rw [hp.2.2]; simp)]
    by_cases h0 : msgN t = 0
    · rw [if_neg (fun h => h h0), h0, if_neg (by omega)]
    · rw [if_pos h0]
set_option maxHeartbeats 1000000 in
theorem Qcheck_any (w : World) (r s bm : Nat) (cv : Value) (OS P : Nat → Prop) (R : Rp) (pd : Option Addr) (pc : Nat) (ps : List Int) (t : List UInt8) (h : RpW w r s bm cv OS P R) (hg : GoodR R) (hs : SlI w pd ps) (hp : okPar R.coms.length ps) (ht : t.length ≤ maxLen) :
    Calls Tryz.prog 131 #[.pointer (some ⟨r, 0, none⟩), .slice pd ps.length pc, .string ⟨t.toArray⟩] w fun e w' => e = .returned (errV (msgN t)) ∧ RowKit.Below w.heap.size w w' := by
  have HC : ∀ W, RowKit.Below w.heap.size w W → Calls Tryz.prog 160 #[.agg #[.slice pd ps.length pc, .int .i64 1, .string ⟨t.toArray⟩], .int .i64 (R.coms.length : Int)] W fun e w' => e = .returned (errV (msgN t)) ∧ RowKit.Below W.heap.size W w' := fun W hW => by
    rw [← com_msg (t := t) hp]
    exact dchkOne_any W pd pc ps 1 t R.coms.length (hs.below hW) (by have := hp.1; unfold maxLen; omega) ht
  have HL := hideO (fun W (hW : RowKit.Below w.heap.size w W) => ((h.below hW).cells))
  obtain ⟨ad, cap, rfl⟩ := h.com.form
  have hlt := h.lt
  have hmx : R.coms.length ≤ 60 := hg.coms.1
  obtain ⟨k0, k1, k2, kf⟩ := HL.out w (RowKit.Below.refl _ _)
  clear h hg hs hp ht HL
  generalize msgN t = N at *
  generalize R.coms.length = n at *
  go_enter Tryz.func131, Tryz.ntmps131
  go_wp2_with (go_at_call 160; refine (HC _ (RowKit.Below.refl _ _)).mono ?_; rintro e w1 ⟨rfl, hb1⟩; dsimp only)
  go_ret
  exact ⟨rfl, hb1⟩

set_option maxHeartbeats 2000000 in
set_option maxRecDepth 100000 in
theorem Qchange_any (w : World) (r s bm : Nat) (cv : Value) (OS P : Nat → Prop) (R : Rp) (pd : Option Addr) (pc : Nat) (ps : List Int) (sd : Option Addr) (sc : Nat) (S : List Tr) (h : RpW w r s bm cv OS P R) (hg : GoodR R) (hs : SlI w pd ps) (hp : okPar R.coms.length ps) (hS : SlT w sd S) (sS : IsSet S) :
    Calls Tryz.prog 132 #[.pointer (some ⟨r, 0, none⟩), .slice pd ps.length pc, .slice sd S.length sc] w fun e w' => e = .returned (.tuple #[.string ⟨(bytesR R ps S).toArray⟩, .nilIface]) ∧ RowKit.Below w.heap.size w w' := by
  have H1 := Qstart_any w r s bm cv OS P R pd pc ps h hs (by have := hp.1; unfold maxLen; omega) (fun p hp' => (hp.2.1 p hp').1) (fun p hp' => graph_ok r s bm cv OS P R hg p (by have := (hp.2.1 _ hp').2; omega))
  have sf := pfrom_set hg ps
  have H2 := fun W ad ca h1 h2 => BtwGood_any ad sd ca sc (fromR R ps) S W h1 h2 sf sS
  have s1 : IsSet (lessL S (fromR R ps)) := lessSet sS
  have s2 : IsSet (lessL (fromR R ps) S) := lessSet sf
  have H3 := fun W a1 a2 c1 c2 h1 h2 => CLayer_any a1 a2 c1 c2 (lessL S (fromR R ps)) (lessL (fromR R ps) S) W h1 h2 s1.fit s2.fit (setLen s1) (setLen s2)
  have e0 := btw_check sf sS
  have e1 : layB (lessL S (fromR R ps)) (lessL (fromR R ps) S) = bytesR R ps S := if_pos e0
  rw [e0, e1] at H3
  have HS := hideO hS
  clear h hg hs hp hS sS sf s1 s2 e0 e1
  generalize bytesR R ps S = B at *
  generalize lessL S (fromR R ps) = A at *
  generalize lessL (fromR R ps) S = D at *
  generalize fromR R ps = f at *
  go_enter Tryz.func132, Tryz.ntmps132
  go_wp2_with fail
  refine H1.mono ?_
  rintro e w1 ⟨hb1, fd, fc, rfl, hf⟩
  dsimp only
  have hB1 := hideO hb1
  have hF := hideO hf
  clear hb1 hf H1
  go_wp2_with fail
  refine (H2 _ fd fc hF.out (HS.out.below hB1.out)).mono ?_
  rintro e w2 ⟨hb2, a1, c1, a2, c2, rfl, x1, x2⟩
  dsimp only
  have hB2 := hideO (bstep hB1.out hb2)
  have X1 := hideO x1
  have X2 := hideO x2
  clear hb2 x1 x2 H2 hB1 hF
  go_wp2_with fail
  have hba := balloc w2 (.cells #[.slice a1 A.length c1, .slice a2 D.length c2] 162)
  refine (H3 _ a1 a2 c1 c2 (X1.out.below hba) (X2.out.below hba)).mono ?_
  rintro e w3 ⟨rfl, hb3⟩
  rw [show errV 0 = Value.nilIface from rfl]
  dsimp only
  have hB3 := hideO (bstep (bstep hB2.out hba) hb3)
  clear hba hb3 H3 X1 X2 hB2
  go_wp2_with fail
  exact bodyPost_ret (v := .tuple #[.string ⟨B.toArray⟩, .nilIface]) (by unfold results; rw [Tryz.results132]; go_simp) rfl ⟨rfl, hB3.out⟩

/-! ### one more -/
def moreQ (P : Nat → Prop) (pd : Option Addr) (ps : List Int) (j : Nat) : Prop := P j ∨ (ps ≠ [] ∧ ∃ d, pd = some d ∧ j = d.block)
def comCellsQ (pd : Option Addr) (pc : Nat) (ps : List Int) (y : Int) (t : List UInt8) : List Value := [.slice pd ps.length pc, .int .i64 y, .string ⟨t.toArray⟩]
theorem infoCmQ : (Tryz.prog.info? 113).map (fun i => (i.zero, i.size, i.bytes)) = some (some (.agg #[.slice none 0 0, .int .i64 0, .string ⟨#[]⟩]), 3, 48) := by kernel_rfl
theorem newCmQ (W : World) (pd : Option Addr) (pc : Nat) (ps : List Int) (y : Int) (t : List UInt8) : ∀ (j : Nat) u, (comCellsQ pd pc ps y t)[j]? = some u → (W.alloc (.cells #[.slice pd ps.length pc, .int .i64 y, .string ⟨t.toArray⟩] 113)).cell? (Addr.add ⟨W.heap.size, 0, none⟩ j) = some u := fun j u hu => by
  have hj : j < 3 := by have := (List.getElem?_eq_some_iff.1 hu).1; simpa [comCellsQ] using this
  rw [Addr.add_lit]
  rcases (by omega : j = 0 ∨ j = 1 ∨ j = 2) with rfl | rfl | rfl
  · simp [comCellsQ] at hu; subst hu; go_simp
  · simp [comCellsQ] at hu; subst hu; go_simp
  · simp [comCellsQ] at hu; subst hu; go_simp
/-- the store has changed -/
theorem RpW.put {w w' : World} {r s bm : Nat} {cv : Value} {OS OS' P : Nat → Prop} {R : Rp} {n' : Nat} {L' : List Ob} (h : RpW w r s bm cv OS P R) (hs : theFace.At w' s OS' n' L') (ho : Offs OS w w') (hn : ∀ j, OS' j → OS j ∨ w.heap.size ≤ j) (hl : Linked ⟨n', L', R.coms, R.gr, R.refs⟩) :
    RpW w' r s bm cv OS' P ⟨n', L', R.coms, R.gr, R.refs⟩ ∧ Offs (RpO r bm cv OS NoP) w w' ∧ RpIn w r bm cv OS P cv OS' P := by
  have away : ∀ j, j < w.heap.size → ¬ OS j → w'.heap[j]? = w.heap[j]? := fun j h1 h2 => ho.block j h1 h2
  have off : ∀ j, j < w.heap.size → ¬ OS j → ¬ OS' j := fun j h1 h2 h3 => (hn j h3).elim h2 (fun h4 => by omega)
  obtain ⟨a1, a2, a3⟩ := h.ap1
  have hbm := h.own bm (Or.inr (Or.inl rfl))
  have hcv := fun j hj => h.own j (Or.inr (Or.inr (Or.inl hj)))
  refine ⟨⟨(away r h.lt a1).trans h.blk, hs, h.com.keep (fun j hj => away j (hcv j hj) (h.ap2 j hj).1) (fun j hj => away j (h.plt j hj) (h.ap3 j hj).1), h.map.keep (away bm hbm a2), hl, fun j hj => Nat.lt_of_lt_of_le (h.plt j hj) ho.size, ⟨off r h.lt a1, off bm hbm a2, a3⟩, fun j hj => ⟨off j (hcv j hj) (h.ap2 j hj).1, (h.ap2 j hj).2⟩, fun j hj => ⟨off j (h.plt j hj) (h.ap3 j hj).1, (h.ap3 j hj).2⟩⟩, ho.mono fun j hj => Or.inl (Or.inr (Or.inr (Or.inr (Or.inr hj)))), ?_, fun _ hj => Or.inl hj⟩
  rintro j (hj | hj | hj | hj | hj)
  · exact Or.inl (Or.inl hj)
  · exact Or.inl (Or.inr (Or.inl hj))
  · exact Or.inl (Or.inr (Or.inr (Or.inl hj)))
  · exact absurd hj id
  · exact (hn j hj).imp (fun h => Or.inr (Or.inr (Or.inr (Or.inr h)))) id
theorem RpW.push {W : World} {r s bm : Nat} {cv : Value} {OS P : Nat → Prop} {R : Rp} (h : RpW W r s bm cv OS P R) {a : Option Addr} {c : Nat} {ps : List Int} {y : Int} {t : List UInt8} (hs : SlI W a ps) (hc : ps.length ≤ c) (ha : ps ≠ [] → ∀ d, a = some d → ¬ RpO r bm cv OS P d.block) (hn : R.coms.length ≤ 1000) (g' : List (List Tr)) (hl : Linked ⟨R.n, R.L, R.coms ++ [(ps, y, t)], g', R.refs⟩) (ty : TypeId) :
    ∃ g cap W9, (Builtin.append_ #[54, 54] ty #[cv, .slice (some ⟨W.heap.size, 0, none⟩) 1 1]).run Tryz.prog (W.alloc (.cells #[.slice a ps.length c, .int .i64 y, .string ⟨t.toArray⟩] 113)) = .ok (.slice (some ⟨g, 0, none⟩) (R.coms.length + 1) cap) W9 ∧
      W9.cell? ⟨r, 1, none⟩ = some cv ∧ W9.frozen? ⟨r, 1, none⟩ = false ∧ r < W9.heap.size ∧
      RpW (W9.setCell ⟨r, 1, none⟩ (.slice (some ⟨g, 0, none⟩) (R.coms.length + 1) cap)) r s bm (.slice (some ⟨g, 0, none⟩) (R.coms.length + 1) cap) OS (moreQ P a ps) ⟨R.n, R.L, R.coms ++ [(ps, y, t)], g', R.refs⟩ ∧
      Offs (RpO r bm cv OS NoP) W (W9.setCell ⟨r, 1, none⟩ (.slice (some ⟨g, 0, none⟩) (R.coms.length + 1) cap)) ∧
      ∀ j, RpO r bm (.slice (some ⟨g, 0, none⟩) (R.coms.length + 1) cap) OS NoP j → RpO r bm cv OS NoP j ∨ W.heap.size ≤ j := by
  obtain ⟨cs, ho, h2⟩ := h.com
  obtain ⟨i0, hi0, hz⟩ := Option.map_eq_some_iff.1 infoCmQ
  simp only [Prod.mk.injEq] at hz
  obtain ⟨hz0, hz1, hz2⟩ := hz
  obtain ⟨g, cap, W9, hrun, hrow, hgr, hat, hlt9⟩ := run_append_lies (P := Tryz.prog) (W.alloc (.cells #[.slice a ps.length c, .int .i64 y, .string ⟨t.toArray⟩] 113)) 54 ty 0 113 i0 (.agg #[.slice none 0 0, .int .i64 0, .string ⟨#[]⟩]) 3 48 Tryz.underlying54 hi0 hz0 hz1 hz2 rfl (by decide) cv R.coms.length cs (ho.alloc _) ⟨W.heap.size, 0, none⟩ 1 1 (comCellsQ a c ps y t) rfl (newCmQ W a c ps y t) (by simp [comCellsQ, Value.oneCell']) (by decide) (by unfold maxLen; omega) (by omega) (by omega) _ rfl
  have hg : cv.ownBlock = some g ∨ g = W.heap.size + 1 := by
    rcases hat with h1 | h1
    · exact Or.inl h1
    · exact Or.inr (by rw [h1]; simp)
  have hblk : ∀ j, j < W.heap.size → cv.ownBlock ≠ some j → W9.heap[j]? = W.heap[j]? := fun j h1 h3 => (hgr.block j (by simp; omega) (fun e => h3 e.symm)).trans (Below.heap_alloc _ _ j h1)
  have hsz9 : W.heap.size + 1 ≤ W9.heap.size := by have := hgr.size; simpa using this
  obtain ⟨a1, a2, a3⟩ := h.ap1
  have hbm := h.own bm (Or.inr (Or.inl rfl))
  have hcvr : cv.ownBlock ≠ some r := fun e => (h.ap2 r e).2.1 rfl
  have hr9 : W9.heap[r]? = some (.cells #[.pointer (some ⟨s, 0, none⟩), cv, .map (some bm)] 85) := (hblk r h.lt hcvr).trans h.blk
  have hgne : g ≠ r ∧ g ≠ bm ∧ ¬ OS g ∧ ¬ moreQ P a ps g := by
    rcases hg with h1 | rfl
    · obtain ⟨q1, q2, q3, q4⟩ := h.ap2 g h1
      refine ⟨q2, q3, q1, ?_⟩
      rintro (h5 | ⟨hne, d, hd, e⟩)
      · exact q4 h5
      · exact ha hne d hd (Or.inr (Or.inr (Or.inl (by rw [← e]; exact h1))))
    · have hlr := h.lt
      refine ⟨by omega, by omega, fun h5 => by have := theFace.own h.st _ h5; omega, ?_⟩
      rintro (h5 | ⟨hne, d, hd, e⟩)
      · have := h.plt _ h5; omega
      · obtain ⟨b, o, e2, h6⟩ := hs hne
        rw [e2] at hd
        cases hd
        have hpl : 0 < ps.length := List.length_pos_iff.2 hne
        have := World.block_lt_of_cell? W _ (h6 0 hpl)
        have e : W.heap.size + 1 = b := e
        have : b < W.heap.size := this
        omega
  generalize hv' : (Value.slice (some ⟨g, 0, none⟩) (R.coms.length + 1) cap) = v' at *
  have hvb : v'.ownBlock = some g := by rw [← hv']; rfl
  have hk : ∀ j, j ≠ r → (W9.setCell ⟨r, 1, none⟩ v').heap[j]? = W9.heap[j]? := fun j hj => heap_setCell_other _ _ _ _ hj
  have hkeep : ∀ j, j < W.heap.size → cv.ownBlock ≠ some j → j ≠ r → (W9.setCell ⟨r, 1, none⟩ v').heap[j]? = W.heap[j]? := fun j h1 h3 h4 => (hk j h4).trans (hblk j h1 h3)
  have hsl : SlI (W9.setCell ⟨r, 1, none⟩ v') a ps := psl_keep hs fun hne d hd => by
    have hnot := ha hne d hd
    obtain ⟨b, o, e2, h6⟩ := hs hne
    rw [e2] at hd
    cases hd
    have hpl : 0 < ps.length := List.length_pos_iff.2 hne
    exact hkeep b (World.block_lt_of_cell? W _ (h6 0 hpl)) (fun e => hnot (Or.inr (Or.inr (Or.inl e)))) (fun e => hnot (Or.inl e))
  have hcl : cs.length = R.coms.length * 3 := ho.1
  refine ⟨g, cap, W9, ?_⟩
  rw [hv']
  refine ⟨hrun, ?_, ?_, by have := h.lt; omega, ⟨?_, ?_, ⟨_, by rw [List.length_append]; exact prow_keep hrow fun j hj => hk j (by rw [hvb] at hj; cases hj; exact hgne.1), fun i hi => ?_⟩, h.map.keep (hkeep bm hbm (fun e => (h.ap2 bm e).2.2.1 rfl) (fun e => a3 e.symm)), hl, fun j hj => ?_, ⟨a1, a2, a3⟩, fun j hj => ?_, fun j hj => ?_⟩, ⟨?_, ?_, ?_, ?_, fun k hk1 hO => ?_⟩, fun j hj => ?_⟩
  · simp [World.cell?, hr9]
  · simp [World.frozen?, hr9]
  · have := heap_setCell_same W9 r 1 _ _ v' hr9
    simpa using this
  · exact theFace.keep h.st fun j hj => hkeep j (theFace.own h.st j hj) (fun e => (h.ap2 j e).1 hj) (fun e => a1 (e ▸ hj))
  · simp only [List.length_append, List.length_singleton] at hi
    by_cases hil : i < R.coms.length
    · obtain ⟨b, d, q1, q2, q3, q4, q5, q6⟩ := h2 i hil
      have e : (R.coms ++ [(ps, y, t)])[i]'(by rw [List.length_append]; omega) = R.coms[i] := List.getElem_append_left hil
      dsimp only
      rw [e, List.getElem?_append_left (by omega), List.getElem?_append_left (by omega), List.getElem?_append_left (by omega)]
      refine ⟨b, d, q1, q2, q3, psl_keep q4 fun hne d hd => ?_, q5, fun hne d hd => Or.inl (q6 hne d hd)⟩
      have hP := q6 hne d hd
      exact hkeep _ (h.plt _ hP) (fun e => (h.ap2 _ e).2.2.2 hP) (h.ap3 _ hP).2.1
    · obtain rfl : i = R.coms.length := by omega
      have e : (R.coms ++ [(ps, y, t)])[R.coms.length]'(by rw [List.length_append]; simp) = (ps, y, t) := by rw [List.getElem_append_right (Nat.le_refl _)]; simp
      dsimp only
      rw [e, List.getElem?_append_right (by omega), List.getElem?_append_right (by omega), List.getElem?_append_right (by omega), hcl]
      rw [show R.coms.length * 3 - R.coms.length * 3 = 0 by omega, show R.coms.length * 3 + 1 - R.coms.length * 3 = 1 by omega, show R.coms.length * 3 + 2 - R.coms.length * 3 = 2 by omega]
      exact ⟨a, c, rfl, rfl, rfl, hsl, hc, fun hne d hd => Or.inr ⟨hne, d, hd, rfl⟩⟩
  · have hz : (W9.setCell ⟨r, 1, none⟩ v').heap.size = W9.heap.size := by simp [World.setCell]
    rw [hz]
    rcases hj with hj | ⟨hne, d, hd, rfl⟩
    · have := h.plt j hj; omega
    · obtain ⟨b, o, e2, h6⟩ := hs hne
      rw [e2] at hd
      cases hd
      have hpl : 0 < ps.length := List.length_pos_iff.2 hne
      have : b < W.heap.size := World.block_lt_of_cell? W _ (h6 0 hpl)
      show b < _
      omega
  · rw [hvb] at hj
    cases hj
    exact ⟨hgne.2.2.1, hgne.1, hgne.2.1, hgne.2.2.2⟩
  · rcases hj with hj | ⟨hne, d, hd, rfl⟩
    · exact h.ap3 j hj
    · have hnot := ha hne d hd
      exact ⟨fun e => hnot (Or.inr (Or.inr (Or.inr (Or.inr e)))), fun e => hnot (Or.inl e), fun e => hnot (Or.inr (Or.inl e))⟩
  · exact hgr.os
  · exact hgr.tape
  · exact hgr.output
  · have hz : (W9.setCell ⟨r, 1, none⟩ v').heap.size = W9.heap.size := by simp [World.setCell]
    omega
  · exact hkeep k hk1 (fun e => hO (Or.inr (Or.inr (Or.inl e)))) (fun e => hO (Or.inl e))
  · rcases hj with hj | hj | hj | hj | hj
    · exact Or.inl (Or.inl hj)
    · exact Or.inl (Or.inr (Or.inl hj))
    · rw [hvb] at hj
      cases hj
      rcases hg with h1 | h1
      · exact Or.inl (Or.inr (Or.inr (Or.inl h1)))
      · exact Or.inr (by omega)
    · exact absurd hj id
    · exact Or.inl (Or.inr (Or.inr (Or.inr (Or.inr hj))))
end Go.Proofs.YtnphjdckdkjopaaGreatDoor
