import Derived.Test.YtpomdoelihmebaaGreatDoorMA1x3
import Derived.Test.YtpomdoelihmebaaGreatDoorMA0x0
import Derived.Test.YtpomdoelihmebaaGreatDoorMA0x1
import Derived.Test.YtpomdoelihmebaaGreatDoorMA1x1
import Derived.Deep.RegionHeld3
import Derived.Deep.RegionLaw
import Derived.Laws.IdiomStrings

/- repo's isName, has, hasBranch, hasRoom, Head, Object: what they tell. -/
namespace Go.Proofs.YtpomdoelihmebaaGreatDoor
open Go Go.RowKit Go.Proofs Go.Maps
set_option synthInstance.maxSize 1000

attribute [local go_sem] eql_errV neq_errV guard_errV

theorem roff_any (x : Nat) (w : World) : Calls Tryz.prog 53 #[.int .i32 x] w fun e w' => e = .returned (.bool (offR x)) ∧ ∃ q, w' = w.drewN q := by
  have fin : Hid (offR x = (decide (x < 97) || decide (122 < x))) := rfl
  by_cases h : x < 97
  · have h' : decide ((x : Int) < 97) = true := by simp; omega
    go_enter Tryz.func53, Tryz.ntmps53
    go_wp2
    go_ret
    exact ⟨ret_bool (by rw [fin.out]; simp [h]), 0, rfl⟩
  · have h' : decide ((x : Int) < 97) = false := by simp; omega
    go_enter Tryz.func53, Tryz.ntmps53
    go_wp2
    go_ret
    exact ⟨ret_bool (by rw [fin.out]; simp [h]; omega), 0, rfl⟩
theorem entersName : ∀ args w, (callFunc 53 args).run Tryz.prog w = .ok (.enter 53 args) w := enters_of Tryz.func53 (by kernel_rfl) rfl

theorem QIsName_any (v : List UInt8) (w : World) (hv : v.length ≤ maxLen) :
    Calls Tryz.prog 29 #[.string ⟨v.toArray⟩] w fun e w' => e = .returned (.bool (nameR v)) ∧ RowKit.Below w.heap.size w w' := by
  have H := fun W => Tryz.strings_ContainsFunc 53 #[] entersName offR ⟨v.toArray⟩ W (fun W' x _ => roff_any x W')
  have e : decide (0 ≤ Lib.idxFunc offR true ⟨v.toArray⟩) = !allB letB v := offAny ⟨v.toArray⟩
  rw [e] at H
  have fin : Hid (nameR v = (!v.isEmpty && (decide (v.length ≤ 10) && allB letB v))) := rfl
  unfold maxLen at hv
  generalize allB letB v = d at *
  clear e
  cases v with
  | nil =>
    go_enter Tryz.func29, Tryz.ntmps29
    go_wp2
    go_ret
    exact ⟨ret_bool (by rw [fin.out]; rfl), RowKit.Below.refl _ _⟩
  | cons a v =>
    obtain ⟨u, hu⟩ : ∃ u, u = a :: v := ⟨_, rfl⟩
    rw [← hu] at H fin hv ⊢
    have h0 : (0 : Int) < (u.length : Int) := by rw [hu, List.length_cons]; omega
    have fin2 : Hid (nameR u = (decide (u.length ≤ 10) && d)) := by show _ = _; rw [fin.out, hu]; rfl
    clear hu fin
    by_cases h : u.length ≤ 10
    · have h' : decide ((u.length : Int) ≤ 10) = true := by simp; omega
      go_enter Tryz.func29, Tryz.ntmps29
      go_wp2_with (go_at_call 52; refine (H _).mono ?_; rintro e w' ⟨rfl, hb⟩)
      go_ret
      exact ⟨ret_bool (by rw [fin2.out]; simp [h]), by assumption⟩
    · have h' : decide ((u.length : Int) ≤ 10) = false := by simp; omega
      go_enter Tryz.func29, Tryz.ntmps29
      go_wp2
      go_ret
      exact ⟨ret_bool (by rw [fin2.out]; simp [h]), RowKit.Below.refl _ _⟩

/-- a look-up of a branch -/
theorem look_br {w : World} {bm : Nat} {l : List Rf} (h : BrMap w bm l) (t : List UInt8) (ht : t.length ≤ maxLen) :
    (Instr.lookup 71 (.map (some bm)) (.string ⟨t.toArray⟩) true).run Tryz.prog w = .ok (.tuple #[.int .i64 (brI l t), .bool (decide (0 ≤ atR l t))]) w := by
  obtain ⟨D, o1, f1, hs⟩ := h
  obtain ⟨v, ps, hrun, hv⟩ := o1.look_ok keyedSO Tryz.underlying71 (zeroNum w) (plainElem_int Tryz.underlying3 (by decide)) (keyS t ht)
  rw [(f1 t ht).2] at hv
  obtain ⟨a, rfl, ha, _⟩ := plainElem_int_inv Tryz.underlying3 hv
  simp only [Prod.mk.injEq, DataW.lit.injEq, Lit.int.injEq, true_and] at ha
  rw [hrun, (f1 t ht).1, ha.1]
theorem BrMap.drew {w : World} {bm : Nat} {l : List Rf} (h : BrMap w bm l) : BrMap w.drew bm l := h.keep rfl
theorem brI_pos {l : List Rf} {t : List UInt8} (h : 0 ≤ atR l t) : brI l t = atR l t := if_pos h

theorem Qhas_any (w : World) (r s bm : Nat) (cv : Value) (OS P : Nat → Prop) (R : Rp) (a : Int) (h : RpW w r s bm cv OS P R) :
    Calls Tryz.prog 34 #[.pointer (some ⟨r, 0, none⟩), .int .i64 a] w fun e w' => e = .returned (.bool (inR R a)) ∧ RowKit.Below w.heap.size w w' := by
  obtain ⟨c0, c1, c2, cf⟩ := h.cells
  obtain ⟨ad, cap, rfl⟩ := h.com.form
  have hlt := h.lt
  have fin : Hid (inR R a = (decide (0 ≤ a) && decide (a < (R.coms.length : Int)))) := by show _ = _; unfold inR; rw [Bool.eq_iff_iff]; simp
  generalize inR R a = q at *
  clear h
  by_cases h0 : 0 ≤ a
  all_goals
    go_enter Tryz.func34, Tryz.ntmps34
    go_wp2
    go_ret
    exact ⟨ret_bool (by rw [fin.out]; first | (rw [decide_eq_true h0]; simp) | (rw [decide_eq_false (show ¬ (0 ≤ a) by omega)]; rfl)), RowKit.Below.refl _ _⟩

theorem QhasBranch_any (w : World) (r s bm : Nat) (cv : Value) (OS P : Nat → Prop) (R : Rp) (b : List UInt8) (h : RpW w r s bm cv OS P R) (hb : b.length ≤ maxLen) :
    Calls Tryz.prog 35 #[.pointer (some ⟨r, 0, none⟩), .string ⟨b.toArray⟩] w fun e w' => e = .returned (.bool (decide (0 ≤ atR R.refs b))) ∧ RowKit.Below w.heap.size w w' := by
  obtain ⟨c0, c1, c2, cf⟩ := h.cells
  have hlt := h.lt
  have hl := look_br h.map b hb
  clear h hb
  generalize decide (0 ≤ atR R.refs b) = q at *
  generalize brI R.refs b = z at *
  go_enter Tryz.func35, Tryz.ntmps35
  go_wp2_with fail
  go_ret
  exact ⟨rfl, RowKit.Below.refl _ _⟩

theorem QhasRoom_any (w : World) (r s bm : Nat) (cv : Value) (OS P : Nat → Prop) (R : Rp) (h : RpW w r s bm cv OS P R) :
    Calls Tryz.prog 36 #[.pointer (some ⟨r, 0, none⟩)] w fun e w' => e = .returned (.bool (decide (R.refs.length < 8))) ∧ RowKit.Below w.heap.size w w' := by
  obtain ⟨c0, c1, c2, cf⟩ := h.cells
  have hlt := h.lt
  obtain ⟨D, o1, f1, hs⟩ := h.map
  have fin : Hid (decide (R.refs.length < 8) = decide (((Maps.size D : Nat) : Int) < 8)) := by show _ = _; rw [hs, Bool.eq_iff_iff]; simp; omega
  clear h f1 hs
  generalize decide (R.refs.length < 8) = q at *
  go_enter Tryz.func36, Tryz.ntmps36
  go_wp2_with (at_len; refine wpList_len_own _ rfl _ 71 rfl 9 3 Tryz.underlying71 _ bm _ D rfl o1 ?_)
  go_ret
  exact ⟨ret_bool (by rw [fin.out]), RowKit.Below.refl _ _⟩

theorem QHead_any (w : World) (r s bm : Nat) (cv : Value) (OS P : Nat → Prop) (R : Rp) (b : List UInt8) (h : RpW w r s bm cv OS P R) (hb : b.length ≤ maxLen) :
    Calls Tryz.prog 11 #[.pointer (some ⟨r, 0, none⟩), .string ⟨b.toArray⟩] w fun e w' => e = .returned (.tuple #[.int .i64 (headI R b), errV (headE R b)]) ∧ RowKit.Below w.heap.size w w' := by
  have HN := fun W => QIsName_any b W hb
  have HL := fun W (hW : RowKit.Below w.heap.size w W) => look_br (h.below hW).map b hb
  have HC := fun W (hW : RowKit.Below w.heap.size w W) => (h.below hW).cells
  have hlt := h.lt
  clear h hb
  cases hn : nameR b with
  | false =>
    have eE : headE R b = 2 := by unfold headE; rw [if_pos hn]
    have eI : headI R b = 0 := by unfold headI; rw [if_neg (by rw [eE]; decide)]
    rw [eE, eI]
    rw [hn] at HN
    clear HL HC hn eE eI
    go_enter Tryz.func11, Tryz.ntmps11
    go_wp2_with (go_at_call 29; refine (HN _).mono ?_; rintro e w1 ⟨rfl, hb1⟩; dsimp only)
    exact bodyPost_ret (v := .tuple #[.int .i64 0, .iface 75 (.int .i64 2)]) (by unfold results; rw [Tryz.results11]; go_simp) rfl ⟨rfl, hb1⟩
  | true =>
    rw [hn] at HN
    by_cases h0 : 0 ≤ atR R.refs b
    · have eE : headE R b = 0 := by unfold headE; rw [if_neg (by rw [hn]; decide), if_neg (by omega)]
      have eI : headI R b = atR R.refs b := by unfold headI; rw [if_pos eE]
      rw [eE, eI]
      rw [brI_pos h0, decide_eq_true h0] at HL
      clear hn eE eI
      generalize atR R.refs b = z at *
      go_enter Tryz.func11, Tryz.ntmps11
      go_wp2_with (go_at_call 29; refine (HN _).mono ?_; rintro e w1 ⟨rfl, hb1⟩; dsimp only; obtain ⟨k0, k1, k2, kf⟩ := HC _ hb1; have hl := HL _ hb1; have hlt1 : r < w1.heap.size := (by have := hb1.size; omega))
      exact bodyPost_ret (v := .tuple #[.int .i64 z, .nilIface]) (by unfold results; rw [Tryz.results11]; go_simp) rfl ⟨rfl, hb1⟩
    · have eE : headE R b = 5 := by unfold headE; rw [if_neg (by rw [hn]; decide), if_pos (by omega)]
      have eI : headI R b = 0 := by unfold headI; rw [if_neg (by rw [eE]; decide)]
      rw [eE, eI]
      rw [show brI R.refs b = 0 from if_neg h0, decide_eq_false h0] at HL
      clear hn eE eI
      go_enter Tryz.func11, Tryz.ntmps11
      go_wp2_with (go_at_call 29; refine (HN _).mono ?_; rintro e w1 ⟨rfl, hb1⟩; dsimp only; obtain ⟨k0, k1, k2, kf⟩ := HC _ hb1; have hl := HL _ hb1; have hlt1 : r < w1.heap.size := (by have := hb1.size; omega))
      exact bodyPost_ret (v := .tuple #[.int .i64 0, .iface 75 (.int .i64 5)]) (by unfold results; rw [Tryz.results11]; go_simp) rfl ⟨rfl, hb1⟩

theorem QObject_any (w : World) (r s bm : Nat) (cv : Value) (OS P : Nat → Prop) (R : Rp) (id : Int) (h : RpW w r s bm cv OS P R) (hg : GoodR R) :
    Calls Tryz.prog 27 #[.pointer (some ⟨r, 0, none⟩), .int .i64 id] w fun e w' => e = .returned (.tuple #[.string ⟨(getB R.L id).toArray⟩, errV (getE R.L id)]) ∧ RowKit.Below w.heap.size w w' := by
  obtain ⟨c0, c1, c2, cf⟩ := h.cells
  have hlt := h.lt
  have H := theFace.get w s OS R.n R.L id h.st hg.store
  clear h hg
  generalize getB R.L id = B at *
  generalize getE R.L id = N at *
  go_enter Tryz.func27, Tryz.ntmps27
  go_wp2_with (go_at_call 51; refine H.mono ?_; rintro e w1 ⟨rfl, hb1⟩; dsimp only)
  exact bodyPost_ret (v := .tuple #[.string ⟨B.toArray⟩, errV N]) (by unfold results; rw [Tryz.results27]; go_simp) rfl ⟨rfl, hb1⟩
end Go.Proofs.YtpomdoelihmebaaGreatDoor

/- A commit of the program's repo, and its graph: what is known of it. -/
namespace Go.Proofs.YtpomdoelihmebaaGreatDoor
open Go Go.RowKit Go.Proofs Go.Maps
set_option synthInstance.maxSize 1000

theorem gr_at {R : Rp} (h : GoodR R) {k : Nat} (hk : k < R.coms.length) : ∃ c g, R.coms[k]? = some c ∧ R.gr[k]? = some g ∧ IsSet g ∧ (∀ p ∈ c.1, 0 ≤ p ∧ p < (k : Int)) := by
  have hk2 : k < R.gr.length := by rw [h.len]; exact hk
  exact ⟨R.coms[k], R.gr[k], List.getElem?_eq_getElem hk, List.getElem?_eq_getElem hk2, h.sets _ (List.getElem_mem hk2), range_par (h.coms.2 k hk)⟩
/-- a commit in the row -/
theorem ComRow.at_ {w : World} {cv : Value} {l : List Cm} {P : Nat → Prop} (h : ComRow w cv l P) {k : Nat} {c : Cm} (hc : l[k]? = some c) : ∃ g cap a ca, cv = .slice (some ⟨g, 0, none⟩) l.length cap ∧ w.cell? ⟨g, k * 3, none⟩ = some (.slice a c.1.length ca) ∧ w.cell? ⟨g, k * 3 + 1, none⟩ = some (.int .i64 c.2.1) ∧ w.cell? ⟨g, k * 3 + 2, none⟩ = some (.string ⟨c.2.2.toArray⟩) ∧ SlI w a c.1 ∧ c.1.length ≤ ca := by
  obtain ⟨cs, ho, h2⟩ := h
  obtain ⟨hk, rfl⟩ := List.getElem?_eq_some_iff.1 hc
  obtain ⟨g, cap, e, _, hx⟩ := prow_at ho (by omega)
  obtain ⟨a, ca, q1, q2, q3, q4, q5, q6⟩ := h2 k hk
  exact ⟨g, cap, a, ca, e, hx _ _ q1, hx _ _ q2, hx _ _ q3, q4, q5⟩

end Go.Proofs.YtpomdoelihmebaaGreatDoor

/- repo's find: the commit that is there already. -/
namespace Go.Proofs.YtpomdoelihmebaaGreatDoor
open Go Go.RowKit Go.Proofs Go.Maps
set_option synthInstance.maxSize 1000

attribute [local go_sem] eql_errV neq_errV guard_errV

/-- what is asked of a test of commits -/
def PredC (g : Nat) (lb : Array Value) (p : Cm → Bool) (w : World) : Prop :=
  ∀ (W : World) (c : Cm) (a : Option Addr) (ca : Nat), RowKit.Below w.heap.size w W → SlI W a c.1 → c.1.length ≤ maxLen → Calls Tryz.prog g (#[.agg #[.slice a c.1.length ca, .int .i64 c.2.1, .string ⟨c.2.2.toArray⟩]] ++ lb) W fun e w' => e = .returned (.bool (p c)) ∧ RowKit.Below W.heap.size W w'
/-- commits that lie there, now and later -/
def ComsHere (w : World) (ad : Option Addr) (l : List Cm) : Prop := ∀ W, RowKit.Below w.heap.size w W → ∀ (k : Nat) (hk : k < l.length), ∃ g a ca, ad = some ⟨g, 0, none⟩ ∧ W.cell? ⟨g, k * 3, none⟩ = some (.slice a l[k].1.length ca) ∧ W.cell? ⟨g, k * 3 + 1, none⟩ = some (.int .i64 l[k].2.1) ∧ W.cell? ⟨g, k * 3 + 2, none⟩ = some (.string ⟨l[k].2.2.toArray⟩) ∧ SlI W a l[k].1 ∧ l[k].1.length ≤ ca
theorem RpW.here {w : World} {r s bm : Nat} {ad : Option Addr} {cap : Nat} {OS P : Nat → Prop} {R : Rp} {n : Nat} (h : RpW w r s bm (.slice ad n cap) OS P R) : ComsHere w ad R.coms := fun W hW k hk => by
  obtain ⟨g, cap', a, ca, e, q⟩ := (h.below hW).com.at_ (List.getElem?_eq_getElem hk)
  obtain ⟨rfl, _, _⟩ := Value.slice.inj e
  exact ⟨g, a, ca, rfl, q⟩
theorem idx_at {l : List Cm} {p : Cm → Bool} {k : Nat} (h : l.findIdx? p = some k) : idxI (l.findIdx? p) = (k : Int) := by rw [h]; rfl
theorem find_first {l : List Cm} {p : Cm → Bool} {k : Nat} (hk : k < l.length) (hn : ∀ (j : Nat) (hj : j < l.length), j < k → p l[j] = false) (h : p l[k] = true) : l.findIdx? p = some k := by
  rw [List.findIdx?_eq_some_iff_getElem]
  exact ⟨hk, h, fun j hj => by rw [hn j (by omega) hj]; decide⟩
theorem find_not {l : List Cm} {p : Cm → Bool} (hn : ∀ (j : Nat) (hj : j < l.length), p l[j] = false) : l.findIdx? p = none := by
  rw [List.findIdx?_eq_none_iff]
  intro x hx
  obtain ⟨j, hj, rfl⟩ := List.getElem_of_mem hx
  exact hn j hj
theorem findP_idx (l : List Cm) (id : Int) (t : List UInt8) (ps : List Int) : findP l id t ps = l.findIdx? fun c => hitB c id t ps := by
  induction l with
  | nil => rfl
  | cons c r ih =>
    unfold findP
    rw [List.findIdx?_cons, ih]
    by_cases h : c.2.1 = id ∧ c.2.2 = t ∧ c.1 = ps
    · rw [if_pos h, hitB_iff.2 h]; rfl
    · have : hitB c id t ps = false := by
        cases hh : hitB c id t ps with
        | false => rfl
        | true => exact absurd (hitB_iff.1 hh) h
      rw [if_neg h, this]
      simp

set_option maxHeartbeats 4000000 in
set_option maxRecDepth 100000 in
theorem QIndex_any (g : Nat) (lb : Array Value) (p : Cm → Bool) (w : World) (ad : Option Addr) (ca : Nat) (l : List Cm) (eg : ∀ args w, (callFunc g args).run Tryz.prog w = .ok (.enter g args) w) (hp : PredC g lb p w) (hs : ComsHere w ad l) (hl : l.length ≤ 60) (hm : ∀ c ∈ l, c.1.length ≤ maxLen) :
    Calls Tryz.prog 115 #[.slice ad l.length ca, .func (.func g) #[] lb] w fun e w' => e = .returned (.int .i64 (idxI (l.findIdx? p))) ∧ RowKit.Below w.heap.size w w' := by
  have H := hideO hp
  have HS := hideO hs
  have HM := hideO hm
  clear hp hs hm
  go_enter Tryz.func115, Tryz.ntmps115
  go_wp2_with fail
  go_loopw [8] (fun i wr => ∃ (k : Nat), k ≤ l.length ∧ i = .int .i64 k ∧ RowKit.Below w.heap.size w wr ∧ Hid (∀ (j : Nat) (hj : j < l.length), j < k → p l[j] = false)) (fun i wr => l.length - (intOf i).toNat)
  case atStart => exact ⟨0, Nat.zero_le _, rfl, RowKit.Below.refl _ w, fun j hj h0 => by omega⟩
  case round =>
    obtain ⟨k, hk, rfl, hbr, hall⟩ := hrel
    by_cases hlt : k < l.length
    · obtain ⟨b, a, c, rfl, q0, q1, q2, q3, q4⟩ := HS.out wr hbr k hlt
      have hcall := H.out wr l[k] a c hbr q3 (HM.out _ (List.getElem_mem hlt))
      have i0 : (0 : Int) ≤ (k : Int) := by omega
      have i1 : (k : Int) < (l.length : Int) := by omega
      have HV : Hid (∀ q, p l[k] = q → (q = false → (∀ (j : Nat) (hj : j < l.length), j < k + 1 → p l[j] = false)) ∧ (q = true → idxI (l.findIdx? p) = (k : Int))) := by
        intro q hq
        refine ⟨fun e j hj h1 => ?_, fun e => idx_at (find_first hlt (fun j hj h => hall.out j hj h) (hq.trans e))⟩
        by_cases ej : j = k
        · subst ej; exact hq.trans e
        · exact hall.out j hj (by omega)
      clear q3 q4
      cases hq : p l[k] with
      | false =>
        rw [hq] at hcall
        have hnext : Hid (∀ (j : Nat) (hj : j < l.length), j < k + 1 → p l[j] = false) := (HV.out _ hq).1 rfl
        clear HV hq hall
        generalize l[k] = z at *
        obtain ⟨z1, z2, z3⟩ := z
        dsimp only at *
        go_wp2_with (go_at_fn g; refine hcall.mono ?_; rintro e w' ⟨rfl, hb'⟩; dsimp only)
        go_roundw
        case rel => exact ⟨k + 1, by omega, by go_num, bstep hbr hb', hnext⟩
        case measure => simp [intOf]; omega
      | true =>
        rw [hq] at hcall
        have hno2 : Hid (idxI (l.findIdx? p) = (k : Int)) := (HV.out _ hq).2 rfl
        clear HV hq hall
        generalize l[k] = z at *
        obtain ⟨z1, z2, z3⟩ := z
        dsimp only at *
        go_wp2_with (go_at_fn g; refine hcall.mono ?_; rintro e w' ⟨rfl, hb'⟩; dsimp only)
        go_ret
        exact ⟨by rw [hno2.out]; rfl, bstep hbr hb'⟩
    · have hkk : k = l.length := by omega
      have hyes : Hid (l.findIdx? p = none) := find_not fun j hj => hall.out j hj (by omega)
      subst hkk
      clear hall
      go_wp2_with fail
      go_ret
      exact ⟨by rw [hyes.out]; rfl, hbr⟩

set_option maxHeartbeats 4000000 in
set_option maxRecDepth 100000 in
theorem Qfind_any (w : World) (r s bm : Nat) (cv : Value) (OS P : Nat → Prop) (R : Rp) (pd : Option Addr) (pc : Nat) (ps : List Int) (b t : List UInt8) (h : RpW w r s bm cv OS P R) (hg : GoodR R) (hs : SlI w pd ps) (hl : ps.length ≤ maxLen) (hb : b.length ≤ reachBytes) :
    Calls Tryz.prog 81 #[.pointer (some ⟨r, 0, none⟩), .slice pd ps.length pc, .string ⟨b.toArray⟩, .string ⟨t.toArray⟩] w fun e w' => e = .returned (.int .i64 (idxI (if findO R.L b = 0 then none else findP R.coms (findO R.L b : Int) t ps))) ∧ RowKit.Below w.heap.size w w' := by
  have HF := fun W (hW : RowKit.Below w.heap.size w W) => theFace.find W s OS R.n R.L b (h.below hW).st hg.store hb
  obtain ⟨ad, cap, rfl⟩ := h.com.form
  have HI := hideO (fun W (hW : RowKit.Below w.heap.size w W) (B1 B2 B3 : Nat) (id : Int) (hf : FindG W B1 B2 B3 id t pd pc ps) => QIndex_any 116 #[.pointer (some ⟨B1, 0, none⟩), .pointer (some ⟨B2, 0, none⟩), .pointer (some ⟨B3, 0, none⟩)] (fun c => hitB c id t ps) W ad cap R.coms entersFind (fun W' c a ca hW' hc hcl => Qfind1_any W' B1 B2 B3 id t pd pc ps a ca c.1 c.2.1 c.2.2 (hf.below hW') hc hcl) (h.below hW).here hg.coms.1 (fun c hc => by
    obtain ⟨j, hj, rfl⟩ := List.getElem_of_mem hc
    have := hg.coms.2 j hj
    unfold comN at this
    split at this
    · cases this
    · unfold maxLen; omega))
  have HL := hideO (fun W (hW : RowKit.Below w.heap.size w W) => ((h.below hW).cells))
  have HS := hideO hs
  have HB := hideO hl
  have hlt := h.lt
  have hmx : R.coms.length ≤ 60 := hg.coms.1
  have E1 : findE R.L b = if findO R.L b = 0 then 5 else 0 := rfl
  rw [E1] at HF
  clear h hs hl hb E1 hg
  generalize findO R.L b = q at *
  have hba2 := bstep (balloc w (.cells #[.slice pd ps.length pc] 48)) (balloc (w.alloc (.cells #[.slice pd ps.length pc] 48)) (.cells #[.string ⟨t.toArray⟩] 9))
  have HA := hideO hba2
  have d3 : ((w.alloc (.cells #[.slice pd ps.length pc] 48)).alloc (.cells #[.string ⟨t.toArray⟩] 9)).cell? ⟨w.heap.size, 0, none⟩ = some (.slice pd ps.length pc) := by go_simp
  have d2 : ((w.alloc (.cells #[.slice pd ps.length pc] 48)).alloc (.cells #[.string ⟨t.toArray⟩] 9)).cell? ⟨w.heap.size + 1, 0, none⟩ = some (.string ⟨t.toArray⟩) := by go_simp
  have D3 := hideO d3
  have D2 := hideO d2
  obtain ⟨k0, k1, k2, kf⟩ := HL.out _ hba2
  have z1 : r < ((w.alloc (.cells #[.slice pd ps.length pc] 48)).alloc (.cells #[.string ⟨t.toArray⟩] 9)).heap.size := by have := hba2.size; omega
  have HFA := HF _ hba2
  clear hba2 d3 d2 HF
  by_cases hq : q = 0
  · subst hq
    rw [if_pos rfl] at HFA ⊢
    clear HI HS HB D3 D2 HL
    go_enter Tryz.func81, Tryz.ntmps81
    go_wp2_with (go_at_call 114; refine HFA.mono ?_; rintro e w1 ⟨rfl, hb1⟩; rw [show errV 5 = Value.iface 75 (.int .i64 5) from rfl]; dsimp only)
    go_ret
    exact ⟨rfl, bstep (bstep HA.out hb1) (balloc _ _)⟩
  · rw [if_neg hq] at HFA ⊢
    rw [findP_idx]
    go_enter Tryz.func81, Tryz.ntmps81
    go_wp2_with (go_at_call 114; refine HFA.mono ?_; rintro e w1 ⟨rfl, hb1⟩; rw [show errV 0 = Value.nilIface from rfl]; dsimp only; have hb2 := bstep hb1 (balloc w1 (.cells #[.int .i64 (q : Int)] 3)); obtain ⟨m0, m1, m2, mf⟩ := HL.out _ (bstep HA.out hb2); have z2 : r < (w1.alloc (.cells #[.int .i64 (q : Int)] 3)).heap.size := (by have := hb2.size; omega))
    have hf : FindG (w1.alloc (.cells #[.int .i64 (q : Int)] 3)) w1.heap.size (w.heap.size + 1) w.heap.size (q : Int) t pd pc ps := ⟨by go_simp, (hb2.cell (World.block_lt_of_cell? _ _ D2.out)).trans D2.out, (hb2.cell (World.block_lt_of_cell? _ _ D3.out)).trans D3.out, HS.out.below (bstep HA.out hb2), HB.out⟩
    refine (HI.out _ (bstep HA.out hb2) _ _ _ _ hf).mono ?_
    rintro e w3 ⟨rfl, hb3⟩
    dsimp only
    go_wp2_with fail
    go_ret
    exact ⟨rfl, bstep (bstep HA.out hb2) hb3⟩
end Go.Proofs.YtpomdoelihmebaaGreatDoor

/- layer: Between, after, follows, Then, Apply: what they tell. -/
namespace Go.Proofs.YtpomdoelihmebaaGreatDoor
open Go Go.RowKit Go.Proofs
set_option synthInstance.maxSize 1000

attribute [local go_sem] eql_errV neq_errV guard_errV

set_option maxHeartbeats 4000000 in
set_option maxRecDepth 100000 in
theorem LBetween_any (ad bd : Option Addr) (ca cb : Nat) (a b : List Tr) (w : World) (ha : SlT w ad a) (hb : SlT w bd b) (fa : ∀ x ∈ a, fitTr x) (fb : ∀ x ∈ b, fitTr x) (na : a.length ≤ 9223372036854775807) (nb : b.length ≤ 9223372036854775807) :
    Calls Tryz.prog 79 #[.slice ad a.length ca, .slice bd b.length cb] w (LAns (bothN a b) (BtwAns a b) w) := by
  have H1 := fun W h1 h2 => Less_any ad bd ca cb a b W h1 h2 fa fb na nb
  have H2 := fun W h1 h2 => Less_any bd ad cb ca b a W h1 h2 fb fa nb na
  have Ha : Hid (SlT w ad a) := ha
  have Hb : Hid (SlT w bd b) := hb
  have f0 : Hid (¬ bothN a b = 0 → BtwAns a b [] []) := fun h0 => ⟨fun h => absurd h h0, fun _ => ⟨rfl, rfl⟩⟩
  have f1 : Hid (bothN a b = 0 → bothN b a = 0 ∧ ∀ m m', LessAns a b m → LessAns b a m' → BtwAns a b m' m) := fun h0 => by
    refine ⟨bothN_comm0 h0, fun m m' h1 h2 => ⟨fun _ => ?_, fun h => absurd h0 h⟩⟩
    unfold LessAns at h1 h2
    rw [if_pos h0] at h1
    rw [if_pos (bothN_comm0 h0)] at h2
    exact ⟨h2, h1⟩
  generalize BtwAns a b = TA at *
  generalize LessAns a b = LA at *
  generalize LessAns b a = LB at *
  generalize bothN a b = n at *
  generalize bothN b a = n' at *
  clear ha hb fa fb na nb
  go_enter Tryz.func79, Tryz.ntmps79
  go_wp2_with fail
  refine (H1 _ (Ha.out.below (balloc _ _)) (Hb.out.below (balloc _ _))).mono ?_
  rintro e w1 ⟨hb1, m, am, cm, rfl, hm, hLA⟩
  have hB1 := bstep (balloc _ _) hb1
  obtain ⟨y0, y1, hz2, y2, y3⟩ := twobox hb1
  have Hm : Hid (SlT w1 am m ∧ LA m) := ⟨hm, hLA⟩
  clear hm hLA H1
  cases hn : (n == 0)
  · have h0 : ¬ n = 0 := by simpa using hn
    have F0 : Hid _ := f0.out h0
    clear h0 f0 f1 H2
    go_wp2_with fail
    exact bodyPost_ret (v := .tuple #[.agg #[.slice none 0 0, .slice none 0 0], errV n]) (by unfold results; rw [Tryz.results79]; go_simp) rfl (LAns.mk (below_two hB1 (Nat.le_refl _) _ _) [] none 0 [] none 0 (slT_nil _ _) (slT_nil _ _) F0.out)
  · have h0 : n = 0 := by simpa using hn
    obtain ⟨hn', F1⟩ := f1.out h0
    have F2 : Hid _ := F1
    subst h0
    subst hn'
    rw [show errV 0 = .nilIface from rfl]
    clear hn f0 f1 F1
    go_wp2_with fail
    refine (H2 _ (Hb.out.below hB1) (Ha.out.below hB1)).mono ?_
    rintro e w2 ⟨hb2, q, aq, cq, rfl, hq, hLB⟩
    rw [show errV 0 = .nilIface from rfl]
    have hB2 := bstep hB1 hb2
    have hBx := bstep hb1 hb2
    clear y0 y1 hz2 y2 y3
    obtain ⟨y0, y1, hz2, y2, y3⟩ := twobox hBx
    have Hq : Hid (SlT w2 am m ∧ SlT w2 aq q ∧ LB q ∧ LA m) := ⟨Hm.out.1.below hb2, hq, hLB, Hm.out.2⟩
    clear hq hLB Hm hb1 hb2 H2
    go_wp2_with fail
    exact bodyPost_ret (v := .tuple #[.agg #[.slice aq q.length cq, .slice am m.length cm], .nilIface]) (by unfold results; rw [Tryz.results79]; go_simp) rfl (LAns.mk (n := 0) (below_two hB2 (Nat.le_refl _) _ _) q aq cq m am cm (Hq.out.2.1.put2 y0 y1 _ _) (Hq.out.1.put2 y0 y1 _ _) (F2.out m q Hq.out.2.2.2 Hq.out.2.2.1))
end Go.Proofs.YtpomdoelihmebaaGreatDoor

/- layer: Turn, Between, after: what they tell. -/
namespace Go.Proofs.YtpomdoelihmebaaGreatDoor
open Go Go.RowKit Go.Proofs
set_option synthInstance.maxSize 1000

attribute [local go_sem] eql_errV neq_errV guard_errV

theorem twobox1 {w W : World} {T : TypeId} {o : Obj} {a0 a1 : Value} (hb : RowKit.Below ((w.alloc (.cells #[a0, a1] T)).alloc o).heap.size ((w.alloc (.cells #[a0, a1] T)).alloc o) W) :
    W.cell? ⟨w.heap.size, 0, none⟩ = some a0 ∧ W.cell? ⟨w.heap.size, 1, none⟩ = some a1 ∧ w.heap.size < W.heap.size ∧ W.frozen? ⟨w.heap.size, 0, none⟩ = false ∧ W.frozen? ⟨w.heap.size, 1, none⟩ = false := twobox (bstep (balloc _ _) hb)
theorem twobox2 {w W : World} {T : TypeId} {o : Obj} {a0 a1 : Value} (hb : RowKit.Below ((w.alloc o).alloc (.cells #[a0, a1] T)).heap.size ((w.alloc o).alloc (.cells #[a0, a1] T)) W) :
    W.cell? ⟨w.heap.size + 1, 0, none⟩ = some a0 ∧ W.cell? ⟨w.heap.size + 1, 1, none⟩ = some a1 ∧ w.heap.size + 1 < W.heap.size ∧ W.frozen? ⟨w.heap.size + 1, 0, none⟩ = false ∧ W.frozen? ⟨w.heap.size + 1, 1, none⟩ = false := by
  have := twobox hb
  rw [World.size_alloc] at this
  exact this

end Go.Proofs.YtpomdoelihmebaaGreatDoor

/- layer: follows, Then, Apply: what they tell. -/
namespace Go.Proofs.YtpomdoelihmebaaGreatDoor
open Go Go.RowKit Go.Proofs
set_option synthInstance.maxSize 1000

attribute [local go_sem] eql_errV neq_errV guard_errV


set_option maxHeartbeats 4000000 in
set_option maxRecDepth 100000 in
theorem LApply_any (sd ad bd : Option Addr) (cs ca cb : Nat) (s a b : List Tr) (w : World) (hs : SlT w sd s) (ha : SlT w ad a) (hb : SlT w bd b) (fs : ∀ x ∈ s, fitTr x) (fa : ∀ x ∈ a, fitTr x) (fb : ∀ x ∈ b, fitTr x) (ns : s.length ≤ 9223372036854775807) (na : a.length ≤ 9223372036854775807) (nb : b.length ≤ 9223372036854775807) :
    Calls Tryz.prog 72 #[.slice sd s.length cs, .agg #[.slice ad a.length ca, .slice bd b.length cb]] w (Ans (applyN s a b) (ApplyAns s a b) w) := by
  have H1 := fun W h1 => Sorted_any sd cs s W h1 fs ns
  have H2 := fun W h1 h2 => LCheck_any ad bd ca cb a b W h1 h2 fa fb na nb
  have H3 := fun W h1 h2 => apart_any sd ad cs ca s a W h1 h2 fs fa ns na
  have H4 := fun W h1 h2 => within_any sd bd cs cb s b W h1 h2 fs fb ns nb
  have H5 := fun W h1 h2 h3 => swap_any sd bd ad cs cb ca s b a W h1 h2 h3 fs fb fa ns nb na
  have HS : Hid (SlT w sd s ∧ SlT w ad a ∧ SlT w bd b) := ⟨hs, ha, hb⟩
  have fin : Hid (applyN s a b = orN (sortedN s) (orN (apartN a b) (orN (apartN s a) (orN (withinN s b) (swapN s b a))))) := rfl
  have f0 : Hid (∀ n, applyN s a b = n → ¬ n = 0 → ApplyAns s a b []) := fun n h h0 => ⟨fun e => absurd (h.symm.trans e) h0, fun _ => rfl⟩
  have f1 : Hid (applyN s a b = swapN s b a → ∀ m, SwapAns s b a m → ApplyAns s a b m) := fun h m hm => ⟨fun e => hm.1 (h.symm.trans e), fun e => hm.2 (fun e' => e (h.trans e'))⟩
  generalize ApplyAns s a b = AA at *
  generalize SwapAns s b a = SA at *
  generalize applyN s a b = N at *
  generalize sortedN s = n1 at *
  generalize apartN a b = n2 at *
  generalize apartN s a = n3 at *
  generalize withinN s b = n4 at *
  generalize swapN s b a = n5 at *
  clear hs ha hb fs fa fb ns na nb
  go_enter Tryz.func72, Tryz.ntmps72
  go_wp2_with fail
  refine (H1 _ (HS.out.1.below (balloc _ _))).mono ?_
  rintro e w1 ⟨rfl, hb1⟩
  have hB1 := bstep (balloc _ _) hb1
  obtain ⟨x0, x1, hz1, _, _⟩ := twobox hb1
  clear H1
  cases hn1 : (n1 == 0)
  · have h0 : ¬ n1 = 0 := by simpa using hn1
    have hN := fin.out.trans (orN_neg h0)
    have F0 : Hid _ := f0.out _ hN h0
    subst hN
    clear fin f0 f1 H2 H3 H4 H5 h0
    go_wp2_with fail
    exact bodyPost_ret (v := .tuple #[.slice none 0 0, errV N]) (by simp [results, Tryz.results72, go_sem]) rfl (Ans.mk hB1 [] none 0 (slT_nil _ _) F0.out)
  · have g1 : Hid (N = orN n2 (orN n3 (orN n4 n5))) := fin.out.trans (orN_pos (by simpa using hn1))
    clear fin
    go_wp2_with fail
    refine (H2 _ (HS.out.2.1.below hB1) (HS.out.2.2.below hB1)).mono ?_
    rintro e w2 ⟨rfl, hb2⟩
    have hB2 := bstep hB1 hb2
    have hb2' := bstep hb1 hb2
    clear x0 x1 hz1 H2 hb1 hb2
    obtain ⟨x0, x1, hz1, _, _⟩ := twobox hb2'
    cases hn2 : (n2 == 0)
    · have h0 : ¬ n2 = 0 := by simpa using hn2
      have hN := g1.out.trans (orN_neg h0)
      have F0 : Hid _ := f0.out _ hN h0
      subst hN
      clear g1 f0 f1 H3 H4 H5 h0
      go_wp2_with fail
      exact bodyPost_ret (v := .tuple #[.slice none 0 0, errV N]) (by simp [results, Tryz.results72, go_sem]) rfl (Ans.mk hB2 [] none 0 (slT_nil _ _) F0.out)
    · have g2 : Hid (N = orN n3 (orN n4 n5)) := g1.out.trans (orN_pos (by simpa using hn2))
      clear g1
      go_wp2_with fail
      refine (H3 _ (HS.out.1.below hB2) (HS.out.2.1.below hB2)).mono ?_
      rintro e w3 ⟨rfl, hb3⟩
      have hB3 := bstep hB2 hb3
      have hb3' := bstep hb2' hb3
      clear x0 x1 hz1 H3 hb2' hb3
      obtain ⟨x0, x1, hz1, _, _⟩ := twobox hb3'
      cases hn3 : (n3 == 0)
      · have h0 : ¬ n3 = 0 := by simpa using hn3
        have hN := g2.out.trans (orN_neg h0)
        have F0 : Hid _ := f0.out _ hN h0
        subst hN
        clear g2 f0 f1 H4 H5 h0
        go_wp2_with fail
        exact bodyPost_ret (v := .tuple #[.slice none 0 0, errV N]) (by simp [results, Tryz.results72, go_sem]) rfl (Ans.mk hB3 [] none 0 (slT_nil _ _) F0.out)
      · have g3 : Hid (N = orN n4 n5) := g2.out.trans (orN_pos (by simpa using hn3))
        clear g2
        go_wp2_with fail
        refine (H4 _ (HS.out.1.below hB3) (HS.out.2.2.below hB3)).mono ?_
        rintro e w4 ⟨rfl, hb4⟩
        have hB4 := bstep hB3 hb4
        have hb4' := bstep hb3' hb4
        clear x0 x1 hz1 H4 hb3' hb4
        obtain ⟨x0, x1, hz1, _, _⟩ := twobox hb4'
        cases hn4 : (n4 == 0)
        · have h0 : ¬ n4 = 0 := by simpa using hn4
          have hN := g3.out.trans (orN_neg h0)
          have F0 : Hid _ := f0.out _ hN h0
          subst hN
          clear g3 f0 f1 H5 h0
          go_wp2_with fail
          exact bodyPost_ret (v := .tuple #[.slice none 0 0, errV N]) (by simp [results, Tryz.results72, go_sem]) rfl (Ans.mk hB4 [] none 0 (slT_nil _ _) F0.out)
        · have hN := g3.out.trans (orN_pos (by simpa using hn4))
          have F1 : Hid _ := f1.out hN
          subst hN
          clear g3 f0 f1
          go_wp2_with fail
          refine (H5 _ (HS.out.1.below hB4) (HS.out.2.2.below hB4) (HS.out.2.1.below hB4)).mono ?_
          rintro e w5 ⟨hb5, q, aq, cq, rfl, hq, hSA⟩
          have Hq : Hid (SlT w5 aq q ∧ SA q) := ⟨hq, hSA⟩
          clear hq hSA H5
          go_wp2_with fail
          exact bodyPost_ret (v := .tuple #[.slice aq q.length cq, errV N]) (by simp [results, Tryz.results72, go_sem]) rfl (Ans.mk (bstep hB4 hb5) q aq cq Hq.out.1 (F1.out q Hq.out.2))
end Go.Proofs.YtpomdoelihmebaaGreatDoor

/- layer.Then: what it tells; stratasame.Layer. -/
namespace Go.Proofs.YtpomdoelihmebaaGreatDoor
open Go Go.RowKit Go.Proofs
set_option synthInstance.maxSize 1000

attribute [local go_sem] eql_errV neq_errV guard_errV

theorem threebox {w W : World} {T T' T'' : TypeId} {a0 a1 b0 b1 c0 c1 : Value} (hb : RowKit.Below (((w.alloc (.cells #[a0, a1] T)).alloc (.cells #[b0, b1] T')).alloc (.cells #[c0, c1] T'')).heap.size (((w.alloc (.cells #[a0, a1] T)).alloc (.cells #[b0, b1] T')).alloc (.cells #[c0, c1] T'')) W) :
    W.cell? ⟨w.heap.size, 0, none⟩ = some a0 ∧ W.cell? ⟨w.heap.size, 1, none⟩ = some a1 ∧ W.cell? ⟨w.heap.size + 1, 0, none⟩ = some b0 ∧ W.cell? ⟨w.heap.size + 1, 1, none⟩ = some b1 ∧ W.cell? ⟨w.heap.size + 1 + 1, 0, none⟩ = some c0 ∧ W.cell? ⟨w.heap.size + 1 + 1, 1, none⟩ = some c1 ∧ w.heap.size + 1 + 1 < W.heap.size ∧ W.frozen? ⟨w.heap.size + 1 + 1, 0, none⟩ = false ∧ W.frozen? ⟨w.heap.size + 1 + 1, 1, none⟩ = false := by
  obtain ⟨x0, x1, _, _, _⟩ := twobox1 (bstep (balloc _ _) hb)
  obtain ⟨y0, y1, _, _, _⟩ := twobox2 (bstep (balloc _ _) hb)
  have h := twobox hb
  rw [World.size_alloc, World.size_alloc] at h
  exact ⟨x0, x1, y0, y1, h.1, h.2.1, h.2.2.1, h.2.2.2.1, h.2.2.2.2⟩


end Go.Proofs.YtpomdoelihmebaaGreatDoor

/- layer's calls where nothing is wrong: between two sets and three. -/
namespace Go.Proofs.YtpomdoelihmebaaGreatDoor
open Go Go.RowKit Go.Proofs
set_option synthInstance.maxSize 1000

/-- a layer's answer that is right -/
def LOk (w : World) (m1 m2 : List Tr) (e : Ending) (w' : World) : Prop := RowKit.Below w.heap.size w w' ∧ ∃ (a1 : Option Addr) (c1 : Nat) (a2 : Option Addr) (c2 : Nat), e = .returned (.tuple #[.agg #[.slice a1 m1.length c1, .slice a2 m2.length c2], .nilIface]) ∧ SlT w' a1 m1 ∧ SlT w' a2 m2
/-- a list's answer that is right -/
def TOk (w : World) (m : List Tr) (e : Ending) (w' : World) : Prop := RowKit.Below w.heap.size w w' ∧ ∃ (a1 : Option Addr) (c1 : Nat), e = .returned (.tuple #[.slice a1 m.length c1, .nilIface]) ∧ SlT w' a1 m

theorem setLen {a : List Tr} (h : IsSet a) : a.length ≤ 9223372036854775807 := by have := h.1; omega

theorem BtwGood_any (ad bd : Option Addr) (ca cb : Nat) (a b : List Tr) (w : World) (ha : SlT w ad a) (hb : SlT w bd b) (sa : IsSet a) (sb : IsSet b) :
    Calls Tryz.prog 79 #[.slice ad a.length ca, .slice bd b.length cb] w (LOk w (lessL b a) (lessL a b)) := by
  have h0 : bothN a b = 0 := bothN_zero.2 ⟨sa, sb⟩
  refine (LBetween_any ad bd ca cb a b w ha hb sa.fit sb.fit (setLen sa) (setLen sb)).mono ?_
  rintro e w' ⟨hb', m1, a1, c1, m2, a2, c2, rfl, h1, h2, hA, _⟩
  obtain ⟨rfl, rfl⟩ := hA h0
  exact ⟨hb', a1, c1, a2, c2, by rw [h0]; rfl, h1, h2⟩
theorem ApplyGood_any (ad a1 a2 : Option Addr) (ca c1 c2 : Nat) (a b : List Tr) (w : World) (ha : SlT w ad a) (h1 : SlT w a1 (lessL b a)) (h2 : SlT w a2 (lessL a b)) (sa : IsSet a) (sb : IsSet b) :
    Calls Tryz.prog 72 #[.slice ad a.length ca, .agg #[.slice a1 (lessL b a).length c1, .slice a2 (lessL a b).length c2]] w (TOk w b) := by
  have h0 := apply_btw sa sb
  have s1 : IsSet (lessL b a) := lessSet sb
  have s2 : IsSet (lessL a b) := lessSet sa
  refine (LApply_any ad a1 a2 ca c1 c2 a (lessL b a) (lessL a b) w ha h1 h2 sa.fit s1.fit s2.fit (setLen sa) (setLen s1) (setLen s2)).mono ?_
  rintro e w' ⟨hb', m, am, cm, rfl, hm, hA⟩
  obtain rfl := apply_btw_ans sa sb hA
  exact ⟨hb', am, cm, by rw [h0]; rfl, hm⟩
theorem CheckGood_any (a1 a2 : Option Addr) (c1 c2 : Nat) (a b : List Tr) (w : World) (h1 : SlT w a1 (lessL b a)) (h2 : SlT w a2 (lessL a b)) (sa : IsSet a) (sb : IsSet b) :
    Calls Tryz.prog 100 #[.agg #[.slice a1 (lessL b a).length c1, .slice a2 (lessL a b).length c2]] w fun e w' => e = .returned .nilIface ∧ RowKit.Below w.heap.size w w' := by
  have s1 : IsSet (lessL b a) := lessSet sb
  have s2 : IsSet (lessL a b) := lessSet sa
  refine (LCheck_any a1 a2 c1 c2 (lessL b a) (lessL a b) w h1 h2 s1.fit s2.fit (setLen s1) (setLen s2)).mono ?_
  rintro e w' ⟨rfl, hb'⟩
  exact ⟨by rw [btw_check sa sb]; rfl, hb'⟩
theorem SameGood_any (ad bd : Option Addr) (ca cb : Nat) (l : List Tr) (w : World) (hl : SlT w ad l) (hm : SlT w bd l) (sl : IsSet l) :
    Calls Tryz.prog 22 #[.slice ad l.length ca, .slice bd l.length cb] w fun e w' => e = .returned (.bool true) ∧ RowKit.Below w.heap.size w w' := by
  have := SameTriples_any ad bd ca cb l l w hl hm (by have := sl.1; omega) (by have := sl.1; omega)
  rw [show decide (l = l) = true by simp] at this
  exact this

/-- a layer in a box -/
def BoxL (W : World) (b : Nat) (v0 v1 : Value) : Prop := W.cell? ⟨b, 0, none⟩ = some v0 ∧ W.cell? ⟨b, 1, none⟩ = some v1
theorem BoxL.below {W W' : World} {b : Nat} {v0 v1 : Value} (h : BoxL W b v0 v1) (hb : RowKit.Below W.heap.size W W') : BoxL W' b v0 v1 :=
  ⟨(hb.cell (World.block_lt_of_cell? W _ h.1)).trans h.1, (hb.cell (World.block_lt_of_cell? W _ h.2)).trans h.2⟩
theorem BoxL.new (w : World) (v0 v1 : Value) (T : TypeId) : BoxL (w.alloc (.cells #[v0, v1] T)) w.heap.size v0 v1 := ⟨by go_simp, by go_simp⟩
end Go.Proofs.YtpomdoelihmebaaGreatDoor

/- repo's start and Graph: a commit's graph, out of the layers above it. -/
namespace Go.Proofs.YtpomdoelihmebaaGreatDoor
open Go Go.RowKit Go.Proofs Go.Maps
set_option synthInstance.maxSize 1000

attribute [local go_sem] eql_errV neq_errV guard_errV

def GraphOk (r s bm : Nat) (cv : Value) (OS P : Nat → Prop) (R : Rp) (k : Nat) : Prop :=
  ∀ W, RpW W r s bm cv OS P R → Calls Tryz.prog 21 #[.pointer (some ⟨r, 0, none⟩), .int .i64 (k : Int)] W (TOk W ((R.gr[k]?).getD []))

theorem Qstart_any (w : World) (r s bm : Nat) (cv : Value) (OS P : Nat → Prop) (R : Rp) (pd : Option Addr) (pc : Nat) (ps : List Int) (h : RpW w r s bm cv OS P R) (hs : SlI w pd ps) (hl : ps.length ≤ maxLen) (hp : ∀ p ∈ ps, 0 ≤ p) (IH : ∀ p : Nat, (p : Int) ∈ ps → GraphOk r s bm cv OS P R p) :
    Calls Tryz.prog 70 #[.pointer (some ⟨r, 0, none⟩), .slice pd ps.length pc] w (TOk w (fromR R ps)) := by
  cases ps with
  | nil =>
    have fin : Hid (∀ w', RowKit.Below w.heap.size w w' → TOk w (fromR R []) (.returned (.tuple #[.slice none 0 0, .nilIface])) w') := fun w' hb => ⟨hb, none, 0, rfl, fun h => absurd rfl h⟩
    clear h hs hl hp IH
    generalize fromR R [] = m at *
    rw [show ([] : List Int).length = 0 from rfl]
    go_enter Tryz.func70, Tryz.ntmps70
    go_wp2_with fail
    exact bodyPost_ret (v := .tuple #[.slice none 0 0, .nilIface]) (by unfold results; rw [Tryz.results70]; go_simp) rfl (fin.out _ (RowKit.Below.refl _ _))
  | cons p t =>
    obtain ⟨q, rfl⟩ := Int.eq_ofNat_of_zero_le (hp p (by simp))
    obtain ⟨b, o, rfl, hc⟩ := hs.at (j := 0) (by simp)
    have H := IH q (by simp) w h
    have e : fromR R ((q : Int) :: t) = (R.gr[q]?).getD [] := by simp [fromR]
    rw [e]
    simp only [List.getElem_cons_zero, Nat.add_zero] at hc
    obtain ⟨n, hn⟩ : ∃ n : Nat, ((q : Int) :: t).length = n := ⟨_, rfl⟩
    have hn0 : 0 < n := by rw [← hn]; simp
    have h0 : ((n : Int) == 0) = false := by simp; omega
    have h1 : (0 : Int) < (n : Int) := by omega
    rw [hn] at hl ⊢
    unfold maxLen at hl
    clear hn h hs hp IH e
    generalize (R.gr[q]?).getD [] = m at *
    go_enter Tryz.func70, Tryz.ntmps70
    go_wp2_with (go_at_call 21; refine H.mono ?_; rintro e w1 ⟨hb1, a1, c1, rfl, hs1⟩; dsimp only)
    exact bodyPost_ret (v := .tuple #[.slice a1 m.length c1, .nilIface]) (by unfold results; rw [Tryz.results70]; go_simp) rfl ⟨hb1, a1, c1, rfl, hs1⟩

set_option maxHeartbeats 4000000 in
set_option maxRecDepth 100000 in
theorem Qgr_any (w : World) (r s bm : Nat) (cv : Value) (OS P : Nat → Prop) (R : Rp) (pd : Option Addr) (pc : Nat) (ps : List Int) (g : List Tr) (h : RpW w r s bm cv OS P R) (hg : GoodR R) (hs : SlI w pd ps) (hl : ps.length ≤ maxLen) (hp : ∀ p ∈ ps, 0 ≤ p) (sg : IsSet g) (IH : ∀ p : Nat, (p : Int) ∈ ps → GraphOk r s bm cv OS P R p) :
    Calls Tryz.prog 48 #[.pointer (some ⟨r, 0, none⟩), .slice pd ps.length pc, .string ⟨(bytesR R ps g).toArray⟩] w (TOk w g) := by
  have HS := Qstart_any w r s bm cv OS P R pd pc ps h hs hl hp IH
  obtain ⟨r1, r2, r3⟩ := bytes_read hg (ps := ps) sg
  have HR := fun W => ReadLayer_any (bytesR R ps g) W
  rw [r1, r2, r3] at HR
  have HA := fun W sd a1 a2 cs c1 c2 h0 h1 h2 => ApplyGood_any sd a1 a2 cs c1 c2 (fromR R ps) g W h0 h1 h2 (pfrom_set hg ps) sg
  clear r1 r2 r3 h hg hs hl hp sg IH
  generalize bytesR R ps g = B at *
  generalize lessL g (fromR R ps) = A at *
  generalize lessL (fromR R ps) g = D at *
  generalize fromR R ps = f at *
  go_enter Tryz.func48, Tryz.ntmps48
  go_wp2_with fail
  refine HS.mono ?_
  rintro e w3 ⟨hb2, sd, sc, rfl, hs2⟩
  dsimp only
  have hB3 := hideO hb2
  have hS3 := hideO hs2
  clear HS hb2 hs2
  go_wp2_with fail
  refine (HR _).mono ?_
  rintro e w4 ⟨hb4, a1, n1, a2, n2, rfl, hx1, hx2⟩
  rw [show errV 0 = Value.nilIface from rfl]
  dsimp only
  have hB4 := hideO (bstep hB3.out hb4)
  have hS4 := hideO (hS3.out.below hb4)
  have hX1 := hideO hx1
  have hX2 := hideO hx2
  clear HR hb4 hS3 hB3 hx1 hx2
  go_wp2_with fail
  have hba := balloc w4 (.cells #[.slice a1 A.length n1, .slice a2 D.length n2] 125)
  refine (HA _ sd a1 a2 sc n1 n2 (hS4.out.below hba) (hX1.out.below hba) (hX2.out.below hba)).mono ?_
  rintro e w5 ⟨hb5, am, cm, rfl, hm5⟩
  dsimp only
  have hB5 := hideO (bstep (bstep hB4.out hba) hb5)
  have hM5 := hideO hm5
  clear HA hb5 hba hm5 hB4 hX1 hX2 hS4
  go_wp2_with fail
  exact bodyPost_ret (v := .tuple #[.slice am g.length cm, .nilIface]) (by unfold results; rw [Tryz.results48]; go_simp) rfl ⟨hB5.out, am, cm, rfl, hM5.out⟩

set_option maxHeartbeats 4000000 in
set_option maxRecDepth 100000 in
theorem graph_ok (r s bm : Nat) (cv : Value) (OS P : Nat → Prop) (R : Rp) (hg : GoodR R) : ∀ k, k < R.coms.length → GraphOk r s bm cv OS P R k := by
  intro k
  induction k using Nat.strongRecOn with
  | ind k ih =>
    intro hk w h
    obtain ⟨c, g, hc, hgr, sg, hpar⟩ := gr_at hg hk
    have eG : (R.gr[k]?).getD [] = g := by rw [hgr]; rfl
    rw [eG]
    have hin : inR R (k : Int) = true := inR_iff.2 ⟨by omega, by omega⟩
    have hlk := h.link k c g hc hgr
    have eB : getB R.L c.2.1 = bytesR R c.1 g := by unfold getB; rw [hlk]; rfl
    have eE : getE R.L c.2.1 = 0 := by unfold getE; rw [hlk]; rfl
    have HH := Qhas_any w r s bm cv OS P R (k : Int) h
    rw [hin] at HH
    have HO := fun W hW => QObject_any W r s bm cv OS P R c.2.1 (h.below hW) hg
    rw [eB, eE] at HO
    have hpl : c.1.length ≤ maxLen := by
      have hd := hg.coms.2 k hk
      have e : R.coms[k] = c := (List.getElem?_eq_some_iff.1 hc).2
      rw [e] at hd
      unfold comN at hd
      split at hd
      · cases hd
      · rename_i h9
        unfold maxLen
        omega
    have HG := fun W hW pd pc hs => Qgr_any W r s bm cv OS P R pd pc c.1 g (h.below hW) hg hs hpl (fun p hp => (hpar p hp).1) sg (fun p hp => ih p (by have := hpar _ hp; omega) (by have := hpar _ hp; omega))
    have HC := hideO (fun W (hW : RowKit.Below w.heap.size w W) => ((h.below hW).com.at_ hc))
    have HL := hideO (fun W (hW : RowKit.Below w.heap.size w W) => ((h.below hW).cells))
    have hlt := h.lt
    have hmx : R.coms.length ≤ 60 := hg.coms.1
    generalize bytesR R c.1 g = B at *
    obtain ⟨ps, y, m⟩ := c
    dsimp only at *
    obtain ⟨gb, cap, _, _, rfl, _⟩ := HC.out w (RowKit.Below.refl _ _)
    clear ih h hg hc hgr eG hin hlk eB eE hpar hpl sg
    obtain ⟨n, hn⟩ : ∃ n : Nat, R.coms.length = n := ⟨_, rfl⟩
    rw [hn] at HC HL hk hmx
    have i0 : (0 : Int) ≤ (k : Int) := by omega
    have i1 : (k : Int) < (n : Int) := by omega
    clear hn
    go_enter Tryz.func21, Tryz.ntmps21
    go_wp2_with fail
    refine HH.mono ?_
    rintro e w1 ⟨rfl, hb1⟩
    dsimp only
    obtain ⟨k0, k1, k2, kf⟩ := HL.out _ hb1
    obtain ⟨g', cap', a, ca, e1, q0, q1, q2, q3, q4⟩ := HC.out _ hb1
    obtain ⟨rfl, rfl⟩ : gb = g' ∧ cap = cap' := by simpa using e1
    clear HH HC HL
    have z1 : r < w1.heap.size := by have := hb1.size; omega
    have zg := World.block_lt_of_cell? _ _ q0
    have hQ3 := hideO q3
    have hB1 := hideO hb1
    clear q3 hb1 e1 kf
    go_wp2_with fail
    have hba := balloc w1 (.cells #[.slice a ps.length ca, .int .i64 y, .string ⟨m.toArray⟩] 99)
    refine (HO _ (bstep hB1.out hba)).mono ?_
    rintro e w2 ⟨rfl, hb2⟩
    rw [show errV 0 = Value.nilIface from rfl]
    dsimp only
    have kb0 : w2.cell? ⟨w1.heap.size, 0, none⟩ = some (.slice a ps.length ca) := by rw [(bcell hb2).1 _ _ (by simp)]; go_simp
    have zb1 := World.block_lt_of_cell? _ _ kb0
    have hB2 := hideO (bstep (bstep hB1.out hba) hb2)
    have hS2 := hideO ((hQ3.out.below hba).below hb2)
    clear HO hb2 hba hQ3 hB1 q0 q1 q2 k0 k1 k2 zg z1
    go_wp2_with fail
    refine (HG _ hB2.out a ca hS2.out).mono ?_
    rintro e w5 ⟨hb5, am, cm, rfl, hm5⟩
    dsimp only
    have hB5 := hideO (bstep hB2.out hb5)
    have hM5 := hideO hm5
    clear HG hb5 hm5 hB2 hS2 kb0 zb1
    go_wp2_with fail
    exact bodyPost_ret (v := .tuple #[.slice am g.length cm, .nilIface]) (by unfold results; rw [Tryz.results21]; go_simp) rfl ⟨hB5.out, am, cm, rfl, hM5.out⟩

theorem QGraph_any (w : World) (r s bm : Nat) (cv : Value) (OS P : Nat → Prop) (R : Rp) (a : Int) (h : RpW w r s bm cv OS P R) (hg : GoodR R) :
    Calls Tryz.prog 21 #[.pointer (some ⟨r, 0, none⟩), .int .i64 a] w fun e w' => ∃ ad ca, e = .returned (.tuple #[.slice ad (graphL R a).length ca, errV (graphE R a)]) ∧ SlT w' ad (graphL R a) ∧ RowKit.Below w.heap.size w w' := by
  cases hin : inR R a with
  | true =>
    obtain ⟨h0, h1⟩ := inR_iff.1 hin
    obtain ⟨k, rfl⟩ := Int.eq_ofNat_of_zero_le h0
    have e1 : graphL R (k : Int) = (R.gr[k]?).getD [] := by unfold graphL; rw [if_pos hin]; simp
    have e2 : graphE R (k : Int) = 0 := by unfold graphE; rw [if_pos hin]
    rw [e1, e2]
    refine (graph_ok r s bm cv OS P R hg k (by omega) w h).mono ?_
    rintro e w' ⟨hb, ad, ca, rfl, hs⟩
    exact ⟨ad, ca, rfl, hs, hb⟩
  | false =>
    have e1 : graphL R a = [] := by unfold graphL; rw [if_neg (by rw [hin]; decide)]
    have e2 : graphE R a = 1 := by unfold graphE; rw [if_neg (by rw [hin]; decide)]
    rw [e1, e2]
    have HH := Qhas_any w r s bm cv OS P R a h
    rw [hin] at HH
    have fin : Hid (∀ w', RowKit.Below w.heap.size w w' → ∃ ad ca, Ending.returned (.tuple #[.slice none 0 0, .iface 75 (.int .i64 1)]) = .returned (.tuple #[.slice ad ([] : List Tr).length ca, errV 1]) ∧ SlT w' ad [] ∧ RowKit.Below w.heap.size w w') := fun w' hb => ⟨none, 0, rfl, fun h => absurd rfl h, hb⟩
    clear h hg hin e1 e2
    go_enter Tryz.func21, Tryz.ntmps21
    go_wp2_with fail
    refine HH.mono ?_
    rintro e w1 ⟨rfl, hb1⟩
    dsimp only
    go_wp2_with fail
    exact bodyPost_ret (v := .tuple #[.slice none 0 0, .iface 75 (.int .i64 1)]) (by unfold results; rw [Tryz.results21]; go_simp) rfl (fin.out _ hb1)
end Go.Proofs.YtpomdoelihmebaaGreatDoor

/- repo's point, Branch, Move, Drop. -/
namespace Go.Proofs.YtpomdoelihmebaaGreatDoor
open Go Go.RowKit Go.Proofs Go.Maps
set_option synthInstance.maxSize 1000

attribute [local go_sem] eql_errV neq_errV guard_errV

/-- the branches have turned -/
theorem RpW.turn {w w' : World} {r s bm : Nat} {cv : Value} {OS P : Nat → Prop} {R : Rp} {l : List Rf} (h : RpW w r s bm cv OS P R) (hm : BrMap w' bm l) (hg : w.grownBy w' (some bm)) : RpW w' r s bm cv OS P ⟨R.n, R.L, R.coms, R.gr, l⟩ ∧ Offs (RpO r bm cv OS P) w w' := by
  have hb : ∀ j, j < w.heap.size → j ≠ bm → w'.heap[j]? = w.heap[j]? := fun j h1 h2 => hg.block j h1 (by simp; exact h2)
  obtain ⟨a1, a2, a3⟩ := h.ap1
  refine ⟨⟨(hb r h.lt a3).trans h.blk, theFace.keep h.st fun j hj => hb j (theFace.own h.st j hj) (fun e => a2 (e ▸ hj)), h.com.keep (fun j hj => hb j (h.own j (Or.inr (Or.inr (Or.inl hj)))) (h.ap2 j hj).2.2.1) (fun j hj => hb j (h.plt j hj) (h.ap3 j hj).2.2), hm, h.link.same rfl rfl rfl, fun j hj => Nat.lt_of_lt_of_le (h.plt j hj) hg.size, h.ap1, h.ap2, h.ap3⟩, Offs.of_grown hg fun k e => by cases e; exact Or.inr (Or.inl rfl)⟩

set_option maxHeartbeats 1000000 in
theorem Qpoint_any (w : World) (r s bm : Nat) (cv : Value) (OS P : Nat → Prop) (R : Rp) (b : List UInt8) (t : Nat) (h : RpW w r s bm cv OS P R) (hn : ByName R.refs) (hf : (leadR R.refs b t).length ≤ 8) (hb : b.length ≤ reachBytes) (ht : t ≤ 1000000) :
    Calls Tryz.prog 37 #[.pointer (some ⟨r, 0, none⟩), .string ⟨b.toArray⟩, .int .i64 (t : Int)] w fun e w' => e = .returned (.tuple #[]) ∧ RpW w' r s bm cv OS P (leadTo R b t) ∧ Offs (RpO r bm cv OS P) w w' := by
  have hml : b.length ≤ maxLen := by unfold reachBytes at hb; unfold maxLen; omega
  have hcl : b.length ≤ 281474976710656 := by unfold reachBytes at hb; omega
  have hw1 : (Lit.int .i64 (t : Int)).wf = true := wfO (by omega) (by omega)
  have K : Hid (∀ W, RowKit.Below w.heap.size w W → ∃ W', (Instr.mapUpdate 71 (.map (some bm)) (.string ⟨b.toArray⟩) (.int .i64 (t : Int))).run Tryz.prog W = .ok () W' ∧ RpW W' r s bm cv OS P (leadTo R b t) ∧ Offs (RpO r bm cv OS P) w W') := fun W hW => by
    have hR := h.below hW
    obtain ⟨D, o1, f1, hs⟩ := hR.map
    obtain ⟨W4, hr4, o4, g4⟩ := o1.update keyedSO Tryz.underlying71 (by unfold maxLen; omega) (keyS b hml) (plainElem_int Tryz.underlying3 hw1)
    have hsz := f1.size_put (o1.tidy keyedSO) hn hml t hs
    obtain ⟨q1, q2⟩ := hR.turn (l := leadR R.refs b t) ⟨_, own_few o4 (by rw [hsz]; omega), f1.put o1.isMap hn hml t, hsz⟩ g4
    exact ⟨W4, hr4, q1, (Offs.of_below hW).trans q2 fun j hj => Or.inl hj⟩
  obtain ⟨c0, c1, c2, cf⟩ := h.cells
  have hlt := h.lt
  have HC := fun W (hW : RowKit.Below w.heap.size w W) => (h.below hW).cells
  clear h hn hf hb hml hw1 ht
  go_enter Tryz.func37, Tryz.ntmps37
  go_wp2_with fail
  go_region_law (go_simp; go_at_call 40; refine (SClone_any b _ hcl).mono ?_; rintro e w1 ⟨rfl, hb1'⟩; dsimp only; have hb1 : RowKit.Below w.heap.size w w1 := (RowKit.Below.refl _ w).drew.trans hb1'; obtain ⟨k0, k1, k2, kf⟩ := HC _ hb1; obtain ⟨W4, hr4, q1, q2⟩ := K.out _ hb1; have Q1 := hideO q1; have Q2 := hideO q2; clear q1 q2; have hlt1 : r < w1.heap.size := (by have := hb1.size; omega))
  all_goals go_wp2_with fail
  all_goals go_end0
  all_goals exact ⟨rfl, Q1.out, Q2.out⟩
end Go.Proofs.YtpomdoelihmebaaGreatDoor

/- Bases in plain words: of those that two have, the ones that no other one of them comes of. -/
namespace Go.Proofs.YtpomdoelihmebaaGreatDoor
open Go Go.RowKit Go.Proofs
set_option synthInstance.maxSize 1000

def isBase (l : List Cm) (a b z : Nat) : Prop := Up l a z ∧ Up l b z ∧ ∀ c, Up l a c → Up l b c → c ≠ z → ¬ Up l c z
def dbothN (x y : List Nat) : List Nat := x.filter fun k => decide (k ∈ y)
theorem both_next {x y : List Nat} {k : Nat} (hk : k < x.length) : dbothN (x.take (k + 1)) y = dbothN (x.take k) y ++ if x[k] ∈ y then [x[k]] else [] := by
  unfold dbothN
  rw [List.take_succ_eq_append_getElem hk, List.filter_append, List.filter_cons]
  simp
theorem both_rise {x y : List Nat} (h : RiseN x) : RiseN (dbothN x y) := List.Pairwise.filter _ h
theorem both_len (x y : List Nat) : (dbothN x y).length ≤ x.length := List.length_filter_le _ _
/-- below: another one of the list comes of number q of it -/
def belowP (l : List Cm) (t : List Nat) (q m : Nat) : Prop := ∃ r, r < m ∧ r ≠ q ∧ Up l (t.getD r 0) (t.getD q 0)
theorem below_next {l : List Cm} {t : List Nat} {q m : Nat} : belowP l t q (m + 1) ↔ belowP l t q m ∨ (m ≠ q ∧ Up l (t.getD m 0) (t.getD q 0)) := by
  constructor
  · rintro ⟨r, h1, h2, h3⟩
    rcases (by omega : r < m ∨ r = m) with h | rfl
    · exact Or.inl ⟨r, h, h2, h3⟩
    · exact Or.inr ⟨h2, h3⟩
  · rintro (⟨r, h1, h2, h3⟩ | ⟨h2, h3⟩)
    · exact ⟨r, by omega, h2, h3⟩
    · exact ⟨m, by omega, h2, h3⟩
/-- what is told as far as i -/
def OutsTo (l : List Cm) (t : List Nat) (i : Nat) (m : List Nat) : Prop := RiseN m ∧ m.length ≤ i ∧ ∀ z, z ∈ m ↔ ∃ q, q < i ∧ q < t.length ∧ z = t.getD q 0 ∧ ¬ belowP l t q t.length
theorem OutsTo.nil (l : List Cm) (t : List Nat) : OutsTo l t 0 [] := ⟨List.Pairwise.nil, by simp, fun z => ⟨fun h => by simp at h, fun ⟨q, h, _⟩ => by omega⟩⟩
theorem rise_get {t : List Nat} (h : RiseN t) {p q : Nat} (hpq : p < q) (hq : q < t.length) : t.getD p 0 < t.getD q 0 := by
  rw [List.getD_eq_getElem?_getD, List.getD_eq_getElem?_getD, List.getElem?_eq_getElem hq, List.getElem?_eq_getElem (show p < t.length by omega)]
  exact List.pairwise_iff_getElem.1 h p q (by omega) hq hpq
theorem OutsTo.skip {l : List Cm} {t : List Nat} {i : Nat} {m : List Nat} (h : OutsTo l t i m) (hb : belowP l t i t.length) : OutsTo l t (i + 1) m := by
  refine ⟨h.1, by have := h.2.1; omega, fun z => ?_⟩
  rw [h.2.2 z]
  constructor
  · rintro ⟨q, h1, h2⟩; exact ⟨q, by omega, h2⟩
  · rintro ⟨q, h1, h2, h3, h4⟩
    rcases (by omega : q < i ∨ q = i) with h5 | rfl
    · exact ⟨q, h5, h2, h3, h4⟩
    · exact absurd hb h4
theorem OutsTo.more {l : List Cm} {t : List Nat} {i : Nat} {m : List Nat} (h : OutsTo l t i m) (ht : RiseN t) (hi : i < t.length) (hb : ¬ belowP l t i t.length) : OutsTo l t (i + 1) (m ++ [t.getD i 0]) := by
  refine ⟨List.pairwise_append.2 ⟨h.1, List.pairwise_singleton _ _, fun x hx y hy => ?_⟩, by have := h.2.1; simp; omega, fun z => ?_⟩
  · rw [List.mem_singleton.1 hy]
    obtain ⟨q, h1, _, rfl, _⟩ := (h.2.2 x).1 hx
    exact rise_get ht h1 hi
  · rw [List.mem_append, h.2.2 z, List.mem_singleton]
    constructor
    · rintro (⟨q, h1, h2⟩ | rfl)
      · exact ⟨q, by omega, h2⟩
      · exact ⟨i, by omega, hi, rfl, hb⟩
    · rintro ⟨q, h1, h2, h3, h4⟩
      rcases (by omega : q < i ∨ q = i) with h5 | rfl
      · exact Or.inl ⟨q, h5, h2, h3, h4⟩
      · exact Or.inr h3
theorem outs_base {l : List Cm} {a b : Nat} {x y m : List Nat} (hx : RiseN x) (ux : ∀ k, k ∈ x ↔ Up l a k) (uy : ∀ k, k ∈ y ↔ Up l b k) (h : OutsTo l (dbothN x y) (dbothN x y).length m) : ∀ z, z ∈ m ↔ isBase l a b z := by
  have hm : ∀ z, z ∈ dbothN x y ↔ Up l a z ∧ Up l b z := fun z => by
    unfold dbothN
    rw [List.mem_filter, ux, decide_eq_true_eq, uy]
  have ht := both_rise (y := y) hx
  have hmem : ∀ q, q < (dbothN x y).length → (dbothN x y).getD q 0 ∈ dbothN x y := fun q hq => by
    rw [List.getD_eq_getElem?_getD, List.getElem?_eq_getElem hq]
    exact List.getElem_mem hq
  have hidx : ∀ z ∈ dbothN x y, ∃ q, q < (dbothN x y).length ∧ (dbothN x y).getD q 0 = z := fun z hz => by
    obtain ⟨q, hq, e⟩ := List.getElem_of_mem hz
    exact ⟨q, hq, by rw [List.getD_eq_getElem?_getD, List.getElem?_eq_getElem hq]; exact e⟩
  intro z
  rw [h.2.2 z]
  constructor
  · rintro ⟨q, _, hq, rfl, hb⟩
    obtain ⟨h1, h2⟩ := (hm _).1 (hmem q hq)
    refine ⟨h1, h2, fun c hca hcb hne hu => hb ?_⟩
    obtain ⟨r, hr, rfl⟩ := hidx c ((hm c).2 ⟨hca, hcb⟩)
    exact ⟨r, hr, fun e => hne (by rw [e]), hu⟩
  · rintro ⟨h1, h2, h3⟩
    obtain ⟨q, hq, rfl⟩ := hidx z ((hm z).2 ⟨h1, h2⟩)
    refine ⟨q, hq, hq, rfl, ?_⟩
    rintro ⟨r, hr, hne, hu⟩
    obtain ⟨h4, h5⟩ := (hm _).1 (hmem r hr)
    refine h3 _ h4 h5 (fun e => ?_) hu
    rcases (by omega : r < q ∨ q < r) with h6 | h6
    · have := rise_get ht h6 hq; omega
    · have := rise_get ht h6 hr; omega
end Go.Proofs.YtpomdoelihmebaaGreatDoor

/- A dag's face: what the laws ask of the program's dag, whatever it is made of. -/
namespace Go.Proofs.YtpomdoelihmebaaGreatDoor
open Go Go.RowKit Go.Proofs
set_option synthInstance.maxSize 1000

def natI (m : List Nat) : List Int := m.map fun k : Nat => (k : Int)
theorem natI_len (m : List Nat) : (natI m).length = m.length := by simp [natI]
theorem natI_inj {m q : List Nat} (h : natI m = natI q) : m = q := by
  induction m generalizing q with
  | nil => cases q with
    | nil => rfl
    | cons b r => simp [natI] at h
  | cons a s ih => cases q with
    | nil => simp [natI] at h
    | cons b r =>
      simp only [natI, List.map_cons, List.cons.injEq] at h
      rw [show a = b by omega, ih h.2]
/-- commits in a list that a caller holds -/
structure ComsOK (w : World) (ad : Option Addr) (ca : Nat) (l : List Cm) : Prop where
  sl : SlC w ad l
  cap : l.length ≤ ca
  len : l.length ≤ maxLen
  pars : ∀ c ∈ l, c.1.length ≤ maxLen
  msg : ∀ c ∈ l, c.2.2.length ≤ maxLen
  caps : ∀ b o, ad = some ⟨b, o, none⟩ → ∀ i, i < l.length → ∀ a n c, w.cell? ⟨b, o + i * 3, none⟩ = some (.slice a n c) → n ≤ c
theorem ComsOK.below {w w' : World} {ad : Option Addr} {ca : Nat} {l : List Cm} (h : ComsOK w ad ca l) (hb : RowKit.Below w.heap.size w w') : ComsOK w' ad ca l := by
  refine ⟨h.sl.below hb, h.cap, h.len, h.pars, h.msg, fun b o e i hi a n c hc => h.caps b o e i hi a n c ?_⟩
  obtain ⟨b', o', a', c', e', h2, _⟩ := h.sl.at hi
  rw [e] at e'
  cases e'
  rw [← hb.cell (p := ⟨b, o + i * 3, none⟩) (World.block_lt_of_cell? w _ h2)]
  exact hc

def ancE (l : List Cm) (i : Int) : Int := if (comsN l).2 ≠ 0 then (comsN l).2 else if 0 ≤ i ∧ i < l.length then 0 else 1
def twoE (l : List Cm) (a b : Int) : Int := if ancE l a ≠ 0 then ancE l a else ancE l b
theorem ancE_zero {l : List Cm} {i : Int} (h : ancE l i = 0) : GoodC l ∧ 0 ≤ i ∧ i < l.length := by
  unfold ancE at h
  split at h
  · rename_i h1; exact absurd h h1
  · rename_i h1
    split at h
    · rename_i h2; exact ⟨coms_good.1 (by simpa using h1), h2⟩
    · simp at h
theorem ancE_good {l : List Cm} {i : Int} (h : GoodC l) (h0 : 0 ≤ i) (h1 : i < l.length) : ancE l i = 0 := by
  unfold ancE
  rw [if_neg (by simp; exact coms_good.2 h), if_pos ⟨h0, h1⟩]
theorem twoE_zero {l : List Cm} {a b : Int} : twoE l a b = 0 ↔ ancE l a = 0 ∧ ancE l b = 0 := by
  unfold twoE
  by_cases h : ancE l a = 0
  · simp [h]
  · simp [h]

def upP (l : List Cm) (i : Nat) (m : List Nat) : Prop := RiseN m ∧ ∀ k, k ∈ m ↔ Up l i k
def logP (l : List Cm) (i : Nat) (m : List Nat) : Prop := upP l i m.reverse
def baseP (l : List Cm) (a b : Nat) (m : List Nat) : Prop := RiseN m ∧ ∀ z, z ∈ m ↔ isBase l a b z
/-- a list and an error: with an error there is none -/
def ListAns (w : World) (f : Int) (P : List Nat → Prop) (e : Ending) (w' : World) : Prop :=
  ∃ (ad : Option Addr) (c : Nat) (m : List Nat), e = .returned (.tuple #[.slice ad m.length c, errV f]) ∧ (f = 0 → P m) ∧ (f ≠ 0 → m = []) ∧ SlI w' ad (natI m) ∧ RowKit.Below w.heap.size w w' ∧ m.length ≤ 60 ∧ (m ≠ [] → ∀ d, ad = some d → w.heap.size ≤ d.block) ∧ m.length ≤ c

structure DFace where
end Go.Proofs.YtpomdoelihmebaaGreatDoor

/- slices.ContainsFunc at numbers and at bytes, with whatever test; slices.Contains at numbers. -/
namespace Go.Proofs.YtpomdoelihmebaaGreatDoor
open Go Go.RowKit Go.Proofs
set_option synthInstance.maxSize 1000

/-- what is asked of a test: at every number of D it tells p, and leaves what lay there -/
def PredI (g : Nat) (lb : Array Value) (D : Int → Prop) (p : Int → Bool) (w : World) : Prop :=
  ∀ (W : World) (x : Int), RowKit.Below w.heap.size w W → D x → Calls Tryz.prog g (#[.int .i64 x] ++ lb) W fun e w' => e = .returned (.bool (p x)) ∧ RowKit.Below W.heap.size W w'
theorem PredI.below {g : Nat} {lb : Array Value} {D : Int → Prop} {p : Int → Bool} {w w1 : World} (h : PredI g lb D p w) (hb : RowKit.Below w.heap.size w w1) : PredI g lb D p w1 :=
  fun W x hW hx => h W x (hb.trans (hW.mono hb.size)) hx
theorem any_hit {ids : List Int} {p : Int → Bool} {k : Nat} (hk : k < ids.length) (h : p ids[k] = true) : ids.any p = true := by
  rw [List.any_eq_true]
  exact ⟨_, List.getElem_mem hk, h⟩
theorem any_miss {ids : List Int} {p : Int → Bool} (h : ∀ (j : Nat) (hj : j < ids.length), p ids[j] = false) : ids.any p = false := by
  rw [List.any_eq_false]
  intro x hx
  obtain ⟨j, hj, rfl⟩ := List.getElem_of_mem hx
  rw [h j hj]
  simp

set_option maxHeartbeats 4000000 in
set_option maxRecDepth 100000 in
theorem DIndex_any (g : Nat) (lb : Array Value) (D : Int → Prop) (p : Int → Bool) (w : World) (ad : Option Addr) (ca : Nat) (ids : List Int) (eg : ∀ args w, (callFunc g args).run Tryz.prog w = .ok (.enter g args) w) (hp : PredI g lb D p w) (hD : ∀ x ∈ ids, D x) (hs : SlI w ad ids) (hl : ids.length ≤ 9223372036854775807) :
    Calls Tryz.prog 144 #[.slice ad ids.length ca, .func (.func g) #[] lb] w fun e w' => (∃ r : Int, e = .returned (.int .i64 r) ∧ decide (0 ≤ r) = ids.any p) ∧ RowKit.Below w.heap.size w w' := by
  have H : Hid (PredI g lb D p w) := hp
  have HD : Hid (∀ x ∈ ids, D x) := hD
  have HS : Hid (SlI w ad ids) := hs
  clear hp hD hs
  go_enter Tryz.func144, Tryz.ntmps144
  go_wp2_with fail
  go_loopw [8] (fun i wr => ∃ (k : Nat), k ≤ ids.length ∧ i = .int .i64 k ∧ RowKit.Below w.heap.size w wr ∧ Hid (∀ (j : Nat) (hj : j < ids.length), j < k → p ids[j] = false)) (fun i wr => ids.length - (intOf i).toNat)
  case atStart => exact ⟨0, Nat.zero_le _, rfl, RowKit.Below.refl _ w, fun j hj h0 => by omega⟩
  case round =>
    obtain ⟨k, hk, rfl, hbr, hall⟩ := hrel
    by_cases hlt : k < ids.length
    · obtain ⟨b, o, rfl, hc⟩ := (HS.out.below hbr).at hlt
      have hcall := H.out wr ids[k] hbr (HD.out _ (List.getElem_mem hlt))
      have i0 : (0 : Int) ≤ (k : Int) := by omega
      have i1 : (k : Int) < (ids.length : Int) := by omega
      have HV : Hid (∀ q, p ids[k] = q → (q = false → (∀ (j : Nat) (hj : j < ids.length), j < k + 1 → p ids[j] = false)) ∧ (q = true → ids.any p = true)) := by
        intro q hq
        refine ⟨fun e j hj h1 => ?_, fun e => any_hit hlt (hq.trans e)⟩
        by_cases ej : j = k
        · subst ej; exact hq.trans e
        · exact hall.out j hj (by omega)
      cases hq : p ids[k] with
      | false =>
        rw [hq] at hcall
        have hnext : Hid (∀ (j : Nat) (hj : j < ids.length), j < k + 1 → p ids[j] = false) := (HV.out _ hq).1 rfl
        clear HV hq hall
        generalize ids[k] = z at *
        go_wp2_with (go_at_fn g; refine hcall.mono ?_; rintro e w' ⟨rfl, hb'⟩; dsimp only)
        go_roundw
        case rel => exact ⟨k + 1, by omega, by go_num, bstep hbr hb', hnext⟩
        case measure => simp [intOf]; omega
      | true =>
        rw [hq] at hcall
        have hno2 : Hid (ids.any p = true) := (HV.out _ hq).2 rfl
        clear HV hq hall
        generalize ids[k] = z at *
        go_wp2_with (go_at_fn g; refine hcall.mono ?_; rintro e w' ⟨rfl, hb'⟩; dsimp only)
        go_ret
        exact ⟨⟨(k : Int), rfl, by rw [hno2.out]; simp⟩, bstep hbr hb'⟩
    · have hkk : k = ids.length := by omega
      have hyes : Hid (ids.any p = false) := any_miss fun j hj => hall.out j hj (by omega)
      subst hkk
      clear hall
      go_wp2_with fail
      go_ret
      exact ⟨⟨-1, rfl, by rw [hyes.out]; rfl⟩, hbr⟩

set_option maxHeartbeats 1000000 in
theorem DContains_any (g : Nat) (lb : Array Value) (D : Int → Prop) (p : Int → Bool) (w : World) (ad : Option Addr) (ca : Nat) (ids : List Int) (eg : ∀ args w, (callFunc g args).run Tryz.prog w = .ok (.enter g args) w) (hp : PredI g lb D p w) (hD : ∀ x ∈ ids, D x) (hs : SlI w ad ids) (hl : ids.length ≤ 9223372036854775807) :
    Calls Tryz.prog 109 #[.slice ad ids.length ca, .func (.func g) #[] lb] w fun e w' => e = .returned (.bool (ids.any p)) ∧ RowKit.Below w.heap.size w w' := by
  have hc := DIndex_any g lb D p w ad ca ids eg hp hD hs hl
  clear hp hD hs
  generalize ids.any p = q at *
  go_enter Tryz.func109, Tryz.ntmps109
  go_wp2_with (go_at_call 144; refine hc.mono ?_; rintro e w' ⟨⟨r, rfl, hr⟩, hb⟩; dsimp only; have hr2 : Hid _ := hr; clear hr)
  go_ret
  refine ⟨?_, hb⟩
  rw [← hr2.out]
  simp

/-- bytes in a block -/
def SlBy (w : World) (b : Nat) (l : List UInt8) : Prop := ∀ (j : Nat) (hj : j < l.length), w.cell? ⟨b, j, none⟩ = some (.int .u8 (l[j].toNat : Int))
set_option maxHeartbeats 4000000 in
set_option maxRecDepth 100000 in
theorem DIndexB_any (g : Nat) (p : Int → Bool) (w : World) (b : Nat) (ca : Nat) (l : List UInt8) (eg : ∀ args w, (callFunc g args).run Tryz.prog w = .ok (.enter g args) w) (hp : ∀ (n : Int) (w : World), Calls Tryz.prog g #[.int .u8 n] w fun e w' => e = .returned (.bool (p n)) ∧ w' = w) (hs : SlBy w b l) (hl : l.length ≤ 9223372036854775807) :
    Calls Tryz.prog 171 #[.slice (some ⟨b, 0, none⟩) l.length ca, .func (.func g) #[] #[]] w fun e w' => (∃ r : Int, e = .returned (.int .i64 r) ∧ decide (0 ≤ r) = l.any fun c => p (c.toNat : Int)) ∧ w' = w := by
  have H : Hid (∀ (n : Int) (w : World), Calls Tryz.prog g #[.int .u8 n] w fun e w' => e = .returned (.bool (p n)) ∧ w' = w) := hp
  have HS : Hid (SlBy w b l) := hs
  clear hp hs
  go_enter Tryz.func171, Tryz.ntmps171
  go_wp2_with fail
  go_loopw [8] (fun i wr => ∃ (k : Nat), k ≤ l.length ∧ i = .int .i64 k ∧ wr = w ∧ Hid (∀ (j : Nat) (hj : j < l.length), j < k → p (l[j].toNat : Int) = false)) (fun i wr => l.length - (intOf i).toNat)
  case atStart => exact ⟨0, Nat.zero_le _, rfl, rfl, fun j hj h0 => by omega⟩
  case round =>
    obtain ⟨k, hk, rfl, hw, hall⟩ := hrel
    obtain rfl : w = wr := hw.symm
    by_cases hlt : k < l.length
    · have hc := HS.out k hlt
      have i0 : (0 : Int) ≤ (k : Int) := by omega
      have i1 : (k : Int) < (l.length : Int) := by omega
      have hcall := H.out (l[k].toNat : Int) w
      have HV : Hid (∀ q, p (l[k].toNat : Int) = q → (q = false → (∀ (j : Nat) (hj : j < l.length), j < k + 1 → p (l[j].toNat : Int) = false)) ∧ (q = true → (l.any fun c => p (c.toNat : Int)) = true)) := by
        intro q hq
        refine ⟨fun e j hj h1 => ?_, fun e => ?_⟩
        · by_cases ej : j = k
          · subst ej; exact hq.trans e
          · exact hall.out j hj (by omega)
        · rw [List.any_eq_true]
          exact ⟨_, List.getElem_mem hlt, hq.trans e⟩
      cases hq : p (l[k].toNat : Int) with
      | false =>
        rw [hq] at hcall
        have hnext : Hid (∀ (j : Nat) (hj : j < l.length), j < k + 1 → p (l[j].toNat : Int) = false) := (HV.out _ hq).1 rfl
        clear HV hq hall
        generalize (l[k].toNat : Int) = z at *
        go_wp2_with (go_at_fn g; refine hcall.mono ?_; rintro e w' ⟨rfl, hb'⟩; subst hb'; dsimp only)
        go_roundw
        case rel => exact ⟨k + 1, by omega, by go_num, by trivial, hnext⟩
        case measure => simp [intOf]; omega
      | true =>
        rw [hq] at hcall
        have hno2 : Hid ((l.any fun c => p (c.toNat : Int)) = true) := (HV.out _ hq).2 rfl
        clear HV hq hall
        generalize (l[k].toNat : Int) = z at *
        go_wp2_with (go_at_fn g; refine hcall.mono ?_; rintro e w' ⟨rfl, hb'⟩; subst hb'; dsimp only)
        go_ret
        exact ⟨⟨(k : Int), rfl, by rw [hno2.out]; simp⟩, rfl⟩
    · have hkk : k = l.length := by omega
      have hyes : Hid ((l.any fun c => p (c.toNat : Int)) = false) := by
        show _ = _
        rw [List.any_eq_false]
        intro x hx
        obtain ⟨j, hj, rfl⟩ := List.getElem_of_mem hx
        rw [hall.out j hj (by omega)]
        simp
      subst hkk
      clear hall
      go_wp2_with fail
      go_ret
      exact ⟨⟨-1, rfl, by rw [hyes.out]; rfl⟩, rfl⟩

set_option maxHeartbeats 1000000 in
theorem DContainsB_any (g : Nat) (p : Int → Bool) (w : World) (b : Nat) (ca : Nat) (l : List UInt8) (eg : ∀ args w, (callFunc g args).run Tryz.prog w = .ok (.enter g args) w) (hp : ∀ (n : Int) (w : World), Calls Tryz.prog g #[.int .u8 n] w fun e w' => e = .returned (.bool (p n)) ∧ w' = w) (hs : SlBy w b l) (hl : l.length ≤ 9223372036854775807) :
    Calls Tryz.prog 145 #[.slice (some ⟨b, 0, none⟩) l.length ca, .func (.func g) #[] #[]] w fun e w' => e = .returned (.bool (l.any fun c => p (c.toNat : Int))) ∧ w' = w := by
  have hc := DIndexB_any g p w b ca l eg hp hs hl
  clear hp hs
  generalize (l.any fun c => p (c.toNat : Int)) = q at *
  go_enter Tryz.func145, Tryz.ntmps145
  go_wp2_with (go_at_call 171; refine hc.mono ?_; rintro e w' ⟨⟨r, rfl, hr⟩, hb⟩; subst hb; dsimp only; have hr2 : Hid _ := hr; clear hr)
  go_ret
  refine ⟨?_, rfl⟩
  rw [← hr2.out]
  simp

end Go.Proofs.YtpomdoelihmebaaGreatDoor
