import Derived.Test.YtaddfndohoppeaaGreatDoorMCRepoPlaysx1
import Derived.Test.YtaddfndohoppeaaGreatDoorMCRepoPlaysx2
import Derived.Deep.DeepCutAuto
import Derived.Deep.CutBlock
import Derived.Test.YtaddfndohoppeaaGreatDoorMA0x0
import Derived.OwnWalk

/- The document's repo (package strataref2): Add. -/
namespace Go.Proofs.YtaddfndohoppeaaGreatDoor
open Go Go.RowKit Go.Proofs
set_option synthInstance.maxSize 1000

def sameC (R : Rp) (ps : List Int) (s : List Tr) (t : List UInt8) (i : Nat) : Prop := ∃ (h1 : i < R.coms.length) (h2 : i < R.gr.length), R.coms[i].2.2 = t ∧ R.coms[i].1 = ps ∧ R.gr[i] = s
theorem findC_first {cl : List Cm} {gl : List (List Tr)} {ps : List Int} {s : List Tr} {t : List UInt8} {i : Nat} (h1 : i < cl.length) (h2 : i < gl.length) (hn : ∀ (j : Nat) (hj : j < i), ¬ ((cl[j]'(by omega)).2.2 = t ∧ (cl[j]'(by omega)).1 = ps ∧ gl[j]'(by omega) = s)) (hh : cl[i].2.2 = t ∧ cl[i].1 = ps ∧ gl[i] = s) : findC cl gl ps s t = some i := by
  induction cl generalizing gl i with
  | nil => simp at h1
  | cons c r ih =>
    cases gl with
    | nil => simp at h2
    | cons g q =>
      cases i with
      | zero => unfold findC; rw [if_pos (by simpa using hh)]
      | succ k =>
        have h0 := hn 0 (by omega)
        unfold findC
        rw [if_neg (by simpa using h0), ih (i := k) (by simpa using h1) (by simpa using h2) (fun j hj => by simpa using hn (j + 1) (by omega)) (by simpa using hh)]
        rfl
theorem findC_no {cl : List Cm} {gl : List (List Tr)} {ps : List Int} {s : List Tr} {t : List UInt8} (hn : ∀ (j : Nat) (h1 : j < cl.length) (h2 : j < gl.length), ¬ (cl[j].2.2 = t ∧ cl[j].1 = ps ∧ gl[j] = s)) : findC cl gl ps s t = none := by
  cases hf : findC cl gl ps s t with
  | none => rfl
  | some i =>
    obtain ⟨h1, h2, h3⟩ := findC_at hf
    exact absurd h3 (hn i h1 h2)
theorem take_sameI {a b : List Int} {q : Nat} (ha : q < a.length) (hb : q < b.length) : a.take (q + 1) = b.take (q + 1) ↔ a.take q = b.take q ∧ a[q] = b[q] := by
  rw [List.take_succ_eq_append_getElem ha, List.take_succ_eq_append_getElem hb]
  constructor
  · intro h
    have h1 := List.append_inj h (by rw [List.length_take, List.length_take]; omega)
    exact ⟨h1.1, by simpa using h1.2⟩
  · rintro ⟨h1, h2⟩
    rw [h1, h2]

theorem row_cells {W : World} {base : Nat} {e : TypeId} {sz : Nat} {ad : Option Addr} {n c : Nat} {cs : List Value} (h : W.ownsRow base e sz (.slice ad n c) n cs) (hn : 0 < n) : ∃ g, ad = some ⟨g, 0, none⟩ ∧ g < W.heap.size ∧ ∀ (j : Nat) u, cs[j]? = some u → W.cell? ⟨g, j, none⟩ = some u := by
  have h' := h
  rcases h.2 with ⟨_, h0⟩ | ⟨g, cap, cur, e1, _, hm, _⟩
  · omega
  · obtain ⟨rfl, _, rfl⟩ := Value.slice.inj e1
    refine ⟨g, rfl, (Array.getElem?_eq_some_iff.1 hm).1, fun j u hj => ?_⟩
    have := h'.cells (g := g) rfl j u hj
    rwa [Addr.add_lit, Nat.zero_add] at this
/-- what Add leaves -/
def AddAns (w : World) (B0 m : Nat) (v cv gv rv : Value) (R : Rp) (P : Nat → Prop) (pd : Option Addr) (ps : List Int) (s : List Tr) (t : List UInt8) (e : Ending) (w' : World) : Prop :=
  e = .returned (.tuple #[.int .i64 (addI R ps s t : Int), .int .i64 (addE R ps s t)]) ∧ RepTo w B0 m (RepO m v cv gv rv (morePar P pd ps)) (addR R ps s t) w'

theorem RepO.more {m : Nat} {v cv gv rv : Value} {P : Nat → Prop} {pd : Option Addr} {ps : List Int} {j : Nat} (h : RepO m v cv gv rv P j) : RepO m v cv gv rv (morePar P pd ps) j := by
  rcases h with h | h | h | h | h | h
  · exact Or.inl h
  · exact Or.inr (Or.inl h)
  · exact Or.inr (Or.inr (Or.inl h))
  · exact Or.inr (Or.inr (Or.inr (Or.inl h)))
  · exact Or.inr (Or.inr (Or.inr (Or.inr (Or.inl h))))
  · exact Or.inr (Or.inr (Or.inr (Or.inr (Or.inr (Or.inl h)))))
theorem AddAns.old {w w' : World} {B0 m : Nat} {v cv gv rv : Value} {R : Rp} {P : Nat → Prop} {pd : Option Addr} {ps : List Int} {s : List Tr} {t : List UInt8} (h : RepW w B0 m v cv gv rv R P) (hb : RowKit.Below w.heap.size w w') (hR : addR R ps s t = R) {e : Ending} (he : e = .returned (.tuple #[.int .i64 (addI R ps s t : Int), .int .i64 (addE R ps s t)])) : AddAns w B0 m v cv gv rv R P pd ps s t e w' := by
  refine ⟨he, v, cv, gv, rv, P, ?_, Offs.of_below hb, fun j hj => Or.inl hj.more⟩
  rw [hR]
  exact h.below hb
theorem add_found {R : Rp} {ps : List Int} {s : List Tr} {t : List UInt8} {i : Nat} (h : findC R.coms R.gr ps s t = some i) : addI R ps s t = i ∧ addE R ps s t = 0 ∧ addR R ps s t = R := by
  unfold addI addE addR
  rw [h]
  exact ⟨rfl, rfl, rfl⟩

theorem encS_short {l : List Tr} (h : IsSet l) : (encS l).length ≤ 20000 := by
  have h1 := encR_len l (okTr_set h)
  have h2 := h.1
  simp [encS]
  omega
theorem from_set {R : Rp} (h : GoodR R) (ps : List Int) : IsSet (fromR R ps) := by
  have h0 : IsSet [] := ⟨by decide, fun x hx => by simp at hx, List.Pairwise.nil⟩
  unfold fromR
  cases ps with
  | nil => exact h0
  | cons p r =>
    dsimp only
    cases hg : R.gr[p.toNat]? with
    | none => exact h0
    | some g => exact h.sets g (List.mem_of_getElem? hg)

theorem str_app9 (a b : List UInt8) : ((⟨a.toArray⟩ : ByteArray) ++ (⟨b.toArray⟩ : ByteArray)) = ⟨(a ++ b).toArray⟩ := by
  apply ByteArray.ext
  rw [ByteArray.data_append]
  simp
/-- behind the put: the repo, and what was handed in -/
theorem add_put {w W9 W10 : World} {B0 m : Nat} {v v' cv gv rv : Value} {R : Rp} {P : Nat → Prop} {n' : Nat} {L' : List Ob} {pd sd : Option Addr} {ps : List Int} {s : List Tr} (h : RepW w B0 m v cv gv rv R P) (hb : RowKit.Below w.heap.size w W9) (hs : RAtX 34 [cv, gv, rv] W10 m v' n' L') (ho : Offs (ROwnX m v) W9 W10) (hn : ∀ j, ROwnX m v' j → ROwnX m v j ∨ W9.heap.size ≤ j)
    (hT : SlT w sd s) (hsb : s ≠ [] → ∀ d, sd = some d → d.block < B0) (hI : SlI w pd ps) (hp : ps ≠ [] → ∀ d, pd = some d → m < d.block ∧ ∃ cur, w.heap[d.block]? = some (.cells cur 3 (0, 0))) :
    RepW W10 B0 m v' cv gv rv ⟨n', L', R.coms, R.gr, R.refs⟩ P ∧ Offs (RepO m v cv gv rv P) w W10 ∧ (∀ j, RepO m v' cv gv rv P j → RepO m v cv gv rv P j ∨ w.heap.size ≤ j) ∧ SlT W10 sd s ∧ SlI W10 pd ps ∧ (ps ≠ [] → ∀ d, pd = some d → m < d.block ∧ ∃ cur, W10.heap[d.block]? = some (.cells cur 3 (0, 0))) := by
  obtain ⟨p1, p2, p3⟩ := (h.below hb).put hs ho hn
  have hsz := hb.size
  have hbase := h.base
  have hlt := h.lt
  have kT : s ≠ [] → ∀ d, sd = some d → W10.heap[d.block]? = w.heap[d.block]? := fun hl d hd => by
    have h1 := hsb hl d hd
    refine (ho.block d.block (by omega) ?_).trans (hb.block _ (by omega))
    rintro (e | e)
    · omega
    · have := (h.st.2.lt _ e).1; omega
  have kI : ps ≠ [] → ∀ d, pd = some d → W10.heap[d.block]? = w.heap[d.block]? := fun hl d hd => by
    obtain ⟨h1, cur, h2⟩ := hp hl d hd
    have h3 := (Array.getElem?_eq_some_iff.1 h2).1
    refine (ho.block d.block (by omega) ?_).trans (hb.block _ h3)
    rintro (e | e)
    · omega
    · obtain ⟨c2, h4⟩ := row_ty h.st.2 e
      exact absurd (ne_ty h2 h4) (by decide)
  refine ⟨p1, (Offs.of_below (O := RepO m v cv gv rv P) hb).trans p2 fun j hj => Or.inl hj, fun j hj => (p3 j hj).imp id (by omega), hT.keepB kT, hI.keep kI, fun hl d hd => ?_⟩
  obtain ⟨h1, cur, h2⟩ := hp hl d hd
  exact ⟨h1, cur, (kI hl d hd).trans h2⟩
theorem put_fail {n : Nat} {L : List Ob} {b : List UInt8} (h : putE L b ≠ 0) : putM n L b = n ∧ putL n L b = L := by
  unfold putE at h
  unfold putM putL
  split at h
  · exact absurd rfl h
  · rename_i h1
    split at h
    · rename_i h2
      rw [if_neg h1, if_pos h2, if_neg h1, if_pos h2]
      exact ⟨rfl, rfl⟩
    · exact absurd rfl h
/-- the cells of a new commit, of a new graph -/
theorem newCm (W : World) (pd : Option Addr) (pc : Nat) (ps : List Int) (y : Int) (t : List UInt8) : ∀ (j : Nat) u, (comCells pd pc ps y t)[j]? = some u → (W.alloc (.cells #[.slice pd ps.length pc, .int .i64 y, .string ⟨t.toArray⟩] 86)).cell? (Addr.add ⟨W.heap.size, 0, none⟩ j) = some u := fun j u hu => by
  have hj : j < 3 := by have := (List.getElem?_eq_some_iff.1 hu).1; simpa [comCells] using this
  rw [Addr.add_lit]
  rcases (by omega : j = 0 ∨ j = 1 ∨ j = 2) with rfl | rfl | rfl
  · simp [comCells] at hu; subst hu; go_simp
  · simp [comCells] at hu; subst hu; go_simp
  · simp [comCells] at hu; subst hu; go_simp
theorem newGr (W : World) (sd : Option Addr) (sc n : Nat) : ∀ (j : Nat) u, [Value.slice sd n sc][j]? = some u → (W.alloc (.cells #[.slice sd n sc] 37)).cell? (Addr.add ⟨W.heap.size, 0, none⟩ j) = some u := fun j u hu => by
  have hj : j < 1 := by have := (List.getElem?_eq_some_iff.1 hu).1; simpa using this
  rw [Addr.add_lit]
  obtain rfl : j = 0 := by omega
  simp at hu; subst hu; go_simp

theorem RepO.split {m : Nat} {v cv gv rv : Value} {P : Nat → Prop} {pd : Option Addr} {ps : List Int} {j : Nat} (h : RepO m v cv gv rv (morePar P pd ps) j) : RepO m v cv gv rv P j ∨ (ps ≠ [] ∧ ∃ d, pd = some d ∧ j = d.block) := by
  rcases h with h | h | h | h | h | h | h
  · exact Or.inl (Or.inl h)
  · exact Or.inl (Or.inr (Or.inl h))
  · exact Or.inl (Or.inr (Or.inr (Or.inl h)))
  · exact Or.inl (Or.inr (Or.inr (Or.inr (Or.inl h))))
  · exact Or.inl (Or.inr (Or.inr (Or.inr (Or.inr (Or.inl h)))))
  · exact Or.inl (Or.inr (Or.inr (Or.inr (Or.inr (Or.inr h)))))
  · exact Or.inr h
theorem add_chain {w w10 W12 W14 : World} {m : Nat} {v v' cv cv' gv gv' rv : Value} {P : Nat → Prop} {pd : Option Addr} {ps : List Int} (r2 : Offs (RepO m v cv gv rv P) w w10) (r3 : ∀ j, RepO m v' cv gv rv P j → RepO m v cv gv rv P j ∨ w.heap.size ≤ j)
    (q2 : Offs (RepO m v' cv gv rv P) w10 W12) (q3 : ∀ j, RepO m v' cv' gv rv (morePar P pd ps) j → RepO m v' cv gv rv (morePar P pd ps) j ∨ w10.heap.size ≤ j)
    (u2 : Offs (RepO m v' cv' gv rv (morePar P pd ps)) W12 W14) (u3 : ∀ j, RepO m v' cv' gv' rv (morePar P pd ps) j → RepO m v' cv' gv rv (morePar P pd ps) j ∨ W12.heap.size ≤ j) :
    Offs (RepO m v cv gv rv (morePar P pd ps)) w W14 ∧ ∀ j, RepO m v' cv' gv' rv (morePar P pd ps) j → RepO m v cv gv rv (morePar P pd ps) j ∨ w.heap.size ≤ j := by
  have z1 := r2.size
  have z2 := q2.size
  have M : ∀ j, RepO m v' cv gv rv (morePar P pd ps) j → RepO m v cv gv rv (morePar P pd ps) j ∨ w.heap.size ≤ j := fun j hj => by
    rcases hj.split with h | h
    · exact (r3 j h).imp RepO.more id
    · exact Or.inl (Or.inr (Or.inr (Or.inr (Or.inr (Or.inr (Or.inr h))))))
  have M2 : ∀ j, RepO m v' cv' gv rv (morePar P pd ps) j → RepO m v cv gv rv (morePar P pd ps) j ∨ w.heap.size ≤ j := fun j hj => (q3 j hj).elim (M j) (fun h => Or.inr (by omega))
  have A : Offs (RepO m v cv gv rv (morePar P pd ps)) w w10 := r2.mono fun j hj => Or.inl hj.more
  have B := A.trans q2 fun j hj => (r3 j hj).imp RepO.more id
  exact ⟨B.trans u2 M2, fun j hj => (u3 j hj).elim (M2 j) fun h => Or.inr (by omega)⟩

set_option maxHeartbeats 64000000 in
set_option maxRecDepth 100000 in
theorem RAdd_any (w : World) (B0 m : Nat) (v cv gv rv : Value) (R : Rp) (P : Nat → Prop) (pd sd : Option Addr) (pc sc : Nat) (ps : List Int) (s : List Tr) (t : List UInt8) (h : RepW w B0 m v cv gv rv R P) (hR : GoodR R)
    (hs : SlT w sd s) (ss : IsSet s) (hsb : s ≠ [] → ∀ d, sd = some d → d.block < B0) (hps : SlI w pd ps) (okp : okPar R.coms.length ps) (hp : ps ≠ [] → ∀ d, pd = some d → m < d.block ∧ ∃ cur, w.heap[d.block]? = some (.cells cur 3 (0, 0))) :
    Calls Tryz.prog 32 #[.pointer (some ⟨m, 0, none⟩), .slice pd ps.length pc, .slice sd s.length sc, .string ⟨t.toArray⟩] w fun e w' => AddAns w B0 m v cv gv rv R P pd ps s t e w' := by
  have H := hideO h
  have HR := hideO hR
  have Hs := hideO (And.intro hs (And.intro ss hsb))
  have Hps := hideO (And.intro hps (And.intro okp hp))
  have hc60 := hR.coms.1
  have hgl := hR.len
  have hp2 := okp.1
  have hs2 := ss.1
  have HC : Hid (∀ W, RowKit.Below w.heap.size w W → W.cell? ⟨m, 2, none⟩ = some cv ∧ W.cell? ⟨m, 3, none⟩ = some gv ∧ m < W.heap.size) := fun W hb => ⟨(h.below hb).cells.1, (h.below hb).cells.2.1, (h.below hb).lt⟩
  obtain ⟨cs, hcs, hcs2⟩ := h.com
  obtain ⟨gs, hgs, hgs2⟩ := h.gr
  have HCS := hideO (And.intro hcs hcs2)
  have HGS := hideO (And.intro hgs hgs2)
  have hcf : ∃ ca cc, cv = .slice ca R.coms.length cc := h.comForm
  have hgf : ∃ ga gc, gv = .slice ga R.gr.length gc := by
    rcases hgs.2 with ⟨rfl, h0⟩ | ⟨g, cap, cur, rfl, _⟩
    · exact ⟨none, 0, by rw [h0]⟩
    · exact ⟨_, cap, rfl⟩
  obtain ⟨ca, cc, rfl⟩ := hcf
  obtain ⟨ga, gc, rfl⟩ := hgf
  clear h hR hs ss hsb hps okp hp hcs hcs2 hgs hgs2
  go_enter Tryz.func32, Tryz.ntmps32
  go_wp2_with fail
  go_loopw [10] (fun i wr => ∃ (k : Nat), k ≤ R.coms.length ∧ i = .int .i64 k ∧ Hid (∀ j, j < k → ¬ sameC R ps s t j) ∧ Hid (RowKit.Below w.heap.size w wr)) (fun i wr => R.coms.length - (intOf i).toNat)
  case atStart => exact ⟨0, by omega, rfl, fun j hj => by omega, RowKit.Below.refl _ _⟩
  case round =>
    obtain ⟨k, hk, rfl, hno, hbr⟩ := hrel
    obtain ⟨c2, c3, zm⟩ := HC.out _ hbr.out
    by_cases hlt : k < R.coms.length
    · obtain ⟨g, e1, hgz, hcell⟩ := row_cells HCS.out.1 (by omega)
      obtain ⟨a, c, q1, q2, q3, q4, _⟩ := HCS.out.2 k hlt
      obtain ⟨g2, e2, hgz2, hcell2⟩ := row_cells HGS.out.1 (by omega)
      obtain ⟨a2, cg, r1, r2, _⟩ := HGS.out.2 k (by omega)
      have d0 : wr.cell? ⟨g, k * 3, none⟩ = some (.slice a R.coms[k].1.length c) := (hbr.out.cell (p := ⟨g, k * 3, none⟩) hgz).trans (hcell _ _ q1)
      have d1 : wr.cell? ⟨g, k * 3 + 1, none⟩ = some (.int .i64 R.coms[k].2.1) := (hbr.out.cell (p := ⟨g, k * 3 + 1, none⟩) hgz).trans (hcell _ _ q2)
      have d2 : wr.cell? ⟨g, k * 3 + 2, none⟩ = some (.string ⟨R.coms[k].2.2.toArray⟩) := (hbr.out.cell (p := ⟨g, k * 3 + 2, none⟩) hgz).trans (hcell _ _ q3)
      have D3 : Hid (∀ W, RowKit.Below w.heap.size w W → W.cell? ⟨g2, k, none⟩ = some (.slice a2 (R.gr[k]'(by omega)).length cg) ∧ SlT W a2 (R.gr[k]'(by omega)) ∧ g2 < W.heap.size) := fun W hb => ⟨(hb.cell (p := ⟨g2, k, none⟩) hgz2).trans (hcell2 _ _ r1), r2.below hb, by have := hb.size; omega⟩
      have S4 : Hid (∀ W, RowKit.Below w.heap.size w W → SlI W a R.coms[k].1 ∧ SlI W pd ps) := fun W hb => ⟨q4.below hb, Hps.out.1.below hb⟩
      have hsame : Hid (sameC R ps s t k ↔ R.coms[k].2.2 = t ∧ R.coms[k].1 = ps ∧ R.gr[k]'(by omega) = s) := ⟨fun ⟨_, _, hh⟩ => hh, fun hh => ⟨hlt, by omega, hh⟩⟩
      have hpx : R.coms[k].1.length ≤ 2 := by
        have := HR.out.coms.2 k hlt
        unfold comN at this
        split at this
        · simp at this
        · rename_i hh; omega
      have hy200 : (R.gr[k]'(by omega)).length ≤ 200 := (HR.out.sets _ (List.getElem_mem (by omega))).1
      subst e1 e2
      have i0 : (0 : Int) ≤ (k : Int) := by omega
      have i1 : (k : Int) < (R.coms.length : Int) := by omega
      have i2 : (k : Int) < (R.gr.length : Int) := by omega
      have hz1 : g < wr.heap.size := by have := hbr.out.size; omega
      clear q1 q2 q3 q4 r1 r2 hcell hcell2
      generalize R.coms[k] = x at *
      generalize R.gr[k]'(by omega) = y at *
      go_upto_region 5 with fail
      have hb1 := hideO (bstep hbr.out (balloc wr (.cells #[.slice a x.1.length c, .int .i64 x.2.1, .string ⟨x.2.2.toArray⟩] 86)))
      go_cut [12] (fun u W => u = .bool (decide (x.2.2 = t ∧ x.1.length = ps.length)) ∧ W = wr.alloc (.cells #[.slice a x.1.length c, .int .i64 x.2.1, .string ⟨x.2.2.toArray⟩] 86))
      case first =>
        clear HC H HR Hs Hps HCS HGS D3 S4 hsame hno
        by_cases hm : x.2.2 = t
        · have hm' : (x.2.2 == t) = true := by simpa using hm
          by_cases hl : x.1.length = ps.length
          · have hv : Hid (decide (x.2.2 = t ∧ x.1.length = ps.length) = true) := decide_eq_true ⟨hm, hl⟩
            have hl' : ((x.1.length : Int) == (ps.length : Int)) = true := by simp; omega
            clear hm hl
            go_wp2_with fail
            go_meet
            case rel => exact ⟨by rw [hv.out], rfl⟩
          · have hv : Hid (decide (x.2.2 = t ∧ x.1.length = ps.length) = false) := decide_eq_false fun hh => hl hh.2
            have hl' : ((x.1.length : Int) == (ps.length : Int)) = false := by simp; omega
            clear hm hl
            go_wp2_with fail
            go_meet
            case rel => exact ⟨by rw [hv.out], rfl⟩
        · have hm' : (x.2.2 == t) = false := by simpa using hm
          have hv : Hid (decide (x.2.2 = t ∧ x.1.length = ps.length) = false) := decide_eq_false fun hh => hm hh.1
          clear hm
          go_wp2_with fail
          go_meet
          case rel => exact ⟨by rw [hv.out], rfl⟩
      case rest =>
        obtain ⟨rfl, rfl⟩ := hcut
        have hcp : (wr.alloc (.cells #[.slice a x.1.length c, .int .i64 x.2.1, .string ⟨x.2.2.toArray⟩] 86)).cell? ⟨wr.heap.size, 0, none⟩ = some (.slice a x.1.length c) := by go_simp
        have hzc := World.block_lt_of_cell? _ _ hcp
        generalize hW1 : wr.alloc (.cells #[.slice a x.1.length c, .int .i64 x.2.1, .string ⟨x.2.2.toArray⟩] 86) = W1 at *
        clear hW1 d0 d1 d2 c2 c3 zm hz1
        generalize wr.heap.size = z0 at *
        go_upto_block 2 with fail
        go_cut [12, 13] (fun u _ W => u = .bool (decide (x.2.2 = t ∧ x.1 = ps)) ∧ Hid (RowKit.Below w.heap.size w W))
        case first =>
          clear HC H HR Hs Hps HCS HGS D3 hsame hno
          go_wp2_with fail
          go_loopw [12, 13] (fun u i wr2 => ∃ (q : Nat) (b : Bool), q ≤ ps.length ∧ i = .int .i64 q ∧ u = .bool b ∧ Hid (b = decide (x.2.2 = t ∧ x.1.length = ps.length ∧ x.1.take q = ps.take q)) ∧ Hid (RowKit.Below W1.heap.size W1 wr2)) (fun _ i wr2 => ps.length - (intOf i).toNat)
          case atStart => exact ⟨0, _, by omega, rfl, rfl, by show _ = _; simp, RowKit.Below.refl _ _⟩
          case round =>
            obtain ⟨q, b, hq, rfl, rfl, hbq, hbw⟩ := hrel
            by_cases hlq : q < ps.length
            · have q1 : (q : Int) < (ps.length : Int) := by omega
              cases b with
              | true =>
                obtain ⟨f1, f2, f3⟩ := of_decide_eq_true hbq.out.symm
                have hlx : q < x.1.length := by omega
                have hS := S4.out wr (bstep hb1.out hbw.out)
                obtain ⟨pb, po, e1, p1⟩ := hS.1.at hlx
                obtain ⟨qb, qo, e2, p2⟩ := hS.2.at hlq
                have hnew : Hid ((x.1[q] == ps[q]) = decide (x.2.2 = t ∧ x.1.length = ps.length ∧ x.1.take (q + 1) = ps.take (q + 1))) := by
                  show _ = _
                  rw [Bool.eq_iff_iff, beq_iff_eq, decide_eq_true_eq, take_sameI hlx hlq]
                  exact ⟨fun hh => ⟨f1, f2, f3, hh⟩, fun hh => hh.2.2.2⟩
                have q0 : (0 : Int) ≤ (q : Int) := by omega
                have q2 : (q : Int) < (x.1.length : Int) := by omega
                have hcp2 : wr.cell? ⟨z0, 0, none⟩ = some (.slice a x.1.length c) := (hbw.out.cell (p := ⟨z0, 0, none⟩) hzc).trans hcp
                have hzc2 : z0 < wr.heap.size := World.block_lt_of_cell? wr _ hcp2
                have hbd := hideO hbw.out.drew
                subst e1 e2
                clear hbq f1 f2 f3 hS hcp
                generalize x.1[q] = z1 at *
                generalize ps[q] = z2 at *
                go_wp2_with fail
                go_region
                go_wp2_with fail
                go_roundw
                case rel => exact ⟨q + 1, _, by omega, by go_num, rfl, hnew, hbd⟩
                case measure => simp [intOf]; omega
              | false =>
                have hfin : Hid (decide (x.2.2 = t ∧ x.1 = ps) = false) := decide_eq_false fun hh => by
                  have := of_decide_eq_false hbq.out.symm
                  exact this ⟨hh.1, by rw [hh.2], by rw [hh.2]⟩
                clear hbq
                go_wp2_with fail
                go_meet
                case rel => exact ⟨by rw [hfin.out], bstep hb1.out hbw.out⟩
            · obtain rfl : q = ps.length := by omega
              have hfin : Hid (b = decide (x.2.2 = t ∧ x.1 = ps)) := by
                show _ = _
                rw [hbq.out, decide_eq_decide]
                constructor
                · rintro ⟨f1, f2, f3⟩
                  rw [List.take_length, ← f2, List.take_length] at f3
                  exact ⟨f1, f3⟩
                · rintro ⟨f1, f2⟩
                  rw [f2]
                  exact ⟨f1, rfl, rfl⟩
              clear hbq
              go_wp2_with fail
              go_meet
              case rel => exact ⟨by rw [hfin.out], bstep hb1.out hbw.out⟩
        case rest =>
          obtain ⟨rfl, hB2⟩ := hcut
          obtain ⟨_, c3', zm'⟩ := HC.out _ hB2.out
          obtain ⟨d3, d4, d5⟩ := D3.out _ hB2.out
          have DS := RSame_any a2 sd cg sc y s _ d4 (Hs.out.1.below hB2.out) (by omega)
          by_cases hA : x.2.2 = t ∧ x.1 = ps
          · rw [decide_eq_true hA]
            by_cases hY : y = s
            · have hfin : Hid (∀ e W', e = .returned (.tuple #[.int .i64 (k : Int), .int .i64 0]) → RowKit.Below w.heap.size w W' → AddAns w B0 m v (.slice (some ⟨g, 0, none⟩) R.coms.length cc) (.slice (some ⟨g2, 0, none⟩) R.gr.length gc) rv R P pd ps s t e W') := fun e W' he hb' => by
                have hsm : sameC R ps s t k := hsame.out.2 ⟨hA.1, hA.2, hY⟩
                obtain ⟨h1, h2, h3⟩ := hsm
                have hf := findC_first h1 h2 (fun j hj hh => hno.out j hj ⟨by omega, by omega, hh⟩) h3
                obtain ⟨f1, f2, f3⟩ := add_found hf
                exact AddAns.old H.out hb' f3 (by rw [he, f1, f2])
              rw [decide_eq_true hY] at DS
              clear hA hY hsame hno d4 D3 HCS HGS S4 HR Hs Hps H
              go_wp2_with (go_at_call 51; refine DS.mono ?_; rintro e w9 ⟨rfl, hb9⟩; dsimp only)
              exact bodyPost_ret (v := .tuple #[.int .i64 (k : Int), .int .i64 0]) (by simp [results, Tryz.results32, go_sem]) rfl (hfin.out _ _ rfl (bstep hB2.out hb9))
            · have hno' : Hid (∀ j, j < k + 1 → ¬ sameC R ps s t j) := fun j hj hh => by
                by_cases ej : j = k
                · subst ej; exact hY (hsame.out.1 hh).2.2
                · exact hno.out j (by omega) hh
              rw [decide_eq_false hY] at DS
              clear hA hY hsame hno d4 D3 HCS HGS S4 HR Hs Hps H
              go_wp2_with (go_at_call 51; refine DS.mono ?_; rintro e w9 ⟨rfl, hb9⟩; dsimp only)
              have hB9 := hideO (bstep hB2.out hb9)
              clear hb9
              go_roundw
              case rel => exact ⟨k + 1, by omega, by go_num, hno', hB9⟩
              case measure => simp [intOf]; omega
          · have hno' : Hid (∀ j, j < k + 1 → ¬ sameC R ps s t j) := fun j hj hh => by
              by_cases ej : j = k
              · subst ej; exact hA ⟨(hsame.out.1 hh).1, (hsame.out.1 hh).2.1⟩
              · exact hno.out j (by omega) hh
            rw [decide_eq_false hA]
            generalize decide (y = s) = ys at DS
            clear hA hsame hno d4 D3 HCS HGS S4 HR Hs Hps H
            go_wp2_with (go_at_call 51; refine DS.mono ?_; rintro e w9 ⟨rfl, hb9⟩; dsimp only)
            have hB9 := hideO (bstep hB2.out hb9)
            clear hb9
            go_roundw
            case rel => exact ⟨k + 1, by omega, by go_num, hno', hB9⟩
            case measure => simp [intOf]; omega
    · obtain rfl : k = R.coms.length := by omega
      have hnone : findC R.coms R.gr ps s t = none := findC_no fun j h1 h2 hh => hno.out j h1 ⟨h1, h2, hh⟩
      have Hnone := hideO hnone
      clear hno hnone
      by_cases h60 : 60 ≤ R.coms.length
      · have hfin : Hid (∀ e W', e = .returned (.tuple #[.int .i64 0, .int .i64 4]) → RowKit.Below w.heap.size w W' → AddAns w B0 m v (.slice ca R.coms.length cc) (.slice ga R.gr.length gc) rv R P pd ps s t e W') := fun e W' he hb' => by
          refine AddAns.old H.out hb' ?_ ?_
          · unfold addR; rw [Hnone.out]; dsimp only; rw [if_pos h60]
          · rw [he]; unfold addI addE; rw [Hnone.out]; dsimp only; rw [if_pos h60, if_pos h60]; rfl
        have h60' : (R.coms.length : Int) ≥ 60 := by omega
        clear h60 HCS HGS HR Hs Hps H HC Hnone
        go_wp2_with fail
        exact bodyPost_ret (v := .tuple #[.int .i64 0, .int .i64 4]) (by simp [results, Tryz.results32, go_sem]) rfl (hfin.out _ _ rfl hbr.out)
      · have h60' : ¬ (R.coms.length : Int) ≥ 60 := by omega
        go_upto_if 91 with fail
        go_cut [15] (fun u W => ∃ fd fc, u = .slice fd (fromR R ps).length fc ∧ Hid (SlT W fd (fromR R ps)) ∧ Hid (RowKit.Below w.heap.size w W))
        case first =>
          cases hps : ps with
          | nil =>
            subst hps
            clear HCS HGS HR Hs Hps H HC Hnone
            go_wp2_with fail
            go_meet
            case rel => exact ⟨none, 0, rfl, fun hne => absurd rfl hne, hbr⟩
          | cons p0 pr =>
            have hpos : 0 < ps.length := by rw [hps]; simp
            have hp0 := Hps.out.2.1.2.1 p0 (by rw [hps]; simp)
            obtain ⟨pn, hpn⟩ : ∃ pn : Nat, p0 = (pn : Int) := ⟨p0.toNat, by omega⟩
            subst hpn
            have hpl : pn < R.gr.length := by omega
            have hfrom : Hid (fromR R ps = R.gr[pn]) := by
              show _ = _
              rw [hps]
              unfold fromR
              simp only [Int.toNat_natCast]
              rw [List.getElem?_eq_getElem hpl]
              rfl
            obtain ⟨g2, e2, hgz2, hcell2⟩ := row_cells HGS.out.1 (by omega)
            obtain ⟨a2, cg, r1, r2, _⟩ := HGS.out.2 pn hpl
            obtain ⟨pb, po, e1, p1⟩ := (Hps.out.1.below hbr.out).at (j := 0) hpos
            have hp1 : ps[0] = (pn : Int) := by simp [hps]
            rw [hp1, Nat.add_zero] at p1
            have d3 : wr.cell? ⟨g2, pn, none⟩ = some (.slice a2 (R.gr[pn]).length cg) := (hbr.out.cell (p := ⟨g2, pn, none⟩) hgz2).trans (hcell2 _ _ r1)
            have HS := hideO (r2.below hbr.out)
            subst e1 e2
            have j0 : (0 : Int) ≤ (pn : Int) := by omega
            have j1 : (pn : Int) < (R.gr.length : Int) := by omega
            have j2 : (ps.length : Int) > 0 := by omega
            have j3 : (0 : Int) < (ps.length : Int) := by omega
            have hbd := hideO hbr.out.drew
            have HS2 := hideO (r2.below hbr.out.drew)
            rw [← hps]
            clear HCS HGS HR Hs Hps H HC Hnone hps hp0 hp1 r1 r2 hcell2 HS
            generalize R.gr[pn] = y at *
            go_wp2_with fail
            go_region
            go_wp2_with fail
            go_meet
            case rel => exact ⟨a2, cg, by rw [hfrom.out], by rw [hfrom.out]; exact HS2, hbd⟩
        case rest =>
          obtain ⟨fd, fc, rfl, sf, hB5⟩ := hcut
          have hF := from_set HR.out ps
          have hfl := hF.1
          have hl1 : Hid (IsSet (partL s (fromR R ps) false)) := Hs.out.2.1.filter _
          have hl2 : Hid (IsSet (partL (fromR R ps) s false)) := hF.filter _
          have hby : Hid (bytesR R ps s = encS (partL s (fromR R ps) false) ++ encS (partL (fromR R ps) s false)) := by show _ = _; rw [part_less, part_less]; rfl
          have D1 := fun W (h1 : SlT W sd s) (h2 : SlT W fd (fromR R ps)) => RPart_any sd fd sc fc s (fromR R ps) false W h1 h2 (by omega) (by omega)
          have D2 := fun W (h1 : SlT W sd s) (h2 : SlT W fd (fromR R ps)) => RPart_any fd sd fc sc (fromR R ps) s false W h2 h1 (by omega) (by omega)
          have hs5 := hideO (Hs.out.1.below hB5.out)
          clear hF c2 c3 zm HC hbr
          generalize partL s (fromR R ps) false = l1 at *
          generalize partL (fromR R ps) s false = l2 at *
          generalize fromR R ps = F at *
          go_wp2_with fail
          refine (D1 _ hs5.out sf.out).mono ?_
          rintro e w6 ⟨a1, c1, rfl, s6, b6⟩
          have hs6 := hideO (hs5.out.below b6)
          have sf6 := hideO (sf.out.below b6)
          have hB6 := hideO (bstep hB5.out b6)
          have S6 := hideO s6
          clear hs5 sf hB5 s6 b6 D1
          go_wp2_with fail
          refine (D2 _ hs6.out sf6.out).mono ?_
          rintro e w7 ⟨a2, c2, rfl, s7, b7⟩
          have S7 := hideO s7
          have S6 := hideO (S6.out.below b7)
          have hB7 := hideO (bstep hB6.out b7)
          clear hs6 sf6 hB6 s7 b7 D2
          go_wp2_with fail
          refine (RSetBytes_any a1 c1 l1 _ S6.out hl1.out).mono ?_
          rintro e w8 ⟨rfl, b8⟩
          have S8 := hideO (S7.out.below b8)
          have hB8 := hideO (bstep hB7.out b8)
          clear S6 S7 hB7 b8
          go_wp2_with fail
          refine (RSetBytes_any a2 c2 l2 _ S8.out hl2.out).mono ?_
          rintro e w9 ⟨rfl, b9⟩
          have hB9 := hideO (bstep hB8.out b9)
          have z1 := encS_short hl1.out
          have z2 := encS_short hl2.out
          have hbl : (bytesR R ps s).length ≤ 9223372036854775807 := by rw [hby.out, List.length_append]; omega
          have DP := RPutX_any m v R.n R.L (bytesR R ps s) w9 (H.out.below hB9.out).st (by have := HR.out.store.len; omega) (by have := HR.out.last; omega) hbl
          rw [hby.out] at DP
          have ha1 : Hid (addI R ps s t = if putE R.L (bytesR R ps s) ≠ 0 then 0 else R.coms.length) := by show _ = _; unfold addI; rw [Hnone.out]; dsimp only; rw [if_neg h60]
          have ha2 : Hid (addE R ps s t = putE R.L (bytesR R ps s)) := by show _ = _; unfold addE; rw [Hnone.out]; dsimp only; rw [if_neg h60]
          have ha3 : Hid (addR R ps s t = if putE R.L (bytesR R ps s) ≠ 0 then R else ⟨putM R.n R.L (bytesR R ps s), putL R.n R.L (bytesR R ps s), R.coms ++ [(ps, (putI R.n R.L (bytesR R ps s) : Int), t)], R.gr ++ [s], R.refs⟩) := by show _ = _; unfold addR; rw [Hnone.out]; dsimp only; rw [if_neg h60]
          rw [← hby.out] at DP
          have hby2 := hideO ((str_app9 (encS l1) (encS l2)).trans (by rw [← hby.out]))
          clear S8 hB8 b9 hl1 hl2 hby Hnone hbl HCS HGS
          generalize bytesR R ps s = bs at *
          generalize encS l1 = x1 at *
          generalize encS l2 = x2 at *
          go_wp2_with fail
          rw [hby2.out]
          refine DP.mono ?_
          rintro e w10 ⟨rfl, v', hR10, hO10, hN10⟩
          obtain ⟨r1, r2, r3, r4, r5, r6⟩ := add_put H.out hB9.out hR10 hO10 hN10 Hs.out.1 Hs.out.2.2 Hps.out.1 Hps.out.2.2
          have hsb := hideO Hs.out.2.2
          clear hR10 hO10 hN10 H HR Hs Hps hB9 DP hby2
          by_cases hE : putE R.L bs = 0
          · rw [if_neg (by simpa using hE)] at ha1 ha3
            rw [hE] at ha2 ⊢
            have hlt := r1.lt
            have hbase := r1.base
            obtain ⟨c2, c3, _, f2, f3, _⟩ := r1.cells
            obtain ⟨cs, hcs, hc2⟩ := r1.com
            have hcs : w10.ownsRow (m + 1) 86 3 (.slice ca R.coms.length cc) R.coms.length cs := hcs
            obtain ⟨i0, hi0, hz⟩ := Option.map_eq_some_iff.1 infoCm
            simp only [Prod.mk.injEq] at hz
            obtain ⟨hz0, hz1, hz2⟩ := hz
            obtain ⟨i1, hi1, hy⟩ := Option.map_eq_some_iff.1 infoGr
            simp only [Prod.mk.injEq] at hy
            obtain ⟨hy0, hy1, hy2⟩ := hy
            have HC2 := hideO hc2
            have Hcs := hideO hcs
            have R1 := hideO r1
            have R2 := hideO (And.intro r2 r3)
            have R4 := hideO r4
            have R5 := hideO (And.intro r5 r6)
            have hg60 : R.gr.length ≤ 60 := by omega
            clear hc2 hcs r1 r2 r3 r4 r5 r6 hE hgl
            generalize putM R.n R.L bs = nM at *
            generalize putL R.n R.L bs = nL at *
            generalize putI R.n R.L bs = y at *
            go_wp2_with (at_builtin; refine wpList_append_lies _ rfl _ _ 31 rfl (m + 1) 86 i0 (.agg #[.slice none 0 0, .int .i64 0, .string ⟨#[]⟩]) 3 48 Tryz.underlying31 hi0 hz0 hz1 hz2 rfl (by decide) _ _ cs rfl (Hcs.out.alloc _) ⟨w10.heap.size, 0, none⟩ 1 1 (comCells pd pc ps (y : Int) t) rfl rfl (newCm w10 pd pc ps (y : Int) t) (by simp [comCells, Value.oneCell']) (by decide) (by unfold maxLen; omega) (by omega) (by simp; omega) _ rfl ?_)
            intro g cap w11 h2 h3 h4 h5
            obtain ⟨q1, q2, q3⟩ := R1.out.pushCom (balloc w10 _) Hcs.out HC2.out h2 h3 (fun j hj => by
              have hj : some g = some j := hj
              cases hj
              rcases h4 with h4 | h4
              · exact Or.inl h4
              · refine Or.inr ?_
                rw [h4]
                simp) R5.out.1 R5.out.2
            have hm11 : w11.heap[m]? = w10.heap[m]? := (h3.block m (by simp; omega) (fun e => by have := (Hcs.out.lt m e.symm).1; omega)).trans (Below.heap_alloc _ _ m hlt)
            have c11 : w11.cell? ⟨m, 2, none⟩ = some (.slice ca R.coms.length cc) := (World.cell?_of_block (w := w10) (a := ⟨m, 2, none⟩) hm11).trans c2
            have f11 : w11.frozen? ⟨m, 2, none⟩ = false := by
              have := R1.out.st.1
              simp [World.frozen?, hm11, this]
            have zm11 : m < w11.heap.size := World.block_lt_of_cell? _ _ c11
            clear h2 h3 h4 h5 hm11 c2 c3 f2 f3 HC2 Hcs
            have QQ := hideO (And.intro q1 (And.intro q2 q3))
            clear q1 q2 q3
            go_upto_region 26 with fail
            generalize w11.setCell ⟨m, 2, none⟩ (.slice (some ⟨g, 0, none⟩) (R.coms.length + 1) cap) = W12 at *
            clear c11 f11 zm11
            obtain ⟨q1, q2, q3⟩ := QQ.out
            obtain ⟨c2, c3, _, f2, f3, _⟩ := q1.cells
            have zm := q1.lt
            obtain ⟨gs, hgs, hg2⟩ := q1.gr
            have hgs : W12.ownsRow (m + 1) 37 1 (.slice ga R.gr.length gc) R.gr.length gs := hgs
            have hsT : SlT W12 sd s := R4.out.keepB fun hl d hd => by
              have h1 := hsb.out hl d hd
              refine q2.block d.block (by omega) fun hO => ?_
              have := (R1.out.own _ hO).1
              omega
            have HG2 := hideO hg2
            have Hgs := hideO hgs
            have HsT := hideO hsT
            clear q1 q2 q3 hgs hg2 hsT
            go_wp2_with (at_builtin; refine wpList_append_lies _ rfl _ _ 24 rfl (m + 1) 37 i1 (.slice none 0 0) 1 24 Tryz.underlying24 hi1 hy0 hy1 hy2 rfl (by decide) _ _ gs rfl (Hgs.out.alloc _) ⟨W12.heap.size, 0, none⟩ 1 1 [.slice sd s.length sc] rfl rfl (newGr W12 sd sc s.length) (by simp [Value.oneCell']) (by decide) (by unfold maxLen; omega) (by omega) (by simp; omega) _ rfl ?_)
            intro g2 cap2 w13 h2 h3 h4 h5
            obtain ⟨u1, u2, u3⟩ := QQ.out.1.pushGr (balloc W12 _) Hgs.out HG2.out h2 h3 (fun j hj => by
              have hj : some g2 = some j := hj
              cases hj
              rcases h4 with h4 | h4
              · exact Or.inl h4
              · refine Or.inr ?_
                rw [h4]
                simp) HsT.out hsb.out
            have hm13 : w13.heap[m]? = W12.heap[m]? := (h3.block m (by simp; omega) (fun e => by have := (Hgs.out.lt m e.symm).1; omega)).trans (Below.heap_alloc _ _ m zm)
            have c13 : w13.cell? ⟨m, 3, none⟩ = some (.slice ga R.gr.length gc) := (World.cell?_of_block (w := W12) (a := ⟨m, 3, none⟩) hm13).trans c3
            have f13 : w13.frozen? ⟨m, 3, none⟩ = false := by
              have := QQ.out.1.st.1
              simp [World.frozen?, hm13, this]
            have zm13 : m < w13.heap.size := World.block_lt_of_cell? _ _ c13
            have hfin : Hid (AddAns w B0 m v (.slice ca R.coms.length cc) (.slice ga R.gr.length gc) rv R P pd ps s t (.returned (.tuple #[.int .i64 (R.coms.length : Int), .int .i64 0])) (w13.setCell ⟨m, 3, none⟩ (.slice (some ⟨g2, 0, none⟩) (R.gr.length + 1) cap2))) := by
              obtain ⟨o1, o2⟩ := add_chain R2.out.1 R2.out.2 QQ.out.2.1 QQ.out.2.2 u2 u3
              refine ⟨by rw [ha1.out, ha2.out], v', _, _, rv, _, ?_, o1, o2⟩
              rw [ha3.out]
              exact u1
            have c14 := u1.cells.1
            have zm14 := u1.lt
            clear h2 h3 h4 h5 hm13 c2 c3 f2 f3 HG2 Hgs u1 u2 u3 QQ R1 R2 R4 R5 ha1 ha2 ha3 HsT
            go_upto_region 27 with fail
            generalize w13.setCell ⟨m, 3, none⟩ (.slice (some ⟨g2, 0, none⟩) (R.gr.length + 1) cap2) = W14 at *
            clear c13 f13 zm13
            have hsub : ((R.coms.length : Int) + 1) - 1 = (R.coms.length : Int) := by omega
            go_wp2_with fail
            exact bodyPost_ret (v := .tuple #[.int .i64 (R.coms.length : Int), .int .i64 0]) (by simp [results, Tryz.results32, go_sem]) rfl hfin.out
          · have hfin : Hid (AddAns w B0 m v (.slice ca R.coms.length cc) (.slice ga R.gr.length gc) rv R P pd ps s t (.returned (.tuple #[.int .i64 0, .int .i64 (putE R.L bs)])) w10) := by
              refine ⟨by rw [ha1.out, ha2.out, if_pos hE]; rfl, v', _, _, rv, P, ?_, r2.mono fun j hj => Or.inl hj.more, fun j hj => (r3 j hj).imp RepO.more id⟩
              rw [ha3.out, if_pos hE]
              rw [(put_fail hE).1, (put_fail hE).2] at r1
              exact r1
            have hE' : (putE R.L bs == 0) = false := by simpa using hE
            clear ha1 ha2 ha3 r1 r2 r3 r4 r5 r6 hE
            generalize putE R.L bs = en at *
            go_wp2_with fail
            exact bodyPost_ret (v := .tuple #[.int .i64 0, .int .i64 en]) (by simp [results, Tryz.results32, go_sem]) rfl hfin.out
end Go.Proofs.YtaddfndohoppeaaGreatDoor

/- The document's repo (package strataref2): Message. -/
namespace Go.Proofs.YtaddfndohoppeaaGreatDoor
open Go Go.RowKit Go.Proofs
set_option synthInstance.maxSize 1000

theorem okM_takeR {l : List UInt8} {k : Nat} (hk : k < l.length) : okM (l.take (k + 1)) = (okM (l.take k) && decide (32 ≤ l[k].toNat ∧ l[k].toNat ≤ 126)) := by
  unfold okM
  rw [List.take_succ_eq_append_getElem hk, List.all_append]
  simp
set_option maxHeartbeats 2000000 in
set_option maxRecDepth 100000 in
theorem RMsg_any (l : List UInt8) (w : World) :
    Calls Tryz.prog 29 #[.string ⟨l.toArray⟩] w fun e w' => e = .returned (.int .i64 (msgN l)) ∧ w' = w := by
  by_cases h24 : 24 < l.length
  · have hf : Hid (msgN l = 4) := by show _ = _; unfold msgN; rw [if_pos h24]
    have j0 : (24 : Int) < (l.length : Int) := by omega
    go_enter Tryz.func29, Tryz.ntmps29
    go_wp2
    go_ret
    exact ⟨by rw [hf.out]; rfl, rfl⟩
  · have hmsg : Hid (msgN l = if okM l = true then 0 else 2) := by show _ = _; unfold msgN; rw [if_neg h24]
    have j0 : ¬ (24 : Int) < (l.length : Int) := by omega
    have hz : l.length ≤ 24 := by omega
    clear h24
    go_enter Tryz.func29, Tryz.ntmps29
    go_wp2_with fail
    go_loopw [3] (fun i wr => ∃ (k : Nat), k ≤ l.length ∧ i = .int .i64 k ∧ wr = w ∧ Hid (okM (l.take k) = true)) (fun i wr => l.length - (intOf i).toNat)
    case atStart => exact ⟨0, by omega, rfl, rfl, by show _ = _; simp [okM]⟩
    case round =>
      obtain ⟨k, hk, rfl, hw, hs⟩ := hrel
      obtain rfl : w = wr := hw.symm
      by_cases hlt : k < l.length
      · have i0 : (0 : Int) ≤ (k : Int) := by omega
        have i1 : (k : Int) < (l.length : Int) := by omega
        have hot := hideO (okM_takeR hlt)
        have hidx : ∀ h, (⟨l.toArray⟩ : ByteArray)[k]'h = l[k] := fun _ => rfl
        by_cases h1 : l[k].toNat < 32
        · have g1 : ((l[k].toNat : Int) < 32) := by omega
          have hf : Hid (msgN l = 2) := by
            show _ = _
            rw [hmsg.out, if_neg]
            intro h
            unfold okM at h
            rw [List.all_eq_true] at h
            have := h _ (List.getElem_mem hlt)
            simp at this
            omega
          clear h1
          go_wp2
          go_ret
          exact ⟨by rw [hf.out]; rfl, rfl⟩
        · by_cases h2 : 126 < l[k].toNat
          · have g1 : ¬ ((l[k].toNat : Int) < 32) := by omega
            have g2 : (126 : Int) < (l[k].toNat : Int) := by omega
            have hf : Hid (msgN l = 2) := by
              show _ = _
              rw [hmsg.out, if_neg]
              intro h
              unfold okM at h
              rw [List.all_eq_true] at h
              have := h _ (List.getElem_mem hlt)
              simp at this
              omega
            clear h1 h2
            go_wp2
            go_ret
            exact ⟨by rw [hf.out]; rfl, rfl⟩
          · have g1 : ¬ ((l[k].toNat : Int) < 32) := by omega
            have g2 : ¬ (126 : Int) < (l[k].toNat : Int) := by omega
            have hs' : Hid (okM (l.take (k + 1)) = true) := by
              show _ = _
              rw [hot.out, hs.out]
              simp
              omega
            clear h1 h2
            go_wp2
            exact ⟨⟨k + 1, by omega, by go_num, by trivial, hs'⟩, by simp [intOf]; omega⟩
      · obtain rfl : k = l.length := by omega
        have hf : Hid (msgN l = 0) := by
          show _ = _
          have := hs.out
          rw [List.take_length] at this
          rw [hmsg.out, if_pos this]
        go_wp2
        go_ret
        exact ⟨by rw [hf.out]; rfl, rfl⟩
end Go.Proofs.YtaddfndohoppeaaGreatDoor

/- The document's repo (package strataref2): Commit. -/
namespace Go.Proofs.YtaddfndohoppeaaGreatDoor
open Go Go.RowKit Go.Proofs
set_option synthInstance.maxSize 1000

theorem infoI9 : (Tryz.prog.info? 3).map (fun i => (i.zero, i.size, i.bytes)) = some (some (.int .i64 0), 1, 8) := by kernel_rfl
theorem newI9 (W : World) (x : Int) : ∀ (j : Nat) u, [Value.int .i64 x][j]? = some u → (W.alloc (.cells #[.int .i64 x] 3)).cell? (Addr.add ⟨W.heap.size, 0, none⟩ j) = some u := fun j u hu => by
  have hj : j < 1 := by have := (List.getElem?_eq_some_iff.1 hu).1; simpa using this
  rw [Addr.add_lit]
  obtain rfl : j = 0 := by omega
  simp at hu; subst hu; go_simp
theorem RepTo.trans {w w2 w3 : World} {B0 m : Nat} {O O2 : Nat → Prop} {R : Rp} (h : Offs O w w2) (hO : ∀ j, O2 j → O j ∨ w.heap.size ≤ j) (k : RepTo w2 B0 m O2 R w3) : RepTo w B0 m O R w3 := by
  obtain ⟨v, cv, gv, rv, P, h1, h2, h3⟩ := k
  have hz := h.size
  exact ⟨v, cv, gv, rv, P, h1, h.trans h2 hO, fun j hj => (h3 j hj).elim (hO j) fun h' => Or.inr (by omega)⟩
theorem add_bad {R : Rp} {ps : List Int} {s : List Tr} {t : List UInt8} (h : addE R ps s t ≠ 0) : addR R ps s t = R := by
  unfold addE at h
  unfold addR
  cases hf : findC R.coms R.gr ps s t with
  | some i => rfl
  | none =>
    rw [hf] at h
    dsimp only at h ⊢
    by_cases h6 : 60 ≤ R.coms.length
    · rw [if_pos h6]
    · rw [if_neg h6] at h ⊢
      rw [if_pos h]
/-- Add of parents that lie in a new block -/
theorem RAdd_new {w : World} {B0 m : Nat} {v cv gv rv : Value} {R : Rp} {P : Nat → Prop} (h : RepW w B0 m v cv gv rv R P) (hR : GoodR R) (sd : Option Addr) (sc : Nat) (s : List Tr) (t : List UInt8) (hs : SlT w sd s) (ss : IsSet s) (hsb : s ≠ [] → ∀ d, sd = some d → d.block < B0)
    (pd : Option Addr) (pc : Nat) (ps : List Int) (okp : okPar R.coms.length ps) (W : World) (hb : RowKit.Below w.heap.size w W) (hI : SlI W pd ps) (hp : ps ≠ [] → ∀ d, pd = some d → w.heap.size ≤ d.block ∧ ∃ cur, W.heap[d.block]? = some (.cells cur 3 (0, 0))) :
    Calls Tryz.prog 32 #[.pointer (some ⟨m, 0, none⟩), .slice pd ps.length pc, .slice sd s.length sc, .string ⟨t.toArray⟩] W fun e w' => e = .returned (.tuple #[.int .i64 (addI R ps s t : Int), .int .i64 (addE R ps s t)]) ∧ RepTo w B0 m (RepO m v cv gv rv P) (addR R ps s t) w' := by
  refine (RAdd_any W B0 m v cv gv rv R P pd sd pc sc ps s t (h.below hb) hR (hs.below hb) ss hsb hI okp fun hl d hd => ?_).mono ?_
  · have := h.lt
    obtain ⟨h1, h2⟩ := hp hl d hd
    exact ⟨by omega, h2⟩
  · rintro e w' ⟨rfl, hT⟩
    refine ⟨rfl, hT.trans (Offs.of_below hb) fun j hj => ?_⟩
    rcases hj.split with h1 | ⟨h1, d, h2, rfl⟩
    · exact Or.inl h1
    · exact Or.inr (hp h1 d h2).1
/-- lead behind it -/
theorem RLead_to {w : World} {B0 m : Nat} {O : Nat → Prop} {R : Rp} (hf : R.refs.length ≤ 100) (b : List UInt8) (n : Nat) (W : World) (hT : RepTo w B0 m O R W) :
    Calls Tryz.prog 33 #[.pointer (some ⟨m, 0, none⟩), .string ⟨b.toArray⟩, .int .i64 (n : Int)] W fun e w' => e = .returned (.tuple #[]) ∧ RepTo w B0 m O (leadTo R b n) w' := by
  obtain ⟨v, cv, gv, rv, P, h1, h2, h3⟩ := hT
  refine (RLead_any m (m + 1) rv R.refs b n W h1.cells.2.2.1 h1.cells.2.2.2.2.2 h1.ref hf).mono ?_
  rintro e w' ⟨rfl, v', W', hb, ho, rfl⟩
  exact ⟨rfl, (RepTo.lead h1 hb ho).trans h2 h3⟩

/-- what Commit leaves -/
def ComAns (w : World) (B0 m : Nat) (O : Nat → Prop) (R : Rp) (b : List UInt8) (s : List Tr) (t : List UInt8) (e : Ending) (w' : World) : Prop :=
  e = .returned (.tuple #[.int .i64 (commitI R b s t : Int), .int .i64 (commitE R b s t)]) ∧ RepTo w B0 m O (commitR R b s t) w'

set_option maxHeartbeats 16000000 in
set_option maxRecDepth 100000 in
theorem RCommit_any (w : World) (B0 m : Nat) (v cv gv rv : Value) (R : Rp) (P : Nat → Prop) (b : List UInt8) (sd : Option Addr) (sc : Nat) (s : List Tr) (t : List UInt8) (h : RepW w B0 m v cv gv rv R P) (hR : GoodR R) (hb : b.length ≤ maxLen)
    (hs : SlT w sd s) (hfit : ∀ x ∈ s, fitTr x) (hn : s.length ≤ 9223372036854775807) (hsb : s ≠ [] → ∀ d, sd = some d → d.block < B0) :
    Calls Tryz.prog 5 #[.pointer (some ⟨m, 0, none⟩), .string ⟨b.toArray⟩, .slice sd s.length sc, .string ⟨t.toArray⟩] w fun e w' => ComAns w B0 m (RepO m v cv gv rv P) R b s t e w' := by
  have hfew := hR.few
  have D0 := RName_any b w hb
  have D1 := RSet_any sd sc s w hs hfit (by omega)
  have D2 := fun W => RMsg_any t W
  have D3 := hideO fun W (hb : RowKit.Below w.heap.size w W) => RRoom_any m (m + 1) rv R b W (h.below hb).cells.2.2.1 (h.below hb).ref (by omega)
  have D4 := hideO fun W (hb : RowKit.Below w.heap.size w W) => RAtName_any m (m + 1) rv R.refs b W (h.below hb).cells.2.2.1 (h.below hb).ref (by omega)
  have e1 : Hid (commitF R b s t = if nameR b = false then 2 else if setF s t ≠ 0 then setF s t else if roomR R b = false then 4 else 0) := rfl
  have e2 : Hid (setF s t = if sortedN s ≠ 0 then sortedN s else msgN t) := rfl
  have hbad : Hid (∀ x, commitF R b s t = x → x ≠ 0 → ∀ W, RowKit.Below w.heap.size w W → ComAns w B0 m (RepO m v cv gv rv P) R b s t (.returned (.tuple #[.int .i64 0, .int .i64 x])) W) := by
    show ∀ _, _
    rintro x rfl hx W hW
    have q : commitE R b s t = commitF R b s t := by unfold commitE; rw [if_pos hx]
    refine ⟨?_, ?_⟩
    · unfold commitI; rw [q, if_pos hx]; rfl
    · unfold commitR; rw [q, if_pos hx]
      exact ⟨v, cv, gv, rv, P, h.below hW, Offs.of_below hW, fun j hj => Or.inl hj⟩
  have hE : Hid (commitF R b s t = 0 → commitE R b s t = addE R (parR R b) s t) := fun q => by
    show _ = _
    unfold commitE; rw [if_neg (by simpa using q)]
  have hfail : Hid (commitF R b s t = 0 → addE R (parR R b) s t ≠ 0 → ∀ W, RepTo w B0 m (RepO m v cv gv rv P) (addR R (parR R b) s t) W → ComAns w B0 m (RepO m v cv gv rv P) R b s t (.returned (.tuple #[.int .i64 0, .int .i64 (addE R (parR R b) s t)])) W) := fun q hx W hW => by
    refine ⟨?_, ?_⟩
    · unfold commitI; rw [hE.out q, if_pos hx]; rfl
    · unfold commitR; rw [hE.out q, if_pos hx]
      rwa [add_bad hx] at hW
  have hdone : Hid (commitF R b s t = 0 → addE R (parR R b) s t = 0 → ∀ W, RepTo w B0 m (RepO m v cv gv rv P) (leadTo (addR R (parR R b) s t) b (addI R (parR R b) s t)) W → ComAns w B0 m (RepO m v cv gv rv P) R b s t (.returned (.tuple #[.int .i64 (addI R (parR R b) s t : Int), .int .i64 0])) W) := fun q hx W hW => by
    have hx' : ¬ commitE R b s t ≠ 0 := by rw [hE.out q]; simpa using hx
    refine ⟨?_, ?_⟩
    · unfold commitI; rw [if_neg hx', hE.out q, hx]
    · unfold commitR; rw [if_neg hx']; exact hW
  have DA : Hid (setF s t = 0 → ∀ pd pc W, RowKit.Below w.heap.size w W → SlI W pd (parR R b) → (parR R b ≠ [] → ∀ d, pd = some d → w.heap.size ≤ d.block ∧ ∃ cur, W.heap[d.block]? = some (.cells cur 3 (0, 0))) → Calls Tryz.prog 32 #[.pointer (some ⟨m, 0, none⟩), .slice pd (parR R b).length pc, .slice sd s.length sc, .string ⟨t.toArray⟩] W fun e w' => e = .returned (.tuple #[.int .i64 (addI R (parR R b) s t : Int), .int .i64 (addE R (parR R b) s t)]) ∧ RepTo w B0 m (RepO m v cv gv rv P) (addR R (parR R b) s t) w') := fun q pd pc W h1 h2 h3 =>
    RAdd_new h hR sd sc s t hs (sortedN_set.1 (setF_zero q).1) hsb pd pc _ (par_ok hR b) W h1 h2 h3
  have DL : Hid (∀ W, RepTo w B0 m (RepO m v cv gv rv P) (addR R (parR R b) s t) W → Calls Tryz.prog 33 #[.pointer (some ⟨m, 0, none⟩), .string ⟨b.toArray⟩, .int .i64 (addI R (parR R b) s t : Int)] W fun e w' => e = .returned (.tuple #[]) ∧ RepTo w B0 m (RepO m v cv gv rv P) (leadTo (addR R (parR R b) s t) b (addI R (parR R b) s t)) w') := fun W hW =>
    RLead_to (by rw [add_refs]; omega) b _ W hW
  have hpar : Hid (parR R b = if 0 ≤ atR R.refs b then [atR R.refs b] else []) := rfl
  have hsz : Hid (m < w.heap.size) := h.lt
  clear hE h hR hs hfit hsb hb
  generalize RepTo w B0 m (RepO m v cv gv rv P) (addR R (parR R b) s t) = TA at *
  generalize RepTo w B0 m (RepO m v cv gv rv P) (leadTo (addR R (parR R b) s t) b (addI R (parR R b) s t)) = TL at *
  generalize addE R (parR R b) s t = ae at *
  generalize addI R (parR R b) s t = ai at *
  generalize ComAns w B0 m (RepO m v cv gv rv P) R b s t = ANS at *
  generalize commitF R b s t = cf at *
  generalize setF s t = sf at *
  generalize parR R b = pr at *
  generalize atR R.refs b = at0 at *
  generalize roomR R b = rm at *
  generalize sortedN s = sn at *
  generalize msgN t = mn at *
  cases hnm : nameR b with
  | false =>
    rw [hnm] at D0 e1
    obtain rfl : cf = 2 := e1.out
    have hfin := hideO (hbad.out _ rfl (by decide) _ (RowKit.Below.refl _ _))
    have D3 := D3.out _ (RowKit.Below.refl _ _)
    clear e1 e2 hbad hfail hdone DA DL D1 D2 D4 hnm
    go_enter Tryz.func5, Tryz.ntmps5
    go_wp2_with fail
    refine D0.mono ?_
    rintro e w1 ⟨rfl, rfl⟩
    go_wp2_with fail
    refine D3.mono ?_
    rintro e w1 ⟨rfl, rfl⟩
    go_wp2_with fail
    exact hfin.out
  | true =>
    rw [hnm] at D0 e1
    simp only [Bool.true_eq_false, if_false] at e1
    clear hnm
    replace D3 := D3.out
    replace D4 := D4.out
    by_cases hsn : sn = 0
    · subst hsn
      obtain rfl : sf = mn := by rw [e2.out]; simp
      by_cases hmn : sf = 0
      · subst hmn
        cases rm with
        | false =>
          obtain rfl : cf = 4 := e1.out
          have hfin := hideO (hbad.out _ rfl (by decide))
          clear e1 e2 hbad hfail hdone DA DL D4
          go_enter Tryz.func5, Tryz.ntmps5
          go_wp2_with fail
          refine D0.mono ?_
          rintro e w1 ⟨rfl, rfl⟩
          go_wp2_with fail
          refine D1.mono ?_
          rintro e w2 ⟨rfl, hb2⟩
          have hb2 := hideO hb2
          go_wp2_with fail
          refine (D2 _).mono ?_
          rintro e w2 ⟨rfl, rfl⟩
          go_wp2_with fail
          refine (D3 _ hb2.out).mono ?_
          rintro e w2 ⟨rfl, rfl⟩
          go_wp2_with fail
          exact hfin.out _ hb2.out
        | true =>
          obtain rfl : cf = 0 := e1.out
          replace hfail := hideO (hfail.out rfl)
          replace hdone := hideO (hdone.out rfl)
          replace DA := hideO (DA.out rfl)
          clear e1 e2 hbad
          by_cases hat : 0 ≤ at0
          · obtain rfl : pr = [at0] := by rw [hpar.out, if_pos hat]
            have hat' : at0 ≥ 0 := hat
            obtain ⟨i0, hi0, hz⟩ := Option.map_eq_some_iff.1 infoI9
            simp only [Prod.mk.injEq] at hz
            obtain ⟨hz0, hz1, hz2⟩ := hz
            clear hpar
            go_enter Tryz.func5, Tryz.ntmps5
            go_wp2_with fail
            refine D0.mono ?_
            rintro e w1 ⟨rfl, rfl⟩
            go_wp2_with fail
            refine D1.mono ?_
            rintro e w2 ⟨rfl, hb2⟩
            have hb2 := hideO hb2
            go_wp2_with fail
            refine (D2 _).mono ?_
            rintro e w2 ⟨rfl, rfl⟩
            go_wp2_with fail
            refine (D3 _ hb2.out).mono ?_
            rintro e w2 ⟨rfl, rfl⟩
            go_wp2_with fail
            refine (D4 _ hb2.out).mono ?_
            rintro e w2 ⟨rfl, rfl⟩
            go_wp2_with (at_builtin; refine wpList_append_lies _ rfl _ _ 36 rfl w2.heap.size 3 i0 (.int .i64 0) 1 8 Tryz.underlying36 hi0 hz0 hz1 hz2 rfl (by decide) _ 0 [] rfl ⟨rfl, Or.inl ⟨rfl, rfl⟩⟩ ⟨w2.heap.size, 0, none⟩ 1 1 [.int .i64 at0] rfl rfl (newI9 w2 at0) (by simp [Value.oneCell']) (by decide) (by unfold maxLen; omega) (by omega) (by simp) _ rfl ?_)
            intro g cap w5 h2 h3 h4 h5
            have hg : g = w2.heap.size + 1 := by
              rcases h4 with h4 | h4
              · exact absurd h4 (by simp [Value.ownBlock])
              · rw [h4]
            have hb5 : RowKit.Below w1.heap.size w1 w5 := bstep hb2.out ((balloc w2 _).grown h3 (by simp) (fun _ e => by simp [Value.ownBlock] at e))
            have hI : SlI w5 (some ⟨g, 0, none⟩) [at0] := fun _ => ⟨g, 0, rfl, fun j hj => by
              obtain ⟨g', e1, _, hc⟩ := row_cells h2 (by omega)
              obtain rfl : g = g' := by injection e1 with e1; injection e1
              simp at hj
              subst hj
              exact hc 0 _ rfl⟩
            obtain ⟨cur, hty⟩ := row_ty h2 (j := g) rfl
            have hz2' := hb2.out.size
            have DA := DA.out (some ⟨g, 0, none⟩) cap w5 hb5 hI (fun _ d hd => by
              injection hd with hd
              subst hd
              exact ⟨by show _ ≤ g; omega, cur, hty⟩)
            simp only [List.length_cons, List.length_nil, Nat.zero_add] at DA
            clear h2 h3 h4 h5 hI hty hg
            go_wp2_with fail
            refine DA.mono ?_
            rintro e w6 ⟨rfl, hA⟩
            by_cases hae : ae = 0
            · subst hae
              replace hdone := hideO (hdone.out rfl)
              have DL := DL.out _ hA
              clear hA
              go_wp2_with fail
              refine DL.mono ?_
              rintro e w7 ⟨rfl, hL⟩
              have hfin := hideO (hdone.out _ hL)
              clear hL
              go_wp2_with fail
              exact hfin.out
            · have hae' : (ae == 0) = false := by simpa using hae
              have hfin := hideO (hfail.out hae _ hA)
              clear hA
              go_wp2_with fail
              exact hfin.out
          · obtain rfl : pr = [] := by rw [hpar.out, if_neg hat]
            have hat' : ¬ at0 ≥ 0 := hat
            have DB := hideO fun W hb => DA.out none 0 W hb (fun hne => absurd rfl hne) (fun hne => absurd rfl hne)
            simp only [List.length_nil] at DB
            clear hpar DA
            go_enter Tryz.func5, Tryz.ntmps5
            go_wp2_with fail
            refine D0.mono ?_
            rintro e w1 ⟨rfl, rfl⟩
            go_wp2_with fail
            refine D1.mono ?_
            rintro e w2 ⟨rfl, hb2⟩
            have hb2 := hideO hb2
            go_wp2_with fail
            refine (D2 _).mono ?_
            rintro e w2 ⟨rfl, rfl⟩
            go_wp2_with fail
            refine (D3 _ hb2.out).mono ?_
            rintro e w2 ⟨rfl, rfl⟩
            go_wp2_with fail
            refine (D4 _ hb2.out).mono ?_
            rintro e w2 ⟨rfl, rfl⟩
            go_wp2_with fail
            refine (DB.out _ hb2.out).mono ?_
            rintro e w6 ⟨rfl, hA⟩
            by_cases hae : ae = 0
            · subst hae
              replace hdone := hideO (hdone.out rfl)
              have DL := DL.out _ hA
              clear hA
              go_wp2_with fail
              refine DL.mono ?_
              rintro e w7 ⟨rfl, hL⟩
              have hfin := hideO (hdone.out _ hL)
              clear hL
              go_wp2_with fail
              exact hfin.out
            · have hae' : (ae == 0) = false := by simpa using hae
              have hfin := hideO (hfail.out hae _ hA)
              clear hA
              go_wp2_with fail
              exact hfin.out
      · obtain rfl : cf = sf := by rw [e1.out, if_pos hmn]
        have hfin := hideO (hbad.out _ rfl hmn)
        have hm' : (cf == 0) = false := by simpa using hmn
        clear e1 e2 hbad hfail hdone DA DL D4 hmn
        go_enter Tryz.func5, Tryz.ntmps5
        go_wp2_with fail
        refine D0.mono ?_
        rintro e w1 ⟨rfl, rfl⟩
        go_wp2_with fail
        refine D1.mono ?_
        rintro e w2 ⟨rfl, hb2⟩
        have hb2 := hideO hb2
        go_wp2_with fail
        refine (D2 _).mono ?_
        rintro e w2 ⟨rfl, rfl⟩
        go_wp2_with fail
        refine (D3 _ hb2.out).mono ?_
        rintro e w2 ⟨rfl, rfl⟩
        go_wp2_with fail
        exact hfin.out _ hb2.out
    · obtain rfl : sf = sn := by rw [e2.out, if_pos hsn]
      obtain rfl : cf = sf := by rw [e1.out, if_pos hsn]
      have hfin := hideO (hbad.out _ rfl hsn)
      have hs' : (cf == 0) = false := by simpa using hsn
      clear e1 e2 hbad hfail hdone DA DL D4 hsn
      go_enter Tryz.func5, Tryz.ntmps5
      go_wp2_with fail
      refine D0.mono ?_
      rintro e w1 ⟨rfl, rfl⟩
      go_wp2_with fail
      refine D1.mono ?_
      rintro e w2 ⟨rfl, hb2⟩
      have hb2 := hideO hb2
      go_wp2_with fail
      refine (D3 _ hb2.out).mono ?_
      rintro e w2 ⟨rfl, rfl⟩
      go_wp2_with fail
      exact hfin.out _ hb2.out
end Go.Proofs.YtaddfndohoppeaaGreatDoor

/- The document's repo (package strataref2): Join. -/
namespace Go.Proofs.YtaddfndohoppeaaGreatDoor
open Go Go.RowKit Go.Proofs
set_option synthInstance.maxSize 1000

/-- what Join leaves -/
def RJoinAns (w : World) (B0 m : Nat) (O : Nat → Prop) (R : Rp) (b : List UInt8) (o : Int) (s : List Tr) (t : List UInt8) (e : Ending) (w' : World) : Prop :=
  e = .returned (.tuple #[.int .i64 (joinI R b o s t : Int), .int .i64 (joinE R b o s t)]) ∧ RepTo w B0 m O (joinR R b o s t) w'

set_option maxHeartbeats 16000000 in
set_option maxRecDepth 100000 in
theorem RJoin_any (w : World) (B0 m : Nat) (v cv gv rv : Value) (R : Rp) (P : Nat → Prop) (b : List UInt8) (o : Int) (sd : Option Addr) (sc : Nat) (s : List Tr) (t : List UInt8) (h : RepW w B0 m v cv gv rv R P) (hR : GoodR R) (hb : b.length ≤ maxLen)
    (hs : SlT w sd s) (hfit : ∀ x ∈ s, fitTr x) (hn : s.length ≤ 9223372036854775807) (hsb : s ≠ [] → ∀ d, sd = some d → d.block < B0) :
    Calls Tryz.prog 8 #[.pointer (some ⟨m, 0, none⟩), .string ⟨b.toArray⟩, .int .i64 o, .slice sd s.length sc, .string ⟨t.toArray⟩] w fun e w' => RJoinAns w B0 m (RepO m v cv gv rv P) R b o s t e w' := by
  have hfew := hR.few
  have D0 := RHead_any w B0 m v cv gv rv R P b h (by omega) hb
  have D1 := RSet_any sd sc s w hs hfit (by omega)
  have D2 := fun W => RMsg_any t W
  obtain ⟨c2, _⟩ := h.cells
  have hlt := h.lt
  obtain ⟨ca, cc, rfl⟩ := h.comForm
  have e1 : Hid (joinF R b o s t = if headE R b ≠ 0 then headE R b else if inR R o = false then 1 else if o = atR R.refs b then 7 else setF s t) := rfl
  have e2 : Hid (setF s t = if sortedN s ≠ 0 then sortedN s else msgN t) := rfl
  have e3 : Hid (headI R b = if headE R b = 0 then atR R.refs b else 0) := rfl
  have e4 : Hid (inR R o = decide (0 ≤ o ∧ o < R.coms.length)) := rfl
  have hbad : Hid (∀ x, joinF R b o s t = x → x ≠ 0 → ∀ W, RowKit.Below w.heap.size w W → RJoinAns w B0 m (RepO m v (.slice ca R.coms.length cc) gv rv P) R b o s t (.returned (.tuple #[.int .i64 0, .int .i64 x])) W) := by
    show ∀ _, _
    rintro x rfl hx W hW
    have q : joinE R b o s t = joinF R b o s t := by unfold joinE; rw [if_pos hx]
    refine ⟨?_, ?_⟩
    · unfold joinI; rw [q, if_pos hx]; rfl
    · unfold joinR; rw [q, if_pos hx]
      exact ⟨v, _, gv, rv, P, h.below hW, Offs.of_below hW, fun j hj => Or.inl hj⟩
  have hE : Hid (joinF R b o s t = 0 → joinE R b o s t = addE R [atR R.refs b, o] s t) := fun q => by
    show _ = _
    unfold joinE; rw [if_neg (by simpa using q)]
  have hfail : Hid (joinF R b o s t = 0 → addE R [atR R.refs b, o] s t ≠ 0 → ∀ W, RepTo w B0 m (RepO m v (.slice ca R.coms.length cc) gv rv P) (addR R [atR R.refs b, o] s t) W → RJoinAns w B0 m (RepO m v (.slice ca R.coms.length cc) gv rv P) R b o s t (.returned (.tuple #[.int .i64 0, .int .i64 (addE R [atR R.refs b, o] s t)])) W) := fun q hx W hW => by
    refine ⟨?_, ?_⟩
    · unfold joinI; rw [hE.out q, if_pos hx]; rfl
    · unfold joinR; rw [hE.out q, if_pos hx]
      rwa [add_bad hx] at hW
  have hdone : Hid (joinF R b o s t = 0 → addE R [atR R.refs b, o] s t = 0 → ∀ W, RepTo w B0 m (RepO m v (.slice ca R.coms.length cc) gv rv P) (leadTo (addR R [atR R.refs b, o] s t) b (addI R [atR R.refs b, o] s t)) W → RJoinAns w B0 m (RepO m v (.slice ca R.coms.length cc) gv rv P) R b o s t (.returned (.tuple #[.int .i64 (addI R [atR R.refs b, o] s t : Int), .int .i64 0])) W) := fun q hx W hW => by
    have hx' : ¬ joinE R b o s t ≠ 0 := by rw [hE.out q]; simpa using hx
    refine ⟨?_, ?_⟩
    · unfold joinI; rw [if_neg hx', hE.out q, hx]
    · unfold joinR; rw [if_neg hx']; exact hW
  have DA : Hid (joinF R b o s t = 0 → ∀ pd pc W, RowKit.Below w.heap.size w W → SlI W pd [atR R.refs b, o] → ([atR R.refs b, o] ≠ [] → ∀ d, pd = some d → w.heap.size ≤ d.block ∧ ∃ cur, W.heap[d.block]? = some (.cells cur 3 (0, 0))) → Calls Tryz.prog 32 #[.pointer (some ⟨m, 0, none⟩), .slice pd [atR R.refs b, o].length pc, .slice sd s.length sc, .string ⟨t.toArray⟩] W fun e w' => e = .returned (.tuple #[.int .i64 (addI R [atR R.refs b, o] s t : Int), .int .i64 (addE R [atR R.refs b, o] s t)]) ∧ RepTo w B0 m (RepO m v (.slice ca R.coms.length cc) gv rv P) (addR R [atR R.refs b, o] s t) w') := fun q pd pc W h1 h2 h3 => by
    obtain ⟨q1, q2, q3, q4⟩ := joinF_zero q
    exact RAdd_new h hR sd sc s t hs (sortedN_set.1 (setF_zero q4).1) hsb pd pc _ (two_ok hR (headE_zero q1).2 q2 q3) W h1 h2 h3
  have DL : Hid (∀ W, RepTo w B0 m (RepO m v (.slice ca R.coms.length cc) gv rv P) (addR R [atR R.refs b, o] s t) W → Calls Tryz.prog 33 #[.pointer (some ⟨m, 0, none⟩), .string ⟨b.toArray⟩, .int .i64 (addI R [atR R.refs b, o] s t : Int)] W fun e w' => e = .returned (.tuple #[]) ∧ RepTo w B0 m (RepO m v (.slice ca R.coms.length cc) gv rv P) (leadTo (addR R [atR R.refs b, o] s t) b (addI R [atR R.refs b, o] s t)) w') := fun W hW =>
    RLead_to (by rw [add_refs]; omega) b _ W hW
  have hlen := hR.coms.1
  clear hE h hR hs hfit hsb hb
  generalize RepTo w B0 m (RepO m v (.slice ca R.coms.length cc) gv rv P) (addR R [atR R.refs b, o] s t) = TA at *
  generalize RepTo w B0 m (RepO m v (.slice ca R.coms.length cc) gv rv P) (leadTo (addR R [atR R.refs b, o] s t) b (addI R [atR R.refs b, o] s t)) = TL at *
  generalize addE R [atR R.refs b, o] s t = ae at *
  generalize addI R [atR R.refs b, o] s t = ai at *
  generalize RJoinAns w B0 m (RepO m v (.slice ca R.coms.length cc) gv rv P) R b o s t = ANS at *
  generalize joinF R b o s t = cf at *
  generalize setF s t = sf at *
  generalize inR R o = io at *
  generalize headI R b = hi at *
  generalize headE R b = he at *
  generalize atR R.refs b = at0 at *
  generalize sortedN s = sn at *
  generalize msgN t = mn at *
  by_cases hhe : he = 0
  · subst hhe
    obtain rfl : hi = at0 := by rw [e3.out, if_pos rfl]
    replace e1 : Hid (cf = if io = false then 1 else if o = hi then 7 else sf) := e1.out
    by_cases hio : 0 ≤ o ∧ o < R.coms.length
    · obtain rfl : io = true := by rw [e4.out]; exact decide_eq_true hio
      replace e1 : Hid (cf = if o = hi then 7 else sf) := e1.out
      have o1 : ¬ o < 0 := by omega
      have o2 : ¬ o ≥ R.coms.length := by omega
      clear e4 e3
      by_cases hoh : o = hi
      · obtain rfl : cf = 7 := by rw [e1.out, if_pos hoh]
        have ho' : (o == hi) = true := by simpa using hoh
        have hfin := hideO (hbad.out _ rfl (by decide) _ (RowKit.Below.refl _ _))
        clear e1 e2 hbad hfail hdone DA DL D1 D2 hoh
        go_enter Tryz.func8, Tryz.ntmps8
        go_wp2_with fail
        refine D0.mono ?_
        rintro e w1 ⟨rfl, rfl⟩
        go_wp2_with fail
        exact hfin.out
      · obtain rfl : cf = sf := by rw [e1.out, if_neg hoh]
        have ho' : (o == hi) = false := by simpa using hoh
        clear e1 hoh hio
        by_cases hsn : sn = 0
        · subst hsn
          obtain rfl : cf = mn := by rw [e2.out]; simp
          by_cases hmn : cf = 0
          · subst hmn
            replace hfail := hideO (hfail.out rfl)
            replace hdone := hideO (hdone.out rfl)
            replace DA := hideO (DA.out rfl)
            clear e2 hbad
            go_enter Tryz.func8, Tryz.ntmps8
            go_wp2_with fail
            refine D0.mono ?_
            rintro e w1 ⟨rfl, rfl⟩
            go_wp2_with fail
            refine D1.mono ?_
            rintro e w2 ⟨rfl, hb2⟩
            have hb2 := hideO hb2
            go_wp2_with fail
            refine (D2 _).mono ?_
            rintro e w2 ⟨rfl, rfl⟩
            go_wp2_with fail
            have hb5 := bstep hb2.out (balloc w2 (.cells #[.int .i64 hi, .int .i64 o] 3))
            have hI : SlI (w2.alloc (.cells #[.int .i64 hi, .int .i64 o] 3)) (some ⟨w2.heap.size, 0, none⟩) [hi, o] := fun _ => ⟨w2.heap.size, 0, rfl, fun j hj => by
              have hj : j < 2 := hj
              rcases (by omega : j = 0 ∨ j = 1) with rfl | rfl
              · show World.cell? _ ⟨w2.heap.size, 0, none⟩ = some (.int .i64 hi)
                go_simp
              · show World.cell? _ ⟨w2.heap.size, 1, none⟩ = some (.int .i64 o)
                go_simp⟩
            have hz2' := hb2.out.size
            have DA := DA.out (some ⟨w2.heap.size, 0, none⟩) 2 _ hb5 hI (fun _ d hd => by
              injection hd with hd
              subst hd
              exact ⟨hz2', #[.int .i64 hi, .int .i64 o], Array.getElem?_push_size⟩)
            simp only [List.length_cons, List.length_nil, Nat.zero_add, Nat.reduceAdd] at DA
            clear hI hb5 hz2'
            refine DA.mono ?_
            rintro e w6 ⟨rfl, hA⟩
            by_cases hae : ae = 0
            · subst hae
              replace hdone := hideO (hdone.out rfl)
              have DL := DL.out _ hA
              clear hA
              go_wp2_with fail
              refine DL.mono ?_
              rintro e w7 ⟨rfl, hL⟩
              have hfin := hideO (hdone.out _ hL)
              clear hL
              go_wp2_with fail
              exact hfin.out
            · have hae' : (ae == 0) = false := by simpa using hae
              have hfin := hideO (hfail.out hae _ hA)
              clear hA
              go_wp2_with fail
              exact hfin.out
          · have hm' : (cf == 0) = false := by simpa using hmn
            have hfin := hideO (hbad.out _ rfl hmn)
            clear e2 hbad hfail hdone DA DL hmn
            go_enter Tryz.func8, Tryz.ntmps8
            go_wp2_with fail
            refine D0.mono ?_
            rintro e w1 ⟨rfl, rfl⟩
            go_wp2_with fail
            refine D1.mono ?_
            rintro e w2 ⟨rfl, hb2⟩
            have hb2 := hideO hb2
            go_wp2_with fail
            refine (D2 _).mono ?_
            rintro e w2 ⟨rfl, rfl⟩
            go_wp2_with fail
            exact hfin.out _ hb2.out
        · obtain rfl : cf = sn := by rw [e2.out, if_pos hsn]
          have hs' : (cf == 0) = false := by simpa using hsn
          have hfin := hideO (hbad.out _ rfl hsn)
          clear e2 hbad hfail hdone DA DL hsn
          go_enter Tryz.func8, Tryz.ntmps8
          go_wp2_with fail
          refine D0.mono ?_
          rintro e w1 ⟨rfl, rfl⟩
          go_wp2_with fail
          refine D1.mono ?_
          rintro e w2 ⟨rfl, hb2⟩
          have hb2 := hideO hb2
          go_wp2_with fail
          exact hfin.out _ hb2.out
    · obtain rfl : io = false := by rw [e4.out]; exact decide_eq_false hio
      obtain rfl : cf = 1 := e1.out
      have hfin := hideO (hbad.out _ rfl (by decide) _ (RowKit.Below.refl _ _))
      clear e1 e2 e3 e4 hbad hfail hdone DA DL D1 D2
      by_cases o1 : o < 0
      · clear hio
        go_enter Tryz.func8, Tryz.ntmps8
        go_wp2_with fail
        refine D0.mono ?_
        rintro e w1 ⟨rfl, rfl⟩
        go_wp2_with fail
        exact hfin.out
      · have o2 : o ≥ R.coms.length := by omega
        clear hio
        go_enter Tryz.func8, Tryz.ntmps8
        go_wp2_with fail
        refine D0.mono ?_
        rintro e w1 ⟨rfl, rfl⟩
        go_wp2_with fail
        exact hfin.out
  · obtain rfl : cf = he := by rw [e1.out, if_pos hhe]
    have hh' : (cf == 0) = false := by simpa using hhe
    have hfin := hideO (hbad.out _ rfl hhe _ (RowKit.Below.refl _ _))
    clear e1 e2 e3 e4 hbad hfail hdone DA DL D1 D2 hhe
    go_enter Tryz.func8, Tryz.ntmps8
    go_wp2_with fail
    refine D0.mono ?_
    rintro e w1 ⟨rfl, rfl⟩
    go_wp2_with fail
    exact hfin.out
end Go.Proofs.YtaddfndohoppeaaGreatDoor
