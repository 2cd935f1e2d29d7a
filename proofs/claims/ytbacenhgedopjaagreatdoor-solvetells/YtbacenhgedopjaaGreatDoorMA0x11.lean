import Derived.Test.YtbacenhgedopjaaGreatDoorMA0x10
import Derived.Test.YtbacenhgedopjaaGreatDoorMA0x0
import Derived.Deep.DeepCutAuto
import Derived.Test.YtbacenhgedopjaaGreatDoorMA0x8
import Derived.Deep.LoopGhost
import Derived.Deep.Draws
import Derived.Deep.Upon
import Derived.Deep.RegionLaw
import Derived.Laws.IdiomCopy
import Derived.RegionTactic

/- solve.ordering, and slices.SortFunc of rows by what it makes. -/
namespace Go.Proofs.YtbacenhgedopjaaGreatDoor
open Go Go.RowKit Go.Proofs Go.Maps Go.Sort
set_option synthInstance.maxSize 1000

/-- a function value that tells which of two rows is ahead -/
def OrdFn (w : World) (i : Option Nat) (down : Bool) (v : Value) : Prop := match i with
  | none => v = .func (.func 49) #[] #[]
  | some i => ∃ bA bS bQ, v = .func (.func 53) #[] #[.pointer (some ⟨bA, 0, none⟩), .pointer (some ⟨bS, 0, none⟩), .pointer (some ⟨bQ, 0, none⟩)] ∧ w.cell? ⟨bA, 0, none⟩ = some (.int .i64 (i : Int)) ∧ w.cell? ⟨bS, 0, none⟩ = some (.func (.func 49) #[] #[]) ∧ w.cell? ⟨bQ, 3, none⟩ = some (.bool down)
set_option maxHeartbeats 4000000 in
set_option maxRecDepth 100000 in
theorem ordering_any (q : Qu) (vd pd : Option Addr) (vc pc : Nat) (w : World) (hq : QuIn w q vd pd) (hf : FitQ q) :
    Calls Tryz.prog 29 #[valQ q vd vc pd pc] w fun e w' => ∃ v, e = .returned v ∧ OrdFn w' (whereV q.vars q.order) q.down v ∧ RowKit.Below w.heap.size w w' ∧ ∀ bA bS bQ, v = .func (.func 53) #[] #[.pointer (some ⟨bA, 0, none⟩), .pointer (some ⟨bS, 0, none⟩), .pointer (some ⟨bQ, 0, none⟩)] → w.heap.size ≤ bA ∧ w.heap.size ≤ bS ∧ w.heap.size ≤ bQ := by
  have HI := fun W (hb : RowKit.Below w.heap.size w W) => IndexW_any vd vc q.vars q.order W (hq.vars.below hb) hf.vl
  have hlt : ∀ i, whereV q.vars q.order = some i → i < q.vars.length := fun i h => by
    unfold whereV at h
    split at h
    · rename_i hm
      injection h with h
      rw [← h]
      exact List.idxOf_lt_length_of_mem hm
    · cases h
  have hvl := hf.vl
  have HHI := hideE HI
  clear hq hf HI
  unfold valQ
  generalize whereV q.vars q.order = wh at *
  cases wh with
  | none =>
    go_enter Tryz.func29, Tryz.ntmps29
    go_wp2_with fail
    refine (HHI.out _ (bstep (balloc _ _) (balloc _ _))).mono ?_
    rintro e w1 ⟨rfl, rfl⟩
    have t : decide ((-1 : Int) < 0) = true := by decide
    dsimp only [idxW]
    go_wp2_with fail
    go_ret
    exact ⟨_, rfl, rfl, bstep (bstep (balloc _ _) (balloc _ _)) (balloc _ _), fun bA bS bQ h => (by simp at h)⟩
  | some i =>
    have hi := hlt i rfl
    have t : decide ((i : Int) < 0) = false := by simp
    go_enter Tryz.func29, Tryz.ntmps29
    go_wp2_with fail
    refine (HHI.out _ (bstep (balloc _ _) (balloc _ _))).mono ?_
    rintro e w1 ⟨rfl, rfl⟩
    dsimp only [idxW]
    go_wp2_with fail
    go_ret
    refine ⟨_, rfl, ⟨_, _, _, rfl, ?_, ?_, ?_⟩, bstep (bstep (balloc _ _) (balloc _ _)) (balloc _ _), fun bA bS bQ h => ?_⟩
    · go_simp
    · go_simp
    · go_simp
    · simp at h
      omega

/-! ### rows in a block, one behind the other -/
structure RowsC (W : World) (g : Nat) (L : List (List Tm)) : Prop where
  at_ : ∀ j (h : j < L.length), ∃ rd rc, W.cell? ⟨g, j, none⟩ = some (.slice rd L[j].length rc) ∧ SlQ W rd L[j] ∧ (∀ a, rd = some a → a.block ≠ g)
  free : ∀ j, j < L.length → W.frozen? ⟨g, j, none⟩ = false
theorem RowsC.below {W W' : World} {g : Nat} {L : List (List Tm)} (h : RowsC W g L) (hb : RowKit.Below W.heap.size W W') : RowsC W' g L := by
  refine ⟨fun j hj => ?_, fun j hj => ?_⟩
  · obtain ⟨rd, rc, c, s, n⟩ := h.at_ j hj
    exact ⟨rd, rc, (hb.cell (World.block_lt_of_cell? W _ c)).trans c, s.below hb, n⟩
  · obtain ⟨rd, rc, c, _⟩ := h.at_ j hj
    exact (hb.frozen (World.block_lt_of_cell? W _ c)).trans (h.free j hj)
theorem RowsC.sl {W : World} {g : Nat} {L : List (List Tm)} (h : RowsC W g L) : SlR W (some ⟨g, 0, none⟩) L := fun _ => ⟨g, 0, rfl, fun j hj => by
  obtain ⟨rd, rc, c, s, _⟩ := h.at_ j hj
  exact ⟨rd, rc, by rw [Nat.zero_add]; exact c, s⟩⟩
/-- the slices that lie there -/
theorem RowsC.list {W : World} {g : Nat} {L : List (List Tm)} (h : RowsC W g L) : ∃ hs : Fin L.length → Option Addr × Nat, ∀ j : Fin L.length, W.cell? ⟨g, j.val, none⟩ = some (.slice (hs j).1 L[j.val].length (hs j).2) ∧ SlQ W (hs j).1 L[j.val] ∧ (∀ a, (hs j).1 = some a → a.block ≠ g) := by
  have hx : ∀ j : Fin L.length, ∃ p : Option Addr × Nat, W.cell? ⟨g, j.val, none⟩ = some (.slice p.1 L[j.val].length p.2) ∧ SlQ W p.1 L[j.val] ∧ (∀ a, p.1 = some a → a.block ≠ g) := fun j => by
    obtain ⟨rd, rc, c, s, n⟩ := h.at_ j.val j.isLt
    exact ⟨(rd, rc), c, s, n⟩
  exact ⟨fun j => Classical.choose (hx j), fun j => Classical.choose_spec (hx j)⟩
theorem SlQ.off {W W' : World} {rd : Option Addr} {l : List Tm} {g : Nat} (h : SlQ W rd l) (hn : ∀ a, rd = some a → a.block ≠ g) (hk : ∀ k, k < W.heap.size → k ≠ g → W'.heap[k]? = W.heap[k]?) : SlQ W' rd l := fun hl => by
  obtain ⟨b, o, e, r⟩ := h hl
  refine ⟨b, o, e, fun j v hv => ?_⟩
  have hc := r j v hv
  have hb := World.block_lt_of_cell? W _ hc
  exact (World.cell?_of_block (w := W) (hk b hb (hn _ e))).trans hc
theorem sortWorld_off {α : Type} [Inhabited α] (enc : α → Value) (w : World) (g n : Nat) (d : Array α) (os : Array Obj) : ∀ k, k < w.heap.size → k ≠ g → (sortWorld enc w g 0 n d os).heap[k]? = w.heap[k]? := fun k hk hne => by
  show (_ ++ os)[k]? = _
  rw [Array.getElem?_append_left (by simp [putRow, mapBlock, Sort.ahead]; omega)]
  simp only [putRow, mapBlock, Sort.ahead, Array.getElem?_modify]
  rw [if_neg (fun e => hne e.symm)]
theorem below_sortQ {α : Type} [Inhabited α] {enc : α → Value} {w : World} {b n B : Nat} {d : Array α} {os : Array Obj} (hB : B ≤ b) (hBw : B ≤ w.heap.size) : RowKit.Below B w (sortWorld enc w b 0 n d os) := by
  refine ⟨rfl, rfl, rfl, ?_, fun k hk => sortWorld_off enc w b n d os k (by omega) (by omega)⟩
  show w.heap.size ≤ (_ ++ os).size
  simp [putRow, mapBlock, Sort.ahead]
/-! ### nothing to sort -/
theorem insertNoneQ (a : Option Addr) (c : Nat) (f : Value) (w : World) : Calls Tryz.prog 73 #[.slice a 0 c, .int .i64 0, .int .i64 0, f] w fun e w' => e = .returned (.tuple #[]) ∧ w' = w := by
  go_enter Tryz.func73, Tryz.ntmps73
  go_wp2
  go_loop [8] (fun i => i = .int .i64 1) (fun _ => 0)
  case atStart => rfl
  case round =>
    subst hrel
    go_wp2
    go_end0
    exact ⟨rfl, rfl⟩
theorem pdqNoneQ (a : Option Addr) (c : Nat) (f : Value) (n : Int) (w : World) : Calls Tryz.prog 47 #[.slice a 0 c, .int .i64 0, .int .i64 0, .int .i64 n, f] w fun e w' => e = .returned (.tuple #[]) ∧ w' = w := by
  go_enter Tryz.func47, Tryz.ntmps47
  go_wp2
  go_loop [1, 2] (fun a b => a = .int .i64 0 ∧ b = .int .i64 0) (fun _ _ => 0)
  case atStart => exact ⟨rfl, rfl⟩
  case round =>
    obtain ⟨rfl, rfl⟩ := hrel
    go_wp2_with (go_at_call 73; refine (insertNoneQ _ _ _ _).mono ?_; rintro e w' ⟨rfl, rfl⟩)
    exact bodyPost_ret (v := .tuple #[]) (by simp [results, Tryz.results47, go_sem]) rfl ⟨rfl, rfl⟩
theorem SortNoneQ (a : Option Addr) (c : Nat) (f : Value) (w : World) : Calls Tryz.prog 28 #[.slice a 0 c, f] w fun e w' => e = .returned (.tuple #[]) ∧ w' = w := by
  go_enter Tryz.func28, Tryz.ntmps28
  go_wp2_with (first
    | (go_at_call 48; refine (Tryz.bits_Len 0 _ (by omega) (by omega)).mono ?_; rintro e w' ⟨rfl, rfl⟩)
    | (go_at_call 47; refine (pdqNoneQ _ _ _ _ _).mono ?_; rintro e w' ⟨rfl, rfl⟩))
  go_end0
  exact ⟨rfl, rfl⟩
/-! ### the sort -/
theorem sortRows_any (g c k : Nat) (i : Option Nat) (down : Bool) (v : Value) (L : List (List Tm)) (w : World) (hv : OrdFn w i down v) (hR : RowsC w g L) (hL : LenR k L) (hk : k ≤ 1000000) (hi : ∀ j, i = some j → j < k) (hn : L.length ≤ 1000000)
    (hfar : ∀ j, i = some j → ∀ bA bS bQ, v = .func (.func 53) #[] #[.pointer (some ⟨bA, 0, none⟩), .pointer (some ⟨bS, 0, none⟩), .pointer (some ⟨bQ, 0, none⟩)] → bA ≠ g ∧ bS ≠ g ∧ bQ ≠ g) :
    Calls Tryz.prog 28 #[.slice (some ⟨g, 0, none⟩) L.length c, v] w fun e w' => e = .returned (.tuple #[]) ∧ RowKit.Below g w w' ∧ RowsC w' g (sortR (aheadB i down) false L) := by
  by_cases h0 : L.length = 0
  · obtain rfl : L = [] := List.eq_nil_of_length_eq_zero h0
    refine (SortNoneQ _ _ _ _).mono ?_
    rintro e w' ⟨rfl, rfl⟩
    exact ⟨rfl, RowKit.Below.refl _ _, ⟨fun j hj => by simp [sortR] at hj, fun j hj => by simp [sortR] at hj⟩⟩
  · have hpos : 0 < L.length := by omega
    have inst : Inhabited (Fin L.length) := ⟨⟨0, hpos⟩⟩
    obtain ⟨hs, hh⟩ := hR.list
    let enc : Fin L.length → Value := fun j => .slice (hs j).1 L[j.val].length (hs j).2
    have hone : OneCell enc := fun _ => rfl
    have hg : g < w.heap.size := World.block_lt_of_cell? w _ (hh ⟨0, hpos⟩).1
    have hH : Holds enc w g 0 (allQ L.length) := fun j hj => by
      have hj' : j < L.length := by rw [allQ_size] at hj; exact hj
      rw [Nat.zero_add, getElem!_pos (allQ L.length) j hj]
      refine ⟨?_, hR.free j hj'⟩
      rw [(hh ⟨j, hj'⟩).1]
      simp [enc, allQ]
    have hord : OrdR (aheadB i down) k := ⟨fun a => ahead_irr _ _ a, fun h1 h2 => ahead_trans h1 h2, fun h1 h2 h3 h4 => ahead_total (h1.trans h2.symm) h3 h4⟩
    have hsw := swoQ i down hord L hL
    have hsz : (allQ L.length).size = L.length := allQ_size _
    have hlen : ∀ x : Fin L.length, L[x.val].length = k := fun x => hL _ (List.getElem_mem x.isLt)
    have key : ∀ gf cb, (∀ args w, (callFunc gf args).run Tryz.prog w = .ok (.enter gf args) w) → CmpLays1 Tryz.prog gf cb enc (fun (x y : Fin L.length) => cmpQ i down L[x] L[y]) g 0 (allQ L.length).size w →
        Calls Tryz.prog 28 #[.slice (some ⟨g, 0, none⟩) L.length c, .func (.func gf) #[] cb] w fun e w' => e = .returned (.tuple #[]) ∧ RowKit.Below g w w' ∧ RowsC w' g (sortR (aheadB i down) false L) := fun gf cb eg hcmp => by
      have hS := Any.slices_SortFunc Tryz.sortQ enc hone (fun (x y : Fin L.length) => cmpQ i down L[x] L[y]) hsw gf cb g 0 c (allQ L.length) w eg hcmp hH hg (by rw [hsz]; omega)
      rw [hsz] at hS
      refine Calls.mono hS ?_
      rintro e w' ⟨rfl, d', n, os, hp, hso, rfl⟩
      obtain ⟨hd1, hd2⟩ := sorted_rows i down hord L hL (by rw [hsz]; exact hp) (by rw [hsz]; exact hso)
      have hHd := holds_sortWorld enc w g 0 n (allQ L.length) d' os hg hH (by rw [hd1, hsz])
      refine ⟨rfl, below_sortQ (Nat.le_refl _) (by omega), ?_⟩
      rw [← hd2]
      refine ⟨fun j hj => ?_, fun j hj => ?_⟩
      · have hj' : j < d'.size := by simpa using hj
        have := (hHd j hj').1
        rw [Nat.zero_add, getElem!_pos d' j hj'] at this
        have q := hh d'[j]
        refine ⟨(hs d'[j]).1, (hs d'[j]).2, by simpa [enc] using this, ?_, q.2.2⟩
        have := q.2.1.off q.2.2 (sortWorld_off enc w g n d' os)
        simpa using this
      · have hj' : j < d'.size := by simpa using hj
        have := (hHd j hj').2
        rwa [Nat.zero_add] at this
    have off : ∀ m os dk (x : Fin L.length), SlQ (sortWorld enc w g 0 m dk os) (hs x).1 L[x.val] := fun m os dk x => (hh x).2.1.off (hh x).2.2 (sortWorld_off enc w g m dk os)
    cases i with
    | none =>
      obtain rfl : v = .func (.func 49) #[] #[] := hv
      refine key _ _ enters49 (fun m os dk hdk x y => ?_)
      refine (ordOne_any (hs x).1 (hs y).1 (hs x).2 (hs y).2 L[x.val] L[y.val] _ (off m os dk x) (off m os dk y) (by rw [hlen]; omega)).mono ?_
      rintro e w' ⟨rfl, hgr⟩
      exact ⟨rfl, hgr⟩
    | some j =>
      obtain ⟨bA, bS, bQ, rfl, cA, cS, cQ⟩ := hv
      obtain ⟨nA, nS, nQ⟩ := hfar j rfl bA bS bQ rfl
      have hj := hi j rfl
      refine key _ _ enters53 (fun m os dk hdk x y => ?_)
      have kp : ∀ (b o : Nat) (u : Value), b ≠ g → w.cell? ⟨b, o, none⟩ = some u → (sortWorld enc w g 0 m dk os).cell? ⟨b, o, none⟩ = some u := fun b o u hb hu => (World.cell?_of_block (w := w) (sortWorld_off enc w g m dk os b (World.block_lt_of_cell? w _ hu) hb)).trans hu
      refine (ordTwo_any (hs x).1 (hs y).1 (hs x).2 (hs y).2 bA bS bQ j down L[x.val] L[y.val] _ (off m os dk x) (off m os dk y) (by rw [hlen]; omega) (by rw [hlen]; exact hj) (by rw [hlen]; exact hj) (kp _ _ _ nA cA) (kp _ _ _ nS cS) (kp _ _ _ nQ cQ)).mono ?_
      rintro e w' ⟨rfl, hgr⟩
      exact ⟨rfl, hgr⟩
end Go.Proofs.YtbacenhgedopjaaGreatDoor

/- slices.Equal at terms, slices.CompactFunc at rows of terms. -/
namespace Go.Proofs.YtbacenhgedopjaaGreatDoor
open Go Go.RowKit Go.Proofs Go.Maps Go.Sort Go.Lib
set_option synthInstance.maxSize 1000
attribute [local go_sem ↓] neqTerm eqlTerm

theorem enters31 : ∀ args w, (callFunc 31 args).run Tryz.prog w = .ok (.enter 31 args) w := enters_of Tryz.func31 (by kernel_rfl) rfl
set_option maxHeartbeats 4000000 in
set_option maxRecDepth 100000 in
theorem EqualQ_any (ad bd : Option Addr) (ca cb : Nat) (a b : List Tm) (w : World) (ha : SlQ w ad a) (hb : SlQ w bd b) (la : a.length ≤ 1000000) :
    Calls Tryz.prog 31 #[.slice ad a.length ca, .slice bd b.length cb] w fun e w' => e = .returned (.bool (decide (a = b))) ∧ ∃ n, w' = w.drewN n := by
  have HA := hideE ha
  have HB := hideE hb
  clear ha hb
  by_cases hl : a.length = b.length
  · obtain ⟨R, hR⟩ : ∃ R, R = decide (a = b) := ⟨_, rfl⟩
    have HR : Hid (R = decide (a.drop 0 = b.drop 0)) := hR
    rw [← hR]
    clear hR
    have Hl := hideE hl
    have t0 : ((a.length : Int) != (b.length : Int)) = false := by simp; omega
    clear hl
    go_enter Tryz.func31, Tryz.ntmps31
    go_wp2_with fail
    go_loopw [13] (fun i wr => ∃ k n : Nat, k ≤ a.length ∧ i = .int .i64 k ∧ Hid (R = decide (a.drop k = b.drop k)) ∧ wr = w.drewN n) (fun i wr => a.length - (intOf i).toNat)
    case atStart => exact ⟨0, 0, Nat.zero_le _, rfl, HR.out, rfl⟩
    case round =>
      obtain ⟨k, n, hk, rfl, hC, rfl⟩ := hrel
      by_cases h1 : k < a.length
      · have h2 : k < b.length := by have := Hl.out; omega
        have t1 : decide ((k : Int) < (a.length : Int)) = true := by simp; omega
        have i0 : (0 : Int) ≤ (k : Int) := by omega
        have i1 : (k : Int) < (a.length : Int) := by omega
        have i2 : (k : Int) < (b.length : Int) := by omega
        obtain ⟨g, o, rfl, c0, c1, c2⟩ := HA.out.at k h1
        obtain ⟨g', o', rfl, d0, d1, d2⟩ := HB.out.at k h2
        have hC2 := hC.out
        rw [List.drop_eq_getElem_cons h1, List.drop_eq_getElem_cons h2] at hC2
        have HC2 := hideE hC2
        clear hC hC2
        have hq := eqTB_tm a[k] b[k]
        generalize a[k] = x at *
        generalize b[k] = y at *
        by_cases hxy : x = y
        · rw [decide_eq_true hxy] at hq
          have hR2 := hideE (show R = decide (a.drop (k + 1) = b.drop (k + 1)) by rw [HC2.out, hxy]; simp)
          clear hxy
          go_wp2_with fail
          go_region
          go_wp2_with fail
          go_roundw
          case rel => exact ⟨k + 1, n + 1, by omega, by go_num, hR2.out, rfl⟩
          case measure => simp [intOf]; omega
        · rw [decide_eq_false hxy] at hq
          have hR2 := hideE (show R = false by rw [HC2.out]; simp [hxy])
          clear hxy
          go_wp2_with fail
          go_region
          go_wp2_with fail
          go_ret
          exact ⟨by rw [hR2.out]; rfl, n + 1, rfl⟩
      · obtain rfl : k = a.length := by omega
        have t1 : decide ((a.length : Int) < (a.length : Int)) = false := by simp
        have hR2 := hideE (show R = true by rw [hC.out, List.drop_eq_nil_of_le (Nat.le_refl _), List.drop_eq_nil_of_le (by have := Hl.out; omega)]; rfl)
        go_wp2_with fail
        go_ret
        exact ⟨by rw [hR2.out]; rfl, n, rfl⟩
  · have t0 : ((a.length : Int) != (b.length : Int)) = true := by simp; omega
    have e : decide (a = b) = false := by simp; intro e; exact hl (by rw [e])
    rw [e]
    clear e hl
    go_enter Tryz.func31, Tryz.ntmps31
    go_wp2_with fail
    go_ret
    exact ⟨rfl, 0, rfl⟩
theorem SlQ.store {W : World} {rd : Option Addr} {l : List Tm} {g o : Nat} (h : SlQ W rd l) (hn : ∀ a, rd = some a → a.block ≠ g) (u : Value) : SlQ (W.setCell ⟨g, o, none⟩ u) rd l :=
  h.off hn (fun _ _ hne => RowKit.Below.heap_setCell _ _ _ _ hne)
theorem RowsC.set {W : World} {g k : Nat} {L : List (List Tm)} (h : RowsC W g L) {u : List Tm} {rd : Option Addr} {rc : Nat} (hs : SlQ W rd u) (hn : ∀ a, rd = some a → a.block ≠ g) : RowsC (W.setCell ⟨g, k, none⟩ (.slice rd u.length rc)) g (L.set k u) := by
  refine ⟨fun j hj => ?_, fun j hj => by rw [World.frozen?_setCell]; exact h.free j (by simpa using hj)⟩
  have hj' : j < L.length := by simpa using hj
  obtain ⟨r0, c0, e0, s0, n0⟩ := h.at_ j hj'
  by_cases e : j = k
  · subst e
    rw [List.getElem_set_self]
    exact ⟨rd, rc, World.cell?_setCell_same W _ _ e0, hs.store hn _, hn⟩
  · rw [List.getElem_set_ne (fun h => e h.symm)]
    exact ⟨r0, c0, (World.cell?_setCell_other W _ _ _ (fun h => e (by simpa using congrArg Addr.off h.symm))).trans e0, s0.store n0 _, n0⟩
theorem RowsC.drewN {W : World} {g : Nat} {L : List (List Tm)} (h : RowsC W g L) (n : Nat) : RowsC (W.drewN n) g L := h.below (below_drewN' (RowKit.Below.refl _ _) n)
theorem run_clearQ (w : World) (ty : TypeId) (b o n c : Nat) (hn : 0 < n) (hc : ∀ j, j < n → (w.cell? ⟨b, o + j, none⟩).isSome = true) (hf : ∀ j, j < n → w.frozen? ⟨b, o + j, none⟩ = false) :
    (Builtin.clear_ #[36] ty #[.slice (some ⟨b, o, none⟩) n c]).run Tryz.prog w = .ok (.tuple #[]) (w.setCells b o (List.replicate n (.slice none 0 0))) := by
  have hst := run_storeCells_cells (P := Tryz.prog) b o (List.replicate n (.slice none 0 0)) 0 w (by simpa using hc) (by simpa using hf) (fun v hv => by rw [List.mem_replicate] at hv; rw [hv.2]; rfl)
  simp only [Nat.add_zero] at hst
  have hz : ∀ w, (zeroValue 33).run Tryz.prog w = .ok (.slice none 0 0) w := fun w => by kernel_rfl
  have hzc : (Builtin.zeroCells (Value.slice none 0 0).cells n).toList = List.replicate n (.slice none 0 0) := by
    apply List.ext_getElem
    · simp [Builtin.zeroCells, Value.cells]
    · intro i h1 h2
      simp [Builtin.zeroCells, Value.cells, Nat.mod_one]
  obtain ⟨m, rfl⟩ : ∃ m, n = m + 1 := ⟨n - 1, by omega⟩
  simp [Builtin.clear_, run_underlying Tryz.underlying36, hz, hzc, hst]
theorem RowsC.clear {W : World} {g k m : Nat} {L : List (List Tm)} (h : RowsC W g L) (hk : k ≤ L.length) : RowsC (W.setCells g k (List.replicate m (.slice none 0 0))) g (L.take k) := by
  refine ⟨fun j hj => ?_, fun j hj => by rw [World.frozen?_setCells]; exact h.free j (by simp at hj; omega)⟩
  have hj' : j < L.length := by simp at hj; omega
  have hjk : j < k := by simp at hj; omega
  obtain ⟨r0, c0, e0, s0, n0⟩ := h.at_ j hj'
  rw [List.getElem_take]
  exact ⟨r0, c0, (World.cell?_setCells_out g _ k W ⟨g, j, none⟩ (fun _ _ => Or.inl hjk)).trans e0, s0.off n0 (fun i hi hne => World.heap_setCells_other W g k _ hi hne), n0⟩
set_option maxHeartbeats 8000000 in
set_option maxRecDepth 100000 in
theorem CompactQ_any (g cap k0 : Nat) (L : List (List Tm)) (w : World) (hR : RowsC w g L) (hL : LenR k0 L) (hk0 : k0 ≤ 1000000) (hn : L.length ≤ 1000000) (hcap : L.length ≤ cap) :
    Calls Tryz.prog 30 #[.slice (some ⟨g, 0, none⟩) L.length cap, .func (.func 31) #[] #[]] w fun e w' => e = .returned (.slice (some ⟨g, 0, none⟩) (compact L).length cap) ∧ RowsC w' g (compact L) ∧ RowKit.Below g w w' := by
  have HR := hideE hR
  have HL := hideE hL
  have eg := enters31
  have HE := hideE (fun (ad bd : Option Addr) (ca cb : Nat) (a b : List Tm) (W : World) (ha : SlQ W ad a) (hb : SlQ W bd b) (la : a.length = k0) => EqualQ_any ad bd ca cb a b W ha hb (by omega))
  obtain ⟨d, hd⟩ : ∃ d : Array (List Tm), d = L.toArray := ⟨_, rfl⟩
  have hsz : d.size = L.length := by rw [hd]; simp
  have hat : Hid (∀ j (h : j < L.length), d[j]! = L[j]) := fun j h => by rw [hd, getElem!_pos L.toArray j (by simpa using h)]; simp
  have hcomp : Hid (compact L = compactUpTo d d.size) := by show _ = _; rw [hsz, hd]; rfl
  have hall1 : Hid ((∀ j, j < d.size → keeps d j = true) → compact L = L) := fun h => compact_all L (by rw [← hd, ← hsz]; exact h)
  have hlist : Hid (d.toList = L) := by show _ = _; rw [hd]
  have HSZ := hideE hsz
  clear hR hL hd hsz
  obtain ⟨n, hnn⟩ : ∃ n, n = L.length := ⟨_, rfl⟩
  rw [← hnn]
  rw [← hnn] at hn hcap
  have HNN := hideE hnn
  clear hnn
  by_cases h2 : n < 2
  · have t2 : decide ((n : Int) < 2) = true := by simp; omega
    have hc := hideE (hall1.out (fun j hj => keeps_lt_one d j (by have := HSZ.out; have := HNN.out; omega)))
    go_enter Tryz.func30, Tryz.ntmps30
    go_wp2_with fail
    go_ret
    exact ⟨by rw [hc.out, ← HNN.out]; rfl, by rw [hc.out]; exact HR.out, RowKit.Below.refl _ _⟩
  · have t2 : decide ((n : Int) < 2) = false := by simp; omega
    go_enter Tryz.func30, Tryz.ntmps30
    go_wp2_with fail
    go_loopg [5] n (fun gh s5 wr => ∃ k q : Nat, 1 ≤ k ∧ k ≤ n ∧ n - k ≤ gh ∧ s5 = .int .i64 k ∧ wr = w.drewN q ∧ Hid (∀ j, j < k → keeps d j = true))
    case atStart => exact ⟨1, 0, Nat.le_refl _, by omega, by omega, rfl, rfl, keeps_lt_one d⟩
    case round =>
      obtain ⟨k, q, hk1, hk, hg, rfl, rfl, hall⟩ := hrel
      by_cases hlt : k < n
      · obtain ⟨m, hm⟩ : ∃ m, k = m + 1 := ⟨k - 1, by omega⟩
        have t3 : decide ((k : Int) < (n : Int)) = true := by simp; omega
        have hwr : IntKind.i64.wrap ((k : Int) - 1) = (m : Int) := by subst hm; simp [IntKind.wrap, IntKind.bits, IntKind.signed]; omega
        have i0 : (0 : Int) ≤ (m : Int) := by omega
        have i1 : (m : Int) < (n : Int) := by omega
        have i2 : (0 : Int) ≤ (k : Int) := by omega
        have i3 : (k : Int) < (n : Int) := by omega
        have n0 : m < n := by omega
        have hkL : k < L.length := by rw [← HNN.out]; exact hlt
        have hmL : m < L.length := by omega
        obtain ⟨rx, cx, c0, sx, nx⟩ := HR.out.at_ k hkL
        obtain ⟨ry, cy, d0, sy, ny⟩ := HR.out.at_ m hmL
        have hxl := HL.out _ (List.getElem_mem hkL)
        have B : Hid (d[k]! = L[k] ∧ d[k - 1]! = L[m]) := ⟨hat.out k hkL, by rw [show k - 1 = m by omega]; exact hat.out m hmL⟩
        generalize L[k] = x at *
        generalize L[m] = y at *
        have HEE := hideE (fun W (hW : ∃ j, W = w.drewN j) => show Calls Tryz.prog 31 #[.slice rx x.length cx, .slice ry y.length cy] W (fun e w' => e = .returned (.bool (decide (x = y))) ∧ ∃ n, w' = W.drewN n) by
          obtain ⟨j, rfl⟩ := hW
          exact HE.out rx ry cx cy x y (w.drewN j) (sx.below (below_drewN' (RowKit.Below.refl _ _) j)) (sy.below (below_drewN' (RowKit.Below.refl _ _) j)) hxl)
        clear sx sy nx ny hxl hm
        go_upto_region 6 with fail
        go_cut [28] from 18 to 27 (fun v W => v = .bool (decide (x = y)) ∧ ∃ q', W = w.drewN q')
        case first =>
          go_region_law (go_simp; go_at_fn 31; refine (HEE.out _ ⟨q + 1, rfl⟩).mono ?_; rintro e w2 ⟨rfl, n2, rfl⟩)
          all_goals
            go_wp2_with fail
            go_meet
            case rel => exact ⟨rfl, q + 1 + n2, by first | rfl | simp [World.drewN, Nat.add_assoc]⟩
        case rest =>
          obtain ⟨rfl, q', rfl⟩ := hcut
          clear c0 d0 HEE
          by_cases hxy : x = y
          · have hd1 : decide (x = y) = true := by simpa using hxy
            have KN := hideE (keeps_neg (d := d) (m := k) (by omega) (by rw [B.out.1, B.out.2]; exact hxy))
            clear hxy B
            rw [hd1]
            clear hd1
            have hst := hideE (CompInv.start hall.out KN.out)
            have hR0 := hideE (show RowsC (w.drewN q') g d.toList by rw [hlist.out]; exact HR.out.drewN q')
            have hcc : k < cap := by omega
            go_wp2_with fail
            go_loopg [5, 7] n (fun gh s5 s7 wr => ∃ (kk k2 : Nat) (dk : Array (List Tm)), s5 = .int .i64 kk ∧ s7 = .int .i64 k2 ∧ 1 ≤ k2 ∧ k + k2 ≤ n ∧ n - (k + k2) ≤ gh ∧ Hid (RowsC wr g dk.toList) ∧ Hid (CompInv d (k + k2) kk dk) ∧ RowKit.Below g w wr)
            case atStart => exact ⟨k, 1, d, rfl, rfl, Nat.le_refl _, by omega, by omega, hR0.out, hst.out, below_drewN' (RowKit.Below.refl _ _) q'⟩
            case round =>
              clear hR0 hst
              obtain ⟨kk, k2, dk, rfl, rfl, h1, hle, hg2, hRk, hI, hbr⟩ := hrel
              have hkk := hI.out.lt
              have hdn : dk.toList.length = n := by rw [Array.length_toList, hI.out.size, HSZ.out, ← HNN.out]
              have hdat : Hid (∀ j, kk ≤ j → ∀ (h : j < dk.toList.length), dk.toList[j] = d[j]!) := fun j hj h => by
                rw [← hI.out.high j hj, getElem!_pos dk j (by simpa using h)]
                simp
              by_cases hlt2 : k + k2 < n
              · obtain ⟨m2, hm2⟩ : ∃ m2, k2 = m2 + 1 := ⟨k2 - 1, by omega⟩
                have hwr3 : IntKind.i64.wrap ((k2 : Int) - 1) = (m2 : Int) := by subst hm2; simp [IntKind.wrap, IntKind.bits, IntKind.signed]; omega
                have t4 : decide ((k2 : Int) < ((n - k : Nat) : Int)) = true := by simp; omega
                have j0 : (0 : Int) ≤ (m2 : Int) := by omega
                have j1 : (m2 : Int) < ((n - k : Nat) : Int) := by omega
                have j2 : (0 : Int) ≤ (k2 : Int) := by omega
                have j3 : (k2 : Int) < ((n - k : Nat) : Int) := by omega
                have j4 : (0 : Int) ≤ (kk : Int) := by omega
                have j5 : (kk : Int) < (n : Int) := by omega
                have n1 : m2 < n - k := by omega
                have n2 : k2 < n - k := by omega
                have n3 : kk < n := by omega
                have p1 : k + k2 < dk.toList.length := by omega
                have p2 : k + m2 < dk.toList.length := by omega
                have p3 : kk < dk.toList.length := by omega
                obtain ⟨ru, cu, e0, su, nu⟩ := hRk.out.at_ (k + k2) p1
                obtain ⟨rv, cv, f0, sv, nv⟩ := hRk.out.at_ (k + m2) p2
                obtain ⟨ro, co, g0, _, _⟩ := hRk.out.at_ kk p3
                have gfz := hRk.out.free kk p3
                have eu := hideE (hdat.out (k + k2) (by omega) p1)
                have ev := hideE (hdat.out (k + m2) (by omega) p2)
                have ul : dk.toList[k + k2].length = k0 := by
                  rw [eu.out, hat.out (k + k2) (by rw [← HNN.out]; exact hlt2)]
                  exact HL.out _ (List.getElem_mem _)
                have hkm : Hid (k + k2 - 1 = k + m2) := by show _ = _; omega
                generalize dk.toList[k + k2] = u at *
                generalize dk.toList[k + m2] = v at *
                have HEE := hideE (fun W (hW : ∃ j, W = wr.drewN j) => show Calls Tryz.prog 31 #[.slice ru u.length cu, .slice rv v.length cv] W (fun e w' => e = .returned (.bool (decide (u = v))) ∧ ∃ n, w' = W.drewN n) by
                  obtain ⟨j, rfl⟩ := hW
                  exact HE.out ru rv cu cv u v (wr.drewN j) (su.below (below_drewN' (RowKit.Below.refl _ _) j)) (sv.below (below_drewN' (RowKit.Below.refl _ _) j)) ul)
                have Su := hideE su
                have Nu := hideE nu
                clear su sv nu nv ul hm2
                go_upto_region 11 with fail
                go_cut [49] from 38 to 48 (fun b W => b = .bool (!decide (u = v)) ∧ ∃ j, W = wr.drewN j)
                case first =>
                  go_region_law (go_simp; go_at_fn 31; refine (HEE.out _ ⟨1, rfl⟩).mono ?_; rintro e w2 ⟨rfl, n2, rfl⟩)
                  all_goals
                    go_wp2_with fail
                    go_meet
                    case rel => exact ⟨rfl, 1 + n2, by first | rfl | simp [World.drewN, Nat.add_assoc]⟩
                case rest =>
                  obtain ⟨rfl, j, rfl⟩ := hcut
                  by_cases huv : u = v
                  · have hd1 : decide (u = v) = true := by simpa using huv
                    have hs := hideE (hI.out.skip (keeps_neg (by omega) (by rw [hkm.out, ← eu.out, ← ev.out]; exact huv)))
                    clear huv
                    rw [hd1]
                    clear hd1 HEE e0 f0 g0 gfz
                    go_wp2_with fail
                    go_roundg (n - (k + (k2 + 1)))
                    case measure => omega
                    case rel => exact ⟨kk, k2 + 1, dk, rfl, by go_num, by omega, by omega, Nat.le_refl _, hRk.out.drewN j, hs.out, below_drewN' hbr j⟩
                  · have hd1 : decide (u = v) = false := by simpa using huv
                    have hs := hideE (hI.out.keep (by rw [HSZ.out, ← HNN.out]; exact hlt2) (keeps_pos (by rw [hkm.out, ← eu.out, ← ev.out]; exact huv)))
                    have hset := hideE ((hRk.out.drewN j).set (k := kk) (rc := cu) (Su.out.below (below_drewN' (RowKit.Below.refl _ _) j)) Nu.out)
                    clear huv
                    rw [hd1]
                    clear hd1 HEE f0
                    go_wp2_with fail
                    go_roundg (n - (k + (k2 + 1)))
                    case measure => omega
                    case rel => exact ⟨kk + 1, k2 + 1, dk.setIfInBounds kk d[k + k2]!, by go_num, by go_num, by omega, by omega, Nat.le_refl _, by show RowsC _ _ _; rw [← eu.out, Array.toList_setIfInBounds]; exact hset.out, hs.out, (below_drewN' hbr j).setCell (p := ⟨g, kk, none⟩) (Nat.le_refl _) _⟩
              · have hend : k + k2 = n := by omega
                have t4 : decide ((k2 : Int) < ((n - k : Nat) : Int)) = false := by simp; omega
                have hcl : ∀ ty, (Builtin.clear_ #[36] ty #[.slice (some ⟨g, kk, none⟩) (n - kk) (cap - kk)]).run Tryz.prog wr = .ok (.tuple #[]) (wr.setCells g kk (List.replicate (n - kk) (.slice none 0 0))) := fun ty => run_clearQ wr ty g kk (n - kk) (cap - kk) (by omega) (fun j hj => by
                  obtain ⟨r, c, e, _⟩ := hRk.out.at_ (kk + j) (by omega)
                  rw [e]; rfl) (fun j hj => hRk.out.free (kk + j) (by omega))
                have i5 : (0 : Int) ≤ (kk : Int) := by omega
                have i6 : (kk : Int) ≤ (n : Int) := by omega
                have i7 : kk < cap := by omega
                have i8 : kk ≤ n := by omega
                have hdsz : d.size = n := by rw [HSZ.out, ← HNN.out]
                have hlenk : (compactUpTo d d.size).length = kk := by have := hI.out.len; rw [hend, ← hdsz] at this; exact this
                have htake : dk.toList.take kk = compact L := by
                  rw [hcomp.out]
                  apply List.ext_getElem?
                  intro j
                  by_cases hj : j < kk
                  · have h3 := hI.out.low j hj
                    rw [hend, ← hdsz] at h3
                    rw [h3, List.getElem?_take, if_pos hj, List.getElem?_eq_getElem (by omega), getElem!_pos dk j (by have := hI.out.size; omega)]
                    simp
                  · rw [List.getElem?_eq_none (by simp; omega), List.getElem?_eq_none (by omega)]
                have hfin := hideE (hRk.out.clear (m := n - kk) (k := kk) (by omega))
                have hlc : Hid ((compact L).length = kk) := by show _ = _; rw [hcomp.out]; exact hlenk
                have Htake := hideE htake
                have hBf := hideE (below_setCells hbr (Nat.le_refl g) (List.replicate (n - kk) (.slice none 0 0)) kk)
                clear htake hlenk hdsz hend hdn
                go_wp2_with fail
                go_ret
                exact ⟨by rw [hlc.out]; rfl, by rw [← Htake.out]; exact hfin.out, hBf.out⟩
          · have hd1 : decide (x = y) = false := by simpa using hxy
            have KP := hideE (keeps_pos (d := d) (m := k) (by rw [B.out.1, B.out.2]; exact hxy))
            clear hxy B
            rw [hd1]
            clear hd1
            go_wp2_with fail
            go_roundg (n - (k + 1))
            case measure => omega
            case rel => exact ⟨k + 1, q', by omega, by omega, Nat.le_refl _, by go_num, rfl, fun j hj => by
              by_cases e : j = k
              · rw [e]; exact KP.out
              · exact hall.out j (by omega)⟩
      · obtain rfl : k = n := by omega
        have t3 : decide ((k : Int) < (k : Int)) = false := by simp
        have hc := hideE (hall1.out (fun j hj => hall.out j (by have := HSZ.out; have := HNN.out; omega)))
        go_wp2_with fail
        go_ret
        exact ⟨by rw [hc.out, ← HNN.out]; rfl, by rw [hc.out]; exact HR.out.drewN q, below_drewN' (RowKit.Below.refl _ _) q⟩
end Go.Proofs.YtbacenhgedopjaaGreatDoor

/- The program's Solve and Naive. -/
namespace Go.Proofs.YtbacenhgedopjaaGreatDoor
open Go Go.RowKit Go.Proofs Go.Maps Go.Sort Go.Lib
set_option synthInstance.maxSize 1000
attribute [local go_sem] eql_errV neq_errV guard_errV

def SolveAns (S : List Tr) (q : Qu) (w : World) (e : Ending) (w' : World) : Prop := RowKit.Below w.heap.size w w' ∧ ∃ ad c, e = .returned (.tuple #[.slice ad (solveL S q).length c, errV (solveN S q)]) ∧ SlR w' ad (solveL S q) ∧ (solveL S q).length ≤ c ∧ (solveN S q = 0 → ∃ b, ad = some ⟨b, 0, none⟩)
theorem infoRow : (Tryz.prog.info? 33).map (fun i => (i.zero, i.size, i.bytes)) = some (some (.slice none 0 0), 1, 24) := by kernel_rfl
theorem makeRows (n : Nat) (w : World) (h : n ≤ 100000) : (Instr.makeSlice 36 (.int .i64 (n : Int)) (.int .i64 (n : Int))).run Tryz.prog w = .ok (.slice (some ⟨w.heap.size, 0, none⟩) n n) (w.alloc (.cells (madeCells #[.slice none 0 0] n) 33)) := by
  obtain ⟨i, hi, hz⟩ := Option.map_eq_some_iff.1 infoRow
  simp only [Prod.mk.injEq] at hz
  obtain ⟨h1, h2, h3⟩ := hz
  have := run_make (P := Tryz.prog) w 36 33 i _ Tryz.underlying36 hi h1 .i64 .i64 (n : Int) (n : Int) (by omega) (Int.le_refl _) (by rw [h3]; omega) (by omega)
  rw [h2] at this
  simpa [Value.cells] using this
theorem rowsC_made (W : World) (n : Nat) (T : TypeId) : RowsC (W.alloc (.cells (madeCells #[.slice none 0 0] n) T)) W.heap.size (List.replicate n []) := by
  have hh := heap_alloc_last W (.cells (madeCells #[.slice none 0 0] n) T)
  refine ⟨fun j hj => ?_, fun j hj => frozen_of_row _ _ j _ T hh⟩
  have hj' : j < n := by simpa using hj
  refine ⟨none, 0, ?_, ?_, fun a h => by cases h⟩
  · rw [cell_of_row _ _ j _ T (0, 0) hh, ← Array.getElem?_toList, toList_madeCells_one]
    simp [hj']
  · simp only [List.getElem_replicate]
    exact slQ_nil _ _
/-- as far as the rows are laid -/
def rowsK (P : List (List Tm)) (k : Nat) : List (List Tm) := P.take k ++ List.replicate (P.length - k) []
theorem rowsK_len (P : List (List Tm)) (k : Nat) (h : k ≤ P.length) : (rowsK P k).length = P.length := by simp [rowsK]; omega
theorem rowsK_next {P : List (List Tm)} {k : Nat} (h : k < P.length) : (rowsK P k).set k P[k] = rowsK P (k + 1) := by
  unfold rowsK
  obtain ⟨m, hm⟩ : ∃ m, P.length - k = m + 1 := ⟨P.length - k - 1, by omega⟩
  have hm2 : P.length - (k + 1) = m := by omega
  have hk : (P.take k).length = k := by simp; omega
  rw [hm, hm2, List.replicate_succ, List.set_append_right _ _ (by omega), hk, Nat.sub_self, List.set_cons_zero, List.take_succ_eq_append_getElem h, List.append_assoc]
  rfl
theorem rowsK_all (P : List (List Tm)) : rowsK P P.length = P := by simp [rowsK]
theorem rowsK_zero (P : List (List Tm)) : rowsK P 0 = List.replicate P.length [] := by simp [rowsK]
theorem proj_terms (vars told : List (List UInt8)) (r : List Tm) : termsE (boundT vars r) told = projR vars told r := rfl
theorem SlR.take {w : World} {ad : Option Addr} {L : List (List Tm)} (h : SlR w ad L) (k : Nat) : SlR w ad (L.take k) := fun hl => by
  have hne : L ≠ [] := fun e => by rw [e] at hl; simp at hl
  obtain ⟨b, o, e, r⟩ := h hne
  refine ⟨b, o, e, fun j hj => ?_⟩
  have hj' : j < L.length := by simp at hj; omega
  obtain ⟨rd, rc, c, s⟩ := r j hj'
  rw [List.getElem_take]
  exact ⟨rd, rc, c, s⟩
set_option maxHeartbeats 4000000 in
set_option maxRecDepth 100000 in
theorem Naive_any (ad : Option Addr) (ca : Nat) (S : List Tr) (q : Qu) (vd pd : Option Addr) (vc pc : Nat) (w : World) (h : SlT w ad S) (hfit : ∀ x ∈ S, fitTr x) (hn : S.length ≤ 9223372036854775807) (hq : QuIn w q vd pd) (hf : FitQ q) (hvc : q.vars.length ≤ vc) :
    Calls Tryz.prog 11 #[.slice ad S.length ca, valQ q vd vc pd pc] w fun e w' => e = .returned (.tuple #[.int .i64 (naiveI S q : Int), errV (solveN S q)]) ∧ RowKit.Below w.heap.size w w' := by
  have HA := fun W (hb : RowKit.Below w.heap.size w W) => answersTo_any ad ca S q vd pd vc pc W (h.below hb) hfit hn (hq.below hb) hf hvc
  clear h hq hf hfit hn
  obtain ⟨W0, hW0⟩ : ∃ W0, W0 = w.alloc (.cells #[.slice vd q.vars.length vc, .slice pd q.parts.length pc, .string ⟨q.order.toArray⟩, .bool q.down, .bool q.dist, .int .i64 q.lim] 26) := ⟨_, rfl⟩
  have hB0 : RowKit.Below w.heap.size w W0 := by rw [hW0]; exact balloc _ _
  obtain ⟨c0, c1, c2, c3, c4, c5⟩ := show BoxQ W0 w.heap.size q vd pd vc pc by rw [hW0]; exact boxQ_new _ _ _ _ _ _
  have HN : Hid (naiveI S q = if solveN S q = 0 then (match answersL S q.parts with | none => 0 | some (_, rows) => rows.length) else 0) := rfl
  unfold valQ at HA ⊢
  go_enter Tryz.func11, Tryz.ntmps11
  go_upto_region 1 with fail
  rw [← hW0]
  clear hW0
  go_wp2_with fail
  refine (HA W0 hB0).mono ?_
  rintro e w1 ⟨hb1, hbad, hgood⟩
  by_cases hz : solveN S q = 0
  · obtain ⟨vars, rows, ax, cx, az, cz, hans, rfl, hsl, _⟩ := hgood hz
    have hn2 := hideE (show naiveI S q = rows.length by rw [HN.out, if_pos hz, hans])
    have Hz := hideE hz
    clear hgood hbad hans hsl hz
    dsimp only
    generalize rows.length = nr at *
    go_wp2_with fail
    refine bodyPost_ret (v := .tuple #[.int .i64 (nr : Int), .nilIface]) (by simp [results, Tryz.results11, go_sem]) rfl ⟨?_, bstep hB0 hb1⟩
    rw [hn2.out, Hz.out]
    rfl
  · obtain rfl := hbad hz
    have hn2 := hideE (show naiveI S q = 0 by rw [HN.out, if_neg hz])
    clear hgood hbad
    dsimp only
    go_wp2_with fail
    refine bodyPost_ret (v := .tuple #[.int .i64 0, errV (solveN S q)]) (by simp [results, Tryz.results11, go_sem]) rfl ⟨?_, bstep hB0 hb1⟩
    rw [hn2.out]
    rfl
theorem solve_rows {S : List Tr} {q : Qu} {vars : List (List UInt8)} {rows : List (List Tm)} (hz : solveN S q = 0) (ha : answersL S q.parts = some (vars, rows)) : solveL S q = limR q.lim (sortR (ltQ q) q.dist (rows.map (projR vars q.vars))) := by
  unfold solveL solveA
  rw [if_pos hz, ha]
theorem limR_all {lim : Int} {L : List (List Tm)} (h : ¬ (0 ≤ lim ∧ lim < (L.length : Int))) : limR lim L = L := by
  unfold limR
  split
  · exact List.take_of_length_le (by omega)
  · rfl
set_option maxHeartbeats 8000000 in
set_option maxRecDepth 100000 in
theorem Solve_any (ad : Option Addr) (ca : Nat) (S : List Tr) (q : Qu) (vd pd : Option Addr) (vc pc : Nat) (w : World) (h : SlT w ad S) (hfit : ∀ x ∈ S, fitTr x) (hn : S.length ≤ 9223372036854775807) (hq : QuIn w q vd pd) (hf : FitQ q) (hvc : q.vars.length ≤ vc) :
    Calls Tryz.prog 8 #[.slice ad S.length ca, valQ q vd vc pd pc] w (SolveAns S q w) := by
  have HA := fun W (hb : RowKit.Below w.heap.size w W) => answersTo_any ad ca S q vd pd vc pc W (h.below hb) hfit hn (hq.below hb) hf hvc
  have HO := fun W (hb : RowKit.Below w.heap.size w W) => ordering_any q vd pd vc pc W (hq.below hb) hf
  have Hq := hideE hq
  have Hvt := hideE hf.vt
  obtain ⟨Q, hQ⟩ : ∃ Q, Q = SolveAns S q w := ⟨_, rfl⟩
  have HQ : Hid (∀ e w', SolveAns S q w e w' → Q e w') := fun e w' h => by rw [hQ]; exact h
  rw [← hQ]
  clear h hq hf hfit hn hQ
  obtain ⟨W0, hW0⟩ : ∃ W0, W0 = w.alloc (.cells #[.slice vd q.vars.length vc, .slice pd q.parts.length pc, .string ⟨q.order.toArray⟩, .bool q.down, .bool q.dist, .int .i64 q.lim] 26) := ⟨_, rfl⟩
  have hB0 : RowKit.Below w.heap.size w W0 := by rw [hW0]; exact balloc _ _
  have hX0 := hideE (show BoxQ W0 w.heap.size q vd pd vc pc by rw [hW0]; exact boxQ_new _ _ _ _ _ _)
  obtain ⟨c0, c1, c2, c3, c4, c5⟩ := hX0.out
  unfold valQ at HA HO ⊢
  obtain ⟨dq, hdq⟩ : ∃ b, b = q.dist := ⟨_, rfl⟩
  rw [← hdq] at HA HO hW0 c4 ⊢
  have Hdq := hideE hdq
  clear hdq
  have HHO := hideE HO
  clear HO
  go_enter Tryz.func8, Tryz.ntmps8
  go_upto_region 1 with fail
  rw [← hW0]
  clear hW0
  go_wp2_with fail
  refine (HA W0 hB0).mono ?_
  rintro e w1 ⟨hb1, hbad, hgood⟩
  clear c0 c1 c2 c3 c4 c5 HA
  by_cases hz : solveN S q = 0
  · obtain ⟨vars, rows, ax, cx, az, cz, hans, rfl, hsl, _⟩ := hgood hz
    obtain ⟨hset, hgq, _⟩ := solve_good hz
    have hokr := (answersL_ok hans).2
    have hsol := hideE (solve_rows hz hans)
    have Hz := hideE hz
    have hB1 := bstep hB0 hb1
    have hX1 := hideE (hX0.out.below hb1)
    have HE := hideE hsl
    have hv8 : q.vars.length ≤ 100000 := by
      have := few_le q.vars (partsV [] q.parts) hgq.once (fun v hv => hgq.within v hv)
      have := hgq.eight
      omega
    have hlim := hgq.lim
    have hwi : ∀ j, whereV q.vars q.order = some j → j < q.vars.length := fun j hj => by
      unfold whereV at hj
      split at hj
      · rename_i hm
        injection hj with hj
        rw [← hj]
        exact List.idxOf_lt_length_of_mem hm
      · cases hj
    have Hwi := hideE hwi
    have hP : rows.length = (rows.map (projR vars q.vars)).length := by simp
    have hLen := hideE (proj_len vars q.vars rows)
    have HK : Hid (∀ k (hk : k < (rows.map (projR vars q.vars)).length), ∃ b o bm f, ax = some ⟨b, o, none⟩ ∧ w1.cell? ⟨b, o + k, none⟩ = some (.map (some bm)) ∧ EvAt w1 bm 18 f ∧ termsE f q.vars = (rows.map (projR vars q.vars))[k]) := fun k hk => by
      obtain ⟨b, o, bm, e1, e2, e3⟩ := HE.out.at k (by simpa using hk)
      exact ⟨b, o, bm, _, e1, e2, e3, by simp [proj_terms]⟩
    have HTm : Hid (∀ f W bm, EvAt W bm 18 f → SlW W vd q.vars → Calls Tryz.prog 27 #[.map (some bm), .slice vd q.vars.length vc] W fun e w' => e = .returned (.slice (some ⟨W.heap.size, 0, none⟩) q.vars.length q.vars.length) ∧ RowQ w' W.heap.size (termsE f q.vars) ∧ RowKit.Below W.heap.size W w') := fun f W bm h1 h2 => terms_any bm 18 f vd vc q.vars W h1 h2 Hvt.out hv8
    rw [hP] at hokr ⊢
    clear hgood hbad hans hsl hz hset hgq hwi HE hP
    generalize rows.map (projR vars q.vars) = P at *
    have hmk := fun W => makeRows P.length W (by omega)
    have hR0 := hideE (rowsC_made w1 P.length 33)
    rw [← rowsK_zero] at hR0
    dsimp only
    obtain ⟨np, hnp⟩ : ∃ n, n = P.length := ⟨_, rfl⟩
    rw [← hnp] at hmk hokr ⊢
    have Hnp := hideE hnp
    have c0 := hX1.out.c0
    have hz1 := World.block_lt_of_cell? w1 _ c0
    dsimp only at hz1
    obtain ⟨W1, hW1⟩ : ∃ W1, W1 = w1.alloc (.cells (madeCells #[.slice none 0 0] np) 33) := ⟨_, rfl⟩
    rw [← hnp, ← hW1] at hR0
    have hB2 : RowKit.Below w1.heap.size w1 W1 := by rw [hW1]; exact balloc _ _
    have hz2 : w1.heap.size < W1.heap.size := by rw [hW1]; simp
    clear hnp
    go_upto_region 5 with fail
    rw [← hW1]
    clear hW1 hmk
    go_wp2_with fail
    go_loopw [27] (fun i wr => ∃ k : Nat, k ≤ np ∧ i = .int .i64 k ∧ Hid (RowsC wr w1.heap.size (rowsK P k)) ∧ RowKit.Below w1.heap.size w1 wr ∧ w1.heap.size < wr.heap.size) (fun i wr => np - (intOf i).toNat)
    case atStart => exact ⟨0, Nat.zero_le _, rfl, hR0.out, hB2, hz2⟩
    case round =>
      clear hR0 hB2 hz2
      obtain ⟨k, hk, rfl, hRk, hbr, hz2⟩ := hrel
      by_cases hlt : k < np
      · have t1 : decide ((k : Int) < (np : Int)) = true := by simp; omega
        have i0 : (0 : Int) ≤ (k : Int) := by omega
        have i1 : (k : Int) < (np : Int) := by omega
        have hkP : k < P.length := by rw [← Hnp.out]; exact hlt
        obtain ⟨b, o, bm, f, rfl, cm, em, et⟩ := HK.out k hkP
        have cmr := (hbr.cell (World.block_lt_of_cell? w1 _ cm)).trans cm
        have c0r := (hbr.cell (p := ⟨w.heap.size, 0, none⟩) hz1).trans c0
        have HT := HTm.out f wr bm (em.far hbr em.lt) (Hq.out.vars.below (bstep hB1 hbr))
        have hnext := hideE (rowsK_next hkP)
        have Het := hideE et
        obtain ⟨ro, co, g0, _, _⟩ := hRk.out.at_ k (by rw [rowsK_len P k (by omega)]; exact hkP)
        have gz := World.block_lt_of_cell? wr _ g0
        clear cm em et
        go_wp2_with fail
        refine HT.mono ?_
        rintro e w2 ⟨rfl, hr2, hb2⟩
        rw [Het.out] at hr2
        have hRk2 := hideE (hRk.out.below hb2)
        have g2 := (hb2.cell (p := ⟨w1.heap.size, k, none⟩) hz2).trans g0
        have f2 := hRk2.out.free k (by rw [rowsK_len P k (by omega)]; exact hkP)
        have hlenk : q.vars.length = P[k].length := (hLen.out _ (List.getElem_mem hkP)).symm
        have hset := hideE (hRk2.out.set (k := k) (u := P[k]) (rd := some ⟨wr.heap.size, 0, none⟩) (rc := q.vars.length) hr2.sl (fun a ha => by simp at ha; rw [← ha]; show wr.heap.size ≠ w1.heap.size; omega))
        rw [hnext.out, ← hlenk] at hset
        have hBf := hideE (bstep hbr hb2)
        have hzf := hb2.size
        clear hr2 hRk2 g0 hlenk
        dsimp only
        go_wp2_with fail
        go_roundw
        case rel => exact ⟨k + 1, by omega, by go_num, hset, hBf.out.setCell (p := ⟨w1.heap.size, k, none⟩) (Nat.le_refl _) _, by simp [World.setCell]; omega⟩
        case measure => simp [intOf]; omega
      · obtain rfl : k = np := by omega
        have t1 : decide ((k : Int) < (k : Int)) = false := by simp
        have hRP := hideE (show RowsC wr w1.heap.size P by have := hRk.out; rw [Hnp.out, rowsK_all] at this; exact this)
        clear hRk
        obtain ⟨x0, x1, x2, x3, x4, x5⟩ := hX1.out.below hbr
        rw [← Hdq.out] at x4
        have hBw := bstep hB1 hbr
        have hX4 := hideE x4
        have hX5 := hideE x5
        go_wp2_with fail
        refine (HHO.out wr hBw).mono ?_
        rintro e w3 ⟨v, rfl, hv, hb3, hnew⟩
        have HSo := sortRows_any w1.heap.size k q.vars.length (whereV q.vars q.order) q.down v P w3 hv (hRP.out.below hb3) hLen.out (by omega) Hwi.out (by rw [← Hnp.out]; omega) (fun j _ bA bS bQ he => by
          obtain ⟨n1, n2, n3⟩ := hnew bA bS bQ he
          exact ⟨by omega, by omega, by omega⟩)
        rw [← Hnp.out] at HSo
        have hB3 := hideE (bstep hBw hb3)
        have hzz : w1.heap.size ≤ w3.heap.size := by have := hb3.size; omega
        have hg3 : w.heap.size < w1.heap.size := hz1
        have hbw3 : Hid (RowKit.Below w1.heap.size w1 w3) := bstep hbr hb3
        clear x0 x1 x2 x3 x4 x5 hv hnew hRP HHO hb3
        dsimp only
        go_wp2_with fail
        refine HSo.mono ?_
        rintro e w4 ⟨rfl, hb4, hR4⟩
        have hlt : Hid (aheadB (whereV q.vars q.order) q.down = ltQ q) := rfl
        rw [hlt.out] at hR4
        have x4 : w4.cell? ⟨w.heap.size, 4, none⟩ = some (.bool dq) := by rw [Hdq.out]; exact (hb4.cell (p := ⟨w.heap.size, 4, none⟩) hg3).trans ((hbw3.out.cell (p := ⟨w.heap.size, 4, none⟩) hg3).trans hX1.out.c4)
        have x5 : w4.cell? ⟨w.heap.size, 5, none⟩ = some (.int .i64 q.lim) := (hb4.cell (p := ⟨w.heap.size, 5, none⟩) hg3).trans ((hbw3.out.cell (p := ⟨w.heap.size, 5, none⟩) hg3).trans hX1.out.c5)
        have hlenT : (sortR (ltQ q) false P).length = k := by rw [sort_len, ← Hnp.out]
        have hLT : LenR q.vars.length (sortR (ltQ q) false P) := fun x hx => hLen.out x (sort_mem.1 hx)
        have hcs := hideE (comp_sort (ordQ q q.vars.length) hLen.out (fold_sorted (ordQ q q.vars.length) hLen.out (fun x hx => by cases hx) List.Pairwise.nil))
        have HCo := CompactQ_any w1.heap.size k q.vars.length (sortR (ltQ q) false P) w4 hR4 hLT (by omega) (by omega) (by omega)
        rw [hlenT, hcs.out] at HCo
        have hR4' := hideE hR4
        have hB4 := hideE hb4
        clear hR4 hb4 HSo hLT hcs
        dsimp only
        go_upto_if 45 with fail
        go_cut [9] from 46 to 47 (fun vv W => ∃ m, vv = .slice (some ⟨w1.heap.size, 0, none⟩) m k ∧ Hid (m = (sortR (ltQ q) q.dist P).length) ∧ Hid (RowsC W w1.heap.size (sortR (ltQ q) q.dist P)) ∧ Hid (RowKit.Below w1.heap.size w3 W))
        case first =>
          cases dq with
          | false =>
            go_wp2_with fail
            go_meet
            case rel => exact ⟨k, rfl, by show _ = _; rw [← Hdq.out]; exact hlenT.symm, by show RowsC _ _ _; rw [← Hdq.out]; exact hR4'.out, hB4.out⟩
          | true =>
            go_wp2_with fail
            refine HCo.mono ?_
            rintro e w5 ⟨rfl, hr5, hb5⟩
            dsimp only
            generalize hml : (sortR (ltQ q) true P).length = ml at *
            have Hml := hideE hml
            have HR5 := hideE hr5
            clear hml hr5
            go_wp2_with fail
            go_meet
            case rel => exact ⟨ml, rfl, by show _ = _; rw [← Hdq.out]; exact Hml.out.symm, by show RowsC _ _ _; rw [← Hdq.out]; exact HR5.out, hB4.out.trans hb5⟩
        case rest =>
          obtain ⟨m, rfl, hm, hRf, hBf⟩ := hcut
          have y5 : wc.cell? ⟨w.heap.size, 5, none⟩ = some (.int .i64 q.lim) := (hBf.out.cell (p := ⟨w.heap.size, 5, none⟩) hg3).trans ((hbw3.out.cell (p := ⟨w.heap.size, 5, none⟩) hg3).trans hX1.out.c5)
          have hmk2 : m ≤ k := by
            rw [hm.out]
            cases hdq : q.dist with
            | false => rw [hlenT]; exact Nat.le_refl _
            | true =>
              have := once_le _ P (sort_once (ltQ q) P) (fun v hv => sort_mem.1 hv)
              rw [← Hnp.out] at this
              exact this
          have hBall := hideE (hB3.out.trans (hBf.out.mono (by omega)))
          clear x4 x5 HCo hR4' hB4 hlenT
          by_cases h0 : 0 ≤ q.lim
          · obtain ⟨ln, hln0⟩ : ∃ ln : Nat, q.lim = (ln : Int) := ⟨q.lim.toNat, by omega⟩
            rw [hln0] at y5
            have hln := hideE hln0
            clear hln0
            have t2 : decide ((ln : Int) ≥ 0) = true := by simp
            by_cases h1 : ln < m
            · have t3 : decide ((ln : Int) < (m : Int)) = true := by simp; omega
              have l0 : (0 : Int) ≤ (ln : Int) := by omega
              have l1 : (ln : Int) ≤ (k : Int) := by omega
              have l2 : ln ≤ k := by omega
              have hfin : Hid (solveL S q = (sortR (ltQ q) q.dist P).take ln) := by
                show _ = _
                rw [hsol.out]
                unfold limR
                rw [if_pos h0, hln.out]
                simp
              go_wp2_with fail
              exact HQ.out (.returned (.tuple #[.slice (some ⟨w1.heap.size, 0, none⟩) ln k, .nilIface])) wc ⟨hBall.out, some ⟨w1.heap.size, 0, none⟩, k, by
                rw [hfin.out, Hz.out, List.length_take, ← hm.out, Nat.min_eq_left (by omega)]
                rfl, by rw [hfin.out]; exact hRf.out.sl.take ln, by rw [hfin.out, List.length_take]; omega, fun _ => ⟨_, rfl⟩⟩
            · have t3 : decide ((ln : Int) < (m : Int)) = false := by simp; omega
              have hfin : Hid (solveL S q = sortR (ltQ q) q.dist P) := by
                show _ = _
                rw [hsol.out]
                exact limR_all (fun h => by have := h.2; rw [hln.out, ← hm.out] at this; omega)
              go_wp2_with fail
              exact HQ.out (.returned (.tuple #[.slice (some ⟨w1.heap.size, 0, none⟩) m k, .nilIface])) wc ⟨hBall.out, some ⟨w1.heap.size, 0, none⟩, k, by
                rw [hfin.out, Hz.out, ← hm.out]
                rfl, by rw [hfin.out]; exact hRf.out.sl, by rw [hfin.out, ← hm.out]; exact hmk2, fun _ => ⟨_, rfl⟩⟩
          · have t2 : decide (q.lim ≥ 0) = false := by simp; omega
            have hfin : Hid (solveL S q = sortR (ltQ q) q.dist P) := by
              show _ = _
              rw [hsol.out]
              exact limR_all (fun h => h0 h.1)
            go_wp2_with fail
            exact HQ.out (.returned (.tuple #[.slice (some ⟨w1.heap.size, 0, none⟩) m k, .nilIface])) wc ⟨hBall.out, some ⟨w1.heap.size, 0, none⟩, k, by
              rw [hfin.out, Hz.out, ← hm.out]
              rfl, by rw [hfin.out]; exact hRf.out.sl, by rw [hfin.out, ← hm.out]; exact hmk2, fun _ => ⟨_, rfl⟩⟩
  · obtain rfl := hbad hz
    have hl : solveL S q = [] := by unfold solveL; rw [if_neg hz]
    have Hl := hideE hl
    have e1 : (solveN S q == 0) = false := by simpa using hz
    clear hgood hbad
    dsimp only
    go_wp2_with fail
    exact HQ.out _ _ ⟨bstep hB0 hb1, none, 0, by rw [Hl.out]; rfl, by rw [Hl.out]; exact slR_nil _ _, by rw [Hl.out]; exact Nat.le_refl 0, fun h => absurd h hz⟩
end Go.Proofs.YtbacenhgedopjaaGreatDoor
