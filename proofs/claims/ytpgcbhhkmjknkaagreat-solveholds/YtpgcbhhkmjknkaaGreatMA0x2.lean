import Derived.Test.YtpgcbhhkmjknkaaGreatMA0x1
import Derived.Deep.RegionHeld3
import Derived.RegionTactic
import Derived.Shelf.GgClosure.StringsIndexFunc
import Derived.Laws.RangeString
import Derived.Laws.RangeAny
import Derived.Test.YtpgcbhhkmjknkaaGreatMA0x0
import Derived.Lib.Builder
import Derived.OwnWalk
import Derived.Deep.RegionWith
import Derived.BigQuiet
import Derived.Outline

/- Sorted's closure: what is wrong with the triple at a place: itself, and that it is not above the one ahead; firstFault. -/
namespace Go.Proofs.YtpgcbhhkmjknkaaGreat
open Go Go.RowKit Go.Proofs Go.Sort

attribute [local go_sem] eql_errV neq_errV guard_errV

/-- what Sorted's closure tells of a place -/
def stepN (l : List Tr) (i : Nat) : Int := if h : i < l.length then (if chkTr l[i] = 0 then (if h0 : 0 < i then (if 0 ≤ cmpTr (l[i - 1]'(by omega)) l[i] then 6 else 0) else 0) else chkTr l[i]) else 0

/-- nineteen cells, behind a call that lays blocks and draws -/
theorem keep19 {W W' : World} {p0 p1 p2 p3 p4 p5 p6 p7 p8 p9 p10 p11 p12 p13 p14 p15 p16 p17 p18 : Addr} {v0 v1 v2 v3 v4 v5 v6 v7 v8 v9 v10 v11 v12 v13 v14 v15 v16 v17 v18 : Value}
    (h : W.cell? p0 = some v0 ∧ W.cell? p1 = some v1 ∧ W.cell? p2 = some v2 ∧ W.cell? p3 = some v3 ∧ W.cell? p4 = some v4 ∧ W.cell? p5 = some v5 ∧ W.cell? p6 = some v6 ∧ W.cell? p7 = some v7 ∧ W.cell? p8 = some v8 ∧ W.cell? p9 = some v9 ∧ W.cell? p10 = some v10 ∧ W.cell? p11 = some v11 ∧ W.cell? p12 = some v12 ∧ W.cell? p13 = some v13 ∧ W.cell? p14 = some v14 ∧ W.cell? p15 = some v15 ∧ W.cell? p16 = some v16 ∧ W.cell? p17 = some v17 ∧ W.cell? p18 = some v18) (hb : Grew W W') : W'.cell? p0 = some v0 ∧ W'.cell? p1 = some v1 ∧ W'.cell? p2 = some v2 ∧ W'.cell? p3 = some v3 ∧ W'.cell? p4 = some v4 ∧ W'.cell? p5 = some v5 ∧ W'.cell? p6 = some v6 ∧ W'.cell? p7 = some v7 ∧ W'.cell? p8 = some v8 ∧ W'.cell? p9 = some v9 ∧ W'.cell? p10 = some v10 ∧ W'.cell? p11 = some v11 ∧ W'.cell? p12 = some v12 ∧ W'.cell? p13 = some v13 ∧ W'.cell? p14 = some v14 ∧ W'.cell? p15 = some v15 ∧ W'.cell? p16 = some v16 ∧ W'.cell? p17 = some v17 ∧ W'.cell? p18 = some v18 := by
  have q := hb.keep
  obtain ⟨h0, h1, h2, h3, h4, h5, h6, h7, h8, h9, h10, h11, h12, h13, h14, h15, h16, h17, h18⟩ := h
  exact ⟨q _ _ h0, q _ _ h1, q _ _ h2, q _ _ h3, q _ _ h4, q _ _ h5, q _ _ h6, q _ _ h7, q _ _ h8, q _ _ h9, q _ _ h10, q _ _ h11, q _ _ h12, q _ _ h13, q _ _ h14, q _ _ h15, q _ _ h16, q _ _ h17, q _ _ h18⟩

set_option maxHeartbeats 4000000 in
set_option maxRecDepth 100000 in
theorem sortedFault_any (b o cap bl : Nat) (l : List Tr) (i : Nat) (w : World) (hi : i < l.length) (h200 : l.length ≤ 200) (hx : fitTr l[i])
    (hbox : w.cell? ⟨bl, 0, none⟩ = some (.slice (some ⟨b, o, none⟩) l.length cap)) (hrow : RowR w b o l) :
    Calls Tryz.prog 75 #[.int .i64 i, .pointer (some ⟨bl, 0, none⟩)] w fun e w' => e = .returned (errV (stepN l i)) ∧ Below w.heap.size w w' := by
  have H := fun W => ChkTr_any l[i] W hx
  have Hrow : Hid (RowR w b o l) := hrow
  obtain ⟨c0, c1, c2, c3, c4, c5, c6, c7, c8⟩ := hrow.at i hi
  clear hrow hx
  cases hc : (chkTr l[i] == 0)
  · have fin : Hid (stepN l i = chkTr l[i]) := by simp at hc; simp [Hid, stepN, hi, hc]
    go_enter Tryz.func75, Tryz.ntmps75
    go_wp2_with fail
    refine (H _).mono ?_
    rintro e w1 ⟨rfl, hb1⟩
    go_wp2_with fail
    go_ret
    exact ⟨ret_val (by rw [fin.out]; rfl), hb1⟩
  · by_cases h0 : i = 0
    · subst h0
      have fin : Hid (stepN l 0 = 0) := by simp at hc; simp [Hid, stepN, hi, hc]
      simp only [Nat.zero_mul, Nat.add_zero] at c0 c1 c2 c3 c4 c5 c6 c7 c8
      go_enter Tryz.func75, Tryz.ntmps75
      go_wp2_with fail
      refine (H _).mono ?_
      rintro e w1 ⟨rfl, hb1⟩
      clear c0 c1 c2 c3 c4 c5 c6 c7 c8
      go_wp2_with fail
      go_region
      go_wp2
      go_ret
      exact ⟨ret_val (by rw [fin.out]; rfl), hb1.drew⟩
    · obtain ⟨k, hk0⟩ : ∃ k, i = k + 1 := ⟨i - 1, by omega⟩
      have hk : k < l.length := by omega
      have fin : Hid (stepN l i = if 0 ≤ cmpTr l[k] l[i] then 6 else 0) := by
        subst hk0; simp at hc; simp [Hid, stepN, hi, hc]
      have HC := fun W => CmpTr_any l[k] l[i] W
      generalize cmpTr l[k] l[i] = c at HC fin
      have hwr : IntKind.i64.wrap ((i : Int) - 1) = (k : Int) := by subst hk0; simp [IntKind.wrap, IntKind.bits, IntKind.signed]; omega
      have i0 : (0 : Int) ≤ (k : Int) := by omega
      have i1 : (k : Int) < (l.length : Int) := by omega
      have hd : decide (0 < i) = true := by simp; omega
      have i3 : (i : Int) < (l.length : Int) := by omega
      have Hk : Hid (i = k + 1) := hk0
      clear hk0 h0
      go_enter Tryz.func75, Tryz.ntmps75
      go_wp2_with fail
      refine (H _).mono ?_
      rintro e w1 ⟨rfl, hb1⟩
      have hrow1 := Hrow.out.below hb1
      have hbox1 : w1.cell? ⟨bl, 0, none⟩ = some (.slice (some ⟨b, o, none⟩) l.length cap) := (hb1.cell (World.block_lt_of_cell? w _ hbox)).trans hbox
      clear c0 c1 c2 c3 c4 c5 c6 c7 c8
      obtain ⟨c0, c1, c2, c3, c4, c5, c6, c7, c8⟩ := hrow1.at i hi
      obtain ⟨d0, d1, d2, d3, d4, d5, d6, d7, d8⟩ := hrow1.at k hk
      generalize l[i] = y at *
      generalize l[k] = x at *
      clear hrow1 H
      cases hcc : decide (c ≥ 0)
      all_goals
        go_wp2_with fail
        go_region_held3 (fun W => W.cell? ⟨bl, 0, none⟩ = some (.slice (some ⟨b, o, none⟩) l.length cap) ∧ W.cell? ⟨b, o + k * 9, none⟩ = some (.int .i64 x.1.1) ∧ W.cell? ⟨b, o + k * 9 + 1, none⟩ = some (.string ⟨x.1.2.1.toArray⟩) ∧ W.cell? ⟨b, o + k * 9 + 2, none⟩ = some (.string ⟨x.1.2.2.toArray⟩) ∧ W.cell? ⟨b, o + k * 9 + 3, none⟩ = some (.int .i64 x.2.1.1) ∧ W.cell? ⟨b, o + k * 9 + 4, none⟩ = some (.string ⟨x.2.1.2.1.toArray⟩) ∧ W.cell? ⟨b, o + k * 9 + 5, none⟩ = some (.string ⟨x.2.1.2.2.toArray⟩) ∧ W.cell? ⟨b, o + k * 9 + 6, none⟩ = some (.int .i64 x.2.2.1) ∧ W.cell? ⟨b, o + k * 9 + 7, none⟩ = some (.string ⟨x.2.2.2.1.toArray⟩) ∧ W.cell? ⟨b, o + k * 9 + 8, none⟩ = some (.string ⟨x.2.2.2.2.toArray⟩) ∧ W.cell? ⟨b, o + i * 9, none⟩ = some (.int .i64 y.1.1) ∧ W.cell? ⟨b, o + i * 9 + 1, none⟩ = some (.string ⟨y.1.2.1.toArray⟩) ∧ W.cell? ⟨b, o + i * 9 + 2, none⟩ = some (.string ⟨y.1.2.2.toArray⟩) ∧ W.cell? ⟨b, o + i * 9 + 3, none⟩ = some (.int .i64 y.2.1.1) ∧ W.cell? ⟨b, o + i * 9 + 4, none⟩ = some (.string ⟨y.2.1.2.1.toArray⟩) ∧ W.cell? ⟨b, o + i * 9 + 5, none⟩ = some (.string ⟨y.2.1.2.2.toArray⟩) ∧ W.cell? ⟨b, o + i * 9 + 6, none⟩ = some (.int .i64 y.2.2.1) ∧ W.cell? ⟨b, o + i * 9 + 7, none⟩ = some (.string ⟨y.2.2.2.1.toArray⟩) ∧ W.cell? ⟨b, o + i * 9 + 8, none⟩ = some (.string ⟨y.2.2.2.2.toArray⟩)) (first | exact keep19 (by assumption) hb2 | go_keep) (first
          | (go_at_call 77; refine (HC _).mono ?_; rintro e w2 ⟨rfl, hb2⟩))
        go_wp2
        go_ret
        exact ⟨ret_val (by rw [fin.out]; simp at hcc; first | rw [if_pos (by omega)]; rfl | rw [if_neg (by omega)]; rfl), bstep hb1.drew hb2.below⟩

/-- the first number that is not 0 among those of the places below k -/
def firstUpto (f : Nat → Int) : Nat → Int
  | 0 => 0
  | k + 1 => if firstUpto f k = 0 then f k else firstUpto f k
theorem firstUpto_mono (f : Nat → Int) (k n : Nat) (h : firstUpto f k ≠ 0) (hn : k ≤ n) : firstUpto f n = firstUpto f k := by
  induction n with
  | zero => simp at hn; rw [hn]
  | succ m ih =>
    by_cases e : k = m + 1
    · rw [e]
    · have := ih (by omega)
      rw [firstUpto, this, if_neg h]
/-- what firstFault tells of n places -/
def faultN (f : Nat → Int) (n : Nat) : Int := if 200 < n then 4 else firstUpto f n

set_option maxHeartbeats 1000000 in
theorem firstFault_any (ad : Option Addr) (n cap g bl : Nat) (f : Nat → Int) (I : World → Prop) (w : World) (hn : n ≤ 9223372036854775807)
    (eg : ∀ args w, (callFunc g args).run Tryz.prog w = .ok (.enter g args) w) (hI : I w) (hkeep : ∀ W W', I W → Below W.heap.size W W' → I W')
    (hf : n ≤ 200 → ∀ (i : Nat) (W : World), i < n → I W → Calls Tryz.prog g #[.int .i64 i, .pointer (some ⟨bl, 0, none⟩)] W fun e w' => e = .returned (errV (f i)) ∧ Below W.heap.size W w') :
    Calls Tryz.prog 74 #[.slice ad n cap, .func (.func g) #[] #[.pointer (some ⟨bl, 0, none⟩)]] w fun e w' => e = .returned (errV (faultN f n)) ∧ Below w.heap.size w w' := by
  by_cases h200 : 200 < n
  · have fin : Hid (faultN f n = 4) := if_pos h200
    have h200' : decide ((n : Int) > 200) = true := by simp; omega
    clear hf
    go_enter Tryz.func74, Tryz.ntmps74
    go_wp2
    go_ret
    exact ⟨ret_val (by rw [fin.out]; rfl), Below.refl _ _⟩
  · have fin : Hid (faultN f n = firstUpto f n) := if_neg h200
    have Hf : Hid (∀ (i : Nat) (W : World), i < n → I W → Calls Tryz.prog g #[.int .i64 i, .pointer (some ⟨bl, 0, none⟩)] W fun e w' => e = .returned (errV (f i)) ∧ Below W.heap.size W w') := hf (by omega)
    have Hk : Hid (∀ W W', I W → Below W.heap.size W W' → I W') := hkeep
    have HI : Hid (I w) := hI
    clear hf hkeep hI
    go_enter Tryz.func74, Tryz.ntmps74
    go_wp2
    go_loopw [13] (fun i wr => ∃ k : Nat, k ≤ n ∧ i = .int .i64 k ∧ firstUpto f k = 0 ∧ I wr ∧ Below w.heap.size w wr) (fun i wr => n - (intOf i).toNat)
    case atStart => exact ⟨0, Nat.zero_le _, rfl, rfl, HI.out, Below.refl _ _⟩
    case round =>
      obtain ⟨k, hk, rfl, hz0, hIr0, hbr⟩ := hrel
      have hz : Hid (firstUpto f k = 0) := hz0
      have hIr : Hid (I wr) := hIr0
      clear hz0 hIr0
      by_cases hlt : k < n
      · cases hc : (f k == 0)
        · go_wp2_with fail
          go_at_fn g
          refine (Hf.out k _ hlt hIr.out).mono ?_
          rintro e w1 ⟨rfl, hb1⟩
          go_wp2_with fail
          go_ret
          simp at hc
          refine ⟨ret_val ?_, bstep hbr hb1⟩
          have h1 : firstUpto f (k + 1) = f k := by rw [firstUpto, if_pos hz.out]
          rw [fin.out, firstUpto_mono f (k + 1) n (by rw [h1]; exact hc) (by omega), h1]
          rfl
        · go_wp2_with fail
          go_at_fn g
          refine (Hf.out k _ hlt hIr.out).mono ?_
          rintro e w1 ⟨rfl, hb1⟩
          go_wp2_with fail
          simp at hc
          exact ⟨⟨k + 1, by omega, by go_num, by rw [firstUpto, if_pos hz.out]; exact hc, Hk.out _ _ hIr.out hb1, bstep hbr hb1⟩, by simp [intOf]; omega⟩
      · have hkn : k = n := by omega
        subst hkn
        go_wp2
        go_ret
        exact ⟨ret_val (by rw [fin.out, hz.out]; rfl), hbr⟩
end Go.Proofs.YtpgcbhhkmjknkaaGreat

/- Patterns in plain words: what is wrong with one, which variables it has, and whether a triple fits. -/
namespace Go.Proofs.YtpgcbhhkmjknkaaGreat
open Go Go.RowKit Go.Proofs
set_option synthInstance.maxSize 1000

/-- a slot: its variable, its term; a pattern: three slots -/
abbrev Sl := List UInt8 × Tm
abbrev Pt := Sl × Sl × Sl
def tmZero : Tm := (0, [], [])
def tmChk (x : Tm) : Int := checkN x.1 x.2.1 x.2.2

/-- is a text that is not empty a variable? -/
def spellV (v : List UInt8) : Bool := decide (v.length ≤ 10) && allB letB v
/-- what is wrong with a slot; with a pattern -/
def slotN (s : Sl) : Int := if s.1 = [] then tmChk s.2 else if spellV s.1 = false then 2 else if s.2 = tmZero then 0 else 3
def varsN (p : Pt) : Int := if slotN p.1 = 0 then (if slotN p.2.1 = 0 then slotN p.2.2 else slotN p.2.1) else slotN p.1
/-- a pattern's variables, each once -/
def addV (l : List (List UInt8)) (s : Sl) : List (List UInt8) := if s.1 = [] then l else if s.1 ∈ l then l else l ++ [s.1]
def varsL (p : Pt) : List (List UInt8) := addV (addV (addV [] p.1) p.2.1) p.2.2

/-- does a triple fit? -/
def fitsB (p : Pt) (t : Tr) : Bool :=
  (if p.1.1 = [] then decide (t.1 = p.1.2) else true) &&
  ((if p.2.1.1 = [] then decide (t.2.1 = p.2.1.2) else if p.2.1.1 = p.1.1 then decide (t.2.1 = t.1) else true) &&
  (if p.2.2.1 = [] then decide (t.2.2 = p.2.2.2) else if p.2.2.1 = p.1.1 then decide (t.2.2 = t.1) else if p.2.2.1 = p.2.1.1 then decide (t.2.2 = t.2.1) else true))

/-- a rune that is no letter a to z -/
def offR (r : Nat) : Bool := decide (r < 97) || decide (122 < r)

theorem idx_off (s : ByteArray) : ∀ (f pos : Nat), s.size ≤ pos + f → (0 ≤ Lib.idxFuncFrom offR true s f pos ↔ ∃ k, ∃ h : k < s.size, pos ≤ k ∧ letB (s[k].toNat : Int) = false)
  | 0, pos, hf => by
    simp only [Lib.idxFuncFrom]
    constructor
    · intro h; omega
    · rintro ⟨k, h, hk, _⟩; omega
  | f + 1, pos, hf => by
    unfold Lib.idxFuncFrom
    by_cases hp : pos < s.size
    · rw [if_pos hp]
      by_cases hb : s[pos].toNat < 128
      · rw [decode_ascii s pos hp hb]
        simp only
        by_cases ho : offR s[pos].toNat = true
        · rw [if_pos ho]
          refine ⟨fun _ => ⟨pos, hp, Nat.le_refl _, ?_⟩, fun _ => by omega⟩
          simp [offR] at ho
          simp [letB]; omega
        · rw [if_neg ho, idx_off s f (pos + 1) (by omega)]
          constructor
          · rintro ⟨k, h, hk, e⟩; exact ⟨k, h, by omega, e⟩
          · rintro ⟨k, h, hk, e⟩
            refine ⟨k, h, ?_, e⟩
            rcases Nat.lt_or_ge pos k with hlt | hge
            · omega
            · have hkp : k = pos := by omega
              subst hkp
              simp [offR] at ho
              simp [letB] at e
              omega
      · have hh := (decode_high s pos hp (by omega)).1
        have ho : offR (Utf8.decode s pos).1 = true := by simp [offR]; omega
        rw [if_pos ho]
        refine ⟨fun _ => ⟨pos, hp, Nat.le_refl _, ?_⟩, fun _ => by omega⟩
        simp [letB]; omega
    · rw [if_neg hp]
      constructor
      · intro h; omega
      · rintro ⟨k, h, hk, _⟩; omega

theorem offAny (s : ByteArray) : decide (0 ≤ Lib.idxFunc offR true s) = !allB letB s.data.toList := by
  have h := idx_off s s.size 0 (by omega)
  have e : (∃ k, ∃ h : k < s.size, 0 ≤ k ∧ letB (s[k].toNat : Int) = false) ↔ allB letB s.data.toList = false := by
    unfold allB
    rw [List.all_eq_false]
    constructor
    · rintro ⟨k, hk, _, e⟩
      exact ⟨s.data.toList[k]'(by simpa using hk), List.getElem_mem _, by rw [show s.data.toList[k]'(by simpa using hk) = s[k] from rfl, e]; simp⟩
    · rintro ⟨x, hx, e⟩
      obtain ⟨k, hk, rfl⟩ := List.getElem_of_mem hx
      have hk' : k < s.size := by simpa using hk
      exact ⟨k, hk', Nat.zero_le _, by rw [show s[k] = s.data.toList[k] from rfl]; simpa using e⟩
  unfold Lib.idxFunc
  cases ha : allB letB s.data.toList
  · simpa using h.2 (e.2 ha)
  · have : ¬ (0 ≤ Lib.idxFuncFrom offR true s s.size 0) := fun h0 => by
      have := e.1 (h.1 h0)
      rw [ha] at this
      cases this
    simp [this]
end Go.Proofs.YtpgcbhhkmjknkaaGreat

/- strings.Builder: WriteByte (its own check walked here), String; strings.Clone. -/
namespace Go.Proofs.YtpgcbhhkmjknkaaGreat
open Go Go.RowKit Go.Proofs

theorem neBuilder : (166 : TypeId) ≠ 5 := by decide
theorem sizeBuilder : (Tryz.prog.info? 166).map (·.size) = some 2 := by kernel_rfl
theorem liesBuilder : liesAt Tryz.prog Tryz.prog.depth 166 (2 / Tryz.prog.cellsOf 166) 0 166 1 = true := by kernel_rfl
theorem infoByte : (Tryz.prog.info? 5).map (fun i => (i.zero, i.size, i.bytes)) = some (some (.int .u8 0), 1, 1) := by kernel_rfl

set_option maxHeartbeats 1000000 in
set_option maxRecDepth 100000 in
theorem copyCheck_fresh (b : Nat) (w : World) (h0 : w.cell? ⟨b, 0, none⟩ = some (.pointer none)) (hsh : w.shape? b = some (166, 2)) (hz : w.frozen? ⟨b, 0, none⟩ = false) :
    Calls Tryz.prog 141 #[.pointer (some ⟨b, 0, none⟩)] w fun e w' => e = .returned (.tuple #[]) ∧ w' = w.setCell ⟨b, 0, none⟩ (.pointer (some ⟨b, 0, none⟩)) := by
  obtain ⟨j, hj, hjs⟩ := Option.map_eq_some_iff.1 sizeBuilder
  go_enter Tryz.func141, Tryz.ntmps141
  go_wp2
  rw [Lib.run_to_unsafe w ⟨b, 0, none⟩ Tryz.underlying163 Tryz.underlying240 hj (by rw [hjs]; decide) hsh (Nat.zero_lt_succ 1)]
  simp only [Result.andThen]
  rw [Oper.upon_value]
  go_wp2
  rw [run_callFunc_extern Tryz.func183 (by kernel_rfl) (by kernel_rfl) (by kernel_rfl) (e := Extern.AbiNoEscape.same) (by kernel_rfl)]
  rw [Lib.run_noEscape]
  simp only [Result.andThen]
  rw [Oper.upon_value]
  go_wp2
  rw [Lib.run_from_unsafe w ⟨b, 0, none⟩ Tryz.underlying240 Tryz.underlying163 hj hsh liesBuilder]
  simp only [Result.andThen]
  rw [Oper.upon_value]
  go_wp2
  go_end0
  exact ⟨rfl, rfl⟩

set_option maxHeartbeats 1000000 in
set_option maxRecDepth 100000 in
theorem copyCheck_used (b : Nat) (w : World) (h0 : w.cell? ⟨b, 0, none⟩ = some (.pointer (some ⟨b, 0, none⟩))) :
    Calls Tryz.prog 141 #[.pointer (some ⟨b, 0, none⟩)] w fun e w' => e = .returned (.tuple #[]) ∧ w' = w := by
  obtain ⟨j, hj, _⟩ := Option.map_eq_some_iff.1 sizeBuilder
  go_enter Tryz.func141, Tryz.ntmps141
  go_wp2
  rw [Lib.run_neq_ptr_same w _ Tryz.underlying163 hj]
  go_wp2
  go_end0
  exact ⟨rfl, rfl⟩

theorem copyCheck_any (B b : Nat) (bs : List Value) (w : World) (h : Lib.IsBuilder 166 5 B b bs w) :
    Calls Tryz.prog 141 #[.pointer (some ⟨b, 0, none⟩)] w fun e w' => e = .returned (.tuple #[]) ∧ (Lib.BuilderAt 166 5 B b (.pointer (some ⟨b, 0, none⟩)) bs w' ∧ Below B w w') := by
  rcases h with h | h
  · refine (copyCheck_fresh b w h.cell0 h.shape h.frozen0).mono ?_
    rintro e w' ⟨rfl, rfl⟩
    exact ⟨rfl, h.used _, (Below.refl B w).setCell (p := ⟨b, 0, none⟩) h.1 _⟩
  · refine (copyCheck_used b w h.cell0).mono ?_
    rintro e w' ⟨rfl, rfl⟩
    exact ⟨rfl, h, Below.refl B _⟩

set_option maxHeartbeats 1000000 in
set_option maxRecDepth 100000 in
theorem WriteByte_any (B b : Nat) (bs : List Value) (c : Int) (w : World) (h : Lib.IsBuilder 166 5 B b bs w) (hlen : bs.length + 1 ≤ 140737488355328) (hBw : B ≤ w.heap.size) :
    Calls Tryz.prog 231 #[.pointer (some ⟨b, 0, none⟩), .int .u8 c] w fun e w' => e = .returned .nilIface ∧ (Lib.BuilderAt 166 5 B b (.pointer (some ⟨b, 0, none⟩)) (bs ++ [.int .u8 c]) w' ∧ Below B w w') := by
  obtain ⟨i0, hi, hz⟩ := Option.map_eq_some_iff.1 infoByte
  simp only [Prod.mk.injEq] at hz
  obtain ⟨hz0, hz1, hz2⟩ := hz
  go_enter Tryz.func231, Tryz.ntmps231
  go_wp2_with (go_at_call 141; refine (copyCheck_any B b bs _ h).mono ?_)
  rintro e w1 ⟨rfl, h1, hb1⟩
  obtain ⟨hB, v, hbk, hown, hne⟩ := h1
  have c0 : w1.cell? ⟨b, 0, none⟩ = some (.pointer (some ⟨b, 0, none⟩)) := by rw [Lib.cell_of_heap hbk]; rfl
  have c1 : w1.cell? ⟨b, 1, none⟩ = some v := by rw [Lib.cell_of_heap hbk]; rfl
  go_wp2_with (at_builtin; refine wpList_append_own _ rfl _ _ 164 rfl B 5 i0 (.int .u8 0) 1 1 Tryz.underlying164 hi hz0 hz1 hz2 rfl (by decide) _ _ _ rfl (hown.alloc _) ⟨w1.heap.size, 0, none⟩ 1 1 [.int .u8 c] rfl rfl ?c1 ?c2 ?c3 ?c4 ?c5 ?_)
  case c1 =>
    intro j u hj
    match j, hj with
    | 0, hj => simp at hj; subst hj; simp [Addr.add]
  case c2 => intro u hu; simp at hu; subst hu; rfl
  case c3 => unfold maxLen; omega
  case c4 => omega
  case c5 => have := hb1.size; simp; omega
  intro v' w2 hown' hgrow _
  have hlt : b < w1.heap.size := by
    rcases Nat.lt_or_ge b w1.heap.size with h' | h'
    · exact h'
    · simp [Array.getElem?_eq_none h'] at hbk
  have hb2 : w2.heap[b]? = some (.cells #[.pointer (some ⟨b, 0, none⟩), v] 166 (0, 0)) := by
    rw [hgrow.block b (by simp; omega) (fun e => hne e.symm), Lib.alloc_old w1 _ b hlt]
    exact hbk
  have d0 : w2.cell? ⟨b, 0, none⟩ = some (.pointer (some ⟨b, 0, none⟩)) := by rw [Lib.cell_of_heap hb2]; rfl
  have d1 : w2.cell? ⟨b, 1, none⟩ = some v := by rw [Lib.cell_of_heap hb2]; rfl
  have f1 : w2.frozen? ⟨b, 1, none⟩ = false := Lib.frozen_of_heap hb2 1
  obtain ⟨g, cap, rfl⟩ : ∃ g cap, v' = .slice (some ⟨g, 0, none⟩) (bs.length + 1) cap := by
    rcases hown'.2 with ⟨_, h0⟩ | ⟨g, cap, cur, hv, _⟩
    · omega
    · exact ⟨g, cap, hv⟩
  go_wp2
  go_ret
  refine ⟨rfl, ?_, ?_⟩
  · exact Lib.BuilderAt.put (T := 166) (e := 5) hB hb2 (bs' := bs ++ [.int .u8 c]) (by simpa using hown') neBuilder
  · exact ((hb1.alloc (by have := hb1.size; omega) _).grown hgrow (by have := hb1.size; simp; omega) (fun k hk => (hown.lt k hk).1)).setCell (p := ⟨b, 1, none⟩) hB _

theorem Clone_any (l : List UInt8) (w : World) (hl : l.length ≤ 281474976710656) :
    Calls Tryz.prog 86 #[.string ⟨l.toArray⟩] w fun e w' => e = .returned (.string ⟨l.toArray⟩) ∧ Below w.heap.size w w' := by
  go_enter Tryz.func86, Tryz.ntmps86
  go_wp2_with (go_at_call 130; refine (Tryz.stringslite_Clone ⟨l.toArray⟩ _ hl).mono ?_; rintro e w' ⟨rfl, hb⟩)
  go_ret
  exact ⟨rfl, hb⟩
end Go.Proofs.YtpgcbhhkmjknkaaGreat

/- quote, langMark: a text between quotes, and what stands behind it. -/
namespace Go.Proofs.YtpgcbhhkmjknkaaGreat
open Go Go.RowKit Go.Proofs

/-- what stands between the quotes -/
def escL (l : List UInt8) : List UInt8 := l.flatMap fun c => if markB (c.toNat : Int) then [92, c] else [c]
def quoteL (l : List UInt8) : List UInt8 := 34 :: (escL l ++ [34])

theorem escL_len (l : List UInt8) : (escL l).length ≤ 2 * l.length := by
  induction l with
  | nil => simp [escL]
  | cons c r ih =>
    have : escL (c :: r) = (if markB (c.toNat : Int) then [92, c] else [c]) ++ escL r := by simp [escL]
    rw [this, List.length_append]
    cases markB (c.toNat : Int) <;> simp <;> omega

theorem escL_take (l : List UInt8) (k : Nat) (h : k < l.length) : escL (l.take (k + 1)) = escL (l.take k) ++ if markB (l[k].toNat : Int) then [92, l[k]] else [l[k]] := by
  rw [List.take_succ_eq_append_getElem h]
  simp only [escL, List.flatMap_append, List.flatMap_cons, List.flatMap_nil, List.append_nil]

theorem cells_snoc (l : List UInt8) (c : UInt8) : Lib.byteCells l ++ [.int .u8 (c.toNat : Int)] = Lib.byteCells (l ++ [c]) := by simp [Lib.byteCells]

set_option maxHeartbeats 1000000 in
set_option maxRecDepth 100000 in
theorem quote_any (S : List UInt8) (w : World) (hs : S.length ≤ 1000000) :
    Calls Tryz.prog 200 #[.string ⟨S.toArray⟩] w fun e w' => e = .returned (.string ⟨(quoteL S).toArray⟩) ∧ Below w.heap.size w w' := by
  have hB0 := Lib.fresh_isBuilder 166 5 w
  go_enter Tryz.func200, Tryz.ntmps200
  go_wp2_with fail
  refine (WriteByte_any w.heap.size w.heap.size [] 34 _ hB0 (by simp) (by simp)).mono ?_
  rintro e w1 ⟨rfl, hI1, hb1⟩
  have hI1' : Lib.IsBuilder 166 5 w.heap.size w.heap.size (Lib.byteCells (34 :: escL (S.take 0))) w1 := Or.inr hI1
  clear hI1
  have hbw : Below w.heap.size w w1 := (balloc w _).trans hb1
  clear hb1 hB0
  go_wp2_with fail
  go_loopw [8] (fun i wr => ∃ k : Nat, k ≤ S.length ∧ i = .int .i64 k ∧ Lib.IsBuilder 166 5 w.heap.size w.heap.size (Lib.byteCells (34 :: escL (S.take k))) wr ∧ Below w.heap.size w wr) (fun i wr => S.length - (intOf i).toNat)
  case atStart => exact ⟨0, Nat.zero_le _, rfl, hI1', hbw⟩
  case round =>
    obtain ⟨k, hk, rfl, hI, hbr⟩ := hrel
    have hlen := escL_len (S.take k)
    have hlt2 : (S.take k).length ≤ k := List.length_take_le _ _
    have hsz := hbr.size
    clear hI1' hbw
    by_cases hlt : k < S.length
    · have hidx : ∀ h, (⟨S.toArray⟩ : ByteArray)[k]'h = S[k] := fun _ => rfl
      cases hm : markB (S[k].toNat : Int)
      · have hnext : Hid (Lib.byteCells (34 :: escL (S.take (k + 1))) = Lib.byteCells (34 :: escL (S.take k)) ++ [.int .u8 (S[k].toNat : Int)]) := by
          show _ = _; rw [cells_snoc, escL_take S k hlt, hm]; simp
        go_wp2_with (first | (go_at_call 232; refine (isMarked_any _ _).mono ?_; rintro e w' ⟨rfl, rfl⟩))
        refine (WriteByte_any w.heap.size w.heap.size _ _ _ hI (by simp [Lib.byteCells]; omega) hsz).mono ?_
        rintro e w2 ⟨rfl, hI2, hb2⟩
        rw [← hnext.out] at hI2
        go_wp2_with fail
        exact ⟨⟨k + 1, by omega, by go_num, Or.inr hI2, hbr.trans hb2⟩, by simp [intOf]; omega⟩
      · have hnext : Hid (Lib.byteCells (34 :: escL (S.take (k + 1))) = (Lib.byteCells (34 :: escL (S.take k)) ++ [.int .u8 92]) ++ [.int .u8 (S[k].toNat : Int)]) := by
          show _ = _
          have e92 : (.int .u8 92 : Value) = .int .u8 ((92 : UInt8).toNat : Int) := rfl
          rw [e92, cells_snoc, cells_snoc, escL_take S k hlt, hm]; simp
        go_wp2_with (first | (go_at_call 232; refine (isMarked_any _ _).mono ?_; rintro e w' ⟨rfl, rfl⟩))
        refine (WriteByte_any w.heap.size w.heap.size _ _ _ hI (by simp [Lib.byteCells]; omega) hsz).mono ?_
        rintro e w2 ⟨rfl, hI2, hb2⟩
        have hbr2 := hbr.trans hb2
        have hsz2 := hbr2.size
        go_wp2_with fail
        refine (WriteByte_any w.heap.size w.heap.size _ _ _ (Or.inr hI2) (by simp [Lib.byteCells]; omega) hsz2).mono ?_
        rintro e w3 ⟨rfl, hI3, hb3⟩
        rw [← hnext.out] at hI3
        go_wp2_with fail
        exact ⟨⟨k + 1, by omega, by go_num, Or.inr hI3, hbr2.trans hb3⟩, by simp [intOf]; omega⟩
    · have hk' : k = S.length := by omega
      subst hk'
      rw [List.take_length] at hI hlen
      go_wp2_with fail
      refine (WriteByte_any w.heap.size w.heap.size _ _ _ hI (by simp [Lib.byteCells]; omega) hsz).mono ?_
      rintro e w2 ⟨rfl, hI2, hb2⟩
      have hbr2 := hbr.trans hb2
      have hsz2 := hbr2.size
      have e34 : (.int .u8 34 : Value) = .int .u8 ((34 : UInt8).toNat : Int) := rfl
      rw [e34, cells_snoc] at hI2
      clear e34
      go_wp2_with fail
      refine (Tryz.Builder_String_any w.heap.size w.heap.size _ _ (Or.inr hI2) hsz2).mono ?_
      rintro e w3 ⟨rfl, hb3⟩
      go_wp2_with fail
      go_ret
      exact ⟨rfl, hbr2.trans hb3⟩

theorem str_app (a b : List UInt8) : ((⟨a.toArray⟩ : ByteArray) ++ (⟨b.toArray⟩ : ByteArray)) = ⟨(a ++ b).toArray⟩ := by
  apply ByteArray.ext
  rw [ByteArray.data_append]
  simp

def markL (L : List UInt8) : List UInt8 := match L with | [] => [] | c :: r => 64 :: c :: r
theorem markL_len (L : List UInt8) : (markL L).length ≤ L.length + 1 := by cases L <;> simp [markL]
theorem quoteL_len (L : List UInt8) : (quoteL L).length ≤ 2 * L.length + 2 := by have := escL_len L; simp [quoteL]; omega

theorem langMark_any (L : List UInt8) (w : World) (hl : L.length ≤ 1000000) :
    Calls Tryz.prog 201 #[.string ⟨L.toArray⟩] w fun e w' => e = .returned (.string ⟨(markL L).toArray⟩) ∧ w' = w := by
  cases L with
  | nil =>
    go_enter Tryz.func201, Tryz.ntmps201
    go_wp2
    go_ret
    exact ⟨rfl, rfl⟩
  | cons c r =>
    simp only [List.length_cons] at hl
    go_enter Tryz.func201, Tryz.ntmps201
    go_wp2
    go_ret
    exact ⟨ret_val (congrArg Value.string (str_app [64] (c :: r))), rfl⟩
end Go.Proofs.YtpgcbhhkmjknkaaGreat

/- Print: a term as text. -/
namespace Go.Proofs.YtpgcbhhkmjknkaaGreat
open Go Go.RowKit Go.Proofs

/-- the text of a right term -/
def showL (k : Int) (S L : List UInt8) : List UInt8 := if k = 2 then 95 :: S else if k = 3 then quoteL S ++ markL L else S
def printL (k : Int) (S L : List UInt8) : List UInt8 := if checkN k S L = 0 then showL k S L else []

theorem str_app2 (c : UInt8) (b : List UInt8) : ((⟨#[c]⟩ : ByteArray) ++ (⟨b.toArray⟩ : ByteArray)) = ⟨(c :: b).toArray⟩ := str_app [c] b

theorem Print_bad (k : Int) (S L : List UInt8) (w : World) (hs : S.length ≤ maxLen) (hl : L.length ≤ maxLen) (h : checkN k S L ≠ 0) :
    Calls Tryz.prog 181 #[.agg #[.int .i64 k, .string ⟨S.toArray⟩, .string ⟨L.toArray⟩]] w fun e w' => e = .returned (.tuple #[.string ⟨#[]⟩, errV (checkN k S L)]) ∧ Below w.heap.size w w' := by
  have he : errV (checkN k S L) = .iface 89 (.int .i64 (checkN k S L)) := by simp [errV, h]
  rw [he]
  have He : Hid (errV (checkN k S L) = .iface 89 (.int .i64 (checkN k S L))) := he
  clear he
  go_enter Tryz.func181, Tryz.ntmps181
  go_wp2_with fail
  refine (Check_any k S L _ hs hl).mono ?_
  rintro e w1 ⟨rfl, hb1⟩
  rw [He.out]
  go_wp2_with fail
  go_ret2
  exact ⟨rfl, bstep (balloc _ _) hb1⟩

set_option maxHeartbeats 2000000 in
theorem Print_text (S L : List UInt8) (w : World) (hS : S.length ≤ 24) (hL : L.length ≤ 2) (He : Hid (errV (checkN 3 S L) = .nilIface)) :
    Calls Tryz.prog 181 #[.agg #[.int .i64 3, .string ⟨S.toArray⟩, .string ⟨L.toArray⟩]] w fun e w' => e = .returned (.tuple #[.string ⟨(showL 3 S L).toArray⟩, .nilIface]) ∧ Below w.heap.size w w' := by
  have hs : S.length ≤ maxLen := by unfold maxLen; omega
  have hl : L.length ≤ maxLen := by unfold maxLen; omega
  have fin : Hid (showL 3 S L = quoteL S ++ markL L) := rfl
  go_enter Tryz.func181, Tryz.ntmps181
  go_wp2_with fail
  refine (Check_any 3 S L _ hs hl).mono ?_
  rintro e w1 ⟨rfl, hb1⟩
  obtain ⟨hc1, hf1⟩ := bcell hb1
  have hz : w.heap.size < w1.heap.size := by have := hb1.size; simp at this; omega
  rw [He.out]
  go_wp2_with fail
  have hcS : w1.cell? ⟨w.heap.size, 1, none⟩ = some (.string ⟨S.toArray⟩) := by rw [hc1 _ _ (by simp)]; simp
  have hcL : w1.cell? ⟨w.heap.size, 2, none⟩ = some (.string ⟨L.toArray⟩) := by rw [hc1 _ _ (by simp)]; simp
  clear hc1 hf1
  have hq := quoteL_len S
  have hm := markL_len L
  go_region_with (first
    | (go_at_call 200; refine (quote_any S _ (by omega)).mono ?_; rintro e w2 ⟨rfl, hb2⟩
       have hcS2 : w2.cell? ⟨w.heap.size, 1, none⟩ = some (.string ⟨S.toArray⟩) := (hb2.cell (p := ⟨w.heap.size, 1, none⟩) hz).trans hcS
       have hcL2 : w2.cell? ⟨w.heap.size, 2, none⟩ = some (.string ⟨L.toArray⟩) := (hb2.cell (p := ⟨w.heap.size, 2, none⟩) hz).trans hcL)
    | (go_at_call 201; refine (langMark_any L _ (by omega)).mono ?_; rintro e w3 ⟨rfl, rfl⟩))
  all_goals
    go_wp2
    go_ret2
    exact ⟨ret_two (by rw [fin.out, ← str_app]; rfl) rfl, bstep (bstep (balloc _ _) hb1) (bdrew hb2)⟩

theorem Print_good (k : Int) (S L : List UInt8) (w : World) (h : checkN k S L = 0) :
    Calls Tryz.prog 181 #[.agg #[.int .i64 k, .string ⟨S.toArray⟩, .string ⟨L.toArray⟩]] w fun e w' => e = .returned (.tuple #[.string ⟨(showL k S L).toArray⟩, .nilIface]) ∧ Below w.heap.size w w' := by
  obtain ⟨hk, hS, hsp⟩ := check_zero h
  have hL := spell_lang hsp
  have hs : S.length ≤ maxLen := by unfold maxLen; omega
  have hl : L.length ≤ maxLen := by unfold maxLen; omega
  have He : Hid (errV (checkN k S L) = .nilIface) := by show _ = _; rw [h]; rfl
  clear h hsp
  rcases hk with rfl | rfl | rfl
  · have fin : Hid (showL 1 S L = S) := rfl
    go_enter Tryz.func181, Tryz.ntmps181
    go_wp2_with fail
    refine (Check_any 1 S L _ hs hl).mono ?_
    rintro e w1 ⟨rfl, hb1⟩
    obtain ⟨hc1, hf1⟩ := bcell hb1
    rw [He.out]
    go_wp2_with fail
    refine (Clone_any S _ (by omega)).mono ?_
    rintro e w2 ⟨rfl, hb2⟩
    go_wp2_with fail
    go_ret2
    exact ⟨ret_two (by rw [fin.out]; rfl) rfl, bstep (bstep (balloc _ _) hb1) hb2⟩
  · have fin : Hid (showL 2 S L = 95 :: S) := rfl
    go_enter Tryz.func181, Tryz.ntmps181
    go_wp2_with fail
    refine (Check_any 2 S L _ hs hl).mono ?_
    rintro e w1 ⟨rfl, hb1⟩
    obtain ⟨hc1, hf1⟩ := bcell hb1
    rw [He.out]
    go_wp2_with fail
    go_ret2
    exact ⟨ret_two (by rw [fin.out, ← str_app2 95 S]; rfl) rfl, bstep (balloc _ _) hb1⟩
  · exact Print_text S L w hS hL He

theorem Print_any (k : Int) (S L : List UInt8) (w : World) (hs : S.length ≤ maxLen) (hl : L.length ≤ maxLen) :
    Calls Tryz.prog 181 #[.agg #[.int .i64 k, .string ⟨S.toArray⟩, .string ⟨L.toArray⟩]] w fun e w' => e = .returned (.tuple #[.string ⟨(printL k S L).toArray⟩, errV (checkN k S L)]) ∧ Below w.heap.size w w' := by
  by_cases h : checkN k S L = 0
  · refine (Print_good k S L w h).mono ?_
    rintro e w' ⟨rfl, hb⟩
    exact ⟨by rw [show printL k S L = showL k S L from if_pos h, h]; rfl, hb⟩
  · refine (Print_bad k S L w hs hl h).mono ?_
    rintro e w' ⟨rfl, hb⟩
    exact ⟨by rw [show printL k S L = [] from if_neg h], hb⟩
end Go.Proofs.YtpgcbhhkmjknkaaGreat

/- unquote: up to the quote that ends a text. -/
namespace Go.Proofs.YtpgcbhhkmjknkaaGreat
open Go Go.RowKit Go.Proofs

def unqL : List UInt8 → Option (List UInt8 × List UInt8)
  | [] => none
  | c :: r =>
    if c = 34 then some ([], r)
    else if c = 92 then
      match r with
      | [] => none
      | d :: r' => if markB (d.toNat : Int) then (unqL r').map (fun p => (d :: p.1, p.2)) else none
    else (unqL r).map (fun p => (c :: p.1, p.2))

theorem unqL_cons (c : UInt8) (r : List UInt8) : unqL (c :: r) = if c = 34 then some ([], r) else if c = 92 then (match r with | [] => none | d :: r' => if markB (d.toNat : Int) then (unqL r').map (fun p => (d :: p.1, p.2)) else none) else (unqL r).map (fun p => (c :: p.1, p.2)) := by
  cases r <;> rfl

def unqV (o : Option (List UInt8 × List UInt8)) : Value := match o with
  | none => .tuple #[.string ⟨#[]⟩, .string ⟨#[]⟩, .bool false]
  | some p => .tuple #[.string ⟨p.1.toArray⟩, .string ⟨p.2.toArray⟩, .bool true]

/-- what is read so far, and what is left to read -/
def unqAt (l : List UInt8) (k : Nat) (acc : List UInt8) : Prop := unqL l = (unqL (l.drop k)).map (fun p => (acc ++ p.1, p.2))

theorem unqAt_zero (l : List UInt8) : unqAt l 0 [] := by
  unfold unqAt; simp

theorem drop_at (l : List UInt8) (k : Nat) (h : k < l.length) : l.drop k = l[k] :: l.drop (k + 1) := List.drop_eq_getElem_cons h

theorem unqAt_end (l : List UInt8) (k : Nat) (acc : List UInt8) (h : unqAt l k acc) (hk : l.length ≤ k) : unqL l = none := by
  unfold unqAt at h
  rw [h, List.drop_eq_nil_of_le hk]; rfl

theorem unqAt_quote (l : List UInt8) (k : Nat) (acc : List UInt8) (h : unqAt l k acc) (hk : k < l.length) (hq : l[k] = 34) : unqL l = some (acc, l.drop (k + 1)) := by
  unfold unqAt at h
  rw [h, drop_at l k hk, hq, unqL_cons]; simp

theorem unqAt_plain (l : List UInt8) (k : Nat) (acc : List UInt8) (h : unqAt l k acc) (hk : k < l.length) (hq : l[k] ≠ 34) (hm : l[k] ≠ 92) : unqAt l (k + 1) (acc ++ [l[k]]) := by
  unfold unqAt at h ⊢
  rw [h, drop_at l k hk, unqL_cons, if_neg hq, if_neg hm, Option.map_map]
  congr 1
  funext p
  simp

theorem unqAt_cut (l : List UInt8) (k : Nat) (acc : List UInt8) (h : unqAt l k acc) (hk : k < l.length) (hm : l[k] = 92) (he : k + 1 = l.length) : unqL l = none := by
  unfold unqAt at h
  rw [h, drop_at l k hk, hm, List.drop_eq_nil_of_le (by omega), unqL_cons]; rfl

theorem unqAt_bad (l : List UInt8) (k : Nat) (acc : List UInt8) (h : unqAt l k acc) (hk : k + 1 < l.length) (hm : l[k] = 92) (hb : markB (l[k + 1].toNat : Int) = false) : unqL l = none := by
  unfold unqAt at h
  rw [h, drop_at l k (by omega), hm, drop_at l (k + 1) hk, unqL_cons, if_neg (by decide), if_pos rfl]; simp [hb]

theorem unqAt_mark (l : List UInt8) (k : Nat) (acc : List UInt8) (h : unqAt l k acc) (hk : k + 1 < l.length) (hm : l[k] = 92) (hb : markB (l[k + 1].toNat : Int) = true) : unqAt l (k + 2) (acc ++ [l[k + 1]]) := by
  unfold unqAt at h ⊢
  rw [h, drop_at l k (by omega), hm, drop_at l (k + 1) hk, unqL_cons, if_neg (by decide), if_pos rfl]
  simp only [hb, if_true, Option.map_map]
  congr 1
  funext p
  simp

theorem drop_extract (l : List UInt8) (k : Nat) : (⟨l.toArray⟩ : ByteArray).extract k l.length = ⟨(l.drop k).toArray⟩ := by
  apply ByteArray.ext
  rw [ByteArray.data_extract]
  simp
  exact List.take_of_length_le (by simp)

theorem bdrewB {B : Nat} {w w1 : World} (h : Below B w.drew w1) : Below B w w1 := ⟨h.os, h.tape, h.output, h.size, h.block⟩

theorem byte_eq (c d : UInt8) : ((c.toNat : Int) == (d.toNat : Int)) = (c == d) := by
  rw [Bool.eq_iff_iff]; simp [UInt8.toNat_inj, Int.natCast_inj]

set_option maxHeartbeats 2000000 in
set_option maxRecDepth 100000 in
theorem unquote_any (l : List UInt8) (w : World) (hl : l.length ≤ 140737488355328) :
    Calls Tryz.prog 254 #[.string ⟨l.toArray⟩] w fun e w' => e = .returned (unqV (unqL l)) ∧ Below w.heap.size w w' := by
  have hB0 := Lib.fresh_isBuilder 166 5 w
  go_enter Tryz.func254, Tryz.ntmps254
  go_wp2_with fail
  go_loopw [6] (fun i wr => ∃ (k : Nat) (acc : List UInt8), k ≤ l.length ∧ acc.length ≤ k ∧ i = .int .i64 k ∧ Hid (unqAt l k acc) ∧ Lib.IsBuilder 166 5 w.heap.size w.heap.size (Lib.byteCells acc) wr ∧ Below w.heap.size w wr) (fun i wr => l.length - (intOf i).toNat)
  case atStart => exact ⟨0, [], Nat.zero_le _, Nat.zero_le _, rfl, unqAt_zero l, hB0, balloc _ _⟩
  case round =>
    obtain ⟨k, acc, hk, hacc, rfl, hat, hI, hbr⟩ := hrel
    have hsz := hbr.size
    clear hB0
    by_cases hlt : k < l.length
    · have hidx : ∀ h, (⟨l.toArray⟩ : ByteArray)[k]'h = l[k] := fun _ => rfl
      by_cases hq : l[k] = 34
      · have fin : Hid (unqV (unqL l) = .tuple #[.string ⟨acc.toArray⟩, .string ⟨(l.drop (k + 1)).toArray⟩, .bool true]) := by
          show _ = _; rw [unqAt_quote l k acc hat.out hlt hq]; rfl
        have hq' : ((l[k].toNat : Int) == 34) = true := by rw [hq]; rfl
        clear hq
        go_wp2_with fail
        have hwr : IntKind.i64.wrap ((k : Int) + 1) = (k : Int) + 1 := by rw [IntKind.wrap_i64]; omega
        have hb1 : (k : Int) + 1 ≤ (l.length : Int) := by omega
        go_region_with (first
          | (go_at_call 95; refine (Tryz.Builder_String_any w.heap.size w.heap.size acc wr.drew hI hsz).mono ?_; rintro e w2 ⟨rfl, hb2⟩))
        all_goals
          go_wp2
          go_ret3
          exact ⟨ret_val (by rw [fin.out, ← drop_extract]; rfl), hbr.trans (bdrewB hb2)⟩
      · have hq' : ((l[k].toNat : Int) == 34) = false := by
          have := byte_eq l[k] 34
          rw [show ((34 : UInt8).toNat : Int) = 34 from rfl] at this
          rw [this]; simpa using hq
        by_cases hm : l[k] = 92
        · have hm' : ((l[k].toNat : Int) == 92) = true := by rw [hm]; rfl
          by_cases he : k + 1 = l.length
          · have fin : Hid (unqV (unqL l) = .tuple #[.string ⟨#[]⟩, .string ⟨#[]⟩, .bool false]) := by
              show _ = _; rw [unqAt_cut l k acc hat.out hlt hm he]; rfl
            have he' : (((k : Int) + 1) == (l.length : Int)) = true := by rw [beq_iff_eq]; omega
            clear hq hm he
            go_wp2
            go_ret3
            exact ⟨ret_val fin.out.symm, hbr⟩
          · have he' : (((k : Int) + 1) == (l.length : Int)) = false := by rw [beq_eq_false_iff_ne]; omega
            have hlt1 : k + 1 < l.length := by omega
            have hidx1 : ∀ h, (⟨l.toArray⟩ : ByteArray)[k + 1]'h = l[k + 1] := fun _ => rfl
            cases hb : markB (l[k + 1].toNat : Int)
            · have fin : Hid (unqV (unqL l) = .tuple #[.string ⟨#[]⟩, .string ⟨#[]⟩, .bool false]) := by
                show _ = _; rw [unqAt_bad l k acc hat.out hlt1 hm hb]; rfl
              clear hq hm he
              go_wp2_with (first | (go_at_call 232; refine (isMarked_any _ _).mono ?_; rintro e w' ⟨rfl, rfl⟩))
              go_ret3
              exact ⟨ret_val fin.out.symm, hbr⟩
            · have hnext : Hid (unqAt l (k + 2) (acc ++ [l[k + 1]])) := unqAt_mark l k acc hat.out hlt1 hm hb
              clear hq hm he
              go_wp2_with (first | (go_at_call 232; refine (isMarked_any _ _).mono ?_; rintro e w' ⟨rfl, rfl⟩))
              refine (WriteByte_any w.heap.size w.heap.size _ _ _ hI (by simp [Lib.byteCells]; omega) hsz).mono ?_
              rintro e w2 ⟨rfl, hI2, hb2⟩
              rw [cells_snoc] at hI2
              go_wp2_with fail
              exact ⟨⟨k + 2, _, by omega, by simp; omega, by go_num, hnext, Or.inr hI2, hbr.trans hb2⟩, by simp [intOf]; omega⟩
        · have hm' : ((l[k].toNat : Int) == 92) = false := by
            have := byte_eq l[k] 92
            rw [show ((92 : UInt8).toNat : Int) = 92 from rfl] at this
            rw [this]; simpa using hm
          have hnext : Hid (unqAt l (k + 1) (acc ++ [l[k]])) := unqAt_plain l k acc hat.out hlt hq hm
          clear hq hm
          go_wp2_with fail
          refine (WriteByte_any w.heap.size w.heap.size _ _ _ hI (by simp [Lib.byteCells]; omega) hsz).mono ?_
          rintro e w2 ⟨rfl, hI2, hb2⟩
          rw [cells_snoc] at hI2
          go_wp2_with fail
          exact ⟨⟨k + 1, _, by omega, by simp; omega, by go_num, hnext, Or.inr hI2, hbr.trans hb2⟩, by simp [intOf]; omega⟩
    · have fin : Hid (unqV (unqL l) = .tuple #[.string ⟨#[]⟩, .string ⟨#[]⟩, .bool false]) := by
        show _ = _; rw [unqAt_end l k acc hat.out (by omega)]; rfl
      go_wp2
      go_ret3
      exact ⟨ret_val fin.out.symm, hbr⟩
end Go.Proofs.YtpgcbhhkmjknkaaGreat

/- readLang, readText, read: a text cut into the parts of a term. -/
namespace Go.Proofs.YtpgcbhhkmjknkaaGreat
open Go Go.RowKit Go.Proofs

theorem cut_yes (c : UInt8) (r : List UInt8) (w : World) :
    Calls Tryz.prog 145 #[.string ⟨(c :: r).toArray⟩, .string ⟨#[c]⟩] w fun e w' => e = .returned (.tuple #[.string ⟨r.toArray⟩, .bool true]) ∧ w' = w := by
  refine (Tryz.strings_CutPrefix ⟨(c :: r).toArray⟩ ⟨#[c]⟩ w).mono ?_
  rintro e w' ⟨rfl, rfl⟩
  have h : Lib.hasPrefix (c :: r) [c] = true := by simp [Lib.hasPrefix]
  have h2 : Lib.trimPrefix (c :: r) [c] = r := by simp [Lib.trimPrefix, h]
  exact ⟨ret_two (by show Value.string ⟨(Lib.trimPrefix (c :: r) [c]).toArray⟩ = _; rw [h2]) (by show Value.bool (Lib.hasPrefix (c :: r) [c]) = _; rw [h]), rfl⟩

theorem cut_no (c d : UInt8) (r : List UInt8) (w : World) (hne : d ≠ c) :
    Calls Tryz.prog 145 #[.string ⟨(d :: r).toArray⟩, .string ⟨#[c]⟩] w fun e w' => e = .returned (.tuple #[.string ⟨(d :: r).toArray⟩, .bool false]) ∧ w' = w := by
  refine (Tryz.strings_CutPrefix ⟨(d :: r).toArray⟩ ⟨#[c]⟩ w).mono ?_
  rintro e w' ⟨rfl, rfl⟩
  have h : Lib.hasPrefix (d :: r) [c] = false := by show ((c == d) && _) = false; simp [Ne.symm hne]
  have h2 : Lib.trimPrefix (d :: r) [c] = d :: r := by simp [Lib.trimPrefix, h]
  exact ⟨ret_two (by show Value.string ⟨(Lib.trimPrefix (d :: r) [c]).toArray⟩ = _; rw [h2]) (by show Value.bool (Lib.hasPrefix (d :: r) [c]) = _; rw [h]), rfl⟩

theorem cut_nil (c : UInt8) (w : World) :
    Calls Tryz.prog 145 #[.string ⟨#[]⟩, .string ⟨#[c]⟩] w fun e w' => e = .returned (.tuple #[.string ⟨#[]⟩, .bool false]) ∧ w' = w := by
  refine (Tryz.strings_CutPrefix ⟨#[]⟩ ⟨#[c]⟩ w).mono ?_
  rintro e w' ⟨rfl, rfl⟩
  exact ⟨ret_two rfl rfl, rfl⟩

def langR (l : List UInt8) : Option (List UInt8) := match l with
  | [] => some []
  | c :: r => if c = 64 then (if langOk r then some r else none) else none
def langV (o : Option (List UInt8)) : Value := match o with
  | none => .tuple #[.string ⟨#[]⟩, .bool false]
  | some l => .tuple #[.string ⟨l.toArray⟩, .bool true]

theorem readLang_any (l : List UInt8) (w : World) (hl : l.length ≤ 140737488355328) :
    Calls Tryz.prog 255 #[.string ⟨l.toArray⟩] w fun e w' => e = .returned (langV (langR l)) ∧ Below w.heap.size w w' := by
  cases l with
  | nil =>
    go_enter Tryz.func255, Tryz.ntmps255
    go_wp2
    go_ret2
    exact ⟨rfl, Below.refl _ _⟩
  | cons c r =>
    simp only [List.length_cons] at hl
    by_cases hc : c = 64
    · subst hc
      have hr : r.length ≤ maxLen := by unfold maxLen; omega
      cases hk : langOk r
      · have fin : Hid (langV (langR (64 :: r)) = .tuple #[.string ⟨#[]⟩, .bool false]) := by
          show _ = _; simp [langR, hk, langV]
        go_enter Tryz.func255, Tryz.ntmps255
        go_wp2_with (first
          | (go_at_call 145; refine (cut_yes 64 r _).mono ?_; rintro e w' ⟨rfl, rfl⟩)
          | (go_at_call 118; refine (isLang_any r _ hr).mono ?_; rintro e w' ⟨rfl, rfl⟩))
        go_ret2
        exact ⟨ret_val fin.out.symm, Below.refl _ _⟩
      · have fin : Hid (langV (langR (64 :: r)) = .tuple #[.string ⟨r.toArray⟩, .bool true]) := by
          show _ = _; simp [langR, hk, langV]
        go_enter Tryz.func255, Tryz.ntmps255
        go_wp2_with (first
          | (go_at_call 145; refine (cut_yes 64 r _).mono ?_; rintro e w' ⟨rfl, rfl⟩)
          | (go_at_call 118; refine (isLang_any r _ hr).mono ?_; rintro e w' ⟨rfl, rfl⟩)
          | (go_at_call 86; refine (Clone_any r _ (by omega)).mono ?_; rintro e w' ⟨rfl, hb⟩))
        go_ret2
        exact ⟨ret_val fin.out.symm, hb⟩
    · have fin : Hid (langV (langR (c :: r)) = .tuple #[.string ⟨#[]⟩, .bool false]) := by
        show _ = _; simp [langR, hc, langV]
      go_enter Tryz.func255, Tryz.ntmps255
      go_wp2_with (first
        | (go_at_call 145; refine (cut_no 64 c r _ hc).mono ?_; rintro e w' ⟨rfl, rfl⟩))
      go_ret2
      exact ⟨ret_val fin.out.symm, Below.refl _ _⟩

/-- how long the parts are that are read -/
theorem unqL_len (n : Nat) : ∀ (l s b : List UInt8), l.length ≤ n → unqL l = some (s, b) → s.length + b.length < l.length := by
  induction n with
  | zero => intro l s b hl h; cases l with
    | nil => simp [unqL] at h
    | cons => simp at hl
  | succ n ih =>
    intro l s b hl h
    cases l with
    | nil => simp [unqL] at h
    | cons c r =>
      rw [unqL_cons] at h
      simp only [List.length_cons] at hl ⊢
      by_cases hc : c = 34
      · simp [hc] at h; obtain ⟨rfl, rfl⟩ := h; simp
      · rw [if_neg hc] at h
        by_cases hm : c = 92
        · rw [if_pos hm] at h
          cases r with
          | nil => simp at h
          | cons d r' =>
            simp only at h
            cases hb : markB (d.toNat : Int)
            · simp [hb] at h
            · simp only [hb, if_true, Option.map_eq_some_iff] at h
              obtain ⟨⟨s', b'⟩, h1, h2⟩ := h
              simp only [Prod.mk.injEq] at h2
              obtain ⟨rfl, rfl⟩ := h2
              have := ih r' s' b' (by simp at hl; omega) h1
              simp; omega
        · rw [if_neg hm, Option.map_eq_some_iff] at h
          obtain ⟨⟨s', b'⟩, h1, h2⟩ := h
          simp only [Prod.mk.injEq] at h2
          obtain ⟨rfl, rfl⟩ := h2
          have := ih r s' b' (by omega) h1
          simp; omega

theorem bset3 {w w1 : World} (h : Below w.heap.size w w1) (a b c : Value) : Below w.heap.size w (((w1.setCell ⟨w.heap.size, 0, none⟩ a).setCell ⟨w.heap.size, 1, none⟩ b).setCell ⟨w.heap.size, 2, none⟩ c) :=
  ((h.setCell (p := ⟨w.heap.size, 0, none⟩) (Nat.le_refl _) a).setCell (p := ⟨w.heap.size, 1, none⟩) (Nat.le_refl _) b).setCell (p := ⟨w.heap.size, 2, none⟩) (Nat.le_refl _) c

def readTextL (l : List UInt8) : Option (List UInt8 × List UInt8) := match unqL l with
  | none => none
  | some p => match langR p.2 with
    | none => none
    | some L => some (p.1, L)
def textV (o : Option (List UInt8 × List UInt8)) : Value := match o with
  | none => .tuple #[.agg #[.int .i64 0, .string ⟨#[]⟩, .string ⟨#[]⟩], .bool false]
  | some p => .tuple #[.agg #[.int .i64 3, .string ⟨p.1.toArray⟩, .string ⟨p.2.toArray⟩], .bool true]

set_option maxHeartbeats 1000000 in
theorem readText_any (l : List UInt8) (w : World) (hl : l.length ≤ 140737488355328) :
    Calls Tryz.prog 253 #[.string ⟨l.toArray⟩] w fun e w' => e = .returned (textV (readTextL l)) ∧ Below w.heap.size w w' := by
  cases hu : unqL l with
  | none =>
    have fin : Hid (textV (readTextL l) = .tuple #[.agg #[.int .i64 0, .string ⟨#[]⟩, .string ⟨#[]⟩], .bool false]) := by
      show _ = _; simp [readTextL, hu, textV]
    have Hu : Hid (unqL l = none) := hu
    clear hu
    go_enter Tryz.func253, Tryz.ntmps253
    go_wp2_with fail
    refine (unquote_any l _ hl).mono ?_
    rintro e w1 ⟨rfl, hb1⟩
    rw [Hu.out]
    obtain ⟨hc1, hf1⟩ := bcell hb1
    simp only [unqV]
    go_wp2_with fail
    refine bodyPost_ret (v := .tuple #[.agg #[.int .i64 0, .string ⟨#[]⟩, .string ⟨#[]⟩], .bool false]) (by simp [results, Tryz.results253, go_sem, hc1]) rfl ⟨ret_val fin.out.symm, bset3 (bstep (balloc _ _) hb1) _ _ _⟩
  | some p =>
    have hlen := unqL_len l.length l p.1 p.2 (Nat.le_refl _) hu
    cases hr : langR p.2 with
    | none =>
      have fin : Hid (textV (readTextL l) = .tuple #[.agg #[.int .i64 0, .string ⟨#[]⟩, .string ⟨#[]⟩], .bool false]) := by
        show _ = _; simp [readTextL, hu, hr, textV]
      have Hu : Hid (unqL l = some p) := hu
      have Hr : Hid (langR p.2 = none) := hr
      clear hu hr
      go_enter Tryz.func253, Tryz.ntmps253
      go_wp2_with fail
      refine (unquote_any l _ hl).mono ?_
      rintro e w1 ⟨rfl, hb1⟩
      rw [Hu.out]
      simp only [unqV]
      go_wp2_with fail
      refine (readLang_any p.2 _ (by omega)).mono ?_
      rintro e w2 ⟨rfl, hb2⟩
      rw [Hr.out]
      simp only [langV]
      have hb12 := bstep hb1 hb2
      obtain ⟨hc1, hf1⟩ := bcell hb12
      clear hb1 hb2
      go_wp2_with fail
      refine bodyPost_ret (v := .tuple #[.agg #[.int .i64 0, .string ⟨#[]⟩, .string ⟨#[]⟩], .bool false]) (by simp [results, Tryz.results253, go_sem, hc1]) rfl ⟨ret_val fin.out.symm, bset3 (bstep (balloc _ _) hb12) _ _ _⟩
    | some L =>
      have fin : Hid (textV (readTextL l) = .tuple #[.agg #[.int .i64 3, .string ⟨p.1.toArray⟩, .string ⟨L.toArray⟩], .bool true]) := by
        show _ = _; simp [readTextL, hu, hr, textV]
      have Hu : Hid (unqL l = some p) := hu
      have Hr : Hid (langR p.2 = some L) := hr
      clear hu hr
      go_enter Tryz.func253, Tryz.ntmps253
      go_wp2_with fail
      refine (unquote_any l _ hl).mono ?_
      rintro e w1 ⟨rfl, hb1⟩
      rw [Hu.out]
      simp only [unqV]
      go_wp2_with fail
      refine (readLang_any p.2 _ (by omega)).mono ?_
      rintro e w2 ⟨rfl, hb2⟩
      rw [Hr.out]
      simp only [langV]
      have hb12 := bstep hb1 hb2
      obtain ⟨hc1, hf1⟩ := bcell hb12
      clear hb1 hb2
      go_wp2_with fail
      exact bodyPost_ret (v := .tuple #[.agg #[.int .i64 3, .string ⟨p.1.toArray⟩, .string ⟨L.toArray⟩], .bool true]) (by simp [results, Tryz.results253, go_sem, hc1]) rfl ⟨ret_val fin.out.symm, bset3 (bstep (balloc _ _) hb12) _ _ _⟩

/-- the parts of a term: its Kind, S and Lang -/
def readL (l : List UInt8) : Option (Int × List UInt8 × List UInt8) := match l with
  | [] => some (1, [], [])
  | c :: r => if c = 95 then some (2, r, []) else if c = 34 then (readTextL r).map (fun p => (3, p.1, p.2)) else some (1, c :: r, [])
def readV (o : Option (Int × List UInt8 × List UInt8)) : Value := match o with
  | none => .tuple #[.agg #[.int .i64 0, .string ⟨#[]⟩, .string ⟨#[]⟩], .bool false]
  | some p => .tuple #[.agg #[.int .i64 p.1, .string ⟨p.2.1.toArray⟩, .string ⟨p.2.2.toArray⟩], .bool true]

theorem read_nil (w : World) :
    Calls Tryz.prog 247 #[.string ⟨#[]⟩] w fun e w' => e = .returned (.tuple #[.agg #[.int .i64 1, .string ⟨#[]⟩, .string ⟨#[]⟩], .bool true]) ∧ Below w.heap.size w w' := by
  go_enter Tryz.func247, Tryz.ntmps247
  go_wp2_with fail
  refine (cut_nil 95 _).mono ?_
  rintro e w1 ⟨rfl, rfl⟩
  go_wp2_with fail
  refine (cut_nil 34 _).mono ?_
  rintro e w1 ⟨rfl, rfl⟩
  go_wp2_with fail
  refine (Clone_any [] _ (by simp)).mono ?_
  rintro e w1 ⟨rfl, hb1⟩
  obtain ⟨hc1, hf1⟩ := bcell hb1
  go_wp2_with fail
  exact bodyPost_ret (v := .tuple #[.agg #[.int .i64 1, .string ⟨#[]⟩, .string ⟨#[]⟩], .bool true]) (by simp [results, Tryz.results247, go_sem, hc1]) rfl ⟨rfl, bset3 (bstep (balloc _ _) hb1) _ _ _⟩

theorem read_anon (r : List UInt8) (w : World) (hl : r.length ≤ 140737488355328) :
    Calls Tryz.prog 247 #[.string ⟨(95 :: r).toArray⟩] w fun e w' => e = .returned (.tuple #[.agg #[.int .i64 2, .string ⟨r.toArray⟩, .string ⟨#[]⟩], .bool true]) ∧ Below w.heap.size w w' := by
  go_enter Tryz.func247, Tryz.ntmps247
  go_wp2_with fail
  refine (cut_yes 95 r _).mono ?_
  rintro e w1 ⟨rfl, rfl⟩
  go_wp2_with fail
  refine (Clone_any r _ (by omega)).mono ?_
  rintro e w1 ⟨rfl, hb1⟩
  obtain ⟨hc1, hf1⟩ := bcell hb1
  go_wp2_with fail
  exact bodyPost_ret (v := .tuple #[.agg #[.int .i64 2, .string ⟨r.toArray⟩, .string ⟨#[]⟩], .bool true]) (by simp [results, Tryz.results247, go_sem, hc1]) rfl ⟨rfl, bset3 (bstep (balloc _ _) hb1) _ _ _⟩

theorem read_name (c : UInt8) (r : List UInt8) (w : World) (hl : r.length ≤ 140737488355328) (h1 : c ≠ 95) (h2 : c ≠ 34) :
    Calls Tryz.prog 247 #[.string ⟨(c :: r).toArray⟩] w fun e w' => e = .returned (.tuple #[.agg #[.int .i64 1, .string ⟨(c :: r).toArray⟩, .string ⟨#[]⟩], .bool true]) ∧ Below w.heap.size w w' := by
  go_enter Tryz.func247, Tryz.ntmps247
  go_wp2_with fail
  refine (cut_no 95 c r _ h1).mono ?_
  rintro e w1 ⟨rfl, rfl⟩
  go_wp2_with fail
  refine (cut_no 34 c r _ h2).mono ?_
  rintro e w1 ⟨rfl, rfl⟩
  go_wp2_with fail
  refine (Clone_any (c :: r) _ (by simp; omega)).mono ?_
  rintro e w1 ⟨rfl, hb1⟩
  obtain ⟨hc1, hf1⟩ := bcell hb1
  go_wp2_with fail
  exact bodyPost_ret (v := .tuple #[.agg #[.int .i64 1, .string ⟨(c :: r).toArray⟩, .string ⟨#[]⟩], .bool true]) (by simp [results, Tryz.results247, go_sem, hc1]) rfl ⟨rfl, bset3 (bstep (balloc _ _) hb1) _ _ _⟩

theorem read_text (r : List UInt8) (w : World) (hl : r.length ≤ 140737488355328) :
    Calls Tryz.prog 247 #[.string ⟨(34 :: r).toArray⟩] w fun e w' => e = .returned (textV (readTextL r)) ∧ Below w.heap.size w w' := by
  cases hr : readTextL r with
  | none =>
    have Hr : Hid (readTextL r = none) := hr
    clear hr
    go_enter Tryz.func247, Tryz.ntmps247
    go_wp2_with fail
    refine (cut_no 95 34 r _ (by decide)).mono ?_
    rintro e w1 ⟨rfl, rfl⟩
    go_wp2_with fail
    refine (cut_yes 34 r _).mono ?_
    rintro e w1 ⟨rfl, rfl⟩
    go_wp2_with fail
    refine (readText_any r _ hl).mono ?_
    rintro e w1 ⟨rfl, hb1⟩
    rw [Hr.out]
    simp only [textV]
    obtain ⟨hc1, hf1⟩ := bcell hb1
    go_wp2_with fail
    exact bodyPost_ret (v := .tuple #[.agg #[.int .i64 0, .string ⟨#[]⟩, .string ⟨#[]⟩], .bool false]) (by simp [results, Tryz.results247, go_sem, hc1]) rfl ⟨rfl, bset3 (bstep (balloc _ _) hb1) _ _ _⟩
  | some p =>
    have Hr : Hid (readTextL r = some p) := hr
    clear hr
    go_enter Tryz.func247, Tryz.ntmps247
    go_wp2_with fail
    refine (cut_no 95 34 r _ (by decide)).mono ?_
    rintro e w1 ⟨rfl, rfl⟩
    go_wp2_with fail
    refine (cut_yes 34 r _).mono ?_
    rintro e w1 ⟨rfl, rfl⟩
    go_wp2_with fail
    refine (readText_any r _ hl).mono ?_
    rintro e w1 ⟨rfl, hb1⟩
    rw [Hr.out]
    simp only [textV]
    obtain ⟨hc1, hf1⟩ := bcell hb1
    go_wp2_with fail
    exact bodyPost_ret (v := .tuple #[.agg #[.int .i64 3, .string ⟨p.1.toArray⟩, .string ⟨p.2.toArray⟩], .bool true]) (by simp [results, Tryz.results247, go_sem, hc1]) rfl ⟨rfl, bset3 (bstep (balloc _ _) hb1) _ _ _⟩

theorem read_any (l : List UInt8) (w : World) (hl : l.length ≤ 140737488355328) :
    Calls Tryz.prog 247 #[.string ⟨l.toArray⟩] w fun e w' => e = .returned (readV (readL l)) ∧ Below w.heap.size w w' := by
  cases l with
  | nil => exact read_nil w
  | cons c r =>
    simp only [List.length_cons] at hl
    by_cases h1 : c = 95
    · subst h1; exact read_anon r w (by omega)
    · by_cases h2 : c = 34
      · subst h2
        refine (read_text r w (by omega)).mono ?_
        rintro e w' ⟨rfl, hb⟩
        refine ⟨ret_val ?_, hb⟩
        have e1 : readL (34 :: r) = (readTextL r).map (fun p => (3, p.1, p.2)) := rfl
        rw [e1]
        cases readTextL r <;> rfl
      · refine (read_name c r w (by omega) h1 h2).mono ?_
        rintro e w' ⟨rfl, hb⟩
        refine ⟨ret_val ?_, hb⟩
        have e1 : readL (c :: r) = some (1, c :: r, []) := by simp [readL, h1, h2]
        rw [e1]; rfl
end Go.Proofs.YtpgcbhhkmjknkaaGreat

/- Parse: a text as a term. -/
namespace Go.Proofs.YtpgcbhhkmjknkaaGreat
open Go Go.RowKit Go.Proofs

def parseN (l : List UInt8) : Int := match readL l with
  | none => 2
  | some p => if spellB p.1 p.2.1 p.2.2 = false then 2 else if longB p.2.1 = true then 4 else 0
def parseT (l : List UInt8) : Int × List UInt8 × List UInt8 := match readL l with
  | none => (0, [], [])
  | some p => if spellB p.1 p.2.1 p.2.2 = false then (0, [], []) else if longB p.2.1 = true then (0, [], []) else p
def termV (p : Int × List UInt8 × List UInt8) : Value := .agg #[.int .i64 p.1, .string ⟨p.2.1.toArray⟩, .string ⟨p.2.2.toArray⟩]

theorem readL_len (l : List UInt8) (p : Int × List UInt8 × List UInt8) (h : readL l = some p) : p.2.1.length ≤ l.length ∧ p.2.2.length ≤ l.length := by
  cases l with
  | nil => simp [readL] at h; subst h; simp
  | cons c r =>
    by_cases h1 : c = 95
    · simp [readL, h1] at h; subst h; simp
    · by_cases h2 : c = 34
      · subst h2
        have e1 : readL (34 :: r) = (readTextL r).map (fun p => (3, p.1, p.2)) := rfl
        rw [e1, Option.map_eq_some_iff] at h
        obtain ⟨q, hq, rfl⟩ := h
        unfold readTextL at hq
        cases hu : unqL r with
        | none => simp [hu] at hq
        | some u =>
          have := unqL_len r.length r u.1 u.2 (Nat.le_refl _) hu
          simp only [hu] at hq
          cases hr : langR u.2 with
          | none => simp [hr] at hq
          | some L =>
            simp [hr] at hq
            subst hq
            have hL : L.length ≤ u.2.length := by
              cases hu2 : u.2 with
              | nil => rw [hu2] at hr; simp [langR] at hr; subst hr; simp
              | cons d t =>
                rw [hu2] at hr
                by_cases hd : d = 64
                · cases hk : langOk t
                  · simp [langR, hd, hk] at hr
                  · simp [langR, hd, hk] at hr; subst hr; simp
                · simp [langR, hd] at hr
            simp only [List.length_cons]
            omega
      · simp [readL, h1, h2] at h; subst h; simp

theorem bnew {w w1 : World} (h : Below w.heap.size w w1) (o : Obj) : Below w.heap.size w (w1.alloc o) := bstep h (balloc _ _)

/-- the block that a call laid last ahead of another one reads behind that as it did -/
theorem kept1 {w w2 : World} {o : Obj} (hb : Below (w.alloc o).heap.size (w.alloc o) w2) :
    (∀ j, w2.cell? ⟨w.heap.size, j, none⟩ = (w.alloc o).cell? ⟨w.heap.size, j, none⟩) ∧ (∀ j, w2.frozen? ⟨w.heap.size, j, none⟩ = (w.alloc o).frozen? ⟨w.heap.size, j, none⟩) :=
  ⟨fun j => (bcell hb).1 _ j (by simp), fun j => (bcell hb).2 _ j (by simp)⟩
/-- .. and the block that was laid ahead of a call ahead of it -/
theorem kept2 {w w1 w2 : World} {o o' : Obj} (hb1 : Below (w.alloc o).heap.size (w.alloc o) w1) (hb2 : Below (w1.alloc o').heap.size (w1.alloc o') w2) (hz : w.heap.size < w1.heap.size) :
    (∀ j, w2.cell? ⟨w.heap.size, j, none⟩ = (w.alloc o).cell? ⟨w.heap.size, j, none⟩) ∧ (∀ j, w2.frozen? ⟨w.heap.size, j, none⟩ = (w.alloc o).frozen? ⟨w.heap.size, j, none⟩) :=
  ⟨fun j => ((bcell hb2).1 _ j (by simp; omega)).trans (((bcell (balloc w1 o')).1 _ j hz).trans ((bcell hb1).1 _ j (by simp))),
   fun j => ((bcell hb2).2 _ j (by simp; omega)).trans (((bcell (balloc w1 o')).2 _ j hz).trans ((bcell hb1).2 _ j (by simp)))⟩

set_option maxHeartbeats 1000000 in
theorem Any_none (l : List UInt8) (w : World) (hl : l.length ≤ 140737488355328) (hr : readL l = none) :
    Calls Tryz.prog 235 #[.string ⟨l.toArray⟩] w fun e w' => e = .returned (.tuple #[.agg #[.int .i64 0, .string ⟨#[]⟩, .string ⟨#[]⟩], .iface 89 (.int .i64 2)]) ∧ Below w.heap.size w w' := by
  have Hr : Hid (readL l = none) := hr
  clear hr
  go_enter Tryz.func235, Tryz.ntmps235
  go_wp2_with fail
  refine (read_any l _ hl).mono ?_
  rintro e w1 ⟨rfl, hb1⟩
  rw [Hr.out]
  simp only [readV]
  obtain ⟨hc1, hf1⟩ := bcell hb1
  have hz : w.heap.size < w1.heap.size := by have := hb1.size; simp at this; omega
  go_wp2_with fail
  exact bodyPost_ret (v := .tuple #[.agg #[.int .i64 0, .string ⟨#[]⟩, .string ⟨#[]⟩], .iface 89 (.int .i64 2)]) (by simp [results, Tryz.results235, go_sem, hc1, hz]) rfl ⟨rfl, bnew (bset3 (bstep (balloc _ _) hb1) _ _ _) _⟩

set_option maxHeartbeats 1000000 in
theorem Any_wrong (l : List UInt8) (k : Int) (S L : List UInt8) (w : World) (hl : l.length ≤ 140737488355328) (hr : readL l = some (k, S, L)) (hS : S.length ≤ l.length) (hL : L.length ≤ l.length) (hsp : spellB k S L = false) :
    Calls Tryz.prog 235 #[.string ⟨l.toArray⟩] w fun e w' => e = .returned (.tuple #[.agg #[.int .i64 0, .string ⟨#[]⟩, .string ⟨#[]⟩], .iface 89 (.int .i64 2)]) ∧ Below w.heap.size w w' := by
  have Hr : Hid (readL l = some (k, S, L)) := hr
  clear hr
  have hs' : S.length ≤ maxLen := by unfold maxLen; omega
  have hl' : L.length ≤ maxLen := by unfold maxLen; omega
  go_enter Tryz.func235, Tryz.ntmps235
  go_wp2_with fail
  refine (read_any l _ hl).mono ?_
  rintro e w1 ⟨rfl, hb1⟩
  rw [Hr.out]
  simp only [readV]
  have hz : w.heap.size < w1.heap.size := by have := hb1.size; simp at this; omega
  go_wp2_with fail
  refine (spelled_any k S L _ hs' hl').mono ?_
  rintro e w2 ⟨rfl, hb2⟩
  obtain ⟨hw, hwf⟩ := kept2 hb1 hb2 hz
  go_wp2_with fail
  exact bodyPost_ret (v := .tuple #[.agg #[.int .i64 0, .string ⟨#[]⟩, .string ⟨#[]⟩], .iface 89 (.int .i64 2)]) (by simp [results, Tryz.results235, go_sem, hw]) rfl ⟨rfl, bset3 (bstep (bstep (bstep (balloc _ _) hb1) (balloc _ _)) hb2) _ _ _⟩

set_option maxHeartbeats 1000000 in
theorem Any_good (l : List UInt8) (k : Int) (S L : List UInt8) (w : World) (hl : l.length ≤ 140737488355328) (hr : readL l = some (k, S, L)) (hS : S.length ≤ l.length) (hL : L.length ≤ l.length) (hsp : spellB k S L = true) :
    Calls Tryz.prog 235 #[.string ⟨l.toArray⟩] w fun e w' => e = .returned (.tuple #[.agg #[.int .i64 k, .string ⟨S.toArray⟩, .string ⟨L.toArray⟩], .nilIface]) ∧ Below w.heap.size w w' := by
  have Hr : Hid (readL l = some (k, S, L)) := hr
  clear hr
  have hs' : S.length ≤ maxLen := by unfold maxLen; omega
  have hl' : L.length ≤ maxLen := by unfold maxLen; omega
  go_enter Tryz.func235, Tryz.ntmps235
  go_wp2_with fail
  refine (read_any l _ hl).mono ?_
  rintro e w1 ⟨rfl, hb1⟩
  rw [Hr.out]
  simp only [readV]
  have hz : w.heap.size < w1.heap.size := by have := hb1.size; simp at this; omega
  go_wp2_with fail
  refine (spelled_any k S L _ hs' hl').mono ?_
  rintro e w2 ⟨rfl, hb2⟩
  obtain ⟨hw, hwf⟩ := kept2 hb1 hb2 hz
  obtain ⟨ht3, htf3⟩ := kept1 hb2
  go_wp2_with fail
  exact bodyPost_ret (v := .tuple #[.agg #[.int .i64 k, .string ⟨S.toArray⟩, .string ⟨L.toArray⟩], .nilIface]) (by simp [results, Tryz.results235, go_sem, hw]) rfl ⟨rfl, bset3 (bstep (bstep (bstep (balloc _ _) hb1) (balloc _ _)) hb2) _ _ _⟩

/-- what a text of whatever length is -/
def anyN (l : List UInt8) : Int := match readL l with
  | none => 2
  | some p => if spellB p.1 p.2.1 p.2.2 = false then 2 else 0
def anyT (l : List UInt8) : Int × List UInt8 × List UInt8 := match readL l with
  | none => (0, [], [])
  | some p => if spellB p.1 p.2.1 p.2.2 = false then (0, [], []) else p

theorem any_cases (l : List UInt8) : (anyN l = 2 ∧ anyT l = (0, [], [])) ∨ (anyN l = 0 ∧ readL l = some (anyT l) ∧ spellB (anyT l).1 (anyT l).2.1 (anyT l).2.2 = true ∧ (anyT l).2.1.length ≤ l.length ∧ (anyT l).2.2.length ≤ l.length) := by
  cases hr : readL l with
  | none => left; simp [anyN, anyT, hr]
  | some p =>
    cases hsp : spellB p.1 p.2.1 p.2.2
    · left; simp [anyN, anyT, hr, hsp]
    · right
      have e : anyT l = p := by simp [anyT, hr, hsp]
      rw [e]
      exact ⟨by simp [anyN, hr, hsp], rfl, hsp, readL_len l p hr⟩

theorem Any_any (l : List UInt8) (w : World) (hl : l.length ≤ 140737488355328) :
    Calls Tryz.prog 235 #[.string ⟨l.toArray⟩] w fun e w' => e = .returned (.tuple #[termV (anyT l), errV (anyN l)]) ∧ Below w.heap.size w w' := by
  cases hr : readL l with
  | none =>
    refine (Any_none l w hl hr).mono ?_
    rintro e w' ⟨rfl, hb⟩
    exact ⟨ret_two (by simp [anyT, hr, termV]) (by simp [anyN, hr, errV]), hb⟩
  | some p =>
    obtain ⟨k, S, L⟩ := p
    obtain ⟨hS, hL⟩ := readL_len l _ hr
    cases hsp : spellB k S L
    · refine (Any_wrong l k S L w hl hr hS hL hsp).mono ?_
      rintro e w' ⟨rfl, hb⟩
      exact ⟨ret_two (by simp [anyT, hr, hsp, termV]) (by simp [anyN, hr, hsp, errV]), hb⟩
    · refine (Any_good l k S L w hl hr hS hL hsp).mono ?_
      rintro e w' ⟨rfl, hb⟩
      exact ⟨ret_two (by simp [anyT, hr, hsp, termV]) (by simp [anyN, hr, hsp, errV]), hb⟩

end Go.Proofs.YtpgcbhhkmjknkaaGreat
