import Derived.Test.YtbacenhgedopjaaGreatDoorMA0x0
import Derived.Deep.RegionHeld3
import Derived.RegionTactic
import Derived.Shelf.GgClosure.StringsIndexFunc
import Derived.Laws.RangeString
import Derived.Laws.RangeAny
import Derived.Lib.Builder
import Derived.OwnWalk
import Derived.Deep.RegionWith
import Derived.BigQuiet
import Derived.Outline

/- Sorted's closure: what is wrong with the triple at a place: itself, and that it is not above the one ahead; firstFault. -/
namespace Go.Proofs.YtbacenhgedopjaaGreatDoor
open Go Go.RowKit Go.Proofs Go.Sort

attribute [local go_sem] eql_errV neq_errV guard_errV

/-- what Sorted's closure tells of a place -/
def stepN (l : List Tr) (i : Nat) : Int := if h : i < l.length then (if chkTr l[i] = 0 then (if h0 : 0 < i then (if 0 ≤ cmpTr (l[i - 1]'(by omega)) l[i] then 6 else 0) else 0) else chkTr l[i]) else 0

/-- nineteen cells, behind a call that lays blocks and draws -/
theorem keep19 {W W' : World} {p0 p1 p2 p3 p4 p5 p6 p7 p8 p9 p10 p11 p12 p13 p14 p15 p16 p17 p18 : Addr} {v0 v1 v2 v3 v4 v5 v6 v7 v8 v9 v10 v11 v12 v13 v14 v15 v16 v17 v18 : Value}
    (h : W.cell? p0 = some v0 ∧ W.cell? p1 = some v1 ∧ W.cell? p2 = some v2 ∧ W.cell? p3 = some v3 ∧ W.cell? p4 = some v4 ∧ W.cell? p5 = some v5 ∧ W.cell? p6 = some v6 ∧ W.cell? p7 = some v7 ∧ W.cell? p8 = some v8 ∧ W.cell? p9 = some v9 ∧ W.cell? p10 = some v10 ∧ W.cell? p11 = some v11 ∧ W.cell? p12 = some v12 ∧ W.cell? p13 = some v13 ∧ W.cell? p14 = some v14 ∧ W.cell? p15 = some v15 ∧ W.cell? p16 = some v16 ∧ W.cell? p17 = some v17 ∧ W.cell? p18 = some v18) (hb : Grew W W') : W'.cell? p0 = some v0 ∧ W'.cell? p1 = some v1 ∧ W'.cell? p2 = some v2 ∧ W'.cell? p3 = some v3 ∧ W'.cell? p4 = some v4 ∧ W'.cell? p5 = some v5 ∧ W'.cell? p6 = some v6 ∧ W'.cell? p7 = some v7 ∧ W'.cell? p8 = some v8 ∧ W'.cell? p9 = some v9 ∧ W'.cell? p10 = some v10 ∧ W'.cell? p11 = some v11 ∧ W'.cell? p12 = some v12 ∧ W'.cell? p13 = some v13 ∧ W'.cell? p14 = some v14 ∧ W'.cell? p15 = some v15 ∧ W'.cell? p16 = some v16 ∧ W'.cell? p17 = some v17 ∧ W'.cell? p18 = some v18 := by
  have q := hb.keep
  obtain ⟨h0, h1, h2, h3, h4, h5, h6, h7, h8, h9, h10, h11, h12, h13, h14, h15, h16, h17, h18⟩ := h
  exact ⟨q _ _ h0, q _ _ h1, q _ _ h2, q _ _ h3, q _ _ h4, q _ _ h5, q _ _ h6, q _ _ h7, q _ _ h8, q _ _ h9, q _ _ h10, q _ _ h11, q _ _ h12, q _ _ h13, q _ _ h14, q _ _ h15, q _ _ h16, q _ _ h17, q _ _ h18⟩

set_option maxHeartbeats 4000000 in
set_option maxRecDepth 100000 in
theorem sortedFault_any (b o cap bl : Nat) (l : List Tr) (i : Nat) (w : World) (hi : i < l.length) (h200 : l.length ≤ 200) (hx : fitTr l[i])
    (hbox : w.cell? ⟨bl, 0, none⟩ = some (.slice (some ⟨b, o, none⟩) l.length cap)) (hrow : RowR w b o l) :
    Calls Tryz.prog 64 #[.int .i64 i, .pointer (some ⟨bl, 0, none⟩)] w fun e w' => e = .returned (errV (stepN l i)) ∧ Below w.heap.size w w' := by
  have H := fun W => ChkTr_any l[i] W hx
  have Hrow : Hid (RowR w b o l) := hrow
  obtain ⟨c0, c1, c2, c3, c4, c5, c6, c7, c8⟩ := hrow.at i hi
  clear hrow hx
  cases hc : (chkTr l[i] == 0)
  · have fin : Hid (stepN l i = chkTr l[i]) := by simp at hc; simp [Hid, stepN, hi, hc]
    go_enter Tryz.func64, Tryz.ntmps64
    go_wp2_with fail
    refine (H _).mono ?_
    rintro e w1 ⟨rfl, hb1⟩
    go_wp2_with fail
    go_ret
    exact ⟨ret_val (by rw [fin.out]; rfl), hb1⟩
  · by_cases h0 : i = 0
    · subst h0
      have fin : Hid (stepN l 0 = 0) := by simp at hc; simp [Hid, stepN, hi, hc]
      simp only [Nat.zero_mul, Nat.add_zero] at c0 c1 c2 c3 c4 c5 c6 c7 c8
      go_enter Tryz.func64, Tryz.ntmps64
      go_wp2_with fail
      refine (H _).mono ?_
      rintro e w1 ⟨rfl, hb1⟩
      clear c0 c1 c2 c3 c4 c5 c6 c7 c8
      go_wp2_with fail
      go_region
      go_wp2
      go_ret
      exact ⟨ret_val (by rw [fin.out]; rfl), hb1.drew⟩
    · obtain ⟨k, hk0⟩ : ∃ k, i = k + 1 := ⟨i - 1, by omega⟩
      have hk : k < l.length := by omega
      have fin : Hid (stepN l i = if 0 ≤ cmpTr l[k] l[i] then 6 else 0) := by
        subst hk0; simp at hc; simp [Hid, stepN, hi, hc]
      have HC := fun W => CmpTr_any l[k] l[i] W
      generalize cmpTr l[k] l[i] = c at HC fin
      have hwr : IntKind.i64.wrap ((i : Int) - 1) = (k : Int) := by subst hk0; simp [IntKind.wrap, IntKind.bits, IntKind.signed]; omega
      have i0 : (0 : Int) ≤ (k : Int) := by omega
      have i1 : (k : Int) < (l.length : Int) := by omega
      have hd : decide (0 < i) = true := by simp; omega
      have i3 : (i : Int) < (l.length : Int) := by omega
      have Hk : Hid (i = k + 1) := hk0
      clear hk0 h0
      go_enter Tryz.func64, Tryz.ntmps64
      go_wp2_with fail
      refine (H _).mono ?_
      rintro e w1 ⟨rfl, hb1⟩
      have hrow1 := Hrow.out.below hb1
      have hbox1 : w1.cell? ⟨bl, 0, none⟩ = some (.slice (some ⟨b, o, none⟩) l.length cap) := (hb1.cell (World.block_lt_of_cell? w _ hbox)).trans hbox
      clear c0 c1 c2 c3 c4 c5 c6 c7 c8
      obtain ⟨c0, c1, c2, c3, c4, c5, c6, c7, c8⟩ := hrow1.at i hi
      obtain ⟨d0, d1, d2, d3, d4, d5, d6, d7, d8⟩ := hrow1.at k hk
      generalize l[i] = y at *
      generalize l[k] = x at *
      clear hrow1 H
      cases hcc : decide (c ≥ 0)
      all_goals
        go_wp2_with fail
        go_region_held3 (fun W => W.cell? ⟨bl, 0, none⟩ = some (.slice (some ⟨b, o, none⟩) l.length cap) ∧ W.cell? ⟨b, o + k * 9, none⟩ = some (.int .i64 x.1.1) ∧ W.cell? ⟨b, o + k * 9 + 1, none⟩ = some (.string ⟨x.1.2.1.toArray⟩) ∧ W.cell? ⟨b, o + k * 9 + 2, none⟩ = some (.string ⟨x.1.2.2.toArray⟩) ∧ W.cell? ⟨b, o + k * 9 + 3, none⟩ = some (.int .i64 x.2.1.1) ∧ W.cell? ⟨b, o + k * 9 + 4, none⟩ = some (.string ⟨x.2.1.2.1.toArray⟩) ∧ W.cell? ⟨b, o + k * 9 + 5, none⟩ = some (.string ⟨x.2.1.2.2.toArray⟩) ∧ W.cell? ⟨b, o + k * 9 + 6, none⟩ = some (.int .i64 x.2.2.1) ∧ W.cell? ⟨b, o + k * 9 + 7, none⟩ = some (.string ⟨x.2.2.2.1.toArray⟩) ∧ W.cell? ⟨b, o + k * 9 + 8, none⟩ = some (.string ⟨x.2.2.2.2.toArray⟩) ∧ W.cell? ⟨b, o + i * 9, none⟩ = some (.int .i64 y.1.1) ∧ W.cell? ⟨b, o + i * 9 + 1, none⟩ = some (.string ⟨y.1.2.1.toArray⟩) ∧ W.cell? ⟨b, o + i * 9 + 2, none⟩ = some (.string ⟨y.1.2.2.toArray⟩) ∧ W.cell? ⟨b, o + i * 9 + 3, none⟩ = some (.int .i64 y.2.1.1) ∧ W.cell? ⟨b, o + i * 9 + 4, none⟩ = some (.string ⟨y.2.1.2.1.toArray⟩) ∧ W.cell? ⟨b, o + i * 9 + 5, none⟩ = some (.string ⟨y.2.1.2.2.toArray⟩) ∧ W.cell? ⟨b, o + i * 9 + 6, none⟩ = some (.int .i64 y.2.2.1) ∧ W.cell? ⟨b, o + i * 9 + 7, none⟩ = some (.string ⟨y.2.2.2.1.toArray⟩) ∧ W.cell? ⟨b, o + i * 9 + 8, none⟩ = some (.string ⟨y.2.2.2.2.toArray⟩)) (first | exact keep19 (by assumption) hb2 | go_keep) (first
          | (go_at_call 66; refine (HC _).mono ?_; rintro e w2 ⟨rfl, hb2⟩))
        go_wp2
        go_ret
        exact ⟨ret_val (by rw [fin.out]; simp at hcc; first | rw [if_pos (by omega)]; rfl | rw [if_neg (by omega)]; rfl), bstep hb1.drew hb2.below⟩

/-- the first number that is not 0 among those of the places below k -/
def firstUpto (f : Nat → Int) : Nat → Int
  | 0 => 0
  | k + 1 => if firstUpto f k = 0 then f k else firstUpto f k
theorem firstUpto_mono (f : Nat → Int) (k n : Nat) (h : firstUpto f k ≠ 0) (hn : k ≤ n) : firstUpto f n = firstUpto f k := by
  induction n with
  | zero => simp at hn; rw [hn]
  | succ m ih =>
    by_cases e : k = m + 1
    · rw [e]
    · have := ih (by omega)
      rw [firstUpto, this, if_neg h]
/-- what firstFault tells of n places -/
def faultN (f : Nat → Int) (n : Nat) : Int := if 200 < n then 4 else firstUpto f n

set_option maxHeartbeats 1000000 in
theorem firstFault_any (ad : Option Addr) (n cap g bl : Nat) (f : Nat → Int) (I : World → Prop) (w : World) (hn : n ≤ 9223372036854775807)
    (eg : ∀ args w, (callFunc g args).run Tryz.prog w = .ok (.enter g args) w) (hI : I w) (hkeep : ∀ W W', I W → Below W.heap.size W W' → I W')
    (hf : n ≤ 200 → ∀ (i : Nat) (W : World), i < n → I W → Calls Tryz.prog g #[.int .i64 i, .pointer (some ⟨bl, 0, none⟩)] W fun e w' => e = .returned (errV (f i)) ∧ Below W.heap.size W w') :
    Calls Tryz.prog 63 #[.slice ad n cap, .func (.func g) #[] #[.pointer (some ⟨bl, 0, none⟩)]] w fun e w' => e = .returned (errV (faultN f n)) ∧ Below w.heap.size w w' := by
  by_cases h200 : 200 < n
  · have fin : Hid (faultN f n = 4) := if_pos h200
    have h200' : decide ((n : Int) > 200) = true := by simp; omega
    clear hf
    go_enter Tryz.func63, Tryz.ntmps63
    go_wp2
    go_ret
    exact ⟨ret_val (by rw [fin.out]; rfl), Below.refl _ _⟩
  · have fin : Hid (faultN f n = firstUpto f n) := if_neg h200
    have Hf : Hid (∀ (i : Nat) (W : World), i < n → I W → Calls Tryz.prog g #[.int .i64 i, .pointer (some ⟨bl, 0, none⟩)] W fun e w' => e = .returned (errV (f i)) ∧ Below W.heap.size W w') := hf (by omega)
    have Hk : Hid (∀ W W', I W → Below W.heap.size W W' → I W') := hkeep
    have HI : Hid (I w) := hI
    clear hf hkeep hI
    go_enter Tryz.func63, Tryz.ntmps63
    go_wp2
    go_loopw [13] (fun i wr => ∃ k : Nat, k ≤ n ∧ i = .int .i64 k ∧ firstUpto f k = 0 ∧ I wr ∧ Below w.heap.size w wr) (fun i wr => n - (intOf i).toNat)
    case atStart => exact ⟨0, Nat.zero_le _, rfl, rfl, HI.out, Below.refl _ _⟩
    case round =>
      obtain ⟨k, hk, rfl, hz0, hIr0, hbr⟩ := hrel
      have hz : Hid (firstUpto f k = 0) := hz0
      have hIr : Hid (I wr) := hIr0
      clear hz0 hIr0
      by_cases hlt : k < n
      · cases hc : (f k == 0)
        · go_wp2_with fail
          go_at_fn g
          refine (Hf.out k _ hlt hIr.out).mono ?_
          rintro e w1 ⟨rfl, hb1⟩
          go_wp2_with fail
          go_ret
          simp at hc
          refine ⟨ret_val ?_, bstep hbr hb1⟩
          have h1 : firstUpto f (k + 1) = f k := by rw [firstUpto, if_pos hz.out]
          rw [fin.out, firstUpto_mono f (k + 1) n (by rw [h1]; exact hc) (by omega), h1]
          rfl
        · go_wp2_with fail
          go_at_fn g
          refine (Hf.out k _ hlt hIr.out).mono ?_
          rintro e w1 ⟨rfl, hb1⟩
          go_wp2_with fail
          simp at hc
          exact ⟨⟨k + 1, by omega, by go_num, by rw [firstUpto, if_pos hz.out]; exact hc, Hk.out _ _ hIr.out hb1, bstep hbr hb1⟩, by simp [intOf]; omega⟩
      · have hkn : k = n := by omega
        subst hkn
        go_wp2
        go_ret
        exact ⟨ret_val (by rw [fin.out, hz.out]; rfl), hbr⟩
end Go.Proofs.YtbacenhgedopjaaGreatDoor

/- Patterns in plain words: what is wrong with one, which variables it has, and whether a triple fits. -/
namespace Go.Proofs.YtbacenhgedopjaaGreatDoor
open Go Go.RowKit Go.Proofs
set_option synthInstance.maxSize 1000

/-- a slot: its variable, its term; a pattern: three slots -/
abbrev Sl := List UInt8 × Tm
abbrev Pt := Sl × Sl × Sl
def tmZero : Tm := (0, [], [])
def tmChk (x : Tm) : Int := checkN x.1 x.2.1 x.2.2

/-- is a text that is not empty a variable? -/
def spellV (v : List UInt8) : Bool := decide (v.length ≤ 10) && allB letB v
/-- what is wrong with a slot; with a pattern -/
def slotN (s : Sl) : Int := if s.1 = [] then tmChk s.2 else if spellV s.1 = false then 2 else if s.2 = tmZero then 0 else 3
def varsN (p : Pt) : Int := if slotN p.1 = 0 then (if slotN p.2.1 = 0 then slotN p.2.2 else slotN p.2.1) else slotN p.1
/-- a pattern's variables, each once -/
def addV (l : List (List UInt8)) (s : Sl) : List (List UInt8) := if s.1 = [] then l else if s.1 ∈ l then l else l ++ [s.1]
def varsL (p : Pt) : List (List UInt8) := addV (addV (addV [] p.1) p.2.1) p.2.2

/-- does a triple fit? -/
def fitsB (p : Pt) (t : Tr) : Bool :=
  (if p.1.1 = [] then decide (t.1 = p.1.2) else true) &&
  ((if p.2.1.1 = [] then decide (t.2.1 = p.2.1.2) else if p.2.1.1 = p.1.1 then decide (t.2.1 = t.1) else true) &&
  (if p.2.2.1 = [] then decide (t.2.2 = p.2.2.2) else if p.2.2.1 = p.1.1 then decide (t.2.2 = t.1) else if p.2.2.1 = p.2.1.1 then decide (t.2.2 = t.2.1) else true))

/-- a rune that is no letter a to z -/
def offR (r : Nat) : Bool := decide (r < 97) || decide (122 < r)

theorem idx_off (s : ByteArray) : ∀ (f pos : Nat), s.size ≤ pos + f → (0 ≤ Lib.idxFuncFrom offR true s f pos ↔ ∃ k, ∃ h : k < s.size, pos ≤ k ∧ letB (s[k].toNat : Int) = false)
  | 0, pos, hf => by
    simp only [Lib.idxFuncFrom]
    constructor
    · intro h; omega
    · rintro ⟨k, h, hk, _⟩; omega
  | f + 1, pos, hf => by
    unfold Lib.idxFuncFrom
    by_cases hp : pos < s.size
    · rw [if_pos hp]
      by_cases hb : s[pos].toNat < 128
      · rw [decode_ascii s pos hp hb]
        simp only
        by_cases ho : offR s[pos].toNat = true
        · rw [if_pos ho]
          refine ⟨fun _ => ⟨pos, hp, Nat.le_refl _, ?_⟩, fun _ => by omega⟩
          simp [offR] at ho
          simp [letB]; omega
        · rw [if_neg ho, idx_off s f (pos + 1) (by omega)]
          constructor
          · rintro ⟨k, h, hk, e⟩; exact ⟨k, h, by omega, e⟩
          · rintro ⟨k, h, hk, e⟩
            refine ⟨k, h, ?_, e⟩
            rcases Nat.lt_or_ge pos k with hlt | hge
            · omega
            · have hkp : k = pos := by omega
              subst hkp
              simp [offR] at ho
              simp [letB] at e
              omega
      · have hh := (decode_high s pos hp (by omega)).1
        have ho : offR (Utf8.decode s pos).1 = true := by simp [offR]; omega
        rw [if_pos ho]
        refine ⟨fun _ => ⟨pos, hp, Nat.le_refl _, ?_⟩, fun _ => by omega⟩
        simp [letB]; omega
    · rw [if_neg hp]
      constructor
      · intro h; omega
      · rintro ⟨k, h, hk, _⟩; omega

theorem offAny (s : ByteArray) : decide (0 ≤ Lib.idxFunc offR true s) = !allB letB s.data.toList := by
  have h := idx_off s s.size 0 (by omega)
  have e : (∃ k, ∃ h : k < s.size, 0 ≤ k ∧ letB (s[k].toNat : Int) = false) ↔ allB letB s.data.toList = false := by
    unfold allB
    rw [List.all_eq_false]
    constructor
    · rintro ⟨k, hk, _, e⟩
      exact ⟨s.data.toList[k]'(by simpa using hk), List.getElem_mem _, by rw [show s.data.toList[k]'(by simpa using hk) = s[k] from rfl, e]; simp⟩
    · rintro ⟨x, hx, e⟩
      obtain ⟨k, hk, rfl⟩ := List.getElem_of_mem hx
      have hk' : k < s.size := by simpa using hk
      exact ⟨k, hk', Nat.zero_le _, by rw [show s[k] = s.data.toList[k] from rfl]; simpa using e⟩
  unfold Lib.idxFunc
  cases ha : allB letB s.data.toList
  · simpa using h.2 (e.2 ha)
  · have : ¬ (0 ≤ Lib.idxFuncFrom offR true s s.size 0) := fun h0 => by
      have := e.1 (h.1 h0)
      rw [ha] at this
      cases this
    simp [this]
end Go.Proofs.YtbacenhgedopjaaGreatDoor

/- strings.Builder: WriteByte (its own check walked here), String; strings.Clone. -/
namespace Go.Proofs.YtbacenhgedopjaaGreatDoor
open Go Go.RowKit Go.Proofs

theorem infoByte : (Tryz.prog.info? 5).map (fun i => (i.zero, i.size, i.bytes)) = some (some (.int .u8 0), 1, 1) := by kernel_rfl

end Go.Proofs.YtbacenhgedopjaaGreatDoor

/- quote, langMark: a text between quotes, and what stands behind it. -/
namespace Go.Proofs.YtbacenhgedopjaaGreatDoor
open Go Go.RowKit Go.Proofs

/-- what stands between the quotes -/
def escL (l : List UInt8) : List UInt8 := l.flatMap fun c => if markB (c.toNat : Int) then [92, c] else [c]
def quoteL (l : List UInt8) : List UInt8 := 34 :: (escL l ++ [34])

theorem escL_len (l : List UInt8) : (escL l).length ≤ 2 * l.length := by
  induction l with
  | nil => simp [escL]
  | cons c r ih =>
    have : escL (c :: r) = (if markB (c.toNat : Int) then [92, c] else [c]) ++ escL r := by simp [escL]
    rw [this, List.length_append]
    cases markB (c.toNat : Int) <;> simp <;> omega

theorem escL_take (l : List UInt8) (k : Nat) (h : k < l.length) : escL (l.take (k + 1)) = escL (l.take k) ++ if markB (l[k].toNat : Int) then [92, l[k]] else [l[k]] := by
  rw [List.take_succ_eq_append_getElem h]
  simp only [escL, List.flatMap_append, List.flatMap_cons, List.flatMap_nil, List.append_nil]

theorem cells_snoc (l : List UInt8) (c : UInt8) : Lib.byteCells l ++ [.int .u8 (c.toNat : Int)] = Lib.byteCells (l ++ [c]) := by simp [Lib.byteCells]

theorem str_app (a b : List UInt8) : ((⟨a.toArray⟩ : ByteArray) ++ (⟨b.toArray⟩ : ByteArray)) = ⟨(a ++ b).toArray⟩ := by
  apply ByteArray.ext
  rw [ByteArray.data_append]
  simp

def markL (L : List UInt8) : List UInt8 := match L with | [] => [] | c :: r => 64 :: c :: r
theorem markL_len (L : List UInt8) : (markL L).length ≤ L.length + 1 := by cases L <;> simp [markL]
theorem quoteL_len (L : List UInt8) : (quoteL L).length ≤ 2 * L.length + 2 := by have := escL_len L; simp [quoteL]; omega

end Go.Proofs.YtbacenhgedopjaaGreatDoor

/- Print: a term as text. -/
namespace Go.Proofs.YtbacenhgedopjaaGreatDoor
open Go Go.RowKit Go.Proofs

/-- the text of a right term -/
def showL (k : Int) (S L : List UInt8) : List UInt8 := if k = 2 then 95 :: S else if k = 3 then quoteL S ++ markL L else S
def printL (k : Int) (S L : List UInt8) : List UInt8 := if checkN k S L = 0 then showL k S L else []

theorem str_app2 (c : UInt8) (b : List UInt8) : ((⟨#[c]⟩ : ByteArray) ++ (⟨b.toArray⟩ : ByteArray)) = ⟨(c :: b).toArray⟩ := str_app [c] b

end Go.Proofs.YtbacenhgedopjaaGreatDoor

/- unquote: up to the quote that ends a text. -/
namespace Go.Proofs.YtbacenhgedopjaaGreatDoor
open Go Go.RowKit Go.Proofs

def unqL : List UInt8 → Option (List UInt8 × List UInt8)
  | [] => none
  | c :: r =>
    if c = 34 then some ([], r)
    else if c = 92 then
      match r with
      | [] => none
      | d :: r' => if markB (d.toNat : Int) then (unqL r').map (fun p => (d :: p.1, p.2)) else none
    else (unqL r).map (fun p => (c :: p.1, p.2))

theorem unqL_cons (c : UInt8) (r : List UInt8) : unqL (c :: r) = if c = 34 then some ([], r) else if c = 92 then (match r with | [] => none | d :: r' => if markB (d.toNat : Int) then (unqL r').map (fun p => (d :: p.1, p.2)) else none) else (unqL r).map (fun p => (c :: p.1, p.2)) := by
  cases r <;> rfl

def unqV (o : Option (List UInt8 × List UInt8)) : Value := match o with
  | none => .tuple #[.string ⟨#[]⟩, .string ⟨#[]⟩, .bool false]
  | some p => .tuple #[.string ⟨p.1.toArray⟩, .string ⟨p.2.toArray⟩, .bool true]

/-- what is read so far, and what is left to read -/
def unqAt (l : List UInt8) (k : Nat) (acc : List UInt8) : Prop := unqL l = (unqL (l.drop k)).map (fun p => (acc ++ p.1, p.2))

theorem unqAt_zero (l : List UInt8) : unqAt l 0 [] := by
  unfold unqAt; simp

theorem drop_at (l : List UInt8) (k : Nat) (h : k < l.length) : l.drop k = l[k] :: l.drop (k + 1) := List.drop_eq_getElem_cons h

theorem unqAt_end (l : List UInt8) (k : Nat) (acc : List UInt8) (h : unqAt l k acc) (hk : l.length ≤ k) : unqL l = none := by
  unfold unqAt at h
  rw [h, List.drop_eq_nil_of_le hk]; rfl

theorem unqAt_quote (l : List UInt8) (k : Nat) (acc : List UInt8) (h : unqAt l k acc) (hk : k < l.length) (hq : l[k] = 34) : unqL l = some (acc, l.drop (k + 1)) := by
  unfold unqAt at h
  rw [h, drop_at l k hk, hq, unqL_cons]; simp

theorem unqAt_plain (l : List UInt8) (k : Nat) (acc : List UInt8) (h : unqAt l k acc) (hk : k < l.length) (hq : l[k] ≠ 34) (hm : l[k] ≠ 92) : unqAt l (k + 1) (acc ++ [l[k]]) := by
  unfold unqAt at h ⊢
  rw [h, drop_at l k hk, unqL_cons, if_neg hq, if_neg hm, Option.map_map]
  congr 1
  funext p
  simp

theorem unqAt_cut (l : List UInt8) (k : Nat) (acc : List UInt8) (h : unqAt l k acc) (hk : k < l.length) (hm : l[k] = 92) (he : k + 1 = l.length) : unqL l = none := by
  unfold unqAt at h
  rw [h, drop_at l k hk, hm, List.drop_eq_nil_of_le (by omega), unqL_cons]; rfl

theorem unqAt_bad (l : List UInt8) (k : Nat) (acc : List UInt8) (h : unqAt l k acc) (hk : k + 1 < l.length) (hm : l[k] = 92) (hb : markB (l[k + 1].toNat : Int) = false) : unqL l = none := by
  unfold unqAt at h
  rw [h, drop_at l k (by omega), hm, drop_at l (k + 1) hk, unqL_cons, if_neg (by decide), if_pos rfl]; simp [hb]

theorem unqAt_mark (l : List UInt8) (k : Nat) (acc : List UInt8) (h : unqAt l k acc) (hk : k + 1 < l.length) (hm : l[k] = 92) (hb : markB (l[k + 1].toNat : Int) = true) : unqAt l (k + 2) (acc ++ [l[k + 1]]) := by
  unfold unqAt at h ⊢
  rw [h, drop_at l k (by omega), hm, drop_at l (k + 1) hk, unqL_cons, if_neg (by decide), if_pos rfl]
  simp only [hb, if_true, Option.map_map]
  congr 1
  funext p
  simp

theorem drop_extract (l : List UInt8) (k : Nat) : (⟨l.toArray⟩ : ByteArray).extract k l.length = ⟨(l.drop k).toArray⟩ := by
  apply ByteArray.ext
  rw [ByteArray.data_extract]
  simp
  exact List.take_of_length_le (by simp)

theorem bdrewB {B : Nat} {w w1 : World} (h : Below B w.drew w1) : Below B w w1 := ⟨h.os, h.tape, h.output, h.size, h.block⟩

theorem byte_eq (c d : UInt8) : ((c.toNat : Int) == (d.toNat : Int)) = (c == d) := by
  rw [Bool.eq_iff_iff]; simp [UInt8.toNat_inj, Int.natCast_inj]

end Go.Proofs.YtbacenhgedopjaaGreatDoor

/- readLang, readText, read: a text cut into the parts of a term. -/
namespace Go.Proofs.YtbacenhgedopjaaGreatDoor
open Go Go.RowKit Go.Proofs

def langR (l : List UInt8) : Option (List UInt8) := match l with
  | [] => some []
  | c :: r => if c = 64 then (if langOk r then some r else none) else none
def langV (o : Option (List UInt8)) : Value := match o with
  | none => .tuple #[.string ⟨#[]⟩, .bool false]
  | some l => .tuple #[.string ⟨l.toArray⟩, .bool true]

/-- how long the parts are that are read -/
theorem unqL_len (n : Nat) : ∀ (l s b : List UInt8), l.length ≤ n → unqL l = some (s, b) → s.length + b.length < l.length := by
  induction n with
  | zero => intro l s b hl h; cases l with
    | nil => simp [unqL] at h
    | cons => simp at hl
  | succ n ih =>
    intro l s b hl h
    cases l with
    | nil => simp [unqL] at h
    | cons c r =>
      rw [unqL_cons] at h
      simp only [List.length_cons] at hl ⊢
      by_cases hc : c = 34
      · simp [hc] at h; obtain ⟨rfl, rfl⟩ := h; simp
      · rw [if_neg hc] at h
        by_cases hm : c = 92
        · rw [if_pos hm] at h
          cases r with
          | nil => simp at h
          | cons d r' =>
            simp only at h
            cases hb : markB (d.toNat : Int)
            · simp [hb] at h
            · simp only [hb, if_true, Option.map_eq_some_iff] at h
              obtain ⟨⟨s', b'⟩, h1, h2⟩ := h
              simp only [Prod.mk.injEq] at h2
              obtain ⟨rfl, rfl⟩ := h2
              have := ih r' s' b' (by simp at hl; omega) h1
              simp; omega
        · rw [if_neg hm, Option.map_eq_some_iff] at h
          obtain ⟨⟨s', b'⟩, h1, h2⟩ := h
          simp only [Prod.mk.injEq] at h2
          obtain ⟨rfl, rfl⟩ := h2
          have := ih r s' b' (by omega) h1
          simp; omega

theorem bset3 {w w1 : World} (h : Below w.heap.size w w1) (a b c : Value) : Below w.heap.size w (((w1.setCell ⟨w.heap.size, 0, none⟩ a).setCell ⟨w.heap.size, 1, none⟩ b).setCell ⟨w.heap.size, 2, none⟩ c) :=
  ((h.setCell (p := ⟨w.heap.size, 0, none⟩) (Nat.le_refl _) a).setCell (p := ⟨w.heap.size, 1, none⟩) (Nat.le_refl _) b).setCell (p := ⟨w.heap.size, 2, none⟩) (Nat.le_refl _) c

def readTextL (l : List UInt8) : Option (List UInt8 × List UInt8) := match unqL l with
  | none => none
  | some p => match langR p.2 with
    | none => none
    | some L => some (p.1, L)
def textV (o : Option (List UInt8 × List UInt8)) : Value := match o with
  | none => .tuple #[.agg #[.int .i64 0, .string ⟨#[]⟩, .string ⟨#[]⟩], .bool false]
  | some p => .tuple #[.agg #[.int .i64 3, .string ⟨p.1.toArray⟩, .string ⟨p.2.toArray⟩], .bool true]

/-- the parts of a term: its Kind, S and Lang -/
def readL (l : List UInt8) : Option (Int × List UInt8 × List UInt8) := match l with
  | [] => some (1, [], [])
  | c :: r => if c = 95 then some (2, r, []) else if c = 34 then (readTextL r).map (fun p => (3, p.1, p.2)) else some (1, c :: r, [])
def readV (o : Option (Int × List UInt8 × List UInt8)) : Value := match o with
  | none => .tuple #[.agg #[.int .i64 0, .string ⟨#[]⟩, .string ⟨#[]⟩], .bool false]
  | some p => .tuple #[.agg #[.int .i64 p.1, .string ⟨p.2.1.toArray⟩, .string ⟨p.2.2.toArray⟩], .bool true]

end Go.Proofs.YtbacenhgedopjaaGreatDoor

/- Parse: a text as a term. -/
namespace Go.Proofs.YtbacenhgedopjaaGreatDoor
open Go Go.RowKit Go.Proofs

def parseN (l : List UInt8) : Int := match readL l with
  | none => 2
  | some p => if spellB p.1 p.2.1 p.2.2 = false then 2 else if longB p.2.1 = true then 4 else 0
def parseT (l : List UInt8) : Int × List UInt8 × List UInt8 := match readL l with
  | none => (0, [], [])
  | some p => if spellB p.1 p.2.1 p.2.2 = false then (0, [], []) else if longB p.2.1 = true then (0, [], []) else p
def termV (p : Int × List UInt8 × List UInt8) : Value := .agg #[.int .i64 p.1, .string ⟨p.2.1.toArray⟩, .string ⟨p.2.2.toArray⟩]

theorem readL_len (l : List UInt8) (p : Int × List UInt8 × List UInt8) (h : readL l = some p) : p.2.1.length ≤ l.length ∧ p.2.2.length ≤ l.length := by
  cases l with
  | nil => simp [readL] at h; subst h; simp
  | cons c r =>
    by_cases h1 : c = 95
    · simp [readL, h1] at h; subst h; simp
    · by_cases h2 : c = 34
      · subst h2
        have e1 : readL (34 :: r) = (readTextL r).map (fun p => (3, p.1, p.2)) := rfl
        rw [e1, Option.map_eq_some_iff] at h
        obtain ⟨q, hq, rfl⟩ := h
        unfold readTextL at hq
        cases hu : unqL r with
        | none => simp [hu] at hq
        | some u =>
          have := unqL_len r.length r u.1 u.2 (Nat.le_refl _) hu
          simp only [hu] at hq
          cases hr : langR u.2 with
          | none => simp [hr] at hq
          | some L =>
            simp [hr] at hq
            subst hq
            have hL : L.length ≤ u.2.length := by
              cases hu2 : u.2 with
              | nil => rw [hu2] at hr; simp [langR] at hr; subst hr; simp
              | cons d t =>
                rw [hu2] at hr
                by_cases hd : d = 64
                · cases hk : langOk t
                  · simp [langR, hd, hk] at hr
                  · simp [langR, hd, hk] at hr; subst hr; simp
                · simp [langR, hd] at hr
            simp only [List.length_cons]
            omega
      · simp [readL, h1, h2] at h; subst h; simp

theorem bnew {w w1 : World} (h : Below w.heap.size w w1) (o : Obj) : Below w.heap.size w (w1.alloc o) := bstep h (balloc _ _)

/-- the block that a call laid last ahead of another one reads behind that as it did -/
theorem kept1 {w w2 : World} {o : Obj} (hb : Below (w.alloc o).heap.size (w.alloc o) w2) :
    (∀ j, w2.cell? ⟨w.heap.size, j, none⟩ = (w.alloc o).cell? ⟨w.heap.size, j, none⟩) ∧ (∀ j, w2.frozen? ⟨w.heap.size, j, none⟩ = (w.alloc o).frozen? ⟨w.heap.size, j, none⟩) :=
  ⟨fun j => (bcell hb).1 _ j (by simp), fun j => (bcell hb).2 _ j (by simp)⟩
/-- .. and the block that was laid ahead of a call ahead of it -/
theorem kept2 {w w1 w2 : World} {o o' : Obj} (hb1 : Below (w.alloc o).heap.size (w.alloc o) w1) (hb2 : Below (w1.alloc o').heap.size (w1.alloc o') w2) (hz : w.heap.size < w1.heap.size) :
    (∀ j, w2.cell? ⟨w.heap.size, j, none⟩ = (w.alloc o).cell? ⟨w.heap.size, j, none⟩) ∧ (∀ j, w2.frozen? ⟨w.heap.size, j, none⟩ = (w.alloc o).frozen? ⟨w.heap.size, j, none⟩) :=
  ⟨fun j => ((bcell hb2).1 _ j (by simp; omega)).trans (((bcell (balloc w1 o')).1 _ j hz).trans ((bcell hb1).1 _ j (by simp))),
   fun j => ((bcell hb2).2 _ j (by simp; omega)).trans (((bcell (balloc w1 o')).2 _ j hz).trans ((bcell hb1).2 _ j (by simp)))⟩

/-- what a text of whatever length is -/
def anyN (l : List UInt8) : Int := match readL l with
  | none => 2
  | some p => if spellB p.1 p.2.1 p.2.2 = false then 2 else 0
def anyT (l : List UInt8) : Int × List UInt8 × List UInt8 := match readL l with
  | none => (0, [], [])
  | some p => if spellB p.1 p.2.1 p.2.2 = false then (0, [], []) else p

theorem any_cases (l : List UInt8) : (anyN l = 2 ∧ anyT l = (0, [], [])) ∨ (anyN l = 0 ∧ readL l = some (anyT l) ∧ spellB (anyT l).1 (anyT l).2.1 (anyT l).2.2 = true ∧ (anyT l).2.1.length ≤ l.length ∧ (anyT l).2.2.length ≤ l.length) := by
  cases hr : readL l with
  | none => left; simp [anyN, anyT, hr]
  | some p =>
    cases hsp : spellB p.1 p.2.1 p.2.2
    · left; simp [anyN, anyT, hr, hsp]
    · right
      have e : anyT l = p := by simp [anyT, hr, hsp]
      rw [e]
      exact ⟨by simp [anyN, hr, hsp], rfl, hsp, readL_len l p hr⟩

end Go.Proofs.YtbacenhgedopjaaGreatDoor

/- Terms are in one order: plain lists, no program. -/
namespace Go.Proofs.YtbacenhgedopjaaGreatDoor
open Go Go.RowKit Go.Proofs

/-! ### one order -/
theorem cb_zero (a : List UInt8) : ∀ b, Lib.compareBytes a b = 0 ↔ a = b := by
  induction a with
  | nil => intro b; cases b <;> simp [Lib.compareBytes]
  | cons x xs ih =>
    intro b
    cases b with
    | nil => simp [Lib.compareBytes]
    | cons y ys =>
      by_cases h1 : x < y
      · simp [Lib.compareBytes, h1]; intro h; subst h; exact absurd h1 (by simp)
      · by_cases h2 : y < x
        · simp [Lib.compareBytes, h1, h2]; intro h; subst h; exact absurd h2 (by simp)
        · have : x = y := UInt8.le_antisymm (UInt8.not_lt.1 h2) (UInt8.not_lt.1 h1)
          subst this
          simp [Lib.compareBytes, ih]

theorem cb_neg (a : List UInt8) : ∀ b, Lib.compareBytes b a = - Lib.compareBytes a b := by
  induction a with
  | nil => intro b; cases b <;> simp [Lib.compareBytes]
  | cons x xs ih =>
    intro b
    cases b with
    | nil => simp [Lib.compareBytes]
    | cons y ys =>
      by_cases h1 : x < y
      · have h3 : ¬ y < x := fun h => by have := UInt8.lt_iff_toNat_lt.1 h; have := UInt8.lt_iff_toNat_lt.1 h1; omega
        simp [Lib.compareBytes, h1, h3]
      · by_cases h2 : y < x
        · simp [Lib.compareBytes, h1, h2]
        · simp [Lib.compareBytes, h1, h2, ih]

theorem cb_trans (a : List UInt8) : ∀ b c, Lib.compareBytes a b ≤ 0 → Lib.compareBytes b c ≤ 0 → Lib.compareBytes a c ≤ 0 := by
  induction a with
  | nil => intro b c _ _; cases c <;> simp [Lib.compareBytes]
  | cons x xs ih =>
    intro b c h1 h2
    cases b with
    | nil => simp [Lib.compareBytes] at h1
    | cons y ys =>
      cases c with
      | nil => simp [Lib.compareBytes] at h2
      | cons z zs =>
        by_cases a1 : x < y
        · by_cases a2 : y < z
          · have : x < z := UInt8.lt_iff_toNat_lt.2 (by have := UInt8.lt_iff_toNat_lt.1 a1; have := UInt8.lt_iff_toNat_lt.1 a2; omega)
            simp [Lib.compareBytes, this]
          · by_cases a3 : z < y
            · simp [Lib.compareBytes, a2, a3] at h2
            · have : y = z := UInt8.le_antisymm (UInt8.not_lt.1 a3) (UInt8.not_lt.1 a2)
              subst this
              simp [Lib.compareBytes, a1]
        · by_cases a0 : y < x
          · simp [Lib.compareBytes, a1, a0] at h1
          · have : x = y := UInt8.le_antisymm (UInt8.not_lt.1 a0) (UInt8.not_lt.1 a1)
            subst this
            by_cases a2 : x < z
            · simp [Lib.compareBytes, a2]
            · by_cases a3 : z < x
              · simp [Lib.compareBytes, a2, a3] at h2
              · simp only [Lib.compareBytes, a1, a2, a3, if_false] at h1 h2 ⊢
                exact ih ys zs h1 h2

theorem ci_zero (a b : Int) : Lib.compareInt a b = 0 ↔ a = b := by
  unfold Lib.compareInt; split
  · omega
  · split <;> omega
theorem ci_neg (a b : Int) : Lib.compareInt b a = - Lib.compareInt a b := by
  unfold Lib.compareInt
  repeat' split
  all_goals omega
theorem ci_trans (a b c : Int) (h1 : Lib.compareInt a b ≤ 0) (h2 : Lib.compareInt b c ≤ 0) : Lib.compareInt a c ≤ 0 := by
  unfold Lib.compareInt at *
  repeat' split
  all_goals (repeat' split at h1)
  all_goals (repeat' split at h2)
  all_goals omega

theorem cmpT_zero (k : Int) (S L : List UInt8) (k' : Int) (S' L' : List UInt8) : cmpT k S L k' S' L' = 0 ↔ k = k' ∧ S = S' ∧ L = L' := by
  have h1 := ci_zero k k'
  have h2 := cb_zero S S'
  have h3 := cb_zero L L'
  unfold cmpT orI
  by_cases q1 : Lib.compareInt k k' = 0
  · rw [if_pos q1]
    by_cases q2 : Lib.compareBytes S S' = 0
    · rw [if_pos q2]
      exact ⟨fun h => ⟨h1.1 q1, h2.1 q2, h3.1 h⟩, fun h => h3.2 h.2.2⟩
    · rw [if_neg q2]
      exact ⟨fun h => absurd h q2, fun h => absurd (h2.2 h.2.1) q2⟩
  · rw [if_neg q1]
    exact ⟨fun h => absurd h q1, fun h => absurd (h1.2 h.1) q1⟩

theorem cmpT_neg (k : Int) (S L : List UInt8) (k' : Int) (S' L' : List UInt8) : cmpT k S L k' S' L' = - cmpT k' S' L' k S L := by
  unfold cmpT orI
  rw [ci_neg k k', cb_neg S S', cb_neg L L']
  repeat' split
  all_goals omega

theorem orI_le (x y z : Int) : orI x y z ≤ 0 ↔ x < 0 ∨ (x = 0 ∧ (y < 0 ∨ (y = 0 ∧ z ≤ 0))) := by
  unfold orI
  by_cases h : x = 0
  · by_cases h' : y = 0
    · simp [h, h']
    · rw [if_pos h, if_neg h']; omega
  · rw [if_neg h]; omega

theorem cmpT_trans (k1 : Int) (S1 L1 : List UInt8) (k2 : Int) (S2 L2 : List UInt8) (k3 : Int) (S3 L3 : List UInt8)
    (h12 : cmpT k1 S1 L1 k2 S2 L2 ≤ 0) (h23 : cmpT k2 S2 L2 k3 S3 L3 ≤ 0) : cmpT k1 S1 L1 k3 S3 L3 ≤ 0 := by
  have a1 := ci_trans k1 k2 k3
  have a2 := cb_trans S1 S2 S3
  have a3 := cb_trans L1 L2 L3
  have b1 : Lib.compareInt k1 k3 = 0 → Lib.compareInt k2 k3 = - Lib.compareInt k1 k2 := fun h => by
    have := (ci_zero _ _).1 h; subst this; exact ci_neg _ _
  have b2 : Lib.compareBytes S1 S3 = 0 → Lib.compareBytes S2 S3 = - Lib.compareBytes S1 S2 := fun h => by
    have := (cb_zero _ _).1 h; subst this; exact cb_neg _ _
  have c1 : Lib.compareInt k1 k2 = 0 → Lib.compareInt k1 k3 = Lib.compareInt k2 k3 := fun h => by
    have := (ci_zero _ _).1 h; subst this; rfl
  have c2 : Lib.compareBytes S1 S2 = 0 → Lib.compareBytes S1 S3 = Lib.compareBytes S2 S3 := fun h => by
    have := (cb_zero _ _).1 h; subst this; rfl
  unfold cmpT at *
  rw [orI_le] at *
  generalize Lib.compareInt k1 k2 = x12 at *
  generalize Lib.compareInt k2 k3 = x23 at *
  generalize Lib.compareInt k1 k3 = x13 at *
  generalize Lib.compareBytes S1 S2 = y12 at *
  generalize Lib.compareBytes S2 S3 = y23 at *
  generalize Lib.compareBytes S1 S3 = y13 at *
  generalize Lib.compareBytes L1 L2 = z12 at *
  generalize Lib.compareBytes L2 L3 = z23 at *
  generalize Lib.compareBytes L1 L3 = z13 at *
  omega
end Go.Proofs.YtbacenhgedopjaaGreatDoor

/- What is shown is read, what is read is shown; terms are in one order: plain lists, no program. -/
namespace Go.Proofs.YtbacenhgedopjaaGreatDoor
open Go Go.RowKit Go.Proofs

theorem mark_cases (c : UInt8) : markB (c.toNat : Int) = true ↔ c = 34 ∨ c = 92 := by
  have h34 := byte_eq c 34
  have h92 := byte_eq c 92
  rw [show ((34 : UInt8).toNat : Int) = 34 from rfl] at h34
  rw [show ((92 : UInt8).toNat : Int) = 92 from rfl] at h92
  rw [Bool.eq_iff_iff] at h34 h92
  simp only [beq_iff_eq] at h34 h92
  simp [markB, h34, h92]

theorem escL_cons (c : UInt8) (r : List UInt8) : escL (c :: r) = (if markB (c.toNat : Int) then [92, c] else [c]) ++ escL r := by simp [escL]

theorem unq_esc (S b : List UInt8) : unqL (escL S ++ 34 :: b) = some (S, b) := by
  induction S with
  | nil => show unqL (34 :: b) = _; rw [unqL_cons]; simp
  | cons c r ih =>
    rw [escL_cons]
    cases hm : markB (c.toNat : Int)
    · have hne : ¬ (c = 34 ∨ c = 92) := fun h => by rw [(mark_cases c).2 h] at hm; cases hm
      simp only [Bool.false_eq_true, if_false, List.cons_append, List.nil_append]
      rw [unqL_cons, if_neg (fun h => hne (Or.inl h)), if_neg (fun h => hne (Or.inr h)), ih]
      rfl
    · simp only [if_true, List.cons_append, List.nil_append]
      rw [unqL_cons, if_neg (by decide), if_pos rfl]
      simp only [hm, if_true]
      rw [ih]
      rfl

theorem esc_unq (n : Nat) : ∀ (l s b : List UInt8), l.length ≤ n → unqL l = some (s, b) → l = escL s ++ 34 :: b := by
  induction n with
  | zero => intro l s b hl h; cases l with
    | nil => simp [unqL] at h
    | cons => simp at hl
  | succ n ih =>
    intro l s b hl h
    cases l with
    | nil => simp [unqL] at h
    | cons c r =>
      rw [unqL_cons] at h
      simp only [List.length_cons] at hl
      by_cases hc : c = 34
      · simp [hc] at h; obtain ⟨rfl, rfl⟩ := h; subst hc; rfl
      · rw [if_neg hc] at h
        by_cases hm : c = 92
        · rw [if_pos hm] at h
          cases r with
          | nil => simp at h
          | cons d r' =>
            simp only at h
            cases hb : markB (d.toNat : Int)
            · simp [hb] at h
            · simp only [hb, if_true, Option.map_eq_some_iff] at h
              obtain ⟨⟨s', b'⟩, h1, h2⟩ := h
              simp only [Prod.mk.injEq] at h2
              obtain ⟨rfl, rfl⟩ := h2
              have := ih r' s' b' (by simp at hl; omega) h1
              rw [escL_cons, hb, hm]
              simp [← this]
        · rw [if_neg hm, Option.map_eq_some_iff] at h
          obtain ⟨⟨s', b'⟩, h1, h2⟩ := h
          simp only [Prod.mk.injEq] at h2
          obtain ⟨rfl, rfl⟩ := h2
          have := ih r s' b' (by omega) h1
          have hm' : markB (c.toNat : Int) = false := by
            cases hx : markB (c.toNat : Int)
            · rfl
            · rcases (mark_cases c).1 hx with h | h
              · exact absurd h hc
              · exact absurd h hm
          rw [escL_cons, hm']
          simp [← this]

theorem langR_mark (L : List UInt8) (h : L = [] ∨ langOk L = true) : langR (markL L) = some L := by
  cases L with
  | nil => rfl
  | cons c r =>
    have hk : langOk (c :: r) = true := by rcases h with h | h; exact absurd h (by simp); exact h
    show langR (64 :: c :: r) = _
    simp [langR, hk]

theorem mark_langR (b L : List UInt8) (h : langR b = some L) : b = markL L ∧ (L = [] ∨ langOk L = true) := by
  cases b with
  | nil => simp [langR] at h; subst h; exact ⟨rfl, Or.inl rfl⟩
  | cons c r =>
    by_cases hc : c = 64
    · cases hk : langOk r
      · simp [langR, hc, hk] at h
      · simp [langR, hc, hk] at h
        subst h hc
        refine ⟨?_, Or.inr hk⟩
        cases r with
        | nil => simp [langOk] at hk
        | cons => rfl
    · simp [langR, hc] at h

theorem let_ne (c : UInt8) (h : letB (c.toNat : Int) = true) : c ≠ 95 ∧ c ≠ 34 := by
  refine ⟨?_, ?_⟩
  · rintro rfl; revert h; decide
  · rintro rfl; revert h; decide

theorem spell_text {S L : List UInt8} (h : spellB 3 S L = true) : L = [] ∨ langOk L = true := by
  have e : spellB 3 S L = ((L.isEmpty || langOk L) && textOk S) := rfl
  rw [e] at h
  simp only [Bool.and_eq_true, Bool.or_eq_true, List.isEmpty_iff] at h
  exact h.1

theorem read_show (k : Int) (S L : List UInt8) (hk : k = 1 ∨ k = 2 ∨ k = 3) (hsp : spellB k S L = true) : readL (showL k S L) = some (k, S, L) := by
  rcases hk with rfl | rfl | rfl
  · have e : spellB 1 S L = (L.isEmpty && nameOk S) := rfl
    rw [e] at hsp
    simp only [Bool.and_eq_true, List.isEmpty_iff] at hsp
    obtain ⟨rfl, hn⟩ := hsp
    cases S with
    | nil => simp [nameOk] at hn
    | cons c r =>
      simp only [nameOk, Bool.and_eq_true] at hn
      obtain ⟨h1, h2⟩ := let_ne c hn.1
      show readL (c :: r) = _
      simp [readL, h1, h2]
  · have e : spellB 2 S L = (L.isEmpty && anonOk S) := rfl
    rw [e] at hsp
    simp only [Bool.and_eq_true, List.isEmpty_iff] at hsp
    obtain ⟨rfl, hn⟩ := hsp
    rfl
  · have hL := spell_text hsp
    have e1 : showL 3 S L = 34 :: (escL S ++ 34 :: markL L) := by
      show quoteL S ++ markL L = _
      simp [quoteL]
    have e2 : readTextL (escL S ++ 34 :: markL L) = some (S, L) := by
      simp [readTextL, unq_esc, langR_mark L hL]
    rw [e1]
    show (readTextL (escL S ++ 34 :: markL L)).map _ = _
    rw [e2]; rfl

theorem show_read (l : List UInt8) (k : Int) (S L : List UInt8) (h : readL l = some (k, S, L)) : showL k S L = l ∧ (k = 1 ∨ k = 2 ∨ k = 3) := by
  cases l with
  | nil => simp [readL] at h; obtain ⟨rfl, rfl, rfl⟩ := h; exact ⟨rfl, Or.inl rfl⟩
  | cons c r =>
    by_cases h1 : c = 95
    · simp [readL, h1] at h; obtain ⟨rfl, rfl, rfl⟩ := h; subst h1; exact ⟨rfl, Or.inr (Or.inl rfl)⟩
    · by_cases h2 : c = 34
      · subst h2
        have e1 : readL (34 :: r) = (readTextL r).map (fun p => (3, p.1, p.2)) := rfl
        rw [e1, Option.map_eq_some_iff] at h
        obtain ⟨q, hq, h3⟩ := h
        simp only [Prod.mk.injEq] at h3
        obtain ⟨rfl, rfl, rfl⟩ := h3
        unfold readTextL at hq
        cases hu : unqL r with
        | none => simp [hu] at hq
        | some u =>
          simp only [hu] at hq
          cases hr : langR u.2 with
          | none => simp [hr] at hq
          | some L' =>
            simp [hr] at hq
            subst hq
            obtain ⟨hm, _⟩ := mark_langR _ _ hr
            have := esc_unq r.length r u.1 u.2 (Nat.le_refl _) hu
            refine ⟨?_, Or.inr (Or.inr rfl)⟩
            show quoteL u.1 ++ markL L' = _
            rw [← hm, this]
            simp [quoteL]
      · simp [readL, h1, h2] at h; obtain ⟨rfl, rfl, rfl⟩ := h; exact ⟨rfl, Or.inl rfl⟩

/-- what is shown is read as it was -/
theorem parse_show (k : Int) (S L : List UInt8) (h : checkN k S L = 0) : parseN (showL k S L) = 0 ∧ parseT (showL k S L) = (k, S, L) := by
  obtain ⟨hk, hS, hsp⟩ := check_zero h
  have hr := read_show k S L hk hsp
  have hlo : longB S = false := by simp [longB]; omega
  exact ⟨by simp [parseN, hr, hsp, hlo], by simp [parseT, hr, hsp, hlo]⟩

/-- what is read is shown as it was -/
theorem show_parse (l : List UInt8) (h : parseN l = 0) : checkN (parseT l).1 (parseT l).2.1 (parseT l).2.2 = 0 ∧ showL (parseT l).1 (parseT l).2.1 (parseT l).2.2 = l := by
  cases hr : readL l with
  | none => simp [parseN, hr] at h
  | some p =>
    obtain ⟨k, S, L⟩ := p
    cases hsp : spellB k S L
    · simp [parseN, hr, hsp] at h
    · cases hlo : longB S
      · have e : parseT l = (k, S, L) := by simp [parseT, hr, hsp, hlo]
        obtain ⟨hs, hk⟩ := show_read l k S L hr
        rw [e]
        refine ⟨?_, hs⟩
        have hkb : kindB k = true := by simp [kindB]; exact hk
        show checkN k S L = 0
        simp [checkN, hkb, hsp, hlo]
      · simp [parseN, hr, hsp, hlo] at h

theorem show_len (k : Int) (S L : List UInt8) (h : checkN k S L = 0) : (showL k S L).length ≤ 140737488355328 := by
  obtain ⟨_, hS, hsp⟩ := check_zero h
  have hL := spell_lang hsp
  have h1 := quoteL_len S
  have h2 := markL_len L
  unfold showL
  repeat' split
  all_goals (simp; try omega)

end Go.Proofs.YtbacenhgedopjaaGreatDoor

/- Words: a text cut at the blanks that are in no quotes; plain lists, no program. -/
namespace Go.Proofs.YtbacenhgedopjaaGreatDoor
open Go Go.RowKit Go.Proofs
set_option synthInstance.maxSize 1000

/-- behind the opening quotes: how far to behind the closing ones, or to the end -/
def qScan : List UInt8 → Nat
  | [] => 0
  | [c] => if c = 92 then 1 else 1
  | c :: d :: r => if c = 92 then 2 + qScan r else if c = 34 then 1 else 1 + qScan (d :: r)
def qEnd (l : List UInt8) : Nat := match l with
  | [] => 0
  | c :: r => if c = 34 then 1 + qScan r else 0

theorem qScan_le : ∀ l, qScan l ≤ l.length
  | [] => by simp [qScan]
  | [c] => by simp [qScan]
  | c :: d :: r => by
    have h1 := qScan_le r
    have h2 := qScan_le (d :: r)
    simp only [List.length_cons] at *
    unfold qScan
    repeat' split
    all_goals omega
theorem qEnd_le (l : List UInt8) : qEnd l ≤ l.length := by
  cases l with
  | nil => simp [qEnd]
  | cons c r =>
    have := qScan_le r
    unfold qEnd
    simp only [List.length_cons]
    split <;> omega

/-- a text cut at its first blank that is not between quotes -/
def cutW (l : List UInt8) : Option (List UInt8 × List UInt8) :=
  if Lib.indexByte (l.drop (qEnd l)) 32 < 0 then none else some (l.take (qEnd l + (Lib.indexByte (l.drop (qEnd l)) 32).toNat), l.drop (qEnd l + (Lib.indexByte (l.drop (qEnd l)) 32).toNat + 1))
theorem markB_iff (c : UInt8) : markB (c.toNat : Int) = true ↔ c = 34 ∨ c = 92 := by
  simp only [markB, decide_eq_true_eq]
  constructor
  · rintro (h | h)
    · left; exact UInt8.toNat_inj.1 (by simpa using (by omega : c.toNat = 34))
    · right; exact UInt8.toNat_inj.1 (by simpa using (by omega : c.toNat = 92))
  · rintro (rfl | rfl) <;> simp

theorem qScan_esc (S b : List UInt8) : qScan (escL S ++ 34 :: b) = (escL S).length + 1 := by
  induction S with
  | nil =>
    show qScan (34 :: b) = 1
    cases b <;> simp [qScan]
  | cons c r ih =>
    rw [escL_cons]
    cases hm : markB (c.toNat : Int)
    · have hc : ¬ (c = 34 ∨ c = 92) := fun h => by rw [(markB_iff c).2 h] at hm; simp at hm
      have h1 : c ≠ 92 := fun h => hc (Or.inr h)
      have h2 : c ≠ 34 := fun h => hc (Or.inl h)
      simp only [Bool.false_eq_true, if_false, List.cons_append, List.nil_append, List.length_cons]
      cases hx : escL r ++ 34 :: b with
      | nil => simp at hx
      | cons d q =>
        rw [qScan, if_neg h1, if_neg h2, ← hx, ih]
        omega
    · simp only [if_true, List.cons_append, List.nil_append, List.length_cons]
      rw [qScan, if_pos rfl, ih]
      omega

theorem indexByte_at (m r : List UInt8) (h : ∀ c ∈ m, c ≠ 32) : Lib.indexByte (m ++ 32 :: r) 32 = m.length := by
  induction m with
  | nil => simp [Lib.indexByte]
  | cons c q ih =>
    have hc : (c == 32) = false := by simpa using h c (by simp)
    have := ih (fun x hx => h x (by simp [hx]))
    rw [List.cons_append, Lib.indexByte, hc, this]
    have hne : (((q.length : Nat) : Int) == -1) = false := by simp
    rw [hne]
    simp

theorem cutW_of (u t r : List UInt8) (hq : qEnd (u ++ t ++ 32 :: r) = u.length) (ht : ∀ c ∈ t, c ≠ 32) : cutW (u ++ t ++ 32 :: r) = some (u ++ t, r) := by
  have hi : Lib.indexByte ((u ++ t ++ 32 :: r).drop (qEnd (u ++ t ++ 32 :: r))) 32 = t.length := by
    rw [hq, List.append_assoc, List.drop_left]
    exact indexByte_at t r ht
  unfold cutW
  rw [hi, if_neg (by omega), hq, Int.toNat_natCast]
  congr 1
  rw [Prod.mk.injEq]
  constructor
  · rw [show u.length + t.length = (u ++ t).length by simp, List.take_left]
  · rw [show u.length + t.length + 1 = (u ++ t ++ [32]).length by simp; omega, show u ++ t ++ 32 :: r = (u ++ t ++ [32]) ++ r by simp, List.drop_left]

theorem allB_mem {p : Int → Bool} {l : List UInt8} (h : allB p l = true) : ∀ c ∈ l, p (c.toNat : Int) = true := by
  intro c hc
  unfold allB at h
  rw [List.all_eq_true] at h
  exact h c hc

theorem cutW_show (k : Int) (S L r : List UInt8) (h : checkN k S L = 0) : cutW (showL k S L ++ 32 :: r) = some (showL k S L, r) := by
  obtain ⟨hk, hS, hsp⟩ := check_zero h
  rcases hk with rfl | rfl | rfl
  · have hs : showL 1 S L = S := rfl
    rw [hs]
    simp only [spellB, if_true, Bool.and_eq_true] at hsp
    cases S with
    | nil => simp [nameOk] at hsp
    | cons c q =>
      simp only [nameOk, Bool.and_eq_true] at hsp
      have h32 : ∀ x ∈ c :: q, x ≠ 32 := fun x hx e => by
        have := allB_mem hsp.2.2 x hx
        subst e
        simp [nameB, letB, digB] at this
      have h34 : c ≠ 34 := fun e => by
        have := hsp.2.1
        subst e
        simp [letB] at this
      exact cutW_of [] (c :: q) r (by simp [qEnd, h34]) h32
  · have hs : showL 2 S L = 95 :: S := rfl
    rw [hs]
    have hsp' : anonOk S = true := by simp [spellB] at hsp; exact hsp.2
    have h32 : ∀ x ∈ 95 :: S, x ≠ 32 := fun x hx e => by
      rcases List.mem_cons.1 hx with e' | hx'
      · rw [e] at e'; simp at e'
      · cases S with
        | nil => simp at hx'
        | cons c q =>
          have := allB_mem (show allB anonB (c :: q) = true from hsp') x hx'
          subst e
          simp [anonB, letB, digB] at this
    exact cutW_of [] (95 :: S) r (by simp [qEnd]) h32
  · have hs : showL 3 S L = quoteL S ++ markL L := rfl
    rw [hs]
    have hsp' : (L.isEmpty || langOk L) = true := by simp [spellB] at hsp; simp; exact hsp.1
    have h32 : ∀ x ∈ markL L, x ≠ 32 := fun x hx e => by
      cases L with
      | nil => simp [markL] at hx
      | cons c q =>
        have hl : langOk (c :: q) = true := by simpa using hsp'
        simp only [langOk, Bool.and_eq_true] at hl
        rcases List.mem_cons.1 (show x ∈ 64 :: c :: q from hx) with e' | hx'
        · rw [e] at e'; simp at e'
        · have := allB_mem hl.2 x hx'
          subst e
          simp [letB] at this
    refine cutW_of (quoteL S) (markL L) r ?_ h32
    have e : quoteL S ++ markL L ++ 32 :: r = 34 :: (escL S ++ 34 :: (markL L ++ 32 :: r)) := by simp [quoteL]
    rw [e]
    show (if (34 : UInt8) = 34 then 1 + qScan (escL S ++ 34 :: (markL L ++ 32 :: r)) else 0) = _
    rw [if_pos rfl, qScan_esc]
    simp [quoteL]
    omega


def togB (inn : Bool) (cur : List UInt8) (c : UInt8) : Bool := if (c == 34 && (inn || cur.isEmpty)) = true then !inn else inn
/-- the words of what is left, within quotes or not, behind what has come of the word -/
def wscan : Bool → List UInt8 → List UInt8 → List (List UInt8)
  | _, cur, [] => [cur]
  | inn, cur, [c] => if (inn && c == 92) = true then [cur ++ [c]] else if (c == 32 && !inn) = true then [cur, []] else [cur ++ [c]]
  | inn, cur, c :: d :: r => if (inn && c == 92) = true then wscan inn (cur ++ [c, d]) r else if (c == 32 && !inn) = true then cur :: wscan inn [] (d :: r) else wscan (togB inn cur c) (cur ++ [c]) (d :: r)

theorem wscan_plain (inn : Bool) (cur : List UInt8) (c : UInt8) (r : List UInt8) (h : (inn && c == 92) = false) :
    wscan inn cur (c :: r) = if (c == 32 && !inn) = true then cur :: wscan inn [] r else wscan (togB inn cur c) (cur ++ [c]) r := by
  have h' : ¬ (inn && c == 92) = true := by rw [h]; simp
  cases r with
  | nil => simp only [wscan, h, Bool.false_eq_true, if_false]
  | cons d r => rw [wscan, if_neg h']
theorem wscan_skip (cur : List UInt8) (d : UInt8) (r : List UInt8) : wscan true cur (92 :: d :: r) = wscan true (cur ++ [92, d]) r := by rw [wscan, if_pos (by decide)]
theorem wscan_last (cur : List UInt8) : wscan true cur [92] = [cur ++ [92]] := by rw [wscan, if_pos (by decide)]

theorem tog_out {cur : List UInt8} (c : UInt8) (h : cur ≠ []) : togB false cur c = false := by
  cases cur with
  | nil => exact absurd rfl h
  | cons a b => simp [togB]
theorem scan_out : ∀ (r cur : List UInt8), cur ≠ [] → wscan false cur r = if Lib.indexByte r 32 < 0 then [cur ++ r] else (cur ++ r.take (Lib.indexByte r 32).toNat) :: wscan false [] (r.drop ((Lib.indexByte r 32).toNat + 1))
  | [], cur, _ => by simp [wscan, Lib.indexByte]
  | c :: r, cur, hc => by
    rw [wscan_plain false cur c r (by simp)]
    by_cases h32 : c = 32
    · subst h32
      simp [Lib.indexByte]
    · have hb : (c == 32) = false := by simpa using h32
      have ih := scan_out r (cur ++ [c]) (by simp)
      have hge := Lib.indexByte_ge r 32
      rw [hb, if_neg (by simp), tog_out c hc, ih]
      rw [show Lib.indexByte (c :: r) 32 = if Lib.indexByte r 32 == -1 then -1 else Lib.indexByte r 32 + 1 by rw [Lib.indexByte, hb]; rfl]
      by_cases hm : Lib.indexByte r 32 = -1
      · rw [hm]; simp
      · have hm' : (Lib.indexByte r 32 == -1) = false := by simpa using hm
        rw [hm', if_neg (by omega)]
        simp only [Bool.false_eq_true, if_false]
        rw [if_neg (by omega), show (Lib.indexByte r 32 + 1).toNat = (Lib.indexByte r 32).toNat + 1 by omega]
        simp
theorem scan_in : ∀ (r cur : List UInt8), wscan true cur r = wscan false (cur ++ r.take (qScan r)) (r.drop (qScan r))
  | [], cur => by simp [wscan, qScan]
  | [c], cur => by
    have e : qScan [c] = 1 := by simp [qScan]
    rw [e]
    simp [wscan]
  | c :: d :: r, cur => by
    by_cases h92 : c = 92
    · subst h92
      rw [wscan_skip, scan_in r (cur ++ [92, d]), qScan, if_pos rfl, show 2 + qScan r = qScan r + 1 + 1 by omega]
      simp
    · have hb : (c == 92) = false := by simpa using h92
      rw [wscan_plain true cur c (d :: r) (by simp [hb]), if_neg (by simp), qScan, if_neg h92]
      by_cases h34 : c = 34
      · subst h34
        rw [if_pos rfl]
        simp [togB]
      · have hq : (c == 34) = false := by simpa using h34
        rw [if_neg h34, show togB true cur c = true by simp [togB, hq], scan_in (d :: r) (cur ++ [c]), show 1 + qScan (d :: r) = qScan (d :: r) + 1 by omega]
        simp

def wordsL (l : List UInt8) : List (List UInt8) := wscan false [] l
theorem words_eq (l : List UInt8) : wordsL l = if Lib.indexByte (l.drop (qEnd l)) 32 < 0 then [l] else l.take (qEnd l + (Lib.indexByte (l.drop (qEnd l)) 32).toNat) :: wordsL (l.drop (qEnd l + (Lib.indexByte (l.drop (qEnd l)) 32).toNat + 1)) := by
  cases l with
  | nil => simp [wordsL, wscan, qEnd, Lib.indexByte]
  | cons c r =>
    unfold wordsL
    rw [wscan_plain false [] c r (by simp)]
    by_cases h34 : c = 34
    · subst h34
      rw [show qEnd (34 :: r) = qScan r + 1 by simp [qEnd]; omega, if_neg (by decide), show togB false [] 34 = true by decide, scan_in, scan_out _ _ (by simp), List.drop_succ_cons]
      by_cases h : Lib.indexByte (r.drop (qScan r)) 32 < 0
      · rw [if_pos h, if_pos h]; simp
      · rw [if_neg h, if_neg h]
        generalize (Lib.indexByte (r.drop (qScan r)) 32).toNat = n
        rw [show qScan r + 1 + n = (qScan r + n) + 1 by omega, show qScan r + n + 1 + 1 = (qScan r + n + 1) + 1 by omega, List.take_succ_cons, List.drop_succ_cons, List.take_add, List.drop_drop]
        simp [Nat.add_assoc]
    · have hq : (c == 34) = false := by simpa using h34
      rw [show qEnd (c :: r) = 0 by simp [qEnd, h34], List.drop_zero]
      by_cases h32 : c = 32
      · subst h32
        simp [Lib.indexByte]
      · have hb : (c == 32) = false := by simpa using h32
        have hge := Lib.indexByte_ge r 32
        rw [hb, if_neg (by simp), show togB false [] c = false by simp [togB, hq], scan_out _ _ (by simp)]
        rw [show Lib.indexByte (c :: r) 32 = if Lib.indexByte r 32 == -1 then -1 else Lib.indexByte r 32 + 1 by rw [Lib.indexByte, hb]; rfl]
        by_cases hm : Lib.indexByte r 32 = -1
        · rw [hm]; simp
        · have hm' : (Lib.indexByte r 32 == -1) = false := by simpa using hm
          rw [hm', if_neg (by omega)]
          simp only [Bool.false_eq_true, if_false]
          rw [if_neg (by omega), show (Lib.indexByte r 32 + 1).toNat = (Lib.indexByte r 32).toNat + 1 by omega]
          simp
theorem words_none {l : List UInt8} (h : cutW l = none) : wordsL l = [l] := by
  rw [words_eq]
  unfold cutW at h
  by_cases hh : Lib.indexByte (l.drop (qEnd l)) 32 < 0
  · rw [if_pos hh]
  · rw [if_neg hh] at h; simp at h
theorem words_some {l a r : List UInt8} (h : cutW l = some (a, r)) : wordsL l = a :: wordsL r := by
  rw [words_eq]
  unfold cutW at h
  by_cases hh : Lib.indexByte (l.drop (qEnd l)) 32 < 0
  · rw [if_pos hh] at h; simp at h
  · rw [if_neg hh] at h
    simp only [Option.some.injEq, Prod.mk.injEq] at h
    rw [if_neg hh, h.1, h.2]

end Go.Proofs.YtbacenhgedopjaaGreatDoor
