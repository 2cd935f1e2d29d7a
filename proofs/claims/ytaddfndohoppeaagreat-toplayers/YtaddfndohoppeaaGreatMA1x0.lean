import Derived.Test.YtaddfndohoppeaaGreatMA0x1
import Derived.Shelf.GgClosure.StringsIndexFunc
import Derived.Laws.RangeString
import Derived.Laws.RangeAny
import Derived.Test.YtaddfndohoppeaaGreatMA0x5
import Derived.Test.YtaddfndohoppeaaGreatMA0x6
import Derived.Test.YtaddfndohoppeaaGreatMA0x0
import Derived.Test.YtaddfndohoppeaaGreatMA0x4
import Derived.Deep.RegionLaw

/- Patterns in plain words: what is wrong with one, which variables it has, and whether a triple fits. -/
namespace Go.Proofs.YtaddfndohoppeaaGreat
open Go Go.RowKit Go.Proofs
set_option synthInstance.maxSize 1000

/-- a slot: its variable, its term; a pattern: three slots -/
abbrev Sl := List UInt8 × Tm
abbrev Pt := Sl × Sl × Sl
def tmZero : Tm := (0, [], [])
def tmChk (x : Tm) : Int := checkN x.1 x.2.1 x.2.2

/-- is a text that is not empty a variable? -/
def spellV (v : List UInt8) : Bool := decide (v.length ≤ 10) && allB letB v
/-- what is wrong with a slot; with a pattern -/
def slotN (s : Sl) : Int := if s.1 = [] then tmChk s.2 else if spellV s.1 = false then 2 else if s.2 = tmZero then 0 else 3
def varsN (p : Pt) : Int := if slotN p.1 = 0 then (if slotN p.2.1 = 0 then slotN p.2.2 else slotN p.2.1) else slotN p.1
/-- a pattern's variables, each once -/
def addV (l : List (List UInt8)) (s : Sl) : List (List UInt8) := if s.1 = [] then l else if s.1 ∈ l then l else l ++ [s.1]
def varsL (p : Pt) : List (List UInt8) := addV (addV (addV [] p.1) p.2.1) p.2.2

/-- does a triple fit? -/
def fitsB (p : Pt) (t : Tr) : Bool :=
  (if p.1.1 = [] then decide (t.1 = p.1.2) else true) &&
  ((if p.2.1.1 = [] then decide (t.2.1 = p.2.1.2) else if p.2.1.1 = p.1.1 then decide (t.2.1 = t.1) else true) &&
  (if p.2.2.1 = [] then decide (t.2.2 = p.2.2.2) else if p.2.2.1 = p.1.1 then decide (t.2.2 = t.1) else if p.2.2.1 = p.2.1.1 then decide (t.2.2 = t.2.1) else true))

/-- a rune that is no letter a to z -/
def offR (r : Nat) : Bool := decide (r < 97) || decide (122 < r)

theorem idx_off (s : ByteArray) : ∀ (f pos : Nat), s.size ≤ pos + f → (0 ≤ Lib.idxFuncFrom offR true s f pos ↔ ∃ k, ∃ h : k < s.size, pos ≤ k ∧ letB (s[k].toNat : Int) = false)
  | 0, pos, hf => by
    simp only [Lib.idxFuncFrom]
    constructor
    · intro h; omega
    · rintro ⟨k, h, hk, _⟩; omega
  | f + 1, pos, hf => by
    unfold Lib.idxFuncFrom
    by_cases hp : pos < s.size
    · rw [if_pos hp]
      by_cases hb : s[pos].toNat < 128
      · rw [decode_ascii s pos hp hb]
        simp only
        by_cases ho : offR s[pos].toNat = true
        · rw [if_pos ho]
          refine ⟨fun _ => ⟨pos, hp, Nat.le_refl _, ?_⟩, fun _ => by omega⟩
          simp [offR] at ho
          simp [letB]; omega
        · rw [if_neg ho, idx_off s f (pos + 1) (by omega)]
          constructor
          · rintro ⟨k, h, hk, e⟩; exact ⟨k, h, by omega, e⟩
          · rintro ⟨k, h, hk, e⟩
            refine ⟨k, h, ?_, e⟩
            rcases Nat.lt_or_ge pos k with hlt | hge
            · omega
            · have hkp : k = pos := by omega
              subst hkp
              simp [offR] at ho
              simp [letB] at e
              omega
      · have hh := (decode_high s pos hp (by omega)).1
        have ho : offR (Utf8.decode s pos).1 = true := by simp [offR]; omega
        rw [if_pos ho]
        refine ⟨fun _ => ⟨pos, hp, Nat.le_refl _, ?_⟩, fun _ => by omega⟩
        simp [letB]; omega
    · rw [if_neg hp]
      constructor
      · intro h; omega
      · rintro ⟨k, h, hk, _⟩; omega

theorem offAny (s : ByteArray) : decide (0 ≤ Lib.idxFunc offR true s) = !allB letB s.data.toList := by
  have h := idx_off s s.size 0 (by omega)
  have e : (∃ k, ∃ h : k < s.size, 0 ≤ k ∧ letB (s[k].toNat : Int) = false) ↔ allB letB s.data.toList = false := by
    unfold allB
    rw [List.all_eq_false]
    constructor
    · rintro ⟨k, hk, _, e⟩
      exact ⟨s.data.toList[k]'(by simpa using hk), List.getElem_mem _, by rw [show s.data.toList[k]'(by simpa using hk) = s[k] from rfl, e]; simp⟩
    · rintro ⟨x, hx, e⟩
      obtain ⟨k, hk, rfl⟩ := List.getElem_of_mem hx
      have hk' : k < s.size := by simpa using hk
      exact ⟨k, hk', Nat.zero_le _, by rw [show s[k] = s.data.toList[k] from rfl]; simpa using e⟩
  unfold Lib.idxFunc
  cases ha : allB letB s.data.toList
  · simpa using h.2 (e.2 ha)
  · have : ¬ (0 ≤ Lib.idxFuncFrom offR true s s.size 0) := fun h0 => by
      have := e.1 (h.1 h0)
      rw [ha] at this
      cases this
    simp [this]
end Go.Proofs.YtaddfndohoppeaaGreat

/- store's hasRoom: whether one more may come. -/
namespace Go.Proofs.YtaddfndohoppeaaGreat
open Go Go.RowKit Go.Proofs Go.Maps
set_option synthInstance.maxSize 1000

/-- who comes in a range over the objects is one of them -/
theorem came_in {D : DataW Unit} {L : List Ob} (f : ObjD D L) {x : Int} (hw : (Lit.int .i64 x).wf = true) {c : List UInt8} (hat : ∀ zd, D.atKey (.int .i64 x) zd = encOb c) : getO L x = some c := by
  have h1 := (f x hw).1
  have h2 := (f x hw).2
  rw [hat] at h2
  cases hg : getO L x with
  | some b =>
    rw [hg] at h2
    rw [encOb_inj h2]
    rfl
  | none =>
    exfalso
    rw [hg] at h1
    have q1 := Maps.atKey_of_not_has h1 (encOb [])
    have q2 := Maps.atKey_of_not_has h1 (encOb [0])
    rw [hat] at q1 q2
    have := encOb_inj (q1.symm.trans q2)
    cases this
theorem at_in {D : DataW Unit} {L : List Ob} (f : ObjD D L) {key : Value} {kl : Lit} (hkey : keyOf Tryz.prog 3 key = some kl) {x : Int} (hx : key = .int .i64 x) {c : List UInt8} {yd : DataW Unit} {yp : List MemPlace} (hv : objElem (.agg #[.string ⟨c.toArray⟩]) = some (yd, yp)) (hat : ∀ zd, D.atKey kl zd = yd) :
    ∃ k : Nat, x = (k : Int) ∧ (k, c) ∈ L ∧ kl = kO (k, c) ∧ (kO (k, c)).wf = true := by
  subst hx
  obtain ⟨x', e, rfl, hw⟩ := Maps.keyOf_int_inv Tryz.underlying3 hkey
  cases e
  have hv' : some (encOb c, []) = some (yd, yp) := (objElem_mk c).symm.trans hv
  simp only [Option.some.injEq, Prod.mk.injEq] at hv'
  obtain ⟨rfl, rfl⟩ := hv'
  obtain ⟨y, hy, e1, e2⟩ := getO_some (came_in f hw hat)
  subst e2
  refine ⟨y.1, e1.symm, hy, ?_, ?_⟩
  · unfold kO; rw [e1]
  · unfold kO; rw [e1]; exact hw

theorem wrapSum (a b c : Nat) : RowKit.wrap64 (wr64 ((a + b : Nat) : Int) + (c : Int)) = wr64 ((a + (b + c) : Nat) : Int) := by
  simp only [RowKit.wrap64]
  rw [show ((a + (b + c) : Nat) : Int) = ((a + b : Nat) : Int) + (c : Int) by omega]
  exact wr64_add _ _
set_option maxHeartbeats 4000000 in
set_option maxRecDepth 100000 in
theorem Sroom_any (w : World) (s b1 b2 n : Nat) (L : List Ob) (b : List UInt8) (h : SAt w s b1 b2 n L) (hg : GoodO n L) (hb : b.length ≤ reachBytes) :
    Calls Tryz.prog 137 #[.pointer (some ⟨s, 0, none⟩), .string ⟨b.toArray⟩] w fun e w' => e = .returned (.bool (!fullO L b)) ∧ RowKit.Below w.heap.size w w' := by
  have H : Hid (SAt w s b1 b2 n L) := h
  have hlt := h.lts
  have hl2 := h.lt2
  have c1 := h.c1
  obtain ⟨D1, D2, o1, o2, f1, f2, hsz⟩ := h.two
  have F2 : Hid (ObjD D2 L) := f2
  have HG : Hid (GoodO n L) := hg
  unfold reachBytes at hb
  clear h o1 f1 f2 hsz hg
  go_enter Tryz.func137, Tryz.ntmps137
  go_wp2_with (at_range; refine wpList_range_own _ rfl _ 108 rfl 3 124 keyedIO Tryz.underlying108 objElem b2 n D2 rfl o2 ?_; intro w0 hrg0 hg0 hs0)
  go_frame
  go_loopw [5] (fun z wr => ∃ (left : Lit → Bool) (cnt : Nat) (u : Int), wr.ranges Tryz.prog 3 objElem b2 w.heap.size n D2 left cnt ∧ z = .int .i64 u ∧ Hid (u = wr64 (b.length + cameO L left : Nat)) ∧ RowKit.Below w.heap.size w wr)
    (fun _ wr => wr.rangeLeft b2 w.heap.size)
  case atStart =>
    refine ⟨_, _, _, hrg0, rfl, ?_, (RowKit.Below.refl _ w).grown hg0 (Nat.le_refl _) (fun k e => by cases e)⟩
    show _ = _
    rw [cameO_start fun x hx => ?_, wr64_id (by omega) (by omega)]
    · rfl
    · have hx' := HG.out.low x hx
      have hbig := H.out.big
      rw [show kO x = .int .i64 (x.1 : Int) from rfl, (F2.out _ (wfO (by omega) (by omega))).1]
      exact getO_isSome.2 ⟨x, hx, rfl⟩
  case round =>
    obtain ⟨left, cnt, u, hrg, rfl, hu, hbr⟩ := hrel
    go_wp2_with (at_next; refine wpList_next_ranges _ rfl _ rfl 3 keyedIO objElem (fun x : Int => .int .i64 x) (fun c : List UInt8 => .agg #[.string ⟨c.toArray⟩]) (fun key kl hk => by obtain ⟨x, hx, _⟩ := Maps.keyOf_int_inv Tryz.underlying3 hk; exact ⟨x, hx⟩) (fun v y hy => by obtain ⟨c, hc, _⟩ := objElem_form hy; exact ⟨c, hc⟩) b2 w.heap.size n D2 left cnt rfl hrg ?_ ?_)
    · intro hc0 hl0
      have HS := H.out.below hbr
      have HL := SLen_any _ s b1 b2 n L HS
      have hfin : Hid ((!fullO L b) = (decide ((L.length : Int) < 300) && decide (u ≤ 60000))) := by
        have hz := hu.out
        rw [cameO_end hl0] at hz
        show _ = _
        unfold fullO
        rw [← hz]
        by_cases q1 : (L.length : Int) < 300
        · by_cases q2 : u ≤ 60000
          · rw [decide_eq_true q1, decide_eq_true q2, decide_eq_false (by omega)]; rfl
          · rw [decide_eq_true q1, decide_eq_false q2, decide_eq_true (by omega)]; rfl
        · rw [decide_eq_false q1, decide_eq_true (by omega)]; rfl
      clear HS hrg hu
      by_cases q1 : (L.length : Int) < 300
      · go_wp2_with (go_at_call 174; refine HL.mono ?_; rintro e w' ⟨rfl, rfl⟩; dsimp only)
        go_ret
        refine ⟨?_, hbr⟩
        rw [hfin.out, decide_eq_true q1]
        simp
      · go_wp2_with (go_at_call 174; refine HL.mono ?_; rintro e w' ⟨rfl, rfl⟩; dsimp only)
        go_ret
        refine ⟨?_, hbr⟩
        rw [hfin.out, decide_eq_false (show ¬ ((L.length : Int) < 300) by omega)]
        simp
    · intro x c kl yd yp w2 cnt2 hkey hlk hv hat hrg2 hlt2 hg2 hs2 hen
      obtain ⟨k, rfl, hk, rfl, hw⟩ := at_in F2.out hkey rfl hv hat
      have hstep := cameO_step HG.out.rise hk hw hlk
      have hb3 := bstep (hbr.grown hg2 hbr.size (fun j e => by cases e; exact Nat.le_refl _)) (balloc w2 (.cells #[.string ⟨c.toArray⟩] 124))
      have hrg3 := hrg2.alloc (.cells #[.string ⟨c.toArray⟩] 124)
      have hle := hrg.left_eq
      clear hs2 hkey hat hv hrg hg2 hrg2
      go_wp2_with fail
      go_roundw
      case rel =>
        refine ⟨_, cnt2, _, hrg3, rfl, ?_, hb3⟩
        show _ = _
        rw [hstep, hu.out]
        exact wrapSum _ _ _
      case measure => rw [hrg3.left_eq, hle]; exact hlt2
end Go.Proofs.YtaddfndohoppeaaGreat

/- store's Put. -/
namespace Go.Proofs.YtaddfndohoppeaaGreat
open Go Go.RowKit Go.Proofs Go.Maps
set_option synthInstance.maxSize 1000

theorem Offs.blk {O : Nat → Prop} {w w' : World} {b : Nat} (hg : w.grownBy w' (some b)) (hb : O b) : Offs O w w' := Offs.of_grown hg fun k e => by cases e; exact hb
theorem Offs.set {O : Nat → Prop} {w : World} {p : Addr} {v : Value} (hp : O p.block) : Offs O w (w.setCell p v) :=
  ⟨rfl, rfl, rfl, by simp, fun k _ hO => heap_setCell_other _ _ _ _ fun e => hO (e ▸ hp)⟩

set_option maxHeartbeats 4000000 in
set_option maxRecDepth 100000 in
theorem SPut_any (w : World) (s b1 b2 n : Nat) (L : List Ob) (b : List UInt8) (h : SAt w s b1 b2 n L) (hg : GoodO n L) (hn : n ≤ 1000000) (hb : b.length ≤ reachBytes) :
    Calls Tryz.prog 88 #[.pointer (some ⟨s, 0, none⟩), .string ⟨b.toArray⟩] w fun e w' => e = .returned (.tuple #[.int .i64 (putI n L b : Int), errV (putE L b)]) ∧ SAt w' s b1 b2 (putM n L b) (putL n L b) ∧ Offs (ownO s b1 b2) w w' := by
  have hml : b.length ≤ maxLen := by unfold reachBytes at hb; unfold maxLen; omega
  have hcl : b.length ≤ 281474976710656 := by unfold reachBytes at hb; omega
  have hlk := look_num h b hml
  have H : Hid (SAt w s b1 b2 n L) := h
  have HG : Hid (GoodO n L) := hg
  have hlt := h.lts
  have c0 := h.c0
  by_cases hf : findO L b ≠ 0
  · have e1 : putI n L b = findO L b := if_pos hf
    have e2 : putE L b = 0 := if_pos hf
    have e3 : putM n L b = n := if_pos hf
    have e4 : putL n L b = L := if_pos hf
    rw [e1, e2, e3, e4]
    rw [decide_eq_true hf] at hlk
    clear e1 e2 e3 e4 hf h hg HG hb hml hcl
    generalize findO L b = k at *
    go_enter Tryz.func88, Tryz.ntmps88
    go_wp2_with fail
    exact bodyPost_ret (v := .tuple #[.int .i64 (k : Int), .nilIface]) (by unfold results; rw [Tryz.results88]; go_simp) rfl ⟨rfl, H.out, Offs.of_below (RowKit.Below.refl _ w)⟩
  · have hf0 : findO L b = 0 := by simpa using hf
    have e1 : putI n L b = if fullO L b = true then 0 else n + 1 := if_neg hf
    have e2 : putE L b = if fullO L b = true then 4 else 0 := if_neg hf
    have e3 : putM n L b = if fullO L b = true then n else n + 1 := if_neg hf
    have e4 : putL n L b = if fullO L b = true then L else L ++ [(n + 1, b)] := if_neg hf
    rw [e1, e2, e3, e4]
    rw [hf0] at hlk
    have hroom := Sroom_any w s b1 b2 n L b h hg hb
    have HF : Hid (findO L b = 0) := hf0
    have HB : Hid (b.length ≤ reachBytes) := hb
    clear e1 e2 e3 e4 hf hf0 h hg hb
    cases hfull : fullO L b with
    | true =>
      rw [hfull] at hroom
      simp only [if_true]
      clear hfull
      go_enter Tryz.func88, Tryz.ntmps88
      go_wp2_with (go_at_call 137; refine hroom.mono ?_; rintro e w1 ⟨rfl, hb1⟩; dsimp only)
      exact bodyPost_ret (v := .tuple #[.int .i64 0, .iface 82 (.int .i64 4)]) (by unfold results; rw [Tryz.results88]; go_simp) rfl ⟨rfl, H.out.below hb1, Offs.of_below hb1⟩
    | false =>
      rw [hfull] at hroom
      simp only [Bool.false_eq_true, if_false]
      clear hfull
      have c2 : ∀ W, RowKit.Below w.heap.size w W → W.cell? ⟨s, 2, none⟩ = some (.int .i64 (n : Int)) ∧ W.frozen? ⟨s, 2, none⟩ = false := fun W hW => ⟨(H.out.below hW).c2, (H.out.below hW).fz⟩
      go_enter Tryz.func88, Tryz.ntmps88
      go_wp2_with (first
        | (go_at_call 137; refine hroom.mono ?_; rintro e w1 ⟨rfl, hb1⟩; dsimp only)
        | (go_at_call 57; refine (SClone_any b _ hcl).mono ?_; rintro e w2 ⟨rfl, hb2⟩; dsimp only
           have hbW := bstep hb1 hb2
           obtain ⟨cc2, cf2⟩ := c2 _ hbW
           have hlt2 : s < w2.heap.size := by have := hbW.size; omega))
      clear hlk hroom c2 cc2 cf2 c0 hb1 hb2
      have HS := H.out.below hbW
      have hO : Offs (ownO s b1 b2) w (w2.setCell ⟨s, 2, none⟩ (.int .i64 ((n : Int) + 1))) := (Offs.of_below hbW).trans (Offs.set (O := ownO s b1 b2) (Or.inl rfl)) fun _ h => Or.inl h
      have k0 : (w2.setCell ⟨s, 2, none⟩ (.int .i64 ((n : Int) + 1))).cell? ⟨s, 0, none⟩ = some (.map (some b1)) := by rw [World.cell?_setCell_other _ _ _ _ (by simp)]; exact HS.c0
      have k1 : (w2.setCell ⟨s, 2, none⟩ (.int .i64 ((n : Int) + 1))).cell? ⟨s, 1, none⟩ = some (.map (some b2)) := by rw [World.cell?_setCell_other _ _ _ _ (by simp)]; exact HS.c1
      have k2 : (w2.setCell ⟨s, 2, none⟩ (.int .i64 ((n : Int) + 1))).cell? ⟨s, 2, none⟩ = some (.int .i64 ((n : Int) + 1)) := World.cell?_setCell_same _ _ _ HS.c2
      have kf : (w2.setCell ⟨s, 2, none⟩ (.int .i64 ((n : Int) + 1))).frozen? ⟨s, 2, none⟩ = false := by rw [World.frozen?_setCell]; exact HS.fz
      obtain ⟨D1, D2, o1, o2, f1, f2, hs⟩ := HS.two
      have p1 := o1.setCell (a := ⟨s, 2, none⟩) (Ne.symm HS.n1) (.int .i64 ((n : Int) + 1))
      have p2 := o2.setCell (a := ⟨s, 2, none⟩) (Ne.symm HS.n2) (.int .i64 ((n : Int) + 1))
      clear o1 o2
      generalize w2.setCell ⟨s, 2, none⟩ (.int .i64 ((n : Int) + 1)) = W at *
      have hzW : s < W.heap.size := World.block_lt_of_cell? W _ k0
      have hw1 : (Lit.int .i64 ((n : Int) + 1)).wf = true := wfO (by omega) (by omega)
      obtain ⟨W4, hr4, o14, g4⟩ := World.ownsMap.update (w := W.drew) p1.drew keyedSO Tryz.underlying73 (by unfold maxLen; omega) (keyS b hml) (plainElem_int Tryz.underlying3 hw1)
      have o24 := (World.ownsMap.drew p2).kept g4 (by simp; exact Ne.symm HS.ne)
      obtain ⟨W5, hr5, o25, g5⟩ := World.ownsMap.update (w := W4.drew) o24.drew keyedIO Tryz.underlying108 (by unfold maxLen; omega) (keyN hw1) (objElem_mk b)
      have o15 := (World.ownsMap.drew o14).kept g5 (by simp; exact HS.ne)
      have q4 : W4.heap[s]? = W.heap[s]? := g4.block s hzW (by simp; exact HS.n1)
      have q5 : W5.heap[s]? = W.heap[s]? := (g5.block s (Nat.lt_of_lt_of_le hzW g4.size) (by simp; exact HS.n2)).trans q4
      have z4 : s < W4.heap.size := Nat.lt_of_lt_of_le hzW g4.size
      have z5 : s < W5.heap.size := Nat.lt_of_lt_of_le z4 g5.size
      have hfin : Hid (SAt W5 s b1 b2 (n + 1) (L ++ [(n + 1, b)])) := by
        have ft := o24.tidy keyedIO
        refine ⟨HS.ne, HS.n1, HS.n2, (World.cell?_of_block (w := W) q5).trans k0, (World.cell?_of_block (w := W) q5).trans k1, (World.cell?_of_block (w := W) q5).trans k2, (World.frozen?_of_block (w := W) q5).trans kf, ⟨_, _, o15, o25, ?_, ?_, ?_⟩, ?_, by omega⟩
        · exact f1.put p1.isMap HF.out (fun x hx => (HG.out.low x hx).1) hml
        · exact f2.put p2.isMap fun x hx => (HG.out.low x hx).2
        · exact f2.size_put ft (fun x hx => (HG.out.low x hx).2) hn hs
        · intro x hx
          rcases List.mem_append.1 hx with hx | hx
          · exact HS.short x hx
          · simp at hx; subst hx; exact HB.out
      have hoff : Hid (Offs (ownO s b1 b2) w W5) := by
        have a1 : Offs (ownO s b1 b2) W W4 := (Offs.of_below (RowKit.Below.refl _ W).drew).trans (Offs.blk (O := ownO s b1 b2) g4 (Or.inr (Or.inl rfl))) fun _ h => Or.inl h
        have a2 : Offs (ownO s b1 b2) W4 W5 := (Offs.of_below (RowKit.Below.refl _ W4).drew).trans (Offs.blk (O := ownO s b1 b2) g5 (Or.inr (Or.inr rfl))) fun _ h => Or.inl h
        exact (hO.trans a1 fun _ h => Or.inl h).trans a2 fun _ h => Or.inl h
      have d1 : W4.cell? ⟨s, 1, none⟩ = some (.map (some b2)) := (World.cell?_of_block (w := W) q4).trans k1
      have d2 : W4.cell? ⟨s, 2, none⟩ = some (.int .i64 ((n : Int) + 1)) := (World.cell?_of_block (w := W) q4).trans k2
      have d5 : W5.cell? ⟨s, 2, none⟩ = some (.int .i64 ((n : Int) + 1)) := (World.cell?_of_block (w := W) q5).trans k2
      clear o14 o24 o25 o15 g4 g5 q4 q5 p1 p2 f1 f2 hs HS hO hbW HF HB HG H hml hcl k1 kf hw1 hlt2
      unfold valOb at hr5
      go_region
      go_wp2_with fail
      go_region
      go_wp2_with fail
      exact bodyPost_ret (v := .tuple #[.int .i64 ((n + 1 : Nat) : Int), .nilIface]) (by unfold results; rw [Tryz.results88]; go_simp) rfl ⟨rfl, hfin.out, hoff.out⟩
end Go.Proofs.YtaddfndohoppeaaGreat

/- The program's store keeps the face's contracts. -/
namespace Go.Proofs.YtaddfndohoppeaaGreat
open Go Go.RowKit Go.Proofs Go.Maps
set_option synthInstance.maxSize 1000

def theFace : Face := {
  lim := reachBytes
  At := StoreAt
  own := by
    rintro w s O n L ⟨b1, b2, h, hO⟩ j hj
    rcases (hO j).1 hj with rfl | rfl | rfl
    · exact h.lts
    · exact h.lt1
    · exact h.lt2
  keep := by
    rintro w w' s O n L ⟨b1, b2, h, hO⟩ hk
    exact ⟨b1, b2, h.kept (hk _ ((hO _).2 (Or.inl rfl))) (hk _ ((hO _).2 (Or.inr (Or.inl rfl)))) (hk _ ((hO _).2 (Or.inr (Or.inr rfl)))), hO⟩
  new := by
    intro w
    refine (SNew_any w).mono ?_
    rintro e w' ⟨rfl, h, hb⟩
    refine ⟨_, ownO (w.heap.size + 2) w.heap.size (w.heap.size + 1), rfl, ⟨_, _, h, fun _ => Iff.rfl⟩, hb, fun j hj => ?_⟩
    rcases hj with rfl | rfl | rfl <;> omega
  put := by
    rintro w s O n L b ⟨b1, b2, h, hO⟩ hg hn hb
    refine (SPut_any w s b1 b2 n L b h hg hn hb).mono ?_
    rintro e w' ⟨rfl, h', ho⟩
    exact ⟨rfl, O, ⟨b1, b2, h', hO⟩, ho.mono fun j hj => Or.inl ((hO j).2 hj), fun j hj => Or.inl hj⟩
  get := by
    rintro w s O n L id ⟨b1, b2, h, hO⟩ hg
    exact SGet_any w s b1 b2 n L id h hg.low
  find := by
    rintro w s O n L b ⟨b1, b2, h, hO⟩ hg hb
    exact SFind_any w s b1 b2 n L b h (by unfold reachBytes at hb; unfold maxLen; omega)
  len := by
    rintro w s O n L ⟨b1, b2, h, hO⟩ hg
    refine (SLen_any w s b1 b2 n L h).mono ?_
    rintro e w' ⟨rfl, rfl⟩
    exact ⟨rfl, RowKit.Below.refl _ _⟩
}
theorem theFace_lim : theFace.lim = reachBytes := rfl
end Go.Proofs.YtaddfndohoppeaaGreat

/- The program's repo in memory: its store, its commits, its branches by name. -/
namespace Go.Proofs.YtaddfndohoppeaaGreat
open Go Go.RowKit Go.Proofs Go.Maps
set_option synthInstance.maxSize 1000

/-! ### branches in a map -/
theorem patR_some {l : List Rf} {b : List UInt8} (h : 0 ≤ atR l b) : ∃ n : Nat, atR l b = (n : Int) := ⟨(atR l b).toNat, by omega⟩
theorem patR_none {l : List Rf} {b : List UInt8} (h : ¬ 0 ≤ atR l b) : atR l b = -1 := by have := atR_ge l b; omega
theorem patR_lead {l : List Rf} (hl : ByName l) (b : List UInt8) (t : Nat) (x : List UInt8) : atR (leadR l b t) x = if x = b then (t : Int) else atR l x := by
  split
  · rename_i e
    subst e
    exact (atR_mem (hl.lead x t)).2 (mem_lead.2 (Or.inl rfl))
  · rename_i e
    by_cases h0 : 0 ≤ atR l x
    · obtain ⟨n, hn⟩ := patR_some h0
      rw [hn]
      exact (atR_mem (hl.lead b t)).2 (mem_lead.2 (Or.inr ⟨(atR_mem hl).1 hn, e⟩))
    · rw [patR_none h0]
      refine patR_none fun h1 => ?_
      have hno := atR_neg.1 (show atR l x < 0 by omega)
      have : atR (leadR l b t) x < 0 := atR_neg.2 fun y hy hx => by
        rcases mem_lead.1 hy with rfl | ⟨h2, _⟩
        · exact e hx.symm
        · exact hno y h2 hx
      omega
theorem patR_drop {l : List Rf} (hl : ByName l) (b x : List UInt8) : atR (dropL l b) x = if x = b then -1 else atR l x := by
  split
  · rename_i e
    subst e
    refine patR_none fun h1 => ?_
    have : atR (dropL l x) x < 0 := atR_neg.2 fun y hy => by simpa using (List.mem_filter.1 hy).2
    omega
  · rename_i e
    by_cases h0 : 0 ≤ atR l x
    · obtain ⟨n, hn⟩ := patR_some h0
      rw [hn]
      exact (atR_mem (hl.drop b)).2 (List.mem_filter.2 ⟨(atR_mem hl).1 hn, by simpa using e⟩)
    · rw [patR_none h0]
      refine patR_none fun h1 => ?_
      have hno := atR_neg.1 (show atR l x < 0 by omega)
      have : atR (dropL l b) x < 0 := atR_neg.2 fun y hy => hno y (List.mem_filter.1 hy).1
      omega
theorem pdrop_one {l : List Rf} (hl : ByName l) {b : List UInt8} (h : 0 ≤ atR l b) : (dropL l b).length + 1 = l.length := by
  induction l with
  | nil => simp [atR] at h
  | cons x r ih =>
    obtain ⟨h1, h2⟩ := List.pairwise_cons.1 hl
    unfold dropL
    rw [List.filter_cons]
    by_cases e : x.1 = b
    · rw [if_neg (by simpa using e)]
      have : (r.filter fun x => decide (x.1 ≠ b)) = r := List.filter_eq_self.2 fun y hy => by
        have h9 := h1 y hy
        simp only [decide_eq_true_eq]
        rintro rfl
        rw [e] at h9
        exact List.lt_irrefl _ h9
      rw [this]
      rfl
    · rw [if_pos (by simpa using e)]
      unfold atR at h
      rw [if_neg e] at h
      have := ih h2 h
      unfold dropL at this
      simp only [List.length_cons]
      omega
def brI (l : List Rf) (t : List UInt8) : Int := if 0 ≤ atR l t then atR l t else 0
def BrD (D : DataW Unit) (l : List Rf) : Prop := ∀ t : List UInt8, t.length ≤ maxLen → Maps.has D (.string t) = decide (0 ≤ atR l t) ∧ D.atKey (.string t) (.lit (.int .i64 0)) = .lit (.int .i64 (brI l t))
theorem BrD.nil : BrD (.map []) [] := fun t _ => ⟨by simp [Maps.has_eq, atR], by simp [DataW.atKey, brI, atR]⟩
theorem BrD.put {D : DataW Unit} {l : List Rf} (h : BrD D l) (hm : IsMap D) (hl : ByName l) {b : List UInt8} (hb : b.length ≤ maxLen) (t : Nat) : BrD (D.put (.string b) (.lit (.int .i64 (t : Int)))) (leadR l b t) := by
  intro x hx
  unfold brI
  rw [patR_lead hl]
  by_cases e : x = b
  · subst e
    have hk := keyedSO.key (keyS x hb)
    rw [Maps.has_put_same hm hk, Maps.atKey_put_same hm hk, if_pos rfl]
    exact ⟨by simp, by rw [if_pos (by omega)]⟩
  · have hne : (Lit.string x) ≠ (Lit.string b) := fun e' => e (by simpa using e')
    rw [Maps.has_put_other hne, Maps.atKey_put_other hne, if_neg e]
    exact h x hx
theorem BrD.less {D : DataW Unit} {l : List Rf} (h : BrD D l) (hl : ByName l) (b : List UInt8) : BrD (D.del (.string b)) (dropL l b) := by
  intro x hx
  unfold brI
  rw [patR_drop hl]
  by_cases e : x = b
  · subst e
    rw [Maps.has_del_same, Maps.atKey_del_same, if_pos rfl]
    exact ⟨by simp, by rw [if_neg (by omega)]⟩
  · have hne : (Lit.string x) ≠ (Lit.string b) := fun e' => e (by simpa using e')
    rw [Maps.has_del_other hne, Maps.atKey_del_other hne, if_neg e]
    exact h x hx
theorem BrD.size_put {D : DataW Unit} {l : List Rf} (h : BrD D l) (ht : Tidy D) (hl : ByName l) {b : List UInt8} (hb : b.length ≤ maxLen) (t : Nat) (hs : Maps.size D = l.length) : Maps.size (D.put (.string b) (.lit (.int .i64 (t : Int)))) = (leadR l b t).length := by
  rw [Maps.size_put ht, (h b hb).1, hs, lead_len]
  by_cases h0 : 0 ≤ atR l b
  · have := pdrop_one hl h0
    rw [decide_eq_true h0]
    simp only [if_true]
    omega
  · rw [decide_eq_false h0, drop_len_none (by omega)]
    simp
theorem own_few {R : Value → Option (DataW Unit × List MemPlace)} {k : TypeId} {w : World} {b n : Nat} {D : DataW Unit} (h : w.ownsMap Tryz.prog k R b n D) (hs : Maps.size D ≤ 100) : w.ownsMap Tryz.prog k R b 100 D := by
  obtain ⟨es, clock, hm, F, hn, rfl⟩ := h
  refine ⟨es, clock, hm, F, ?_, rfl⟩
  have e : Maps.size (.map ((es.toList.map (Go.WideElems.rg Tryz.prog k R)).foldr DataW.insert [])) = es.size := by
    show ((es.toList.map (Go.WideElems.rg Tryz.prog k R)).foldr DataW.insert []).length = es.size
    rw [length_sorted]
    simp
  omega

/-! ### the repo -/
/-- commits in a row of one's own, the parents' numbers in blocks of P -/
def ComRow (w : World) (cv : Value) (l : List Cm) (P : Nat → Prop) : Prop := ∃ cs : List Value, w.ownsRow 0 40 3 cv l.length cs ∧ ∀ (i : Nat) (hi : i < l.length), ∃ a c, cs[i * 3]? = some (.slice a l[i].1.length c) ∧ cs[i * 3 + 1]? = some (.int .i64 l[i].2.1) ∧ cs[i * 3 + 2]? = some (.string ⟨l[i].2.2.toArray⟩) ∧ SlI w a l[i].1 ∧ l[i].1.length ≤ c ∧ (l[i].1 ≠ [] → ∀ d, a = some d → P d.block)
def BrMap (w : World) (bm : Nat) (l : List Rf) : Prop := ∃ D : DataW Unit, w.ownsMap Tryz.prog 9 (plainElem Tryz.prog 3) bm 100 D ∧ BrD D l ∧ Maps.size D = l.length
/-- the repo at block r: its store at s, its branches at bm -/
structure RpW (w : World) (r s bm : Nat) (cv : Value) (OS P : Nat → Prop) (R : Rp) : Prop where
  blk : w.heap[r]? = some (.cells #[.pointer (some ⟨s, 0, none⟩), cv, .map (some bm)] 75)
  st : theFace.At w s OS R.n R.L
  com : ComRow w cv R.coms P
  map : BrMap w bm R.refs
  link : Linked R
  plt : ∀ j, P j → j < w.heap.size
  ap1 : ¬ OS r ∧ ¬ OS bm ∧ r ≠ bm
  ap2 : ∀ j, cv.ownBlock = some j → ¬ OS j ∧ j ≠ r ∧ j ≠ bm ∧ ¬ P j
  ap3 : ∀ j, P j → ¬ OS j ∧ j ≠ r ∧ j ≠ bm
def RpO (r bm : Nat) (cv : Value) (OS P : Nat → Prop) (j : Nat) : Prop := j = r ∨ j = bm ∨ cv.ownBlock = some j ∨ P j ∨ OS j
theorem RpW.lt {w : World} {r s bm : Nat} {cv : Value} {OS P : Nat → Prop} {R : Rp} (h : RpW w r s bm cv OS P R) : r < w.heap.size := (Array.getElem?_eq_some_iff.1 h.blk).1
theorem RpW.own {w : World} {r s bm : Nat} {cv : Value} {OS P : Nat → Prop} {R : Rp} (h : RpW w r s bm cv OS P R) : ∀ j, RpO r bm cv OS P j → j < w.heap.size := by
  obtain ⟨cs, hc, _⟩ := h.com
  obtain ⟨D, ho, _⟩ := h.map
  rintro j (rfl | rfl | hj | hj | hj)
  · exact h.lt
  · exact ho.lt
  · exact (hc.lt j hj).2
  · exact h.plt j hj
  · exact theFace.own h.st j hj
theorem prow_keep {w w' : World} {base : Nat} {e : TypeId} {sz : Nat} {v : Value} {n : Nat} {cs : List Value} (h : w.ownsRow base e sz v n cs) (hb : ∀ j, v.ownBlock = some j → w'.heap[j]? = w.heap[j]?) : w'.ownsRow base e sz v n cs := by
  refine ⟨h.1, ?_⟩
  rcases h.2 with h0 | ⟨g, cap, cur, hv, hg, hm, r⟩
  · exact Or.inl h0
  · exact Or.inr ⟨g, cap, cur, hv, hg, (hb g (by rw [hv]; rfl)).trans hm, r⟩
theorem psl_keep {w w' : World} {ad : Option Addr} {l : List Int} (h : SlI w ad l) (hb : l ≠ [] → ∀ d, ad = some d → w'.heap[d.block]? = w.heap[d.block]?) : SlI w' ad l := fun hl => by
  obtain ⟨b, o, e, h1⟩ := h hl
  have q := hb hl _ e
  exact ⟨b, o, e, fun j hj => (World.cell?_of_block (w := w) (a := ⟨b, o + j, none⟩) q).trans (h1 j hj)⟩
theorem ComRow.keep {w w' : World} {cv : Value} {l : List Cm} {P : Nat → Prop} (h : ComRow w cv l P) (h1 : ∀ j, cv.ownBlock = some j → w'.heap[j]? = w.heap[j]?) (h2 : ∀ j, P j → w'.heap[j]? = w.heap[j]?) : ComRow w' cv l P := by
  obtain ⟨cs, hc, hc2⟩ := h
  refine ⟨cs, prow_keep hc h1, fun i hi => ?_⟩
  obtain ⟨a, c, q1, q2, q3, q4, q5, q6⟩ := hc2 i hi
  exact ⟨a, c, q1, q2, q3, psl_keep q4 fun hl d hd => h2 _ (q6 hl d hd), q5, q6⟩
theorem BrMap.keep {w w' : World} {bm : Nat} {l : List Rf} (h : BrMap w bm l) (hb : w'.heap[bm]? = w.heap[bm]?) : BrMap w' bm l := by
  obtain ⟨D, ho, r⟩ := h
  exact ⟨D, ownsMap_block ho hb, r⟩
theorem RpW.keep {w w' : World} {r s bm : Nat} {cv : Value} {OS P : Nat → Prop} {R : Rp} (h : RpW w r s bm cv OS P R) (hb : ∀ j, RpO r bm cv OS P j → w'.heap[j]? = w.heap[j]?) : RpW w' r s bm cv OS P R :=
  ⟨(hb r (Or.inl rfl)).trans h.blk, theFace.keep h.st fun j hj => hb j (Or.inr (Or.inr (Or.inr (Or.inr hj)))), h.com.keep (fun j hj => hb j (Or.inr (Or.inr (Or.inl hj)))) (fun j hj => hb j (Or.inr (Or.inr (Or.inr (Or.inl hj))))), h.map.keep (hb bm (Or.inr (Or.inl rfl))), h.link,
   fun j hj => by
     have h1 := h.plt j hj
     have h2 := hb j (Or.inr (Or.inr (Or.inr (Or.inl hj))))
     obtain ⟨o, ho⟩ : ∃ o, w.heap[j]? = some o := ⟨w.heap[j], Array.getElem?_eq_getElem h1⟩
     exact (Array.getElem?_eq_some_iff.1 (h2.trans ho)).1,
   h.ap1, h.ap2, h.ap3⟩
theorem RpW.below {w w' : World} {r s bm : Nat} {cv : Value} {OS P : Nat → Prop} {R : Rp} (h : RpW w r s bm cv OS P R) (hb : RowKit.Below w.heap.size w w') : RpW w' r s bm cv OS P R :=
  h.keep fun j hj => hb.block j (h.own j hj)
theorem RpW.cells {w : World} {r s bm : Nat} {cv : Value} {OS P : Nat → Prop} {R : Rp} (h : RpW w r s bm cv OS P R) : w.cell? ⟨r, 0, none⟩ = some (.pointer (some ⟨s, 0, none⟩)) ∧ w.cell? ⟨r, 1, none⟩ = some cv ∧ w.cell? ⟨r, 2, none⟩ = some (.map (some bm)) ∧ w.frozen? ⟨r, 1, none⟩ = false := by
  have h := h.blk
  refine ⟨?_, ?_, ?_, ?_⟩ <;> simp [World.cell?, World.frozen?, h]
/-- what a caller of the repo knows of it -/
def RepAt (w : World) (r : Nat) (O : Nat → Prop) (R : Rp) : Prop := ∃ s bm cv OS P, RpW w r s bm cv OS P R ∧ ∀ j, O j ↔ RpO r bm cv OS P j

/-- the commits' slice -/
theorem ComRow.form {w : World} {cv : Value} {l : List Cm} {P : Nat → Prop} (h : ComRow w cv l P) : ∃ ad cap, cv = .slice ad l.length cap := by
  obtain ⟨cs, hc, _⟩ := h
  exact prow_form hc
end Go.Proofs.YtaddfndohoppeaaGreat

/- repo's isName, has, hasBranch, hasRoom, Head, Object: what they tell. -/
namespace Go.Proofs.YtaddfndohoppeaaGreat
open Go Go.RowKit Go.Proofs Go.Maps
set_option synthInstance.maxSize 1000

attribute [local go_sem] eql_errV neq_errV guard_errV

theorem roff_any (x : Nat) (w : World) : Calls Tryz.prog 50 #[.int .i32 x] w fun e w' => e = .returned (.bool (offR x)) ∧ ∃ q, w' = w.drewN q := by
  have fin : Hid (offR x = (decide (x < 97) || decide (122 < x))) := rfl
  by_cases h : x < 97
  · have h' : decide ((x : Int) < 97) = true := by simp; omega
    go_enter Tryz.func50, Tryz.ntmps50
    go_wp2
    go_ret
    exact ⟨ret_bool (by rw [fin.out]; simp [h]), 0, rfl⟩
  · have h' : decide ((x : Int) < 97) = false := by simp; omega
    go_enter Tryz.func50, Tryz.ntmps50
    go_wp2
    go_ret
    exact ⟨ret_bool (by rw [fin.out]; simp [h]; omega), 0, rfl⟩
theorem entersName : ∀ args w, (callFunc 50 args).run Tryz.prog w = .ok (.enter 50 args) w := enters_of Tryz.func50 (by kernel_rfl) rfl

theorem QIsName_any (v : List UInt8) (w : World) (hv : v.length ≤ maxLen) :
    Calls Tryz.prog 23 #[.string ⟨v.toArray⟩] w fun e w' => e = .returned (.bool (nameR v)) ∧ RowKit.Below w.heap.size w w' := by
  have H := fun W => Tryz.strings_ContainsFunc 50 #[] entersName offR ⟨v.toArray⟩ W (fun W' x _ => roff_any x W')
  have e : decide (0 ≤ Lib.idxFunc offR true ⟨v.toArray⟩) = !allB letB v := offAny ⟨v.toArray⟩
  rw [e] at H
  have fin : Hid (nameR v = (!v.isEmpty && (decide (v.length ≤ 10) && allB letB v))) := rfl
  unfold maxLen at hv
  generalize allB letB v = d at *
  clear e
  cases v with
  | nil =>
    go_enter Tryz.func23, Tryz.ntmps23
    go_wp2
    go_ret
    exact ⟨ret_bool (by rw [fin.out]; rfl), RowKit.Below.refl _ _⟩
  | cons a v =>
    obtain ⟨u, hu⟩ : ∃ u, u = a :: v := ⟨_, rfl⟩
    rw [← hu] at H fin hv ⊢
    have h0 : (0 : Int) < (u.length : Int) := by rw [hu, List.length_cons]; omega
    have fin2 : Hid (nameR u = (decide (u.length ≤ 10) && d)) := by show _ = _; rw [fin.out, hu]; rfl
    clear hu fin
    by_cases h : u.length ≤ 10
    · have h' : decide ((u.length : Int) ≤ 10) = true := by simp; omega
      go_enter Tryz.func23, Tryz.ntmps23
      go_wp2_with (go_at_call 49; refine (H _).mono ?_; rintro e w' ⟨rfl, hb⟩)
      go_ret
      exact ⟨ret_bool (by rw [fin2.out]; simp [h]), by assumption⟩
    · have h' : decide ((u.length : Int) ≤ 10) = false := by simp; omega
      go_enter Tryz.func23, Tryz.ntmps23
      go_wp2
      go_ret
      exact ⟨ret_bool (by rw [fin2.out]; simp [h]), RowKit.Below.refl _ _⟩

/-- a look-up of a branch -/
theorem look_br {w : World} {bm : Nat} {l : List Rf} (h : BrMap w bm l) (t : List UInt8) (ht : t.length ≤ maxLen) :
    (Instr.lookup 73 (.map (some bm)) (.string ⟨t.toArray⟩) true).run Tryz.prog w = .ok (.tuple #[.int .i64 (brI l t), .bool (decide (0 ≤ atR l t))]) w := by
  obtain ⟨D, o1, f1, hs⟩ := h
  obtain ⟨v, ps, hrun, hv⟩ := o1.look_ok keyedSO Tryz.underlying73 (zeroNum w) (plainElem_int Tryz.underlying3 (by decide)) (keyS t ht)
  rw [(f1 t ht).2] at hv
  obtain ⟨a, rfl, ha, _⟩ := plainElem_int_inv Tryz.underlying3 hv
  simp only [Prod.mk.injEq, DataW.lit.injEq, Lit.int.injEq, true_and] at ha
  rw [hrun, (f1 t ht).1, ha.1]
theorem BrMap.drew {w : World} {bm : Nat} {l : List Rf} (h : BrMap w bm l) : BrMap w.drew bm l := h.keep rfl
theorem brI_pos {l : List Rf} {t : List UInt8} (h : 0 ≤ atR l t) : brI l t = atR l t := if_pos h

theorem Qhas_any (w : World) (r s bm : Nat) (cv : Value) (OS P : Nat → Prop) (R : Rp) (a : Int) (h : RpW w r s bm cv OS P R) :
    Calls Tryz.prog 31 #[.pointer (some ⟨r, 0, none⟩), .int .i64 a] w fun e w' => e = .returned (.bool (inR R a)) ∧ RowKit.Below w.heap.size w w' := by
  obtain ⟨c0, c1, c2, cf⟩ := h.cells
  obtain ⟨ad, cap, rfl⟩ := h.com.form
  have hlt := h.lt
  have fin : Hid (inR R a = (decide (0 ≤ a) && decide (a < (R.coms.length : Int)))) := by show _ = _; unfold inR; rw [Bool.eq_iff_iff]; simp
  generalize inR R a = q at *
  clear h
  by_cases h0 : 0 ≤ a
  all_goals
    go_enter Tryz.func31, Tryz.ntmps31
    go_wp2
    go_ret
    exact ⟨ret_bool (by rw [fin.out]; first | (rw [decide_eq_true h0]; simp) | (rw [decide_eq_false (show ¬ (0 ≤ a) by omega)]; rfl)), RowKit.Below.refl _ _⟩

theorem QhasBranch_any (w : World) (r s bm : Nat) (cv : Value) (OS P : Nat → Prop) (R : Rp) (b : List UInt8) (h : RpW w r s bm cv OS P R) (hb : b.length ≤ maxLen) :
    Calls Tryz.prog 52 #[.pointer (some ⟨r, 0, none⟩), .string ⟨b.toArray⟩] w fun e w' => e = .returned (.bool (decide (0 ≤ atR R.refs b))) ∧ RowKit.Below w.heap.size w w' := by
  obtain ⟨c0, c1, c2, cf⟩ := h.cells
  have hlt := h.lt
  have hl := look_br h.map b hb
  clear h hb
  generalize decide (0 ≤ atR R.refs b) = q at *
  generalize brI R.refs b = z at *
  go_enter Tryz.func52, Tryz.ntmps52
  go_wp2_with fail
  go_ret
  exact ⟨rfl, RowKit.Below.refl _ _⟩

theorem QhasRoom_any (w : World) (r s bm : Nat) (cv : Value) (OS P : Nat → Prop) (R : Rp) (h : RpW w r s bm cv OS P R) :
    Calls Tryz.prog 53 #[.pointer (some ⟨r, 0, none⟩)] w fun e w' => e = .returned (.bool (decide (R.refs.length < 8))) ∧ RowKit.Below w.heap.size w w' := by
  obtain ⟨c0, c1, c2, cf⟩ := h.cells
  have hlt := h.lt
  obtain ⟨D, o1, f1, hs⟩ := h.map
  have fin : Hid (decide (R.refs.length < 8) = decide (((Maps.size D : Nat) : Int) < 8)) := by show _ = _; rw [hs, Bool.eq_iff_iff]; simp; omega
  clear h f1 hs
  generalize decide (R.refs.length < 8) = q at *
  go_enter Tryz.func53, Tryz.ntmps53
  go_wp2_with (at_len; refine wpList_len_own _ rfl _ 73 rfl 9 3 Tryz.underlying73 _ bm _ D rfl o1 ?_)
  go_ret
  exact ⟨ret_bool (by rw [fin.out]), RowKit.Below.refl _ _⟩

theorem QObject_any (w : World) (r s bm : Nat) (cv : Value) (OS P : Nat → Prop) (R : Rp) (id : Int) (h : RpW w r s bm cv OS P R) (hg : GoodR R) :
    Calls Tryz.prog 9 #[.pointer (some ⟨r, 0, none⟩), .int .i64 id] w fun e w' => e = .returned (.tuple #[.string ⟨(getB R.L id).toArray⟩, errV (getE R.L id)]) ∧ RowKit.Below w.heap.size w w' := by
  obtain ⟨c0, c1, c2, cf⟩ := h.cells
  have hlt := h.lt
  have H := theFace.get w s OS R.n R.L id h.st hg.store
  clear h hg
  generalize getB R.L id = B at *
  generalize getE R.L id = N at *
  go_enter Tryz.func9, Tryz.ntmps9
  go_wp2_with (go_at_call 26; refine H.mono ?_; rintro e w1 ⟨rfl, hb1⟩; dsimp only)
  exact bodyPost_ret (v := .tuple #[.string ⟨B.toArray⟩, errV N]) (by unfold results; rw [Tryz.results9]; go_simp) rfl ⟨rfl, hb1⟩
end Go.Proofs.YtaddfndohoppeaaGreat

/- A commit of the program's repo, and its graph: what is known of it. -/
namespace Go.Proofs.YtaddfndohoppeaaGreat
open Go Go.RowKit Go.Proofs Go.Maps
set_option synthInstance.maxSize 1000

theorem gr_at {R : Rp} (h : GoodR R) {k : Nat} (hk : k < R.coms.length) : ∃ c g, R.coms[k]? = some c ∧ R.gr[k]? = some g ∧ IsSet g ∧ (∀ p ∈ c.1, 0 ≤ p ∧ p < (k : Int)) := by
  have hk2 : k < R.gr.length := by rw [h.len]; exact hk
  exact ⟨R.coms[k], R.gr[k], List.getElem?_eq_getElem hk, List.getElem?_eq_getElem hk2, h.sets _ (List.getElem_mem hk2), range_par (h.coms.2 k hk)⟩
/-- a commit in the row -/
theorem ComRow.at_ {w : World} {cv : Value} {l : List Cm} {P : Nat → Prop} (h : ComRow w cv l P) {k : Nat} {c : Cm} (hc : l[k]? = some c) : ∃ g cap a ca, cv = .slice (some ⟨g, 0, none⟩) l.length cap ∧ w.cell? ⟨g, k * 3, none⟩ = some (.slice a c.1.length ca) ∧ w.cell? ⟨g, k * 3 + 1, none⟩ = some (.int .i64 c.2.1) ∧ w.cell? ⟨g, k * 3 + 2, none⟩ = some (.string ⟨c.2.2.toArray⟩) ∧ SlI w a c.1 ∧ c.1.length ≤ ca := by
  obtain ⟨cs, ho, h2⟩ := h
  obtain ⟨hk, rfl⟩ := List.getElem?_eq_some_iff.1 hc
  obtain ⟨g, cap, e, _, hx⟩ := prow_at ho (by omega)
  obtain ⟨a, ca, q1, q2, q3, q4, q5, q6⟩ := h2 k hk
  exact ⟨g, cap, a, ca, e, hx _ _ q1, hx _ _ q2, hx _ _ q3, q4, q5⟩

end Go.Proofs.YtaddfndohoppeaaGreat

/- repo's find: the commit that is there already. -/
namespace Go.Proofs.YtaddfndohoppeaaGreat
open Go Go.RowKit Go.Proofs Go.Maps
set_option synthInstance.maxSize 1000

attribute [local go_sem] eql_errV neq_errV guard_errV

/-- what is asked of a test of commits -/
def PredC (g : Nat) (lb : Array Value) (p : Cm → Bool) (w : World) : Prop :=
  ∀ (W : World) (c : Cm) (a : Option Addr) (ca : Nat), RowKit.Below w.heap.size w W → SlI W a c.1 → c.1.length ≤ maxLen → Calls Tryz.prog g (#[.agg #[.slice a c.1.length ca, .int .i64 c.2.1, .string ⟨c.2.2.toArray⟩]] ++ lb) W fun e w' => e = .returned (.bool (p c)) ∧ RowKit.Below W.heap.size W w'
/-- commits that lie there, now and later -/
def ComsHere (w : World) (ad : Option Addr) (l : List Cm) : Prop := ∀ W, RowKit.Below w.heap.size w W → ∀ (k : Nat) (hk : k < l.length), ∃ g a ca, ad = some ⟨g, 0, none⟩ ∧ W.cell? ⟨g, k * 3, none⟩ = some (.slice a l[k].1.length ca) ∧ W.cell? ⟨g, k * 3 + 1, none⟩ = some (.int .i64 l[k].2.1) ∧ W.cell? ⟨g, k * 3 + 2, none⟩ = some (.string ⟨l[k].2.2.toArray⟩) ∧ SlI W a l[k].1 ∧ l[k].1.length ≤ ca
theorem RpW.here {w : World} {r s bm : Nat} {ad : Option Addr} {cap : Nat} {OS P : Nat → Prop} {R : Rp} {n : Nat} (h : RpW w r s bm (.slice ad n cap) OS P R) : ComsHere w ad R.coms := fun W hW k hk => by
  obtain ⟨g, cap', a, ca, e, q⟩ := (h.below hW).com.at_ (List.getElem?_eq_getElem hk)
  obtain ⟨rfl, _, _⟩ := Value.slice.inj e
  exact ⟨g, a, ca, rfl, q⟩
theorem idx_at {l : List Cm} {p : Cm → Bool} {k : Nat} (h : l.findIdx? p = some k) : idxI (l.findIdx? p) = (k : Int) := by rw [h]; rfl
theorem find_first {l : List Cm} {p : Cm → Bool} {k : Nat} (hk : k < l.length) (hn : ∀ (j : Nat) (hj : j < l.length), j < k → p l[j] = false) (h : p l[k] = true) : l.findIdx? p = some k := by
  rw [List.findIdx?_eq_some_iff_getElem]
  exact ⟨hk, h, fun j hj => by rw [hn j (by omega) hj]; decide⟩
theorem find_not {l : List Cm} {p : Cm → Bool} (hn : ∀ (j : Nat) (hj : j < l.length), p l[j] = false) : l.findIdx? p = none := by
  rw [List.findIdx?_eq_none_iff]
  intro x hx
  obtain ⟨j, hj, rfl⟩ := List.getElem_of_mem hx
  exact hn j hj
theorem findP_idx (l : List Cm) (id : Int) (t : List UInt8) (ps : List Int) : findP l id t ps = l.findIdx? fun c => hitB c id t ps := by
  induction l with
  | nil => rfl
  | cons c r ih =>
    unfold findP
    rw [List.findIdx?_cons, ih]
    by_cases h : c.2.1 = id ∧ c.2.2 = t ∧ c.1 = ps
    · rw [if_pos h, hitB_iff.2 h]; rfl
    · have : hitB c id t ps = false := by
        cases hh : hitB c id t ps with
        | false => rfl
        | true => exact absurd (hitB_iff.1 hh) h
      rw [if_neg h, this]
      simp

set_option maxHeartbeats 4000000 in
set_option maxRecDepth 100000 in
theorem QIndex_any (g : Nat) (lb : Array Value) (p : Cm → Bool) (w : World) (ad : Option Addr) (ca : Nat) (l : List Cm) (eg : ∀ args w, (callFunc g args).run Tryz.prog w = .ok (.enter g args) w) (hp : PredC g lb p w) (hs : ComsHere w ad l) (hl : l.length ≤ 60) (hm : ∀ c ∈ l, c.1.length ≤ maxLen) :
    Calls Tryz.prog 134 #[.slice ad l.length ca, .func (.func g) #[] lb] w fun e w' => e = .returned (.int .i64 (idxI (l.findIdx? p))) ∧ RowKit.Below w.heap.size w w' := by
  have H := hideO hp
  have HS := hideO hs
  have HM := hideO hm
  clear hp hs hm
  go_enter Tryz.func134, Tryz.ntmps134
  go_wp2_with fail
  go_loopw [8] (fun i wr => ∃ (k : Nat), k ≤ l.length ∧ i = .int .i64 k ∧ RowKit.Below w.heap.size w wr ∧ Hid (∀ (j : Nat) (hj : j < l.length), j < k → p l[j] = false)) (fun i wr => l.length - (intOf i).toNat)
  case atStart => exact ⟨0, Nat.zero_le _, rfl, RowKit.Below.refl _ w, fun j hj h0 => by omega⟩
  case round =>
    obtain ⟨k, hk, rfl, hbr, hall⟩ := hrel
    by_cases hlt : k < l.length
    · obtain ⟨b, a, c, rfl, q0, q1, q2, q3, q4⟩ := HS.out wr hbr k hlt
      have hcall := H.out wr l[k] a c hbr q3 (HM.out _ (List.getElem_mem hlt))
      have i0 : (0 : Int) ≤ (k : Int) := by omega
      have i1 : (k : Int) < (l.length : Int) := by omega
      have HV : Hid (∀ q, p l[k] = q → (q = false → (∀ (j : Nat) (hj : j < l.length), j < k + 1 → p l[j] = false)) ∧ (q = true → idxI (l.findIdx? p) = (k : Int))) := by
        intro q hq
        refine ⟨fun e j hj h1 => ?_, fun e => idx_at (find_first hlt (fun j hj h => hall.out j hj h) (hq.trans e))⟩
        by_cases ej : j = k
        · subst ej; exact hq.trans e
        · exact hall.out j hj (by omega)
      clear q3 q4
      cases hq : p l[k] with
      | false =>
        rw [hq] at hcall
        have hnext : Hid (∀ (j : Nat) (hj : j < l.length), j < k + 1 → p l[j] = false) := (HV.out _ hq).1 rfl
        clear HV hq hall
        generalize l[k] = z at *
        obtain ⟨z1, z2, z3⟩ := z
        dsimp only at *
        go_wp2_with (go_at_fn g; refine hcall.mono ?_; rintro e w' ⟨rfl, hb'⟩; dsimp only)
        go_roundw
        case rel => exact ⟨k + 1, by omega, by go_num, bstep hbr hb', hnext⟩
        case measure => simp [intOf]; omega
      | true =>
        rw [hq] at hcall
        have hno2 : Hid (idxI (l.findIdx? p) = (k : Int)) := (HV.out _ hq).2 rfl
        clear HV hq hall
        generalize l[k] = z at *
        obtain ⟨z1, z2, z3⟩ := z
        dsimp only at *
        go_wp2_with (go_at_fn g; refine hcall.mono ?_; rintro e w' ⟨rfl, hb'⟩; dsimp only)
        go_ret
        exact ⟨by rw [hno2.out]; rfl, bstep hbr hb'⟩
    · have hkk : k = l.length := by omega
      have hyes : Hid (l.findIdx? p = none) := find_not fun j hj => hall.out j hj (by omega)
      subst hkk
      clear hall
      go_wp2_with fail
      go_ret
      exact ⟨by rw [hyes.out]; rfl, hbr⟩

set_option maxHeartbeats 4000000 in
set_option maxRecDepth 100000 in
theorem Qfind_any (w : World) (r s bm : Nat) (cv : Value) (OS P : Nat → Prop) (R : Rp) (pd : Option Addr) (pc : Nat) (ps : List Int) (b t : List UInt8) (h : RpW w r s bm cv OS P R) (hg : GoodR R) (hs : SlI w pd ps) (hl : ps.length ≤ maxLen) (hb : b.length ≤ reachBytes) :
    Calls Tryz.prog 87 #[.pointer (some ⟨r, 0, none⟩), .slice pd ps.length pc, .string ⟨b.toArray⟩, .string ⟨t.toArray⟩] w fun e w' => e = .returned (.int .i64 (idxI (if findO R.L b = 0 then none else findP R.coms (findO R.L b : Int) t ps))) ∧ RowKit.Below w.heap.size w w' := by
  have HF := fun W (hW : RowKit.Below w.heap.size w W) => theFace.find W s OS R.n R.L b (h.below hW).st hg.store hb
  obtain ⟨ad, cap, rfl⟩ := h.com.form
  have HI := hideO (fun W (hW : RowKit.Below w.heap.size w W) (B1 B2 B3 : Nat) (id : Int) (hf : FindG W B1 B2 B3 id t pd pc ps) => QIndex_any 135 #[.pointer (some ⟨B1, 0, none⟩), .pointer (some ⟨B2, 0, none⟩), .pointer (some ⟨B3, 0, none⟩)] (fun c => hitB c id t ps) W ad cap R.coms entersFind (fun W' c a ca hW' hc hcl => Qfind1_any W' B1 B2 B3 id t pd pc ps a ca c.1 c.2.1 c.2.2 (hf.below hW') hc hcl) (h.below hW).here hg.coms.1 (fun c hc => by
    obtain ⟨j, hj, rfl⟩ := List.getElem_of_mem hc
    have := hg.coms.2 j hj
    unfold comN at this
    split at this
    · cases this
    · unfold maxLen; omega))
  have HL := hideO (fun W (hW : RowKit.Below w.heap.size w W) => ((h.below hW).cells))
  have HS := hideO hs
  have HB := hideO hl
  have hlt := h.lt
  have hmx : R.coms.length ≤ 60 := hg.coms.1
  have E1 : findE R.L b = if findO R.L b = 0 then 5 else 0 := rfl
  rw [E1] at HF
  clear h hs hl hb E1 hg
  generalize findO R.L b = q at *
  have hba2 := bstep (balloc w (.cells #[.slice pd ps.length pc] 38)) (balloc (w.alloc (.cells #[.slice pd ps.length pc] 38)) (.cells #[.string ⟨t.toArray⟩] 9))
  have HA := hideO hba2
  have d3 : ((w.alloc (.cells #[.slice pd ps.length pc] 38)).alloc (.cells #[.string ⟨t.toArray⟩] 9)).cell? ⟨w.heap.size, 0, none⟩ = some (.slice pd ps.length pc) := by go_simp
  have d2 : ((w.alloc (.cells #[.slice pd ps.length pc] 38)).alloc (.cells #[.string ⟨t.toArray⟩] 9)).cell? ⟨w.heap.size + 1, 0, none⟩ = some (.string ⟨t.toArray⟩) := by go_simp
  have D3 := hideO d3
  have D2 := hideO d2
  obtain ⟨k0, k1, k2, kf⟩ := HL.out _ hba2
  have z1 : r < ((w.alloc (.cells #[.slice pd ps.length pc] 38)).alloc (.cells #[.string ⟨t.toArray⟩] 9)).heap.size := by have := hba2.size; omega
  have HFA := HF _ hba2
  clear hba2 d3 d2 HF
  by_cases hq : q = 0
  · subst hq
    rw [if_pos rfl] at HFA ⊢
    clear HI HS HB D3 D2 HL
    go_enter Tryz.func87, Tryz.ntmps87
    go_wp2_with (go_at_call 133; refine HFA.mono ?_; rintro e w1 ⟨rfl, hb1⟩; rw [show errV 5 = Value.iface 82 (.int .i64 5) from rfl]; dsimp only)
    go_ret
    exact ⟨rfl, bstep (bstep HA.out hb1) (balloc _ _)⟩
  · rw [if_neg hq] at HFA ⊢
    rw [findP_idx]
    go_enter Tryz.func87, Tryz.ntmps87
    go_wp2_with (go_at_call 133; refine HFA.mono ?_; rintro e w1 ⟨rfl, hb1⟩; rw [show errV 0 = Value.nilIface from rfl]; dsimp only; have hb2 := bstep hb1 (balloc w1 (.cells #[.int .i64 (q : Int)] 3)); obtain ⟨m0, m1, m2, mf⟩ := HL.out _ (bstep HA.out hb2); have z2 : r < (w1.alloc (.cells #[.int .i64 (q : Int)] 3)).heap.size := (by have := hb2.size; omega))
    have hf : FindG (w1.alloc (.cells #[.int .i64 (q : Int)] 3)) w1.heap.size (w.heap.size + 1) w.heap.size (q : Int) t pd pc ps := ⟨by go_simp, (hb2.cell (World.block_lt_of_cell? _ _ D2.out)).trans D2.out, (hb2.cell (World.block_lt_of_cell? _ _ D3.out)).trans D3.out, HS.out.below (bstep HA.out hb2), HB.out⟩
    refine (HI.out _ (bstep HA.out hb2) _ _ _ _ hf).mono ?_
    rintro e w3 ⟨rfl, hb3⟩
    dsimp only
    go_wp2_with fail
    go_ret
    exact ⟨rfl, bstep (bstep HA.out hb2) hb3⟩
end Go.Proofs.YtaddfndohoppeaaGreat

/- repo's start and Graph: a commit's graph, out of the layers above it. -/
namespace Go.Proofs.YtaddfndohoppeaaGreat
open Go Go.RowKit Go.Proofs Go.Maps
set_option synthInstance.maxSize 1000

attribute [local go_sem] eql_errV neq_errV guard_errV

def GraphOk (r s bm : Nat) (cv : Value) (OS P : Nat → Prop) (R : Rp) (k : Nat) : Prop :=
  ∀ W, RpW W r s bm cv OS P R → Calls Tryz.prog 11 #[.pointer (some ⟨r, 0, none⟩), .int .i64 (k : Int)] W (TOk W ((R.gr[k]?).getD []))

theorem Qstart_any (w : World) (r s bm : Nat) (cv : Value) (OS P : Nat → Prop) (R : Rp) (pd : Option Addr) (pc : Nat) (ps : List Int) (h : RpW w r s bm cv OS P R) (hs : SlI w pd ps) (hl : ps.length ≤ maxLen) (hp : ∀ p ∈ ps, 0 ≤ p) (IH : ∀ p : Nat, (p : Int) ∈ ps → GraphOk r s bm cv OS P R p) :
    Calls Tryz.prog 61 #[.pointer (some ⟨r, 0, none⟩), .slice pd ps.length pc] w (TOk w (fromR R ps)) := by
  cases ps with
  | nil =>
    have fin : Hid (∀ w', RowKit.Below w.heap.size w w' → TOk w (fromR R []) (.returned (.tuple #[.slice none 0 0, .nilIface])) w') := fun w' hb => ⟨hb, none, 0, rfl, fun h => absurd rfl h⟩
    clear h hs hl hp IH
    generalize fromR R [] = m at *
    rw [show ([] : List Int).length = 0 from rfl]
    go_enter Tryz.func61, Tryz.ntmps61
    go_wp2_with fail
    exact bodyPost_ret (v := .tuple #[.slice none 0 0, .nilIface]) (by unfold results; rw [Tryz.results61]; go_simp) rfl (fin.out _ (RowKit.Below.refl _ _))
  | cons p t =>
    obtain ⟨q, rfl⟩ := Int.eq_ofNat_of_zero_le (hp p (by simp))
    obtain ⟨b, o, rfl, hc⟩ := hs.at (j := 0) (by simp)
    have H := IH q (by simp) w h
    have e : fromR R ((q : Int) :: t) = (R.gr[q]?).getD [] := by simp [fromR]
    rw [e]
    simp only [List.getElem_cons_zero, Nat.add_zero] at hc
    obtain ⟨n, hn⟩ : ∃ n : Nat, ((q : Int) :: t).length = n := ⟨_, rfl⟩
    have hn0 : 0 < n := by rw [← hn]; simp
    have h0 : ((n : Int) == 0) = false := by simp; omega
    have h1 : (0 : Int) < (n : Int) := by omega
    rw [hn] at hl ⊢
    unfold maxLen at hl
    clear hn h hs hp IH e
    generalize (R.gr[q]?).getD [] = m at *
    go_enter Tryz.func61, Tryz.ntmps61
    go_wp2_with (go_at_call 11; refine H.mono ?_; rintro e w1 ⟨hb1, a1, c1, rfl, hs1⟩; dsimp only)
    exact bodyPost_ret (v := .tuple #[.slice a1 m.length c1, .nilIface]) (by unfold results; rw [Tryz.results61]; go_simp) rfl ⟨hb1, a1, c1, rfl, hs1⟩

set_option maxHeartbeats 4000000 in
set_option maxRecDepth 100000 in
theorem Qgr_any (w : World) (r s bm : Nat) (cv : Value) (OS P : Nat → Prop) (R : Rp) (pd : Option Addr) (pc : Nat) (ps : List Int) (g : List Tr) (h : RpW w r s bm cv OS P R) (hg : GoodR R) (hs : SlI w pd ps) (hl : ps.length ≤ maxLen) (hp : ∀ p ∈ ps, 0 ≤ p) (sg : IsSet g) (IH : ∀ p : Nat, (p : Int) ∈ ps → GraphOk r s bm cv OS P R p) :
    Calls Tryz.prog 32 #[.pointer (some ⟨r, 0, none⟩), .slice pd ps.length pc, .string ⟨(bytesR R ps g).toArray⟩] w (TOk w g) := by
  have HS := Qstart_any w r s bm cv OS P R pd pc ps h hs hl hp IH
  obtain ⟨r1, r2, r3⟩ := bytes_read hg (ps := ps) sg
  have HR := fun W => ReadLayer_any (bytesR R ps g) W
  rw [r1, r2, r3] at HR
  have HA := fun W sd a1 a2 cs c1 c2 h0 h1 h2 => ApplyGood_any sd a1 a2 cs c1 c2 (fromR R ps) g W h0 h1 h2 (pfrom_set hg ps) sg
  clear r1 r2 r3 h hg hs hl hp sg IH
  generalize bytesR R ps g = B at *
  generalize lessL g (fromR R ps) = A at *
  generalize lessL (fromR R ps) g = D at *
  generalize fromR R ps = f at *
  go_enter Tryz.func32, Tryz.ntmps32
  go_wp2_with fail
  refine HS.mono ?_
  rintro e w3 ⟨hb2, sd, sc, rfl, hs2⟩
  dsimp only
  have hB3 := hideO hb2
  have hS3 := hideO hs2
  clear HS hb2 hs2
  go_wp2_with fail
  refine (HR _).mono ?_
  rintro e w4 ⟨hb4, a1, n1, a2, n2, rfl, hx1, hx2⟩
  rw [show errV 0 = Value.nilIface from rfl]
  dsimp only
  have hB4 := hideO (bstep hB3.out hb4)
  have hS4 := hideO (hS3.out.below hb4)
  have hX1 := hideO hx1
  have hX2 := hideO hx2
  clear HR hb4 hS3 hB3 hx1 hx2
  go_wp2_with fail
  have hba := balloc w4 (.cells #[.slice a1 A.length n1, .slice a2 D.length n2] 42)
  refine (HA _ sd a1 a2 sc n1 n2 (hS4.out.below hba) (hX1.out.below hba) (hX2.out.below hba)).mono ?_
  rintro e w5 ⟨hb5, am, cm, rfl, hm5⟩
  dsimp only
  have hB5 := hideO (bstep (bstep hB4.out hba) hb5)
  have hM5 := hideO hm5
  clear HA hb5 hba hm5 hB4 hX1 hX2 hS4
  go_wp2_with fail
  exact bodyPost_ret (v := .tuple #[.slice am g.length cm, .nilIface]) (by unfold results; rw [Tryz.results32]; go_simp) rfl ⟨hB5.out, am, cm, rfl, hM5.out⟩

set_option maxHeartbeats 4000000 in
set_option maxRecDepth 100000 in
theorem graph_ok (r s bm : Nat) (cv : Value) (OS P : Nat → Prop) (R : Rp) (hg : GoodR R) : ∀ k, k < R.coms.length → GraphOk r s bm cv OS P R k := by
  intro k
  induction k using Nat.strongRecOn with
  | ind k ih =>
    intro hk w h
    obtain ⟨c, g, hc, hgr, sg, hpar⟩ := gr_at hg hk
    have eG : (R.gr[k]?).getD [] = g := by rw [hgr]; rfl
    rw [eG]
    have hin : inR R (k : Int) = true := inR_iff.2 ⟨by omega, by omega⟩
    have hlk := h.link k c g hc hgr
    have eB : getB R.L c.2.1 = bytesR R c.1 g := by unfold getB; rw [hlk]; rfl
    have eE : getE R.L c.2.1 = 0 := by unfold getE; rw [hlk]; rfl
    have HH := Qhas_any w r s bm cv OS P R (k : Int) h
    rw [hin] at HH
    have HO := fun W hW => QObject_any W r s bm cv OS P R c.2.1 (h.below hW) hg
    rw [eB, eE] at HO
    have hpl : c.1.length ≤ maxLen := by
      have hd := hg.coms.2 k hk
      have e : R.coms[k] = c := (List.getElem?_eq_some_iff.1 hc).2
      rw [e] at hd
      unfold comN at hd
      split at hd
      · cases hd
      · rename_i h9
        unfold maxLen
        omega
    have HG := fun W hW pd pc hs => Qgr_any W r s bm cv OS P R pd pc c.1 g (h.below hW) hg hs hpl (fun p hp => (hpar p hp).1) sg (fun p hp => ih p (by have := hpar _ hp; omega) (by have := hpar _ hp; omega))
    have HC := hideO (fun W (hW : RowKit.Below w.heap.size w W) => ((h.below hW).com.at_ hc))
    have HL := hideO (fun W (hW : RowKit.Below w.heap.size w W) => ((h.below hW).cells))
    have hlt := h.lt
    have hmx : R.coms.length ≤ 60 := hg.coms.1
    generalize bytesR R c.1 g = B at *
    obtain ⟨ps, y, m⟩ := c
    dsimp only at *
    obtain ⟨gb, cap, _, _, rfl, _⟩ := HC.out w (RowKit.Below.refl _ _)
    clear ih h hg hc hgr eG hin hlk eB eE hpar hpl sg
    obtain ⟨n, hn⟩ : ∃ n : Nat, R.coms.length = n := ⟨_, rfl⟩
    rw [hn] at HC HL hk hmx
    have i0 : (0 : Int) ≤ (k : Int) := by omega
    have i1 : (k : Int) < (n : Int) := by omega
    clear hn
    go_enter Tryz.func11, Tryz.ntmps11
    go_wp2_with fail
    refine HH.mono ?_
    rintro e w1 ⟨rfl, hb1⟩
    dsimp only
    obtain ⟨k0, k1, k2, kf⟩ := HL.out _ hb1
    obtain ⟨g', cap', a, ca, e1, q0, q1, q2, q3, q4⟩ := HC.out _ hb1
    obtain ⟨rfl, rfl⟩ : gb = g' ∧ cap = cap' := by simpa using e1
    clear HH HC HL
    have z1 : r < w1.heap.size := by have := hb1.size; omega
    have zg := World.block_lt_of_cell? _ _ q0
    have hQ3 := hideO q3
    have hB1 := hideO hb1
    clear q3 hb1 e1 kf
    go_wp2_with fail
    have hba := balloc w1 (.cells #[.slice a ps.length ca, .int .i64 y, .string ⟨m.toArray⟩] 40)
    refine (HO _ (bstep hB1.out hba)).mono ?_
    rintro e w2 ⟨rfl, hb2⟩
    rw [show errV 0 = Value.nilIface from rfl]
    dsimp only
    have kb0 : w2.cell? ⟨w1.heap.size, 0, none⟩ = some (.slice a ps.length ca) := by rw [(bcell hb2).1 _ _ (by simp)]; go_simp
    have zb1 := World.block_lt_of_cell? _ _ kb0
    have hB2 := hideO (bstep (bstep hB1.out hba) hb2)
    have hS2 := hideO ((hQ3.out.below hba).below hb2)
    clear HO hb2 hba hQ3 hB1 q0 q1 q2 k0 k1 k2 zg z1
    go_wp2_with fail
    refine (HG _ hB2.out a ca hS2.out).mono ?_
    rintro e w5 ⟨hb5, am, cm, rfl, hm5⟩
    dsimp only
    have hB5 := hideO (bstep hB2.out hb5)
    have hM5 := hideO hm5
    clear HG hb5 hm5 hB2 hS2 kb0 zb1
    go_wp2_with fail
    exact bodyPost_ret (v := .tuple #[.slice am g.length cm, .nilIface]) (by unfold results; rw [Tryz.results11]; go_simp) rfl ⟨hB5.out, am, cm, rfl, hM5.out⟩

theorem QGraph_any (w : World) (r s bm : Nat) (cv : Value) (OS P : Nat → Prop) (R : Rp) (a : Int) (h : RpW w r s bm cv OS P R) (hg : GoodR R) :
    Calls Tryz.prog 11 #[.pointer (some ⟨r, 0, none⟩), .int .i64 a] w fun e w' => ∃ ad ca, e = .returned (.tuple #[.slice ad (graphL R a).length ca, errV (graphE R a)]) ∧ SlT w' ad (graphL R a) ∧ RowKit.Below w.heap.size w w' := by
  cases hin : inR R a with
  | true =>
    obtain ⟨h0, h1⟩ := inR_iff.1 hin
    obtain ⟨k, rfl⟩ := Int.eq_ofNat_of_zero_le h0
    have e1 : graphL R (k : Int) = (R.gr[k]?).getD [] := by unfold graphL; rw [if_pos hin]; simp
    have e2 : graphE R (k : Int) = 0 := by unfold graphE; rw [if_pos hin]
    rw [e1, e2]
    refine (graph_ok r s bm cv OS P R hg k (by omega) w h).mono ?_
    rintro e w' ⟨hb, ad, ca, rfl, hs⟩
    exact ⟨ad, ca, rfl, hs, hb⟩
  | false =>
    have e1 : graphL R a = [] := by unfold graphL; rw [if_neg (by rw [hin]; decide)]
    have e2 : graphE R a = 1 := by unfold graphE; rw [if_neg (by rw [hin]; decide)]
    rw [e1, e2]
    have HH := Qhas_any w r s bm cv OS P R a h
    rw [hin] at HH
    have fin : Hid (∀ w', RowKit.Below w.heap.size w w' → ∃ ad ca, Ending.returned (.tuple #[.slice none 0 0, .iface 82 (.int .i64 1)]) = .returned (.tuple #[.slice ad ([] : List Tr).length ca, errV 1]) ∧ SlT w' ad [] ∧ RowKit.Below w.heap.size w w') := fun w' hb => ⟨none, 0, rfl, fun h => absurd rfl h, hb⟩
    clear h hg hin e1 e2
    go_enter Tryz.func11, Tryz.ntmps11
    go_wp2_with fail
    refine HH.mono ?_
    rintro e w1 ⟨rfl, hb1⟩
    dsimp only
    go_wp2_with fail
    exact bodyPost_ret (v := .tuple #[.slice none 0 0, .iface 82 (.int .i64 1)]) (by unfold results; rw [Tryz.results11]; go_simp) rfl (fin.out _ hb1)
end Go.Proofs.YtaddfndohoppeaaGreat

/- repo's point, Branch, Move, Drop. -/
namespace Go.Proofs.YtaddfndohoppeaaGreat
open Go Go.RowKit Go.Proofs Go.Maps
set_option synthInstance.maxSize 1000

attribute [local go_sem] eql_errV neq_errV guard_errV

/-- the branches have turned -/
theorem RpW.turn {w w' : World} {r s bm : Nat} {cv : Value} {OS P : Nat → Prop} {R : Rp} {l : List Rf} (h : RpW w r s bm cv OS P R) (hm : BrMap w' bm l) (hg : w.grownBy w' (some bm)) : RpW w' r s bm cv OS P ⟨R.n, R.L, R.coms, R.gr, l⟩ ∧ Offs (RpO r bm cv OS P) w w' := by
  have hb : ∀ j, j < w.heap.size → j ≠ bm → w'.heap[j]? = w.heap[j]? := fun j h1 h2 => hg.block j h1 (by simp; exact h2)
  obtain ⟨a1, a2, a3⟩ := h.ap1
  refine ⟨⟨(hb r h.lt a3).trans h.blk, theFace.keep h.st fun j hj => hb j (theFace.own h.st j hj) (fun e => a2 (e ▸ hj)), h.com.keep (fun j hj => hb j (h.own j (Or.inr (Or.inr (Or.inl hj)))) (h.ap2 j hj).2.2.1) (fun j hj => hb j (h.plt j hj) (h.ap3 j hj).2.2), hm, h.link.same rfl rfl rfl, fun j hj => Nat.lt_of_lt_of_le (h.plt j hj) hg.size, h.ap1, h.ap2, h.ap3⟩, Offs.of_grown hg fun k e => by cases e; exact Or.inr (Or.inl rfl)⟩

set_option maxHeartbeats 1000000 in
theorem Qpoint_any (w : World) (r s bm : Nat) (cv : Value) (OS P : Nat → Prop) (R : Rp) (b : List UInt8) (t : Nat) (h : RpW w r s bm cv OS P R) (hn : ByName R.refs) (hf : (leadR R.refs b t).length ≤ 8) (hb : b.length ≤ reachBytes) (ht : t ≤ 1000000) :
    Calls Tryz.prog 56 #[.pointer (some ⟨r, 0, none⟩), .string ⟨b.toArray⟩, .int .i64 (t : Int)] w fun e w' => e = .returned (.tuple #[]) ∧ RpW w' r s bm cv OS P (leadTo R b t) ∧ Offs (RpO r bm cv OS P) w w' := by
  have hml : b.length ≤ maxLen := by unfold reachBytes at hb; unfold maxLen; omega
  have hcl : b.length ≤ 281474976710656 := by unfold reachBytes at hb; omega
  have hw1 : (Lit.int .i64 (t : Int)).wf = true := wfO (by omega) (by omega)
  have K : Hid (∀ W, RowKit.Below w.heap.size w W → ∃ W', (Instr.mapUpdate 73 (.map (some bm)) (.string ⟨b.toArray⟩) (.int .i64 (t : Int))).run Tryz.prog W = .ok () W' ∧ RpW W' r s bm cv OS P (leadTo R b t) ∧ Offs (RpO r bm cv OS P) w W') := fun W hW => by
    have hR := h.below hW
    obtain ⟨D, o1, f1, hs⟩ := hR.map
    obtain ⟨W4, hr4, o4, g4⟩ := o1.update keyedSO Tryz.underlying73 (by unfold maxLen; omega) (keyS b hml) (plainElem_int Tryz.underlying3 hw1)
    have hsz := f1.size_put (o1.tidy keyedSO) hn hml t hs
    obtain ⟨q1, q2⟩ := hR.turn (l := leadR R.refs b t) ⟨_, own_few o4 (by rw [hsz]; omega), f1.put o1.isMap hn hml t, hsz⟩ g4
    exact ⟨W4, hr4, q1, (Offs.of_below hW).trans q2 fun j hj => Or.inl hj⟩
  obtain ⟨c0, c1, c2, cf⟩ := h.cells
  have hlt := h.lt
  have HC := fun W (hW : RowKit.Below w.heap.size w W) => (h.below hW).cells
  clear h hn hf hb hml hw1 ht
  go_enter Tryz.func56, Tryz.ntmps56
  go_wp2_with fail
  go_region_law (go_simp; go_at_call 57; refine (SClone_any b _ hcl).mono ?_; rintro e w1 ⟨rfl, hb1'⟩; dsimp only; have hb1 : RowKit.Below w.heap.size w w1 := (RowKit.Below.refl _ w).drew.trans hb1'; obtain ⟨k0, k1, k2, kf⟩ := HC _ hb1; obtain ⟨W4, hr4, q1, q2⟩ := K.out _ hb1; have Q1 := hideO q1; have Q2 := hideO q2; clear q1 q2; have hlt1 : r < w1.heap.size := (by have := hb1.size; omega))
  all_goals go_wp2_with fail
  all_goals go_end0
  all_goals exact ⟨rfl, Q1.out, Q2.out⟩
end Go.Proofs.YtaddfndohoppeaaGreat

/- Bases in plain words: of those that two have, the ones that no other one of them comes of. -/
namespace Go.Proofs.YtaddfndohoppeaaGreat
open Go Go.RowKit Go.Proofs
set_option synthInstance.maxSize 1000

/-- below: another one of the list comes of number q of it -/
def belowP (l : List Cm) (t : List Nat) (q m : Nat) : Prop := ∃ r, r < m ∧ r ≠ q ∧ Up l (t.getD r 0) (t.getD q 0)
/-- what is told as far as i -/
def OutsTo (l : List Cm) (t : List Nat) (i : Nat) (m : List Nat) : Prop := RiseN m ∧ m.length ≤ i ∧ ∀ z, z ∈ m ↔ ∃ q, q < i ∧ q < t.length ∧ z = t.getD q 0 ∧ ¬ belowP l t q t.length
theorem OutsTo.nil (l : List Cm) (t : List Nat) : OutsTo l t 0 [] := ⟨List.Pairwise.nil, by simp, fun z => ⟨fun h => by simp at h, fun ⟨q, h, _⟩ => by omega⟩⟩
theorem rise_get {t : List Nat} (h : RiseN t) {p q : Nat} (hpq : p < q) (hq : q < t.length) : t.getD p 0 < t.getD q 0 := by
  rw [List.getD_eq_getElem?_getD, List.getD_eq_getElem?_getD, List.getElem?_eq_getElem hq, List.getElem?_eq_getElem (show p < t.length by omega)]
  exact List.pairwise_iff_getElem.1 h p q (by omega) hq hpq
theorem OutsTo.skip {l : List Cm} {t : List Nat} {i : Nat} {m : List Nat} (h : OutsTo l t i m) (hb : belowP l t i t.length) : OutsTo l t (i + 1) m := by
  refine ⟨h.1, by have := h.2.1; omega, fun z => ?_⟩
  rw [h.2.2 z]
  constructor
  · rintro ⟨q, h1, h2⟩; exact ⟨q, by omega, h2⟩
  · rintro ⟨q, h1, h2, h3, h4⟩
    rcases (by omega : q < i ∨ q = i) with h5 | rfl
    · exact ⟨q, h5, h2, h3, h4⟩
    · exact absurd hb h4
theorem OutsTo.more {l : List Cm} {t : List Nat} {i : Nat} {m : List Nat} (h : OutsTo l t i m) (ht : RiseN t) (hi : i < t.length) (hb : ¬ belowP l t i t.length) : OutsTo l t (i + 1) (m ++ [t.getD i 0]) := by
  refine ⟨List.pairwise_append.2 ⟨h.1, List.pairwise_singleton _ _, fun x hx y hy => ?_⟩, by have := h.2.1; simp; omega, fun z => ?_⟩
  · rw [List.mem_singleton.1 hy]
    obtain ⟨q, h1, _, rfl, _⟩ := (h.2.2 x).1 hx
    exact rise_get ht h1 hi
  · rw [List.mem_append, h.2.2 z, List.mem_singleton]
    constructor
    · rintro (⟨q, h1, h2⟩ | rfl)
      · exact ⟨q, by omega, h2⟩
      · exact ⟨i, by omega, hi, rfl, hb⟩
    · rintro ⟨q, h1, h2, h3, h4⟩
      rcases (by omega : q < i ∨ q = i) with h5 | rfl
      · exact Or.inl ⟨q, h5, h2, h3, h4⟩
      · exact Or.inr h3
end Go.Proofs.YtaddfndohoppeaaGreat

/- A dag's face: what the laws ask of the program's dag, whatever it is made of. -/
namespace Go.Proofs.YtaddfndohoppeaaGreat
open Go Go.RowKit Go.Proofs
set_option synthInstance.maxSize 1000

/-- commits in a list that a caller holds -/
structure ComsOK (w : World) (ad : Option Addr) (ca : Nat) (l : List Cm) : Prop where
  sl : SlC w ad l
  cap : l.length ≤ ca
  len : l.length ≤ maxLen
  pars : ∀ c ∈ l, c.1.length ≤ maxLen
  msg : ∀ c ∈ l, c.2.2.length ≤ maxLen
  caps : ∀ b o, ad = some ⟨b, o, none⟩ → ∀ i, i < l.length → ∀ a n c, w.cell? ⟨b, o + i * 3, none⟩ = some (.slice a n c) → n ≤ c
theorem ComsOK.below {w w' : World} {ad : Option Addr} {ca : Nat} {l : List Cm} (h : ComsOK w ad ca l) (hb : RowKit.Below w.heap.size w w') : ComsOK w' ad ca l := by
  refine ⟨h.sl.below hb, h.cap, h.len, h.pars, h.msg, fun b o e i hi a n c hc => h.caps b o e i hi a n c ?_⟩
  obtain ⟨b', o', a', c', e', h2, _⟩ := h.sl.at hi
  rw [e] at e'
  cases e'
  rw [← hb.cell (p := ⟨b, o + i * 3, none⟩) (World.block_lt_of_cell? w _ h2)]
  exact hc

end Go.Proofs.YtaddfndohoppeaaGreat
