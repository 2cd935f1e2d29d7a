import Derived.Test.YtcdbcoaiadipjaaGreatDoorMA0x6
import Derived.Lib.SliceRun
import Derived.Laws.EntriesVeiled
import Derived.RangeFuncBox
import Derived.Test.YtcdbcoaiadipjaaGreatDoorMA0x5
import Derived.Laws.Rows
import Derived.Test.YtcdbcoaiadipjaaGreatDoorMA0x0

/- A row of numbers that is one's own: slices.MinFunc over it, slices.DeleteFunc on it, with whatever closure. -/
namespace Go.Proofs.YtcdbcoaiadipjaaGreatDoor
open Go Go.RowKit Go.Proofs
set_option synthInstance.maxSize 1000

/-- a block holds numbers, and may be written -/
structure RowL (w : World) (lb : Nat) (l : List Int) : Prop where
  at_ : ∀ (j : Nat) (hj : j < l.length), w.cell? ⟨lb, j, none⟩ = some (.int .i64 l[j])
  free : ∀ (j : Nat), j < l.length → w.frozen? ⟨lb, j, none⟩ = false
theorem RowL.below {w w' : World} {lb : Nat} {l : List Int} (h : RowL w lb l) (hb : RowKit.Below w.heap.size w w') : RowL w' lb l :=
  ⟨fun j hj => cell_k (h.at_ j hj) hb, fun j hj => (hb.frozen (p := ⟨lb, j, none⟩) (World.block_lt_of_cell? w _ (h.at_ j hj))).trans (h.free j hj)⟩
theorem RowL.sl {w : World} {lb : Nat} {l : List Int} (h : RowL w lb l) : SlI w (some ⟨lb, 0, none⟩) l := fun _ => ⟨lb, 0, rfl, fun j hj => by rw [Nat.zero_add]; exact h.at_ j hj⟩
theorem RowL.take {w : World} {lb : Nat} {l : List Int} (h : RowL w lb l) (k : Nat) : RowL w lb (l.take k) := by
  refine ⟨fun j hj => ?_, fun j hj => h.free j (by simp at hj; omega)⟩
  have hj' : j < l.length := by simp at hj; omega
  rw [List.getElem_take]
  exact h.at_ j hj'
/-- what is asked of a test, where the row's block may have been written -/
def PredM (g : Nat) (lb : Array Value) (p : Int → Bool) (rb : Nat) (w : World) : Prop :=
  ∀ (W : World) (x : Int), ButM rb w W → Calls Tryz.prog g (#[.int .i64 x] ++ lb) W fun e w' => e = .returned (.bool (p x)) ∧ RowKit.Below W.heap.size W w'
/-- the first that is so, or -1 -/
def IdxOf (p : Int → Bool) (l : List Int) (r : Int) : Prop := (r = -1 ∧ ∀ x ∈ l, p x = false) ∨ ∃ k : Nat, ∃ h : k < l.length, r = k ∧ p l[k] = true ∧ ∀ (j : Nat) (hj : j < l.length), j < k → p l[j] = false

set_option maxHeartbeats 4000000 in
set_option maxRecDepth 100000 in
theorem MinFunc_any (g : Nat) (lb : Array Value) (D : Int → Prop) (c : Int → Int → Int) (w : World) (b cap : Nat) (m0 : Int) (l : List Int) (eg : ∀ args w, (callFunc g args).run Tryz.prog w = .ok (.enter g args) w) (hp : CmpG g lb D c w) (hD : ∀ x ∈ m0 :: l, D x) (hs : RowL w b (m0 :: l)) (hl : (m0 :: l).length ≤ 1000) :
    Calls Tryz.prog 80 #[.slice (some ⟨b, 0, none⟩) (m0 :: l).length cap, .func (.func g) #[] lb] w fun e w' => e = .returned (.int .i64 (minF c m0 l)) ∧ RowKit.Below w.heap.size w w' := by
  have H := hideE hp
  have HD := hideE hD
  have HS := hideE hs
  have c0 := hs.at_ 0 (by simp)
  have hmin : Hid (∀ k (hk : k < l.length) m, minF c m (l.drop k) = minF c (if c l[k] m < 0 then l[k] else m) (l.drop (k + 1))) := fun k hk m => by
    rw [List.drop_eq_getElem_cons hk]
    rfl
  have e0 : (m0 :: l)[0] = m0 := rfl
  rw [e0] at c0
  obtain ⟨n, hn⟩ : ∃ n, n = (m0 :: l).length := ⟨_, rfl⟩
  have hnl : n = l.length + 1 := by rw [hn]; rfl
  rw [← hn] at hl ⊢
  have Hn := hideE hnl
  have hn1 : 1 ≤ n := by omega
  have t0 : decide ((n : Int) < 1) = false := by simp; omega
  have i01 : (0 : Int) < (n : Int) := by omega
  obtain ⟨R, hR⟩ : ∃ R, R = minF c m0 l := ⟨_, rfl⟩
  have HR := hideE hR
  rw [← hR]
  clear hp hD hs hn hR hnl e0
  go_enter Tryz.func80, Tryz.ntmps80
  go_wp2_with fail
  go_loopw [5, 6] (fun v i wr => ∃ (k : Nat) (m : Int), k + 1 ≤ n ∧ i = .int .i64 ((k + 1 : Nat) : Int) ∧ v = .int .i64 m ∧ Hid (D m) ∧ Hid (R = minF c m (l.drop k)) ∧ RowKit.Below w.heap.size w wr) (fun _ i wr => n - (intOf i).toNat)
  case atStart => exact ⟨0, m0, by omega, rfl, rfl, HD.out _ (by simp), by show _ = _; rw [HR.out]; rfl, RowKit.Below.refl _ _⟩
  case round =>
    clear c0 i01
    obtain ⟨k, m, hk, rfl, rfl, hDm, hm, hbr⟩ := hrel
    by_cases hlt : k + 1 < n
    · have hkl : k < l.length := by have := Hn.out; omega
      have t1 : decide (((k + 1 : Nat) : Int) < (n : Int)) = true := by simp; omega
      have t1' : decide ((k : Int) + 1 < (n : Int)) = true := by simp; omega
      have i0 : (0 : Int) ≤ ((k + 1 : Nat) : Int) := by omega
      have i1 : ((k + 1 : Nat) : Int) < (n : Int) := by omega
      have cx := (HS.out.below hbr).at_ (k + 1) (by simp; omega)
      rw [show (m0 :: l)[k + 1]'(by simp; omega) = l[k] from rfl] at cx
      have hDx := HD.out l[k] (List.mem_cons_of_mem _ (List.getElem_mem hkl))
      have hcall := H.out wr l[k] m hbr hDx hDm.out
      have hstep := hideE (hmin.out k hkl m)
      have hDx' := hideE hDx
      clear hDx
      generalize l[k] = x at *
      cases hc : decide (c x m < 0) with
      | true =>
        have hc' : c x m < 0 := of_decide_eq_true hc
        have hm2 : Hid (R = minF c x (l.drop (k + 1))) := by show _ = _; rw [hm.out, hstep.out, if_pos hc']
        clear hstep hm hc'
        generalize c x m = d at *
        go_wp2_with (go_at_fn g; refine hcall.mono ?_; rintro e w' ⟨rfl, hb'⟩; have cx' := cell_k cx hb'; dsimp only)
        go_roundw
        case rel => exact ⟨k + 1, x, by omega, by go_num, rfl, hDx'.out, hm2.out, bstep hbr hb'⟩
        case measure => simp [intOf]; omega
      | false =>
        have hc' : ¬ c x m < 0 := of_decide_eq_false hc
        have hm2 : Hid (R = minF c m (l.drop (k + 1))) := by show _ = _; rw [hm.out, hstep.out, if_neg hc']
        clear hstep hm hc'
        generalize c x m = d at *
        go_wp2_with (go_at_fn g; refine hcall.mono ?_; rintro e w' ⟨rfl, hb'⟩; dsimp only)
        go_roundw
        case rel => exact ⟨k + 1, m, by omega, by go_num, rfl, hDm.out, hm2.out, bstep hbr hb'⟩
        case measure => simp [intOf]; omega
    · have hkn : k + 1 = n := by omega
      have t1 : decide (((k + 1 : Nat) : Int) < (n : Int)) = false := by simp; omega
      have t1' : decide ((k : Int) + 1 < (n : Int)) = false := by simp; omega
      have hf : Hid (R = m) := by show _ = _; rw [hm.out, List.drop_of_length_le (by have := Hn.out; omega)]; rfl
      clear hm
      go_wp2_with fail
      go_ret
      exact ⟨ret_int hf.out.symm, hbr⟩

/-! ### slices.DeleteFunc -/
def keepF (p : Int → Bool) (l : List Int) : List Int := l.filter fun x => !p x
theorem keepF_app (p : Int → Bool) (l : List Int) (k : Nat) (h : k < l.length) : keepF p (l.take (k + 1)) = keepF p (l.take k) ++ (if p l[k] = true then [] else [l[k]]) := by
  unfold keepF
  rw [List.take_succ_eq_append_getElem h, List.filter_append]
  cases hp : p l[k] <;> simp [hp]
theorem keepF_len (p : Int → Bool) (l : List Int) (k : Nat) : (keepF p (l.take k)).length ≤ k := by
  refine Nat.le_trans (List.length_filter_le _ _) ?_
  rw [List.length_take]
  omega
theorem butM_set (W : World) (b o : Nat) (v : Value) : ButM b W (W.setCell ⟨b, o, none⟩ v) :=
  ⟨rfl, rfl, rfl, (KeepsWalks.setCell W _ v).size, fun k _ hk => Below.heap_setCell _ _ _ k (fun e => hk (by rw [e]))⟩
theorem butM_sets (b : Nat) : ∀ (vs : List Value) (o : Nat) (W : World), ButM b W (W.setCells b o vs)
  | [], _, W => ButM.refl b W
  | v :: vs, o, W => (butM_set W b o v).trans (butM_sets b vs (o + 1) _)
structure DelSt (w W : World) (b : Nat) (p : Int → Bool) (l : List Int) (i j : Nat) : Prop where
  len : i = (keepF p (l.take j)).length
  done : ∀ t (ht : t < (keepF p (l.take j)).length), W.cell? ⟨b, t, none⟩ = some (.int .i64 (keepF p (l.take j))[t])
  rest : ∀ t (ht : t < l.length), j ≤ t → W.cell? ⟨b, t, none⟩ = some (.int .i64 l[t])
  there : ∀ t, t < l.length → ∃ u, W.cell? ⟨b, t, none⟩ = some u
  free : ∀ t, t < l.length → W.frozen? ⟨b, t, none⟩ = false
  but : ButM b w W
theorem DelSt.le {w W : World} {b : Nat} {p : Int → Bool} {l : List Int} {i j : Nat} (h : DelSt w W b p l i j) : i ≤ j := by rw [h.len]; exact keepF_len _ _ _
theorem DelSt.below {w W W' : World} {b : Nat} {p : Int → Bool} {l : List Int} {i j : Nat} (h : DelSt w W b p l i j) (hb : RowKit.Below W.heap.size W W') : DelSt w W' b p l i j :=
  ⟨h.len, fun t ht => cell_k (h.done t ht) hb, fun t ht hj => cell_k (h.rest t ht hj) hb, fun t ht => by obtain ⟨u, hu⟩ := h.there t ht; exact ⟨u, cell_k hu hb⟩, fun t ht => by
    obtain ⟨u, hu⟩ := h.there t ht
    exact (hb.frozen (p := ⟨b, t, none⟩) (World.block_lt_of_cell? W _ hu)).trans (h.free t ht), h.but.below hb⟩
theorem DelSt.start {w W : World} {b : Nat} {p : Int → Bool} {l : List Int} {k : Nat} (hs : RowL w b l) (hb : RowKit.Below w.heap.size w W) (hk : k < l.length) (hp : p l[k] = true) (hl : ∀ (j : Nat) (hj : j < l.length), j < k → p l[j] = false) : DelSt w W b p l k (k + 1) := by
  have e : keepF p (l.take k) = l.take k := List.filter_eq_self.2 fun x hx => by
    obtain ⟨j, hj, rfl⟩ := List.getElem_of_mem hx
    have hj' : j < k := by simp at hj; omega
    rw [List.getElem_take, hl j (by omega) hj']
    rfl
  have e2 : keepF p (l.take (k + 1)) = l.take k := by rw [keepF_app p l k hk, if_pos hp, List.append_nil, e]
  have hs' := hs.below hb
  refine ⟨by rw [e2]; simp; omega, fun t ht => ?_, fun t ht _ => hs'.at_ t ht, fun t ht => ⟨_, hs'.at_ t ht⟩, fun t ht => hs'.free t ht, (ButM.refl b w).below hb⟩
  have ht' : t < k := by rw [e2] at ht; simp at ht; omega
  have e3 : (keepF p (l.take (k + 1)))[t] = l[t]'(by omega) := by simp only [e2, List.getElem_take]
  rw [e3]
  exact hs'.at_ t (by omega)
theorem DelSt.drop {w W W' : World} {b : Nat} {p : Int → Bool} {l : List Int} {i j : Nat} (h : DelSt w W b p l i j) (hb : RowKit.Below W.heap.size W W') (hj : j < l.length) (hp : p l[j] = true) : DelSt w W' b p l i (j + 1) := by
  have h' := h.below hb
  have e : keepF p (l.take (j + 1)) = keepF p (l.take j) := by rw [keepF_app p l j hj, if_pos hp, List.append_nil]
  refine ⟨by rw [e]; exact h'.len, fun t ht => ?_, fun t ht hjt => h'.rest t ht (by omega), h'.there, h'.free, h'.but⟩
  have ht' : t < (keepF p (l.take j)).length := by rw [e] at ht; exact ht
  have e3 : (keepF p (l.take (j + 1)))[t] = (keepF p (l.take j))[t] := by simp only [e]
  rw [e3]
  exact h'.done t ht'
theorem DelSt.keep {w W W' : World} {b : Nat} {p : Int → Bool} {l : List Int} {i j : Nat} (h : DelSt w W b p l i j) (hb : RowKit.Below W.heap.size W W') (hj : j < l.length) (hp : p l[j] = false) : DelSt w (W'.setCell ⟨b, i, none⟩ (.int .i64 l[j])) b p l (i + 1) (j + 1) := by
  have h' := h.below hb
  have e : keepF p (l.take (j + 1)) = keepF p (l.take j) ++ [l[j]] := by rw [keepF_app p l j hj, if_neg (by simp [hp])]
  have hij := h'.le
  have hlen := h'.len
  refine ⟨by rw [e, List.length_append, ← hlen]; rfl, fun t ht => ?_, fun t ht hjt => ?_, fun t ht => ?_, fun t ht => ?_, h'.but.trans (butM_set _ _ _ _)⟩
  · have ht2 : t < i + 1 := by rw [e, List.length_append, ← hlen] at ht; exact ht
    by_cases et : t = i
    · subst et
      obtain ⟨u, hu⟩ := h'.there t (by omega)
      have e3 : (keepF p (l.take (j + 1)))[t] = l[j] := by simp only [e]; rw [List.getElem_append_right (by omega)]; simp [hlen]
      rw [e3]
      exact World.cell?_setCell_same _ _ _ hu
    · have e3 : (keepF p (l.take (j + 1)))[t] = (keepF p (l.take j))[t]'(by omega) := by simp only [e]; rw [List.getElem_append_left]
      rw [e3, World.cell?_setCell_other _ _ _ _ (fun h => et (by simpa using congrArg Addr.off h.symm))]
      exact h'.done t (by omega)
  · rw [World.cell?_setCell_other _ _ _ _ (fun h => by have : i = t := by simpa using congrArg Addr.off h
                                                       omega)]
    exact h'.rest t ht (by omega)
  · obtain ⟨u, hu⟩ := h'.there t ht
    by_cases et : t = i
    · subst et
      exact ⟨_, World.cell?_setCell_same _ _ _ hu⟩
    · exact ⟨u, (World.cell?_setCell_other _ _ _ _ (fun h => et (by simpa using congrArg Addr.off h.symm))).trans hu⟩
  · rw [World.frozen?_setCell]
    exact h'.free t ht
theorem zeroInt (w : World) : (zeroValue 3).run Tryz.prog w = .ok (.int .i64 0) w := by kernel_rfl
/-- the end: what is behind is cleared -/
theorem DelSt.end_ {w W : World} {b : Nat} {p : Int → Bool} {l : List Int} {i : Nat} (h : DelSt w W b p l i l.length) (n : Nat) : RowL (W.setCells b i (List.replicate n (.int .i64 0))) b (keepF p l) ∧ ButM b w (W.setCells b i (List.replicate n (.int .i64 0))) := by
  have hlen := h.len
  have hd := h.done
  rw [List.take_length] at hlen
  have hlt : (keepF p l).length ≤ l.length := List.length_filter_le _ _
  refine ⟨⟨fun t ht => ?_, fun t ht => ?_⟩, h.but.trans (butM_sets _ _ _ _)⟩
  · rw [World.cell?_setCells_out _ _ _ _ _ (fun _ _ => Or.inl (by show t < i; omega))]
    have := hd t (by rw [List.take_length]; exact ht)
    simp only [List.take_length] at this
    exact this
  · rw [World.frozen?_setCells]
    exact h.free t (by omega)

set_option maxHeartbeats 4000000 in
set_option maxRecDepth 100000 in
theorem FIndex_any (g : Nat) (lb : Array Value) (p : Int → Bool) (w : World) (b cap : Nat) (l : List Int) (eg : ∀ args w, (callFunc g args).run Tryz.prog w = .ok (.enter g args) w) (hp : PredM g lb p b w) (hs : RowL w b l) (hl : l.length ≤ 1000) :
    Calls Tryz.prog 120 #[.slice (some ⟨b, 0, none⟩) l.length cap, .func (.func g) #[] lb] w fun e w' => (∃ r : Int, e = .returned (.int .i64 r) ∧ IdxOf p l r) ∧ RowKit.Below w.heap.size w w' := by
  have H := hideE hp
  have HS := hideE hs
  have HI : Hid (∀ r, r = -1 → (∀ (j : Nat) (hj : j < l.length), p l[j] = false) → IdxOf p l r) := fun r hr h => Or.inl ⟨hr, fun x hx => by
    obtain ⟨j, hj, rfl⟩ := List.getElem_of_mem hx
    exact h j hj⟩
  have HJ : Hid (∀ (k : Nat) (hk : k < l.length), p l[k] = true → (∀ (j : Nat) (hj : j < l.length), j < k → p l[j] = false) → IdxOf p l (k : Int)) := fun k hk h1 h2 => Or.inr ⟨k, hk, rfl, h1, h2⟩
  obtain ⟨n, hn⟩ : ∃ n, n = l.length := ⟨_, rfl⟩
  have Hn := hideE hn
  rw [← hn] at hl ⊢
  generalize IdxOf p l = G at *
  clear hp hs hn
  go_enter Tryz.func120, Tryz.ntmps120
  go_wp2_with fail
  go_loopw [8] (fun i wr => ∃ (k : Nat), k ≤ n ∧ i = .int .i64 k ∧ RowKit.Below w.heap.size w wr ∧ Hid (∀ (j : Nat) (hj : j < l.length), j < k → p l[j] = false)) (fun i wr => n - (intOf i).toNat)
  case atStart => exact ⟨0, Nat.zero_le _, rfl, RowKit.Below.refl _ w, fun j hj h0 => by omega⟩
  case round =>
    obtain ⟨k, hk, rfl, hbr, hall⟩ := hrel
    by_cases hlt : k < n
    · have hkl : k < l.length := by rw [← Hn.out]; exact hlt
      have hc := (HS.out.below hbr).at_ k hkl
      have hcall := H.out wr l[k] ((ButM.refl b w).below hbr)
      have i0 : (0 : Int) ≤ (k : Int) := by omega
      have i1 : (k : Int) < (n : Int) := by omega
      have HV : Hid (∀ q, p l[k] = q → (q = false → (∀ (j : Nat) (hj : j < l.length), j < k + 1 → p l[j] = false)) ∧ (q = true → G (k : Int))) := by
        intro q hq
        refine ⟨fun e j hj h1 => ?_, fun e => HJ.out k hkl (hq.trans e) hall.out⟩
        by_cases ej : j = k
        · subst ej; exact hq.trans e
        · exact hall.out j hj (by omega)
      cases hq : p l[k] with
      | false =>
        rw [hq] at hcall
        have hnext : Hid (∀ (j : Nat) (hj : j < l.length), j < k + 1 → p l[j] = false) := (HV.out _ hq).1 rfl
        clear HV hq hall
        generalize l[k] = z at *
        go_wp2_with (go_at_fn g; refine hcall.mono ?_; rintro e w' ⟨rfl, hb'⟩; dsimp only)
        go_roundw
        case rel => exact ⟨k + 1, by omega, by go_num, bstep hbr hb', hnext⟩
        case measure => simp [intOf]; omega
      | true =>
        rw [hq] at hcall
        have hno2 : Hid (G (k : Int)) := (HV.out _ hq).2 rfl
        clear HV hq hall
        generalize l[k] = z at *
        go_wp2_with (go_at_fn g; refine hcall.mono ?_; rintro e w' ⟨rfl, hb'⟩; dsimp only)
        go_ret
        exact ⟨⟨(k : Int), rfl, hno2.out⟩, bstep hbr hb'⟩
    · have hkk : k = n := by omega
      have hyes : Hid (G (-1)) := HI.out (-1) rfl fun j hj => hall.out j hj (by rw [hkk, Hn.out]; exact hj)
      subst hkk
      clear hall
      go_wp2_with fail
      go_ret
      exact ⟨⟨-1, rfl, hyes.out⟩, hbr⟩

set_option maxHeartbeats 4000000 in
set_option maxRecDepth 100000 in
theorem DeleteFunc_any (g : Nat) (lb : Array Value) (p : Int → Bool) (w : World) (b cap : Nat) (l : List Int) (eg : ∀ args w, (callFunc g args).run Tryz.prog w = .ok (.enter g args) w) (hp : PredM g lb p b w) (hs : RowL w b l) (hl : l.length ≤ 1000) (hcap : l.length ≤ cap) :
    Calls Tryz.prog 86 #[.slice (some ⟨b, 0, none⟩) l.length cap, .func (.func g) #[] lb] w fun e w' => e = .returned (.slice (some ⟨b, 0, none⟩) (keepF p l).length cap) ∧ RowL w' b (keepF p l) ∧ ButM b w w' := by
  have HF := FIndex_any g lb p w b cap l eg hp hs hl
  have H := hideE hp
  have HS := hideE hs
  obtain ⟨n, hn⟩ : ∃ n, n = l.length := ⟨_, rfl⟩
  have Hn := hideE hn
  rw [← hn] at hl hcap HF ⊢
  clear hp hs hn
  go_enter Tryz.func86, Tryz.ntmps86
  go_wp2_with fail
  refine HF.mono ?_
  rintro e w1 ⟨⟨r, rfl, hr⟩, hb1⟩
  rcases hr with ⟨hr1, hall⟩ | ⟨k, hk, rfl, hpk, hlow⟩
  · have e : keepF p l = l := List.filter_eq_self.2 fun x hx => by rw [hall x hx]; rfl
    have hfin := hideE (show (keepF p l).length = n by rw [e]; exact Hn.out.symm)
    have hrow := hideE (show RowL w1 b (keepF p l) by rw [e]; exact HS.out.below hb1)
    have t0 : (r == -1) = true := by rw [hr1]; rfl
    clear hall e HF hr1
    dsimp only
    go_wp2_with fail
    go_ret
    exact ⟨(by rw [hfin.out]; rfl), hrow.out, (ButM.refl b w).below hb1⟩
  · have hkn : k < n := by rw [Hn.out]; exact hk
    have hst := hideE (DelSt.start HS.out hb1 hk hpk hlow)
    have t0 : ((k : Int) == -1) = false := by simp
    clear hlow hpk hk hb1 HF
    dsimp only
    go_wp2_with fail
    go_loopw [5, 6] (fun i j wr => ∃ (a c : Nat), c ≤ n ∧ a < c ∧ i = .int .i64 a ∧ j = .int .i64 c ∧ Hid (DelSt w wr b p l a c)) (fun _ j wr => n - (intOf j).toNat)
    case atStart => exact ⟨k, k + 1, by omega, by omega, rfl, by go_num, hst.out⟩
    case round =>
      clear hst
      obtain ⟨a, c, hcn, hac, rfl, rfl, hst⟩ := hrel
      by_cases hlt : c < n
      · have hcl : c < l.length := by rw [← Hn.out]; exact hlt
        have hcell := hst.out.rest c hcl (Nat.le_refl _)
        have hcall := H.out wr l[c] hst.out.but
        have t1 : decide ((c : Int) < (n : Int)) = true := by simp; omega
        have i0 : (0 : Int) ≤ (c : Int) := by omega
        have i1 : (c : Int) < (n : Int) := by omega
        have a0 : (0 : Int) ≤ (a : Int) := by omega
        have a1 : (a : Int) < (n : Int) := by omega
        have hdrop := hideE (fun (W' : World) (hb : RowKit.Below wr.heap.size wr W') (hq : p l[c] = true) => hst.out.drop hb hcl hq)
        have hkeep := hideE (fun (W' : World) (hb : RowKit.Below wr.heap.size wr W') (hq : p l[c] = false) => hst.out.keep hb hcl hq)
        have hfree := hst.out.free a (by omega)
        obtain ⟨ua, hua⟩ := hst.out.there a (by omega)
        cases hq : p l[c] with
        | true =>
          rw [hq] at hcall
          have hnext := hideE (fun W' hb => hdrop.out W' hb hq)
          clear hdrop hkeep hq hst hfree hua
          generalize l[c] = z at *
          go_wp2_with (go_at_fn g; refine hcall.mono ?_; rintro e w' ⟨rfl, hb'⟩; dsimp only)
          go_roundw
          case rel => exact ⟨a, c + 1, by omega, by omega, rfl, by go_num, hnext.out _ hb'⟩
          case measure => simp [intOf]; omega
        | false =>
          rw [hq] at hcall
          have hnext := hideE (fun W' hb => hkeep.out W' hb hq)
          clear hdrop hkeep hq hst
          generalize l[c] = z at *
          go_wp2_with (go_at_fn g; refine hcall.mono ?_; rintro e w' ⟨rfl, hb'⟩; have hua' := cell_k hua hb'; have hfree' := (hb'.frozen (p := ⟨b, a, none⟩) (World.block_lt_of_cell? _ _ hua)).trans hfree; dsimp only)
          go_roundw
          case rel => exact ⟨a + 1, c + 1, by omega, by omega, by go_num, by go_num, hnext.out _ hb'⟩
          case measure => simp [intOf]; omega
      · have hce : c = n := by omega
        have t1 : decide ((c : Int) < (n : Int)) = false := by simp; omega
        have hend := hideE (show DelSt w wr b p l a l.length by have := hst.out; rw [hce, Hn.out] at this; exact this)
        have hlen := hideE (show (keepF p l).length = a by have := hend.out.len; rw [List.take_length] at this; exact this.symm)
        have han : a < n := by omega
        have a0 : (0 : Int) ≤ (a : Int) := by omega
        have a1 : (a : Int) ≤ (n : Int) := by omega
        have a2 : (a : Int) ≤ (cap : Int) := by omega
        have n1 : (n : Int) ≤ (cap : Int) := by omega
        have n3 : a ≤ n := by omega
        have n4 : a ≤ cap := by omega
        have hcl : ∀ ty, (Builtin.clear_ #[56] ty #[.slice (some ⟨b, a, none⟩) (n - a) (cap - a)]).run Tryz.prog wr = .ok (.tuple #[]) (wr.setCells b a (List.replicate (n - a) (.int .i64 0))) :=
          fun ty => Lib.run_clear_slice wr 56 3 ty (.int .i64 0) Tryz.underlying56 zeroInt rfl rfl b a (n - a) (cap - a) (by omega)
            (fun t ht => by obtain ⟨u, hu⟩ := hend.out.there (a + t) (by have := Hn.out; omega); rw [hu]; rfl) (fun t ht => hend.out.free (a + t) (by have := Hn.out; omega))
        clear hst
        subst hce
        go_wp2_with fail
        go_ret
        obtain ⟨q1, q2⟩ := hend.out.end_ (c - a)
        exact ⟨(by rw [hlen.out]; rfl), q1, q2⟩
end Go.Proofs.YtcdbcoaiadipjaaGreatDoor

/- plan.places, plan.countEach, plan.take: the places of a question's parts as they are taken. -/
namespace Go.Proofs.YtcdbcoaiadipjaaGreatDoor
open Go Go.RowKit Go.Proofs Go.Maps
set_option synthInstance.maxSize 1000
attribute [local go_sem] eql_errV neq_errV guard_errV

/-! ### a row that is laid number by number -/
def rowJ (C : List Int) (k : Nat) : List Int := C.take k ++ List.replicate (C.length - k) 0
theorem rowJ_len (C : List Int) (k : Nat) (h : k ≤ C.length) : (rowJ C k).length = C.length := by simp [rowJ]; omega
theorem rowJ_next {C : List Int} {k : Nat} (h : k < C.length) : (rowJ C k).set k C[k] = rowJ C (k + 1) := by
  unfold rowJ
  obtain ⟨m, hm⟩ : ∃ m, C.length - k = m + 1 := ⟨C.length - k - 1, by omega⟩
  have hm2 : C.length - (k + 1) = m := by omega
  have hk : (C.take k).length = k := by simp; omega
  rw [hm, hm2, List.replicate_succ, List.set_append_right _ _ (by omega), hk, Nat.sub_self, List.set_cons_zero, List.take_succ_eq_append_getElem h, List.append_assoc]
  rfl
theorem rowJ_all (C : List Int) : rowJ C C.length = C := by simp [rowJ]
theorem rowJ_full {C : List Int} {k : Nat} (h : C.length = k) : rowJ C k = C := by rw [← h]; exact rowJ_all C
theorem rowJ_zero (C : List Int) : rowJ C 0 = List.replicate C.length 0 := by simp [rowJ]
theorem RowL.set {W : World} {b : Nat} {l : List Int} (h : RowL W b l) {k : Nat} (hk : k < l.length) (v : Int) : RowL (W.setCell ⟨b, k, none⟩ (.int .i64 v)) b (l.set k v) := by
  refine ⟨fun j hj => ?_, fun j hj => ?_⟩
  · have hj' : j < l.length := by simpa using hj
    by_cases e : j = k
    · subst e
      rw [List.getElem_set_self]
      exact World.cell?_setCell_same _ _ _ (h.at_ j hj')
    · rw [List.getElem_set_ne (fun h => e h.symm), World.cell?_setCell_other _ _ _ _ (fun h => e (by simpa using congrArg Addr.off h.symm))]
      exact h.at_ j hj'
  · rw [World.frozen?_setCell]
    exact h.free j (by simpa using hj)
theorem makeInts (n : Nat) (w : World) (h : n ≤ 100000) : (Instr.makeSlice 56 (.int .i64 (n : Int)) (.int .i64 (n : Int))).run Tryz.prog w = .ok (.slice (some ⟨w.heap.size, 0, none⟩) n n) (w.alloc (.cells (madeCells #[.int .i64 0] n) 3)) := by
  obtain ⟨i, hi, hz⟩ := Option.map_eq_some_iff.1 infoU
  simp only [Prod.mk.injEq] at hz
  obtain ⟨h1, h2, h3⟩ := hz
  have := run_make (P := Tryz.prog) w 56 3 i _ Tryz.underlying56 hi h1 .i64 .i64 (n : Int) (n : Int) (by omega) (Int.le_refl _) (by rw [h3]; omega) (by omega)
  rw [h2] at this
  simpa [Value.cells] using this
theorem rowL_made (W : World) (n : Nat) : RowL (W.alloc (.cells (madeCells #[.int .i64 0] n) 3)) W.heap.size (List.replicate n 0) := by
  have hh := heap_alloc_last W (.cells (madeCells #[.int .i64 0] n) 3)
  refine ⟨fun j hj => ?_, fun j hj => frozen_of_row _ _ j _ 3 hh⟩
  have hj' : j < n := by simpa using hj
  rw [cell_of_row _ _ j _ 3 (0, 0) hh, ← Array.getElem?_toList, toList_madeCells_one]
  simp [hj']

set_option maxHeartbeats 4000000 in
set_option maxRecDepth 100000 in
theorem places_any (n : Nat) (w : World) (h : n ≤ 1000) :
    Calls Tryz.prog 79 #[.int .i64 (n : Int)] w fun e w' => e = .returned (.slice (some ⟨w.heap.size, 0, none⟩) n n) ∧ RowL w' w.heap.size (placesI n) ∧ RowKit.Below w.heap.size w w' := by
  have hmk := makeInts n w (by omega)
  have hln : (placesI n).length = n := by simp [placesI]
  have hR0 := rowL_made w n
  rw [show List.replicate n (0 : Int) = rowJ (placesI n) 0 by rw [rowJ_zero, hln]] at hR0
  have hget : Hid (∀ k (hk : k < (placesI n).length), (placesI n)[k] = (k : Int)) := fun k hk => by simp [placesI]
  have HR := hideE hR0
  have Hln := hideE hln
  have hB0 : RowKit.Below w.heap.size w (w.alloc (.cells (madeCells #[.int .i64 0] n) 3)) := balloc _ _
  obtain ⟨W0, hW0⟩ : ∃ W0, W0 = w.alloc (.cells (madeCells #[.int .i64 0] n) 3) := ⟨_, rfl⟩
  rw [← hW0] at hmk HR hB0
  have hz0 : w.heap.size < W0.heap.size := by rw [hW0]; simp
  clear hR0 hln hW0
  go_enter Tryz.func79, Tryz.ntmps79
  go_wp2_with fail
  clear hmk
  go_loopw [9] (fun i wr => ∃ k : Nat, k ≤ n ∧ i = .int .i64 k ∧ Hid (RowL wr w.heap.size (rowJ (placesI n) k)) ∧ RowKit.Below w.heap.size w wr) (fun i wr => n - (intOf i).toNat)
  case atStart => exact ⟨0, Nat.zero_le _, rfl, HR.out, hB0⟩
  case round =>
    clear HR hB0
    obtain ⟨k, hk, rfl, hR, hbr⟩ := hrel
    by_cases hlt : k < n
    · have hkl : k < (placesI n).length := by rw [Hln.out]; exact hlt
      have hjl := rowJ_len (placesI n) k (by omega)
      have ck := hR.out.at_ k (by rw [hjl]; exact hkl)
      have fk := hR.out.free k (by rw [hjl]; exact hkl)
      generalize (rowJ (placesI n) k)[k]'(by rw [hjl]; exact hkl) = u at *
      have hset := hideE (hR.out.set (k := k) (by rw [hjl]; exact hkl) (k : Int))
      have e1 := rowJ_next hkl
      rw [hget.out k hkl] at e1
      have hset2 := hideE (show RowL (wr.setCell ⟨w.heap.size, k, none⟩ (.int .i64 (k : Int))) w.heap.size (rowJ (placesI n) (k + 1)) by rw [← e1]; exact hset.out)
      have t1 : decide ((k : Int) < (n : Int)) = true := by simp; omega
      have i0 : (0 : Int) ≤ (k : Int) := by omega
      have i1 : (k : Int) < (n : Int) := by omega
      clear hset e1 hjl hR hkl
      go_wp2_with fail
      go_roundw
      case rel => exact ⟨k + 1, by omega, by go_num, hset2.out, hbr.setCell (p := ⟨w.heap.size, k, none⟩) (Nat.le_refl _) _⟩
      case measure => simp [intOf]; omega
    · obtain rfl : k = n := by omega
      have t1 : decide ((k : Int) < (k : Int)) = false := by simp
      have hfin := hideE (show RowL wr w.heap.size (placesI k) by have := hR.out; rw [rowJ_full Hln.out] at this; exact this)
      clear hR
      go_wp2_with fail
      refine bodyPost_ret (v := .slice (some ⟨w.heap.size, 0, none⟩) k k) (by simp [results, Tryz.results79, go_sem]) rfl ⟨rfl, hfin.out, hbr⟩
def toI (l : List Nat) : List Int := l.map fun n : Nat => (n : Int)
set_option maxHeartbeats 4000000 in
set_option maxRecDepth 100000 in
theorem countEach_any (ad : Option Addr) (ca : Nat) (S : List Tr) (ps : List Pt) (pd : Option Addr) (pc : Nat) (w : World) (h : SlT w ad S) (hfit : ∀ x ∈ S, fitTr x) (hn : S.length ≤ 200) (hps : SlPt w pd ps) (hf : ∀ p ∈ ps, fitPt p) (h6 : ps.length ≤ 6) (hs : sortedN S = 0) (hv : ∀ p ∈ ps, varsN p = 0) :
    Calls Tryz.prog 48 #[.slice ad S.length ca, .slice pd ps.length pc] w fun e w' => e = .returned (.tuple #[.slice (some ⟨w.heap.size, 0, none⟩) ps.length ps.length, .nilIface]) ∧ RowL w' w.heap.size (toI (countsL S ps)) ∧ RowKit.Below w.heap.size w w' := by
  have hmk := makeInts ps.length w (by omega)
  have hln : (toI (countsL S ps)).length = ps.length := by simp [toI, countsL]
  have hR0 := rowL_made w ps.length
  rw [show List.replicate ps.length (0 : Int) = rowJ (toI (countsL S ps)) 0 by rw [rowJ_zero, hln]] at hR0
  have hget : Hid (∀ k (hk : k < ps.length), (toI (countsL S ps))[k]'(by rw [hln]; exact hk) = ((matchL S ps[k]).length : Int)) := fun k hk => by simp [toI, countsL]; rfl
  have hN : Hid (∀ p ∈ ps, matchN S p = 0) := fun p hp => by unfold matchN; rw [if_pos hs]; exact hv p hp
  have hC : Hid (∀ p, matchN S p = 0 → CountAns S p = (matchL S p).length) := fun p h => by unfold CountAns; rw [if_pos h]
  have HR := hideE hR0
  have Hln := hideE hln
  have Hh := hideE h
  have Hps := hideE hps
  have Hf := hideE hf
  have HCt := fun p W hW hp => Count_any ad ca S p W hW hfit hp (by omega)
  have HHC := hideE HCt
  have hB0 : RowKit.Below w.heap.size w (w.alloc (.cells (madeCells #[.int .i64 0] ps.length) 3)) := balloc _ _
  obtain ⟨W0, hW0⟩ : ∃ W0, W0 = w.alloc (.cells (madeCells #[.int .i64 0] ps.length) 3) := ⟨_, rfl⟩
  rw [← hW0] at hmk HR hB0
  clear hR0 hW0 h hps hf hs hv hfit HCt
  obtain ⟨C, hCe⟩ : ∃ C, C = toI (countsL S ps) := ⟨_, rfl⟩
  have HCe := hideE hCe
  obtain ⟨n, hnn⟩ : ∃ n, n = ps.length := ⟨_, rfl⟩
  rw [← hnn] at hmk h6 ⊢
  have Hnn := hideE hnn
  clear hCe hnn
  go_enter Tryz.func48, Tryz.ntmps48
  go_wp2_with fail
  clear hmk
  go_loopw [16] (fun i wr => ∃ k : Nat, k ≤ n ∧ i = .int .i64 k ∧ Hid (RowL wr w.heap.size (rowJ C k)) ∧ RowKit.Below w.heap.size w wr) (fun i wr => n - (intOf i).toNat)
  case atStart => exact ⟨0, Nat.zero_le _, rfl, by show RowL _ _ _; rw [HCe.out]; exact HR.out, hB0⟩
  case round =>
    clear HR hB0
    obtain ⟨k, hk, rfl, hR, hbr⟩ := hrel
    by_cases hlt : k < n
    · have hkp : k < ps.length := by rw [← Hnn.out]; exact hlt
      have hCl : C.length = ps.length := by rw [HCe.out]; exact Hln.out
      have hkl : k < C.length := by omega
      have hjl := rowJ_len C k (by omega)
      have ck := hR.out.at_ k (by rw [hjl]; exact hkl)
      have fk := hR.out.free k (by rw [hjl]; exact hkl)
      generalize (rowJ C k)[k]'(by rw [hjl]; exact hkl) = u at *
      have zk := World.block_lt_of_cell? wr _ ck
      dsimp only at zk
      have hgk : C[k] = ((matchL S ps[k]).length : Int) := by
        have := hget.out k hkp
        simp only [HCe.out]
        exact this
      have hnext := hideE (fun (W' : World) (hb : RowKit.Below wr.heap.size wr W') => (by
        have q := (hR.out.below hb).set (k := k) (by rw [hjl]; exact hkl) C[k]
        rw [rowJ_next hkl, hgk] at q
        exact q : RowL (W'.setCell ⟨w.heap.size, k, none⟩ (.int .i64 ((matchL S ps[k]).length : Int))) w.heap.size (rowJ C (k + 1))))
      obtain ⟨b, o, rfl, hr0⟩ := (Hps.out.below hbr).at k hkp
      have hr := hr0.at k hkp
      have hpk := Hf.out _ (List.getElem_mem hkp)
      have hNk := hN.out _ (List.getElem_mem hkp)
      have hCk := hC.out _ hNk
      have HP := fun W hW => HHC.out ps[k] W hW hpk
      rw [hNk, hCk] at HP
      generalize ps[k] = p at *
      have t1 : decide ((k : Int) < (n : Int)) = true := by simp; omega
      have i0 : (0 : Int) ≤ (k : Int) := by omega
      have i1 : (k : Int) < (n : Int) := by omega
      have c0 := hr 0 _ rfl
      have c1 := hr 1 _ rfl
      have c2 := hr 2 _ rfl
      have c3 := hr 3 _ rfl
      have c4 := hr 4 _ rfl
      have c5 := hr 5 _ rfl
      have c6 := hr 6 _ rfl
      have c7 := hr 7 _ rfl
      have c8 := hr 8 _ rfl
      have c9 := hr 9 _ rfl
      have c10 := hr 10 _ rfl
      have c11 := hr 11 _ rfl
      rw [Nat.add_zero] at c0
      clear hr hr0 hjl hR hkl hgk hCl hkp hpk hNk hCk
      generalize (matchL S p).length = mc at *
      unfold valPt at HP
      go_wp2_with fail
      refine (HP _ (Hh.out.below (bstep hbr (balloc _ _)))).mono ?_
      rintro e w4 ⟨rfl, hb4⟩
      have hb4' : RowKit.Below wr.heap.size wr w4 := bstep (balloc wr (.cells (encPt p).toArray 32)) hb4
      have ck4 := cell_k ck hb4'
      have fk4 := (hb4'.frozen (p := ⟨w.heap.size, k, none⟩) zk).trans fk
      have HB4 := hideE (bstep hbr hb4')
      have HN4 := hideE (hnext.out w4 hb4')
      clear ck fk c0 c1 c2 c3 c4 c5 c6 c7 c8 c9 c10 c11 HP hnext hb4 hb4'
      dsimp only
      go_wp2_with fail
      go_roundw
      case rel => exact ⟨k + 1, by omega, by go_num, HN4.out, HB4.out.setCell (p := ⟨w.heap.size, k, none⟩) (Nat.le_refl _) _⟩
      case measure => simp [intOf]; omega
    · obtain rfl : k = n := by omega
      have t1 : decide ((k : Int) < (k : Int)) = false := by simp
      have hkC : k = C.length := by rw [HCe.out, Hln.out]; exact Hnn.out
      have hfin := hideE (show RowL wr w.heap.size (toI (countsL S ps)) by have := hR.out; rw [rowJ_full hkC.symm, HCe.out] at this; exact this)
      clear hR hkC
      go_wp2_with fail
      refine bodyPost_ret (v := .tuple #[.slice (some ⟨w.heap.size, 0, none⟩) k k, .nilIface]) (by simp [results, Tryz.results48, go_sem]) rfl ⟨rfl, hfin.out, hbr⟩
end Go.Proofs.YtcdbcoaiadipjaaGreatDoor

/- plan.take: the loop that picks the next part. -/
namespace Go.Proofs.YtcdbcoaiadipjaaGreatDoor
open Go Go.RowKit Go.Proofs Go.Maps
set_option synthInstance.maxSize 1000
attribute [local go_sem] eql_errV neq_errV guard_errV

theorem SlPt.kept {w w' : World} {ad : Option Addr} {l : List Pt} {row : Option Nat} (h : SlPt w ad l) (hg : w.grownBy w' row) (hne : ∀ b o, ad = some ⟨b, o, none⟩ → some b ≠ row) : SlPt w' ad l := fun hl => by
  obtain ⟨b, o, e, r⟩ := h hl
  exact ⟨b, o, e, fun j v hv => hg.cell (r j v hv) (hne b o e)⟩
theorem SlI.keptB {w w' : World} {ad : Option Addr} {l : List Int} {row : Option Nat} (h : SlI w ad l) (hg : w.grownBy w' row) (hne : ∀ b o, ad = some ⟨b, o, none⟩ → some b ≠ row) : SlI w' ad l := fun hl => by
  obtain ⟨b, o, e, r⟩ := h hl
  exact ⟨b, o, e, fun j hj => hg.cell (r j hj) (hne b o e)⟩
theorem RowL.kept {w w' : World} {lb : Nat} {l : List Int} {row : Option Nat} (h : RowL w lb l) (hg : w.grownBy w' row) (hne : some lb ≠ row) : RowL w' lb l :=
  ⟨fun j hj => hg.cell (h.at_ j hj) hne, fun j hj => by
    rw [World.frozen?_of_block (hg.block lb (World.block_lt_of_cell? w _ (h.at_ j hj)) hne)]
    exact h.free j hj⟩
/-- the boxes and the blocks of plan.take: from B on its own, below B the caller's -/
structure TakeSt (w : World) (B : Nat) (K : List (List UInt8)) (nm : Nat) (parts : List Pt) (pd : Option Addr) (pc : Nat) (counts : List Nat) (cd : Option Addr) (cc : Nat) : Prop where
  env : TakeEnv w (B + 1 + 1 + 1) B (B + 1) (B + 1 + 1) nm K parts pd pc counts cd cc
  pd_ : ∀ b o, pd = some ⟨b, o, none⟩ → b < B
  cd_ : ∀ b o, cd = some ⟨b, o, none⟩ → b < B
theorem TakeSt.below {w w' : World} {B : Nat} {K : List (List UInt8)} {nm : Nat} {parts : List Pt} {pd : Option Addr} {pc : Nat} {counts : List Nat} {cd : Option Addr} {cc : Nat} (h : TakeSt w B K nm parts pd pc counts cd cc) (hb : RowKit.Below w.heap.size w w') : TakeSt w' B K nm parts pd pc counts cd cc :=
  ⟨h.env.below hb, h.pd_, h.cd_⟩
/-- a write into a row that lies behind the boxes -/
theorem TakeSt.kept {w w' : World} {B : Nat} {K : List (List UInt8)} {nm : Nat} {parts : List Pt} {pd : Option Addr} {pc : Nat} {counts : List Nat} {cd : Option Addr} {cc : Nat} {row : Option Nat} (h : TakeSt w B K nm parts pd pc counts cd cc) (hg : w.grownBy w' row) (hr : ∀ j, row = some j → B + 4 ≤ j) : TakeSt w' B K nm parts pd pc counts cd cc := by
  have ne : ∀ k, k < B + 4 → some k ≠ row := fun k hk e => by have := hr k e.symm; omega
  exact ⟨⟨hg.cell h.env.k (ne _ (by show B + 1 + 1 + 1 < _; omega)), hg.cell h.env.p (ne _ (by show B < _; omega)), hg.cell h.env.c (ne _ (by show B + 1 < _; omega)), h.env.known.kept hg (ne _ (by omega)), h.env.pts.kept hg fun b o e => ne b (by have := h.pd_ b o e; omega), h.env.cnt.keptB hg fun b o e => ne b (by have := h.cd_ b o e; omega)⟩, h.pd_, h.cd_⟩
/-- more is known -/
theorem TakeSt.learn {w w' : World} {B : Nat} {K K' : List (List UInt8)} {nm nm' : Nat} {parts : List Pt} {pd : Option Addr} {pc : Nat} {counts : List Nat} {cd : Option Addr} {cc : Nat} (h : TakeSt w B K nm parts pd pc counts cd cc) (hg : ButM (B + 1 + 1) w w') (hk : KnownAt w' (B + 1 + 1) nm' K') : TakeSt w' B K' nm' parts pd pc counts cd cc := by
  have ne : ∀ k, k ≠ B + 1 + 1 → some k ≠ some (B + 1 + 1) := fun k hk e => hk (Option.some.inj e)
  exact ⟨⟨World.grownBy.cell hg h.env.k (ne _ (by show B + 1 + 1 + 1 ≠ _; omega)), World.grownBy.cell hg h.env.p (ne _ (by show B ≠ _; omega)), World.grownBy.cell hg h.env.c (ne _ (by show B + 1 ≠ _; omega)), hk, h.env.pts.kept hg fun b o e => ne b (by have := h.pd_ b o e; omega), h.env.cnt.keptB hg fun b o e => ne b (by have := h.cd_ b o e; omega)⟩, h.pd_, h.cd_⟩
theorem enters87 : ∀ args w, (callFunc 87 args).run Tryz.prog w = .ok (.enter 87 args) w := enters_of Tryz.func87 (by kernel_rfl) rfl
set_option maxRecDepth 100000 in
theorem take2_any (nb : Nat) (x m : Int) (w : World) (h : w.cell? ⟨nb, 0, none⟩ = some (.int .i64 m)) : Calls Tryz.prog 87 #[.int .i64 x, .pointer (some ⟨nb, 0, none⟩)] w fun e w' => e = .returned (.bool (decide (x = m))) ∧ RowKit.Below w.heap.size w w' := by
  go_enter Tryz.func87, Tryz.ntmps87
  go_wp2_with fail
  go_ret
  exact ⟨rfl, RowKit.Below.refl _ _⟩
theorem take2_pred {nb lb : Nat} {m : Int} {w : World} (h : w.cell? ⟨nb, 0, none⟩ = some (.int .i64 m)) (hne : nb ≠ lb) : PredM 87 #[.pointer (some ⟨nb, 0, none⟩)] (fun x => decide (x = m)) lb w := fun W x hW =>
  take2_any nb x m W (World.grownBy.cell hW h (fun e => hne (Option.some.inj e)))

/-- as far as the parts are taken -/
structure DoneSt (parts : List Pt) (counts : List Nat) (known : List (List UInt8)) (done left : List Int) : Prop where
  all : takeL parts counts = done ++ takeF parts counts left.length known left
  nodup : left.Nodup
  within : ∀ x ∈ left, 0 ≤ x ∧ x < parts.length
  len : done.length + left.length = parts.length
theorem DoneSt.start (parts : List Pt) (counts : List Nat) : DoneSt parts counts [] [] (placesI parts.length) :=
  ⟨by unfold takeL; rw [show (placesI parts.length).length = parts.length by simp [placesI]]; rfl, placesI_nodup _, fun x hx => placesI_mem.1 hx, by simp [placesI]⟩
theorem DoneSt.next {parts : List Pt} {counts : List Nat} {known : List (List UInt8)} {done left : List Int} (h : DoneSt parts counts known done left) (h0 : left ≠ []) :
    DoneSt parts counts (learnP known (parts.getD (nextP parts counts known left).toNat patZero)) (done ++ [nextP parts counts known left]) (leftP left (nextP parts counts known left)) := by
  have hm := nextP_mem (parts := parts) (counts := counts) (known := known) h0
  have hlt := leftP_less hm
  have hl : (leftP left (nextP parts counts known left)).length + 1 = left.length := by
    have he : leftP left (nextP parts counts known left) = left.erase (nextP parts counts known left) := by
      unfold leftP
      rw [h.nodup.erase_eq_filter]
      refine List.filter_congr fun x _ => ?_
      by_cases e : x = nextP parts counts known left
      · simp [e]
      · simp [e]
    rw [he, List.length_erase_of_mem hm]
    omega
  refine ⟨?_, h.nodup.sublist List.filter_sublist, fun x hx => h.within x (List.mem_filter.1 hx).1, by have := h.len; simp; omega⟩
  obtain ⟨n, hn⟩ : ∃ n, left.length = n + 1 := ⟨left.length - 1, by omega⟩
  rw [h.all, hn, List.append_assoc]
  conv => lhs; rw [takeF]
  rw [if_neg h0, takeF_more parts counts n (leftP left (nextP parts counts known left)).length _ _ (by omega) (Nat.le_refl _)]
  rfl
theorem DoneSt.done {parts : List Pt} {counts : List Nat} {known : List (List UInt8)} {done : List Int} (h : DoneSt parts counts known done []) : done = takeL parts counts := by
  rw [h.all]
  simp [takeF]
def cellsI2 (m : List Int) : List Value := m.map fun k : Int => Value.int .i64 k
theorem ownI_sl {W : World} {base : Nat} {e : TypeId} {v : Value} {m : List Int} (h : W.ownsRow base e 1 v m.length (cellsI2 m)) : ∃ ad cap, v = .slice ad m.length cap ∧ SlI W ad m := by
  have h' := h
  rcases h.2 with ⟨rfl, h0⟩ | ⟨g, cap, cur, rfl, _⟩
  · exact ⟨none, 0, by rw [h0], fun hne => absurd (List.eq_nil_of_length_eq_zero h0) hne⟩
  · refine ⟨some ⟨g, 0, none⟩, cap, rfl, fun _ => ⟨g, 0, rfl, fun j hj => ?_⟩⟩
    have := h'.cells (g := g) rfl j (.int .i64 m[j]) (by simp [cellsI2, hj])
    rw [Addr.add_lit] at this
    exact this
theorem own_lo {W : World} {base n : Nat} {e : TypeId} {v : Value} {cs : List Value} (h : W.ownsRow base e 1 v n cs) : ∀ j, v.ownBlock = some j → base ≤ j := fun j hj => (h.lt j hj).1
def TakeAns (parts : List Pt) (counts : List Nat) (w : World) (e : Ending) (w' : World) : Prop := RowKit.Below w.heap.size w w' ∧ ∃ ad c, e = .returned (.slice ad (takeL parts counts).length c) ∧ SlI w' ad (takeL parts counts)
/-! ### the loop -/
def sliceLen : Value → Nat
  | .slice _ n _ => n
  | _ => 0
def S7 (B rb ro n pc nb xi : Nat) (x : Pt) (W : World) : Prop := W.cell? ⟨B + 1 + 1 + 1, 0, none⟩ = some (.map (some (B + 1 + 1))) ∧ W.cell? ⟨B, 0, none⟩ = some (.slice (some ⟨rb, ro, none⟩) n pc) ∧ W.cell? ⟨nb, 0, none⟩ = some (.int .i64 (xi : Int)) ∧ W.cell? ⟨rb, ro + xi * 12, none⟩ = some (.string ⟨x.1.1.toArray⟩) ∧ W.cell? ⟨rb, ro + xi * 12 + 1, none⟩ = some (.int .i64 x.1.2.1) ∧ W.cell? ⟨rb, ro + xi * 12 + 2, none⟩ = some (.string ⟨x.1.2.2.1.toArray⟩) ∧ W.cell? ⟨rb, ro + xi * 12 + 3, none⟩ = some (.string ⟨x.1.2.2.2.toArray⟩) ∧ W.cell? ⟨rb, ro + xi * 12 + 4, none⟩ = some (.string ⟨x.2.1.1.toArray⟩) ∧ W.cell? ⟨rb, ro + xi * 12 + 5, none⟩ = some (.int .i64 x.2.1.2.1) ∧ W.cell? ⟨rb, ro + xi * 12 + 6, none⟩ = some (.string ⟨x.2.1.2.2.1.toArray⟩) ∧ W.cell? ⟨rb, ro + xi * 12 + 7, none⟩ = some (.string ⟨x.2.1.2.2.2.toArray⟩) ∧ W.cell? ⟨rb, ro + xi * 12 + 8, none⟩ = some (.string ⟨x.2.2.1.toArray⟩) ∧ W.cell? ⟨rb, ro + xi * 12 + 9, none⟩ = some (.int .i64 x.2.2.2.1) ∧ W.cell? ⟨rb, ro + xi * 12 + 10, none⟩ = some (.string ⟨x.2.2.2.2.1.toArray⟩) ∧ W.cell? ⟨rb, ro + xi * 12 + 11, none⟩ = some (.string ⟨x.2.2.2.2.2.toArray⟩)
theorem S7.keep {B rb ro n pc nb xi : Nat} {x : Pt} {W W' : World} {row : Option Nat} (h : S7 B rb ro n pc nb xi x W) (hg : W.grownBy W' row) (h1 : some (B + 1 + 1 + 1) ≠ row) (h2 : some B ≠ row) (h3 : some nb ≠ row) (h4 : some rb ≠ row) : S7 B rb ro n pc nb xi x W' := by
  obtain ⟨a1, a2, a3, c0, c1, c2, c3, c4, c5, c6, c7, c8, c9, c10, c11⟩ := h
  exact ⟨hg.cell a1 h1, hg.cell a2 h2, hg.cell a3 h3, hg.cell c0 h4, hg.cell c1 h4, hg.cell c2 h4, hg.cell c3 h4, hg.cell c4 h4, hg.cell c5 h4, hg.cell c6 h4, hg.cell c7 h4, hg.cell c8 h4, hg.cell c9 h4, hg.cell c10 h4, hg.cell c11 h4⟩
set_option maxHeartbeats 16000000 in
set_option maxRecDepth 100000 in
theorem take_any (parts : List Pt) (counts : List Nat) (pd : Option Addr) (pc : Nat) (cd : Option Addr) (cc : Nat) (w : World) (hp : SlPt w pd parts) (hc : SlI w cd (counts.map fun n : Nat => (n : Int))) (hf : ∀ p ∈ parts, fitPt p) (h6 : parts.length ≤ 6) (hl : counts.length = parts.length)
    (hpd : ∀ b o, pd = some ⟨b, o, none⟩ → b < w.heap.size) (hcd : ∀ b o, cd = some ⟨b, o, none⟩ → b < w.heap.size) :
    Calls Tryz.prog 49 #[.slice pd parts.length pc, .slice cd counts.length cc] w (TakeAns parts counts w) := by
  obtain ⟨i0', hi0, hz⟩ := Option.map_eq_some_iff.1 infoU
  simp only [Prod.mk.injEq] at hz
  obtain ⟨hz0, hz1, hz2⟩ := hz
  obtain ⟨Q, hQ⟩ : ∃ Q, Q = TakeAns parts counts w := ⟨_, rfl⟩
  have HQ : Hid (∀ e w', TakeAns parts counts w e w' → Q e w') := fun e w' h => by rw [hQ]; exact h
  rw [← hQ]
  have Hf := hideE hf
  have Hl := hideE hl
  have hmk : ∀ W : World, (Instr.makeMap 127 none).run Tryz.prog W = .ok (.map (some W.heap.size)) (W.alloc (.map #[] 0)) := fun W => by kernel_rfl
  have HPl := fun W => places_any parts.length W (by omega)
  have hst0 := hideE (DoneSt.start parts counts)
  have hT : Hid (∀ W, W = (((w.alloc (.cells #[.slice pd parts.length pc] 24)).alloc (.cells #[.slice cd counts.length cc] 56)).alloc (.map #[] 0)).alloc (.cells #[.map (some (w.heap.size + 1 + 1))] 127) → TakeSt W w.heap.size [] 0 parts pd pc counts cd cc) := fun W hW => by
    have hk0 := knownAt_made ((w.alloc (.cells #[.slice pd parts.length pc] 24)).alloc (.cells #[.slice cd counts.length cc] 56))
    rw [World.size_alloc, World.size_alloc] at hk0
    rw [hW]
    refine ⟨⟨by go_simp, by go_simp, by go_simp, hk0.below (balloc _ _), (((hp.below (balloc _ _)).below (balloc _ _)).below (balloc _ _)).below (balloc _ _), (((hc.below (balloc _ _)).below (balloc _ _)).below (balloc _ _)).below (balloc _ _)⟩, hpd, hcd⟩
  obtain ⟨n, hnp⟩ : ∃ n, n = parts.length := ⟨_, rfl⟩
  obtain ⟨nc, hnc⟩ : ∃ n, n = counts.length := ⟨_, rfl⟩
  have Hnp := hideE hnp
  rw [← hnp] at HPl h6 ⊢
  rw [← hnc]
  rw [← hnp, ← hnc] at hT
  clear hp hc hf hl hpd hcd hQ hnp hnc
  obtain ⟨B, hB⟩ : ∃ B, B = w.heap.size := ⟨_, rfl⟩
  go_enter Tryz.func49, Tryz.ntmps49
  go_upto_region 3 with fail
  obtain ⟨W0, hW0⟩ : ∃ W0, W0 = (((w.alloc (.cells #[.slice pd n pc] 24)).alloc (.cells #[.slice cd nc cc] 56)).alloc (.map #[] 0)).alloc (.cells #[.map (some (w.heap.size + 1 + 1))] 127) := ⟨_, rfl⟩
  have HT0 := hideE (hT.out W0 hW0)
  have hb0 : RowKit.Below w.heap.size w W0 := by rw [hW0]; exact bstep (bstep (bstep (balloc _ _) (balloc _ _)) (balloc _ _)) (balloc _ _)
  have hsz : Hid (W0.heap.size = w.heap.size + 4) := by show _ = _; rw [hW0]; simp
  rw [← hW0]
  rw [← hB] at HT0 ⊢
  have HB := hideE hB
  clear hW0 hT hmk hB
  have cp : W0.cell? ⟨B, 0, none⟩ = some (.slice pd n pc) := by have := HT0.out.env.p; rw [← Hnp.out] at this; exact this
  go_wp2_with fail
  refine (HPl W0).mono ?_
  rintro e w1 ⟨rfl, hR1, hb1⟩
  have HR1 := hideE hR1
  have HT1 := hideE (HT0.out.below hb1)
  have hB1 := bstep hb0 hb1
  obtain ⟨lb, hlb⟩ : ∃ lb, lb = W0.heap.size := ⟨_, rfl⟩
  rw [← hlb] at HR1 ⊢
  have Hlb : Hid (lb = B + 4) := by show _ = _; rw [hlb, hsz.out, HB.out]
  have hl1 : Hid (lb < w1.heap.size ∨ n = 0) := by
    by_cases h0 : n = 0
    · exact Or.inr h0
    · exact Or.inl (World.block_lt_of_cell? w1 ⟨lb, 0, none⟩ (HR1.out.at_ 0 (by simp [placesI]; omega)))
  have hs1 : Hid (B + 4 ≤ w1.heap.size) := by have := hb1.size; have := hsz.out; have := HB.out; show _ ≤ _; omega
  clear hR1 HT0 hb0 hb1 cp hlb HPl hsz
  dsimp only
  have hpn : Hid ((placesI parts.length).length = n) := by show _ = _; rw [Hnp.out]; simp [placesI]
  go_wp2_with fail
  go_loopw [5, 7] (fun v5 v7 wr => ∃ (known : List (List UInt8)) (done left : List Int) (nm : Nat), v7 = .slice (some ⟨lb, 0, none⟩) left.length n ∧ Hid (DoneSt parts counts known done left) ∧ Hid (RowL wr lb left) ∧ Hid (TakeSt wr B known nm parts pd pc counts cd cc) ∧ Hid (nm ≤ 3 * done.length) ∧ Hid (wr.ownsRow w1.heap.size 3 1 v5 done.length (cellsI2 done)) ∧ Hid (RowKit.Below w.heap.size w wr) ∧ Hid (w1.heap.size ≤ wr.heap.size)) (fun _ v7 wr => sliceLen v7)
  case atStart => exact ⟨[], [], placesI parts.length, 0, by rw [hpn.out], hst0.out, by show RowL _ _ _; rw [← Hnp.out]; exact HR1.out, HT1.out, by show 0 ≤ _; omega, World.ownsRow_nil _ _ _ _, hB1, Nat.le_refl _⟩
  case round =>
    clear hst0 HR1 HT1 hpn hB1
    obtain ⟨known, done, left, nm, rfl, hD, hRow, hTk, hnm, hOw, hbr, hsr⟩ := hrel
    obtain ⟨ln, hln⟩ : ∃ ln, ln = left.length := ⟨_, rfl⟩
    have Hln := hideE hln
    by_cases h0 : left = []
    · have hl0 : ln = 0 := by rw [hln, h0]; rfl
      have hfin : Hid (done = takeL parts counts) := by
        have := hD.out
        rw [h0] at this
        exact this.done
      obtain ⟨az, cz, rfl, hsi⟩ := ownI_sl hOw.out
      have Hsi := hideE hsi
      rw [← hln, hl0]
      obtain ⟨nd, hnd⟩ : ∃ m, m = done.length := ⟨_, rfl⟩
      have Hnd := hideE hnd
      rw [← hnd]
      clear hsi hOw hD hRow hTk hnd hln hl0 h0
      go_wp2_with fail
      exact HQ.out (.returned (.slice az nd cz)) _ ⟨hbr.out, az, cz, by rw [← hfin.out, Hnd.out], by rw [← hfin.out]; exact Hsi.out⟩
    · obtain ⟨m0, l, hle⟩ : ∃ m0 l, left = m0 :: l := List.exists_cons_of_ne_nil h0
      have hn1 : 1 ≤ ln := by rw [hln, hle]; simp
      have hln6 : ln ≤ 6 := by have := hD.out.len; have := Hnp.out; rw [hln]; omega
      have hlnn : Hid (ln ≤ n) := by have := hD.out.len; have := Hnp.out; show _ ≤ _; rw [hln]; omega
      have hnext := hideE (hD.out.next h0)
      have hdn0 : done.length ≤ 6 := by have := hD.out.len; have := Hnp.out; omega
      have hmem : nextP parts counts known left ∈ left := nextP_mem h0
      have hwin := hD.out.within _ hmem
      have hlt := leftP_less hmem
      have HM := MinFunc_any 81 #[.pointer (some ⟨B + 1 + 1 + 1, 0, none⟩), .pointer (some ⟨B, 0, none⟩), .pointer (some ⟨B + 1, 0, none⟩)] (fun x => 0 ≤ x ∧ x < parts.length) (cmpP2 parts counts known) wr lb n m0 l enters81 (take1_any hTk.out.env Hf.out Hl.out) (fun x hx => hD.out.within x (by rw [hle]; exact hx)) (by rw [← hle]; exact hRow.out) (by rw [← hle, ← hln]; omega)
      have hmin : minF (cmpP2 parts counts known) m0 l = nextP parts counts known left := by rw [hle]; rfl
      rw [hmin, ← hle, ← hln] at HM
      rw [← hln] at hlt ⊢
      obtain ⟨xi, hxi⟩ : ∃ xi : Nat, nextP parts counts known left = (xi : Int) := ⟨(nextP parts counts known left).toNat, by omega⟩
      have hxn : xi < n := by have := Hnp.out; omega
      have hxp : xi < parts.length := by have := Hnp.out; omega
      rw [hxi] at HM hnext hlt
      have hgd : parts.getD (Int.toNat (xi : Int)) patZero = parts[xi] := by rw [Int.toNat_natCast, List.getD_eq_getElem?_getD, List.getElem?_eq_getElem hxp]; rfl
      rw [hgd] at hnext
      have hfx := hideE (Hf.out _ (List.getElem_mem hxp))
      obtain ⟨rb, ro, hpd, hrow⟩ := hTk.out.env.pts.at xi hxp
      have hrbB := hTk.out.pd_ rb ro hpd
      have Hrow := hideE (hrow.at xi hxp)
      have hkeepL : Hid (keepF (fun x => decide (x = (xi : Int))) left = leftP left (xi : Int)) := rfl
      have hlw : Hid (lb < wr.heap.size) := World.block_lt_of_cell? wr ⟨lb, 0, none⟩ (hRow.out.at_ 0 (by rw [← hln]; omega))
      have t1 : decide ((ln : Int) > 0) = true := by simp; omega
      have t2 : decide (0 < ln) = true := by simp; omega
      have t3 : decide (0 < (ln : Int)) = true := by simp; omega
      have i0 : (0 : Int) ≤ (xi : Int) := by omega
      have i1 : (xi : Int) < (n : Int) := by omega
      have Hlt := hideE hlt
      clear h0 hle hmin hmem hwin hD hln hrow hgd hxi hlt
      generalize parts[xi]'(by have := Hnp.out; omega) = x at *
      subst hpd
      have hdn : done.length ≤ 6 := hdn0
      have HLe0 := hideE (fun W (hK : KnownAt W (B + 1 + 1) nm known) => learn_any (B + 1 + 1) nm known x W hK hfx.out (by have := hnm.out; omega))
      go_wp2_with (first
        | (go_at_call 80; refine HM.mono ?_; rintro e w2 ⟨rfl, hb2⟩; have ho2 := hideE (ownsRow_belowV hOw.out hb2); have hs2 := hb2.size; dsimp only)
        | (at_builtin; refine wpList_append_own _ rfl _ _ 56 rfl w1.heap.size 3 i0' (.int .i64 0) 1 8 Tryz.underlying56 hi0 hz0 hz1 hz2 rfl (by decide) _ _ _ rfl ((ho2.out.alloc _).alloc _) ⟨w2.heap.size + 1, 0, none⟩ 1 1 [.int .i64 (xi : Int)] rfl rfl ?c1 (by simp [Value.oneCell']) (by unfold maxLen; omega) (by omega) (by have := hsr.out; simp; omega) ?_))
      case c1 =>
        intro j u hu
        have hj : j < 1 := by have := (List.getElem?_eq_some_iff.1 hu).1; simpa using this
        obtain rfl : j = 0 := by omega
        rw [Addr.add_lit]
        simp at hu; subst hu; go_simp
      intro v' w5 h2 h3 _
      have ho2' := ho2.out
      have lo2 : ∀ j, u5.ownBlock = some j → w1.heap.size ≤ j ∧ j < w2.heap.size := fun j hj => ho2'.lt j hj
      have hs1' := hs1.out
      have hn2 : n ≠ 0 := by have := hlnn.out; omega
      have hl1' : lb < w1.heap.size := hl1.out.resolve_right hn2
      obtain ⟨hlbA, hlbZ⟩ : B + 4 ≤ lb ∧ lb ≤ B + 4 := by have := Hlb.out; exact ⟨by omega, by omega⟩
      obtain ⟨nb, hnb⟩ : ∃ nb, nb = w2.heap.size := ⟨_, rfl⟩
      have hs0 := hsr.out
      have ha2 : RowKit.Below w2.heap.size w2 ((w2.alloc (.cells #[.int .i64 (xi : Int)] 3)).alloc (.cells #[.int .i64 (xi : Int)] 3)) := bstep (balloc _ _) (balloc _ _)
      have hT5 := hideE (((hTk.out.below hb2).below ha2).kept h3 (fun j hj => by have := (lo2 j hj).1; omega))
      have hR5 := hideE (((hRow.out.below hb2).below ha2).kept h3 (fun e => by have := (lo2 lb e.symm).1; omega))
      have hN5 : w5.cell? ⟨nb, 0, none⟩ = some (.int .i64 (xi : Int)) := by
        rw [hnb]
        exact h3.cell (by go_simp) (fun e => by have := (lo2 w2.heap.size e.symm).2; omega)
      have hC5 := hideE (fun (q : Nat) (v : Value) (hq : (encPt x)[q]? = some v) => h3.cell (cell_k (cell_k (Hrow.out q v hq) hb2) ha2) (fun e => by have := (lo2 rb e.symm).1; omega))
      have ho5 : Hid (w5.ownsRow w1.heap.size 3 1 v' (done ++ [(xi : Int)]).length (cellsI2 (done ++ [(xi : Int)]))) := by
        show World.ownsRow _ _ _ _ _ _ _
        rw [List.length_append]
        simpa [cellsI2] using h2
      have hs5 : w2.heap.size + 1 < w5.heap.size := by have := h3.size; simp at this; omega
      have hb5 := hideE ((bstep (bstep hbr.out hb2) ha2).grown h3 (by have := HB.out; simp; omega) (fun j hj => by have := (lo2 j hj).1; have := HB.out; omega))
      clear h2 h3 ho2' ha2 hb2 HM hTk hRow hOw hbr hsr Hrow ho2 lo2
      have hnbB : B + 4 ≤ nb ∧ lb < nb ∧ nb < w5.heap.size := ⟨by omega, by omega, by omega⟩
      have hnb1 : w1.heap.size ≤ nb := by omega
      have hs5' : w1.heap.size ≤ w5.heap.size := by omega
      rw [← hnb]
      clear hnb hs0 hs2 hs5
      have ck := hT5.out.env.k
      have cp := hT5.out.env.p
      rw [← Hnp.out] at cp
      have c0 := hC5.out 0 _ rfl
      have c1 := hC5.out 1 _ rfl
      have c2 := hC5.out 2 _ rfl
      have c3 := hC5.out 3 _ rfl
      have c4 := hC5.out 4 _ rfl
      have c5 := hC5.out 5 _ rfl
      have c6 := hC5.out 6 _ rfl
      have c7 := hC5.out 7 _ rfl
      have c8 := hC5.out 8 _ rfl
      have c9 := hC5.out 9 _ rfl
      have c10 := hC5.out 10 _ rfl
      have c11 := hC5.out 11 _ rfl
      rw [Nat.add_zero] at c0
      have HS7 := hideE (show S7 B rb ro n pc nb xi x w5.drew from ⟨ck, cp, hN5, c0, c1, c2, c3, c4, c5, c6, c7, c8, c9, c10, c11⟩)
      have HLe := HLe0.out w5.drew (hT5.out.env.known.below (RowKit.Below.refl _ _).drew)
      have HDe := hideE (fun (W : World) (hg : ButM (B + 1 + 1) w5.drew W) => (by
        have q1 : RowL W lb left := (hR5.out.below (RowKit.Below.refl _ _).drew).kept hg (fun e => by have := Option.some.inj e; omega)
        have q2 : W.cell? ⟨nb, 0, none⟩ = some (.int .i64 (xi : Int)) := World.grownBy.cell hg (a := ⟨nb, 0, none⟩) hN5 (fun e => by have : nb = B + 1 + 1 := Option.some.inj e; omega)
        have q := DeleteFunc_any 87 #[.pointer (some ⟨nb, 0, none⟩)] (fun x => decide (x = (xi : Int))) W lb n left enters87 (take2_pred q2 (by omega)) q1 (by rw [← Hln.out]; omega) (by rw [← Hln.out]; exact hlnn.out)
        rw [← Hln.out, hkeepL.out] at q
        exact q : Calls Tryz.prog 86 #[.slice (some ⟨lb, 0, none⟩) ln n, .func (.func 87) #[] #[.pointer (some ⟨nb, 0, none⟩)]] W fun e w' => e = .returned (.slice (some ⟨lb, 0, none⟩) (leftP left (xi : Int)).length n) ∧ RowL w' lb (leftP left (xi : Int)) ∧ ButM lb W w'))
      clear HLe0 hC5
      unfold valPt at HLe
      go_wp2_with fail
      go_region_held3 (fun W => W.cell? ⟨B + 1 + 1 + 1, 0, none⟩ = some (.map (some (B + 1 + 1))) ∧ W.cell? ⟨B, 0, none⟩ = some (.slice (some ⟨rb, ro, none⟩) n pc) ∧ W.cell? ⟨nb, 0, none⟩ = some (.int .i64 (xi : Int)) ∧ W.cell? ⟨rb, ro + xi * 12, none⟩ = some (.string ⟨x.1.1.toArray⟩) ∧ W.cell? ⟨rb, ro + xi * 12 + 1, none⟩ = some (.int .i64 x.1.2.1) ∧ W.cell? ⟨rb, ro + xi * 12 + 2, none⟩ = some (.string ⟨x.1.2.2.1.toArray⟩) ∧ W.cell? ⟨rb, ro + xi * 12 + 3, none⟩ = some (.string ⟨x.1.2.2.2.toArray⟩) ∧ W.cell? ⟨rb, ro + xi * 12 + 4, none⟩ = some (.string ⟨x.2.1.1.toArray⟩) ∧ W.cell? ⟨rb, ro + xi * 12 + 5, none⟩ = some (.int .i64 x.2.1.2.1) ∧ W.cell? ⟨rb, ro + xi * 12 + 6, none⟩ = some (.string ⟨x.2.1.2.2.1.toArray⟩) ∧ W.cell? ⟨rb, ro + xi * 12 + 7, none⟩ = some (.string ⟨x.2.1.2.2.2.toArray⟩) ∧ W.cell? ⟨rb, ro + xi * 12 + 8, none⟩ = some (.string ⟨x.2.2.1.toArray⟩) ∧ W.cell? ⟨rb, ro + xi * 12 + 9, none⟩ = some (.int .i64 x.2.2.2.1) ∧ W.cell? ⟨rb, ro + xi * 12 + 10, none⟩ = some (.string ⟨x.2.2.2.2.1.toArray⟩) ∧ W.cell? ⟨rb, ro + xi * 12 + 11, none⟩ = some (.string ⟨x.2.2.2.2.2.toArray⟩)) (first | exact HS7.out | exact HS7.out.keep hg6 (fun e => by have := Option.some.inj e; omega) (fun e => by have := Option.some.inj e; omega) (fun e => by have := Option.some.inj e; omega) (fun e => by have := Option.some.inj e; omega) | assumption | go_keep) (first
        | (go_at_call 85; refine HLe.mono ?_; rintro e w6 ⟨rfl, hk6, hg6⟩; dsimp only))
      have hT6 := hideE ((hT5.out.below (RowKit.Below.refl _ _).drew).learn hg6 hk6)
      have HD7 := HDe.out w6 hg6
      have hs6 : w5.heap.size ≤ w6.heap.size := hg6.size
      have hb6 := hideE ((hb5.out.trans ((RowKit.Below.refl w5.heap.size w5).drew.mono (hb5.out.size))).grown hg6 (hb5.out.size) (fun j hj => by have e : B + 1 + 1 = j := (by simpa using hj); have := HB.out; omega))
      have ho6 := hideE ((ownsRow_belowV ho5.out (RowKit.Below.refl _ _).drew).kept hg6 (Or.inr (fun e => by have := (ho5.out.lt _ e).1; omega)))
      clear HDe HLe hT5 hR5 hb5 ho5 HS7 hk6 hg6 ck cp c0 c1 c2 c3 c4 c5 c6 c7 c8 c9 c10 c11 hN5
      obtain ⟨ll, hll⟩ : ∃ k, k = (leftP left (xi : Int)).length := ⟨_, rfl⟩
      have Hll := hideE hll
      rw [← hll] at HD7
      clear hll
      go_wp2_with (go_at_call 86; refine HD7.mono ?_; rintro e w7 ⟨rfl, hR7, hg7⟩; dsimp only)
      go_roundw
      case rel =>
        refine ⟨learnP known x, done ++ [(xi : Int)], leftP left (xi : Int), nm + 3, by rw [Hll.out], hnext.out, hR7, hT6.out.kept hg7 (fun j hj => by have e : lb = j := (by simpa using hj); omega), by have := hnm.out; show _ ≤ _; simp; omega, ?_, ?_, by have := hg7.size; show _ ≤ _; omega⟩
        · exact ho6.out.kept hg7 (Or.inr (fun e => by have := (ho6.out.lt _ e).1; omega))
        · exact hb6.out.grown hg7 (by have := hb6.out.size; exact this) (fun j hj => by have e : lb = j := (by simpa using hj); have := HB.out; omega)
      case measure => show ll < ln; rw [Hll.out]; exact Hlt.out
end Go.Proofs.YtcdbcoaiadipjaaGreatDoor

/- The document's answer (package strataref1): letter, digit, Letters, right. -/
namespace Go.Proofs.YtcdbcoaiadipjaaGreatDoor
open Go Go.RowKit Go.Proofs

theorem letter_any (n : Int) (w : World) :
    Calls Tryz.prog 64 #[.int .u8 n] w fun e w' => e = .returned (.bool (letB n)) ∧ w' = w := by
  by_cases h1 : 97 ≤ n
  all_goals
    go_enter Tryz.func64, Tryz.ntmps64
    go_wp2
    go_ret
    exact ⟨ret_bool (by first | exact decide_eq_decide.2 (by omega) | exact (decide_eq_false (by omega)).symm), rfl⟩

theorem digit_any (n : Int) (w : World) :
    Calls Tryz.prog 65 #[.int .u8 n] w fun e w' => e = .returned (.bool (digB n)) ∧ w' = w := by
  by_cases h1 : 48 ≤ n
  all_goals
    go_enter Tryz.func65, Tryz.ntmps65
    go_wp2
    go_ret
    exact ⟨ret_bool (by first | exact decide_eq_decide.2 (by omega) | exact (decide_eq_false (by omega)).symm), rfl⟩

theorem allL_take (p : Int → Bool) (S : List UInt8) (k : Nat) (h : k < S.length) : allB p (S.take (k + 1)) = (allB p (S.take k) && p (S[k].toNat : Int)) := by
  unfold allB
  rw [List.take_succ_eq_append_getElem h]
  simp only [List.all_append, List.all_cons, List.all_nil, Bool.and_true]

theorem allL_false (p : Int → Bool) (S : List UInt8) (k : Nat) (h : k < S.length) (hp : p (S[k].toNat : Int) = false) : allB p S = false := by
  unfold allB
  rw [List.all_eq_false]
  exact ⟨S[k], List.getElem_mem _, by rw [hp]; simp⟩

/-- one to two letters -/
def lettersB (L : List UInt8) : Bool := !L.isEmpty && (decide (L.length ≤ 2) && allB letB L)

set_option maxHeartbeats 400000 in
theorem Letters_any (L : List UInt8) (w : World) (hl : L.length ≤ maxLen) :
    Calls Tryz.prog 39 #[.string ⟨L.toArray⟩, .int .i64 2] w fun e w' => e = .returned (.bool (lettersB L)) ∧ w' = w := by
  unfold maxLen at hl
  cases L with
  | nil =>
    go_enter Tryz.func39, Tryz.ntmps39
    go_wp2
    go_ret
    exact ⟨rfl, rfl⟩
  | cons c r =>
    have fin : Hid (lettersB (c :: r) = (decide ((c :: r).length ≤ 2) && allB letB (c :: r))) := rfl
    generalize hL : c :: r = L at *
    have hne : ¬ L = [] := by rw [← hL]; simp
    have hne' : L.isEmpty = false := by rw [← hL]; rfl
    clear hL
    by_cases h2 : L.length ≤ 2
    · go_enter Tryz.func39, Tryz.ntmps39
      go_wp2
      go_loop [5] (fun i => ∃ k : Nat, k ≤ L.length ∧ i = .int .i64 k ∧ Hid (allB letB (L.take k) = true)) (fun i => L.length - (intOf i).toNat)
      case atStart => exact ⟨0, Nat.zero_le _, rfl, rfl⟩
      case round =>
        obtain ⟨k, hk, rfl, hall⟩ := hrel
        by_cases hlt : k < L.length
        · have hidx : ∀ h, (⟨L.toArray⟩ : ByteArray)[k]'h = L[k] := fun _ => rfl
          cases hp : letB (L[k].toNat : Int)
          · go_wp2_with (go_at_call 64; refine (letter_any _ _).mono ?_; rintro e w' ⟨rfl, rfl⟩)
            go_ret
            exact ⟨ret_bool (by rw [fin.out, allL_false letB L k hlt hp]; simp), rfl⟩
          · go_wp2_with (go_at_call 64; refine (letter_any _ _).mono ?_; rintro e w' ⟨rfl, rfl⟩)
            refine ⟨⟨k + 1, by omega, by go_num, ?_⟩, by simp [intOf]; omega⟩
            show _ = _
            rw [allL_take letB L k hlt, hall.out, hp]; rfl
        · go_wp2
          go_ret
          have e := hall.out
          rw [List.take_of_length_le (by omega)] at e
          exact ⟨ret_bool (by rw [fin.out, e]; simp [h2]), rfl⟩
    · go_enter Tryz.func39, Tryz.ntmps39
      go_wp2
      go_ret
      exact ⟨ret_bool (by rw [fin.out]; simp [h2]), rfl⟩

set_option maxHeartbeats 1000000 in
theorem right_text (S : List UInt8) (w : World) (hl : S.length ≤ maxLen) :
    Calls Tryz.prog 38 #[.int .i64 3, .string ⟨S.toArray⟩] w fun e w' => e = .returned (.bool (textOk S)) ∧ w' = w := by
  unfold maxLen at hl
  cases S with
  | nil =>
    go_enter Tryz.func38, Tryz.ntmps38
    go_wp2
    go_ret
    exact ⟨rfl, rfl⟩
  | cons c r =>
    have fin : Hid (textOk (c :: r) = allB textB (c :: r)) := rfl
    generalize hL : c :: r = L at *
    have hne : ¬ L = [] := by rw [← hL]; simp
    have hne' : L.isEmpty = false := by rw [← hL]; rfl
    clear hL
    go_enter Tryz.func38, Tryz.ntmps38
    go_wp2
    go_loop [5] (fun i => ∃ k : Nat, k ≤ L.length ∧ i = .int .i64 k ∧ Hid (allB textB (L.take k) = true)) (fun i => L.length - (intOf i).toNat)
    case atStart => exact ⟨0, Nat.zero_le _, rfl, rfl⟩
    case round =>
      obtain ⟨k, hk, rfl, hall⟩ := hrel
      by_cases hlt : k < L.length
      · have hidx : ∀ h, (⟨L.toArray⟩ : ByteArray)[k]'h = L[k] := fun _ => rfl
        have ht : Hid (textB (L[k].toNat : Int) = decide (32 ≤ (L[k].toNat : Int) ∧ (L[k].toNat : Int) ≤ 126)) := rfl
        by_cases h1 : (L[k].toNat : Int) < 32
        · go_wp2_with (first
            | (go_at_call 64; refine (letter_any _ _).mono ?_; rintro e w' ⟨rfl, rfl⟩)
            | (go_at_call 65; refine (digit_any _ _).mono ?_; rintro e w' ⟨rfl, rfl⟩))
          go_ret
          exact ⟨ret_bool (by rw [fin.out, allL_false textB L k hlt (by rw [ht.out]; simp; omega)]), rfl⟩
        · by_cases h2 : 126 < (L[k].toNat : Int)
          · go_wp2_with (first
              | (go_at_call 64; refine (letter_any _ _).mono ?_; rintro e w' ⟨rfl, rfl⟩)
              | (go_at_call 65; refine (digit_any _ _).mono ?_; rintro e w' ⟨rfl, rfl⟩))
            go_ret
            exact ⟨ret_bool (by rw [fin.out, allL_false textB L k hlt (by rw [ht.out]; simp; omega)]), rfl⟩
          · go_wp2_with (first
              | (go_at_call 64; refine (letter_any _ _).mono ?_; rintro e w' ⟨rfl, rfl⟩)
              | (go_at_call 65; refine (digit_any _ _).mono ?_; rintro e w' ⟨rfl, rfl⟩))
            refine ⟨⟨k + 1, by omega, by go_num, ?_⟩, by simp [intOf]; omega⟩
            show _ = _
            rw [allL_take textB L k hlt, hall.out, ht.out]
            simp; omega
      · go_wp2
        go_ret
        have e := hall.out
        rw [List.take_of_length_le (by omega)] at e
        exact ⟨ret_bool (by rw [fin.out, e]), rfl⟩
end Go.Proofs.YtcdbcoaiadipjaaGreatDoor
