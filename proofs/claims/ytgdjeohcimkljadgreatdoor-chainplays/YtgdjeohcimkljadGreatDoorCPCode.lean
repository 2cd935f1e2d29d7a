import Derived.Test.YtgdjeohcimkljadGreatDoorChainGood
import Derived.Test.YtgdjeohcimkljadGreatDoorCPRefB
import Derived.Test.YtgdjeohcimkljadGreatDoorLayerGood
import Derived.Test.YtgdjeohcimkljadGreatDoorAs
import Derived.Test.YtgdjeohcimkljadGreatDoorCPMatch
import Derived.Test.YtgdjeohcimkljadGreatDoorCPRefV

/- The law's own list of layers: what it is in memory; append of several layers; the graph behind so many of them. -/
namespace Go.Proofs.YtgdjeohcimkljadGreatDoor
open Go Go.RowKit Go.Proofs
set_option synthInstance.maxSize 1000

section
variable {P : Program} {w : World}
theorem run_append_sheets {base : Nat} {v : Value} {xs ys : List Vp} (t ty e : TypeId) (i : TypeInfo) (ht : P.underlying t = some (.slice e)) (hi : P.info? e = some i) (hz : i.zero = some (.agg #[.slice none 0 0, .slice none 0 0])) (hs : i.size = 2) (hby : i.bytes ≤ 100)
    (h : SheetV w base v xs) (hy0 : 0 < ys.length) (hyn : ys.length ≤ 1000) (hys : ∀ (j : Nat) u, (cellsL ys)[j]? = some u → slB u = true) (a : Addr) (c : Nat) (ha : ∀ (j : Nat) u, (cellsL ys)[j]? = some u → w.cell? (a.add j) = some u) (hb : base ≤ w.heap.size) (hn : xs.length ≤ 1000) :
    ∃ v' w', (Builtin.append_ #[t, t] ty #[v, .slice (some a) ys.length c]).run P w = .ok v' w' ∧ SheetV w' base v' (xs ++ ys) ∧ w.grownBy w' v.ownBlock ∧ RowsOn w w' ∧ (v'.ownBlock = v.ownBlock ∨ v'.ownBlock = some w.heap.size) := by
  have hnews : (cellsL ys).length = ys.length * i.size := by rw [hs, cellsL_len]
  have hzs : ∀ k, (Builtin.zeroCells (Value.cells (.agg #[.slice none 0 0, .slice none 0 0])) k).size = k * 2 := fun k => by rw [size_zeroCells]; rfl
  have hzz : ∀ (k j : Nat) u, (Builtin.zeroCells (Value.cells (.agg #[.slice none 0 0, .slice none 0 0])) k)[j]? = some u → slB u = true := by
    intro k j u hu
    rw [← Array.getElem?_toList, zeroCells2] at hu
    rw [List.eq_of_mem_replicate (List.mem_of_getElem? hu)]
    rfl
  have hone : ∀ u ∈ cellsL ys, u.oneCell' = true := fun u hu => by
    obtain ⟨j, hj⟩ := List.getElem?_of_mem hu
    exact sl_one (hys j u hj)
  rcases h with ⟨rfl, rfl⟩ | ⟨g, cap, rfl, hg, hlt, h⟩
  · have hr := run_append_nil (P := P) w t ty e i _ ht hi hz a ys.length c (cellsL ys) hnews ha hy0 (by omega) (by have := Nat.mul_le_mul hyn hby; omega)
    refine ⟨_, _, hr, Or.inr ⟨w.heap.size, grownCap w ys.length 0 e, by simp, hb, by simp, ?_⟩, ⟨rfl, rfl, rfl, by simp, fun k hk _ => Below.heap_alloc w.drew _ k hk⟩, RowsOn.of_below ((Below.refl _ _).drew.alloc (Nat.le_refl _) _), Or.inr rfl⟩
    have hge := grownCap_ge w ys.length 0 e
    refine Sheet.new w.drew _ e _ _ (by simp [hzs, cellsL_len]; omega) (grownCap_le_maxLen w _ 0 e (by simp [maxLen]; omega)) (by simpa using hge) (fun j u hu => ?_) (fun j u hu => ?_)
    · rw [Array.getElem?_append] at hu
      split at hu
      · exact hys j u (by simpa using hu)
      · exact hzz _ _ u hu
    · have hj := (List.getElem?_eq_some_iff.1 hu).1
      rw [Array.getElem?_append, if_pos (by simpa using hj)]
      simpa using hu
  · by_cases hroom : xs.length + ys.length ≤ cap
    · have hr := run_append_room_cells (P := P) w t ty e i ht hi g 0 xs.length cap a ys.length c (cellsL ys) hnews ha hone hroom
        (fun j hj => by rw [hs]; rw [cellsL_len] at hj; obtain ⟨a', n', c', e'⟩ := h.sl (0 + xs.length * 2 + j) (by omega); rw [e']; rfl) (fun j hj => by rw [hs]; rw [cellsL_len] at hj; exact h.free _ (by omega))
      rw [hs, Nat.zero_add] at hr
      refine ⟨_, _, hr, Or.inr ⟨g, cap, by simp, hg, by rw [setCells_size]; exact hlt, ?_⟩, grown_setCells w g _ _, fun ad l hl => h.puts _ _ (by rw [cellsL_len]; omega) hl, Or.inl rfl⟩
      refine h.write _ _ (fun u hu => by obtain ⟨j, hj⟩ := List.getElem?_of_mem hu; exact hys j u hj) (by rw [cellsL_len]; omega) _ (by simp; omega) (fun j u hu => ?_)
      rw [cellsL_app, List.getElem?_append, cellsL_len] at hu
      rw [cellsL_len]
      split at hu
      · rw [if_neg (by omega)]; exact hu
      · have hj := (List.getElem?_eq_some_iff.1 hu).1
        rw [cellsL_len] at hj
        rw [if_pos ⟨by omega, by omega⟩]
        exact hu
    · have hr := run_append_grow (P := P) w t ty e i _ ht hi hz ⟨g, 0, none⟩ xs.length cap (cellsL xs) (by rw [cellsL_len, hs]) (fun j u hu => by rw [Addr.add_lit, Nat.zero_add]; exact h.at_ j u hu) a ys.length c (cellsL ys) hnews ha (by omega) (by omega) (growslice_fits (by omega) (by have := Nat.mul_le_mul (show xs.length + ys.length ≤ 2000 by omega) hby; omega))
      have hge := grownCap_ge w (xs.length + ys.length) cap e
      refine ⟨_, _, hr, Or.inr ⟨w.heap.size, grownCap w (xs.length + ys.length) cap e, by simp, hb, by simp, ?_⟩, ⟨rfl, rfl, rfl, by simp, fun k hk _ => Below.heap_alloc w.drew _ k hk⟩, RowsOn.of_below ((Below.refl _ _).drew.alloc (Nat.le_refl _) _), Or.inr rfl⟩
      refine Sheet.new w.drew _ e _ _ (by simp [hzs, cellsL_len]; omega) (grownCap_le_maxLen w _ _ e (by simp [maxLen]; omega)) (by simpa using hge) (fun j u hu => ?_) (fun j u hu => ?_)
      · rw [Array.getElem?_append] at hu
        split at hu
        · rw [Array.getElem?_append] at hu
          split at hu
          · exact cellsL_sl h j u (by simpa using hu)
          · exact hys _ u (by simpa using hu)
        · exact hzz _ _ u hu
      · have hj := (List.getElem?_eq_some_iff.1 hu).1
        rw [cellsL_len] at hj
        simp at hj
        rw [Array.getElem?_append, if_pos (by simp [cellsL_len]; omega)]
        rw [cellsL_app] at hu
        simpa [cellsL] using hu
end

/-- the law's own list of the layers between sets -/
def MAt (W : World) (B : Nat) (vm : Value) (gs : List (List Tr)) : Prop := ∃ xm, SheetV W B vm xm ∧ LaysV W xm (stepsL gs)
theorem MAt.below {W W' : World} {B : Nat} {vm : Value} {gs : List (List Tr)} (h : MAt W B vm gs) (hb : RowKit.Below W.heap.size W W') : MAt W' B vm gs := by
  obtain ⟨xm, h1, h2⟩ := h
  exact ⟨xm, h1.below hb, h2.rows (RowsOn.of_below hb)⟩
theorem MAt.keep {W W' : World} {B : Nat} {vm : Value} {gs : List (List Tr)} (h : MAt W B vm gs) (hz : W.heap.size ≤ W'.heap.size) (hr : RowsOn W W') (hb : ∀ g, vm.ownBlock = some g → W'.heap[g]? = W.heap[g]?) : MAt W' B vm gs := by
  obtain ⟨xm, h1, h2⟩ := h
  exact ⟨xm, h1.keep hz hb, h2.rows hr⟩
theorem MAt.form {W : World} {B : Nat} {vm : Value} {gs : List (List Tr)} (h : MAt W B vm gs) : ∃ ad cap, vm = .slice ad (gs.length - 1) cap := by
  obtain ⟨xs, h, hl⟩ := h
  have e := hl.1.trans (stepsL_len _)
  rcases h with ⟨rfl, rfl⟩ | ⟨g, cap, rfl, _⟩
  · exact ⟨none, 0, by rw [← e]; rfl⟩
  · exact ⟨_, cap, by rw [← e]⟩
theorem MAt.own {W : World} {B : Nat} {vm : Value} {gs : List (List Tr)} (h : MAt W B vm gs) : ∀ g, vm.ownBlock = some g → B ≤ g ∧ g < W.heap.size := by
  obtain ⟨xs, h, _⟩ := h
  exact h.lt
theorem MAt.step {W : World} {B : Nat} {vm : Value} {gs : List (List Tr)} (h : MAt W B vm gs) {i : Nat} {g u : List Tr} (hg : gs[i]? = some g) (hu : gs[i + 1]? = some u) :
    ∃ bl cap a1 c1 a2 c2, vm = .slice (some ⟨bl, 0, none⟩) (gs.length - 1) cap ∧ i < gs.length - 1 ∧ gs.length - 1 ≤ cap ∧ W.cell? ⟨bl, i * 2, none⟩ = some (.slice a1 (lessL u g).length c1) ∧ W.cell? ⟨bl, i * 2 + 1, none⟩ = some (.slice a2 (lessL g u).length c2) ∧ SlT W a1 (lessL u g) ∧ SlT W a2 (lessL g u) := by
  obtain ⟨xs, h, hl⟩ := h
  have e := hl.1.trans (stepsL_len _)
  have hi := (List.getElem?_eq_some_iff.1 hu).1
  rcases h with ⟨rfl, rfl⟩ | ⟨bl, cap, rfl, _, _, h⟩
  · simp at e
    omega
  · have hx : i < xs.length := by rw [e]; omega
    obtain ⟨a1, c1, a2, c2, e1, q1, q2⟩ := hl.2 i xs[i] (btw g u) (List.getElem?_eq_getElem hx) (stepsL_get hg hu)
    have p0 : (cellsL xs)[i * 2]? = some (xs[i]).1 := by rw [cellsL_at, show i * 2 / 2 = i by omega, List.getElem?_eq_getElem hx]; simp
    have p1 : (cellsL xs)[i * 2 + 1]? = some (xs[i]).2 := by rw [cellsL_at, show (i * 2 + 1) / 2 = i by omega, List.getElem?_eq_getElem hx]; simp
    have c0 := h.at_ _ _ p0
    have c1' := h.at_ _ _ p1
    rw [e1] at c0 c1'
    exact ⟨bl, cap, a1, c1, a2, c2, by rw [← e], by omega, by rw [← e]; exact h.le, c0, c1', q1, q2⟩

/-- R.Apply of the layer between two sets -/
theorem RApplyGood_any (ad a1 a2 : Option Addr) (ca c1 c2 : Nat) (a b : List Tr) (w : World) (ha : SlT w ad a) (h1 : SlT w a1 (lessL b a)) (h2 : SlT w a2 (lessL a b)) (sa : IsSet a) (sb : IsSet b) :
    Calls Tryz.prog 16 #[.slice ad a.length ca, .agg #[.slice a1 (lessL b a).length c1, .slice a2 (lessL a b).length c2]] w fun e w' => RowKit.Below w.heap.size w w' ∧ ∃ a1 c1, e = .returned (.tuple #[.slice a1 b.length c1, .int .i64 0]) ∧ SlT w' a1 b := by
  have h0 := apply_btw sa sb
  refine (RApply_any ad a1 a2 ca c1 c2 a (lessL b a) (lessL a b) w ha h1 h2 sa (lessSet sb) (lessSet sa) (btw_check sa sb)).mono ?_
  rintro e w' ⟨hb', m, am, cm, rfl, hm, hA⟩
  obtain rfl := apply_btw_ans sa sb hA
  exact ⟨hb', am, cm, by rw [h0], hm⟩

set_option maxHeartbeats 4000000 in
set_option maxRecDepth 100000 in
theorem lgraph_any (sd : Option Addr) (cs B : Nat) (vm : Value) (s : List Tr) (gs : List (List Tr)) (i : Nat) (g : List Tr) (w : World) (hs : SlT w sd s) (h : MAt w B vm gs) (hset : ∀ g ∈ gs, IsSet g) (h0 : gs[0]? = some s) (hn : gs.length ≤ 1000) (hi : gs[i]? = some g) :
    Calls Tryz.prog 14 #[.slice sd s.length cs, vm, .int .i64 i] w fun e w' => RowKit.Below w.heap.size w w' ∧ ∃ a c, e = .returned (.slice a g.length c) ∧ SlT w' a g := by
  have HM : Hid (MAt w B vm gs) := h
  have hlt : i < gs.length := (List.getElem?_eq_some_iff.1 hi).1
  have Hs : Hid (SlT w sd s) := hs
  have Hi : Hid (gs[i]? = some g) := hi
  have H0 : Hid (gs[0]? = some s) := h0
  have Hset : Hid (∀ g ∈ gs, IsSet g) := hset
  obtain ⟨vad, vcap, hform⟩ := h.form
  subst hform
  have Hm : Hid (i ≤ gs.length - 1) := by show _ ≤ _; omega
  have hi9 : i ≤ 1000 := by omega
  generalize hm : gs.length - 1 = m at *
  have Hm' : Hid (gs.length - 1 = m) := hm
  clear h hs hi h0 hset hlt hn hm
  go_enter Tryz.func14, Tryz.ntmps14
  go_wp2_with fail
  go_loopw [0, 7] (fun v j wr => ∃ (k : Nat) (u : List Tr) (ad : Option Addr) (c : Nat), k ≤ i ∧ j = .int .i64 k ∧ v = .slice ad u.length c ∧ Hid (gs[k]? = some u) ∧ Hid (SlT wr ad u) ∧ Hid (RowKit.Below w.heap.size w wr)) (fun _ j wr => i - (intOf j).toNat)
  case atStart => exact ⟨0, s, sd, cs, Nat.zero_le _, rfl, rfl, H0, Hs, RowKit.Below.refl _ _⟩
  case round =>
    obtain ⟨k, u, ad, c, hk, rfl, rfl, hgk, hsu, hbr⟩ := hrel
    by_cases hki : k < i
    · have hk1 : k + 1 < gs.length := by have := Hm.out; have := Hm'.out; omega
      have hu1 : gs[k + 1]? = some gs[k + 1] := List.getElem?_eq_getElem hk1
      have su := Hset.out _ (List.mem_of_getElem? hgk.out)
      have su1 := Hset.out _ (List.mem_of_getElem? hu1)
      obtain ⟨bl, cap', a1, c1, a2, c2, e1, e5, e6, d0, d1, q1, q2⟩ := (HM.out.below hbr.out).step hgk.out hu1
      obtain ⟨e2, e3, e4⟩ := Value.slice.inj e1
      subst e2 e4
      have HA := fun W h1 h2 h4 => RApplyGood_any ad a1 a2 c c1 c2 u (gs[k + 1]'hk1) W h1 h2 h4 su su1
      have Hq : Hid (SlT wr a1 (lessL gs[k + 1] u) ∧ SlT wr a2 (lessL u gs[k + 1])) := ⟨q1, q2⟩
      have hg1 : Hid (gs[k + 1]? = some gs[k + 1]) := hu1
      clear e1 e3 e5 e6 q1 q2 su su1 hu1
      generalize gs[k + 1] = u1 at *
      generalize lessL u1 u = L1 at *
      generalize lessL u u1 = L2 at *
      have i0' : (0 : Int) ≤ (k : Int) := by omega
      have i1 : (k : Int) < (i : Int) := by omega
      have i2 : (k : Int) < (m : Int) := by have := Hm.out; omega
      go_wp2_with fail
      refine (HA _ hsu.out Hq.out.1 Hq.out.2).mono ?_
      rintro e w3 ⟨hb3, a3, c3, rfl, hs3⟩
      have Hs3 : Hid (SlT w3 a3 u1) := hs3
      have hB3 : Hid (RowKit.Below w.heap.size w w3) := bstep hbr.out hb3
      clear hs3 hb3
      go_wp2_with fail
      go_roundw
      case rel => exact ⟨k + 1, u1, a3, c3, by omega, by go_num, rfl, hg1, Hs3, hB3⟩
      case measure => simp [intOf]; omega
    · obtain rfl : k = i := by omega
      have e := hgk.out.symm.trans Hi.out
      obtain rfl := Option.some.inj e
      clear e
      go_wp2_with fail
      exact bodyPost_ret (v := .slice ad u.length c) (by simp [results, Tryz.results14, go_sem]) rfl ⟨hbr.out, ad, c, rfl, hsu.out⟩
end Go.Proofs.YtgdjeohcimkljadGreatDoor

/- What LayerTells leans on: answers that are one, their lengths, the two like. -/
namespace Go.Proofs.YtgdjeohcimkljadGreatDoor
open Go Go.RowKit Go.Proofs
set_option synthInstance.maxSize 1000

theorem SwapAns.len {s o i m : List Tr} (h : SwapAns s o i m) : m.length ≤ 200 := by
  by_cases e : swapN s o i = 0
  · have h1 := h.1 e
    obtain ⟨g1, g2⟩ := orN_zero.1 e
    obtain ⟨s1, _⟩ := bothN_zero.1 g1
    unfold joinN at g2
    by_cases hb : bothN (lessL s o) i = 0
    · rw [if_pos hb] at g2
      by_cases hl : (lessL s o).length + (lessL i (lessL s o)).length ≤ 200
      · rw [h1.len (lessSet s1).2.2 (bothN_zero.1 hb).2.2.2]; exact hl
      · rw [if_neg hl] at g2; exact absurd g2 (by decide)
    · rw [if_neg hb] at g2; exact absurd g2 hb
  · rw [h.2 e]; simp
theorem ApplyAns.swap {s a b m : List Tr} (h : ApplyAns s a b m) (e : applyN s a b = 0) : SwapAns s b a m := by
  have h5 := (orN_zero.1 (orN_zero.1 (orN_zero.1 (orN_zero.1 e).2).2).2).2
  exact ⟨fun _ => h.1 e, fun e' => absurd h5 e'⟩
theorem ApplyAns.len {s a b m : List Tr} (h : ApplyAns s a b m) : m.length ≤ 200 := by
  by_cases e : applyN s a b = 0
  · exact (h.swap e).len
  · rw [h.2 e]; simp
theorem ApplyAns.same {s a b m n : List Tr} (h : ApplyAns s a b m) (k : ApplyAns s a b n) : m = n := by
  by_cases e : applyN s a b = 0
  · exact (h.1 e).unique (k.1 e)
  · rw [h.2 e, k.2 e]
theorem BtwAns.len {a b m1 m2 : List Tr} (h : BtwAns a b m1 m2) : m1.length ≤ 200 ∧ m2.length ≤ 200 := by
  by_cases e : bothN a b = 0
  · obtain ⟨rfl, rfl⟩ := h.1 e
    exact ⟨lenLess (bothN_zero.1 e).2.1, lenLess (bothN_zero.1 e).1.1⟩
  · obtain ⟨rfl, rfl⟩ := h.2 e
    simp
theorem BtwAns.same {a b m1 m2 n1 n2 : List Tr} (h : BtwAns a b m1 m2) (k : BtwAns a b n1 n2) : m1 = n1 ∧ m2 = n2 := by
  by_cases e : bothN a b = 0
  · obtain ⟨rfl, rfl⟩ := h.1 e
    obtain ⟨rfl, rfl⟩ := k.1 e
    exact ⟨rfl, rfl⟩
  · obtain ⟨rfl, rfl⟩ := h.2 e
    obtain ⟨rfl, rfl⟩ := k.2 e
    exact ⟨rfl, rfl⟩
theorem TurnAns.len {a b m1 m2 : List Tr} (h : TurnAns a b m1 m2) : m1.length ≤ 200 ∧ m2.length ≤ 200 := by
  by_cases e : apartN a b = 0
  · obtain ⟨h1, h2⟩ := h.1 e
    have h0 := bothN_zero.1 (orN_zero.1 e).1
    rw [h1, h2]
    exact ⟨h0.2.1, h0.1.1⟩
  · obtain ⟨rfl, rfl⟩ := h.2 e
    simp
theorem TurnAns.same {a b m1 m2 n1 n2 : List Tr} (h : TurnAns a b m1 m2) (k : TurnAns a b n1 n2) : m1 = n1 ∧ m2 = n2 := by
  by_cases e : apartN a b = 0
  · rw [(h.1 e).1, (h.1 e).2, (k.1 e).1, (k.1 e).2]
    exact ⟨rfl, rfl⟩
  · rw [(h.2 e).1, (h.2 e).2, (k.2 e).1, (k.2 e).2]
    exact ⟨rfl, rfl⟩
theorem afterN_len {did undid does undoes m : List Tr} (e : afterN did undid does undoes = 0) (h : JoinOf (lessL did undoes) (lessL does undid) m) : m.length ≤ 200 := by
  have h2 := (orN_zero.1 e).2
  exact SwapAns.len (s := did) (o := undoes) (i := lessL does undid) ⟨fun _ => h, fun e' => absurd h2 e'⟩
theorem ThenAns.len {a b c d m1 m2 : List Tr} (h : ThenAns a b c d m1 m2) : m1.length ≤ 200 ∧ m2.length ≤ 200 := by
  by_cases e : thenN a b c d = 0
  · obtain ⟨h1, h2⟩ := h.1 e
    have h0 := orN_zero.1 (orN_zero.1 e).2
    exact ⟨afterN_len h0.1 h1, afterN_len h0.2 h2⟩
  · obtain ⟨rfl, rfl⟩ := h.2 e
    simp
theorem ThenAns.same {a b c d m1 m2 n1 n2 : List Tr} (h : ThenAns a b c d m1 m2) (k : ThenAns a b c d n1 n2) : m1 = n1 ∧ m2 = n2 := by
  by_cases e : thenN a b c d = 0
  · exact ⟨(h.1 e).1.unique (k.1 e).1, (h.1 e).2.unique (k.1 e).2⟩
  · rw [(h.2 e).1, (h.2 e).2, (k.2 e).1, (k.2 e).2]
    exact ⟨rfl, rfl⟩

theorem SameErrorT (m : Int) (w : World) (hg : errVar w) : Calls Tryz.prog 8 #[errV m, .int .i64 m] w fun r w' => r = .returned (.bool true) ∧ RowKit.Below w.heap.size w w' := by
  have := SameError_any m m w hg
  rw [show (m == m) = true by simp] at this
  exact this
theorem SameListT (ad bd : Option Addr) (ca cb : Nat) (l m : List Tr) (w : World) (hl : SlT w ad l) (hm : SlT w bd m) (h2 : m.length ≤ 200) (e : l = m) :
    Calls Tryz.prog 19 #[.slice ad l.length ca, .slice bd m.length cb] w fun e w' => e = .returned (.bool true) ∧ RowKit.Below w.heap.size w w' := by
  have := SameTriples_any ad bd ca cb l m w hl hm (by rw [e]; omega) (by omega)
  rwa [show decide (l = m) = true by simpa using e] at this
theorem SameLayT (a1 a2 a3 a4 : Option Addr) (c1 c2 c3 c4 : Nat) (l m n k : List Tr) (w : World) (h1 : SlT w a1 l) (h2 : SlT w a2 m) (h3 : SlT w a3 n) (h4 : SlT w a4 k) (hl : n.length ≤ 200 ∧ k.length ≤ 200) (e : l = n ∧ m = k) :
    Calls Tryz.prog 17 #[.agg #[.slice a1 l.length c1, .slice a2 m.length c2], .agg #[.slice a3 n.length c3, .slice a4 k.length c4]] w fun e w' => e = .returned (.bool true) ∧ RowKit.Below w.heap.size w w' := by
  have := SameLayer_any a1 a2 a3 a4 c1 c2 c3 c4 l m n k w h1 h2 h3 h4 (by rw [e.1]; omega) (by rw [e.2]; omega) (by omega) (by omega)
  rwa [show (decide (l = n) && decide (m = k)) = true by simp [e.1, e.2]] at this

/-- a layer in a box, whatever its lists are told to be -/
def LayB (W : World) (b : Nat) (P : List Tr → List Tr → Prop) : Prop := ∃ (m1 : List Tr) (a1 : Option Addr) (c1 : Nat) (m2 : List Tr) (a2 : Option Addr) (c2 : Nat), BoxL W b (.slice a1 m1.length c1) (.slice a2 m2.length c2) ∧ SlT W a1 m1 ∧ SlT W a2 m2 ∧ P m1 m2
theorem LayB.below {W W' : World} {b : Nat} {P : List Tr → List Tr → Prop} (h : LayB W b P) (hb : RowKit.Below W.heap.size W W') : LayB W' b P := by
  obtain ⟨m1, a1, c1, m2, a2, c2, h1, h2, h3, h4⟩ := h
  exact ⟨m1, a1, c1, m2, a2, c2, h1.below hb, h2.below hb, h3.below hb, h4⟩
end Go.Proofs.YtgdjeohcimkljadGreatDoor

/- ChainPlays: what its walk has in hand: the chain, the law's own list of layers, all that was there. -/
namespace Go.Proofs.YtgdjeohcimkljadGreatDoor
open Go Go.RowKit Go.Proofs
set_option synthInstance.maxSize 1000

def Apart (n0 : Nat) (v vm : Value) : Prop := ∀ g, vm.ownBlock = some g → g ≠ n0 ∧ v.ownBlock ≠ some g
theorem MAt.off {W W' : World} {B n0 : Nat} {v vm : Value} {gs : List (List Tr)} (h : MAt W B vm gs) (ho : Off n0 v W W') (ha : Apart n0 v vm) : MAt W' B vm gs :=
  h.keep ho.size ho.rows fun g hg => ho.block g (h.own g hg).2 (ha g hg).1 (ha g hg).2
theorem Apart.new {W : World} {B n0 : Nat} {v v' vm : Value} {gs : List (List Tr)} (ha : Apart n0 v vm) (hm : MAt W B vm gs) (hn : NewV W v v') : Apart n0 v' vm := fun g hg => by
  refine ⟨(ha g hg).1, fun e => ?_⟩
  rcases hn with h | h
  · exact (ha g hg).2 (by rw [← h]; exact e)
  · have h1 := h g e
    have h2 := (hm.own g hg).2
    omega
theorem PatAt.block {W W' : World} {b : Nat} {p : Pt} (h : PatAt W b p) (hb : W'.heap[b]? = W.heap[b]?) : PatAt W' b p := fun j v hj => (World.cell?_of_block (w := W) hb).trans (h j v hj)
/-- the chain says gs, the list of the law hs -/
def PSh (w : World) (n0 : Nat) (p : Pt) (gs hs : List (List Tr)) (v vm : Value) (W : World) : Prop := ChainAt W n0 v gs ∧ MAt W (w.heap.size + 1) vm hs ∧ Apart n0 v vm ∧ RowKit.Below w.heap.size w W ∧ PatAt W w.heap.size p ∧ w.heap.size < n0
theorem PSh.below {w W W' : World} {n0 : Nat} {p : Pt} {gs hs : List (List Tr)} {v vm : Value} (h : PSh w n0 p gs hs v vm W) (hb : RowKit.Below W.heap.size W W') : PSh w n0 p gs hs v vm W' :=
  ⟨h.1.below hb, h.2.1.below hb, h.2.2.1, bstep h.2.2.2.1 hb, h.2.2.2.2.1.below hb, h.2.2.2.2.2⟩
/-- behind a change of the chain -/
theorem PSh.chain {w W W' : World} {n0 : Nat} {p : Pt} {gs hs gs' : List (List Tr)} {v v' vm : Value} (h : PSh w n0 p gs hs v vm W) (hC : ChainAt W' n0 v' gs') (ho : Off n0 v W W') (hn : NewV W v v') : PSh w n0 p gs' hs v' vm W' := by
  obtain ⟨h1, h2, h3, h4, h5, h6⟩ := h
  refine ⟨hC, h2.off ho h3, h3.new h2 hn, h4.trans (ho.below (by omega) (fun g hg => by have := (h1.own g hg).1; omega) h4.size), h5.block (ho.block _ h5.lt (by omega) (fun e => by have := (h1.own _ e).1; omega)), h6⟩
/-- both say gs -/
def PSt (w : World) (n0 : Nat) (s : List Tr) (p : Pt) (gs : List (List Tr)) (v vm : Value) (W : World) : Prop := PSh w n0 p gs gs v vm W ∧ gs.length ≤ 31 ∧ gs[0]? = some s
theorem PSt.below {w W W' : World} {n0 : Nat} {s : List Tr} {p : Pt} {gs : List (List Tr)} {v vm : Value} (h : PSt w n0 s p gs v vm W) (hb : RowKit.Below W.heap.size W W') : PSt w n0 s p gs v vm W' := ⟨h.1.below hb, h.2⟩
theorem PSt.sets {w W : World} {n0 : Nat} {s : List Tr} {p : Pt} {gs : List (List Tr)} {v vm : Value} (h : PSt w n0 s p gs v vm W) : ∀ g ∈ gs, IsSet g := fun g hg => by
  obtain ⟨i, hi⟩ := List.getElem?_of_mem hg
  exact h.1.1.set hi
theorem PSt.top {w W : World} {n0 : Nat} {s : List Tr} {p : Pt} {gs : List (List Tr)} {v vm : Value} (h : PSt w n0 s p gs v vm W) : gs[gs.length - 1]? = some (gat gs (gs.length - 1)) := gat_eq (by have := h.1.1.pos; omega)
theorem PSt.last {w W : World} {n0 : Nat} {s : List Tr} {p : Pt} {gs : List (List Tr)} {v vm : Value} (h : PSt w n0 s p gs v vm W) : gs.getLast? = some (gat gs (gs.length - 1)) := by
  rw [List.getLast?_eq_getElem?]
  exact h.top

/-- behind a change of the law's list -/
theorem PSh.list {w W W' : World} {n0 : Nat} {p : Pt} {gs hs hs' : List (List Tr)} {v vm vm' : Value} (h : PSh w n0 p gs hs v vm W) (hM : MAt W' (w.heap.size + 1) vm' hs') (hg : W.grownBy W' vm.ownBlock) (hr : RowsOn W W') (hob : vm'.ownBlock = vm.ownBlock ∨ ∀ g, vm'.ownBlock = some g → W.heap.size ≤ g) : PSh w n0 p gs hs' v vm' W' := by
  obtain ⟨h1, h2, h3, h4, h5, h6⟩ := h
  have hlt := h1.lt
  refine ⟨h1.keep hg.size hr (fun k hk => hg.block k ?_ ?_), hM, fun g hg' => ?_, h4.grown hg h4.size (fun k hk => by have := (h2.own k hk).1; omega), h5.block (hg.block _ h5.lt (fun e => by have := (h2.own _ e.symm).1; omega)), h6⟩
  · rcases hk with rfl | hk
    · exact hlt
    · exact (h1.own k hk).2
  · intro e
    rcases hk with rfl | hk
    · exact (h3 _ e.symm).1 rfl
    · exact (h3 _ e.symm).2 hk
  · rcases hob with h | h
    · exact h3 g (by rw [← h]; exact hg')
    · have := h g hg'
      refine ⟨by omega, fun e => ?_⟩
      have := (h1.own g e).2
      omega

/-- a layer more on the law's list -/
theorem psPush {w W : World} {n0 : Nat} {p : Pt} {gs hs : List (List Tr)} {v vm : Value} {g u : List Tr} (h : PSh w n0 p gs hs v vm W) (hl : hs.length ≤ 900) (hg : hs.getLast? = some g) (a1 a2 : Option Addr) (c1 c2 : Nat) (q1 : SlT W a1 (btw g u).1) (q2 : SlT W a2 (btw g u).2) (ty : TypeId) :
    ∃ vm' W9, (Builtin.append_ #[40, 40] ty #[vm, .slice (some ⟨W.heap.size, 0, none⟩) 1 1]).run Tryz.prog (W.alloc (.cells #[.slice a1 (btw g u).1.length c1, .slice a2 (btw g u).2.length c2] 31)) = .ok vm' W9 ∧ PSh w n0 p gs (hs ++ [u]) v vm' W9 ∧ RowsOn W W9 ∧ W.grownBy W9 vm.ownBlock := by
  obtain ⟨i0, hi, hz⟩ := Option.map_eq_some_iff.1 infoLy
  simp only [Prod.mk.injEq] at hz
  obtain ⟨hz0, hz1, hz2⟩ := hz
  have hbA := balloc W (.cells #[.slice a1 (btw g u).1.length c1, .slice a2 (btw g u).2.length c2] 31)
  have h' := h.below hbA
  obtain ⟨xm, hS, hL⟩ := h'.2.1
  have hx := hL.1.trans (stepsL_len _)
  have hw := h.2.2.2.1.size
  have hlt := h.2.2.2.2.1.lt
  obtain ⟨vm', W9, hr, hS', hgr, hrow, hob, _⟩ := run_append_sheet (P := Tryz.prog) 40 ty 31 i0 Tryz.underlying40 hi hz0 hz1 (by omega) hS (.slice a1 (btw g u).1.length c1, .slice a2 (btw g u).2.length c2) rfl rfl ⟨W.heap.size, 0, none⟩ 1 (fun j y hj => by
    have h2 : j < 2 := (List.getElem?_eq_some_iff.1 hj).1
    rw [Addr.add_lit]
    rcases (by omega : j = 0 ∨ j = 1) with rfl | rfl
    all_goals
      simp at hj
      subst hj
      simp) (by simp; omega) (by omega)
  have hRows : RowsOn W W9 := (RowsOn.of_below hbA).trans hrow
  refine ⟨vm', W9, hr, h'.list ⟨_, hS', ?_⟩ hgr hrow ?_, hRows, ⟨hgr.os, hgr.tape, hgr.output, by have := hgr.size; simp at this; omega, fun k hk hne => (hgr.block k (by simp; omega) hne).trans (Below.heap_alloc _ _ _ hk)⟩⟩
  · rw [stepsL_snoc hs g u hg]
    exact (hL.rows hrow).snoc ⟨a1, c1, a2, c2, rfl, hRows _ _ q1, hRows _ _ q2⟩
  · rcases hob with h | h
    · exact Or.inl h
    · exact Or.inr fun g' hg' => by rw [h] at hg'; exact Nat.le_of_eq (Option.some.inj hg')

/-- the law's list cut by one -/
theorem mCut {W : World} {B n cap : Nat} {ad : Option Addr} {gs : List (List Tr)} (h : MAt W B (.slice ad (n + 1) cap) gs) : MAt W B (.slice ad n cap) gs.dropLast := by
  obtain ⟨xm, hS, hL⟩ := h
  have hx := hL.1.trans (stepsL_len _)
  rcases hS with ⟨h1, _⟩ | ⟨g, cap', h1, h2, h3, hS⟩
  · simp at h1
  · obtain ⟨rfl, e2, rfl⟩ := Value.slice.inj h1
    refine ⟨xm.dropLast, Or.inr ⟨g, cap, by simp; omega, h2, h3, ?_⟩, ?_⟩
    · rw [List.dropLast_eq_take]
      exact hS.shut _
    · rw [stepsL_init]
      exact hL.init

/-- chain.Match behind i layers -/
def CMatchAns (g : List Tr) (p : Pt) (w : World) (e : Ending) (w' : World) : Prop := RowKit.Below w.heap.size w w' ∧ ∃ m ad' cap', e = .returned (.tuple #[.slice ad' m.length cap', errV (matchN g p)]) ∧ SlT w' ad' m ∧ MatchAns g p m
attribute [local go_sem] eql_errV neq_errV guard_errV
set_option maxHeartbeats 4000000 in
set_option maxRecDepth 100000 in
theorem CMatch_any (n0 : Nat) (v : Value) (gs : List (List Tr)) (i : Nat) (g : List Tr) (p : Pt) (w : World) (h : ChainAt w n0 v gs) (hn : gs.length ≤ 1000) (hi : gs[i]? = some g) (hp : fitPt p) :
    Calls Tryz.prog 22 #[.pointer (some ⟨n0, 0, none⟩), .int .i64 i, valPt p] w (CMatchAns g p w) := by
  have sg := h.set hi
  have HG := fun W hW => Graph_any n0 v gs i g W hW hn hi
  have HM := fun ad cap W hW => Match_any ad cap g p W hW sg.fit hp (setLen sg)
  have H0 : Hid (ChainAt w n0 v gs) := h
  have out : Hid (∀ (w' : World) m ad' cap', RowKit.Below w.heap.size w w' → SlT w' ad' m → MatchAns g p m → CMatchAns g p w (.returned (.tuple #[.slice ad' m.length cap', errV (matchN g p)])) w') := fun w' m ad' cap' h1 h2 h3 => ⟨h1, m, ad', cap', rfl, h2, h3⟩
  clear h hi hp sg hn
  generalize matchN g p = N at *
  unfold valPt at HM ⊢
  go_enter Tryz.func22, Tryz.ntmps22
  go_wp2_with fail
  refine (HG _ (H0.out.below (balloc _ _))).mono ?_
  rintro e w1 ⟨hb1, ad, c, rfl, hs⟩
  have Hs : Hid (SlT w1 ad g) := hs
  have hpx : PatAt w1 w.heap.size p := PatAt.below (patBox w p 47) hb1
  obtain ⟨p0, p1, p2, p3, p4, p5, p6, p7, p8, p9, p10, p11⟩ := hpx.all
  have hB1 : Hid (RowKit.Below w.heap.size w w1) := bstep (balloc _ _) hb1
  clear hs hb1 HG hpx
  go_wp2_with fail
  refine (HM ad c _ Hs.out).mono ?_
  rintro e w2 ⟨hb2, m, ad', c', rfl, hm, hans⟩
  have Hm : Hid (SlT w2 ad' m ∧ MatchAns g p m) := ⟨hm, hans⟩
  clear hm hans p0 p1 p2 p3 p4 p5 p6 p7 p8 p9 p10 p11
  go_wp2_with fail
  exact bodyPost_ret (v := .tuple #[.slice ad' m.length c', errV N]) (by simp [results, Tryz.results22, go_sem]) rfl (out.out _ m ad' c' (bstep hB1.out hb2) Hm.out.1 Hm.out.2)
set_option maxHeartbeats 4000000 in
set_option maxRecDepth 100000 in
theorem CMatchBad_any (n0 : Nat) (v : Value) (gs : List (List Tr)) (i : Int) (p : Pt) (w : World) (h : ChainAt w n0 v gs) (hn : gs.length ≤ 1000) (hi : i < 0 ∨ ((gs.length - 1 : Nat) : Int) < i) :
    Calls Tryz.prog 22 #[.pointer (some ⟨n0, 0, none⟩), .int .i64 i, valPt p] w fun e w' => e = .returned (.tuple #[.slice none 0 0, .iface 73 (.int .i64 1)]) ∧ RowKit.Below w.heap.size w w' := by
  have HG := fun W hW => GraphBad_any n0 v gs i W hW hn hi
  have H0 : Hid (ChainAt w n0 v gs) := h
  clear h hi hn
  unfold valPt
  go_enter Tryz.func22, Tryz.ntmps22
  go_wp2_with fail
  refine (HG _ (H0.out.below (balloc _ _))).mono ?_
  rintro e w1 ⟨rfl, rfl⟩
  go_wp2_with fail
  exact bodyPost_ret (v := .tuple #[.slice none 0 0, .iface 73 (.int .i64 1)]) (by simp [results, Tryz.results22, go_sem]) rfl ⟨rfl, balloc _ _⟩
end Go.Proofs.YtgdjeohcimkljadGreatDoor

/- ChainPlays: its arguments, its boxes. -/
namespace Go.Proofs.YtgdjeohcimkljadGreatDoor
open Go Go.RowKit Go.Proofs
set_option synthInstance.maxSize 1000

/-- layers, in a list -/
def LsAt (w : World) (b o : Nat) (ls : List Ly) : Prop := ∀ i, i < ls.length → ∃ a1 c1 a2 c2, w.cell? ⟨b, o + i * 2, none⟩ = some (.slice a1 (ls.getD i ([], [])).1.length c1) ∧ w.cell? ⟨b, o + i * 2 + 1, none⟩ = some (.slice a2 (ls.getD i ([], [])).2.length c2) ∧ SlT w a1 (ls.getD i ([], [])).1 ∧ SlT w a2 (ls.getD i ([], [])).2
theorem LsAt.below {w w' : World} {b o : Nat} {ls : List Ly} (h : LsAt w b o ls) (hb : RowKit.Below w.heap.size w w') : LsAt w' b o ls := fun i hi => by
  obtain ⟨a1, c1, a2, c2, h1, h2, h3, h4⟩ := h i hi
  exact ⟨a1, c1, a2, c2, (hb.cell (World.block_lt_of_cell? w _ h1)).trans h1, (hb.cell (World.block_lt_of_cell? w _ h2)).trans h2, h3.below hb, h4.below hb⟩
def askJ (q : List Int) (j : Nat) : Int := q.getD j 0
theorem askJ_at {q : List Int} {j : Nat} (h : j < q.length) : askJ q j = q[j] := by
  unfold askJ
  rw [List.getD_eq_getElem?_getD, List.getElem?_eq_getElem h]
  rfl
theorem askJ_out {q : List Int} {j : Nat} (h : ¬ j < q.length) : askJ q j = 0 := by
  unfold askJ
  rw [List.getD_eq_getElem?_getD, List.getElem?_eq_none (by omega)]
  rfl
/-- lists of numbers, in a list -/
def AskAt (W : World) (b o : Nat) (Q : List (List Int)) : Prop := ∀ i, i < Q.length → ∃ a c, W.cell? ⟨b, o + i, none⟩ = some (.slice a (Q.getD i []).length c) ∧ ∀ j, j < (Q.getD i []).length → ∃ b' o', a = some ⟨b', o', none⟩ ∧ W.cell? ⟨b', o' + j, none⟩ = some (.int .i64 (askJ (Q.getD i []) j))
theorem AskAt.below {w w' : World} {b o : Nat} {Q : List (List Int)} (h : AskAt w b o Q) (hb : RowKit.Below w.heap.size w w') : AskAt w' b o Q := fun i hi => by
  obtain ⟨a, c, h1, h2⟩ := h i hi
  refine ⟨a, c, (hb.cell (World.block_lt_of_cell? w _ h1)).trans h1, fun j hj => ?_⟩
  obtain ⟨b', o', e', h3⟩ := h2 j hj
  exact ⟨b', o', e', (hb.cell (World.block_lt_of_cell? w _ h3)).trans h3⟩
/-- three numbers in a block -/
def Num3 (W : World) (b : Nat) (x y z : Int) : Prop := W.cell? ⟨b, 0, none⟩ = some (.int .i64 x) ∧ W.cell? ⟨b, 1, none⟩ = some (.int .i64 y) ∧ W.cell? ⟨b, 2, none⟩ = some (.int .i64 z) ∧ W.frozen? ⟨b, 0, none⟩ = false ∧ W.frozen? ⟨b, 1, none⟩ = false ∧ W.frozen? ⟨b, 2, none⟩ = false
theorem Num3.below {W W' : World} {b : Nat} {x y z : Int} (h : Num3 W b x y z) (hb : RowKit.Below W.heap.size W W') : Num3 W' b x y z := by
  obtain ⟨k, f⟩ := bcell hb
  have hB : b < W.heap.size := World.block_lt_of_cell? W _ h.1
  unfold Num3 at h ⊢
  simp only [k _ _ hB, f _ _ hB]
  exact h
theorem Num3.new (w : World) : Num3 (w.alloc (.cells #[.int .i64 0, .int .i64 0, .int .i64 0] 49)) w.heap.size 0 0 0 := by
  unfold Num3
  refine ⟨?_, ?_, ?_, ?_, ?_, ?_⟩ <;> go_simp
theorem Num3.off {W W' : World} {b n0 : Nat} {v : Value} {x y z : Int} (h : Num3 W b x y z) (ho : Off n0 v W W') (hn : b ≠ n0) (hv : v.ownBlock ≠ some b) : Num3 W' b x y z := by
  have hB : b < W.heap.size := World.block_lt_of_cell? W _ h.1
  have k : ∀ o, W'.cell? ⟨b, o, none⟩ = W.cell? ⟨b, o, none⟩ := fun o => World.cell?_of_block (w := W) (ho.block b hB hn hv)
  have f : ∀ o, W'.frozen? ⟨b, o, none⟩ = W.frozen? ⟨b, o, none⟩ := fun o => World.frozen?_of_block (w := W) (ho.block b hB hn hv)
  unfold Num3 at h ⊢
  simp only [k, f]
  exact h

theorem Num3.set0 {W : World} {b : Nat} {x y z : Int} (h : Num3 W b x y z) (u : Int) : Num3 (W.setCell ⟨b, 0, none⟩ (.int .i64 u)) b u y z := by
  obtain ⟨h0, h1, h2, h3, h4, h5⟩ := h
  refine ⟨World.cell?_setCell_same' _ _ _ (by rw [h0]; rfl), ?_, ?_, ?_, ?_, ?_⟩
  · rw [World.cell?_setCell_other _ _ _ _ (by simp)]; exact h1
  · rw [World.cell?_setCell_other _ _ _ _ (by simp)]; exact h2
  · rw [World.frozen?_setCell]; exact h3
  · rw [World.frozen?_setCell]; exact h4
  · rw [World.frozen?_setCell]; exact h5
theorem Num3.set1 {W : World} {b : Nat} {x y z : Int} (h : Num3 W b x y z) (u : Int) : Num3 (W.setCell ⟨b, 1, none⟩ (.int .i64 u)) b x u z := by
  obtain ⟨h0, h1, h2, h3, h4, h5⟩ := h
  refine ⟨?_, World.cell?_setCell_same' _ _ _ (by rw [h1]; rfl), ?_, ?_, ?_, ?_⟩
  · rw [World.cell?_setCell_other _ _ _ _ (by simp)]; exact h0
  · rw [World.cell?_setCell_other _ _ _ _ (by simp)]; exact h2
  · rw [World.frozen?_setCell]; exact h3
  · rw [World.frozen?_setCell]; exact h4
  · rw [World.frozen?_setCell]; exact h5
theorem Num3.set2 {W : World} {b : Nat} {x y z : Int} (h : Num3 W b x y z) (u : Int) : Num3 (W.setCell ⟨b, 2, none⟩ (.int .i64 u)) b x y u := by
  obtain ⟨h0, h1, h2, h3, h4, h5⟩ := h
  refine ⟨?_, ?_, World.cell?_setCell_same' _ _ _ (by rw [h2]; rfl), ?_, ?_, ?_⟩
  · rw [World.cell?_setCell_other _ _ _ _ (by simp)]; exact h0
  · rw [World.cell?_setCell_other _ _ _ _ (by simp)]; exact h1
  · rw [World.frozen?_setCell]; exact h3
  · rw [World.frozen?_setCell]; exact h4
  · rw [World.frozen?_setCell]; exact h5

/-- a layer in a box, its lists beside it -/
def XAt (W : World) (b : Nat) (a1 a2 : Option Addr) (c1 c2 : Nat) (l : Ly) : Prop := BoxL W b (.slice a1 l.1.length c1) (.slice a2 l.2.length c2) ∧ SlT W a1 l.1 ∧ SlT W a2 l.2
theorem XAt.below {W W' : World} {b : Nat} {a1 a2 : Option Addr} {c1 c2 : Nat} {l : Ly} (h : XAt W b a1 a2 c1 c2 l) (hb : RowKit.Below W.heap.size W W') : XAt W' b a1 a2 c1 c2 l := ⟨h.1.below hb, h.2.1.below hb, h.2.2.below hb⟩
theorem XAt.off {W W' : World} {b n0 : Nat} {v : Value} {a1 a2 : Option Addr} {c1 c2 : Nat} {l : Ly} (h : XAt W b a1 a2 c1 c2 l) (ho : Off n0 v W W') (hn : b ≠ n0) (hv : v.ownBlock ≠ some b) : XAt W' b a1 a2 c1 c2 l := by
  have hB : b < W.heap.size := World.block_lt_of_cell? W _ h.1.1
  have k : ∀ o, W'.cell? ⟨b, o, none⟩ = W.cell? ⟨b, o, none⟩ := fun o => World.cell?_of_block (w := W) (ho.block b hB hn hv)
  exact ⟨⟨(k 0).trans h.1.1, (k 1).trans h.1.2⟩, ho.rows _ _ h.2.1, ho.rows _ _ h.2.2⟩
def FitL (l : Ly) : Prop := ((∀ x ∈ l.1, fitTr x) ∧ l.1.length ≤ 9223372036854775807) ∧ (∀ x ∈ l.2, fitTr x) ∧ l.2.length ≤ 9223372036854775807
theorem fitL_nil : FitL ([], []) := ⟨⟨by simp, by simp⟩, by simp, by simp⟩
theorem pushN_of {gs : List (List Tr)} {g : List Tr} {l : Ly} (sg : IsSet g) : pushN gs g l = orN (orN (if 31 ≤ gs.length then 4 else 0) (apartN l.1 l.2)) (applyN g l.1 l.2) := by
  unfold pushN
  by_cases h : 31 ≤ gs.length
  · rw [if_pos h, if_pos h]
    rfl
  · rw [if_neg h, if_neg h, show orN 0 (apartN l.1 l.2) = apartN l.1 l.2 from rfl]
    by_cases h2 : apartN l.1 l.2 = 0
    · rw [orN_pos h2]
    · rw [orN_neg h2]
      unfold applyN
      rw [orN_pos (sortedN_set.2 sg), orN_neg h2]

end Go.Proofs.YtgdjeohcimkljadGreatDoor

/- ChainPlays' code, in pieces. -/
namespace Go.Proofs.YtgdjeohcimkljadGreatDoor
open Go Go.RowKit Go.Proofs

/-- the first region of a piece of code, and the piece that begins with one -/
def leftmost : Code → Option Nat
  | .region n _ _ => some n
  | .seq a _ => leftmost a
  | .block _ c => leftmost c
  | .loop c => leftmost c
  | .scope c => leftmost c
  | _ => none
def findAt (n : Nat) : Code → Option Code
  | .region m o b => if m = n then some (.region m o b) else none
  | .seq a b => if leftmost a = some n then some (.seq a b) else match findAt n a with
    | some c => some c
    | none => findAt n b
  | .block m c => if leftmost c = some n then some (.block m c) else findAt n c
  | .loop c => if leftmost c = some n then some (.loop c) else findAt n c
  | .scope c => if leftmost c = some n then some (.scope c) else findAt n c
  | .cond _ a b => match findAt n a with
    | some c => some c
    | none => findAt n b
  | _ => none
def codeOf (b : Option Code) (n : Nat) : Code := ((b.bind (findAt n)).getD .skip)
theorem go_on {P : Program} {c : Code} {Q0 : Exit → Act → World → Prop} {K : Act → World → Prop} {a : Act} {w : World} (h : ∀ a w, Code.wp P c Q0 a w → K a w) (hc : Code.wp P c Q0 a w) : K a w := h a w hc
/-- lists that are the same -/
theorem SameNil_any (w : World) : Calls Tryz.prog 19 #[.slice none 0 0, .slice none 0 0] w fun e w' => e = .returned (.bool true) ∧ RowKit.Below w.heap.size w w' :=
  SameListT none none 0 0 [] [] w (slT_nil _ _) (slT_nil _ _) (by simp) rfl
end Go.Proofs.YtgdjeohcimkljadGreatDoor
