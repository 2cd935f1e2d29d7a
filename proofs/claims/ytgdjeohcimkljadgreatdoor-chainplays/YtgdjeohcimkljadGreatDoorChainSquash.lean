/- chain.Squash: layers made one. -/
import Derived.Test.YtgdjeohcimkljadGreatDoorChainReplace
namespace Go.Proofs.YtgdjeohcimkljadGreatDoor
open Go Go.RowKit Go.Proofs
set_option synthInstance.maxSize 1000
attribute [local go_sem] eql_errV neq_errV guard_errV

theorem Replace_any (g cap i j : Nat) (xs : List Vp) (x : Vp) (ad : Addr) (w : World) (h : Sheet w g cap xs) (hij : i < j) (hj : j ≤ xs.length) (hn : xs.length ≤ 1000) (hx1 : slB x.1 = true) (hx2 : slB x.2 = true) (hx : ∀ (k : Nat) u, ([x.1, x.2] : List Value)[k]? = some u → w.cell? (ad.add k) = some u) :
    Calls Tryz.prog 30 #[.slice (some ⟨g, 0, none⟩) xs.length cap, .int .i64 i, .int .i64 j, .slice (some ad) 1 1] w (RepAns g cap (xs.take i ++ x :: xs.drop j) w) := by
  by_cases hm : j = xs.length
  · subst hm
    rw [List.drop_length]
    exact ReplaceEnd_any g cap i xs x ad w h hij hn hx1 hx2 hx
  · exact ReplaceMid_any g cap i j (xs.length - j) xs x ad w h hij (by omega) (by omega) hn hx1 hx2 hx

/-- what Squash leaves -/
def SqAns (n0 : Nat) (v : Value) (gs' : List (List Tr)) (w : World) (v' : Value) (w' : World) : Prop := ChainAt w' n0 v' gs' ∧ Off n0 v w w' ∧ v'.ownBlock = v.ownBlock
theorem chain_rep {W : World} {n0 bl cap m : Nat} {gs : List (List Tr)} (h : ChainAt W n0 (.slice (some ⟨bl, 0, none⟩) m cap) gs) (i t : Nat) (g u : List Tr) (hit : i + 1 ≤ t) (hn : gs.length ≤ 900) (hg : gs[i]? = some g) (hu : gs[t]? = some u) (a1 a2 : Option Addr) (c1 c2 : Nat) (q1 : SlT W a1 (lessL u g)) (q2 : SlT W a2 (lessL g u)) (ad : Addr)
    (p0 : W.cell? (ad.add 0) = some (.slice a1 (lessL u g).length c1)) (p1 : W.cell? (ad.add 1) = some (.slice a2 (lessL g u).length c2)) :
    Calls Tryz.prog 30 #[.slice (some ⟨bl, 0, none⟩) m cap, .int .i64 i, .int .i64 t, .slice (some ad) 1 1] W fun e w9 => ∃ n, e = .returned (.slice (some ⟨bl, 0, none⟩) n cap) ∧ w9.cell? ⟨n0, 1, none⟩ = some (.slice (some ⟨bl, 0, none⟩) m cap) ∧ w9.frozen? ⟨n0, 1, none⟩ = false ∧ SqAns n0 (.slice (some ⟨bl, 0, none⟩) m cap) (gs.take (i + 1) ++ gs.drop t) W (.slice (some ⟨bl, 0, none⟩) n cap) (w9.setCell ⟨n0, 1, none⟩ (.slice (some ⟨bl, 0, none⟩) n cap)) := by
  have hown := h.own
  obtain ⟨s, r, bd, cb, xs, hgs, hset, harr, hsl, hsh, hly⟩ := h
  have hl := hly.1.trans (stepsL_len _)
  have ht : t < gs.length := (List.getElem?_eq_some_iff.1 hu).1
  rcases hsh with ⟨h1, _⟩ | ⟨g', cap', h1, h2, h3, hS⟩
  · simp at h1
  · obtain ⟨e1, e2, e3⟩ := Value.slice.inj h1
    obtain ⟨e4, _⟩ := Addr.mk.inj (Option.some.inj e1)
    subst e4 e2 e3
    refine (Replace_any bl cap i t xs (.slice a1 (lessL u g).length c1, .slice a2 (lessL g u).length c2) ad W hS (by omega) (by omega) (by omega) rfl rfl (fun k y hk => ?_)).mono ?_
    · have h2 : k < 2 := (List.getElem?_eq_some_iff.1 hk).1
      rcases (by omega : k = 0 ∨ k = 1) with rfl | rfl
      · simp at hk; subst hk; exact p0
      · simp at hk; subst hk; exact p1
    · rintro e w9 ⟨rfl, hgr, hrow, hS9⟩
      have hlt9 : bl < w9.heap.size := Nat.lt_of_lt_of_le h3 hgr.size
      obtain ⟨k1, k3, hC, hO⟩ := chain_squash (v' := .slice (some ⟨bl, 0, none⟩) (xs.take i ++ (Value.slice a1 (lessL u g).length c1, Value.slice a2 (lessL g u).length c2) :: xs.drop t).length cap) (f := i + 1) (t := t) hgs hset harr hsl ⟨_, _, _, rfl⟩ (fun e => by have := (hown n0 e).1; omega) rfl hly (by omega) hit (by simpa using hg) hu (x := (.slice a1 (lessL u g).length c1, .slice a2 (lessL g u).length c2)) ⟨a1, c1, a2, c2, rfl, q1, q2⟩ hgr hrow (Or.inr ⟨bl, cap, rfl, h2, hlt9, hS9⟩)
      exact ⟨_, rfl, k1, k3, hC, hO, rfl⟩

set_option maxHeartbeats 2000000 in
set_option maxRecDepth 100000 in
theorem SquashBad_any (n0 : Nat) (v : Value) (gs : List (List Tr)) (f t : Int) (w : World) (h : ChainAt w n0 v gs) (hn : gs.length ≤ 900) (hb : f < 1 ∨ ((gs.length - 1 : Nat) : Int) < t ∨ t < f) :
    Calls Tryz.prog 11 #[.pointer (some ⟨n0, 0, none⟩), .int .i64 f, .int .i64 t] w fun e w' => e = .returned (.iface 73 (.int .i64 1)) ∧ w' = w := by
  have HL := CLen_any n0 v gs w h (by omega)
  generalize hm : gs.length - 1 = m at *
  clear h hn hm
  by_cases h0 : f < 1
  · have b0 : decide (f < 1) = true := by simpa using h0
    clear hb
    go_enter Tryz.func11, Tryz.ntmps11
    go_wp2_with fail
    exact bodyPost_ret (v := .iface 73 (.int .i64 1)) (by simp [results, Tryz.results11, go_sem]) rfl ⟨rfl, rfl⟩
  · have b0 : decide (f < 1) = false := by simpa using h0
    by_cases h1 : (m : Int) < t
    · have b1 : decide ((m : Int) < t) = true := by simpa using h1
      clear hb
      go_enter Tryz.func11, Tryz.ntmps11
      go_wp2_with fail
      refine HL.mono ?_
      rintro e w1 ⟨rfl, rfl⟩
      go_wp2_with fail
      exact bodyPost_ret (v := .iface 73 (.int .i64 1)) (by simp [results, Tryz.results11, go_sem]) rfl ⟨rfl, rfl⟩
    · have b1 : decide ((m : Int) < t) = false := by simpa using h1
      have h2 : t < f := by rcases hb with h | h | h; exact absurd h h0; exact absurd h h1; exact h
      have b2 : decide (t < f) = true := by simpa using h2
      clear hb
      go_enter Tryz.func11, Tryz.ntmps11
      go_wp2_with fail
      refine HL.mono ?_
      rintro e w1 ⟨rfl, rfl⟩
      go_wp2_with fail
      exact bodyPost_ret (v := .iface 73 (.int .i64 1)) (by simp [results, Tryz.results11, go_sem]) rfl ⟨rfl, rfl⟩

/-- the one layer in its box -/
def OneAt (W : World) (b : Nat) (g u : List Tr) : Prop := ∃ p1 q1 p2 q2, BoxL W b (.slice p1 (lessL u g).length q1) (.slice p2 (lessL g u).length q2) ∧ W.frozen? ⟨b, 0, none⟩ = false ∧ W.frozen? ⟨b, 1, none⟩ = false ∧ SlT W p1 (lessL u g) ∧ SlT W p2 (lessL g u)
theorem OneAt.new {w : World} {g u : List Tr} {a1 a2 : Option Addr} {c1 c2 : Nat} (h1 : SlT w a1 (lessL u g)) (h2 : SlT w a2 (lessL g u)) : OneAt (w.alloc (.cells #[.slice a1 (lessL u g).length c1, .slice a2 (lessL g u).length c2] 31)) w.heap.size g u :=
  ⟨a1, c1, a2, c2, BoxL.new _ _ _ _, by go_simp, by go_simp, h1.below (balloc _ _), h2.below (balloc _ _)⟩
theorem OneAt.below {W W' : World} {b : Nat} {g u : List Tr} (h : OneAt W b g u) (hb : RowKit.Below W.heap.size W W') : OneAt W' b g u := by
  obtain ⟨p1, q1, p2, q2, hB, f0, f1, h1, h2⟩ := h
  have hlt := World.block_lt_of_cell? W _ hB.1
  exact ⟨p1, q1, p2, q2, hB.below hb, (hb.frozen (p := ⟨b, 0, none⟩) hlt).trans f0, (hb.frozen (p := ⟨b, 1, none⟩) hlt).trans f1, h1.below hb, h2.below hb⟩
/-- another one put into the box -/
theorem one_put {W : World} {b n0 : Nat} {v : Value} {gs : List (List Tr)} {g u : List Tr} {x y : Value} {p1 p2 : Option Addr} {q1 q2 : Nat} (hC : ChainAt W n0 v gs) (hn : n0 ≠ b) (hv : v.ownBlock ≠ some b) (hx : ∃ a n c, x = .slice a n c) (hy : ∃ a n c, y = .slice a n c) (hB : BoxL W b x y) (f0 : W.frozen? ⟨b, 0, none⟩ = false) (f1 : W.frozen? ⟨b, 1, none⟩ = false) (h1 : SlT W p1 (lessL u g)) (h2 : SlT W p2 (lessL g u)) :
    ChainAt ((W.setCell ⟨b, 0, none⟩ (.slice p1 (lessL u g).length q1)).setCell ⟨b, 1, none⟩ (.slice p2 (lessL g u).length q2)) n0 v gs ∧ OneAt ((W.setCell ⟨b, 0, none⟩ (.slice p1 (lessL u g).length q1)).setCell ⟨b, 1, none⟩ (.slice p2 (lessL g u).length q2)) b g u := by
  obtain ⟨xa, xn, xc, rfl⟩ := hx
  obtain ⟨ya, yn, yc, rfl⟩ := hy
  have hr : RowsOn W ((W.setCell ⟨b, 0, none⟩ (.slice p1 (lessL u g).length q1)).setCell ⟨b, 1, none⟩ (.slice p2 (lessL g u).length q2)) := fun a l hl => hl.put2 hB.1 hB.2 _ _
  refine ⟨hC.keep (by simp [World.setCell]) hr (fun k hk => ?_), p1, q1, p2, q2, ⟨?_, ?_⟩, ?_, ?_, hr _ _ h1, hr _ _ h2⟩
  · have hkb : k ≠ b := by
      rcases hk with rfl | hk
      · exact hn
      · intro e
        exact hv (by rw [hk, e])
    rw [Below.heap_setCell _ _ _ _ hkb, Below.heap_setCell _ _ _ _ hkb]
  · rw [World.cell?_setCell_other _ _ _ _ (by simp)]
    exact World.cell?_setCell_same' _ _ _ (by rw [hB.1]; rfl)
  · refine World.cell?_setCell_same' _ _ _ ?_
    rw [World.cell?_setCell_other _ _ _ _ (by simp), hB.2]
    rfl
  · rw [World.frozen?_setCell, World.frozen?_setCell]
    exact f0
  · rw [World.frozen?_setCell, World.frozen?_setCell]
    exact f1

theorem SqAns.back {n0 : Nat} {v v' : Value} {gs' : List (List Tr)} {w W w' : World} (hb : RowKit.Below w.heap.size w W) (h : SqAns n0 v gs' W v' w') : SqAns n0 v gs' w v' w' := ⟨h.1, (Off.of_below hb).trans h.2.1 (Or.inl rfl), h.2.2⟩
def gat (gs : List (List Tr)) (k : Nat) : List Tr := gs.getD k []
theorem gat_eq {gs : List (List Tr)} {k : Nat} (h : k < gs.length) : gs[k]? = some (gat gs k) := by
  unfold gat
  rw [List.getD_eq_getElem?_getD, List.getElem?_eq_getElem h]
  rfl

set_option maxHeartbeats 8000000 in
set_option maxRecDepth 100000 in
theorem Squash_any (n0 : Nat) (v : Value) (gs : List (List Tr)) (i t : Nat) (w : World) (h : ChainAt w n0 v gs) (hn : gs.length ≤ 900) (hit : i + 1 ≤ t) (ht : t < gs.length) :
    Calls Tryz.prog 11 #[.pointer (some ⟨n0, 0, none⟩), .int .i64 ((i : Int) + 1), .int .i64 t] w fun e w' => e = .returned .nilIface ∧ ∃ v', SqAns n0 v (gs.take (i + 1) ++ gs.drop t) w v' w' := by
  have HL := CLen_any n0 v gs w h (by omega)
  have hlt0 := h.lt
  have hgi : gs[i]? = some (gat gs i) := gat_eq (by omega)
  obtain ⟨bl, cap, a1, c1, a2, c2, rfl, _, hcap, d0, d1, q1, q2⟩ := h.step hgi (gat_eq (k := i + 1) (by omega))
  have hob : bl < w.heap.size := (h.own bl rfl).2
  have k1 := h.c1
  have hset : Hid (∀ k, k < gs.length → IsSet (gat gs k)) := fun k hk => h.set (gat_eq hk)
  have HC : Hid (ChainAt w n0 (.slice (some ⟨bl, 0, none⟩) (gs.length - 1) cap) gs) := h
  have hone : Hid (OneAt (w.alloc (.cells #[.slice a1 (lessL (gat gs (i + 1)) (gat gs i)).length c1, .slice a2 (lessL (gat gs i) (gat gs (i + 1))).length c2] 31)) w.heap.size (gat gs i) (gat gs (i + 1))) := OneAt.new q1 q2
  have hB0 : Hid (RowKit.Below w.heap.size w (w.alloc (.cells #[.slice a1 (lessL (gat gs (i + 1)) (gat gs i)).length c1, .slice a2 (lessL (gat gs i) (gat gs (i + 1))).length c2] 31))) := balloc _ _
  have HR := fun (W : World) (hW : ChainAt W n0 (.slice (some ⟨bl, 0, none⟩) (gs.length - 1) cap) gs) (p1 p2 : Option Addr) (e1 e2 : Nat) (h1 : SlT W p1 (lessL (gat gs t) (gat gs i))) (h2 : SlT W p2 (lessL (gat gs i) (gat gs t))) (ad : Addr) (x0 : W.cell? (ad.add 0) = _) (x1 : W.cell? (ad.add 1) = _) => chain_rep hW i t (gat gs i) (gat gs t) hit hn hgi (gat_eq ht) p1 p2 e1 e2 h1 h2 ad x0 x1
  have HS : Hid (∀ (W : World) (k : Nat), ChainAt W n0 (.slice (some ⟨bl, 0, none⟩) (gs.length - 1) cap) gs → k + 1 < gs.length → ∃ a1 c1 a2 c2, W.cell? ⟨bl, k * 2, none⟩ = some (.slice a1 (lessL (gat gs (k + 1)) (gat gs k)).length c1) ∧ W.cell? ⟨bl, k * 2 + 1, none⟩ = some (.slice a2 (lessL (gat gs k) (gat gs (k + 1))).length c2) ∧ SlT W a1 (lessL (gat gs (k + 1)) (gat gs k)) ∧ SlT W a2 (lessL (gat gs k) (gat gs (k + 1)))) := fun W k hW hk => by
    obtain ⟨bl', cap', a1, c1, a2, c2, e1, _, _, d0, d1, q1, q2⟩ := hW.step (gat_eq (k := k) (by omega)) (gat_eq hk)
    obtain ⟨e2, _, _⟩ := Value.slice.inj e1
    obtain ⟨rfl, _⟩ := Addr.mk.inj (Option.some.inj e2)
    exact ⟨a1, c1, a2, c2, d0, d1, q1, q2⟩
  have HN : Hid (i + 1 ≤ t ∧ t < gs.length ∧ gs.length ≤ 900) := ⟨hit, ht, hn⟩
  generalize gat gs = G at *
  have b0 : decide ((i : Int) + 1 < 1) = false := by simp; omega
  have b1 : decide (gs.length - 1 < t) = false := by simp; omega
  have b2 : decide ((t : Int) < (i : Int) + 1) = false := by simp; omega
  have z0 : (0 : Int) ≤ (i : Int) := by omega
  have z1 : (i : Int) < ((gs.length - 1 : Nat) : Int) := by omega
  have z2 : (i : Int) + 1 ≤ (t : Int) := by omega
  have z3 : (t : Int) ≤ (cap : Int) := by omega
  have z4 : (0 : Int) ≤ (i : Int) + 1 := by omega
  have z5 : i ≤ 1000 := by omega
  have z6 : t ≤ 1000 := by omega
  have hwi := wrapN i (by omega)
  have z7 : Hid (i + 1 ≤ t ∧ t ≤ cap) := ⟨hit, by omega⟩
  generalize hm : gs.length - 1 = m at *
  clear h hgi hm hn ht q1 q2
  by_cases hcase : i + 1 < t
  · have y1 : ¬ (cap : Int) = (i : Int) + 1 := by omega
    go_enter Tryz.func11, Tryz.ntmps11
    go_wp2_with fail
    refine HL.mono ?_
    rintro e w1 ⟨rfl, rfl⟩
    go_wp2_with fail
    generalize hd : t - (i + 1) = d at *
    have Hd : Hid (i + 1 + d = t) := by have := HN.out; show _ = _; omega
    have hd' : d ≤ 1000 := by omega
    clear hd
    go_loopw [42] (fun j wr => ∃ k : Nat, k ≤ d ∧ j = .int .i64 k ∧ Hid (OneAt wr w1.heap.size (G i) (G (i + 1 + k))) ∧ Hid (ChainAt wr n0 (.slice (some ⟨bl, 0, none⟩) m cap) gs) ∧ Hid (RowKit.Below w1.heap.size w1 wr)) (fun j wr => d - (intOf j).toNat)
    case atStart => exact ⟨0, Nat.zero_le _, rfl, hone, HC.out.below hB0.out, hB0⟩
    case round =>
      obtain ⟨k, hk, rfl, hO, hCr, hbr⟩ := hrel
      by_cases hkd : k < d
      · obtain ⟨p1, u1, p2, u2, ⟨y0, y1'⟩, f0, f1, s1, s2⟩ := hO.out
        obtain ⟨b1', e1, b2', e2, d0', d1', s3, s4⟩ := HS.out wr (i + 1 + k) hCr.out (by have := HN.out; have := Hd.out; omega)
        have d0 : wr.cell? ⟨bl, (i + 1) * 2 + k * 2, none⟩ = some (.slice b1' (lessL (G (i + 1 + k + 1)) (G (i + 1 + k))).length e1) := by rw [show (i + 1) * 2 + k * 2 = (i + 1 + k) * 2 by omega]; exact d0'
        have d1 : wr.cell? ⟨bl, (i + 1) * 2 + k * 2 + 1, none⟩ = some (.slice b2' (lessL (G (i + 1 + k)) (G (i + 1 + k + 1))).length e2) := by rw [show (i + 1) * 2 + k * 2 + 1 = (i + 1 + k) * 2 + 1 by omega]; exact d1'
        have HT := fun W h1 h2 h3 h4 => ThenGood_any p1 p2 b1' b2' u1 u2 e1 e2 (G i) (G (i + 1 + k)) (G (i + 1 + k + 1)) W h1 h2 h3 h4 (hset.out _ (by have := HN.out; omega)) (hset.out _ (by have := HN.out; have := Hd.out; omega)) (hset.out _ (by have := HN.out; have := Hd.out; omega))
        have HSl : Hid (SlT wr p1 _ ∧ SlT wr p2 _ ∧ SlT wr b1' _ ∧ SlT wr b2' _) := ⟨s1, s2, s3, s4⟩
        have hz1 : w1.heap.size < wr.heap.size := World.block_lt_of_cell? _ _ y0
        have hPut := fun (W : World) (hC : ChainAt W n0 (.slice (some ⟨bl, 0, none⟩) m cap) gs) (r1 r2 : Option Addr) (t1 t2 : Nat) (hB : BoxL W w1.heap.size (.slice p1 (lessL (G (i + 1 + k)) (G i)).length u1) (.slice p2 (lessL (G i) (G (i + 1 + k))).length u2)) g0 g1 (h1 : SlT W r1 _) (h2 : SlT W r2 _) => one_put (g := G i) (u := G (i + 1 + k + 1)) (q1 := t1) (q2 := t2) hC (show n0 ≠ w1.heap.size by omega) (show Value.ownBlock (.slice (some ⟨bl, 0, none⟩) m cap) ≠ some w1.heap.size from fun e => by have e' := Option.some.inj e; simp at e'; omega) ⟨p1, _, u1, rfl⟩ ⟨p2, _, u2, rfl⟩ hB g0 g1 h1 h2
        have HPut : Hid _ := hPut
        clear d0' d1' s1 s2 s3 s4 k1 hPut
        generalize lessL (G (i + 1 + k + 1)) (G i) = Z1 at *
        generalize lessL (G i) (G (i + 1 + k + 1)) = Z2 at *
        generalize lessL (G (i + 1 + k)) (G i) = X1 at *
        generalize lessL (G i) (G (i + 1 + k)) = X2 at *
        generalize lessL (G (i + 1 + k + 1)) (G (i + 1 + k)) = Y1 at *
        generalize lessL (G (i + 1 + k)) (G (i + 1 + k + 1)) = Y2 at *
        have i0' : (0 : Int) ≤ (k : Int) := by omega
        have i1 : (k : Int) < (d : Int) := by omega
        go_wp2_with fail
        refine (HT _ (HSl.out.1.below (balloc _ _)) (HSl.out.2.1.below (balloc _ _)) (HSl.out.2.2.1.below (balloc _ _)) (HSl.out.2.2.2.below (balloc _ _))).mono ?_
        rintro e w3 ⟨hb3, r1, t1, r2, t2, rfl, g1, g2⟩
        have hb3' : Hid (RowKit.Below wr.heap.size wr w3) := bstep (balloc _ _) hb3
        have x0 : w3.cell? ⟨w1.heap.size, 0, none⟩ = some (.slice p1 X1.length u1) := (hb3'.out.cell (p := ⟨w1.heap.size, 0, none⟩) hz1).trans y0
        have x1 : w3.cell? ⟨w1.heap.size, 1, none⟩ = some (.slice p2 X2.length u2) := (hb3'.out.cell (p := ⟨w1.heap.size, 1, none⟩) hz1).trans y1'
        have x2 : w3.frozen? ⟨w1.heap.size, 0, none⟩ = false := (hb3'.out.frozen (p := ⟨w1.heap.size, 0, none⟩) hz1).trans f0
        have x3 : w3.frozen? ⟨w1.heap.size, 1, none⟩ = false := (hb3'.out.frozen (p := ⟨w1.heap.size, 1, none⟩) hz1).trans f1
        have x4 : w1.heap.size < w3.heap.size := Nat.lt_of_lt_of_le hz1 hb3'.out.size
        have Hfin : Hid _ := HPut.out w3 (hCr.out.below hb3'.out) r1 r2 t1 t2 ⟨x0, x1⟩ x2 x3 g1 g2
        have Hbel : Hid (RowKit.Below w1.heap.size w1 w3) := bstep hbr.out hb3'.out
        clear g1 g2 hb3 d0 d1 y0 y1' f0 f1
        go_wp2_with fail
        go_roundw
        case rel => exact ⟨k + 1, by omega, by go_num, Hfin.out.2.below (balloc _ _), Hfin.out.1.below (balloc _ _), bstep (below_two Hbel.out (Nat.le_refl _) _ _) (balloc _ _)⟩
        case measure => simp [intOf]; omega
      · obtain rfl : k = d := by omega
        have hO' := hO.out
        rw [Hd.out] at hO'
        obtain ⟨p1, u1, p2, u2, ⟨y0, y1'⟩, f0, f1, s1, s2⟩ := hO'
        have k9 := hCr.out.c1
        have hz9 : n0 < wr.heap.size := hCr.out.lt
        have HRx := HR (wr.alloc (.cells #[.slice p1 (lessL (G t) (G i)).length u1, .slice p2 (lessL (G i) (G t)).length u2] 31)).drew (hCr.out.below (balloc _ _).drew) p1 p2 u1 u2 (s1.below (balloc _ _).drew) (s2.below (balloc _ _).drew) ⟨wr.heap.size, 0, none⟩ (by rw [Addr.add_lit]; exact (BoxL.new wr _ _ _).1) (by rw [Addr.add_lit]; exact (BoxL.new wr _ _ _).2)
        have hbx : Hid (RowKit.Below w1.heap.size w1 (wr.alloc (.cells #[.slice p1 (lessL (G t) (G i)).length u1, .slice p2 (lessL (G i) (G t)).length u2] 31)).drew) := (bstep hbr.out (balloc _ _)).drew
        clear s1 s2 HR hO hCr k1 hone
        generalize lessL (G t) (G i) = Z1 at *
        generalize lessL (G i) (G t) = Z2 at *
        go_wp2_with fail
        go_region_law (first
          | (go_simp; go_at_call 30; refine HRx.mono ?_; rintro e w9 ⟨n, rfl, k8, f8, hsq⟩; have Hsq : Hid _ := hsq; clear hsq))
        all_goals go_wp2_with fail
        all_goals exact bodyPost_ret (v := .nilIface) (by simp [results, Tryz.results11, go_sem]) rfl ⟨rfl, _, SqAns.back hbx.out Hsq.out⟩
  · have het : t = i + 1 := by omega
    subst het
    by_cases hci : cap = i + 1
    · subst hci
      go_enter Tryz.func11, Tryz.ntmps11
      go_wp2_with fail
      refine HL.mono ?_
      rintro e w1 ⟨rfl, rfl⟩
      go_wp2_with fail
      obtain ⟨d, hd⟩ : ∃ d, d = 0 := ⟨0, rfl⟩
      have Hd : Hid (i + 1 + d = i + 1) := by have := HN.out; show _ = _; omega
      have Hd0 : Hid (d = 0) := hd
      clear hd
      go_loopw [42] (fun j wr => ∃ k : Nat, k ≤ d ∧ j = .int .i64 k ∧ Hid (OneAt wr w1.heap.size (G i) (G (i + 1 + k))) ∧ Hid (ChainAt wr n0 (.slice (some ⟨bl, 0, none⟩) m (i + 1)) gs) ∧ Hid (RowKit.Below w1.heap.size w1 wr)) (fun j wr => d - (intOf j).toNat)
      case atStart => exact ⟨0, Nat.zero_le _, rfl, hone, HC.out.below hB0.out, hB0⟩
      case round =>
        obtain ⟨k, hk, rfl, hO, hCr, hbr⟩ := hrel
        by_cases hkd : k < d
        · exact absurd Hd0.out (by omega)
        · obtain rfl : k = d := by omega
          have hO' := hO.out
          rw [Hd.out] at hO'
          obtain ⟨p1, u1, p2, u2, ⟨y0, y1'⟩, f0, f1, s1, s2⟩ := hO'
          have k9 := hCr.out.c1
          have hz9 : n0 < wr.heap.size := hCr.out.lt
          have HRx := HR (wr.alloc (.cells #[.slice p1 (lessL (G (i + 1)) (G i)).length u1, .slice p2 (lessL (G i) (G (i + 1))).length u2] 31)).drew (hCr.out.below (balloc _ _).drew) p1 p2 u1 u2 (s1.below (balloc _ _).drew) (s2.below (balloc _ _).drew) ⟨wr.heap.size, 0, none⟩ (by rw [Addr.add_lit]; exact (BoxL.new wr _ _ _).1) (by rw [Addr.add_lit]; exact (BoxL.new wr _ _ _).2)
          have hbx : Hid (RowKit.Below w1.heap.size w1 (wr.alloc (.cells #[.slice p1 (lessL (G (i + 1)) (G i)).length u1, .slice p2 (lessL (G i) (G (i + 1))).length u2] 31)).drew) := (bstep hbr.out (balloc _ _)).drew
          have Hk0 : k = 0 := Hd0.out
          subst Hk0
          clear s1 s2 HR hO hCr k1 hone
          generalize lessL (G (i + 1)) (G i) = Z1 at *
          generalize lessL (G i) (G (i + 1)) = Z2 at *
          go_wp2_with fail
          go_region_law (first
            | (go_simp; go_at_call 30; refine HRx.mono ?_; rintro e w9 ⟨n, rfl, k8, f8, hsq⟩; have Hsq : Hid _ := hsq; clear hsq))
          all_goals go_wp2_with fail
          all_goals exact bodyPost_ret (v := .nilIface) (by simp [results, Tryz.results11, go_sem]) rfl ⟨rfl, _, SqAns.back hbx.out Hsq.out⟩
    · have y1 : ¬ (cap : Int) = (i : Int) + 1 := by omega
      go_enter Tryz.func11, Tryz.ntmps11
      go_wp2_with fail
      refine HL.mono ?_
      rintro e w1 ⟨rfl, rfl⟩
      go_wp2_with fail
      obtain ⟨d, hd⟩ : ∃ d, d = 0 := ⟨0, rfl⟩
      have Hd : Hid (i + 1 + d = i + 1) := by have := HN.out; show _ = _; omega
      have Hd0 : Hid (d = 0) := hd
      clear hd
      go_loopw [42] (fun j wr => ∃ k : Nat, k ≤ d ∧ j = .int .i64 k ∧ Hid (OneAt wr w1.heap.size (G i) (G (i + 1 + k))) ∧ Hid (ChainAt wr n0 (.slice (some ⟨bl, 0, none⟩) m cap) gs) ∧ Hid (RowKit.Below w1.heap.size w1 wr)) (fun j wr => d - (intOf j).toNat)
      case atStart => exact ⟨0, Nat.zero_le _, rfl, hone, HC.out.below hB0.out, hB0⟩
      case round =>
        obtain ⟨k, hk, rfl, hO, hCr, hbr⟩ := hrel
        by_cases hkd : k < d
        · exact absurd Hd0.out (by omega)
        · obtain rfl : k = d := by omega
          have hO' := hO.out
          rw [Hd.out] at hO'
          obtain ⟨p1, u1, p2, u2, ⟨y0, y1'⟩, f0, f1, s1, s2⟩ := hO'
          have k9 := hCr.out.c1
          have hz9 : n0 < wr.heap.size := hCr.out.lt
          have HRx := HR (wr.alloc (.cells #[.slice p1 (lessL (G (i + 1)) (G i)).length u1, .slice p2 (lessL (G i) (G (i + 1))).length u2] 31)).drew (hCr.out.below (balloc _ _).drew) p1 p2 u1 u2 (s1.below (balloc _ _).drew) (s2.below (balloc _ _).drew) ⟨wr.heap.size, 0, none⟩ (by rw [Addr.add_lit]; exact (BoxL.new wr _ _ _).1) (by rw [Addr.add_lit]; exact (BoxL.new wr _ _ _).2)
          have hbx : Hid (RowKit.Below w1.heap.size w1 (wr.alloc (.cells #[.slice p1 (lessL (G (i + 1)) (G i)).length u1, .slice p2 (lessL (G i) (G (i + 1))).length u2] 31)).drew) := (bstep hbr.out (balloc _ _)).drew
          have Hk0 : k = 0 := Hd0.out
          subst Hk0
          clear s1 s2 HR hO hCr k1 hone
          generalize lessL (G (i + 1)) (G i) = Z1 at *
          generalize lessL (G i) (G (i + 1)) = Z2 at *
          go_wp2_with fail
          go_region_law (first
            | (go_simp; go_at_call 30; refine HRx.mono ?_; rintro e w9 ⟨n, rfl, k8, f8, hsq⟩; have Hsq : Hid _ := hsq; clear hsq))
          all_goals go_wp2_with fail
          all_goals exact bodyPost_ret (v := .nilIface) (by simp [results, Tryz.results11, go_sem]) rfl ⟨rfl, _, SqAns.back hbx.out Hsq.out⟩
end Go.Proofs.YtgdjeohcimkljadGreatDoor
