/- chain: Len, New, Graph. -/
import Derived.Test.YtgdjeohcimkljadGreatDoorChainOwn
namespace Go.Proofs.YtgdjeohcimkljadGreatDoor
open Go Go.RowKit Go.Proofs
set_option synthInstance.maxSize 1000
attribute [local go_sem] eql_errV neq_errV guard_errV

theorem ChainAt.form {w : World} {n0 : Nat} {v : Value} {gs : List (List Tr)} (h : ChainAt w n0 v gs) : ∃ ad cap, v = .slice ad (gs.length - 1) cap := by
  obtain ⟨s, r, bd, cb, xs, rfl, _, _, _, h, hl⟩ := h
  have e := hl.1.trans (stepsL_len _)
  rcases h with ⟨rfl, rfl⟩ | ⟨g, cap, rfl, _⟩
  · exact ⟨none, 0, by rw [← e]; rfl⟩
  · exact ⟨_, cap, by rw [← e]⟩
theorem ChainAt.pos {w : World} {n0 : Nat} {v : Value} {gs : List (List Tr)} (h : ChainAt w n0 v gs) : 0 < gs.length := by
  obtain ⟨s, r, bd, cb, xs, rfl, _⟩ := h
  simp
theorem ChainAt.c1 {w : World} {n0 : Nat} {v : Value} {gs : List (List Tr)} (h : ChainAt w n0 v gs) : w.cell? ⟨n0, 1, none⟩ = some v := by
  obtain ⟨s, r, bd, cb, xs, rfl, _, h, _⟩ := h
  exact (arr_cell h).2.1
theorem ChainAt.set {w : World} {n0 : Nat} {v : Value} {gs : List (List Tr)} (h : ChainAt w n0 v gs) {i : Nat} {g : List Tr} (hg : gs[i]? = some g) : IsSet g := by
  obtain ⟨s, r, bd, cb, xs, rfl, h, _⟩ := h
  exact h g (List.mem_of_getElem? hg)
/-- what lies behind a place of the list of layers -/
theorem ChainAt.step {w : World} {n0 : Nat} {v : Value} {gs : List (List Tr)} (h : ChainAt w n0 v gs) {i : Nat} {g u : List Tr} (hg : gs[i]? = some g) (hu : gs[i + 1]? = some u) :
    ∃ bl cap a1 c1 a2 c2, v = .slice (some ⟨bl, 0, none⟩) (gs.length - 1) cap ∧ i < gs.length - 1 ∧ gs.length - 1 ≤ cap ∧ w.cell? ⟨bl, i * 2, none⟩ = some (.slice a1 (lessL u g).length c1) ∧ w.cell? ⟨bl, i * 2 + 1, none⟩ = some (.slice a2 (lessL g u).length c2) ∧ SlT w a1 (lessL u g) ∧ SlT w a2 (lessL g u) := by
  obtain ⟨s, r, bd, cb, xs, rfl, _, _, _, h, hl⟩ := h
  have e := hl.1.trans (stepsL_len _)
  have hi := (List.getElem?_eq_some_iff.1 hu).1
  rcases h with ⟨rfl, rfl⟩ | ⟨bl, cap, rfl, _, _, h⟩
  · simp at e
    simp at hi
    omega
  · have hx : i < xs.length := by rw [e]; omega
    obtain ⟨a1, c1, a2, c2, e1, q1, q2⟩ := hl.2 i xs[i] (btw g u) (List.getElem?_eq_getElem hx) (stepsL_get hg hu)
    have p0 : (cellsL xs)[i * 2]? = some (xs[i]).1 := by rw [cellsL_at, show i * 2 / 2 = i by omega, List.getElem?_eq_getElem hx]; simp
    have p1 : (cellsL xs)[i * 2 + 1]? = some (xs[i]).2 := by rw [cellsL_at, show (i * 2 + 1) / 2 = i by omega, List.getElem?_eq_getElem hx]; simp
    have c0 := h.at_ _ _ p0
    have c1' := h.at_ _ _ p1
    rw [e1] at c0 c1'
    exact ⟨bl, cap, a1, c1, a2, c2, by rw [← e], by omega, by rw [← e]; exact h.le, c0, c1', q1, q2⟩

set_option maxHeartbeats 1000000 in
theorem CLen_any (n0 : Nat) (v : Value) (gs : List (List Tr)) (w : World) (h : ChainAt w n0 v gs) (hn : gs.length ≤ 1000) :
    Calls Tryz.prog 10 #[.pointer (some ⟨n0, 0, none⟩)] w fun e w' => e = .returned (.int .i64 ((gs.length - 1 : Nat) : Int)) ∧ w' = w := by
  have c1 := h.c1
  obtain ⟨ad, cap, rfl⟩ := h.form
  generalize hm : gs.length - 1 = m at *
  have hm' : m ≤ 1000 := by omega
  clear h hm hn
  go_enter Tryz.func10, Tryz.ntmps10
  go_wp2_with fail
  go_ret
  exact ⟨rfl, rfl⟩

/-- what New tells -/
def NewAns (s : List Tr) (w : World) (e : Ending) (w' : World) : Prop := RowKit.Below w.heap.size w w' ∧ (sortedN s = 0 → ∃ n0, e = .returned (.tuple #[.pointer (some ⟨n0, 0, none⟩), .nilIface]) ∧ w.heap.size ≤ n0 ∧ ChainAt w' n0 (.slice none 0 0) [s]) ∧ (sortedN s ≠ 0 → e = .returned (.tuple #[.pointer none, errV (sortedN s)]))
theorem chain_new {w : World} {s : List Tr} {bd : Option Addr} {cb : Nat} (hs : IsSet s) (h : SlT w bd s) : ChainAt (w.alloc (.cells #[.slice bd s.length cb, .slice none 0 0] 68)) w.heap.size (.slice none 0 0) [s] :=
  ⟨s, [], bd, cb, [], rfl, by simpa using hs, heap_alloc_new w _, h.below (balloc _ _), Or.inl ⟨rfl, rfl⟩, LaysV.nil _⟩

set_option maxHeartbeats 1000000 in
set_option maxRecDepth 100000 in
theorem CNew_any (ad : Option Addr) (ca : Nat) (s : List Tr) (w : World) (h : SlT w ad s) (fs : ∀ x ∈ s, fitTr x) (ns : s.length ≤ 9223372036854775807) :
    Calls Tryz.prog 5 #[.slice ad s.length ca] w (NewAns s w) := by
  have HS := fun W hW => Sorted_any ad ca s W hW fs ns
  have HO := fun W hW hs => own_any ad ca s W hW hs
  have hz : Hid (sortedN s = 0 → IsSet s) := fun h => sortedN_set.1 h
  have Hs : Hid (SlT w ad s) := h
  have out0 : Hid (¬ sortedN s = 0 → ∀ w', RowKit.Below w.heap.size w w' → NewAns s w (.returned (.tuple #[.pointer none, errV (sortedN s)])) w') := fun h0 w' hb => ⟨hb, fun h => absurd h h0, fun _ => rfl⟩
  have out1 : Hid (sortedN s = 0 → ∀ w' n0, RowKit.Below w.heap.size w w' → w.heap.size ≤ n0 → ChainAt w' n0 (.slice none 0 0) [s] → NewAns s w (.returned (.tuple #[.pointer (some ⟨n0, 0, none⟩), .nilIface])) w') := fun h0 w' n0 hb hn hc => ⟨hb, fun _ => ⟨n0, rfl, hn, hc⟩, fun h => absurd h0 h⟩
  generalize sortedN s = n at *
  clear h fs ns
  go_enter Tryz.func5, Tryz.ntmps5
  go_wp2_with fail
  refine (HS _ Hs.out).mono ?_
  rintro e w1 ⟨rfl, hb1⟩
  cases hn : (n == 0)
  · have h0 : ¬ n = 0 := by simpa using hn
    have H0 : Hid _ := out0.out h0
    clear h0 out0 out1
    go_wp2_with fail
    exact bodyPost_ret (v := .tuple #[.pointer none, errV n]) (by simp [results, Tryz.results5, go_sem]) rfl (H0.out _ hb1)
  · have h0 : n = 0 := by simpa using hn
    have hset : Hid (IsSet s) := hz.out h0
    have H1 : Hid _ := out1.out h0
    clear out1
    subst h0
    rw [show errV 0 = .nilIface from rfl]
    clear hn hz out0
    go_wp2_with fail
    refine (HO _ (Hs.out.below hb1) hset.out).mono ?_
    rintro e w2 ⟨ad', c', rfl, hsl, hb2⟩
    have hB : Hid (RowKit.Below w.heap.size w w2) := bstep hb1 hb2
    have Hsl : Hid (SlT w2 ad' s) := hsl
    clear hsl hb1 hb2
    go_wp2_with fail
    exact bodyPost_ret (v := .tuple #[.pointer (some ⟨w2.heap.size, 0, none⟩), .nilIface]) (by simp [results, Tryz.results5, go_sem]) rfl (H1.out _ w2.heap.size (bstep hB.out (balloc _ _)) hB.out.size (chain_new hset.out Hsl.out))

set_option maxHeartbeats 2000000 in
set_option maxRecDepth 100000 in
theorem GraphBad_any (n0 : Nat) (v : Value) (gs : List (List Tr)) (i : Int) (w : World) (h : ChainAt w n0 v gs) (hn : gs.length ≤ 1000) (hi : i < 0 ∨ ((gs.length - 1 : Nat) : Int) < i) :
    Calls Tryz.prog 9 #[.pointer (some ⟨n0, 0, none⟩), .int .i64 i] w fun e w' => e = .returned (.tuple #[.slice none 0 0, .iface 73 (.int .i64 1)]) ∧ w' = w := by
  have HL := CLen_any n0 v gs w h hn
  generalize hm : gs.length - 1 = m at *
  clear h hn hm
  by_cases h0 : i < 0
  · have b0 : decide (i < 0) = true := by simpa using h0
    clear hi
    go_enter Tryz.func9, Tryz.ntmps9
    go_wp2_with fail
    exact bodyPost_ret (v := .tuple #[.slice none 0 0, .iface 73 (.int .i64 1)]) (by simp [results, Tryz.results9, go_sem]) rfl ⟨rfl, rfl⟩
  · have b0 : decide (i < 0) = false := by simpa using h0
    have hi2 : (m : Int) < i := by rcases hi with h | h; exact absurd h h0; exact h
    have b1 : decide ((m : Int) < i) = true := by simpa using hi2
    clear hi
    go_enter Tryz.func9, Tryz.ntmps9
    go_wp2_with fail
    refine HL.mono ?_
    rintro e w1 ⟨rfl, rfl⟩
    go_wp2_with fail
    exact bodyPost_ret (v := .tuple #[.slice none 0 0, .iface 73 (.int .i64 1)]) (by simp [results, Tryz.results9, go_sem]) rfl ⟨rfl, rfl⟩

set_option maxHeartbeats 2000000 in
set_option maxRecDepth 100000 in
theorem GraphNil_any (n0 : Nat) (s : List Tr) (w : World) (h : ChainAt w n0 (.slice none 0 0) [s]) :
    Calls Tryz.prog 9 #[.pointer (some ⟨n0, 0, none⟩), .int .i64 0] w (TOk w s) := by
  have HL := CLen_any n0 _ _ w h (by simp)
  obtain ⟨s', r', bd, cb, xs, e0, hset, harr, hsl, _, _⟩ := h
  obtain ⟨rfl, rfl⟩ := List.cons.inj e0
  obtain ⟨c0, c1, _, _⟩ := arr_cell harr
  have n200 : s.length ≤ 200 := (hset s (by simp)).1
  have Hs : Hid (SlT w bd s) := hsl
  have hnil : Hid (w.ownsRow w.heap.size 72 9 (.slice none 0 0) ([] : List Tr).length (cellsT [])) := World.ownsRow_nil _ _ _ _
  clear e0 hset harr hsl
  go_enter Tryz.func9, Tryz.ntmps9
  go_wp2_with fail
  refine HL.mono ?_
  rintro e w1 ⟨rfl, rfl⟩
  go_wp2_with (at_builtin; refine wpList_append_list _ rfl _ _ rfl w1.heap.size _ [] s bd cb rfl rfl hnil.out Hs.out (by simp; omega) (Nat.le_refl _) ?_; clear hnil; intro v1 w2 hown1 hb1; have hown1' : w2.ownsRow w1.heap.size 72 9 v1 s.length (cellsT s) := hown1; clear hown1; obtain ⟨ad', c', rfl, hsl⟩ := own_slT hown1'; have Hsl : Hid (SlT w2 ad' s) := hsl; clear hsl hown1'; have c1' : w2.cell? ⟨n0, 1, none⟩ = some (.slice none 0 0) := (hb1.cell (World.block_lt_of_cell? _ _ c1)).trans c1)
  go_loopw [6, 32] (fun v i wr => v = .slice ad' s.length c' ∧ i = .int .i64 0 ∧ wr = w2) (fun _ i wr => 0)
  case atStart => exact ⟨rfl, rfl, rfl⟩
  case round =>
    obtain ⟨rfl, rfl, rfl⟩ := hrel
    go_wp2_with fail
    exact bodyPost_ret (v := .tuple #[.slice ad' s.length c', .nilIface]) (by simp [results, Tryz.results9, go_sem]) rfl ⟨hb1, ad', c', rfl, Hsl.out⟩

set_option maxHeartbeats 4000000 in
set_option maxRecDepth 100000 in
theorem GraphSome_any (n0 bl cap : Nat) (gs : List (List Tr)) (i : Nat) (g : List Tr) (w : World) (h : ChainAt w n0 (.slice (some ⟨bl, 0, none⟩) (gs.length - 1) cap) gs) (hn : gs.length ≤ 1000) (hi : gs[i]? = some g) :
    Calls Tryz.prog 9 #[.pointer (some ⟨n0, 0, none⟩), .int .i64 i] w (TOk w g) := by
  have HL := CLen_any n0 _ _ w h hn
  have HC : Hid (ChainAt w n0 (.slice (some ⟨bl, 0, none⟩) (gs.length - 1) cap) gs) := h
  have hlt : i < gs.length := (List.getElem?_eq_some_iff.1 hi).1
  obtain ⟨s, r, bd, cb, xs, e0, hset, harr, hsl, hsh, hly⟩ := h
  have hcap : gs.length - 1 ≤ cap := by
    have e := hly.1.trans (stepsL_len _)
    rcases hsh with ⟨h, _⟩ | ⟨_, _, h, _, _, h2⟩
    · simp at h
    · obtain ⟨_, _, rfl⟩ := Value.slice.inj h
      rw [← e]
      exact h2.le
  obtain ⟨c0, c1, _, _⟩ := arr_cell harr
  have hs0 : Hid (gs[0]? = some s) := by show _ = _; rw [e0]; rfl
  have n200 : s.length ≤ 200 := (hset s (by rw [e0]; simp)).1
  have Hs : Hid (SlT w bd s) := hsl
  have hnil : Hid (w.ownsRow w.heap.size 72 9 (.slice none 0 0) ([] : List Tr).length (cellsT [])) := World.ownsRow_nil _ _ _ _
  have Hi : Hid (gs[i]? = some g) := hi
  have b0 : decide ((i : Int) < 0) = false := by simp
  have him : i ≤ gs.length - 1 := by omega
  have b1 : decide (((gs.length - 1 : Nat) : Int) < (i : Int)) = false := by simp; omega
  have hic : (i : Int) ≤ (cap : Int) := by omega
  clear e0 hset harr hsl hsh hly hi
  generalize hm : gs.length - 1 = m at *
  have Hm : Hid (gs.length - 1 = m) := hm
  have hm' : m ≤ 1000 := by omega
  clear hm hn hlt
  go_enter Tryz.func9, Tryz.ntmps9
  go_wp2_with fail
  refine HL.mono ?_
  rintro e w1 ⟨rfl, rfl⟩
  go_wp2_with (at_builtin; refine wpList_append_list _ rfl _ _ rfl w1.heap.size _ [] s bd cb rfl rfl hnil.out Hs.out (by simp; omega) (Nat.le_refl _) ?_; clear hnil; intro v1 w2 hown1 hb1; have hown1' : w2.ownsRow w1.heap.size 72 9 v1 s.length (cellsT s) := hown1; clear hown1; obtain ⟨ad', c', rfl, hsl⟩ := own_slT hown1'; have Hsl : Hid (SlT w2 ad' s) := hsl; clear hsl hown1'; have c1' : w2.cell? ⟨n0, 1, none⟩ = some (.slice (some ⟨bl, 0, none⟩) m cap) := (hb1.cell (World.block_lt_of_cell? _ _ c1)).trans c1)
  go_loopw [6, 32] (fun v j wr => ∃ (k : Nat) (u : List Tr) (ad : Option Addr) (c : Nat), k ≤ i ∧ j = .int .i64 k ∧ v = .slice ad u.length c ∧ Hid (gs[k]? = some u) ∧ Hid (SlT wr ad u) ∧ Hid (RowKit.Below w1.heap.size w1 wr)) (fun _ j wr => i - (intOf j).toNat)
  case atStart => exact ⟨0, s, ad', c', Nat.zero_le _, rfl, rfl, hs0, Hsl, hb1⟩
  case round =>
    obtain ⟨k, u, ad, c, hk, rfl, rfl, hgk, hsu, hbr⟩ := hrel
    by_cases hki : k < i
    · have hk1 : k + 1 < gs.length := by have := Hm.out; omega
      have hu1 : gs[k + 1]? = some gs[k + 1] := List.getElem?_eq_getElem hk1
      have HCr := HC.out.below hbr.out
      have su := HCr.set hgk.out
      have su1 := HCr.set hu1
      obtain ⟨bl', cap', a1, c1, a2, c2, e1, e5, e6, d0, d1, q1, q2⟩ := HCr.step hgk.out hu1
      clear e5 e6
      obtain ⟨e2, e3, e4⟩ := Value.slice.inj e1
      obtain ⟨rfl, _⟩ := Addr.mk.inj (Option.some.inj e2)
      have HA := fun W h1 h2 h4 => ApplyGood_any ad a1 a2 c c1 c2 u (gs[k + 1]'hk1) W h1 h2 h4 su su1
      have Hq : Hid (SlT wr a1 (lessL gs[k + 1] u) ∧ SlT wr a2 (lessL u gs[k + 1])) := ⟨q1, q2⟩
      have hg1 : Hid (gs[k + 1]? = some gs[k + 1]) := hu1
      clear e1 e2 e3 e4 q1 q2 su su1 HCr hu1
      generalize gs[k + 1] = u1 at *
      generalize lessL u1 u = L1 at *
      generalize lessL u u1 = L2 at *
      have i0' : (0 : Int) ≤ (k : Int) := by omega
      have i1 : (k : Int) < (i : Int) := by omega
      clear c1'
      go_wp2_with fail
      refine (HA _ (hsu.out.below (balloc _ _)) (Hq.out.1.below (balloc _ _)) (Hq.out.2.below (balloc _ _))).mono ?_
      rintro e w3 ⟨hb3, a3, c3, rfl, hs3⟩
      have Hs3 : Hid (SlT w3 a3 u1) := hs3
      have hB3 : Hid (RowKit.Below w1.heap.size w1 w3) := bstep (bstep hbr.out (balloc _ _)) hb3
      clear hs3 hb3
      go_wp2_with fail
      go_roundw
      case rel => exact ⟨k + 1, u1, a3, c3, by omega, by go_num, rfl, hg1, Hs3, hB3⟩
      case measure => simp [intOf]; omega
    · obtain rfl : k = i := by omega
      have e := hgk.out.symm.trans Hi.out
      obtain rfl := Option.some.inj e
      clear e
      go_wp2_with fail
      exact bodyPost_ret (v := .tuple #[.slice ad u.length c, .nilIface]) (by simp [results, Tryz.results9, go_sem]) rfl ⟨hbr.out, ad, c, rfl, hsu.out⟩

/-- Graph behind i layers -/
theorem Graph_any (n0 : Nat) (v : Value) (gs : List (List Tr)) (i : Nat) (g : List Tr) (w : World) (h : ChainAt w n0 v gs) (hn : gs.length ≤ 1000) (hi : gs[i]? = some g) :
    Calls Tryz.prog 9 #[.pointer (some ⟨n0, 0, none⟩), .int .i64 i] w (TOk w g) := by
  have h' := h
  obtain ⟨s, r, bd, cb, xs, rfl, _, _, _, hsh, hly⟩ := h'
  have e := hly.1.trans (stepsL_len _)
  rcases hsh with ⟨rfl, rfl⟩ | ⟨bl, cap, rfl, _⟩
  · have hr : r = [] := by simp at e; exact List.eq_nil_of_length_eq_zero e.symm
    subst hr
    have hi' := (List.getElem?_eq_some_iff.1 hi).1
    simp at hi'
    subst hi'
    simp at hi
    subst hi
    exact GraphNil_any n0 _ w h
  · rw [e] at h
    exact GraphSome_any n0 bl cap _ i g w h hn hi
end Go.Proofs.YtgdjeohcimkljadGreatDoor
