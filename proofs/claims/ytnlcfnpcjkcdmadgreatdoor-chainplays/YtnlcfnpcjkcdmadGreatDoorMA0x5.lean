import Derived.Test.YtnlcfnpcjkcdmadGreatDoorMA0x4

/- slices.Replace and slices.Delete over a row of layers. -/
namespace Go.Proofs.YtnlcfnpcjkcdmadGreatDoor
open Go Go.RowKit Go.Proofs
set_option synthInstance.maxSize 1000

/-- what Replace leaves -/
def RepAns (g cap : Nat) (ys : List Vp) (w : World) (e : Ending) (w' : World) : Prop := e = .returned (.slice (some ⟨g, 0, none⟩) ys.length cap) ∧ w.grownBy w' (some g) ∧ RowsOn w w' ∧ Sheet w' g cap ys
theorem grown_trans {a b c : World} {row : Option Nat} (h : a.grownBy b row) (k : b.grownBy c row) : a.grownBy c row :=
  ⟨k.os.trans h.os, k.tape.trans h.tape, k.output.trans h.output, Nat.le_trans h.size k.size, fun i hi hr => (k.block i (Nat.lt_of_lt_of_le hi h.size) hr).trans (h.block i hi hr)⟩
theorem grown_drew {a b : World} {row : Option Nat} (h : a.grownBy b row) : a.grownBy b.drew row := ⟨h.os, h.tape, h.output, h.size, h.block⟩

theorem run_putL (W : World) (g cap i : Nat) (xs : List Vp) (h : Sheet W g cap xs) (x : Vp) (hx1 : slB x.1 = true) (hx2 : slB x.2 = true) (ad : Addr) (c : Nat) (hx : ∀ (k : Nat) u, ([x.1, x.2] : List Value)[k]? = some u → W.cell? (ad.add k) = some u) (hi : i + 1 ≤ cap) (ty : TypeId) :
    (Builtin.append_ #[40, 40] ty #[.slice (some ⟨g, 0, none⟩) i cap, .slice (some ad) 1 c]).run Tryz.prog W = .ok (.slice (some ⟨g, 0, none⟩) (i + 1) cap) (W.setCells g (i * 2) [x.1, x.2]) := by
  obtain ⟨i0, hi0, hz⟩ := Option.map_eq_some_iff.1 infoLy
  simp only [Prod.mk.injEq] at hz
  obtain ⟨hz0, hz1, hz2⟩ := hz
  have := run_append_room_cells (P := Tryz.prog) W 40 ty 31 i0 Tryz.underlying40 hi0 g 0 i cap ad 1 c [x.1, x.2] (by rw [hz1]; rfl) hx (fun u hu => by simp at hu; rcases hu with rfl | rfl; exact sl_one hx1; exact sl_one hx2) hi
    (fun j hj => by rw [hz1]; simp at hj; obtain ⟨a', n', c', e'⟩ := h.sl (0 + i * 2 + j) (by omega); rw [e']; rfl) (fun j hj => by rw [hz1]; simp at hj; exact h.free _ (by omega))
  rw [hz1, Nat.zero_add] at this
  exact this
theorem sizeLy : (Tryz.prog.info? 31).map (·.size) = some 2 := by
  obtain ⟨i0, hi0, hz⟩ := Option.map_eq_some_iff.1 infoLy
  simp only [Prod.mk.injEq] at hz
  rw [hi0]
  simp [hz.2.1]
theorem zeroLy (w : World) : (zeroValue 31).run Tryz.prog w = .ok (.agg #[.slice none 0 0, .slice none 0 0]) w := by
  obtain ⟨i0, hi0, hz⟩ := Option.map_eq_some_iff.1 infoLy
  simp only [Prod.mk.injEq] at hz
  simp [zeroValue, typeInfo, hi0, hz.1]
theorem run_clearL (W : World) (g cap p n : Nat) (xs : List Vp) (h : Sheet W g cap xs) (hp : p + n ≤ cap) (c : Nat) (ty : TypeId) :
    (Builtin.clear_ #[40] ty #[.slice (some ⟨g, p * 2, none⟩) n c]).run Tryz.prog W = .ok (.tuple #[]) (W.setCells g (p * 2) (List.replicate (n * 2) (.slice none 0 0))) :=
  run_clear2 40 ty 31 Tryz.underlying40 zeroLy g (p * 2) n c (fun j hj => by obtain ⟨a', n', c', e'⟩ := h.sl (p * 2 + j) (by omega); rw [e']; rfl) (fun j hj => h.free _ (by omega))
theorem run_clear0 (W : World) (ad : Option Addr) (c : Nat) (ty : TypeId) : (Builtin.clear_ #[40] ty #[.slice ad 0 c]).run Tryz.prog W = .ok (.tuple #[]) W := by
  cases ad <;> simp [Builtin.clear_, run_underlying Tryz.underlying40]
theorem Sheet.clear {W : World} {g cap : Nat} {xs : List Vp} (h : Sheet W g cap xs) (p n : Nat) (hp : p + n ≤ cap) (hx : xs.length ≤ p) : Sheet (W.setCells g (p * 2) (List.replicate (n * 2) (.slice none 0 0))) g cap xs :=
  h.write _ _ (fun u hu => by rw [List.eq_of_mem_replicate hu]; rfl) (by simp; omega) xs h.le (fun j u hu => by
    have hj := (List.getElem?_eq_some_iff.1 hu).1
    rw [cellsL_len] at hj
    rw [if_neg (by omega)]
    exact hu)
theorem Sheet.shut {W : World} {g cap : Nat} {xs : List Vp} (h : Sheet W g cap xs) (k : Nat) : Sheet W g cap (xs.take k) :=
  ⟨by have := h.le; simp; omega, h.max, h.free, h.sl, fun j u hu => h.at_ j u (by
    have hj := (List.getElem?_eq_some_iff.1 hu).1
    rw [cellsL_len] at hj
    simp at hj
    rw [cellsL_at] at hu ⊢
    rwa [List.getElem?_take_of_lt (by omega)] at hu)⟩
/-- one put in at a place -/
theorem Sheet.putOne {W : World} {g cap : Nat} {xs : List Vp} (h : Sheet W g cap xs) (i : Nat) (x : Vp) (hx1 : slB x.1 = true) (hx2 : slB x.2 = true) (hi : i < xs.length) : Sheet (W.setCells g (i * 2) [x.1, x.2]) g cap (xs.set i x) :=
  h.write _ _ (fun u hu => by simp at hu; rcases hu with rfl | rfl <;> assumption) (by have := h.le; simp; omega) _ (by have := h.le; simp; omega) (fun j u hu => by
    have hj := (List.getElem?_eq_some_iff.1 hu).1
    rw [cellsL_len] at hj
    simp at hj
    rw [cellsL_at, List.getElem?_set] at hu
    by_cases c : i = j / 2
    · rw [if_pos c, if_pos (by omega)] at hu
      rw [if_pos ⟨by omega, by simp; omega⟩]
      rcases (by omega : j - i * 2 = 0 ∨ j - i * 2 = 1) with e | e
      · rw [e]; simp at hu ⊢; rw [if_pos (by omega)] at hu; exact hu
      · rw [e]; simp at hu ⊢; rw [if_neg (by omega)] at hu; exact hu
    · rw [if_neg c] at hu
      rw [if_neg (by simp; omega), cellsL_at]
      exact hu)

set_option maxHeartbeats 4000000 in
set_option maxRecDepth 100000 in
theorem ReplaceEnd_any (g cap i : Nat) (xs : List Vp) (x : Vp) (ad : Addr) (w : World) (h : Sheet w g cap xs) (hi : i < xs.length) (hn : xs.length ≤ 1000) (hx1 : slB x.1 = true) (hx2 : slB x.2 = true) (hx : ∀ (k : Nat) u, ([x.1, x.2] : List Value)[k]? = some u → w.cell? (ad.add k) = some u) :
    Calls Tryz.prog 43 #[.slice (some ⟨g, 0, none⟩) xs.length cap, .int .i64 i, .int .i64 xs.length, .slice (some ad) 1 1] w (RepAns g cap (xs.take i ++ [x]) w) := by
  have hle := h.le
  have hmx := h.max
  have r1 := fun ty => run_putL w g cap i xs h x hx1 hx2 ad 1 hx (by omega) ty
  have s1 := h.putOne i x hx1 hx2 hi
  have e1 : (xs.set i x).take (i + 1) = xs.take i ++ [x] := by
    apply List.ext_getElem?
    intro k
    rw [List.getElem?_take, List.getElem?_append, List.getElem?_set, List.length_take, Nat.min_eq_left (by omega)]
    by_cases c1 : k < i
    · rw [if_pos (by omega), if_neg (by omega), if_pos c1, List.getElem?_take_of_lt c1]
    · by_cases c2 : k = i
      · subst c2; simp [hi]
      · rw [if_neg (by omega), if_neg c1, List.getElem?_eq_none (by simp; omega)]
  have s2 := s1.shut (i + 1)
  rw [e1] at s2
  have el : (xs.take i ++ [x]).length = i + 1 := by simp; omega
  have r2 := fun ty c => run_clearL _ g cap (i + 1) (xs.length - (i + 1)) _ s2 (by omega) c ty
  have s3 := s2.clear (i + 1) (xs.length - (i + 1)) (by omega) (by rw [el]; exact Nat.le_refl _)
  have hrow1 : RowsOn w (w.setCells g (i * 2) [x.1, x.2]) := fun a l hl => h.puts _ _ (by simp; omega) hl
  have hrow2 : RowsOn (w.setCells g (i * 2) [x.1, x.2]) _ := fun a l hl => s2.puts ((i + 1) * 2) (List.replicate ((xs.length - (i + 1)) * 2) (.slice none 0 0)) (by simp; omega) hl
  have g1 := grown_setCells w g (i * 2) [x.1, x.2]
  have g2 := grown_setCells (w.setCells g (i * 2) [x.1, x.2]) g ((i + 1) * 2) (List.replicate ((xs.length - (i + 1)) * 2) (.slice none 0 0))
  have A1 : Hid (RepAns g cap (xs.take i ++ [x]) w (.returned (.slice (some ⟨g, 0, none⟩) (i + 1) cap)) (w.setCells g (i * 2) [x.1, x.2])) := ⟨by rw [el], g1, hrow1, s2⟩
  have A2 : Hid (RepAns g cap (xs.take i ++ [x]) w (.returned (.slice (some ⟨g, 0, none⟩) (i + 1) cap)) ((w.setCells g (i * 2) [x.1, x.2]).setCells g ((i + 1) * 2) (List.replicate ((xs.length - (i + 1)) * 2) (.slice none 0 0)))) := ⟨by rw [el], grown_trans g1 g2, hrow1.trans hrow2, s3⟩
  generalize RepAns g cap (xs.take i ++ [x]) w = Q at *
  generalize hm : xs.length = m at *
  clear s1 s2 s3 e1 el hrow1 hrow2 g1 g2 h hx hm hmx
  have R1 : Hid _ := r1
  generalize hW1 : w.setCells g (i * 2) [x.1, x.2] = W1 at *
  clear hW1 r1
  have b1 : decide ((i : Int) = (m : Int)) = false := by simp; omega
  have hic : (i : Int) ≤ (cap : Int) := by omega
  have him : (i : Int) ≤ (m : Int) := by omega
  have hmc : (m : Int) ≤ (cap : Int) := by omega
  by_cases hend : i + 1 < m
  · have b2 : decide ((i : Int) + 1 < (m : Int)) = true := by simp; omega
    go_enter Tryz.func43, Tryz.ntmps43
    go_wp2_with (at_builtin; refine wpList_append_eq rfl _ _ 40 rfl rfl rfl (R1.out _) ?_)
    exact A2.out
  · have b2 : decide ((i : Int) + 1 < (m : Int)) = false := by simp; omega
    clear r2 A2
    go_enter Tryz.func43, Tryz.ntmps43
    go_wp2_with (at_builtin; refine wpList_append_eq rfl _ _ 40 rfl rfl rfl (R1.out _) ?_)
    exact A1.out

theorem run_copyOne (W : World) (g cap i : Nat) (xs : List Vp) (h : Sheet W g cap xs) (x : Vp) (hx1 : slB x.1 = true) (hx2 : slB x.2 = true) (ad : Addr) (c : Nat) (hx : ∀ (k : Nat) u, ([x.1, x.2] : List Value)[k]? = some u → W.cell? (ad.add k) = some u) (hi : i + 1 ≤ cap) (dLen dCap : Nat) (hd : 1 ≤ dLen) (ty : TypeId) :
    (Builtin.copy_ #[40, 40] ty #[.slice (some ⟨g, i * 2, none⟩) dLen dCap, .slice (some ad) 1 c]).run Tryz.prog W = .ok (goInt (Nat.min 1 dLen)) (W.setCells g (i * 2) [x.1, x.2]) :=
  run_copy2 40 40 ty 31 g (i * 2) dLen dCap ad 1 c [x.1, x.2] Tryz.underlying40 sizeLy (by rw [show Nat.min 1 dLen = 1 from Nat.min_eq_left hd]; rfl) hx (fun j hj => by simp at hj; obtain ⟨a', n', c', e'⟩ := h.sl (i * 2 + j) (by omega); rw [e']; rfl) (fun j hj => by simp at hj; exact h.free _ (by omega)) (fun u hu => by simp at hu; rcases hu with rfl | rfl; exact sl_one hx1; exact sl_one hx2)
theorem run_copyTail (W : World) (g cap p j k : Nat) (xs : List Vp) (h : Sheet W g cap xs) (hk : xs.length = j + k) (hp : p ≤ j) (dCap sCap : Nat) (ty : TypeId) :
    (Builtin.copy_ #[40, 40] ty #[.slice (some ⟨g, p * 2, none⟩) k dCap, .slice (some ⟨g, j * 2, none⟩) k sCap]).run Tryz.prog W = .ok (goInt (Nat.min k k)) (W.setCells g (p * 2) (cellsL (xs.drop j))) := by
  have hl : (cellsL (xs.drop j)).length = k * 2 := by rw [cellsL_len]; simp; omega
  have hle := h.le
  refine run_copy2 40 40 ty 31 g (p * 2) k dCap ⟨g, j * 2, none⟩ k sCap (cellsL (xs.drop j)) Tryz.underlying40 sizeLy (by rw [hl, show Nat.min k k = k from Nat.min_self k]) (fun q u hu => ?_) (fun q hq => ?_) (fun q hq => ?_) (fun u hu => ?_)
  · rw [Addr.add_lit]
    refine h.at_ _ _ ?_
    rw [cellsL_at] at hu ⊢
    rw [List.getElem?_drop] at hu
    rw [show (j * 2 + q) / 2 = j + q / 2 by omega, show (j * 2 + q) % 2 = q % 2 by omega]
    exact hu
  · rw [hl] at hq
    obtain ⟨a', n', c', e'⟩ := h.sl (p * 2 + q) (by omega)
    rw [e']
    rfl
  · rw [hl] at hq
    exact h.free _ (by omega)
  · obtain ⟨q, hq⟩ := List.getElem?_of_mem hu
    refine sl_one (cellsL_sl h (j * 2 + q) u ?_)
    rw [cellsL_at] at hq ⊢
    rw [List.getElem?_drop] at hq
    rw [show (j * 2 + q) / 2 = j + q / 2 by omega, show (j * 2 + q) % 2 = q % 2 by omega]
    exact hq
/-- what follows j moved to follow i -/
theorem Sheet.tail {W : World} {g cap : Nat} {xs : List Vp} (h : Sheet W g cap xs) (p j k : Nat) (hk : xs.length = j + k) (hp : p ≤ j) : Sheet (W.setCells g (p * 2) (cellsL (xs.drop j))) g cap (xs.take p ++ xs.drop j) := by
  have hl : (cellsL (xs.drop j)).length = k * 2 := by rw [cellsL_len]; simp; omega
  have hle := h.le
  refine h.write _ _ (fun u hu => ?_) (by rw [hl]; omega) _ (by simp; omega) (fun q u hu => ?_)
  · obtain ⟨q, hq⟩ := List.getElem?_of_mem hu
    refine cellsL_sl h (j * 2 + q) u ?_
    rw [cellsL_at] at hq ⊢
    rw [List.getElem?_drop] at hq
    rw [show (j * 2 + q) / 2 = j + q / 2 by omega, show (j * 2 + q) % 2 = q % 2 by omega]
    exact hq
  · rw [hl]
    rw [cellsL_app, List.getElem?_append, cellsL_len, List.length_take, Nat.min_eq_left (by omega)] at hu
    split at hu
    · rename_i c
      rw [if_neg (by omega)]
      rw [cellsL_at] at hu ⊢
      rwa [List.getElem?_take_of_lt (by omega)] at hu
    · rename_i c
      have hq := (List.getElem?_eq_some_iff.1 hu).1
      rw [hl] at hq
      rw [if_pos ⟨by omega, by omega⟩]
      exact hu
theorem Sheet.drewS {W : World} {g cap : Nat} {xs : List Vp} (h : Sheet W g cap xs) : Sheet W.drew g cap xs := ⟨h.le, h.max, h.free, h.sl, h.at_⟩
theorem rows_drew (W : World) : RowsOn W W.drew := RowsOn.of_below (RowKit.Below.refl _ _).drew

set_option maxHeartbeats 8000000 in
set_option maxRecDepth 100000 in
theorem ReplaceMid_any (g cap i j k : Nat) (xs : List Vp) (x : Vp) (ad : Addr) (w : World) (h : Sheet w g cap xs) (hij : i < j) (hk : xs.length = j + k) (hk0 : 0 < k) (hn : xs.length ≤ 1000) (hx1 : slB x.1 = true) (hx2 : slB x.2 = true) (hx : ∀ (k : Nat) u, ([x.1, x.2] : List Value)[k]? = some u → w.cell? (ad.add k) = some u) :
    Calls Tryz.prog 43 #[.slice (some ⟨g, 0, none⟩) xs.length cap, .int .i64 i, .int .i64 j, .slice (some ad) 1 1] w (RepAns g cap (xs.take i ++ x :: xs.drop j) w) := by
  have hle := h.le
  have hmx := h.max
  have r1 := fun d c hd ty => run_copyOne w.drew g cap i xs h.drewS x hx1 hx2 ad 1 hx (by omega) d c hd ty
  have s1 := (h.drewS.putOne i x hx1 hx2 (by omega)).drewS
  have hk' : (xs.set i x).length = j + k := by rw [List.length_set]; exact hk
  have r2 := fun c c' ty => run_copyTail _ g cap (i + 1) j k _ s1 hk' (by omega) c c' ty
  have s2 := s1.tail (i + 1) j k hk' (by omega)
  have e1 : (xs.set i x).take (i + 1) ++ (xs.set i x).drop j = xs.take i ++ x :: xs.drop j := by
    have e2 : (xs.set i x).drop j = xs.drop j := by rw [List.drop_set]; rw [if_pos (by omega)]
    have e3 : (xs.set i x).take (i + 1) = xs.take i ++ [x] := by
      apply List.ext_getElem?
      intro q
      rw [List.getElem?_take, List.getElem?_append, List.getElem?_set, List.length_take, Nat.min_eq_left (by omega)]
      by_cases c1 : q < i
      · rw [if_pos (by omega), if_neg (by omega), if_pos c1, List.getElem?_take_of_lt c1]
      · by_cases c2 : q = i
        · subst c2; simp; omega
        · rw [if_neg (by omega), if_neg c1, List.getElem?_eq_none (by simp; omega)]
    rw [e2, e3]
    simp
  rw [e1] at s2
  have e4 : (xs.set i x).drop j = xs.drop j := by rw [List.drop_set]; rw [if_pos (by omega)]
  rw [e4] at s2 r2
  have el : (xs.take i ++ x :: xs.drop j).length = i + 1 + k := by simp; omega
  have r3 := fun c ty => run_clearL _ g cap (i + 1 + k) (xs.length - (i + 1 + k)) _ s2 (by omega) c ty
  have s3 := s2.clear (i + 1 + k) (xs.length - (i + 1 + k)) (by omega) (by rw [el]; exact Nat.le_refl _)
  have hl2 : (cellsL (xs.drop j)).length = k * 2 := by rw [cellsL_len]; simp; omega
  have w1 : RowsOn w (w.drew.setCells g (i * 2) [x.1, x.2]).drew := (rows_drew w).trans (RowsOn.trans (fun a l hl => h.drewS.puts (i * 2) [x.1, x.2] (by simp; omega) hl) (rows_drew _))
  have w2 : RowsOn (w.drew.setCells g (i * 2) [x.1, x.2]).drew _ := fun a l hl => s1.puts ((i + 1) * 2) (cellsL (xs.drop j)) (by rw [hl2]; omega) hl
  have w3 : RowsOn ((w.drew.setCells g (i * 2) [x.1, x.2]).drew.setCells g ((i + 1) * 2) (cellsL (xs.drop j))) _ := fun a l hl => s2.puts ((i + 1 + k) * 2) (List.replicate ((xs.length - (i + 1 + k)) * 2) (.slice none 0 0)) (by simp; omega) hl
  have g1 : w.grownBy (w.drew.setCells g (i * 2) [x.1, x.2]).drew (some g) := grown_drew (grown_trans (⟨rfl, rfl, rfl, Nat.le_refl _, fun _ _ _ => rfl⟩ : w.grownBy w.drew (some g)) (grown_setCells w.drew g (i * 2) [x.1, x.2]))
  have g2 := grown_trans g1 (grown_setCells _ g ((i + 1) * 2) (cellsL (xs.drop j)))
  have g3 := grown_trans g2 (grown_setCells _ g ((i + 1 + k) * 2) (List.replicate ((xs.length - (i + 1 + k)) * 2) (.slice none 0 0)))
  have A3 : Hid (RepAns g cap (xs.take i ++ x :: xs.drop j) w (.returned (.slice (some ⟨g, 0, none⟩) (i + 1 + k) cap)) _) := ⟨by rw [el], g3, (w1.trans w2).trans w3, s3⟩
  generalize RepAns g cap (xs.take i ++ x :: xs.drop j) w = Q at *
  clear s1 s2 s3 e1 e4 el w1 w2 w3 g1 g2 g3 h hmx hl2 hk'
  have R1 : Hid _ := r1
  generalize hW1 : w.drew.setCells g (i * 2) [x.1, x.2] = W1 at *
  have R2 : Hid _ := r2
  generalize hW2 : W1.drew.setCells g ((i + 1) * 2) (cellsL (xs.drop j)) = W2 at *
  have R3 : Hid _ := r3
  generalize hm : xs.length = m at *
  clear hW1 hW2 r1 r2 r3 hx hm
  subst hk
  have b1 : ((i : Int) == (j : Int)) = false := by simp; omega
  have b2 : ((j : Int) == (j : Int) + (k : Int)) = false := by simp; omega
  have b3 : decide ((cap : Int) < (i : Int) + 1 + (k : Int)) = false := by simp; omega
  have b4 : decide ((i : Int) + 1 ≤ (j : Int)) = true := by simp; omega
  have hic : (i : Int) ≤ (cap : Int) := by omega
  have him : (i : Int) ≤ (j : Int) := by omega
  have hjc : (j : Int) ≤ (cap : Int) := by omega
  have hmc : (j : Int) + (k : Int) ≤ (cap : Int) := by omega
  have htc : (i : Int) + 1 + (k : Int) ≤ (cap : Int) := by omega
  have x1 := fun ty => R1.out (i + 1 + k - i) (cap - i) (by omega) ty
  have x2 := R2.out
  by_cases hcap : cap = i + 1 + k
  · have hj : j = i + 1 := by omega
    subst hj
    have e0 : i + 1 + k - (i + 1 + k) = 0 := by omega
    rw [e0] at A3
    have A4 : Hid (Q (.returned (.slice (some ⟨g, 0, none⟩) (i + 1 + k) cap)) W2) := A3
    have x3 := fun (ad : Option Addr) (c : Nat) ty => run_clear0 W2 ad c ty
    subst hcap
    clear R1 R2 R3 A3 e0
    go_enter Tryz.func43, Tryz.ntmps43
    go_wp2_with fail
    go_region
    go_wp2_with fail
    go_region
    go_wp2_with fail
    exact A4.out
  · have x3 := fun c ty => R3.out c ty
    have hcap' : ¬ (cap : Int) = (i : Int) + 1 + (k : Int) := by omega
    clear R1 R2 R3
    go_enter Tryz.func43, Tryz.ntmps43
    go_wp2_with fail
    go_region
    go_wp2_with fail
    go_region
    go_wp2_with fail
    exact A3.out

theorem run_appendNone (W : World) (g cap i : Nat) (ad : Option Addr) (c : Nat) (had : ad ≠ none) (hi : i ≤ cap) (ty : TypeId) :
    (Builtin.append_ #[40, 40] ty #[.slice (some ⟨g, 0, none⟩) i cap, .slice ad 0 c]).run Tryz.prog W = .ok (.slice (some ⟨g, 0, none⟩) i cap) W := by
  obtain ⟨i0, hi0, hz⟩ := Option.map_eq_some_iff.1 infoLy
  cases ad with
  | none => exact absurd rfl had
  | some a =>
    have := run_append_room_cells (P := Tryz.prog) W 40 ty 31 i0 Tryz.underlying40 hi0 g 0 i cap a 0 c [] (by simp) (by simp) (by simp) (by omega) (by simp) (by simp)
    simpa [World.setCells] using this

set_option maxHeartbeats 4000000 in
set_option maxRecDepth 100000 in
theorem DeleteLast_any (g cap i : Nat) (xs : List Vp) (w : World) (h : Sheet w g cap xs) (hi : xs.length = i + 1) (hn : xs.length ≤ 1000) :
    Calls Tryz.prog 44 #[.slice (some ⟨g, 0, none⟩) xs.length cap, .int .i64 i, .int .i64 ((i : Int) + 1)] w (RepAns g cap xs.dropLast w) := by
  have hle := h.le
  have s1 : Sheet w.drew g cap xs.dropLast := by rw [List.dropLast_eq_take]; exact h.drewS.shut _
  have el : xs.dropLast.length = i := by simp; omega
  have r2 := fun c ty => run_clearL w.drew g cap i 1 _ s1 (by omega) c ty
  have s2 := s1.clear i 1 (by omega) (by omega)
  have g2 : w.grownBy _ (some g) := grown_trans (⟨rfl, rfl, rfl, Nat.le_refl _, fun _ _ _ => rfl⟩ : w.grownBy w.drew (some g)) (grown_setCells w.drew g (i * 2) (List.replicate (1 * 2) (.slice none 0 0)))
  have w2 : RowsOn w _ := (rows_drew w).trans (fun a l hl => s1.puts (i * 2) (List.replicate (1 * 2) (.slice none 0 0)) (by simp; omega) hl)
  have A2 : Hid (RepAns g cap xs.dropLast w (.returned (.slice (some ⟨g, 0, none⟩) i cap)) _) := ⟨by rw [el], g2, w2, s2⟩
  have R1 := fun (ad : Option Addr) (c : Nat) (had : ad ≠ none) ty => run_appendNone w.drew g cap i ad c had (by omega) ty
  have R1' : Hid _ := R1
  generalize RepAns g cap xs.dropLast w = Q at *
  generalize hm : xs.length = m at *
  clear hm s1 s2 g2 w2 el h R1
  subst hi
  have b1 : ((i : Int) == (i : Int) + 1) = false := by simp; omega
  have hic : (i : Int) ≤ (cap : Int) := by omega
  have hic' : (i : Int) + 1 ≤ (cap : Int) := by omega
  have q1 : (0 : Int) ≤ (i : Int) + 1 := by omega
  have q2 : (i : Int) ≤ (i : Int) + 1 := by omega
  by_cases hcap : cap = i + 1
  · subst hcap
    go_enter Tryz.func44, Tryz.ntmps44
    go_wp2_with fail
    go_region_law (refine step_append_eq rfl (.tmp 22) (.tmp 25) 40 rfl _ _ rfl rfl (R1'.out _ _ (by simp) _) ?_)
    go_wp2_with fail
    exact A2.out
  · have hcap' : ¬ (cap : Int) = (i : Int) + 1 := by omega
    go_enter Tryz.func44, Tryz.ntmps44
    go_wp2_with fail
    go_region_law (refine step_append_eq rfl (.tmp 22) (.tmp 25) 40 rfl _ _ rfl rfl (R1'.out _ _ (by simp) _) ?_)
    go_wp2_with fail
    exact A2.out
end Go.Proofs.YtnlcfnpcjkcdmadGreatDoor

/- chain.Squash: layers made one. -/
namespace Go.Proofs.YtnlcfnpcjkcdmadGreatDoor
open Go Go.RowKit Go.Proofs
set_option synthInstance.maxSize 1000
attribute [local go_sem] eql_errV neq_errV guard_errV

theorem Replace_any (g cap i j : Nat) (xs : List Vp) (x : Vp) (ad : Addr) (w : World) (h : Sheet w g cap xs) (hij : i < j) (hj : j ≤ xs.length) (hn : xs.length ≤ 1000) (hx1 : slB x.1 = true) (hx2 : slB x.2 = true) (hx : ∀ (k : Nat) u, ([x.1, x.2] : List Value)[k]? = some u → w.cell? (ad.add k) = some u) :
    Calls Tryz.prog 43 #[.slice (some ⟨g, 0, none⟩) xs.length cap, .int .i64 i, .int .i64 j, .slice (some ad) 1 1] w (RepAns g cap (xs.take i ++ x :: xs.drop j) w) := by
  by_cases hm : j = xs.length
  · subst hm
    rw [List.drop_length]
    exact ReplaceEnd_any g cap i xs x ad w h hij hn hx1 hx2 hx
  · exact ReplaceMid_any g cap i j (xs.length - j) xs x ad w h hij (by omega) (by omega) hn hx1 hx2 hx

/-- what Squash leaves -/
def SqAns (n0 : Nat) (v : Value) (gs' : List (List Tr)) (w : World) (v' : Value) (w' : World) : Prop := ChainAt w' n0 v' gs' ∧ Off n0 v w w' ∧ v'.ownBlock = v.ownBlock
theorem chain_rep {W : World} {n0 bl cap m : Nat} {gs : List (List Tr)} (h : ChainAt W n0 (.slice (some ⟨bl, 0, none⟩) m cap) gs) (i t : Nat) (g u : List Tr) (hit : i + 1 ≤ t) (hn : gs.length ≤ 900) (hg : gs[i]? = some g) (hu : gs[t]? = some u) (a1 a2 : Option Addr) (c1 c2 : Nat) (q1 : SlT W a1 (lessL u g)) (q2 : SlT W a2 (lessL g u)) (ad : Addr)
    (p0 : W.cell? (ad.add 0) = some (.slice a1 (lessL u g).length c1)) (p1 : W.cell? (ad.add 1) = some (.slice a2 (lessL g u).length c2)) :
    Calls Tryz.prog 43 #[.slice (some ⟨bl, 0, none⟩) m cap, .int .i64 i, .int .i64 t, .slice (some ad) 1 1] W fun e w9 => ∃ n, e = .returned (.slice (some ⟨bl, 0, none⟩) n cap) ∧ w9.cell? ⟨n0, 1, none⟩ = some (.slice (some ⟨bl, 0, none⟩) m cap) ∧ w9.frozen? ⟨n0, 1, none⟩ = false ∧ SqAns n0 (.slice (some ⟨bl, 0, none⟩) m cap) (gs.take (i + 1) ++ gs.drop t) W (.slice (some ⟨bl, 0, none⟩) n cap) (w9.setCell ⟨n0, 1, none⟩ (.slice (some ⟨bl, 0, none⟩) n cap)) := by
  have hown := h.own
  obtain ⟨s, r, bd, cb, xs, hgs, hset, harr, hsl, hsh, hly⟩ := h
  have hl := hly.1.trans (stepsL_len _)
  have ht : t < gs.length := (List.getElem?_eq_some_iff.1 hu).1
  rcases hsh with ⟨h1, _⟩ | ⟨g', cap', h1, h2, h3, hS⟩
  · simp at h1
  · obtain ⟨e1, e2, e3⟩ := Value.slice.inj h1
    obtain ⟨e4, _⟩ := Addr.mk.inj (Option.some.inj e1)
    subst e4 e2 e3
    refine (Replace_any bl cap i t xs (.slice a1 (lessL u g).length c1, .slice a2 (lessL g u).length c2) ad W hS (by omega) (by omega) (by omega) rfl rfl (fun k y hk => ?_)).mono ?_
    · have h2 : k < 2 := (List.getElem?_eq_some_iff.1 hk).1
      rcases (by omega : k = 0 ∨ k = 1) with rfl | rfl
      · simp at hk; subst hk; exact p0
      · simp at hk; subst hk; exact p1
    · rintro e w9 ⟨rfl, hgr, hrow, hS9⟩
      have hlt9 : bl < w9.heap.size := Nat.lt_of_lt_of_le h3 hgr.size
      obtain ⟨k1, k3, hC, hO⟩ := chain_squash (v' := .slice (some ⟨bl, 0, none⟩) (xs.take i ++ (Value.slice a1 (lessL u g).length c1, Value.slice a2 (lessL g u).length c2) :: xs.drop t).length cap) (f := i + 1) (t := t) hgs hset harr hsl ⟨_, _, _, rfl⟩ (fun e => by have := (hown n0 e).1; omega) rfl hly (by omega) hit (by simpa using hg) hu (x := (.slice a1 (lessL u g).length c1, .slice a2 (lessL g u).length c2)) ⟨a1, c1, a2, c2, rfl, q1, q2⟩ hgr hrow (Or.inr ⟨bl, cap, rfl, h2, hlt9, hS9⟩)
      exact ⟨_, rfl, k1, k3, hC, hO, rfl⟩

set_option maxHeartbeats 2000000 in
set_option maxRecDepth 100000 in
theorem SquashBad_any (n0 : Nat) (v : Value) (gs : List (List Tr)) (f t : Int) (w : World) (h : ChainAt w n0 v gs) (hn : gs.length ≤ 900) (hb : f < 1 ∨ ((gs.length - 1 : Nat) : Int) < t ∨ t < f) :
    Calls Tryz.prog 12 #[.pointer (some ⟨n0, 0, none⟩), .int .i64 f, .int .i64 t] w fun e w' => e = .returned (.iface 89 (.int .i64 1)) ∧ w' = w := by
  have HL := CLen_any n0 v gs w h (by omega)
  generalize hm : gs.length - 1 = m at *
  clear h hn hm
  by_cases h0 : f < 1
  · have b0 : decide (f < 1) = true := by simpa using h0
    clear hb
    go_enter Tryz.func12, Tryz.ntmps12
    go_wp2_with fail
    exact bodyPost_ret (v := .iface 89 (.int .i64 1)) (by simp [results, Tryz.results12, go_sem]) rfl ⟨rfl, rfl⟩
  · have b0 : decide (f < 1) = false := by simpa using h0
    by_cases h1 : (m : Int) < t
    · have b1 : decide ((m : Int) < t) = true := by simpa using h1
      clear hb
      go_enter Tryz.func12, Tryz.ntmps12
      go_wp2_with fail
      refine HL.mono ?_
      rintro e w1 ⟨rfl, rfl⟩
      go_wp2_with fail
      exact bodyPost_ret (v := .iface 89 (.int .i64 1)) (by simp [results, Tryz.results12, go_sem]) rfl ⟨rfl, rfl⟩
    · have b1 : decide ((m : Int) < t) = false := by simpa using h1
      have h2 : t < f := by rcases hb with h | h | h; exact absurd h h0; exact absurd h h1; exact h
      have b2 : decide (t < f) = true := by simpa using h2
      clear hb
      go_enter Tryz.func12, Tryz.ntmps12
      go_wp2_with fail
      refine HL.mono ?_
      rintro e w1 ⟨rfl, rfl⟩
      go_wp2_with fail
      exact bodyPost_ret (v := .iface 89 (.int .i64 1)) (by simp [results, Tryz.results12, go_sem]) rfl ⟨rfl, rfl⟩

/-- the one layer in its box -/
def OneAt (W : World) (b : Nat) (g u : List Tr) : Prop := ∃ p1 q1 p2 q2, BoxL W b (.slice p1 (lessL u g).length q1) (.slice p2 (lessL g u).length q2) ∧ W.frozen? ⟨b, 0, none⟩ = false ∧ W.frozen? ⟨b, 1, none⟩ = false ∧ SlT W p1 (lessL u g) ∧ SlT W p2 (lessL g u)
theorem OneAt.new {w : World} {g u : List Tr} {a1 a2 : Option Addr} {c1 c2 : Nat} (h1 : SlT w a1 (lessL u g)) (h2 : SlT w a2 (lessL g u)) : OneAt (w.alloc (.cells #[.slice a1 (lessL u g).length c1, .slice a2 (lessL g u).length c2] 31)) w.heap.size g u :=
  ⟨a1, c1, a2, c2, BoxL.new _ _ _ _, by go_simp, by go_simp, h1.below (balloc _ _), h2.below (balloc _ _)⟩
theorem OneAt.below {W W' : World} {b : Nat} {g u : List Tr} (h : OneAt W b g u) (hb : RowKit.Below W.heap.size W W') : OneAt W' b g u := by
  obtain ⟨p1, q1, p2, q2, hB, f0, f1, h1, h2⟩ := h
  have hlt := World.block_lt_of_cell? W _ hB.1
  exact ⟨p1, q1, p2, q2, hB.below hb, (hb.frozen (p := ⟨b, 0, none⟩) hlt).trans f0, (hb.frozen (p := ⟨b, 1, none⟩) hlt).trans f1, h1.below hb, h2.below hb⟩
/-- another one put into the box -/
theorem one_put {W : World} {b n0 : Nat} {v : Value} {gs : List (List Tr)} {g u : List Tr} {x y : Value} {p1 p2 : Option Addr} {q1 q2 : Nat} (hC : ChainAt W n0 v gs) (hn : n0 ≠ b) (hv : v.ownBlock ≠ some b) (hx : ∃ a n c, x = .slice a n c) (hy : ∃ a n c, y = .slice a n c) (hB : BoxL W b x y) (f0 : W.frozen? ⟨b, 0, none⟩ = false) (f1 : W.frozen? ⟨b, 1, none⟩ = false) (h1 : SlT W p1 (lessL u g)) (h2 : SlT W p2 (lessL g u)) :
    ChainAt ((W.setCell ⟨b, 0, none⟩ (.slice p1 (lessL u g).length q1)).setCell ⟨b, 1, none⟩ (.slice p2 (lessL g u).length q2)) n0 v gs ∧ OneAt ((W.setCell ⟨b, 0, none⟩ (.slice p1 (lessL u g).length q1)).setCell ⟨b, 1, none⟩ (.slice p2 (lessL g u).length q2)) b g u := by
  obtain ⟨xa, xn, xc, rfl⟩ := hx
  obtain ⟨ya, yn, yc, rfl⟩ := hy
  have hr : RowsOn W ((W.setCell ⟨b, 0, none⟩ (.slice p1 (lessL u g).length q1)).setCell ⟨b, 1, none⟩ (.slice p2 (lessL g u).length q2)) := fun a l hl => hl.put2 hB.1 hB.2 _ _
  refine ⟨hC.keep (by simp [World.setCell]) hr (fun k hk => ?_), p1, q1, p2, q2, ⟨?_, ?_⟩, ?_, ?_, hr _ _ h1, hr _ _ h2⟩
  · have hkb : k ≠ b := by
      rcases hk with rfl | hk
      · exact hn
      · intro e
        exact hv (by rw [hk, e])
    rw [Below.heap_setCell _ _ _ _ hkb, Below.heap_setCell _ _ _ _ hkb]
  · rw [World.cell?_setCell_other _ _ _ _ (by simp)]
    exact World.cell?_setCell_same' _ _ _ (by rw [hB.1]; rfl)
  · refine World.cell?_setCell_same' _ _ _ ?_
    rw [World.cell?_setCell_other _ _ _ _ (by simp), hB.2]
    rfl
  · rw [World.frozen?_setCell, World.frozen?_setCell]
    exact f0
  · rw [World.frozen?_setCell, World.frozen?_setCell]
    exact f1

theorem SqAns.back {n0 : Nat} {v v' : Value} {gs' : List (List Tr)} {w W w' : World} (hb : RowKit.Below w.heap.size w W) (h : SqAns n0 v gs' W v' w') : SqAns n0 v gs' w v' w' := ⟨h.1, (Off.of_below hb).trans h.2.1 (Or.inl rfl), h.2.2⟩
def gat (gs : List (List Tr)) (k : Nat) : List Tr := gs.getD k []
theorem gat_eq {gs : List (List Tr)} {k : Nat} (h : k < gs.length) : gs[k]? = some (gat gs k) := by
  unfold gat
  rw [List.getD_eq_getElem?_getD, List.getElem?_eq_getElem h]
  rfl

set_option maxHeartbeats 8000000 in
set_option maxRecDepth 100000 in
theorem Squash_any (n0 : Nat) (v : Value) (gs : List (List Tr)) (i t : Nat) (w : World) (h : ChainAt w n0 v gs) (hn : gs.length ≤ 900) (hit : i + 1 ≤ t) (ht : t < gs.length) :
    Calls Tryz.prog 12 #[.pointer (some ⟨n0, 0, none⟩), .int .i64 ((i : Int) + 1), .int .i64 t] w fun e w' => e = .returned .nilIface ∧ ∃ v', SqAns n0 v (gs.take (i + 1) ++ gs.drop t) w v' w' := by
  have HL := CLen_any n0 v gs w h (by omega)
  have hlt0 := h.lt
  have hgi : gs[i]? = some (gat gs i) := gat_eq (by omega)
  obtain ⟨bl, cap, a1, c1, a2, c2, rfl, _, hcap, d0, d1, q1, q2⟩ := h.step hgi (gat_eq (k := i + 1) (by omega))
  have hob : bl < w.heap.size := (h.own bl rfl).2
  have k1 := h.c1
  have hset : Hid (∀ k, k < gs.length → IsSet (gat gs k)) := fun k hk => h.set (gat_eq hk)
  have HC : Hid (ChainAt w n0 (.slice (some ⟨bl, 0, none⟩) (gs.length - 1) cap) gs) := h
  have hone : Hid (OneAt (w.alloc (.cells #[.slice a1 (lessL (gat gs (i + 1)) (gat gs i)).length c1, .slice a2 (lessL (gat gs i) (gat gs (i + 1))).length c2] 31)) w.heap.size (gat gs i) (gat gs (i + 1))) := OneAt.new q1 q2
  have hB0 : Hid (RowKit.Below w.heap.size w (w.alloc (.cells #[.slice a1 (lessL (gat gs (i + 1)) (gat gs i)).length c1, .slice a2 (lessL (gat gs i) (gat gs (i + 1))).length c2] 31))) := balloc _ _
  have HR := fun (W : World) (hW : ChainAt W n0 (.slice (some ⟨bl, 0, none⟩) (gs.length - 1) cap) gs) (p1 p2 : Option Addr) (e1 e2 : Nat) (h1 : SlT W p1 (lessL (gat gs t) (gat gs i))) (h2 : SlT W p2 (lessL (gat gs i) (gat gs t))) (ad : Addr) (x0 : W.cell? (ad.add 0) = _) (x1 : W.cell? (ad.add 1) = _) => chain_rep hW i t (gat gs i) (gat gs t) hit hn hgi (gat_eq ht) p1 p2 e1 e2 h1 h2 ad x0 x1
  have HS : Hid (∀ (W : World) (k : Nat), ChainAt W n0 (.slice (some ⟨bl, 0, none⟩) (gs.length - 1) cap) gs → k + 1 < gs.length → ∃ a1 c1 a2 c2, W.cell? ⟨bl, k * 2, none⟩ = some (.slice a1 (lessL (gat gs (k + 1)) (gat gs k)).length c1) ∧ W.cell? ⟨bl, k * 2 + 1, none⟩ = some (.slice a2 (lessL (gat gs k) (gat gs (k + 1))).length c2) ∧ SlT W a1 (lessL (gat gs (k + 1)) (gat gs k)) ∧ SlT W a2 (lessL (gat gs k) (gat gs (k + 1)))) := fun W k hW hk => by
    obtain ⟨bl', cap', a1, c1, a2, c2, e1, _, _, d0, d1, q1, q2⟩ := hW.step (gat_eq (k := k) (by omega)) (gat_eq hk)
    obtain ⟨e2, _, _⟩ := Value.slice.inj e1
    obtain ⟨rfl, _⟩ := Addr.mk.inj (Option.some.inj e2)
    exact ⟨a1, c1, a2, c2, d0, d1, q1, q2⟩
  have HN : Hid (i + 1 ≤ t ∧ t < gs.length ∧ gs.length ≤ 900) := ⟨hit, ht, hn⟩
  generalize gat gs = G at *
  have b0 : decide ((i : Int) + 1 < 1) = false := by simp; omega
  have b1 : decide (gs.length - 1 < t) = false := by simp; omega
  have b2 : decide ((t : Int) < (i : Int) + 1) = false := by simp; omega
  have z0 : (0 : Int) ≤ (i : Int) := by omega
  have z1 : (i : Int) < ((gs.length - 1 : Nat) : Int) := by omega
  have z2 : (i : Int) + 1 ≤ (t : Int) := by omega
  have z3 : (t : Int) ≤ (cap : Int) := by omega
  have z4 : (0 : Int) ≤ (i : Int) + 1 := by omega
  have z5 : i ≤ 1000 := by omega
  have z6 : t ≤ 1000 := by omega
  have hwi := wrapN i (by omega)
  have z7 : Hid (i + 1 ≤ t ∧ t ≤ cap) := ⟨hit, by omega⟩
  generalize hm : gs.length - 1 = m at *
  clear h hgi hm hn ht q1 q2
  by_cases hcase : i + 1 < t
  · have y1 : ¬ (cap : Int) = (i : Int) + 1 := by omega
    go_enter Tryz.func12, Tryz.ntmps12
    go_wp2_with fail
    refine HL.mono ?_
    rintro e w1 ⟨rfl, rfl⟩
    go_wp2_with fail
    generalize hd : t - (i + 1) = d at *
    have Hd : Hid (i + 1 + d = t) := by have := HN.out; show _ = _; omega
    have hd' : d ≤ 1000 := by omega
    clear hd
    go_loopw [42] (fun j wr => ∃ k : Nat, k ≤ d ∧ j = .int .i64 k ∧ Hid (OneAt wr w1.heap.size (G i) (G (i + 1 + k))) ∧ Hid (ChainAt wr n0 (.slice (some ⟨bl, 0, none⟩) m cap) gs) ∧ Hid (RowKit.Below w1.heap.size w1 wr)) (fun j wr => d - (intOf j).toNat)
    case atStart => exact ⟨0, Nat.zero_le _, rfl, hone, HC.out.below hB0.out, hB0⟩
    case round =>
      obtain ⟨k, hk, rfl, hO, hCr, hbr⟩ := hrel
      by_cases hkd : k < d
      · obtain ⟨p1, u1, p2, u2, ⟨y0, y1'⟩, f0, f1, s1, s2⟩ := hO.out
        obtain ⟨b1', e1, b2', e2, d0', d1', s3, s4⟩ := HS.out wr (i + 1 + k) hCr.out (by have := HN.out; have := Hd.out; omega)
        have d0 : wr.cell? ⟨bl, (i + 1) * 2 + k * 2, none⟩ = some (.slice b1' (lessL (G (i + 1 + k + 1)) (G (i + 1 + k))).length e1) := by rw [show (i + 1) * 2 + k * 2 = (i + 1 + k) * 2 by omega]; exact d0'
        have d1 : wr.cell? ⟨bl, (i + 1) * 2 + k * 2 + 1, none⟩ = some (.slice b2' (lessL (G (i + 1 + k)) (G (i + 1 + k + 1))).length e2) := by rw [show (i + 1) * 2 + k * 2 + 1 = (i + 1 + k) * 2 + 1 by omega]; exact d1'
        have HT := fun W h1 h2 h3 h4 => ThenGood_any p1 p2 b1' b2' u1 u2 e1 e2 (G i) (G (i + 1 + k)) (G (i + 1 + k + 1)) W h1 h2 h3 h4 (hset.out _ (by have := HN.out; omega)) (hset.out _ (by have := HN.out; have := Hd.out; omega)) (hset.out _ (by have := HN.out; have := Hd.out; omega))
        have HSl : Hid (SlT wr p1 _ ∧ SlT wr p2 _ ∧ SlT wr b1' _ ∧ SlT wr b2' _) := ⟨s1, s2, s3, s4⟩
        have hz1 : w1.heap.size < wr.heap.size := World.block_lt_of_cell? _ _ y0
        have hPut := fun (W : World) (hC : ChainAt W n0 (.slice (some ⟨bl, 0, none⟩) m cap) gs) (r1 r2 : Option Addr) (t1 t2 : Nat) (hB : BoxL W w1.heap.size (.slice p1 (lessL (G (i + 1 + k)) (G i)).length u1) (.slice p2 (lessL (G i) (G (i + 1 + k))).length u2)) g0 g1 (h1 : SlT W r1 _) (h2 : SlT W r2 _) => one_put (g := G i) (u := G (i + 1 + k + 1)) (q1 := t1) (q2 := t2) hC (show n0 ≠ w1.heap.size by omega) (show Value.ownBlock (.slice (some ⟨bl, 0, none⟩) m cap) ≠ some w1.heap.size from fun e => by have e' := Option.some.inj e; simp at e'; omega) ⟨p1, _, u1, rfl⟩ ⟨p2, _, u2, rfl⟩ hB g0 g1 h1 h2
        have HPut : Hid _ := hPut
        clear d0' d1' s1 s2 s3 s4 k1 hPut
        generalize lessL (G (i + 1 + k + 1)) (G i) = Z1 at *
        generalize lessL (G i) (G (i + 1 + k + 1)) = Z2 at *
        generalize lessL (G (i + 1 + k)) (G i) = X1 at *
        generalize lessL (G i) (G (i + 1 + k)) = X2 at *
        generalize lessL (G (i + 1 + k + 1)) (G (i + 1 + k)) = Y1 at *
        generalize lessL (G (i + 1 + k)) (G (i + 1 + k + 1)) = Y2 at *
        have i0' : (0 : Int) ≤ (k : Int) := by omega
        have i1 : (k : Int) < (d : Int) := by omega
        go_wp2_with fail
        refine (HT _ (HSl.out.1.below (balloc _ _)) (HSl.out.2.1.below (balloc _ _)) (HSl.out.2.2.1.below (balloc _ _)) (HSl.out.2.2.2.below (balloc _ _))).mono ?_
        rintro e w3 ⟨hb3, r1, t1, r2, t2, rfl, g1, g2⟩
        have hb3' : Hid (RowKit.Below wr.heap.size wr w3) := bstep (balloc _ _) hb3
        have x0 : w3.cell? ⟨w1.heap.size, 0, none⟩ = some (.slice p1 X1.length u1) := (hb3'.out.cell (p := ⟨w1.heap.size, 0, none⟩) hz1).trans y0
        have x1 : w3.cell? ⟨w1.heap.size, 1, none⟩ = some (.slice p2 X2.length u2) := (hb3'.out.cell (p := ⟨w1.heap.size, 1, none⟩) hz1).trans y1'
        have x2 : w3.frozen? ⟨w1.heap.size, 0, none⟩ = false := (hb3'.out.frozen (p := ⟨w1.heap.size, 0, none⟩) hz1).trans f0
        have x3 : w3.frozen? ⟨w1.heap.size, 1, none⟩ = false := (hb3'.out.frozen (p := ⟨w1.heap.size, 1, none⟩) hz1).trans f1
        have x4 : w1.heap.size < w3.heap.size := Nat.lt_of_lt_of_le hz1 hb3'.out.size
        have Hfin : Hid _ := HPut.out w3 (hCr.out.below hb3'.out) r1 r2 t1 t2 ⟨x0, x1⟩ x2 x3 g1 g2
        have Hbel : Hid (RowKit.Below w1.heap.size w1 w3) := bstep hbr.out hb3'.out
        clear g1 g2 hb3 d0 d1 y0 y1' f0 f1
        go_wp2_with fail
        go_roundw
        case rel => exact ⟨k + 1, by omega, by go_num, Hfin.out.2.below (balloc _ _), Hfin.out.1.below (balloc _ _), bstep (below_two Hbel.out (Nat.le_refl _) _ _) (balloc _ _)⟩
        case measure => simp [intOf]; omega
      · obtain rfl : k = d := by omega
        have hO' := hO.out
        rw [Hd.out] at hO'
        obtain ⟨p1, u1, p2, u2, ⟨y0, y1'⟩, f0, f1, s1, s2⟩ := hO'
        have k9 := hCr.out.c1
        have hz9 : n0 < wr.heap.size := hCr.out.lt
        have HRx := HR (wr.alloc (.cells #[.slice p1 (lessL (G t) (G i)).length u1, .slice p2 (lessL (G i) (G t)).length u2] 31)).drew (hCr.out.below (balloc _ _).drew) p1 p2 u1 u2 (s1.below (balloc _ _).drew) (s2.below (balloc _ _).drew) ⟨wr.heap.size, 0, none⟩ (by rw [Addr.add_lit]; exact (BoxL.new wr _ _ _).1) (by rw [Addr.add_lit]; exact (BoxL.new wr _ _ _).2)
        have hbx : Hid (RowKit.Below w1.heap.size w1 (wr.alloc (.cells #[.slice p1 (lessL (G t) (G i)).length u1, .slice p2 (lessL (G i) (G t)).length u2] 31)).drew) := (bstep hbr.out (balloc _ _)).drew
        clear s1 s2 HR hO hCr k1 hone
        generalize lessL (G t) (G i) = Z1 at *
        generalize lessL (G i) (G t) = Z2 at *
        go_wp2_with fail
        go_region_law (first
          | (go_simp; go_at_call 43; refine HRx.mono ?_; rintro e w9 ⟨n, rfl, k8, f8, hsq⟩; have Hsq : Hid _ := hsq; clear hsq))
        all_goals go_wp2_with fail
        all_goals exact bodyPost_ret (v := .nilIface) (by simp [results, Tryz.results12, go_sem]) rfl ⟨rfl, _, SqAns.back hbx.out Hsq.out⟩
  · have het : t = i + 1 := by omega
    subst het
    by_cases hci : cap = i + 1
    · subst hci
      go_enter Tryz.func12, Tryz.ntmps12
      go_wp2_with fail
      refine HL.mono ?_
      rintro e w1 ⟨rfl, rfl⟩
      go_wp2_with fail
      obtain ⟨d, hd⟩ : ∃ d, d = 0 := ⟨0, rfl⟩
      have Hd : Hid (i + 1 + d = i + 1) := by have := HN.out; show _ = _; omega
      have Hd0 : Hid (d = 0) := hd
      clear hd
      go_loopw [42] (fun j wr => ∃ k : Nat, k ≤ d ∧ j = .int .i64 k ∧ Hid (OneAt wr w1.heap.size (G i) (G (i + 1 + k))) ∧ Hid (ChainAt wr n0 (.slice (some ⟨bl, 0, none⟩) m (i + 1)) gs) ∧ Hid (RowKit.Below w1.heap.size w1 wr)) (fun j wr => d - (intOf j).toNat)
      case atStart => exact ⟨0, Nat.zero_le _, rfl, hone, HC.out.below hB0.out, hB0⟩
      case round =>
        obtain ⟨k, hk, rfl, hO, hCr, hbr⟩ := hrel
        by_cases hkd : k < d
        · exact absurd Hd0.out (by omega)
        · obtain rfl : k = d := by omega
          have hO' := hO.out
          rw [Hd.out] at hO'
          obtain ⟨p1, u1, p2, u2, ⟨y0, y1'⟩, f0, f1, s1, s2⟩ := hO'
          have k9 := hCr.out.c1
          have hz9 : n0 < wr.heap.size := hCr.out.lt
          have HRx := HR (wr.alloc (.cells #[.slice p1 (lessL (G (i + 1)) (G i)).length u1, .slice p2 (lessL (G i) (G (i + 1))).length u2] 31)).drew (hCr.out.below (balloc _ _).drew) p1 p2 u1 u2 (s1.below (balloc _ _).drew) (s2.below (balloc _ _).drew) ⟨wr.heap.size, 0, none⟩ (by rw [Addr.add_lit]; exact (BoxL.new wr _ _ _).1) (by rw [Addr.add_lit]; exact (BoxL.new wr _ _ _).2)
          have hbx : Hid (RowKit.Below w1.heap.size w1 (wr.alloc (.cells #[.slice p1 (lessL (G (i + 1)) (G i)).length u1, .slice p2 (lessL (G i) (G (i + 1))).length u2] 31)).drew) := (bstep hbr.out (balloc _ _)).drew
          have Hk0 : k = 0 := Hd0.out
          subst Hk0
          clear s1 s2 HR hO hCr k1 hone
          generalize lessL (G (i + 1)) (G i) = Z1 at *
          generalize lessL (G i) (G (i + 1)) = Z2 at *
          go_wp2_with fail
          go_region_law (first
            | (go_simp; go_at_call 43; refine HRx.mono ?_; rintro e w9 ⟨n, rfl, k8, f8, hsq⟩; have Hsq : Hid _ := hsq; clear hsq))
          all_goals go_wp2_with fail
          all_goals exact bodyPost_ret (v := .nilIface) (by simp [results, Tryz.results12, go_sem]) rfl ⟨rfl, _, SqAns.back hbx.out Hsq.out⟩
    · have y1 : ¬ (cap : Int) = (i : Int) + 1 := by omega
      go_enter Tryz.func12, Tryz.ntmps12
      go_wp2_with fail
      refine HL.mono ?_
      rintro e w1 ⟨rfl, rfl⟩
      go_wp2_with fail
      obtain ⟨d, hd⟩ : ∃ d, d = 0 := ⟨0, rfl⟩
      have Hd : Hid (i + 1 + d = i + 1) := by have := HN.out; show _ = _; omega
      have Hd0 : Hid (d = 0) := hd
      clear hd
      go_loopw [42] (fun j wr => ∃ k : Nat, k ≤ d ∧ j = .int .i64 k ∧ Hid (OneAt wr w1.heap.size (G i) (G (i + 1 + k))) ∧ Hid (ChainAt wr n0 (.slice (some ⟨bl, 0, none⟩) m cap) gs) ∧ Hid (RowKit.Below w1.heap.size w1 wr)) (fun j wr => d - (intOf j).toNat)
      case atStart => exact ⟨0, Nat.zero_le _, rfl, hone, HC.out.below hB0.out, hB0⟩
      case round =>
        obtain ⟨k, hk, rfl, hO, hCr, hbr⟩ := hrel
        by_cases hkd : k < d
        · exact absurd Hd0.out (by omega)
        · obtain rfl : k = d := by omega
          have hO' := hO.out
          rw [Hd.out] at hO'
          obtain ⟨p1, u1, p2, u2, ⟨y0, y1'⟩, f0, f1, s1, s2⟩ := hO'
          have k9 := hCr.out.c1
          have hz9 : n0 < wr.heap.size := hCr.out.lt
          have HRx := HR (wr.alloc (.cells #[.slice p1 (lessL (G (i + 1)) (G i)).length u1, .slice p2 (lessL (G i) (G (i + 1))).length u2] 31)).drew (hCr.out.below (balloc _ _).drew) p1 p2 u1 u2 (s1.below (balloc _ _).drew) (s2.below (balloc _ _).drew) ⟨wr.heap.size, 0, none⟩ (by rw [Addr.add_lit]; exact (BoxL.new wr _ _ _).1) (by rw [Addr.add_lit]; exact (BoxL.new wr _ _ _).2)
          have hbx : Hid (RowKit.Below w1.heap.size w1 (wr.alloc (.cells #[.slice p1 (lessL (G (i + 1)) (G i)).length u1, .slice p2 (lessL (G i) (G (i + 1))).length u2] 31)).drew) := (bstep hbr.out (balloc _ _)).drew
          have Hk0 : k = 0 := Hd0.out
          subst Hk0
          clear s1 s2 HR hO hCr k1 hone
          generalize lessL (G (i + 1)) (G i) = Z1 at *
          generalize lessL (G i) (G (i + 1)) = Z2 at *
          go_wp2_with fail
          go_region_law (first
            | (go_simp; go_at_call 43; refine HRx.mono ?_; rintro e w9 ⟨n, rfl, k8, f8, hsq⟩; have Hsq : Hid _ := hsq; clear hsq))
          all_goals go_wp2_with fail
          all_goals exact bodyPost_ret (v := .nilIface) (by simp [results, Tryz.results12, go_sem]) rfl ⟨rfl, _, SqAns.back hbx.out Hsq.out⟩
end Go.Proofs.YtnlcfnpcjkcdmadGreatDoor

/- chain.Pop: a layer less. -/
namespace Go.Proofs.YtnlcfnpcjkcdmadGreatDoor
open Go Go.RowKit Go.Proofs
set_option synthInstance.maxSize 1000

theorem chain_del {W : World} {n0 bl cap i : Nat} {gs : List (List Tr)} (h : ChainAt W n0 (.slice (some ⟨bl, 0, none⟩) (i + 1) cap) gs) (hl : gs.length = i + 2) (hn : gs.length ≤ 900) :
    Calls Tryz.prog 44 #[.slice (some ⟨bl, 0, none⟩) (i + 1) cap, .int .i64 i, .int .i64 ((i : Int) + 1)] W fun e w9 => ∃ n, e = .returned (.slice (some ⟨bl, 0, none⟩) n cap) ∧ W.grownBy w9 (some bl) ∧ w9.cell? ⟨n0, 1, none⟩ = some (.slice (some ⟨bl, 0, none⟩) (i + 1) cap) ∧ w9.frozen? ⟨n0, 1, none⟩ = false ∧ SqAns n0 (.slice (some ⟨bl, 0, none⟩) (i + 1) cap) gs.dropLast W (.slice (some ⟨bl, 0, none⟩) n cap) (w9.setCell ⟨n0, 1, none⟩ (.slice (some ⟨bl, 0, none⟩) n cap)) := by
  have hown := h.own
  obtain ⟨s, r, bd, cb, xs, hgs, hset, harr, hsl, hsh, hly⟩ := h
  have hx := hly.1.trans (stepsL_len _)
  rcases hsh with ⟨h1, _⟩ | ⟨g', cap', h1, h2, h3, hS⟩
  · simp at h1
  · obtain ⟨e1, e2, e3⟩ := Value.slice.inj h1
    obtain ⟨e4, _⟩ := Addr.mk.inj (Option.some.inj e1)
    subst e4 e3
    have hxl : xs.length = i + 1 := e2.symm
    have H := DeleteLast_any bl cap i xs W hS hxl (by omega)
    rw [hxl] at H
    refine H.mono ?_
    rintro e w9 ⟨rfl, hgr, hrow, hS9⟩
    have hlt9 : bl < w9.heap.size := Nat.lt_of_lt_of_le h3 hgr.size
    have hr0 : r ≠ [] := fun e => by rw [hgs, e] at hl; simp at hl
    obtain ⟨k1, k3, hC, hO⟩ := chain_pop (v' := .slice (some ⟨bl, 0, none⟩) xs.dropLast.length cap) hgs hr0 hset harr hsl ⟨_, _, _, rfl⟩ (fun e => by have := (hown n0 e).1; omega) rfl hly hgr hrow (Or.inr ⟨bl, cap, rfl, h2, hlt9, hS9⟩)
    exact ⟨_, rfl, hgr, k1, k3, hC, hO, rfl⟩

/-- a store into a box that is new -/
theorem SqAns.put2 {n0 : Nat} {v v' : Value} {gs' : List (List Tr)} {w W w' : World} {b : Nat} {x y : Value} (hb : RowKit.Below w.heap.size w W) (h : SqAns n0 v gs' W v' w') (hn : n0 < w.heap.size) (hv : ∀ g, v.ownBlock = some g → g < w.heap.size) (hbw : w.heap.size ≤ b) (hB : BoxL w' b (.slice none 0 0) (.slice none 0 0)) : SqAns n0 v gs' w v' ((w'.setCell ⟨b, 0, none⟩ x).setCell ⟨b, 1, none⟩ y) ∧ RowsOn w' ((w'.setCell ⟨b, 0, none⟩ x).setCell ⟨b, 1, none⟩ y) := by
  have hr : RowsOn w' ((w'.setCell ⟨b, 0, none⟩ x).setCell ⟨b, 1, none⟩ y) := fun a l hl => hl.put2 hB.1 hB.2 _ _
  have hk : ∀ k, k ≠ b → ((w'.setCell ⟨b, 0, none⟩ x).setCell ⟨b, 1, none⟩ y).heap[k]? = w'.heap[k]? := fun k hkb => by rw [Below.heap_setCell _ _ _ _ hkb, Below.heap_setCell _ _ _ _ hkb]
  have hz : ((w'.setCell ⟨b, 0, none⟩ x).setCell ⟨b, 1, none⟩ y).heap.size = w'.heap.size := by simp [World.setCell]
  refine ⟨⟨h.1.keep (by rw [hz]; exact Nat.le_refl _) hr (fun k hk' => hk k ?_), ?_, h.2.2⟩, hr⟩
  · rcases hk' with rfl | hk'
    · omega
    · rw [h.2.2] at hk'
      have := hv k hk'
      omega
  · have hO := (Off.of_below (v := v) (n0 := n0) hb).trans h.2.1 (Or.inl rfl)
    exact ⟨hO.os, hO.tape, hO.output, by rw [hz]; exact hO.size, fun k h1 h2 h3 => (hk k (by omega)).trans (hO.block k h1 h2 h3), hO.rows.trans hr⟩

set_option maxHeartbeats 2000000 in
set_option maxRecDepth 100000 in
theorem PopBad_any (n0 : Nat) (v : Value) (gs : List (List Tr)) (w : World) (h : ChainAt w n0 v gs) (hn : gs.length = 1) :
    Calls Tryz.prog 13 #[.pointer (some ⟨n0, 0, none⟩)] w fun e w' => e = .returned (.tuple #[.agg #[.slice none 0 0, .slice none 0 0], .iface 89 (.int .i64 5)]) ∧ RowKit.Below w.heap.size w w' := by
  have HL := fun W hW => CLen_any n0 v gs W hW (by omega)
  rw [hn] at HL
  have H0 : Hid (ChainAt w n0 v gs) := h
  clear h hn
  go_enter Tryz.func13, Tryz.ntmps13
  go_wp2_with fail
  refine (HL _ (H0.out.below (balloc _ _))).mono ?_
  rintro e w1 ⟨rfl, rfl⟩
  go_wp2_with fail
  refine bodyPost_ret (v := .tuple #[.agg #[.slice none 0 0, .slice none 0 0], .iface 89 (.int .i64 5)]) (by unfold results; rw [Tryz.results13]; go_simp) rfl ⟨rfl, ?_⟩
  first | exact balloc _ _ | exact below_two (balloc _ _) (Nat.le_refl _) _ _

set_option maxHeartbeats 8000000 in
set_option maxRecDepth 100000 in
theorem Pop_any (n0 : Nat) (v : Value) (gs : List (List Tr)) (i : Nat) (w : World) (h : ChainAt w n0 v gs) (hn : gs.length ≤ 900) (hi : gs.length = i + 2) :
    Calls Tryz.prog 13 #[.pointer (some ⟨n0, 0, none⟩)] w fun e w' => ∃ a1 c1 a2 c2 v', e = .returned (.tuple #[.agg #[.slice a1 (lessL (gat gs (i + 1)) (gat gs i)).length c1, .slice a2 (lessL (gat gs i) (gat gs (i + 1))).length c2], .nilIface]) ∧ SlT w' a1 (lessL (gat gs (i + 1)) (gat gs i)) ∧ SlT w' a2 (lessL (gat gs i) (gat gs (i + 1))) ∧ SqAns n0 v gs.dropLast w v' w' := by
  have HL := fun W hW => CLen_any n0 v gs W hW (by omega)
  have hlt0 := h.lt
  obtain ⟨bl, cap, a1, c1, a2, c2, rfl, _, hcap, d0, d1, q1, q2⟩ := h.step (gat_eq (k := i) (by omega)) (gat_eq (k := i + 1) (by omega))
  have hob : bl < w.heap.size := (h.own bl rfl).2
  have k1 := h.c1
  have H0 : Hid (ChainAt w n0 (.slice (some ⟨bl, 0, none⟩) (gs.length - 1) cap) gs) := h
  have hm : gs.length - 1 = i + 1 := by omega
  rw [hm] at HL H0 k1 hcap ⊢
  have HD := fun W hW => chain_del (W := W) (n0 := n0) (bl := bl) (cap := cap) (i := i) (gs := gs) hW hi hn
  have Hq : Hid (SlT w a1 (lessL (gat gs (i + 1)) (gat gs i)) ∧ SlT w a2 (lessL (gat gs i) (gat gs (i + 1)))) := ⟨q1, q2⟩
  have hi9 : i ≤ 1000 := by omega
  clear h hi hn hm q1 q2
  generalize lessL (gat gs (i + 1)) (gat gs i) = L1 at *
  generalize lessL (gat gs i) (gat gs (i + 1)) = L2 at *
  have z0 : ¬ ((i : Int) < 0) := by omega
  have z1 : (0 : Int) ≤ (i : Int) := by omega
  have z2 : (i : Int) < (i : Int) + 1 := by omega
  have hB0 : Hid (RowKit.Below w.heap.size w (w.alloc (.cells #[.slice none 0 0, .slice none 0 0] 31))) := balloc _ _
  have hB1 : Hid (RowKit.Below w.heap.size w ((w.alloc (.cells #[.slice none 0 0, .slice none 0 0] 31)).alloc (.cells #[.slice a1 L1.length c1, .slice a2 L2.length c2] 31))) := bstep hB0.out (balloc _ _)
  go_enter Tryz.func13, Tryz.ntmps13
  go_wp2_with fail
  refine (HL _ (H0.out.below hB0.out)).mono ?_
  rintro e w1 ⟨rfl, rfl⟩
  clear HL
  go_wp2_with fail
  refine (HD _ (H0.out.below hB1.out)).mono ?_
  rintro e w9 ⟨n, rfl, hgr, k9, f9, hsq⟩
  have hk : ∀ b, b < ((w.alloc (.cells #[.slice none 0 0, .slice none 0 0] 31)).alloc (.cells #[.slice a1 L1.length c1, .slice a2 L2.length c2] 31)).heap.size → b ≠ bl → w9.heap[b]? = ((w.alloc (.cells #[.slice none 0 0, .slice none 0 0] 31)).alloc (.cells #[.slice a1 L1.length c1, .slice a2 L2.length c2] 31)).heap[b]? := fun b hb hne => hgr.block b hb (fun e => hne (Option.some.inj e))
  have y0 : w9.cell? ⟨w.heap.size, 0, none⟩ = some (.slice none 0 0) := (World.cell?_of_block (hk w.heap.size (by simp; omega) (by omega))).trans (by go_simp)
  have y1 : w9.cell? ⟨w.heap.size, 1, none⟩ = some (.slice none 0 0) := (World.cell?_of_block (hk w.heap.size (by simp; omega) (by omega))).trans (by go_simp)
  have y2 : w9.frozen? ⟨w.heap.size, 0, none⟩ = false := (World.frozen?_of_block (hk w.heap.size (by simp; omega) (by omega))).trans (by go_simp)
  have y3 : w9.frozen? ⟨w.heap.size, 1, none⟩ = false := (World.frozen?_of_block (hk w.heap.size (by simp; omega) (by omega))).trans (by go_simp)
  have x0 : w9.cell? ⟨w.heap.size + 1, 0, none⟩ = some (.slice a1 L1.length c1) := (World.cell?_of_block (hk (w.heap.size + 1) (by simp) (by omega))).trans (by go_simp)
  have x1 : w9.cell? ⟨w.heap.size + 1, 1, none⟩ = some (.slice a2 L2.length c2) := (World.cell?_of_block (hk (w.heap.size + 1) (by simp) (by omega))).trans (by go_simp)
  have hn9 : n0 ≠ w.heap.size := by omega
  have hbx : BoxL (w9.setCell ⟨n0, 1, none⟩ (.slice (some ⟨bl, 0, none⟩) n cap)) w.heap.size (.slice none 0 0) (.slice none 0 0) := BoxL.store ⟨y0, y1⟩ hn9 _
  have hfin := SqAns.put2 (x := .slice a1 L1.length c1) (y := .slice a2 L2.length c2) hB1.out hsq hlt0 (fun g hg => by have e := Option.some.inj hg; simp at e; omega) (Nat.le_refl _) hbx
  have Hfin : Hid _ := hfin
  have Hs : Hid (SlT (w9.setCell ⟨n0, 1, none⟩ (.slice (some ⟨bl, 0, none⟩) n cap)) a1 L1 ∧ SlT (w9.setCell ⟨n0, 1, none⟩ (.slice (some ⟨bl, 0, none⟩) n cap)) a2 L2) := ⟨hsq.2.1.rows _ _ (Hq.out.1.below hB1.out), hsq.2.1.rows _ _ (Hq.out.2.below hB1.out)⟩
  clear hsq hgr hk hfin hbx HD d0 d1 k1
  go_wp2_with fail
  exact bodyPost_ret (v := .tuple #[.agg #[.slice a1 L1.length c1, .slice a2 L2.length c2], .nilIface]) (by unfold results; rw [Tryz.results13]; go_simp) rfl ⟨a1, c1, a2, c2, _, rfl, Hfin.out.2 _ _ Hs.out.1, Hfin.out.2 _ _ Hs.out.2, Hfin.out.1⟩
end Go.Proofs.YtnlcfnpcjkcdmadGreatDoor

/- What Push, New and Squash tell where nothing is wrong. -/
namespace Go.Proofs.YtnlcfnpcjkcdmadGreatDoor
open Go Go.RowKit Go.Proofs
set_option synthInstance.maxSize 1000

/-- what parts two sets tells the other one -/
theorem btw_inj {g u b : List Tr} (su : IsSet u) (sb : IsSet b) (h : btw g b = btw g u) : u = b := by
  have h1 : lessL b g = lessL u g := (Prod.mk.inj h).1
  have h2 : lessL g b = lessL g u := (Prod.mk.inj h).2
  refine rising_unique _ _ su.2.2 sb.2.2 fun x => ?_
  have k1 : x ∈ lessL b g ↔ x ∈ lessL u g := by rw [h1]
  have k2 : x ∈ lessL g b ↔ x ∈ lessL g u := by rw [h2]
  rw [mem_lessL, mem_lessL] at k1 k2
  by_cases hg : x ∈ g
  · by_cases hu : x ∈ u
    · by_cases hb : x ∈ b
      · exact ⟨fun _ => hb, fun _ => hu⟩
      · exact absurd hu (k2.1 ⟨hg, hb⟩).2
    · by_cases hb : x ∈ b
      · exact absurd hb (k2.2 ⟨hg, hu⟩).2
      · exact ⟨fun h => absurd h hu, fun h => absurd h hb⟩
  · exact ⟨fun h => (k1.2 ⟨h, hg⟩).1, fun h => (k1.1 ⟨h, hg⟩).1⟩

/-- Push where the layer parts the top from another set -/
theorem PushGood_any (n0 : Nat) (v : Value) (gs : List (List Tr)) (g u : List Tr) (a1 a2 : Option Addr) (c1 c2 : Nat) (w : World) (h : ChainAt w n0 v gs) (hn : gs.length ≤ 30) (hg : gs.getLast? = some g) (su : IsSet u) (h1 : SlT w a1 (lessL u g)) (h2 : SlT w a2 (lessL g u)) :
    Calls Tryz.prog 8 #[.pointer (some ⟨n0, 0, none⟩), .agg #[.slice a1 (lessL u g).length c1, .slice a2 (lessL g u).length c2]] w fun e w' => e = .returned .nilIface ∧ ∃ v', ChainAt w' n0 v' (gs ++ [u]) ∧ Off n0 v w w' ∧ NewV w v v' := by
  have sg : IsSet g := h.set (i := gs.length - 1) (by rw [← List.getLast?_eq_getElem?]; exact hg)
  have s1 : IsSet (lessL u g) := lessSet su
  have s2 : IsSet (lessL g u) := lessSet sg
  have h0 : pushN gs g (btw g u) = 0 := by
    unfold pushN
    rw [if_neg (by omega)]
    exact apply_btw sg su
  refine (Push_any n0 v gs g a1 a2 c1 c2 (btw g u) w h (by omega) hg h1 h2 s1.fit s2.fit (setLen s1) (setLen s2)).mono ?_
  rintro e w' ⟨rfl, gs', v', hC, hO, hN, hy, _⟩
  obtain ⟨u', rfl, su', hb⟩ := hy h0
  obtain rfl := btw_inj su' su hb
  exact ⟨by rw [h0]; rfl, v', hC, hO, hN⟩

theorem NewNil_any (w : World) : Calls Tryz.prog 6 #[.slice none 0 0] w fun e w' => ∃ n, e = .returned (.tuple #[.pointer (some ⟨n, 0, none⟩), .nilIface]) ∧ w.heap.size ≤ n ∧ ChainAt w' n (.slice none 0 0) [[]] ∧ RowKit.Below w.heap.size w w' := by
  refine (CNew_any none 0 [] w (slT_nil _ _) (by simp) (by simp)).mono ?_
  rintro e w' ⟨hb, hy, _⟩
  obtain ⟨n, rfl, hn, hC⟩ := hy (sortedN_set.2 isSet_nil)
  exact ⟨n, rfl, hn, hC, hb⟩
theorem sq_len {ss : List (List Tr)} {i t : Nat} (hit : i + 1 ≤ t) (ht : t < ss.length) : (ss.take (i + 1) ++ ss.drop t).length = ss.length - (t - (i + 1)) := by simp; omega
theorem sq_low {ss : List (List Tr)} {i t k : Nat} (hit : i + 1 ≤ t) (ht : t < ss.length) (hk : k < i + 1) : (ss.take (i + 1) ++ ss.drop t)[k]? = some (gat ss k) := by
  rw [List.getElem?_append_left (by simp; omega), List.getElem?_take_of_lt hk]
  exact gat_eq (by omega)
theorem sq_high {ss : List (List Tr)} {i t k : Nat} (hit : i + 1 ≤ t) (ht : t ≤ k) (hk : k < ss.length) : (ss.take (i + 1) ++ ss.drop t)[k - (t - (i + 1))]? = some (gat ss k) := by
  rw [List.getElem?_append_right (by simp; omega), List.getElem?_drop, List.length_take, Nat.min_eq_left (by omega), show t + (k - (t - (i + 1)) - (i + 1)) = k by omega]
  exact gat_eq hk
theorem ChainAt.low {w : World} {n0 B : Nat} {v : Value} {gs : List (List Tr)} (h : ChainAt w n0 v gs) (hB : B ≤ n0) : ∀ g, v.ownBlock = some g → B ≤ g := fun g hg => by have := (h.own g hg).1; omega
theorem BC.set2 {v W : World} (h : BC v W) {g : Nat} (hg : v.heap.size ≤ g) (a b : Value) : BC v ((W.setCell ⟨g, 0, none⟩ a).setCell ⟨g, 1, none⟩ b) :=
  (RowKit.Below.setCell (p := ⟨g, 0, none⟩) h hg a).setCell (p := ⟨g, 1, none⟩) hg b
def Z2 (W : World) (B : Nat) : Prop := W.cell? ⟨B, 0, none⟩ = some (.slice none 0 0) ∧ W.cell? ⟨B, 1, none⟩ = some (.slice none 0 0) ∧ W.frozen? ⟨B, 0, none⟩ = false ∧ W.frozen? ⟨B, 1, none⟩ = false
theorem Z2.below {W W' : World} {B : Nat} (h : Z2 W B) (hb : RowKit.Below W.heap.size W W') : Z2 W' B := by
  obtain ⟨k, f⟩ := bcell hb
  have hB : B < W.heap.size := World.block_lt_of_cell? W _ h.1
  unfold Z2 at h ⊢
  simp only [k _ _ hB, f _ _ hB]
  exact h
theorem Z2.newD (w : World) : Z2 ((w.alloc (.cells #[.slice none 0 0, .slice none 0 0] 31)).drew) w.heap.size := by
  have h : Z2 (w.alloc (.cells #[.slice none 0 0, .slice none 0 0] 31)) w.heap.size := by
    unfold Z2
    refine ⟨?_, ?_, ?_, ?_⟩ <;> go_simp
  exact h
end Go.Proofs.YtnlcfnpcjkcdmadGreatDoor
