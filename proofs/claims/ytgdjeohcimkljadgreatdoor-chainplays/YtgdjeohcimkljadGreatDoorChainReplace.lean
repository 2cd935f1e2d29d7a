/- slices.Replace and slices.Delete over a row of layers. -/
import Derived.Test.YtgdjeohcimkljadGreatDoorChainPush
namespace Go.Proofs.YtgdjeohcimkljadGreatDoor
open Go Go.RowKit Go.Proofs
set_option synthInstance.maxSize 1000

/-- what Replace leaves -/
def RepAns (g cap : Nat) (ys : List Vp) (w : World) (e : Ending) (w' : World) : Prop := e = .returned (.slice (some ⟨g, 0, none⟩) ys.length cap) ∧ w.grownBy w' (some g) ∧ RowsOn w w' ∧ Sheet w' g cap ys
theorem grown_trans {a b c : World} {row : Option Nat} (h : a.grownBy b row) (k : b.grownBy c row) : a.grownBy c row :=
  ⟨k.os.trans h.os, k.tape.trans h.tape, k.output.trans h.output, Nat.le_trans h.size k.size, fun i hi hr => (k.block i (Nat.lt_of_lt_of_le hi h.size) hr).trans (h.block i hi hr)⟩
theorem grown_drew {a b : World} {row : Option Nat} (h : a.grownBy b row) : a.grownBy b.drew row := ⟨h.os, h.tape, h.output, h.size, h.block⟩

theorem run_putL (W : World) (g cap i : Nat) (xs : List Vp) (h : Sheet W g cap xs) (x : Vp) (hx1 : slB x.1 = true) (hx2 : slB x.2 = true) (ad : Addr) (c : Nat) (hx : ∀ (k : Nat) u, ([x.1, x.2] : List Value)[k]? = some u → W.cell? (ad.add k) = some u) (hi : i + 1 ≤ cap) (ty : TypeId) :
    (Builtin.append_ #[40, 40] ty #[.slice (some ⟨g, 0, none⟩) i cap, .slice (some ad) 1 c]).run Tryz.prog W = .ok (.slice (some ⟨g, 0, none⟩) (i + 1) cap) (W.setCells g (i * 2) [x.1, x.2]) := by
  obtain ⟨i0, hi0, hz⟩ := Option.map_eq_some_iff.1 infoLy
  simp only [Prod.mk.injEq] at hz
  obtain ⟨hz0, hz1, hz2⟩ := hz
  have := run_append_room_cells (P := Tryz.prog) W 40 ty 31 i0 Tryz.underlying40 hi0 g 0 i cap ad 1 c [x.1, x.2] (by rw [hz1]; rfl) hx (fun u hu => by simp at hu; rcases hu with rfl | rfl; exact sl_one hx1; exact sl_one hx2) hi
    (fun j hj => by rw [hz1]; simp at hj; obtain ⟨a', n', c', e'⟩ := h.sl (0 + i * 2 + j) (by omega); rw [e']; rfl) (fun j hj => by rw [hz1]; simp at hj; exact h.free _ (by omega))
  rw [hz1, Nat.zero_add] at this
  exact this
theorem sizeLy : (Tryz.prog.info? 31).map (·.size) = some 2 := by
  obtain ⟨i0, hi0, hz⟩ := Option.map_eq_some_iff.1 infoLy
  simp only [Prod.mk.injEq] at hz
  rw [hi0]
  simp [hz.2.1]
theorem zeroLy (w : World) : (zeroValue 31).run Tryz.prog w = .ok (.agg #[.slice none 0 0, .slice none 0 0]) w := by
  obtain ⟨i0, hi0, hz⟩ := Option.map_eq_some_iff.1 infoLy
  simp only [Prod.mk.injEq] at hz
  simp [zeroValue, typeInfo, hi0, hz.1]
theorem run_clearL (W : World) (g cap p n : Nat) (xs : List Vp) (h : Sheet W g cap xs) (hp : p + n ≤ cap) (c : Nat) (ty : TypeId) :
    (Builtin.clear_ #[40] ty #[.slice (some ⟨g, p * 2, none⟩) n c]).run Tryz.prog W = .ok (.tuple #[]) (W.setCells g (p * 2) (List.replicate (n * 2) (.slice none 0 0))) :=
  run_clear2 40 ty 31 Tryz.underlying40 zeroLy g (p * 2) n c (fun j hj => by obtain ⟨a', n', c', e'⟩ := h.sl (p * 2 + j) (by omega); rw [e']; rfl) (fun j hj => h.free _ (by omega))
theorem run_clear0 (W : World) (ad : Option Addr) (c : Nat) (ty : TypeId) : (Builtin.clear_ #[40] ty #[.slice ad 0 c]).run Tryz.prog W = .ok (.tuple #[]) W := by
  cases ad <;> simp [Builtin.clear_, run_underlying Tryz.underlying40]
theorem Sheet.clear {W : World} {g cap : Nat} {xs : List Vp} (h : Sheet W g cap xs) (p n : Nat) (hp : p + n ≤ cap) (hx : xs.length ≤ p) : Sheet (W.setCells g (p * 2) (List.replicate (n * 2) (.slice none 0 0))) g cap xs :=
  h.write _ _ (fun u hu => by rw [List.eq_of_mem_replicate hu]; rfl) (by simp; omega) xs h.le (fun j u hu => by
    have hj := (List.getElem?_eq_some_iff.1 hu).1
    rw [cellsL_len] at hj
    rw [if_neg (by omega)]
    exact hu)
theorem Sheet.shut {W : World} {g cap : Nat} {xs : List Vp} (h : Sheet W g cap xs) (k : Nat) : Sheet W g cap (xs.take k) :=
  ⟨by have := h.le; simp; omega, h.max, h.free, h.sl, fun j u hu => h.at_ j u (by
    have hj := (List.getElem?_eq_some_iff.1 hu).1
    rw [cellsL_len] at hj
    simp at hj
    rw [cellsL_at] at hu ⊢
    rwa [List.getElem?_take_of_lt (by omega)] at hu)⟩
/-- one put in at a place -/
theorem Sheet.putOne {W : World} {g cap : Nat} {xs : List Vp} (h : Sheet W g cap xs) (i : Nat) (x : Vp) (hx1 : slB x.1 = true) (hx2 : slB x.2 = true) (hi : i < xs.length) : Sheet (W.setCells g (i * 2) [x.1, x.2]) g cap (xs.set i x) :=
  h.write _ _ (fun u hu => by simp at hu; rcases hu with rfl | rfl <;> assumption) (by have := h.le; simp; omega) _ (by have := h.le; simp; omega) (fun j u hu => by
    have hj := (List.getElem?_eq_some_iff.1 hu).1
    rw [cellsL_len] at hj
    simp at hj
    rw [cellsL_at, List.getElem?_set] at hu
    by_cases c : i = j / 2
    · rw [if_pos c, if_pos (by omega)] at hu
      rw [if_pos ⟨by omega, by simp; omega⟩]
      rcases (by omega : j - i * 2 = 0 ∨ j - i * 2 = 1) with e | e
      · rw [e]; simp at hu ⊢; rw [if_pos (by omega)] at hu; exact hu
      · rw [e]; simp at hu ⊢; rw [if_neg (by omega)] at hu; exact hu
    · rw [if_neg c] at hu
      rw [if_neg (by simp; omega), cellsL_at]
      exact hu)

set_option maxHeartbeats 4000000 in
set_option maxRecDepth 100000 in
theorem ReplaceEnd_any (g cap i : Nat) (xs : List Vp) (x : Vp) (ad : Addr) (w : World) (h : Sheet w g cap xs) (hi : i < xs.length) (hn : xs.length ≤ 1000) (hx1 : slB x.1 = true) (hx2 : slB x.2 = true) (hx : ∀ (k : Nat) u, ([x.1, x.2] : List Value)[k]? = some u → w.cell? (ad.add k) = some u) :
    Calls Tryz.prog 30 #[.slice (some ⟨g, 0, none⟩) xs.length cap, .int .i64 i, .int .i64 xs.length, .slice (some ad) 1 1] w (RepAns g cap (xs.take i ++ [x]) w) := by
  have hle := h.le
  have hmx := h.max
  have r1 := fun ty => run_putL w g cap i xs h x hx1 hx2 ad 1 hx (by omega) ty
  have s1 := h.putOne i x hx1 hx2 hi
  have e1 : (xs.set i x).take (i + 1) = xs.take i ++ [x] := by
    apply List.ext_getElem?
    intro k
    rw [List.getElem?_take, List.getElem?_append, List.getElem?_set, List.length_take, Nat.min_eq_left (by omega)]
    by_cases c1 : k < i
    · rw [if_pos (by omega), if_neg (by omega), if_pos c1, List.getElem?_take_of_lt c1]
    · by_cases c2 : k = i
      · subst c2; simp [hi]
      · rw [if_neg (by omega), if_neg c1, List.getElem?_eq_none (by simp; omega)]
  have s2 := s1.shut (i + 1)
  rw [e1] at s2
  have el : (xs.take i ++ [x]).length = i + 1 := by simp; omega
  have r2 := fun ty c => run_clearL _ g cap (i + 1) (xs.length - (i + 1)) _ s2 (by omega) c ty
  have s3 := s2.clear (i + 1) (xs.length - (i + 1)) (by omega) (by rw [el]; exact Nat.le_refl _)
  have hrow1 : RowsOn w (w.setCells g (i * 2) [x.1, x.2]) := fun a l hl => h.puts _ _ (by simp; omega) hl
  have hrow2 : RowsOn (w.setCells g (i * 2) [x.1, x.2]) _ := fun a l hl => s2.puts ((i + 1) * 2) (List.replicate ((xs.length - (i + 1)) * 2) (.slice none 0 0)) (by simp; omega) hl
  have g1 := grown_setCells w g (i * 2) [x.1, x.2]
  have g2 := grown_setCells (w.setCells g (i * 2) [x.1, x.2]) g ((i + 1) * 2) (List.replicate ((xs.length - (i + 1)) * 2) (.slice none 0 0))
  have A1 : Hid (RepAns g cap (xs.take i ++ [x]) w (.returned (.slice (some ⟨g, 0, none⟩) (i + 1) cap)) (w.setCells g (i * 2) [x.1, x.2])) := ⟨by rw [el], g1, hrow1, s2⟩
  have A2 : Hid (RepAns g cap (xs.take i ++ [x]) w (.returned (.slice (some ⟨g, 0, none⟩) (i + 1) cap)) ((w.setCells g (i * 2) [x.1, x.2]).setCells g ((i + 1) * 2) (List.replicate ((xs.length - (i + 1)) * 2) (.slice none 0 0)))) := ⟨by rw [el], grown_trans g1 g2, hrow1.trans hrow2, s3⟩
  generalize RepAns g cap (xs.take i ++ [x]) w = Q at *
  generalize hm : xs.length = m at *
  clear s1 s2 s3 e1 el hrow1 hrow2 g1 g2 h hx hm hmx
  have R1 : Hid _ := r1
  generalize hW1 : w.setCells g (i * 2) [x.1, x.2] = W1 at *
  clear hW1 r1
  have b1 : decide ((i : Int) = (m : Int)) = false := by simp; omega
  have hic : (i : Int) ≤ (cap : Int) := by omega
  have him : (i : Int) ≤ (m : Int) := by omega
  have hmc : (m : Int) ≤ (cap : Int) := by omega
  by_cases hend : i + 1 < m
  · have b2 : decide ((i : Int) + 1 < (m : Int)) = true := by simp; omega
    go_enter Tryz.func30, Tryz.ntmps30
    go_wp2_with (at_builtin; refine wpList_append_eq rfl _ _ 40 rfl rfl rfl (R1.out _) ?_)
    exact A2.out
  · have b2 : decide ((i : Int) + 1 < (m : Int)) = false := by simp; omega
    clear r2 A2
    go_enter Tryz.func30, Tryz.ntmps30
    go_wp2_with (at_builtin; refine wpList_append_eq rfl _ _ 40 rfl rfl rfl (R1.out _) ?_)
    exact A1.out

theorem run_copyOne (W : World) (g cap i : Nat) (xs : List Vp) (h : Sheet W g cap xs) (x : Vp) (hx1 : slB x.1 = true) (hx2 : slB x.2 = true) (ad : Addr) (c : Nat) (hx : ∀ (k : Nat) u, ([x.1, x.2] : List Value)[k]? = some u → W.cell? (ad.add k) = some u) (hi : i + 1 ≤ cap) (dLen dCap : Nat) (hd : 1 ≤ dLen) (ty : TypeId) :
    (Builtin.copy_ #[40, 40] ty #[.slice (some ⟨g, i * 2, none⟩) dLen dCap, .slice (some ad) 1 c]).run Tryz.prog W = .ok (goInt (Nat.min 1 dLen)) (W.setCells g (i * 2) [x.1, x.2]) :=
  run_copy2 40 40 ty 31 g (i * 2) dLen dCap ad 1 c [x.1, x.2] Tryz.underlying40 sizeLy (by rw [show Nat.min 1 dLen = 1 from Nat.min_eq_left hd]; rfl) hx (fun j hj => by simp at hj; obtain ⟨a', n', c', e'⟩ := h.sl (i * 2 + j) (by omega); rw [e']; rfl) (fun j hj => by simp at hj; exact h.free _ (by omega)) (fun u hu => by simp at hu; rcases hu with rfl | rfl; exact sl_one hx1; exact sl_one hx2)
theorem run_copyTail (W : World) (g cap p j k : Nat) (xs : List Vp) (h : Sheet W g cap xs) (hk : xs.length = j + k) (hp : p ≤ j) (dCap sCap : Nat) (ty : TypeId) :
    (Builtin.copy_ #[40, 40] ty #[.slice (some ⟨g, p * 2, none⟩) k dCap, .slice (some ⟨g, j * 2, none⟩) k sCap]).run Tryz.prog W = .ok (goInt (Nat.min k k)) (W.setCells g (p * 2) (cellsL (xs.drop j))) := by
  have hl : (cellsL (xs.drop j)).length = k * 2 := by rw [cellsL_len]; simp; omega
  have hle := h.le
  refine run_copy2 40 40 ty 31 g (p * 2) k dCap ⟨g, j * 2, none⟩ k sCap (cellsL (xs.drop j)) Tryz.underlying40 sizeLy (by rw [hl, show Nat.min k k = k from Nat.min_self k]) (fun q u hu => ?_) (fun q hq => ?_) (fun q hq => ?_) (fun u hu => ?_)
  · rw [Addr.add_lit]
    refine h.at_ _ _ ?_
    rw [cellsL_at] at hu ⊢
    rw [List.getElem?_drop] at hu
    rw [show (j * 2 + q) / 2 = j + q / 2 by omega, show (j * 2 + q) % 2 = q % 2 by omega]
    exact hu
  · rw [hl] at hq
    obtain ⟨a', n', c', e'⟩ := h.sl (p * 2 + q) (by omega)
    rw [e']
    rfl
  · rw [hl] at hq
    exact h.free _ (by omega)
  · obtain ⟨q, hq⟩ := List.getElem?_of_mem hu
    refine sl_one (cellsL_sl h (j * 2 + q) u ?_)
    rw [cellsL_at] at hq ⊢
    rw [List.getElem?_drop] at hq
    rw [show (j * 2 + q) / 2 = j + q / 2 by omega, show (j * 2 + q) % 2 = q % 2 by omega]
    exact hq
/-- what follows j moved to follow i -/
theorem Sheet.tail {W : World} {g cap : Nat} {xs : List Vp} (h : Sheet W g cap xs) (p j k : Nat) (hk : xs.length = j + k) (hp : p ≤ j) : Sheet (W.setCells g (p * 2) (cellsL (xs.drop j))) g cap (xs.take p ++ xs.drop j) := by
  have hl : (cellsL (xs.drop j)).length = k * 2 := by rw [cellsL_len]; simp; omega
  have hle := h.le
  refine h.write _ _ (fun u hu => ?_) (by rw [hl]; omega) _ (by simp; omega) (fun q u hu => ?_)
  · obtain ⟨q, hq⟩ := List.getElem?_of_mem hu
    refine cellsL_sl h (j * 2 + q) u ?_
    rw [cellsL_at] at hq ⊢
    rw [List.getElem?_drop] at hq
    rw [show (j * 2 + q) / 2 = j + q / 2 by omega, show (j * 2 + q) % 2 = q % 2 by omega]
    exact hq
  · rw [hl]
    rw [cellsL_app, List.getElem?_append, cellsL_len, List.length_take, Nat.min_eq_left (by omega)] at hu
    split at hu
    · rename_i c
      rw [if_neg (by omega)]
      rw [cellsL_at] at hu ⊢
      rwa [List.getElem?_take_of_lt (by omega)] at hu
    · rename_i c
      have hq := (List.getElem?_eq_some_iff.1 hu).1
      rw [hl] at hq
      rw [if_pos ⟨by omega, by omega⟩]
      exact hu
theorem Sheet.drewS {W : World} {g cap : Nat} {xs : List Vp} (h : Sheet W g cap xs) : Sheet W.drew g cap xs := ⟨h.le, h.max, h.free, h.sl, h.at_⟩
theorem rows_drew (W : World) : RowsOn W W.drew := RowsOn.of_below (RowKit.Below.refl _ _).drew

set_option maxHeartbeats 8000000 in
set_option maxRecDepth 100000 in
theorem ReplaceMid_any (g cap i j k : Nat) (xs : List Vp) (x : Vp) (ad : Addr) (w : World) (h : Sheet w g cap xs) (hij : i < j) (hk : xs.length = j + k) (hk0 : 0 < k) (hn : xs.length ≤ 1000) (hx1 : slB x.1 = true) (hx2 : slB x.2 = true) (hx : ∀ (k : Nat) u, ([x.1, x.2] : List Value)[k]? = some u → w.cell? (ad.add k) = some u) :
    Calls Tryz.prog 30 #[.slice (some ⟨g, 0, none⟩) xs.length cap, .int .i64 i, .int .i64 j, .slice (some ad) 1 1] w (RepAns g cap (xs.take i ++ x :: xs.drop j) w) := by
  have hle := h.le
  have hmx := h.max
  have r1 := fun d c hd ty => run_copyOne w.drew g cap i xs h.drewS x hx1 hx2 ad 1 hx (by omega) d c hd ty
  have s1 := (h.drewS.putOne i x hx1 hx2 (by omega)).drewS
  have hk' : (xs.set i x).length = j + k := by rw [List.length_set]; exact hk
  have r2 := fun c c' ty => run_copyTail _ g cap (i + 1) j k _ s1 hk' (by omega) c c' ty
  have s2 := s1.tail (i + 1) j k hk' (by omega)
  have e1 : (xs.set i x).take (i + 1) ++ (xs.set i x).drop j = xs.take i ++ x :: xs.drop j := by
    have e2 : (xs.set i x).drop j = xs.drop j := by rw [List.drop_set]; rw [if_pos (by omega)]
    have e3 : (xs.set i x).take (i + 1) = xs.take i ++ [x] := by
      apply List.ext_getElem?
      intro q
      rw [List.getElem?_take, List.getElem?_append, List.getElem?_set, List.length_take, Nat.min_eq_left (by omega)]
      by_cases c1 : q < i
      · rw [if_pos (by omega), if_neg (by omega), if_pos c1, List.getElem?_take_of_lt c1]
      · by_cases c2 : q = i
        · subst c2; simp; omega
        · rw [if_neg (by omega), if_neg c1, List.getElem?_eq_none (by simp; omega)]
    rw [e2, e3]
    simp
  rw [e1] at s2
  have e4 : (xs.set i x).drop j = xs.drop j := by rw [List.drop_set]; rw [if_pos (by omega)]
  rw [e4] at s2 r2
  have el : (xs.take i ++ x :: xs.drop j).length = i + 1 + k := by simp; omega
  have r3 := fun c ty => run_clearL _ g cap (i + 1 + k) (xs.length - (i + 1 + k)) _ s2 (by omega) c ty
  have s3 := s2.clear (i + 1 + k) (xs.length - (i + 1 + k)) (by omega) (by rw [el]; exact Nat.le_refl _)
  have hl2 : (cellsL (xs.drop j)).length = k * 2 := by rw [cellsL_len]; simp; omega
  have w1 : RowsOn w (w.drew.setCells g (i * 2) [x.1, x.2]).drew := (rows_drew w).trans (RowsOn.trans (fun a l hl => h.drewS.puts (i * 2) [x.1, x.2] (by simp; omega) hl) (rows_drew _))
  have w2 : RowsOn (w.drew.setCells g (i * 2) [x.1, x.2]).drew _ := fun a l hl => s1.puts ((i + 1) * 2) (cellsL (xs.drop j)) (by rw [hl2]; omega) hl
  have w3 : RowsOn ((w.drew.setCells g (i * 2) [x.1, x.2]).drew.setCells g ((i + 1) * 2) (cellsL (xs.drop j))) _ := fun a l hl => s2.puts ((i + 1 + k) * 2) (List.replicate ((xs.length - (i + 1 + k)) * 2) (.slice none 0 0)) (by simp; omega) hl
  have g1 : w.grownBy (w.drew.setCells g (i * 2) [x.1, x.2]).drew (some g) := grown_drew (grown_trans (⟨rfl, rfl, rfl, Nat.le_refl _, fun _ _ _ => rfl⟩ : w.grownBy w.drew (some g)) (grown_setCells w.drew g (i * 2) [x.1, x.2]))
  have g2 := grown_trans g1 (grown_setCells _ g ((i + 1) * 2) (cellsL (xs.drop j)))
  have g3 := grown_trans g2 (grown_setCells _ g ((i + 1 + k) * 2) (List.replicate ((xs.length - (i + 1 + k)) * 2) (.slice none 0 0)))
  have A3 : Hid (RepAns g cap (xs.take i ++ x :: xs.drop j) w (.returned (.slice (some ⟨g, 0, none⟩) (i + 1 + k) cap)) _) := ⟨by rw [el], g3, (w1.trans w2).trans w3, s3⟩
  generalize RepAns g cap (xs.take i ++ x :: xs.drop j) w = Q at *
  clear s1 s2 s3 e1 e4 el w1 w2 w3 g1 g2 g3 h hmx hl2 hk'
  have R1 : Hid _ := r1
  generalize hW1 : w.drew.setCells g (i * 2) [x.1, x.2] = W1 at *
  have R2 : Hid _ := r2
  generalize hW2 : W1.drew.setCells g ((i + 1) * 2) (cellsL (xs.drop j)) = W2 at *
  have R3 : Hid _ := r3
  generalize hm : xs.length = m at *
  clear hW1 hW2 r1 r2 r3 hx hm
  subst hk
  have b1 : ((i : Int) == (j : Int)) = false := by simp; omega
  have b2 : ((j : Int) == (j : Int) + (k : Int)) = false := by simp; omega
  have b3 : decide ((cap : Int) < (i : Int) + 1 + (k : Int)) = false := by simp; omega
  have b4 : decide ((i : Int) + 1 ≤ (j : Int)) = true := by simp; omega
  have hic : (i : Int) ≤ (cap : Int) := by omega
  have him : (i : Int) ≤ (j : Int) := by omega
  have hjc : (j : Int) ≤ (cap : Int) := by omega
  have hmc : (j : Int) + (k : Int) ≤ (cap : Int) := by omega
  have htc : (i : Int) + 1 + (k : Int) ≤ (cap : Int) := by omega
  have x1 := fun ty => R1.out (i + 1 + k - i) (cap - i) (by omega) ty
  have x2 := R2.out
  by_cases hcap : cap = i + 1 + k
  · have hj : j = i + 1 := by omega
    subst hj
    have e0 : i + 1 + k - (i + 1 + k) = 0 := by omega
    rw [e0] at A3
    have A4 : Hid (Q (.returned (.slice (some ⟨g, 0, none⟩) (i + 1 + k) cap)) W2) := A3
    have x3 := fun (ad : Option Addr) (c : Nat) ty => run_clear0 W2 ad c ty
    subst hcap
    clear R1 R2 R3 A3 e0
    go_enter Tryz.func30, Tryz.ntmps30
    go_wp2_with fail
    go_region
    go_wp2_with fail
    go_region
    go_wp2_with fail
    exact A4.out
  · have x3 := fun c ty => R3.out c ty
    have hcap' : ¬ (cap : Int) = (i : Int) + 1 + (k : Int) := by omega
    clear R1 R2 R3
    go_enter Tryz.func30, Tryz.ntmps30
    go_wp2_with fail
    go_region
    go_wp2_with fail
    go_region
    go_wp2_with fail
    exact A3.out

theorem run_appendNone (W : World) (g cap i : Nat) (ad : Option Addr) (c : Nat) (had : ad ≠ none) (hi : i ≤ cap) (ty : TypeId) :
    (Builtin.append_ #[40, 40] ty #[.slice (some ⟨g, 0, none⟩) i cap, .slice ad 0 c]).run Tryz.prog W = .ok (.slice (some ⟨g, 0, none⟩) i cap) W := by
  obtain ⟨i0, hi0, hz⟩ := Option.map_eq_some_iff.1 infoLy
  cases ad with
  | none => exact absurd rfl had
  | some a =>
    have := run_append_room_cells (P := Tryz.prog) W 40 ty 31 i0 Tryz.underlying40 hi0 g 0 i cap a 0 c [] (by simp) (by simp) (by simp) (by omega) (by simp) (by simp)
    simpa [World.setCells] using this

set_option maxHeartbeats 4000000 in
set_option maxRecDepth 100000 in
theorem DeleteLast_any (g cap i : Nat) (xs : List Vp) (w : World) (h : Sheet w g cap xs) (hi : xs.length = i + 1) (hn : xs.length ≤ 1000) :
    Calls Tryz.prog 31 #[.slice (some ⟨g, 0, none⟩) xs.length cap, .int .i64 i, .int .i64 ((i : Int) + 1)] w (RepAns g cap xs.dropLast w) := by
  have hle := h.le
  have s1 : Sheet w.drew g cap xs.dropLast := by rw [List.dropLast_eq_take]; exact h.drewS.shut _
  have el : xs.dropLast.length = i := by simp; omega
  have r2 := fun c ty => run_clearL w.drew g cap i 1 _ s1 (by omega) c ty
  have s2 := s1.clear i 1 (by omega) (by omega)
  have g2 : w.grownBy _ (some g) := grown_trans (⟨rfl, rfl, rfl, Nat.le_refl _, fun _ _ _ => rfl⟩ : w.grownBy w.drew (some g)) (grown_setCells w.drew g (i * 2) (List.replicate (1 * 2) (.slice none 0 0)))
  have w2 : RowsOn w _ := (rows_drew w).trans (fun a l hl => s1.puts (i * 2) (List.replicate (1 * 2) (.slice none 0 0)) (by simp; omega) hl)
  have A2 : Hid (RepAns g cap xs.dropLast w (.returned (.slice (some ⟨g, 0, none⟩) i cap)) _) := ⟨by rw [el], g2, w2, s2⟩
  have R1 := fun (ad : Option Addr) (c : Nat) (had : ad ≠ none) ty => run_appendNone w.drew g cap i ad c had (by omega) ty
  have R1' : Hid _ := R1
  generalize RepAns g cap xs.dropLast w = Q at *
  generalize hm : xs.length = m at *
  clear hm s1 s2 g2 w2 el h R1
  subst hi
  have b1 : ((i : Int) == (i : Int) + 1) = false := by simp; omega
  have hic : (i : Int) ≤ (cap : Int) := by omega
  have hic' : (i : Int) + 1 ≤ (cap : Int) := by omega
  have q1 : (0 : Int) ≤ (i : Int) + 1 := by omega
  have q2 : (i : Int) ≤ (i : Int) + 1 := by omega
  by_cases hcap : cap = i + 1
  · subst hcap
    go_enter Tryz.func31, Tryz.ntmps31
    go_wp2_with fail
    go_region_law (refine step_append_eq rfl (.tmp 22) (.tmp 25) 40 rfl _ _ rfl rfl (R1'.out _ _ (by simp) _) ?_)
    go_wp2_with fail
    exact A2.out
  · have hcap' : ¬ (cap : Int) = (i : Int) + 1 := by omega
    go_enter Tryz.func31, Tryz.ntmps31
    go_wp2_with fail
    go_region_law (refine step_append_eq rfl (.tmp 22) (.tmp 25) 40 rfl _ _ rfl rfl (R1'.out _ _ (by simp) _) ?_)
    go_wp2_with fail
    exact A2.out
end Go.Proofs.YtgdjeohcimkljadGreatDoor
