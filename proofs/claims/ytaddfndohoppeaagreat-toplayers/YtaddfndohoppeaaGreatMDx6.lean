import Derived.Test.YtaddfndohoppeaaGreatMDx5
import Derived.Test.YtaddfndohoppeaaGreatMDx2
import Derived.Deep.LoopGhost
import Derived.Deep.Draws
import Derived.Deep.Upon
import Derived.Deep.RegionLaw
import Derived.Laws.IdiomCopy
import Derived.RegionTactic
import Derived.Test.YtaddfndohoppeaaGreatMCTopLayersx1
import Derived.Test.YtaddfndohoppeaaGreatMDx1
import Derived.Test.YtaddfndohoppeaaGreatMCTopLayersx3
import Derived.Test.YtaddfndohoppeaaGreatMA0x4
import Derived.Deep.DeepCutAuto
import Derived.Test.YtaddfndohoppeaaGreatMA0x0
import Derived.LaidEql
import Derived.Stop.Asserts
import Derived.RowKitTokens

/- slices.Equal at terms, slices.CompactFunc at rows of terms. -/
namespace Go.Proofs.YtaddfndohoppeaaGreat
open Go Go.RowKit Go.Proofs Go.Maps Go.Sort Go.Lib
set_option synthInstance.maxSize 1000
attribute [local go_sem ↓] neqTerm eqlTerm

theorem enters43 : ∀ args w, (callFunc 43 args).run Tryz.prog w = .ok (.enter 43 args) w := enters_of Tryz.func43 (by kernel_rfl) rfl
set_option maxHeartbeats 4000000 in
set_option maxRecDepth 100000 in
theorem EqualQ_any (ad bd : Option Addr) (ca cb : Nat) (a b : List Tm) (w : World) (ha : SlQ w ad a) (hb : SlQ w bd b) (la : a.length ≤ 1000000) :
    Calls Tryz.prog 43 #[.slice ad a.length ca, .slice bd b.length cb] w fun e w' => e = .returned (.bool (decide (a = b))) ∧ ∃ n, w' = w.drewN n := by
  have HA := hideE ha
  have HB := hideE hb
  clear ha hb
  by_cases hl : a.length = b.length
  · obtain ⟨R, hR⟩ : ∃ R, R = decide (a = b) := ⟨_, rfl⟩
    have HR : Hid (R = decide (a.drop 0 = b.drop 0)) := hR
    rw [← hR]
    clear hR
    have Hl := hideE hl
    have t0 : ((a.length : Int) != (b.length : Int)) = false := by simp; omega
    clear hl
    go_enter Tryz.func43, Tryz.ntmps43
    go_wp2_with fail
    go_loopw [13] (fun i wr => ∃ k n : Nat, k ≤ a.length ∧ i = .int .i64 k ∧ Hid (R = decide (a.drop k = b.drop k)) ∧ wr = w.drewN n) (fun i wr => a.length - (intOf i).toNat)
    case atStart => exact ⟨0, 0, Nat.zero_le _, rfl, HR.out, rfl⟩
    case round =>
      obtain ⟨k, n, hk, rfl, hC, rfl⟩ := hrel
      by_cases h1 : k < a.length
      · have h2 : k < b.length := by have := Hl.out; omega
        have t1 : decide ((k : Int) < (a.length : Int)) = true := by simp; omega
        have i0 : (0 : Int) ≤ (k : Int) := by omega
        have i1 : (k : Int) < (a.length : Int) := by omega
        have i2 : (k : Int) < (b.length : Int) := by omega
        obtain ⟨g, o, rfl, c0, c1, c2⟩ := HA.out.at k h1
        obtain ⟨g', o', rfl, d0, d1, d2⟩ := HB.out.at k h2
        have hC2 := hC.out
        rw [List.drop_eq_getElem_cons h1, List.drop_eq_getElem_cons h2] at hC2
        have HC2 := hideE hC2
        clear hC hC2
        have hq := eqTB_tm a[k] b[k]
        generalize a[k] = x at *
        generalize b[k] = y at *
        by_cases hxy : x = y
        · rw [decide_eq_true hxy] at hq
          have hR2 := hideE (show R = decide (a.drop (k + 1) = b.drop (k + 1)) by rw [HC2.out, hxy]; simp)
          clear hxy
          go_wp2_with fail
          go_region
          go_wp2_with fail
          go_roundw
          case rel => exact ⟨k + 1, n + 1, by omega, by go_num, hR2.out, rfl⟩
          case measure => simp [intOf]; omega
        · rw [decide_eq_false hxy] at hq
          have hR2 := hideE (show R = false by rw [HC2.out]; simp [hxy])
          clear hxy
          go_wp2_with fail
          go_region
          go_wp2_with fail
          go_ret
          exact ⟨by rw [hR2.out]; rfl, n + 1, rfl⟩
      · obtain rfl : k = a.length := by omega
        have t1 : decide ((a.length : Int) < (a.length : Int)) = false := by simp
        have hR2 := hideE (show R = true by rw [hC.out, List.drop_eq_nil_of_le (Nat.le_refl _), List.drop_eq_nil_of_le (by have := Hl.out; omega)]; rfl)
        go_wp2_with fail
        go_ret
        exact ⟨by rw [hR2.out]; rfl, n, rfl⟩
  · have t0 : ((a.length : Int) != (b.length : Int)) = true := by simp; omega
    have e : decide (a = b) = false := by simp; intro e; exact hl (by rw [e])
    rw [e]
    clear e hl
    go_enter Tryz.func43, Tryz.ntmps43
    go_wp2_with fail
    go_ret
    exact ⟨rfl, 0, rfl⟩
theorem SlQ.store {W : World} {rd : Option Addr} {l : List Tm} {g o : Nat} (h : SlQ W rd l) (hn : ∀ a, rd = some a → a.block ≠ g) (u : Value) : SlQ (W.setCell ⟨g, o, none⟩ u) rd l :=
  h.off hn (fun _ _ hne => RowKit.Below.heap_setCell _ _ _ _ hne)
theorem RowsC.set {W : World} {g k : Nat} {L : List (List Tm)} (h : RowsC W g L) {u : List Tm} {rd : Option Addr} {rc : Nat} (hs : SlQ W rd u) (hn : ∀ a, rd = some a → a.block ≠ g) : RowsC (W.setCell ⟨g, k, none⟩ (.slice rd u.length rc)) g (L.set k u) := by
  refine ⟨fun j hj => ?_, fun j hj => by rw [World.frozen?_setCell]; exact h.free j (by simpa using hj)⟩
  have hj' : j < L.length := by simpa using hj
  obtain ⟨r0, c0, e0, s0, n0⟩ := h.at_ j hj'
  by_cases e : j = k
  · subst e
    rw [List.getElem_set_self]
    exact ⟨rd, rc, World.cell?_setCell_same W _ _ e0, hs.store hn _, hn⟩
  · rw [List.getElem_set_ne (fun h => e h.symm)]
    exact ⟨r0, c0, (World.cell?_setCell_other W _ _ _ (fun h => e (by simpa using congrArg Addr.off h.symm))).trans e0, s0.store n0 _, n0⟩
theorem RowsC.drewN {W : World} {g : Nat} {L : List (List Tm)} (h : RowsC W g L) (n : Nat) : RowsC (W.drewN n) g L := h.below (below_drewN' (RowKit.Below.refl _ _) n)
theorem run_clearQ (w : World) (ty : TypeId) (b o n c : Nat) (hn : 0 < n) (hc : ∀ j, j < n → (w.cell? ⟨b, o + j, none⟩).isSome = true) (hf : ∀ j, j < n → w.frozen? ⟨b, o + j, none⟩ = false) :
    (Builtin.clear_ #[67] ty #[.slice (some ⟨b, o, none⟩) n c]).run Tryz.prog w = .ok (.tuple #[]) (w.setCells b o (List.replicate n (.slice none 0 0))) := by
  have hst := run_storeCells_cells (P := Tryz.prog) b o (List.replicate n (.slice none 0 0)) 0 w (by simpa using hc) (by simpa using hf) (fun v hv => by rw [List.mem_replicate] at hv; rw [hv.2]; rfl)
  simp only [Nat.add_zero] at hst
  have hz : ∀ w, (zeroValue 70).run Tryz.prog w = .ok (.slice none 0 0) w := fun w => by kernel_rfl
  have hzc : (Builtin.zeroCells (Value.slice none 0 0).cells n).toList = List.replicate n (.slice none 0 0) := by
    apply List.ext_getElem
    · simp [Builtin.zeroCells, Value.cells]
    · intro i h1 h2
      simp [Builtin.zeroCells, Value.cells, Nat.mod_one]
  obtain ⟨m, rfl⟩ : ∃ m, n = m + 1 := ⟨n - 1, by omega⟩
  simp [Builtin.clear_, run_underlying Tryz.underlying67, hz, hzc, hst]
theorem RowsC.clear {W : World} {g k m : Nat} {L : List (List Tm)} (h : RowsC W g L) (hk : k ≤ L.length) : RowsC (W.setCells g k (List.replicate m (.slice none 0 0))) g (L.take k) := by
  refine ⟨fun j hj => ?_, fun j hj => by rw [World.frozen?_setCells]; exact h.free j (by simp at hj; omega)⟩
  have hj' : j < L.length := by simp at hj; omega
  have hjk : j < k := by simp at hj; omega
  obtain ⟨r0, c0, e0, s0, n0⟩ := h.at_ j hj'
  rw [List.getElem_take]
  exact ⟨r0, c0, (World.cell?_setCells_out g _ k W ⟨g, j, none⟩ (fun _ _ => Or.inl hjk)).trans e0, s0.off n0 (fun i hi hne => World.heap_setCells_other W g k _ hi hne), n0⟩
set_option maxHeartbeats 8000000 in
set_option maxRecDepth 100000 in
theorem CompactQ_any (g cap k0 : Nat) (L : List (List Tm)) (w : World) (hR : RowsC w g L) (hL : LenR k0 L) (hk0 : k0 ≤ 1000000) (hn : L.length ≤ 1000000) (hcap : L.length ≤ cap) :
    Calls Tryz.prog 42 #[.slice (some ⟨g, 0, none⟩) L.length cap, .func (.func 43) #[] #[]] w fun e w' => e = .returned (.slice (some ⟨g, 0, none⟩) (compact L).length cap) ∧ RowsC w' g (compact L) ∧ RowKit.Below g w w' := by
  have HR := hideE hR
  have HL := hideE hL
  have eg := enters43
  have HE := hideE (fun (ad bd : Option Addr) (ca cb : Nat) (a b : List Tm) (W : World) (ha : SlQ W ad a) (hb : SlQ W bd b) (la : a.length = k0) => EqualQ_any ad bd ca cb a b W ha hb (by omega))
  obtain ⟨d, hd⟩ : ∃ d : Array (List Tm), d = L.toArray := ⟨_, rfl⟩
  have hsz : d.size = L.length := by rw [hd]; simp
  have hat : Hid (∀ j (h : j < L.length), d[j]! = L[j]) := fun j h => by rw [hd, getElem!_pos L.toArray j (by simpa using h)]; simp
  have hcomp : Hid (compact L = compactUpTo d d.size) := by show _ = _; rw [hsz, hd]; rfl
  have hall1 : Hid ((∀ j, j < d.size → keeps d j = true) → compact L = L) := fun h => compact_all L (by rw [← hd, ← hsz]; exact h)
  have hlist : Hid (d.toList = L) := by show _ = _; rw [hd]
  have HSZ := hideE hsz
  clear hR hL hd hsz
  obtain ⟨n, hnn⟩ : ∃ n, n = L.length := ⟨_, rfl⟩
  rw [← hnn]
  rw [← hnn] at hn hcap
  have HNN := hideE hnn
  clear hnn
  by_cases h2 : n < 2
  · have t2 : decide ((n : Int) < 2) = true := by simp; omega
    have hc := hideE (hall1.out (fun j hj => keeps_lt_one d j (by have := HSZ.out; have := HNN.out; omega)))
    go_enter Tryz.func42, Tryz.ntmps42
    go_wp2_with fail
    go_ret
    exact ⟨by rw [hc.out, ← HNN.out]; rfl, by rw [hc.out]; exact HR.out, RowKit.Below.refl _ _⟩
  · have t2 : decide ((n : Int) < 2) = false := by simp; omega
    go_enter Tryz.func42, Tryz.ntmps42
    go_wp2_with fail
    go_loopg [5] n (fun gh s5 wr => ∃ k q : Nat, 1 ≤ k ∧ k ≤ n ∧ n - k ≤ gh ∧ s5 = .int .i64 k ∧ wr = w.drewN q ∧ Hid (∀ j, j < k → keeps d j = true))
    case atStart => exact ⟨1, 0, Nat.le_refl _, by omega, by omega, rfl, rfl, keeps_lt_one d⟩
    case round =>
      obtain ⟨k, q, hk1, hk, hg, rfl, rfl, hall⟩ := hrel
      by_cases hlt : k < n
      · obtain ⟨m, hm⟩ : ∃ m, k = m + 1 := ⟨k - 1, by omega⟩
        have t3 : decide ((k : Int) < (n : Int)) = true := by simp; omega
        have hwr : IntKind.i64.wrap ((k : Int) - 1) = (m : Int) := by subst hm; simp [IntKind.wrap, IntKind.bits, IntKind.signed]; omega
        have i0 : (0 : Int) ≤ (m : Int) := by omega
        have i1 : (m : Int) < (n : Int) := by omega
        have i2 : (0 : Int) ≤ (k : Int) := by omega
        have i3 : (k : Int) < (n : Int) := by omega
        have n0 : m < n := by omega
        have hkL : k < L.length := by rw [← HNN.out]; exact hlt
        have hmL : m < L.length := by omega
        obtain ⟨rx, cx, c0, sx, nx⟩ := HR.out.at_ k hkL
        obtain ⟨ry, cy, d0, sy, ny⟩ := HR.out.at_ m hmL
        have hxl := HL.out _ (List.getElem_mem hkL)
        have B : Hid (d[k]! = L[k] ∧ d[k - 1]! = L[m]) := ⟨hat.out k hkL, by rw [show k - 1 = m by omega]; exact hat.out m hmL⟩
        generalize L[k] = x at *
        generalize L[m] = y at *
        have HEE := hideE (fun W (hW : ∃ j, W = w.drewN j) => show Calls Tryz.prog 43 #[.slice rx x.length cx, .slice ry y.length cy] W (fun e w' => e = .returned (.bool (decide (x = y))) ∧ ∃ n, w' = W.drewN n) by
          obtain ⟨j, rfl⟩ := hW
          exact HE.out rx ry cx cy x y (w.drewN j) (sx.below (below_drewN' (RowKit.Below.refl _ _) j)) (sy.below (below_drewN' (RowKit.Below.refl _ _) j)) hxl)
        clear sx sy nx ny hxl hm
        go_upto_region 6 with fail
        go_cut [28] from 18 to 27 (fun v W => v = .bool (decide (x = y)) ∧ ∃ q', W = w.drewN q')
        case first =>
          go_region_law (go_simp; go_at_fn 43; refine (HEE.out _ ⟨q + 1, rfl⟩).mono ?_; rintro e w2 ⟨rfl, n2, rfl⟩)
          all_goals
            go_wp2_with fail
            go_meet
            case rel => exact ⟨rfl, q + 1 + n2, by first | rfl | simp [World.drewN, Nat.add_assoc]⟩
        case rest =>
          obtain ⟨rfl, q', rfl⟩ := hcut
          clear c0 d0 HEE
          by_cases hxy : x = y
          · have hd1 : decide (x = y) = true := by simpa using hxy
            have KN := hideE (keeps_neg (d := d) (m := k) (by omega) (by rw [B.out.1, B.out.2]; exact hxy))
            clear hxy B
            rw [hd1]
            clear hd1
            have hst := hideE (CompInv.start hall.out KN.out)
            have hR0 := hideE (show RowsC (w.drewN q') g d.toList by rw [hlist.out]; exact HR.out.drewN q')
            have hcc : k < cap := by omega
            go_wp2_with fail
            go_loopg [5, 7] n (fun gh s5 s7 wr => ∃ (kk k2 : Nat) (dk : Array (List Tm)), s5 = .int .i64 kk ∧ s7 = .int .i64 k2 ∧ 1 ≤ k2 ∧ k + k2 ≤ n ∧ n - (k + k2) ≤ gh ∧ Hid (RowsC wr g dk.toList) ∧ Hid (CompInv d (k + k2) kk dk) ∧ RowKit.Below g w wr)
            case atStart => exact ⟨k, 1, d, rfl, rfl, Nat.le_refl _, by omega, by omega, hR0.out, hst.out, below_drewN' (RowKit.Below.refl _ _) q'⟩
            case round =>
              clear hR0 hst
              obtain ⟨kk, k2, dk, rfl, rfl, h1, hle, hg2, hRk, hI, hbr⟩ := hrel
              have hkk := hI.out.lt
              have hdn : dk.toList.length = n := by rw [Array.length_toList, hI.out.size, HSZ.out, ← HNN.out]
              have hdat : Hid (∀ j, kk ≤ j → ∀ (h : j < dk.toList.length), dk.toList[j] = d[j]!) := fun j hj h => by
                rw [← hI.out.high j hj, getElem!_pos dk j (by simpa using h)]
                simp
              by_cases hlt2 : k + k2 < n
              · obtain ⟨m2, hm2⟩ : ∃ m2, k2 = m2 + 1 := ⟨k2 - 1, by omega⟩
                have hwr3 : IntKind.i64.wrap ((k2 : Int) - 1) = (m2 : Int) := by subst hm2; simp [IntKind.wrap, IntKind.bits, IntKind.signed]; omega
                have t4 : decide ((k2 : Int) < ((n - k : Nat) : Int)) = true := by simp; omega
                have j0 : (0 : Int) ≤ (m2 : Int) := by omega
                have j1 : (m2 : Int) < ((n - k : Nat) : Int) := by omega
                have j2 : (0 : Int) ≤ (k2 : Int) := by omega
                have j3 : (k2 : Int) < ((n - k : Nat) : Int) := by omega
                have j4 : (0 : Int) ≤ (kk : Int) := by omega
                have j5 : (kk : Int) < (n : Int) := by omega
                have n1 : m2 < n - k := by omega
                have n2 : k2 < n - k := by omega
                have n3 : kk < n := by omega
                have p1 : k + k2 < dk.toList.length := by omega
                have p2 : k + m2 < dk.toList.length := by omega
                have p3 : kk < dk.toList.length := by omega
                obtain ⟨ru, cu, e0, su, nu⟩ := hRk.out.at_ (k + k2) p1
                obtain ⟨rv, cv, f0, sv, nv⟩ := hRk.out.at_ (k + m2) p2
                obtain ⟨ro, co, g0, _, _⟩ := hRk.out.at_ kk p3
                have gfz := hRk.out.free kk p3
                have eu := hideE (hdat.out (k + k2) (by omega) p1)
                have ev := hideE (hdat.out (k + m2) (by omega) p2)
                have ul : dk.toList[k + k2].length = k0 := by
                  rw [eu.out, hat.out (k + k2) (by rw [← HNN.out]; exact hlt2)]
                  exact HL.out _ (List.getElem_mem _)
                have hkm : Hid (k + k2 - 1 = k + m2) := by show _ = _; omega
                generalize dk.toList[k + k2] = u at *
                generalize dk.toList[k + m2] = v at *
                have HEE := hideE (fun W (hW : ∃ j, W = wr.drewN j) => show Calls Tryz.prog 43 #[.slice ru u.length cu, .slice rv v.length cv] W (fun e w' => e = .returned (.bool (decide (u = v))) ∧ ∃ n, w' = W.drewN n) by
                  obtain ⟨j, rfl⟩ := hW
                  exact HE.out ru rv cu cv u v (wr.drewN j) (su.below (below_drewN' (RowKit.Below.refl _ _) j)) (sv.below (below_drewN' (RowKit.Below.refl _ _) j)) ul)
                have Su := hideE su
                have Nu := hideE nu
                clear su sv nu nv ul hm2
                go_upto_region 11 with fail
                go_cut [49] from 38 to 48 (fun b W => b = .bool (!decide (u = v)) ∧ ∃ j, W = wr.drewN j)
                case first =>
                  go_region_law (go_simp; go_at_fn 43; refine (HEE.out _ ⟨1, rfl⟩).mono ?_; rintro e w2 ⟨rfl, n2, rfl⟩)
                  all_goals
                    go_wp2_with fail
                    go_meet
                    case rel => exact ⟨rfl, 1 + n2, by first | rfl | simp [World.drewN, Nat.add_assoc]⟩
                case rest =>
                  obtain ⟨rfl, j, rfl⟩ := hcut
                  by_cases huv : u = v
                  · have hd1 : decide (u = v) = true := by simpa using huv
                    have hs := hideE (hI.out.skip (keeps_neg (by omega) (by rw [hkm.out, ← eu.out, ← ev.out]; exact huv)))
                    clear huv
                    rw [hd1]
                    clear hd1 HEE e0 f0 g0 gfz
                    go_wp2_with fail
                    go_roundg (n - (k + (k2 + 1)))
                    case measure => omega
                    case rel => exact ⟨kk, k2 + 1, dk, rfl, by go_num, by omega, by omega, Nat.le_refl _, hRk.out.drewN j, hs.out, below_drewN' hbr j⟩
                  · have hd1 : decide (u = v) = false := by simpa using huv
                    have hs := hideE (hI.out.keep (by rw [HSZ.out, ← HNN.out]; exact hlt2) (keeps_pos (by rw [hkm.out, ← eu.out, ← ev.out]; exact huv)))
                    have hset := hideE ((hRk.out.drewN j).set (k := kk) (rc := cu) (Su.out.below (below_drewN' (RowKit.Below.refl _ _) j)) Nu.out)
                    clear huv
                    rw [hd1]
                    clear hd1 HEE f0
                    go_wp2_with fail
                    go_roundg (n - (k + (k2 + 1)))
                    case measure => omega
                    case rel => exact ⟨kk + 1, k2 + 1, dk.setIfInBounds kk d[k + k2]!, by go_num, by go_num, by omega, by omega, Nat.le_refl _, by show RowsC _ _ _; rw [← eu.out, Array.toList_setIfInBounds]; exact hset.out, hs.out, (below_drewN' hbr j).setCell (p := ⟨g, kk, none⟩) (Nat.le_refl _) _⟩
              · have hend : k + k2 = n := by omega
                have t4 : decide ((k2 : Int) < ((n - k : Nat) : Int)) = false := by simp; omega
                have hcl : ∀ ty, (Builtin.clear_ #[67] ty #[.slice (some ⟨g, kk, none⟩) (n - kk) (cap - kk)]).run Tryz.prog wr = .ok (.tuple #[]) (wr.setCells g kk (List.replicate (n - kk) (.slice none 0 0))) := fun ty => run_clearQ wr ty g kk (n - kk) (cap - kk) (by omega) (fun j hj => by
                  obtain ⟨r, c, e, _⟩ := hRk.out.at_ (kk + j) (by omega)
                  rw [e]; rfl) (fun j hj => hRk.out.free (kk + j) (by omega))
                have i5 : (0 : Int) ≤ (kk : Int) := by omega
                have i6 : (kk : Int) ≤ (n : Int) := by omega
                have i7 : kk < cap := by omega
                have i8 : kk ≤ n := by omega
                have hdsz : d.size = n := by rw [HSZ.out, ← HNN.out]
                have hlenk : (compactUpTo d d.size).length = kk := by have := hI.out.len; rw [hend, ← hdsz] at this; exact this
                have htake : dk.toList.take kk = compact L := by
                  rw [hcomp.out]
                  apply List.ext_getElem?
                  intro j
                  by_cases hj : j < kk
                  · have h3 := hI.out.low j hj
                    rw [hend, ← hdsz] at h3
                    rw [h3, List.getElem?_take, if_pos hj, List.getElem?_eq_getElem (by omega), getElem!_pos dk j (by have := hI.out.size; omega)]
                    simp
                  · rw [List.getElem?_eq_none (by simp; omega), List.getElem?_eq_none (by omega)]
                have hfin := hideE (hRk.out.clear (m := n - kk) (k := kk) (by omega))
                have hlc : Hid ((compact L).length = kk) := by show _ = _; rw [hcomp.out]; exact hlenk
                have Htake := hideE htake
                have hBf := hideE (below_setCells hbr (Nat.le_refl g) (List.replicate (n - kk) (.slice none 0 0)) kk)
                clear htake hlenk hdsz hend hdn
                go_wp2_with fail
                go_ret
                exact ⟨by rw [hlc.out]; rfl, by rw [← Htake.out]; exact hfin.out, hBf.out⟩
          · have hd1 : decide (x = y) = false := by simpa using hxy
            have KP := hideE (keeps_pos (d := d) (m := k) (by rw [B.out.1, B.out.2]; exact hxy))
            clear hxy B
            rw [hd1]
            clear hd1
            go_wp2_with fail
            go_roundg (n - (k + 1))
            case measure => omega
            case rel => exact ⟨k + 1, q', by omega, by omega, Nat.le_refl _, by go_num, rfl, fun j hj => by
              by_cases e : j = k
              · rw [e]; exact KP.out
              · exact hall.out j (by omega)⟩
      · obtain rfl : k = n := by omega
        have t3 : decide ((k : Int) < (k : Int)) = false := by simp
        have hc := hideE (hall1.out (fun j hj => hall.out j (by have := HSZ.out; have := HNN.out; omega)))
        go_wp2_with fail
        go_ret
        exact ⟨by rw [hc.out, ← HNN.out]; rfl, by rw [hc.out]; exact HR.out.drewN q, below_drewN' (RowKit.Below.refl _ _) q⟩
end Go.Proofs.YtaddfndohoppeaaGreat

/- The program's Solve and Naive. -/
namespace Go.Proofs.YtaddfndohoppeaaGreat
open Go Go.RowKit Go.Proofs Go.Maps Go.Sort Go.Lib
set_option synthInstance.maxSize 1000
attribute [local go_sem] eql_errV neq_errV guard_errV

def SolveAns (S : List Tr) (q : Qu) (w : World) (e : Ending) (w' : World) : Prop := RowKit.Below w.heap.size w w' ∧ ∃ ad c, e = .returned (.tuple #[.slice ad (solveL S q).length c, errV (solveN S q)]) ∧ SlR w' ad (solveL S q) ∧ (solveL S q).length ≤ c ∧ (solveN S q = 0 → ∃ b, ad = some ⟨b, 0, none⟩)
theorem infoRow : (Tryz.prog.info? 70).map (fun i => (i.zero, i.size, i.bytes)) = some (some (.slice none 0 0), 1, 24) := by kernel_rfl
theorem makeRows (n : Nat) (w : World) (h : n ≤ 100000) : (Instr.makeSlice 67 (.int .i64 (n : Int)) (.int .i64 (n : Int))).run Tryz.prog w = .ok (.slice (some ⟨w.heap.size, 0, none⟩) n n) (w.alloc (.cells (madeCells #[.slice none 0 0] n) 70)) := by
  obtain ⟨i, hi, hz⟩ := Option.map_eq_some_iff.1 infoRow
  simp only [Prod.mk.injEq] at hz
  obtain ⟨h1, h2, h3⟩ := hz
  have := run_make (P := Tryz.prog) w 67 70 i _ Tryz.underlying67 hi h1 .i64 .i64 (n : Int) (n : Int) (by omega) (Int.le_refl _) (by rw [h3]; omega) (by omega)
  rw [h2] at this
  simpa [Value.cells] using this
theorem rowsC_made (W : World) (n : Nat) (T : TypeId) : RowsC (W.alloc (.cells (madeCells #[.slice none 0 0] n) T)) W.heap.size (List.replicate n []) := by
  have hh := heap_alloc_last W (.cells (madeCells #[.slice none 0 0] n) T)
  refine ⟨fun j hj => ?_, fun j hj => frozen_of_row _ _ j _ T hh⟩
  have hj' : j < n := by simpa using hj
  refine ⟨none, 0, ?_, ?_, fun a h => by cases h⟩
  · rw [cell_of_row _ _ j _ T (0, 0) hh, ← Array.getElem?_toList, toList_madeCells_one]
    simp [hj']
  · simp only [List.getElem_replicate]
    exact slQ_nil _ _
/-- as far as the rows are laid -/
def rowsK (P : List (List Tm)) (k : Nat) : List (List Tm) := P.take k ++ List.replicate (P.length - k) []
theorem rowsK_len (P : List (List Tm)) (k : Nat) (h : k ≤ P.length) : (rowsK P k).length = P.length := by simp [rowsK]; omega
theorem rowsK_next {P : List (List Tm)} {k : Nat} (h : k < P.length) : (rowsK P k).set k P[k] = rowsK P (k + 1) := by
  unfold rowsK
  obtain ⟨m, hm⟩ : ∃ m, P.length - k = m + 1 := ⟨P.length - k - 1, by omega⟩
  have hm2 : P.length - (k + 1) = m := by omega
  have hk : (P.take k).length = k := by simp; omega
  rw [hm, hm2, List.replicate_succ, List.set_append_right _ _ (by omega), hk, Nat.sub_self, List.set_cons_zero, List.take_succ_eq_append_getElem h, List.append_assoc]
  rfl
theorem rowsK_all (P : List (List Tm)) : rowsK P P.length = P := by simp [rowsK]
theorem rowsK_zero (P : List (List Tm)) : rowsK P 0 = List.replicate P.length [] := by simp [rowsK]
theorem proj_terms (vars told : List (List UInt8)) (r : List Tm) : termsE (boundT vars r) told = projR vars told r := rfl
theorem SlR.take {w : World} {ad : Option Addr} {L : List (List Tm)} (h : SlR w ad L) (k : Nat) : SlR w ad (L.take k) := fun hl => by
  have hne : L ≠ [] := fun e => by rw [e] at hl; simp at hl
  obtain ⟨b, o, e, r⟩ := h hne
  refine ⟨b, o, e, fun j hj => ?_⟩
  have hj' : j < L.length := by simp at hj; omega
  obtain ⟨rd, rc, c, s⟩ := r j hj'
  rw [List.getElem_take]
  exact ⟨rd, rc, c, s⟩
theorem solve_rows {S : List Tr} {q : Qu} {vars : List (List UInt8)} {rows : List (List Tm)} (hz : solveN S q = 0) (ha : answersL S q.parts = some (vars, rows)) : solveL S q = limR q.lim (sortR (ltQ q) q.dist (rows.map (projR vars q.vars))) := by
  unfold solveL solveA
  rw [if_pos hz, ha]
theorem limR_all {lim : Int} {L : List (List Tm)} (h : ¬ (0 ≤ lim ∧ lim < (L.length : Int))) : limR lim L = L := by
  unfold limR
  split
  · exact List.take_of_length_le (by omega)
  · rfl
set_option maxHeartbeats 8000000 in
set_option maxRecDepth 100000 in
theorem Solve_any (ad : Option Addr) (ca : Nat) (S : List Tr) (q : Qu) (vd pd : Option Addr) (vc pc : Nat) (w : World) (h : SlT w ad S) (hfit : ∀ x ∈ S, fitTr x) (hn : S.length ≤ 9223372036854775807) (hq : QuIn w q vd pd) (hf : FitQ q) (hvc : q.vars.length ≤ vc) :
    Calls Tryz.prog 19 #[.slice ad S.length ca, valQ q vd vc pd pc] w (SolveAns S q w) := by
  have HA := fun W (hb : RowKit.Below w.heap.size w W) => answersTo_any ad ca S q vd pd vc pc W (h.below hb) hfit hn (hq.below hb) hf hvc
  have HO := fun W (hb : RowKit.Below w.heap.size w W) => ordering_any q vd pd vc pc W (hq.below hb) hf
  have Hq := hideE hq
  have Hvt := hideE hf.vt
  obtain ⟨Q, hQ⟩ : ∃ Q, Q = SolveAns S q w := ⟨_, rfl⟩
  have HQ : Hid (∀ e w', SolveAns S q w e w' → Q e w') := fun e w' h => by rw [hQ]; exact h
  rw [← hQ]
  clear h hq hf hfit hn hQ
  obtain ⟨W0, hW0⟩ : ∃ W0, W0 = w.alloc (.cells #[.slice vd q.vars.length vc, .slice pd q.parts.length pc, .string ⟨q.order.toArray⟩, .bool q.down, .bool q.dist, .int .i64 q.lim] 66) := ⟨_, rfl⟩
  have hB0 : RowKit.Below w.heap.size w W0 := by rw [hW0]; exact balloc _ _
  have hX0 := hideE (show BoxQ W0 w.heap.size q vd pd vc pc by rw [hW0]; exact boxQ_new _ _ _ _ _ _)
  obtain ⟨c0, c1, c2, c3, c4, c5⟩ := hX0.out
  unfold valQ at HA HO ⊢
  obtain ⟨dq, hdq⟩ : ∃ b, b = q.dist := ⟨_, rfl⟩
  rw [← hdq] at HA HO hW0 c4 ⊢
  have Hdq := hideE hdq
  clear hdq
  have HHO := hideE HO
  clear HO
  go_enter Tryz.func19, Tryz.ntmps19
  go_upto_region 1 with fail
  rw [← hW0]
  clear hW0
  go_wp2_with fail
  refine (HA W0 hB0).mono ?_
  rintro e w1 ⟨hb1, hbad, hgood⟩
  clear c0 c1 c2 c3 c4 c5 HA
  by_cases hz : solveN S q = 0
  · obtain ⟨vars, rows, ax, cx, az, cz, hans, rfl, hsl, _⟩ := hgood hz
    obtain ⟨hset, hgq, _⟩ := solve_good hz
    have hokr := (answersL_ok hans).2
    have hsol := hideE (solve_rows hz hans)
    have Hz := hideE hz
    have hB1 := bstep hB0 hb1
    have hX1 := hideE (hX0.out.below hb1)
    have HE := hideE hsl
    have hv8 : q.vars.length ≤ 100000 := by
      have := few_le q.vars (partsV [] q.parts) hgq.once (fun v hv => hgq.within v hv)
      have := hgq.eight
      omega
    have hlim := hgq.lim
    have hwi : ∀ j, whereV q.vars q.order = some j → j < q.vars.length := fun j hj => by
      unfold whereV at hj
      split at hj
      · rename_i hm
        injection hj with hj
        rw [← hj]
        exact List.idxOf_lt_length_of_mem hm
      · cases hj
    have Hwi := hideE hwi
    have hP : rows.length = (rows.map (projR vars q.vars)).length := by simp
    have hLen := hideE (proj_len vars q.vars rows)
    have HK : Hid (∀ k (hk : k < (rows.map (projR vars q.vars)).length), ∃ b o bm f, ax = some ⟨b, o, none⟩ ∧ w1.cell? ⟨b, o + k, none⟩ = some (.map (some bm)) ∧ EvAt w1 bm 18 f ∧ termsE f q.vars = (rows.map (projR vars q.vars))[k]) := fun k hk => by
      obtain ⟨b, o, bm, e1, e2, e3⟩ := HE.out.at k (by simpa using hk)
      exact ⟨b, o, bm, _, e1, e2, e3, by simp [proj_terms]⟩
    have HTm : Hid (∀ f W bm, EvAt W bm 18 f → SlW W vd q.vars → Calls Tryz.prog 39 #[.map (some bm), .slice vd q.vars.length vc] W fun e w' => e = .returned (.slice (some ⟨W.heap.size, 0, none⟩) q.vars.length q.vars.length) ∧ RowQ w' W.heap.size (termsE f q.vars) ∧ RowKit.Below W.heap.size W w') := fun f W bm h1 h2 => terms_any bm 18 f vd vc q.vars W h1 h2 Hvt.out hv8
    rw [hP] at hokr ⊢
    clear hgood hbad hans hsl hz hset hgq hwi HE hP
    generalize rows.map (projR vars q.vars) = P at *
    have hmk := fun W => makeRows P.length W (by omega)
    have hR0 := hideE (rowsC_made w1 P.length 70)
    rw [← rowsK_zero] at hR0
    dsimp only
    obtain ⟨np, hnp⟩ : ∃ n, n = P.length := ⟨_, rfl⟩
    rw [← hnp] at hmk hokr ⊢
    have Hnp := hideE hnp
    have c0 := hX1.out.c0
    have hz1 := World.block_lt_of_cell? w1 _ c0
    dsimp only at hz1
    obtain ⟨W1, hW1⟩ : ∃ W1, W1 = w1.alloc (.cells (madeCells #[.slice none 0 0] np) 70) := ⟨_, rfl⟩
    rw [← hnp, ← hW1] at hR0
    have hB2 : RowKit.Below w1.heap.size w1 W1 := by rw [hW1]; exact balloc _ _
    have hz2 : w1.heap.size < W1.heap.size := by rw [hW1]; simp
    clear hnp
    go_upto_region 5 with fail
    rw [← hW1]
    clear hW1 hmk
    go_wp2_with fail
    go_loopw [27] (fun i wr => ∃ k : Nat, k ≤ np ∧ i = .int .i64 k ∧ Hid (RowsC wr w1.heap.size (rowsK P k)) ∧ RowKit.Below w1.heap.size w1 wr ∧ w1.heap.size < wr.heap.size) (fun i wr => np - (intOf i).toNat)
    case atStart => exact ⟨0, Nat.zero_le _, rfl, hR0.out, hB2, hz2⟩
    case round =>
      clear hR0 hB2 hz2
      obtain ⟨k, hk, rfl, hRk, hbr, hz2⟩ := hrel
      by_cases hlt : k < np
      · have t1 : decide ((k : Int) < (np : Int)) = true := by simp; omega
        have i0 : (0 : Int) ≤ (k : Int) := by omega
        have i1 : (k : Int) < (np : Int) := by omega
        have hkP : k < P.length := by rw [← Hnp.out]; exact hlt
        obtain ⟨b, o, bm, f, rfl, cm, em, et⟩ := HK.out k hkP
        have cmr := (hbr.cell (World.block_lt_of_cell? w1 _ cm)).trans cm
        have c0r := (hbr.cell (p := ⟨w.heap.size, 0, none⟩) hz1).trans c0
        have HT := HTm.out f wr bm (em.far hbr em.lt) (Hq.out.vars.below (bstep hB1 hbr))
        have hnext := hideE (rowsK_next hkP)
        have Het := hideE et
        obtain ⟨ro, co, g0, _, _⟩ := hRk.out.at_ k (by rw [rowsK_len P k (by omega)]; exact hkP)
        have gz := World.block_lt_of_cell? wr _ g0
        clear cm em et
        go_wp2_with fail
        refine HT.mono ?_
        rintro e w2 ⟨rfl, hr2, hb2⟩
        rw [Het.out] at hr2
        have hRk2 := hideE (hRk.out.below hb2)
        have g2 := (hb2.cell (p := ⟨w1.heap.size, k, none⟩) hz2).trans g0
        have f2 := hRk2.out.free k (by rw [rowsK_len P k (by omega)]; exact hkP)
        have hlenk : q.vars.length = P[k].length := (hLen.out _ (List.getElem_mem hkP)).symm
        have hset := hideE (hRk2.out.set (k := k) (u := P[k]) (rd := some ⟨wr.heap.size, 0, none⟩) (rc := q.vars.length) hr2.sl (fun a ha => by simp at ha; rw [← ha]; show wr.heap.size ≠ w1.heap.size; omega))
        rw [hnext.out, ← hlenk] at hset
        have hBf := hideE (bstep hbr hb2)
        have hzf := hb2.size
        clear hr2 hRk2 g0 hlenk
        dsimp only
        go_wp2_with fail
        go_roundw
        case rel => exact ⟨k + 1, by omega, by go_num, hset, hBf.out.setCell (p := ⟨w1.heap.size, k, none⟩) (Nat.le_refl _) _, by simp [World.setCell]; omega⟩
        case measure => simp [intOf]; omega
      · obtain rfl : k = np := by omega
        have t1 : decide ((k : Int) < (k : Int)) = false := by simp
        have hRP := hideE (show RowsC wr w1.heap.size P by have := hRk.out; rw [Hnp.out, rowsK_all] at this; exact this)
        clear hRk
        obtain ⟨x0, x1, x2, x3, x4, x5⟩ := hX1.out.below hbr
        rw [← Hdq.out] at x4
        have hBw := bstep hB1 hbr
        have hX4 := hideE x4
        have hX5 := hideE x5
        go_wp2_with fail
        refine (HHO.out wr hBw).mono ?_
        rintro e w3 ⟨v, rfl, hv, hb3, hnew⟩
        have HSo := sortRows_any w1.heap.size k q.vars.length (whereV q.vars q.order) q.down v P w3 hv (hRP.out.below hb3) hLen.out (by omega) Hwi.out (by rw [← Hnp.out]; omega) (fun j _ bA bS bQ he => by
          obtain ⟨n1, n2, n3⟩ := hnew bA bS bQ he
          exact ⟨by omega, by omega, by omega⟩)
        rw [← Hnp.out] at HSo
        have hB3 := hideE (bstep hBw hb3)
        have hzz : w1.heap.size ≤ w3.heap.size := by have := hb3.size; omega
        have hg3 : w.heap.size < w1.heap.size := hz1
        have hbw3 : Hid (RowKit.Below w1.heap.size w1 w3) := bstep hbr hb3
        clear x0 x1 x2 x3 x4 x5 hv hnew hRP HHO hb3
        dsimp only
        go_wp2_with fail
        refine HSo.mono ?_
        rintro e w4 ⟨rfl, hb4, hR4⟩
        have hlt : Hid (aheadB (whereV q.vars q.order) q.down = ltQ q) := rfl
        rw [hlt.out] at hR4
        have x4 : w4.cell? ⟨w.heap.size, 4, none⟩ = some (.bool dq) := by rw [Hdq.out]; exact (hb4.cell (p := ⟨w.heap.size, 4, none⟩) hg3).trans ((hbw3.out.cell (p := ⟨w.heap.size, 4, none⟩) hg3).trans hX1.out.c4)
        have x5 : w4.cell? ⟨w.heap.size, 5, none⟩ = some (.int .i64 q.lim) := (hb4.cell (p := ⟨w.heap.size, 5, none⟩) hg3).trans ((hbw3.out.cell (p := ⟨w.heap.size, 5, none⟩) hg3).trans hX1.out.c5)
        have hlenT : (sortR (ltQ q) false P).length = k := by rw [sort_len, ← Hnp.out]
        have hLT : LenR q.vars.length (sortR (ltQ q) false P) := fun x hx => hLen.out x (sort_mem.1 hx)
        have hcs := hideE (comp_sort (ordQ q q.vars.length) hLen.out (fold_sorted (ordQ q q.vars.length) hLen.out (fun x hx => by cases hx) List.Pairwise.nil))
        have HCo := CompactQ_any w1.heap.size k q.vars.length (sortR (ltQ q) false P) w4 hR4 hLT (by omega) (by omega) (by omega)
        rw [hlenT, hcs.out] at HCo
        have hR4' := hideE hR4
        have hB4 := hideE hb4
        clear hR4 hb4 HSo hLT hcs
        dsimp only
        go_upto_if 45 with fail
        go_cut [9] from 46 to 47 (fun vv W => ∃ m, vv = .slice (some ⟨w1.heap.size, 0, none⟩) m k ∧ Hid (m = (sortR (ltQ q) q.dist P).length) ∧ Hid (RowsC W w1.heap.size (sortR (ltQ q) q.dist P)) ∧ Hid (RowKit.Below w1.heap.size w3 W))
        case first =>
          cases dq with
          | false =>
            go_wp2_with fail
            go_meet
            case rel => exact ⟨k, rfl, by show _ = _; rw [← Hdq.out]; exact hlenT.symm, by show RowsC _ _ _; rw [← Hdq.out]; exact hR4'.out, hB4.out⟩
          | true =>
            go_wp2_with fail
            refine HCo.mono ?_
            rintro e w5 ⟨rfl, hr5, hb5⟩
            dsimp only
            generalize hml : (sortR (ltQ q) true P).length = ml at *
            have Hml := hideE hml
            have HR5 := hideE hr5
            clear hml hr5
            go_wp2_with fail
            go_meet
            case rel => exact ⟨ml, rfl, by show _ = _; rw [← Hdq.out]; exact Hml.out.symm, by show RowsC _ _ _; rw [← Hdq.out]; exact HR5.out, hB4.out.trans hb5⟩
        case rest =>
          obtain ⟨m, rfl, hm, hRf, hBf⟩ := hcut
          have y5 : wc.cell? ⟨w.heap.size, 5, none⟩ = some (.int .i64 q.lim) := (hBf.out.cell (p := ⟨w.heap.size, 5, none⟩) hg3).trans ((hbw3.out.cell (p := ⟨w.heap.size, 5, none⟩) hg3).trans hX1.out.c5)
          have hmk2 : m ≤ k := by
            rw [hm.out]
            cases hdq : q.dist with
            | false => rw [hlenT]; exact Nat.le_refl _
            | true =>
              have := once_le _ P (sort_once (ltQ q) P) (fun v hv => sort_mem.1 hv)
              rw [← Hnp.out] at this
              exact this
          have hBall := hideE (hB3.out.trans (hBf.out.mono (by omega)))
          clear x4 x5 HCo hR4' hB4 hlenT
          by_cases h0 : 0 ≤ q.lim
          · obtain ⟨ln, hln0⟩ : ∃ ln : Nat, q.lim = (ln : Int) := ⟨q.lim.toNat, by omega⟩
            rw [hln0] at y5
            have hln := hideE hln0
            clear hln0
            have t2 : decide ((ln : Int) ≥ 0) = true := by simp
            by_cases h1 : ln < m
            · have t3 : decide ((ln : Int) < (m : Int)) = true := by simp; omega
              have l0 : (0 : Int) ≤ (ln : Int) := by omega
              have l1 : (ln : Int) ≤ (k : Int) := by omega
              have l2 : ln ≤ k := by omega
              have hfin : Hid (solveL S q = (sortR (ltQ q) q.dist P).take ln) := by
                show _ = _
                rw [hsol.out]
                unfold limR
                rw [if_pos h0, hln.out]
                simp
              go_wp2_with fail
              exact HQ.out (.returned (.tuple #[.slice (some ⟨w1.heap.size, 0, none⟩) ln k, .nilIface])) wc ⟨hBall.out, some ⟨w1.heap.size, 0, none⟩, k, by
                rw [hfin.out, Hz.out, List.length_take, ← hm.out, Nat.min_eq_left (by omega)]
                rfl, by rw [hfin.out]; exact hRf.out.sl.take ln, by rw [hfin.out, List.length_take]; omega, fun _ => ⟨_, rfl⟩⟩
            · have t3 : decide ((ln : Int) < (m : Int)) = false := by simp; omega
              have hfin : Hid (solveL S q = sortR (ltQ q) q.dist P) := by
                show _ = _
                rw [hsol.out]
                exact limR_all (fun h => by have := h.2; rw [hln.out, ← hm.out] at this; omega)
              go_wp2_with fail
              exact HQ.out (.returned (.tuple #[.slice (some ⟨w1.heap.size, 0, none⟩) m k, .nilIface])) wc ⟨hBall.out, some ⟨w1.heap.size, 0, none⟩, k, by
                rw [hfin.out, Hz.out, ← hm.out]
                rfl, by rw [hfin.out]; exact hRf.out.sl, by rw [hfin.out, ← hm.out]; exact hmk2, fun _ => ⟨_, rfl⟩⟩
          · have t2 : decide (q.lim ≥ 0) = false := by simp; omega
            have hfin : Hid (solveL S q = sortR (ltQ q) q.dist P) := by
              show _ = _
              rw [hsol.out]
              exact limR_all (fun h => h0 h.1)
            go_wp2_with fail
            exact HQ.out (.returned (.tuple #[.slice (some ⟨w1.heap.size, 0, none⟩) m k, .nilIface])) wc ⟨hBall.out, some ⟨w1.heap.size, 0, none⟩, k, by
              rw [hfin.out, Hz.out, ← hm.out]
              rfl, by rw [hfin.out]; exact hRf.out.sl, by rw [hfin.out, ← hm.out]; exact hmk2, fun _ => ⟨_, rfl⟩⟩
  · obtain rfl := hbad hz
    have hl : solveL S q = [] := by unfold solveL; rw [if_neg hz]
    have Hl := hideE hl
    have e1 : (solveN S q == 0) = false := by simpa using hz
    clear hgood hbad
    dsimp only
    go_wp2_with fail
    exact HQ.out _ _ ⟨bstep hB0 hb1, none, 0, by rw [Hl.out]; rfl, by rw [Hl.out]; exact slR_nil _ _, by rw [Hl.out]; exact Nat.le_refl 0, fun h => absurd h hz⟩
end Go.Proofs.YtaddfndohoppeaaGreat

/- TopLayers' closed fact: what is committed is asked. -/
namespace Go.Proofs.YtaddfndohoppeaaGreat
open Go Go.RowKit Go.Proofs
set_option synthInstance.maxSize 1000
attribute [local go_sem] eql_errV neq_errV guard_errV
attribute [local go_sem ↓] eqlTerm

def oneT : Tr := ((1, [97], []), (1, [98], []), (3, [99], []))
def oneP : Pt := (([], (1, [97], [])), ([], (1, [98], [])), ([120], tmZero))
def oneQ : Qu := ⟨[[120]], [oneP], [], false, false, -1⟩
set_option maxRecDepth 100000 in
theorem oneN : solveN [oneT] oneQ = 0 := by decide +kernel
set_option maxRecDepth 100000 in
theorem oneL : solveL [oneT] oneQ = [[(3, [99], [])]] := by decide +kernel
set_option maxRecDepth 100000 in
theorem oneE : commitE emptyR [109] [oneT] [] = 0 := by decide +kernel
theorem oneFit : FitQ oneQ := by
  refine ⟨by simp [oneQ], by simp [oneQ], ?_, ?_, by simp [oneQ], by decide⟩
  · intro v hv
    simp [oneQ] at hv
    subst hv
    simp; unfold maxLen; omega
  · intro p hp
    simp [oneQ] at hp
    subst hp
    refine ⟨⟨?_, ?_, ?_⟩, ⟨?_, ?_, ?_⟩, ⟨?_, ?_, ?_⟩⟩ <;> (simp [oneP, tmZero]; try (unfold maxLen; omega))
theorem oneTr : ∀ x ∈ [oneT], fitTr x := fun x hx => by
  simp at hx
  subst hx
  refine ⟨⟨?_, ?_⟩, ⟨?_, ?_⟩, ⟨?_, ?_⟩⟩ <;> (simp [oneT]; try (unfold maxLen; omega))
theorem oneSolve (xd vd pd : Option Addr) (xc vc pc : Nat) (w : World) (hx : SlT w xd [oneT]) (hv : SlW w vd [[120]]) (hp : SlPt w pd [oneP]) (hc : 1 ≤ vc) :
    Calls Tryz.prog 19 #[.slice xd 1 xc, .agg #[.slice vd 1 vc, .slice pd 1 pc, .string ⟨#[]⟩, .bool false, .bool false, .int .i64 (-1)]] w fun e w' => RowKit.Below w.heap.size w w' ∧ ∃ ad c, e = .returned (.tuple #[.slice ad 1 c, .nilIface]) ∧ SlR w' ad [[(3, [99], [])]] := by
  have := Solve_any xd xc [oneT] oneQ vd pd vc pc w hx oneTr (by simp) ⟨hv, hp⟩ oneFit hc
  unfold SolveAns at this
  rw [oneN, oneL] at this
  exact this.mono fun _ _ ⟨h1, ad, c, h2, h3, _⟩ => ⟨h1, ad, c, h2, h3⟩
theorem slPt_oneT {w : World} {b : Nat} {p : Pt} (h : ∀ j v, (encPt p)[j]? = some v → w.cell? ⟨b, j, none⟩ = some v) : SlPt w (some ⟨b, 0, none⟩) [p] := fun _ => ⟨b, 0, rfl, fun j v hj => by rw [Nat.zero_add]; exact h j v (by simpa [cellsPt] using hj)⟩
theorem slW_oneT {w : World} {b : Nat} {v : List UInt8} (h : w.cell? ⟨b, 0, none⟩ = some (.string ⟨v.toArray⟩)) : SlW w (some ⟨b, 0, none⟩) [v] := fun _ => ⟨b, 0, rfl, fun j hj => by
  obtain rfl : j = 0 := by simpa using hj
  exact h⟩
theorem hide1 {p : Prop} (h : p) : Hid p := h
def oneW (w : World) : World := (w.alloc (.cells #[.int .i64 1, .string ⟨#[97]⟩, .string ⟨#[]⟩, .int .i64 1, .string ⟨#[98]⟩, .string ⟨#[]⟩, .int .i64 3, .string ⟨#[99]⟩, .string ⟨#[]⟩] 58)).alloc (.cells #[.int .i64 1, .string ⟨#[97]⟩, .string ⟨#[]⟩, .int .i64 1, .string ⟨#[98]⟩, .string ⟨#[]⟩, .int .i64 3, .string ⟨#[99]⟩, .string ⟨#[]⟩] 58)
def CellsO (W : World) (b : Nat) : Prop := ∀ j v, (encTr oneT)[j]? = some v → W.cell? ⟨b, j, none⟩ = some v
theorem CellsO.all {W : World} {b : Nat} (h : CellsO W b) : W.cell? ⟨b, 0, none⟩ = some (.int .i64 1) ∧ W.cell? ⟨b, 1, none⟩ = some (.string ⟨#[97]⟩) ∧ W.cell? ⟨b, 2, none⟩ = some (.string ⟨#[]⟩) ∧ W.cell? ⟨b, 3, none⟩ = some (.int .i64 1) ∧ W.cell? ⟨b, 4, none⟩ = some (.string ⟨#[98]⟩) ∧ W.cell? ⟨b, 5, none⟩ = some (.string ⟨#[]⟩) ∧ W.cell? ⟨b, 6, none⟩ = some (.int .i64 3) ∧ W.cell? ⟨b, 7, none⟩ = some (.string ⟨#[99]⟩) ∧ W.cell? ⟨b, 8, none⟩ = some (.string ⟨#[]⟩) :=
  ⟨h 0 _ rfl, h 1 _ rfl, h 2 _ rfl, h 3 _ rfl, h 4 _ rfl, h 5 _ rfl, h 6 _ rfl, h 7 _ rfl, h 8 _ rfl⟩
theorem CellsO.below {W W' : World} {b : Nat} (h : CellsO W b) (hb : RowKit.Below W.heap.size W W') : CellsO W' b := fun j v hv => (hb.cell (World.block_lt_of_cell? _ _ (h j v hv))).trans (h j v hv)
theorem oneW_has (w : World) : CellsO (oneW w) w.heap.size ∧ SlT (oneW w) (some ⟨w.heap.size + 1, 0, none⟩) [oneT] ∧ RowKit.Below w.heap.size w (oneW w) ∧ (oneW w).heap.size = w.heap.size + 2 := by
  refine ⟨?_, ?_, bstep (balloc _ _) (balloc _ _), ?_⟩
  · intro j v hj
    unfold oneW
    have h9 : j < 9 := (List.getElem?_eq_some_iff.1 hj).1
    rcases (by omega : j = 0 ∨ j = 1 ∨ j = 2 ∨ j = 3 ∨ j = 4 ∨ j = 5 ∨ j = 6 ∨ j = 7 ∨ j = 8) with rfl | rfl | rfl | rfl | rfl | rfl | rfl | rfl | rfl
    all_goals
      simp [encTr, oneT] at hj
      subst hj
      go_simp
  · intro _
    refine ⟨w.heap.size + 1, 0, rfl, fun j v hj => ?_⟩
    rw [Nat.zero_add]
    unfold oneW
    have h9 : j < 9 := (List.getElem?_eq_some_iff.1 hj).1
    rcases (by omega : j = 0 ∨ j = 1 ∨ j = 2 ∨ j = 3 ∨ j = 4 ∨ j = 5 ∨ j = 6 ∨ j = 7 ∨ j = 8) with rfl | rfl | rfl | rfl | rfl | rfl | rfl | rfl | rfl
    all_goals
      simp [cellsT, encTr, oneT] at hj
      subst hj
      go_simp
  · unfold oneW
    simp only [World.size_alloc]
def oneV (w : World) : World := ((w.alloc (.cells #[.string ⟨#[120]⟩] 9)).alloc (.cells #[.string ⟨#[]⟩, .int .i64 1, .string ⟨#[97]⟩, .string ⟨#[]⟩, .string ⟨#[]⟩, .int .i64 1, .string ⟨#[98]⟩, .string ⟨#[]⟩, .string ⟨#[120]⟩, .int .i64 0, .string ⟨#[]⟩, .string ⟨#[]⟩] 63)).alloc (.cells #[.slice (some ⟨w.heap.size, 0, none⟩) 1 1, .slice (some ⟨w.heap.size + 1, 0, none⟩) 1 1, .string ⟨#[]⟩, .bool false, .bool false, .int .i64 (-1)] 66)
theorem oneV_has (w : World) : SlW (oneV w) (some ⟨w.heap.size, 0, none⟩) [[120]] ∧ SlPt (oneV w) (some ⟨w.heap.size + 1, 0, none⟩) [oneP] ∧ RowKit.Below w.heap.size w (oneV w) := by
  refine ⟨slW_oneT ?_, slPt_oneT fun j v hj => ?_, bstep (bstep (balloc _ _) (balloc _ _)) (balloc _ _)⟩
  · unfold oneV
    go_simp
  · unfold oneV
    have h12 : j < 12 := (List.getElem?_eq_some_iff.1 hj).1
    rcases (by omega : j = 0 ∨ j = 1 ∨ j = 2 ∨ j = 3 ∨ j = 4 ∨ j = 5 ∨ j = 6 ∨ j = 7 ∨ j = 8 ∨ j = 9 ∨ j = 10 ∨ j = 11) with rfl | rfl | rfl | rfl | rfl | rfl | rfl | rfl | rfl | rfl | rfl | rfl
    all_goals
      simp [encPt, oneP, tmZero] at hj
      subst hj
      go_simp

set_option maxHeartbeats 16000000 in
set_option maxRecDepth 1000000 in
theorem topOne_any (F : RFace) (w : World) (hlim : 1 ≤ F.lim) : Calls Tryz.prog 4 #[] w fun e w' => e = .returned (.bool true) ∧ RowKit.Below w.heap.size w w' := by
  have HN := F.new w
  go_enter Tryz.func4, Tryz.ntmps4
  go_wp2_with fail
  refine HN.mono ?_
  rintro e w1 ⟨r, O, rfl, hA, hb1, hO⟩
  obtain ⟨o1, o2, o3, o4⟩ := oneW_has w1
  obtain ⟨y, nx⟩ := TLine.empty.next oneE
  have HC := F.commit (oneW w1) r O emptyR [109] (some ⟨w1.heap.size + 1, 0, none⟩) 1 [oneT] [] (F.below hA o3) goodR_empty ⟨o2, Nat.le_refl 1, oneTr, by unfold maxLen; simp, fun _ d hd hOd => by
    cases hd
    have h9 : w1.heap.size + 1 < w1.heap.size := F.own hA _ hOd
    omega⟩ hlim (Nat.zero_le _)
  rw [oneE, nx.num] at HC
  have hg := nx.line.good
  have hgr : graphE (commitR emptyR [109] [oneT] []) 0 = 0 ∧ graphL (commitR emptyR [109] [oneT] []) 0 = [oneT] := by
    have hin : inR (commitR emptyR [109] [oneT] []) 0 = true := inR_iff.2 ⟨by omega, by rw [nx.coms]; simp⟩
    refine ⟨by unfold graphE; rw [if_pos hin], ?_⟩
    unfold graphL
    rw [if_pos hin, nx.gr]
    rfl
  generalize commitR emptyR [109] [oneT] [] = R1 at *
  have HG := fun W O' (h : F.At W r O' R1) => F.graph W r O' R1 0 h hg
  rw [hgr.1, hgr.2] at HG
  have Ho1 := hide1 o1
  have Ho4 := hide1 o4
  have hB1 := hide1 (bstep hb1 o3)
  have hOw := hide1 (fun j (hj : O j) => F.own hA j hj)
  clear HN hg hgr nx o1 o2 o3 o4 hb1 hA
  have HC2 : Calls Tryz.prog 7 #[.pointer (some ⟨r, 0, none⟩), .string ⟨#[109]⟩, .slice (some ⟨w1.heap.size + 1, 0, none⟩) 1 1, .string ⟨#[]⟩] (oneW w1) fun e w' => e = .returned (.tuple #[.int .i64 0, .nilIface]) ∧ ∃ O' : Nat → Prop, F.At w' r O' R1 ∧ Offs O (oneW w1) w' ∧ ∀ j, O' j → O j ∨ (oneW w1).heap.size ≤ j := HC
  have hOl := hide1 hO
  clear HC hO
  dsimp only
  go_wp2_with fail
  refine HC2.mono ?_
  rintro e w4 ⟨rfl, O', hA', ho, _⟩
  have B4 := hide1 (hB1.out.trans (ho.below hOl.out hB1.out.size))
  have X4 := hide1 (show CellsO w4 w1.heap.size from fun j v hv => (World.cell?_of_block (w := oneW w1) (ho.block w1.heap.size (by rw [Ho4.out]; omega) (fun hj => by have := hOw.out _ hj; omega))).trans (Ho1.out j v hv))
  have HA' := hide1 hA'
  clear HC2 ho hA' hB1 Ho1 Ho4 hOw hOl
  dsimp only
  go_wp2_with fail
  refine (HG _ O' HA'.out).mono ?_
  rintro e w5 ⟨gd, gc, rfl, hgs, hb5⟩
  have B5 := hide1 (bstep B4.out hb5)
  have X5 := hide1 (X4.out.below hb5)
  obtain ⟨v1, v2, v3⟩ := oneV_has w5
  have HSv := oneSolve gd (some ⟨w5.heap.size, 0, none⟩) (some ⟨w5.heap.size + 1, 0, none⟩) gc 1 1 (oneV w5) (hgs.below v3) v1 v2 (Nat.le_refl 1)
  have B6 := hide1 (bstep B5.out v3)
  have X6 := hide1 (X5.out.below v3)
  have XA := fun o => (X5.out.below (balloc w5 o)).all
  have x0 := fun o => (XA o).1
  have x1 := fun o => (XA o).2.1
  have x2 := fun o => (XA o).2.2.1
  have x3 := fun o => (XA o).2.2.2.1
  have x4 := fun o => (XA o).2.2.2.2.1
  have x5 := fun o => (XA o).2.2.2.2.2.1
  clear XA
  clear HG HA' B4 X4 hb5 v1 v2 v3 hgs B5 X5
  dsimp only [errV, List.length_cons, List.length_nil]
  go_wp2_with fail
  refine HSv.mono ?_
  rintro e w7 ⟨hb7, ad, c, rfl, hr⟩
  obtain ⟨b1, o1, rd, rc, rfl, k1, s1⟩ := hr.at 0 (by simp)
  obtain ⟨b2, o2, rfl, k2, k3, k4⟩ := s1.at 0 (by simp)
  simp only [List.getElem_cons_zero, List.length_cons, List.length_nil, Nat.zero_mul, Nat.add_zero, Nat.zero_add] at k1 k2 k3 k4
  have hB7 := bstep B6.out hb7
  obtain ⟨z0, z1, z2, z3, z4, z5, z6, z7, z8⟩ := (X6.out.below hb7).all
  obtain ⟨y, hy⟩ : ∃ y : Tm, y = (3, [99], []) := ⟨_, rfl⟩
  have g2 : w7.cell? ⟨b2, o2, none⟩ = some (.int .i64 y.1) := by rw [hy]; exact k2
  have g3 : w7.cell? ⟨b2, o2 + 1, none⟩ = some (.string ⟨y.2.1.toArray⟩) := by rw [hy]; exact k3
  have g4 : w7.cell? ⟨b2, o2 + 2, none⟩ = some (.string ⟨y.2.2.toArray⟩) := by rw [hy]; exact k4
  have h6 : w7.cell? ⟨w1.heap.size, 6, none⟩ = some (.int .i64 y.1) := by rw [hy]; exact z6
  have h7 : w7.cell? ⟨w1.heap.size, 7, none⟩ = some (.string ⟨y.2.1.toArray⟩) := by rw [hy]; exact z7
  have h8 : w7.cell? ⟨w1.heap.size, 8, none⟩ = some (.string ⟨y.2.2.toArray⟩) := by rw [hy]; exact z8
  have tE : eqTB y.1 y.2.1 y.2.2 y.1 y.2.1 y.2.2 = true := by simp [eqTB]
  clear HSv hr s1 k2 k3 k4 z0 z1 z2 z3 z4 z5 z6 z7 z8 hy x0 x1 x2 x3 x4 x5 B6 X6 hb7
  dsimp only
  go_wp2_with fail
  go_region
  go_wp2
  go_ret
  exact ⟨rfl, hB7.drew⟩
end Go.Proofs.YtaddfndohoppeaaGreat

/- The program's patch: printLines, Print. -/
namespace Go.Proofs.YtaddfndohoppeaaGreat
open Go Go.RowKit Go.Proofs
set_option synthInstance.maxSize 1000
attribute [local go_sem] eql_errV neq_errV guard_errV

theorem linesP_step (t : Bool) (m : List Tr) (k : Nat) (h : k < m.length) : linesP t (m.take (k + 1)) = linesP t (m.take k) ++ lineP t m[k] := by
  rw [List.take_succ_eq_append_getElem h, linesP_app]
  simp [linesP]
theorem strL (a b c : List UInt8) : ((⟨a.toArray⟩ : ByteArray) ++ (⟨b.toArray⟩ : ByteArray)) ++ (⟨c.toArray⟩ : ByteArray) = ⟨(a ++ b ++ c).toArray⟩ := by rw [str_app, str_app]

theorem rowB_below {W W' : World} {base : Nat} {e : TypeId} {sz : Nat} {v : Value} {n : Nat} {cs : List Value} (h : W.ownsRow base e sz v n cs) (hb : RowKit.Below W.heap.size W W') : W'.ownsRow base e sz v n cs :=
  h.kept (row := none) ⟨hb.os, hb.tape, hb.output, hb.size, fun i hi _ => hb.block i hi⟩ (Classical.em _)
theorem builder_below {T e : TypeId} {B b : Nat} {bs : List Value} {w w' : World} (h : Lib.IsBuilder T e B b bs w) (hb : RowKit.Below w.heap.size w w') : Lib.IsBuilder T e B b bs w' := by
  rcases h with h | h
  · have hl := h.lt
    obtain ⟨h1, v, h2, h3, h4⟩ := h
    exact .inl ⟨h1, v, (hb.block _ hl).trans h2, rowB_below h3 hb, h4⟩
  · have hl := h.lt
    obtain ⟨h1, v, h2, h3, h4⟩ := h
    exact .inr ⟨h1, v, (hb.block _ hl).trans h2, rowB_below h3 hb, h4⟩

set_option maxHeartbeats 4000000 in
set_option maxRecDepth 100000 in
theorem PLines_any (t : Bool) (ad : Option Addr) (ca : Nat) (m : List Tr) (w : World) (h : SlT w ad m) (hc : ∀ x ∈ m, chkTr x = 0) (hf : ∀ x ∈ m, fitTr x) (hm : m.length ≤ 200) :
    Calls Tryz.prog 36 #[.string ⟨#[markP t, 32]⟩, .slice ad m.length ca] w fun e w' => e = .returned (.tuple #[.string ⟨(linesP t m).toArray⟩, .nilIface]) ∧ RowKit.Below w.heap.size w w' := by
  have Hl : Hid (SlT w ad m) := h
  have Hc : Hid (∀ x ∈ m, chkTr x = 0) := hc
  have Hf : Hid (∀ x ∈ m, fitTr x) := hf
  have hB0 := Lib.fresh_isBuilder 138 5 w
  have HB0 : Hid _ := hB0
  clear h hc hf hB0
  go_enter Tryz.func36, Tryz.ntmps36
  go_wp2_with fail
  go_loopw [13] (fun i wr => ∃ k : Nat, k ≤ m.length ∧ i = .int .i64 k ∧ Hid (Lib.IsBuilder 138 5 w.heap.size w.heap.size (Lib.byteCells (linesP t (m.take k))) wr) ∧ RowKit.Below w.heap.size w wr) (fun i wr => m.length - (intOf i).toNat)
  case atStart => exact ⟨0, Nat.zero_le _, rfl, HB0.out, balloc _ _⟩
  case round =>
    obtain ⟨k, hk, rfl, hI, hbr⟩ := hrel
    by_cases hlt : k < m.length
    · obtain ⟨b, o, rfl, hr⟩ := (Hl.out.below hbr).at k hlt
      obtain ⟨d0, d1, d2, d3, d4, d5, d6, d7, d8⟩ := hr.at k hlt
      have i0 : (0 : Int) ≤ (k : Int) := by omega
      have i1 : (k : Int) < (m.length : Int) := by omega
      have hstep : Hid _ := linesP_step t m k hlt
      have hfew : Hid (_ ≤ _) := lines_few t (m.take k) fun x hx => Hc.out x (List.mem_of_mem_take hx)
      have hshow := show_few (Hc.out m[k] (List.getElem_mem hlt))
      have HP := fun W => TPrint_good m[k] W (Hf.out m[k] (List.getElem_mem hlt)) (Hc.out m[k] (List.getElem_mem hlt))
      have hzr := hbr.size
      unfold valTr at HP
      generalize m[k] = y at *
      clear hr
      go_wp2_with fail
      refine (HP _).mono ?_
      rintro e w1 ⟨rfl, hb1⟩
      dsimp only
      go_wp2_with fail
      have hcat : ((⟨#[markP t, 32]⟩ : ByteArray) ++ (⟨(showTr y).toArray⟩ : ByteArray)) ++ (⟨#[10]⟩ : ByteArray) = ⟨(lineP t y).toArray⟩ := (strL [markP t, 32] (showTr y) [10]).trans (by simp [lineP])
      rw [hcat]
      have hB1 : RowKit.Below wr.heap.size wr w1 := bstep (balloc _ _) hb1
      have hI1 := builder_below hI.out hB1
      have hlen : (linesP t (m.take k)).length + (lineP t y).length ≤ 140737488355328 := by
        have h1 := hfew.out
        have h2 : (m.take k).length ≤ k := List.length_take_le _ _
        have h3 : (lineP t y).length = (showTr y).length + 3 := by simp [lineP]
        omega
      have hz1 : w.heap.size ≤ w1.heap.size := Nat.le_trans hzr hB1.size
      have hbr1 := bstep hbr hB1
      refine (WriteString_any w.heap.size w.heap.size _ _ _ hI1 hlen hz1).mono ?_
      clear hI1 hlen hcat hI
      rintro e w2 ⟨⟨v, rfl⟩, hI2, hb2⟩
      rw [← hstep.out] at hI2
      have HI2 : Hid _ := hI2
      clear hI2
      dsimp only
      go_wp2_with fail
      exact ⟨⟨k + 1, by omega, by go_num, Or.inr HI2.out, hbr1.trans hb2⟩, by simp [intOf]; omega⟩
    · obtain rfl : k = m.length := by omega
      have hI' := hI.out
      rw [List.take_length] at hI'
      have hsz := hbr.size
      go_wp2_with fail
      refine (Tryz.Builder_String_any w.heap.size w.heap.size _ _ hI' hsz).mono ?_
      rintro e w3 ⟨rfl, hb3⟩
      go_wp2_with fail
      exact bodyPost_ret (v := .tuple #[.string ⟨(linesP t m).toArray⟩, .nilIface]) (by simp [results, Tryz.results36, go_sem]) rfl ⟨rfl, hbr.trans hb3⟩

set_option maxHeartbeats 4000000 in
set_option maxRecDepth 100000 in
theorem PPrint_any (a1 a2 : Option Addr) (c1 c2 : Nat) (l : LyP) (w : World) (h : LayIn w a1 a2 l) :
    Calls Tryz.prog 14 #[.agg #[.slice a1 l.1.length c1, .slice a2 l.2.length c2]] w fun e w' => e = .returned (.tuple #[.string ⟨(printP l).toArray⟩, errV (apartN l.1 l.2)]) ∧ RowKit.Below w.heap.size w w' := by
  have n1 := h.lenA
  have n2 := h.lenT
  unfold maxLen at n1 n2
  have HC := fun W (hW : RowKit.Below w.heap.size w W) => LCheck_any a1 a2 c1 c2 l.1 l.2 W (h.add.below hW) (h.take.below hW) h.fitA h.fitT (by omega) (by omega)
  by_cases h0 : apartN l.1 l.2 = 0
  · have hg := apart_good.1 h0
    have hp : printP l = linesP true l.2 ++ linesP false l.1 := if_pos h0
    have f1 := lines_few true l.2 hg.take.2.1
    have f2 := lines_few false l.1 hg.add.2.1
    have g1 := hg.add.1
    have g2 := hg.take.1
    have HT : ∀ W, RowKit.Below w.heap.size w W → Calls Tryz.prog 36 #[.string ⟨#[45, 32]⟩, .slice a2 l.2.length c2] W fun e w' => e = .returned (.tuple #[.string ⟨(linesP true l.2).toArray⟩, .nilIface]) ∧ RowKit.Below W.heap.size W w' := fun W hW => PLines_any true a2 c2 l.2 W (h.take.below hW) hg.take.2.1 h.fitT hg.take.1
    have HA : ∀ W, RowKit.Below w.heap.size w W → Calls Tryz.prog 36 #[.string ⟨#[43, 32]⟩, .slice a1 l.1.length c1] W fun e w' => e = .returned (.tuple #[.string ⟨(linesP false l.1).toArray⟩, .nilIface]) ∧ RowKit.Below W.heap.size W w' := fun W hW => PLines_any false a1 c1 l.1 W (h.add.below hW) hg.add.2.1 h.fitA hg.add.1
    rw [h0] at HC ⊢
    rw [hp]
    rw [show errV 0 = .nilIface from rfl] at HC ⊢
    clear h hg hp h0
    generalize linesP true l.2 = x at *
    generalize linesP false l.1 = y at *
    have lx : x.length ≤ 1000000 := by omega
    have ly : y.length ≤ 1000000 := by omega
    have fin : Hid ((⟨x.toArray⟩ : ByteArray) ++ (⟨y.toArray⟩ : ByteArray) = ⟨(x ++ y).toArray⟩) := str_app x y
    generalize x ++ y = xy at *
    clear f1 f2 g1 g2
    go_enter Tryz.func14, Tryz.ntmps14
    go_wp2_with fail
    refine (HC _ (balloc _ _)).mono ?_
    rintro e w1 ⟨rfl, hb1⟩
    have hB1 := bstep (balloc _ _) hb1
    obtain ⟨z0, z1, hz, _, _⟩ := twobox hb1
    dsimp only
    go_wp2_with fail
    refine (HT _ hB1).mono ?_
    rintro e w2 ⟨rfl, hb2⟩
    have hB2 := bstep hB1 hb2
    obtain ⟨kc, _⟩ := bcell hb2
    have y0 := (kc _ 0 hz).trans z0
    have y1 := (kc _ 1 hz).trans z1
    clear kc z0 z1
    dsimp only
    go_wp2_with fail
    refine (HA _ hB2).mono ?_
    rintro e w3 ⟨rfl, hb3⟩
    dsimp only
    go_wp2_with fail
    exact bodyPost_ret (v := .tuple #[.string ⟨xy.toArray⟩, .nilIface]) (by simp [results, Tryz.results14, go_sem, fin.out]) rfl ⟨rfl, bstep hB2 hb3⟩
  · have hp : printP l = [] := if_neg h0
    have hN : (apartN l.1 l.2 == 0) = false := by simpa using h0
    rw [hp]
    clear h h0 hp
    generalize apartN l.1 l.2 = N at *
    go_enter Tryz.func14, Tryz.ntmps14
    go_wp2_with fail
    refine (HC _ (balloc _ _)).mono ?_
    rintro e w1 ⟨rfl, hb1⟩
    dsimp only
    go_wp2_with fail
    exact bodyPost_ret (v := .tuple #[.string ⟨#[]⟩, errV N]) (by simp [results, Tryz.results14, go_sem]) rfl ⟨rfl, bstep (balloc _ _) hb1⟩
end Go.Proofs.YtaddfndohoppeaaGreat

/- A text read line by line, in plain words: what each line does to the layer so far. -/
namespace Go.Proofs.YtaddfndohoppeaaGreat
open Go Go.RowKit Go.Proofs
set_option synthInstance.maxSize 1000

/-- what is wrong with a line that has its end -/
def lineE (l : LyP) (x : List UInt8) : Int := if x.getLast? = some 10 then lineN l x.dropLast else 2
def lineY (l : LyP) (x : List UInt8) : LyP := lineL l x.dropLast
/-- lines that are all right: what they come to -/
def okFrom : LyP → List (List UInt8) → Option LyP
  | l, [] => some l
  | l, x :: r => if lineE l x = 0 then okFrom (lineY l x) r else none
theorem okFrom_snoc (a : List (List UInt8)) (x : List UInt8) : ∀ (l m : LyP), okFrom l a = some m → okFrom l (a ++ [x]) = if lineE m x = 0 then some (lineY m x) else none := by
  induction a with
  | nil => intro l m h; simp only [okFrom, Option.some.injEq] at h; subst h; simp [okFrom]
  | cons y r ih =>
    intro l m h
    unfold okFrom at h
    split at h
    · rename_i hy
      rw [List.cons_append, okFrom, if_pos hy]
      exact ih _ _ h
    · cases h
theorem lineE_end (l : LyP) (u : List UInt8) : lineE l (u ++ [10]) = lineN l u ∧ lineY l (u ++ [10]) = lineL l u := by
  unfold lineE lineY
  simp
theorem lineE_no {l : LyP} {x : List UInt8} (h : ∀ c ∈ x, c ≠ 10) : lineE l x = 2 := by
  unfold lineE
  rw [if_neg]
  intro e
  exact h 10 (List.mem_of_getLast? e) rfl
theorem readF_done (f : Nat) : ∀ (s : List UInt8) (l m : LyP) (n : Nat), s.length ≤ f → okFrom l (lnsF f s) = some m → readF f s l n = (0, 0, m) := by
  induction f with
  | zero =>
    intro s l m n hs h
    have : s = [] := List.eq_nil_of_length_eq_zero (by omega)
    subst this
    simp [lnsF, okFrom] at h
    subst h
    rfl
  | succ f ih =>
    intro s l m n hs h
    cases s with
    | nil =>
      rw [lnsF_nil] at h
      simp [okFrom] at h
      subst h
      rfl
    | cons c r =>
      rw [lnsF_cons] at h
      rw [readF_cons]
      cases hc : cutN (c :: r) with
      | none =>
        rw [hc] at h
        dsimp only at h
        rw [okFrom, lineE_no (cutN_none hc), if_neg (by decide)] at h
        cases h
      | some p =>
        obtain ⟨u, t⟩ := p
        have hl := cutN_len hc
        rw [hc] at h
        dsimp only at h ⊢
        rw [okFrom, (lineE_end l u).1, (lineE_end l u).2] at h
        split at h
        · rename_i h0
          rw [if_neg (by simp [h0])]
          exact ih t _ m (n + 1) (by omega) h
        · cases h
theorem readF_stop (f : Nat) : ∀ (s : List UInt8) (l m : LyP) (n : Nat) (q : List (List UInt8)) (x : List UInt8), s.length ≤ f → q ++ [x] <+: lnsF f s → okFrom l q = some m → lineE m x ≠ 0 → readF f s l n = (lineE m x, n + q.length, ([], [])) := by
  induction f with
  | zero =>
    intro s l m n q x hs hp _ _
    simp [lnsF] at hp
  | succ f ih =>
    intro s l m n q x hs hp hq hx
    cases s with
    | nil => rw [lnsF_nil] at hp; simp at hp
    | cons c r =>
      rw [lnsF_cons] at hp
      rw [readF_cons]
      cases hc : cutN (c :: r) with
      | none =>
        rw [hc] at hp
        dsimp only at hp ⊢
        cases q with
        | nil =>
          simp only [okFrom, Option.some.injEq] at hq
          subst hq
          obtain ⟨z, hz⟩ := hp
          simp at hz
          obtain ⟨rfl, _⟩ := hz
          rw [lineE_no (cutN_none hc)]
          simp
        | cons y q' =>
          obtain ⟨z, hz⟩ := hp
          have := congrArg List.length hz
          simp at this
      | some p =>
        obtain ⟨u, t⟩ := p
        have hl := cutN_len hc
        rw [hc] at hp
        dsimp only at hp ⊢
        cases q with
        | nil =>
          simp only [okFrom, Option.some.injEq] at hq
          subst hq
          obtain ⟨z, hz⟩ := hp
          simp at hz
          obtain ⟨rfl, _⟩ := hz
          rw [(lineE_end l u).1] at hx ⊢
          rw [if_pos hx]
          rfl
        | cons y q' =>
          obtain ⟨z, hz⟩ := hp
          simp only [List.cons_append, List.cons.injEq] at hz
          obtain ⟨rfl, hz⟩ := hz
          rw [okFrom, (lineE_end l u).1, (lineE_end l u).2] at hq
          split at hq
          · rename_i h0
            rw [if_neg (by simp [h0])]
            have := ih t _ m (n + 1) q' x (by omega) ⟨z, hz⟩ hq hx
            rw [this, List.length_cons]
            simp [Nat.add_assoc, Nat.add_comm 1]
          · cases hq
theorem parse_done {s : List UInt8} {m : LyP} (h : okFrom ([], []) (lns s) = some m) : parseP s = (0, 0, m) := readF_done _ s _ m 0 (Nat.le_refl _) h
theorem parse_stop {s x : List UInt8} {m : LyP} {q : List (List UInt8)} (hp : q ++ [x] <+: lns s) (hq : okFrom ([], []) q = some m) (hx : lineE m x ≠ 0) : parseP s = (lineE m x, q.length, ([], [])) := by
  have := readF_stop s.length s ([], []) m 0 q x (Nat.le_refl _) hp hq hx
  rw [Nat.zero_add] at this
  exact this
/-- a layer of lines that are right is right -/
theorem okFrom_good : ∀ (q : List (List UInt8)) (l m : LyP), GoodLy l → okFrom l q = some m → GoodLy m ∧ m.1.length + m.2.length = l.1.length + l.2.length + q.length := by
  intro q
  induction q with
  | nil => intro l m h e; simp only [okFrom, Option.some.injEq] at e; subst e; exact ⟨h, by simp⟩
  | cons x r ih =>
    intro l m h e
    rw [okFrom] at e
    split at e
    · rename_i h0
      have hN : lineN l x.dropLast = 0 := by
        unfold lineE at h0
        split at h0
        · exact h0
        · cases h0
      obtain ⟨g, e2⟩ := ih _ m (line_ok hN h).1 e
      refine ⟨g, e2.trans ?_⟩
      have : (lineY l x).1.length + (lineY l x).2.length = l.1.length + l.2.length + 1 := by
        unfold lineY lineL
        unfold lineN at hN
        cases hf : formP l x.dropLast with
        | none => rw [hf] at hN; cases hN
        | some p =>
          obtain ⟨k, t⟩ := p
          dsimp only
          unfold moreP
          split <;> simp <;> omega
      rw [List.length_cons]
      show (lineY l x).1.length + (lineY l x).2.length + r.length = _
      omega
    · cases e
theorem good_nil : GoodLy ([], []) := ⟨⟨by simp, by simp, List.Pairwise.nil⟩, ⟨by simp, by simp, List.Pairwise.nil⟩, by simp⟩
end Go.Proofs.YtaddfndohoppeaaGreat

/- errors.Is of an Errno against ErrFull: Go's own text, walked. -/
namespace Go.Proofs.YtaddfndohoppeaaGreat
open Go Go.RowKit Go.Extern.Stop Go.Stop Go.Extern

theorem typeOfF (v : Value) (w : World) : (ReflectliteType.typeOf #[.iface 82 v]).run Tryz.prog w = .ok (.iface 286 (.agg #[.pointer (some ⟨1, 82, none⟩)])) w := by kernel_rfl
theorem methodComparable (h : Value) (w : World) : (Go.method 428 286 (.agg #[h]) "Comparable").run Tryz.prog w = .ok (268, .agg #[h]) w := by kernel_rfl
theorem comparableE (w : World) : (ReflectliteType.method (fun t => do Rtype.noPackHeld "Comparable" t; (fun a : TypeInfo => Value.bool a.comparable) <$> typeInfo t) #[.agg #[.pointer (some ⟨1, 82, none⟩)]]).run Tryz.prog w = .ok (.bool true) w := by kernel_rfl

theorem eqlNilE (n : Int) (w : World) : (binOp .eql 28 .nilIface (.iface 82 (.int .i64 n))).run Tryz.prog w = .ok (.bool false) w := by kernel_rfl
theorem eqlEE (n m : Int) (w : World) : (binOp .eql 28 (.iface 82 (.int .i64 n)) (.iface 82 (.int .i64 m))).run Tryz.prog w = .ok (.bool (n == m)) w := by kernel_rfl
theorem assertIs (n : Int) (w : World) : (Instr.typeAssert (.iface 82 (.int .i64 n)) 28 288 true).run Tryz.prog w = .ok (.tuple #[.nilIface, .bool false]) w := run_typeAssert_lacksB Tryz.underlying288 (by kernel_rfl) (by kernel_rfl) _ _ w
theorem assertOne (n : Int) (w : World) : (Instr.typeAssert (.iface 82 (.int .i64 n)) 28 291 true).run Tryz.prog w = .ok (.tuple #[.nilIface, .bool false]) w := run_typeAssert_lacksB Tryz.underlying291 (by kernel_rfl) (by kernel_rfl) _ _ w
theorem assertMany (n : Int) (w : World) : (Instr.typeAssert (.iface 82 (.int .i64 n)) 28 293 true).run Tryz.prog w = .ok (.tuple #[.nilIface, .bool false]) w := run_typeAssert_lacksB Tryz.underlying293 (by kernel_rfl) (by kernel_rfl) _ _ w
attribute [local go_sem] eqlNilE eqlEE assertIs assertOne assertMany

set_option maxHeartbeats 1000000 in
set_option maxRecDepth 100000 in
theorem is_any (n : Int) (w : World) : Calls Tryz.prog 235 #[.iface 82 (.int .i64 n), .iface 82 (.int .i64 4), .bool true] w fun e w' => e = .returned (.bool (n == 4)) ∧ w' = w := by
  by_cases h : n = 4
  · subst h
    go_enter Tryz.func235, Tryz.ntmps235
    go_wp2
    refine wp_loop_rounds 1 ?_
    rw [rounds_succ]
    go_wp2
    go_ret
    exact ⟨rfl, rfl⟩
  · have h' : (n == 4) = false := by simpa using h
    go_enter Tryz.func235, Tryz.ntmps235
    go_wp2
    refine wp_loop_rounds 1 ?_
    rw [rounds_succ]
    go_wp2
    go_ret
    exact ⟨by rw [h']; rfl, rfl⟩

set_option maxHeartbeats 1000000 in
set_option maxRecDepth 100000 in
theorem Is_any (n : Int) (w : World) : Calls Tryz.prog 217 #[errV n, .iface 82 (.int .i64 4)] w fun e w' => e = .returned (.bool (n == 4)) ∧ w' = w := by
  have h7 := @run_callFunc_extern Tryz.prog 234 _ ReflectliteType.typeOf Tryz.func234 (by kernel_rfl) (by kernel_rfl) (by kernel_rfl) (by kernel_rfl)
  have h8 := @run_callFunc_extern Tryz.prog 268 _ (ReflectliteType.method (fun t => do Rtype.noPackHeld "Comparable" t; pure (.bool (← typeInfo t).comparable))) Tryz.func268 (by kernel_rfl) (by kernel_rfl) (by kernel_rfl) (by kernel_rfl)
  have g7 := typeOfF
  have g8 := comparableE
  have m1 := methodComparable
  by_cases h : n = 0
  · subst h
    rw [show errV 0 = .nilIface from rfl]
    go_enter Tryz.func217, Tryz.ntmps217
    go_wp2
    go_ret
    exact ⟨rfl, rfl⟩
  · rw [show errV n = .iface 82 (.int .i64 n) from if_neg h]
    go_enter Tryz.func217, Tryz.ntmps217
    go_wp2_with (go_at_call 235; refine (is_any n _).mono ?_; rintro e w' ⟨rfl, rfl⟩)
    go_ret
    exact ⟨rfl, rfl⟩
end Go.Proofs.YtaddfndohoppeaaGreat
