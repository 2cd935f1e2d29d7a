import Derived.Test.YtcdbcoaiadipjaaGreatDoorMCPlanSamex2
import Derived.Test.YtcdbcoaiadipjaaGreatDoorMCPlanSamex1
import Derived.Deep.LoopGhost
import Derived.Deep.Draws
import Derived.Deep.Upon
import Derived.Deep.RegionLaw
import Derived.Laws.IdiomCopy
import Derived.RegionTactic
import Derived.Test.YtcdbcoaiadipjaaGreatDoorMA0x4
import Derived.Test.YtcdbcoaiadipjaaGreatDoorMA0x0
import Derived.LaidEql
import Derived.Stop.Asserts
import Derived.RowKitTokens
import Derived.Test.YtcdbcoaiadipjaaGreatDoorMA0x9
import Derived.Test.YtcdbcoaiadipjaaGreatDoorMA0x2
import Derived.Deep.DeepCutAuto

/- slices.Equal at terms, slices.CompactFunc at rows of terms. -/
namespace Go.Proofs.YtcdbcoaiadipjaaGreatDoor
open Go Go.RowKit Go.Proofs Go.Maps Go.Sort Go.Lib
set_option synthInstance.maxSize 1000
attribute [local go_sem ↓] neqTerm eqlTerm

theorem enters35 : ∀ args w, (callFunc 35 args).run Tryz.prog w = .ok (.enter 35 args) w := enters_of Tryz.func35 (by kernel_rfl) rfl
set_option maxHeartbeats 4000000 in
set_option maxRecDepth 100000 in
theorem EqualQ_any (ad bd : Option Addr) (ca cb : Nat) (a b : List Tm) (w : World) (ha : SlQ w ad a) (hb : SlQ w bd b) (la : a.length ≤ 1000000) :
    Calls Tryz.prog 35 #[.slice ad a.length ca, .slice bd b.length cb] w fun e w' => e = .returned (.bool (decide (a = b))) ∧ ∃ n, w' = w.drewN n := by
  have HA := hideE ha
  have HB := hideE hb
  clear ha hb
  by_cases hl : a.length = b.length
  · obtain ⟨R, hR⟩ : ∃ R, R = decide (a = b) := ⟨_, rfl⟩
    have HR : Hid (R = decide (a.drop 0 = b.drop 0)) := hR
    rw [← hR]
    clear hR
    have Hl := hideE hl
    have t0 : ((a.length : Int) != (b.length : Int)) = false := by simp; omega
    clear hl
    go_enter Tryz.func35, Tryz.ntmps35
    go_wp2_with fail
    go_loopw [13] (fun i wr => ∃ k n : Nat, k ≤ a.length ∧ i = .int .i64 k ∧ Hid (R = decide (a.drop k = b.drop k)) ∧ wr = w.drewN n) (fun i wr => a.length - (intOf i).toNat)
    case atStart => exact ⟨0, 0, Nat.zero_le _, rfl, HR.out, rfl⟩
    case round =>
      obtain ⟨k, n, hk, rfl, hC, rfl⟩ := hrel
      by_cases h1 : k < a.length
      · have h2 : k < b.length := by have := Hl.out; omega
        have t1 : decide ((k : Int) < (a.length : Int)) = true := by simp; omega
        have i0 : (0 : Int) ≤ (k : Int) := by omega
        have i1 : (k : Int) < (a.length : Int) := by omega
        have i2 : (k : Int) < (b.length : Int) := by omega
        obtain ⟨g, o, rfl, c0, c1, c2⟩ := HA.out.at k h1
        obtain ⟨g', o', rfl, d0, d1, d2⟩ := HB.out.at k h2
        have hC2 := hC.out
        rw [List.drop_eq_getElem_cons h1, List.drop_eq_getElem_cons h2] at hC2
        have HC2 := hideE hC2
        clear hC hC2
        have hq := eqTB_tm a[k] b[k]
        generalize a[k] = x at *
        generalize b[k] = y at *
        by_cases hxy : x = y
        · rw [decide_eq_true hxy] at hq
          have hR2 := hideE (show R = decide (a.drop (k + 1) = b.drop (k + 1)) by rw [HC2.out, hxy]; simp)
          clear hxy
          go_wp2_with fail
          go_region
          go_wp2_with fail
          go_roundw
          case rel => exact ⟨k + 1, n + 1, by omega, by go_num, hR2.out, rfl⟩
          case measure => simp [intOf]; omega
        · rw [decide_eq_false hxy] at hq
          have hR2 := hideE (show R = false by rw [HC2.out]; simp [hxy])
          clear hxy
          go_wp2_with fail
          go_region
          go_wp2_with fail
          go_ret
          exact ⟨by rw [hR2.out]; rfl, n + 1, rfl⟩
      · obtain rfl : k = a.length := by omega
        have t1 : decide ((a.length : Int) < (a.length : Int)) = false := by simp
        have hR2 := hideE (show R = true by rw [hC.out, List.drop_eq_nil_of_le (Nat.le_refl _), List.drop_eq_nil_of_le (by have := Hl.out; omega)]; rfl)
        go_wp2_with fail
        go_ret
        exact ⟨by rw [hR2.out]; rfl, n, rfl⟩
  · have t0 : ((a.length : Int) != (b.length : Int)) = true := by simp; omega
    have e : decide (a = b) = false := by simp; intro e; exact hl (by rw [e])
    rw [e]
    clear e hl
    go_enter Tryz.func35, Tryz.ntmps35
    go_wp2_with fail
    go_ret
    exact ⟨rfl, 0, rfl⟩
theorem SlQ.store {W : World} {rd : Option Addr} {l : List Tm} {g o : Nat} (h : SlQ W rd l) (hn : ∀ a, rd = some a → a.block ≠ g) (u : Value) : SlQ (W.setCell ⟨g, o, none⟩ u) rd l :=
  h.off hn (fun _ _ hne => RowKit.Below.heap_setCell _ _ _ _ hne)
theorem RowsC.set {W : World} {g k : Nat} {L : List (List Tm)} (h : RowsC W g L) {u : List Tm} {rd : Option Addr} {rc : Nat} (hs : SlQ W rd u) (hn : ∀ a, rd = some a → a.block ≠ g) : RowsC (W.setCell ⟨g, k, none⟩ (.slice rd u.length rc)) g (L.set k u) := by
  refine ⟨fun j hj => ?_, fun j hj => by rw [World.frozen?_setCell]; exact h.free j (by simpa using hj)⟩
  have hj' : j < L.length := by simpa using hj
  obtain ⟨r0, c0, e0, s0, n0⟩ := h.at_ j hj'
  by_cases e : j = k
  · subst e
    rw [List.getElem_set_self]
    exact ⟨rd, rc, World.cell?_setCell_same W _ _ e0, hs.store hn _, hn⟩
  · rw [List.getElem_set_ne (fun h => e h.symm)]
    exact ⟨r0, c0, (World.cell?_setCell_other W _ _ _ (fun h => e (by simpa using congrArg Addr.off h.symm))).trans e0, s0.store n0 _, n0⟩
theorem RowsC.drewN {W : World} {g : Nat} {L : List (List Tm)} (h : RowsC W g L) (n : Nat) : RowsC (W.drewN n) g L := h.below (below_drewN' (RowKit.Below.refl _ _) n)
theorem run_clearQ (w : World) (ty : TypeId) (b o n c : Nat) (hn : 0 < n) (hc : ∀ j, j < n → (w.cell? ⟨b, o + j, none⟩).isSome = true) (hf : ∀ j, j < n → w.frozen? ⟨b, o + j, none⟩ = false) :
    (Builtin.clear_ #[36] ty #[.slice (some ⟨b, o, none⟩) n c]).run Tryz.prog w = .ok (.tuple #[]) (w.setCells b o (List.replicate n (.slice none 0 0))) := by
  have hst := run_storeCells_cells (P := Tryz.prog) b o (List.replicate n (.slice none 0 0)) 0 w (by simpa using hc) (by simpa using hf) (fun v hv => by rw [List.mem_replicate] at hv; rw [hv.2]; rfl)
  simp only [Nat.add_zero] at hst
  have hz : ∀ w, (zeroValue 33).run Tryz.prog w = .ok (.slice none 0 0) w := fun w => by kernel_rfl
  have hzc : (Builtin.zeroCells (Value.slice none 0 0).cells n).toList = List.replicate n (.slice none 0 0) := by
    apply List.ext_getElem
    · simp [Builtin.zeroCells, Value.cells]
    · intro i h1 h2
      simp [Builtin.zeroCells, Value.cells, Nat.mod_one]
  obtain ⟨m, rfl⟩ : ∃ m, n = m + 1 := ⟨n - 1, by omega⟩
  simp [Builtin.clear_, run_underlying Tryz.underlying36, hz, hzc, hst]
theorem RowsC.clear {W : World} {g k m : Nat} {L : List (List Tm)} (h : RowsC W g L) (hk : k ≤ L.length) : RowsC (W.setCells g k (List.replicate m (.slice none 0 0))) g (L.take k) := by
  refine ⟨fun j hj => ?_, fun j hj => by rw [World.frozen?_setCells]; exact h.free j (by simp at hj; omega)⟩
  have hj' : j < L.length := by simp at hj; omega
  have hjk : j < k := by simp at hj; omega
  obtain ⟨r0, c0, e0, s0, n0⟩ := h.at_ j hj'
  rw [List.getElem_take]
  exact ⟨r0, c0, (World.cell?_setCells_out g _ k W ⟨g, j, none⟩ (fun _ _ => Or.inl hjk)).trans e0, s0.off n0 (fun i hi hne => World.heap_setCells_other W g k _ hi hne), n0⟩
set_option maxHeartbeats 8000000 in
set_option maxRecDepth 100000 in
theorem CompactQ_any (g cap k0 : Nat) (L : List (List Tm)) (w : World) (hR : RowsC w g L) (hL : LenR k0 L) (hk0 : k0 ≤ 1000000) (hn : L.length ≤ 1000000) (hcap : L.length ≤ cap) :
    Calls Tryz.prog 34 #[.slice (some ⟨g, 0, none⟩) L.length cap, .func (.func 35) #[] #[]] w fun e w' => e = .returned (.slice (some ⟨g, 0, none⟩) (compact L).length cap) ∧ RowsC w' g (compact L) ∧ RowKit.Below g w w' := by
  have HR := hideE hR
  have HL := hideE hL
  have eg := enters35
  have HE := hideE (fun (ad bd : Option Addr) (ca cb : Nat) (a b : List Tm) (W : World) (ha : SlQ W ad a) (hb : SlQ W bd b) (la : a.length = k0) => EqualQ_any ad bd ca cb a b W ha hb (by omega))
  obtain ⟨d, hd⟩ : ∃ d : Array (List Tm), d = L.toArray := ⟨_, rfl⟩
  have hsz : d.size = L.length := by rw [hd]; simp
  have hat : Hid (∀ j (h : j < L.length), d[j]! = L[j]) := fun j h => by rw [hd, getElem!_pos L.toArray j (by simpa using h)]; simp
  have hcomp : Hid (compact L = compactUpTo d d.size) := by show _ = _; rw [hsz, hd]; rfl
  have hall1 : Hid ((∀ j, j < d.size → keeps d j = true) → compact L = L) := fun h => compact_all L (by rw [← hd, ← hsz]; exact h)
  have hlist : Hid (d.toList = L) := by show _ = _; rw [hd]
  have HSZ := hideE hsz
  clear hR hL hd hsz
  obtain ⟨n, hnn⟩ : ∃ n, n = L.length := ⟨_, rfl⟩
  rw [← hnn]
  rw [← hnn] at hn hcap
  have HNN := hideE hnn
  clear hnn
  by_cases h2 : n < 2
  · have t2 : decide ((n : Int) < 2) = true := by simp; omega
    have hc := hideE (hall1.out (fun j hj => keeps_lt_one d j (by have := HSZ.out; have := HNN.out; omega)))
    go_enter Tryz.func34, Tryz.ntmps34
    go_wp2_with fail
    go_ret
    exact ⟨by rw [hc.out, ← HNN.out]; rfl, by rw [hc.out]; exact HR.out, RowKit.Below.refl _ _⟩
  · have t2 : decide ((n : Int) < 2) = false := by simp; omega
    go_enter Tryz.func34, Tryz.ntmps34
    go_wp2_with fail
    go_loopg [5] n (fun gh s5 wr => ∃ k q : Nat, 1 ≤ k ∧ k ≤ n ∧ n - k ≤ gh ∧ s5 = .int .i64 k ∧ wr = w.drewN q ∧ Hid (∀ j, j < k → keeps d j = true))
    case atStart => exact ⟨1, 0, Nat.le_refl _, by omega, by omega, rfl, rfl, keeps_lt_one d⟩
    case round =>
      obtain ⟨k, q, hk1, hk, hg, rfl, rfl, hall⟩ := hrel
      by_cases hlt : k < n
      · obtain ⟨m, hm⟩ : ∃ m, k = m + 1 := ⟨k - 1, by omega⟩
        have t3 : decide ((k : Int) < (n : Int)) = true := by simp; omega
        have hwr : IntKind.i64.wrap ((k : Int) - 1) = (m : Int) := by subst hm; simp [IntKind.wrap, IntKind.bits, IntKind.signed]; omega
        have i0 : (0 : Int) ≤ (m : Int) := by omega
        have i1 : (m : Int) < (n : Int) := by omega
        have i2 : (0 : Int) ≤ (k : Int) := by omega
        have i3 : (k : Int) < (n : Int) := by omega
        have n0 : m < n := by omega
        have hkL : k < L.length := by rw [← HNN.out]; exact hlt
        have hmL : m < L.length := by omega
        obtain ⟨rx, cx, c0, sx, nx⟩ := HR.out.at_ k hkL
        obtain ⟨ry, cy, d0, sy, ny⟩ := HR.out.at_ m hmL
        have hxl := HL.out _ (List.getElem_mem hkL)
        have B : Hid (d[k]! = L[k] ∧ d[k - 1]! = L[m]) := ⟨hat.out k hkL, by rw [show k - 1 = m by omega]; exact hat.out m hmL⟩
        generalize L[k] = x at *
        generalize L[m] = y at *
        have HEE := hideE (fun W (hW : ∃ j, W = w.drewN j) => show Calls Tryz.prog 35 #[.slice rx x.length cx, .slice ry y.length cy] W (fun e w' => e = .returned (.bool (decide (x = y))) ∧ ∃ n, w' = W.drewN n) by
          obtain ⟨j, rfl⟩ := hW
          exact HE.out rx ry cx cy x y (w.drewN j) (sx.below (below_drewN' (RowKit.Below.refl _ _) j)) (sy.below (below_drewN' (RowKit.Below.refl _ _) j)) hxl)
        clear sx sy nx ny hxl hm
        go_upto_region 6 with fail
        go_cut [28] from 18 to 27 (fun v W => v = .bool (decide (x = y)) ∧ ∃ q', W = w.drewN q')
        case first =>
          go_region_law (go_simp; go_at_fn 35; refine (HEE.out _ ⟨q + 1, rfl⟩).mono ?_; rintro e w2 ⟨rfl, n2, rfl⟩)
          all_goals
            go_wp2_with fail
            go_meet
            case rel => exact ⟨rfl, q + 1 + n2, by first | rfl | simp [World.drewN, Nat.add_assoc]⟩
        case rest =>
          obtain ⟨rfl, q', rfl⟩ := hcut
          clear c0 d0 HEE
          by_cases hxy : x = y
          · have hd1 : decide (x = y) = true := by simpa using hxy
            have KN := hideE (keeps_neg (d := d) (m := k) (by omega) (by rw [B.out.1, B.out.2]; exact hxy))
            clear hxy B
            rw [hd1]
            clear hd1
            have hst := hideE (CompInv.start hall.out KN.out)
            have hR0 := hideE (show RowsC (w.drewN q') g d.toList by rw [hlist.out]; exact HR.out.drewN q')
            have hcc : k < cap := by omega
            go_wp2_with fail
            go_loopg [5, 7] n (fun gh s5 s7 wr => ∃ (kk k2 : Nat) (dk : Array (List Tm)), s5 = .int .i64 kk ∧ s7 = .int .i64 k2 ∧ 1 ≤ k2 ∧ k + k2 ≤ n ∧ n - (k + k2) ≤ gh ∧ Hid (RowsC wr g dk.toList) ∧ Hid (CompInv d (k + k2) kk dk) ∧ RowKit.Below g w wr)
            case atStart => exact ⟨k, 1, d, rfl, rfl, Nat.le_refl _, by omega, by omega, hR0.out, hst.out, below_drewN' (RowKit.Below.refl _ _) q'⟩
            case round =>
              clear hR0 hst
              obtain ⟨kk, k2, dk, rfl, rfl, h1, hle, hg2, hRk, hI, hbr⟩ := hrel
              have hkk := hI.out.lt
              have hdn : dk.toList.length = n := by rw [Array.length_toList, hI.out.size, HSZ.out, ← HNN.out]
              have hdat : Hid (∀ j, kk ≤ j → ∀ (h : j < dk.toList.length), dk.toList[j] = d[j]!) := fun j hj h => by
                rw [← hI.out.high j hj, getElem!_pos dk j (by simpa using h)]
                simp
              by_cases hlt2 : k + k2 < n
              · obtain ⟨m2, hm2⟩ : ∃ m2, k2 = m2 + 1 := ⟨k2 - 1, by omega⟩
                have hwr3 : IntKind.i64.wrap ((k2 : Int) - 1) = (m2 : Int) := by subst hm2; simp [IntKind.wrap, IntKind.bits, IntKind.signed]; omega
                have t4 : decide ((k2 : Int) < ((n - k : Nat) : Int)) = true := by simp; omega
                have j0 : (0 : Int) ≤ (m2 : Int) := by omega
                have j1 : (m2 : Int) < ((n - k : Nat) : Int) := by omega
                have j2 : (0 : Int) ≤ (k2 : Int) := by omega
                have j3 : (k2 : Int) < ((n - k : Nat) : Int) := by omega
                have j4 : (0 : Int) ≤ (kk : Int) := by omega
                have j5 : (kk : Int) < (n : Int) := by omega
                have n1 : m2 < n - k := by omega
                have n2 : k2 < n - k := by omega
                have n3 : kk < n := by omega
                have p1 : k + k2 < dk.toList.length := by omega
                have p2 : k + m2 < dk.toList.length := by omega
                have p3 : kk < dk.toList.length := by omega
                obtain ⟨ru, cu, e0, su, nu⟩ := hRk.out.at_ (k + k2) p1
                obtain ⟨rv, cv, f0, sv, nv⟩ := hRk.out.at_ (k + m2) p2
                obtain ⟨ro, co, g0, _, _⟩ := hRk.out.at_ kk p3
                have gfz := hRk.out.free kk p3
                have eu := hideE (hdat.out (k + k2) (by omega) p1)
                have ev := hideE (hdat.out (k + m2) (by omega) p2)
                have ul : dk.toList[k + k2].length = k0 := by
                  rw [eu.out, hat.out (k + k2) (by rw [← HNN.out]; exact hlt2)]
                  exact HL.out _ (List.getElem_mem _)
                have hkm : Hid (k + k2 - 1 = k + m2) := by show _ = _; omega
                generalize dk.toList[k + k2] = u at *
                generalize dk.toList[k + m2] = v at *
                have HEE := hideE (fun W (hW : ∃ j, W = wr.drewN j) => show Calls Tryz.prog 35 #[.slice ru u.length cu, .slice rv v.length cv] W (fun e w' => e = .returned (.bool (decide (u = v))) ∧ ∃ n, w' = W.drewN n) by
                  obtain ⟨j, rfl⟩ := hW
                  exact HE.out ru rv cu cv u v (wr.drewN j) (su.below (below_drewN' (RowKit.Below.refl _ _) j)) (sv.below (below_drewN' (RowKit.Below.refl _ _) j)) ul)
                have Su := hideE su
                have Nu := hideE nu
                clear su sv nu nv ul hm2
                go_upto_region 11 with fail
                go_cut [49] from 38 to 48 (fun b W => b = .bool (!decide (u = v)) ∧ ∃ j, W = wr.drewN j)
                case first =>
                  go_region_law (go_simp; go_at_fn 35; refine (HEE.out _ ⟨1, rfl⟩).mono ?_; rintro e w2 ⟨rfl, n2, rfl⟩)
                  all_goals
                    go_wp2_with fail
                    go_meet
                    case rel => exact ⟨rfl, 1 + n2, by first | rfl | simp [World.drewN, Nat.add_assoc]⟩
                case rest =>
                  obtain ⟨rfl, j, rfl⟩ := hcut
                  by_cases huv : u = v
                  · have hd1 : decide (u = v) = true := by simpa using huv
                    have hs := hideE (hI.out.skip (keeps_neg (by omega) (by rw [hkm.out, ← eu.out, ← ev.out]; exact huv)))
                    clear huv
                    rw [hd1]
                    clear hd1 HEE e0 f0 g0 gfz
                    go_wp2_with fail
                    go_roundg (n - (k + (k2 + 1)))
                    case measure => omega
                    case rel => exact ⟨kk, k2 + 1, dk, rfl, by go_num, by omega, by omega, Nat.le_refl _, hRk.out.drewN j, hs.out, below_drewN' hbr j⟩
                  · have hd1 : decide (u = v) = false := by simpa using huv
                    have hs := hideE (hI.out.keep (by rw [HSZ.out, ← HNN.out]; exact hlt2) (keeps_pos (by rw [hkm.out, ← eu.out, ← ev.out]; exact huv)))
                    have hset := hideE ((hRk.out.drewN j).set (k := kk) (rc := cu) (Su.out.below (below_drewN' (RowKit.Below.refl _ _) j)) Nu.out)
                    clear huv
                    rw [hd1]
                    clear hd1 HEE f0
                    go_wp2_with fail
                    go_roundg (n - (k + (k2 + 1)))
                    case measure => omega
                    case rel => exact ⟨kk + 1, k2 + 1, dk.setIfInBounds kk d[k + k2]!, by go_num, by go_num, by omega, by omega, Nat.le_refl _, by show RowsC _ _ _; rw [← eu.out, Array.toList_setIfInBounds]; exact hset.out, hs.out, (below_drewN' hbr j).setCell (p := ⟨g, kk, none⟩) (Nat.le_refl _) _⟩
              · have hend : k + k2 = n := by omega
                have t4 : decide ((k2 : Int) < ((n - k : Nat) : Int)) = false := by simp; omega
                have hcl : ∀ ty, (Builtin.clear_ #[36] ty #[.slice (some ⟨g, kk, none⟩) (n - kk) (cap - kk)]).run Tryz.prog wr = .ok (.tuple #[]) (wr.setCells g kk (List.replicate (n - kk) (.slice none 0 0))) := fun ty => run_clearQ wr ty g kk (n - kk) (cap - kk) (by omega) (fun j hj => by
                  obtain ⟨r, c, e, _⟩ := hRk.out.at_ (kk + j) (by omega)
                  rw [e]; rfl) (fun j hj => hRk.out.free (kk + j) (by omega))
                have i5 : (0 : Int) ≤ (kk : Int) := by omega
                have i6 : (kk : Int) ≤ (n : Int) := by omega
                have i7 : kk < cap := by omega
                have i8 : kk ≤ n := by omega
                have hdsz : d.size = n := by rw [HSZ.out, ← HNN.out]
                have hlenk : (compactUpTo d d.size).length = kk := by have := hI.out.len; rw [hend, ← hdsz] at this; exact this
                have htake : dk.toList.take kk = compact L := by
                  rw [hcomp.out]
                  apply List.ext_getElem?
                  intro j
                  by_cases hj : j < kk
                  · have h3 := hI.out.low j hj
                    rw [hend, ← hdsz] at h3
                    rw [h3, List.getElem?_take, if_pos hj, List.getElem?_eq_getElem (by omega), getElem!_pos dk j (by have := hI.out.size; omega)]
                    simp
                  · rw [List.getElem?_eq_none (by simp; omega), List.getElem?_eq_none (by omega)]
                have hfin := hideE (hRk.out.clear (m := n - kk) (k := kk) (by omega))
                have hlc : Hid ((compact L).length = kk) := by show _ = _; rw [hcomp.out]; exact hlenk
                have Htake := hideE htake
                have hBf := hideE (below_setCells hbr (Nat.le_refl g) (List.replicate (n - kk) (.slice none 0 0)) kk)
                clear htake hlenk hdsz hend hdn
                go_wp2_with fail
                go_ret
                exact ⟨by rw [hlc.out]; rfl, by rw [← Htake.out]; exact hfin.out, hBf.out⟩
          · have hd1 : decide (x = y) = false := by simpa using hxy
            have KP := hideE (keeps_pos (d := d) (m := k) (by rw [B.out.1, B.out.2]; exact hxy))
            clear hxy B
            rw [hd1]
            clear hd1
            go_wp2_with fail
            go_roundg (n - (k + 1))
            case measure => omega
            case rel => exact ⟨k + 1, q', by omega, by omega, Nat.le_refl _, by go_num, rfl, fun j hj => by
              by_cases e : j = k
              · rw [e]; exact KP.out
              · exact hall.out j (by omega)⟩
      · obtain rfl : k = n := by omega
        have t3 : decide ((k : Int) < (k : Int)) = false := by simp
        have hc := hideE (hall1.out (fun j hj => hall.out j (by have := HSZ.out; have := HNN.out; omega)))
        go_wp2_with fail
        go_ret
        exact ⟨by rw [hc.out, ← HNN.out]; rfl, by rw [hc.out]; exact HR.out.drewN q, below_drewN' (RowKit.Below.refl _ _) q⟩
end Go.Proofs.YtcdbcoaiadipjaaGreatDoor

/- The program's Solve and Naive. -/
namespace Go.Proofs.YtcdbcoaiadipjaaGreatDoor
open Go Go.RowKit Go.Proofs Go.Maps Go.Sort Go.Lib
set_option synthInstance.maxSize 1000
attribute [local go_sem] eql_errV neq_errV guard_errV

def SolveAns (S : List Tr) (q : Qu) (w : World) (e : Ending) (w' : World) : Prop := RowKit.Below w.heap.size w w' ∧ ∃ ad c, e = .returned (.tuple #[.slice ad (solveL S q).length c, errV (solveN S q)]) ∧ SlR w' ad (solveL S q) ∧ (solveL S q).length ≤ c ∧ (solveN S q = 0 → ∃ b, ad = some ⟨b, 0, none⟩)
theorem infoRow : (Tryz.prog.info? 33).map (fun i => (i.zero, i.size, i.bytes)) = some (some (.slice none 0 0), 1, 24) := by kernel_rfl
theorem makeRows (n : Nat) (w : World) (h : n ≤ 100000) : (Instr.makeSlice 36 (.int .i64 (n : Int)) (.int .i64 (n : Int))).run Tryz.prog w = .ok (.slice (some ⟨w.heap.size, 0, none⟩) n n) (w.alloc (.cells (madeCells #[.slice none 0 0] n) 33)) := by
  obtain ⟨i, hi, hz⟩ := Option.map_eq_some_iff.1 infoRow
  simp only [Prod.mk.injEq] at hz
  obtain ⟨h1, h2, h3⟩ := hz
  have := run_make (P := Tryz.prog) w 36 33 i _ Tryz.underlying36 hi h1 .i64 .i64 (n : Int) (n : Int) (by omega) (Int.le_refl _) (by rw [h3]; omega) (by omega)
  rw [h2] at this
  simpa [Value.cells] using this
theorem rowsC_made (W : World) (n : Nat) (T : TypeId) : RowsC (W.alloc (.cells (madeCells #[.slice none 0 0] n) T)) W.heap.size (List.replicate n []) := by
  have hh := heap_alloc_last W (.cells (madeCells #[.slice none 0 0] n) T)
  refine ⟨fun j hj => ?_, fun j hj => frozen_of_row _ _ j _ T hh⟩
  have hj' : j < n := by simpa using hj
  refine ⟨none, 0, ?_, ?_, fun a h => by cases h⟩
  · rw [cell_of_row _ _ j _ T (0, 0) hh, ← Array.getElem?_toList, toList_madeCells_one]
    simp [hj']
  · simp only [List.getElem_replicate]
    exact slQ_nil _ _
/-- as far as the rows are laid -/
def rowsK (P : List (List Tm)) (k : Nat) : List (List Tm) := P.take k ++ List.replicate (P.length - k) []
theorem rowsK_len (P : List (List Tm)) (k : Nat) (h : k ≤ P.length) : (rowsK P k).length = P.length := by simp [rowsK]; omega
theorem rowsK_next {P : List (List Tm)} {k : Nat} (h : k < P.length) : (rowsK P k).set k P[k] = rowsK P (k + 1) := by
  unfold rowsK
  obtain ⟨m, hm⟩ : ∃ m, P.length - k = m + 1 := ⟨P.length - k - 1, by omega⟩
  have hm2 : P.length - (k + 1) = m := by omega
  have hk : (P.take k).length = k := by simp; omega
  rw [hm, hm2, List.replicate_succ, List.set_append_right _ _ (by omega), hk, Nat.sub_self, List.set_cons_zero, List.take_succ_eq_append_getElem h, List.append_assoc]
  rfl
theorem rowsK_all (P : List (List Tm)) : rowsK P P.length = P := by simp [rowsK]
theorem rowsK_zero (P : List (List Tm)) : rowsK P 0 = List.replicate P.length [] := by simp [rowsK]
theorem proj_terms (vars told : List (List UInt8)) (r : List Tm) : termsE (boundT vars r) told = projR vars told r := rfl
theorem SlR.take {w : World} {ad : Option Addr} {L : List (List Tm)} (h : SlR w ad L) (k : Nat) : SlR w ad (L.take k) := fun hl => by
  have hne : L ≠ [] := fun e => by rw [e] at hl; simp at hl
  obtain ⟨b, o, e, r⟩ := h hne
  refine ⟨b, o, e, fun j hj => ?_⟩
  have hj' : j < L.length := by simp at hj; omega
  obtain ⟨rd, rc, c, s⟩ := r j hj'
  rw [List.getElem_take]
  exact ⟨rd, rc, c, s⟩
set_option maxHeartbeats 4000000 in
set_option maxRecDepth 100000 in
theorem Naive_any (ad : Option Addr) (ca : Nat) (S : List Tr) (q : Qu) (vd pd : Option Addr) (vc pc : Nat) (w : World) (h : SlT w ad S) (hfit : ∀ x ∈ S, fitTr x) (hn : S.length ≤ 9223372036854775807) (hq : QuIn w q vd pd) (hf : FitQ q) (hvc : q.vars.length ≤ vc) :
    Calls Tryz.prog 12 #[.slice ad S.length ca, valQ q vd vc pd pc] w fun e w' => e = .returned (.tuple #[.int .i64 (naiveI S q : Int), errV (solveN S q)]) ∧ RowKit.Below w.heap.size w w' := by
  have HA := fun W (hb : RowKit.Below w.heap.size w W) => answersTo_any ad ca S q vd pd vc pc W (h.below hb) hfit hn (hq.below hb) hf hvc
  clear h hq hf hfit hn
  obtain ⟨W0, hW0⟩ : ∃ W0, W0 = w.alloc (.cells #[.slice vd q.vars.length vc, .slice pd q.parts.length pc, .string ⟨q.order.toArray⟩, .bool q.down, .bool q.dist, .int .i64 q.lim] 26) := ⟨_, rfl⟩
  have hB0 : RowKit.Below w.heap.size w W0 := by rw [hW0]; exact balloc _ _
  obtain ⟨c0, c1, c2, c3, c4, c5⟩ := show BoxQ W0 w.heap.size q vd pd vc pc by rw [hW0]; exact boxQ_new _ _ _ _ _ _
  have HN : Hid (naiveI S q = if solveN S q = 0 then (match answersL S q.parts with | none => 0 | some (_, rows) => rows.length) else 0) := rfl
  unfold valQ at HA ⊢
  go_enter Tryz.func12, Tryz.ntmps12
  go_upto_region 1 with fail
  rw [← hW0]
  clear hW0
  go_wp2_with fail
  refine (HA W0 hB0).mono ?_
  rintro e w1 ⟨hb1, hbad, hgood⟩
  by_cases hz : solveN S q = 0
  · obtain ⟨vars, rows, ax, cx, az, cz, hans, rfl, hsl, _⟩ := hgood hz
    have hn2 := hideE (show naiveI S q = rows.length by rw [HN.out, if_pos hz, hans])
    have Hz := hideE hz
    clear hgood hbad hans hsl hz
    dsimp only
    generalize rows.length = nr at *
    go_wp2_with fail
    refine bodyPost_ret (v := .tuple #[.int .i64 (nr : Int), .nilIface]) (by simp [results, Tryz.results12, go_sem]) rfl ⟨?_, bstep hB0 hb1⟩
    rw [hn2.out, Hz.out]
    rfl
  · obtain rfl := hbad hz
    have hn2 := hideE (show naiveI S q = 0 by rw [HN.out, if_neg hz])
    clear hgood hbad
    dsimp only
    go_wp2_with fail
    refine bodyPost_ret (v := .tuple #[.int .i64 0, errV (solveN S q)]) (by simp [results, Tryz.results12, go_sem]) rfl ⟨?_, bstep hB0 hb1⟩
    rw [hn2.out]
    rfl
theorem solve_rows {S : List Tr} {q : Qu} {vars : List (List UInt8)} {rows : List (List Tm)} (hz : solveN S q = 0) (ha : answersL S q.parts = some (vars, rows)) : solveL S q = limR q.lim (sortR (ltQ q) q.dist (rows.map (projR vars q.vars))) := by
  unfold solveL solveA
  rw [if_pos hz, ha]
theorem limR_all {lim : Int} {L : List (List Tm)} (h : ¬ (0 ≤ lim ∧ lim < (L.length : Int))) : limR lim L = L := by
  unfold limR
  split
  · exact List.take_of_length_le (by omega)
  · rfl
set_option maxHeartbeats 8000000 in
set_option maxRecDepth 100000 in
theorem Solve_any (ad : Option Addr) (ca : Nat) (S : List Tr) (q : Qu) (vd pd : Option Addr) (vc pc : Nat) (w : World) (h : SlT w ad S) (hfit : ∀ x ∈ S, fitTr x) (hn : S.length ≤ 9223372036854775807) (hq : QuIn w q vd pd) (hf : FitQ q) (hvc : q.vars.length ≤ vc) :
    Calls Tryz.prog 9 #[.slice ad S.length ca, valQ q vd vc pd pc] w (SolveAns S q w) := by
  have HA := fun W (hb : RowKit.Below w.heap.size w W) => answersTo_any ad ca S q vd pd vc pc W (h.below hb) hfit hn (hq.below hb) hf hvc
  have HO := fun W (hb : RowKit.Below w.heap.size w W) => ordering_any q vd pd vc pc W (hq.below hb) hf
  have Hq := hideE hq
  have Hvt := hideE hf.vt
  obtain ⟨Q, hQ⟩ : ∃ Q, Q = SolveAns S q w := ⟨_, rfl⟩
  have HQ : Hid (∀ e w', SolveAns S q w e w' → Q e w') := fun e w' h => by rw [hQ]; exact h
  rw [← hQ]
  clear h hq hf hfit hn hQ
  obtain ⟨W0, hW0⟩ : ∃ W0, W0 = w.alloc (.cells #[.slice vd q.vars.length vc, .slice pd q.parts.length pc, .string ⟨q.order.toArray⟩, .bool q.down, .bool q.dist, .int .i64 q.lim] 26) := ⟨_, rfl⟩
  have hB0 : RowKit.Below w.heap.size w W0 := by rw [hW0]; exact balloc _ _
  have hX0 := hideE (show BoxQ W0 w.heap.size q vd pd vc pc by rw [hW0]; exact boxQ_new _ _ _ _ _ _)
  obtain ⟨c0, c1, c2, c3, c4, c5⟩ := hX0.out
  unfold valQ at HA HO ⊢
  obtain ⟨dq, hdq⟩ : ∃ b, b = q.dist := ⟨_, rfl⟩
  rw [← hdq] at HA HO hW0 c4 ⊢
  have Hdq := hideE hdq
  clear hdq
  have HHO := hideE HO
  clear HO
  go_enter Tryz.func9, Tryz.ntmps9
  go_upto_region 1 with fail
  rw [← hW0]
  clear hW0
  go_wp2_with fail
  refine (HA W0 hB0).mono ?_
  rintro e w1 ⟨hb1, hbad, hgood⟩
  clear c0 c1 c2 c3 c4 c5 HA
  by_cases hz : solveN S q = 0
  · obtain ⟨vars, rows, ax, cx, az, cz, hans, rfl, hsl, _⟩ := hgood hz
    obtain ⟨hset, hgq, _⟩ := solve_good hz
    have hokr := (answersL_ok hans).2
    have hsol := hideE (solve_rows hz hans)
    have Hz := hideE hz
    have hB1 := bstep hB0 hb1
    have hX1 := hideE (hX0.out.below hb1)
    have HE := hideE hsl
    have hv8 : q.vars.length ≤ 100000 := by
      have := few_le q.vars (partsV [] q.parts) hgq.once (fun v hv => hgq.within v hv)
      have := hgq.eight
      omega
    have hlim := hgq.lim
    have hwi : ∀ j, whereV q.vars q.order = some j → j < q.vars.length := fun j hj => by
      unfold whereV at hj
      split at hj
      · rename_i hm
        injection hj with hj
        rw [← hj]
        exact List.idxOf_lt_length_of_mem hm
      · cases hj
    have Hwi := hideE hwi
    have hP : rows.length = (rows.map (projR vars q.vars)).length := by simp
    have hLen := hideE (proj_len vars q.vars rows)
    have HK : Hid (∀ k (hk : k < (rows.map (projR vars q.vars)).length), ∃ b o bm f, ax = some ⟨b, o, none⟩ ∧ w1.cell? ⟨b, o + k, none⟩ = some (.map (some bm)) ∧ EvAt w1 bm 18 f ∧ termsE f q.vars = (rows.map (projR vars q.vars))[k]) := fun k hk => by
      obtain ⟨b, o, bm, e1, e2, e3⟩ := HE.out.at k (by simpa using hk)
      exact ⟨b, o, bm, _, e1, e2, e3, by simp [proj_terms]⟩
    have HTm : Hid (∀ f W bm, EvAt W bm 18 f → SlW W vd q.vars → Calls Tryz.prog 31 #[.map (some bm), .slice vd q.vars.length vc] W fun e w' => e = .returned (.slice (some ⟨W.heap.size, 0, none⟩) q.vars.length q.vars.length) ∧ RowQ w' W.heap.size (termsE f q.vars) ∧ RowKit.Below W.heap.size W w') := fun f W bm h1 h2 => terms_any bm 18 f vd vc q.vars W h1 h2 Hvt.out hv8
    rw [hP] at hokr ⊢
    clear hgood hbad hans hsl hz hset hgq hwi HE hP
    generalize rows.map (projR vars q.vars) = P at *
    have hmk := fun W => makeRows P.length W (by omega)
    have hR0 := hideE (rowsC_made w1 P.length 33)
    rw [← rowsK_zero] at hR0
    dsimp only
    obtain ⟨np, hnp⟩ : ∃ n, n = P.length := ⟨_, rfl⟩
    rw [← hnp] at hmk hokr ⊢
    have Hnp := hideE hnp
    have c0 := hX1.out.c0
    have hz1 := World.block_lt_of_cell? w1 _ c0
    dsimp only at hz1
    obtain ⟨W1, hW1⟩ : ∃ W1, W1 = w1.alloc (.cells (madeCells #[.slice none 0 0] np) 33) := ⟨_, rfl⟩
    rw [← hnp, ← hW1] at hR0
    have hB2 : RowKit.Below w1.heap.size w1 W1 := by rw [hW1]; exact balloc _ _
    have hz2 : w1.heap.size < W1.heap.size := by rw [hW1]; simp
    clear hnp
    go_upto_region 5 with fail
    rw [← hW1]
    clear hW1 hmk
    go_wp2_with fail
    go_loopw [27] (fun i wr => ∃ k : Nat, k ≤ np ∧ i = .int .i64 k ∧ Hid (RowsC wr w1.heap.size (rowsK P k)) ∧ RowKit.Below w1.heap.size w1 wr ∧ w1.heap.size < wr.heap.size) (fun i wr => np - (intOf i).toNat)
    case atStart => exact ⟨0, Nat.zero_le _, rfl, hR0.out, hB2, hz2⟩
    case round =>
      clear hR0 hB2 hz2
      obtain ⟨k, hk, rfl, hRk, hbr, hz2⟩ := hrel
      by_cases hlt : k < np
      · have t1 : decide ((k : Int) < (np : Int)) = true := by simp; omega
        have i0 : (0 : Int) ≤ (k : Int) := by omega
        have i1 : (k : Int) < (np : Int) := by omega
        have hkP : k < P.length := by rw [← Hnp.out]; exact hlt
        obtain ⟨b, o, bm, f, rfl, cm, em, et⟩ := HK.out k hkP
        have cmr := (hbr.cell (World.block_lt_of_cell? w1 _ cm)).trans cm
        have c0r := (hbr.cell (p := ⟨w.heap.size, 0, none⟩) hz1).trans c0
        have HT := HTm.out f wr bm (em.far hbr em.lt) (Hq.out.vars.below (bstep hB1 hbr))
        have hnext := hideE (rowsK_next hkP)
        have Het := hideE et
        obtain ⟨ro, co, g0, _, _⟩ := hRk.out.at_ k (by rw [rowsK_len P k (by omega)]; exact hkP)
        have gz := World.block_lt_of_cell? wr _ g0
        clear cm em et
        go_wp2_with fail
        refine HT.mono ?_
        rintro e w2 ⟨rfl, hr2, hb2⟩
        rw [Het.out] at hr2
        have hRk2 := hideE (hRk.out.below hb2)
        have g2 := (hb2.cell (p := ⟨w1.heap.size, k, none⟩) hz2).trans g0
        have f2 := hRk2.out.free k (by rw [rowsK_len P k (by omega)]; exact hkP)
        have hlenk : q.vars.length = P[k].length := (hLen.out _ (List.getElem_mem hkP)).symm
        have hset := hideE (hRk2.out.set (k := k) (u := P[k]) (rd := some ⟨wr.heap.size, 0, none⟩) (rc := q.vars.length) hr2.sl (fun a ha => by simp at ha; rw [← ha]; show wr.heap.size ≠ w1.heap.size; omega))
        rw [hnext.out, ← hlenk] at hset
        have hBf := hideE (bstep hbr hb2)
        have hzf := hb2.size
        clear hr2 hRk2 g0 hlenk
        dsimp only
        go_wp2_with fail
        go_roundw
        case rel => exact ⟨k + 1, by omega, by go_num, hset, hBf.out.setCell (p := ⟨w1.heap.size, k, none⟩) (Nat.le_refl _) _, by simp [World.setCell]; omega⟩
        case measure => simp [intOf]; omega
      · obtain rfl : k = np := by omega
        have t1 : decide ((k : Int) < (k : Int)) = false := by simp
        have hRP := hideE (show RowsC wr w1.heap.size P by have := hRk.out; rw [Hnp.out, rowsK_all] at this; exact this)
        clear hRk
        obtain ⟨x0, x1, x2, x3, x4, x5⟩ := hX1.out.below hbr
        rw [← Hdq.out] at x4
        have hBw := bstep hB1 hbr
        have hX4 := hideE x4
        have hX5 := hideE x5
        go_wp2_with fail
        refine (HHO.out wr hBw).mono ?_
        rintro e w3 ⟨v, rfl, hv, hb3, hnew⟩
        have HSo := sortRows_any w1.heap.size k q.vars.length (whereV q.vars q.order) q.down v P w3 hv (hRP.out.below hb3) hLen.out (by omega) Hwi.out (by rw [← Hnp.out]; omega) (fun j _ bA bS bQ he => by
          obtain ⟨n1, n2, n3⟩ := hnew bA bS bQ he
          exact ⟨by omega, by omega, by omega⟩)
        rw [← Hnp.out] at HSo
        have hB3 := hideE (bstep hBw hb3)
        have hzz : w1.heap.size ≤ w3.heap.size := by have := hb3.size; omega
        have hg3 : w.heap.size < w1.heap.size := hz1
        have hbw3 : Hid (RowKit.Below w1.heap.size w1 w3) := bstep hbr hb3
        clear x0 x1 x2 x3 x4 x5 hv hnew hRP HHO hb3
        dsimp only
        go_wp2_with fail
        refine HSo.mono ?_
        rintro e w4 ⟨rfl, hb4, hR4⟩
        have hlt : Hid (aheadB (whereV q.vars q.order) q.down = ltQ q) := rfl
        rw [hlt.out] at hR4
        have x4 : w4.cell? ⟨w.heap.size, 4, none⟩ = some (.bool dq) := by rw [Hdq.out]; exact (hb4.cell (p := ⟨w.heap.size, 4, none⟩) hg3).trans ((hbw3.out.cell (p := ⟨w.heap.size, 4, none⟩) hg3).trans hX1.out.c4)
        have x5 : w4.cell? ⟨w.heap.size, 5, none⟩ = some (.int .i64 q.lim) := (hb4.cell (p := ⟨w.heap.size, 5, none⟩) hg3).trans ((hbw3.out.cell (p := ⟨w.heap.size, 5, none⟩) hg3).trans hX1.out.c5)
        have hlenT : (sortR (ltQ q) false P).length = k := by rw [sort_len, ← Hnp.out]
        have hLT : LenR q.vars.length (sortR (ltQ q) false P) := fun x hx => hLen.out x (sort_mem.1 hx)
        have hcs := hideE (comp_sort (ordQ q q.vars.length) hLen.out (fold_sorted (ordQ q q.vars.length) hLen.out (fun x hx => by cases hx) List.Pairwise.nil))
        have HCo := CompactQ_any w1.heap.size k q.vars.length (sortR (ltQ q) false P) w4 hR4 hLT (by omega) (by omega) (by omega)
        rw [hlenT, hcs.out] at HCo
        have hR4' := hideE hR4
        have hB4 := hideE hb4
        clear hR4 hb4 HSo hLT hcs
        dsimp only
        go_upto_if 45 with fail
        go_cut [9] from 46 to 47 (fun vv W => ∃ m, vv = .slice (some ⟨w1.heap.size, 0, none⟩) m k ∧ Hid (m = (sortR (ltQ q) q.dist P).length) ∧ Hid (RowsC W w1.heap.size (sortR (ltQ q) q.dist P)) ∧ Hid (RowKit.Below w1.heap.size w3 W))
        case first =>
          cases dq with
          | false =>
            go_wp2_with fail
            go_meet
            case rel => exact ⟨k, rfl, by show _ = _; rw [← Hdq.out]; exact hlenT.symm, by show RowsC _ _ _; rw [← Hdq.out]; exact hR4'.out, hB4.out⟩
          | true =>
            go_wp2_with fail
            refine HCo.mono ?_
            rintro e w5 ⟨rfl, hr5, hb5⟩
            dsimp only
            generalize hml : (sortR (ltQ q) true P).length = ml at *
            have Hml := hideE hml
            have HR5 := hideE hr5
            clear hml hr5
            go_wp2_with fail
            go_meet
            case rel => exact ⟨ml, rfl, by show _ = _; rw [← Hdq.out]; exact Hml.out.symm, by show RowsC _ _ _; rw [← Hdq.out]; exact HR5.out, hB4.out.trans hb5⟩
        case rest =>
          obtain ⟨m, rfl, hm, hRf, hBf⟩ := hcut
          have y5 : wc.cell? ⟨w.heap.size, 5, none⟩ = some (.int .i64 q.lim) := (hBf.out.cell (p := ⟨w.heap.size, 5, none⟩) hg3).trans ((hbw3.out.cell (p := ⟨w.heap.size, 5, none⟩) hg3).trans hX1.out.c5)
          have hmk2 : m ≤ k := by
            rw [hm.out]
            cases hdq : q.dist with
            | false => rw [hlenT]; exact Nat.le_refl _
            | true =>
              have := once_le _ P (sort_once (ltQ q) P) (fun v hv => sort_mem.1 hv)
              rw [← Hnp.out] at this
              exact this
          have hBall := hideE (hB3.out.trans (hBf.out.mono (by omega)))
          clear x4 x5 HCo hR4' hB4 hlenT
          by_cases h0 : 0 ≤ q.lim
          · obtain ⟨ln, hln0⟩ : ∃ ln : Nat, q.lim = (ln : Int) := ⟨q.lim.toNat, by omega⟩
            rw [hln0] at y5
            have hln := hideE hln0
            clear hln0
            have t2 : decide ((ln : Int) ≥ 0) = true := by simp
            by_cases h1 : ln < m
            · have t3 : decide ((ln : Int) < (m : Int)) = true := by simp; omega
              have l0 : (0 : Int) ≤ (ln : Int) := by omega
              have l1 : (ln : Int) ≤ (k : Int) := by omega
              have l2 : ln ≤ k := by omega
              have hfin : Hid (solveL S q = (sortR (ltQ q) q.dist P).take ln) := by
                show _ = _
                rw [hsol.out]
                unfold limR
                rw [if_pos h0, hln.out]
                simp
              go_wp2_with fail
              exact HQ.out (.returned (.tuple #[.slice (some ⟨w1.heap.size, 0, none⟩) ln k, .nilIface])) wc ⟨hBall.out, some ⟨w1.heap.size, 0, none⟩, k, by
                rw [hfin.out, Hz.out, List.length_take, ← hm.out, Nat.min_eq_left (by omega)]
                rfl, by rw [hfin.out]; exact hRf.out.sl.take ln, by rw [hfin.out, List.length_take]; omega, fun _ => ⟨_, rfl⟩⟩
            · have t3 : decide ((ln : Int) < (m : Int)) = false := by simp; omega
              have hfin : Hid (solveL S q = sortR (ltQ q) q.dist P) := by
                show _ = _
                rw [hsol.out]
                exact limR_all (fun h => by have := h.2; rw [hln.out, ← hm.out] at this; omega)
              go_wp2_with fail
              exact HQ.out (.returned (.tuple #[.slice (some ⟨w1.heap.size, 0, none⟩) m k, .nilIface])) wc ⟨hBall.out, some ⟨w1.heap.size, 0, none⟩, k, by
                rw [hfin.out, Hz.out, ← hm.out]
                rfl, by rw [hfin.out]; exact hRf.out.sl, by rw [hfin.out, ← hm.out]; exact hmk2, fun _ => ⟨_, rfl⟩⟩
          · have t2 : decide (q.lim ≥ 0) = false := by simp; omega
            have hfin : Hid (solveL S q = sortR (ltQ q) q.dist P) := by
              show _ = _
              rw [hsol.out]
              exact limR_all (fun h => h0 h.1)
            go_wp2_with fail
            exact HQ.out (.returned (.tuple #[.slice (some ⟨w1.heap.size, 0, none⟩) m k, .nilIface])) wc ⟨hBall.out, some ⟨w1.heap.size, 0, none⟩, k, by
              rw [hfin.out, Hz.out, ← hm.out]
              rfl, by rw [hfin.out]; exact hRf.out.sl, by rw [hfin.out, ← hm.out]; exact hmk2, fun _ => ⟨_, rfl⟩⟩
  · obtain rfl := hbad hz
    have hl : solveL S q = [] := by unfold solveL; rw [if_neg hz]
    have Hl := hideE hl
    have e1 : (solveN S q == 0) = false := by simpa using hz
    clear hgood hbad
    dsimp only
    go_wp2_with fail
    exact HQ.out _ _ ⟨bstep hB0 hb1, none, 0, by rw [Hl.out]; rfl, by rw [Hl.out]; exact slR_nil _ _, by rw [Hl.out]; exact Nat.le_refl 0, fun h => absurd h hz⟩
end Go.Proofs.YtcdbcoaiadipjaaGreatDoor

/- solve.Sizes, plan.Cost. -/
namespace Go.Proofs.YtcdbcoaiadipjaaGreatDoor
open Go Go.RowKit Go.Proofs Go.Maps
set_option synthInstance.maxSize 1000
attribute [local go_sem] eql_errV neq_errV guard_errV

def SizesAns (S : List Tr) (q : Qu) (w : World) (e : Ending) (w' : World) : Prop := RowKit.Below w.heap.size w w' ∧ (solveN S q ≠ 0 → e = .returned (.tuple #[.slice none 0 0, errV (solveN S q)])) ∧ (solveN S q = 0 → ∃ az cz, e = .returned (.tuple #[.slice az (sizesL S q.parts).length cz, .nilIface]) ∧ SlI w' az ((sizesL S q.parts).map fun n : Nat => (n : Int)))
set_option maxHeartbeats 4000000 in
set_option maxRecDepth 100000 in
theorem Sizes_any (ad : Option Addr) (ca : Nat) (S : List Tr) (q : Qu) (vd pd : Option Addr) (vc pc : Nat) (w : World) (h : SlT w ad S) (hfit : ∀ x ∈ S, fitTr x) (hn : S.length ≤ 9223372036854775807) (hq : QuIn w q vd pd) (hf : FitQ q) (hvc : q.vars.length ≤ vc) :
    Calls Tryz.prog 45 #[.slice ad S.length ca, valQ q vd vc pd pc] w (SizesAns S q w) := by
  have HA := fun W (hb : RowKit.Below w.heap.size w W) => answersTo_any ad ca S q vd pd vc pc W (h.below hb) hfit hn (hq.below hb) hf hvc
  clear h hq hf hfit hn
  obtain ⟨Q, hQ⟩ : ∃ Q, Q = SizesAns S q w := ⟨_, rfl⟩
  have HQ : Hid (∀ e w', SizesAns S q w e w' → Q e w') := fun e w' h => by rw [hQ]; exact h
  rw [← hQ]
  clear hQ
  obtain ⟨W0, hW0⟩ : ∃ W0, W0 = w.alloc (.cells #[.slice vd q.vars.length vc, .slice pd q.parts.length pc, .string ⟨q.order.toArray⟩, .bool q.down, .bool q.dist, .int .i64 q.lim] 26) := ⟨_, rfl⟩
  have hB0 : RowKit.Below w.heap.size w W0 := by rw [hW0]; exact balloc _ _
  obtain ⟨c0, c1, c2, c3, c4, c5⟩ := show BoxQ W0 w.heap.size q vd pd vc pc by rw [hW0]; exact boxQ_new _ _ _ _ _ _
  unfold valQ at HA ⊢
  go_enter Tryz.func45, Tryz.ntmps45
  go_upto_region 1 with fail
  rw [← hW0]
  clear hW0
  go_wp2_with fail
  refine (HA W0 hB0).mono ?_
  rintro e w1 ⟨hb1, hbad, hgood⟩
  by_cases hz : solveN S q = 0
  · obtain ⟨vars, rows, ax, cx, az, cz, hans, rfl, hsl, hsi⟩ := hgood hz
    have Hz := hideE hz
    have Hsi := hideE hsi
    clear hgood hbad hans hsl hz hsi
    generalize hln : (sizesL S q.parts).length = nz at *
    have Hln := hideE hln
    clear hln
    dsimp only
    go_wp2_with fail
    exact HQ.out (.returned (.tuple #[.slice az nz cz, .nilIface])) _ ⟨bstep hB0 hb1, fun h => absurd Hz.out h, fun _ => ⟨az, cz, by rw [Hln.out], Hsi.out⟩⟩
  · obtain rfl := hbad hz
    have Hz := hideE hz
    clear hgood hbad
    dsimp only
    generalize hnn : solveN S q = n1 at *
    have Hnn := hideE hnn
    clear hnn hz
    go_wp2_with fail
    exact HQ.out (.returned (.tuple #[.slice none 0 0, errV n1])) _ ⟨bstep hB0 hb1, fun _ => by rw [Hnn.out], fun h => absurd (Hnn.out.symm.trans h) Hz.out⟩
set_option maxHeartbeats 4000000 in
set_option maxRecDepth 100000 in
theorem Cost_any (ad : Option Addr) (ca : Nat) (S : List Tr) (q : Qu) (vd pd : Option Addr) (vc pc : Nat) (w : World) (h : SlT w ad S) (hfit : ∀ x ∈ S, fitTr x) (hn : S.length ≤ 9223372036854775807) (hq : QuIn w q vd pd) (hf : FitQ q) (hvc : q.vars.length ≤ vc) :
    Calls Tryz.prog 17 #[.slice ad S.length ca, valQ q vd vc pd pc] w fun e w' => e = .returned (.tuple #[.int .i64 (costI S q : Nat), errV (solveN S q)]) ∧ RowKit.Below w.heap.size w w' := by
  have HA := fun W (hb : RowKit.Below w.heap.size w W) => Sizes_any ad ca S q vd pd vc pc W (h.below hb) hfit hn (hq.below hb) hf hvc
  clear h hq hf hfit hn
  obtain ⟨W0, hW0⟩ : ∃ W0, W0 = w.alloc (.cells #[.slice vd q.vars.length vc, .slice pd q.parts.length pc, .string ⟨q.order.toArray⟩, .bool q.down, .bool q.dist, .int .i64 q.lim] 26) := ⟨_, rfl⟩
  have hB0 : RowKit.Below w.heap.size w W0 := by rw [hW0]; exact balloc _ _
  obtain ⟨c0, c1, c2, c3, c4, c5⟩ := show BoxQ W0 w.heap.size q vd pd vc pc by rw [hW0]; exact boxQ_new _ _ _ _ _ _
  unfold valQ at HA ⊢
  go_enter Tryz.func17, Tryz.ntmps17
  go_upto_region 1 with fail
  rw [← hW0]
  clear hW0
  go_wp2_with fail
  refine (HA W0 hB0).mono ?_
  rintro e w1 ⟨hb1, hbad, hgood⟩
  clear c0 c1 c2 c3 c4 c5 HA
  by_cases hz : solveN S q = 0
  · obtain ⟨az, cz, rfl, hsi⟩ := hgood hz
    obtain ⟨_, hgq, vars, rows, hans⟩ := solve_good hz
    have Hsi := hideE hsi
    have hcost := hideE (show costI S q = (sizesL S q.parts).sum by unfold costI; rw [if_pos hz])
    have hfew := hideE (sizes_few S q.parts [] [[]] hans)
    have hlen : (sizesL S q.parts).length ≤ 6 := by
      have := sizes_len S q.parts [] [[]]
      have h6 := hgq.six
      show (sizesF S [] [[]] q.parts).length ≤ 6
      omega
    have Hz := hideE hz
    have hfew' : Hid (∀ n ∈ sizesL S q.parts, n ≤ 500) := hfew.out
    clear hgood hbad hz hsi hgq hans hfew
    generalize sizesL S q.parts = L at *
    have hsum : Hid (∀ k, (L.take k).sum ≤ 500 * k) := fun k => by
      induction k with
      | zero => simp
      | succ k ih =>
        by_cases hk : k < L.length
        · rw [List.take_succ_eq_append_getElem hk, List.sum_append]
          have := hfew'.out _ (List.getElem_mem hk)
          simp
          omega
        · rw [List.take_of_length_le (by omega)]
          rw [List.take_of_length_le (by omega)] at ih
          omega
    have hB1 := bstep hB0 hb1
    obtain ⟨n, hnn⟩ : ∃ n, n = L.length := ⟨_, rfl⟩
    have Hn := hideE hnn
    rw [← hnn] at hlen ⊢
    clear hnn hb1
    dsimp only
    go_wp2_with fail
    go_loopw [8, 22] (fun c i wr => ∃ k : Nat, k ≤ n ∧ i = .int .i64 k ∧ wr = w1 ∧ c = .int .i64 ((L.take k).sum : Nat)) (fun _ i wr => n - (intOf i).toNat)
    case atStart => exact ⟨0, Nat.zero_le _, rfl, rfl, rfl⟩
    case round =>
      obtain ⟨k, hk, rfl, hw, rfl⟩ := hrel
      obtain rfl : w1 = wr := hw.symm
      by_cases hlt : k < n
      · have hkL : k < L.length := by rw [← Hn.out]; exact hlt
        obtain ⟨b, o, rfl, hc⟩ := Hsi.out.at (j := k) (by simp; exact hkL)
        simp only [List.getElem_map] at hc
        have hs := hideE (show (L.take (k + 1)).sum = (L.take k).sum + L[k] by rw [List.take_succ_eq_append_getElem hkL, List.sum_append]; simp)
        have b1 := hsum.out k
        have b2 := hfew'.out _ (List.getElem_mem hkL)
        have t1 : decide ((k : Int) < (n : Int)) = true := by simp; omega
        have i0 : (0 : Int) ≤ (k : Int) := by omega
        have i1 : (k : Int) < (n : Int) := by omega
        generalize L[k] = x at *
        generalize (L.take k).sum = y at *
        have hy6 : y ≤ 3000 := by omega
        clear hkL b1
        go_wp2_with fail
        go_roundw
        case rel => exact ⟨k + 1, by omega, by go_num, by trivial, by rw [hs.out]; go_num⟩
        case measure => simp [intOf]; omega
      · obtain rfl : k = n := by omega
        have t1 : decide ((k : Int) < (k : Int)) = false := by simp
        have hf : Hid ((L.take k).sum = costI S q) := by show _ = _; rw [hcost.out, Hn.out, List.take_length]
        rw [hf.out]
        go_wp2_with fail
        refine bodyPost_ret (v := .tuple #[.int .i64 ((costI S q : Nat) : Int), .nilIface]) (by simp [results, Tryz.results17, go_sem]) rfl ⟨?_, hB1⟩
        rw [Hz.out]
        rfl
  · obtain rfl := hbad hz
    have hc := hideE (show costI S q = 0 by unfold costI; rw [if_neg hz])
    have e1 : (solveN S q == 0) = false := by simpa using hz
    clear hgood hbad
    dsimp only
    go_wp2_with fail
    refine bodyPost_ret (v := .tuple #[.int .i64 0, errV (solveN S q)]) (by simp [results, Tryz.results17, go_sem]) rfl ⟨?_, bstep hB0 hb1⟩
    rw [hc.out]
    rfl
end Go.Proofs.YtcdbcoaiadipjaaGreatDoor

/- errors.As at a target of type api.Errno, of an error that is one; plain.Told. Go's own text is walked; the facts are on the model's entries for internal/reflectlite at this program's types. -/
namespace Go.Proofs.YtcdbcoaiadipjaaGreatDoor
open Go Go.RowKit Go.Extern.Stop Go.Stop Go.Extern

theorem valueOfP (t : Addr) (w : World) : (ReflectliteValue.unpack (.iface 112 (.pointer (some t)))).run Tryz.prog w
    = .ok (.agg #[.pointer (some ⟨2, 112, none⟩), .pointer (some ⟨w.heap.size, 0, none⟩), .int .u64 150]) (w.alloc (.cells #[.pointer (some t)] 112)) := by kernel_rfl
theorem typeP (a : Addr) (w : World) : (ReflectliteValue.methodAny (ReflectliteValue.valueError "reflectlite.Value.Type" 0) (fun t _ _ _ => ReflectliteType.toType t) #[.agg #[.pointer (some ⟨2, 112, none⟩), .pointer (some a), .int .u64 150]]).run Tryz.prog w
    = .ok (.iface 187 (.agg #[.pointer (some ⟨2, 112, none⟩)])) w := by kernel_rfl
theorem kindP (w : World) : ((ReflectliteType.abiMethod fun t => (fun a : Nat => Value.int IntKind.u8 (a : Int)) <$> Rtype.kind t) #[.pointer (some ⟨2, 112, none⟩)]).run Tryz.prog w = .ok (.int .u8 22) w := by kernel_rfl
theorem kindE (w : World) : ((ReflectliteType.abiMethod fun t => (fun a : Nat => Value.int IntKind.u8 (a : Int)) <$> Rtype.kind t) #[.pointer (some ⟨2, 86, none⟩)]).run Tryz.prog w = .ok (.int .u8 2) w := by kernel_rfl
theorem methodKind (h : Value) (w : World) : (Go.method 351 187 (.agg #[h]) "Kind").run Tryz.prog w = .ok (182, h) w := by kernel_rfl
theorem methodElem (h : Value) (w : World) : (Go.method 351 187 (.agg #[h]) "Elem").run Tryz.prog w = .ok (192, .agg #[h]) w := by kernel_rfl
theorem methodImplements (h : Value) (w : World) : (Go.method 351 187 (.agg #[h]) "Implements").run Tryz.prog w = .ok (193, .agg #[h]) w := by kernel_rfl
theorem methodAssignableTo (h : Value) (w : World) : (Go.method 351 187 (.agg #[h]) "AssignableTo").run Tryz.prog w = .ok (190, .agg #[h]) w := by kernel_rfl
theorem rlm (z : Sem Value) (f : TypeId → Addr → Nat → Nat → Sem Value) (v : Value) :
    ReflectliteValue.method z f #[v] = (do match ← ReflectliteValue.parts v with | none => z | some (t, a, fl) => f t a fl (fl % 32)) := rfl
theorem partsP (a : Addr) (w : World) : (ReflectliteValue.parts (.agg #[.pointer (some ⟨2, 112, none⟩), .pointer (some a), .int .u64 150])).run Tryz.prog w = .ok (some (112, a, 150)) w := by kernel_rfl
theorem isNilP (a p : Addr) (W : World) (ha : W.cell? a = some (.pointer (some p))) :
    (ReflectliteValue.method (ReflectliteValue.valueError "reflectlite.Value.IsNil" 0) ReflectliteValue.isNil #[.agg #[.pointer (some ⟨2, 112, none⟩), .pointer (some a), .int .u64 150]]).run Tryz.prog W = .ok (.bool false) W := by
  rw [rlm]
  simp only [Sem.run_bind, partsP, Result.andThen]
  simp [ReflectliteValue.isNil, loadVar, isAgg, underlying, Tryz.underlying112, ha, Result.andThen]
theorem elemTP (w : World) : (ReflectliteType.method ReflectliteType.elem #[.agg #[.pointer (some ⟨2, 112, none⟩)]]).run Tryz.prog w = .ok (.iface 187 (.agg #[.pointer (some ⟨2, 86, none⟩)])) w := by kernel_rfl
theorem implementsE (w : World) : (ReflectliteType.relation "Implements" ReflectliteType.implements_ #[.agg #[.pointer (some ⟨2, 86, none⟩)], .iface 187 (.agg #[.pointer (some ⟨2, 42, none⟩)])]).run Tryz.prog w = .ok (.bool true) w := by kernel_rfl
theorem typeOfE (v : Value) (w : World) : (ReflectliteType.typeOf #[.iface 86 v]).run Tryz.prog w = .ok (.iface 187 (.agg #[.pointer (some ⟨2, 86, none⟩)])) w := by kernel_rfl
theorem assignableE (w : World) : (ReflectliteType.relation "AssignableTo" ReflectliteType.assignableTo #[.agg #[.pointer (some ⟨2, 86, none⟩)], .iface 187 (.agg #[.pointer (some ⟨2, 86, none⟩)])]).run Tryz.prog w = .ok (.bool true) w := by kernel_rfl
theorem valueOfE (n : Int) (w : World) : (ReflectliteValue.unpack (.iface 86 (.int .i64 n))).run Tryz.prog w
    = .ok (.agg #[.pointer (some ⟨2, 86, none⟩), .pointer (some ⟨w.heap.size, 0, none⟩), .int .u64 130]) (w.alloc (.cells #[.int .i64 n] 86)) := by kernel_rfl
theorem elemOfP (w : World) : (Rtype.elem? 112).run Tryz.prog w = .ok (some 86) w := by kernel_rfl
theorem mkE (p : Addr) (w : World) : (ReflectliteValue.mk 86 p ReflectliteValue.flagAddr).run Tryz.prog w = .ok (.agg #[.pointer (some ⟨2, 86, none⟩), .pointer (some p), .int .u64 386]) w := by kernel_rfl
theorem elemVP (a p : Addr) (W : World) (ha : W.cell? a = some (.pointer (some p))) :
    (ReflectliteValue.method (ReflectliteValue.valueError "reflectlite.Value.Elem" 0) ReflectliteValue.elem #[.agg #[.pointer (some ⟨2, 112, none⟩), .pointer (some a), .int .u64 150]]).run Tryz.prog W
      = .ok (.agg #[.pointer (some ⟨2, 86, none⟩), .pointer (some p), .int .u64 386]) W := by
  rw [rlm]
  simp only [Sem.run_bind, partsP, Result.andThen]
  simp [ReflectliteValue.elem, loadVar, isAgg, underlying, Tryz.underlying112, ha, Result.andThen, elemOfP, mkE]
theorem partsEa (a : Addr) (w : World) : (ReflectliteValue.parts (.agg #[.pointer (some ⟨2, 86, none⟩), .pointer (some a), .int .u64 386])).run Tryz.prog w = .ok (some (86, a, 386)) w := by kernel_rfl
theorem partsE (a : Addr) (w : World) : (ReflectliteValue.parts (.agg #[.pointer (some ⟨2, 86, none⟩), .pointer (some a), .int .u64 130])).run Tryz.prog w = .ok (some (86, a, 130)) w := by kernel_rfl
theorem directE (w : World) : (Rtype.directlyAssignable 86 86).run Tryz.prog w = .ok true w := by kernel_rfl
theorem setE (ta b : Addr) (n : Int) (old : Value) (W : World) (hb : W.cell? b = some (.int .i64 n)) (ht : W.cell? ta = some old) (hf : W.frozen? ta = false) :
    (ReflectliteValue.set #[.agg #[.pointer (some ⟨2, 86, none⟩), .pointer (some ta), .int .u64 386], .agg #[.pointer (some ⟨2, 86, none⟩), .pointer (some b), .int .u64 130]]).run Tryz.prog W
      = .ok (.tuple #[]) (W.setCell ta (.int .i64 n)) := by
  change Sem.run _ (ReflectliteValue.parts (.agg #[.pointer (some ⟨2, 86, none⟩), .pointer (some ta), .int .u64 386]) >>= fun p1 => ReflectliteValue.parts (.agg #[.pointer (some ⟨2, 86, none⟩), .pointer (some b), .int .u64 130]) >>= fun p2 => _) _ = _
  simp only [Sem.run_bind, partsEa, partsE, Result.andThen]
  simp [ReflectliteValue.flagAddr, loadVar, isAgg, underlying, Tryz.underlying86, hb, Result.andThen, directE, storeVar, Value.cells, storeCells, Addr.add]
  rw [run_store Tryz.prog W ta _ _ (by rfl)]
  simp [ht, hf]

end Go.Proofs.YtcdbcoaiadipjaaGreatDoor

/- errors.As at a target of type api.Errno, of an error that is one: Go's own text, walked; plain.Told. -/
namespace Go.Proofs.YtcdbcoaiadipjaaGreatDoor
open Go Go.RowKit Go.Extern.Stop Go.Stop Go.Extern

set_option maxHeartbeats 4000000 in
set_option maxRecDepth 100000 in
theorem as_hit (n : Int) (t : Addr) (old : Value) (w : World) (hg : w.cell? ⟨0, 0, none⟩ = some (.iface 187 (.agg #[.pointer (some ⟨2, 42, none⟩)]))) (ht0 : w.cell? t = some old) (hf0 : w.frozen? t = false) :
    Calls Tryz.prog 63 #[.iface 86 (.int .i64 n), .iface 112 (.pointer (some t))] w fun ev w' => ev = .returned (.bool true) ∧ w' = ((((w.alloc (.cells #[.pointer (some t)] 112)).alloc (.cells #[.pointer (some ⟨2, 112, none⟩), .pointer (some ⟨w.heap.size, 0, none⟩), .int .u64 150] 160)).alloc (.cells #[.pointer (some ⟨2, 112, none⟩), .pointer (some ⟨w.heap.size, 0, none⟩), .int .u64 150] 160)).alloc (.cells #[.int .i64 n] 86)).setCell t (.int .i64 n) := by
  have h1 := @run_callFunc_extern Tryz.prog 106 _ (fun args => ReflectliteValue.unpack (args.getD 0 (.tuple #[]))) Tryz.func106 (by kernel_rfl) (by kernel_rfl) (by kernel_rfl) (by kernel_rfl)
  have h2 := @run_callFunc_extern Tryz.prog 107 _ (ReflectliteValue.methodAny (ReflectliteValue.valueError "reflectlite.Value.Type" 0) (fun t _ _ _ => ReflectliteType.toType t)) Tryz.func107 (by kernel_rfl) (by kernel_rfl) (by kernel_rfl) (by kernel_rfl)
  have h3 := @run_callFunc_extern Tryz.prog 108 _ (ReflectliteValue.method (ReflectliteValue.valueError "reflectlite.Value.IsNil" 0) ReflectliteValue.isNil) Tryz.func108 (by kernel_rfl) (by kernel_rfl) (by kernel_rfl) (by kernel_rfl)
  have h4 := @run_callFunc_extern Tryz.prog 182 _ (ReflectliteType.abiMethod fun t => do pure (.int .u8 (← Rtype.kind t))) Tryz.func182 (by kernel_rfl) (by kernel_rfl) (by kernel_rfl) (by kernel_rfl)
  have h5 := @run_callFunc_extern Tryz.prog 192 _ (ReflectliteType.method ReflectliteType.elem) Tryz.func192 (by kernel_rfl) (by kernel_rfl) (by kernel_rfl) (by kernel_rfl)
  have h6 := @run_callFunc_extern Tryz.prog 193 _ (ReflectliteType.relation "Implements" ReflectliteType.implements_) Tryz.func193 (by kernel_rfl) (by kernel_rfl) (by kernel_rfl) (by kernel_rfl)
  have h7 := @run_callFunc_extern Tryz.prog 133 _ ReflectliteType.typeOf Tryz.func133 (by kernel_rfl) (by kernel_rfl) (by kernel_rfl) (by kernel_rfl)
  have h8 := @run_callFunc_extern Tryz.prog 190 _ (ReflectliteType.relation "AssignableTo" ReflectliteType.assignableTo) Tryz.func190 (by kernel_rfl) (by kernel_rfl) (by kernel_rfl) (by kernel_rfl)
  have h9 := @run_callFunc_extern Tryz.prog 134 _ (ReflectliteValue.method (ReflectliteValue.valueError "reflectlite.Value.Elem" 0) ReflectliteValue.elem) Tryz.func134 (by kernel_rfl) (by kernel_rfl) (by kernel_rfl) (by kernel_rfl)
  have h10 := @run_callFunc_extern Tryz.prog 135 _ ReflectliteValue.set Tryz.func135 (by kernel_rfl) (by kernel_rfl) (by kernel_rfl) (by kernel_rfl)
  have g1 := valueOfP
  have g2 := typeP
  have g3 := kindP
  have g4 := kindE
  have g5 := elemTP
  have g6 := implementsE
  have g7 := typeOfE
  have g8 := assignableE
  have g9 := valueOfE
  have m1 := methodKind
  have m2 := methodElem
  have m3 := methodImplements
  have m4 := methodAssignableTo
  have n8 := isNilP ⟨w.heap.size, 0, none⟩ t ((w.alloc (.cells #[.pointer (some t)] 112)).alloc (.cells #[.pointer (some ⟨2, 112, none⟩), .pointer (some ⟨w.heap.size, 0, none⟩), .int .u64 150] 160)) (by simp)
  have hlt : 0 < w.heap.size := by
    rcases Nat.eq_zero_or_pos w.heap.size with h0 | h
    · simp [World.cell?, h0] at hg
    · exact h
  have hg2 : ((w.alloc (.cells #[.pointer (some t)] 112)).alloc (.cells #[.pointer (some ⟨2, 112, none⟩), .pointer (some ⟨w.heap.size, 0, none⟩), .int .u64 150] 160)).cell? ⟨0, 0, none⟩ = some (.iface 187 (.agg #[.pointer (some ⟨2, 42, none⟩)])) := by
    rw [World.cell?_alloc_lt _ _ ⟨0, 0, none⟩ (by simp), World.cell?_alloc_lt _ _ ⟨0, 0, none⟩ hlt]; exact hg
  have htl : t.block < w.heap.size := by
    rcases Nat.lt_or_ge t.block w.heap.size with h | h
    · exact h
    · simp [World.cell?, Array.getElem?_eq_none h] at ht0
  have el := elemVP ⟨w.heap.size, 0, none⟩ t (((w.alloc (.cells #[.pointer (some t)] 112)).alloc (.cells #[.pointer (some ⟨2, 112, none⟩), .pointer (some ⟨w.heap.size, 0, none⟩), .int .u64 150] 160)).alloc (.cells #[.pointer (some ⟨2, 112, none⟩), .pointer (some ⟨w.heap.size, 0, none⟩), .int .u64 150] 160)) (by rw [World.cell?_alloc_lt _ _ ⟨w.heap.size, 0, none⟩ (by simp; omega)]; simp)
  have st := setE t ⟨w.heap.size + 1 + 1 + 1, 0, none⟩ n old ((((w.alloc (.cells #[.pointer (some t)] 112)).alloc (.cells #[.pointer (some ⟨2, 112, none⟩), .pointer (some ⟨w.heap.size, 0, none⟩), .int .u64 150] 160)).alloc (.cells #[.pointer (some ⟨2, 112, none⟩), .pointer (some ⟨w.heap.size, 0, none⟩), .int .u64 150] 160)).alloc (.cells #[.int .i64 n] 86))
    (by rw [World.cell?_alloc_at _ _ _ _ (by simp)]; rfl)
    (by rw [World.cell?_alloc_lt _ _ t (by simp; omega), World.cell?_alloc_lt _ _ t (by simp; omega), World.cell?_alloc_lt _ _ t (by simp; omega), World.cell?_alloc_lt _ _ t htl]; exact ht0)
    (by rw [World.frozen?_alloc_old _ _ t (by simp; omega), World.frozen?_alloc_old _ _ t (by simp; omega), World.frozen?_alloc_old _ _ t (by simp; omega), World.frozen?_alloc_old _ _ t (Nat.ne_of_lt htl)]; exact hf0)
  go_enter Tryz.func63, Tryz.ntmps63
  go_wp2
  refine wp_loop_rounds 1 ?_
  rw [rounds_succ]
  go_wp2
  go_ret
  exact ⟨rfl, rfl⟩

/-- the error type's variable, as the program lays it -/
def errVar (w : World) : Prop := w.cell? ⟨0, 0, none⟩ = some (.iface 187 (.agg #[.pointer (some ⟨2, 42, none⟩)]))

theorem errVar.below {w w' : World} (h : errVar w) (hb : Below w.heap.size w w') : errVar w' := by
  unfold errVar at *
  have hlt : 0 < w.heap.size := by
    rcases Nat.eq_zero_or_pos w.heap.size with h0 | h'
    · simp [World.cell?, h0] at h
    · exact h'
  rw [hb.cell (p := ⟨0, 0, none⟩) hlt]; exact h

theorem Told_nil (w : World) : Calls Tryz.prog 36 #[.nilIface] w fun e w' => e = .returned (.int .i64 0) ∧ Below w.heap.size w w' := by
  go_enter Tryz.func36, Tryz.ntmps36
  go_wp2
  go_ret
  exact ⟨rfl, Below.refl _ _⟩

set_option maxHeartbeats 1000000 in
theorem Told_hit (n : Int) (w : World) (hg : errVar w) : Calls Tryz.prog 36 #[.iface 86 (.int .i64 n)] w fun e w' => e = .returned (.int .i64 n) ∧ Below w.heap.size w w' := by
  have hgA := hg.below (balloc w (.cells #[.int .i64 0] 86))
  unfold errVar at hgA
  have htA : (w.alloc (.cells #[.int .i64 0] 86)).cell? ⟨w.heap.size, 0, none⟩ = some (.int .i64 0) := by simp
  have hfA : (w.alloc (.cells #[.int .i64 0] 86)).frozen? ⟨w.heap.size, 0, none⟩ = false := by simp
  go_enter Tryz.func36, Tryz.ntmps36
  go_wp2_with fail
  refine (as_hit n _ (.int .i64 0) _ hgA htA hfA).mono ?_
  rintro e w' ⟨rfl, rfl⟩
  go_wp2_with fail
  go_ret
  exact ⟨rfl, bstep (bstep (bstep (bstep (balloc _ _) (balloc _ _)) (balloc _ _)) (balloc _ _)) (balloc _ _)⟩

/-- stratasame.Error: is it the error of that number? -/
theorem SameError_any (m e : Int) (w : World) (hg : errVar w) : Calls Tryz.prog 10 #[errV m, .int .i64 e] w fun r w' => r = .returned (.bool (m == e)) ∧ Below w.heap.size w w' := by
  by_cases h : m = 0
  · subst h
    rw [show errV 0 = .nilIface from rfl]
    go_enter Tryz.func10, Tryz.ntmps10
    go_wp2_with (go_at_call 36; refine (Told_nil _).mono ?_; rintro e w1 ⟨rfl, hb⟩)
    go_ret
    exact ⟨rfl, hb⟩
  · rw [show errV m = .iface 86 (.int .i64 m) from if_neg h]
    go_enter Tryz.func10, Tryz.ntmps10
    go_wp2_with (go_at_call 36; refine (Told_hit m _ hg).mono ?_; rintro e w1 ⟨rfl, hb⟩)
    go_ret
    exact ⟨rfl, hb⟩
end Go.Proofs.YtcdbcoaiadipjaaGreatDoor

/- stratasame.Terms and stratasame.Answers of what is the same. -/
namespace Go.Proofs.YtcdbcoaiadipjaaGreatDoor
open Go Go.RowKit Go.Proofs Go.Maps
set_option synthInstance.maxSize 1000

theorem neqTmV (x : Tm) (w : World) : (binOp .neq 28 (.agg #[.int .i64 x.1, .string ⟨x.2.1.toArray⟩, .string ⟨x.2.2.toArray⟩]) (.agg #[.int .i64 x.1, .string ⟨x.2.1.toArray⟩, .string ⟨x.2.2.toArray⟩])).run Tryz.prog w = .ok (.bool false) w := by
  have h := equalTerm x.1 x.2.1 x.2.2 x.1 x.2.1 x.2.2 w
  rw [show eqTB x.1 x.2.1 x.2.2 x.1 x.2.1 x.2.2 = true by simp [eqTB]] at h
  rw [run_neq_struct, h]; rfl
attribute [local go_sem ↓] neqTmV

set_option maxHeartbeats 2000000 in
set_option maxRecDepth 100000 in
theorem SameTermsQ_true (ad bd : Option Addr) (ca cb : Nat) (l : List Tm) (w : World) (hl : SlQ w ad l) (hm : SlQ w bd l) (h200 : l.length ≤ 9223372036854775807) :
    Calls Tryz.prog 37 #[.slice ad l.length ca, .slice bd l.length cb] w fun e w' => e = .returned (.bool true) ∧ RowKit.Below w.heap.size w w' := by
  have Hl := hideQ hl
  have Hm := hideQ hm
  clear hl hm
  have hd : ((l.length : Int) != (l.length : Int)) = false := by simp
  go_enter Tryz.func37, Tryz.ntmps37
  go_wp2_with fail
  go_loopw [5] (fun i wr => ∃ (k q : Nat), k ≤ l.length ∧ i = .int .i64 k ∧ wr = w.drewN q) (fun i wr => l.length - (intOf i).toNat)
  case atStart => exact ⟨0, 0, by omega, rfl, rfl⟩
  case round =>
    obtain ⟨k, q, hk, rfl, rfl⟩ := hrel
    by_cases hlt : k < l.length
    · obtain ⟨b, o, rfl, e0, e1, e2⟩ := Hl.out.at k hlt
      obtain ⟨b', o', rfl, f0, f1, f2⟩ := Hm.out.at k hlt
      have i0 : (0 : Int) ≤ (k : Int) := by omega
      have i1 : (k : Int) < (l.length : Int) := by omega
      go_wp2_with fail
      go_region
      go_wp2
      exact ⟨⟨k + 1, q + 1, by omega, by go_num, rfl⟩, by simp [intOf]; omega⟩
    · go_wp2
      go_ret
      exact ⟨rfl, ⟨rfl, rfl, rfl, Nat.le_refl _, fun _ _ => rfl⟩⟩
set_option maxHeartbeats 2000000 in
set_option maxRecDepth 100000 in
theorem SameAnswers_true (ad bd : Option Addr) (ca cb : Nat) (L : List (List Tm)) (w : World) (hl : SlR w ad L) (hm : SlR w bd L) (h200 : L.length ≤ 9223372036854775807) (hr : ∀ r ∈ L, r.length ≤ 9223372036854775807) :
    Calls Tryz.prog 11 #[.slice ad L.length ca, .slice bd L.length cb] w fun e w' => e = .returned (.bool true) ∧ RowKit.Below w.heap.size w w' := by
  have Hl := hideQ hl
  have Hm := hideQ hm
  have Hr := hideQ hr
  clear hl hm hr
  have hd : ((L.length : Int) != (L.length : Int)) = false := by simp
  go_enter Tryz.func11, Tryz.ntmps11
  go_wp2_with fail
  go_loopw [5, 6] (fun i _ wr => ∃ (k : Nat), k ≤ L.length ∧ i = .int .i64 k ∧ RowKit.Below w.heap.size w wr) (fun i _ wr => L.length - (intOf i).toNat)
  case atStart => exact ⟨0, by omega, rfl, RowKit.Below.refl _ _⟩
  case round =>
    obtain ⟨k, hk, rfl, hbr⟩ := hrel
    by_cases hlt : k < L.length
    · obtain ⟨b, o, rd, rc, rfl, c, s⟩ := (Hl.out.below hbr).at k hlt
      obtain ⟨b', o', rd', rc', rfl, c', s'⟩ := (Hm.out.below hbr).at k hlt
      have i0 : (0 : Int) ≤ (k : Int) := by omega
      have i1 : (k : Int) < (L.length : Int) := by omega
      have HT : ∀ n : Lat wr, Calls Tryz.prog 37 #[.slice rd L[k].length rc, .slice rd' L[k].length rc'] n.val fun e w' => e = .returned (.bool true) ∧ RowKit.Below n.val.heap.size n.val w' := fun n => SameTermsQ_true rd rd' rc rc' L[k] n.val (s.below n.low) (s'.below n.low) (Hr.out _ (List.getElem_mem hlt))
      have hne := lat_some wr
      have q0 := lat_cell c
      have q1 := lat_cell c'
      clear s s' c c'
      generalize L[k].length = m at *
      go_wp2_with fail
      refine lat_region (by kernel_rfl) (by kernel_rfl) ?_
      repeat (go_big_quiet_step (fail))
      go_big_quiet_step (exact lat_call (HT _))
      repeat (go_big_quiet_step (fail))
      refine wpQuiet_nil ?_
      intro w3 hw'
      obtain ⟨nW, rfl⟩ := hw'
      have hb3 := nW.low
      generalize nW.val = w3 at *
      clear q0 q1 hne HT
      go_wp2_with fail
      go_roundw
      case rel => exact ⟨k + 1, by omega, by go_num, bstep hbr hb3⟩
      case measure => simp [intOf]; omega
    · go_wp2
      go_ret
      exact ⟨rfl, hbr⟩
end Go.Proofs.YtcdbcoaiadipjaaGreatDoor
