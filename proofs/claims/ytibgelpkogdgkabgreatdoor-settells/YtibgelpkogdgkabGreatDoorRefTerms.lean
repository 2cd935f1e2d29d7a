/- The document's answer (package strataref1): Terms. -/
import Derived.Test.YtibgelpkogdgkabGreatDoorRefTools
import Derived.Test.YtibgelpkogdgkabGreatDoorSetTerms
import Derived.Deep.RegionHeld3
namespace Go.Proofs.YtibgelpkogdgkabGreatDoor
open Go Go.RowKit Go.Proofs
set_option synthInstance.maxSize 1000

theorem slM_one (W : World) (z : Tm) : SlM (W.alloc (.cells #[.int .i64 z.1, .string ⟨z.2.1.toArray⟩, .string ⟨z.2.2.toArray⟩] 24)) (some ⟨W.heap.size, 0, none⟩) [z] := fun _ => ⟨W.heap.size, 0, rfl, fun j v hv => by
  have := cell_three_new W (.int .i64 z.1) (.string ⟨z.2.1.toArray⟩) (.string ⟨z.2.2.toArray⟩) 24 j v (by simpa [cellsM, encTm] using hv)
  rwa [Addr.add_lit] at this⟩

theorem rowM_three (W : World) (y : Tr) : RowM (W.alloc (.cells (encTr y).toArray 24)) W.heap.size 0 (three y) := fun j v hv => by
  have h : (W.alloc (.cells (encTr y).toArray 24)).heap[W.heap.size]? = some (.cells (encTr y).toArray 24 (0, 0)) := World.alloc_heap_new W _
  have hv' : (encTr y)[j]? = some v := hv
  generalize W.alloc (.cells (encTr y).toArray 24) = W' at h ⊢
  generalize W.heap.size = B at h ⊢
  simpa [World.cell?, h] using hv'

set_option maxHeartbeats 16000000 in
set_option maxRecDepth 100000 in
theorem RTerms_any (ad : Option Addr) (cap : Nat) (l : List Tr) (w : World) (h : SlT w ad l) (hn : l.length ≤ 200) :
    Calls Tryz.prog 14 #[.slice ad l.length cap] w fun e w' => ∃ (m : List Tm) (ad' : Option Addr) (c : Nat), e = .returned (.slice ad' m.length c) ∧ SlM w' ad' m ∧ RisingM m ∧ (∀ x, x ∈ m ↔ x ∈ termsOf l) ∧ m.length ≤ 3 * l.length ∧ RowKit.Below w.heap.size w w' := by
  have Hl : Hid (SlT w ad l) := h
  clear h
  go_enter Tryz.func14, Tryz.ntmps14
  go_wp2_with fail
  go_loopw [3, 4] (fun v i wr => ∃ (k : Nat) (t : List Tm), k ≤ l.length ∧ i = .int .i64 k ∧ Hid (RisingM t ∧ ∀ x, x ∈ t ↔ x ∈ termsOf (l.take k)) ∧ t.length ≤ 3 * k ∧ Hid (wr.ownsRow w.heap.size 24 3 v t.length (cellsM t)) ∧ RowKit.Below w.heap.size w wr) (fun _ i wr => l.length - (intOf i).toNat)
  case atStart => exact ⟨0, [], Nat.zero_le _, rfl, ⟨List.Pairwise.nil, by simp [termsOf]⟩, Nat.zero_le _, World.ownsRow_nil _ _ _ _, RowKit.Below.refl _ _⟩
  case round =>
    obtain ⟨i, t0, hi', rfl, ht0, htl0, hown0, hbr⟩ := hrel
    obtain ⟨W1, hW1⟩ : ∃ W1, W1 = wr := ⟨_, rfl⟩
    subst hW1
    by_cases hi : i < l.length
    · obtain ⟨b, o, rfl, hr⟩ := (Hl.out.below hbr).at i hi
      obtain ⟨c0, c1, c2, c3, c4, c5, c6, c7, c8⟩ := hr.at i hi
      have i0 : (0 : Int) ≤ (i : Int) := by omega
      have i1 : (i : Int) < (l.length : Int) := by omega
      have htk : Hid (termsOf (l.take (i + 1)) = termsOf (l.take i) ++ three l[i]) := termsOf_take l i hi
      clear hr
      generalize l[i] = y at *
      obtain ⟨W2, hW2⟩ : ∃ W2, W2 = W1.drew.alloc (.cells (encTr y).toArray 24) := ⟨_, rfl⟩
      have HW2 : Hid (W2 = W1.drew.alloc (.cells (encTr y).toArray 24)) := hW2
      have H3 : Hid (RowM W2 W1.heap.size 0 (three y)) := by rw [hW2]; exact rowM_three W1.drew y
      have hb12 : Hid (RowKit.Below W1.heap.size W1 W2) := by rw [hW2]; exact (RowKit.Below.refl _ _).drew.alloc (Nat.le_refl _) _
      have hzw : Hid (w.heap.size ≤ W2.heap.size) := Nat.le_trans hbr.size hb12.out.size
      clear hW2
      go_wp2_with fail
      go_region
      clear c0 c1 c2 c3 c4 c5 c6 c7 c8
      go_wp2_with fail
      go_loopw [3, 6] (fun v jv wi => ∃ (j : Nat) (t : List Tm), j ≤ 3 ∧ jv = .int .i64 j ∧ Hid (RisingM t ∧ ∀ x, x ∈ t ↔ x ∈ termsOf (l.take i) ++ (three y).take j) ∧ t.length ≤ 3 * i + j ∧ Hid (wi.ownsRow w.heap.size 24 3 v t.length (cellsM t)) ∧ RowKit.Below W2.heap.size W2 wi) (fun _ jv wi => 3 - (intOf jv).toNat)
      case atStart => exact ⟨0, t0, by omega, rfl, ⟨ht0.out.1, by simpa using ht0.out.2⟩, by omega, ownsRow_belowS hown0.out (by have := hb12.out; rw [HW2.out] at this; exact this), by rw [HW2.out]; exact RowKit.Below.refl _ _⟩
      case round =>
        obtain ⟨j, t, hj, rfl, ht, htl, hown, hbi⟩ := hrel
        obtain ⟨Wi, hWi⟩ : ∃ Wi, Wi = wr := ⟨_, rfl⟩
        subst hWi
        by_cases hj3 : j < 3
        · have hj3' : j < (three y).length := hj3
          have hmem : Hid (∀ x, x ∈ termsOf (l.take i) ++ (three y).take (j + 1) ↔ x ∈ t ∨ x = (three y)[j]) := fun x => by
            rw [List.take_succ_eq_append_getElem hj3', ← List.append_assoc, List.mem_append, ← ht.out.2 x, List.mem_singleton]
          have Hri : Hid (RisingM t) := ht.out.1
          have Hr3 : Hid (RowM Wi W1.heap.size 0 (three y)) := H3.out.below hbi
          have j0' : (0 : Int) ≤ (j : Int) := by omega
          have j1' : (j : Int) < 3 := by omega
          obtain ⟨z, hz⟩ : ∃ z, z = (three y)[j] := ⟨_, rfl⟩
          have Hz : Hid (z = (three y)[j]) := hz
          rw [← hz] at hmem
          clear hz ht
          rcases hown.out.2 with ⟨rfl, h0⟩ | ⟨g, ct, cur, rfl, hg0, hgb, hct, hctm, hcs, htk2⟩
          · -- nothing as yet
            obtain rfl : t = [] := List.eq_nil_of_length_eq_zero h0
            go_wp2_with fail
            go_loopw [7] (fun kv w2 => kv = .int .i64 0 ∧ RowKit.Below Wi.heap.size Wi w2) (fun _ _ => 0)
            case atStart => exact ⟨rfl, RowKit.Below.refl _ _⟩
            case round =>
              obtain ⟨rfl, hb2⟩ := hrel
              go_wp2_with fail
              go_region
              go_wp2_with fail
              go_region
              have hBz := hb2.drew.drew
              generalize wr.drew.drew = wz at *
              have Hrz : Hid (RowM wz W1.heap.size 0 (three y)) := Hr3.out.below hBz
              have Hnil : Hid (wz.ownsRow wz.heap.size 24 3 (.slice none 0 0) ([] : List Tm).length (cellsM [])) := World.ownsRow_nil _ _ _ _
              have hfin : Hid (RisingM [z] ∧ ∀ x, x ∈ [z] ↔ x ∈ termsOf (l.take i) ++ (three y).take (j + 1)) := ⟨List.pairwise_singleton _ _, fun x => by rw [hmem.out x]; simp⟩
              clear hown
              obtain ⟨d0, d1, d2⟩ := Hrz.out.at j hj3'
              rw [← Hz.out] at d0 d1 d2
              simp only [Nat.zero_add] at d0 d1 d2
              go_wp2_with (first
                | (at_builtin; refine wpList_append_listM _ rfl _ _ rfl wz.heap.size _ [] [z] (some ⟨wz.heap.size, 0, none⟩) 1 rfl rfl (Hnil.out.alloc _) (slM_one _ _) (by simp) (by simp) ?_; clear Hnil; intro v2 w6 hown2 hb6
                   have Hown2 : Hid (w6.ownsRow wz.heap.size 24 3 v2 [z].length (cellsM [z])) := hown2
                   clear hown2
                   have hb6' : RowKit.Below wz.heap.size wz w6 := (balloc _ _).trans hb6
                   have hz6 := hb6'.size)
                | (at_builtin; refine wpList_append_listM _ rfl _ _ rfl wz.heap.size _ [z] [] none 0 rfl rfl Hown2.out (fun h => absurd rfl h) (by simp) hz6 ?_; clear Hown2; intro v3 w7 hown3 hb7
                   have Hown3 : Hid (w7.ownsRow wz.heap.size 24 3 v3 [z].length (cellsM [z])) := hown3
                   clear hown3
                   have hb7' : RowKit.Below wz.heap.size wz w7 := hb6'.trans hb7))
              go_roundw
              case rel =>
                have hBi := bstep hbi hBz
                exact ⟨j + 1, [z], by omega, by go_num, hfin.out, by simp; omega, ownsRow_baseM Hown3.out (Nat.le_trans hzw.out hBi.size), bstep hBi hb7'⟩
              case measure => simp [intOf]; omega
          · have Hrg : Hid (RowM Wi g 0 t) := fun q u hq => by
              have := hown.out.cells (g := g) rfl q u hq
              rwa [Addr.add_lit] at this
            have Hcap : Hid (t.length ≤ ct) := hct
            clear hgb hcs htk2 hg0
            go_wp2_with fail
            go_loopw [7] (fun kv w2 => ∃ k : Nat, k ≤ t.length ∧ kv = .int .i64 k ∧ Hid (∀ m (hm : m < t.length), k ≤ m → 0 < cmpTm t[m] z) ∧ RowKit.Below Wi.heap.size Wi w2) (fun kv w2 => (intOf kv).toNat)
            case atStart => exact ⟨t.length, Nat.le_refl _, rfl, fun m hm h => by omega, RowKit.Below.refl _ _⟩
            case round =>
              obtain ⟨k, hk, rfl, hhi, hb2⟩ := hrel
              rcases Nat.eq_zero_or_pos k with rfl | hpos
              · go_wp2_with fail
                go_region
                go_wp2_with fail
                go_region
                have hBz := hb2.drew.drew
                generalize wr.drew.drew = wz at *
                have Hrz : Hid (RowM wz W1.heap.size 0 (three y)) := Hr3.out.below hBz
                have Hgz : Hid (SlM wz (some ⟨g, 0, none⟩) t) := fun _ => ⟨g, 0, rfl, Hrg.out.below hBz⟩
                have Hnil : Hid (wz.ownsRow wz.heap.size 24 3 (.slice none 0 0) ([] : List Tm).length (cellsM [])) := World.ownsRow_nil _ _ _ _
                have hfin : Hid (RisingM ([z] ++ t) ∧ ∀ x, x ∈ [z] ++ t ↔ x ∈ termsOf (l.take i) ++ (three y).take (j + 1)) := by
                  have h1 := insM_rising t 0 z Hri.out (fun m hm h => by omega) hhi.out
                  have h2 := insM_mem t 0 z
                  simp only [List.take_zero, List.drop_zero, List.nil_append] at h1 h2
                  exact ⟨h1, fun x => (h2 x).trans (hmem.out x).symm⟩
                have hcap' : (t.length : Int) ≤ (ct : Int) := by have := Hcap.out; omega
                have hcap0 : (0 : Int) ≤ (ct : Int) := by omega
                have htl0' : (0 : Int) ≤ (t.length : Int) := by omega
                clear hown
                obtain ⟨d0, d1, d2⟩ := Hrz.out.at j hj3'
                rw [← Hz.out] at d0 d1 d2
                simp only [Nat.zero_add] at d0 d1 d2
                go_wp2_with (first
                  | (at_builtin; refine wpList_append_listM _ rfl _ _ rfl wz.heap.size _ [] [z] (some ⟨wz.heap.size, 0, none⟩) 1 rfl rfl (Hnil.out.alloc _) (slM_one _ _) (by simp) (by simp) ?_; clear Hnil; intro v2 w6 hown2 hb6
                     have Hown2 : Hid (w6.ownsRow wz.heap.size 24 3 v2 [z].length (cellsM [z])) := hown2
                     clear hown2
                     have hb6' : RowKit.Below wz.heap.size wz w6 := (balloc _ _).trans hb6
                     have hz6 := hb6'.size)
                  | (at_builtin; refine wpList_append_listM _ rfl _ _ rfl wz.heap.size _ [z] t (some ⟨g, 0, none⟩) ct rfl rfl Hown2.out (Hgz.out.below hb6') (by simp; omega) hz6 ?_; clear Hown2; intro v3 w7 hown3 hb7
                     have Hown3 : Hid (w7.ownsRow wz.heap.size 24 3 v3 ([z] ++ t).length (cellsM ([z] ++ t))) := hown3
                     clear hown3
                     have hb7' : RowKit.Below wz.heap.size wz w7 := hb6'.trans hb7))
                go_roundw
                case rel =>
                  have hBi := bstep hbi hBz
                  exact ⟨j + 1, [z] ++ t, by omega, by go_num, hfin.out, by simp; omega, ownsRow_baseM Hown3.out (Nat.le_trans hzw.out hBi.size), bstep hBi hb7'⟩
                case measure => simp [intOf]; omega
              · obtain ⟨p, hkp⟩ : ∃ p, k = p + 1 := ⟨k - 1, by omega⟩
                have hpt : p < t.length := by omega
                obtain ⟨c0, c1, c2⟩ := (Hrg.out.below hb2).at p hpt
                obtain ⟨d0, d1, d2⟩ := (Hr3.out.below hb2).at j hj3'
                rw [← Hz.out] at d0 d1 d2
                simp only [Nat.zero_add] at c0 c1 c2 d0 d1 d2
                have HC := fun W => RCompare_any t[p].1 t[p].2.1 t[p].2.2 z.1 z.2.1 z.2.2 W
                have fhi : Hid (0 < cmpTm t[p] z → ∀ m (hm : m < t.length), p ≤ m → 0 < cmpTm t[m] z) := fun h m hm hle => by
                  rcases Nat.lt_or_eq_of_le hle with h1 | h1
                  · exact hhi.out m hm (by omega)
                  · subst h1; exact h
                have flo : Hid (cmpTm t[p] z < 0 → ∀ m (hm : m < t.length), m < k → cmpTm t[m] z < 0) := fun h m hm hlt => rise_loM Hri.out p hpt z h m hm (by omega)
                have feq : Hid (cmpTm t[p] z = 0 → z ∈ t) := fun h => by rw [← (cmpTm_zero _ _).1 h]; exact List.getElem_mem hpt
                have hwr : IntKind.i64.wrap ((k : Int) - 1) = (p : Int) := by rw [show (k : Int) - 1 = (p : Int) by omega]; exact wrapS p (by omega)
                have j0 : (0 : Int) ≤ (p : Int) := by omega
                have j1 : (p : Int) < (t.length : Int) := by omega
                have hd0 : decide (0 < k) = true := by simp; omega
                have hd1 : decide ((k : Int) > 0) = true := by simp; omega
                have Hkp : Hid (k = p + 1) := hkp
                clear hkp hpos
                rw [show cmpT t[p].1 t[p].2.1 t[p].2.2 z.1 z.2.1 z.2.2 = cmpTm t[p] z from rfl] at HC
                generalize cmpTm t[p] z = c at HC fhi flo feq
                have Hd : Hid (∀ W', RowKit.Below Wi.heap.size Wi W' → RowM W' g 0 t ∧ RowM W' W1.heap.size 0 (three y)) := fun W' h' => ⟨Hrg.out.below h', Hr3.out.below h'⟩
                obtain ⟨x, hx⟩ : ∃ x, x = t[p] := ⟨_, rfl⟩
                have Hx : Hid (x = t[p]) := hx
                rw [← hx] at c0 c1 c2 HC
                clear hx
                cases hcc : decide (c > 0)
                · go_wp2_with fail
                  go_region_held3 (fun W => W.cell? ⟨g, p * 3, none⟩ = some (.int .i64 x.1) ∧ W.cell? ⟨g, p * 3 + 1, none⟩ = some (.string ⟨x.2.1.toArray⟩) ∧ W.cell? ⟨g, p * 3 + 2, none⟩ = some (.string ⟨x.2.2.toArray⟩) ∧ W.cell? ⟨W1.heap.size, j * 3, none⟩ = some (.int .i64 z.1) ∧ W.cell? ⟨W1.heap.size, j * 3 + 1, none⟩ = some (.string ⟨z.2.1.toArray⟩) ∧ W.cell? ⟨W1.heap.size, j * 3 + 2, none⟩ = some (.string ⟨z.2.2.toArray⟩)) (first | exact keep6 (by assumption) hb3 | go_keep) (first
              | (go_at_call 32; refine (HC _).mono ?_; rintro e w3 ⟨rfl, hb3⟩))
                  have hB3 := bstep hb2.drew hb3
                  obtain ⟨hrg, hrl⟩ := Hd.out _ hB3
                  clear c0 c1 c2 d0 d1 d2
                  obtain ⟨c0, c1, c2⟩ := hrg.at p hpt
                  obtain ⟨d0, d1, d2⟩ := hrl.at j hj3'
                  rw [← Hx.out] at c0 c1 c2
                  rw [← Hz.out] at d0 d1 d2
                  simp only [Nat.zero_add] at c0 c1 c2 d0 d1 d2
                  clear hrg hrl
                  have hle : Hid (c ≤ 0) := by simp at hcc; exact hcc
                  cases h0 : (c == 0)
                  · go_wp2_with fail
                    go_region_held3 (fun W => W.cell? ⟨g, p * 3, none⟩ = some (.int .i64 x.1) ∧ W.cell? ⟨g, p * 3 + 1, none⟩ = some (.string ⟨x.2.1.toArray⟩) ∧ W.cell? ⟨g, p * 3 + 2, none⟩ = some (.string ⟨x.2.2.toArray⟩) ∧ W.cell? ⟨W1.heap.size, j * 3, none⟩ = some (.int .i64 z.1) ∧ W.cell? ⟨W1.heap.size, j * 3 + 1, none⟩ = some (.string ⟨z.2.1.toArray⟩) ∧ W.cell? ⟨W1.heap.size, j * 3 + 2, none⟩ = some (.string ⟨z.2.2.toArray⟩)) (first | exact keep6 (by assumption) hb4 | go_keep) (first
              | (go_at_call 32; refine (HC _).mono ?_; rintro e w4 ⟨rfl, hb4⟩))
                    have hBz := bstep hB3.drew hb4
                    have hlt : Hid (c < 0) := by
                      have h1 := hle.out
                      have h2 : ¬ c = 0 := by simpa using h0
                      show c < 0
                      omega
                    clear c0 c1 c2 d0 d1 d2 hb4 hB3 HC
                    generalize w4 = wz at *
                    have Hrz : Hid (RowM wz W1.heap.size 0 (three y)) := Hr3.out.below hBz
                    have hrows := Hrg.out.below hBz
                    rw [← List.take_append_drop k t] at hrows
                    have hlk : (t.take k).length = k := by simp; omega
                    have hld : (t.drop k).length = t.length - k := by simp
                    have hparts := hrows.part
                    rw [hlk] at hparts
                    have Hhd : Hid (SlM wz (some ⟨g, 0, none⟩) (t.take k)) := fun _ => ⟨g, 0, rfl, hparts.1⟩
                    have Htl : Hid (SlM wz (some ⟨g, k * 3, none⟩) (t.drop k)) := fun _ => ⟨g, k * 3, rfl, by have := hparts.2; rwa [Nat.zero_add] at this⟩
                    clear hrows hparts hown
                    have Hnil : Hid (wz.ownsRow wz.heap.size 24 3 (.slice none 0 0) ([] : List Tm).length (cellsM [])) := World.ownsRow_nil _ _ _ _
                    have hfin : Hid (RisingM (t.take k ++ [z] ++ t.drop k) ∧ ∀ x, x ∈ t.take k ++ [z] ++ t.drop k ↔ x ∈ termsOf (l.take i) ++ (three y).take (j + 1)) := by
                      have h1 := insM_rising t k z Hri.out (flo.out hlt.out) hhi.out
                      have h2 := insM_mem t k z
                      rw [show t.take k ++ [z] ++ t.drop k = t.take k ++ z :: t.drop k by simp]
                      exact ⟨h1, fun x => (h2 x).trans (hmem.out x).symm⟩
                    have hlenf : Hid ((t.take k ++ [z] ++ t.drop k).length = t.length + 1) := by show _ = _; simp; omega
                    have hcap' : (k : Int) ≤ (ct : Int) := by have := Hcap.out; omega
                    have hcap0 : (0 : Int) ≤ (k : Int) := by omega
                    have htl0' : (k : Int) ≤ (t.length : Int) := by omega
                    by_cases hck : ct = k
                    · have hdn : Hid (t.drop k = []) := by show _ = _; have := Hcap.out; rw [List.drop_eq_nil_iff]; omega
                      have hld0 : t.length - k = 0 := by have := Hcap.out; omega
                      rw [hld0] at hld
                      have hck' := hck.symm
                      clear hck
                      subst hck'
                      go_wp2_with (first
                        | (at_builtin; refine wpList_append_listM _ rfl _ _ rfl wz.heap.size _ [] (t.take k) (some ⟨g, 0, none⟩) _ rfl (congrArg (fun n => Value.slice (some ⟨g, 0, none⟩) n _) hlk.symm) Hnil.out Hhd.out (by simp; omega) (Nat.le_refl _) ?_; clear Hnil; intro v1 w5 hown1 hb5
                           have Hown1 : Hid (w5.ownsRow wz.heap.size 24 3 v1 (t.take k).length (cellsM (t.take k))) := hown1
                           clear hown1
                           have hz5 := hb5.size
                           obtain ⟨d0, d1, d2⟩ := (Hrz.out.below hb5).at j hj3'
                           rw [← Hz.out] at d0 d1 d2
                           simp only [Nat.zero_add] at d0 d1 d2)
                        | (at_builtin; refine wpList_append_listM _ rfl _ _ rfl wz.heap.size _ (t.take k) [z] (some ⟨w5.heap.size, 0, none⟩) 1 rfl rfl (Hown1.out.alloc _) (slM_one _ _) (by simp; omega) (by simp; omega) ?_; clear Hown1; intro v2 w6 hown2 hb6
                           have Hown2 : Hid (w6.ownsRow wz.heap.size 24 3 v2 (t.take k ++ [z]).length (cellsM (t.take k ++ [z]))) := hown2
                           clear hown2
                           have hb6' : RowKit.Below wz.heap.size wz w6 := (hb5.alloc hz5 _).trans hb6
                           have hz6 := hb6'.size)
                        | (at_builtin; refine wpList_append_listM _ rfl _ _ rfl wz.heap.size _ (t.take k ++ [z]) (t.drop k) _ _ rfl (congrArg (fun n => Value.slice _ n _) hld.symm) Hown2.out (fun h => absurd hdn.out h) (by simp; omega) hz6 ?_; clear Hown2; intro v3 w7 hown3 hb7
                           have Hown3 : Hid (w7.ownsRow wz.heap.size 24 3 v3 (t.take k ++ [z] ++ t.drop k).length (cellsM (t.take k ++ [z] ++ t.drop k))) := hown3
                           clear hown3
                           have hb7' : RowKit.Below wz.heap.size wz w7 := hb6'.trans hb7))
                      go_roundw
                      case rel =>
                        have hBi := bstep hbi hBz
                        exact ⟨j + 1, t.take k ++ [z] ++ t.drop k, by omega, by go_num, hfin.out, by rw [hlenf.out]; omega, ownsRow_baseM Hown3.out (Nat.le_trans hzw.out hBi.size), bstep hBi hb7'⟩
                      case measure => simp [intOf]; omega
                    · skip
                      go_wp2_with (first
                        | (at_builtin; refine wpList_append_listM _ rfl _ _ rfl wz.heap.size _ [] (t.take k) (some ⟨g, 0, none⟩) ct rfl (congrArg (fun n => Value.slice (some ⟨g, 0, none⟩) n ct) hlk.symm) Hnil.out Hhd.out (by simp; omega) (Nat.le_refl _) ?_; clear Hnil; intro v1 w5 hown1 hb5
                           have Hown1 : Hid (w5.ownsRow wz.heap.size 24 3 v1 (t.take k).length (cellsM (t.take k))) := hown1
                           clear hown1
                           have hz5 := hb5.size
                           obtain ⟨d0, d1, d2⟩ := (Hrz.out.below hb5).at j hj3'
                           rw [← Hz.out] at d0 d1 d2
                           simp only [Nat.zero_add] at d0 d1 d2)
                        | (at_builtin; refine wpList_append_listM _ rfl _ _ rfl wz.heap.size _ (t.take k) [z] (some ⟨w5.heap.size, 0, none⟩) 1 rfl rfl (Hown1.out.alloc _) (slM_one _ _) (by simp; omega) (by simp; omega) ?_; clear Hown1; intro v2 w6 hown2 hb6
                           have Hown2 : Hid (w6.ownsRow wz.heap.size 24 3 v2 (t.take k ++ [z]).length (cellsM (t.take k ++ [z]))) := hown2
                           clear hown2
                           have hb6' : RowKit.Below wz.heap.size wz w6 := (hb5.alloc hz5 _).trans hb6
                           have hz6 := hb6'.size)
                        | (at_builtin; refine wpList_append_listM _ rfl _ _ rfl wz.heap.size _ (t.take k ++ [z]) (t.drop k) (some ⟨g, k * 3, none⟩) (ct - k) rfl (congrArg (fun n => Value.slice (some ⟨g, k * 3, none⟩) n (ct - k)) hld.symm) Hown2.out (Htl.out.below hb6') (by simp; omega) hz6 ?_; clear Hown2; intro v3 w7 hown3 hb7
                           have Hown3 : Hid (w7.ownsRow wz.heap.size 24 3 v3 (t.take k ++ [z] ++ t.drop k).length (cellsM (t.take k ++ [z] ++ t.drop k))) := hown3
                           clear hown3
                           have hb7' : RowKit.Below wz.heap.size wz w7 := hb6'.trans hb7))
                      go_roundw
                      case rel =>
                        have hBi := bstep hbi hBz
                        exact ⟨j + 1, t.take k ++ [z] ++ t.drop k, by omega, by go_num, hfin.out, by rw [hlenf.out]; omega, ownsRow_baseM Hown3.out (Nat.le_trans hzw.out hBi.size), bstep hBi hb7'⟩
                      case measure => simp [intOf]; omega
                  · go_wp2_with fail
                    go_region_held3 (fun W => W.cell? ⟨g, p * 3, none⟩ = some (.int .i64 x.1) ∧ W.cell? ⟨g, p * 3 + 1, none⟩ = some (.string ⟨x.2.1.toArray⟩) ∧ W.cell? ⟨g, p * 3 + 2, none⟩ = some (.string ⟨x.2.2.toArray⟩) ∧ W.cell? ⟨W1.heap.size, j * 3, none⟩ = some (.int .i64 z.1) ∧ W.cell? ⟨W1.heap.size, j * 3 + 1, none⟩ = some (.string ⟨z.2.1.toArray⟩) ∧ W.cell? ⟨W1.heap.size, j * 3 + 2, none⟩ = some (.string ⟨z.2.2.toArray⟩)) (first | exact keep6 (by assumption) hb4 | go_keep) (first
              | (go_at_call 32; refine (HC _).mono ?_; rintro e w4 ⟨rfl, hb4⟩))
                    have hBz := bstep hB3.drew hb4
                    go_wp2_with fail
                    have hin := feq.out (by simpa using h0)
                    refine ⟨⟨j + 1, t, by omega, by go_num, ⟨Hri.out, fun x => ?_⟩, by omega, ownsRow_belowS hown.out hBz, bstep hbi hBz⟩, by simp [intOf]; omega⟩
                    rw [hmem.out x]
                    constructor
                    · exact Or.inl
                    · rintro (h | h)
                      · exact h
                      · rw [h]; exact hin
                · go_wp2_with fail
                  go_region_held3 (fun W => W.cell? ⟨g, p * 3, none⟩ = some (.int .i64 x.1) ∧ W.cell? ⟨g, p * 3 + 1, none⟩ = some (.string ⟨x.2.1.toArray⟩) ∧ W.cell? ⟨g, p * 3 + 2, none⟩ = some (.string ⟨x.2.2.toArray⟩) ∧ W.cell? ⟨W1.heap.size, j * 3, none⟩ = some (.int .i64 z.1) ∧ W.cell? ⟨W1.heap.size, j * 3 + 1, none⟩ = some (.string ⟨z.2.1.toArray⟩) ∧ W.cell? ⟨W1.heap.size, j * 3 + 2, none⟩ = some (.string ⟨z.2.2.toArray⟩)) (first | exact keep6 (by assumption) hb3 | go_keep) (first
              | (go_at_call 32; refine (HC _).mono ?_; rintro e w3 ⟨rfl, hb3⟩))
                  have hB3 := bstep hb2.drew hb3
                  go_wp2_with fail
                  exact ⟨⟨p, by omega, by go_num, fhi.out (by simpa using hcc), hB3⟩, by have := Hkp.out; simp [intOf]; omega⟩
        · obtain rfl : j = 3 := by omega
          go_wp2_with fail
          go_roundw
          case rel => exact ⟨i + 1, t, by omega, by go_num, by show _ ∧ _; rw [htk.out]; exact ht.out, by omega, hown.out, (hbr.trans (hb12.out.mono hbr.size)).trans (hbi.mono hzw.out)⟩
          case measure => simp [intOf]; omega
    · obtain rfl : i = l.length := by omega
      have hown' := hown0.out
      obtain ⟨ad', cap', rfl, hsl⟩ := own_slM hown'
      have Hsl : Hid _ := hsl
      have Ht : Hid (RisingM t0 ∧ ∀ x, x ∈ t0 ↔ x ∈ termsOf l) := by have := ht0.out; rwa [List.take_length] at this
      clear hown' hown0 hsl ht0
      go_wp2_with fail
      go_ret
      exact ⟨t0, ad', cap', rfl, Hsl.out, Ht.out.1, Ht.out.2, htl0, hbr⟩
end Go.Proofs.YtibgelpkogdgkabGreatDoor
