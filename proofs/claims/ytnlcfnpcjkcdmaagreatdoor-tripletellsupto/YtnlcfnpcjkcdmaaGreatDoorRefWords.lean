/- The document's answer (package strataref1): Words: a text cut at blanks that are not in quotes. -/
import Derived.Test.YtnlcfnpcjkcdmaaGreatDoorWordsPlain
import Derived.Test.YtnlcfnpcjkcdmaaGreatDoorTriplePlain
import Derived.OwnWalk
import Derived.Laws.DeepStrings4
namespace Go.Proofs.YtnlcfnpcjkcdmaaGreatDoor
open Go Go.RowKit Go.Proofs
set_option synthInstance.maxSize 1000

/-! ### the walk -/
def encS (u : List UInt8) : Value := .string ⟨u.toArray⟩
theorem mid_extract (l : List UInt8) (f i : Nat) : (⟨l.toArray⟩ : ByteArray).extract f i = ⟨((l.take i).drop f).toArray⟩ := by
  apply ByteArray.ext
  rw [ByteArray.data_extract]
  simp [List.drop_take]
theorem cur_step (l : List UInt8) (f i : Nat) (hf : f ≤ i) (hi : i < l.length) : (l.take (i + 1)).drop f = (l.take i).drop f ++ [l[i]] := by
  rw [List.take_succ_eq_append_getElem hi, List.drop_append_of_le_length (by simp; omega)]
theorem cur_empty (l : List UInt8) (f i : Nat) (hf : f ≤ i) (hi : i ≤ l.length) : ((l.take i).drop f).isEmpty = (i == f) := by
  rw [Bool.eq_iff_iff, List.isEmpty_iff, beq_iff_eq, List.drop_eq_nil_iff]
  simp
  omega

/-- what holds between two rounds -/
def WInv (l : List UInt8) (outs : List (List UInt8)) (f i : Nat) (inn : Bool) : Prop :=
  f ≤ i ∧ f ≤ l.length ∧ outs.length ≤ i ∧ (i ≤ l.length → wordsL l = outs ++ wscan inn ((l.take i).drop f) (l.drop i)) ∧ (l.length < i → wordsL l = outs ++ [l.drop f])
theorem inv_start (l : List UInt8) : WInv l [] 0 0 false := ⟨Nat.le_refl _, Nat.zero_le _, Nat.le_refl _, fun _ => by simp [wordsL], fun h => by omega⟩
theorem inv_end {l : List UInt8} {outs : List (List UInt8)} {f i : Nat} {inn : Bool} (h : WInv l outs f i inn) (hi : l.length ≤ i) : wordsL l = outs ++ [l.drop f] := by
  obtain ⟨h1, h2, h3, h4, h5⟩ := h
  by_cases e : i = l.length
  · rw [h4 (by omega), e, List.take_length, List.drop_length]
    cases inn <;> simp [wscan]
  · exact h5 (by omega)
theorem inv_skip {l : List UInt8} {outs : List (List UInt8)} {f i : Nat} (h : WInv l outs f i true) (hi : i < l.length) (hc : l[i] = 92) : WInv l outs f (i + 2) true := by
  obtain ⟨h1, h2, h3, h4, h5⟩ := h
  refine ⟨by omega, h2, by omega, fun hle => ?_, fun hgt => ?_⟩
  · have h6 := h4 (by omega)
    rw [List.drop_eq_getElem_cons hi, List.drop_eq_getElem_cons (i := i + 1) (by omega), hc, wscan_skip] at h6
    rw [h6, cur_step l f (i + 1) (by omega) (by omega), cur_step l f i h1 hi, hc]
    simp
  · have h6 := h4 (by omega)
    rw [List.drop_eq_getElem_cons hi, show l.drop (i + 1) = [] from List.drop_eq_nil_of_le (by omega), hc, wscan_last, ← hc, ← cur_step l f i h1 hi, show i + 1 = l.length by omega, List.take_length] at h6
    exact h6
theorem inv_cut {l : List UInt8} {outs : List (List UInt8)} {f i : Nat} (h : WInv l outs f i false) (hi : i < l.length) (hc : l[i] = 32) : WInv l (outs ++ [(l.take i).drop f]) (i + 1) (i + 1) false := by
  obtain ⟨h1, h2, h3, h4, h5⟩ := h
  refine ⟨Nat.le_refl _, hi, by simp; omega, fun hle => ?_, fun hgt => by omega⟩
  have h6 := h4 (by omega)
  rw [List.drop_eq_getElem_cons hi, wscan_plain _ _ _ _ (by simp), hc, if_pos (by decide)] at h6
  rw [h6]
  simp
theorem inv_go {l : List UInt8} {outs : List (List UInt8)} {f i : Nat} {inn : Bool} (h : WInv l outs f i inn) (hi : i < l.length) (h92 : (inn && l[i] == 92) = false) (h32 : (l[i] == 32 && !inn) = false) (inn' : Bool) (ht : inn' = if (l[i] == 34 && (inn || i == f)) = true then !inn else inn) : WInv l outs f (i + 1) inn' := by
  obtain ⟨h1, h2, h3, h4, h5⟩ := h
  refine ⟨by omega, h2, by omega, fun hle => ?_, fun hgt => by omega⟩
  have h6 := h4 (by omega)
  rw [List.drop_eq_getElem_cons hi, wscan_plain _ _ _ _ h92, if_neg (by rw [h32]; simp), ← cur_step l f i h1 hi] at h6
  rw [h6, ht]
  unfold togB
  rw [cur_empty l f i h1 (by omega)]

/-- a slice holds these texts -/
def SlS (w : World) (ad : Option Addr) (ws : List (List UInt8)) : Prop := ws ≠ [] → ∃ b, ad = some ⟨b, 0, none⟩ ∧ ∀ j (hj : j < ws.length), w.cell? ⟨b, j, none⟩ = some (encS ws[j])

theorem own_str {W : World} {base : Nat} {v : Value} {t : List (List UInt8)} (h : W.ownsRow base 9 1 v t.length (t.map encS)) : ∃ ad cap, v = .slice ad t.length cap ∧ SlS W ad t := by
  have h' := h
  rcases h.2 with ⟨rfl, h0⟩ | ⟨g, cap, cur, rfl, _⟩
  · exact ⟨none, 0, by rw [h0], fun hne => absurd (List.eq_nil_of_length_eq_zero h0) hne⟩
  · refine ⟨some ⟨g, 0, none⟩, cap, rfl, fun _ => ⟨g, rfl, fun j hj => ?_⟩⟩
    have := h'.cells (g := g) rfl j (encS t[j]) (by simp [hj])
    rw [Addr.add_lit] at this
    simpa using this

set_option maxHeartbeats 8000000 in
set_option maxRecDepth 100000 in
theorem RWords_any (l : List UInt8) (w : World) (hl : l.length ≤ 100000000) :
    Calls Tryz.prog 25 #[.string ⟨l.toArray⟩] w fun e w' => ∃ ad c, e = .returned (.slice ad (wordsL l).length c) ∧ SlS w' ad (wordsL l) ∧ RowKit.Below w.heap.size w w' := by
  obtain ⟨i0, hi0, hz⟩ := Option.map_eq_some_iff.1 infoStr
  simp only [Prod.mk.injEq] at hz
  obtain ⟨hz0, hz1, hz2⟩ := hz
  go_enter Tryz.func25, Tryz.ntmps25
  go_wp2_with fail
  go_loopw [3, 4, 5, 6] (fun v fv bv iv wr => ∃ (outs : List (List UInt8)) (f i : Nat) (inn : Bool), i ≤ l.length + 1 ∧ fv = .int .i64 f ∧ bv = .bool inn ∧ iv = .int .i64 i ∧ Hid (WInv l outs f i inn) ∧ Hid (wr.ownsRow w.heap.size 9 1 v outs.length (outs.map encS)) ∧ RowKit.Below w.heap.size w wr) (fun _ _ _ iv wr => l.length + 1 - (intOf iv).toNat)
  case atStart => exact ⟨[], 0, 0, false, by omega, rfl, rfl, rfl, inv_start l, World.ownsRow_nil _ _ _ _, RowKit.Below.refl _ _⟩
  case round =>
    obtain ⟨outs, f, i, inn, hi', rfl, rfl, rfl, hinv, hown, hbr⟩ := hrel
    by_cases hlt : i < l.length
    · have hidx : ∀ h, (⟨l.toArray⟩ : ByteArray)[i]'h = l[i] := fun _ => rfl
      have b92 := byte_beq l[i] 92
      have b34 := byte_beq l[i] 34
      have b32 := byte_beq l[i] 32
      rw [show ((92 : UInt8).toNat : Int) = 92 from rfl] at b92
      rw [show ((34 : UInt8).toNat : Int) = 34 from rfl] at b34
      rw [show ((32 : UInt8).toNat : Int) = 32 from rfl] at b32
      have g0 : (0 : Int) ≤ (i : Int) := by omega
      have g1 : (i : Int) < (l.length : Int) := by omega
      have hfi : f ≤ i := hinv.out.1
      cases inn
      · cases q34 : ((l[i].toNat : Int) == 34)
        · cases q32 : ((l[i].toNat : Int) == 32)
          · have hgo : Hid (WInv l outs f (i + 1) false) := inv_go hinv.out hlt (by simp) (by rw [← b32, q32]; rfl) false (by rw [← b34, q34]; rfl)
            clear b92 b34 b32
            go_wp2_with fail
            exact ⟨⟨outs, f, i + 1, false, by omega, rfl, rfl, by go_num, hgo.out, hown.out, hbr⟩, by simp [intOf]; omega⟩
          · have hgo : Hid (WInv l (outs ++ [(l.take i).drop f]) (i + 1) (i + 1) false) := inv_cut hinv.out hlt (by have := b32.symm.trans q32; simpa using this)
            have hon : outs.length ≤ i := hinv.out.2.2.1
            have hx := mid_extract l f i
            have g2 : (0 : Int) ≤ (f : Int) := by omega
            have g3 : (f : Int) ≤ (i : Int) := by omega
            have g4 : (i : Int) ≤ (l.length : Int) := by omega
            have hzr := hbr.size
            clear b92 b34 b32 hinv
            generalize (l.take i).drop f = word at *
            go_wp2_with (at_builtin; refine wpList_append_own _ rfl _ _ 55 rfl w.heap.size 9 i0 (.string ByteArray.empty) 1 16 Tryz.underlying55 hi0 hz0 hz1 hz2 rfl (by decide) _ _ _ rfl (hown.out.alloc _) ⟨wr.heap.size, 0, none⟩ 1 1 [encS word] rfl rfl ?c1 ?c2 ?c3 ?c4 ?c5 ?_)
            case c1 =>
              intro j u hj
              have h1 : j < 1 := (List.getElem?_eq_some_iff.1 hj).1
              obtain rfl : j = 0 := by omega
              simp [encS] at hj
              subst hj
              rw [Addr.add_lit]
              go_simp
            case c2 => intro u hu; rw [List.mem_singleton.1 hu]; rfl
            case c3 => unfold maxLen; omega
            case c4 => omega
            case c5 => simp; omega
            intro v' w9 hown' hgrow _
            have hbel := (hbr.alloc hzr (.cells #[encS word] 9)).grown hgrow (by simp; omega) (fun k hk => (hown.out.lt k hk).1)
            have hnew : Hid (w9.ownsRow w.heap.size 9 1 v' (outs ++ [word]).length ((outs ++ [word]).map encS)) := by
              show World.ownsRow _ _ _ _ _ _ _
              rw [List.length_append, List.map_append]
              exact hown'
            clear hown' 
            go_wp2_with fail
            go_roundw
            case rel => exact ⟨outs ++ [word], i + 1, i + 1, false, by omega, by go_num, rfl, by go_num, hgo.out, hnew.out, hbel⟩
            case measure => simp [intOf]; omega
        · cases qf : ((i : Int) == (f : Int))
          · have q32 : ((l[i].toNat : Int) == 32) = false := by simp at q34 ⊢; omega
            have hgo : Hid (WInv l outs f (i + 1) false) := inv_go hinv.out hlt (by simp) (by rw [← b32, q32]; rfl) false (by
              rw [← b34, q34]
              have : (i == f) = false := by simp at qf ⊢; omega
              rw [this]; rfl)
            clear b92 b34 b32
            go_wp2_with fail
            exact ⟨⟨outs, f, i + 1, false, by omega, rfl, rfl, by go_num, hgo.out, hown.out, hbr⟩, by simp [intOf]; omega⟩
          · have q32 : ((l[i].toNat : Int) == 32) = false := by simp at q34 ⊢; omega
            have hgo : Hid (WInv l outs f (i + 1) true) := inv_go hinv.out hlt (by simp) (by rw [← b32, q32]; rfl) true (by
              rw [← b34, q34]
              have : (i == f) = true := by simp at qf ⊢; omega
              rw [this]; rfl)
            clear b92 b34 b32
            go_wp2_with fail
            exact ⟨⟨outs, f, i + 1, true, by omega, rfl, rfl, by go_num, hgo.out, hown.out, hbr⟩, by simp [intOf]; omega⟩
      · cases q92 : ((l[i].toNat : Int) == 92)
        · cases q34 : ((l[i].toNat : Int) == 34)
          · have hgo : Hid (WInv l outs f (i + 1) true) := inv_go hinv.out hlt (by rw [← b92, q92]; rfl) (by simp) true (by rw [← b34, q34]; rfl)
            clear b92 b34 b32
            cases q32 : ((l[i].toNat : Int) == 32)
            all_goals
              go_wp2_with fail
              exact ⟨⟨outs, f, i + 1, true, by omega, rfl, rfl, by go_num, hgo.out, hown.out, hbr⟩, by simp [intOf]; omega⟩
          · have q32 : ((l[i].toNat : Int) == 32) = false := by simp at q34 ⊢; omega
            have hgo : Hid (WInv l outs f (i + 1) false) := inv_go hinv.out hlt (by rw [← b92, q92]; rfl) (by simp) false (by rw [← b34, q34]; rfl)
            clear b92 b34 b32
            go_wp2_with fail
            exact ⟨⟨outs, f, i + 1, false, by omega, rfl, rfl, by go_num, hgo.out, hown.out, hbr⟩, by simp [intOf]; omega⟩
        · have hgo : Hid (WInv l outs f (i + 2) true) := inv_skip hinv.out hlt (by have := b92.symm.trans q92; simpa using this)
          clear b92 b34 b32
          go_wp2_with fail
          exact ⟨⟨outs, f, i + 2, true, by omega, rfl, rfl, by go_num, hgo.out, hown.out, hbr⟩, by simp [intOf]; omega⟩
    · have hend : Hid (wordsL l = outs ++ [l.drop f]) := inv_end hinv.out (by omega)
      have hon : outs.length ≤ i := hinv.out.2.2.1
      have hfl : f ≤ l.length := hinv.out.2.1
      have hx := drop_extract l f
      have g2 : (0 : Int) ≤ (f : Int) := by omega
      have g3 : (f : Int) ≤ (l.length : Int) := by omega
      have hzr := hbr.size
      clear hinv
      generalize l.drop f = word at *
      go_wp2_with (at_builtin; refine wpList_append_own _ rfl _ _ 55 rfl w.heap.size 9 i0 (.string ByteArray.empty) 1 16 Tryz.underlying55 hi0 hz0 hz1 hz2 rfl (by decide) _ _ _ rfl (hown.out.alloc _) ⟨wr.heap.size, 0, none⟩ 1 1 [encS word] rfl rfl ?c1 ?c2 ?c3 ?c4 ?c5 ?_)
      case c1 =>
        intro j u hj
        have h1 : j < 1 := (List.getElem?_eq_some_iff.1 hj).1
        obtain rfl : j = 0 := by omega
        simp [encS] at hj
        subst hj
        rw [Addr.add_lit]
        go_simp
      case c2 => intro u hu; rw [List.mem_singleton.1 hu]; rfl
      case c3 => unfold maxLen; omega
      case c4 => omega
      case c5 => simp; omega
      intro v' w9 hown' hgrow _
      have hbel := (hbr.alloc hzr (.cells #[encS word] 9)).grown hgrow (by simp; omega) (fun k hk => (hown.out.lt k hk).1)
      have hnew : Hid (w9.ownsRow w.heap.size 9 1 v' (outs ++ [word]).length ((outs ++ [word]).map encS)) := by
        show World.ownsRow _ _ _ _ _ _ _
        rw [List.length_append, List.map_append]
        exact hown'
      clear hown' 
      rw [← hend.out] at hnew
      obtain ⟨ad', c', rfl, hsl⟩ := own_str hnew.out
      have Hsl : Hid (SlS w9 ad' (wordsL l)) := hsl
      clear hnew hsl hend
      go_wp2_with fail
      go_ret
      exact ⟨ad', c', rfl, Hsl.out, hbel⟩
end Go.Proofs.YtnlcfnpcjkcdmaaGreatDoor
