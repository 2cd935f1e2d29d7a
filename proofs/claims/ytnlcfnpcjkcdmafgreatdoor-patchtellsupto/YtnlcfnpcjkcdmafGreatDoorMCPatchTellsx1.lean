import Derived.Test.YtnlcfnpcjkcdmafGreatDoorMA0x4
import Derived.OwnWalk
import Derived.Laws.DeepStrings4
import Derived.Test.YtnlcfnpcjkcdmafGreatDoorMCPatchTellsx0
import Derived.RegionTactic
import Derived.Deep.DeepCutAuto
import Derived.ChangeAlike
import Derived.Deep.Draws
import Derived.Test.YtnlcfnpcjkcdmafGreatDoorMA0x2
import Derived.Deep.RegionHeld3

/- The document's answer (package strataref1): Words: a text cut at blanks that are not in quotes. -/
namespace Go.Proofs.YtnlcfnpcjkcdmafGreatDoor
open Go Go.RowKit Go.Proofs
set_option synthInstance.maxSize 1000

/-! ### the walk -/
def encS (u : List UInt8) : Value := .string ⟨u.toArray⟩
theorem mid_extract (l : List UInt8) (f i : Nat) : (⟨l.toArray⟩ : ByteArray).extract f i = ⟨((l.take i).drop f).toArray⟩ := by
  apply ByteArray.ext
  rw [ByteArray.data_extract]
  simp [List.drop_take]
theorem cur_step (l : List UInt8) (f i : Nat) (hf : f ≤ i) (hi : i < l.length) : (l.take (i + 1)).drop f = (l.take i).drop f ++ [l[i]] := by
  rw [List.take_succ_eq_append_getElem hi, List.drop_append_of_le_length (by simp; omega)]
theorem cur_empty (l : List UInt8) (f i : Nat) (hf : f ≤ i) (hi : i ≤ l.length) : ((l.take i).drop f).isEmpty = (i == f) := by
  rw [Bool.eq_iff_iff, List.isEmpty_iff, beq_iff_eq, List.drop_eq_nil_iff]
  simp
  omega

/-- what holds between two rounds -/
def WInv (l : List UInt8) (outs : List (List UInt8)) (f i : Nat) (inn : Bool) : Prop :=
  f ≤ i ∧ f ≤ l.length ∧ outs.length ≤ i ∧ (i ≤ l.length → wordsL l = outs ++ wscan inn ((l.take i).drop f) (l.drop i)) ∧ (l.length < i → wordsL l = outs ++ [l.drop f])
theorem inv_start (l : List UInt8) : WInv l [] 0 0 false := ⟨Nat.le_refl _, Nat.zero_le _, Nat.le_refl _, fun _ => by simp [wordsL], fun h => by omega⟩
theorem inv_end {l : List UInt8} {outs : List (List UInt8)} {f i : Nat} {inn : Bool} (h : WInv l outs f i inn) (hi : l.length ≤ i) : wordsL l = outs ++ [l.drop f] := by
  obtain ⟨h1, h2, h3, h4, h5⟩ := h
  by_cases e : i = l.length
  · rw [h4 (by omega), e, List.take_length, List.drop_length]
    cases inn <;> simp [wscan]
  · exact h5 (by omega)
theorem inv_skip {l : List UInt8} {outs : List (List UInt8)} {f i : Nat} (h : WInv l outs f i true) (hi : i < l.length) (hc : l[i] = 92) : WInv l outs f (i + 2) true := by
  obtain ⟨h1, h2, h3, h4, h5⟩ := h
  refine ⟨by omega, h2, by omega, fun hle => ?_, fun hgt => ?_⟩
  · have h6 := h4 (by omega)
    rw [List.drop_eq_getElem_cons hi, List.drop_eq_getElem_cons (i := i + 1) (by omega), hc, wscan_skip] at h6
    rw [h6, cur_step l f (i + 1) (by omega) (by omega), cur_step l f i h1 hi, hc]
    simp
  · have h6 := h4 (by omega)
    rw [List.drop_eq_getElem_cons hi, show l.drop (i + 1) = [] from List.drop_eq_nil_of_le (by omega), hc, wscan_last, ← hc, ← cur_step l f i h1 hi, show i + 1 = l.length by omega, List.take_length] at h6
    exact h6
theorem inv_cut {l : List UInt8} {outs : List (List UInt8)} {f i : Nat} (h : WInv l outs f i false) (hi : i < l.length) (hc : l[i] = 32) : WInv l (outs ++ [(l.take i).drop f]) (i + 1) (i + 1) false := by
  obtain ⟨h1, h2, h3, h4, h5⟩ := h
  refine ⟨Nat.le_refl _, hi, by simp; omega, fun hle => ?_, fun hgt => by omega⟩
  have h6 := h4 (by omega)
  rw [List.drop_eq_getElem_cons hi, wscan_plain _ _ _ _ (by simp), hc, if_pos (by decide)] at h6
  rw [h6]
  simp
theorem inv_go {l : List UInt8} {outs : List (List UInt8)} {f i : Nat} {inn : Bool} (h : WInv l outs f i inn) (hi : i < l.length) (h92 : (inn && l[i] == 92) = false) (h32 : (l[i] == 32 && !inn) = false) (inn' : Bool) (ht : inn' = if (l[i] == 34 && (inn || i == f)) = true then !inn else inn) : WInv l outs f (i + 1) inn' := by
  obtain ⟨h1, h2, h3, h4, h5⟩ := h
  refine ⟨by omega, h2, by omega, fun hle => ?_, fun hgt => by omega⟩
  have h6 := h4 (by omega)
  rw [List.drop_eq_getElem_cons hi, wscan_plain _ _ _ _ h92, if_neg (by rw [h32]; simp), ← cur_step l f i h1 hi] at h6
  rw [h6, ht]
  unfold togB
  rw [cur_empty l f i h1 (by omega)]

/-- a slice holds these texts -/
def SlS (w : World) (ad : Option Addr) (ws : List (List UInt8)) : Prop := ws ≠ [] → ∃ b, ad = some ⟨b, 0, none⟩ ∧ ∀ j (hj : j < ws.length), w.cell? ⟨b, j, none⟩ = some (encS ws[j])

theorem own_str {W : World} {base : Nat} {v : Value} {t : List (List UInt8)} (h : W.ownsRow base 9 1 v t.length (t.map encS)) : ∃ ad cap, v = .slice ad t.length cap ∧ SlS W ad t := by
  have h' := h
  rcases h.2 with ⟨rfl, h0⟩ | ⟨g, cap, cur, rfl, _⟩
  · exact ⟨none, 0, by rw [h0], fun hne => absurd (List.eq_nil_of_length_eq_zero h0) hne⟩
  · refine ⟨some ⟨g, 0, none⟩, cap, rfl, fun _ => ⟨g, rfl, fun j hj => ?_⟩⟩
    have := h'.cells (g := g) rfl j (encS t[j]) (by simp [hj])
    rw [Addr.add_lit] at this
    simpa using this

set_option maxHeartbeats 8000000 in
set_option maxRecDepth 100000 in
theorem RWords_any (l : List UInt8) (w : World) (hl : l.length ≤ 100000000) :
    Calls Tryz.prog 99 #[.string ⟨l.toArray⟩] w fun e w' => ∃ ad c, e = .returned (.slice ad (wordsL l).length c) ∧ SlS w' ad (wordsL l) ∧ RowKit.Below w.heap.size w w' := by
  obtain ⟨i0, hi0, hz⟩ := Option.map_eq_some_iff.1 infoStr
  simp only [Prod.mk.injEq] at hz
  obtain ⟨hz0, hz1, hz2⟩ := hz
  go_enter Tryz.func99, Tryz.ntmps99
  go_wp2_with fail
  go_loopw [3, 4, 5, 6] (fun v fv bv iv wr => ∃ (outs : List (List UInt8)) (f i : Nat) (inn : Bool), i ≤ l.length + 1 ∧ fv = .int .i64 f ∧ bv = .bool inn ∧ iv = .int .i64 i ∧ Hid (WInv l outs f i inn) ∧ Hid (wr.ownsRow w.heap.size 9 1 v outs.length (outs.map encS)) ∧ RowKit.Below w.heap.size w wr) (fun _ _ _ iv wr => l.length + 1 - (intOf iv).toNat)
  case atStart => exact ⟨[], 0, 0, false, by omega, rfl, rfl, rfl, inv_start l, World.ownsRow_nil _ _ _ _, RowKit.Below.refl _ _⟩
  case round =>
    obtain ⟨outs, f, i, inn, hi', rfl, rfl, rfl, hinv, hown, hbr⟩ := hrel
    by_cases hlt : i < l.length
    · have hidx : ∀ h, (⟨l.toArray⟩ : ByteArray)[i]'h = l[i] := fun _ => rfl
      have b92 := byte_beq l[i] 92
      have b34 := byte_beq l[i] 34
      have b32 := byte_beq l[i] 32
      rw [show ((92 : UInt8).toNat : Int) = 92 from rfl] at b92
      rw [show ((34 : UInt8).toNat : Int) = 34 from rfl] at b34
      rw [show ((32 : UInt8).toNat : Int) = 32 from rfl] at b32
      have g0 : (0 : Int) ≤ (i : Int) := by omega
      have g1 : (i : Int) < (l.length : Int) := by omega
      have hfi : f ≤ i := hinv.out.1
      cases inn
      · cases q34 : ((l[i].toNat : Int) == 34)
        · cases q32 : ((l[i].toNat : Int) == 32)
          · have hgo : Hid (WInv l outs f (i + 1) false) := inv_go hinv.out hlt (by simp) (by rw [← b32, q32]; rfl) false (by rw [← b34, q34]; rfl)
            clear b92 b34 b32
            go_wp2_with fail
            exact ⟨⟨outs, f, i + 1, false, by omega, rfl, rfl, by go_num, hgo.out, hown.out, hbr⟩, by simp [intOf]; omega⟩
          · have hgo : Hid (WInv l (outs ++ [(l.take i).drop f]) (i + 1) (i + 1) false) := inv_cut hinv.out hlt (by have := b32.symm.trans q32; simpa using this)
            have hon : outs.length ≤ i := hinv.out.2.2.1
            have hx := mid_extract l f i
            have g2 : (0 : Int) ≤ (f : Int) := by omega
            have g3 : (f : Int) ≤ (i : Int) := by omega
            have g4 : (i : Int) ≤ (l.length : Int) := by omega
            have hzr := hbr.size
            clear b92 b34 b32 hinv
            generalize (l.take i).drop f = word at *
            go_wp2_with (at_builtin; refine wpList_append_own _ rfl _ _ 38 rfl w.heap.size 9 i0 (.string ByteArray.empty) 1 16 Tryz.underlying38 hi0 hz0 hz1 hz2 rfl (by decide) _ _ _ rfl (hown.out.alloc _) ⟨wr.heap.size, 0, none⟩ 1 1 [encS word] rfl rfl ?c1 ?c2 ?c3 ?c4 ?c5 ?_)
            case c1 =>
              intro j u hj
              have h1 : j < 1 := (List.getElem?_eq_some_iff.1 hj).1
              obtain rfl : j = 0 := by omega
              simp [encS] at hj
              subst hj
              rw [Addr.add_lit]
              go_simp
            case c2 => intro u hu; rw [List.mem_singleton.1 hu]; rfl
            case c3 => unfold maxLen; omega
            case c4 => omega
            case c5 => simp; omega
            intro v' w9 hown' hgrow _
            have hbel := (hbr.alloc hzr (.cells #[encS word] 9)).grown hgrow (by simp; omega) (fun k hk => (hown.out.lt k hk).1)
            have hnew : Hid (w9.ownsRow w.heap.size 9 1 v' (outs ++ [word]).length ((outs ++ [word]).map encS)) := by
              show World.ownsRow _ _ _ _ _ _ _
              rw [List.length_append, List.map_append]
              exact hown'
            clear hown' 
            go_wp2_with fail
            go_roundw
            case rel => exact ⟨outs ++ [word], i + 1, i + 1, false, by omega, by go_num, rfl, by go_num, hgo.out, hnew.out, hbel⟩
            case measure => simp [intOf]; omega
        · cases qf : ((i : Int) == (f : Int))
          · have q32 : ((l[i].toNat : Int) == 32) = false := by simp at q34 ⊢; omega
            have hgo : Hid (WInv l outs f (i + 1) false) := inv_go hinv.out hlt (by simp) (by rw [← b32, q32]; rfl) false (by
              rw [← b34, q34]
              have : (i == f) = false := by simp at qf ⊢; omega
              rw [this]; rfl)
            clear b92 b34 b32
            go_wp2_with fail
            exact ⟨⟨outs, f, i + 1, false, by omega, rfl, rfl, by go_num, hgo.out, hown.out, hbr⟩, by simp [intOf]; omega⟩
          · have q32 : ((l[i].toNat : Int) == 32) = false := by simp at q34 ⊢; omega
            have hgo : Hid (WInv l outs f (i + 1) true) := inv_go hinv.out hlt (by simp) (by rw [← b32, q32]; rfl) true (by
              rw [← b34, q34]
              have : (i == f) = true := by simp at qf ⊢; omega
              rw [this]; rfl)
            clear b92 b34 b32
            go_wp2_with fail
            exact ⟨⟨outs, f, i + 1, true, by omega, rfl, rfl, by go_num, hgo.out, hown.out, hbr⟩, by simp [intOf]; omega⟩
      · cases q92 : ((l[i].toNat : Int) == 92)
        · cases q34 : ((l[i].toNat : Int) == 34)
          · have hgo : Hid (WInv l outs f (i + 1) true) := inv_go hinv.out hlt (by rw [← b92, q92]; rfl) (by simp) true (by rw [← b34, q34]; rfl)
            clear b92 b34 b32
            cases q32 : ((l[i].toNat : Int) == 32)
            all_goals
              go_wp2_with fail
              exact ⟨⟨outs, f, i + 1, true, by omega, rfl, rfl, by go_num, hgo.out, hown.out, hbr⟩, by simp [intOf]; omega⟩
          · have q32 : ((l[i].toNat : Int) == 32) = false := by simp at q34 ⊢; omega
            have hgo : Hid (WInv l outs f (i + 1) false) := inv_go hinv.out hlt (by rw [← b92, q92]; rfl) (by simp) false (by rw [← b34, q34]; rfl)
            clear b92 b34 b32
            go_wp2_with fail
            exact ⟨⟨outs, f, i + 1, false, by omega, rfl, rfl, by go_num, hgo.out, hown.out, hbr⟩, by simp [intOf]; omega⟩
        · have hgo : Hid (WInv l outs f (i + 2) true) := inv_skip hinv.out hlt (by have := b92.symm.trans q92; simpa using this)
          clear b92 b34 b32
          go_wp2_with fail
          exact ⟨⟨outs, f, i + 2, true, by omega, rfl, rfl, by go_num, hgo.out, hown.out, hbr⟩, by simp [intOf]; omega⟩
    · have hend : Hid (wordsL l = outs ++ [l.drop f]) := inv_end hinv.out (by omega)
      have hon : outs.length ≤ i := hinv.out.2.2.1
      have hfl : f ≤ l.length := hinv.out.2.1
      have hx := drop_extract l f
      have g2 : (0 : Int) ≤ (f : Int) := by omega
      have g3 : (f : Int) ≤ (l.length : Int) := by omega
      have hzr := hbr.size
      clear hinv
      generalize l.drop f = word at *
      go_wp2_with (at_builtin; refine wpList_append_own _ rfl _ _ 38 rfl w.heap.size 9 i0 (.string ByteArray.empty) 1 16 Tryz.underlying38 hi0 hz0 hz1 hz2 rfl (by decide) _ _ _ rfl (hown.out.alloc _) ⟨wr.heap.size, 0, none⟩ 1 1 [encS word] rfl rfl ?c1 ?c2 ?c3 ?c4 ?c5 ?_)
      case c1 =>
        intro j u hj
        have h1 : j < 1 := (List.getElem?_eq_some_iff.1 hj).1
        obtain rfl : j = 0 := by omega
        simp [encS] at hj
        subst hj
        rw [Addr.add_lit]
        go_simp
      case c2 => intro u hu; rw [List.mem_singleton.1 hu]; rfl
      case c3 => unfold maxLen; omega
      case c4 => omega
      case c5 => simp; omega
      intro v' w9 hown' hgrow _
      have hbel := (hbr.alloc hzr (.cells #[encS word] 9)).grown hgrow (by simp; omega) (fun k hk => (hown.out.lt k hk).1)
      have hnew : Hid (w9.ownsRow w.heap.size 9 1 v' (outs ++ [word]).length ((outs ++ [word]).map encS)) := by
        show World.ownsRow _ _ _ _ _ _ _
        rw [List.length_append, List.map_append]
        exact hown'
      clear hown' 
      rw [← hend.out] at hnew
      obtain ⟨ad', c', rfl, hsl⟩ := own_str hnew.out
      have Hsl : Hid (SlS w9 ad' (wordsL l)) := hsl
      clear hnew hsl hend
      go_wp2_with fail
      go_ret
      exact ⟨ad', c', rfl, Hsl.out, hbel⟩
end Go.Proofs.YtnlcfnpcjkcdmafGreatDoor

/- The document's answer (package strataref1): Read. -/
namespace Go.Proofs.YtnlcfnpcjkcdmafGreatDoor
open Go Go.RowKit Go.Proofs

/-- what Read tells of a text: the fault, and the term (of one that is too long its kind) -/
def readRT (l : List UInt8) : Int × List UInt8 × List UInt8 := match readL l with
  | none => (0, [], [])
  | some p => if spellB p.1 p.2.1 p.2.2 = false then (0, [], []) else if longB p.2.1 = true then (p.1, [], []) else p

theorem RRead_nil (w : World) :
    Calls Tryz.prog 100 #[.string ⟨#[]⟩] w fun e w' => e = .returned (.tuple #[.agg #[.int .i64 0, .string ⟨#[]⟩, .string ⟨#[]⟩], .int .i64 2]) ∧ Below w.heap.size w w' := by
  go_enter Tryz.func100, Tryz.ntmps100
  go_wp2
  refine bodyPost_ret (v := .tuple #[.agg #[.int .i64 0, .string ⟨#[]⟩, .string ⟨#[]⟩], .int .i64 2]) (by simp [results, Tryz.results100, go_sem]) rfl ⟨rfl, balloc _ _⟩

theorem RRead_anon (r : List UInt8) (w : World) (hl : r.length ≤ 140737488355328) :
    Calls Tryz.prog 100 #[.string ⟨(95 :: r).toArray⟩] w fun e w' => e = .returned (.tuple #[termV (readRT (95 :: r)), .int .i64 (parseN (95 :: r))]) ∧ Below w.heap.size w w' := by
  have hl' : r.length ≤ maxLen := by unfold maxLen; omega
  have e1 : spellB 2 r [] = anonOk r := by show (true && anonOk r) = _; simp
  have hi : ∀ h, (⟨(95 :: r).toArray⟩ : ByteArray)[0]'h = 95 := fun _ => rfl
  have hx : (⟨(95 :: r).toArray⟩ : ByteArray).extract 1 (r.length + 1) = ⟨r.toArray⟩ := by
    have := drop_extract (95 :: r) 1; simpa using this
  cases hk : anonOk r
  · have fin : Hid (Value.tuple #[termV (readRT (95 :: r)), .int .i64 (parseN (95 :: r))] = .tuple #[.agg #[.int .i64 0, .string ⟨#[]⟩, .string ⟨#[]⟩], .int .i64 2]) := by
      show _ = _
      simp [readRT, parseN, readL, e1, hk, termV]
    clear e1
    go_enter Tryz.func100, Tryz.ntmps100
    go_wp2_with (go_at_call 137; refine (right_anon r _ hl').mono ?_; rintro e w1 ⟨rfl, rfl⟩)
    exact bodyPost_ret (v := .tuple #[.agg #[.int .i64 0, .string ⟨#[]⟩, .string ⟨#[]⟩], .int .i64 2]) (by simp [results, Tryz.results100, go_sem]) rfl ⟨ret_val fin.out.symm, bstep (balloc _ _) (balloc _ _)⟩
  · by_cases hlo : 24 < r.length
    · have hlb : longB r = true := by simp [longB]; omega
      have fin : Hid (Value.tuple #[termV (readRT (95 :: r)), .int .i64 (parseN (95 :: r))] = .tuple #[.agg #[.int .i64 2, .string ⟨#[]⟩, .string ⟨#[]⟩], .int .i64 4]) := by
        show _ = _
        simp [readRT, parseN, readL, e1, hk, hlb, termV]
      clear e1 hlb
      go_enter Tryz.func100, Tryz.ntmps100
      go_wp2_with (go_at_call 137; refine (right_anon r _ hl').mono ?_; rintro e w1 ⟨rfl, rfl⟩)
      exact bodyPost_ret (v := .tuple #[.agg #[.int .i64 2, .string ⟨#[]⟩, .string ⟨#[]⟩], .int .i64 4]) (by simp [results, Tryz.results100, go_sem]) rfl ⟨ret_val fin.out.symm, bstep (balloc _ _) (balloc _ _)⟩
    · have hlb : longB r = false := by simp [longB]; omega
      have fin : Hid (Value.tuple #[termV (readRT (95 :: r)), .int .i64 (parseN (95 :: r))] = .tuple #[.agg #[.int .i64 2, .string ⟨r.toArray⟩, .string ⟨#[]⟩], .int .i64 0]) := by
        show _ = _
        simp [readRT, parseN, readL, e1, hk, hlb, termV]
      clear e1 hlb
      go_enter Tryz.func100, Tryz.ntmps100
      go_wp2_with (go_at_call 137; refine (right_anon r _ hl').mono ?_; rintro e w1 ⟨rfl, rfl⟩)
      exact bodyPost_ret (v := .tuple #[.agg #[.int .i64 2, .string ⟨r.toArray⟩, .string ⟨#[]⟩], .int .i64 0]) (by simp [results, Tryz.results100, go_sem]) rfl ⟨ret_val fin.out.symm, bstep (balloc _ _) (balloc _ _)⟩

theorem RRead_name (c : UInt8) (r : List UInt8) (w : World) (hl : r.length ≤ 140737488355328) (h1 : c ≠ 95) (h2 : c ≠ 34) :
    Calls Tryz.prog 100 #[.string ⟨(c :: r).toArray⟩] w fun e w' => e = .returned (.tuple #[termV (readRT (c :: r)), .int .i64 (parseN (c :: r))]) ∧ Below w.heap.size w w' := by
  have hl' : (c :: r).length ≤ maxLen := by unfold maxLen; simp; omega
  have e0 : readL (c :: r) = some (1, c :: r, []) := by simp [readL, h1, h2]
  have e1 : spellB 1 (c :: r) [] = nameOk (c :: r) := by show (true && nameOk (c :: r)) = _; simp
  have E0 : Hid (readL (c :: r) = some (1, c :: r, [])) := e0
  clear e0
  have hi : ∀ h, (⟨(c :: r).toArray⟩ : ByteArray)[0]'h = c := fun _ => rfl
  have hb1 : ((c.toNat : Int) == 95) = false := by
    have := byte_eq c 95
    rw [show ((95 : UInt8).toNat : Int) = 95 from rfl] at this
    rw [this]; simpa using h1
  have hb2 : ((c.toNat : Int) == 34) = false := by
    have := byte_eq c 34
    rw [show ((34 : UInt8).toNat : Int) = 34 from rfl] at this
    rw [this]; simpa using h2
  clear h1 h2
  cases hk : nameOk (c :: r)
  · have fin : Hid (Value.tuple #[termV (readRT (c :: r)), .int .i64 (parseN (c :: r))] = .tuple #[.agg #[.int .i64 0, .string ⟨#[]⟩, .string ⟨#[]⟩], .int .i64 2]) := by
      show _ = _
      simp [readRT, parseN, E0.out, e1, hk, termV]
    clear e1
    go_enter Tryz.func100, Tryz.ntmps100
    go_wp2_with (go_at_call 137; refine (right_name (c :: r) _ hl').mono ?_; rintro e w1 ⟨rfl, rfl⟩)
    exact bodyPost_ret (v := .tuple #[.agg #[.int .i64 0, .string ⟨#[]⟩, .string ⟨#[]⟩], .int .i64 2]) (by simp [results, Tryz.results100, go_sem]) rfl ⟨ret_val fin.out.symm, bstep (balloc _ _) (balloc _ _)⟩
  · by_cases hlo : 24 < r.length + 1
    · have hlb : longB (c :: r) = true := by simp [longB]; omega
      have fin : Hid (Value.tuple #[termV (readRT (c :: r)), .int .i64 (parseN (c :: r))] = .tuple #[.agg #[.int .i64 1, .string ⟨#[]⟩, .string ⟨#[]⟩], .int .i64 4]) := by
        show _ = _
        simp [readRT, parseN, E0.out, e1, hk, hlb, termV]
      clear e1 hlb
      go_enter Tryz.func100, Tryz.ntmps100
      go_wp2_with (go_at_call 137; refine (right_name (c :: r) _ hl').mono ?_; rintro e w1 ⟨rfl, rfl⟩)
      exact bodyPost_ret (v := .tuple #[.agg #[.int .i64 1, .string ⟨#[]⟩, .string ⟨#[]⟩], .int .i64 4]) (by simp [results, Tryz.results100, go_sem]) rfl ⟨ret_val fin.out.symm, bstep (balloc _ _) (balloc _ _)⟩
    · have hlb : longB (c :: r) = false := by simp [longB]; omega
      have fin : Hid (Value.tuple #[termV (readRT (c :: r)), .int .i64 (parseN (c :: r))] = .tuple #[.agg #[.int .i64 1, .string ⟨(c :: r).toArray⟩, .string ⟨#[]⟩], .int .i64 0]) := by
        show _ = _
        simp [readRT, parseN, E0.out, e1, hk, hlb, termV]
      clear e1 hlb
      go_enter Tryz.func100, Tryz.ntmps100
      go_wp2_with (go_at_call 137; refine (right_name (c :: r) _ hl').mono ?_; rintro e w1 ⟨rfl, rfl⟩)
      exact bodyPost_ret (v := .tuple #[.agg #[.int .i64 1, .string ⟨(c :: r).toArray⟩, .string ⟨#[]⟩], .int .i64 0]) (by simp [results, Tryz.results100, go_sem]) rfl ⟨ret_val fin.out.symm, bstep (balloc _ _) (balloc _ _)⟩

/-! ### a text -/
theorem readRT_none (r : List UInt8) (h : readTextL r = none) : Value.tuple #[termV (readRT (34 :: r)), .int .i64 (parseN (34 :: r))] = .tuple #[.agg #[.int .i64 0, .string ⟨#[]⟩, .string ⟨#[]⟩], .int .i64 2] := by
  have e : readL (34 :: r) = none := by show (readTextL r).map _ = _; rw [h]; rfl
  simp [readRT, parseN, e, termV]
theorem readRT_some (r S L : List UInt8) (h : readTextL r = some (S, L)) (hL : L = [] ∨ langOk L = true) :
    (textOk S = false → Value.tuple #[termV (readRT (34 :: r)), .int .i64 (parseN (34 :: r))] = .tuple #[.agg #[.int .i64 0, .string ⟨#[]⟩, .string ⟨#[]⟩], .int .i64 2]) ∧
    (textOk S = true → 24 < S.length → Value.tuple #[termV (readRT (34 :: r)), .int .i64 (parseN (34 :: r))] = .tuple #[.agg #[.int .i64 3, .string ⟨#[]⟩, .string ⟨#[]⟩], .int .i64 4]) ∧
    (textOk S = true → ¬ 24 < S.length → Value.tuple #[termV (readRT (34 :: r)), .int .i64 (parseN (34 :: r))] = .tuple #[.agg #[.int .i64 3, .string ⟨S.toArray⟩, .string ⟨L.toArray⟩], .int .i64 0]) := by
  have e : readL (34 :: r) = some (3, S, L) := by show (readTextL r).map _ = _; rw [h]; rfl
  have e1 : spellB 3 S L = textOk S := by
    show ((L.isEmpty || langOk L) && textOk S) = _
    rcases hL with rfl | hL
    · simp
    · simp [hL]
  refine ⟨fun ht => ?_, fun ht hlo => ?_, fun ht hlo => ?_⟩
  · simp [readRT, parseN, e, e1, ht, termV]
  · have : longB S = true := by simp [longB]; omega
    simp [readRT, parseN, e, e1, ht, this, termV]
  · have : longB S = false := by simp [longB]; omega
    simp [readRT, parseN, e, e1, ht, this, termV]

theorem one_in (r : List UInt8) (k : Nat) (h : k < r.length) : (⟨(34 :: r).toArray⟩ : ByteArray).extract (k + 1) (k + 1 + 1) = ⟨#[r[k]]⟩ :=
  slice_one (34 :: r) (k + 1) (by simp; omega)

theorem setCell_drewN (w : World) (n : Nat) (a : Addr) (v : Value) : (w.drewN n).setCell a v = (w.setCell a v).drewN n := rfl
theorem bdN {B : Nat} {w w1 : World} (h : Below B w w1) (n : Nat) : Below B w (w1.drewN n) := ⟨h.os, h.tape, h.output, h.size, h.block⟩
attribute [local go_sem] setCell_drewN

set_option maxHeartbeats 8000000 in
set_option maxRecDepth 100000 in
theorem RRead_text (r : List UInt8) (w : World) (hl : r.length ≤ 140737488355328) :
    Calls Tryz.prog 100 #[.string ⟨(34 :: r).toArray⟩] w fun e w' => e = .returned (.tuple #[termV (readRT (34 :: r)), .int .i64 (parseN (34 :: r))]) ∧ Below w.heap.size w w' := by
  have hi : ∀ h, (⟨(34 :: r).toArray⟩ : ByteArray)[0]'h = 34 := fun _ => rfl
  go_enter Tryz.func100, Tryz.ntmps100
  go_wp2
  go_loopw [5] (fun i wr => ∃ (k : Nat) (acc : List UInt8), k ≤ r.length ∧ acc.length ≤ k ∧ i = .int .i64 ((k : Int) + 1) ∧ Hid (unqAt r k acc) ∧
      ∃ q : Nat, wr = ((w.alloc (.cells #[.int .i64 0, .string ⟨#[]⟩, .string ⟨#[]⟩] 95)).alloc (.cells #[.int .i64 3, .string ⟨acc.toArray⟩, .string ⟨#[]⟩] 95)).drewN q) (fun i wr => r.length + 1 - (intOf i).toNat)
  case atStart => exact ⟨0, [], Nat.zero_le _, Nat.zero_le _, rfl, unqAt_zero r, 0, rfl⟩
  case round =>
    obtain ⟨k, acc, hk, hacc, rfl, hat, q, rfl⟩ := hrel
    by_cases hlt : k < r.length
    · have hidx : ∀ h, (⟨(34 :: r).toArray⟩ : ByteArray)[k + 1]'h = r[k] := fun _ => rfl
      by_cases hq : r[k] = 34
      · have hq' : ((r[k].toNat : Int) != 34) = false := by rw [hq]; rfl
        have hu := unqAt_quote r k acc hat.out hlt hq
        have hsa : acc.length ≤ maxLen := by unfold maxLen; omega
        clear hq
        by_cases hlast : k + 1 = r.length
        · have hrt : readTextL r = some (acc, []) := by
            simp only [readTextL, hu, List.drop_eq_nil_of_le (show r.length ≤ k + 1 by omega)]; rfl
          have Hrt : Hid (True ∧ readTextL r = some (acc, [])) := ⟨trivial, hrt⟩
          have hle1 : r.length ≤ k + 1 := by omega
          clear hlast hu hrt
          cases ht : textOk acc
          · have fin : Hid (_ = _) := (readRT_some r acc [] Hrt.out.2 (Or.inl rfl)).1 ht
            go_wp2_with (go_at_call 137; refine (right_text acc _ hsa).mono ?_; rintro e w1 ⟨rfl, rfl⟩)
            exact bodyPost_ret (v := .tuple #[.agg #[.int .i64 0, .string ⟨#[]⟩, .string ⟨#[]⟩], .int .i64 2]) (by simp [results, Tryz.results100, go_sem]) rfl ⟨ret_val fin.out.symm, bdN (bstep (balloc _ _) (balloc _ _)) _⟩
          · by_cases hlo : 24 < acc.length
            · have fin : Hid (_ = _) := (readRT_some r acc [] Hrt.out.2 (Or.inl rfl)).2.1 ht hlo
              go_wp2_with (go_at_call 137; refine (right_text acc _ hsa).mono ?_; rintro e w1 ⟨rfl, rfl⟩)
              exact bodyPost_ret (v := .tuple #[.agg #[.int .i64 3, .string ⟨#[]⟩, .string ⟨#[]⟩], .int .i64 4]) (by simp [results, Tryz.results100, go_sem]) rfl ⟨ret_val fin.out.symm, bdN (bstep (balloc _ _) (balloc _ _)) _⟩
            · have fin : Hid (_ = _) := (readRT_some r acc [] Hrt.out.2 (Or.inl rfl)).2.2 ht hlo
              go_wp2_with (go_at_call 137; refine (right_text acc _ hsa).mono ?_; rintro e w1 ⟨rfl, rfl⟩)
              exact bodyPost_ret (v := .tuple #[.agg #[.int .i64 3, .string ⟨acc.toArray⟩, .string ⟨([] : List UInt8).toArray⟩], .int .i64 0]) (by simp [results, Tryz.results100, go_sem]) rfl ⟨ret_val fin.out.symm, bdN (bstep (balloc _ _) (balloc _ _)) _⟩
        · have hlt1 : k + 1 < r.length := by omega
          have hidx1 : ∀ h, (⟨(34 :: r).toArray⟩ : ByteArray)[k + 1 + 1]'h = r[k + 1] := fun _ => rfl
          have hlt1' : (k : Int) + 1 + 1 < (r.length : Int) + 1 := by omega
          rw [drop_at r (k + 1) hlt1] at hu
          by_cases h64 : r[k + 1] = 64
          · have h64' : ((r[k + 1].toNat : Int) != 64) = false := by rw [h64]; rfl
            have hlr : langR (r[k + 1] :: r.drop (k + 1 + 1)) = if langOk (r.drop (k + 1 + 1)) then some (r.drop (k + 1 + 1)) else none := by
              rw [h64]; rfl
            have hLl : (r.drop (k + 1 + 1)).length = r.length - (k + 2) := by simp
            have hxL : (⟨(34 :: r).toArray⟩ : ByteArray).extract (k + 1 + 2) (r.length + 1) = ⟨(r.drop (k + 1 + 1)).toArray⟩ := drop_extract (34 :: r) (k + 1 + 2)
            generalize r.drop (k + 1 + 1) = L at *
            by_cases h4 : r.length = k + 4
            · have h4' : (((r.length : Int) + 1) != ((k : Int) + 1 + 4)) = false := by simp; omega
              have hle4 : k + 3 ≤ r.length + 1 := by omega
              have hL2 : L.length = 2 := by omega
              have hml : L.length ≤ maxLen := by unfold maxLen; omega
              have Hll : Hid (lettersB L = langOk L) := letters_lang L hL2
              cases hk2 : lettersB L
              · have hno : langOk L = false := by rw [← Hll.out]; exact hk2
                have fin : Hid (_ = _) := readRT_none r (by simp [readTextL, hu, hlr, hno])
                clear hu hlr hno h64 h4 hL2 hLl hlast
                go_wp2_with (go_at_call 51; refine (Letters_any L _ hml).mono ?_; rintro e w1 ⟨rfl, rfl⟩)
                exact bodyPost_ret (v := .tuple #[.agg #[.int .i64 0, .string ⟨#[]⟩, .string ⟨#[]⟩], .int .i64 2]) (by simp [results, Tryz.results100, go_sem]) rfl ⟨ret_val fin.out.symm, bdN (bstep (balloc _ _) (balloc _ _)) _⟩
              · have hyes : langOk L = true := by rw [← Hll.out]; exact hk2
                have hrt : readTextL r = some (acc, L) := by simp [readTextL, hu, hlr, hyes]
                have Hrt : Hid (langOk L = true ∧ readTextL r = some (acc, L)) := ⟨hyes, hrt⟩
                clear hu hlr hyes h64 h4 hL2 hLl hlast hrt
                cases ht : textOk acc
                · have fin : Hid (_ = _) := (readRT_some r acc L Hrt.out.2 (Or.inr Hrt.out.1)).1 ht
                  go_wp2_with (first
                    | (go_at_call 51; refine (Letters_any L _ hml).mono ?_; rintro e w1 ⟨rfl, rfl⟩)
                    | (go_at_call 137; refine (right_text acc _ hsa).mono ?_; rintro e w1 ⟨rfl, rfl⟩))
                  exact bodyPost_ret (v := .tuple #[.agg #[.int .i64 0, .string ⟨#[]⟩, .string ⟨#[]⟩], .int .i64 2]) (by simp [results, Tryz.results100, go_sem]) rfl ⟨ret_val fin.out.symm, bdN (bstep (balloc _ _) (balloc _ _)) _⟩
                · by_cases hlo : 24 < acc.length
                  · have fin : Hid (_ = _) := (readRT_some r acc L Hrt.out.2 (Or.inr Hrt.out.1)).2.1 ht hlo
                    go_wp2_with (first
                      | (go_at_call 51; refine (Letters_any L _ hml).mono ?_; rintro e w1 ⟨rfl, rfl⟩)
                      | (go_at_call 137; refine (right_text acc _ hsa).mono ?_; rintro e w1 ⟨rfl, rfl⟩))
                    exact bodyPost_ret (v := .tuple #[.agg #[.int .i64 3, .string ⟨#[]⟩, .string ⟨#[]⟩], .int .i64 4]) (by simp [results, Tryz.results100, go_sem]) rfl ⟨ret_val fin.out.symm, bdN (bstep (balloc _ _) (balloc _ _)) _⟩
                  · have fin : Hid (_ = _) := (readRT_some r acc L Hrt.out.2 (Or.inr Hrt.out.1)).2.2 ht hlo
                    go_wp2_with (first
                      | (go_at_call 51; refine (Letters_any L _ hml).mono ?_; rintro e w1 ⟨rfl, rfl⟩)
                      | (go_at_call 137; refine (right_text acc _ hsa).mono ?_; rintro e w1 ⟨rfl, rfl⟩))
                    exact bodyPost_ret (v := .tuple #[.agg #[.int .i64 3, .string ⟨acc.toArray⟩, .string ⟨L.toArray⟩], .int .i64 0]) (by simp [results, Tryz.results100, go_sem]) rfl ⟨ret_val fin.out.symm, bdN (bstep (balloc _ _) (balloc _ _)) _⟩
            · have h4' : (((r.length : Int) + 1) != ((k : Int) + 1 + 4)) = true := by simp; omega
              have hno : langOk L = false := by
                have : ¬ L.length = 2 := by omega
                simp [langOk, this]
              have fin : Hid (_ = _) := readRT_none r (by simp [readTextL, hu, hlr, hno])
              clear hu hlr hno h64 h4 hLl hlast hxL
              go_wp2
              exact bodyPost_ret (v := .tuple #[.agg #[.int .i64 0, .string ⟨#[]⟩, .string ⟨#[]⟩], .int .i64 2]) (by simp [results, Tryz.results100, go_sem]) rfl ⟨ret_val fin.out.symm, bdN (bstep (balloc _ _) (balloc _ _)) _⟩
          · have h64' : ((r[k + 1].toNat : Int) != 64) = true := by
              have := byte_eq r[k + 1] 64
              rw [show ((64 : UInt8).toNat : Int) = 64 from rfl] at this
              simp only [bne, this]; simpa using h64
            have hln : langR (r[k + 1] :: r.drop (k + 1 + 1)) = none := if_neg h64
            have fin : Hid (_ = _) := readRT_none r (by simp only [readTextL, hu, hln])
            clear hu h64 hlast hln
            go_wp2
            exact bodyPost_ret (v := .tuple #[.agg #[.int .i64 0, .string ⟨#[]⟩, .string ⟨#[]⟩], .int .i64 2]) (by simp [results, Tryz.results100, go_sem]) rfl ⟨ret_val fin.out.symm, bdN (bstep (balloc _ _) (balloc _ _)) _⟩
      · have hq' : ((r[k].toNat : Int) != 34) = true := by
          have := byte_eq r[k] 34
          rw [show ((34 : UInt8).toNat : Int) = 34 from rfl] at this
          simp only [bne, this]; simpa using hq
        by_cases hm : r[k] = 92
        · have hm' : ((r[k].toNat : Int) == 92) = true := by rw [hm]; rfl
          by_cases he : k + 1 = r.length
          · have fin : Hid (_ = _) := readRT_none r (by simp [readTextL, unqAt_cut r k acc hat.out hlt hm he])
            have he' : (((k : Int) + 1 + 1) == ((r.length : Int) + 1)) = true := by rw [beq_iff_eq]; omega
            clear hq hm he
            go_wp2
            exact bodyPost_ret (v := .tuple #[.agg #[.int .i64 0, .string ⟨#[]⟩, .string ⟨#[]⟩], .int .i64 2]) (by simp [results, Tryz.results100, go_sem]) rfl ⟨ret_val fin.out.symm, bdN (bstep (balloc _ _) (balloc _ _)) _⟩
          · have he' : (((k : Int) + 1 + 1) == ((r.length : Int) + 1)) = false := by rw [beq_eq_false_iff_ne]; omega
            have hlt1 : k + 1 < r.length := by omega
            have hidx1 : ∀ h, (⟨(34 :: r).toArray⟩ : ByteArray)[k + 1 + 1]'h = r[k + 1] := fun _ => rfl
            cases hb : markB (r[k + 1].toNat : Int)
            · have fin : Hid (_ = _) := readRT_none r (by simp [readTextL, unqAt_bad r k acc hat.out hlt1 hm hb])
              have hn34 : ((r[k + 1].toNat : Int) != 34) = true := by simp [markB] at hb; simp [hb]
              have hn92 : ((r[k + 1].toNat : Int) != 92) = true := by simp [markB] at hb; simp [hb]
              clear hq hm he hb
              go_wp2
              exact bodyPost_ret (v := .tuple #[.agg #[.int .i64 0, .string ⟨#[]⟩, .string ⟨#[]⟩], .int .i64 2]) (by simp [results, Tryz.results100, go_sem]) rfl ⟨ret_val fin.out.symm, bdN (bstep (balloc _ _) (balloc _ _)) _⟩
            · have hnext : Hid (unqAt r (k + 2) (acc ++ [r[k + 1]])) := unqAt_mark r k acc hat.out hlt1 hm hb
              have hex := one_in r (k + 1) hlt1
              have Hsum : Hid (_ = _) := str_app acc [r[k + 1]]
              clear hq hm he
              cases hn34 : ((r[k + 1].toNat : Int) != 34)
              · clear hb
                go_wp2
                go_region
                go_wp2
                refine ⟨⟨k + 2, acc ++ [r[k + 1]], by omega, by simp; omega, by go_num, hnext, q + 1, ?_⟩, by simp [intOf]; omega⟩
                rw [← Hsum.out]
              · have hn92 : ((r[k + 1].toNat : Int) != 92) = false := by simp [markB] at hb; simp at hn34; simp; omega
                clear hb
                go_wp2
                go_region
                go_wp2
                refine ⟨⟨k + 2, acc ++ [r[k + 1]], by omega, by simp; omega, by go_num, hnext, q + 1, ?_⟩, by simp [intOf]; omega⟩
                rw [← Hsum.out]
        · have hm' : ((r[k].toNat : Int) == 92) = false := by
            have := byte_eq r[k] 92
            rw [show ((92 : UInt8).toNat : Int) = 92 from rfl] at this
            rw [this]; simpa using hm
          have hnext : Hid (unqAt r (k + 1) (acc ++ [r[k]])) := unqAt_plain r k acc hat.out hlt hq hm
          have hex := one_in r k hlt
          have Hsum : Hid (_ = _) := str_app acc [r[k]]
          clear hq hm
          go_wp2
          go_region
          go_wp2
          refine ⟨⟨k + 1, acc ++ [r[k]], by omega, by simp; omega, by go_num, hnext, q + 1, ?_⟩, by simp [intOf]; omega⟩
          rw [← Hsum.out]
    · have fin : Hid (_ = _) := readRT_none r (by simp [readTextL, unqAt_end r k acc hat.out (by omega)])
      go_wp2
      exact bodyPost_ret (v := .tuple #[.agg #[.int .i64 0, .string ⟨#[]⟩, .string ⟨#[]⟩], .int .i64 2]) (by simp [results, Tryz.results100, go_sem]) rfl ⟨ret_val fin.out.symm, bdN (bstep (balloc _ _) (balloc _ _)) _⟩

theorem RRead_any (l : List UInt8) (w : World) (hl : l.length ≤ 140737488355328) :
    Calls Tryz.prog 100 #[.string ⟨l.toArray⟩] w fun e w' => e = .returned (.tuple #[termV (readRT l), .int .i64 (parseN l)]) ∧ Below w.heap.size w w' := by
  cases l with
  | nil => exact RRead_nil w
  | cons c r =>
    simp only [List.length_cons] at hl
    by_cases h1 : c = 95
    · subst h1; exact RRead_anon r w (by omega)
    · by_cases h2 : c = 34
      · subst h2; exact RRead_text r w (by omega)
      · exact RRead_name c r w (by omega) h1 h2
end Go.Proofs.YtnlcfnpcjkcdmafGreatDoor

/- The document's answer (package strataref1): shape, Triple, Order, Set. -/
namespace Go.Proofs.YtnlcfnpcjkcdmafGreatDoor
open Go Go.RowKit Go.Proofs
set_option synthInstance.maxSize 1000

set_option maxHeartbeats 1000000 in
theorem RShape_any (x : Tr) (w : World) : Calls Tryz.prog 101 #[valTr x] w fun e w' => e = .returned (.bool (!shapeB x.1.1 x.2.1.1)) ∧ RowKit.Below w.heap.size w w' := by
  have fin2 : Hid (shapeB x.1.1 x.2.1.1 = ((x.1.1 == 3) || !(x.2.1.1 == 1))) := rfl
  unfold valTr
  cases h3 : (x.1.1 == 3)
  · cases h1 : (x.2.1.1 == 1)
    all_goals
      have h3' : (x.1.1 != 3) = true := by simp [bne, h3]
      go_enter Tryz.func101, Tryz.ntmps101
      go_wp2_with fail
      go_ret
      exact ⟨ret_bool (by rw [fin2.out, h3]; simp [h1]), balloc _ _⟩
  · have h3' : (x.1.1 != 3) = false := by simp [bne, h3]
    go_enter Tryz.func101, Tryz.ntmps101
    go_wp2_with fail
    go_ret
    exact ⟨ret_bool (by rw [fin2.out, h3]; rfl), balloc _ _⟩

set_option maxHeartbeats 4000000 in
set_option maxRecDepth 100000 in
theorem RTriple_any (x : Tr) (w : World) (hx : fitTr x) : Calls Tryz.prog 73 #[valTr x] w fun e w' => e = .returned (.int .i64 (chkTr x)) ∧ RowKit.Below w.heap.size w w' := by
  have H1 := fun W => RTerm_any x.1.1 x.1.2.1 x.1.2.2 W hx.1.1 hx.1.2
  have H2 := fun W => RTerm_any x.2.1.1 x.2.1.2.1 x.2.1.2.2 W hx.2.1.1 hx.2.1.2
  have H3 := fun W => RTerm_any x.2.2.1 x.2.2.2.1 x.2.2.2.2 W hx.2.2.1 hx.2.2.2
  have HS := fun W => RShape_any x W
  have fin : Hid (chkTr x = if checkN x.1.1 x.1.2.1 x.1.2.2 = 0 then (if checkN x.2.1.1 x.2.1.2.1 x.2.1.2.2 = 0 then (if checkN x.2.2.1 x.2.2.2.1 x.2.2.2.2 = 0 then (if shapeB x.1.1 x.2.1.1 = true then 3 else 0) else checkN x.2.2.1 x.2.2.2.1 x.2.2.2.2) else checkN x.2.1.1 x.2.1.2.1 x.2.1.2.2) else checkN x.1.1 x.1.2.1 x.1.2.2) := rfl
  generalize chkTr x = N at *
  generalize checkN x.1.1 x.1.2.1 x.1.2.2 = c1 at *
  generalize checkN x.2.1.1 x.2.1.2.1 x.2.1.2.2 = c2 at *
  generalize checkN x.2.2.1 x.2.2.2.1 x.2.2.2.2 = c3 at *
  generalize shapeB x.1.1 x.2.1.1 = sh at *
  clear hx
  unfold valTr at HS ⊢
  cases h1 : (c1 == 0)
  · have fin1 : Hid (N = c1) := by have h : ¬ c1 = 0 := by simpa using h1
                                   rw [fin.out, if_neg h]; rfl
    go_enter Tryz.func73, Tryz.ntmps73
    go_wp2_with fail
    refine (H1 _).mono ?_
    rintro e w1 ⟨rfl, hb1⟩
    obtain ⟨a0, a1, a2, b0, b1, b2, d0, d1, d2, hzz⟩ := ninebox hb1
    go_wp2_with fail
    refine (HS _).mono ?_
    rintro e w2 ⟨rfl, hb2⟩
    go_wp2_with fail
    go_ret
    exact ⟨ret_i64 fin1.out.symm, bstep (bstep (balloc _ _) hb1) hb2⟩
  · have e1 : c1 = 0 := by simpa using h1
    cases h2 : (c2 == 0)
    · have fin1 : Hid (N = c2) := by have h : ¬ c2 = 0 := by simpa using h2
                                     rw [fin.out, if_pos e1, if_neg h]; rfl
      clear e1
      go_enter Tryz.func73, Tryz.ntmps73
      go_wp2_with fail
      refine (H1 _).mono ?_
      rintro e w1 ⟨rfl, hb1⟩
      obtain ⟨a0, a1, a2, b0, b1, b2, d0, d1, d2, hzz⟩ := ninebox hb1
      go_wp2_with fail
      refine (H2 _).mono ?_
      rintro e w2 ⟨rfl, hb2⟩
      have hB := bstep hb1 hb2
      clear a0 a1 a2 b0 b1 b2 d0 d1 d2 hzz
      obtain ⟨a0, a1, a2, b0, b1, b2, d0, d1, d2, hzz⟩ := ninebox hB
      go_wp2_with fail
      refine (HS _).mono ?_
      rintro e w3 ⟨rfl, hb3⟩
      go_wp2_with fail
      go_ret
      exact ⟨ret_i64 fin1.out.symm, bstep (bstep (balloc _ _) hB) hb3⟩
    · have e2 : c2 = 0 := by simpa using h2
      have fin3 : Hid (N = if c3 = 0 then (if sh = true then 3 else 0) else c3) := by rw [fin.out, if_pos e1, if_pos e2]; rfl
      clear fin e1 e2
      cases h3 : (c3 == 0)
      · have fin1 : Hid (N = c3) := by have h : ¬ c3 = 0 := by simpa using h3
                                       rw [fin3.out, if_neg h]; rfl
        go_enter Tryz.func73, Tryz.ntmps73
        go_wp2_with fail
        refine (H1 _).mono ?_
        rintro e w1 ⟨rfl, hb1⟩
        obtain ⟨a0, a1, a2, b0, b1, b2, d0, d1, d2, hzz⟩ := ninebox hb1
        go_wp2_with fail
        refine (H2 _).mono ?_
        rintro e w2 ⟨rfl, hb2⟩
        have hB := bstep hb1 hb2
        clear a0 a1 a2 b0 b1 b2 d0 d1 d2 hzz
        obtain ⟨a0, a1, a2, b0, b1, b2, d0, d1, d2, hzz⟩ := ninebox hB
        go_wp2_with fail
        refine (H3 _).mono ?_
        rintro e w3 ⟨rfl, hb3⟩
        have hB3 := bstep hB hb3
        clear a0 a1 a2 b0 b1 b2 d0 d1 d2 hzz
        obtain ⟨a0, a1, a2, b0, b1, b2, d0, d1, d2, hzz⟩ := ninebox hB3
        go_wp2_with fail
        refine (HS _).mono ?_
        rintro e w4 ⟨rfl, hb4⟩
        go_wp2_with fail
        go_ret
        exact ⟨ret_i64 fin1.out.symm, bstep (bstep (balloc _ _) hB3) hb4⟩
      · have fin1 : Hid (N = if sh = true then 3 else 0) := by have h : c3 = 0 := by simpa using h3
                                                               rw [fin3.out, if_pos h]; rfl
        have e3 : c3 = 0 := by simpa using h3
        subst e3
        cases sh
        all_goals
          go_enter Tryz.func73, Tryz.ntmps73
          go_wp2_with fail
          refine (H1 _).mono ?_
          rintro e w1 ⟨rfl, hb1⟩
          obtain ⟨a0, a1, a2, b0, b1, b2, d0, d1, d2, hzz⟩ := ninebox hb1
          go_wp2_with fail
          refine (H2 _).mono ?_
          rintro e w2 ⟨rfl, hb2⟩
          have hB := bstep hb1 hb2
          clear a0 a1 a2 b0 b1 b2 d0 d1 d2 hzz
          obtain ⟨a0, a1, a2, b0, b1, b2, d0, d1, d2, hzz⟩ := ninebox hB
          go_wp2_with fail
          refine (H3 _).mono ?_
          rintro e w3 ⟨rfl, hb3⟩
          have hB3 := bstep hB hb3
          clear a0 a1 a2 b0 b1 b2 d0 d1 d2 hzz
          obtain ⟨a0, a1, a2, b0, b1, b2, d0, d1, d2, hzz⟩ := ninebox hB3
          go_wp2_with fail
          refine (HS _).mono ?_
          rintro e w4 ⟨rfl, hb4⟩
          go_wp2_with fail
          go_ret
          exact ⟨ret_i64 (by rw [fin1.out]; rfl), bstep (bstep (balloc _ _) hB3) hb4⟩

/-- two boxes of nine cells, behind calls -/
theorem ninebox2 {w W : World} {T : TypeId} {o : Obj} {a0 a1 a2 b0 b1 b2 c0 c1 c2 : Value}
    (hb : Below ((w.alloc (.cells #[a0, a1, a2, b0, b1, b2, c0, c1, c2] T)).alloc o).heap.size ((w.alloc (.cells #[a0, a1, a2, b0, b1, b2, c0, c1, c2] T)).alloc o) W) :
    W.cell? ⟨w.heap.size, 0, none⟩ = some a0 ∧ W.cell? ⟨w.heap.size, 1, none⟩ = some a1 ∧ W.cell? ⟨w.heap.size, 2, none⟩ = some a2 ∧ W.cell? ⟨w.heap.size, 3, none⟩ = some b0 ∧ W.cell? ⟨w.heap.size, 4, none⟩ = some b1 ∧ W.cell? ⟨w.heap.size, 5, none⟩ = some b2 ∧ W.cell? ⟨w.heap.size, 6, none⟩ = some c0 ∧ W.cell? ⟨w.heap.size, 7, none⟩ = some c1 ∧ W.cell? ⟨w.heap.size, 8, none⟩ = some c2 ∧ w.heap.size < W.heap.size :=
  ninebox (bstep (balloc _ _) hb)
theorem ninebox2' {w W : World} {T : TypeId} {o : Obj} {a0 a1 a2 b0 b1 b2 c0 c1 c2 : Value}
    (hb : Below ((w.alloc o).alloc (.cells #[a0, a1, a2, b0, b1, b2, c0, c1, c2] T)).heap.size ((w.alloc o).alloc (.cells #[a0, a1, a2, b0, b1, b2, c0, c1, c2] T)) W) :
    W.cell? ⟨w.heap.size + 1, 0, none⟩ = some a0 ∧ W.cell? ⟨w.heap.size + 1, 1, none⟩ = some a1 ∧ W.cell? ⟨w.heap.size + 1, 2, none⟩ = some a2 ∧ W.cell? ⟨w.heap.size + 1, 3, none⟩ = some b0 ∧ W.cell? ⟨w.heap.size + 1, 4, none⟩ = some b1 ∧ W.cell? ⟨w.heap.size + 1, 5, none⟩ = some b2 ∧ W.cell? ⟨w.heap.size + 1, 6, none⟩ = some c0 ∧ W.cell? ⟨w.heap.size + 1, 7, none⟩ = some c1 ∧ W.cell? ⟨w.heap.size + 1, 8, none⟩ = some c2 ∧ w.heap.size + 1 < W.heap.size := by
  have := ninebox hb
  rw [World.size_alloc] at this
  exact this

set_option maxHeartbeats 4000000 in
set_option maxRecDepth 100000 in
theorem ROrder_any (x y : Tr) (w : World) : Calls Tryz.prog 69 #[valTr x, valTr y] w fun e w' => e = .returned (.int .i64 (cmpTr x y)) ∧ RowKit.Below w.heap.size w w' := by
  have H1 := fun W => RCompare_any x.1.1 x.1.2.1 x.1.2.2 y.1.1 y.1.2.1 y.1.2.2 W
  have H2 := fun W => RCompare_any x.2.1.1 x.2.1.2.1 x.2.1.2.2 y.2.1.1 y.2.1.2.1 y.2.1.2.2 W
  have H3 := fun W => RCompare_any x.2.2.1 x.2.2.2.1 x.2.2.2.2 y.2.2.1 y.2.2.2.1 y.2.2.2.2 W
  have fin : Hid (cmpTr x y = orI (cmpT x.1.1 x.1.2.1 x.1.2.2 y.1.1 y.1.2.1 y.1.2.2) (cmpT x.2.1.1 x.2.1.2.1 x.2.1.2.2 y.2.1.1 y.2.1.2.1 y.2.1.2.2) (cmpT x.2.2.1 x.2.2.2.1 x.2.2.2.2 y.2.2.1 y.2.2.2.1 y.2.2.2.2)) := rfl
  generalize cmpTr x y = N at *
  generalize cmpT x.1.1 x.1.2.1 x.1.2.2 y.1.1 y.1.2.1 y.1.2.2 = c1 at *
  generalize cmpT x.2.1.1 x.2.1.2.1 x.2.1.2.2 y.2.1.1 y.2.1.2.1 y.2.1.2.2 = c2 at *
  generalize cmpT x.2.2.1 x.2.2.2.1 x.2.2.2.2 y.2.2.1 y.2.2.2.1 y.2.2.2.2 = c3 at *
  unfold valTr
  cases h1 : (c1 == 0)
  · have fin1 : Hid (N = c1) := by have h : ¬ c1 = 0 := by simpa using h1
                                   rw [fin.out]; unfold orI; rw [if_neg h]; rfl
    go_enter Tryz.func69, Tryz.ntmps69
    go_wp2_with fail
    refine (H1 _).mono ?_
    rintro e w1 ⟨rfl, hb1⟩
    go_wp2_with fail
    go_ret
    exact ⟨ret_i64 fin1.out.symm, bstep (bstep (balloc _ _) (balloc _ _)) hb1⟩
  · have e1 : c1 = 0 := by simpa using h1
    cases h2 : (c2 == 0)
    · have fin1 : Hid (N = c2) := by have h : ¬ c2 = 0 := by simpa using h2
                                     rw [fin.out]; unfold orI; rw [if_pos e1, if_neg h]; rfl
      clear e1
      go_enter Tryz.func69, Tryz.ntmps69
      go_wp2_with fail
      refine (H1 _).mono ?_
      rintro e w1 ⟨rfl, hb1⟩
      obtain ⟨a0, a1, a2, b0, b1, b2, d0, d1, d2, hzz⟩ := ninebox2 hb1
      obtain ⟨a0', a1', a2', b0', b1', b2', d0', d1', d2', hzz'⟩ := ninebox2' hb1
      go_wp2_with fail
      refine (H2 _).mono ?_
      rintro e w2 ⟨rfl, hb2⟩
      go_wp2_with fail
      go_ret
      exact ⟨ret_i64 fin1.out.symm, bstep (bstep (bstep (balloc _ _) (balloc _ _)) hb1) hb2⟩
    · have e2 : c2 = 0 := by simpa using h2
      have fin1 : Hid (N = c3) := by rw [fin.out]; unfold orI; rw [if_pos e1, if_pos e2]; rfl
      clear e1 e2
      go_enter Tryz.func69, Tryz.ntmps69
      go_wp2_with fail
      refine (H1 _).mono ?_
      rintro e w1 ⟨rfl, hb1⟩
      obtain ⟨a0, a1, a2, b0, b1, b2, d0, d1, d2, hzz⟩ := ninebox2 hb1
      obtain ⟨a0', a1', a2', b0', b1', b2', d0', d1', d2', hzz'⟩ := ninebox2' hb1
      go_wp2_with fail
      refine (H2 _).mono ?_
      rintro e w2 ⟨rfl, hb2⟩
      have hB := bstep hb1 hb2
      clear a0 a1 a2 b0 b1 b2 d0 d1 d2 hzz a0' a1' a2' b0' b1' b2' d0' d1' d2' hzz'
      obtain ⟨a0, a1, a2, b0, b1, b2, d0, d1, d2, hzz⟩ := ninebox2 hB
      obtain ⟨a0', a1', a2', b0', b1', b2', d0', d1', d2', hzz'⟩ := ninebox2' hB
      go_wp2_with fail
      refine (H3 _).mono ?_
      rintro e w3 ⟨rfl, hb3⟩
      go_wp2_with fail
      go_ret
      exact ⟨ret_i64 fin1.out.symm, bstep (bstep (bstep (balloc _ _) (balloc _ _)) hB) hb3⟩

/-- eighteen cells, behind a call that turned nothing old -/
theorem keep18b {W W' : World} {p0 p1 p2 p3 p4 p5 p6 p7 p8 p9 p10 p11 p12 p13 p14 p15 p16 p17 : Addr} {v0 v1 v2 v3 v4 v5 v6 v7 v8 v9 v10 v11 v12 v13 v14 v15 v16 v17 : Value}
    (h : W.cell? p0 = some v0 ∧ W.cell? p1 = some v1 ∧ W.cell? p2 = some v2 ∧ W.cell? p3 = some v3 ∧ W.cell? p4 = some v4 ∧ W.cell? p5 = some v5 ∧ W.cell? p6 = some v6 ∧ W.cell? p7 = some v7 ∧ W.cell? p8 = some v8 ∧ W.cell? p9 = some v9 ∧ W.cell? p10 = some v10 ∧ W.cell? p11 = some v11 ∧ W.cell? p12 = some v12 ∧ W.cell? p13 = some v13 ∧ W.cell? p14 = some v14 ∧ W.cell? p15 = some v15 ∧ W.cell? p16 = some v16 ∧ W.cell? p17 = some v17) (hb : RowKit.Below W.heap.size W W') : W'.cell? p0 = some v0 ∧ W'.cell? p1 = some v1 ∧ W'.cell? p2 = some v2 ∧ W'.cell? p3 = some v3 ∧ W'.cell? p4 = some v4 ∧ W'.cell? p5 = some v5 ∧ W'.cell? p6 = some v6 ∧ W'.cell? p7 = some v7 ∧ W'.cell? p8 = some v8 ∧ W'.cell? p9 = some v9 ∧ W'.cell? p10 = some v10 ∧ W'.cell? p11 = some v11 ∧ W'.cell? p12 = some v12 ∧ W'.cell? p13 = some v13 ∧ W'.cell? p14 = some v14 ∧ W'.cell? p15 = some v15 ∧ W'.cell? p16 = some v16 ∧ W'.cell? p17 = some v17 := by
  have q : ∀ (p : Addr) (v : Value), W.cell? p = some v → W'.cell? p = some v := fun p v hv => (hb.cell (World.block_lt_of_cell? W p hv)).trans hv
  obtain ⟨h0, h1, h2, h3, h4, h5, h6, h7, h8, h9, h10, h11, h12, h13, h14, h15, h16, h17⟩ := h
  exact ⟨q _ _ h0, q _ _ h1, q _ _ h2, q _ _ h3, q _ _ h4, q _ _ h5, q _ _ h6, q _ _ h7, q _ _ h8, q _ _ h9, q _ _ h10, q _ _ h11, q _ _ h12, q _ _ h13, q _ _ h14, q _ _ h15, q _ _ h16, q _ _ h17⟩

set_option maxHeartbeats 8000000 in
set_option maxRecDepth 100000 in
theorem RSet_any (ad : Option Addr) (cap : Nat) (l : List Tr) (w : World) (h : SlT w ad l) (hfit : ∀ x ∈ l, fitTr x) (hn : l.length ≤ 9223372036854775807) :
    Calls Tryz.prog 35 #[.slice ad l.length cap] w fun e w' => e = .returned (.int .i64 (sortedN l)) ∧ RowKit.Below w.heap.size w w' := by
  have Hl : Hid (SlT w ad l) := h
  have Hf : Hid (∀ x ∈ l, fitTr x) := hfit
  clear h hfit
  by_cases h200 : 200 < l.length
  · have fin : Hid (sortedN l = 4) := if_pos h200
    have h200' : decide ((l.length : Int) > 200) = true := by simp; omega
    go_enter Tryz.func35, Tryz.ntmps35
    go_wp2
    go_ret
    exact ⟨ret_i64 (by rw [fin.out]), RowKit.Below.refl _ _⟩
  · have fin : Hid (sortedN l = firstUpto (stepN l) l.length) := if_neg h200
    have h200' : decide ((l.length : Int) > 200) = false := by simp; omega
    go_enter Tryz.func35, Tryz.ntmps35
    go_wp2_with fail
    go_loopw [3] (fun i wr => ∃ k : Nat, k ≤ l.length ∧ i = .int .i64 k ∧ firstUpto (stepN l) k = 0 ∧ RowKit.Below w.heap.size w wr) (fun i wr => l.length - (intOf i).toNat)
    case atStart => exact ⟨0, Nat.zero_le _, rfl, rfl, RowKit.Below.refl _ _⟩
    case round =>
      obtain ⟨i, hi', rfl, hz0, hbr⟩ := hrel
      have hz : Hid (firstUpto (stepN l) i = 0) := hz0
      clear hz0
      by_cases hi : i < l.length
      · obtain ⟨b, o, rfl, hr⟩ := (Hl.out.below hbr).at i hi
        obtain ⟨c0, c1, c2, c3, c4, c5, c6, c7, c8⟩ := hr.at i hi
        have Hr : Hid (RowR wr b o l) := hr
        have H := fun W => RTriple_any l[i] W (Hf.out _ (List.getElem_mem hi))
        unfold valTr at H
        have i0 : (0 : Int) ≤ (i : Int) := by omega
        have i1 : (i : Int) < (l.length : Int) := by omega
        have hnext : Hid (firstUpto (stepN l) (i + 1) = stepN l i) := by show _ = _; rw [firstUpto, if_pos hz.out]
        have hend : Hid (stepN l i ≠ 0 → sortedN l = stepN l i) := fun hne => by
          rw [fin.out, ← hnext.out]
          exact firstUpto_mono _ _ _ (by rw [hnext.out]; exact hne) hi
        clear hr
        cases hc : (chkTr l[i] == 0)
        · have fs : Hid (stepN l i = chkTr l[i]) := by simp at hc; simp [Hid, stepN, hi, hc]
          have hne : (chkTr l[i] != 0) = true := by simp [bne, hc]
          have hn0 : Hid (stepN l i ≠ 0) := by show _ ≠ _; rw [fs.out]; simpa using hc
          generalize l[i] = y at *
          go_wp2_with fail
          refine (H _).mono ?_
          rintro e w1 ⟨rfl, hb1⟩
          go_wp2_with fail
          go_ret
          exact ⟨ret_i64 (by rw [hend.out hn0.out, fs.out]), bstep hbr hb1⟩
        · have hce : chkTr l[i] = 0 := by simpa using hc
          rw [hce] at H
          by_cases h0 : i = 0
          · subst h0
            have fs : Hid (stepN l 0 = 0) := by simp [Hid, stepN, hi, hce]
            clear hc hce
            generalize l[0] = y at *
            simp only [Nat.zero_mul, Nat.add_zero] at c0 c1 c2 c3 c4 c5 c6 c7 c8
            go_wp2_with fail
            refine (H _).mono ?_
            rintro e w1 ⟨rfl, hb1⟩
            clear c0 c1 c2 c3 c4 c5 c6 c7 c8
            go_wp2_with fail
            go_region
            go_wp2
            exact ⟨⟨1, by omega, by go_num, by rw [hnext.out, fs.out], bstep hbr hb1.drew⟩, by simp [intOf]; omega⟩
          · obtain ⟨k, hk0⟩ : ∃ k, i = k + 1 := ⟨i - 1, by omega⟩
            have hk : k < l.length := by omega
            have fs : Hid (stepN l i = if 0 ≤ cmpTr l[k] l[i] then 6 else 0) := by
              subst hk0; simp [Hid, stepN, hi, hce]
            have HC := fun W => ROrder_any l[k] l[i] W
            unfold valTr at HC
            generalize cmpTr l[k] l[i] = c at HC fs
            have hwr : IntKind.i64.wrap ((i : Int) - 1) = (k : Int) := by subst hk0; simp [IntKind.wrap, IntKind.bits, IntKind.signed]; omega
            have i2 : (0 : Int) ≤ (k : Int) := by omega
            have i3 : (k : Int) < (l.length : Int) := by omega
            have hd : decide (0 < i) = true := by simp; omega
            have hd' : decide ((i : Int) > 0) = true := by simp; omega
            have Hk : Hid (i = k + 1) := hk0
            clear hk0 h0 hc hce
            go_wp2_with fail
            refine (H _).mono ?_
            rintro e w1 ⟨rfl, hb1⟩
            clear c0 c1 c2 c3 c4 c5 c6 c7 c8
            obtain ⟨c0, c1, c2, c3, c4, c5, c6, c7, c8⟩ := (Hr.out.below hb1).at i hi
            obtain ⟨d0, d1, d2, d3, d4, d5, d6, d7, d8⟩ := (Hr.out.below hb1).at k hk
            generalize l[i] = y at *
            generalize l[k] = x at *
            clear H
            cases hcc : decide (c ≥ 0)
            · have fs0 : Hid (stepN l i = 0) := by have := fs.out; simp at hcc; rw [if_neg (by omega)] at this; exact this
              go_wp2_with fail
              go_region_held3 (fun W => W.cell? ⟨b, o + k * 9, none⟩ = some (.int .i64 x.1.1) ∧ W.cell? ⟨b, o + k * 9 + 1, none⟩ = some (.string ⟨x.1.2.1.toArray⟩) ∧ W.cell? ⟨b, o + k * 9 + 2, none⟩ = some (.string ⟨x.1.2.2.toArray⟩) ∧ W.cell? ⟨b, o + k * 9 + 3, none⟩ = some (.int .i64 x.2.1.1) ∧ W.cell? ⟨b, o + k * 9 + 4, none⟩ = some (.string ⟨x.2.1.2.1.toArray⟩) ∧ W.cell? ⟨b, o + k * 9 + 5, none⟩ = some (.string ⟨x.2.1.2.2.toArray⟩) ∧ W.cell? ⟨b, o + k * 9 + 6, none⟩ = some (.int .i64 x.2.2.1) ∧ W.cell? ⟨b, o + k * 9 + 7, none⟩ = some (.string ⟨x.2.2.2.1.toArray⟩) ∧ W.cell? ⟨b, o + k * 9 + 8, none⟩ = some (.string ⟨x.2.2.2.2.toArray⟩) ∧ W.cell? ⟨b, o + i * 9, none⟩ = some (.int .i64 y.1.1) ∧ W.cell? ⟨b, o + i * 9 + 1, none⟩ = some (.string ⟨y.1.2.1.toArray⟩) ∧ W.cell? ⟨b, o + i * 9 + 2, none⟩ = some (.string ⟨y.1.2.2.toArray⟩) ∧ W.cell? ⟨b, o + i * 9 + 3, none⟩ = some (.int .i64 y.2.1.1) ∧ W.cell? ⟨b, o + i * 9 + 4, none⟩ = some (.string ⟨y.2.1.2.1.toArray⟩) ∧ W.cell? ⟨b, o + i * 9 + 5, none⟩ = some (.string ⟨y.2.1.2.2.toArray⟩) ∧ W.cell? ⟨b, o + i * 9 + 6, none⟩ = some (.int .i64 y.2.2.1) ∧ W.cell? ⟨b, o + i * 9 + 7, none⟩ = some (.string ⟨y.2.2.2.1.toArray⟩) ∧ W.cell? ⟨b, o + i * 9 + 8, none⟩ = some (.string ⟨y.2.2.2.2.toArray⟩)) (first | exact keep18b (by assumption) hb2 | go_keep) (first
                | (go_at_call 69; refine (HC _).mono ?_; rintro e w2 ⟨rfl, hb2⟩))
              go_wp2
              exact ⟨⟨i + 1, by omega, by go_num, by rw [hnext.out, fs0.out], bstep (bstep hbr hb1.drew) hb2⟩, by simp [intOf]; omega⟩
            · have fs0 : Hid (stepN l i = 6) := by have := fs.out; simp at hcc; rw [if_pos (by omega)] at this; exact this
              go_wp2_with fail
              go_region_held3 (fun W => W.cell? ⟨b, o + k * 9, none⟩ = some (.int .i64 x.1.1) ∧ W.cell? ⟨b, o + k * 9 + 1, none⟩ = some (.string ⟨x.1.2.1.toArray⟩) ∧ W.cell? ⟨b, o + k * 9 + 2, none⟩ = some (.string ⟨x.1.2.2.toArray⟩) ∧ W.cell? ⟨b, o + k * 9 + 3, none⟩ = some (.int .i64 x.2.1.1) ∧ W.cell? ⟨b, o + k * 9 + 4, none⟩ = some (.string ⟨x.2.1.2.1.toArray⟩) ∧ W.cell? ⟨b, o + k * 9 + 5, none⟩ = some (.string ⟨x.2.1.2.2.toArray⟩) ∧ W.cell? ⟨b, o + k * 9 + 6, none⟩ = some (.int .i64 x.2.2.1) ∧ W.cell? ⟨b, o + k * 9 + 7, none⟩ = some (.string ⟨x.2.2.2.1.toArray⟩) ∧ W.cell? ⟨b, o + k * 9 + 8, none⟩ = some (.string ⟨x.2.2.2.2.toArray⟩) ∧ W.cell? ⟨b, o + i * 9, none⟩ = some (.int .i64 y.1.1) ∧ W.cell? ⟨b, o + i * 9 + 1, none⟩ = some (.string ⟨y.1.2.1.toArray⟩) ∧ W.cell? ⟨b, o + i * 9 + 2, none⟩ = some (.string ⟨y.1.2.2.toArray⟩) ∧ W.cell? ⟨b, o + i * 9 + 3, none⟩ = some (.int .i64 y.2.1.1) ∧ W.cell? ⟨b, o + i * 9 + 4, none⟩ = some (.string ⟨y.2.1.2.1.toArray⟩) ∧ W.cell? ⟨b, o + i * 9 + 5, none⟩ = some (.string ⟨y.2.1.2.2.toArray⟩) ∧ W.cell? ⟨b, o + i * 9 + 6, none⟩ = some (.int .i64 y.2.2.1) ∧ W.cell? ⟨b, o + i * 9 + 7, none⟩ = some (.string ⟨y.2.2.2.1.toArray⟩) ∧ W.cell? ⟨b, o + i * 9 + 8, none⟩ = some (.string ⟨y.2.2.2.2.toArray⟩)) (first | exact keep18b (by assumption) hb2 | go_keep) (first
                | (go_at_call 69; refine (HC _).mono ?_; rintro e w2 ⟨rfl, hb2⟩))
              go_wp2
              go_ret
              exact ⟨ret_i64 (by rw [hend.out (by rw [fs0.out]; decide), fs0.out]), bstep (bstep hbr hb1.drew) hb2⟩
      · obtain rfl : i = l.length := by omega
        go_wp2_with fail
        go_ret
        exact ⟨ret_i64 (by rw [fin.out, hz.out]), hbr⟩
end Go.Proofs.YtnlcfnpcjkcdmafGreatDoor
