import Derived.Test.YtbacenhgedopjaaGreatDoorMA0x6
import Derived.Test.YtbacenhgedopjaaGreatDoorMA0x4

/- ask.varsOf: the variables of all parts, or what is wrong with them; slices.Contains at texts. -/
namespace Go.Proofs.YtbacenhgedopjaaGreatDoor
open Go Go.RowKit Go.Proofs Go.Maps
set_option synthInstance.maxSize 1000

attribute [local go_sem] eql_errV neq_errV guard_errV

theorem ContainsW_any (ad : Option Addr) (cap : Nat) (l : List (List UInt8)) (x : List UInt8) (w : World) (h : SlW w ad l) (hn : l.length ≤ 9223372036854775807) :
    Calls Tryz.prog 38 #[.slice ad l.length cap, .string ⟨x.toArray⟩] w fun e w' => e = .returned (.bool (decide (x ∈ l))) ∧ w' = w := by
  cases hl : l with
  | nil =>
    simpa using Tryz.slices_Contains_string_empty ad cap ⟨x.toArray⟩ w
  | cons c r =>
    rw [← hl]
    obtain ⟨b, o, rfl, hr⟩ := h (by rw [hl]; simp)
    refine (Tryz.slices_Contains_string b o l.length cap (l.map fun v => ⟨v.toArray⟩) ⟨x.toArray⟩ w (by simp) (by omega) ?_).mono ?_
    · intro j hj
      have hj' : j < l.length := by simpa using hj
      rw [hr j hj']
      simp [encV, List.getD_eq_getElem?_getD, List.getElem?_eq_getElem hj']
    · rintro e w' ⟨rfl, rfl⟩
      refine ⟨ret_bool ?_, rfl⟩
      rw [show l.length = (l.map fun v => (⟨v.toArray⟩ : ByteArray)).length by simp, List.take_length, Bool.eq_iff_iff, Lib.containsS_iff]
      simp only [List.mem_map, decide_eq_true_eq]
      constructor
      · rintro ⟨v, hv, e⟩
        have := congrArg (fun s : ByteArray => s.data.toList) e
        simp at this
        exact this ▸ hv
      · intro hx
        exact ⟨x, hx, rfl⟩
/-- what varsOf tells of parts -/
def vofN (L : List Pt) : Int := if 6 < L.length then 4 else if L = [] then 5 else if partsN L ≠ 0 then partsN L else if 8 < (partsV [] L).length then 4 else 0
def VofAns (L : List Pt) (w : World) (e : Ending) (w' : World) : Prop := ∃ m ad cap, e = .returned (.tuple #[.slice ad m.length cap, errV (vofN L)]) ∧ SlW w' ad m ∧ m.length ≤ 100 ∧ (vofN L = 0 → m = partsV [] L) ∧ RowKit.Below w.heap.size w w'
theorem vof_nil {L : List Pt} {w w' : World} {n : Int} (h : vofN L = n) (hn : n ≠ 0) (hb : RowKit.Below w.heap.size w w') : VofAns L w (.returned (.tuple #[.slice none 0 0, errV n])) w' :=
  ⟨[], none, 0, by rw [h]; rfl, slW_nil _ _, by simp, fun h0 => absurd (h.symm.trans h0) hn, hb⟩

set_option maxHeartbeats 16000000 in
set_option maxRecDepth 100000 in
theorem VarsOf_any (L : List Pt) (pd : Option Addr) (pc : Nat) (w : World) (h : SlPt w pd L) (hf : ∀ p ∈ L, fitPt p) (hl : L.length ≤ 9223372036854775807) :
    Calls Tryz.prog 67 #[.slice pd L.length pc] w (VofAns L w) := by
  obtain ⟨Q, hQ⟩ : ∃ Q, Q = VofAns L w := ⟨_, rfl⟩
  have HQ : Hid (∀ e w', VofAns L w e w' → Q e w') := fun e w' h => by rw [hQ]; exact h
  rw [← hQ]
  clear hQ
  by_cases h6 : 6 < L.length
  · have d1 : decide ((L.length : Int) > 6) = true := by simp; omega
    have fin := hideQ (show vofN L = 4 by unfold vofN; rw [if_pos h6])
    go_enter Tryz.func67, Tryz.ntmps67
    go_wp2_with fail
    exact HQ.out _ _ (vof_nil fin.out (by decide) (RowKit.Below.refl _ _))
  · have d1 : decide ((L.length : Int) > 6) = false := by simp; omega
    by_cases h0 : L = []
    · have d2 : ((L.length : Int) == 0) = true := by simp [h0]
      have fin := hideQ (show vofN L = 5 by unfold vofN; rw [if_neg h6, if_pos h0])
      clear h0
      go_enter Tryz.func67, Tryz.ntmps67
      go_wp2_with fail
      exact HQ.out _ _ (vof_nil fin.out (by decide) (RowKit.Below.refl _ _))
    · have d2 : ((L.length : Int) == 0) = false := by simp; exact h0
      have f1 := hideQ (fun h => show vofN L = partsN L by unfold vofN; rw [if_neg h6, if_neg h0, if_pos h])
      have f2 := hideQ (fun h h' => show vofN L = 4 by unfold vofN; rw [if_neg h6, if_neg h0, if_neg (fun k => k h), if_pos h'])
      have f3 := hideQ (fun h h' => show vofN L = 0 by unfold vofN; rw [if_neg h6, if_neg h0, if_neg (fun k => k h), if_neg h'])
      have Hp := hideQ h
      have Hf := hideQ hf
      clear h hf h0
      generalize hPN : partsN L = N at *
      have HPN := hideQ hPN
      generalize hPV : partsV [] L = V at *
      have HPV := hideQ hPV
      clear hPN hPV
      go_enter Tryz.func67, Tryz.ntmps67
      go_wp2_with fail
      go_loopw [4, 23] (fun v i wr => ∃ (k : Nat) (o : List (List UInt8)), k ≤ L.length ∧ i = .int .i64 k ∧ o.length ≤ 3 * k ∧ Hid (wr.ownsRow w.heap.size 9 1 v o.length (o.map encV)) ∧ Hid (N = partsN (L.drop k)) ∧ Hid (V = partsV o (L.drop k)) ∧ RowKit.Below w.heap.size w wr) (fun _ i wr => L.length - (intOf i).toNat)
      case atStart => exact ⟨0, [], Nat.zero_le _, rfl, by simp, World.ownsRow_nil _ _ _ _, HPN.out.symm, HPV.out.symm, RowKit.Below.refl _ _⟩
      case round =>
        obtain ⟨k, o, hk, rfl, hol, hown, hN, hV, hbr⟩ := hrel
        by_cases hlt : k < L.length
        · obtain ⟨b, off, rfl, hrow⟩ := (Hp.out.below hbr).at k hlt
          have hat := hrow.at k hlt
          have e0 := hat 0 _ rfl
          have e1 := hat 1 _ rfl
          have e2 := hat 2 _ rfl
          have e3 := hat 3 _ rfl
          have e4 := hat 4 _ rfl
          have e5 := hat 5 _ rfl
          have e6 := hat 6 _ rfl
          have e7 := hat 7 _ rfl
          have e8 := hat 8 _ rfl
          have e9 := hat 9 _ rfl
          have e10 := hat 10 _ rfl
          have e11 := hat 11 _ rfl
          rw [Nat.add_zero] at e0
          have i0 : (0 : Int) ≤ (k : Int) := by omega
          have i1 : (k : Int) < (L.length : Int) := by omega
          have hfp := Hf.out _ (List.getElem_mem hlt)
          have HR := fun W => VarsO_any L[k] W hfp
          have hd : L.drop k = L[k] :: L.drop (k + 1) := List.drop_eq_getElem_cons hlt
          rw [hd] at hN hV
          have hml := varsL_len L[k]
          clear hat hrow hd hfp
          generalize L[k] = p at *
          generalize hD : L.drop (k + 1) = D at *
          have HD := hideQ hD
          clear hD
          unfold valPt at HR
          have hzr := hbr.size
          go_wp2_with fail
          refine (HR _).mono ?_
          rintro e w2 ⟨hb2, m, md, mc, rfl, hm, hmA⟩
          dsimp only
          have hal : RowKit.Below wr.heap.size wr (wr.alloc (.cells #[.string ⟨p.1.1.toArray⟩, .int .i64 p.1.2.1, .string ⟨p.1.2.2.1.toArray⟩, .string ⟨p.1.2.2.2.toArray⟩, .string ⟨p.2.1.1.toArray⟩, .int .i64 p.2.1.2.1, .string ⟨p.2.1.2.2.1.toArray⟩, .string ⟨p.2.1.2.2.2.toArray⟩, .string ⟨p.2.2.1.toArray⟩, .int .i64 p.2.2.2.1, .string ⟨p.2.2.2.2.1.toArray⟩, .string ⟨p.2.2.2.2.2.toArray⟩] 32)) := balloc _ _
          have hB2 := bstep hbr (bstep hal hb2)
          have hown2 := hideQ (ownsRow_belowV hown.out (bstep hal hb2))
          have Hm := hideQ (own_mono hm (Nat.le_trans hzr hal.size))
          have hfar : Hid (Far2 _ (.slice md m.length mc)) := fun g h1 h2 => by
            have q1 := (hown.out.lt g h1).2
            have q2 := (hm.lt g h2).1
            have q3 := hal.size
            omega
          have hmA' : m = if varsN p = 0 then varsL p else [] := hmA
          clear HR hown hm hmA e0 e1 e2 e3 e4 e5 e6 e7 e8 e9 e10 e11 hal
          by_cases hv : varsN p = 0
          · rw [if_pos hv] at hmA'
            subst hmA'
            have hN2 : Hid (N = partsN D) := by have := hN.out; unfold partsN at this; rw [if_pos hv] at this; exact this
            have hV2 : Hid (V = partsV (addAll o (varsL p)) D) := hV.out
            rw [hv]
            clear hN hV hv
            generalize varsL p = m at *
            go_wp2_with fail
            go_loopw [4, 37] (fun v i wi => ∃ j : Nat, j ≤ m.length ∧ i = .int .i64 j ∧ Hid (wi.ownsRow w.heap.size 9 1 v (addAll o (m.take j)).length ((addAll o (m.take j)).map encV)) ∧ Hid (wi.ownsRow w.heap.size 9 1 (.slice md m.length mc) m.length (m.map encV)) ∧ Hid (Far2 v (.slice md m.length mc)) ∧ RowKit.Below w.heap.size w wi) (fun _ i wi => m.length - (intOf i).toNat)
            case atStart => exact ⟨0, Nat.zero_le _, rfl, hown2.out, Hm.out, hfar.out, hB2⟩
            case round =>
              obtain ⟨j, hj, rfl, hown3, Hm3, hfar3, hbi⟩ := hrel
              by_cases hjl : j < m.length
              · obtain ⟨md', mc', em, hmV⟩ := own_v Hm3.out
                obtain ⟨rfl, _, rfl⟩ : md = md' ∧ m.length = m.length ∧ mc = mc' := by simpa using em
                obtain ⟨mb, rfl, hmr⟩ := hmV (by intro e; rw [e] at hjl; simp at hjl)
                have c0 := hmr j hjl
                unfold encV at c0
                have j0 : (0 : Int) ≤ (j : Int) := by omega
                have j1 : (j : Int) < (m.length : Int) := by omega
                have hst := hideQ (addAll_step o m j hjl)
                have hle : (addAll o (m.take j)).length ≤ 1000 := by
                  have := addAll_len o (m.take j)
                  rw [List.length_take] at this
                  omega
                obtain ⟨ad, cap, rfl, hsl⟩ := own_v hown3.out
                have HC := ContainsW_any ad cap (addAll o (m.take j)) m[j] wr hsl.w (by omega)
                have hzi := hbi.size
                clear hmr hsl em hmV
                generalize ht : addAll o (m.take (j + 1)) = t1 at hst
                have Ht := hideQ ht
                generalize addAll o (m.take j) = t0 at *
                generalize m[j] = y at *
                clear ht
                cases hd : decide (y ∈ t0)
                · rw [hd] at HC
                  have e1 : Hid (t1 = t0 ++ [y]) := by have := hst.out; rw [if_neg (by simpa using hd)] at this; exact this
                  clear hst hd
                  go_wp2_with fail
                  refine HC.mono ?_
                  rintro e w3 ⟨rfl, hw3⟩
                  subst hw3
                  dsimp only
                  go_wp2_with (at_builtin; refine wpList_append_text _ rfl _ _ rfl w.heap.size w3.heap.size _ t0 y rfl rfl (hown3.out.alloc _) (by go_simp) (by omega) (by simp; omega) ?_; intro v' w4 hv4 hg4 hat4)
                  have hal : RowKit.Below w3.heap.size w3 (w3.alloc (.cells #[.string ⟨y.toArray⟩] 9)) := balloc _ _
                  have hbel : RowKit.Below w.heap.size w w4 := (bstep hbi hal).grown hg4 (by simp; omega) (fun g hg => (hown3.out.lt g hg).1)
                  have hm4 := hideQ ((ownsRow_belowV Hm3.out hal).kept hg4 hfar3.out.out)
                  have hfar4 := hideQ (hfar3.out.grow (ownsRow_belowV Hm3.out hal) hat4)
                  have hv5 := hideQ hv4
                  clear hv4 hg4 hat4 c0 HC
                  go_wp2_with fail
                  go_roundw
                  case rel =>
                    refine ⟨j + 1, by omega, by go_num, ?_, hm4, hfar4, hbel⟩
                    show World.ownsRow _ _ _ _ _ _ _
                    rw [Ht.out, e1.out]
                    exact hv5.out
                  case measure => simp [intOf]; omega
                · rw [hd] at HC
                  have e1 : Hid (t1 = t0) := by have := hst.out; rw [if_pos (by simpa using hd)] at this; exact this
                  clear hst hd
                  go_wp2_with fail
                  refine HC.mono ?_
                  rintro e w3 ⟨rfl, hw3⟩
                  subst hw3
                  dsimp only
                  clear HC c0
                  go_wp2_with fail
                  go_roundw
                  case rel =>
                    refine ⟨j + 1, by omega, by go_num, ?_, Hm3, hfar3, hbi⟩
                    show World.ownsRow _ _ _ _ _ _ _
                    rw [Ht.out, e1.out]
                    exact hown3.out
                  case measure => simp [intOf]; omega
              · obtain rfl : j = m.length := by omega
                have ho4 := hown3.out
                rw [List.take_length] at ho4
                have Ho4 := hideQ ho4
                have hle := addAll_len o m
                clear ho4 hown3
                go_wp2_with fail
                go_roundw
                case rel =>
                  refine ⟨k + 1, addAll o m, by omega, by go_num, by omega, Ho4, ?_, ?_, hbi⟩
                  · show _ = _
                    rw [HD.out]; exact hN2.out
                  · show _ = _
                    rw [HD.out]; exact hV2.out
                case measure => simp [intOf]; omega
          · have hN2 : Hid (N = varsN p) := by have := hN.out; unfold partsN at this; rw [if_neg hv] at this; exact this
            rw [if_neg hv] at hmA'
            subst hmA'
            have hne : (varsN p == 0) = false := by simpa using hv
            have hne2 : (varsN p != 0) = true := by simpa using hv
            have Hv := hideQ hv
            generalize varsN p = c at *
            clear hN hV hv Hm hown2
            go_wp2_with fail
            exact HQ.out _ _ (vof_nil ((f1.out (by rw [hN2.out]; exact Hv.out)).trans hN2.out) Hv.out hB2)
        · obtain rfl : k = L.length := by omega
          have hN2 : Hid (N = 0) := by have := hN.out; rw [List.drop_length] at this; exact this
          have hV2 : Hid (V = o) := by have := hV.out; rw [List.drop_length] at this; exact this
          obtain ⟨ad, cap, rfl, hsl⟩ := own_v hown.out
          have Hsl := hideQ hsl
          clear hsl hown hN hV
          by_cases h8 : 8 < o.length
          · have d3 : decide ((o.length : Int) > 8) = true := by simp; omega
            have fin := hideQ (f2.out hN2.out (by rw [hV2.out]; exact h8))
            go_wp2_with fail
            exact HQ.out _ _ (vof_nil fin.out (by decide) hbr)
          · have d3 : decide ((o.length : Int) > 8) = false := by simp; omega
            have fin := hideQ (f3.out hN2.out (by rw [hV2.out]; exact h8))
            go_wp2_with fail
            exact HQ.out _ _ ⟨o, ad, cap, by rw [fin.out]; rfl, Hsl.out.w, by omega, fun _ => hV2.out.symm.trans HPV.out.symm, hbr⟩
end Go.Proofs.YtbacenhgedopjaaGreatDoor

/- ask.varsFault, ask.Check; slices.ContainsFunc at texts with whatever test. -/
namespace Go.Proofs.YtbacenhgedopjaaGreatDoor
open Go Go.RowKit Go.Proofs Go.Maps
set_option synthInstance.maxSize 1000

attribute [local go_sem] eql_errV neq_errV guard_errV

/-- what is asked of a test of texts -/
def PredT (g : Nat) (lb : Array Value) (p : List UInt8 → Bool) (w : World) : Prop :=
  ∀ (W : World) (x : List UInt8), RowKit.Below w.heap.size w W → Calls Tryz.prog g (#[.string ⟨x.toArray⟩] ++ lb) W fun e w' => e = .returned (.bool (p x)) ∧ RowKit.Below W.heap.size W w'
theorem anyT_hit {l : List (List UInt8)} {p : List UInt8 → Bool} {k : Nat} (hk : k < l.length) (h : p l[k] = true) : l.any p = true := by
  rw [List.any_eq_true]
  exact ⟨_, List.getElem_mem hk, h⟩
theorem anyT_miss {l : List (List UInt8)} {p : List UInt8 → Bool} (h : ∀ (j : Nat) (hj : j < l.length), p l[j] = false) : l.any p = false := by
  rw [List.any_eq_false]
  intro x hx
  obtain ⟨j, hj, rfl⟩ := List.getElem_of_mem hx
  rw [h j hj]
  simp
set_option maxHeartbeats 4000000 in
set_option maxRecDepth 100000 in
theorem TIndex_any (g : Nat) (lb : Array Value) (p : List UInt8 → Bool) (w : World) (ad : Option Addr) (ca : Nat) (l : List (List UInt8)) (eg : ∀ args w, (callFunc g args).run Tryz.prog w = .ok (.enter g args) w) (hp : PredT g lb p w) (hs : SlW w ad l) (hl : l.length ≤ 9223372036854775807) :
    Calls Tryz.prog 121 #[.slice ad l.length ca, .func (.func g) #[] lb] w fun e w' => (∃ r : Int, e = .returned (.int .i64 r) ∧ decide (0 ≤ r) = l.any p) ∧ RowKit.Below w.heap.size w w' := by
  have H := hideQ hp
  have HS := hideQ hs
  clear hp hs
  go_enter Tryz.func121, Tryz.ntmps121
  go_wp2_with fail
  go_loopw [8] (fun i wr => ∃ (k : Nat), k ≤ l.length ∧ i = .int .i64 k ∧ RowKit.Below w.heap.size w wr ∧ Hid (∀ (j : Nat) (hj : j < l.length), j < k → p l[j] = false)) (fun i wr => l.length - (intOf i).toNat)
  case atStart => exact ⟨0, Nat.zero_le _, rfl, RowKit.Below.refl _ w, fun j hj h0 => by omega⟩
  case round =>
    obtain ⟨k, hk, rfl, hbr, hall⟩ := hrel
    by_cases hlt : k < l.length
    · obtain ⟨b, o, rfl, hc⟩ := (HS.out.below hbr).at k hlt
      have hcall := H.out wr l[k] hbr
      have i0 : (0 : Int) ≤ (k : Int) := by omega
      have i1 : (k : Int) < (l.length : Int) := by omega
      have HV : Hid (∀ q, p l[k] = q → (q = false → (∀ (j : Nat) (hj : j < l.length), j < k + 1 → p l[j] = false)) ∧ (q = true → l.any p = true)) := by
        intro q hq
        refine ⟨fun e j hj h1 => ?_, fun e => anyT_hit hlt (hq.trans e)⟩
        by_cases ej : j = k
        · subst ej; exact hq.trans e
        · exact hall.out j hj (by omega)
      cases hq : p l[k] with
      | false =>
        rw [hq] at hcall
        have hnext : Hid (∀ (j : Nat) (hj : j < l.length), j < k + 1 → p l[j] = false) := (HV.out _ hq).1 rfl
        clear HV hq hall
        generalize l[k] = z at *
        go_wp2_with (go_at_fn g; refine hcall.mono ?_; rintro e w' ⟨rfl, hb'⟩; dsimp only)
        go_roundw
        case rel => exact ⟨k + 1, by omega, by go_num, bstep hbr hb', hnext⟩
        case measure => simp [intOf]; omega
      | true =>
        rw [hq] at hcall
        have hno2 : Hid (l.any p = true) := (HV.out _ hq).2 rfl
        clear HV hq hall
        generalize l[k] = z at *
        go_wp2_with (go_at_fn g; refine hcall.mono ?_; rintro e w' ⟨rfl, hb'⟩; dsimp only)
        go_ret
        exact ⟨⟨(k : Int), rfl, by rw [hno2.out]; simp⟩, bstep hbr hb'⟩
    · have hkk : k = l.length := by omega
      have hyes : Hid (l.any p = false) := anyT_miss fun j hj => hall.out j hj (by omega)
      subst hkk
      clear hall
      go_wp2_with fail
      go_ret
      exact ⟨⟨-1, rfl, by rw [hyes.out]; rfl⟩, hbr⟩
set_option maxHeartbeats 1000000 in
theorem TContains_any (g : Nat) (lb : Array Value) (p : List UInt8 → Bool) (w : World) (ad : Option Addr) (ca : Nat) (l : List (List UInt8)) (eg : ∀ args w, (callFunc g args).run Tryz.prog w = .ok (.enter g args) w) (hp : PredT g lb p w) (hs : SlW w ad l) (hl : l.length ≤ 9223372036854775807) :
    Calls Tryz.prog 97 #[.slice ad l.length ca, .func (.func g) #[] lb] w fun e w' => e = .returned (.bool (l.any p)) ∧ RowKit.Below w.heap.size w w' := by
  have hc := TIndex_any g lb p w ad ca l eg hp hs hl
  clear hp hs
  generalize l.any p = q at *
  go_enter Tryz.func97, Tryz.ntmps97
  go_wp2_with fail
  refine hc.mono ?_
  rintro e w1 ⟨⟨r, rfl, hr⟩, hb1⟩
  dsimp only
  go_wp2_with fail
  go_ret
  exact ⟨rfl, hb1⟩
theorem vfault1_any (V : List (List UInt8)) (vd : Option Addr) (vc b : Nat) (x : List UInt8) (W : World) (hb : W.cell? ⟨b, 0, none⟩ = some (.slice vd V.length vc)) (hs : SlW W vd V) (hl : V.length ≤ 100) :
    Calls Tryz.prog 96 #[.string ⟨x.toArray⟩, .pointer (some ⟨b, 0, none⟩)] W fun e w' => e = .returned (.bool (!decide (x ∈ V))) ∧ RowKit.Below W.heap.size W w' := by
  have HC := ContainsW_any vd vc V x W hs (by omega)
  generalize decide (x ∈ V) = d at *
  go_enter Tryz.func96, Tryz.ntmps96
  go_wp2_with fail
  refine HC.mono ?_
  rintro e w1 ⟨rfl, hw1⟩
  subst hw1
  dsimp only
  go_wp2_with fail
  go_ret
  exact ⟨rfl, RowKit.Below.refl _ _⟩
theorem entersVF : ∀ args w, (callFunc 96 args).run Tryz.prog w = .ok (.enter 96 args) w := enters_of Tryz.func96 (by kernel_rfl) rfl
/-- what is wrong with the variables that are told -/
def faultV (T V : List (List UInt8)) : Int := if T = [] then 5 else if (∃ v ∈ T, v ∉ V) then 5 else if ¬ T.Nodup then 7 else 0
theorem any_out {T V : List (List UInt8)} : T.any (fun x => !decide (x ∈ V)) = decide (∃ v ∈ T, v ∉ V) := by
  rw [Bool.eq_iff_iff, List.any_eq_true, decide_eq_true_eq]
  constructor
  · rintro ⟨x, hx, h⟩
    exact ⟨x, hx, by simpa using h⟩
  · rintro ⟨x, hx, h⟩
    exact ⟨x, hx, by simpa using h⟩
set_option maxHeartbeats 4000000 in
set_option maxRecDepth 100000 in
theorem VarsFault_any (T V : List (List UInt8)) (td vd : Option Addr) (tc vc : Nat) (w : World) (hT : SlW w td T) (hV : SlW w vd V) (hl : T.length ≤ 9223372036854775807) (htc : T.length ≤ tc) (hv : V.length ≤ 100) :
    Calls Tryz.prog 68 #[.slice td T.length tc, .slice vd V.length vc] w fun e w' => e = .returned (errV (faultV T V)) ∧ RowKit.Below w.heap.size w w' := by
  obtain ⟨w0, hw0⟩ : ∃ w0, w0 = w.alloc (.cells #[.slice vd V.length vc] 23) := ⟨_, rfl⟩
  have hb0 : RowKit.Below w.heap.size w w0 := by rw [hw0]; exact balloc _ _
  have c0 : w0.cell? ⟨w.heap.size, 0, none⟩ = some (.slice vd V.length vc) := by rw [hw0]; go_simp
  have hT0 := hideQ (hT.below hb0)
  have HC := TContains_any 96 #[.pointer (some ⟨w.heap.size, 0, none⟩)] (fun x => !decide (x ∈ V)) w0 td tc T entersVF (fun W x hW => vfault1_any V vd vc w.heap.size x W ((hW.cell (World.block_lt_of_cell? w0 _ c0)).trans c0) ((hV.below hb0).below hW) hv) hT0.out hl
  rw [any_out] at HC
  have HW := hideQ hw0
  have hF : Hid (faultV T V = if T = [] then 5 else if (∃ v ∈ T, v ∉ V) then 5 else if ¬ T.Nodup then 7 else 0) := rfl
  clear hw0 hT hV c0
  generalize faultV T V = F at *
  by_cases h0 : T = []
  · have d2 : ((T.length : Int) == 0) = true := by simp [h0]
    have fin : Hid (F = 5) := by show _ = _; rw [hF.out, if_pos h0]
    clear h0 HC
    go_enter Tryz.func68, Tryz.ntmps68
    go_wp2_with fail
    go_ret
    exact ⟨ret_val (by rw [fin.out]; rfl), by rw [← HW.out]; exact hb0⟩
  · have d2 : ((T.length : Int) == 0) = false := by simp; exact h0
    by_cases h1 : ∃ v ∈ T, v ∉ V
    · rw [decide_eq_true h1] at HC
      have fin : Hid (F = 5) := by show _ = _; rw [hF.out, if_neg h0, if_pos h1]
      clear h0 h1
      go_enter Tryz.func68, Tryz.ntmps68
      go_wp2_with fail
      rw [← HW.out]
      refine HC.mono ?_
      rintro e w1 ⟨rfl, hb1⟩
      dsimp only
      go_wp2_with fail
      go_ret
      exact ⟨ret_val (by rw [fin.out]; rfl), bstep hb0 hb1⟩
    · rw [decide_eq_false h1] at HC
      have hF2 : Hid (F = if ¬ T.Nodup then 7 else 0) := by show _ = _; rw [hF.out, if_neg h0, if_neg h1]
      clear h0 h1 hF
      go_enter Tryz.func68, Tryz.ntmps68
      go_wp2_with fail
      rw [← HW.out]
      refine HC.mono ?_
      rintro e w1 ⟨rfl, hb1⟩
      dsimp only
      have hT1 := hideQ (hT0.out.below hb1)
      go_wp2_with fail
      go_loop [20] (fun i => ∃ k : Nat, k ≤ T.length ∧ i = .int .i64 k ∧ Hid ((T.take k).Nodup)) (fun i => T.length - (intOf i).toNat)
      case atStart => exact ⟨0, Nat.zero_le _, rfl, by show List.Nodup _; simp⟩
      case round =>
        obtain ⟨k, hk, rfl, hnd⟩ := hrel
        by_cases hlt : k < T.length
        · obtain ⟨b, off, rfl, ck⟩ := hT1.out.at k hlt
          have i0 : (0 : Int) ≤ (k : Int) := by omega
          have i1 : (k : Int) < (T.length : Int) := by omega
          have i2 : (k : Int) ≤ (tc : Int) := by omega
          have hlen : (T.take k).length = k := by rw [List.length_take]; omega
          have HH := ContainsW_any (some ⟨b, off, none⟩) tc (T.take k) T[k] w1 (hT1.out.take k) (by rw [hlen]; omega)
          rw [hlen] at HH
          cases hd : decide (T[k] ∈ T.take k)
          · rw [hd] at HH
            have hnd2 := hideQ (nodup_take hnd.out hlt (by simpa using hd))
            clear hd hnd hlen
            go_wp2_with fail
            refine HH.mono ?_
            rintro e w3 ⟨rfl, hw3⟩
            subst hw3
            dsimp only
            go_wp2_with fail
            exact ⟨⟨k + 1, by omega, by go_num, hnd2⟩, by simp [intOf]; omega⟩
          · rw [hd] at HH
            have fin : Hid (F = 7) := by show _ = _; rw [hF2.out, if_pos (not_nodup hlt (of_decide_eq_true hd))]
            clear hd hnd hlen
            go_wp2_with fail
            refine HH.mono ?_
            rintro e w3 ⟨rfl, hw3⟩
            subst hw3
            dsimp only
            go_wp2_with fail
            go_ret
            exact ⟨ret_val (by rw [fin.out]; rfl), bstep hb0 hb1⟩
        · obtain rfl : k = T.length := by omega
          have hnd' := hnd.out
          rw [List.take_length] at hnd'
          have fin : Hid (F = 0) := by show _ = _; rw [hF2.out, if_neg (fun h => h hnd')]
          clear hnd hnd'
          go_wp2_with fail
          go_ret
          exact ⟨ret_val (by rw [fin.out]; rfl), bstep hb0 hb1⟩
/-! ### Check -/
theorem ask_vof {q : Qu} (h : vofN q.parts ≠ 0) : askN q = vofN q.parts := by
  unfold vofN at h ⊢
  unfold askN
  by_cases h1 : 6 < q.parts.length
  · rw [if_pos h1, if_pos h1]
  · rw [if_neg h1] at h ⊢
    rw [if_neg h1]
    by_cases h2 : q.parts = []
    · rw [if_pos h2, if_pos h2]
    · rw [if_neg h2] at h ⊢
      rw [if_neg h2]
      by_cases h3 : partsN q.parts ≠ 0
      · rw [if_pos h3, if_pos h3]
      · rw [if_neg h3] at h ⊢
        rw [if_neg h3]
        by_cases h4 : 8 < (partsV [] q.parts).length
        · rw [if_pos h4, if_pos h4]
        · rw [if_neg h4] at h
          exact absurd rfl h
theorem ask_fault {q : Qu} (h : vofN q.parts = 0) : askN q = if faultV q.vars (partsV [] q.parts) ≠ 0 then faultV q.vars (partsV [] q.parts) else askE q := by
  unfold vofN at h
  have h1 : ¬ 6 < q.parts.length := fun k => by rw [if_pos k] at h; cases h
  rw [if_neg h1] at h
  have h2 : ¬ q.parts = [] := fun k => by rw [if_pos k] at h; cases h
  rw [if_neg h2] at h
  have h3 : partsN q.parts = 0 := Classical.byContradiction fun k => by rw [if_pos k] at h; exact k h
  rw [if_neg (fun k => k h3)] at h
  have h4 : ¬ 8 < (partsV [] q.parts).length := fun k => by rw [if_pos k] at h; cases h
  rw [ask_tail h1 h2 h3]
  unfold faultV
  by_cases h5 : q.vars = []
  · rw [if_pos h5, askT_nil h4 h5]; rfl
  · by_cases h6 : ∃ v ∈ q.vars, v ∉ partsV [] q.parts
    · rw [if_neg h5, if_pos h6, askT_out h4 h5 h6]; rfl
    · have h6' : ∀ v ∈ q.vars, v ∈ partsV [] q.parts := fun v hv => Classical.byContradiction fun k => h6 ⟨v, hv, k⟩
      by_cases h7 : q.vars.Nodup
      · have hz : (if ¬ q.vars.Nodup then (7 : Int) else 0) = 0 := if_neg (fun k => k h7)
        rw [if_neg h5, if_neg h6, hz, askT_end h4 h5 h6' h7]
        rfl
      · have hz : (if ¬ q.vars.Nodup then (7 : Int) else 0) = 7 := if_pos h7
        rw [if_neg h5, if_neg h6, hz, askT_twice h4 h5 h6' h7]
        rfl

attribute [local go_sem ↓] eqlEmpty neqEmpty
set_option maxHeartbeats 8000000 in
set_option maxRecDepth 100000 in
theorem CheckO_any (q : Qu) (vd pd : Option Addr) (vc pc : Nat) (w : World) (h : QuIn w q vd pd) (hf : FitQ q) (hvc : q.vars.length ≤ vc) :
    Calls Tryz.prog 44 #[valQ q vd vc pd pc] w fun e w' => e = .returned (errV (askN q)) ∧ RowKit.Below w.heap.size w w' := by
  obtain ⟨w1, hw1⟩ : ∃ w1, w1 = w.alloc (.cells #[.slice vd q.vars.length vc, .slice pd q.parts.length pc, .string ⟨q.order.toArray⟩, .bool q.down, .bool q.dist, .int .i64 q.lim] 26) := ⟨_, rfl⟩
  have hb1 : RowKit.Below w.heap.size w w1 := by rw [hw1]; exact balloc _ _
  have HB : Hid (BoxQ w1 w.heap.size q vd pd vc pc) := by show BoxQ _ _ _ _ _ _ _; rw [hw1]; exact boxQ_new _ _ _ _ _ _
  have Hin := hideQ (h.below hb1)
  have HV := VarsOf_any q.parts pd pc w1 (Hin.out.parts) hf.pt hf.pl
  have HF := fun W V ad cap hW hV hv => VarsFault_any q.vars V vd ad vc cap W (Hin.out.vars.below hW) hV hf.vl hvc hv
  have HO := fun W hW => ContainsW_any vd vc q.vars q.order W (Hin.out.vars.below hW) hf.vl
  have hN1 := hideQ (fun h => ask_vof (q := q) h)
  have hN2 := hideQ (fun h => ask_fault (q := q) h)
  have hE : Hid (askE q = if q.order ≠ [] ∧ q.order ∉ q.vars then 5 else if q.down = true ∧ q.order = [] then 3 else if q.lim < -1 ∨ 500 < q.lim then 1 else 0) := rfl
  have HW := hideQ hw1
  unfold valQ
  clear h hf hw1
  unfold VofAns at HV
  generalize askN q = N at *
  generalize askE q = E at *
  generalize vofN q.parts = vn at *
  go_enter Tryz.func44, Tryz.ntmps44
  go_upto_region 1 with fail
  rw [← HW.out]
  obtain ⟨c0, c1, c2, c3, c4, c5⟩ := HB.out
  go_wp2_with fail
  refine HV.mono ?_
  rintro e w2 ⟨m, ad, cap, rfl, hm, hml, hme, hb2⟩
  dsimp only
  clear HV c0 c1 c2 c3 c4 c5
  by_cases h0 : vn = 0
  · subst h0
    have em := hme rfl
    have HFW := HF w2 m ad cap hb2 hm hml
    have hN3 := hideQ (hN2.out rfl)
    rw [← em] at hN3
    obtain ⟨c0, c1, c2, c3, c4, c5⟩ := HB.out.below hb2
    clear HF hme em hN1 hN2
    generalize faultV q.vars m = fn at *
    go_wp2_with fail
    refine HFW.mono ?_
    rintro e w3 ⟨rfl, hb3⟩
    dsimp only
    clear c0 c1 c2 c3 c4 c5 HFW
    by_cases h1 : fn = 0
    · subst h1
      have hN4 : Hid (N = E) := by show _ = _; rw [hN3.out]; rfl
      have hB3 := bstep hb2 hb3
      obtain ⟨c0, c1, c2, c3, c4, c5⟩ := HB.out.below hB3
      have HC := HO w3 hB3
      have hBB := bstep hb1 hB3
      clear HO hN3
      cases ho : q.order.isEmpty with
      | true =>
        have ho' : q.order = [] := by simpa using ho
        have e1 : Hid (E = if q.down = true then 3 else if q.lim < -1 ∨ 500 < q.lim then 1 else 0) := by show _ = _; rw [hE.out, if_neg (fun k => k.1 ho')]; simp [ho']
        clear hE HC ho'
        cases hd : q.down with
        | true =>
          have fin : Hid (N = 3) := by show _ = _; rw [hN4.out, e1.out, if_pos hd]
          rw [hd] at c3
          go_wp2_with fail
          go_ret
          exact ⟨ret_val (by rw [fin.out]; rfl), hBB⟩
        | false =>
          have e2 : Hid (E = if q.lim < -1 ∨ 500 < q.lim then 1 else 0) := by show _ = _; rw [e1.out, if_neg (by rw [hd]; simp)]
          rw [hd] at c3
          clear e1
          by_cases l1 : q.lim < -1
          · have dl : decide (q.lim < -1) = true := by simpa using l1
            have fin : Hid (N = 1) := by show _ = _; rw [hN4.out, e2.out, if_pos (Or.inl l1)]
            clear l1
            go_wp2_with fail
            go_ret
            exact ⟨ret_val (by rw [fin.out]; rfl), hBB⟩
          · have dl : decide (q.lim < -1) = false := by simpa using l1
            by_cases l2 : 500 < q.lim
            · have dm : decide (q.lim > 500) = true := by simpa using l2
              have fin : Hid (N = 1) := by show _ = _; rw [hN4.out, e2.out, if_pos (Or.inr l2)]
              clear l1 l2
              go_wp2_with fail
              go_ret
              exact ⟨ret_val (by rw [fin.out]; rfl), hBB⟩
            · have dm : decide (q.lim > 500) = false := by simpa using l2
              have fin : Hid (N = 0) := by show _ = _; rw [hN4.out, e2.out, if_neg (by omega)]
              clear l1 l2
              go_wp2_with fail
              go_ret
              exact ⟨ret_val (by rw [fin.out]; rfl), hBB⟩
      | false =>
        have ho' : q.order ≠ [] := by simpa using ho
        cases hm2 : decide (q.order ∈ q.vars) with
        | false =>
          have fin : Hid (N = 5) := by show _ = _; rw [hN4.out, hE.out, if_pos ⟨ho', by simpa using hm2⟩]
          rw [hm2] at HC
          clear ho' hm2 hE
          go_wp2_with fail
          refine HC.mono ?_
          rintro e w4 ⟨rfl, hw4⟩
          subst hw4
          dsimp only
          go_wp2_with fail
          go_ret
          exact ⟨ret_val (by rw [fin.out]; rfl), hBB⟩
        | true =>
          have e2 : Hid (E = if q.lim < -1 ∨ 500 < q.lim then 1 else 0) := by show _ = _; rw [hE.out, if_neg (fun k => k.2 (of_decide_eq_true hm2)), if_neg (fun k => ho' k.2)]
          rw [hm2] at HC
          clear ho' hm2 hE
          go_wp2_with fail
          refine HC.mono ?_
          rintro e w4 ⟨rfl, hw4⟩
          subst hw4
          dsimp only
          by_cases l1 : q.lim < -1
          · have dl : decide (q.lim < -1) = true := by simpa using l1
            have fin : Hid (N = 1) := by show _ = _; rw [hN4.out, e2.out, if_pos (Or.inl l1)]
            clear l1
            cases hd : q.down
            all_goals
              rw [hd] at c3
              go_wp2_with fail
              go_ret
              exact ⟨ret_val (by rw [fin.out]; rfl), hBB⟩
          · have dl : decide (q.lim < -1) = false := by simpa using l1
            by_cases l2 : 500 < q.lim
            · have dm : decide (q.lim > 500) = true := by simpa using l2
              have fin : Hid (N = 1) := by show _ = _; rw [hN4.out, e2.out, if_pos (Or.inr l2)]
              clear l1 l2
              cases hd : q.down
              all_goals
                rw [hd] at c3
                go_wp2_with fail
                go_ret
                exact ⟨ret_val (by rw [fin.out]; rfl), hBB⟩
            · have dm : decide (q.lim > 500) = false := by simpa using l2
              have fin : Hid (N = 0) := by show _ = _; rw [hN4.out, e2.out, if_neg (by omega)]
              clear l1 l2
              cases hd : q.down
              all_goals
                rw [hd] at c3
                go_wp2_with fail
                go_ret
                exact ⟨ret_val (by rw [fin.out]; rfl), hBB⟩
    · have hne : (fn == 0) = false := by simpa using h1
      have hne2 : (fn != 0) = true := by simpa using h1
      have fin : Hid (N = fn) := by show _ = _; rw [hN3.out, if_pos h1]
      clear h1 hN3
      go_wp2_with fail
      go_ret
      exact ⟨ret_val (by rw [fin.out]; rfl), bstep hb1 (bstep hb2 hb3)⟩
  · have hne : (vn == 0) = false := by simpa using h0
    have hne2 : (vn != 0) = true := by simpa using h0
    have fin := hideQ (hN1.out h0)
    clear h0 hN1 hN2 hme
    go_wp2_with fail
    go_ret
    exact ⟨ret_val (by rw [fin.out]; rfl), bstep hb1 hb2⟩
end Go.Proofs.YtbacenhgedopjaaGreatDoor

/- All answers, each once, and so the same in whatever order the parts are taken; plain lists, no program. -/
namespace Go.Proofs.YtbacenhgedopjaaGreatDoor
open Go Go.RowKit Go.Proofs
set_option synthInstance.maxSize 1000

/-! ### an assignment -/
def okG (f : List UInt8 → Option Tm) (s : Sl) (x : Tm) : Prop := if s.1 = [] then x = s.2 else f s.1 = some x
def fitG (f : List UInt8 → Option Tm) (p : Pt) (t : Tr) : Prop := okG f p.1 t.1 ∧ okG f p.2.1 t.2.1 ∧ okG f p.2.2 t.2.2
def HoldsG (S : List Tr) (f : List UInt8 → Option Tm) (p : Pt) : Prop := ∃ t ∈ S, fitG f p t
theorem okG_one {f : List UInt8 → Option Tm} {s : Sl} {x y : Tm} (h : okG f s x) (k : okG f s y) : x = y := by
  unfold okG at h k
  split at h
  · rename_i h0; rw [if_pos h0] at k; rw [h, k]
  · rename_i h0; rw [if_neg h0] at k; exact Option.some.inj (h.symm.trans k)
theorem fitG_one {f : List UInt8 → Option Tm} {p : Pt} {t u : Tr} (h : fitG f p t) (k : fitG f p u) : t = u :=
  Prod.ext (okG_one h.1 k.1) (Prod.ext (okG_one h.2.1 k.2.1) (okG_one h.2.2 k.2.2))
/-- a triple that fits a part with what is bound is at its slots, behind what it tells -/
theorem fits_at {S : List Tr} {vars : List (List UInt8)} {r : List Tm} {p : Pt} {t : Tr} (hl : r.length = vars.length) (ht : t ∈ matchP S (bindP vars r p)) : fitG (boundT (vars ++ freshV vars p) (extR vars p r t)) p t := by
  have h1 : t ∈ matchP [t] (bindP vars r p) := List.mem_filter.2 ⟨by simp, (List.mem_filter.1 ht).2⟩
  obtain ⟨u, hu, k⟩ := fits_holds hl h1
  have e : u = t := by simpa using hu
  subst e
  exact k
/-- and what is there at a part's slots fits it with what is bound -/
theorem fits_of {vars : List (List UInt8)} {r : List Tm} {f : List UInt8 → Option Tm} {p : Pt} {t : Tr} (hf : ∀ v x, boundT vars r v = some x → f v = some x) (h : fitG f p t) : fitsB (bindP vars r p) t = true := by
  obtain ⟨h1, h2, h3⟩ := h
  have key : ∀ (s : Sl) (x : Tm), okG f s x → (bindS vars r s = ([], x)) ∨ (s.1 ≠ [] ∧ bindS vars r s = s ∧ f s.1 = some x) := fun s x h => by
    unfold okG at h
    by_cases h0 : s.1 = []
    · rw [if_pos h0] at h
      left
      rw [bindS_none (by rw [h0]; exact bound_empty _ _)]
      obtain ⟨a, b⟩ := s
      simp only at h0 h
      rw [h0, h]
    · rw [if_neg h0] at h
      cases hb : boundT vars r s.1 with
      | some y => exact Or.inl (by rw [bindS_some hb]; rw [Option.some.inj ((hf _ _ hb).symm.trans h)])
      | none => exact Or.inr ⟨h0, bindS_none hb, h⟩
  have two : ∀ {s s' : Sl} {x x' : Tm}, f s.1 = some x → f s'.1 = some x' → s.1 = s'.1 → x = x' := fun h h' e => by
    rw [e] at h
    exact Option.some.inj (h.symm.trans h')
  unfold fitsB bindP
  simp only [Bool.and_eq_true]
  refine ⟨?_, ?_, ?_⟩
  · rcases key _ _ h1 with e | ⟨n1, e, b1⟩
    · rw [e]; simp
    · rw [e, if_neg n1]
  · rcases key _ _ h2 with e | ⟨n2, e, b2⟩
    · rw [e]; simp
    · rw [e, if_neg n2]
      rcases key _ _ h1 with e1 | ⟨n1, e1, b1⟩
      · rw [e1, if_neg n2]
      · rw [e1]
        split
        · rename_i he; exact decide_eq_true (two b2 b1 he)
        · rfl
  · rcases key _ _ h3 with e | ⟨n3, e, b3⟩
    · rw [e]; simp
    · rw [e, if_neg n3]
      rcases key _ _ h1 with e1 | ⟨n1, e1, b1⟩
      · rw [e1, if_neg n3]
        rcases key _ _ h2 with e2 | ⟨n2, e2, b2⟩
        · rw [e2, if_neg n3]
        · rw [e2]
          split
          · rename_i he; exact decide_eq_true (two b3 b2 he)
          · rfl
      · rw [e1]
        split
        · rename_i he; exact decide_eq_true (two b3 b1 he)
        · rcases key _ _ h2 with e2 | ⟨n2, e2, b2⟩
          · rw [e2, if_neg n3]
          · rw [e2]
            split
            · rename_i he; exact decide_eq_true (two b3 b2 he)
            · rfl

/-! ### what an answer's list of variables and terms says -/
theorem bound_mem_v : ∀ {vars : List (List UInt8)} {r : List Tm} {s : List UInt8} {x : Tm}, boundT vars r s = some x → s ∈ vars ∧ s ≠ []
  | [], _, _, _, h => by simp [boundT] at h
  | v :: vs, [], _, _, h => by simp [boundT] at h
  | v :: vs, t :: r, s, x, h => by
    simp only [boundT] at h
    split at h
    · rename_i hc; exact ⟨by rw [hc.1]; simp, hc.2⟩
    · obtain ⟨h1, h2⟩ := bound_mem_v h
      exact ⟨List.mem_cons_of_mem _ h1, h2⟩
theorem bound_some {vars : List (List UInt8)} {r : List Tm} (hl : r.length = vars.length) {v : List UInt8} (h0 : v ≠ []) (hv : v ∈ vars) : ∃ x, boundT vars r v = some x := by
  cases hb : boundT vars r v with
  | some x => exact ⟨x, rfl⟩
  | none => exact absurd hv ((bound_none h0 hl).1 hb)
theorem addV_nodup {l : List (List UInt8)} (s : Sl) (h : l.Nodup) : (addV l s).Nodup := by
  unfold addV
  split
  · exact h
  · split
    · exact h
    · rename_i hn
      exact List.nodup_append.2 ⟨h, by simp, fun a ha b hb => by
        have e : b = s.1 := by simpa using hb
        rw [e]
        exact fun k => hn (k ▸ ha)⟩
theorem varsL_nodup (p : Pt) : (varsL p).Nodup := by
  unfold varsL
  exact addV_nodup _ (addV_nodup _ (addV_nodup _ List.nodup_nil))

/-- what is so of all answers to some parts: there is no other one, and each is there once -/
structure AnsFull (S : List Tr) (done : List Pt) (vars : List (List UInt8)) (rows : List (List Tm)) : Prop where
  ok : AnsOK S done vars rows
  nonempty : ∀ v ∈ vars, v ≠ []
  from_ : ∀ v ∈ vars, ∃ p ∈ done, v ∈ varsL p
  once : rows.Pairwise fun a b => boundT vars a ≠ boundT vars b
  all : ∀ f : List UInt8 → Option Tm, (∀ v, (f v).isSome = true ↔ v ∈ vars) → (∀ p ∈ done, HoldsG S f p) → ∃ r ∈ rows, boundT vars r = f
theorem AnsFull.start (S : List Tr) : AnsFull S [] [] [[]] :=
  ⟨AnsOK.start S, fun v h => (by cases h), fun v h => (by cases h), List.pairwise_singleton _ _, fun f hf _ => ⟨[], by simp, funext fun v => by
    have h : ¬ (f v).isSome = true := fun k => by have := (hf v).1 k; cases this
    cases e : f v with
    | none => rfl
    | some x => rw [e] at h; exact absurd rfl h⟩⟩
/-- what an extended answer says of the old variables is what the answer said -/
theorem ext_old {vars : List (List UInt8)} {p : Pt} {r : List Tm} {t : Tr} (hl : r.length = vars.length) {v : List UInt8} {x : Tm} (h : boundT vars r v = some x) : boundT (vars ++ freshV vars p) (extR vars p r t) v = some x := bound_app hl h
theorem ext_back {vars : List (List UInt8)} {p : Pt} {r r' : List Tm} {t t' : Tr} (hl : r.length = vars.length) (hl' : r'.length = vars.length) (e : boundT (vars ++ freshV vars p) (extR vars p r t) = boundT (vars ++ freshV vars p) (extR vars p r' t')) : boundT vars r = boundT vars r' := by
  funext v
  by_cases h0 : v = []
  · rw [h0, bound_empty, bound_empty]
  · by_cases hv : v ∈ vars
    · obtain ⟨x, hx⟩ := bound_some hl h0 hv
      obtain ⟨y, hy⟩ := bound_some hl' h0 hv
      have := congrFun e v
      rw [ext_old hl hx, ext_old hl' hy] at this
      rw [hx, hy, this]
    · rw [(bound_none h0 hl).2 hv, (bound_none h0 hl').2 hv]
theorem AnsFull.step {S : List Tr} (hS : IsSet S) {done : List Pt} {vars : List (List UInt8)} {rows : List (List Tm)} (h : AnsFull S done vars rows) (p : Pt) : AnsFull S (done ++ [p]) (vars ++ freshV vars p) (stepR S vars p rows) := by
  refine ⟨h.ok.step p, fun v hv => ?_, fun v hv => ?_, ?_, fun f hf hp => ?_⟩
  · rcases List.mem_append.1 hv with k | k
    · exact h.nonempty v k
    · exact (varsL_mem.1 (fresh_mem.1 k).1).1
  · rcases List.mem_append.1 hv with k | k
    · obtain ⟨q, hq, e⟩ := h.from_ v k
      exact ⟨q, List.mem_append_left _ hq, e⟩
    · exact ⟨p, by simp, (fresh_mem.1 k).1⟩
  · unfold stepR
    refine List.pairwise_flatMap.2 ⟨fun r hr => ?_, ?_⟩
    · unfold rowsOf
      refine List.pairwise_map.2 ?_
      have hnd : (matchP S (bindP vars r p)).Nodup := (rising_nodup hS.2.2).sublist List.filter_sublist
      refine List.Pairwise.imp_of_mem ?_ hnd
      intro t u ht hu hne e
      have k1 := fits_at (h.ok.len r hr) ht
      have k2 := fits_at (h.ok.len r hr) hu
      rw [e] at k1
      exact hne (fitG_one k1 k2)
    · refine List.Pairwise.imp_of_mem ?_ h.once
      intro r r' hr hr' hne x hx y hy e
      unfold rowsOf at hx hy
      obtain ⟨t, _, rfl⟩ := List.mem_map.1 hx
      obtain ⟨u, _, rfl⟩ := List.mem_map.1 hy
      exact hne (ext_back (h.ok.len r hr) (h.ok.len r' hr') e)
  · obtain ⟨g, hg⟩ : ∃ g : List UInt8 → Option Tm, g = fun v => if v ∈ vars then f v else none := ⟨_, rfl⟩
    have hgs : ∀ v, (g v).isSome = true ↔ v ∈ vars := fun v => by
      rw [hg]
      dsimp only
      by_cases hv : v ∈ vars
      · rw [if_pos hv]
        exact ⟨fun _ => hv, fun _ => (hf v).2 (List.mem_append_left _ hv)⟩
      · rw [if_neg hv]
        exact ⟨fun k => (by cases k), fun k => absurd k hv⟩
    have hge : ∀ v, v ∈ vars → g v = f v := fun v hv => by rw [hg]; dsimp only; rw [if_pos hv]
    have hgh : ∀ q ∈ done, HoldsG S g q := fun q hq => by
      obtain ⟨t, ht, k1, k2, k3⟩ := hp q (List.mem_append_left _ hq)
      have one : ∀ (s : Sl) (x : Tm), (s.1 ≠ [] → s.1 ∈ varsL q) → okG f s x → okG g s x := fun s x hs k => by
        unfold okG at *
        by_cases h0 : s.1 = []
        · rw [if_pos h0] at k ⊢; exact k
        · rw [if_neg h0] at k ⊢
          rw [hge _ (h.ok.has q hq _ (hs h0))]
          exact k
      exact ⟨t, ht, one _ _ (fun h => varsL_mem.2 ⟨h, Or.inl rfl⟩) k1, one _ _ (fun h => varsL_mem.2 ⟨h, Or.inr (Or.inl rfl)⟩) k2, one _ _ (fun h => varsL_mem.2 ⟨h, Or.inr (Or.inr rfl)⟩) k3⟩
    obtain ⟨r, hr, her⟩ := h.all g hgs hgh
    obtain ⟨t, ht, hfit⟩ := hp p (by simp)
    have hl := h.ok.len r hr
    have hext : ∀ v x, boundT vars r v = some x → f v = some x := fun v x hb => by
      rw [← hge v (bound_mem_v hb).1, ← her]
      exact hb
    have hm : t ∈ matchP S (bindP vars r p) := List.mem_filter.2 ⟨ht, fits_of hext hfit⟩
    refine ⟨extR vars p r t, List.mem_flatMap.2 ⟨r, hr, List.mem_map.2 ⟨t, hm, rfl⟩⟩, funext fun v => ?_⟩
    have k := fits_at hl hm
    by_cases h0 : v = []
    · rw [h0, bound_empty]
      cases e : f [] with
      | none => rfl
      | some x =>
        have := (hf []).1 (by rw [e]; rfl)
        rcases List.mem_append.1 this with k' | k'
        · exact absurd rfl (h.nonempty _ k')
        · exact absurd rfl (varsL_mem.1 (fresh_mem.1 k').1).1
    · by_cases hv : v ∈ vars
      · obtain ⟨x, hx⟩ := bound_some hl h0 hv
        rw [ext_old hl hx, hext v x hx]
      · by_cases hp' : v ∈ varsL p
        · obtain ⟨k1, k2, k3⟩ := k
          obtain ⟨f1, f2, f3⟩ := hfit
          unfold okG at k1 k2 k3 f1 f2 f3
          rcases (varsL_mem.1 hp').2 with e | e | e
          · rw [← e, if_neg h0] at k1 f1; rw [k1, f1]
          · rw [← e, if_neg h0] at k2 f2; rw [k2, f2]
          · rw [← e, if_neg h0] at k3 f3; rw [k3, f3]
        · have hn : v ∉ vars ++ freshV vars p := fun k' => by
            rcases List.mem_append.1 k' with k' | k'
            · exact hv k'
            · exact hp' (fresh_mem.1 k').1
          rw [(bound_none h0 (by simp [extR, hl])).2 hn]
          cases e : f v with
          | none => rfl
          | some x => exact absurd ((hf v).1 (by rw [e]; rfl)) hn
theorem answers_full {S : List Tr} (hS : IsSet S) : ∀ (ps : List Pt) {done : List Pt} {vars vars' : List (List UInt8)} {rows rows' : List (List Tm)}, AnsFull S done vars rows → answersF S vars rows ps = some (vars', rows') → AnsFull S (done ++ ps) vars' rows'
  | [], done, vars, vars', rows, rows', h, e => by
    simp only [answersF, Option.some.injEq, Prod.mk.injEq] at e
    obtain ⟨rfl, rfl⟩ := e
    rw [List.append_nil]
    exact h
  | p :: ps, done, vars, vars', rows, rows', h, e => by
    unfold answersF at e
    split at e
    · cases e
    · have h1 := answers_full hS ps (h.step hS p) e
      rw [List.append_assoc] at h1
      exact h1
theorem answersL_full {S : List Tr} (hS : IsSet S) {ps : List Pt} {vars : List (List UInt8)} {rows : List (List Tm)} (e : answersL S ps = some (vars, rows)) : AnsFull S ps vars rows := by
  have h := answers_full hS ps (AnsFull.start S) e
  simpa using h

/-! ### in any order the same -/
theorem perm_nodup {α : Type} : ∀ {l m : List α}, l.Pairwise (· ≠ ·) → m.Pairwise (· ≠ ·) → (∀ x, x ∈ l ↔ x ∈ m) → l.Perm m
  | [], m, _, _, h => by
    cases m with
    | nil => exact List.Perm.refl _
    | cons y m => exact absurd ((h y).2 (by simp)) (by simp)
  | x :: l, m, hl, hm, h => by
    obtain ⟨s, t, e⟩ := List.append_of_mem ((h x).1 (by simp))
    subst e
    have h1 := List.pairwise_cons.1 hl
    have hp : (s ++ x :: t).Perm (x :: (s ++ t)) := List.perm_middle
    have hm' := (hp.pairwise_iff (fun h k => h k.symm)).1 hm
    have h2 := List.pairwise_cons.1 hm'
    refine (List.Perm.cons x (perm_nodup h1.2 h2.2 fun y => ?_)).trans hp.symm
    constructor
    · intro hy
      have k := hp.mem_iff.1 ((h y).1 (List.mem_cons_of_mem _ hy))
      rcases List.mem_cons.1 k with k | k
      · exact absurd k.symm (h1.1 y hy)
      · exact k
    · intro hy
      have k := (h y).2 (hp.mem_iff.2 (List.mem_cons_of_mem _ hy))
      rcases List.mem_cons.1 k with k | k
      · exact absurd k.symm (h2.1 y hy)
      · exact k
theorem full_rows {S : List Tr} {ps qs : List Pt} {v1 v2 : List (List UInt8)} {r1 r2 : List (List Tm)} (h1 : AnsFull S ps v1 r1) (h2 : AnsFull S qs v2 r2) (hm : ∀ p, p ∈ ps ↔ p ∈ qs) (told : List (List UInt8)) : (r1.map (projR v1 told)).Perm (r2.map (projR v2 told)) := by
  have hv : ∀ v, v ∈ v1 ↔ v ∈ v2 := fun v => ⟨fun h => by
    obtain ⟨p, hp, e⟩ := h1.from_ v h
    exact h2.ok.has p ((hm p).1 hp) v e, fun h => by
    obtain ⟨p, hp, e⟩ := h2.from_ v h
    exact h1.ok.has p ((hm p).2 hp) v e⟩
  have dom : ∀ {ps : List Pt} {vs : List (List UInt8)} {rs : List (List Tm)}, AnsFull S ps vs rs → ∀ r ∈ rs, ∀ v, (boundT vs r v).isSome = true ↔ v ∈ vs := fun h r hr v => by
    constructor
    · intro k
      obtain ⟨x, hx⟩ := Option.isSome_iff_exists.1 k
      exact (bound_mem_v hx).1
    · intro k
      obtain ⟨x, hx⟩ := bound_some (h.ok.len r hr) (h.nonempty v k) k
      rw [hx]
      rfl
  have hp : (r1.map (boundT v1)).Perm (r2.map (boundT v2)) := by
    refine perm_nodup (List.pairwise_map.2 h1.once) (List.pairwise_map.2 h2.once) fun f => ⟨fun h => ?_, fun h => ?_⟩
    · obtain ⟨r, hr, rfl⟩ := List.mem_map.1 h
      obtain ⟨r', hr', e⟩ := h2.all (boundT v1 r) (fun v => (dom h1 r hr v).trans (hv v)) (fun p hp => h1.ok.holds r hr p ((hm p).2 hp))
      exact List.mem_map.2 ⟨r', hr', e⟩
    · obtain ⟨r, hr, rfl⟩ := List.mem_map.1 h
      obtain ⟨r', hr', e⟩ := h1.all (boundT v2 r) (fun v => (dom h2 r hr v).trans (hv v).symm) (fun p hp => h2.ok.holds r hr p ((hm p).1 hp))
      exact List.mem_map.2 ⟨r', hr', e⟩
  have e1 : r1.map (projR v1 told) = (r1.map (boundT v1)).map (fun f => told.map fun v => (f v).getD tmZero) := by rw [List.map_map]; rfl
  have e2 : r2.map (projR v2 told) = (r2.map (boundT v2)).map (fun f => told.map fun v => (f v).getD tmZero) := by rw [List.map_map]; rfl
  rw [e1, e2]
  exact hp.map _
theorem sort_perm {lt : List Tm → List Tm → Bool} {n : Nat} (o : OrdR lt n) {dist : Bool} {a b : List (List Tm)} (ha : LenR n a) (hb : LenR n b) (h : a.Perm b) : sortR lt dist a = sortR lt dist b := by
  have hsa : SortedR lt (sortR lt dist a) := fold_sorted o ha (fun x hx => by cases hx) List.Pairwise.nil
  cases dist with
  | false =>
    refine sortR_all o hb hsa ?_
    have := fold_perm (lt := lt) (rows := a) (out := [])
    rw [List.append_nil] at this
    exact this.trans h
  | true =>
    refine sortR_once o hb hsa (sort_once lt a) fun x => ?_
    rw [sort_mem]
    exact h.mem_iff
/-- a question whose parts are the same ones in another order is answered likewise, where neither is too much -/
theorem solve_perm {S : List Tr} {q q' : Qu} (h : solveN S q = 0) (h' : solveN S q' = 0) (hm : ∀ p, p ∈ q.parts ↔ p ∈ q'.parts) (hv : q'.vars = q.vars) (ho : q'.order = q.order) (hd : q'.down = q.down) (hi : q'.dist = q.dist) (hl : q'.lim = q.lim) : solveL S q' = solveL S q := by
  obtain ⟨hS, _, v1, r1, e1⟩ := solve_good h
  obtain ⟨_, _, v2, r2, e2⟩ := solve_good h'
  unfold solveL solveA
  rw [if_pos h, if_pos h', e1, e2]
  dsimp only
  have hlt : ltQ q' = ltQ q := by unfold ltQ; rw [hv, ho, hd]
  rw [hlt, hi, hl, hv]
  rw [sort_perm (ordQ q q.vars.length) (proj_len _ _ _) (proj_len _ _ _) (full_rows (answersL_full hS e1) (answersL_full hS e2) hm q.vars)]
end Go.Proofs.YtbacenhgedopjaaGreatDoor

/- In which order: the places of a question's parts as they are taken, a question with its parts in an order, what it costs; plain lists, no program. -/
namespace Go.Proofs.YtbacenhgedopjaaGreatDoor
open Go Go.RowKit Go.Proofs
set_option synthInstance.maxSize 1000

/-! ### what it costs -/
def sizesF (S : List Tr) : List (List UInt8) → List (List Tm) → List Pt → List Nat
  | _, _, [] => []
  | vars, rows, p :: ps => (stepR S vars p rows).length :: sizesF S (vars ++ freshV vars p) (stepR S vars p rows) ps
def sizesL (S : List Tr) (ps : List Pt) : List Nat := sizesF S [] [[]] ps
theorem sizes_sum (S : List Tr) : ∀ (ps : List Pt) (vars : List (List UInt8)) (rows : List (List Tm)), (sizesF S vars rows ps).sum = lookedF S vars rows ps
  | [], _, _ => rfl
  | p :: ps, vars, rows => by simp [sizesF, lookedF, sizes_sum S ps]
theorem sizes_len (S : List Tr) : ∀ (ps : List Pt) (vars : List (List UInt8)) (rows : List (List Tm)), (sizesF S vars rows ps).length = ps.length
  | [], _, _ => rfl
  | p :: ps, vars, rows => by simp [sizesF, sizes_len S ps]
theorem sizes_few (S : List Tr) : ∀ (ps : List Pt) (vars : List (List UInt8)) (rows : List (List Tm)) {a : List (List UInt8) × List (List Tm)}, answersF S vars rows ps = some a → ∀ n ∈ sizesF S vars rows ps, n ≤ 500
  | [], _, _, _, _, n, h => by cases h
  | p :: ps, vars, rows, a, e, n, h => by
    unfold answersF at e
    split at e
    · cases e
    · rename_i h5
      unfold sizesF at h
      rcases List.mem_cons.1 h with k | k
      · omega
      · exact sizes_few S ps _ _ e n k
/-- all sizes are told, where there are answers -/
def costI (S : List Tr) (q : Qu) : Nat := if solveN S q = 0 then (sizesL S q.parts).sum else 0

/-! ### in an order -/
def swapQ (q : Qu) (o : List Int) : Qu := { q with parts := o.map fun i => q.parts.getD i.toNat patZero }
def isAllB (o : List Int) (n : Nat) : Bool := decide (o.length = n) && !((List.range n).map fun i : Nat => (i : Int)).any fun i => !decide (i ∈ o)
def swapO (q : Qu) (o : List Int) : Int := if askN q ≠ 0 then askN q else if isAllB o q.parts.length = true then 0 else 3
theorem erase_perm : ∀ (l o : List Int), l.Nodup → (∀ i ∈ l, i ∈ o) → o.length = l.length → o.Perm l
  | [], o, _, _, h => by
    have : o = [] := List.eq_nil_of_length_eq_zero h
    rw [this]
  | i :: l, o, hn, hm, h => by
    have hi := hm i (by simp)
    have hn' := List.nodup_cons.1 hn
    refine (List.perm_cons_erase hi).trans (List.Perm.cons i (erase_perm l (o.erase i) hn'.2 (fun j hj => ?_) ?_))
    · exact (List.mem_erase_of_ne (fun e => by subst e; exact hn'.1 hj)).2 (hm j (List.mem_cons_of_mem _ hj))
    · rw [List.length_erase_of_mem hi]
      simp at h
      omega
def placesI (n : Nat) : List Int := (List.range n).map fun i : Nat => (i : Int)
theorem placesI_nodup (n : Nat) : (placesI n).Nodup := by
  unfold placesI
  refine List.pairwise_map.2 (List.Pairwise.imp ?_ List.nodup_range)
  intro a b h e
  exact h (Int.ofNat.inj e)
theorem placesI_mem {n : Nat} {i : Int} : i ∈ placesI n ↔ 0 ≤ i ∧ i < n := by
  unfold placesI
  rw [List.mem_map]
  constructor
  · rintro ⟨k, hk, rfl⟩
    have := List.mem_range.1 hk
    omega
  · intro h
    exact ⟨i.toNat, List.mem_range.2 (by omega), by omega⟩
theorem isAll_perm {o : List Int} {n : Nat} : isAllB o n = true ↔ o.Perm (placesI n) := by
  unfold isAllB
  rw [Bool.and_eq_true, decide_eq_true_eq, Bool.not_eq_true', List.any_eq_false]
  constructor
  · rintro ⟨hl, ha⟩
    refine erase_perm _ _ (placesI_nodup n) (fun i hi => ?_) (by simp [placesI, hl])
    have := ha i hi
    simpa using this
  · intro h
    refine ⟨by simpa [placesI] using h.length_eq, fun i hi => ?_⟩
    have : i ∈ o := h.mem_iff.2 hi
    simpa using this
theorem getD_range (L : List Pt) : (placesI L.length).map (fun i => L.getD i.toNat patZero) = L := by
  unfold placesI
  rw [List.map_map]
  refine List.ext_getElem (by simp) fun j h1 h2 => ?_
  simp
  rw [List.getElem?_eq_getElem h2]
  rfl
theorem swap_perm {q : Qu} {o : List Int} (h : o.Perm (placesI q.parts.length)) : (swapQ q o).parts.Perm q.parts := by
  have := h.map (fun i => q.parts.getD i.toNat patZero)
  rw [getD_range] at this
  exact this
theorem partsN_zero : ∀ {l : List Pt}, (∀ p ∈ l, varsN p = 0) → partsN l = 0
  | [], _ => rfl
  | p :: l, h => by
    unfold partsN
    rw [if_pos (h p (by simp))]
    exact partsN_zero fun q hq => h q (List.mem_cons_of_mem _ hq)

/-! ### which is taken next -/
def fixS (known : List (List UInt8)) (s : Sl) : Nat := if s.1 ∈ known ∨ s.1 = [] then 1 else 0
def fixN (known : List (List UInt8)) (p : Pt) : Nat := fixS known p.1 + fixS known p.2.1 + fixS known p.2.2
def learnS (known : List (List UInt8)) (s : Sl) : List (List UInt8) := if s.1 = [] then known else known ++ [s.1]
def learnP (known : List (List UInt8)) (p : Pt) : List (List UInt8) := learnS (learnS (learnS known p.1) p.2.1) p.2.2
def cmpI (a b : Int) : Int := if a < b then -1 else if a > b then 1 else 0
def orP (a b : Int) : Int := if a ≠ 0 then a else b
def cmpP2 (parts : List Pt) (counts : List Nat) (known : List (List UInt8)) (a b : Int) : Int :=
  orP (cmpI (fixN known (parts.getD b.toNat patZero) : Nat) (fixN known (parts.getD a.toNat patZero) : Nat)) (cmpI (counts.getD a.toNat 0 : Nat) (counts.getD b.toNat 0 : Nat))
def minF (c : Int → Int → Int) : Int → List Int → Int
  | m, [] => m
  | m, x :: l => minF c (if c x m < 0 then x else m) l
theorem minF_mem (c : Int → Int → Int) : ∀ (l : List Int) (m : Int), minF c m l ∈ m :: l
  | [], m => by simp [minF]
  | x :: l, m => by
    unfold minF
    have := minF_mem c l (if c x m < 0 then x else m)
    rcases List.mem_cons.1 this with h | h
    · rw [h]
      split
      · simp
      · simp
    · exact List.mem_cons_of_mem _ (List.mem_cons_of_mem _ h)
def nextP (parts : List Pt) (counts : List Nat) (known : List (List UInt8)) (left : List Int) : Int := match left with
  | [] => 0
  | m :: l => minF (cmpP2 parts counts known) m l
def leftP (left : List Int) (n : Int) : List Int := left.filter fun x => !decide (x = n)
theorem nextP_mem {parts : List Pt} {counts : List Nat} {known : List (List UInt8)} {left : List Int} (h : left ≠ []) : nextP parts counts known left ∈ left := by
  cases left with
  | nil => exact absurd rfl h
  | cons m l => exact minF_mem _ l m
theorem leftP_less {left : List Int} {n : Int} (h : n ∈ left) : (leftP left n).length < left.length := by
  unfold leftP
  induction left with
  | nil => cases h
  | cons x l ih =>
    rw [List.filter_cons]
    by_cases e : x = n
    · rw [if_neg (by simp [e])]
      have := List.length_filter_le (fun x => !decide (x = n)) l
      simp only [List.length_cons]
      omega
    · rw [if_pos (by simp [e])]
      rcases List.mem_cons.1 h with k | k
      · exact absurd k.symm e
      · have := ih k
        simp only [List.length_cons]
        omega
/-- by fuel: as many as there are -/
def takeF (parts : List Pt) (counts : List Nat) : Nat → List (List UInt8) → List Int → List Int
  | 0, _, _ => []
  | n + 1, known, left => if left = [] then [] else nextP parts counts known left :: takeF parts counts n (learnP known (parts.getD (nextP parts counts known left).toNat patZero)) (leftP left (nextP parts counts known left))
theorem take_perm (parts : List Pt) (counts : List Nat) : ∀ (n : Nat) (known : List (List UInt8)) (left : List Int), left.length ≤ n → left.Nodup → (takeF parts counts n known left).Perm left
  | 0, known, left, h, _ => by
    have : left = [] := List.eq_nil_of_length_eq_zero (by omega)
    rw [this]
    exact List.Perm.refl _
  | n + 1, known, left, h, hn => by
    unfold takeF
    by_cases h0 : left = []
    · rw [if_pos h0, h0]
    · rw [if_neg h0]
      have hm := nextP_mem (parts := parts) (counts := counts) (known := known) h0
      generalize nextP parts counts known left = m at *
      have h1 := leftP_less hm
      have h2 := take_perm parts counts n (learnP known (parts.getD m.toNat patZero)) (leftP left m) (by omega) (hn.sublist List.filter_sublist)
      refine (List.Perm.cons m h2).trans ?_
      have he : leftP left m = left.erase m := by
        unfold leftP
        rw [hn.erase_eq_filter]
        refine List.filter_congr fun x _ => ?_
        by_cases e : x = m
        · simp [e]
        · simp [e]
      rw [he]
      exact (List.perm_cons_erase hm).symm
theorem takeF_more (parts : List Pt) (counts : List Nat) : ∀ (n m : Nat) (known : List (List UInt8)) (left : List Int), left.length ≤ n → left.length ≤ m → takeF parts counts n known left = takeF parts counts m known left
  | 0, m, known, left, h, _ => by
    have : left = [] := List.eq_nil_of_length_eq_zero (by omega)
    rw [this]
    cases m with
    | zero => rfl
    | succ m => simp [takeF]
  | n + 1, 0, known, left, _, h => by
    have : left = [] := List.eq_nil_of_length_eq_zero (by omega)
    rw [this]
    simp [takeF]
  | n + 1, m + 1, known, left, h, k => by
    unfold takeF
    by_cases h0 : left = []
    · rw [if_pos h0, if_pos h0]
    · rw [if_neg h0, if_neg h0]
      have hm := nextP_mem (parts := parts) (counts := counts) (known := known) h0
      have h1 := leftP_less hm
      rw [takeF_more parts counts n m _ _ (by omega) (by omega)]
def takeL (parts : List Pt) (counts : List Nat) : List Int := takeF parts counts parts.length [] (placesI parts.length)
def countsL (S : List Tr) (parts : List Pt) : List Nat := parts.map fun p => (matchP S p).length
def orderL (S : List Tr) (q : Qu) : List Int := takeL q.parts (countsL S q.parts)
def orderN (S : List Tr) (q : Qu) : Int := if sortedN S ≠ 0 then sortedN S else askN q
theorem order_perm (S : List Tr) (q : Qu) : (orderL S q).Perm (placesI q.parts.length) := take_perm _ _ _ _ _ (by simp [placesI]) (placesI_nodup _)
theorem order_len (S : List Tr) (q : Qu) : (orderL S q).length = q.parts.length := by
  have := (order_perm S q).length_eq
  simpa [placesI] using this
end Go.Proofs.YtbacenhgedopjaaGreatDoor
