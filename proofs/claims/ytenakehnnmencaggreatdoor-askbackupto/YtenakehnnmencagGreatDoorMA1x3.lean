import Derived.Test.YtenakehnnmencagGreatDoorMA1x1
import Derived.Test.YtenakehnnmencagGreatDoorMA0x5
import Derived.Deep.QuietTactic
import Derived.BigQuiet
import Derived.WalkKit
import Derived.Deep.DeepCutAuto
import Derived.Test.YtenakehnnmencagGreatDoorMA0x6
import Derived.Test.YtenakehnnmencagGreatDoorMA1x2

/- ask.varsOf: the variables of all parts, or what is wrong with them; slices.Contains at texts. -/
namespace Go.Proofs.YtenakehnnmencagGreatDoor
open Go Go.RowKit Go.Proofs Go.Maps
set_option synthInstance.maxSize 1000

attribute [local go_sem] eql_errV neq_errV guard_errV

theorem ContainsW_any (ad : Option Addr) (cap : Nat) (l : List (List UInt8)) (x : List UInt8) (w : World) (h : SlW w ad l) (hn : l.length ≤ 9223372036854775807) :
    Calls Tryz.prog 55 #[.slice ad l.length cap, .string ⟨x.toArray⟩] w fun e w' => e = .returned (.bool (decide (x ∈ l))) ∧ w' = w := by
  cases hl : l with
  | nil =>
    simpa using Tryz.slices_Contains_string_empty ad cap ⟨x.toArray⟩ w
  | cons c r =>
    rw [← hl]
    obtain ⟨b, o, rfl, hr⟩ := h (by rw [hl]; simp)
    refine (Tryz.slices_Contains_string b o l.length cap (l.map fun v => ⟨v.toArray⟩) ⟨x.toArray⟩ w (by simp) (by omega) ?_).mono ?_
    · intro j hj
      have hj' : j < l.length := by simpa using hj
      rw [hr j hj']
      simp [encV, List.getD_eq_getElem?_getD, List.getElem?_eq_getElem hj']
    · rintro e w' ⟨rfl, rfl⟩
      refine ⟨ret_bool ?_, rfl⟩
      rw [show l.length = (l.map fun v => (⟨v.toArray⟩ : ByteArray)).length by simp, List.take_length, Bool.eq_iff_iff, Lib.containsS_iff]
      simp only [List.mem_map, decide_eq_true_eq]
      constructor
      · rintro ⟨v, hv, e⟩
        have := congrArg (fun s : ByteArray => s.data.toList) e
        simp at this
        exact this ▸ hv
      · intro hx
        exact ⟨x, hx, rfl⟩
/-- what varsOf tells of parts -/
def vofN (L : List Pt) : Int := if 6 < L.length then 4 else if L = [] then 5 else if partsN L ≠ 0 then partsN L else if 8 < (partsV [] L).length then 4 else 0
def VofAns (L : List Pt) (w : World) (e : Ending) (w' : World) : Prop := ∃ m ad cap, e = .returned (.tuple #[.slice ad m.length cap, errV (vofN L)]) ∧ SlW w' ad m ∧ m.length ≤ 100 ∧ (vofN L = 0 → m = partsV [] L) ∧ RowKit.Below w.heap.size w w'
theorem vof_nil {L : List Pt} {w w' : World} {n : Int} (h : vofN L = n) (hn : n ≠ 0) (hb : RowKit.Below w.heap.size w w') : VofAns L w (.returned (.tuple #[.slice none 0 0, errV n])) w' :=
  ⟨[], none, 0, by rw [h]; rfl, slW_nil _ _, by simp, fun h0 => absurd (h.symm.trans h0) hn, hb⟩

set_option maxHeartbeats 16000000 in
set_option maxRecDepth 100000 in
theorem VarsOf_any (L : List Pt) (pd : Option Addr) (pc : Nat) (w : World) (h : SlPt w pd L) (hf : ∀ p ∈ L, fitPt p) (hl : L.length ≤ 9223372036854775807) :
    Calls Tryz.prog 53 #[.slice pd L.length pc] w (VofAns L w) := by
  obtain ⟨Q, hQ⟩ : ∃ Q, Q = VofAns L w := ⟨_, rfl⟩
  have HQ : Hid (∀ e w', VofAns L w e w' → Q e w') := fun e w' h => by rw [hQ]; exact h
  rw [← hQ]
  clear hQ
  by_cases h6 : 6 < L.length
  · have d1 : decide ((L.length : Int) > 6) = true := by simp; omega
    have fin := hideQ (show vofN L = 4 by unfold vofN; rw [if_pos h6])
    go_enter Tryz.func53, Tryz.ntmps53
    go_wp2_with fail
    exact HQ.out _ _ (vof_nil fin.out (by decide) (RowKit.Below.refl _ _))
  · have d1 : decide ((L.length : Int) > 6) = false := by simp; omega
    by_cases h0 : L = []
    · have d2 : ((L.length : Int) == 0) = true := by simp [h0]
      have fin := hideQ (show vofN L = 5 by unfold vofN; rw [if_neg h6, if_pos h0])
      clear h0
      go_enter Tryz.func53, Tryz.ntmps53
      go_wp2_with fail
      exact HQ.out _ _ (vof_nil fin.out (by decide) (RowKit.Below.refl _ _))
    · have d2 : ((L.length : Int) == 0) = false := by simp; exact h0
      have f1 := hideQ (fun h => show vofN L = partsN L by unfold vofN; rw [if_neg h6, if_neg h0, if_pos h])
      have f2 := hideQ (fun h h' => show vofN L = 4 by unfold vofN; rw [if_neg h6, if_neg h0, if_neg (fun k => k h), if_pos h'])
      have f3 := hideQ (fun h h' => show vofN L = 0 by unfold vofN; rw [if_neg h6, if_neg h0, if_neg (fun k => k h), if_neg h'])
      have Hp := hideQ h
      have Hf := hideQ hf
      clear h hf h0
      generalize hPN : partsN L = N at *
      have HPN := hideQ hPN
      generalize hPV : partsV [] L = V at *
      have HPV := hideQ hPV
      clear hPN hPV
      go_enter Tryz.func53, Tryz.ntmps53
      go_wp2_with fail
      go_loopw [4, 23] (fun v i wr => ∃ (k : Nat) (o : List (List UInt8)), k ≤ L.length ∧ i = .int .i64 k ∧ o.length ≤ 3 * k ∧ Hid (wr.ownsRow w.heap.size 9 1 v o.length (o.map encV)) ∧ Hid (N = partsN (L.drop k)) ∧ Hid (V = partsV o (L.drop k)) ∧ RowKit.Below w.heap.size w wr) (fun _ i wr => L.length - (intOf i).toNat)
      case atStart => exact ⟨0, [], Nat.zero_le _, rfl, by simp, World.ownsRow_nil _ _ _ _, HPN.out.symm, HPV.out.symm, RowKit.Below.refl _ _⟩
      case round =>
        obtain ⟨k, o, hk, rfl, hol, hown, hN, hV, hbr⟩ := hrel
        by_cases hlt : k < L.length
        · obtain ⟨b, off, rfl, hrow⟩ := (Hp.out.below hbr).at k hlt
          have hat := hrow.at k hlt
          have e0 := hat 0 _ rfl
          have e1 := hat 1 _ rfl
          have e2 := hat 2 _ rfl
          have e3 := hat 3 _ rfl
          have e4 := hat 4 _ rfl
          have e5 := hat 5 _ rfl
          have e6 := hat 6 _ rfl
          have e7 := hat 7 _ rfl
          have e8 := hat 8 _ rfl
          have e9 := hat 9 _ rfl
          have e10 := hat 10 _ rfl
          have e11 := hat 11 _ rfl
          rw [Nat.add_zero] at e0
          have i0 : (0 : Int) ≤ (k : Int) := by omega
          have i1 : (k : Int) < (L.length : Int) := by omega
          have hfp := Hf.out _ (List.getElem_mem hlt)
          have HR := fun W => VarsO_any L[k] W hfp
          have hd : L.drop k = L[k] :: L.drop (k + 1) := List.drop_eq_getElem_cons hlt
          rw [hd] at hN hV
          have hml := varsL_len L[k]
          clear hat hrow hd hfp
          generalize L[k] = p at *
          generalize hD : L.drop (k + 1) = D at *
          have HD := hideQ hD
          clear hD
          unfold valPt at HR
          have hzr := hbr.size
          go_wp2_with fail
          refine (HR _).mono ?_
          rintro e w2 ⟨hb2, m, md, mc, rfl, hm, hmA⟩
          dsimp only
          have hal : RowKit.Below wr.heap.size wr (wr.alloc (.cells #[.string ⟨p.1.1.toArray⟩, .int .i64 p.1.2.1, .string ⟨p.1.2.2.1.toArray⟩, .string ⟨p.1.2.2.2.toArray⟩, .string ⟨p.2.1.1.toArray⟩, .int .i64 p.2.1.2.1, .string ⟨p.2.1.2.2.1.toArray⟩, .string ⟨p.2.1.2.2.2.toArray⟩, .string ⟨p.2.2.1.toArray⟩, .int .i64 p.2.2.2.1, .string ⟨p.2.2.2.2.1.toArray⟩, .string ⟨p.2.2.2.2.2.toArray⟩] 108)) := balloc _ _
          have hB2 := bstep hbr (bstep hal hb2)
          have hown2 := hideQ (ownsRow_belowV hown.out (bstep hal hb2))
          have Hm := hideQ (own_mono hm (Nat.le_trans hzr hal.size))
          have hfar : Hid (Far2 _ (.slice md m.length mc)) := fun g h1 h2 => by
            have q1 := (hown.out.lt g h1).2
            have q2 := (hm.lt g h2).1
            have q3 := hal.size
            omega
          have hmA' : m = if varsN p = 0 then varsL p else [] := hmA
          clear HR hown hm hmA e0 e1 e2 e3 e4 e5 e6 e7 e8 e9 e10 e11 hal
          by_cases hv : varsN p = 0
          · rw [if_pos hv] at hmA'
            subst hmA'
            have hN2 : Hid (N = partsN D) := by have := hN.out; unfold partsN at this; rw [if_pos hv] at this; exact this
            have hV2 : Hid (V = partsV (addAll o (varsL p)) D) := hV.out
            rw [hv]
            clear hN hV hv
            generalize varsL p = m at *
            go_wp2_with fail
            go_loopw [4, 37] (fun v i wi => ∃ j : Nat, j ≤ m.length ∧ i = .int .i64 j ∧ Hid (wi.ownsRow w.heap.size 9 1 v (addAll o (m.take j)).length ((addAll o (m.take j)).map encV)) ∧ Hid (wi.ownsRow w.heap.size 9 1 (.slice md m.length mc) m.length (m.map encV)) ∧ Hid (Far2 v (.slice md m.length mc)) ∧ RowKit.Below w.heap.size w wi) (fun _ i wi => m.length - (intOf i).toNat)
            case atStart => exact ⟨0, Nat.zero_le _, rfl, hown2.out, Hm.out, hfar.out, hB2⟩
            case round =>
              obtain ⟨j, hj, rfl, hown3, Hm3, hfar3, hbi⟩ := hrel
              by_cases hjl : j < m.length
              · obtain ⟨md', mc', em, hmV⟩ := own_v Hm3.out
                obtain ⟨rfl, _, rfl⟩ : md = md' ∧ m.length = m.length ∧ mc = mc' := by simpa using em
                obtain ⟨mb, rfl, hmr⟩ := hmV (by intro e; rw [e] at hjl; simp at hjl)
                have c0 := hmr j hjl
                unfold encV at c0
                have j0 : (0 : Int) ≤ (j : Int) := by omega
                have j1 : (j : Int) < (m.length : Int) := by omega
                have hst := hideQ (addAll_step o m j hjl)
                have hle : (addAll o (m.take j)).length ≤ 1000 := by
                  have := addAll_len o (m.take j)
                  rw [List.length_take] at this
                  omega
                obtain ⟨ad, cap, rfl, hsl⟩ := own_v hown3.out
                have HC := ContainsW_any ad cap (addAll o (m.take j)) m[j] wr hsl.w (by omega)
                have hzi := hbi.size
                clear hmr hsl em hmV
                generalize ht : addAll o (m.take (j + 1)) = t1 at hst
                have Ht := hideQ ht
                generalize addAll o (m.take j) = t0 at *
                generalize m[j] = y at *
                clear ht
                cases hd : decide (y ∈ t0)
                · rw [hd] at HC
                  have e1 : Hid (t1 = t0 ++ [y]) := by have := hst.out; rw [if_neg (by simpa using hd)] at this; exact this
                  clear hst hd
                  go_wp2_with fail
                  refine HC.mono ?_
                  rintro e w3 ⟨rfl, hw3⟩
                  subst hw3
                  dsimp only
                  go_wp2_with (at_builtin; refine wpList_append_text _ rfl _ _ rfl w.heap.size w3.heap.size _ t0 y rfl rfl (hown3.out.alloc _) (by go_simp) (by omega) (by simp; omega) ?_; intro v' w4 hv4 hg4 hat4)
                  have hal : RowKit.Below w3.heap.size w3 (w3.alloc (.cells #[.string ⟨y.toArray⟩] 9)) := balloc _ _
                  have hbel : RowKit.Below w.heap.size w w4 := (bstep hbi hal).grown hg4 (by simp; omega) (fun g hg => (hown3.out.lt g hg).1)
                  have hm4 := hideQ ((ownsRow_belowV Hm3.out hal).kept hg4 hfar3.out.out)
                  have hfar4 := hideQ (hfar3.out.grow (ownsRow_belowV Hm3.out hal) hat4)
                  have hv5 := hideQ hv4
                  clear hv4 hg4 hat4 c0 HC
                  go_wp2_with fail
                  go_roundw
                  case rel =>
                    refine ⟨j + 1, by omega, by go_num, ?_, hm4, hfar4, hbel⟩
                    show World.ownsRow _ _ _ _ _ _ _
                    rw [Ht.out, e1.out]
                    exact hv5.out
                  case measure => simp [intOf]; omega
                · rw [hd] at HC
                  have e1 : Hid (t1 = t0) := by have := hst.out; rw [if_pos (by simpa using hd)] at this; exact this
                  clear hst hd
                  go_wp2_with fail
                  refine HC.mono ?_
                  rintro e w3 ⟨rfl, hw3⟩
                  subst hw3
                  dsimp only
                  clear HC c0
                  go_wp2_with fail
                  go_roundw
                  case rel =>
                    refine ⟨j + 1, by omega, by go_num, ?_, Hm3, hfar3, hbi⟩
                    show World.ownsRow _ _ _ _ _ _ _
                    rw [Ht.out, e1.out]
                    exact hown3.out
                  case measure => simp [intOf]; omega
              · obtain rfl : j = m.length := by omega
                have ho4 := hown3.out
                rw [List.take_length] at ho4
                have Ho4 := hideQ ho4
                have hle := addAll_len o m
                clear ho4 hown3
                go_wp2_with fail
                go_roundw
                case rel =>
                  refine ⟨k + 1, addAll o m, by omega, by go_num, by omega, Ho4, ?_, ?_, hbi⟩
                  · show _ = _
                    rw [HD.out]; exact hN2.out
                  · show _ = _
                    rw [HD.out]; exact hV2.out
                case measure => simp [intOf]; omega
          · have hN2 : Hid (N = varsN p) := by have := hN.out; unfold partsN at this; rw [if_neg hv] at this; exact this
            rw [if_neg hv] at hmA'
            subst hmA'
            have hne : (varsN p == 0) = false := by simpa using hv
            have hne2 : (varsN p != 0) = true := by simpa using hv
            have Hv := hideQ hv
            generalize varsN p = c at *
            clear hN hV hv Hm hown2
            go_wp2_with fail
            exact HQ.out _ _ (vof_nil ((f1.out (by rw [hN2.out]; exact Hv.out)).trans hN2.out) Hv.out hB2)
        · obtain rfl : k = L.length := by omega
          have hN2 : Hid (N = 0) := by have := hN.out; rw [List.drop_length] at this; exact this
          have hV2 : Hid (V = o) := by have := hV.out; rw [List.drop_length] at this; exact this
          obtain ⟨ad, cap, rfl, hsl⟩ := own_v hown.out
          have Hsl := hideQ hsl
          clear hsl hown hN hV
          by_cases h8 : 8 < o.length
          · have d3 : decide ((o.length : Int) > 8) = true := by simp; omega
            have fin := hideQ (f2.out hN2.out (by rw [hV2.out]; exact h8))
            go_wp2_with fail
            exact HQ.out _ _ (vof_nil fin.out (by decide) hbr)
          · have d3 : decide ((o.length : Int) > 8) = false := by simp; omega
            have fin := hideQ (f3.out hN2.out (by rw [hV2.out]; exact h8))
            go_wp2_with fail
            exact HQ.out _ _ ⟨o, ad, cap, by rw [fin.out]; rfl, Hsl.out.w, by omega, fun _ => hV2.out.symm.trans HPV.out.symm, hbr⟩
end Go.Proofs.YtenakehnnmencagGreatDoor

/- A region that draws its order, whose operations only read and whose calls leave all that was: walked once, in the order of the text. -/
namespace Go.Proofs.YtenakehnnmencagGreatDoor
open Go Go.RowKit Go.Proofs

/-- the worlds in which nothing old has turned -/
structure Lat (w : World) where
  val : World
  low : RowKit.Below w.heap.size w val
theorem lat_some (w : World) : Nonempty (Lat w) := ⟨⟨w, RowKit.Below.refl _ _⟩⟩
theorem lat_cell {w : World} {p : Addr} {v : Value} (h : w.cell? p = some v) : ∀ n : Lat w, n.val.cell? p = some v := fun n => (n.low.cell (World.block_lt_of_cell? w p h)).trans h
theorem lat_region {P : Program} {id : Nat} {Q : Exit → Act → World → Prop} {a : Act} {w : World} {l : List Oper} (hm : P.follows .mixedOrders = true) (hB : Region.lexB .any l.toArray = true)
    (h : wpQuiet P l.toArray (fun W => ∃ n : Lat w, W = n.val) (fun a' => ∀ W, (∃ n : Lat w, W = n.val) → Q .normal a' W) l a) : (Code.region id l.toArray true).wp P Q a w :=
  wp_region_quiet (C := fun W => ∃ n : Lat w, W = n.val) hm hB ⟨⟨w.drew, (RowKit.Below.refl _ _).drew⟩, rfl⟩ (by simpa using h)
theorem lat_call {P : Program} {f : FuncId} {args : Array Value} {w : World} {n : Lat w} {v : Value}
    (h : Calls P f args n.val fun e w' => e = .returned v ∧ RowKit.Below n.val.heap.size n.val w') : Calls P f args n.val fun e w'' => e = .returned v ∧ ∃ m : Lat w, w'' = m.val :=
  h.mono fun _ w' ⟨he, hb⟩ => ⟨he, ⟨w', n.low.trans (hb.mono n.low.size)⟩, rfl⟩
end Go.Proofs.YtenakehnnmencagGreatDoor

/- The document's Check of a question (package strataref3). -/
namespace Go.Proofs.YtenakehnnmencagGreatDoor
open Go Go.RowKit Go.Proofs Go.Maps
set_option synthInstance.maxSize 1000

/-! ### one fault behind the other -/
section
variable {q : Qu}
theorem ask_full (h : 6 < q.parts.length) : askN q = 4 := by unfold askN; rw [if_pos h]
theorem ask_nil (h : q.parts = []) : askN q = 5 := by unfold askN; rw [if_neg (by rw [h]; decide), if_pos h]
theorem ask_part (h1 : ¬ 6 < q.parts.length) (h2 : ¬ q.parts = []) (h3 : partsN q.parts ≠ 0) : askN q = partsN q.parts := by unfold askN; rw [if_neg h1, if_neg h2, if_pos h3]
/-- what is asked of Vars, Order, Down and Limit -/
def askT (q : Qu) (V : List (List UInt8)) : Int := if 8 < V.length then 4
  else if q.vars = [] then 5 else if (∃ v ∈ q.vars, v ∉ V) then 5 else if ¬ q.vars.Nodup then 7 else if q.order ≠ [] ∧ q.order ∉ q.vars then 5
  else if q.down = true ∧ q.order = [] then 3 else if q.lim < -1 ∨ 500 < q.lim then 1 else 0
theorem ask_tail (h1 : ¬ 6 < q.parts.length) (h2 : ¬ q.parts = []) (h3 : partsN q.parts = 0) : askN q = askT q (partsV [] q.parts) := by unfold askN askT; rw [if_neg h1, if_neg h2, if_neg (fun h => h h3)]
variable {V : List (List UInt8)}
theorem askT_full (h : 8 < V.length) : askT q V = 4 := by unfold askT; rw [if_pos h]
theorem askT_nil (h1 : ¬ 8 < V.length) (h2 : q.vars = []) : askT q V = 5 := by unfold askT; rw [if_neg h1, if_pos h2]
theorem askT_out (h1 : ¬ 8 < V.length) (h2 : ¬ q.vars = []) (h3 : ∃ v ∈ q.vars, v ∉ V) : askT q V = 5 := by unfold askT; rw [if_neg h1, if_neg h2, if_pos h3]
theorem askT_twice (h1 : ¬ 8 < V.length) (h2 : ¬ q.vars = []) (h3 : ∀ v ∈ q.vars, v ∈ V) (h4 : ¬ q.vars.Nodup) : askT q V = 7 := by
  unfold askT; rw [if_neg h1, if_neg h2, if_neg (fun ⟨v, hv, hn⟩ => hn (h3 v hv)), if_pos h4]
def askE (q : Qu) : Int := if q.order ≠ [] ∧ q.order ∉ q.vars then 5 else if q.down = true ∧ q.order = [] then 3 else if q.lim < -1 ∨ 500 < q.lim then 1 else 0
theorem askT_end (h1 : ¬ 8 < V.length) (h2 : ¬ q.vars = []) (h3 : ∀ v ∈ q.vars, v ∈ V) (h4 : q.vars.Nodup) : askT q V = askE q := by
  unfold askT askE; rw [if_neg h1, if_neg h2, if_neg (fun ⟨v, hv, hn⟩ => hn (h3 v hv)), if_neg (fun h => h h4)]
end
theorem nodup_take {l : List (List UInt8)} {k : Nat} (h : (l.take k).Nodup) (hk : k < l.length) (hn : l[k] ∉ l.take k) : (l.take (k + 1)).Nodup := by
  rw [List.take_succ_eq_append_getElem hk]
  refine List.nodup_append.2 ⟨h, by simp, fun a ha b hb => ?_⟩
  simp only [List.mem_singleton] at hb
  subst hb
  exact fun e => hn (e ▸ ha)
theorem not_nodup {l : List (List UInt8)} {k : Nat} (hk : k < l.length) (hn : l[k] ∈ l.take k) : ¬ l.Nodup := fun h => by
  have h2 : (l.take (k + 1)).Nodup := h.sublist (List.take_sublist _ _)
  rw [List.take_succ_eq_append_getElem hk] at h2
  exact (List.nodup_append.1 h2).2.2 _ hn _ (List.mem_singleton.2 rfl) rfl

attribute [local go_sem ↓] eqlEmpty neqEmpty

set_option maxHeartbeats 16000000 in
set_option maxRecDepth 100000 in
theorem QCheck_any (q : Qu) (vd pd : Option Addr) (vc pc : Nat) (w : World) (h : QuIn w q vd pd) (hf : FitQ q) (hcap : q.vars.length ≤ vc) :
    Calls Tryz.prog 20 #[valQ q vd vc pd pc] w fun e w' => e = .returned (.int .i64 (askN q)) ∧ RowKit.Below w.heap.size w w' := by
  have HV := fun (h6 : q.parts.length ≤ 6) W hW => QVars_any q vd pd vc pc W (h.below hW) h6 hf.pt
  have Hvs := hideQ h.vars
  have fl := hf.vl
  have fp := hf.pl
  have fo := hf.ord
  unfold valQ at HV ⊢
  obtain ⟨w1, hw1⟩ : ∃ w1, w1 = w.alloc (.cells #[.slice vd q.vars.length vc, .slice pd q.parts.length pc, .string ⟨q.order.toArray⟩, .bool q.down, .bool q.dist, .int .i64 q.lim] 52) := ⟨_, rfl⟩
  have hb1 : RowKit.Below w.heap.size w w1 := by rw [hw1]; exact balloc _ _
  have HB : Hid (BoxQ w1 w.heap.size q vd pd vc pc) := by show BoxQ _ _ _ _ _ _ _; rw [hw1]; exact boxQ_new _ _ _ _ _ _
  obtain ⟨c0, c1, c2, c3, c4, c5⟩ := HB.out
  have hN := hideQ (rfl : askN q = askN q)
  have hw1' := hideQ hw1
  clear h hf
  go_enter Tryz.func20, Tryz.ntmps20
  go_upto_region 1 with fail
  rw [← hw1'.out]
  clear hw1 hw1'
  by_cases h6 : 6 < q.parts.length
  · have d1 : decide ((q.parts.length : Int) > 6) = true := by simp; omega
    have fin := hideQ (ask_full h6)
    go_wp2_with fail
    go_ret
    exact ⟨ret_int fin.out.symm, hb1⟩
  · have d1 : decide ((q.parts.length : Int) > 6) = false := by simp; omega
    by_cases h0 : q.parts = []
    · have d2 : ((q.parts.length : Int) == 0) = true := by simp [h0]
      have fin := hideQ (ask_nil h0)
      clear h0
      go_wp2_with fail
      go_ret
      exact ⟨ret_int fin.out.symm, hb1⟩
    · have d2 : ((q.parts.length : Int) == 0) = false := by simp; exact h0
      have HV1 := HV (by omega) w1 hb1
      clear HV
      by_cases hp : partsN q.parts = 0
      · have ft := hideQ (ask_tail h6 h0 hp)
        have d3 : (partsN q.parts != 0) = false := by simpa using hp
        go_wp2_with fail
        refine HV1.mono ?_
        rintro e w2 ⟨hb2, m, md, mc, rfl, hm, hmA⟩
        rw [if_pos hp] at hmA
        subst hmA
        have hB2 := bstep hb1 hb2
        have Hm := hideQ hm
        have HB2 := hideQ (HB.out.below hb2)
        have Hvs2 := hideQ (Hvs.out.below hB2)
        clear c0 c1 c2 c3 c4 c5 HB hm HV1 d1 d2 Hvs hp h0 h6
        obtain ⟨c0, c1, c2, c3, c4, c5⟩ := HB2.out
        generalize partsN q.parts = np at *
        generalize partsV [] q.parts = V at *
        by_cases h8 : 8 < V.length
        · have d4 : decide ((V.length : Int) > 8) = true := by simp; omega
          have fin : Hid (askN q = 4) := ft.out.trans (askT_full h8)
          go_wp2_with fail
          go_ret
          exact ⟨ret_int fin.out.symm, hB2⟩
        · have d4 : decide ((V.length : Int) > 8) = false := by simp; omega
          by_cases hv0 : q.vars = []
          · have d5 : ((q.vars.length : Int) == 0) = true := by simp [hv0]
            have fin : Hid (askN q = 5) := ft.out.trans (askT_nil h8 hv0)
            clear hv0
            go_wp2_with fail
            go_ret
            exact ⟨ret_int fin.out.symm, hB2⟩
          · have d5 : ((q.vars.length : Int) == 0) = false := by simp; exact hv0
            have Hv0 := hideQ hv0
            have H8 := hideQ h8
            have hV8 : V.length ≤ 8 := by omega
            clear hv0 h8
            go_wp2_with fail
            go_loop [5] (fun i => ∃ k : Nat, k ≤ q.vars.length ∧ i = .int .i64 k ∧ Hid (∀ j (hj : j < q.vars.length), j < k → q.vars[j] ∈ V)) (fun i => q.vars.length - (intOf i).toNat)
            case atStart => exact ⟨0, Nat.zero_le _, rfl, fun j _ h => absurd h (by omega)⟩
            case round =>
              obtain ⟨k, hk, rfl, hall⟩ := hrel
              by_cases hlt : k < q.vars.length
              · obtain ⟨b, off, rfl, ck⟩ := Hvs2.out.at k hlt
                have i0 : (0 : Int) ≤ (k : Int) := by omega
                have i1 : (k : Int) < (q.vars.length : Int) := by omega
                have HC := RHas_any md mc V q.vars[k] w2 Hm.out (by omega)
                cases hd : decide (q.vars[k] ∈ V)
                · rw [hd] at HC
                  have fin : Hid (askN q = 5) := ft.out.trans (askT_out H8.out Hv0.out ⟨_, List.getElem_mem hlt, by simpa using hd⟩)
                  clear hd
                  go_wp2_with fail
                  refine HC.mono ?_
                  rintro e w3 ⟨rfl, rfl⟩
                  go_wp2_with fail
                  go_ret
                  exact ⟨ret_int fin.out.symm, hB2⟩
                · rw [hd] at HC
                  have Hd := hideQ (of_decide_eq_true hd)
                  clear hd
                  go_wp2_with fail
                  refine HC.mono ?_
                  rintro e w3 ⟨rfl, hw3⟩
                  subst hw3
                  go_wp2_with fail
                  refine ⟨⟨k + 1, by omega, by go_num, fun j hj hjk => ?_⟩, by simp [intOf]; omega⟩
                  by_cases e : j = k
                  · subst e; exact Hd.out
                  · exact hall.out j hj (by omega)
              · obtain rfl : k = q.vars.length := by omega
                have hin := hideQ (fun v (hv : v ∈ q.vars) => by
                  obtain ⟨j, hj, rfl⟩ := List.getElem_of_mem hv
                  exact hall.out j hj hj : ∀ v ∈ q.vars, v ∈ V)
                clear hall
                go_wp2_with fail
                go_loopw [7] (fun i wr => ∃ k : Nat, k ≤ q.vars.length ∧ i = .int .i64 k ∧ Hid ((q.vars.take k).Nodup) ∧ RowKit.Below w2.heap.size w2 wr) (fun i wr => q.vars.length - (intOf i).toNat)
                case atStart => exact ⟨0, Nat.zero_le _, rfl, by show List.Nodup _; simp, RowKit.Below.refl _ _⟩
                case round =>
                  obtain ⟨k, hk, rfl, hnd, hbr⟩ := hrel
                  clear c0 c1 c2 c3 c4 c5
                  obtain ⟨c0, c1, c2, c3, c4, c5⟩ := (HB2.out.below hbr)
                  by_cases hlt : k < q.vars.length
                  · obtain ⟨b, off, rfl, ck⟩ := (Hvs2.out.below hbr).at k hlt
                    have i0 : (0 : Int) ≤ (k : Int) := by omega
                    have i1 : (k : Int) < (q.vars.length : Int) := by omega
                    have i2 : (k : Int) ≤ (vc : Int) := by omega
                    have hne := lat_some wr
                    have q0 := lat_cell c0
                    have q1 := lat_cell ck
                    have hlen : (q.vars.take k).length = k := by rw [List.length_take]; omega
                    have HC : ∀ n : Lat wr, Calls Tryz.prog 52 #[.slice (some ⟨b, off, none⟩) k vc, .string ⟨q.vars[k].toArray⟩] n.val fun e w' => e = .returned (.bool (decide (q.vars[k] ∈ q.vars.take k))) ∧ RowKit.Below n.val.heap.size n.val w' := fun n => by
                      have h1 := WHas_any (some ⟨b, off, none⟩) vc (q.vars.take k) q.vars[k] n.val (((Hvs2.out.below hbr).below n.low).take k) (by rw [hlen]; omega)
                      rw [hlen] at h1
                      refine h1.mono ?_
                      rintro e w' ⟨rfl, hw'⟩
                      subst hw'
                      exact ⟨rfl, RowKit.Below.refl _ _⟩
                    cases hd : decide (q.vars[k] ∈ q.vars.take k)
                    · rw [hd] at HC
                      have hnd2 := hideQ (nodup_take hnd.out hlt (by simpa using hd))
                      clear hd hnd
                      go_wp2_with fail
                      refine lat_region (by kernel_rfl) (by kernel_rfl) ?_
                      repeat (go_big_quiet_step (fail))
                      go_big_quiet_step (exact lat_call (HC _))
                      repeat (go_big_quiet_step (fail))
                      refine wpQuiet_nil ?_
                      intro w3 hw'
                      obtain ⟨nW, rfl⟩ := hw'
                      have hb3 := nW.low
                      go_wp2_with fail
                      go_roundw
                      case rel => exact ⟨k + 1, by omega, by go_num, hnd2, bstep hbr hb3⟩
                      case measure => simp [intOf]; omega
                    · rw [hd] at HC
                      have fin : Hid (askN q = 7) := ft.out.trans (askT_twice H8.out Hv0.out hin.out (not_nodup hlt (of_decide_eq_true hd)))
                      clear hd hnd
                      go_wp2_with fail
                      refine lat_region (by kernel_rfl) (by kernel_rfl) ?_
                      repeat (go_big_quiet_step (fail))
                      go_big_quiet_step (exact lat_call (HC _))
                      repeat (go_big_quiet_step (fail))
                      refine wpQuiet_nil ?_
                      intro w3 hw'
                      obtain ⟨nW, rfl⟩ := hw'
                      have hb3 := nW.low
                      go_wp2_with fail
                      go_ret
                      exact ⟨ret_int fin.out.symm, bstep hB2 (bstep hbr hb3)⟩
                  · obtain rfl : k = q.vars.length := by omega
                    have hnd' := hnd.out
                    rw [List.take_length] at hnd'
                    have fe : Hid (askN q = askE q) := ft.out.trans (askT_end H8.out Hv0.out hin.out hnd')
                    have HC := WHas_any vd vc q.vars q.order wr (Hvs2.out.below hbr) (by omega)
                    have hB3 := bstep hB2 hbr
                    clear hnd hnd' ft hin H8 Hv0 Hm Hvs2 HB2
                    have fin : ∀ x : Int, askE q = x → Hid (askN q = x) := fun x h => fe.out.trans h
                    unfold askE at fin
                    by_cases ho : q.order = []
                    · have de : q.order.isEmpty = true := by simp [ho]
                      have f1 : ∀ x : Int, (if q.down = true then 3 else if q.lim < -1 ∨ 500 < q.lim then 1 else 0) = x → Hid (askN q = x) := fun x h => fin x (by rw [if_neg (fun h => h.1 ho)]; simpa [ho] using h)
                      have F1 := hideQ f1
                      clear fin ho f1 fe
                      generalize decide (q.order ∈ q.vars) = hs at *
                      go_wp2_with fail
                      refine HC.mono ?_
                      rintro e w3 ⟨rfl, hw3⟩
                      subst hw3
                      cases hdn : q.down
                      · rw [hdn] at c3
                        by_cases l1 : q.lim < -1
                        · have dl : decide (q.lim < -1) = true := by simpa using l1
                          have fin := F1.out 1 (by simp [hdn, l1])
                          clear l1
                          go_wp2_with fail
                          go_ret
                          exact ⟨ret_int fin.out.symm, hB3⟩
                        · have dl : decide (q.lim < -1) = false := by simpa using l1
                          by_cases l2 : 500 < q.lim
                          · have dm : decide (q.lim > 500) = true := by simpa using l2
                            have fin := F1.out 1 (by simp [hdn, l2])
                            clear l1 l2
                            go_wp2_with fail
                            go_ret
                            exact ⟨ret_int fin.out.symm, hB3⟩
                          · have dm : decide (q.lim > 500) = false := by simpa using l2
                            have fin := F1.out 0 (by simp [hdn, l1, l2])
                            clear l1 l2
                            go_wp2_with fail
                            go_ret
                            exact ⟨ret_int fin.out.symm, hB3⟩
                      · rw [hdn] at c3
                        have fin := F1.out 3 (by simp [hdn])
                        go_wp2_with fail
                        go_ret
                        exact ⟨ret_int fin.out.symm, hB3⟩
                    · have de : q.order.isEmpty = false := by simp [ho]
                      cases hd : decide (q.order ∈ q.vars)
                      · rw [hd] at HC
                        have fin := fin 5 (by rw [if_pos ⟨ho, by simpa using hd⟩])
                        clear ho hd fe
                        go_wp2_with fail
                        refine HC.mono ?_
                        rintro e w3 ⟨rfl, hw3⟩
                        subst hw3
                        go_wp2_with fail
                        go_ret
                        exact ⟨ret_int fin.out.symm, hB3⟩
                      · rw [hd] at HC
                        have f1 : ∀ x : Int, (if q.lim < -1 ∨ 500 < q.lim then 1 else 0) = x → Hid (askN q = x) := fun x h => fin x (by rw [if_neg (fun h => h.2 (of_decide_eq_true hd)), if_neg (fun h => ho h.2)]; exact h)
                        have F1 := hideQ f1
                        clear ho hd fe fin f1
                        go_wp2_with fail
                        refine HC.mono ?_
                        rintro e w3 ⟨rfl, hw3⟩
                        subst hw3
                        cases hdn : q.down
                        · rw [hdn] at c3
                          by_cases l1 : q.lim < -1
                          · have dl : decide (q.lim < -1) = true := by simpa using l1
                            have fin := F1.out 1 (by simp [l1])
                            clear l1
                            go_wp2_with fail
                            go_ret
                            exact ⟨ret_int fin.out.symm, hB3⟩
                          · have dl : decide (q.lim < -1) = false := by simpa using l1
                            by_cases l2 : 500 < q.lim
                            · have dm : decide (q.lim > 500) = true := by simpa using l2
                              have fin := F1.out 1 (by simp [l2])
                              clear l1 l2
                              go_wp2_with fail
                              go_ret
                              exact ⟨ret_int fin.out.symm, hB3⟩
                            · have dm : decide (q.lim > 500) = false := by simpa using l2
                              have fin := F1.out 0 (by simp [l1, l2])
                              clear l1 l2
                              go_wp2_with fail
                              go_ret
                              exact ⟨ret_int fin.out.symm, hB3⟩
                        · rw [hdn] at c3
                          by_cases l1 : q.lim < -1
                          · have dl : decide (q.lim < -1) = true := by simpa using l1
                            have fin := F1.out 1 (by simp [l1])
                            clear l1
                            go_wp2_with fail
                            go_ret
                            exact ⟨ret_int fin.out.symm, hB3⟩
                          · have dl : decide (q.lim < -1) = false := by simpa using l1
                            by_cases l2 : 500 < q.lim
                            · have dm : decide (q.lim > 500) = true := by simpa using l2
                              have fin := F1.out 1 (by simp [l2])
                              clear l1 l2
                              go_wp2_with fail
                              go_ret
                              exact ⟨ret_int fin.out.symm, hB3⟩
                            · have dm : decide (q.lim > 500) = false := by simpa using l2
                              have fin := F1.out 0 (by simp [l1, l2])
                              clear l1 l2
                              go_wp2_with fail
                              go_ret
                              exact ⟨ret_int fin.out.symm, hB3⟩
      · have fin := hideQ (ask_part h6 h0 hp)
        have d3 : (partsN q.parts != 0) = true := by simpa using hp
        go_wp2_with fail
        refine HV1.mono ?_
        rintro e w2 ⟨hb2, m, md, mc, rfl, _, _⟩
        go_wp2_with fail
        go_ret
        exact ⟨ret_int fin.out.symm, bstep hb1 hb2⟩
end Go.Proofs.YtenakehnnmencagGreatDoor

/- ask.varsFault, ask.Check; slices.ContainsFunc at texts with whatever test. -/
namespace Go.Proofs.YtenakehnnmencagGreatDoor
open Go Go.RowKit Go.Proofs Go.Maps
set_option synthInstance.maxSize 1000

attribute [local go_sem] eql_errV neq_errV guard_errV

/-- what is asked of a test of texts -/
def PredT (g : Nat) (lb : Array Value) (p : List UInt8 → Bool) (w : World) : Prop :=
  ∀ (W : World) (x : List UInt8), RowKit.Below w.heap.size w W → Calls Tryz.prog g (#[.string ⟨x.toArray⟩] ++ lb) W fun e w' => e = .returned (.bool (p x)) ∧ RowKit.Below W.heap.size W w'
theorem anyT_hit {l : List (List UInt8)} {p : List UInt8 → Bool} {k : Nat} (hk : k < l.length) (h : p l[k] = true) : l.any p = true := by
  rw [List.any_eq_true]
  exact ⟨_, List.getElem_mem hk, h⟩
theorem anyT_miss {l : List (List UInt8)} {p : List UInt8 → Bool} (h : ∀ (j : Nat) (hj : j < l.length), p l[j] = false) : l.any p = false := by
  rw [List.any_eq_false]
  intro x hx
  obtain ⟨j, hj, rfl⟩ := List.getElem_of_mem hx
  rw [h j hj]
  simp
set_option maxHeartbeats 4000000 in
set_option maxRecDepth 100000 in
theorem TIndex_any (g : Nat) (lb : Array Value) (p : List UInt8 → Bool) (w : World) (ad : Option Addr) (ca : Nat) (l : List (List UInt8)) (eg : ∀ args w, (callFunc g args).run Tryz.prog w = .ok (.enter g args) w) (hp : PredT g lb p w) (hs : SlW w ad l) (hl : l.length ≤ 9223372036854775807) :
    Calls Tryz.prog 125 #[.slice ad l.length ca, .func (.func g) #[] lb] w fun e w' => (∃ r : Int, e = .returned (.int .i64 r) ∧ decide (0 ≤ r) = l.any p) ∧ RowKit.Below w.heap.size w w' := by
  have H := hideQ hp
  have HS := hideQ hs
  clear hp hs
  go_enter Tryz.func125, Tryz.ntmps125
  go_wp2_with fail
  go_loopw [8] (fun i wr => ∃ (k : Nat), k ≤ l.length ∧ i = .int .i64 k ∧ RowKit.Below w.heap.size w wr ∧ Hid (∀ (j : Nat) (hj : j < l.length), j < k → p l[j] = false)) (fun i wr => l.length - (intOf i).toNat)
  case atStart => exact ⟨0, Nat.zero_le _, rfl, RowKit.Below.refl _ w, fun j hj h0 => by omega⟩
  case round =>
    obtain ⟨k, hk, rfl, hbr, hall⟩ := hrel
    by_cases hlt : k < l.length
    · obtain ⟨b, o, rfl, hc⟩ := (HS.out.below hbr).at k hlt
      have hcall := H.out wr l[k] hbr
      have i0 : (0 : Int) ≤ (k : Int) := by omega
      have i1 : (k : Int) < (l.length : Int) := by omega
      have HV : Hid (∀ q, p l[k] = q → (q = false → (∀ (j : Nat) (hj : j < l.length), j < k + 1 → p l[j] = false)) ∧ (q = true → l.any p = true)) := by
        intro q hq
        refine ⟨fun e j hj h1 => ?_, fun e => anyT_hit hlt (hq.trans e)⟩
        by_cases ej : j = k
        · subst ej; exact hq.trans e
        · exact hall.out j hj (by omega)
      cases hq : p l[k] with
      | false =>
        rw [hq] at hcall
        have hnext : Hid (∀ (j : Nat) (hj : j < l.length), j < k + 1 → p l[j] = false) := (HV.out _ hq).1 rfl
        clear HV hq hall
        generalize l[k] = z at *
        go_wp2_with (go_at_fn g; refine hcall.mono ?_; rintro e w' ⟨rfl, hb'⟩; dsimp only)
        go_roundw
        case rel => exact ⟨k + 1, by omega, by go_num, bstep hbr hb', hnext⟩
        case measure => simp [intOf]; omega
      | true =>
        rw [hq] at hcall
        have hno2 : Hid (l.any p = true) := (HV.out _ hq).2 rfl
        clear HV hq hall
        generalize l[k] = z at *
        go_wp2_with (go_at_fn g; refine hcall.mono ?_; rintro e w' ⟨rfl, hb'⟩; dsimp only)
        go_ret
        exact ⟨⟨(k : Int), rfl, by rw [hno2.out]; simp⟩, bstep hbr hb'⟩
    · have hkk : k = l.length := by omega
      have hyes : Hid (l.any p = false) := anyT_miss fun j hj => hall.out j hj (by omega)
      subst hkk
      clear hall
      go_wp2_with fail
      go_ret
      exact ⟨⟨-1, rfl, by rw [hyes.out]; rfl⟩, hbr⟩
set_option maxHeartbeats 1000000 in
theorem TContains_any (g : Nat) (lb : Array Value) (p : List UInt8 → Bool) (w : World) (ad : Option Addr) (ca : Nat) (l : List (List UInt8)) (eg : ∀ args w, (callFunc g args).run Tryz.prog w = .ok (.enter g args) w) (hp : PredT g lb p w) (hs : SlW w ad l) (hl : l.length ≤ 9223372036854775807) :
    Calls Tryz.prog 88 #[.slice ad l.length ca, .func (.func g) #[] lb] w fun e w' => e = .returned (.bool (l.any p)) ∧ RowKit.Below w.heap.size w w' := by
  have hc := TIndex_any g lb p w ad ca l eg hp hs hl
  clear hp hs
  generalize l.any p = q at *
  go_enter Tryz.func88, Tryz.ntmps88
  go_wp2_with fail
  refine hc.mono ?_
  rintro e w1 ⟨⟨r, rfl, hr⟩, hb1⟩
  dsimp only
  go_wp2_with fail
  go_ret
  exact ⟨rfl, hb1⟩
theorem vfault1_any (V : List (List UInt8)) (vd : Option Addr) (vc b : Nat) (x : List UInt8) (W : World) (hb : W.cell? ⟨b, 0, none⟩ = some (.slice vd V.length vc)) (hs : SlW W vd V) (hl : V.length ≤ 100) :
    Calls Tryz.prog 87 #[.string ⟨x.toArray⟩, .pointer (some ⟨b, 0, none⟩)] W fun e w' => e = .returned (.bool (!decide (x ∈ V))) ∧ RowKit.Below W.heap.size W w' := by
  have HC := ContainsW_any vd vc V x W hs (by omega)
  generalize decide (x ∈ V) = d at *
  go_enter Tryz.func87, Tryz.ntmps87
  go_wp2_with fail
  refine HC.mono ?_
  rintro e w1 ⟨rfl, hw1⟩
  subst hw1
  dsimp only
  go_wp2_with fail
  go_ret
  exact ⟨rfl, RowKit.Below.refl _ _⟩
theorem entersVF : ∀ args w, (callFunc 87 args).run Tryz.prog w = .ok (.enter 87 args) w := enters_of Tryz.func87 (by kernel_rfl) rfl
/-- what is wrong with the variables that are told -/
def faultV (T V : List (List UInt8)) : Int := if T = [] then 5 else if (∃ v ∈ T, v ∉ V) then 5 else if ¬ T.Nodup then 7 else 0
theorem any_out {T V : List (List UInt8)} : T.any (fun x => !decide (x ∈ V)) = decide (∃ v ∈ T, v ∉ V) := by
  rw [Bool.eq_iff_iff, List.any_eq_true, decide_eq_true_eq]
  constructor
  · rintro ⟨x, hx, h⟩
    exact ⟨x, hx, by simpa using h⟩
  · rintro ⟨x, hx, h⟩
    exact ⟨x, hx, by simpa using h⟩
set_option maxHeartbeats 4000000 in
set_option maxRecDepth 100000 in
theorem VarsFault_any (T V : List (List UInt8)) (td vd : Option Addr) (tc vc : Nat) (w : World) (hT : SlW w td T) (hV : SlW w vd V) (hl : T.length ≤ 9223372036854775807) (htc : T.length ≤ tc) (hv : V.length ≤ 100) :
    Calls Tryz.prog 54 #[.slice td T.length tc, .slice vd V.length vc] w fun e w' => e = .returned (errV (faultV T V)) ∧ RowKit.Below w.heap.size w w' := by
  obtain ⟨w0, hw0⟩ : ∃ w0, w0 = w.alloc (.cells #[.slice vd V.length vc] 49) := ⟨_, rfl⟩
  have hb0 : RowKit.Below w.heap.size w w0 := by rw [hw0]; exact balloc _ _
  have c0 : w0.cell? ⟨w.heap.size, 0, none⟩ = some (.slice vd V.length vc) := by rw [hw0]; go_simp
  have hT0 := hideQ (hT.below hb0)
  have HC := TContains_any 87 #[.pointer (some ⟨w.heap.size, 0, none⟩)] (fun x => !decide (x ∈ V)) w0 td tc T entersVF (fun W x hW => vfault1_any V vd vc w.heap.size x W ((hW.cell (World.block_lt_of_cell? w0 _ c0)).trans c0) ((hV.below hb0).below hW) hv) hT0.out hl
  rw [any_out] at HC
  have HW := hideQ hw0
  have hF : Hid (faultV T V = if T = [] then 5 else if (∃ v ∈ T, v ∉ V) then 5 else if ¬ T.Nodup then 7 else 0) := rfl
  clear hw0 hT hV c0
  generalize faultV T V = F at *
  by_cases h0 : T = []
  · have d2 : ((T.length : Int) == 0) = true := by simp [h0]
    have fin : Hid (F = 5) := by show _ = _; rw [hF.out, if_pos h0]
    clear h0 HC
    go_enter Tryz.func54, Tryz.ntmps54
    go_wp2_with fail
    go_ret
    exact ⟨ret_val (by rw [fin.out]; rfl), by rw [← HW.out]; exact hb0⟩
  · have d2 : ((T.length : Int) == 0) = false := by simp; exact h0
    by_cases h1 : ∃ v ∈ T, v ∉ V
    · rw [decide_eq_true h1] at HC
      have fin : Hid (F = 5) := by show _ = _; rw [hF.out, if_neg h0, if_pos h1]
      clear h0 h1
      go_enter Tryz.func54, Tryz.ntmps54
      go_wp2_with fail
      rw [← HW.out]
      refine HC.mono ?_
      rintro e w1 ⟨rfl, hb1⟩
      dsimp only
      go_wp2_with fail
      go_ret
      exact ⟨ret_val (by rw [fin.out]; rfl), bstep hb0 hb1⟩
    · rw [decide_eq_false h1] at HC
      have hF2 : Hid (F = if ¬ T.Nodup then 7 else 0) := by show _ = _; rw [hF.out, if_neg h0, if_neg h1]
      clear h0 h1 hF
      go_enter Tryz.func54, Tryz.ntmps54
      go_wp2_with fail
      rw [← HW.out]
      refine HC.mono ?_
      rintro e w1 ⟨rfl, hb1⟩
      dsimp only
      have hT1 := hideQ (hT0.out.below hb1)
      go_wp2_with fail
      go_loop [20] (fun i => ∃ k : Nat, k ≤ T.length ∧ i = .int .i64 k ∧ Hid ((T.take k).Nodup)) (fun i => T.length - (intOf i).toNat)
      case atStart => exact ⟨0, Nat.zero_le _, rfl, by show List.Nodup _; simp⟩
      case round =>
        obtain ⟨k, hk, rfl, hnd⟩ := hrel
        by_cases hlt : k < T.length
        · obtain ⟨b, off, rfl, ck⟩ := hT1.out.at k hlt
          have i0 : (0 : Int) ≤ (k : Int) := by omega
          have i1 : (k : Int) < (T.length : Int) := by omega
          have i2 : (k : Int) ≤ (tc : Int) := by omega
          have hlen : (T.take k).length = k := by rw [List.length_take]; omega
          have HH := ContainsW_any (some ⟨b, off, none⟩) tc (T.take k) T[k] w1 (hT1.out.take k) (by rw [hlen]; omega)
          rw [hlen] at HH
          cases hd : decide (T[k] ∈ T.take k)
          · rw [hd] at HH
            have hnd2 := hideQ (nodup_take hnd.out hlt (by simpa using hd))
            clear hd hnd hlen
            go_wp2_with fail
            refine HH.mono ?_
            rintro e w3 ⟨rfl, hw3⟩
            subst hw3
            dsimp only
            go_wp2_with fail
            exact ⟨⟨k + 1, by omega, by go_num, hnd2⟩, by simp [intOf]; omega⟩
          · rw [hd] at HH
            have fin : Hid (F = 7) := by show _ = _; rw [hF2.out, if_pos (not_nodup hlt (of_decide_eq_true hd))]
            clear hd hnd hlen
            go_wp2_with fail
            refine HH.mono ?_
            rintro e w3 ⟨rfl, hw3⟩
            subst hw3
            dsimp only
            go_wp2_with fail
            go_ret
            exact ⟨ret_val (by rw [fin.out]; rfl), bstep hb0 hb1⟩
        · obtain rfl : k = T.length := by omega
          have hnd' := hnd.out
          rw [List.take_length] at hnd'
          have fin : Hid (F = 0) := by show _ = _; rw [hF2.out, if_neg (fun h => h hnd')]
          clear hnd hnd'
          go_wp2_with fail
          go_ret
          exact ⟨ret_val (by rw [fin.out]; rfl), bstep hb0 hb1⟩
/-! ### Check -/
theorem ask_vof {q : Qu} (h : vofN q.parts ≠ 0) : askN q = vofN q.parts := by
  unfold vofN at h ⊢
  unfold askN
  by_cases h1 : 6 < q.parts.length
  · rw [if_pos h1, if_pos h1]
  · rw [if_neg h1] at h ⊢
    rw [if_neg h1]
    by_cases h2 : q.parts = []
    · rw [if_pos h2, if_pos h2]
    · rw [if_neg h2] at h ⊢
      rw [if_neg h2]
      by_cases h3 : partsN q.parts ≠ 0
      · rw [if_pos h3, if_pos h3]
      · rw [if_neg h3] at h ⊢
        rw [if_neg h3]
        by_cases h4 : 8 < (partsV [] q.parts).length
        · rw [if_pos h4, if_pos h4]
        · rw [if_neg h4] at h
          exact absurd rfl h
theorem ask_fault {q : Qu} (h : vofN q.parts = 0) : askN q = if faultV q.vars (partsV [] q.parts) ≠ 0 then faultV q.vars (partsV [] q.parts) else askE q := by
  unfold vofN at h
  have h1 : ¬ 6 < q.parts.length := fun k => by rw [if_pos k] at h; cases h
  rw [if_neg h1] at h
  have h2 : ¬ q.parts = [] := fun k => by rw [if_pos k] at h; cases h
  rw [if_neg h2] at h
  have h3 : partsN q.parts = 0 := Classical.byContradiction fun k => by rw [if_pos k] at h; exact k h
  rw [if_neg (fun k => k h3)] at h
  have h4 : ¬ 8 < (partsV [] q.parts).length := fun k => by rw [if_pos k] at h; cases h
  rw [ask_tail h1 h2 h3]
  unfold faultV
  by_cases h5 : q.vars = []
  · rw [if_pos h5, askT_nil h4 h5]; rfl
  · by_cases h6 : ∃ v ∈ q.vars, v ∉ partsV [] q.parts
    · rw [if_neg h5, if_pos h6, askT_out h4 h5 h6]; rfl
    · have h6' : ∀ v ∈ q.vars, v ∈ partsV [] q.parts := fun v hv => Classical.byContradiction fun k => h6 ⟨v, hv, k⟩
      by_cases h7 : q.vars.Nodup
      · have hz : (if ¬ q.vars.Nodup then (7 : Int) else 0) = 0 := if_neg (fun k => k h7)
        rw [if_neg h5, if_neg h6, hz, askT_end h4 h5 h6' h7]
        rfl
      · have hz : (if ¬ q.vars.Nodup then (7 : Int) else 0) = 7 := if_pos h7
        rw [if_neg h5, if_neg h6, hz, askT_twice h4 h5 h6' h7]
        rfl

attribute [local go_sem ↓] eqlEmpty neqEmpty
set_option maxHeartbeats 8000000 in
set_option maxRecDepth 100000 in
theorem CheckO_any (q : Qu) (vd pd : Option Addr) (vc pc : Nat) (w : World) (h : QuIn w q vd pd) (hf : FitQ q) (hvc : q.vars.length ≤ vc) :
    Calls Tryz.prog 21 #[valQ q vd vc pd pc] w fun e w' => e = .returned (errV (askN q)) ∧ RowKit.Below w.heap.size w w' := by
  obtain ⟨w1, hw1⟩ : ∃ w1, w1 = w.alloc (.cells #[.slice vd q.vars.length vc, .slice pd q.parts.length pc, .string ⟨q.order.toArray⟩, .bool q.down, .bool q.dist, .int .i64 q.lim] 52) := ⟨_, rfl⟩
  have hb1 : RowKit.Below w.heap.size w w1 := by rw [hw1]; exact balloc _ _
  have HB : Hid (BoxQ w1 w.heap.size q vd pd vc pc) := by show BoxQ _ _ _ _ _ _ _; rw [hw1]; exact boxQ_new _ _ _ _ _ _
  have Hin := hideQ (h.below hb1)
  have HV := VarsOf_any q.parts pd pc w1 (Hin.out.parts) hf.pt hf.pl
  have HF := fun W V ad cap hW hV hv => VarsFault_any q.vars V vd ad vc cap W (Hin.out.vars.below hW) hV hf.vl hvc hv
  have HO := fun W hW => ContainsW_any vd vc q.vars q.order W (Hin.out.vars.below hW) hf.vl
  have hN1 := hideQ (fun h => ask_vof (q := q) h)
  have hN2 := hideQ (fun h => ask_fault (q := q) h)
  have hE : Hid (askE q = if q.order ≠ [] ∧ q.order ∉ q.vars then 5 else if q.down = true ∧ q.order = [] then 3 else if q.lim < -1 ∨ 500 < q.lim then 1 else 0) := rfl
  have HW := hideQ hw1
  unfold valQ
  clear h hf hw1
  unfold VofAns at HV
  generalize askN q = N at *
  generalize askE q = E at *
  generalize vofN q.parts = vn at *
  go_enter Tryz.func21, Tryz.ntmps21
  go_upto_region 1 with fail
  rw [← HW.out]
  obtain ⟨c0, c1, c2, c3, c4, c5⟩ := HB.out
  go_wp2_with fail
  refine HV.mono ?_
  rintro e w2 ⟨m, ad, cap, rfl, hm, hml, hme, hb2⟩
  dsimp only
  clear HV c0 c1 c2 c3 c4 c5
  by_cases h0 : vn = 0
  · subst h0
    have em := hme rfl
    have HFW := HF w2 m ad cap hb2 hm hml
    have hN3 := hideQ (hN2.out rfl)
    rw [← em] at hN3
    obtain ⟨c0, c1, c2, c3, c4, c5⟩ := HB.out.below hb2
    clear HF hme em hN1 hN2
    generalize faultV q.vars m = fn at *
    go_wp2_with fail
    refine HFW.mono ?_
    rintro e w3 ⟨rfl, hb3⟩
    dsimp only
    clear c0 c1 c2 c3 c4 c5 HFW
    by_cases h1 : fn = 0
    · subst h1
      have hN4 : Hid (N = E) := by show _ = _; rw [hN3.out]; rfl
      have hB3 := bstep hb2 hb3
      obtain ⟨c0, c1, c2, c3, c4, c5⟩ := HB.out.below hB3
      have HC := HO w3 hB3
      have hBB := bstep hb1 hB3
      clear HO hN3
      cases ho : q.order.isEmpty with
      | true =>
        have ho' : q.order = [] := by simpa using ho
        have e1 : Hid (E = if q.down = true then 3 else if q.lim < -1 ∨ 500 < q.lim then 1 else 0) := by show _ = _; rw [hE.out, if_neg (fun k => k.1 ho')]; simp [ho']
        clear hE HC ho'
        cases hd : q.down with
        | true =>
          have fin : Hid (N = 3) := by show _ = _; rw [hN4.out, e1.out, if_pos hd]
          rw [hd] at c3
          go_wp2_with fail
          go_ret
          exact ⟨ret_val (by rw [fin.out]; rfl), hBB⟩
        | false =>
          have e2 : Hid (E = if q.lim < -1 ∨ 500 < q.lim then 1 else 0) := by show _ = _; rw [e1.out, if_neg (by rw [hd]; simp)]
          rw [hd] at c3
          clear e1
          by_cases l1 : q.lim < -1
          · have dl : decide (q.lim < -1) = true := by simpa using l1
            have fin : Hid (N = 1) := by show _ = _; rw [hN4.out, e2.out, if_pos (Or.inl l1)]
            clear l1
            go_wp2_with fail
            go_ret
            exact ⟨ret_val (by rw [fin.out]; rfl), hBB⟩
          · have dl : decide (q.lim < -1) = false := by simpa using l1
            by_cases l2 : 500 < q.lim
            · have dm : decide (q.lim > 500) = true := by simpa using l2
              have fin : Hid (N = 1) := by show _ = _; rw [hN4.out, e2.out, if_pos (Or.inr l2)]
              clear l1 l2
              go_wp2_with fail
              go_ret
              exact ⟨ret_val (by rw [fin.out]; rfl), hBB⟩
            · have dm : decide (q.lim > 500) = false := by simpa using l2
              have fin : Hid (N = 0) := by show _ = _; rw [hN4.out, e2.out, if_neg (by omega)]
              clear l1 l2
              go_wp2_with fail
              go_ret
              exact ⟨ret_val (by rw [fin.out]; rfl), hBB⟩
      | false =>
        have ho' : q.order ≠ [] := by simpa using ho
        cases hm2 : decide (q.order ∈ q.vars) with
        | false =>
          have fin : Hid (N = 5) := by show _ = _; rw [hN4.out, hE.out, if_pos ⟨ho', by simpa using hm2⟩]
          rw [hm2] at HC
          clear ho' hm2 hE
          go_wp2_with fail
          refine HC.mono ?_
          rintro e w4 ⟨rfl, hw4⟩
          subst hw4
          dsimp only
          go_wp2_with fail
          go_ret
          exact ⟨ret_val (by rw [fin.out]; rfl), hBB⟩
        | true =>
          have e2 : Hid (E = if q.lim < -1 ∨ 500 < q.lim then 1 else 0) := by show _ = _; rw [hE.out, if_neg (fun k => k.2 (of_decide_eq_true hm2)), if_neg (fun k => ho' k.2)]
          rw [hm2] at HC
          clear ho' hm2 hE
          go_wp2_with fail
          refine HC.mono ?_
          rintro e w4 ⟨rfl, hw4⟩
          subst hw4
          dsimp only
          by_cases l1 : q.lim < -1
          · have dl : decide (q.lim < -1) = true := by simpa using l1
            have fin : Hid (N = 1) := by show _ = _; rw [hN4.out, e2.out, if_pos (Or.inl l1)]
            clear l1
            cases hd : q.down
            all_goals
              rw [hd] at c3
              go_wp2_with fail
              go_ret
              exact ⟨ret_val (by rw [fin.out]; rfl), hBB⟩
          · have dl : decide (q.lim < -1) = false := by simpa using l1
            by_cases l2 : 500 < q.lim
            · have dm : decide (q.lim > 500) = true := by simpa using l2
              have fin : Hid (N = 1) := by show _ = _; rw [hN4.out, e2.out, if_pos (Or.inr l2)]
              clear l1 l2
              cases hd : q.down
              all_goals
                rw [hd] at c3
                go_wp2_with fail
                go_ret
                exact ⟨ret_val (by rw [fin.out]; rfl), hBB⟩
            · have dm : decide (q.lim > 500) = false := by simpa using l2
              have fin : Hid (N = 0) := by show _ = _; rw [hN4.out, e2.out, if_neg (by omega)]
              clear l1 l2
              cases hd : q.down
              all_goals
                rw [hd] at c3
                go_wp2_with fail
                go_ret
                exact ⟨ret_val (by rw [fin.out]; rfl), hBB⟩
    · have hne : (fn == 0) = false := by simpa using h1
      have hne2 : (fn != 0) = true := by simpa using h1
      have fin : Hid (N = fn) := by show _ = _; rw [hN3.out, if_pos h1]
      clear h1 hN3
      go_wp2_with fail
      go_ret
      exact ⟨ret_val (by rw [fin.out]; rfl), bstep hb1 (bstep hb2 hb3)⟩
  · have hne : (vn == 0) = false := by simpa using h0
    have hne2 : (vn != 0) = true := by simpa using h0
    have fin := hideQ (hN1.out h0)
    clear h0 hN1 hN2 hme
    go_wp2_with fail
    go_ret
    exact ⟨ret_val (by rw [fin.out]; rfl), bstep hb1 hb2⟩
end Go.Proofs.YtenakehnnmencagGreatDoor

/- ask.Parse, over its reader of numbers. -/
namespace Go.Proofs.YtenakehnnmencagGreatDoor
open Go Go.RowKit Go.Proofs Go.Maps
set_option synthInstance.maxSize 1000

attribute [local go_sem] eql_errV neq_errV guard_errV

theorem takeV_fit : ∀ (L : List (List UInt8)), (∀ v ∈ (takeV L).1, v.length ≤ 10) ∧ (takeV L).1.length ≤ L.length
  | [] => ⟨fun v h => (by cases h), Nat.le_refl _⟩
  | w :: r => by
    by_cases h : varW w = true
    · rw [takeV_next r h]
      obtain ⟨h1, h2⟩ := takeV_fit r
      refine ⟨fun v hv => ?_, by simp; omega⟩
      rcases List.mem_cons.1 hv with rfl | hv
      · exact var_short (varW_true h).2.2
      · exact h1 v hv
    · rw [takeV, if_neg h]
      exact ⟨fun v hv => (by cases hv), Nat.zero_le _⟩
theorem hasW_len (s : InS) (x : List UInt8) : (hasW s x).1.length ≤ s.1.length := by
  unfold hasW
  split <;> simp
theorem ownHead_fit (L : List (List UInt8)) : (∀ v ∈ (ownHead L).2.1, v.length ≤ 10) ∧ (ownHead L).2.1.length ≤ L.length := by
  unfold ownHead
  split
  · obtain ⟨h1, h2⟩ := takeV_fit (hasW (L.tail, false) wDist).1
    have h3 := hasW_len (L.tail, false) wDist
    refine ⟨h1, ?_⟩
    simp at h3 ⊢
    omega
  · exact ⟨fun v hv => (by cases hv), Nat.zero_le _⟩
theorem limO_fit {num : List UInt8 → Option Int} (H : NumOK num) (s : InS) : -1 ≤ (limO num s).1 ∧ (limO num s).1 ≤ 9223372036854775807 := by
  unfold limO
  split
  · split
    · simp
    · rename_i w r _
      cases hn : num w with
      | none => simp
      | some n =>
        have := H.fit w n hn
        simp
        omega
  · simp
theorem ownQ_fit {num : List UInt8 → Option Int} (H : NumOK num) (L : List (List UInt8)) (hL : L.length ≤ 1000000000) : FitQ (ownQ num L).1 := by
  obtain ⟨h1, h2⟩ := ownHead_fit L
  unfold ownQ
  dsimp only
  generalize ownHead L = OH at *
  have hp : (∀ p ∈ (if OH.2.2.2 = true then (([] : List Pt), OH.2.2) else partsS (L.length + 1) OH.2.2 []).1, fitPt p) ∧ (if OH.2.2.2 = true then (([] : List Pt), OH.2.2) else partsS (L.length + 1) OH.2.2 []).1.length ≤ L.length + 1 := by
    split
    · exact ⟨fun p h => (by cases h), Nat.zero_le _⟩
    · have := parts_fit (L.length + 1) OH.2.2 [] (fun p h => by cases h)
      simpa using this
  generalize (if OH.2.2.2 = true then (([] : List Pt), OH.2.2) else partsS (L.length + 1) OH.2.2 []) = PP at *
  have ho := ord_fit PP.2
  have hl := limO_fit H (ordS PP.2).2.2
  refine ⟨show OH.2.1.length ≤ _ by omega, show PP.1.length ≤ _ by omega, fun v hv => ?_, hp.1, show (ordS PP.2).1.length ≤ _ from ?_, ?_⟩
  · have := h1 v hv
    unfold maxLen
    omega
  · unfold maxLen
    omega
  · have e1 : IntKind.i64.min = -9223372036854775808 := by decide
    have e2 : IntKind.i64.max = 9223372036854775807 := by decide
    simp [Lit.wf, e1, e2]
    omega
/-- six cells that hold a question: the answer's box -/
theorem sixO_other {W : World} {b j : Nat} (h : j ≠ b) (v0 v1 v2 v3 v4 v5 : Value) (o : Nat) : ((((((W.setCell ⟨b, 0, none⟩ v0).setCell ⟨b, 1, none⟩ v1).setCell ⟨b, 2, none⟩ v2).setCell ⟨b, 3, none⟩ v3).setCell ⟨b, 4, none⟩ v4).setCell ⟨b, 5, none⟩ v5).cell? ⟨j, o, none⟩ = W.cell? ⟨j, o, none⟩ := by
  simp only [World.cell?]
  rw [heapO_other _ _ _ _ _ h, heapO_other _ _ _ _ _ h, heapO_other _ _ _ _ _ h, heapO_other _ _ _ _ _ h, heapO_other _ _ _ _ _ h, heapO_other _ _ _ _ _ h]
theorem sixO_in {W : World} {b : Nat} {q : Qu} {vd pd : Option Addr} (h : QuIn W q vd pd) (hv : ∀ a, vd = some a → a.block ≠ b) (hp : ∀ a, pd = some a → a.block ≠ b) (v0 v1 v2 v3 v4 v5 : Value) :
    QuIn ((((((W.setCell ⟨b, 0, none⟩ v0).setCell ⟨b, 1, none⟩ v1).setCell ⟨b, 2, none⟩ v2).setCell ⟨b, 3, none⟩ v3).setCell ⟨b, 4, none⟩ v4).setCell ⟨b, 5, none⟩ v5) q vd pd := by
  refine ⟨fun hl => ?_, fun hl => ?_⟩
  · obtain ⟨c, o, e, r⟩ := h.vars hl
    exact ⟨c, o, e, fun j hj => (sixO_other (hv _ e) _ _ _ _ _ _ _).trans (r j hj)⟩
  · obtain ⟨c, o, e, r⟩ := h.parts hl
    exact ⟨c, o, e, fun j v hj => (sixO_other (hp _ e) _ _ _ _ _ _ _).trans (r j v hj)⟩
set_option maxHeartbeats 8000000 in
set_option maxRecDepth 100000 in
theorem ParseO_any (V : List UInt8 → Int) (B : List UInt8 → Bool) (H : NumOK (numBy V B)) (s : List UInt8) (w : World) (hl : s.length ≤ 100000000) (hnum : ∀ W1, RowKit.Below w.heap.size w W1 → ReadsW 136 #[] (fun x => .int .i64 (V x)) B W1) :
    Calls Tryz.prog 25 #[.string ⟨s.toArray⟩] w (AskAns (parseON (numBy V B) s) (parseOP (numBy V B) s) w s) := by
  obtain ⟨w1, hw1⟩ : ∃ w1, w1 = w.alloc (.cells #[.slice none 0 0, .slice none 0 0, .string ⟨#[]⟩, .bool false, .bool false, .int .i64 0] 52) := ⟨_, rfl⟩
  have hb1 : RowKit.Below w.heap.size w w1 := by rw [hw1]; exact balloc _ _
  have hz1 : Hid (w1.heap.size = w.heap.size + 1) := by show _ = _; rw [hw1]; simp
  have r0 : w1.cell? ⟨w.heap.size, 0, none⟩ = some (.slice none 0 0) := by rw [hw1]; go_simp
  have r1 : w1.cell? ⟨w.heap.size, 1, none⟩ = some (.slice none 0 0) := by rw [hw1]; go_simp
  have r2 : w1.cell? ⟨w.heap.size, 2, none⟩ = some (.string ⟨#[]⟩) := by rw [hw1]; go_simp
  have r3 : w1.cell? ⟨w.heap.size, 3, none⟩ = some (.bool false) := by rw [hw1]; go_simp
  have r4 : w1.cell? ⟨w.heap.size, 4, none⟩ = some (.bool false) := by rw [hw1]; go_simp
  have r5 : w1.cell? ⟨w.heap.size, 5, none⟩ = some (.int .i64 0) := by rw [hw1]; go_simp
  have f0 : ∀ o, w1.frozen? ⟨w.heap.size, o, none⟩ = false := fun o => by
    have h9 : w1.heap[w.heap.size]? = some (.cells #[.slice none 0 0, .slice none 0 0, .string ⟨#[]⟩, .bool false, .bool false, .int .i64 0] 52) := by rw [hw1]; exact heap_alloc_new w _
    simp [World.frozen?, h9]
  have HW := hideK hw1
  have HR := read_own V B s w1 hl (fun W1 hW1 => hnum W1 (bstep hb1 hW1))
  have own := hideK (parse_own H s)
  have hfit := hideK (ownQ_fit H (wordsL s) (by have := (words_len s).1; omega))
  have hon : Hid (parseON (numBy V B) s = if (ownQ (numBy V B) (wordsL s)).2.2 = true then 2 else askN (ownQ (numBy V B) (wordsL s)).1) := rfl
  have hop : Hid (parseOP (numBy V B) s = if (ownQ (numBy V B) (wordsL s)).2.2 = true then (wordsL s).length - (ownQ (numBy V B) (wordsL s)).2.1.length else 0) := rfl
  have hqq : Hid (parseQQ s = if parseQN s = 0 then (readQ (wordsL s)).1 else quZero) := rfl
  obtain ⟨Q, hQ⟩ : ∃ Q, Q = AskAns (parseON (numBy V B) s) (parseOP (numBy V B) s) w s := ⟨_, rfl⟩
  have HQ : Hid (∀ e w', AskAns (parseON (numBy V B) s) (parseOP (numBy V B) s) w s e w' → Q e w') := fun e w' h => by rw [hQ]; exact h
  rw [← hQ]
  clear hQ hw1 hl hnum
  unfold AskAns at HQ
  unfold ReadAns at HR
  have hzero : Hid (parseON (numBy V B) s ≠ 0 → parseQQ s = quZero) := fun h => by rw [hqq.out, if_neg (fun k => h (own.out.1.2 k))]
  have hgood : Hid (parseON (numBy V B) s = 0 → parseQQ s = (ownQ (numBy V B) (wordsL s)).1 ∧ parseOP (numBy V B) s = 0) := fun h => ⟨(own.out.2 h).1.symm, (own.out.2 h).2⟩
  generalize parseON (numBy V B) s = PN at *
  generalize parseOP (numBy V B) s = PP at *
  generalize parseQQ s = PQ at *
  generalize (wordsL s).length - (ownQ (numBy V B) (wordsL s)).2.1.length = place at *
  generalize ownQ (numBy V B) (wordsL s) = OQ at *
  clear own hqq
  obtain ⟨qo, M, bad⟩ := OQ
  dsimp only at *
  go_enter Tryz.func25, Tryz.ntmps25
  go_upto_region 1 with fail
  rw [← HW.out]
  go_wp2_with fail
  refine HR.mono ?_
  rintro e w2 ⟨q, vd, vc, pd, pc, rfl, hin, hvc, hpc, hqe, nv, np, hb2⟩
  unfold valQ
  dsimp only
  obtain ⟨kc, kf⟩ := bcell hb2
  have zr : w.heap.size < w1.heap.size := by have := hz1.out; omega
  have s0 := (kc _ 0 zr).trans r0
  have s1 := (kc _ 1 zr).trans r1
  have s2 := (kc _ 2 zr).trans r2
  have s3 := (kc _ 3 zr).trans r3
  have s4 := (kc _ 4 zr).trans r4
  have s5 := (kc _ 5 zr).trans r5
  have t0 := (kf _ 0 zr).trans (f0 0)
  have t1 := (kf _ 1 zr).trans (f0 1)
  have t2 := (kf _ 2 zr).trans (f0 2)
  have t3 := (kf _ 3 zr).trans (f0 3)
  have t4 := (kf _ 4 zr).trans (f0 4)
  have t5 := (kf _ 5 zr).trans (f0 5)
  have z2 := hb2.size
  have zz : w.heap.size < w2.heap.size := by omega
  have zne : w2.heap.size ≠ w.heap.size := by omega
  have hbw := bstep hb1 hb2
  have Hin := hideK hin
  have Hqe := hideK hqe
  have Hnv : Hid (∀ a, vd = some a → a.block ≠ w.heap.size) := fun a ha => by have := nv a ha; omega
  have Hnp : Hid (∀ a, pd = some a → a.block ≠ w.heap.size) := fun a ha => by have := np a ha; omega
  clear kc kf r0 r1 r2 r3 r4 r5 f0 HR hin hqe nv np
  obtain ⟨w3, hw3⟩ : ∃ w3, w3 = w2.alloc (.cells #[.slice vd q.vars.length vc, .slice pd q.parts.length pc, .string ⟨q.order.toArray⟩, .bool q.down, .bool q.dist, .int .i64 q.lim] 52) := ⟨_, rfl⟩
  have hb3 : RowKit.Below w2.heap.size w2 w3 := by rw [hw3]; exact balloc _ _
  have HB3 : Hid (BoxQ w3 w2.heap.size q vd pd vc pc) := by show BoxQ _ _ _ _ _ _ _; rw [hw3]; exact boxQ_new _ _ _ _ _ _
  have HW3 := hideK hw3
  have HS : Hid (∀ W, RowKit.Below w2.heap.size w2 W → (W.cell? ⟨w.heap.size, 0, none⟩ = some (.slice none 0 0) ∧ W.cell? ⟨w.heap.size, 1, none⟩ = some (.slice none 0 0) ∧ W.cell? ⟨w.heap.size, 2, none⟩ = some (.string ⟨#[]⟩) ∧ W.cell? ⟨w.heap.size, 3, none⟩ = some (.bool false) ∧ W.cell? ⟨w.heap.size, 4, none⟩ = some (.bool false) ∧ W.cell? ⟨w.heap.size, 5, none⟩ = some (.int .i64 0)) ∧ (W.frozen? ⟨w.heap.size, 0, none⟩ = false ∧ W.frozen? ⟨w.heap.size, 1, none⟩ = false ∧ W.frozen? ⟨w.heap.size, 2, none⟩ = false ∧ W.frozen? ⟨w.heap.size, 3, none⟩ = false ∧ W.frozen? ⟨w.heap.size, 4, none⟩ = false ∧ W.frozen? ⟨w.heap.size, 5, none⟩ = false) ∧ w.heap.size < W.heap.size) := fun W hW => by
    obtain ⟨kc, kf⟩ := bcell hW
    exact ⟨⟨(kc _ 0 zz).trans s0, (kc _ 1 zz).trans s1, (kc _ 2 zz).trans s2, (kc _ 3 zz).trans s3, (kc _ 4 zz).trans s4, (kc _ 5 zz).trans s5⟩, ⟨(kf _ 0 zz).trans t0, (kf _ 1 zz).trans t1, (kf _ 2 zz).trans t2, (kf _ 3 zz).trans t3, (kf _ 4 zz).trans t4, (kf _ 5 zz).trans t5⟩, by have := hW.size; omega⟩
  have H6 : Hid (∀ W, RowKit.Below w.heap.size w W → ∀ v0 v1 v2 v3 v4 v5, RowKit.Below w.heap.size w ((((((W.setCell ⟨w.heap.size, 0, none⟩ v0).setCell ⟨w.heap.size, 1, none⟩ v1).setCell ⟨w.heap.size, 2, none⟩ v2).setCell ⟨w.heap.size, 3, none⟩ v3).setCell ⟨w.heap.size, 4, none⟩ v4).setCell ⟨w.heap.size, 5, none⟩ v5)) := fun W hW v0 v1 v2 v3 v4 v5 =>
    (((((hW.setCell (p := ⟨w.heap.size, 0, none⟩) (Nat.le_refl _) _).setCell (p := ⟨w.heap.size, 1, none⟩) (Nat.le_refl _) _).setCell (p := ⟨w.heap.size, 2, none⟩) (Nat.le_refl _) _).setCell (p := ⟨w.heap.size, 3, none⟩) (Nat.le_refl _) _).setCell (p := ⟨w.heap.size, 4, none⟩) (Nat.le_refl _) _).setCell (p := ⟨w.heap.size, 5, none⟩) (Nat.le_refl _) _
  clear hw3 s0 s1 s2 s3 s4 s5 t0 t1 t2 t3 t4 t5
  go_upto_region 2 with fail
  rw [← HW3.out]
  cases bad
  · have eq : q = qo := Hqe.out rfl
    subst eq
    have e1 : Hid (PN = askN q) := hon.out
    have HC := CheckO_any q vd pd vc pc w3 (Hin.out.below hb3) hfit.out hvc
    obtain ⟨b0, b1, b2, b3, b4, b5⟩ := HB3.out
    unfold valQ at HC
    generalize hN : askN q = N at *
    have HN := hideK hN
    clear hN
    go_wp2_with fail
    refine HC.mono ?_
    rintro e w4 ⟨rfl, hb4⟩
    dsimp only
    have hb24 := bstep hb3 hb4
    obtain ⟨⟨s0, s1, s2, s3, s4, s5⟩, ⟨t0, t1, t2, t3, t4, t5⟩, zz4⟩ := HS.out w4 hb24
    clear b0 b1 b2 b3 b4 b5
    by_cases h0 : N = 0
    · subst h0
      obtain ⟨g1, g2⟩ := hgood.out e1.out
      have G1 := hideK g1
      have G2 := hideK g2
      obtain ⟨b0, b1, b2, b3, b4, b5⟩ := HB3.out.below hb4
      have hin4 := hideK (sixO_in (Hin.out.below hb24) Hnv.out Hnp.out (.slice vd q.vars.length vc) (.slice pd q.parts.length pc) (.string ⟨q.order.toArray⟩) (.bool q.down) (.bool q.dist) (.int .i64 q.lim))
      clear g1 g2
      go_wp2_with fail
      exact bodyPost_ret (v := .tuple #[.agg #[.slice vd q.vars.length vc, .slice pd q.parts.length pc, .string ⟨q.order.toArray⟩, .bool q.down, .bool q.dist, .int .i64 q.lim], .int .i64 0, .nilIface]) (by simp [results, Tryz.results25, go_sem, s0, s1, s2, s3, s4, s5]) rfl (HQ.out _ _ ⟨vd, vc, pd, pc, by rw [G1.out, G2.out, e1.out]; rfl, by rw [G1.out]; exact hin4.out, by rw [G1.out]; exact hvc, by rw [G1.out]; exact hpc, H6.out _ (bstep hbw hb24) _ _ _ _ _ _⟩)
    · have hne : (N == 0) = false := by simpa using h0
      have hne2 : (N != 0) = true := by simpa using h0
      have G1 := hideK (hzero.out (by rw [e1.out]; exact h0))
      have G2 : Hid (PP = 0) := hop.out
      clear h0
      go_wp2_with fail
      exact bodyPost_ret (v := .tuple #[.agg #[.slice none 0 0, .slice none 0 0, .string ⟨#[]⟩, .bool false, .bool false, .int .i64 0], .int .i64 0, errV N]) (by simp [results, Tryz.results25, go_sem, s0, s1, s2, s3, s4, s5]) rfl (HQ.out _ _ ⟨none, 0, none, 0, by rw [G1.out, G2.out, e1.out]; rfl, by rw [G1.out]; exact ⟨slW_nil _ _, slPt_nil _ _⟩, by rw [G1.out]; exact Nat.le_refl _, by rw [G1.out]; exact Nat.le_refl _, H6.out _ (bstep hbw hb24) _ _ _ _ _ _⟩)
  · have e1 : Hid (PN = 2) := hon.out
    have G1 := hideK (hzero.out (by rw [e1.out]; decide))
    have G2 : Hid (PP = place) := hop.out
    obtain ⟨⟨s0, s1, s2, s3, s4, s5⟩, ⟨t0, t1, t2, t3, t4, t5⟩, zz4⟩ := HS.out w3 hb3
    go_wp2_with fail
    exact bodyPost_ret (v := .tuple #[.agg #[.slice none 0 0, .slice none 0 0, .string ⟨#[]⟩, .bool false, .bool false, .int .i64 0], .int .i64 (place : Int), errV 2]) (by simp [results, Tryz.results25, go_sem, s0, s1, s2, s3, s4, s5]; rfl) rfl (HQ.out _ _ ⟨none, 0, none, 0, by rw [G1.out, G2.out, e1.out]; rfl, by rw [G1.out]; exact ⟨slW_nil _ _, slPt_nil _ _⟩, by rw [G1.out]; exact Nat.le_refl _, by rw [G1.out]; exact Nat.le_refl _, H6.out _ (bstep hbw hb3) _ _ _ _ _ _⟩)
end Go.Proofs.YtenakehnnmencagGreatDoor
