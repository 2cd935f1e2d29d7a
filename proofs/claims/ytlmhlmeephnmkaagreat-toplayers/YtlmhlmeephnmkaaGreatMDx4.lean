import Derived.Test.YtlmhlmeephnmkaaGreatMDx3
import Derived.Test.YtlmhlmeephnmkaaGreatMDx1
import Derived.Test.YtlmhlmeephnmkaaGreatMDx2
import Derived.Deep.DeepCutAuto
import Derived.Shelf.SlSortCmp.Whole1
import Derived.Lib.SlicesCompact
import Derived.Test.YtlmhlmeephnmkaaGreatMA0x1

/- The document's Vars of a question (package strataref3). -/
namespace Go.Proofs.YtlmhlmeephnmkaaGreat
open Go Go.RowKit Go.Proofs Go.Maps
set_option synthInstance.maxSize 1000

theorem addAll_step (o l : List (List UInt8)) (k : Nat) (h : k < l.length) : addAll o (l.take (k + 1)) = if l[k] ∈ addAll o (l.take k) then addAll o (l.take k) else addAll o (l.take k) ++ [l[k]] := by
  induction l generalizing o k with
  | nil => simp at h
  | cons x r ih =>
    cases k with
    | zero => simp [addAll]
    | succ k =>
      have h' : k < r.length := by simpa using h
      simp only [List.take_succ_cons, addAll, List.getElem_cons_succ]
      exact ih _ k h'
theorem addAll_len (o l : List (List UInt8)) : (addAll o l).length ≤ o.length + l.length := by
  induction l generalizing o with
  | nil => simp [addAll]
  | cons x r ih =>
    have := ih (if x ∈ o then o else o ++ [x])
    unfold addAll
    split at this
    · rename_i hx; rw [if_pos hx]; simp; omega
    · rename_i hx; rw [if_neg hx]; simp at this ⊢; omega
theorem varsL_len (p : Pt) : (varsL p).length ≤ 3 := by
  have q : ∀ l s, (addV l s).length ≤ l.length + 1 := fun l s => by
    unfold addV
    split
    · omega
    · split
      · omega
      · simp
  have h1 := q [] p.1
  have h2 := q (addV [] p.1) p.2.1
  have h3 := q (addV (addV [] p.1) p.2.1) p.2.2
  unfold varsL
  simp at h1
  omega

/-- an append of a text to a row of one's own: just that row turns -/
theorem wpList_append_text {ops : Array Oper} {rest : List Oper} {o : Oper} {a : Act} {Q : Exit → Act → World → Prop} (w : World) (hgd : o.guard = none) (s x : Operand)
    (ho : o.op = .call { callee := .builtin .append, args := #[s, x], argTypes := #[59, 59] })
    (base B : Nat) (v : Value) (t : List (List UInt8)) (y : List UInt8) (hs : a.eval s = v) (hx : a.eval x = .slice (some ⟨B, 0, none⟩) 1 1) (hown : w.ownsRow base 9 1 v t.length (t.map encV))
    (hy : w.cell? ⟨B, 0, none⟩ = some (.string ⟨y.toArray⟩)) (h63 : t.length ≤ 1000000000000) (hbase : base ≤ w.heap.size)
    (h : ∀ v' w', w'.ownsRow base 9 1 v' (t ++ [y]).length ((t ++ [y]).map encV) → w.grownBy w' v.ownBlock → (v'.ownBlock = v.ownBlock ∨ v'.ownBlock = some w.heap.size) → wpList Tryz.prog ops Q rest (a.put o.dst v') w') : wpList Tryz.prog ops Q (o :: rest) a w := by
  obtain ⟨i0, hi, hz⟩ := Option.map_eq_some_iff.1 infoStrV
  simp only [Prod.mk.injEq] at hz
  obtain ⟨hz0, hz1, hz2⟩ := hz
  refine wpList_append_own_at _ hgd s x _ ho base 9 i0 (.string ByteArray.empty) 1 16 Tryz.underlying59 hi hz0 hz1 hz2 rfl (by decide) v t.length (t.map encV) hs hown ⟨B, 0, none⟩ 1 1 [encV y] hx rfl ?_ (by simp [encV, Value.oneCell']) (by unfold maxLen; omega) (by omega) hbase ?_
  · intro j u hj
    have h1 : j < 1 := (List.getElem?_eq_some_iff.1 hj).1
    obtain rfl : j = 0 := by omega
    simp at hj
    subst hj
    rw [Addr.add_lit]
    exact hy
  · intro v' w' h2 h3 _ h5
    refine h v' w' ?_ h3 h5
    simpa using h2

end Go.Proofs.YtlmhlmeephnmkaaGreat

/- ask.varsOf: the variables of all parts, or what is wrong with them; slices.Contains at texts. -/
namespace Go.Proofs.YtlmhlmeephnmkaaGreat
open Go Go.RowKit Go.Proofs Go.Maps
set_option synthInstance.maxSize 1000

attribute [local go_sem] eql_errV neq_errV guard_errV

theorem ContainsW_any (ad : Option Addr) (cap : Nat) (l : List (List UInt8)) (x : List UInt8) (w : World) (h : SlW w ad l) (hn : l.length ≤ 9223372036854775807) :
    Calls Tryz.prog 105 #[.slice ad l.length cap, .string ⟨x.toArray⟩] w fun e w' => e = .returned (.bool (decide (x ∈ l))) ∧ w' = w := by
  cases hl : l with
  | nil =>
    simpa using Tryz.slices_Contains_string_empty ad cap ⟨x.toArray⟩ w
  | cons c r =>
    rw [← hl]
    obtain ⟨b, o, rfl, hr⟩ := h (by rw [hl]; simp)
    refine (Tryz.slices_Contains_string b o l.length cap (l.map fun v => ⟨v.toArray⟩) ⟨x.toArray⟩ w (by simp) (by omega) ?_).mono ?_
    · intro j hj
      have hj' : j < l.length := by simpa using hj
      rw [hr j hj']
      simp [encV, List.getD_eq_getElem?_getD, List.getElem?_eq_getElem hj']
    · rintro e w' ⟨rfl, rfl⟩
      refine ⟨ret_bool ?_, rfl⟩
      rw [show l.length = (l.map fun v => (⟨v.toArray⟩ : ByteArray)).length by simp, List.take_length, Bool.eq_iff_iff, Lib.containsS_iff]
      simp only [List.mem_map, decide_eq_true_eq]
      constructor
      · rintro ⟨v, hv, e⟩
        have := congrArg (fun s : ByteArray => s.data.toList) e
        simp at this
        exact this ▸ hv
      · intro hx
        exact ⟨x, hx, rfl⟩
/-- what varsOf tells of parts -/
def vofN (L : List Pt) : Int := if 6 < L.length then 4 else if L = [] then 5 else if partsN L ≠ 0 then partsN L else if 8 < (partsV [] L).length then 4 else 0
def VofAns (L : List Pt) (w : World) (e : Ending) (w' : World) : Prop := ∃ m ad cap, e = .returned (.tuple #[.slice ad m.length cap, errV (vofN L)]) ∧ SlW w' ad m ∧ m.length ≤ 100 ∧ (vofN L = 0 → m = partsV [] L) ∧ RowKit.Below w.heap.size w w'
theorem vof_nil {L : List Pt} {w w' : World} {n : Int} (h : vofN L = n) (hn : n ≠ 0) (hb : RowKit.Below w.heap.size w w') : VofAns L w (.returned (.tuple #[.slice none 0 0, errV n])) w' :=
  ⟨[], none, 0, by rw [h]; rfl, slW_nil _ _, by simp, fun h0 => absurd (h.symm.trans h0) hn, hb⟩

set_option maxHeartbeats 16000000 in
set_option maxRecDepth 100000 in
theorem VarsOf_any (L : List Pt) (pd : Option Addr) (pc : Nat) (w : World) (h : SlPt w pd L) (hf : ∀ p ∈ L, fitPt p) (hl : L.length ≤ 9223372036854775807) :
    Calls Tryz.prog 103 #[.slice pd L.length pc] w (VofAns L w) := by
  obtain ⟨Q, hQ⟩ : ∃ Q, Q = VofAns L w := ⟨_, rfl⟩
  have HQ : Hid (∀ e w', VofAns L w e w' → Q e w') := fun e w' h => by rw [hQ]; exact h
  rw [← hQ]
  clear hQ
  by_cases h6 : 6 < L.length
  · have d1 : decide ((L.length : Int) > 6) = true := by simp; omega
    have fin := hideQ (show vofN L = 4 by unfold vofN; rw [if_pos h6])
    go_enter Tryz.func103, Tryz.ntmps103
    go_wp2_with fail
    exact HQ.out _ _ (vof_nil fin.out (by decide) (RowKit.Below.refl _ _))
  · have d1 : decide ((L.length : Int) > 6) = false := by simp; omega
    by_cases h0 : L = []
    · have d2 : ((L.length : Int) == 0) = true := by simp [h0]
      have fin := hideQ (show vofN L = 5 by unfold vofN; rw [if_neg h6, if_pos h0])
      clear h0
      go_enter Tryz.func103, Tryz.ntmps103
      go_wp2_with fail
      exact HQ.out _ _ (vof_nil fin.out (by decide) (RowKit.Below.refl _ _))
    · have d2 : ((L.length : Int) == 0) = false := by simp; exact h0
      have f1 := hideQ (fun h => show vofN L = partsN L by unfold vofN; rw [if_neg h6, if_neg h0, if_pos h])
      have f2 := hideQ (fun h h' => show vofN L = 4 by unfold vofN; rw [if_neg h6, if_neg h0, if_neg (fun k => k h), if_pos h'])
      have f3 := hideQ (fun h h' => show vofN L = 0 by unfold vofN; rw [if_neg h6, if_neg h0, if_neg (fun k => k h), if_neg h'])
      have Hp := hideQ h
      have Hf := hideQ hf
      clear h hf h0
      generalize hPN : partsN L = N at *
      have HPN := hideQ hPN
      generalize hPV : partsV [] L = V at *
      have HPV := hideQ hPV
      clear hPN hPV
      go_enter Tryz.func103, Tryz.ntmps103
      go_wp2_with fail
      go_loopw [4, 23] (fun v i wr => ∃ (k : Nat) (o : List (List UInt8)), k ≤ L.length ∧ i = .int .i64 k ∧ o.length ≤ 3 * k ∧ Hid (wr.ownsRow w.heap.size 9 1 v o.length (o.map encV)) ∧ Hid (N = partsN (L.drop k)) ∧ Hid (V = partsV o (L.drop k)) ∧ RowKit.Below w.heap.size w wr) (fun _ i wr => L.length - (intOf i).toNat)
      case atStart => exact ⟨0, [], Nat.zero_le _, rfl, by simp, World.ownsRow_nil _ _ _ _, HPN.out.symm, HPV.out.symm, RowKit.Below.refl _ _⟩
      case round =>
        obtain ⟨k, o, hk, rfl, hol, hown, hN, hV, hbr⟩ := hrel
        by_cases hlt : k < L.length
        · obtain ⟨b, off, rfl, hrow⟩ := (Hp.out.below hbr).at k hlt
          have hat := hrow.at k hlt
          have e0 := hat 0 _ rfl
          have e1 := hat 1 _ rfl
          have e2 := hat 2 _ rfl
          have e3 := hat 3 _ rfl
          have e4 := hat 4 _ rfl
          have e5 := hat 5 _ rfl
          have e6 := hat 6 _ rfl
          have e7 := hat 7 _ rfl
          have e8 := hat 8 _ rfl
          have e9 := hat 9 _ rfl
          have e10 := hat 10 _ rfl
          have e11 := hat 11 _ rfl
          rw [Nat.add_zero] at e0
          have i0 : (0 : Int) ≤ (k : Int) := by omega
          have i1 : (k : Int) < (L.length : Int) := by omega
          have hfp := Hf.out _ (List.getElem_mem hlt)
          have HR := fun W => VarsO_any L[k] W hfp
          have hd : L.drop k = L[k] :: L.drop (k + 1) := List.drop_eq_getElem_cons hlt
          rw [hd] at hN hV
          have hml := varsL_len L[k]
          clear hat hrow hd hfp
          generalize L[k] = p at *
          generalize hD : L.drop (k + 1) = D at *
          have HD := hideQ hD
          clear hD
          unfold valPt at HR
          have hzr := hbr.size
          go_wp2_with fail
          refine (HR _).mono ?_
          rintro e w2 ⟨hb2, m, md, mc, rfl, hm, hmA⟩
          dsimp only
          have hal : RowKit.Below wr.heap.size wr (wr.alloc (.cells #[.string ⟨p.1.1.toArray⟩, .int .i64 p.1.2.1, .string ⟨p.1.2.2.1.toArray⟩, .string ⟨p.1.2.2.2.toArray⟩, .string ⟨p.2.1.1.toArray⟩, .int .i64 p.2.1.2.1, .string ⟨p.2.1.2.2.1.toArray⟩, .string ⟨p.2.1.2.2.2.toArray⟩, .string ⟨p.2.2.1.toArray⟩, .int .i64 p.2.2.2.1, .string ⟨p.2.2.2.2.1.toArray⟩, .string ⟨p.2.2.2.2.2.toArray⟩] 63)) := balloc _ _
          have hB2 := bstep hbr (bstep hal hb2)
          have hown2 := hideQ (ownsRow_belowV hown.out (bstep hal hb2))
          have Hm := hideQ (own_mono hm (Nat.le_trans hzr hal.size))
          have hfar : Hid (Far2 _ (.slice md m.length mc)) := fun g h1 h2 => by
            have q1 := (hown.out.lt g h1).2
            have q2 := (hm.lt g h2).1
            have q3 := hal.size
            omega
          have hmA' : m = if varsN p = 0 then varsL p else [] := hmA
          clear HR hown hm hmA e0 e1 e2 e3 e4 e5 e6 e7 e8 e9 e10 e11 hal
          by_cases hv : varsN p = 0
          · rw [if_pos hv] at hmA'
            subst hmA'
            have hN2 : Hid (N = partsN D) := by have := hN.out; unfold partsN at this; rw [if_pos hv] at this; exact this
            have hV2 : Hid (V = partsV (addAll o (varsL p)) D) := hV.out
            rw [hv]
            clear hN hV hv
            generalize varsL p = m at *
            go_wp2_with fail
            go_loopw [4, 37] (fun v i wi => ∃ j : Nat, j ≤ m.length ∧ i = .int .i64 j ∧ Hid (wi.ownsRow w.heap.size 9 1 v (addAll o (m.take j)).length ((addAll o (m.take j)).map encV)) ∧ Hid (wi.ownsRow w.heap.size 9 1 (.slice md m.length mc) m.length (m.map encV)) ∧ Hid (Far2 v (.slice md m.length mc)) ∧ RowKit.Below w.heap.size w wi) (fun _ i wi => m.length - (intOf i).toNat)
            case atStart => exact ⟨0, Nat.zero_le _, rfl, hown2.out, Hm.out, hfar.out, hB2⟩
            case round =>
              obtain ⟨j, hj, rfl, hown3, Hm3, hfar3, hbi⟩ := hrel
              by_cases hjl : j < m.length
              · obtain ⟨md', mc', em, hmV⟩ := own_v Hm3.out
                obtain ⟨rfl, _, rfl⟩ : md = md' ∧ m.length = m.length ∧ mc = mc' := by simpa using em
                obtain ⟨mb, rfl, hmr⟩ := hmV (by intro e; rw [e] at hjl; simp at hjl)
                have c0 := hmr j hjl
                unfold encV at c0
                have j0 : (0 : Int) ≤ (j : Int) := by omega
                have j1 : (j : Int) < (m.length : Int) := by omega
                have hst := hideQ (addAll_step o m j hjl)
                have hle : (addAll o (m.take j)).length ≤ 1000 := by
                  have := addAll_len o (m.take j)
                  rw [List.length_take] at this
                  omega
                obtain ⟨ad, cap, rfl, hsl⟩ := own_v hown3.out
                have HC := ContainsW_any ad cap (addAll o (m.take j)) m[j] wr hsl.w (by omega)
                have hzi := hbi.size
                clear hmr hsl em hmV
                generalize ht : addAll o (m.take (j + 1)) = t1 at hst
                have Ht := hideQ ht
                generalize addAll o (m.take j) = t0 at *
                generalize m[j] = y at *
                clear ht
                cases hd : decide (y ∈ t0)
                · rw [hd] at HC
                  have e1 : Hid (t1 = t0 ++ [y]) := by have := hst.out; rw [if_neg (by simpa using hd)] at this; exact this
                  clear hst hd
                  go_wp2_with fail
                  refine HC.mono ?_
                  rintro e w3 ⟨rfl, hw3⟩
                  subst hw3
                  dsimp only
                  go_wp2_with (at_builtin; refine wpList_append_text _ rfl _ _ rfl w.heap.size w3.heap.size _ t0 y rfl rfl (hown3.out.alloc _) (by go_simp) (by omega) (by simp; omega) ?_; intro v' w4 hv4 hg4 hat4)
                  have hal : RowKit.Below w3.heap.size w3 (w3.alloc (.cells #[.string ⟨y.toArray⟩] 9)) := balloc _ _
                  have hbel : RowKit.Below w.heap.size w w4 := (bstep hbi hal).grown hg4 (by simp; omega) (fun g hg => (hown3.out.lt g hg).1)
                  have hm4 := hideQ ((ownsRow_belowV Hm3.out hal).kept hg4 hfar3.out.out)
                  have hfar4 := hideQ (hfar3.out.grow (ownsRow_belowV Hm3.out hal) hat4)
                  have hv5 := hideQ hv4
                  clear hv4 hg4 hat4 c0 HC
                  go_wp2_with fail
                  go_roundw
                  case rel =>
                    refine ⟨j + 1, by omega, by go_num, ?_, hm4, hfar4, hbel⟩
                    show World.ownsRow _ _ _ _ _ _ _
                    rw [Ht.out, e1.out]
                    exact hv5.out
                  case measure => simp [intOf]; omega
                · rw [hd] at HC
                  have e1 : Hid (t1 = t0) := by have := hst.out; rw [if_pos (by simpa using hd)] at this; exact this
                  clear hst hd
                  go_wp2_with fail
                  refine HC.mono ?_
                  rintro e w3 ⟨rfl, hw3⟩
                  subst hw3
                  dsimp only
                  clear HC c0
                  go_wp2_with fail
                  go_roundw
                  case rel =>
                    refine ⟨j + 1, by omega, by go_num, ?_, Hm3, hfar3, hbi⟩
                    show World.ownsRow _ _ _ _ _ _ _
                    rw [Ht.out, e1.out]
                    exact hown3.out
                  case measure => simp [intOf]; omega
              · obtain rfl : j = m.length := by omega
                have ho4 := hown3.out
                rw [List.take_length] at ho4
                have Ho4 := hideQ ho4
                have hle := addAll_len o m
                clear ho4 hown3
                go_wp2_with fail
                go_roundw
                case rel =>
                  refine ⟨k + 1, addAll o m, by omega, by go_num, by omega, Ho4, ?_, ?_, hbi⟩
                  · show _ = _
                    rw [HD.out]; exact hN2.out
                  · show _ = _
                    rw [HD.out]; exact hV2.out
                case measure => simp [intOf]; omega
          · have hN2 : Hid (N = varsN p) := by have := hN.out; unfold partsN at this; rw [if_neg hv] at this; exact this
            rw [if_neg hv] at hmA'
            subst hmA'
            have hne : (varsN p == 0) = false := by simpa using hv
            have hne2 : (varsN p != 0) = true := by simpa using hv
            have Hv := hideQ hv
            generalize varsN p = c at *
            clear hN hV hv Hm hown2
            go_wp2_with fail
            exact HQ.out _ _ (vof_nil ((f1.out (by rw [hN2.out]; exact Hv.out)).trans hN2.out) Hv.out hB2)
        · obtain rfl : k = L.length := by omega
          have hN2 : Hid (N = 0) := by have := hN.out; rw [List.drop_length] at this; exact this
          have hV2 : Hid (V = o) := by have := hV.out; rw [List.drop_length] at this; exact this
          obtain ⟨ad, cap, rfl, hsl⟩ := own_v hown.out
          have Hsl := hideQ hsl
          clear hsl hown hN hV
          by_cases h8 : 8 < o.length
          · have d3 : decide ((o.length : Int) > 8) = true := by simp; omega
            have fin := hideQ (f2.out hN2.out (by rw [hV2.out]; exact h8))
            go_wp2_with fail
            exact HQ.out _ _ (vof_nil fin.out (by decide) hbr)
          · have d3 : decide ((o.length : Int) > 8) = false := by simp; omega
            have fin := hideQ (f3.out hN2.out (by rw [hV2.out]; exact h8))
            go_wp2_with fail
            exact HQ.out _ _ ⟨o, ad, cap, by rw [fin.out]; rfl, Hsl.out.w, by omega, fun _ => hV2.out.symm.trans HPV.out.symm, hbr⟩
end Go.Proofs.YtlmhlmeephnmkaaGreat

/- The document's Check of a question (package strataref3). -/
namespace Go.Proofs.YtlmhlmeephnmkaaGreat
open Go Go.RowKit Go.Proofs Go.Maps
set_option synthInstance.maxSize 1000

/-! ### one fault behind the other -/
section
variable {q : Qu}
/-- what is asked of Vars, Order, Down and Limit -/
def askT (q : Qu) (V : List (List UInt8)) : Int := if 8 < V.length then 4
  else if q.vars = [] then 5 else if (∃ v ∈ q.vars, v ∉ V) then 5 else if ¬ q.vars.Nodup then 7 else if q.order ≠ [] ∧ q.order ∉ q.vars then 5
  else if q.down = true ∧ q.order = [] then 3 else if q.lim < -1 ∨ 500 < q.lim then 1 else 0
theorem ask_tail (h1 : ¬ 6 < q.parts.length) (h2 : ¬ q.parts = []) (h3 : partsN q.parts = 0) : askN q = askT q (partsV [] q.parts) := by unfold askN askT; rw [if_neg h1, if_neg h2, if_neg (fun h => h h3)]
variable {V : List (List UInt8)}
theorem askT_nil (h1 : ¬ 8 < V.length) (h2 : q.vars = []) : askT q V = 5 := by unfold askT; rw [if_neg h1, if_pos h2]
theorem askT_out (h1 : ¬ 8 < V.length) (h2 : ¬ q.vars = []) (h3 : ∃ v ∈ q.vars, v ∉ V) : askT q V = 5 := by unfold askT; rw [if_neg h1, if_neg h2, if_pos h3]
theorem askT_twice (h1 : ¬ 8 < V.length) (h2 : ¬ q.vars = []) (h3 : ∀ v ∈ q.vars, v ∈ V) (h4 : ¬ q.vars.Nodup) : askT q V = 7 := by
  unfold askT; rw [if_neg h1, if_neg h2, if_neg (fun ⟨v, hv, hn⟩ => hn (h3 v hv)), if_pos h4]
def askE (q : Qu) : Int := if q.order ≠ [] ∧ q.order ∉ q.vars then 5 else if q.down = true ∧ q.order = [] then 3 else if q.lim < -1 ∨ 500 < q.lim then 1 else 0
theorem askT_end (h1 : ¬ 8 < V.length) (h2 : ¬ q.vars = []) (h3 : ∀ v ∈ q.vars, v ∈ V) (h4 : q.vars.Nodup) : askT q V = askE q := by
  unfold askT askE; rw [if_neg h1, if_neg h2, if_neg (fun ⟨v, hv, hn⟩ => hn (h3 v hv)), if_neg (fun h => h h4)]
end
theorem nodup_take {l : List (List UInt8)} {k : Nat} (h : (l.take k).Nodup) (hk : k < l.length) (hn : l[k] ∉ l.take k) : (l.take (k + 1)).Nodup := by
  rw [List.take_succ_eq_append_getElem hk]
  refine List.nodup_append.2 ⟨h, by simp, fun a ha b hb => ?_⟩
  simp only [List.mem_singleton] at hb
  subst hb
  exact fun e => hn (e ▸ ha)
theorem not_nodup {l : List (List UInt8)} {k : Nat} (hk : k < l.length) (hn : l[k] ∈ l.take k) : ¬ l.Nodup := fun h => by
  have h2 : (l.take (k + 1)).Nodup := h.sublist (List.take_sublist _ _)
  rw [List.take_succ_eq_append_getElem hk] at h2
  exact (List.nodup_append.1 h2).2.2 _ hn _ (List.mem_singleton.2 rfl) rfl

attribute [local go_sem ↓] eqlEmpty neqEmpty

end Go.Proofs.YtlmhlmeephnmkaaGreat

/- ask.varsFault, ask.Check; slices.ContainsFunc at texts with whatever test. -/
namespace Go.Proofs.YtlmhlmeephnmkaaGreat
open Go Go.RowKit Go.Proofs Go.Maps
set_option synthInstance.maxSize 1000

attribute [local go_sem] eql_errV neq_errV guard_errV

/-- what is asked of a test of texts -/
def PredT (g : Nat) (lb : Array Value) (p : List UInt8 → Bool) (w : World) : Prop :=
  ∀ (W : World) (x : List UInt8), RowKit.Below w.heap.size w W → Calls Tryz.prog g (#[.string ⟨x.toArray⟩] ++ lb) W fun e w' => e = .returned (.bool (p x)) ∧ RowKit.Below W.heap.size W w'
theorem anyT_hit {l : List (List UInt8)} {p : List UInt8 → Bool} {k : Nat} (hk : k < l.length) (h : p l[k] = true) : l.any p = true := by
  rw [List.any_eq_true]
  exact ⟨_, List.getElem_mem hk, h⟩
theorem anyT_miss {l : List (List UInt8)} {p : List UInt8 → Bool} (h : ∀ (j : Nat) (hj : j < l.length), p l[j] = false) : l.any p = false := by
  rw [List.any_eq_false]
  intro x hx
  obtain ⟨j, hj, rfl⟩ := List.getElem_of_mem hx
  rw [h j hj]
  simp
set_option maxHeartbeats 4000000 in
set_option maxRecDepth 100000 in
theorem TIndex_any (g : Nat) (lb : Array Value) (p : List UInt8 → Bool) (w : World) (ad : Option Addr) (ca : Nat) (l : List (List UInt8)) (eg : ∀ args w, (callFunc g args).run Tryz.prog w = .ok (.enter g args) w) (hp : PredT g lb p w) (hs : SlW w ad l) (hl : l.length ≤ 9223372036854775807) :
    Calls Tryz.prog 185 #[.slice ad l.length ca, .func (.func g) #[] lb] w fun e w' => (∃ r : Int, e = .returned (.int .i64 r) ∧ decide (0 ≤ r) = l.any p) ∧ RowKit.Below w.heap.size w w' := by
  have H := hideQ hp
  have HS := hideQ hs
  clear hp hs
  go_enter Tryz.func185, Tryz.ntmps185
  go_wp2_with fail
  go_loopw [8] (fun i wr => ∃ (k : Nat), k ≤ l.length ∧ i = .int .i64 k ∧ RowKit.Below w.heap.size w wr ∧ Hid (∀ (j : Nat) (hj : j < l.length), j < k → p l[j] = false)) (fun i wr => l.length - (intOf i).toNat)
  case atStart => exact ⟨0, Nat.zero_le _, rfl, RowKit.Below.refl _ w, fun j hj h0 => by omega⟩
  case round =>
    obtain ⟨k, hk, rfl, hbr, hall⟩ := hrel
    by_cases hlt : k < l.length
    · obtain ⟨b, o, rfl, hc⟩ := (HS.out.below hbr).at k hlt
      have hcall := H.out wr l[k] hbr
      have i0 : (0 : Int) ≤ (k : Int) := by omega
      have i1 : (k : Int) < (l.length : Int) := by omega
      have HV : Hid (∀ q, p l[k] = q → (q = false → (∀ (j : Nat) (hj : j < l.length), j < k + 1 → p l[j] = false)) ∧ (q = true → l.any p = true)) := by
        intro q hq
        refine ⟨fun e j hj h1 => ?_, fun e => anyT_hit hlt (hq.trans e)⟩
        by_cases ej : j = k
        · subst ej; exact hq.trans e
        · exact hall.out j hj (by omega)
      cases hq : p l[k] with
      | false =>
        rw [hq] at hcall
        have hnext : Hid (∀ (j : Nat) (hj : j < l.length), j < k + 1 → p l[j] = false) := (HV.out _ hq).1 rfl
        clear HV hq hall
        generalize l[k] = z at *
        go_wp2_with (go_at_fn g; refine hcall.mono ?_; rintro e w' ⟨rfl, hb'⟩; dsimp only)
        go_roundw
        case rel => exact ⟨k + 1, by omega, by go_num, bstep hbr hb', hnext⟩
        case measure => simp [intOf]; omega
      | true =>
        rw [hq] at hcall
        have hno2 : Hid (l.any p = true) := (HV.out _ hq).2 rfl
        clear HV hq hall
        generalize l[k] = z at *
        go_wp2_with (go_at_fn g; refine hcall.mono ?_; rintro e w' ⟨rfl, hb'⟩; dsimp only)
        go_ret
        exact ⟨⟨(k : Int), rfl, by rw [hno2.out]; simp⟩, bstep hbr hb'⟩
    · have hkk : k = l.length := by omega
      have hyes : Hid (l.any p = false) := anyT_miss fun j hj => hall.out j hj (by omega)
      subst hkk
      clear hall
      go_wp2_with fail
      go_ret
      exact ⟨⟨-1, rfl, by rw [hyes.out]; rfl⟩, hbr⟩
set_option maxHeartbeats 1000000 in
theorem TContains_any (g : Nat) (lb : Array Value) (p : List UInt8 → Bool) (w : World) (ad : Option Addr) (ca : Nat) (l : List (List UInt8)) (eg : ∀ args w, (callFunc g args).run Tryz.prog w = .ok (.enter g args) w) (hp : PredT g lb p w) (hs : SlW w ad l) (hl : l.length ≤ 9223372036854775807) :
    Calls Tryz.prog 149 #[.slice ad l.length ca, .func (.func g) #[] lb] w fun e w' => e = .returned (.bool (l.any p)) ∧ RowKit.Below w.heap.size w w' := by
  have hc := TIndex_any g lb p w ad ca l eg hp hs hl
  clear hp hs
  generalize l.any p = q at *
  go_enter Tryz.func149, Tryz.ntmps149
  go_wp2_with fail
  refine hc.mono ?_
  rintro e w1 ⟨⟨r, rfl, hr⟩, hb1⟩
  dsimp only
  go_wp2_with fail
  go_ret
  exact ⟨rfl, hb1⟩
theorem vfault1_any (V : List (List UInt8)) (vd : Option Addr) (vc b : Nat) (x : List UInt8) (W : World) (hb : W.cell? ⟨b, 0, none⟩ = some (.slice vd V.length vc)) (hs : SlW W vd V) (hl : V.length ≤ 100) :
    Calls Tryz.prog 148 #[.string ⟨x.toArray⟩, .pointer (some ⟨b, 0, none⟩)] W fun e w' => e = .returned (.bool (!decide (x ∈ V))) ∧ RowKit.Below W.heap.size W w' := by
  have HC := ContainsW_any vd vc V x W hs (by omega)
  generalize decide (x ∈ V) = d at *
  go_enter Tryz.func148, Tryz.ntmps148
  go_wp2_with fail
  refine HC.mono ?_
  rintro e w1 ⟨rfl, hw1⟩
  subst hw1
  dsimp only
  go_wp2_with fail
  go_ret
  exact ⟨rfl, RowKit.Below.refl _ _⟩
theorem entersVF : ∀ args w, (callFunc 148 args).run Tryz.prog w = .ok (.enter 148 args) w := enters_of Tryz.func148 (by kernel_rfl) rfl
/-- what is wrong with the variables that are told -/
def faultV (T V : List (List UInt8)) : Int := if T = [] then 5 else if (∃ v ∈ T, v ∉ V) then 5 else if ¬ T.Nodup then 7 else 0
theorem any_out {T V : List (List UInt8)} : T.any (fun x => !decide (x ∈ V)) = decide (∃ v ∈ T, v ∉ V) := by
  rw [Bool.eq_iff_iff, List.any_eq_true, decide_eq_true_eq]
  constructor
  · rintro ⟨x, hx, h⟩
    exact ⟨x, hx, by simpa using h⟩
  · rintro ⟨x, hx, h⟩
    exact ⟨x, hx, by simpa using h⟩
set_option maxHeartbeats 4000000 in
set_option maxRecDepth 100000 in
theorem VarsFault_any (T V : List (List UInt8)) (td vd : Option Addr) (tc vc : Nat) (w : World) (hT : SlW w td T) (hV : SlW w vd V) (hl : T.length ≤ 9223372036854775807) (htc : T.length ≤ tc) (hv : V.length ≤ 100) :
    Calls Tryz.prog 104 #[.slice td T.length tc, .slice vd V.length vc] w fun e w' => e = .returned (errV (faultV T V)) ∧ RowKit.Below w.heap.size w w' := by
  obtain ⟨w0, hw0⟩ : ∃ w0, w0 = w.alloc (.cells #[.slice vd V.length vc] 59) := ⟨_, rfl⟩
  have hb0 : RowKit.Below w.heap.size w w0 := by rw [hw0]; exact balloc _ _
  have c0 : w0.cell? ⟨w.heap.size, 0, none⟩ = some (.slice vd V.length vc) := by rw [hw0]; go_simp
  have hT0 := hideQ (hT.below hb0)
  have HC := TContains_any 148 #[.pointer (some ⟨w.heap.size, 0, none⟩)] (fun x => !decide (x ∈ V)) w0 td tc T entersVF (fun W x hW => vfault1_any V vd vc w.heap.size x W ((hW.cell (World.block_lt_of_cell? w0 _ c0)).trans c0) ((hV.below hb0).below hW) hv) hT0.out hl
  rw [any_out] at HC
  have HW := hideQ hw0
  have hF : Hid (faultV T V = if T = [] then 5 else if (∃ v ∈ T, v ∉ V) then 5 else if ¬ T.Nodup then 7 else 0) := rfl
  clear hw0 hT hV c0
  generalize faultV T V = F at *
  by_cases h0 : T = []
  · have d2 : ((T.length : Int) == 0) = true := by simp [h0]
    have fin : Hid (F = 5) := by show _ = _; rw [hF.out, if_pos h0]
    clear h0 HC
    go_enter Tryz.func104, Tryz.ntmps104
    go_wp2_with fail
    go_ret
    exact ⟨ret_val (by rw [fin.out]; rfl), by rw [← HW.out]; exact hb0⟩
  · have d2 : ((T.length : Int) == 0) = false := by simp; exact h0
    by_cases h1 : ∃ v ∈ T, v ∉ V
    · rw [decide_eq_true h1] at HC
      have fin : Hid (F = 5) := by show _ = _; rw [hF.out, if_neg h0, if_pos h1]
      clear h0 h1
      go_enter Tryz.func104, Tryz.ntmps104
      go_wp2_with fail
      rw [← HW.out]
      refine HC.mono ?_
      rintro e w1 ⟨rfl, hb1⟩
      dsimp only
      go_wp2_with fail
      go_ret
      exact ⟨ret_val (by rw [fin.out]; rfl), bstep hb0 hb1⟩
    · rw [decide_eq_false h1] at HC
      have hF2 : Hid (F = if ¬ T.Nodup then 7 else 0) := by show _ = _; rw [hF.out, if_neg h0, if_neg h1]
      clear h0 h1 hF
      go_enter Tryz.func104, Tryz.ntmps104
      go_wp2_with fail
      rw [← HW.out]
      refine HC.mono ?_
      rintro e w1 ⟨rfl, hb1⟩
      dsimp only
      have hT1 := hideQ (hT0.out.below hb1)
      go_wp2_with fail
      go_loop [20] (fun i => ∃ k : Nat, k ≤ T.length ∧ i = .int .i64 k ∧ Hid ((T.take k).Nodup)) (fun i => T.length - (intOf i).toNat)
      case atStart => exact ⟨0, Nat.zero_le _, rfl, by show List.Nodup _; simp⟩
      case round =>
        obtain ⟨k, hk, rfl, hnd⟩ := hrel
        by_cases hlt : k < T.length
        · obtain ⟨b, off, rfl, ck⟩ := hT1.out.at k hlt
          have i0 : (0 : Int) ≤ (k : Int) := by omega
          have i1 : (k : Int) < (T.length : Int) := by omega
          have i2 : (k : Int) ≤ (tc : Int) := by omega
          have hlen : (T.take k).length = k := by rw [List.length_take]; omega
          have HH := ContainsW_any (some ⟨b, off, none⟩) tc (T.take k) T[k] w1 (hT1.out.take k) (by rw [hlen]; omega)
          rw [hlen] at HH
          cases hd : decide (T[k] ∈ T.take k)
          · rw [hd] at HH
            have hnd2 := hideQ (nodup_take hnd.out hlt (by simpa using hd))
            clear hd hnd hlen
            go_wp2_with fail
            refine HH.mono ?_
            rintro e w3 ⟨rfl, hw3⟩
            subst hw3
            dsimp only
            go_wp2_with fail
            exact ⟨⟨k + 1, by omega, by go_num, hnd2⟩, by simp [intOf]; omega⟩
          · rw [hd] at HH
            have fin : Hid (F = 7) := by show _ = _; rw [hF2.out, if_pos (not_nodup hlt (of_decide_eq_true hd))]
            clear hd hnd hlen
            go_wp2_with fail
            refine HH.mono ?_
            rintro e w3 ⟨rfl, hw3⟩
            subst hw3
            dsimp only
            go_wp2_with fail
            go_ret
            exact ⟨ret_val (by rw [fin.out]; rfl), bstep hb0 hb1⟩
        · obtain rfl : k = T.length := by omega
          have hnd' := hnd.out
          rw [List.take_length] at hnd'
          have fin : Hid (F = 0) := by show _ = _; rw [hF2.out, if_neg (fun h => h hnd')]
          clear hnd hnd'
          go_wp2_with fail
          go_ret
          exact ⟨ret_val (by rw [fin.out]; rfl), bstep hb0 hb1⟩
/-! ### Check -/
theorem ask_vof {q : Qu} (h : vofN q.parts ≠ 0) : askN q = vofN q.parts := by
  unfold vofN at h ⊢
  unfold askN
  by_cases h1 : 6 < q.parts.length
  · rw [if_pos h1, if_pos h1]
  · rw [if_neg h1] at h ⊢
    rw [if_neg h1]
    by_cases h2 : q.parts = []
    · rw [if_pos h2, if_pos h2]
    · rw [if_neg h2] at h ⊢
      rw [if_neg h2]
      by_cases h3 : partsN q.parts ≠ 0
      · rw [if_pos h3, if_pos h3]
      · rw [if_neg h3] at h ⊢
        rw [if_neg h3]
        by_cases h4 : 8 < (partsV [] q.parts).length
        · rw [if_pos h4, if_pos h4]
        · rw [if_neg h4] at h
          exact absurd rfl h
theorem ask_fault {q : Qu} (h : vofN q.parts = 0) : askN q = if faultV q.vars (partsV [] q.parts) ≠ 0 then faultV q.vars (partsV [] q.parts) else askE q := by
  unfold vofN at h
  have h1 : ¬ 6 < q.parts.length := fun k => by rw [if_pos k] at h; cases h
  rw [if_neg h1] at h
  have h2 : ¬ q.parts = [] := fun k => by rw [if_pos k] at h; cases h
  rw [if_neg h2] at h
  have h3 : partsN q.parts = 0 := Classical.byContradiction fun k => by rw [if_pos k] at h; exact k h
  rw [if_neg (fun k => k h3)] at h
  have h4 : ¬ 8 < (partsV [] q.parts).length := fun k => by rw [if_pos k] at h; cases h
  rw [ask_tail h1 h2 h3]
  unfold faultV
  by_cases h5 : q.vars = []
  · rw [if_pos h5, askT_nil h4 h5]; rfl
  · by_cases h6 : ∃ v ∈ q.vars, v ∉ partsV [] q.parts
    · rw [if_neg h5, if_pos h6, askT_out h4 h5 h6]; rfl
    · have h6' : ∀ v ∈ q.vars, v ∈ partsV [] q.parts := fun v hv => Classical.byContradiction fun k => h6 ⟨v, hv, k⟩
      by_cases h7 : q.vars.Nodup
      · have hz : (if ¬ q.vars.Nodup then (7 : Int) else 0) = 0 := if_neg (fun k => k h7)
        rw [if_neg h5, if_neg h6, hz, askT_end h4 h5 h6' h7]
        rfl
      · have hz : (if ¬ q.vars.Nodup then (7 : Int) else 0) = 7 := if_pos h7
        rw [if_neg h5, if_neg h6, hz, askT_twice h4 h5 h6' h7]
        rfl

attribute [local go_sem ↓] eqlEmpty neqEmpty
set_option maxHeartbeats 8000000 in
set_option maxRecDepth 100000 in
theorem CheckO_any (q : Qu) (vd pd : Option Addr) (vc pc : Nat) (w : World) (h : QuIn w q vd pd) (hf : FitQ q) (hvc : q.vars.length ≤ vc) :
    Calls Tryz.prog 68 #[valQ q vd vc pd pc] w fun e w' => e = .returned (errV (askN q)) ∧ RowKit.Below w.heap.size w w' := by
  obtain ⟨w1, hw1⟩ : ∃ w1, w1 = w.alloc (.cells #[.slice vd q.vars.length vc, .slice pd q.parts.length pc, .string ⟨q.order.toArray⟩, .bool q.down, .bool q.dist, .int .i64 q.lim] 66) := ⟨_, rfl⟩
  have hb1 : RowKit.Below w.heap.size w w1 := by rw [hw1]; exact balloc _ _
  have HB : Hid (BoxQ w1 w.heap.size q vd pd vc pc) := by show BoxQ _ _ _ _ _ _ _; rw [hw1]; exact boxQ_new _ _ _ _ _ _
  have Hin := hideQ (h.below hb1)
  have HV := VarsOf_any q.parts pd pc w1 (Hin.out.parts) hf.pt hf.pl
  have HF := fun W V ad cap hW hV hv => VarsFault_any q.vars V vd ad vc cap W (Hin.out.vars.below hW) hV hf.vl hvc hv
  have HO := fun W hW => ContainsW_any vd vc q.vars q.order W (Hin.out.vars.below hW) hf.vl
  have hN1 := hideQ (fun h => ask_vof (q := q) h)
  have hN2 := hideQ (fun h => ask_fault (q := q) h)
  have hE : Hid (askE q = if q.order ≠ [] ∧ q.order ∉ q.vars then 5 else if q.down = true ∧ q.order = [] then 3 else if q.lim < -1 ∨ 500 < q.lim then 1 else 0) := rfl
  have HW := hideQ hw1
  unfold valQ
  clear h hf hw1
  unfold VofAns at HV
  generalize askN q = N at *
  generalize askE q = E at *
  generalize vofN q.parts = vn at *
  go_enter Tryz.func68, Tryz.ntmps68
  go_upto_region 1 with fail
  rw [← HW.out]
  obtain ⟨c0, c1, c2, c3, c4, c5⟩ := HB.out
  go_wp2_with fail
  refine HV.mono ?_
  rintro e w2 ⟨m, ad, cap, rfl, hm, hml, hme, hb2⟩
  dsimp only
  clear HV c0 c1 c2 c3 c4 c5
  by_cases h0 : vn = 0
  · subst h0
    have em := hme rfl
    have HFW := HF w2 m ad cap hb2 hm hml
    have hN3 := hideQ (hN2.out rfl)
    rw [← em] at hN3
    obtain ⟨c0, c1, c2, c3, c4, c5⟩ := HB.out.below hb2
    clear HF hme em hN1 hN2
    generalize faultV q.vars m = fn at *
    go_wp2_with fail
    refine HFW.mono ?_
    rintro e w3 ⟨rfl, hb3⟩
    dsimp only
    clear c0 c1 c2 c3 c4 c5 HFW
    by_cases h1 : fn = 0
    · subst h1
      have hN4 : Hid (N = E) := by show _ = _; rw [hN3.out]; rfl
      have hB3 := bstep hb2 hb3
      obtain ⟨c0, c1, c2, c3, c4, c5⟩ := HB.out.below hB3
      have HC := HO w3 hB3
      have hBB := bstep hb1 hB3
      clear HO hN3
      cases ho : q.order.isEmpty with
      | true =>
        have ho' : q.order = [] := by simpa using ho
        have e1 : Hid (E = if q.down = true then 3 else if q.lim < -1 ∨ 500 < q.lim then 1 else 0) := by show _ = _; rw [hE.out, if_neg (fun k => k.1 ho')]; simp [ho']
        clear hE HC ho'
        cases hd : q.down with
        | true =>
          have fin : Hid (N = 3) := by show _ = _; rw [hN4.out, e1.out, if_pos hd]
          rw [hd] at c3
          go_wp2_with fail
          go_ret
          exact ⟨ret_val (by rw [fin.out]; rfl), hBB⟩
        | false =>
          have e2 : Hid (E = if q.lim < -1 ∨ 500 < q.lim then 1 else 0) := by show _ = _; rw [e1.out, if_neg (by rw [hd]; simp)]
          rw [hd] at c3
          clear e1
          by_cases l1 : q.lim < -1
          · have dl : decide (q.lim < -1) = true := by simpa using l1
            have fin : Hid (N = 1) := by show _ = _; rw [hN4.out, e2.out, if_pos (Or.inl l1)]
            clear l1
            go_wp2_with fail
            go_ret
            exact ⟨ret_val (by rw [fin.out]; rfl), hBB⟩
          · have dl : decide (q.lim < -1) = false := by simpa using l1
            by_cases l2 : 500 < q.lim
            · have dm : decide (q.lim > 500) = true := by simpa using l2
              have fin : Hid (N = 1) := by show _ = _; rw [hN4.out, e2.out, if_pos (Or.inr l2)]
              clear l1 l2
              go_wp2_with fail
              go_ret
              exact ⟨ret_val (by rw [fin.out]; rfl), hBB⟩
            · have dm : decide (q.lim > 500) = false := by simpa using l2
              have fin : Hid (N = 0) := by show _ = _; rw [hN4.out, e2.out, if_neg (by omega)]
              clear l1 l2
              go_wp2_with fail
              go_ret
              exact ⟨ret_val (by rw [fin.out]; rfl), hBB⟩
      | false =>
        have ho' : q.order ≠ [] := by simpa using ho
        cases hm2 : decide (q.order ∈ q.vars) with
        | false =>
          have fin : Hid (N = 5) := by show _ = _; rw [hN4.out, hE.out, if_pos ⟨ho', by simpa using hm2⟩]
          rw [hm2] at HC
          clear ho' hm2 hE
          go_wp2_with fail
          refine HC.mono ?_
          rintro e w4 ⟨rfl, hw4⟩
          subst hw4
          dsimp only
          go_wp2_with fail
          go_ret
          exact ⟨ret_val (by rw [fin.out]; rfl), hBB⟩
        | true =>
          have e2 : Hid (E = if q.lim < -1 ∨ 500 < q.lim then 1 else 0) := by show _ = _; rw [hE.out, if_neg (fun k => k.2 (of_decide_eq_true hm2)), if_neg (fun k => ho' k.2)]
          rw [hm2] at HC
          clear ho' hm2 hE
          go_wp2_with fail
          refine HC.mono ?_
          rintro e w4 ⟨rfl, hw4⟩
          subst hw4
          dsimp only
          by_cases l1 : q.lim < -1
          · have dl : decide (q.lim < -1) = true := by simpa using l1
            have fin : Hid (N = 1) := by show _ = _; rw [hN4.out, e2.out, if_pos (Or.inl l1)]
            clear l1
            cases hd : q.down
            all_goals
              rw [hd] at c3
              go_wp2_with fail
              go_ret
              exact ⟨ret_val (by rw [fin.out]; rfl), hBB⟩
          · have dl : decide (q.lim < -1) = false := by simpa using l1
            by_cases l2 : 500 < q.lim
            · have dm : decide (q.lim > 500) = true := by simpa using l2
              have fin : Hid (N = 1) := by show _ = _; rw [hN4.out, e2.out, if_pos (Or.inr l2)]
              clear l1 l2
              cases hd : q.down
              all_goals
                rw [hd] at c3
                go_wp2_with fail
                go_ret
                exact ⟨ret_val (by rw [fin.out]; rfl), hBB⟩
            · have dm : decide (q.lim > 500) = false := by simpa using l2
              have fin : Hid (N = 0) := by show _ = _; rw [hN4.out, e2.out, if_neg (by omega)]
              clear l1 l2
              cases hd : q.down
              all_goals
                rw [hd] at c3
                go_wp2_with fail
                go_ret
                exact ⟨ret_val (by rw [fin.out]; rfl), hBB⟩
    · have hne : (fn == 0) = false := by simpa using h1
      have hne2 : (fn != 0) = true := by simpa using h1
      have fin : Hid (N = fn) := by show _ = _; rw [hN3.out, if_pos h1]
      clear h1 hN3
      go_wp2_with fail
      go_ret
      exact ⟨ret_val (by rw [fin.out]; rfl), bstep hb1 (bstep hb2 hb3)⟩
  · have hne : (vn == 0) = false := by simpa using h0
    have hne2 : (vn != 0) = true := by simpa using h0
    have fin := hideQ (hN1.out h0)
    clear h0 hN1 hN2 hme
    go_wp2_with fail
    go_ret
    exact ⟨ret_val (by rw [fin.out]; rfl), bstep hb1 hb2⟩
end Go.Proofs.YtlmhlmeephnmkaaGreat

/- solve.answersTo: all answers, or what is wrong. -/
namespace Go.Proofs.YtlmhlmeephnmkaaGreat
open Go Go.RowKit Go.Proofs Go.Maps
set_option synthInstance.maxSize 1000
attribute [local go_sem] eql_errV neq_errV guard_errV

def AnsTo (S : List Tr) (q : Qu) (w : World) (e : Ending) (w' : World) : Prop := RowKit.Below w.heap.size w w' ∧ (solveN S q ≠ 0 → e = .returned (.tuple #[.slice none 0 0, errV (solveN S q)])) ∧ (solveN S q = 0 → ∃ vars rows ad c, answersL S q.parts = some (vars, rows) ∧ e = .returned (.tuple #[.slice ad rows.length c, .nilIface]) ∧ SlE w' ad 18 (rows.map (boundT vars)))
theorem AnsTo.bad {S : List Tr} {q : Qu} {w w' : World} {n : Int} (hb : RowKit.Below w.heap.size w w') (hn : solveN S q = n) (h0 : n ≠ 0) : AnsTo S q w (.returned (.tuple #[.slice none 0 0, errV n])) w' := ⟨hb, fun _ => by rw [hn], fun h => absurd (hn.symm.trans h) h0⟩
/-- as far as the parts have come -/
structure AnsSt (S : List Tr) (ps : List Pt) (k : Nat) (vars : List (List UInt8)) (rows : List (List Tm)) : Prop where
  ok : AnsOK S (ps.take k) vars rows
  few : rows.length ≤ 500
  same : answersL S ps = answersF S vars rows (ps.drop k)
theorem AnsSt.start (S : List Tr) (ps : List Pt) : AnsSt S ps 0 [] [[]] := ⟨by simpa using AnsOK.start S, by simp, rfl⟩
theorem AnsSt.over {S : List Tr} {ps : List Pt} {k : Nat} {vars : List (List UInt8)} {rows : List (List Tm)} (h : AnsSt S ps k vars rows) (hk : k < ps.length) (h5 : 500 < (stepR S vars ps[k] rows).length) : answersL S ps = none := by
  rw [h.same, List.drop_eq_getElem_cons hk]
  unfold answersF
  rw [if_pos h5]
theorem AnsSt.next {S : List Tr} {ps : List Pt} {k : Nat} {vars : List (List UInt8)} {rows : List (List Tm)} (h : AnsSt S ps k vars rows) (hk : k < ps.length) (h5 : ¬ 500 < (stepR S vars ps[k] rows).length) : AnsSt S ps (k + 1) (vars ++ freshV vars ps[k]) (stepR S vars ps[k] rows) := by
  refine ⟨?_, by omega, ?_⟩
  · rw [List.take_succ_eq_append_getElem hk]
    exact h.ok.step _
  · rw [h.same, List.drop_eq_getElem_cons hk, answers_next h5]
theorem AnsSt.done {S : List Tr} {ps : List Pt} {vars : List (List UInt8)} {rows : List (List Tm)} (h : AnsSt S ps ps.length vars rows) : answersL S ps = some (vars, rows) := by
  rw [h.same, List.drop_length]
  rfl
theorem solveN_s {S : List Tr} {q : Qu} (h : sortedN S ≠ 0) : solveN S q = sortedN S := by unfold solveN; rw [if_pos h]
theorem solveN_a {S : List Tr} {q : Qu} (h : sortedN S = 0) (h2 : askN q ≠ 0) : solveN S q = askN q := by unfold solveN; rw [if_neg (fun k => k h), if_pos h2]
theorem solveN_f {S : List Tr} {q : Qu} (h : sortedN S = 0) (h2 : askN q = 0) (h3 : answersL S q.parts = none) : solveN S q = 4 := by unfold solveN; rw [if_neg (fun k => k h), if_neg (fun k => k h2), h3]; rfl
theorem solveN_z {S : List Tr} {q : Qu} (h : sortedN S = 0) (h2 : askN q = 0) {a : List (List UInt8) × List (List Tm)} (h3 : answersL S q.parts = some a) : solveN S q = 0 := by unfold solveN; rw [if_neg (fun k => k h), if_neg (fun k => k h2), h3]; rfl
theorem slE_one (w : World) : SlE ((w.alloc (.map #[] 0)).alloc (.cells #[.map (some w.heap.size)] 101)) (some ⟨w.heap.size + 1, 0, none⟩) 0 (([[]] : List (List Tm)).map (boundT [])) := fun _ => by
  refine ⟨w.heap.size + 1, 0, rfl, fun j hj => ?_⟩
  obtain rfl : j = 0 := by simpa using hj
  refine ⟨w.heap.size, by go_simp, ?_⟩
  exact ((evAt_made w).below (balloc _ _)).same (fun v _ => rfl)
theorem take_map_le {L : List (List Tm)} {f : List Tm → Ev} (h : ¬ 500 < L.length) : (L.map f).take 501 = L.map f := List.take_of_length_le (by simp; omega)
set_option maxHeartbeats 8000000 in
set_option maxRecDepth 100000 in
theorem answersTo_any (ad : Option Addr) (ca : Nat) (S : List Tr) (q : Qu) (vd pd : Option Addr) (vc pc : Nat) (w : World) (h : SlT w ad S) (hfit : ∀ x ∈ S, fitTr x) (hn : S.length ≤ 9223372036854775807) (hq : QuIn w q vd pd) (hf : FitQ q) (hvc : q.vars.length ≤ vc) :
    Calls Tryz.prog 38 #[.slice ad S.length ca, valQ q vd vc pd pc] w (AnsTo S q w) := by
  have HS := fun W hW => Sorted_any ad ca S W hW hfit hn
  have HC := fun W hW => CheckO_any q vd pd vc pc W hW hf hvc
  have Hh := hideE h
  have Hq := hideE hq
  obtain ⟨Q, hQ⟩ : ∃ Q, Q = AnsTo S q w := ⟨_, rfl⟩
  have HQ : Hid (∀ e w', AnsTo S q w e w' → Q e w') := fun e w' h => by rw [hQ]; exact h
  rw [← hQ]
  clear hQ h hq
  obtain ⟨W0, hW0⟩ : ∃ W0, W0 = w.alloc (.cells #[.slice vd q.vars.length vc, .slice pd q.parts.length pc, .string ⟨q.order.toArray⟩, .bool q.down, .bool q.dist, .int .i64 q.lim] 66) := ⟨_, rfl⟩
  have hB0 : RowKit.Below w.heap.size w W0 := by rw [hW0]; exact balloc _ _
  have hX0 := hideE (show BoxQ W0 w.heap.size q vd pd vc pc by rw [hW0]; exact boxQ_new _ _ _ _ _ _)
  unfold valQ at HC ⊢
  by_cases hs : sortedN S = 0
  · by_cases hk : askN q = 0
    · have hset := sortedN_set.1 hs
      have hgq := ask_good hk
      have h200 : S.length ≤ 200 := hset.1
      have e1 := hideE hs
      have e2 := hideE hk
      have Hset := hideE hset
      have Hgq := hideE hgq
      have Hpt := hideE hf.pt
      have Hfit := hideE hfit
      have hpl : q.parts.length ≤ 6 := hgq.six
      have hmk := makeAns
      rw [hs] at HS
      rw [hk] at HC
      clear hs hk hset hgq hf hfit hn
      go_enter Tryz.func38, Tryz.ntmps38
      go_upto_region 1 with fail
      rw [← hW0]
      clear hW0
      go_wp2_with fail
      refine (HS _ (Hh.out.below hB0)).mono ?_
      rintro e w1 ⟨rfl, hb1⟩
      have hX1 := hX0.out.below hb1
      obtain ⟨c0, c1, c2, c3, c4, c5⟩ := hX1
      have hB1 := bstep hB0 hb1
      dsimp only
      go_wp2_with fail
      refine (HC _ (Hq.out.below hB1)).mono ?_
      rintro e w2 ⟨rfl, hb2⟩
      have hX2 := hideE (hX0.out.below hb1 |>.below hb2)
      have c1b := hX2.out.c1
      have hz2 := World.block_lt_of_cell? w2 _ c1b
      dsimp only at hz2
      have hB2 := bstep hB1 hb2
      have Hq2 := hideE (Hq.out.below hB2)
      have Hh2 := hideE (Hh.out.below hB2)
      have hone := hideE (slE_one w2)
      have hst0 := hideE (AnsSt.start S q.parts)
      clear c0 c1 c2 c3 c4 c5 HC HS hb1 hb2 hB1 hX0 hB0 Hq Hh
      dsimp only
      go_wp2_with fail
      go_loopw [8, 28] (fun va i wr => ∃ (k : Nat) (vars : List (List UInt8)) (rows : List (List Tm)) (ax : Option Addr) (cx : Nat), k ≤ q.parts.length ∧ i = .int .i64 k ∧ va = .slice ax rows.length cx ∧ Hid (AnsSt S q.parts k vars rows) ∧ Hid (SlE wr ax (3 * k) (rows.map (boundT vars))) ∧ RowKit.Below w2.heap.size w2 wr) (fun _ i wr => q.parts.length - (intOf i).toNat)
      case atStart => exact ⟨0, [], [[]], _, _, Nat.zero_le _, rfl, rfl, hst0.out, hone.out, bstep (balloc _ _) (balloc _ _)⟩
      case round =>
        clear hone hst0 hmk
        obtain ⟨k, vars, rows, ax, cx, hk, rfl, rfl, hA, hL, hbr⟩ := hrel
        have hzr := hbr.size
        by_cases hlt : k < q.parts.length
        · have t1 : decide ((k : Int) < (q.parts.length : Int)) = true := by simp; omega
          have i0 : (0 : Int) ≤ (k : Int) := by omega
          have i1 : (k : Int) < (q.parts.length : Int) := by omega
          obtain ⟨b, o, rfl, hr0⟩ := (Hq2.out.parts.below hbr).at k hlt
          have hr := hr0.at k hlt
          have hpk := Hpt.out _ (List.getElem_mem hlt)
          have hvk := Hgq.out.parts _ (List.getElem_mem hlt)
          have hnext := hideE (fun h5 => hA.out.next hlt h5)
          have hover := hideE (fun h5 => hA.out.over hlt h5)
          generalize q.parts[k] = p at *
          have hN : matchN S p = 0 := by unfold matchN; rw [if_pos e1.out]; exact hvk
          have HP := fun W hW => answersToPart_any ad ca S p W hW Hfit.out hpk h200 hN
          have hrl := hA.out.ok.len
          have hshort : ∀ v ∈ varsL p, v.length ≤ maxLen := fun v hv => by
            rcases (varsL_mem.1 hv).2 with h | h | h
            · rw [h]; exact hpk.1.1
            · rw [h]; exact hpk.2.1.1
            · rw [h]; exact hpk.2.2.1
          have hmeet := hideE (fun sh (hsh : SharedE (rows.map (boundT vars)) ((matchP S p).map (evT p)) sh) => meet_step (S := S) (p := p) (sh := sh) hrl (fun h1 h2 => shared_v hrl hshort hsh h1 h2))
          have hM200 : (matchL S p).length ≤ 200 := Nat.le_trans (List.length_filter_le _ _) h200
          have hwa : ∀ f ∈ rows.map (boundT vars), WfE f := fun f hf => by
            obtain ⟨r, hr, rfl⟩ := List.mem_map.1 hf
            exact wfE_bound Hset.out (hA.out.ok.from_ r hr)
          have hwb : ∀ f ∈ (matchL S p).map (evT p), WfE f := fun f hf => by
            obtain ⟨t, ht, rfl⟩ := List.mem_map.1 hf
            exact wfE_evT Hset.out ((List.mem_filter.1 ht).1)
          have hdd : ∀ f ∈ (matchL S p).map (evT p), ∀ v, (f v).isSome = true → v ∈ varsL p := fun f hf v hv => by
            obtain ⟨t, ht, rfl⟩ := List.mem_map.1 hf
            exact Classical.byContradiction fun hn => by rw [evT_none.2 hn] at hv; cases hv
          have HME := fun aa ab ca cb W ha hb => meet_any aa ab ca cb (3 * k) 3 (rows.map (boundT vars)) ((matchL S p).map (evT p)) (varsL p) W ha hb (by simpa using hA.out.few) (by simpa using hM200) (by omega) (by omega) hwa hwb (varsL_few _) hdd
          have HHM := hideE HME
          have hcells := hideE hr
          have c0 := hr 0 _ rfl
          have c1 := hr 1 _ rfl
          have c2 := hr 2 _ rfl
          have c3 := hr 3 _ rfl
          have c4 := hr 4 _ rfl
          have c5 := hr 5 _ rfl
          have c6 := hr 6 _ rfl
          have c7 := hr 7 _ rfl
          have c8 := hr 8 _ rfl
          have c9 := hr 9 _ rfl
          have c10 := hr 10 _ rfl
          have c11 := hr 11 _ rfl
          rw [Nat.add_zero] at c0
          clear hr hr0 hwa hwb hdd HME hcells hrl hshort hN hvk hpk
          unfold valPt at HP
          go_wp2_with fail
          refine (HP _ (Hh2.out.below (bstep hbr (balloc _ _)))).mono ?_
          rintro e w4 ⟨hb4, ab, cb, rfl, hs4⟩
          have hb4' : RowKit.Below wr.heap.size wr w4 := bstep (balloc wr (.cells (encPt p).toArray 63)) hb4
          have HM := HHM.out ax ab cx cb w4 (hL.out.below hb4') hs4
          rw [List.length_map, List.length_map] at HM
          have HB4 := hideE hb4'
          clear hs4 HHM HP hL c0 c1 c2 c3 c4 c5 c6 c7 c8 c9 c10 c11 hb4 hb4'
          dsimp only
          generalize (matchL S p).length = nm at *
          go_wp2_with fail
          refine HM.mono ?_
          rintro e w5 ⟨hb5, sh, ay, cy, L, hsh, hLe, rfl, hs5⟩
          replace hLe : L = List.take 501 (meetE sh (rows.map (boundT vars)) ((matchP S p).map (evT p))) := hLe
          rw [hmeet.out sh hsh] at hLe
          have Hs5 := hideE hs5
          have HLe := hideE hLe
          have hBf := hideE (bstep (hbr.trans (HB4.out.mono hzr)) hb5)
          clear hs5 hLe hsh hb5 HM
          dsimp only
          by_cases h5 : 500 < (stepR S vars p rows).length
          · have hl : L.length = 501 := by rw [HLe.out, List.length_take, List.length_map]; omega
            have hnone := hideE (hover.out h5)
            rw [hl]
            clear hl h5
            go_wp2_with fail
            exact HQ.out _ _ (AnsTo.bad (n := 4) (bstep hB2 hBf.out) (solveN_f e1.out e2.out hnone.out) (by decide))
          · have hL3 : L = (stepR S vars p rows).map (boundT (vars ++ freshV vars p)) := by rw [HLe.out, take_map_le h5]
            have hA2 := hideE (hnext.out h5)
            have hl : L.length = (stepR S vars p rows).length := by rw [hL3]; simp
            have Hs6 := hideE (show SlE w5 ay (3 * (k + 1)) ((stepR S vars p rows).map (boundT (vars ++ freshV vars p))) by rw [← hL3]; exact Hs5.out)
            rw [hl]
            clear hl hL3 HLe Hs5 hnext hover hmeet hA
            generalize stepR S vars p rows = R2 at *
            have t5 : decide ((R2.length : Int) > 500) = false := by simp; omega
            have t6 : decide (500 < (R2.length : Int)) = false := by simp; omega
            go_wp2_with fail
            go_roundw
            case rel => exact ⟨k + 1, _, R2, ay, cy, by omega, by go_num, rfl, hA2.out, Hs6.out, hBf.out⟩
            case measure => simp [intOf]; omega
        · obtain rfl : k = q.parts.length := by omega
          have t1 : decide ((q.parts.length : Int) < (q.parts.length : Int)) = false := by simp
          have hd := hideE hA.out.done
          go_wp2_with fail
          exact HQ.out _ _ ⟨bstep hB2 hbr, fun h => absurd (solveN_z e1.out e2.out hd.out) h, fun _ => ⟨vars, rows, ax, cx, hd.out, rfl, by
            have := hL.out
            exact fun hne => by
              obtain ⟨b, o, e, r⟩ := this hne
              exact ⟨b, o, e, fun j hj => by obtain ⟨bm, c, s⟩ := r j hj; exact ⟨bm, c, s.mono (by omega)⟩⟩⟩⟩
    · have h0 := hideE (solveN_a hs hk)
      have h1 := hideE hk
      generalize askN q = n1 at *
      have e1 : (n1 == 0) = false := by simpa using hk
      rw [hs] at HS
      clear hs hk
      go_enter Tryz.func38, Tryz.ntmps38
      go_upto_region 1 with fail
      rw [← hW0]
      clear hW0
      go_wp2_with fail
      refine (HS _ (Hh.out.below hB0)).mono ?_
      rintro e w1 ⟨rfl, hb1⟩
      obtain ⟨c0, c1, c2, c3, c4, c5⟩ := hX0.out.below hb1
      have hB1 := bstep hB0 hb1
      dsimp only
      go_wp2_with fail
      refine (HC _ (Hq.out.below hB1)).mono ?_
      rintro e w2 ⟨rfl, hb2⟩
      go_wp2_with fail
      exact HQ.out _ _ (AnsTo.bad (bstep hB1 hb2) h0.out h1.out)
  · have h0 := hideE (solveN_s (q := q) hs)
    have h1 := hideE hs
    generalize sortedN S = n1 at *
    have e1 : (n1 == 0) = false := by simpa using hs
    clear hs HC
    go_enter Tryz.func38, Tryz.ntmps38
    go_upto_region 1 with fail
    rw [← hW0]
    clear hW0
    go_wp2_with fail
    refine (HS _ (Hh.out.below hB0)).mono ?_
    rintro e w1 ⟨rfl, hb1⟩
    go_wp2_with fail
    exact HQ.out _ _ (AnsTo.bad (bstep hB0 hb1) h0.out h1.out)
end Go.Proofs.YtlmhlmeephnmkaaGreat

/- Rows of terms as the program compares and sorts them, and equal ones once; plain lists, no program. -/
namespace Go.Proofs.YtlmhlmeephnmkaaGreat
open Go Go.RowKit Go.Proofs Go.Sort Go.Lib
set_option synthInstance.maxSize 1000
variable {lt : List Tm → List Tm → Bool}
def allQ (n : Nat) : Array (Fin n) := Array.ofFn fun i => i
theorem allQ_size (n : Nat) : (allQ n).size = n := by simp [allQ]
/-! ### as the program compares -/
def cmpF : List Tm → List Tm → Int
  | [], [] => 0
  | [], _ :: _ => -1
  | _ :: _, [] => 1
  | x :: a, y :: b => if cmpTm x y = 0 then cmpF a b else cmpTm x y
theorem cmpF_less : ∀ (a b : List Tm), a.length = b.length → decide (cmpF a b < 0) = lessR a b
  | [], [], _ => rfl
  | [], y :: b, h => by simp at h
  | x :: a, [], h => by simp at h
  | x :: a, y :: b, h => by
    unfold cmpF lessR
    by_cases e : cmpTm x y = 0
    · rw [if_pos e, if_pos e]; exact cmpF_less a b (by simpa using h)
    · rw [if_neg e, if_neg e]
def cmpQ (i : Option Nat) (down : Bool) (a b : List Tm) : Int := match i with
  | none => cmpF a b
  | some i => if cmpTm (a.getD i tmZero) (b.getD i tmZero) = 0 then cmpF a b else if down = true then - cmpTm (a.getD i tmZero) (b.getD i tmZero) else cmpTm (a.getD i tmZero) (b.getD i tmZero)
theorem cmpQ_ahead (i : Option Nat) (down : Bool) (a b : List Tm) (h : a.length = b.length) : decide (cmpQ i down a b < 0) = aheadB i down a b := by
  have hl := cmpF_less a b h
  unfold cmpQ aheadB byC
  cases i with
  | none => simp [hl]
  | some i =>
    generalize hc : cmpTm (a.getD i tmZero) (b.getD i tmZero) = c
    simp only [hc]
    by_cases e : c = 0
    · subst e
      cases down <;> simp [hl]
    · have e' : ¬ -c = 0 := by omega
      cases down <;> simp [e, e']
theorem swoQ (i : Option Nat) (down : Bool) {k : Nat} (o : OrdR (aheadB i down) k) (L : List (List Tm)) (hL : LenR k L) : SWO (ltOf fun (x y : Fin L.length) => cmpQ i down L[x] L[y]) := by
  have e : ∀ x y : Fin L.length, ltOf (fun (x y : Fin L.length) => cmpQ i down L[x] L[y]) x y = aheadB i down L[x] L[y] := fun x y => cmpQ_ahead i down _ _ ((hL _ (List.getElem_mem x.isLt)).trans (hL _ (List.getElem_mem y.isLt)).symm)
  refine ⟨fun x => by rw [e]; exact o.irr _, fun x y z h1 h2 => ?_, fun x y z h1 h2 => ?_⟩
  · rw [e] at h1 h2 ⊢; exact o.trans h1 h2
  · rw [e] at h1 h2 ⊢
    exact o.back (hL _ (List.getElem_mem z.isLt)) (hL _ (List.getElem_mem y.isLt)) h2 h1
theorem allQ_map (L : List (List Tm)) : (allQ L.length).toList.map (fun i => L[i]) = L := by
  apply List.ext_getElem
  · simp [allQ]
  · intro i h1 h2
    simp [allQ]
theorem sorted_rows (i : Option Nat) (down : Bool) {k : Nat} (o : OrdR (aheadB i down) k) (L : List (List Tm)) (hL : LenR k L) [Inhabited (Fin L.length)] {d' : Array (Fin L.length)} (hp : PermIn 0 (allQ L.length).size (allQ L.length) d')
    (hs : SortedIn (ltOf fun (x y : Fin L.length) => cmpQ i down L[x] L[y]) 0 (allQ L.length).size d') : d'.size = L.length ∧ d'.toList.map (fun j => L[j]) = sortR (aheadB i down) false L := by
  rw [allQ_size] at hp hs
  have hsz : d'.size = L.length := by rw [hp.1, allQ_size]
  have e : ∀ x y : Fin L.length, ltOf (fun (x y : Fin L.length) => cmpQ i down L[x] L[y]) x y = aheadB i down L[x] L[y] := fun x y => cmpQ_ahead i down _ _ ((hL _ (List.getElem_mem x.isLt)).trans (hL _ (List.getElem_mem y.isLt)).symm)
  refine ⟨hsz, sortR_all o hL ?_ ?_⟩
  · refine List.pairwise_iff_getElem.2 ?_
    intro a b ha hb hab
    have ha' : a < d'.size := by simpa using ha
    have hb' : b < d'.size := by simpa using hb
    have h1 := hs a b (Nat.zero_le _) hab (by omega)
    rw [getElem!_pos d' a ha', getElem!_pos d' b hb', e] at h1
    simpa using h1
  · have h := hp.2.2
    have q : ∀ (a : Array (Fin L.length)), a.size = L.length → (a.extract 0 L.length).toList = a.toList := fun a ha => by
      rw [Array.toList_extract]
      simp [List.take_of_length_le (show a.toList.length ≤ L.length by simp [ha])]
    rw [q d' hsz, q _ (allQ_size _)] at h
    have h2 := h.map (fun i : Fin L.length => L[i])
    rwa [allQ_map] at h2
/-- a sorted list, neighbours that are equal once -/
theorem compQ_mem {l : List (List Tm)} {x : List Tm} : x ∈ compact l ↔ x ∈ l := by
  unfold compact compactUpTo
  simp only [List.mem_map, List.mem_filter, List.mem_range]
  constructor
  · rintro ⟨j, ⟨hj, _⟩, rfl⟩
    rw [getElem!_pos l.toArray j (by simpa using hj)]
    simp
  · intro h
    have key : ∀ j, j < l.length → ∃ a, (a < l.length ∧ keeps l.toArray a = true) ∧ l.toArray[a]! = l.toArray[j]! := by
      intro j
      induction j with
      | zero => exact fun h0 => ⟨0, ⟨h0, by simp [keeps]⟩, rfl⟩
      | succ m ih =>
        intro hm
        by_cases hk : keeps l.toArray (m + 1) = true
        · exact ⟨m + 1, ⟨hm, hk⟩, rfl⟩
        · obtain ⟨a, ha, e⟩ := ih (by omega)
          refine ⟨a, ha, e.trans ?_⟩
          simp only [keeps, decide_eq_true_eq, not_or] at hk
          have h2 : l.toArray[m + 1]! = l.toArray[m + 1 - 1]! := Classical.byContradiction hk.2
          exact h2.symm
    obtain ⟨j, hj, rfl⟩ := List.getElem_of_mem h
    obtain ⟨a, ha, e⟩ := key j hj
    refine ⟨a, ha, e.trans ?_⟩
    rw [getElem!_pos l.toArray j (by simpa using hj)]
    simp
theorem comp_sorted {l : List (List Tm)} {k : Nat} (o : OrdR lt k) (hL : LenR k l) (h : SortedR lt l) : SortedR lt (compact l) ∧ (compact l).Nodup := by
  have h' := List.pairwise_iff_getElem.1 h
  have le : ∀ a b, a ≤ b → b < l.length → lt l.toArray[b]! l.toArray[a]! = false := fun a b hab hb => by
    rw [getElem!_pos l.toArray a (by simp; omega), getElem!_pos l.toArray b (by simpa using hb)]
    rcases Nat.lt_or_ge a b with h1 | h1
    · simpa using h' a b (by omega) hb h1
    · have : a = b := by omega
      subst this
      exact o.irr _
  have hlen : ∀ a, a < l.length → (l.toArray[a]!).length = k := fun a ha => by
    rw [getElem!_pos l.toArray a (by simpa using ha)]
    exact hL _ (by simp)
  have hpw : ((List.range l.length).filter (keeps l.toArray)).Pairwise fun a b => a < b ∧ b < l.length ∧ keeps l.toArray b = true := by
    have h1 : (List.range l.length).Pairwise fun a b => a < b := List.pairwise_lt_range
    have h2 := h1.filter (keeps l.toArray)
    refine h2.imp_of_mem ?_
    intro a b _ hb hab
    rw [List.mem_filter, List.mem_range] at hb
    exact ⟨hab, hb⟩
  constructor
  · unfold SortedR compact compactUpTo
    rw [List.pairwise_map]
    exact hpw.imp (fun {a b} hh => le a b (by omega) hh.2.1)
  · unfold List.Nodup compact compactUpTo
    rw [List.pairwise_map]
    refine hpw.imp (fun {a b} hh => ?_)
    obtain ⟨hab, hb, hk⟩ := hh
    intro e
    simp only [keeps, decide_eq_true_eq] at hk
    have hne : l.toArray[b]! ≠ l.toArray[b - 1]! := by
      rcases hk with h0 | h0
      · omega
      · exact h0
    refine hne (o.total (hlen b hb) (hlen (b - 1) (by omega)) (le (b - 1) b (by omega) hb) ?_)
    rw [← e]
    exact le a (b - 1) (by omega) (by omega)
theorem comp_sort {k : Nat} (o : OrdR lt k) {rows : List (List Tm)} (hL : LenR k rows) (hs : SortedR lt (sortR lt false rows)) : compact (sortR lt false rows) = sortR lt true rows := by
  have hL2 : LenR k (sortR lt false rows) := fun x hx => hL x (sort_mem.1 hx)
  obtain ⟨h1, h2⟩ := comp_sorted o hL2 hs
  exact sortR_once o hL h1 h2 (fun x => by rw [compQ_mem, sort_mem])
end Go.Proofs.YtlmhlmeephnmkaaGreat

/- Rows of terms compared: slices.CompareFunc with term.Compare, slices.Equal, and solve.ordering. -/
namespace Go.Proofs.YtlmhlmeephnmkaaGreat
open Go Go.RowKit Go.Proofs Go.Maps Go.Sort
set_option synthInstance.maxSize 1000
attribute [local go_sem ↓] neqTerm eqlTerm

theorem enters75 : ∀ args w, (callFunc 75 args).run Tryz.prog w = .ok (.enter 75 args) w := enters_of Tryz.func75 (by kernel_rfl) rfl
theorem cmpF_at {a b : List Tm} {k : Nat} (h1 : k < a.length) (h2 : k < b.length) : cmpF (a.drop k) (b.drop k) = if cmpTm a[k] b[k] = 0 then cmpF (a.drop (k + 1)) (b.drop (k + 1)) else cmpTm a[k] b[k] := by
  rw [List.drop_eq_getElem_cons h1, List.drop_eq_getElem_cons h2, cmpF]
theorem SlQ.grew {w w' : World} {ad : Option Addr} {l : List Tm} (h : SlQ w ad l) (hg : Grew w w') : SlQ w' ad l := h.below hg.below
set_option maxHeartbeats 4000000 in
set_option maxRecDepth 100000 in
theorem CompareQ_any (ad bd : Option Addr) (ca cb : Nat) (a b : List Tm) (w : World) (ha : SlQ w ad a) (hb : SlQ w bd b) (la : a.length ≤ 1000000) :
    Calls Tryz.prog 74 #[.slice ad a.length ca, .slice bd b.length cb, .func (.func 75) #[] #[]] w fun e w' => e = .returned (.int .i64 (cmpF a b)) ∧ Grew w w' := by
  have HA := hideE ha
  have HB := hideE hb
  have eg := enters75
  obtain ⟨R, hR⟩ : ∃ R, R = cmpF a b := ⟨_, rfl⟩
  have HR := hideE hR
  rw [← hR]
  clear ha hb hR
  go_enter Tryz.func74, Tryz.ntmps74
  go_wp2_with fail
  go_loopw [13] (fun i wr => ∃ k : Nat, k ≤ a.length ∧ k ≤ b.length ∧ i = .int .i64 k ∧ Hid (R = cmpF (a.drop k) (b.drop k)) ∧ Grew w wr) (fun i wr => a.length - (intOf i).toNat)
  case atStart => exact ⟨0, Nat.zero_le _, Nat.zero_le _, rfl, HR.out, Grew.refl _⟩
  case round =>
    obtain ⟨k, hk, hkb, rfl, hC, hg⟩ := hrel
    by_cases h1 : k < a.length
    · have t1 : decide ((k : Int) < (a.length : Int)) = true := by simp; omega
      have i0 : (0 : Int) ≤ (k : Int) := by omega
      have i1 : (k : Int) < (a.length : Int) := by omega
      obtain ⟨g, o, rfl, c0, c1, c2⟩ := (HA.out.grew hg).at k h1
      by_cases h2 : k < b.length
      · have t2 : decide ((k : Int) ≥ (b.length : Int)) = false := by simp; omega
        have i2 : (k : Int) < (b.length : Int) := by omega
        obtain ⟨g', o', rfl, d0, d1, d2⟩ := (HB.out.grew hg).at k h2
        have hC2 := hC.out
        rw [cmpF_at h1 h2] at hC2
        have HC2 := hideE hC2
        have HK := fun W => Compare_grew a[k].1 a[k].2.1 a[k].2.2 b[k].1 b[k].2.1 b[k].2.2 W
        have hdef := hideE (show cmpT a[k].1 a[k].2.1 a[k].2.2 b[k].1 b[k].2.1 b[k].2.2 = cmpTm a[k] b[k] from rfl)
        clear hC hC2
        generalize cmpT a[k].1 a[k].2.1 a[k].2.2 b[k].1 b[k].2.1 b[k].2.2 = cc at *
        generalize a[k] = x at *
        generalize b[k] = y at *
        have z1 := World.block_lt_of_cell? wr _ d0
        dsimp only at z1
        by_cases hcc : cc = 0
        · have t3 : (cc != 0) = false := by simp [hcc]
          have hR2 := hideE (show R = cmpF (a.drop (k + 1)) (b.drop (k + 1)) by rw [HC2.out, if_pos (by rw [← hdef.out]; exact hcc)])
          go_wp2_with fail
          go_at_fn 75
          refine (HK _).mono ?_
          rintro e w2 ⟨rfl, hg2⟩
          dsimp only
          go_wp2_with fail
          go_roundw
          case rel => exact ⟨k + 1, by omega, by omega, by go_num, hR2.out, ((hg.trans (grew_alloc _ _)).trans (grew_alloc _ _)).trans hg2⟩
          case measure => simp [intOf]; omega
        · have t3 : (cc != 0) = true := by simp [hcc]
          have hR2 := hideE (show R = cc by rw [HC2.out, if_neg (by rw [← hdef.out]; exact hcc), ← hdef.out])
          go_wp2_with fail
          go_at_fn 75
          refine (HK _).mono ?_
          rintro e w2 ⟨rfl, hg2⟩
          dsimp only
          go_wp2_with fail
          go_ret
          exact ⟨by rw [hR2.out]; rfl, ((hg.trans (grew_alloc _ _)).trans (grew_alloc _ _)).trans hg2⟩
      · have t2 : decide ((k : Int) ≥ (b.length : Int)) = true := by simp; omega
        have hR2 := hideE (show R = 1 by rw [hC.out, List.drop_eq_getElem_cons h1, List.drop_eq_nil_of_le (show b.length ≤ k by omega), cmpF])
        go_wp2_with fail
        go_ret
        exact ⟨by rw [hR2.out]; rfl, hg.trans (grew_alloc _ _)⟩
    · obtain rfl : k = a.length := by omega
      have t1 : decide ((a.length : Int) < (a.length : Int)) = false := by simp
      by_cases h2 : a.length < b.length
      · have t2 : decide ((a.length : Int) < (b.length : Int)) = true := by simp; omega
        have hR2 := hideE (show R = -1 by rw [hC.out, List.drop_eq_nil_of_le (Nat.le_refl _), List.drop_eq_getElem_cons h2, cmpF])
        go_wp2_with fail
        go_ret
        exact ⟨by rw [hR2.out]; rfl, hg⟩
      · have t2 : decide ((a.length : Int) < (b.length : Int)) = false := by simp; omega
        have hR2 := hideE (show R = 0 by rw [hC.out, List.drop_eq_nil_of_le (Nat.le_refl _), List.drop_eq_nil_of_le (by omega), cmpF])
        go_wp2_with fail
        go_ret
        exact ⟨by rw [hR2.out]; rfl, hg⟩
end Go.Proofs.YtlmhlmeephnmkaaGreat
