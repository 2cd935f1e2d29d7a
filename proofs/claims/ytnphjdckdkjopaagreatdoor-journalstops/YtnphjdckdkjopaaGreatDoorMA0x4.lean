import Derived.Test.YtnphjdckdkjopaaGreatDoorMA0x3
import Derived.Lib.BufSteps
import Derived.Deep.RegionHeld3
import Derived.Laws.IdiomStrings
import Derived.Maps.OwnSet
import Derived.DeepKeys4
import Derived.OwnWalk
import Derived.Lib.AppendZeros
import Derived.Deep.Upon

/- A repo stays one, whatever is done. -/
namespace Go.Proofs.YtnphjdckdkjopaaGreatDoor
open Go Go.RowKit Go.Proofs
set_option synthInstance.maxSize 1000

theorem lead_len (l : List Rf) (b : List UInt8) (t : Nat) : (leadR l b t).length = (dropL l b).length + 1 := by
  unfold leadR
  induction l with
  | nil => simp [leadG, dropL]
  | cons x r ih =>
    unfold leadG
    simp only [true_and, Bool.false_or]
    have hd : (dropL (x :: r) b).length = (if x.1 ≠ b then [x] else []).length + (dropL r b).length := by
      unfold dropL
      rw [List.filter_cons]
      by_cases e : x.1 = b
      · simp [e]
      · simp [e]; omega
    by_cases hle : b ≤ x.1
    · rw [if_pos hle, decide_eq_true hle, lead_after, List.length_append, List.length_append, hd]
      simp only [List.length_singleton]
      omega
    · rw [if_neg hle, decide_eq_false hle, List.length_append, List.length_append, ih, hd]
      simp only [List.length_nil]
      omega
theorem drop_len_none {l : List Rf} {b : List UInt8} (h : atR l b < 0) : dropL l b = l :=
  List.filter_eq_self.2 fun x hx => by simpa using atR_neg.1 h x hx
theorem drop_len_some {l : List Rf} {b : List UInt8} (h : 0 ≤ atR l b) : (dropL l b).length < l.length := by
  have hne : ¬ ∀ x ∈ l, x.1 ≠ b := fun hh => by have := atR_neg.2 hh; omega
  refine Classical.byContradiction fun hge => hne fun x hx e => hge ?_
  unfold dropL
  refine Nat.lt_of_le_of_ne (List.length_filter_le _ _) fun heq => ?_
  have := (List.length_filter_eq_length_iff.1 heq) x hx
  simp at this
  exact this e
theorem lead_le (l : List Rf) (b : List UInt8) (t : Nat) : (leadR l b t).length ≤ l.length + 1 := by
  rw [lead_len]
  have := List.length_filter_le (fun x : Rf => decide (x.1 ≠ b)) l
  unfold dropL
  omega
theorem lead_few {l : List Rf} {b : List UInt8} {t : Nat} (h : l.length ≤ 8) (hr : 0 ≤ atR l b ∨ l.length < 8) : (leadR l b t).length ≤ 8 := by
  by_cases h0 : 0 ≤ atR l b
  · have := drop_len_some h0
    rw [lead_len]
    omega
  · have := lead_le l b t
    omega

theorem goodC_snoc {l : List Cm} {c : Cm} (h : GoodC l) (hl : l.length < 60) (hc : comN c l.length = 0) : GoodC (l ++ [c]) := by
  refine ⟨by rw [List.length_append]; simp; omega, fun j hj => ?_⟩
  rw [List.length_append] at hj
  simp at hj
  by_cases hjl : j < l.length
  · rw [List.getElem_append_left hjl]
    exact h.2 j hjl
  · have e : j = l.length := by omega
    subst e
    rw [List.getElem_append_right (Nat.le_refl _)]
    simpa using hc
/-- parents that may be -/
def okPar (k : Nat) (ps : List Int) : Prop := ps.length ≤ 2 ∧ (∀ p ∈ ps, 0 ≤ p ∧ p < k) ∧ twinB ps = false
theorem com_ok {k : Nat} {ps : List Int} {y : Int} {m : List UInt8} (hp : okPar k ps) (hm : msgN m = 0) (h1 : 1 ≤ y) (h2 : y ≤ 300) : comN (ps, y, m) k = 0 := by
  have e : rangeB ps k = true := by unfold rangeB; rw [List.all_eq_true]; intro p hp'; simpa using hp.2.1 p hp'
  unfold comN
  dsimp only
  rw [if_neg (by rw [hm]; have := hp.1; omega), if_neg (by rw [e]; simp), if_neg (by rw [hp.2.2]; simp), if_neg (by rw [hm]; simp), if_neg (by omega)]
theorem putI_range {n : Nat} {L : List Ob} {b : List UInt8} (h : GoodO n L) (he : putE L b = 0) : 1 ≤ putI n L b ∧ putI n L b ≤ n + 1 := by
  unfold putI
  unfold putE at he
  by_cases hf : findO L b ≠ 0
  · rw [if_pos hf]
    obtain ⟨x, hx, e⟩ := (findO_mem fun y hy => (h.low y hy).1).1 hf
    have := findO_in h.once hx
    rw [e] at this
    have := h.low x hx
    omega
  · rw [if_neg hf] at he ⊢
    by_cases h2 : fullO L b = true
    · rw [if_pos h2] at he; simp at he
    · rw [if_neg h2]; omega
theorem putM_le (n : Nat) (L : List Ob) (b : List UInt8) : putM n L b ≤ n + 1 := by
  unfold putM
  split
  · omega
  · split <;> omega

theorem findC_at {cl : List Cm} {gl : List (List Tr)} {ps : List Int} {s : List Tr} {m : List UInt8} {i : Nat} (h : findC cl gl ps s m = some i) : ∃ (h1 : i < cl.length) (h2 : i < gl.length), cl[i].2.2 = m ∧ cl[i].1 = ps ∧ gl[i] = s := by
  induction cl generalizing gl i with
  | nil => simp [findC] at h
  | cons c r ih =>
    cases gl with
    | nil => simp [findC] at h
    | cons g q =>
      unfold findC at h
      split at h
      · rename_i hc
        obtain rfl := Option.some.inj h
        exact ⟨by simp, by simp, hc.1, hc.2.1, hc.2.2⟩
      · obtain ⟨k, hk, e⟩ := Option.map_eq_some_iff.1 h
        subst e
        obtain ⟨h1, h2, h3⟩ := ih hk
        exact ⟨by simpa using h1, by simpa using h2, h3⟩
theorem add_in {R : Rp} {ps : List Int} {s : List Tr} {m : List UInt8} (he : addE R ps s m = 0) : addI R ps s m < (addR R ps s m).coms.length := by
  unfold addI addR
  unfold addE at he
  cases hf : findC R.coms R.gr ps s m with
  | some i => exact (findC_at hf).1
  | none =>
    rw [hf] at he
    dsimp only at he ⊢
    by_cases h60 : 60 ≤ R.coms.length
    · rw [if_pos h60] at he; simp at he
    · rw [if_neg h60] at he ⊢
      rw [if_neg h60, if_neg (by simpa using he), if_neg (by simpa using he)]
      simp
theorem add_refs (R : Rp) (ps : List Int) (s : List Tr) (m : List UInt8) : (addR R ps s m).refs = R.refs := by
  unfold addR
  split
  · rfl
  · split
    · rfl
    · split <;> rfl
theorem add_more (R : Rp) (ps : List Int) (s : List Tr) (m : List UInt8) : R.coms <+: (addR R ps s m).coms ∧ R.gr <+: (addR R ps s m).gr := by
  unfold addR
  split
  · exact ⟨List.prefix_refl _, List.prefix_refl _⟩
  · split
    · exact ⟨List.prefix_refl _, List.prefix_refl _⟩
    · split
      · exact ⟨List.prefix_refl _, List.prefix_refl _⟩
      · exact ⟨List.prefix_append _ _, List.prefix_append _ _⟩
theorem GoodR.add {R : Rp} (h : GoodR R) {ps : List Int} {s : List Tr} {m : List UInt8} (hp : okPar R.coms.length ps) (hs : IsSet s) (hm : msgN m = 0) : GoodR (addR R ps s m) := by
  unfold addR
  split
  · exact h
  · split
    · exact h
    · rename_i h60
      split
      · exact h
      · rename_i hpe
        have hpe : putE R.L (bytesR R ps s) = 0 := by simpa using hpe
        have hI := putI_range h.store hpe
        have hM := putM_le R.n R.L (bytesR R ps s)
        have hl := h.last
        refine ⟨h.store.put _, by simp; omega, goodC_snoc h.coms (by omega) (com_ok hp hm (by omega) (by omega)), by simp [h.len], ?_, h.refs, fun x hx => ?_, h.few⟩
        · intro g hg
          rcases List.mem_append.1 hg with hg | hg
          · exact h.sets g hg
          · simp at hg; subst hg; exact hs
        · have := h.names x hx
          simp
          exact ⟨this.1, by omega⟩
theorem GoodR.lead {R : Rp} (h : GoodR R) {b : List UInt8} {t : Nat} (hb : nameR b = true) (ht : t < R.coms.length) (hr : 0 ≤ atR R.refs b ∨ R.refs.length < 8) : GoodR (leadTo R b t) := by
  refine ⟨h.store, h.last, h.coms, h.len, h.sets, h.refs.lead b t, fun x hx => ?_, lead_few h.few hr⟩
  rcases mem_lead.1 hx with rfl | ⟨hx, _⟩
  · exact ⟨hb, ht⟩
  · exact h.names x hx
theorem atR_lt {R : Rp} (h : GoodR R) (b : List UInt8) : atR R.refs b < R.coms.length := by
  by_cases h0 : 0 ≤ atR R.refs b
  · obtain ⟨t, ht⟩ : ∃ t : Nat, atR R.refs b = (t : Int) := ⟨(atR R.refs b).toNat, by omega⟩
    have := (h.names _ ((atR_mem h.refs).1 ht)).2
    dsimp only at this
    omega
  · omega
theorem par_ok {R : Rp} (h : GoodR R) (b : List UInt8) : okPar R.coms.length (parR R b) := by
  unfold parR
  have := atR_lt h b
  split
  · rename_i h0
    exact ⟨by simp, fun p hp => by simp at hp; omega, rfl⟩
  · exact ⟨by simp, by simp, rfl⟩
theorem goodR_empty : GoodR emptyR := ⟨goodO_nil 0, Nat.le_refl _, ⟨by decide, fun j hj => absurd hj (by simp [emptyR])⟩, rfl, by simp [emptyR], by simp [emptyR, ByName], by simp [emptyR], by decide⟩
theorem setF_zero {s : List Tr} {m : List UInt8} (h : setF s m = 0) : sortedN s = 0 ∧ msgN m = 0 := by
  unfold setF at h
  split at h
  · rename_i h1; exact absurd h h1
  · rename_i h1; exact ⟨by simpa using h1, h⟩
theorem GoodR.commit {R : Rp} (h : GoodR R) (b : List UInt8) (s : List Tr) (m : List UInt8) : GoodR (commitR R b s m) := by
  unfold commitR
  split
  · exact h
  · rename_i hE
    have hE : commitE R b s m = 0 := by simpa using hE
    have hE' := hE
    unfold commitE at hE
    split at hE
    · rename_i h1; exact absurd hE h1
    · rename_i h1
      have h1 : commitF R b s m = 0 := by simpa using h1
      unfold commitF at h1
      split at h1
      · simp at h1
      · rename_i hn
        split at h1
        · rename_i h2; exact absurd h1 h2
        · rename_i h2
          have h2 : setF s m = 0 := by simpa using h2
          split at h1
          · simp at h1
          · rename_i hr
            have hr : 0 ≤ atR R.refs b ∨ R.refs.length < 8 := by
              have hr : roomR R b = true := by simpa using hr
              unfold roomR at hr
              exact of_decide_eq_true hr
            obtain ⟨q1, q2⟩ := setF_zero h2
            refine (h.add (par_ok h b) (sortedN_set.1 q1) q2).lead (by simpa using hn) (add_in hE) ?_
            rw [add_refs]
            exact hr
theorem headE_zero {R : Rp} {b : List UInt8} (h : headE R b = 0) : nameR b = true ∧ 0 ≤ atR R.refs b := by
  unfold headE at h
  split at h
  · simp at h
  · rename_i h1
    split at h
    · simp at h
    · rename_i h2; exact ⟨by simpa using h1, by omega⟩
theorem inR_iff {R : Rp} {a : Int} : inR R a = true ↔ 0 ≤ a ∧ a < R.coms.length := by unfold inR; simp
theorem joinF_zero {R : Rp} {b : List UInt8} {o : Int} {s : List Tr} {m : List UInt8} (h : joinF R b o s m = 0) : headE R b = 0 ∧ inR R o = true ∧ o ≠ atR R.refs b ∧ setF s m = 0 := by
  unfold joinF at h
  split at h
  · rename_i h1; exact absurd h h1
  · rename_i h1
    split at h
    · simp at h
    · rename_i h2
      split at h
      · simp at h
      · rename_i h3
        exact ⟨by simpa using h1, by simpa using h2, h3, h⟩
theorem two_ok {R : Rp} (h : GoodR R) {b : List UInt8} {o : Int} (h0 : 0 ≤ atR R.refs b) (ho : inR R o = true) (hne : o ≠ atR R.refs b) : okPar R.coms.length [atR R.refs b, o] := by
  have := atR_lt h b
  have h2 := inR_iff.1 ho
  refine ⟨by simp, fun p hp => ?_, ?_⟩
  · simp at hp
    rcases hp with rfl | rfl
    · omega
    · exact h2
  · simp [twinB]
    exact fun e => hne e.symm
theorem GoodR.join {R : Rp} (h : GoodR R) (b : List UInt8) (o : Int) (s : List Tr) (m : List UInt8) : GoodR (joinR R b o s m) := by
  unfold joinR
  split
  · exact h
  · rename_i hE
    have hE : joinE R b o s m = 0 := by simpa using hE
    unfold joinE at hE
    split at hE
    · rename_i h1; exact absurd hE h1
    · rename_i h1
      obtain ⟨q1, q2, q3, q4⟩ := joinF_zero (by simpa using h1 : joinF R b o s m = 0)
      obtain ⟨p1, p2⟩ := headE_zero q1
      obtain ⟨r1, r2⟩ := setF_zero q4
      refine (h.add (two_ok h p2 q2 q3) (sortedN_set.1 r1) r2).lead p1 (add_in hE) ?_
      rw [add_refs]
      exact Or.inl p2
theorem GoodR.branch {R : Rp} (h : GoodR R) (b : List UInt8) (a : Int) : GoodR (branchR R b a) := by
  unfold branchR
  split
  · exact h
  · rename_i hE
    have hE : branchE R b a = 0 := by simpa using hE
    unfold branchE at hE
    split at hE
    · simp at hE
    · rename_i h1
      split at hE
      · simp at hE
      · rename_i h2
        split at hE
        · simp at hE
        · split at hE
          · rename_i h4
            have := inR_iff.1 (by simpa using h2 : inR R a = true)
            exact h.lead (by simpa using h1) (by omega) (Or.inr h4)
          · simp at hE
theorem GoodR.move {R : Rp} (h : GoodR R) (b : List UInt8) (f t : Int) : GoodR (moveR R b f t) := by
  unfold moveR
  split
  · exact h
  · rename_i hE
    have hE : moveE R b f t = 0 := by simpa using hE
    unfold moveE at hE
    split at hE
    · rename_i h1; exact absurd hE h1
    · rename_i h1
      obtain ⟨p1, p2⟩ := headE_zero (by simpa using h1 : headE R b = 0)
      split at hE
      · simp at hE
      · split at hE
        · simp at hE
        · rename_i h3
          have := inR_iff.1 (by simpa using h3 : inR R t = true)
          exact h.lead p1 (by omega) (Or.inl p2)
theorem GoodR.drop {R : Rp} (h : GoodR R) (b : List UInt8) : GoodR (dropR R b) := by
  unfold dropR
  split
  · exact h
  · exact ⟨h.store, h.last, h.coms, h.len, h.sets, h.refs.drop b, fun x hx => h.names x (List.mem_filter.1 hx).1, Nat.le_trans (List.length_filter_le _ _) h.few⟩
end Go.Proofs.YtnphjdckdkjopaaGreatDoor

/- code.addTerm: a term behind bytes that the call owns. -/
namespace Go.Proofs.YtnphjdckdkjopaaGreatDoor
open Go Go.RowKit Go.Proofs
set_option synthInstance.maxSize 1000

def bytesV (l : List UInt8) : List Value := l.map fun b => Value.int .u8 b.toNat
theorem bytesV_len (l : List UInt8) : (bytesV l).length = l.length := by simp [bytesV]
theorem bytesV_app (a b : List UInt8) : bytesV (a ++ b) = bytesV a ++ bytesV b := by simp [bytesV]
theorem infoU8 : (Tryz.prog.info? 5).map (fun i => (i.zero, i.size, i.bytes)) = some (some (.int .u8 0), 1, 1) := by kernel_rfl

/-- bytes that a slice owns, in a block from B on; below B nothing has turned since W0 -/
def Buf (B : Nat) (v : Value) (l : List UInt8) (W0 w : World) : Prop := Lib.OwnBuf B 5 v l.length (bytesV l) W0 w
/-- blocks of another type are as they were -/
def Keep (w w' : World) : Prop := ∀ (g : Nat) (C : Array Value) (t : TypeId) (fz : Nat × Nat), t ≠ 5 → w.heap[g]? = some (Obj.cells C t fz) → w'.heap[g]? = some (Obj.cells C t fz)
theorem Keep.refl (w : World) : Keep w w := fun _ _ _ _ _ h => h
theorem Keep.trans {a b c : World} (h : Keep a b) (k : Keep b c) : Keep a c := fun g C t fz ht hg => k g C t fz ht (h g C t fz ht hg)
theorem Keep.alloc (w : World) (o : Obj) : Keep w (w.alloc o) := fun g C t fz _ h => by
  have hl : g < w.heap.size := (Array.getElem?_eq_some_iff.1 h).1
  rw [RowKit.Below.heap_alloc w o g hl]
  exact h
theorem Keep.grown {w w' : World} {B : Nat} {v : Value} {n : Nat} {xs : List Value} (ho : w.ownsRowF B 5 1 v n xs) (hg : w.grownBy w' v.ownBlock) : Keep w w' := fun g C t fz ht h => by
  have hl : g < w.heap.size := (Array.getElem?_eq_some_iff.1 h).1
  rw [hg.block g hl]
  · exact h
  · intro e
    rcases ho.2 with ⟨rfl, _⟩ | ⟨q, cap, cur, f2, rfl, _, hq, _⟩
    · simp [Value.ownBlock] at e
    · simp [Value.ownBlock] at e
      subst e
      rw [hq] at h
      injection h with h
      injection h with _ h2 _
      exact ht h2.symm

theorem app_byte {ops : Array Oper} {rest : List Oper} {o : Oper} {a : Act} {Q : Exit → Act → World → Prop} (hgd : o.guard = none) (s x : Operand)
    (ho : o.op = .call { callee := .builtin .append, args := #[s, x], argTypes := #[65, 65] })
    (B : Nat) (v : Value) (l : List UInt8) (hs : a.eval s = v) (W0 w0 : World) (c : Int) (hb : Buf B v l W0 w0) (m : Nat)
    (hx : a.eval x = .slice (some ⟨m, 0, none⟩) 1 1) (hm : m = w0.heap.size) (c8 : UInt8) (hc : c = (c8.toNat : Int)) (hlen : l.length ≤ 1000000)
    (h : ∀ v' w', Buf B v' (l ++ [c8]) W0 w' → Keep w0 w' → wpList Tryz.prog ops Q rest (a.put o.dst v') w') : wpList Tryz.prog ops Q (o :: rest) a (w0.alloc (.cells #[.int .u8 c] 5)) := by
  obtain ⟨i0, hi0, hz⟩ := Option.map_eq_some_iff.1 infoU8
  have hz0 : i0.zero = some (.int .u8 0) := congrArg Prod.fst hz
  have hz1 : i0.size = 1 := congrArg (fun p => p.2.1) hz
  have hz2 : i0.bytes = 1 := congrArg (fun p => p.2.2) hz
  subst hm
  have hb' : Lib.OwnBuf _ _ _ _ _ _ _ := Lib.OwnBuf.alloc hb (.cells #[.int .u8 c] 5)
  refine wpList_append_ownF _ hgd s x 65 ho B 5 i0 (.int .u8 0) 1 1 Tryz.underlying65 hi0 hz0 hz1 hz2 rfl (by decide) v l.length (bytesV l) hs hb'.1 ⟨w0.heap.size, 0, none⟩ 1 1 [.int .u8 c] hx rfl ?_ ?_ (by unfold maxLen; omega) (by omega) hb'.2.2 ?_
  · intro j u hj
    match j, hj with
    | 0, hj => simp at hj; subst hj; simp [Addr.add]
    | (j + 1), hj => simp at hj
  · intro u hu; simp at hu; subst hu; rfl
  · intro v' w' ho' hg _
    refine h v' w' ?_ ((Keep.alloc _ _).trans (Keep.grown hb'.1 hg))
    have h2 := Lib.OwnBuf.grown hb' ho' hg
    unfold Buf
    rw [List.length_append, bytesV_app]
    subst hc
    exact h2

theorem app_text {ops : Array Oper} {rest : List Oper} {o : Oper} {a : Act} {Q : Exit → Act → World → Prop} {w : World} (hgd : o.guard = none) (sl x : Operand)
    (ho : o.op = .call { callee := .builtin .append, args := #[sl, x], argTypes := #[65, 9] })
    (B : Nat) (v : Value) (l : List UInt8) (hs : a.eval sl = v) (W0 : World) (hb : Buf B v l W0 w) (s : List UInt8) (hx : a.eval x = .string ⟨s.toArray⟩) (hlen : l.length + s.length ≤ 1000000)
    (h : ∀ v' w', Buf B v' (l ++ s) W0 w' → Keep w w' → wpList Tryz.prog ops Q rest (a.put o.dst v') w') : wpList Tryz.prog ops Q (o :: rest) a w := by
  obtain ⟨i0, hi0, hz⟩ := Option.map_eq_some_iff.1 infoU8
  have hz0 : i0.zero = some (.int .u8 0) := congrArg Prod.fst hz
  have hz1 : i0.size = 1 := congrArg (fun p => p.2.1) hz
  have hz2 : i0.bytes = 1 := congrArg (fun p => p.2.2) hz
  have hsz : (⟨s.toArray⟩ : ByteArray).size = s.length := rfl
  refine Lib.wpList_append_own_stringF w hgd sl x 65 9 ho B 5 i0 Tryz.underlying65 Tryz.underlying9 hi0 hz0 hz1 hz2 v l.length (bytesV l) hs hb.1 ⟨s.toArray⟩ hx (by rw [hsz]; unfold maxLen; omega) (by rw [hsz]; omega) hb.2.2 ?_
  intro v' w' ho' hg _
  refine h v' w' ?_ (Keep.grown hb.1 hg)
  have h2 := Lib.OwnBuf.grown hb ho' hg
  unfold Buf
  rw [List.length_append, bytesV_app]
  exact h2

/-- a term in a box -/
def TBox (w : World) (g : Nat) (x : Tm) : Prop := w.heap[g]? = some (Obj.cells #[.int .i64 x.1, .string ⟨x.2.1.toArray⟩, .string ⟨x.2.2.toArray⟩] 39)
theorem TBox.keep {w w' : World} {g : Nat} {x : Tm} (h : TBox w g x) (k : Keep w w') : TBox w' g x := k _ _ _ _ (by decide) h
theorem TBox.c0 {w : World} {g : Nat} {x : Tm} (h : TBox w g x) : w.cell? ⟨g, 0, none⟩ = some (.int .i64 x.1) := by rw [cell_of_row w g 0 _ _ _ h]; rfl
theorem TBox.c1 {w : World} {g : Nat} {x : Tm} (h : TBox w g x) : w.cell? ⟨g, 1, none⟩ = some (.string ⟨x.2.1.toArray⟩) := by rw [cell_of_row w g 1 _ _ _ h]; rfl
theorem TBox.c2 {w : World} {g : Nat} {x : Tm} (h : TBox w g x) : w.cell? ⟨g, 2, none⟩ = some (.string ⟨x.2.2.toArray⟩) := by rw [cell_of_row w g 2 _ _ _ h]; rfl
theorem Buf.alloc {B : Nat} {v : Value} {l : List UInt8} {W0 w : World} (h : Buf B v l W0 w) (o : Obj) : Buf B v l W0 (w.alloc o) := Lib.OwnBuf.alloc h o

set_option maxHeartbeats 4000000 in
set_option maxRecDepth 100000 in
theorem addTerm_any (B : Nat) (v : Value) (l : List UInt8) (W0 : World) (x : Tm) (w : World) (hx : okTm x = 0) (hb : Buf B v l W0 w) (hl : l.length ≤ 900000) :
    Calls Tryz.prog 196 #[v, .agg #[.int .i64 x.1, .string ⟨x.2.1.toArray⟩, .string ⟨x.2.2.toArray⟩]] w fun e w' => ∃ v', e = .returned v' ∧ Buf B v' (l ++ encT x) W0 w' ∧ Keep w w' := by
  obtain ⟨hk, hS, hL⟩ := ok_parts hx
  obtain ⟨k, S, L⟩ := x
  dsimp only at hk hS hL ⊢
  have hb0 : Buf B v l W0 (w.alloc (.cells #[.int .i64 k, .string ⟨S.toArray⟩, .string ⟨L.toArray⟩] 39)) := hb.alloc _
  have hT : TBox (w.alloc (.cells #[.int .i64 k, .string ⟨S.toArray⟩, .string ⟨L.toArray⟩] 39)) w.heap.size (k, S, L) := heap_alloc_new w _
  have hK0 : Hid (Keep w (w.alloc (.cells #[.int .i64 k, .string ⟨S.toArray⟩, .string ⟨L.toArray⟩] 39))) := Keep.alloc _ _
  have hc8 : Hid ((S.length : Int) = ((UInt8.ofNat S.length).toNat : Int)) := by show _ = _; rw [toNat_ofNat (by omega)]
  clear hb hx
  rcases hL with rfl | ⟨rfl, hL⟩
  · rcases hk with rfl | rfl | rfl
    · go_enter Tryz.func196, Tryz.ntmps196
      go_wp2_with (at_builtin; first
        | (refine app_text rfl _ _ rfl B v3 (l ++ [1] ++ [] ++ [UInt8.ofNat S.length]) (by rfl) W0 hb3 S (by rfl) (by simp; omega) ?_; intro v4 w4 hb4 hk4)
        | (refine app_byte rfl _ _ rfl B v2 (l ++ [1] ++ []) (by rfl) W0 _ _ hb2 _ (by rfl) (by simp) (UInt8.ofNat S.length) hc8.out (by simp; omega) ?_; intro v3 w3 hb3 hk3; have hT3 := hT2.keep hk3; have f1 : w3.cell? ⟨w.heap.size, 1, none⟩ = some (.string ⟨S.toArray⟩) := hT3.c1)
        | (refine app_text rfl _ _ rfl B v1 (l ++ [1]) (by rfl) W0 hb1 [] (by rfl) (by simp; omega) ?_; intro v2 w2 hb2 hk2; have hT2 := hT1.keep hk2; have e1 : w2.cell? ⟨w.heap.size, 1, none⟩ = some (.string ⟨S.toArray⟩) := hT2.c1)
        | (refine app_byte rfl _ _ rfl B v l (by rfl) W0 _ _ hb0 _ (by rfl) (by simp) 1 rfl (by omega) ?_; intro v1 w1 hb1 hk1; have hT1 := hT.keep hk1; have d2 : w1.cell? ⟨w.heap.size, 2, none⟩ = some (.string ⟨#[]⟩) := hT1.c2))
      go_ret
      refine ⟨v4, rfl, ?_, ((hK0.out.trans hk1).trans hk2).trans (hk3.trans hk4)⟩
      have e : l ++ encT (1, S, []) = l ++ [1] ++ [] ++ [UInt8.ofNat S.length] ++ S := by simp [encT]
      rw [e]
      exact hb4
    · go_enter Tryz.func196, Tryz.ntmps196
      go_wp2_with (at_builtin; first
        | (refine app_text rfl _ _ rfl B v3 (l ++ [2] ++ [] ++ [UInt8.ofNat S.length]) (by rfl) W0 hb3 S (by rfl) (by simp; omega) ?_; intro v4 w4 hb4 hk4)
        | (refine app_byte rfl _ _ rfl B v2 (l ++ [2] ++ []) (by rfl) W0 _ _ hb2 _ (by rfl) (by simp) (UInt8.ofNat S.length) hc8.out (by simp; omega) ?_; intro v3 w3 hb3 hk3; have hT3 := hT2.keep hk3; have f1 : w3.cell? ⟨w.heap.size, 1, none⟩ = some (.string ⟨S.toArray⟩) := hT3.c1)
        | (refine app_text rfl _ _ rfl B v1 (l ++ [2]) (by rfl) W0 hb1 [] (by rfl) (by simp; omega) ?_; intro v2 w2 hb2 hk2; have hT2 := hT1.keep hk2; have e1 : w2.cell? ⟨w.heap.size, 1, none⟩ = some (.string ⟨S.toArray⟩) := hT2.c1)
        | (refine app_byte rfl _ _ rfl B v l (by rfl) W0 _ _ hb0 _ (by rfl) (by simp) 2 rfl (by omega) ?_; intro v1 w1 hb1 hk1; have hT1 := hT.keep hk1; have d2 : w1.cell? ⟨w.heap.size, 2, none⟩ = some (.string ⟨#[]⟩) := hT1.c2))
      go_ret
      refine ⟨v4, rfl, ?_, ((hK0.out.trans hk1).trans hk2).trans (hk3.trans hk4)⟩
      have e : l ++ encT (2, S, []) = l ++ [2] ++ [] ++ [UInt8.ofNat S.length] ++ S := by simp [encT]
      rw [e]
      exact hb4
    · go_enter Tryz.func196, Tryz.ntmps196
      go_wp2_with (at_builtin; first
        | (refine app_text rfl _ _ rfl B v3 (l ++ [3] ++ [] ++ [UInt8.ofNat S.length]) (by rfl) W0 hb3 S (by rfl) (by simp; omega) ?_; intro v4 w4 hb4 hk4)
        | (refine app_byte rfl _ _ rfl B v2 (l ++ [3] ++ []) (by rfl) W0 _ _ hb2 _ (by rfl) (by simp) (UInt8.ofNat S.length) hc8.out (by simp; omega) ?_; intro v3 w3 hb3 hk3; have hT3 := hT2.keep hk3; have f1 : w3.cell? ⟨w.heap.size, 1, none⟩ = some (.string ⟨S.toArray⟩) := hT3.c1)
        | (refine app_text rfl _ _ rfl B v1 (l ++ [3]) (by rfl) W0 hb1 [] (by rfl) (by simp; omega) ?_; intro v2 w2 hb2 hk2; have hT2 := hT1.keep hk2; have e1 : w2.cell? ⟨w.heap.size, 1, none⟩ = some (.string ⟨S.toArray⟩) := hT2.c1)
        | (refine app_byte rfl _ _ rfl B v l (by rfl) W0 _ _ hb0 _ (by rfl) (by simp) 3 rfl (by omega) ?_; intro v1 w1 hb1 hk1; have hT1 := hT.keep hk1; have d2 : w1.cell? ⟨w.heap.size, 2, none⟩ = some (.string ⟨#[]⟩) := hT1.c2))
      go_ret
      refine ⟨v4, rfl, ?_, ((hK0.out.trans hk1).trans hk2).trans (hk3.trans hk4)⟩
      have e : l ++ encT (3, S, []) = l ++ [3] ++ [] ++ [UInt8.ofNat S.length] ++ S := by simp [encT]
      rw [e]
      exact hb4
  · obtain ⟨p, q, rfl⟩ : ∃ p q, L = [p, q] := by
      match L, hL with
      | [p, q], _ => exact ⟨p, q, rfl⟩
    clear hL hk
    go_enter Tryz.func196, Tryz.ntmps196
    go_wp2_with (at_builtin; first
      | (refine app_text rfl _ _ rfl B v3 (l ++ [7] ++ [p, q] ++ [UInt8.ofNat S.length]) (by rfl) W0 hb3 S (by rfl) (by simp; omega) ?_; intro v4 w4 hb4 hk4)
      | (refine app_byte rfl _ _ rfl B v2 (l ++ [7] ++ [p, q]) (by rfl) W0 _ _ hb2 _ (by rfl) (by simp) (UInt8.ofNat S.length) hc8.out (by simp; omega) ?_; intro v3 w3 hb3 hk3; have hT3 := hT2.keep hk3; have f1 : w3.cell? ⟨w.heap.size, 1, none⟩ = some (.string ⟨S.toArray⟩) := hT3.c1)
      | (refine app_text rfl _ _ rfl B v1 (l ++ [7]) (by rfl) W0 hb1 [p, q] (by rfl) (by simp; omega) ?_; intro v2 w2 hb2 hk2; have hT2 := hT1.keep hk2; have e1 : w2.cell? ⟨w.heap.size, 1, none⟩ = some (.string ⟨S.toArray⟩) := hT2.c1)
      | (refine app_byte rfl _ _ rfl B v l (by rfl) W0 _ _ hb0 _ (by rfl) (by simp) 7 rfl (by omega) ?_; intro v1 w1 hb1 hk1; have hT1 := hT.keep hk1; have d2 : w1.cell? ⟨w.heap.size, 2, none⟩ = some (.string ⟨#[p, q]⟩) := hT1.c2))
    go_ret
    refine ⟨v4, rfl, ?_, ((hK0.out.trans hk1).trans hk2).trans (hk3.trans hk4)⟩
    have e : l ++ encT (3, S, [p, q]) = l ++ [7] ++ [p, q] ++ [UInt8.ofNat S.length] ++ S := by simp [encT]
    rw [e]
    exact hb4
end Go.Proofs.YtnphjdckdkjopaaGreatDoor

/- code.addSet: a set behind bytes that the call owns. -/
namespace Go.Proofs.YtnphjdckdkjopaaGreatDoor
open Go Go.RowKit Go.Proofs
set_option synthInstance.maxSize 1000

theorem app_two {ops : Array Oper} {rest : List Oper} {o : Oper} {a : Act} {Q : Exit → Act → World → Prop} (hgd : o.guard = none) (s x : Operand)
    (ho : o.op = .call { callee := .builtin .append, args := #[s, x], argTypes := #[65, 65] })
    (B : Nat) (v : Value) (l : List UInt8) (hs : a.eval s = v) (W0 w0 : World) (c d : Int) (hb : Buf B v l W0 w0) (m : Nat)
    (hx : a.eval x = .slice (some ⟨m, 0, none⟩) 2 2) (hm : m = w0.heap.size) (c8 d8 : UInt8) (hc : c = (c8.toNat : Int)) (hd : d = (d8.toNat : Int)) (hlen : l.length ≤ 1000000)
    (h : ∀ v' w', Buf B v' (l ++ [c8, d8]) W0 w' → Keep w0 w' → wpList Tryz.prog ops Q rest (a.put o.dst v') w') : wpList Tryz.prog ops Q (o :: rest) a (w0.alloc (.cells #[.int .u8 c, .int .u8 d] 5)) := by
  obtain ⟨i0, hi0, hz⟩ := Option.map_eq_some_iff.1 infoU8
  have hz0 : i0.zero = some (.int .u8 0) := congrArg Prod.fst hz
  have hz1 : i0.size = 1 := congrArg (fun p => p.2.1) hz
  have hz2 : i0.bytes = 1 := congrArg (fun p => p.2.2) hz
  subst hm
  have hb' : Lib.OwnBuf _ _ _ _ _ _ _ := Lib.OwnBuf.alloc hb (.cells #[.int .u8 c, .int .u8 d] 5)
  refine wpList_append_ownF _ hgd s x 65 ho B 5 i0 (.int .u8 0) 1 1 Tryz.underlying65 hi0 hz0 hz1 hz2 rfl (by decide) v l.length (bytesV l) hs hb'.1 ⟨w0.heap.size, 0, none⟩ 2 2 [.int .u8 c, .int .u8 d] hx rfl ?_ ?_ (by unfold maxLen; omega) (by omega) hb'.2.2 ?_
  · intro j u hj
    match j, hj with
    | 0, hj => simp at hj; subst hj; simp [Addr.add]
    | 1, hj => simp at hj; subst hj; simp [Addr.add]
    | (j + 2), hj => simp at hj
  · intro u hu
    simp at hu
    rcases hu with rfl | rfl <;> rfl
  · intro v' w' ho' hg _
    refine h v' w' ?_ ((Keep.alloc _ _).trans (Keep.grown hb'.1 hg))
    have h2 := Lib.OwnBuf.grown hb' ho' hg
    unfold Buf
    rw [List.length_append, bytesV_app]
    subst hc hd
    exact h2

/-- a triple in a box -/
def N9 (w : World) (g : Nat) (y : Tr) : Prop := w.heap[g]? = some (Obj.cells (encTr y).toArray 41)
theorem N9.keep {w w' : World} {g : Nat} {y : Tr} (h : N9 w g y) (k : Keep w w') : N9 w' g y := k _ _ _ _ (by decide) h
def C9 (W : World) (n : Nat) (y : Tr) : Prop := W.cell? ⟨n, 0, none⟩ = some (.int .i64 y.1.1) ∧ W.cell? ⟨n, 1, none⟩ = some (.string ⟨y.1.2.1.toArray⟩) ∧ W.cell? ⟨n, 2, none⟩ = some (.string ⟨y.1.2.2.toArray⟩) ∧ W.cell? ⟨n, 3, none⟩ = some (.int .i64 y.2.1.1) ∧ W.cell? ⟨n, 4, none⟩ = some (.string ⟨y.2.1.2.1.toArray⟩) ∧ W.cell? ⟨n, 5, none⟩ = some (.string ⟨y.2.1.2.2.toArray⟩) ∧ W.cell? ⟨n, 6, none⟩ = some (.int .i64 y.2.2.1) ∧ W.cell? ⟨n, 7, none⟩ = some (.string ⟨y.2.2.2.1.toArray⟩) ∧ W.cell? ⟨n, 8, none⟩ = some (.string ⟨y.2.2.2.2.toArray⟩)
theorem N9.all {W : World} {n : Nat} {y : Tr} (h : N9 W n y) : N9 W n y ∧ C9 W n y := by
  refine ⟨h, ?_⟩
  unfold C9
  simp only [cell_of_row W n _ _ _ _ h]
  exact ⟨rfl, rfl, rfl, rfl, rfl, rfl, rfl, rfl, rfl⟩

theorem encT_len {x : Tm} (h : okTm x = 0) : (encT x).length ≤ 28 := by
  obtain ⟨-, hS, hL⟩ := ok_parts h
  have : x.2.2.length ≤ 2 := by
    rcases hL with e | ⟨_, e⟩
    · rw [e]; simp
    · omega
  simp [encT]
  omega
theorem encX_len {x : Tr} (h : okTr x) : (encX x).length ≤ 84 := by
  have h1 := encT_len h.1
  have h2 := encT_len h.2.1
  have h3 := encT_len h.2.2
  simp [encX]
  omega
theorem encR_len (l : List Tr) (h : ∀ x ∈ l, okTr x) : (encR l).length ≤ 84 * l.length := by
  induction l with
  | nil => simp [encR]
  | cons x l ih =>
    have h1 := encX_len (h x (List.mem_cons_self ..))
    have h2 := ih (fun y hy => h y (List.mem_cons_of_mem _ hy))
    rw [show encR (x :: l) = encX x ++ encR l by simp [encR], List.length_append, List.length_cons]
    omega

set_option maxHeartbeats 8000000 in
set_option maxRecDepth 100000 in
theorem addSet_any (W0 : World) (v : Value) (pre : List UInt8) (ad : Option Addr) (ca : Nat) (l : List Tr) (w : World) (hl : SlT W0 ad l) (hn : l.length ≤ 200) (hok : ∀ x ∈ l, okTr x) (hb : Buf W0.heap.size v pre W0 w) (hp : pre.length ≤ 100000) :
    Calls Tryz.prog 165 #[v, .slice ad l.length ca] w fun e w' => ∃ v', e = .returned v' ∧ Buf W0.heap.size v' (pre ++ encS l) W0 w' ∧ Keep w w' := by
  have Hl : Hid (SlT W0 ad l) := hl
  have Hok : Hid (∀ x ∈ l, okTr x) := hok
  have HA := addTerm_any W0.heap.size
  have hc : Hid ((l.length : Int) / 256 = ((UInt8.ofNat (l.length / 256)).toNat : Int)) := by show _ = _; rw [toNat_ofNat (by omega)]; omega
  have hd : Hid ((l.length : Int) = ((UInt8.ofNat l.length).toNat : Int)) := by show _ = _; rw [toNat_ofNat (by omega)]
  clear hl hok
  go_enter Tryz.func165, Tryz.ntmps165
  go_wp2_with (at_builtin; refine app_two rfl _ _ rfl W0.heap.size v pre (by rfl) W0 _ _ _ hb _ (by rfl) (by simp) (UInt8.ofNat (l.length / 256)) (UInt8.ofNat l.length) hc.out hd.out (by omega) ?_; intro v1 w1 hb1 hk1)
  generalize hq : [UInt8.ofNat (l.length / 256), UInt8.ofNat l.length] = q2 at *
  have hq2 : q2.length = 2 := by rw [← hq]; rfl
  go_loopw [0, 19] (fun u i wr => ∃ k : Nat, k ≤ l.length ∧ i = .int .i64 k ∧ Hid (Buf W0.heap.size u (pre ++ q2 ++ encR (l.take k)) W0 wr) ∧ Hid (Keep w wr)) (fun _ i _ => l.length - (intOf i).toNat)
  case atStart => exact ⟨0, Nat.zero_le _, rfl, by show Buf _ _ _ _ _; simpa [encR] using hb1, hk1⟩
  case round =>
    obtain ⟨k, hk, rfl, hbu, hkr⟩ := hrel
    by_cases hlt : k < l.length
    · obtain ⟨b, o, rfl, hr⟩ := (Hl.out.below hbu.out.2.1).at k hlt
      obtain ⟨c0, c1, c2, c3, c4, c5, c6, c7, c8⟩ := hr.at k hlt
      have i0' : (0 : Int) ≤ (k : Int) := by omega
      have i1 : (k : Int) < (l.length : Int) := by omega
      have hy := Hok.out _ (List.getElem_mem hlt)
      have htk : Hid (encR (l.take (k + 1)) = encR (l.take k) ++ encX l[k]) := by show encR _ = _; unfold encR; rw [List.take_succ_eq_append_getElem hlt, List.flatMap_append]; simp only [List.flatMap_cons, List.flatMap_nil, List.append_nil]
      have hlen : Hid ((pre ++ q2 ++ encR (l.take k)).length ≤ 120000) := by
        show _ ≤ _
        have h1 := encR_len (l.take k) (fun x hx => Hok.out x (List.mem_of_mem_take hx))
        have h2 : (l.take k).length ≤ 200 := by rw [List.length_take]; omega
        simp only [List.length_append]
        omega
      generalize hbase : pre ++ q2 ++ encR (l.take k) = base at *
      generalize encR (l.take k) = t0 at *
      generalize l[k] = y at *
      have HN : Hid (N9 (wr.alloc (.cells #[.int .i64 y.1.1, .string ⟨y.1.2.1.toArray⟩, .string ⟨y.1.2.2.toArray⟩, .int .i64 y.2.1.1, .string ⟨y.2.1.2.1.toArray⟩, .string ⟨y.2.1.2.2.toArray⟩, .int .i64 y.2.2.1, .string ⟨y.2.2.2.1.toArray⟩, .string ⟨y.2.2.2.2.toArray⟩] 41)) wr.heap.size y) := heap_alloc_new wr _
      have HB : Hid (Buf W0.heap.size _ base W0 (wr.alloc (.cells #[.int .i64 y.1.1, .string ⟨y.1.2.1.toArray⟩, .string ⟨y.1.2.2.toArray⟩, .int .i64 y.2.1.1, .string ⟨y.2.1.2.1.toArray⟩, .string ⟨y.2.1.2.2.toArray⟩, .int .i64 y.2.2.1, .string ⟨y.2.2.2.1.toArray⟩, .string ⟨y.2.2.2.2.toArray⟩] 41))) := hbu.out.alloc _
      have HK : Hid (Keep w (wr.alloc (.cells #[.int .i64 y.1.1, .string ⟨y.1.2.1.toArray⟩, .string ⟨y.1.2.2.toArray⟩, .int .i64 y.2.1.1, .string ⟨y.2.1.2.1.toArray⟩, .string ⟨y.2.1.2.2.toArray⟩, .int .i64 y.2.2.1, .string ⟨y.2.2.2.1.toArray⟩, .string ⟨y.2.2.2.2.toArray⟩] 41))) := hkr.out.trans (Keep.alloc _ _)
      clear hr hb1 hk1 hq hb
      go_wp2_with fail
      obtain ⟨v1, hv1⟩ : ∃ v1, v1 = (wr.alloc (.cells #[.int .i64 y.1.1, .string ⟨y.1.2.1.toArray⟩, .string ⟨y.1.2.2.toArray⟩, .int .i64 y.2.1.1, .string ⟨y.2.1.2.1.toArray⟩, .string ⟨y.2.1.2.2.toArray⟩, .int .i64 y.2.2.1, .string ⟨y.2.2.2.1.toArray⟩, .string ⟨y.2.2.2.2.toArray⟩] 41)) := ⟨_, rfl⟩
      rw [← hv1] at HN HB HK ⊢
      have HNd : N9 v1.drew wr.heap.size y := HN.out
      have HBd : Hid (Buf W0.heap.size _ base W0 v1.drew) := Lib.OwnBuf.drewN HB.out 1
      clear hv1 c0 c1 c2 c3 c4 c5 c6 c7 c8 hbu hkr
      go_region_held3 (fun W => N9 W wr.heap.size y ∧ W.cell? ⟨wr.heap.size, 0, none⟩ = some (.int .i64 y.1.1) ∧ W.cell? ⟨wr.heap.size, 1, none⟩ = some (.string ⟨y.1.2.1.toArray⟩) ∧ W.cell? ⟨wr.heap.size, 2, none⟩ = some (.string ⟨y.1.2.2.toArray⟩) ∧ W.cell? ⟨wr.heap.size, 3, none⟩ = some (.int .i64 y.2.1.1) ∧ W.cell? ⟨wr.heap.size, 4, none⟩ = some (.string ⟨y.2.1.2.1.toArray⟩) ∧ W.cell? ⟨wr.heap.size, 5, none⟩ = some (.string ⟨y.2.1.2.2.toArray⟩) ∧ W.cell? ⟨wr.heap.size, 6, none⟩ = some (.int .i64 y.2.2.1) ∧ W.cell? ⟨wr.heap.size, 7, none⟩ = some (.string ⟨y.2.2.2.1.toArray⟩) ∧ W.cell? ⟨wr.heap.size, 8, none⟩ = some (.string ⟨y.2.2.2.2.toArray⟩)) ((refine N9.all ?_; repeat (first | (with_reducible exact HNd) | (with_reducible refine N9.keep ?_ hk1) | (with_reducible refine N9.keep ?_ hk2) | (with_reducible refine N9.keep ?_ hk3) | (with_reducible exact And.left (by assumption))))) (first
        | (go_at_call_of 196 (Value.agg #[.int .i64 y.1.1, .string ⟨y.1.2.1.toArray⟩, .string ⟨y.1.2.2.toArray⟩]); refine (HA _ base W0 y.1 _ hy.1 HBd.out (by have := hlen.out; omega)).mono ?_; rintro e w1 ⟨u1, rfl, hb1, hk1⟩)
        | (go_at_call_of 196 (Value.agg #[.int .i64 y.2.1.1, .string ⟨y.2.1.2.1.toArray⟩, .string ⟨y.2.1.2.2.toArray⟩]); refine (HA _ (base ++ encT y.1) W0 y.2.1 _ hy.2.1 hb1 (by have := hlen.out; have := encT_len hy.1; simp only [List.length_append]; omega)).mono ?_; rintro e w2 ⟨u2, rfl, hb2, hk2⟩)
        | (go_at_call_of 196 (Value.agg #[.int .i64 y.2.2.1, .string ⟨y.2.2.2.1.toArray⟩, .string ⟨y.2.2.2.2.toArray⟩]); refine (HA _ (base ++ encT y.1 ++ encT y.2.1) W0 y.2.2 _ hy.2.2 hb2 (by have := hlen.out; have := encT_len hy.1; have := encT_len hy.2.1; simp only [List.length_append]; omega)).mono ?_; rintro e w3 ⟨u3, rfl, hb3, hk3⟩))
      go_wp2_with fail
      go_roundw
      case rel =>
        refine ⟨k + 1, by omega, by go_num, ?_, ((HK.out.trans hk1).trans hk2).trans hk3⟩
        show Buf _ _ _ _ _
        rw [htk.out, ← List.append_assoc, hbase]
        rw [show base ++ encX y = base ++ encT y.1 ++ encT y.2.1 ++ encT y.2.2 by simp [encX]]
        exact hb3
      case measure => simp [intOf]; omega
    · obtain rfl : k = l.length := by omega
      go_wp2_with fail
      go_ret
      refine ⟨_, rfl, ?_, hkr.out⟩
      have := hbu.out
      rw [List.take_length, ← hq] at this
      rw [show pre ++ encS l = pre ++ [UInt8.ofNat (l.length / 256), UInt8.ofNat l.length] ++ encR l by simp [encS]]
      exact this
end Go.Proofs.YtnphjdckdkjopaaGreatDoor

/- Bytes that a call owns, as a text; sets are right. -/
namespace Go.Proofs.YtnphjdckdkjopaaGreatDoor
open Go Go.RowKit Go.Proofs
set_option synthInstance.maxSize 1000

theorem u8U : Tryz.prog.underlying 5 = some (.int .u8) := by kernel_rfl
theorem Buf.string {B : Nat} {v : Value} {l : List UInt8} {W0 w : World} (h : Buf B v l W0 w) (hne : l ≠ []) : (convert 65 9 v).run Tryz.prog w = .ok (.string ⟨l.toArray⟩) w := by
  have h1 := h.1
  rcases h1.2 with ⟨_, h0⟩ | ⟨g, cap, cur, fz, rfl, _, hg, _⟩
  · exact absurd (List.eq_nil_of_length_eq_zero h0) hne
  · refine run_convert_bytes_back w 65 9 5 ⟨g, 0, none⟩ cap l Tryz.underlying65 u8U Tryz.underlying9 ?_
    intro j hj
    refine h1.cells (g := g) rfl j _ ?_
    simp [bytesV, hj]
theorem Buf.nil (w : World) : Buf w.heap.size (.slice none 0 0) [] w w := ⟨World.ownsRowF_nil _ _ _ _, RowKit.Below.refl _ _, Nat.le_refl _⟩
theorem encS_ne (l : List Tr) : encS l ≠ [] := by simp [encS]
theorem encT_ne (x : Tm) : encT x ≠ [] := by simp [encT]
theorem okTr_chk {x : Tr} (h : chkTr x = 0) : okTr x := by
  obtain ⟨h1, h2, h3, _⟩ := chk_zero h
  exact ⟨h1, h2, h3⟩
theorem okTr_set {l : List Tr} (h : IsSet l) : ∀ x ∈ l, okTr x := fun x hx => okTr_chk (h.2.1 x hx)
end Go.Proofs.YtnphjdckdkjopaaGreatDoor

/- A map whose keys are triples: which triples are in it. -/
namespace Go.Proofs.YtnphjdckdkjopaaGreatDoor
open Go Go.RowKit Go.Proofs Go.Maps
set_option synthInstance.maxSize 1000

theorem laidOutP : laidOutB Tryz.prog = true := by kernel_rfl
theorem rowTr : (41 : TypeId) < Tryz.prog.types.size := of_decide_eq_true (by kernel_rfl)
theorem wideTr : (match Tryz.prog.underlying 41 with | some (.array _ _) | some (.struct _) => true | _ => false) = true := by kernel_rfl
set_option maxRecDepth 100000 in
theorem keyedTr : Keyed Tryz.prog 41 := Keyed.of_law (deep_law_laid laidOutP (m := 4) (by omega) rowTr (by kernel_rfl) wideTr)
theorem cellsOfTr : Tryz.prog.cellsOf 41 = 9 := by kernel_rfl
theorem cellsOfTm : Tryz.prog.cellsOf 39 = 3 := by kernel_rfl
theorem cellsOfInt : Tryz.prog.cellsOf 3 = 1 := by kernel_rfl
theorem cellsOfStr : Tryz.prog.cellsOf 9 = 1 := by kernel_rfl
theorem keyTypeTr : Tryz.prog.keyType 41 = true := by kernel_rfl

theorem keyLits_term (d : Nat) (k : Int) (S L : List UInt8) (hk : (Lit.int .i64 k).wf = true) (hS : S.length ≤ maxLen) (hL : L.length ≤ maxLen) :
    Tryz.prog.keyLits (d + 2) 39 [.int .i64 k, .string ⟨S.toArray⟩, .string ⟨L.toArray⟩] = some [.int .i64 k, .string S, .string L] := by
  have hS' : (⟨S.toArray⟩ : ByteArray).size ≤ maxLen := hS
  have hL' : (⟨L.toArray⟩ : ByteArray).size ≤ maxLen := hL
  have e1 : Tryz.prog.keyLits (d + 1) 3 [.int .i64 k] = some [.int .i64 k] := by
    unfold Program.keyLits; rw [Tryz.underlying3]; simp [hk]
  have e2 : ∀ s : List UInt8, (⟨s.toArray⟩ : ByteArray).size ≤ maxLen → Tryz.prog.keyLits (d + 1) 9 [.string ⟨s.toArray⟩] = some [.string s] := by
    intro s hs
    unfold Program.keyLits; rw [Tryz.underlying9]; simp [hs]
  unfold Program.keyLits
  simp only [Tryz.underlying39, cellsOfTm]
  simp [e1, e2 S hS', e2 L hL', cellsOfInt, cellsOfStr]

/-- what a triple reads as, as a map's key -/
def litsTr (x : Tr) : List Lit := [.int .i64 x.1.1, .string x.1.2.1, .string x.1.2.2, .int .i64 x.2.1.1, .string x.2.1.2.1, .string x.2.1.2.2, .int .i64 x.2.2.1, .string x.2.2.2.1, .string x.2.2.2.2]
def keyTr (x : Tr) : Lit := .string (keyBytes (litsTr x))

theorem keyLits_triple (d : Nat) (x : Tr) (h : chkTr x = 0) : Tryz.prog.keyLits (d + 3) 41 (encTr x) = some (litsTr x) := by
  obtain ⟨h1, h2, h3, _⟩ := chk_zero h
  have q : ∀ k S L, checkN k S L = 0 → (Lit.int .i64 k).wf = true ∧ S.length ≤ maxLen ∧ L.length ≤ maxLen := fun k S L hh => by
    obtain ⟨hk, hS, hsp⟩ := check_zero hh
    have := spell_lang hsp
    refine ⟨?_, by unfold maxLen; omega, by unfold maxLen; omega⟩
    rcases hk with rfl | rfl | rfl <;> decide
  obtain ⟨a1, a2, a3⟩ := q _ _ _ h1
  obtain ⟨b1, b2, b3⟩ := q _ _ _ h2
  obtain ⟨c1, c2, c3⟩ := q _ _ _ h3
  have e1 := keyLits_term d x.1.1 x.1.2.1 x.1.2.2 a1 a2 a3
  have e2 := keyLits_term d x.2.1.1 x.2.1.2.1 x.2.1.2.2 b1 b2 b3
  have e3 := keyLits_term d x.2.2.1 x.2.2.2.1 x.2.2.2.2 c1 c2 c3
  unfold Program.keyLits
  simp only [Tryz.underlying41, cellsOfTr, encTr]
  simp [e1, e2, e3, litsTr, cellsOfTm]

theorem keyOf_tr (x : Tr) (h : chkTr x = 0) : keyOf Tryz.prog 41 (valTr x) = some (keyTr x) := by
  have hl := keyLits_triple (Tryz.prog.types.size - 2) x h
  have hsz : Tryz.prog.types.size - 2 + 3 = Tryz.prog.types.size + 1 := by
    have : 2 ≤ Tryz.prog.types.size := of_decide_eq_true (by kernel_rfl)
    omega
  rw [hsz] at hl
  have hf : (valTr x).formed Tryz.prog 41 = true := by
    simp [Value.formed, Tryz.underlying41, cellsOfTr, valTr]
  unfold keyOf
  rw [Tryz.underlying41]
  simp only [keyTypeTr, hf, Bool.and_self, if_true]
  have hc : (valTr x).cells.toList = encTr x := rfl
  rw [hc, hl]
  rfl

theorem list_of_array {a b : List UInt8} (h : (⟨a.toArray⟩ : ByteArray) = ⟨b.toArray⟩) : a = b := by
  have := congrArg (fun s : ByteArray => s.data.toList) h
  simpa using this

theorem valTr_inj {x y : Tr} (h : valTr x = valTr y) : x = y := by
  obtain ⟨⟨a1, a2, a3⟩, ⟨b1, b2, b3⟩, ⟨c1, c2, c3⟩⟩ := x
  obtain ⟨⟨a1', a2', a3'⟩, ⟨b1', b2', b3'⟩, ⟨c1', c2', c3'⟩⟩ := y
  simp only [valTr, Value.agg.injEq, Array.mk.injEq, List.cons.injEq, Value.int.injEq, Value.string.injEq, true_and, and_true] at h
  obtain ⟨h1, h2, h3, h4, h5, h6, h7, h8, h9⟩ := h
  rw [h1, list_of_array h2, list_of_array h3, h4, list_of_array h5, list_of_array h6, h7, list_of_array h8, list_of_array h9]

theorem keyTr_ne {x y : Tr} (hx : chkTr x = 0) (hy : chkTr y = 0) (h : x ≠ y) : keyTr x ≠ keyTr y := fun e => by
  have h1 := keyOf_tr x hx
  have h2 := keyOf_tr y hy
  rw [e] at h1
  exact h (valTr_inj (keyedTr.inj h1 h2))

/-- the map at a block holds just these triples -/
def InMap (w : World) (b : Nat) (l : List Tr) : Prop :=
  ∃ D : DataW Unit, w.ownsMap Tryz.prog 41 unitElem b l.length D ∧ ∀ x, chkTr x = 0 → Maps.has D (keyTr x) = decide (x ∈ l)

theorem inMap_made (w : World) : InMap (w.alloc (.map #[] 0)) w.heap.size [] :=
  ⟨.map [], World.ownsMap_made _ _ _ _, fun x _ => by simp [Maps.has_eq]⟩

theorem InMap.below {w w' : World} {b : Nat} {l : List Tr} (h : InMap w b l) (hb : RowKit.Below w.heap.size w w') : InMap w' b l := by
  obtain ⟨D, ⟨es, clock, hm, r⟩, hD⟩ := h
  have hlt : b < w.heap.size := (Array.getElem?_eq_some_iff.1 hm).1
  exact ⟨D, ⟨es, clock, (hb.block b hlt).trans hm, r⟩, hD⟩

theorem has_put {D : DataW Unit} {l : List Tr} {y : Tr} (hm : IsMap D) (hy : chkTr y = 0) (hD : ∀ x, chkTr x = 0 → Maps.has D (keyTr x) = decide (x ∈ l)) (d : DataW Unit) :
    ∀ x, chkTr x = 0 → Maps.has (D.put (keyTr y) d) (keyTr x) = decide (x ∈ l ++ [y]) := fun x hx => by
  by_cases e : x = y
  · subst e
    rw [Maps.has_put_same hm (keyedTr.key (keyOf_tr x hx))]
    simp
  · rw [Maps.has_put_other (keyTr_ne hx hy e), hD x hx]
    simp [e]

theorem zeroUnit (w : World) : (zeroValue 281).run Tryz.prog w = .ok (.agg #[]) w := by kernel_rfl
end Go.Proofs.YtnphjdckdkjopaaGreatDoor

/- asker: a map of a list's triples, and the question whether one is in it. -/
namespace Go.Proofs.YtnphjdckdkjopaaGreatDoor
open Go Go.RowKit Go.Proofs Go.Maps
set_option synthInstance.maxSize 1000

/-- at a block lies the map of these triples -/
def AskOK (w : World) (bx : Nat) (l : List Tr) : Prop := ∃ bm, w.cell? ⟨bx, 0, none⟩ = some (.map (some bm)) ∧ InMap w bm l

theorem AskOK.below {w w' : World} {bx : Nat} {l : List Tr} (h : AskOK w bx l) (hb : RowKit.Below w.heap.size w w') : AskOK w' bx l := by
  obtain ⟨bm, hc, hm⟩ := h
  exact ⟨bm, (hb.cell (World.block_lt_of_cell? w _ hc)).trans hc, hm.below hb⟩

set_option maxHeartbeats 1000000 in
set_option maxRecDepth 100000 in
theorem ask_any (bx : Nat) (l : List Tr) (x : Tr) (w : World) (h : AskOK w bx l) (hx : chkTr x = 0) :
    Calls Tryz.prog 210 #[valTr x, .pointer (some ⟨bx, 0, none⟩)] w fun e w' => e = .returned (.bool (decide (x ∈ l))) ∧ RowKit.Below w.heap.size w w' := by
  obtain ⟨bm, hc, D, hown, hD⟩ := h
  have hkey := keyOf_tr x hx
  have hd : Hid (Maps.has D (keyTr x) = decide (x ∈ l)) := hD x hx
  have hbx : bx < w.heap.size := World.block_lt_of_cell? w _ hc
  clear hD
  unfold valTr at hkey ⊢
  go_enter Tryz.func210, Tryz.ntmps210
  go_wp2_with (first
    | (at_lookup; refine wpList_lookup_own_unit _ rfl _ _ 280 rfl 41 281 keyedTr Tryz.underlying280 (zeroUnit _) bm _ _ rfl (hown.alloc _) _ _ rfl hkey ?_))
  go_ret
  exact ⟨ret_bool hd.out, bstep (balloc _ _) (balloc _ _)⟩

theorem enters210 : ∀ args w, (callFunc 210 args).run Tryz.prog w = .ok (.enter 210 args) w := enters_of Tryz.func210 (by kernel_rfl) rfl

theorem makeMapHint (n : Int) (w : World) : (Instr.makeMap 280 (some (.int .i64 n))).run Tryz.prog w = .ok (.map (some w.heap.size)) (w.alloc (.map #[] 0)) := by kernel_rfl

set_option maxHeartbeats 2000000 in
set_option maxRecDepth 100000 in
theorem asker_any (ad : Option Addr) (cap : Nat) (l : List Tr) (w : World) (h : SlT w ad l) (hs : ∀ x ∈ l, chkTr x = 0) (h200 : l.length ≤ 200) :
    Calls Tryz.prog 182 #[.slice ad l.length cap] w fun e w' => ∃ bx, e = .returned (.func (.func 210) #[] #[.pointer (some ⟨bx, 0, none⟩)]) ∧ AskOK w' bx l ∧ RowKit.Below w.heap.size w w' := by
  have hmm := makeMapHint
  have Hl : Hid (SlT w ad l) := h
  have Hs : Hid (∀ x ∈ l, chkTr x = 0) := hs
  clear h hs
  go_enter Tryz.func182, Tryz.ntmps182
  go_wp2_with fail
  go_loopw [11] (fun i wr => ∃ k : Nat, k ≤ l.length ∧ i = .int .i64 k ∧ Hid (InMap wr w.heap.size (l.take k)) ∧ wr.cell? ⟨w.heap.size + 1, 0, none⟩ = some (.map (some w.heap.size)) ∧ RowKit.Below w.heap.size w wr) (fun i wr => l.length - (intOf i).toNat)
  case atStart =>
    refine ⟨0, Nat.zero_le _, rfl, ?_, by go_simp, ?_⟩
    · show InMap _ _ _
      rw [List.take_zero]
      exact (inMap_made w).below (balloc _ _)
    · exact bstep (balloc _ _) (balloc _ _)
  case round =>
    obtain ⟨k, hk, rfl, hin, hcb, hbr⟩ := hrel
    by_cases hlt : k < l.length
    · obtain ⟨b, o, rfl, hr⟩ := (Hl.out.below hbr).at k hlt
      obtain ⟨c0, c1, c2, c3, c4, c5, c6, c7, c8⟩ := hr.at k hlt
      have i0 : (0 : Int) ≤ (k : Int) := by omega
      have i1 : (k : Int) < (l.length : Int) := by omega
      obtain ⟨D, hown0, hD0⟩ := hin.out
      have hlen : (l.take k).length = k := by simp; omega
      rw [hlen] at hown0
      have hown : Hid (wr.ownsMap Tryz.prog 41 unitElem w.heap.size k D) := hown0
      have hy : Hid (chkTr l[k] = 0) := Hs.out _ (List.getElem_mem hlt)
      have hput : Hid (∀ x, chkTr x = 0 → Maps.has (D.put (keyTr l[k]) (.agg [])) (keyTr x) = decide (x ∈ l.take (k + 1))) := by
        have := has_put hown0.isMap hy.out hD0 (.agg [])
        rw [List.take_succ_eq_append_getElem hlt]
        exact this
      have hkey := keyOf_tr l[k] hy.out
      have hzr := hbr.size
      have hb1 : w.heap.size + 1 < wr.heap.size := World.block_lt_of_cell? wr _ hcb
      clear hr hown0 hD0 hin
      have hlen2 : Hid ((l.take (k + 1)).length = k + 1) := by show _ = _; simp; omega
      generalize l[k] = y at *
      unfold valTr at hkey
      go_wp2_with (first
        | (at_mapUpdate; refine wpList_mapUpdate_own _ rfl _ _ _ 280 rfl 41 281 keyedTr Tryz.underlying280 (unitElem (H := Unit)) w.heap.size k _ rfl (hown.out.alloc _) (by unfold maxLen; omega) _ _ _ rfl rfl hkey _ [] unitElem_mk ?_; intro w1 hown1 hgrow1))
      go_roundw
      case rel =>
        refine ⟨k + 1, by omega, by go_num, ⟨_, by rw [hlen2.out]; exact hown1, hput.out⟩, ?_, ?_⟩
        · have q := hgrow1.block (w.heap.size + 1) (by simp; omega) (by simp)
          have := (balloc wr (.cells (encTr y).toArray 41)).cell (p := ⟨w.heap.size + 1, 0, none⟩) hb1
          rw [hcb] at this
          simp only [World.cell?] at this ⊢
          rw [q]
          exact this
        · exact (hbr.alloc hzr _).grown hgrow1 (by simp; omega) (fun j hj => by cases hj; exact Nat.le_refl _)
      case measure => simp [intOf]; omega
    · obtain rfl : k = l.length := by omega
      go_wp2_with fail
      go_ret
      refine ⟨w.heap.size + 1, rfl, ⟨w.heap.size, hcb, ?_⟩, hbr⟩
      have := hin.out
      rwa [List.take_length] at this
end Go.Proofs.YtnphjdckdkjopaaGreatDoor

/- keep: those of a list that are wanted; the questions of Join and Less. -/
namespace Go.Proofs.YtnphjdckdkjopaaGreatDoor
open Go Go.RowKit Go.Proofs Go.Maps
set_option synthInstance.maxSize 1000

/-- at a block lies the question whether a triple is among these -/
def NotOK (w : World) (by1 : Nat) (l : List Tr) : Prop := ∃ bx, w.cell? ⟨by1, 0, none⟩ = some (.func (.func 210) #[] #[.pointer (some ⟨bx, 0, none⟩)]) ∧ AskOK w bx l

theorem NotOK.below {w w' : World} {bx : Nat} {l : List Tr} (h : NotOK w bx l) (hb : RowKit.Below w.heap.size w w') : NotOK w' bx l := by
  obtain ⟨bm, hc, hm⟩ := h
  exact ⟨bm, (hb.cell (World.block_lt_of_cell? w _ hc)).trans hc, hm.below hb⟩

set_option maxHeartbeats 1000000 in
set_option maxRecDepth 100000 in
theorem notJoin_any (by1 : Nat) (l : List Tr) (x : Tr) (w : World) (h : NotOK w by1 l) (hx : chkTr x = 0) :
    Calls Tryz.prog 184 #[valTr x, .pointer (some ⟨by1, 0, none⟩)] w fun e w' => e = .returned (.bool (!decide (x ∈ l))) ∧ RowKit.Below w.heap.size w w' := by
  obtain ⟨bx, hc, ha⟩ := h
  have H := fun W (hW : AskOK W bx l) => ask_any bx l x W hW hx
  have Ha : Hid (AskOK w bx l) := ha
  have hbx : by1 < w.heap.size := World.block_lt_of_cell? w _ hc
  have eg := enters210
  generalize decide (x ∈ l) = d at H ⊢
  clear ha hx
  unfold valTr at H ⊢
  go_enter Tryz.func184, Tryz.ntmps184
  go_wp2_with fail
  go_at_fn 210
  refine (H _ (Ha.out.below (balloc _ _))).mono ?_
  rintro e w1 ⟨rfl, hb1⟩
  go_wp2_with fail
  go_ret
  exact ⟨rfl, bstep (balloc _ _) hb1⟩

theorem enters184 : ∀ args w, (callFunc 184 args).run Tryz.prog w = .ok (.enter 184 args) w := enters_of Tryz.func184 (by kernel_rfl) rfl
set_option maxHeartbeats 1000000 in
set_option maxRecDepth 100000 in
theorem notLess_any (by1 : Nat) (l : List Tr) (x : Tr) (w : World) (h : NotOK w by1 l) (hx : chkTr x = 0) :
    Calls Tryz.prog 183 #[valTr x, .pointer (some ⟨by1, 0, none⟩)] w fun e w' => e = .returned (.bool (!decide (x ∈ l))) ∧ RowKit.Below w.heap.size w w' := by
  obtain ⟨bx, hc, ha⟩ := h
  have H := fun W (hW : AskOK W bx l) => ask_any bx l x W hW hx
  have Ha : Hid (AskOK w bx l) := ha
  have hbx : by1 < w.heap.size := World.block_lt_of_cell? w _ hc
  have eg := enters210
  generalize decide (x ∈ l) = d at H ⊢
  clear ha hx
  unfold valTr at H ⊢
  go_enter Tryz.func183, Tryz.ntmps183
  go_wp2_with fail
  go_at_fn 210
  refine (H _ (Ha.out.below (balloc _ _))).mono ?_
  rintro e w1 ⟨rfl, hb1⟩
  go_wp2_with fail
  go_ret
  exact ⟨rfl, bstep (balloc _ _) hb1⟩

theorem enters183 : ∀ args w, (callFunc 183 args).run Tryz.prog w = .ok (.enter 183 args) w := enters_of Tryz.func183 (by kernel_rfl) rfl

theorem filter_step (l : List Tr) (p : Tr → Bool) (k : Nat) (h : k < l.length) : (l.take (k + 1)).filter p = (l.take k).filter p ++ (if p l[k] then [l[k]] else []) := by
  rw [List.take_succ_eq_append_getElem h, List.filter_append]
  cases hp : p l[k] <;> simp [hp]

set_option maxHeartbeats 4000000 in
set_option maxRecDepth 100000 in
theorem keep_any (ad : Option Addr) (cap g bl : Nat) (l : List Tr) (p : Tr → Bool) (w : World) (h : SlT w ad l) (h200 : l.length ≤ 200)
    (eg : ∀ args w, (callFunc g args).run Tryz.prog w = .ok (.enter g args) w)
    (hf : ∀ x ∈ l, ∀ W : World, RowKit.Below w.heap.size w W → Calls Tryz.prog g #[valTr x, .pointer (some ⟨bl, 0, none⟩)] W fun e w' => e = .returned (.bool (p x)) ∧ RowKit.Below W.heap.size W w') :
    Calls Tryz.prog 181 #[.slice ad l.length cap, .func (.func g) #[] #[.pointer (some ⟨bl, 0, none⟩)]] w fun e w' => ∃ ad' cap', e = .returned (.slice ad' (l.filter p).length cap') ∧ SlT w' ad' (l.filter p) ∧ RowKit.Below w.heap.size w w' := by
  have Hl : Hid (SlT w ad l) := h
  have Hf : Hid (∀ x ∈ l, ∀ W : World, RowKit.Below w.heap.size w W → Calls Tryz.prog g #[valTr x, .pointer (some ⟨bl, 0, none⟩)] W fun e w' => e = .returned (.bool (p x)) ∧ RowKit.Below W.heap.size W w') := hf
  clear h hf
  obtain ⟨i0, hi, hz⟩ := Option.map_eq_some_iff.1 infoTr
  simp only [Prod.mk.injEq] at hz
  obtain ⟨hz0, hz1, hz2⟩ := hz
  go_enter Tryz.func181, Tryz.ntmps181
  go_wp2_with fail
  go_loopw [5, 10] (fun v i wr => ∃ k : Nat, k ≤ l.length ∧ i = .int .i64 k ∧ Hid (wr.ownsRow w.heap.size 41 9 v ((l.take k).filter p).length (cellsT ((l.take k).filter p))) ∧ RowKit.Below w.heap.size w wr) (fun _ i wr => l.length - (intOf i).toNat)
  case atStart => exact ⟨0, Nat.zero_le _, rfl, by show World.ownsRow _ _ _ _ _ _ _; rw [List.take_zero]; exact World.ownsRow_nil _ _ _ _, RowKit.Below.refl _ _⟩
  case round =>
    obtain ⟨k, hk, rfl, hown, hbr⟩ := hrel
    by_cases hlt : k < l.length
    · obtain ⟨b, o, rfl, hr⟩ := (Hl.out.below hbr).at k hlt
      obtain ⟨c0, c1, c2, c3, c4, c5, c6, c7, c8⟩ := hr.at k hlt
      have i0' : (0 : Int) ≤ (k : Int) := by omega
      have i1 : (k : Int) < (l.length : Int) := by omega
      have hstep : Hid _ := filter_step l p k hlt
      have hfil : ((l.take k).filter p).length ≤ k := Nat.le_trans (List.length_filter_le _ _) (by simp; omega)
      have H := Hf.out l[k] (List.getElem_mem hlt)
      have hzr := hbr.size
      generalize ht : (l.take (k + 1)).filter p = t1 at hstep
      have Ht : Hid _ := ht
      generalize (l.take k).filter p = t0 at *
      generalize l[k] = y at *
      clear hr ht
      cases hp : p y
      · rw [hp] at H
        have hs2 : Hid (t1 = t0) := by have := hstep.out; rw [hp] at this; simpa [Hid] using this
        unfold valTr at H
        go_wp2_with fail
        go_at_fn g
        refine (H _ (bstep hbr (balloc _ _))).mono ?_
        rintro e w1 ⟨rfl, hb1⟩
        go_wp2_with fail
        go_roundw
        case rel =>
          refine ⟨k + 1, by omega, by go_num, ?_, bstep (bstep hbr (balloc _ _)) hb1⟩
          show World.ownsRow _ _ _ _ _ _ _
          rw [Ht.out, hs2.out]
          exact ownsRow_below (hown.out.alloc _) hb1
        case measure => simp [intOf]; omega
      · rw [hp] at H
        have hs2 : Hid (t1 = t0 ++ [y]) := by have := hstep.out; rw [hp] at this; simpa [Hid] using this
        unfold valTr at H
        go_wp2_with fail
        go_at_fn g
        refine (H _ (bstep hbr (balloc _ _))).mono ?_
        rintro e w1 ⟨rfl, hb1⟩
        have hrow1 : Hid (w1.ownsRow w.heap.size 41 9 _ t0.length (cellsT t0)) := ownsRow_below (hown.out.alloc _) hb1
        have hB1 := bstep (bstep hbr (balloc _ _)) hb1
        have hz1' := hB1.size
        obtain ⟨a0, a1, a2, b0, b1, b2, d0, d1, d2, hzz⟩ := ninebox hb1
        clear c0 c1 c2 c3 c4 c5 c6 c7 c8 hown
        go_wp2_with (at_builtin; refine wpList_append_own _ rfl _ _ 42 rfl w.heap.size 41 i0 (.agg (encTr zeroTr).toArray) 9 120 Tryz.underlying42 hi hz0 hz1 hz2 rfl (by decide) _ _ _ rfl (hrow1.out.alloc _) ⟨w1.heap.size, 0, none⟩ 1 1 (encTr y) rfl rfl ?c1 ?c2 ?c3 ?c4 ?c5 ?_)
        case c1 =>
          intro i u hi'
          have h9 : i < 9 := (List.getElem?_eq_some_iff.1 hi').1
          rw [Addr.add_lit]
          rcases (by omega : i = 0 ∨ i = 1 ∨ i = 2 ∨ i = 3 ∨ i = 4 ∨ i = 5 ∨ i = 6 ∨ i = 7 ∨ i = 8) with rfl | rfl | rfl | rfl | rfl | rfl | rfl | rfl | rfl
          all_goals
            simp [encTr] at hi'
            subst hi'
            go_simp
        case c2 => exact encTr_one y
        case c3 => unfold maxLen; omega
        case c4 => omega
        case c5 => simp; omega
        intro v' w9 hown' hgrow _
        have hbel := (hB1.alloc hz1' (.cells (encTr y).toArray 41)).grown hgrow (by simp; omega) (fun k hk => (hrow1.out.lt k hk).1)
        go_wp2_with fail
        go_roundw
        case rel =>
          refine ⟨k + 1, by omega, by go_num, ?_, hbel⟩
          show World.ownsRow _ _ _ _ _ _ _
          rw [Ht.out, hs2.out]
          simpa [cellsT] using hown'
        case measure => simp [intOf]; omega
    · obtain rfl : k = l.length := by omega
      have hown' := hown.out
      rw [List.take_length] at hown'
      obtain ⟨ad', cap', rfl, hsl⟩ := own_slT hown'
      clear hown' hown
      go_wp2_with fail
      go_ret
      exact ⟨ad', cap', rfl, hsl, hbr⟩
end Go.Proofs.YtnphjdckdkjopaaGreatDoor

/- slices.Grow of nothing, slices.Concat of two lists of triples. -/
namespace Go.Proofs.YtnphjdckdkjopaaGreatDoor
open Go Go.RowKit Go.Proofs
set_option synthInstance.maxSize 1000

set_option maxHeartbeats 1000000 in
set_option maxRecDepth 100000 in
theorem Grow_none (w : World) : Calls Tryz.prog 214 #[.slice none 0 0, .int .i64 0] w fun e w' => e = .returned (.slice none 0 0) ∧ w' = w := by
  go_enter Tryz.func214, Tryz.ntmps214
  go_wp2
  go_ret
  exact ⟨rfl, rfl⟩

set_option maxHeartbeats 1000000 in
set_option maxRecDepth 100000 in
theorem Grow_some (n : Nat) (w : World) (hn : 0 < n) (h400 : n ≤ 400) :
    Calls Tryz.prog 214 #[.slice none 0 0, .int .i64 n] w fun e w' => ∃ c, e = .returned (.slice (some ⟨w.heap.size, 0, none⟩) 0 c) ∧ w'.ownsRow w.heap.size 41 9 (.slice (some ⟨w.heap.size, 0, none⟩) 0 c) 0 [] ∧ RowKit.Below w.heap.size w w' := by
  obtain ⟨i0, hi, hz⟩ := Option.map_eq_some_iff.1 infoTr
  simp only [Prod.mk.injEq] at hz
  obtain ⟨hz0, hz1, hz2⟩ := hz
  have hrz := fun ty => Lib.run_append_nil_zeros w 42 3 ty 41 i0 _ .i64 .i64 Tryz.underlying42 Tryz.underlying3 hi hz0 n hn (by rw [hz1]; omega) (by omega) (by rw [hz2]; omega)
  have hge := grownCap_ge w n 0 41
  have hle := grownCap_le_maxLen w n 0 41 (by unfold maxLen; omega)
  generalize grownCap w n 0 41 = c at *
  have hd : decide ((n : Int) > 0) = true := by simp; omega
  have hd0 : decide ((n : Int) < 0) = false := by simp
  have hle' : c ≤ 9223372036854775807 := by unfold maxLen at hle; omega
  go_enter Tryz.func214, Tryz.ntmps214
  go_wp2_with (at_builtin; refine Lib.wpList_append_run _ rfl _ _ _ _ rfl _ _ rfl rfl _ _ (hrz _) ?_)
  go_ret
  refine ⟨c, rfl, ⟨rfl, Or.inr ⟨w.heap.size, c, _, rfl, Nat.le_refl _, (MapKept.heap_alloc w.drew _).1, Nat.zero_le _, hle, ?_, by simp⟩⟩, (RowKit.Below.refl _ _).drew.alloc (Nat.le_refl _) _⟩
  simp [Builtin.zeroCells, encTr]
  omega

theorem append_empty {base n : Nat} {v : Value} {cs : List Value} {W : World} (h : W.ownsRow base 41 9 v n cs) (ad : Option Addr) (cap : Nat) (ty : TypeId) :
    (Builtin.append_ #[42, 42] ty #[v, .slice ad 0 cap]).run Tryz.prog W = .ok v W := by
  obtain ⟨i, hi, hz⟩ := Option.map_eq_some_iff.1 infoTr
  have hf : (Builtin.firstCells i.size 0 (.slice ad 0 cap)).run Tryz.prog W = .ok #[] W := by
    cases ad with
    | none => exact run_firstCells_none W _ _ _ _
    | some a => exact run_firstCells_some (P := Tryz.prog) W i.size 0 a 0 cap [] (by simp) (by simp)
  rcases h.2 with ⟨rfl, h0⟩ | ⟨g, c, cur, rfl, _, _, hle, _⟩
  · simp [Builtin.append_, run_underlying Tryz.underlying42, sizeOf, typeInfo, hi, Builtin.lenOf, hf]
  · simp [Builtin.append_, run_underlying Tryz.underlying42, sizeOf, typeInfo, hi, Builtin.lenOf, hf, hle, storeCells]

/-- an append of a list to a row of one's own, for the walk -/
theorem wpList_append_list {ops : Array Oper} {rest : List Oper} {o : Oper} {a : Act} {Q : Exit → Act → World → Prop} (w : World) (hgd : o.guard = none) (s x : Operand)
    (ho : o.op = .call { callee := .builtin .append, args := #[s, x], argTypes := #[42, 42] })
    (base : Nat) (v : Value) (t l : List Tr) (ad : Option Addr) (c : Nat) (hs : a.eval s = v) (hx : a.eval x = .slice ad l.length c) (hown : w.ownsRow base 41 9 v t.length (cellsT t)) (hl : SlT w ad l)
    (h63 : t.length + l.length ≤ 1000000) (hbase : base ≤ w.heap.size)
    (h : ∀ v' w', w'.ownsRow base 41 9 v' (t ++ l).length (cellsT (t ++ l)) → RowKit.Below base w w' → wpList Tryz.prog ops Q rest (a.put o.dst v') w') : wpList Tryz.prog ops Q (o :: rest) a w := by
  obtain ⟨i0, hi, hz⟩ := Option.map_eq_some_iff.1 infoTr
  simp only [Prod.mk.injEq] at hz
  obtain ⟨hz0, hz1, hz2⟩ := hz
  cases l with
  | nil =>
    refine Lib.wpList_append_run w hgd s x _ _ ho v _ hs hx v w (append_empty hown ad c _) (h v w ?_ (RowKit.Below.refl _ _))
    simpa using hown
  | cons y r =>
    obtain ⟨b, off, rfl, hr⟩ := hl (by simp)
    refine wpList_append_own w hgd s x _ ho base 41 i0 (.agg (encTr zeroTr).toArray) 9 120 Tryz.underlying42 hi hz0 hz1 hz2 rfl (by decide) v t.length (cellsT t) hs hown ⟨b, off, none⟩ (y :: r).length c (cellsT (y :: r)) hx (cellsT_len _) ?_ (cellsT_one _) (by unfold maxLen; omega) (by omega) hbase ?_
    · intro j u hj
      rw [Addr.add_lit]
      exact hr j u hj
    · intro v' w' h2 h3 _
      refine h v' w' ?_ ((RowKit.Below.refl _ _).grown h3 hbase (fun k hk => (hown.lt k hk).1))
      rw [List.length_append]
      simpa [cellsT] using h2

theorem wrapN (n : Nat) (h : n ≤ 1000000) : IntKind.i64.wrap (n : Int) = n := by simp [IntKind.wrap, IntKind.bits, IntKind.signed]; omega

set_option maxHeartbeats 4000000 in
set_option maxRecDepth 100000 in
theorem Concat_any (bs : Nat) (ad ad' : Option Addr) (ca cb : Nat) (l m : List Tr) (w : World) (h0 : w.cell? ⟨bs, 0, none⟩ = some (.slice ad l.length ca)) (h1 : w.cell? ⟨bs, 1, none⟩ = some (.slice ad' m.length cb))
    (hl : SlT w ad l) (hm : SlT w ad' m) (hl2 : l.length ≤ 200) (hm2 : m.length ≤ 200) :
    Calls Tryz.prog 186 #[.slice (some ⟨bs, 0, none⟩) 2 2] w fun e w' => ∃ ad'' c, e = .returned (.slice ad'' (l ++ m).length c) ∧ SlT w' ad'' (l ++ m) ∧ RowKit.Below w.heap.size w w' := by
  have Hl : Hid (SlT w ad l) := hl
  have Hm : Hid (SlT w ad' m) := hm
  have hbs : bs < w.heap.size := World.block_lt_of_cell? w _ h0
  clear hl hm
  go_enter Tryz.func186, Tryz.ntmps186
  go_wp2_with fail
  go_loopw [3, 11] (fun s i wr => ∃ k : Nat, k ≤ 2 ∧ i = .int .i64 k ∧ s = .int .i64 ((if 0 < k then l.length else 0 : Nat) + (if 1 < k then m.length else 0 : Nat) : Int) ∧ w = wr) (fun _ i wr => 2 - (intOf i).toNat)
  case atStart => exact ⟨0, by omega, rfl, rfl, rfl⟩
  case round =>
    obtain ⟨k, hk, rfl, rfl, rfl⟩ := hrel
    rcases (by omega : k = 0 ∨ k = 1 ∨ k = 2) with rfl | rfl | rfl
    · go_wp2_with fail
      exact ⟨⟨1, by omega, rfl, by simp, trivial⟩, by simp [intOf]⟩
    · go_wp2_with fail
      exact ⟨⟨2, by omega, rfl, by simp, trivial⟩, by simp [intOf]⟩
    · have HG : ∀ W : World, Calls Tryz.prog 214 #[.slice none 0 0, .int .i64 ((l.length : Int) + (m.length : Int))] W fun e w' => ∃ v, e = .returned v ∧ w'.ownsRow W.heap.size 41 9 v 0 [] ∧ RowKit.Below W.heap.size W w' := by
        intro W
        by_cases hz : l.length + m.length = 0
        · rw [show (l.length : Int) + (m.length : Int) = 0 by omega]
          refine (Grow_none W).mono ?_
          rintro e w' ⟨rfl, rfl⟩
          exact ⟨_, rfl, World.ownsRow_nil _ _ _ _, RowKit.Below.refl _ _⟩
        · have := Grow_some (l.length + m.length) W (by omega) (by omega)
          rw [show ((l.length + m.length : Nat) : Int) = (l.length : Int) + (m.length : Int) by omega] at this
          refine this.mono ?_
          rintro e w' ⟨c, rfl, h1, h2⟩
          exact ⟨_, rfl, h1, h2⟩
      go_wp2_with fail
      refine (HG _).mono ?_
      rintro e w1 ⟨v, rfl, hown, hb1⟩
      have Hown : Hid (w1.ownsRow w.heap.size 41 9 v 0 []) := hown
      clear hown HG
      go_wp2_with fail
      go_loopw [6, 27] (fun v i wr => ∃ k : Nat, k ≤ 2 ∧ i = .int .i64 k ∧ Hid (wr.ownsRow w.heap.size 41 9 v ((if 0 < k then l else []) ++ (if 1 < k then m else [])).length (cellsT ((if 0 < k then l else []) ++ (if 1 < k then m else [])))) ∧ RowKit.Below w.heap.size w wr) (fun _ i wr => 2 - (intOf i).toNat)
      case atStart => exact ⟨0, by omega, rfl, Hown.out, hb1⟩
      case round =>
        obtain ⟨k, hk, rfl, hown, hbr⟩ := hrel
        have hc0 : wr.cell? ⟨bs, 0, none⟩ = some (.slice ad l.length ca) := (hbr.cell hbs).trans h0
        have hc1 : wr.cell? ⟨bs, 1, none⟩ = some (.slice ad' m.length cb) := (hbr.cell hbs).trans h1
        have hzr := hbr.size
        rcases (by omega : k = 0 ∨ k = 1 ∨ k = 2) with rfl | rfl | rfl
        · have hown' : Hid (wr.ownsRow w.heap.size 41 9 _ ([] : List Tr).length (cellsT [])) := hown.out
          clear hown
          go_wp2_with (at_builtin; refine wpList_append_list _ rfl _ _ rfl w.heap.size _ [] l ad ca rfl rfl hown'.out (Hl.out.below hbr) (by simp; omega) hzr ?_; intro v' w' hown2 hb2)
          exact ⟨⟨1, by omega, rfl, by show World.ownsRow _ _ _ _ _ _ _; simpa using hown2, hbr.trans hb2⟩, by simp [intOf]⟩
        · have hown1 := hown.out
          rw [show ((if 0 < 1 then l else []) ++ (if 1 < 1 then m else [])) = l by simp] at hown1
          have hown' : Hid _ := hown1
          clear hown hown1
          go_wp2_with (at_builtin; refine wpList_append_list _ rfl _ _ rfl w.heap.size _ l m ad' cb rfl rfl hown'.out (Hm.out.below hbr) (by omega) hzr ?_; intro v' w' hown2 hb2)
          exact ⟨⟨2, by omega, rfl, by show World.ownsRow _ _ _ _ _ _ _; simpa using hown2, hbr.trans hb2⟩, by simp [intOf]⟩
        · have hown' := hown.out
          rw [show ((if 0 < 2 then l else []) ++ (if 1 < 2 then m else [])) = l ++ m by simp] at hown'
          obtain ⟨ad'', c, rfl, hsl⟩ := own_slT hown'
          clear hown' hown
          go_wp2_with fail
          go_ret
          exact ⟨ad'', c, rfl, hsl, hbr⟩
end Go.Proofs.YtnphjdckdkjopaaGreatDoor
