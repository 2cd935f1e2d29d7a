import Derived.Test.YtpomdoelihmebaaGreatMA0x0
import Derived.Test.YtpomdoelihmebaaGreatMA0x3
import Derived.Test.YtpomdoelihmebaaGreatMA0x4
import Derived.Deep.DeepCutAuto
import Derived.Deep.RegionHeld3

/- Natural numbers in a row of one's own. -/
namespace Go.Proofs.YtpomdoelihmebaaGreat
open Go Go.RowKit Go.Proofs
set_option synthInstance.maxSize 1000

def cellsU (m : List Nat) : List Value := m.map fun k : Nat => Value.int .i64 (k : Int)
theorem infoU : (Tryz.prog.info? 3).map (fun i => (i.zero, i.size, i.bytes)) = some (some (.int .i64 0), 1, 8) := by kernel_rfl
theorem ownU_sl {W : World} {base : Nat} {e : TypeId} {v : Value} {m : List Nat} (h : W.ownsRow base e 1 v m.length (cellsU m)) : ∃ ad cap, v = .slice ad m.length cap ∧ SlI W ad (m.map fun k : Nat => (k : Int)) := by
  have h' := h
  rcases h.2 with ⟨rfl, h0⟩ | ⟨g, cap, cur, rfl, _⟩
  · exact ⟨none, 0, by rw [h0], fun hne => absurd (by rw [List.eq_nil_of_length_eq_zero h0]; rfl) hne⟩
  · refine ⟨some ⟨g, 0, none⟩, cap, rfl, fun _ => ⟨g, 0, rfl, fun j hj => ?_⟩⟩
    have hj' : j < m.length := by simpa using hj
    have := h'.cells (g := g) rfl j (.int .i64 (m[j] : Int)) (by simp [cellsU, hj'])
    rw [Addr.add_lit] at this
    rw [this]
    simp
theorem ownU_one (w : World) (i : Nat) : (w.alloc (.cells #[.int .i64 (i : Int)] 3)).ownsRow w.heap.size 3 1 (.slice (some ⟨w.heap.size, 0, none⟩) 1 1) [i].length (cellsU [i]) := by
  refine ⟨by simp [cellsU], Or.inr ⟨w.heap.size, 1, #[.int .i64 (i : Int)], rfl, Nat.le_refl _, by show (w.heap.push _)[w.heap.size]? = _; simp, Nat.le_refl _, by unfold maxLen; omega, by simp, by simp [cellsU]⟩⟩
end Go.Proofs.YtpomdoelihmebaaGreat

/- RepoKeeps: what there is in memory: the repo, the row of the numbers that were told, the row of the sets that were committed. -/
namespace Go.Proofs.YtpomdoelihmebaaGreat
open Go Go.RowKit Go.Proofs
set_option synthInstance.maxSize 1000

/-- sets in a list of lists -/
def SetsAt (w : World) (b o : Nat) (S : List (List Tr)) : Prop := ∀ (i : Nat) (hi : i < S.length), ∃ a c, w.cell? ⟨b, o + i, none⟩ = some (.slice a S[i].length c) ∧ SetIn w a c S[i]
structure KW (F : RFace) (w0 : World) (r : Nat) (R : Rp) (I : List Nat) (K : List (List Tr)) (v1 v2 : Value) (O : Nat → Prop) (W : World) : Prop where
  pro : F.At W r O R
  low : RowKit.Below w0.heap.size w0 W
  high : ∀ j, O j → w0.heap.size ≤ j
  ids : W.ownsRow w0.heap.size 3 1 v1 I.length (cellsU I)
  kpt : ∃ cs : List Value, W.ownsRow w0.heap.size 34 1 v2 K.length cs ∧ ∀ (i : Nat) (hi : i < K.length), ∃ a c, cs[i]? = some (.slice a K[i].length c) ∧ SlT w0 a K[i]
  f1 : ∀ j, v1.ownBlock = some j → ¬ O j
  f2 : ∀ j, v2.ownBlock = some j → ¬ O j
def KS (F : RFace) (w0 : World) (r : Nat) (R : Rp) (I : List Nat) (K : List (List Tr)) (v1 v2 : Value) (W : World) : Prop := ∃ O : Nat → Prop, KW F w0 r R I K v1 v2 O W
theorem rowK_keep {w w' : World} {base : Nat} {e : TypeId} {sz : Nat} {v : Value} {n : Nat} {cs : List Value} (h : w.ownsRow base e sz v n cs) (hb : ∀ j, v.ownBlock = some j → w'.heap[j]? = w.heap[j]?) : w'.ownsRow base e sz v n cs := by
  refine ⟨h.1, ?_⟩
  rcases h.2 with h0 | ⟨g, cap, cur, hv, hg, hm, r⟩
  · exact Or.inl h0
  · exact Or.inr ⟨g, cap, cur, hv, hg, (hb g (by rw [hv]; rfl)).trans hm, r⟩
theorem rowK_ty {w : World} {base : Nat} {e : TypeId} {sz : Nat} {v : Value} {n : Nat} {cs : List Value} (h : w.ownsRow base e sz v n cs) {j : Nat} (hj : v.ownBlock = some j) : ∃ cur, w.heap[j]? = some (.cells cur e (0, 0)) := by
  rcases h.2 with ⟨rfl, _⟩ | ⟨g, cap, cur, rfl, _, hm, _⟩
  · cases hj
  · have e : some g = some j := hj
    cases e
    exact ⟨cur, hm⟩
theorem row_form {w : World} {base : Nat} {e : TypeId} {sz : Nat} {v : Value} {n : Nat} {cs : List Value} (h : w.ownsRow base e sz v n cs) : ∃ ad cap, v = .slice ad n cap := by
  rcases h.2 with ⟨rfl, h0⟩ | ⟨g, cap, cur, rfl, _⟩
  · exact ⟨none, 0, by rw [h0]⟩
  · exact ⟨_, cap, rfl⟩
section
variable {F : RFace} {w0 : World} {r : Nat} {R : Rp} {I : List Nat} {K : List (List Tr)} {v1 v2 : Value} {W W' : World}
theorem KW.apart {O : Nat → Prop} (h : KW F w0 r R I K v1 v2 O W) {j : Nat} (h1 : v1.ownBlock = some j) (h2 : v2.ownBlock = some j) : False := by
  obtain ⟨cs, hc, _⟩ := h.kpt
  obtain ⟨c1, e1⟩ := rowK_ty h.ids h1
  obtain ⟨c2, e2⟩ := rowK_ty hc h2
  rw [e1] at e2
  have := Option.some.inj e2
  injection this with _ ht _
  exact absurd ht (by decide)
theorem KS.below (h : KS F w0 r R I K v1 v2 W) (hb : RowKit.Below W.heap.size W W') : KS F w0 r R I K v1 v2 W' := by
  obtain ⟨O, h⟩ := h
  obtain ⟨cs, hc, hi⟩ := h.kpt
  exact ⟨O, F.below h.pro hb, bstep h.low hb, h.high, ownsO_below h.ids hb, ⟨cs, ownsO_below hc hb, hi⟩, h.f1, h.f2⟩
theorem KS.low (h : KS F w0 r R I K v1 v2 W) : RowKit.Below w0.heap.size w0 W := by
  obtain ⟨O, h⟩ := h
  exact h.low
theorem KS.form1 (h : KS F w0 r R I K v1 v2 W) : ∃ ad cap, v1 = .slice ad I.length cap := by
  obtain ⟨O, h⟩ := h
  exact row_form h.ids
theorem KS.form2 (h : KS F w0 r R I K v1 v2 W) : ∃ ad cap, v2 = .slice ad K.length cap := by
  obtain ⟨O, h⟩ := h
  obtain ⟨cs, hc, _⟩ := h.kpt
  exact row_form hc
theorem KS.at1 (h : KS F w0 r R I K v1 v2 W) {j : Nat} (hj : j < I.length) : ∃ g cap, v1 = .slice (some ⟨g, 0, none⟩) I.length cap ∧ W.cell? ⟨g, j, none⟩ = some (.int .i64 (I.getD j 0 : Nat)) := by
  obtain ⟨O, h⟩ := h
  have h' := h.ids
  rcases h.ids.2 with ⟨_, h0⟩ | ⟨g, cap, cur, rfl, _⟩
  · omega
  · refine ⟨g, cap, rfl, ?_⟩
    have := h'.cells (g := g) rfl j (.int .i64 (I.getD j 0 : Nat)) (by simp [cellsU, hj])
    rw [Addr.add_lit] at this
    simpa using this
theorem KS.at2 (h : KS F w0 r R I K v1 v2 W) {j : Nat} (hj : j < K.length) : ∃ g cap a c, v2 = .slice (some ⟨g, 0, none⟩) K.length cap ∧ W.cell? ⟨g, j, none⟩ = some (.slice a K[j].length c) ∧ SlT w0 a K[j] := by
  obtain ⟨O, h⟩ := h
  obtain ⟨cs, hc, hi⟩ := h.kpt
  obtain ⟨a, c, h1, h2⟩ := hi j hj
  rcases hc.2 with ⟨_, h0⟩ | ⟨g, cap, cur, rfl, _⟩
  · omega
  · refine ⟨g, cap, a, c, rfl, ?_, h2⟩
    have := hc.cells (g := g) rfl j _ h1
    rw [Addr.add_lit] at this
    simpa using this
theorem KS.commit (b : List UInt8) (sd : Option Addr) (sc : Nat) (s : List Tr) (t : List UInt8) (h : KS F w0 r R I K v1 v2 W) (hg : GoodR R) (hb : b.length ≤ F.lim) (ht : t.length ≤ F.lim) (hs : SetIn w0 sd sc s) :
    Calls Tryz.prog 6 #[.pointer (some ⟨r, 0, none⟩), .string ⟨b.toArray⟩, .slice sd s.length sc, .string ⟨t.toArray⟩] W fun e W' => e = .returned (.tuple #[.int .i64 (commitI R b s t : Int), errV (commitE R b s t)]) ∧ KS F w0 r (commitR R b s t) I K v1 v2 W' := by
  obtain ⟨O, h⟩ := h
  refine (F.commit W r O R b sd sc s t h.pro hg ⟨hs.sl.below h.low, hs.cap, hs.fit, hs.len, fun hne d hd hO => by have h9 := hs.low hne d hd; have h8 := h.high _ hO; omega⟩ hb ht).mono ?_
  rintro e W' ⟨rfl, O', hA, ho, hn⟩
  obtain ⟨cs, hc, hi⟩ := h.kpt
  have hz := h.low.size
  have l1 : ∀ j, v1.ownBlock = some j → j < W.heap.size := fun j hj => (h.ids.lt j hj).2
  have l2 : ∀ j, v2.ownBlock = some j → j < W.heap.size := fun j hj => (hc.lt j hj).2
  refine ⟨rfl, O', hA, h.low.trans (ho.below h.high hz), fun j hj => ?_, rowK_keep h.ids fun j hj => ho.block j (l1 j hj) (h.f1 j hj), ⟨cs, rowK_keep hc fun j hj => ho.block j (l2 j hj) (h.f2 j hj), hi⟩, fun j hj hO => ?_, fun j hj hO => ?_⟩
  · rcases hn j hj with hj | hj
    · exact h.high j hj
    · omega
  · rcases hn j hO with hO | hO
    · exact h.f1 j hj hO
    · have := l1 j hj; omega
  · rcases hn j hO with hO | hO
    · exact h.f2 j hj hO
    · have := l2 j hj; omega
theorem KS.head (b : List UInt8) (h : KS F w0 r R I K v1 v2 W) (hg : GoodR R) (hb : b.length ≤ F.lim) :
    Calls Tryz.prog 7 #[.pointer (some ⟨r, 0, none⟩), .string ⟨b.toArray⟩] W fun e W' => e = .returned (.tuple #[.int .i64 (headI R b), errV (headE R b)]) ∧ RowKit.Below W.heap.size W W' := by
  obtain ⟨O, h⟩ := h
  exact F.head W r O R b h.pro hg hb
theorem KS.graph (a : Int) (h : KS F w0 r R I K v1 v2 W) (hg : GoodR R) :
    Calls Tryz.prog 9 #[.pointer (some ⟨r, 0, none⟩), .int .i64 a] W fun e W' => ∃ ad ca, e = .returned (.tuple #[.slice ad (graphL R a).length ca, errV (graphE R a)]) ∧ SlT W' ad (graphL R a) ∧ RowKit.Below W.heap.size W W' := by
  obtain ⟨O, h⟩ := h
  exact F.graph W r O R a h.pro hg
theorem KS.commits (h : KS F w0 r R I K v1 v2 W) (hg : GoodR R) :
    Calls Tryz.prog 8 #[.pointer (some ⟨r, 0, none⟩)] W fun e W' => ∃ ad ca, e = .returned (.slice ad R.coms.length ca) ∧ R.coms.length ≤ ca ∧ SlC W' ad R.coms ∧ (∀ b o, ad = some ⟨b, o, none⟩ → ∀ i, i < R.coms.length → ∀ a n c, W'.cell? ⟨b, o + i * 3, none⟩ = some (.slice a n c) → n ≤ c) ∧ RowKit.Below W.heap.size W W' := by
  obtain ⟨O, h⟩ := h
  exact F.commits W r O R h.pro hg
/-- one number more -/
theorem KS.push1 {k g cap : Nat} {o : Obj} (h : KS F w0 r R I K v1 v2 W) (h2 : W'.ownsRow w0.heap.size 3 1 (.slice (some ⟨g, 0, none⟩) (I.length + 1) cap) (I.length + 1) (cellsU I ++ [.int .i64 (k : Int)])) (h3 : (W.alloc o).grownBy W' v1.ownBlock) (h4 : v1.ownBlock = some g ∨ g = W.heap.size + 1) :
    KS F w0 r R (I ++ [k]) K (.slice (some ⟨g, 0, none⟩) (I.length + 1) cap) v2 W' := by
  obtain ⟨O, h⟩ := h
  obtain ⟨cs, hc, hi⟩ := h.kpt
  have hkeep : ∀ j, j < W.heap.size → v1.ownBlock ≠ some j → W'.heap[j]? = W.heap[j]? := fun j hj hne => (h3.block j (by simp; omega) (fun e => hne e.symm)).trans (Below.heap_alloc _ _ j hj)
  have hbl : RowKit.Below w0.heap.size w0 W' := (h.low.trans ((balloc W o).mono h.low.size)).grown h3 (by have := h.low.size; simp; omega) (fun j hj => (h.ids.lt j hj).1)
  refine ⟨O, F.keep h.pro fun j hj => hkeep j (F.own h.pro j hj) (fun e => h.f1 j e hj), hbl, h.high, ?_, ⟨cs, rowK_keep hc fun j hj => hkeep j (hc.lt j hj).2 (fun e => h.apart e hj), hi⟩, fun j hj hO => ?_, h.f2⟩
  · rw [List.length_append]
    simpa [cellsU] using h2
  · have e : some g = some j := hj
    cases e
    rcases h4 with h4 | h4
    · exact h.f1 g h4 hO
    · have := F.own h.pro g hO
      omega
/-- one set more -/
theorem KS.push2 {s : List Tr} {a : Option Addr} {c g cap : Nat} {o : Obj} (h : KS F w0 r R I K v1 v2 W) (hs : SlT w0 a s) {cs0 : List Value} (hcs : W.ownsRow w0.heap.size 34 1 v2 K.length cs0) (hi0 : ∀ (i : Nat) (hi : i < K.length), ∃ a c, cs0[i]? = some (.slice a K[i].length c) ∧ SlT w0 a K[i]) (h2 : W'.ownsRow w0.heap.size 34 1 (.slice (some ⟨g, 0, none⟩) (K.length + 1) cap) (K.length + 1) (cs0 ++ [.slice a s.length c])) (h3 : (W.alloc o).grownBy W' v2.ownBlock) (h4 : v2.ownBlock = some g ∨ g = W.heap.size + 1) :
    KS F w0 r R I (K ++ [s]) v1 (.slice (some ⟨g, 0, none⟩) (K.length + 1) cap) W' := by
  obtain ⟨O, h⟩ := h
  have hkeep : ∀ j, j < W.heap.size → v2.ownBlock ≠ some j → W'.heap[j]? = W.heap[j]? := fun j hj hne => (h3.block j (by simp; omega) (fun e => hne e.symm)).trans (Below.heap_alloc _ _ j hj)
  have hbl : RowKit.Below w0.heap.size w0 W' := (h.low.trans ((balloc W o).mono h.low.size)).grown h3 (by have := h.low.size; simp; omega) (fun j hj => (hcs.lt j hj).1)
  have hlen : cs0.length = K.length := by have := hcs.1; omega
  refine ⟨O, F.keep h.pro fun j hj => hkeep j (F.own h.pro j hj) (fun e => h.f2 j e hj), hbl, h.high, rowK_keep h.ids fun j hj => hkeep j (h.ids.lt j hj).2 (fun e => h.apart hj e), ⟨cs0 ++ [.slice a s.length c], by rw [List.length_append]; exact h2, fun i hi => ?_⟩, h.f1, fun j hj hO => ?_⟩
  · rw [List.length_append] at hi
    simp at hi
    by_cases hik : i < K.length
    · obtain ⟨a', c', q1, q2⟩ := hi0 i hik
      refine ⟨a', c', ?_, ?_⟩
      · rw [List.getElem?_append_left (by omega), List.getElem_append_left hik]
        exact q1
      · rw [List.getElem_append_left hik]
        exact q2
    · have e : i = K.length := by omega
      subst e
      refine ⟨a, c, ?_, ?_⟩
      · rw [List.getElem?_append_right (by omega), List.getElem_append_right (Nat.le_refl _)]
        simp [hlen]
      · rw [List.getElem_append_right (Nat.le_refl _)]
        simpa using hs
  · have e : some g = some j := hj
    cases e
    rcases h4 with h4 | h4
    · exact h.f2 g h4 hO
    · have := F.own h.pro g hO
      omega
theorem KS.row2 (h : KS F w0 r R I K v1 v2 W) : ∃ cs : List Value, W.ownsRow w0.heap.size 34 1 v2 K.length cs ∧ ∀ (i : Nat) (hi : i < K.length), ∃ a c, cs[i]? = some (.slice a K[i].length c) ∧ SlT w0 a K[i] := by
  obtain ⟨O, h⟩ := h
  exact h.kpt
theorem KS.row1 (h : KS F w0 r R I K v1 v2 W) : W.ownsRow w0.heap.size 3 1 v1 I.length (cellsU I) := by
  obtain ⟨O, h⟩ := h
  exact h.ids
end

/-! ### what stays -/
structure Kept (R : Rp) (I : List Nat) (K : List (List Tr)) : Prop where
  good : GoodR R
  same : I.length = K.length
  at_ : ∀ (j : Nat), j < I.length → graphE R (I.getD j 0 : Nat) = 0 ∧ graphL R (I.getD j 0 : Nat) = K.getD j []
  few : R.coms.length ≤ I.length + 1
theorem add_graph {R : Rp} (h : GoodR R) {ps : List Int} {s : List Tr} {m : List UInt8} (he : addE R ps s m = 0) : addI R ps s m < (addR R ps s m).coms.length ∧ (addR R ps s m).gr[addI R ps s m]? = some s ∧ (addR R ps s m).coms.length ≤ R.coms.length + 1 := by
  have h1 := add_in he
  refine ⟨h1, ?_, ?_⟩
  · unfold addE at he
    unfold addI addR
    cases hf : findC R.coms R.gr ps s m with
    | some i =>
      obtain ⟨_, h2, _, _, h3⟩ := findC_at hf
      dsimp only
      rw [List.getElem?_eq_getElem h2, h3]
    | none =>
      rw [hf] at he
      dsimp only at he ⊢
      by_cases h60 : 60 ≤ R.coms.length
      · rw [if_pos h60] at he; simp at he
      · rw [if_neg h60] at he ⊢
        rw [if_neg h60, if_neg (by simpa using he), if_neg (by simpa using he)]
        dsimp only
        rw [← h.len, List.getElem?_append_right (Nat.le_refl _)]
        simp
  · unfold addR
    split
    · omega
    · split
      · omega
      · split
        · omega
        · simp
theorem commit_unf {R : Rp} {b : List UInt8} {s : List Tr} {m : List UInt8} (he : commitE R b s m = 0) : nameR b = true ∧ addE R (parR R b) s m = 0 ∧ commitR R b s m = leadTo (addR R (parR R b) s m) b (addI R (parR R b) s m) ∧ commitI R b s m = addI R (parR R b) s m := by
  have he' := he
  unfold commitE at he
  split at he
  · rename_i h1; exact absurd he h1
  · rename_i h1
    have h1 : commitF R b s m = 0 := by simpa using h1
    unfold commitF at h1
    split at h1
    · simp at h1
    · rename_i hn
      refine ⟨by simpa using hn, he, ?_, ?_⟩
      · unfold commitR; rw [if_neg (by simp [he'])]
      · unfold commitI; rw [if_neg (by simp [he'])]
theorem commit_set {R : Rp} {b : List UInt8} {s : List Tr} {m : List UInt8} (he : commitE R b s m = 0) : IsSet s := by
  unfold commitE at he
  split at he
  · rename_i h1; exact absurd he h1
  · rename_i h1
    have h1 : commitF R b s m = 0 := by simpa using h1
    unfold commitF at h1
    split at h1
    · simp at h1
    · split at h1
      · rename_i h2; exact absurd h1 h2
      · rename_i h2
        exact sortedN_set.1 (setF_zero (by simpa using h2)).1
theorem commit_bad {R : Rp} {b : List UInt8} {s : List Tr} {m : List UInt8} (he : commitE R b s m ≠ 0) : commitR R b s m = R := by
  unfold commitR
  rw [if_pos he]
theorem graph_more {R R' : Rp} (hl : R.gr.length = R.coms.length) (h1 : R.coms <+: R'.coms) (h2 : R.gr <+: R'.gr) {a : Int} (h : graphE R a = 0) : graphE R' a = 0 ∧ graphL R' a = graphL R a := by
  have hin : inR R a = true := by
    unfold graphE at h
    split at h
    · assumption
    · simp at h
  have h0 := inR_iff.1 hin
  have hlen := h1.length_le
  have hin' : inR R' a = true := inR_iff.2 ⟨h0.1, by omega⟩
  refine ⟨by unfold graphE; rw [if_pos hin'], ?_⟩
  unfold graphL
  rw [if_pos hin, if_pos hin']
  obtain ⟨t, ht⟩ := h2
  rw [← ht, List.getElem?_append_left (by omega)]
theorem commit_kept {R : Rp} {I : List Nat} {K : List (List Tr)} {b : List UInt8} {s : List Tr} {m : List UInt8} (h : Kept R I K) (he : commitE R b s m = 0) :
    Kept (commitR R b s m) (I ++ [commitI R b s m]) (K ++ [s]) ∧ headE (commitR R b s m) b = 0 ∧ headI (commitR R b s m) b = (commitI R b s m : Int) := by
  obtain ⟨hn, ha, eR, eI⟩ := commit_unf he
  obtain ⟨g1, g2, g3⟩ := add_graph h.good ha
  have hgood := h.good.commit b s m
  obtain ⟨m1, m2⟩ := add_more R (parR R b) s m
  have e1 : (commitR R b s m).coms = (addR R (parR R b) s m).coms := by rw [eR]; rfl
  have e2 : (commitR R b s m).gr = (addR R (parR R b) s m).gr := by rw [eR]; rfl
  have e3 : (commitR R b s m).refs = leadR (addR R (parR R b) s m).refs b (addI R (parR R b) s m) := by rw [eR]; rfl
  have hat : atR (commitR R b s m).refs b = (commitI R b s m : Int) := by
    rw [atR_mem hgood.refs, e3, eI]
    exact mem_lead.2 (Or.inl rfl)
  have hE : headE (commitR R b s m) b = 0 := by
    unfold headE
    rw [if_neg (by rw [hn]; simp), if_neg (by rw [hat]; omega)]
  refine ⟨⟨hgood, by rw [List.length_append, List.length_append, h.same]; rfl, fun j hj => ?_, ?_⟩, hE, ?_⟩
  · rw [List.length_append] at hj
    simp at hj
    by_cases hjl : j < I.length
    · obtain ⟨q1, q2⟩ := h.at_ j hjl
      have e4 : (I ++ [commitI R b s m]).getD j 0 = I.getD j 0 := by
        rw [List.getD_eq_getElem?_getD, List.getD_eq_getElem?_getD, List.getElem?_append_left hjl]
      have e5 : (K ++ [s]).getD j [] = K.getD j [] := by
        rw [List.getD_eq_getElem?_getD, List.getD_eq_getElem?_getD, List.getElem?_append_left (by rw [← h.same]; exact hjl)]
      rw [e4, e5]
      obtain ⟨r1, r2⟩ := graph_more h.good.len (by rw [e1]; exact m1) (by rw [e2]; exact m2) q1
      exact ⟨r1, r2.trans q2⟩
    · have e : j = I.length := by omega
      have e4 : (I ++ [commitI R b s m]).getD j 0 = commitI R b s m := by
        rw [List.getD_eq_getElem?_getD, e, List.getElem?_append_right (Nat.le_refl _)]
        simp
      have e5 : (K ++ [s]).getD j [] = s := by
        rw [List.getD_eq_getElem?_getD, e, h.same, List.getElem?_append_right (Nat.le_refl _)]
        simp
      rw [e4, e5]
      have hin : inR (commitR R b s m) (commitI R b s m : Int) = true := inR_iff.2 ⟨by omega, by rw [e1, eI]; omega⟩
      refine ⟨by unfold graphE; rw [if_pos hin], ?_⟩
      unfold graphL
      rw [if_pos hin, e2, Int.toNat_natCast, eI, g2]
      rfl
  · rw [List.length_append, e1]
    have := h.few
    simp
    omega
  · unfold headI
    rw [if_pos hE, hat]
def nameA : List UInt8 := [97]
def textM : List UInt8 := [109]
theorem first_commit : commitE emptyR nameA [] textM = 0 ∧ commitI emptyR nameA [] textM = 0 := by decide +kernel
theorem kept_one : Kept (commitR emptyR nameA [] textM) [] [] ∧ headE (commitR emptyR nameA [] textM) nameA = 0 ∧ headI (commitR emptyR nameA [] textM) nameA = 0 := by
  have h0 : Kept emptyR [] [] := ⟨goodR_empty, rfl, fun j hj => by simp at hj, by decide⟩
  obtain ⟨h1, h2, h3⟩ := commit_kept h0 first_commit.1
  rw [first_commit.2] at h3
  refine ⟨⟨h1.good, rfl, fun j hj => by simp at hj, ?_⟩, h2, h3⟩
  obtain ⟨_, ha, eR, _⟩ := commit_unf first_commit.1
  have := (add_graph goodR_empty ha).2.2
  rw [eR]
  exact this
end Go.Proofs.YtpomdoelihmebaaGreat

/- stratalaw2.RepoKeeps: the walk. -/
namespace Go.Proofs.YtpomdoelihmebaaGreat
open Go Go.RowKit Go.Proofs
set_option synthInstance.maxSize 1000

def KeepAns (w : World) (e : Ending) (w' : World) : Prop := e = .returned (.bool true) ∧ RowKit.Below w.heap.size w w'
theorem errV_zeroK : errV 0 = .nilIface := rfl
theorem errV_someK {n : Int} (h : n ≠ 0) : errV n = .iface 65 (.int .i64 n) := by unfold errV; rw [if_neg h]
theorem infoSl : (Tryz.prog.info? 34).map (fun i => (i.zero, i.size, i.bytes)) = some (some (.slice none 0 0), 1, 24) := by kernel_rfl
theorem KS.start {F : RFace} {w0 : World} {r : Nat} {R : Rp} {W : World} {O : Nat → Prop} (hA : F.At W r O R) (hb : RowKit.Below w0.heap.size w0 W) (hO : ∀ j, O j → w0.heap.size ≤ j) : KS F w0 r R [] [] (.slice none 0 0) (.slice none 0 0) W :=
  ⟨O, hA, hb, hO, World.ownsRow_nil _ _ _ _, ⟨[], World.ownsRow_nil _ _ _ _, fun i hi => (by simp at hi)⟩, fun j hj => (by cases hj), fun j hj => (by cases hj)⟩
theorem SameSet (ad bd : Option Addr) (ca cb : Nat) (l : List Tr) (w : World) (hl : SlT w ad l) (hm : SlT w bd l) (hz : l.length ≤ 200) :
    Calls Tryz.prog 10 #[.slice ad l.length ca, .slice bd l.length cb] w fun e w' => e = .returned (.bool true) ∧ RowKit.Below w.heap.size w w' := by
  have := SameTriples_any ad bd ca cb l l w hl hm (by omega) (by omega)
  rw [show decide (l = l) = true by simp] at this
  exact this

theorem comsOK_good {w : World} {ad : Option Addr} {ca : Nat} {l : List Cm} (hG : GoodC l) (hc : l.length ≤ ca) (hs : SlC w ad l) (hp : ∀ b o, ad = some ⟨b, o, none⟩ → ∀ i, i < l.length → ∀ a n c, w.cell? ⟨b, o + i * 3, none⟩ = some (.slice a n c) → n ≤ c) : ComsOK w ad ca l := by
  have hx : ∀ c ∈ l, c.1.length ≤ 2 ∧ c.2.2.length ≤ 24 := fun c hm => by
    obtain ⟨j, hj, rfl⟩ := List.getElem_of_mem hm
    have h := hG.2 j hj
    unfold comN at h
    split at h
    · cases h
    · rename_i h1
      unfold msgN at h1
      refine ⟨by omega, ?_⟩
      refine Classical.byContradiction fun hn => h1 (Or.inr ?_)
      rw [if_pos (by omega)]
  refine ⟨hs, hc, by unfold maxLen; have := hG.1; omega, fun c hm => by unfold maxLen; have := (hx c hm).1; omega, fun c hm => by unfold maxLen; have := (hx c hm).2; omega, hp⟩
theorem graph_small {R : Rp} (h : GoodR R) (a : Int) : (graphL R a).length ≤ 200 := by
  unfold graphL
  split
  · cases hg : R.gr[a.toNat]? with
    | none => simp
    | some g => exact (h.sets g (List.mem_of_getElem? hg)).1
  · simp

set_option maxHeartbeats 16000000 in
set_option maxRecDepth 1000000 in
theorem repoKeeps_any (F : RFace) (D : DFace) (sd nd : Option Addr) (sc nc : Nat) (S : List (List Tr)) (T : List (List UInt8)) (w : World) (hlim : 1 ≤ F.lim)
    (hS : S ≠ [] → ∃ b o, sd = some ⟨b, o, none⟩ ∧ SetsAt w b o S) (hT : T ≠ [] → ∃ b o, nd = some ⟨b, o, none⟩ ∧ TextsAt w b o T) (hb : ∀ b ∈ T, b.length ≤ F.lim) (hSn : S.length ≤ maxLen) (hTn : T.length ≤ maxLen) :
    Calls Tryz.prog 3 #[.slice sd S.length sc, .slice nd T.length nc] w fun e w' => KeepAns w e w' := by
  have HN := F.new w
  have HS := hideO hS
  have HT := hideO hT
  have HB := hideO hb
  obtain ⟨f1, f2⟩ := first_commit
  obtain ⟨k1, k2, k3⟩ := kept_one
  have hS63 : (S.length : Int) ≤ 9223372036854775807 := by unfold maxLen at hSn; omega
  have hT63 : (T.length : Int) ≤ 9223372036854775807 := by unfold maxLen at hTn; omega
  have hE0 : SetIn w none 0 [] := ⟨fun h => absurd rfl h, by simp, by simp, by simp, fun h => absurd rfl h⟩
  have K1 := hideO k1
  have F12 : Hid (commitE emptyR nameA [] textM = 0 ∧ commitI emptyR nameA [] textM = 0) := ⟨f1, f2⟩
  have K23 : Hid (headE (commitR emptyR nameA [] textM) nameA = 0 ∧ headI (commitR emptyR nameA [] textM) nameA = 0) := ⟨k2, k3⟩
  clear hS hT hb hSn hTn f1 f2 k1 k2 k3
  go_enter Tryz.func3, Tryz.ntmps3
  go_wp2_with fail
  refine HN.mono ?_
  rintro e w1 ⟨r, O, rfl, hA, hb1, hO⟩
  dsimp only
  have st1 := hideO (KS.start hA hb1 hO)
  clear hA hb1 hO HN
  go_wp2_with fail
  refine (st1.out.commit nameA none 0 [] textM goodR_empty hlim hlim hE0).mono ?_
  rintro e w2 ⟨rfl, st2'⟩
  have st2 := hideO st2'
  rw [F12.out.1, F12.out.2, errV_zeroK]
  dsimp only
  clear st1 st2' hE0 F12
  generalize commitR emptyR nameA [] textM = R1 at *
  go_wp2_with fail
  refine (st2.out.head nameA K1.out.good hlim).mono ?_
  rintro e w3 ⟨rfl, hb3⟩
  have st3 := hideO (st2.out.below hb3)
  rw [K23.out.1, K23.out.2, errV_zeroK]
  dsimp only
  clear st2 hb3 K23
  go_wp2_with fail
  go_loopw [10, 11, 12] (fun v1 v2 i wr => ∃ (k : Nat) (R : Rp) (I : List Nat) (K : List (List Tr)), i = .int .i64 k ∧ k ≤ S.length ∧ k ≤ T.length ∧ k ≤ 30 ∧ I.length ≤ k ∧ Hid (Kept R I K) ∧ Hid (KS F w r R I K v1 v2 wr)) (fun _ _ i wr => 30 - (intOf i).toNat)
  case atStart => exact ⟨0, R1, [], [], rfl, by omega, by omega, by omega, by simp, K1, st3⟩
  case round =>
    obtain ⟨k, R, I, K, rfl, hkS, hkT, hk30, hIk, hK, st⟩ := hrel
    clear st3 K1
    generalize hW0 : wr = W0 at *
    clear hW0
    by_cases hlt : k < S.length ∧ k < T.length ∧ k < 30
    · obtain ⟨h1, h2, h3⟩ := hlt
      have i0 : (0 : Int) ≤ (k : Int) := by omega
      have i1 : (k : Int) < (S.length : Int) := by omega
      have i2 : (k : Int) < (T.length : Int) := by omega
      have i3 : (k : Int) < 30 := by omega
      obtain ⟨sb, so, rfl, hSa⟩ := HS.out (fun e => by rw [e] at h1; simp at h1)
      obtain ⟨nb, no, rfl, hTa⟩ := HT.out (fun e => by rw [e] at h2; simp at h2)
      obtain ⟨a, c, hc1, hin⟩ := hSa k h1
      have hc2 := hTa k h2
      have hbl := HB.out _ (List.getElem_mem h2)
      have HC : Hid (∀ W, RowKit.Below w.heap.size w W → W.cell? ⟨nb, no + k, none⟩ = some (.string ⟨T[k].toArray⟩) ∧ W.cell? ⟨sb, so + k, none⟩ = some (.slice a S[k].length c)) := fun W hW => ⟨(hW.cell (World.block_lt_of_cell? w _ hc2)).trans hc2, (hW.cell (World.block_lt_of_cell? w _ hc1)).trans hc1⟩
      have HI := hideO hin
      have HL := hideO hbl
      clear hSa hTa hc1 hc2 hin hbl
      generalize S[k] = s at *
      generalize T[k] = b at *
      go_wp2_with fail
      refine (st.out.commits hK.out.good).mono ?_
      rintro e w4 ⟨cd, cc, rfl, _, _, _, hb4⟩
      dsimp only
      have st4 := hideO (st.out.below hb4)
      have hdr : RowKit.Below w4.heap.size w4 w4.drew := ⟨rfl, rfl, rfl, Nat.le_refl _, fun _ _ => rfl⟩
      have st5 := hideO (st4.out.below hdr)
      have HC4 := hideO (HC.out _ st5.out.low)
      clear st hb4 hdr
      by_cases he : commitE R b s textM = 0
      · have C : ∀ (W : World), KS F w r R I K u10 u11 W → Calls Tryz.prog 6 #[.pointer (some ⟨r, 0, none⟩), .string ⟨b.toArray⟩, .slice a s.length c, .string ⟨textM.toArray⟩] W fun e W' => e = .returned (.tuple #[.int .i64 (commitI R b s textM : Int), .nilIface]) ∧ KS F w r (commitR R b s textM) I K u10 u11 W' := fun W h => by
          have := h.commit b a c s textM hK.out.good HL.out hlim HI.out
          rw [he, errV_zeroK] at this
          exact this
        obtain ⟨q1, q2, q3⟩ := commit_kept hK.out he
        have HK2 := hideO q1
        have HH : Hid (headE (commitR R b s textM) b = 0 ∧ headI (commitR R b s textM) b = (commitI R b s textM : Int)) := ⟨q2, q3⟩
        clear q1 q2 q3 he
        generalize commitR R b s textM = R2 at *
        generalize commitI R b s textM = n at *
        obtain ⟨i0', hi0, hz0, hz1, hz2⟩ := info_parts infoU
        obtain ⟨i1', hi1, hy0, hy1, hy2⟩ := info_parts infoSl
        go_wp2_with fail
        go_region_held3 (fun W => W.cell? ⟨nb, no + k, none⟩ = some (.string ⟨b.toArray⟩) ∧ W.cell? ⟨sb, so + k, none⟩ = some (.slice a s.length c)) (first | (with_reducible exact HC4.out) | (with_reducible exact HC.out _ st6.low) | assumption) (first | (go_simp; go_at_call 6; refine (C _ st5.out).mono ?_; rintro e w6 ⟨rfl, st6⟩; dsimp only))
        have hz6 := st6.low.size
        have ho6 := hideO st6.row1
        go_wp2_with (at_builtin; refine wpList_append_lies _ rfl _ _ 31 rfl w.heap.size 3 i0' (.int .i64 0) 1 8 Tryz.underlying31 hi0 hz0 hz1 hz2 rfl (by decide) _ _ _ rfl (ho6.out.alloc _) ⟨w6.heap.size, 0, none⟩ 1 1 [.int .i64 (n : Int)] rfl rfl ?c1 (by simp [Value.oneCell']) (by decide) (by unfold maxLen; omega) (by omega) (by simp; omega) _ rfl ?_)
        case c1 =>
          intro j u hu
          have hj : j < 1 := by have := (List.getElem?_eq_some_iff.1 hu).1; simpa using this
          obtain rfl : j = 0 := by omega
          rw [Addr.add_lit]
          simp at hu; subst hu; go_simp
        intro g cap w7 h2 h3 h4 _
        have st7 := hideO (st6.push1 h2 h3 h4)
        obtain ⟨cs0, hcs, hci⟩ := st7.out.row2
        have Hcs := hideO hcs
        have Hci := hideO hci
        obtain ⟨n7, s7⟩ := HC.out _ st7.out.low
        have hz7 := st7.out.low.size
        have hKl : K.length ≤ 30 := by have := hK.out.same; omega
        clear st6 hz6 ho6 h2 h3 h4 hcs hci n7 HC4 st5 st4
        go_wp2_with (at_builtin; refine wpList_append_lies _ rfl _ _ 22 rfl w.heap.size 34 i1' (.slice none 0 0) 1 24 Tryz.underlying22 hi1 hy0 hy1 hy2 rfl (by decide) _ _ cs0 rfl (Hcs.out.alloc _) ⟨w7.heap.size, 0, none⟩ 1 1 [.slice a s.length c] rfl rfl ?c2 (by simp [Value.oneCell']) (by decide) (by unfold maxLen; omega) (by omega) (by simp; omega) _ rfl ?_)
        case c2 =>
          intro j u hu
          have hj : j < 1 := by have := (List.getElem?_eq_some_iff.1 hu).1; simpa using this
          obtain rfl : j = 0 := by omega
          rw [Addr.add_lit]
          simp at hu; subst hu; go_simp
        intro g2 cap2 w8 h2 h3 h4 _
        have st8 := hideO (st7.out.push2 HI.out.sl Hcs.out Hci.out h2 h3 h4)
        obtain ⟨n8, s8⟩ := HC.out _ st8.out.low
        clear st7 hz7 h2 h3 h4 Hcs Hci s7 s8
        go_wp2_with fail
        refine (st8.out.head b HK2.out.good HL.out).mono ?_
        rintro e w9 ⟨rfl, hb9⟩
        rw [HH.out.1, HH.out.2, errV_zeroK]
        dsimp only
        have st9 := hideO (st8.out.below hb9)
        have tn : ((n : Int) != (n : Int)) = false := by simp
        clear st8 hb9 n8
        go_wp2_with fail
        go_loopw [18] (fun jj wr => ∃ (j : Nat), jj = .int .i64 j ∧ j ≤ I.length + 1 ∧ Hid (KS F w r R2 (I ++ [n]) (K ++ [s]) (.slice (some ⟨g, 0, none⟩) (I.length + 1) cap) (.slice (some ⟨g2, 0, none⟩) (K.length + 1) cap2) wr)) (fun jj wr => I.length + 1 - (intOf jj).toNat)
        case atStart => exact ⟨0, rfl, by omega, st9⟩
        case round =>
          obtain ⟨j, rfl, hj, stj⟩ := hrel
          clear st9
          generalize hWj : wr = Wj at *
          clear hWj
          have hsame := hK.out.same
          by_cases hjl : j < I.length + 1
          · have hj1 : j < (I ++ [n]).length := by rw [List.length_append]; simpa using hjl
            have hj2 : j < (K ++ [s]).length := by rw [List.length_append]; simp; omega
            obtain ⟨g', cap', e1, c1⟩ := stj.out.at1 hj1
            obtain ⟨rfl, _⟩ : g' = g ∧ True := by
              have := (Value.slice.inj e1).1
              cases this
              exact ⟨rfl, trivial⟩
            obtain ⟨q1, q2⟩ := HK2.out.at_ j hj1
            have hGs : (graphL R2 ((I ++ [n]).getD j 0 : Nat)).length ≤ 200 := graph_small HK2.out.good _
            have CG := stj.out.graph ((I ++ [n]).getD j 0 : Nat) HK2.out.good
            have HA2 := fun (W : World) (h : KS F w r R2 (I ++ [n]) (K ++ [s]) (.slice (some ⟨g', 0, none⟩) (I.length + 1) cap) (.slice (some ⟨g2, 0, none⟩) (K.length + 1) cap2) W) => h.at2 hj2
            have hKe : (K ++ [s])[j] = graphL R2 ((I ++ [n]).getD j 0 : Nat) := by
              rw [q2, List.getD_eq_getElem?_getD, List.getElem?_eq_getElem hj2]
              rfl
            rw [hKe] at HA2
            rw [q1, errV_zeroK] at CG
            have k0 : (0 : Int) ≤ (j : Int) := by omega
            have k1 : (j : Int) < (I.length : Int) + 1 := by omega
            have k2 : (j : Int) < (K.length : Int) + 1 := by omega
            have HA3 := hideO HA2
            have hjl' := hideO hjl
            clear e1 q1 q2 hKe HA2 hj1 hj2 hsame hjl hj
            generalize graphL R2 ((I ++ [n]).getD j 0 : Nat) = G at *
            generalize (I ++ [n]).getD j 0 = x at *
            go_wp2_with fail
            refine CG.mono ?_
            rintro e w10 ⟨gd, gc, rfl, hgs, hb10⟩
            dsimp only
            have st10 := hideO (stj.out.below hb10)
            obtain ⟨g'', cap'', a2, c2, e2, c3, hs2⟩ := HA3.out _ st10.out
            obtain ⟨rfl, _⟩ : g'' = g2 ∧ True := by
              have := (Value.slice.inj e2).1
              cases this
              exact ⟨rfl, trivial⟩
            have CS := SameSet gd a2 gc c2 G w10 hgs (hs2.below st10.out.low) hGs
            clear CG hgs hb10 e2 hs2 c1 stj
            go_wp2_with fail
            refine CS.mono ?_
            rintro e w11 ⟨rfl, hb11⟩
            dsimp only
            have st11 := hideO (st10.out.below hb11)
            clear CS st10 hb11 c3
            go_wp2_with fail
            go_roundw
            case rel => exact ⟨j + 1, by go_num, by have := hjl'.out; omega, st11⟩
            case measure => have := hjl'.out; simp [intOf]; omega
          · obtain rfl : j = I.length + 1 := by omega
            clear hsame
            go_wp2_with fail
            go_roundw
            case rel => first | exact ⟨k + 1, R2, I ++ [n], K ++ [s], by go_num, by omega, by omega, by omega, by rw [List.length_append]; simp; omega, HK2, stj⟩ | ((repeat apply Exists.intro); exact ⟨⟨k + 1, R2, I ++ [n], K ++ [s], by go_num, by omega, by omega, by omega, by rw [List.length_append]; simp; omega, HK2, stj⟩, rfl⟩)
            case measure => simp [intOf]; omega
      · have hbad := commit_bad he
        have C : ∀ (W : World), KS F w r R I K u10 u11 W → Calls Tryz.prog 6 #[.pointer (some ⟨r, 0, none⟩), .string ⟨b.toArray⟩, .slice a s.length c, .string ⟨textM.toArray⟩] W fun e W' => e = .returned (.tuple #[.int .i64 (commitI R b s textM : Int), .iface 65 (.int .i64 (commitE R b s textM))]) ∧ KS F w r R I K u10 u11 W' := fun W h => by
          have := h.commit b a c s textM hK.out.good HL.out hlim HI.out
          rw [errV_someK he, hbad] at this
          exact this
        have tn : ((R.coms.length : Int) != (R.coms.length : Int)) = false := by simp
        clear he hbad
        generalize commitI R b s textM = n at *
        generalize commitE R b s textM = ee at *
        go_wp2_with fail
        go_region_held3 (fun W => W.cell? ⟨nb, no + k, none⟩ = some (.string ⟨b.toArray⟩) ∧ W.cell? ⟨sb, so + k, none⟩ = some (.slice a s.length c)) (first | (with_reducible exact HC4.out) | (with_reducible exact HC.out _ st6.low) | assumption) (first | (go_simp; go_at_call 6; refine (C _ st5.out).mono ?_; rintro e w6 ⟨rfl, st6⟩; dsimp only))
        have st6' := hideO st6
        clear st6 C
        go_wp2_with fail
        refine (st6'.out.commits hK.out.good).mono ?_
        rintro e w7 ⟨cd2, cc2, rfl, _, _, _, hb7⟩
        dsimp only
        have st7 := hideO (st6'.out.below hb7)
        clear st6' hb7
        go_wp2_with fail
        go_roundw
        case rel => first | exact ⟨k + 1, R, I, K, by go_num, by omega, by omega, by omega, by omega, hK, st7⟩ | ((repeat apply Exists.intro); exact ⟨⟨k + 1, R, I, K, by go_num, by omega, by omega, by omega, by omega, hK, st7⟩, rfl⟩)
        case measure => simp [intOf]; omega
    · by_cases h1 : k < S.length
      · have i1 : (k : Int) < (S.length : Int) := by omega
        by_cases h2 : k < T.length
        · have i2 : (k : Int) < (T.length : Int) := by omega
          have hnl : ¬ k < 30 := fun h3 => hlt ⟨h1, h2, h3⟩
          have i4 : ¬ (k : Int) < 30 := by omega
          clear hnl
          go_wp2_with fail
          refine (st.out.commits hK.out.good).mono ?_
          rintro e w4 ⟨cd, cc, rfl, hcc, hsl, hcp, hb4⟩
          dsimp only
          have hok := comsOK_good hK.out.good.coms hcc hsl hcp
          have st4 := hideO (st.out.below hb4)
          clear st hb4 hcc hsl hcp
          go_wp2_with fail
          refine (D.check w4 cd cc R.coms hok).mono ?_
          rintro e w5 ⟨rfl, hb5⟩
          rw [coms_good.2 hK.out.good.coms, errV_zeroK]
          dsimp only
          obtain ⟨ad1, cap1, hv1⟩ := st4.out.form1
          subst hv1
          have hfew := hK.out.few
          have hfin : Hid (RowKit.Below w.heap.size w w5) := bstep st4.out.low hb5
          have hd : ((R.coms.length : Int) ≤ (I.length : Int) + 1) := by omega
          have hi63 : (I.length : Int) + 1 ≤ 9223372036854775807 := by omega
          clear hok hfew
          generalize (comsN R.coms).1 = z at *
          go_wp2_with fail
          go_ret
          exact ⟨rfl, hfin.out⟩
        · have hnl : ¬ k < T.length := h2
          have i4 : ¬ (k : Int) < (T.length : Int) := by omega
          clear hnl
          go_wp2_with fail
          refine (st.out.commits hK.out.good).mono ?_
          rintro e w4 ⟨cd, cc, rfl, hcc, hsl, hcp, hb4⟩
          dsimp only
          have hok := comsOK_good hK.out.good.coms hcc hsl hcp
          have st4 := hideO (st.out.below hb4)
          clear st hb4 hcc hsl hcp
          go_wp2_with fail
          refine (D.check w4 cd cc R.coms hok).mono ?_
          rintro e w5 ⟨rfl, hb5⟩
          rw [coms_good.2 hK.out.good.coms, errV_zeroK]
          dsimp only
          obtain ⟨ad1, cap1, hv1⟩ := st4.out.form1
          subst hv1
          have hfew := hK.out.few
          have hfin : Hid (RowKit.Below w.heap.size w w5) := bstep st4.out.low hb5
          have hd : ((R.coms.length : Int) ≤ (I.length : Int) + 1) := by omega
          have hi63 : (I.length : Int) + 1 ≤ 9223372036854775807 := by omega
          clear hok hfew
          generalize (comsN R.coms).1 = z at *
          go_wp2_with fail
          go_ret
          exact ⟨rfl, hfin.out⟩
      · have hnl : ¬ k < S.length := h1
        have i4 : ¬ (k : Int) < (S.length : Int) := by omega
        clear hnl
        go_wp2_with fail
        refine (st.out.commits hK.out.good).mono ?_
        rintro e w4 ⟨cd, cc, rfl, hcc, hsl, hcp, hb4⟩
        dsimp only
        have hok := comsOK_good hK.out.good.coms hcc hsl hcp
        have st4 := hideO (st.out.below hb4)
        clear st hb4 hcc hsl hcp
        go_wp2_with fail
        refine (D.check w4 cd cc R.coms hok).mono ?_
        rintro e w5 ⟨rfl, hb5⟩
        rw [coms_good.2 hK.out.good.coms, errV_zeroK]
        dsimp only
        obtain ⟨ad1, cap1, hv1⟩ := st4.out.form1
        subst hv1
        have hfew := hK.out.few
        have hfin : Hid (RowKit.Below w.heap.size w w5) := bstep st4.out.low hb5
        have hd : ((R.coms.length : Int) ≤ (I.length : Int) + 1) := by omega
        have hi63 : (I.length : Int) + 1 ≤ 9223372036854775807 := by omega
        clear hok hfew
        generalize (comsN R.coms).1 = z at *
        go_wp2_with fail
        go_ret
        exact ⟨rfl, hfin.out⟩
end Go.Proofs.YtpomdoelihmebaaGreat
