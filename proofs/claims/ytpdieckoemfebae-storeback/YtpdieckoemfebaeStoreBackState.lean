/- StoreBack: what there is in memory: the store, the row of the numbers that were told, the list of all numbers. -/
import Derived.Test.YtpdieckoemfebaeStoreFace
import Derived.Test.YtpdieckoemfebaeStoreBackPlain
namespace Go.Proofs.Ytpdieckoemfebae
open Go Go.RowKit Go.Proofs
set_option synthInstance.maxSize 1000

def rowZ (I : List Int) : Obj := .cells (I.map (Value.int .i64)).toArray 3
/-- the store; in block bi the numbers I; at ad the list 'all' -/
def KA (F : Face) (w0 : World) (s n : Nat) (L : List Ob) (bi : Nat) (I : List Int) (ad : Option Addr) (all : List Int) (W : World) : Prop :=
  ∃ O : Nat → Prop, F.At W s O n L ∧ RowKit.Below w0.heap.size w0 W ∧ (∀ j, O j → w0.heap.size ≤ j) ∧ ¬ O bi ∧ w0.heap.size ≤ bi ∧ W.heap[bi]? = some (rowZ I) ∧ SlI W ad all ∧ (all ≠ [] → ∀ d, ad = some d → ¬ O d.block ∧ d.block ≠ bi)
section
variable {F : Face} {w0 : World} {s n bi : Nat} {L : List Ob} {I all : List Int} {ad : Option Addr} {W W' : World}
theorem KA.low (h : KA F w0 s n L bi I ad all W) : RowKit.Below w0.heap.size w0 W := by
  obtain ⟨O, _, h2, _⟩ := h
  exact h2
theorem KA.blt (h : KA F w0 s n L bi I ad all W) : bi < W.heap.size := by
  obtain ⟨O, _, _, _, _, _, h6, _⟩ := h
  exact (Array.getElem?_eq_some_iff.1 h6).1
theorem KA.below (h : KA F w0 s n L bi I ad all W) (hb : RowKit.Below W.heap.size W W') : KA F w0 s n L bi I ad all W' := by
  have hlt := h.blt
  obtain ⟨O, h1, h2, h3, h4, h5, h6, h7, h8⟩ := h
  exact ⟨O, F.below h1 hb, bstep h2 hb, h3, h4, h5, (hb.block bi hlt).trans h6, h7.below hb, h8⟩
theorem KA.cell (h : KA F w0 s n L bi I ad all W) {j : Nat} {z : Int} (hj : I[j]? = some z) : W.cell? ⟨bi, j, none⟩ = some (.int .i64 z) ∧ W.frozen? ⟨bi, j, none⟩ = false := by
  obtain ⟨O, _, _, _, _, _, h6, _⟩ := h
  unfold rowZ at h6
  refine ⟨?_, ?_⟩
  · simp [World.cell?, h6, hj]
  · simp [World.frozen?, h6]
theorem KA.set (h : KA F w0 s n L bi I ad all W) (j : Nat) (z : Int) : KA F w0 s n L bi (I.set j z) ad all (W.setCell ⟨bi, j, none⟩ (.int .i64 z)) := by
  have hlt := h.blt
  obtain ⟨O, h1, h2, h3, h4, h5, h6, h7, h8⟩ := h
  have hz : (W.setCell ⟨bi, j, none⟩ (.int .i64 z)).heap.size = W.heap.size := by simp [World.setCell]
  refine ⟨O, F.keep h1 fun k hk => ?_, h2.setCell (p := ⟨bi, j, none⟩) h5 _, h3, h4, h5, ?_, fun hne => ?_, h8⟩
  · exact heap_setCell_other _ _ _ _ (fun e => h4 (by have e' : k = bi := e; rw [← e']; exact hk))
  · have := heap_setCell_same W bi j _ _ (.int .i64 z) h6
    rw [this]
    unfold rowZ
    congr 2
    apply Array.ext'
    simp [List.map_set]
  · obtain ⟨b, o, e, hc⟩ := h7 hne
    refine ⟨b, o, e, fun k hk => ?_⟩
    rw [World.cell?_setCell_other]
    · exact hc k hk
    · intro e'
      have h9 := (h8 hne _ e).2
      exact h9 (by first | exact congrArg Addr.block e' | exact (congrArg Addr.block e').symm)
/-- a change of the store -/
theorem KA.turn {n' : Nat} {L' : List Ob} {O O' : Nat → Prop} (h2 : RowKit.Below w0.heap.size w0 W) (h3 : ∀ j, O j → w0.heap.size ≤ j) (h4 : ¬ O bi) (h5 : w0.heap.size ≤ bi) (h6 : W.heap[bi]? = some (rowZ I)) (h7 : SlI W ad all) (h8 : all ≠ [] → ∀ d, ad = some d → ¬ O d.block ∧ d.block ≠ bi)
    (hA : F.At W' s O' n' L') (ho : Offs O W W') (hj : ∀ j, O' j → O j ∨ W.heap.size ≤ j) : KA F w0 s n' L' bi I ad all W' := by
  have hlt : bi < W.heap.size := (Array.getElem?_eq_some_iff.1 h6).1
  refine ⟨O', hA, h2.trans (ho.below h3 h2.size), fun j hO => ?_, fun hO => ?_, h5, (ho.block bi hlt h4).trans h6, fun hne => ?_, fun hne d hd => ⟨fun hO => ?_, (h8 hne d hd).2⟩⟩
  · rcases hj j hO with h | h
    · exact h3 j h
    · exact Nat.le_trans h2.size h
  · rcases hj bi hO with h | h
    · exact h4 h
    · omega
  · obtain ⟨b, o, e, hc⟩ := h7 hne
    exact ⟨b, o, e, fun k hk => (ho.cell (p := ⟨b, o + k, none⟩) (World.block_lt_of_cell? W _ (hc k hk)) (h8 hne _ e).1).trans (hc k hk)⟩
  · rcases hj _ hO with h | h
    · exact (h8 hne d hd).1 h
    · obtain ⟨b, o, e, hc⟩ := h7 hne
      rw [e] at hd
      cases hd
      have := World.block_lt_of_cell? W _ (hc 0 (List.length_pos_iff.2 hne))
      have h' : W.heap.size ≤ b := h
      have h'' : b < W.heap.size := this
      omega
theorem KA.put (b : List UInt8) (h : KA F w0 s n L bi I ad all W) (hg : GoodO n L) (hn : n ≤ 1000000) (hb : b.length ≤ F.lim) :
    Calls Try.prog 8 #[.pointer (some ⟨s, 0, none⟩), .string ⟨b.toArray⟩] W fun e W' => e = .returned (.tuple #[.int .i64 (putI n L b : Int), errV (putE L b)]) ∧ KA F w0 s (putM n L b) (putL n L b) bi I ad all W' := by
  obtain ⟨O, h1, h2, h3, h4, h5, h6, h7, h8⟩ := h
  refine (F.put W s O n L b h1 hg hn hb).mono ?_
  rintro e W' ⟨rfl, O', hA, ho, hj⟩
  exact ⟨rfl, KA.turn h2 h3 h4 h5 h6 h7 h8 hA ho hj⟩
theorem KA.kept (kd : Option Addr) (ca : Nat) (ids : List Int) (h : KA F w0 s n L bi I ad all W) (hg : GoodO n L) (hi : SlI w0 kd ids) (hI : ids.length ≤ 9223372036854775807) (hc : ids.length ≤ ca) :
    Calls Try.prog 12 #[.pointer (some ⟨s, 0, none⟩), .slice kd ids.length ca] W fun e W' => e = .returned (.tuple #[.int .i64 (keepI L ids : Int), errV (keepE L ids)]) ∧ KA F w0 s n (keepL L ids) bi I ad all W' := by
  obtain ⟨O, h1, h2, h3, h4, h5, h6, h7, h8⟩ := h
  refine (F.kept W s O n L kd ca ids h1 hg (hi.below h2) hI hc (fun b hne hb hO => ?_)).mono ?_
  · obtain ⟨b', o', e', hc'⟩ := hi hne
    have hlt := World.block_lt_of_cell? w0 _ (hc' 0 (List.length_pos_iff.2 hne))
    rw [e'] at hb
    cases hb
    have h9 : w0.heap.size ≤ b' := h3 _ hO
    have hlt' : b' < w0.heap.size := hlt
    omega
  rintro e W' ⟨rfl, O', hA, ho, hj⟩
  exact ⟨rfl, KA.turn h2 h3 h4 h5 h6 h7 h8 hA ho hj⟩
theorem KA.get (id : Int) (h : KA F w0 s n L bi I ad all W) (hg : GoodO n L) :
    Calls Try.prog 9 #[.pointer (some ⟨s, 0, none⟩), .int .i64 id] W fun e W' => e = .returned (.tuple #[.string ⟨(getB L id).toArray⟩, errV (getE L id)]) ∧ KA F w0 s n L bi I ad all W' := by
  have h0 := h
  obtain ⟨O, h1, _⟩ := h
  refine (F.get W s O n L id h1 hg).mono ?_
  rintro e W' ⟨rfl, hb⟩
  exact ⟨rfl, h0.below hb⟩
theorem KA.find (b : List UInt8) (h : KA F w0 s n L bi I ad all W) (hg : GoodO n L) (hb : b.length ≤ F.lim) :
    Calls Try.prog 10 #[.pointer (some ⟨s, 0, none⟩), .string ⟨b.toArray⟩] W fun e W' => e = .returned (.tuple #[.int .i64 (findO L b : Int), errV (findE L b)]) ∧ KA F w0 s n L bi I ad all W' := by
  have h0 := h
  obtain ⟨O, h1, _⟩ := h
  refine (F.find W s O n L b h1 hg hb).mono ?_
  rintro e W' ⟨rfl, hb⟩
  exact ⟨rfl, h0.below hb⟩
theorem KA.len (h : KA F w0 s n L bi I ad all W) (hg : GoodO n L) :
    Calls Try.prog 13 #[.pointer (some ⟨s, 0, none⟩)] W fun e W' => e = .returned (.int .i64 (L.length : Int)) ∧ KA F w0 s n L bi I ad all W' := by
  have h0 := h
  obtain ⟨O, h1, _⟩ := h
  refine (F.len W s O n L h1 hg).mono ?_
  rintro e W' ⟨rfl, hb⟩
  exact ⟨rfl, h0.below hb⟩
theorem KA.ids (h : KA F w0 s n L bi I ad all W) (hg : GoodO n L) :
    Calls Try.prog 11 #[.pointer (some ⟨s, 0, none⟩)] W fun e W' => ∃ a c, e = .returned (.slice a L.length c) ∧ KA F w0 s n L bi I a (idsO L) W' ∧ KA F w0 s n L bi I ad all W' := by
  have h0 := h
  have hlt := h.blt
  obtain ⟨O, h1, h2, h3, h4, h5, h6, h7, h8⟩ := h
  refine (F.ids W s O n L h1 hg).mono ?_
  rintro e W' ⟨a, c, rfl, hs, hb, hf⟩
  refine ⟨a, c, rfl, ⟨O, F.below h1 hb, bstep h2 hb, h3, h4, h5, (hb.block bi hlt).trans h6, hs, fun hne d hd => ?_⟩, h0.below hb⟩
  have h9 := hf (fun e => hne (by rw [e]; rfl)) d hd
  exact ⟨fun hO => by have := F.own h1 _ hO; omega, by omega⟩
end
end Go.Proofs.Ytpdieckoemfebae
