/- slices.AppendSeq and slices.Collect at terms, against whatever iterator. -/
import Derived.Test.YtkeholipklfnbabGreatDoorTermIter
namespace Go.Proofs.YtkeholipklfnbabGreatDoor
open Go Go.RowKit Go.Proofs Go.Maps Go.Sort Go.Shelf
attribute [local go_sem] Oper.semAt_some

theorem infoTm : (Tryz.prog.info? 24).map (fun i => (i.zero, i.size, i.bytes)) = some (some (.agg #[.int .i64 0, .string ⟨#[]⟩, .string ⟨#[]⟩]), 3, 40) := by kernel_rfl

theorem cell_three_new (w : World) (a b c : Value) (t : TypeId) : ∀ j u, [a, b, c][j]? = some u → (w.alloc (.cells #[a, b, c] t)).cell? ((⟨w.heap.size, 0, none⟩ : Addr).add j) = some u := by
  have h : (w.alloc (.cells #[a, b, c] t)).heap[w.heap.size]? = some (.cells #[a, b, c] t (0, 0)) := World.alloc_heap_new w _
  generalize w.alloc (.cells #[a, b, c] t) = W' at h ⊢
  generalize w.heap.size = B at h ⊢
  intro j u hj
  match j, hj with
  | 0, hj => simpa [Addr.add, World.cell?, h] using hj
  | 1, hj => simpa [Addr.add, World.cell?, h] using hj
  | 2, hj => simpa [Addr.add, World.cell?, h] using hj

/-- a block that holds a term -/
def BoxTm (W : World) (B : Nat) (x : Tm) : Prop := W.heap[B]? = some (.cells #[.int .i64 x.1, .string ⟨x.2.1.toArray⟩, .string ⟨x.2.2.toArray⟩] 24 (0, 0))

theorem BoxTm.cells {W : World} {B : Nat} {x : Tm} (h : BoxTm W B x) : W.cell? ⟨B, 0, none⟩ = some (.int .i64 x.1) ∧ W.cell? ⟨B, 1, none⟩ = some (.string ⟨x.2.1.toArray⟩) ∧ W.cell? ⟨B, 2, none⟩ = some (.string ⟨x.2.2.toArray⟩) := by
  refine ⟨?_, ?_, ?_⟩ <;> simp [World.cell?, show W.heap[B]? = _ from h]

def SeqI (w : World) (pre : List Tm) (W : World) : Prop :=
  (∃ v, Boxed W w.heap.size 37 v ∧ W.ownsRow w.heap.size 24 3 v pre.length (pre.flatMap encTm) ∧ (v = .slice none 0 0 ↔ pre = [])) ∧ Below w.heap.size w W

theorem seqI_own (w : World) (B : Nat) (hB : w.heap.size ≤ B) : OwnFrom B (SeqI w) :=
  OwnFrom.and (Own.from (holdsRow_own w.heap.size w.heap.size 37 24 3 (fun pre : List Tm => pre.length) (fun pre => pre.flatMap encTm) (fun pre v => (v = .slice none 0 0 ↔ pre = []))) B) (ownFrom_below (Nat.le_refl _) hB)

set_option maxRecDepth 100000 in
set_option maxHeartbeats 4000000 in
theorem appendSeqTm_in (F : Fence) (n : Nat) (h67 : F.fn 67) (hro : F.round = none) (hn : 3 ≤ n) (g : Nat) (lb : Array Value) (hFg : F.fn g) (eg : ∀ args w, (callFunc g args).run Tryz.prog w = .ok (.enter g args) w)
    (S Sp : List Tm → Prop) (N : Nat) (hN : N ≤ maxLen) (hNb : N * 40 ≤ 140737488355328) (w : World) (hseq : SeqStops F (n - 1) Tryz.prog g lb valTm S Sp N w) :
    CallsIn F n Tryz.prog 67 #[.slice none 0 0, .func (.func g) #[] lb] w fun e w' => ∃ (v : Value) (ss : List Tm), e = .returned v ∧ S ss ∧ w'.ownsRow w.heap.size 24 3 v ss.length (ss.flatMap encTm) ∧ (v = .slice none 0 0 ↔ ss = []) ∧ Below w.heap.size w w' := by
  have h1 : 1 ≤ n := by omega
  have h1' : 1 ≤ n - 1 - 1 := by omega
  obtain ⟨i0, hi, hz0, hz1, hz2⟩ := info_parts infoTm
  refine callsIn_of_wp_marks Tryz.func67 rfl h67 ?_ hro
  simp only [Tryz.ntmps67, List.size_toArray, List.length_cons, List.length_nil, Nat.reduceAdd, Nat.reduceSub, Array.replicate_succ, Array.replicate_zero, List.push_toArray, List.append_toArray, List.nil_append, List.cons_append]
  gi_wp2
  have hb0 : Below w.heap.size w (w.alloc (.cells #[.slice none 0 0] 37)) := (Below.refl _ w).alloc (Nat.le_refl _) _
  refine wpIn_rangeFunc_ownH hro h1 (gf := g) (lb := lb) rfl hFg eg (encs := fun x => #[valTm x]) (Kp := KeepsWalks) (S := S) (Sp := Sp) (N := N) (w0 := w) hseq (fun a b => a.trans b) (fun W l o o' hl ho hc hw => KeepsWalks.putObj _ ho hw) hb0 (fun _ => rfl)
    (SeqI w) (fun _ _ _ => False) (seqI_own w _ (by simp)) (fun _ _ _ _ _ hs _ _ => hs)
    ⟨⟨_, Boxed.new w _ _, ⟨rfl, .inl ⟨rfl, rfl⟩⟩, by simp⟩, hb0⟩
    (fun x a' W => ∃ Bx, BoxTm W Bx x ∧ a' = { tmps := #[.slice none 0 0, .func (.func g) #[] lb, .pointer (some ⟨w.heap.size, 0, none⟩), undef, .slice none 0 0, .pointer (some ⟨Bx, 0, none⟩), .func (.func g) #[] lb, valTm x, undef, undef, undef, undef, undef], defers := [] })
    ?hAx ?assign ?body ?done ?stop
  case hAx =>
    rintro x a' _ X Y row ⟨Bx, hb, e⟩ hg hr
    refine ⟨Bx, (hg.block Bx (Array.getElem?_eq_some_iff.1 hb).1 (fun e' => ?_)).trans hb, e⟩
    obtain ⟨_, o, ho, hc⟩ := hr Bx e'.symm
    rw [show X.heap[Bx]? = _ from hb] at ho; cases ho; cases hc
  case assign =>
    rintro l pre x W K hi hK
    unfold valTm
    gi_wp2
    exact hK _ _ ((KeepsOthers.alloc _ _).from _) (KeepsWalks.alloc _ _) ((seqI_own w w.heap.size (Nat.le_refl _)).alloc _ hi) ⟨W.heap.size, World.alloc_heap_new W _, rfl⟩
  case body =>
    rintro l pre x a' W hl ⟨r, hr⟩ ⟨⟨v, hv, hrow, hnil⟩, hB⟩ ⟨Bx, hbx, rfl⟩ hlt
    have hc := hv.cell
    have hf := hv.frozen
    obtain ⟨c0, c1, c2⟩ := hbx.cells
    unfold valTm
    gi_wp2_with (first
      | (gi_at_builtin; refine wpListIn_append_own _ rfl _ _ 37 rfl w.heap.size 24 i0 (.agg #[.int .i64 0, .string ⟨#[]⟩, .string ⟨#[]⟩]) 3 40 Tryz.underlying37 hi hz0 hz1 hz2 rfl (by decide) _ _ _ rfl (hrow.alloc _) ⟨W.heap.size, 0, none⟩ 1 1 [.int .i64 x.1, .string ⟨x.2.1.toArray⟩, .string ⟨x.2.2.toArray⟩] rfl rfl (cell_three_new _ _ _ _ _) (by simp [Value.oneCell']) (by omega) (by omega) (by have := hB.size; simp; omega) ?_
         intro v' w1 hown' hgrow hvn
         obtain ⟨g', cap', rfl⟩ := ownsRow_succ hown'
         obtain ⟨hv1, hv2, hr2, hk2, hb2⟩ := hv.appended (by decide) hrow hB.size (Nat.le_refl _) hown' hgrow
         have hc1 := hv1.cell
         have hf1 := hv1.frozen)
      | gi_in)
    exact ⟨hk2.from _, hk2.walks, ⟨_, hv2, by simpa [encTm] using hr2, by simp⟩, hB.trans hb2⟩
  case done =>
    rintro D ss W hD hS ⟨⟨v, hv, hrow, hnil⟩, hB⟩ hK
    have hc := hv.cell
    gi_wp2
    refine ⟨by simp, .inl ⟨_, _, rfl, run_takeDeferred hK, ?_⟩⟩
    have hD' : w.heap.size ≤ D := by simp at hD; omega
    exact ⟨_, results_tmp rfl _ _ _, v, ss, rfl, hS, ownsRow_putObj hrow _ hK rfl, hnil, hB.grown (grownBy_putObj' _ _ _) hB.size (fun k e => by cases e; exact hD')⟩
  case stop =>
    rintro D c pre W _ _ h _
    exact h.elim

theorem entersSeq : ∀ args w, (callFunc 67 args).run Tryz.prog w = .ok (.enter 67 args) w := enters_of Tryz.func67 (by kernel_rfl) rfl

end Go.Proofs.YtkeholipklfnbabGreatDoor
