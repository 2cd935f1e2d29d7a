import Derived.Test.YtjlifccaoncfcaaDoorMA1x0
import Derived.Deep.DeepCutAuto
import Derived.Shelf.Slices.Turned
import Derived.Shelf.Slices.Reverse
import Derived.Shelf.Slices.Cells
import Derived.Test.YtjlifccaoncfcaaDoorProg
import Derived.Sort.Row

/- The program's dag: Bases. -/
namespace Go.Proofs.YtjlifccaoncfcaaDoor
open Go Go.RowKit Go.Proofs
set_option synthInstance.maxSize 1000

def askV (F : Nat) : Value := .func (.func 31) #[] #[.pointer (some ⟨F, 0, none⟩)]
/-- two askers, each in a box -/
structure TwoG (W : World) (l : List Cm) (x y b1 b2 : Nat) (BA BB : List Bool) : Prop where
  fa : ∃ F bi, W.cell? ⟨b1, 0, none⟩ = some (askV F) ∧ AskG W l x F bi BA
  fb : ∃ F bi, W.cell? ⟨b2, 0, none⟩ = some (askV F) ∧ AskG W l y F bi BB
theorem TwoG.below {W W' : World} {l : List Cm} {x y b1 b2 : Nat} {BA BB : List Bool} (h : TwoG W l x y b1 b2 BA BB) (hb : RowKit.Below W.heap.size W W') : TwoG W' l x y b1 b2 BA BB := by
  obtain ⟨F, bi, h1, h2⟩ := h.fa
  obtain ⟨G, gi, h3, h4⟩ := h.fb
  exact ⟨⟨F, bi, (hb.cell (World.block_lt_of_cell? W _ h1)).trans h1, h2.below hb⟩, ⟨G, gi, (hb.cell (World.block_lt_of_cell? W _ h3)).trans h3, h4.below hb⟩⟩
set_option maxHeartbeats 2000000 in
theorem dboth_any (W : World) (l : List Cm) (x y b1 b2 : Nat) (BA BB : List Bool) (k : Nat) (h : TwoG W l x y b1 b2 BA BB) (hk : k < l.length) :
    Calls Tryd.prog 22 #[.int .i64 (k : Int), .pointer (some ⟨b1, 0, none⟩), .pointer (some ⟨b2, 0, none⟩)] W fun e w' => e = .returned (.bool (onB BA k && onB BB k)) ∧ RowKit.Below W.heap.size W w' := by
  have H := hideO h
  obtain ⟨F, bi, c1, hA⟩ := h.fa
  have hcall := dask1_any W F bi BA k hA.at_ (by rw [hA.len]; exact hk)
  have hk' := hideO hk
  have eg := entersAsk
  unfold askV at c1
  have hans : Hid ((onB BA k && onB BB k) = (onB BA k && onB BB k)) := rfl
  obtain ⟨ans, ha⟩ : ∃ ans, (onB BA k && onB BB k) = ans := ⟨_, rfl⟩
  rw [ha]
  replace hans : Hid ((onB BA k && onB BB k) = ans) := ha
  clear h hA ha
  go_enter Tryd.func22, Tryd.ntmps22
  go_wp2_with fail
  go_at_fn 31
  refine hcall.mono ?_
  rintro e w1 ⟨rfl, hb1⟩
  dsimp only
  obtain ⟨G, gi, c2, hB⟩ := (H.out.below hb1).fb
  have hcall2 := dask1_any w1 G gi BB k hB.at_ (by rw [hB.len]; exact hk'.out)
  unfold askV at c2
  have hb1' := hideO hb1
  clear hcall c1 hb1 hB
  cases hq : onB BA k with
  | false =>
    have hf : Hid (ans = false) := by show _ = _; rw [← hans.out, hq]; rfl
    go_wp2_with fail
    go_ret
    exact ⟨by rw [hf.out]; rfl, hb1'.out⟩
  | true =>
    have hf : Hid (ans = onB BB k) := by show _ = _; rw [← hans.out, hq]; rfl
    clear hans
    generalize onB BB k = q at *
    go_wp2_with fail
    go_at_fn 31
    refine hcall2.mono ?_
    rintro e w2 ⟨rfl, hb2⟩
    dsimp only
    go_wp2_with fail
    go_ret
    exact ⟨by rw [hf.out]; rfl, bstep hb1'.out hb2⟩
theorem entersBoth : ∀ args w, (callFunc 22 args).run Tryd.prog w = .ok (.enter 22 args) w := enters_of Tryd.func22 (by kernel_rfl) rfl
theorem entersBase : ∀ args w, (callFunc 23 args).run Tryd.prog w = .ok (.enter 23 args) w := enters_of Tryd.func23 (by kernel_rfl) rfl
theorem entersChild : ∀ args w, (callFunc 25 args).run Tryd.prog w = .ok (.enter 25 args) w := enters_of Tryd.func25 (by kernel_rfl) rfl
theorem dboth_pred {W : World} {l : List Cm} {x y b1 b2 : Nat} {BA BB : List Bool} (h : TwoG W l x y b1 b2 BA BB) : PredI 22 #[.pointer (some ⟨b1, 0, none⟩), .pointer (some ⟨b2, 0, none⟩)] (fun z => 0 ≤ z ∧ z < l.length) (fun z => onB BA z.toNat && onB BB z.toNat) W := fun W' z hW hz => by
  obtain ⟨k, rfl⟩ : ∃ k : Nat, z = (k : Int) := ⟨z.toNat, by omega⟩
  exact dboth_any W' l x y b1 b2 BA BB k (h.below hW) (by omega)

set_option maxHeartbeats 2000000 in
set_option maxRecDepth 100000 in
theorem dchild_any (W : World) (ad : Option Addr) (ca : Nat) (l : List Cm) (bl bx c : Nat) (i : Int) (h : ComsOK W ad ca l) (hl : W.cell? ⟨bl, 0, none⟩ = some (.slice ad l.length ca)) (hx : W.cell? ⟨bx, 0, none⟩ = some (.int .i64 i)) (hc : c < l.length) :
    Calls Tryd.prog 25 #[.int .i64 (c : Int), .pointer (some ⟨bl, 0, none⟩), .pointer (some ⟨bx, 0, none⟩)] W fun e w' => e = .returned (.bool (decide (i ∈ parsOf l c))) ∧ RowKit.Below W.heap.size W w' := by
  obtain ⟨b, o, a, cc, rfl, d0, _, _, hsp⟩ := h.sl.at hc
  have hpl := h.pars _ (List.getElem_mem hc)
  have hpe : parsOf l c = l[c].1 := by unfold parsOf; rw [List.getElem?_eq_getElem hc]; rfl
  rw [hpe]
  have hcall := fun n => DIn_any (W.drewN n) a cc l[c].1 i hsp (by unfold maxLen at hpl; omega)
  have i0 : (0 : Int) ≤ (c : Int) := by omega
  have i1 : (c : Int) < (l.length : Int) := by omega
  clear hpe hpl hsp h
  generalize l[c].1.length = n0 at *
  generalize decide (i ∈ l[c].1) = q at *
  go_enter Tryd.func25, Tryd.ntmps25
  go_wp2_with fail
  go_quiet (first | (go_at_call 26; refine Calls.quiet_of_same (hcall _)))
  go_wp2_with fail
  go_ret
  exact ⟨rfl, ⟨rfl, rfl, rfl, Nat.le_refl _, fun _ _ => rfl⟩⟩

/-- what the second closure holds -/
structure BaseG (W : World) (ad : Option Addr) (ca : Nat) (l : List Cm) (x y bo bs bl : Nat) (BA BB : List Bool) (t : List Nat) : Prop where
  ok : ComsOK W ad ca l
  two : ∃ b1 b2, W.cell? ⟨bo, 0, none⟩ = some (.func (.func 22) #[] #[.pointer (some ⟨b1, 0, none⟩), .pointer (some ⟨b2, 0, none⟩)]) ∧ TwoG W l x y b1 b2 BA BB
  sh : ∃ a c, W.cell? ⟨bs, 0, none⟩ = some (.slice a t.length c) ∧ SlI W a (natI t)
  box : W.cell? ⟨bl, 0, none⟩ = some (.slice ad l.length ca)
  lt : ∀ z ∈ t, z < l.length
  len : t.length ≤ 60
theorem BaseG.below {W W' : World} {ad : Option Addr} {ca : Nat} {l : List Cm} {x y bo bs bl : Nat} {BA BB : List Bool} {t : List Nat} (h : BaseG W ad ca l x y bo bs bl BA BB t) (hb : RowKit.Below W.heap.size W W') : BaseG W' ad ca l x y bo bs bl BA BB t := by
  obtain ⟨b1, b2, h1, h2⟩ := h.two
  obtain ⟨a, c, h3, h4⟩ := h.sh
  exact ⟨h.ok.below hb, ⟨b1, b2, (hb.cell (World.block_lt_of_cell? W _ h1)).trans h1, h2.below hb⟩, ⟨a, c, (hb.cell (World.block_lt_of_cell? W _ h3)).trans h3, h4.below hb⟩, (hb.cell (World.block_lt_of_cell? W _ h.box)).trans h.box, h.lt, h.len⟩
def basB (l : List Cm) (BA BB : List Bool) (t : List Nat) (k : Nat) : Bool := (onB BA k && onB BB k) && !((natI t).any fun c => decide ((k : Int) ∈ parsOf l c.toNat))
set_option maxHeartbeats 4000000 in
set_option maxRecDepth 100000 in
theorem dbase_any (W : World) (ad : Option Addr) (ca : Nat) (l : List Cm) (x y bo bs bl : Nat) (BA BB : List Bool) (t : List Nat) (k : Nat) (h : BaseG W ad ca l x y bo bs bl BA BB t) (hk : k < l.length) :
    Calls Tryd.prog 23 #[.int .i64 (k : Int), .pointer (some ⟨bo, 0, none⟩), .pointer (some ⟨bs, 0, none⟩), .pointer (some ⟨bl, 0, none⟩)] W fun e w' => e = .returned (.bool (basB l BA BB t k)) ∧ RowKit.Below W.heap.size W w' := by
  have H := hideO (h.below (balloc W (.cells #[.int .i64 (k : Int)] 3)))
  obtain ⟨b1, b2, c1, hT⟩ := H.out.two
  have hcall := dboth_any _ l x y b1 b2 BA BB k hT hk
  have hfin : Hid (basB l BA BB t k = ((onB BA k && onB BB k) && !((natI t).any fun c => decide ((k : Int) ∈ parsOf l c.toNat)))) := rfl
  have eg := entersBoth
  clear h hT
  generalize basB l BA BB t k = ans at *
  generalize (onB BA k && onB BB k) = q at *
  go_enter Tryd.func23, Tryd.ntmps23
  go_wp2_with fail
  go_at_fn 22
  refine hcall.mono ?_
  rintro e w1 ⟨rfl, hb1⟩
  dsimp only
  have H1 := hideO (H.out.below hb1)
  have cx : w1.cell? ⟨W.heap.size, 0, none⟩ = some (.int .i64 (k : Int)) := by
    rw [(bcell hb1).1 _ _ (by simp)]
    go_simp
  have hbw := hideO (bstep (balloc W _) hb1)
  clear H hcall hb1 c1
  cases q with
  | false =>
    go_wp2_with fail
    go_ret
    exact ⟨by rw [hfin.out]; rfl, hbw.out⟩
  | true =>
    obtain ⟨a, c, c2, hS⟩ := H1.out.sh
    have hp : PredI 25 #[.pointer (some ⟨bl, 0, none⟩), .pointer (some ⟨W.heap.size, 0, none⟩)] (fun z => 0 ≤ z ∧ z < l.length) (fun z => decide ((k : Int) ∈ parsOf l z.toNat)) w1 := fun W' z hW hz => by
      obtain ⟨j, rfl⟩ : ∃ j : Nat, z = (j : Int) := ⟨z.toNat, by omega⟩
      exact dchild_any W' ad ca l bl W.heap.size j (k : Int) (H1.out.ok.below hW) ((hW.cell (World.block_lt_of_cell? w1 _ H1.out.box)).trans H1.out.box) ((hW.cell (World.block_lt_of_cell? w1 _ cx)).trans cx) (by omega)
    have hcon := DContains_any 25 #[.pointer (some ⟨bl, 0, none⟩), .pointer (some ⟨W.heap.size, 0, none⟩)] (fun z => 0 ≤ z ∧ z < l.length) (fun z => decide ((k : Int) ∈ parsOf l z.toNat)) w1 a c (natI t) entersChild hp (fun z hz => by
      unfold natI at hz
      obtain ⟨j, hj, rfl⟩ := List.mem_map.1 hz
      have := H1.out.lt j hj
      omega) hS (by rw [natI_len]; have := H1.out.len; omega)
    rw [natI_len] at hcon
    clear hp hS cx H1
    generalize ((natI t).any fun z => decide ((k : Int) ∈ parsOf l z.toNat)) = r at *
    go_wp2_with fail
    refine hcon.mono ?_
    rintro e w2 ⟨rfl, hb2⟩
    dsimp only
    go_wp2_with fail
    go_ret
    exact ⟨by rw [hfin.out]; simp, bstep hbw.out hb2⟩
end Go.Proofs.YtjlifccaoncfcaaDoor

/- The program's dag: Bases, whole. -/
namespace Go.Proofs.YtjlifccaoncfcaaDoor
open Go Go.RowKit Go.Proofs
set_option synthInstance.maxSize 1000

theorem up_last {l : List Cm} {c z : Nat} (h : Up l c z) (hne : c ≠ z) : ∃ c', Up l c c' ∧ (z : Int) ∈ parsOf l c' := by
  have := h (fun k => Up l c k ∧ (k = c ∨ ∃ c', Up l c c' ∧ (k : Int) ∈ parsOf l c')) ⟨Up.refl l c, Or.inl rfl⟩ fun a p ha hp => ⟨ha.1.step hp, Or.inr ⟨a, ha.1, hp⟩⟩
  rcases this.2 with e | h
  · exact absurd e.symm hne
  · exact h
theorem up_trans {l : List Cm} {a c z : Nat} (h : Up l a c) (h2 : Up l c z) : Up l a z := fun S h1 hs => h2 S (h S h1 hs) hs
theorem bas_base {l : List Cm} {x y : Nat} {BA BB : List Bool} (hG : GoodC l) (hA : BA.length = l.length) (uA : ∀ k, onB BA k = true ↔ Up l x k) (uB : ∀ k, onB BB k = true ↔ Up l y k) :
    baseP l x y (thoseN (fun z => basB l BA BB (thoseN (fun z => onB BA z.toNat && onB BB z.toNat) l.length) z.toNat) l.length) := by
  have ht : ∀ k, k ∈ thoseN (fun z => onB BA z.toNat && onB BB z.toNat) l.length ↔ Up l x k ∧ Up l y k := fun k => by
    rw [those_mem]
    simp only [Int.toNat_natCast, Bool.and_eq_true, uA, uB]
    constructor
    · exact fun h => h.2
    · intro h
      have := onB_lt ((uA k).2 h.1)
      exact ⟨by omega, h⟩
  refine ⟨those_rise _ _, fun z => ?_⟩
  rw [those_mem]
  simp only [Int.toNat_natCast]
  unfold basB
  rw [Bool.and_eq_true, Bool.and_eq_true, uA, uB, Bool.not_eq_true', List.any_eq_false]
  constructor
  · rintro ⟨_, ⟨h1, h2⟩, h3⟩
    refine ⟨h1, h2, fun c ha hb hne hu => ?_⟩
    obtain ⟨c', hc, hp⟩ := up_last hu hne
    have hm : (c' : Int) ∈ natI (thoseN (fun z => onB BA z.toNat && onB BB z.toNat) l.length) := List.mem_map.2 ⟨c', (ht c').2 ⟨up_trans ha hc, up_trans hb hc⟩, rfl⟩
    have := h3 _ hm
    simp at this
    exact this hp
  · rintro ⟨h1, h2, h3⟩
    have hz := onB_lt ((uA z).2 h1)
    refine ⟨by omega, ⟨h1, h2⟩, fun c hc => ?_⟩
    obtain ⟨j, hj, rfl⟩ := List.mem_map.1 hc
    obtain ⟨ha, hb⟩ := (ht j).1 hj
    simp only [Int.toNat_natCast, decide_eq_true_eq]
    intro hp
    have hjl := onB_lt ((uA j).2 ha)
    have := good_pars hG (c := j) (by omega) _ hp
    exact h3 j ha hb (by omega) ((Up.refl l j).step hp)

/-- nothing old has turned -/
def BL (w W : World) : Prop := RowKit.Below w.heap.size w W
theorem BL.refl (w : World) : BL w w := RowKit.Below.refl _ _
theorem BL.alloc {w W : World} (h : BL w W) (o : Obj) : BL w (W.alloc o) := bstep h (balloc _ _)
theorem BL.drew {w W : World} (h : BL w W) : BL w W.drew := h.trans ⟨rfl, rfl, rfl, Nat.le_refl _, fun _ _ => rfl⟩
theorem BL.set {w W : World} (h : BL w W) {b o : Nat} (hp : w.heap.size ≤ b) (v : Value) : BL w (W.setCell ⟨b, o, none⟩ v) := h.setCell (p := ⟨b, o, none⟩) hp v
theorem BL.step {w W W' : World} (h : BL w W) (hb : RowKit.Below W.heap.size W W') : BL w W' := bstep h hb
/-- a box that holds no function yet -/
def Z1 (W : World) (B : Nat) : Prop := W.cell? ⟨B, 0, none⟩ = some .nilFunc ∧ W.frozen? ⟨B, 0, none⟩ = false
theorem Z1.below {W W' : World} {B : Nat} (h : Z1 W B) (hb : RowKit.Below W.heap.size W W') : Z1 W' B := by
  obtain ⟨k, f⟩ := bcell hb
  have hB : B < W.heap.size := World.block_lt_of_cell? W _ h.1
  exact ⟨(k _ _ hB).trans h.1, (f _ _ hB).trans h.2⟩
theorem Z1.new (W : World) : Z1 (W.alloc (.cells #[.nilFunc] 50)) W.heap.size := ⟨by go_simp, by go_simp⟩
theorem Z1.newD (W : World) : Z1 ((W.alloc (.cells #[.nilFunc] 50)).drew) W.heap.size := Z1.new W
theorem Z1.new2 (W : World) : Z1 ((W.alloc (.cells #[.nilFunc] 50)).alloc (.cells #[.nilFunc] 50)) W.heap.size ∧ Z1 ((W.alloc (.cells #[.nilFunc] 50)).alloc (.cells #[.nilFunc] 50)) (W.heap.size + 1) := by
  have h := Z1.new (W.alloc (.cells #[.nilFunc] 50))
  rw [World.size_alloc] at h
  exact ⟨(Z1.new W).below (balloc _ _), h⟩
theorem Z1.newD2 (W : World) : Z1 (((W.alloc (.cells #[.nilFunc] 50)).alloc (.cells #[.nilFunc] 50)).drew) W.heap.size ∧ Z1 (((W.alloc (.cells #[.nilFunc] 50)).alloc (.cells #[.nilFunc] 50)).drew) (W.heap.size + 1) := Z1.new2 W
/-- a cell that holds a function is no mark and no box of marks -/
def FuncC (W : World) (b : Nat) : Prop := W.cell? ⟨b, 0, none⟩ = some .nilFunc ∨ ∃ f a c, W.cell? ⟨b, 0, none⟩ = some (.func f a c)
theorem FuncC.nil {W : World} {b : Nat} (h : W.cell? ⟨b, 0, none⟩ = some .nilFunc) : FuncC W b := Or.inl h
theorem AskG.set {W : World} {l : List Cm} {i F bi : Nat} {Bl : List Bool} (h : AskG W l i F bi Bl) {b : Nat} (hb : FuncC W b) (v : Value) : AskG (W.setCell ⟨b, 0, none⟩ v) l i F bi Bl := by
  have n1 : b ≠ F := fun e => by
    subst e
    rcases hb with h1 | ⟨_, _, _, h1⟩ <;> rw [h.at_.1] at h1 <;> cases h1
  have n2 : b ≠ bi := fun e => by
    subst e
    have hm := h.at_.2
    have : W.cell? ⟨b, 0, none⟩ = (Bl.map Value.bool)[0]? := by
      unfold MarkAt rowB at hm
      simp [World.cell?, hm]
    rw [List.getElem?_map] at this
    rcases hb with h1 | ⟨_, _, _, h1⟩ <;> rw [h1] at this <;> cases hB : Bl[0]? <;> rw [hB] at this <;> cases this
  refine ⟨⟨(World.cell?_setCell_other _ _ _ _ (by intro e; cases e; exact n1 rfl)).trans h.at_.1, ?_⟩, h.len, h.up⟩
  exact (heap_setCell_other W ⟨b, 0, none⟩ bi v (fun e => n2 e.symm)).trans h.at_.2
theorem AskG.alloc {W : World} {l : List Cm} {i F bi : Nat} {Bl : List Bool} (h : AskG W l i F bi Bl) (o : Obj) : AskG (W.alloc o) l i F bi Bl := h.below (balloc _ _)
theorem dbase_pred {W : World} {ad : Option Addr} {ca : Nat} {l : List Cm} {x y bo bs bl : Nat} {BA BB : List Bool} {t : List Nat} (h : BaseG W ad ca l x y bo bs bl BA BB t) : PredI 23 #[.pointer (some ⟨bo, 0, none⟩), .pointer (some ⟨bs, 0, none⟩), .pointer (some ⟨bl, 0, none⟩)] (fun z => 0 ≤ z ∧ z < l.length) (fun z => basB l BA BB t z.toNat) W := fun W' z hW hz => by
  obtain ⟨k, rfl⟩ : ∃ k : Nat, z = (k : Int) := ⟨z.toNat, by omega⟩
  exact dbase_any W' ad ca l x y bo bs bl BA BB t k (h.below hW) (by omega)
theorem oneTwoBox {w W : World} {T T2 : TypeId} {a0 b0 b1 : Value}
    (hb : RowKit.Below ((w.alloc (.cells #[a0] T)).alloc (.cells #[b0, b1] T2)).heap.size ((w.alloc (.cells #[a0] T)).alloc (.cells #[b0, b1] T2)) W) :
    W.cell? ⟨w.heap.size, 0, none⟩ = some a0 ∧ RowKit.Below w.heap.size w W := by
  obtain ⟨h, _⟩ := bcell hb
  refine ⟨?_, bstep (bstep (balloc _ _) (balloc _ _)) hb⟩
  rw [h] <;> first | go_simp | (simp <;> omega)

set_option maxHeartbeats 8000000 in
set_option maxRecDepth 100000 in
theorem DBases_any (w : World) (ad : Option Addr) (ca : Nat) (l : List Cm) (a b : Int) (h : ComsOK w ad ca l) :
    Calls Tryd.prog 13 #[.slice ad l.length ca, .int .i64 a, .int .i64 b] w fun e w' => ListAns w (twoE l a b) (baseP l a.toNat b.toNat) e w' := by
  have H := hideO h
  clear h
  by_cases hnn : twoE l a b = 0
  · obtain ⟨ha, hb⟩ := twoE_zero.1 hnn
    obtain ⟨hG, h0, h1⟩ := ancE_zero ha
    obtain ⟨_, h2, h3⟩ := ancE_zero hb
    obtain ⟨x, rfl⟩ := Int.eq_ofNat_of_zero_le h0
    obtain ⟨y, rfl⟩ := Int.eq_ofNat_of_zero_le h2
    have hx : x < l.length := by omega
    have hy : y < l.length := by omega
    have hz : l.length ≤ 60 := hG.1
    have HG := hideO hG
    have HN := hideO hnn
    rw [hnn]
    clear hG h0 h1 h2 h3 ha hb hnn
    go_enter Tryd.func13, Tryd.ntmps13
    go_wp2_with fail
    refine (DAll2_any _ ad ca l _ (x : Int) (y : Int) (H.out.below (bstep (balloc _ _) (balloc _ _))) (by go_simp) (by go_simp)).mono ?_
    rintro e w1 ⟨rfl, hb1⟩
    rw [HN.out, show errV 0 = Value.nilIface from rfl]
    dsimp only
    obtain ⟨c0, hbw⟩ := oneTwoBox hb1
    have H1 := hideO (H.out.below hbw)
    have hbw1 := hideO hbw
    clear hb1 hbw H
    generalize hB3 : w.heap.size = b3 at c0
    clear hB3
    have HX := fun W (hW : BL w1 W) => DAsker_any ad ca l x W (H1.out.below hW).sl HG.out hx
    have HY := fun W (hW : BL w1 W) => DAsker_any ad ca l y W (H1.out.below hW).sl HG.out hy
    have mk : Hid (∀ W, BL w1 W → BL w1 W ∧ W.cell? ⟨b3, 0, none⟩ = some (.slice ad l.length ca)) := fun W h => ⟨h, (RowKit.Below.cell h (World.block_lt_of_cell? w1 _ c0)).trans c0⟩
    have hr0 : BL w1 w1.drew := (BL.refl w1).drew
    go_wp2_with fail
    go_cut [9, 10] from 21 to 26 (fun u v W' => ∃ b1 b2 BA BB, u = .pointer (some ⟨b1, 0, none⟩) ∧ v = .pointer (some ⟨b2, 0, none⟩) ∧ Hid (TwoG W' l x y b1 b2 BA BB) ∧ Hid (BL w1 W'))
    case first =>
      go_region_held3 (fun W => BL w1 W ∧ W.cell? ⟨b3, 0, none⟩ = some (.slice ad l.length ca)) ((refine mk.out _ ?_; repeat (first | (with_reducible refine BL.set ?_ (by first | omega | (simp; omega)) _) | (with_reducible refine BL.alloc ?_ _) | (with_reducible refine BL.step ?_ hb3) | (with_reducible refine BL.step ?_ hb2) | (with_reducible exact hr0) | (with_reducible refine BL.drew ?_) | (with_reducible exact BL.refl _)))) (first
        | (go_at_call_of 20 (Value.int .i64 (x : Int)); refine (HX _ (by repeat (first | (with_reducible refine BL.alloc ?_ _) | (with_reducible exact hr0) | (with_reducible refine BL.drew ?_) | (with_reducible exact BL.refl _)))).mono ?_; rintro e w2 ⟨FA, gA, BA, rfl, hA, hb2⟩; have s2 := hb2.size; (try simp at s2); (first | (have qa : Z1 w2 w1.heap.size := (by with_reducible exact (Z1.newD2 w1).1.below hb2); have qb : Z1 w2 (w1.heap.size + 1) := (by with_reducible exact (Z1.newD2 w1).2.below hb2); obtain ⟨a0, a1⟩ := id qa; obtain ⟨b0, b1⟩ := id qb; have az := World.block_lt_of_cell? _ _ a0; have bz := World.block_lt_of_cell? _ _ b0) | (have qa : Z1 w2 w1.heap.size := (by with_reducible exact (Z1.newD w1).below hb2); obtain ⟨a0, a1⟩ := id qa; have az := World.block_lt_of_cell? _ _ a0) | skip))
        | (go_at_call_of 20 (Value.int .i64 (y : Int)); refine (HY _ (by repeat (first | (with_reducible refine BL.alloc ?_ _) | (with_reducible refine BL.step ?_ hb2) | (with_reducible exact hr0) | (with_reducible refine BL.drew ?_) | (with_reducible exact BL.refl _)))).mono ?_; rintro e w3 ⟨FB, gB, BB, rfl, hB, hb3⟩; have s3 := hb3.size; (try simp at s3); (first | (have qc : Z1 w3 w2.heap.size := (by with_reducible exact (Z1.new2 w2).1.below hb3); have qd : Z1 w3 (w2.heap.size + 1) := (by with_reducible exact (Z1.new2 w2).2.below hb3); obtain ⟨c0, c1⟩ := id qc; obtain ⟨d0, d1⟩ := id qd; have cz := World.block_lt_of_cell? _ _ c0; have dz := World.block_lt_of_cell? _ _ d0; have hA3 := hideO ((hA.alloc _).alloc _ |>.below hb3)) | (have qc : Z1 w3 w2.heap.size := (by with_reducible exact (Z1.new w2).below hb3); obtain ⟨c0, c1⟩ := id qc; have cz := World.block_lt_of_cell? _ _ c0; have hA3 := hideO ((hA.alloc _).below hb3)) | (have hA3 := hideO (hA.below hb3))); (first | (have qe : Z1 w3 w1.heap.size := (by with_reducible exact (qa.below (balloc _ _)).below hb3); obtain ⟨e0, e1⟩ := id qe; have ez := World.block_lt_of_cell? _ _ e0) | (have qe : Z1 w3 w1.heap.size := (by with_reducible exact qa.below hb3); have qf : Z1 w3 (w1.heap.size + 1) := (by with_reducible exact qb.below hb3); obtain ⟨e0, e1⟩ := id qe; obtain ⟨f0, f1⟩ := id qf; have ez := World.block_lt_of_cell? _ _ e0; have fz := World.block_lt_of_cell? _ _ f0) | (have qe : Z1 w3 w1.heap.size := (by with_reducible exact qa.below hb3); obtain ⟨e0, e1⟩ := id qe; have ez := World.block_lt_of_cell? _ _ e0) | skip)))
      all_goals go_wp2_with fail
      all_goals go_meet
      all_goals exact ⟨_, _, BA, BB, rfl, rfl, ⟨⟨FA, gA, (by unfold askV; go_simp), (by repeat (first | (with_reducible exact hA3.out) | (with_reducible exact hB) | (with_reducible refine AskG.alloc ?_ _) | (with_reducible refine AskG.set ?_ (FuncC.nil (by first | assumption | go_simp)) _)))⟩, ⟨FB, gB, (by unfold askV; go_simp), (by repeat (first | (with_reducible exact hA3.out) | (with_reducible exact hB) | (with_reducible refine AskG.alloc ?_ _) | (with_reducible refine AskG.set ?_ (FuncC.nil (by first | assumption | go_simp)) _)))⟩⟩, (by show BL _ _; repeat (first | (with_reducible refine BL.set ?_ (by first | omega | (simp; omega)) _) | (with_reducible refine BL.alloc ?_ _) | (with_reducible refine BL.step ?_ hb3) | (with_reducible refine BL.step ?_ hb2) | (with_reducible exact hr0) | (with_reducible refine BL.drew ?_) | (with_reducible exact BL.refl _)))⟩
    case rest =>
      obtain ⟨b1, b2, BA, BB, rfl, rfl, hT, hB⟩ := hcut
      obtain ⟨w4, rfl, hB4⟩ : ∃ W, W = _ ∧ Hid (BL w1 W) := ⟨_, rfl, hB⟩
      have hA : Hid (∃ hl : BA.length = l.length, (∀ k, onB BA k = true ↔ Up l x k) ∧ (∀ k, onB BB k = true ↔ Up l y k)) := by
        obtain ⟨_, _, _, hA⟩ := hT.out.fa
        obtain ⟨_, _, _, hB⟩ := hT.out.fb
        exact ⟨hA.len, hA.up, hB.up⟩
      have c3 : w4.cell? ⟨b3, 0, none⟩ = some (.slice ad l.length ca) := (RowKit.Below.cell hB4.out (World.block_lt_of_cell? w1 _ c0)).trans c0
      have hz3 : b3 < w4.heap.size := World.block_lt_of_cell? w4 _ c3
      have H4 := hideO (H1.out.below hB4.out)
      have hbw4 := hideO (bstep hbw1.out hB4.out)
      clear hB mk hr0 HX HY c0 H1 hbw1 hB4
      go_wp2_with fail
      refine (DThose_any 22 _ (fun z => onB BA z.toNat && onB BB z.toNat) _ ad l.length ca entersBoth (dboth_pred (hT.out.below (balloc _ _))) hz).mono ?_
      rintro e w6 ⟨a1, cc1, rfl, hnew⟩
      dsimp only
      obtain ⟨hS, hb6, _, _, _⟩ := hnew
      have hfb := hideO (bas_base HG.out hA.out.1 hA.out.2.1 hA.out.2.2)
      have hlt6 : Hid (∀ z ∈ thoseN (fun z => onB BA z.toNat && onB BB z.toNat) l.length, z < l.length) := fun z hz => ((those_mem _ _ _).1 hz).1
      have hlen6 : Hid ((thoseN (fun z => onB BA z.toNat && onB BB z.toNat) l.length).length ≤ 60) := Nat.le_trans (those_len _ _) hz
      have cbo : w6.cell? ⟨w4.heap.size, 0, none⟩ = some (.func (.func 22) #[] #[.pointer (some ⟨b1, 0, none⟩), .pointer (some ⟨b2, 0, none⟩)]) := by
        rw [(bcell hb6).1 _ _ (by simp)]
        go_simp
      have hb46 := bstep (balloc _ _) hb6
      have cb3 : w6.cell? ⟨b3, 0, none⟩ = some (.slice ad l.length ca) := (hb46.cell (World.block_lt_of_cell? w4 _ c3)).trans c3
      generalize thoseN (fun z => onB BA z.toNat && onB BB z.toNat) l.length = t at *
      have H7 : Hid (BaseG (w6.alloc (.cells #[.slice a1 t.length cc1] 30)) ad ca l x y w4.heap.size w6.heap.size b3 BA BB t) := by
        have hba := balloc w6 (.cells #[.slice a1 t.length cc1] 30)
        refine ⟨(H4.out.below hb46).below hba, ⟨b1, b2, (hba.cell (World.block_lt_of_cell? w6 _ cbo)).trans cbo, (hT.out.below hb46).below hba⟩, ⟨a1, cc1, cellNew1 _ _ _, hS.below hba⟩, (hba.cell (World.block_lt_of_cell? w6 _ cb3)).trans cb3, hlt6.out, hlen6.out⟩
      have hz6 : b3 < w6.heap.size := World.block_lt_of_cell? w6 _ cb3
      have hbw7 := hideO (bstep hbw4.out (bstep hb46 (balloc w6 (.cells #[.slice a1 t.length cc1] 30))))
      clear hS hb6 hb46 cbo c3 H4 hbw4 hT
      go_wp2_with fail
      refine (DThose_any 23 _ (fun z => basB l BA BB t z.toNat) _ ad l.length ca entersBase (dbase_pred H7.out) hz).mono ?_
      rintro e w8 ⟨a2, cc2, rfl, hnew⟩
      dsimp only
      have hfin := hideO (list_new (P := baseP l x y) hfb.out hbw7.out hnew (Nat.le_trans (those_len _ _) hz))
      clear hnew
      generalize (thoseN (fun z => basB l BA BB t z.toNat) l.length).length = q at *
      go_wp2_with fail
      exact bodyPost_ret (v := .tuple #[.slice a2 q cc2, .nilIface]) (by simp [results, Tryd.results13, go_sem]) rfl hfin.out
  · have hev := hideO (errV_some hnn)
    have hfin : Hid (∀ w', RowKit.Below w.heap.size w w' → ListAns w (twoE l a b) (baseP l a.toNat b.toNat) (.returned (.tuple #[.slice none 0 0, errV (twoE l a b)])) w') := fun w' hb => list_bad hnn hb
    clear hnn
    go_enter Tryd.func13, Tryd.ntmps13
    go_wp2_with fail
    refine (DAll2_any _ ad ca l _ a b (H.out.below (bstep (balloc _ _) (balloc _ _))) (by go_simp) (by go_simp)).mono ?_
    rintro e w1 ⟨rfl, hb1⟩
    have hf2 := hideO (hfin.out _ (bstep (bstep (balloc _ _) (balloc _ _)) hb1))
    rw [hev.out] at hf2 ⊢
    dsimp only
    go_wp2_with fail
    exact bodyPost_ret (v := .tuple #[.slice none 0 0, .iface 44 (.int .i64 (twoE l a b))]) (by simp [results, Tryd.results13, go_sem]) rfl hf2.out
end Go.Proofs.YtjlifccaoncfcaaDoor

/- The contracts of the library functions that this program calls, laid at its numbers by program. -/
namespace Go.Proofs
open Go.Shelf
def Tryd.lays108_ren : Go.Shelf.Ren := ⟨fun | 108 => 33 | n => n, fun | 28 => 30 | 3 => 3 | 0 => 0 | 4 => 4 | n => n, fun | n => n⟩
theorem Tryd.lays108 : Go.Proofs.Lays.n108 Tryd.prog Tryd.lays108_ren := {
  mixed := by kernel_rfl
  f108 := Tryd.func33.trans (congrArg some (by kernel_rfl))
  t0 := Tryd.underlying0
  a0 := Tryd.isAgg0
  z0 := Tryd.sizeOf0
  v0 := Tryd.zeroValue0
  t3 := Tryd.underlying3
  a3 := Tryd.isAgg3
  z3 := Tryd.sizeOf3
  v3 := Tryd.zeroValue3
  t4 := Tryd.underlying4
  a4 := Tryd.isAgg4
  z4 := Tryd.sizeOf4
  v4 := Tryd.zeroValue4
  t28 := Tryd.underlying30
  a28 := Tryd.isAgg30
  z28 := Tryd.sizeOf30
  v28 := Tryd.zeroValue30 }
open Go.Lib in
theorem Tryd.slices_Index_int (b off n c : Nat) (zs : List Int) (x : Int) (w : World) (hz : n ≤ zs.length) (hbig : n ≤ 9223372036854775807) (hc : ∀ j, j < zs.length → w.cell? ⟨b, off + j, none⟩ = some (.int .i64 (zs.getD j 0))) :
    Calls Tryd.prog 33 #[.slice (some ⟨b, off, none⟩) n c, .int .i64 x] w fun e w' => e = .returned (.int .i64 (Lib.idxOf (zs.take n) x)) ∧ w' = w := Any.slices_Index_int Tryd.lays108 b off n c zs x w hz hbig hc
open Go.Lib in
theorem Tryd.slices_Index_int_empty (a : Option Addr) (c : Nat) (x : Int) (w : World) :
    Calls Tryd.prog 33 #[.slice a 0 c, .int .i64 x] w fun e w' => e = .returned (.int .i64 (Lib.idxOf [] x)) ∧ w' = w := Any.slices_Index_int_empty Tryd.lays108 a c x w
def Tryd.lays107_ren : Go.Shelf.Ren := ⟨fun | 107 => 26 | 108 => 33 | n => n, fun | 28 => 30 | 3 => 3 | 4 => 4 | 0 => 0 | n => n, fun | n => n⟩
theorem Tryd.lays107 : Go.Proofs.Lays.n107 Tryd.prog Tryd.lays107_ren := {
  mixed := by kernel_rfl
  f107 := Tryd.func26.trans (congrArg some (by kernel_rfl))
  f108 := Tryd.func33.trans (congrArg some (by kernel_rfl))
  t0 := Tryd.underlying0
  a0 := Tryd.isAgg0
  z0 := Tryd.sizeOf0
  v0 := Tryd.zeroValue0
  t3 := Tryd.underlying3
  a3 := Tryd.isAgg3
  z3 := Tryd.sizeOf3
  v3 := Tryd.zeroValue3
  t4 := Tryd.underlying4
  a4 := Tryd.isAgg4
  z4 := Tryd.sizeOf4
  v4 := Tryd.zeroValue4
  t28 := Tryd.underlying30
  a28 := Tryd.isAgg30
  z28 := Tryd.sizeOf30
  v28 := Tryd.zeroValue30 }
open Go.Lib in
theorem Tryd.slices_Contains_int (b off n c : Nat) (zs : List Int) (x : Int) (w : World) (hz : n ≤ zs.length) (hbig : n ≤ 9223372036854775807) (hc : ∀ j, j < zs.length → w.cell? ⟨b, off + j, none⟩ = some (.int .i64 (zs.getD j 0))) :
    Calls Tryd.prog 26 #[.slice (some ⟨b, off, none⟩) n c, .int .i64 x] w fun e w' => e = .returned (.bool ((zs.take n).contains x)) ∧ w' = w := Any.slices_Contains_int Tryd.lays107 b off n c zs x w hz hbig hc
open Go.Lib in
theorem Tryd.slices_Contains_int_empty (a : Option Addr) (c : Nat) (x : Int) (w : World) :
    Calls Tryd.prog 26 #[.slice a 0 c, .int .i64 x] w fun e w' => e = .returned (.bool false) ∧ w' = w := Any.slices_Contains_int_empty Tryd.lays107 a c x w
def Tryd.lays112_ren : Go.Shelf.Ren := ⟨fun | 112 => 21 | n => n, fun | 28 => 30 | 3 => 3 | 4 => 4 | 0 => 0 | n => n, fun | n => n⟩
theorem Tryd.lays112 : Go.Proofs.Lays.n112 Tryd.prog Tryd.lays112_ren := {
  mixed := by kernel_rfl
  f112 := Tryd.func21.trans (congrArg some (by kernel_rfl))
  t0 := Tryd.underlying0
  a0 := Tryd.isAgg0
  z0 := Tryd.sizeOf0
  v0 := Tryd.zeroValue0
  t3 := Tryd.underlying3
  a3 := Tryd.isAgg3
  z3 := Tryd.sizeOf3
  v3 := Tryd.zeroValue3
  t4 := Tryd.underlying4
  a4 := Tryd.isAgg4
  z4 := Tryd.sizeOf4
  v4 := Tryd.zeroValue4
  t28 := Tryd.underlying30
  a28 := Tryd.isAgg30
  z28 := Tryd.sizeOf30
  v28 := Tryd.zeroValue30 }
open Go.RowKit Go.Lib Go.Sort in
theorem Tryd.slices_Reverse_int_arr (blk off cap : Nat) (d : Array Int) (w : World) (hH : Holds encI w blk off d) (hsz : d.size ≤ 9223372036854775807) :
    Calls Tryd.prog 21 #[.slice (some ⟨blk, off, none⟩) d.size cap] w fun e w' => e = .returned (.tuple #[]) ∧ ∃ n, w' = putRow encI (Sort.ahead w n) blk off d.reverse := Any.slices_Reverse_int_arr Tryd.lays112 blk off cap d w hH hsz
open Go.RowKit Go.Lib Go.Sort in
theorem Tryd.slices_Reverse_int (blk off cap : Nat) (zs : List Int) (w : World) (hH : Holds (Value.int .i64) w blk off zs.toArray) (hsz : zs.length ≤ 9223372036854775807) :
    Calls Tryd.prog 21 #[.slice (some ⟨blk, off, none⟩) zs.length cap] w fun e w' => e = .returned (.tuple #[]) ∧ ∃ n, w' = putRow (Value.int .i64) (Sort.ahead w n) blk off zs.reverse.toArray := Any.slices_Reverse_int Tryd.lays112 blk off cap zs w hH hsz
open Go.RowKit Go.Lib Go.Sort in
theorem Tryd.slices_Reverse_int_empty (a : Option Addr) (cap : Nat) (w : World) :
    Calls Tryd.prog 21 #[.slice a 0 cap] w fun e w' => e = .returned (.tuple #[]) ∧ w' = w := Any.slices_Reverse_int_empty Tryd.lays112 a cap w
open Go.RowKit Go.Lib Go.Sort in
theorem Tryd.slices_Reverse_int_cells (b off n c : Nat) (zs : List Int) (w : World) (hz : n ≤ zs.length) (hbig : n ≤ 9223372036854775807) (hc : ∀ j, j < zs.length → w.cell? ⟨b, off + j, none⟩ = some (.int .i64 (zs.getD j 0))) (hf : ∀ j, j < n → w.frozen? ⟨b, off + j, none⟩ = false) :
    Calls Tryd.prog 21 #[.slice (some ⟨b, off, none⟩) n c] w fun e w' => e = .returned (.tuple #[]) ∧ ∃ q, w' = (w.drewN q).setCells b off ((zs.take n).reverse.map (Value.int .i64)) := Any.slices_Reverse_int_cells Tryd.lays112 b off n c zs w hz hbig hc hf
end Go.Proofs

/- The program's dag: Log. -/
namespace Go.Proofs.YtjlifccaoncfcaaDoor
open Go Go.RowKit Go.Proofs Go.Sort
set_option synthInstance.maxSize 1000

theorem below_put {w w1 : World} {b o n B : Nat} {d : Array Int} (h : RowKit.Below B w w1) (hB : B ≤ b) : RowKit.Below B w (putRow (Value.int .i64) (Sort.ahead w1 n) b o d) := by
  refine h.trans ⟨rfl, rfl, rfl, ?_, fun k hk => ?_⟩
  · simp [putRow, mapBlock, Sort.ahead]
  · simp only [putRow, mapBlock, Sort.ahead, Array.getElem?_modify]
    rw [if_neg (by omega)]
theorem sl_put {w1 : World} {b o n : Nat} {l m : List Int} (h : Holds (Value.int .i64) w1 b o l.toArray) (hm : m.length = l.length) : SlI (putRow (Value.int .i64) (Sort.ahead w1 n) b o m.toArray) (some ⟨b, o, none⟩) m := by
  intro _
  refine ⟨b, o, rfl, fun j hj => ?_⟩
  have := (holds_putRow (Value.int .i64) (Sort.ahead w1 n) b o l.toArray m.toArray (holds_ahead _ w1 n b o _ h) (by simp [hm]) j (by simpa using hj)).1
  rw [this]
  simp [hj]
theorem natI_rev (m : List Nat) : (natI m).reverse = natI m.reverse := by unfold natI; rw [List.map_reverse]

set_option maxHeartbeats 4000000 in
set_option maxRecDepth 100000 in
theorem DLog_any (w : World) (ad : Option Addr) (ca : Nat) (l : List Cm) (i : Int) (h : ComsOK w ad ca l) :
    Calls Tryd.prog 9 #[.slice ad l.length ca, .int .i64 i] w fun e w' => ListAns w (ancE l i) (logP l i.toNat) e w' := by
  have hc := DAncU_any w ad ca l i h
  clear h
  generalize ancE l i = f at *
  go_enter Tryd.func9, Tryd.ntmps9
  go_wp2_with fail
  refine hc.mono ?_
  rintro e w1 ⟨⟨a, c, m, rfl, hP, hN, hS, hb, hz, hnew, hcap⟩, hU⟩
  dsimp only
  have HP : Hid (f = 0 → logP l i.toNat m.reverse) := fun e => by
    have := hP e
    unfold logP
    rw [List.reverse_reverse]
    exact this
  have HN : Hid (f ≠ 0 → m.reverse = []) := fun e => by rw [hN e]; rfl
  clear hc hP hN
  cases m with
  | nil =>
    have hr := Tryd.slices_Reverse_int_empty a c w1
    have hfin : Hid (ListAns w f (logP l i.toNat) (.returned (.tuple #[.slice a 0 c, errV f])) w1) := ⟨a, c, [], rfl, HP.out, fun _ => rfl, fun h => absurd rfl h, hb, by simp, fun h => absurd rfl h, by simp⟩
    clear hS hb hz hnew hcap hU HP HN
    go_wp2_with fail
    refine hr.mono ?_
    rintro e w2 ⟨rfl, rfl⟩
    dsimp only
    go_wp2_with fail
    exact bodyPost_ret (v := .tuple #[.slice a 0 c, errV f]) (by simp [results, Tryd.results9, go_sem]) rfl hfin.out
  | cons z r =>
    obtain ⟨b, o, rfl, hcells⟩ := hS (by simp [natI])
    have hH : Holds (Value.int .i64) w1 b o (natI (z :: r)).toArray := fun j hj => by
      have hj' : j < (natI (z :: r)).length := by simpa using hj
      refine ⟨?_, hU ⟨b, o, none⟩ _ _ _ rfl j⟩
      rw [hcells j hj']
      simp [hj']
    have hr := Tryd.slices_Reverse_int b o c (natI (z :: r)) w1 hH (by rw [natI_len]; omega)
    rw [natI_len] at hr
    have hbb := hnew (by simp) _ rfl
    have hfin : Hid (∀ n, ListAns w f (logP l i.toNat) (.returned (.tuple #[.slice (some ⟨b, o, none⟩) (z :: r).length c, errV f])) (putRow (Value.int .i64) (Sort.ahead w1 n) b o (natI (z :: r)).reverse.toArray)) := fun n => by
      refine ⟨some ⟨b, o, none⟩, c, (z :: r).reverse, by rw [List.length_reverse], HP.out, HN.out, ?_, below_put hb hbb, by rw [List.length_reverse]; exact hz, fun _ d hd => by cases hd; exact hbb, by rw [List.length_reverse]; exact hcap⟩
      rw [natI_rev]
      exact sl_put hH (by rw [natI_len, natI_len, List.length_reverse])
    clear hb hz hnew hcap hU HP HN hH hbb hcells hS
    generalize (z :: r).length = q at *
    generalize (natI (z :: r)).reverse.toArray = t at *
    go_wp2_with fail
    refine hr.mono ?_
    rintro e w2 ⟨rfl, n, rfl⟩
    dsimp only
    have hf2 := hideO (hfin.out n)
    clear hr hfin
    generalize putRow (Value.int .i64) (Sort.ahead w1 n) b o t = w3 at *
    go_wp2_with fail
    exact bodyPost_ret (v := .tuple #[.slice (some ⟨b, o, none⟩) q c, errV f]) (by simp [results, Tryd.results9, go_sem]) rfl hf2.out
end Go.Proofs.YtjlifccaoncfcaaDoor

/- The program's dag keeps the face. -/
namespace Go.Proofs.YtjlifccaoncfcaaDoor
open Go Go.RowKit Go.Proofs

theorem theDag : DFace where
  check := DCheck_any
  anc := DAnc_any
  log := DLog_any
  bases := DBases_any
  is := DIs_any
end Go.Proofs.YtjlifccaoncfcaaDoor
