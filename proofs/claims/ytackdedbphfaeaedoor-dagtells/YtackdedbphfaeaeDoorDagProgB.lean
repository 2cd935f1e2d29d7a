/- The program's dag: Bases. -/
import Derived.Test.YtackdedbphfaeaeDoorDagProgA
import Derived.Deep.DeepCutAuto
namespace Go.Proofs.YtackdedbphfaeaeDoor
open Go Go.RowKit Go.Proofs
set_option synthInstance.maxSize 1000

def askV (F : Nat) : Value := .func (.func 56) #[] #[.pointer (some ⟨F, 0, none⟩)]
/-- two askers, each in a box -/
structure TwoG (W : World) (l : List Cm) (x y b1 b2 : Nat) (BA BB : List Bool) : Prop where
  fa : ∃ F bi, W.cell? ⟨b1, 0, none⟩ = some (askV F) ∧ AskG W l x F bi BA
  fb : ∃ F bi, W.cell? ⟨b2, 0, none⟩ = some (askV F) ∧ AskG W l y F bi BB
theorem TwoG.below {W W' : World} {l : List Cm} {x y b1 b2 : Nat} {BA BB : List Bool} (h : TwoG W l x y b1 b2 BA BB) (hb : RowKit.Below W.heap.size W W') : TwoG W' l x y b1 b2 BA BB := by
  obtain ⟨F, bi, h1, h2⟩ := h.fa
  obtain ⟨G, gi, h3, h4⟩ := h.fb
  exact ⟨⟨F, bi, (hb.cell (World.block_lt_of_cell? W _ h1)).trans h1, h2.below hb⟩, ⟨G, gi, (hb.cell (World.block_lt_of_cell? W _ h3)).trans h3, h4.below hb⟩⟩
set_option maxHeartbeats 2000000 in
theorem dboth_any (W : World) (l : List Cm) (x y b1 b2 : Nat) (BA BB : List Bool) (k : Nat) (h : TwoG W l x y b1 b2 BA BB) (hk : k < l.length) :
    Calls Tryd.prog 43 #[.int .i64 (k : Int), .pointer (some ⟨b1, 0, none⟩), .pointer (some ⟨b2, 0, none⟩)] W fun e w' => e = .returned (.bool (onB BA k && onB BB k)) ∧ RowKit.Below W.heap.size W w' := by
  have H := hideO h
  obtain ⟨F, bi, c1, hA⟩ := h.fa
  have hcall := dask1_any W F bi BA k hA.at_ (by rw [hA.len]; exact hk)
  have hk' := hideO hk
  have eg := entersAsk
  unfold askV at c1
  have hans : Hid ((onB BA k && onB BB k) = (onB BA k && onB BB k)) := rfl
  obtain ⟨ans, ha⟩ : ∃ ans, (onB BA k && onB BB k) = ans := ⟨_, rfl⟩
  rw [ha]
  replace hans : Hid ((onB BA k && onB BB k) = ans) := ha
  clear h hA ha
  go_enter Tryd.func43, Tryd.ntmps43
  go_wp2_with fail
  go_at_fn 56
  refine hcall.mono ?_
  rintro e w1 ⟨rfl, hb1⟩
  dsimp only
  obtain ⟨G, gi, c2, hB⟩ := (H.out.below hb1).fb
  have hcall2 := dask1_any w1 G gi BB k hB.at_ (by rw [hB.len]; exact hk'.out)
  unfold askV at c2
  have hb1' := hideO hb1
  clear hcall c1 hb1 hB
  cases hq : onB BA k with
  | false =>
    have hf : Hid (ans = false) := by show _ = _; rw [← hans.out, hq]; rfl
    go_wp2_with fail
    go_ret
    exact ⟨by rw [hf.out]; rfl, hb1'.out⟩
  | true =>
    have hf : Hid (ans = onB BB k) := by show _ = _; rw [← hans.out, hq]; rfl
    clear hans
    generalize onB BB k = q at *
    go_wp2_with fail
    go_at_fn 56
    refine hcall2.mono ?_
    rintro e w2 ⟨rfl, hb2⟩
    dsimp only
    go_wp2_with fail
    go_ret
    exact ⟨by rw [hf.out]; rfl, bstep hb1'.out hb2⟩
theorem entersBoth : ∀ args w, (callFunc 43 args).run Tryd.prog w = .ok (.enter 43 args) w := enters_of Tryd.func43 (by kernel_rfl) rfl
theorem entersBase : ∀ args w, (callFunc 44 args).run Tryd.prog w = .ok (.enter 44 args) w := enters_of Tryd.func44 (by kernel_rfl) rfl
theorem entersChild : ∀ args w, (callFunc 45 args).run Tryd.prog w = .ok (.enter 45 args) w := enters_of Tryd.func45 (by kernel_rfl) rfl
theorem dboth_pred {W : World} {l : List Cm} {x y b1 b2 : Nat} {BA BB : List Bool} (h : TwoG W l x y b1 b2 BA BB) : PredI 43 #[.pointer (some ⟨b1, 0, none⟩), .pointer (some ⟨b2, 0, none⟩)] (fun z => 0 ≤ z ∧ z < l.length) (fun z => onB BA z.toNat && onB BB z.toNat) W := fun W' z hW hz => by
  obtain ⟨k, rfl⟩ : ∃ k : Nat, z = (k : Int) := ⟨z.toNat, by omega⟩
  exact dboth_any W' l x y b1 b2 BA BB k (h.below hW) (by omega)

set_option maxHeartbeats 2000000 in
set_option maxRecDepth 100000 in
theorem dchild_any (W : World) (ad : Option Addr) (ca : Nat) (l : List Cm) (bl bx c : Nat) (i : Int) (h : ComsOK W ad ca l) (hl : W.cell? ⟨bl, 0, none⟩ = some (.slice ad l.length ca)) (hx : W.cell? ⟨bx, 0, none⟩ = some (.int .i64 i)) (hc : c < l.length) :
    Calls Tryd.prog 45 #[.int .i64 (c : Int), .pointer (some ⟨bl, 0, none⟩), .pointer (some ⟨bx, 0, none⟩)] W fun e w' => e = .returned (.bool (decide (i ∈ parsOf l c))) ∧ RowKit.Below W.heap.size W w' := by
  obtain ⟨b, o, a, cc, rfl, d0, _, _, hsp⟩ := h.sl.at hc
  have hpl := h.pars _ (List.getElem_mem hc)
  have hpe : parsOf l c = l[c].1 := by unfold parsOf; rw [List.getElem?_eq_getElem hc]; rfl
  rw [hpe]
  have hcall := fun n => DIn_any (W.drewN n) a cc l[c].1 i hsp (by unfold maxLen at hpl; omega)
  have i0 : (0 : Int) ≤ (c : Int) := by omega
  have i1 : (c : Int) < (l.length : Int) := by omega
  clear hpe hpl hsp h
  generalize l[c].1.length = n0 at *
  generalize decide (i ∈ l[c].1) = q at *
  go_enter Tryd.func45, Tryd.ntmps45
  go_wp2_with fail
  go_quiet (first | (go_at_call 46; refine Calls.quiet_of_same (hcall _)))
  go_wp2_with fail
  go_ret
  exact ⟨rfl, ⟨rfl, rfl, rfl, Nat.le_refl _, fun _ _ => rfl⟩⟩

/-- what the second closure holds -/
structure BaseG (W : World) (ad : Option Addr) (ca : Nat) (l : List Cm) (x y bo bs bl : Nat) (BA BB : List Bool) (t : List Nat) : Prop where
  ok : ComsOK W ad ca l
  two : ∃ b1 b2, W.cell? ⟨bo, 0, none⟩ = some (.func (.func 43) #[] #[.pointer (some ⟨b1, 0, none⟩), .pointer (some ⟨b2, 0, none⟩)]) ∧ TwoG W l x y b1 b2 BA BB
  sh : ∃ a c, W.cell? ⟨bs, 0, none⟩ = some (.slice a t.length c) ∧ SlI W a (natI t)
  box : W.cell? ⟨bl, 0, none⟩ = some (.slice ad l.length ca)
  lt : ∀ z ∈ t, z < l.length
  len : t.length ≤ 60
theorem BaseG.below {W W' : World} {ad : Option Addr} {ca : Nat} {l : List Cm} {x y bo bs bl : Nat} {BA BB : List Bool} {t : List Nat} (h : BaseG W ad ca l x y bo bs bl BA BB t) (hb : RowKit.Below W.heap.size W W') : BaseG W' ad ca l x y bo bs bl BA BB t := by
  obtain ⟨b1, b2, h1, h2⟩ := h.two
  obtain ⟨a, c, h3, h4⟩ := h.sh
  exact ⟨h.ok.below hb, ⟨b1, b2, (hb.cell (World.block_lt_of_cell? W _ h1)).trans h1, h2.below hb⟩, ⟨a, c, (hb.cell (World.block_lt_of_cell? W _ h3)).trans h3, h4.below hb⟩, (hb.cell (World.block_lt_of_cell? W _ h.box)).trans h.box, h.lt, h.len⟩
def basB (l : List Cm) (BA BB : List Bool) (t : List Nat) (k : Nat) : Bool := (onB BA k && onB BB k) && !((natI t).any fun c => decide ((k : Int) ∈ parsOf l c.toNat))
set_option maxHeartbeats 4000000 in
set_option maxRecDepth 100000 in
theorem dbase_any (W : World) (ad : Option Addr) (ca : Nat) (l : List Cm) (x y bo bs bl : Nat) (BA BB : List Bool) (t : List Nat) (k : Nat) (h : BaseG W ad ca l x y bo bs bl BA BB t) (hk : k < l.length) :
    Calls Tryd.prog 44 #[.int .i64 (k : Int), .pointer (some ⟨bo, 0, none⟩), .pointer (some ⟨bs, 0, none⟩), .pointer (some ⟨bl, 0, none⟩)] W fun e w' => e = .returned (.bool (basB l BA BB t k)) ∧ RowKit.Below W.heap.size W w' := by
  have H := hideO (h.below (balloc W (.cells #[.int .i64 (k : Int)] 3)))
  obtain ⟨b1, b2, c1, hT⟩ := H.out.two
  have hcall := dboth_any _ l x y b1 b2 BA BB k hT hk
  have hfin : Hid (basB l BA BB t k = ((onB BA k && onB BB k) && !((natI t).any fun c => decide ((k : Int) ∈ parsOf l c.toNat)))) := rfl
  have eg := entersBoth
  clear h hT
  generalize basB l BA BB t k = ans at *
  generalize (onB BA k && onB BB k) = q at *
  go_enter Tryd.func44, Tryd.ntmps44
  go_wp2_with fail
  go_at_fn 43
  refine hcall.mono ?_
  rintro e w1 ⟨rfl, hb1⟩
  dsimp only
  have H1 := hideO (H.out.below hb1)
  have cx : w1.cell? ⟨W.heap.size, 0, none⟩ = some (.int .i64 (k : Int)) := by
    rw [(bcell hb1).1 _ _ (by simp)]
    go_simp
  have hbw := hideO (bstep (balloc W _) hb1)
  clear H hcall hb1 c1
  cases q with
  | false =>
    go_wp2_with fail
    go_ret
    exact ⟨by rw [hfin.out]; rfl, hbw.out⟩
  | true =>
    obtain ⟨a, c, c2, hS⟩ := H1.out.sh
    have hp : PredI 45 #[.pointer (some ⟨bl, 0, none⟩), .pointer (some ⟨W.heap.size, 0, none⟩)] (fun z => 0 ≤ z ∧ z < l.length) (fun z => decide ((k : Int) ∈ parsOf l z.toNat)) w1 := fun W' z hW hz => by
      obtain ⟨j, rfl⟩ : ∃ j : Nat, z = (j : Int) := ⟨z.toNat, by omega⟩
      exact dchild_any W' ad ca l bl W.heap.size j (k : Int) (H1.out.ok.below hW) ((hW.cell (World.block_lt_of_cell? w1 _ H1.out.box)).trans H1.out.box) ((hW.cell (World.block_lt_of_cell? w1 _ cx)).trans cx) (by omega)
    have hcon := DContains_any 45 #[.pointer (some ⟨bl, 0, none⟩), .pointer (some ⟨W.heap.size, 0, none⟩)] (fun z => 0 ≤ z ∧ z < l.length) (fun z => decide ((k : Int) ∈ parsOf l z.toNat)) w1 a c (natI t) entersChild hp (fun z hz => by
      unfold natI at hz
      obtain ⟨j, hj, rfl⟩ := List.mem_map.1 hz
      have := H1.out.lt j hj
      omega) hS (by rw [natI_len]; have := H1.out.len; omega)
    rw [natI_len] at hcon
    clear hp hS cx H1
    generalize ((natI t).any fun z => decide ((k : Int) ∈ parsOf l z.toNat)) = r at *
    go_wp2_with fail
    refine hcon.mono ?_
    rintro e w2 ⟨rfl, hb2⟩
    dsimp only
    go_wp2_with fail
    go_ret
    exact ⟨by rw [hfin.out]; simp, bstep hbw.out hb2⟩
end Go.Proofs.YtackdedbphfaeaeDoor
