import Derived.Test.YtnlcfnpcjkcdmadGreatDoorMA0x2
import Derived.Deep.RegionHeld3
import Derived.Laws.IdiomCopy
import Derived.ArgAppend

/- layer: apart, within, Check, swap, fresh, Turn, Between: what they tell. -/
namespace Go.Proofs.YtnlcfnpcjkcdmadGreatDoor
open Go Go.RowKit Go.Proofs
set_option synthInstance.maxSize 1000

attribute [local go_sem] eql_errV neq_errV guard_errV

/-- a store where a slice lay leaves the rows of triples -/
theorem SlT.put {W : World} {ad : Option Addr} {l : List Tr} (h : SlT W ad l) {p : Addr} {a : Option Addr} {n c : Nat} (hp : W.cell? p = some (.slice a n c)) (v : Value) : SlT (W.setCell p v) ad l := fun hl => by
  obtain ⟨b, o, rfl, hr⟩ := h hl
  refine ⟨b, o, rfl, fun j u hu => ?_⟩
  have hc := hr j u hu
  have hne : p ≠ ⟨b, o + j, none⟩ := by
    rintro rfl
    rw [hp] at hc
    obtain rfl := Option.some.inj hc
    have hm := List.mem_of_getElem? hu
    unfold cellsT at hm
    obtain ⟨x, _, hx⟩ := List.mem_flatMap.1 hm
    simp [encTr] at hx
  rw [World.cell?_setCell_other W p _ v hne]
  exact hc
theorem SlT.put2 {W : World} {ad : Option Addr} {l : List Tr} (h : SlT W ad l) {b : Nat} {a a' : Option Addr} {n c n' c' : Nat} (hp : W.cell? ⟨b, 0, none⟩ = some (.slice a n c)) (hq : W.cell? ⟨b, 1, none⟩ = some (.slice a' n' c')) (u v : Value) : SlT ((W.setCell ⟨b, 0, none⟩ u).setCell ⟨b, 1, none⟩ v) ad l :=
  SlT.put (h.put hp u) (by rw [World.cell?_setCell_other W _ _ u (by simp)]; exact hq) v
theorem below_two {B b : Nat} {w W : World} (h : RowKit.Below B w W) (hb : B ≤ b) (v0 v1 : Value) : RowKit.Below B w ((W.setCell ⟨b, 0, none⟩ v0).setCell ⟨b, 1, none⟩ v1) :=
  (h.setCell (p := ⟨b, 0, none⟩) hb v0).setCell (p := ⟨b, 1, none⟩) hb v1

theorem twobox {w W : World} {T : TypeId} {a0 a1 : Value} (hb : RowKit.Below (w.alloc (.cells #[a0, a1] T)).heap.size (w.alloc (.cells #[a0, a1] T)) W) :
    W.cell? ⟨w.heap.size, 0, none⟩ = some a0 ∧ W.cell? ⟨w.heap.size, 1, none⟩ = some a1 ∧ w.heap.size < W.heap.size ∧ W.frozen? ⟨w.heap.size, 0, none⟩ = false ∧ W.frozen? ⟨w.heap.size, 1, none⟩ = false := by
  obtain ⟨h, h'⟩ := bcell hb
  have hs := hb.size
  refine ⟨?_, ?_, by simp at hs; omega, ?_, ?_⟩
  · rw [h] <;> first | go_simp | (simp <;> omega)
  · rw [h] <;> first | go_simp | (simp <;> omega)
  · rw [h'] <;> first | go_simp | (simp <;> omega)
  · rw [h'] <;> first | go_simp | (simp <;> omega)

set_option maxHeartbeats 2000000 in
set_option maxRecDepth 100000 in
theorem apart_any (ad bd : Option Addr) (ca cb : Nat) (a b : List Tr) (w : World) (ha : SlT w ad a) (hb : SlT w bd b) (fa : ∀ x ∈ a, fitTr x) (fb : ∀ x ∈ b, fitTr x) (na : a.length ≤ 9223372036854775807) (nb : b.length ≤ 9223372036854775807) :
    Calls Tryz.prog 77 #[.slice ad a.length ca, .slice bd b.length cb] w fun e w' => e = .returned (errV (apartN a b)) ∧ RowKit.Below w.heap.size w w' := by
  have H := fun W h1 h2 => Both_any ad bd ca cb a b W h1 h2 fa fb na nb
  have Ha : Hid (SlT w ad a) := ha
  have Hb : Hid (SlT w bd b) := hb
  have fin : Hid (apartN a b = orN (bothN a b) (if (bothL a b).length = 0 then 0 else 7)) := rfl
  have hA : Hid (∀ m, BothAns a b m → bothN a b = 0 → m = bothL a b ∧ m.length ≤ 200) := fun m hm h0 => by
    unfold BothAns at hm
    rw [if_pos h0] at hm
    exact ⟨hm, by rw [hm]; exact Nat.le_trans (List.length_filter_le _ _) (bothN_zero.1 h0).1.1⟩
  generalize apartN a b = N at *
  generalize BothAns a b = BA at *
  generalize bothL a b = B at *
  generalize bothN a b = n at *
  clear ha hb fa fb na nb
  go_enter Tryz.func77, Tryz.ntmps77
  go_wp2_with fail
  refine (H _ Ha.out Hb.out).mono ?_
  rintro e w1 ⟨hb1, m, am, cm, rfl, hm, hBA⟩
  have hA2 := hA.out m hBA
  clear hm hBA hA H
  cases hn : (n == 0)
  · have h0 : ¬ n = 0 := by simpa using hn
    have f1 : Hid (N = n) := fin.out.trans (orN_neg h0)
    clear hA2 h0 fin
    go_wp2_with fail
    go_ret
    exact ⟨ret_val (by rw [f1.out]; rfl), hb1⟩
  · have h0 : n = 0 := by simpa using hn
    obtain ⟨rfl, h200⟩ := hA2 h0
    have f1 : Hid (N = if m.length = 0 then 0 else 7) := fin.out.trans (orN_pos h0)
    subst h0
    rw [show errV 0 = .nilIface from rfl]
    clear hA2 fin hn
    by_cases hz : m.length = 0
    · have hd : decide (0 < m.length) = false := decide_eq_false (by omega)
      have f2 : Hid (N = 0) := by have := f1.out; rw [if_pos hz] at this; exact this
      clear hz f1
      go_wp2_with fail
      go_ret
      exact ⟨ret_val (by rw [f2.out]; rfl), hb1⟩
    · have hd : decide (0 < m.length) = true := decide_eq_true (by omega)
      have f2 : Hid (N = 7) := by have := f1.out; rw [if_neg hz] at this; exact this
      clear hz f1
      go_wp2_with fail
      go_ret
      exact ⟨ret_val (by rw [f2.out]; rfl), hb1⟩

set_option maxHeartbeats 2000000 in
set_option maxRecDepth 100000 in
theorem within_any (ad bd : Option Addr) (ca cb : Nat) (a b : List Tr) (w : World) (ha : SlT w ad a) (hb : SlT w bd b) (fa : ∀ x ∈ a, fitTr x) (fb : ∀ x ∈ b, fitTr x) (na : a.length ≤ 9223372036854775807) (nb : b.length ≤ 9223372036854775807) :
    Calls Tryz.prog 78 #[.slice ad a.length ca, .slice bd b.length cb] w fun e w' => e = .returned (errV (withinN a b)) ∧ RowKit.Below w.heap.size w w' := by
  have H := fun W h1 h2 => Less_any bd ad cb ca b a W h1 h2 fb fa nb na
  have Ha : Hid (SlT w ad a) := ha
  have Hb : Hid (SlT w bd b) := hb
  have fin : Hid (withinN a b = orN (bothN b a) (if (lessL b a).length = 0 then 0 else 5)) := rfl
  have hA : Hid (∀ m, LessAns b a m → bothN b a = 0 → m = lessL b a ∧ m.length ≤ 200) := fun m hm h0 => by
    unfold LessAns at hm
    rw [if_pos h0] at hm
    exact ⟨hm, by rw [hm]; exact Nat.le_trans (List.length_filter_le _ _) (bothN_zero.1 h0).1.1⟩
  generalize withinN a b = N at *
  generalize LessAns b a = BA at *
  generalize lessL b a = B at *
  generalize bothN b a = n at *
  clear ha hb fa fb na nb
  go_enter Tryz.func78, Tryz.ntmps78
  go_wp2_with fail
  refine (H _ Hb.out Ha.out).mono ?_
  rintro e w1 ⟨hb1, m, am, cm, rfl, hm, hBA⟩
  have hA2 := hA.out m hBA
  clear hm hBA hA H
  cases hn : (n == 0)
  · have h0 : ¬ n = 0 := by simpa using hn
    have f1 : Hid (N = n) := fin.out.trans (orN_neg h0)
    clear hA2 h0 fin
    go_wp2_with fail
    go_ret
    exact ⟨ret_val (by rw [f1.out]; rfl), hb1⟩
  · have h0 : n = 0 := by simpa using hn
    obtain ⟨rfl, h200⟩ := hA2 h0
    have f1 : Hid (N = if m.length = 0 then 0 else 5) := fin.out.trans (orN_pos h0)
    subst h0
    rw [show errV 0 = .nilIface from rfl]
    clear hA2 fin hn
    by_cases hz : m.length = 0
    · have hd : decide (0 < m.length) = false := decide_eq_false (by omega)
      have f2 : Hid (N = 0) := by have := f1.out; rw [if_pos hz] at this; exact this
      clear hz f1
      go_wp2_with fail
      go_ret
      exact ⟨ret_val (by rw [f2.out]; rfl), hb1⟩
    · have hd : decide (0 < m.length) = true := decide_eq_true (by omega)
      have f2 : Hid (N = 5) := by have := f1.out; rw [if_neg hz] at this; exact this
      clear hz f1
      go_wp2_with fail
      go_ret
      exact ⟨ret_val (by rw [f2.out]; rfl), hb1⟩

set_option maxHeartbeats 1000000 in
set_option maxRecDepth 100000 in
theorem LCheck_any (ad bd : Option Addr) (ca cb : Nat) (a b : List Tr) (w : World) (ha : SlT w ad a) (hb : SlT w bd b) (fa : ∀ x ∈ a, fitTr x) (fb : ∀ x ∈ b, fitTr x) (na : a.length ≤ 9223372036854775807) (nb : b.length ≤ 9223372036854775807) :
    Calls Tryz.prog 60 #[.agg #[.slice ad a.length ca, .slice bd b.length cb]] w fun e w' => e = .returned (errV (apartN a b)) ∧ RowKit.Below w.heap.size w w' := by
  have H := fun W h1 h2 => apart_any ad bd ca cb a b W h1 h2 fa fb na nb
  have Ha : Hid (SlT w ad a) := ha
  have Hb : Hid (SlT w bd b) := hb
  generalize apartN a b = N at *
  clear ha hb fa fb na nb
  go_enter Tryz.func60, Tryz.ntmps60
  go_wp2_with fail
  refine (H _ (Ha.out.below (balloc _ _)) (Hb.out.below (balloc _ _))).mono ?_
  rintro e w1 ⟨rfl, hb1⟩
  go_wp2_with fail
  go_ret
  exact ⟨rfl, bstep (balloc _ _) hb1⟩

set_option maxHeartbeats 2000000 in
set_option maxRecDepth 100000 in
theorem swap_any (ad bd cd : Option Addr) (ca cb cc : Nat) (a b c : List Tr) (w : World) (ha : SlT w ad a) (hb : SlT w bd b) (hc : SlT w cd c) (fa : ∀ x ∈ a, fitTr x) (fb : ∀ x ∈ b, fitTr x) (fc : ∀ x ∈ c, fitTr x) (na : a.length ≤ 9223372036854775807) (nb : b.length ≤ 9223372036854775807) (nc : c.length ≤ 9223372036854775807) :
    Calls Tryz.prog 79 #[.slice ad a.length ca, .slice bd b.length cb, .slice cd c.length cc] w (Ans (swapN a b c) (SwapAns a b c) w) := by
  have H := fun W h1 h2 => Less_any ad bd ca cb a b W h1 h2 fa fb na nb
  have HJ := fun W al cl h1 h2 => Join_any' al cd cl cc (lessL a b) c W h1 h2 (fun x hx => fa x (mem_lessL.1 hx).1) fc (Nat.le_trans (List.length_filter_le _ _) na) nc
  have Ha : Hid (SlT w ad a) := ha
  have Hb : Hid (SlT w bd b) := hb
  have Hc : Hid (SlT w cd c) := hc
  have f0 : Hid (¬ bothN a b = 0 → swapN a b c = bothN a b ∧ SwapAns a b c []) := fun h0 => by
    have h1 : swapN a b c = bothN a b := orN_neg h0
    exact ⟨h1, fun h => absurd (h1.symm.trans h) h0, fun _ => rfl⟩
  have f1 : Hid (bothN a b = 0 → swapN a b c = joinN (lessL a b) c ∧ ∀ m, JoinAns (lessL a b) c m → SwapAns a b c m) := fun h0 => by
    have h1 : swapN a b c = joinN (lessL a b) c := orN_pos h0
    exact ⟨h1, fun m hm => ⟨fun h => hm.1 (h1.symm.trans h), fun h => hm.2 (fun e => h (h1.trans e))⟩⟩
  have hA : Hid (∀ m, LessAns a b m → bothN a b = 0 → m = lessL a b) := fun m hm h0 => by
    unfold LessAns at hm
    rw [if_pos h0] at hm
    exact hm
  generalize JoinAns (lessL a b) c = JA at *
  generalize joinN (lessL a b) c = j at *
  generalize lessL a b = L at *
  generalize SwapAns a b c = SA at *
  generalize swapN a b c = N at *
  generalize LessAns a b = LA at *
  generalize bothN a b = n at *
  clear ha hb hc fa fb fc na nb nc
  go_enter Tryz.func79, Tryz.ntmps79
  go_wp2_with fail
  refine (H _ Ha.out Hb.out).mono ?_
  rintro e w1 ⟨hb1, m, am, cm, rfl, hm, hLA⟩
  have hA2 := hA.out m hLA
  have Hm : Hid (SlT w1 am m) := hm
  clear hm hLA hA H
  cases hn : (n == 0)
  · have h0 : ¬ n = 0 := by simpa using hn
    have F0 : Hid _ := f0.out h0
    clear hA2 h0 f0 f1 HJ
    go_wp2_with fail
    have hN : N = n := F0.out.1
    rw [hN]
    exact bodyPost_ret (v := .tuple #[.slice none 0 0, errV n]) (by simp [results, Tryz.results79, go_sem]) rfl (Ans.mk hb1 [] none 0 (slT_nil _ _) F0.out.2)
  · have h0 : n = 0 := by simpa using hn
    have F1 : Hid _ := f1.out h0
    obtain rfl := hA2 h0
    subst h0
    rw [show errV 0 = .nilIface from rfl]
    clear hA2 hn f0 f1
    go_wp2_with fail
    refine (HJ _ am cm Hm.out (Hc.out.below hb1)).mono ?_
    rintro e w2 ⟨hb2, q, aq, cq, rfl, hq, hJA⟩
    have Hq : Hid (SlT w2 aq q ∧ JA q) := ⟨hq, hJA⟩
    clear hq hJA HJ
    go_wp2_with fail
    have hN : N = j := F1.out.1
    rw [hN]
    exact bodyPost_ret (v := .tuple #[.slice aq q.length cq, errV j]) (by simp [results, Tryz.results79, go_sem]) rfl (Ans.mk (bstep hb1 hb2) q aq cq Hq.out.1 (F1.out.2 q Hq.out.2))

end Go.Proofs.YtnlcfnpcjkcdmadGreatDoor

/- layer: Between, after, follows, Then, Apply: what they tell. -/
namespace Go.Proofs.YtnlcfnpcjkcdmadGreatDoor
open Go Go.RowKit Go.Proofs
set_option synthInstance.maxSize 1000

attribute [local go_sem] eql_errV neq_errV guard_errV

set_option maxHeartbeats 2000000 in
set_option maxRecDepth 100000 in
theorem after_any (ad bd cd dd : Option Addr) (ca cb cc cd' : Nat) (a b c d : List Tr) (w : World) (ha : SlT w ad a) (hb : SlT w bd b) (hc : SlT w cd c) (hd : SlT w dd d) (fa : ∀ x ∈ a, fitTr x) (fb : ∀ x ∈ b, fitTr x) (fc : ∀ x ∈ c, fitTr x) (fd : ∀ x ∈ d, fitTr x) (na : a.length ≤ 9223372036854775807) (nb : b.length ≤ 9223372036854775807) (nc : c.length ≤ 9223372036854775807) (nd : d.length ≤ 9223372036854775807) :
    Calls Tryz.prog 82 #[.slice ad a.length ca, .slice bd b.length cb, .slice cd c.length cc, .slice dd d.length cd'] w (Ans (afterN a b c d) (AfterAns a b c d) w) := by
  have H := fun W h1 h2 => Less_any cd bd cc cb c b W h1 h2 fc fb nc nb
  have HJ := fun W al cl h1 h2 h3 => swap_any ad dd al ca cd' cl a d (lessL c b) W h1 h2 h3 fa fd (fun x hx => fc x (mem_lessL.1 hx).1) na nd (Nat.le_trans (List.length_filter_le _ _) nc)
  have Ha : Hid (SlT w ad a) := ha
  have Hb : Hid (SlT w bd b) := hb
  have Hc : Hid (SlT w cd c) := hc
  have Hd : Hid (SlT w dd d) := hd
  have f0 : Hid (¬ bothN c b = 0 → afterN a b c d = bothN c b ∧ AfterAns a b c d []) := fun h0 => by
    have h1 : afterN a b c d = bothN c b := orN_neg h0
    exact ⟨h1, fun h => absurd (h1.symm.trans h) h0, fun _ => rfl⟩
  have f1 : Hid (bothN c b = 0 → afterN a b c d = swapN a d (lessL c b) ∧ ∀ m, SwapAns a d (lessL c b) m → AfterAns a b c d m) := fun h0 => by
    have h1 : afterN a b c d = swapN a d (lessL c b) := orN_pos h0
    exact ⟨h1, fun m hm => ⟨fun h => hm.1 (h1.symm.trans h), fun h => hm.2 (fun e => h (h1.trans e))⟩⟩
  have hA : Hid (∀ m, LessAns c b m → bothN c b = 0 → m = lessL c b) := fun m hm h0 => by
    unfold LessAns at hm
    rw [if_pos h0] at hm
    exact hm
  generalize SwapAns a d (lessL c b) = JA at *
  generalize swapN a d (lessL c b) = j at *
  generalize lessL c b = L at *
  generalize AfterAns a b c d = SA at *
  generalize afterN a b c d = N at *
  generalize LessAns c b = LA at *
  generalize bothN c b = n at *
  clear ha hb hc hd fa fb fc fd na nb nc nd
  go_enter Tryz.func82, Tryz.ntmps82
  go_wp2_with fail
  refine (H _ Hc.out Hb.out).mono ?_
  rintro e w1 ⟨hb1, m, am, cm, rfl, hm, hLA⟩
  have hA2 := hA.out m hLA
  have Hm : Hid (SlT w1 am m) := hm
  clear hm hLA hA H
  cases hn : (n == 0)
  · have h0 : ¬ n = 0 := by simpa using hn
    have F0 : Hid _ := f0.out h0
    clear hA2 h0 f0 f1 HJ
    go_wp2_with fail
    have hN : N = n := F0.out.1
    rw [hN]
    exact bodyPost_ret (v := .tuple #[.slice none 0 0, errV n]) (by simp [results, Tryz.results82, go_sem]) rfl (Ans.mk hb1 [] none 0 (slT_nil _ _) F0.out.2)
  · have h0 : n = 0 := by simpa using hn
    have F1 : Hid _ := f1.out h0
    obtain rfl := hA2 h0
    subst h0
    rw [show errV 0 = .nilIface from rfl]
    clear hA2 hn f0 f1
    go_wp2_with fail
    refine (HJ _ am cm (Ha.out.below hb1) (Hd.out.below hb1) Hm.out).mono ?_
    rintro e w2 ⟨hb2, q, aq, cq, rfl, hq, hJA⟩
    have Hq : Hid (SlT w2 aq q ∧ JA q) := ⟨hq, hJA⟩
    clear hq hJA HJ
    go_wp2_with fail
    have hN : N = j := F1.out.1
    rw [hN]
    exact bodyPost_ret (v := .tuple #[.slice aq q.length cq, errV j]) (by simp [results, Tryz.results82, go_sem]) rfl (Ans.mk (bstep hb1 hb2) q aq cq Hq.out.1 (F1.out.2 q Hq.out.2))
end Go.Proofs.YtnlcfnpcjkcdmadGreatDoor

/- layer: Turn, Between, after: what they tell. -/
namespace Go.Proofs.YtnlcfnpcjkcdmadGreatDoor
open Go Go.RowKit Go.Proofs
set_option synthInstance.maxSize 1000

attribute [local go_sem] eql_errV neq_errV guard_errV

theorem twobox1 {w W : World} {T : TypeId} {o : Obj} {a0 a1 : Value} (hb : RowKit.Below ((w.alloc (.cells #[a0, a1] T)).alloc o).heap.size ((w.alloc (.cells #[a0, a1] T)).alloc o) W) :
    W.cell? ⟨w.heap.size, 0, none⟩ = some a0 ∧ W.cell? ⟨w.heap.size, 1, none⟩ = some a1 ∧ w.heap.size < W.heap.size ∧ W.frozen? ⟨w.heap.size, 0, none⟩ = false ∧ W.frozen? ⟨w.heap.size, 1, none⟩ = false := twobox (bstep (balloc _ _) hb)
theorem twobox2 {w W : World} {T : TypeId} {o : Obj} {a0 a1 : Value} (hb : RowKit.Below ((w.alloc o).alloc (.cells #[a0, a1] T)).heap.size ((w.alloc o).alloc (.cells #[a0, a1] T)) W) :
    W.cell? ⟨w.heap.size + 1, 0, none⟩ = some a0 ∧ W.cell? ⟨w.heap.size + 1, 1, none⟩ = some a1 ∧ w.heap.size + 1 < W.heap.size ∧ W.frozen? ⟨w.heap.size + 1, 0, none⟩ = false ∧ W.frozen? ⟨w.heap.size + 1, 1, none⟩ = false := by
  have := twobox hb
  rw [World.size_alloc] at this
  exact this

end Go.Proofs.YtnlcfnpcjkcdmadGreatDoor

/- layer: follows, Then, Apply: what they tell. -/
namespace Go.Proofs.YtnlcfnpcjkcdmadGreatDoor
open Go Go.RowKit Go.Proofs
set_option synthInstance.maxSize 1000

attribute [local go_sem] eql_errV neq_errV guard_errV

set_option maxHeartbeats 4000000 in
set_option maxRecDepth 100000 in
theorem follows_any (ad bd cd dd : Option Addr) (ca cb cc ce : Nat) (a b c d : List Tr) (w : World) (ha : SlT w ad a) (hb : SlT w bd b) (hc : SlT w cd c) (hd : SlT w dd d) (fa : ∀ x ∈ a, fitTr x) (fb : ∀ x ∈ b, fitTr x) (fc : ∀ x ∈ c, fitTr x) (fd : ∀ x ∈ d, fitTr x) (na : a.length ≤ 9223372036854775807) (nb : b.length ≤ 9223372036854775807) (nc : c.length ≤ 9223372036854775807) (nd : d.length ≤ 9223372036854775807) :
    Calls Tryz.prog 81 #[.agg #[.slice ad a.length ca, .slice bd b.length cb], .agg #[.slice cd c.length cc, .slice dd d.length ce]] w fun e w' => e = .returned (errV (followsN a b c d)) ∧ RowKit.Below w.heap.size w w' := by
  have H1 := fun W h1 h2 => LCheck_any ad bd ca cb a b W h1 h2 fa fb na nb
  have H2 := fun W h1 h2 => LCheck_any cd dd cc ce c d W h1 h2 fc fd nc nd
  have H3 := fun W h1 h2 => apart_any ad cd ca cc a c W h1 h2 fa fc na nc
  have H4 := fun W h1 h2 => apart_any bd dd cb ce b d W h1 h2 fb fd nb nd
  have HS : Hid (SlT w ad a ∧ SlT w bd b ∧ SlT w cd c ∧ SlT w dd d) := ⟨ha, hb, hc, hd⟩
  have fin : Hid (followsN a b c d = orN (apartN a b) (orN (apartN c d) (orN (apartN a c) (apartN b d)))) := rfl
  generalize followsN a b c d = N at *
  generalize apartN a b = n1 at *
  generalize apartN c d = n2 at *
  generalize apartN a c = n3 at *
  generalize apartN b d = n4 at *
  clear ha hb hc hd fa fb fc fd na nb nc nd
  go_enter Tryz.func81, Tryz.ntmps81
  go_wp2_with fail
  refine (H1 _ (HS.out.1.below (bstep (balloc _ _) (balloc _ _))) (HS.out.2.1.below (bstep (balloc _ _) (balloc _ _)))).mono ?_
  rintro e w1 ⟨rfl, hb1⟩
  have hB1 := bstep (bstep (balloc _ _) (balloc _ _)) hb1
  obtain ⟨x0, x1, hz1, _, _⟩ := twobox1 hb1
  obtain ⟨y0, y1, hz2, _, _⟩ := twobox2 hb1
  clear H1
  cases hn1 : (n1 == 0)
  · have f1 : Hid (N = n1) := fin.out.trans (orN_neg (by simpa using hn1))
    clear fin H2 H3 H4
    go_wp2_with fail
    go_ret
    exact ⟨ret_val (by rw [f1.out]; rfl), hB1⟩
  · have g1 : Hid (N = orN n2 (orN n3 n4)) := fin.out.trans (orN_pos (by simpa using hn1))
    clear fin
    go_wp2_with fail
    refine (H2 _ (HS.out.2.2.1.below hB1) (HS.out.2.2.2.below hB1)).mono ?_
    rintro e w2 ⟨rfl, hb2⟩
    have hB2 := bstep hB1 hb2
    have hb2' := bstep hb1 hb2
    clear x0 x1 hz1 y0 y1 hz2 H2 hb1 hb2
    obtain ⟨x0, x1, hz1, _, _⟩ := twobox1 hb2'
    obtain ⟨y0, y1, hz2, _, _⟩ := twobox2 hb2'
    cases hn2 : (n2 == 0)
    · have f1 : Hid (N = n2) := g1.out.trans (orN_neg (by simpa using hn2))
      clear g1 H3 H4
      go_wp2_with fail
      go_ret
      exact ⟨ret_val (by rw [f1.out]; rfl), hB2⟩
    · have g2 : Hid (N = orN n3 n4) := g1.out.trans (orN_pos (by simpa using hn2))
      clear g1
      go_wp2_with fail
      refine (H3 _ (HS.out.1.below hB2) (HS.out.2.2.1.below hB2)).mono ?_
      rintro e w3 ⟨rfl, hb3⟩
      have hB3 := bstep hB2 hb3
      have hb3' := bstep hb2' hb3
      clear x0 x1 hz1 y0 y1 hz2 H3 hb2' hb3
      obtain ⟨x0, x1, hz1, _, _⟩ := twobox1 hb3'
      obtain ⟨y0, y1, hz2, _, _⟩ := twobox2 hb3'
      cases hn3 : (n3 == 0)
      · have f1 : Hid (N = n3) := g2.out.trans (orN_neg (by simpa using hn3))
        clear g2 H4
        go_wp2_with fail
        go_ret
        exact ⟨ret_val (by rw [f1.out]; rfl), hB3⟩
      · have f1 : Hid (N = n4) := g2.out.trans (orN_pos (by simpa using hn3))
        clear g2
        go_wp2_with fail
        refine (H4 _ (HS.out.2.1.below hB3) (HS.out.2.2.2.below hB3)).mono ?_
        rintro e w4 ⟨rfl, hb4⟩
        have hB4 := bstep hB3 hb4
        go_wp2_with fail
        go_ret
        exact ⟨ret_val (by rw [f1.out]; rfl), hB4⟩

set_option maxHeartbeats 4000000 in
set_option maxRecDepth 100000 in
theorem LApply_any (sd ad bd : Option Addr) (cs ca cb : Nat) (s a b : List Tr) (w : World) (hs : SlT w sd s) (ha : SlT w ad a) (hb : SlT w bd b) (fs : ∀ x ∈ s, fitTr x) (fa : ∀ x ∈ a, fitTr x) (fb : ∀ x ∈ b, fitTr x) (ns : s.length ≤ 9223372036854775807) (na : a.length ≤ 9223372036854775807) (nb : b.length ≤ 9223372036854775807) :
    Calls Tryz.prog 40 #[.slice sd s.length cs, .agg #[.slice ad a.length ca, .slice bd b.length cb]] w (Ans (applyN s a b) (ApplyAns s a b) w) := by
  have H1 := fun W h1 => Sorted_any sd cs s W h1 fs ns
  have H2 := fun W h1 h2 => LCheck_any ad bd ca cb a b W h1 h2 fa fb na nb
  have H3 := fun W h1 h2 => apart_any sd ad cs ca s a W h1 h2 fs fa ns na
  have H4 := fun W h1 h2 => within_any sd bd cs cb s b W h1 h2 fs fb ns nb
  have H5 := fun W h1 h2 h3 => swap_any sd bd ad cs cb ca s b a W h1 h2 h3 fs fb fa ns nb na
  have HS : Hid (SlT w sd s ∧ SlT w ad a ∧ SlT w bd b) := ⟨hs, ha, hb⟩
  have fin : Hid (applyN s a b = orN (sortedN s) (orN (apartN a b) (orN (apartN s a) (orN (withinN s b) (swapN s b a))))) := rfl
  have f0 : Hid (∀ n, applyN s a b = n → ¬ n = 0 → ApplyAns s a b []) := fun n h h0 => ⟨fun e => absurd (h.symm.trans e) h0, fun _ => rfl⟩
  have f1 : Hid (applyN s a b = swapN s b a → ∀ m, SwapAns s b a m → ApplyAns s a b m) := fun h m hm => ⟨fun e => hm.1 (h.symm.trans e), fun e => hm.2 (fun e' => e (h.trans e'))⟩
  generalize ApplyAns s a b = AA at *
  generalize SwapAns s b a = SA at *
  generalize applyN s a b = N at *
  generalize sortedN s = n1 at *
  generalize apartN a b = n2 at *
  generalize apartN s a = n3 at *
  generalize withinN s b = n4 at *
  generalize swapN s b a = n5 at *
  clear hs ha hb fs fa fb ns na nb
  go_enter Tryz.func40, Tryz.ntmps40
  go_wp2_with fail
  refine (H1 _ (HS.out.1.below (balloc _ _))).mono ?_
  rintro e w1 ⟨rfl, hb1⟩
  have hB1 := bstep (balloc _ _) hb1
  obtain ⟨x0, x1, hz1, _, _⟩ := twobox hb1
  clear H1
  cases hn1 : (n1 == 0)
  · have h0 : ¬ n1 = 0 := by simpa using hn1
    have hN := fin.out.trans (orN_neg h0)
    have F0 : Hid _ := f0.out _ hN h0
    subst hN
    clear fin f0 f1 H2 H3 H4 H5 h0
    go_wp2_with fail
    exact bodyPost_ret (v := .tuple #[.slice none 0 0, errV N]) (by simp [results, Tryz.results40, go_sem]) rfl (Ans.mk hB1 [] none 0 (slT_nil _ _) F0.out)
  · have g1 : Hid (N = orN n2 (orN n3 (orN n4 n5))) := fin.out.trans (orN_pos (by simpa using hn1))
    clear fin
    go_wp2_with fail
    refine (H2 _ (HS.out.2.1.below hB1) (HS.out.2.2.below hB1)).mono ?_
    rintro e w2 ⟨rfl, hb2⟩
    have hB2 := bstep hB1 hb2
    have hb2' := bstep hb1 hb2
    clear x0 x1 hz1 H2 hb1 hb2
    obtain ⟨x0, x1, hz1, _, _⟩ := twobox hb2'
    cases hn2 : (n2 == 0)
    · have h0 : ¬ n2 = 0 := by simpa using hn2
      have hN := g1.out.trans (orN_neg h0)
      have F0 : Hid _ := f0.out _ hN h0
      subst hN
      clear g1 f0 f1 H3 H4 H5 h0
      go_wp2_with fail
      exact bodyPost_ret (v := .tuple #[.slice none 0 0, errV N]) (by simp [results, Tryz.results40, go_sem]) rfl (Ans.mk hB2 [] none 0 (slT_nil _ _) F0.out)
    · have g2 : Hid (N = orN n3 (orN n4 n5)) := g1.out.trans (orN_pos (by simpa using hn2))
      clear g1
      go_wp2_with fail
      refine (H3 _ (HS.out.1.below hB2) (HS.out.2.1.below hB2)).mono ?_
      rintro e w3 ⟨rfl, hb3⟩
      have hB3 := bstep hB2 hb3
      have hb3' := bstep hb2' hb3
      clear x0 x1 hz1 H3 hb2' hb3
      obtain ⟨x0, x1, hz1, _, _⟩ := twobox hb3'
      cases hn3 : (n3 == 0)
      · have h0 : ¬ n3 = 0 := by simpa using hn3
        have hN := g2.out.trans (orN_neg h0)
        have F0 : Hid _ := f0.out _ hN h0
        subst hN
        clear g2 f0 f1 H4 H5 h0
        go_wp2_with fail
        exact bodyPost_ret (v := .tuple #[.slice none 0 0, errV N]) (by simp [results, Tryz.results40, go_sem]) rfl (Ans.mk hB3 [] none 0 (slT_nil _ _) F0.out)
      · have g3 : Hid (N = orN n4 n5) := g2.out.trans (orN_pos (by simpa using hn3))
        clear g2
        go_wp2_with fail
        refine (H4 _ (HS.out.1.below hB3) (HS.out.2.2.below hB3)).mono ?_
        rintro e w4 ⟨rfl, hb4⟩
        have hB4 := bstep hB3 hb4
        have hb4' := bstep hb3' hb4
        clear x0 x1 hz1 H4 hb3' hb4
        obtain ⟨x0, x1, hz1, _, _⟩ := twobox hb4'
        cases hn4 : (n4 == 0)
        · have h0 : ¬ n4 = 0 := by simpa using hn4
          have hN := g3.out.trans (orN_neg h0)
          have F0 : Hid _ := f0.out _ hN h0
          subst hN
          clear g3 f0 f1 H5 h0
          go_wp2_with fail
          exact bodyPost_ret (v := .tuple #[.slice none 0 0, errV N]) (by simp [results, Tryz.results40, go_sem]) rfl (Ans.mk hB4 [] none 0 (slT_nil _ _) F0.out)
        · have hN := g3.out.trans (orN_pos (by simpa using hn4))
          have F1 : Hid _ := f1.out hN
          subst hN
          clear g3 f0 f1
          go_wp2_with fail
          refine (H5 _ (HS.out.1.below hB4) (HS.out.2.2.below hB4) (HS.out.2.1.below hB4)).mono ?_
          rintro e w5 ⟨hb5, q, aq, cq, rfl, hq, hSA⟩
          have Hq : Hid (SlT w5 aq q ∧ SA q) := ⟨hq, hSA⟩
          clear hq hSA H5
          go_wp2_with fail
          exact bodyPost_ret (v := .tuple #[.slice aq q.length cq, errV N]) (by simp [results, Tryz.results40, go_sem]) rfl (Ans.mk (bstep hB4 hb5) q aq cq Hq.out.1 (F1.out q Hq.out.2))
end Go.Proofs.YtnlcfnpcjkcdmadGreatDoor

/- layer.Then: what it tells; stratasame.Layer. -/
namespace Go.Proofs.YtnlcfnpcjkcdmadGreatDoor
open Go Go.RowKit Go.Proofs
set_option synthInstance.maxSize 1000

attribute [local go_sem] eql_errV neq_errV guard_errV

theorem threebox {w W : World} {T T' T'' : TypeId} {a0 a1 b0 b1 c0 c1 : Value} (hb : RowKit.Below (((w.alloc (.cells #[a0, a1] T)).alloc (.cells #[b0, b1] T')).alloc (.cells #[c0, c1] T'')).heap.size (((w.alloc (.cells #[a0, a1] T)).alloc (.cells #[b0, b1] T')).alloc (.cells #[c0, c1] T'')) W) :
    W.cell? ⟨w.heap.size, 0, none⟩ = some a0 ∧ W.cell? ⟨w.heap.size, 1, none⟩ = some a1 ∧ W.cell? ⟨w.heap.size + 1, 0, none⟩ = some b0 ∧ W.cell? ⟨w.heap.size + 1, 1, none⟩ = some b1 ∧ W.cell? ⟨w.heap.size + 1 + 1, 0, none⟩ = some c0 ∧ W.cell? ⟨w.heap.size + 1 + 1, 1, none⟩ = some c1 ∧ w.heap.size + 1 + 1 < W.heap.size ∧ W.frozen? ⟨w.heap.size + 1 + 1, 0, none⟩ = false ∧ W.frozen? ⟨w.heap.size + 1 + 1, 1, none⟩ = false := by
  obtain ⟨x0, x1, _, _, _⟩ := twobox1 (bstep (balloc _ _) hb)
  obtain ⟨y0, y1, _, _, _⟩ := twobox2 (bstep (balloc _ _) hb)
  have h := twobox hb
  rw [World.size_alloc, World.size_alloc] at h
  exact ⟨x0, x1, y0, y1, h.1, h.2.1, h.2.2.1, h.2.2.2.1, h.2.2.2.2⟩

set_option maxHeartbeats 4000000 in
set_option maxRecDepth 100000 in
theorem LThen_any (ad bd cd dd : Option Addr) (ca cb cc ce : Nat) (a b c d : List Tr) (w : World) (ha : SlT w ad a) (hb : SlT w bd b) (hc : SlT w cd c) (hd : SlT w dd d) (fa : ∀ x ∈ a, fitTr x) (fb : ∀ x ∈ b, fitTr x) (fc : ∀ x ∈ c, fitTr x) (fd : ∀ x ∈ d, fitTr x) (na : a.length ≤ 9223372036854775807) (nb : b.length ≤ 9223372036854775807) (nc : c.length ≤ 9223372036854775807) (nd : d.length ≤ 9223372036854775807) :
    Calls Tryz.prog 42 #[.agg #[.slice ad a.length ca, .slice bd b.length cb], .agg #[.slice cd c.length cc, .slice dd d.length ce]] w (LAns (thenN a b c d) (ThenAns a b c d) w) := by
  have H1 := fun W h1 h2 h3 h4 => follows_any ad bd cd dd ca cb cc ce a b c d W h1 h2 h3 h4 fa fb fc fd na nb nc nd
  have H2 := fun W h1 h2 h3 h4 => after_any ad bd cd dd ca cb cc ce a b c d W h1 h2 h3 h4 fa fb fc fd na nb nc nd
  have H3 := fun W h1 h2 h3 h4 => after_any bd ad dd cd cb ca ce cc b a d c W h1 h2 h3 h4 fb fa fd fc nb na nd nc
  have HS : Hid (SlT w ad a ∧ SlT w bd b ∧ SlT w cd c ∧ SlT w dd d) := ⟨ha, hb, hc, hd⟩
  have fin : Hid (thenN a b c d = orN (followsN a b c d) (orN (afterN a b c d) (afterN b a d c))) := rfl
  have f0 : Hid (∀ n, thenN a b c d = n → ¬ n = 0 → ThenAns a b c d [] []) := fun n h h0 => ⟨fun e => absurd (h.symm.trans e) h0, fun _ => ⟨rfl, rfl⟩⟩
  have f1 : Hid (∀ m1 m2, thenN a b c d = 0 → afterN a b c d = 0 → afterN b a d c = 0 → AfterAns a b c d m1 → AfterAns b a d c m2 → ThenAns a b c d m1 m2) := fun m1 m2 h h2 h3 g1 g2 => ⟨fun _ => ⟨g1.1 h2, g2.1 h3⟩, fun e => absurd h e⟩
  generalize ThenAns a b c d = TA at *
  generalize AfterAns a b c d = A1 at *
  generalize AfterAns b a d c = A2 at *
  generalize thenN a b c d = N at *
  generalize followsN a b c d = n1 at *
  generalize afterN a b c d = n2 at *
  generalize afterN b a d c = n3 at *
  clear ha hb hc hd fa fb fc fd na nb nc nd
  go_enter Tryz.func42, Tryz.ntmps42
  go_wp2_with fail
  have hS0 := bstep (bstep (balloc w (.cells #[.slice ad a.length ca, .slice bd b.length cb] 31)) (balloc _ (.cells #[.slice cd c.length cc, .slice dd d.length ce] 31))) (balloc _ (.cells #[.slice none 0 0, .slice none 0 0] 31))
  refine (H1 _ (HS.out.1.below hS0) (HS.out.2.1.below hS0) (HS.out.2.2.1.below hS0) (HS.out.2.2.2.below hS0)).mono ?_
  rintro e w1 ⟨rfl, hb1⟩
  have hB1 := bstep hS0 hb1
  clear hS0 H1
  obtain ⟨x0, x1, y0, y1, z0, z1, hz, z2, z3⟩ := threebox hb1
  cases hn1 : (n1 == 0)
  · have h0 : ¬ n1 = 0 := by simpa using hn1
    have hN := fin.out.trans (orN_neg h0)
    have F0 : Hid _ := f0.out _ hN h0
    subst hN
    clear fin f0 f1 H2 H3 h0
    go_wp2_with fail
    exact bodyPost_ret (v := .tuple #[.agg #[.slice none 0 0, .slice none 0 0], errV N]) (by unfold results; rw [Tryz.results42]; go_simp) rfl (LAns.mk (below_two hB1 (by omega) _ _) [] none 0 [] none 0 (slT_nil _ _) (slT_nil _ _) F0.out)
  · have g1 : Hid (N = orN n2 n3) := fin.out.trans (orN_pos (by simpa using hn1))
    clear fin
    go_wp2_with fail
    refine (H2 _ (HS.out.1.below hB1) (HS.out.2.1.below hB1) (HS.out.2.2.1.below hB1) (HS.out.2.2.2.below hB1)).mono ?_
    rintro e w2 ⟨hb2, q, aq, cq, rfl, hq, hA1⟩
    have hB2 := bstep hB1 hb2
    have hb2' := bstep hb1 hb2
    have Hq : Hid (SlT w2 aq q ∧ A1 q) := ⟨hq, hA1⟩
    clear x0 x1 y0 y1 z0 z1 hz z2 z3 H2 hb1 hb2 hq hA1
    obtain ⟨x0, x1, y0, y1, z0, z1, hz, z2, z3⟩ := threebox hb2'
    cases hn2 : (n2 == 0)
    · have h0 : ¬ n2 = 0 := by simpa using hn2
      have hN := g1.out.trans (orN_neg h0)
      have F0 : Hid _ := f0.out _ hN h0
      subst hN
      clear g1 f0 f1 H3 h0
      go_wp2_with fail
      exact bodyPost_ret (v := .tuple #[.agg #[.slice none 0 0, .slice none 0 0], errV N]) (by unfold results; rw [Tryz.results42]; go_simp) rfl (LAns.mk (below_two hB2 (by omega) _ _) [] none 0 [] none 0 (slT_nil _ _) (slT_nil _ _) F0.out)
    · have h2 : n2 = 0 := by simpa using hn2
      have hN := g1.out.trans (orN_pos h2)
      subst hN
      have H20 : Hid (n2 = 0) := h2
      clear g1 h2
      go_wp2_with fail
      refine (H3 _ (HS.out.2.1.below hB2) (HS.out.1.below hB2) (HS.out.2.2.2.below hB2) (HS.out.2.2.1.below hB2)).mono ?_
      rintro e w3 ⟨hb3, r, ar, cr, rfl, hr, hA2⟩
      have hB3 := bstep hB2 hb3
      have hb3' := bstep hb2' hb3
      have Hr : Hid (SlT w3 aq q ∧ SlT w3 ar r ∧ A1 q ∧ A2 r) := ⟨Hq.out.1.below hb3, hr, Hq.out.2, hA2⟩
      clear x0 x1 y0 y1 z0 z1 hz z2 z3 H3 hb2' hb3 hr hA2 Hq
      obtain ⟨x0, x1, y0, y1, z0, z1, hz, z2, z3⟩ := threebox hb3'
      cases hn3 : (N == 0)
      · have h0 : ¬ N = 0 := by simpa using hn3
        have F0 : Hid _ := f0.out _ rfl h0
        clear f0 f1 h0
        go_wp2_with fail
        exact bodyPost_ret (v := .tuple #[.agg #[.slice none 0 0, .slice none 0 0], errV N]) (by unfold results; rw [Tryz.results42]; go_simp) rfl (LAns.mk (below_two hB3 (by omega) _ _) [] none 0 [] none 0 (slT_nil _ _) (slT_nil _ _) F0.out)
      · have h0 : N = 0 := by simpa using hn3
        have F1 : Hid _ := f1.out q r h0 H20.out h0 Hr.out.2.2.1 Hr.out.2.2.2
        subst h0
        rw [show errV 0 = .nilIface from rfl]
        clear f0 f1 hn3
        go_wp2_with fail
        exact bodyPost_ret (v := .tuple #[.agg #[.slice aq q.length cq, .slice ar r.length cr], .nilIface]) (by unfold results; rw [Tryz.results42]; go_simp) rfl (LAns.mk (n := 0) (below_two hB3 (by omega) _ _) q aq cq r ar cr (Hr.out.1.put2 z0 z1 _ _) (Hr.out.2.1.put2 z0 z1 _ _) F1.out)

set_option maxHeartbeats 2000000 in
set_option maxRecDepth 100000 in
theorem SameLayer_any (ad bd cd dd : Option Addr) (ca cb cc ce : Nat) (a b c d : List Tr) (w : World) (ha : SlT w ad a) (hb : SlT w bd b) (hc : SlT w cd c) (hd : SlT w dd d) (na : a.length ≤ 1000000) (nb : b.length ≤ 1000000) (nc : c.length ≤ 1000000) (nd : d.length ≤ 1000000) :
    Calls Tryz.prog 18 #[.agg #[.slice ad a.length ca, .slice bd b.length cb], .agg #[.slice cd c.length cc, .slice dd d.length ce]] w fun e w' => e = .returned (.bool (decide (a = c) && decide (b = d))) ∧ RowKit.Below w.heap.size w w' := by
  have H1 := fun W h1 h2 => SameTriples_any ad cd ca cc a c W h1 h2 na nc
  have H2 := fun W h1 h2 => SameTriples_any bd dd cb ce b d W h1 h2 nb nd
  have HS : Hid (SlT w ad a ∧ SlT w bd b ∧ SlT w cd c ∧ SlT w dd d) := ⟨ha, hb, hc, hd⟩
  generalize decide (a = c) = p at *
  generalize decide (b = d) = q at *
  clear ha hb hc hd na nb nc nd
  go_enter Tryz.func18, Tryz.ntmps18
  go_wp2_with fail
  have hS0 := bstep (balloc w (.cells #[.slice ad a.length ca, .slice bd b.length cb] 31)) (balloc _ (.cells #[.slice cd c.length cc, .slice dd d.length ce] 31))
  refine (H1 _ (HS.out.1.below hS0) (HS.out.2.2.1.below hS0)).mono ?_
  rintro e w1 ⟨rfl, hb1⟩
  have hB1 := bstep hS0 hb1
  obtain ⟨x0, x1, _, _, _⟩ := twobox1 hb1
  obtain ⟨y0, y1, _, _, _⟩ := twobox2 hb1
  clear hS0 H1
  go_wp2_with fail
  refine (H2 _ (HS.out.2.1.below hB1) (HS.out.2.2.2.below hB1)).mono ?_
  rintro e w2 ⟨rfl, hb2⟩
  have hB2 := bstep hB1 hb2
  cases p <;> cases q
  all_goals
    go_wp2_with fail
    go_ret
    exact ⟨rfl, hB2⟩
end Go.Proofs.YtnlcfnpcjkcdmadGreatDoor

/- layer's calls where nothing is wrong: between two sets and three. -/
namespace Go.Proofs.YtnlcfnpcjkcdmadGreatDoor
open Go Go.RowKit Go.Proofs
set_option synthInstance.maxSize 1000

/-- a layer's answer that is right -/
def LOk (w : World) (m1 m2 : List Tr) (e : Ending) (w' : World) : Prop := RowKit.Below w.heap.size w w' ∧ ∃ (a1 : Option Addr) (c1 : Nat) (a2 : Option Addr) (c2 : Nat), e = .returned (.tuple #[.agg #[.slice a1 m1.length c1, .slice a2 m2.length c2], .nilIface]) ∧ SlT w' a1 m1 ∧ SlT w' a2 m2
/-- a list's answer that is right -/
def TOk (w : World) (m : List Tr) (e : Ending) (w' : World) : Prop := RowKit.Below w.heap.size w w' ∧ ∃ (a1 : Option Addr) (c1 : Nat), e = .returned (.tuple #[.slice a1 m.length c1, .nilIface]) ∧ SlT w' a1 m

theorem setLen {a : List Tr} (h : IsSet a) : a.length ≤ 9223372036854775807 := by have := h.1; omega

theorem ApplyGood_any (ad a1 a2 : Option Addr) (ca c1 c2 : Nat) (a b : List Tr) (w : World) (ha : SlT w ad a) (h1 : SlT w a1 (lessL b a)) (h2 : SlT w a2 (lessL a b)) (sa : IsSet a) (sb : IsSet b) :
    Calls Tryz.prog 40 #[.slice ad a.length ca, .agg #[.slice a1 (lessL b a).length c1, .slice a2 (lessL a b).length c2]] w (TOk w b) := by
  have h0 := apply_btw sa sb
  have s1 : IsSet (lessL b a) := lessSet sb
  have s2 : IsSet (lessL a b) := lessSet sa
  refine (LApply_any ad a1 a2 ca c1 c2 a (lessL b a) (lessL a b) w ha h1 h2 sa.fit s1.fit s2.fit (setLen sa) (setLen s1) (setLen s2)).mono ?_
  rintro e w' ⟨hb', m, am, cm, rfl, hm, hA⟩
  obtain rfl := apply_btw_ans sa sb hA
  exact ⟨hb', am, cm, by rw [h0]; rfl, hm⟩
theorem CheckGood_any (a1 a2 : Option Addr) (c1 c2 : Nat) (a b : List Tr) (w : World) (h1 : SlT w a1 (lessL b a)) (h2 : SlT w a2 (lessL a b)) (sa : IsSet a) (sb : IsSet b) :
    Calls Tryz.prog 60 #[.agg #[.slice a1 (lessL b a).length c1, .slice a2 (lessL a b).length c2]] w fun e w' => e = .returned .nilIface ∧ RowKit.Below w.heap.size w w' := by
  have s1 : IsSet (lessL b a) := lessSet sb
  have s2 : IsSet (lessL a b) := lessSet sa
  refine (LCheck_any a1 a2 c1 c2 (lessL b a) (lessL a b) w h1 h2 s1.fit s2.fit (setLen s1) (setLen s2)).mono ?_
  rintro e w' ⟨rfl, hb'⟩
  exact ⟨by rw [btw_check sa sb]; rfl, hb'⟩
theorem ThenGood_any (a1 a2 a3 a4 : Option Addr) (c1 c2 c3 c4 : Nat) (a b c : List Tr) (w : World) (h1 : SlT w a1 (lessL b a)) (h2 : SlT w a2 (lessL a b)) (h3 : SlT w a3 (lessL c b)) (h4 : SlT w a4 (lessL b c)) (sa : IsSet a) (sb : IsSet b) (sc : IsSet c) :
    Calls Tryz.prog 42 #[.agg #[.slice a1 (lessL b a).length c1, .slice a2 (lessL a b).length c2], .agg #[.slice a3 (lessL c b).length c3, .slice a4 (lessL b c).length c4]] w (LOk w (lessL c a) (lessL a c)) := by
  have h0 := then_btw sa sb sc
  have s1 : IsSet (lessL b a) := lessSet sb
  have s2 : IsSet (lessL a b) := lessSet sa
  have s3 : IsSet (lessL c b) := lessSet sc
  have s4 : IsSet (lessL b c) := lessSet sb
  refine (LThen_any a1 a2 a3 a4 c1 c2 c3 c4 (lessL b a) (lessL a b) (lessL c b) (lessL b c) w h1 h2 h3 h4 s1.fit s2.fit s3.fit s4.fit (setLen s1) (setLen s2) (setLen s3) (setLen s4)).mono ?_
  rintro e w' ⟨hb', m1, am, cm, m2, an, cn, rfl, g1, g2, hA⟩
  obtain ⟨rfl, rfl⟩ := then_btw_ans sa sb sc hA
  exact ⟨hb', am, cm, an, cn, by rw [h0]; rfl, g1, g2⟩
theorem SameGood_any (ad bd : Option Addr) (ca cb : Nat) (l : List Tr) (w : World) (hl : SlT w ad l) (hm : SlT w bd l) (sl : IsSet l) :
    Calls Tryz.prog 20 #[.slice ad l.length ca, .slice bd l.length cb] w fun e w' => e = .returned (.bool true) ∧ RowKit.Below w.heap.size w w' := by
  have := SameTriples_any ad bd ca cb l l w hl hm (by have := sl.1; omega) (by have := sl.1; omega)
  rw [show decide (l = l) = true by simp] at this
  exact this
theorem SameLGood_any (a1 a2 a3 a4 : Option Addr) (c1 c2 c3 c4 : Nat) (l m : List Tr) (w : World) (h1 : SlT w a1 l) (h2 : SlT w a2 m) (h3 : SlT w a3 l) (h4 : SlT w a4 m) (sl : IsSet l) (sm : IsSet m) :
    Calls Tryz.prog 18 #[.agg #[.slice a1 l.length c1, .slice a2 m.length c2], .agg #[.slice a3 l.length c3, .slice a4 m.length c4]] w fun e w' => e = .returned (.bool true) ∧ RowKit.Below w.heap.size w w' := by
  have := SameLayer_any a1 a2 a3 a4 c1 c2 c3 c4 l m l m w h1 h2 h3 h4 (by have := sl.1; omega) (by have := sm.1; omega) (by have := sl.1; omega) (by have := sm.1; omega)
  rw [show (decide (l = l) && decide (m = m)) = true by simp] at this
  exact this

/-- a layer in a box -/
def BoxL (W : World) (b : Nat) (v0 v1 : Value) : Prop := W.cell? ⟨b, 0, none⟩ = some v0 ∧ W.cell? ⟨b, 1, none⟩ = some v1
theorem BoxL.below {W W' : World} {b : Nat} {v0 v1 : Value} (h : BoxL W b v0 v1) (hb : RowKit.Below W.heap.size W W') : BoxL W' b v0 v1 :=
  ⟨(hb.cell (World.block_lt_of_cell? W _ h.1)).trans h.1, (hb.cell (World.block_lt_of_cell? W _ h.2)).trans h.2⟩
theorem BoxL.new (w : World) (v0 v1 : Value) (T : TypeId) : BoxL (w.alloc (.cells #[v0, v1] T)) w.heap.size v0 v1 := ⟨by go_simp, by go_simp⟩
end Go.Proofs.YtnlcfnpcjkcdmadGreatDoor

/- A chain of layers, in plain words (the sets behind so many layers; a layer is what parts two of them), and a row of layers in memory. -/
namespace Go.Proofs.YtnlcfnpcjkcdmadGreatDoor
open Go Go.RowKit Go.Proofs
set_option synthInstance.maxSize 1000

/-! ### in plain words -/
abbrev Ly := List Tr × List Tr
def btw (g h : List Tr) : Ly := (lessL h g, lessL g h)
/-- the layers between sets that follow each other -/
def stepsL : List (List Tr) → List Ly
  | g :: h :: r => btw g h :: stepsL (h :: r)
  | _ => []
theorem stepsL_at : ∀ (gs : List (List Tr)) (i : Nat), (stepsL gs)[i]? = (match gs[i]?, gs[i + 1]? with | some g, some h => some (btw g h) | _, _ => none)
  | [], i => by simp [stepsL]
  | [g], i => by cases i <;> simp [stepsL]
  | g :: h :: r, 0 => by simp [stepsL]
  | g :: h :: r, i + 1 => by
    rw [stepsL, List.getElem?_cons_succ, stepsL_at (h :: r) i]
    simp
theorem stepsL_len : ∀ (gs : List (List Tr)), (stepsL gs).length = gs.length - 1
  | [] => rfl
  | [g] => rfl
  | g :: h :: r => by
    have := stepsL_len (h :: r)
    simp only [stepsL, List.length_cons] at this ⊢
    omega
theorem stepsL_get {gs : List (List Tr)} {i : Nat} {g h : List Tr} (h1 : gs[i]? = some g) (h2 : gs[i + 1]? = some h) : (stepsL gs)[i]? = some (btw g h) := by
  rw [stepsL_at, h1, h2]
theorem stepsL_snoc (gs : List (List Tr)) (g u : List Tr) (h : gs.getLast? = some g) : stepsL (gs ++ [u]) = stepsL gs ++ [btw g u] := by
  induction gs with
  | nil => simp at h
  | cons a r ih =>
    cases r with
    | nil => simp at h; subst h; simp [stepsL]
    | cons b r => rw [List.cons_append, List.cons_append, stepsL, ← List.cons_append, ih (by simpa using h), stepsL]; simp
theorem stepsL_init (gs : List (List Tr)) : stepsL gs.dropLast = (stepsL gs).dropLast := by
  induction gs with
  | nil => rfl
  | cons a r ih =>
    cases r with
    | nil => rfl
    | cons b r =>
      cases r with
      | nil => rfl
      | cons c r =>
        rw [List.dropLast_cons_cons, List.dropLast_cons_cons] at *
        rw [stepsL, ih]
        simp [stepsL]
theorem stepsL_squash (gs : List (List Tr)) (f t : Nat) (g h : List Tr) (h1 : 1 ≤ f) (h2 : f ≤ t) (hg : gs[f - 1]? = some g) (hh : gs[t]? = some h) :
    stepsL (gs.take f ++ gs.drop t) = (stepsL gs).take (f - 1) ++ btw g h :: (stepsL gs).drop t := by
  have hl : t < gs.length := (List.getElem?_eq_some_iff.1 hh).1
  apply List.ext_getElem?
  intro i
  have e : ∀ i, (gs.take f ++ gs.drop t)[i]? = if i < f then gs[i]? else gs[i - f + t]? := by
    intro i
    rw [List.getElem?_append, List.length_take, List.getElem?_take, List.getElem?_drop, Nat.min_eq_left (by omega)]
    split
    · rfl
    · congr 1; omega
  rw [stepsL_at, e, e, List.getElem?_append, List.length_take, stepsL_len, Nat.min_eq_left (by omega)]
  by_cases c1 : i < f - 1
  · rw [if_pos (by omega), if_pos (by omega), if_pos c1, List.getElem?_take_of_lt c1, stepsL_at]
  · rw [if_neg c1]
    by_cases c2 : i = f - 1
    · subst c2
      rw [if_pos (by omega), if_neg (by omega), show f - 1 + 1 - f + t = t by omega, hg, hh]
      simp
    · rw [if_neg (by omega), if_neg (by omega)]
      obtain ⟨d, rfl⟩ : ∃ d, i = f + d := ⟨i - f, by omega⟩
      rw [show f + d - (f - 1) = d + 1 by omega, List.getElem?_cons_succ, List.getElem?_drop, stepsL_at, show f + d - f + t = t + d by omega, show f + d + 1 - f + t = t + d + 1 by omega]

/-- where a layer can be laid on a set it is what parts it from what comes out -/
theorem apply_is {t a k u : List Tr} (h : applyN t a k = 0) (hj : JoinOf (lessL t k) a u) : IsSet u ∧ (a, k) = btw t u := by
  unfold applyN at h
  obtain ⟨h1, h⟩ := orN_zero.1 h
  obtain ⟨h2, h⟩ := orN_zero.1 h
  obtain ⟨h3, h⟩ := orN_zero.1 h
  obtain ⟨h4, h5⟩ := orN_zero.1 h
  have st : IsSet t := sortedN_set.1 h1
  obtain ⟨sa, sk⟩ := bothN_zero.1 (orN_zero.1 h2).1
  have d2 : ∀ x, x ∈ a → x ∉ k := by
    have := (orN_zero.1 h2).2
    intro x hx hk
    split at this
    · rename_i e
      have := List.eq_nil_of_length_eq_zero e
      have hm : x ∈ bothL a k := mem_bothL.2 ⟨hx, hk⟩
      rw [this] at hm
      simp at hm
    · simp at this
  have d3 : ∀ x, x ∈ t → x ∉ a := by
    have := (orN_zero.1 h3).2
    intro x hx hk
    split at this
    · rename_i e
      have := List.eq_nil_of_length_eq_zero e
      have hm : x ∈ bothL t a := mem_bothL.2 ⟨hx, hk⟩
      rw [this] at hm
      simp at hm
    · simp at this
  have d4 : ∀ x, x ∈ k → x ∈ t := by
    have := (orN_zero.1 h4).2
    intro x hx
    split at this
    · rename_i e
      have := List.eq_nil_of_length_eq_zero e
      by_cases hk : x ∈ t
      · exact hk
      · have hm : x ∈ lessL k t := mem_lessL.2 ⟨hx, hk⟩
        rw [this] at hm
        simp at hm
    · simp at this
  have h6 := (orN_zero.1 h5).2
  have su : IsSet u := by
    refine hj.isSet (lessSet st) sa ?_
    unfold joinN at h6
    rw [if_pos (bothN_zero.2 ⟨lessSet st, sa⟩)] at h6
    split at h6
    · assumption
    · simp at h6
  refine ⟨su, ?_⟩
  unfold btw
  congr 1
  · refine rising_unique _ _ sa.2.2 (lessSet su).2.2 fun x => ?_
    rw [mem_lessL, hj.2 x, mem_lessL]
    exact ⟨fun hx => ⟨Or.inr hx, fun ht => d3 x ht hx⟩, fun hx => by rcases hx.1 with h | h; exact absurd h.1 hx.2; exact h⟩
  · refine rising_unique _ _ sk.2.2 (lessSet st).2.2 fun x => ?_
    rw [mem_lessL, hj.2 x, mem_lessL]
    exact ⟨fun hx => ⟨d4 x hx, fun hu => by rcases hu with h | h; exact h.2 hx; exact d2 x h hx⟩, fun hx => by
      by_cases hk : x ∈ k
      · exact hk
      · exact absurd (Or.inl ⟨hx.1, hk⟩) hx.2⟩

/-! ### a row of layers in memory -/
abbrev Vp := Value × Value
def slB : Value → Bool | .slice _ _ _ => true | _ => false
def cellsL (xs : List Vp) : List Value := xs.flatMap fun x => [x.1, x.2]
theorem cellsL_len (xs : List Vp) : (cellsL xs).length = xs.length * 2 := by
  induction xs with
  | nil => rfl
  | cons x r ih => simp only [cellsL, List.flatMap_cons, List.length_append, List.length_cons, List.length_nil] at ih ⊢; omega
theorem cellsL_app (xs ys : List Vp) : cellsL (xs ++ ys) = cellsL xs ++ cellsL ys := by simp [cellsL]
theorem cellsL_at : ∀ (xs : List Vp) (q : Nat), (cellsL xs)[q]? = (xs[q / 2]?).map fun x => if q % 2 = 0 then x.1 else x.2
  | [], q => by simp [cellsL]
  | x :: r, 0 => by simp [cellsL]
  | x :: r, 1 => by simp [cellsL]
  | x :: r, q + 2 => by
    have := cellsL_at r q
    simp only [cellsL, List.flatMap_cons] at this ⊢
    rw [show (q + 2) / 2 = q / 2 + 1 by omega, show (q + 2) % 2 = q % 2 by omega]
    simpa using this

/-- a row of layers at block g: room for cap of them, all its cells are lists -/
structure Sheet (w : World) (g cap : Nat) (xs : List Vp) : Prop where
  le : xs.length ≤ cap
  max : cap ≤ maxLen
  free : ∀ j, j < cap * 2 → w.frozen? ⟨g, j, none⟩ = false
  sl : ∀ j, j < cap * 2 → ∃ a n c, w.cell? ⟨g, j, none⟩ = some (.slice a n c)
  at_ : ∀ j u, (cellsL xs)[j]? = some u → w.cell? ⟨g, j, none⟩ = some u
def SheetV (w : World) (base : Nat) (v : Value) (xs : List Vp) : Prop := (v = .slice none 0 0 ∧ xs = []) ∨ ∃ g cap, v = .slice (some ⟨g, 0, none⟩) xs.length cap ∧ base ≤ g ∧ g < w.heap.size ∧ Sheet w g cap xs

theorem Sheet.keep {w w' : World} {g cap : Nat} {xs : List Vp} (h : Sheet w g cap xs) (hb : w'.heap[g]? = w.heap[g]?) : Sheet w' g cap xs :=
  ⟨h.le, h.max, fun j hj => (World.frozen?_of_block (w := w) hb).trans (h.free j hj), fun j hj => by obtain ⟨a, n, c, e⟩ := h.sl j hj; exact ⟨a, n, c, (World.cell?_of_block (w := w) hb).trans e⟩, fun j u hu => (World.cell?_of_block (w := w) hb).trans (h.at_ j u hu)⟩
theorem SheetV.keep {w w' : World} {base : Nat} {v : Value} {xs : List Vp} (h : SheetV w base v xs) (hz : w.heap.size ≤ w'.heap.size) (hb : ∀ g, v.ownBlock = some g → w'.heap[g]? = w.heap[g]?) : SheetV w' base v xs := by
  rcases h with h | ⟨g, cap, rfl, hg, hlt, h⟩
  · exact Or.inl h
  · exact Or.inr ⟨g, cap, rfl, hg, by omega, h.keep (hb g rfl)⟩
theorem SheetV.lt {w : World} {base : Nat} {v : Value} {xs : List Vp} (h : SheetV w base v xs) : ∀ g, v.ownBlock = some g → base ≤ g ∧ g < w.heap.size := fun g hg => by
  rcases h with ⟨rfl, _⟩ | ⟨g', cap, rfl, hg', hlt, h⟩
  · simp [Value.ownBlock] at hg
  · simp [Value.ownBlock] at hg
    subst hg
    exact ⟨hg', hlt⟩
theorem SheetV.below {w w' : World} {base : Nat} {v : Value} {xs : List Vp} (h : SheetV w base v xs) (hb : RowKit.Below w.heap.size w w') : SheetV w' base v xs :=
  h.keep hb.size fun g hg => hb.block g (h.lt g hg).2

/-- rows of triples outlast a store where lists lay -/
theorem SlT.puts {W : World} {ad : Option Addr} {l : List Tr} (h : SlT W ad l) (g p : Nat) (vs : List Value) (hs : ∀ j, j < vs.length → ∃ a n c, W.cell? ⟨g, p + j, none⟩ = some (.slice a n c)) : SlT (W.setCells g p vs) ad l := fun hl => by
  obtain ⟨b, o, rfl, hr⟩ := h hl
  refine ⟨b, o, rfl, fun j u hu => ?_⟩
  have hc := hr j u hu
  rw [World.cell?_setCells_out g vs p W ⟨b, o + j, none⟩ (fun e1 _ => ?_)]
  · exact hc
  · dsimp only at e1 ⊢
    subst e1
    by_cases hq : o + j < p ∨ p + vs.length ≤ o + j
    · exact hq
    · exfalso
      obtain ⟨a, n, c, e⟩ := hs (o + j - p) (by omega)
      rw [show p + (o + j - p) = o + j by omega, hc] at e
      obtain rfl := Option.some.inj e
      have hm := List.mem_of_getElem? hu
      unfold cellsT at hm
      obtain ⟨x, _, hx⟩ := List.mem_flatMap.1 hm
      simp [encTr] at hx

theorem Sheet.write {w : World} {g cap : Nat} {xs : List Vp} (h : Sheet w g cap xs) (p : Nat) (vs : List Value) (hv : ∀ u ∈ vs, slB u = true) (hfit : p + vs.length ≤ cap * 2) (ys : List Vp) (hy : ys.length ≤ cap)
    (hat : ∀ j u, (cellsL ys)[j]? = some u → if p ≤ j ∧ j < p + vs.length then vs[j - p]? = some u else (cellsL xs)[j]? = some u) : Sheet (w.setCells g p vs) g cap ys := by
  have hin := World.cell?_setCells_in g vs p w (fun j hj => by obtain ⟨a, n, c, e⟩ := h.sl (p + j) (by omega); rw [e]; rfl)
  have hout := World.cell?_setCells_out g vs p w
  refine ⟨hy, h.max, fun j hj => by rw [World.frozen?_setCells]; exact h.free j hj, fun j hj => ?_, fun j u hu => ?_⟩
  · by_cases hq : p ≤ j ∧ j < p + vs.length
    · have e := hin (j - p) (by omega)
      rw [show p + (j - p) = j by omega] at e
      have hb := hv vs[j - p] (List.getElem_mem _)
      rw [e]
      generalize vs[j - p]'(by omega) = u at *
      cases u <;> first | exact ⟨_, _, _, rfl⟩ | (simp [slB] at hb)
    · rw [hout ⟨g, j, none⟩ (fun _ _ => by dsimp only; omega)]
      exact h.sl j hj
  · have hu' := hat j u hu
    by_cases hq : p ≤ j ∧ j < p + vs.length
    · rw [if_pos hq] at hu'
      have e := hin (j - p) (by omega)
      rw [show p + (j - p) = j by omega] at e
      rw [e]
      exact (List.getElem?_eq_getElem (by omega)).symm.trans hu'
    · rw [if_neg hq] at hu'
      rw [hout ⟨g, j, none⟩ (fun _ _ => by dsimp only; omega)]
      exact h.at_ j u hu'
theorem Sheet.puts {w : World} {g cap : Nat} {xs : List Vp} (h : Sheet w g cap xs) (p : Nat) (vs : List Value) (hfit : p + vs.length ≤ cap * 2) {ad : Option Addr} {l : List Tr} (hl : SlT w ad l) : SlT (w.setCells g p vs) ad l :=
  hl.puts g p vs fun j hj => h.sl (p + j) (by omega)

/-- a layer's lists -/
def LayV (w : World) (x : Vp) (l : Ly) : Prop := ∃ a1 c1 a2 c2, x = (.slice a1 l.1.length c1, .slice a2 l.2.length c2) ∧ SlT w a1 l.1 ∧ SlT w a2 l.2
def RowsOn (w w' : World) : Prop := ∀ ad l, SlT w ad l → SlT w' ad l
theorem RowsOn.of_below {w w' : World} (h : RowKit.Below w.heap.size w w') : RowsOn w w' := fun _ _ k => k.below h
theorem RowsOn.trans {a b c : World} (h : RowsOn a b) (k : RowsOn b c) : RowsOn a c := fun _ _ x => k _ _ (h _ _ x)
theorem LayV.rows {w w' : World} {x : Vp} {l : Ly} (h : LayV w x l) (hr : RowsOn w w') : LayV w' x l := by
  obtain ⟨a1, c1, a2, c2, rfl, h1, h2⟩ := h
  exact ⟨a1, c1, a2, c2, rfl, hr _ _ h1, hr _ _ h2⟩
/-- layers, each by its lists -/
def LaysV (w : World) (xs : List Vp) (ls : List Ly) : Prop := xs.length = ls.length ∧ ∀ (i : Nat) (x : Vp) (l : Ly), xs[i]? = some x → ls[i]? = some l → LayV w x l
theorem LaysV.rows {w w' : World} {xs : List Vp} {ls : List Ly} (h : LaysV w xs ls) (hr : RowsOn w w') : LaysV w' xs ls := ⟨h.1, fun i x l h1 h2 => (h.2 i x l h1 h2).rows hr⟩
theorem LaysV.nil (w : World) : LaysV w [] [] := ⟨rfl, fun i x l h => by simp at h⟩
theorem LaysV.snoc {w : World} {xs : List Vp} {ls : List Ly} {x : Vp} {l : Ly} (h : LaysV w xs ls) (hx : LayV w x l) : LaysV w (xs ++ [x]) (ls ++ [l]) := by
  refine ⟨by simp [h.1], fun i y m h1 h2 => ?_⟩
  by_cases hi : i < xs.length
  · rw [List.getElem?_append_left hi] at h1
    rw [List.getElem?_append_left (by rw [← h.1]; exact hi)] at h2
    exact h.2 i y m h1 h2
  · rw [List.getElem?_append_right (by omega)] at h1
    rw [List.getElem?_append_right (by rw [← h.1]; omega)] at h2
    have e : i - xs.length = 0 := by
      have := (List.getElem?_eq_some_iff.1 h1).1
      simp at this
      omega
    rw [← h.1] at h2
    rw [e] at h1 h2
    simp at h1 h2
    subst h1 h2
    exact hx
theorem LaysV.cut {w : World} {xs : List Vp} {ls : List Ly} {x : Vp} {l : Ly} (h : LaysV w xs ls) (hx : LayV w x l) (i j : Nat) (hij : i ≤ j) (hj : j ≤ xs.length) : LaysV w (xs.take i ++ x :: xs.drop j) (ls.take i ++ l :: ls.drop j) := by
  have hl := h.1
  refine ⟨by simp only [List.length_append, List.length_take, List.length_cons, List.length_drop]; omega, fun k y m h1 h2 => ?_⟩
  rw [List.getElem?_append, List.length_take, Nat.min_eq_left (by omega)] at h1 h2
  by_cases c1 : k < i
  · rw [if_pos c1, List.getElem?_take_of_lt c1] at h1 h2
    exact h.2 k y m h1 h2
  · rw [if_neg c1] at h1 h2
    cases hd : k - i with
    | zero => rw [hd] at h1 h2; simp at h1 h2; subst h1 h2; exact hx
    | succ d =>
      rw [hd, List.getElem?_cons_succ, List.getElem?_drop] at h1 h2
      exact h.2 _ y m h1 h2
theorem LaysV.init {w : World} {xs : List Vp} {ls : List Ly} (h : LaysV w xs ls) : LaysV w xs.dropLast ls.dropLast := by
  have hl := h.1
  refine ⟨by simp [hl], fun k y m h1 h2 => ?_⟩
  have k1 := (List.getElem?_eq_some_iff.1 h1).1
  simp at k1
  rw [List.getElem?_dropLast, if_pos (by omega)] at h1 h2
  exact h.2 k y m h1 h2

/-- the world behind a change of the rows at n0 and of v alone -/
structure Off (n0 : Nat) (v : Value) (w w' : World) : Prop where
  os : w'.os = w.os
  tape : w'.tape = w.tape
  output : w'.output = w.output
  size : w.heap.size ≤ w'.heap.size
  block : ∀ k, k < w.heap.size → k ≠ n0 → v.ownBlock ≠ some k → w'.heap[k]? = w.heap[k]?
  rows : RowsOn w w'
theorem Off.of_below {n0 : Nat} {v : Value} {w w' : World} (h : RowKit.Below w.heap.size w w') : Off n0 v w w' := ⟨h.os, h.tape, h.output, h.size, fun k hk _ _ => h.block k hk, RowsOn.of_below h⟩
/-- the second change may be at a row that is new behind the first -/
theorem Off.trans {n0 : Nat} {v v' : Value} {a b c : World} (h : Off n0 v a b) (k : Off n0 v' b c) (hv : v'.ownBlock = v.ownBlock ∨ ∀ g, v'.ownBlock = some g → a.heap.size ≤ g) : Off n0 v a c :=
  ⟨k.os.trans h.os, k.tape.trans h.tape, k.output.trans h.output, Nat.le_trans h.size k.size, fun i hi h1 h2 => (k.block i (Nat.lt_of_lt_of_le hi h.size) h1 (by
    rcases hv with hv | hv
    · rw [hv]; exact h2
    · intro e
      have := hv i e
      omega)).trans (h.block i hi h1 h2), h.rows.trans k.rows⟩
theorem Off.step {n0 : Nat} {v : Value} {a b c : World} (h : Off n0 v a b) (k : RowKit.Below b.heap.size b c) : Off n0 v a c := h.trans (Off.of_below (v := v) k) (Or.inl rfl)
theorem Off.below {n0 : Nat} {v : Value} {B : Nat} {a b : World} (h : Off n0 v a b) (hn : B ≤ n0) (hv : ∀ g, v.ownBlock = some g → B ≤ g) (hB : B ≤ a.heap.size) : RowKit.Below B a b :=
  ⟨h.os, h.tape, h.output, h.size, fun k hk => h.block k (by omega) (by omega) (fun e => by have := hv k e; omega)⟩

/-- a chain at block n0: its list of layers is v; behind so many of them there are the sets gs -/
def ChainAt (w : World) (n0 : Nat) (v : Value) (gs : List (List Tr)) : Prop :=
  ∃ s r bd cb xs, gs = s :: r ∧ (∀ g ∈ gs, IsSet g) ∧ w.heap[n0]? = some (.cells #[.slice bd s.length cb, v] 84) ∧ SlT w bd s ∧ SheetV w (n0 + 1) v xs ∧ LaysV w xs (stepsL gs)
theorem ChainAt.lt {w : World} {n0 : Nat} {v : Value} {gs : List (List Tr)} (h : ChainAt w n0 v gs) : n0 < w.heap.size := by
  obtain ⟨s, r, bd, cb, xs, rfl, _, h, _⟩ := h
  exact (Array.getElem?_eq_some_iff.1 h).1
theorem ChainAt.own {w : World} {n0 : Nat} {v : Value} {gs : List (List Tr)} (h : ChainAt w n0 v gs) : ∀ g, v.ownBlock = some g → n0 + 1 ≤ g ∧ g < w.heap.size := by
  obtain ⟨s, r, bd, cb, xs, rfl, _, _, _, h, _⟩ := h
  exact h.lt
theorem ChainAt.below {w w' : World} {n0 : Nat} {v : Value} {gs : List (List Tr)} (h : ChainAt w n0 v gs) (hb : RowKit.Below w.heap.size w w') : ChainAt w' n0 v gs := by
  have hlt := h.lt
  obtain ⟨s, r, bd, cb, xs, rfl, h0, h1, h2, h3, h4⟩ := h
  exact ⟨s, r, bd, cb, xs, rfl, h0, (hb.block n0 hlt).trans h1, h2.below hb, h3.below hb, h4.rows (RowsOn.of_below hb)⟩
/-- a chain is not touched by what is done to another one's rows -/
theorem ChainAt.keep {w w' : World} {n0 : Nat} {v : Value} {gs : List (List Tr)} (h : ChainAt w n0 v gs) (hz : w.heap.size ≤ w'.heap.size) (hr : RowsOn w w') (hb : ∀ k, k = n0 ∨ v.ownBlock = some k → w'.heap[k]? = w.heap[k]?) : ChainAt w' n0 v gs := by
  obtain ⟨s, r, bd, cb, xs, rfl, h0, h1, h2, h3, h4⟩ := h
  exact ⟨s, r, bd, cb, xs, rfl, h0, (hb n0 (Or.inl rfl)).trans h1, hr _ _ h2, h3.keep hz fun g hg => hb g (Or.inr hg), h4.rows hr⟩
end Go.Proofs.YtnlcfnpcjkcdmadGreatDoor
