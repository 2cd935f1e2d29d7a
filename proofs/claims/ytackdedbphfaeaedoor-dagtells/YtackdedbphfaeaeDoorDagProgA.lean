/- The program's dag: Ancestors, Is, Log. -/
import Derived.Test.YtackdedbphfaeaeDoorDagAsk
namespace Go.Proofs.YtackdedbphfaeaeDoor
open Go Go.RowKit Go.Proofs
set_option synthInstance.maxSize 1000

theorem allE_one (l : List Cm) (i : Int) : allE l [i] = ancE l i := by
  unfold allE ancE rangeB
  simp
theorem rangeB_two (a b : Int) (n : Nat) : rangeB [a, b] n = true ↔ (0 ≤ a ∧ a < (n : Int)) ∧ 0 ≤ b ∧ b < (n : Int) := by
  unfold rangeB
  rw [List.all_cons, List.all_cons, List.all_nil, Bool.and_true, Bool.and_eq_true, decide_eq_true_eq, decide_eq_true_eq]
theorem allE_two (l : List Cm) (a b : Int) : allE l [a, b] = twoE l a b := by
  unfold twoE allE ancE
  by_cases h1 : (comsN l).2 ≠ 0
  · rw [if_pos h1, if_pos h1, if_pos h1]
  · simp only [if_neg h1]
    by_cases h2 : 0 ≤ a ∧ a < (l.length : Int)
    · by_cases h3 : 0 ≤ b ∧ b < (l.length : Int)
      · rw [if_pos ((rangeB_two a b _).2 ⟨h2, h3⟩), if_pos h2, if_pos h3]
        simp
      · rw [if_neg (fun h => h3 ((rangeB_two a b _).1 h).2), if_pos h2, if_neg h3]
        simp
    · rw [if_neg (fun h => h2 ((rangeB_two a b _).1 h).1), if_neg h2]
      simp
theorem slOne {W : World} {b : Nat} {i : Int} (h : W.cell? ⟨b, 0, none⟩ = some (.int .i64 i)) : SlI W (some ⟨b, 0, none⟩) [i] := fun _ => ⟨b, 0, rfl, fun j hj => by
  simp at hj
  subst hj
  exact h⟩
theorem slTwo {W : World} {b : Nat} {i k : Int} (h : W.cell? ⟨b, 0, none⟩ = some (.int .i64 i)) (h2 : W.cell? ⟨b, 1, none⟩ = some (.int .i64 k)) : SlI W (some ⟨b, 0, none⟩) [i, k] := fun _ => ⟨b, 0, rfl, fun j hj => by
  simp at hj
  rcases (by omega : j = 0 ∨ j = 1) with rfl | rfl
  · exact h
  · exact h2⟩
theorem DAll1_any (w : World) (ad : Option Addr) (ca : Nat) (l : List Cm) (b : Nat) (i : Int) (h : ComsOK w ad ca l) (hb : w.cell? ⟨b, 0, none⟩ = some (.int .i64 i)) :
    Calls Tryd.prog 39 #[.slice ad l.length ca, .slice (some ⟨b, 0, none⟩) 1 1] w fun e w' => e = .returned (errV (ancE l i)) ∧ RowKit.Below w.heap.size w w' := by
  have := DAll_any w ad ca l (some ⟨b, 0, none⟩) 1 [i] h (slOne hb) (by unfold maxLen; simp)
  rw [allE_one] at this
  exact this
theorem DAll2_any (w : World) (ad : Option Addr) (ca : Nat) (l : List Cm) (b : Nat) (i k : Int) (h : ComsOK w ad ca l) (hb : w.cell? ⟨b, 0, none⟩ = some (.int .i64 i)) (hb2 : w.cell? ⟨b, 1, none⟩ = some (.int .i64 k)) :
    Calls Tryd.prog 39 #[.slice ad l.length ca, .slice (some ⟨b, 0, none⟩) 2 2] w fun e w' => e = .returned (errV (twoE l i k)) ∧ RowKit.Below w.heap.size w w' := by
  have := DAll_any w ad ca l (some ⟨b, 0, none⟩) 2 [i, k] h (slTwo hb hb2) (by unfold maxLen; simp)
  rw [allE_two] at this
  exact this
theorem those_up {l : List Cm} {i : Nat} {Bl : List Bool} (hB : Bl.length = l.length) (hu : ∀ k, onB Bl k = true ↔ Up l i k) : upP l i (thoseN (fun x => onB Bl x.toNat) l.length) := by
  refine ⟨those_rise _ _, fun k => ?_⟩
  rw [those_mem, ← hu k]
  constructor
  · rintro ⟨_, h⟩; simpa using h
  · intro h
    exact ⟨by have := onB_lt h; omega, by simpa using h⟩
theorem list_bad {w w' : World} {f : Int} {P : List Nat → Prop} (hf : f ≠ 0) (hb : RowKit.Below w.heap.size w w') : ListAns w f P (.returned (.tuple #[.slice none 0 0, errV f])) w' :=
  ⟨none, 0, [], rfl, fun h => absurd h hf, fun _ => rfl, fun h => absurd rfl h, hb, by simp, fun h => absurd rfl h, by simp⟩
theorem list_new {w w1 w' : World} {P : List Nat → Prop} {m : List Nat} {a : Option Addr} {c : Nat} (hP : P m) (hb : RowKit.Below w.heap.size w w1) (h : NewL w1 m a c w') (hm : m.length ≤ 60) : ListAns w 0 P (.returned (.tuple #[.slice a m.length c, errV 0])) w' :=
  ⟨a, c, m, rfl, fun _ => hP, fun h => absurd rfl h, h.1, bstep hb h.2.1, hm, fun hne d hd => Nat.le_trans hb.size (h.2.2.1 hne d hd), h.2.2.2.1⟩
/-- a list that may be written into -/
def Unfr (e : Ending) (w' : World) : Prop := ∀ d n c x, e = .returned (.tuple #[.slice (some d) n c, x]) → ∀ j, w'.frozen? ⟨d.block, d.off + j, none⟩ = false
theorem cellNew1 (w : World) (v : Value) (T : TypeId) : (w.alloc (.cells #[v] T)).cell? ⟨w.heap.size, 0, none⟩ = some v := by go_simp
theorem cellNew2 (w : World) (u v : Value) (T : TypeId) : (w.alloc (.cells #[u, v] T)).cell? ⟨w.heap.size, 0, none⟩ = some u ∧ (w.alloc (.cells #[u, v] T)).cell? ⟨w.heap.size, 1, none⟩ = some v := ⟨by go_simp, by go_simp⟩

def ListU (w : World) (f : Int) (P : List Nat → Prop) (e : Ending) (w' : World) : Prop := ListAns w f P e w' ∧ Unfr e w'
set_option maxHeartbeats 4000000 in
set_option maxRecDepth 100000 in
theorem DAncU_any (w : World) (ad : Option Addr) (ca : Nat) (l : List Cm) (i : Int) (h : ComsOK w ad ca l) :
    Calls Tryd.prog 23 #[.slice ad l.length ca, .int .i64 i] w fun e w' => ListU w (ancE l i) (upP l i.toNat) e w' := by
  have H := hideO h
  clear h
  by_cases hnn : ancE l i = 0
  · obtain ⟨hG, h0, h1⟩ := ancE_zero hnn
    obtain ⟨k, rfl⟩ := Int.eq_ofNat_of_zero_le h0
    have hk : k < l.length := by omega
    have hz : l.length ≤ 60 := hG.1
    have HG := hideO hG
    have HN := hideO hnn
    rw [hnn]
    clear hG h0 h1 hnn
    go_enter Tryd.func23, Tryd.ntmps23
    go_wp2_with fail
    refine (DAll1_any _ ad ca l _ (k : Int) (H.out.below (balloc _ _)) (cellNew1 _ _ _)).mono ?_
    rintro e w1 ⟨rfl, hb1⟩
    rw [HN.out, show errV 0 = Value.nilIface from rfl]
    dsimp only
    have hbw := hideO (bstep (balloc _ _) hb1)
    clear hb1
    go_wp2_with fail
    refine (DAsker_any ad ca l k w1 (H.out.below hbw.out).sl HG.out hk).mono ?_
    rintro e w2 ⟨F, bi, Bl, rfl, hask, hb2⟩
    dsimp only
    have hbw2 := hideO (bstep hbw.out hb2)
    have HA := hideO hask
    clear hask hb2 hbw
    go_wp2_with fail
    refine (DThose_any 56 _ (fun x => onB Bl x.toNat) w2 ad l.length ca entersAsk (by have := dask_pred HA.out.at_; rw [HA.out.len] at this; exact this) hz).mono ?_
    rintro e w3 ⟨a, c, rfl, hnew⟩
    dsimp only
    have hfin : Hid (ListU w 0 (upP l k) (.returned (.tuple #[.slice a (thoseN (fun x => onB Bl x.toNat) l.length).length c, .nilIface])) w3) := ⟨list_new (P := upP l k) (those_up HA.out.len HA.out.up) hbw2.out hnew (Nat.le_trans (those_len _ _) hz), fun d n c' x he j => by cases he; exact hnew.2.2.2.2 d j rfl⟩
    clear hnew
    generalize (thoseN (fun x => onB Bl x.toNat) l.length).length = q at *
    go_wp2_with fail
    exact bodyPost_ret (v := .tuple #[.slice a q c, .nilIface]) (by simp [results, Tryd.results23, go_sem]) rfl hfin.out
  · have hev := hideO (errV_some hnn)
    have hfin : Hid (∀ w', RowKit.Below w.heap.size w w' → ListU w (ancE l i) (upP l i.toNat) (.returned (.tuple #[.slice none 0 0, errV (ancE l i)])) w') := fun w' hb => ⟨list_bad hnn hb, fun d n c' x he => by cases he⟩
    clear hnn
    go_enter Tryd.func23, Tryd.ntmps23
    go_wp2_with fail
    refine (DAll1_any _ ad ca l _ i (H.out.below (balloc _ _)) (cellNew1 _ _ _)).mono ?_
    rintro e w1 ⟨rfl, hb1⟩
    have hf2 := hideO (hfin.out _ (bstep (balloc _ _) hb1))
    rw [hev.out] at hf2 ⊢
    dsimp only
    go_wp2_with fail
    exact bodyPost_ret (v := .tuple #[.slice none 0 0, .iface 74 (.int .i64 (ancE l i))]) (by simp [results, Tryd.results23, go_sem]) rfl hf2.out
theorem DAnc_any (w : World) (ad : Option Addr) (ca : Nat) (l : List Cm) (i : Int) (h : ComsOK w ad ca l) :
    Calls Tryd.prog 23 #[.slice ad l.length ca, .int .i64 i] w fun e w' => ListAns w (ancE l i) (upP l i.toNat) e w' := (DAncU_any w ad ca l i h).mono fun _ _ h => h.1
def IsAns (w : World) (l : List Cm) (a b : Int) (e : Ending) (w' : World) : Prop := ∃ q : Bool, e = .returned (.tuple #[.bool q, errV (twoE l a b)]) ∧ (twoE l a b = 0 → (q = true ↔ Up l b.toNat a.toNat)) ∧ (twoE l a b ≠ 0 → q = false) ∧ RowKit.Below w.heap.size w w'
set_option maxHeartbeats 4000000 in
set_option maxRecDepth 100000 in
theorem DIs_any (w : World) (ad : Option Addr) (ca : Nat) (l : List Cm) (a b : Int) (h : ComsOK w ad ca l) :
    Calls Tryd.prog 28 #[.slice ad l.length ca, .int .i64 a, .int .i64 b] w  fun e w' => IsAns w l a b e w' := by
  have H := hideO h
  clear h
  by_cases hnn : twoE l a b = 0
  · obtain ⟨ha, hb⟩ := twoE_zero.1 hnn
    obtain ⟨hG, h0, h1⟩ := ancE_zero ha
    obtain ⟨_, h2, h3⟩ := ancE_zero hb
    obtain ⟨x, rfl⟩ := Int.eq_ofNat_of_zero_le h0
    obtain ⟨y, rfl⟩ := Int.eq_ofNat_of_zero_le h2
    have hx : x < l.length := by omega
    have hy : y < l.length := by omega
    have HG := hideO hG
    have HN := hideO hnn
    clear hG h0 h1 h2 h3 ha hb hnn
    go_enter Tryd.func28, Tryd.ntmps28
    go_wp2_with fail
    refine (DAll2_any _ ad ca l _ (x : Int) (y : Int) (H.out.below (balloc _ _)) (cellNew2 _ _ _ _).1 (cellNew2 _ _ _ _).2).mono ?_
    rintro e w1 ⟨rfl, hb1⟩
    rw [HN.out, show errV 0 = Value.nilIface from rfl]
    dsimp only
    have hbw := hideO (bstep (balloc _ _) hb1)
    clear hb1
    go_wp2_with fail
    refine (DAsker_any ad ca l y w1 (H.out.below hbw.out).sl HG.out hy).mono ?_
    rintro e w2 ⟨F, bi, Bl, rfl, hask, hb2⟩
    dsimp only
    have hbw2 := hideO (bstep hbw.out hb2)
    have HA := hideO hask
    have hcall := dask1_any w2 F bi Bl x hask.at_ (by rw [hask.len]; exact hx)
    have eg := entersAsk
    clear hask hb2 hbw
    go_wp2_with fail
    go_at_fn 56
    refine hcall.mono ?_
    rintro e w3 ⟨rfl, hb3⟩
    dsimp only
    have hfin : Hid (IsAns w l (x : Int) (y : Int) (.returned (.tuple #[.bool (onB Bl x), .nilIface])) w3) := by
      refine ⟨onB Bl x, by rw [HN.out]; rfl, fun _ => ?_, fun h => absurd HN.out h, bstep hbw2.out hb3⟩
      simpa using HA.out.up x
    clear hcall
    generalize onB Bl x = q at *
    go_wp2_with fail
    exact bodyPost_ret (v := .tuple #[.bool q, .nilIface]) (by simp [results, Tryd.results28, go_sem]) rfl hfin.out
  · have hev := hideO (errV_some hnn)
    have hfin : Hid (∀ w', RowKit.Below w.heap.size w w' → IsAns w l a b (.returned (.tuple #[.bool false, errV (twoE l a b)])) w') := fun w' hb => by
      exact ⟨false, rfl, fun h => absurd h hnn, fun _ => rfl, hb⟩
    clear hnn
    go_enter Tryd.func28, Tryd.ntmps28
    go_wp2_with fail
    refine (DAll2_any _ ad ca l _ a b (H.out.below (balloc _ _)) (cellNew2 _ _ _ _).1 (cellNew2 _ _ _ _).2).mono ?_
    rintro e w1 ⟨rfl, hb1⟩
    have hf2 := hideO (hfin.out _ (bstep (balloc _ _) hb1))
    rw [hev.out] at hf2 ⊢
    dsimp only
    go_wp2_with fail
    exact bodyPost_ret (v := .tuple #[.bool false, .iface 74 (.int .i64 (twoE l a b))]) (by simp [results, Tryd.results28, go_sem]) rfl hf2.out
end Go.Proofs.YtackdedbphfaeaeDoor
