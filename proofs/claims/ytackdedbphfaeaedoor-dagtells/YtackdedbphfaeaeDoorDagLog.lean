/- The program's dag: Log. -/
import Derived.Test.YtackdedbphfaeaeDoorDagProgA
import Derived.Test.YtackdedbphfaeaeDoorShelf
import Derived.Sort.Row
namespace Go.Proofs.YtackdedbphfaeaeDoor
open Go Go.RowKit Go.Proofs Go.Sort
set_option synthInstance.maxSize 1000

theorem below_put {w w1 : World} {b o n B : Nat} {d : Array Int} (h : RowKit.Below B w w1) (hB : B ≤ b) : RowKit.Below B w (putRow (Value.int .i64) (Sort.ahead w1 n) b o d) := by
  refine h.trans ⟨rfl, rfl, rfl, ?_, fun k hk => ?_⟩
  · simp [putRow, mapBlock, Sort.ahead]
  · simp only [putRow, mapBlock, Sort.ahead, Array.getElem?_modify]
    rw [if_neg (by omega)]
theorem sl_put {w1 : World} {b o n : Nat} {l m : List Int} (h : Holds (Value.int .i64) w1 b o l.toArray) (hm : m.length = l.length) : SlI (putRow (Value.int .i64) (Sort.ahead w1 n) b o m.toArray) (some ⟨b, o, none⟩) m := by
  intro _
  refine ⟨b, o, rfl, fun j hj => ?_⟩
  have := (holds_putRow (Value.int .i64) (Sort.ahead w1 n) b o l.toArray m.toArray (holds_ahead _ w1 n b o _ h) (by simp [hm]) j (by simpa using hj)).1
  rw [this]
  simp [hj]
theorem natI_rev (m : List Nat) : (natI m).reverse = natI m.reverse := by unfold natI; rw [List.map_reverse]

set_option maxHeartbeats 4000000 in
set_option maxRecDepth 100000 in
theorem DLog_any (w : World) (ad : Option Addr) (ca : Nat) (l : List Cm) (i : Int) (h : ComsOK w ad ca l) :
    Calls Tryd.prog 24 #[.slice ad l.length ca, .int .i64 i] w fun e w' => ListAns w (ancE l i) (logP l i.toNat) e w' := by
  have hc := DAncU_any w ad ca l i h
  clear h
  generalize ancE l i = f at *
  go_enter Tryd.func24, Tryd.ntmps24
  go_wp2_with fail
  refine hc.mono ?_
  rintro e w1 ⟨⟨a, c, m, rfl, hP, hN, hS, hb, hz, hnew, hcap⟩, hU⟩
  dsimp only
  have HP : Hid (f = 0 → logP l i.toNat m.reverse) := fun e => by
    have := hP e
    unfold logP
    rw [List.reverse_reverse]
    exact this
  have HN : Hid (f ≠ 0 → m.reverse = []) := fun e => by rw [hN e]; rfl
  clear hc hP hN
  cases m with
  | nil =>
    have hr := Tryd.slices_Reverse_int_empty a c w1
    have hfin : Hid (ListAns w f (logP l i.toNat) (.returned (.tuple #[.slice a 0 c, errV f])) w1) := ⟨a, c, [], rfl, HP.out, fun _ => rfl, fun h => absurd rfl h, hb, by simp, fun h => absurd rfl h, by simp⟩
    clear hS hb hz hnew hcap hU HP HN
    go_wp2_with fail
    refine hr.mono ?_
    rintro e w2 ⟨rfl, rfl⟩
    dsimp only
    go_wp2_with fail
    exact bodyPost_ret (v := .tuple #[.slice a 0 c, errV f]) (by simp [results, Tryd.results24, go_sem]) rfl hfin.out
  | cons z r =>
    obtain ⟨b, o, rfl, hcells⟩ := hS (by simp [natI])
    have hH : Holds (Value.int .i64) w1 b o (natI (z :: r)).toArray := fun j hj => by
      have hj' : j < (natI (z :: r)).length := by simpa using hj
      refine ⟨?_, hU ⟨b, o, none⟩ _ _ _ rfl j⟩
      rw [hcells j hj']
      simp [hj']
    have hr := Tryd.slices_Reverse_int b o c (natI (z :: r)) w1 hH (by rw [natI_len]; omega)
    rw [natI_len] at hr
    have hbb := hnew (by simp) _ rfl
    have hfin : Hid (∀ n, ListAns w f (logP l i.toNat) (.returned (.tuple #[.slice (some ⟨b, o, none⟩) (z :: r).length c, errV f])) (putRow (Value.int .i64) (Sort.ahead w1 n) b o (natI (z :: r)).reverse.toArray)) := fun n => by
      refine ⟨some ⟨b, o, none⟩, c, (z :: r).reverse, by rw [List.length_reverse], HP.out, HN.out, ?_, below_put hb hbb, by rw [List.length_reverse]; exact hz, fun _ d hd => by cases hd; exact hbb, by rw [List.length_reverse]; exact hcap⟩
      rw [natI_rev]
      exact sl_put hH (by rw [natI_len, natI_len, List.length_reverse])
    clear hb hz hnew hcap hU HP HN hH hbb hcells hS
    generalize (z :: r).length = q at *
    generalize (natI (z :: r)).reverse.toArray = t at *
    go_wp2_with fail
    refine hr.mono ?_
    rintro e w2 ⟨rfl, n, rfl⟩
    dsimp only
    have hf2 := hideO (hfin.out n)
    clear hr hfin
    generalize putRow (Value.int .i64) (Sort.ahead w1 n) b o t = w3 at *
    go_wp2_with fail
    exact bodyPost_ret (v := .tuple #[.slice (some ⟨b, o, none⟩) q c, errV f]) (by simp [results, Tryd.results24, go_sem]) rfl hf2.out
end Go.Proofs.YtackdedbphfaeaeDoor
