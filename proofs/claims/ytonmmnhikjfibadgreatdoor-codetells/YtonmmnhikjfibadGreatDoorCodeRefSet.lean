/- The document's reader: a set. -/
import Derived.Test.YtonmmnhikjfibadGreatDoorCodeRefIn
import Derived.Test.YtonmmnhikjfibadGreatDoorCodeRSet
namespace Go.Proofs.YtonmmnhikjfibadGreatDoor
open Go Go.RowKit Go.Proofs
set_option synthInstance.maxSize 1000

/-- what is left of a loop -/
def LeftR (n : Nat) (R : List Tr × St) (t : List Tr) (s : St) : Prop := t.length ≤ n ∧ R = (t ++ (rLoop (n - t.length) s).1, (rLoop (n - t.length) s).2)
theorem LeftR.start (n : Nat) (s : St) : LeftR n (rLoop n s) [] s := ⟨Nat.zero_le _, by simp⟩
theorem LeftR.step {n : Nat} {R : List Tr × St} {t : List Tr} {s : St} (h : LeftR n R t s) (h0 : s.1 = 0) (hl : t.length < n) : LeftR n R (t ++ [(rTrip s).1]) (rTrip s).2 := by
  refine ⟨by simp; omega, ?_⟩
  obtain ⟨_, e⟩ := h
  have e1 : n - t.length = (n - (t ++ [(rTrip s).1]).length) + 1 := by simp; omega
  rw [e1, rLoop_step h0] at e
  rw [e]
  simp
theorem LeftR.stop {n : Nat} {R : List Tr × St} {t : List Tr} {s : St} (h : LeftR n R t s) (hs : ¬ s.1 = 0 ∨ t.length = n) : R = (t, s) := by
  obtain ⟨_, e⟩ := h
  rcases hs with h0 | h0
  · rw [rLoop_keep h0] at e
    simpa using e
  · rw [h0, Nat.sub_self] at e
    simpa [rLoop] using e
/-- what is answered of a list that is read -/
def ISetAns (g : Nat) (b : List UInt8) (w : World) (R : List Tr × St) (e : Ending) (w' : World) : Prop := ∃ ad c, e = .returned (.slice ad R.1.length c) ∧ w'.ownsRow w.heap.size 88 9 (.slice ad R.1.length c) R.1.length (cellsT R.1) ∧ InAt w' g b R.2 ∧ But g w w'
theorem ISetAns.mk {g : Nat} {b : List UInt8} {w : World} {l : List Tr} {s : St} {w' : World} (ad : Option Addr) (c : Nat) (h1 : w'.ownsRow w.heap.size 88 9 (.slice ad l.length c) l.length (cellsT l)) (h2 : InAt w' g b s) (h3 : But g w w') : ISetAns g b w (l, s) (.returned (.slice ad l.length c)) w' := ⟨ad, c, rfl, h1, h2, h3⟩

set_option maxHeartbeats 16000000 in
set_option maxRecDepth 100000 in
theorem ISet_any (g : Nat) (b : List UInt8) (s : St) (w : World) (h : InAt w g b s) (hb : b.length ≤ 9223372036854775807) :
    Calls Tryz.prog 66 #[.pointer (some ⟨g, 0, none⟩)] w (ISetAns g b w (rSet s)) := by
  have HN1 := fun W hW => Inum_any g b s W hW hb
  have HN2 := fun W hW => Inum_any g b (rNum s).2 W hW hb
  have HT := fun q W hW => ITerm_any g b q W hW hb
  have hg0 : g < w.heap.size := h.lt
  have a8 := rNum_small s
  have c8 := rNum_small (rNum s).2
  have Hz : Hid (rSet s = rLoop ((rNum s).1 * 256 + (rNum (rNum s).2).1) (if 200 < (rNum s).1 * 256 + (rNum (rNum s).2).1 then rBad 2 (rNum (rNum s).2).2 else (rNum (rNum s).2).2)) := rfl
  generalize rSet s = R at *
  generalize (rNum (rNum s).2).2 = s2 at *
  generalize (rNum (rNum s).2).1 = c at *
  generalize (rNum s).2 = s1 at *
  generalize (rNum s).1 = a at *
  obtain ⟨i0, hi, hzz⟩ := Option.map_eq_some_iff.1 infoTr
  simp only [Prod.mk.injEq] at hzz
  obtain ⟨hz0, hz1, hz2⟩ := hzz
  have Hi : Hid (InAt w g b s) := h
  clear h
  go_enter Tryz.func66, Tryz.ntmps66
  go_wp2_with fail
  refine (HN1 _ Hi.out).mono ?_
  rintro e W1 ⟨rfl, hi1, hk1⟩
  clear HN1 Hi
  go_wp2_with fail
  refine (HN2 _ hi1).mono ?_
  rintro e W2 ⟨rfl, hi2, hk2⟩
  have hB : Hid (But g w W2) := hk1.trans hk2
  have hI : Hid (InAt W2 g b s2) := hi2
  clear HN2 hi1 hk1 hk2
  obtain ⟨i, hil, hs, c0, c1, c2, f1, f2⟩ := hi2
  have hn : Hid ((a : Int) * 256 + (c : Int) = ((a * 256 + c : Nat) : Int)) := by show _ = _; omega
  go_upto_region 3 with fail
  rw [hn.out]
  generalize hnn : a * 256 + c = n at *
  have hn65 : n ≤ 65535 := by omega
  clear hn hnn
  go_cut [25] (fun v W => v = .bool (decide (s2.1 = 0) && decide (200 < n)) ∧ W = W2)
  case first =>
    clear HT Hz
    by_cases h1 : s2.1 = 0
    · rw [h1] at c2
      by_cases h2 : 200 < n
      · have hv : Hid ((decide (s2.1 = 0) && decide (200 < n)) = true) := by show _ = _; simp [h1, h2]
        have i1 : (n : Int) > 200 := by omega
        go_wp2_with fail
        go_meet
        case rel => exact ⟨by rw [hv.out], rfl⟩
      · have hv : Hid ((decide (s2.1 = 0) && decide (200 < n)) = false) := by show _ = _; simp [h2]
        have i1 : ¬ (n : Int) > 200 := by omega
        go_wp2_with fail
        go_meet
        case rel => exact ⟨by rw [hv.out], rfl⟩
    · have hv : Hid ((decide (s2.1 = 0) && decide (200 < n)) = false) := by show _ = _; simp [h1]
      have h1' : (s2.1 == 0) = false := by simpa using h1
      go_wp2_with fail
      go_meet
      case rel => exact ⟨by rw [hv.out], rfl⟩
  case rest =>
    obtain ⟨rfl, rfl⟩ := hcut
    go_upto_if 25 with fail
    go_cut [26] (fun _ W => ∃ s3 : St, Hid (InAt W g b s3) ∧ Hid (But g w W) ∧ Hid (R = rLoop n s3))
    case first =>
      clear HT
      have hg1 := hI.out.lt
      by_cases h2 : 200 < n
      · have hz := Hz.out
        rw [if_pos h2] at hz
        by_cases h1 : s2.1 = 0
        · rw [show (decide (s2.1 = 0) && decide (200 < n)) = true by simp [h1, h2]]
          have hI3 : Hid (InAt (wc.setCell ⟨g, 2, none⟩ (.int .i64 2)) g b (rBad 2 s2)) := ⟨i, hil, hs, by unfold rBad; rw [if_pos h1]; exact ICells.set2 ⟨c0, c1, c2, f1, f2⟩ 2⟩
          have hB3 : Hid (But g w (wc.setCell ⟨g, 2, none⟩ (.int .i64 2))) := hB.out.trans (But.set _)
          have hz : Hid (R = rLoop n (rBad 2 s2)) := hz
          clear Hz
          go_wp2_with fail
          go_meet
          case rel => exact ⟨_, hI3, hB3, hz⟩
        · rw [show (decide (s2.1 = 0) && decide (200 < n)) = false by simp [h1]]
          rw [rBad_keep h1] at hz
          have hz : Hid (R = rLoop n s2) := hz
          clear Hz
          go_wp2_with fail
          go_meet
          case rel => exact ⟨_, hI, hB, hz⟩
      · rw [show (decide (s2.1 = 0) && decide (200 < n)) = false by simp [h2]]
        have hz := Hz.out
        rw [if_neg h2] at hz
        have hz : Hid (R = rLoop n s2) := hz
        clear Hz
        go_wp2_with fail
        go_meet
        case rel => exact ⟨_, hI, hB, hz⟩
    case rest =>
      obtain ⟨s3, hI3, hB3, hz⟩ := hcut
      clear c0 c1 c2 f1 f2 hil hs hI hB Hz
      generalize wc = W3 at *
      have hL0 : Hid (LeftR n R [] s3) := by show LeftR n R [] s3; rw [hz.out]; exact LeftR.start n s3
      clear hz
      go_wp2_with fail
      go_loopw [5, 6] (fun v iv wr => ∃ (t : List Tr) (q : St), t.length ≤ n ∧ iv = .int .i64 (t.length : Int) ∧ Hid (LeftR n R t q) ∧ Hid (wr.ownsRow w.heap.size 88 9 v t.length (cellsT t)) ∧ Hid (InAt wr g b q) ∧ Hid (But g w wr)) (fun _ iv _ => n - (intOf iv).toNat)
      case atStart => exact ⟨[], s3, Nat.zero_le _, rfl, hL0, World.ownsRow_nil _ _ _ _, hI3, hB3⟩
      case round =>
        obtain ⟨t, q, htn, rfl, hLe, hown, hI, hB⟩ := hrel
        obtain ⟨ad, cap, rfl, _⟩ := own_slT hown.out
        by_cases hlt : t.length < n
        · have i1 : (t.length : Int) < (n : Int) := by omega
          by_cases h0 : q.1 = 0
          · have H1 := HT q
            have H2 := HT (rTerm q).2
            have H3 := HT (rTerm (rTerm q).2).2
            have hLe' : Hid (LeftR n R (t ++ [(rTrip q).1]) (rTrip q).2) := hLe.out.step h0 hlt
            have ey : Hid ((rTrip q).1 = ((rTerm q).1, (rTerm (rTerm q).2).1, (rTerm (rTerm (rTerm q).2).2).1)) := rfl
            have es : Hid ((rTrip q).2 = (rTerm (rTerm (rTerm q).2).2).2) := rfl
            obtain ⟨_, _, _, _, _, c2, _, _⟩ := id hI.out
            rw [h0] at c2
            generalize hy1 : (rTerm q).1 = y1 at *
            generalize hy2 : (rTerm (rTerm q).2).1 = y2 at *
            generalize hy3 : (rTerm (rTerm (rTerm q).2).2).1 = y3 at *
            generalize hq3 : (rTerm (rTerm (rTerm q).2).2).2 = q3 at *
            generalize hq2 : (rTerm (rTerm q).2).2 = q2 at *
            generalize hq1 : (rTerm q).2 = q1 at *
            clear hy1 hy2 hy3 hq1 hq2 hq3 hLe hL0 HT hI3 hB3
            go_wp2_with fail
            refine (H1 _ hI.out).mono ?_
            rintro e V1 ⟨rfl, hi1, hk1⟩
            have hb1 := balloc V1 (.cells #[.int .i64 y1.1, .string ⟨y1.2.1.toArray⟩, .string ⟨y1.2.2.toArray⟩] 43)
            have hX1 := XB.new V1 y1
            have hg1 : g ≠ V1.heap.size := by have := hi1.lt; omega
            have hB1 : Hid (But g w (V1.alloc (.cells #[.int .i64 y1.1, .string ⟨y1.2.1.toArray⟩, .string ⟨y1.2.2.toArray⟩] 43))) := (hB.out.trans hk1).trans (But.of hb1)
            have ho1 := (own_but hown.out hk1 hg0).alloc (.cells #[.int .i64 y1.1, .string ⟨y1.2.1.toArray⟩, .string ⟨y1.2.2.toArray⟩] 43)
            have hi1 := hi1.below hb1
            clear hk1 hb1
            go_wp2_with fail
            refine (H2 _ hi1).mono ?_
            rintro e V2 ⟨rfl, hi2, hk2⟩
            have hb2 := balloc V2 (.cells #[.int .i64 y2.1, .string ⟨y2.2.1.toArray⟩, .string ⟨y2.2.2.toArray⟩] 43)
            have hX1 := (hX1.but hk2 (Ne.symm hg1)).below hb2
            have hX2 := XB.new V2 y2
            have hg2 : g ≠ V2.heap.size := by have := hi2.lt; omega
            have hB2 : Hid (But g w (V2.alloc (.cells #[.int .i64 y2.1, .string ⟨y2.2.1.toArray⟩, .string ⟨y2.2.2.toArray⟩] 43))) := (hB1.out.trans hk2).trans (But.of hb2)
            have ho2 := (own_but ho1 hk2 hg0).alloc (.cells #[.int .i64 y2.1, .string ⟨y2.2.1.toArray⟩, .string ⟨y2.2.2.toArray⟩] 43)
            have hi2 := hi2.below hb2
            clear hk2 hb2 ho1 hi1
            go_wp2_with fail
            refine (H3 _ hi2).mono ?_
            rintro e V3 ⟨rfl, hi3, hk3⟩
            have hb3 := balloc V3 (.cells #[.int .i64 y3.1, .string ⟨y3.2.1.toArray⟩, .string ⟨y3.2.2.toArray⟩] 43)
            have hX1 := (hX1.but hk3 (Ne.symm hg1)).below hb3
            have hX2 := (hX2.but hk3 (Ne.symm hg2)).below hb3
            have hX3 := XB.new V3 y3
            have hB3 : Hid (But g w (V3.alloc (.cells #[.int .i64 y3.1, .string ⟨y3.2.1.toArray⟩, .string ⟨y3.2.2.toArray⟩] 43))) := (hB2.out.trans hk3).trans (But.of hb3)
            have ho4 : Hid ((V3.alloc (.cells #[.int .i64 y3.1, .string ⟨y3.2.1.toArray⟩, .string ⟨y3.2.2.toArray⟩] 43)).ownsRow w.heap.size 88 9 (.slice ad t.length cap) t.length (cellsT t)) := (own_but ho2 hk3 hg0).alloc (.cells #[.int .i64 y3.1, .string ⟨y3.2.1.toArray⟩, .string ⟨y3.2.2.toArray⟩] 43)
            have hI5 : Hid (InAt (V3.alloc (.cells #[.int .i64 y3.1, .string ⟨y3.2.1.toArray⟩, .string ⟨y3.2.2.toArray⟩] 43)) g b q3) := hi3.below hb3
            clear hk3 hb3 ho2 hi2 hi3 hown H1 H2 H3
            go_upto_region 12 with fail
            generalize V3.alloc (.cells #[.int .i64 y3.1, .string ⟨y3.2.1.toArray⟩, .string ⟨y3.2.2.toArray⟩] 43) = w4 at *
            obtain ⟨x10, x11, x12⟩ := hX1
            obtain ⟨x20, x21, x22⟩ := hX2
            obtain ⟨x30, x31, x32⟩ := hX3
            go_wp2_with (at_builtin; refine wpList_append_own _ rfl _ _ 27 rfl w.heap.size 88 i0 (.agg (encTr zeroTr).toArray) 9 120 Tryz.underlying27 hi hz0 hz1 hz2 rfl (by decide) _ _ _ rfl (ho4.out.alloc _) ⟨w4.heap.size, 0, none⟩ 1 1 (encTr (y1, y2, y3)) rfl rfl ?c1 (encTr_one _) (by unfold maxLen; omega) (by omega) (by have := hB3.out.size; simp; omega) ?_)
            case c1 => exact World.news_of_block (cs := (encTr (y1, y2, y3)).toArray) (t := 88) (fr := (0, 0)) (heap_alloc_new w4 _)
            intro v5 w5 ho5 hg5 _
            have hB5 : Hid (But g w w5) := (hB3.out.trans (World.grownBy_alloc w4 _ (some g))).andThen hg5 (fun j hj => Or.inl (ho4.out.lt j hj).1)
            have hI6 : Hid (InAt w5 g b q3) := (hI5.out.below (balloc _ _)).grown hg5 (fun e => by have := (ho4.out.lt g e.symm).1; omega)
            obtain ⟨ad5, cap5, rfl, _⟩ := own_slT (t := t ++ [(y1, y2, y3)]) (by rw [List.length_append]; simpa [cellsT] using ho5)
            have ho6 : Hid (w5.ownsRow w.heap.size 88 9 (.slice ad5 (t ++ [(y1, y2, y3)]).length cap5) (t ++ [(y1, y2, y3)]).length (cellsT (t ++ [(y1, y2, y3)]))) := by show World.ownsRow _ _ _ _ _ _ _; rw [show (t ++ [(y1, y2, y3)]).length = t.length + 1 by simp] at *; simpa [cellsT] using ho5
            clear ho5 hg5
            go_wp2_with fail
            go_roundw
            case rel =>
              refine ⟨t ++ [(y1, y2, y3)], q3, by simp; omega, by simp, ?_, ho6, hI6, hB5⟩
              rw [ey.out, es.out] at hLe'
              exact hLe'
            case measure => simp [intOf]; omega
          · have h0' : (q.1 == 0) = false := by simpa using h0
            have hR : R = (t, q) := hLe.out.stop (Or.inl h0)
            subst hR
            obtain ⟨_, _, _, _, _, c2, _, _⟩ := id hI.out
            clear hLe hL0 HT hI3 hB3
            go_wp2_with fail
            exact bodyPost_ret (v := .slice ad t.length cap) (by simp [results, Tryz.results66, go_sem]) rfl (ISetAns.mk ad cap hown.out hI.out hB.out)
        · have hR : R = (t, q) := hLe.out.stop (Or.inr (by omega))
          subst hR
          have i1 : ¬ (t.length : Int) < (n : Int) := by omega
          clear hLe hL0 HT hI3 hB3
          go_wp2_with fail
          exact bodyPost_ret (v := .slice ad t.length cap) (by simp [results, Tryz.results66, go_sem]) rfl (ISetAns.mk ad cap hown.out hI.out hB.out)
end Go.Proofs.YtonmmnhikjfibadGreatDoor
