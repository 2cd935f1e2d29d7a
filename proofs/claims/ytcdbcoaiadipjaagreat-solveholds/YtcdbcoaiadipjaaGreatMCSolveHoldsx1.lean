import Derived.Test.YtcdbcoaiadipjaaGreatMCSolveHoldsx0
import Derived.Test.YtcdbcoaiadipjaaGreatMA0x5
import Derived.Test.YtcdbcoaiadipjaaGreatMA0x6
import Derived.Test.YtcdbcoaiadipjaaGreatMA0x8
import Derived.Deep.DeepCutAuto
import Derived.Test.YtcdbcoaiadipjaaGreatMA0x7
import Derived.Deep.CutBlock
import Derived.Deep.RegionHeld3

/- The program's Bind. -/
namespace Go.Proofs.YtcdbcoaiadipjaaGreat
open Go Go.RowKit Go.Proofs Go.Maps
set_option synthInstance.maxSize 1000
attribute [local go_sem] eql_errV neq_errV guard_errV

theorem gvE_next {p : Pt} {vars : List (List UInt8)} {vals : List Tm} {k : Nat} (hk : k < vars.length) (hk2 : k < vals.length) :
    gvE p (vars.take (k + 1)) (vals.take (k + 1)) = if vars[k] ∈ varsL p then giveE (gvE p (vars.take k) (vals.take k)) vars[k] vals[k] else gvE p (vars.take k) (vals.take k) := by
  have hl : (vars.take k).length = (vals.take k).length := by simp; omega
  generalize hv : vars[k] = v
  generalize ht : vals[k] = t
  have e1 : vars.take (k + 1) = vars.take k ++ [v] := by rw [List.take_succ_eq_append_getElem hk, hv]
  have e2 : vals.take (k + 1) = vals.take k ++ [t] := by rw [List.take_succ_eq_append_getElem hk2, ht]
  rw [e1, e2]
  generalize vars.take k = a at *
  generalize vals.take k = b at *
  have key : ∀ s, gvE p (a ++ [v]) (b ++ [t]) s = if s ∈ varsL p then (match boundT a b s with
      | some x => some x
      | none => if v = s ∧ s ≠ [] then some t else none) else none := fun s => by
    unfold gvE
    rw [boundT_app a b v t s hl]
    cases boundT a b s <;> rfl
  funext s
  rw [key]
  by_cases hm : v ∈ varsL p
  · rw [if_pos hm]
    have hne := (varsL_mem.1 hm).1
    have hfv : gvE p a b v = boundT a b v := by unfold gvE; rw [if_pos hm]
    unfold giveE
    rw [hfv]
    by_cases hs : s ∈ varsL p
    · rw [if_pos hs]
      have hfs : gvE p a b s = boundT a b s := by unfold gvE; rw [if_pos hs]
      by_cases hb : (boundT a b v).isSome = true
      · rw [if_pos hb, hfs]
        cases h : boundT a b s with
        | some x => rfl
        | none =>
          have : v ≠ s := fun e => by rw [e, h] at hb; simp at hb
          simp [this]
      · rw [if_neg hb]
        unfold putEv
        by_cases e : s = v
        · subst e
          have hn : boundT a b s = none := by simpa using hb
          rw [if_pos rfl, hn]
          simp [hne]
        · rw [if_neg e, hfs]
          cases boundT a b s with
          | some x => rfl
          | none => simp [Ne.symm e]
    · have hsv : s ≠ v := fun e => hs (e ▸ hm)
      have hfs : gvE p a b s = none := by unfold gvE; rw [if_neg hs]
      rw [if_neg hs]
      split
      · rw [hfs]
      · unfold putEv; rw [if_neg hsv, hfs]
  · rw [if_neg hm]
    by_cases hs : s ∈ varsL p
    · have hsv : v ≠ s := fun e => hm (e ▸ hs)
      unfold gvE
      rw [if_pos hs, if_pos hs]
      cases boundT a b s <;> simp [hsv]
    · unfold gvE
      rw [if_neg hs, if_neg hs]
theorem fill_bind {p : Pt} {vars : List (List UInt8)} {vals : List Tm} {s : Sl} (h : s.1 = p.1.1 ∨ s.1 = p.2.1.1 ∨ s.1 = p.2.2.1) : fillE (gvE p vars vals) s = bindS vars vals s := by
  rw [← gvE_fill (vars := vars) (vals := vals) h]
  unfold fillE
  cases gvE p vars vals s.1 <;> rfl
set_option maxHeartbeats 16000000 in
set_option maxRecDepth 1000000 in
theorem PBind_any (p : Pt) (vd td : Option Addr) (vc tc : Nat) (vars : List (List UInt8)) (vals : List Tm) (w : World) (hp : fitPt p) (hv : SlW w vd vars) (ht : SlQ w td vals) (hvl : ∀ v ∈ vars, v.length ≤ maxLen) (htf : ∀ x ∈ vals, x.2.1.length ≤ maxLen ∧ x.2.2.length ≤ maxLen) (hn : vars.length < maxLen) (hn2 : vals.length ≤ 9223372036854775807) :
    Calls Tryz.prog 7 #[valPt p, .slice vd vars.length vc, .slice td vals.length tc] w fun e w' => e = .returned (.tuple #[valPt (bindB vars vals p), errV (bindN vars vals p)]) ∧ RowKit.Below w.heap.size w w' := by
  have HV := fun W => VarsO_any p W hp
  have hzero : valPt patZero = .agg #[.string ⟨#[]⟩, .int .i64 0, .string ⟨#[]⟩, .string ⟨#[]⟩, .string ⟨#[]⟩, .int .i64 0, .string ⟨#[]⟩, .string ⟨#[]⟩, .string ⟨#[]⟩, .int .i64 0, .string ⟨#[]⟩, .string ⟨#[]⟩] := rfl
  have Hz := hideB hzero
  unfold valPt at HV
  clear hzero
  by_cases hl : vars.length = vals.length
  · have HC := fun (x : Tm) (hx : x.2.1.length ≤ maxLen ∧ x.2.2.length ≤ maxLen) W => Check_any x.1 x.2.1 x.2.2 W hx.1 hx.2
    have Hl := hideB hl
    have Hv := hideB hv
    have Ht := hideB ht
    have Hvl := hideB hvl
    have Htf := hideB htf
    have hP0 : PatAt (w.alloc (.cells (encPt p).toArray 34)) w.heap.size p := patBox w p 34
    have hR0 := fun W => patBox W patZero 34
    rw [hl]
    clear hl hv ht hvl htf
    obtain ⟨m, hm⟩ : ∃ m, m = vals.length := ⟨_, rfl⟩
    rw [← hm]
    have Hm := hideB hm
    rw [← hm] at hn2
    obtain ⟨R, hR⟩ : ∃ R, R = valPt (bindB vars vals p) := ⟨_, rfl⟩
    obtain ⟨N, hN⟩ : ∃ N, N = bindN vars vals p := ⟨_, rfl⟩
    rw [← hR, ← hN]
    have HR := hideB hR
    have HN := hideB hN
    have HE : Hid (∀ n, n ≠ 0 → bindN vars vals p = n → R = .agg #[.string ⟨#[]⟩, .int .i64 0, .string ⟨#[]⟩, .string ⟨#[]⟩, .string ⟨#[]⟩, .int .i64 0, .string ⟨#[]⟩, .string ⟨#[]⟩, .string ⟨#[]⟩, .int .i64 0, .string ⟨#[]⟩, .string ⟨#[]⟩] ∧ N = n) := fun n h0 h => by
      refine ⟨?_, by rw [HN.out, h]⟩
      rw [HR.out]
      unfold bindB
      rw [if_neg (by rw [h]; exact h0)]
      exact Hz.out
    unfold valPt
    clear hm hR hN
    go_enter Tryz.func7, Tryz.ntmps7
    go_wp2_with fail
    obtain ⟨W1, hW1⟩ : ∃ W1, W1 = (w.alloc (.cells #[.string ⟨p.1.1.toArray⟩, .int .i64 p.1.2.1, .string ⟨p.1.2.2.1.toArray⟩, .string ⟨p.1.2.2.2.toArray⟩, .string ⟨p.2.1.1.toArray⟩, .int .i64 p.2.1.2.1, .string ⟨p.2.1.2.2.1.toArray⟩, .string ⟨p.2.1.2.2.2.toArray⟩, .string ⟨p.2.2.1.toArray⟩, .int .i64 p.2.2.2.1, .string ⟨p.2.2.2.2.1.toArray⟩, .string ⟨p.2.2.2.2.2.toArray⟩] 34)).alloc (.cells #[.string ⟨#[]⟩, .int .i64 0, .string ⟨#[]⟩, .string ⟨#[]⟩, .string ⟨#[]⟩, .int .i64 0, .string ⟨#[]⟩, .string ⟨#[]⟩, .string ⟨#[]⟩, .int .i64 0, .string ⟨#[]⟩, .string ⟨#[]⟩] 34) := ⟨_, rfl⟩
    have hB1 : RowKit.Below w.heap.size w W1 := by rw [hW1]; exact bstep (balloc _ _) (balloc _ _)
    have hP1 := hideB (show PatAt W1 w.heap.size p by rw [hW1]; exact hP0.below (balloc _ _))
    have hR1 : PatAt W1 (w.heap.size + 1) patZero := by
      have h := hR0 (w.alloc (.cells (encPt p).toArray 34))
      rw [show (w.alloc (.cells (encPt p).toArray 34)).heap.size = w.heap.size + 1 by simp] at h
      rw [hW1]
      exact h
    have hR1' := hideB hR1
    have hf1 := hideB (show ∀ j, j < 12 → W1.frozen? ⟨w.heap.size + 1, j, none⟩ = false by
      rw [hW1]
      intro j hj
      rcases (by omega : j = 0 ∨ j = 1 ∨ j = 2 ∨ j = 3 ∨ j = 4 ∨ j = 5 ∨ j = 6 ∨ j = 7 ∨ j = 8 ∨ j = 9 ∨ j = 10 ∨ j = 11) with rfl | rfl | rfl | rfl | rfl | rfl | rfl | rfl | rfl | rfl | rfl | rfl <;> go_simp)
    have hz1 : w.heap.size + 1 < W1.heap.size := by rw [hW1]; simp
    rw [← hW1]
    clear hW1 hP0 hR0 hR1
    go_loopw [25] (fun i wr => ∃ k : Nat, k ≤ m ∧ i = .int .i64 k ∧ Hid (termsN (vals.take k) = 0) ∧ RowKit.Below W1.heap.size W1 wr) (fun i wr => m - (intOf i).toNat)
    case atStart => exact ⟨0, Nat.zero_le _, rfl, rfl, RowKit.Below.refl _ _⟩
    case round =>
      obtain ⟨k, hk, rfl, hT, hbr⟩ := hrel
      by_cases hlt : k < m
      · have t1 : decide ((k : Int) < (m : Int)) = true := by simp; omega
        have i0 : (0 : Int) ≤ (k : Int) := by omega
        have i1 : (k : Int) < (m : Int) := by omega
        have hk' : k < vals.length := by rw [← Hm.out]; exact hlt
        obtain ⟨b, o, rfl, d0, d1, d2⟩ := (Ht.out.below (bstep hB1 hbr)).at k hk'
        have HCk := HC vals[k] (Htf.out _ (List.getElem_mem _))
        have hfirst := hideB (fun h => terms_first hk' hT.out h)
        have hnext := hideB (fun h => terms_next hk' hT.out h)
        go_wp2_with fail
        refine (HCk _).mono ?_
        rintro e w2 ⟨rfl, hb2⟩
        have hb3 := bstep (balloc wr _) hb2
        by_cases hx : tmChk vals[k] = 0
        · have hx' : checkN vals[k].1 vals[k].2.1 vals[k].2.2 = 0 := hx
          rw [hx', show errV 0 = .nilIface from rfl]
          go_wp2_with fail
          go_roundw
          case rel => exact ⟨k + 1, by omega, by go_num, hnext.out hx, bstep hbr hb3⟩
          case measure => simp [intOf]; omega
        · have hbb := bstep hbr hb3
          have hx1 : (tmChk vals[k] == 0) = false := by simpa using hx
          have hfi := hfirst.out hx
          obtain ⟨eR, eN⟩ := HE.out (tmChk vals[k]) hx (by unfold bindN; rw [if_neg (by simpa using Hl.out), hfi, if_pos hx])
          have HeR := hideB eR
          have HeN := hideB eN
          rw [show checkN vals[k].1 vals[k].2.1 vals[k].2.2 = tmChk vals[k] from rfl]
          clear hx hfi eR eN hfirst hnext d0 d1 d2 HCk
          generalize tmChk vals[k] = c at *
          have hz := (hR1'.out.below (hbb)).all
          dsimp only [patZero, tmZero] at hz
          obtain ⟨z0, z1, z2, z3, z4, z5, z6, z7, z8, z9, z10, z11⟩ := hz
          have f0 := ((hbb).frozen (p := ⟨w.heap.size + 1, 0, none⟩) hz1).trans (hf1.out 0 (by omega))
          have f1 := ((hbb).frozen (p := ⟨w.heap.size + 1, 1, none⟩) hz1).trans (hf1.out 1 (by omega))
          have f2 := ((hbb).frozen (p := ⟨w.heap.size + 1, 2, none⟩) hz1).trans (hf1.out 2 (by omega))
          have f3 := ((hbb).frozen (p := ⟨w.heap.size + 1, 3, none⟩) hz1).trans (hf1.out 3 (by omega))
          have f4 := ((hbb).frozen (p := ⟨w.heap.size + 1, 4, none⟩) hz1).trans (hf1.out 4 (by omega))
          have f5 := ((hbb).frozen (p := ⟨w.heap.size + 1, 5, none⟩) hz1).trans (hf1.out 5 (by omega))
          have f6 := ((hbb).frozen (p := ⟨w.heap.size + 1, 6, none⟩) hz1).trans (hf1.out 6 (by omega))
          have f7 := ((hbb).frozen (p := ⟨w.heap.size + 1, 7, none⟩) hz1).trans (hf1.out 7 (by omega))
          have f8 := ((hbb).frozen (p := ⟨w.heap.size + 1, 8, none⟩) hz1).trans (hf1.out 8 (by omega))
          have f9 := ((hbb).frozen (p := ⟨w.heap.size + 1, 9, none⟩) hz1).trans (hf1.out 9 (by omega))
          have f10 := ((hbb).frozen (p := ⟨w.heap.size + 1, 10, none⟩) hz1).trans (hf1.out 10 (by omega))
          have f11 := ((hbb).frozen (p := ⟨w.heap.size + 1, 11, none⟩) hz1).trans (hf1.out 11 (by omega))
          go_wp2_with fail
          obtain ⟨WZ, hWZ⟩ : ∃ WZ, WZ = zset w2 (w.heap.size + 1) := ⟨_, rfl⟩
          have hBZ : RowKit.Below w.heap.size w WZ := by rw [hWZ]; exact zset_below (bstep hB1 hbb) (Nat.le_succ _)
          have hZ : PatAt WZ (w.heap.size + 1) patZero := by rw [hWZ]; exact zset_pat (hR1'.out.below hbb)
          unfold zset at hWZ
          rw [← hWZ]
          clear hWZ z0 z1 z2 z3 z4 z5 z6 z7 z8 z9 z10 z11 f0 f1 f2 f3 f4 f5 f6 f7 f8 f9 f10 f11
          have hz' := hZ.all
          dsimp only [patZero, tmZero] at hz'
          obtain ⟨z0, z1, z2, z3, z4, z5, z6, z7, z8, z9, z10, z11⟩ := hz'
          exact bodyPost_ret (v := .tuple #[.agg #[.string ⟨#[]⟩, .int .i64 0, .string ⟨#[]⟩, .string ⟨#[]⟩, .string ⟨#[]⟩, .int .i64 0, .string ⟨#[]⟩, .string ⟨#[]⟩, .string ⟨#[]⟩, .int .i64 0, .string ⟨#[]⟩, .string ⟨#[]⟩], errV c]) (by simp [results, Tryz.results7, go_sem, *]) rfl ⟨by rw [HeR.out, HeN.out], hBZ⟩
      · obtain rfl : k = m := by omega
        have t1 : decide ((k : Int) < (k : Int)) = false := by simp
        have hT' : termsN vals = 0 := by have := hT.out; rwa [Hm.out, List.take_length] at this
        have HT := hideB hT'
        obtain ⟨p0, p1, p2, p3, p4, p5, p6, p7, p8, p9, p10, p11⟩ := (hP1.out.below hbr).all
        clear hT hT'
        go_wp2_with fail
        refine (HV _).mono ?_
        rintro e w3 ⟨hb3, ns, nd, nc, rfl, hns, hA⟩
        have hbb := bstep hbr hb3
        unfold VarsAns at hA
        clear p0 p1 p2 p3 p4 p5 p6 p7 p8 p9 p10 p11
        by_cases h0 : varsN p = 0
        · rw [if_pos h0] at hA
          subst hA
          rw [h0, show errV 0 = .nilIface from rfl]
          have hn3 : (varsL p).length ≤ 9223372036854775807 := by
            rcases hns.2 with ⟨_, h⟩ | ⟨g, cap, cur, _, _, _, h1, h2, _⟩
            · omega
            · unfold maxLen at h2
              omega
          obtain ⟨nd', nc', e2, hnw⟩ := own_w hns
          injection e2 with e3 _ e4
          subst e3
          subst e4
          have Hnw := hideB hnw
          have hMk := makeAns
          have H0 := hideB h0
          clear hnw hns HV HC h0 HE
          dsimp only
          have Hn2 := hideB hn2
          go_upto_block 2 with fail
          go_cut [14, 15, 48] from 49 to 63 (fun _ _ _ W' => Hid (EvAt W' w3.heap.size k (gvE p vars vals)) ∧ Hid (RowKit.Below w3.heap.size w3 W'))
          case first =>
            go_wp2_with fail
            go_loopw [48] (fun i wr => ∃ j : Nat, j ≤ k ∧ i = .int .i64 j ∧ Hid (EvAt wr w3.heap.size j (gvE p (vars.take j) (vals.take j))) ∧ RowKit.Below w3.heap.size w3 wr) (fun i wr => k - (intOf i).toNat)
            case atStart => exact ⟨0, Nat.zero_le _, rfl, by show EvAt _ _ _ _; rw [List.take_zero, List.take_zero, gvE_nil]; exact evAt_made w3, balloc _ _⟩
            case round =>
              obtain ⟨j, hj, rfl, hE, hbj⟩ := hrel
              by_cases hlt : j < k
              · have t2 : decide ((j : Int) < (k : Int)) = true := by simp; omega
                have i0 : (0 : Int) ≤ (j : Int) := by omega
                have i1 : (j : Int) < (k : Int) := by omega
                have hj2 : j < vals.length := by rw [← Hm.out]; exact hlt
                have hj1 : j < vars.length := by rw [Hl.out]; exact hj2
                have hB := bstep (bstep hB1 hbb) hbj
                obtain ⟨b1, o1, rfl, c1⟩ := (Hv.out.below hB).at j hj1
                obtain ⟨b2, o2, rfl, d0, d1, d2⟩ := (Ht.out.below hB).at j hj2
                have HCo := ContainsW_any nd nc (varsL p) vars[j] wr (Hnw.out.below hbj) hn3
                have HG := give_any w3.heap.size j _ vars[j] vals[j] wr hE.out (by omega) (Hvl.out _ (List.getElem_mem _))
                have hnx := hideB (gvE_next (p := p) hj1 hj2)
                unfold valTermM at HG
                go_wp2_with fail
                refine HCo.mono ?_
                rintro e w5 ⟨rfl, rfl⟩
                by_cases hin : vars[j] ∈ varsL p
                · rw [decide_eq_true hin]
                  have Hin := hideB hin
                  clear hin
                  go_wp2_with fail
                  refine HG.mono ?_
                  rintro e w6 ⟨rfl, he6, hg6⟩
                  have He6 := hideB he6
                  clear he6
                  dsimp only
                  go_wp2_with fail
                  go_roundw
                  case rel => exact ⟨j + 1, by omega, by go_num, by show EvAt _ _ _ _; rw [hnx.out, if_pos Hin.out]; exact He6.out, below_grownE hbj hg6 (Nat.le_refl _) (Nat.le_refl _)⟩
                  case measure => simp [intOf]; omega
                · rw [decide_eq_false hin]
                  have Hin := hideB hin
                  clear hin
                  go_wp2_with fail
                  go_roundw
                  case rel => exact ⟨j + 1, by omega, by go_num, by show EvAt _ _ _ _; rw [hnx.out, if_neg Hin.out]; exact hE.out.mono (by omega), hbj⟩
                  case measure => simp [intOf]; omega
              · obtain rfl : j = k := by omega
                have t2 : decide ((j : Int) < (j : Int)) = false := by simp
                have hall : gvE p (vars.take j) (vals.take j) = gvE p vars vals := by rw [List.take_of_length_le (by rw [Hl.out, ← Hm.out]; exact Nat.le_refl _), List.take_of_length_le (by rw [← Hm.out]; exact Nat.le_refl _)]
                rw [hall] at hE
                clear hall
                go_wp2_with fail
                go_meet
                case rel => exact ⟨hE, hbj⟩
          case rest =>
            obtain ⟨hE, hbj⟩ := hcut
            have hbw := bstep hbb hbj.out
            have e1 := fill_bind (p := p) (vars := vars) (vals := vals) (s := p.1) (.inl rfl)
            have e2 := fill_bind (p := p) (vars := vars) (vals := vals) (s := p.2.1) (.inr (.inl rfl))
            have e3 := fill_bind (p := p) (vars := vars) (vals := vals) (s := p.2.2) (.inr (.inr rfl))
            have hN0 : bindN vars vals p = 0 := by unfold bindN; rw [if_neg (by simpa using Hl.out), if_neg (by simpa using HT.out)]; exact H0.out
            have HeR : R = valPt (bindS vars vals p.1, bindS vars vals p.2.1, bindS vars vals p.2.2) := by rw [HR.out]; unfold bindB; rw [if_pos hN0]; rfl
            have HeN : N = 0 := by rw [HN.out, hN0]
            have lM : w3.heap.size ≠ w.heap.size + 1 := by have := hbb.size; omega
            refine go_on (by assumption) ?_
            exact pbindTail _ _ _ _ _ _ _ _ _ _ _ _ _ _ _ _ _ _ _ _ _ _ _ _ _ _ _ _ _ _ _ _ _ _ _ _ _ _ _ _ _ _ _ _ _ _ _ _ _ _ _ _ _ _ _ _ _ _ _ _ _ _ _ _ _ _ _ _ _ _ _ _ _ _ _ w.heap.size w3.heap.size k (gvE p vars vals) p _ _ _ wc (hP1.out.below hbw) (hR1'.out.below hbw) (fun q hq => (hbw.frozen (p := ⟨w.heap.size + 1, q, none⟩) hz1).trans (hf1.out q hq)) hE.out lM hp.1.1 hp.2.1.1 hp.2.2.1 e1 e2 e3 (fun W' hW' => ⟨by rw [HeR, HeN]; rfl, pset_below (bstep hB1 (bstep hbw hW')) (Nat.le_succ _)⟩)
        · have hx1 : (varsN p == 0) = false := by simpa using h0
          obtain ⟨eR, eN⟩ := HE.out (varsN p) h0 (by unfold bindN; rw [if_neg (by simpa using Hl.out), if_neg (by simpa using HT.out)])
          have HeR := hideB eR
          have HeN := hideB eN
          clear h0 eR eN hA hns HV
          generalize varsN p = c at *
          have hz := (hR1'.out.below (hbb)).all
          dsimp only [patZero, tmZero] at hz
          obtain ⟨z0, z1, z2, z3, z4, z5, z6, z7, z8, z9, z10, z11⟩ := hz
          have f0 := ((hbb).frozen (p := ⟨w.heap.size + 1, 0, none⟩) hz1).trans (hf1.out 0 (by omega))
          have f1 := ((hbb).frozen (p := ⟨w.heap.size + 1, 1, none⟩) hz1).trans (hf1.out 1 (by omega))
          have f2 := ((hbb).frozen (p := ⟨w.heap.size + 1, 2, none⟩) hz1).trans (hf1.out 2 (by omega))
          have f3 := ((hbb).frozen (p := ⟨w.heap.size + 1, 3, none⟩) hz1).trans (hf1.out 3 (by omega))
          have f4 := ((hbb).frozen (p := ⟨w.heap.size + 1, 4, none⟩) hz1).trans (hf1.out 4 (by omega))
          have f5 := ((hbb).frozen (p := ⟨w.heap.size + 1, 5, none⟩) hz1).trans (hf1.out 5 (by omega))
          have f6 := ((hbb).frozen (p := ⟨w.heap.size + 1, 6, none⟩) hz1).trans (hf1.out 6 (by omega))
          have f7 := ((hbb).frozen (p := ⟨w.heap.size + 1, 7, none⟩) hz1).trans (hf1.out 7 (by omega))
          have f8 := ((hbb).frozen (p := ⟨w.heap.size + 1, 8, none⟩) hz1).trans (hf1.out 8 (by omega))
          have f9 := ((hbb).frozen (p := ⟨w.heap.size + 1, 9, none⟩) hz1).trans (hf1.out 9 (by omega))
          have f10 := ((hbb).frozen (p := ⟨w.heap.size + 1, 10, none⟩) hz1).trans (hf1.out 10 (by omega))
          have f11 := ((hbb).frozen (p := ⟨w.heap.size + 1, 11, none⟩) hz1).trans (hf1.out 11 (by omega))
          go_wp2_with fail
          obtain ⟨WZ, hWZ⟩ : ∃ WZ, WZ = zset w3 (w.heap.size + 1) := ⟨_, rfl⟩
          have hBZ : RowKit.Below w.heap.size w WZ := by rw [hWZ]; exact zset_below (bstep hB1 hbb) (Nat.le_succ _)
          have hZ : PatAt WZ (w.heap.size + 1) patZero := by rw [hWZ]; exact zset_pat (hR1'.out.below hbb)
          unfold zset at hWZ
          rw [← hWZ]
          clear hWZ z0 z1 z2 z3 z4 z5 z6 z7 z8 z9 z10 z11 f0 f1 f2 f3 f4 f5 f6 f7 f8 f9 f10 f11
          have hz' := hZ.all
          dsimp only [patZero, tmZero] at hz'
          obtain ⟨z0, z1, z2, z3, z4, z5, z6, z7, z8, z9, z10, z11⟩ := hz'
          exact bodyPost_ret (v := .tuple #[.agg #[.string ⟨#[]⟩, .int .i64 0, .string ⟨#[]⟩, .string ⟨#[]⟩, .string ⟨#[]⟩, .int .i64 0, .string ⟨#[]⟩, .string ⟨#[]⟩, .string ⟨#[]⟩, .int .i64 0, .string ⟨#[]⟩, .string ⟨#[]⟩], errV c]) (by simp [results, Tryz.results7, go_sem, *]) rfl ⟨by rw [HeR.out, HeN.out], hBZ⟩
  · have hN : bindN vars vals p = 3 := by unfold bindN; rw [if_pos hl]
    have hB : bindB vars vals p = patZero := by unfold bindB; rw [hN]; rfl
    rw [hN, hB, Hz.out]
    unfold valPt
    have t1 : ((vars.length : Int) == (vals.length : Int)) = false := by simp; omega
    clear HV hN hB
    generalize vars.length = n at *
    generalize vals.length = m at *
    go_enter Tryz.func7, Tryz.ntmps7
    go_wp2_with fail
    refine bodyPost_ret (v := .tuple #[.agg #[.string ⟨#[]⟩, .int .i64 0, .string ⟨#[]⟩, .string ⟨#[]⟩, .string ⟨#[]⟩, .int .i64 0, .string ⟨#[]⟩, .string ⟨#[]⟩, .string ⟨#[]⟩, .int .i64 0, .string ⟨#[]⟩, .string ⟨#[]⟩], errV 3]) (by simp [results, Tryz.results7, go_sem]; rfl) rfl ⟨rfl, bstep (balloc _ _) (balloc _ _)⟩
end Go.Proofs.YtcdbcoaiadipjaaGreat

/- SolveHolds: two answers, one behind the other, stand in order. -/
namespace Go.Proofs.YtcdbcoaiadipjaaGreat
open Go Go.RowKit Go.Proofs Go.Maps
set_option synthInstance.maxSize 1000
attribute [local go_sem] eql_errV neq_errV guard_errV
attribute [local go_sem ↓] eqlEmpty neqEmpty

theorem cell_bH {W W' : World} {a : Addr} {v : Value} (h : W.cell? a = some v) (hb : RowKit.Below W.heap.size W W') : W'.cell? a = some v := (hb.cell (World.block_lt_of_cell? _ _ h)).trans h
set_option maxHeartbeats 16000000 in
set_option maxRecDepth 1000000 in
theorem shCmp (Q0 : Exit → Act → World → Prop) (u1 u2 u4 u5 u6 u7 u8 u10 u11 u12 u14 u15 u16 u17 u18 u19 u20 u21 u22 u23 u24 u25 u26 u27 u28 u29 u30 u31 u32 u33 u34 u35 u36 u37 u38 u39 u40 u41 u42 u43 u44 u45 u46 u47 u48 u49 u50 u51 u52 u53 u54 u55 u56 u57 u58 u59 u60 u61 u62 u63 u64 u65 u66 u67 u68 u69 u70 u71 u72 u73 u74 u75 u76 u77 u78 u79 u80 u81 u82 u83 u84 u85 u86 u87 u88 u89 u90 u91 u92 u93 u94 u95 u96 u97 u98 u99 u100 u101 u102 u103 u104 u105 u106 u107 u108 u109 u110 u111 u112 u113 u114 u115 u116 u117 u118 u119 u120 u121 u122 u123 u124 u125 u126 u127 u128 u129 u130 u131 u132 u133 u134 u135 u136 u137 u138 u139 u140 u141 u142 u143 u144 u145 u146 u147 u148 u149 u150 u151 u152 u153 u154 u155 u156 u157 u158 u159 u160 u161 u162 u163 u164 u165 u166 u167 u168 u169 u170 u171 u172 u173 u174 u175 u176 u177 u178 u179 u180 u181 u182 u183 u184 u185 u186 u187 u188 u189 u190 u191 u192 u193 u194 u195 u196 u197 u198 u199 u200 u201 u202 u203 u204 u205 u206 u207 u208 u209 u210 u211 u212 u213 u214 u215 u216 u217 u218 u219 u220 u221 u222 u223 u224 u225 u226 u227 u228 u229 u230 u231 u232 u233 u234 u235 u236 : Value) (ad vd : Option Addr) (ca ns vc yb yc n nv j B : Nat) (order : List UInt8) (all : List (List Tm)) (W : World)
    (hc0 : W.cell? ⟨B, 0, none⟩ = some (.slice vd nv vc)) (hc2 : W.cell? ⟨B, 2, none⟩ = some (.string ⟨order.toArray⟩)) (hrows : SlR W (some ⟨yb, 0, none⟩) all) (hn : n = all.length) (hjn : j < n) (h500 : n ≤ 500) (hnv8 : nv ≤ 8)
    (hlen : ∀ r ∈ all, r.length = nv) (hord : order = [] → ∀ i (h : i + 1 < all.length), cmpR (all[i]'(by omega)) all[i + 1] ≤ 0)
    (hQ : ∀ (x19 x20 x145 x146 x147 x148 x149 x150 x151 x152 x153 x154 x155 x156 x157 x158 x159 x160 x161 x162 x163 x164 x165 x166 x167 x168 x169 x170 x171 x172 x173 x174 x175 x176 x177 x178 x179 x180 : Value) (W' : World), RowKit.Below W.heap.size W W' → Q0 .normal ⟨#[.slice ad ns ca, u1, u2, .pointer (some ⟨B, 0, none⟩), u4, u5, u6, u7, u8, .slice (some ⟨yb, 0, none⟩) n yc, u10, u11, u12, .int .i64 (j : Int), u14, u15, u16, u17, u18, x19, x20, u21, u22, u23, u24, u25, u26, u27, u28, u29, u30, u31, u32, u33, u34, u35, u36, u37, u38, u39, u40, u41, u42, u43, u44, u45, u46, u47, u48, u49, u50, u51, u52, u53, u54, u55, u56, u57, u58, u59, u60, u61, u62, u63, u64, u65, u66, u67, u68, u69, u70, u71, u72, u73, u74, u75, u76, u77, u78, u79, u80, u81, u82, u83, u84, u85, u86, u87, u88, u89, u90, u91, u92, u93, u94, u95, u96, u97, u98, u99, u100, u101, u102, u103, u104, u105, u106, u107, u108, u109, u110, u111, u112, u113, u114, u115, u116, u117, u118, u119, u120, u121, u122, u123, u124, u125, u126, u127, u128, u129, u130, u131, u132, u133, u134, u135, u136, u137, u138, u139, u140, u141, u142, u143, u144, x145, x146, x147, x148, x149, x150, x151, x152, x153, x154, x155, x156, x157, x158, x159, x160, x161, x162, x163, x164, x165, x166, x167, x168, x169, x170, x171, x172, x173, x174, x175, x176, x177, x178, x179, x180, u181, u182, u183, u184, u185, u186, u187, u188, u189, u190, u191, u192, u193, u194, u195, u196, u197, u198, u199, u200, u201, u202, u203, u204, u205, u206, u207, u208, u209, u210, u211, u212, u213, u214, u215, u216, u217, u218, u219, u220, u221, u222, u223, u224, u225, u226, u227, u228, u229, u230, u231, u232, u233, u234, u235, u236], []⟩ W') :
    Code.wp Tryz.prog (codeOf Tryz.f3.body 26) Q0 ⟨#[.slice ad ns ca, u1, u2, .pointer (some ⟨B, 0, none⟩), u4, u5, u6, u7, u8, .slice (some ⟨yb, 0, none⟩) n yc, u10, u11, u12, .int .i64 (j : Int), u14, u15, u16, u17, u18, u19, u20, u21, u22, u23, u24, u25, u26, u27, u28, u29, u30, u31, u32, u33, u34, u35, u36, u37, u38, u39, u40, u41, u42, u43, u44, u45, u46, u47, u48, u49, u50, u51, u52, u53, u54, u55, u56, u57, u58, u59, u60, u61, u62, u63, u64, u65, u66, u67, u68, u69, u70, u71, u72, u73, u74, u75, u76, u77, u78, u79, u80, u81, u82, u83, u84, u85, u86, u87, u88, u89, u90, u91, u92, u93, u94, u95, u96, u97, u98, u99, u100, u101, u102, u103, u104, u105, u106, u107, u108, u109, u110, u111, u112, u113, u114, u115, u116, u117, u118, u119, u120, u121, u122, u123, u124, u125, u126, u127, u128, u129, u130, u131, u132, u133, u134, u135, u136, u137, u138, u139, u140, u141, u142, u143, u144, u145, u146, u147, u148, u149, u150, u151, u152, u153, u154, u155, u156, u157, u158, u159, u160, u161, u162, u163, u164, u165, u166, u167, u168, u169, u170, u171, u172, u173, u174, u175, u176, u177, u178, u179, u180, u181, u182, u183, u184, u185, u186, u187, u188, u189, u190, u191, u192, u193, u194, u195, u196, u197, u198, u199, u200, u201, u202, u203, u204, u205, u206, u207, u208, u209, u210, u211, u212, u213, u214, u215, u216, u217, u218, u219, u220, u221, u222, u223, u224, u225, u226, u227, u228, u229, u230, u231, u232, u233, u234, u235, u236], []⟩ W := by
  have HQ := hideH hQ
  have Hn := hideH hn
  have HR := hideH hrows
  have HL := hideH hlen
  have HO := hideH hord
  have c0 := hc0
  have c2 := hc2
  clear hQ hn hrows hlen hord hc0 hc2
  conv => arg 2; whnf
  dsimp only
  by_cases hgo : 0 < j ∧ order = []
  · obtain ⟨hj0, ho⟩ := hgo
    have t5 : order.isEmpty = true := by rw [ho]; rfl
    obtain ⟨j', rfl⟩ : ∃ j', j = j' + 1 := ⟨j - 1, by omega⟩
    have t4 : decide (0 < j' + 1) = true := by simp
    have t4' : decide ((0 : Int) < (j' : Int) + 1) = true := decide_eq_true (by omega)
    have hord := hideH (HO.out ho j' (by rw [← Hn.out]; exact hjn))
    have hja : j' + 1 < all.length := by rw [← Hn.out]; exact hjn
    have hja0 : j' < all.length := by omega
    obtain ⟨b1, o1, rd, rc, e1, k1, s1⟩ := HR.out.at j' hja0
    obtain ⟨rfl, rfl⟩ : yb = b1 ∧ 0 = o1 := by simpa using e1
    obtain ⟨b2, o2, rd', rc', e2, k2, s2⟩ := HR.out.at (j' + 1) hja
    obtain ⟨rfl, rfl⟩ : yb = b2 ∧ 0 = o2 := by simpa using e2
    rw [Nat.zero_add] at k1 k2
    have la := HL.out _ (List.getElem_mem hja0)
    have lb := HL.out _ (List.getElem_mem hja)
    clear e1 e2 ho
    generalize all[j'] = ra at *
    generalize all[j' + 1] = rb at *
    clear hja0 hja
    have Hla := hideH la
    have Hlb := hideH lb
    have K1 := hideH k1
    have K2 := hideH k2
    have S1 := hideH s1
    have S2 := hideH s2
    clear la lb k1 k2 s1 s2
    go_upto_block 4 with fail
    go_cut [19, 20] from 152 to 178 (fun c _ W' => ∃ z : Int, c = .int .i64 z ∧ z ≤ 0 ∧ Hid (RowKit.Below W.heap.size W W'))
    case first =>
      clear c2
      go_wp2_with fail
      go_loopw [19, 20] (fun c kk wk => ∃ (k : Nat) (z : Int), k ≤ nv ∧ kk = .int .i64 k ∧ c = .int .i64 z ∧ Hid (z = cmpR (ra.take k) (rb.take k)) ∧ Hid (RowKit.Below W.heap.size W wk)) (fun _ kk wk => nv - (intOf kk).toNat)
      case atStart => exact ⟨0, 0, Nat.zero_le _, rfl, rfl, by show _ = _; simp [cmpR], RowKit.Below.refl _ _⟩
      case round =>
        obtain ⟨k, z, hk, rfl, rfl, hz, hbk⟩ := hrel
        have d0 := cell_bH c0 hbk.out
        by_cases hkn : k < nv
        · have t6 : decide ((k : Int) < (nv : Int)) = true := by simp; omega
          by_cases hz0 : z = 0
          · subst hz0
            have hka : k < ra.length := by rw [Hla.out]; exact hkn
            have hkb : k < rb.length := by rw [Hlb.out]; exact hkn
            obtain ⟨g1, p1, rfl, x0, x1, x2⟩ := (S1.out.below hbk.out).at k hka
            obtain ⟨g2, p2, rfl, y0, y1, y2⟩ := (S2.out.below hbk.out).at k hkb
            have hnx := hideH (cmpR_next hka hkb hz.out.symm)
            have l1 : (k : Int) < (ra.length : Int) := by omega
            have l2 : (k : Int) < (rb.length : Int) := by omega
            have i0' : (0 : Int) ≤ (j' : Int) := by omega
            have i1' : (j' : Int) < (n : Int) := by omega
            have i2' : (0 : Int) ≤ (j' : Int) + 1 := by omega
            have i3' : (j' : Int) + 1 < (n : Int) := by omega
            have l0 : (0 : Int) ≤ (k : Int) := by omega
            have HT : ∀ m : Lat wr, Calls Tryz.prog 9 #[.agg #[.int .i64 ra[k].1, .string ⟨ra[k].2.1.toArray⟩, .string ⟨ra[k].2.2.toArray⟩], .agg #[.int .i64 rb[k].1, .string ⟨rb[k].2.1.toArray⟩, .string ⟨rb[k].2.2.toArray⟩]] m.val fun e w' => e = .returned (.int .i64 (cmpTm ra[k] rb[k])) ∧ RowKit.Below m.val.heap.size m.val w' := fun m => RCompare_any _ _ _ _ _ _ _
            have hnn := lat_some wr
            have q0 := lat_cell (cell_bH K1.out hbk.out)
            have q1 := lat_cell (cell_bH K2.out hbk.out)
            have q2 := lat_cell x0
            have q3 := lat_cell x1
            have q4 := lat_cell x2
            have q5 := lat_cell y0
            have q6 := lat_cell y1
            have q7 := lat_cell y2
            clear x0 x1 x2 y0 y1 y2
            generalize hcc : cmpTm ra[k] rb[k] = cc at *
            clear hcc
            generalize ra[k] = xa at *
            generalize rb[k] = xb at *
            clear hka hkb
            generalize ra.length = na at *
            generalize rb.length = nb at *
            go_wp2_with fail
            refine lat_region (by kernel_rfl) (by kernel_rfl) ?_
            repeat (go_big_quiet_step (fail))
            go_big_quiet_step (exact lat_call (HT _))
            repeat (go_big_quiet_step (fail))
            refine wpQuiet_nil ?_
            intro w3 hw'
            obtain ⟨nW, rfl⟩ := hw'
            have hb3 := nW.low
            generalize nW.val = w3 at *
            clear q0 q1 q2 q3 q4 q5 q6 q7 hnn HT
            go_wp2_with fail
            go_roundw
            case rel => first | exact ⟨k + 1, cc, by omega, by go_num, rfl, hnx.out.symm, bstep hbk.out hb3⟩ | ((repeat apply Exists.intro); refine ⟨⟨k + 1, cc, by omega, ?_, rfl, hnx.out.symm, bstep hbk.out hb3⟩, rfl⟩; go_num)
            case measure => simp [intOf]; omega
          · have t7 : (z == 0) = false := by simpa using hz0
            have hzl : z ≤ 0 := by rw [hz.out]; exact cmpR_le hord.out k
            go_wp2_with fail
            go_meet
            case rel => exact ⟨z, rfl, hzl, hbk.out⟩
        · have t6 : decide ((k : Int) < (nv : Int)) = false := by simp; omega
          have hzl : z ≤ 0 := by rw [hz.out]; exact cmpR_le hord.out k
          go_wp2_with fail
          go_meet
          case rel => exact ⟨z, rfl, hzl, hbk.out⟩
    case rest =>
      obtain ⟨z, rfl, hz, hbz⟩ := hcut
      have t8 : decide (0 < z) = false := by simp; omega
      have t8' : decide (z > 0) = false := by simp; omega
      go_wp2_with fail
      exact HQ.out _ _ _ _ _ _ _ _ _ _ _ _ _ _ _ _ _ _ _ _ _ _ _ _ _ _ _ _ _ _ _ _ _ _ _ _ _ _ wc hbz.out
  · clear HO
    by_cases hj0 : 0 < j
    · have t4 : decide (0 < j) = true := by simpa using hj0
      have t5 : order.isEmpty = false := by
        cases order with
        | nil => exact absurd ⟨hj0, rfl⟩ hgo
        | cons a r => rfl
      clear hgo hj0
      go_wp2_with fail
      exact HQ.out _ _ _ _ _ _ _ _ _ _ _ _ _ _ _ _ _ _ _ _ _ _ _ _ _ _ _ _ _ _ _ _ _ _ _ _ _ _ _ (RowKit.Below.refl _ _)
    · obtain rfl : j = 0 := by omega
      clear hgo hj0
      go_wp2_with fail
      exact HQ.out _ _ _ _ _ _ _ _ _ _ _ _ _ _ _ _ _ _ _ _ _ _ _ _ _ _ _ _ _ _ _ _ _ _ _ _ _ _ _ (RowKit.Below.refl _ _)
end Go.Proofs.YtcdbcoaiadipjaaGreat

/- SolveHolds: each answer answers, and they stand in order. -/
namespace Go.Proofs.YtcdbcoaiadipjaaGreat
open Go Go.RowKit Go.Proofs Go.Maps
set_option synthInstance.maxSize 1000
attribute [local go_sem] eql_errV neq_errV guard_errV
attribute [local go_sem ↓] eqlEmpty neqEmpty

abbrev S15 (w0 : World) (B : Nat) (x0 x1 : Value) (pb o12 : Nat) (p : Pt) (a : Addr) (v : Value) (W : World) : Prop := RowKit.Below w0.heap.size w0 W ∧ W.cell? ⟨B, 0, none⟩ = some x0 ∧ W.cell? ⟨B, 1, none⟩ = some x1 ∧ W.cell? ⟨pb, o12, none⟩ = some (.string ⟨p.1.1.toArray⟩) ∧ W.cell? ⟨pb, o12 + 1, none⟩ = some (.int .i64 p.1.2.1) ∧ W.cell? ⟨pb, o12 + 2, none⟩ = some (.string ⟨p.1.2.2.1.toArray⟩) ∧ W.cell? ⟨pb, o12 + 3, none⟩ = some (.string ⟨p.1.2.2.2.toArray⟩) ∧ W.cell? ⟨pb, o12 + 4, none⟩ = some (.string ⟨p.2.1.1.toArray⟩) ∧ W.cell? ⟨pb, o12 + 5, none⟩ = some (.int .i64 p.2.1.2.1) ∧ W.cell? ⟨pb, o12 + 6, none⟩ = some (.string ⟨p.2.1.2.2.1.toArray⟩) ∧ W.cell? ⟨pb, o12 + 7, none⟩ = some (.string ⟨p.2.1.2.2.2.toArray⟩) ∧ W.cell? ⟨pb, o12 + 8, none⟩ = some (.string ⟨p.2.2.1.toArray⟩) ∧ W.cell? ⟨pb, o12 + 9, none⟩ = some (.int .i64 p.2.2.2.1) ∧ W.cell? ⟨pb, o12 + 10, none⟩ = some (.string ⟨p.2.2.2.2.1.toArray⟩) ∧ W.cell? ⟨pb, o12 + 11, none⟩ = some (.string ⟨p.2.2.2.2.2.toArray⟩) ∧ W.cell? a = some v
theorem S15.keep {w0 W W' : World} {B : Nat} {x0 x1 : Value} {pb o12 : Nat} {p : Pt} {a : Addr} {v : Value} (h : S15 w0 B x0 x1 pb o12 p a v W) (hb : RowKit.Below W.heap.size W W') : S15 w0 B x0 x1 pb o12 p a v W' := by
  obtain ⟨h0, d0, d1, c0, c1, c2, c3, c4, c5, c6, c7, c8, c9, c10, c11, c12⟩ := h
  exact ⟨bstep h0 hb, cell_bH d0 hb, cell_bH d1 hb, cell_bH c0 hb, cell_bH c1 hb, cell_bH c2 hb, cell_bH c3 hb, cell_bH c4 hb, cell_bH c5 hb, cell_bH c6 hb, cell_bH c7 hb, cell_bH c8 hb, cell_bH c9 hb, cell_bH c10 hb, cell_bH c11 hb, cell_bH c12 hb⟩

theorem S15.alloc {w0 W : World} {B : Nat} {x0 x1 : Value} {pb o12 : Nat} {p : Pt} {a : Addr} {v : Value} (h : S15 w0 B x0 x1 pb o12 p a v W) (o : Obj) : S15 w0 B x0 x1 pb o12 p a v (W.alloc o) := h.keep (balloc _ _)
theorem S15.set {w0 W : World} {B : Nat} {x0 x1 : Value} {pb o12 : Nat} {p : Pt} {a : Addr} {v : Value} (hB : B < w0.heap.size) (hP : pb < w0.heap.size) (hA : a.block < w0.heap.size) (h : S15 w0 B x0 x1 pb o12 p a v W) {g : Nat} (hg : w0.heap.size ≤ g) (o : Nat) (u : Value) : S15 w0 B x0 x1 pb o12 p a v (W.setCell ⟨g, o, none⟩ u) := by
  obtain ⟨h0, d0, d1, c0, c1, c2, c3, c4, c5, c6, c7, c8, c9, c10, c11, c12⟩ := h
  have s : ∀ {c : Addr} {y : Value}, W.cell? c = some y → c.block < w0.heap.size → (W.setCell ⟨g, o, none⟩ u).cell? c = some y := fun {c y} hc hl => (World.cell?_setCell_other W _ _ _ (fun e => by have e2 := congrArg Addr.block e; simp at e2; omega)).trans hc
  exact ⟨h0.setCell (p := ⟨g, o, none⟩) hg u, s d0 hB, s d1 hB, s c0 hP, s c1 hP, s c2 hP, s c3 hP, s c4 hP, s c5 hP, s c6 hP, s c7 hP, s c8 hP, s c9 hP, s c10 hP, s c11 hP, s c12 hA⟩
/-- Bind may be asked, of these variables -/
def PBindOK (q : Qu) (vd : Option Addr) (vc : Nat) (w : World) : Prop := ∀ (W : World) (p : Pt) (rd : Option Addr) (rc : Nat) (r : List Tm), RowKit.Below w.heap.size w W → fitPt p → SlQ W rd r → (∀ x ∈ r, x.2.1.length ≤ maxLen ∧ x.2.2.length ≤ maxLen) → r.length ≤ 9223372036854775807 →
  Calls Tryz.prog 7 #[valPt p, .slice vd q.vars.length vc, .slice rd r.length rc] W fun e w' => e = .returned (.tuple #[valPt (bindB q.vars r p), errV (bindN q.vars r p)]) ∧ RowKit.Below W.heap.size W w'

set_option maxHeartbeats 16000000 in
set_option maxRecDepth 1000000 in
theorem shLoop (u1 u2 u4 u5 u6 u7 u8 u10 u11 u12 u13 u14 u15 u16 u17 u18 u19 u20 u21 u22 u23 u24 u25 u26 u27 u28 u29 u30 u31 u32 u33 u34 u35 u36 u37 u38 u39 u40 u41 u42 u43 u44 u45 u46 u47 u48 u49 u50 u51 u52 u53 u54 u55 u56 u57 u58 u59 u60 u61 u62 u63 u64 u65 u66 u67 u68 u69 u70 u71 u72 u73 u74 u75 u76 u77 u78 u79 u80 u81 u82 u83 u84 u85 u86 u87 u88 u89 u90 u91 u92 u93 u94 u95 u96 u97 u98 u99 u100 u101 u102 u103 u104 u105 u106 u107 u108 u109 u110 u111 u112 u113 u114 u115 u116 u117 u118 u119 u120 u121 u122 u123 u124 u125 u126 u127 u128 u129 u130 u131 u132 u133 u134 u135 u136 u137 u138 u139 u140 u141 u142 u143 u144 u145 u146 u147 u148 u149 u150 u151 u152 u153 u154 u155 u156 u157 u158 u159 u160 u161 u162 u163 u164 u165 u166 u167 u168 u169 u170 u171 u172 u173 u174 u175 u176 u177 u178 u179 u180 u181 u182 u183 u184 u185 u186 u187 u188 u189 u190 u191 u192 u193 u194 u195 u196 u197 u198 u199 u200 u201 u202 u203 u204 u205 u206 u207 u208 u209 u210 u211 u212 u213 u214 u215 u216 u217 u218 u219 u220 u221 u222 u223 u224 u225 u226 u227 u228 u229 u230 u231 u232 u233 u234 u235 u236 : Value) (ad : Option Addr) (ca : Nat) (S : List Tr) (q : Qu) (vd pd : Option Addr) (vc pc yb yc : Nat) (all : List (List Tm)) (w W : World) (hS : SlT w ad S) (hSf : ∀ x ∈ S, fitTr x) (hSn : S.length ≤ 9223372036854775807) (hq : QuIn w q vd pd) (hf : FitQ q) (hC : SolveOK ad ca S q vd pd vc pc w) (hPB : PBindOK q vd vc w) (hF : HoldsF S q all) (hcap : all.length ≤ yc) (h : HSt q vd pd vc pc (some ⟨yb, 0, none⟩) all w W) :
    Code.wp Tryz.prog (codeOf Tryz.f3.body 14) (bodyPost Tryz.prog Tryz.f3 (HAns w)) ⟨#[.slice ad S.length ca, u1, u2, .pointer (some ⟨w.heap.size, 0, none⟩), u4, u5, u6, u7, u8, .slice (some ⟨yb, 0, none⟩) all.length yc, u10, u11, u12, u13, u14, u15, u16, u17, u18, u19, u20, u21, u22, u23, u24, u25, u26, u27, u28, u29, u30, u31, u32, u33, u34, u35, u36, u37, u38, u39, u40, u41, u42, u43, u44, u45, u46, u47, u48, u49, u50, u51, u52, u53, u54, u55, u56, u57, u58, u59, u60, u61, u62, u63, u64, u65, u66, u67, u68, u69, u70, u71, u72, u73, u74, u75, u76, u77, u78, u79, u80, u81, u82, u83, u84, u85, u86, u87, u88, u89, u90, u91, u92, u93, u94, u95, u96, u97, u98, u99, u100, u101, u102, u103, u104, u105, u106, u107, u108, u109, u110, u111, u112, u113, u114, u115, u116, u117, u118, u119, u120, u121, u122, u123, u124, u125, u126, u127, u128, u129, u130, u131, u132, u133, u134, u135, u136, u137, u138, u139, u140, u141, u142, u143, u144, u145, u146, u147, u148, u149, u150, u151, u152, u153, u154, u155, u156, u157, u158, u159, u160, u161, u162, u163, u164, u165, u166, u167, u168, u169, u170, u171, u172, u173, u174, u175, u176, u177, u178, u179, u180, u181, u182, u183, u184, u185, u186, u187, u188, u189, u190, u191, u192, u193, u194, u195, u196, u197, u198, u199, u200, u201, u202, u203, u204, u205, u206, u207, u208, u209, u210, u211, u212, u213, u214, u215, u216, u217, u218, u219, u220, u221, u222, u223, u224, u225, u226, u227, u228, u229, u230, u231, u232, u233, u234, u235, u236], []⟩ W := by
  have HH := hideH h
  have HFF := hideH hF
  have HCO := hideH hC
  have HPB := hideH hPB
  have Hin := hideH hq
  have Hfq := hideH hf
  have HS := hideH hS
  have HSf := hideH hSf
  have hle := hF.le
  have hv8 := hF.v8
  have hp6 := hF.p6
  obtain ⟨n, hn⟩ : ∃ n, n = all.length := ⟨_, rfl⟩
  rw [← hn] at hcap hle ⊢
  have Hn := hideH hn
  obtain ⟨m, hm⟩ : ∃ m, m = q.parts.length := ⟨_, rfl⟩
  have Hm := hideH hm
  rw [← hm] at hp6
  obtain ⟨nv, hnv⟩ : ∃ nv, nv = q.vars.length := ⟨_, rfl⟩
  have Hnv := hideH hnv
  rw [← hnv] at hv8
  have HB0 := hideH (show W.cell? ⟨w.heap.size, 0, none⟩ = some (.slice vd nv vc) ∧ W.cell? ⟨w.heap.size, 1, none⟩ = some (.slice pd m pc) ∧ W.cell? ⟨w.heap.size, 2, none⟩ = some (.string ⟨q.order.toArray⟩) by
    obtain ⟨c0, c1, c2, c3, c4, c5⟩ := h.box
    rw [hnv, hm]
    exact ⟨c0, c1, c2⟩)
  clear hn hm hnv hC hPB hF hq hf hS hSf h
  conv => arg 2; whnf
  dsimp only
  go_upto_block 0 with fail
  go_cut [13, 14, 15, 16, 17, 18, 19, 20] from 99 to 180 (fun _ _ _ _ _ _ _ _ W' => Hid (RowKit.Below W.heap.size W W'))
  case rest =>
    refine go_on (by assumption) ?_
    rw [Hn.out]
    rw [Hn.out] at hcap
    exact shTail2 _ _ _ _ _ _ _ _ _ _ _ _ _ _ _ _ _ _ _ _ _ _ _ _ _ _ _ _ _ _ _ _ _ _ _ _ _ _ _ _ _ _ _ _ _ _ _ _ _ _ _ _ _ _ _ _ _ _ _ _ _ _ _ _ _ _ _ _ _ _ _ _ _ _ _ _ _ _ _ _ _ _ _ _ _ _ _ _ _ _ _ _ _ _ _ _ _ _ _ _ _ _ _ _ _ _ _ _ _ _ _ _ _ _ _ _ _ _ _ _ _ _ _ _ _ _ _ _ _ _ _ _ _ _ _ _ _ _ _ _ _ _ _ _ _ _ _ _ _ _ _ _ _ _ _ _ _ _ _ _ _ _ _ _ _ _ _ _ _ _ _ _ _ _ _ _ _ _ _ _ _ _ _ _ _ _ _ _ _ _ _ _ _ _ _ _ _ _ _ _ _ _ _ _ _ _ _ _ _ _ _ _ _ _ _ _ _ _ _ _ _ _ _ _ _ _ _ _ _ _ _ _ _ _ ad ca S q vd pd vc pc yb yc all w wc HCO.out HFF.out hcap (HH.out.below hcut.out)
  case first =>
    clear HCO
    go_wp2_with fail
    go_loopw [13, 14, 15, 16, 17, 18, 19, 20] (fun i _ _ _ _ _ _ _ wr => ∃ j : Nat, j ≤ n ∧ i = .int .i64 j ∧ Hid (RowKit.Below W.heap.size W wr)) (fun i _ _ _ _ _ _ _ wr => n - (intOf i).toNat)
    case atStart => exact ⟨0, Nat.zero_le _, rfl, RowKit.Below.refl _ _⟩
    case round =>
      obtain ⟨j, hj, rfl, hbr⟩ := hrel
      by_cases hlt : j < n
      · by_cases h40 : j < 40
        · have t1 : decide ((j : Int) < (n : Int)) = true := by simp; omega
          have t2 : decide ((j : Int) < 40) = true := by simp; omega
          have hja : j < all.length := by rw [← Hn.out]; exact hlt
          have i0 : (0 : Int) ≤ (j : Int) := by omega
          have i1 : (j : Int) < (n : Int) := by omega
          go_upto_block 2 with fail
          go_cut [14, 15, 16, 17, 18] from 109 to 144 (fun _ _ _ _ _ W' => Hid (RowKit.Below W.heap.size W W'))
          case first =>
            go_wp2_with fail
            go_loopw [14, 15, 16, 17, 18] (fun kk _ _ _ _ wk => ∃ k : Nat, k ≤ m ∧ kk = .int .i64 k ∧ Hid (RowKit.Below W.heap.size W wk)) (fun kk _ _ _ _ wk => m - (intOf kk).toNat)
            case atStart => exact ⟨0, Nat.zero_le _, rfl, hbr⟩
            case round =>
              clear hbr
              obtain ⟨k, hk, rfl, hbk⟩ := hrel
              obtain ⟨a0, a1, _⟩ := HB0.out
              have c0 := cell_bH a0 hbk.out
              have c1 := cell_bH a1 hbk.out
              clear a0 a1
              by_cases hkm : k < m
              · have t3 : decide ((k : Int) < (m : Int)) = true := by simp; omega
                have hkp : k < q.parts.length := by rw [← Hm.out]; exact hkm
                have hwk := bstep HH.out.bel hbk.out
                obtain ⟨pb, po, rfl, hrow⟩ := (Hin.out.parts.below hwk).at k hkp
                have hat := hrow.at k hkp
                have e0 := hat 0 _ rfl
                have e1 := hat 1 _ rfl
                have e2 := hat 2 _ rfl
                have e3 := hat 3 _ rfl
                have e4 := hat 4 _ rfl
                have e5 := hat 5 _ rfl
                have e6 := hat 6 _ rfl
                have e7 := hat 7 _ rfl
                have e8 := hat 8 _ rfl
                have e9 := hat 9 _ rfl
                have e10 := hat 10 _ rfl
                have e11 := hat 11 _ rfl
                rw [Nat.add_zero] at e0
                obtain ⟨b', o', rd, rc, e9, crow, srow⟩ := (HH.out.rows.below hbk.out).at j hja
                obtain ⟨rfl, rfl⟩ : yb = b' ∧ 0 = o' := by simpa using e9
                rw [Nat.zero_add] at crow
                obtain ⟨b1, b2, b3, b4⟩ := HFF.out.bind _ (List.getElem_mem hja) _ (List.getElem_mem hkp)
                have hrl := HFF.out.len _ (List.getElem_mem hja)
                have hrf := HFF.out.fit _ (List.getElem_mem hja)
                have hfp := Hfq.out.pt _ (List.getElem_mem hkp)
                have k0 : (0 : Int) ≤ (k : Int) := by omega
                have k1 : (k : Int) < (m : Int) := by omega
                clear hat hrow e9
                generalize q.parts[k] = p at *
                generalize all[j] = r at *
                obtain ⟨x, hx⟩ : ∃ x, x = bindB q.vars r p := ⟨_, rfl⟩
                rw [← hx] at b2 b3 b4
                have HBd : ∀ W', S15 wr w.heap.size (.slice vd nv vc) (.slice (some ⟨pb, po, none⟩) m pc) pb (po + k * 12) p ⟨yb, j, none⟩ (.slice rd r.length rc) W' → Calls Tryz.prog 7 #[valPt p, .slice vd nv vc, .slice rd r.length rc] W' fun e w' => e = .returned (.tuple #[valPt x, .nilIface]) ∧ RowKit.Below W'.heap.size W' w' := fun W' hW => by
                  have := HPB.out W' p rd rc r (bstep hwk hW.1) hfp (srow.below hW.1) hrf (by rw [hrl, ← Hnv.out]; omega)
                  rw [b1, ← hx, ← Hnv.out] at this
                  exact this
                have HCt : ∀ W', RowKit.Below wr.heap.size wr W' → Calls Tryz.prog 8 #[.slice ad S.length ca, valPt x] W' fun e w' => e = .returned (.tuple #[.int .i64 (CountAns S x), .nilIface]) ∧ RowKit.Below W'.heap.size W' w' := fun W' hW => by
                  have := Count_any ad ca S x W' (HS.out.below (bstep hwk hW)) HSf.out b4 hSn
                  rw [b2] at this
                  exact this
                have hb2 := fun W T => patBox W x T
                clear hx b1 b2 b4 srow hrf hfp hrl
                have hk0 : S15 wr w.heap.size (.slice vd nv vc) (.slice (some ⟨pb, po, none⟩) m pc) pb (po + k * 12) p ⟨yb, j, none⟩ (.slice rd r.length rc) wr := ⟨RowKit.Below.refl _ _, c0, c1, e0, e1, e2, e3, e4, e5, e6, e7, e8, e9, e10, e11, crow⟩
                have hkeep : S15 wr w.heap.size (.slice vd nv vc) (.slice (some ⟨pb, po, none⟩) m pc) pb (po + k * 12) p ⟨yb, j, none⟩ (.slice rd r.length rc) wr.drew := hk0.keep (RowKit.Below.refl _ _).drew
                have hkA : ∀ o, S15 wr w.heap.size (.slice vd nv vc) (.slice (some ⟨pb, po, none⟩) m pc) pb (po + k * 12) p ⟨yb, j, none⟩ (.slice rd r.length rc) (wr.alloc o).drew := fun o => hk0.keep (balloc _ _).drew
                have lB := World.block_lt_of_cell? _ _ c0
                have lP := World.block_lt_of_cell? _ _ e0
                have lY := World.block_lt_of_cell? _ _ crow
                have hZA := hideH (show PatAt (wr.alloc (.cells #[.string ⟨#[]⟩, .int .i64 0, .string ⟨#[]⟩, .string ⟨#[]⟩, .string ⟨#[]⟩, .int .i64 0, .string ⟨#[]⟩, .string ⟨#[]⟩, .string ⟨#[]⟩, .int .i64 0, .string ⟨#[]⟩, .string ⟨#[]⟩] 34)).drew wr.heap.size patZero from (patBox wr patZero 34).below (RowKit.Below.refl _ _).drew)
                have hfA := hideH (show ∀ j, j < 12 → (wr.alloc (.cells #[.string ⟨#[]⟩, .int .i64 0, .string ⟨#[]⟩, .string ⟨#[]⟩, .string ⟨#[]⟩, .int .i64 0, .string ⟨#[]⟩, .string ⟨#[]⟩, .string ⟨#[]⟩, .int .i64 0, .string ⟨#[]⟩, .string ⟨#[]⟩] 34)).drew.frozen? ⟨wr.heap.size, j, none⟩ = false by
                  intro j hj
                  rcases (by omega : j = 0 ∨ j = 1 ∨ j = 2 ∨ j = 3 ∨ j = 4 ∨ j = 5 ∨ j = 6 ∨ j = 7 ∨ j = 8 ∨ j = 9 ∨ j = 10 ∨ j = 11) with rfl | rfl | rfl | rfl | rfl | rfl | rfl | rfl | rfl | rfl | rfl | rfl <;> go_simp)
                have hzA : wr.heap.size < (wr.alloc (.cells #[.string ⟨#[]⟩, .int .i64 0, .string ⟨#[]⟩, .string ⟨#[]⟩, .string ⟨#[]⟩, .int .i64 0, .string ⟨#[]⟩, .string ⟨#[]⟩, .string ⟨#[]⟩, .int .i64 0, .string ⟨#[]⟩, .string ⟨#[]⟩] 34)).drew.heap.size := by simp
                have hX := hideH (patBox · x 34)
                unfold S15 at HBd hkeep hkA
                unfold valPt at HBd HCt
                unfold encPt at hX
                go_upto_region 20 with fail
                go_cut [15, 16] from 116 to 130 (fun v15 v16 W' => ∃ bx, v15 = .pointer (some ⟨bx, 0, none⟩) ∧ v16 = .nilIface ∧ Hid (PatAt W' bx x) ∧ Hid (RowKit.Below wr.heap.size wr W'))
                case first =>
                  go_region_held3 (fun W => RowKit.Below wr.heap.size wr W ∧ W.cell? ⟨w.heap.size, 0, none⟩ = some (.slice vd nv vc) ∧ W.cell? ⟨w.heap.size, 1, none⟩ = some (.slice (some ⟨pb, po, none⟩) m pc) ∧ W.cell? ⟨pb, po + k * 12, none⟩ = some (.string ⟨p.1.1.toArray⟩) ∧ W.cell? ⟨pb, po + k * 12 + 1, none⟩ = some (.int .i64 p.1.2.1) ∧ W.cell? ⟨pb, po + k * 12 + 2, none⟩ = some (.string ⟨p.1.2.2.1.toArray⟩) ∧ W.cell? ⟨pb, po + k * 12 + 3, none⟩ = some (.string ⟨p.1.2.2.2.toArray⟩) ∧ W.cell? ⟨pb, po + k * 12 + 4, none⟩ = some (.string ⟨p.2.1.1.toArray⟩) ∧ W.cell? ⟨pb, po + k * 12 + 5, none⟩ = some (.int .i64 p.2.1.2.1) ∧ W.cell? ⟨pb, po + k * 12 + 6, none⟩ = some (.string ⟨p.2.1.2.2.1.toArray⟩) ∧ W.cell? ⟨pb, po + k * 12 + 7, none⟩ = some (.string ⟨p.2.1.2.2.2.toArray⟩) ∧ W.cell? ⟨pb, po + k * 12 + 8, none⟩ = some (.string ⟨p.2.2.1.toArray⟩) ∧ W.cell? ⟨pb, po + k * 12 + 9, none⟩ = some (.int .i64 p.2.2.2.1) ∧ W.cell? ⟨pb, po + k * 12 + 10, none⟩ = some (.string ⟨p.2.2.2.2.1.toArray⟩) ∧ W.cell? ⟨pb, po + k * 12 + 11, none⟩ = some (.string ⟨p.2.2.2.2.2.toArray⟩) ∧ W.cell? ⟨yb, j, none⟩ = some (.slice rd r.length rc)) ((refine (fun (W : World) (h : S15 wr w.heap.size (.slice vd nv vc) (.slice (some ⟨pb, po, none⟩) m pc) pb (po + k * 12) p ⟨yb, j, none⟩ (.slice rd r.length rc) W) => h) _ ?_; repeat (first | (with_reducible exact hkeep) | (with_reducible exact hkA _) | (with_reducible refine S15.set lB lP lY ?_ (Nat.le_refl _) _ _) | (with_reducible refine S15.set lB lP lY ?_ hz5 _ _) | (with_reducible refine S15.alloc ?_ _) | (with_reducible refine S15.keep ?_ hb5) | (with_reducible assumption))))
                    (first
                    | (go_at_call 7; refine (HBd _ (by with_reducible assumption)).mono ?_; rintro e w5 ⟨rfl, hb5⟩; have hz5 : wr.heap.size ≤ w5.heap.size := (by have := hb5.size; simp at this; omega); (first | (have hz := (hZA.out.below hb5).all; dsimp only [patZero, tmZero] at hz; obtain ⟨z0, z1, z2, z3, z4, z5, z6, z7, z8, z9, z10, z11⟩ := hz; have f0 := (hb5.frozen (p := ⟨wr.heap.size, 0, none⟩) hzA).trans (hfA.out 0 (by omega)); have f1 := (hb5.frozen (p := ⟨wr.heap.size, 1, none⟩) hzA).trans (hfA.out 1 (by omega)); have f2 := (hb5.frozen (p := ⟨wr.heap.size, 2, none⟩) hzA).trans (hfA.out 2 (by omega)); have f3 := (hb5.frozen (p := ⟨wr.heap.size, 3, none⟩) hzA).trans (hfA.out 3 (by omega)); have f4 := (hb5.frozen (p := ⟨wr.heap.size, 4, none⟩) hzA).trans (hfA.out 4 (by omega)); have f5 := (hb5.frozen (p := ⟨wr.heap.size, 5, none⟩) hzA).trans (hfA.out 5 (by omega)); have f6 := (hb5.frozen (p := ⟨wr.heap.size, 6, none⟩) hzA).trans (hfA.out 6 (by omega)); have f7 := (hb5.frozen (p := ⟨wr.heap.size, 7, none⟩) hzA).trans (hfA.out 7 (by omega)); have f8 := (hb5.frozen (p := ⟨wr.heap.size, 8, none⟩) hzA).trans (hfA.out 8 (by omega)); have f9 := (hb5.frozen (p := ⟨wr.heap.size, 9, none⟩) hzA).trans (hfA.out 9 (by omega)); have f10 := (hb5.frozen (p := ⟨wr.heap.size, 10, none⟩) hzA).trans (hfA.out 10 (by omega)); have f11 := (hb5.frozen (p := ⟨wr.heap.size, 11, none⟩) hzA).trans (hfA.out 11 (by omega))) | skip); dsimp only))
                  · go_wp2_with fail
                    go_meet
                    case rel => exact ⟨_, rfl, rfl, hX.out w5, bstep (bstep (RowKit.Below.refl _ _).drew hb5) (balloc _ _)⟩
                  · go_wp2_with fail
                    go_meet
                    case rel => exact ⟨_, rfl, rfl, pset_pat (hZA.out.below hb5), pset_below (bstep (balloc wr _).drew hb5) (Nat.le_refl _)⟩
                case rest =>
                  obtain ⟨bx, rfl, rfl, hPX, hbX⟩ := hcut
                  have HCt' := HCt wc hbX.out
                  generalize CountAns S x = cn at *
                  have t4 : decide (cn < 1) = false := by simp; omega
                  have t4' : decide ((cn : Int) < 1) = false := by simp; omega
                  obtain ⟨y0, y1, y2, y3, y4, y5, y6, y7, y8, y9, y10, y11⟩ := hPX.out.all
                  clear HBd HCt hkeep hkA hk0 hZA hfA hzA hX c0 c1 e0 e1 e2 e3 e4 e5 e6 e7 e8 e9 e10 e11 crow
                  go_wp2_with fail
                  refine HCt'.mono ?_
                  rintro e w6 ⟨rfl, hb6⟩
                  clear HCt' y0 y1 y2 y3 y4 y5 y6 y7 y8 y9 y10 y11
                  dsimp only
                  go_wp2_with fail
                  go_roundw
                  case rel => first | exact ⟨k + 1, by omega, by go_num, bstep hbk.out (bstep hbX.out hb6)⟩ | ((repeat apply Exists.intro); refine ⟨⟨k + 1, by omega, ?_, bstep hbk.out (bstep hbX.out hb6)⟩, rfl⟩; go_num)
                  case measure => simp [intOf]; omega
              · have t3 : decide ((k : Int) < (m : Int)) = false := by simp; omega
                go_wp2_with fail
                go_meet
                case rel => exact hbk
          case rest =>
            clear hbr
            have hb9 := hcut.out
            refine go_on (by assumption) ?_
            refine shCmp _ _ _ _ _ _ _ _ _ _ _ _ _ _ _ _ _ _ _ _ _ _ _ _ _ _ _ _ _ _ _ _ _ _ _ _ _ _ _ _ _ _ _ _ _ _ _ _ _ _ _ _ _ _ _ _ _ _ _ _ _ _ _ _ _ _ _ _ _ _ _ _ _ _ _ _ _ _ _ _ _ _ _ _ _ _ _ _ _ _ _ _ _ _ _ _ _ _ _ _ _ _ _ _ _ _ _ _ _ _ _ _ _ _ _ _ _ _ _ _ _ _ _ _ _ _ _ _ _ _ _ _ _ _ _ _ _ _ _ _ _ _ _ _ _ _ _ _ _ _ _ _ _ _ _ _ _ _ _ _ _ _ _ _ _ _ _ _ _ _ _ _ _ _ _ _ _ _ _ _ _ _ _ _ _ _ _ _ _ _ _ _ _ _ _ _ _ _ _ _ _ _ _ _ _ _ _ _ _ _ _ _ _ _ _ _ _ _ _ _ _ _ _ _ _ _ _ _ _ _ _ _ _ _ ad vd ca S.length vc yb yc n nv j w.heap.size q.order all wc (cell_bH HB0.out.1 hb9) (cell_bH HB0.out.2.2 hb9) (HH.out.rows.below hb9) Hn.out hlt hle hv8 (fun r hr => (HFF.out.len r hr).trans Hnv.out.symm) (fun ho => HFF.out.ord ho) ?_
            intros
            rename_i W' hW'
            go_wp2_with fail
            go_roundw
            case rel => first | exact ⟨j + 1, by omega, by go_num, bstep hb9 hW'⟩ | ((repeat apply Exists.intro); refine ⟨⟨j + 1, by omega, ?_, bstep hb9 hW'⟩, rfl⟩; go_num)
            case measure => simp [intOf]; omega
        · have t1 : decide ((j : Int) < (n : Int)) = true := by simp; omega
          have t2 : decide ((j : Int) < 40) = false := by simp; omega
          go_wp2_with fail
          go_meet
          case rel => exact hbr
      · have t1 : decide ((j : Int) < (n : Int)) = false := by simp; omega
        go_wp2_with fail
        go_meet
        case rel => exact hbr
end Go.Proofs.YtcdbcoaiadipjaaGreat

/- stratalaw2.SolveHolds: the walk. -/
namespace Go.Proofs.YtcdbcoaiadipjaaGreat
open Go Go.RowKit Go.Proofs Go.Maps
set_option synthInstance.maxSize 1000
attribute [local go_sem] eql_errV neq_errV guard_errV
attribute [local go_sem ↓] eqlEmpty neqEmpty

theorem factSolve (xd vd pd : Option Addr) (xc vc pc : Nat) (w : World) (hx : SlT w xd [factT]) (hv : SlW w vd [[120]]) (hp : SlPt w pd [factP]) (hc : 1 ≤ vc) :
    Calls Tryz.prog 5 #[.slice xd 1 xc, .agg #[.slice vd 1 vc, .slice pd 1 pc, .string ⟨#[]⟩, .bool false, .bool false, .int .i64 (-1)]] w fun e w' => RowKit.Below w.heap.size w w' ∧ ∃ ad c, e = .returned (.tuple #[.slice ad 1 c, .nilIface]) ∧ SlR w' ad [[(1, [97], [])]] := by
  have := Solve_any xd xc [factT] factQ vd pd vc pc w hx factTr (by simp) ⟨hv, hp⟩ factFit hc
  unfold SolveAns at this
  rw [factN, factL] at this
  exact this.mono fun _ _ ⟨h1, ad, c, h2, h3, _⟩ => ⟨h1, ad, c, h2, h3⟩
theorem slPt_oneH {w : World} {b : Nat} {p : Pt} (h : PatAt w b p) : SlPt w (some ⟨b, 0, none⟩) [p] := fun _ => ⟨b, 0, rfl, fun j v hj => by rw [Nat.zero_add]; exact h j v (by simpa [cellsPt] using hj)⟩
theorem slW_oneH {w : World} {b : Nat} {v : List UInt8} (h : w.cell? ⟨b, 0, none⟩ = some (.string ⟨v.toArray⟩)) : SlW w (some ⟨b, 0, none⟩) [v] := fun _ => ⟨b, 0, rfl, fun j hj => by
  obtain rfl : j = 0 := by simpa using hj
  exact h⟩
def holdsW (w : World) (q : Qu) (vd pd : Option Addr) (vc pc : Nat) : World := ((((((w.alloc (.cells #[.slice vd q.vars.length vc, .slice pd q.parts.length pc, .string ⟨q.order.toArray⟩, .bool q.down, .bool q.dist, .int .i64 q.lim] 26)).alloc (.cells #[.int .i64 1, .string ⟨#[97]⟩, .string ⟨#[]⟩, .int .i64 1, .string ⟨#[98]⟩, .string ⟨#[]⟩, .int .i64 1, .string ⟨#[99]⟩, .string ⟨#[]⟩] 30)).alloc (.cells #[.string ⟨#[120]⟩] 9)).alloc (.cells #[.string ⟨#[120]⟩, .int .i64 0, .string ⟨#[]⟩, .string ⟨#[]⟩, .string ⟨#[]⟩, .int .i64 1, .string ⟨#[98]⟩, .string ⟨#[]⟩, .string ⟨#[]⟩, .int .i64 1, .string ⟨#[99]⟩, .string ⟨#[]⟩] 34)).alloc (.cells #[.slice (some ⟨w.heap.size + 1 + 1, 0, none⟩) 1 1, .slice (some ⟨w.heap.size + 1 + 1 + 1, 0, none⟩) 1 1, .string ⟨#[]⟩, .bool false, .bool false, .int .i64 (-1)] 26)).alloc (.cells #[.int .i64 1, .string ⟨#[97]⟩, .string ⟨#[]⟩, .int .i64 1, .string ⟨#[98]⟩, .string ⟨#[]⟩, .int .i64 1, .string ⟨#[99]⟩, .string ⟨#[]⟩] 30))
/-- what lies in the world ahead of the first question -/
theorem holdsW_has (w : World) (q : Qu) (vd pd : Option Addr) (vc pc : Nat) :
    RowKit.Below w.heap.size w (holdsW w q vd pd vc pc) ∧ BoxQ (holdsW w q vd pd vc pc) w.heap.size q vd pd vc pc ∧ WetH (holdsW w q vd pd vc pc) w.heap.size 6 ∧ w.heap.size < (holdsW w q vd pd vc pc).heap.size ∧ SlT (holdsW w q vd pd vc pc) (some ⟨w.heap.size + 1 + 1 + 1 + 1 + 1, 0, none⟩) [factT] ∧ SlW (holdsW w q vd pd vc pc) (some ⟨w.heap.size + 1 + 1, 0, none⟩) [[120]] ∧ SlPt (holdsW w q vd pd vc pc) (some ⟨w.heap.size + 1 + 1 + 1, 0, none⟩) [factP] := by
  refine ⟨?_, ?_, ?_, ?_, ?_, ?_, ?_⟩
  · exact bstep (bstep (bstep (bstep (bstep (balloc _ _) (balloc _ _)) (balloc _ _)) (balloc _ _)) (balloc _ _)) (balloc _ _)
  · exact (boxQ_new w q vd pd vc pc).below (bstep (bstep (bstep (bstep (balloc _ _) (balloc _ _)) (balloc _ _)) (balloc _ _)) (balloc _ _))
  · unfold holdsW
    intro j hj
    rcases (by omega : j = 0 ∨ j = 1 ∨ j = 2 ∨ j = 3 ∨ j = 4 ∨ j = 5) with rfl | rfl | rfl | rfl | rfl | rfl <;> go_simp
  · unfold holdsW
    simp only [World.size_alloc]
    omega
  · intro _
    refine ⟨w.heap.size + 1 + 1 + 1 + 1 + 1, 0, rfl, fun j v hj => ?_⟩
    rw [Nat.zero_add]
    unfold holdsW
    have h9 : j < 9 := (List.getElem?_eq_some_iff.1 hj).1
    rcases (by omega : j = 0 ∨ j = 1 ∨ j = 2 ∨ j = 3 ∨ j = 4 ∨ j = 5 ∨ j = 6 ∨ j = 7 ∨ j = 8) with rfl | rfl | rfl | rfl | rfl | rfl | rfl | rfl | rfl
    all_goals
      simp [cellsT, encTr, factT] at hj
      subst hj
      go_simp
  · refine slW_oneH ?_
    unfold holdsW
    go_simp
  · refine slPt_oneH fun j v hj => ?_
    unfold holdsW
    have h12 : j < 12 := (List.getElem?_eq_some_iff.1 hj).1
    rcases (by omega : j = 0 ∨ j = 1 ∨ j = 2 ∨ j = 3 ∨ j = 4 ∨ j = 5 ∨ j = 6 ∨ j = 7 ∨ j = 8 ∨ j = 9 ∨ j = 10 ∨ j = 11) with rfl | rfl | rfl | rfl | rfl | rfl | rfl | rfl | rfl | rfl | rfl | rfl
    all_goals
      simp [encPt, factP, tmZero] at hj
      subst hj
      go_simp
/-- the question's box, written to: any limit, not distinct -/
theorem boxQ_plain {W : World} {b : Nat} {q : Qu} {vd pd : Option Addr} {vc pc : Nat} (h : BoxQ W b q vd pd vc pc) : BoxQ ((W.setCell ⟨b, 5, none⟩ (.int .i64 (-1))).setCell ⟨b, 4, none⟩ (.bool false)) b (plainQ q) vd pd vc pc := by
  obtain ⟨c0, c1, c2, c3, c4, c5⟩ := h
  have o : ∀ {W : World} {j k : Nat} {v u : Value}, W.cell? ⟨b, j, none⟩ = some v → j ≠ k → (W.setCell ⟨b, k, none⟩ u).cell? ⟨b, j, none⟩ = some v := fun {W j k v u} hc hn => (World.cell?_setCell_other W _ _ _ (fun e => hn (by simpa using congrArg Addr.off e.symm))).trans hc
  refine ⟨o (o c0 (by omega)) (by omega), o (o c1 (by omega)) (by omega), o (o c2 (by omega)) (by omega), o (o c3 (by omega)) (by omega), ?_, ?_⟩
  · exact World.cell?_setCell_same _ _ _ (o c4 (by omega))
  · exact o (World.cell?_setCell_same _ _ _ c5) (by omega)

set_option maxHeartbeats 16000000 in
set_option maxRecDepth 1000000 in
theorem solveHolds_any (ad : Option Addr) (ca : Nat) (S : List Tr) (q : Qu) (vd pd : Option Addr) (vc pc : Nat) (w : World) (h : SlT w ad S) (hfit : ∀ x ∈ S, fitTr x) (hn : S.length ≤ 9223372036854775807) (hq : QuIn w q vd pd) (hf : FitQ q) (hvc : q.vars.length ≤ vc) :
    Calls Tryz.prog 3 #[.slice ad S.length ca, valQ q vd vc pd pc] w (HAns w) := by
  have hw2 : (Lit.int .i64 2).wf = true := by decide
  have hw1 : (Lit.int .i64 (-1)).wf = true := by decide
  have HC := hideH (show SolveOK ad ca S q vd pd vc pc w from fun W hb d n hn2 =>
    Solve_any ad ca S { q with dist := d, lim := n } vd pd vc pc W (h.below hb) hfit hn ⟨hq.vars.below hb, hq.parts.below hb⟩ ⟨hf.vl, hf.pl, hf.vt, hf.pt, hf.ord, by rcases hn2 with e | e <;> (dsimp only; rw [e]; first | exact hw1 | exact hw2)⟩ hvc)
  have HN := hideH (show ∀ W, RowKit.Below w.heap.size w W → Calls Tryz.prog 6 #[.slice ad S.length ca, .agg #[.slice vd q.vars.length vc, .slice pd q.parts.length pc, .string ⟨q.order.toArray⟩, .bool q.down, .bool false, .int .i64 (-1)]] W fun e w' => e = .returned (.tuple #[.int .i64 (naiveI S (plainQ q) : Int), errV (solveN S (plainQ q))]) ∧ RowKit.Below W.heap.size W w' from fun W hb =>
    Naive_any ad ca S (plainQ q) vd pd vc pc W (h.below hb) hfit hn ⟨hq.vars.below hb, hq.parts.below hb⟩ ⟨hf.vl, hf.pl, hf.vt, hf.pt, hf.ord, hw1⟩ hvc)
  have HH := hideH (fun hz => holdsF (S := S) (q := q) hfit hf hz)
  have HS := hideH h
  have Hfit := hideH hfit
  have Hq := hideH hq
  have Hf := hideH hf
  clear h hfit hq hf hw1 hw2
  obtain ⟨g0, gx, gw, gz, gs, gv, gp⟩ := holdsW_has w q vd pd vc pc
  have HF := factSolve (some ⟨w.heap.size + 1 + 1 + 1 + 1 + 1, 0, none⟩) (some ⟨w.heap.size + 1 + 1, 0, none⟩) (some ⟨w.heap.size + 1 + 1 + 1, 0, none⟩) 1 1 1 (holdsW w q vd pd vc pc) gs gv gp (Nat.le_refl 1)
  have Gx := hideH gx
  have Gw := hideH gw
  clear gx gw gs gv gp
  unfold valQ
  go_enter Tryz.func3, Tryz.ntmps3
  go_wp2_with fail
  refine HF.mono ?_
  rintro e w1 ⟨hb1, yd, yc, rfl, hy⟩
  have B1 := bstep g0 hb1
  have X1 := hideH (Gx.out.below hb1)
  have F1 := hideH (Gw.out.below gz hb1)
  have z1 : w.heap.size < w1.heap.size := Nat.lt_of_lt_of_le gz hb1.size
  obtain ⟨b1, o1, rd, rc, rfl, k1, s1⟩ := hy.at 0 (by simp)
  obtain ⟨b2, o2, rfl, k2, k3, k4⟩ := s1.at 0 (by simp)
  simp only [List.getElem_cons_zero, List.length_cons, List.length_nil, Nat.zero_mul, Nat.add_zero, Nat.zero_add] at k1 k2 k3 k4
  have f4 := F1.out 4 (by omega)
  have f5 := F1.out 5 (by omega)
  have d4 := X1.out.c4
  have d5 := X1.out.c5
  clear hy s1 HF Gx Gw g0 gz hb1
  dsimp only
  go_upto_region 8 with fail
  obtain ⟨W2, hW2⟩ : ∃ W2, W2 = (w1.setCell ⟨w.heap.size, 5, none⟩ (.int .i64 (-1))).setCell ⟨w.heap.size, 4, none⟩ (.bool false) := ⟨_, rfl⟩
  have B2 : RowKit.Below w.heap.size w W2 := by rw [hW2]; exact (B1.setCell (p := ⟨w.heap.size, 5, none⟩) (Nat.le_refl _) _).setCell (p := ⟨w.heap.size, 4, none⟩) (Nat.le_refl _) _
  have X2 := hideH (show BoxQ W2 w.heap.size (plainQ q) vd pd vc pc by rw [hW2]; exact boxQ_plain X1.out)
  have F2 := hideH (show WetH W2 w.heap.size 6 by
    rw [hW2]
    intro j hj
    rw [World.frozen?_setCell, World.frozen?_setCell]
    exact F1.out j hj)
  have z2 : w.heap.size < W2.heap.size := by rw [hW2]; simpa [World.setCell] using z1
  rw [← hW2]
  clear hW2 k1 k2 k3 k4 f4 f5 d4 d5 X1 F1 B1 z1
  obtain ⟨c0, c1, c2, c3, c4, c5⟩ := X2.out
  dsimp only [plainQ] at c0 c1 c2 c3 c4 c5
  have HC2 := HC.out W2 B2 false (-1) (Or.inl rfl)
  unfold SolveAns at HC2
  rw [show ({ q with dist := false, lim := -1 } : Qu) = plainQ q from rfl] at HC2
  (try dsimp only at HC2)
  go_wp2_with fail
  refine HC2.mono ?_
  rintro e w3 ⟨hb3, xd, xc, rfl, hx, hxc, hxd⟩
  have B3 := bstep B2 hb3
  have X3 := hideH (X2.out.below hb3)
  have F3 := hideH (F2.out.below z2 hb3)
  have z3 : w.heap.size < w3.heap.size := Nat.lt_of_lt_of_le z2 hb3.size
  have HN3 := HN.out w3 B3
  have hNv := hideH (show solveN S (plainQ q) ≠ 0 → naiveI S (plainQ q) = 0 from fun hne => by unfold naiveI; rw [if_neg hne])
  clear HC2 X2 F2 z2 c0 c1 c2 c3 c4 c5 B2 HN
  obtain ⟨c0, c1, c2, c3, c4, c5⟩ := X3.out
  dsimp only [plainQ] at c0 c1 c2 c3 c4 c5
  by_cases hz : solveN S (plainQ q) = 0
  · have hHF := HH.out hz
    have HB := hideH (show PBindOK q vd vc w from fun W p rd rc r hb hp hr hrf hr63 => PBind_any p vd rd vc rc q.vars r W hp (Hq.out.vars.below hb) hr Hf.out.vt hrf (by have := hHF.v8; unfold maxLen; omega) hr63)
    obtain ⟨yb, rfl⟩ := hxd hz
    have hnv := hHF.naive
    rw [hz, hnv] at HN3
    rw [hz]
    clear hNv hxd hz HH
    have Hx := hideH hx
    have HFF := hideH hHF
    clear hx hHF hnv
    generalize solveL S (plainQ q) = all at *
    dsimp only [errV] at HN3 ⊢
    have Hxc := hideH hxc
    clear hxc
    obtain ⟨n, hn9⟩ : ∃ n, n = all.length := ⟨_, rfl⟩
    rw [← hn9] at HN3 ⊢
    have Hn9 := hideH hn9
    have t1 : ((n : Int) != (n : Int)) = false := by simp
    clear hn9
    go_wp2_with fail
    refine HN3.mono ?_
    rintro e w4 ⟨rfl, hb4⟩
    have st := hideH (show HSt q vd pd vc pc (some ⟨yb, 0, none⟩) all w w4 from ⟨bstep B3 hb4, X3.out.below hb4, F3.out.below z3 hb4, Hx.out.below hb4⟩)
    clear HN3 X3 F3 Hx z3 B3 hb4 c0 c1 c2 c3 c4 c5
    dsimp only
    go_upto_if 98 with fail
    go_cut [4] from 87 to 98 (fun _ W' => Hid (W' = w4))
    case first =>
      go_wp2_with fail
      go_meet
      case rel => exact rfl
    case rest =>
      have hw := hcut.out
      subst hw
      refine go_on (by assumption) ?_
      rw [Hn9.out]
      exact shLoop _ _ _ _ _ _ _ _ _ _ _ _ _ _ _ _ _ _ _ _ _ _ _ _ _ _ _ _ _ _ _ _ _ _ _ _ _ _ _ _ _ _ _ _ _ _ _ _ _ _ _ _ _ _ _ _ _ _ _ _ _ _ _ _ _ _ _ _ _ _ _ _ _ _ _ _ _ _ _ _ _ _ _ _ _ _ _ _ _ _ _ _ _ _ _ _ _ _ _ _ _ _ _ _ _ _ _ _ _ _ _ _ _ _ _ _ _ _ _ _ _ _ _ _ _ _ _ _ _ _ _ _ _ _ _ _ _ _ _ _ _ _ _ _ _ _ _ _ _ _ _ _ _ _ _ _ _ _ _ _ _ _ _ _ _ _ _ _ _ _ _ _ _ _ _ _ _ _ _ _ _ _ _ _ _ _ _ _ _ _ _ _ _ _ _ _ _ _ _ _ _ _ _ _ _ _ _ _ _ _ _ _ _ _ _ _ _ _ _ _ _ _ _ _ _ _ _ _ _ _ _ _ _ _ ad ca S q vd pd vc pc yb xc all w wc HS.out Hfit.out hn Hq.out Hf.out HC.out HB.out HFF.out Hxc.out st.out
  · have e1 : (solveN S (plainQ q) == 0) = false := by simpa using hz
    rw [hNv.out hz] at HN3
    clear hNv hxd hx hxc HH hz
    generalize solveN S (plainQ q) = N at *
    generalize solveL S (plainQ q) = all at *
    generalize all.length = n at *
    go_wp2_with fail
    refine HN3.mono ?_
    rintro e w4 ⟨rfl, hb4⟩
    have B4 := bstep B3 hb4
    clear HN3 X3 F3 z3 B3 hb4 c0 c1 c2 c3 c4 c5
    dsimp only
    go_wp2_with fail
    go_ret
    exact ⟨rfl, B4⟩
end Go.Proofs.YtcdbcoaiadipjaaGreat
