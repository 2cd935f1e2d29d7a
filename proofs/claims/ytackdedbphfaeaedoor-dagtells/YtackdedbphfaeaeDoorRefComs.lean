/- The document's answer (package strataref2): Commits. -/
import Derived.Test.YtackdedbphfaeaeDoorRefDag
import Derived.RegionTactic
namespace Go.Proofs.YtackdedbphfaeaeDoor
open Go Go.RowKit Go.Proofs
set_option synthInstance.maxSize 1000

theorem coms_at {l : List Cm} (hz : ¬ 60 < l.length) {k : Nat} (hk : k < l.length) (hn : ∀ (j : Nat) (hj : j < k), comN (l[j]'(by omega)) j = 0) {e : Int} (he : comN l[k] k = e) (h0 : e ≠ 0) : comsN l = (k, e) := by
  unfold comsN
  rw [if_neg hz]
  have := firstC_at (i := 0) hk (fun j hj => by simpa using hn j hj) (by simpa [he] using h0)
  simpa [he] using this

theorem twin_two {p : List Int} (h : p.length = 2) : twinB p = decide (p[0]'(by omega) = p[1]'(by omega)) := by
  match p, h with
  | [a, b], _ => rfl
theorem twin_not {p : List Int} (h : ¬ p.length = 2) : twinB p = false := by
  match p, h with
  | [], _ => rfl
  | [_], _ => rfl
  | [a, b], h => simp at h
  | _ :: _ :: _ :: _, _ => rfl
set_option maxHeartbeats 8000000 in
set_option maxRecDepth 100000 in
theorem RCommits_any (ad : Option Addr) (ca : Nat) (l : List Cm) (w : World) (hl : SlC w ad l) (hz : l.length ≤ 9223372036854775807) (hps : ∀ c ∈ l, c.1.length ≤ 9223372036854775807) :
    Calls Tryd.prog 20 #[.slice ad l.length ca] w fun e w' => e = .returned (.tuple #[.int .i64 ((comsN l).1 : Int), .int .i64 (comsN l).2]) ∧ RowKit.Below w.heap.size w w' := by
  have Hl := hideO hl
  have Hps := hideO hps
  clear hl hps
  by_cases h60 : 60 < l.length
  · have j0 : (60 : Int) < (l.length : Int) := by omega
    have hf : Hid (comsN l = (0, 4)) := by show _ = _; unfold comsN; rw [if_pos h60]
    generalize comsN l = A at *
    go_enter Tryd.func20, Tryd.ntmps20
    go_wp2_with fail
    exact bodyPost_ret (v := .tuple #[.int .i64 0, .int .i64 4]) (by simp [results, Tryd.results20, go_sem]) rfl ⟨by rw [hf.out]; rfl, RowKit.Below.refl _ _⟩
  · have j0 : ¬ (60 : Int) < (l.length : Int) := by omega
    have hat : Hid (∀ (k : Nat) (hk : k < l.length), (∀ (j : Nat) (hj : j < k), comN (l[j]'(by omega)) j = 0) → ∀ e : Int, comN l[k] k = e → e ≠ 0 → comsN l = (k, e)) := fun k hk hn e he h0 => coms_at h60 hk hn he h0
    have hno : Hid ((∀ (j : Nat) (hj : j < l.length), comN l[j] j = 0) → comsN l = (0, 0)) := fun h => by
      unfold comsN
      rw [if_neg h60, firstC_none fun j hj => by simpa using h j hj]
    generalize comsN l = A at *
    go_enter Tryd.func20, Tryd.ntmps20
    go_wp2_with fail
    go_loopw [4] (fun i wr => ∃ (k q : Nat), k ≤ l.length ∧ i = .int .i64 k ∧ wr = w.drewN q ∧ Hid (∀ (j : Nat) (_ : j < k) (hj : j < l.length), comN l[j] j = 0)) (fun i wr => l.length - (intOf i).toNat)
    case atStart => exact ⟨0, 0, by omega, rfl, rfl, fun j hj => by omega⟩
    case round =>
      obtain ⟨k, q, hk, rfl, rfl, hs⟩ := hrel
      by_cases hlt : k < l.length
      · obtain ⟨b, o, ap, cp, rfl, d0, d1, d2, hsp⟩ := Hl.out.at hlt
        have k0 : (0 : Int) ≤ (k : Int) := by omega
        have k1 : (k : Int) < (l.length : Int) := by omega
        have Hsp := hideO hsp
        have hpz := Hps.out _ (List.getElem_mem hlt)
        have HM := RMessage_any l[k].2.2
        have hhit : Hid (∀ e : Int, comN l[k] k = e → e ≠ 0 → A = (k, e)) := fun e he h0 => hat.out k hlt (fun j hj => hs.out j hj (by omega)) e he h0
        have hnext : Hid (comN l[k] k = 0 → ∀ (j : Nat) (_ : j < k + 1) (hj : j < l.length), comN l[j] j = 0) := fun h j h1 hj => by
          rcases (by omega : j < k ∨ j = k) with h2 | rfl
          · exact hs.out j h2 hj
          · exact h
        have hcom : Hid (comN l[k] k = if 2 < l[k].1.length ∨ msgN l[k].2.2 = 4 then 4 else if rangeB l[k].1 k = false then 1 else if twinB l[k].1 = true then 7 else if msgN l[k].2.2 ≠ 0 then msgN l[k].2.2 else if l[k].2.1 < 1 ∨ 300 < l[k].2.1 then 1 else 0) := rfl
        clear hsp
        generalize comN l[k] k = N at *
        generalize hc1 : l[k].1 = ps at *
        generalize hc2 : l[k].2.1 = ly at *
        generalize hc3 : l[k].2.2 = ms at *
        clear hc1 hc2 hc3
        have hm9 : msgN ms = 0 ∨ msgN ms = 2 ∨ msgN ms = 4 := by unfold msgN; split; exact Or.inr (Or.inr rfl); split; exact Or.inl rfl; exact Or.inr (Or.inl rfl)
        generalize msgN ms = mn at *
        go_wp2_with fail
        refine (HM _).mono ?_
        rintro e w1 ⟨rfl, rfl⟩
        by_cases h2 : 2 < ps.length
        · have g2 : (2 : Int) < (ps.length : Int) := by omega
          have hA := hideO (hhit.out 4 (by rw [hcom.out, if_pos (Or.inl h2)]) (by decide))
          go_wp2_with fail
          exact bodyPost_ret (v := .tuple #[.int .i64 (k : Int), .int .i64 4]) (by simp [results, Tryd.results20, go_sem]) rfl ⟨by rw [hA.out], bdO _ _⟩
        · have g2 : ¬ (2 : Int) < (ps.length : Int) := by omega
          by_cases h4 : mn = 4
          · subst h4
            have hA := hideO (hhit.out 4 (by rw [hcom.out, if_pos (Or.inr rfl)]) (by decide))
            go_wp2_with fail
            exact bodyPost_ret (v := .tuple #[.int .i64 (k : Int), .int .i64 4]) (by simp [results, Tryd.results20, go_sem]) rfl ⟨by rw [hA.out], bdO _ _⟩
          · have g4 : (mn == 4) = false := by simpa using h4
            have hcom2 : Hid (N = if rangeB ps k = false then 1 else if twinB ps = true then 7 else if mn ≠ 0 then mn else if ly < 1 ∨ 300 < ly then 1 else 0) := by
              show _ = _
              rw [hcom.out, if_neg (fun h => h.elim h2 h4)]
            clear h2 h4 hcom
            go_wp2_with fail
            go_loopw [7] (fun jj w6 => ∃ (j q2 : Nat), j ≤ ps.length ∧ jj = .int .i64 j ∧ w6 = w.drewN q2 ∧ Hid (rangeB (ps.take j) k = true)) (fun jj w6 => ps.length - (intOf jj).toNat)
            case atStart => exact ⟨0, q, by omega, rfl, rfl, by show _ = _; simp [rangeB]⟩
            case round =>
              obtain ⟨j, q2, hj, rfl, rfl, hr⟩ := hrel
              by_cases hjl : j < ps.length
              · obtain ⟨b2, o2, rfl, e0⟩ := Hsp.out.at hjl
                have j0' : (0 : Int) ≤ (j : Int) := by omega
                have j1 : (j : Int) < (ps.length : Int) := by omega
                have hbad : Hid (¬ (0 ≤ ps[j] ∧ ps[j] < (k : Int)) → N = 1) := fun h => by
                  rw [hcom2.out, if_pos]
                  unfold rangeB
                  rw [List.all_eq_false]
                  exact ⟨ps[j], List.getElem_mem hjl, by simpa using h⟩
                have hgood : Hid ((0 ≤ ps[j] ∧ ps[j] < (k : Int)) → rangeB (ps.take (j + 1)) k = true) := fun h => by
                  have := hr.out
                  unfold rangeB at this ⊢
                  rw [List.take_succ_eq_append_getElem hjl, List.all_append, this]
                  simpa using h
                generalize ps[j] = x at *
                by_cases h1 : x < 0
                · have hA := hideO (hhit.out 1 (hbad.out (by omega)) (by decide))
                  go_wp2_with fail
                  exact bodyPost_ret (v := .tuple #[.int .i64 (k : Int), .int .i64 1]) (by simp [results, Tryd.results20, go_sem]) rfl ⟨by rw [hA.out], bdO _ _⟩
                · by_cases h2 : (k : Int) ≤ x
                  · have hA := hideO (hhit.out 1 (hbad.out (by omega)) (by decide))
                    go_wp2_with fail
                    exact bodyPost_ret (v := .tuple #[.int .i64 (k : Int), .int .i64 1]) (by simp [results, Tryd.results20, go_sem]) rfl ⟨by rw [hA.out], bdO _ _⟩
                  · have hr' := hideO (hgood.out (by omega))
                    go_wp2_with fail
                    go_roundw
                    case rel => exact ⟨j + 1, q2, by omega, by go_num, rfl, hr'⟩
                    case measure => simp [intOf]; omega
              · obtain rfl : j = ps.length := by omega
                have hrg : rangeB ps k = true := by have := hr.out; rwa [List.take_length] at this
                have hcom3 : Hid (N = if twinB ps = true then 7 else if mn ≠ 0 then mn else if ly < 1 ∨ 300 < ly then 1 else 0) := by
                  show _ = _
                  rw [hcom2.out, if_neg (by rw [hrg]; decide)]
                clear hrg hcom2
                by_cases hl2 : ps.length = 2
                · obtain ⟨b2, o2, rfl, hc⟩ := Hsp.out (fun e => by rw [e] at hl2; simp at hl2)
                  have e0 : w.cell? ⟨b2, o2, none⟩ = some (.int .i64 (ps[0]'(by omega))) := by have := hc 0 (by omega); simpa using this
                  have e1 : w.cell? ⟨b2, o2 + 1, none⟩ = some (.int .i64 (ps[1]'(by omega))) := hc 1 (by omega)
                  have htw : twinB ps = decide (ps[0]'(by omega) = ps[1]'(by omega)) := twin_two hl2
                  have t0 : ((ps.length : Int) == 2) = true := by simp [hl2]
                  have t1 : (1 : Int) < (ps.length : Int) := by omega
                  have t2 : (0 : Int) < (ps.length : Int) := by omega
                  clear hc
                  generalize ps[0]'(by omega) = a at *
                  generalize ps[1]'(by omega) = b' at *
                  clear hl2
                  by_cases hab : a = b'
                  · have hA := hideO (hhit.out 7 (by rw [hcom3.out, if_pos (by rw [htw]; simpa using hab)]) (by decide))
                    have tab : (a == b') = true := by simpa using hab
                    clear hab htw
                    go_wp2_with fail
                    go_region
                    go_wp2_with fail
                    exact bodyPost_ret (v := .tuple #[.int .i64 (k : Int), .int .i64 7]) (by simp [results, Tryd.results20, go_sem]) rfl ⟨by rw [hA.out], bdO _ _⟩
                  · have tab : (a == b') = false := by simpa using hab
                    have hcom4 : Hid (N = if mn ≠ 0 then mn else if ly < 1 ∨ 300 < ly then 1 else 0) := by
                      show _ = _
                      rw [hcom3.out, if_neg (by rw [htw]; simpa using hab)]
                    clear hab htw hcom3
                    rcases hm9 with rfl | rfl | rfl
                    · by_cases hy1 : ly < 1
                      · have hA := hideO (hhit.out 1 (by rw [hcom4.out, if_neg (by decide), if_pos (Or.inl hy1)]) (by decide))
                        go_wp2_with fail
                        go_region
                        go_wp2_with fail
                        exact bodyPost_ret (v := .tuple #[.int .i64 (k : Int), .int .i64 1]) (by simp [results, Tryd.results20, go_sem]) rfl ⟨by rw [hA.out], bdO _ _⟩
                      · by_cases hy2 : 300 < ly
                        · have hA := hideO (hhit.out 1 (by rw [hcom4.out, if_neg (by decide), if_pos (Or.inr hy2)]) (by decide))
                          go_wp2_with fail
                          go_region
                          go_wp2_with fail
                          exact bodyPost_ret (v := .tuple #[.int .i64 (k : Int), .int .i64 1]) (by simp [results, Tryd.results20, go_sem]) rfl ⟨by rw [hA.out], bdO _ _⟩
                        · have hn2 := hideO (hnext.out (by rw [hcom4.out, if_neg (by decide), if_neg (fun h => h.elim hy1 hy2)]))
                          go_wp2_with fail
                          go_region
                          go_wp2_with fail
                          go_roundw
                          case rel => exact ⟨k + 1, _, by omega, by go_num, by first | rfl | exact World.drewN_succ _ _, hn2⟩
                          case measure => simp [intOf]; omega
                    · have hA := hideO (hhit.out 2 (by rw [hcom4.out, if_pos (by decide)]) (by decide))
                      go_wp2_with fail
                      go_region
                      go_wp2_with fail
                      exact bodyPost_ret (v := .tuple #[.int .i64 (k : Int), .int .i64 2]) (by simp [results, Tryd.results20, go_sem]) rfl ⟨by rw [hA.out], bdO _ _⟩
                    · simp at g4
                · have t0 : ((ps.length : Int) == 2) = false := by simp; omega
                  have hcom4 : Hid (N = if mn ≠ 0 then mn else if ly < 1 ∨ 300 < ly then 1 else 0) := by
                    show _ = _
                    rw [hcom3.out, if_neg (by rw [twin_not hl2]; decide)]
                  clear hl2 hcom3
                  rcases hm9 with rfl | rfl | rfl
                  · by_cases hy1 : ly < 1
                    · have hA := hideO (hhit.out 1 (by rw [hcom4.out, if_neg (by decide), if_pos (Or.inl hy1)]) (by decide))
                      go_wp2_with fail
                      go_region
                      go_wp2_with fail
                      exact bodyPost_ret (v := .tuple #[.int .i64 (k : Int), .int .i64 1]) (by simp [results, Tryd.results20, go_sem]) rfl ⟨by rw [hA.out], bdO _ _⟩
                    · by_cases hy2 : 300 < ly
                      · have hA := hideO (hhit.out 1 (by rw [hcom4.out, if_neg (by decide), if_pos (Or.inr hy2)]) (by decide))
                        go_wp2_with fail
                        go_region
                        go_wp2_with fail
                        exact bodyPost_ret (v := .tuple #[.int .i64 (k : Int), .int .i64 1]) (by simp [results, Tryd.results20, go_sem]) rfl ⟨by rw [hA.out], bdO _ _⟩
                      · have hn2 := hideO (hnext.out (by rw [hcom4.out, if_neg (by decide), if_neg (fun h => h.elim hy1 hy2)]))
                        go_wp2_with fail
                        go_region
                        go_wp2_with fail
                        go_roundw
                        case rel => exact ⟨k + 1, _, by omega, by go_num, by first | rfl | exact World.drewN_succ _ _, hn2⟩
                        case measure => simp [intOf]; omega
                  · have hA := hideO (hhit.out 2 (by rw [hcom4.out, if_pos (by decide)]) (by decide))
                    go_wp2_with fail
                    go_region
                    go_wp2_with fail
                    exact bodyPost_ret (v := .tuple #[.int .i64 (k : Int), .int .i64 2]) (by simp [results, Tryd.results20, go_sem]) rfl ⟨by rw [hA.out], bdO _ _⟩
                  · simp at g4
      · obtain rfl : k = l.length := by omega
        have hA := hideO (hno.out fun j hj => hs.out j hj hj)
        go_wp2_with fail
        exact bodyPost_ret (v := .tuple #[.int .i64 0, .int .i64 0]) (by simp [results, Tryd.results20, go_sem]) rfl ⟨by rw [hA.out]; rfl, bdO _ _⟩
end Go.Proofs.YtackdedbphfaeaeDoor
