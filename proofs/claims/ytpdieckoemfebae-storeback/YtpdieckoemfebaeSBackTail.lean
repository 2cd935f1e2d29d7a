/- StoreBack, its last part: some are kept; what is gone has another number, if it comes again. -/
import Derived.Test.YtpdieckoemfebaeStoreBackState
import Derived.Test.YtpdieckoemfebaeCodeCut
import Derived.Deep.DeepCutAuto
import Derived.Deep.CutBlock
namespace Go.Proofs.Ytpdieckoemfebae
open Go Go.RowKit Go.Proofs
set_option synthInstance.maxSize 1000

/-- what StoreBack is shown to answer -/
def BackAns (w : World) (e : Ending) (w' : World) : Prop := e = .returned (.bool true) ∧ RowKit.Below w.heap.size w w'
theorem keep_len {L : List Ob} {ids : List Int} (h : heldO L ids = true) : keepI L ids + (keepL L ids).length = L.length := by
  unfold keepI keepL
  rw [if_pos h, if_pos h]
  have := List.length_filter_le (fun x : Ob => ids.contains (x.1 : Int)) L
  have h2 : (keepO L ids).length ≤ L.length := this
  omega
theorem keep_sub {L : List Ob} {ids : List Int} : ∀ x ∈ keepL L ids, x ∈ L := by
  unfold keepL keepO
  split
  · exact fun x hx => (List.mem_filter.1 hx).1
  · exact fun x hx => hx

theorem idsO_len' (L : List Ob) : (idsO L).length = L.length := by simp [idsO]
theorem idsO_get {L : List Ob} {q : Nat} (h : q < L.length) {h' : q < (idsO L).length} : (idsO L)[q] = (L[q].1 : Int) := by simp [idsO]
theorem KA.sl {F : Face} {w0 : World} {s n bi : Nat} {L : List Ob} {I all : List Int} {ad : Option Addr} {W : World} (h : KA F w0 s n L bi I ad all W) : SlI W ad all := by
  obtain ⟨O, _, _, _, _, _, _, h7, _⟩ := h
  exact h7
set_option maxHeartbeats 32000000 in
set_option maxRecDepth 1000000 in
theorem sbackTail (F : Face) (u2 u3 u4 u6 u7 u9 u10 u11 u12 u13 u14 u15 u16 u17 u18 u19 u20 u21 u22 u23 u24 u25 u26 u27 u28 u29 u30 u31 u32 u33 u34 u35 u36 u37 u38 u39 u40 u41 u42 u43 u44 u45 u46 u47 u48 u49 u50 u51 u52 u53 u54 u55 u56 u57 u58 u59 u60 u61 u62 u63 u64 u65 u66 u67 u68 u69 u70 u71 u72 u73 u74 u75 u76 u77 u78 u79 u80 u81 u82 u83 u84 u85 u86 u87 u88 u89 u90 u91 u92 u93 u94 u95 u96 u97 u98 u99 u100 u101 u102 u103 u104 u105 u106 u107 u108 u109 u110 u111 u112 u113 u114 u115 u116 u117 u118 u119 u120 u121 u122 u123 u124 u125 u126 u127 u128 u129 u130 u131 u132 u133 u134 u135 u136 u137 u138 u139 u140 u141 u142 u143 u144 u145 u146 u147 u148 u149 u150 u151 u152 u153 u154 u155 u156 u157 u158 u159 u160 u161 u162 u163 u164 u165 u166 u167 u168 u169 u170 u171 u172 u173 u174 u175 u176 u177 u178 u179 u180 u181 u182 u183 u184 u185 u186 u187 u188 u189 u190 u191 u192 u193 u194 u195 u196 u197 u198 u199 u200 u201 u202 u203 u204 u205 u206 u207 u208 u209 u210 u211 u212 u213 u214 u215 : Value) (od kd : Option Addr) (co ck s bi n : Nat) (T : List (List UInt8)) (ids I : List Int) (L : List Ob) (w W : World)
    (hG : GoodO n L) (hR : Rec I T L) (hn : n ≤ 1000) (hT : T ≠ [] → ∃ b o, od = some ⟨b, o, none⟩ ∧ TextsAt w b o T) (hb : ∀ b ∈ T, b.length ≤ F.lim) (hk : SlI w kd ids) (hkz : ids.length ≤ 9223372036854775807) (hkc : ids.length ≤ ck) (hst : KA F w s n L bi I none [] W) :
    Code.wp Try.prog (codeOf Try.f4.body 22) (bodyPost Try.prog Try.f4 (BackAns w)) ⟨#[.slice od T.length co, .slice kd ids.length ck, u2, u3, u4, .pointer (some ⟨s, 0, none⟩), u6, u7, .slice (some ⟨bi, 0, none⟩) T.length T.length, u9, u10, u11, u12, u13, u14, u15, u16, u17, u18, u19, u20, u21, u22, u23, u24, u25, u26, u27, u28, u29, u30, u31, u32, u33, u34, u35, u36, u37, u38, u39, u40, u41, u42, u43, u44, u45, u46, u47, u48, u49, u50, u51, u52, u53, u54, u55, u56, u57, u58, u59, u60, u61, u62, u63, u64, u65, u66, u67, u68, u69, u70, u71, u72, u73, u74, u75, u76, u77, u78, u79, u80, u81, u82, u83, u84, u85, u86, u87, u88, u89, u90, u91, u92, u93, u94, u95, u96, u97, u98, u99, u100, u101, u102, u103, u104, u105, u106, u107, u108, u109, u110, u111, u112, u113, u114, u115, u116, u117, u118, u119, u120, u121, u122, u123, u124, u125, u126, u127, u128, u129, u130, u131, u132, u133, u134, u135, u136, u137, u138, u139, u140, u141, u142, u143, u144, u145, u146, u147, u148, u149, u150, u151, u152, u153, u154, u155, u156, u157, u158, u159, u160, u161, u162, u163, u164, u165, u166, u167, u168, u169, u170, u171, u172, u173, u174, u175, u176, u177, u178, u179, u180, u181, u182, u183, u184, u185, u186, u187, u188, u189, u190, u191, u192, u193, u194, u195, u196, u197, u198, u199, u200, u201, u202, u203, u204, u205, u206, u207, u208, u209, u210, u211, u212, u213, u214, u215], []⟩ W := by
  have HG := hideO hG
  have HR := hideO hR
  have HT := hideO hT
  have HB := hideO hb
  have HI := fun ad all W (h : KA F w s n L bi I ad all W) => h.ids hG
  have HK := fun ad all W (h : KA F w s n L bi I ad all W) => h.kept kd ck ids hG hk hkz hkc
  have Hst := hideO hst
  have hL3 := hG.len
  clear hG hR hT hb hk hst
  conv => arg 2; whnf
  go_wp2_with fail
  refine (HI _ _ _ Hst.out).mono ?_
  rintro e w1 ⟨a, c, rfl, hst1, _⟩
  have Hst1 := hideO hst1
  clear hst1 Hst
  dsimp only
  go_wp2_with fail
  refine (HK _ _ _ Hst1.out).mono ?_
  rintro e w2 ⟨rfl, hst2⟩
  have Hst2 := hideO hst2
  clear hst2 Hst1 HK
  dsimp only
  by_cases hh : heldO L ids = true
  · have hE : keepE L ids = 0 := by unfold keepE; rw [if_pos hh]
    have hlen := keep_len hh
    have HGk := hideO (HG.out.keep ids)
    have HSk := hideO (@keep_sub L ids)
    have HLk := fun ad all W (h : KA F w s n (keepL L ids) bi I ad all W) => h.len HGk.out
    rw [hE, show errV 0 = .nilIface from rfl]
    have hlen' : (((keepL L ids).length : Int) != (L.length : Int) - (keepI L ids : Int)) = false := by simp; omega
    clear hE hh HI
    generalize keepL L ids = L2 at *
    generalize keepI L ids = g at *
    have hg3 : g ≤ 300 := by omega
    have hl3 : L2.length ≤ 300 := by omega
    clear hlen
    go_wp2_with fail
    refine (HLk _ _ _ Hst2.out).mono ?_
    rintro e w3 ⟨rfl, hst3⟩
    have Hst3 := hideO hst3
    clear hst3 Hst2 HLk
    dsimp only
    go_wp2_with fail
    go_loopw [22] (fun i wr => ∃ (k n' : Nat) (L' : List Ob), k ≤ T.length ∧ k ≤ 100 ∧ i = .int .i64 k ∧ n ≤ n' ∧ n' ≤ n + k ∧ Hid (GoodO n' L') ∧ Hid (∀ x ∈ L', x.1 ≤ n → x ∈ L) ∧ Hid (KA F w s n' L' bi I a (idsO L) wr)) (fun i wr => 100 - (intOf i).toNat)
    case atStart => exact ⟨0, n, L2, by omega, by omega, rfl, Nat.le_refl _, Nat.le_refl _, HGk, fun x hx _ => HSk.out x hx, Hst3⟩
    case round =>
      obtain ⟨k, n', L', hk1, hk2, rfl, hn1, hn2, HG', HS', hst⟩ := hrel
      by_cases hkT : k < T.length
      · by_cases hk100 : k < 100
        · have i1 : (k : Int) < (T.length : Int) := by omega
          have i2 : (k : Int) < 100 := by omega
          have i0 : (0 : Int) ≤ (k : Int) := by omega
          obtain ⟨lb, lo, rfl, hA⟩ := HT.out (fun e => by rw [e] at hkT; simp at hkT)
          have hcT := hA k hkT
          have HcT : Hid (∀ W', RowKit.Below w.heap.size w W' → W'.cell? ⟨lb, lo + k, none⟩ = some (.string ⟨T[k].toArray⟩)) := fun W' h => (h.cell (World.block_lt_of_cell? w _ hcT)).trans hcT
          obtain ⟨av, hIa, hrec⟩ := HR.out.2 k hkT
          have HIa := hideO hIa
          have Hrec := hideO hrec
          have c0 := (hst.out.cell hIa).1
          have HGt := hst.out.get (av : Int) HG'.out
          have HBk := hideO (HB.out _ (List.getElem_mem hkT))
          clear hA hcT hIa hrec
          generalize T[k] = b at *
          by_cases ha0 : av = 0
          · subst ha0
            go_wp2_with fail
            refine HGt.mono ?_
            rintro e w4 ⟨rfl, hst4⟩
            have Hst4 := hideO hst4
            have c4 := (hst4.cell HIa.out).1
            clear hst4 hst c0 HGt
            generalize getE L' ((0 : Nat) : Int) = GE at *
            generalize getB L' ((0 : Nat) : Int) = GB at *
            dsimp only
            go_wp2_with fail
            go_roundw
            case rel => exact ⟨k + 1, n', L', by omega, by omega, by go_num, by omega, by omega, HG', HS', Hst4⟩
            case measure => simp [intOf]; omega
          · have hmem := hideO (Hrec.out.resolve_left ha0)
            have hap : 0 < av := by omega
            by_cases hgt : (getO L' (av : Int)).isSome = true
            · have hE : getE L' (av : Int) = 0 := by unfold getE; rw [if_pos hgt]
              rw [hE, show errV 0 = .nilIface from rfl] at HGt
              generalize getB L' (av : Int) = GB at *
              clear hE hgt
              go_wp2_with fail
              refine HGt.mono ?_
              rintro e w4 ⟨rfl, hst4⟩
              have Hst4 := hideO hst4
              have c4 := (hst4.cell HIa.out).1
              clear hst4 hst c0 HGt
              dsimp only
              go_wp2_with fail
              go_roundw
              case rel => exact ⟨k + 1, n', L', by omega, by omega, by go_num, by omega, by omega, HG', HS', Hst4⟩
              case measure => simp [intOf]; omega
            · have hE : getE L' (av : Int) = 5 := by unfold getE; rw [if_neg hgt]
              have hnone : getO L' (av : Int) = none := by simpa using hgt
              rw [hE, show errV 5 = .iface 49 (.int .i64 5) from rfl] at HGt
              have Hoth := hideO (fun he => put_other HG.out HG'.out hn1 HS'.out hmem.out hnone he)
              have HGp := hideO (HG'.out.put b)
              have HSp := hideO (put_sub hn1 HS'.out b)
              have hM1 : n ≤ putM n' L' b := Nat.le_trans hn1 (putM_ge n' L' b)
              have hM2 : putM n' L' b ≤ n + (k + 1) := by have := putM_le' n' L' b; omega
              have hPE : putE L' b = 0 ∨ putE L' b = 4 := by unfold putE; split; exact Or.inl rfl; split; exact Or.inr rfl; exact Or.inl rfl
              generalize getB L' (av : Int) = GB at *
              clear hE hgt hnone
              go_wp2_with fail
              refine HGt.mono ?_
              rintro e w4 ⟨rfl, hst4⟩
              have c4 := (hst4.cell HIa.out).1
              have d4 := HcT.out _ hst4.low
              have HP := hst4.put b HG'.out (by omega) HBk.out
              clear hst4 hst c0 HGt
              dsimp only
              generalize putM n' L' b = n2 at *
              generalize putL n' L' b = L3 at *
              generalize putI n' L' b = P at *
              generalize putE L' b = E at *
              rcases hPE with rfl | rfl
              · rw [show errV 0 = .nilIface from rfl] at HP
                go_wp2_with fail
                refine HP.mono ?_
                rintro e w5 ⟨rfl, hst5⟩
                have Hst5 := hideO hst5
                clear hst5 HP
                dsimp only
                go_wp2_with fail
                go_loopw [27] (fun j w6 => ∃ (q : Nat), q ≤ L.length ∧ j = .int .i64 q ∧ w6 = w5) (fun j w6 => L.length - (intOf j).toNat)
                case atStart => exact ⟨0, by omega, rfl, rfl⟩
                case round =>
                  obtain ⟨q, hq, rfl, hw6⟩ := hrel
                  obtain rfl : w5 = wr := hw6.symm
                  by_cases hql : q < L.length
                  · obtain ⟨b3, o3, rfl, d0⟩ := Hst5.out.sl.at (j := q) (by rw [idsO_len']; exact hql)
                    rw [idsO_get hql] at d0
                    have q0 : (0 : Int) ≤ (q : Int) := by omega
                    have q1 : (q : Int) < (L.length : Int) := by omega
                    have hne : ((P : Int) == (L[q].1 : Int)) = false := by
                      have := Hoth.out (by trivial) _ (List.getElem_mem hql)
                      simp
                      omega
                    generalize L[q].1 = y at *
                    go_wp2_with fail
                    go_roundw
                    case rel => exact ⟨q + 1, by omega, by go_num, by trivial⟩
                    case measure => simp [intOf]; omega
                  · obtain rfl : q = L.length := by omega
                    go_wp2_with fail
                    go_roundw
                    case rel => exact ⟨k + 1, _, _, by omega, by omega, by go_num, hM1, hM2, HGp, HSp, Hst5⟩
                    case measure => simp [intOf]; omega

              · rw [show errV 4 = .iface 49 (.int .i64 4) from rfl] at HP
                go_wp2_with fail
                refine HP.mono ?_
                rintro e w5 ⟨rfl, hst5⟩
                have Hst5 := hideO hst5
                clear hst5 HP
                dsimp only
                go_wp2_with fail
                go_loopw [27] (fun j w6 => ∃ (q : Nat), q ≤ L.length ∧ j = .int .i64 q ∧ w6 = w5) (fun j w6 => L.length - (intOf j).toNat)
                case atStart => exact ⟨0, by omega, rfl, rfl⟩
                case round =>
                  obtain ⟨q, hq, rfl, hw6⟩ := hrel
                  obtain rfl : w5 = wr := hw6.symm
                  by_cases hql : q < L.length
                  · obtain ⟨b3, o3, rfl, d0⟩ := Hst5.out.sl.at (j := q) (by rw [idsO_len']; exact hql)
                    rw [idsO_get hql] at d0
                    have q0 : (0 : Int) ≤ (q : Int) := by omega
                    have q1 : (q : Int) < (L.length : Int) := by omega
                    generalize L[q].1 = y at *
                    go_wp2_with fail
                    go_roundw
                    case rel => exact ⟨q + 1, by omega, by go_num, by trivial⟩
                    case measure => simp [intOf]; omega
                  · obtain rfl : q = L.length := by omega
                    go_wp2_with fail
                    go_roundw
                    case rel => exact ⟨k + 1, _, _, by omega, by omega, by go_num, hM1, hM2, HGp, HSp, Hst5⟩
                    case measure => simp [intOf]; omega

        · obtain rfl : k = 100 := by omega
          have i1 : ((100 : Nat) : Int) < (T.length : Int) := by omega
          go_wp2_with fail
          exact bodyPost_ret (v := .bool true) (by simp [results, Try.results4, go_sem]) rfl ⟨rfl, hst.out.low⟩
      · obtain rfl : k = T.length := by omega
        go_wp2_with fail
        exact bodyPost_ret (v := .bool true) (by simp [results, Try.results4, go_sem]) rfl ⟨rfl, hst.out.low⟩
  · have hE : keepE L ids = 5 := by unfold keepE; rw [if_neg hh]
    have hLk : keepL L ids = L := by unfold keepL; rw [if_neg hh]
    rw [hE, show errV 5 = .iface 49 (.int .i64 5) from rfl]
    rw [hLk] at Hst2
    clear hE hLk hh
    go_wp2_with fail
    refine (HI _ _ _ Hst2.out).mono ?_
    rintro e w3 ⟨a3, c3', rfl, _, hst3⟩
    have Hst3 := hideO hst3
    clear hst3 Hst2
    dsimp only
    go_wp2_with fail
    exact bodyPost_ret (v := .bool true) (by simp [results, Try.results4, go_sem]) rfl ⟨rfl, Hst3.out.low⟩
end Go.Proofs.Ytpdieckoemfebae
