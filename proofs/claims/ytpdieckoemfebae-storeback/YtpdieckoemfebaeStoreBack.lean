/- stratalaw2.StoreBack: the walk. -/
import Derived.Test.YtpdieckoemfebaeSBackMid
import Derived.OwnWalk
namespace Go.Proofs.Ytpdieckoemfebae
open Go Go.RowKit Go.Proofs
set_option synthInstance.maxSize 1000

set_option maxRecDepth 100000 in
theorem makeIntsO (n : Nat) (w : World) (h : n * 8 ≤ 281474976710656) : (Instr.makeSlice 34 (.int .i64 (n : Int)) (.int .i64 (n : Int))).run Try.prog w = .ok (.slice (some ⟨w.heap.size, 0, none⟩) n n) (w.alloc (rowZ (List.replicate n 0))) := by
  have hi : (Try.prog.info? 3).map (fun i => (i.zero, i.size, i.bytes)) = some (some (.int .i64 0), 1, 8) := by kernel_rfl
  obtain ⟨i, hi, h1, h2, h3⟩ := info_parts hi
  have := run_make (P := Try.prog) w 34 3 i _ Try.underlying34 hi h1 .i64 .i64 (n : Int) (n : Int) (by omega) (Int.le_refl _) (by rw [h3]; omega) (by omega)
  rw [h2] at this
  have e : rowZ (List.replicate n 0) = .cells (madeCells #[.int .i64 0] n) 3 := by
    unfold rowZ
    congr 1
    apply Array.ext'
    simp only [madeCells, Array.toList_map, Array.toList_range]
    rw [List.map_replicate]
    apply List.ext_getElem
    · simp
    · intro j h1 h2
      simp [Nat.mod_one]
  rw [e]
  simpa [Value.cells] using this
theorem KA.new {F : Face} {w0 W : World} {s n : Nat} {L : List Ob} (h : SB F w0 s n L W) (I : List Int) : KA F w0 s n L W.heap.size I none [] (W.alloc (rowZ I)) := by
  obtain ⟨O, h1, h2, h3⟩ := h
  refine ⟨O, F.below h1 (balloc _ _), bstep h2 (balloc _ _), h3, fun hO => ?_, h2.size, ?_, fun hne => absurd rfl hne, fun hne => absurd rfl hne⟩
  · have := F.own h1 _ hO
    omega
  · show (W.heap.push (rowZ I))[W.heap.size]? = some (rowZ I)
    simp
theorem KA.put2 {F : Face} {w0 : World} {s n bi : Nat} {L : List Ob} {I all : List Int} {ad : Option Addr} {W : World} (b : List UInt8) (hg : GoodO n L) (h : KA F w0 s (putM n L b) (putL n L b) bi I ad all W) (hn : n ≤ 999999) (hb : b.length ≤ F.lim) :
    Calls Try.prog 8 #[.pointer (some ⟨s, 0, none⟩), .string ⟨b.toArray⟩] W fun e W' => e = .returned (.tuple #[.int .i64 (putI n L b : Int), errV (putE L b)]) ∧ KA F w0 s (putM n L b) (putL n L b) bi I ad all W' := by
  have h1 := h.put b (hg.put b) (by have := putM_le' n L b; omega) hb
  obtain ⟨e1, e2, e3, e4⟩ := put_twice hg b
  rw [e1, e2, e3, e4] at h1
  exact h1

set_option maxHeartbeats 32000000 in
set_option maxRecDepth 1000000 in
theorem storeBack_any (F : Face) (od kd : Option Addr) (co ck : Nat) (T : List (List UInt8)) (ids : List Int) (w : World)
    (hT : T ≠ [] → ∃ b o, od = some ⟨b, o, none⟩ ∧ TextsAt w b o T) (hb : ∀ b ∈ T, b.length ≤ F.lim) (hlim : 1 ≤ F.lim) (hTn : T.length * 16 ≤ 140737488351232) (hk : SlI w kd ids) (hkz : ids.length ≤ 9223372036854775807) (hkc : ids.length ≤ ck) :
    Calls Try.prog 4 #[.slice od T.length co, .slice kd ids.length ck] w fun e w' => BackAns w e w' := by
  have HN := F.new w
  have hmk := fun W => makeIntsO T.length W (by omega)
  have HP0 : ∀ (s : Nat) (W : World), SB F w s 0 [] W → Calls Try.prog 8 #[.pointer (some ⟨s, 0, none⟩), .string ⟨#[120]⟩] W fun e W' => e = .returned (.tuple #[.int .i64 1, .nilIface]) ∧ SB F w s 1 [(1, [120])] W' := by
    intro s W h
    have h1 := h.put [120] (goodO_nil 0) (by omega) (by simpa using hlim)
    have e1 : putI 0 [] [120] = 1 := by decide
    have e2 : putE [] [120] = 0 := by decide
    have e3 : putM 0 [] [120] = 1 := by decide
    have e4 : putL 0 [] [120] = [(1, [120])] := by decide
    rw [e1, e2, e3, e4] at h1
    exact h1
  have HG1 : Hid (GoodO 1 [(1, [120])]) := by
    have h1 := (goodO_nil 0).put [120]
    have e3 : putM 0 [] [120] = 1 := by decide
    have e4 : putL 0 [] [120] = [(1, [120])] := by decide
    rw [e3, e4] at h1
    exact h1
  have HA : Hid _ := And.intro hT (And.intro hb (And.intro hk (And.intro hkz hkc)))
  clear hT hb hk hkz hkc hlim
  go_enter Try.func4, Try.ntmps4
  go_wp2_with fail
  refine HN.mono ?_
  rintro e w1 ⟨s, O, rfl, hA, hb1, hO⟩
  have hst1 : Hid (SB F w s 0 [] w1) := ⟨O, hA, hb1, hO⟩
  clear hA hb1 hO HN
  dsimp only
  go_wp2_with fail
  refine (HP0 s _ hst1.out).mono ?_
  rintro e w2 ⟨rfl, hst2⟩
  have Hst3 : Hid (KA F w s 1 [(1, [120])] w2.heap.size (List.replicate T.length 0) none [] (w2.alloc (rowZ (List.replicate T.length 0)))) := KA.new hst2 _
  have HR1 : Hid (Rec (List.replicate T.length 0) T [(1, [120])]) := Rec.new T _
  clear hst2 HP0 hst1
  dsimp only
  generalize (List.replicate T.length 0 : List Int) = I0 at *
  go_upto_block 0 with fail
  generalize hW3 : w2.alloc (rowZ I0) = w3 at *
  generalize hbi : w2.heap.size = bi at *
  clear hW3 hbi hmk
  generalize ([(1, [120])] : List Ob) = L0 at *
  go_cut [9] (fun _ W' => Hid (∃ (n : Nat) (L : List Ob) (I : List Int), n ≤ 1000 ∧ GoodO n L ∧ Rec I T L ∧ KA F w s n L bi I none [] W'))
  case rest =>
    obtain ⟨n, L, I, q1, q2, q3, q4⟩ := hcut.out
    refine go_on (by assumption) ?_
    exact sbackMid F _ _ _ _ _ _ _ _ _ _ _ _ _ _ _ _ _ _ _ _ _ _ _ _ _ _ _ _ _ _ _ _ _ _ _ _ _ _ _ _ _ _ _ _ _ _ _ _ _ _ _ _ _ _ _ _ _ _ _ _ _ _ _ _ _ _ _ _ _ _ _ _ _ _ _ _ _ _ _ _ _ _ _ _ _ _ _ _ _ _ _ _ _ _ _ _ _ _ _ _ _ _ _ _ _ _ _ _ _ _ _ _ _ _ _ _ _ _ _ _ _ _ _ _ _ _ _ _ _ _ _ _ _ _ _ _ _ _ _ _ _ _ _ _ _ _ _ _ _ _ _ _ _ _ _ _ _ _ _ _ _ _ _ _ _ _ _ _ _ _ _ _ _ _ _ _ _ _ _ _ _ _ _ _ _ _ _ _ _ _ _ _ _ _ _ _ _ _ _ _ _ _ _ _ _ _ _ _ _ _ _ _ od kd co ck s bi n T ids I L w wc q2 q3 q1 HA.out.1 HA.out.2.1 HA.out.2.2.1 HA.out.2.2.2.1 HA.out.2.2.2.2 q4
  case first =>
    go_wp2_with fail
    go_loopw [9] (fun i wr => ∃ (k n : Nat) (L : List Ob) (I : List Int), k ≤ T.length ∧ k ≤ 100 ∧ i = .int .i64 k ∧ n ≤ k + 1 ∧ Hid (GoodO n L) ∧ Hid (Rec I T L) ∧ Hid (KA F w s n L bi I none [] wr)) (fun i wr => 100 - (intOf i).toNat)
    case atStart => exact ⟨0, 1, L0, I0, by omega, by omega, rfl, Nat.le_refl _, HG1, HR1, Hst3⟩
    case round =>
      obtain ⟨k, n, L, I, hk1, hk2, rfl, hn1, HG, HR, hst⟩ := hrel
      by_cases hkT : k < T.length
      · by_cases hk100 : k < 100
        · have i1 : (k : Int) < (T.length : Int) := by omega
          have i2 : (k : Int) < 100 := by omega
          have i0 : (0 : Int) ≤ (k : Int) := by omega
          obtain ⟨lb, lo, rfl, hA⟩ := HA.out.1 (fun e => by rw [e] at hkT; simp at hkT)
          have hcT := hA k hkT
          have HcT : Hid (∀ W', RowKit.Below w.heap.size w W' → W'.cell? ⟨lb, lo + k, none⟩ = some (.string ⟨T[k].toArray⟩)) := fun W' h => (h.cell (World.block_lt_of_cell? w _ hcT)).trans hcT
          obtain ⟨av, hIa, _⟩ := HR.out.2 k hkT
          have HIa := hideO hIa
          have HBk := HA.out.2.1 _ (List.getElem_mem hkT)
          have HP1 := hst.out.put T[k] HG.out (by omega) HBk
          have HP2 := fun W (h : KA F w s (putM n L T[k]) (putL n L T[k]) bi I none [] W) => KA.put2 T[k] HG.out h (by omega) HBk
          have HG2 := hideO (HG.out.put T[k])
          have HR2 : Hid (Rec (I.set k (putI n L T[k] : Int)) T (putL n L T[k])) := (HR.out.grow fun x hx => put_grows hx T[k]).set hkT (put_has HG.out T[k])
          have hM := putM_le' n L T[k]
          have hPE : putE L T[k] = 0 ∨ putE L T[k] = 4 := by unfold putE; split; exact Or.inl rfl; split; exact Or.inr rfl; exact Or.inl rfl
          have d0 := HcT.out _ hst.out.low
          clear hA hcT hIa HBk
          generalize putM n L T[k] = n2 at *
          generalize putL n L T[k] = L2 at *
          generalize putI n L T[k] = P at *
          generalize putE L T[k] = E at *
          generalize T[k] = b at *
          rcases hPE with rfl | rfl
          · rw [show errV 0 = .nilIface from rfl] at HP1 HP2
            go_wp2_with fail
            refine HP1.mono ?_
            rintro e w4 ⟨rfl, hst4⟩
            have Hst4 := hideO hst4
            have d4 := HcT.out _ hst4.low
            clear hst4 hst HP1 d0
            dsimp only
            go_wp2_with fail
            refine (HP2 _ Hst4.out).mono ?_
            rintro e w5 ⟨rfl, hst5⟩
            have Hst5 := hideO (hst5.set k (P : Int))
            obtain ⟨c5, f5⟩ := hst5.cell HIa.out
            clear hst5 Hst4 d4 HP2
            dsimp only
            go_wp2_with fail
            go_region
            go_wp2_with fail
            go_roundw
            case rel => exact ⟨k + 1, n2, L2, _, by omega, by omega, by go_num, by omega, HG2, HR2, Hst5.out.below (RowKit.Below.refl _ _).drew⟩
            case measure => simp [intOf]; omega
          · rw [show errV 4 = .iface 49 (.int .i64 4) from rfl] at HP1 HP2
            go_wp2_with fail
            refine HP1.mono ?_
            rintro e w4 ⟨rfl, hst4⟩
            have Hst4 := hideO hst4
            have d4 := HcT.out _ hst4.low
            clear hst4 hst HP1 d0
            dsimp only
            go_wp2_with fail
            refine (HP2 _ Hst4.out).mono ?_
            rintro e w5 ⟨rfl, hst5⟩
            have Hst5 := hideO (hst5.set k (P : Int))
            obtain ⟨c5, f5⟩ := hst5.cell HIa.out
            clear hst5 Hst4 d4 HP2
            dsimp only
            go_wp2_with fail
            go_region
            go_wp2_with fail
            go_roundw
            case rel => exact ⟨k + 1, n2, L2, _, by omega, by omega, by go_num, by omega, HG2, HR2, Hst5.out.below (RowKit.Below.refl _ _).drew⟩
            case measure => simp [intOf]; omega
        · obtain rfl : k = 100 := by omega
          have i1 : ((100 : Nat) : Int) < (T.length : Int) := by omega
          have hfin : Hid (∃ (n : Nat) (L : List Ob) (I : List Int), n ≤ 1000 ∧ GoodO n L ∧ Rec I T L ∧ KA F w s n L bi I none [] wr) := ⟨n, L, I, by omega, HG.out, HR.out, hst.out⟩
          go_wp2_with fail
          go_meet
          case rel => exact hfin
      · obtain rfl : k = T.length := by omega
        have hfin : Hid (∃ (n : Nat) (L : List Ob) (I : List Int), n ≤ 1000 ∧ GoodO n L ∧ Rec I T L ∧ KA F w s n L bi I none [] wr) := ⟨n, L, I, by omega, HG.out, HR.out, hst.out⟩
        go_wp2_with fail
        go_meet
        case rel => exact hfin
end Go.Proofs.Ytpdieckoemfebae
