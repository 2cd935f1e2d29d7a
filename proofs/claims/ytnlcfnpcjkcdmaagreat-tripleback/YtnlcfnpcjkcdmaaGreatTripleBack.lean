/- stratalaw1.TripleBack: the walk. -/
import Derived.Test.YtnlcfnpcjkcdmaaGreatTripleFact
import Derived.Deep.DeepCutAuto
import Derived.OwnWalk
namespace Go.Proofs.YtnlcfnpcjkcdmaaGreat
open Go Go.RowKit Go.Proofs
set_option synthInstance.maxSize 1000

attribute [local go_sem] eql_errV neq_errV guard_errV
attribute [local go_sem ↓] eqlTriple neqTriple

theorem mem_step (y : Tr) (m : List Tr) (j : Nat) (h : j < m.length) : decide (y ∈ m.take (j + 1)) = (decide (y ∈ m.take j) || decide (m[j] = y)) := by
  rw [List.take_succ_eq_append_getElem h, Bool.eq_iff_iff]
  simp only [decide_eq_true_eq, Bool.or_eq_true, List.mem_append, List.mem_singleton]
  constructor
  · rintro (h | h)
    · exact Or.inl h
    · exact Or.inr h.symm
  · rintro (h | h)
    · exact Or.inl h
    · exact Or.inr h.symm

theorem mem_step' (y : Tr) (m : List Tr) (j : Nat) (h : j < m.length) : decide (y ∈ m.take (j + 1)) = (decide (y ∈ m.take j) || decide (y = m[j])) := by
  rw [List.take_succ_eq_append_getElem h, Bool.eq_iff_iff]
  simp only [decide_eq_true_eq, Bool.or_eq_true, List.mem_append, List.mem_singleton]

theorem own_sl {W : World} {base : Nat} {e : TypeId} {v : Value} {t : List Tr} (h : W.ownsRow base e 9 v t.length (cellsT t)) : ∃ ad cap, v = .slice ad t.length cap ∧ SlT W ad t := by
  have h' := h
  rcases h.2 with ⟨rfl, h0⟩ | ⟨g, cap, cur, rfl, _⟩
  · exact ⟨none, 0, by rw [h0], fun hne => absurd (List.eq_nil_of_length_eq_zero h0) hne⟩
  · refine ⟨some ⟨g, 0, none⟩, cap, rfl, fun _ => ⟨g, 0, rfl, fun j u hj => ?_⟩⟩
    have := h'.cells (g := g) rfl j u hj
    rwa [Addr.add_lit] at this

theorem rev_step (l : List Tr) (p : Nat) (h : p < l.length) : (l.drop p).reverse = (l.drop (p + 1)).reverse ++ [l[p]] := by
  rw [List.drop_eq_getElem_cons h]
  simp

set_option maxHeartbeats 16000000 in
set_option maxRecDepth 100000 in
theorem back_any (x : Tr) (s : List UInt8) (ad : Option Addr) (cap : Nat) (l : List Tr) (w : World) (hx : fitTr x) (hs : s.length ≤ 140737488355328) (hl : SlT w ad l) (hfit : ∀ y ∈ l, fitTr y) (hn : l.length ≤ 9223372036854775807) :
    Calls Tryz.prog 3 #[valTr x, .string ⟨s.toArray⟩, .slice ad l.length cap] w fun e w' => e = .returned (.bool true) ∧ RowKit.Below w.heap.size w w' := by
  have HF : ∀ W, Calls Tryz.prog 4 #[.string ⟨#[97, 32, 98, 32, 34, 99, 32, 100, 34]⟩] W fun e w' => e = .returned (.tuple #[.agg #[.int .i64 1, .string ⟨#[97]⟩, .string ⟨#[]⟩, .int .i64 1, .string ⟨#[98]⟩, .string ⟨#[]⟩, .int .i64 3, .string ⟨#[99, 32, 100]⟩, .string ⟨#[]⟩], .nilIface]) ∧ RowKit.Below W.heap.size W w' := by
    intro W
    have := TParse_any [97, 32, 98, 32, 34, 99, 32, 100, 34] W (by decide)
    rw [fact_parse.1, fact_parse.2] at this
    exact this
  have Hl : Hid (SlT w ad l) := hl
  have Hx : Hid (fitTr x) := hx
  have Hs : Hid (s.length ≤ 140737488355328) := hs
  have Hf : Hid (∀ y ∈ l, fitTr y) := hfit
  clear hl hx hs hfit
  unfold valTr
  go_enter Tryz.func3, Tryz.ntmps3
  go_wp2_with fail
  refine (HF _).mono ?_
  rintro e w1 ⟨rfl, hb1⟩
  obtain ⟨a0, a1, a2, b0, b1, b2, d0, d1, d2, hz1⟩ := ninebox hb1
  have HP := fun W => TPrint_any x W Hx.out
  unfold valTr at HP
  go_wp2_with fail
  refine (HP _).mono ?_
  rintro e w2 ⟨rfl, hb2⟩
  have hB2 := bstep (bstep hb1 (balloc _ _)) hb2
  clear hb1 hb2 a0 a1 a2 b0 b1 b2 d0 d1 d2 hz1 HP HF
  go_upto_if 52 with fail
  go_cut [] (fun W => RowKit.Below (w.alloc (.cells #[.int .i64 x.1.1, .string ⟨x.1.2.1.toArray⟩, .string ⟨x.1.2.2.toArray⟩, .int .i64 x.2.1.1, .string ⟨x.2.1.2.1.toArray⟩, .string ⟨x.2.1.2.2.toArray⟩, .int .i64 x.2.2.1, .string ⟨x.2.2.2.1.toArray⟩, .string ⟨x.2.2.2.2.toArray⟩] 25)).heap.size (w.alloc (.cells #[.int .i64 x.1.1, .string ⟨x.1.2.1.toArray⟩, .string ⟨x.1.2.2.toArray⟩, .int .i64 x.2.1.1, .string ⟨x.2.1.2.1.toArray⟩, .string ⟨x.2.1.2.2.toArray⟩, .int .i64 x.2.2.1, .string ⟨x.2.2.2.1.toArray⟩, .string ⟨x.2.2.2.2.toArray⟩] 25)) W)
  case first =>
    by_cases hc : chkTr x = 0
    · have hc' : (chkTr x == 0) = true := by simpa using hc
      have HQ := fun W => TParse_any (showTr x) W (show_len3 x hc)
      rw [(tparse_show x hc).1, (tparse_show x hc).2, show errV 0 = .nilIface from rfl] at HQ
      unfold valTr at HQ
      have hpr : printTr x = showTr x := if_pos hc
      rw [← hpr] at HQ
      clear hpr
      obtain ⟨a0, a1, a2, b0, b1, b2, d0, d1, d2, hz2⟩ := ninebox hB2
      clear hc
      go_wp2_with fail
      refine (HQ _).mono ?_
      rintro e w3 ⟨rfl, hb3⟩
      have hB3 := bstep hB2 hb3
      clear a0 a1 a2 b0 b1 b2 d0 d1 d2 hz2
      obtain ⟨a0, a1, a2, b0, b1, b2, d0, d1, d2, hz3⟩ := ninebox hB3
      have hd : decide (x = x) = true := by simp
      go_wp2
      go_meet
      case rel => exact bstep hB3 (balloc _ _)
    · have hc' : (chkTr x == 0) = false := by simpa using hc
      clear hc
      go_wp2
      go_meet
      case rel => exact hB2
  case rest =>
    have hB : RowKit.Below w.heap.size w _ := bstep (balloc _ _) hcut
    clear hB2 hcut
    have HS := fun W => TParse_any s W Hs.out
    unfold valTr at HS
    go_wp2_with fail
    refine (HS _).mono ?_
    rintro e w4 ⟨rfl, hb4⟩
    have hB4 := bstep hB hb4
    clear hb4 HS hB
    go_upto_if 71 with fail
    go_cut [] (fun W => RowKit.Below w.heap.size w W)
    case first =>
      by_cases hc : tparseN s = 0
      · have hc' : (tparseN s == 0) = true := by simpa using hc
        obtain ⟨hk, hsh⟩ := show_tparse s hc
        have HQ := fun W => TPrint_good (tparseT s) W (fit_chk hk) hk
        rw [hsh] at HQ
        unfold valTr at HQ
        clear hc hk hsh
        go_wp2_with fail
        refine (HQ _).mono ?_
        rintro e w5 ⟨rfl, hb5⟩
        go_wp2
        go_meet
        case rel => exact bstep (bstep hB4 (balloc _ _)) hb5
      · have hc' : (tparseN s == 0) = false := by simpa using hc
        clear hc
        go_wp2
        go_meet
        case rel => exact bstep hB4 (balloc _ _)
    case rest =>
      have hB : RowKit.Below w.heap.size w _ := hcut
      clear hB4 hcut
      by_cases hc : sortN l = 0
      · have HG := fun W (hW : SlT W ad l) => Sort_good ad cap l W hW hc
        go_wp2_with fail
        refine (HG _ (Hl.out.below hB)).mono ?_
        rintro e w6 ⟨hb6, m, ad', c', rfl, hm, hri, hmem, hml⟩
        have hB6 := bstep hB hb6
        obtain ⟨h200, hall⟩ := sortN_zero.1 hc
        have hm200 : m.length ≤ 200 := by omega
        have hallm : ∀ y ∈ m, chkTr y = 0 := fun y hy => hall y ((hmem y).1 hy)
        have HD := fun W (hW : SlT W ad' m) => Sorted_any ad' c' m W hW (fun y hy => fit_chk (hallm y hy)) (by omega)
        rw [sortedN_zero hm200 hallm hri, show errV 0 = .nilIface from rfl] at HD
        have Hmem : Hid (∀ y, y ∈ m ↔ y ∈ l) := hmem
        have Hri : Hid (Rising m) := hri
        have Hall : Hid ((∀ y ∈ l, chkTr y = 0) ∧ sortN l = 0) := ⟨hall, hc⟩
        have Hm : Hid (SlT w6 ad' m) := hm
        clear hmem hri hall hallm hm hc HG hb6 hB
        have hd1 : decide ((m.length : Int) > (l.length : Int)) = false := by simp; omega
        have hd2 : decide (l.length < m.length) = false := by simp; omega
        go_wp2_with fail
        refine (HD _ Hm.out).mono ?_
        rintro e w7 ⟨rfl, hb7⟩
        have hB7 := bstep hB6 hb7
        have Hm7 : Hid (SlT w7 ad' m) := Hm.out.below hb7
        have Hl7 : Hid (SlT w7 ad l) := Hl.out.below hB7
        clear Hm hb7 hB6 HD
        go_wp2_with fail
        go_loopw [17] (fun i wr => ∃ k q : Nat, k ≤ l.length ∧ i = .int .i64 k ∧ wr = w7.drewN q) (fun i wr => l.length - (intOf i).toNat)
        case atStart => exact ⟨0, 0, by omega, rfl, rfl⟩
        case round =>
          obtain ⟨k, q, hk, rfl, rfl⟩ := hrel
          by_cases hlt : k < l.length
          · obtain ⟨b, o, rfl, hr⟩ := Hl7.out.at k hlt
            obtain ⟨c0, c1, c2, c3, c4, c5, c6, c7, c8⟩ := hr.at k hlt
            have hin : Hid (l[k] ∈ m) := (Hmem.out _).2 (List.getElem_mem hlt)
            have i0 : (0 : Int) ≤ (k : Int) := by omega
            have i1 : (k : Int) < (l.length : Int) := by omega
            generalize l[k] = y at *
            clear hr
            go_wp2_with fail
            go_loopw [18, 19] (fun inn j wr => ∃ j' q' : Nat, j' ≤ m.length ∧ inn = .bool (decide (y ∈ m.take j')) ∧ j = .int .i64 j' ∧ wr = w7.drewN q') (fun _ j wr => m.length - (intOf j).toNat)
            case atStart => exact ⟨0, q, by omega, by simp, rfl, rfl⟩
            case round =>
              obtain ⟨j', q', hj, rfl, rfl, rfl⟩ := hrel
              by_cases hjt : j' < m.length
              · obtain ⟨b', o', rfl, hr'⟩ := Hm7.out.at j' hjt
                obtain ⟨e0, e1, e2, e3, e4, e5, e6, e7, e8⟩ := hr'.at j' hjt
                have i2 : (0 : Int) ≤ (j' : Int) := by omega
                have i3 : (j' : Int) < (m.length : Int) := by omega
                have hstep : Hid (decide (y ∈ m.take (j' + 1)) = (decide (y ∈ m.take j') || decide (m[j'] = y))) := mem_step y m j' hjt
                generalize m[j'] = z at *
                generalize decide (y ∈ m.take j') = bb at *
                clear hr'
                cases bb
                · cases hzy : decide (z = y)
                  all_goals
                    go_wp2_with fail
                    go_region
                    go_wp2
                    exact ⟨⟨j' + 1, q' + 1, by omega, by rw [hstep.out, hzy]; rfl, by go_num, rfl⟩, by simp [intOf]; omega⟩
                · go_wp2_with fail
                  go_region
                  go_wp2
                  exact ⟨⟨j' + 1, q' + 1, by omega, by rw [hstep.out]; rfl, by go_num, rfl⟩, by simp [intOf]; omega⟩
              · have hje : j' = m.length := by omega
                have htr : decide (y ∈ m.take j') = true := by rw [hje, List.take_length]; simpa using hin.out
                rw [htr]
                go_wp2
                exact ⟨⟨k + 1, q', by omega, by go_num, rfl⟩, by simp [intOf]; omega⟩
          · obtain rfl : k = l.length := by omega
            have hw0 : IntKind.i64.wrap ((l.length : Int) - 1) = (l.length : Int) - 1 := by simp [IntKind.wrap, IntKind.bits, IntKind.signed]; omega
            clear hd1 hd2
            obtain ⟨i0, hi, hz⟩ := Option.map_eq_some_iff.1 infoTr
            simp only [Prod.mk.injEq] at hz
            obtain ⟨hz0, hz1, hz2⟩ := hz
            go_wp2_with fail
            go_loopw [20, 21] (fun v i wr => ∃ (j : Nat) (I : Int), j ≤ l.length ∧ i = .int .i64 I ∧ I = (l.length : Int) - 1 - (j : Int) ∧ wr.ownsRow w7.heap.size 25 9 v j (cellsT (l.drop (l.length - j)).reverse) ∧ RowKit.Below w7.heap.size w7 wr) (fun _ i wr => (intOf i + 1).toNat)
            case atStart => exact ⟨0, _, by omega, rfl, by omega, by rw [Nat.sub_zero, List.drop_length]; exact World.ownsRow_nil _ _ _ _, bdN' _ _⟩
            case round =>
              obtain ⟨j, I, hj, rfl, hI, hown, hbr⟩ := hrel
              by_cases hjt : j < l.length
              · obtain ⟨p, hp⟩ : ∃ p : Nat, p + j + 1 = l.length := ⟨l.length - 1 - j, by omega⟩
                have hpl : p < l.length := by omega
                obtain rfl : I = (p : Int) := by omega
                obtain ⟨b, o, rfl, hr⟩ := (Hl7.out.below hbr).at p hpl
                obtain ⟨c0, c1, c2, c3, c4, c5, c6, c7, c8⟩ := hr.at p hpl
                have i2 : (0 : Int) ≤ (p : Int) := by omega
                have i3 : (p : Int) < (l.length : Int) := by omega
                have hw1 : IntKind.i64.wrap ((p : Int) - 1) = (p : Int) - 1 := by simp [IntKind.wrap, IntKind.bits, IntKind.signed]; omega
                have hs7 := hbr.size
                have hrev : Hid (cellsT (l.drop (l.length - j)).reverse ++ encTr l[p] = cellsT (l.drop (l.length - (j + 1))).reverse) := by
                  show _ = _
                  rw [show l.length - (j + 1) = p by omega, show l.length - j = p + 1 by omega, rev_step l p hpl]
                  simp [cellsT]
                have Hown : Hid (wr.ownsRow w7.heap.size 25 9 _ j (cellsT (l.drop (l.length - j)).reverse)) := hown
                clear hown hr hI
                generalize l[p] = y at *
                go_wp2_with (at_builtin; refine wpList_append_own _ rfl _ _ 26 rfl w7.heap.size 25 i0 (.agg (encTr zeroTr).toArray) 9 120 Tryz.underlying26 hi hz0 hz1 hz2 rfl (by decide) _ _ _ rfl (Hown.out.alloc _) ⟨wr.heap.size, 0, none⟩ 1 1 (encTr y) rfl rfl ?c1 ?c2 ?c3 ?c4 ?c5 ?_)
                case c1 =>
                  intro i u hi'
                  have h9 : i < 9 := (List.getElem?_eq_some_iff.1 hi').1
                  rw [Addr.add_lit]
                  rcases (by omega : i = 0 ∨ i = 1 ∨ i = 2 ∨ i = 3 ∨ i = 4 ∨ i = 5 ∨ i = 6 ∨ i = 7 ∨ i = 8) with rfl | rfl | rfl | rfl | rfl | rfl | rfl | rfl | rfl
                  all_goals
                    simp [encTr] at hi'
                    subst hi'
                    go_simp
                case c2 => exact encTr_one y
                case c3 => unfold maxLen; omega
                case c4 => omega
                case c5 => simp; omega
                intro v' w9 hown' hgrow _
                rw [hrev.out] at hown'
                have hbel := (hbr.alloc hs7 (.cells (encTr y).toArray 25)).grown hgrow (by simp; omega) (fun k hk => (Hown.out.lt k hk).1)
                go_wp2_with fail
                go_roundw
                case rel =>
                  first
                    | exact ⟨j + 1, (p : Int) - 1, by omega, rfl, by omega, hown', hbel⟩
                    | ((repeat apply Exists.intro); exact ⟨⟨j + 1, (p : Int) - 1, by omega, rfl, by omega, hown', hbel⟩, rfl⟩)
                case measure => simp [intOf]
              · have hje : j = l.length := by omega
                obtain ⟨t, ht⟩ : ∃ t, t = l.reverse := ⟨_, rfl⟩
                have htl : t.length = l.length := by rw [ht]; simp
                rw [hje, Nat.sub_self, List.drop_zero, ← ht, ← htl] at hown
                obtain ⟨ad2, cap2, rfl, hsl⟩ := own_sl hown
                have hmt : ∀ y, y ∈ t ↔ y ∈ l := fun y => by rw [ht]; simp
                have hgood2 : sortN t = 0 := sortN_zero.2 ⟨by omega, fun y hy => Hall.out.1 y ((hmt y).1 hy)⟩
                have HG2 := fun W (hW : SlT W ad2 t) => Sort_good ad2 cap2 t W hW hgood2
                have Hmt : Hid (∀ y, y ∈ t ↔ y ∈ l) := hmt
                have Hsl : Hid (SlT wr ad2 t) := hsl
                have Hbr : Hid (RowKit.Below w7.heap.size w7 wr) := hbr
                obtain rfl : I = -1 := by omega
                have Htl : Hid (t.length = l.length) := htl
                clear hown hsl hmt hgood2 hbr ht hI hw0 hi hz0 hz1 hz2 htl hje hjt hj
                go_wp2_with fail
                refine (HG2 _ Hsl.out).mono ?_
                rintro e w10 ⟨hb10, m2, ad3, c3, rfl, hm2, hri2, hmem2, hml2⟩
                have hmm : m2 = m := rising_unique m2 m hri2 Hri.out (fun y => ((hmem2 y).trans (Hmt.out y)).trans (Hmem.out y).symm)
                subst hmm
                have hb710 : RowKit.Below w7.heap.size w7 w10 := bstep Hbr.out hb10
                have HT := SameTriples_any ad3 ad' c3 c' m2 m2 w10 hm2 (Hm7.out.below hb710) (by omega) (by omega)
                rw [show decide (m2 = m2) = true by simp] at HT
                clear hri2 hmem2 hml2 HG2 Hsl
                go_wp2_with fail
                refine HT.mono ?_
                rintro e w11 ⟨rfl, hb11⟩
                have hb711 : RowKit.Below w7.heap.size w7 w11 := bstep hb710 hb11
                have Hm11 : Hid (SlT w11 ad' m2) := Hm7.out.below hb711
                have Hl11 : Hid (SlT w11 ad l) := Hl7.out.below hb711
                have HB11 : Hid (RowKit.Below w.heap.size w w11) := bstep hB7 hb711
                clear hb10 hb11 hb710 hb711 HT hm2
                go_wp2_with fail
                go_loopw [25] (fun i wr => ∃ k q : Nat, k ≤ m2.length ∧ i = .int .i64 k ∧ wr = w11.drewN q) (fun i wr => m2.length - (intOf i).toNat)
                case atStart => exact ⟨0, 0, by omega, rfl, rfl⟩
                case round =>
                  obtain ⟨k, q, hk, rfl, rfl⟩ := hrel
                  by_cases hlt : k < m2.length
                  · obtain ⟨b, o, rfl, hr⟩ := Hm11.out.at k hlt
                    obtain ⟨c0, c1, c2, c3, c4, c5, c6, c7, c8⟩ := hr.at k hlt
                    have hin : Hid (m2[k] ∈ l) := (Hmem.out _).1 (List.getElem_mem hlt)
                    have i0 : (0 : Int) ≤ (k : Int) := by omega
                    have i1 : (k : Int) < (m2.length : Int) := by omega
                    generalize m2[k] = y at *
                    clear hr
                    go_wp2_with fail
                    go_loopw [26, 27] (fun inn j wr => ∃ j' q' : Nat, j' ≤ l.length ∧ inn = .bool (decide (y ∈ l.take j')) ∧ j = .int .i64 j' ∧ wr = w11.drewN q') (fun _ j wr => l.length - (intOf j).toNat)
                    case atStart => exact ⟨0, q, by omega, by simp, rfl, rfl⟩
                    case round =>
                      obtain ⟨j', q', hj, rfl, rfl, rfl⟩ := hrel
                      by_cases hjt : j' < l.length
                      · obtain ⟨b', o', rfl, hr'⟩ := Hl11.out.at j' hjt
                        obtain ⟨e0, e1, e2, e3, e4, e5, e6, e7, e8⟩ := hr'.at j' hjt
                        have i2 : (0 : Int) ≤ (j' : Int) := by omega
                        have i3 : (j' : Int) < (l.length : Int) := by omega
                        have hstep : Hid (decide (y ∈ l.take (j' + 1)) = (decide (y ∈ l.take j') || decide (y = l[j']))) := mem_step' y l j' hjt
                        generalize l[j'] = z at *
                        generalize decide (y ∈ l.take j') = bb at *
                        clear hr'
                        cases bb
                        · cases hzy : decide (y = z)
                          all_goals
                            go_wp2_with fail
                            go_region
                            go_wp2
                            exact ⟨⟨j' + 1, q' + 1, by omega, by rw [hstep.out, hzy]; rfl, by go_num, rfl⟩, by simp [intOf]; omega⟩
                        · go_wp2_with fail
                          go_region
                          go_wp2
                          exact ⟨⟨j' + 1, q' + 1, by omega, by rw [hstep.out]; rfl, by go_num, rfl⟩, by simp [intOf]; omega⟩
                      · have hje : j' = l.length := by omega
                        have htr : decide (y ∈ l.take j') = true := by rw [hje, List.take_length]; simpa using hin.out
                        rw [htr]
                        go_wp2
                        exact ⟨⟨k + 1, q', by omega, by go_num, rfl⟩, by simp [intOf]; omega⟩
                  · go_wp2
                    go_ret
                    exact ⟨rfl, bstep HB11.out (bdN' _ _)⟩
      · have HG := fun W (hW : SlT W ad l) => Sort_bad ad cap l W hW Hf.out hn hc
        have hc' : (sortN l == 0) = false := by simpa using hc
        go_wp2_with fail
        refine (HG _ (Hl.out.below hB)).mono ?_
        rintro e w6 ⟨rfl, hb6⟩
        go_wp2_with fail
        go_ret
        exact ⟨rfl, bstep hB hb6⟩
end Go.Proofs.YtnlcfnpcjkcdmaaGreat
