import Derived.Test.YtenakehnnmencagGreatDoorMA0x4
import Derived.Test.YtenakehnnmencagGreatDoorMA0x3
import Derived.Test.YtenakehnnmencagGreatDoorMA0x2
import Derived.Laws.DeepStrings4
import Derived.RegionTactic
import Derived.Test.YtenakehnnmencagGreatDoorMA0x5
import Derived.Deep.DeepCutAuto
import Derived.Test.YtenakehnnmencagGreatDoorRows
import Derived.WalkKit
import Derived.Maps.AppendAt
import Derived.Test.YtenakehnnmencagGreatDoorMA0x7

/- What the program's own Parse reads of a text's words: as the document's, but that a text may tell no variable (Check refuses it then), and that a limit's number is read by the program's own reader; plain lists, no program. -/
namespace Go.Proofs.YtenakehnnmencagGreatDoor
open Go Go.RowKit Go.Proofs
set_option synthInstance.maxSize 1000

/-- the variables that stand next, and what is left -/
def takeV : List (List UInt8) → List (List UInt8) × List (List UInt8)
  | [] => ([], [])
  | w :: r => if varW w = true then (w.tail :: (takeV r).1, (takeV r).2) else ([], w :: r)
theorem takeV_stop {L : List (List UInt8)} (h : ∀ w, L.head? = some w → varW w = false) : takeV L = ([], L) := by
  cases L with
  | nil => rfl
  | cons w r => rw [takeV, if_neg (by rw [h w rfl]; simp)]
theorem takeV_next {w : List UInt8} (r : List (List UInt8)) (h : varW w = true) : takeV (w :: r) = (w.tail :: (takeV r).1, (takeV r).2) := by rw [takeV, if_pos h]
theorem takeV_mk (r : List (List UInt8)) (hr : ∀ w, r.head? = some w → varW w = false) : ∀ (l : List (List UInt8)), (∀ v ∈ l, v ≠ [] ∧ spellV v = true) → takeV (l.map varT ++ r) = (l, r)
  | [], _ => by simpa using takeV_stop hr
  | v :: l, h => by
    rw [List.map_cons, List.cons_append, takeV_next _ (varW_mk (h v (by simp))), takeV_mk r hr l (fun x hx => h x (by simp [hx]))]
    rfl
theorem takeV_out : ∀ (L : List (List UInt8)), L = (takeV L).1.map varT ++ (takeV L).2
  | [] => rfl
  | w :: r => by
    by_cases h : varW w = true
    · rw [takeV_next r h, List.map_cons, List.cons_append, ← takeV_out r, ← (varW_true h).1]
    · rw [takeV, if_neg h]; rfl
/-- what stands ahead of the parts: each once or not, which are told, what is left -/
def ownHead (L : List (List UInt8)) : Bool × List (List UInt8) × InS :=
  if isW (L, false) wSel = true then
    (isW (L.tail, false) wDist, (takeV (hasW (L.tail, false) wDist).1).1, needW ((takeV (hasW (L.tail, false) wDist).1).2, false) wWhere)
  else (false, [], L, true)
/-- a limit, by a reader of numbers -/
def limO (num : List UInt8 → Option Int) (s : InS) : Int × InS := if isW s wLimit = true then (match s.1.tail with
  | [] => (-1, [], true)
  | w :: r => match num w with
    | none => (-1, w :: r, true)
    | some n => (n, r, false)) else (-1, s)
def ownQ (num : List UInt8 → Option Int) (L : List (List UInt8)) : Qu × InS :=
  let h := ownHead L
  let p := if h.2.2.2 = true then ([], h.2.2) else partsS (L.length + 1) h.2.2 []
  let o := ordS p.2
  let l := limO num o.2.2
  (⟨h.2.1, p.1, o.1, o.2.1, h.1, l.1⟩, endS l.2)
/-- a reader of numbers that reads the small ones right -/
structure NumOK (num : List UInt8 → Option Int) : Prop where
  made : ∀ n : Nat, n ≤ 500 → num (digitsN n) = some (n : Int)
  out : ∀ w n, num w = some n → n ≤ 500 → 0 ≤ n ∧ digitsN n.toNat = w
  fit : ∀ w n, num w = some n → 0 ≤ n ∧ n ≤ 9223372036854775807

theorem limO_mk {num : List UInt8 → Option Int} (H : NumOK num) {q : Qu} (g : GoodQ q) : limO num (limT q, false) = (q.lim, [], false) := by
  unfold limT
  by_cases h : 0 ≤ q.lim
  · rw [if_pos h]
    have hl := g.lim
    unfold limO
    rw [isW_eq, if_pos rfl]
    simp only [List.tail_cons]
    rw [H.made q.lim.toNat (by omega)]
    simp
    omega
  · rw [if_neg h]
    have hl := g.lim
    unfold limO
    rw [isW_nil, if_neg (by simp), show q.lim = -1 by omega]
theorem limO_out {num : List UInt8 → Option Int} (H : NumOK num) {s : InS} (h : (limO num s).2.2 = false) (hn : (limO num s).1 ≤ 500) : s = ((if 0 ≤ (limO num s).1 then [wLimit, digitsN (limO num s).1.toNat] else []) ++ (limO num s).2.1, false) := by
  by_cases hw : isW s wLimit = true
  · have e0 := isW_true hw
    unfold limO at h hn ⊢
    rw [if_pos hw] at h hn ⊢
    cases ht : s.1.tail with
    | nil => rw [ht] at h; simp at h
    | cons w r =>
      rw [ht] at h hn
      simp only at h hn ⊢
      cases hm : num w with
      | none => rw [hm] at h; simp at h
      | some n =>
        rw [hm] at hn
        simp only at hn
        obtain ⟨h0, h1⟩ := H.out w n hm hn
        simp only [if_pos h0, h1]
        have e1 := e0
        rw [ht] at e1
        exact e1
  · unfold limO at h hn ⊢
    rw [if_neg hw] at h hn ⊢
    simp only at h ⊢
    rw [if_neg (by omega), List.nil_append, ← h]
theorem own_words {num : List UInt8 → Option Int} (H : NumOK num) {q : Qu} (h : askN q = 0) : ownQ num (wordsQ q) = (q, [], false) := by
  have g := ask_good h
  have hl : ∀ w, w ≠ wLimit → (limT q).head? ≠ some w := fun w hw => by
    rcases lim_head q with e | e
    · rw [e]; simp
    · rw [e]; simp; exact fun h => hw h.symm
  obtain ⟨v, vs, hv⟩ : ∃ v vs, q.vars = v :: vs := by
    cases hq : q.vars with
    | nil => exact absurd hq g.told
    | cons v vs => exact ⟨v, vs, rfl⟩
  have hs2 : hasW ((if q.dist = true then [wDist] else []) ++ (q.vars.map varT ++ wWhere :: (partsT q.parts ++ (ordT q ++ limT q))), false) wDist = (q.vars.map varT ++ wWhere :: (partsT q.parts ++ (ordT q ++ limT q)), false) := by
    unfold hasW
    cases hd : q.dist with
    | true => rw [if_pos rfl, List.singleton_append, isW_eq, if_pos rfl]; rfl
    | false =>
      rw [show (if false = true then [wDist] else ([] : List (List UInt8))) = [] from rfl, List.nil_append, hv, List.map_cons, List.cons_append, isW_ne _ (show varT v ≠ wDist by simp [varT, wDist]), if_neg (by simp)]
  have hs1 : isW ((if q.dist = true then [wDist] else []) ++ (q.vars.map varT ++ wWhere :: (partsT q.parts ++ (ordT q ++ limT q))), false) wDist = q.dist := by
    cases hd : q.dist with
    | true => rw [if_pos rfl, List.singleton_append, isW_eq]
    | false => rw [if_neg (by simp), List.nil_append, hv, List.map_cons, List.cons_append, isW_ne _ (show varT v ≠ wDist by simp [varT, wDist])]
  have hhead : ownHead (wordsQ q) = (q.dist, q.vars, partsT q.parts ++ (ordT q ++ limT q), false) := by
    unfold ownHead
    rw [show isW (wordsQ q, false) wSel = true by unfold wordsQ; exact isW_eq _ _, if_pos rfl]
    unfold wordsQ
    rw [List.tail_cons, hs1, hs2, takeV_mk _ (fun w hw => by simp at hw; rw [← hw]; decide) q.vars g.vars]
    unfold needW
    simp only
    rw [isW_eq, if_pos rfl]
    rfl
  have hlen : q.vars.length + q.parts.length ≤ (wordsQ q).length := by
    have hp : ∀ l : List Pt, l.length ≤ (partsT l).length := fun l => by
      induction l with
      | nil => simp
      | cons p r ih =>
        unfold partsT
        split
        · rename_i hr; subst hr; simp [partT]
        · simp [partT]; omega
    have := hp q.parts
    unfold wordsQ
    simp
    omega
  unfold ownQ
  dsimp only
  rw [hhead]
  dsimp only
  rw [if_neg (by simp), parts_mk _ (ord_head q _ _ (by decide) (hl _ (by decide))) q.parts [] _ g.some (by omega) g.parts]
  dsimp only
  rw [ord_mk g _ (hl _ (by decide)) (hl _ (by decide))]
  dsimp only
  rw [limO_mk H g]
  dsimp only
  rw [show endS ([], false) = ([], false) by simp [endS]]
  simp only [List.nil_append]
theorem words_own {num : List UInt8 → Option Int} (H : NumOK num) {L : List (List UInt8)} (h : (ownQ num L).2.2 = false) (hl : (ownQ num L).1.lim ≤ 500) : wordsQ (ownQ num L).1 = L ∧ (ownQ num L).2.1 = [] := by
  unfold ownQ at h hl ⊢
  dsimp only at h hl ⊢
  generalize e4 : ownHead L = x4 at *
  generalize e5 : (if x4.2.2.2 = true then (([] : List Pt), x4.2.2) else partsS (L.length + 1) x4.2.2 []) = x5 at *
  generalize e6 : ordS x5.2 = x6 at *
  generalize e7 : limO num x6.2.2 = x7 at *
  obtain ⟨z1, z2⟩ := end_out h
  have l7 := limO_out H (s := x6.2.2) (by rw [e7, z1]) (by rw [e7]; exact hl)
  rw [e7, z1, List.append_nil] at l7
  have l6 := ord_out (s := x5.2) (by rw [e6, l7])
  rw [e6, l7] at l6
  dsimp only at l6
  have b5 : x5.2.2 = false := by rw [l6]
  have b4 : x4.2.2.2 = false := by
    cases hb : x4.2.2.2 with
    | false => rfl
    | true => rw [if_pos hb] at e5; rw [← e5] at b5; exact hb.symm.trans b5
  rw [if_neg (by rw [b4]; simp)] at e5
  unfold ownHead at e4
  by_cases hs : isW (L, false) wSel = true
  · rw [if_pos hs] at e4
    have L1 : L = wSel :: L.tail := congrArg Prod.fst (isW_true hs)
    obtain ⟨l2, b2⟩ := has_out (L.tail, false) wDist rfl
    have L2 : L.tail = (if isW (L.tail, false) wDist = true then [wDist] else []) ++ (hasW (L.tail, false) wDist).1 := congrArg Prod.fst l2
    generalize hasW (L.tail, false) wDist = s2 at *
    have L3 := takeV_out s2.1
    generalize ev : takeV s2.1 = v at *
    have hx : x4.2.2 = needW (v.2, false) wWhere := by rw [← e4]
    have l4 := need_out (s := (v.2, false)) (w := wWhere) (by rw [← hx]; exact b4)
    rw [← hx] at l4
    have L4 : v.2 = wWhere :: x4.2.2.1 := congrArg Prod.fst l4
    have ed : isW (L.tail, false) wDist = x4.1 := by rw [← e4]
    have evs : v.1 = x4.2.1 := by rw [← e4]
    have n2 : x4.2.2.1.length < L.length + 1 := by rw [L1, L2, L3, L4]; simp; omega
    obtain ⟨ps, _, p1, p2⟩ := parts_out (L.length + 1) x4.2.2 [] n2 (by rw [e5]; exact b5)
    rw [e5] at p1 p2
    have P2 : x4.2.2.1 = partsT ps ++ x5.2.1 := congrArg Prod.fst p2
    have O2 : x5.2.1 = (if x6.1 = [] then [] else wOrder :: varT x6.1 :: (if x6.2.1 = true then [wDown] else [])) ++ (if 0 ≤ x7.1 then [wLimit, digitsN x7.1.toNat] else []) := congrArg Prod.fst l6
    rw [List.nil_append] at p1
    refine ⟨?_, by rw [z2]⟩
    unfold wordsQ ordT limT
    dsimp only
    rw [p1, ← O2, ← P2, ← evs, ← L4, ← L3, ← ed, ← L2]
    exact L1.symm
  · rw [if_neg hs] at e4
    rw [← e4] at b4
    cases b4

def parseON (num : List UInt8 → Option Int) (s : List UInt8) : Int := if (ownQ num (wordsL s)).2.2 = true then 2 else askN (ownQ num (wordsL s)).1
def parseOP (num : List UInt8 → Option Int) (s : List UInt8) : Nat := if (ownQ num (wordsL s)).2.2 = true then (wordsL s).length - (ownQ num (wordsL s)).2.1.length else 0
theorem parse_own {num : List UInt8 → Option Int} (H : NumOK num) (s : List UInt8) : (parseON num s = 0 ↔ parseQN s = 0) ∧ (parseON num s = 0 → (ownQ num (wordsL s)).1 = parseQQ s ∧ parseOP num s = 0) := by
  have one : parseON num s = 0 → parseQN s = 0 ∧ (ownQ num (wordsL s)).1 = parseQQ s ∧ parseOP num s = 0 := fun h => by
    unfold parseON at h
    by_cases hb : (ownQ num (wordsL s)).2.2 = true
    · rw [if_pos hb] at h; omega
    · rw [if_neg hb] at h
      have hb' : (ownQ num (wordsL s)).2.2 = false := by simpa using hb
      obtain ⟨w1, _⟩ := words_own H hb' (ask_good h).lim.2
      have w2 := read_words h
      rw [w1] at w2
      have n0 : parseQN s = 0 := by unfold parseQN; rw [w2]; simpa using h
      refine ⟨n0, ?_, by unfold parseOP; rw [if_neg hb]⟩
      unfold parseQQ
      rw [if_pos n0, w2]
  refine ⟨⟨fun h => (one h).1, fun h => ?_⟩, fun h => (one h).2⟩
  obtain ⟨g1, g2, _⟩ := text_parse h
  have := own_words H g1
  rw [← words_text g1, g2] at this
  unfold parseON
  rw [this]
  simpa using g1
end Go.Proofs.YtenakehnnmencagGreatDoor

/- quotesEnd, CutWord, cut: the texts of three terms. -/
namespace Go.Proofs.YtenakehnnmencagGreatDoor
open Go Go.RowKit Go.Proofs

theorem qScan_mark (l : List UInt8) (k : Nat) (h : k + 1 < l.length) (hm : l[k] = 92) : qScan (l.drop k) = 2 + qScan (l.drop (k + 2)) := by
  rw [drop_at l k (by omega), drop_at l (k + 1) h, qScan, if_pos hm]
theorem qScan_mark_last (l : List UInt8) (k : Nat) (h : k + 1 = l.length) : qScan (l.drop k) = 1 := by
  rw [drop_at l k (by omega), List.drop_eq_nil_of_le (by omega)]
  simp [qScan]
theorem qScan_quote (l : List UInt8) (k : Nat) (h : k < l.length) (hm : l[k] = 34) : qScan (l.drop k) = 1 := by
  rw [drop_at l k h]
  cases hd : l.drop (k + 1) with
  | nil => simp [qScan]
  | cons d r => rw [qScan, hm]; rfl
theorem qScan_plain (l : List UInt8) (k : Nat) (h : k < l.length) (h1 : l[k] ≠ 92) (h2 : l[k] ≠ 34) : qScan (l.drop k) = 1 + qScan (l.drop (k + 1)) := by
  rw [drop_at l k h]
  cases hd : l.drop (k + 1) with
  | nil => simp [qScan]
  | cons d r => rw [qScan, if_neg h1, if_neg h2]

theorem byte_beq (c : UInt8) (n : UInt8) : ((c.toNat : Int) == (n.toNat : Int)) = (c == n) := by
  rw [Bool.eq_iff_iff]
  simp only [beq_iff_eq]
  constructor
  · intro h
    exact UInt8.toNat_inj.1 (by omega)
  · intro h; rw [h]

theorem hasP_nil : Lib.hasPrefix ([] : List UInt8) [34] = false := rfl
theorem hasP_cons (c : UInt8) (r : List UInt8) : Lib.hasPrefix (c :: r) [34] = (c == 34) := by
  show ((34 : UInt8) == c && true) = (c == 34)
  rw [Bool.and_true, Bool.eq_iff_iff]
  simp only [beq_iff_eq]
  exact eq_comm

set_option maxHeartbeats 1000000 in
theorem quotesEnd_any (l : List UInt8) (w : World) (hl : l.length ≤ 140737488355328) :
    Calls Tryz.prog 197 #[.string ⟨l.toArray⟩] w fun e w' => e = .returned (.int .i64 (qEnd l)) ∧ w' = w := by
  cases hpre : Lib.hasPrefix l [34]
  · have hp : Calls Tryz.prog 216 #[.string ⟨l.toArray⟩, .string ⟨#[34]⟩] w fun e w' => e = .returned (.bool false) ∧ w' = w := by
      have := Tryz.strings_HasPrefix ⟨l.toArray⟩ ⟨#[34]⟩ w
      rw [show Lib.hasPrefix (⟨l.toArray⟩ : ByteArray).data.toList (⟨#[34]⟩ : ByteArray).data.toList = Lib.hasPrefix l [34] from rfl, hpre] at this
      exact this
    have fin : Hid (qEnd l = 0) := by
      cases l with
      | nil => rfl
      | cons c r => rw [hasP_cons] at hpre; simp at hpre; simp [Hid, qEnd, hpre]
    go_enter Tryz.func197, Tryz.ntmps197
    go_wp2_with (go_at_call 216; refine hp.mono ?_; rintro e w' ⟨rfl, rfl⟩)
    go_ret
    exact ⟨ret_int (by rw [fin.out]; rfl), rfl⟩
  · have hp : Calls Tryz.prog 216 #[.string ⟨l.toArray⟩, .string ⟨#[34]⟩] w fun e w' => e = .returned (.bool true) ∧ w' = w := by
      have := Tryz.strings_HasPrefix ⟨l.toArray⟩ ⟨#[34]⟩ w
      rw [show Lib.hasPrefix (⟨l.toArray⟩ : ByteArray).data.toList (⟨#[34]⟩ : ByteArray).data.toList = Lib.hasPrefix l [34] from rfl, hpre] at this
      exact this
    obtain ⟨h1, fin⟩ : 1 ≤ l.length ∧ Hid (qEnd l = 1 + qScan (l.drop 1)) := by
      cases l with
      | nil => rw [hasP_nil] at hpre; simp at hpre
      | cons c r => rw [hasP_cons] at hpre; simp at hpre; simp [Hid, qEnd, hpre]
    clear hpre
    go_enter Tryz.func197, Tryz.ntmps197
    go_wp2_with (go_at_call 216; refine hp.mono ?_; rintro e w' ⟨rfl, rfl⟩)
    go_loop [3] (fun i => ∃ k : Nat, 1 ≤ k ∧ k ≤ l.length + 1 ∧ i = .int .i64 k ∧ Hid (k ≤ l.length → qEnd l = k + qScan (l.drop k)) ∧ Hid (k = l.length + 1 → qEnd l = l.length)) (fun i => l.length + 1 - (intOf i).toNat)
    case atStart => exact ⟨1, by omega, by omega, rfl, fun _ => fin.out, fun h => by omega⟩
    case round =>
      obtain ⟨k, hk1, hk, rfl, hA, hE⟩ := hrel
      by_cases hlt : k < l.length
      · have hidx : ∀ h, (⟨l.toArray⟩ : ByteArray)[k]'h = l[k] := fun _ => rfl
        cases hm : ((l[k].toNat : Int) == 92)
        · cases hq : ((l[k].toNat : Int) == 34)
          · go_wp2
            have n1 : l[k] ≠ 92 := by have := byte_beq l[k] 92; rw [show ((92 : UInt8).toNat : Int) = 92 from rfl, hm] at this; simpa using this.symm
            have n2 : l[k] ≠ 34 := by have := byte_beq l[k] 34; rw [show ((34 : UInt8).toNat : Int) = 34 from rfl, hq] at this; simpa using this.symm
            refine ⟨⟨k + 1, by omega, by omega, by go_num, fun _ => ?_, fun h => by omega⟩, by simp [intOf]; omega⟩
            rw [hA.out (by omega), qScan_plain l k hlt n1 n2]; omega
          · go_wp2
            go_ret
            have n2 : l[k] = 34 := by have := byte_beq l[k] 34; rw [show ((34 : UInt8).toNat : Int) = 34 from rfl, hq] at this; simpa using this.symm
            refine ⟨ret_int ?_, rfl⟩
            rw [hA.out (by omega), qScan_quote l k hlt n2]
            try go_num
        · have n1 : Hid (l[k] = 92) := by have := byte_beq l[k] 92; rw [show ((92 : UInt8).toNat : Int) = 92 from rfl, hm] at this; simpa [Hid] using this.symm
          go_wp2
          refine ⟨⟨k + 2, by omega, by omega, by go_num, fun h => ?_, fun h => ?_⟩, by simp [intOf]; omega⟩
          · by_cases h2 : k + 1 < l.length
            · rw [hA.out (by omega), qScan_mark l k h2 n1.out]; omega
            · omega
          · rw [hA.out (by omega), qScan_mark_last l k (by omega)]; omega
      · have fin2 : Hid (qEnd l = l.length) := by
          by_cases h : k = l.length + 1
          · exact hE.out h
          · have hk' : k = l.length := by omega
            have := hA.out (by omega)
            rw [hk', List.drop_length] at this
            simpa [Hid, qScan] using this
        go_wp2
        go_ret
        exact ⟨ret_int (by rw [fin2.out]), rfl⟩

theorem indexByte_lt (l : List UInt8) (c : UInt8) : Lib.indexByte l c < l.length := by
  induction l with
  | nil => simp [Lib.indexByte]
  | cons b r ih =>
    unfold Lib.indexByte
    simp only [List.length_cons]
    repeat' split
    all_goals omega

theorem take_extract (l : List UInt8) (k : Nat) : (⟨l.toArray⟩ : ByteArray).extract 0 k = ⟨(l.take k).toArray⟩ := by
  apply ByteArray.ext
  rw [ByteArray.data_extract]
  simp

set_option maxHeartbeats 1000000 in
theorem cutWord_none (l : List UInt8) (w : World) (hl : l.length ≤ 140737488355328) (h : cutW l = none) :
    Calls Tryz.prog 164 #[.string ⟨l.toArray⟩] w fun e w' => e = .returned (.tuple #[.string ⟨l.toArray⟩, .string ⟨#[]⟩, .bool false]) ∧ Below w.heap.size w w' := by
  have hq := fun W => quotesEnd_any l W hl
  have hle := qEnd_le l
  have hi : Calls Tryz.prog 198 #[.string ⟨(l.drop (qEnd l)).toArray⟩, .int .u8 32] w fun e w' => e = .returned (.int .i64 (Lib.indexByte (l.drop (qEnd l)) 32)) ∧ w' = w := Tryz.strings_IndexByte ⟨(l.drop (qEnd l)).toArray⟩ 32 w
  have hn : Lib.indexByte (l.drop (qEnd l)) 32 < 0 := by
    unfold cutW at h
    by_cases hh : Lib.indexByte (l.drop (qEnd l)) 32 < 0
    · exact hh
    · rw [if_neg hh] at h; simp at h
  have hd : decide (Lib.indexByte (l.drop (qEnd l)) 32 < 0) = true := by simpa using hn
  have hx := drop_extract l (qEnd l)
  generalize qEnd l = f at *
  have i0 : (0 : Int) ≤ (f : Int) := by omega
  have i1 : (f : Int) ≤ (l.length : Int) := by omega
  clear h
  go_enter Tryz.func164, Tryz.ntmps164
  go_wp2_with (first
    | (go_at_call 197; refine (hq _).mono ?_; rintro e w' ⟨rfl, rfl⟩)
    | (go_at_call 198; refine hi.mono ?_; rintro e w' ⟨rfl, rfl⟩))
  exact bodyPost_ret (v := .tuple #[.string ⟨l.toArray⟩, .string ⟨#[]⟩, .bool false]) (by simp [results, Tryz.results164, go_sem]) rfl ⟨rfl, Below.refl _ _⟩

set_option maxHeartbeats 1000000 in
theorem cutWord_some (l a r : List UInt8) (w : World) (hl : l.length ≤ 140737488355328) (h : cutW l = some (a, r)) :
    Calls Tryz.prog 164 #[.string ⟨l.toArray⟩] w fun e w' => e = .returned (.tuple #[.string ⟨a.toArray⟩, .string ⟨r.toArray⟩, .bool true]) ∧ Below w.heap.size w w' := by
  have hq := fun W => quotesEnd_any l W hl
  have hle := qEnd_le l
  have hi : Calls Tryz.prog 198 #[.string ⟨(l.drop (qEnd l)).toArray⟩, .int .u8 32] w fun e w' => e = .returned (.int .i64 (Lib.indexByte (l.drop (qEnd l)) 32)) ∧ w' = w := Tryz.strings_IndexByte ⟨(l.drop (qEnd l)).toArray⟩ 32 w
  have hlt := indexByte_lt (l.drop (qEnd l)) 32
  have hn : ¬ Lib.indexByte (l.drop (qEnd l)) 32 < 0 := by
    intro hh
    unfold cutW at h
    rw [if_pos hh] at h
    simp at h
  unfold cutW at h
  rw [if_neg hn] at h
  obtain ⟨N, hN⟩ : ∃ N : Nat, Lib.indexByte (l.drop (qEnd l)) 32 = (N : Int) := ⟨(Lib.indexByte (l.drop (qEnd l)) 32).toNat, by omega⟩
  rw [hN] at hi h hlt
  have hx := drop_extract l (qEnd l)
  simp only [Int.toNat_natCast, Option.some.injEq, Prod.mk.injEq] at h
  rw [List.length_drop] at hlt
  generalize qEnd l = f at *
  obtain ⟨M, hM⟩ : ∃ M : Nat, M = f + N := ⟨_, rfl⟩
  obtain ⟨M1, hM1⟩ : ∃ M1 : Nat, M1 = f + N + 1 := ⟨_, rfl⟩
  rw [← hM1, ← hM] at h
  obtain ⟨ha, hr⟩ := h
  have hxa := take_extract l M
  have hxr := drop_extract l M1
  rw [ha] at hxa
  rw [hr] at hxr
  have i0 : (0 : Int) ≤ (f : Int) := by omega
  have i1 : (f : Int) ≤ (l.length : Int) := by omega
  have w1 : IntKind.i64.wrap ((f : Int) + (N : Int)) = (M : Int) := by subst hM; simp [IntKind.wrap, IntKind.bits, IntKind.signed]; omega
  have w2 : IntKind.i64.wrap ((M : Int) + 1) = (M1 : Int) := by subst hM hM1; simp [IntKind.wrap, IntKind.bits, IntKind.signed]; omega
  have i2 : (0 : Int) ≤ (M : Int) := by omega
  have i3 : (M : Int) ≤ (l.length : Int) := by omega
  have i4 : (0 : Int) ≤ (M1 : Int) := by omega
  have i5 : (M1 : Int) ≤ (l.length : Int) := by omega
  have i6 : M ≤ l.length := by omega
  have i7 : M1 ≤ l.length := by omega
  clear hM hM1 ha hr hN hn hlt
  go_enter Tryz.func164, Tryz.ntmps164
  go_wp2_with (first
    | (go_at_call 197; refine (hq _).mono ?_; rintro e w' ⟨rfl, rfl⟩)
    | (go_at_call 198; refine hi.mono ?_; rintro e w' ⟨rfl, rfl⟩))
  go_region
  go_wp2
  exact bodyPost_ret (v := .tuple #[.string ⟨a.toArray⟩, .string ⟨r.toArray⟩, .bool true]) (by simp [results, Tryz.results164, go_sem]) rfl ⟨rfl, (Below.refl _ _).drew⟩
end Go.Proofs.YtenakehnnmencagGreatDoor

/- cut: the texts of three terms. -/
namespace Go.Proofs.YtenakehnnmencagGreatDoor
open Go Go.RowKit Go.Proofs

def cutL (l : List UInt8) : Option (List UInt8 × List UInt8 × List UInt8) := match cutW l with
  | none => none
  | some p => match cutW p.2 with
    | none => none
    | some q => some (p.1, q.1, q.2)

theorem cutW_len {l a r : List UInt8} (h : cutW l = some (a, r)) : l = a ++ 32 :: r := by
  unfold cutW at h
  by_cases hh : Lib.indexByte (l.drop (qEnd l)) 32 < 0
  · rw [if_pos hh] at h; simp at h
  · rw [if_neg hh] at h
    simp only [Option.some.injEq, Prod.mk.injEq] at h
    obtain ⟨rfl, rfl⟩ := h
    have key : ∀ (m : List UInt8), 0 ≤ Lib.indexByte m 32 → m = m.take (Lib.indexByte m 32).toNat ++ 32 :: m.drop ((Lib.indexByte m 32).toNat + 1) := by
      intro m
      induction m with
      | nil => intro h; simp [Lib.indexByte] at h
      | cons b r ih =>
        intro h
        by_cases hb : b = 32
        · subst hb; simp [Lib.indexByte]
        · have hb' : (b == 32) = false := by simpa using hb
          have e : Lib.indexByte (b :: r) 32 = if Lib.indexByte r 32 == -1 then -1 else Lib.indexByte r 32 + 1 := by
            rw [Lib.indexByte, hb']; rfl
          rw [e] at h ⊢
          by_cases hm : Lib.indexByte r 32 = -1
          · rw [hm] at h; simp at h
          · have hm' : (Lib.indexByte r 32 == -1) = false := by simpa using hm
            rw [hm'] at h ⊢
            simp only [Bool.false_eq_true, if_false] at h ⊢
            have hge := Lib.indexByte_ge r 32
            have := ih (by omega)
            rw [show (Lib.indexByte r 32 + 1).toNat = (Lib.indexByte r 32).toNat + 1 by omega]
            simp only [List.take_succ_cons, List.drop_succ_cons, List.cons_append]
            rw [← this]
    have hk := key (l.drop (qEnd l)) (by omega)
    generalize (Lib.indexByte (l.drop (qEnd l)) 32).toNat = n at hk ⊢
    calc l = l.take (qEnd l) ++ l.drop (qEnd l) := (List.take_append_drop _ _).symm
      _ = l.take (qEnd l) ++ ((l.drop (qEnd l)).take n ++ 32 :: (l.drop (qEnd l)).drop (n + 1)) := by rw [← hk]
      _ = l.take (qEnd l + n) ++ 32 :: l.drop (qEnd l + n + 1) := by
        rw [List.take_add, List.drop_drop, List.append_assoc, Nat.add_assoc]
theorem cutL_eq {l a b c : List UInt8} (h : cutL l = some (a, b, c)) : l = a ++ 32 :: b ++ 32 :: c := by
  unfold cutL at h
  cases h1 : cutW l with
  | none => rw [h1] at h; simp at h
  | some p =>
    rw [h1] at h
    simp only at h
    cases h2 : cutW p.2 with
    | none => rw [h2] at h; simp at h
    | some q =>
      rw [h2] at h
      simp only [Option.some.injEq, Prod.mk.injEq] at h
      obtain ⟨rfl, rfl, rfl⟩ := h
      rw [cutW_len (a := p.1) (r := p.2) h1, cutW_len (a := q.1) (r := q.2) h2]
      simp

end Go.Proofs.YtenakehnnmencagGreatDoor

/- The program's own reader of words, in memory: what is left of a text. -/
namespace Go.Proofs.YtenakehnnmencagGreatDoor
open Go Go.RowKit Go.Proofs Go.Maps
set_option synthInstance.maxSize 1000

/-- all but block g is as it was -/
abbrev ButO (g : Nat) (w w' : World) : Prop := w.grownBy w' (some g)
theorem ButO.of {g : Nat} {w w' : World} (hb : RowKit.Below w.heap.size w w') : ButO g w w' := ⟨hb.os, hb.tape, hb.output, hb.size, fun k hk _ => hb.block k hk⟩
theorem ButO.set {w : World} {g o : Nat} (u : Value) : ButO g w (w.setCell ⟨g, o, none⟩ u) := by
  have h := (RowKit.Below.refl 0 w).setCell (p := ⟨g, o, none⟩) (Nat.zero_le _) u
  exact ⟨h.os, h.tape, h.output, h.size, fun k _ hk => RowKit.Below.heap_setCell w ⟨g, o, none⟩ u k (fun e => hk (by rw [e]))⟩
theorem ButO.below {B g : Nat} {a w w' : World} (h : RowKit.Below B a w) (k : ButO g w w') (hB : B ≤ w.heap.size) (hg : B ≤ g) : RowKit.Below B a w' := h.grown k hB (fun _ e => by injection e with e; omega)
/-- the reader at block g: the words that are left of N -/
structure RdO (w : World) (g : Nat) (M : List (List UInt8)) (N : Nat) : Prop where
  c : ∃ (rest : List UInt8) (more : Bool), w.cell? ⟨g, 0, none⟩ = some (.string ⟨rest.toArray⟩) ∧ w.cell? ⟨g, 1, none⟩ = some (.bool more) ∧ M = (if more = true then wordsL rest else []) ∧ rest.length ≤ 100000000
  c2 : w.cell? ⟨g, 2, none⟩ = some (.int .i64 ((N - M.length : Nat) : Int))
  f0 : w.frozen? ⟨g, 0, none⟩ = false
  f1 : w.frozen? ⟨g, 1, none⟩ = false
  f2 : w.frozen? ⟨g, 2, none⟩ = false
  le : M.length ≤ N
  few : N ≤ 100000001
theorem RdO.lt {w : World} {g : Nat} {M : List (List UInt8)} {N : Nat} (h : RdO w g M N) : g < w.heap.size := World.block_lt_of_cell? w _ h.c2
theorem RdO.below {w w' : World} {g : Nat} {M : List (List UInt8)} {N : Nat} (h : RdO w g M N) (hb : RowKit.Below w.heap.size w w') : RdO w' g M N := by
  obtain ⟨k, f⟩ := bcell hb
  have hg := h.lt
  obtain ⟨rest, more, a0, a1, a2⟩ := h.c
  exact ⟨⟨rest, more, (k _ _ hg).trans a0, (k _ _ hg).trans a1, a2⟩, (k _ _ hg).trans h.c2, (f _ _ hg).trans h.f0, (f _ _ hg).trans h.f1, (f _ _ hg).trans h.f2, h.le, h.few⟩
/-- where nothing of block g turned -/
theorem RdO.keep {w w' : World} {g : Nat} {M : List (List UInt8)} {N : Nat} (h : RdO w g M N) (hb : w'.heap[g]? = w.heap[g]?) : RdO w' g M N := by
  have k : ∀ o, w'.cell? ⟨g, o, none⟩ = w.cell? ⟨g, o, none⟩ := fun o => by simp only [World.cell?]; rw [hb]
  have f : ∀ o, w'.frozen? ⟨g, o, none⟩ = w.frozen? ⟨g, o, none⟩ := fun o => by simp only [World.frozen?]; rw [hb]
  obtain ⟨rest, more, a0, a1, a2⟩ := h.c
  exact ⟨⟨rest, more, (k _).trans a0, (k _).trans a1, a2⟩, (k _).trans h.c2, (f _).trans h.f0, (f _).trans h.f1, (f _).trans h.f2, h.le, h.few⟩
/-- a word is gone -/
theorem RdO.next {w : World} {g : Nat} {M R : List (List UInt8)} {N : Nat} {x : List UInt8} (h : RdO w g M N) (hM : M = x :: R) (rest : List UInt8) (more : Bool) (hR : R = (if more = true then wordsL rest else [])) (hl : rest.length ≤ 100000000) {I : Nat} (hI : N - M.length = I) :
    RdO (((w.setCell ⟨g, 0, none⟩ (.string ⟨rest.toArray⟩)).setCell ⟨g, 1, none⟩ (.bool more)).setCell ⟨g, 2, none⟩ (.int .i64 ((I + 1 : Nat) : Int))) g R N := by
  subst hI
  obtain ⟨⟨r0, m0, a0, a1, _, _⟩, c2, f0, f1, f2, le, few⟩ := h
  have hlen : N - M.length + 1 = N - R.length := by rw [hM] at le ⊢; simp at le ⊢; omega
  rw [hlen]
  refine ⟨⟨rest, more, ?_, ?_, hR, hl⟩, ?_, ?_, ?_, ?_, by rw [hM] at le; simp at le; omega, few⟩ <;> go_simp
/-- what is left of a text, word by word -/
theorem RdO.some {w : World} {g : Nat} {M : List (List UInt8)} {N : Nat} (h : RdO w g M N) : (M = [] ∧ w.cell? ⟨g, 1, none⟩ = .some (.bool false)) ∨ (∃ rest, w.cell? ⟨g, 0, none⟩ = .some (.string ⟨rest.toArray⟩) ∧ w.cell? ⟨g, 1, none⟩ = .some (.bool true) ∧ M = wordsL rest ∧ rest.length ≤ 100000000) := by
  obtain ⟨rest, more, a0, a1, a2, a3⟩ := h.c
  cases more with
  | false => exact .inl ⟨a2, a1⟩
  | true => exact .inr ⟨rest, a0, a1, a2, a3⟩
end Go.Proofs.YtenakehnnmencagGreatDoor

/- The program's own readers of a word: a variable, a slot. -/
namespace Go.Proofs.YtenakehnnmencagGreatDoor
open Go Go.RowKit Go.Proofs Go.Maps
set_option synthInstance.maxSize 1000

attribute [local go_sem] eql_errV neq_errV guard_errV

theorem CloneO_any (l : List UInt8) (w : World) (hl : l.length ≤ 281474976710656) :
    Calls Tryz.prog 166 #[.string ⟨l.toArray⟩] w fun e w' => e = .returned (.string ⟨l.toArray⟩) ∧ RowKit.Below w.heap.size w w' := by
  go_enter Tryz.func166, Tryz.ntmps166
  go_wp2_with (go_at_call 200; refine (Tryz.stringslite_Clone ⟨l.toArray⟩ _ hl).mono ?_; rintro e w' ⟨rfl, hb⟩)
  go_ret
  exact ⟨rfl, hb⟩
/-- the name of a word that is a variable -/
def nameV (x : List UInt8) : List UInt8 := if varW x = true then x.tail else []
set_option maxHeartbeats 1000000 in
theorem readVar_any (x : List UInt8) (w : World) (hx : x.length ≤ 100000000) :
    Calls Tryz.prog 133 #[.string ⟨x.toArray⟩] w fun e w' => e = .returned (.tuple #[.string ⟨(nameV x).toArray⟩, .bool (varW x)]) ∧ RowKit.Below w.heap.size w w' := by
  cases x with
  | nil =>
    have HC := cut_nil 63 w
    go_enter Tryz.func133, Tryz.ntmps133
    go_wp2_with fail
    refine HC.mono ?_
    rintro e w1 ⟨rfl, hw1⟩
    subst hw1
    go_wp2_with fail
    exact bodyPost_ret (v := .tuple #[.string ⟨#[]⟩, .bool false]) (by simp [results, Tryz.results133, go_sem]) rfl ⟨rfl, RowKit.Below.refl _ _⟩
  | cons c v =>
    by_cases hc : c = 63
    · subst hc
      have HC := cut_yes 63 v w
      have HI := fun W => IsVar_any v W (by simp at hx; unfold maxLen; omega)
      have HL := fun W => CloneO_any v W (by simp at hx; omega)
      have e1 : varW (63 :: v) = (!v.isEmpty && spellV v) := by simp [varW]
      have fin : Hid (nameV (63 :: v) = if varW (63 :: v) = true then v else []) := rfl
      rw [e1] at fin ⊢
      generalize (!v.isEmpty && spellV v) = d at *
      generalize nameV (63 :: v) = N at *
      clear e1 hx
      cases d
      · go_enter Tryz.func133, Tryz.ntmps133
        go_wp2_with fail
        refine HC.mono ?_
        rintro e w1 ⟨rfl, hw1⟩
        subst hw1
        go_wp2_with fail
        refine (HI _).mono ?_
        rintro e w2 ⟨rfl, hb2⟩
        go_wp2_with fail
        exact bodyPost_ret (v := .tuple #[.string ⟨#[]⟩, .bool false]) (by simp [results, Tryz.results133, go_sem]) rfl ⟨by rw [fin.out]; rfl, hb2⟩
      · go_enter Tryz.func133, Tryz.ntmps133
        go_wp2_with fail
        refine HC.mono ?_
        rintro e w1 ⟨rfl, hw1⟩
        subst hw1
        go_wp2_with fail
        refine (HI _).mono ?_
        rintro e w2 ⟨rfl, hb2⟩
        go_wp2_with fail
        refine (HL _).mono ?_
        rintro e w3 ⟨rfl, hb3⟩
        go_wp2_with fail
        exact bodyPost_ret (v := .tuple #[.string ⟨v.toArray⟩, .bool true]) (by simp [results, Tryz.results133, go_sem]) rfl ⟨by rw [fin.out]; rfl, bstep hb2 hb3⟩
    · have HC := cut_no 63 c v w hc
      have e1 : varW (c :: v) = false := by simp [varW, hc]
      have e2 : nameV (c :: v) = [] := by unfold nameV; rw [if_neg (by rw [e1]; simp)]
      rw [e1, e2]
      clear e1 e2 hx
      go_enter Tryz.func133, Tryz.ntmps133
      go_wp2_with fail
      refine HC.mono ?_
      rintro e w1 ⟨rfl, hw1⟩
      subst hw1
      go_wp2_with fail
      exact bodyPost_ret (v := .tuple #[.string ⟨#[]⟩, .bool false]) (by simp [results, Tryz.results133, go_sem]) rfl ⟨rfl, RowKit.Below.refl _ _⟩
/-- a word as a slot, and whether it is one -/
def slotW (x : List UInt8) : Sl := if varW x = true then (x.tail, tmZero) else ([], parseT x)
def slotB (x : List UInt8) : Bool := varW x || decide (parseN x = 0)
set_option maxHeartbeats 2000000 in
theorem readSlot_any (x : List UInt8) (w : World) (hx : x.length ≤ 100000000) :
    Calls Tryz.prog 168 #[.string ⟨x.toArray⟩] w fun e w' => e = .returned (.tuple #[valSl (slotW x), .bool (slotB x)]) ∧ RowKit.Below w.heap.size w w' := by
  have HV := fun W => readVar_any x W hx
  have HP := fun W => Parse_any x W (by omega)
  have f1 : Hid (slotW x = if varW x = true then (x.tail, tmZero) else ([], parseT x)) := rfl
  have f2 : Hid (slotB x = (varW x || decide (parseN x = 0))) := rfl
  have f3 : Hid (nameV x = if varW x = true then x.tail else []) := rfl
  generalize slotW x = S at *
  generalize slotB x = B at *
  generalize nameV x = N at *
  generalize x.tail = T at *
  cases hv : varW x
  · rw [hv] at HV f1 f2 f3
    have g1 : S = ([], parseT x) := by rw [f1.out]; simp
    have g2 : Hid (B = decide (parseN x = 0)) := by show _ = _; rw [f2.out]; simp
    subst g1
    clear f1 f2 f3 hv hx
    generalize parseT x = P at *
    obtain ⟨k, s, l⟩ := P
    generalize parseN x = n at *
    go_enter Tryz.func168, Tryz.ntmps168
    go_wp2_with fail
    refine (HV _).mono ?_
    rintro e w1 ⟨rfl, hb1⟩
    have hz1 : w.heap.size < w1.heap.size := by have := hb1.size; simp at this; omega
    go_wp2_with fail
    refine (HP _).mono ?_
    rintro e w2 ⟨rfl, hb2⟩
    simp only [termV]
    have hB := bstep hb1 hb2
    obtain ⟨kc, kf⟩ := bcell hB
    have hz : w.heap.size < w2.heap.size := by have := hb2.size; omega
    have hne : w2.heap.size ≠ w.heap.size := by omega
    clear HV HP hb1 hb2
    go_upto_region 5 with fail
    go_region
    go_wp2_with fail
    have hb0 := bstep (balloc w _) hB
    have hB5 := bnew ((((hb0.setCell (p := ⟨w.heap.size, 0, none⟩) (Nat.le_refl _) (.string ⟨#[]⟩)).setCell (p := ⟨w.heap.size, 1, none⟩) (Nat.le_refl _) (.int .i64 k)).setCell (p := ⟨w.heap.size, 2, none⟩) (Nat.le_refl _) (.string ⟨s.toArray⟩)).setCell (p := ⟨w.heap.size, 3, none⟩) (Nat.le_refl _) (.string ⟨l.toArray⟩)) (.cells #[.int .i64 k, .string ⟨s.toArray⟩, .string ⟨l.toArray⟩] 42)
    exact bodyPost_ret (v := .tuple #[.agg #[.string ⟨#[]⟩, .int .i64 k, .string ⟨s.toArray⟩, .string ⟨l.toArray⟩], .bool (n == 0)]) (by simp [results, Tryz.results168, go_sem, kc, hz]) rfl ⟨by rw [g2.out, show (n == 0) = decide (n = 0) from rfl]; rfl, hB5.drew⟩
  · rw [hv] at HV f1 f2 f3
    have g1 : S = (T, tmZero) := by rw [f1.out]; simp
    have g2 : Hid (B = true) := by show _ = _; rw [f2.out]; simp
    have g3 : N = T := by rw [f3.out]; simp
    subst g1 g3
    clear f1 f2 f3 hv hx HP
    go_enter Tryz.func168, Tryz.ntmps168
    go_wp2_with fail
    refine (HV _).mono ?_
    rintro e w1 ⟨rfl, hb1⟩
    obtain ⟨kc, kf⟩ := bcell hb1
    have hz : w.heap.size < w1.heap.size := by have := hb1.size; simp at this; omega
    go_wp2_with fail
    have hb0 := bstep (balloc w _) hb1
    have hB5 := (((hb0.setCell (p := ⟨w.heap.size, 0, none⟩) (Nat.le_refl _) (.string ⟨N.toArray⟩)).setCell (p := ⟨w.heap.size, 1, none⟩) (Nat.le_refl _) (.int .i64 0)).setCell (p := ⟨w.heap.size, 2, none⟩) (Nat.le_refl _) (.string ⟨#[]⟩)).setCell (p := ⟨w.heap.size, 3, none⟩) (Nat.le_refl _) (.string ⟨#[]⟩)
    exact bodyPost_ret (v := .tuple #[.agg #[.string ⟨N.toArray⟩, .int .i64 0, .string ⟨#[]⟩, .string ⟨#[]⟩], .bool true]) (by simp [results, Tryz.results168, go_sem, kc]) rfl ⟨by rw [g2.out]; rfl, hB5⟩
end Go.Proofs.YtenakehnnmencagGreatDoor

/- Rows of one's own that lie in blocks of their own. -/
namespace Go.Proofs.YtenakehnnmencagGreatDoor
open Go Go.RowKit Go.Proofs

theorem own_mono {W : World} {B C e s n : Nat} {v : Value} {xs : List Value} (h : W.ownsRow B e s v n xs) (hb : C ≤ B) : W.ownsRow C e s v n xs :=
  ⟨h.1, h.2.imp id fun ⟨g, cap, cur, e, hg, r⟩ => ⟨g, cap, cur, e, Nat.le_trans hb hg, r⟩⟩
/-- two rows of one's own lie in blocks of their own -/
def Far2 (v u : Value) : Prop := ∀ g, v.ownBlock = some g → u.ownBlock ≠ some g
theorem Far2.symm {v u : Value} (h : Far2 v u) : Far2 u v := fun g h1 h2 => h g h2 h1
theorem Far2.out {v u : Value} (h : Far2 v u) : u.ownBlock = none ∨ u.ownBlock ≠ v.ownBlock := by
  cases e : u.ownBlock with
  | none => exact .inl rfl
  | some g => exact .inr fun e' => h g e'.symm e
theorem far2_nil (u : Value) : Far2 (.slice none 0 0) u := fun g h => by cases h
theorem Far2.grow {v v' u : Value} {W : World} {B e s n : Nat} {ys : List Value} (h : Far2 v u) (hu : W.ownsRow B e s u n ys) (hv : v'.ownBlock = v.ownBlock ∨ v'.ownBlock = some W.heap.size) : Far2 v' u := fun g h1 h2 => by
  rcases hv with hv | hv
  · exact h g (hv ▸ h1) h2
  · rw [hv] at h1
    cases h1
    have := (hu.lt _ h2).2
    omega
end Go.Proofs.YtenakehnnmencagGreatDoor

/- The program's own Parse of a question in memory: the reader, the question's box, the answer's box, two rows. -/
namespace Go.Proofs.YtenakehnnmencagGreatDoor
open Go Go.RowKit Go.Proofs Go.Maps
set_option synthInstance.maxSize 1000

theorem heapO_other (W : World) (b o : Nat) (v : Value) (j : Nat) (h : j ≠ b) : (W.setCell ⟨b, o, none⟩ v).heap[j]? = W.heap[j]? := RowKit.Below.heap_setCell W ⟨b, o, none⟩ v j h
theorem heapO_same (W : World) (b o : Nat) (cs : Array Value) (T : TypeId) (v : Value) (h : W.heap[b]? = some (.cells cs T)) : (W.setCell ⟨b, o, none⟩ v).heap[b]? = some (.cells (cs.setIfInBounds o v) T) := by
  simp only [World.setCell]
  rw [Array.getElem?_modify, if_pos rfl, h]
  rfl
theorem rowO_keep {w w' : World} {base : Nat} {e : TypeId} {sz : Nat} {v : Value} {n : Nat} {cs : List Value} (h : w.ownsRow base e sz v n cs) (hb : ∀ j, v.ownBlock = some j → w'.heap[j]? = w.heap[j]?) : w'.ownsRow base e sz v n cs := by
  refine ⟨h.1, ?_⟩
  rcases h.2 with h0 | ⟨g, cap, cur, hv, hg, hm, r⟩
  · exact Or.inl h0
  · exact Or.inr ⟨g, cap, cur, hv, hg, (hb g (by rw [hv]; rfl)).trans hm, r⟩

/-- where a reading stands: the answer's box lies where w ended, the reader at g, the question at g + 1, its rows behind -/
structure OSt (w W : World) (g : Nat) (M : List (List UInt8)) (N : Nat) (va vp : Value) (q : Qu) : Prop where
  rd : RdO W g M N
  bel : RowKit.Below w.heap.size w W
  rg : w.heap.size < g
  res : W.heap[w.heap.size]? = some (.cells #[.slice none 0 0, .slice none 0 0, .string ⟨#[]⟩, .bool false, .bool false, .int .i64 0] 52)
  blk : W.heap[g + 1]? = some (.cells #[va, vp, .string ⟨q.order.toArray⟩, .bool q.down, .bool q.dist, .int .i64 q.lim] 52)
  vars : W.ownsRow (g + 2) 9 1 va q.vars.length (q.vars.map encV)
  parts : W.ownsRow (g + 2) 108 12 vp q.parts.length (cellsPt q.parts)
  far : Far2 va vp
section
variable {w W : World} {g : Nat} {M : List (List UInt8)} {N : Nat} {va vp : Value} {q : Qu}
theorem OSt.lt (h : OSt w W g M N va vp q) : g + 1 < W.heap.size := (Array.getElem?_eq_some_iff.1 h.blk).1
theorem OSt.below {W' : World} (h : OSt w W g M N va vp q) (hb : RowKit.Below W.heap.size W W') : OSt w W' g M N va vp q := by
  have hz := h.lt
  have hr := h.rg
  exact ⟨h.rd.below hb, bstep h.bel hb, h.rg, (hb.block _ (by omega)).trans h.res, (hb.block _ hz).trans h.blk, ownsRow_belowV h.vars hb, ownsRow_belowV h.parts hb, h.far⟩
/-- the reader went on -/
theorem OSt.to {W' : World} {M' : List (List UInt8)} (h : OSt w W g M N va vp q) (hi : RdO W' g M' N) (hb : ButO g W W') : OSt w W' g M' N va vp q := by
  have hz := h.lt
  have hr := h.rg
  have k : ∀ j, j < W.heap.size → j ≠ g → W'.heap[j]? = W.heap[j]? := fun j h1 h2 => hb.block j h1 (fun e => h2 (Option.some.inj e))
  refine ⟨hi, h.bel.grown hb (by omega) (fun j e => by injection e with e; omega), h.rg, (k _ (by omega) (by omega)).trans h.res, (k _ hz (by omega)).trans h.blk, rowO_keep h.vars fun j hj => k j (h.vars.lt j hj).2 (by have := (h.vars.lt j hj).1; omega), rowO_keep h.parts fun j hj => k j (h.parts.lt j hj).2 (by have := (h.parts.lt j hj).1; omega), h.far⟩
theorem OSt.cells (h : OSt w W g M N va vp q) : W.cell? ⟨g + 1, 0, none⟩ = some va ∧ W.cell? ⟨g + 1, 1, none⟩ = some vp ∧ W.cell? ⟨g + 1, 2, none⟩ = some (.string ⟨q.order.toArray⟩) ∧ W.cell? ⟨g + 1, 3, none⟩ = some (.bool q.down) ∧ W.cell? ⟨g + 1, 4, none⟩ = some (.bool q.dist) ∧ W.cell? ⟨g + 1, 5, none⟩ = some (.int .i64 q.lim) := by
  have h2 := h.blk
  refine ⟨?_, ?_, ?_, ?_, ?_, ?_⟩ <;> simp [World.cell?, h2]
theorem OSt.free (h : OSt w W g M N va vp q) : W.frozen? ⟨g + 1, 0, none⟩ = false ∧ W.frozen? ⟨g + 1, 1, none⟩ = false ∧ W.frozen? ⟨g + 1, 2, none⟩ = false ∧ W.frozen? ⟨g + 1, 3, none⟩ = false ∧ W.frozen? ⟨g + 1, 4, none⟩ = false ∧ W.frozen? ⟨g + 1, 5, none⟩ = false := by
  have h2 := h.blk
  refine ⟨?_, ?_, ?_, ?_, ?_, ?_⟩ <;> simp [World.frozen?, h2]
theorem OSt.rcells (h : OSt w W g M N va vp q) : W.cell? ⟨w.heap.size, 0, none⟩ = some (.slice none 0 0) ∧ W.cell? ⟨w.heap.size, 1, none⟩ = some (.slice none 0 0) ∧ W.cell? ⟨w.heap.size, 2, none⟩ = some (.string ⟨#[]⟩) ∧ W.cell? ⟨w.heap.size, 3, none⟩ = some (.bool false) ∧ W.cell? ⟨w.heap.size, 4, none⟩ = some (.bool false) ∧ W.cell? ⟨w.heap.size, 5, none⟩ = some (.int .i64 0) := by
  have h2 := h.res
  refine ⟨?_, ?_, ?_, ?_, ?_, ?_⟩ <;> simp [World.cell?, h2]
theorem OSt.rfree (h : OSt w W g M N va vp q) : W.frozen? ⟨w.heap.size, 0, none⟩ = false ∧ W.frozen? ⟨w.heap.size, 1, none⟩ = false ∧ W.frozen? ⟨w.heap.size, 2, none⟩ = false ∧ W.frozen? ⟨w.heap.size, 3, none⟩ = false ∧ W.frozen? ⟨w.heap.size, 4, none⟩ = false ∧ W.frozen? ⟨w.heap.size, 5, none⟩ = false := by
  have h2 := h.res
  refine ⟨?_, ?_, ?_, ?_, ?_, ?_⟩ <;> simp [World.frozen?, h2]
/-- a world in which only the question's box turned -/
theorem OSt.box {o : Nat} {v va' vp' : Value} {q' : Qu} (h : OSt w W g M N va vp q) (hv : q'.vars = q.vars) (hp : q'.parts = q.parts) (ha : va' = va) (hp' : vp' = vp)
    (hc : (#[va, vp, .string ⟨q.order.toArray⟩, .bool q.down, .bool q.dist, .int .i64 q.lim] : Array Value).setIfInBounds o v = #[va', vp', .string ⟨q'.order.toArray⟩, .bool q'.down, .bool q'.dist, .int .i64 q'.lim]) : OSt w (W.setCell ⟨g + 1, o, none⟩ v) g M N va' vp' q' := by
  have hr := h.rg
  subst ha hp'
  refine ⟨h.rd.keep (heapO_other _ _ _ _ _ (by omega)), h.bel.setCell (p := ⟨g + 1, o, none⟩) (by show w.heap.size ≤ g + 1; omega) _, h.rg, (heapO_other _ _ _ _ _ (by omega)).trans h.res, ?_, ?_, ?_, h.far⟩
  · rw [heapO_same _ _ _ _ _ _ h.blk, hc]
  · rw [hv]; exact rowO_keep h.vars fun j hj => heapO_other _ _ _ _ _ (by have := (h.vars.lt j hj).1; omega)
  · rw [hp]; exact rowO_keep h.parts fun j hj => heapO_other _ _ _ _ _ (by have := (h.parts.lt j hj).1; omega)
theorem OSt.lim (h : OSt w W g M N va vp q) (n : Int) : OSt w (W.setCell ⟨g + 1, 5, none⟩ (.int .i64 n)) g M N va vp { q with lim := n } := h.box rfl rfl rfl rfl (by simp)
theorem OSt.dist (h : OSt w W g M N va vp q) (b : Bool) : OSt w (W.setCell ⟨g + 1, 4, none⟩ (.bool b)) g M N va vp { q with dist := b } := h.box rfl rfl rfl rfl (by simp)
theorem OSt.down (h : OSt w W g M N va vp q) (b : Bool) : OSt w (W.setCell ⟨g + 1, 3, none⟩ (.bool b)) g M N va vp { q with down := b } := h.box rfl rfl rfl rfl (by simp)
theorem OSt.order (h : OSt w W g M N va vp q) (x : List UInt8) : OSt w (W.setCell ⟨g + 1, 2, none⟩ (.string ⟨x.toArray⟩)) g M N va vp { q with order := x } := h.box rfl rfl rfl rfl (by simp)
/-- a world in which one row grew -/
theorem OSt.grown {W9 : World} {v : Value} (h : OSt w W g M N va vp q) (hv : v = va ∨ v = vp) (hg : W.grownBy W9 v.ownBlock) : RdO W9 g M N ∧ RowKit.Below w.heap.size w W9 ∧ W9.heap[w.heap.size]? = W.heap[w.heap.size]? ∧ W9.heap[g + 1]? = W.heap[g + 1]? := by
  have hz := h.lt
  have hr := h.rg
  have hB : ∀ j, v.ownBlock = some j → g + 2 ≤ j := fun j hj => by
    rcases hv with rfl | rfl
    · exact (h.vars.lt j hj).1
    · exact (h.parts.lt j hj).1
  have k : ∀ j, j < g + 2 → W9.heap[j]? = W.heap[j]? := fun j hj => hg.block j (by omega) (fun e => by have := hB j e.symm; omega)
  exact ⟨h.rd.keep (k _ (by omega)), h.bel.grown hg (by omega) (fun j e => by have := hB j e; omega), k _ (by omega), k _ (by omega)⟩
theorem OSt.pushV {W9 : World} {va' : Value} {x : List UInt8} (h : OSt w W g M N va vp q) (hrow : W9.ownsRow (g + 2) 9 1 va' (q.vars ++ [x]).length ((q.vars ++ [x]).map encV)) (hg : W.grownBy W9 va.ownBlock) (hat : va'.ownBlock = va.ownBlock ∨ va'.ownBlock = some W.heap.size) :
    OSt w (W9.setCell ⟨g + 1, 0, none⟩ va') g M N va' vp { q with vars := q.vars ++ [x] } := by
  have hr := h.rg
  obtain ⟨hi, hb, h1, h2⟩ := h.grown (Or.inl rfl) hg
  refine ⟨hi.keep (heapO_other _ _ _ _ _ (by omega)), hb.setCell (p := ⟨g + 1, 0, none⟩) (by show w.heap.size ≤ g + 1; omega) _, h.rg, (heapO_other _ _ _ _ _ (by omega)).trans (h1.trans h.res), ?_, rowO_keep hrow fun j hj => heapO_other _ _ _ _ _ (by have := (hrow.lt j hj).1; omega), ?_, h.far.grow h.parts hat⟩
  · rw [heapO_same _ _ _ _ _ _ (h2.trans h.blk)]; simp
  · exact rowO_keep (h.parts.kept hg h.far.out) fun j hj => heapO_other _ _ _ _ _ (by have := (h.parts.lt j hj).1; omega)
theorem OSt.pushP {W9 : World} {vp' : Value} {x : Pt} (h : OSt w W g M N va vp q) (hrow : W9.ownsRow (g + 2) 108 12 vp' (q.parts ++ [x]).length (cellsPt (q.parts ++ [x]))) (hg : W.grownBy W9 vp.ownBlock) (hat : vp'.ownBlock = vp.ownBlock ∨ vp'.ownBlock = some W.heap.size) :
    OSt w (W9.setCell ⟨g + 1, 1, none⟩ vp') g M N va vp' { q with parts := q.parts ++ [x] } := by
  have hr := h.rg
  obtain ⟨hi, hb, h1, h2⟩ := h.grown (Or.inr rfl) hg
  refine ⟨hi.keep (heapO_other _ _ _ _ _ (by omega)), hb.setCell (p := ⟨g + 1, 1, none⟩) (by show w.heap.size ≤ g + 1; omega) _, h.rg, (heapO_other _ _ _ _ _ (by omega)).trans (h1.trans h.res), ?_, ?_, rowO_keep hrow fun j hj => heapO_other _ _ _ _ _ (by have := (hrow.lt j hj).1; omega), (h.far.symm.grow h.vars hat).symm⟩
  · rw [heapO_same _ _ _ _ _ _ (h2.trans h.blk)]; simp
  · exact rowO_keep (h.vars.kept hg h.far.symm.out) fun j hj => heapO_other _ _ _ _ _ (by have := (h.vars.lt j hj).1; omega)
theorem OSt.gcells {W9 : World} {v : Value} (h : OSt w W g M N va vp q) (hv : v = va ∨ v = vp) (hg : W.grownBy W9 v.ownBlock) : W9.cell? ⟨g + 1, 0, none⟩ = some va ∧ W9.cell? ⟨g + 1, 1, none⟩ = some vp ∧ W9.frozen? ⟨g + 1, 0, none⟩ = false ∧ W9.frozen? ⟨g + 1, 1, none⟩ = false ∧ g + 1 < W9.heap.size := by
  obtain ⟨_, _, _, h2⟩ := h.grown hv hg
  have h3 := h2.trans h.blk
  refine ⟨?_, ?_, ?_, ?_, (Array.getElem?_eq_some_iff.1 h3).1⟩ <;> simp [World.cell?, World.frozen?, h3]
/-- how much is left to be read -/
def leftO (g n : Nat) (W : World) : Nat := match W.cell? ⟨g, 2, none⟩ with
  | some (.int _ i) => 2 * (n - i.toNat)
  | _ => 0
theorem OSt.left (h : OSt w W g M N va vp q) : leftO g N W = 2 * M.length := by
  have := h.rd.le
  unfold leftO
  rw [h.rd.c2]
  simp
  omega
end
def agO : Value → Nat
  | .bool true => 1
  | _ => 0
end Go.Proofs.YtenakehnnmencagGreatDoor

/- ask.taken at texts and at numbers, with whatever reader of a word. -/
namespace Go.Proofs.YtenakehnnmencagGreatDoor
open Go Go.RowKit Go.Proofs Go.Maps
set_option synthInstance.maxSize 1000

/-- the next word is taken, if it can be read -/
def tkB (B : List UInt8 → Bool) (M : List (List UInt8)) : Bool := match M with
  | [] => false
  | x :: _ => B x
def tkM (B : List UInt8 → Bool) (M : List (List UInt8)) : List (List UInt8) := if tkB B M = true then M.tail else M
def tkV {T : Type} (z : T) (V : List UInt8 → T) (B : List UInt8 → Bool) (M : List (List UInt8)) : T := match M with
  | [] => z
  | x :: _ => if B x = true then V x else z
theorem CutAny (rest : List UInt8) (hl : rest.length ≤ 100000000) : ∃ (x r : List UInt8) (m : Bool), (∀ W, Calls Tryz.prog 164 #[.string ⟨rest.toArray⟩] W fun e w' => e = .returned (.tuple #[.string ⟨x.toArray⟩, .string ⟨r.toArray⟩, .bool m]) ∧ RowKit.Below W.heap.size W w') ∧ wordsL rest = x :: (if m = true then wordsL r else []) ∧ x.length ≤ 100000000 ∧ r.length ≤ 100000000 := by
  cases h : cutW rest with
  | none => exact ⟨rest, [], false, fun W => cutWord_none rest W (by omega) h, by rw [words_none h]; rfl, hl, by simp⟩
  | some p =>
    have hlen := cutW_len (a := p.1) (r := p.2) h
    have h2 : p.1.length + 1 + p.2.length = rest.length := by rw [hlen]; simp; omega
    exact ⟨p.1, p.2, true, fun W => cutWord_some rest p.1 p.2 W (by omega) h, by rw [words_some (a := p.1) (r := p.2) h]; rfl, by omega, by omega⟩
theorem hideK {p : Prop} (h : p) : Hid p := h
/-- what is asked of a reader of a word -/
def ReadsW (fn : Nat) (lb : Array Value) (V : List UInt8 → Value) (B : List UInt8 → Bool) (w : World) : Prop :=
  ∀ (W : World) (x : List UInt8), x.length ≤ 100000000 → RowKit.Below w.heap.size w W → Calls Tryz.prog fn (#[.string ⟨x.toArray⟩] ++ lb) W fun e w' => e = .returned (.tuple #[V x, .bool (B x)]) ∧ RowKit.Below W.heap.size W w'

set_option maxHeartbeats 4000000 in
set_option maxRecDepth 100000 in
theorem takenS_any (fn : Nat) (lb : Array Value) (V : List UInt8 → List UInt8) (B : List UInt8 → Bool) (g : Nat) (M : List (List UInt8)) (N : Nat) (w : World) (h : RdO w g M N) (eg : ∀ args w, (callFunc fn args).run Tryz.prog w = .ok (.enter fn args) w) (hr : ReadsW fn lb (fun x => .string ⟨(V x).toArray⟩) B w) :
    Calls Tryz.prog 132 #[.pointer (some ⟨g, 0, none⟩), .func (.func fn) #[] lb] w fun e w' => e = .returned (.tuple #[.string ⟨(tkV [] V B M).toArray⟩, .bool (tkB B M)]) ∧ RdO w' g (tkM B M) N ∧ ButO g w w' := by
  have Hr := hideK h
  have hg : g < w.heap.size := h.lt
  have HR := hideK hr
  clear hr
  rcases h.some with ⟨rfl, c1⟩ | ⟨rest, c0, c1, hM, hlen⟩
  · clear h HR
    go_enter Tryz.func132, Tryz.ntmps132
    go_wp2_with fail
    exact bodyPost_ret (v := .tuple #[.string ⟨#[]⟩, .bool false]) (by simp [results, Tryz.results132, go_sem]) rfl ⟨rfl, Hr.out, ButO.of (RowKit.Below.refl _ _)⟩
  · obtain ⟨x, r, m, HC, hw, hx, hrl⟩ := CutAny rest hlen
    rw [hw] at hM
    have HM := hideK hM
    have f1 : Hid (tkV [] V B M = if B x = true then V x else []) := by show _ = _; rw [hM]; rfl
    have f2 : Hid (tkB B M = B x) := by show _ = _; rw [hM]; rfl
    have f3 : Hid (tkM B M = if B x = true then (if m = true then wordsL r else []) else M) := by show _ = _; unfold tkM; rw [f2.out, hM]; rfl
    have h2 := h.c2
    have hf0 := h.f0
    have hf1 := h.f1
    have hf2 := h.f2
    have hN := h.few
    generalize tkV [] V B M = TV at *
    generalize tkB B M = TB at *
    generalize tkM B M = TM at *
    have wr : IntKind.i64.wrap (((N - M.length : Nat) : Int) + 1) = ((N - M.length + 1 : Nat) : Int) := by
      generalize hi : N - M.length = i
      have : i ≤ 100000001 := by omega
      simp [IntKind.wrap, IntKind.bits, IntKind.signed]; omega
    generalize hI : N - M.length = I at *
    have HI := hideK hI
    clear h hw hM hI hN
    go_enter Tryz.func132, Tryz.ntmps132
    go_wp2_with fail
    refine (HC _).mono ?_
    rintro e w1 ⟨rfl, hb1⟩
    dsimp only
    have HX := HR.out w1 x hx hb1
    clear HC HR
    cases hB : B x
    · rw [hB] at HX
      go_wp2_with fail
      refine HX.mono ?_
      rintro e w2 ⟨rfl, hb2⟩
      dsimp only
      clear HX
      go_wp2_with fail
      refine bodyPost_ret (v := .tuple #[.string ⟨#[]⟩, .bool false]) (by simp [results, Tryz.results132, go_sem]) rfl ⟨?_, ?_, ButO.of (bstep hb1 hb2)⟩
      · rw [f1.out, f2.out, hB]; rfl
      · rw [f3.out, hB]; exact Hr.out.below (bstep hb1 hb2)
    · rw [hB] at HX
      go_wp2_with fail
      refine HX.mono ?_
      rintro e w2 ⟨rfl, hb2⟩
      dsimp only
      have hB2 := bstep hb1 hb2
      obtain ⟨kc, kf⟩ := bcell hB2
      have d0 := (kf _ 0 hg).trans hf0
      have d1 := (kf _ 1 hg).trans hf1
      have d2 := (kf _ 2 hg).trans hf2
      have e0 := (kc _ 0 hg).trans c0
      have e1 := (kc _ 1 hg).trans c1
      have e2 := (kc _ 2 hg).trans h2
      clear kc kf c0 c1 h2 hf0 hf1 hf2 hb1 hb2 HX
      go_wp2_with fail
      refine bodyPost_ret (v := .tuple #[.string ⟨(V x).toArray⟩, .bool true]) (by simp [results, Tryz.results132, go_sem]) rfl ⟨?_, ?_, ?_⟩
      · rw [f1.out, f2.out, hB]; rfl
      · rw [f3.out, hB]; exact (Hr.out.below hB2).next HM.out r m rfl hrl HI.out
      · exact (ButO.of hB2).trans ((ButO.set _).trans ((ButO.set _).trans (ButO.set _)))
set_option maxHeartbeats 4000000 in
set_option maxRecDepth 100000 in
theorem takenI_any (fn : Nat) (lb : Array Value) (V : List UInt8 → Int) (B : List UInt8 → Bool) (g : Nat) (M : List (List UInt8)) (N : Nat) (w : World) (h : RdO w g M N) (eg : ∀ args w, (callFunc fn args).run Tryz.prog w = .ok (.enter fn args) w) (hr : ReadsW fn lb (fun x => .int .i64 (V x)) B w) :
    Calls Tryz.prog 135 #[.pointer (some ⟨g, 0, none⟩), .func (.func fn) #[] lb] w fun e w' => e = .returned (.tuple #[.int .i64 (tkV 0 V B M), .bool (tkB B M)]) ∧ RdO w' g (tkM B M) N ∧ ButO g w w' := by
  have Hr := hideK h
  have hg : g < w.heap.size := h.lt
  have HR := hideK hr
  clear hr
  rcases h.some with ⟨rfl, c1⟩ | ⟨rest, c0, c1, hM, hlen⟩
  · clear h HR
    go_enter Tryz.func135, Tryz.ntmps135
    go_wp2_with fail
    exact bodyPost_ret (v := .tuple #[.int .i64 0, .bool false]) (by simp [results, Tryz.results135, go_sem]) rfl ⟨rfl, Hr.out, ButO.of (RowKit.Below.refl _ _)⟩
  · obtain ⟨x, r, m, HC, hw, hx, hrl⟩ := CutAny rest hlen
    rw [hw] at hM
    have HM := hideK hM
    have f1 : Hid (tkV 0 V B M = if B x = true then V x else 0) := by show _ = _; rw [hM]; rfl
    have f2 : Hid (tkB B M = B x) := by show _ = _; rw [hM]; rfl
    have f3 : Hid (tkM B M = if B x = true then (if m = true then wordsL r else []) else M) := by show _ = _; unfold tkM; rw [f2.out, hM]; rfl
    have h2 := h.c2
    have hf0 := h.f0
    have hf1 := h.f1
    have hf2 := h.f2
    have hN := h.few
    generalize tkV 0 V B M = TV at *
    generalize tkB B M = TB at *
    generalize tkM B M = TM at *
    have wr : IntKind.i64.wrap (((N - M.length : Nat) : Int) + 1) = ((N - M.length + 1 : Nat) : Int) := by
      generalize hi : N - M.length = i
      have : i ≤ 100000001 := by omega
      simp [IntKind.wrap, IntKind.bits, IntKind.signed]; omega
    generalize hI : N - M.length = I at *
    have HI := hideK hI
    clear h hw hM hI hN
    go_enter Tryz.func135, Tryz.ntmps135
    go_wp2_with fail
    refine (HC _).mono ?_
    rintro e w1 ⟨rfl, hb1⟩
    dsimp only
    have HX := HR.out w1 x hx hb1
    clear HC HR
    cases hB : B x
    · rw [hB] at HX
      go_wp2_with fail
      refine HX.mono ?_
      rintro e w2 ⟨rfl, hb2⟩
      dsimp only
      clear HX
      go_wp2_with fail
      refine bodyPost_ret (v := .tuple #[.int .i64 0, .bool false]) (by simp [results, Tryz.results135, go_sem]) rfl ⟨?_, ?_, ButO.of (bstep hb1 hb2)⟩
      · rw [f1.out, f2.out, hB]; rfl
      · rw [f3.out, hB]; exact Hr.out.below (bstep hb1 hb2)
    · rw [hB] at HX
      go_wp2_with fail
      refine HX.mono ?_
      rintro e w2 ⟨rfl, hb2⟩
      dsimp only
      have hB2 := bstep hb1 hb2
      obtain ⟨kc, kf⟩ := bcell hB2
      have d0 := (kf _ 0 hg).trans hf0
      have d1 := (kf _ 1 hg).trans hf1
      have d2 := (kf _ 2 hg).trans hf2
      have e0 := (kc _ 0 hg).trans c0
      have e1 := (kc _ 1 hg).trans c1
      have e2 := (kc _ 2 hg).trans h2
      clear kc kf c0 c1 h2 hf0 hf1 hf2 hb1 hb2 HX
      go_wp2_with fail
      refine bodyPost_ret (v := .tuple #[.int .i64 (V x), .bool true]) (by simp [results, Tryz.results135, go_sem]) rfl ⟨?_, ?_, ?_⟩
      · rw [f1.out, f2.out, hB]; rfl
      · rw [f3.out, hB]; exact (Hr.out.below hB2).next HM.out r m rfl hrl HI.out
      · exact (ButO.of hB2).trans ((ButO.set _).trans ((ButO.set _).trans (ButO.set _)))
end Go.Proofs.YtenakehnnmencagGreatDoor

/- ask.taken at slots: the next slot. -/
namespace Go.Proofs.YtenakehnnmencagGreatDoor
open Go Go.RowKit Go.Proofs Go.Maps
set_option synthInstance.maxSize 1000

theorem ButO.put {g b o : Nat} {w W : World} (h : ButO g w W) (hb : w.heap.size ≤ b) (v : Value) : ButO g w (W.setCell ⟨b, o, none⟩ v) := by
  have k := (RowKit.Below.refl 0 W).setCell (p := ⟨b, o, none⟩) (Nat.zero_le _) v
  refine ⟨k.os.trans h.os, k.tape.trans h.tape, k.output.trans h.output, Nat.le_trans h.size k.size, fun j hj hg => ?_⟩
  rw [RowKit.Below.heap_setCell W ⟨b, o, none⟩ v j (fun e => by have : j = b := e; omega)]
  exact h.block j hj hg
theorem ButO.new {g : Nat} {w W : World} (h : ButO g w W) (o : Obj) : ButO g w (W.alloc o) := h.trans (ButO.of (balloc W o))
theorem entersRS' : ∀ args w, (callFunc 168 args).run Tryz.prog w = .ok (.enter 168 args) w := enters_of Tryz.func168 (by kernel_rfl) rfl
set_option maxHeartbeats 4000000 in
set_option maxRecDepth 100000 in
theorem takenL_any (g : Nat) (M : List (List UInt8)) (N : Nat) (w : World) (h : RdO w g M N) :
    Calls Tryz.prog 167 #[.pointer (some ⟨g, 0, none⟩), .func (.func 168) #[] #[]] w fun e w' => e = .returned (.tuple #[valSl (tkV ([], tmZero) slotW slotB M), .bool (tkB slotB M)]) ∧ RdO w' g (tkM slotB M) N ∧ ButO g w w' := by
  obtain ⟨w0, hw0⟩ : ∃ w0, w0 = (w.alloc (.cells #[.string ⟨#[]⟩, .int .i64 0, .string ⟨#[]⟩, .string ⟨#[]⟩] 106)).alloc (.cells #[.string ⟨#[]⟩, .int .i64 0, .string ⟨#[]⟩, .string ⟨#[]⟩] 106) := ⟨_, rfl⟩
  have hb0 : RowKit.Below w.heap.size w w0 := by rw [hw0]; exact bnew (balloc _ _) _
  have hz0 : w0.heap.size = w.heap.size + 2 := by rw [hw0]; simp
  have r0 : w0.cell? ⟨w.heap.size, 0, none⟩ = some (.string ⟨#[]⟩) ∧ w0.cell? ⟨w.heap.size, 1, none⟩ = some (.int .i64 0) ∧ w0.cell? ⟨w.heap.size, 2, none⟩ = some (.string ⟨#[]⟩) ∧ w0.cell? ⟨w.heap.size, 3, none⟩ = some (.string ⟨#[]⟩) := by rw [hw0]; refine ⟨?_, ?_, ?_, ?_⟩ <;> go_simp
  have n0 : w0.cell? ⟨w.heap.size + 1, 0, none⟩ = some (.string ⟨#[]⟩) ∧ w0.cell? ⟨w.heap.size + 1, 1, none⟩ = some (.int .i64 0) ∧ w0.cell? ⟨w.heap.size + 1, 2, none⟩ = some (.string ⟨#[]⟩) ∧ w0.cell? ⟨w.heap.size + 1, 3, none⟩ = some (.string ⟨#[]⟩) := by rw [hw0]; refine ⟨?_, ?_, ?_, ?_⟩ <;> go_simp
  have p0 : w0.frozen? ⟨w.heap.size, 0, none⟩ = false ∧ w0.frozen? ⟨w.heap.size, 1, none⟩ = false ∧ w0.frozen? ⟨w.heap.size, 2, none⟩ = false ∧ w0.frozen? ⟨w.heap.size, 3, none⟩ = false := by rw [hw0]; refine ⟨?_, ?_, ?_, ?_⟩ <;> go_simp
  have h0 := h.below hb0
  have hg : g < w.heap.size := h.lt
  have hg0 : g < w0.heap.size := by omega
  have Hr := hideK h0
  have HW := hideK hw0
  have HR : Hid (∀ (W : World) (x : List UInt8), x.length ≤ 100000000 → Calls Tryz.prog 168 #[.string ⟨x.toArray⟩] W fun e w' => e = .returned (.tuple #[valSl (slotW x), .bool (slotB x)]) ∧ RowKit.Below W.heap.size W w') := fun W x hx => readSlot_any x W hx
  have eg := entersRS'
  clear hw0 h
  rcases h0.some with ⟨rfl, c1⟩ | ⟨rest, c0, c1, hM, hlen⟩
  · clear h0 HR
    obtain ⟨a0, a1, a2, a3⟩ := r0
    obtain ⟨b0, b1, b2, b3⟩ := n0
    obtain ⟨f0, f1, f2, f3⟩ := p0
    have hzz : w.heap.size < w0.heap.size := by omega
    go_enter Tryz.func167, Tryz.ntmps167
    go_upto_region 2 with fail
    rw [← HW.out]
    go_wp2_with fail
    have hB := (((hb0.setCell (p := ⟨w.heap.size, 0, none⟩) (Nat.le_refl _) (.string ⟨#[]⟩)).setCell (p := ⟨w.heap.size, 1, none⟩) (Nat.le_refl _) (.int .i64 0)).setCell (p := ⟨w.heap.size, 2, none⟩) (Nat.le_refl _) (.string ⟨#[]⟩)).setCell (p := ⟨w.heap.size, 3, none⟩) (Nat.le_refl _) (.string ⟨#[]⟩)
    refine bodyPost_ret (v := .tuple #[.agg #[.string ⟨#[]⟩, .int .i64 0, .string ⟨#[]⟩, .string ⟨#[]⟩], .bool false]) (by simp [results, Tryz.results167, go_sem, a0, a1, a2, a3]) rfl ⟨rfl, ?_, ButO.of hB⟩
    exact (Hr.out.keep (by rw [heapO_other _ _ _ _ _ (by omega), heapO_other _ _ _ _ _ (by omega), heapO_other _ _ _ _ _ (by omega), heapO_other _ _ _ _ _ (by omega)]))
  · obtain ⟨x, r, m, HC, hw, hx, hrl⟩ := CutAny rest hlen
    rw [hw] at hM
    have HM := hideK hM
    have f1 : Hid (tkV ([], tmZero) slotW slotB M = if slotB x = true then slotW x else ([], tmZero)) := by show _ = _; rw [hM]; rfl
    have f2 : Hid (tkB slotB M = slotB x) := by show _ = _; rw [hM]; rfl
    have f3 : Hid (tkM slotB M = if slotB x = true then (if m = true then wordsL r else []) else M) := by show _ = _; unfold tkM; rw [f2.out, hM]; rfl
    have h2 := h0.c2
    have hf0 := h0.f0
    have hf1 := h0.f1
    have hf2 := h0.f2
    have hN := h0.few
    generalize tkV ([], tmZero) slotW slotB M = TV at *
    generalize tkB slotB M = TB at *
    generalize tkM slotB M = TM at *
    have wr : IntKind.i64.wrap (((N - M.length : Nat) : Int) + 1) = ((N - M.length + 1 : Nat) : Int) := by
      generalize hi : N - M.length = i
      have : i ≤ 100000001 := by omega
      simp [IntKind.wrap, IntKind.bits, IntKind.signed]; omega
    generalize hI : N - M.length = I at *
    have HI := hideK hI
    clear h0 hw hM hI hN
    go_enter Tryz.func167, Tryz.ntmps167
    go_upto_region 2 with fail
    rw [← HW.out]
    go_wp2_with fail
    refine (HC _).mono ?_
    rintro e w1 ⟨rfl, hb1⟩
    dsimp only
    have HX := HR.out w1 x hx
    clear HC HR
    generalize hB : slotB x = B at *
    generalize slotW x = S at *
    have HB := hideK hB
    clear hB
    unfold valSl at HX
    go_wp2_with fail
    refine HX.mono ?_
    rintro e w2 ⟨rfl, hb2⟩
    dsimp only
    have hB2 := bstep hb1 hb2
    obtain ⟨kc, kf⟩ := bcell hB2
    have d0 := (kf _ 0 hg0).trans hf0
    have d1 := (kf _ 1 hg0).trans hf1
    have d2 := (kf _ 2 hg0).trans hf2
    have e0 := (kc _ 0 hg0).trans c0
    have e1 := (kc _ 1 hg0).trans c1
    have e2 := (kc _ 2 hg0).trans h2
    have zr : w.heap.size < w0.heap.size := by omega
    have zn : w.heap.size + 1 < w0.heap.size := by omega
    obtain ⟨a0, a1, a2, a3⟩ := r0
    obtain ⟨b0, b1, b2, b3⟩ := n0
    obtain ⟨q0, q1, q2, q3⟩ := p0
    have A0 := (kc _ 0 zr).trans a0
    have A1 := (kc _ 1 zr).trans a1
    have A2 := (kc _ 2 zr).trans a2
    have A3 := (kc _ 3 zr).trans a3
    have N0 := (kc _ 0 zn).trans b0
    have N1 := (kc _ 1 zn).trans b1
    have N2 := (kc _ 2 zn).trans b2
    have N3 := (kc _ 3 zn).trans b3
    have Q0 := (kf _ 0 zr).trans q0
    have Q1 := (kf _ 1 zr).trans q1
    have Q2 := (kf _ 2 zr).trans q2
    have Q3 := (kf _ 3 zr).trans q3
    have hz2 : w0.heap.size ≤ w2.heap.size := hB2.size
    have y1 : w.heap.size ≠ g := by omega
    have y2 : g ≠ w.heap.size := by omega
    have y3 : w2.heap.size ≠ g := by omega
    have y4 : w2.heap.size ≠ w.heap.size := by omega
    have y5 : w2.heap.size ≠ w.heap.size + 1 := by omega
    have y6 : g < w2.heap.size := by omega
    have y7 : w.heap.size < w2.heap.size := by omega
    have y8 : w.heap.size + 1 < w2.heap.size := by omega
    have BW := hideK (ButO.of (g := g) (bstep hb0 hB2))
    have HR2 := hideK (Hr.out.below hB2)
    clear kc kf c0 c1 h2 hf0 hf1 hf2 hb1 hb2 HX a0 a1 a2 a3 b0 b1 b2 b3 q0 q1 q2 q3 hB2 Hr HW eg zr zn
    cases B
    · go_wp2_with fail
      refine bodyPost_ret (v := .tuple #[.agg #[.string ⟨#[]⟩, .int .i64 0, .string ⟨#[]⟩, .string ⟨#[]⟩], .bool false]) (by simp [results, Tryz.results167, go_sem, A0, A1, A2, A3, y7]) rfl ⟨?_, ?_, ?_⟩
      · rw [f1.out, f2.out]; rfl
      · rw [f3.out]
        exact (HR2.out.keep (by rw [heapO_other _ _ _ _ _ (by omega), heapO_other _ _ _ _ _ (by omega), heapO_other _ _ _ _ _ (by omega), heapO_other _ _ _ _ _ (by omega)])).below (balloc _ _)
      · exact ((((BW.out.put (Nat.le_refl _) _).put (Nat.le_refl _) _).put (Nat.le_refl _) _).put (Nat.le_refl _) _).new _
    · go_wp2_with fail
      have HN := hideK (HR2.out.next HM.out r m rfl hrl HI.out)
      have BN : Hid (ButO g w _) := ((BW.out.trans ((ButO.set (o := 0) (.string ⟨r.toArray⟩)).trans ((ButO.set (o := 1) (.bool m)).trans (ButO.set (o := 2) (.int .i64 ((I + 1 : Nat) : Int)))))))
      refine bodyPost_ret (v := .tuple #[.agg #[.string ⟨S.1.toArray⟩, .int .i64 S.2.1, .string ⟨S.2.2.1.toArray⟩, .string ⟨S.2.2.2.toArray⟩], .bool true]) (by simp [results, Tryz.results167, go_sem, A0, A1, A2, A3, y7]) rfl ⟨?_, ?_, ?_⟩
      · rw [f1.out, f2.out]; rfl
      · rw [f3.out]
        exact (HN.out.keep (by rw [heapO_other _ _ _ _ _ (by omega), heapO_other _ _ _ _ _ (by omega), heapO_other _ _ _ _ _ (by omega), heapO_other _ _ _ _ _ (by omega)]; rfl)).below (balloc _ _)
      · exact ((((ButO.put BN.out (Nat.le_refl _) _).put (Nat.le_refl _) _).put (Nat.le_refl _) _).put (Nat.le_refl _) _).new _
end Go.Proofs.YtenakehnnmencagGreatDoor

/- reader.is: the next word is taken, if it is this one; what readers of words tell. -/
namespace Go.Proofs.YtenakehnnmencagGreatDoor
open Go Go.RowKit Go.Proofs Go.Maps
set_option synthInstance.maxSize 1000

theorem isL_any (want x : List UInt8) (b : Nat) (W : World) (hb : W.cell? ⟨b, 0, none⟩ = some (.string ⟨want.toArray⟩)) :
    Calls Tryz.prog 163 #[.string ⟨x.toArray⟩, .pointer (some ⟨b, 0, none⟩)] W fun e w' => e = .returned (.tuple #[.string ⟨#[]⟩, .bool (decide (x = want))]) ∧ RowKit.Below W.heap.size W w' := by
  have ex : Hid ((x == want) = decide (x = want)) := by show _ = _; rw [Bool.eq_iff_iff]; simp
  go_enter Tryz.func163, Tryz.ntmps163
  go_wp2_with fail
  go_region
  go_wp2_with fail
  exact bodyPost_ret (v := .tuple #[.string ⟨#[]⟩, .bool (x == want)]) (by simp [results, Tryz.results163, go_sem]) rfl ⟨by rw [ex.out], (RowKit.Below.refl _ _).drew⟩
theorem entersIs : ∀ args w, (callFunc 163 args).run Tryz.prog w = .ok (.enter 163 args) w := enters_of Tryz.func163 (by kernel_rfl) rfl
theorem entersRV : ∀ args w, (callFunc 133 args).run Tryz.prog w = .ok (.enter 133 args) w := enters_of Tryz.func133 (by kernel_rfl) rfl
theorem tk_is (want : List UInt8) (M : List (List UInt8)) : tkB (fun x => decide (x = want)) M = isW (M, false) want ∧ tkM (fun x => decide (x = want)) M = (hasW (M, false) want).1 := by
  have h : tkB (fun x => decide (x = want)) M = isW (M, false) want := by
    cases M with
    | nil => rfl
    | cons x r => simp [tkB, isW]
  refine ⟨h, ?_⟩
  unfold tkM hasW
  rw [h]
  split <;> rfl
set_option maxHeartbeats 1000000 in
theorem is_own (want : List UInt8) (g : Nat) (M : List (List UInt8)) (N : Nat) (w : World) (h : RdO w g M N) :
    Calls Tryz.prog 131 #[.pointer (some ⟨g, 0, none⟩), .string ⟨want.toArray⟩] w fun e w' => e = .returned (.bool (isW (M, false) want)) ∧ RdO w' g (hasW (M, false) want).1 N ∧ ButO g w w' := by
  obtain ⟨w1, hw1⟩ : ∃ w1, w1 = w.alloc (.cells #[.string ⟨want.toArray⟩] 9) := ⟨_, rfl⟩
  have hb1 : RowKit.Below w.heap.size w w1 := by rw [hw1]; exact balloc _ _
  have hc : w1.cell? ⟨w.heap.size, 0, none⟩ = some (.string ⟨want.toArray⟩) := by rw [hw1]; go_simp
  have H := takenS_any 163 #[.pointer (some ⟨w.heap.size, 0, none⟩)] (fun _ => []) (fun x => decide (x = want)) g M N w1 (h.below hb1) entersIs (fun W x _ hW => isL_any want x w.heap.size W ((hW.cell (World.block_lt_of_cell? w1 _ hc)).trans hc))
  rw [(tk_is want M).1, (tk_is want M).2] at H
  generalize isW (M, false) want = d at *
  generalize (hasW (M, false) want).1 = R at *
  generalize tkV [] (fun _ => ([] : List UInt8)) (fun x => decide (x = want)) M = V at *
  have HW := hideK hw1
  clear hw1 hc h
  go_enter Tryz.func131, Tryz.ntmps131
  go_wp2_with fail
  rw [← HW.out]
  refine H.mono ?_
  rintro e w2 ⟨rfl, hr, hb⟩
  dsimp only
  go_wp2_with fail
  go_ret
  exact ⟨rfl, hr, (ButO.of hb1).trans hb⟩
/-- the next variable -/
theorem var_own (g : Nat) (M : List (List UInt8)) (N : Nat) (w : World) (h : RdO w g M N) :
    Calls Tryz.prog 132 #[.pointer (some ⟨g, 0, none⟩), .func (.func 133) #[] #[]] w fun e w' => e = .returned (.tuple #[.string ⟨(tkV [] nameV varW M).toArray⟩, .bool (tkB varW M)]) ∧ RdO w' g (tkM varW M) N ∧ ButO g w w' :=
  takenS_any 133 #[] nameV varW g M N w h entersRV (fun W x hx _ => readVar_any x W hx)
end Go.Proofs.YtenakehnnmencagGreatDoor
