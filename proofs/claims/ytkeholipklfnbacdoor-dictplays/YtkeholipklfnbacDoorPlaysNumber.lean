/- stratalaw1's number: a list in which a term has one, and that; the list that was handed in stays. -/
import Derived.Test.YtkeholipklfnbacDoorDictAdd
import Derived.Test.YtkeholipklfnbacDoorRefTerm
import Derived.OwnWalk
import Derived.Deep.RegionHeld3
import Derived.Deep.AppendLies
namespace Go.Proofs.YtkeholipklfnbacDoor
open Go Go.RowKit Go.Proofs Go.Maps
set_option synthInstance.maxSize 1000

theorem encTm_flat (L : List Tm) (x : Tm) : cellsM (L ++ [x]) = cellsM L ++ encTm x := by simp [cellsM]
theorem infoTm : (Tryd.prog.info? 29).map (fun i => (i.zero, i.size, i.bytes)) = some (some (.agg #[.int .i64 0, .string ⟨#[]⟩, .string ⟨#[]⟩]), 3, 40) := by kernel_rfl

/-- a slice that owns its row -/
theorem own_slM {W : World} {base : Nat} {e : TypeId} {v : Value} {t : List Tm} (h : W.ownsRow base e 3 v t.length (cellsM t)) : ∃ ad cap, v = .slice ad t.length cap ∧ SlM W ad t := by
  have h' := h
  rcases h.2 with ⟨rfl, h0⟩ | ⟨g, cap, cur, rfl, _⟩
  · exact ⟨none, 0, by rw [h0], fun hne => absurd (List.eq_nil_of_length_eq_zero h0) hne⟩
  · refine ⟨some ⟨g, 0, none⟩, cap, rfl, fun _ => ⟨g, 0, rfl, fun j u hj => ?_⟩⟩
    have := h'.cells (g := g) rfl j u hj
    rwa [Addr.add_lit] at this

/-- an append leaves what there was -/
theorem append_two (P : Program) (w : World) (base : Nat) (t ty e : TypeId) (i : TypeInfo) (z : Value) (size bytes : Nat) (ht : P.underlying t = some (.slice e)) (hi : P.info? e = some i) (hz : i.zero = some z)
    (hsize : i.size = size) (hby : i.bytes = bytes) (hzs : z.cells.size = size) (hsz : 0 < size)
    (v : Value) (n : Nat) (xs : List Value) (hown : w.ownsRow base e size v n xs)
    (a : Addr) (c : Nat) (news : List Value) (hl : news.length = 1 * size) (hnews : ∀ j u, news[j]? = some u → w.cell? (a.add j) = some u) (h1 : ∀ u ∈ news, u.oneCell' = true)
    (h63 : n + 1 ≤ maxLen) (hbytes : (n + 1) * bytes ≤ 140737488355328) (hbase : base ≤ w.heap.size) :
    ∃ g c' w', (Builtin.append_ #[t, t] ty #[v, .slice (some a) 1 c]).run P w = .ok (.slice (some ⟨g, 0, none⟩) (n + 1) c') w' ∧ w'.ownsRow base e size (.slice (some ⟨g, 0, none⟩) (n + 1) c') (n + 1) (xs ++ news) ∧ w'.ownsRow base e size v n xs ∧ w.grownBy w' v.ownBlock ∧ (v.ownBlock = some g ∨ g = w.heap.size) := by
  obtain ⟨g0, c0, w', hrun, ho, hg, hat, _⟩ := run_append_lies (P := P) w t ty base e i z size bytes ht hi hz hsize hby hzs hsz v n xs hown a 1 c news hl hnews h1 (by omega) h63 hbytes hbase w.heap.size rfl
  refine ⟨g0, c0, w', hrun, ho, ?_, hg, hat⟩
  have hown' := hown
  obtain ⟨hlen, hcs⟩ := hown
  rcases hcs with ⟨rfl, rfl⟩ | ⟨g, cap, cur, rfl, hbg, hgb, hnc, hcm, hsz2, htk⟩
  · exact ⟨hlen, .inl ⟨rfl, rfl⟩⟩
  · by_cases hroom : n + 1 ≤ cap
    · have hfit : n * i.size + news.length ≤ cur.size := by rw [hl, hsize, hsz2, ← Nat.add_mul]; exact Nat.mul_le_mul_right _ hroom
      have hr := run_append_room (P := P) w t ty e i ht hi g n cap cur hgb a 1 c news (by rw [hsize]; exact hl) hnews h1 hroom hfit
      rw [hr] at hrun
      have hrun2 := (Result.ok.inj hrun).2
      subst hrun2
      refine ⟨hlen, .inr ⟨g, cap, _, rfl, hbg, setRow_heap w g cur _ e _ hgb, hnc, hcm, ?_, ?_⟩⟩
      · simp only [List.size_toArray, List.length_append, List.length_take, List.length_drop, Array.length_toList]
        omega
      · subst hsize
        rw [htk, ← hlen, List.append_assoc]
        exact List.take_left
    · have hr := run_append_grow (P := P) w t ty e i z ht hi hz ⟨g, 0, none⟩ n cap xs (by rw [hsize]; exact hlen) (hown'.cells (g := g) rfl) a 1 c news (by rw [hsize]; exact hl) hnews (by omega) (by unfold maxLen at h63; omega) (growslice_fits (by omega) (by rw [hby]; exact hbytes))
      rw [hr] at hrun
      have hrun2 := (Result.ok.inj hrun).2
      subst hrun2
      exact (hown'.drew).alloc _

theorem wpList_append_eq {P : Program} {w w' : World} {ops : Array Oper} {rest : List Oper} {o : Oper} {a : Act} {Q : Exit → Act → World → Prop} {v x y : Value} (hgd : o.guard = none) (s z : Operand) (t : TypeId)
    (ho : o.op = .call { callee := .builtin .append, args := #[s, z], argTypes := #[t, t] }) (hs : a.eval s = x) (hx : a.eval z = y) (hrun : (Builtin.append_ #[t, t] o.type #[x, y]).run P w = .ok v w')
    (h : wpList P ops Q rest (a.put o.dst v) w') : wpList P ops Q (o :: rest) a w := by
  refine wpList_plain hgd fun K hK => ?_
  unfold Oper.wp
  simp [execOp, ho, resolve, invoke, builtin, hs, hx, hrun, Result.andThen]
  exact hK _ _ h

theorem keep6 {W W' : World} {p0 p1 p2 p3 p4 p5 : Addr} {v0 v1 v2 v3 v4 v5 : Value}
    (h : W.cell? p0 = some v0 ∧ W.cell? p1 = some v1 ∧ W.cell? p2 = some v2 ∧ W.cell? p3 = some v3 ∧ W.cell? p4 = some v4 ∧ W.cell? p5 = some v5) (hb : RowKit.Below W.heap.size W W') : W'.cell? p0 = some v0 ∧ W'.cell? p1 = some v1 ∧ W'.cell? p2 = some v2 ∧ W'.cell? p3 = some v3 ∧ W'.cell? p4 = some v4 ∧ W'.cell? p5 = some v5 := by
  have q : ∀ (p : Addr) (v : Value), W.cell? p = some v → W'.cell? p = some v := fun p v hv => (hb.cell (World.block_lt_of_cell? W p hv)).trans hv
  obtain ⟨h0, h1, h2, h3, h4, h5⟩ := h
  exact ⟨q _ _ h0, q _ _ h1, q _ _ h2, q _ _ h3, q _ _ h4, q _ _ h5⟩

theorem hideT2 {p : Prop} (h : p) : Hid p := h
theorem ownsM_below {W W' : World} {base : Nat} {e : TypeId} {sz : Nat} {v : Value} {n : Nat} {cs : List Value} (h : W.ownsRow base e sz v n cs) (hb : RowKit.Below W.heap.size W W') : W'.ownsRow base e sz v n cs :=
  h.kept (row := none) ⟨hb.os, hb.tape, hb.output, hb.size, fun i hi _ => hb.block i hi⟩ (Classical.em _)
theorem id_first {L : List Tm} {x : Tm} {k : Nat} (hk : k < L.length) (hn : x ∉ L.take k) (he : L[k] = x) : addL L x = L ∧ idN L x = k + 1 := by
  have hm : x ∈ L := he ▸ List.getElem_mem hk
  refine ⟨if_pos hm, ?_⟩
  have e : L = L.take k ++ (x :: L.drop (k + 1)) := by rw [← he]; simp
  unfold idN
  rw [if_pos hm]
  conv => lhs; rw [e]
  rw [List.idxOf_append, if_neg hn]
  simp
  omega

set_option maxHeartbeats 4000000 in
set_option maxRecDepth 100000 in
theorem num_any (base : Nat) (L : List Tm) (v : Value) (x : Tm) (w : World) (h : w.ownsRow base 29 3 v L.length (cellsM L)) (hb : base ≤ w.heap.size) (hL : L.length ≤ 1000) :
    Calls Tryd.prog 6 #[v, valTm x] w fun e w' => ∃ v', e = .returned (.tuple #[v', .int .i64 (idN (addL L x) x)]) ∧ w'.ownsRow base 29 3 v' (addL L x).length (cellsM (addL L x)) ∧ w'.ownsRow base 29 3 v L.length (cellsM L) ∧ w.grownBy w' v.ownBlock ∧ (∀ g, v'.ownBlock = some g → v.ownBlock = some g ∨ w.heap.size ≤ g) := by
  have Ho := h
  obtain ⟨ad, cap, rfl, hsl⟩ := own_slM h
  have Hsl : Hid (SlM w ad L) := hsl
  have HO : Hid (w.ownsRow base 29 3 (.slice ad L.length cap) L.length (cellsM L)) := Ho
  clear h hsl Ho
  unfold valTm
  go_enter Tryd.func6, Tryd.ntmps6
  go_wp2_with fail
  go_loopw [6] (fun i wr => ∃ k : Nat, k ≤ L.length ∧ i = .int .i64 k ∧ Hid (x ∉ L.take k) ∧ RowKit.Below (w.alloc (.cells #[.int .i64 x.1, .string ⟨x.2.1.toArray⟩, .string ⟨x.2.2.toArray⟩] 29)).heap.size (w.alloc (.cells #[.int .i64 x.1, .string ⟨x.2.1.toArray⟩, .string ⟨x.2.2.toArray⟩] 29)) wr) (fun i wr => L.length - (intOf i).toNat)
  case atStart => exact ⟨0, Nat.zero_le _, rfl, by show x ∉ _; simp, RowKit.Below.refl _ _⟩
  case round =>
    obtain ⟨k, hk, rfl, hnot, hbr⟩ := hrel
    obtain ⟨kc, _⟩ := bcell hbr
    have b0 : wr.cell? ⟨w.heap.size, 0, none⟩ = some (.int .i64 x.1) := (kc _ 0 (by simp)).trans (by go_simp)
    have b1 : wr.cell? ⟨w.heap.size, 1, none⟩ = some (.string ⟨x.2.1.toArray⟩) := (kc _ 1 (by simp)).trans (by go_simp)
    have b2 : wr.cell? ⟨w.heap.size, 2, none⟩ = some (.string ⟨x.2.2.toArray⟩) := (kc _ 2 (by simp)).trans (by go_simp)
    have hzw : w.heap.size < wr.heap.size := World.block_lt_of_cell? wr _ b0
    have hB := bstep (balloc _ _) hbr
    clear kc
    by_cases hlt : k < L.length
    · obtain ⟨b, o, rfl, hr⟩ := (Hsl.out.below hB).at k hlt
      obtain ⟨c0, c1, c2⟩ := hr.at k hlt
      have i0 : (0 : Int) ≤ (k : Int) := by omega
      have i1 : (k : Int) < (L.length : Int) := by omega
      have HC := fun W => RCompare_any L[k].1 L[k].2.1 L[k].2.2 x.1 x.2.1 x.2.2 W
      have hcz := cmpT_zero L[k].1 L[k].2.1 L[k].2.2 x.1 x.2.1 x.2.2
      have hfst := hideT2 (fun h1 => @id_first L x k hlt hnot.out h1)
      have htk := hideT2 (show L.take (k + 1) = L.take k ++ [L[k]] from List.take_succ_eq_append_getElem hlt)
      clear hr
      generalize L[k] = y at *
      generalize cmpT y.1 y.2.1 y.2.2 x.1 x.2.1 x.2.2 = m at *
      cases hm : (m == 0)
      · have hne : y ≠ x := fun e => by subst e; simp [hcz.2 ⟨rfl, rfl, rfl⟩] at hm
        have hnew : Hid (x ∉ L.take (k + 1)) := by
          show x ∉ _
          rw [htk.out]
          simp only [List.mem_append, List.mem_singleton, not_or]
          exact ⟨hnot.out, fun e => hne e.symm⟩
        clear hcz hfst htk hne
        go_wp2_with fail
        go_region_held3 (fun W => W.cell? ⟨b, o + k * 3, none⟩ = some (.int .i64 y.1) ∧ W.cell? ⟨b, o + k * 3 + 1, none⟩ = some (.string ⟨y.2.1.toArray⟩) ∧ W.cell? ⟨b, o + k * 3 + 2, none⟩ = some (.string ⟨y.2.2.toArray⟩) ∧ W.cell? ⟨w.heap.size, 0, none⟩ = some (.int .i64 x.1) ∧ W.cell? ⟨w.heap.size, 1, none⟩ = some (.string ⟨x.2.1.toArray⟩) ∧ W.cell? ⟨w.heap.size, 2, none⟩ = some (.string ⟨x.2.2.toArray⟩)) (first | exact keep6 (by assumption) hb3 | go_keep) (first
          | (go_at_call 17; refine (HC _).mono ?_; rintro e w3 ⟨rfl, hb3⟩))
        go_wp2_with fail
        go_roundw
        case rel => exact ⟨k + 1, by omega, by go_num, hnew, bstep hbr.drew hb3⟩
        case measure => simp [intOf]; omega
      · have hxy : y = x := by
          obtain ⟨e1, e2, e3⟩ := hcz.1 (by simpa using hm)
          exact Prod.ext e1 (Prod.ext e2 e3)
        obtain ⟨q1, q2⟩ := hfst.out hxy
        have Q1 := hideT2 q1
        have Q2 := hideT2 q2
        clear hcz hfst htk hxy q1 q2
        go_wp2_with fail
        go_region_held3 (fun W => W.cell? ⟨b, o + k * 3, none⟩ = some (.int .i64 y.1) ∧ W.cell? ⟨b, o + k * 3 + 1, none⟩ = some (.string ⟨y.2.1.toArray⟩) ∧ W.cell? ⟨b, o + k * 3 + 2, none⟩ = some (.string ⟨y.2.2.toArray⟩) ∧ W.cell? ⟨w.heap.size, 0, none⟩ = some (.int .i64 x.1) ∧ W.cell? ⟨w.heap.size, 1, none⟩ = some (.string ⟨x.2.1.toArray⟩) ∧ W.cell? ⟨w.heap.size, 2, none⟩ = some (.string ⟨x.2.2.toArray⟩)) (first | exact keep6 (by assumption) hb3 | go_keep) (first
          | (go_at_call 17; refine (HC _).mono ?_; rintro e w3 ⟨rfl, hb3⟩))
        go_wp2_with fail
        have hB3 := bstep hB.drew hb3
        have ho3 := ownsM_below HO.out hB3
        refine bodyPost_ret (v := .tuple #[.slice (some ⟨b, o, none⟩) L.length cap, .int .i64 ((k : Int) + 1)]) (by unfold results; rw [Tryd.results6]; go_simp) rfl ⟨.slice (some ⟨b, o, none⟩) L.length cap, ?_, ?_, ho3, ⟨hB3.os, hB3.tape, hB3.output, hB3.size, fun i hi _ => hB3.block i hi⟩, fun g hg => .inl hg⟩
        · rw [Q1.out, Q2.out]; rfl
        · rw [Q1.out]; exact ho3
    · obtain rfl : k = L.length := by omega
      have hnx : x ∉ L := by have := hnot.out; rwa [List.take_length] at this
      have eA := hideT2 (show addL L x = L ++ [x] from if_neg hnx)
      have eI := hideT2 (show idN (L ++ [x]) x = L.length + 1 by
        unfold idN
        rw [if_pos (by simp), List.idxOf_append, if_neg hnx]
        simp)
      obtain ⟨i, hi, hz⟩ := Option.map_eq_some_iff.1 infoTm
      simp only [Prod.mk.injEq] at hz
      obtain ⟨hz0, hz1, hz2⟩ := hz
      have ho1 := (ownsM_below HO.out hB).alloc (.cells #[.int .i64 x.1, .string ⟨x.2.1.toArray⟩, .string ⟨x.2.2.toArray⟩] 29)
      have hap := fun ty => append_two Tryd.prog (wr.alloc (.cells #[.int .i64 x.1, .string ⟨x.2.1.toArray⟩, .string ⟨x.2.2.toArray⟩] 29)) base 22 ty 29 i _ 3 40 Tryd.underlying22 hi hz0 hz1 hz2 rfl (by decide) _ _ _ ho1 ⟨wr.heap.size, 0, none⟩ 1 (encTm x) rfl (fun j u hj => by
          have h3 : j < 3 := (List.getElem?_eq_some_iff.1 hj).1
          rw [Addr.add_lit]
          rcases (by omega : j = 0 ∨ j = 1 ∨ j = 2) with rfl | rfl | rfl
          all_goals
            simp [encTm] at hj
            subst hj
            go_simp) (fun u hu => encTm_one x u hu) (by unfold maxLen; omega) (by omega) (by simp; have := hB.size; omega)
      have Hap := hideT2 (show ∀ ty, ∃ g' cap' w9, (Builtin.append_ #[22, 22] ty #[.slice ad L.length cap, .slice (some ⟨wr.heap.size, 0, none⟩) 1 1]).run Tryd.prog (wr.alloc (.cells #[.int .i64 x.1, .string ⟨x.2.1.toArray⟩, .string ⟨x.2.2.toArray⟩] 29)) = .ok (.slice (some ⟨g', 0, none⟩) (L.length + 1) cap') w9 ∧ w9.ownsRow base 29 3 (.slice (some ⟨g', 0, none⟩) (L.length + 1) cap') (L ++ [x]).length (cellsM (L ++ [x])) ∧ w9.ownsRow base 29 3 (.slice ad L.length cap) L.length (cellsM L) ∧ w.grownBy w9 (Value.slice ad L.length cap).ownBlock ∧ ((Value.slice ad L.length cap).ownBlock = some g' ∨ w.heap.size ≤ g') from fun ty => by
        obtain ⟨g', cap', w9, hrun, ho', ho, hg, hat⟩ := hap ty
        have hbx := bstep hB (balloc wr (.cells #[.int .i64 x.1, .string ⟨x.2.1.toArray⟩, .string ⟨x.2.2.toArray⟩] 29))
        refine ⟨g', cap', w9, hrun, by rw [encTm_flat, List.length_append]; exact ho', ho, ⟨hg.os.trans hbx.os, hg.tape.trans hbx.tape, hg.output.trans hbx.output, Nat.le_trans hbx.size hg.size, fun i hi hne => (hg.block i (Nat.lt_of_lt_of_le hi hbx.size) hne).trans (hbx.block i hi)⟩, ?_⟩
        rcases hat with h | h
        · exact .inl h
        · exact .inr (by have := hbx.size; omega))
      clear hap ho1 hnx hi hz0 hz1 hz2
      go_wp2_with (first
        | (at_builtin; obtain ⟨g', cap', w9, hrun, ho', ho, hbb, hat⟩ := Hap.out 22; refine wpList_append_eq rfl _ _ 22 rfl rfl rfl hrun ?_))
      refine bodyPost_ret (v := .tuple #[.slice (some ⟨g', 0, none⟩) (L.length + 1) cap', .int .i64 ((L.length : Int) + 1)]) (by unfold results; rw [Tryd.results6]; go_simp) rfl ⟨.slice (some ⟨g', 0, none⟩) (L.length + 1) cap', ?_, ?_, ho, hbb, fun g hg => by
        have : g' = g := by simpa [Value.ownBlock] using hg
        subst this
        exact hat⟩
      · rw [eA.out, eI.out]; rfl
      · rw [eA.out]; exact ho'
end Go.Proofs.YtkeholipklfnbacDoor
