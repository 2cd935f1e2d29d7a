/- stratalaw1.DictPlays: the walk. -/
import Derived.Test.YtkeholipklfnbacDoorPlaysA
namespace Go.Proofs.YtkeholipklfnbacDoor
open Go Go.RowKit Go.Proofs Go.Maps
set_option synthInstance.maxSize 1000

set_option maxHeartbeats 32000000 in
set_option maxRecDepth 1000000 in
theorem plays_any (ad bd cd : Option Addr) (ca cb cc : Nat) (ts : List Tm) (l : List Tr) (Q : List (List Int)) (w : World) (hg : errVar w) (ht : SlM w ad ts) (hl : SlT w bd l) (hq : AskAt w cd Q)
    (ft : ∀ x ∈ ts, wfTm x) (fl : ∀ x ∈ l, wfTr x) (fq : ∀ q ∈ Q, ∀ n ∈ q, (Lit.int .i64 n).wf = true) (nq : ∀ q ∈ Q, q.length ≤ maxLen) :
    Calls Tryd.prog 3 #[.slice ad ts.length ca, .slice bd l.length cb, .slice cd Q.length cc] w fun e w' => e = .returned (.bool true) ∧ RowKit.Below w.heap.size w w' := by
  have Hargs : Hid (errVar w ∧ SlM w ad ts ∧ SlT w bd l ∧ AskAt w cd Q) := ⟨hg, ht, hl, hq⟩
  have Hwf : Hid ((∀ x ∈ ts, wfTm x) ∧ (∀ x ∈ l, wfTr x) ∧ (∀ q ∈ Q, ∀ n ∈ q, (Lit.int .i64 n).wf = true) ∧ (∀ q ∈ Q, q.length ≤ maxLen)) := ⟨ft, fl, fq, nq⟩
  clear hg ht hl hq ft fl fq nq
  go_enter Tryd.func3, Tryd.ntmps3
  go_wp2_with fail
  refine (New_any _).mono ?_
  rintro e w1 ⟨rfl, hD1, hz1, hb1⟩
  have H0 : Hid (PlaySt w w.heap.size (4 * 0) (.slice none 0 0) w1) := ⟨[], hD1, goodL_nil, by simp, World.ownsRow_nil _ _ _ _, hb1⟩
  clear hD1 hb1 hz1
  go_wp2_with fail
  go_loopw [8, 9] (fun v i W => ∃ k : Nat, k ≤ ts.length ∧ k ≤ 40 ∧ i = .int .i64 k ∧ Hid (PlaySt w w.heap.size (4 * k) v W)) (fun v i W => 40 - (intOf i).toNat)
  case atStart => exact ⟨0, Nat.zero_le _, by omega, rfl, H0⟩
  case round =>
    obtain ⟨k, hk, hk2, rfl, hst⟩ := hrel
    clear H0
    by_cases h1 : k < ts.length
    · by_cases h2 : k < 40
      · obtain ⟨L, hD, hG, hLk, ho, hb⟩ := hst.out
        obtain ⟨av, cv, e, _⟩ := own_slM ho
        subst e
        have Hh := hide2 (show Hold w w.heap.size (.slice av L.length cv) L wr from ⟨hD, ho, hb⟩)
        have HG := hide2 hG
        have i1 : (k : Int) < (ts.length : Int) := by omega
        have i2 : (k : Int) < 40 := by omega
        clear hst hD hG ho hb
        go_upto_block 1 with fail
        refine wp_block ?_
        refine roundA _ _ _ _ _ _ _ _ _ _ _ _ _ _ _ _ _ _ _ _ _ _ _ _ _ _ _ _ _ _ _ _ _ _ _ _ _ _ _ _ _ _ _ _ _ _ _ _ _ _ _ _ _ _ _ _ _ _ _ _ _ _ _ _ _ _ _ _ _ _ _ _ _ _ _ _ _ _ _ _ _ _ _ _ _ _ _ _ _ _ _ _ _ _ _ _ _ _ _ _ _ _ _ _ _ _ _ _ _ _ _ _ _ _ _ _ _ _ _ _ _ _ _ _ _ _ _ _ _ _ _ _ _ _ _ _ _ _ _ _ _ _ _ _ _ _ _ _ _ _ _ _ _ _ _ _ _ _ _ _ _ _ _ _ _ _ _ _ _ _ _ _ _ _ _ _ _ _ _ _ _ _ _ _ _ _ _ _ _ _ _ _ _ _ _ _ _ _ _ _ _ _ _ _ _ _ _ _ _ _ _ _ _ _ _ _ _ _ _ _ _ _ _ _ _ _ _ _ _ _ _ _ _ _ _ _ _ _ _ _ _ _ _ _ _ _ _ _ _ _ _ _ _ _ _ _ _ _ _ _ _ _ _ _ _ _ _ _ _ _ _ _ _ _ ad bd cd av ca cb cc cv k w.heap.size (4 * k) ts l Q L w wr Hargs.out.1 Hargs.out.2.1 Hwf.out.1 Hargs.out.2.2.1 Hwf.out.2.1 Hargs.out.2.2.2 Hwf.out.2.2.1 Hwf.out.2.2.2 h1 (Nat.le_refl _) (by omega) HG.out hLk Hh.out ?_
        intro x6 x10 x11 x12 x13 x14 x15 x16 x17 x18 x19 x20 x21 x22 x23 x24 x25 x26 x27 x29 x30 x31 x32 x33 x34 x35 x36 x37 x38 x39 x40 x41 x42 x43 x44 x45 x46 x47 x48 x49 x50 x51 x52 x53 x54 x55 x56 x57 x58 x59 x60 x61 x62 x63 x64 x65 x66 x67 x68 x69 x70 x71 x72 x73 x74 x75 x76 x77 x78 x79 x80 x81 x82 x83 x84 x85 x86 x87 x88 x89 x90 x91 x92 x93 x94 x95 x96 x97 x98 x99 x100 x101 x102 x103 x104 x105 x106 x107 x108 x109 x110 x111 x112 x113 x114 x115 x116 x117 x118 x119 x120 x121 x122 x123 x124 x125 x126 x127 x128 x129 x130 x131 x132 x133 x134 x135 x136 x137 x138 x139 x140 x141 x142 x143 x144 x145 x146 x147 x148 x149 x150 x151 x152 x153 x154 x155 x156 x157 x158 x159 x160 x161 x162 x163 x164 x165 x166 x167 x168 x169 x170 x171 x172 x173 x174 x175 x176 x177 x178 x179 x180 x181 x182 x183 x184 x185 x186 x187 x188 x189 x190 x191 x192 x193 x194 x195 x196 x197 x198 x199 x200 x201 x202 x203 x204 x205 x206 x207 x208 x209 x210 x211 x212 x213 x214 x215 x216 x217 x218 x219 x220 x221 x222 x223 x224 x225 x226 x227 x228 x229 x230 x231 x232 x233 x234 x235 x236 x237 x238 x239 x240 x241 x242 x243 x244 x245 x246 x247 x248 x249 x250 x251 x252 x253 x254 x255 x256 x257 x258 x259 x260 x261 x262 x263 x264 x265 x266 x267 x268 x269 x270 x271 x272 x273 x274 x275 x276 x277 x278 vv W' hp
        have hp2 : Hid (PlaySt w w.heap.size (4 * (k + 1)) vv W') := hp
        clear hp Hh HG
        go_wp2_with fail
        go_roundw
        case rel =>
          exact ⟨k + 1, by omega, by omega, by go_num, hp2⟩
        case measure => simp [intOf]; omega
      · obtain rfl : k = 40 := by omega
        have i1 : ((40 : Nat) : Int) < (ts.length : Int) := by omega
        go_wp2_with fail
        go_ret
        exact ⟨rfl, hst.out.choose_spec.2.2.2.2⟩
    · obtain rfl : k = ts.length := by omega
      go_wp2_with fail
      go_ret
      exact ⟨rfl, hst.out.choose_spec.2.2.2.2⟩
end Go.Proofs.YtkeholipklfnbacDoor
