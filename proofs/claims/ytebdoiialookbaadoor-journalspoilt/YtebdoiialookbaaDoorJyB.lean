/- JournalSpoilt: the law. -/
import Derived.Test.YtebdoiialookbaaDoorJyA
namespace Go.Proofs.YtebdoiialookbaaDoor
open Go.RowKit
open JM
set_option maxRecDepth 20000
namespace Dev
theorem and_exM (x : Int) : ∃ r : Nat, bits BinOp.and IntKind.i64 x 2147483647 = (r : Int) ∧ r ≤ 2147483647 := by
  have h : (BitVec.ofInt 64 x &&& 2147483647#64).toNat ≤ 2147483647 := by rw [BitVec.toNat_and]; exact Nat.and_le_right
  refine ⟨(BitVec.ofInt 64 x &&& 2147483647#64).toNat, ?_, h⟩
  unfold bits
  simp only [IntKind.bits]
  show IntKind.i64.wrap ((BitVec.ofInt 64 x &&& 2147483647#64).toNat : Int) = _
  generalize (BitVec.ofInt 64 x &&& 2147483647#64).toNat = r at h
  rw [IntKind.wrap_i64]
  omega
theorem xor_u8 (a b : Nat) (ha : a < 256) (hb : b < 256) : bits BinOp.xor IntKind.u8 (a : Int) (b : Int) = ((a ^^^ b : Nat) : Int) := by
  have h : a ^^^ b < 2 ^ 8 := Nat.xor_lt_two_pow (n := 8) ha hb
  unfold bits
  simp only [IntKind.bits]
  show IntKind.u8.wrap ((BitVec.ofInt 8 (a : Int) ^^^ BitVec.ofInt 8 (b : Int)).toNat : Int) = _
  rw [BitVec.toNat_xor]
  have e : ∀ n : Nat, n < 256 → (BitVec.ofInt 8 (n : Int)).toNat = n := fun n hn => by simp; omega
  rw [e a ha, e b hb]
  generalize a ^^^ b = r at h
  simp [IntKind.wrap, IntKind.bits, IntKind.signed]
  omega
theorem tmod_8L (r L : Nat) : (r : Int).tmod (8 * (L : Int)) = ((r % (8 * L) : Nat) : Int) := by
  rw [Int.tmod_eq_emod_of_nonneg (by omega)]
  simp
theorem shl_u8 : ∀ j : Fin 8, IntKind.u8.wrap ((2 : Int) ^ j.val) = ((2 ^ j.val : Nat) : Int) := by decide +kernel
theorem xor_ne (y j : Nat) : y ^^^ 2 ^ j ≠ y := fun h => by
  have h2 : 2 ^ j = 0 := by
    have : y ^^^ (y ^^^ 2 ^ j) = y ^^^ y := by rw [h]
    rwa [← Nat.xor_assoc, Nat.xor_self, Nat.zero_xor] at this
  have := Nat.two_pow_pos j
  omega
attribute [local go_sem ↓] Go.Proofs.YtebdoiialookbaaDoor.toSlB in
set_option maxRecDepth 100000 in
set_option maxHeartbeats 3200000 in
theorem spoilt_any {us : Value} {ss : List (Bool × List (List Nat))} (W : World) (hS : Ss W us ss) (c : Int) (hT : Tc W) :
    Calls Tryd.prog 3 #[us, .int .i64 c] W fun e w' => e = .returned (.bool true) ∧ Below W.heap.size W w' := by
  obtain ⟨oa, cap, rfl⟩ := hS.sl
  have C1 := grown_any W hS hT
  obtain ⟨r, hr, hr2⟩ := and_exM c
  replace hT := mkHid hT
  clear hS
  go_enter Tryd.func3, Tryd.ntmps3
  go_wp2_with fail
  refine C1.mono ?_
  rintro e w1 ⟨live, gen, first, base, bs, x, cA, t4, t5, rfl, hD, h4, h5, fx, fo, hq⟩
  clear C1
  obtain ⟨g0, g1, e, -⟩ := id hD
  subst e
  obtain ⟨p4, q4, e4⟩ := h4.sl
  obtain ⟨p5, q5, e5⟩ := h5.sl
  subst e4 e5
  obtain ⟨w2, hw2⟩ : ∃ w2, (w1.alloc (.cells (dkA g0 x.1.1.length g1 x.2.1.length) 26)).alloc (.cells (styA live (journalw gen first base bs).length gen first (.slice p4 base.length q4) (.slice p5 bs.length q5)) 30) = w2 := ⟨_, rfl⟩
  obtain ⟨gl, m1, m2, m3, m4, m5⟩ := mt_of hq fx fo hD hw2
  obtain ⟨J, hJ⟩ : ∃ J, journalw gen first base bs = J := ⟨_, rfl⟩
  obtain ⟨Ln, hLn⟩ : ∃ Ln, J.length = Ln := ⟨_, rfl⟩
  have hL0 : 52 ≤ Ln := by have := journalw_len gen first base bs; rw [hJ, hLn] at this; omega
  have hLb : Ln ≤ 4194367 := by rw [← hLn, ← hJ]; exact hq.len
  obtain ⟨m, hm⟩ : ∃ m, r % (8 * Ln) = m := ⟨_, rfl⟩
  have hmL : m < 8 * Ln := by rw [← hm]; exact Nat.mod_lt _ (by omega)
  obtain ⟨q, hqm⟩ : ∃ q, m / 8 = q := ⟨_, rfl⟩
  obtain ⟨j, hjm⟩ : ∃ j, m % 8 = j := ⟨_, rfl⟩
  have hqL : q < Ln := by omega
  have hj8 : j < 8 := by omega
  have hby : Byt J := by rw [← hJ]; exact byt_journalw hq.gb hq.gs
  obtain ⟨y, hy⟩ : ∃ y, J.getD q 0 = y := ⟨_, rfl⟩
  have hy256 : y < 256 := by rw [← hy]; exact getD_lt hby q
  have hj256 : 2 ^ j < 256 := Nat.lt_of_lt_of_le (Nat.pow_lt_pow_right (by decide) hj8) (by decide)
  obtain ⟨sh, hsh⟩ : ∃ sh, 2 ^ j = sh := ⟨_, rfl⟩
  obtain ⟨v, hv⟩ : ∃ v, y ^^^ sh = v := ⟨_, rfl⟩
  have hxr : bits BinOp.xor IntKind.u8 (y : Int) (sh : Int) = (v : Int) := by rw [xor_u8 y sh hy256 (by omega), hv]
  have hv256 : v < 256 := by rw [← hv]; exact Nat.xor_lt_two_pow (n := 8) hy256 (by omega)
  have hvy : v ≠ y := by rw [← hv, ← hsh]; exact xor_ne y j
  rw [hJ] at m1 m2 m3 m5 hw2
  rw [hLn] at m1 m3 m5 hw2
  obtain ⟨v0, v1, l0, l1, MT, hll⟩ := m5 q v hqL hv256
  have hrep := rep_turned hq (q := q) (v := v) (by rw [hJ, hLn]; exact hqL) hv256 (by rw [hJ, hy]; exact hvy) (by rw [hJ]; exact hll)
  unfold dkA styA at hw2
  unfold dkA styA
  rw [hJ, hLn]
  obtain ⟨n0, hn0⟩ : ∃ n0, x.1.1.length = n0 := ⟨_, rfl⟩
  obtain ⟨n1, hn1⟩ : ∃ n1, x.2.1.length = n1 := ⟨_, rfl⟩
  rw [hn0, hn1] at hw2
  rw [hn0, hn1]
  have u0 : w2.cell? ⟨w1.heap.size + 1, 0, none⟩ = some (.int .i64 (live : Int)) := (cell_of_row _ _ _ _ _ _ m3).trans rfl
  have cy : w2.cell? ⟨gl, q, none⟩ = some (.int .u8 (y : Int)) := by
    rw [cell_of_row _ _ _ _ _ _ m2, List.getElem?_toArray, bs_get _ _ (by omega), hy]
  have cf : w2.drew.frozen? ⟨gl, q, none⟩ = false := frozen_of_row w2.drew _ _ _ _ m2
  have hl0 : (0 : Int) ≤ (live : Int) := by omega
  have hl1 : (live : Int) < 2 := by have := hq.lv; omega
  have a1 : IntKind.i64.wrap (8 * (Ln : Int)) = 8 * (Ln : Int) := by rw [IntKind.wrap_i64]; omega
  have a2 : ¬ (8 * (Ln : Int) = 0) := by omega
  have a3 : (r : Int).tmod (8 * (Ln : Int)) = (m : Int) := by rw [tmod_8L, hm]
  have a4 : IntKind.i64.wrap (m : Int) = (m : Int) := by rw [IntKind.wrap_i64]; omega
  have a5 : (m : Int).tdiv 8 = (q : Int) := by rw [Int.tdiv_eq_ediv_of_nonneg (by omega)]; omega
  have a6 : IntKind.i64.wrap (q : Int) = (q : Int) := by rw [IntKind.wrap_i64]; omega
  have a7 : (m : Int).tmod 8 = (j : Int) := by rw [Int.tmod_eq_emod_of_nonneg (by omega)]; omega
  have a8 : IntKind.i64.wrap (j : Int) = (j : Int) := by rw [IntKind.wrap_i64]; omega
  have b1 : (0 : Int) ≤ (q : Int) := by omega
  have b2 : (q : Int) < (Ln : Int) := by omega
  have b3 : (0 : Int) ≤ (j : Int) := by omega
  have b4 : (j : Int) < 8 := by omega
  have hln2 : l0.length ≤ 67108864 ∧ l1.length ≤ 67108864 := by
    have hz : (J.set q v).length = Ln := by rw [List.length_set, hLn]
    rcases hll with ⟨_, e0, e1⟩ | ⟨_, e0, e1⟩
    · rw [e0, e1, hz]; exact ⟨by omega, Nat.zero_le _⟩
    · rw [e0, e1, hz]; exact ⟨Nat.zero_le _, by omega⟩
  have HQ := mkHid (And.intro MT (And.intro m4 (And.intro hrep hln2)))
  replace hm := mkHid hm
  replace hsh := mkHid hsh
  clear hD h4 h5 fx fo hq m2 m3 m4 m5 hn0 hn1 MT hll hrep hJ hLn hqm hjm hby hy hv hvy hln2
  go_upto_region 2 with fail
  try rw [hw2]
  obtain ⟨a, ha⟩ : ∃ a, w1.heap.size = a := ⟨_, rfl⟩
  rw [ha] at HQ u0 m1
  rw [ha]
  clear hw2 ha
  go_upto_region 6 with fail
  have u0d : w2.drew.cell? ⟨a + 1, 0, none⟩ = some (.int .i64 (live : Int)) := u0
  have cyd : w2.drew.cell? ⟨gl, q, none⟩ = some (.int .u8 (y : Int)) := cy
  have eW : w2.drew.setCell ⟨gl, q, none⟩ (.int .u8 (v : Int)) = (w2.setCell ⟨gl, q, none⟩ (.int .u8 (v : Int))).drew := rfl
  rw [eW] at HQ
  have s4 := HQ.out.1.rb
  have s1 : IntKind.u8.wrap (2 ^ j) = (sh : Int) := by rw [← hsh.out]; exact shl_u8 ⟨j, hj8⟩
  go_region
  obtain ⟨w3, hw3⟩ : ∃ w3, (w2.setCell ⟨gl, q, none⟩ (.int .u8 (v : Int))).drew = w3 := ⟨_, rfl⟩
  rw [hw3] at HQ
  rw [hw3]
  clear hw3 eW s4 cyd u0d u0 cy cf m1 hr a1 a2 a3 a4 a7 a8 s1 hxr
  obtain ⟨MT, m4, ⟨p, hrp, hpq⟩, hlen⟩ := HQ.out
  obtain ⟨i0, j0, ev0⟩ := MT.h0.form
  obtain ⟨i1, j1, ev1⟩ := MT.h1.form
  subst ev0 ev1
  have hT3 : Tc w3 := hT.out.below MT.bel hT.out.sz
  have hll2 : Byt l0 ∧ Byt l1 := ⟨by obtain ⟨-, -, -, -, -, h, -⟩ := MT.h0.cells; exact h, by obtain ⟨-, -, -, -, -, h, -⟩ := MT.h1.cells; exact h⟩
  have ca0 : w3.cell? ⟨a, 0, none⟩ = some (.slice i0 l0.length j0) := (cell_of_row _ _ _ _ _ _ MT.ra).trans rfl
  have ca1 : w3.cell? ⟨a, 1, none⟩ = some (.slice i1 l1.length j1) := (cell_of_row _ _ _ _ _ _ MT.ra).trans rfl
  have ca2 := MT.rb
  clear HQ m4
  by_cases hp0 : p = 0
  · subst hp0
    rw [show errOf 0 = 110 from rfl] at hrp
    have f1 : ¬ (q : Int) < 0 := by omega
    have C7 := replay_err w3 MT.h0 MT.h1 hT3 hrp
    rw [show ((110 : Nat) : Int) = 110 from rfl, show ((0 : Nat) : Int) = 0 from rfl] at C7
    have HM := mkHid (And.intro MT (And.intro hT3 (And.intro hlen (And.intro hrp hll2))))
    clear MT hT3 hlen hrp hll2
    go_wp2_with fail
    refine C7.mono ?_
    rintro e w5 ⟨rfl, b5⟩
    clear C7
    obtain ⟨w6, hw6⟩ : ∃ w6, w5.alloc (.cells #[.int .i64 0, .int .i64 0, .int .i64 0, .int .i64 0, .slice none 0 0, .slice none 0 0] 30) = w6 := ⟨_, rfl⟩
    have b6 : Below w5.heap.size w5 w6 := by rw [← hw6]; exact (Below.refl _ w5).alloc (Nat.le_refl _) _
    have r9 : w6.heap[w5.heap.size]? = some (.cells #[.int .i64 0, .int .i64 0, .int .i64 0, .int .i64 0, .slice none 0 0, .slice none 0 0] 30 (0, 0)) := by rw [← hw6]; exact heap_alloc_new _ _
    have b36 : Below w3.heap.size w3 w6 := b5.trans (b6.mono b5.size)
    obtain ⟨k9, hk9⟩ : ∃ k9, w5.heap.size = k9 := ⟨_, rfl⟩
    rw [hk9] at r9
    have d0 := cell_below b36 ca0
    have d1 := cell_below b36 ca1
    have d2 := cell_below b36 HM.out.1.rb
    have hl0L : l0.length ≤ LIM := by have := HM.out.2.2.1.1; unfold LIM; omega
    have hl1L : l1.length ≤ LIM := by have := HM.out.2.2.1.2; unfold LIM; omega
    have C8 := new_any w6 _ _ _ _ (HM.out.1.h0.below b36) (HM.out.1.h1.below b36) hl0L hl1L
    have HW := mkHid (And.intro b36 r9)
    replace hw6 := mkHid hw6
    clear b5 b6 r9 b36 hl0L hl1L
    go_upto_region 8 with fail
    rw [hw6.out]
    clear hw6 ca0 ca1 hk9
    go_wp2_with fail
    refine C8.mono ?_
    rintro e w7 ⟨rfl, k4⟩
    clear C8
    obtain ⟨fD, hD⟩ := @dv_of h0 _ _ _ k4 (Nat.zero_le _)
    have b7 : Below w6.heap.size w6 w7 := k4.1
    have b37 := HW.out.1.trans (b7.mono HW.out.1.size)
    have bW7 := HM.out.1.bel.trans (b37.mono HM.out.1.bel.size)
    have hT7 : Tc w7 := hT.out.below bW7 hT.out.sz
    have C9 := Open_err (lim := 1048576) hD rfl (by decide) hT7 (by decide) (by decide) HM.out.2.2.2.2.1 HM.out.2.2.2.2.2 HM.out.2.2.1.1 HM.out.2.2.1.2 HM.out.2.2.2.1 (by decide)
    rw [show ((1048576 : Nat) : Int) = 1048576 from rfl] at C9
    rw [show ((110 : Nat) : Int) = 110 from rfl, show ((0 : Nat) : Int) = 0 from rfl] at C9
    obtain ⟨vD, hvD⟩ : ∃ vD, w6.heap.size + 1 = vD := ⟨_, rfl⟩
    rw [hvD] at C9 hD
    rw [hvD]
    have HD := mkHid (And.intro hD (And.intro b7 bW7))
    clear k4 hD b7 b37 bW7 hT7 hvD
    go_wp2_with fail
    refine C9.mono ?_
    rintro e w8 ⟨rfl, b8⟩
    clear C9
    have C10 := @count_any h0 _ _ _ _ _ _ _ (@Dv.below h0 _ _ _ _ _ _ _ _ HD.out.1 b8)
    have r98 := (b8.block _ (Array.getElem?_eq_some_iff.1 ((HD.out.2.1.block _ (Array.getElem?_eq_some_iff.1 HW.out.2).1).trans HW.out.2)).1).trans ((HD.out.2.1.block _ (Array.getElem?_eq_some_iff.1 HW.out.2).1).trans HW.out.2)
    have z0 : w8.cell? ⟨k9, 0, none⟩ = some (.int .i64 0) := (cell_of_row _ _ _ _ _ _ r98).trans rfl
    have z1 : w8.cell? ⟨k9, 1, none⟩ = some (.int .i64 0) := (cell_of_row _ _ _ _ _ _ r98).trans rfl
    have z2 : w8.cell? ⟨k9, 2, none⟩ = some (.int .i64 0) := (cell_of_row _ _ _ _ _ _ r98).trans rfl
    have z3 : w8.cell? ⟨k9, 3, none⟩ = some (.int .i64 0) := (cell_of_row _ _ _ _ _ _ r98).trans rfl
    have z4 : w8.cell? ⟨k9, 4, none⟩ = some (.slice none 0 0) := (cell_of_row _ _ _ _ _ _ r98).trans rfl
    have z5 : w8.cell? ⟨k9, 5, none⟩ = some (.slice none 0 0) := (cell_of_row _ _ _ _ _ _ r98).trans rfl
    have C11 := sameStory_eq (n0 := 0) (n1 := 0) (n2 := 0) (n3 := 0) w8 (Ll.nil 0 w8) (Lb.nil 0 w8) (Ll.nil 0 w8) (Lb.nil 0 w8) (by decide) (by decide) (fun x h => by cases h)
    have bE := mkHid (HD.out.2.2.trans (b8.mono HD.out.2.2.size))
    clear r98 b8
    go_wp2_with fail
    refine C10.mono ?_
    rintro e w9 ⟨rfl, hw9⟩
    subst hw9
    clear C10
    go_wp2_with fail
    refine C11.mono ?_
    rintro e wA ⟨rfl, bA⟩
    clear C11
    go_wp2_with fail
    go_ret
    exact ⟨rfl, bE.out.trans (bA.mono bE.out.size)⟩
  · rw [show errOf p = 112 by unfold errOf; rw [if_neg hp0]] at hrp
    have f1 : ¬ (q : Int) < (p : Int) := by omega
    have f2 : ¬ q < p := by omega
    have f3 : ¬ (p : Int) < 0 := by omega
    have f4 : ¬ (p : Int) = 0 := by omega
    have f5 : ((p : Int) == 0) = false := by rw [beq_eq_false_iff_ne]; exact f4
    have C7 := replay_err w3 MT.h0 MT.h1 hT3 hrp
    rw [show ((112 : Nat) : Int) = 112 from rfl] at C7
    have HM := mkHid (And.intro MT (And.intro hT3 (And.intro hlen (And.intro hrp hll2))))
    clear MT hT3 hlen hrp hll2
    go_wp2_with fail
    refine C7.mono ?_
    rintro e w5 ⟨rfl, b5⟩
    clear C7
    obtain ⟨w6, hw6⟩ : ∃ w6, w5.alloc (.cells #[.int .i64 0, .int .i64 0, .int .i64 0, .int .i64 0, .slice none 0 0, .slice none 0 0] 30) = w6 := ⟨_, rfl⟩
    have b6 : Below w5.heap.size w5 w6 := by rw [← hw6]; exact (Below.refl _ w5).alloc (Nat.le_refl _) _
    have r9 : w6.heap[w5.heap.size]? = some (.cells #[.int .i64 0, .int .i64 0, .int .i64 0, .int .i64 0, .slice none 0 0, .slice none 0 0] 30 (0, 0)) := by rw [← hw6]; exact heap_alloc_new _ _
    have b36 : Below w3.heap.size w3 w6 := b5.trans (b6.mono b5.size)
    obtain ⟨k9, hk9⟩ : ∃ k9, w5.heap.size = k9 := ⟨_, rfl⟩
    rw [hk9] at r9
    have d0 := cell_below b36 ca0
    have d1 := cell_below b36 ca1
    have d2 := cell_below b36 HM.out.1.rb
    have hl0L : l0.length ≤ LIM := by have := HM.out.2.2.1.1; unfold LIM; omega
    have hl1L : l1.length ≤ LIM := by have := HM.out.2.2.1.2; unfold LIM; omega
    have C8 := new_any w6 _ _ _ _ (HM.out.1.h0.below b36) (HM.out.1.h1.below b36) hl0L hl1L
    have HW := mkHid (And.intro b36 r9)
    replace hw6 := mkHid hw6
    clear b5 b6 r9 b36 hl0L hl1L
    go_upto_region 8 with fail
    rw [hw6.out]
    clear hw6 ca0 ca1 hk9
    go_wp2_with fail
    refine C8.mono ?_
    rintro e w7 ⟨rfl, k4⟩
    clear C8
    obtain ⟨fD, hD⟩ := @dv_of h0 _ _ _ k4 (Nat.zero_le _)
    have b7 : Below w6.heap.size w6 w7 := k4.1
    have b37 := HW.out.1.trans (b7.mono HW.out.1.size)
    have bW7 := HM.out.1.bel.trans (b37.mono HM.out.1.bel.size)
    have hT7 : Tc w7 := hT.out.below bW7 hT.out.sz
    have C9 := Open_err (lim := 1048576) hD rfl (by decide) hT7 (by decide) (by decide) HM.out.2.2.2.2.1 HM.out.2.2.2.2.2 HM.out.2.2.1.1 HM.out.2.2.1.2 HM.out.2.2.2.1 (by decide)
    rw [show ((1048576 : Nat) : Int) = 1048576 from rfl] at C9
    rw [show ((112 : Nat) : Int) = 112 from rfl] at C9
    obtain ⟨vD, hvD⟩ : ∃ vD, w6.heap.size + 1 = vD := ⟨_, rfl⟩
    rw [hvD] at C9 hD
    rw [hvD]
    have HD := mkHid (And.intro hD (And.intro b7 bW7))
    clear k4 hD b7 b37 bW7 hT7 hvD
    go_wp2_with fail
    refine C9.mono ?_
    rintro e w8 ⟨rfl, b8⟩
    clear C9
    have C10 := @count_any h0 _ _ _ _ _ _ _ (@Dv.below h0 _ _ _ _ _ _ _ _ HD.out.1 b8)
    have r98 := (b8.block _ (Array.getElem?_eq_some_iff.1 ((HD.out.2.1.block _ (Array.getElem?_eq_some_iff.1 HW.out.2).1).trans HW.out.2)).1).trans ((HD.out.2.1.block _ (Array.getElem?_eq_some_iff.1 HW.out.2).1).trans HW.out.2)
    have z0 : w8.cell? ⟨k9, 0, none⟩ = some (.int .i64 0) := (cell_of_row _ _ _ _ _ _ r98).trans rfl
    have z1 : w8.cell? ⟨k9, 1, none⟩ = some (.int .i64 0) := (cell_of_row _ _ _ _ _ _ r98).trans rfl
    have z2 : w8.cell? ⟨k9, 2, none⟩ = some (.int .i64 0) := (cell_of_row _ _ _ _ _ _ r98).trans rfl
    have z3 : w8.cell? ⟨k9, 3, none⟩ = some (.int .i64 0) := (cell_of_row _ _ _ _ _ _ r98).trans rfl
    have z4 : w8.cell? ⟨k9, 4, none⟩ = some (.slice none 0 0) := (cell_of_row _ _ _ _ _ _ r98).trans rfl
    have z5 : w8.cell? ⟨k9, 5, none⟩ = some (.slice none 0 0) := (cell_of_row _ _ _ _ _ _ r98).trans rfl
    have C11 := sameStory_eq (n0 := 0) (n1 := 0) (n2 := 0) (n3 := 0) w8 (Ll.nil 0 w8) (Lb.nil 0 w8) (Ll.nil 0 w8) (Lb.nil 0 w8) (by decide) (by decide) (fun x h => by cases h)
    have bE := mkHid (HD.out.2.2.trans (b8.mono HD.out.2.2.size))
    clear r98 b8
    go_wp2_with fail
    refine C10.mono ?_
    rintro e w9 ⟨rfl, hw9⟩
    subst hw9
    clear C10
    go_wp2_with fail
    refine C11.mono ?_
    rintro e wA ⟨rfl, bA⟩
    clear C11
    go_wp2_with fail
    go_ret
    exact ⟨rfl, bE.out.trans (bA.mono bE.out.size)⟩
end Dev
end Go.Proofs.YtebdoiialookbaaDoor
