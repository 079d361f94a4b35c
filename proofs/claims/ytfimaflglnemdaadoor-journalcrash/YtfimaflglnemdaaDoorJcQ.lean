/- JournalCrash: the law's lived, on any disk that holds a book. -/
import Derived.Test.YtfimaflglnemdaaDoorJqS
namespace Go.Proofs.YtfimaflglnemdaaDoor
open Go.RowKit
open JM
set_option maxRecDepth 20000
namespace Dev
theorem and_mask (x : Int) (M : Nat) (hM : M < 9223372036854775808) : ∃ r : Nat, bits BinOp.and IntKind.i64 x (M : Int) = (r : Int) ∧ r ≤ M := by
  have e : (BitVec.ofInt 64 (M : Int)).toNat = M := by rw [BitVec.toNat_ofInt]; omega
  have h : (BitVec.ofInt 64 x &&& BitVec.ofInt 64 (M : Int)).toNat ≤ M := by rw [BitVec.toNat_and, e]; exact Nat.and_le_right
  refine ⟨(BitVec.ofInt 64 x &&& BitVec.ofInt 64 (M : Int)).toNat, ?_, h⟩
  unfold bits
  simp only [IntKind.bits]
  show IntKind.i64.wrap ((BitVec.ofInt 64 x &&& BitVec.ofInt 64 (M : Int)).toNat : Int) = _
  generalize (BitVec.ofInt 64 x &&& BitVec.ofInt 64 (M : Int)).toNat = r at h
  rw [IntKind.wrap_i64]
  omega
/-- A life at its end. -/
def LvX (W : World) (lo j v B N : Nat) (cv bv : Value) (w : World) : Prop := ∃ (lim i : Nat) (L : Array Value), i ≤ 30 ∧ LvH W lo j v lim B N i cv bv L w
attribute [local go_sem ↓] toStBk toApI toApK in
set_option maxRecDepth 100000 in
set_option maxHeartbeats 6400000 in
theorem lived_anyH {us : Value} {ss : List (Bool × List (List Nat))} {l a k0 k1 : Int} {u0 u1 : Value} {b : Cr.Bk} {y : Sp} {oa ob : Option Addr} {na ca nb cb B N : Nat} (W : World) (hS : Ss W us ss) (hT : Tc W) (hd0 : Bl W (.slice oa na ca) y.1.1) (hd1 : Bl W (.slice ob nb cb) y.2.1) (hy : Cr.Lim y) (hd : Cr.Dsk N b y) (hb0 : Ll B W u0 b.base) (hb1 : Lb B W u1 b.batches) (hB : B ≤ W.heap.size) (hN1 : 1 ≤ N) (hN2 : N ≤ 800000) :
    Calls Tryd.prog 8 #[.agg #[.slice oa na ca, .slice ob nb cb], .agg (bkA u0 u1 b.last), .agg (lifG l us a k0 k1)] W fun e w' => ∃ lo j v cv bv, e = .returned (.tuple #[.pointer (some ⟨v, 0, none⟩), cv, bv, .bool true]) ∧ LvX W lo j v B N cv bv w' := by
  obtain ⟨V, hV⟩ : ∃ V, ((W.alloc (.cells #[.slice oa na ca, .slice ob nb cb] 26)).alloc (.cells (bkA u0 u1 b.last) 30)).alloc (.cells (lifG l us a k0 k1) 36) = V := ⟨_, rfl⟩
  obtain ⟨r0, r1, r2, bV⟩ := row3 W (.cells #[.slice oa na ca, .slice ob nb cb] 26) (.cells (bkA u0 u1 b.last) 30) (.cells (lifG l us a k0 k1) 36)
  have zV : V.heap.size = W.heap.size + 3 := by rw [← hV]; simp
  rw [hV] at r0 r1 r2 bV
  obtain ⟨ou, cu, rfl⟩ := hS.sl
  obtain ⟨o4, c4, e4⟩ := hb0.sl
  obtain ⟨o5, c5, e5⟩ := hb1.sl
  subst e4 e5
  have c0 : V.cell? ⟨W.heap.size, 0, none⟩ = some (.slice oa na ca) := (cell_of_row _ _ _ _ _ _ r0).trans rfl
  have c1 : V.cell? ⟨W.heap.size, 1, none⟩ = some (.slice ob nb cb) := (cell_of_row _ _ _ _ _ _ r0).trans rfl
  have d0 : V.cell? ⟨W.heap.size + 1 + 1, 0, none⟩ = some (.int .i64 l) := (cell_of_row _ _ _ _ _ _ r2).trans rfl
  obtain ⟨m, hbit, hm⟩ := and_mask l 4194303 (by decide)
  rw [show ((4194303 : Nat) : Int) = 4194303 from rfl] at hbit
  have hw64 : IntKind.i64.wrap (64 + (m : Int)) = ((64 + m : Nat) : Int) := by rw [IntKind.wrap_i64]; omega
  obtain ⟨lim, hlimE⟩ : ∃ lim, 64 + m = lim := ⟨_, rfl⟩
  rw [hlimE] at hw64
  have hl0 : 64 ≤ lim := by omega
  have hl1 : lim ≤ 4194367 := by omega
  have hyl := And.intro hy.1 hy.2
  obtain ⟨hby0, hby1⟩ := hd.byt
  have hbl := hd.bnd
  have C1 := diskOf_any V (hd0.below bV) (hd1.below bV) (by unfold Go.Proofs.YtfimaflglnemdaaDoor.LIM; omega) (by unfold Go.Proofs.YtfimaflglnemdaaDoor.LIM; omega)
  have HH := mkHid (And.intro r1 (And.intro r2 (And.intro bV (And.intro hS (And.intro hT (And.intro zV (And.intro hy (And.intro hd (And.intro hb0 (And.intro hb1 (And.intro hB (And.intro hN1 (And.intro hN2 (And.intro hby0 (And.intro hby1 (And.intro hl0 hl1))))))))))))))))
  have hlast6 : b.last ≤ 1000000 := hbl.2.2.2
  unfold lifG bkA at hV
  unfold lifG bkA
  clear r0 r1 r2 bV hS hT zV hd0 hd1 hy hd hb0 hb1 hB hN1 hN2 hby0 hby1 hbl hl0 hl1 hyl hm hlimE
  obtain ⟨lst, hlst⟩ : ∃ n, b.last = n := ⟨_, rfl⟩
  rw [hlst] at hV hlast6
  rw [hlst]
  replace hlst := mkHid hlst
  obtain ⟨nb4, hnb4⟩ : ∃ n, b.base.length = n := ⟨_, rfl⟩
  obtain ⟨nb5, hnb5⟩ : ∃ n, b.batches.length = n := ⟨_, rfl⟩
  rw [hnb4, hnb5] at hV
  rw [hnb4, hnb5]
  replace hnb4 := mkHid hnb4
  replace hnb5 := mkHid hnb5
  go_enter Tryd.func8, Tryd.ntmps8
  go_upto_region 1 with fail
  try rw [hV]
  clear hV
  go_upto_region 2 with fail
  clear hbit hw64
  go_wp2_with fail
  refine C1.mono ?_
  rintro e w1 ⟨o2, o3, c2, c3, rfl, k2, k3, b1⟩
  clear C1
  have C2 := new_any w1 _ _ _ _ k2 k3 (by have := HH.out.2.2.2.2.2.2.1; unfold Cr.Lim at this; unfold LIM; omega) (by have := HH.out.2.2.2.2.2.2.1; unfold Cr.Lim at this; unfold LIM; omega)
  have HK := mkHid b1
  clear k2 k3 b1
  obtain ⟨n0, hn0⟩ : ∃ n, y.1.1.length = n := ⟨_, rfl⟩
  obtain ⟨n1, hn1⟩ : ∃ n, y.2.1.length = n := ⟨_, rfl⟩
  rw [hn0, hn1] at C2
  rw [hn0, hn1]
  replace hn0 := mkHid hn0
  replace hn1 := mkHid hn1
  go_wp2_with fail
  refine C2.mono ?_
  rintro e w2 ⟨rfl, k4⟩
  rw [← hn0.out, ← hn1.out] at k4
  clear C2
  obtain ⟨f, hD⟩ := @dv_of h0 _ _ _ k4 (Nat.zero_le _)
  have b2 : Below w1.heap.size w1 w2 := k4.1
  have bVW := HH.out.2.2.1
  have b12 : Below V.heap.size V w2 := HK.out.trans (b2.mono HK.out.size)
  have b02 : Below W.heap.size W w2 := bVW.trans (b12.mono bVW.size)
  have hT := HH.out.2.2.2.2.1
  have hlo : 0 < w1.heap.size := Nat.lt_of_lt_of_le hT.sz (Nat.le_trans bVW.size HK.out.size)
  obtain ⟨-, -, -, -, -, -, hy, hd, -, -, -, hN1, hN2, hby0, hby1, hl0, hl1⟩ := HH.out
  have C3 := @Open_dsk h0 w1.heap.size (w1.heap.size + 1) lim N w2 _ f [] [] ((y.1.1, y.1.1.length), (y.2.1, y.2.1.length)) y b hD b2.size (by decide) (hT.below b02 hT.sz) hlo (by omega) hl0 hby0 hby1 (Nat.le_trans hy.1 (by omega)) (Nat.le_trans hy.2 (by omega)) hN1 (by omega) rfl hd
  have HK2 := mkHid (And.intro b12 (And.intro b02 hlo))
  obtain ⟨lo, hloE⟩ : ∃ lo, w1.heap.size = lo := ⟨_, rfl⟩
  obtain ⟨v, hvE⟩ : ∃ v, lo + 1 = v := ⟨_, rfl⟩
  rw [hloE, hvE] at C3
  rw [hloE] at HK2
  have HLO := mkHid (And.intro hloE hvE)
  rw [hloE, hvE]
  clear hD k4 b2 bVW b12 b02 hT hlo hloE hvE hy hd hN1 hN2 hby0 hby1 hl0 hl1
  go_wp2_with fail
  refine C3.mono ?_
  rintro e w3 ⟨j, live, gen, first, L0, rfl, k5, op, fo3⟩
  clear C3
  letI := hJ j
  have hyx : Cr.Lim ((y.1.1, y.1.1.length), (y.2.1, y.2.1.length)) := HH.out.2.2.2.2.2.2.1
  have foV : Fo lo V w3 := (Fo.of_below HK2.out.1).trans fo3
  have bel3 : Below W.heap.size W w3 := by
    have q := HK2.out.2.1
    have ql : W.heap.size ≤ lo := by rw [← HLO.out.1]; exact Nat.le_trans HH.out.2.2.1.size HK.out.size
    exact ⟨fo3.os.trans q.os, fo3.tape.trans q.tape, fo3.output.trans q.output, Nat.le_trans q.size fo3.size, fun k hk => (fo3.low k (by omega) (by have := q.size; omega)).trans (q.block k hk)⟩
  have hT3 : Tc w3 := HH.out.2.2.2.2.1.below bel3 HH.out.2.2.2.2.1.sz
  obtain ⟨-, -, -, -, -, -, -, -, hb0, hb1, hB, hN1, hN2, -, -, hl0, hl1⟩ := HH.out
  have hP : Cr.Pc lo w3 j v lim B live gen first N b.base b.batches ([] ++ [((y.1.1, y.1.1.length), (y.2.1, y.2.1.length))] ++ L0) (.slice o4 nb4 c4) (.slice o5 nb5 c5) := by
    refine ⟨op.jc k5 (op.len hyx) hl0 hl1 (by omega) hT3 HK2.out.2.2 (by have := op.few; simp; omega), ?_, ?_, Nat.le_trans hB bel3.size⟩
    · rw [hnb4.out] at hb0
      exact hb0.keep (stay_below bel3)
    · rw [hnb5.out] at hb1
      exact hb1.keep (stay_below bel3)
  have hst := op.hst hyx
  have hcl : ([((y.1.1, y.1.1.length), (y.2.1, y.2.1.length))] ++ L0).length = L0.length + 1 := by simp
  have hfew := op.few
  have hbk := op.book
  rw [hlst.out] at hbk
  rw [List.nil_append] at hP
  obtain ⟨sp, hsp⟩ : ∃ sp, [((y.1.1, y.1.1.length), (y.2.1, y.2.1.length))] ++ L0 = sp := ⟨_, rfl⟩
  have hst : Cr.Hst N ([((y.1.1, y.1.1.length), (y.2.1, y.2.1.length))] ++ L0) [L0.length] [b] := hst
  rw [hsp] at hP hst hcl
  have r1 := foV.row HH.out.1 (by decide) (by decide) (by decide)
  have r2 := foV.row HH.out.2.1 (by decide) (by decide) (by decide)
  have e2 : w3.drew.cell? ⟨W.heap.size + 1, 2, none⟩ = some (.int .i64 (lst : Int)) := (cell_of_row _ _ _ _ _ _ r1).trans (by rw [← hlst.out]; rfl)
  have CL : Hid (Calls Tryd.prog 17 #[.pointer (some ⟨j, 0, none⟩)] w3.drew fun e w' => e = .returned (.int .i64 (lst : Int)) ∧ w' = w3.drew) := by
    have := (hP.jc.below (below_drew w3)).lastly
    rw [← hbk] at this
    exact this
  have HP := mkHid (And.intro hP (And.intro r1 (And.intro r2 (And.intro bel3 (And.intro hst (And.intro hcl (And.intro hfew (And.intro hbk (And.intro hN2 (And.intro hb0 (And.intro hb1 (And.intro hl0 hl1))))))))))))
  clear hP hst hcl hfew hbk hsp hyx r1 r2 bel3 hT3 foV k5 fo3 op hb0 hb1 hB hN1 hN2 hl0 hl1
  go_upto_region 4 with fail
  go_region_held3 (fun w' => w'.cell? ⟨W.heap.size + 1, 2, none⟩ = some (.int .i64 (lst : Int))) (first | assumption | exact e2)
    (first
      | (go_at_call 17; with_reducible refine Calls.mono CL.out ?_; rintro e w4 ⟨rfl, hw4⟩; subst hw4))
  clear CL
  have bd := below_drew w3
  have P4 := HP.out.1.below bd
  have C4 := P4.jc.count
  obtain ⟨n0', hcnt⟩ : ∃ n, sp.length - 1 = n := ⟨_, rfl⟩
  rw [hcnt] at C4
  have r1 := (bd.block _ (Array.getElem?_eq_some_iff.1 HP.out.2.1).1).trans HP.out.2.1
  have bW4 := HP.out.2.2.2.1.trans (bd.mono HP.out.2.2.2.1.size)
  have r2 := (bd.block _ (Array.getElem?_eq_some_iff.1 HP.out.2.2.1).1).trans HP.out.2.2.1
  obtain ⟨w4, hw4⟩ : ∃ w4, w3.drew = w4 := ⟨_, rfl⟩
  rw [hw4] at C4 r1 r2 P4 bd bW4
  rw [hw4]
  clear hw4 e2
  unfold bkA at r1
  rw [hlst.out, hnb4.out, hnb5.out] at r1
  obtain ⟨A1, hA1⟩ : ∃ A, w4.alloc (.cells #[.int .i64 (n0' : Int)] 3) = A := ⟨_, rfl⟩
  have bA1 : Below w4.heap.size w4 A1 := by rw [← hA1]; exact (Below.refl _ w4).alloc (Nat.le_refl _) _
  have rA1 : A1.heap[w4.heap.size]? = some (.cells #[.int .i64 (n0' : Int)] 3 (0, 0)) := by rw [← hA1]; exact heap_alloc_new _ _
  obtain ⟨A2, hA2⟩ : ∃ A, A1.alloc (.cells #[.slice o4 nb4 c4, .slice o5 nb5 c5, .int .i64 (lst : Int)] 30) = A := ⟨_, rfl⟩
  have bA2 : Below A1.heap.size A1 A2 := by rw [← hA2]; exact (Below.refl _ A1).alloc (Nat.le_refl _) _
  have rA2 : A2.heap[A1.heap.size]? = some (.cells #[.slice o4 nb4 c4, .slice o5 nb5 c5, .int .i64 (lst : Int)] 30 (0, 0)) := by rw [← hA2]; exact heap_alloc_new _ _
  have rr1 := (bA1.block _ (Array.getElem?_eq_some_iff.1 r1).1).trans r1
  have f0 : A1.cell? ⟨W.heap.size + 1, 0, none⟩ = some (.slice o4 nb4 c4) := (cell_of_row _ _ _ _ _ _ rr1).trans rfl
  have f1 : A1.cell? ⟨W.heap.size + 1, 1, none⟩ = some (.slice o5 nb5 c5) := (cell_of_row _ _ _ _ _ _ rr1).trans rfl
  have f2 : A1.cell? ⟨W.heap.size + 1, 2, none⟩ = some (.int .i64 (lst : Int)) := (cell_of_row _ _ _ _ _ _ rr1).trans rfl
  have b42 : Below w4.heap.size w4 A2 := bA1.trans (bA2.mono bA1.size)
  have hl3 : W.heap.size + 3 ≤ lo := by rw [← HLO.out.1, ← HH.out.2.2.2.2.2.1]; exact HK.out.size
  have hl4 : lo ≤ w4.heap.size := P4.jc.hlo
  have LV : Hid (LvH W lo j v lim B N 0 (.slice (some ⟨w4.heap.size, 0, none⟩) 1 1) (.slice (some ⟨A1.heap.size, 0, none⟩) 1 1) (lifG l (.slice ou ss.length cu) a k0 k1) A2) := by
    obtain ⟨-, -, -, -, hst, hcl, hfew, hbk, -, hb0, hb1, -, -⟩ := HP.out
    have hbE : b = ⟨b.base, b.batches, first - 1 + b.batches.length⟩ := by rw [← hbk, ← hlst.out]
    have bW2 := bW4.trans (b42.mono bW4.size)
    refine ⟨live, gen, first, b.base, b.batches, sp, .slice o4 nb4 c4, .slice o5 nb5 c5, [.slice o4 nb4 c4, .slice o5 nb5 c5, .int .i64 (lst : Int)], [L0.length], [b], P4.below b42, ⟨?_, (b42.block _ (Array.getElem?_eq_some_iff.1 r2).1).trans r2, bW2, ?_, ?_, ⟨_, rfl, nu_int _⟩, ⟨_, rfl, nu_slice _ _ _⟩, ⟨_, rfl, nu_slice _ _ _⟩, hl3, Nat.le_trans hl4 b42.size⟩, ?_, hst, rfl, by rw [← hbE]; rfl, by omega⟩
    · rw [← hbk]
      exact (b42.block _ (Array.getElem?_eq_some_iff.1 r1).1).trans r1
    · refine ⟨rfl, .inr ⟨w4.heap.size, 1, _, rfl, by omega, (bA2.block _ (Array.getElem?_eq_some_iff.1 rA1).1).trans rA1, Nat.le_refl _, by unfold maxLen; omega, rfl, ?_⟩⟩
      rw [show L0.length = n0' by omega]
      rfl
    · exact ⟨rfl, .inr ⟨A1.heap.size, 1, _, rfl, by have := bA1.size; omega, rA2, Nat.le_refl _, by unfold maxLen; omega, rfl, rfl⟩⟩
    · refine ⟨rfl, fun i b' hb' => ?_⟩
      have hi := (List.getElem?_eq_some_iff.1 hb').1
      obtain rfl : i = 0 := by simpa using hi
      injection hb' with hb'
      subst hb'
      exact ⟨_, _, rfl, rfl, by rw [hlst.out]; rfl, hnb4.out ▸ hb0.keep (stay_below bW2), hnb5.out ▸ hb1.keep (stay_below bW2)⟩
  clear bA1 rA1 bA2 rA2 rr1 b42 r1 r2 bW4 P4 bd hl4 HK2 hcnt
  replace hl3 := mkHid hl3
  go_wp2_with fail
  refine C4.mono ?_
  rintro e w5 ⟨rfl, hw5⟩
  subst hw5
  clear C4
  go_wp2_with fail
  try rw [hA2]
  go_loopw [18, 16, 17] (fun iv cv bv wr => ∃ (i : Nat) (a1 a2 : Option Addr) (n1 n2 : Nat), iv = .int .i64 (i : Int) ∧ cv = .slice a1 (i + 1) n1 ∧ bv = .slice a2 (i + 1) n2 ∧ i ≤ min ss.length 30 ∧ Hid (LvH W lo j v lim B N i cv bv (lifG l (.slice ou ss.length cu) a k0 k1) wr)) (fun iv _ _ _ => min ss.length 30 - (intOf iv).toNat)
  case atStart => exact ⟨0, _, _, _, _, rfl, rfl, rfl, Nat.zero_le _, LV⟩
  case round =>
    obtain ⟨i, a1, a2, n1, n2, rfl, rfl, rfl, hi, HI⟩ := hrel
    obtain ⟨live, gen, first, base, bs, sp, u0, u1, rs, cs, bks, hP, hW, hBk, hHs, hcs, hbi, hspl⟩ := HI.out
    obtain ⟨p0, q0, hu0⟩ := hP.b0.sl
    obtain ⟨p1, q1, hu1⟩ := hP.b1.sl
    subst hu0 hu1
    obtain ⟨last, hlast⟩ : ∃ last, first - 1 + bs.length = last := ⟨_, rfl⟩
    rw [hlast] at hW hbi
    unfold bkA at hW
    have cL : wr.cell? ⟨W.heap.size + 1 + 1, 1, none⟩ = some (.slice ou ss.length cu) := (cell_of_row _ _ _ _ _ _ hW.rl).trans rfl
    by_cases hlt : i < min ss.length 30
    · have hlt1 : i < ss.length := by omega
      have hlt2 : (i : Int) < (ss.length : Int) := by omega
      have hi30 : (i : Int) < 30 := by omega
      have hi0 : (0 : Int) ≤ (i : Int) := by omega
      obtain ⟨oa', cap, e0, -, -, h4⟩ := HH.out.2.2.2.1
      injection e0 with e0 el ec
      clear el
      subst e0 ec
      obtain ⟨g, o, x, rfl, y1, y2, y3, y4⟩ := h4 i hlt1
      obtain ⟨ox, cx, rfl⟩ := y3.sl
      obtain ⟨c, hc⟩ : ∃ c, ss[i].1 = c := ⟨_, rfl⟩
      rw [hc] at y1
      have hN2 := HP.out.2.2.2.2.2.2.2.2.1
      have CA := mkHid (fun X hX => does_stepH (X := X) hP hW hlast.symm hX (by omega) (by omega) y1 y2 y3 y4)
      have bz : Below wr.heap.size wr (wr.alloc (.cells #[.slice none 0 0, .slice none 0 0, .int .i64 0] 30)).drew := by
        have q := (Below.refl _ wr).alloc (Nat.le_refl _) (.cells #[.slice none 0 0, .slice none 0 0, .int .i64 0] 30)
        exact q.trans ((below_drew _).mono q.size)
      have hSd := S11.ofG (hW.below (below_drew wr)) y1 y2
      have hSa := S11.ofG (hW.below bz) y1 y2
      have HY := mkHid (And.intro hW (And.intro y1 (And.intro y2 (And.intro HH.out.2.2.2.2.1 (And.intro hBk (And.intro hHs (And.intro hcs (And.intro hbi (And.intro hspl hP)))))))))
      have Cb := mkHid (CA.out _ (below_drew wr))
      have Ca := mkHid (CA.out _ bz)
      have kz := mkHid (show (wr.alloc (.cells #[.slice none 0 0, .slice none 0 0, .int .i64 0] 30)).drew.heap[wr.heap.size]? = some (.cells zBk 30 (0, 0)) from heap_alloc_new _ _)
      clear hP hW y1 y2 y3 y4 h4 CA hc bz hlast hBk hHs hcs hbi hspl hN2
      obtain ⟨nx, hnx⟩ : ∃ nx, ss[i].2.length = nx := ⟨_, rfl⟩
      rw [hnx] at Cb Ca hSd hSa HY
      clear hnx
      go_upto_region 11 with fail
      go_region_held3 (fun w' => S11 W (.slice p0 base.length q0) (.slice p1 bs.length q1) (.int .i64 (last : Int)) (.slice (some ⟨g, o, none⟩) ss.length cu) g (o + i * 2) c (.slice ox nx cx) w') (first | assumption | exact hSd | exact hSa | exact hSx | exact hSy)
        (first
          | (go_at_call 37; with_reducible refine Calls.mono Ca.out ?_; rintro e w6 ⟨live', gen', first', base', bs', L, v0, v1, last', rfl, k6, s6⟩; obtain ⟨st1, hN⟩ := nxtHA HY.out.2.2.2.1 HY.out.1 kz.out (Nat.le_refl _) k6.out.1 k6.out.2.1 k6.out.2.2.1 k6.out.2.2.2.1; have hSx := S11.ofG hN.lw HY.out.2.1 HY.out.2.2.1; replace hN := mkHid hN)
          | (go_at_call 37; with_reducible refine Calls.mono Cb.out ?_; rintro e w6 ⟨live', gen', first', base', bs', L, v0, v1, last', rfl, k6, s6⟩; obtain ⟨st1, hN, hLa⟩ := nxtHB k6.out.1 k6.out.2.1 k6.out.2.2.1; have hSx := S11.ofG hN.lw HY.out.2.1 HY.out.2.2.1; have hSy := S11.ofG hLa HY.out.2.1 HY.out.2.2.1; replace hN := mkHid hN; clear hLa))
      · obtain ⟨k, hk⟩ : ∃ k, w6.heap.size = k := ⟨_, rfl⟩
        obtain ⟨Y, hY⟩ : ∃ Y, w6.alloc (.cells #[v0, v1, .int .i64 (last' : Int)] 30) = Y := ⟨_, rfl⟩
        rw [hk, hY] at hN
        rw [hk, hY]
        have K6 := mkHid (And.intro k6.out.2.2.2.2.1 k6.out.2.2.2.2.2)
        have FOX : Stay B (fun t => t = 5 ∨ t = 23 ∨ t = 27) wr Y := by
          intro k' c' t' hk' ht' hc'
          rw [← hY]
          have hb1 : (wr.drew).heap[k']? = some (.cells c' t' (0, 0)) := hc'
          have e1 := (k6.out.2.2.2.1.stay (B := B) lb_ty) k' c' t' hk' ht' hb1
          exact (heap_alloc_old _ _ (h := (Array.getElem?_eq_some_iff.1 (e1.trans hb1)).1)).trans e1
        replace FOX := mkHid FOX
        clear st1 hSx hSy k6 s6 hk hY
        obtain ⟨r0, s0, ev0⟩ := hN.out.pc.b0.sl
        obtain ⟨r1, s1, ev1⟩ := hN.out.pc.b1.sl
        subst ev0 ev1
        have bD := below_drew Y
        have P2 := hN.out.pc.below bD
        have rk := (bD.block _ (Array.getElem?_eq_some_iff.1 hN.out.row).1).trans hN.out.row
        have g0 : Y.drew.cell? ⟨k, 0, none⟩ = some (.slice r0 base'.length s0) := (cell_of_row _ _ _ _ _ _ rk).trans rfl
        have g1 : Y.drew.cell? ⟨k, 1, none⟩ = some (.slice r1 bs'.length s1) := (cell_of_row _ _ _ _ _ _ rk).trans rfl
        have g2 : Y.drew.cell? ⟨k, 2, none⟩ = some (.int .i64 (last' : Int)) := (cell_of_row _ _ _ _ _ _ rk).trans rfl
        have CL := P2.jc.lastly
        have CS := mkHid P2.jc.story
        rw [← hN.out.hl] at CL
        replace CL := mkHid CL
        have Hq : ∀ w7 t4 t5, (Ll Y.drew.heap.size w7 t4 base' ∧ Lb Y.drew.heap.size w7 t5 bs' ∧ Below Y.drew.heap.size Y.drew w7) → Calls Tryd.prog 38 #[.agg #[.slice r0 base'.length s0, .slice r1 bs'.length s1, .int .i64 (last' : Int)], .agg (styA live' (journalw gen' first' base' bs').length gen' first' t4 t5)] w7 (fun e w' => e = .returned (.bool true) ∧ Below w7.heap.size w7 w') := fun w7 t4 t5 q => by
          have f1 := P2.jc.f1
          have f2 := P2.jc.fN
          have hn := P2.jc.nN
          obtain ⟨gl1, gl2⟩ := P2.jc.gl
          refine holds_eq w7 (P2.b0.keep (stay_below q.2.2)) (P2.b1.keep (stay_below q.2.2)) q.1 q.2.1 ?_ (by omega) (fun x hx => ?_) f1 (by omega) hN.out.hl.symm
          · have := gl1.n
            omega
          · have := (gl2 x hx).n
            omega
        replace Hq := mkHid Hq
        have HN2 := mkHid (And.intro P2 (And.intro (hN.out.lw.below bD) (And.intro rk hN.out.hl)))
        clear hN bD P2 rk Ca Cb hSd hSa kz
        go_upto_region 12 with fail
        go_region_held3 (fun w' => w'.cell? ⟨k, 0, none⟩ = some (.slice r0 base'.length s0) ∧ w'.cell? ⟨k, 1, none⟩ = some (.slice r1 bs'.length s1) ∧ w'.cell? ⟨k, 2, none⟩ = some (.int .i64 (last' : Int))) (first | assumption | exact ⟨g0, g1, g2⟩ | exact hS7 | exact hS8)
          (first
            | (go_at_call 17; with_reducible refine Calls.mono CL.out ?_; rintro e w7 ⟨rfl, hw7⟩; subst hw7)
            | (go_at_call 20; with_reducible refine Calls.mono CS.out ?_; rintro e w7 ⟨t4, t5, rfl, k4, k5, b7⟩; have hS7 := And.intro (cell_below b7 g0) (And.intro (cell_below b7 g1) (cell_below b7 g2)); replace k4 := mkHid (And.intro k4 (And.intro k5 b7)); clear k5 b7; have CHo := mkHid (Hq.out w7 t4 t5 k4.out))
            | (go_at_call 38; with_reducible refine Calls.mono CHo.out ?_; rintro e w8 ⟨rfl, b8⟩; have hS8 := And.intro (cell_below b8 hS7.1) (And.intro (cell_below b8 hS7.2.1) (cell_below b8 hS7.2.2)); replace b8 := mkHid b8))
        have bY8 := k4.out.2.2.trans (b8.out.mono k4.out.2.2.size)
        have P3 := HN2.out.1.below bY8
        have L3 := HN2.out.2.1.below bY8
        have hT := HY.out.2.2.2.1
        have b8r := Below.trans L3.bel (Below.refl _ w8)
        have bY9 : Below Y.heap.size Y w8 := (below_drew Y).trans (bY8.mono (below_drew Y).size)
        replace bY9 := mkHid bY9
        obtain ⟨m0, m1, m2⟩ := hS8
        have st := st_Bk w8 (W.heap.size + 1) _ #[.slice r0 base'.length s0, .slice r1 bs'.length s1, .int .i64 (last' : Int)] rfl rfl (by simp [Value.oneCell']) L3.rb
        have L4 := L3.setR #[.slice r0 base'.length s0, .slice r1 bs'.length s1, .int .i64 (last' : Int)] ⟨_, rfl, nu_slice _ _ _⟩
        have SR : ∀ B', Stay B' (fun t => t = 5 ∨ t = 23 ∨ t = 27) w8 (w8.setRow (W.heap.size + 1) #[.slice r0 base'.length s0, .slice r1 bs'.length s1, .int .i64 (last' : Int)]) := fun B' i c t _ ht hc => setRow_other _ _ _ _ (row_ne hc L3.rb (by rcases ht with rfl | rfl | rfl <;> decide))
        have P4 := P3.free (L3.freR #[.slice r0 base'.length s0, .slice r1 bs'.length s1, .int .i64 (last' : Int)]) (hT.below L4.bel hT.sz) (SR B)
        obtain ⟨w9, hw9⟩ : ∃ w9, w8.setRow (W.heap.size + 1) #[.slice r0 base'.length s0, .slice r1 bs'.length s1, .int .i64 (last' : Int)] = w9 := ⟨_, rfl⟩
        rw [hw9] at st L4 P4 SR
        have C5 := P4.jc.count
        have hz9 : W.heap.size + 3 ≤ w9.heap.size := Nat.le_trans L4.lo3 L4.sz
        obtain ⟨n', hn'⟩ : ∃ n, (sp ++ L).length - 1 = n := ⟨_, rfl⟩
        rw [hn'] at C5
        obtain ⟨ga, gc, w11, hrA, hoA, hgA⟩ := own_addI L4.oc hz9 (by omega) ((n' : Nat) : Int)
        obtain ⟨L5, F5, S5⟩ := L4.addC hoA hgA
        have P5 := P4.free F5 (hT.below L5.bel hT.sz) (S5 _)
        have d0 : w11.cell? ⟨W.heap.size + 1, 0, none⟩ = some (.slice r0 base'.length s0) := (cell_of_row _ _ _ _ _ _ L5.rb).trans rfl
        have d1 : w11.cell? ⟨W.heap.size + 1, 1, none⟩ = some (.slice r1 bs'.length s1) := (cell_of_row _ _ _ _ _ _ L5.rb).trans rfl
        have d2 : w11.cell? ⟨W.heap.size + 1, 2, none⟩ = some (.int .i64 (last' : Int)) := (cell_of_row _ _ _ _ _ _ L5.rb).trans rfl
        have hz11 : W.heap.size + 3 ≤ w11.heap.size := Nat.le_trans L5.lo3 L5.sz
        obtain ⟨gb, gd, w12, hrB, hoB, hgB⟩ := own_addK L5.ob hz11 (by omega) (.slice r0 base'.length s0) (.slice r1 bs'.length s1) (.int .i64 (last' : Int)) rfl rfl rfl
        obtain ⟨L6, F6, S6⟩ := L5.addB hoB hgB
        have P6 := P5.free F6 (hT.below L6.bel hT.sz) (S6 _)
        have hll := HN2.out.2.2.2
        have LV2 : Hid (LvH W lo j v lim B N (i + 1) (.slice ga (i + 1 + 1) gc) (.slice gb (i + 1 + 1) gd) (lifG l (.slice (some ⟨g, o, none⟩) ss.length cu) a k0 k1) w12) := by
          obtain ⟨hW0, -, -, -, hBk, hHs, hcs, hbi, hspl, hP0⟩ := HY.out
          obtain ⟨pre, z, ez, hdz⟩ := P6.jc.lst
          have hlen := hHs.len
          have hbi2 : bks[bks.length - 1]? = some ⟨base, bs, last⟩ := by rw [show bks.length - 1 = i by omega]; exact hbi
          have hH := (hHs.mono (Nat.le_succ (N + i))).step hbi2 K6.out.1 K6.out.2 ez (fun q0 q1 => by rw [hll]; exact hdz q0 q1)
          have hfw := K6.out.1.1
          have bwr : Stay B (fun t => t = 5 ∨ t = 23 ∨ t = 27) wr w12 := fun k' c' t' hk' ht' hc' => by
            have e1 := FOX.out k' c' t' hk' ht' hc'
            have q1 := e1.trans hc'
            have e2 := stay_below (B := B) (T := fun t => t = 5 ∨ t = 23 ∨ t = 27) bY9.out k' c' t' hk' ht' q1
            have q2 := e2.trans q1
            have e3 := SR B k' c' t' hk' ht' q2
            have q3 := e3.trans q2
            have e4 := S5 B k' c' t' hk' ht' q3
            have q4 := e4.trans q3
            exact (S6 B k' c' t' hk' ht' q4).trans (e4.trans (e3.trans (e2.trans e1)))
          refine ⟨live', gen', first', base', bs', sp ++ L, _, _, _, cs ++ [n'], bks ++ [⟨base', bs', last'⟩], P6, ?_, (hBk.keep bwr).add P6.b0 P6.b1, by rw [← hn']; exact hH, by simp; omega, ?_, by simp; omega⟩
          · rw [List.map_append, ← hll]
            exact L6
          · rw [List.getElem?_append_right (by omega), show i + 1 - bks.length = 0 by omega, ← hll]
            rfl
        clear P3 L3 L4 P4 L5 F5 S5 P5 L6 F6 S6 P6 hoA hgA hoB hgB hll hw9 bY8 hT HN2 hz9 hz11 HY CL CS Hq CHo k4 b8 hS7 SR b8r K6 hn' FOX bY9
        go_wp2_with fail
        refine C5.mono ?_
        rintro e w10 ⟨rfl, hw10⟩
        subst hw10
        clear C5
        go_wp2_with fail
        exact ⟨⟨i + 1, _, _, _, _, by simp, rfl, rfl, by omega, LV2⟩, by simp only [intOf]; omega⟩
      · obtain ⟨k, hk⟩ : ∃ k, wr.heap.size = k := ⟨_, rfl⟩
        rw [hk] at hN
        rw [hk]
        obtain ⟨Y, hY⟩ : ∃ Y, w6.setRow k #[v0, v1, .int .i64 (last' : Int)] = Y := ⟨_, rfl⟩
        rw [hY] at hN
        rw [hY]
        have K6 := mkHid (And.intro k6.out.2.2.2.2.1 k6.out.2.2.2.2.2)
        have FOX : Stay B (fun t => t = 5 ∨ t = 23 ∨ t = 27) wr Y := by
          intro k' c' t' hk' ht' hc'
          rw [← hY]
          have hb1 : ((wr.alloc (.cells #[.slice none 0 0, .slice none 0 0, .int .i64 0] 30)).drew).heap[k']? = some (.cells c' t' (0, 0)) := (heap_alloc_old _ _ (h := (Array.getElem?_eq_some_iff.1 hc').1)).trans hc'
          have e1 := (k6.out.2.2.2.1.stay (B := B) lb_ty) k' c' t' hk' ht' hb1
          have hlt9 := (Array.getElem?_eq_some_iff.1 hc').1
          exact ((setRow_other _ _ _ _ (by omega)).trans e1).trans (hb1.trans hc'.symm)
        replace FOX := mkHid FOX
        clear st1 hSx  k6 s6 hk hY
        obtain ⟨r0, s0, ev0⟩ := hN.out.pc.b0.sl
        obtain ⟨r1, s1, ev1⟩ := hN.out.pc.b1.sl
        subst ev0 ev1
        have bD := below_drew Y
        have P2 := hN.out.pc.below bD
        have rk := (bD.block _ (Array.getElem?_eq_some_iff.1 hN.out.row).1).trans hN.out.row
        have g0 : Y.drew.cell? ⟨k, 0, none⟩ = some (.slice r0 base'.length s0) := (cell_of_row _ _ _ _ _ _ rk).trans rfl
        have g1 : Y.drew.cell? ⟨k, 1, none⟩ = some (.slice r1 bs'.length s1) := (cell_of_row _ _ _ _ _ _ rk).trans rfl
        have g2 : Y.drew.cell? ⟨k, 2, none⟩ = some (.int .i64 (last' : Int)) := (cell_of_row _ _ _ _ _ _ rk).trans rfl
        have CL := P2.jc.lastly
        have CS := mkHid P2.jc.story
        rw [← hN.out.hl] at CL
        replace CL := mkHid CL
        have Hq : ∀ w7 t4 t5, (Ll Y.drew.heap.size w7 t4 base' ∧ Lb Y.drew.heap.size w7 t5 bs' ∧ Below Y.drew.heap.size Y.drew w7) → Calls Tryd.prog 38 #[.agg #[.slice r0 base'.length s0, .slice r1 bs'.length s1, .int .i64 (last' : Int)], .agg (styA live' (journalw gen' first' base' bs').length gen' first' t4 t5)] w7 (fun e w' => e = .returned (.bool true) ∧ Below w7.heap.size w7 w') := fun w7 t4 t5 q => by
          have f1 := P2.jc.f1
          have f2 := P2.jc.fN
          have hn := P2.jc.nN
          obtain ⟨gl1, gl2⟩ := P2.jc.gl
          refine holds_eq w7 (P2.b0.keep (stay_below q.2.2)) (P2.b1.keep (stay_below q.2.2)) q.1 q.2.1 ?_ (by omega) (fun x hx => ?_) f1 (by omega) hN.out.hl.symm
          · have := gl1.n
            omega
          · have := (gl2 x hx).n
            omega
        replace Hq := mkHid Hq
        have HN2 := mkHid (And.intro P2 (And.intro (hN.out.lw.below bD) (And.intro rk hN.out.hl)))
        clear hN bD P2 rk Ca Cb hSd hSa kz
        go_upto_region 12 with fail
        go_region_held3 (fun w' => w'.cell? ⟨k, 0, none⟩ = some (.slice r0 base'.length s0) ∧ w'.cell? ⟨k, 1, none⟩ = some (.slice r1 bs'.length s1) ∧ w'.cell? ⟨k, 2, none⟩ = some (.int .i64 (last' : Int))) (first | assumption | exact ⟨g0, g1, g2⟩ | exact hS7 | exact hS8)
          (first
            | (go_at_call 17; with_reducible refine Calls.mono CL.out ?_; rintro e w7 ⟨rfl, hw7⟩; subst hw7)
            | (go_at_call 20; with_reducible refine Calls.mono CS.out ?_; rintro e w7 ⟨t4, t5, rfl, k4, k5, b7⟩; have hS7 := And.intro (cell_below b7 g0) (And.intro (cell_below b7 g1) (cell_below b7 g2)); replace k4 := mkHid (And.intro k4 (And.intro k5 b7)); clear k5 b7; have CHo := mkHid (Hq.out w7 t4 t5 k4.out))
            | (go_at_call 38; with_reducible refine Calls.mono CHo.out ?_; rintro e w8 ⟨rfl, b8⟩; have hS8 := And.intro (cell_below b8 hS7.1) (And.intro (cell_below b8 hS7.2.1) (cell_below b8 hS7.2.2)); replace b8 := mkHid b8))
        have bY8 := k4.out.2.2.trans (b8.out.mono k4.out.2.2.size)
        have P3 := HN2.out.1.below bY8
        have L3 := HN2.out.2.1.below bY8
        have hT := HY.out.2.2.2.1
        have b8r := Below.trans L3.bel (Below.refl _ w8)
        have bY9 : Below Y.heap.size Y w8 := (below_drew Y).trans (bY8.mono (below_drew Y).size)
        replace bY9 := mkHid bY9
        obtain ⟨m0, m1, m2⟩ := hS8
        have st := st_Bk w8 (W.heap.size + 1) _ #[.slice r0 base'.length s0, .slice r1 bs'.length s1, .int .i64 (last' : Int)] rfl rfl (by simp [Value.oneCell']) L3.rb
        have L4 := L3.setR #[.slice r0 base'.length s0, .slice r1 bs'.length s1, .int .i64 (last' : Int)] ⟨_, rfl, nu_slice _ _ _⟩
        have SR : ∀ B', Stay B' (fun t => t = 5 ∨ t = 23 ∨ t = 27) w8 (w8.setRow (W.heap.size + 1) #[.slice r0 base'.length s0, .slice r1 bs'.length s1, .int .i64 (last' : Int)]) := fun B' i c t _ ht hc => setRow_other _ _ _ _ (row_ne hc L3.rb (by rcases ht with rfl | rfl | rfl <;> decide))
        have P4 := P3.free (L3.freR #[.slice r0 base'.length s0, .slice r1 bs'.length s1, .int .i64 (last' : Int)]) (hT.below L4.bel hT.sz) (SR B)
        obtain ⟨w9, hw9⟩ : ∃ w9, w8.setRow (W.heap.size + 1) #[.slice r0 base'.length s0, .slice r1 bs'.length s1, .int .i64 (last' : Int)] = w9 := ⟨_, rfl⟩
        rw [hw9] at st L4 P4 SR
        have C5 := P4.jc.count
        have hz9 : W.heap.size + 3 ≤ w9.heap.size := Nat.le_trans L4.lo3 L4.sz
        obtain ⟨n', hn'⟩ : ∃ n, (sp ++ L).length - 1 = n := ⟨_, rfl⟩
        rw [hn'] at C5
        obtain ⟨ga, gc, w11, hrA, hoA, hgA⟩ := own_addI L4.oc hz9 (by omega) ((n' : Nat) : Int)
        obtain ⟨L5, F5, S5⟩ := L4.addC hoA hgA
        have P5 := P4.free F5 (hT.below L5.bel hT.sz) (S5 _)
        have d0 : w11.cell? ⟨W.heap.size + 1, 0, none⟩ = some (.slice r0 base'.length s0) := (cell_of_row _ _ _ _ _ _ L5.rb).trans rfl
        have d1 : w11.cell? ⟨W.heap.size + 1, 1, none⟩ = some (.slice r1 bs'.length s1) := (cell_of_row _ _ _ _ _ _ L5.rb).trans rfl
        have d2 : w11.cell? ⟨W.heap.size + 1, 2, none⟩ = some (.int .i64 (last' : Int)) := (cell_of_row _ _ _ _ _ _ L5.rb).trans rfl
        have hz11 : W.heap.size + 3 ≤ w11.heap.size := Nat.le_trans L5.lo3 L5.sz
        obtain ⟨gb, gd, w12, hrB, hoB, hgB⟩ := own_addK L5.ob hz11 (by omega) (.slice r0 base'.length s0) (.slice r1 bs'.length s1) (.int .i64 (last' : Int)) rfl rfl rfl
        obtain ⟨L6, F6, S6⟩ := L5.addB hoB hgB
        have P6 := P5.free F6 (hT.below L6.bel hT.sz) (S6 _)
        have hll := HN2.out.2.2.2
        have LV2 : Hid (LvH W lo j v lim B N (i + 1) (.slice ga (i + 1 + 1) gc) (.slice gb (i + 1 + 1) gd) (lifG l (.slice (some ⟨g, o, none⟩) ss.length cu) a k0 k1) w12) := by
          obtain ⟨hW0, -, -, -, hBk, hHs, hcs, hbi, hspl, hP0⟩ := HY.out
          obtain ⟨pre, z, ez, hdz⟩ := P6.jc.lst
          have hlen := hHs.len
          have hbi2 : bks[bks.length - 1]? = some ⟨base, bs, last⟩ := by rw [show bks.length - 1 = i by omega]; exact hbi
          have hH := (hHs.mono (Nat.le_succ (N + i))).step hbi2 K6.out.1 K6.out.2 ez (fun q0 q1 => by rw [hll]; exact hdz q0 q1)
          have hfw := K6.out.1.1
          have bwr : Stay B (fun t => t = 5 ∨ t = 23 ∨ t = 27) wr w12 := fun k' c' t' hk' ht' hc' => by
            have e1 := FOX.out k' c' t' hk' ht' hc'
            have q1 := e1.trans hc'
            have e2 := stay_below (B := B) (T := fun t => t = 5 ∨ t = 23 ∨ t = 27) bY9.out k' c' t' hk' ht' q1
            have q2 := e2.trans q1
            have e3 := SR B k' c' t' hk' ht' q2
            have q3 := e3.trans q2
            have e4 := S5 B k' c' t' hk' ht' q3
            have q4 := e4.trans q3
            exact (S6 B k' c' t' hk' ht' q4).trans (e4.trans (e3.trans (e2.trans e1)))
          refine ⟨live', gen', first', base', bs', sp ++ L, _, _, _, cs ++ [n'], bks ++ [⟨base', bs', last'⟩], P6, ?_, (hBk.keep bwr).add P6.b0 P6.b1, by rw [← hn']; exact hH, by simp; omega, ?_, by simp; omega⟩
          · rw [List.map_append, ← hll]
            exact L6
          · rw [List.getElem?_append_right (by omega), show i + 1 - bks.length = 0 by omega, ← hll]
            rfl
        clear P3 L3 L4 P4 L5 F5 S5 P5 L6 F6 S6 P6 hoA hgA hoB hgB hll hw9 bY8 hT HN2 hz9 hz11 HY CL CS Hq CHo k4 b8 hS7 SR b8r K6 hn' FOX bY9
        go_wp2_with fail
        refine C5.mono ?_
        rintro e w10 ⟨rfl, hw10⟩
        subst hw10
        clear C5
        go_wp2_with fail
        exact ⟨⟨i + 1, _, _, _, _, by simp, rfl, rfl, by omega, LV2⟩, by simp only [intOf]; omega⟩
    · have hW2 : ¬ ((i : Int) < (ss.length : Int) ∧ (i : Int) < 30) := by omega
      have hi9 := hi
      clear hP hW hBk hHs hcs hbi hspl hlast
      by_cases hs : (i : Int) < (ss.length : Int)
      · have h30 : ¬ (i : Int) < 30 := by omega
        clear hW2
        go_wp2_with fail
        (try simp only [Exit.inBlock, Exit.then])
        refine bodyPost_ret (results_tmp4 rfl _ _ _) rfl ?_
        exact ⟨lo, j, v, _, _, rfl, lim, i, lifG l (.slice ou ss.length cu) a k0 k1, by omega, HI.out⟩
      · clear hW2
        go_wp2_with fail
        (try simp only [Exit.inBlock, Exit.then])
        refine bodyPost_ret (results_tmp4 rfl _ _ _) rfl ?_
        exact ⟨lo, j, v, _, _, rfl, lim, i, lifG l (.slice ou ss.length cu) a k0 k1, by omega, HI.out⟩
end Dev
end Go.Proofs.YtfimaflglnemdaaDoor
