/- JournalEach: the law. -/
import Derived.Test.YtfimaflglnemdaaDoorJqM
import Derived.Test.YtfimaflglnemdaaDoorJqN
import Derived.Test.YtfimaflglnemdaaDoorJuZ
namespace Go.Proofs.YtfimaflglnemdaaDoor
open Go.RowKit
open JM
set_option maxRecDepth 20000
namespace Dev
theorem and_ex16 (x : Int) : ∃ r : Nat, bits BinOp.and IntKind.i64 x 65535 = (r : Int) ∧ r ≤ 65535 := by
  have h : (BitVec.ofInt 64 x &&& 65535#64).toNat ≤ 65535 := by rw [BitVec.toNat_and]; exact Nat.and_le_right
  refine ⟨(BitVec.ofInt 64 x &&& 65535#64).toNat, ?_, h⟩
  unfold bits
  simp only [IntKind.bits]
  show IntKind.i64.wrap ((BitVec.ofInt 64 x &&& 65535#64).toNat : Int) = _
  generalize (BitVec.ofInt 64 x &&& 65535#64).toNat = r at h
  rw [IntKind.wrap_i64]
  omega
theorem eqFn (d : Nat) (w : World) (f : Nat) (fi ca : Array Value) : (Op.equalIn (d + 1) 56 (.func (.func f) fi ca) .nilFunc).run Tryd.prog w = .ok false w := by
  simp only [Op.equalIn, Sem.run_bind, run_underlying Tryd.underlying56, Result.andThen_ok, Sem.run_pure]
theorem eqlFn (w : World) (f : Nat) (fi ca : Array Value) : (binOp .eql 56 (.func (.func f) fi ca) .nilFunc).run Tryd.prog w = .ok (.bool false) w := by
  show ((do pure (.bool (← Op.equal 56 (.func (.func f) fi ca) .nilFunc)) : Sem Value)).run Tryd.prog w = _
  rw [Sem.run_bind, show (Op.equal 56 (.func (.func f) fi ca) .nilFunc).run Tryd.prog w = _ from eqFn 9999 w f fi ca]
  rfl
section
variable [Inhabited HoleT] (kS kR ks kJ kE kN kb j v lo live Ln gen first nn st q4 q5 : Nat) (p4 p5 : Option Addr) (base : List (List Nat)) (sb cb : List (List (List Nat)))
/-- What the law has at hand: its variables; the story sb; the journal, which holds cb. -/
structure Ev (B : Nat) (W : World) : Prop where
  S : W.heap[kS]? = some (.cells #[.int .i64 (st : Int)] 3 (0, 0))
  R : W.heap[kR]? = some (.cells #[.bool false] 4 (0, 0))
  b : W.heap[ks]? = some (.cells (styA live Ln gen first (.slice p4 base.length q4) (.slice p5 sb.length q5)) 47 (0, 0))
  J : W.heap[kJ]? = some (.cells #[.pointer (some ⟨j, 0, none⟩)] 51 (0, 0))
  k : W.heap[kb]? = some (.cells #[.pointer (some ⟨j, 0, none⟩)] 51 (0, 0))
  E : W.heap[kE]? = some (.cells #[.func (.func 43) #[] #[.pointer (some ⟨kb, 0, none⟩)]] 56 (0, 0))
  N : W.heap[kN]? = some (.cells #[.int .i64 (sb.length : Int)] 3 (0, 0))
  l4 : Ll B W (.slice p4 base.length q4) base
  l5 : Lb B W (.slice p5 sb.length q5) sb
  js : Js lo W j v 4194304 live gen first nn base cb
variable {kS kR ks kJ kE kN kb j v lo live Ln gen first nn st q4 q5 : Nat} {p4 p5 : Option Addr} {base : List (List Nat)} {sb cb : List (List (List Nat))} {B : Nat} {W W' : World}
theorem Ev.below (h : Ev kS kR ks kJ kE kN kb j v lo live Ln gen first nn st q4 q5 p4 p5 base sb cb B W) (hb : Below W.heap.size W W') : Ev kS kR ks kJ kE kN kb j v lo live Ln gen first nn st q4 q5 p4 p5 base sb cb B W' :=
  have g : ∀ {k : Nat} {o : Obj}, W.heap[k]? = some o → W'.heap[k]? = some o := fun hk => (hb.block _ (Array.getElem?_eq_some_iff.1 hk).1).trans hk
  ⟨g h.S, g h.R, g h.b, g h.J, g h.k, g h.E, g h.N, h.l4.keep (stay_below hb), h.l5.keep (stay_below hb), h.js.below hb⟩
end
theorem run_store_fn {P : Program} {w : World} {a : Addr} {m : Mode} (f : Fn) (fi ca : Array Value) : (store a (.func f fi ca) m).run P w = stored P w a (.func f fi ca) m := run_store P w a _ m rfl
attribute [local go_sem ↓] eqlFn in
attribute [local go_sem] run_store_fn Oper.semAt_some in
set_option maxRecDepth 100000 in
set_option maxHeartbeats 6400000 in
theorem each_any {us : Value} {ss : List (Bool × List (List Nat))} (W : World) (hS : Ss W us ss) (c : Int) (hT : Tc W) :
    Calls Tryd.prog 4 #[us, .int .i64 c] W fun e w' => e = .returned (.bool true) ∧ Below W.heap.size W w' := by
  obtain ⟨V, hV⟩ : ∃ V, (W.alloc (.cells #[.int .i64 c] 3)).alloc (.cells #[.bool false] 4) = V := ⟨_, rfl⟩
  have bV : Below W.heap.size W V := by rw [← hV]; exact below2 _ _ _
  have rS : V.heap[W.heap.size]? = some (.cells #[.int .i64 c] 3 (0, 0)) := by rw [← hV]; exact row2 _ _ _
  have rR : V.heap[W.heap.size + 1]? = some (.cells #[.bool false] 4 (0, 0)) := by rw [← hV]; exact row2n _ _ _
  have zV : V.heap.size = W.heap.size + 2 := by rw [← hV]; simp
  have C1 := grown_any V (hS.below bV) (hT.below bV hT.sz)
  obtain ⟨oa, cap, rfl⟩ := hS.sl
  obtain ⟨r, hr, hr2⟩ := and_ex16 c
  have HW := mkHid (And.intro hT (And.intro bV (And.intro rS (And.intro rR zV))))
  replace hV := mkHid hV
  clear hS hT bV rS rR zV
  refine callsIn_wide.1 (callsIn_of_wp_marks (n := 9) Tryd.func4 rfl trivial (wpIn_wide.2 ?_) rfl)
  simp only [Tryd.ntmps4, List.size_toArray, List.length_cons, List.length_nil, Nat.reduceAdd, Nat.reduceSub, Array.replicate_succ, Array.replicate_zero, List.push_toArray, List.append_toArray, List.nil_append, List.cons_append]
  go_upto_region 1 with fail
  rw [hV.out]
  clear hV
  go_wp2_with fail
  refine C1.mono ?_
  rintro e w1 ⟨live, gen, first, base, bs, x, cA, t4, t5, rfl, hD, h4, h5, fx, fo, hq⟩
  clear C1
  obtain ⟨hb0, hb1, hl0, hl1, hrep⟩ := hq.bytes fx fo
  obtain ⟨g0, g1, e, d0, d1, z0, z1, d01, b1⟩ := id hD
  subst e
  obtain ⟨p4, q4, e4⟩ := h4.sl
  obtain ⟨p5, q5, e5⟩ := h5.sl
  subst e4 e5
  obtain ⟨Ln, hLn⟩ : ∃ Ln, (journalw gen first base bs).length = Ln := ⟨_, rfl⟩
  rw [hLn] at hrep
  obtain ⟨N, hN⟩ : ∃ N, bs.length = N := ⟨_, rfl⟩
  have hN0 : ¬ N = 0 := by rw [← hN]; exact fun h => hq.ne (List.length_eq_zero_iff.1 h)
  rw [hN] at h5
  rw [hN]
  obtain ⟨w2, hw2⟩ : ∃ w2, (w1.alloc (.cells (dkA g0 x.1.1.length g1 x.2.1.length) 26)).alloc (.cells (styA live Ln gen first (.slice p4 base.length q4) (.slice p5 N q5)) 47) = w2 := ⟨_, rfl⟩
  have b12 : Below w1.heap.size w1 w2 := by rw [← hw2]; exact below2 _ _ _
  have ra : w2.heap[w1.heap.size]? = some (.cells (dkA g0 x.1.1.length g1 x.2.1.length) 26 (0, 0)) := by rw [← hw2]; exact row2 _ _ _
  have rb : w2.heap[w1.heap.size + 1]? = some (.cells (styA live Ln gen first (.slice p4 base.length q4) (.slice p5 N q5)) 47 (0, 0)) := by rw [← hw2]; exact row2n _ _ _
  have d0b := (b12.block _ (Array.getElem?_eq_some_iff.1 d0).1).trans d0
  have d1b := (b12.block _ (Array.getElem?_eq_some_iff.1 d1).1).trans d1
  have v0 := bl_row d0b hb0 (by unfold maxLen; omega)
  have v1 := bl_row d1b hb1 (by unfold maxLen; omega)
  have bV2 : Below V.heap.size V w2 := b1.trans (b12.mono b1.size)
  have ca0 : w2.cell? ⟨w1.heap.size, 0, none⟩ = some (.slice (some ⟨g0, 0, none⟩) x.1.1.length x.1.1.length) := (cell_of_row _ _ _ _ _ _ ra).trans rfl
  have ca1 : w2.cell? ⟨w1.heap.size, 1, none⟩ = some (.slice (some ⟨g1, 0, none⟩) x.2.1.length x.2.1.length) := (cell_of_row _ _ _ _ _ _ ra).trans rfl
  have C5 := new_any w2 _ _ _ _ v0 v1 (by unfold LIM; omega) (by unfold LIM; omega)
  unfold dkA styA at hw2
  obtain ⟨a, ha⟩ : ∃ a, w1.heap.size = a := ⟨_, rfl⟩
  rw [ha] at ca0 ca1 rb
  have HQ := mkHid (And.intro hq (And.intro fx (And.intro fo (And.intro hb0 (And.intro hb1 (And.intro hl0 (And.intro hl1 hrep)))))))
  have H2 := mkHid (And.intro bV2 (And.intro rb (And.intro (h4.keep (stay_below b12)) (h5.keep (stay_below b12)))))
  replace hLn := mkHid hLn
  replace hN := mkHid hN
  clear hD d0 d1 z0 z1 d01 b1 b12 d0b d1b v0 v1 ra rb bV2 h4 h5 fx fo hq hb0 hb1 hl0 hl1 hrep
  unfold dkA styA
  rw [hLn.out]
  go_upto_region 2 with fail
  try rw [hw2]
  try rw [ha]
  clear hw2 ha
  go_wp2_with fail
  refine C5.mono ?_
  rintro e w4 ⟨rfl, k4⟩
  clear C5 ca0 ca1
  obtain ⟨fD, hDv⟩ := @dv_of h0 _ _ _ k4 (Nat.zero_le _)
  have b24 : Below w2.heap.size w2 w4 := k4.1
  have bW2 : Below W.heap.size W w2 := HW.out.2.1.trans (H2.out.1.mono HW.out.2.1.size)
  have bW4 : Below W.heap.size W w4 := bW2.trans (b24.mono bW2.size)
  have hT4 : Tc w4 := HW.out.1.below bW4 HW.out.1.sz
  have C6 := @Open_story h0 w2.heap.size (w2.heap.size + 1) 4194304 w4 _ _ _ [] (mo0 x) live ⟨true, true, Ln, gen, first, base, bs, []⟩ hDv b24.size (by decide) hT4 (by decide) (by decide) HQ.out.2.2.2.1 HQ.out.2.2.2.2.1 (by show x.1.1.length ≤ _; have := HQ.out; omega) (by show x.2.1.length ≤ _; have := HQ.out; omega) HQ.out.2.2.2.2.2.2.2 HQ.out.1.lv HQ.out.1.f1 (by have := HQ.out.1.f2; show first + bs.length < _; omega)
  rw [rss_clean (x := mo0 x) (live := live) (n := Ln) (by rw [fl_mo0, HQ.out.2.1, hLn.out]; exact Nat.le_refl _) (by rw [fl_mo0, HQ.out.2.2.1])] at C6
  rw [show ((4194304 : Nat) : Int) = 4194304 from rfl] at C6
  dsimp only [List.nil_append, List.append_nil] at C6
  obtain ⟨lo, hlo⟩ : ∃ lo, w2.heap.size = lo := ⟨_, rfl⟩
  obtain ⟨v, hv⟩ : ∃ v, lo + 1 = v := ⟨_, rfl⟩
  rw [hlo, hv] at C6
  rw [hlo, hv]
  have H4 := mkHid (And.intro b24 (And.intro bW4 (And.intro hT4 (And.intro hlo bW2))))
  clear k4 hDv b24 bW4 bW2 hT4 hlo hv
  go_wp2_with fail
  refine C6.mono ?_
  rintro e w5 ⟨j, rfl, hJ5, fo5⟩
  clear C6
  letI := hJ j
  have hlo2 : w2.heap.size = lo := H4.out.2.2.2.1
  have fo25 : Fo lo w2 w5 := (Fo.of_below H4.out.1).trans fo5
  have hVlo : V.heap.size ≤ lo := by rw [← hlo2]; exact H2.out.1.size
  have b25 : Below w2.heap.size w2 w5 := by rw [hlo2]; exact ⟨fo25.os, fo25.tape, fo25.output, fo25.size, fun k hk => fo25.low k hk (by omega)⟩
  have js5 : Js lo w5 j v 4194304 live gen first 0 base bs := by
    have hJ5 : Jh lo w5 j v 4194304 live gen (first - 1 + bs.length) ([] ++ [mo0 x]) := hJ5
    have := HQ.out.1.len2
    refine ⟨⟨mo0 x, hJ5.jn, ?_, ?_⟩, HQ.out.1.gb, HQ.out.1.gs, HQ.out.1.g1, HQ.out.1.g2, HQ.out.1.f1, HQ.out.1.f2, by omega, by decide, HQ.out.1.lv, HW.out.1.below (H4.out.2.2.2.2.trans (b25.mono H4.out.2.2.2.2.size)) HW.out.1.sz, ?_, by decide⟩
    · rw [fl_mo0, HQ.out.2.1]
    · rw [fl_mo0, HQ.out.2.2.1]
    · exact Nat.lt_of_lt_of_le HW.out.1.sz (Nat.le_trans HW.out.2.1.size hVlo)
  have hWV := HW.out.2.1
  have bV5 : Below V.heap.size V w5 := H2.out.1.trans (b25.mono H2.out.1.size)
  have bW5 : Below W.heap.size W w5 := hWV.trans (bV5.mono hWV.size)
  have rS5 := (bV5.block _ (Array.getElem?_eq_some_iff.1 HW.out.2.2.1).1).trans HW.out.2.2.1
  have rR5 := (bV5.block _ (Array.getElem?_eq_some_iff.1 HW.out.2.2.2.1).1).trans HW.out.2.2.2.1
  have rb5 := (b25.block _ (Array.getElem?_eq_some_iff.1 H2.out.2.1).1).trans H2.out.2.1
  have k45 := H2.out.2.2.1.keep (stay_below b25)
  have k55 := H2.out.2.2.2.keep (stay_below b25)
  obtain ⟨kS, hkS⟩ : ∃ k, W.heap.size = k := ⟨_, rfl⟩
  obtain ⟨kR, hkR⟩ : ∃ k, W.heap.size + 1 = k := ⟨_, rfl⟩
  rw [hkR] at rR5
  rw [hkS] at rS5
  obtain ⟨w6, hw6⟩ : ∃ w6, w5.alloc (.cells #[.pointer (some ⟨j, 0, none⟩)] 51) = w6 := ⟨_, rfl⟩
  have b56 : Below w5.heap.size w5 w6 := by rw [← hw6]; exact (Below.refl _ w5).alloc (Nat.le_refl _) _
  have rJ6 : w6.heap[w5.heap.size]? = some (.cells #[.pointer (some ⟨j, 0, none⟩)] 51 (0, 0)) := by rw [← hw6]; exact heap_alloc_new _ _
  obtain ⟨kJ, hkJ⟩ : ∃ k, w5.heap.size = k := ⟨_, rfl⟩
  rw [hkJ] at rJ6
  have cJ6 : w6.cell? ⟨kJ, 0, none⟩ = some (.pointer (some ⟨j, 0, none⟩)) := (cell_of_row _ _ _ _ _ _ rJ6).trans rfl
  have cs6 : w6.cell? ⟨a + 1, 5, none⟩ = some (.slice p5 N q5) := cell_below b56 ((cell_of_row _ _ _ _ _ _ rb5).trans rfl)
  have hNi : ¬ (N : Int) = 0 := by omega
  have C8 := Each_any (j := j) w6
  have H5 := mkHid (And.intro js5 (And.intro bW5 (And.intro rS5 (And.intro rR5 (And.intro rb5 (And.intro k45 (And.intro k55 (And.intro b56 rJ6))))))))
  replace hw6 := mkHid hw6
  replace hkS := mkHid hkS
  replace hkR := mkHid hkR
  clear js5 hJ5 fo5 hlo2 fo25 hVlo b25 hWV bV5 bW5 rS5 rR5 rb5 k45 k55 b56 rJ6
  go_upto_region 6 with fail
  try rw [hw6.out]
  try rw [hkJ]
  try rw [hkR.out]
  try rw [hkS.out]
  clear hw6 hkJ
  go_wp2_with fail
  refine C8.mono ?_
  rintro e w7 ⟨rfl, hw7⟩
  clear C8
  have b67 : Below w6.heap.size w6 w7 := by rw [hw7]; exact (Below.refl _ w6).alloc (Nat.le_refl _) _
  have rb7 : w7.heap[w6.heap.size]? = some (.cells #[.pointer (some ⟨j, 0, none⟩)] 51 (0, 0)) := by rw [hw7]; exact heap_alloc_new _ _
  obtain ⟨kb, hkb⟩ : ∃ k, w6.heap.size = k := ⟨_, rfl⟩
  rw [hkb] at rb7
  rw [hkb]
  obtain ⟨w8, hw8⟩ : ∃ w8, w7.alloc (.cells #[.func (.func 43) #[] #[.pointer (some ⟨kb, 0, none⟩)]] 56) = w8 := ⟨_, rfl⟩
  have b78 : Below w7.heap.size w7 w8 := by rw [← hw8]; exact (Below.refl _ w7).alloc (Nat.le_refl _) _
  have rE8 : w8.heap[w7.heap.size]? = some (.cells #[.func (.func 43) #[] #[.pointer (some ⟨kb, 0, none⟩)]] 56 (0, 0)) := by rw [← hw8]; exact heap_alloc_new _ _
  obtain ⟨kE, hkE⟩ : ∃ k, w7.heap.size = k := ⟨_, rfl⟩
  rw [hkE] at rE8
  have b68 := b67.trans (b78.mono b67.size)
  have cE8 : w8.cell? ⟨kE, 0, none⟩ = some (.func (.func 43) #[] #[.pointer (some ⟨kb, 0, none⟩)]) := (cell_of_row _ _ _ _ _ _ rE8).trans rfl
  have cs8 := cell_below b68 cs6
  have H8 := mkHid (And.intro b68 (And.intro ((b78.block _ (Array.getElem?_eq_some_iff.1 rb7).1).trans rb7) rE8))
  replace hw8 := mkHid hw8
  replace hkE := mkHid hkE
  clear hw7 b67 rb7 hkb b78 rE8 b68 cJ6 cs6
  go_upto_region 9 with fail
  try rw [hw8.out]
  try rw [hkE.out]
  clear hw8 hkE
  obtain ⟨w9, hw9⟩ : ∃ w9, w8.alloc (.cells #[.int .i64 (N : Int)] 3) = w9 := ⟨_, rfl⟩
  have b89 : Below w8.heap.size w8 w9 := by rw [← hw9]; exact (Below.refl _ w8).alloc (Nat.le_refl _) _
  have rN9 : w9.heap[w8.heap.size]? = some (.cells #[.int .i64 (N : Int)] 3 (0, 0)) := by rw [← hw9]; exact heap_alloc_new _ _
  obtain ⟨kN, hkN⟩ : ∃ k, w8.heap.size = k := ⟨_, rfl⟩
  rw [hkN] at rN9
  have b69 := H8.out.1.trans (b89.mono H8.out.1.size)
  have b59 := H5.out.2.2.2.2.2.2.2.1.trans (b69.mono H5.out.2.2.2.2.2.2.2.1.size)
  have rS9 := (b59.block _ (Array.getElem?_eq_some_iff.1 H5.out.2.2.1).1).trans H5.out.2.2.1
  have cS9 : w9.cell? ⟨kS, 0, none⟩ = some (.int .i64 c) := (cell_of_row _ _ _ _ _ _ rS9).trans rfl
  have fS9 : w9.frozen? ⟨kS, 0, none⟩ = false := frozen_of_row _ _ _ _ _ rS9
  have cN9 : w9.cell? ⟨kN, 0, none⟩ = some (.int .i64 (N : Int)) := (cell_of_row _ _ _ _ _ _ rN9).trans rfl
  obtain ⟨m, hm⟩ : ∃ m, r % N = m := ⟨_, rfl⟩
  have hmN : m < N := by rw [← hm]; exact Nat.mod_lt _ (by omega)
  obtain ⟨st, hst⟩ : ∃ st, 1 + m = st := ⟨_, rfl⟩
  have hN5 : N ≤ 500 := by have := HQ.out.1.f3; have := hN.out; omega
  have q1 : (r : Int).tmod (N : Int) = (m : Int) := by rw [Int.tmod_eq_emod_of_nonneg (by omega), ← hm]; simp
  have q2 : IntKind.i64.wrap (m : Int) = (m : Int) := by rw [IntKind.wrap_i64]; omega
  have q3 : IntKind.i64.wrap (1 + (m : Int)) = (st : Int) := by rw [IntKind.wrap_i64]; omega
  replace hw9 := mkHid hw9
  replace hkN := mkHid hkN
  have H9 := mkHid (And.intro b89 (And.intro rN9 (And.intro b59 rS9)))
  clear b89 rN9 b69 b59 rS9
  go_upto_region 12 with fail
  try rw [hw9.out]
  try rw [hkN.out]
  clear hw9
  go_upto_region 13 with fail
  have rS9 := H9.out.2.2.2
  have bW9 : Below W.heap.size W w9 := H5.out.2.1.trans (H9.out.2.2.1.mono H5.out.2.1.size)
  have b69 := H8.out.1.trans (H9.out.1.mono H8.out.1.size)
  have rb9 := (H9.out.2.2.1.block _ (Array.getElem?_eq_some_iff.1 H5.out.2.2.2.2.1).1).trans H5.out.2.2.2.2.1
  have rR9 := (H9.out.2.2.1.block _ (Array.getElem?_eq_some_iff.1 H5.out.2.2.2.1).1).trans H5.out.2.2.2.1
  have rJ9 := (b69.block _ (Array.getElem?_eq_some_iff.1 H5.out.2.2.2.2.2.2.2.2).1).trans H5.out.2.2.2.2.2.2.2.2
  have rk9 := (H9.out.1.block _ (Array.getElem?_eq_some_iff.1 H8.out.2.1).1).trans H8.out.2.1
  have rE9 := (H9.out.1.block _ (Array.getElem?_eq_some_iff.1 H8.out.2.2).1).trans H8.out.2.2
  have rN9 := H9.out.2.1
  have hkNS : kN ≠ kS := by
    have q1 := hkN.out
    have q2 := hkS.out
    have q3 := (Array.getElem?_eq_some_iff.1 H8.out.2.2).1
    have q4 := (Array.getElem?_eq_some_iff.1 H5.out.2.2.1).1
    have q5 := H5.out.2.2.2.2.2.2.2.1.size
    have q6 := H8.out.1.size
    omega
  have eA0 : w9.setCell ⟨kS, 0, none⟩ (.int .i64 (st : Int)) = w9.setRow kS #[.int .i64 (st : Int)] := setCell_eq_setRow w9 kS 0 _ _ _ _ rS9
  obtain ⟨A0, hA0⟩ : ∃ A0, w9.setCell ⟨kS, 0, none⟩ (.int .i64 (st : Int)) = A0 := ⟨_, rfl⟩
  rw [hA0] at eA0
  have aS : A0.heap[kS]? = some (.cells #[.int .i64 (st : Int)] 3 (0, 0)) := by rw [eA0]; exact setRow_heap _ _ _ _ _ _ rS9
  have oth : ∀ k o, w9.heap[k]? = some o → k ≠ kS → A0.heap[k]? = some o := fun k o h hn => by rw [eA0]; exact (setRow_other _ _ _ _ hn).trans h
  have aR := oth _ _ rR9 (row_ne rR9 rS9 (by decide))
  have ab := oth _ _ rb9 (row_ne rb9 rS9 (by decide))
  have aJ := oth _ _ rJ9 (row_ne rJ9 rS9 (by decide))
  have ak := oth _ _ rk9 (row_ne rk9 rS9 (by decide))
  have aE := oth _ _ rE9 (row_ne rE9 rS9 (by decide))
  have aN := oth _ _ rN9 hkNS
  have bWA : Below W.heap.size W A0 := by rw [eA0]; exact below_setRow bW9 (Nat.le_of_eq hkS.out) _
  have hTA : Tc A0 := HW.out.1.below bWA HW.out.1.sz
  have jsA : Js lo A0 j v 4194304 live gen first 0 base bs := by
    have := (H5.out.1.below H9.out.2.2.1).free (Fre.setRow rS9 (by decide) (fun m h => by simp at h) #[.int .i64 (st : Int)]) (eA0 ▸ hTA)
    rw [eA0]
    exact this
  have evA : Ev kS kR (a + 1) kJ kE kN kb j v lo live Ln gen first 0 st q4 q5 p4 p5 base bs bs V.heap.size A0 := by
    have l4 := (H5.out.2.2.2.2.2.1.keep (stay_below H9.out.2.2.1)).keep (B := V.heap.size) (w' := A0) (fun k c t _ ht hc => by rw [eA0]; exact setRow_other _ _ _ _ (row_ne hc rS9 (by rcases ht with rfl | rfl <;> decide)))
    have l5 := (H5.out.2.2.2.2.2.2.1.keep (stay_below H9.out.2.2.1)).keep (B := V.heap.size) (w' := A0) (fun k c t _ ht hc => by rw [eA0]; exact setRow_other _ _ _ _ (row_ne hc rS9 (by rcases ht with rfl | rfl | rfl <;> decide)))
    rw [← hN.out] at l5 ab aN
    exact ⟨aS, aR, ab, aJ, ak, aE, aN, l4, l5, jsA⟩
  obtain ⟨A, hA⟩ : ∃ A, A0.alloc (.cells #[.int .i64 0] 3) = A := ⟨_, rfl⟩
  have b0A : Below A0.heap.size A0 A := by rw [← hA]; exact (Below.refl _ A0).alloc (Nat.le_refl _) _
  have rq : A.heap[A0.heap.size]? = some (.cells #[.int .i64 0] 3 (0, 0)) := by rw [← hA]; exact heap_alloc_new _ _
  have cE : A.cell? ⟨kE, 0, none⟩ = some (.func (.func 43) #[] #[.pointer (some ⟨kb, 0, none⟩)]) := (cell_of_row _ _ _ _ _ _ (evA.below b0A).E).trans rfl
  have HA := mkHid (And.intro evA (And.intro bWA (And.intro b0A (And.intro rq hTA))))
  replace hA := mkHid hA
  clear rS9 bW9 b69 rb9 rR9 rJ9 rk9 rE9 rN9 hkNS eA0 aS oth aR ab aJ ak aE aN bWA hTA jsA evA b0A rq cs8 cE8 cS9 fS9 cN9 q1 q2 q3
  go_upto_region 14 with fail
  try rw [hA0]
  rw [hA.out]
  obtain ⟨kq, hkq⟩ : ∃ k, A0.heap.size = k := ⟨_, rfl⟩
  rw [hkq] at HA
  rw [hkq]
  clear hA0 hA
  go_wp2_with fail
  have b0A := HA.out.2.2.1
  have cbA : A.cell? ⟨kb, 0, none⟩ = some (.pointer (some ⟨j, 0, none⟩)) := (cell_of_row _ _ _ _ _ _ (HA.out.1.below (hkq.symm ▸ b0A)).k).trans rfl
  have hitA := (HA.out.1.below (hkq.symm ▸ b0A)).js.iter 8 kb cbA
  refine wpIn_wide.1 (Rg.loop_out (F := Fence.wide) (n := 9) rfl (by decide) (gf := 43) (lb := #[.pointer (some ⟨kb, 0, none⟩)]) rfl trivial (enters_of Tryd.func43 (by kernel_rfl) rfl) hitA (Below.refl _ _) KpB.trans (fun W l o o' h ho => KpB.put _ W l o o' h ho) (fun i x => vb_own) (fun i x W h => by obtain ⟨_, _, rfl, _⟩ := h; rfl)
    (fun i U => Frm (· = kq) A U ∧ U.heap[kq]? = some (.cells #[.int .i64 (i : Int)] 3 (0, 0)) ∧ i < st)
    (fun c U => c = .exit 0 ∧ Frm (· = kq) A U ∧ U.heap[kq]? = some (.cells #[.int .i64 (st : Int)] 3 (0, 0)))
    (OwnFrom.and (Frm.own (Nat.le_refl _)) (OwnFrom.and (row_own (c := fun (s : Nat) => #[.int .i64 (s : Int)])) (ownFrom_pure _ _)))
    (fun c => OwnFrom.and (ownFrom_pure _ (fun _ => c = .exit 0)) (OwnFrom.and (Frm.own (Nat.le_refl _)) (row_own (c := fun (_ : Unit) => #[.int .i64 (st : Int)]))))
    ⟨Frm.refl _ _, HA.out.2.2.2.1, by omega⟩ ?round ?done ?stop)
  case done =>
    rintro U ⟨-, -, hh⟩ -
    have := hN.out
    omega
  case round =>
    intro l i xx U hi hv
    obtain ⟨y, hi2, rfl, ly⟩ := hv
    gi_wp2
    refine ⟨trivial, fun W2 hl hI hv2 => ?_⟩
    obtain ⟨hF, hrq, hist⟩ := hI
    obtain ⟨y2, hi3, ey, ly2⟩ := hv2
    obtain rfl : y = y2 := by
      have := congrArg (fun (z : Array Value) => z.getD 1 undef) ey
      simpa using this
    clear ey ly
    have b02 : Below A0.heap.size A0 W2 := hF.bel (hkq.symm ▸ b0A) (fun k e => by omega)
    have ev := HA.out.1.below b02
    obtain ⟨ga, cc, z, e5, cz, lz⟩ := ev.l5.get hi3
    injection e5 with e5 el ec
    clear el
    subst e5 ec
    have cq : W2.cell? ⟨kq, 0, none⟩ = some (.int .i64 (i : Int)) := (cell_of_row _ _ _ _ _ _ hrq).trans rfl
    have fq : W2.frozen? ⟨kq, 0, none⟩ = false := frozen_of_row _ _ _ _ _ hrq
    have cN : W2.cell? ⟨kN, 0, none⟩ = some (.int .i64 (bs.length : Int)) := (cell_of_row _ _ _ _ _ _ ev.N).trans rfl
    have cs3 : W2.cell? ⟨a + 1, 3, none⟩ = some (.int .i64 (first : Int)) := (cell_of_row _ _ _ _ _ _ ev.b).trans rfl
    have cs5 : W2.cell? ⟨a + 1, 5, none⟩ = some (.slice (some ⟨ga, 0, none⟩) bs.length q5) := (cell_of_row _ _ _ _ _ _ ev.b).trans rfl
    have cEv : W2.cell? ⟨kE, 0, none⟩ = some (.func (.func 43) #[] #[.pointer (some ⟨kb, 0, none⟩)]) := (cell_of_row _ _ _ _ _ _ ev.E).trans rfl
    have n1 : ¬ (bs.length : Int) ≤ (i : Int) := by omega
    have n2 : IntKind.i64.wrap ((first : Int) + (i : Int)) = (first : Int) + (i : Int) := by have := HQ.out.1.f2; rw [IntKind.wrap_i64]; omega
    have n3 : (0 : Int) ≤ (i : Int) := by omega
    have n4 : (i : Int) < (bs.length : Int) := by omega
    have hz20 := HQ.out.1.s20 _ (List.getElem_mem hi3)
    have CE := sameLists_eq W2 ly2 lz (by omega)
    obtain ⟨oy, cy, ey⟩ := ly2.sl
    obtain ⟨oz, cz2, ez⟩ := lz.sl
    subst ey ez
    have HR := mkHid (And.intro hl (And.intro hF (And.intro b02 (And.intro ev (And.intro hrq hist)))))
    clear hl hF ev ly2 lz hrq hist
    gi_wp2
    refine ⟨trivial, CallsIn.inRound l (callsIn_wide.2 (CE.mono ?_))⟩
    rintro e W3 ⟨rfl, hm3⟩
    have b23 : Below W2.heap.size W2 W3 := by obtain ⟨mm, e⟩ := hm3; rw [e]; exact below_drewN (Below.refl _ _) _
    clear CE hm3 n1 n2 n3 n4 cz cs3 cs5 cN
    have cE3 := cell_below b23 cEv
    have cE4 := cell_below ((Below.refl _ W3).alloc (Nat.le_refl _) (.cells #[.int .i64 0] 3)) cE3
    obtain ⟨W4, hW4⟩ : ∃ W4, W3.alloc (.cells #[.int .i64 0] 3) = W4 := ⟨_, rfl⟩
    have b34 : Below W3.heap.size W3 W4 := by rw [← hW4]; exact (Below.refl _ W3).alloc (Nat.le_refl _) _
    have ri : W4.heap[W3.heap.size]? = some (.cells #[.int .i64 0] 3 (0, 0)) := by rw [← hW4]; exact heap_alloc_new _ _
    have b24 := b23.trans (b34.mono b23.size)
    replace hW4 := mkHid hW4
    gi_wp2
    rw [hW4.out]
    obtain ⟨ki, hki⟩ : ∃ k, W3.heap.size = k := ⟨_, rfl⟩
    rw [hki] at ri
    try rw [hki]
    obtain ⟨lr, hl2⟩ := HR.out.1
    have hl4 := (b24.block l (Array.getElem?_eq_some_iff.1 hl2).1).trans hl2
    have ev4 := HR.out.2.2.2.1.below b24
    have cb4 : W4.cell? ⟨kb, 0, none⟩ = some (.pointer (some ⟨j, 0, none⟩)) := (cell_of_row _ _ _ _ _ _ ev4.k).trans rfl
    have hit4 : Rg.Iter (Fence.wide.inRound l) (7 - 1) Tryd.prog 43 #[.pointer (some ⟨kb, 0, none⟩)] bs.length (Vb W4.heap.size first bs) (KpB W4.heap.size) W4 := ev4.js.iter 6 kb cb4
    have hki2 : W2.heap.size ≤ ki := by rw [← hki]; exact b23.size
    have b04 : Below A0.heap.size A0 W4 := HR.out.2.2.1.trans (b24.mono HR.out.2.2.1.size)
    have hk0 : A0.heap.size ≤ ki := Nat.le_trans HR.out.2.2.1.size hki2
    refine Rg.loop_in (F := Fence.wide.inRound l) (n := 7) rfl hl4 (by decide) (gf := 43) (lb := #[.pointer (some ⟨kb, 0, none⟩)]) rfl trivial (enters_of Tryd.func43 (by kernel_rfl) rfl) hit4 (Below.refl _ _) KpB.trans (fun W l o o' h ho => KpB.put _ W l o o' h ho) (fun i x => vb_own) (fun i x W h => by obtain ⟨_, _, rfl, _⟩ := h; rfl)
      (fun q U => Frm (· = ki) W4 U ∧ U.heap[ki]? = some (.cells #[.int .i64 (q : Int)] 3 (0, 0)) ∧ q < st)
      (fun c U => c = .exit 2 ∧ Frm (· = ki) W4 U ∧ U.heap[ki]? = some (.cells #[.int .i64 (st : Int)] 3 (0, 0)))
      (OwnFrom.and (Frm.own (Nat.le_refl _)) (OwnFrom.and (row_own (c := fun (s : Nat) => #[.int .i64 (s : Int)])) (ownFrom_pure _ _)))
      (fun c => OwnFrom.and (ownFrom_pure _ (fun _ => c = .exit 2)) (OwnFrom.and (Frm.own (Nat.le_refl _)) (row_own (c := fun (_ : Unit) => #[.int .i64 (st : Int)]))))
      ⟨Frm.refl _ _, ri, by omega⟩ ?round2 ?done2 ?stop2
    case done2 =>
      rintro U ⟨-, -, hh⟩
      have := hN.out
      omega
    case round2 =>
      intro l2 q xx U2 hq hv
      obtain ⟨y, hq2, rfl, ly⟩ := hv
      gi_wp2
      refine ⟨trivial, fun W5 _ hI hv2 => ?_⟩
      obtain ⟨hF, hrq, hqst⟩ := hI
      obtain ⟨y2, hq3, ey, ly2⟩ := hv2
      obtain rfl : y = y2 := by
        have := congrArg (fun (z : Array Value) => z.getD 1 undef) ey
        simpa using this
      clear ey ly
      have b05 : Below A0.heap.size A0 W5 := hF.bel b04 (fun k e => by omega)
      have ev5 := HA.out.1.below b05
      obtain ⟨ga', cc', z, e5, cz, lz⟩ := ev5.l5.get hq3
      injection e5 with e5 el ec
      clear el
      injection e5 with e5
      injection e5 with e5
      subst e5 ec
      have ci : W5.cell? ⟨ki, 0, none⟩ = some (.int .i64 (q : Int)) := (cell_of_row _ _ _ _ _ _ hrq).trans rfl
      have cS : W5.cell? ⟨kS, 0, none⟩ = some (.int .i64 (st : Int)) := (cell_of_row _ _ _ _ _ _ ev5.S).trans rfl
      have cs3 : W5.cell? ⟨a + 1, 3, none⟩ = some (.int .i64 (first : Int)) := (cell_of_row _ _ _ _ _ _ ev5.b).trans rfl
      have cs5 : W5.cell? ⟨a + 1, 5, none⟩ = some (.slice (some ⟨ga, 0, none⟩) bs.length q5) := (cell_of_row _ _ _ _ _ _ ev5.b).trans rfl
      have n1 : ¬ (bs.length : Int) ≤ (q : Int) := by omega
      have n2 : IntKind.i64.wrap ((first : Int) + (q : Int)) = (first : Int) + (q : Int) := by have := HQ.out.1.f2; rw [IntKind.wrap_i64]; omega
      have n3 : (0 : Int) ≤ (q : Int) := by omega
      have n4 : (q : Int) < (bs.length : Int) := by omega
      have hz20 := HQ.out.1.s20 _ (List.getElem_mem hq3)
      have CE := sameLists_eq W5 ly2 lz (by omega)
      obtain ⟨oy2, cy2', ey⟩ := ly2.sl
      obtain ⟨oz2, cz2', ez⟩ := lz.sl
      subst ey ez
      have HR2 := mkHid (And.intro hF (And.intro ev5 (And.intro hrq hqst)))
      clear hF ev5 ly2 lz hrq hqst
      gi_wp2
      refine ⟨trivial, CallsIn.inRound l2 (CallsIn.inRound l (callsIn_wide.2 (CE.mono ?_)))⟩
      rintro e W6 ⟨rfl, hm6⟩
      have b56 : Below W5.heap.size W5 W6 := by obtain ⟨mm, e⟩ := hm6; rw [e]; exact below_drewN (Below.refl _ _) _
      have r6 := (b56.block _ (Array.getElem?_eq_some_iff.1 HR2.out.2.2.1).1).trans HR2.out.2.2.1
      have ci6 : W6.cell? ⟨ki, 0, none⟩ = some (.int .i64 (q : Int)) := (cell_of_row _ _ _ _ _ _ r6).trans rfl
      have fi6 : W6.frozen? ⟨ki, 0, none⟩ = false := frozen_of_row _ _ _ _ _ r6
      have cS6 := cell_below b56 cS
      have hkn : ¬ kS = ki := by have := (Array.getElem?_eq_some_iff.1 HA.out.1.S).1; omega
      have hkn2 : ¬ ki = kS := fun e => hkn e.symm
      have rX : (W6.setCell ⟨ki, 0, none⟩ (.int .i64 ((q + 1 : Nat) : Int))).heap[ki]? = some (.cells #[.int .i64 ((q + 1 : Nat) : Int)] 3 (0, 0)) := by
        rw [setCell_eq_setRow W6 ki 0 _ _ _ _ r6]
        exact setRow_heap _ _ _ _ _ _ r6
      have b46 : Frm (· = ki) W4 W6 := HR2.out.1.trans (Frm.of_below b56)
      have fX : Frm (· = ki) W4 (W6.setCell ⟨ki, 0, none⟩ (.int .i64 ((q + 1 : Nat) : Int))) := b46.setC rfl _
      have gX : Frm (· = ki) W5 (W6.setCell ⟨ki, 0, none⟩ (.int .i64 ((q + 1 : Nat) : Int))) := (Frm.of_below (X := (· = ki)) b56).setC rfl _
      have kX := gX.keeps (fun k e => ⟨_, _, e ▸ HR2.out.2.2.1⟩) W4.heap.size
      have pX : KpB W4.heap.size W5 _ := gX.kp (fun k e => by have := (Array.getElem?_eq_some_iff.1 ri).1; omega)
      have hq1 := HR2.out.2.2.2
      have u1 : IntKind.i64.wrap ((q : Int) + 1) = ((q + 1 : Nat) : Int) := by have := hN.out; rw [IntKind.wrap_i64]; omega
      have HX := mkHid (And.intro rX (And.intro fX (And.intro kX (And.intro pX hq1))))
      clear CE hm6 n1 n2 n3 n4 cz cs3 cs5 b56 r6 b46 rX fX gX kX pX hq1
      by_cases hs : q + 1 = st
      · have hs2 : ((q + 1 : Nat) : Int) = (st : Int) := by omega
        gi_wp2
        rw [hs2] at HX
        exact ⟨HX.out.2.2.1, rfl, HX.out.2.1, HX.out.1⟩
      · have hs2 : ¬ ((q + 1 : Nat) : Int) = (st : Int) := by omega
        gi_wp2
        exact ⟨HX.out.2.2.1, HX.out.2.2.2.1, HX.out.2.1, HX.out.1, by have := HX.out.2.2.2.2; omega⟩
    case stop2 =>
      rintro c U ⟨rfl, hF, hr⟩
      have b2U : Below W2.heap.size W2 U := hF.bel b24 (fun k e => by omega)
      have evU := HR.out.2.2.2.1.below b2U
      have rqU := (b2U.block _ (Array.getElem?_eq_some_iff.1 HR.out.2.2.2.2.1).1).trans HR.out.2.2.2.2.1
      have ciU : U.cell? ⟨ki, 0, none⟩ = some (.int .i64 (st : Int)) := (cell_of_row _ _ _ _ _ _ hr).trans rfl
      have cSU : U.cell? ⟨kS, 0, none⟩ = some (.int .i64 (st : Int)) := (cell_of_row _ _ _ _ _ _ evU.S).trans rfl
      have cqU : U.cell? ⟨kq, 0, none⟩ = some (.int .i64 (i : Int)) := (cell_of_row _ _ _ _ _ _ rqU).trans rfl
      have fqU : U.frozen? ⟨kq, 0, none⟩ = false := frozen_of_row _ _ _ _ _ rqU
      have hkn : ¬ kS = kq := by have := (Array.getElem?_eq_some_iff.1 HA.out.1.S).1; omega
      have hkn2 : ¬ kq = kS := fun e => hkn e.symm
      have rX : (U.setCell ⟨kq, 0, none⟩ (.int .i64 ((i + 1 : Nat) : Int))).heap[kq]? = some (.cells #[.int .i64 ((i + 1 : Nat) : Int)] 3 (0, 0)) := by
        rw [setCell_eq_setRow U kq 0 _ _ _ _ rqU]
        exact setRow_heap _ _ _ _ _ _ rqU
      have fX : Frm (· = kq) A (U.setCell ⟨kq, 0, none⟩ (.int .i64 ((i + 1 : Nat) : Int))) := (HR.out.2.1.trans (Frm.of_below b2U)).setC rfl _
      have gX : Frm (· = kq) W2 (U.setCell ⟨kq, 0, none⟩ (.int .i64 ((i + 1 : Nat) : Int))) := (Frm.of_below (X := (· = kq)) b2U).setC rfl _
      have kX := gX.keeps (fun k e => ⟨_, _, e ▸ HR.out.2.2.2.2.1⟩) A.heap.size
      have pX : KpB A.heap.size W2 _ := gX.kp (fun k e => by have := (Array.getElem?_eq_some_iff.1 HA.out.2.2.2.1).1; omega)
      have hi1 := HR.out.2.2.2.2.2
      have u1 : IntKind.i64.wrap ((i : Int) + 1) = ((i + 1 : Nat) : Int) := by have := hN.out; rw [IntKind.wrap_i64]; omega
      have HX := mkHid (And.intro rX (And.intro fX (And.intro kX (And.intro pX hi1))))
      clear hF hr b2U evU rqU rX fX gX kX pX hi1
      rename_i K HK
      refine wpIn_exit (HK _ _ ?_)
      clear HK
      by_cases hs : i + 1 = st
      · have hs2 : ((i + 1 : Nat) : Int) = (st : Int) := by omega
        gi_wp2
        rw [hs2] at HX
        exact ⟨HX.out.2.2.1, rfl, HX.out.2.1, HX.out.1⟩
      · have hs2 : ¬ ((i + 1 : Nat) : Int) = (st : Int) := by omega
        gi_wp2
        exact ⟨HX.out.2.2.1, HX.out.2.2.2.1, HX.out.2.1, HX.out.1, by have := HX.out.2.2.2.2; omega⟩
  case stop =>
    rintro c U ⟨rfl, hF, hr⟩ hK
    have b0U : Below A0.heap.size A0 U := hF.bel (hkq.symm ▸ b0A) (fun k e => by omega)
    have evU := HA.out.1.below b0U
    have cqU : U.cell? ⟨kq, 0, none⟩ = some (.int .i64 (st : Int)) := (cell_of_row _ _ _ _ _ _ hr).trans rfl
    have fqU : U.frozen? ⟨kq, 0, none⟩ = false := frozen_of_row _ _ _ _ _ hr
    have cSU : U.cell? ⟨kS, 0, none⟩ = some (.int .i64 (st : Int)) := (cell_of_row _ _ _ _ _ _ evU.S).trans rfl
    have hkE : ¬ kE = kq := by have := (Array.getElem?_eq_some_iff.1 HA.out.1.E).1; omega
    have hkE2 : ¬ kq = kE := fun e => hkE e.symm
    have cEU : U.cell? ⟨kE, 0, none⟩ = some (.func (.func 43) #[] #[.pointer (some ⟨kb, 0, none⟩)]) := (cell_of_row _ _ _ _ _ _ evU.E).trans rfl
    obtain ⟨C0, hC0⟩ : ∃ C0, U.setCell ⟨kq, 0, none⟩ (.int .i64 0) = C0 := ⟨_, rfl⟩
    have rq0 : C0.heap[kq]? = some (.cells #[.int .i64 0] 3 (0, 0)) := by
      rw [← hC0, setCell_eq_setRow U kq 0 _ _ _ _ hr]
      exact setRow_heap _ _ _ _ _ _ hr
    have oth0 : ∀ k : Nat, k ≠ kq → C0.heap[k]? = U.heap[k]? := fun k hk => by rw [← hC0]; exact heap_setCell_other U ⟨kq, 0, none⟩ k _ hk
    have b0C : Below A0.heap.size A0 C0 := by
      rw [← hC0]
      exact (hF.setC rfl _).bel (hkq.symm ▸ b0A) (fun k e => by omega)
    have hK0 : C0.heap[A.heap.size]? = some (.deferred (some [])) := (oth0 _ (by have := (Array.getElem?_eq_some_iff.1 HA.out.2.2.2.1).1; omega)).trans hK
    have evC := HA.out.1.below b0C
    have cEC : C0.cell? ⟨kE, 0, none⟩ = some (.func (.func 43) #[] #[.pointer (some ⟨kb, 0, none⟩)]) := (cell_of_row _ _ _ _ _ _ evC.E).trans rfl
    have HC := mkHid (And.intro evC (And.intro b0C (And.intro rq0 hK0)))
    replace hC0 := mkHid hC0
    rename_i K HK
    refine wpIn_exit (HK _ _ ?_)
    clear HK hF hr hK b0U evU rq0 oth0 b0C hK0 evC
    go_upto_region 34 with fail
    rw [hC0.out]
    go_wp2_with fail
    have hloq : lo ≤ kq := by rw [← hkq]; exact HA.out.1.js.hlo
    have cbC : C0.cell? ⟨kb, 0, none⟩ = some (.pointer (some ⟨j, 0, none⟩)) := (cell_of_row _ _ _ _ _ _ HC.out.1.k).trans rfl
    have hitC := HC.out.1.js.iter 8 kb cbC
    refine wpIn_wide.1 (Rg.loop_out (F := Fence.wide) (n := 9) rfl (by decide) (gf := 43) (lb := #[.pointer (some ⟨kb, 0, none⟩)]) rfl trivial (enters_of Tryd.func43 (by kernel_rfl) rfl) hitC (Below.refl _ _) KpB.trans (fun W l o o' h ho => KpB.put _ W l o o' h ho) (fun i x => vb_own) (fun i x W h => by obtain ⟨_, _, rfl, _⟩ := h; rfl)
      (fun i U => Fx lo kq C0 U ∧ U.heap[kq]? = some (.cells #[.int .i64 (i : Int)] 3 (0, 0)) ∧ Js lo U j v 4194304 live gen first (nC i) base (bC bs i))
      (fun _ _ => False)
      (OwnFrom.and (Fx.own (Nat.le_refl _)) (OwnFrom.and (row_own (c := fun (s : Nat) => #[.int .i64 (s : Int)])) Js.own))
      (fun _ _ _ _ _ h _ _ => h.elim)
      ⟨Fx.refl _ _ _, HC.out.2.2.1, HC.out.1.js⟩ ?roundC ?doneC ?stopC)
    case stopC => exact fun _ _ h => h.elim
    case roundC =>
      intro l i xx U2 hi hv
      obtain ⟨y, hi2, rfl, ly⟩ := hv
      gi_wp2
      refine ⟨trivial, fun W2 hl hI hv2 => ?_⟩
      obtain ⟨hF, hrq, hjs⟩ := hI
      obtain ⟨y2, hi3, ey, ly2⟩ := hv2
      obtain rfl : y = y2 := by
        have := congrArg (fun (z : Array Value) => z.getD 1 undef) ey
        simpa using this
      clear ey ly
      have hq' := (Array.getElem?_eq_some_iff.1 HA.out.1.E).1
      have rJ := hF.oth _ _ _ (by have := (Array.getElem?_eq_some_iff.1 HA.out.1.J).1; omega) HC.out.1.J (by decide) (by decide) (by decide)
      have rN := hF.oth _ _ _ (by have := (Array.getElem?_eq_some_iff.1 HA.out.1.N).1; omega) HC.out.1.N (by decide) (by decide) (by decide)
      have rb := hF.oth _ _ _ (by have := (Array.getElem?_eq_some_iff.1 HA.out.1.b).1; omega) HC.out.1.b (by decide) (by decide) (by decide)
      have cJ : W2.cell? ⟨kJ, 0, none⟩ = some (.pointer (some ⟨j, 0, none⟩)) := (cell_of_row _ _ _ _ _ _ rJ).trans rfl
      have cN : W2.cell? ⟨kN, 0, none⟩ = some (.int .i64 (bs.length : Int)) := (cell_of_row _ _ _ _ _ _ rN).trans rfl
      have cs3 : W2.cell? ⟨a + 1, 3, none⟩ = some (.int .i64 (first : Int)) := (cell_of_row _ _ _ _ _ _ rb).trans rfl
      have cq : W2.cell? ⟨kq, 0, none⟩ = some (.int .i64 (i : Int)) := (cell_of_row _ _ _ _ _ _ hrq).trans rfl
      have fq : W2.frozen? ⟨kq, 0, none⟩ = false := frozen_of_row _ _ _ _ _ hrq
      have hz20 := HQ.out.1.s20 _ (List.getElem_mem hi3)
      have hz2 : ¬ (20 : Int) < (bs[i].length : Int) := by omega
      have n2 : IntKind.i64.wrap ((first : Int) + (i : Int)) = (first : Int) + (i : Int) := by have := HQ.out.1.f2; rw [IntKind.wrap_i64]; omega
      have u1 : IntKind.i64.wrap ((i : Int) + 1) = ((i + 1 : Nat) : Int) := by have := hN.out; rw [IntKind.wrap_i64]; omega
      obtain ⟨oy, cy, ey⟩ := ly2.sl
      subst ey
      clear ly2
      by_cases h0 : i = 0
      · subst h0
        replace hjs : Js lo W2 j v 4194304 live gen first 0 base bs := hjs
        obtain ⟨V3, hV3⟩ : ∃ V3, (W2.alloc (.cells #[.int .u8 1, .int .u8 2] 5)).alloc (.cells #[.slice (some ⟨W2.heap.size, 0, none⟩) 2 2] 23) = V3 := ⟨_, rfl⟩
        have b23 : Below W2.heap.size W2 V3 := by rw [← hV3]; exact below2 _ _ _
        have hll := ll12 W2
        rw [hV3] at hll
        have CM := (hjs.below b23).commit hll ⟨by decide, by intro x hx; simp at hx; subst hx; exact ⟨by decide, by intro y hy; simp at hy; omega⟩⟩ (by decide) (by have := HQ.out.1.len2; show _ + (26 + 24) ≤ _; omega) (by decide) (by have := HQ.out.1.f3; omega)
        have hm1 : first - 1 + (bs ++ [[[1, 2]]]).length = first + bs.length := by have := HQ.out.1.f1; simp; omega
        rw [hm1] at CM
        have n3 : IntKind.i64.wrap ((first : Int) + (bs.length : Int)) = ((first + bs.length : Nat) : Int) := by have := HQ.out.1.f2; rw [IntKind.wrap_i64]; omega
        have H3 := mkHid (And.intro b23 (And.intro hF hrq))
        replace hV3 := mkHid hV3
        clear hF hrq hjs rJ rN rb hll b23
        gi_wp2
        rw [hV3.out]
        refine ⟨trivial, CallsIn.inRound l (callsIn_wide.2 (CM.mono ?_))⟩
        rintro e W4 ⟨rfl, js4, fo4⟩
        have fV : Fx lo kq W2 V3 := Fx.of_below H3.out.1
        have f24 : Fx lo kq W2 W4 := fV.fo fo4
        have fC4 : Fx lo kq C0 W4 := H3.out.2.1.trans f24
        have r4 := fo4.row ((H3.out.1.block _ (Array.getElem?_eq_some_iff.1 H3.out.2.2).1).trans H3.out.2.2) (by decide) (by decide) (by decide)
        have rN4 := fC4.oth _ _ _ (by have := (Array.getElem?_eq_some_iff.1 HA.out.1.N).1; omega) HC.out.1.N (by decide) (by decide) (by decide)
        have rb4 := fC4.oth _ _ _ (by have := (Array.getElem?_eq_some_iff.1 HA.out.1.b).1; omega) HC.out.1.b (by decide) (by decide) (by decide)
        have cN4 : W4.cell? ⟨kN, 0, none⟩ = some (.int .i64 (bs.length : Int)) := (cell_of_row _ _ _ _ _ _ rN4).trans rfl
        have cs4 : W4.cell? ⟨a + 1, 3, none⟩ = some (.int .i64 (first : Int)) := (cell_of_row _ _ _ _ _ _ rb4).trans rfl
        have cq4 : W4.cell? ⟨kq, 0, none⟩ = some (.int .i64 0) := (cell_of_row _ _ _ _ _ _ r4).trans rfl
        have fq4 : W4.frozen? ⟨kq, 0, none⟩ = false := frozen_of_row _ _ _ _ _ r4
        have n4 : IntKind.i64.wrap ((first : Int) + 0) = (first : Int) := by have := HQ.out.1.f2; rw [IntKind.wrap_i64]; omega
        have n5 : IntKind.i64.wrap (first : Int) = (first : Int) := by have := HQ.out.1.f2; rw [IntKind.wrap_i64]; omega
        have rX : (W4.setCell ⟨kq, 0, none⟩ (.int .i64 1)).heap[kq]? = some (.cells #[.int .i64 1] 3 (0, 0)) := by
          rw [setCell_eq_setRow W4 kq 0 _ _ _ _ r4]
          exact setRow_heap _ _ _ _ _ _ r4
        have gX : Fx lo kq W2 (W4.setCell ⟨kq, 0, none⟩ (.int .i64 1)) := f24.setC hloq H3.out.2.2 _
        have fX : Fx lo kq C0 (W4.setCell ⟨kq, 0, none⟩ (.int .i64 1)) := fC4.setC hloq HC.out.2.2.1 _
        have jX := js4.setI r4 hloq (.int .i64 1)
        have kX := gX.keeps C0.heap.size
        have pX : KpB C0.heap.size W2 _ := gX.kp (Array.getElem?_eq_some_iff.1 HC.out.2.2.1).1
        have HX := mkHid (And.intro rX (And.intro fX (And.intro kX (And.intro pX jX))))
        clear fV f24 fC4 r4 rN4 rb4 rX gX fX jX kX pX js4 fo4 CM
        gi_wp2
        exact ⟨HX.out.2.2.1, HX.out.2.2.2.1, HX.out.2.1, HX.out.1, HX.out.2.2.2.2⟩
      · have h0i : ¬ (i : Int) = 0 := by omega
        rw [nC_pos h0, bC_pos h0] at hjs
        have H3 := mkHid (And.intro hF (And.intro hrq hjs))
        have rX : (W2.setCell ⟨kq, 0, none⟩ (.int .i64 ((i + 1 : Nat) : Int))).heap[kq]? = some (.cells #[.int .i64 ((i + 1 : Nat) : Int)] 3 (0, 0)) := by
          rw [setCell_eq_setRow W2 kq 0 _ _ _ _ hrq]
          exact setRow_heap _ _ _ _ _ _ hrq
        have gX : Fx lo kq W2 (W2.setCell ⟨kq, 0, none⟩ (.int .i64 ((i + 1 : Nat) : Int))) := (Fx.refl lo kq W2).setC hloq hrq _
        have fX : Fx lo kq C0 (W2.setCell ⟨kq, 0, none⟩ (.int .i64 ((i + 1 : Nat) : Int))) := hF.setC hloq HC.out.2.2.1 _
        have jX := hjs.setI hrq hloq (.int .i64 ((i + 1 : Nat) : Int))
        have kX := gX.keeps C0.heap.size
        have pX : KpB C0.heap.size W2 _ := gX.kp (Array.getElem?_eq_some_iff.1 HC.out.2.2.1).1
        have HX := mkHid (And.intro rX (And.intro fX (And.intro kX (And.intro pX jX))))
        clear hF hrq hjs rJ rN rb rX gX fX jX kX pX
        gi_wp2
        exact ⟨HX.out.2.2.1, HX.out.2.2.2.1, HX.out.2.1, HX.out.1, HX.out.2.2.2.2⟩
    case doneC =>
      intro U hI hK2
      obtain ⟨hF, hrq, hjs⟩ := hI
      have hne : ¬ bs.length = 0 := by have := hN.out; omega
      rw [nC_pos hne, bC_pos hne] at hjs
      have hq' := (Array.getElem?_eq_some_iff.1 HA.out.1.E).1
      have hCU : C0.heap.size ≤ U.heap.size := hF.size
      have hqC : kq < C0.heap.size := (Array.getElem?_eq_some_iff.1 HC.out.2.2.1).1
      have rE := hF.oth _ _ _ (by omega) HC.out.1.E (by decide) (by decide) (by decide)
      have rJ := hF.oth _ _ _ (by have := (Array.getElem?_eq_some_iff.1 HA.out.1.J).1; omega) HC.out.1.J (by decide) (by decide) (by decide)
      have rN := hF.oth _ _ _ (by have := (Array.getElem?_eq_some_iff.1 HA.out.1.N).1; omega) HC.out.1.N (by decide) (by decide) (by decide)
      have rb := hF.oth _ _ _ (by have := (Array.getElem?_eq_some_iff.1 HA.out.1.b).1; omega) HC.out.1.b (by decide) (by decide) (by decide)
      have rk := hF.oth _ _ _ (by have := (Array.getElem?_eq_some_iff.1 HA.out.1.k).1; omega) HC.out.1.k (by decide) (by decide) (by decide)
      have rR := hF.oth _ _ _ (by have := (Array.getElem?_eq_some_iff.1 HA.out.1.R).1; omega) HC.out.1.R (by decide) (by decide) (by decide)
      have hK1 := hF.nc _ _ HC.out.2.2.2 (fun c t e => by cases e)
      obtain ⟨D0, hD0⟩ : ∃ D0, U.alloc (.cells #[.int .i64 0] 3) = D0 := ⟨_, rfl⟩
      have bUD : Below U.heap.size U D0 := by rw [← hD0]; exact (Below.refl _ U).alloc (Nat.le_refl _) _
      have rl : D0.heap[U.heap.size]? = some (.cells #[.int .i64 0] 3 (0, 0)) := by rw [← hD0]; exact heap_alloc_new _ _
      have up : ∀ {k : Nat} {o : Obj}, U.heap[k]? = some o → D0.heap[k]? = some o := fun hk => (bUD.block _ (Array.getElem?_eq_some_iff.1 hk).1).trans hk
      have cED : D0.cell? ⟨kE, 0, none⟩ = some (.func (.func 43) #[] #[.pointer (some ⟨kb, 0, none⟩)]) := (cell_of_row _ _ _ _ _ _ (up rE)).trans rfl
      have ckD : D0.cell? ⟨kb, 0, none⟩ = some (.pointer (some ⟨j, 0, none⟩)) := (cell_of_row _ _ _ _ _ _ (up rk)).trans rfl
      have jsD := hjs.below bUD
      have hitD := jsD.iter 8 kb ckD
      have foCD : Fx lo kq C0 D0 := hF.fo (Fo.of_below bUD)
      have HD := mkHid (And.intro rl (And.intro (up rJ) (And.intro (up rN) (And.intro (up rb) (And.intro (up rR) (And.intro (up hrq) (And.intro (up hK1) (And.intro (up hK2) (And.intro jsD foCD)))))))))
      replace hD0 := mkHid hD0
      obtain ⟨kl, hkl⟩ : ∃ k, U.heap.size = k := ⟨_, rfl⟩
      rw [hkl] at HD
      have hCs : C0.heap.size < kl := by rw [← hkl]; exact (Array.getElem?_eq_some_iff.1 hK2).1
      clear hF hrq hjs rE rJ rN rb rk rR hK1 hK2 rl up jsD foCD
      go_upto_region 45 with fail
      rw [hD0.out]
      try rw [hkl]
      go_wp2_with fail
      refine wpIn_wide.1 (Rg.loop_out (F := Fence.wide) (n := 9) rfl (by decide) (gf := 43) (lb := #[.pointer (some ⟨kb, 0, none⟩)]) rfl trivial (enters_of Tryd.func43 (by kernel_rfl) rfl) hitD (Below.refl _ _) KpB.trans (fun W l o o' h ho => KpB.put _ W l o o' h ho) (fun i x => vb_own) (fun i x W h => by obtain ⟨_, _, rfl, _⟩ := h; rfl)
        (fun i U => Frm (· = kl) D0 U ∧ U.heap[kl]? = some (.cells #[.int .i64 (i : Int)] 3 (0, 0)))
        (fun _ _ => False)
        (OwnFrom.and (Frm.own (Nat.le_refl _)) (row_own (c := fun (s : Nat) => #[.int .i64 (s : Int)])))
        (fun _ _ _ _ _ h _ _ => h.elim)
        ⟨Frm.refl _ _, HD.out.1⟩ ?roundD ?doneD ?stopD)
      case stopD => exact fun _ _ h => h.elim
      case roundD =>
        intro l i xx U2 hi hv
        obtain ⟨y, hi2, rfl, ly⟩ := hv
        gi_wp2
        refine ⟨trivial, fun W2 hl hI hv2 => ?_⟩
        obtain ⟨hF, hr⟩ := hI
        have cl : W2.cell? ⟨kl, 0, none⟩ = some (.int .i64 (i : Int)) := (cell_of_row _ _ _ _ _ _ hr).trans rfl
        have fl2 : W2.frozen? ⟨kl, 0, none⟩ = false := frozen_of_row _ _ _ _ _ hr
        have rX : (W2.setCell ⟨kl, 0, none⟩ (.int .i64 ((i + 1 : Nat) : Int))).heap[kl]? = some (.cells #[.int .i64 ((i + 1 : Nat) : Int)] 3 (0, 0)) := by
          rw [setCell_eq_setRow W2 kl 0 _ _ _ _ hr]
          exact setRow_heap _ _ _ _ _ _ hr
        have fX : Frm (· = kl) D0 (W2.setCell ⟨kl, 0, none⟩ (.int .i64 ((i + 1 : Nat) : Int))) := hF.setC rfl _
        have gX : Frm (· = kl) W2 (W2.setCell ⟨kl, 0, none⟩ (.int .i64 ((i + 1 : Nat) : Int))) := (Frm.refl (· = kl) W2).setC rfl _
        have kX := gX.keeps (fun k e => ⟨_, _, e ▸ hr⟩) D0.heap.size
        have pX : KpB D0.heap.size W2 _ := gX.kp (fun k e => by have := (Array.getElem?_eq_some_iff.1 HD.out.1).1; omega)
        have u1 : IntKind.i64.wrap ((i : Int) + 1) = ((i + 1 : Nat) : Int) := by have := HQ.out.1.f2; simp at hi; rw [IntKind.wrap_i64]; omega
        have HX := mkHid (And.intro rX (And.intro fX (And.intro kX pX)))
        clear hF hr rX fX gX kX pX hv2 ly
        gi_wp2
        exact ⟨HX.out.2.2.1, HX.out.2.2.2, HX.out.2.1, HX.out.1⟩
      case doneD =>
        intro X hI hK3
        obtain ⟨hF, hr⟩ := hI
        obtain ⟨rl0, rJ0, rN0, rb0, rR0, rq0, d1, d2, jsD, foCD⟩ := id HD.out
        have jn9 := (Array.getElem?_eq_some_iff.1 HA.out.1.J).1
        have nn9 := (Array.getElem?_eq_some_iff.1 HA.out.1.N).1
        have nb9 := (Array.getElem?_eq_some_iff.1 HA.out.1.b).1
        have nr9 := (Array.getElem?_eq_some_iff.1 HA.out.1.R).1
        have a19 := (Array.getElem?_eq_some_iff.1 HC.out.2.2.2).1
        have qA9 : kq < A.heap.size := (Array.getElem?_eq_some_iff.1 HA.out.2.2.2.1).1
        have rJ := hF.row rJ0 (by omega)
        have rN := hF.row rN0 (by omega)
        have rb := hF.row rb0 (by omega)
        have rR := hF.row rR0 (by omega)
        have rq := hF.row rq0 (by omega)
        have k1 := hF.row d1 (by omega)
        have k2 := hF.row d2 (by omega)
        have jsX : Js lo X j v 4194304 live gen first 2 base (bs ++ [[[1, 2]]]) := jsD.free (hF.fre (fun k e => by subst e; exact ⟨_, _, rl0, by decide, by intro m hm; simp at hm⟩)) (jsD.tc.keep hF.size (hF.blk _ (Nat.lt_of_lt_of_le jsD.c0 jsD.hlo) (by have := jsD.c0; omega)))
        obtain ⟨x9, jn, -, -⟩ := (jsX.below (below_drew X)).jn
        have CL := Last_any jn
        obtain ⟨N1, hN1⟩ : ∃ N1, (bs ++ [[[1, 2]]]).length = N1 := ⟨_, rfl⟩
        obtain ⟨fN, hfN⟩ : ∃ fN, first + bs.length = fN := ⟨_, rfl⟩
        have hb1 : N1 = bs.length + 1 := by rw [← hN1]; simp
        have hm1 : first - 1 + N1 = fN := by have := HQ.out.1.f1; omega
        rw [hN1] at hr
        rw [hN1, hm1] at CL
        have u2 : IntKind.i64.wrap ((bs.length : Int) + 1) = (N1 : Int) := by have := HQ.out.1.f2; rw [IntKind.wrap_i64]; omega
        have u3 : IntKind.i64.wrap ((first : Int) + (bs.length : Int)) = (fN : Int) := by have := HQ.out.1.f2; rw [IntKind.wrap_i64]; omega
        have rdR : X.drew.heap[kR]? = _ := rR
        have rdq : X.drew.heap[kq]? = _ := rq
        have rdN : X.drew.heap[kN]? = _ := rN
        have rdl : X.drew.heap[kl]? = _ := hr
        have rdJ : X.drew.heap[kJ]? = _ := rJ
        have rdb : X.drew.heap[a + 1]? = _ := rb
        have hS7 : S47 kq kN kl kJ (a + 1) bs.length N1 first j X.drew := ⟨(cell_of_row _ _ _ _ _ _ rdq).trans rfl, (cell_of_row _ _ _ _ _ _ rdN).trans rfl, (cell_of_row _ _ _ _ _ _ rdl).trans rfl, (cell_of_row _ _ _ _ _ _ rdJ).trans rfl, (cell_of_row _ _ _ _ _ _ rdb).trans rfl⟩
        have oR : ∀ k : Nat, k ≠ kR → (X.drew.setCell ⟨kR, 0, none⟩ (.bool true)).heap[k]? = X.heap[k]? := fun k hk => heap_setCell_other X.drew ⟨kR, 0, none⟩ k _ hk
        have sR : (X.drew.setCell ⟨kR, 0, none⟩ (.bool true)).heap[kR]? = some (.cells #[.bool true] 4 (0, 0)) := by
          rw [setCell_eq_setRow X.drew kR 0 _ _ _ _ rdR]
          exact setRow_heap _ _ _ _ _ _ rdR
        have hS8 : S47 kq kN kl kJ (a + 1) bs.length N1 first j (X.drew.setCell ⟨kR, 0, none⟩ (.bool true)) := ⟨(cell_of_row _ _ _ _ _ _ ((oR kq (by omega)).trans rq)).trans rfl, (cell_of_row _ _ _ _ _ _ ((oR kN (row_ne rN rR (by decide))).trans rN)).trans rfl, (cell_of_row _ _ _ _ _ _ ((oR kl (by omega)).trans hr)).trans rfl, (cell_of_row _ _ _ _ _ _ ((oR kJ (row_ne rJ rR (by decide))).trans rJ)).trans rfl, (cell_of_row _ _ _ _ _ _ ((oR (a + 1) (row_ne rb rR (by decide))).trans rb)).trans rfl⟩
        have cR : X.drew.cell? ⟨kR, 0, none⟩ = some (.bool false) := (cell_of_row _ _ _ _ _ _ rdR).trans rfl
        have fR : X.drew.frozen? ⟨kR, 0, none⟩ = false := frozen_of_row _ _ _ _ _ rdR
        have HX := mkHid (And.intro ((oR A.heap.size (by omega)).trans k1) (And.intro ((oR C0.heap.size (by omega)).trans k2) (And.intro ((oR D0.heap.size (by have := hF.size; have := (Array.getElem?_eq_some_iff.1 rR0).1; omega)).trans hK3) (And.intro sR (And.intro hF foCD)))))
        replace CL := mkHid CL
        clear qA9 hF hr rl0 rJ0 rN0 rb0 rR0 rq0 d1 d2 jsD foCD jn9 nn9 nb9 nr9 a19 rJ rN rb rR rq k1 k2 jsX jn hN1 hfN hb1 hm1 rdR rdq rdN rdl rdJ rdb oR sR hK3
        go_upto_region 47 with fail
        go_region_held3 (fun w' => S47 kq kN kl kJ (a + 1) bs.length N1 first j w') (first | assumption | exact hS7 | exact hS8)
          (first
            | (go_at_call 17; with_reducible refine Calls.mono CL.out ?_; rintro e w8 ⟨rfl, rfl⟩))
        go_wp2_with fail
        obtain ⟨Y, hY⟩ : ∃ Y, (X.setCell ⟨kR, 0, none⟩ (.bool true)).drew = Y := ⟨_, rfl⟩
        have e1 : Y.heap[A.heap.size]? = some (.deferred (some [])) := by rw [← hY]; exact HX.out.1
        have e2 : Y.heap[C0.heap.size]? = some (.deferred (some [])) := by rw [← hY]; exact HX.out.2.1
        have e3 : Y.heap[D0.heap.size]? = some (.deferred (some [])) := by rw [← hY]; exact HX.out.2.2.1
        have eR : Y.heap[kR]? = some (.cells #[.bool true] 4 (0, 0)) := by rw [← hY]; exact HX.out.2.2.2.1
        have hFX := HX.out.2.2.2.2.1
        have hFC := HX.out.2.2.2.2.2
        have bWA := HA.out.2.1
        have bWC : Below W.heap.size W C0 := bWA.trans (HC.out.2.1.mono bWA.size)
        have hWlo : W.heap.size ≤ lo := by rw [← H4.out.2.2.2.1]; exact H4.out.2.2.2.2.size
        have hWC := bWC.size
        have hCD := hFC.size
        have hqA : kq < A.heap.size := (Array.getElem?_eq_some_iff.1 HA.out.2.2.2.1).1
        have hAC : A.heap.size < C0.heap.size := (Array.getElem?_eq_some_iff.1 HC.out.2.2.2).1
        have hlD : kl < D0.heap.size := (Array.getElem?_eq_some_iff.1 HD.out.1).1
        have hWA := bWA.size
        have bWX : Below W.heap.size W X := ⟨hFX.os.trans (hFC.os.trans bWC.os), hFX.tape.trans (hFC.tape.trans bWC.tape), hFX.output.trans (hFC.output.trans bWC.output), Nat.le_trans hWC (Nat.le_trans hCD hFX.size), fun k hk => (hFX.blk k (by omega) (by omega)).trans ((hFC.low k (by omega) (by omega)).trans (bWC.block k hk))⟩
        have bWS := bWX.setCell (p := ⟨kR, 0, none⟩) (by have := hkR.out; show W.heap.size ≤ kR; omega) (.bool true)
        have bWY : Below W.heap.size W Y := by rw [← hY]; exact bWS.trans ((below_drew _).mono bWS.size)
        rw [hY]
        clear hY
        have e2' : (Y.putObj D0.heap.size (.deferred none)).heap[C0.heap.size]? = some (.deferred (some [])) := (World.putObj_heap_other (by omega)).trans e2
        have e1' : ((Y.putObj D0.heap.size (.deferred none)).putObj C0.heap.size (.deferred none)).heap[A.heap.size]? = some (.deferred (some [])) := (World.putObj_heap_other (by omega)).trans ((World.putObj_heap_other (by omega)).trans e1)
        refine ⟨by simp, .inl ⟨_, _, rfl, run_takeDeferred e3, ?_⟩⟩
        refine ⟨by simp, .inl ⟨_, _, rfl, run_takeDeferred e2', ?_⟩⟩
        refine ⟨by simp, .inl ⟨_, _, rfl, run_takeDeferred e1', ?_⟩⟩
        have hkR2 : kR < A0.heap.size := (Array.getElem?_eq_some_iff.1 HA.out.1.R).1
        have eR' : (((Y.putObj D0.heap.size (.deferred none)).putObj C0.heap.size (.deferred none)).putObj A.heap.size (.deferred none)).heap[kR]? = some (.cells #[.bool true] 4 (0, 0)) := (World.putObj_heap_other (by omega)).trans ((World.putObj_heap_other (by omega)).trans ((World.putObj_heap_other (by omega)).trans eR))
        have hc5 : (((Y.putObj D0.heap.size (.deferred none)).putObj C0.heap.size (.deferred none)).putObj A.heap.size (.deferred none)).cell? ⟨kR, 0, none⟩ = some (.bool true) := (cell_of_row _ _ _ _ _ _ eR').trans rfl
        refine ⟨.bool true, ?_, rfl, ((bWY.trans (belowK_b (w := W) (Nat.le_refl _) _ D0.heap.size _ _ (by omega) e3 rfl rfl)).trans (belowK_b (w := W) (Nat.le_refl _) _ C0.heap.size _ _ (by omega) e2' rfl rfl)).trans (belowK_b (w := W) (Nat.le_refl _) _ A.heap.size _ _ (by omega) e1' rfl rfl)⟩
        simp [results, Tryd.f4, go_sem, hc5]
end Dev
end Go.Proofs.YtfimaflglnemdaaDoor
