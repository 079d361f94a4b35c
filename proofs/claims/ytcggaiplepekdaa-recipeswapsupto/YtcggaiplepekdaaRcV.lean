/- Recipes: Put of the document, whole; blanked. -/
import Derived.Test.YtcggaiplepekdaaRcZ
import Derived.Test.YtcggaiplepekdaaRcW
import Derived.Test.YtcggaiplepekdaaRcY
namespace Go.Proofs.Ytcggaiplepekdaa
open Go.RowKit
section
attribute [local go_sem ↓] toLdR toStR
set_option maxRecDepth 100000 in
set_option maxHeartbeats 3200000 in
theorem putR_any (W : World) (o n s a e : Value) (R : Rcp) (hs : Sm R) (h : Rc W o n s a e R) (lv : Value) (ls : List S) (hl : Ls W lv 1 (ls.map sR)) : Calls Try.prog 14 #[.agg (rV o n s R.sys R.bld a e), lv] W (GiE W (if ls.length = R.o.length then rel R ls else ZER) (if ls.length = R.o.length then 0 else 2)) := by
  by_cases hq : ls.length = R.o.length
  · rw [if_pos hq, if_pos hq]
    exact putR_ok W o n s a e R hs h lv ls hl hq
  · rw [if_neg hq, if_neg hq]
    obtain ⟨B0, hB0⟩ : ∃ B0, (W.alloc (.cells (rV o n s R.sys R.bld a e) 27)).alloc (.cells zR 27) = B0 := ⟨_, rfl⟩
    have x0 : Bx W (rV o n s R.sys R.bld a e) B0 := hB0 ▸ bx_new W _
    obtain ⟨ol, cl, hlv⟩ := hl.form
    obtain ⟨ll, hll2⟩ : ∃ k, ls.length = k := ⟨_, rfl⟩
    rw [List.length_map, hll2] at hlv
    subst hlv
    obtain ⟨xo, co, fo⟩ := h.o.form
    obtain ⟨lo, hlo⟩ : ∃ k, R.o.length = k := ⟨_, rfl⟩
    rw [List.length_map, hlo] at fo
    subst fo
    have el : ¬ (ll : Int) = (lo : Int) := by omega
    obtain ⟨s1, s2, s3, s4⟩ := Tw.give x0 (tw_zer B0.heap.size B0) (Below.refl _ _) (C := zR) rfl (by simp [zR, Value.oneCell'])
    obtain ⟨Z, hZ⟩ : ∃ Z, B0.setRow (W.heap.size + 1) zR = Z := ⟨_, rfl⟩
    rw [hZ] at s1 s2 s3 s4
    have HF : Hid (_ ∧ _ ∧ _) := ⟨s2, s3, s4⟩
    rw [← hB0] at s1
    unfold rV zR at s1
    unfold rV
    clear h hs hl hll2 hlo x0 hB0 hq hZ s2 s3 s4
    go_enter Try.func14, Try.ntmps14
    go_wp2_with fail
    refine bodyPost_ret (results_R2 rfl _ _ (W.heap.size + 1) _ rfl rfl HF.out.2.2) rfl ?_
    exact ⟨_, _, _, _, _, [], rfl, HF.out.1, HF.out.2.1⟩
end
theorem sm_rel {R : Rcp} (h : Sm R) (ls : List S) : Sm (rel R ls) := by
  unfold Sm at h ⊢
  refine ⟨?_, h.2.1, h.2.2.1, h.2.2.2.1, ?_, h.2.2.2.2.2⟩
  · show (rlo R.o ls).length ≤ _
    unfold rlo
    rw [List.length_zipWith]
    omega
  · show (R.e.map _).length ≤ _
    rw [List.length_map]
    exact h.2.2.2.2.1
theorem sm_zer : Sm ZER := by
  unfold Sm ZER
  simp
/-- A recipe given back, its lists as slices. -/
theorem GiR.sl {W : World} {Q : Rcp} {en : Ending} {w' : World} (h : GiR W Q en w') : ∃ xo lo co xn ln cn xs ls cs xa la ca xe le ce us, en = .returned (.agg #[.slice xo lo co, .slice xn ln cn, .slice xs ls cs, .string Q.sys, .string Q.bld, .slice xa la ca, .slice xe le ce]) ∧ Tw W.heap.size w' (.slice xo lo co) (.slice xn ln cn) (.slice xs ls cs) (.slice xa la ca) (.slice xe le ce) us Q ∧ Below W.heap.size W w' := by
  obtain ⟨o, n, s, a, e, us, q, tw, b⟩ := h
  obtain ⟨_, _, rfl, -⟩ := tw.fo.form
  obtain ⟨_, _, rfl, -⟩ := tw.fn.form
  obtain ⟨_, _, rfl, -⟩ := tw.fs.form
  obtain ⟨_, _, rfl, -⟩ := tw.fa.form
  obtain ⟨_, _, rfl, -⟩ := tw.fe.form
  exact ⟨_, _, _, _, _, _, _, _, _, _, _, _, _, _, _, us, q, tw, b⟩
theorem GiE.sl {W : World} {Q : Rcp} {E : Int} {en : Ending} {w' : World} (h : GiE W Q E en w') : ∃ xo lo co xn ln cn xs ls cs xa la ca xe le ce us, en = .returned (.tuple #[.agg #[.slice xo lo co, .slice xn ln cn, .slice xs ls cs, .string Q.sys, .string Q.bld, .slice xa la ca, .slice xe le ce], .int .i64 E]) ∧ Tw W.heap.size w' (.slice xo lo co) (.slice xn ln cn) (.slice xs ls cs) (.slice xa la ca) (.slice xe le ce) us Q ∧ Below W.heap.size W w' := by
  obtain ⟨o, n, s, a, e, us, q, tw, b⟩ := h
  obtain ⟨_, _, rfl, -⟩ := tw.fo.form
  obtain ⟨_, _, rfl, -⟩ := tw.fn.form
  obtain ⟨_, _, rfl, -⟩ := tw.fs.form
  obtain ⟨_, _, rfl, -⟩ := tw.fa.form
  obtain ⟨_, _, rfl, -⟩ := tw.fe.form
  exact ⟨_, _, _, _, _, _, _, _, _, _, _, _, _, _, _, us, q, tw, b⟩
/-- A recipe in a box, there in every later world. -/
def Bo (X : World) (g : Nat) (C : Array Value) (Q : Rcp) : Prop := ∀ Y, Below X.heap.size X Y → C.size = 7 ∧ Y.heap[g]? = some (.cells C 27 (0, 0)) ∧ ∃ o n s a e, C = rV o n s Q.sys Q.bld a e ∧ Rc Y o n s a e Q
theorem Bo.later {X X' : World} {g : Nat} {C : Array Value} {Q : Rcp} (h : Bo X g C Q) (hb : Below X.heap.size X X') : Bo X' g C Q := fun Y hY => h Y (hb.trans (hY.mono hb.size))
theorem bo_new {w : World} {base : Nat} {o n s a e : Value} {us : List Value} {Q : Rcp} (tw : Tw base w o n s a e us Q) : Bo (w.alloc (.cells (rV o n s Q.sys Q.bld a e) 27)) w.heap.size (rV o n s Q.sys Q.bld a e) Q := fun Y hY =>
  ⟨rfl, (hY.block _ (by simp)).trans (heap_alloc_new _ _), o, n, s, a, e, rfl, (tw.rc.below (below_al w _)).below hY⟩
theorem bo_equal {X Y : World} {g g' : Nat} {C C' : Array Value} {Q : Rcp} (h : Bo X g C Q) (h' : Bo X g' C' Q) (hs : Sm Q) (hY : Below X.heap.size X Y) : Calls Try.prog 15 #[.agg C, .agg C'] Y fun en w' => en = .returned (.bool true) ∧ Below Y.heap.size Y w' := by
  obtain ⟨-, -, o, n, s, a, e, rfl, h1⟩ := h Y hY
  obtain ⟨-, -, o', n', s', a', e', rfl, h2⟩ := h' Y hY
  exact equal_any Y Q hs _ _ _ _ _ _ _ _ _ _ h1 h2
theorem bo_ld {X Y : World} {g : Nat} {C : Array Value} {Q : Rcp} (h : Bo X g C Q) (hY : Below X.heap.size X Y) : (ldR (.pointer (some ⟨g, 0, none⟩))).run Try.prog Y = .ok (.agg C) Y := ld_R Y g C (h Y hY).1 (h Y hY).2.1
theorem jb_start (A : World) (kc : Nat → Option Value) (Q : Rcp) (E : Int) (hk : ∀ n, kc (n + 14) = none) : Jb A kc Q E (Array.replicate regB.size false) (fun _ => undef) A := by
  rw [show regB.size = 14 from by kernel_rfl]
  refine ⟨Below.refl _ _, fun j v hj hl => ?_, fun h => (by cases h), fun h => (by cases h), fun h => (by cases h), fun h => (by cases h), fun h => (by cases h)⟩
  rcases Nat.lt_or_ge j 14 with q | q
  · rw [Array.getD_eq_getD_getElem?, Array.getElem?_replicate, if_pos q] at hl
    cases hl
  · obtain ⟨n, rfl⟩ : ∃ n, j = n + 14 := ⟨j - 14, by omega⟩
    rw [hk n] at hj
    cases hj
theorem bo_of {A w : World} {g : Nat} {C : Array Value} {Q : Rcp} (hg : w.heap[g]? = some (.cells C 27 (0, 0))) (h : IsR A Q w (.agg C)) : Bo w g C Q := fun Y hY => by
  obtain ⟨o, n, s, a, e, us, q, tw⟩ := h
  obtain rfl : C = rV o n s Q.sys Q.bld a e := by injection q
  exact ⟨rfl, (hY.block _ (Array.getElem?_eq_some_iff.1 hg).1).trans hg, o, n, s, a, e, rfl, tw.rc.below hY⟩
/-- Slicing at Instr.sliceAt. -/
theorem run_slT (w : World) (oa : Option Addr) (n c h : Nat) (hh : h ≤ c) : (Instr.sliceAt 24 (.slice oa n c) none (some (.int .i64 (h : Int))) none).run Try.prog w = .ok (.slice oa h c) w := by
  have := run_slS w oa n c h hh
  unfold slS at this
  simp only [Instr.sliceAt, Sem.run_bind, run_underlying Try.underlying24, Result.andThen_ok]
  exact this
section
attribute [local go_sem ↓] toLdR toSlS
set_option maxRecDepth 100000 in
set_option maxHeartbeats 3200000 in
theorem blanked_any (W : World) (base rb : Nat) (o n s a e l : Value) (us ls : List Value) (R : Rcp) (hs : Sm R) (h : Rl base W o n s a e l us ls R) (hr : W.heap[rb]? = some (.cells (rmV o n s a e l) 30 (0, 0))) (ro rn rs ra re : Value) (hR : Rc W ro rn rs ra re R) (nzo : ∀ x ∈ R.o, x.1.size ≤ maxLen) (nze : ∀ p ∈ R.e, p.1.size ≤ maxLen) (lv : Value) (lst : List S) (hl : Ls W lv 1 (lst.map sR)) (hlm : lst.length ≤ 10000000) :
    Calls Try.prog 6 #[.pointer (some ⟨rb, 0, none⟩), .agg (rV ro rn rs R.sys R.bld ra re), lv] W fun en w' => en = .returned (.bool true) ∧ Below W.heap.size W w' := by
  obtain ⟨xo, xn, xs, xa, xe, co, cn, cs, ca, ce, rfl, rfl, rfl, rfl, rfl, ko, kn, ks, ka, ke, hrc⟩ := h.rc
  obtain ⟨ol, cl, hlv⟩ := hl.form
  obtain ⟨ll, hll⟩ : ∃ k, lst.length = k := ⟨_, rfl⟩
  rw [List.length_map, hll] at hlv
  subst hlv
  have lim := hs
  unfold Sm at lim
  have hrb : rb < W.heap.size := (Array.getElem?_eq_some_iff.1 hr).1
  obtain ⟨B, hB⟩ : ∃ B, W.alloc (.cells (rV ro rn rs R.sys R.bld ra re) 27) = B := ⟨_, rfl⟩
  have bB : Below W.heap.size W B := by rw [← hB]; exact below_al _ _
  have rB : B.heap[W.heap.size]? = some (.cells (rV ro rn rs R.sys R.bld ra re) 27 (0, 0)) := by rw [← hB]; exact heap_alloc_new _ _
  have hBz : W.heap.size < B.heap.size := by rw [← hB]; simp
  have SP : Hid _ := spare_any B (.slice ol ll cl) lst (hl.below bB) (by omega)
  obtain ⟨now, hnow⟩ : ∃ C, C = rV (.slice xo R.o.length co) (.slice xn R.n.length cn) (.slice xs R.s.length cs) R.sys R.bld (.slice xa R.a.length ca) (.slice xe R.e.length ce) := ⟨_, rfl⟩
  obtain ⟨r0, hr0⟩ : ∃ C, C = rV ro rn rs R.sys R.bld ra re := ⟨_, rfl⟩
  obtain ⟨EL, hEL⟩ : ∃ x, x = List.replicate R.o.length EMP := ⟨_, rfl⟩
  obtain ⟨Q, hQ⟩ : ∃ q, q = if lst.length = R.o.length then rel R lst else ZER := ⟨_, rfl⟩
  obtain ⟨E, hE⟩ : ∃ q : Int, q = if lst.length = R.o.length then 0 else 2 := ⟨_, rfl⟩
  have sQ : Sm Q := by
    rw [hQ]
    split
    · exact sm_rel hs _
    · exact sm_zer
  have HIN : Hid (∀ Y, Below B.heap.size B Y → Calls Try.prog 11 #[.pointer (some ⟨rb, 0, none⟩), .agg r0] Y fun en w' => en = .returned (.agg now) ∧ Below Y.heap.size Y w') := fun Y hY => by
    rw [hnow, hr0]
    exact in_any Y rb xo xn xs xa xe R.o.length R.n.length R.s.length R.a.length R.e.length co cn cs ca ce l ((hY.block rb (by omega)).trans ((bB.block rb hrb).trans hr)) ⟨ko, kn, ks, ka, ke⟩ ⟨lim.1, lim.2.1, lim.2.2.1, lim.2.2.2.1, lim.2.2.2.2.1⟩ ro rn rs ra re R.sys R.bld
  have HBL : Hid (∀ Y, Below B.heap.size B Y → Calls Try.prog 10 #[.agg now] Y (GiR Y (rel R EL))) := fun Y hY => by
    rw [hnow, hEL]
    exact blank_any Y _ _ _ _ _ R hs (hrc.below (bB.trans (hY.mono bB.size))) nzo nze
  have HBR : Hid (∀ Y, Below B.heap.size B Y → Calls Try.prog 12 #[.agg r0] Y (GiR Y (rel R EL))) := fun Y hY => by
    rw [hr0, hEL]
    exact blankR_any Y _ _ _ _ _ R hs (hR.below (bB.trans (hY.mono bB.size)))
  have HPC : Hid (∀ Y, Below B.heap.size B Y → ∀ fv, Ls Y fv 1 (lst.map sR) → Calls Try.prog 13 #[.agg now, fv] Y (GiE Y Q E)) := fun Y hY fv hf => by
    rw [hnow, hQ, hE]
    exact put_any Y _ _ _ _ _ R hs (hrc.below (bB.trans (hY.mono bB.size))) nzo nze fv lst hf
  have HPR : Hid (∀ Y, Below B.heap.size B Y → Calls Try.prog 14 #[.agg r0, .slice ol ll cl] Y (GiE Y Q E)) := fun Y hY => by
    rw [hr0, hQ, hE]
    exact putR_any Y _ _ _ _ _ R hs (hR.below (bB.trans (hY.mono bB.size))) _ lst (hl.below (bB.trans (hY.mono bB.size)))
  have HKP : Hid (∀ Y, Below B.heap.size B Y → Calls Try.prog 16 #[.pointer (some ⟨rb, 0, none⟩), .agg r0] Y fun en w' => en = .returned (.bool true) ∧ Below Y.heap.size Y w') := fun Y hY => by
    rw [hr0]
    have bY := bB.trans (hY.mono bB.size)
    exact kept_any Y base rb _ _ _ _ _ _ us ls R hs (h.below bY) ((bY.block rb hrb).trans hr) ro rn rs ra re (hR.below bY)
  have HLD : Hid (∀ Y, Below B.heap.size B Y → Y.heap[W.heap.size]? = some (.cells r0 27 (0, 0)) ∧ Below W.heap.size W Y ∧ Ls Y (.slice ol ll cl) 1 (lst.map sR)) := fun Y hY => ⟨by rw [hr0]; exact (hY.block _ hBz).trans rB, bB.trans (hY.mono bB.size), hl.below (bB.trans (hY.mono bB.size))⟩
  have HZ : Hid (r0.size = 7 ∧ now.size = 7 ∧ Sm R ∧ Sm Q ∧ lst.length = ll ∧ ll ≤ 10000000) := ⟨by rw [hr0]; rfl, by rw [hnow]; rfl, hs, sQ, hll, by omega⟩
  have HB : Hid (_ = B) := hB
  have HR0 : Hid (r0 = rV ro rn rs R.sys R.bld ra re) := hr0
  unfold rV at HB
  unfold rV
  clear h hs hr hR nzo nze hl hlm ko kn ks ka ke hrc hll lim hrb bB rB hBz hnow hr0 hEL hQ hE sQ hB
  go_enter Try.func6, Try.ntmps6
  go_wp2_with fail
  rw [HB.out]
  refine Calls.mono SP.out ?_
  rintro en w1 ⟨fv, rfl, of, bf⟩
  clear SP
  obtain ⟨fa, fc, hfv, hfc⟩ := of.form
  rw [List.length_map, List.length_append, List.length_singleton, HZ.out.2.2.2.2.1] at hfv hfc
  have lf := of.ls
  subst hfv
  obtain ⟨fg, rfl⟩ := of.own (by omega)
  have lf2 := lf.cut ll (by simp [HZ.out.2.2.2.2.1])
  rw [← HZ.out.2.2.2.2.1, take_map_app, HZ.out.2.2.2.2.1] at lf2
  have cb := of.cel lst.length 0 (sR BEH) (.string BEH) (by rw [List.getElem?_map, List.getElem?_append_right (Nat.le_refl _), Nat.sub_self]; rfl) rfl
  rw [HZ.out.2.2.2.2.1, Nat.mul_one, Nat.add_zero] at cb
  have HFU : Hid (∀ Y, Below w1.heap.size w1 Y → Below B.heap.size B Y ∧ Ls Y (.slice (some ⟨fg, 0, none⟩) ll fc) 1 (lst.map sR) ∧ Y.cell? ⟨fg, ll, none⟩ = some (.string BEH)) := fun Y hY => ⟨bf.trans (hY.mono bf.size), lf2.below hY, (World.cell?_of_block (w := w1) (a := ⟨fg, ll, none⟩) (hY.block _ (of.tag (g := fg) rfl).2.1)).trans cb⟩
  have HFC : Hid (ll + 1 ≤ fc) := hfc
  have l1 := ld_R w1 W.heap.size r0 HZ.out.1 (HLD.out w1 bf).1
  have HW1 : Hid (Below B.heap.size B w1) := bf
  clear of bf lf lf2 cb hfc
  go_wp2_with fail
  refine Calls.mono (HIN.out w1 HW1.out) ?_
  rintro en w2 ⟨rfl, b2⟩
  have HW2 : Hid (Below w1.heap.size w1 w2) := b2
  clear b2 l1
  go_wp2_with fail
  refine Calls.mono (HBL.out w2 (HFU.out w2 HW2.out).1) ?_
  intro en w3 hG
  obtain ⟨yo, po, qo, yn, pn, qn, ys, ps, qs, ya, pa, qa, ye, pe, qe, vu, rfl, tw1, b3⟩ := hG.sl
  obtain ⟨A1, hA1⟩ : ∃ C, C = rV (.slice yo po qo) (.slice yn pn qn) (.slice ys ps qs) (rel R EL).sys (rel R EL).bld (.slice ya pa qa) (.slice ye pe qe) := ⟨_, rfl⟩
  have bo1 := bo_new tw1
  rw [← hA1] at bo1
  obtain ⟨X1, hX1⟩ : ∃ X, w3.alloc (.cells A1 27) = X := ⟨_, rfl⟩
  have bX1 : Below w3.heap.size w3 X1 := hX1 ▸ below_al _ _
  rw [hX1] at bo1
  obtain ⟨g1, hg1⟩ : ∃ g, w3.heap.size = g := ⟨_, rfl⟩
  have b31 : Below w2.heap.size w2 X1 := b3.trans (bX1.mono b3.size)
  have HX1 : Hid (Below w1.heap.size w1 X1 ∧ Bo X1 g1 A1 (rel R EL)) := ⟨HW2.out.trans (b31.mono HW2.out.size), hg1 ▸ bo1⟩
  have l1 := ld_R X1 W.heap.size r0 HZ.out.1 (HLD.out X1 (HFU.out X1 HX1.out.1).1).1
  have HX1' : Hid (_ = X1) := hX1
  rw [hA1] at HX1'
  unfold rV at HX1'
  clear hG tw1 b3 bo1 bX1 b31 hA1 hX1
  rw [← HX1'.out] at l1
  go_wp2_with fail
  rw [HX1'.out]
  refine Calls.mono (HBR.out X1 (HFU.out X1 HX1.out.1).1) ?_
  intro en w4 hG
  clear HX1' l1 hg1
  obtain ⟨zo, io, jo, zn, in_, jn, zs, is_, js, za, ia, ja, ze, ie, je, vv, rfl, tw2, b4⟩ := hG.sl
  obtain ⟨A2, hA2⟩ : ∃ C, C = rV (.slice zo io jo) (.slice zn in_ jn) (.slice zs is_ js) (rel R EL).sys (rel R EL).bld (.slice za ia ja) (.slice ze ie je) := ⟨_, rfl⟩
  have bo2 := bo_new tw2
  rw [← hA2] at bo2
  obtain ⟨X2, hX2⟩ : ∃ X, w4.alloc (.cells A2 27) = X := ⟨_, rfl⟩
  have bX2 : Below w4.heap.size w4 X2 := hX2 ▸ below_al _ _
  rw [hX2] at bo2
  obtain ⟨g2, hg2⟩ : ∃ g, w4.heap.size = g := ⟨_, rfl⟩
  have b42 : Below X1.heap.size X1 X2 := b4.trans (bX2.mono b4.size)
  obtain ⟨A, hA⟩ : ∃ A, X2.drew = A := ⟨_, rfl⟩
  have bA : Below X2.heap.size X2 A := hA ▸ below_drw X2
  have b1A : Below X1.heap.size X1 A := b42.trans (bA.mono b42.size)
  have HA : Hid (X2.drew = A ∧ Below w1.heap.size w1 A ∧ Bo A g1 A1 (rel R EL) ∧ Bo A g2 A2 (rel R EL)) := ⟨hA, HX1.out.1.trans (b1A.mono HX1.out.1.size), HX1.out.2.later b1A, (hg2 ▸ bo2 : Bo X2 g2 A2 (rel R EL)).later bA⟩
  have HX2' : Hid (_ = X2) := hX2
  rw [hA2] at HX2'
  unfold rV at HX2'
  clear hG tw2 b4 bo2 bX2 b42 hA2 hX2 hA bA b1A HX1
  go_wp2_with fail
  rw [HX2'.out]
  clear HX2' hg2
  refine wp_region_joint (ops := regB) (J := Jb A (Kc rb (.agg r0) (.agg now) (.slice (some ⟨fg, 0, none⟩) (ll + 1) fc) (.slice ol ll cl) (.slice (some ⟨fg, 0, none⟩) ll fc) ll E) Q E) (by kernel_rfl) (fun i o ho => (okR_at ok_regB ho).1) (fun i j o oj d ho hj q1 q2 => (okR_at ok_regB ho).2.2 j oj d hj q1 q2) (fun i o d ho q => (okR_at ok_regB ho).2.1 d q)
    (stepB _ A rb W.heap.size ll (ll + 1) fc cl (some ⟨fg, 0, none⟩) ol r0 now Q E _ rfl rfl rfl rfl
      (fun Y hY => HIN.out Y (HFU.out Y (HA.out.2.1.trans (hY.mono HA.out.2.1.size))).1)
      (fun Y hY => HPC.out Y (HFU.out Y (HA.out.2.1.trans (hY.mono HA.out.2.1.size))).1 _ (HFU.out Y (HA.out.2.1.trans (hY.mono HA.out.2.1.size))).2.1)
      (fun Y hY => ld_R Y W.heap.size r0 HZ.out.1 (HLD.out Y (HFU.out Y (HA.out.2.1.trans (hY.mono HA.out.2.1.size))).1).1)
      (fun Y => run_slT Y _ _ _ _ (by have := HFC.out; omega))) (by rw [HA.out.1]; exact jb_start A _ Q E (fun n => rfl)) (fun X wE hE => ?_)
  rw [putB]
  obtain ⟨g3, hg3, -, -, hst⟩ := hE.al rfl
  obtain ⟨A3, rA3, iA3⟩ := hst rfl
  have x13 := hE.kc 13 _ rfl rfl
  have bo3 := bo_of rA3 iA3
  have bE := hE.bel
  have HE : Hid (Below w1.heap.size w1 wE ∧ Bo wE g1 A1 (rel R EL) ∧ Bo wE g2 A2 (rel R EL) ∧ Bo wE g3 A3 Q) := ⟨HA.out.2.1.trans (bE.mono HA.out.2.1.size), HA.out.2.2.1.later bE, HA.out.2.2.2.later bE, bo3⟩
  have l1 := ld_R wE W.heap.size r0 HZ.out.1 (HLD.out wE (HFU.out wE HE.out.1).1).1
  simp only [hg3, x13]
  clear hE hst rA3 iA3 x13 bo3 bE hg3 HA
  go_wp2_with fail
  refine Calls.mono (HPR.out wE (HFU.out wE HE.out.1).1) ?_
  intro en w5 hG
  clear l1
  obtain ⟨zo', io', jo', zn', in', jn', zs', is', js', za', ia', ja', ze', ie', je', vv', rfl, tw3, b5⟩ := hG.sl
  obtain ⟨A4, hA4⟩ : ∃ C, C = rV (.slice zo' io' jo') (.slice zn' in' jn') (.slice zs' is' js') Q.sys Q.bld (.slice za' ia' ja') (.slice ze' ie' je') := ⟨_, rfl⟩
  have bo4 := bo_new tw3
  rw [← hA4] at bo4
  obtain ⟨X4, hX4⟩ : ∃ X, w5.alloc (.cells A4 27) = X := ⟨_, rfl⟩
  have bX4 : Below w5.heap.size w5 X4 := hX4 ▸ below_al _ _
  rw [hX4] at bo4
  obtain ⟨g4, hg4⟩ : ∃ g, w5.heap.size = g := ⟨_, rfl⟩
  have b54 : Below wE.heap.size wE X4 := b5.trans (bX4.mono b5.size)
  have HF : Hid (Below w1.heap.size w1 X4 ∧ Bo X4 g1 A1 (rel R EL) ∧ Bo X4 g2 A2 (rel R EL) ∧ Bo X4 g3 A3 Q ∧ Bo X4 g4 A4 Q) := ⟨HE.out.1.trans (b54.mono HE.out.1.size), HE.out.2.1.later b54, HE.out.2.2.1.later b54, HE.out.2.2.2.later b54, hg4 ▸ bo4⟩
  have l1 := bo_ld HF.out.2.1 (Below.refl _ _)
  have l2 := bo_ld HF.out.2.2.1 (Below.refl _ _)
  have HX4' : Hid (_ = X4) := hX4
  rw [hA4] at HX4'
  unfold rV at HX4'
  clear hG tw3 b5 bo4 bX4 b54 hA4 hX4 HE
  rw [← HX4'.out] at l1 l2
  go_wp2_with fail
  rw [HX4'.out]
  refine Calls.mono (bo_equal HF.out.2.1 HF.out.2.2.1 (sm_rel HZ.out.2.2.1 _) (Below.refl _ _)) ?_
  rintro en w6 ⟨rfl, b6⟩
  clear l1 l2 HX4' hg4
  have HW6 : Hid (Below X4.heap.size X4 w6) := b6
  have l3 := bo_ld HF.out.2.2.2.1 b6
  have l4 := bo_ld HF.out.2.2.2.2 b6
  clear b6
  go_wp2_with fail
  refine Calls.mono (bo_equal HF.out.2.2.2.1 HF.out.2.2.2.2 HZ.out.2.2.2.1 HW6.out) ?_
  rintro en w7 ⟨rfl, b7⟩
  clear l3 l4
  have HW7 : Hid (Below w1.heap.size w1 w7) := (HF.out.1.trans (HW6.out.mono HF.out.1.size)).trans (b7.mono (Nat.le_trans HF.out.1.size HW6.out.size))
  have l5 := ld_R w7 W.heap.size r0 HZ.out.1 (HLD.out w7 (HFU.out w7 HW7.out).1).1
  clear b7 HW6 HF
  go_wp2_with fail
  refine Calls.mono (HKP.out w7 (HFU.out w7 HW7.out).1) ?_
  rintro en w8 ⟨rfl, b8⟩
  clear l5
  have HW8 : Hid (Below w1.heap.size w1 w8) := HW7.out.trans (b8.mono HW7.out.size)
  obtain ⟨-, q1, cB⟩ := HFU.out w8 HW8.out
  have sl := fun w => run_slS w (some ⟨fg, 0, none⟩) (ll + 1) fc ll (by have := HFC.out; omega)
  have TX : Hid _ := texts_eq w8 (.slice (some ⟨fg, 0, none⟩) ll fc) (.slice ol ll cl) lst q1 (HLD.out w8 (HFU.out w8 HW8.out).1).2.2 (by unfold MX; have := HZ.out.2.2.2.2; omega)
  have h0 : (0 : Int) ≤ (ll : Int) := by omega
  have h1 : (ll : Int) < ((ll + 1 : Nat) : Int) := by omega
  unfold BEH at cB
  clear b8 q1
  go_wp2_with fail
  refine Calls.mono TX.out ?_
  rintro en w9 ⟨rfl, m, rfl⟩
  have HFin : Hid (Below W.heap.size W w8) := (HLD.out w8 (HFU.out w8 HW8.out).1).2.1
  clear sl TX cB
  go_wp2_with fail
  go_ret
  exact ⟨rfl, HFin.out.os, HFin.out.tape, HFin.out.output, HFin.out.size, HFin.out.block⟩
end
end Go.Proofs.Ytcggaiplepekdaa
