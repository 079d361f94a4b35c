/- RecipeSwaps: the law's swapped. -/
import Derived.Test.YtcggaiplepekdaaRsZ
import Derived.Test.YtcggaiplepekdaaRsP
namespace Go.Proofs.Ytcggaiplepekdaa
open Go.RowKit
theorem sm_swR {R : Rcp} (h : Sm R) (C : List Pai) : Sm (swR C R) := by
  unfold Sm at h ⊢
  refine ⟨h.1, h.2.1, h.2.2.1, ?_, ?_, h.2.2.2.2.2⟩
  · show (R.a.map _).length ≤ _
    rw [List.length_map]
    exact h.2.2.2.1
  · show (R.e.map _).length ≤ _
    rw [List.length_map]
    exact h.2.2.2.2.1
/-- A list with a mark behind it. -/
structure Spa (B : World) (nf fg fc : Nat) (fr : List S) (w : World) : Prop where
  bel : Below B.heap.size B w
  len : fr.length = nf
  cap : nf + 1 ≤ fc
  ls : Ls w (.slice (some ⟨fg, 0, none⟩) nf fc) 1 (fr.map sR)
  mark : w.cell? ⟨fg, nf, none⟩ = some (.string BEH)
  lt : fg < w.heap.size
theorem Spa.below {B : World} {nf fg fc : Nat} {fr : List S} {w w' : World} (h : Spa B nf fg fc fr w) (hb : Below w.heap.size w w') : Spa B nf fg fc fr w' := ⟨h.bel.trans (hb.mono h.bel.size), h.len, h.cap, h.ls.below hb, (World.cell?_of_block (w := w) (a := ⟨fg, nf, none⟩) (hb.block _ h.lt)).trans h.mark, Nat.lt_of_lt_of_le h.lt hb.size⟩
theorem spa_of {B w1 : World} {lst : List S} {fv : Value} (of : Ol B.heap.size 9 1 w1 fv ((lst ++ [BEH]).map sR)) (bf : Below B.heap.size B w1) : ∃ fg fc, fv = .slice (some ⟨fg, 0, none⟩) (lst.length + 1) fc ∧ Spa B lst.length fg fc lst w1 := by
  obtain ⟨fa, fc, hfv, hfc⟩ := of.form
  rw [List.length_map, List.length_append, List.length_singleton] at hfv hfc
  have lf := of.ls
  subst hfv
  obtain ⟨fg, rfl⟩ := of.own (by omega)
  have lf2 := lf.cut lst.length (by simp)
  rw [take_map_app] at lf2
  have cb := of.cel lst.length 0 (sR BEH) (.string BEH) (by rw [List.getElem?_map, List.getElem?_append_right (Nat.le_refl _), Nat.sub_self]; rfl) rfl
  rw [Nat.mul_one, Nat.add_zero] at cb
  exact ⟨fg, fc, rfl, bf, rfl, hfc, lf2, cb, (of.tag (g := fg) rfl).2.1⟩
section
attribute [local go_sem ↓] toLdR toSlS
open Classical in
set_option maxRecDepth 100000 in
set_option maxHeartbeats 3200000 in
theorem swapped_any (W : World) (base rb : Nat) (o n s a e l : Value) (us ls : List Value) (R : Rcp) (hs : Sm R) (h : Rl base W o n s a e l us ls R) (hr : W.heap[rb]? = some (.cells (rmV o n s a e l) 30 (0, 0))) (ro rn rs ra re : Value) (hR : Rc W ro rn rs ra re R) (fv tv : Value) (fr to : List S) (hf : Ls W fv 1 (fr.map sR)) (ht : Ls W tv 1 (to.map sR)) (hbd : Bd R fr to) :
    Calls Try.prog 8 #[.pointer (some ⟨rb, 0, none⟩), .agg (rV ro rn rs R.sys R.bld ra re), fv, tv] W fun en w' => en = .returned (.bool true) ∧ Below W.heap.size W w' := by
  obtain ⟨xo, xn, xs, xa, xe, co, cn, cs, ca, ce, rfl, rfl, rfl, rfl, rfl, ko, kn, ks, ka, ke, hrc⟩ := h.rc
  obtain ⟨ofr, cf, hfv⟩ := hf.form
  obtain ⟨nf, hnf⟩ : ∃ k, fr.length = k := ⟨_, rfl⟩
  rw [List.length_map, hnf] at hfv
  subst hfv
  obtain ⟨ot, ct, htv⟩ := ht.form
  obtain ⟨nt, hnt⟩ : ∃ k, to.length = k := ⟨_, rfl⟩
  rw [List.length_map, hnt] at htv
  subst htv
  have lim := hs
  unfold Sm at lim
  have hrb : rb < W.heap.size := (Array.getElem?_eq_some_iff.1 hr).1
  obtain ⟨B, hB⟩ : ∃ B, W.alloc (.cells (rV ro rn rs R.sys R.bld ra re) 27) = B := ⟨_, rfl⟩
  have bB : Below W.heap.size W B := by rw [← hB]; exact below_al _ _
  have rB : B.heap[W.heap.size]? = some (.cells (rV ro rn rs R.sys R.bld ra re) 27 (0, 0)) := by rw [← hB]; exact heap_alloc_new _ _
  have hBz : W.heap.size < B.heap.size := by rw [← hB]; simp
  obtain ⟨now, hnow⟩ : ∃ C, C = rV (.slice xo R.o.length co) (.slice xn R.n.length cn) (.slice xs R.s.length cs) R.sys R.bld (.slice xa R.a.length ca) (.slice xe R.e.length ce) := ⟨_, rfl⟩
  obtain ⟨r0, hr0⟩ : ∃ C, C = rV ro rn rs R.sys R.bld ra re := ⟨_, rfl⟩
  obtain ⟨Q, hQ⟩ : ∃ q, q = if fr.length = to.length ∧ Apt fr then swR (fr.zip to) R else ZER := ⟨_, rfl⟩
  obtain ⟨E, hE⟩ : ∃ q : Int, q = if fr.length = to.length ∧ Apt fr then 0 else 2 := ⟨_, rfl⟩
  have sQ : Sm Q := by
    rw [hQ]
    split
    · exact sm_swR hs _
    · exact sm_zer
  have HIN : Hid (∀ Y, Below B.heap.size B Y → Calls Try.prog 11 #[.pointer (some ⟨rb, 0, none⟩), .agg r0] Y fun en w' => en = .returned (.agg now) ∧ Below Y.heap.size Y w') := fun Y hY => by
    rw [hnow, hr0]
    exact in_any Y rb xo xn xs xa xe R.o.length R.n.length R.s.length R.a.length R.e.length co cn cs ca ce l ((hY.block rb (by omega)).trans ((bB.block rb hrb).trans hr)) ⟨ko, kn, ks, ka, ke⟩ ⟨lim.1, lim.2.1, lim.2.2.1, lim.2.2.2.1, lim.2.2.2.2.1⟩ ro rn rs ra re R.sys R.bld
  have HSC : Hid (∀ Y, Below B.heap.size B Y → ∀ f2 t2, Ls Y f2 1 (fr.map sR) → Ls Y t2 1 (to.map sR) → Calls Try.prog 18 #[.agg now, f2, t2] Y (GiE Y Q E)) := fun Y hY f2 t2 h1 h2 => by
    have := swapC_any Y _ _ _ _ _ R hs (hrc.below (bB.trans (hY.mono bB.size))) f2 t2 fr to h1 h2 hbd
    unfold SwE at this
    rw [hnow, hQ, hE]
    exact this
  have HSR : Hid (∀ Y, Below B.heap.size B Y → Calls Try.prog 19 #[.agg r0, .slice ofr nf cf, .slice ot nt ct] Y (GiE Y Q E)) := fun Y hY => by
    have bY := bB.trans (hY.mono bB.size)
    have := swapR_any Y _ _ _ _ _ R hs (hR.below bY) _ _ fr to (hf.below bY) (ht.below bY) hbd
    unfold SwE at this
    rw [hr0, hQ, hE]
    exact this
  have HKP : Hid (∀ Y, Below B.heap.size B Y → Calls Try.prog 16 #[.pointer (some ⟨rb, 0, none⟩), .agg r0] Y fun en w' => en = .returned (.bool true) ∧ Below Y.heap.size Y w') := fun Y hY => by
    rw [hr0]
    have bY := bB.trans (hY.mono bB.size)
    exact kept_any Y base rb _ _ _ _ _ _ us ls R hs (h.below bY) ((bY.block rb hrb).trans hr) ro rn rs ra re (hR.below bY)
  have HLD : Hid (∀ Y, Below B.heap.size B Y → (ldR (.pointer (some ⟨W.heap.size, 0, none⟩))).run Try.prog Y = .ok (.agg r0) Y ∧ Below W.heap.size W Y ∧ Ls Y (.slice ofr nf cf) 1 (fr.map sR) ∧ Ls Y (.slice ot nt ct) 1 (to.map sR)) := fun Y hY => by
    have bY := bB.trans (hY.mono bB.size)
    exact ⟨ld_R Y W.heap.size r0 (by rw [hr0]; rfl) (by rw [hr0]; exact (hY.block _ hBz).trans rB), bY, hf.below bY, ht.below bY⟩
  have HZ : Hid (Sm R ∧ Sm Q ∧ fr.length = nf ∧ to.length = nt ∧ nf ≤ 10000000 ∧ nt ≤ 10000000) := ⟨hs, sQ, hnf, hnt, by have := hbd.2.2.2.2.1; omega, by have := hbd.2.2.2.2.2; omega⟩
  have SP1 : Hid _ := spare_any B (.slice ofr nf cf) fr (hf.below bB) (by have := hbd.2.2.2.2.1; omega)
  have SP2 : Hid (∀ Y, Below B.heap.size B Y → Calls Try.prog 9 #[.slice ot nt ct] Y (FrP Y 9 1 ((to ++ [BEH]).map sR))) := fun Y hY => spare_any Y (.slice ot nt ct) to (ht.below (bB.trans (hY.mono bB.size))) (by have := hbd.2.2.2.2.2; omega)
  have HB : Hid (_ = B) := hB
  unfold rV at HB
  unfold rV
  clear h hs hr hR hf ht hbd ko kn ks ka ke hrc hnf hnt lim hrb bB rB hBz hnow hr0 hQ hE sQ hB
  go_enter Try.func8, Try.ntmps8
  go_wp2_with fail
  rw [HB.out]
  refine Calls.mono SP1.out ?_
  rintro en w1 ⟨fv, rfl, of, bf⟩
  obtain ⟨fg, fc, rfl, sp1⟩ := spa_of of bf
  have H1 : Hid (Spa B fr.length fg fc fr w1) := sp1
  rw [HZ.out.2.2.1] at H1
  rw [HZ.out.2.2.1]
  clear SP1 of bf sp1
  go_wp2_with fail
  refine Calls.mono (SP2.out w1 H1.out.bel) ?_
  rintro en w2 ⟨tv, rfl, ob, bb⟩
  obtain ⟨tg, tc, rfl, sp2⟩ := spa_of ob bb
  have H2 : Hid (Spa w1 to.length tg tc to w2) := sp2
  rw [HZ.out.2.2.2.1] at H2
  rw [HZ.out.2.2.2.1]
  have bA := below_drw w2
  obtain ⟨A, hA⟩ : ∃ A, w2.drew = A := ⟨_, rfl⟩
  rw [hA] at bA
  have HA : Hid (w2.drew = A ∧ Spa B nf fg fc fr A ∧ Spa w1 nt tg tc to A) := ⟨hA, (H1.out.below bb).below bA, H2.out.below bA⟩
  clear SP2 ob bb sp2 bA hA H1 H2
  go_wp2_with fail
  refine wp_region_joint (ops := regS) (J := Js A (Kd rb (.agg r0) (.agg now) (.slice (some ⟨fg, 0, none⟩) (nf + 1) fc) (.slice ofr nf cf) (.slice (some ⟨fg, 0, none⟩) nf fc) (.slice (some ⟨tg, 0, none⟩) (nt + 1) tc) (.slice ot nt ct) (.slice (some ⟨tg, 0, none⟩) nt tc) nf nt E) Q E) (by kernel_rfl) (fun i o ho => (okR_at ok_regS ho).1) (fun i j o oj d ho hj q1 q2 => (okR_at ok_regS ho).2.2 j oj d hj q1 q2) (fun i o d ho q => (okR_at ok_regS ho).2.1 d q)
    (stepS _ A rb W.heap.size nf nt (nf + 1) fc cf (nt + 1) tc ct (some ⟨fg, 0, none⟩) ofr (some ⟨tg, 0, none⟩) ot r0 now Q E _ rfl rfl rfl rfl rfl rfl
      (fun Y hY => HIN.out Y (HA.out.2.1.below hY).bel)
      (fun Y hY => HSC.out Y (HA.out.2.1.below hY).bel _ _ (HA.out.2.1.below hY).ls (HA.out.2.2.below hY).ls)
      (fun Y hY => (HLD.out Y (HA.out.2.1.below hY).bel).1)
      (fun Y => run_slT Y _ _ _ _ (by have := HA.out.2.1.cap; omega))
      (fun Y => run_slT Y _ _ _ _ (by have := HA.out.2.2.cap; omega))) (by rw [HA.out.1]; exact js_start A _ Q E (fun n => rfl)) (fun X wE hE => ?_)
  rw [putS]
  obtain ⟨g3, hg3, -, -, hst⟩ := hE.al rfl
  obtain ⟨A3, rA3, iA3⟩ := hst rfl
  have x17 := hE.kc 17 _ rfl rfl
  have bo3 := bo_of rA3 iA3
  have bE := hE.bel
  have HE : Hid (Spa B nf fg fc fr wE ∧ Spa w1 nt tg tc to wE ∧ Bo wE g3 A3 Q) := ⟨HA.out.2.1.below bE, HA.out.2.2.below bE, bo3⟩
  have l1 := (HLD.out wE HE.out.1.bel).1
  simp only [hg3, x17]
  clear hE hst rA3 iA3 x17 bo3 bE hg3 HA
  go_wp2_with fail
  refine Calls.mono (HSR.out wE HE.out.1.bel) ?_
  intro en w5 hG
  clear l1
  obtain ⟨zo, io, jo, zn, in_, jn, zs, is_, js, za, ia, ja, ze, ie, je, vv, rfl, tw3, b5⟩ := hG.sl
  obtain ⟨A4, hA4⟩ : ∃ C, C = rV (.slice zo io jo) (.slice zn in_ jn) (.slice zs is_ js) Q.sys Q.bld (.slice za ia ja) (.slice ze ie je) := ⟨_, rfl⟩
  have bo4 := bo_new tw3
  rw [← hA4] at bo4
  obtain ⟨X4, hX4⟩ : ∃ X, w5.alloc (.cells A4 27) = X := ⟨_, rfl⟩
  have bX4 : Below w5.heap.size w5 X4 := hX4 ▸ below_al _ _
  rw [hX4] at bo4
  obtain ⟨g4, hg4⟩ : ∃ g, w5.heap.size = g := ⟨_, rfl⟩
  have b54 : Below wE.heap.size wE X4 := b5.trans (bX4.mono b5.size)
  have HF : Hid (Spa B nf fg fc fr X4 ∧ Spa w1 nt tg tc to X4 ∧ Bo X4 g3 A3 Q ∧ Bo X4 g4 A4 Q) := ⟨HE.out.1.below b54, HE.out.2.1.below b54, HE.out.2.2.later b54, hg4 ▸ bo4⟩
  have HX4' : Hid (_ = X4) := hX4
  rw [hA4] at HX4'
  unfold rV at HX4'
  have sl1 := fun w => run_slS w (some ⟨fg, 0, none⟩) (nf + 1) fc nf (by have := HF.out.1.cap; omega)
  have sl2 := fun w => run_slS w (some ⟨tg, 0, none⟩) (nt + 1) tc nt (by have := HF.out.2.1.cap; omega)
  have TX1 : Hid _ := texts_eq X4 (.slice (some ⟨fg, 0, none⟩) nf fc) (.slice ofr nf cf) fr HF.out.1.ls (HLD.out X4 HF.out.1.bel).2.2.1 (by unfold MX; have := HZ.out.2.2; omega)
  clear hG tw3 b5 bo4 bX4 b54 hA4 hX4 HE
  go_wp2_with fail
  rw [HX4'.out]
  refine Calls.mono TX1.out ?_
  rintro en w6 ⟨rfl, m6, hw6⟩
  have b6 : Below X4.heap.size X4 w6 := drew_bel ⟨m6, hw6⟩
  have H6 : Hid (Spa B nf fg fc fr w6 ∧ Spa w1 nt tg tc to w6 ∧ Bo w6 g3 A3 Q ∧ Bo w6 g4 A4 Q) := ⟨HF.out.1.below b6, HF.out.2.1.below b6, HF.out.2.2.1.later b6, HF.out.2.2.2.later b6⟩
  have TX2 : Hid _ := texts_eq w6 (.slice (some ⟨tg, 0, none⟩) nt tc) (.slice ot nt ct) to H6.out.2.1.ls (HLD.out w6 H6.out.1.bel).2.2.2 (by unfold MX; have := HZ.out.2.2; omega)
  clear TX1 hw6 b6 HF HX4' hg4
  go_wp2_with fail
  refine Calls.mono TX2.out ?_
  rintro en w7 ⟨rfl, m7, hw7⟩
  have b7 : Below w6.heap.size w6 w7 := drew_bel ⟨m7, hw7⟩
  have H7 : Hid (Spa B nf fg fc fr w7 ∧ Bo w7 g3 A3 Q ∧ Bo w7 g4 A4 Q) := ⟨H6.out.1.below b7, H6.out.2.2.1.later b7, H6.out.2.2.2.later b7⟩
  have cB1 := (H6.out.1.below b7).mark
  have cB2 := (H6.out.2.1.below b7).mark
  have h0 : (0 : Int) ≤ (nf : Int) := by omega
  have h1 : (nf : Int) < ((nf + 1 : Nat) : Int) := by omega
  have h2 : (0 : Int) ≤ (nt : Int) := by omega
  have h3 : (nt : Int) < ((nt + 1 : Nat) : Int) := by omega
  have l3 := bo_ld H7.out.2.1 (Below.refl _ _)
  have l4 := bo_ld H7.out.2.2 (Below.refl _ _)
  unfold BEH at cB1 cB2
  clear TX2 hw7 b7 H6
  go_wp2_with fail
  refine Calls.mono (bo_equal H7.out.2.1 H7.out.2.2 HZ.out.2.1 (Below.refl _ _)) ?_
  rintro en w8 ⟨rfl, b8⟩
  have H8 : Hid (Spa B nf fg fc fr w8) := H7.out.1.below b8
  have l5 := (HLD.out w8 H8.out.bel).1
  clear l3 l4 b8 cB1 cB2 sl1 sl2
  go_wp2_with fail
  refine Calls.mono (HKP.out w8 H8.out.bel) ?_
  rintro en w9 ⟨rfl, b9⟩
  have HFin : Hid (Below W.heap.size W w9) := (HLD.out w9 (H8.out.below b9).bel).2.1
  clear l5 b9
  go_wp2_with fail
  go_ret
  exact ⟨rfl, HFin.out⟩
end
end Go.Proofs.Ytcggaiplepekdaa
