/- Recipes: kept. -/
import Derived.Test.YtcggaiplepekdaaRcK
import Derived.Test.YtcggaiplepekdaaRcO
namespace Go.Proofs.Ytcggaiplepekdaa
open Go.RowKit
theorem Ls.last {W : World} {oa : Option Addr} {n c sz : Nat} {l : List (Array Value)} {x : Array Value} (h : Ls W (.slice oa n c) sz (l ++ [x])) : n = l.length + 1 ∧ ∃ g o, oa = some ⟨g, o, none⟩ ∧ g < W.heap.size ∧ W.rangeAt g (o + l.length * sz) x.toList := by
  have h2 := h.at l.length x (by rw [List.getElem?_append_right (Nat.le_refl _), Nat.sub_self]; rfl)
  obtain ⟨_, _, e, _⟩ := h
  injection e with _ e2 _
  exact ⟨by rw [e2]; simp, h2⟩
theorem lS9 (Y : World) {g k : Nat} {s : S} (h : Y.cell? ⟨g, k, none⟩ = some (.string s)) : (Instr.loadAt 9 (.pointer (some ⟨g, k, none⟩))).run Try.prog Y = .ok (.string s) Y := by simp [h, go_sem]
theorem bd39 (w : World) : (Instr.build 39 #[(0, .string ⟨#[98, 101, 104, 105, 110, 100]⟩)]).run Try.prog w = .ok (.agg #[.string ⟨#[98, 101, 104, 105, 110, 100]⟩, .string ⟨#[]⟩, .string ⟨#[]⟩, .string ⟨#[]⟩]) w := run_build w 39 _ _ (by kernel_rfl)
section
attribute [local go_sem ↓] toLdO toLdR
set_option maxRecDepth 100000 in
set_option maxHeartbeats 3200000 in
theorem kept_any (W : World) (base rb : Nat) (o n s a e l : Value) (us ls : List Value) (R : Rcp) (hs : Sm R) (h : Rl base W o n s a e l us ls R) (hr : W.heap[rb]? = some (.cells (rmV o n s a e l) 30 (0, 0))) (ro rn rs ra re : Value) (hR : Rc W ro rn rs ra re R) :
    Calls Try.prog 16 #[.pointer (some ⟨rb, 0, none⟩), .agg (rV ro rn rs R.sys R.bld ra re)] W fun en w' => en = .returned (.bool true) ∧ Below W.heap.size W w' := by
  obtain ⟨xo, xn, xs, xa, xe, co, cn, cs, ca, ce, rfl, rfl, rfl, rfl, rfl, ko, kn, ks, ka, ke, hrc⟩ := h.rc
  obtain ⟨xl, cl, fl, -⟩ := h.fl.form
  rw [List.length_map, h.ll] at fl
  subst fl
  have lim := hs
  unfold Sm at lim
  have hrb : rb < W.heap.size := (Array.getElem?_eq_some_iff.1 hr).1
  obtain ⟨B, hB⟩ : ∃ B, W.alloc (.cells (rV ro rn rs R.sys R.bld ra re) 27) = B := ⟨_, rfl⟩
  have bB : Below W.heap.size W B := by rw [← hB]; exact (Below.refl _ W).alloc (Nat.le_refl _) _
  have rB : B.heap[W.heap.size]? = some (.cells (rV ro rn rs R.sys R.bld ra re) 27 (0, 0)) := by rw [← hB]; exact heap_alloc_new _ _
  have hBz : B.heap.size = W.heap.size + 1 := by rw [← hB]; simp
  have C11 : Hid _ := in_any B rb xo xn xs xa xe R.o.length R.n.length R.s.length R.a.length R.e.length co cn cs ca ce (.slice xl R.n.length cl) ((bB.block rb hrb).trans hr) ⟨ko, kn, ks, ka, ke⟩ ⟨lim.1, lim.2.1, lim.2.2.1, lim.2.2.2.1, lim.2.2.2.2.1⟩ ro rn rs ra re R.sys R.bld
  have ld0 := ld_R B W.heap.size _ rfl rB
  rw [← hB] at ld0
  have qo := h.fo.ls
  have qn := h.fn.ls
  have qs := h.fs.ls
  have qa := h.fa.ls
  have qe := h.fe.ls
  rw [List.map_append] at qo qs qa qe
  obtain ⟨-, g0, p0, rfl, hg0, t0⟩ := qo.last
  obtain ⟨-, g1, p1, rfl, hg1, t1⟩ := qn.last
  obtain ⟨-, g2, p2, rfl, hg2, t2⟩ := qs.last
  obtain ⟨-, g3, p3, rfl, hg3, t3⟩ := qa.last
  obtain ⟨-, g4, p4, rfl, hg4, t4⟩ := qe.last
  rw [List.length_map] at t0 t2 t3 t4
  rw [List.length_zipWith, h.ul, Nat.min_self] at t1
  have HT : Hid (∀ Y, Below W.heap.size W Y → Y.rangeAt g0 (p0 + R.o.length * 4) (oR ONE).toList ∧ Y.cell? ⟨g1, p1 + R.n.length * 2, none⟩ = some (.string BEH) ∧ Y.cell? ⟨g2, p2 + R.s.length, none⟩ = some (.string BEH) ∧ Y.cell? ⟨g3, p3 + R.a.length, none⟩ = some (.string BEH) ∧ Y.cell? ⟨g4, p4 + R.e.length * 2, none⟩ = some (.string BEH)) := fun Y hY => by
    refine ⟨range_block t0 (hY.block _ hg0), range_block t1 (hY.block _ hg1) 0 _ rfl, ?_, ?_, range_block t4 (hY.block _ hg4) 0 _ rfl⟩
    · have := range_block t2 (hY.block _ hg2) 0 _ rfl
      simpa using this
    · have := range_block t3 (hY.block _ hg3) 0 _ rfl
      simpa using this
  have HB : Hid (W.alloc (.cells (rV ro rn rs R.sys R.bld ra re) 27) = B ∧ Below W.heap.size W B ∧ B.heap[W.heap.size]? = some (.cells (rV ro rn rs R.sys R.bld ra re) 27 (0, 0)) ∧ B.heap.size = W.heap.size + 1) := ⟨hB, bB, rB, hBz⟩
  have HH : Hid (Rl base W (.slice (some ⟨g0, p0, none⟩) (R.o.length + 1) co) (.slice (some ⟨g1, p1, none⟩) (R.n.length + 1) cn) (.slice (some ⟨g2, p2, none⟩) (R.s.length + 1) cs) (.slice (some ⟨g3, p3, none⟩) (R.a.length + 1) ca) (.slice (some ⟨g4, p4, none⟩) (R.e.length + 1) ce) (.slice xl R.n.length cl) us ls R ∧ W.heap[rb]? = some (.cells (rmV (.slice (some ⟨g0, p0, none⟩) (R.o.length + 1) co) (.slice (some ⟨g1, p1, none⟩) (R.n.length + 1) cn) (.slice (some ⟨g2, p2, none⟩) (R.s.length + 1) cs) (.slice (some ⟨g3, p3, none⟩) (R.a.length + 1) ca) (.slice (some ⟨g4, p4, none⟩) (R.e.length + 1) ce) (.slice xl R.n.length cl)) 30 (0, 0)) ∧ Sm R ∧ Rc W ro rn rs ra re R ∧ Rc W (.slice (some ⟨g0, p0, none⟩) R.o.length co) (.slice (some ⟨g1, p1, none⟩) R.n.length cn) (.slice (some ⟨g2, p2, none⟩) R.s.length cs) (.slice (some ⟨g3, p3, none⟩) R.a.length ca) (.slice (some ⟨g4, p4, none⟩) R.e.length ce) R ∧ rb < W.heap.size) := ⟨h, hr, hs, hR, hrc, hrb⟩
  clear h hr hs hR hrc ko kn ks ka ke lim hB bB rB hBz hrb qo qn qs qa qe hg0 hg1 hg2 hg3 hg4 t0 t1 t2 t3 t4
  unfold rV at ld0
  unfold rV
  go_enter Try.func16, Try.ntmps16
  go_wp2_with fail
  rw [show W.alloc (.cells #[ro, rn, rs, .string R.sys, .string R.bld, ra, re] 27) = B from HB.out.1]
  refine Calls.mono C11.out ?_
  rintro en X ⟨rfl, hX⟩
  clear C11 ld0
  obtain ⟨A1, hA1⟩ : ∃ A, A = rV (.slice (some ⟨g0, p0, none⟩) R.o.length co) (.slice (some ⟨g1, p1, none⟩) R.n.length cn) (.slice (some ⟨g2, p2, none⟩) R.s.length cs) R.sys R.bld (.slice (some ⟨g3, p3, none⟩) R.a.length ca) (.slice (some ⟨g4, p4, none⟩) R.e.length ce) := ⟨_, rfl⟩
  obtain ⟨A2, hA2⟩ : ∃ A, A = rV ro rn rs R.sys R.bld ra re := ⟨_, rfl⟩
  obtain ⟨X1, hX1⟩ : ∃ X1, X.alloc (.cells A1 27) = X1 := ⟨_, rfl⟩
  have bX1 : Below X.heap.size X X1 := by rw [← hX1]; exact (Below.refl _ X).alloc (Nat.le_refl _) _
  have rX1 : X1.heap[X.heap.size]? = some (.cells A1 27 (0, 0)) := by rw [← hX1]; exact heap_alloc_new _ _
  have bB1 : Below B.heap.size B X1 := hX.trans (bX1.mono hX.size)
  have bW1 : Below W.heap.size W X1 := HB.out.2.1.trans (bB1.mono HB.out.2.1.size)
  have rB1 : X1.heap[W.heap.size]? = some (.cells A2 27 (0, 0)) := by rw [hA2]; exact (bB1.block _ (by have := HB.out.2.2.2; omega)).trans HB.out.2.2.1
  have rm1 : X1.heap[rb]? = some (.cells (rmV (.slice (some ⟨g0, p0, none⟩) (R.o.length + 1) co) (.slice (some ⟨g1, p1, none⟩) (R.n.length + 1) cn) (.slice (some ⟨g2, p2, none⟩) (R.s.length + 1) cs) (.slice (some ⟨g3, p3, none⟩) (R.a.length + 1) ca) (.slice (some ⟨g4, p4, none⟩) (R.e.length + 1) ce) (.slice xl R.n.length cl)) 30 (0, 0)) := (bW1.block _ HH.out.2.2.2.2.2).trans HH.out.2.1
  have C15 : Hid (∀ Y, Below X1.heap.size X1 Y → Calls Try.prog 15 #[.agg A1, .agg A2] Y fun en w' => en = .returned (.bool true) ∧ Below X1.heap.size X1 w') := fun Y hY => by
    rw [hA1, hA2]
    exact (equal_any Y R HH.out.2.2.1 _ _ _ _ _ _ _ _ _ _ (HH.out.2.2.2.2.1.below (bW1.trans (hY.mono bW1.size))) (HH.out.2.2.2.1.below (bW1.trans (hY.mono bW1.size)))).mono fun en w' ⟨q1, q2⟩ => ⟨q1, hY.trans (q2.mono hY.size)⟩
  have HX1 : Hid (X.alloc (.cells A1 27) = X1 ∧ Below W.heap.size W X1 ∧ A1 = rV (.slice (some ⟨g0, p0, none⟩) R.o.length co) (.slice (some ⟨g1, p1, none⟩) R.n.length cn) (.slice (some ⟨g2, p2, none⟩) R.s.length cs) R.sys R.bld (.slice (some ⟨g3, p3, none⟩) R.a.length ca) (.slice (some ⟨g4, p4, none⟩) R.e.length ce)) := ⟨hX1, bW1, hA1⟩
  have HY : Hid (∀ Y, Below X1.heap.size X1 Y → Below W.heap.size W Y ∧ Y.heap[X.heap.size]? = some (.cells A1 27 (0, 0)) ∧ Y.heap[W.heap.size]? = some (.cells A2 27 (0, 0)) ∧ Y.heap[rb]? = some (.cells (rmV (.slice (some ⟨g0, p0, none⟩) (R.o.length + 1) co) (.slice (some ⟨g1, p1, none⟩) (R.n.length + 1) cn) (.slice (some ⟨g2, p2, none⟩) (R.s.length + 1) cs) (.slice (some ⟨g3, p3, none⟩) (R.a.length + 1) ca) (.slice (some ⟨g4, p4, none⟩) (R.e.length + 1) ce) (.slice xl R.n.length cl)) 30 (0, 0))) := fun Y hY =>
    ⟨bW1.trans (hY.mono bW1.size), (hY.block _ (Array.getElem?_eq_some_iff.1 rX1).1).trans rX1, (hY.block _ (Array.getElem?_eq_some_iff.1 rB1).1).trans rB1, (hY.block _ (Array.getElem?_eq_some_iff.1 rm1).1).trans rm1⟩
  have sA1 : A1.size = 7 := by rw [hA1]; rfl
  have sA2 : A2.size = 7 := by rw [hA2]; rfl
  have HZ : Hid (A1.size = 7 ∧ A2.size = 7) := ⟨sA1, sA2⟩
  have lim := HH.out.2.2.1
  unfold Sm at lim
  obtain ⟨no, hno⟩ : ∃ k, R.o.length = k := ⟨_, rfl⟩
  obtain ⟨nn, hnn⟩ : ∃ k, R.n.length = k := ⟨_, rfl⟩
  obtain ⟨ns, hns⟩ : ∃ k, R.s.length = k := ⟨_, rfl⟩
  obtain ⟨na, hna⟩ : ∃ k, R.a.length = k := ⟨_, rfl⟩
  obtain ⟨ne, hne⟩ : ∃ k, R.e.length = k := ⟨_, rfl⟩
  rw [hno, hnn, hns, hna, hne] at lim
  rw [hno, hnn, hns, hna, hne] at HH HY HX1
  rw [hno, hnn, hns, hna, hne] at HT
  rw [hno, hnn, hns, hna, hne] at hA1
  rw [hno, hnn, hns, hna, hne]
  have wo : IntKind.i64.wrap (((no + 1 : Nat) : Int) - 1) = (no : Int) := by rw [IntKind.wrap_i64]; omega
  have wn : IntKind.i64.wrap (((nn + 1 : Nat) : Int) - 1) = (nn : Int) := by rw [IntKind.wrap_i64]; omega
  have ws : IntKind.i64.wrap (((ns + 1 : Nat) : Int) - 1) = (ns : Int) := by rw [IntKind.wrap_i64]; omega
  have wa : IntKind.i64.wrap (((na + 1 : Nat) : Int) - 1) = (na : Int) := by rw [IntKind.wrap_i64]; omega
  have we : IntKind.i64.wrap (((ne + 1 : Nat) : Int) - 1) = (ne : Int) := by rw [IntKind.wrap_i64]; omega
  have HWW : Hid (_ ∧ _ ∧ _ ∧ _ ∧ _) := ⟨wo, wn, ws, wa, we⟩
  have HLN : Hid (R.n.length = nn ∧ nn ≤ 10000000) := ⟨hnn, lim.2.1⟩
  clear hX1 bX1 rX1 bB1 bW1 rB1 hX rm1 sA1 sA2 wo wn ws wa we hno hnn hns hna hne lim
  have HX1' : Hid (_ = X1) := HX1.out.1
  rw [hA1] at HX1'
  unfold rV at HX1'
  unfold rV
  clear hA1 hA2
  go_wp2_with fail
  rw [HX1'.out]
  refine wp_region_vals (ops := regK) (V := VK rb X.heap.size W.heap.size g0 p0 (no + 1) no co g1 p1 (nn + 1) nn cn g2 p2 (ns + 1) ns cs g3 p3 (na + 1) na ca g4 p4 (ne + 1) ne ce A1 A2) (S := fun _ Y => Below X1.heap.size X1 Y) (by kernel_rfl) (fun i o ho => (okR_at ok_regK ho).1) (fun i j o oj d ho hj q1 q2 => (okR_at ok_regK ho).2.2 j oj d hj q1 q2) (fun i o d ho q => (okR_at ok_regK ho).2.1 d q)
    (stepK1 _ rb X.heap.size W.heap.size g0 p0 (no + 1) no co g1 p1 (nn + 1) nn cn g2 p2 (ns + 1) ns cs g3 p3 (na + 1) na ca g4 p4 (ne + 1) ne ce A1 A2 _ _ rfl rfl rfl (fun i hi l Y h => h)
      (fun l Y h _ _ _ => C15.out Y h)
      (fun l Y h _ _ _ => ⟨Y, ld_R Y _ A1 HZ.out.1 (HY.out Y h).2.1, h⟩)
      (fun l Y h _ _ _ => ⟨Y, ld_R Y _ A2 HZ.out.2 (HY.out Y h).2.2.1, h⟩)
      (fun l Y h _ _ _ => ⟨Y, lS22 Y (c1 (HY.out Y h).2.2.2 rfl), h⟩)
      (fun l Y h _ _ _ => ⟨Y, lS22 Y (c1 (HY.out Y h).2.2.2 rfl), h⟩)
      (fun l Y h _ _ _ => ⟨Y, ld_O Y g0 (p0 + no * 4) _ rfl (HT.out Y (HY.out Y h).1).1, h⟩)
      (fun l Y h _ _ _ => ⟨Y, lS23 Y (c1 (HY.out Y h).2.2.2 rfl), h⟩)
      (fun l Y h _ _ _ => ⟨Y, lS23 Y (c1 (HY.out Y h).2.2.2 rfl), h⟩)
      (fun l Y h _ _ _ => ⟨Y, lS9 Y (HT.out Y (HY.out Y h).1).2.1, h⟩)
      (fun l Y h _ _ _ => ⟨Y, lS24 Y (c1 (HY.out Y h).2.2.2 rfl), h⟩)
      (fun l Y h _ _ _ => ⟨Y, lS24 Y (c1 (HY.out Y h).2.2.2 rfl), h⟩)
      (fun l Y h _ _ _ => ⟨Y, lS9 Y (HT.out Y (HY.out Y h).1).2.2.1, h⟩)
      (fun l Y h _ _ _ => ⟨Y, lS24 Y (c1 (HY.out Y h).2.2.2 rfl), h⟩)
      (fun l Y h _ _ _ => ⟨Y, lS24 Y (c1 (HY.out Y h).2.2.2 rfl), h⟩)
      (fun l Y h _ _ _ => ⟨Y, lS9 Y (HT.out Y (HY.out Y h).1).2.2.2.1, h⟩)
      (fun l Y h _ _ _ => ⟨Y, lS25 Y (c1 (HY.out Y h).2.2.2 rfl), h⟩)
      (fun l Y h _ _ _ => ⟨Y, lS25 Y (c1 (HY.out Y h).2.2.2 rfl), h⟩)
      (fun l Y h _ _ _ => ⟨Y, lS9 Y (HT.out Y (HY.out Y h).1).2.2.2.2, h⟩)
      (fun l Y h _ _ _ => ⟨Y, bd39 Y, h⟩)
      HWW.out.1 (by omega) (by omega) HWW.out.2.1 (by omega) (by omega) HWW.out.2.2.1 (by omega) (by omega) HWW.out.2.2.2.1 (by omega) (by omega) HWW.out.2.2.2.2 (by omega) (by omega)) ⟨rfl, rfl, rfl, Nat.le_refl _, fun _ _ => rfl⟩ (fun wE hE => ?_)
  rw [putK]
  have HE : Hid (Below X1.heap.size X1 wE) := hE
  simp only [VK]
  clear hE C15 HX1'
  go_wp2_with fail
  obtain ⟨R0, hR0⟩ : ∃ P : World → Prop, P = fun Y => Below X1.heap.size X1 Y := ⟨_, rfl⟩
  have HQ : Hid (∀ Y, R0 Y → R0 Y.drew ∧ Below W.heap.size W Y ∧ Y.heap[rb]? = some (.cells (rmV (.slice (some ⟨g0, p0, none⟩) (no + 1) co) (.slice (some ⟨g1, p1, none⟩) (nn + 1) cn) (.slice (some ⟨g2, p2, none⟩) (ns + 1) cs) (.slice (some ⟨g3, p3, none⟩) (na + 1) ca) (.slice (some ⟨g4, p4, none⟩) (ne + 1) ce) (.slice xl nn cl)) 30 (0, 0))) := fun Y hY => by
    rw [hR0] at hY ⊢
    exact ⟨below_dr hY, (HY.out Y hY).1, (HY.out Y hY).2.2.2⟩
  have HS : Hid (R0 wE) := by rw [hR0]; exact HE.out
  clear hR0
  go_loopw [6] (fun iv wr => ∃ i : Nat, iv = .int .i64 (i : Int) ∧ Hid (i ≤ nn ∧ R0 wr)) (fun iv _ => nn + 1 - (intOf iv).toNat)
  case atStart => exact ⟨0, rfl, Nat.zero_le _, HS.out⟩
  case round =>
    obtain ⟨i, rfl, HI⟩ := hrel
    obtain ⟨rd, bw, rm⟩ := HQ.out wr HI.out.2
    have k5 : wr.cell? ⟨rb, 5, none⟩ = some (.slice xl nn cl) := c1 rm rfl
    by_cases hi : i < nn
    · have hin : i < R.n.length := by have := HLN.out.1; omega
      obtain ⟨x, hx⟩ : ∃ x, R.n[i]? = some x := ⟨_, List.getElem?_eq_getElem hin⟩
      have rl := HH.out.1
      obtain ⟨u, hu⟩ : ∃ u, us[i]? = some u := ⟨_, List.getElem?_eq_getElem (by have := rl.ul; omega)⟩
      obtain ⟨v, hv⟩ : ∃ u, ls[i]? = some u := ⟨_, List.getElem?_eq_getElem (by have := rl.ll; omega)⟩
      obtain ⟨⟨oa, c, rfl, -, -⟩, ov⟩ := rl.each i x u v hx hu hv
      have hv2 : (ls.map fun v => #[v])[i]? = some #[.slice oa (x.2.length + 1) c] := by rw [List.getElem?_map, hv]; rfl
      obtain ⟨gl, ql, rfl, hgl, r1⟩ := rl.fl.ls.at i _ hv2
      have s1 : wr.drew.cell? ⟨gl, ql + i, none⟩ = some (.slice oa (x.2.length + 1) c) := by have := range_block r1 (bw.block _ hgl) 0 _ rfl; simpa using this
      have lv := ov.ls
      rw [List.map_append] at lv
      obtain ⟨-, gi, pi, rfl, hgi, r2⟩ := lv.last
      have s2 : wr.drew.cell? ⟨gi, pi + x.2.length, none⟩ = some (.string BEH) := by have := range_block r2 (bw.block _ hgi) 0 _ rfl; simpa using this
      have k6 : wr.drew.cell? ⟨rb, 5, none⟩ = some (.slice (some ⟨gl, ql, none⟩) nn cl) := k5
      have hsx := HH.out.2.2.1.2.2.2.2.2 x (List.mem_of_getElem? hx)
      obtain ⟨m, hm⟩ : ∃ m, x.2.length = m := ⟨_, rfl⟩
      rw [hm] at s1 s2 hsx
      obtain ⟨m1, hm1⟩ : ∃ k, m + 1 = k := ⟨_, rfl⟩
      rw [hm1] at s1
      have wm : IntKind.i64.wrap ((m1 : Int) - 1) = (m : Int) := by rw [IntKind.wrap_i64]; omega
      have hm0 : (0 : Int) ≤ (m : Int) := by omega
      have hm2 : (m : Int) < (m1 : Int) := by omega
      have hi0 : (0 : Int) ≤ (i : Int) := by omega
      have hi1 : (i : Int) < (nn : Int) := by omega
      have w1 : IntKind.i64.wrap ((i : Int) + 1) = (i : Int) + 1 := by rw [IntKind.wrap_i64]; have := HLN.out.2; omega
      have HK : Hid (i < nn ∧ R0 wr.drew) := ⟨hi, rd⟩
      unfold BEH at s2
      clear hi hin hx hu hv rl ov hv2 hgl r1 lv hgi r2 hsx hm hm1 rd bw rm
      go_wp2_with fail
      go_region
      go_wp2_with fail
      go_roundw
      case rel => exact ⟨i + 1, by go_num, HK.out.1, HK.out.2⟩
      case measure => have := HK.out.1; simp [intOf]; omega
    · have hi2 : ¬ ((i : Int) < (nn : Int)) := by omega
      have HF : Hid (Below W.heap.size W wr) := bw
      clear hi rd bw rm
      go_wp2_with fail
      go_ret
      exact ⟨rfl, HF.out⟩
end
end Go.Proofs.Ytcggaiplepekdaa
