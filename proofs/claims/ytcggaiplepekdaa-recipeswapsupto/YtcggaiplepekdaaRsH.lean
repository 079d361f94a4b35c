/- twin and copyOf, their lists of texts told apart. -/
import Derived.Test.YtcggaiplepekdaaRcO
namespace Go.Proofs.Ytcggaiplepekdaa
open Go.RowKit
/-- The arguments' block is no other list's. -/
def Sepa (s a : Value) (us : List Value) : Prop := ∀ g, a.ownBlock = some g → s.ownBlock ≠ some g ∧ ∀ (j : Nat) u, us[j]? = some u → u.ownBlock ≠ some g
section
attribute [local go_sem ↓] toApO toApI toApS toApP toLdR toStR
set_option maxRecDepth 100000 in
set_option maxHeartbeats 3200000 in
theorem twin_sep (W : World) (o n s a e : Value) (R : Rcp) (hs : Sm R) (h : Rc W o n s a e R) : Calls Try.prog 21 #[.agg (rV o n s R.sys R.bld a e)] W fun en w' => ∃ o' n' s' a' e' us, en = .returned (.agg (rV o' n' s' R.sys R.bld a' e')) ∧ Tw W.heap.size w' o' n' s' a' e' us R ∧ Below W.heap.size W w' ∧ Sepa s' a' us := by
  have lim := hs
  unfold Sm at lim
  obtain ⟨B0, hB0⟩ : ∃ B0, (W.alloc (.cells (rV o n s R.sys R.bld a e) 27)).alloc (.cells zR 27) = B0 := ⟨_, rfl⟩
  have x0 : Bx W (rV o n s R.sys R.bld a e) B0 := hB0 ▸ bx_new W _
  have z0 : W.heap.size ≤ B0.heap.size := x0.bel.size
  obtain ⟨v1, w1, hr1, hP1⟩ := run_apO B0 W.heap.size (.slice none 0 0) o [] _ (ol_nil _ _ _ _) (h.o.below x0.bel) (by unfold MX; simp; omega) z0
  have p1 := cp_of hP1
  have x1 := x0.below p1.bel
  obtain ⟨f1, y1⟩ := x1.set 0 v1
  obtain ⟨B1, hB1⟩ : ∃ B1, w1.setCell ⟨W.heap.size, 0, none⟩ v1 = B1 := ⟨_, rfl⟩
  have o1 : Ol W.heap.size 39 4 B1 v1 (R.o.map oR) := hB1 ▸ p1.own.box x1 (by decide) 0
  rw [hB1] at y1
  obtain ⟨xo, co, fo⟩ := h.o.form
  obtain ⟨us0, hu1, hu2, hu3⟩ := h.n
  obtain ⟨xn, cn, fn⟩ := hu2.form
  obtain ⟨xs, cs, fs⟩ := h.s.form
  obtain ⟨xa, ca, fa⟩ := h.a.form
  obtain ⟨xe, ce, fe⟩ := h.e.form
  have zl : (List.zipWith nR R.n us0).length = R.n.length := by rw [List.length_zipWith, hu1, Nat.min_self]
  obtain ⟨lo, hlo⟩ : ∃ k, R.o.length = k := ⟨_, rfl⟩
  obtain ⟨ln, hln⟩ : ∃ k, R.n.length = k := ⟨_, rfl⟩
  obtain ⟨lss, hls⟩ : ∃ k, R.s.length = k := ⟨_, rfl⟩
  obtain ⟨la, hla⟩ : ∃ k, R.a.length = k := ⟨_, rfl⟩
  obtain ⟨le, hle⟩ : ∃ k, R.e.length = k := ⟨_, rfl⟩
  rw [List.length_map, hlo] at fo
  rw [zl, hln] at fn
  rw [List.length_map, hls] at fs
  rw [List.length_map, hla] at fa
  rw [List.length_map, hle] at fe
  subst fo fn fs fa fe
  obtain ⟨sys, hsys⟩ : ∃ x, R.sys = x := ⟨_, rfl⟩
  obtain ⟨bld, hbld⟩ : ∃ x, R.bld = x := ⟨_, rfl⟩
  rw [hsys, hbld] at hB0 x0 x1 y1 ⊢
  have k1 : w1.cell? ⟨W.heap.size, 0, none⟩ = some (.slice xo lo co) := c1 x1.r0 rfl
  have c0 : B0.cell? ⟨W.heap.size, 0, none⟩ = some (.slice xo lo co) := c1 x0.r0 rfl
  have HW : Hid (B1.frozen? ⟨W.heap.size, 0, none⟩ = false ∧ Bx W ((rV (.slice xo lo co) (.slice xn ln cn) (.slice xs lss cs) sys bld (.slice xa la ca) (.slice xe le ce)).setIfInBounds 0 v1) B1 ∧ Ol W.heap.size 39 4 B1 v1 (R.o.map oR)) := ⟨frozen_of_row _ _ _ _ _ y1.r0, y1, o1⟩
  have HR : Hid (Rc W (.slice xo lo co) (.slice xn ln cn) (.slice xs lss cs) (.slice xa la ca) (.slice xe le ce) R ∧ us0.length = R.n.length ∧ Ls W (.slice xn ln cn) 2 (List.zipWith nR R.n us0) ∧ (∀ (i : Nat) x u, R.n[i]? = some x → us0[i]? = some u → Ls W u 1 (x.2.map sR)) ∧ Sm R ∧ R.n.length = ln ∧ W.heap.size ≤ B0.heap.size) := ⟨h, hu1, hu2, hu3, hs, hln, z0⟩
  obtain ⟨a1, n1, d1, e1⟩ := p1.sl
  subst e1
  clear h hs lim x0 hP1 p1 x1 y1 o1 hu1 hu2 hu3 zl hlo hls hla hle z0
  have HE : Hid (R.sys = sys ∧ R.bld = bld) := ⟨hsys, hbld⟩
  rw [← hB0] at hr1
  unfold rV zR at hr1
  unfold rV
  clear hsys hbld c0 hB0
  go_enter Try.func21, Try.ntmps21
  go_wp2_with fail
  clear hr1 k1 f1 hB1
  obtain ⟨C1, hC1⟩ : ∃ C : Array Value, C = #[.slice a1 n1 d1, .slice xn ln cn, .slice xs lss cs, .string sys, .string bld, .slice xa la ca, .slice xe le ce] := ⟨_, rfl⟩
  have HC : Hid (C1 = #[.slice a1 n1 d1, .slice xn ln cn, .slice xs lss cs, .string sys, .string bld, .slice xa la ca, .slice xe le ce]) := hC1
  have HS : Hid (Bx W C1 B1 ∧ Ol W.heap.size 39 4 B1 (.slice a1 n1 d1) (R.o.map oR)) := ⟨hC1 ▸ HW.out.2.1, HW.out.2.2⟩
  clear hC1 HW
  go_loopw [4, 5, 6] (fun lv iv _ wr => ∃ (i : Nat) (us : List Value) (xl : Option Addr) (nl cl : Nat), iv = .int .i64 (i : Int) ∧ lv = .slice xl nl cl ∧ Hid (i ≤ ln ∧ Bx W C1 wr ∧ Ol W.heap.size 39 4 wr (.slice a1 n1 d1) (R.o.map oR) ∧ Nm W.heap.size wr (.slice xl nl cl) us R.n i)) (fun _ iv _ _ => ln + 1 - (intOf iv).toNat)
  case atStart => exact ⟨0, [], none, 0, 0, rfl, rfl, Nat.zero_le _, HS.out.1, HS.out.2, ol_nil _ _ _ _, rfl, fun j x u q => absurd q (Nat.not_lt_zero _)⟩
  case round =>
    obtain ⟨i, us, xl, nl, cl, rfl, rfl, HI⟩ := hrel
    have k1 : wr.cell? ⟨W.heap.size, 1, none⟩ = some (.slice xn ln cn) := c1 HI.out.2.1.r0 (by rw [HC.out]; rfl)
    by_cases hi : i < ln
    · obtain ⟨ile, bx, oo, nm⟩ := HI.out
      have hin : i < R.n.length := by have := HR.out; omega
      obtain ⟨x, hx⟩ : ∃ x, R.n[i]? = some x := ⟨_, List.getElem?_eq_getElem hin⟩
      obtain ⟨u, hu⟩ : ∃ u, us0[i]? = some u := ⟨_, List.getElem?_eq_getElem (by have := HR.out.2.1; omega)⟩
      have hz : (List.zipWith nR R.n us0)[i]? = some (nR x u) := by rw [List.getElem?_zipWith, hx, hu]
      obtain ⟨g, q, rfl, hg, r1⟩ := HR.out.2.2.1.at i _ hz
      have rr := range_block r1 (bx.bel.block _ hg)
      have s1 : wr.cell? ⟨g, q + i * 2, none⟩ = some (.string x.1) := rr 0 _ rfl
      have s2 : wr.cell? ⟨g, q + i * 2 + 1, none⟩ = some u := rr 1 _ rfl
      have hsm := HR.out.2.2.2.2.1
      have hsx := hsm.2.2.2.2.2 x (List.mem_of_getElem? hx)
      have hsn : R.n.length ≤ 10000000 := hsm.2.1
      have lu := (HR.out.2.2.2.1 i x u hx hu).below bx.bel
      obtain ⟨u', w1, hr1, hP1⟩ := run_apS wr W.heap.size (.slice none 0 0) u [] _ (ol_nil _ _ _ _) lu (by unfold MX; simp; omega) bx.bel.size
      have p1 := cp_of hP1
      have bx1 := bx.below p1.bel
      have rr1 := range_block r1 (bx1.bel.block _ hg)
      have s3 : w1.cell? ⟨g, q + i * 2, none⟩ = some (.string x.1) := rr1 0 _ rfl
      have k2 : w1.cell? ⟨W.heap.size, 1, none⟩ = some (.slice (some ⟨g, q, none⟩) ln cn) := c1 bx1.r0 (by rw [HC.out]; rfl)
      obtain ⟨ou, cu, hu0⟩ := lu.form
      obtain ⟨xl0, hxl⟩ : ∃ k, (x.2.map sR).length = k := ⟨_, rfl⟩
      rw [hxl] at hu0
      obtain ⟨ou', nu', cu', hu0'⟩ := p1.sl
      subst hu0 hu0'
      have bal : Below wr.heap.size wr (w1.alloc (.cells (nR x (.slice ou' nu' cu')) 42)) := p1.bel.alloc p1.bel.size _
      have blw : Below w1.heap.size w1 (w1.alloc (.cells (nR x (.slice ou' nu' cu')) 42)) := (Below.refl _ _).alloc (Nat.le_refl _) _
      have nl1 : (List.zipWith nR (R.n.take i) us).length ≤ 10000000 := by rw [List.length_zipWith]; have := List.length_take_le i R.n; have := nm.ul; omega
      obtain ⟨lv', w2, hr2, hP2⟩ := run_apI (w1.alloc (.cells (nR x (.slice ou' nu' cu')) 42)) W.heap.size (.slice xl nl cl) (.slice (some ⟨w1.heap.size, 0, none⟩) 1 1) _ [nR x (.slice ou' nu' cu')] (nm.own.below bal) (ls_one w1 (nR x (.slice ou' nu' cu')) 42 2 rfl (by simp [nR, Value.oneCell'])) (by unfold MX; simp only [List.length_singleton]; omega) (by have := bx.bel.size; have := bal.size; omega)
      have nm2 := nm.step hx bal (p1.own.below blw) hP2
      have bx2 := (bx1.below blw).grown (nm.own.below bal) hP2.2.1 (by decide) (Nat.le_refl _)
      have oo2 := (oo.below bal).grown (nm.own.below bal) hP2.2.1 (by decide)
      obtain ⟨al, nl', cl', hl'⟩ : ∃ a n c, lv' = .slice a n c := by obtain ⟨a, c, q, -⟩ := hP2.1.form; exact ⟨a, _, c, q⟩
      subst hl'
      have HF : Hid (i < ln ∧ Bx W C1 w2 ∧ Ol W.heap.size 39 4 w2 (.slice a1 n1 d1) (R.o.map oR) ∧ Nm W.heap.size w2 (.slice al nl' cl') (us ++ [.slice ou' nu' cu']) R.n (i + 1)) := ⟨hi, bx2, oo2, nm2⟩
      have hi0 : (0 : Int) ≤ (i : Int) := by omega
      have hi1 : (i : Int) < (ln : Int) := by omega
      have w1' : IntKind.i64.wrap ((i : Int) + 1) = (i : Int) + 1 := by rw [IntKind.wrap_i64]; have := HR.out.2.2.2.2.2.1; omega
      obtain ⟨x1, x2⟩ := x
      unfold nR at hr2
      clear hi ile bx oo nm hin hx hu hz hg r1 rr hsm hsx hsn lu hP1 p1 bx1 rr1 hxl bal blw nl1 hP2 nm2 bx2 oo2
      go_wp2_with fail
      go_roundw
      case rel => exact ⟨i + 1, _, al, nl', cl', by go_num, rfl, HF.out.1, HF.out.2.1, HF.out.2.2.1, HF.out.2.2.2⟩
      case measure => have := HF.out.1; simp [intOf]; omega
    · obtain ⟨ile, bx, oo, nm⟩ := HI.out
      have hil : R.n.length = i := by have := HR.out; omega
      have ho := nm.own
      rw [← hil, List.take_length] at ho
      obtain ⟨g1, y1⟩ := bx.set 1 (.slice xl nl cl)
      have n1' := nm.box bx (v := .slice xl nl cl) 1
      have o1' := oo.box bx (u := .slice xl nl cl) (by decide) 1
      have ho1 := ho.box bx (u := .slice xl nl cl) (by decide) 1
      obtain ⟨B2, hB2⟩ : ∃ B, wr.setCell ⟨W.heap.size, 1, none⟩ (.slice xl nl cl) = B := ⟨_, rfl⟩
      rw [hB2] at y1 n1' o1' ho1
      have lS := HR.out.1.s
      have lA := HR.out.1.a
      have lE := HR.out.1.e
      have hsm := HR.out.2.2.2.2.1
      unfold Sm at hsm
      obtain ⟨v2, w2, hr2, hP2⟩ := run_apS B2 W.heap.size (.slice none 0 0) (.slice xs lss cs) [] _ (ol_nil _ _ _ _) (lS.below y1.bel) (by unfold MX; simp; omega) y1.bel.size
      have p2 := cp_of hP2
      have x2 := y1.below p2.bel
      obtain ⟨g2, y2⟩ := x2.set 2 v2
      have k2 : w2.cell? ⟨W.heap.size, 2, none⟩ = some (.slice xs lss cs) := c1 x2.r0 (by rw [HC.out]; rfl)
      have j2 : B2.cell? ⟨W.heap.size, 2, none⟩ = some (.slice xs lss cs) := c1 y1.r0 (by rw [HC.out]; rfl)
      have o2 := (o1'.below p2.bel).box x2 (u := v2) (by decide) 2
      have m2 := (n1'.below p2.bel).box x2 (v := v2) 2
      have h2 := (ho1.below p2.bel).box x2 (u := v2) (by decide) 2
      have q2 := p2.own.box x2 (u := v2) (by decide) 2
      obtain ⟨B3, hB3⟩ : ∃ B, w2.setCell ⟨W.heap.size, 2, none⟩ v2 = B := ⟨_, rfl⟩
      rw [hB3] at y2 o2 m2 h2 q2
      obtain ⟨v3, w3, hr3, hP3⟩ := run_apS B3 W.heap.size (.slice none 0 0) (.slice xa la ca) [] _ (ol_nil _ _ _ _) (lA.below y2.bel) (by unfold MX; simp; omega) y2.bel.size
      have p3 := cp_of hP3
      have hsep : Sepa v2 v3 us := fun g hg => by
        obtain rfl : B3.heap.size = g := by
          rcases hP3.2.2 with z | z
          · rw [hg] at z; cases z
          · rw [hg] at z; injection z with z; exact z.symm
        refine ⟨fun z => by have := (q2.tag z).2.1; omega, fun k u hu z => ?_⟩
        have hk : k < i := by have := (List.getElem?_eq_some_iff.1 hu).1; have := nm.ul; omega
        have := ((m2.each k _ u hk (List.getElem?_eq_getElem (by omega)) hu).tag z).2.1
        omega
      have x3 := y2.below p3.bel
      obtain ⟨g3, y3⟩ := x3.set 5 v3
      have k3 : w3.cell? ⟨W.heap.size, 5, none⟩ = some (.slice xa la ca) := c1 x3.r0 (by rw [HC.out]; rfl)
      have j3 : B3.cell? ⟨W.heap.size, 5, none⟩ = some (.slice xa la ca) := c1 y2.r0 (by rw [HC.out]; rfl)
      have o3 := (o2.below p3.bel).box x3 (u := v3) (by decide) 5
      have m3 := (m2.below p3.bel).box x3 (v := v3) 5
      have h3 := (h2.below p3.bel).box x3 (u := v3) (by decide) 5
      have q3 := (q2.below p3.bel).box x3 (u := v3) (by decide) 5
      have r3 := p3.own.box x3 (u := v3) (by decide) 5
      obtain ⟨B4, hB4⟩ : ∃ B, w3.setCell ⟨W.heap.size, 5, none⟩ v3 = B := ⟨_, rfl⟩
      rw [hB4] at y3 o3 m3 h3 q3 r3
      obtain ⟨v4, w4, hr4, hP4⟩ := run_apP B4 W.heap.size (.slice none 0 0) (.slice xe le ce) [] _ (ol_nil _ _ _ _) (lE.below y3.bel) (by unfold MX; simp; omega) y3.bel.size
      have p4 := cp_of hP4
      have x4 := y3.below p4.bel
      obtain ⟨g4, y4⟩ := x4.set 6 v4
      have k4 : w4.cell? ⟨W.heap.size, 6, none⟩ = some (.slice xe le ce) := c1 x4.r0 (by rw [HC.out]; rfl)
      have j4 : B4.cell? ⟨W.heap.size, 6, none⟩ = some (.slice xe le ce) := c1 y3.r0 (by rw [HC.out]; rfl)
      have o4 := (o3.below p4.bel).box x4 (u := v4) (by decide) 6
      have m4 := (m3.below p4.bel).box x4 (v := v4) 6
      have h4 := (h3.below p4.bel).box x4 (u := v4) (by decide) 6
      have q4 := (q3.below p4.bel).box x4 (u := v4) (by decide) 6
      have r4 := (r3.below p4.bel).box x4 (u := v4) (by decide) 6
      have t4 := p4.own.box x4 (u := v4) (by decide) 6
      obtain ⟨B5, hB5⟩ : ∃ B, w4.setCell ⟨W.heap.size, 6, none⟩ v4 = B := ⟨_, rfl⟩
      rw [hB5] at y4 o4 m4 h4 q4 r4 t4
      obtain ⟨a2, n2, d2, e2⟩ := p2.sl
      obtain ⟨a3, n3, d3, e3⟩ := p3.sl
      obtain ⟨a4, n4, d4, e4⟩ := p4.sl
      subst e2 e3 e4
      have eC : (((C1.setIfInBounds 1 (.slice xl nl cl)).setIfInBounds 2 (.slice a2 n2 d2)).setIfInBounds 5 (.slice a3 n3 d3)).setIfInBounds 6 (.slice a4 n4 d4) = rV (.slice a1 n1 d1) (.slice xl nl cl) (.slice a2 n2 d2) sys bld (.slice a3 n3 d3) (.slice a4 n4 d4) := by rw [HC.out]; rfl
      rw [eC] at y4
      have ldR' := ld_R B5 W.heap.size _ rfl y4.r0
      have stR' := st_R B5 (W.heap.size + 1) _ (rV (.slice a1 n1 d1) (.slice xl nl cl) (.slice a2 n2 d2) sys bld (.slice a3 n3 d3) (.slice a4 n4 d4)) rfl rfl (by simp [rV, Value.oneCell']) y4.r1
      have kk1 : wr.cell? ⟨W.heap.size, 1, none⟩ = some (.slice xn ln cn) := k1
      obtain ⟨B6, hB6⟩ : ∃ B, B5.setRow (W.heap.size + 1) (rV (.slice a1 n1 d1) (.slice xl nl cl) (.slice a2 n2 d2) sys bld (.slice a3 n3 d3) (.slice a4 n4 d4)) = B := ⟨_, rfl⟩
      have rB6 : B6.heap[W.heap.size + 1]? = some (.cells (rV (.slice a1 n1 d1) (.slice xl nl cl) (.slice a2 n2 d2) sys bld (.slice a3 n3 d3) (.slice a4 n4 d4)) 27 (0, 0)) := by rw [← hB6]; exact setRow_heap _ _ _ _ _ _ y4.r1
      have HSP : Hid (Sepa (.slice a2 n2 d2) (.slice a3 n3 d3) us) := hsep
      have HF : Hid (Tw W.heap.size B6 (.slice a1 n1 d1) (.slice xl nl cl) (.slice a2 n2 d2) (.slice a3 n3 d3) (.slice a4 n4 d4) us R ∧ Below W.heap.size W B6) := by
        rw [← hB6]
        refine ⟨⟨o4.row y4.r1 (by decide), h4.row y4.r1 (by decide), q4.row y4.r1 (by decide), r4.row y4.r1 (by decide), t4.row y4.r1 (by decide), by rw [nm.ul, hil], fun j x u z1 z2 => ?_⟩, below_setRow y4.bel (by omega) _⟩
        exact (m4.each j x u (by have := (List.getElem?_eq_some_iff.1 z1).1; omega) z1 z2).row y4.r1 (by decide)
      have HR6 : Hid (B6.heap[W.heap.size + 1]? = some (.cells (rV (.slice a1 n1 d1) (.slice xl nl cl) (.slice a2 n2 d2) sys bld (.slice a3 n3 d3) (.slice a4 n4 d4)) 27 (0, 0))) := rB6
      unfold rV at ldR' stR' hB6
      have hi2 : ¬ ((i : Int) < (ln : Int)) := by omega
      clear hsep hi ile bx oo nm hil ho y1 n1' o1' ho1 lS lA lE hsm hP2 p2 x2 y2 o2 m2 h2 q2 hP3 p3 x3 y3 o3 m3 h3 q3 r3 hP4 p4 x4 y4 o4 m4 h4 q4 r4 t4 eC kk1 rB6
      go_wp2_with fail
      refine bodyPost_ret (results_R rfl _ _ (W.heap.size + 1) _ rfl rfl HR6.out) rfl ?_
      exact ⟨_, _, _, _, _, rfl, us, HF.out.1, HF.out.2, HSP.out⟩
end
end Go.Proofs.Ytcggaiplepekdaa
