/- Recipes: room, the walk. -/
import Derived.Test.YtcggaiplepekdaaRcX
namespace Go.Proofs.Ytcggaiplepekdaa
open Go.RowKit
theorem below_al (w : World) (o : Obj) : Below w.heap.size w (w.alloc o) := (Below.refl _ w).alloc (Nat.le_refl _) o
theorem ApP.form {base e sz : Nat} {w w' : World} {v v' : Value} {l : List (Array Value)} (h : ApP base e sz w v l v' w') : ∃ a n c, v' = .slice a n c := by
  obtain ⟨a, c, q, -⟩ := h.1.form
  exact ⟨a, _, c, q⟩
section
attribute [local go_sem ↓] toApO toApI toApS toApP toApL toLdM toStM toSlS
set_option maxRecDepth 100000 in
set_option maxHeartbeats 3200000 in
theorem room_any (W : World) (o n s a e : Value) (R : Rcp) (hs : Sm R) (h : Rc W o n s a e R) : Calls Try.prog 5 #[.agg (rV o n s R.sys R.bld a e)] W fun en w' => ∃ o' n' s' a' e' l' us ls, en = .returned (.agg (rmV o' n' s' a' e' l')) ∧ Rl W.heap.size w' o' n' s' a' e' l' us ls R ∧ Below W.heap.size W w' := by
  have lim := hs
  unfold Sm at lim
  obtain ⟨B0, hB0⟩ : ∃ B0, ((W.alloc (.cells (rV o n s R.sys R.bld a e) 27)).alloc (.cells zM 30)).alloc (.cells zM 30) = B0 := ⟨_, rfl⟩
  have m0 : Mk W (rV o n s R.sys R.bld a e) zM B0 := hB0 ▸ mk_new W _
  obtain ⟨v1, w1, hr1, hP1⟩ := run_apO B0 W.heap.size (.slice none 0 0) o [] _ (ol_nil _ _ _ _) (h.o.below m0.bel) (by unfold MX; simp; omega) m0.bel.size
  have p1 := cp_of hP1
  have m1 := m0.below p1.bel
  obtain ⟨f1, m2⟩ := m1.set 0 v1
  have c1' := m1.cel (k := 0) (v := .slice none 0 0) rfl
  have o1 := p1.own.mbox m1 (u := v1) (by decide) 0
  obtain ⟨B1, hB1⟩ : ∃ B, w1.setCell ⟨W.heap.size + 2, 0, none⟩ v1 = B := ⟨_, rfl⟩
  rw [hB1] at m2 o1
  have c2' : B1.cell? ⟨W.heap.size + 2, 0, none⟩ = some v1 := m2.cel (k := 0) rfl
  have ba := below_al B1 (.cells (oR ONE) 39)
  obtain ⟨v2, w2, hr2, hP2⟩ := run_apO (B1.alloc (.cells (oR ONE) 39)) W.heap.size v1 (.slice (some ⟨B1.heap.size, 0, none⟩) 1 1) _ [oR ONE] (o1.below ba) (ls_one B1 (oR ONE) 39 4 rfl (by simp [oR, Value.oneCell'])) (by unfold MX; simp; omega) (by have := m2.bel.size; have := ba.size; omega)
  have m3 := (m2.below ba).grown (o1.below ba) hP2.2.1 (by decide) (by decide) (Nat.le_refl _)
  obtain ⟨f2, m4⟩ := m3.set 0 v2
  have c3' : w2.cell? ⟨W.heap.size + 2, 0, none⟩ = some v1 := m3.cel (k := 0) rfl
  have o2 := hP2.1.mbox m3 (u := v2) (by decide) 0
  obtain ⟨B2, hB2⟩ : ∃ B, w2.setCell ⟨W.heap.size + 2, 0, none⟩ v2 = B := ⟨_, rfl⟩
  rw [hB2] at m4 o2
  obtain ⟨a1, n1, d1, e1⟩ := p1.sl
  obtain ⟨a2, n2, d2, e2⟩ := hP2.form
  subst e1 e2
  obtain ⟨xo, co, fo⟩ := h.o.form
  obtain ⟨us0, hu1, hu2, hu3⟩ := h.n
  obtain ⟨xn, cn, fn⟩ := hu2.form
  obtain ⟨xs, cs, fs⟩ := h.s.form
  obtain ⟨xa, ca, fa⟩ := h.a.form
  obtain ⟨xe, ce, fe⟩ := h.e.form
  have zl : (List.zipWith nR R.n us0).length = R.n.length := by rw [List.length_zipWith, hu1, Nat.min_self]
  obtain ⟨lo, hlo⟩ : ∃ k, R.o.length = k := ⟨_, rfl⟩
  obtain ⟨ln, hln⟩ : ∃ k, R.n.length = k := ⟨_, rfl⟩
  obtain ⟨lss, hls⟩ : ∃ k, R.s.length = k := ⟨_, rfl⟩
  obtain ⟨la, hla⟩ : ∃ k, R.a.length = k := ⟨_, rfl⟩
  obtain ⟨le, hle⟩ : ∃ k, R.e.length = k := ⟨_, rfl⟩
  rw [List.length_map, hlo] at fo
  rw [zl, hln] at fn
  rw [List.length_map, hls] at fs
  rw [List.length_map, hla] at fa
  rw [List.length_map, hle] at fe
  subst fo fn fs fa fe
  obtain ⟨sys, hsys⟩ : ∃ x, R.sys = x := ⟨_, rfl⟩
  obtain ⟨bld, hbld⟩ : ∃ x, R.bld = x := ⟨_, rfl⟩
  rw [hsys, hbld] at hB0 m4 ⊢
  obtain ⟨C1, hC1⟩ : ∃ C : Array Value, C = rV (.slice xo lo co) (.slice xn ln cn) (.slice xs lss cs) sys bld (.slice xa la ca) (.slice xe le ce) := ⟨_, rfl⟩
  have HC : Hid (C1 = rV (.slice xo lo co) (.slice xn ln cn) (.slice xs lss cs) sys bld (.slice xa la ca) (.slice xe le ce)) := hC1
  have HS : Hid (Mk W C1 #[.slice a2 n2 d2, .slice none 0 0, .slice none 0 0, .slice none 0 0, .slice none 0 0, .slice none 0 0] B2 ∧ Ol W.heap.size 39 4 B2 (.slice a2 n2 d2) ((R.o ++ [ONE]).map oR)) := ⟨hC1 ▸ m4, by rw [List.map_append]; exact o2⟩
  have HR : Hid (Rc W (.slice xo lo co) (.slice xn ln cn) (.slice xs lss cs) (.slice xa la ca) (.slice xe le ce) R ∧ us0.length = R.n.length ∧ Ls W (.slice xn ln cn) 2 (List.zipWith nR R.n us0) ∧ (∀ (i : Nat) x u, R.n[i]? = some x → us0[i]? = some u → Ls W u 1 (x.2.map sR)) ∧ Sm R ∧ R.n.length = ln) := ⟨h, hu1, hu2, hu3, hs, hln⟩
  rw [← hB0] at hr1
  unfold rV zM at hr1
  unfold oR ONE BEH at hr2
  unfold rV
  clear h hs lim m0 hP1 p1 m1 m2 o1 ba hP2 m3 m4 o2 hu1 hu2 hu3 zl hlo hls hla hle hsys hbld hC1 hB0 hln
  go_enter Try.func5, Try.ntmps5
  go_wp2_with fail
  clear hr1 hr2 c1' c2' c3' f1 f2 hB1 hB2
  go_loopw [4, 5] (fun iv _ wr => ∃ (i : Nat) (us ls : List Value) (xl : Option Addr) (nl cl : Nat) (yl : Option Addr) (ml dl : Nat), iv = .int .i64 (i : Int) ∧ Hid (i ≤ ln ∧ Mk W C1 #[.slice a2 n2 d2, .slice xl nl cl, .slice none 0 0, .slice none 0 0, .slice none 0 0, .slice yl ml dl] wr ∧ Ol W.heap.size 39 4 wr (.slice a2 n2 d2) ((R.o ++ [ONE]).map oR) ∧ Mn W R (.slice xl nl cl) (.slice yl ml dl) us ls i wr)) (fun iv _ _ => ln + 1 - (intOf iv).toNat)
  case atStart => exact ⟨0, [], [], none, 0, 0, none, 0, 0, rfl, Nat.zero_le _, HS.out.1, HS.out.2, ol_nil _ _ _ _, ol_nil _ _ _ _, rfl, rfl, fun j x u v _ q => by simp at q⟩
  case round =>
    obtain ⟨i, us, ls, xl, nl, cl, yl, ml, dl, rfl, HI⟩ := hrel
    have k1 : wr.cell? ⟨W.heap.size, 1, none⟩ = some (.slice xn ln cn) := HI.out.2.1.rcel (by rw [HC.out]; rfl)
    by_cases hi : i < ln
    · obtain ⟨ile, mk, oo, mn⟩ := HI.out
      have hin : i < R.n.length := by have := HR.out.2.2.2.2.2; omega
      obtain ⟨x, hx⟩ : ∃ x, R.n[i]? = some x := ⟨_, List.getElem?_eq_getElem hin⟩
      obtain ⟨u, hu⟩ : ∃ u, us0[i]? = some u := ⟨_, List.getElem?_eq_getElem (by have := HR.out.2.1; omega)⟩
      have hz : (List.zipWith nR R.n us0)[i]? = some (nR x u) := by rw [List.getElem?_zipWith, hx, hu]
      obtain ⟨g, q, rfl, hg, r1⟩ := HR.out.2.2.1.at i _ hz
      have HRW : Hid (∀ Y, Below W.heap.size W Y → Y.cell? ⟨g, q + i * 2, none⟩ = some (.string x.1) ∧ Y.cell? ⟨g, q + i * 2 + 1, none⟩ = some u) := fun Y hY => ⟨range_block r1 (hY.block _ hg) 0 _ rfl, range_block r1 (hY.block _ hg) 1 _ rfl⟩
      have s2 := (HRW.out wr mk.bel).2
      have hsm := HR.out.2.2.2.2.1
      have hsx := hsm.2.2.2.2.2 x (List.mem_of_getElem? hx)
      have hsn : R.n.length ≤ 10000000 := hsm.2.1
      have lu := (HR.out.2.2.2.1 i x u hx hu).below mk.bel
      have SP : Hid _ := spare_any wr u x.2 lu (by omega)
      obtain ⟨ou, cu, hu0⟩ := lu.form
      obtain ⟨xl0, hxl⟩ : ∃ k, (x.2.map sR).length = k := ⟨_, rfl⟩
      rw [hxl] at hu0
      subst hu0
      have HX : Hid (i < ln ∧ R.n[i]? = some x ∧ x.2.length ≤ 10000000 ∧ R.n.length ≤ 10000000 ∧ i ≤ R.n.length) := ⟨hi, hx, hsx, hsn, by omega⟩
      have hi0 : (0 : Int) ≤ (i : Int) := by omega
      have hi1 : (i : Int) < (ln : Int) := by omega
      have w1' : IntKind.i64.wrap ((i : Int) + 1) = (i : Int) + 1 := by rw [IntKind.wrap_i64]; omega
      clear hi ile mk oo mn hin hx hu hz hg r1 hsm hsx hsn lu hxl
      go_wp2_with fail
      refine Calls.mono SP.out ?_
      rintro en P0 ⟨v', rfl, ov, bv⟩
      obtain ⟨ile, mk, oo, mn⟩ := HI.out
      obtain ⟨va, vc, hv, hvc⟩ := ov.form
      rw [List.length_map, List.length_append, List.length_singleton] at hv hvc
      have mk0 := mk.below bv
      have oo0 := oo.below bv
      have mn0 := mn.keep (fun e sz u l' _ z => z.below bv)
      have ov0 : Ol W.heap.size 9 1 P0 v' ((x.2 ++ [BEH]).map sR) := ov.mono mk.bel.size
      subst hv
      have t5 : P0.cell? ⟨W.heap.size + 2, 5, none⟩ = some (.slice yl ml dl) := mk0.cel (k := 5) rfl
      have ba0 := below_al P0 (.cells #[.slice va (x.2.length + 1) vc] 24)
      obtain ⟨lv', P1, hr1, hP1⟩ := run_apL (P0.alloc (.cells #[.slice va (x.2.length + 1) vc] 24)) W.heap.size (.slice yl ml dl) (.slice (some ⟨P0.heap.size, 0, none⟩) 1 1) _ [#[.slice va (x.2.length + 1) vc]] (mn0.fl.below ba0) (ls_one P0 #[.slice va (x.2.length + 1) vc] 24 1 rfl (by simp [Value.oneCell'])) (by unfold MX; simp only [List.length_map, List.length_singleton]; have := mn.ll; have := HX.out; omega) (by have := mk0.bel.size; have := ba0.size; omega)
      have kp1 : ∀ (e sz : Nat) u l', e ≠ 24 → Ol W.heap.size e sz P0 u l' → Ol W.heap.size e sz P1 u l' := fun e sz u l' z z2 => (z2.below ba0).grown (mn0.fl.below ba0) hP1.2.1 z
      have mk1 := (mk0.below ba0).grown (mn0.fl.below ba0) hP1.2.1 (by decide) (by decide) (Nat.le_refl _)
      obtain ⟨f5, mk2⟩ := mk1.set 5 lv'
      have t5' : P1.cell? ⟨W.heap.size + 2, 5, none⟩ = some (.slice yl ml dl) := mk1.cel (k := 5) rfl
      have kp2 : ∀ (e sz : Nat) u l', e ≠ 30 → Ol W.heap.size e sz P1 u l' → Ol W.heap.size e sz (P1.setCell ⟨W.heap.size + 2, 5, none⟩ lv') u l' := fun e sz u l' z z2 => z2.mbox mk1 z 5
      obtain ⟨P2, hP2⟩ : ∃ P, P1.setCell ⟨W.heap.size + 2, 5, none⟩ lv' = P := ⟨_, rfl⟩
      rw [hP2] at mk2 kp2
      have fl2 := kp2 _ _ _ _ (by decide) hP1.1
      have fn2 := kp2 _ _ _ _ (by decide) (kp1 _ _ _ _ (by decide) mn0.fn)
      obtain ⟨la', lm', lc', e3⟩ := hP1.form
      subst e3
      obtain ⟨E, hE⟩ : ∃ E, P2.drew = E := ⟨_, rfl⟩
      have bE : Below P2.heap.size P2 E := by rw [← hE]; exact below_drw P2
      have mkE := mk2.below bE
      have baE := below_al E (.cells (nR x (.slice va x.2.length vc)) 42)
      have fnE := (fn2.below bE).below baE
      obtain ⟨nv', G, hr2, hPn⟩ := run_apI (E.alloc (.cells (nR x (.slice va x.2.length vc)) 42)) W.heap.size (.slice xl nl cl) (.slice (some ⟨E.heap.size, 0, none⟩) 1 1) _ [nR x (.slice va x.2.length vc)] fnE (ls_one E (nR x (.slice va x.2.length vc)) 42 2 rfl (by simp [nR, Value.oneCell'])) (by
        have : (List.zipWith nR (R.n.take i) us).length ≤ 10000000 := by rw [List.length_zipWith]; have := List.length_take_le i R.n; have := HX.out; omega
        unfold MX; simp only [List.length_singleton]; omega) (by have := mkE.bel.size; have := baE.size; omega)
      have kp3 : ∀ (e sz : Nat) u l', e ≠ 42 → Ol W.heap.size e sz P2 u l' → Ol W.heap.size e sz G u l' := fun e sz u l' z z2 => ((z2.below bE).below baE).grown fnE hPn.2.1 z
      have mkG := (mkE.below baE).grown fnE hPn.2.1 (by decide) (by decide) (Nat.le_refl _)
      obtain ⟨f1, mkH⟩ := mkG.set 1 nv'
      have t1 : E.cell? ⟨W.heap.size + 2, 1, none⟩ = some (.slice xl nl cl) := mkE.cel (k := 1) rfl
      have t2 := (mkE.below baE).cel (k := 1) (v := .slice xl nl cl) rfl
      have t3 : G.cell? ⟨W.heap.size + 2, 1, none⟩ = some (.slice xl nl cl) := mkG.cel (k := 1) rfl
      have t4 : E.cell? ⟨W.heap.size, 1, none⟩ = some (.slice (some ⟨g, q, none⟩) ln cn) := mkE.rcel (by rw [HC.out]; rfl)
      have t6 := (HRW.out E mkE.bel).1
      have kp4 : ∀ (e sz : Nat) u l', e ≠ 30 → Ol W.heap.size e sz G u l' → Ol W.heap.size e sz (G.setCell ⟨W.heap.size + 2, 1, none⟩ nv') u l' := fun e sz u l' z z2 => z2.mbox mkG z 1
      obtain ⟨H, hH⟩ : ∃ P, G.setCell ⟨W.heap.size + 2, 1, none⟩ nv' = P := ⟨_, rfl⟩
      rw [hH] at mkH kp4
      obtain ⟨na', nm', nc', e4⟩ := hPn.form
      subst e4
      have all : ∀ (e sz : Nat) u l', e ≠ 30 → e ≠ 24 → e ≠ 42 → Ol W.heap.size e sz P0 u l' → Ol W.heap.size e sz H u l' := fun e sz u l' z1 z2 z3 z => kp4 _ _ _ _ z1 (kp3 _ _ _ _ z3 (kp2 _ _ _ _ z1 (kp1 _ _ _ _ z2 z)))
      have HF : Hid (Mk W C1 #[.slice a2 n2 d2, .slice na' nm' nc', .slice none 0 0, .slice none 0 0, .slice none 0 0, .slice la' lm' lc'] H ∧ Ol W.heap.size 39 4 H (.slice a2 n2 d2) ((R.o ++ [ONE]).map oR) ∧ Mn W R (.slice na' nm' nc') (.slice la' lm' lc') (us ++ [.slice va x.2.length vc]) (ls ++ [.slice va (x.2.length + 1) vc]) (i + 1) H) :=
        ⟨mkH, all _ _ _ _ (by decide) (by decide) (by decide) oo0, mn.step HX.out.2.1 rfl (by omega) (fun e sz u l' z1 z2 z3 z => all _ _ _ _ z1 z2 z3 (z.below bv)) (all _ _ _ _ (by decide) (by decide) (by decide) ov0) (kp4 _ _ _ _ (by decide) hPn.1) (kp4 _ _ _ _ (by decide) (kp3 _ _ _ _ (by decide) fl2))⟩
      have hsx := HX.out.2.2.1
      obtain ⟨m, hm⟩ : ∃ m, x.2.length = m := ⟨_, rfl⟩
      obtain ⟨m1, hm1⟩ : ∃ k, m + 1 = k := ⟨_, rfl⟩
      rw [hm] at HF hr1 hr2 hsx t2 hvc ⊢
      rw [hm1] at HF hr1 hvc ⊢
      have wm : IntKind.i64.wrap ((m1 : Int) - 1) = (m : Int) := by rw [IntKind.wrap_i64]; omega
      have sl := fun w => run_slS w va m1 vc m (by omega)
      have HHX : Hid (i < ln) := HX.out.1
      obtain ⟨x1, x2⟩ := x
      unfold nR at hr2 t2
      clear ile mk oo mn ov bv hvc mk0 oo0 mn0 ov0 ba0 hP1 kp1 mk1 mk2 kp2 fl2 fn2 bE mkE baE fnE hPn kp3 mkG mkH kp4 all hm hm1 hsx SP s2 k1 HX
      rw [← hE] at t1 t2 t4 t6 hr2
      clear hE
      have u1 : P2.drew.cell? ⟨W.heap.size + 1 + 1, 1, none⟩ = some (.slice xl nl cl) := t1
      have u2 : (P2.alloc (.cells #[.string x1, .slice va m vc] 42)).drew.cell? ⟨W.heap.size + 1 + 1, 1, none⟩ = some (.slice xl nl cl) := t2
      have u3 : G.cell? ⟨W.heap.size + 1 + 1, 1, none⟩ = some (.slice xl nl cl) := t3
      have u4 : G.frozen? ⟨W.heap.size + 1 + 1, 1, none⟩ = false := f1
      have u5 : G.setCell ⟨W.heap.size + 1 + 1, 1, none⟩ (.slice na' nm' nc') = H := hH
      have u6 : (apI 23 #[.slice xl nl cl, .slice (some ⟨P2.heap.size, 0, none⟩) 1 1]).run Try.prog (P2.alloc (.cells #[.string x1, .slice va m vc] 42)).drew = .ok (.slice na' nm' nc') G := hr2
      clear t1 t2 t3 f1 hH hr2
      go_wp2_with fail
      go_region
      go_wp2_with fail
      go_roundw
      case rel => exact ⟨i + 1, _, _, _, _, _, _, _, _, by go_num, HHX.out, HF.out.1, HF.out.2.1, HF.out.2.2⟩
      case measure => have := HHX.out; simp [intOf]; omega
    · obtain ⟨ile, mk, oo, mn⟩ := HI.out
      have hil : R.n.length = i := by have := HR.out.2.2.2.2.2; omega
      have hsm := HR.out.2.2.2.2.1
      unfold Sm at hsm
      have zl : (List.zipWith nR (R.n.take i) us).length ≤ 10000000 := by rw [List.length_zipWith]; have := List.length_take_le i R.n; omega
      have ba := below_al wr (.cells (nR (BEH, []) (.slice none 0 0)) 42)
      obtain ⟨nv, w1, hr1, hP1⟩ := run_apI (wr.alloc (.cells (nR (BEH, []) (.slice none 0 0)) 42)) W.heap.size (.slice xl nl cl) (.slice (some ⟨wr.heap.size, 0, none⟩) 1 1) _ [nR (BEH, []) (.slice none 0 0)] (mn.fn.below ba) (ls_one wr (nR (BEH, []) (.slice none 0 0)) 42 2 rfl (by simp [nR, Value.oneCell'])) (by unfold MX; simp only [List.length_singleton]; omega) (by have := mk.bel.size; have := ba.size; omega)
      have mk1 := (mk.below ba).grown (mn.fn.below ba) hP1.2.1 (by decide) (by decide) (Nat.le_refl _)
      have kp1 : ∀ (e sz : Nat) u l', e ≠ 42 → Ol W.heap.size e sz wr u l' → Ol W.heap.size e sz w1 u l' := fun e sz u l' z z2 => (z2.below ba).grown (mn.fn.below ba) hP1.2.1 z
      obtain ⟨f1, mkD⟩ := mk1.set 1 nv
      have t0 : wr.cell? ⟨W.heap.size + 2, 1, none⟩ = some (.slice xl nl cl) := mk.cel (k := 1) rfl
      have t1 : w1.cell? ⟨W.heap.size + 2, 1, none⟩ = some (.slice xl nl cl) := mk1.cel (k := 1) rfl
      have kp2 : ∀ (e sz : Nat) u l', e ≠ 30 → Ol W.heap.size e sz w1 u l' → Ol W.heap.size e sz (w1.setCell ⟨W.heap.size + 2, 1, none⟩ nv) u l' := fun e sz u l' z z2 => z2.mbox mk1 z 1
      obtain ⟨D1, hD1⟩ : ∃ P, w1.setCell ⟨W.heap.size + 2, 1, none⟩ nv = P := ⟨_, rfl⟩
      rw [hD1] at mkD kp2
      obtain ⟨na, nm, nc, e4⟩ := hP1.form
      have fnD := kp2 _ _ _ _ (by decide) hP1.1
      subst e4
      have all1 : ∀ (e sz : Nat) u l', e ≠ 30 → e ≠ 42 → Ol W.heap.size e sz wr u l' → Ol W.heap.size e sz D1 u l' := fun e sz u l' z1 z2 z => kp2 _ _ _ _ z1 (kp1 _ _ _ _ z2 z)
      have t2 : D1.cell? ⟨W.heap.size, 2, none⟩ = some (.slice xs lss cs) := mkD.rcel (by rw [HC.out]; rfl)
      have SP : Hid _ := spare_any D1 (.slice xs lss cs) R.s (HR.out.1.s.below mkD.bel) (by omega)
      have eN : List.zipWith nR (R.n.take i) us = List.zipWith nR R.n us := by rw [List.take_of_length_le (by omega)]
      rw [eN] at fnD
      have HD : Hid (Mk W C1 #[.slice a2 n2 d2, .slice na nm nc, .slice none 0 0, .slice none 0 0, .slice none 0 0, .slice yl ml dl] D1 ∧ Ol W.heap.size 39 4 D1 (.slice a2 n2 d2) ((R.o ++ [ONE]).map oR) ∧ Ol W.heap.size 42 2 D1 (.slice na nm nc) (List.zipWith nR R.n us ++ [nR (BEH, []) (.slice none 0 0)]) ∧ Ol W.heap.size 24 1 D1 (.slice yl ml dl) (ls.map fun v => #[v]) ∧ us.length = R.n.length ∧ ls.length = R.n.length ∧ (∀ (j : Nat) x u v, R.n[j]? = some x → us[j]? = some u → ls[j]? = some v → (∃ oa c, v = .slice oa (x.2.length + 1) c ∧ u = .slice oa x.2.length c ∧ x.2.length ≤ c) ∧ Ol W.heap.size 9 1 D1 v ((x.2 ++ [BEH]).map sR))) :=
        ⟨mkD, all1 _ _ _ _ (by decide) (by decide) oo, fnD, all1 _ _ _ _ (by decide) (by decide) mn.fl, by rw [mn.ul, hil], by rw [mn.ll, hil], fun j x u v q1 q2 q3 => ⟨(mn.each j x u v q1 q2 q3).1, all1 _ _ _ _ (by decide) (by decide) (mn.each j x u v q1 q2 q3).2⟩⟩
      have hi2 : ¬ ((i : Int) < (ln : Int)) := by omega
      unfold nR BEH at hr1
      clear hi ile mk oo mn hil hsm zl ba hP1 mk1 kp1 mkD kp2 fnD all1 eN
      go_wp2_with fail
      refine Calls.mono SP.out ?_
      rintro en w2 ⟨sv, rfl, os, bs⟩
      clear SP hr1 t0 t1 f1 hD1 t2
      obtain ⟨mkD, oo, fn, fl, ul, ll, ea⟩ := HD.out
      have mk2 := mkD.below bs
      obtain ⟨f2, mkE⟩ := mk2.set 2 sv
      have t2 : w2.cell? ⟨W.heap.size + 2, 2, none⟩ = some (.slice none 0 0) := mk2.cel (k := 2) rfl
      have kp2 : ∀ (e sz : Nat) u l', e ≠ 30 → Ol W.heap.size e sz w2 u l' → Ol W.heap.size e sz (w2.setCell ⟨W.heap.size + 2, 2, none⟩ sv) u l' := fun e sz u l' z z2 => z2.mbox mk2 z 2
      obtain ⟨D2, hD2⟩ : ∃ P, w2.setCell ⟨W.heap.size + 2, 2, none⟩ sv = P := ⟨_, rfl⟩
      rw [hD2] at mkE kp2
      obtain ⟨sa, sc, e5, -⟩ := os.form
      rw [List.length_map] at e5
      have hsB : ∀ g, sv.ownBlock = some g → D1.heap.size ≤ g ∧ g < D2.heap.size := fun g hg => by
        obtain ⟨z1, z2, -⟩ := os.tag hg
        exact ⟨z1, by rw [← hD2]; simpa using z2⟩
      have zD2 : D1.heap.size ≤ D2.heap.size := by rw [← hD2]; simpa using bs.size
      have sD := kp2 _ _ _ _ (by decide) (os.mono mkD.bel.size)
      have ooD := kp2 _ _ _ _ (by decide) (oo.below bs)
      have fnD := kp2 _ _ _ _ (by decide) (fn.below bs)
      have flD := kp2 _ _ _ _ (by decide) (fl.below bs)
      have eaD := fun (j : Nat) x u v q1 q2 q3 => kp2 _ _ _ _ (by decide) ((ea j x u v q1 q2 q3).2.below bs)
      obtain ⟨sn, hsn⟩ : ∃ k, (R.s ++ [BEH]).length = k := ⟨_, rfl⟩
      rw [hsn] at e5
      subst e5
      have t5 : D2.cell? ⟨W.heap.size, 5, none⟩ = some (.slice xa la ca) := mkE.rcel (by rw [HC.out]; rfl)
      have SP : Hid _ := spare_any D2 (.slice xa la ca) R.a (HR.out.1.a.below mkE.bel) (by have := HR.out.2.2.2.2.1; unfold Sm at this; omega)
      have HE : Hid (Mk W C1 #[.slice a2 n2 d2, .slice na nm nc, .slice sa sn sc, .slice none 0 0, .slice none 0 0, .slice yl ml dl] D2 ∧ Ol W.heap.size 39 4 D2 (.slice a2 n2 d2) ((R.o ++ [ONE]).map oR) ∧ Ol W.heap.size 42 2 D2 (.slice na nm nc) (List.zipWith nR R.n us ++ [nR (BEH, []) (.slice none 0 0)]) ∧ Ol W.heap.size 24 1 D2 (.slice yl ml dl) (ls.map fun v => #[v]) ∧ Ol W.heap.size 9 1 D2 (.slice sa sn sc) ((R.s ++ [BEH]).map sR) ∧ (∀ (j : Nat) x u v, R.n[j]? = some x → us[j]? = some u → ls[j]? = some v → Ol W.heap.size 9 1 D2 v ((x.2 ++ [BEH]).map sR)) ∧ (∀ g, (Value.slice sa sn sc).ownBlock = some g → D1.heap.size ≤ g ∧ g < D2.heap.size) ∧ D1.heap.size ≤ D2.heap.size) :=
        ⟨mkE, ooD, fnD, flD, sD, eaD, hsB, zD2⟩
      clear mkD oo fn fl ul ll ea mk2 mkE kp2 os bs hsB zD2 sD ooD fnD flD eaD hsn
      go_wp2_with fail
      refine Calls.mono SP.out ?_
      rintro en w3 ⟨av, rfl, oa, bv⟩
      clear SP f2 t2 hD2 t5
      obtain ⟨mkE, oo, fn, fl, sD, ea, hsB, zD2⟩ := HE.out
      have mk3 := mkE.below bv
      obtain ⟨f3, mkF⟩ := mk3.set 3 av
      have t3 : w3.cell? ⟨W.heap.size + 2, 3, none⟩ = some (.slice none 0 0) := mk3.cel (k := 3) rfl
      have kp3 : ∀ (e sz : Nat) u l', e ≠ 30 → Ol W.heap.size e sz w3 u l' → Ol W.heap.size e sz (w3.setCell ⟨W.heap.size + 2, 3, none⟩ av) u l' := fun e sz u l' z z2 => z2.mbox mk3 z 3
      obtain ⟨D3, hD3⟩ : ∃ P, w3.setCell ⟨W.heap.size + 2, 3, none⟩ av = P := ⟨_, rfl⟩
      rw [hD3] at mkF kp3
      obtain ⟨aa, ac, e6, -⟩ := oa.form
      rw [List.length_map] at e6
      have haB : ∀ g, av.ownBlock = some g → D2.heap.size ≤ g := fun g hg => (oa.tag hg).1
      have oaD := kp3 _ _ _ _ (by decide) (oa.mono mkE.bel.size)
      have k3 : ∀ (e sz : Nat) u l', e ≠ 30 → Ol W.heap.size e sz D2 u l' → Ol W.heap.size e sz D3 u l' := fun e sz u l' z z2 => kp3 _ _ _ _ z (z2.below bv)
      obtain ⟨an, han⟩ : ∃ k, (R.a ++ [BEH]).length = k := ⟨_, rfl⟩
      rw [han] at e6
      subst e6
      have t4 : D3.cell? ⟨W.heap.size + 2, 4, none⟩ = some (.slice none 0 0) := mkF.cel (k := 4) rfl
      have t6 : D3.cell? ⟨W.heap.size, 6, none⟩ = some (.slice xe le ce) := mkF.rcel (by rw [HC.out]; rfl)
      have hsm := HR.out.2.2.2.2.1
      unfold Sm at hsm
      obtain ⟨e1, w4, hr4, hP4⟩ := run_apP D3 W.heap.size (.slice none 0 0) (.slice xe le ce) [] _ (ol_nil _ _ _ _) (HR.out.1.e.below mkF.bel) (by unfold MX; simp; omega) mkF.bel.size
      have p4 := cp_of hP4
      have mk4 := mkF.below p4.bel
      obtain ⟨f4, mkG⟩ := mk4.set 4 e1
      have t7 : w4.cell? ⟨W.heap.size + 2, 4, none⟩ = some (.slice none 0 0) := mk4.cel (k := 4) rfl
      have kp4 : ∀ (e sz : Nat) u l', e ≠ 30 → Ol W.heap.size e sz w4 u l' → Ol W.heap.size e sz (w4.setCell ⟨W.heap.size + 2, 4, none⟩ e1) u l' := fun e sz u l' z z2 => z2.mbox mk4 z 4
      obtain ⟨D4, hD4⟩ : ∃ P, w4.setCell ⟨W.heap.size + 2, 4, none⟩ e1 = P := ⟨_, rfl⟩
      rw [hD4] at mkG kp4
      have k4 : ∀ (e sz : Nat) u l', e ≠ 30 → Ol W.heap.size e sz D3 u l' → Ol W.heap.size e sz D4 u l' := fun e sz u l' z z2 => kp4 _ _ _ _ z (z2.below p4.bel)
      have ee := kp4 _ _ _ _ (by decide) p4.own
      have t8 : D4.cell? ⟨W.heap.size + 2, 4, none⟩ = some e1 := mkG.cel (k := 4) rfl
      have ba := below_al D4 (.cells (eR PEE) 44)
      obtain ⟨e2, w5, hr5, hP5⟩ := run_apP (D4.alloc (.cells (eR PEE) 44)) W.heap.size e1 (.slice (some ⟨D4.heap.size, 0, none⟩) 1 1) _ [eR PEE] (ee.below ba) (ls_one D4 (eR PEE) 44 2 rfl (by simp [eR, Value.oneCell'])) (by unfold MX; simp; omega) (by have := mkG.bel.size; have := ba.size; omega)
      have mk5 := (mkG.below ba).grown (ee.below ba) hP5.2.1 (by decide) (by decide) (Nat.le_refl _)
      obtain ⟨f5, mkH⟩ := mk5.set 4 e2
      have t9 : w5.cell? ⟨W.heap.size + 2, 4, none⟩ = some e1 := mk5.cel (k := 4) rfl
      have kp5 : ∀ (e sz : Nat) u l', e ≠ 30 → Ol W.heap.size e sz w5 u l' → Ol W.heap.size e sz (w5.setCell ⟨W.heap.size + 2, 4, none⟩ e2) u l' := fun e sz u l' z z2 => z2.mbox mk5 z 4
      obtain ⟨D5, hD5⟩ : ∃ P, w5.setCell ⟨W.heap.size + 2, 4, none⟩ e2 = P := ⟨_, rfl⟩
      rw [hD5] at mkH kp5
      have k5 : ∀ (e sz : Nat) u l', e ≠ 30 → e ≠ 44 → Ol W.heap.size e sz D4 u l' → Ol W.heap.size e sz D5 u l' := fun e sz u l' z z1 z2 => kp5 _ _ _ _ z ((z2.below ba).grown (ee.below ba) hP5.2.1 z1)
      have ee5 := kp5 _ _ _ _ (by decide) hP5.1
      obtain ⟨ea1, en1, ec1, q1⟩ := p4.sl
      obtain ⟨ea2, en2, ec2, q2⟩ := hP5.form
      subst q1 q2
      have ld' := ld_M D5 (W.heap.size + 2) _ rfl mkH.r2
      have st' := st_M D5 (W.heap.size + 1) _ (rmV (.slice a2 n2 d2) (.slice na nm nc) (.slice sa sn sc) (.slice aa an ac) (.slice ea2 en2 ec2) (.slice yl ml dl)) rfl rfl (by simp [rmV, Value.oneCell']) mkH.r1
      obtain ⟨D6, hD6⟩ : ∃ B, D5.setRow (W.heap.size + 1) (rmV (.slice a2 n2 d2) (.slice na nm nc) (.slice sa sn sc) (.slice aa an ac) (.slice ea2 en2 ec2) (.slice yl ml dl)) = B := ⟨_, rfl⟩
      have k6 : ∀ (e sz : Nat) u l', e ≠ 30 → Ol W.heap.size e sz D5 u l' → Ol W.heap.size e sz D6 u l' := fun e sz u l' z z2 => by
        rw [← hD6]
        exact z2.keep fun g hg => by
          obtain ⟨_, _, cur, hc⟩ := z2.tag hg
          exact setRow_other _ _ _ _ (tag_ne hc mkH.r1 z)
      have k36 : ∀ (e sz : Nat) u l', e ≠ 30 → e ≠ 44 → Ol W.heap.size e sz D3 u l' → Ol W.heap.size e sz D6 u l' := fun e sz u l' z1 z2 z => k6 _ _ _ _ z1 (k5 _ _ _ _ z1 z2 (k4 _ _ _ _ z1 z))
      have HF : Hid (Rl W.heap.size D6 (.slice a2 n2 d2) (.slice na nm nc) (.slice sa sn sc) (.slice aa an ac) (.slice ea2 en2 ec2) (.slice yl ml dl) us ls R ∧ Below W.heap.size W D6 ∧ D6.heap[W.heap.size + 1]? = some (.cells (rmV (.slice a2 n2 d2) (.slice na nm nc) (.slice sa sn sc) (.slice aa an ac) (.slice ea2 en2 ec2) (.slice yl ml dl)) 30 (0, 0))) := by
        refine ⟨⟨k36 _ _ _ _ (by decide) (by decide) (k3 _ _ _ _ (by decide) oo), k36 _ _ _ _ (by decide) (by decide) (k3 _ _ _ _ (by decide) fn), k36 _ _ _ _ (by decide) (by decide) (k3 _ _ _ _ (by decide) sD), k36 _ _ _ _ (by decide) (by decide) oaD, ?_, k36 _ _ _ _ (by decide) (by decide) (k3 _ _ _ _ (by decide) fl), HD.out.2.2.2.2.1, HD.out.2.2.2.2.2.1, fun j x u v z1 z2 z3 => ⟨(HD.out.2.2.2.2.2.2 j x u v z1 z2 z3).1, k36 _ _ _ _ (by decide) (by decide) (k3 _ _ _ _ (by decide) (ea j x u v z1 z2 z3))⟩, D1.heap.size, D2.heap.size, fun j v g z1 z2 => ?_, hsB, haB⟩, ?_, ?_⟩
        · rw [List.map_append]
          exact k6 _ _ _ _ (by decide) ee5
        · have hj := (List.getElem?_eq_some_iff.1 z1).1
          have hl1 := HD.out.2.2.2.2.2.1
          have hl2 := HD.out.2.2.2.2.1
          exact ((HD.out.2.2.2.2.2.2 j _ _ v (List.getElem?_eq_getElem (by omega)) (List.getElem?_eq_getElem (by omega)) z1).2.tag z2).2.1
        · rw [← hD6]
          exact below_setRow mkH.bel (by omega) _
        · rw [← hD6]
          exact setRow_heap _ _ _ _ _ _ mkH.r1
      unfold eR PEE BEH at hr5
      unfold rmV at st' hD6
      clear mkE oo fn fl sD ea hsB zD2 mk3 mkF kp3 haB oaD k3 han hsm hP4 p4 mk4 mkG kp4 k4 ee ba hP5 mk5 mkH kp5 k5 ee5 k6 k36 oa bv
      go_wp2_with fail
      refine bodyPost_ret (results_M rfl _ _ (W.heap.size + 1) _ rfl rfl HF.out.2.2) rfl ?_
      exact ⟨_, _, _, _, _, _, us, ls, rfl, HF.out.1, HF.out.2.1⟩
end
end Go.Proofs.Ytcggaiplepekdaa
