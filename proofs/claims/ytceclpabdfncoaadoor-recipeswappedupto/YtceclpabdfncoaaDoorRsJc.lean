/- Several texts in one: RsH, RsO, RcW, RsD. -/
import Derived.Test.YtceclpabdfncoaaDoorRcO
import Derived.Test.YtceclpabdfncoaaDoorRcJd
import Derived.Test.YtceclpabdfncoaaDoorRsJa
/- twin and copyOf, their lists of texts told apart. -/
namespace Go.Proofs.YtceclpabdfncoaaDoor.Re
open Go.RowKit
/-- The arguments' block is no other list's. -/
def Sepa (s a : Value) (us : List Value) : Prop := ∀ g, a.ownBlock = some g → s.ownBlock ≠ some g ∧ ∀ (j : Nat) u, us[j]? = some u → u.ownBlock ≠ some g
section
attribute [local go_sem ↓] toApO toApI toApS toApP toLdR toStR
end
end Go.Proofs.YtceclpabdfncoaaDoor.Re

/- copyOf, its lists of texts told apart. -/
namespace Go.Proofs.YtceclpabdfncoaaDoor.Re
open Go.RowKit
section
attribute [local go_sem ↓] toLdR toStR toLdI
set_option maxRecDepth 100000 in
set_option maxHeartbeats 3200000 in
theorem copyOf_sep (W : World) (o n s a e : Value) (R : Rcp) (hs : Sm R) (h : Rc W o n s a e R) : Calls Tryd.prog 14 #[.agg (rV o n s R.sys R.bld a e)] W fun en w' => ∃ o' n' s' a' e' us, en = .returned (.agg (rV o' n' s' R.sys R.bld a' e')) ∧ Tw W.heap.size w' o' n' s' a' e' us R ∧ Below W.heap.size W w' ∧ Sepa s' a' us := by
  have lim := hs
  unfold Sm at lim
  obtain ⟨B0, hB0⟩ : ∃ B0, (W.alloc (.cells (rV o n s R.sys R.bld a e) 33)).alloc (.cells zR 33) = B0 := ⟨_, rfl⟩
  have x0 : Bx W (rV o n s R.sys R.bld a e) B0 := hB0 ▸ bx_new W _
  obtain ⟨us0, hu1, hu2, hu3⟩ := h.n
  obtain ⟨xo, co, fo⟩ := h.o.form
  obtain ⟨xn, cn, fn⟩ := hu2.form
  obtain ⟨xs, cs, fs⟩ := h.s.form
  obtain ⟨xa, ca, fa⟩ := h.a.form
  obtain ⟨xe, ce, fe⟩ := h.e.form
  have zl : (List.zipWith nR R.n us0).length = R.n.length := by rw [List.length_zipWith, hu1, Nat.min_self]
  obtain ⟨lo, hlo⟩ : ∃ k, R.o.length = k := ⟨_, rfl⟩
  obtain ⟨ln, hln⟩ : ∃ k, R.n.length = k := ⟨_, rfl⟩
  obtain ⟨lss, hls⟩ : ∃ k, R.s.length = k := ⟨_, rfl⟩
  obtain ⟨la, hla⟩ : ∃ k, R.a.length = k := ⟨_, rfl⟩
  obtain ⟨le, hle⟩ : ∃ k, R.e.length = k := ⟨_, rfl⟩
  rw [List.length_map, hlo] at fo
  rw [zl, hln] at fn
  rw [List.length_map, hls] at fs
  rw [List.length_map, hla] at fa
  rw [List.length_map, hle] at fe
  subst fo fn fs fa fe
  have y0 := x0.drew
  obtain ⟨A0, hA0⟩ : ∃ A, B0.drew = A := ⟨_, rfl⟩
  rw [hA0] at y0
  obtain ⟨a0, n0, d0, A1, C0, o0, b0⟩ := fresDO A0 (.slice xo lo co) _ (h.o.below y0.bel) (by unfold MX; simp; omega)
  have y1 := y0.below b0
  obtain ⟨a1, n1, d1, A2, C1, o1, b1⟩ := fresDI A1 (.slice xn ln cn) _ (hu2.below y1.bel) (by unfold MX; omega)
  have y2 := y1.below b1
  obtain ⟨a2, n2, d2, A3, C2, o2, b2⟩ := fresDS A2 (.slice xs lss cs) _ (h.s.below y2.bel) (by unfold MX; simp; omega)
  have y3 := y2.below b2
  obtain ⟨g3, y4⟩ := y3.set 0 (.slice a0 n0 d0)
  obtain ⟨g4, y5⟩ := y4.set 1 (.slice a1 n1 d1)
  obtain ⟨g5, y6⟩ := y5.set 2 (.slice a2 n2 d2)
  have p0 := ((((o0.mono y0.bel.size).below b1).below b2).box y3 (u := .slice a0 n0 d0) (by decide) 0)
  have p1 := (((o1.mono y1.bel.size).below b2).box y3 (u := .slice a0 n0 d0) (by decide) 0)
  have p2 := ((o2.mono y2.bel.size).box y3 (u := .slice a0 n0 d0) (by decide) 0)
  obtain ⟨A4, hA4⟩ : ∃ A, A3.setCell ⟨W.heap.size, 0, none⟩ (.slice a0 n0 d0) = A := ⟨_, rfl⟩
  rw [hA4] at g4 y4 y5 y6 g5 p0 p1 p2
  replace p0 := p0.box y4 (u := .slice a1 n1 d1) (by decide) 1
  replace p1 := p1.box y4 (u := .slice a1 n1 d1) (by decide) 1
  replace p2 := p2.box y4 (u := .slice a1 n1 d1) (by decide) 1
  obtain ⟨A5, hA5⟩ : ∃ A, A4.setCell ⟨W.heap.size, 1, none⟩ (.slice a1 n1 d1) = A := ⟨_, rfl⟩
  rw [hA5] at y5 y6 g5 p0 p1 p2
  replace p0 := p0.box y5 (u := .slice a2 n2 d2) (by decide) 2
  replace p1 := p1.box y5 (u := .slice a2 n2 d2) (by decide) 2
  replace p2 := p2.box y5 (u := .slice a2 n2 d2) (by decide) 2
  obtain ⟨A6, hA6⟩ : ∃ A, A5.setCell ⟨W.heap.size, 2, none⟩ (.slice a2 n2 d2) = A := ⟨_, rfl⟩
  rw [hA6] at y6 p0 p1 p2
  have y7 := y6.drew
  obtain ⟨A7, hA7⟩ : ∃ A, A6.drew = A := ⟨_, rfl⟩
  have bd := below_drw A6
  rw [hA7] at y7 bd
  obtain ⟨a3, n3, d3, A8, C3, o3, b3⟩ := fresDS A7 (.slice xa la ca) _ (h.a.below y7.bel) (by unfold MX; simp; omega)
  have y8 := y7.below b3
  have HSA : Hid (∀ g, (Value.slice a3 n3 d3).ownBlock = some g → (Value.slice a2 n2 d2).ownBlock ≠ some g) := fun g hg z => by
    have h1 := (o3.tag hg).1
    have h2 := (p2.tag z).2.1
    have h3 : A7.heap.size = A6.heap.size := by rw [← hA7]; rfl
    omega
  obtain ⟨a4, n4, d4, A9, C4, o4, b4⟩ := fresDP A8 (.slice xe le ce) _ (h.e.below y8.bel) (by unfold MX; simp; omega)
  have y9 := y8.below b4
  obtain ⟨g9, y10⟩ := y9.set 5 (.slice a3 n3 d3)
  obtain ⟨g10, y11⟩ := y10.set 6 (.slice a4 n4 d4)
  replace p0 := (((p0.below bd).below b3).below b4).box y9 (u := .slice a3 n3 d3) (by decide) 5
  replace p1 := (((p1.below bd).below b3).below b4).box y9 (u := .slice a3 n3 d3) (by decide) 5
  replace p2 := (((p2.below bd).below b3).below b4).box y9 (u := .slice a3 n3 d3) (by decide) 5
  have p3 := ((o3.mono y7.bel.size).below b4).box y9 (u := .slice a3 n3 d3) (by decide) 5
  have p4 := (o4.mono y8.bel.size).box y9 (u := .slice a3 n3 d3) (by decide) 5
  obtain ⟨A10, hA10⟩ : ∃ A, A9.setCell ⟨W.heap.size, 5, none⟩ (.slice a3 n3 d3) = A := ⟨_, rfl⟩
  rw [hA10] at y10 y11 g10 p0 p1 p2 p3 p4
  replace p0 := p0.box y10 (u := .slice a4 n4 d4) (by decide) 6
  replace p1 := p1.box y10 (u := .slice a4 n4 d4) (by decide) 6
  replace p2 := p2.box y10 (u := .slice a4 n4 d4) (by decide) 6
  replace p3 := p3.box y10 (u := .slice a4 n4 d4) (by decide) 6
  replace p4 := p4.box y10 (u := .slice a4 n4 d4) (by decide) 6
  obtain ⟨A11, hA11⟩ : ∃ A, A10.setCell ⟨W.heap.size, 6, none⟩ (.slice a4 n4 d4) = A := ⟨_, rfl⟩
  rw [hA11] at y11 p0 p1 p2 p3 p4
  obtain ⟨sys, hsys⟩ : ∃ x, R.sys = x := ⟨_, rfl⟩
  obtain ⟨bld, hbld⟩ : ∃ x, R.bld = x := ⟨_, rfl⟩
  rw [hsys, hbld] at hB0 x0 y0 y1 y2 y3 y4 y5 y6 y7 y8 y9 y10 y11 ⊢
  have hn1 : n1 = ln := by
    obtain ⟨_, _, q, -⟩ := o1.form
    injection q with _ q2
    rw [q2, zl, hln]
  subst hn1
  have HS : Hid (Cf W R us0 (rV (.slice a0 n0 d0) (.slice a1 n1 d1) (.slice a2 n2 d2) sys bld (.slice a3 n3 d3) (.slice a4 n4 d4)) (.slice a0 n0 d0) (.slice a1 n1 d1) (.slice a2 n2 d2) (.slice a3 n3 d3) (.slice a4 n4 d4) us0 0 A11) := ⟨y11, p0, p1, p2, p3, p4, hu1, fun j x u q => absurd q (Nat.not_lt_zero _), fun j _ => rfl⟩
  have HC : Hid (_ ∧ _ ∧ _ ∧ _ ∧ _) := ⟨C0, C1, C2, C3, C4⟩
  have k0 : ∀ j, j ≤ 3 → (ws6 A0 A1 A2 A3 A4 A5 A6 j).cell? ⟨W.heap.size, 0, none⟩ = some (.slice xo lo co) ∧ (ws6 A0 A1 A2 A3 A4 A5 A6 j).cell? ⟨W.heap.size, 1, none⟩ = some (.slice xn n1 cn) ∧ (ws6 A0 A1 A2 A3 A4 A5 A6 j).cell? ⟨W.heap.size, 2, none⟩ = some (.slice xs lss cs) := fun j hj => by
    match j, hj with
    | 0, _ => exact ⟨y0.cel rfl, y0.cel rfl, y0.cel rfl⟩
    | 1, _ => exact ⟨y1.cel rfl, y1.cel rfl, y1.cel rfl⟩
    | 2, _ => exact ⟨y2.cel rfl, y2.cel rfl, y2.cel rfl⟩
    | 3, _ => exact ⟨y3.cel rfl, y3.cel rfl, y3.cel rfl⟩
  have k1 : ∀ j, j ≤ 2 → (ws6 A7 A8 A9 A10 A11 A11 A11 j).cell? ⟨W.heap.size, 5, none⟩ = some (.slice xa la ca) ∧ (ws6 A7 A8 A9 A10 A11 A11 A11 j).cell? ⟨W.heap.size, 6, none⟩ = some (.slice xe le ce) := fun j hj => by
    match j, hj with
    | 0, _ => exact ⟨y7.cel rfl, y7.cel rfl⟩
    | 1, _ => exact ⟨y8.cel rfl, y8.cel rfl⟩
    | 2, _ => exact ⟨y9.cel rfl, y9.cel rfl⟩
  have HK : Hid (_ ∧ _) := ⟨k0, k1⟩
  have s0 := sS22 A3 a0 n0 d0 g3 (y3.cel (k := 0) rfl)
  have s1 := sS23 A4 a1 n1 d1 g4 (y4.cel (k := 1) rfl)
  have s2 := sS24 A5 a2 n2 d2 g5 (y5.cel (k := 2) rfl)
  have s3 := sS24 A9 a3 n3 d3 g9 (y9.cel (k := 5) rfl)
  have s4 := sS25 A10 a4 n4 d4 g10 (y10.cel (k := 6) rfl)
  rw [hA4] at s0
  rw [hA5] at s1
  rw [hA6] at s2
  rw [hA10] at s3
  rw [hA11] at s4
  have HT : Hid (_ ∧ _ ∧ _ ∧ _ ∧ _) := ⟨s0, s1, s2, s3, s4⟩
  have HR : Hid (us0.length = R.n.length ∧ (∀ (i : Nat) x u, R.n[i]? = some x → us0[i]? = some u → Ls W u 1 (x.2.map sR)) ∧ Sm R ∧ R.n.length = n1 ∧ R.sys = sys ∧ R.bld = bld) := ⟨hu1, hu3, hs, hln, hsys, hbld⟩
  have HB : Hid (B0.drew = A0 ∧ A6.drew = A7) := ⟨hA0, hA7⟩
  have HB0 : Hid (_ = B0) := hB0
  unfold rV zR at HB0
  unfold rV
  clear h hs lim x0 y0 y1 y2 y3 y4 y5 y6 y7 y8 y9 y10 y11 p0 p1 p2 p3 p4 bd b0 b1 b2 b3 b4 o0 o1 o2 o3 o4 C0 C1 C2 C3 C4 g3 g4 g5 g9 g10 hA0 hA4 hA5 hA6 hA7 hA10 hA11 hu1 hu2 hu3 zl hlo hls hla hle hsys hbld k0 k1 s0 s1 s2 s3 s4 hln hB0
  go_enter Tryd.func14, Tryd.ntmps14
  go_wp2_with fail
  rw [HB0.out]
  refine wp_region_vals (ops := reg1) (V := V1 W.heap.size (.slice xo lo co) (.slice xn n1 cn) (.slice xs lss cs) (.slice a0 n0 d0) (.slice a1 n1 d1) (.slice a2 n2 d2)) (S := Sq [2, 5, 8, 10, 12, 14] [1, 4, 7] 3 (ws6 A0 A1 A2 A3 A4 A5 A6)) (by kernel_rfl) (fun i o ho => (okR_at ok_reg1 ho).1) (fun i j o oj d ho hj q1 q2 => (okR_at ok_reg1 ho).2.2 j oj d hj q1 q2) (fun i o d ho q => (okR_at ok_reg1 ho).2.1 d q)
    (stepR1 _ W.heap.size (.slice xo lo co) (.slice xn n1 cn) (.slice xs lss cs) (.slice a0 n0 d0) (.slice a1 n1 d1) (.slice a2 n2 d2) _ _ rfl (fun i hi l Y h => h.mv i (by simp at hi; simp; omega))
      (fun l Y h _ hu hd => by
        obtain ⟨rfl, q⟩ := h.first (by decide) 2 rfl hu (by decide)
        exact HC.out.1.mono fun e w' ⟨q1, q2⟩ => ⟨q1, q2 ▸ q⟩)
      (fun l Y h _ hu hd => by
        obtain ⟨rfl, q⟩ := h.next (by decide) 0 5 2 rfl rfl hu (hd 2 (by kernel_rfl)) (fun e => by omega)
        exact HC.out.2.1.mono fun e w' ⟨q1, q2⟩ => ⟨q1, q2 ▸ q⟩)
      (fun l Y h _ hu hd => by
        obtain ⟨rfl, q⟩ := h.next (by decide) 1 8 5 rfl rfl hu (hd 5 (by kernel_rfl)) (fun e => by omega)
        exact HC.out.2.2.1.mono fun e w' ⟨q1, q2⟩ => ⟨q1, q2 ▸ q⟩)
      (fun l Y h _ hu hd => by
        obtain ⟨j, hj, -, rfl⟩ := h.early (i := 1) (by simp) hu
        exact ⟨_, lS22 _ (HK.out.1 j hj).1, h.mv 1 (by simp)⟩)
      (fun l Y h _ hu hd => by
        obtain ⟨j, hj, -, rfl⟩ := h.early (i := 4) (by simp) hu
        exact ⟨_, lS23 _ (HK.out.1 j hj).2.1, h.mv 4 (by simp)⟩)
      (fun l Y h _ hu hd => by
        obtain ⟨j, hj, -, rfl⟩ := h.early (i := 7) (by simp) hu
        exact ⟨_, lS24 _ (HK.out.1 j hj).2.2, h.mv 7 (by simp)⟩)
      (fun l Y h _ hu hd => by
        obtain ⟨rfl, q⟩ := h.next (by decide) 2 10 8 rfl rfl hu (hd 8 (by kernel_rfl)) (fun _ k hk => by simp at hk; rcases hk with rfl | rfl | rfl <;> exact dep_t (hd _ (by kernel_rfl)))
        exact ⟨_, HT.out.1, q⟩)
      (fun l Y h _ hu hd => by
        obtain ⟨rfl, q⟩ := h.next (by decide) 3 12 10 rfl rfl hu (hd 10 (by kernel_rfl)) (fun e => by omega)
        exact ⟨_, HT.out.2.1, q⟩)
      (fun l Y h _ hu hd => by
        obtain ⟨rfl, q⟩ := h.next (by decide) 4 14 12 rfl rfl hu (hd 12 (by kernel_rfl)) (fun e => by omega)
        exact ⟨_, HT.out.2.2.1, q⟩)) (by rw [show reg1.size = 15 from by kernel_rfl, HB.out.1]; exact Sq.start [2, 5, 8, 10, 12, 14] [1, 4, 7] 3 (ws6 A0 A1 A2 A3 A4 A5 A6) 15 (by decide)) (fun wE hE => ?_)
  rw [putR1]
  obtain rfl := hE.done
  simp only [V1]
  clear hE
  go_wp2_with fail
  refine wp_region_vals (ops := reg2) (V := V2 W.heap.size (.slice xa la ca) (.slice xe le ce) (.slice a3 n3 d3) (.slice a4 n4 d4)) (S := Sq [2, 5, 7, 9] [1, 4] 2 (ws6 A7 A8 A9 A10 A11 A11 A11)) (by kernel_rfl) (fun i o ho => (okR_at ok_reg2 ho).1) (fun i j o oj d ho hj q1 q2 => (okR_at ok_reg2 ho).2.2 j oj d hj q1 q2) (fun i o d ho q => (okR_at ok_reg2 ho).2.1 d q)
    (stepR2 _ W.heap.size (.slice xa la ca) (.slice xe le ce) (.slice a3 n3 d3) (.slice a4 n4 d4) _ _ rfl (fun i hi l Y h => h.mv i (by simp at hi; simp; omega))
      (fun l Y h _ hu hd => by
        obtain ⟨rfl, q⟩ := h.first (by decide) 2 rfl hu (by decide)
        exact HC.out.2.2.2.1.mono fun e w' ⟨q1, q2⟩ => ⟨q1, q2 ▸ q⟩)
      (fun l Y h _ hu hd => by
        obtain ⟨rfl, q⟩ := h.next (by decide) 0 5 2 rfl rfl hu (hd 2 (by kernel_rfl)) (fun e => by omega)
        exact HC.out.2.2.2.2.mono fun e w' ⟨q1, q2⟩ => ⟨q1, q2 ▸ q⟩)
      (fun l Y h _ hu hd => by
        obtain ⟨j, hj, -, rfl⟩ := h.early (i := 1) (by simp) hu
        exact ⟨_, lS24 _ (HK.out.2 j hj).1, h.mv 1 (by simp)⟩)
      (fun l Y h _ hu hd => by
        obtain ⟨j, hj, -, rfl⟩ := h.early (i := 4) (by simp) hu
        exact ⟨_, lS25 _ (HK.out.2 j hj).2, h.mv 4 (by simp)⟩)
      (fun l Y h _ hu hd => by
        obtain ⟨rfl, q⟩ := h.next (by decide) 1 7 5 rfl rfl hu (hd 5 (by kernel_rfl)) (fun _ k hk => by simp at hk; rcases hk with rfl | rfl <;> exact dep_t (hd _ (by kernel_rfl)))
        exact ⟨_, HT.out.2.2.2.1, q⟩)
      (fun l Y h _ hu hd => by
        obtain ⟨rfl, q⟩ := h.next (by decide) 2 9 7 rfl rfl hu (hd 7 (by kernel_rfl)) (fun e => by omega)
        exact ⟨_, HT.out.2.2.2.2, q⟩)) (by rw [show reg2.size = 10 from by kernel_rfl, HB.out.2]; exact Sq.start [2, 5, 7, 9] [1, 4] 2 (ws6 A7 A8 A9 A10 A11 A11 A11) 10 (by decide)) (fun wE hE => ?_)
  rw [putR2]
  obtain rfl := hE.done
  simp only [V2]
  clear hE HK HT HC
  have k1 : wE.cell? ⟨W.heap.size, 1, none⟩ = some (.slice a1 n1 d1) := HS.out.bx.cel (k := 1) rfl
  go_wp2_with fail
  clear k1
  obtain ⟨C1, hC1⟩ : ∃ C : Array Value, C = rV (.slice a0 n0 d0) (.slice a1 n1 d1) (.slice a2 n2 d2) sys bld (.slice a3 n3 d3) (.slice a4 n4 d4) := ⟨_, rfl⟩
  have HCC : Hid (C1 = rV (.slice a0 n0 d0) (.slice a1 n1 d1) (.slice a2 n2 d2) sys bld (.slice a3 n3 d3) (.slice a4 n4 d4)) := hC1
  rw [← hC1] at HS
  clear hC1
  go_loopw [3, 4, 28] (fun _ _ iv wr => ∃ (i : Nat) (us : List Value), iv = .int .i64 (i : Int) ∧ Hid (i ≤ n1 ∧ Cf W R us0 C1 (.slice a0 n0 d0) (.slice a1 n1 d1) (.slice a2 n2 d2) (.slice a3 n3 d3) (.slice a4 n4 d4) us i wr ∧ ∀ (j : Nat) u g, j < i → us[j]? = some u → (Value.slice a3 n3 d3).ownBlock = some g → u.ownBlock ≠ some g)) (fun _ _ iv _ => n1 + 1 - (intOf iv).toNat)
  case atStart => exact ⟨0, us0, rfl, Nat.zero_le _, HS.out, fun j u g q => absurd q (Nat.not_lt_zero _)⟩
  case round =>
    obtain ⟨i, us, rfl, HI⟩ := hrel
    by_cases hi : i < n1
    · obtain ⟨ile, cf, sp⟩ := HI.out
      have hin : i < R.n.length := by have := HR.out.2.2.2.1; omega
      obtain ⟨x, hx⟩ : ∃ x, R.n[i]? = some x := ⟨_, List.getElem?_eq_getElem hin⟩
      obtain ⟨u, hu⟩ : ∃ u, us[i]? = some u := ⟨_, List.getElem?_eq_getElem (by have := cf.ul; omega)⟩
      have hu0 : us0[i]? = some u := (cf.rest i (Nat.le_refl _)).symm.trans hu
      obtain ⟨g, rfl⟩ := cf.fn.own (by omega)
      have hz : (List.zipWith nR R.n us)[i]? = some (nR x u) := by rw [List.getElem?_zipWith, hx, hu]
      obtain ⟨g', q', hgq, hg, r1⟩ := cf.fn.ls.at i _ hz
      injection hgq with hgq
      injection hgq with e1 e2
      subst e1 e2
      rw [Nat.zero_add] at r1
      have l1 := ld_I wr g (i * 2) _ rfl r1
      have hsx := HR.out.2.2.1.2.2.2.2.2 x (List.mem_of_getElem? hx)
      have lu := (HR.out.2.1 i x u hx hu0)
      obtain ⟨ou, cu, hul⟩ := lu.form
      obtain ⟨xl, hxl⟩ : ∃ k, (x.2.map sR).length = k := ⟨_, rfl⟩
      rw [hxl] at hul
      subst hul
      obtain ⟨X, hX⟩ : ∃ X, wr.alloc (.cells (nR x (.slice ou xl cu)) 45) = X := ⟨_, rfl⟩
      have bX : Below wr.heap.size wr X := by rw [← hX]; exact (Below.refl _ wr).alloc (Nat.le_refl _) _
      have rX : X.heap[wr.heap.size]? = some (.cells (nR x (.slice ou xl cu)) 45 (0, 0)) := by rw [← hX]; exact heap_alloc_new _ _
      have hXz : X.heap.size = wr.heap.size + 1 := by rw [← hX]; simp
      obtain ⟨Y0, hY0⟩ : ∃ Y, X.drew = Y := ⟨_, rfl⟩
      have bY0 : Below X.heap.size X Y0 := by rw [← hY0]; exact below_drw X
      have bw0 : Below wr.heap.size wr Y0 := bX.trans (bY0.mono bX.size)
      obtain ⟨a', n', d', Y1, CF, of, bf⟩ := fresDS Y0 (.slice ou xl cu) _ (lu.below (cf.bx.bel.trans (bw0.mono cf.bx.bel.size))) (by unfold MX; simp; omega)
      have bw1 : Below wr.heap.size wr Y1 := bw0.trans (bf.mono bw0.size)
      have cf1 := cf.below bw1
      have cf2 := cf.step bw1 hx hu (of.mono bw0.size) rfl
      have c0 := (cf.below bw0).bx.cel (k := 1) (v := .slice (some ⟨g, 0, none⟩) n1 d1) (by rw [HCC.out]; rfl)
      have c1' := cf1.bx.cel (k := 1) (v := .slice (some ⟨g, 0, none⟩) n1 d1) (by rw [HCC.out]; rfl)
      have c2 := cf2.bx.cel (k := 1) (v := .slice (some ⟨g, 0, none⟩) n1 d1) (by rw [HCC.out]; rfl)
      have rY0 : Y0.heap[wr.heap.size]? = some (.cells (nR x (.slice ou xl cu)) 45 (0, 0)) := (bY0.block _ (by omega)).trans rX
      have rY1 : Y1.heap[wr.heap.size]? = some (.cells (nR x (.slice ou xl cu)) 45 (0, 0)) := (bf.block _ (by have := bY0.size; omega)).trans rY0
      have sf := sS24 Y1 (g := g) (k := i * 2 + 1) a' n' d' (cf1.fn.fro _) (cf1.fn.cel i 1 _ _ hz rfl)
      obtain ⟨Y2, hY2⟩ : ∃ Y, Y1.setCell ⟨g, i * 2 + 1, none⟩ (.slice a' n' d') = Y := ⟨_, rfl⟩
      have rY2 : Y2.heap[wr.heap.size]? = some (.cells (nR x (.slice ou xl cu)) 45 (0, 0)) := by rw [← hY2]; exact (heap_setCell_other _ _ _ _ (by show wr.heap.size ≠ g; omega)).trans rY1
      rw [hY2] at cf2 c2 sf
      have HKL : Hid (∀ j, j ≤ 2 → (ws6 Y0 Y1 Y2 Y2 Y2 Y2 Y2 j).cell? ⟨W.heap.size, 1, none⟩ = some (.slice (some ⟨g, 0, none⟩) n1 d1) ∧ (ws6 Y0 Y1 Y2 Y2 Y2 Y2 Y2 j).cell? ⟨wr.heap.size, 1, none⟩ = some (.slice ou xl cu)) := fun j hj => by
        match j, hj with
        | 0, _ => exact ⟨c0, c1 rY0 rfl⟩
        | 1, _ => exact ⟨c1', c1 rY1 rfl⟩
        | 2, _ => exact ⟨c2, c1 rY2 rfl⟩
      have HCF : Hid (_ ∧ _ ∧ _) := ⟨CF, sf, hY0⟩
      have HF : Hid (i < n1 ∧ Cf W R us0 C1 (.slice a0 n0 d0) (.slice (some ⟨g, 0, none⟩) n1 d1) (.slice a2 n2 d2) (.slice a3 n3 d3) (.slice a4 n4 d4) (us.set i (.slice a' n' d')) (i + 1) Y2 ∧ ∀ (j : Nat) u g, j < i + 1 → (us.set i (.slice a' n' d'))[j]? = some u → (Value.slice a3 n3 d3).ownBlock = some g → u.ownBlock ≠ some g) := ⟨hi, cf2, fun j u g hj hu hg => by
        by_cases q : j = i
        · subst q
          rw [List.getElem?_set_self (by have := cf.ul; omega)] at hu
          obtain rfl := Option.some.inj hu
          intro z
          have h1 := (of.tag z).1
          have h2 := (cf.fa.tag hg).2.1
          have h3 := bw0.size
          omega
        · rw [List.getElem?_set_ne (by omega)] at hu
          exact sp j u g (by omega) hu hg⟩
      have HX : Hid (_ = X) := hX
      have hi0 : (0 : Int) ≤ (i : Int) := by omega
      have hi1 : (i : Int) < (n1 : Int) := by omega
      have w1' : IntKind.i64.wrap ((i : Int) + 1) = (i : Int) + 1 := by rw [IntKind.wrap_i64]; have := HR.out.2.2.1.2.1; have := HR.out.2.2.2.1; omega
      obtain ⟨x1, x2⟩ := x
      unfold nR at l1 HX
      clear hi ile cf sp hin hx hu hu0 hz hg r1 hsx lu hxl bX rX hXz bY0 bw0 bw1 bf of CF cf1 cf2 c0 c1' c2 rY0 rY1 rY2 sf hX hY0 hY2
      go_wp2_with fail
      rw [HX.out]
      refine wp_region_vals (ops := reg6) (V := V6 W.heap.size wr.heap.size g n1 d1 i (.slice ou xl cu) (.slice a' n' d')) (S := Sq [5, 8] [] 9 (ws6 Y0 Y1 Y2 Y2 Y2 Y2 Y2)) (by kernel_rfl) (fun i o ho => (okR_at ok_reg6 ho).1) (fun i j o oj d ho hj q1 q2 => (okR_at ok_reg6 ho).2.2 j oj d hj q1 q2) (fun i o d ho q => (okR_at ok_reg6 ho).2.1 d q)
        (stepR6 _ W.heap.size wr.heap.size g n1 d1 i (.slice ou xl cu) (.slice a' n' d') _ _ rfl rfl rfl (fun i hi l Y h => h.mv i (by simp at hi; simp; omega))
          (fun l Y h _ hu hd => by
            obtain ⟨rfl, q⟩ := h.first (by decide) 5 rfl hu (by decide)
            exact HCF.out.1.mono fun e w' ⟨q1, q2⟩ => ⟨q1, q2 ▸ q⟩)
          (fun l Y h _ hu hd => by
            obtain ⟨j, hj, rfl⟩ := h.any
            exact ⟨_, lS23 _ (HKL.out j hj).1, h.mv 1 (by simp)⟩)
          (fun l Y h _ hu hd => by
            obtain ⟨j, hj, rfl⟩ := h.any
            exact ⟨_, lS24 _ (HKL.out j hj).2, h.mv 4 (by simp)⟩)
          (fun l Y h _ hu hd => by
            obtain ⟨rfl, q⟩ := h.next (by decide) 0 8 5 rfl rfl hu (hd 5 (by kernel_rfl)) (fun e => by omega)
            exact ⟨_, HCF.out.2.1, q⟩) hi0 hi1) (by rw [show reg6.size = 9 from by kernel_rfl, HCF.out.2.2]; exact Sq.start [5, 8] [] 9 (ws6 Y0 Y1 Y2 Y2 Y2 Y2 Y2) 9 (by decide)) (fun wE hE => ?_)
      rw [putR6]
      obtain rfl := hE.done
      simp only [V6]
      clear hE
      go_wp2_with fail
      go_roundw
      case rel => exact ⟨i + 1, _, by go_num, HF.out.1, HF.out.2.1, HF.out.2.2⟩
      case measure => have := HF.out.1; simp [intOf]; omega
    · obtain ⟨ile, cf, sp⟩ := HI.out
      have hil : R.n.length = i := by have := HR.out.2.2.2.1; omega
      have bx := cf.bx
      rw [HCC.out] at bx
      have ldR' := ld_R wr W.heap.size _ rfl bx.r0
      have stR' := st_R wr (W.heap.size + 1) _ (rV (.slice a0 n0 d0) (.slice a1 n1 d1) (.slice a2 n2 d2) sys bld (.slice a3 n3 d3) (.slice a4 n4 d4)) rfl rfl (by simp [rV, Value.oneCell']) bx.r1
      obtain ⟨B6, hB6⟩ : ∃ B, wr.setRow (W.heap.size + 1) (rV (.slice a0 n0 d0) (.slice a1 n1 d1) (.slice a2 n2 d2) sys bld (.slice a3 n3 d3) (.slice a4 n4 d4)) = B := ⟨_, rfl⟩
      have HR6 : Hid (B6.heap[W.heap.size + 1]? = some (.cells (rV (.slice a0 n0 d0) (.slice a1 n1 d1) (.slice a2 n2 d2) sys bld (.slice a3 n3 d3) (.slice a4 n4 d4)) 33 (0, 0))) := by
        show B6.heap[W.heap.size + 1]? = _
        rw [← hB6]
        exact setRow_heap _ _ _ _ _ _ bx.r1
      have HF : Hid (Tw W.heap.size B6 (.slice a0 n0 d0) (.slice a1 n1 d1) (.slice a2 n2 d2) (.slice a3 n3 d3) (.slice a4 n4 d4) us R ∧ Below W.heap.size W B6) := by
        rw [← hB6]
        refine ⟨⟨cf.fo.row bx.r1 (by decide), cf.fn.row bx.r1 (by decide), cf.fs.row bx.r1 (by decide), cf.fa.row bx.r1 (by decide), cf.fe.row bx.r1 (by decide), cf.ul, fun j x u z1 z2 => ?_⟩, below_setRow bx.bel (by omega) _⟩
        exact (cf.done j x u (by have := (List.getElem?_eq_some_iff.1 z1).1; omega) z1 z2).row bx.r1 (by decide)
      have HSP : Hid (Sepa (.slice a2 n2 d2) (.slice a3 n3 d3) us) := fun g hg => ⟨HSA.out g hg, fun j u hu => sp j u g (by have := (List.getElem?_eq_some_iff.1 hu).1; have := cf.ul; omega) hu hg⟩
      unfold rV at ldR' stR' hB6
      have hi2 : ¬ ((i : Int) < (n1 : Int)) := by omega
      clear hi ile cf sp hil bx
      go_wp2_with fail
      refine bodyPost_ret (results_R rfl _ _ (W.heap.size + 1) _ rfl rfl HR6.out) rfl ?_
      exact ⟨_, _, _, _, _, rfl, us, HF.out.1, HF.out.2, HSP.out⟩
end
end Go.Proofs.YtceclpabdfncoaaDoor.Re

/- Recipes: Put of the document. -/
namespace Go.Proofs.YtceclpabdfncoaaDoor.Re
open Go.RowKit
section
attribute [local go_sem ↓] toLdR toStR
end
end Go.Proofs.YtceclpabdfncoaaDoor.Re

/- Swap of the document. -/
namespace Go.Proofs.YtceclpabdfncoaaDoor.Re
open Go.RowKit
def mI {α : Type} (f : α → α) (l : List α) (i : Nat) : List α := (l.take i).map f ++ l.drop i
theorem mI_0 {α : Type} (f : α → α) (l : List α) : mI f l 0 = l := by simp [mI]
theorem mI_all {α : Type} (f : α → α) (l : List α) {i : Nat} (h : l.length ≤ i) : mI f l i = l.map f := by simp [mI, List.take_of_length_le h, List.drop_of_length_le h]
theorem mI_len {α : Type} (f : α → α) (l : List α) (i : Nat) : (mI f l i).length = l.length := by simp [mI]; omega
theorem mI_at {α : Type} (f : α → α) {l : List α} {i : Nat} {x : α} (h : l[i]? = some x) : (mI f l i)[i]? = some x := by
  have hi := (List.getElem?_eq_some_iff.1 h).1
  unfold mI
  rw [List.getElem?_append_right (by simp; omega)]
  simp [show i - min i l.length = 0 by omega, h]
theorem mI_set {α : Type} (f : α → α) {l : List α} {i : Nat} {x : α} (h : l[i]? = some x) : (mI f l i).set i (f x) = mI f l (i + 1) := by
  obtain ⟨hi, hx⟩ := List.getElem?_eq_some_iff.1 h
  unfold mI
  rw [List.take_add_one, h, List.drop_eq_getElem_cons hi, hx]
  have hl : ((l.take i).map f).length = i := by simp; omega
  rw [List.set_append_right _ _ (by omega), hl, Nat.sub_self]
  simp
/-- A recipe with its texts exchanged. -/
def swP (C : List Pai) (p : Pai) : Pai := (p.1, swS C p.2)
def swR (C : List Pai) (R : Rcp) : Rcp := { R with a := R.a.map (swS C), e := R.e.map (swP C) }
/-- Nothing is too long. -/
def Bd (R : Rcp) (fr to : List S) : Prop := (∀ x ∈ R.a, x.size ≤ 2000000) ∧ (∀ p ∈ R.e, p.2.size ≤ 2000000) ∧ (∀ x ∈ fr, x.size ≤ 2000000) ∧ (∀ x ∈ to, x.size ≤ 2000000) ∧ fr.length ≤ 10000000 ∧ to.length ≤ 10000000
theorem Tw.setA {base : Nat} {W : World} {g m c : Nat} {o n s e : Value} {us : List Value} {R : Rcp} (h : Tw base W o n s (.slice (some ⟨g, 0, none⟩) m c) e us R) (hp : Sepa s (.slice (some ⟨g, 0, none⟩) m c) us) {i : Nat} {x : S} (l : S) (hx : R.a[i]? = some x) : Tw base (W.setCell ⟨g, i, none⟩ (.string l)) o n s (.slice (some ⟨g, 0, none⟩) m c) e us { R with a := R.a.set i l } := by
  have hq := hp g rfl
  refine ⟨h.fo.other h.fa (by decide), h.fn.other h.fa (by decide), h.fs.apart hq.1, ?_, h.fe.other h.fa (by decide), h.ul, fun j x u q1 q2 => (h.each j x u q1 q2).apart (hq.2 j u q2)⟩
  have := h.fa.setc i 0 (sR x) (.string l) (by rw [List.getElem?_map, hx]; rfl) (by omega) rfl
  rw [Nat.mul_one, Nat.add_zero] at this
  show Ol base 9 1 _ _ ((R.a.set i l).map sR)
  rw [List.map_set]
  exact this
theorem Rd.setA {W : World} {C : Array Value} {g m c : Nat} {o n s e : Value} {us : List Value} {R : Rcp} {wr : World} (h : Rd W C o n s (.slice (some ⟨g, 0, none⟩) m c) e us R wr) (hp : Sepa s (.slice (some ⟨g, 0, none⟩) m c) us) {i : Nat} {x : S} (l : S) (hx : R.a[i]? = some x) : Rd W C o n s (.slice (some ⟨g, 0, none⟩) m c) e us { R with a := R.a.set i l } (wr.setCell ⟨g, i, none⟩ (.string l)) := ⟨h.bx.other h.tw.fa (by decide) (Nat.le_refl _), h.tw.setA hp l hx⟩
open Classical in
noncomputable def wth (p s : S) : Bool := decide (bl p <:+: bl s)
theorem wth_iff (p s : S) : wth p s = true ↔ bl p <:+: bl s := by unfold wth; exact decide_eq_true_iff
/-- What is wrong with two of them. -/
def Bad (fr : List S) (i j : Nat) : Prop := ∃ a b, fr[i]? = some a ∧ fr[j]? = some b ∧ (bl a = [] ∨ (i ≠ j ∧ bl a <:+: bl b))
theorem not_bad {fr : List S} {i j : Nat} (h : Bad fr i j) : ¬ Apt fr := fun ha => by
  obtain ⟨a, b, h1, h2, h3⟩ := h
  rcases h3 with q | ⟨q1, q2⟩
  · exact ha.1 a (List.mem_of_getElem? h1) q
  · exact (pw_at (fun _ _ q => ⟨q.2, q.1⟩) ha.2 h1 h2 q1).1 q2
theorem apt_bad {fr : List S} (h : ∀ i j, i < fr.length → j < fr.length → ¬ Bad fr i j) : Apt fr := by
  refine ⟨fun a ha => ?_, pw_of fun i j x y hij hi hj => ?_⟩
  · obtain ⟨i, hi⟩ := List.mem_iff_getElem?.1 ha
    have := (List.getElem?_eq_some_iff.1 hi).1
    exact fun q => h i i this this ⟨a, a, hi, hi, .inl q⟩
  · have h1 := (List.getElem?_eq_some_iff.1 hi).1
    have h2 := (List.getElem?_eq_some_iff.1 hj).1
    exact ⟨fun q => h i j h1 h2 ⟨x, y, hi, hj, .inr ⟨by omega, q⟩⟩, fun q => h j i h2 h1 ⟨y, x, hj, hi, .inr ⟨by omega, q⟩⟩⟩
theorem bl_emp {s : S} : bl s = [] ↔ s = ⟨#[]⟩ := ⟨fun h => bl_inj h, fun h => by rw [h]; rfl⟩
theorem Apt.ne {fr to : List S} (h : Apt fr) : NE (fr.zip to) := fun x hx => h.1 x.1 (List.of_mem_zip hx).1
theorem zip_fst {fr to : List S} (h : fr.length = to.length) : (fr.zip to).map (·.1) = fr := by
  rw [List.map_fst_zip (by omega)]
theorem Apt.zpf {fr to : List S} (h : Apt fr) (hl : fr.length = to.length) : PF (fr.zip to) := Apt.pf (by rw [zip_fst hl]; exact h)
theorem sw_bd {fr to : List S} (h : Apt fr) (ht : ∀ x ∈ to, x.size ≤ 2000000) {s : S} (hs : s.size ≤ 2000000) : (SW (fr.zip to) (bl s)).length ≤ 8796093022208 := by
  have := sw_len (M := 2000000) (by omega) (h.ne (to := to)) (fun x hx => by rw [bl_len]; exact ht x.2 (List.of_mem_zip hx).2) (bl s).length (bl s) (Nat.le_refl _)
  rw [bl_len] at this
  have h2 : s.size * 2000000 ≤ 2000000 * 2000000 := Nat.mul_le_mul_right _ hs
  omega
open Classical in
/-- What Swap leaves. -/
def SwE (W : World) (R : Rcp) (fr to : List S) : Ending → World → Prop := GiE W (if fr.length = to.length ∧ Apt fr then swR (fr.zip to) R else ZER) (if fr.length = to.length ∧ Apt fr then 0 else 2)
/-- Nothing but draws. -/
def Dr (B w : World) : Prop := ∃ m, w = B.drewN m
theorem Dr.refl (B : World) : Dr B B := ⟨0, rfl⟩
theorem Dr.more {B w : World} (h : Dr B w) (k : Nat) : Dr B (w.drewN k) := by
  obtain ⟨m, rfl⟩ := h
  refine ⟨m + k, ?_⟩
  unfold World.drewN
  simp [Nat.add_assoc]
theorem Dr.bel {B w : World} (h : Dr B w) : Below B.heap.size B w := drew_bel h
theorem Bx.dr {W B w : World} {c : Array Value} (h : Bx W c B) (hd : Dr B w) : Bx W c w := h.below hd.bel
section
attribute [local go_sem ↓] toLdR toStR
end
end Go.Proofs.YtceclpabdfncoaaDoor.Re
