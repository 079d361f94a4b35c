/- Recipes: copyOf, the walk. -/
import Derived.Test.YtceclpabdfncoaaDoorRcN
namespace Go.Proofs.YtceclpabdfncoaaDoor.Re
open Go.RowKit
theorem lS22 (Y : World) {g k : Nat} {oa : Option Addr} {n c : Nat} (h : Y.cell? ⟨g, k, none⟩ = some (.slice oa n c)) : (Instr.loadAt 29 (.pointer (some ⟨g, k, none⟩))).run Tryd.prog Y = .ok (.slice oa n c) Y := by simp [h, go_sem]
theorem sS22 (Y : World) {g k : Nat} {u : Value} (x : Option Addr) (n c : Nat) (hf : Y.frozen? ⟨g, k, none⟩ = false) (hc : Y.cell? ⟨g, k, none⟩ = some u) : (Instr.storeAt 29 (.pointer (some ⟨g, k, none⟩)) (.slice x n c)).run Tryd.prog Y = .ok () (Y.setCell ⟨g, k, none⟩ (.slice x n c)) := by simp [go_sem, hc, hf]
theorem lS23 (Y : World) {g k : Nat} {oa : Option Addr} {n c : Nat} (h : Y.cell? ⟨g, k, none⟩ = some (.slice oa n c)) : (Instr.loadAt 30 (.pointer (some ⟨g, k, none⟩))).run Tryd.prog Y = .ok (.slice oa n c) Y := by simp [h, go_sem]
theorem sS23 (Y : World) {g k : Nat} {u : Value} (x : Option Addr) (n c : Nat) (hf : Y.frozen? ⟨g, k, none⟩ = false) (hc : Y.cell? ⟨g, k, none⟩ = some u) : (Instr.storeAt 30 (.pointer (some ⟨g, k, none⟩)) (.slice x n c)).run Tryd.prog Y = .ok () (Y.setCell ⟨g, k, none⟩ (.slice x n c)) := by simp [go_sem, hc, hf]
theorem lS24 (Y : World) {g k : Nat} {oa : Option Addr} {n c : Nat} (h : Y.cell? ⟨g, k, none⟩ = some (.slice oa n c)) : (Instr.loadAt 22 (.pointer (some ⟨g, k, none⟩))).run Tryd.prog Y = .ok (.slice oa n c) Y := by simp [h, go_sem]
theorem sS24 (Y : World) {g k : Nat} {u : Value} (x : Option Addr) (n c : Nat) (hf : Y.frozen? ⟨g, k, none⟩ = false) (hc : Y.cell? ⟨g, k, none⟩ = some u) : (Instr.storeAt 22 (.pointer (some ⟨g, k, none⟩)) (.slice x n c)).run Tryd.prog Y = .ok () (Y.setCell ⟨g, k, none⟩ (.slice x n c)) := by simp [go_sem, hc, hf]
theorem lS25 (Y : World) {g k : Nat} {oa : Option Addr} {n c : Nat} (h : Y.cell? ⟨g, k, none⟩ = some (.slice oa n c)) : (Instr.loadAt 31 (.pointer (some ⟨g, k, none⟩))).run Tryd.prog Y = .ok (.slice oa n c) Y := by simp [h, go_sem]
theorem sS25 (Y : World) {g k : Nat} {u : Value} (x : Option Addr) (n c : Nat) (hf : Y.frozen? ⟨g, k, none⟩ = false) (hc : Y.cell? ⟨g, k, none⟩ = some u) : (Instr.storeAt 31 (.pointer (some ⟨g, k, none⟩)) (.slice x n c)).run Tryd.prog Y = .ok () (Y.setCell ⟨g, k, none⟩ (.slice x n c)) := by simp [go_sem, hc, hf]
theorem Bx.drew {W wr : World} {c : Array Value} (h : Bx W c wr) : Bx W c wr.drew := h.below ⟨rfl, rfl, rfl, Nat.le_refl _, fun _ _ => rfl⟩
theorem Bx.cel {W wr : World} {c : Array Value} (h : Bx W c wr) {k : Nat} {v : Value} (hv : c[k]? = some v) : wr.cell? ⟨W.heap.size, k, none⟩ = some v := c1 h.r0 hv
theorem below_drw (w : World) : Below w.heap.size w w.drew := ⟨rfl, rfl, rfl, Nat.le_refl _, fun _ _ => rfl⟩
def ws6 (A0 A1 A2 A3 A4 A5 A6 : World) : Nat → World
  | 0 => A0
  | 1 => A1
  | 2 => A2
  | 3 => A3
  | 4 => A4
  | 5 => A5
  | _ => A6
section
attribute [local go_sem ↓] toLdR toStR toLdI
set_option maxRecDepth 100000 in
set_option maxHeartbeats 3200000 in
theorem copyOf_any (W : World) (o n s a e : Value) (R : Rcp) (hs : Sm R) (h : Rc W o n s a e R) : Calls Tryd.prog 14 #[.agg (rV o n s R.sys R.bld a e)] W fun en w' => ∃ o' n' s' a' e' us, en = .returned (.agg (rV o' n' s' R.sys R.bld a' e')) ∧ Tw W.heap.size w' o' n' s' a' e' us R ∧ Below W.heap.size W w' := by
  have lim := hs
  unfold Sm at lim
  obtain ⟨B0, hB0⟩ : ∃ B0, (W.alloc (.cells (rV o n s R.sys R.bld a e) 33)).alloc (.cells zR 33) = B0 := ⟨_, rfl⟩
  have x0 : Bx W (rV o n s R.sys R.bld a e) B0 := hB0 ▸ bx_new W _
  obtain ⟨us0, hu1, hu2, hu3⟩ := h.n
  obtain ⟨xo, co, fo⟩ := h.o.form
  obtain ⟨xn, cn, fn⟩ := hu2.form
  obtain ⟨xs, cs, fs⟩ := h.s.form
  obtain ⟨xa, ca, fa⟩ := h.a.form
  obtain ⟨xe, ce, fe⟩ := h.e.form
  have zl : (List.zipWith nR R.n us0).length = R.n.length := by rw [List.length_zipWith, hu1, Nat.min_self]
  obtain ⟨lo, hlo⟩ : ∃ k, R.o.length = k := ⟨_, rfl⟩
  obtain ⟨ln, hln⟩ : ∃ k, R.n.length = k := ⟨_, rfl⟩
  obtain ⟨lss, hls⟩ : ∃ k, R.s.length = k := ⟨_, rfl⟩
  obtain ⟨la, hla⟩ : ∃ k, R.a.length = k := ⟨_, rfl⟩
  obtain ⟨le, hle⟩ : ∃ k, R.e.length = k := ⟨_, rfl⟩
  rw [List.length_map, hlo] at fo
  rw [zl, hln] at fn
  rw [List.length_map, hls] at fs
  rw [List.length_map, hla] at fa
  rw [List.length_map, hle] at fe
  subst fo fn fs fa fe
  have y0 := x0.drew
  obtain ⟨A0, hA0⟩ : ∃ A, B0.drew = A := ⟨_, rfl⟩
  rw [hA0] at y0
  obtain ⟨a0, n0, d0, A1, C0, o0, b0⟩ := fresDO A0 (.slice xo lo co) _ (h.o.below y0.bel) (by unfold MX; simp; omega)
  have y1 := y0.below b0
  obtain ⟨a1, n1, d1, A2, C1, o1, b1⟩ := fresDI A1 (.slice xn ln cn) _ (hu2.below y1.bel) (by unfold MX; omega)
  have y2 := y1.below b1
  obtain ⟨a2, n2, d2, A3, C2, o2, b2⟩ := fresDS A2 (.slice xs lss cs) _ (h.s.below y2.bel) (by unfold MX; simp; omega)
  have y3 := y2.below b2
  obtain ⟨g3, y4⟩ := y3.set 0 (.slice a0 n0 d0)
  obtain ⟨g4, y5⟩ := y4.set 1 (.slice a1 n1 d1)
  obtain ⟨g5, y6⟩ := y5.set 2 (.slice a2 n2 d2)
  have p0 := ((((o0.mono y0.bel.size).below b1).below b2).box y3 (u := .slice a0 n0 d0) (by decide) 0)
  have p1 := (((o1.mono y1.bel.size).below b2).box y3 (u := .slice a0 n0 d0) (by decide) 0)
  have p2 := ((o2.mono y2.bel.size).box y3 (u := .slice a0 n0 d0) (by decide) 0)
  obtain ⟨A4, hA4⟩ : ∃ A, A3.setCell ⟨W.heap.size, 0, none⟩ (.slice a0 n0 d0) = A := ⟨_, rfl⟩
  rw [hA4] at g4 y4 y5 y6 g5 p0 p1 p2
  replace p0 := p0.box y4 (u := .slice a1 n1 d1) (by decide) 1
  replace p1 := p1.box y4 (u := .slice a1 n1 d1) (by decide) 1
  replace p2 := p2.box y4 (u := .slice a1 n1 d1) (by decide) 1
  obtain ⟨A5, hA5⟩ : ∃ A, A4.setCell ⟨W.heap.size, 1, none⟩ (.slice a1 n1 d1) = A := ⟨_, rfl⟩
  rw [hA5] at y5 y6 g5 p0 p1 p2
  replace p0 := p0.box y5 (u := .slice a2 n2 d2) (by decide) 2
  replace p1 := p1.box y5 (u := .slice a2 n2 d2) (by decide) 2
  replace p2 := p2.box y5 (u := .slice a2 n2 d2) (by decide) 2
  obtain ⟨A6, hA6⟩ : ∃ A, A5.setCell ⟨W.heap.size, 2, none⟩ (.slice a2 n2 d2) = A := ⟨_, rfl⟩
  rw [hA6] at y6 p0 p1 p2
  have y7 := y6.drew
  obtain ⟨A7, hA7⟩ : ∃ A, A6.drew = A := ⟨_, rfl⟩
  have bd := below_drw A6
  rw [hA7] at y7 bd
  obtain ⟨a3, n3, d3, A8, C3, o3, b3⟩ := fresDS A7 (.slice xa la ca) _ (h.a.below y7.bel) (by unfold MX; simp; omega)
  have y8 := y7.below b3
  obtain ⟨a4, n4, d4, A9, C4, o4, b4⟩ := fresDP A8 (.slice xe le ce) _ (h.e.below y8.bel) (by unfold MX; simp; omega)
  have y9 := y8.below b4
  obtain ⟨g9, y10⟩ := y9.set 5 (.slice a3 n3 d3)
  obtain ⟨g10, y11⟩ := y10.set 6 (.slice a4 n4 d4)
  replace p0 := (((p0.below bd).below b3).below b4).box y9 (u := .slice a3 n3 d3) (by decide) 5
  replace p1 := (((p1.below bd).below b3).below b4).box y9 (u := .slice a3 n3 d3) (by decide) 5
  replace p2 := (((p2.below bd).below b3).below b4).box y9 (u := .slice a3 n3 d3) (by decide) 5
  have p3 := ((o3.mono y7.bel.size).below b4).box y9 (u := .slice a3 n3 d3) (by decide) 5
  have p4 := (o4.mono y8.bel.size).box y9 (u := .slice a3 n3 d3) (by decide) 5
  obtain ⟨A10, hA10⟩ : ∃ A, A9.setCell ⟨W.heap.size, 5, none⟩ (.slice a3 n3 d3) = A := ⟨_, rfl⟩
  rw [hA10] at y10 y11 g10 p0 p1 p2 p3 p4
  replace p0 := p0.box y10 (u := .slice a4 n4 d4) (by decide) 6
  replace p1 := p1.box y10 (u := .slice a4 n4 d4) (by decide) 6
  replace p2 := p2.box y10 (u := .slice a4 n4 d4) (by decide) 6
  replace p3 := p3.box y10 (u := .slice a4 n4 d4) (by decide) 6
  replace p4 := p4.box y10 (u := .slice a4 n4 d4) (by decide) 6
  obtain ⟨A11, hA11⟩ : ∃ A, A10.setCell ⟨W.heap.size, 6, none⟩ (.slice a4 n4 d4) = A := ⟨_, rfl⟩
  rw [hA11] at y11 p0 p1 p2 p3 p4
  obtain ⟨sys, hsys⟩ : ∃ x, R.sys = x := ⟨_, rfl⟩
  obtain ⟨bld, hbld⟩ : ∃ x, R.bld = x := ⟨_, rfl⟩
  rw [hsys, hbld] at hB0 x0 y0 y1 y2 y3 y4 y5 y6 y7 y8 y9 y10 y11 ⊢
  have hn1 : n1 = ln := by
    obtain ⟨_, _, q, -⟩ := o1.form
    injection q with _ q2
    rw [q2, zl, hln]
  subst hn1
  have HS : Hid (Cf W R us0 (rV (.slice a0 n0 d0) (.slice a1 n1 d1) (.slice a2 n2 d2) sys bld (.slice a3 n3 d3) (.slice a4 n4 d4)) (.slice a0 n0 d0) (.slice a1 n1 d1) (.slice a2 n2 d2) (.slice a3 n3 d3) (.slice a4 n4 d4) us0 0 A11) := ⟨y11, p0, p1, p2, p3, p4, hu1, fun j x u q => absurd q (Nat.not_lt_zero _), fun j _ => rfl⟩
  have HC : Hid (_ ∧ _ ∧ _ ∧ _ ∧ _) := ⟨C0, C1, C2, C3, C4⟩
  have k0 : ∀ j, j ≤ 3 → (ws6 A0 A1 A2 A3 A4 A5 A6 j).cell? ⟨W.heap.size, 0, none⟩ = some (.slice xo lo co) ∧ (ws6 A0 A1 A2 A3 A4 A5 A6 j).cell? ⟨W.heap.size, 1, none⟩ = some (.slice xn n1 cn) ∧ (ws6 A0 A1 A2 A3 A4 A5 A6 j).cell? ⟨W.heap.size, 2, none⟩ = some (.slice xs lss cs) := fun j hj => by
    match j, hj with
    | 0, _ => exact ⟨y0.cel rfl, y0.cel rfl, y0.cel rfl⟩
    | 1, _ => exact ⟨y1.cel rfl, y1.cel rfl, y1.cel rfl⟩
    | 2, _ => exact ⟨y2.cel rfl, y2.cel rfl, y2.cel rfl⟩
    | 3, _ => exact ⟨y3.cel rfl, y3.cel rfl, y3.cel rfl⟩
  have k1 : ∀ j, j ≤ 2 → (ws6 A7 A8 A9 A10 A11 A11 A11 j).cell? ⟨W.heap.size, 5, none⟩ = some (.slice xa la ca) ∧ (ws6 A7 A8 A9 A10 A11 A11 A11 j).cell? ⟨W.heap.size, 6, none⟩ = some (.slice xe le ce) := fun j hj => by
    match j, hj with
    | 0, _ => exact ⟨y7.cel rfl, y7.cel rfl⟩
    | 1, _ => exact ⟨y8.cel rfl, y8.cel rfl⟩
    | 2, _ => exact ⟨y9.cel rfl, y9.cel rfl⟩
  have HK : Hid (_ ∧ _) := ⟨k0, k1⟩
  have s0 := sS22 A3 a0 n0 d0 g3 (y3.cel (k := 0) rfl)
  have s1 := sS23 A4 a1 n1 d1 g4 (y4.cel (k := 1) rfl)
  have s2 := sS24 A5 a2 n2 d2 g5 (y5.cel (k := 2) rfl)
  have s3 := sS24 A9 a3 n3 d3 g9 (y9.cel (k := 5) rfl)
  have s4 := sS25 A10 a4 n4 d4 g10 (y10.cel (k := 6) rfl)
  rw [hA4] at s0
  rw [hA5] at s1
  rw [hA6] at s2
  rw [hA10] at s3
  rw [hA11] at s4
  have HT : Hid (_ ∧ _ ∧ _ ∧ _ ∧ _) := ⟨s0, s1, s2, s3, s4⟩
  have HR : Hid (us0.length = R.n.length ∧ (∀ (i : Nat) x u, R.n[i]? = some x → us0[i]? = some u → Ls W u 1 (x.2.map sR)) ∧ Sm R ∧ R.n.length = n1 ∧ R.sys = sys ∧ R.bld = bld) := ⟨hu1, hu3, hs, hln, hsys, hbld⟩
  have HB : Hid (B0.drew = A0 ∧ A6.drew = A7) := ⟨hA0, hA7⟩
  have HB0 : Hid (_ = B0) := hB0
  unfold rV zR at HB0
  unfold rV
  clear h hs lim x0 y0 y1 y2 y3 y4 y5 y6 y7 y8 y9 y10 y11 p0 p1 p2 p3 p4 bd b0 b1 b2 b3 b4 o0 o1 o2 o3 o4 C0 C1 C2 C3 C4 g3 g4 g5 g9 g10 hA0 hA4 hA5 hA6 hA7 hA10 hA11 hu1 hu2 hu3 zl hlo hls hla hle hsys hbld k0 k1 s0 s1 s2 s3 s4 hln hB0
  go_enter Tryd.func14, Tryd.ntmps14
  go_wp2_with fail
  rw [HB0.out]
  refine wp_region_vals (ops := reg1) (V := V1 W.heap.size (.slice xo lo co) (.slice xn n1 cn) (.slice xs lss cs) (.slice a0 n0 d0) (.slice a1 n1 d1) (.slice a2 n2 d2)) (S := Sq [2, 5, 8, 10, 12, 14] [1, 4, 7] 3 (ws6 A0 A1 A2 A3 A4 A5 A6)) (by kernel_rfl) (fun i o ho => (okR_at ok_reg1 ho).1) (fun i j o oj d ho hj q1 q2 => (okR_at ok_reg1 ho).2.2 j oj d hj q1 q2) (fun i o d ho q => (okR_at ok_reg1 ho).2.1 d q)
    (stepR1 _ W.heap.size (.slice xo lo co) (.slice xn n1 cn) (.slice xs lss cs) (.slice a0 n0 d0) (.slice a1 n1 d1) (.slice a2 n2 d2) _ _ rfl (fun i hi l Y h => h.mv i (by simp at hi; simp; omega))
      (fun l Y h _ hu hd => by
        obtain ⟨rfl, q⟩ := h.first (by decide) 2 rfl hu (by decide)
        exact HC.out.1.mono fun e w' ⟨q1, q2⟩ => ⟨q1, q2 ▸ q⟩)
      (fun l Y h _ hu hd => by
        obtain ⟨rfl, q⟩ := h.next (by decide) 0 5 2 rfl rfl hu (hd 2 (by kernel_rfl)) (fun e => by omega)
        exact HC.out.2.1.mono fun e w' ⟨q1, q2⟩ => ⟨q1, q2 ▸ q⟩)
      (fun l Y h _ hu hd => by
        obtain ⟨rfl, q⟩ := h.next (by decide) 1 8 5 rfl rfl hu (hd 5 (by kernel_rfl)) (fun e => by omega)
        exact HC.out.2.2.1.mono fun e w' ⟨q1, q2⟩ => ⟨q1, q2 ▸ q⟩)
      (fun l Y h _ hu hd => by
        obtain ⟨j, hj, -, rfl⟩ := h.early (i := 1) (by simp) hu
        exact ⟨_, lS22 _ (HK.out.1 j hj).1, h.mv 1 (by simp)⟩)
      (fun l Y h _ hu hd => by
        obtain ⟨j, hj, -, rfl⟩ := h.early (i := 4) (by simp) hu
        exact ⟨_, lS23 _ (HK.out.1 j hj).2.1, h.mv 4 (by simp)⟩)
      (fun l Y h _ hu hd => by
        obtain ⟨j, hj, -, rfl⟩ := h.early (i := 7) (by simp) hu
        exact ⟨_, lS24 _ (HK.out.1 j hj).2.2, h.mv 7 (by simp)⟩)
      (fun l Y h _ hu hd => by
        obtain ⟨rfl, q⟩ := h.next (by decide) 2 10 8 rfl rfl hu (hd 8 (by kernel_rfl)) (fun _ k hk => by simp at hk; rcases hk with rfl | rfl | rfl <;> exact dep_t (hd _ (by kernel_rfl)))
        exact ⟨_, HT.out.1, q⟩)
      (fun l Y h _ hu hd => by
        obtain ⟨rfl, q⟩ := h.next (by decide) 3 12 10 rfl rfl hu (hd 10 (by kernel_rfl)) (fun e => by omega)
        exact ⟨_, HT.out.2.1, q⟩)
      (fun l Y h _ hu hd => by
        obtain ⟨rfl, q⟩ := h.next (by decide) 4 14 12 rfl rfl hu (hd 12 (by kernel_rfl)) (fun e => by omega)
        exact ⟨_, HT.out.2.2.1, q⟩)) (by rw [show reg1.size = 15 from by kernel_rfl, HB.out.1]; exact Sq.start [2, 5, 8, 10, 12, 14] [1, 4, 7] 3 (ws6 A0 A1 A2 A3 A4 A5 A6) 15 (by decide)) (fun wE hE => ?_)
  rw [putR1]
  obtain rfl := hE.done
  simp only [V1]
  clear hE
  go_wp2_with fail
  refine wp_region_vals (ops := reg2) (V := V2 W.heap.size (.slice xa la ca) (.slice xe le ce) (.slice a3 n3 d3) (.slice a4 n4 d4)) (S := Sq [2, 5, 7, 9] [1, 4] 2 (ws6 A7 A8 A9 A10 A11 A11 A11)) (by kernel_rfl) (fun i o ho => (okR_at ok_reg2 ho).1) (fun i j o oj d ho hj q1 q2 => (okR_at ok_reg2 ho).2.2 j oj d hj q1 q2) (fun i o d ho q => (okR_at ok_reg2 ho).2.1 d q)
    (stepR2 _ W.heap.size (.slice xa la ca) (.slice xe le ce) (.slice a3 n3 d3) (.slice a4 n4 d4) _ _ rfl (fun i hi l Y h => h.mv i (by simp at hi; simp; omega))
      (fun l Y h _ hu hd => by
        obtain ⟨rfl, q⟩ := h.first (by decide) 2 rfl hu (by decide)
        exact HC.out.2.2.2.1.mono fun e w' ⟨q1, q2⟩ => ⟨q1, q2 ▸ q⟩)
      (fun l Y h _ hu hd => by
        obtain ⟨rfl, q⟩ := h.next (by decide) 0 5 2 rfl rfl hu (hd 2 (by kernel_rfl)) (fun e => by omega)
        exact HC.out.2.2.2.2.mono fun e w' ⟨q1, q2⟩ => ⟨q1, q2 ▸ q⟩)
      (fun l Y h _ hu hd => by
        obtain ⟨j, hj, -, rfl⟩ := h.early (i := 1) (by simp) hu
        exact ⟨_, lS24 _ (HK.out.2 j hj).1, h.mv 1 (by simp)⟩)
      (fun l Y h _ hu hd => by
        obtain ⟨j, hj, -, rfl⟩ := h.early (i := 4) (by simp) hu
        exact ⟨_, lS25 _ (HK.out.2 j hj).2, h.mv 4 (by simp)⟩)
      (fun l Y h _ hu hd => by
        obtain ⟨rfl, q⟩ := h.next (by decide) 1 7 5 rfl rfl hu (hd 5 (by kernel_rfl)) (fun _ k hk => by simp at hk; rcases hk with rfl | rfl <;> exact dep_t (hd _ (by kernel_rfl)))
        exact ⟨_, HT.out.2.2.2.1, q⟩)
      (fun l Y h _ hu hd => by
        obtain ⟨rfl, q⟩ := h.next (by decide) 2 9 7 rfl rfl hu (hd 7 (by kernel_rfl)) (fun e => by omega)
        exact ⟨_, HT.out.2.2.2.2, q⟩)) (by rw [show reg2.size = 10 from by kernel_rfl, HB.out.2]; exact Sq.start [2, 5, 7, 9] [1, 4] 2 (ws6 A7 A8 A9 A10 A11 A11 A11) 10 (by decide)) (fun wE hE => ?_)
  rw [putR2]
  obtain rfl := hE.done
  simp only [V2]
  clear hE HK HT HC
  have k1 : wE.cell? ⟨W.heap.size, 1, none⟩ = some (.slice a1 n1 d1) := HS.out.bx.cel (k := 1) rfl
  go_wp2_with fail
  clear k1
  obtain ⟨C1, hC1⟩ : ∃ C : Array Value, C = rV (.slice a0 n0 d0) (.slice a1 n1 d1) (.slice a2 n2 d2) sys bld (.slice a3 n3 d3) (.slice a4 n4 d4) := ⟨_, rfl⟩
  have HCC : Hid (C1 = rV (.slice a0 n0 d0) (.slice a1 n1 d1) (.slice a2 n2 d2) sys bld (.slice a3 n3 d3) (.slice a4 n4 d4)) := hC1
  rw [← hC1] at HS
  clear hC1
  go_loopw [3, 4, 28] (fun _ _ iv wr => ∃ (i : Nat) (us : List Value), iv = .int .i64 (i : Int) ∧ Hid (i ≤ n1 ∧ Cf W R us0 C1 (.slice a0 n0 d0) (.slice a1 n1 d1) (.slice a2 n2 d2) (.slice a3 n3 d3) (.slice a4 n4 d4) us i wr)) (fun _ _ iv _ => n1 + 1 - (intOf iv).toNat)
  case atStart => exact ⟨0, us0, rfl, Nat.zero_le _, HS.out⟩
  case round =>
    obtain ⟨i, us, rfl, HI⟩ := hrel
    by_cases hi : i < n1
    · obtain ⟨ile, cf⟩ := HI.out
      have hin : i < R.n.length := by have := HR.out.2.2.2.1; omega
      obtain ⟨x, hx⟩ : ∃ x, R.n[i]? = some x := ⟨_, List.getElem?_eq_getElem hin⟩
      obtain ⟨u, hu⟩ : ∃ u, us[i]? = some u := ⟨_, List.getElem?_eq_getElem (by have := cf.ul; omega)⟩
      have hu0 : us0[i]? = some u := (cf.rest i (Nat.le_refl _)).symm.trans hu
      obtain ⟨g, rfl⟩ := cf.fn.own (by omega)
      have hz : (List.zipWith nR R.n us)[i]? = some (nR x u) := by rw [List.getElem?_zipWith, hx, hu]
      obtain ⟨g', q', hgq, hg, r1⟩ := cf.fn.ls.at i _ hz
      injection hgq with hgq
      injection hgq with e1 e2
      subst e1 e2
      rw [Nat.zero_add] at r1
      have l1 := ld_I wr g (i * 2) _ rfl r1
      have hsx := HR.out.2.2.1.2.2.2.2.2 x (List.mem_of_getElem? hx)
      have lu := (HR.out.2.1 i x u hx hu0)
      obtain ⟨ou, cu, hul⟩ := lu.form
      obtain ⟨xl, hxl⟩ : ∃ k, (x.2.map sR).length = k := ⟨_, rfl⟩
      rw [hxl] at hul
      subst hul
      obtain ⟨X, hX⟩ : ∃ X, wr.alloc (.cells (nR x (.slice ou xl cu)) 45) = X := ⟨_, rfl⟩
      have bX : Below wr.heap.size wr X := by rw [← hX]; exact (Below.refl _ wr).alloc (Nat.le_refl _) _
      have rX : X.heap[wr.heap.size]? = some (.cells (nR x (.slice ou xl cu)) 45 (0, 0)) := by rw [← hX]; exact heap_alloc_new _ _
      have hXz : X.heap.size = wr.heap.size + 1 := by rw [← hX]; simp
      obtain ⟨Y0, hY0⟩ : ∃ Y, X.drew = Y := ⟨_, rfl⟩
      have bY0 : Below X.heap.size X Y0 := by rw [← hY0]; exact below_drw X
      have bw0 : Below wr.heap.size wr Y0 := bX.trans (bY0.mono bX.size)
      obtain ⟨a', n', d', Y1, CF, of, bf⟩ := fresDS Y0 (.slice ou xl cu) _ (lu.below (cf.bx.bel.trans (bw0.mono cf.bx.bel.size))) (by unfold MX; simp; omega)
      have bw1 : Below wr.heap.size wr Y1 := bw0.trans (bf.mono bw0.size)
      have cf1 := cf.below bw1
      have cf2 := cf.step bw1 hx hu (of.mono bw0.size) rfl
      have c0 := (cf.below bw0).bx.cel (k := 1) (v := .slice (some ⟨g, 0, none⟩) n1 d1) (by rw [HCC.out]; rfl)
      have c1' := cf1.bx.cel (k := 1) (v := .slice (some ⟨g, 0, none⟩) n1 d1) (by rw [HCC.out]; rfl)
      have c2 := cf2.bx.cel (k := 1) (v := .slice (some ⟨g, 0, none⟩) n1 d1) (by rw [HCC.out]; rfl)
      have rY0 : Y0.heap[wr.heap.size]? = some (.cells (nR x (.slice ou xl cu)) 45 (0, 0)) := (bY0.block _ (by omega)).trans rX
      have rY1 : Y1.heap[wr.heap.size]? = some (.cells (nR x (.slice ou xl cu)) 45 (0, 0)) := (bf.block _ (by have := bY0.size; omega)).trans rY0
      have sf := sS24 Y1 (g := g) (k := i * 2 + 1) a' n' d' (cf1.fn.fro _) (cf1.fn.cel i 1 _ _ hz rfl)
      obtain ⟨Y2, hY2⟩ : ∃ Y, Y1.setCell ⟨g, i * 2 + 1, none⟩ (.slice a' n' d') = Y := ⟨_, rfl⟩
      have rY2 : Y2.heap[wr.heap.size]? = some (.cells (nR x (.slice ou xl cu)) 45 (0, 0)) := by rw [← hY2]; exact (heap_setCell_other _ _ _ _ (by show wr.heap.size ≠ g; omega)).trans rY1
      rw [hY2] at cf2 c2 sf
      have HKL : Hid (∀ j, j ≤ 2 → (ws6 Y0 Y1 Y2 Y2 Y2 Y2 Y2 j).cell? ⟨W.heap.size, 1, none⟩ = some (.slice (some ⟨g, 0, none⟩) n1 d1) ∧ (ws6 Y0 Y1 Y2 Y2 Y2 Y2 Y2 j).cell? ⟨wr.heap.size, 1, none⟩ = some (.slice ou xl cu)) := fun j hj => by
        match j, hj with
        | 0, _ => exact ⟨c0, c1 rY0 rfl⟩
        | 1, _ => exact ⟨c1', c1 rY1 rfl⟩
        | 2, _ => exact ⟨c2, c1 rY2 rfl⟩
      have HCF : Hid (_ ∧ _ ∧ _) := ⟨CF, sf, hY0⟩
      have HF : Hid (i < n1 ∧ Cf W R us0 C1 (.slice a0 n0 d0) (.slice (some ⟨g, 0, none⟩) n1 d1) (.slice a2 n2 d2) (.slice a3 n3 d3) (.slice a4 n4 d4) (us.set i (.slice a' n' d')) (i + 1) Y2) := ⟨hi, cf2⟩
      have HX : Hid (_ = X) := hX
      have hi0 : (0 : Int) ≤ (i : Int) := by omega
      have hi1 : (i : Int) < (n1 : Int) := by omega
      have w1' : IntKind.i64.wrap ((i : Int) + 1) = (i : Int) + 1 := by rw [IntKind.wrap_i64]; have := HR.out.2.2.1.2.1; have := HR.out.2.2.2.1; omega
      obtain ⟨x1, x2⟩ := x
      unfold nR at l1 HX
      clear hi ile cf hin hx hu hu0 hz hg r1 hsx lu hxl bX rX hXz bY0 bw0 bw1 bf of CF cf1 cf2 c0 c1' c2 rY0 rY1 rY2 sf hX hY0 hY2
      go_wp2_with fail
      rw [HX.out]
      refine wp_region_vals (ops := reg6) (V := V6 W.heap.size wr.heap.size g n1 d1 i (.slice ou xl cu) (.slice a' n' d')) (S := Sq [5, 8] [] 9 (ws6 Y0 Y1 Y2 Y2 Y2 Y2 Y2)) (by kernel_rfl) (fun i o ho => (okR_at ok_reg6 ho).1) (fun i j o oj d ho hj q1 q2 => (okR_at ok_reg6 ho).2.2 j oj d hj q1 q2) (fun i o d ho q => (okR_at ok_reg6 ho).2.1 d q)
        (stepR6 _ W.heap.size wr.heap.size g n1 d1 i (.slice ou xl cu) (.slice a' n' d') _ _ rfl rfl rfl (fun i hi l Y h => h.mv i (by simp at hi; simp; omega))
          (fun l Y h _ hu hd => by
            obtain ⟨rfl, q⟩ := h.first (by decide) 5 rfl hu (by decide)
            exact HCF.out.1.mono fun e w' ⟨q1, q2⟩ => ⟨q1, q2 ▸ q⟩)
          (fun l Y h _ hu hd => by
            obtain ⟨j, hj, rfl⟩ := h.any
            exact ⟨_, lS23 _ (HKL.out j hj).1, h.mv 1 (by simp)⟩)
          (fun l Y h _ hu hd => by
            obtain ⟨j, hj, rfl⟩ := h.any
            exact ⟨_, lS24 _ (HKL.out j hj).2, h.mv 4 (by simp)⟩)
          (fun l Y h _ hu hd => by
            obtain ⟨rfl, q⟩ := h.next (by decide) 0 8 5 rfl rfl hu (hd 5 (by kernel_rfl)) (fun e => by omega)
            exact ⟨_, HCF.out.2.1, q⟩) hi0 hi1) (by rw [show reg6.size = 9 from by kernel_rfl, HCF.out.2.2]; exact Sq.start [5, 8] [] 9 (ws6 Y0 Y1 Y2 Y2 Y2 Y2 Y2) 9 (by decide)) (fun wE hE => ?_)
      rw [putR6]
      obtain rfl := hE.done
      simp only [V6]
      clear hE
      go_wp2_with fail
      go_roundw
      case rel => exact ⟨i + 1, _, by go_num, HF.out.1, HF.out.2⟩
      case measure => have := HF.out.1; simp [intOf]; omega
    · obtain ⟨ile, cf⟩ := HI.out
      have hil : R.n.length = i := by have := HR.out.2.2.2.1; omega
      have bx := cf.bx
      rw [HCC.out] at bx
      have ldR' := ld_R wr W.heap.size _ rfl bx.r0
      have stR' := st_R wr (W.heap.size + 1) _ (rV (.slice a0 n0 d0) (.slice a1 n1 d1) (.slice a2 n2 d2) sys bld (.slice a3 n3 d3) (.slice a4 n4 d4)) rfl rfl (by simp [rV, Value.oneCell']) bx.r1
      obtain ⟨B6, hB6⟩ : ∃ B, wr.setRow (W.heap.size + 1) (rV (.slice a0 n0 d0) (.slice a1 n1 d1) (.slice a2 n2 d2) sys bld (.slice a3 n3 d3) (.slice a4 n4 d4)) = B := ⟨_, rfl⟩
      have HR6 : Hid (B6.heap[W.heap.size + 1]? = some (.cells (rV (.slice a0 n0 d0) (.slice a1 n1 d1) (.slice a2 n2 d2) sys bld (.slice a3 n3 d3) (.slice a4 n4 d4)) 33 (0, 0))) := by
        show B6.heap[W.heap.size + 1]? = _
        rw [← hB6]
        exact setRow_heap _ _ _ _ _ _ bx.r1
      have HF : Hid (Tw W.heap.size B6 (.slice a0 n0 d0) (.slice a1 n1 d1) (.slice a2 n2 d2) (.slice a3 n3 d3) (.slice a4 n4 d4) us R ∧ Below W.heap.size W B6) := by
        rw [← hB6]
        refine ⟨⟨cf.fo.row bx.r1 (by decide), cf.fn.row bx.r1 (by decide), cf.fs.row bx.r1 (by decide), cf.fa.row bx.r1 (by decide), cf.fe.row bx.r1 (by decide), cf.ul, fun j x u z1 z2 => ?_⟩, below_setRow bx.bel (by omega) _⟩
        exact (cf.done j x u (by have := (List.getElem?_eq_some_iff.1 z1).1; omega) z1 z2).row bx.r1 (by decide)
      unfold rV at ldR' stR' hB6
      have hi2 : ¬ ((i : Int) < (n1 : Int)) := by omega
      clear hi ile cf hil bx
      go_wp2_with fail
      refine bodyPost_ret (results_R rfl _ _ (W.heap.size + 1) _ rfl rfl HR6.out) rfl ?_
      exact ⟨_, _, _, _, _, rfl, ⟨us, HF.out.1⟩, HF.out.2⟩
end
end Go.Proofs.YtceclpabdfncoaaDoor.Re
