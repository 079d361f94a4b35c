/- RecipeSwaps: the drawn region of the law's swapped, by what holds of its values together. Made by a program. -/
import Derived.Test.YtcggaiplepekdaaRcV
namespace Go.Proofs.Ytcggaiplepekdaa
open Go.RowKit
noncomputable def regS : Array Oper := ((Try.f8.body.bind (findR 3)).getD #[])
theorem ok_regS : okR regS 86 = true := by kernel_rfl
def Kd (rb : Nat) (r now xv fv xl yv tv yl : Value) (nf nt : Nat) (E : Int) : Nat → Option Value
  | 0 => some (.pointer (some ⟨rb, 0, none⟩))
  | 1 => some r
  | 2 => some now
  | 3 => some xv
  | 4 => some fv
  | 5 => some (.int .i64 (nf : Int))
  | 6 => some xl
  | 7 => some yv
  | 8 => some tv
  | 9 => some (.int .i64 (nt : Int))
  | 10 => some yl
  | 14 => some (.int .i64 E)
  | 17 => some (.int .i64 E)
  | _ => none
structure Js (A : World) (kc : Nat → Option Value) (Q : Rcp) (E : Int) (l : Array Bool) (X : Nat → Value) (w : World) : Prop where
  bel : Below A.heap.size A w
  kc : ∀ j v, kc j = some v → l.getD j true = true → X j = v
  t7 : l.getD 11 true = true → IsT A Q E w (X 11)
  t8 : l.getD 12 true = true → IsT A Q E w (X 12)
  t9 : l.getD 13 true = true → IsR A Q w (X 13)
  al : l.getD 15 true = true → ∃ g, X 15 = .pointer (some ⟨g, 0, none⟩) ∧ A.heap.size ≤ g ∧ (l.getD 16 true = false → w.heap[g]? = some (.cells zR 27 (0, 0))) ∧ (l.getD 16 true = true → ∃ C, w.heap[g]? = some (.cells C 27 (0, 0)) ∧ IsR A Q w (.agg C))
  st : l.getD 16 true = true → l.getD 15 true = true
/-- A value is added; the world grows. -/
theorem Js.grow {A : World} {kc : Nat → Option Value} {Q : Rcp} {E : Int} {l : Array Bool} {X : Nat → Value} {w w' : World} (h : Js A kc Q E l X w) (hb : Below w.heap.size w w') (i : Nat) (v : Value) (hi : i ≠ 16) (hk : ∀ u, kc i = some u → v = u) (h7 : i = 11 → IsT A Q E w' v) (h8 : i = 12 → IsT A Q E w' v) (h9 : i = 13 → IsR A Q w' v) (h11 : i = 15 → ∃ g, v = .pointer (some ⟨g, 0, none⟩) ∧ A.heap.size ≤ g ∧ w'.heap[g]? = some (.cells zR 27 (0, 0)) ∧ l.getD 16 true = false) : Js A kc Q E (l.setIfInBounds i true) (upd X i v) w' := by
  refine ⟨h.bel.trans (hb.mono h.bel.size), fun j u hj hl => ?_, fun hl => ?_, fun hl => ?_, fun hl => ?_, fun hl => ?_, fun hl => ?_⟩
  · by_cases e : j = i
    · subst e; rw [upd_same]; exact hk u hj
    · rw [upd_ne X v e]; rw [getD_set_ne l i j (fun q => e q.symm)] at hl; exact h.kc j u hj hl
  · by_cases e : (11 : Nat) = i
    · subst e; rw [upd_same]; exact h7 rfl
    · rw [upd_ne X v e]; rw [getD_set_ne l i 11 (fun q => e q.symm)] at hl; exact (h.t7 hl).keep (keep_of hb)
  · by_cases e : (12 : Nat) = i
    · subst e; rw [upd_same]; exact h8 rfl
    · rw [upd_ne X v e]; rw [getD_set_ne l i 12 (fun q => e q.symm)] at hl; exact (h.t8 hl).keep (keep_of hb)
  · by_cases e : (13 : Nat) = i
    · subst e; rw [upd_same]; exact h9 rfl
    · rw [upd_ne X v e]; rw [getD_set_ne l i 13 (fun q => e q.symm)] at hl; exact (h.t9 hl).keep (keep_of hb)
  · rw [getD_set_ne l i 16 hi]
    by_cases e : (15 : Nat) = i
    · subst e
      rw [upd_same]
      obtain ⟨g, q1, q2, q3, q4⟩ := h11 rfl
      exact ⟨g, q1, q2, fun _ => q3, fun z => by rw [q4] at z; cases z⟩
    · rw [upd_ne X v e]
      rw [getD_set_ne l i 15 (fun q => e q.symm)] at hl
      obtain ⟨g, q1, q2, q3, q4⟩ := h.al hl
      refine ⟨g, q1, q2, fun z => ?_, fun z => ?_⟩
      · exact (hb.block g (Array.getElem?_eq_some_iff.1 (q3 z)).1).trans (q3 z)
      · obtain ⟨C, z1, z2⟩ := q4 z
        exact ⟨C, (hb.block g (Array.getElem?_eq_some_iff.1 z1).1).trans z1, z2.keep (keep_of hb)⟩
  · rw [getD_set_ne l i 16 hi] at hl
    exact getD_set_mono _ _ _ (h.st hl)
theorem Js.store {A : World} {kc : Nat → Option Value} {Q : Rcp} {E : Int} {l : Array Bool} {X : Nat → Value} {w : World} (h : Js A kc Q E l X w) (hkc : kc 16 = none) (h9 : l.getD 13 true = true) (h11 : l.getD 15 true = true) (h12 : l.getD 16 true = false) : ∃ g C, X 15 = .pointer (some ⟨g, 0, none⟩) ∧ X 13 = .agg C ∧ (stR (.pointer (some ⟨g, 0, none⟩)) (.agg C)).run Try.prog w = .ok () (w.setRow g C) ∧ Js A kc Q E (l.setIfInBounds 16 true) (upd X 16 undef) (w.setRow g C) := by
  obtain ⟨g, q1, q2, q3, -⟩ := h.al h11
  obtain ⟨o, n, s, a, e, us, z1, z2⟩ := h.t9 h9
  have hg := q3 h12
  have kp : ∀ (b : Nat) C (t : Nat), w.heap[b]? = some (.cells C t (0, 0)) → t ≠ 27 → (w.setRow g (rV o n s Q.sys Q.bld a e)).heap[b]? = w.heap[b]? := fun b C t hb ht => setRow_other _ _ _ _ (tag_ne hb hg ht)
  refine ⟨g, _, q1, z1, st_R w g zR _ rfl rfl (z2.one _ _) hg, below_setRow h.bel q2 _, fun j u hj hl => ?_, fun hl => ?_, fun hl => ?_, fun hl => ?_, fun hl => ?_, fun hl => getD_set_mono _ _ _ h11⟩
  · have e : j ≠ 16 := fun q => by subst q; rw [hkc] at hj; cases hj
    rw [upd_ne X undef e]; rw [getD_set_ne l 16 j (fun q => e q.symm)] at hl; exact h.kc j u hj hl
  · rw [upd_ne X undef (by decide)]; rw [getD_set_ne l 16 11 (by decide)] at hl; exact (h.t7 hl).keep kp
  · rw [upd_ne X undef (by decide)]; rw [getD_set_ne l 16 12 (by decide)] at hl; exact (h.t8 hl).keep kp
  · rw [upd_ne X undef (by decide)]; rw [getD_set_ne l 16 13 (by decide)] at hl; exact (h.t9 hl).keep kp
  · rw [upd_ne X undef (by decide), getD_set_eq]
    exact ⟨g, q1, q2, fun z => (by cases z), fun _ => ⟨_, setRow_heap _ _ _ _ _ _ hg, o, n, s, a, e, us, rfl, z2.rows kp⟩⟩
set_option maxRecDepth 100000 in
set_option maxHeartbeats 1000000 in
theorem stepS (a0 : Act) (A : World) (rb yb nf nt xn xc fc yn yc tc : Nat) (xa fa ya ta : Option Addr) (r now : Array Value) (Q : Rcp) (E : Int) (Qe : Exit → Act → World → Prop)
    (h0 : a0.tmps[0]? = some (.pointer (some ⟨rb, 0, none⟩))) (h2 : a0.tmps[2]? = some (.slice fa nf fc)) (h3 : a0.tmps[3]? = some (.slice ta nt tc)) (h5 : a0.tmps[5]? = some (.pointer (some ⟨yb, 0, none⟩))) (h9 : a0.tmps[9]? = some (.slice xa xn xc)) (h10 : a0.tmps[10]? = some (.slice ya yn yc))
    (hin : ∀ Y, Below A.heap.size A Y → Calls Try.prog 11 #[.pointer (some ⟨rb, 0, none⟩), .agg r] Y fun en w' => en = .returned (.agg now) ∧ Below Y.heap.size Y w')
    (hsw : ∀ Y, Below A.heap.size A Y → Calls Try.prog 18 #[.agg now, .slice xa nf xc, .slice ya nt yc] Y (GiE Y Q E))
    (hld : ∀ Y, Below A.heap.size A Y → (Instr.loadAt 27 (.pointer (some ⟨yb, 0, none⟩))).run Try.prog Y = .ok (.agg r) Y)
    (hsl : ∀ Y, (Instr.sliceAt 24 (.slice xa xn xc) none (some (.int .i64 (nf : Int))) none).run Try.prog Y = .ok (.slice xa nf xc) Y)
    (hsm : ∀ Y, (Instr.sliceAt 24 (.slice ya yn yc) none (some (.int .i64 (nt : Int))) none).run Try.prog Y = .ok (.slice ya nt yc) Y)
    (i : Nat) (o : Oper) (a : Act) (w : World) (listed : Array Bool) (X : Nat → Value) (ho : regS[i]? = some o) (hF : RFr regS a0 X listed a) (hS : Js A (Kd rb (.agg r) (.agg now) (.slice xa xn xc) (.slice fa nf fc) (.slice xa nf xc) (.slice ya yn yc) (.slice ta nt tc) (.slice ya nt yc) nf nt E) Q E listed X w) (_ : listed.size = regS.size) (hun : listed.getD i true = false) (hdep : ∀ e ∈ o.after, Region.binds .any e = true → listed.getD e.on false = true) :
      if Region.wanted o (yielded regS a.tmps) = true then Oper.wp Try.prog o a w (Po (Js A (Kd rb (.agg r) (.agg now) (.slice xa xn xc) (.slice fa nf fc) (.slice xa nf xc) (.slice ya yn yc) (.slice ta nt tc) (.slice ya nt yc) nf nt E) Q E) a o.dst listed X i) Qe else Js A (Kd rb (.agg r) (.agg now) (.slice xa xn xc) (.slice fa nf fc) (.slice xa nf xc) (.slice ya yn yc) (.slice ta nt tc) (.slice ya nt yc) nf nt E) Q E (listed.setIfInBounds i true) (upd X i undef) w := by
  match i, ho with
  | 0, ho =>
    rw [if_pos (want_none (fact ho (by kernel_rfl)))]
    have hop : o.op = .move (.tmp 0) := fact ho (by kernel_rfl)
    have hds : o.dst = some 20 := fact ho (by kernel_rfl)
    have t0 := tm_old hF 0 _ h0 (by kernel_rfl)
    unfold Oper.wp
    simp [execOp, hop, hds, t0, go_sem]
    exact ⟨_, rfl, hS.grow (Below.refl _ _) 0 _ (by decide) (fun u hu => by cases hu; rfl) (fun q => by omega) (fun q => by omega) (fun q => by omega) (fun q => by omega)⟩
  | 1, ho =>
    rw [if_pos (want_none (fact ho (by kernel_rfl)))]
    have hop : o.op = .load 27 (.tmp 5) := fact ho (by kernel_rfl)
    have hds : o.dst = some 21 := fact ho (by kernel_rfl)
    have t5 := tm_old hF 5 _ h5 (by kernel_rfl)
    unfold Oper.wp
    simp [execOp, hop, hds, t5, Act.eval, hld w hS.bel, Oper.upon]
    exact ⟨_, rfl, hS.grow (Below.refl _ _) 1 _ (by decide) (fun u hu => by cases hu; rfl) (fun q => by omega) (fun q => by omega) (fun q => by omega) (fun q => by omega)⟩
  | 2, ho =>
    rw [if_pos (want_none (fact ho (by kernel_rfl)))]
    have hop : o.op = .call { callee := .value (.func 11), args := #[.tmp 20, .tmp 21], argTypes := #[33, 27] } := fact ho (by kernel_rfl)
    have hds : o.dst = some 22 := fact ho (by kernel_rfl)
    have t20 := tm_dep hF 0 20 (by kernel_rfl) (dep_of ho hdep 0 (by kernel_rfl))
    rw [hS.kc 0 _ rfl (dep_t (dep_of ho hdep 0 (by kernel_rfl)))] at t20
    have t21 := tm_dep hF 1 21 (by kernel_rfl) (dep_of ho hdep 1 (by kernel_rfl))
    rw [hS.kc 1 _ rfl (dep_t (dep_of ho hdep 1 (by kernel_rfl)))] at t21
    unfold Oper.wp
    simp [execOp, hop, hds, t20, t21, go_sem]
    refine (hin w hS.bel).mono ?_
    rintro e w' ⟨rfl, hb⟩
    exact ⟨_, rfl, hS.grow hb 2 _ (by decide) (fun u hu => by cases hu; rfl) (fun q => by omega) (fun q => by omega) (fun q => by omega) (fun q => by omega)⟩
  | 3, ho =>
    rw [if_pos (want_none (fact ho (by kernel_rfl)))]
    have hop : o.op = .move (.tmp 9) := fact ho (by kernel_rfl)
    have hds : o.dst = some 23 := fact ho (by kernel_rfl)
    have t9 := tm_old hF 9 _ h9 (by kernel_rfl)
    unfold Oper.wp
    simp [execOp, hop, hds, t9, go_sem]
    exact ⟨_, rfl, hS.grow (Below.refl _ _) 3 _ (by decide) (fun u hu => by cases hu; rfl) (fun q => by omega) (fun q => by omega) (fun q => by omega) (fun q => by omega)⟩
  | 4, ho =>
    rw [if_pos (want_none (fact ho (by kernel_rfl)))]
    have hop : o.op = .move (.tmp 2) := fact ho (by kernel_rfl)
    have hds : o.dst = some 24 := fact ho (by kernel_rfl)
    have t2 := tm_old hF 2 _ h2 (by kernel_rfl)
    unfold Oper.wp
    simp [execOp, hop, hds, t2, go_sem]
    exact ⟨_, rfl, hS.grow (Below.refl _ _) 4 _ (by decide) (fun u hu => by cases hu; rfl) (fun q => by omega) (fun q => by omega) (fun q => by omega) (fun q => by omega)⟩
  | 5, ho =>
    rw [if_pos (want_none (fact ho (by kernel_rfl)))]
    have hop : o.op = .call { callee := .builtin .len, args := #[.tmp 24], argTypes := #[24] } := fact ho (by kernel_rfl)
    have hds : o.dst = some 25 := fact ho (by kernel_rfl)
    have t24 := tm_dep hF 4 24 (by kernel_rfl) (dep_of ho hdep 4 (by kernel_rfl))
    rw [hS.kc 4 _ rfl (dep_t (dep_of ho hdep 4 (by kernel_rfl)))] at t24
    unfold Oper.wp
    simp [execOp, hop, hds, t24, go_sem]
    exact ⟨_, rfl, hS.grow (Below.refl _ _) 5 _ (by decide) (fun u hu => by cases hu; rfl) (fun q => by omega) (fun q => by omega) (fun q => by omega) (fun q => by omega)⟩
  | 6, ho =>
    rw [if_pos (want_none (fact ho (by kernel_rfl)))]
    have hop : o.op = .slice 24 (.tmp 23) none (some (.tmp 25)) none := fact ho (by kernel_rfl)
    have hds : o.dst = some 26 := fact ho (by kernel_rfl)
    have t23 := tm_dep hF 3 23 (by kernel_rfl) (dep_of ho hdep 3 (by kernel_rfl))
    rw [hS.kc 3 _ rfl (dep_t (dep_of ho hdep 3 (by kernel_rfl)))] at t23
    have t25 := tm_dep hF 5 25 (by kernel_rfl) (dep_of ho hdep 5 (by kernel_rfl))
    rw [hS.kc 5 _ rfl (dep_t (dep_of ho hdep 5 (by kernel_rfl)))] at t25
    unfold Oper.wp
    simp [execOp, hop, hds, t23, t25, Act.eval, hsl, Oper.upon]
    exact ⟨_, rfl, hS.grow (Below.refl _ _) 6 _ (by decide) (fun u hu => by cases hu; rfl) (fun q => by omega) (fun q => by omega) (fun q => by omega) (fun q => by omega)⟩
  | 7, ho =>
    rw [if_pos (want_none (fact ho (by kernel_rfl)))]
    have hop : o.op = .move (.tmp 10) := fact ho (by kernel_rfl)
    have hds : o.dst = some 27 := fact ho (by kernel_rfl)
    have t10 := tm_old hF 10 _ h10 (by kernel_rfl)
    unfold Oper.wp
    simp [execOp, hop, hds, t10, go_sem]
    exact ⟨_, rfl, hS.grow (Below.refl _ _) 7 _ (by decide) (fun u hu => by cases hu; rfl) (fun q => by omega) (fun q => by omega) (fun q => by omega) (fun q => by omega)⟩
  | 8, ho =>
    rw [if_pos (want_none (fact ho (by kernel_rfl)))]
    have hop : o.op = .move (.tmp 3) := fact ho (by kernel_rfl)
    have hds : o.dst = some 28 := fact ho (by kernel_rfl)
    have t3 := tm_old hF 3 _ h3 (by kernel_rfl)
    unfold Oper.wp
    simp [execOp, hop, hds, t3, go_sem]
    exact ⟨_, rfl, hS.grow (Below.refl _ _) 8 _ (by decide) (fun u hu => by cases hu; rfl) (fun q => by omega) (fun q => by omega) (fun q => by omega) (fun q => by omega)⟩
  | 9, ho =>
    rw [if_pos (want_none (fact ho (by kernel_rfl)))]
    have hop : o.op = .call { callee := .builtin .len, args := #[.tmp 28], argTypes := #[24] } := fact ho (by kernel_rfl)
    have hds : o.dst = some 29 := fact ho (by kernel_rfl)
    have t28 := tm_dep hF 8 28 (by kernel_rfl) (dep_of ho hdep 8 (by kernel_rfl))
    rw [hS.kc 8 _ rfl (dep_t (dep_of ho hdep 8 (by kernel_rfl)))] at t28
    unfold Oper.wp
    simp [execOp, hop, hds, t28, go_sem]
    exact ⟨_, rfl, hS.grow (Below.refl _ _) 9 _ (by decide) (fun u hu => by cases hu; rfl) (fun q => by omega) (fun q => by omega) (fun q => by omega) (fun q => by omega)⟩
  | 10, ho =>
    rw [if_pos (want_none (fact ho (by kernel_rfl)))]
    have hop : o.op = .slice 24 (.tmp 27) none (some (.tmp 29)) none := fact ho (by kernel_rfl)
    have hds : o.dst = some 30 := fact ho (by kernel_rfl)
    have t27 := tm_dep hF 7 27 (by kernel_rfl) (dep_of ho hdep 7 (by kernel_rfl))
    rw [hS.kc 7 _ rfl (dep_t (dep_of ho hdep 7 (by kernel_rfl)))] at t27
    have t29 := tm_dep hF 9 29 (by kernel_rfl) (dep_of ho hdep 9 (by kernel_rfl))
    rw [hS.kc 9 _ rfl (dep_t (dep_of ho hdep 9 (by kernel_rfl)))] at t29
    unfold Oper.wp
    simp [execOp, hop, hds, t27, t29, Act.eval, hsm, Oper.upon]
    exact ⟨_, rfl, hS.grow (Below.refl _ _) 10 _ (by decide) (fun u hu => by cases hu; rfl) (fun q => by omega) (fun q => by omega) (fun q => by omega) (fun q => by omega)⟩
  | 11, ho =>
    rw [if_pos (want_none (fact ho (by kernel_rfl)))]
    have hop : o.op = .call { callee := .value (.func 18), args := #[.tmp 22, .tmp 26, .tmp 30], argTypes := #[27, 24, 24] } := fact ho (by kernel_rfl)
    have hds : o.dst = some 31 := fact ho (by kernel_rfl)
    have t22 := tm_dep hF 2 22 (by kernel_rfl) (dep_of ho hdep 2 (by kernel_rfl))
    rw [hS.kc 2 _ rfl (dep_t (dep_of ho hdep 2 (by kernel_rfl)))] at t22
    have t26 := tm_dep hF 6 26 (by kernel_rfl) (dep_of ho hdep 6 (by kernel_rfl))
    rw [hS.kc 6 _ rfl (dep_t (dep_of ho hdep 6 (by kernel_rfl)))] at t26
    have t30 := tm_dep hF 10 30 (by kernel_rfl) (dep_of ho hdep 10 (by kernel_rfl))
    rw [hS.kc 10 _ rfl (dep_t (dep_of ho hdep 10 (by kernel_rfl)))] at t30
    unfold Oper.wp
    simp [execOp, hop, hds, t22, t26, t30, go_sem]
    refine (hsw w hS.bel).mono ?_
    rintro e w' ⟨qo, qn, qs, qa, qe, qu, rfl, htw, hb⟩
    exact ⟨_, rfl, hS.grow hb 11 _ (by decide) (fun u hu => by cases hu) (fun _ => ⟨qo, qn, qs, qa, qe, qu, rfl, htw.mono hS.bel.size⟩) (fun q => by omega) (fun q => by omega) (fun q => by omega)⟩
  | 12, ho =>
    rw [if_pos (want_none (fact ho (by kernel_rfl)))]
    have hop : o.op = .move (.tmp 31) := fact ho (by kernel_rfl)
    have hds : o.dst = some 19 := fact ho (by kernel_rfl)
    have t31 := tm_dep hF 11 31 (by kernel_rfl) (dep_of ho hdep 11 (by kernel_rfl))
    obtain ⟨qo, qn, qs, qa, qe, qu, hq, htw⟩ := hS.t7 (dep_t (dep_of ho hdep 11 (by kernel_rfl)))
    rw [hq] at t31
    unfold Oper.wp
    simp [execOp, hop, hds, t31, go_sem]
    exact ⟨_, rfl, hS.grow (Below.refl _ _) 12 _ (by decide) (fun u hu => by cases hu) (fun q => by omega) (fun _ => ⟨qo, qn, qs, qa, qe, qu, rfl, htw⟩) (fun q => by omega) (fun q => by omega)⟩
  | 13, ho =>
    rw [if_pos (want_none (fact ho (by kernel_rfl)))]
    have hop : o.op = .extract (.tmp 19) 0 := fact ho (by kernel_rfl)
    have hds : o.dst = some 32 := fact ho (by kernel_rfl)
    have t19 := tm_dep hF 12 19 (by kernel_rfl) (dep_of ho hdep 12 (by kernel_rfl))
    obtain ⟨qo, qn, qs, qa, qe, qu, hq, htw⟩ := hS.t8 (dep_t (dep_of ho hdep 12 (by kernel_rfl)))
    rw [hq] at t19
    unfold Oper.wp
    simp [execOp, hop, hds, t19, go_sem]
    exact ⟨_, rfl, hS.grow (Below.refl _ _) 13 _ (by decide) (fun u hu => by cases hu) (fun q => by omega) (fun q => by omega) (fun _ => ⟨qo, qn, qs, qa, qe, qu, rfl, htw⟩) (fun q => by omega)⟩
  | 14, ho =>
    rw [if_pos (want_none (fact ho (by kernel_rfl)))]
    have hop : o.op = .extract (.tmp 19) 1 := fact ho (by kernel_rfl)
    have hds : o.dst = some 33 := fact ho (by kernel_rfl)
    have t19 := tm_dep hF 12 19 (by kernel_rfl) (dep_of ho hdep 12 (by kernel_rfl))
    obtain ⟨qo, qn, qs, qa, qe, qu, hq, htw⟩ := hS.t8 (dep_t (dep_of ho hdep 12 (by kernel_rfl)))
    rw [hq] at t19
    unfold Oper.wp
    simp [execOp, hop, hds, t19, go_sem]
    exact ⟨_, rfl, hS.grow (Below.refl _ _) 14 _ (by decide) (fun u hu => by cases hu; rfl) (fun q => by omega) (fun q => by omega) (fun q => by omega) (fun q => by omega)⟩
  | 15, ho =>
    rw [if_pos (want_none (fact ho (by kernel_rfl)))]
    have hop : o.op = .alloc 27 := fact ho (by kernel_rfl)
    have hds : o.dst = some 11 := fact ho (by kernel_rfl)
    have h16 : listed.getD 16 true = false := by
      cases hq : listed.getD 16 true with
      | false => rfl
      | true => rw [hS.st hq] at hun; cases hun
    unfold Oper.wp
    simp [execOp, hop, hds, Oper.upon]
    exact ⟨_, rfl, hS.grow (below_al w _) 15 _ (by decide) (fun u hu => by cases hu) (fun q => by omega) (fun q => by omega) (fun q => by omega) (fun _ => ⟨_, rfl, hS.bel.size, heap_alloc_new _ _, h16⟩)⟩
  | 16, ho =>
    rw [if_pos (want_none (fact ho (by kernel_rfl)))]
    have hop : o.op = .store 27 (.tmp 11) (.tmp 32) := fact ho (by kernel_rfl)
    have hds : o.dst = none := fact ho (by kernel_rfl)
    have t11 := tm_dep hF 15 11 (by kernel_rfl) (dep_of ho hdep 15 (by kernel_rfl))
    have t32 := tm_dep hF 13 32 (by kernel_rfl) (dep_of ho hdep 13 (by kernel_rfl))
    obtain ⟨g, C, q1, q2, q3, q4⟩ := hS.store rfl (dep_t (dep_of ho hdep 13 (by kernel_rfl))) (dep_t (dep_of ho hdep 15 (by kernel_rfl))) hun
    rw [q1] at t11
    rw [q2] at t32
    unfold stR at q3
    unfold Oper.wp
    simp [execOp, hop, hds, t11, t32, Act.eval, q3, Oper.upon]
    exact ⟨_, rfl, q4⟩
  | 17, ho =>
    rw [if_pos (want_none (fact ho (by kernel_rfl)))]
    have hop : o.op = .assign (.tmp 33) := fact ho (by kernel_rfl)
    have hds : o.dst = some 12 := fact ho (by kernel_rfl)
    have t33 := tm_dep hF 14 33 (by kernel_rfl) (dep_of ho hdep 14 (by kernel_rfl))
    rw [hS.kc 14 _ rfl (dep_t (dep_of ho hdep 14 (by kernel_rfl)))] at t33
    unfold Oper.wp
    simp [execOp, hop, hds, t33, go_sem]
    exact ⟨_, rfl, hS.grow (Below.refl _ _) 17 _ (by decide) (fun u hu => by cases hu; rfl) (fun q => by omega) (fun q => by omega) (fun q => by omega) (fun q => by omega)⟩
  | n + 18, ho =>
    exfalso
    have h1 : n + 18 < regS.size := (Array.getElem?_eq_some_iff.1 ho).1
    rw [show regS.size = 18 from by kernel_rfl] at h1
    omega
set_option maxRecDepth 100000 in
theorem putS (X : Nat → Value) (v0 v1 v2 v3 v4 v5 v6 v7 v8 v9 v10 v11 v12 v13 v14 v15 v16 v17 v18 v19 v20 v21 v22 v23 v24 v25 v26 v27 v28 v29 v30 v31 v32 v33 v34 v35 v36 v37 v38 v39 v40 v41 v42 v43 v44 v45 v46 v47 v48 v49 v50 v51 v52 v53 v54 v55 v56 v57 v58 v59 v60 v61 v62 v63 v64 v65 v66 v67 v68 v69 v70 v71 v72 v73 v74 v75 v76 v77 v78 v79 v80 v81 v82 v83 v84 v85 : Value) : putN regS X ⟨#[v0, v1, v2, v3, v4, v5, v6, v7, v8, v9, v10, v11, v12, v13, v14, v15, v16, v17, v18, v19, v20, v21, v22, v23, v24, v25, v26, v27, v28, v29, v30, v31, v32, v33, v34, v35, v36, v37, v38, v39, v40, v41, v42, v43, v44, v45, v46, v47, v48, v49, v50, v51, v52, v53, v54, v55, v56, v57, v58, v59, v60, v61, v62, v63, v64, v65, v66, v67, v68, v69, v70, v71, v72, v73, v74, v75, v76, v77, v78, v79, v80, v81, v82, v83, v84, v85], []⟩ regS.size = ⟨#[v0, v1, v2, v3, v4, v5, v6, v7, v8, v9, v10, X 15, X 17, v13, v14, v15, v16, v17, v18, X 12, X 0, X 1, X 2, X 3, X 4, X 5, X 6, X 7, X 8, X 9, X 10, X 11, X 13, X 14, v34, v35, v36, v37, v38, v39, v40, v41, v42, v43, v44, v45, v46, v47, v48, v49, v50, v51, v52, v53, v54, v55, v56, v57, v58, v59, v60, v61, v62, v63, v64, v65, v66, v67, v68, v69, v70, v71, v72, v73, v74, v75, v76, v77, v78, v79, v80, v81, v82, v83, v84, v85], []⟩ := by kernel_rfl
theorem js_start (A : World) (kc : Nat → Option Value) (Q : Rcp) (E : Int) (hk : ∀ n, kc (n + 18) = none) : Js A kc Q E (Array.replicate regS.size false) (fun _ => undef) A := by
  rw [show regS.size = 18 from by kernel_rfl]
  refine ⟨Below.refl _ _, fun j v hj hl => ?_, fun h => (by cases h), fun h => (by cases h), fun h => (by cases h), fun h => (by cases h), fun h => (by cases h)⟩
  rcases Nat.lt_or_ge j 18 with q | q
  · rw [Array.getD_eq_getD_getElem?, Array.getElem?_replicate, if_pos q] at hl
    cases hl
  · obtain ⟨n, rfl⟩ : ∃ n, j = n + 18 := ⟨j - 18, by omega⟩
    rw [hk n] at hj
    cases hj
end Go.Proofs.Ytcggaiplepekdaa
