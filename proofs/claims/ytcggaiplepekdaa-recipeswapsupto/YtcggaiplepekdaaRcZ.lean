/- Recipes: the drawn region of blanked, by what holds of its values together. Made by a program. -/
import Derived.Test.YtcggaiplepekdaaRcJ
import Derived.Test.YtcggaiplepekdaaRcT
import Derived.Test.YtcggaiplepekdaaRcF
namespace Go.Proofs.Ytcggaiplepekdaa
open Go.RowKit
noncomputable def regB : Array Oper := ((Try.f6.body.bind (findR 4)).getD #[])
theorem ok_regB : okR regB 73 = true := by kernel_rfl
def Kc (rb : Nat) (r now fv lv fl : Value) (ll : Nat) (E : Int) : Nat → Option Value
  | 0 => some (.pointer (some ⟨rb, 0, none⟩))
  | 1 => some r
  | 2 => some now
  | 3 => some fv
  | 4 => some lv
  | 5 => some (.int .i64 (ll : Int))
  | 6 => some fl
  | 10 => some (.int .i64 E)
  | 13 => some (.int .i64 E)
  | _ => none
def IsT (A : World) (Q : Rcp) (E : Int) (w : World) (v : Value) : Prop := ∃ o n s a e us, v = .tuple #[.agg (rV o n s Q.sys Q.bld a e), .int .i64 E] ∧ Tw A.heap.size w o n s a e us Q
def IsR (A : World) (Q : Rcp) (w : World) (v : Value) : Prop := ∃ o n s a e us, v = .agg (rV o n s Q.sys Q.bld a e) ∧ Tw A.heap.size w o n s a e us Q
theorem IsT.keep {A w w' : World} {Q : Rcp} {E : Int} {v : Value} (h : IsT A Q E w v) (hk : ∀ (g : Nat) C (t : Nat), w.heap[g]? = some (.cells C t (0, 0)) → t ≠ 27 → w'.heap[g]? = w.heap[g]?) : IsT A Q E w' v := by
  obtain ⟨o, n, s, a, e, us, q1, q2⟩ := h
  exact ⟨o, n, s, a, e, us, q1, q2.rows hk⟩
theorem IsR.keep {A w w' : World} {Q : Rcp} {v : Value} (h : IsR A Q w v) (hk : ∀ (g : Nat) C (t : Nat), w.heap[g]? = some (.cells C t (0, 0)) → t ≠ 27 → w'.heap[g]? = w.heap[g]?) : IsR A Q w' v := by
  obtain ⟨o, n, s, a, e, us, q1, q2⟩ := h
  exact ⟨o, n, s, a, e, us, q1, q2.rows hk⟩
theorem keep_of {w w' : World} (h : Below w.heap.size w w') : ∀ (g : Nat) C (t : Nat), w.heap[g]? = some (.cells C t (0, 0)) → t ≠ 27 → w'.heap[g]? = w.heap[g]? := fun g _ _ hg _ => h.block g (Array.getElem?_eq_some_iff.1 hg).1
structure Jb (A : World) (kc : Nat → Option Value) (Q : Rcp) (E : Int) (l : Array Bool) (X : Nat → Value) (w : World) : Prop where
  bel : Below A.heap.size A w
  kc : ∀ j v, kc j = some v → l.getD j true = true → X j = v
  t7 : l.getD 7 true = true → IsT A Q E w (X 7)
  t8 : l.getD 8 true = true → IsT A Q E w (X 8)
  t9 : l.getD 9 true = true → IsR A Q w (X 9)
  al : l.getD 11 true = true → ∃ g, X 11 = .pointer (some ⟨g, 0, none⟩) ∧ A.heap.size ≤ g ∧ (l.getD 12 true = false → w.heap[g]? = some (.cells zR 27 (0, 0))) ∧ (l.getD 12 true = true → ∃ C, w.heap[g]? = some (.cells C 27 (0, 0)) ∧ IsR A Q w (.agg C))
  st : l.getD 12 true = true → l.getD 11 true = true
/-- A value is added; the world grows. -/
theorem Jb.grow {A : World} {kc : Nat → Option Value} {Q : Rcp} {E : Int} {l : Array Bool} {X : Nat → Value} {w w' : World} (h : Jb A kc Q E l X w) (hb : Below w.heap.size w w') (i : Nat) (v : Value) (hi : i ≠ 12) (hk : ∀ u, kc i = some u → v = u) (h7 : i = 7 → IsT A Q E w' v) (h8 : i = 8 → IsT A Q E w' v) (h9 : i = 9 → IsR A Q w' v) (h11 : i = 11 → ∃ g, v = .pointer (some ⟨g, 0, none⟩) ∧ A.heap.size ≤ g ∧ w'.heap[g]? = some (.cells zR 27 (0, 0)) ∧ l.getD 12 true = false) : Jb A kc Q E (l.setIfInBounds i true) (upd X i v) w' := by
  refine ⟨h.bel.trans (hb.mono h.bel.size), fun j u hj hl => ?_, fun hl => ?_, fun hl => ?_, fun hl => ?_, fun hl => ?_, fun hl => ?_⟩
  · by_cases e : j = i
    · subst e; rw [upd_same]; exact hk u hj
    · rw [upd_ne X v e]; rw [getD_set_ne l i j (fun q => e q.symm)] at hl; exact h.kc j u hj hl
  · by_cases e : (7 : Nat) = i
    · subst e; rw [upd_same]; exact h7 rfl
    · rw [upd_ne X v e]; rw [getD_set_ne l i 7 (fun q => e q.symm)] at hl; exact (h.t7 hl).keep (keep_of hb)
  · by_cases e : (8 : Nat) = i
    · subst e; rw [upd_same]; exact h8 rfl
    · rw [upd_ne X v e]; rw [getD_set_ne l i 8 (fun q => e q.symm)] at hl; exact (h.t8 hl).keep (keep_of hb)
  · by_cases e : (9 : Nat) = i
    · subst e; rw [upd_same]; exact h9 rfl
    · rw [upd_ne X v e]; rw [getD_set_ne l i 9 (fun q => e q.symm)] at hl; exact (h.t9 hl).keep (keep_of hb)
  · rw [getD_set_ne l i 12 hi]
    by_cases e : (11 : Nat) = i
    · subst e
      rw [upd_same]
      obtain ⟨g, q1, q2, q3, q4⟩ := h11 rfl
      exact ⟨g, q1, q2, fun _ => q3, fun z => by rw [q4] at z; cases z⟩
    · rw [upd_ne X v e]
      rw [getD_set_ne l i 11 (fun q => e q.symm)] at hl
      obtain ⟨g, q1, q2, q3, q4⟩ := h.al hl
      refine ⟨g, q1, q2, fun z => ?_, fun z => ?_⟩
      · exact (hb.block g (Array.getElem?_eq_some_iff.1 (q3 z)).1).trans (q3 z)
      · obtain ⟨C, z1, z2⟩ := q4 z
        exact ⟨C, (hb.block g (Array.getElem?_eq_some_iff.1 z1).1).trans z1, z2.keep (keep_of hb)⟩
  · rw [getD_set_ne l i 12 hi] at hl
    exact getD_set_mono _ _ _ (h.st hl)
theorem below_al (w : World) (o : Obj) : Below w.heap.size w (w.alloc o) := (Below.refl _ w).alloc (Nat.le_refl _) o
theorem Jb.store {A : World} {kc : Nat → Option Value} {Q : Rcp} {E : Int} {l : Array Bool} {X : Nat → Value} {w : World} (h : Jb A kc Q E l X w) (hkc : kc 12 = none) (h9 : l.getD 9 true = true) (h11 : l.getD 11 true = true) (h12 : l.getD 12 true = false) : ∃ g C, X 11 = .pointer (some ⟨g, 0, none⟩) ∧ X 9 = .agg C ∧ (stR (.pointer (some ⟨g, 0, none⟩)) (.agg C)).run Try.prog w = .ok () (w.setRow g C) ∧ Jb A kc Q E (l.setIfInBounds 12 true) (upd X 12 undef) (w.setRow g C) := by
  obtain ⟨g, q1, q2, q3, -⟩ := h.al h11
  obtain ⟨o, n, s, a, e, us, z1, z2⟩ := h.t9 h9
  have hg := q3 h12
  have kp : ∀ (b : Nat) C (t : Nat), w.heap[b]? = some (.cells C t (0, 0)) → t ≠ 27 → (w.setRow g (rV o n s Q.sys Q.bld a e)).heap[b]? = w.heap[b]? := fun b C t hb ht => setRow_other _ _ _ _ (tag_ne hb hg ht)
  refine ⟨g, _, q1, z1, st_R w g zR _ rfl rfl (z2.one _ _) hg, below_setRow h.bel q2 _, fun j u hj hl => ?_, fun hl => ?_, fun hl => ?_, fun hl => ?_, fun hl => ?_, fun hl => getD_set_mono _ _ _ h11⟩
  · have e : j ≠ 12 := fun q => by subst q; rw [hkc] at hj; cases hj
    rw [upd_ne X undef e]; rw [getD_set_ne l 12 j (fun q => e q.symm)] at hl; exact h.kc j u hj hl
  · rw [upd_ne X undef (by decide)]; rw [getD_set_ne l 12 7 (by decide)] at hl; exact (h.t7 hl).keep kp
  · rw [upd_ne X undef (by decide)]; rw [getD_set_ne l 12 8 (by decide)] at hl; exact (h.t8 hl).keep kp
  · rw [upd_ne X undef (by decide)]; rw [getD_set_ne l 12 9 (by decide)] at hl; exact (h.t9 hl).keep kp
  · rw [upd_ne X undef (by decide), getD_set_eq]
    exact ⟨g, q1, q2, fun z => (by cases z), fun _ => ⟨_, setRow_heap _ _ _ _ _ _ hg, o, n, s, a, e, us, rfl, z2.rows kp⟩⟩
def Po (J : Array Bool → (Nat → Value) → World → Prop) (a : Act) (d : Option Tmp) (l : Array Bool) (X : Nat → Value) (i : Nat) (a' : Act) (w' : World) : Prop := ∃ v, a' = a.put d v ∧ J (l.setIfInBounds i true) (upd X i v) w'
set_option maxRecDepth 100000 in
set_option maxHeartbeats 1000000 in
theorem stepB (a0 : Act) (A : World) (rb yb ll fn fc lc : Nat) (fa la : Option Addr) (r now : Array Value) (Q : Rcp) (E : Int) (Qe : Exit → Act → World → Prop)
    (h0 : a0.tmps[0]? = some (.pointer (some ⟨rb, 0, none⟩))) (h2 : a0.tmps[2]? = some (.slice la ll lc)) (h4 : a0.tmps[4]? = some (.pointer (some ⟨yb, 0, none⟩))) (h7 : a0.tmps[7]? = some (.slice fa fn fc))
    (hin : ∀ Y, Below A.heap.size A Y → Calls Try.prog 11 #[.pointer (some ⟨rb, 0, none⟩), .agg r] Y fun en w' => en = .returned (.agg now) ∧ Below Y.heap.size Y w')
    (hput : ∀ Y, Below A.heap.size A Y → Calls Try.prog 13 #[.agg now, .slice fa ll fc] Y (GiE Y Q E))
    (hld : ∀ Y, Below A.heap.size A Y → (Instr.loadAt 27 (.pointer (some ⟨yb, 0, none⟩))).run Try.prog Y = .ok (.agg r) Y)
    (hsl : ∀ Y, (Instr.sliceAt 24 (.slice fa fn fc) none (some (.int .i64 (ll : Int))) none).run Try.prog Y = .ok (.slice fa ll fc) Y)
    (i : Nat) (o : Oper) (a : Act) (w : World) (listed : Array Bool) (X : Nat → Value) (ho : regB[i]? = some o) (hF : RFr regB a0 X listed a) (hS : Jb A (Kc rb (.agg r) (.agg now) (.slice fa fn fc) (.slice la ll lc) (.slice fa ll fc) ll E) Q E listed X w) (_ : listed.size = regB.size) (hun : listed.getD i true = false) (hdep : ∀ e ∈ o.after, Region.binds .any e = true → listed.getD e.on false = true) :
      if Region.wanted o (yielded regB a.tmps) = true then Oper.wp Try.prog o a w (Po (Jb A (Kc rb (.agg r) (.agg now) (.slice fa fn fc) (.slice la ll lc) (.slice fa ll fc) ll E) Q E) a o.dst listed X i) Qe else Jb A (Kc rb (.agg r) (.agg now) (.slice fa fn fc) (.slice la ll lc) (.slice fa ll fc) ll E) Q E (listed.setIfInBounds i true) (upd X i undef) w := by
  match i, ho with
  | 0, ho =>
    rw [if_pos (want_none (fact ho (by kernel_rfl)))]
    have hop : o.op = .move (.tmp 0) := fact ho (by kernel_rfl)
    have hds : o.dst = some 23 := fact ho (by kernel_rfl)
    have t0 := tm_old hF 0 _ h0 (by kernel_rfl)
    unfold Oper.wp
    simp [execOp, hop, hds, t0, go_sem]
    exact ⟨_, rfl, hS.grow (Below.refl _ _) 0 _ (by decide) (fun u hu => by cases hu; rfl) (fun q => by omega) (fun q => by omega) (fun q => by omega) (fun q => by omega)⟩
  | 1, ho =>
    rw [if_pos (want_none (fact ho (by kernel_rfl)))]
    have hop : o.op = .load 27 (.tmp 4) := fact ho (by kernel_rfl)
    have hds : o.dst = some 24 := fact ho (by kernel_rfl)
    have t4 := tm_old hF 4 _ h4 (by kernel_rfl)
    unfold Oper.wp
    simp [execOp, hop, hds, t4, Act.eval, hld w hS.bel, Oper.upon]
    exact ⟨_, rfl, hS.grow (Below.refl _ _) 1 _ (by decide) (fun u hu => by cases hu; rfl) (fun q => by omega) (fun q => by omega) (fun q => by omega) (fun q => by omega)⟩
  | 2, ho =>
    rw [if_pos (want_none (fact ho (by kernel_rfl)))]
    have hop : o.op = .call { callee := .value (.func 11), args := #[.tmp 23, .tmp 24], argTypes := #[33, 27] } := fact ho (by kernel_rfl)
    have hds : o.dst = some 25 := fact ho (by kernel_rfl)
    have t23 := tm_dep hF 0 23 (by kernel_rfl) (dep_of ho hdep 0 (by kernel_rfl))
    rw [hS.kc 0 _ rfl (dep_t (dep_of ho hdep 0 (by kernel_rfl)))] at t23
    have t24 := tm_dep hF 1 24 (by kernel_rfl) (dep_of ho hdep 1 (by kernel_rfl))
    rw [hS.kc 1 _ rfl (dep_t (dep_of ho hdep 1 (by kernel_rfl)))] at t24
    unfold Oper.wp
    simp [execOp, hop, hds, t23, t24, go_sem]
    refine (hin w hS.bel).mono ?_
    rintro e w' ⟨rfl, hb⟩
    exact ⟨_, rfl, hS.grow hb 2 _ (by decide) (fun u hu => by cases hu; rfl) (fun q => by omega) (fun q => by omega) (fun q => by omega) (fun q => by omega)⟩
  | 3, ho =>
    rw [if_pos (want_none (fact ho (by kernel_rfl)))]
    have hop : o.op = .move (.tmp 7) := fact ho (by kernel_rfl)
    have hds : o.dst = some 26 := fact ho (by kernel_rfl)
    have t7 := tm_old hF 7 _ h7 (by kernel_rfl)
    unfold Oper.wp
    simp [execOp, hop, hds, t7, go_sem]
    exact ⟨_, rfl, hS.grow (Below.refl _ _) 3 _ (by decide) (fun u hu => by cases hu; rfl) (fun q => by omega) (fun q => by omega) (fun q => by omega) (fun q => by omega)⟩
  | 4, ho =>
    rw [if_pos (want_none (fact ho (by kernel_rfl)))]
    have hop : o.op = .move (.tmp 2) := fact ho (by kernel_rfl)
    have hds : o.dst = some 27 := fact ho (by kernel_rfl)
    have t2 := tm_old hF 2 _ h2 (by kernel_rfl)
    unfold Oper.wp
    simp [execOp, hop, hds, t2, go_sem]
    exact ⟨_, rfl, hS.grow (Below.refl _ _) 4 _ (by decide) (fun u hu => by cases hu; rfl) (fun q => by omega) (fun q => by omega) (fun q => by omega) (fun q => by omega)⟩
  | 5, ho =>
    rw [if_pos (want_none (fact ho (by kernel_rfl)))]
    have hop : o.op = .call { callee := .builtin .len, args := #[.tmp 27], argTypes := #[24] } := fact ho (by kernel_rfl)
    have hds : o.dst = some 28 := fact ho (by kernel_rfl)
    have t27 := tm_dep hF 4 27 (by kernel_rfl) (dep_of ho hdep 4 (by kernel_rfl))
    rw [hS.kc 4 _ rfl (dep_t (dep_of ho hdep 4 (by kernel_rfl)))] at t27
    unfold Oper.wp
    simp [execOp, hop, hds, t27, go_sem]
    exact ⟨_, rfl, hS.grow (Below.refl _ _) 5 _ (by decide) (fun u hu => by cases hu; rfl) (fun q => by omega) (fun q => by omega) (fun q => by omega) (fun q => by omega)⟩
  | 6, ho =>
    rw [if_pos (want_none (fact ho (by kernel_rfl)))]
    have hop : o.op = .slice 24 (.tmp 26) none (some (.tmp 28)) none := fact ho (by kernel_rfl)
    have hds : o.dst = some 29 := fact ho (by kernel_rfl)
    have t26 := tm_dep hF 3 26 (by kernel_rfl) (dep_of ho hdep 3 (by kernel_rfl))
    rw [hS.kc 3 _ rfl (dep_t (dep_of ho hdep 3 (by kernel_rfl)))] at t26
    have t28 := tm_dep hF 5 28 (by kernel_rfl) (dep_of ho hdep 5 (by kernel_rfl))
    rw [hS.kc 5 _ rfl (dep_t (dep_of ho hdep 5 (by kernel_rfl)))] at t28
    unfold Oper.wp
    simp [execOp, hop, hds, t26, t28, Act.eval, hsl, Oper.upon]
    exact ⟨_, rfl, hS.grow (Below.refl _ _) 6 _ (by decide) (fun u hu => by cases hu; rfl) (fun q => by omega) (fun q => by omega) (fun q => by omega) (fun q => by omega)⟩
  | 7, ho =>
    rw [if_pos (want_none (fact ho (by kernel_rfl)))]
    have hop : o.op = .call { callee := .value (.func 13), args := #[.tmp 25, .tmp 29], argTypes := #[27, 24] } := fact ho (by kernel_rfl)
    have hds : o.dst = some 30 := fact ho (by kernel_rfl)
    have t25 := tm_dep hF 2 25 (by kernel_rfl) (dep_of ho hdep 2 (by kernel_rfl))
    rw [hS.kc 2 _ rfl (dep_t (dep_of ho hdep 2 (by kernel_rfl)))] at t25
    have t29 := tm_dep hF 6 29 (by kernel_rfl) (dep_of ho hdep 6 (by kernel_rfl))
    rw [hS.kc 6 _ rfl (dep_t (dep_of ho hdep 6 (by kernel_rfl)))] at t29
    unfold Oper.wp
    simp [execOp, hop, hds, t25, t29, go_sem]
    refine (hput w hS.bel).mono ?_
    rintro e w' ⟨qo, qn, qs, qa, qe, qu, rfl, htw, hb⟩
    exact ⟨_, rfl, hS.grow hb 7 _ (by decide) (fun u hu => by cases hu) (fun _ => ⟨qo, qn, qs, qa, qe, qu, rfl, htw.mono hS.bel.size⟩) (fun q => by omega) (fun q => by omega) (fun q => by omega)⟩
  | 8, ho =>
    rw [if_pos (want_none (fact ho (by kernel_rfl)))]
    have hop : o.op = .move (.tmp 30) := fact ho (by kernel_rfl)
    have hds : o.dst = some 22 := fact ho (by kernel_rfl)
    have t30 := tm_dep hF 7 30 (by kernel_rfl) (dep_of ho hdep 7 (by kernel_rfl))
    obtain ⟨qo, qn, qs, qa, qe, qu, hq, htw⟩ := hS.t7 (dep_t (dep_of ho hdep 7 (by kernel_rfl)))
    rw [hq] at t30
    unfold Oper.wp
    simp [execOp, hop, hds, t30, go_sem]
    exact ⟨_, rfl, hS.grow (Below.refl _ _) 8 _ (by decide) (fun u hu => by cases hu) (fun q => by omega) (fun _ => ⟨qo, qn, qs, qa, qe, qu, rfl, htw⟩) (fun q => by omega) (fun q => by omega)⟩
  | 9, ho =>
    rw [if_pos (want_none (fact ho (by kernel_rfl)))]
    have hop : o.op = .extract (.tmp 22) 0 := fact ho (by kernel_rfl)
    have hds : o.dst = some 31 := fact ho (by kernel_rfl)
    have t22 := tm_dep hF 8 22 (by kernel_rfl) (dep_of ho hdep 8 (by kernel_rfl))
    obtain ⟨qo, qn, qs, qa, qe, qu, hq, htw⟩ := hS.t8 (dep_t (dep_of ho hdep 8 (by kernel_rfl)))
    rw [hq] at t22
    unfold Oper.wp
    simp [execOp, hop, hds, t22, go_sem]
    exact ⟨_, rfl, hS.grow (Below.refl _ _) 9 _ (by decide) (fun u hu => by cases hu) (fun q => by omega) (fun q => by omega) (fun _ => ⟨qo, qn, qs, qa, qe, qu, rfl, htw⟩) (fun q => by omega)⟩
  | 10, ho =>
    rw [if_pos (want_none (fact ho (by kernel_rfl)))]
    have hop : o.op = .extract (.tmp 22) 1 := fact ho (by kernel_rfl)
    have hds : o.dst = some 32 := fact ho (by kernel_rfl)
    have t22 := tm_dep hF 8 22 (by kernel_rfl) (dep_of ho hdep 8 (by kernel_rfl))
    obtain ⟨qo, qn, qs, qa, qe, qu, hq, htw⟩ := hS.t8 (dep_t (dep_of ho hdep 8 (by kernel_rfl)))
    rw [hq] at t22
    unfold Oper.wp
    simp [execOp, hop, hds, t22, go_sem]
    exact ⟨_, rfl, hS.grow (Below.refl _ _) 10 _ (by decide) (fun u hu => by cases hu; rfl) (fun q => by omega) (fun q => by omega) (fun q => by omega) (fun q => by omega)⟩
  | 11, ho =>
    rw [if_pos (want_none (fact ho (by kernel_rfl)))]
    have hop : o.op = .alloc 27 := fact ho (by kernel_rfl)
    have hds : o.dst = some 10 := fact ho (by kernel_rfl)
    have h12 : listed.getD 12 true = false := by
      cases hq : listed.getD 12 true with
      | false => rfl
      | true => rw [hS.st hq] at hun; cases hun
    unfold Oper.wp
    simp [execOp, hop, hds, Oper.upon]
    exact ⟨_, rfl, hS.grow (below_al w _) 11 _ (by decide) (fun u hu => by cases hu) (fun q => by omega) (fun q => by omega) (fun q => by omega) (fun _ => ⟨_, rfl, hS.bel.size, heap_alloc_new _ _, h12⟩)⟩
  | 12, ho =>
    rw [if_pos (want_none (fact ho (by kernel_rfl)))]
    have hop : o.op = .store 27 (.tmp 10) (.tmp 31) := fact ho (by kernel_rfl)
    have hds : o.dst = none := fact ho (by kernel_rfl)
    have t10 := tm_dep hF 11 10 (by kernel_rfl) (dep_of ho hdep 11 (by kernel_rfl))
    have t31 := tm_dep hF 9 31 (by kernel_rfl) (dep_of ho hdep 9 (by kernel_rfl))
    obtain ⟨g, C, q1, q2, q3, q4⟩ := hS.store rfl (dep_t (dep_of ho hdep 9 (by kernel_rfl))) (dep_t (dep_of ho hdep 11 (by kernel_rfl))) hun
    rw [q1] at t10
    rw [q2] at t31
    unfold stR at q3
    unfold Oper.wp
    simp [execOp, hop, hds, t10, t31, Act.eval, q3, Oper.upon]
    exact ⟨_, rfl, q4⟩
  | 13, ho =>
    rw [if_pos (want_none (fact ho (by kernel_rfl)))]
    have hop : o.op = .assign (.tmp 32) := fact ho (by kernel_rfl)
    have hds : o.dst = some 11 := fact ho (by kernel_rfl)
    have t32 := tm_dep hF 10 32 (by kernel_rfl) (dep_of ho hdep 10 (by kernel_rfl))
    rw [hS.kc 10 _ rfl (dep_t (dep_of ho hdep 10 (by kernel_rfl)))] at t32
    unfold Oper.wp
    simp [execOp, hop, hds, t32, go_sem]
    exact ⟨_, rfl, hS.grow (Below.refl _ _) 13 _ (by decide) (fun u hu => by cases hu; rfl) (fun q => by omega) (fun q => by omega) (fun q => by omega) (fun q => by omega)⟩
  | n + 14, ho =>
    exfalso
    have h1 : n + 14 < regB.size := (Array.getElem?_eq_some_iff.1 ho).1
    rw [show regB.size = 14 from by kernel_rfl] at h1
    omega
set_option maxRecDepth 100000 in
theorem putB (X : Nat → Value) (v0 v1 v2 v3 v4 v5 v6 v7 v8 v9 v10 v11 v12 v13 v14 v15 v16 v17 v18 v19 v20 v21 v22 v23 v24 v25 v26 v27 v28 v29 v30 v31 v32 v33 v34 v35 v36 v37 v38 v39 v40 v41 v42 v43 v44 v45 v46 v47 v48 v49 v50 v51 v52 v53 v54 v55 v56 v57 v58 v59 v60 v61 v62 v63 v64 v65 v66 v67 v68 v69 v70 v71 v72 : Value) : putN regB X ⟨#[v0, v1, v2, v3, v4, v5, v6, v7, v8, v9, v10, v11, v12, v13, v14, v15, v16, v17, v18, v19, v20, v21, v22, v23, v24, v25, v26, v27, v28, v29, v30, v31, v32, v33, v34, v35, v36, v37, v38, v39, v40, v41, v42, v43, v44, v45, v46, v47, v48, v49, v50, v51, v52, v53, v54, v55, v56, v57, v58, v59, v60, v61, v62, v63, v64, v65, v66, v67, v68, v69, v70, v71, v72], []⟩ regB.size = ⟨#[v0, v1, v2, v3, v4, v5, v6, v7, v8, v9, X 11, X 13, v12, v13, v14, v15, v16, v17, v18, v19, v20, v21, X 8, X 0, X 1, X 2, X 3, X 4, X 5, X 6, X 7, X 9, X 10, v33, v34, v35, v36, v37, v38, v39, v40, v41, v42, v43, v44, v45, v46, v47, v48, v49, v50, v51, v52, v53, v54, v55, v56, v57, v58, v59, v60, v61, v62, v63, v64, v65, v66, v67, v68, v69, v70, v71, v72], []⟩ := by kernel_rfl
end Go.Proofs.Ytcggaiplepekdaa
