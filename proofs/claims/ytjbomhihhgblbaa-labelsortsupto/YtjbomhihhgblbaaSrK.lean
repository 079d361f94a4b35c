/- LabelSorts: the operations of kept's drawn region, each by its value. -/
import Derived.Test.YtjbomhihhgblbaaVals
import Derived.Test.YtjbomhihhgblbaaSr7
namespace Go.Proofs.Ytjbomhihhgblbaa
open Go.RowKit
def findR (n : Nat) : Code → Option (Array Oper)
  | .region m ops _ => if m = n then some ops else none
  | .seq a b => match findR n a with
    | some c => some c
    | none => findR n b
  | .scope c => findR n c
  | .block _ c => findR n c
  | .loop c => findR n c
  | .cond _ a b => match findR n a with
    | some c => some c
    | none => findR n b
  | _ => none
/-- The closed facts of a region, by running. -/
def okR (ops : Array Oper) (N : Nat) : Bool :=
  (List.range ops.size).all fun i => ((ops[i]?).map fun o => (o.after.all fun e => !Region.binds .any e || decide (e.on < i)) && (match o.dst with | some d => decide (d < N) | none => true) &&
    (List.range ops.size).all fun j => decide (j = i) || ((ops[j]?).map fun p => decide (o.dst = none) || decide (p.dst ≠ o.dst)).getD true).getD true
theorem okR_at {ops : Array Oper} {N : Nat} (h : okR ops N = true) {i : Nat} {o : Oper} (ho : ops[i]? = some o) :
    (∀ e ∈ o.after, Region.binds .any e = true → e.on < i) ∧ (∀ d, o.dst = some d → d < N) ∧ ∀ (j : Nat) oj d, ops[j]? = some oj → oj.dst = some d → o.dst = some d → j = i := by
  have hi : i < ops.size := (Array.getElem?_eq_some_iff.1 ho).1
  have h1 := List.all_eq_true.1 h i (List.mem_range.2 hi)
  rw [ho] at h1
  simp only [Option.map_some, Option.getD_some, Bool.and_eq_true] at h1
  obtain ⟨⟨h1, h2⟩, h3⟩ := h1
  refine ⟨fun e he hb => ?_, fun d hd => ?_, fun j oj d hj hdj hd => ?_⟩
  · have := Array.all_eq_true_iff_forall_mem.1 h1 e he
    rw [hb] at this
    simpa using this
  · rw [hd] at h2
    simpa using h2
  · have hjs : j < ops.size := (Array.getElem?_eq_some_iff.1 hj).1
    have h4 := List.all_eq_true.1 h3 j (List.mem_range.2 hjs)
    rw [hj] at h4
    simp only [Option.map_some, Option.getD_some, Bool.or_eq_true, decide_eq_true_eq] at h4
    rcases h4 with h4 | h4 | h4
    · exact h4
    · rw [hd] at h4; cases h4
    · rw [hd, hdj] at h4; exact absurd rfl h4
theorem ev_old {ops : Array Oper} {a0 a : Act} {V : Nat → Value} {listed : Array Bool} (hF : RFr ops a0 V listed a) (s : Nat) (v : Value) (hs : a0.tmps[s]? = some v) (hno : (ops.all fun o => decide (o.dst ≠ some s)) = true) : a.eval (.tmp s) = v := by
  have h := hF.old s (fun j o hj hd => by
    have := Array.all_eq_true_iff_forall_mem.1 hno o (Array.mem_of_getElem? hj)
    simp [hd] at this)
  rw [hs] at h
  show a.tmps.getD s undef = v
  rw [Array.getD_eq_getD_getElem?, h]
  rfl
theorem tm_dep {ops : Array Oper} {a0 a : Act} {V : Nat → Value} {listed : Array Bool} (hF : RFr ops a0 V listed a) (j d : Nat) (hd : (ops[j]?).bind (·.dst) = some d) (hl : listed.getD j false = true) : a.tmps[d]? = some (V j) := by
  obtain ⟨o, ho, hod⟩ : ∃ o, ops[j]? = some o ∧ o.dst = some d := by
    cases h : ops[j]? with
    | none => rw [h] at hd; cases hd
    | some o => rw [h] at hd; exact ⟨o, rfl, hd⟩
  refine hF.val j o d ho hod ?_
  have hj : j < listed.size := by
    rcases Nat.lt_or_ge j listed.size with h | h
    · exact h
    · unfold Array.getD at hl; rw [dif_neg (by omega)] at hl; cases hl
  rw [agetD _ _ _ hj] at hl ⊢
  exact hl
theorem tm_old {ops : Array Oper} {a0 a : Act} {V : Nat → Value} {listed : Array Bool} (hF : RFr ops a0 V listed a) (s : Nat) (v : Value) (hs : a0.tmps[s]? = some v) (hno : (ops.all fun o => decide (o.dst ≠ some s)) = true) : a.tmps[s]? = some v := by
  have h := hF.old s (fun j o hj hd => by
    have := Array.all_eq_true_iff_forall_mem.1 hno o (Array.mem_of_getElem? hj)
    simp [hd] at this)
  rw [h, hs]
theorem ev_dep {ops : Array Oper} {a0 a : Act} {V : Nat → Value} {listed : Array Bool} (hF : RFr ops a0 V listed a) (j d : Nat) (hd : (ops[j]?).bind (·.dst) = some d) (hl : listed.getD j false = true) : a.eval (.tmp d) = V j := by
  show a.tmps.getD d undef = V j
  rw [Array.getD_eq_getD_getElem?, tm_dep hF j d hd hl]
  rfl
theorem yl_dep {ops : Array Oper} {a0 a : Act} {V : Nat → Value} {listed : Array Bool} (hF : RFr ops a0 V listed a) (j d : Nat) (b : Bool) (hd : (ops[j]?).bind (·.dst) = some d) (hl : listed.getD j false = true) (hv : V j = .bool b) : yielded ops a.tmps j = some b := by
  unfold yielded
  rw [hd]
  show (match a.tmps[d]? with | some (.bool b) => some b | _ => none) = _
  rw [tm_dep hF j d hd hl, hv]
theorem fact {ops : Array Oper} {i : Nat} {o : Oper} {α : Type} {f : Oper → α} {x : α} (ho : ops[i]? = some o) (h : (ops[i]?).map f = some x) : f o = x := by rw [ho] at h; exact Option.some.inj h
theorem dep_of {ops : Array Oper} {i : Nat} {o : Oper} {listed : Array Bool} (ho : ops[i]? = some o) (hdep : ∀ e ∈ o.after, Region.binds .any e = true → listed.getD e.on false = true) (j : Nat) (h : ((ops[i]?).map fun o => o.after.any fun e => Region.binds .any e && e.on == j) = some true) : listed.getD j false = true := by
  have h1 : (o.after.any fun e => Region.binds .any e && e.on == j) = true := fact ho h
  rw [← Array.any_toList] at h1
  obtain ⟨e, he, hb⟩ := List.any_eq_true.1 h1
  simp only [Bool.and_eq_true, beq_iff_eq] at hb
  rw [← hb.2]
  exact hdep e (Array.mem_toList_iff.1 he) hb.1
theorem want_none {o : Oper} {f : Nat → Option Bool} (h : o.guard = none) : Region.wanted o f = true := by unfold Region.wanted; rw [h]
theorem want_some {o : Oper} {f : Nat → Option Bool} {j : Nat} {b c : Bool} (h : o.guard = some (j, b)) (hy : f j = some c) : Region.wanted o f = (c == b) := by
  unfold Region.wanted; rw [h]; show (f j == some b) = _; rw [hy]; cases b <;> cases c <;> rfl
noncomputable def reg2 : Array Oper := ((Try.f8.body.bind (findR 2)).getD #[])
theorem okR2 : okR reg2 30 = true := by kernel_rfl
def V2 (g n m cF : Nat) (lv : Value) : Nat → Value
  | 0 => .slice (some ⟨g, 0, none⟩) m cF
  | 1 => .int .i64 (n : Int)
  | 2 => .slice (some ⟨g, 0, none⟩) n cF
  | 3 => lv
  | 4 => .bool true
  | 5 => .bool true
  | 6 => .slice (some ⟨g, 0, none⟩) m cF
  | 7 => .int .i64 (n : Int)
  | 8 => .pointer (some ⟨g, n * 21, none⟩)
  | 9 => .agg (lab mkH mkS)
  | 10 => .agg (lab mkH mkS)
  | 11 => .bool true
  | 12 => .bool true
  | 13 => .bool true
  | 14 => .slice (some ⟨g, 0, none⟩) m cF
  | 15 => .int .i64 (n : Int)
  | 16 => .int .i64 ((n : Int) + 1)
  | 17 => .pointer (some ⟨g, (n + 1) * 21, none⟩)
  | 18 => .agg (lab mkH mkS)
  | 19 => .agg (lab mkH mkS)
  | 20 => .bool true
  | 21 => .bool true
  | 22 => .bool true
  | _ => undef
set_option maxRecDepth 100000 in
set_option maxHeartbeats 1000000 in
theorem step2 (a0 : Act) (g n m cF : Nat) (lv : Value) (S : Array Bool → World → Prop) (Q : Exit → Act → World → Prop) (h0 : a0.tmps[0]? = some (.slice (some ⟨g, 0, none⟩) m cF)) (h1 : a0.tmps[1]? = some (lv)) (h5 : a0.tmps[5]? = some (.int .i64 (n : Int)))
    (hmv : ∀ i : Nat, decide (i < 23) = true → ∀ listed W, S listed W → S (listed.setIfInBounds i true) W) (hc6 : ∀ listed W, S listed W → listed.size = reg2.size → listed.getD 4 true = false → (∀ j, ((reg2[4]?).map fun o => o.after.any fun e => Region.binds .any e && e.on == j) = some true → listed.getD j false = true) → Calls Try.prog 6 #[.slice (some ⟨g, 0, none⟩) n cF, lv] W fun e w' => e = .returned (.bool true) ∧ S (listed.setIfInBounds 4 true) w') (hc9 : ∀ listed W, S listed W → listed.size = reg2.size → listed.getD 10 true = false → (∀ j, ((reg2[10]?).map fun o => o.after.any fun e => Region.binds .any e && e.on == j) = some true → listed.getD j false = true) → Calls Try.prog 9 #[] W fun e w' => e = .returned (.agg (lab mkH mkS)) ∧ S (listed.setIfInBounds 10 true) w') (hc9b : ∀ listed W, S listed W → listed.size = reg2.size → listed.getD 19 true = false → (∀ j, ((reg2[19]?).map fun o => o.after.any fun e => Region.binds .any e && e.on == j) = some true → listed.getD j false = true) → Calls Try.prog 9 #[] W fun e w' => e = .returned (.agg (lab mkH mkS)) ∧ S (listed.setIfInBounds 19 true) w') (hcut : ∀ listed W, S listed W → listed.size = reg2.size → listed.getD 2 true = false → (∀ j, ((reg2[2]?).map fun o => o.after.any fun e => Region.binds .any e && e.on == j) = some true → listed.getD j false = true) → ∃ W2, (Instr.sliceAt 22 (.slice (some ⟨g, 0, none⟩) m cF) none (some (.int .i64 (n : Int))) none).run Try.prog W = .ok (.slice (some ⟨g, 0, none⟩) n cF) W2 ∧ S (listed.setIfInBounds 2 true) W2) (hl0 : ∀ listed W, S listed W → listed.size = reg2.size → listed.getD 9 true = false → (∀ j, ((reg2[9]?).map fun o => o.after.any fun e => Region.binds .any e && e.on == j) = some true → listed.getD j false = true) → ∃ W2, (Instr.loadAt 29 (.pointer (some ⟨g, n * 21, none⟩))).run Try.prog W = .ok (.agg (lab mkH mkS)) W2 ∧ S (listed.setIfInBounds 9 true) W2) (hl1 : ∀ listed W, S listed W → listed.size = reg2.size → listed.getD 18 true = false → (∀ j, ((reg2[18]?).map fun o => o.after.any fun e => Region.binds .any e && e.on == j) = some true → listed.getD j false = true) → ∃ W2, (Instr.loadAt 29 (.pointer (some ⟨g, (n + 1) * 21, none⟩))).run Try.prog W = .ok (.agg (lab mkH mkS)) W2 ∧ S (listed.setIfInBounds 18 true) W2) (heq : ∀ W, (Op.equalIn 10000 29 (.agg (lab mkH mkS)) (.agg (lab mkH mkS))).run Try.prog W = .ok true W) (hw : IntKind.i64.wrap ((n : Int) + 1) = (n : Int) + 1) (hp0 : (0 : Int) ≤ (n : Int)) (hp1 : (n : Int) < (m : Int)) (hp2 : (0 : Int) ≤ (n : Int) + 1) (hp3 : (n : Int) + 1 < (m : Int)) (htn : ((n : Int) + 1).toNat = n + 1)
    (i : Nat) (o : Oper) (a : Act) (w : World) (listed : Array Bool) (ho : reg2[i]? = some o) (hF : RFr reg2 a0 (V2 g n m cF lv) listed a) (hS : S listed w) (hls : listed.size = reg2.size) (hun : listed.getD i true = false) (hdep : ∀ e ∈ o.after, Region.binds .any e = true → listed.getD e.on false = true) :
      if Region.wanted o (yielded reg2 a.tmps) = true then Oper.wp Try.prog o a w (fun a' w' => a' = a.put o.dst (V2 g n m cF lv i) ∧ S (listed.setIfInBounds i true) w') Q else V2 g n m cF lv i = undef ∧ S (listed.setIfInBounds i true) w := by
  match i, ho with
  | 0, ho =>
    rw [if_pos (want_none (fact ho (by kernel_rfl)))]
    have hop : o.op = .move (.tmp 0) := fact ho (by kernel_rfl)
    have hds : o.dst = some 8 := fact ho (by kernel_rfl)
    have t0 := tm_old hF 0 _ h0 (by kernel_rfl)
    have hS2 := hmv 0 (by decide) listed w hS
    unfold Oper.wp
    simp [execOp, hop, hds, t0, go_sem, V2, hS2]
  | 1, ho =>
    rw [if_pos (want_none (fact ho (by kernel_rfl)))]
    have hop : o.op = .move (.tmp 5) := fact ho (by kernel_rfl)
    have hds : o.dst = some 9 := fact ho (by kernel_rfl)
    have t5 := tm_old hF 5 _ h5 (by kernel_rfl)
    have hS2 := hmv 1 (by decide) listed w hS
    unfold Oper.wp
    simp [execOp, hop, hds, t5, go_sem, V2, hS2]
  | 2, ho =>
    rw [if_pos (want_none (fact ho (by kernel_rfl)))]
    have hop : o.op = .slice 22 (.tmp 8) none (some (.tmp 9)) none := fact ho (by kernel_rfl)
    have hds : o.dst = some 10 := fact ho (by kernel_rfl)
    have t8 := tm_dep hF 0 8 (by kernel_rfl) (dep_of ho hdep 0 (by kernel_rfl))
    simp only [V2] at t8
    have t9 := tm_dep hF 1 9 (by kernel_rfl) (dep_of ho hdep 1 (by kernel_rfl))
    simp only [V2] at t9
    obtain ⟨W2, hr, hS2⟩ := hcut listed w hS hls hun (fun j hj => dep_of ho hdep j hj)
    unfold Oper.wp
    simp [execOp, hop, hds, Act.eval, t8, t9, hr, Oper.upon, Act.put, V2, hS2]
  | 3, ho =>
    rw [if_pos (want_none (fact ho (by kernel_rfl)))]
    have hop : o.op = .move (.tmp 1) := fact ho (by kernel_rfl)
    have hds : o.dst = some 11 := fact ho (by kernel_rfl)
    have t1 := tm_old hF 1 _ h1 (by kernel_rfl)
    have hS2 := hmv 3 (by decide) listed w hS
    unfold Oper.wp
    simp [execOp, hop, hds, t1, go_sem, V2, hS2]
  | 4, ho =>
    rw [if_pos (want_none (fact ho (by kernel_rfl)))]
    have hop : o.op = .call { callee := .value (.func 6), args := #[.tmp 10, .tmp 11], argTypes := #[22, 22] } := fact ho (by kernel_rfl)
    have hds : o.dst = some 12 := fact ho (by kernel_rfl)
    have t10 := tm_dep hF 2 10 (by kernel_rfl) (dep_of ho hdep 2 (by kernel_rfl))
    simp only [V2] at t10
    have t11 := tm_dep hF 3 11 (by kernel_rfl) (dep_of ho hdep 3 (by kernel_rfl))
    simp only [V2] at t11
    unfold Oper.wp
    simp [execOp, hop, hds, t10, t11, go_sem, V2]
    refine (hc6 listed w hS hls hun (fun j hj => dep_of ho hdep j hj)).mono ?_
    rintro e w' ⟨rfl, hS'⟩
    exact ⟨rfl, hS'⟩
  | 5, ho =>
    rw [if_pos (want_none (fact ho (by kernel_rfl)))]
    have hop : o.op = .move (.tmp 12) := fact ho (by kernel_rfl)
    have hds : o.dst = some 13 := fact ho (by kernel_rfl)
    have t12 := tm_dep hF 4 12 (by kernel_rfl) (dep_of ho hdep 4 (by kernel_rfl))
    simp only [V2] at t12
    have hS2 := hmv 5 (by decide) listed w hS
    unfold Oper.wp
    simp [execOp, hop, hds, t12, go_sem, V2, hS2]
  | 6, ho =>
    have hy := yl_dep hF 5 13 true (by kernel_rfl) (dep_of ho hdep 5 (by kernel_rfl)) rfl
    have hgd : o.guard = some (5, true) := fact ho (by kernel_rfl)
    rw [if_pos (by rw [want_some hgd hy]; rfl)]
    have hop : o.op = .move (.tmp 0) := fact ho (by kernel_rfl)
    have hds : o.dst = some 14 := fact ho (by kernel_rfl)
    have t0 := tm_old hF 0 _ h0 (by kernel_rfl)
    have hS2 := hmv 6 (by decide) listed w hS
    unfold Oper.wp
    simp [execOp, hop, hds, t0, go_sem, V2, hS2]
  | 7, ho =>
    have hy := yl_dep hF 5 13 true (by kernel_rfl) (dep_of ho hdep 5 (by kernel_rfl)) rfl
    have hgd : o.guard = some (5, true) := fact ho (by kernel_rfl)
    rw [if_pos (by rw [want_some hgd hy]; rfl)]
    have hop : o.op = .move (.tmp 5) := fact ho (by kernel_rfl)
    have hds : o.dst = some 15 := fact ho (by kernel_rfl)
    have t5 := tm_old hF 5 _ h5 (by kernel_rfl)
    have hS2 := hmv 7 (by decide) listed w hS
    unfold Oper.wp
    simp [execOp, hop, hds, t5, go_sem, V2, hS2]
  | 8, ho =>
    have hy := yl_dep hF 5 13 true (by kernel_rfl) (dep_of ho hdep 5 (by kernel_rfl)) rfl
    have hgd : o.guard = some (5, true) := fact ho (by kernel_rfl)
    rw [if_pos (by rw [want_some hgd hy]; rfl)]
    have hop : o.op = .indexAddr 22 (.tmp 14) (.tmp 15) := fact ho (by kernel_rfl)
    have hds : o.dst = some 16 := fact ho (by kernel_rfl)
    have t14 := tm_dep hF 6 14 (by kernel_rfl) (dep_of ho hdep 6 (by kernel_rfl))
    simp only [V2] at t14
    have t15 := tm_dep hF 7 15 (by kernel_rfl) (dep_of ho hdep 7 (by kernel_rfl))
    simp only [V2] at t15
    have hS2 := hmv 8 (by decide) listed w hS
    unfold Oper.wp
    simp [execOp, hop, hds, t14, t15, hp0, hp1, go_sem, V2, hS2]
  | 9, ho =>
    have hy := yl_dep hF 5 13 true (by kernel_rfl) (dep_of ho hdep 5 (by kernel_rfl)) rfl
    have hgd : o.guard = some (5, true) := fact ho (by kernel_rfl)
    rw [if_pos (by rw [want_some hgd hy]; rfl)]
    have hop : o.op = .load 29 (.tmp 16) := fact ho (by kernel_rfl)
    have hds : o.dst = some 17 := fact ho (by kernel_rfl)
    have t16 := tm_dep hF 8 16 (by kernel_rfl) (dep_of ho hdep 8 (by kernel_rfl))
    simp only [V2] at t16
    obtain ⟨W2, hr, hS2⟩ := hl0 listed w hS hls hun (fun j hj => dep_of ho hdep j hj)
    unfold Oper.wp
    simp [execOp, hop, hds, Act.eval, t16, hr, Oper.upon, Act.put, V2, hS2]
  | 10, ho =>
    have hy := yl_dep hF 5 13 true (by kernel_rfl) (dep_of ho hdep 5 (by kernel_rfl)) rfl
    have hgd : o.guard = some (5, true) := fact ho (by kernel_rfl)
    rw [if_pos (by rw [want_some hgd hy]; rfl)]
    have hop : o.op = .call { callee := .value (.func 9), args := #[], argTypes := #[] } := fact ho (by kernel_rfl)
    have hds : o.dst = some 18 := fact ho (by kernel_rfl)
    unfold Oper.wp
    simp [execOp, hop, hds, go_sem, V2]
    refine (hc9 listed w hS hls hun (fun j hj => dep_of ho hdep j hj)).mono ?_
    rintro e w' ⟨rfl, hS'⟩
    exact ⟨rfl, hS'⟩
  | 11, ho =>
    have hy := yl_dep hF 5 13 true (by kernel_rfl) (dep_of ho hdep 5 (by kernel_rfl)) rfl
    have hgd : o.guard = some (5, true) := fact ho (by kernel_rfl)
    rw [if_pos (by rw [want_some hgd hy]; rfl)]
    have hop : o.op = .binOp .eql 29 (.tmp 17) (.tmp 18) 29 := fact ho (by kernel_rfl)
    have hds : o.dst = some 19 := fact ho (by kernel_rfl)
    have t17 := tm_dep hF 9 17 (by kernel_rfl) (dep_of ho hdep 9 (by kernel_rfl))
    simp only [V2] at t17
    have t18 := tm_dep hF 10 18 (by kernel_rfl) (dep_of ho hdep 10 (by kernel_rfl))
    simp only [V2] at t18
    have hS2 := hmv 11 (by decide) listed w hS
    unfold Oper.wp
    simp [execOp, hop, hds, t17, t18, heq, go_sem, V2, hS2]
  | 12, ho =>
    rw [if_pos (want_none (fact ho (by kernel_rfl)))]
    have hop : o.op = .pick (.tmp 13) (.tmp 19) (.const (.bool false)) := fact ho (by kernel_rfl)
    have hds : o.dst = some 20 := fact ho (by kernel_rfl)
    have t13 := tm_dep hF 5 13 (by kernel_rfl) (dep_of ho hdep 5 (by kernel_rfl))
    simp only [V2] at t13
    have t19 := tm_dep hF 11 19 (by kernel_rfl) (dep_of ho hdep 11 (by kernel_rfl))
    simp only [V2] at t19
    have hS2 := hmv 12 (by decide) listed w hS
    unfold Oper.wp
    simp [execOp, hop, hds, t13, t19, go_sem, V2, hS2]
  | 13, ho =>
    rw [if_pos (want_none (fact ho (by kernel_rfl)))]
    have hop : o.op = .move (.tmp 20) := fact ho (by kernel_rfl)
    have hds : o.dst = some 21 := fact ho (by kernel_rfl)
    have t20 := tm_dep hF 12 20 (by kernel_rfl) (dep_of ho hdep 12 (by kernel_rfl))
    simp only [V2] at t20
    have hS2 := hmv 13 (by decide) listed w hS
    unfold Oper.wp
    simp [execOp, hop, hds, t20, go_sem, V2, hS2]
  | 14, ho =>
    have hy := yl_dep hF 13 21 true (by kernel_rfl) (dep_of ho hdep 13 (by kernel_rfl)) rfl
    have hgd : o.guard = some (13, true) := fact ho (by kernel_rfl)
    rw [if_pos (by rw [want_some hgd hy]; rfl)]
    have hop : o.op = .move (.tmp 0) := fact ho (by kernel_rfl)
    have hds : o.dst = some 22 := fact ho (by kernel_rfl)
    have t0 := tm_old hF 0 _ h0 (by kernel_rfl)
    have hS2 := hmv 14 (by decide) listed w hS
    unfold Oper.wp
    simp [execOp, hop, hds, t0, go_sem, V2, hS2]
  | 15, ho =>
    have hy := yl_dep hF 13 21 true (by kernel_rfl) (dep_of ho hdep 13 (by kernel_rfl)) rfl
    have hgd : o.guard = some (13, true) := fact ho (by kernel_rfl)
    rw [if_pos (by rw [want_some hgd hy]; rfl)]
    have hop : o.op = .move (.tmp 5) := fact ho (by kernel_rfl)
    have hds : o.dst = some 23 := fact ho (by kernel_rfl)
    have t5 := tm_old hF 5 _ h5 (by kernel_rfl)
    have hS2 := hmv 15 (by decide) listed w hS
    unfold Oper.wp
    simp [execOp, hop, hds, t5, go_sem, V2, hS2]
  | 16, ho =>
    have hy := yl_dep hF 13 21 true (by kernel_rfl) (dep_of ho hdep 13 (by kernel_rfl)) rfl
    have hgd : o.guard = some (13, true) := fact ho (by kernel_rfl)
    rw [if_pos (by rw [want_some hgd hy]; rfl)]
    have hop : o.op = .binOp .add 3 (.tmp 23) (.const (.int .i64 1)) 3 := fact ho (by kernel_rfl)
    have hds : o.dst = some 24 := fact ho (by kernel_rfl)
    have t23 := tm_dep hF 15 23 (by kernel_rfl) (dep_of ho hdep 15 (by kernel_rfl))
    simp only [V2] at t23
    have hS2 := hmv 16 (by decide) listed w hS
    unfold Oper.wp
    simp [execOp, hop, hds, t23, hw, go_sem, V2, hS2]
  | 17, ho =>
    have hy := yl_dep hF 13 21 true (by kernel_rfl) (dep_of ho hdep 13 (by kernel_rfl)) rfl
    have hgd : o.guard = some (13, true) := fact ho (by kernel_rfl)
    rw [if_pos (by rw [want_some hgd hy]; rfl)]
    have hop : o.op = .indexAddr 22 (.tmp 22) (.tmp 24) := fact ho (by kernel_rfl)
    have hds : o.dst = some 25 := fact ho (by kernel_rfl)
    have t22 := tm_dep hF 14 22 (by kernel_rfl) (dep_of ho hdep 14 (by kernel_rfl))
    simp only [V2] at t22
    have t24 := tm_dep hF 16 24 (by kernel_rfl) (dep_of ho hdep 16 (by kernel_rfl))
    simp only [V2] at t24
    have hS2 := hmv 17 (by decide) listed w hS
    unfold Oper.wp
    simp [execOp, hop, hds, t22, t24, hp2, hp3, htn, go_sem, V2, hS2]
  | 18, ho =>
    have hy := yl_dep hF 13 21 true (by kernel_rfl) (dep_of ho hdep 13 (by kernel_rfl)) rfl
    have hgd : o.guard = some (13, true) := fact ho (by kernel_rfl)
    rw [if_pos (by rw [want_some hgd hy]; rfl)]
    have hop : o.op = .load 29 (.tmp 25) := fact ho (by kernel_rfl)
    have hds : o.dst = some 26 := fact ho (by kernel_rfl)
    have t25 := tm_dep hF 17 25 (by kernel_rfl) (dep_of ho hdep 17 (by kernel_rfl))
    simp only [V2] at t25
    obtain ⟨W2, hr, hS2⟩ := hl1 listed w hS hls hun (fun j hj => dep_of ho hdep j hj)
    unfold Oper.wp
    simp [execOp, hop, hds, Act.eval, t25, hr, Oper.upon, Act.put, V2, hS2]
  | 19, ho =>
    have hy := yl_dep hF 13 21 true (by kernel_rfl) (dep_of ho hdep 13 (by kernel_rfl)) rfl
    have hgd : o.guard = some (13, true) := fact ho (by kernel_rfl)
    rw [if_pos (by rw [want_some hgd hy]; rfl)]
    have hop : o.op = .call { callee := .value (.func 9), args := #[], argTypes := #[] } := fact ho (by kernel_rfl)
    have hds : o.dst = some 27 := fact ho (by kernel_rfl)
    unfold Oper.wp
    simp [execOp, hop, hds, go_sem, V2]
    refine (hc9b listed w hS hls hun (fun j hj => dep_of ho hdep j hj)).mono ?_
    rintro e w' ⟨rfl, hS'⟩
    exact ⟨rfl, hS'⟩
  | 20, ho =>
    have hy := yl_dep hF 13 21 true (by kernel_rfl) (dep_of ho hdep 13 (by kernel_rfl)) rfl
    have hgd : o.guard = some (13, true) := fact ho (by kernel_rfl)
    rw [if_pos (by rw [want_some hgd hy]; rfl)]
    have hop : o.op = .binOp .eql 29 (.tmp 26) (.tmp 27) 29 := fact ho (by kernel_rfl)
    have hds : o.dst = some 28 := fact ho (by kernel_rfl)
    have t26 := tm_dep hF 18 26 (by kernel_rfl) (dep_of ho hdep 18 (by kernel_rfl))
    simp only [V2] at t26
    have t27 := tm_dep hF 19 27 (by kernel_rfl) (dep_of ho hdep 19 (by kernel_rfl))
    simp only [V2] at t27
    have hS2 := hmv 20 (by decide) listed w hS
    unfold Oper.wp
    simp [execOp, hop, hds, t26, t27, heq, go_sem, V2, hS2]
  | 21, ho =>
    rw [if_pos (want_none (fact ho (by kernel_rfl)))]
    have hop : o.op = .pick (.tmp 21) (.tmp 28) (.const (.bool false)) := fact ho (by kernel_rfl)
    have hds : o.dst = some 29 := fact ho (by kernel_rfl)
    have t21 := tm_dep hF 13 21 (by kernel_rfl) (dep_of ho hdep 13 (by kernel_rfl))
    simp only [V2] at t21
    have t28 := tm_dep hF 20 28 (by kernel_rfl) (dep_of ho hdep 20 (by kernel_rfl))
    simp only [V2] at t28
    have hS2 := hmv 21 (by decide) listed w hS
    unfold Oper.wp
    simp [execOp, hop, hds, t21, t28, go_sem, V2, hS2]
  | 22, ho =>
    rw [if_pos (want_none (fact ho (by kernel_rfl)))]
    have hop : o.op = .assign (.tmp 29) := fact ho (by kernel_rfl)
    have hds : o.dst = some 4 := fact ho (by kernel_rfl)
    have t29 := tm_dep hF 21 29 (by kernel_rfl) (dep_of ho hdep 21 (by kernel_rfl))
    simp only [V2] at t29
    have hS2 := hmv 22 (by decide) listed w hS
    unfold Oper.wp
    simp [execOp, hop, hds, t29, go_sem, V2, hS2]
  | n + 23, ho =>
    exfalso
    have h1 : n + 23 < reg2.size := (Array.getElem?_eq_some_iff.1 ho).1
    rw [show reg2.size = 23 from by kernel_rfl] at h1
    omega
set_option maxRecDepth 100000 in
theorem put2 (X : Nat → Value) (v0 v1 v2 v3 v4 v5 v6 v7 v8 v9 v10 v11 v12 v13 v14 v15 v16 v17 v18 v19 v20 v21 v22 v23 v24 v25 v26 v27 v28 v29 : Value) : putN reg2 X ⟨#[v0, v1, v2, v3, v4, v5, v6, v7, v8, v9, v10, v11, v12, v13, v14, v15, v16, v17, v18, v19, v20, v21, v22, v23, v24, v25, v26, v27, v28, v29], []⟩ reg2.size = ⟨#[v0, v1, v2, v3, X 22, v5, v6, v7, X 0, X 1, X 2, X 3, X 4, X 5, X 6, X 7, X 8, X 9, X 10, X 11, X 12, X 13, X 14, X 15, X 16, X 17, X 18, X 19, X 20, X 21], []⟩ := by kernel_rfl
end Go.Proofs.Ytjbomhihhgblbaa
