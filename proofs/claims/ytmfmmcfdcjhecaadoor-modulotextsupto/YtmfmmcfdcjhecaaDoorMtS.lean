/- ModuloTexts: the operations of its one region, each by its value. -/
import Derived.Test.YtmfmmcfdcjhecaaDoorVals
import Derived.Test.YtmfmmcfdcjhecaaDoorMt1
namespace Go.Proofs.YtmfmmcfdcjhecaaDoor
open Go.RowKit
def findR (n : Nat) : Code → Option (Array Oper)
  | .region m ops _ => if m = n then some ops else none
  | .seq a b => match findR n a with
    | some c => some c
    | none => findR n b
  | .scope c => findR n c
  | .block _ c => findR n c
  | .loop c => findR n c
  | .cond _ a b => match findR n a with
    | some c => some c
    | none => findR n b
  | _ => none
/-- The closed facts of a region, by running. -/
def okR (ops : Array Oper) (N : Nat) : Bool :=
  (List.range ops.size).all fun i => ((ops[i]?).map fun o => (o.after.all fun e => !Region.binds .any e || decide (e.on < i)) && (match o.dst with | some d => decide (d < N) | none => true) &&
    (List.range ops.size).all fun j => decide (j = i) || ((ops[j]?).map fun p => decide (o.dst = none) || decide (p.dst ≠ o.dst)).getD true).getD true
theorem okR_at {ops : Array Oper} {N : Nat} (h : okR ops N = true) {i : Nat} {o : Oper} (ho : ops[i]? = some o) :
    (∀ e ∈ o.after, Region.binds .any e = true → e.on < i) ∧ (∀ d, o.dst = some d → d < N) ∧ ∀ (j : Nat) oj d, ops[j]? = some oj → oj.dst = some d → o.dst = some d → j = i := by
  have hi : i < ops.size := (Array.getElem?_eq_some_iff.1 ho).1
  have h1 := List.all_eq_true.1 h i (List.mem_range.2 hi)
  rw [ho] at h1
  simp only [Option.map_some, Option.getD_some, Bool.and_eq_true] at h1
  obtain ⟨⟨h1, h2⟩, h3⟩ := h1
  refine ⟨fun e he hb => ?_, fun d hd => ?_, fun j oj d hj hdj hd => ?_⟩
  · have := Array.all_eq_true_iff_forall_mem.1 h1 e he
    rw [hb] at this
    simpa using this
  · rw [hd] at h2
    simpa using h2
  · have hjs : j < ops.size := (Array.getElem?_eq_some_iff.1 hj).1
    have h4 := List.all_eq_true.1 h3 j (List.mem_range.2 hjs)
    rw [hj] at h4
    simp only [Option.map_some, Option.getD_some, Bool.or_eq_true, decide_eq_true_eq] at h4
    rcases h4 with h4 | h4 | h4
    · exact h4
    · rw [hd] at h4; cases h4
    · rw [hd, hdj] at h4; exact absurd rfl h4
theorem ev_old {ops : Array Oper} {a0 a : Act} {V : Nat → Value} {listed : Array Bool} (hF : RFr ops a0 V listed a) (s : Nat) (v : Value) (hs : a0.tmps[s]? = some v) (hno : (ops.all fun o => decide (o.dst ≠ some s)) = true) : a.eval (.tmp s) = v := by
  have h := hF.old s (fun j o hj hd => by
    have := Array.all_eq_true_iff_forall_mem.1 hno o (Array.mem_of_getElem? hj)
    simp [hd] at this)
  rw [hs] at h
  show a.tmps.getD s undef = v
  rw [Array.getD_eq_getD_getElem?, h]
  rfl
theorem tm_dep {ops : Array Oper} {a0 a : Act} {V : Nat → Value} {listed : Array Bool} (hF : RFr ops a0 V listed a) (j d : Nat) (hd : (ops[j]?).bind (·.dst) = some d) (hl : listed.getD j false = true) : a.tmps[d]? = some (V j) := by
  obtain ⟨o, ho, hod⟩ : ∃ o, ops[j]? = some o ∧ o.dst = some d := by
    cases h : ops[j]? with
    | none => rw [h] at hd; cases hd
    | some o => rw [h] at hd; exact ⟨o, rfl, hd⟩
  refine hF.val j o d ho hod ?_
  have hj : j < listed.size := by
    rcases Nat.lt_or_ge j listed.size with h | h
    · exact h
    · unfold Array.getD at hl; rw [dif_neg (by omega)] at hl; cases hl
  rw [agetD _ _ _ hj] at hl ⊢
  exact hl
theorem tm_old {ops : Array Oper} {a0 a : Act} {V : Nat → Value} {listed : Array Bool} (hF : RFr ops a0 V listed a) (s : Nat) (v : Value) (hs : a0.tmps[s]? = some v) (hno : (ops.all fun o => decide (o.dst ≠ some s)) = true) : a.tmps[s]? = some v := by
  have h := hF.old s (fun j o hj hd => by
    have := Array.all_eq_true_iff_forall_mem.1 hno o (Array.mem_of_getElem? hj)
    simp [hd] at this)
  rw [h, hs]
theorem ev_dep {ops : Array Oper} {a0 a : Act} {V : Nat → Value} {listed : Array Bool} (hF : RFr ops a0 V listed a) (j d : Nat) (hd : (ops[j]?).bind (·.dst) = some d) (hl : listed.getD j false = true) : a.eval (.tmp d) = V j := by
  show a.tmps.getD d undef = V j
  rw [Array.getD_eq_getD_getElem?, tm_dep hF j d hd hl]
  rfl
theorem yl_dep {ops : Array Oper} {a0 a : Act} {V : Nat → Value} {listed : Array Bool} (hF : RFr ops a0 V listed a) (j d : Nat) (b : Bool) (hd : (ops[j]?).bind (·.dst) = some d) (hl : listed.getD j false = true) (hv : V j = .bool b) : yielded ops a.tmps j = some b := by
  unfold yielded
  rw [hd]
  show (match a.tmps[d]? with | some (.bool b) => some b | _ => none) = _
  rw [tm_dep hF j d hd hl, hv]
theorem fact {ops : Array Oper} {i : Nat} {o : Oper} {α : Type} {f : Oper → α} {x : α} (ho : ops[i]? = some o) (h : (ops[i]?).map f = some x) : f o = x := by rw [ho] at h; exact Option.some.inj h
theorem dep_of {ops : Array Oper} {i : Nat} {o : Oper} {listed : Array Bool} (ho : ops[i]? = some o) (hdep : ∀ e ∈ o.after, Region.binds .any e = true → listed.getD e.on false = true) (j : Nat) (h : ((ops[i]?).map fun o => o.after.any fun e => Region.binds .any e && e.on == j) = some true) : listed.getD j false = true := by
  have h1 : (o.after.any fun e => Region.binds .any e && e.on == j) = true := fact ho h
  rw [← Array.any_toList] at h1
  obtain ⟨e, he, hb⟩ := List.any_eq_true.1 h1
  simp only [Bool.and_eq_true, beq_iff_eq] at hb
  rw [← hb.2]
  exact hdep e (Array.mem_toList_iff.1 he) hb.1
theorem want_none {o : Oper} {f : Nat → Option Bool} (h : o.guard = none) : Region.wanted o f = true := by unfold Region.wanted; rw [h]
theorem want_some {o : Oper} {f : Nat → Option Bool} {j : Nat} {b c : Bool} (h : o.guard = some (j, b)) (hy : f j = some c) : Region.wanted o f = (c == b) := by
  unfold Region.wanted; rw [h]; show (f j == some b) = _; rw [hy]; cases b <;> cases c <;> rfl
noncomputable def reg1 : Array Oper := ((Tryd.f3.body.bind (findR 1)).getD #[])
theorem okR1 : okR reg1 32 = true := by kernel_rfl
def V1 (s F : List Nat) (u r K D : ByteArray) : Nat → Value
  | 0 => .agg (bs s)
  | 1 => .string u
  | 2 => .string K
  | 3 => .agg (bs s)
  | 4 => .string u
  | 5 => .string K
  | 6 => .bool true
  | 7 => .bool true
  | 8 => .agg (bs s)
  | 9 => .string u
  | 10 => .agg (bs F)
  | 11 => .agg (bs s)
  | 12 => .string u
  | 13 => .agg (bs F)
  | 14 => .bool true
  | 15 => .bool true
  | 16 => .bool true
  | 17 => .string r
  | 18 => .string u
  | 19 => .string D
  | 20 => .string r
  | 21 => .string u
  | 22 => .string D
  | 23 => .bool true
  | 24 => .bool true
  | 25 => .bool true
  | _ => undef
set_option maxHeartbeats 1000000 in
theorem step1 (a0 : Act) (g : Nat) (s F : List Nat) (u r K D : ByteArray) (S : World → Prop) (Q : Exit → Act → World → Prop) (h3 : a0.tmps[3]? = some (.pointer (some ⟨g, 0, none⟩))) (h1 : a0.tmps[1]? = some (.string u)) (h2 : a0.tmps[2]? = some (.string r))
    (hc4 : ∀ W, S W → Calls Tryd.prog 4 #[.agg (bs s), .string u] W fun e w' => e = .returned (.string K) ∧ S w') (hc5 : ∀ W, S W → Calls Tryd.prog 5 #[.agg (bs s), .string u] W fun e w' => e = .returned (.string K) ∧ S w') (hc6 : ∀ W, S W → Calls Tryd.prog 6 #[.agg (bs s), .string u] W fun e w' => e = .returned (.agg (bs F)) ∧ S w') (hc7 : ∀ W, S W → Calls Tryd.prog 7 #[.agg (bs s), .string u] W fun e w' => e = .returned (.agg (bs F)) ∧ S w') (hc8 : ∀ W, S W → Calls Tryd.prog 8 #[.string r, .string u] W fun e w' => e = .returned (.string D) ∧ S w') (hc9 : ∀ W, S W → Calls Tryd.prog 9 #[.string r, .string u] W fun e w' => e = .returned (.string D) ∧ S w') (hld : ∀ W, S W → (Instr.loadAt 23 (.pointer (some ⟨g, 0, none⟩))).run Tryd.prog W = .ok (.agg (bs s)) W) (heq : ∀ W, (Op.equalIn 10000 26 (.agg (bs F)) (.agg (bs F))).run Tryd.prog W = .ok true W)
    (i : Nat) (o : Oper) (a : Act) (w : World) (listed : Array Bool) (ho : reg1[i]? = some o) (hF : RFr reg1 a0 (V1 s F u r K D) listed a) (hS : S w) (hdep : ∀ e ∈ o.after, Region.binds .any e = true → listed.getD e.on false = true) :
      if Region.wanted o (yielded reg1 a.tmps) = true then Oper.wp Tryd.prog o a w (fun a' w' => a' = a.put o.dst (V1 s F u r K D i) ∧ S w') Q else V1 s F u r K D i = undef := by
  match i, ho with
  | 0, ho =>
    rw [if_pos (want_none (fact ho (by kernel_rfl)))]
    have hop : o.op = .load 23 (.tmp 3) := fact ho (by kernel_rfl)
    have hds : o.dst = some 7 := fact ho (by kernel_rfl)
    have t3 := tm_old hF 3 _ h3 (by kernel_rfl)
    unfold Oper.wp
    simp [execOp, hop, hds, Act.eval, t3, hld w hS, Oper.upon, Act.put, V1, hS]
  | 1, ho =>
    rw [if_pos (want_none (fact ho (by kernel_rfl)))]
    have hop : o.op = .move (.tmp 1) := fact ho (by kernel_rfl)
    have hds : o.dst = some 8 := fact ho (by kernel_rfl)
    have t1 := tm_old hF 1 _ h1 (by kernel_rfl)
    unfold Oper.wp
    simp [execOp, hop, hds, t1, go_sem, V1, hS]
  | 2, ho =>
    rw [if_pos (want_none (fact ho (by kernel_rfl)))]
    have hop : o.op = .call { callee := .value (.func 4), args := #[.tmp 7, .tmp 8], argTypes := #[23, 9] } := fact ho (by kernel_rfl)
    have hds : o.dst = some 9 := fact ho (by kernel_rfl)
    have t7 := tm_dep hF 0 7 (by kernel_rfl) (dep_of ho hdep 0 (by kernel_rfl))
    simp only [V1] at t7
    have t8 := tm_dep hF 1 8 (by kernel_rfl) (dep_of ho hdep 1 (by kernel_rfl))
    simp only [V1] at t8
    unfold Oper.wp
    simp [execOp, hop, hds, t7, t8, go_sem, V1]
    refine (hc4 w hS).mono ?_
    rintro e w' ⟨rfl, hS'⟩
    exact ⟨rfl, hS'⟩
  | 3, ho =>
    rw [if_pos (want_none (fact ho (by kernel_rfl)))]
    have hop : o.op = .load 23 (.tmp 3) := fact ho (by kernel_rfl)
    have hds : o.dst = some 10 := fact ho (by kernel_rfl)
    have t3 := tm_old hF 3 _ h3 (by kernel_rfl)
    unfold Oper.wp
    simp [execOp, hop, hds, Act.eval, t3, hld w hS, Oper.upon, Act.put, V1, hS]
  | 4, ho =>
    rw [if_pos (want_none (fact ho (by kernel_rfl)))]
    have hop : o.op = .move (.tmp 1) := fact ho (by kernel_rfl)
    have hds : o.dst = some 11 := fact ho (by kernel_rfl)
    have t1 := tm_old hF 1 _ h1 (by kernel_rfl)
    unfold Oper.wp
    simp [execOp, hop, hds, t1, go_sem, V1, hS]
  | 5, ho =>
    rw [if_pos (want_none (fact ho (by kernel_rfl)))]
    have hop : o.op = .call { callee := .value (.func 5), args := #[.tmp 10, .tmp 11], argTypes := #[23, 9] } := fact ho (by kernel_rfl)
    have hds : o.dst = some 12 := fact ho (by kernel_rfl)
    have t10 := tm_dep hF 3 10 (by kernel_rfl) (dep_of ho hdep 3 (by kernel_rfl))
    simp only [V1] at t10
    have t11 := tm_dep hF 4 11 (by kernel_rfl) (dep_of ho hdep 4 (by kernel_rfl))
    simp only [V1] at t11
    unfold Oper.wp
    simp [execOp, hop, hds, t10, t11, go_sem, V1]
    refine (hc5 w hS).mono ?_
    rintro e w' ⟨rfl, hS'⟩
    exact ⟨rfl, hS'⟩
  | 6, ho =>
    rw [if_pos (want_none (fact ho (by kernel_rfl)))]
    have hop : o.op = .binOp .eql 9 (.tmp 9) (.tmp 12) 9 := fact ho (by kernel_rfl)
    have hds : o.dst = some 13 := fact ho (by kernel_rfl)
    have t9 := tm_dep hF 2 9 (by kernel_rfl) (dep_of ho hdep 2 (by kernel_rfl))
    simp only [V1] at t9
    have t12 := tm_dep hF 5 12 (by kernel_rfl) (dep_of ho hdep 5 (by kernel_rfl))
    simp only [V1] at t12
    unfold Oper.wp
    simp [execOp, hop, hds, t9, t12, go_sem, V1, hS]
  | 7, ho =>
    rw [if_pos (want_none (fact ho (by kernel_rfl)))]
    have hop : o.op = .move (.tmp 13) := fact ho (by kernel_rfl)
    have hds : o.dst = some 14 := fact ho (by kernel_rfl)
    have t13 := tm_dep hF 6 13 (by kernel_rfl) (dep_of ho hdep 6 (by kernel_rfl))
    simp only [V1] at t13
    unfold Oper.wp
    simp [execOp, hop, hds, t13, go_sem, V1, hS]
  | 8, ho =>
    have hy := yl_dep hF 7 14 true (by kernel_rfl) (dep_of ho hdep 7 (by kernel_rfl)) rfl
    have hgd : o.guard = some (7, true) := fact ho (by kernel_rfl)
    rw [if_pos (by rw [want_some hgd hy]; rfl)]
    have hop : o.op = .load 23 (.tmp 3) := fact ho (by kernel_rfl)
    have hds : o.dst = some 15 := fact ho (by kernel_rfl)
    have t3 := tm_old hF 3 _ h3 (by kernel_rfl)
    unfold Oper.wp
    simp [execOp, hop, hds, Act.eval, t3, hld w hS, Oper.upon, Act.put, V1, hS]
  | 9, ho =>
    have hy := yl_dep hF 7 14 true (by kernel_rfl) (dep_of ho hdep 7 (by kernel_rfl)) rfl
    have hgd : o.guard = some (7, true) := fact ho (by kernel_rfl)
    rw [if_pos (by rw [want_some hgd hy]; rfl)]
    have hop : o.op = .move (.tmp 1) := fact ho (by kernel_rfl)
    have hds : o.dst = some 16 := fact ho (by kernel_rfl)
    have t1 := tm_old hF 1 _ h1 (by kernel_rfl)
    unfold Oper.wp
    simp [execOp, hop, hds, t1, go_sem, V1, hS]
  | 10, ho =>
    have hy := yl_dep hF 7 14 true (by kernel_rfl) (dep_of ho hdep 7 (by kernel_rfl)) rfl
    have hgd : o.guard = some (7, true) := fact ho (by kernel_rfl)
    rw [if_pos (by rw [want_some hgd hy]; rfl)]
    have hop : o.op = .call { callee := .value (.func 6), args := #[.tmp 15, .tmp 16], argTypes := #[23, 9] } := fact ho (by kernel_rfl)
    have hds : o.dst = some 17 := fact ho (by kernel_rfl)
    have t15 := tm_dep hF 8 15 (by kernel_rfl) (dep_of ho hdep 8 (by kernel_rfl))
    simp only [V1] at t15
    have t16 := tm_dep hF 9 16 (by kernel_rfl) (dep_of ho hdep 9 (by kernel_rfl))
    simp only [V1] at t16
    unfold Oper.wp
    simp [execOp, hop, hds, t15, t16, go_sem, V1]
    refine (hc6 w hS).mono ?_
    rintro e w' ⟨rfl, hS'⟩
    exact ⟨rfl, hS'⟩
  | 11, ho =>
    have hy := yl_dep hF 7 14 true (by kernel_rfl) (dep_of ho hdep 7 (by kernel_rfl)) rfl
    have hgd : o.guard = some (7, true) := fact ho (by kernel_rfl)
    rw [if_pos (by rw [want_some hgd hy]; rfl)]
    have hop : o.op = .load 23 (.tmp 3) := fact ho (by kernel_rfl)
    have hds : o.dst = some 18 := fact ho (by kernel_rfl)
    have t3 := tm_old hF 3 _ h3 (by kernel_rfl)
    unfold Oper.wp
    simp [execOp, hop, hds, Act.eval, t3, hld w hS, Oper.upon, Act.put, V1, hS]
  | 12, ho =>
    have hy := yl_dep hF 7 14 true (by kernel_rfl) (dep_of ho hdep 7 (by kernel_rfl)) rfl
    have hgd : o.guard = some (7, true) := fact ho (by kernel_rfl)
    rw [if_pos (by rw [want_some hgd hy]; rfl)]
    have hop : o.op = .move (.tmp 1) := fact ho (by kernel_rfl)
    have hds : o.dst = some 19 := fact ho (by kernel_rfl)
    have t1 := tm_old hF 1 _ h1 (by kernel_rfl)
    unfold Oper.wp
    simp [execOp, hop, hds, t1, go_sem, V1, hS]
  | 13, ho =>
    have hy := yl_dep hF 7 14 true (by kernel_rfl) (dep_of ho hdep 7 (by kernel_rfl)) rfl
    have hgd : o.guard = some (7, true) := fact ho (by kernel_rfl)
    rw [if_pos (by rw [want_some hgd hy]; rfl)]
    have hop : o.op = .call { callee := .value (.func 7), args := #[.tmp 18, .tmp 19], argTypes := #[23, 9] } := fact ho (by kernel_rfl)
    have hds : o.dst = some 20 := fact ho (by kernel_rfl)
    have t18 := tm_dep hF 11 18 (by kernel_rfl) (dep_of ho hdep 11 (by kernel_rfl))
    simp only [V1] at t18
    have t19 := tm_dep hF 12 19 (by kernel_rfl) (dep_of ho hdep 12 (by kernel_rfl))
    simp only [V1] at t19
    unfold Oper.wp
    simp [execOp, hop, hds, t18, t19, go_sem, V1]
    refine (hc7 w hS).mono ?_
    rintro e w' ⟨rfl, hS'⟩
    exact ⟨rfl, hS'⟩
  | 14, ho =>
    have hy := yl_dep hF 7 14 true (by kernel_rfl) (dep_of ho hdep 7 (by kernel_rfl)) rfl
    have hgd : o.guard = some (7, true) := fact ho (by kernel_rfl)
    rw [if_pos (by rw [want_some hgd hy]; rfl)]
    have hop : o.op = .binOp .eql 26 (.tmp 17) (.tmp 20) 26 := fact ho (by kernel_rfl)
    have hds : o.dst = some 21 := fact ho (by kernel_rfl)
    have t17 := tm_dep hF 10 17 (by kernel_rfl) (dep_of ho hdep 10 (by kernel_rfl))
    simp only [V1] at t17
    have t20 := tm_dep hF 13 20 (by kernel_rfl) (dep_of ho hdep 13 (by kernel_rfl))
    simp only [V1] at t20
    unfold Oper.wp
    simp [execOp, hop, hds, t17, t20, heq, go_sem, V1, hS]
  | 15, ho =>
    rw [if_pos (want_none (fact ho (by kernel_rfl)))]
    have hop : o.op = .pick (.tmp 14) (.tmp 21) (.const (.bool false)) := fact ho (by kernel_rfl)
    have hds : o.dst = some 22 := fact ho (by kernel_rfl)
    have t14 := tm_dep hF 7 14 (by kernel_rfl) (dep_of ho hdep 7 (by kernel_rfl))
    simp only [V1] at t14
    have t21 := tm_dep hF 14 21 (by kernel_rfl) (dep_of ho hdep 14 (by kernel_rfl))
    simp only [V1] at t21
    unfold Oper.wp
    simp [execOp, hop, hds, t14, t21, go_sem, V1, hS]
  | 16, ho =>
    rw [if_pos (want_none (fact ho (by kernel_rfl)))]
    have hop : o.op = .move (.tmp 22) := fact ho (by kernel_rfl)
    have hds : o.dst = some 23 := fact ho (by kernel_rfl)
    have t22 := tm_dep hF 15 22 (by kernel_rfl) (dep_of ho hdep 15 (by kernel_rfl))
    simp only [V1] at t22
    unfold Oper.wp
    simp [execOp, hop, hds, t22, go_sem, V1, hS]
  | 17, ho =>
    have hy := yl_dep hF 16 23 true (by kernel_rfl) (dep_of ho hdep 16 (by kernel_rfl)) rfl
    have hgd : o.guard = some (16, true) := fact ho (by kernel_rfl)
    rw [if_pos (by rw [want_some hgd hy]; rfl)]
    have hop : o.op = .move (.tmp 2) := fact ho (by kernel_rfl)
    have hds : o.dst = some 24 := fact ho (by kernel_rfl)
    have t2 := tm_old hF 2 _ h2 (by kernel_rfl)
    unfold Oper.wp
    simp [execOp, hop, hds, t2, go_sem, V1, hS]
  | 18, ho =>
    have hy := yl_dep hF 16 23 true (by kernel_rfl) (dep_of ho hdep 16 (by kernel_rfl)) rfl
    have hgd : o.guard = some (16, true) := fact ho (by kernel_rfl)
    rw [if_pos (by rw [want_some hgd hy]; rfl)]
    have hop : o.op = .move (.tmp 1) := fact ho (by kernel_rfl)
    have hds : o.dst = some 25 := fact ho (by kernel_rfl)
    have t1 := tm_old hF 1 _ h1 (by kernel_rfl)
    unfold Oper.wp
    simp [execOp, hop, hds, t1, go_sem, V1, hS]
  | 19, ho =>
    have hy := yl_dep hF 16 23 true (by kernel_rfl) (dep_of ho hdep 16 (by kernel_rfl)) rfl
    have hgd : o.guard = some (16, true) := fact ho (by kernel_rfl)
    rw [if_pos (by rw [want_some hgd hy]; rfl)]
    have hop : o.op = .call { callee := .value (.func 8), args := #[.tmp 24, .tmp 25], argTypes := #[9, 9] } := fact ho (by kernel_rfl)
    have hds : o.dst = some 26 := fact ho (by kernel_rfl)
    have t24 := tm_dep hF 17 24 (by kernel_rfl) (dep_of ho hdep 17 (by kernel_rfl))
    simp only [V1] at t24
    have t25 := tm_dep hF 18 25 (by kernel_rfl) (dep_of ho hdep 18 (by kernel_rfl))
    simp only [V1] at t25
    unfold Oper.wp
    simp [execOp, hop, hds, t24, t25, go_sem, V1]
    refine (hc8 w hS).mono ?_
    rintro e w' ⟨rfl, hS'⟩
    exact ⟨rfl, hS'⟩
  | 20, ho =>
    have hy := yl_dep hF 16 23 true (by kernel_rfl) (dep_of ho hdep 16 (by kernel_rfl)) rfl
    have hgd : o.guard = some (16, true) := fact ho (by kernel_rfl)
    rw [if_pos (by rw [want_some hgd hy]; rfl)]
    have hop : o.op = .move (.tmp 2) := fact ho (by kernel_rfl)
    have hds : o.dst = some 27 := fact ho (by kernel_rfl)
    have t2 := tm_old hF 2 _ h2 (by kernel_rfl)
    unfold Oper.wp
    simp [execOp, hop, hds, t2, go_sem, V1, hS]
  | 21, ho =>
    have hy := yl_dep hF 16 23 true (by kernel_rfl) (dep_of ho hdep 16 (by kernel_rfl)) rfl
    have hgd : o.guard = some (16, true) := fact ho (by kernel_rfl)
    rw [if_pos (by rw [want_some hgd hy]; rfl)]
    have hop : o.op = .move (.tmp 1) := fact ho (by kernel_rfl)
    have hds : o.dst = some 28 := fact ho (by kernel_rfl)
    have t1 := tm_old hF 1 _ h1 (by kernel_rfl)
    unfold Oper.wp
    simp [execOp, hop, hds, t1, go_sem, V1, hS]
  | 22, ho =>
    have hy := yl_dep hF 16 23 true (by kernel_rfl) (dep_of ho hdep 16 (by kernel_rfl)) rfl
    have hgd : o.guard = some (16, true) := fact ho (by kernel_rfl)
    rw [if_pos (by rw [want_some hgd hy]; rfl)]
    have hop : o.op = .call { callee := .value (.func 9), args := #[.tmp 27, .tmp 28], argTypes := #[9, 9] } := fact ho (by kernel_rfl)
    have hds : o.dst = some 29 := fact ho (by kernel_rfl)
    have t27 := tm_dep hF 20 27 (by kernel_rfl) (dep_of ho hdep 20 (by kernel_rfl))
    simp only [V1] at t27
    have t28 := tm_dep hF 21 28 (by kernel_rfl) (dep_of ho hdep 21 (by kernel_rfl))
    simp only [V1] at t28
    unfold Oper.wp
    simp [execOp, hop, hds, t27, t28, go_sem, V1]
    refine (hc9 w hS).mono ?_
    rintro e w' ⟨rfl, hS'⟩
    exact ⟨rfl, hS'⟩
  | 23, ho =>
    have hy := yl_dep hF 16 23 true (by kernel_rfl) (dep_of ho hdep 16 (by kernel_rfl)) rfl
    have hgd : o.guard = some (16, true) := fact ho (by kernel_rfl)
    rw [if_pos (by rw [want_some hgd hy]; rfl)]
    have hop : o.op = .binOp .eql 9 (.tmp 26) (.tmp 29) 9 := fact ho (by kernel_rfl)
    have hds : o.dst = some 30 := fact ho (by kernel_rfl)
    have t26 := tm_dep hF 19 26 (by kernel_rfl) (dep_of ho hdep 19 (by kernel_rfl))
    simp only [V1] at t26
    have t29 := tm_dep hF 22 29 (by kernel_rfl) (dep_of ho hdep 22 (by kernel_rfl))
    simp only [V1] at t29
    unfold Oper.wp
    simp [execOp, hop, hds, t26, t29, go_sem, V1, hS]
  | 24, ho =>
    rw [if_pos (want_none (fact ho (by kernel_rfl)))]
    have hop : o.op = .pick (.tmp 23) (.tmp 30) (.const (.bool false)) := fact ho (by kernel_rfl)
    have hds : o.dst = some 31 := fact ho (by kernel_rfl)
    have t23 := tm_dep hF 16 23 (by kernel_rfl) (dep_of ho hdep 16 (by kernel_rfl))
    simp only [V1] at t23
    have t30 := tm_dep hF 23 30 (by kernel_rfl) (dep_of ho hdep 23 (by kernel_rfl))
    simp only [V1] at t30
    unfold Oper.wp
    simp [execOp, hop, hds, t23, t30, go_sem, V1, hS]
  | 25, ho =>
    rw [if_pos (want_none (fact ho (by kernel_rfl)))]
    have hop : o.op = .assign (.tmp 31) := fact ho (by kernel_rfl)
    have hds : o.dst = some 6 := fact ho (by kernel_rfl)
    have t31 := tm_dep hF 24 31 (by kernel_rfl) (dep_of ho hdep 24 (by kernel_rfl))
    simp only [V1] at t31
    unfold Oper.wp
    simp [execOp, hop, hds, t31, go_sem, V1, hS]
  | n + 26, ho =>
    exfalso
    have h1 : n + 26 < reg1.size := (Array.getElem?_eq_some_iff.1 ho).1
    rw [show reg1.size = 26 from by kernel_rfl] at h1
    omega
set_option maxRecDepth 100000 in
theorem put1 (X : Nat → Value) (v0 v1 v2 v3 v4 v5 v6 v7 v8 v9 v10 v11 v12 v13 v14 v15 v16 v17 v18 v19 v20 v21 v22 v23 v24 v25 v26 v27 v28 v29 v30 v31 : Value) : putN reg1 X ⟨#[v0, v1, v2, v3, v4, v5, v6, v7, v8, v9, v10, v11, v12, v13, v14, v15, v16, v17, v18, v19, v20, v21, v22, v23, v24, v25, v26, v27, v28, v29, v30, v31], []⟩ reg1.size = ⟨#[v0, v1, v2, v3, v4, v5, X 25, X 0, X 1, X 2, X 3, X 4, X 5, X 6, X 7, X 8, X 9, X 10, X 11, X 12, X 13, X 14, X 15, X 16, X 17, X 18, X 19, X 20, X 21, X 22, X 23, X 24], []⟩ := by kernel_rfl
end Go.Proofs.YtmfmmcfdcjhecaaDoor
