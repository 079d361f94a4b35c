/- The operations of printSign's drawn region, each by its value. Made by a program. -/
import Derived.Test.YtgimkeklnpppjaaDoorCdVals
namespace Go.Proofs.YtgimkeklnpppjaaDoor
open Go.RowKit
def findR (n : Nat) : Code → Option (Array Oper)
  | .region m ops _ => if m = n then some ops else none
  | .seq a b => match findR n a with
    | some c => some c
    | none => findR n b
  | .scope c => findR n c
  | .block _ c => findR n c
  | .loop c => findR n c
  | .cond _ a b => match findR n a with
    | some c => some c
    | none => findR n b
  | _ => none
/-- The closed facts of a region, by running. -/
def okR (ops : Array Oper) (N : Nat) : Bool :=
  (List.range ops.size).all fun i => ((ops[i]?).map fun o => (o.after.all fun e => !Region.binds .any e || decide (e.on < i)) && (match o.dst with | some d => decide (d < N) | none => true) &&
    (List.range ops.size).all fun j => decide (j = i) || ((ops[j]?).map fun p => decide (o.dst = none) || decide (p.dst ≠ o.dst)).getD true).getD true
theorem okR_at {ops : Array Oper} {N : Nat} (h : okR ops N = true) {i : Nat} {o : Oper} (ho : ops[i]? = some o) :
    (∀ e ∈ o.after, Region.binds .any e = true → e.on < i) ∧ (∀ d, o.dst = some d → d < N) ∧ ∀ (j : Nat) oj d, ops[j]? = some oj → oj.dst = some d → o.dst = some d → j = i := by
  have hi : i < ops.size := (Array.getElem?_eq_some_iff.1 ho).1
  have h1 := List.all_eq_true.1 h i (List.mem_range.2 hi)
  rw [ho] at h1
  simp only [Option.map_some, Option.getD_some, Bool.and_eq_true] at h1
  obtain ⟨⟨h1, h2⟩, h3⟩ := h1
  refine ⟨fun e he hb => ?_, fun d hd => ?_, fun j oj d hj hdj hd => ?_⟩
  · have := Array.all_eq_true_iff_forall_mem.1 h1 e he
    rw [hb] at this
    simpa using this
  · rw [hd] at h2
    simpa using h2
  · have hjs : j < ops.size := (Array.getElem?_eq_some_iff.1 hj).1
    have h4 := List.all_eq_true.1 h3 j (List.mem_range.2 hjs)
    rw [hj] at h4
    simp only [Option.map_some, Option.getD_some, Bool.or_eq_true, decide_eq_true_eq] at h4
    rcases h4 with h4 | h4 | h4
    · exact h4
    · rw [hd] at h4; cases h4
    · rw [hd, hdj] at h4; exact absurd rfl h4
theorem ev_old {ops : Array Oper} {a0 a : Act} {V : Nat → Value} {listed : Array Bool} (hF : RFr ops a0 V listed a) (s : Nat) (v : Value) (hs : a0.tmps[s]? = some v) (hno : (ops.all fun o => decide (o.dst ≠ some s)) = true) : a.eval (.tmp s) = v := by
  have h := hF.old s (fun j o hj hd => by
    have := Array.all_eq_true_iff_forall_mem.1 hno o (Array.mem_of_getElem? hj)
    simp [hd] at this)
  rw [hs] at h
  show a.tmps.getD s undef = v
  rw [Array.getD_eq_getD_getElem?, h]
  rfl
theorem tm_dep {ops : Array Oper} {a0 a : Act} {V : Nat → Value} {listed : Array Bool} (hF : RFr ops a0 V listed a) (j d : Nat) (hd : (ops[j]?).bind (·.dst) = some d) (hl : listed.getD j false = true) : a.tmps[d]? = some (V j) := by
  obtain ⟨o, ho, hod⟩ : ∃ o, ops[j]? = some o ∧ o.dst = some d := by
    cases h : ops[j]? with
    | none => rw [h] at hd; cases hd
    | some o => rw [h] at hd; exact ⟨o, rfl, hd⟩
  refine hF.val j o d ho hod ?_
  have hj : j < listed.size := by
    rcases Nat.lt_or_ge j listed.size with h | h
    · exact h
    · unfold Array.getD at hl; rw [dif_neg (by omega)] at hl; cases hl
  rw [agetD _ _ _ hj] at hl ⊢
  exact hl
theorem tm_old {ops : Array Oper} {a0 a : Act} {V : Nat → Value} {listed : Array Bool} (hF : RFr ops a0 V listed a) (s : Nat) (v : Value) (hs : a0.tmps[s]? = some v) (hno : (ops.all fun o => decide (o.dst ≠ some s)) = true) : a.tmps[s]? = some v := by
  have h := hF.old s (fun j o hj hd => by
    have := Array.all_eq_true_iff_forall_mem.1 hno o (Array.mem_of_getElem? hj)
    simp [hd] at this)
  rw [h, hs]
theorem ev_dep {ops : Array Oper} {a0 a : Act} {V : Nat → Value} {listed : Array Bool} (hF : RFr ops a0 V listed a) (j d : Nat) (hd : (ops[j]?).bind (·.dst) = some d) (hl : listed.getD j false = true) : a.eval (.tmp d) = V j := by
  show a.tmps.getD d undef = V j
  rw [Array.getD_eq_getD_getElem?, tm_dep hF j d hd hl]
  rfl
theorem yl_dep {ops : Array Oper} {a0 a : Act} {V : Nat → Value} {listed : Array Bool} (hF : RFr ops a0 V listed a) (j d : Nat) (b : Bool) (hd : (ops[j]?).bind (·.dst) = some d) (hl : listed.getD j false = true) (hv : V j = .bool b) : yielded ops a.tmps j = some b := by
  unfold yielded
  rw [hd]
  show (match a.tmps[d]? with | some (.bool b) => some b | _ => none) = _
  rw [tm_dep hF j d hd hl, hv]
theorem fact {ops : Array Oper} {i : Nat} {o : Oper} {α : Type} {f : Oper → α} {x : α} (ho : ops[i]? = some o) (h : (ops[i]?).map f = some x) : f o = x := by rw [ho] at h; exact Option.some.inj h
theorem dep_of {ops : Array Oper} {i : Nat} {o : Oper} {listed : Array Bool} (ho : ops[i]? = some o) (hdep : ∀ e ∈ o.after, Region.binds .any e = true → listed.getD e.on false = true) (j : Nat) (h : ((ops[i]?).map fun o => o.after.any fun e => Region.binds .any e && e.on == j) = some true) : listed.getD j false = true := by
  have h1 : (o.after.any fun e => Region.binds .any e && e.on == j) = true := fact ho h
  rw [← Array.any_toList] at h1
  obtain ⟨e, he, hb⟩ := List.any_eq_true.1 h1
  simp only [Bool.and_eq_true, beq_iff_eq] at hb
  rw [← hb.2]
  exact hdep e (Array.mem_toList_iff.1 he) hb.1
theorem want_none {o : Oper} {f : Nat → Option Bool} (h : o.guard = none) : Region.wanted o f = true := by unfold Region.wanted; rw [h]
theorem want_some {o : Oper} {f : Nat → Option Bool} {j : Nat} {b c : Bool} (h : o.guard = some (j, b)) (hy : f j = some c) : Region.wanted o f = (c == b) := by
  unfold Region.wanted; rw [h]; show (f j == some b) = _; rw [hy]; cases b <;> cases c <;> rfl
noncomputable def reg4 : Array Oper := ((Tryd.f8.body.bind (findR 4)).getD #[])
theorem okR4 : okR reg4 17 = true := by kernel_rfl
def V4 (g : Nat) (st ms : ByteArray) (pr : Int) (N A0 A1 A2 A3 A4 : ByteArray) : Nat → Value
  | 0 => .pointer (some ⟨g, 0, none⟩)
  | 1 => .string st
  | 2 => .string A0
  | 3 => .string ms
  | 4 => .string A1
  | 5 => .string A2
  | 6 => .pointer (some ⟨g, 2, none⟩)
  | 7 => .int .i64 pr
  | 8 => .string N
  | 9 => .string A3
  | 10 => .string A4
  | 11 => .string A4
  | _ => undef
set_option maxRecDepth 100000 in
set_option maxHeartbeats 1000000 in
theorem step4 (a0 : Act) (g : Nat) (st ms : ByteArray) (pr : Int) (N A0 A1 A2 A3 A4 : ByteArray) (S : Array Bool → World → Prop) (Q : Exit → Act → World → Prop) (h1 : a0.tmps[1]? = some (.pointer (some ⟨g, 0, none⟩))) (h3 : a0.tmps[3]? = some (.string ms))
    (hmv : ∀ i : Nat, decide (i < 12) = true → ∀ listed W, S listed W → S (listed.setIfInBounds i true) W) (hc2 : ∀ listed W, S listed W → listed.size = reg4.size → listed.getD 2 true = false → (∀ j, ((reg4[2]?).map fun o => o.after.any fun e => Region.binds .any e && e.on == j) = some true → listed.getD j false = true) → Calls Tryd.prog 15 #[.int .i64 12, .string st] W fun e w' => e = .returned (.string A0) ∧ S (listed.setIfInBounds 2 true) w') (hc4 : ∀ listed W, S listed W → listed.size = reg4.size → listed.getD 4 true = false → (∀ j, ((reg4[4]?).map fun o => o.after.any fun e => Region.binds .any e && e.on == j) = some true → listed.getD j false = true) → Calls Tryd.prog 15 #[.int .i64 13, .string ms] W fun e w' => e = .returned (.string A1) ∧ S (listed.setIfInBounds 4 true) w') (hc8 : ∀ listed W, S listed W → listed.size = reg4.size → listed.getD 8 true = false → (∀ j, ((reg4[8]?).map fun o => o.after.any fun e => Region.binds .any e && e.on == j) = some true → listed.getD j false = true) → Calls Tryd.prog 16 #[.int .i64 pr] W fun e w' => e = .returned (.string N) ∧ S (listed.setIfInBounds 8 true) w') (hc9 : ∀ listed W, S listed W → listed.size = reg4.size → listed.getD 9 true = false → (∀ j, ((reg4[9]?).map fun o => o.after.any fun e => Region.binds .any e && e.on == j) = some true → listed.getD j false = true) → Calls Tryd.prog 15 #[.int .i64 14, .string N] W fun e w' => e = .returned (.string A3) ∧ S (listed.setIfInBounds 9 true) w') (hl1 : ∀ listed W, S listed W → listed.size = reg4.size → listed.getD 1 true = false → (∀ j, ((reg4[1]?).map fun o => o.after.any fun e => Region.binds .any e && e.on == j) = some true → listed.getD j false = true) → ∃ W2, (Instr.loadAt 9 (.pointer (some ⟨g, 0, none⟩))).run Tryd.prog W = .ok (.string st) W2 ∧ S (listed.setIfInBounds 1 true) W2) (hl7 : ∀ listed W, S listed W → listed.size = reg4.size → listed.getD 7 true = false → (∀ j, ((reg4[7]?).map fun o => o.after.any fun e => Region.binds .any e && e.on == j) = some true → listed.getD j false = true) → ∃ W2, (Instr.loadAt 3 (.pointer (some ⟨g, 2, none⟩))).run Tryd.prog W = .ok (.int .i64 pr) W2 ∧ S (listed.setIfInBounds 7 true) W2) (e1 : A0 ++ A1 = A2) (e2 : A2 ++ A3 = A4) (z1 : ¬ (9223372036854775807 < A0.size + A1.size)) (z2 : ¬ (9223372036854775807 < A2.size + A3.size))
    (i : Nat) (o : Oper) (a : Act) (w : World) (listed : Array Bool) (ho : reg4[i]? = some o) (hF : RFr reg4 a0 (V4 g st ms pr N A0 A1 A2 A3 A4) listed a) (hS : S listed w) (hls : listed.size = reg4.size) (hun : listed.getD i true = false) (hdep : ∀ e ∈ o.after, Region.binds .any e = true → listed.getD e.on false = true) :
      if Region.wanted o (yielded reg4 a.tmps) = true then Oper.wp Tryd.prog o a w (fun a' w' => a' = a.put o.dst (V4 g st ms pr N A0 A1 A2 A3 A4 i) ∧ S (listed.setIfInBounds i true) w') Q else V4 g st ms pr N A0 A1 A2 A3 A4 i = undef ∧ S (listed.setIfInBounds i true) w := by
  match i, ho with
  | 0, ho =>
    rw [if_pos (want_none (fact ho (by kernel_rfl)))]
    have hop : o.op = .fieldAddr 23 (.tmp 1) 0 := fact ho (by kernel_rfl)
    have hds : o.dst = some 6 := fact ho (by kernel_rfl)
    have t1 := tm_old hF 1 _ h1 (by kernel_rfl)
    have hS2 := hmv 0 (by decide) listed w hS
    unfold Oper.wp
    simp [execOp, hop, hds, t1, go_sem, V4, hS2]
  | 1, ho =>
    rw [if_pos (want_none (fact ho (by kernel_rfl)))]
    have hop : o.op = .load 9 (.tmp 6) := fact ho (by kernel_rfl)
    have hds : o.dst = some 7 := fact ho (by kernel_rfl)
    have t6 := tm_dep hF 0 6 (by kernel_rfl) (dep_of ho hdep 0 (by kernel_rfl))
    simp only [V4] at t6
    obtain ⟨W2, hr, hS2⟩ := hl1 listed w hS hls hun (fun j hj => dep_of ho hdep j hj)
    unfold Oper.wp
    simp [execOp, hop, hds, Act.eval, t6, hr, Oper.upon, Act.put, V4, hS2]
  | 2, ho =>
    rw [if_pos (want_none (fact ho (by kernel_rfl)))]
    have hop : o.op = .call { callee := .value (.func 15), args := #[(.const (.int .i64 12)), .tmp 7], argTypes := #[3, 9] } := fact ho (by kernel_rfl)
    have hds : o.dst = some 8 := fact ho (by kernel_rfl)
    have t7 := tm_dep hF 1 7 (by kernel_rfl) (dep_of ho hdep 1 (by kernel_rfl))
    simp only [V4] at t7
    unfold Oper.wp
    simp [execOp, hop, hds, t7, go_sem, V4]
    refine (hc2 listed w hS hls hun (fun j hj => dep_of ho hdep j hj)).mono ?_
    rintro e w' ⟨rfl, hS'⟩
    exact ⟨rfl, hS'⟩
  | 3, ho =>
    rw [if_pos (want_none (fact ho (by kernel_rfl)))]
    have hop : o.op = .move (.tmp 3) := fact ho (by kernel_rfl)
    have hds : o.dst = some 9 := fact ho (by kernel_rfl)
    have t3 := tm_old hF 3 _ h3 (by kernel_rfl)
    have hS2 := hmv 3 (by decide) listed w hS
    unfold Oper.wp
    simp [execOp, hop, hds, t3, go_sem, V4, hS2]
  | 4, ho =>
    rw [if_pos (want_none (fact ho (by kernel_rfl)))]
    have hop : o.op = .call { callee := .value (.func 15), args := #[(.const (.int .i64 13)), .tmp 9], argTypes := #[3, 9] } := fact ho (by kernel_rfl)
    have hds : o.dst = some 10 := fact ho (by kernel_rfl)
    have t9 := tm_dep hF 3 9 (by kernel_rfl) (dep_of ho hdep 3 (by kernel_rfl))
    simp only [V4] at t9
    unfold Oper.wp
    simp [execOp, hop, hds, t9, go_sem, V4]
    refine (hc4 listed w hS hls hun (fun j hj => dep_of ho hdep j hj)).mono ?_
    rintro e w' ⟨rfl, hS'⟩
    exact ⟨rfl, hS'⟩
  | 5, ho =>
    rw [if_pos (want_none (fact ho (by kernel_rfl)))]
    have hop : o.op = .binOp .add 9 (.tmp 8) (.tmp 10) 9 := fact ho (by kernel_rfl)
    have hds : o.dst = some 11 := fact ho (by kernel_rfl)
    have t8 := tm_dep hF 2 8 (by kernel_rfl) (dep_of ho hdep 2 (by kernel_rfl))
    simp only [V4] at t8
    have t10 := tm_dep hF 4 10 (by kernel_rfl) (dep_of ho hdep 4 (by kernel_rfl))
    simp only [V4] at t10
    have hS2 := hmv 5 (by decide) listed w hS
    unfold Oper.wp
    simp [execOp, hop, hds, t8, t10, e1, z1, go_sem, V4, hS2]
  | 6, ho =>
    rw [if_pos (want_none (fact ho (by kernel_rfl)))]
    have hop : o.op = .fieldAddr 23 (.tmp 1) 2 := fact ho (by kernel_rfl)
    have hds : o.dst = some 12 := fact ho (by kernel_rfl)
    have t1 := tm_old hF 1 _ h1 (by kernel_rfl)
    have hS2 := hmv 6 (by decide) listed w hS
    unfold Oper.wp
    simp [execOp, hop, hds, t1, go_sem, V4, hS2]
  | 7, ho =>
    rw [if_pos (want_none (fact ho (by kernel_rfl)))]
    have hop : o.op = .load 3 (.tmp 12) := fact ho (by kernel_rfl)
    have hds : o.dst = some 13 := fact ho (by kernel_rfl)
    have t12 := tm_dep hF 6 12 (by kernel_rfl) (dep_of ho hdep 6 (by kernel_rfl))
    simp only [V4] at t12
    obtain ⟨W2, hr, hS2⟩ := hl7 listed w hS hls hun (fun j hj => dep_of ho hdep j hj)
    unfold Oper.wp
    simp [execOp, hop, hds, Act.eval, t12, hr, Oper.upon, Act.put, V4, hS2]
  | 8, ho =>
    rw [if_pos (want_none (fact ho (by kernel_rfl)))]
    have hop : o.op = .call { callee := .value (.func 16), args := #[.tmp 13], argTypes := #[3] } := fact ho (by kernel_rfl)
    have hds : o.dst = some 14 := fact ho (by kernel_rfl)
    have t13 := tm_dep hF 7 13 (by kernel_rfl) (dep_of ho hdep 7 (by kernel_rfl))
    simp only [V4] at t13
    unfold Oper.wp
    simp [execOp, hop, hds, t13, go_sem, V4]
    refine (hc8 listed w hS hls hun (fun j hj => dep_of ho hdep j hj)).mono ?_
    rintro e w' ⟨rfl, hS'⟩
    exact ⟨rfl, hS'⟩
  | 9, ho =>
    rw [if_pos (want_none (fact ho (by kernel_rfl)))]
    have hop : o.op = .call { callee := .value (.func 15), args := #[(.const (.int .i64 14)), .tmp 14], argTypes := #[3, 9] } := fact ho (by kernel_rfl)
    have hds : o.dst = some 15 := fact ho (by kernel_rfl)
    have t14 := tm_dep hF 8 14 (by kernel_rfl) (dep_of ho hdep 8 (by kernel_rfl))
    simp only [V4] at t14
    unfold Oper.wp
    simp [execOp, hop, hds, t14, go_sem, V4]
    refine (hc9 listed w hS hls hun (fun j hj => dep_of ho hdep j hj)).mono ?_
    rintro e w' ⟨rfl, hS'⟩
    exact ⟨rfl, hS'⟩
  | 10, ho =>
    rw [if_pos (want_none (fact ho (by kernel_rfl)))]
    have hop : o.op = .binOp .add 9 (.tmp 11) (.tmp 15) 9 := fact ho (by kernel_rfl)
    have hds : o.dst = some 16 := fact ho (by kernel_rfl)
    have t11 := tm_dep hF 5 11 (by kernel_rfl) (dep_of ho hdep 5 (by kernel_rfl))
    simp only [V4] at t11
    have t15 := tm_dep hF 9 15 (by kernel_rfl) (dep_of ho hdep 9 (by kernel_rfl))
    simp only [V4] at t15
    have hS2 := hmv 10 (by decide) listed w hS
    unfold Oper.wp
    simp [execOp, hop, hds, t11, t15, e2, z2, go_sem, V4, hS2]
  | 11, ho =>
    rw [if_pos (want_none (fact ho (by kernel_rfl)))]
    have hop : o.op = .assign (.tmp 16) := fact ho (by kernel_rfl)
    have hds : o.dst = some 2 := fact ho (by kernel_rfl)
    have t16 := tm_dep hF 10 16 (by kernel_rfl) (dep_of ho hdep 10 (by kernel_rfl))
    simp only [V4] at t16
    have hS2 := hmv 11 (by decide) listed w hS
    unfold Oper.wp
    simp [execOp, hop, hds, t16, go_sem, V4, hS2]
  | n + 12, ho =>
    exfalso
    have h1 : n + 12 < reg4.size := (Array.getElem?_eq_some_iff.1 ho).1
    rw [show reg4.size = 12 from by kernel_rfl] at h1
    omega
set_option maxRecDepth 100000 in
theorem put4 (X : Nat → Value) (v0 v1 v2 v3 v4 v5 v6 v7 v8 v9 v10 v11 v12 v13 v14 v15 v16 : Value) : putN reg4 X ⟨#[v0, v1, v2, v3, v4, v5, v6, v7, v8, v9, v10, v11, v12, v13, v14, v15, v16], []⟩ reg4.size = ⟨#[v0, v1, X 11, v3, v4, v5, X 0, X 1, X 2, X 3, X 4, X 5, X 6, X 7, X 8, X 9, X 10], []⟩ := by kernel_rfl
end Go.Proofs.YtgimkeklnpppjaaDoor
