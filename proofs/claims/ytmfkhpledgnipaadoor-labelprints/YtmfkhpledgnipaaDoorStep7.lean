/- The drawn region of LabelPrints: each operation by its value. Made by a program from a table of operations. -/
import Derived.Test.YtmfkhpledgnipaaDoorPrn
import Derived.Test.YtmfkhpledgnipaaDoorVals
namespace Go.Proofs.YtmfkhpledgnipaaDoor
open Go.RowKit
def findR (n : Nat) : Code → Option (Array Oper)
  | .region m ops _ => if m = n then some ops else none
  | .seq a b => match findR n a with
    | some c => some c
    | none => findR n b
  | .scope c => findR n c
  | .block _ c => findR n c
  | .loop c => findR n c
  | .cond _ a b => match findR n a with
    | some c => some c
    | none => findR n b
  | _ => none
/-- The closed facts of a region, by running. -/
def okR (ops : Array Oper) (N : Nat) : Bool :=
  (List.range ops.size).all fun i => ((ops[i]?).map fun o => (o.after.all fun e => !Region.binds .any e || decide (e.on < i)) && (match o.dst with | some d => decide (d < N) | none => true) &&
    (List.range ops.size).all fun j => decide (j = i) || ((ops[j]?).map fun p => decide (o.dst = none) || decide (p.dst ≠ o.dst)).getD true).getD true
theorem okR_at {ops : Array Oper} {N : Nat} (h : okR ops N = true) {i : Nat} {o : Oper} (ho : ops[i]? = some o) :
    (∀ e ∈ o.after, Region.binds .any e = true → e.on < i) ∧ (∀ d, o.dst = some d → d < N) ∧ ∀ (j : Nat) oj d, ops[j]? = some oj → oj.dst = some d → o.dst = some d → j = i := by
  have hi : i < ops.size := (Array.getElem?_eq_some_iff.1 ho).1
  have h1 := List.all_eq_true.1 h i (List.mem_range.2 hi)
  rw [ho] at h1
  simp only [Option.map_some, Option.getD_some, Bool.and_eq_true] at h1
  obtain ⟨⟨h1, h2⟩, h3⟩ := h1
  refine ⟨fun e he hb => ?_, fun d hd => ?_, fun j oj d hj hdj hd => ?_⟩
  · have := Array.all_eq_true_iff_forall_mem.1 h1 e he
    rw [hb] at this
    simpa using this
  · rw [hd] at h2
    simpa using h2
  · have hjs : j < ops.size := (Array.getElem?_eq_some_iff.1 hj).1
    have h4 := List.all_eq_true.1 h3 j (List.mem_range.2 hjs)
    rw [hj] at h4
    simp only [Option.map_some, Option.getD_some, Bool.or_eq_true, decide_eq_true_eq] at h4
    rcases h4 with h4 | h4 | h4
    · exact h4
    · rw [hd] at h4; cases h4
    · rw [hd, hdj] at h4; exact absurd rfl h4
theorem ev_old {ops : Array Oper} {a0 a : Act} {V : Nat → Value} {listed : Array Bool} (hF : RFr ops a0 V listed a) (s : Nat) (v : Value) (hs : a0.tmps[s]? = some v) (hno : (ops.all fun o => decide (o.dst ≠ some s)) = true) : a.eval (.tmp s) = v := by
  have h := hF.old s (fun j o hj hd => by
    have := Array.all_eq_true_iff_forall_mem.1 hno o (Array.mem_of_getElem? hj)
    simp [hd] at this)
  rw [hs] at h
  show a.tmps.getD s undef = v
  rw [Array.getD_eq_getD_getElem?, h]
  rfl
theorem tm_dep {ops : Array Oper} {a0 a : Act} {V : Nat → Value} {listed : Array Bool} (hF : RFr ops a0 V listed a) (j d : Nat) (hd : (ops[j]?).bind (·.dst) = some d) (hl : listed.getD j false = true) : a.tmps[d]? = some (V j) := by
  obtain ⟨o, ho, hod⟩ : ∃ o, ops[j]? = some o ∧ o.dst = some d := by
    cases h : ops[j]? with
    | none => rw [h] at hd; cases hd
    | some o => rw [h] at hd; exact ⟨o, rfl, hd⟩
  refine hF.val j o d ho hod ?_
  have hj : j < listed.size := by
    rcases Nat.lt_or_ge j listed.size with h | h
    · exact h
    · unfold Array.getD at hl; rw [dif_neg (by omega)] at hl; cases hl
  rw [agetD _ _ _ hj] at hl ⊢
  exact hl
theorem tm_old {ops : Array Oper} {a0 a : Act} {V : Nat → Value} {listed : Array Bool} (hF : RFr ops a0 V listed a) (s : Nat) (v : Value) (hs : a0.tmps[s]? = some v) (hno : (ops.all fun o => decide (o.dst ≠ some s)) = true) : a.tmps[s]? = some v := by
  have h := hF.old s (fun j o hj hd => by
    have := Array.all_eq_true_iff_forall_mem.1 hno o (Array.mem_of_getElem? hj)
    simp [hd] at this)
  rw [h, hs]
theorem ev_dep {ops : Array Oper} {a0 a : Act} {V : Nat → Value} {listed : Array Bool} (hF : RFr ops a0 V listed a) (j d : Nat) (hd : (ops[j]?).bind (·.dst) = some d) (hl : listed.getD j false = true) : a.eval (.tmp d) = V j := by
  show a.tmps.getD d undef = V j
  rw [Array.getD_eq_getD_getElem?, tm_dep hF j d hd hl]
  rfl
theorem yl_dep {ops : Array Oper} {a0 a : Act} {V : Nat → Value} {listed : Array Bool} (hF : RFr ops a0 V listed a) (j d : Nat) (b : Bool) (hd : (ops[j]?).bind (·.dst) = some d) (hl : listed.getD j false = true) (hv : V j = .bool b) : yielded ops a.tmps j = some b := by
  unfold yielded
  rw [hd]
  show (match a.tmps[d]? with | some (.bool b) => some b | _ => none) = _
  rw [tm_dep hF j d hd hl, hv]
theorem fact {ops : Array Oper} {i : Nat} {o : Oper} {α : Type} {f : Oper → α} {x : α} (ho : ops[i]? = some o) (h : (ops[i]?).map f = some x) : f o = x := by rw [ho] at h; exact Option.some.inj h
theorem dep_of {ops : Array Oper} {i : Nat} {o : Oper} {listed : Array Bool} (ho : ops[i]? = some o) (hdep : ∀ e ∈ o.after, Region.binds .any e = true → listed.getD e.on false = true) (j : Nat) (h : ((ops[i]?).map fun o => o.after.any fun e => Region.binds .any e && e.on == j) = some true) : listed.getD j false = true := by
  have h1 : (o.after.any fun e => Region.binds .any e && e.on == j) = true := fact ho h
  rw [← Array.any_toList] at h1
  obtain ⟨e, he, hb⟩ := List.any_eq_true.1 h1
  simp only [Bool.and_eq_true, beq_iff_eq] at hb
  rw [← hb.2]
  exact hdep e (Array.mem_toList_iff.1 he) hb.1
theorem want_none {o : Oper} {f : Nat → Option Bool} (h : o.guard = none) : Region.wanted o f = true := by unfold Region.wanted; rw [h]
theorem want_some {o : Oper} {f : Nat → Option Bool} {j : Nat} {b c : Bool} (h : o.guard = some (j, b)) (hy : f j = some c) : Region.wanted o f = (c == b) := by
  unfold Region.wanted; rw [h]; show (f j == some b) = _; rw [hy]; cases b <;> cases c <;> rfl
noncomputable def reg7 : Array Oper := ((Tryd.f5.body.bind (findR 7)).getD #[])
theorem okR7 : okR reg7 54 = true := by kernel_rfl
def V7 (X : ByteArray) (E C : Int) (A B : Array Value) : Nat → Value
  | 0 => .string X
  | 1 => .string X
  | 2 => .bool true
  | 3 => .bool true
  | 4 => .int .i64 E
  | 5 => .int .i64 E
  | 6 => .bool true
  | 7 => .bool true
  | 8 => .bool true
  | 9 => .agg A
  | 10 => .agg B
  | 11 => .int .i64 C
  | 12 => .agg A
  | 13 => .agg B
  | 14 => .int .i64 C
  | 15 => .bool true
  | 16 => .bool true
  | 17 => .bool true
  | _ => undef
set_option maxHeartbeats 1000000 in
theorem step7 (a0 : Act) (G H : Nat) (X : ByteArray) (E C : Int) (A B : Array Value) (S : World → Prop) (Q : Exit → Act → World → Prop) (h5 : a0.tmps[5]? = some (.string X)) (h7 : a0.tmps[7]? = some (.string X)) (h6 : a0.tmps[6]? = some (.int .i64 E)) (h8 : a0.tmps[8]? = some (.int .i64 E)) (h2 : a0.tmps[2]? = some (.pointer (some ⟨G, 0, none⟩))) (h3 : a0.tmps[3]? = some (.pointer (some ⟨H, 0, none⟩)))
    (hA : ∀ w, S w → (Instr.loadAt 25 (.pointer (some ⟨G, 0, none⟩))).run Tryd.prog w = .ok (.agg A) w) (hB : ∀ w, S w → (Instr.loadAt 25 (.pointer (some ⟨H, 0, none⟩))).run Tryd.prog w = .ok (.agg B) w) (hC : ∀ w, S w → Calls Tryd.prog 18 #[.agg A, .agg B] w fun e w' => e = .returned (.int .i64 C) ∧ S w') (hR : ∀ w, S w → Calls Tryd.prog 19 #[.agg A, .agg B] w fun e w' => e = .returned (.int .i64 C) ∧ S w')
    (i : Nat) (o : Oper) (a : Act) (w : World) (listed : Array Bool) (ho : reg7[i]? = some o) (hF : RFr reg7 a0 (V7 X E C A B) listed a) (hS : S w) (hdep : ∀ e ∈ o.after, Region.binds .any e = true → listed.getD e.on false = true) :
      if Region.wanted o (yielded reg7 a.tmps) = true then Oper.wp Tryd.prog o a w (fun a' w' => a' = a.put o.dst (V7 X E C A B i) ∧ S w') Q else V7 X E C A B i = undef := by
  match i, ho with
  | 0, ho =>
    rw [if_pos (want_none (fact ho (by kernel_rfl)))]
    have hop : o.op = .move (.tmp 5) := fact ho (by kernel_rfl)
    have hds : o.dst = some 37 := fact ho (by kernel_rfl)
    have t5 := tm_old hF 5 _ h5 (by kernel_rfl)
    unfold Oper.wp
    simp [execOp, hop, hds, t5, go_sem, V7, hS]
  | 1, ho =>
    rw [if_pos (want_none (fact ho (by kernel_rfl)))]
    have hop : o.op = .move (.tmp 7) := fact ho (by kernel_rfl)
    have hds : o.dst = some 38 := fact ho (by kernel_rfl)
    have t7 := tm_old hF 7 _ h7 (by kernel_rfl)
    unfold Oper.wp
    simp [execOp, hop, hds, t7, go_sem, V7, hS]
  | 2, ho =>
    rw [if_pos (want_none (fact ho (by kernel_rfl)))]
    have hop : o.op = .binOp .eql 9 (.tmp 37) (.tmp 38) 9 := fact ho (by kernel_rfl)
    have hds : o.dst = some 39 := fact ho (by kernel_rfl)
    have t37 := tm_dep hF 0 37 (by kernel_rfl) (dep_of ho hdep 0 (by kernel_rfl))
    simp only [V7] at t37
    have t38 := tm_dep hF 1 38 (by kernel_rfl) (dep_of ho hdep 1 (by kernel_rfl))
    simp only [V7] at t38
    unfold Oper.wp
    simp [execOp, hop, hds, t37, t38, go_sem, V7, hS]
  | 3, ho =>
    rw [if_pos (want_none (fact ho (by kernel_rfl)))]
    have hop : o.op = .move (.tmp 39) := fact ho (by kernel_rfl)
    have hds : o.dst = some 40 := fact ho (by kernel_rfl)
    have t39 := tm_dep hF 2 39 (by kernel_rfl) (dep_of ho hdep 2 (by kernel_rfl))
    simp only [V7] at t39
    unfold Oper.wp
    simp [execOp, hop, hds, t39, go_sem, V7, hS]
  | 4, ho =>
    have hy := yl_dep hF 3 40 true (by kernel_rfl) (dep_of ho hdep 3 (by kernel_rfl)) rfl
    have hgd : o.guard = some (3, true) := fact ho (by kernel_rfl)
    rw [if_pos (by rw [want_some hgd hy]; rfl)]
    have hop : o.op = .move (.tmp 6) := fact ho (by kernel_rfl)
    have hds : o.dst = some 41 := fact ho (by kernel_rfl)
    have t6 := tm_old hF 6 _ h6 (by kernel_rfl)
    unfold Oper.wp
    simp [execOp, hop, hds, t6, go_sem, V7, hS]
  | 5, ho =>
    have hy := yl_dep hF 3 40 true (by kernel_rfl) (dep_of ho hdep 3 (by kernel_rfl)) rfl
    have hgd : o.guard = some (3, true) := fact ho (by kernel_rfl)
    rw [if_pos (by rw [want_some hgd hy]; rfl)]
    have hop : o.op = .move (.tmp 8) := fact ho (by kernel_rfl)
    have hds : o.dst = some 42 := fact ho (by kernel_rfl)
    have t8 := tm_old hF 8 _ h8 (by kernel_rfl)
    unfold Oper.wp
    simp [execOp, hop, hds, t8, go_sem, V7, hS]
  | 6, ho =>
    have hy := yl_dep hF 3 40 true (by kernel_rfl) (dep_of ho hdep 3 (by kernel_rfl)) rfl
    have hgd : o.guard = some (3, true) := fact ho (by kernel_rfl)
    rw [if_pos (by rw [want_some hgd hy]; rfl)]
    have hop : o.op = .binOp .eql 26 (.tmp 41) (.tmp 42) 26 := fact ho (by kernel_rfl)
    have hds : o.dst = some 43 := fact ho (by kernel_rfl)
    have t41 := tm_dep hF 4 41 (by kernel_rfl) (dep_of ho hdep 4 (by kernel_rfl))
    simp only [V7] at t41
    have t42 := tm_dep hF 5 42 (by kernel_rfl) (dep_of ho hdep 5 (by kernel_rfl))
    simp only [V7] at t42
    unfold Oper.wp
    simp [execOp, hop, hds, t41, t42, go_sem, V7, hS]
  | 7, ho =>
    rw [if_pos (want_none (fact ho (by kernel_rfl)))]
    have hop : o.op = .pick (.tmp 40) (.tmp 43) (.const (.bool false)) := fact ho (by kernel_rfl)
    have hds : o.dst = some 44 := fact ho (by kernel_rfl)
    have t40 := tm_dep hF 3 40 (by kernel_rfl) (dep_of ho hdep 3 (by kernel_rfl))
    simp only [V7] at t40
    have t43 := tm_dep hF 6 43 (by kernel_rfl) (dep_of ho hdep 6 (by kernel_rfl))
    simp only [V7] at t43
    unfold Oper.wp
    simp [execOp, hop, hds, t40, t43, go_sem, V7, hS]
  | 8, ho =>
    rw [if_pos (want_none (fact ho (by kernel_rfl)))]
    have hop : o.op = .move (.tmp 44) := fact ho (by kernel_rfl)
    have hds : o.dst = some 45 := fact ho (by kernel_rfl)
    have t44 := tm_dep hF 7 44 (by kernel_rfl) (dep_of ho hdep 7 (by kernel_rfl))
    simp only [V7] at t44
    unfold Oper.wp
    simp [execOp, hop, hds, t44, go_sem, V7, hS]
  | 9, ho =>
    have hy := yl_dep hF 8 45 true (by kernel_rfl) (dep_of ho hdep 8 (by kernel_rfl)) rfl
    have hgd : o.guard = some (8, true) := fact ho (by kernel_rfl)
    rw [if_pos (by rw [want_some hgd hy]; rfl)]
    have hop : o.op = .load 25 (.tmp 2) := fact ho (by kernel_rfl)
    have hds : o.dst = some 46 := fact ho (by kernel_rfl)
    have t2 := tm_old hF 2 _ h2 (by kernel_rfl)
    unfold Oper.wp
    simp [execOp, hop, hds, Act.eval, t2, hA w hS, Oper.upon, Act.put, V7, hS]
  | 10, ho =>
    have hy := yl_dep hF 8 45 true (by kernel_rfl) (dep_of ho hdep 8 (by kernel_rfl)) rfl
    have hgd : o.guard = some (8, true) := fact ho (by kernel_rfl)
    rw [if_pos (by rw [want_some hgd hy]; rfl)]
    have hop : o.op = .load 25 (.tmp 3) := fact ho (by kernel_rfl)
    have hds : o.dst = some 47 := fact ho (by kernel_rfl)
    have t3 := tm_old hF 3 _ h3 (by kernel_rfl)
    unfold Oper.wp
    simp [execOp, hop, hds, Act.eval, t3, hB w hS, Oper.upon, Act.put, V7, hS]
  | 11, ho =>
    have hy := yl_dep hF 8 45 true (by kernel_rfl) (dep_of ho hdep 8 (by kernel_rfl)) rfl
    have hgd : o.guard = some (8, true) := fact ho (by kernel_rfl)
    rw [if_pos (by rw [want_some hgd hy]; rfl)]
    have hop : o.op = .call { callee := .value (.func 18), args := #[.tmp 46, .tmp 47], argTypes := #[25, 25] } := fact ho (by kernel_rfl)
    have hds : o.dst = some 48 := fact ho (by kernel_rfl)
    have t46 := tm_dep hF 9 46 (by kernel_rfl) (dep_of ho hdep 9 (by kernel_rfl))
    simp only [V7] at t46
    have t47 := tm_dep hF 10 47 (by kernel_rfl) (dep_of ho hdep 10 (by kernel_rfl))
    simp only [V7] at t47
    unfold Oper.wp
    simp [execOp, hop, hds, t46, t47, go_sem, V7]
    refine (hC w hS).mono ?_
    rintro e w' ⟨rfl, hS'⟩
    exact ⟨rfl, hS'⟩
  | 12, ho =>
    have hy := yl_dep hF 8 45 true (by kernel_rfl) (dep_of ho hdep 8 (by kernel_rfl)) rfl
    have hgd : o.guard = some (8, true) := fact ho (by kernel_rfl)
    rw [if_pos (by rw [want_some hgd hy]; rfl)]
    have hop : o.op = .load 25 (.tmp 2) := fact ho (by kernel_rfl)
    have hds : o.dst = some 49 := fact ho (by kernel_rfl)
    have t2 := tm_old hF 2 _ h2 (by kernel_rfl)
    unfold Oper.wp
    simp [execOp, hop, hds, Act.eval, t2, hA w hS, Oper.upon, Act.put, V7, hS]
  | 13, ho =>
    have hy := yl_dep hF 8 45 true (by kernel_rfl) (dep_of ho hdep 8 (by kernel_rfl)) rfl
    have hgd : o.guard = some (8, true) := fact ho (by kernel_rfl)
    rw [if_pos (by rw [want_some hgd hy]; rfl)]
    have hop : o.op = .load 25 (.tmp 3) := fact ho (by kernel_rfl)
    have hds : o.dst = some 50 := fact ho (by kernel_rfl)
    have t3 := tm_old hF 3 _ h3 (by kernel_rfl)
    unfold Oper.wp
    simp [execOp, hop, hds, Act.eval, t3, hB w hS, Oper.upon, Act.put, V7, hS]
  | 14, ho =>
    have hy := yl_dep hF 8 45 true (by kernel_rfl) (dep_of ho hdep 8 (by kernel_rfl)) rfl
    have hgd : o.guard = some (8, true) := fact ho (by kernel_rfl)
    rw [if_pos (by rw [want_some hgd hy]; rfl)]
    have hop : o.op = .call { callee := .value (.func 19), args := #[.tmp 49, .tmp 50], argTypes := #[25, 25] } := fact ho (by kernel_rfl)
    have hds : o.dst = some 51 := fact ho (by kernel_rfl)
    have t49 := tm_dep hF 12 49 (by kernel_rfl) (dep_of ho hdep 12 (by kernel_rfl))
    simp only [V7] at t49
    have t50 := tm_dep hF 13 50 (by kernel_rfl) (dep_of ho hdep 13 (by kernel_rfl))
    simp only [V7] at t50
    unfold Oper.wp
    simp [execOp, hop, hds, t49, t50, go_sem, V7]
    refine (hR w hS).mono ?_
    rintro e w' ⟨rfl, hS'⟩
    exact ⟨rfl, hS'⟩
  | 15, ho =>
    have hy := yl_dep hF 8 45 true (by kernel_rfl) (dep_of ho hdep 8 (by kernel_rfl)) rfl
    have hgd : o.guard = some (8, true) := fact ho (by kernel_rfl)
    rw [if_pos (by rw [want_some hgd hy]; rfl)]
    have hop : o.op = .binOp .eql 3 (.tmp 48) (.tmp 51) 3 := fact ho (by kernel_rfl)
    have hds : o.dst = some 52 := fact ho (by kernel_rfl)
    have t48 := tm_dep hF 11 48 (by kernel_rfl) (dep_of ho hdep 11 (by kernel_rfl))
    simp only [V7] at t48
    have t51 := tm_dep hF 14 51 (by kernel_rfl) (dep_of ho hdep 14 (by kernel_rfl))
    simp only [V7] at t51
    unfold Oper.wp
    simp [execOp, hop, hds, t48, t51, go_sem, V7, hS]
  | 16, ho =>
    rw [if_pos (want_none (fact ho (by kernel_rfl)))]
    have hop : o.op = .pick (.tmp 45) (.tmp 52) (.const (.bool false)) := fact ho (by kernel_rfl)
    have hds : o.dst = some 53 := fact ho (by kernel_rfl)
    have t45 := tm_dep hF 8 45 (by kernel_rfl) (dep_of ho hdep 8 (by kernel_rfl))
    simp only [V7] at t45
    have t52 := tm_dep hF 15 52 (by kernel_rfl) (dep_of ho hdep 15 (by kernel_rfl))
    simp only [V7] at t52
    unfold Oper.wp
    simp [execOp, hop, hds, t45, t52, go_sem, V7, hS]
  | 17, ho =>
    rw [if_pos (want_none (fact ho (by kernel_rfl)))]
    have hop : o.op = .assign (.tmp 53) := fact ho (by kernel_rfl)
    have hds : o.dst = some 4 := fact ho (by kernel_rfl)
    have t53 := tm_dep hF 16 53 (by kernel_rfl) (dep_of ho hdep 16 (by kernel_rfl))
    simp only [V7] at t53
    unfold Oper.wp
    simp [execOp, hop, hds, t53, go_sem, V7, hS]
  | n + 18, ho =>
    exfalso
    have h1 : n + 18 < reg7.size := (Array.getElem?_eq_some_iff.1 ho).1
    rw [show reg7.size = 18 from by kernel_rfl] at h1
    omega
end Go.Proofs.YtmfkhpledgnipaaDoor
