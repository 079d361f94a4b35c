/- At: the operations of its drawn region, each by its value. Made by a program. -/
import Derived.Test.YtfimaflglnemdaaDoorJvVals
import Derived.Test.YtfimaflglnemdaaDoorJqJ
namespace Go.Proofs.YtfimaflglnemdaaDoor.Dev
open Go.RowKit
def findR (n : Nat) : Code → Option (Array Oper)
  | .region m ops _ => if m = n then some ops else none
  | .seq a b => match findR n a with
    | some c => some c
    | none => findR n b
  | .scope c => findR n c
  | .block _ c => findR n c
  | .loop c => findR n c
  | .cond _ a b => match findR n a with
    | some c => some c
    | none => findR n b
  | _ => none
/-- The closed facts of a region, by running. -/
def okR (ops : Array Oper) (N : Nat) : Bool :=
  (List.range ops.size).all fun i => ((ops[i]?).map fun o => (o.after.all fun e => !Region.binds .any e || decide (e.on < i)) && (match o.dst with | some d => decide (d < N) | none => true) &&
    (List.range ops.size).all fun j => decide (j = i) || ((ops[j]?).map fun p => decide (o.dst = none) || decide (p.dst ≠ o.dst)).getD true).getD true
theorem okR_at {ops : Array Oper} {N : Nat} (h : okR ops N = true) {i : Nat} {o : Oper} (ho : ops[i]? = some o) :
    (∀ e ∈ o.after, Region.binds .any e = true → e.on < i) ∧ (∀ d, o.dst = some d → d < N) ∧ ∀ (j : Nat) oj d, ops[j]? = some oj → oj.dst = some d → o.dst = some d → j = i := by
  have hi : i < ops.size := (Array.getElem?_eq_some_iff.1 ho).1
  have h1 := List.all_eq_true.1 h i (List.mem_range.2 hi)
  rw [ho] at h1
  simp only [Option.map_some, Option.getD_some, Bool.and_eq_true] at h1
  obtain ⟨⟨h1, h2⟩, h3⟩ := h1
  refine ⟨fun e he hb => ?_, fun d hd => ?_, fun j oj d hj hdj hd => ?_⟩
  · have := Array.all_eq_true_iff_forall_mem.1 h1 e he
    rw [hb] at this
    simpa using this
  · rw [hd] at h2
    simpa using h2
  · have hjs : j < ops.size := (Array.getElem?_eq_some_iff.1 hj).1
    have h4 := List.all_eq_true.1 h3 j (List.mem_range.2 hjs)
    rw [hj] at h4
    simp only [Option.map_some, Option.getD_some, Bool.or_eq_true, decide_eq_true_eq] at h4
    rcases h4 with h4 | h4 | h4
    · exact h4
    · rw [hd] at h4; cases h4
    · rw [hd, hdj] at h4; exact absurd rfl h4
theorem ev_old {ops : Array Oper} {a0 a : Act} {V : Nat → Value} {listed : Array Bool} (hF : RFr ops a0 V listed a) (s : Nat) (v : Value) (hs : a0.tmps[s]? = some v) (hno : (ops.all fun o => decide (o.dst ≠ some s)) = true) : a.eval (.tmp s) = v := by
  have h := hF.old s (fun j o hj hd => by
    have := Array.all_eq_true_iff_forall_mem.1 hno o (Array.mem_of_getElem? hj)
    simp [hd] at this)
  rw [hs] at h
  show a.tmps.getD s undef = v
  rw [Array.getD_eq_getD_getElem?, h]
  rfl
theorem tm_dep {ops : Array Oper} {a0 a : Act} {V : Nat → Value} {listed : Array Bool} (hF : RFr ops a0 V listed a) (j d : Nat) (hd : (ops[j]?).bind (·.dst) = some d) (hl : listed.getD j false = true) : a.tmps[d]? = some (V j) := by
  obtain ⟨o, ho, hod⟩ : ∃ o, ops[j]? = some o ∧ o.dst = some d := by
    cases h : ops[j]? with
    | none => rw [h] at hd; cases hd
    | some o => rw [h] at hd; exact ⟨o, rfl, hd⟩
  refine hF.val j o d ho hod ?_
  have hj : j < listed.size := by
    rcases Nat.lt_or_ge j listed.size with h | h
    · exact h
    · unfold Array.getD at hl; rw [dif_neg (by omega)] at hl; cases hl
  rw [agetD _ _ _ hj] at hl ⊢
  exact hl
theorem tm_old {ops : Array Oper} {a0 a : Act} {V : Nat → Value} {listed : Array Bool} (hF : RFr ops a0 V listed a) (s : Nat) (v : Value) (hs : a0.tmps[s]? = some v) (hno : (ops.all fun o => decide (o.dst ≠ some s)) = true) : a.tmps[s]? = some v := by
  have h := hF.old s (fun j o hj hd => by
    have := Array.all_eq_true_iff_forall_mem.1 hno o (Array.mem_of_getElem? hj)
    simp [hd] at this)
  rw [h, hs]
theorem ev_dep {ops : Array Oper} {a0 a : Act} {V : Nat → Value} {listed : Array Bool} (hF : RFr ops a0 V listed a) (j d : Nat) (hd : (ops[j]?).bind (·.dst) = some d) (hl : listed.getD j false = true) : a.eval (.tmp d) = V j := by
  show a.tmps.getD d undef = V j
  rw [Array.getD_eq_getD_getElem?, tm_dep hF j d hd hl]
  rfl
theorem yl_dep {ops : Array Oper} {a0 a : Act} {V : Nat → Value} {listed : Array Bool} (hF : RFr ops a0 V listed a) (j d : Nat) (b : Bool) (hd : (ops[j]?).bind (·.dst) = some d) (hl : listed.getD j false = true) (hv : V j = .bool b) : yielded ops a.tmps j = some b := by
  unfold yielded
  rw [hd]
  show (match a.tmps[d]? with | some (.bool b) => some b | _ => none) = _
  rw [tm_dep hF j d hd hl, hv]
theorem fact {ops : Array Oper} {i : Nat} {o : Oper} {α : Type} {f : Oper → α} {x : α} (ho : ops[i]? = some o) (h : (ops[i]?).map f = some x) : f o = x := by rw [ho] at h; exact Option.some.inj h
theorem dep_of {ops : Array Oper} {i : Nat} {o : Oper} {listed : Array Bool} (ho : ops[i]? = some o) (hdep : ∀ e ∈ o.after, Region.binds .any e = true → listed.getD e.on false = true) (j : Nat) (h : ((ops[i]?).map fun o => o.after.any fun e => Region.binds .any e && e.on == j) = some true) : listed.getD j false = true := by
  have h1 : (o.after.any fun e => Region.binds .any e && e.on == j) = true := fact ho h
  rw [← Array.any_toList] at h1
  obtain ⟨e, he, hb⟩ := List.any_eq_true.1 h1
  simp only [Bool.and_eq_true, beq_iff_eq] at hb
  rw [← hb.2]
  exact hdep e (Array.mem_toList_iff.1 he) hb.1
theorem want_none {o : Oper} {f : Nat → Option Bool} (h : o.guard = none) : Region.wanted o f = true := by unfold Region.wanted; rw [h]
theorem want_some {o : Oper} {f : Nat → Option Bool} {j : Nat} {b c : Bool} (h : o.guard = some (j, b)) (hy : f j = some c) : Region.wanted o f = (c == b) := by
  unfold Region.wanted; rw [h]; show (f j == some b) = _; rw [hy]; cases b <;> cases c <;> rfl
noncomputable def reg9 : Array Oper := ((Tryd.f25.body.bind (findR 9)).getD #[])
theorem okR9 : okR reg9 62 = true := by kernel_rfl
def V90 (cb kb mb n s k L M N t : Nat) (p q0 : Option Addr) : Nat → Value
  | 0 => .int .i64 0
  | 1 => .agg #[.pointer p, .int .i64 (n : Int), .int .i64 (s : Int)]
  | 2 => .pointer (some ⟨cb, 2, none⟩)
  | 3 => .int .i64 (s : Int)
  | 4 => .int .i64 0
  | 5 => .pointer (some ⟨kb, 0, none⟩)
  | 6 => .int .i64 (k : Int)
  | 7 => .pointer (some ⟨cb, 1, none⟩)
  | 8 => .int .i64 (n : Int)
  | 9 => .pointer (some ⟨cb, 2, none⟩)
  | 10 => .int .i64 (s : Int)
  | 11 => .int .i64 (L : Int)
  | 12 => .int .i64 (M : Int)
  | 13 => .int .i64 (N : Int)
  | 14 => .agg #[.pointer q0, .int .i64 (N : Int), .int .i64 (t : Int)]
  | 15 => .pointer (some ⟨mb, 0, none⟩)
  | _ => undef
set_option maxRecDepth 100000 in
set_option maxHeartbeats 1000000 in
theorem step90 (a0 : Act) (cb kb mb n s k L M N t : Nat) (p q0 : Option Addr) (S : Array Bool → World → Prop) (Q : Exit → Act → World → Prop) (h9 : a0.tmps[9]? = some (.int .i64 0)) (h10 : a0.tmps[10]? = some (.pointer (some ⟨cb, 0, none⟩))) (h5 : a0.tmps[5]? = some (.pointer (some ⟨kb, 0, none⟩))) (h8 : a0.tmps[8]? = some (.pointer (some ⟨mb, 0, none⟩)))
    (hmv : ∀ i : Nat, decide (i < 16) = true → ∀ listed W, S listed W → S (listed.setIfInBounds i true) W) (hc : ∀ listed W, S listed W → listed.size = reg9.size → listed.getD 14 true = false → (∀ j, ((reg9[14]?).map fun o => o.after.any fun e => Region.binds .any e && e.on == j) = some true → listed.getD j false = true) → Calls Tryd.prog 54 #[.agg #[.pointer p, .int .i64 (n : Int), .int .i64 (s : Int)], .int .i64 (N : Int)] W fun e w' => e = .returned (.agg #[.pointer q0, .int .i64 (N : Int), .int .i64 (t : Int)]) ∧ S (listed.setIfInBounds 14 true) w') (hl1 : ∀ listed W, S listed W → listed.size = reg9.size → listed.getD 1 true = false → (∀ j, ((reg9[1]?).map fun o => o.after.any fun e => Region.binds .any e && e.on == j) = some true → listed.getD j false = true) → ∃ W2, (Instr.loadAt 88 (.pointer (some ⟨cb, 0, none⟩))).run Tryd.prog W = .ok (.agg #[.pointer p, .int .i64 (n : Int), .int .i64 (s : Int)]) W2 ∧ S (listed.setIfInBounds 1 true) W2) (hl3 : ∀ listed W, S listed W → listed.size = reg9.size → listed.getD 3 true = false → (∀ j, ((reg9[3]?).map fun o => o.after.any fun e => Region.binds .any e && e.on == j) = some true → listed.getD j false = true) → ∃ W2, (Instr.loadAt 3 (.pointer (some ⟨cb, 2, none⟩))).run Tryd.prog W = .ok (.int .i64 (s : Int)) W2 ∧ S (listed.setIfInBounds 3 true) W2) (hl6 : ∀ listed W, S listed W → listed.size = reg9.size → listed.getD 6 true = false → (∀ j, ((reg9[6]?).map fun o => o.after.any fun e => Region.binds .any e && e.on == j) = some true → listed.getD j false = true) → ∃ W2, (Instr.loadAt 3 (.pointer (some ⟨kb, 0, none⟩))).run Tryd.prog W = .ok (.int .i64 (k : Int)) W2 ∧ S (listed.setIfInBounds 6 true) W2) (hl8 : ∀ listed W, S listed W → listed.size = reg9.size → listed.getD 8 true = false → (∀ j, ((reg9[8]?).map fun o => o.after.any fun e => Region.binds .any e && e.on == j) = some true → listed.getD j false = true) → ∃ W2, (Instr.loadAt 3 (.pointer (some ⟨cb, 1, none⟩))).run Tryd.prog W = .ok (.int .i64 (n : Int)) W2 ∧ S (listed.setIfInBounds 8 true) W2) (hl10 : ∀ listed W, S listed W → listed.size = reg9.size → listed.getD 10 true = false → (∀ j, ((reg9[10]?).map fun o => o.after.any fun e => Region.binds .any e && e.on == j) = some true → listed.getD j false = true) → ∃ W2, (Instr.loadAt 3 (.pointer (some ⟨cb, 2, none⟩))).run Tryd.prog W = .ok (.int .i64 (s : Int)) W2 ∧ S (listed.setIfInBounds 10 true) W2) (hst : ∀ listed W, S listed W → listed.size = reg9.size → listed.getD 16 true = false → (∀ j, ((reg9[16]?).map fun o => o.after.any fun e => Region.binds .any e && e.on == j) = some true → listed.getD j false = true) → ∃ W2, (Instr.storeAt 88 (.pointer (some ⟨mb, 0, none⟩)) (.agg #[.pointer q0, .int .i64 (N : Int), .int .i64 (t : Int)])).run Tryd.prog W = .ok (()) W2 ∧ S (listed.setIfInBounds 16 true) W2) (hL : IntKind.i64.wrap ((n : Int) - (s : Int)) = (L : Int)) (hM : (if L < k then (L : Int) else (k : Int)) = (M : Int)) (hN : IntKind.i64.wrap ((s : Int) + (M : Int)) = (N : Int))
    (i : Nat) (o : Oper) (a : Act) (w : World) (listed : Array Bool) (ho : reg9[i]? = some o) (hF : RFr reg9 a0 (V90 cb kb mb n s k L M N t p q0) listed a) (hS : S listed w) (hls : listed.size = reg9.size) (hun : listed.getD i true = false) (hdep : ∀ e ∈ o.after, Region.binds .any e = true → listed.getD e.on false = true) :
      if Region.wanted o (yielded reg9 a.tmps) = true then Oper.wp Tryd.prog o a w (fun a' w' => a' = a.put o.dst (V90 cb kb mb n s k L M N t p q0 i) ∧ S (listed.setIfInBounds i true) w') Q else V90 cb kb mb n s k L M N t p q0 i = undef ∧ S (listed.setIfInBounds i true) w := by
  match i, ho with
  | 0, ho =>
    rw [if_pos (want_none (fact ho (by kernel_rfl)))]
    have hop : o.op = .move (.tmp 9) := fact ho (by kernel_rfl)
    have hds : o.dst = some 43 := fact ho (by kernel_rfl)
    have t9 := tm_old hF 9 _ h9 (by kernel_rfl)
    have hS2 := hmv 0 (by decide) listed w hS
    unfold Oper.wp
    simp [execOp, hop, hds, t9, go_sem, V90, hS2]
  | 1, ho =>
    rw [if_pos (want_none (fact ho (by kernel_rfl)))]
    have hop : o.op = .load 88 (.tmp 10) := fact ho (by kernel_rfl)
    have hds : o.dst = some 44 := fact ho (by kernel_rfl)
    have t10 := tm_old hF 10 _ h10 (by kernel_rfl)
    obtain ⟨W2, hr, hS2⟩ := hl1 listed w hS hls hun (fun j hj => dep_of ho hdep j hj)
    unfold Oper.wp
    simp [execOp, hop, hds, Act.eval, t10, hr, Oper.upon, Act.put, V90, hS2]
  | 2, ho =>
    rw [if_pos (want_none (fact ho (by kernel_rfl)))]
    have hop : o.op = .fieldAddr 88 (.tmp 10) 2 := fact ho (by kernel_rfl)
    have hds : o.dst = some 45 := fact ho (by kernel_rfl)
    have t10 := tm_old hF 10 _ h10 (by kernel_rfl)
    have hS2 := hmv 2 (by decide) listed w hS
    unfold Oper.wp
    simp [execOp, hop, hds, t10, go_sem, V90, hS2]
  | 3, ho =>
    rw [if_pos (want_none (fact ho (by kernel_rfl)))]
    have hop : o.op = .load 3 (.tmp 45) := fact ho (by kernel_rfl)
    have hds : o.dst = some 46 := fact ho (by kernel_rfl)
    have t45 := tm_dep hF 2 45 (by kernel_rfl) (dep_of ho hdep 2 (by kernel_rfl))
    simp only [V90] at t45
    obtain ⟨W2, hr, hS2⟩ := hl3 listed w hS hls hun (fun j hj => dep_of ho hdep j hj)
    unfold Oper.wp
    simp [execOp, hop, hds, Act.eval, t45, hr, Oper.upon, Act.put, V90, hS2]
  | 4, ho =>
    rw [if_pos (want_none (fact ho (by kernel_rfl)))]
    have hop : o.op = .move (.tmp 9) := fact ho (by kernel_rfl)
    have hds : o.dst = some 47 := fact ho (by kernel_rfl)
    have t9 := tm_old hF 9 _ h9 (by kernel_rfl)
    have hS2 := hmv 4 (by decide) listed w hS
    unfold Oper.wp
    simp [execOp, hop, hds, t9, go_sem, V90, hS2]
  | 5, ho =>
    rw [if_pos (want_none (fact ho (by kernel_rfl)))]
    have hop : o.op = .indexAddr 34 (.tmp 5) (.tmp 47) := fact ho (by kernel_rfl)
    have hds : o.dst = some 48 := fact ho (by kernel_rfl)
    have t5 := tm_old hF 5 _ h5 (by kernel_rfl)
    have t47 := tm_dep hF 4 47 (by kernel_rfl) (dep_of ho hdep 4 (by kernel_rfl))
    simp only [V90] at t47
    have hS2 := hmv 5 (by decide) listed w hS
    unfold Oper.wp
    simp [execOp, hop, hds, t5, t47, go_sem, V90, hS2]
  | 6, ho =>
    rw [if_pos (want_none (fact ho (by kernel_rfl)))]
    have hop : o.op = .load 3 (.tmp 48) := fact ho (by kernel_rfl)
    have hds : o.dst = some 49 := fact ho (by kernel_rfl)
    have t48 := tm_dep hF 5 48 (by kernel_rfl) (dep_of ho hdep 5 (by kernel_rfl))
    simp only [V90] at t48
    obtain ⟨W2, hr, hS2⟩ := hl6 listed w hS hls hun (fun j hj => dep_of ho hdep j hj)
    unfold Oper.wp
    simp [execOp, hop, hds, Act.eval, t48, hr, Oper.upon, Act.put, V90, hS2]
  | 7, ho =>
    rw [if_pos (want_none (fact ho (by kernel_rfl)))]
    have hop : o.op = .fieldAddr 88 (.tmp 10) 1 := fact ho (by kernel_rfl)
    have hds : o.dst = some 50 := fact ho (by kernel_rfl)
    have t10 := tm_old hF 10 _ h10 (by kernel_rfl)
    have hS2 := hmv 7 (by decide) listed w hS
    unfold Oper.wp
    simp [execOp, hop, hds, t10, go_sem, V90, hS2]
  | 8, ho =>
    rw [if_pos (want_none (fact ho (by kernel_rfl)))]
    have hop : o.op = .load 3 (.tmp 50) := fact ho (by kernel_rfl)
    have hds : o.dst = some 51 := fact ho (by kernel_rfl)
    have t50 := tm_dep hF 7 50 (by kernel_rfl) (dep_of ho hdep 7 (by kernel_rfl))
    simp only [V90] at t50
    obtain ⟨W2, hr, hS2⟩ := hl8 listed w hS hls hun (fun j hj => dep_of ho hdep j hj)
    unfold Oper.wp
    simp [execOp, hop, hds, Act.eval, t50, hr, Oper.upon, Act.put, V90, hS2]
  | 9, ho =>
    rw [if_pos (want_none (fact ho (by kernel_rfl)))]
    have hop : o.op = .fieldAddr 88 (.tmp 10) 2 := fact ho (by kernel_rfl)
    have hds : o.dst = some 52 := fact ho (by kernel_rfl)
    have t10 := tm_old hF 10 _ h10 (by kernel_rfl)
    have hS2 := hmv 9 (by decide) listed w hS
    unfold Oper.wp
    simp [execOp, hop, hds, t10, go_sem, V90, hS2]
  | 10, ho =>
    rw [if_pos (want_none (fact ho (by kernel_rfl)))]
    have hop : o.op = .load 3 (.tmp 52) := fact ho (by kernel_rfl)
    have hds : o.dst = some 53 := fact ho (by kernel_rfl)
    have t52 := tm_dep hF 9 52 (by kernel_rfl) (dep_of ho hdep 9 (by kernel_rfl))
    simp only [V90] at t52
    obtain ⟨W2, hr, hS2⟩ := hl10 listed w hS hls hun (fun j hj => dep_of ho hdep j hj)
    unfold Oper.wp
    simp [execOp, hop, hds, Act.eval, t52, hr, Oper.upon, Act.put, V90, hS2]
  | 11, ho =>
    rw [if_pos (want_none (fact ho (by kernel_rfl)))]
    have hop : o.op = .binOp .sub 3 (.tmp 51) (.tmp 53) 3 := fact ho (by kernel_rfl)
    have hds : o.dst = some 54 := fact ho (by kernel_rfl)
    have t51 := tm_dep hF 8 51 (by kernel_rfl) (dep_of ho hdep 8 (by kernel_rfl))
    simp only [V90] at t51
    have t53 := tm_dep hF 10 53 (by kernel_rfl) (dep_of ho hdep 10 (by kernel_rfl))
    simp only [V90] at t53
    have hS2 := hmv 11 (by decide) listed w hS
    unfold Oper.wp
    simp [execOp, hop, hds, t51, t53, hL, go_sem, V90, hS2]
  | 12, ho =>
    rw [if_pos (want_none (fact ho (by kernel_rfl)))]
    have hop : o.op = .call { callee := .builtin .min, args := #[.tmp 49, .tmp 54], argTypes := #[3, 3] } := fact ho (by kernel_rfl)
    have hds : o.dst = some 55 := fact ho (by kernel_rfl)
    have t49 := tm_dep hF 6 49 (by kernel_rfl) (dep_of ho hdep 6 (by kernel_rfl))
    simp only [V90] at t49
    have t54 := tm_dep hF 11 54 (by kernel_rfl) (dep_of ho hdep 11 (by kernel_rfl))
    simp only [V90] at t54
    have hS2 := hmv 12 (by decide) listed w hS
    unfold Oper.wp
    simp [execOp, hop, hds, t49, t54, hM, go_sem, V90, hS2]
  | 13, ho =>
    rw [if_pos (want_none (fact ho (by kernel_rfl)))]
    have hop : o.op = .binOp .add 3 (.tmp 46) (.tmp 55) 3 := fact ho (by kernel_rfl)
    have hds : o.dst = some 56 := fact ho (by kernel_rfl)
    have t46 := tm_dep hF 3 46 (by kernel_rfl) (dep_of ho hdep 3 (by kernel_rfl))
    simp only [V90] at t46
    have t55 := tm_dep hF 12 55 (by kernel_rfl) (dep_of ho hdep 12 (by kernel_rfl))
    simp only [V90] at t55
    have hS2 := hmv 13 (by decide) listed w hS
    unfold Oper.wp
    simp [execOp, hop, hds, t46, t55, hN, go_sem, V90, hS2]
  | 14, ho =>
    rw [if_pos (want_none (fact ho (by kernel_rfl)))]
    have hop : o.op = .call { callee := .value (.func 54), args := #[.tmp 44, .tmp 56], argTypes := #[88, 3] } := fact ho (by kernel_rfl)
    have hds : o.dst = some 57 := fact ho (by kernel_rfl)
    have t44 := tm_dep hF 1 44 (by kernel_rfl) (dep_of ho hdep 1 (by kernel_rfl))
    simp only [V90] at t44
    have t56 := tm_dep hF 13 56 (by kernel_rfl) (dep_of ho hdep 13 (by kernel_rfl))
    simp only [V90] at t56
    unfold Oper.wp
    simp [execOp, hop, hds, t44, t56, go_sem, V90]
    refine (hc listed w hS hls hun (fun j hj => dep_of ho hdep j hj)).mono ?_
    rintro e w' ⟨rfl, hS'⟩
    exact ⟨rfl, hS'⟩
  | 15, ho =>
    rw [if_pos (want_none (fact ho (by kernel_rfl)))]
    have hop : o.op = .indexAddr 90 (.tmp 8) (.tmp 43) := fact ho (by kernel_rfl)
    have hds : o.dst = some 58 := fact ho (by kernel_rfl)
    have t8 := tm_old hF 8 _ h8 (by kernel_rfl)
    have t43 := tm_dep hF 0 43 (by kernel_rfl) (dep_of ho hdep 0 (by kernel_rfl))
    simp only [V90] at t43
    have hS2 := hmv 15 (by decide) listed w hS
    unfold Oper.wp
    simp [execOp, hop, hds, t8, t43, go_sem, V90, hS2]
  | 16, ho =>
    rw [if_pos (want_none (fact ho (by kernel_rfl)))]
    have hop : o.op = .store 88 (.tmp 58) (.tmp 57) := fact ho (by kernel_rfl)
    have hds : o.dst = none := fact ho (by kernel_rfl)
    have t58 := tm_dep hF 15 58 (by kernel_rfl) (dep_of ho hdep 15 (by kernel_rfl))
    simp only [V90] at t58
    have t57 := tm_dep hF 14 57 (by kernel_rfl) (dep_of ho hdep 14 (by kernel_rfl))
    simp only [V90] at t57
    obtain ⟨W2, hr, hS2⟩ := hst listed w hS hls hun (fun j hj => dep_of ho hdep j hj)
    unfold Oper.wp
    simp [execOp, hop, hds, Act.eval, t58, t57, hr, Oper.upon, Act.put, hS2]
  | n + 17, ho =>
    exfalso
    have h1 : n + 17 < reg9.size := (Array.getElem?_eq_some_iff.1 ho).1
    rw [show reg9.size = 17 from by kernel_rfl] at h1
    omega
def V91 (cb kb mb n s k L M N t : Nat) (p q0 : Option Addr) : Nat → Value
  | 0 => .int .i64 1
  | 1 => .agg #[.pointer p, .int .i64 (n : Int), .int .i64 (s : Int)]
  | 2 => .pointer (some ⟨cb, 2, none⟩)
  | 3 => .int .i64 (s : Int)
  | 4 => .int .i64 1
  | 5 => .pointer (some ⟨kb, 1, none⟩)
  | 6 => .int .i64 (k : Int)
  | 7 => .pointer (some ⟨cb, 1, none⟩)
  | 8 => .int .i64 (n : Int)
  | 9 => .pointer (some ⟨cb, 2, none⟩)
  | 10 => .int .i64 (s : Int)
  | 11 => .int .i64 (L : Int)
  | 12 => .int .i64 (M : Int)
  | 13 => .int .i64 (N : Int)
  | 14 => .agg #[.pointer q0, .int .i64 (N : Int), .int .i64 (t : Int)]
  | 15 => .pointer (some ⟨mb, 3, none⟩)
  | _ => undef
set_option maxRecDepth 100000 in
set_option maxHeartbeats 1000000 in
theorem step91 (a0 : Act) (cb kb mb n s k L M N t : Nat) (p q0 : Option Addr) (S : Array Bool → World → Prop) (Q : Exit → Act → World → Prop) (h9 : a0.tmps[9]? = some (.int .i64 1)) (h10 : a0.tmps[10]? = some (.pointer (some ⟨cb, 0, none⟩))) (h5 : a0.tmps[5]? = some (.pointer (some ⟨kb, 0, none⟩))) (h8 : a0.tmps[8]? = some (.pointer (some ⟨mb, 0, none⟩)))
    (hmv : ∀ i : Nat, decide (i < 16) = true → ∀ listed W, S listed W → S (listed.setIfInBounds i true) W) (hc : ∀ listed W, S listed W → listed.size = reg9.size → listed.getD 14 true = false → (∀ j, ((reg9[14]?).map fun o => o.after.any fun e => Region.binds .any e && e.on == j) = some true → listed.getD j false = true) → Calls Tryd.prog 54 #[.agg #[.pointer p, .int .i64 (n : Int), .int .i64 (s : Int)], .int .i64 (N : Int)] W fun e w' => e = .returned (.agg #[.pointer q0, .int .i64 (N : Int), .int .i64 (t : Int)]) ∧ S (listed.setIfInBounds 14 true) w') (hl1 : ∀ listed W, S listed W → listed.size = reg9.size → listed.getD 1 true = false → (∀ j, ((reg9[1]?).map fun o => o.after.any fun e => Region.binds .any e && e.on == j) = some true → listed.getD j false = true) → ∃ W2, (Instr.loadAt 88 (.pointer (some ⟨cb, 0, none⟩))).run Tryd.prog W = .ok (.agg #[.pointer p, .int .i64 (n : Int), .int .i64 (s : Int)]) W2 ∧ S (listed.setIfInBounds 1 true) W2) (hl3 : ∀ listed W, S listed W → listed.size = reg9.size → listed.getD 3 true = false → (∀ j, ((reg9[3]?).map fun o => o.after.any fun e => Region.binds .any e && e.on == j) = some true → listed.getD j false = true) → ∃ W2, (Instr.loadAt 3 (.pointer (some ⟨cb, 2, none⟩))).run Tryd.prog W = .ok (.int .i64 (s : Int)) W2 ∧ S (listed.setIfInBounds 3 true) W2) (hl6 : ∀ listed W, S listed W → listed.size = reg9.size → listed.getD 6 true = false → (∀ j, ((reg9[6]?).map fun o => o.after.any fun e => Region.binds .any e && e.on == j) = some true → listed.getD j false = true) → ∃ W2, (Instr.loadAt 3 (.pointer (some ⟨kb, 1, none⟩))).run Tryd.prog W = .ok (.int .i64 (k : Int)) W2 ∧ S (listed.setIfInBounds 6 true) W2) (hl8 : ∀ listed W, S listed W → listed.size = reg9.size → listed.getD 8 true = false → (∀ j, ((reg9[8]?).map fun o => o.after.any fun e => Region.binds .any e && e.on == j) = some true → listed.getD j false = true) → ∃ W2, (Instr.loadAt 3 (.pointer (some ⟨cb, 1, none⟩))).run Tryd.prog W = .ok (.int .i64 (n : Int)) W2 ∧ S (listed.setIfInBounds 8 true) W2) (hl10 : ∀ listed W, S listed W → listed.size = reg9.size → listed.getD 10 true = false → (∀ j, ((reg9[10]?).map fun o => o.after.any fun e => Region.binds .any e && e.on == j) = some true → listed.getD j false = true) → ∃ W2, (Instr.loadAt 3 (.pointer (some ⟨cb, 2, none⟩))).run Tryd.prog W = .ok (.int .i64 (s : Int)) W2 ∧ S (listed.setIfInBounds 10 true) W2) (hst : ∀ listed W, S listed W → listed.size = reg9.size → listed.getD 16 true = false → (∀ j, ((reg9[16]?).map fun o => o.after.any fun e => Region.binds .any e && e.on == j) = some true → listed.getD j false = true) → ∃ W2, (Instr.storeAt 88 (.pointer (some ⟨mb, 3, none⟩)) (.agg #[.pointer q0, .int .i64 (N : Int), .int .i64 (t : Int)])).run Tryd.prog W = .ok (()) W2 ∧ S (listed.setIfInBounds 16 true) W2) (hL : IntKind.i64.wrap ((n : Int) - (s : Int)) = (L : Int)) (hM : (if L < k then (L : Int) else (k : Int)) = (M : Int)) (hN : IntKind.i64.wrap ((s : Int) + (M : Int)) = (N : Int))
    (i : Nat) (o : Oper) (a : Act) (w : World) (listed : Array Bool) (ho : reg9[i]? = some o) (hF : RFr reg9 a0 (V91 cb kb mb n s k L M N t p q0) listed a) (hS : S listed w) (hls : listed.size = reg9.size) (hun : listed.getD i true = false) (hdep : ∀ e ∈ o.after, Region.binds .any e = true → listed.getD e.on false = true) :
      if Region.wanted o (yielded reg9 a.tmps) = true then Oper.wp Tryd.prog o a w (fun a' w' => a' = a.put o.dst (V91 cb kb mb n s k L M N t p q0 i) ∧ S (listed.setIfInBounds i true) w') Q else V91 cb kb mb n s k L M N t p q0 i = undef ∧ S (listed.setIfInBounds i true) w := by
  match i, ho with
  | 0, ho =>
    rw [if_pos (want_none (fact ho (by kernel_rfl)))]
    have hop : o.op = .move (.tmp 9) := fact ho (by kernel_rfl)
    have hds : o.dst = some 43 := fact ho (by kernel_rfl)
    have t9 := tm_old hF 9 _ h9 (by kernel_rfl)
    have hS2 := hmv 0 (by decide) listed w hS
    unfold Oper.wp
    simp [execOp, hop, hds, t9, go_sem, V91, hS2]
  | 1, ho =>
    rw [if_pos (want_none (fact ho (by kernel_rfl)))]
    have hop : o.op = .load 88 (.tmp 10) := fact ho (by kernel_rfl)
    have hds : o.dst = some 44 := fact ho (by kernel_rfl)
    have t10 := tm_old hF 10 _ h10 (by kernel_rfl)
    obtain ⟨W2, hr, hS2⟩ := hl1 listed w hS hls hun (fun j hj => dep_of ho hdep j hj)
    unfold Oper.wp
    simp [execOp, hop, hds, Act.eval, t10, hr, Oper.upon, Act.put, V91, hS2]
  | 2, ho =>
    rw [if_pos (want_none (fact ho (by kernel_rfl)))]
    have hop : o.op = .fieldAddr 88 (.tmp 10) 2 := fact ho (by kernel_rfl)
    have hds : o.dst = some 45 := fact ho (by kernel_rfl)
    have t10 := tm_old hF 10 _ h10 (by kernel_rfl)
    have hS2 := hmv 2 (by decide) listed w hS
    unfold Oper.wp
    simp [execOp, hop, hds, t10, go_sem, V91, hS2]
  | 3, ho =>
    rw [if_pos (want_none (fact ho (by kernel_rfl)))]
    have hop : o.op = .load 3 (.tmp 45) := fact ho (by kernel_rfl)
    have hds : o.dst = some 46 := fact ho (by kernel_rfl)
    have t45 := tm_dep hF 2 45 (by kernel_rfl) (dep_of ho hdep 2 (by kernel_rfl))
    simp only [V91] at t45
    obtain ⟨W2, hr, hS2⟩ := hl3 listed w hS hls hun (fun j hj => dep_of ho hdep j hj)
    unfold Oper.wp
    simp [execOp, hop, hds, Act.eval, t45, hr, Oper.upon, Act.put, V91, hS2]
  | 4, ho =>
    rw [if_pos (want_none (fact ho (by kernel_rfl)))]
    have hop : o.op = .move (.tmp 9) := fact ho (by kernel_rfl)
    have hds : o.dst = some 47 := fact ho (by kernel_rfl)
    have t9 := tm_old hF 9 _ h9 (by kernel_rfl)
    have hS2 := hmv 4 (by decide) listed w hS
    unfold Oper.wp
    simp [execOp, hop, hds, t9, go_sem, V91, hS2]
  | 5, ho =>
    rw [if_pos (want_none (fact ho (by kernel_rfl)))]
    have hop : o.op = .indexAddr 34 (.tmp 5) (.tmp 47) := fact ho (by kernel_rfl)
    have hds : o.dst = some 48 := fact ho (by kernel_rfl)
    have t5 := tm_old hF 5 _ h5 (by kernel_rfl)
    have t47 := tm_dep hF 4 47 (by kernel_rfl) (dep_of ho hdep 4 (by kernel_rfl))
    simp only [V91] at t47
    have hS2 := hmv 5 (by decide) listed w hS
    unfold Oper.wp
    simp [execOp, hop, hds, t5, t47, go_sem, V91, hS2]
  | 6, ho =>
    rw [if_pos (want_none (fact ho (by kernel_rfl)))]
    have hop : o.op = .load 3 (.tmp 48) := fact ho (by kernel_rfl)
    have hds : o.dst = some 49 := fact ho (by kernel_rfl)
    have t48 := tm_dep hF 5 48 (by kernel_rfl) (dep_of ho hdep 5 (by kernel_rfl))
    simp only [V91] at t48
    obtain ⟨W2, hr, hS2⟩ := hl6 listed w hS hls hun (fun j hj => dep_of ho hdep j hj)
    unfold Oper.wp
    simp [execOp, hop, hds, Act.eval, t48, hr, Oper.upon, Act.put, V91, hS2]
  | 7, ho =>
    rw [if_pos (want_none (fact ho (by kernel_rfl)))]
    have hop : o.op = .fieldAddr 88 (.tmp 10) 1 := fact ho (by kernel_rfl)
    have hds : o.dst = some 50 := fact ho (by kernel_rfl)
    have t10 := tm_old hF 10 _ h10 (by kernel_rfl)
    have hS2 := hmv 7 (by decide) listed w hS
    unfold Oper.wp
    simp [execOp, hop, hds, t10, go_sem, V91, hS2]
  | 8, ho =>
    rw [if_pos (want_none (fact ho (by kernel_rfl)))]
    have hop : o.op = .load 3 (.tmp 50) := fact ho (by kernel_rfl)
    have hds : o.dst = some 51 := fact ho (by kernel_rfl)
    have t50 := tm_dep hF 7 50 (by kernel_rfl) (dep_of ho hdep 7 (by kernel_rfl))
    simp only [V91] at t50
    obtain ⟨W2, hr, hS2⟩ := hl8 listed w hS hls hun (fun j hj => dep_of ho hdep j hj)
    unfold Oper.wp
    simp [execOp, hop, hds, Act.eval, t50, hr, Oper.upon, Act.put, V91, hS2]
  | 9, ho =>
    rw [if_pos (want_none (fact ho (by kernel_rfl)))]
    have hop : o.op = .fieldAddr 88 (.tmp 10) 2 := fact ho (by kernel_rfl)
    have hds : o.dst = some 52 := fact ho (by kernel_rfl)
    have t10 := tm_old hF 10 _ h10 (by kernel_rfl)
    have hS2 := hmv 9 (by decide) listed w hS
    unfold Oper.wp
    simp [execOp, hop, hds, t10, go_sem, V91, hS2]
  | 10, ho =>
    rw [if_pos (want_none (fact ho (by kernel_rfl)))]
    have hop : o.op = .load 3 (.tmp 52) := fact ho (by kernel_rfl)
    have hds : o.dst = some 53 := fact ho (by kernel_rfl)
    have t52 := tm_dep hF 9 52 (by kernel_rfl) (dep_of ho hdep 9 (by kernel_rfl))
    simp only [V91] at t52
    obtain ⟨W2, hr, hS2⟩ := hl10 listed w hS hls hun (fun j hj => dep_of ho hdep j hj)
    unfold Oper.wp
    simp [execOp, hop, hds, Act.eval, t52, hr, Oper.upon, Act.put, V91, hS2]
  | 11, ho =>
    rw [if_pos (want_none (fact ho (by kernel_rfl)))]
    have hop : o.op = .binOp .sub 3 (.tmp 51) (.tmp 53) 3 := fact ho (by kernel_rfl)
    have hds : o.dst = some 54 := fact ho (by kernel_rfl)
    have t51 := tm_dep hF 8 51 (by kernel_rfl) (dep_of ho hdep 8 (by kernel_rfl))
    simp only [V91] at t51
    have t53 := tm_dep hF 10 53 (by kernel_rfl) (dep_of ho hdep 10 (by kernel_rfl))
    simp only [V91] at t53
    have hS2 := hmv 11 (by decide) listed w hS
    unfold Oper.wp
    simp [execOp, hop, hds, t51, t53, hL, go_sem, V91, hS2]
  | 12, ho =>
    rw [if_pos (want_none (fact ho (by kernel_rfl)))]
    have hop : o.op = .call { callee := .builtin .min, args := #[.tmp 49, .tmp 54], argTypes := #[3, 3] } := fact ho (by kernel_rfl)
    have hds : o.dst = some 55 := fact ho (by kernel_rfl)
    have t49 := tm_dep hF 6 49 (by kernel_rfl) (dep_of ho hdep 6 (by kernel_rfl))
    simp only [V91] at t49
    have t54 := tm_dep hF 11 54 (by kernel_rfl) (dep_of ho hdep 11 (by kernel_rfl))
    simp only [V91] at t54
    have hS2 := hmv 12 (by decide) listed w hS
    unfold Oper.wp
    simp [execOp, hop, hds, t49, t54, hM, go_sem, V91, hS2]
  | 13, ho =>
    rw [if_pos (want_none (fact ho (by kernel_rfl)))]
    have hop : o.op = .binOp .add 3 (.tmp 46) (.tmp 55) 3 := fact ho (by kernel_rfl)
    have hds : o.dst = some 56 := fact ho (by kernel_rfl)
    have t46 := tm_dep hF 3 46 (by kernel_rfl) (dep_of ho hdep 3 (by kernel_rfl))
    simp only [V91] at t46
    have t55 := tm_dep hF 12 55 (by kernel_rfl) (dep_of ho hdep 12 (by kernel_rfl))
    simp only [V91] at t55
    have hS2 := hmv 13 (by decide) listed w hS
    unfold Oper.wp
    simp [execOp, hop, hds, t46, t55, hN, go_sem, V91, hS2]
  | 14, ho =>
    rw [if_pos (want_none (fact ho (by kernel_rfl)))]
    have hop : o.op = .call { callee := .value (.func 54), args := #[.tmp 44, .tmp 56], argTypes := #[88, 3] } := fact ho (by kernel_rfl)
    have hds : o.dst = some 57 := fact ho (by kernel_rfl)
    have t44 := tm_dep hF 1 44 (by kernel_rfl) (dep_of ho hdep 1 (by kernel_rfl))
    simp only [V91] at t44
    have t56 := tm_dep hF 13 56 (by kernel_rfl) (dep_of ho hdep 13 (by kernel_rfl))
    simp only [V91] at t56
    unfold Oper.wp
    simp [execOp, hop, hds, t44, t56, go_sem, V91]
    refine (hc listed w hS hls hun (fun j hj => dep_of ho hdep j hj)).mono ?_
    rintro e w' ⟨rfl, hS'⟩
    exact ⟨rfl, hS'⟩
  | 15, ho =>
    rw [if_pos (want_none (fact ho (by kernel_rfl)))]
    have hop : o.op = .indexAddr 90 (.tmp 8) (.tmp 43) := fact ho (by kernel_rfl)
    have hds : o.dst = some 58 := fact ho (by kernel_rfl)
    have t8 := tm_old hF 8 _ h8 (by kernel_rfl)
    have t43 := tm_dep hF 0 43 (by kernel_rfl) (dep_of ho hdep 0 (by kernel_rfl))
    simp only [V91] at t43
    have hS2 := hmv 15 (by decide) listed w hS
    unfold Oper.wp
    simp [execOp, hop, hds, t8, t43, go_sem, V91, hS2]
  | 16, ho =>
    rw [if_pos (want_none (fact ho (by kernel_rfl)))]
    have hop : o.op = .store 88 (.tmp 58) (.tmp 57) := fact ho (by kernel_rfl)
    have hds : o.dst = none := fact ho (by kernel_rfl)
    have t58 := tm_dep hF 15 58 (by kernel_rfl) (dep_of ho hdep 15 (by kernel_rfl))
    simp only [V91] at t58
    have t57 := tm_dep hF 14 57 (by kernel_rfl) (dep_of ho hdep 14 (by kernel_rfl))
    simp only [V91] at t57
    obtain ⟨W2, hr, hS2⟩ := hst listed w hS hls hun (fun j hj => dep_of ho hdep j hj)
    unfold Oper.wp
    simp [execOp, hop, hds, Act.eval, t58, t57, hr, Oper.upon, Act.put, hS2]
  | n + 17, ho =>
    exfalso
    have h1 : n + 17 < reg9.size := (Array.getElem?_eq_some_iff.1 ho).1
    rw [show reg9.size = 17 from by kernel_rfl] at h1
    omega
set_option maxRecDepth 100000 in
theorem put9 (X : Nat → Value) (v0 v1 v2 v3 v4 v5 v6 v7 v8 v9 v10 v11 v12 v13 v14 v15 v16 v17 v18 v19 v20 v21 v22 v23 v24 v25 v26 v27 v28 v29 v30 v31 v32 v33 v34 v35 v36 v37 v38 v39 v40 v41 v42 v43 v44 v45 v46 v47 v48 v49 v50 v51 v52 v53 v54 v55 v56 v57 v58 v59 v60 v61 : Value) : putN reg9 X ⟨#[v0, v1, v2, v3, v4, v5, v6, v7, v8, v9, v10, v11, v12, v13, v14, v15, v16, v17, v18, v19, v20, v21, v22, v23, v24, v25, v26, v27, v28, v29, v30, v31, v32, v33, v34, v35, v36, v37, v38, v39, v40, v41, v42, v43, v44, v45, v46, v47, v48, v49, v50, v51, v52, v53, v54, v55, v56, v57, v58, v59, v60, v61], []⟩ reg9.size = ⟨#[v0, v1, v2, v3, v4, v5, v6, v7, v8, v9, v10, v11, v12, v13, v14, v15, v16, v17, v18, v19, v20, v21, v22, v23, v24, v25, v26, v27, v28, v29, v30, v31, v32, v33, v34, v35, v36, v37, v38, v39, v40, v41, v42, X 0, X 1, X 2, X 3, X 4, X 5, X 6, X 7, X 8, X 9, X 10, X 11, X 12, X 13, X 14, X 15, v59, v60, v61], []⟩ := by kernel_rfl
end Go.Proofs.YtfimaflglnemdaaDoor.Dev
