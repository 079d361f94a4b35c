/- SieveFinds: the operations of its region 14, each by its value. -/
import Derived.Test.YtceaklefdahfkaaVals
import Derived.Test.YtceaklefdahfkaaSv1
namespace Go.Proofs.Ytceaklefdahfkaa
open Go.RowKit
def findR (n : Nat) : Code → Option (Array Oper)
  | .region m ops _ => if m = n then some ops else none
  | .seq a b => match findR n a with
    | some c => some c
    | none => findR n b
  | .scope c => findR n c
  | .block _ c => findR n c
  | .loop c => findR n c
  | .cond _ a b => match findR n a with
    | some c => some c
    | none => findR n b
  | _ => none
/-- The closed facts of a region, by running. -/
def okR (ops : Array Oper) (N : Nat) : Bool :=
  (List.range ops.size).all fun i => ((ops[i]?).map fun o => (o.after.all fun e => !Region.binds .any e || decide (e.on < i)) && (match o.dst with | some d => decide (d < N) | none => true) &&
    (List.range ops.size).all fun j => decide (j = i) || ((ops[j]?).map fun p => decide (o.dst = none) || decide (p.dst ≠ o.dst)).getD true).getD true
theorem okR_at {ops : Array Oper} {N : Nat} (h : okR ops N = true) {i : Nat} {o : Oper} (ho : ops[i]? = some o) :
    (∀ e ∈ o.after, Region.binds .any e = true → e.on < i) ∧ (∀ d, o.dst = some d → d < N) ∧ ∀ (j : Nat) oj d, ops[j]? = some oj → oj.dst = some d → o.dst = some d → j = i := by
  have hi : i < ops.size := (Array.getElem?_eq_some_iff.1 ho).1
  have h1 := List.all_eq_true.1 h i (List.mem_range.2 hi)
  rw [ho] at h1
  simp only [Option.map_some, Option.getD_some, Bool.and_eq_true] at h1
  obtain ⟨⟨h1, h2⟩, h3⟩ := h1
  refine ⟨fun e he hb => ?_, fun d hd => ?_, fun j oj d hj hdj hd => ?_⟩
  · have := Array.all_eq_true_iff_forall_mem.1 h1 e he
    rw [hb] at this
    simpa using this
  · rw [hd] at h2
    simpa using h2
  · have hjs : j < ops.size := (Array.getElem?_eq_some_iff.1 hj).1
    have h4 := List.all_eq_true.1 h3 j (List.mem_range.2 hjs)
    rw [hj] at h4
    simp only [Option.map_some, Option.getD_some, Bool.or_eq_true, decide_eq_true_eq] at h4
    rcases h4 with h4 | h4 | h4
    · exact h4
    · rw [hd] at h4; cases h4
    · rw [hd, hdj] at h4; exact absurd rfl h4
theorem ev_old {ops : Array Oper} {a0 a : Act} {V : Nat → Value} {listed : Array Bool} (hF : RFr ops a0 V listed a) (s : Nat) (v : Value) (hs : a0.tmps[s]? = some v) (hno : (ops.all fun o => decide (o.dst ≠ some s)) = true) : a.eval (.tmp s) = v := by
  have h := hF.old s (fun j o hj hd => by
    have := Array.all_eq_true_iff_forall_mem.1 hno o (Array.mem_of_getElem? hj)
    simp [hd] at this)
  rw [hs] at h
  show a.tmps.getD s undef = v
  rw [Array.getD_eq_getD_getElem?, h]
  rfl
theorem tm_dep {ops : Array Oper} {a0 a : Act} {V : Nat → Value} {listed : Array Bool} (hF : RFr ops a0 V listed a) (j d : Nat) (hd : (ops[j]?).bind (·.dst) = some d) (hl : listed.getD j false = true) : a.tmps[d]? = some (V j) := by
  obtain ⟨o, ho, hod⟩ : ∃ o, ops[j]? = some o ∧ o.dst = some d := by
    cases h : ops[j]? with
    | none => rw [h] at hd; cases hd
    | some o => rw [h] at hd; exact ⟨o, rfl, hd⟩
  refine hF.val j o d ho hod ?_
  have hj : j < listed.size := by
    rcases Nat.lt_or_ge j listed.size with h | h
    · exact h
    · unfold Array.getD at hl; rw [dif_neg (by omega)] at hl; cases hl
  rw [agetD _ _ _ hj] at hl ⊢
  exact hl
theorem tm_old {ops : Array Oper} {a0 a : Act} {V : Nat → Value} {listed : Array Bool} (hF : RFr ops a0 V listed a) (s : Nat) (v : Value) (hs : a0.tmps[s]? = some v) (hno : (ops.all fun o => decide (o.dst ≠ some s)) = true) : a.tmps[s]? = some v := by
  have h := hF.old s (fun j o hj hd => by
    have := Array.all_eq_true_iff_forall_mem.1 hno o (Array.mem_of_getElem? hj)
    simp [hd] at this)
  rw [h, hs]
theorem ev_dep {ops : Array Oper} {a0 a : Act} {V : Nat → Value} {listed : Array Bool} (hF : RFr ops a0 V listed a) (j d : Nat) (hd : (ops[j]?).bind (·.dst) = some d) (hl : listed.getD j false = true) : a.eval (.tmp d) = V j := by
  show a.tmps.getD d undef = V j
  rw [Array.getD_eq_getD_getElem?, tm_dep hF j d hd hl]
  rfl
theorem yl_dep {ops : Array Oper} {a0 a : Act} {V : Nat → Value} {listed : Array Bool} (hF : RFr ops a0 V listed a) (j d : Nat) (b : Bool) (hd : (ops[j]?).bind (·.dst) = some d) (hl : listed.getD j false = true) (hv : V j = .bool b) : yielded ops a.tmps j = some b := by
  unfold yielded
  rw [hd]
  show (match a.tmps[d]? with | some (.bool b) => some b | _ => none) = _
  rw [tm_dep hF j d hd hl, hv]
theorem fact {ops : Array Oper} {i : Nat} {o : Oper} {α : Type} {f : Oper → α} {x : α} (ho : ops[i]? = some o) (h : (ops[i]?).map f = some x) : f o = x := by rw [ho] at h; exact Option.some.inj h
theorem dep_of {ops : Array Oper} {i : Nat} {o : Oper} {listed : Array Bool} (ho : ops[i]? = some o) (hdep : ∀ e ∈ o.after, Region.binds .any e = true → listed.getD e.on false = true) (j : Nat) (h : ((ops[i]?).map fun o => o.after.any fun e => Region.binds .any e && e.on == j) = some true) : listed.getD j false = true := by
  have h1 : (o.after.any fun e => Region.binds .any e && e.on == j) = true := fact ho h
  rw [← Array.any_toList] at h1
  obtain ⟨e, he, hb⟩ := List.any_eq_true.1 h1
  simp only [Bool.and_eq_true, beq_iff_eq] at hb
  rw [← hb.2]
  exact hdep e (Array.mem_toList_iff.1 he) hb.1
theorem want_none {o : Oper} {f : Nat → Option Bool} (h : o.guard = none) : Region.wanted o f = true := by unfold Region.wanted; rw [h]
theorem want_some {o : Oper} {f : Nat → Option Bool} {j : Nat} {b c : Bool} (h : o.guard = some (j, b)) (hy : f j = some c) : Region.wanted o f = (c == b) := by
  unfold Region.wanted; rw [h]; show (f j == some b) = _; rw [hy]; cases b <;> cases c <;> rfl
noncomputable def reg14 : Array Oper := ((Try.f4.body.bind (findR 14)).getD #[])
theorem okR14 : okR reg14 136 = true := by kernel_rfl
def Va14 (b7 off7 hl c7 gd dl bu offu wl cu k xi ki : Nat) : Nat → Value
  | 0 => .slice (some ⟨gd, 0, none⟩) dl dl
  | 1 => .slice (some ⟨b7, off7, none⟩) hl c7
  | 2 => .int .i64 (k : Int)
  | 3 => .pointer (some ⟨b7, off7 + k * 2, none⟩)
  | 4 => .agg #[.int .i64 (xi : Int), .int .i64 (ki : Int)]
  | 5 => .slice (some ⟨bu, offu, none⟩) wl cu
  | 6 => .bool true
  | 7 => .bool false
  | 8 => .bool false
  | 9 => .int .i64 (k : Int)
  | 10 => .bool false
  | 11 => .bool false
  | 24 => .bool false
  | 25 => .bool false
  | _ => undef
def Vb14 (b7 off7 hl c7 gd dl bu offu wl cu k k1 xi ki xp : Nat) : Nat → Value
  | 0 => .slice (some ⟨gd, 0, none⟩) dl dl
  | 1 => .slice (some ⟨b7, off7, none⟩) hl c7
  | 2 => .int .i64 (k : Int)
  | 3 => .pointer (some ⟨b7, off7 + k * 2, none⟩)
  | 4 => .agg #[.int .i64 (xi : Int), .int .i64 (ki : Int)]
  | 5 => .slice (some ⟨bu, offu, none⟩) wl cu
  | 6 => .bool true
  | 7 => .bool false
  | 8 => .bool false
  | 9 => .int .i64 (k : Int)
  | 10 => .bool true
  | 11 => .bool true
  | 12 => .slice (some ⟨b7, off7, none⟩) hl c7
  | 13 => .int .i64 (k : Int)
  | 14 => .int .i64 (k1 : Int)
  | 15 => .pointer (some ⟨b7, off7 + k1 * 2, none⟩)
  | 16 => .pointer (some ⟨b7, off7 + k1 * 2, none⟩)
  | 17 => .int .i64 (xp : Int)
  | 18 => .slice (some ⟨b7, off7, none⟩) hl c7
  | 19 => .int .i64 (k : Int)
  | 20 => .pointer (some ⟨b7, off7 + k * 2, none⟩)
  | 21 => .pointer (some ⟨b7, off7 + k * 2, none⟩)
  | 22 => .int .i64 (xi : Int)
  | 23 => .bool false
  | 24 => .bool false
  | 25 => .bool false
  | _ => undef
set_option maxHeartbeats 1000000 in
theorem step14a (a0 : Act) (b7 off7 hl c7 gd dl bu offu wl cu k xi ki : Nat) (S : World → Prop) (Q : Exit → Act → World → Prop) (h9 : a0.tmps[9]? = some (.slice (some ⟨bu, offu, none⟩) wl cu)) (h10 : a0.tmps[10]? = some (.slice (some ⟨gd, 0, none⟩) dl dl)) (h13 : a0.tmps[13]? = some (.slice (some ⟨b7, off7, none⟩) hl c7)) (h15 : a0.tmps[15]? = some (.int .i64 (k : Int)))
    (hc : ∀ W, S W → Calls Try.prog 18 #[.slice (some ⟨gd, 0, none⟩) dl dl, .agg #[.int .i64 (xi : Int), .int .i64 (ki : Int)], .slice (some ⟨bu, offu, none⟩) wl cu] W fun e w' => e = .returned (.bool true) ∧ S w') (hld : ∀ W, S W → (Instr.loadAt 40 (.pointer (some ⟨b7, off7 + k * 2, none⟩))).run Try.prog W = .ok (.agg #[.int .i64 (xi : Int), .int .i64 (ki : Int)]) W) (hk0 : (0 : Int) ≤ (k : Int)) (hk1 : (k : Int) < (hl : Int)) (hz : ¬ (0 < k))
    (i : Nat) (o : Oper) (a : Act) (w : World) (listed : Array Bool) (ho : reg14[i]? = some o) (hF : RFr reg14 a0 (Va14 b7 off7 hl c7 gd dl bu offu wl cu k xi ki) listed a) (hS : S w) (hdep : ∀ e ∈ o.after, Region.binds .any e = true → listed.getD e.on false = true) :
      if Region.wanted o (yielded reg14 a.tmps) = true then Oper.wp Try.prog o a w (fun a' w' => a' = a.put o.dst (Va14 b7 off7 hl c7 gd dl bu offu wl cu k xi ki i) ∧ S w') Q else Va14 b7 off7 hl c7 gd dl bu offu wl cu k xi ki i = undef := by
  match i, ho with
  | 0, ho =>
    rw [if_pos (want_none (fact ho (by kernel_rfl)))]
    have hop : o.op = .move (.tmp 10) := fact ho (by kernel_rfl)
    have hds : o.dst = some 68 := fact ho (by kernel_rfl)
    have t10 := tm_old hF 10 _ h10 (by kernel_rfl)
    unfold Oper.wp
    simp [execOp, hop, hds, t10, go_sem, Va14, hS]
  | 1, ho =>
    rw [if_pos (want_none (fact ho (by kernel_rfl)))]
    have hop : o.op = .move (.tmp 13) := fact ho (by kernel_rfl)
    have hds : o.dst = some 69 := fact ho (by kernel_rfl)
    have t13 := tm_old hF 13 _ h13 (by kernel_rfl)
    unfold Oper.wp
    simp [execOp, hop, hds, t13, go_sem, Va14, hS]
  | 2, ho =>
    rw [if_pos (want_none (fact ho (by kernel_rfl)))]
    have hop : o.op = .move (.tmp 15) := fact ho (by kernel_rfl)
    have hds : o.dst = some 70 := fact ho (by kernel_rfl)
    have t15 := tm_old hF 15 _ h15 (by kernel_rfl)
    unfold Oper.wp
    simp [execOp, hop, hds, t15, go_sem, Va14, hS]
  | 3, ho =>
    rw [if_pos (want_none (fact ho (by kernel_rfl)))]
    have hop : o.op = .indexAddr 22 (.tmp 69) (.tmp 70) := fact ho (by kernel_rfl)
    have hds : o.dst = some 71 := fact ho (by kernel_rfl)
    have t69 := tm_dep hF 1 69 (by kernel_rfl) (dep_of ho hdep 1 (by kernel_rfl))
    simp only [Va14] at t69
    have t70 := tm_dep hF 2 70 (by kernel_rfl) (dep_of ho hdep 2 (by kernel_rfl))
    simp only [Va14] at t70
    unfold Oper.wp
    simp [execOp, hop, hds, t69, t70, hk0, hk1, go_sem, Va14, hS]
  | 4, ho =>
    rw [if_pos (want_none (fact ho (by kernel_rfl)))]
    have hop : o.op = .load 40 (.tmp 71) := fact ho (by kernel_rfl)
    have hds : o.dst = some 72 := fact ho (by kernel_rfl)
    have t71 := tm_dep hF 3 71 (by kernel_rfl) (dep_of ho hdep 3 (by kernel_rfl))
    simp only [Va14] at t71
    unfold Oper.wp
    simp [execOp, hop, hds, Act.eval, t71, hld w hS, Oper.upon, Act.put, Va14, hS]
  | 5, ho =>
    rw [if_pos (want_none (fact ho (by kernel_rfl)))]
    have hop : o.op = .move (.tmp 9) := fact ho (by kernel_rfl)
    have hds : o.dst = some 73 := fact ho (by kernel_rfl)
    have t9 := tm_old hF 9 _ h9 (by kernel_rfl)
    unfold Oper.wp
    simp [execOp, hop, hds, t9, go_sem, Va14, hS]
  | 6, ho =>
    rw [if_pos (want_none (fact ho (by kernel_rfl)))]
    have hop : o.op = .call { callee := .value (.func 18), args := #[.tmp 68, .tmp 72, .tmp 73], argTypes := #[27, 40, 26] } := fact ho (by kernel_rfl)
    have hds : o.dst = some 74 := fact ho (by kernel_rfl)
    have t68 := tm_dep hF 0 68 (by kernel_rfl) (dep_of ho hdep 0 (by kernel_rfl))
    simp only [Va14] at t68
    have t72 := tm_dep hF 4 72 (by kernel_rfl) (dep_of ho hdep 4 (by kernel_rfl))
    simp only [Va14] at t72
    have t73 := tm_dep hF 5 73 (by kernel_rfl) (dep_of ho hdep 5 (by kernel_rfl))
    simp only [Va14] at t73
    unfold Oper.wp
    simp [execOp, hop, hds, t68, t72, t73, go_sem, Va14]
    refine (hc w hS).mono ?_
    rintro e w' ⟨rfl, hS'⟩
    exact ⟨rfl, hS'⟩
  | 7, ho =>
    rw [if_pos (want_none (fact ho (by kernel_rfl)))]
    have hop : o.op = .unOp .not 4 (.tmp 74) := fact ho (by kernel_rfl)
    have hds : o.dst = some 75 := fact ho (by kernel_rfl)
    have t74 := tm_dep hF 6 74 (by kernel_rfl) (dep_of ho hdep 6 (by kernel_rfl))
    simp only [Va14] at t74
    unfold Oper.wp
    simp [execOp, hop, hds, t74, go_sem, Va14, hS]
  | 8, ho =>
    rw [if_pos (want_none (fact ho (by kernel_rfl)))]
    have hop : o.op = .move (.tmp 75) := fact ho (by kernel_rfl)
    have hds : o.dst = some 76 := fact ho (by kernel_rfl)
    have t75 := tm_dep hF 7 75 (by kernel_rfl) (dep_of ho hdep 7 (by kernel_rfl))
    simp only [Va14] at t75
    unfold Oper.wp
    simp [execOp, hop, hds, t75, go_sem, Va14, hS]
  | 9, ho =>
    have hy := yl_dep hF 8 76 false (by kernel_rfl) (dep_of ho hdep 8 (by kernel_rfl)) rfl
    have hgd : o.guard = some (8, false) := fact ho (by kernel_rfl)
    rw [if_pos (by rw [want_some hgd hy]; rfl)]
    have hop : o.op = .move (.tmp 15) := fact ho (by kernel_rfl)
    have hds : o.dst = some 77 := fact ho (by kernel_rfl)
    have t15 := tm_old hF 15 _ h15 (by kernel_rfl)
    unfold Oper.wp
    simp [execOp, hop, hds, t15, go_sem, Va14, hS]
  | 10, ho =>
    have hy := yl_dep hF 8 76 false (by kernel_rfl) (dep_of ho hdep 8 (by kernel_rfl)) rfl
    have hgd : o.guard = some (8, false) := fact ho (by kernel_rfl)
    rw [if_pos (by rw [want_some hgd hy]; rfl)]
    have hop : o.op = .binOp .gtr 3 (.tmp 77) (.const (.int .i64 0)) 3 := fact ho (by kernel_rfl)
    have hds : o.dst = some 78 := fact ho (by kernel_rfl)
    have t77 := tm_dep hF 9 77 (by kernel_rfl) (dep_of ho hdep 9 (by kernel_rfl))
    simp only [Va14] at t77
    unfold Oper.wp
    simp [execOp, hop, hds, t77, hz, go_sem, Va14, hS]
  | 11, ho =>
    have hy := yl_dep hF 8 76 false (by kernel_rfl) (dep_of ho hdep 8 (by kernel_rfl)) rfl
    have hgd : o.guard = some (8, false) := fact ho (by kernel_rfl)
    rw [if_pos (by rw [want_some hgd hy]; rfl)]
    have hop : o.op = .move (.tmp 78) := fact ho (by kernel_rfl)
    have hds : o.dst = some 79 := fact ho (by kernel_rfl)
    have t78 := tm_dep hF 10 78 (by kernel_rfl) (dep_of ho hdep 10 (by kernel_rfl))
    simp only [Va14] at t78
    unfold Oper.wp
    simp [execOp, hop, hds, t78, go_sem, Va14, hS]
  | 12, ho =>
    have hy := yl_dep hF 11 79 false (by kernel_rfl) (dep_of ho hdep 11 (by kernel_rfl)) rfl
    have hgd : o.guard = some (11, true) := fact ho (by kernel_rfl)
    rw [if_neg (by rw [want_some hgd hy]; decide)]
    rfl
  | 13, ho =>
    have hy := yl_dep hF 11 79 false (by kernel_rfl) (dep_of ho hdep 11 (by kernel_rfl)) rfl
    have hgd : o.guard = some (11, true) := fact ho (by kernel_rfl)
    rw [if_neg (by rw [want_some hgd hy]; decide)]
    rfl
  | 14, ho =>
    have hy := yl_dep hF 11 79 false (by kernel_rfl) (dep_of ho hdep 11 (by kernel_rfl)) rfl
    have hgd : o.guard = some (11, true) := fact ho (by kernel_rfl)
    rw [if_neg (by rw [want_some hgd hy]; decide)]
    rfl
  | 15, ho =>
    have hy := yl_dep hF 11 79 false (by kernel_rfl) (dep_of ho hdep 11 (by kernel_rfl)) rfl
    have hgd : o.guard = some (11, true) := fact ho (by kernel_rfl)
    rw [if_neg (by rw [want_some hgd hy]; decide)]
    rfl
  | 16, ho =>
    have hy := yl_dep hF 11 79 false (by kernel_rfl) (dep_of ho hdep 11 (by kernel_rfl)) rfl
    have hgd : o.guard = some (11, true) := fact ho (by kernel_rfl)
    rw [if_neg (by rw [want_some hgd hy]; decide)]
    rfl
  | 17, ho =>
    have hy := yl_dep hF 11 79 false (by kernel_rfl) (dep_of ho hdep 11 (by kernel_rfl)) rfl
    have hgd : o.guard = some (11, true) := fact ho (by kernel_rfl)
    rw [if_neg (by rw [want_some hgd hy]; decide)]
    rfl
  | 18, ho =>
    have hy := yl_dep hF 11 79 false (by kernel_rfl) (dep_of ho hdep 11 (by kernel_rfl)) rfl
    have hgd : o.guard = some (11, true) := fact ho (by kernel_rfl)
    rw [if_neg (by rw [want_some hgd hy]; decide)]
    rfl
  | 19, ho =>
    have hy := yl_dep hF 11 79 false (by kernel_rfl) (dep_of ho hdep 11 (by kernel_rfl)) rfl
    have hgd : o.guard = some (11, true) := fact ho (by kernel_rfl)
    rw [if_neg (by rw [want_some hgd hy]; decide)]
    rfl
  | 20, ho =>
    have hy := yl_dep hF 11 79 false (by kernel_rfl) (dep_of ho hdep 11 (by kernel_rfl)) rfl
    have hgd : o.guard = some (11, true) := fact ho (by kernel_rfl)
    rw [if_neg (by rw [want_some hgd hy]; decide)]
    rfl
  | 21, ho =>
    have hy := yl_dep hF 11 79 false (by kernel_rfl) (dep_of ho hdep 11 (by kernel_rfl)) rfl
    have hgd : o.guard = some (11, true) := fact ho (by kernel_rfl)
    rw [if_neg (by rw [want_some hgd hy]; decide)]
    rfl
  | 22, ho =>
    have hy := yl_dep hF 11 79 false (by kernel_rfl) (dep_of ho hdep 11 (by kernel_rfl)) rfl
    have hgd : o.guard = some (11, true) := fact ho (by kernel_rfl)
    rw [if_neg (by rw [want_some hgd hy]; decide)]
    rfl
  | 23, ho =>
    have hy := yl_dep hF 11 79 false (by kernel_rfl) (dep_of ho hdep 11 (by kernel_rfl)) rfl
    have hgd : o.guard = some (11, true) := fact ho (by kernel_rfl)
    rw [if_neg (by rw [want_some hgd hy]; decide)]
    rfl
  | 24, ho =>
    have hy := yl_dep hF 8 76 false (by kernel_rfl) (dep_of ho hdep 8 (by kernel_rfl)) rfl
    have hgd : o.guard = some (8, false) := fact ho (by kernel_rfl)
    rw [if_pos (by rw [want_some hgd hy]; rfl)]
    have hop : o.op = .pick (.tmp 79) (.tmp 91) (.const (.bool false)) := fact ho (by kernel_rfl)
    have hds : o.dst = some 92 := fact ho (by kernel_rfl)
    have t79 := tm_dep hF 11 79 (by kernel_rfl) (dep_of ho hdep 11 (by kernel_rfl))
    simp only [Va14] at t79
    have t91 := tm_dep hF 23 91 (by kernel_rfl) (dep_of ho hdep 23 (by kernel_rfl))
    simp only [Va14] at t91
    unfold Oper.wp
    simp [execOp, hop, hds, t79, t91, go_sem, Va14, hS]
  | 25, ho =>
    rw [if_pos (want_none (fact ho (by kernel_rfl)))]
    have hop : o.op = .pick (.tmp 76) (.const (.bool true)) (.tmp 92) := fact ho (by kernel_rfl)
    have hds : o.dst = some 93 := fact ho (by kernel_rfl)
    have t76 := tm_dep hF 8 76 (by kernel_rfl) (dep_of ho hdep 8 (by kernel_rfl))
    simp only [Va14] at t76
    have t92 := tm_dep hF 24 92 (by kernel_rfl) (dep_of ho hdep 24 (by kernel_rfl))
    simp only [Va14] at t92
    unfold Oper.wp
    simp [execOp, hop, hds, t76, t92, go_sem, Va14, hS]
  | n + 26, ho =>
    exfalso
    have h1 : n + 26 < reg14.size := (Array.getElem?_eq_some_iff.1 ho).1
    rw [show reg14.size = 26 from by kernel_rfl] at h1
    omega
set_option maxHeartbeats 1000000 in
theorem step14b (a0 : Act) (b7 off7 hl c7 gd dl bu offu wl cu k k1 xi ki xp : Nat) (S : World → Prop) (Q : Exit → Act → World → Prop) (h9 : a0.tmps[9]? = some (.slice (some ⟨bu, offu, none⟩) wl cu)) (h10 : a0.tmps[10]? = some (.slice (some ⟨gd, 0, none⟩) dl dl)) (h13 : a0.tmps[13]? = some (.slice (some ⟨b7, off7, none⟩) hl c7)) (h15 : a0.tmps[15]? = some (.int .i64 (k : Int)))
    (hc : ∀ W, S W → Calls Try.prog 18 #[.slice (some ⟨gd, 0, none⟩) dl dl, .agg #[.int .i64 (xi : Int), .int .i64 (ki : Int)], .slice (some ⟨bu, offu, none⟩) wl cu] W fun e w' => e = .returned (.bool true) ∧ S w') (hld : ∀ W, S W → (Instr.loadAt 40 (.pointer (some ⟨b7, off7 + k * 2, none⟩))).run Try.prog W = .ok (.agg #[.int .i64 (xi : Int), .int .i64 (ki : Int)]) W) (hk0 : (0 : Int) ≤ (k : Int)) (hk1 : (k : Int) < (hl : Int)) (hz : 0 < k) (hw : IntKind.i64.wrap ((k : Int) - 1) = (k1 : Int)) (hp0 : (0 : Int) ≤ (k1 : Int)) (hp1 : (k1 : Int) < (hl : Int)) (hlp : ∀ W, S W → (Instr.loadAt 3 (.pointer (some ⟨b7, off7 + k1 * 2, none⟩))).run Try.prog W = .ok (.int .i64 (xp : Int)) W) (hli : ∀ W, S W → (Instr.loadAt 3 (.pointer (some ⟨b7, off7 + k * 2, none⟩))).run Try.prog W = .ok (.int .i64 (xi : Int)) W) (hlt : ¬ (xi ≤ xp))
    (i : Nat) (o : Oper) (a : Act) (w : World) (listed : Array Bool) (ho : reg14[i]? = some o) (hF : RFr reg14 a0 (Vb14 b7 off7 hl c7 gd dl bu offu wl cu k k1 xi ki xp) listed a) (hS : S w) (hdep : ∀ e ∈ o.after, Region.binds .any e = true → listed.getD e.on false = true) :
      if Region.wanted o (yielded reg14 a.tmps) = true then Oper.wp Try.prog o a w (fun a' w' => a' = a.put o.dst (Vb14 b7 off7 hl c7 gd dl bu offu wl cu k k1 xi ki xp i) ∧ S w') Q else Vb14 b7 off7 hl c7 gd dl bu offu wl cu k k1 xi ki xp i = undef := by
  match i, ho with
  | 0, ho =>
    rw [if_pos (want_none (fact ho (by kernel_rfl)))]
    have hop : o.op = .move (.tmp 10) := fact ho (by kernel_rfl)
    have hds : o.dst = some 68 := fact ho (by kernel_rfl)
    have t10 := tm_old hF 10 _ h10 (by kernel_rfl)
    unfold Oper.wp
    simp [execOp, hop, hds, t10, go_sem, Vb14, hS]
  | 1, ho =>
    rw [if_pos (want_none (fact ho (by kernel_rfl)))]
    have hop : o.op = .move (.tmp 13) := fact ho (by kernel_rfl)
    have hds : o.dst = some 69 := fact ho (by kernel_rfl)
    have t13 := tm_old hF 13 _ h13 (by kernel_rfl)
    unfold Oper.wp
    simp [execOp, hop, hds, t13, go_sem, Vb14, hS]
  | 2, ho =>
    rw [if_pos (want_none (fact ho (by kernel_rfl)))]
    have hop : o.op = .move (.tmp 15) := fact ho (by kernel_rfl)
    have hds : o.dst = some 70 := fact ho (by kernel_rfl)
    have t15 := tm_old hF 15 _ h15 (by kernel_rfl)
    unfold Oper.wp
    simp [execOp, hop, hds, t15, go_sem, Vb14, hS]
  | 3, ho =>
    rw [if_pos (want_none (fact ho (by kernel_rfl)))]
    have hop : o.op = .indexAddr 22 (.tmp 69) (.tmp 70) := fact ho (by kernel_rfl)
    have hds : o.dst = some 71 := fact ho (by kernel_rfl)
    have t69 := tm_dep hF 1 69 (by kernel_rfl) (dep_of ho hdep 1 (by kernel_rfl))
    simp only [Vb14] at t69
    have t70 := tm_dep hF 2 70 (by kernel_rfl) (dep_of ho hdep 2 (by kernel_rfl))
    simp only [Vb14] at t70
    unfold Oper.wp
    simp [execOp, hop, hds, t69, t70, hk0, hk1, go_sem, Vb14, hS]
  | 4, ho =>
    rw [if_pos (want_none (fact ho (by kernel_rfl)))]
    have hop : o.op = .load 40 (.tmp 71) := fact ho (by kernel_rfl)
    have hds : o.dst = some 72 := fact ho (by kernel_rfl)
    have t71 := tm_dep hF 3 71 (by kernel_rfl) (dep_of ho hdep 3 (by kernel_rfl))
    simp only [Vb14] at t71
    unfold Oper.wp
    simp [execOp, hop, hds, Act.eval, t71, hld w hS, Oper.upon, Act.put, Vb14, hS]
  | 5, ho =>
    rw [if_pos (want_none (fact ho (by kernel_rfl)))]
    have hop : o.op = .move (.tmp 9) := fact ho (by kernel_rfl)
    have hds : o.dst = some 73 := fact ho (by kernel_rfl)
    have t9 := tm_old hF 9 _ h9 (by kernel_rfl)
    unfold Oper.wp
    simp [execOp, hop, hds, t9, go_sem, Vb14, hS]
  | 6, ho =>
    rw [if_pos (want_none (fact ho (by kernel_rfl)))]
    have hop : o.op = .call { callee := .value (.func 18), args := #[.tmp 68, .tmp 72, .tmp 73], argTypes := #[27, 40, 26] } := fact ho (by kernel_rfl)
    have hds : o.dst = some 74 := fact ho (by kernel_rfl)
    have t68 := tm_dep hF 0 68 (by kernel_rfl) (dep_of ho hdep 0 (by kernel_rfl))
    simp only [Vb14] at t68
    have t72 := tm_dep hF 4 72 (by kernel_rfl) (dep_of ho hdep 4 (by kernel_rfl))
    simp only [Vb14] at t72
    have t73 := tm_dep hF 5 73 (by kernel_rfl) (dep_of ho hdep 5 (by kernel_rfl))
    simp only [Vb14] at t73
    unfold Oper.wp
    simp [execOp, hop, hds, t68, t72, t73, go_sem, Vb14]
    refine (hc w hS).mono ?_
    rintro e w' ⟨rfl, hS'⟩
    exact ⟨rfl, hS'⟩
  | 7, ho =>
    rw [if_pos (want_none (fact ho (by kernel_rfl)))]
    have hop : o.op = .unOp .not 4 (.tmp 74) := fact ho (by kernel_rfl)
    have hds : o.dst = some 75 := fact ho (by kernel_rfl)
    have t74 := tm_dep hF 6 74 (by kernel_rfl) (dep_of ho hdep 6 (by kernel_rfl))
    simp only [Vb14] at t74
    unfold Oper.wp
    simp [execOp, hop, hds, t74, go_sem, Vb14, hS]
  | 8, ho =>
    rw [if_pos (want_none (fact ho (by kernel_rfl)))]
    have hop : o.op = .move (.tmp 75) := fact ho (by kernel_rfl)
    have hds : o.dst = some 76 := fact ho (by kernel_rfl)
    have t75 := tm_dep hF 7 75 (by kernel_rfl) (dep_of ho hdep 7 (by kernel_rfl))
    simp only [Vb14] at t75
    unfold Oper.wp
    simp [execOp, hop, hds, t75, go_sem, Vb14, hS]
  | 9, ho =>
    have hy := yl_dep hF 8 76 false (by kernel_rfl) (dep_of ho hdep 8 (by kernel_rfl)) rfl
    have hgd : o.guard = some (8, false) := fact ho (by kernel_rfl)
    rw [if_pos (by rw [want_some hgd hy]; rfl)]
    have hop : o.op = .move (.tmp 15) := fact ho (by kernel_rfl)
    have hds : o.dst = some 77 := fact ho (by kernel_rfl)
    have t15 := tm_old hF 15 _ h15 (by kernel_rfl)
    unfold Oper.wp
    simp [execOp, hop, hds, t15, go_sem, Vb14, hS]
  | 10, ho =>
    have hy := yl_dep hF 8 76 false (by kernel_rfl) (dep_of ho hdep 8 (by kernel_rfl)) rfl
    have hgd : o.guard = some (8, false) := fact ho (by kernel_rfl)
    rw [if_pos (by rw [want_some hgd hy]; rfl)]
    have hop : o.op = .binOp .gtr 3 (.tmp 77) (.const (.int .i64 0)) 3 := fact ho (by kernel_rfl)
    have hds : o.dst = some 78 := fact ho (by kernel_rfl)
    have t77 := tm_dep hF 9 77 (by kernel_rfl) (dep_of ho hdep 9 (by kernel_rfl))
    simp only [Vb14] at t77
    unfold Oper.wp
    simp [execOp, hop, hds, t77, hz, go_sem, Vb14, hS]
  | 11, ho =>
    have hy := yl_dep hF 8 76 false (by kernel_rfl) (dep_of ho hdep 8 (by kernel_rfl)) rfl
    have hgd : o.guard = some (8, false) := fact ho (by kernel_rfl)
    rw [if_pos (by rw [want_some hgd hy]; rfl)]
    have hop : o.op = .move (.tmp 78) := fact ho (by kernel_rfl)
    have hds : o.dst = some 79 := fact ho (by kernel_rfl)
    have t78 := tm_dep hF 10 78 (by kernel_rfl) (dep_of ho hdep 10 (by kernel_rfl))
    simp only [Vb14] at t78
    unfold Oper.wp
    simp [execOp, hop, hds, t78, go_sem, Vb14, hS]
  | 12, ho =>
    have hy := yl_dep hF 11 79 true (by kernel_rfl) (dep_of ho hdep 11 (by kernel_rfl)) rfl
    have hgd : o.guard = some (11, true) := fact ho (by kernel_rfl)
    rw [if_pos (by rw [want_some hgd hy]; rfl)]
    have hop : o.op = .move (.tmp 13) := fact ho (by kernel_rfl)
    have hds : o.dst = some 80 := fact ho (by kernel_rfl)
    have t13 := tm_old hF 13 _ h13 (by kernel_rfl)
    unfold Oper.wp
    simp [execOp, hop, hds, t13, go_sem, Vb14, hS]
  | 13, ho =>
    have hy := yl_dep hF 11 79 true (by kernel_rfl) (dep_of ho hdep 11 (by kernel_rfl)) rfl
    have hgd : o.guard = some (11, true) := fact ho (by kernel_rfl)
    rw [if_pos (by rw [want_some hgd hy]; rfl)]
    have hop : o.op = .move (.tmp 15) := fact ho (by kernel_rfl)
    have hds : o.dst = some 81 := fact ho (by kernel_rfl)
    have t15 := tm_old hF 15 _ h15 (by kernel_rfl)
    unfold Oper.wp
    simp [execOp, hop, hds, t15, go_sem, Vb14, hS]
  | 14, ho =>
    have hy := yl_dep hF 11 79 true (by kernel_rfl) (dep_of ho hdep 11 (by kernel_rfl)) rfl
    have hgd : o.guard = some (11, true) := fact ho (by kernel_rfl)
    rw [if_pos (by rw [want_some hgd hy]; rfl)]
    have hop : o.op = .binOp .sub 3 (.tmp 81) (.const (.int .i64 1)) 3 := fact ho (by kernel_rfl)
    have hds : o.dst = some 82 := fact ho (by kernel_rfl)
    have t81 := tm_dep hF 13 81 (by kernel_rfl) (dep_of ho hdep 13 (by kernel_rfl))
    simp only [Vb14] at t81
    unfold Oper.wp
    simp [execOp, hop, hds, t81, hw, go_sem, Vb14, hS]
  | 15, ho =>
    have hy := yl_dep hF 11 79 true (by kernel_rfl) (dep_of ho hdep 11 (by kernel_rfl)) rfl
    have hgd : o.guard = some (11, true) := fact ho (by kernel_rfl)
    rw [if_pos (by rw [want_some hgd hy]; rfl)]
    have hop : o.op = .indexAddr 22 (.tmp 80) (.tmp 82) := fact ho (by kernel_rfl)
    have hds : o.dst = some 83 := fact ho (by kernel_rfl)
    have t80 := tm_dep hF 12 80 (by kernel_rfl) (dep_of ho hdep 12 (by kernel_rfl))
    simp only [Vb14] at t80
    have t82 := tm_dep hF 14 82 (by kernel_rfl) (dep_of ho hdep 14 (by kernel_rfl))
    simp only [Vb14] at t82
    unfold Oper.wp
    simp [execOp, hop, hds, t80, t82, hp0, hp1, go_sem, Vb14, hS]
  | 16, ho =>
    have hy := yl_dep hF 11 79 true (by kernel_rfl) (dep_of ho hdep 11 (by kernel_rfl)) rfl
    have hgd : o.guard = some (11, true) := fact ho (by kernel_rfl)
    rw [if_pos (by rw [want_some hgd hy]; rfl)]
    have hop : o.op = .fieldAddr 40 (.tmp 83) 0 := fact ho (by kernel_rfl)
    have hds : o.dst = some 84 := fact ho (by kernel_rfl)
    have t83 := tm_dep hF 15 83 (by kernel_rfl) (dep_of ho hdep 15 (by kernel_rfl))
    simp only [Vb14] at t83
    unfold Oper.wp
    simp [execOp, hop, hds, t83, go_sem, Vb14, hS]
  | 17, ho =>
    have hy := yl_dep hF 11 79 true (by kernel_rfl) (dep_of ho hdep 11 (by kernel_rfl)) rfl
    have hgd : o.guard = some (11, true) := fact ho (by kernel_rfl)
    rw [if_pos (by rw [want_some hgd hy]; rfl)]
    have hop : o.op = .load 3 (.tmp 84) := fact ho (by kernel_rfl)
    have hds : o.dst = some 85 := fact ho (by kernel_rfl)
    have t84 := tm_dep hF 16 84 (by kernel_rfl) (dep_of ho hdep 16 (by kernel_rfl))
    simp only [Vb14] at t84
    unfold Oper.wp
    simp [execOp, hop, hds, Act.eval, t84, hlp w hS, Oper.upon, Act.put, Vb14, hS]
  | 18, ho =>
    have hy := yl_dep hF 11 79 true (by kernel_rfl) (dep_of ho hdep 11 (by kernel_rfl)) rfl
    have hgd : o.guard = some (11, true) := fact ho (by kernel_rfl)
    rw [if_pos (by rw [want_some hgd hy]; rfl)]
    have hop : o.op = .move (.tmp 13) := fact ho (by kernel_rfl)
    have hds : o.dst = some 86 := fact ho (by kernel_rfl)
    have t13 := tm_old hF 13 _ h13 (by kernel_rfl)
    unfold Oper.wp
    simp [execOp, hop, hds, t13, go_sem, Vb14, hS]
  | 19, ho =>
    have hy := yl_dep hF 11 79 true (by kernel_rfl) (dep_of ho hdep 11 (by kernel_rfl)) rfl
    have hgd : o.guard = some (11, true) := fact ho (by kernel_rfl)
    rw [if_pos (by rw [want_some hgd hy]; rfl)]
    have hop : o.op = .move (.tmp 15) := fact ho (by kernel_rfl)
    have hds : o.dst = some 87 := fact ho (by kernel_rfl)
    have t15 := tm_old hF 15 _ h15 (by kernel_rfl)
    unfold Oper.wp
    simp [execOp, hop, hds, t15, go_sem, Vb14, hS]
  | 20, ho =>
    have hy := yl_dep hF 11 79 true (by kernel_rfl) (dep_of ho hdep 11 (by kernel_rfl)) rfl
    have hgd : o.guard = some (11, true) := fact ho (by kernel_rfl)
    rw [if_pos (by rw [want_some hgd hy]; rfl)]
    have hop : o.op = .indexAddr 22 (.tmp 86) (.tmp 87) := fact ho (by kernel_rfl)
    have hds : o.dst = some 88 := fact ho (by kernel_rfl)
    have t86 := tm_dep hF 18 86 (by kernel_rfl) (dep_of ho hdep 18 (by kernel_rfl))
    simp only [Vb14] at t86
    have t87 := tm_dep hF 19 87 (by kernel_rfl) (dep_of ho hdep 19 (by kernel_rfl))
    simp only [Vb14] at t87
    unfold Oper.wp
    simp [execOp, hop, hds, t86, t87, hk0, hk1, go_sem, Vb14, hS]
  | 21, ho =>
    have hy := yl_dep hF 11 79 true (by kernel_rfl) (dep_of ho hdep 11 (by kernel_rfl)) rfl
    have hgd : o.guard = some (11, true) := fact ho (by kernel_rfl)
    rw [if_pos (by rw [want_some hgd hy]; rfl)]
    have hop : o.op = .fieldAddr 40 (.tmp 88) 0 := fact ho (by kernel_rfl)
    have hds : o.dst = some 89 := fact ho (by kernel_rfl)
    have t88 := tm_dep hF 20 88 (by kernel_rfl) (dep_of ho hdep 20 (by kernel_rfl))
    simp only [Vb14] at t88
    unfold Oper.wp
    simp [execOp, hop, hds, t88, go_sem, Vb14, hS]
  | 22, ho =>
    have hy := yl_dep hF 11 79 true (by kernel_rfl) (dep_of ho hdep 11 (by kernel_rfl)) rfl
    have hgd : o.guard = some (11, true) := fact ho (by kernel_rfl)
    rw [if_pos (by rw [want_some hgd hy]; rfl)]
    have hop : o.op = .load 3 (.tmp 89) := fact ho (by kernel_rfl)
    have hds : o.dst = some 90 := fact ho (by kernel_rfl)
    have t89 := tm_dep hF 21 89 (by kernel_rfl) (dep_of ho hdep 21 (by kernel_rfl))
    simp only [Vb14] at t89
    unfold Oper.wp
    simp [execOp, hop, hds, Act.eval, t89, hli w hS, Oper.upon, Act.put, Vb14, hS]
  | 23, ho =>
    have hy := yl_dep hF 11 79 true (by kernel_rfl) (dep_of ho hdep 11 (by kernel_rfl)) rfl
    have hgd : o.guard = some (11, true) := fact ho (by kernel_rfl)
    rw [if_pos (by rw [want_some hgd hy]; rfl)]
    have hop : o.op = .binOp .geq 3 (.tmp 85) (.tmp 90) 3 := fact ho (by kernel_rfl)
    have hds : o.dst = some 91 := fact ho (by kernel_rfl)
    have t85 := tm_dep hF 17 85 (by kernel_rfl) (dep_of ho hdep 17 (by kernel_rfl))
    simp only [Vb14] at t85
    have t90 := tm_dep hF 22 90 (by kernel_rfl) (dep_of ho hdep 22 (by kernel_rfl))
    simp only [Vb14] at t90
    unfold Oper.wp
    simp [execOp, hop, hds, t85, t90, hlt, go_sem, Vb14, hS]
  | 24, ho =>
    have hy := yl_dep hF 8 76 false (by kernel_rfl) (dep_of ho hdep 8 (by kernel_rfl)) rfl
    have hgd : o.guard = some (8, false) := fact ho (by kernel_rfl)
    rw [if_pos (by rw [want_some hgd hy]; rfl)]
    have hop : o.op = .pick (.tmp 79) (.tmp 91) (.const (.bool false)) := fact ho (by kernel_rfl)
    have hds : o.dst = some 92 := fact ho (by kernel_rfl)
    have t79 := tm_dep hF 11 79 (by kernel_rfl) (dep_of ho hdep 11 (by kernel_rfl))
    simp only [Vb14] at t79
    have t91 := tm_dep hF 23 91 (by kernel_rfl) (dep_of ho hdep 23 (by kernel_rfl))
    simp only [Vb14] at t91
    unfold Oper.wp
    simp [execOp, hop, hds, t79, t91, go_sem, Vb14, hS]
  | 25, ho =>
    rw [if_pos (want_none (fact ho (by kernel_rfl)))]
    have hop : o.op = .pick (.tmp 76) (.const (.bool true)) (.tmp 92) := fact ho (by kernel_rfl)
    have hds : o.dst = some 93 := fact ho (by kernel_rfl)
    have t76 := tm_dep hF 8 76 (by kernel_rfl) (dep_of ho hdep 8 (by kernel_rfl))
    simp only [Vb14] at t76
    have t92 := tm_dep hF 24 92 (by kernel_rfl) (dep_of ho hdep 24 (by kernel_rfl))
    simp only [Vb14] at t92
    unfold Oper.wp
    simp [execOp, hop, hds, t76, t92, go_sem, Vb14, hS]
  | n + 26, ho =>
    exfalso
    have h1 : n + 26 < reg14.size := (Array.getElem?_eq_some_iff.1 ho).1
    rw [show reg14.size = 26 from by kernel_rfl] at h1
    omega
set_option maxRecDepth 100000 in
theorem put14 (X : Nat → Value) (v0 v1 v2 v3 v4 v5 v6 v7 v8 v9 v10 v11 v12 v13 v14 v15 v16 v17 v18 v19 v20 v21 v22 v23 v24 v25 v26 v27 v28 v29 v30 v31 v32 v33 v34 v35 v36 v37 v38 v39 v40 v41 v42 v43 v44 v45 v46 v47 v48 v49 v50 v51 v52 v53 v54 v55 v56 v57 v58 v59 v60 v61 v62 v63 v64 v65 v66 v67 v68 v69 v70 v71 v72 v73 v74 v75 v76 v77 v78 v79 v80 v81 v82 v83 v84 v85 v86 v87 v88 v89 v90 v91 v92 v93 v94 v95 v96 v97 v98 v99 v100 v101 v102 v103 v104 v105 v106 v107 v108 v109 v110 v111 v112 v113 v114 v115 v116 v117 v118 v119 v120 v121 v122 v123 v124 v125 v126 v127 v128 v129 v130 v131 v132 v133 v134 v135 : Value) : putN reg14 X ⟨#[v0, v1, v2, v3, v4, v5, v6, v7, v8, v9, v10, v11, v12, v13, v14, v15, v16, v17, v18, v19, v20, v21, v22, v23, v24, v25, v26, v27, v28, v29, v30, v31, v32, v33, v34, v35, v36, v37, v38, v39, v40, v41, v42, v43, v44, v45, v46, v47, v48, v49, v50, v51, v52, v53, v54, v55, v56, v57, v58, v59, v60, v61, v62, v63, v64, v65, v66, v67, v68, v69, v70, v71, v72, v73, v74, v75, v76, v77, v78, v79, v80, v81, v82, v83, v84, v85, v86, v87, v88, v89, v90, v91, v92, v93, v94, v95, v96, v97, v98, v99, v100, v101, v102, v103, v104, v105, v106, v107, v108, v109, v110, v111, v112, v113, v114, v115, v116, v117, v118, v119, v120, v121, v122, v123, v124, v125, v126, v127, v128, v129, v130, v131, v132, v133, v134, v135], []⟩ reg14.size = ⟨#[v0, v1, v2, v3, v4, v5, v6, v7, v8, v9, v10, v11, v12, v13, v14, v15, v16, v17, v18, v19, v20, v21, v22, v23, v24, v25, v26, v27, v28, v29, v30, v31, v32, v33, v34, v35, v36, v37, v38, v39, v40, v41, v42, v43, v44, v45, v46, v47, v48, v49, v50, v51, v52, v53, v54, v55, v56, v57, v58, v59, v60, v61, v62, v63, v64, v65, v66, v67, X 0, X 1, X 2, X 3, X 4, X 5, X 6, X 7, X 8, X 9, X 10, X 11, X 12, X 13, X 14, X 15, X 16, X 17, X 18, X 19, X 20, X 21, X 22, X 23, X 24, X 25, v94, v95, v96, v97, v98, v99, v100, v101, v102, v103, v104, v105, v106, v107, v108, v109, v110, v111, v112, v113, v114, v115, v116, v117, v118, v119, v120, v121, v122, v123, v124, v125, v126, v127, v128, v129, v130, v131, v132, v133, v134, v135], []⟩ := by kernel_rfl
end Go.Proofs.Ytceaklefdahfkaa
