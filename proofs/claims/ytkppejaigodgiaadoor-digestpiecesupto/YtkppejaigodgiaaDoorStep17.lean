import Derived.Test.YtkppejaigodgiaaDoorPieces
import Derived.Test.YtkppejaigodgiaaDoorVals
namespace Go.Proofs.YtkppejaigodgiaaDoor
open Go.RowKit
def findR (n : Nat) : Code → Option (Array Oper)
  | .region m ops _ => if m = n then some ops else none
  | .seq a b => match findR n a with
    | some c => some c
    | none => findR n b
  | .scope c => findR n c
  | .block _ c => findR n c
  | .loop c => findR n c
  | .cond _ a b => match findR n a with
    | some c => some c
    | none => findR n b
  | _ => none
noncomputable def reg17 : Array Oper := ((Tryd.f7.body.bind (findR 17)).getD #[])
/-- The closed facts of a region, by running. -/
def okR (ops : Array Oper) (N : Nat) : Bool :=
  (List.range ops.size).all fun i => ((ops[i]?).map fun o => (o.after.all fun e => !Region.binds .any e || decide (e.on < i)) && (match o.dst with | some d => decide (d < N) | none => true) &&
    (List.range ops.size).all fun j => decide (j = i) || ((ops[j]?).map fun p => decide (o.dst = none) || decide (p.dst ≠ o.dst)).getD true).getD true
theorem okR17 : okR reg17 119 = true := by kernel_rfl
theorem okR_at {ops : Array Oper} {N : Nat} (h : okR ops N = true) {i : Nat} {o : Oper} (ho : ops[i]? = some o) :
    (∀ e ∈ o.after, Region.binds .any e = true → e.on < i) ∧ (∀ d, o.dst = some d → d < N) ∧ ∀ (j : Nat) oj d, ops[j]? = some oj → oj.dst = some d → o.dst = some d → j = i := by
  have hi : i < ops.size := (Array.getElem?_eq_some_iff.1 ho).1
  have h1 := List.all_eq_true.1 h i (List.mem_range.2 hi)
  rw [ho] at h1
  simp only [Option.map_some, Option.getD_some, Bool.and_eq_true] at h1
  obtain ⟨⟨h1, h2⟩, h3⟩ := h1
  refine ⟨fun e he hb => ?_, fun d hd => ?_, fun j oj d hj hdj hd => ?_⟩
  · have := Array.all_eq_true_iff_forall_mem.1 h1 e he
    rw [hb] at this
    simpa using this
  · rw [hd] at h2
    simpa using h2
  · have hjs : j < ops.size := (Array.getElem?_eq_some_iff.1 hj).1
    have h4 := List.all_eq_true.1 h3 j (List.mem_range.2 hjs)
    rw [hj] at h4
    simp only [Option.map_some, Option.getD_some, Bool.or_eq_true, decide_eq_true_eq] at h4
    rcases h4 with h4 | h4 | h4
    · exact h4
    · rw [hd] at h4; cases h4
    · rw [hd, hdj] at h4; exact absurd rfl h4
theorem ev_old {ops : Array Oper} {a0 a : Act} {V : Nat → Value} {listed : Array Bool} (hF : RFr ops a0 V listed a) (s : Nat) (v : Value) (hs : a0.tmps[s]? = some v) (hno : (ops.all fun o => decide (o.dst ≠ some s)) = true) : a.eval (.tmp s) = v := by
  have h := hF.old s (fun j o hj hd => by
    have := Array.all_eq_true_iff_forall_mem.1 hno o (Array.mem_of_getElem? hj)
    simp [hd] at this)
  rw [hs] at h
  show a.tmps.getD s undef = v
  rw [Array.getD_eq_getD_getElem?, h]
  rfl
theorem tm_dep {ops : Array Oper} {a0 a : Act} {V : Nat → Value} {listed : Array Bool} (hF : RFr ops a0 V listed a) (j d : Nat) (hd : (ops[j]?).bind (·.dst) = some d) (hl : listed.getD j false = true) : a.tmps[d]? = some (V j) := by
  obtain ⟨o, ho, hod⟩ : ∃ o, ops[j]? = some o ∧ o.dst = some d := by
    cases h : ops[j]? with
    | none => rw [h] at hd; cases hd
    | some o => rw [h] at hd; exact ⟨o, rfl, hd⟩
  refine hF.val j o d ho hod ?_
  have hj : j < listed.size := by
    rcases Nat.lt_or_ge j listed.size with h | h
    · exact h
    · unfold Array.getD at hl; rw [dif_neg (by omega)] at hl; cases hl
  rw [agetD _ _ _ hj] at hl ⊢
  exact hl
theorem tm_old {ops : Array Oper} {a0 a : Act} {V : Nat → Value} {listed : Array Bool} (hF : RFr ops a0 V listed a) (s : Nat) (v : Value) (hs : a0.tmps[s]? = some v) (hno : (ops.all fun o => decide (o.dst ≠ some s)) = true) : a.tmps[s]? = some v := by
  have h := hF.old s (fun j o hj hd => by
    have := Array.all_eq_true_iff_forall_mem.1 hno o (Array.mem_of_getElem? hj)
    simp [hd] at this)
  rw [h, hs]
theorem ev_dep {ops : Array Oper} {a0 a : Act} {V : Nat → Value} {listed : Array Bool} (hF : RFr ops a0 V listed a) (j d : Nat) (hd : (ops[j]?).bind (·.dst) = some d) (hl : listed.getD j false = true) : a.eval (.tmp d) = V j := by
  show a.tmps.getD d undef = V j
  rw [Array.getD_eq_getD_getElem?, tm_dep hF j d hd hl]
  rfl
theorem yl_dep {ops : Array Oper} {a0 a : Act} {V : Nat → Value} {listed : Array Bool} (hF : RFr ops a0 V listed a) (j d : Nat) (b : Bool) (hd : (ops[j]?).bind (·.dst) = some d) (hl : listed.getD j false = true) (hv : V j = .bool b) : yielded ops a.tmps j = some b := by
  unfold yielded
  rw [hd]
  show (match a.tmps[d]? with | some (.bool b) => some b | _ => none) = _
  rw [tm_dep hF j d hd hl, hv]
theorem fact {ops : Array Oper} {i : Nat} {o : Oper} {α : Type} {f : Oper → α} {x : α} (ho : ops[i]? = some o) (h : (ops[i]?).map f = some x) : f o = x := by rw [ho] at h; exact Option.some.inj h
theorem dep_of {ops : Array Oper} {i : Nat} {o : Oper} {listed : Array Bool} (ho : ops[i]? = some o) (hdep : ∀ e ∈ o.after, Region.binds .any e = true → listed.getD e.on false = true) (j : Nat) (h : ((ops[i]?).map fun o => o.after.any fun e => Region.binds .any e && e.on == j) = some true) : listed.getD j false = true := by
  have h1 : (o.after.any fun e => Region.binds .any e && e.on == j) = true := fact ho h
  rw [← Array.any_toList] at h1
  obtain ⟨e, he, hb⟩ := List.any_eq_true.1 h1
  simp only [Bool.and_eq_true, beq_iff_eq] at hb
  rw [← hb.2]
  exact hdep e (Array.mem_toList_iff.1 he) hb.1
theorem want_none {o : Oper} {f : Nat → Option Bool} (h : o.guard = none) : Region.wanted o f = true := by unfold Region.wanted; rw [h]
theorem want_some {o : Oper} {f : Nat → Option Bool} {j : Nat} {b c : Bool} (h : o.guard = some (j, b)) (hy : f j = some c) : Region.wanted o f = (c == b) := by
  unfold Region.wanted; rw [h]; show (f j == some b) = _; rw [hy]; cases b <;> cases c <;> rfl
def Vn (G : Nat) (s : List Nat) : Nat → Value
  | 0 | 5 => .pointer (some ⟨G, 0, none⟩)
  | 1 | 2 | 6 | 7 => .agg (bs s)
  | 3 | 4 | 8 | 9 | 10 | 12 | 13 | 25 | 26 => .bool false
  | 11 => .pointer none
  | _ => undef
def Vs (G C n : Nat) (all : Value) (s : List Nat) : Nat → Value
  | 0 | 5 => .pointer (some ⟨G, 0, none⟩)
  | 1 | 2 | 6 | 7 | 15 | 16 => .agg (bs s)
  | 3 | 4 | 8 | 9 | 10 | 17 | 18 | 23 | 24 | 25 | 26 => .bool false
  | 12 | 13 => .bool true
  | 11 | 14 | 19 => .pointer (some ⟨C, 0, none⟩)
  | 20 | 22 => .int .i64 (n : Int)
  | 21 => all
  | _ => undef
set_option maxHeartbeats 1000000 in
theorem step17n (a0 : Act) (G R : Nat) (s : List Nat) (S : World → Prop) (Q : Exit → Act → World → Prop) (h6 : a0.tmps[6]? = some (.pointer (some ⟨G, 0, none⟩))) (h7 : a0.tmps[7]? = some (.pointer none)) (h9 : a0.tmps[9]? = some (.pointer (some ⟨R, 0, none⟩)))
    (hG : ∀ w, S w → Calls Tryd.prog 11 #[.pointer (some ⟨G, 0, none⟩)] w fun e w' => e = .returned (.agg (bs s)) ∧ S w') (hld : ∀ w, S w → (Instr.loadAt 28 (.pointer (some ⟨R, 0, none⟩))).run Tryd.prog w = .ok (.agg (bs s)) w) (heq : ∀ w, S w → (Op.equalIn 10000 28 (.agg (bs s)) (.agg (bs s))).run Tryd.prog w = .ok true w)
    (i : Nat) (o : Oper) (a : Act) (w : World) (listed : Array Bool) (ho : reg17[i]? = some o) (hF : RFr reg17 a0 (Vn G s) listed a) (hS : S w) (hdep : ∀ e ∈ o.after, Region.binds .any e = true → listed.getD e.on false = true) :
      if Region.wanted o (yielded reg17 a.tmps) = true then Oper.wp Tryd.prog o a w (fun a' w' => a' = a.put o.dst (Vn G s i) ∧ S w') Q else Vn G s i = undef := by
  match i, ho with
  | 0, ho =>
    rw [if_pos (want_none (fact ho (by kernel_rfl)))]
    have hop : o.op = .move (.tmp 6) := fact ho (by kernel_rfl)
    have hds : o.dst = some 69 := fact ho (by kernel_rfl)
    have t6 := tm_old hF 6 _ h6 (by kernel_rfl)
    unfold Oper.wp
    simp [execOp, hop, hds, t6, go_sem, Vn, hS]
  | 1, ho =>
    rw [if_pos (want_none (fact ho (by kernel_rfl)))]
    have hop : o.op = .call { callee := .value (.func 11), args := #[.tmp 69], argTypes := #[22] } := fact ho (by kernel_rfl)
    have hds : o.dst = some 70 := fact ho (by kernel_rfl)
    have t69 := tm_dep hF 0 69 (by kernel_rfl) (dep_of ho hdep 0 (by kernel_rfl))
    simp only [Vn] at t69
    unfold Oper.wp
    simp [execOp, hop, hds, t69, go_sem, Vn]
    refine (hG w hS).mono ?_
    rintro e w' ⟨rfl, hS'⟩
    exact ⟨rfl, hS'⟩
  | 2, ho =>
    rw [if_pos (want_none (fact ho (by kernel_rfl)))]
    have hop : o.op = .load 28 (.tmp 9) := fact ho (by kernel_rfl)
    have hds : o.dst = some 71 := fact ho (by kernel_rfl)
    have t9 := tm_old hF 9 _ h9 (by kernel_rfl)
    unfold Oper.wp
    simp [execOp, hop, hds, Act.eval, t9, hld w hS, Oper.upon, Act.put, Vn, hS]
  | 3, ho =>
    rw [if_pos (want_none (fact ho (by kernel_rfl)))]
    have hop : o.op = .binOp .neq 28 (.tmp 70) (.tmp 71) 28 := fact ho (by kernel_rfl)
    have hds : o.dst = some 72 := fact ho (by kernel_rfl)
    have t70 := tm_dep hF 1 70 (by kernel_rfl) (dep_of ho hdep 1 (by kernel_rfl))
    simp only [Vn] at t70
    have t71 := tm_dep hF 2 71 (by kernel_rfl) (dep_of ho hdep 2 (by kernel_rfl))
    simp only [Vn] at t71
    unfold Oper.wp
    simp [execOp, hop, hds, t70, t71, go_sem, heq w hS, Vn, hS]
  | 4, ho =>
    rw [if_pos (want_none (fact ho (by kernel_rfl)))]
    have hop : o.op = .move (.tmp 72) := fact ho (by kernel_rfl)
    have hds : o.dst = some 73 := fact ho (by kernel_rfl)
    have t72 := tm_dep hF 3 72 (by kernel_rfl) (dep_of ho hdep 3 (by kernel_rfl))
    simp only [Vn] at t72
    unfold Oper.wp
    simp [execOp, hop, hds, t72, go_sem, Vn, hS]
  | 5, ho =>
    have hy := yl_dep hF 4 73 false (by kernel_rfl) (dep_of ho hdep 4 (by kernel_rfl)) rfl
    have hgd : o.guard = some (4, false) := fact ho (by kernel_rfl)
    rw [if_pos (by rw [want_some hgd hy]; rfl)]
    have hop : o.op = .move (.tmp 6) := fact ho (by kernel_rfl)
    have hds : o.dst = some 74 := fact ho (by kernel_rfl)
    have t6 := tm_old hF 6 _ h6 (by kernel_rfl)
    unfold Oper.wp
    simp [execOp, hop, hds, t6, go_sem, Vn, hS]
  | 6, ho =>
    have hy := yl_dep hF 4 73 false (by kernel_rfl) (dep_of ho hdep 4 (by kernel_rfl)) rfl
    have hgd : o.guard = some (4, false) := fact ho (by kernel_rfl)
    rw [if_pos (by rw [want_some hgd hy]; rfl)]
    have hop : o.op = .call { callee := .value (.func 11), args := #[.tmp 74], argTypes := #[22] } := fact ho (by kernel_rfl)
    have hds : o.dst = some 75 := fact ho (by kernel_rfl)
    have t74 := tm_dep hF 5 74 (by kernel_rfl) (dep_of ho hdep 5 (by kernel_rfl))
    simp only [Vn] at t74
    unfold Oper.wp
    simp [execOp, hop, hds, t74, go_sem, Vn]
    refine (hG w hS).mono ?_
    rintro e w' ⟨rfl, hS'⟩
    exact ⟨rfl, hS'⟩
  | 7, ho =>
    have hy := yl_dep hF 4 73 false (by kernel_rfl) (dep_of ho hdep 4 (by kernel_rfl)) rfl
    have hgd : o.guard = some (4, false) := fact ho (by kernel_rfl)
    rw [if_pos (by rw [want_some hgd hy]; rfl)]
    have hop : o.op = .load 28 (.tmp 9) := fact ho (by kernel_rfl)
    have hds : o.dst = some 76 := fact ho (by kernel_rfl)
    have t9 := tm_old hF 9 _ h9 (by kernel_rfl)
    unfold Oper.wp
    simp [execOp, hop, hds, Act.eval, t9, hld w hS, Oper.upon, Act.put, Vn, hS]
  | 8, ho =>
    have hy := yl_dep hF 4 73 false (by kernel_rfl) (dep_of ho hdep 4 (by kernel_rfl)) rfl
    have hgd : o.guard = some (4, false) := fact ho (by kernel_rfl)
    rw [if_pos (by rw [want_some hgd hy]; rfl)]
    have hop : o.op = .binOp .neq 28 (.tmp 75) (.tmp 76) 28 := fact ho (by kernel_rfl)
    have hds : o.dst = some 77 := fact ho (by kernel_rfl)
    have t75 := tm_dep hF 6 75 (by kernel_rfl) (dep_of ho hdep 6 (by kernel_rfl))
    simp only [Vn] at t75
    have t76 := tm_dep hF 7 76 (by kernel_rfl) (dep_of ho hdep 7 (by kernel_rfl))
    simp only [Vn] at t76
    unfold Oper.wp
    simp [execOp, hop, hds, t75, t76, go_sem, heq w hS, Vn, hS]
  | 9, ho =>
    rw [if_pos (want_none (fact ho (by kernel_rfl)))]
    have hop : o.op = .pick (.tmp 73) (.const (.bool true)) (.tmp 77) := fact ho (by kernel_rfl)
    have hds : o.dst = some 78 := fact ho (by kernel_rfl)
    have t73 := tm_dep hF 4 73 (by kernel_rfl) (dep_of ho hdep 4 (by kernel_rfl))
    simp only [Vn] at t73
    have t77 := tm_dep hF 8 77 (by kernel_rfl) (dep_of ho hdep 8 (by kernel_rfl))
    simp only [Vn] at t77
    unfold Oper.wp
    simp [execOp, hop, hds, t73, t77, go_sem, Vn, hS]
  | 10, ho =>
    rw [if_pos (want_none (fact ho (by kernel_rfl)))]
    have hop : o.op = .move (.tmp 78) := fact ho (by kernel_rfl)
    have hds : o.dst = some 79 := fact ho (by kernel_rfl)
    have t78 := tm_dep hF 9 78 (by kernel_rfl) (dep_of ho hdep 9 (by kernel_rfl))
    simp only [Vn] at t78
    unfold Oper.wp
    simp [execOp, hop, hds, t78, go_sem, Vn, hS]
  | 11, ho =>
    have hy := yl_dep hF 10 79 false (by kernel_rfl) (dep_of ho hdep 10 (by kernel_rfl)) rfl
    have hgd : o.guard = some (10, false) := fact ho (by kernel_rfl)
    rw [if_pos (by rw [want_some hgd hy]; rfl)]
    have hop : o.op = .move (.tmp 7) := fact ho (by kernel_rfl)
    have hds : o.dst = some 80 := fact ho (by kernel_rfl)
    have t7 := tm_old hF 7 _ h7 (by kernel_rfl)
    unfold Oper.wp
    simp [execOp, hop, hds, t7, go_sem, Vn, hS]
  | 12, ho =>
    have hy := yl_dep hF 10 79 false (by kernel_rfl) (dep_of ho hdep 10 (by kernel_rfl)) rfl
    have hgd : o.guard = some (10, false) := fact ho (by kernel_rfl)
    rw [if_pos (by rw [want_some hgd hy]; rfl)]
    have hop : o.op = .binOp .neq 22 (.tmp 80) (.const (.pointer none)) 22 := fact ho (by kernel_rfl)
    have hds : o.dst = some 81 := fact ho (by kernel_rfl)
    have t80 := tm_dep hF 11 80 (by kernel_rfl) (dep_of ho hdep 11 (by kernel_rfl))
    simp only [Vn] at t80
    unfold Oper.wp
    simp [execOp, hop, hds, t80, go_sem, Vn, hS]
  | 13, ho =>
    have hy := yl_dep hF 10 79 false (by kernel_rfl) (dep_of ho hdep 10 (by kernel_rfl)) rfl
    have hgd : o.guard = some (10, false) := fact ho (by kernel_rfl)
    rw [if_pos (by rw [want_some hgd hy]; rfl)]
    have hop : o.op = .move (.tmp 81) := fact ho (by kernel_rfl)
    have hds : o.dst = some 82 := fact ho (by kernel_rfl)
    have t81 := tm_dep hF 12 81 (by kernel_rfl) (dep_of ho hdep 12 (by kernel_rfl))
    simp only [Vn] at t81
    unfold Oper.wp
    simp [execOp, hop, hds, t81, go_sem, Vn, hS]
  | 14, ho =>
    have hy := yl_dep hF 13 82 false (by kernel_rfl) (dep_of ho hdep 13 (by kernel_rfl)) rfl
    have hgd : o.guard = some (13, true) := fact ho (by kernel_rfl)
    rw [if_neg (by rw [want_some hgd hy]; decide)]
    rfl
  | 15, ho =>
    have hy := yl_dep hF 13 82 false (by kernel_rfl) (dep_of ho hdep 13 (by kernel_rfl)) rfl
    have hgd : o.guard = some (13, true) := fact ho (by kernel_rfl)
    rw [if_neg (by rw [want_some hgd hy]; decide)]
    rfl
  | 16, ho =>
    have hy := yl_dep hF 13 82 false (by kernel_rfl) (dep_of ho hdep 13 (by kernel_rfl)) rfl
    have hgd : o.guard = some (13, true) := fact ho (by kernel_rfl)
    rw [if_neg (by rw [want_some hgd hy]; decide)]
    rfl
  | 17, ho =>
    have hy := yl_dep hF 13 82 false (by kernel_rfl) (dep_of ho hdep 13 (by kernel_rfl)) rfl
    have hgd : o.guard = some (13, true) := fact ho (by kernel_rfl)
    rw [if_neg (by rw [want_some hgd hy]; decide)]
    rfl
  | 18, ho =>
    have hy := yl_dep hF 13 82 false (by kernel_rfl) (dep_of ho hdep 13 (by kernel_rfl)) rfl
    have hgd : o.guard = some (13, true) := fact ho (by kernel_rfl)
    rw [if_neg (by rw [want_some hgd hy]; decide)]
    rfl
  | 19, ho =>
    have gj := tm_dep hF 18 87 (by kernel_rfl) (dep_of ho hdep 18 (by kernel_rfl))
    have hy : yielded reg17 a.tmps 18 = none := by unfold yielded; rw [show (reg17[18]?).bind (·.dst) = some 87 from by kernel_rfl]; show (match a.tmps[87]? with | some (.bool b) => some b | _ => none) = _; rw [gj]; rfl
    have hgd : o.guard = some (18, false) := fact ho (by kernel_rfl)
    rw [if_neg (by unfold Region.wanted; rw [hgd]; show ¬ ((yielded reg17 a.tmps 18 == some false) = true); rw [hy]; decide)]
    rfl
  | 20, ho =>
    have gj := tm_dep hF 18 87 (by kernel_rfl) (dep_of ho hdep 18 (by kernel_rfl))
    have hy : yielded reg17 a.tmps 18 = none := by unfold yielded; rw [show (reg17[18]?).bind (·.dst) = some 87 from by kernel_rfl]; show (match a.tmps[87]? with | some (.bool b) => some b | _ => none) = _; rw [gj]; rfl
    have hgd : o.guard = some (18, false) := fact ho (by kernel_rfl)
    rw [if_neg (by unfold Region.wanted; rw [hgd]; show ¬ ((yielded reg17 a.tmps 18 == some false) = true); rw [hy]; decide)]
    rfl
  | 21, ho =>
    have gj := tm_dep hF 18 87 (by kernel_rfl) (dep_of ho hdep 18 (by kernel_rfl))
    have hy : yielded reg17 a.tmps 18 = none := by unfold yielded; rw [show (reg17[18]?).bind (·.dst) = some 87 from by kernel_rfl]; show (match a.tmps[87]? with | some (.bool b) => some b | _ => none) = _; rw [gj]; rfl
    have hgd : o.guard = some (18, false) := fact ho (by kernel_rfl)
    rw [if_neg (by unfold Region.wanted; rw [hgd]; show ¬ ((yielded reg17 a.tmps 18 == some false) = true); rw [hy]; decide)]
    rfl
  | 22, ho =>
    have gj := tm_dep hF 18 87 (by kernel_rfl) (dep_of ho hdep 18 (by kernel_rfl))
    have hy : yielded reg17 a.tmps 18 = none := by unfold yielded; rw [show (reg17[18]?).bind (·.dst) = some 87 from by kernel_rfl]; show (match a.tmps[87]? with | some (.bool b) => some b | _ => none) = _; rw [gj]; rfl
    have hgd : o.guard = some (18, false) := fact ho (by kernel_rfl)
    rw [if_neg (by unfold Region.wanted; rw [hgd]; show ¬ ((yielded reg17 a.tmps 18 == some false) = true); rw [hy]; decide)]
    rfl
  | 23, ho =>
    have gj := tm_dep hF 18 87 (by kernel_rfl) (dep_of ho hdep 18 (by kernel_rfl))
    have hy : yielded reg17 a.tmps 18 = none := by unfold yielded; rw [show (reg17[18]?).bind (·.dst) = some 87 from by kernel_rfl]; show (match a.tmps[87]? with | some (.bool b) => some b | _ => none) = _; rw [gj]; rfl
    have hgd : o.guard = some (18, false) := fact ho (by kernel_rfl)
    rw [if_neg (by unfold Region.wanted; rw [hgd]; show ¬ ((yielded reg17 a.tmps 18 == some false) = true); rw [hy]; decide)]
    rfl
  | 24, ho =>
    have hy := yl_dep hF 13 82 false (by kernel_rfl) (dep_of ho hdep 13 (by kernel_rfl)) rfl
    have hgd : o.guard = some (13, true) := fact ho (by kernel_rfl)
    rw [if_neg (by rw [want_some hgd hy]; decide)]
    rfl
  | 25, ho =>
    have hy := yl_dep hF 10 79 false (by kernel_rfl) (dep_of ho hdep 10 (by kernel_rfl)) rfl
    have hgd : o.guard = some (10, false) := fact ho (by kernel_rfl)
    rw [if_pos (by rw [want_some hgd hy]; rfl)]
    have hop : o.op = .pick (.tmp 82) (.tmp 93) (.const (.bool false)) := fact ho (by kernel_rfl)
    have hds : o.dst = some 94 := fact ho (by kernel_rfl)
    have t82 := tm_dep hF 13 82 (by kernel_rfl) (dep_of ho hdep 13 (by kernel_rfl))
    simp only [Vn] at t82
    have t93 := tm_dep hF 24 93 (by kernel_rfl) (dep_of ho hdep 24 (by kernel_rfl))
    simp only [Vn] at t93
    unfold Oper.wp
    simp [execOp, hop, hds, t82, t93, go_sem, Vn, hS]
  | 26, ho =>
    rw [if_pos (want_none (fact ho (by kernel_rfl)))]
    have hop : o.op = .pick (.tmp 79) (.const (.bool true)) (.tmp 94) := fact ho (by kernel_rfl)
    have hds : o.dst = some 95 := fact ho (by kernel_rfl)
    have t79 := tm_dep hF 10 79 (by kernel_rfl) (dep_of ho hdep 10 (by kernel_rfl))
    simp only [Vn] at t79
    have t94 := tm_dep hF 25 94 (by kernel_rfl) (dep_of ho hdep 25 (by kernel_rfl))
    simp only [Vn] at t94
    unfold Oper.wp
    simp [execOp, hop, hds, t79, t94, go_sem, Vn, hS]
  | n + 27, ho =>
    exfalso
    have h1 : n + 27 < reg17.size := (Array.getElem?_eq_some_iff.1 ho).1
    rw [show reg17.size = 27 from by kernel_rfl] at h1
    omega
set_option maxHeartbeats 1000000 in
theorem step17s (a0 : Act) (G R : Nat) (s : List Nat) (S : World → Prop) (Q : Exit → Act → World → Prop) (C n : Nat) (o5 : Option Addr) (c5 : Nat) (hC : ∀ w, S w → Calls Tryd.prog 11 #[.pointer (some ⟨C, 0, none⟩)] w fun e w' => e = .returned (.agg (bs s)) ∧ S w') (hL : ∀ w, S w → Calls Tryd.prog 12 #[.pointer (some ⟨C, 0, none⟩)] w fun e w' => e = .returned (.int .i64 (n : Int)) ∧ S w') (h5 : a0.tmps[5]? = some (.slice o5 n c5)) (h6 : a0.tmps[6]? = some (.pointer (some ⟨G, 0, none⟩))) (h7 : a0.tmps[7]? = some (.pointer (some ⟨C, 0, none⟩))) (h9 : a0.tmps[9]? = some (.pointer (some ⟨R, 0, none⟩)))
    (hG : ∀ w, S w → Calls Tryd.prog 11 #[.pointer (some ⟨G, 0, none⟩)] w fun e w' => e = .returned (.agg (bs s)) ∧ S w') (hld : ∀ w, S w → (Instr.loadAt 28 (.pointer (some ⟨R, 0, none⟩))).run Tryd.prog w = .ok (.agg (bs s)) w) (heq : ∀ w, S w → (Op.equalIn 10000 28 (.agg (bs s)) (.agg (bs s))).run Tryd.prog w = .ok true w)
    (i : Nat) (o : Oper) (a : Act) (w : World) (listed : Array Bool) (ho : reg17[i]? = some o) (hF : RFr reg17 a0 (Vs G C n (.slice o5 n c5) s) listed a) (hS : S w) (hdep : ∀ e ∈ o.after, Region.binds .any e = true → listed.getD e.on false = true) :
      if Region.wanted o (yielded reg17 a.tmps) = true then Oper.wp Tryd.prog o a w (fun a' w' => a' = a.put o.dst (Vs G C n (.slice o5 n c5) s i) ∧ S w') Q else Vs G C n (.slice o5 n c5) s i = undef := by
  match i, ho with
  | 0, ho =>
    rw [if_pos (want_none (fact ho (by kernel_rfl)))]
    have hop : o.op = .move (.tmp 6) := fact ho (by kernel_rfl)
    have hds : o.dst = some 69 := fact ho (by kernel_rfl)
    have t6 := tm_old hF 6 _ h6 (by kernel_rfl)
    unfold Oper.wp
    simp [execOp, hop, hds, t6, go_sem, Vs, hS]
  | 1, ho =>
    rw [if_pos (want_none (fact ho (by kernel_rfl)))]
    have hop : o.op = .call { callee := .value (.func 11), args := #[.tmp 69], argTypes := #[22] } := fact ho (by kernel_rfl)
    have hds : o.dst = some 70 := fact ho (by kernel_rfl)
    have t69 := tm_dep hF 0 69 (by kernel_rfl) (dep_of ho hdep 0 (by kernel_rfl))
    simp only [Vs] at t69
    unfold Oper.wp
    simp [execOp, hop, hds, t69, go_sem, Vs]
    refine (hG w hS).mono ?_
    rintro e w' ⟨rfl, hS'⟩
    exact ⟨rfl, hS'⟩
  | 2, ho =>
    rw [if_pos (want_none (fact ho (by kernel_rfl)))]
    have hop : o.op = .load 28 (.tmp 9) := fact ho (by kernel_rfl)
    have hds : o.dst = some 71 := fact ho (by kernel_rfl)
    have t9 := tm_old hF 9 _ h9 (by kernel_rfl)
    unfold Oper.wp
    simp [execOp, hop, hds, Act.eval, t9, hld w hS, Oper.upon, Act.put, Vs, hS]
  | 3, ho =>
    rw [if_pos (want_none (fact ho (by kernel_rfl)))]
    have hop : o.op = .binOp .neq 28 (.tmp 70) (.tmp 71) 28 := fact ho (by kernel_rfl)
    have hds : o.dst = some 72 := fact ho (by kernel_rfl)
    have t70 := tm_dep hF 1 70 (by kernel_rfl) (dep_of ho hdep 1 (by kernel_rfl))
    simp only [Vs] at t70
    have t71 := tm_dep hF 2 71 (by kernel_rfl) (dep_of ho hdep 2 (by kernel_rfl))
    simp only [Vs] at t71
    unfold Oper.wp
    simp [execOp, hop, hds, t70, t71, go_sem, heq w hS, Vs, hS]
  | 4, ho =>
    rw [if_pos (want_none (fact ho (by kernel_rfl)))]
    have hop : o.op = .move (.tmp 72) := fact ho (by kernel_rfl)
    have hds : o.dst = some 73 := fact ho (by kernel_rfl)
    have t72 := tm_dep hF 3 72 (by kernel_rfl) (dep_of ho hdep 3 (by kernel_rfl))
    simp only [Vs] at t72
    unfold Oper.wp
    simp [execOp, hop, hds, t72, go_sem, Vs, hS]
  | 5, ho =>
    have hy := yl_dep hF 4 73 false (by kernel_rfl) (dep_of ho hdep 4 (by kernel_rfl)) rfl
    have hgd : o.guard = some (4, false) := fact ho (by kernel_rfl)
    rw [if_pos (by rw [want_some hgd hy]; rfl)]
    have hop : o.op = .move (.tmp 6) := fact ho (by kernel_rfl)
    have hds : o.dst = some 74 := fact ho (by kernel_rfl)
    have t6 := tm_old hF 6 _ h6 (by kernel_rfl)
    unfold Oper.wp
    simp [execOp, hop, hds, t6, go_sem, Vs, hS]
  | 6, ho =>
    have hy := yl_dep hF 4 73 false (by kernel_rfl) (dep_of ho hdep 4 (by kernel_rfl)) rfl
    have hgd : o.guard = some (4, false) := fact ho (by kernel_rfl)
    rw [if_pos (by rw [want_some hgd hy]; rfl)]
    have hop : o.op = .call { callee := .value (.func 11), args := #[.tmp 74], argTypes := #[22] } := fact ho (by kernel_rfl)
    have hds : o.dst = some 75 := fact ho (by kernel_rfl)
    have t74 := tm_dep hF 5 74 (by kernel_rfl) (dep_of ho hdep 5 (by kernel_rfl))
    simp only [Vs] at t74
    unfold Oper.wp
    simp [execOp, hop, hds, t74, go_sem, Vs]
    refine (hG w hS).mono ?_
    rintro e w' ⟨rfl, hS'⟩
    exact ⟨rfl, hS'⟩
  | 7, ho =>
    have hy := yl_dep hF 4 73 false (by kernel_rfl) (dep_of ho hdep 4 (by kernel_rfl)) rfl
    have hgd : o.guard = some (4, false) := fact ho (by kernel_rfl)
    rw [if_pos (by rw [want_some hgd hy]; rfl)]
    have hop : o.op = .load 28 (.tmp 9) := fact ho (by kernel_rfl)
    have hds : o.dst = some 76 := fact ho (by kernel_rfl)
    have t9 := tm_old hF 9 _ h9 (by kernel_rfl)
    unfold Oper.wp
    simp [execOp, hop, hds, Act.eval, t9, hld w hS, Oper.upon, Act.put, Vs, hS]
  | 8, ho =>
    have hy := yl_dep hF 4 73 false (by kernel_rfl) (dep_of ho hdep 4 (by kernel_rfl)) rfl
    have hgd : o.guard = some (4, false) := fact ho (by kernel_rfl)
    rw [if_pos (by rw [want_some hgd hy]; rfl)]
    have hop : o.op = .binOp .neq 28 (.tmp 75) (.tmp 76) 28 := fact ho (by kernel_rfl)
    have hds : o.dst = some 77 := fact ho (by kernel_rfl)
    have t75 := tm_dep hF 6 75 (by kernel_rfl) (dep_of ho hdep 6 (by kernel_rfl))
    simp only [Vs] at t75
    have t76 := tm_dep hF 7 76 (by kernel_rfl) (dep_of ho hdep 7 (by kernel_rfl))
    simp only [Vs] at t76
    unfold Oper.wp
    simp [execOp, hop, hds, t75, t76, go_sem, heq w hS, Vs, hS]
  | 9, ho =>
    rw [if_pos (want_none (fact ho (by kernel_rfl)))]
    have hop : o.op = .pick (.tmp 73) (.const (.bool true)) (.tmp 77) := fact ho (by kernel_rfl)
    have hds : o.dst = some 78 := fact ho (by kernel_rfl)
    have t73 := tm_dep hF 4 73 (by kernel_rfl) (dep_of ho hdep 4 (by kernel_rfl))
    simp only [Vs] at t73
    have t77 := tm_dep hF 8 77 (by kernel_rfl) (dep_of ho hdep 8 (by kernel_rfl))
    simp only [Vs] at t77
    unfold Oper.wp
    simp [execOp, hop, hds, t73, t77, go_sem, Vs, hS]
  | 10, ho =>
    rw [if_pos (want_none (fact ho (by kernel_rfl)))]
    have hop : o.op = .move (.tmp 78) := fact ho (by kernel_rfl)
    have hds : o.dst = some 79 := fact ho (by kernel_rfl)
    have t78 := tm_dep hF 9 78 (by kernel_rfl) (dep_of ho hdep 9 (by kernel_rfl))
    simp only [Vs] at t78
    unfold Oper.wp
    simp [execOp, hop, hds, t78, go_sem, Vs, hS]
  | 11, ho =>
    have hy := yl_dep hF 10 79 false (by kernel_rfl) (dep_of ho hdep 10 (by kernel_rfl)) rfl
    have hgd : o.guard = some (10, false) := fact ho (by kernel_rfl)
    rw [if_pos (by rw [want_some hgd hy]; rfl)]
    have hop : o.op = .move (.tmp 7) := fact ho (by kernel_rfl)
    have hds : o.dst = some 80 := fact ho (by kernel_rfl)
    have t7 := tm_old hF 7 _ h7 (by kernel_rfl)
    unfold Oper.wp
    simp [execOp, hop, hds, t7, go_sem, Vs, hS]
  | 12, ho =>
    have hy := yl_dep hF 10 79 false (by kernel_rfl) (dep_of ho hdep 10 (by kernel_rfl)) rfl
    have hgd : o.guard = some (10, false) := fact ho (by kernel_rfl)
    rw [if_pos (by rw [want_some hgd hy]; rfl)]
    have hop : o.op = .binOp .neq 22 (.tmp 80) (.const (.pointer none)) 22 := fact ho (by kernel_rfl)
    have hds : o.dst = some 81 := fact ho (by kernel_rfl)
    have t80 := tm_dep hF 11 80 (by kernel_rfl) (dep_of ho hdep 11 (by kernel_rfl))
    simp only [Vs] at t80
    unfold Oper.wp
    simp [execOp, hop, hds, t80, go_sem, Vs, hS]
  | 13, ho =>
    have hy := yl_dep hF 10 79 false (by kernel_rfl) (dep_of ho hdep 10 (by kernel_rfl)) rfl
    have hgd : o.guard = some (10, false) := fact ho (by kernel_rfl)
    rw [if_pos (by rw [want_some hgd hy]; rfl)]
    have hop : o.op = .move (.tmp 81) := fact ho (by kernel_rfl)
    have hds : o.dst = some 82 := fact ho (by kernel_rfl)
    have t81 := tm_dep hF 12 81 (by kernel_rfl) (dep_of ho hdep 12 (by kernel_rfl))
    simp only [Vs] at t81
    unfold Oper.wp
    simp [execOp, hop, hds, t81, go_sem, Vs, hS]
  | 14, ho =>
    have hy := yl_dep hF 13 82 true (by kernel_rfl) (dep_of ho hdep 13 (by kernel_rfl)) rfl
    have hgd : o.guard = some (13, true) := fact ho (by kernel_rfl)
    rw [if_pos (by rw [want_some hgd hy]; rfl)]
    have hop : o.op = .move (.tmp 7) := fact ho (by kernel_rfl)
    have hds : o.dst = some 83 := fact ho (by kernel_rfl)
    have t7 := tm_old hF 7 _ h7 (by kernel_rfl)
    unfold Oper.wp
    simp [execOp, hop, hds, t7, go_sem, Vs, hS]
  | 15, ho =>
    have hy := yl_dep hF 13 82 true (by kernel_rfl) (dep_of ho hdep 13 (by kernel_rfl)) rfl
    have hgd : o.guard = some (13, true) := fact ho (by kernel_rfl)
    rw [if_pos (by rw [want_some hgd hy]; rfl)]
    have hop : o.op = .call { callee := .value (.func 11), args := #[.tmp 83], argTypes := #[22] } := fact ho (by kernel_rfl)
    have hds : o.dst = some 84 := fact ho (by kernel_rfl)
    have t83 := tm_dep hF 14 83 (by kernel_rfl) (dep_of ho hdep 14 (by kernel_rfl))
    simp only [Vs] at t83
    unfold Oper.wp
    simp [execOp, hop, hds, t83, go_sem, Vs]
    refine (hC w hS).mono ?_
    rintro e w' ⟨rfl, hS'⟩
    exact ⟨rfl, hS'⟩
  | 16, ho =>
    have hy := yl_dep hF 13 82 true (by kernel_rfl) (dep_of ho hdep 13 (by kernel_rfl)) rfl
    have hgd : o.guard = some (13, true) := fact ho (by kernel_rfl)
    rw [if_pos (by rw [want_some hgd hy]; rfl)]
    have hop : o.op = .load 28 (.tmp 9) := fact ho (by kernel_rfl)
    have hds : o.dst = some 85 := fact ho (by kernel_rfl)
    have t9 := tm_old hF 9 _ h9 (by kernel_rfl)
    unfold Oper.wp
    simp [execOp, hop, hds, Act.eval, t9, hld w hS, Oper.upon, Act.put, Vs, hS]
  | 17, ho =>
    have hy := yl_dep hF 13 82 true (by kernel_rfl) (dep_of ho hdep 13 (by kernel_rfl)) rfl
    have hgd : o.guard = some (13, true) := fact ho (by kernel_rfl)
    rw [if_pos (by rw [want_some hgd hy]; rfl)]
    have hop : o.op = .binOp .neq 28 (.tmp 84) (.tmp 85) 28 := fact ho (by kernel_rfl)
    have hds : o.dst = some 86 := fact ho (by kernel_rfl)
    have t84 := tm_dep hF 15 84 (by kernel_rfl) (dep_of ho hdep 15 (by kernel_rfl))
    simp only [Vs] at t84
    have t85 := tm_dep hF 16 85 (by kernel_rfl) (dep_of ho hdep 16 (by kernel_rfl))
    simp only [Vs] at t85
    unfold Oper.wp
    simp [execOp, hop, hds, t84, t85, go_sem, heq w hS, Vs, hS]
  | 18, ho =>
    have hy := yl_dep hF 13 82 true (by kernel_rfl) (dep_of ho hdep 13 (by kernel_rfl)) rfl
    have hgd : o.guard = some (13, true) := fact ho (by kernel_rfl)
    rw [if_pos (by rw [want_some hgd hy]; rfl)]
    have hop : o.op = .move (.tmp 86) := fact ho (by kernel_rfl)
    have hds : o.dst = some 87 := fact ho (by kernel_rfl)
    have t86 := tm_dep hF 17 86 (by kernel_rfl) (dep_of ho hdep 17 (by kernel_rfl))
    simp only [Vs] at t86
    unfold Oper.wp
    simp [execOp, hop, hds, t86, go_sem, Vs, hS]
  | 19, ho =>
    have hy := yl_dep hF 18 87 false (by kernel_rfl) (dep_of ho hdep 18 (by kernel_rfl)) rfl
    have hgd : o.guard = some (18, false) := fact ho (by kernel_rfl)
    rw [if_pos (by rw [want_some hgd hy]; rfl)]
    have hop : o.op = .move (.tmp 7) := fact ho (by kernel_rfl)
    have hds : o.dst = some 88 := fact ho (by kernel_rfl)
    have t7 := tm_old hF 7 _ h7 (by kernel_rfl)
    unfold Oper.wp
    simp [execOp, hop, hds, t7, go_sem, Vs, hS]
  | 20, ho =>
    have hy := yl_dep hF 18 87 false (by kernel_rfl) (dep_of ho hdep 18 (by kernel_rfl)) rfl
    have hgd : o.guard = some (18, false) := fact ho (by kernel_rfl)
    rw [if_pos (by rw [want_some hgd hy]; rfl)]
    have hop : o.op = .call { callee := .value (.func 12), args := #[.tmp 88], argTypes := #[22] } := fact ho (by kernel_rfl)
    have hds : o.dst = some 89 := fact ho (by kernel_rfl)
    have t88 := tm_dep hF 19 88 (by kernel_rfl) (dep_of ho hdep 19 (by kernel_rfl))
    simp only [Vs] at t88
    unfold Oper.wp
    simp [execOp, hop, hds, t88, go_sem, Vs]
    refine (hL w hS).mono ?_
    rintro e w' ⟨rfl, hS'⟩
    exact ⟨rfl, hS'⟩
  | 21, ho =>
    have hy := yl_dep hF 18 87 false (by kernel_rfl) (dep_of ho hdep 18 (by kernel_rfl)) rfl
    have hgd : o.guard = some (18, false) := fact ho (by kernel_rfl)
    rw [if_pos (by rw [want_some hgd hy]; rfl)]
    have hop : o.op = .move (.tmp 5) := fact ho (by kernel_rfl)
    have hds : o.dst = some 90 := fact ho (by kernel_rfl)
    have t5 := tm_old hF 5 _ h5 (by kernel_rfl)
    unfold Oper.wp
    simp [execOp, hop, hds, t5, go_sem, Vs, hS]
  | 22, ho =>
    have hy := yl_dep hF 18 87 false (by kernel_rfl) (dep_of ho hdep 18 (by kernel_rfl)) rfl
    have hgd : o.guard = some (18, false) := fact ho (by kernel_rfl)
    rw [if_pos (by rw [want_some hgd hy]; rfl)]
    have hop : o.op = .call { callee := .builtin .len, args := #[.tmp 90], argTypes := #[26] } := fact ho (by kernel_rfl)
    have hds : o.dst = some 91 := fact ho (by kernel_rfl)
    have t90 := tm_dep hF 21 90 (by kernel_rfl) (dep_of ho hdep 21 (by kernel_rfl))
    simp only [Vs] at t90
    unfold Oper.wp
    simp [execOp, hop, hds, t90, go_sem, Vs, hS]
  | 23, ho =>
    have hy := yl_dep hF 18 87 false (by kernel_rfl) (dep_of ho hdep 18 (by kernel_rfl)) rfl
    have hgd : o.guard = some (18, false) := fact ho (by kernel_rfl)
    rw [if_pos (by rw [want_some hgd hy]; rfl)]
    have hop : o.op = .binOp .neq 3 (.tmp 89) (.tmp 91) 3 := fact ho (by kernel_rfl)
    have hds : o.dst = some 92 := fact ho (by kernel_rfl)
    have t89 := tm_dep hF 20 89 (by kernel_rfl) (dep_of ho hdep 20 (by kernel_rfl))
    simp only [Vs] at t89
    have t91 := tm_dep hF 22 91 (by kernel_rfl) (dep_of ho hdep 22 (by kernel_rfl))
    simp only [Vs] at t91
    unfold Oper.wp
    simp [execOp, hop, hds, t89, t91, go_sem, Vs, hS]
  | 24, ho =>
    have hy := yl_dep hF 13 82 true (by kernel_rfl) (dep_of ho hdep 13 (by kernel_rfl)) rfl
    have hgd : o.guard = some (13, true) := fact ho (by kernel_rfl)
    rw [if_pos (by rw [want_some hgd hy]; rfl)]
    have hop : o.op = .pick (.tmp 87) (.const (.bool true)) (.tmp 92) := fact ho (by kernel_rfl)
    have hds : o.dst = some 93 := fact ho (by kernel_rfl)
    have t87 := tm_dep hF 18 87 (by kernel_rfl) (dep_of ho hdep 18 (by kernel_rfl))
    simp only [Vs] at t87
    have t92 := tm_dep hF 23 92 (by kernel_rfl) (dep_of ho hdep 23 (by kernel_rfl))
    simp only [Vs] at t92
    unfold Oper.wp
    simp [execOp, hop, hds, t87, t92, go_sem, Vs, hS]
  | 25, ho =>
    have hy := yl_dep hF 10 79 false (by kernel_rfl) (dep_of ho hdep 10 (by kernel_rfl)) rfl
    have hgd : o.guard = some (10, false) := fact ho (by kernel_rfl)
    rw [if_pos (by rw [want_some hgd hy]; rfl)]
    have hop : o.op = .pick (.tmp 82) (.tmp 93) (.const (.bool false)) := fact ho (by kernel_rfl)
    have hds : o.dst = some 94 := fact ho (by kernel_rfl)
    have t82 := tm_dep hF 13 82 (by kernel_rfl) (dep_of ho hdep 13 (by kernel_rfl))
    simp only [Vs] at t82
    have t93 := tm_dep hF 24 93 (by kernel_rfl) (dep_of ho hdep 24 (by kernel_rfl))
    simp only [Vs] at t93
    unfold Oper.wp
    simp [execOp, hop, hds, t82, t93, go_sem, Vs, hS]
  | 26, ho =>
    rw [if_pos (want_none (fact ho (by kernel_rfl)))]
    have hop : o.op = .pick (.tmp 79) (.const (.bool true)) (.tmp 94) := fact ho (by kernel_rfl)
    have hds : o.dst = some 95 := fact ho (by kernel_rfl)
    have t79 := tm_dep hF 10 79 (by kernel_rfl) (dep_of ho hdep 10 (by kernel_rfl))
    simp only [Vs] at t79
    have t94 := tm_dep hF 25 94 (by kernel_rfl) (dep_of ho hdep 25 (by kernel_rfl))
    simp only [Vs] at t94
    unfold Oper.wp
    simp [execOp, hop, hds, t79, t94, go_sem, Vs, hS]
  | n + 27, ho =>
    exfalso
    have h1 : n + 27 < reg17.size := (Array.getElem?_eq_some_iff.1 ho).1
    rw [show reg17.size = 27 from by kernel_rfl] at h1
    omega
end Go.Proofs.YtkppejaigodgiaaDoor
