/- The operations of record's region 9 where the body's sum is wrong, each by its value. Made by a program. -/
import Derived.Test.YtfimaflglnemdaaDoorJvVals
namespace Go.Proofs.YtfimaflglnemdaaDoor
open Go.RowKit
def findR (n : Nat) : Code → Option (Array Oper)
  | .region m ops _ => if m = n then some ops else none
  | .seq a b => match findR n a with
    | some c => some c
    | none => findR n b
  | .scope c => findR n c
  | .block _ c => findR n c
  | .loop c => findR n c
  | .cond _ a b => match findR n a with
    | some c => some c
    | none => findR n b
  | _ => none
/-- The closed facts of a region, by running. -/
def okR (ops : Array Oper) (N : Nat) : Bool :=
  (List.range ops.size).all fun i => ((ops[i]?).map fun o => (o.after.all fun e => !Region.binds .any e || decide (e.on < i)) && (match o.dst with | some d => decide (d < N) | none => true) &&
    (List.range ops.size).all fun j => decide (j = i) || ((ops[j]?).map fun p => decide (o.dst = none) || decide (p.dst ≠ o.dst)).getD true).getD true
theorem okR_at {ops : Array Oper} {N : Nat} (h : okR ops N = true) {i : Nat} {o : Oper} (ho : ops[i]? = some o) :
    (∀ e ∈ o.after, Region.binds .any e = true → e.on < i) ∧ (∀ d, o.dst = some d → d < N) ∧ ∀ (j : Nat) oj d, ops[j]? = some oj → oj.dst = some d → o.dst = some d → j = i := by
  have hi : i < ops.size := (Array.getElem?_eq_some_iff.1 ho).1
  have h1 := List.all_eq_true.1 h i (List.mem_range.2 hi)
  rw [ho] at h1
  simp only [Option.map_some, Option.getD_some, Bool.and_eq_true] at h1
  obtain ⟨⟨h1, h2⟩, h3⟩ := h1
  refine ⟨fun e he hb => ?_, fun d hd => ?_, fun j oj d hj hdj hd => ?_⟩
  · have := Array.all_eq_true_iff_forall_mem.1 h1 e he
    rw [hb] at this
    simpa using this
  · rw [hd] at h2
    simpa using h2
  · have hjs : j < ops.size := (Array.getElem?_eq_some_iff.1 hj).1
    have h4 := List.all_eq_true.1 h3 j (List.mem_range.2 hjs)
    rw [hj] at h4
    simp only [Option.map_some, Option.getD_some, Bool.or_eq_true, decide_eq_true_eq] at h4
    rcases h4 with h4 | h4 | h4
    · exact h4
    · rw [hd] at h4; cases h4
    · rw [hd, hdj] at h4; exact absurd rfl h4
theorem ev_old {ops : Array Oper} {a0 a : Act} {V : Nat → Value} {listed : Array Bool} (hF : RFr ops a0 V listed a) (s : Nat) (v : Value) (hs : a0.tmps[s]? = some v) (hno : (ops.all fun o => decide (o.dst ≠ some s)) = true) : a.eval (.tmp s) = v := by
  have h := hF.old s (fun j o hj hd => by
    have := Array.all_eq_true_iff_forall_mem.1 hno o (Array.mem_of_getElem? hj)
    simp [hd] at this)
  rw [hs] at h
  show a.tmps.getD s undef = v
  rw [Array.getD_eq_getD_getElem?, h]
  rfl
theorem tm_dep {ops : Array Oper} {a0 a : Act} {V : Nat → Value} {listed : Array Bool} (hF : RFr ops a0 V listed a) (j d : Nat) (hd : (ops[j]?).bind (·.dst) = some d) (hl : listed.getD j false = true) : a.tmps[d]? = some (V j) := by
  obtain ⟨o, ho, hod⟩ : ∃ o, ops[j]? = some o ∧ o.dst = some d := by
    cases h : ops[j]? with
    | none => rw [h] at hd; cases hd
    | some o => rw [h] at hd; exact ⟨o, rfl, hd⟩
  refine hF.val j o d ho hod ?_
  have hj : j < listed.size := by
    rcases Nat.lt_or_ge j listed.size with h | h
    · exact h
    · unfold Array.getD at hl; rw [dif_neg (by omega)] at hl; cases hl
  rw [agetD _ _ _ hj] at hl ⊢
  exact hl
theorem tm_old {ops : Array Oper} {a0 a : Act} {V : Nat → Value} {listed : Array Bool} (hF : RFr ops a0 V listed a) (s : Nat) (v : Value) (hs : a0.tmps[s]? = some v) (hno : (ops.all fun o => decide (o.dst ≠ some s)) = true) : a.tmps[s]? = some v := by
  have h := hF.old s (fun j o hj hd => by
    have := Array.all_eq_true_iff_forall_mem.1 hno o (Array.mem_of_getElem? hj)
    simp [hd] at this)
  rw [h, hs]
theorem ev_dep {ops : Array Oper} {a0 a : Act} {V : Nat → Value} {listed : Array Bool} (hF : RFr ops a0 V listed a) (j d : Nat) (hd : (ops[j]?).bind (·.dst) = some d) (hl : listed.getD j false = true) : a.eval (.tmp d) = V j := by
  show a.tmps.getD d undef = V j
  rw [Array.getD_eq_getD_getElem?, tm_dep hF j d hd hl]
  rfl
theorem yl_dep {ops : Array Oper} {a0 a : Act} {V : Nat → Value} {listed : Array Bool} (hF : RFr ops a0 V listed a) (j d : Nat) (b : Bool) (hd : (ops[j]?).bind (·.dst) = some d) (hl : listed.getD j false = true) (hv : V j = .bool b) : yielded ops a.tmps j = some b := by
  unfold yielded
  rw [hd]
  show (match a.tmps[d]? with | some (.bool b) => some b | _ => none) = _
  rw [tm_dep hF j d hd hl, hv]
theorem fact {ops : Array Oper} {i : Nat} {o : Oper} {α : Type} {f : Oper → α} {x : α} (ho : ops[i]? = some o) (h : (ops[i]?).map f = some x) : f o = x := by rw [ho] at h; exact Option.some.inj h
theorem dep_of {ops : Array Oper} {i : Nat} {o : Oper} {listed : Array Bool} (ho : ops[i]? = some o) (hdep : ∀ e ∈ o.after, Region.binds .any e = true → listed.getD e.on false = true) (j : Nat) (h : ((ops[i]?).map fun o => o.after.any fun e => Region.binds .any e && e.on == j) = some true) : listed.getD j false = true := by
  have h1 : (o.after.any fun e => Region.binds .any e && e.on == j) = true := fact ho h
  rw [← Array.any_toList] at h1
  obtain ⟨e, he, hb⟩ := List.any_eq_true.1 h1
  simp only [Bool.and_eq_true, beq_iff_eq] at hb
  rw [← hb.2]
  exact hdep e (Array.mem_toList_iff.1 he) hb.1
theorem want_none {o : Oper} {f : Nat → Option Bool} (h : o.guard = none) : Region.wanted o f = true := by unfold Region.wanted; rw [h]
theorem want_some {o : Oper} {f : Nat → Option Bool} {j : Nat} {b c : Bool} (h : o.guard = some (j, b)) (hy : f j = some c) : Region.wanted o f = (c == b) := by
  unfold Region.wanted; rw [h]; show (f j == some b) = _; rw [hy]; cases b <;> cases c <;> rfl
noncomputable def reg9 : Array Oper := ((Tryd.f77.body.bind (findR 9)).getD #[])
theorem okR9 : okR reg9 101 = true := by kernel_rfl
def V9 (g bx n cB R cR mQ cQ : Nat) (oB oR oQ : Option Addr) : Nat → Value
  | 0 => .pointer (some ⟨g, 0, none⟩)
  | 1 => .pointer (some ⟨bx, 3, none⟩)
  | 2 => .slice oB n cB
  | 3 => .slice oR R cR
  | 4 => .pointer (some ⟨bx, 2, none⟩)
  | 5 => .int .i64 (n : Int)
  | 6 => .int .i64 (18 + (n : Int))
  | 7 => .slice oQ mQ cQ
  | 8 => .bool false
  | 9 => .bool true
  | _ => undef
set_option maxRecDepth 100000 in
set_option maxHeartbeats 1000000 in
theorem step9 (a0 : Act) {c : List PanicEntry} (g bx n cB R cR mQ cQ : Nat) (oB oR oQ : Option Addr) (S : Array Bool → World → Prop) (Q : Exit → Act → World → Prop) (h0 : a0.tmps[0]? = some (.pointer (some ⟨g, 0, none⟩))) (h5 : a0.tmps[5]? = some (.slice oR R cR)) (h6 : a0.tmps[6]? = some (.pointer (some ⟨bx, 0, none⟩)))
    (hmv : ∀ i : Nat, decide (i < 10) = true → ∀ listed W, S listed W → S (listed.setIfInBounds i true) W) (hc8 : ∀ listed W, S listed W → listed.size = reg9.size → listed.getD 8 true = false → (∀ j, ((reg9[8]?).map fun o => o.after.any fun e => Region.binds .any e && e.on == j) = some true → listed.getD j false = true) → Calls Tryd.prog 82 #[.slice oB n cB, .slice oQ mQ cQ] W fun e w' => e = .returned (.bool false) ∧ S (listed.setIfInBounds 8 true) w') (hc10 : ∀ listed W, S listed W → Calls Tryd.prog 79 #[.pointer (some ⟨g, 0, none⟩), .bool true] W fun e w' => e = .panicked c ∧ ∀ a, a.defers = a0.defers → Q (.panic c) a w') (hl2 : ∀ listed W, S listed W → listed.size = reg9.size → listed.getD 2 true = false → (∀ j, ((reg9[2]?).map fun o => o.after.any fun e => Region.binds .any e && e.on == j) = some true → listed.getD j false = true) → ∃ W2, (Instr.loadAt 23 (.pointer (some ⟨bx, 3, none⟩))).run Tryd.prog W = .ok (.slice oB n cB) W2 ∧ S (listed.setIfInBounds 2 true) W2) (hl5 : ∀ listed W, S listed W → listed.size = reg9.size → listed.getD 5 true = false → (∀ j, ((reg9[5]?).map fun o => o.after.any fun e => Region.binds .any e && e.on == j) = some true → listed.getD j false = true) → ∃ W2, (Instr.loadAt 3 (.pointer (some ⟨bx, 2, none⟩))).run Tryd.prog W = .ok (.int .i64 (n : Int)) W2 ∧ S (listed.setIfInBounds 5 true) W2) (hs7 : ∀ listed W, S listed W → listed.size = reg9.size → listed.getD 7 true = false → (∀ j, ((reg9[7]?).map fun o => o.after.any fun e => Region.binds .any e && e.on == j) = some true → listed.getD j false = true) → ∃ W2, (Instr.sliceAt 23 (.slice oR R cR) (some (.int .i64 (18 + (n : Int)))) none none).run Tryd.prog W = .ok (.slice oQ mQ cQ) W2 ∧ S (listed.setIfInBounds 7 true) W2) (e1 : IntKind.i64.wrap (18 + (n : Int)) = 18 + (n : Int))
    (i : Nat) (o : Oper) (a : Act) (w : World) (listed : Array Bool) (ho : reg9[i]? = some o) (hF : RFr reg9 a0 (V9 g bx n cB R cR mQ cQ oB oR oQ) listed a) (hS : S listed w) (hls : listed.size = reg9.size) (hun : listed.getD i true = false) (hdep : ∀ e ∈ o.after, Region.binds .any e = true → listed.getD e.on false = true) :
      if Region.wanted o (yielded reg9 a.tmps) = true then Oper.wp Tryd.prog o a w (fun a' w' => a' = a.put o.dst (V9 g bx n cB R cR mQ cQ oB oR oQ i) ∧ S (listed.setIfInBounds i true) w') Q else V9 g bx n cB R cR mQ cQ oB oR oQ i = undef ∧ S (listed.setIfInBounds i true) w := by
  match i, ho with
  | 0, ho =>
    rw [if_pos (want_none (fact ho (by kernel_rfl)))]
    have hop : o.op = .move (.tmp 0) := fact ho (by kernel_rfl)
    have hds : o.dst = some 79 := fact ho (by kernel_rfl)
    have t0 := tm_old hF 0 _ h0 (by kernel_rfl)
    have hS2 := hmv 0 (by decide) listed w hS
    unfold Oper.wp
    simp [execOp, hop, hds, t0, go_sem, V9, hS2]
  | 1, ho =>
    rw [if_pos (want_none (fact ho (by kernel_rfl)))]
    have hop : o.op = .fieldAddr 142 (.tmp 6) 3 := fact ho (by kernel_rfl)
    have hds : o.dst = some 80 := fact ho (by kernel_rfl)
    have t6 := tm_old hF 6 _ h6 (by kernel_rfl)
    have hS2 := hmv 1 (by decide) listed w hS
    unfold Oper.wp
    simp [execOp, hop, hds, t6, go_sem, V9, hS2]
  | 2, ho =>
    rw [if_pos (want_none (fact ho (by kernel_rfl)))]
    have hop : o.op = .load 23 (.tmp 80) := fact ho (by kernel_rfl)
    have hds : o.dst = some 81 := fact ho (by kernel_rfl)
    have t80 := tm_dep hF 1 80 (by kernel_rfl) (dep_of ho hdep 1 (by kernel_rfl))
    simp only [V9] at t80
    obtain ⟨W2, hr, hS2⟩ := hl2 listed w hS hls hun (fun j hj => dep_of ho hdep j hj)
    unfold Oper.wp
    simp [execOp, hop, hds, Act.eval, t80, hr, Oper.upon, Act.put, V9, hS2]
  | 3, ho =>
    rw [if_pos (want_none (fact ho (by kernel_rfl)))]
    have hop : o.op = .move (.tmp 5) := fact ho (by kernel_rfl)
    have hds : o.dst = some 82 := fact ho (by kernel_rfl)
    have t5 := tm_old hF 5 _ h5 (by kernel_rfl)
    have hS2 := hmv 3 (by decide) listed w hS
    unfold Oper.wp
    simp [execOp, hop, hds, t5, go_sem, V9, hS2]
  | 4, ho =>
    rw [if_pos (want_none (fact ho (by kernel_rfl)))]
    have hop : o.op = .fieldAddr 142 (.tmp 6) 2 := fact ho (by kernel_rfl)
    have hds : o.dst = some 83 := fact ho (by kernel_rfl)
    have t6 := tm_old hF 6 _ h6 (by kernel_rfl)
    have hS2 := hmv 4 (by decide) listed w hS
    unfold Oper.wp
    simp [execOp, hop, hds, t6, go_sem, V9, hS2]
  | 5, ho =>
    rw [if_pos (want_none (fact ho (by kernel_rfl)))]
    have hop : o.op = .load 3 (.tmp 83) := fact ho (by kernel_rfl)
    have hds : o.dst = some 84 := fact ho (by kernel_rfl)
    have t83 := tm_dep hF 4 83 (by kernel_rfl) (dep_of ho hdep 4 (by kernel_rfl))
    simp only [V9] at t83
    obtain ⟨W2, hr, hS2⟩ := hl5 listed w hS hls hun (fun j hj => dep_of ho hdep j hj)
    unfold Oper.wp
    simp [execOp, hop, hds, Act.eval, t83, hr, Oper.upon, Act.put, V9, hS2]
  | 6, ho =>
    rw [if_pos (want_none (fact ho (by kernel_rfl)))]
    have hop : o.op = .binOp .add 3 (.const (.int .i64 18)) (.tmp 84) 3 := fact ho (by kernel_rfl)
    have hds : o.dst = some 85 := fact ho (by kernel_rfl)
    have t84 := tm_dep hF 5 84 (by kernel_rfl) (dep_of ho hdep 5 (by kernel_rfl))
    simp only [V9] at t84
    have hS2 := hmv 6 (by decide) listed w hS
    unfold Oper.wp
    simp [execOp, hop, hds, t84, e1, go_sem, V9, hS2]
  | 7, ho =>
    rw [if_pos (want_none (fact ho (by kernel_rfl)))]
    have hop : o.op = .slice 23 (.tmp 82) (some (.tmp 85)) none none := fact ho (by kernel_rfl)
    have hds : o.dst = some 86 := fact ho (by kernel_rfl)
    have t82 := tm_dep hF 3 82 (by kernel_rfl) (dep_of ho hdep 3 (by kernel_rfl))
    simp only [V9] at t82
    have t85 := tm_dep hF 6 85 (by kernel_rfl) (dep_of ho hdep 6 (by kernel_rfl))
    simp only [V9] at t85
    obtain ⟨W2, hr, hS2⟩ := hs7 listed w hS hls hun (fun j hj => dep_of ho hdep j hj)
    unfold Oper.wp
    simp [execOp, hop, hds, Act.eval, t82, t85, hr, Oper.upon, Act.put, V9, hS2]
  | 8, ho =>
    rw [if_pos (want_none (fact ho (by kernel_rfl)))]
    have hop : o.op = .call { callee := .value (.func 82), args := #[.tmp 81, .tmp 86], argTypes := #[23, 23] } := fact ho (by kernel_rfl)
    have hds : o.dst = some 87 := fact ho (by kernel_rfl)
    have t81 := tm_dep hF 2 81 (by kernel_rfl) (dep_of ho hdep 2 (by kernel_rfl))
    simp only [V9] at t81
    have t86 := tm_dep hF 7 86 (by kernel_rfl) (dep_of ho hdep 7 (by kernel_rfl))
    simp only [V9] at t86
    unfold Oper.wp
    simp [execOp, hop, hds, t81, t86, go_sem, V9]
    refine (hc8 listed w hS hls hun (fun j hj => dep_of ho hdep j hj)).mono ?_
    rintro e w' ⟨rfl, hS'⟩
    exact ⟨rfl, hS'⟩
  | 9, ho =>
    rw [if_pos (want_none (fact ho (by kernel_rfl)))]
    have hop : o.op = .unOp .not 4 (.tmp 87) := fact ho (by kernel_rfl)
    have hds : o.dst = some 88 := fact ho (by kernel_rfl)
    have t87 := tm_dep hF 8 87 (by kernel_rfl) (dep_of ho hdep 8 (by kernel_rfl))
    simp only [V9] at t87
    have hS2 := hmv 9 (by decide) listed w hS
    unfold Oper.wp
    simp [execOp, hop, hds, t87, go_sem, V9, hS2]
  | 10, ho =>
    rw [if_pos (want_none (fact ho (by kernel_rfl)))]
    have hop : o.op = .call { callee := .value (.func 79), args := #[.tmp 79, .tmp 88], argTypes := #[128, 4] } := fact ho (by kernel_rfl)
    have hds : o.dst = some 89 := fact ho (by kernel_rfl)
    have t79 := tm_dep hF 0 79 (by kernel_rfl) (dep_of ho hdep 0 (by kernel_rfl))
    simp only [V9] at t79
    have t88 := tm_dep hF 9 88 (by kernel_rfl) (dep_of ho hdep 9 (by kernel_rfl))
    simp only [V9] at t88
    unfold Oper.wp
    simp [execOp, hop, hds, t79, t88, go_sem, V9]
    refine (hc10 listed w hS).mono ?_
    rintro e w' ⟨rfl, hq⟩
    exact hq _ hF.df
  | n + 11, ho =>
    exfalso
    have h1 : n + 11 < reg9.size := (Array.getElem?_eq_some_iff.1 ho).1
    rw [show reg9.size = 11 from by kernel_rfl] at h1
    omega
end Go.Proofs.YtfimaflglnemdaaDoor
