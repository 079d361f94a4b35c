/- still: the operations of its drawn regions, each by its value. Made by a program. -/
import Derived.Test.YtnljnknnjahjkaaNiVals
import Derived.Test.YtnljnknnjahjkaaNiD
namespace Go.Proofs.Ytnljnknnjahjkaa
open Go.RowKit
def findR (n : Nat) : Code → Option (Array Oper)
  | .region m ops _ => if m = n then some ops else none
  | .seq a b => match findR n a with
    | some c => some c
    | none => findR n b
  | .scope c => findR n c
  | .block _ c => findR n c
  | .loop c => findR n c
  | .cond _ a b => match findR n a with
    | some c => some c
    | none => findR n b
  | _ => none
/-- The closed facts of a region, by running. -/
def okR (ops : Array Oper) (N : Nat) : Bool :=
  (List.range ops.size).all fun i => ((ops[i]?).map fun o => (o.after.all fun e => !Region.binds .any e || decide (e.on < i)) && (match o.dst with | some d => decide (d < N) | none => true) &&
    (List.range ops.size).all fun j => decide (j = i) || ((ops[j]?).map fun p => decide (o.dst = none) || decide (p.dst ≠ o.dst)).getD true).getD true
theorem okR_at {ops : Array Oper} {N : Nat} (h : okR ops N = true) {i : Nat} {o : Oper} (ho : ops[i]? = some o) :
    (∀ e ∈ o.after, Region.binds .any e = true → e.on < i) ∧ (∀ d, o.dst = some d → d < N) ∧ ∀ (j : Nat) oj d, ops[j]? = some oj → oj.dst = some d → o.dst = some d → j = i := by
  have hi : i < ops.size := (Array.getElem?_eq_some_iff.1 ho).1
  have h1 := List.all_eq_true.1 h i (List.mem_range.2 hi)
  rw [ho] at h1
  simp only [Option.map_some, Option.getD_some, Bool.and_eq_true] at h1
  obtain ⟨⟨h1, h2⟩, h3⟩ := h1
  refine ⟨fun e he hb => ?_, fun d hd => ?_, fun j oj d hj hdj hd => ?_⟩
  · have := Array.all_eq_true_iff_forall_mem.1 h1 e he
    rw [hb] at this
    simpa using this
  · rw [hd] at h2
    simpa using h2
  · have hjs : j < ops.size := (Array.getElem?_eq_some_iff.1 hj).1
    have h4 := List.all_eq_true.1 h3 j (List.mem_range.2 hjs)
    rw [hj] at h4
    simp only [Option.map_some, Option.getD_some, Bool.or_eq_true, decide_eq_true_eq] at h4
    rcases h4 with h4 | h4 | h4
    · exact h4
    · rw [hd] at h4; cases h4
    · rw [hd, hdj] at h4; exact absurd rfl h4
theorem ev_old {ops : Array Oper} {a0 a : Act} {V : Nat → Value} {listed : Array Bool} (hF : RFr ops a0 V listed a) (s : Nat) (v : Value) (hs : a0.tmps[s]? = some v) (hno : (ops.all fun o => decide (o.dst ≠ some s)) = true) : a.eval (.tmp s) = v := by
  have h := hF.old s (fun j o hj hd => by
    have := Array.all_eq_true_iff_forall_mem.1 hno o (Array.mem_of_getElem? hj)
    simp [hd] at this)
  rw [hs] at h
  show a.tmps.getD s undef = v
  rw [Array.getD_eq_getD_getElem?, h]
  rfl
theorem tm_dep {ops : Array Oper} {a0 a : Act} {V : Nat → Value} {listed : Array Bool} (hF : RFr ops a0 V listed a) (j d : Nat) (hd : (ops[j]?).bind (·.dst) = some d) (hl : listed.getD j false = true) : a.tmps[d]? = some (V j) := by
  obtain ⟨o, ho, hod⟩ : ∃ o, ops[j]? = some o ∧ o.dst = some d := by
    cases h : ops[j]? with
    | none => rw [h] at hd; cases hd
    | some o => rw [h] at hd; exact ⟨o, rfl, hd⟩
  refine hF.val j o d ho hod ?_
  have hj : j < listed.size := by
    rcases Nat.lt_or_ge j listed.size with h | h
    · exact h
    · unfold Array.getD at hl; rw [dif_neg (by omega)] at hl; cases hl
  rw [agetD _ _ _ hj] at hl ⊢
  exact hl
theorem tm_old {ops : Array Oper} {a0 a : Act} {V : Nat → Value} {listed : Array Bool} (hF : RFr ops a0 V listed a) (s : Nat) (v : Value) (hs : a0.tmps[s]? = some v) (hno : (ops.all fun o => decide (o.dst ≠ some s)) = true) : a.tmps[s]? = some v := by
  have h := hF.old s (fun j o hj hd => by
    have := Array.all_eq_true_iff_forall_mem.1 hno o (Array.mem_of_getElem? hj)
    simp [hd] at this)
  rw [h, hs]
theorem ev_dep {ops : Array Oper} {a0 a : Act} {V : Nat → Value} {listed : Array Bool} (hF : RFr ops a0 V listed a) (j d : Nat) (hd : (ops[j]?).bind (·.dst) = some d) (hl : listed.getD j false = true) : a.eval (.tmp d) = V j := by
  show a.tmps.getD d undef = V j
  rw [Array.getD_eq_getD_getElem?, tm_dep hF j d hd hl]
  rfl
theorem yl_dep {ops : Array Oper} {a0 a : Act} {V : Nat → Value} {listed : Array Bool} (hF : RFr ops a0 V listed a) (j d : Nat) (b : Bool) (hd : (ops[j]?).bind (·.dst) = some d) (hl : listed.getD j false = true) (hv : V j = .bool b) : yielded ops a.tmps j = some b := by
  unfold yielded
  rw [hd]
  show (match a.tmps[d]? with | some (.bool b) => some b | _ => none) = _
  rw [tm_dep hF j d hd hl, hv]
theorem fact {ops : Array Oper} {i : Nat} {o : Oper} {α : Type} {f : Oper → α} {x : α} (ho : ops[i]? = some o) (h : (ops[i]?).map f = some x) : f o = x := by rw [ho] at h; exact Option.some.inj h
theorem dep_of {ops : Array Oper} {i : Nat} {o : Oper} {listed : Array Bool} (ho : ops[i]? = some o) (hdep : ∀ e ∈ o.after, Region.binds .any e = true → listed.getD e.on false = true) (j : Nat) (h : ((ops[i]?).map fun o => o.after.any fun e => Region.binds .any e && e.on == j) = some true) : listed.getD j false = true := by
  have h1 : (o.after.any fun e => Region.binds .any e && e.on == j) = true := fact ho h
  rw [← Array.any_toList] at h1
  obtain ⟨e, he, hb⟩ := List.any_eq_true.1 h1
  simp only [Bool.and_eq_true, beq_iff_eq] at hb
  rw [← hb.2]
  exact hdep e (Array.mem_toList_iff.1 he) hb.1
theorem want_none {o : Oper} {f : Nat → Option Bool} (h : o.guard = none) : Region.wanted o f = true := by unfold Region.wanted; rw [h]
theorem want_some {o : Oper} {f : Nat → Option Bool} {j : Nat} {b c : Bool} (h : o.guard = some (j, b)) (hy : f j = some c) : Region.wanted o f = (c == b) := by
  unfold Region.wanted; rw [h]; show (f j == some b) = _; rw [hy]; cases b <;> cases c <;> rfl
noncomputable def reg10 : Array Oper := ((Try.f7.body.bind (findR 10)).getD #[])
theorem okR10 : okR reg10 145 = true := by kernel_rfl
def V10 (p q gl nl cl g of cL ix d : Nat) (ta tc : Array Value) : Nat → Value
  | 0 => .pointer (some ⟨p, 4, none⟩)
  | 1 => .slice (some ⟨gl, 0, none⟩) nl cl
  | 2 => .int .i64 (ix : Int)
  | 3 => .pointer (some ⟨gl, ix * 6, none⟩)
  | 4 => .agg ta
  | 5 => .pointer (some ⟨q, 4, none⟩)
  | 6 => .slice (some ⟨g, of, none⟩) nl cL
  | 7 => .int .i64 (ix : Int)
  | 8 => .pointer (some ⟨g, of + ix * 6, none⟩)
  | 9 => .agg tc
  | 10 => .int .i64 (d : Int)
  | 11 => .int .i64 ((d + 1 : Nat) : Int)
  | 12 => .bool true
  | 13 => .bool false
  | _ => undef
set_option maxRecDepth 100000 in
set_option maxHeartbeats 1000000 in
theorem step10 (a0 : Act) (p q gl nl cl g of cL ix d : Nat) (ta tc : Array Value) (S : Array Bool → World → Prop) (Q : Exit → Act → World → Prop) (h3 : a0.tmps[3]? = some (.pointer (some ⟨p, 0, none⟩))) (h4 : a0.tmps[4]? = some (.pointer (some ⟨q, 0, none⟩))) (h7 : a0.tmps[7]? = some (.int .i64 (ix : Int))) (h2 : a0.tmps[2]? = some (.int .i64 (d : Int)))
    (hmv : ∀ i : Nat, decide (i < 14) = true → ∀ listed W, S listed W → S (listed.setIfInBounds i true) W) (hc : ∀ listed W, S listed W → listed.size = reg10.size → listed.getD 12 true = false → (∀ j, ((reg10[12]?).map fun o => o.after.any fun e => Region.binds .any e && e.on == j) = some true → listed.getD j false = true) → Calls Try.prog 7 #[.agg ta, .agg tc, .int .i64 ((d + 1 : Nat) : Int)] W fun e w' => e = .returned (.bool true) ∧ S (listed.setIfInBounds 12 true) w') (hl1 : ∀ listed W, S listed W → listed.size = reg10.size → listed.getD 1 true = false → (∀ j, ((reg10[1]?).map fun o => o.after.any fun e => Region.binds .any e && e.on == j) = some true → listed.getD j false = true) → ∃ W2, (Instr.loadAt 23 (.pointer (some ⟨p, 4, none⟩))).run Try.prog W = .ok (.slice (some ⟨gl, 0, none⟩) nl cl) W2 ∧ S (listed.setIfInBounds 1 true) W2) (hl4 : ∀ listed W, S listed W → listed.size = reg10.size → listed.getD 4 true = false → (∀ j, ((reg10[4]?).map fun o => o.after.any fun e => Region.binds .any e && e.on == j) = some true → listed.getD j false = true) → ∃ W2, (Instr.loadAt 26 (.pointer (some ⟨gl, ix * 6, none⟩))).run Try.prog W = .ok (.agg ta) W2 ∧ S (listed.setIfInBounds 4 true) W2) (hl6 : ∀ listed W, S listed W → listed.size = reg10.size → listed.getD 6 true = false → (∀ j, ((reg10[6]?).map fun o => o.after.any fun e => Region.binds .any e && e.on == j) = some true → listed.getD j false = true) → ∃ W2, (Instr.loadAt 23 (.pointer (some ⟨q, 4, none⟩))).run Try.prog W = .ok (.slice (some ⟨g, of, none⟩) nl cL) W2 ∧ S (listed.setIfInBounds 6 true) W2) (hl9 : ∀ listed W, S listed W → listed.size = reg10.size → listed.getD 9 true = false → (∀ j, ((reg10[9]?).map fun o => o.after.any fun e => Region.binds .any e && e.on == j) = some true → listed.getD j false = true) → ∃ W2, (Instr.loadAt 26 (.pointer (some ⟨g, of + ix * 6, none⟩))).run Try.prog W = .ok (.agg tc) W2 ∧ S (listed.setIfInBounds 9 true) W2) (hd1 : IntKind.i64.wrap ((d : Int) + 1) = ((d + 1 : Nat) : Int)) (hi0 : (0 : Int) ≤ (ix : Int)) (hi1 : (ix : Int) < (nl : Int))
    (i : Nat) (o : Oper) (a : Act) (w : World) (listed : Array Bool) (ho : reg10[i]? = some o) (hF : RFr reg10 a0 (V10 p q gl nl cl g of cL ix d ta tc) listed a) (hS : S listed w) (hls : listed.size = reg10.size) (hun : listed.getD i true = false) (hdep : ∀ e ∈ o.after, Region.binds .any e = true → listed.getD e.on false = true) :
      if Region.wanted o (yielded reg10 a.tmps) = true then Oper.wp Try.prog o a w (fun a' w' => a' = a.put o.dst (V10 p q gl nl cl g of cL ix d ta tc i) ∧ S (listed.setIfInBounds i true) w') Q else V10 p q gl nl cl g of cL ix d ta tc i = undef ∧ S (listed.setIfInBounds i true) w := by
  match i, ho with
  | 0, ho =>
    rw [if_pos (want_none (fact ho (by kernel_rfl)))]
    have hop : o.op = .fieldAddr 26 (.tmp 3) 4 := fact ho (by kernel_rfl)
    have hds : o.dst = some 93 := fact ho (by kernel_rfl)
    have t3 := tm_old hF 3 _ h3 (by kernel_rfl)
    have hS2 := hmv 0 (by decide) listed w hS
    unfold Oper.wp
    simp [execOp, hop, hds, t3, go_sem, V10, hS2]
  | 1, ho =>
    rw [if_pos (want_none (fact ho (by kernel_rfl)))]
    have hop : o.op = .load 23 (.tmp 93) := fact ho (by kernel_rfl)
    have hds : o.dst = some 94 := fact ho (by kernel_rfl)
    have t93 := tm_dep hF 0 93 (by kernel_rfl) (dep_of ho hdep 0 (by kernel_rfl))
    simp only [V10] at t93
    obtain ⟨W2, hr, hS2⟩ := hl1 listed w hS hls hun (fun j hj => dep_of ho hdep j hj)
    unfold Oper.wp
    simp [execOp, hop, hds, Act.eval, t93, hr, Oper.upon, Act.put, V10, hS2]
  | 2, ho =>
    rw [if_pos (want_none (fact ho (by kernel_rfl)))]
    have hop : o.op = .move (.tmp 7) := fact ho (by kernel_rfl)
    have hds : o.dst = some 95 := fact ho (by kernel_rfl)
    have t7 := tm_old hF 7 _ h7 (by kernel_rfl)
    have hS2 := hmv 2 (by decide) listed w hS
    unfold Oper.wp
    simp [execOp, hop, hds, t7, go_sem, V10, hS2]
  | 3, ho =>
    rw [if_pos (want_none (fact ho (by kernel_rfl)))]
    have hop : o.op = .indexAddr 23 (.tmp 94) (.tmp 95) := fact ho (by kernel_rfl)
    have hds : o.dst = some 96 := fact ho (by kernel_rfl)
    have t94 := tm_dep hF 1 94 (by kernel_rfl) (dep_of ho hdep 1 (by kernel_rfl))
    simp only [V10] at t94
    have t95 := tm_dep hF 2 95 (by kernel_rfl) (dep_of ho hdep 2 (by kernel_rfl))
    simp only [V10] at t95
    have hS2 := hmv 3 (by decide) listed w hS
    unfold Oper.wp
    simp [execOp, hop, hds, t94, t95, hi0, hi1, go_sem, V10, hS2]
  | 4, ho =>
    rw [if_pos (want_none (fact ho (by kernel_rfl)))]
    have hop : o.op = .load 26 (.tmp 96) := fact ho (by kernel_rfl)
    have hds : o.dst = some 97 := fact ho (by kernel_rfl)
    have t96 := tm_dep hF 3 96 (by kernel_rfl) (dep_of ho hdep 3 (by kernel_rfl))
    simp only [V10] at t96
    obtain ⟨W2, hr, hS2⟩ := hl4 listed w hS hls hun (fun j hj => dep_of ho hdep j hj)
    unfold Oper.wp
    simp [execOp, hop, hds, Act.eval, t96, hr, Oper.upon, Act.put, V10, hS2]
  | 5, ho =>
    rw [if_pos (want_none (fact ho (by kernel_rfl)))]
    have hop : o.op = .fieldAddr 26 (.tmp 4) 4 := fact ho (by kernel_rfl)
    have hds : o.dst = some 98 := fact ho (by kernel_rfl)
    have t4 := tm_old hF 4 _ h4 (by kernel_rfl)
    have hS2 := hmv 5 (by decide) listed w hS
    unfold Oper.wp
    simp [execOp, hop, hds, t4, go_sem, V10, hS2]
  | 6, ho =>
    rw [if_pos (want_none (fact ho (by kernel_rfl)))]
    have hop : o.op = .load 23 (.tmp 98) := fact ho (by kernel_rfl)
    have hds : o.dst = some 99 := fact ho (by kernel_rfl)
    have t98 := tm_dep hF 5 98 (by kernel_rfl) (dep_of ho hdep 5 (by kernel_rfl))
    simp only [V10] at t98
    obtain ⟨W2, hr, hS2⟩ := hl6 listed w hS hls hun (fun j hj => dep_of ho hdep j hj)
    unfold Oper.wp
    simp [execOp, hop, hds, Act.eval, t98, hr, Oper.upon, Act.put, V10, hS2]
  | 7, ho =>
    rw [if_pos (want_none (fact ho (by kernel_rfl)))]
    have hop : o.op = .move (.tmp 7) := fact ho (by kernel_rfl)
    have hds : o.dst = some 100 := fact ho (by kernel_rfl)
    have t7 := tm_old hF 7 _ h7 (by kernel_rfl)
    have hS2 := hmv 7 (by decide) listed w hS
    unfold Oper.wp
    simp [execOp, hop, hds, t7, go_sem, V10, hS2]
  | 8, ho =>
    rw [if_pos (want_none (fact ho (by kernel_rfl)))]
    have hop : o.op = .indexAddr 23 (.tmp 99) (.tmp 100) := fact ho (by kernel_rfl)
    have hds : o.dst = some 101 := fact ho (by kernel_rfl)
    have t99 := tm_dep hF 6 99 (by kernel_rfl) (dep_of ho hdep 6 (by kernel_rfl))
    simp only [V10] at t99
    have t100 := tm_dep hF 7 100 (by kernel_rfl) (dep_of ho hdep 7 (by kernel_rfl))
    simp only [V10] at t100
    have hS2 := hmv 8 (by decide) listed w hS
    unfold Oper.wp
    simp [execOp, hop, hds, t99, t100, hi0, hi1, go_sem, V10, hS2]
  | 9, ho =>
    rw [if_pos (want_none (fact ho (by kernel_rfl)))]
    have hop : o.op = .load 26 (.tmp 101) := fact ho (by kernel_rfl)
    have hds : o.dst = some 102 := fact ho (by kernel_rfl)
    have t101 := tm_dep hF 8 101 (by kernel_rfl) (dep_of ho hdep 8 (by kernel_rfl))
    simp only [V10] at t101
    obtain ⟨W2, hr, hS2⟩ := hl9 listed w hS hls hun (fun j hj => dep_of ho hdep j hj)
    unfold Oper.wp
    simp [execOp, hop, hds, Act.eval, t101, hr, Oper.upon, Act.put, V10, hS2]
  | 10, ho =>
    rw [if_pos (want_none (fact ho (by kernel_rfl)))]
    have hop : o.op = .move (.tmp 2) := fact ho (by kernel_rfl)
    have hds : o.dst = some 103 := fact ho (by kernel_rfl)
    have t2 := tm_old hF 2 _ h2 (by kernel_rfl)
    have hS2 := hmv 10 (by decide) listed w hS
    unfold Oper.wp
    simp [execOp, hop, hds, t2, go_sem, V10, hS2]
  | 11, ho =>
    rw [if_pos (want_none (fact ho (by kernel_rfl)))]
    have hop : o.op = .binOp .add 3 (.tmp 103) (.const (.int .i64 1)) 3 := fact ho (by kernel_rfl)
    have hds : o.dst = some 104 := fact ho (by kernel_rfl)
    have t103 := tm_dep hF 10 103 (by kernel_rfl) (dep_of ho hdep 10 (by kernel_rfl))
    simp only [V10] at t103
    have hS2 := hmv 11 (by decide) listed w hS
    unfold Oper.wp
    simp [execOp, hop, hds, t103, hd1, go_sem, V10, hS2]
  | 12, ho =>
    rw [if_pos (want_none (fact ho (by kernel_rfl)))]
    have hop : o.op = .call { callee := .value (.func 7), args := #[.tmp 97, .tmp 102, .tmp 104], argTypes := #[26, 26, 3] } := fact ho (by kernel_rfl)
    have hds : o.dst = some 105 := fact ho (by kernel_rfl)
    have t97 := tm_dep hF 4 97 (by kernel_rfl) (dep_of ho hdep 4 (by kernel_rfl))
    simp only [V10] at t97
    have t102 := tm_dep hF 9 102 (by kernel_rfl) (dep_of ho hdep 9 (by kernel_rfl))
    simp only [V10] at t102
    have t104 := tm_dep hF 11 104 (by kernel_rfl) (dep_of ho hdep 11 (by kernel_rfl))
    simp only [V10] at t104
    unfold Oper.wp
    simp [execOp, hop, hds, t97, t102, t104, go_sem, V10]
    refine (hc listed w hS hls hun (fun j hj => dep_of ho hdep j hj)).mono ?_
    rintro e w' ⟨rfl, hS'⟩
    exact ⟨rfl, hS'⟩
  | 13, ho =>
    rw [if_pos (want_none (fact ho (by kernel_rfl)))]
    have hop : o.op = .unOp .not 4 (.tmp 105) := fact ho (by kernel_rfl)
    have hds : o.dst = some 106 := fact ho (by kernel_rfl)
    have t105 := tm_dep hF 12 105 (by kernel_rfl) (dep_of ho hdep 12 (by kernel_rfl))
    simp only [V10] at t105
    have hS2 := hmv 13 (by decide) listed w hS
    unfold Oper.wp
    simp [execOp, hop, hds, t105, go_sem, V10, hS2]
  | n + 14, ho =>
    exfalso
    have h1 : n + 14 < reg10.size := (Array.getElem?_eq_some_iff.1 ho).1
    rw [show reg10.size = 14 from by kernel_rfl] at h1
    omega
set_option maxRecDepth 100000 in
theorem put10 (X : Nat → Value) (v0 v1 v2 v3 v4 v5 v6 v7 v8 v9 v10 v11 v12 v13 v14 v15 v16 v17 v18 v19 v20 v21 v22 v23 v24 v25 v26 v27 v28 v29 v30 v31 v32 v33 v34 v35 v36 v37 v38 v39 v40 v41 v42 v43 v44 v45 v46 v47 v48 v49 v50 v51 v52 v53 v54 v55 v56 v57 v58 v59 v60 v61 v62 v63 v64 v65 v66 v67 v68 v69 v70 v71 v72 v73 v74 v75 v76 v77 v78 v79 v80 v81 v82 v83 v84 v85 v86 v87 v88 v89 v90 v91 v92 v93 v94 v95 v96 v97 v98 v99 v100 v101 v102 v103 v104 v105 v106 v107 v108 v109 v110 v111 v112 v113 v114 v115 v116 v117 v118 v119 v120 v121 v122 v123 v124 v125 v126 v127 v128 v129 v130 v131 v132 v133 v134 v135 v136 v137 v138 v139 v140 v141 v142 v143 v144 : Value) : putN reg10 X ⟨#[v0, v1, v2, v3, v4, v5, v6, v7, v8, v9, v10, v11, v12, v13, v14, v15, v16, v17, v18, v19, v20, v21, v22, v23, v24, v25, v26, v27, v28, v29, v30, v31, v32, v33, v34, v35, v36, v37, v38, v39, v40, v41, v42, v43, v44, v45, v46, v47, v48, v49, v50, v51, v52, v53, v54, v55, v56, v57, v58, v59, v60, v61, v62, v63, v64, v65, v66, v67, v68, v69, v70, v71, v72, v73, v74, v75, v76, v77, v78, v79, v80, v81, v82, v83, v84, v85, v86, v87, v88, v89, v90, v91, v92, v93, v94, v95, v96, v97, v98, v99, v100, v101, v102, v103, v104, v105, v106, v107, v108, v109, v110, v111, v112, v113, v114, v115, v116, v117, v118, v119, v120, v121, v122, v123, v124, v125, v126, v127, v128, v129, v130, v131, v132, v133, v134, v135, v136, v137, v138, v139, v140, v141, v142, v143, v144], []⟩ reg10.size = ⟨#[v0, v1, v2, v3, v4, v5, v6, v7, v8, v9, v10, v11, v12, v13, v14, v15, v16, v17, v18, v19, v20, v21, v22, v23, v24, v25, v26, v27, v28, v29, v30, v31, v32, v33, v34, v35, v36, v37, v38, v39, v40, v41, v42, v43, v44, v45, v46, v47, v48, v49, v50, v51, v52, v53, v54, v55, v56, v57, v58, v59, v60, v61, v62, v63, v64, v65, v66, v67, v68, v69, v70, v71, v72, v73, v74, v75, v76, v77, v78, v79, v80, v81, v82, v83, v84, v85, v86, v87, v88, v89, v90, v91, v92, X 0, X 1, X 2, X 3, X 4, X 5, X 6, X 7, X 8, X 9, X 10, X 11, X 12, X 13, v107, v108, v109, v110, v111, v112, v113, v114, v115, v116, v117, v118, v119, v120, v121, v122, v123, v124, v125, v126, v127, v128, v129, v130, v131, v132, v133, v134, v135, v136, v137, v138, v139, v140, v141, v142, v143, v144], []⟩ := by kernel_rfl
noncomputable def reg15 : Array Oper := ((Try.f7.body.bind (findR 15)).getD #[])
theorem okR15 : okR reg15 145 = true := by kernel_rfl
def V15 (p q gl nl cl g of cL ix d : Nat) (s : ByteArray) (ta tc : Array Value) : Nat → Value
  | 0 => .pointer (some ⟨p, 5, none⟩)
  | 1 => .slice (some ⟨gl, 0, none⟩) nl cl
  | 2 => .int .i64 (ix : Int)
  | 3 => .pointer (some ⟨gl, ix * 7, none⟩)
  | 4 => .pointer (some ⟨gl, ix * 7, none⟩)
  | 5 => .string s
  | 6 => .pointer (some ⟨q, 5, none⟩)
  | 7 => .slice (some ⟨g, of, none⟩) nl cL
  | 8 => .int .i64 (ix : Int)
  | 9 => .pointer (some ⟨g, of + ix * 7, none⟩)
  | 10 => .pointer (some ⟨g, of + ix * 7, none⟩)
  | 11 => .string s
  | 12 => .bool false
  | 13 => .bool false
  | 14 => .pointer (some ⟨p, 5, none⟩)
  | 15 => .slice (some ⟨gl, 0, none⟩) nl cl
  | 16 => .int .i64 (ix : Int)
  | 17 => .pointer (some ⟨gl, ix * 7, none⟩)
  | 18 => .pointer (some ⟨gl, ix * 7 + 1, none⟩)
  | 19 => .agg ta
  | 20 => .pointer (some ⟨q, 5, none⟩)
  | 21 => .slice (some ⟨g, of, none⟩) nl cL
  | 22 => .int .i64 (ix : Int)
  | 23 => .pointer (some ⟨g, of + ix * 7, none⟩)
  | 24 => .pointer (some ⟨g, of + ix * 7 + 1, none⟩)
  | 25 => .agg tc
  | 26 => .int .i64 (d : Int)
  | 27 => .int .i64 ((d + 1 : Nat) : Int)
  | 28 => .bool true
  | 29 => .bool false
  | 30 => .bool false
  | _ => undef
set_option maxRecDepth 100000 in
set_option maxHeartbeats 1000000 in
theorem step15 (a0 : Act) (p q gl nl cl g of cL ix d : Nat) (s : ByteArray) (ta tc : Array Value) (S : Array Bool → World → Prop) (Q : Exit → Act → World → Prop) (h3 : a0.tmps[3]? = some (.pointer (some ⟨p, 0, none⟩))) (h4 : a0.tmps[4]? = some (.pointer (some ⟨q, 0, none⟩))) (h8 : a0.tmps[8]? = some (.int .i64 (ix : Int))) (h2 : a0.tmps[2]? = some (.int .i64 (d : Int)))
    (hmv : ∀ i : Nat, decide (i < 31) = true → ∀ listed W, S listed W → S (listed.setIfInBounds i true) W) (hc : ∀ listed W, S listed W → listed.size = reg15.size → listed.getD 28 true = false → (∀ j, ((reg15[28]?).map fun o => o.after.any fun e => Region.binds .any e && e.on == j) = some true → listed.getD j false = true) → Calls Try.prog 7 #[.agg ta, .agg tc, .int .i64 ((d + 1 : Nat) : Int)] W fun e w' => e = .returned (.bool true) ∧ S (listed.setIfInBounds 28 true) w') (hl1 : ∀ listed W, S listed W → listed.size = reg15.size → listed.getD 1 true = false → (∀ j, ((reg15[1]?).map fun o => o.after.any fun e => Region.binds .any e && e.on == j) = some true → listed.getD j false = true) → ∃ W2, (Instr.loadAt 24 (.pointer (some ⟨p, 5, none⟩))).run Try.prog W = .ok (.slice (some ⟨gl, 0, none⟩) nl cl) W2 ∧ S (listed.setIfInBounds 1 true) W2) (hl5 : ∀ listed W, S listed W → listed.size = reg15.size → listed.getD 5 true = false → (∀ j, ((reg15[5]?).map fun o => o.after.any fun e => Region.binds .any e && e.on == j) = some true → listed.getD j false = true) → ∃ W2, (Instr.loadAt 9 (.pointer (some ⟨gl, ix * 7, none⟩))).run Try.prog W = .ok (.string s) W2 ∧ S (listed.setIfInBounds 5 true) W2) (hl7 : ∀ listed W, S listed W → listed.size = reg15.size → listed.getD 7 true = false → (∀ j, ((reg15[7]?).map fun o => o.after.any fun e => Region.binds .any e && e.on == j) = some true → listed.getD j false = true) → ∃ W2, (Instr.loadAt 24 (.pointer (some ⟨q, 5, none⟩))).run Try.prog W = .ok (.slice (some ⟨g, of, none⟩) nl cL) W2 ∧ S (listed.setIfInBounds 7 true) W2) (hl11 : ∀ listed W, S listed W → listed.size = reg15.size → listed.getD 11 true = false → (∀ j, ((reg15[11]?).map fun o => o.after.any fun e => Region.binds .any e && e.on == j) = some true → listed.getD j false = true) → ∃ W2, (Instr.loadAt 9 (.pointer (some ⟨g, of + ix * 7, none⟩))).run Try.prog W = .ok (.string s) W2 ∧ S (listed.setIfInBounds 11 true) W2) (hl15 : ∀ listed W, S listed W → listed.size = reg15.size → listed.getD 15 true = false → (∀ j, ((reg15[15]?).map fun o => o.after.any fun e => Region.binds .any e && e.on == j) = some true → listed.getD j false = true) → ∃ W2, (Instr.loadAt 24 (.pointer (some ⟨p, 5, none⟩))).run Try.prog W = .ok (.slice (some ⟨gl, 0, none⟩) nl cl) W2 ∧ S (listed.setIfInBounds 15 true) W2) (hl19 : ∀ listed W, S listed W → listed.size = reg15.size → listed.getD 19 true = false → (∀ j, ((reg15[19]?).map fun o => o.after.any fun e => Region.binds .any e && e.on == j) = some true → listed.getD j false = true) → ∃ W2, (Instr.loadAt 26 (.pointer (some ⟨gl, ix * 7 + 1, none⟩))).run Try.prog W = .ok (.agg ta) W2 ∧ S (listed.setIfInBounds 19 true) W2) (hl21 : ∀ listed W, S listed W → listed.size = reg15.size → listed.getD 21 true = false → (∀ j, ((reg15[21]?).map fun o => o.after.any fun e => Region.binds .any e && e.on == j) = some true → listed.getD j false = true) → ∃ W2, (Instr.loadAt 24 (.pointer (some ⟨q, 5, none⟩))).run Try.prog W = .ok (.slice (some ⟨g, of, none⟩) nl cL) W2 ∧ S (listed.setIfInBounds 21 true) W2) (hl25 : ∀ listed W, S listed W → listed.size = reg15.size → listed.getD 25 true = false → (∀ j, ((reg15[25]?).map fun o => o.after.any fun e => Region.binds .any e && e.on == j) = some true → listed.getD j false = true) → ∃ W2, (Instr.loadAt 26 (.pointer (some ⟨g, of + ix * 7 + 1, none⟩))).run Try.prog W = .ok (.agg tc) W2 ∧ S (listed.setIfInBounds 25 true) W2) (hd1 : IntKind.i64.wrap ((d : Int) + 1) = ((d + 1 : Nat) : Int)) (hi0 : (0 : Int) ≤ (ix : Int)) (hi1 : (ix : Int) < (nl : Int))
    (i : Nat) (o : Oper) (a : Act) (w : World) (listed : Array Bool) (ho : reg15[i]? = some o) (hF : RFr reg15 a0 (V15 p q gl nl cl g of cL ix d s ta tc) listed a) (hS : S listed w) (hls : listed.size = reg15.size) (hun : listed.getD i true = false) (hdep : ∀ e ∈ o.after, Region.binds .any e = true → listed.getD e.on false = true) :
      if Region.wanted o (yielded reg15 a.tmps) = true then Oper.wp Try.prog o a w (fun a' w' => a' = a.put o.dst (V15 p q gl nl cl g of cL ix d s ta tc i) ∧ S (listed.setIfInBounds i true) w') Q else V15 p q gl nl cl g of cL ix d s ta tc i = undef ∧ S (listed.setIfInBounds i true) w := by
  match i, ho with
  | 0, ho =>
    rw [if_pos (want_none (fact ho (by kernel_rfl)))]
    have hop : o.op = .fieldAddr 26 (.tmp 3) 5 := fact ho (by kernel_rfl)
    have hds : o.dst = some 114 := fact ho (by kernel_rfl)
    have t3 := tm_old hF 3 _ h3 (by kernel_rfl)
    have hS2 := hmv 0 (by decide) listed w hS
    unfold Oper.wp
    simp [execOp, hop, hds, t3, go_sem, V15, hS2]
  | 1, ho =>
    rw [if_pos (want_none (fact ho (by kernel_rfl)))]
    have hop : o.op = .load 24 (.tmp 114) := fact ho (by kernel_rfl)
    have hds : o.dst = some 115 := fact ho (by kernel_rfl)
    have t114 := tm_dep hF 0 114 (by kernel_rfl) (dep_of ho hdep 0 (by kernel_rfl))
    simp only [V15] at t114
    obtain ⟨W2, hr, hS2⟩ := hl1 listed w hS hls hun (fun j hj => dep_of ho hdep j hj)
    unfold Oper.wp
    simp [execOp, hop, hds, Act.eval, t114, hr, Oper.upon, Act.put, V15, hS2]
  | 2, ho =>
    rw [if_pos (want_none (fact ho (by kernel_rfl)))]
    have hop : o.op = .move (.tmp 8) := fact ho (by kernel_rfl)
    have hds : o.dst = some 116 := fact ho (by kernel_rfl)
    have t8 := tm_old hF 8 _ h8 (by kernel_rfl)
    have hS2 := hmv 2 (by decide) listed w hS
    unfold Oper.wp
    simp [execOp, hop, hds, t8, go_sem, V15, hS2]
  | 3, ho =>
    rw [if_pos (want_none (fact ho (by kernel_rfl)))]
    have hop : o.op = .indexAddr 24 (.tmp 115) (.tmp 116) := fact ho (by kernel_rfl)
    have hds : o.dst = some 117 := fact ho (by kernel_rfl)
    have t115 := tm_dep hF 1 115 (by kernel_rfl) (dep_of ho hdep 1 (by kernel_rfl))
    simp only [V15] at t115
    have t116 := tm_dep hF 2 116 (by kernel_rfl) (dep_of ho hdep 2 (by kernel_rfl))
    simp only [V15] at t116
    have hS2 := hmv 3 (by decide) listed w hS
    unfold Oper.wp
    simp [execOp, hop, hds, t115, t116, hi0, hi1, go_sem, V15, hS2]
  | 4, ho =>
    rw [if_pos (want_none (fact ho (by kernel_rfl)))]
    have hop : o.op = .fieldAddr 39 (.tmp 117) 0 := fact ho (by kernel_rfl)
    have hds : o.dst = some 118 := fact ho (by kernel_rfl)
    have t117 := tm_dep hF 3 117 (by kernel_rfl) (dep_of ho hdep 3 (by kernel_rfl))
    simp only [V15] at t117
    have hS2 := hmv 4 (by decide) listed w hS
    unfold Oper.wp
    simp [execOp, hop, hds, t117, go_sem, V15, hS2]
  | 5, ho =>
    rw [if_pos (want_none (fact ho (by kernel_rfl)))]
    have hop : o.op = .load 9 (.tmp 118) := fact ho (by kernel_rfl)
    have hds : o.dst = some 119 := fact ho (by kernel_rfl)
    have t118 := tm_dep hF 4 118 (by kernel_rfl) (dep_of ho hdep 4 (by kernel_rfl))
    simp only [V15] at t118
    obtain ⟨W2, hr, hS2⟩ := hl5 listed w hS hls hun (fun j hj => dep_of ho hdep j hj)
    unfold Oper.wp
    simp [execOp, hop, hds, Act.eval, t118, hr, Oper.upon, Act.put, V15, hS2]
  | 6, ho =>
    rw [if_pos (want_none (fact ho (by kernel_rfl)))]
    have hop : o.op = .fieldAddr 26 (.tmp 4) 5 := fact ho (by kernel_rfl)
    have hds : o.dst = some 120 := fact ho (by kernel_rfl)
    have t4 := tm_old hF 4 _ h4 (by kernel_rfl)
    have hS2 := hmv 6 (by decide) listed w hS
    unfold Oper.wp
    simp [execOp, hop, hds, t4, go_sem, V15, hS2]
  | 7, ho =>
    rw [if_pos (want_none (fact ho (by kernel_rfl)))]
    have hop : o.op = .load 24 (.tmp 120) := fact ho (by kernel_rfl)
    have hds : o.dst = some 121 := fact ho (by kernel_rfl)
    have t120 := tm_dep hF 6 120 (by kernel_rfl) (dep_of ho hdep 6 (by kernel_rfl))
    simp only [V15] at t120
    obtain ⟨W2, hr, hS2⟩ := hl7 listed w hS hls hun (fun j hj => dep_of ho hdep j hj)
    unfold Oper.wp
    simp [execOp, hop, hds, Act.eval, t120, hr, Oper.upon, Act.put, V15, hS2]
  | 8, ho =>
    rw [if_pos (want_none (fact ho (by kernel_rfl)))]
    have hop : o.op = .move (.tmp 8) := fact ho (by kernel_rfl)
    have hds : o.dst = some 122 := fact ho (by kernel_rfl)
    have t8 := tm_old hF 8 _ h8 (by kernel_rfl)
    have hS2 := hmv 8 (by decide) listed w hS
    unfold Oper.wp
    simp [execOp, hop, hds, t8, go_sem, V15, hS2]
  | 9, ho =>
    rw [if_pos (want_none (fact ho (by kernel_rfl)))]
    have hop : o.op = .indexAddr 24 (.tmp 121) (.tmp 122) := fact ho (by kernel_rfl)
    have hds : o.dst = some 123 := fact ho (by kernel_rfl)
    have t121 := tm_dep hF 7 121 (by kernel_rfl) (dep_of ho hdep 7 (by kernel_rfl))
    simp only [V15] at t121
    have t122 := tm_dep hF 8 122 (by kernel_rfl) (dep_of ho hdep 8 (by kernel_rfl))
    simp only [V15] at t122
    have hS2 := hmv 9 (by decide) listed w hS
    unfold Oper.wp
    simp [execOp, hop, hds, t121, t122, hi0, hi1, go_sem, V15, hS2]
  | 10, ho =>
    rw [if_pos (want_none (fact ho (by kernel_rfl)))]
    have hop : o.op = .fieldAddr 39 (.tmp 123) 0 := fact ho (by kernel_rfl)
    have hds : o.dst = some 124 := fact ho (by kernel_rfl)
    have t123 := tm_dep hF 9 123 (by kernel_rfl) (dep_of ho hdep 9 (by kernel_rfl))
    simp only [V15] at t123
    have hS2 := hmv 10 (by decide) listed w hS
    unfold Oper.wp
    simp [execOp, hop, hds, t123, go_sem, V15, hS2]
  | 11, ho =>
    rw [if_pos (want_none (fact ho (by kernel_rfl)))]
    have hop : o.op = .load 9 (.tmp 124) := fact ho (by kernel_rfl)
    have hds : o.dst = some 125 := fact ho (by kernel_rfl)
    have t124 := tm_dep hF 10 124 (by kernel_rfl) (dep_of ho hdep 10 (by kernel_rfl))
    simp only [V15] at t124
    obtain ⟨W2, hr, hS2⟩ := hl11 listed w hS hls hun (fun j hj => dep_of ho hdep j hj)
    unfold Oper.wp
    simp [execOp, hop, hds, Act.eval, t124, hr, Oper.upon, Act.put, V15, hS2]
  | 12, ho =>
    rw [if_pos (want_none (fact ho (by kernel_rfl)))]
    have hop : o.op = .binOp .neq 9 (.tmp 119) (.tmp 125) 9 := fact ho (by kernel_rfl)
    have hds : o.dst = some 126 := fact ho (by kernel_rfl)
    have t119 := tm_dep hF 5 119 (by kernel_rfl) (dep_of ho hdep 5 (by kernel_rfl))
    simp only [V15] at t119
    have t125 := tm_dep hF 11 125 (by kernel_rfl) (dep_of ho hdep 11 (by kernel_rfl))
    simp only [V15] at t125
    have hS2 := hmv 12 (by decide) listed w hS
    unfold Oper.wp
    simp [execOp, hop, hds, t119, t125, go_sem, V15, hS2]
  | 13, ho =>
    rw [if_pos (want_none (fact ho (by kernel_rfl)))]
    have hop : o.op = .move (.tmp 126) := fact ho (by kernel_rfl)
    have hds : o.dst = some 127 := fact ho (by kernel_rfl)
    have t126 := tm_dep hF 12 126 (by kernel_rfl) (dep_of ho hdep 12 (by kernel_rfl))
    simp only [V15] at t126
    have hS2 := hmv 13 (by decide) listed w hS
    unfold Oper.wp
    simp [execOp, hop, hds, t126, go_sem, V15, hS2]
  | 14, ho =>
    have hy := yl_dep hF 13 127 false (by kernel_rfl) (dep_of ho hdep 13 (by kernel_rfl)) rfl
    have hgd : o.guard = some (13, false) := fact ho (by kernel_rfl)
    rw [if_pos (by rw [want_some hgd hy]; rfl)]
    have hop : o.op = .fieldAddr 26 (.tmp 3) 5 := fact ho (by kernel_rfl)
    have hds : o.dst = some 128 := fact ho (by kernel_rfl)
    have t3 := tm_old hF 3 _ h3 (by kernel_rfl)
    have hS2 := hmv 14 (by decide) listed w hS
    unfold Oper.wp
    simp [execOp, hop, hds, t3, go_sem, V15, hS2]
  | 15, ho =>
    have hy := yl_dep hF 13 127 false (by kernel_rfl) (dep_of ho hdep 13 (by kernel_rfl)) rfl
    have hgd : o.guard = some (13, false) := fact ho (by kernel_rfl)
    rw [if_pos (by rw [want_some hgd hy]; rfl)]
    have hop : o.op = .load 24 (.tmp 128) := fact ho (by kernel_rfl)
    have hds : o.dst = some 129 := fact ho (by kernel_rfl)
    have t128 := tm_dep hF 14 128 (by kernel_rfl) (dep_of ho hdep 14 (by kernel_rfl))
    simp only [V15] at t128
    obtain ⟨W2, hr, hS2⟩ := hl15 listed w hS hls hun (fun j hj => dep_of ho hdep j hj)
    unfold Oper.wp
    simp [execOp, hop, hds, Act.eval, t128, hr, Oper.upon, Act.put, V15, hS2]
  | 16, ho =>
    have hy := yl_dep hF 13 127 false (by kernel_rfl) (dep_of ho hdep 13 (by kernel_rfl)) rfl
    have hgd : o.guard = some (13, false) := fact ho (by kernel_rfl)
    rw [if_pos (by rw [want_some hgd hy]; rfl)]
    have hop : o.op = .move (.tmp 8) := fact ho (by kernel_rfl)
    have hds : o.dst = some 130 := fact ho (by kernel_rfl)
    have t8 := tm_old hF 8 _ h8 (by kernel_rfl)
    have hS2 := hmv 16 (by decide) listed w hS
    unfold Oper.wp
    simp [execOp, hop, hds, t8, go_sem, V15, hS2]
  | 17, ho =>
    have hy := yl_dep hF 13 127 false (by kernel_rfl) (dep_of ho hdep 13 (by kernel_rfl)) rfl
    have hgd : o.guard = some (13, false) := fact ho (by kernel_rfl)
    rw [if_pos (by rw [want_some hgd hy]; rfl)]
    have hop : o.op = .indexAddr 24 (.tmp 129) (.tmp 130) := fact ho (by kernel_rfl)
    have hds : o.dst = some 131 := fact ho (by kernel_rfl)
    have t129 := tm_dep hF 15 129 (by kernel_rfl) (dep_of ho hdep 15 (by kernel_rfl))
    simp only [V15] at t129
    have t130 := tm_dep hF 16 130 (by kernel_rfl) (dep_of ho hdep 16 (by kernel_rfl))
    simp only [V15] at t130
    have hS2 := hmv 17 (by decide) listed w hS
    unfold Oper.wp
    simp [execOp, hop, hds, t129, t130, hi0, hi1, go_sem, V15, hS2]
  | 18, ho =>
    have hy := yl_dep hF 13 127 false (by kernel_rfl) (dep_of ho hdep 13 (by kernel_rfl)) rfl
    have hgd : o.guard = some (13, false) := fact ho (by kernel_rfl)
    rw [if_pos (by rw [want_some hgd hy]; rfl)]
    have hop : o.op = .fieldAddr 39 (.tmp 131) 1 := fact ho (by kernel_rfl)
    have hds : o.dst = some 132 := fact ho (by kernel_rfl)
    have t131 := tm_dep hF 17 131 (by kernel_rfl) (dep_of ho hdep 17 (by kernel_rfl))
    simp only [V15] at t131
    have hS2 := hmv 18 (by decide) listed w hS
    unfold Oper.wp
    simp [execOp, hop, hds, t131, go_sem, V15, hS2]
  | 19, ho =>
    have hy := yl_dep hF 13 127 false (by kernel_rfl) (dep_of ho hdep 13 (by kernel_rfl)) rfl
    have hgd : o.guard = some (13, false) := fact ho (by kernel_rfl)
    rw [if_pos (by rw [want_some hgd hy]; rfl)]
    have hop : o.op = .load 26 (.tmp 132) := fact ho (by kernel_rfl)
    have hds : o.dst = some 133 := fact ho (by kernel_rfl)
    have t132 := tm_dep hF 18 132 (by kernel_rfl) (dep_of ho hdep 18 (by kernel_rfl))
    simp only [V15] at t132
    obtain ⟨W2, hr, hS2⟩ := hl19 listed w hS hls hun (fun j hj => dep_of ho hdep j hj)
    unfold Oper.wp
    simp [execOp, hop, hds, Act.eval, t132, hr, Oper.upon, Act.put, V15, hS2]
  | 20, ho =>
    have hy := yl_dep hF 13 127 false (by kernel_rfl) (dep_of ho hdep 13 (by kernel_rfl)) rfl
    have hgd : o.guard = some (13, false) := fact ho (by kernel_rfl)
    rw [if_pos (by rw [want_some hgd hy]; rfl)]
    have hop : o.op = .fieldAddr 26 (.tmp 4) 5 := fact ho (by kernel_rfl)
    have hds : o.dst = some 134 := fact ho (by kernel_rfl)
    have t4 := tm_old hF 4 _ h4 (by kernel_rfl)
    have hS2 := hmv 20 (by decide) listed w hS
    unfold Oper.wp
    simp [execOp, hop, hds, t4, go_sem, V15, hS2]
  | 21, ho =>
    have hy := yl_dep hF 13 127 false (by kernel_rfl) (dep_of ho hdep 13 (by kernel_rfl)) rfl
    have hgd : o.guard = some (13, false) := fact ho (by kernel_rfl)
    rw [if_pos (by rw [want_some hgd hy]; rfl)]
    have hop : o.op = .load 24 (.tmp 134) := fact ho (by kernel_rfl)
    have hds : o.dst = some 135 := fact ho (by kernel_rfl)
    have t134 := tm_dep hF 20 134 (by kernel_rfl) (dep_of ho hdep 20 (by kernel_rfl))
    simp only [V15] at t134
    obtain ⟨W2, hr, hS2⟩ := hl21 listed w hS hls hun (fun j hj => dep_of ho hdep j hj)
    unfold Oper.wp
    simp [execOp, hop, hds, Act.eval, t134, hr, Oper.upon, Act.put, V15, hS2]
  | 22, ho =>
    have hy := yl_dep hF 13 127 false (by kernel_rfl) (dep_of ho hdep 13 (by kernel_rfl)) rfl
    have hgd : o.guard = some (13, false) := fact ho (by kernel_rfl)
    rw [if_pos (by rw [want_some hgd hy]; rfl)]
    have hop : o.op = .move (.tmp 8) := fact ho (by kernel_rfl)
    have hds : o.dst = some 136 := fact ho (by kernel_rfl)
    have t8 := tm_old hF 8 _ h8 (by kernel_rfl)
    have hS2 := hmv 22 (by decide) listed w hS
    unfold Oper.wp
    simp [execOp, hop, hds, t8, go_sem, V15, hS2]
  | 23, ho =>
    have hy := yl_dep hF 13 127 false (by kernel_rfl) (dep_of ho hdep 13 (by kernel_rfl)) rfl
    have hgd : o.guard = some (13, false) := fact ho (by kernel_rfl)
    rw [if_pos (by rw [want_some hgd hy]; rfl)]
    have hop : o.op = .indexAddr 24 (.tmp 135) (.tmp 136) := fact ho (by kernel_rfl)
    have hds : o.dst = some 137 := fact ho (by kernel_rfl)
    have t135 := tm_dep hF 21 135 (by kernel_rfl) (dep_of ho hdep 21 (by kernel_rfl))
    simp only [V15] at t135
    have t136 := tm_dep hF 22 136 (by kernel_rfl) (dep_of ho hdep 22 (by kernel_rfl))
    simp only [V15] at t136
    have hS2 := hmv 23 (by decide) listed w hS
    unfold Oper.wp
    simp [execOp, hop, hds, t135, t136, hi0, hi1, go_sem, V15, hS2]
  | 24, ho =>
    have hy := yl_dep hF 13 127 false (by kernel_rfl) (dep_of ho hdep 13 (by kernel_rfl)) rfl
    have hgd : o.guard = some (13, false) := fact ho (by kernel_rfl)
    rw [if_pos (by rw [want_some hgd hy]; rfl)]
    have hop : o.op = .fieldAddr 39 (.tmp 137) 1 := fact ho (by kernel_rfl)
    have hds : o.dst = some 138 := fact ho (by kernel_rfl)
    have t137 := tm_dep hF 23 137 (by kernel_rfl) (dep_of ho hdep 23 (by kernel_rfl))
    simp only [V15] at t137
    have hS2 := hmv 24 (by decide) listed w hS
    unfold Oper.wp
    simp [execOp, hop, hds, t137, go_sem, V15, hS2]
  | 25, ho =>
    have hy := yl_dep hF 13 127 false (by kernel_rfl) (dep_of ho hdep 13 (by kernel_rfl)) rfl
    have hgd : o.guard = some (13, false) := fact ho (by kernel_rfl)
    rw [if_pos (by rw [want_some hgd hy]; rfl)]
    have hop : o.op = .load 26 (.tmp 138) := fact ho (by kernel_rfl)
    have hds : o.dst = some 139 := fact ho (by kernel_rfl)
    have t138 := tm_dep hF 24 138 (by kernel_rfl) (dep_of ho hdep 24 (by kernel_rfl))
    simp only [V15] at t138
    obtain ⟨W2, hr, hS2⟩ := hl25 listed w hS hls hun (fun j hj => dep_of ho hdep j hj)
    unfold Oper.wp
    simp [execOp, hop, hds, Act.eval, t138, hr, Oper.upon, Act.put, V15, hS2]
  | 26, ho =>
    have hy := yl_dep hF 13 127 false (by kernel_rfl) (dep_of ho hdep 13 (by kernel_rfl)) rfl
    have hgd : o.guard = some (13, false) := fact ho (by kernel_rfl)
    rw [if_pos (by rw [want_some hgd hy]; rfl)]
    have hop : o.op = .move (.tmp 2) := fact ho (by kernel_rfl)
    have hds : o.dst = some 140 := fact ho (by kernel_rfl)
    have t2 := tm_old hF 2 _ h2 (by kernel_rfl)
    have hS2 := hmv 26 (by decide) listed w hS
    unfold Oper.wp
    simp [execOp, hop, hds, t2, go_sem, V15, hS2]
  | 27, ho =>
    have hy := yl_dep hF 13 127 false (by kernel_rfl) (dep_of ho hdep 13 (by kernel_rfl)) rfl
    have hgd : o.guard = some (13, false) := fact ho (by kernel_rfl)
    rw [if_pos (by rw [want_some hgd hy]; rfl)]
    have hop : o.op = .binOp .add 3 (.tmp 140) (.const (.int .i64 1)) 3 := fact ho (by kernel_rfl)
    have hds : o.dst = some 141 := fact ho (by kernel_rfl)
    have t140 := tm_dep hF 26 140 (by kernel_rfl) (dep_of ho hdep 26 (by kernel_rfl))
    simp only [V15] at t140
    have hS2 := hmv 27 (by decide) listed w hS
    unfold Oper.wp
    simp [execOp, hop, hds, t140, hd1, go_sem, V15, hS2]
  | 28, ho =>
    have hy := yl_dep hF 13 127 false (by kernel_rfl) (dep_of ho hdep 13 (by kernel_rfl)) rfl
    have hgd : o.guard = some (13, false) := fact ho (by kernel_rfl)
    rw [if_pos (by rw [want_some hgd hy]; rfl)]
    have hop : o.op = .call { callee := .value (.func 7), args := #[.tmp 133, .tmp 139, .tmp 141], argTypes := #[26, 26, 3] } := fact ho (by kernel_rfl)
    have hds : o.dst = some 142 := fact ho (by kernel_rfl)
    have t133 := tm_dep hF 19 133 (by kernel_rfl) (dep_of ho hdep 19 (by kernel_rfl))
    simp only [V15] at t133
    have t139 := tm_dep hF 25 139 (by kernel_rfl) (dep_of ho hdep 25 (by kernel_rfl))
    simp only [V15] at t139
    have t141 := tm_dep hF 27 141 (by kernel_rfl) (dep_of ho hdep 27 (by kernel_rfl))
    simp only [V15] at t141
    unfold Oper.wp
    simp [execOp, hop, hds, t133, t139, t141, go_sem, V15]
    refine (hc listed w hS hls hun (fun j hj => dep_of ho hdep j hj)).mono ?_
    rintro e w' ⟨rfl, hS'⟩
    exact ⟨rfl, hS'⟩
  | 29, ho =>
    have hy := yl_dep hF 13 127 false (by kernel_rfl) (dep_of ho hdep 13 (by kernel_rfl)) rfl
    have hgd : o.guard = some (13, false) := fact ho (by kernel_rfl)
    rw [if_pos (by rw [want_some hgd hy]; rfl)]
    have hop : o.op = .unOp .not 4 (.tmp 142) := fact ho (by kernel_rfl)
    have hds : o.dst = some 143 := fact ho (by kernel_rfl)
    have t142 := tm_dep hF 28 142 (by kernel_rfl) (dep_of ho hdep 28 (by kernel_rfl))
    simp only [V15] at t142
    have hS2 := hmv 29 (by decide) listed w hS
    unfold Oper.wp
    simp [execOp, hop, hds, t142, go_sem, V15, hS2]
  | 30, ho =>
    rw [if_pos (want_none (fact ho (by kernel_rfl)))]
    have hop : o.op = .pick (.tmp 127) (.const (.bool true)) (.tmp 143) := fact ho (by kernel_rfl)
    have hds : o.dst = some 144 := fact ho (by kernel_rfl)
    have t127 := tm_dep hF 13 127 (by kernel_rfl) (dep_of ho hdep 13 (by kernel_rfl))
    simp only [V15] at t127
    have t143 := tm_dep hF 29 143 (by kernel_rfl) (dep_of ho hdep 29 (by kernel_rfl))
    simp only [V15] at t143
    have hS2 := hmv 30 (by decide) listed w hS
    unfold Oper.wp
    simp [execOp, hop, hds, t127, t143, go_sem, V15, hS2]
  | n + 31, ho =>
    exfalso
    have h1 : n + 31 < reg15.size := (Array.getElem?_eq_some_iff.1 ho).1
    rw [show reg15.size = 31 from by kernel_rfl] at h1
    omega
set_option maxRecDepth 100000 in
theorem put15 (X : Nat → Value) (v0 v1 v2 v3 v4 v5 v6 v7 v8 v9 v10 v11 v12 v13 v14 v15 v16 v17 v18 v19 v20 v21 v22 v23 v24 v25 v26 v27 v28 v29 v30 v31 v32 v33 v34 v35 v36 v37 v38 v39 v40 v41 v42 v43 v44 v45 v46 v47 v48 v49 v50 v51 v52 v53 v54 v55 v56 v57 v58 v59 v60 v61 v62 v63 v64 v65 v66 v67 v68 v69 v70 v71 v72 v73 v74 v75 v76 v77 v78 v79 v80 v81 v82 v83 v84 v85 v86 v87 v88 v89 v90 v91 v92 v93 v94 v95 v96 v97 v98 v99 v100 v101 v102 v103 v104 v105 v106 v107 v108 v109 v110 v111 v112 v113 v114 v115 v116 v117 v118 v119 v120 v121 v122 v123 v124 v125 v126 v127 v128 v129 v130 v131 v132 v133 v134 v135 v136 v137 v138 v139 v140 v141 v142 v143 v144 : Value) : putN reg15 X ⟨#[v0, v1, v2, v3, v4, v5, v6, v7, v8, v9, v10, v11, v12, v13, v14, v15, v16, v17, v18, v19, v20, v21, v22, v23, v24, v25, v26, v27, v28, v29, v30, v31, v32, v33, v34, v35, v36, v37, v38, v39, v40, v41, v42, v43, v44, v45, v46, v47, v48, v49, v50, v51, v52, v53, v54, v55, v56, v57, v58, v59, v60, v61, v62, v63, v64, v65, v66, v67, v68, v69, v70, v71, v72, v73, v74, v75, v76, v77, v78, v79, v80, v81, v82, v83, v84, v85, v86, v87, v88, v89, v90, v91, v92, v93, v94, v95, v96, v97, v98, v99, v100, v101, v102, v103, v104, v105, v106, v107, v108, v109, v110, v111, v112, v113, v114, v115, v116, v117, v118, v119, v120, v121, v122, v123, v124, v125, v126, v127, v128, v129, v130, v131, v132, v133, v134, v135, v136, v137, v138, v139, v140, v141, v142, v143, v144], []⟩ reg15.size = ⟨#[v0, v1, v2, v3, v4, v5, v6, v7, v8, v9, v10, v11, v12, v13, v14, v15, v16, v17, v18, v19, v20, v21, v22, v23, v24, v25, v26, v27, v28, v29, v30, v31, v32, v33, v34, v35, v36, v37, v38, v39, v40, v41, v42, v43, v44, v45, v46, v47, v48, v49, v50, v51, v52, v53, v54, v55, v56, v57, v58, v59, v60, v61, v62, v63, v64, v65, v66, v67, v68, v69, v70, v71, v72, v73, v74, v75, v76, v77, v78, v79, v80, v81, v82, v83, v84, v85, v86, v87, v88, v89, v90, v91, v92, v93, v94, v95, v96, v97, v98, v99, v100, v101, v102, v103, v104, v105, v106, v107, v108, v109, v110, v111, v112, v113, X 0, X 1, X 2, X 3, X 4, X 5, X 6, X 7, X 8, X 9, X 10, X 11, X 12, X 13, X 14, X 15, X 16, X 17, X 18, X 19, X 20, X 21, X 22, X 23, X 24, X 25, X 26, X 27, X 28, X 29, X 30], []⟩ := by kernel_rfl
end Go.Proofs.Ytnljnknnjahjkaa
