/- LabelOrder: the operations of the drawn region, each by its value. -/
import Derived.Test.YthbjlhafagcidaaDoorVals
import Derived.Test.YthbjlhafagcidaaDoorOrB
namespace Go.Proofs.YthbjlhafagcidaaDoor
open Go.RowKit
def findR (n : Nat) : Code → Option (Array Oper)
  | .region m ops _ => if m = n then some ops else none
  | .seq a b => match findR n a with
    | some c => some c
    | none => findR n b
  | .scope c => findR n c
  | .block _ c => findR n c
  | .loop c => findR n c
  | .cond _ a b => match findR n a with
    | some c => some c
    | none => findR n b
  | _ => none
/-- The closed facts of a region, by running. -/
def okR (ops : Array Oper) (N : Nat) : Bool :=
  (List.range ops.size).all fun i => ((ops[i]?).map fun o => (o.after.all fun e => !Region.binds .any e || decide (e.on < i)) && (match o.dst with | some d => decide (d < N) | none => true) &&
    (List.range ops.size).all fun j => decide (j = i) || ((ops[j]?).map fun p => decide (o.dst = none) || decide (p.dst ≠ o.dst)).getD true).getD true
theorem okR_at {ops : Array Oper} {N : Nat} (h : okR ops N = true) {i : Nat} {o : Oper} (ho : ops[i]? = some o) :
    (∀ e ∈ o.after, Region.binds .any e = true → e.on < i) ∧ (∀ d, o.dst = some d → d < N) ∧ ∀ (j : Nat) oj d, ops[j]? = some oj → oj.dst = some d → o.dst = some d → j = i := by
  have hi : i < ops.size := (Array.getElem?_eq_some_iff.1 ho).1
  have h1 := List.all_eq_true.1 h i (List.mem_range.2 hi)
  rw [ho] at h1
  simp only [Option.map_some, Option.getD_some, Bool.and_eq_true] at h1
  obtain ⟨⟨h1, h2⟩, h3⟩ := h1
  refine ⟨fun e he hb => ?_, fun d hd => ?_, fun j oj d hj hdj hd => ?_⟩
  · have := Array.all_eq_true_iff_forall_mem.1 h1 e he
    rw [hb] at this
    simpa using this
  · rw [hd] at h2
    simpa using h2
  · have hjs : j < ops.size := (Array.getElem?_eq_some_iff.1 hj).1
    have h4 := List.all_eq_true.1 h3 j (List.mem_range.2 hjs)
    rw [hj] at h4
    simp only [Option.map_some, Option.getD_some, Bool.or_eq_true, decide_eq_true_eq] at h4
    rcases h4 with h4 | h4 | h4
    · exact h4
    · rw [hd] at h4; cases h4
    · rw [hd, hdj] at h4; exact absurd rfl h4
theorem ev_old {ops : Array Oper} {a0 a : Act} {V : Nat → Value} {listed : Array Bool} (hF : RFr ops a0 V listed a) (s : Nat) (v : Value) (hs : a0.tmps[s]? = some v) (hno : (ops.all fun o => decide (o.dst ≠ some s)) = true) : a.eval (.tmp s) = v := by
  have h := hF.old s (fun j o hj hd => by
    have := Array.all_eq_true_iff_forall_mem.1 hno o (Array.mem_of_getElem? hj)
    simp [hd] at this)
  rw [hs] at h
  show a.tmps.getD s undef = v
  rw [Array.getD_eq_getD_getElem?, h]
  rfl
theorem tm_dep {ops : Array Oper} {a0 a : Act} {V : Nat → Value} {listed : Array Bool} (hF : RFr ops a0 V listed a) (j d : Nat) (hd : (ops[j]?).bind (·.dst) = some d) (hl : listed.getD j false = true) : a.tmps[d]? = some (V j) := by
  obtain ⟨o, ho, hod⟩ : ∃ o, ops[j]? = some o ∧ o.dst = some d := by
    cases h : ops[j]? with
    | none => rw [h] at hd; cases hd
    | some o => rw [h] at hd; exact ⟨o, rfl, hd⟩
  refine hF.val j o d ho hod ?_
  have hj : j < listed.size := by
    rcases Nat.lt_or_ge j listed.size with h | h
    · exact h
    · unfold Array.getD at hl; rw [dif_neg (by omega)] at hl; cases hl
  rw [agetD _ _ _ hj] at hl ⊢
  exact hl
theorem tm_old {ops : Array Oper} {a0 a : Act} {V : Nat → Value} {listed : Array Bool} (hF : RFr ops a0 V listed a) (s : Nat) (v : Value) (hs : a0.tmps[s]? = some v) (hno : (ops.all fun o => decide (o.dst ≠ some s)) = true) : a.tmps[s]? = some v := by
  have h := hF.old s (fun j o hj hd => by
    have := Array.all_eq_true_iff_forall_mem.1 hno o (Array.mem_of_getElem? hj)
    simp [hd] at this)
  rw [h, hs]
theorem ev_dep {ops : Array Oper} {a0 a : Act} {V : Nat → Value} {listed : Array Bool} (hF : RFr ops a0 V listed a) (j d : Nat) (hd : (ops[j]?).bind (·.dst) = some d) (hl : listed.getD j false = true) : a.eval (.tmp d) = V j := by
  show a.tmps.getD d undef = V j
  rw [Array.getD_eq_getD_getElem?, tm_dep hF j d hd hl]
  rfl
theorem yl_dep {ops : Array Oper} {a0 a : Act} {V : Nat → Value} {listed : Array Bool} (hF : RFr ops a0 V listed a) (j d : Nat) (b : Bool) (hd : (ops[j]?).bind (·.dst) = some d) (hl : listed.getD j false = true) (hv : V j = .bool b) : yielded ops a.tmps j = some b := by
  unfold yielded
  rw [hd]
  show (match a.tmps[d]? with | some (.bool b) => some b | _ => none) = _
  rw [tm_dep hF j d hd hl, hv]
theorem fact {ops : Array Oper} {i : Nat} {o : Oper} {α : Type} {f : Oper → α} {x : α} (ho : ops[i]? = some o) (h : (ops[i]?).map f = some x) : f o = x := by rw [ho] at h; exact Option.some.inj h
theorem dep_of {ops : Array Oper} {i : Nat} {o : Oper} {listed : Array Bool} (ho : ops[i]? = some o) (hdep : ∀ e ∈ o.after, Region.binds .any e = true → listed.getD e.on false = true) (j : Nat) (h : ((ops[i]?).map fun o => o.after.any fun e => Region.binds .any e && e.on == j) = some true) : listed.getD j false = true := by
  have h1 : (o.after.any fun e => Region.binds .any e && e.on == j) = true := fact ho h
  rw [← Array.any_toList] at h1
  obtain ⟨e, he, hb⟩ := List.any_eq_true.1 h1
  simp only [Bool.and_eq_true, beq_iff_eq] at hb
  rw [← hb.2]
  exact hdep e (Array.mem_toList_iff.1 he) hb.1
theorem want_none {o : Oper} {f : Nat → Option Bool} (h : o.guard = none) : Region.wanted o f = true := by unfold Region.wanted; rw [h]
theorem want_some {o : Oper} {f : Nat → Option Bool} {j : Nat} {b c : Bool} (h : o.guard = some (j, b)) (hy : f j = some c) : Region.wanted o f = (c == b) := by
  unfold Region.wanted; rw [h]; show (f j == some b) = _; rw [hy]; cases b <;> cases c <;> rfl
noncomputable def reg17 : Array Oper := ((Tryd.f3.body.bind (findR 17)).getD #[])
theorem okR17 : okR reg17 114 = true := by kernel_rfl
def V17 (g m d j k : Nat) (x y : Lb) (r : Int) : Nat → Value
  | 0 => .slice (some ⟨g, 0, none⟩) m d
  | 1 => .int .i64 (k : Int)
  | 2 => .int .i64 (j : Int)
  | 3 => .pointer (some ⟨g, j * 21, none⟩)
  | 4 => .agg (lab x.h x.s)
  | 5 => .slice (some ⟨g, 0, none⟩) m d
  | 6 => .int .i64 (k : Int)
  | 7 => .pointer (some ⟨g, k * 21, none⟩)
  | 8 => .agg (lab y.h y.s)
  | 9 => .int .i64 r
  | 10 => .bool (decide (0 ≤ r))
  | _ => undef
set_option maxRecDepth 100000 in
set_option maxHeartbeats 1000000 in
theorem step17 (a0 : Act) (g m d j k : Nat) (x y : Lb) (r : Int) (S : Array Bool → World → Prop) (Q : Exit → Act → World → Prop) (h14 : a0.tmps[14]? = some (.slice (some ⟨g, 0, none⟩) m d)) (h15 : a0.tmps[15]? = some (.int .i64 (k : Int)))
    (hmv : ∀ i : Nat, decide (i < 11) = true → ∀ listed W, S listed W → S (listed.setIfInBounds i true) W) (hc5 : ∀ listed W, S listed W → listed.size = reg17.size → listed.getD 9 true = false → (∀ j, ((reg17[9]?).map fun o => o.after.any fun e => Region.binds .any e && e.on == j) = some true → listed.getD j false = true) → Calls Tryd.prog 5 #[.agg (lab x.h x.s), .agg (lab y.h y.s)] W fun e w' => e = .returned (.int .i64 r) ∧ S (listed.setIfInBounds 9 true) w') (hlx : ∀ listed W, S listed W → listed.size = reg17.size → listed.getD 4 true = false → (∀ j, ((reg17[4]?).map fun o => o.after.any fun e => Region.binds .any e && e.on == j) = some true → listed.getD j false = true) → ∃ W2, (Instr.loadAt 25 (.pointer (some ⟨g, j * 21, none⟩))).run Tryd.prog W = .ok (.agg (lab x.h x.s)) W2 ∧ S (listed.setIfInBounds 4 true) W2) (hly : ∀ listed W, S listed W → listed.size = reg17.size → listed.getD 8 true = false → (∀ j, ((reg17[8]?).map fun o => o.after.any fun e => Region.binds .any e && e.on == j) = some true → listed.getD j false = true) → ∃ W2, (Instr.loadAt 25 (.pointer (some ⟨g, k * 21, none⟩))).run Tryd.prog W = .ok (.agg (lab y.h y.s)) W2 ∧ S (listed.setIfInBounds 8 true) W2) (hjk : IntKind.i64.wrap ((k : Int) - 1) = (j : Int)) (hp0 : (0 : Int) ≤ (j : Int)) (hp1 : (j : Int) < (m : Int)) (hq0 : (0 : Int) ≤ (k : Int)) (hq1 : (k : Int) < (m : Int))
    (i : Nat) (o : Oper) (a : Act) (w : World) (listed : Array Bool) (ho : reg17[i]? = some o) (hF : RFr reg17 a0 (V17 g m d j k x y r) listed a) (hS : S listed w) (hls : listed.size = reg17.size) (hun : listed.getD i true = false) (hdep : ∀ e ∈ o.after, Region.binds .any e = true → listed.getD e.on false = true) :
      if Region.wanted o (yielded reg17 a.tmps) = true then Oper.wp Tryd.prog o a w (fun a' w' => a' = a.put o.dst (V17 g m d j k x y r i) ∧ S (listed.setIfInBounds i true) w') Q else V17 g m d j k x y r i = undef ∧ S (listed.setIfInBounds i true) w := by
  match i, ho with
  | 0, ho =>
    rw [if_pos (want_none (fact ho (by kernel_rfl)))]
    have hop : o.op = .move (.tmp 14) := fact ho (by kernel_rfl)
    have hds : o.dst = some 95 := fact ho (by kernel_rfl)
    have t14 := tm_old hF 14 _ h14 (by kernel_rfl)
    have hS2 := hmv 0 (by decide) listed w hS
    unfold Oper.wp
    simp [execOp, hop, hds, t14, go_sem, V17, hS2]
  | 1, ho =>
    rw [if_pos (want_none (fact ho (by kernel_rfl)))]
    have hop : o.op = .move (.tmp 15) := fact ho (by kernel_rfl)
    have hds : o.dst = some 96 := fact ho (by kernel_rfl)
    have t15 := tm_old hF 15 _ h15 (by kernel_rfl)
    have hS2 := hmv 1 (by decide) listed w hS
    unfold Oper.wp
    simp [execOp, hop, hds, t15, go_sem, V17, hS2]
  | 2, ho =>
    rw [if_pos (want_none (fact ho (by kernel_rfl)))]
    have hop : o.op = .binOp .sub 3 (.tmp 96) (.const (.int .i64 1)) 3 := fact ho (by kernel_rfl)
    have hds : o.dst = some 97 := fact ho (by kernel_rfl)
    have t96 := tm_dep hF 1 96 (by kernel_rfl) (dep_of ho hdep 1 (by kernel_rfl))
    simp only [V17] at t96
    have hS2 := hmv 2 (by decide) listed w hS
    unfold Oper.wp
    simp [execOp, hop, hds, t96, hjk, go_sem, V17, hS2]
  | 3, ho =>
    rw [if_pos (want_none (fact ho (by kernel_rfl)))]
    have hop : o.op = .indexAddr 26 (.tmp 95) (.tmp 97) := fact ho (by kernel_rfl)
    have hds : o.dst = some 98 := fact ho (by kernel_rfl)
    have t95 := tm_dep hF 0 95 (by kernel_rfl) (dep_of ho hdep 0 (by kernel_rfl))
    simp only [V17] at t95
    have t97 := tm_dep hF 2 97 (by kernel_rfl) (dep_of ho hdep 2 (by kernel_rfl))
    simp only [V17] at t97
    have hS2 := hmv 3 (by decide) listed w hS
    unfold Oper.wp
    simp [execOp, hop, hds, t95, t97, hp0, hp1, go_sem, V17, hS2]
  | 4, ho =>
    rw [if_pos (want_none (fact ho (by kernel_rfl)))]
    have hop : o.op = .load 25 (.tmp 98) := fact ho (by kernel_rfl)
    have hds : o.dst = some 99 := fact ho (by kernel_rfl)
    have t98 := tm_dep hF 3 98 (by kernel_rfl) (dep_of ho hdep 3 (by kernel_rfl))
    simp only [V17] at t98
    obtain ⟨W2, hr, hS2⟩ := hlx listed w hS hls hun (fun j hj => dep_of ho hdep j hj)
    unfold Oper.wp
    simp [execOp, hop, hds, Act.eval, t98, hr, Oper.upon, Act.put, V17, hS2]
  | 5, ho =>
    rw [if_pos (want_none (fact ho (by kernel_rfl)))]
    have hop : o.op = .move (.tmp 14) := fact ho (by kernel_rfl)
    have hds : o.dst = some 100 := fact ho (by kernel_rfl)
    have t14 := tm_old hF 14 _ h14 (by kernel_rfl)
    have hS2 := hmv 5 (by decide) listed w hS
    unfold Oper.wp
    simp [execOp, hop, hds, t14, go_sem, V17, hS2]
  | 6, ho =>
    rw [if_pos (want_none (fact ho (by kernel_rfl)))]
    have hop : o.op = .move (.tmp 15) := fact ho (by kernel_rfl)
    have hds : o.dst = some 101 := fact ho (by kernel_rfl)
    have t15 := tm_old hF 15 _ h15 (by kernel_rfl)
    have hS2 := hmv 6 (by decide) listed w hS
    unfold Oper.wp
    simp [execOp, hop, hds, t15, go_sem, V17, hS2]
  | 7, ho =>
    rw [if_pos (want_none (fact ho (by kernel_rfl)))]
    have hop : o.op = .indexAddr 26 (.tmp 100) (.tmp 101) := fact ho (by kernel_rfl)
    have hds : o.dst = some 102 := fact ho (by kernel_rfl)
    have t100 := tm_dep hF 5 100 (by kernel_rfl) (dep_of ho hdep 5 (by kernel_rfl))
    simp only [V17] at t100
    have t101 := tm_dep hF 6 101 (by kernel_rfl) (dep_of ho hdep 6 (by kernel_rfl))
    simp only [V17] at t101
    have hS2 := hmv 7 (by decide) listed w hS
    unfold Oper.wp
    simp [execOp, hop, hds, t100, t101, hq0, hq1, go_sem, V17, hS2]
  | 8, ho =>
    rw [if_pos (want_none (fact ho (by kernel_rfl)))]
    have hop : o.op = .load 25 (.tmp 102) := fact ho (by kernel_rfl)
    have hds : o.dst = some 103 := fact ho (by kernel_rfl)
    have t102 := tm_dep hF 7 102 (by kernel_rfl) (dep_of ho hdep 7 (by kernel_rfl))
    simp only [V17] at t102
    obtain ⟨W2, hr, hS2⟩ := hly listed w hS hls hun (fun j hj => dep_of ho hdep j hj)
    unfold Oper.wp
    simp [execOp, hop, hds, Act.eval, t102, hr, Oper.upon, Act.put, V17, hS2]
  | 9, ho =>
    rw [if_pos (want_none (fact ho (by kernel_rfl)))]
    have hop : o.op = .call { callee := .value (.func 5), args := #[.tmp 99, .tmp 103], argTypes := #[25, 25] } := fact ho (by kernel_rfl)
    have hds : o.dst = some 104 := fact ho (by kernel_rfl)
    have t99 := tm_dep hF 4 99 (by kernel_rfl) (dep_of ho hdep 4 (by kernel_rfl))
    simp only [V17] at t99
    have t103 := tm_dep hF 8 103 (by kernel_rfl) (dep_of ho hdep 8 (by kernel_rfl))
    simp only [V17] at t103
    unfold Oper.wp
    simp [execOp, hop, hds, t99, t103, go_sem, V17]
    refine (hc5 listed w hS hls hun (fun j hj => dep_of ho hdep j hj)).mono ?_
    rintro e w' ⟨rfl, hS'⟩
    exact ⟨rfl, hS'⟩
  | 10, ho =>
    rw [if_pos (want_none (fact ho (by kernel_rfl)))]
    have hop : o.op = .binOp .geq 3 (.tmp 104) (.const (.int .i64 0)) 3 := fact ho (by kernel_rfl)
    have hds : o.dst = some 105 := fact ho (by kernel_rfl)
    have t104 := tm_dep hF 9 104 (by kernel_rfl) (dep_of ho hdep 9 (by kernel_rfl))
    simp only [V17] at t104
    have hS2 := hmv 10 (by decide) listed w hS
    unfold Oper.wp
    simp [execOp, hop, hds, t104, go_sem, V17, hS2]
  | n + 11, ho =>
    exfalso
    have h1 : n + 11 < reg17.size := (Array.getElem?_eq_some_iff.1 ho).1
    rw [show reg17.size = 11 from by kernel_rfl] at h1
    omega
set_option maxRecDepth 100000 in
theorem put17 (X : Nat → Value) (v0 v1 v2 v3 v4 v5 v6 v7 v8 v9 v10 v11 v12 v13 v14 v15 v16 v17 v18 v19 v20 v21 v22 v23 v24 v25 v26 v27 v28 v29 v30 v31 v32 v33 v34 v35 v36 v37 v38 v39 v40 v41 v42 v43 v44 v45 v46 v47 v48 v49 v50 v51 v52 v53 v54 v55 v56 v57 v58 v59 v60 v61 v62 v63 v64 v65 v66 v67 v68 v69 v70 v71 v72 v73 v74 v75 v76 v77 v78 v79 v80 v81 v82 v83 v84 v85 v86 v87 v88 v89 v90 v91 v92 v93 v94 v95 v96 v97 v98 v99 v100 v101 v102 v103 v104 v105 v106 v107 v108 v109 v110 v111 v112 v113 : Value) : putN reg17 X ⟨#[v0, v1, v2, v3, v4, v5, v6, v7, v8, v9, v10, v11, v12, v13, v14, v15, v16, v17, v18, v19, v20, v21, v22, v23, v24, v25, v26, v27, v28, v29, v30, v31, v32, v33, v34, v35, v36, v37, v38, v39, v40, v41, v42, v43, v44, v45, v46, v47, v48, v49, v50, v51, v52, v53, v54, v55, v56, v57, v58, v59, v60, v61, v62, v63, v64, v65, v66, v67, v68, v69, v70, v71, v72, v73, v74, v75, v76, v77, v78, v79, v80, v81, v82, v83, v84, v85, v86, v87, v88, v89, v90, v91, v92, v93, v94, v95, v96, v97, v98, v99, v100, v101, v102, v103, v104, v105, v106, v107, v108, v109, v110, v111, v112, v113], []⟩ reg17.size = ⟨#[v0, v1, v2, v3, v4, v5, v6, v7, v8, v9, v10, v11, v12, v13, v14, v15, v16, v17, v18, v19, v20, v21, v22, v23, v24, v25, v26, v27, v28, v29, v30, v31, v32, v33, v34, v35, v36, v37, v38, v39, v40, v41, v42, v43, v44, v45, v46, v47, v48, v49, v50, v51, v52, v53, v54, v55, v56, v57, v58, v59, v60, v61, v62, v63, v64, v65, v66, v67, v68, v69, v70, v71, v72, v73, v74, v75, v76, v77, v78, v79, v80, v81, v82, v83, v84, v85, v86, v87, v88, v89, v90, v91, v92, v93, v94, X 0, X 1, X 2, X 3, X 4, X 5, X 6, X 7, X 8, X 9, X 10, v106, v107, v108, v109, v110, v111, v112, v113], []⟩ := by kernel_rfl
end Go.Proofs.YthbjlhafagcidaaDoor
