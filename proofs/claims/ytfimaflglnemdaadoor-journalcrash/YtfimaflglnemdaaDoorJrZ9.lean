/- The operations of Replay's region 9, each by its value. Made by a program. -/
import Derived.Test.YtfimaflglnemdaaDoorJr9
namespace Go.Proofs.YtfimaflglnemdaaDoor
open Go.RowKit
noncomputable def reg9r : Array Oper := ((Tryd.f28.body.bind (findR 9)).getD #[])
theorem okR9r : okR reg9r 72 = true := by kernel_rfl
def V9r (_sb bb n en fl : Nat) : Nat → Value
  | 0 => .agg #[.int .i64 0, .int .i64 0, .int .i64 0, .int .i64 0, .slice none 0 0, .slice none 0 0]
  | 1 => .pointer (some ⟨bb, 1, none⟩)
  | 2 => .int .i64 (n : Int)
  | 3 => .int .i64 (en : Int)
  | 4 => .int .i64 (fl : Int)
  | 5 => .pointer (some ⟨bb, 1, none⟩)
  | 6 => .int .i64 (n : Int)
  | 8 => .int .i64 (en : Int)
  | 9 => .int .i64 (fl : Int)
  | 10 => .int .i64 (n : Int)
  | _ => undef
set_option maxRecDepth 100000 in
set_option maxHeartbeats 1000000 in
theorem step9r (a0 : Act) (sb bb n en fl : Nat) (S : Array Bool → World → Prop) (Q : Exit → Act → World → Prop) (h2 : a0.tmps[2]? = some (.pointer (some ⟨sb, 0, none⟩))) (h7 : a0.tmps[7]? = some (.int .i64 (fl : Int))) (h10 : a0.tmps[10]? = some (.pointer (some ⟨bb, 0, none⟩)))
    (hmv : ∀ i : Nat, decide (i < 11) = true → ∀ listed W, S listed W → S (listed.setIfInBounds i true) W) (hc3 : ∀ listed W, S listed W → listed.size = reg9r.size → listed.getD 3 true = false → (∀ j, ((reg9r[3]?).map fun o => o.after.any fun e => Region.binds .any e && e.on == j) = some true → listed.getD j false = true) → Calls Tryd.prog 57 #[.int .i64 (n : Int)] W fun e w' => e = .returned (.int .i64 (en : Int)) ∧ S (listed.setIfInBounds 3 true) w') (hl2 : ∀ listed W, S listed W → listed.size = reg9r.size → listed.getD 2 true = false → (∀ j, ((reg9r[2]?).map fun o => o.after.any fun e => Region.binds .any e && e.on == j) = some true → listed.getD j false = true) → ∃ W2, (Instr.loadAt 3 (.pointer (some ⟨bb, 1, none⟩))).run Tryd.prog W = .ok (.int .i64 (n : Int)) W2 ∧ S (listed.setIfInBounds 2 true) W2) (hl6 : ∀ listed W, S listed W → listed.size = reg9r.size → listed.getD 6 true = false → (∀ j, ((reg9r[6]?).map fun o => o.after.any fun e => Region.binds .any e && e.on == j) = some true → listed.getD j false = true) → ∃ W2, (Instr.loadAt 3 (.pointer (some ⟨bb, 1, none⟩))).run Tryd.prog W = .ok (.int .i64 (n : Int)) W2 ∧ S (listed.setIfInBounds 6 true) W2) (hb0 : ∀ listed W, S listed W → listed.size = reg9r.size → listed.getD 0 true = false → (∀ j, ((reg9r[0]?).map fun o => o.after.any fun e => Region.binds .any e && e.on == j) = some true → listed.getD j false = true) → ∃ W2, (Instr.build 47 #[]).run Tryd.prog W = .ok (.agg #[.int .i64 0, .int .i64 0, .int .i64 0, .int .i64 0, .slice none 0 0, .slice none 0 0]) W2 ∧ S (listed.setIfInBounds 0 true) W2) (ht7 : ∀ listed W, S listed W → listed.size = reg9r.size → listed.getD 7 true = false → (∀ j, ((reg9r[7]?).map fun o => o.after.any fun e => Region.binds .any e && e.on == j) = some true → listed.getD j false = true) → ∃ W2, (Instr.storeAt 47 (.pointer (some ⟨sb, 0, none⟩)) (.agg #[.int .i64 0, .int .i64 0, .int .i64 0, .int .i64 0, .slice none 0 0, .slice none 0 0])).run Tryd.prog W = .ok (()) W2 ∧ S (listed.setIfInBounds 7 true) W2)
    (i : Nat) (o : Oper) (a : Act) (w : World) (listed : Array Bool) (ho : reg9r[i]? = some o) (hF : RFr reg9r a0 (V9r sb bb n en fl) listed a) (hS : S listed w) (hls : listed.size = reg9r.size) (hun : listed.getD i true = false) (hdep : ∀ e ∈ o.after, Region.binds .any e = true → listed.getD e.on false = true) :
      if Region.wanted o (yielded reg9r a.tmps) = true then Oper.wp Tryd.prog o a w (fun a' w' => a' = a.put o.dst (V9r sb bb n en fl i) ∧ S (listed.setIfInBounds i true) w') Q else V9r sb bb n en fl i = undef ∧ S (listed.setIfInBounds i true) w := by
  match i, ho with
  | 0, ho =>
    rw [if_pos (want_none (fact ho (by kernel_rfl)))]
    have hop : o.op = .build 47 #[] := fact ho (by kernel_rfl)
    have hds : o.dst = some 32 := fact ho (by kernel_rfl)
    obtain ⟨W2, hr, hS2⟩ := hb0 listed w hS hls hun (fun j hj => dep_of ho hdep j hj)
    unfold Oper.wp
    simp [execOp, hop, hds, hr, Oper.upon, Act.put, V9r, hS2]
  | 1, ho =>
    rw [if_pos (want_none (fact ho (by kernel_rfl)))]
    have hop : o.op = .fieldAddr 112 (.tmp 10) 1 := fact ho (by kernel_rfl)
    have hds : o.dst = some 33 := fact ho (by kernel_rfl)
    have t10 := tm_old hF 10 _ h10 (by kernel_rfl)
    have hS2 := hmv 1 (by decide) listed w hS
    unfold Oper.wp
    simp [execOp, hop, hds, t10, go_sem, V9r, hS2]
  | 2, ho =>
    rw [if_pos (want_none (fact ho (by kernel_rfl)))]
    have hop : o.op = .load 3 (.tmp 33) := fact ho (by kernel_rfl)
    have hds : o.dst = some 34 := fact ho (by kernel_rfl)
    have t33 := tm_dep hF 1 33 (by kernel_rfl) (dep_of ho hdep 1 (by kernel_rfl))
    simp only [V9r] at t33
    obtain ⟨W2, hr, hS2⟩ := hl2 listed w hS hls hun (fun j hj => dep_of ho hdep j hj)
    unfold Oper.wp
    simp [execOp, hop, hds, Act.eval, t33, hr, Oper.upon, Act.put, V9r, hS2]
  | 3, ho =>
    rw [if_pos (want_none (fact ho (by kernel_rfl)))]
    have hop : o.op = .call { callee := .value (.func 57), args := #[.tmp 34], argTypes := #[3] } := fact ho (by kernel_rfl)
    have hds : o.dst = some 35 := fact ho (by kernel_rfl)
    have t34 := tm_dep hF 2 34 (by kernel_rfl) (dep_of ho hdep 2 (by kernel_rfl))
    simp only [V9r] at t34
    unfold Oper.wp
    simp [execOp, hop, hds, t34, go_sem, V9r]
    refine (hc3 listed w hS hls hun (fun j hj => dep_of ho hdep j hj)).mono ?_
    rintro e w' ⟨rfl, hS'⟩
    exact ⟨rfl, hS'⟩
  | 4, ho =>
    rw [if_pos (want_none (fact ho (by kernel_rfl)))]
    have hop : o.op = .move (.tmp 7) := fact ho (by kernel_rfl)
    have hds : o.dst = some 36 := fact ho (by kernel_rfl)
    have t7 := tm_old hF 7 _ h7 (by kernel_rfl)
    have hS2 := hmv 4 (by decide) listed w hS
    unfold Oper.wp
    simp [execOp, hop, hds, t7, go_sem, V9r, hS2]
  | 5, ho =>
    rw [if_pos (want_none (fact ho (by kernel_rfl)))]
    have hop : o.op = .fieldAddr 112 (.tmp 10) 1 := fact ho (by kernel_rfl)
    have hds : o.dst = some 37 := fact ho (by kernel_rfl)
    have t10 := tm_old hF 10 _ h10 (by kernel_rfl)
    have hS2 := hmv 5 (by decide) listed w hS
    unfold Oper.wp
    simp [execOp, hop, hds, t10, go_sem, V9r, hS2]
  | 6, ho =>
    rw [if_pos (want_none (fact ho (by kernel_rfl)))]
    have hop : o.op = .load 3 (.tmp 37) := fact ho (by kernel_rfl)
    have hds : o.dst = some 38 := fact ho (by kernel_rfl)
    have t37 := tm_dep hF 5 37 (by kernel_rfl) (dep_of ho hdep 5 (by kernel_rfl))
    simp only [V9r] at t37
    obtain ⟨W2, hr, hS2⟩ := hl6 listed w hS hls hun (fun j hj => dep_of ho hdep j hj)
    unfold Oper.wp
    simp [execOp, hop, hds, Act.eval, t37, hr, Oper.upon, Act.put, V9r, hS2]
  | 7, ho =>
    rw [if_pos (want_none (fact ho (by kernel_rfl)))]
    have hop : o.op = .store 47 (.tmp 2) (.tmp 32) := fact ho (by kernel_rfl)
    have hds : o.dst = none := fact ho (by kernel_rfl)
    have t2 := tm_old hF 2 _ h2 (by kernel_rfl)
    have t32 := tm_dep hF 0 32 (by kernel_rfl) (dep_of ho hdep 0 (by kernel_rfl))
    simp only [V9r] at t32
    obtain ⟨W2, hr, hS2⟩ := ht7 listed w hS hls hun (fun j hj => dep_of ho hdep j hj)
    unfold Oper.wp
    simp [execOp, hop, hds, Act.eval, t2, t32, hr, Oper.upon, Act.put, hS2]
  | 8, ho =>
    rw [if_pos (want_none (fact ho (by kernel_rfl)))]
    have hop : o.op = .assign (.tmp 35) := fact ho (by kernel_rfl)
    have hds : o.dst = some 3 := fact ho (by kernel_rfl)
    have t35 := tm_dep hF 3 35 (by kernel_rfl) (dep_of ho hdep 3 (by kernel_rfl))
    simp only [V9r] at t35
    have hS2 := hmv 8 (by decide) listed w hS
    unfold Oper.wp
    simp [execOp, hop, hds, t35, go_sem, V9r, hS2]
  | 9, ho =>
    rw [if_pos (want_none (fact ho (by kernel_rfl)))]
    have hop : o.op = .assign (.tmp 36) := fact ho (by kernel_rfl)
    have hds : o.dst = some 4 := fact ho (by kernel_rfl)
    have t36 := tm_dep hF 4 36 (by kernel_rfl) (dep_of ho hdep 4 (by kernel_rfl))
    simp only [V9r] at t36
    have hS2 := hmv 9 (by decide) listed w hS
    unfold Oper.wp
    simp [execOp, hop, hds, t36, go_sem, V9r, hS2]
  | 10, ho =>
    rw [if_pos (want_none (fact ho (by kernel_rfl)))]
    have hop : o.op = .assign (.tmp 38) := fact ho (by kernel_rfl)
    have hds : o.dst = some 5 := fact ho (by kernel_rfl)
    have t38 := tm_dep hF 6 38 (by kernel_rfl) (dep_of ho hdep 6 (by kernel_rfl))
    simp only [V9r] at t38
    have hS2 := hmv 10 (by decide) listed w hS
    unfold Oper.wp
    simp [execOp, hop, hds, t38, go_sem, V9r, hS2]
  | n + 11, ho =>
    exfalso
    have h1 : n + 11 < reg9r.size := (Array.getElem?_eq_some_iff.1 ho).1
    rw [show reg9r.size = 11 from by kernel_rfl] at h1
    omega
set_option maxRecDepth 100000 in
theorem put9r (X : Nat → Value) (v0 v1 v2 v3 v4 v5 v6 v7 v8 v9 v10 v11 v12 v13 v14 v15 v16 v17 v18 v19 v20 v21 v22 v23 v24 v25 v26 v27 v28 v29 v30 v31 v32 v33 v34 v35 v36 v37 v38 v39 v40 v41 v42 v43 v44 v45 v46 v47 v48 v49 v50 v51 v52 v53 v54 v55 v56 v57 v58 v59 v60 v61 v62 v63 v64 v65 v66 v67 v68 v69 v70 v71 : Value) : putN reg9r X ⟨#[v0, v1, v2, v3, v4, v5, v6, v7, v8, v9, v10, v11, v12, v13, v14, v15, v16, v17, v18, v19, v20, v21, v22, v23, v24, v25, v26, v27, v28, v29, v30, v31, v32, v33, v34, v35, v36, v37, v38, v39, v40, v41, v42, v43, v44, v45, v46, v47, v48, v49, v50, v51, v52, v53, v54, v55, v56, v57, v58, v59, v60, v61, v62, v63, v64, v65, v66, v67, v68, v69, v70, v71], []⟩ reg9r.size = ⟨#[v0, v1, v2, X 8, X 9, X 10, v6, v7, v8, v9, v10, v11, v12, v13, v14, v15, v16, v17, v18, v19, v20, v21, v22, v23, v24, v25, v26, v27, v28, v29, v30, v31, X 0, X 1, X 2, X 3, X 4, X 5, X 6, v39, v40, v41, v42, v43, v44, v45, v46, v47, v48, v49, v50, v51, v52, v53, v54, v55, v56, v57, v58, v59, v60, v61, v62, v63, v64, v65, v66, v67, v68, v69, v70, v71], []⟩ := by kernel_rfl
end Go.Proofs.YtfimaflglnemdaaDoor
