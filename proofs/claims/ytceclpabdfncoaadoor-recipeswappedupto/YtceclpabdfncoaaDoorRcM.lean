/- Recipes: the operations of the drawn regions of copyOf, each by its value. Made by a program. -/
import Derived.Test.YtceclpabdfncoaaDoorRcJb
namespace Go.Proofs.YtceclpabdfncoaaDoor.Re
open Go.RowKit
noncomputable def reg1 : Array Oper := ((Tryd.f14.body.bind (findR 1)).getD #[])
theorem ok_reg1 : okR reg1 43 = true := by kernel_rfl
def V1 (b : Nat) (u0 u1 u2 v0 v1 v2 : Value) : Nat → Value
  | 0 => .pointer (some ⟨b, 0, none⟩)
  | 1 => u0
  | 2 => v0
  | 3 => .pointer (some ⟨b, 1, none⟩)
  | 4 => u1
  | 5 => v1
  | 6 => .pointer (some ⟨b, 2, none⟩)
  | 7 => u2
  | 8 => v2
  | 9 => .pointer (some ⟨b, 0, none⟩)
  | 11 => .pointer (some ⟨b, 1, none⟩)
  | 13 => .pointer (some ⟨b, 2, none⟩)
  | _ => undef
set_option maxRecDepth 100000 in
set_option maxHeartbeats 1000000 in
theorem stepR1 (a0 : Act) (b : Nat) (u0 u1 u2 v0 v1 v2 : Value) (S : Array Bool → World → Prop) (Q : Exit → Act → World → Prop) (h1 : a0.tmps[1]? = some (.pointer (some ⟨b, 0, none⟩)))
    (hmv : ∀ i : Nat, (decide (i < 15) && decide (i ≠ 2) && decide (i ≠ 5) && decide (i ≠ 8) && decide (i ≠ 10) && decide (i ≠ 12) && decide (i ≠ 14)) = true → ∀ listed W, S listed W → S (listed.setIfInBounds i true) W) (hc2 : ∀ listed W, S listed W → listed.size = reg1.size → listed.getD 2 true = false → (∀ j, ((reg1[2]?).map fun o => o.after.any fun e => Region.binds .any e && e.on == j) = some true → listed.getD j false = true) → Calls Tryd.prog 25 #[u0] W fun e w' => e = .returned (v0) ∧ S (listed.setIfInBounds 2 true) w') (hc5 : ∀ listed W, S listed W → listed.size = reg1.size → listed.getD 5 true = false → (∀ j, ((reg1[5]?).map fun o => o.after.any fun e => Region.binds .any e && e.on == j) = some true → listed.getD j false = true) → Calls Tryd.prog 26 #[u1] W fun e w' => e = .returned (v1) ∧ S (listed.setIfInBounds 5 true) w') (hc8 : ∀ listed W, S listed W → listed.size = reg1.size → listed.getD 8 true = false → (∀ j, ((reg1[8]?).map fun o => o.after.any fun e => Region.binds .any e && e.on == j) = some true → listed.getD j false = true) → Calls Tryd.prog 27 #[u2] W fun e w' => e = .returned (v2) ∧ S (listed.setIfInBounds 8 true) w') (hl1 : ∀ listed W, S listed W → listed.size = reg1.size → listed.getD 1 true = false → (∀ j, ((reg1[1]?).map fun o => o.after.any fun e => Region.binds .any e && e.on == j) = some true → listed.getD j false = true) → ∃ W2, (Instr.loadAt 29 (.pointer (some ⟨b, 0, none⟩))).run Tryd.prog W = .ok (u0) W2 ∧ S (listed.setIfInBounds 1 true) W2) (hl4 : ∀ listed W, S listed W → listed.size = reg1.size → listed.getD 4 true = false → (∀ j, ((reg1[4]?).map fun o => o.after.any fun e => Region.binds .any e && e.on == j) = some true → listed.getD j false = true) → ∃ W2, (Instr.loadAt 30 (.pointer (some ⟨b, 1, none⟩))).run Tryd.prog W = .ok (u1) W2 ∧ S (listed.setIfInBounds 4 true) W2) (hl7 : ∀ listed W, S listed W → listed.size = reg1.size → listed.getD 7 true = false → (∀ j, ((reg1[7]?).map fun o => o.after.any fun e => Region.binds .any e && e.on == j) = some true → listed.getD j false = true) → ∃ W2, (Instr.loadAt 22 (.pointer (some ⟨b, 2, none⟩))).run Tryd.prog W = .ok (u2) W2 ∧ S (listed.setIfInBounds 7 true) W2) (hs10 : ∀ listed W, S listed W → listed.size = reg1.size → listed.getD 10 true = false → (∀ j, ((reg1[10]?).map fun o => o.after.any fun e => Region.binds .any e && e.on == j) = some true → listed.getD j false = true) → ∃ W2, (Instr.storeAt 29 (.pointer (some ⟨b, 0, none⟩)) (v0)).run Tryd.prog W = .ok (()) W2 ∧ S (listed.setIfInBounds 10 true) W2) (hs12 : ∀ listed W, S listed W → listed.size = reg1.size → listed.getD 12 true = false → (∀ j, ((reg1[12]?).map fun o => o.after.any fun e => Region.binds .any e && e.on == j) = some true → listed.getD j false = true) → ∃ W2, (Instr.storeAt 30 (.pointer (some ⟨b, 1, none⟩)) (v1)).run Tryd.prog W = .ok (()) W2 ∧ S (listed.setIfInBounds 12 true) W2) (hs14 : ∀ listed W, S listed W → listed.size = reg1.size → listed.getD 14 true = false → (∀ j, ((reg1[14]?).map fun o => o.after.any fun e => Region.binds .any e && e.on == j) = some true → listed.getD j false = true) → ∃ W2, (Instr.storeAt 22 (.pointer (some ⟨b, 2, none⟩)) (v2)).run Tryd.prog W = .ok (()) W2 ∧ S (listed.setIfInBounds 14 true) W2)
    (i : Nat) (o : Oper) (a : Act) (w : World) (listed : Array Bool) (ho : reg1[i]? = some o) (hF : RFr reg1 a0 (V1 b u0 u1 u2 v0 v1 v2) listed a) (hS : S listed w) (hls : listed.size = reg1.size) (hun : listed.getD i true = false) (hdep : ∀ e ∈ o.after, Region.binds .any e = true → listed.getD e.on false = true) :
      if Region.wanted o (yielded reg1 a.tmps) = true then Oper.wp Tryd.prog o a w (fun a' w' => a' = a.put o.dst (V1 b u0 u1 u2 v0 v1 v2 i) ∧ S (listed.setIfInBounds i true) w') Q else V1 b u0 u1 u2 v0 v1 v2 i = undef ∧ S (listed.setIfInBounds i true) w := by
  match i, ho with
  | 0, ho =>
    rw [if_pos (want_none (fact ho (by kernel_rfl)))]
    have hop : o.op = .fieldAddr 33 (.tmp 1) 0 := fact ho (by kernel_rfl)
    have hds : o.dst = some 5 := fact ho (by kernel_rfl)
    have t1 := tm_old hF 1 _ h1 (by kernel_rfl)
    have hS2 := hmv 0 (by decide) listed w hS
    unfold Oper.wp
    simp [execOp, hop, hds, t1, go_sem, V1, hS2]
  | 1, ho =>
    rw [if_pos (want_none (fact ho (by kernel_rfl)))]
    have hop : o.op = .load 29 (.tmp 5) := fact ho (by kernel_rfl)
    have hds : o.dst = some 6 := fact ho (by kernel_rfl)
    have t5 := tm_dep hF 0 5 (by kernel_rfl) (dep_of ho hdep 0 (by kernel_rfl))
    simp only [V1] at t5
    obtain ⟨W2, hr, hS2⟩ := hl1 listed w hS hls hun (fun j hj => dep_of ho hdep j hj)
    unfold Oper.wp
    simp [execOp, hop, hds, Act.eval, t5, hr, Oper.upon, Act.put, V1, hS2]
  | 2, ho =>
    rw [if_pos (want_none (fact ho (by kernel_rfl)))]
    have hop : o.op = .call { callee := .value (.func 25), args := #[.tmp 6], argTypes := #[29] } := fact ho (by kernel_rfl)
    have hds : o.dst = some 7 := fact ho (by kernel_rfl)
    have t6 := tm_dep hF 1 6 (by kernel_rfl) (dep_of ho hdep 1 (by kernel_rfl))
    simp only [V1] at t6
    unfold Oper.wp
    simp [execOp, hop, hds, t6, go_sem, V1]
    refine (hc2 listed w hS hls hun (fun j hj => dep_of ho hdep j hj)).mono ?_
    rintro e w' ⟨rfl, hS'⟩
    exact ⟨rfl, hS'⟩
  | 3, ho =>
    rw [if_pos (want_none (fact ho (by kernel_rfl)))]
    have hop : o.op = .fieldAddr 33 (.tmp 1) 1 := fact ho (by kernel_rfl)
    have hds : o.dst = some 8 := fact ho (by kernel_rfl)
    have t1 := tm_old hF 1 _ h1 (by kernel_rfl)
    have hS2 := hmv 3 (by decide) listed w hS
    unfold Oper.wp
    simp [execOp, hop, hds, t1, go_sem, V1, hS2]
  | 4, ho =>
    rw [if_pos (want_none (fact ho (by kernel_rfl)))]
    have hop : o.op = .load 30 (.tmp 8) := fact ho (by kernel_rfl)
    have hds : o.dst = some 9 := fact ho (by kernel_rfl)
    have t8 := tm_dep hF 3 8 (by kernel_rfl) (dep_of ho hdep 3 (by kernel_rfl))
    simp only [V1] at t8
    obtain ⟨W2, hr, hS2⟩ := hl4 listed w hS hls hun (fun j hj => dep_of ho hdep j hj)
    unfold Oper.wp
    simp [execOp, hop, hds, Act.eval, t8, hr, Oper.upon, Act.put, V1, hS2]
  | 5, ho =>
    rw [if_pos (want_none (fact ho (by kernel_rfl)))]
    have hop : o.op = .call { callee := .value (.func 26), args := #[.tmp 9], argTypes := #[30] } := fact ho (by kernel_rfl)
    have hds : o.dst = some 10 := fact ho (by kernel_rfl)
    have t9 := tm_dep hF 4 9 (by kernel_rfl) (dep_of ho hdep 4 (by kernel_rfl))
    simp only [V1] at t9
    unfold Oper.wp
    simp [execOp, hop, hds, t9, go_sem, V1]
    refine (hc5 listed w hS hls hun (fun j hj => dep_of ho hdep j hj)).mono ?_
    rintro e w' ⟨rfl, hS'⟩
    exact ⟨rfl, hS'⟩
  | 6, ho =>
    rw [if_pos (want_none (fact ho (by kernel_rfl)))]
    have hop : o.op = .fieldAddr 33 (.tmp 1) 2 := fact ho (by kernel_rfl)
    have hds : o.dst = some 11 := fact ho (by kernel_rfl)
    have t1 := tm_old hF 1 _ h1 (by kernel_rfl)
    have hS2 := hmv 6 (by decide) listed w hS
    unfold Oper.wp
    simp [execOp, hop, hds, t1, go_sem, V1, hS2]
  | 7, ho =>
    rw [if_pos (want_none (fact ho (by kernel_rfl)))]
    have hop : o.op = .load 22 (.tmp 11) := fact ho (by kernel_rfl)
    have hds : o.dst = some 12 := fact ho (by kernel_rfl)
    have t11 := tm_dep hF 6 11 (by kernel_rfl) (dep_of ho hdep 6 (by kernel_rfl))
    simp only [V1] at t11
    obtain ⟨W2, hr, hS2⟩ := hl7 listed w hS hls hun (fun j hj => dep_of ho hdep j hj)
    unfold Oper.wp
    simp [execOp, hop, hds, Act.eval, t11, hr, Oper.upon, Act.put, V1, hS2]
  | 8, ho =>
    rw [if_pos (want_none (fact ho (by kernel_rfl)))]
    have hop : o.op = .call { callee := .value (.func 27), args := #[.tmp 12], argTypes := #[22] } := fact ho (by kernel_rfl)
    have hds : o.dst = some 13 := fact ho (by kernel_rfl)
    have t12 := tm_dep hF 7 12 (by kernel_rfl) (dep_of ho hdep 7 (by kernel_rfl))
    simp only [V1] at t12
    unfold Oper.wp
    simp [execOp, hop, hds, t12, go_sem, V1]
    refine (hc8 listed w hS hls hun (fun j hj => dep_of ho hdep j hj)).mono ?_
    rintro e w' ⟨rfl, hS'⟩
    exact ⟨rfl, hS'⟩
  | 9, ho =>
    rw [if_pos (want_none (fact ho (by kernel_rfl)))]
    have hop : o.op = .fieldAddr 33 (.tmp 1) 0 := fact ho (by kernel_rfl)
    have hds : o.dst = some 14 := fact ho (by kernel_rfl)
    have t1 := tm_old hF 1 _ h1 (by kernel_rfl)
    have hS2 := hmv 9 (by decide) listed w hS
    unfold Oper.wp
    simp [execOp, hop, hds, t1, go_sem, V1, hS2]
  | 10, ho =>
    rw [if_pos (want_none (fact ho (by kernel_rfl)))]
    have hop : o.op = .store 29 (.tmp 14) (.tmp 7) := fact ho (by kernel_rfl)
    have hds : o.dst = none := fact ho (by kernel_rfl)
    have t14 := tm_dep hF 9 14 (by kernel_rfl) (dep_of ho hdep 9 (by kernel_rfl))
    simp only [V1] at t14
    have t7 := tm_dep hF 2 7 (by kernel_rfl) (dep_of ho hdep 2 (by kernel_rfl))
    simp only [V1] at t7
    obtain ⟨W2, hr, hS2⟩ := hs10 listed w hS hls hun (fun j hj => dep_of ho hdep j hj)
    unfold Oper.wp
    simp [execOp, hop, hds, Act.eval, t14, t7, hr, Oper.upon, Act.put, hS2]
  | 11, ho =>
    rw [if_pos (want_none (fact ho (by kernel_rfl)))]
    have hop : o.op = .fieldAddr 33 (.tmp 1) 1 := fact ho (by kernel_rfl)
    have hds : o.dst = some 15 := fact ho (by kernel_rfl)
    have t1 := tm_old hF 1 _ h1 (by kernel_rfl)
    have hS2 := hmv 11 (by decide) listed w hS
    unfold Oper.wp
    simp [execOp, hop, hds, t1, go_sem, V1, hS2]
  | 12, ho =>
    rw [if_pos (want_none (fact ho (by kernel_rfl)))]
    have hop : o.op = .store 30 (.tmp 15) (.tmp 10) := fact ho (by kernel_rfl)
    have hds : o.dst = none := fact ho (by kernel_rfl)
    have t15 := tm_dep hF 11 15 (by kernel_rfl) (dep_of ho hdep 11 (by kernel_rfl))
    simp only [V1] at t15
    have t10 := tm_dep hF 5 10 (by kernel_rfl) (dep_of ho hdep 5 (by kernel_rfl))
    simp only [V1] at t10
    obtain ⟨W2, hr, hS2⟩ := hs12 listed w hS hls hun (fun j hj => dep_of ho hdep j hj)
    unfold Oper.wp
    simp [execOp, hop, hds, Act.eval, t15, t10, hr, Oper.upon, Act.put, hS2]
  | 13, ho =>
    rw [if_pos (want_none (fact ho (by kernel_rfl)))]
    have hop : o.op = .fieldAddr 33 (.tmp 1) 2 := fact ho (by kernel_rfl)
    have hds : o.dst = some 16 := fact ho (by kernel_rfl)
    have t1 := tm_old hF 1 _ h1 (by kernel_rfl)
    have hS2 := hmv 13 (by decide) listed w hS
    unfold Oper.wp
    simp [execOp, hop, hds, t1, go_sem, V1, hS2]
  | 14, ho =>
    rw [if_pos (want_none (fact ho (by kernel_rfl)))]
    have hop : o.op = .store 22 (.tmp 16) (.tmp 13) := fact ho (by kernel_rfl)
    have hds : o.dst = none := fact ho (by kernel_rfl)
    have t16 := tm_dep hF 13 16 (by kernel_rfl) (dep_of ho hdep 13 (by kernel_rfl))
    simp only [V1] at t16
    have t13 := tm_dep hF 8 13 (by kernel_rfl) (dep_of ho hdep 8 (by kernel_rfl))
    simp only [V1] at t13
    obtain ⟨W2, hr, hS2⟩ := hs14 listed w hS hls hun (fun j hj => dep_of ho hdep j hj)
    unfold Oper.wp
    simp [execOp, hop, hds, Act.eval, t16, t13, hr, Oper.upon, Act.put, hS2]
  | n + 15, ho =>
    exfalso
    have h1 : n + 15 < reg1.size := (Array.getElem?_eq_some_iff.1 ho).1
    rw [show reg1.size = 15 from by kernel_rfl] at h1
    omega
set_option maxRecDepth 100000 in
theorem putR1 (X : Nat → Value) (v0 v1 v2 v3 v4 v5 v6 v7 v8 v9 v10 v11 v12 v13 v14 v15 v16 v17 v18 v19 v20 v21 v22 v23 v24 v25 v26 v27 v28 v29 v30 v31 v32 v33 v34 v35 v36 v37 v38 v39 v40 v41 v42 : Value) : putN reg1 X ⟨#[v0, v1, v2, v3, v4, v5, v6, v7, v8, v9, v10, v11, v12, v13, v14, v15, v16, v17, v18, v19, v20, v21, v22, v23, v24, v25, v26, v27, v28, v29, v30, v31, v32, v33, v34, v35, v36, v37, v38, v39, v40, v41, v42], []⟩ reg1.size = ⟨#[v0, v1, v2, v3, v4, X 0, X 1, X 2, X 3, X 4, X 5, X 6, X 7, X 8, X 9, X 11, X 13, v17, v18, v19, v20, v21, v22, v23, v24, v25, v26, v27, v28, v29, v30, v31, v32, v33, v34, v35, v36, v37, v38, v39, v40, v41, v42], []⟩ := by kernel_rfl
noncomputable def reg2 : Array Oper := ((Tryd.f14.body.bind (findR 2)).getD #[])
theorem ok_reg2 : okR reg2 43 = true := by kernel_rfl
def V2 (b : Nat) (u0 u1 v0 v1 : Value) : Nat → Value
  | 0 => .pointer (some ⟨b, 5, none⟩)
  | 1 => u0
  | 2 => v0
  | 3 => .pointer (some ⟨b, 6, none⟩)
  | 4 => u1
  | 5 => v1
  | 6 => .pointer (some ⟨b, 5, none⟩)
  | 8 => .pointer (some ⟨b, 6, none⟩)
  | _ => undef
set_option maxRecDepth 100000 in
set_option maxHeartbeats 1000000 in
theorem stepR2 (a0 : Act) (b : Nat) (u0 u1 v0 v1 : Value) (S : Array Bool → World → Prop) (Q : Exit → Act → World → Prop) (h1 : a0.tmps[1]? = some (.pointer (some ⟨b, 0, none⟩)))
    (hmv : ∀ i : Nat, (decide (i < 10) && decide (i ≠ 2) && decide (i ≠ 5) && decide (i ≠ 7) && decide (i ≠ 9)) = true → ∀ listed W, S listed W → S (listed.setIfInBounds i true) W) (hc2 : ∀ listed W, S listed W → listed.size = reg2.size → listed.getD 2 true = false → (∀ j, ((reg2[2]?).map fun o => o.after.any fun e => Region.binds .any e && e.on == j) = some true → listed.getD j false = true) → Calls Tryd.prog 27 #[u0] W fun e w' => e = .returned (v0) ∧ S (listed.setIfInBounds 2 true) w') (hc5 : ∀ listed W, S listed W → listed.size = reg2.size → listed.getD 5 true = false → (∀ j, ((reg2[5]?).map fun o => o.after.any fun e => Region.binds .any e && e.on == j) = some true → listed.getD j false = true) → Calls Tryd.prog 28 #[u1] W fun e w' => e = .returned (v1) ∧ S (listed.setIfInBounds 5 true) w') (hl1 : ∀ listed W, S listed W → listed.size = reg2.size → listed.getD 1 true = false → (∀ j, ((reg2[1]?).map fun o => o.after.any fun e => Region.binds .any e && e.on == j) = some true → listed.getD j false = true) → ∃ W2, (Instr.loadAt 22 (.pointer (some ⟨b, 5, none⟩))).run Tryd.prog W = .ok (u0) W2 ∧ S (listed.setIfInBounds 1 true) W2) (hl4 : ∀ listed W, S listed W → listed.size = reg2.size → listed.getD 4 true = false → (∀ j, ((reg2[4]?).map fun o => o.after.any fun e => Region.binds .any e && e.on == j) = some true → listed.getD j false = true) → ∃ W2, (Instr.loadAt 31 (.pointer (some ⟨b, 6, none⟩))).run Tryd.prog W = .ok (u1) W2 ∧ S (listed.setIfInBounds 4 true) W2) (hs7 : ∀ listed W, S listed W → listed.size = reg2.size → listed.getD 7 true = false → (∀ j, ((reg2[7]?).map fun o => o.after.any fun e => Region.binds .any e && e.on == j) = some true → listed.getD j false = true) → ∃ W2, (Instr.storeAt 22 (.pointer (some ⟨b, 5, none⟩)) (v0)).run Tryd.prog W = .ok (()) W2 ∧ S (listed.setIfInBounds 7 true) W2) (hs9 : ∀ listed W, S listed W → listed.size = reg2.size → listed.getD 9 true = false → (∀ j, ((reg2[9]?).map fun o => o.after.any fun e => Region.binds .any e && e.on == j) = some true → listed.getD j false = true) → ∃ W2, (Instr.storeAt 31 (.pointer (some ⟨b, 6, none⟩)) (v1)).run Tryd.prog W = .ok (()) W2 ∧ S (listed.setIfInBounds 9 true) W2)
    (i : Nat) (o : Oper) (a : Act) (w : World) (listed : Array Bool) (ho : reg2[i]? = some o) (hF : RFr reg2 a0 (V2 b u0 u1 v0 v1) listed a) (hS : S listed w) (hls : listed.size = reg2.size) (hun : listed.getD i true = false) (hdep : ∀ e ∈ o.after, Region.binds .any e = true → listed.getD e.on false = true) :
      if Region.wanted o (yielded reg2 a.tmps) = true then Oper.wp Tryd.prog o a w (fun a' w' => a' = a.put o.dst (V2 b u0 u1 v0 v1 i) ∧ S (listed.setIfInBounds i true) w') Q else V2 b u0 u1 v0 v1 i = undef ∧ S (listed.setIfInBounds i true) w := by
  match i, ho with
  | 0, ho =>
    rw [if_pos (want_none (fact ho (by kernel_rfl)))]
    have hop : o.op = .fieldAddr 33 (.tmp 1) 5 := fact ho (by kernel_rfl)
    have hds : o.dst = some 17 := fact ho (by kernel_rfl)
    have t1 := tm_old hF 1 _ h1 (by kernel_rfl)
    have hS2 := hmv 0 (by decide) listed w hS
    unfold Oper.wp
    simp [execOp, hop, hds, t1, go_sem, V2, hS2]
  | 1, ho =>
    rw [if_pos (want_none (fact ho (by kernel_rfl)))]
    have hop : o.op = .load 22 (.tmp 17) := fact ho (by kernel_rfl)
    have hds : o.dst = some 18 := fact ho (by kernel_rfl)
    have t17 := tm_dep hF 0 17 (by kernel_rfl) (dep_of ho hdep 0 (by kernel_rfl))
    simp only [V2] at t17
    obtain ⟨W2, hr, hS2⟩ := hl1 listed w hS hls hun (fun j hj => dep_of ho hdep j hj)
    unfold Oper.wp
    simp [execOp, hop, hds, Act.eval, t17, hr, Oper.upon, Act.put, V2, hS2]
  | 2, ho =>
    rw [if_pos (want_none (fact ho (by kernel_rfl)))]
    have hop : o.op = .call { callee := .value (.func 27), args := #[.tmp 18], argTypes := #[22] } := fact ho (by kernel_rfl)
    have hds : o.dst = some 19 := fact ho (by kernel_rfl)
    have t18 := tm_dep hF 1 18 (by kernel_rfl) (dep_of ho hdep 1 (by kernel_rfl))
    simp only [V2] at t18
    unfold Oper.wp
    simp [execOp, hop, hds, t18, go_sem, V2]
    refine (hc2 listed w hS hls hun (fun j hj => dep_of ho hdep j hj)).mono ?_
    rintro e w' ⟨rfl, hS'⟩
    exact ⟨rfl, hS'⟩
  | 3, ho =>
    rw [if_pos (want_none (fact ho (by kernel_rfl)))]
    have hop : o.op = .fieldAddr 33 (.tmp 1) 6 := fact ho (by kernel_rfl)
    have hds : o.dst = some 20 := fact ho (by kernel_rfl)
    have t1 := tm_old hF 1 _ h1 (by kernel_rfl)
    have hS2 := hmv 3 (by decide) listed w hS
    unfold Oper.wp
    simp [execOp, hop, hds, t1, go_sem, V2, hS2]
  | 4, ho =>
    rw [if_pos (want_none (fact ho (by kernel_rfl)))]
    have hop : o.op = .load 31 (.tmp 20) := fact ho (by kernel_rfl)
    have hds : o.dst = some 21 := fact ho (by kernel_rfl)
    have t20 := tm_dep hF 3 20 (by kernel_rfl) (dep_of ho hdep 3 (by kernel_rfl))
    simp only [V2] at t20
    obtain ⟨W2, hr, hS2⟩ := hl4 listed w hS hls hun (fun j hj => dep_of ho hdep j hj)
    unfold Oper.wp
    simp [execOp, hop, hds, Act.eval, t20, hr, Oper.upon, Act.put, V2, hS2]
  | 5, ho =>
    rw [if_pos (want_none (fact ho (by kernel_rfl)))]
    have hop : o.op = .call { callee := .value (.func 28), args := #[.tmp 21], argTypes := #[31] } := fact ho (by kernel_rfl)
    have hds : o.dst = some 22 := fact ho (by kernel_rfl)
    have t21 := tm_dep hF 4 21 (by kernel_rfl) (dep_of ho hdep 4 (by kernel_rfl))
    simp only [V2] at t21
    unfold Oper.wp
    simp [execOp, hop, hds, t21, go_sem, V2]
    refine (hc5 listed w hS hls hun (fun j hj => dep_of ho hdep j hj)).mono ?_
    rintro e w' ⟨rfl, hS'⟩
    exact ⟨rfl, hS'⟩
  | 6, ho =>
    rw [if_pos (want_none (fact ho (by kernel_rfl)))]
    have hop : o.op = .fieldAddr 33 (.tmp 1) 5 := fact ho (by kernel_rfl)
    have hds : o.dst = some 23 := fact ho (by kernel_rfl)
    have t1 := tm_old hF 1 _ h1 (by kernel_rfl)
    have hS2 := hmv 6 (by decide) listed w hS
    unfold Oper.wp
    simp [execOp, hop, hds, t1, go_sem, V2, hS2]
  | 7, ho =>
    rw [if_pos (want_none (fact ho (by kernel_rfl)))]
    have hop : o.op = .store 22 (.tmp 23) (.tmp 19) := fact ho (by kernel_rfl)
    have hds : o.dst = none := fact ho (by kernel_rfl)
    have t23 := tm_dep hF 6 23 (by kernel_rfl) (dep_of ho hdep 6 (by kernel_rfl))
    simp only [V2] at t23
    have t19 := tm_dep hF 2 19 (by kernel_rfl) (dep_of ho hdep 2 (by kernel_rfl))
    simp only [V2] at t19
    obtain ⟨W2, hr, hS2⟩ := hs7 listed w hS hls hun (fun j hj => dep_of ho hdep j hj)
    unfold Oper.wp
    simp [execOp, hop, hds, Act.eval, t23, t19, hr, Oper.upon, Act.put, hS2]
  | 8, ho =>
    rw [if_pos (want_none (fact ho (by kernel_rfl)))]
    have hop : o.op = .fieldAddr 33 (.tmp 1) 6 := fact ho (by kernel_rfl)
    have hds : o.dst = some 24 := fact ho (by kernel_rfl)
    have t1 := tm_old hF 1 _ h1 (by kernel_rfl)
    have hS2 := hmv 8 (by decide) listed w hS
    unfold Oper.wp
    simp [execOp, hop, hds, t1, go_sem, V2, hS2]
  | 9, ho =>
    rw [if_pos (want_none (fact ho (by kernel_rfl)))]
    have hop : o.op = .store 31 (.tmp 24) (.tmp 22) := fact ho (by kernel_rfl)
    have hds : o.dst = none := fact ho (by kernel_rfl)
    have t24 := tm_dep hF 8 24 (by kernel_rfl) (dep_of ho hdep 8 (by kernel_rfl))
    simp only [V2] at t24
    have t22 := tm_dep hF 5 22 (by kernel_rfl) (dep_of ho hdep 5 (by kernel_rfl))
    simp only [V2] at t22
    obtain ⟨W2, hr, hS2⟩ := hs9 listed w hS hls hun (fun j hj => dep_of ho hdep j hj)
    unfold Oper.wp
    simp [execOp, hop, hds, Act.eval, t24, t22, hr, Oper.upon, Act.put, hS2]
  | n + 10, ho =>
    exfalso
    have h1 : n + 10 < reg2.size := (Array.getElem?_eq_some_iff.1 ho).1
    rw [show reg2.size = 10 from by kernel_rfl] at h1
    omega
set_option maxRecDepth 100000 in
theorem putR2 (X : Nat → Value) (v0 v1 v2 v3 v4 v5 v6 v7 v8 v9 v10 v11 v12 v13 v14 v15 v16 v17 v18 v19 v20 v21 v22 v23 v24 v25 v26 v27 v28 v29 v30 v31 v32 v33 v34 v35 v36 v37 v38 v39 v40 v41 v42 : Value) : putN reg2 X ⟨#[v0, v1, v2, v3, v4, v5, v6, v7, v8, v9, v10, v11, v12, v13, v14, v15, v16, v17, v18, v19, v20, v21, v22, v23, v24, v25, v26, v27, v28, v29, v30, v31, v32, v33, v34, v35, v36, v37, v38, v39, v40, v41, v42], []⟩ reg2.size = ⟨#[v0, v1, v2, v3, v4, v5, v6, v7, v8, v9, v10, v11, v12, v13, v14, v15, v16, X 0, X 1, X 2, X 3, X 4, X 5, X 6, X 8, v25, v26, v27, v28, v29, v30, v31, v32, v33, v34, v35, v36, v37, v38, v39, v40, v41, v42], []⟩ := by kernel_rfl
noncomputable def reg6 : Array Oper := ((Tryd.f14.body.bind (findR 6)).getD #[])
theorem ok_reg6 : okR reg6 43 = true := by kernel_rfl
def V6 (b x g n c q : Nat) (u0 v0 : Value) : Nat → Value
  | 0 => .pointer (some ⟨b, 1, none⟩)
  | 1 => .slice (some ⟨g, 0, none⟩) n c
  | 2 => .int .i64 (q : Int)
  | 3 => .pointer (some ⟨x, 1, none⟩)
  | 4 => u0
  | 5 => v0
  | 6 => .pointer (some ⟨g, q * 2, none⟩)
  | 7 => .pointer (some ⟨g, q * 2 + 1, none⟩)
  | _ => undef
set_option maxRecDepth 100000 in
set_option maxHeartbeats 1000000 in
theorem stepR6 (a0 : Act) (b x g n c q : Nat) (u0 v0 : Value) (S : Array Bool → World → Prop) (Q : Exit → Act → World → Prop) (h1 : a0.tmps[1]? = some (.pointer (some ⟨b, 0, none⟩))) (h3 : a0.tmps[3]? = some (.int .i64 (q : Int))) (h4 : a0.tmps[4]? = some (.pointer (some ⟨x, 0, none⟩)))
    (hmv : ∀ i : Nat, (decide (i < 9) && decide (i ≠ 5) && decide (i ≠ 8)) = true → ∀ listed W, S listed W → S (listed.setIfInBounds i true) W) (hc5 : ∀ listed W, S listed W → listed.size = reg6.size → listed.getD 5 true = false → (∀ j, ((reg6[5]?).map fun o => o.after.any fun e => Region.binds .any e && e.on == j) = some true → listed.getD j false = true) → Calls Tryd.prog 27 #[u0] W fun e w' => e = .returned (v0) ∧ S (listed.setIfInBounds 5 true) w') (hl1 : ∀ listed W, S listed W → listed.size = reg6.size → listed.getD 1 true = false → (∀ j, ((reg6[1]?).map fun o => o.after.any fun e => Region.binds .any e && e.on == j) = some true → listed.getD j false = true) → ∃ W2, (Instr.loadAt 30 (.pointer (some ⟨b, 1, none⟩))).run Tryd.prog W = .ok (.slice (some ⟨g, 0, none⟩) n c) W2 ∧ S (listed.setIfInBounds 1 true) W2) (hl4 : ∀ listed W, S listed W → listed.size = reg6.size → listed.getD 4 true = false → (∀ j, ((reg6[4]?).map fun o => o.after.any fun e => Region.binds .any e && e.on == j) = some true → listed.getD j false = true) → ∃ W2, (Instr.loadAt 22 (.pointer (some ⟨x, 1, none⟩))).run Tryd.prog W = .ok (u0) W2 ∧ S (listed.setIfInBounds 4 true) W2) (hs8 : ∀ listed W, S listed W → listed.size = reg6.size → listed.getD 8 true = false → (∀ j, ((reg6[8]?).map fun o => o.after.any fun e => Region.binds .any e && e.on == j) = some true → listed.getD j false = true) → ∃ W2, (Instr.storeAt 22 (.pointer (some ⟨g, q * 2 + 1, none⟩)) (v0)).run Tryd.prog W = .ok (()) W2 ∧ S (listed.setIfInBounds 8 true) W2) (hi0 : (0 : Int) ≤ (q : Int)) (hi1 : (q : Int) < (n : Int))
    (i : Nat) (o : Oper) (a : Act) (w : World) (listed : Array Bool) (ho : reg6[i]? = some o) (hF : RFr reg6 a0 (V6 b x g n c q u0 v0) listed a) (hS : S listed w) (hls : listed.size = reg6.size) (hun : listed.getD i true = false) (hdep : ∀ e ∈ o.after, Region.binds .any e = true → listed.getD e.on false = true) :
      if Region.wanted o (yielded reg6 a.tmps) = true then Oper.wp Tryd.prog o a w (fun a' w' => a' = a.put o.dst (V6 b x g n c q u0 v0 i) ∧ S (listed.setIfInBounds i true) w') Q else V6 b x g n c q u0 v0 i = undef ∧ S (listed.setIfInBounds i true) w := by
  match i, ho with
  | 0, ho =>
    rw [if_pos (want_none (fact ho (by kernel_rfl)))]
    have hop : o.op = .fieldAddr 33 (.tmp 1) 1 := fact ho (by kernel_rfl)
    have hds : o.dst = some 33 := fact ho (by kernel_rfl)
    have t1 := tm_old hF 1 _ h1 (by kernel_rfl)
    have hS2 := hmv 0 (by decide) listed w hS
    unfold Oper.wp
    simp [execOp, hop, hds, t1, go_sem, V6, hS2]
  | 1, ho =>
    rw [if_pos (want_none (fact ho (by kernel_rfl)))]
    have hop : o.op = .load 30 (.tmp 33) := fact ho (by kernel_rfl)
    have hds : o.dst = some 34 := fact ho (by kernel_rfl)
    have t33 := tm_dep hF 0 33 (by kernel_rfl) (dep_of ho hdep 0 (by kernel_rfl))
    simp only [V6] at t33
    obtain ⟨W2, hr, hS2⟩ := hl1 listed w hS hls hun (fun j hj => dep_of ho hdep j hj)
    unfold Oper.wp
    simp [execOp, hop, hds, Act.eval, t33, hr, Oper.upon, Act.put, V6, hS2]
  | 2, ho =>
    rw [if_pos (want_none (fact ho (by kernel_rfl)))]
    have hop : o.op = .move (.tmp 3) := fact ho (by kernel_rfl)
    have hds : o.dst = some 35 := fact ho (by kernel_rfl)
    have t3 := tm_old hF 3 _ h3 (by kernel_rfl)
    have hS2 := hmv 2 (by decide) listed w hS
    unfold Oper.wp
    simp [execOp, hop, hds, t3, go_sem, V6, hS2]
  | 3, ho =>
    rw [if_pos (want_none (fact ho (by kernel_rfl)))]
    have hop : o.op = .fieldAddr 45 (.tmp 4) 1 := fact ho (by kernel_rfl)
    have hds : o.dst = some 36 := fact ho (by kernel_rfl)
    have t4 := tm_old hF 4 _ h4 (by kernel_rfl)
    have hS2 := hmv 3 (by decide) listed w hS
    unfold Oper.wp
    simp [execOp, hop, hds, t4, go_sem, V6, hS2]
  | 4, ho =>
    rw [if_pos (want_none (fact ho (by kernel_rfl)))]
    have hop : o.op = .load 22 (.tmp 36) := fact ho (by kernel_rfl)
    have hds : o.dst = some 37 := fact ho (by kernel_rfl)
    have t36 := tm_dep hF 3 36 (by kernel_rfl) (dep_of ho hdep 3 (by kernel_rfl))
    simp only [V6] at t36
    obtain ⟨W2, hr, hS2⟩ := hl4 listed w hS hls hun (fun j hj => dep_of ho hdep j hj)
    unfold Oper.wp
    simp [execOp, hop, hds, Act.eval, t36, hr, Oper.upon, Act.put, V6, hS2]
  | 5, ho =>
    rw [if_pos (want_none (fact ho (by kernel_rfl)))]
    have hop : o.op = .call { callee := .value (.func 27), args := #[.tmp 37], argTypes := #[22] } := fact ho (by kernel_rfl)
    have hds : o.dst = some 38 := fact ho (by kernel_rfl)
    have t37 := tm_dep hF 4 37 (by kernel_rfl) (dep_of ho hdep 4 (by kernel_rfl))
    simp only [V6] at t37
    unfold Oper.wp
    simp [execOp, hop, hds, t37, go_sem, V6]
    refine (hc5 listed w hS hls hun (fun j hj => dep_of ho hdep j hj)).mono ?_
    rintro e w' ⟨rfl, hS'⟩
    exact ⟨rfl, hS'⟩
  | 6, ho =>
    rw [if_pos (want_none (fact ho (by kernel_rfl)))]
    have hop : o.op = .indexAddr 30 (.tmp 34) (.tmp 35) := fact ho (by kernel_rfl)
    have hds : o.dst = some 39 := fact ho (by kernel_rfl)
    have t34 := tm_dep hF 1 34 (by kernel_rfl) (dep_of ho hdep 1 (by kernel_rfl))
    simp only [V6] at t34
    have t35 := tm_dep hF 2 35 (by kernel_rfl) (dep_of ho hdep 2 (by kernel_rfl))
    simp only [V6] at t35
    have hS2 := hmv 6 (by decide) listed w hS
    unfold Oper.wp
    simp [execOp, hop, hds, t34, t35, hi0, hi1, go_sem, V6, hS2]
  | 7, ho =>
    rw [if_pos (want_none (fact ho (by kernel_rfl)))]
    have hop : o.op = .fieldAddr 45 (.tmp 39) 1 := fact ho (by kernel_rfl)
    have hds : o.dst = some 40 := fact ho (by kernel_rfl)
    have t39 := tm_dep hF 6 39 (by kernel_rfl) (dep_of ho hdep 6 (by kernel_rfl))
    simp only [V6] at t39
    have hS2 := hmv 7 (by decide) listed w hS
    unfold Oper.wp
    simp [execOp, hop, hds, t39, go_sem, V6, hS2]
  | 8, ho =>
    rw [if_pos (want_none (fact ho (by kernel_rfl)))]
    have hop : o.op = .store 22 (.tmp 40) (.tmp 38) := fact ho (by kernel_rfl)
    have hds : o.dst = none := fact ho (by kernel_rfl)
    have t40 := tm_dep hF 7 40 (by kernel_rfl) (dep_of ho hdep 7 (by kernel_rfl))
    simp only [V6] at t40
    have t38 := tm_dep hF 5 38 (by kernel_rfl) (dep_of ho hdep 5 (by kernel_rfl))
    simp only [V6] at t38
    obtain ⟨W2, hr, hS2⟩ := hs8 listed w hS hls hun (fun j hj => dep_of ho hdep j hj)
    unfold Oper.wp
    simp [execOp, hop, hds, Act.eval, t40, t38, hr, Oper.upon, Act.put, hS2]
  | n + 9, ho =>
    exfalso
    have h1 : n + 9 < reg6.size := (Array.getElem?_eq_some_iff.1 ho).1
    rw [show reg6.size = 9 from by kernel_rfl] at h1
    omega
set_option maxRecDepth 100000 in
theorem putR6 (X : Nat → Value) (v0 v1 v2 v3 v4 v5 v6 v7 v8 v9 v10 v11 v12 v13 v14 v15 v16 v17 v18 v19 v20 v21 v22 v23 v24 v25 v26 v27 v28 v29 v30 v31 v32 v33 v34 v35 v36 v37 v38 v39 v40 v41 v42 : Value) : putN reg6 X ⟨#[v0, v1, v2, v3, v4, v5, v6, v7, v8, v9, v10, v11, v12, v13, v14, v15, v16, v17, v18, v19, v20, v21, v22, v23, v24, v25, v26, v27, v28, v29, v30, v31, v32, v33, v34, v35, v36, v37, v38, v39, v40, v41, v42], []⟩ reg6.size = ⟨#[v0, v1, v2, v3, v4, v5, v6, v7, v8, v9, v10, v11, v12, v13, v14, v15, v16, v17, v18, v19, v20, v21, v22, v23, v24, v25, v26, v27, v28, v29, v30, v31, v32, X 0, X 1, X 2, X 3, X 4, X 5, X 6, X 7, v41, v42], []⟩ := by kernel_rfl
end Go.Proofs.YtceclpabdfncoaaDoor.Re
