/- LabelOutputs: the operations of Call's drawn region, each by its value. -/
import Derived.Test.YtageaeebiopmbaaDoorLoS
namespace Go.Proofs.YtageaeebiopmbaaDoor
open Go.RowKit
noncomputable def reg8 : Array Oper := ((Tryd.f8.body.bind (findR 4)).getD #[])
theorem okR8 : okR reg8 22 = true := by kernel_rfl
def V8 (g B N c : Nat) (T n : ByteArray) (Z F : List Nat) : Nat → Value
  | 0 => .string T
  | 1 => .slice (some ⟨B, 0, none⟩) N c
  | 2 => .agg (bs Z)
  | 3 => .agg (bs F)
  | 4 => .pointer (some ⟨g, 37, none⟩)
  | 5 => .string n
  | 6 => .agg (lab F n)
  | 8 => .int .i64 0
  | _ => undef
set_option maxRecDepth 100000 in
set_option maxHeartbeats 1000000 in
theorem step8 (a0 : Act) (r : Nat) (g B N c : Nat) (T n : ByteArray) (Z F : List Nat) (S : Array Bool → World → Prop) (Q : Exit → Act → World → Prop) (h1 : a0.tmps[1]? = some (.pointer (some ⟨g, 0, none⟩))) (h4 : a0.tmps[4]? = some (.string T)) (h2 : a0.tmps[2]? = some (.pointer (some ⟨r, 0, none⟩)))
    (hmv : ∀ i : Nat, decide (i ≠ 1 ∧ i ≠ 2 ∧ i ≠ 7) = true → ∀ listed W, S listed W → S (listed.setIfInBounds i true) W) (hc14 : ∀ listed W, S listed W → listed.size = reg8.size → listed.getD 2 true = false → (∀ j, ((reg8[2]?).map fun o => o.after.any fun e => Region.binds .any e && e.on == j) = some true → listed.getD j false = true) → Calls Tryd.prog 14 #[.slice (some ⟨B, 0, none⟩) N c] W fun e w' => e = .returned (.agg (bs Z)) ∧ S (listed.setIfInBounds 2 true) w') (hc13 : ∀ listed W, S listed W → listed.size = reg8.size → listed.getD 3 true = false → (∀ j, ((reg8[3]?).map fun o => o.after.any fun e => Region.binds .any e && e.on == j) = some true → listed.getD j false = true) → Calls Tryd.prog 13 #[.agg (bs Z)] W fun e w' => e = .returned (.agg (bs F)) ∧ S (listed.setIfInBounds 3 true) w') (hcv : ∀ listed W, S listed W → listed.size = reg8.size → listed.getD 1 true = false → (∀ j, ((reg8[1]?).map fun o => o.after.any fun e => Region.binds .any e && e.on == j) = some true → listed.getD j false = true) → ∃ W2, (convert 9 48 (.string T)).run Tryd.prog W = .ok (.slice (some ⟨B, 0, none⟩) N c) W2 ∧ S (listed.setIfInBounds 1 true) W2) (hln : ∀ listed W, S listed W → listed.size = reg8.size → listed.getD 5 true = false → (∀ j, ((reg8[5]?).map fun o => o.after.any fun e => Region.binds .any e && e.on == j) = some true → listed.getD j false = true) → ∃ W2, (Instr.loadAt 9 (.pointer (some ⟨g, 37, none⟩))).run Tryd.prog W = .ok (.string n) W2 ∧ S (listed.setIfInBounds 5 true) W2) (hbu : ∀ listed W, S listed W → listed.size = reg8.size → listed.getD 6 true = false → (∀ j, ((reg8[6]?).map fun o => o.after.any fun e => Region.binds .any e && e.on == j) = some true → listed.getD j false = true) → ∃ W2, (Instr.build 27 #[(0, .agg (bs F)), (1, .string n)]).run Tryd.prog W = .ok (.agg (lab F n)) W2 ∧ S (listed.setIfInBounds 6 true) W2) (hst : ∀ listed W, S listed W → listed.size = reg8.size → listed.getD 7 true = false → (∀ j, ((reg8[7]?).map fun o => o.after.any fun e => Region.binds .any e && e.on == j) = some true → listed.getD j false = true) → ∃ W2, (Instr.storeAt 27 (.pointer (some ⟨r, 0, none⟩)) (.agg (lab F n))).run Tryd.prog W = .ok (()) W2 ∧ S (listed.setIfInBounds 7 true) W2)
    (i : Nat) (o : Oper) (a : Act) (w : World) (listed : Array Bool) (ho : reg8[i]? = some o) (hF : RFr reg8 a0 (V8 g B N c T n Z F) listed a) (hS : S listed w) (hls : listed.size = reg8.size) (hun : listed.getD i true = false) (hdep : ∀ e ∈ o.after, Region.binds .any e = true → listed.getD e.on false = true) :
      if Region.wanted o (yielded reg8 a.tmps) = true then Oper.wp Tryd.prog o a w (fun a' w' => a' = a.put o.dst (V8 g B N c T n Z F i) ∧ S (listed.setIfInBounds i true) w') Q else V8 g B N c T n Z F i = undef ∧ S (listed.setIfInBounds i true) w := by
  match i, ho with
  | 0, ho =>
    rw [if_pos (want_none (fact ho (by kernel_rfl)))]
    have hop : o.op = .move (.tmp 4) := fact ho (by kernel_rfl)
    have hds : o.dst = some 15 := fact ho (by kernel_rfl)
    have t4 := tm_old hF 4 _ h4 (by kernel_rfl)
    have hS2 := hmv 0 (by decide) listed w hS
    unfold Oper.wp
    simp [execOp, hop, hds, t4, go_sem, V8, hS2]
  | 1, ho =>
    rw [if_pos (want_none (fact ho (by kernel_rfl)))]
    have hop : o.op = .convert 9 48 (.tmp 15) := fact ho (by kernel_rfl)
    have hds : o.dst = some 16 := fact ho (by kernel_rfl)
    have t15 := tm_dep hF 0 15 (by kernel_rfl) (dep_of ho hdep 0 (by kernel_rfl))
    simp only [V8] at t15
    obtain ⟨W2, hr, hS2⟩ := hcv listed w hS hls hun (fun j hj => dep_of ho hdep j hj)
    unfold Oper.wp
    simp [execOp, hop, hds, Act.eval, t15, hr, Oper.upon, Act.put, V8, hS2]
  | 2, ho =>
    rw [if_pos (want_none (fact ho (by kernel_rfl)))]
    have hop : o.op = .call { callee := .value (.func 14), args := #[.tmp 16], argTypes := #[48] } := fact ho (by kernel_rfl)
    have hds : o.dst = some 17 := fact ho (by kernel_rfl)
    have t16 := tm_dep hF 1 16 (by kernel_rfl) (dep_of ho hdep 1 (by kernel_rfl))
    simp only [V8] at t16
    unfold Oper.wp
    simp [execOp, hop, hds, t16, go_sem, V8]
    refine (hc14 listed w hS hls hun (fun j hj => dep_of ho hdep j hj)).mono ?_
    rintro e w' ⟨rfl, hS'⟩
    exact ⟨rfl, hS'⟩
  | 3, ho =>
    rw [if_pos (want_none (fact ho (by kernel_rfl)))]
    have hop : o.op = .call { callee := .value (.func 13), args := #[.tmp 17], argTypes := #[23] } := fact ho (by kernel_rfl)
    have hds : o.dst = some 18 := fact ho (by kernel_rfl)
    have t17 := tm_dep hF 2 17 (by kernel_rfl) (dep_of ho hdep 2 (by kernel_rfl))
    simp only [V8] at t17
    unfold Oper.wp
    simp [execOp, hop, hds, t17, go_sem, V8]
    refine (hc13 listed w hS hls hun (fun j hj => dep_of ho hdep j hj)).mono ?_
    rintro e w' ⟨rfl, hS'⟩
    exact ⟨rfl, hS'⟩
  | 4, ho =>
    rw [if_pos (want_none (fact ho (by kernel_rfl)))]
    have hop : o.op = .fieldAddr 39 (.tmp 1) 6 := fact ho (by kernel_rfl)
    have hds : o.dst = some 19 := fact ho (by kernel_rfl)
    have t1 := tm_old hF 1 _ h1 (by kernel_rfl)
    have hS2 := hmv 4 (by decide) listed w hS
    unfold Oper.wp
    simp [execOp, hop, hds, t1, go_sem, V8, hS2]
  | 5, ho =>
    rw [if_pos (want_none (fact ho (by kernel_rfl)))]
    have hop : o.op = .load 9 (.tmp 19) := fact ho (by kernel_rfl)
    have hds : o.dst = some 20 := fact ho (by kernel_rfl)
    have t19 := tm_dep hF 4 19 (by kernel_rfl) (dep_of ho hdep 4 (by kernel_rfl))
    simp only [V8] at t19
    obtain ⟨W2, hr, hS2⟩ := hln listed w hS hls hun (fun j hj => dep_of ho hdep j hj)
    unfold Oper.wp
    simp [execOp, hop, hds, Act.eval, t19, hr, Oper.upon, Act.put, V8, hS2]
  | 6, ho =>
    rw [if_pos (want_none (fact ho (by kernel_rfl)))]
    have hop : o.op = .build 27 #[(0, .tmp 18), (1, .tmp 20)] := fact ho (by kernel_rfl)
    have hds : o.dst = some 21 := fact ho (by kernel_rfl)
    have t18 := tm_dep hF 3 18 (by kernel_rfl) (dep_of ho hdep 3 (by kernel_rfl))
    simp only [V8] at t18
    have t20 := tm_dep hF 5 20 (by kernel_rfl) (dep_of ho hdep 5 (by kernel_rfl))
    simp only [V8] at t20
    obtain ⟨W2, hr, hS2⟩ := hbu listed w hS hls hun (fun j hj => dep_of ho hdep j hj)
    unfold Oper.wp
    simp [execOp, hop, hds, Act.eval, t18, t20, hr, Oper.upon, Act.put, V8, hS2]
  | 7, ho =>
    rw [if_pos (want_none (fact ho (by kernel_rfl)))]
    have hop : o.op = .store 27 (.tmp 2) (.tmp 21) := fact ho (by kernel_rfl)
    have hds : o.dst = none := fact ho (by kernel_rfl)
    have t2 := tm_old hF 2 _ h2 (by kernel_rfl)
    have t21 := tm_dep hF 6 21 (by kernel_rfl) (dep_of ho hdep 6 (by kernel_rfl))
    simp only [V8] at t21
    obtain ⟨W2, hr, hS2⟩ := hst listed w hS hls hun (fun j hj => dep_of ho hdep j hj)
    unfold Oper.wp
    simp [execOp, hop, hds, Act.eval, t2, t21, hr, Oper.upon, Act.put, hS2]
  | 8, ho =>
    rw [if_pos (want_none (fact ho (by kernel_rfl)))]
    have hop : o.op = .assign (.const (.int .i64 0)) := fact ho (by kernel_rfl)
    have hds : o.dst = some 3 := fact ho (by kernel_rfl)
    have hS2 := hmv 8 (by decide) listed w hS
    unfold Oper.wp
    simp [execOp, hop, hds, go_sem, V8, hS2]
  | n + 9, ho =>
    exfalso
    have h1 : n + 9 < reg8.size := (Array.getElem?_eq_some_iff.1 ho).1
    rw [show reg8.size = 9 from by kernel_rfl] at h1
    omega
set_option maxRecDepth 100000 in
theorem put8 (X : Nat → Value) (v0 v1 v2 v3 v4 v5 v6 v7 v8 v9 v10 v11 v12 v13 v14 v15 v16 v17 v18 v19 v20 v21 : Value) : putN reg8 X ⟨#[v0, v1, v2, v3, v4, v5, v6, v7, v8, v9, v10, v11, v12, v13, v14, v15, v16, v17, v18, v19, v20, v21], []⟩ reg8.size = ⟨#[v0, v1, v2, X 8, v4, v5, v6, v7, v8, v9, v10, v11, v12, v13, v14, X 0, X 1, X 2, X 3, X 4, X 5, X 6], []⟩ := by kernel_rfl
end Go.Proofs.YtageaeebiopmbaaDoor
