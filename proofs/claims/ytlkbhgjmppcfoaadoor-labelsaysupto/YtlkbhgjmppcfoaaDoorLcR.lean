/- LabelCalls: the operations of its drawn region, each by its value. -/
import Derived.Test.YtlkbhgjmppcfoaaDoorFgA
namespace Go.Proofs.YtlkbhgjmppcfoaaDoor
open Go.RowKit
theorem yl_und {ops : Array Oper} {a0 a : Act} {V : Nat → Value} {listed : Array Bool} (hF : RFr ops a0 V listed a) (j d : Nat) (hd : (ops[j]?).bind (·.dst) = some d) (hl : listed.getD j false = true) (hv : V j = undef) : yielded ops a.tmps j = none := by
  unfold yielded
  rw [hd]
  show (match a.tmps[d]? with | some (.bool b) => some b | _ => none) = _
  rw [tm_dep hF j d hd hl, hv]
  rfl
theorem want_und {o : Oper} {f : Nat → Option Bool} {j : Nat} {b : Bool} (h : o.guard = some (j, b)) (hy : f j = none) : Region.wanted o f = false := by
  unfold Region.wanted; rw [h]; show (f j == some b) = _; rw [hy]; rfl
noncomputable def reg3 : Array Oper := ((Tryd.f3.body.bind (findR 3)).getD #[])
theorem okR3 : okR reg3 187 = true := by kernel_rfl
def V3a (g r B m c : Nat) (T n : ByteArray) (Z F : List Nat) : Nat → Value
  | 0 => .int .i64 0
  | 1 => .int .i64 0
  | 2 => .bool false
  | 3 => .bool false
  | 4 => .int .i64 0
  | 5 => .bool true
  | 6 => .bool true
  | 7 => .pointer (some ⟨r, 20, none⟩)
  | 8 => .string n
  | 9 => .pointer (some ⟨g, 37, none⟩)
  | 10 => .string n
  | 11 => .bool false
  | 12 => .bool false
  | 13 => .pointer (some ⟨r, 0, none⟩)
  | 14 => .agg (bs F)
  | 15 => .string T
  | 16 => .slice (some ⟨B, 0, none⟩) m c
  | 17 => .agg (bs Z)
  | 18 => .agg (bs F)
  | 19 => .bool false
  | 20 => .bool false
  | 21 => .bool false
  | 22 => .bool false
  | 23 => .bool false
  | 24 => .int .i64 0
  | 25 => .bool false
  | 26 => .bool false
  | 30 => .bool false
  | 31 => .bool false
  | _ => undef
set_option maxRecDepth 100000 in
set_option maxHeartbeats 1000000 in
theorem step3a (a0 : Act) (g r B m c : Nat) (T n : ByteArray) (Z F : List Nat) (S : Array Bool → World → Prop) (Q : Exit → Act → World → Prop) (h4 : a0.tmps[4]? = some (.pointer (some ⟨g, 0, none⟩))) (h9 : a0.tmps[9]? = some (.string T)) (h10 : a0.tmps[10]? = some (.int .i64 0)) (h11 : a0.tmps[11]? = some (.pointer (some ⟨r, 0, none⟩))) (h12 : a0.tmps[12]? = some (.int .i64 0))
    (hmv : ∀ i : Nat, decide (i ≠ 16 ∧ i ≠ 17) = true → ∀ listed W, S listed W → S (listed.setIfInBounds i true) W) (hc8 : ∀ listed W, S listed W → listed.size = reg3.size → listed.getD 17 true = false → (∀ j, ((reg3[17]?).map fun o => o.after.any fun e => Region.binds .any e && e.on == j) = some true → listed.getD j false = true) → Calls Tryd.prog 8 #[.slice (some ⟨B, 0, none⟩) m c] W fun e w' => e = .returned (.agg (bs Z)) ∧ S (listed.setIfInBounds 17 true) w') (hc7 : ∀ listed W, S listed W → listed.size = reg3.size → listed.getD 18 true = false → (∀ j, ((reg3[18]?).map fun o => o.after.any fun e => Region.binds .any e && e.on == j) = some true → listed.getD j false = true) → Calls Tryd.prog 7 #[.agg (bs Z)] W fun e w' => e = .returned (.agg (bs F)) ∧ S (listed.setIfInBounds 18 true) w') (hl8 : ∀ listed W, S listed W → listed.size = reg3.size → listed.getD 8 true = false → (∀ j, ((reg3[8]?).map fun o => o.after.any fun e => Region.binds .any e && e.on == j) = some true → listed.getD j false = true) → ∃ W2, (Instr.loadAt 9 (.pointer (some ⟨r, 20, none⟩))).run Tryd.prog W = .ok (.string n) W2 ∧ S (listed.setIfInBounds 8 true) W2) (hl10 : ∀ listed W, S listed W → listed.size = reg3.size → listed.getD 10 true = false → (∀ j, ((reg3[10]?).map fun o => o.after.any fun e => Region.binds .any e && e.on == j) = some true → listed.getD j false = true) → ∃ W2, (Instr.loadAt 9 (.pointer (some ⟨g, 37, none⟩))).run Tryd.prog W = .ok (.string n) W2 ∧ S (listed.setIfInBounds 10 true) W2) (hl14 : ∀ listed W, S listed W → listed.size = reg3.size → listed.getD 14 true = false → (∀ j, ((reg3[14]?).map fun o => o.after.any fun e => Region.binds .any e && e.on == j) = some true → listed.getD j false = true) → ∃ W2, (Instr.loadAt 32 (.pointer (some ⟨r, 0, none⟩))).run Tryd.prog W = .ok (.agg (bs F)) W2 ∧ S (listed.setIfInBounds 14 true) W2) (hcv : ∀ listed W, S listed W → listed.size = reg3.size → listed.getD 16 true = false → (∀ j, ((reg3[16]?).map fun o => o.after.any fun e => Region.binds .any e && e.on == j) = some true → listed.getD j false = true) → ∃ W2, (convert 9 27 (.string T)).run Tryd.prog W = .ok (.slice (some ⟨B, 0, none⟩) m c) W2 ∧ S (listed.setIfInBounds 16 true) W2) (hq : ∀ W, (Op.equalIn 10000 32 (.agg (bs F)) (.agg (bs F))).run Tryd.prog W = .ok true W)
    (i : Nat) (o : Oper) (a : Act) (w : World) (listed : Array Bool) (ho : reg3[i]? = some o) (hF : RFr reg3 a0 (V3a g r B m c T n Z F) listed a) (hS : S listed w) (hls : listed.size = reg3.size) (hun : listed.getD i true = false) (hdep : ∀ e ∈ o.after, Region.binds .any e = true → listed.getD e.on false = true) :
      if Region.wanted o (yielded reg3 a.tmps) = true then Oper.wp Tryd.prog o a w (fun a' w' => a' = a.put o.dst (V3a g r B m c T n Z F i) ∧ S (listed.setIfInBounds i true) w') Q else V3a g r B m c T n Z F i = undef ∧ S (listed.setIfInBounds i true) w := by
  match i, ho with
  | 0, ho =>
    rw [if_pos (want_none (fact ho (by kernel_rfl)))]
    have hop : o.op = .move (.tmp 10) := fact ho (by kernel_rfl)
    have hds : o.dst = some 28 := fact ho (by kernel_rfl)
    have t10 := tm_old hF 10 _ h10 (by kernel_rfl)
    have hS2 := hmv 0 (by decide) listed w hS
    unfold Oper.wp
    simp [execOp, hop, hds, t10, go_sem, V3a, hS2]
  | 1, ho =>
    rw [if_pos (want_none (fact ho (by kernel_rfl)))]
    have hop : o.op = .move (.tmp 12) := fact ho (by kernel_rfl)
    have hds : o.dst = some 29 := fact ho (by kernel_rfl)
    have t12 := tm_old hF 12 _ h12 (by kernel_rfl)
    have hS2 := hmv 1 (by decide) listed w hS
    unfold Oper.wp
    simp [execOp, hop, hds, t12, go_sem, V3a, hS2]
  | 2, ho =>
    rw [if_pos (want_none (fact ho (by kernel_rfl)))]
    have hop : o.op = .binOp .neq 28 (.tmp 28) (.tmp 29) 28 := fact ho (by kernel_rfl)
    have hds : o.dst = some 30 := fact ho (by kernel_rfl)
    have t28 := tm_dep hF 0 28 (by kernel_rfl) (dep_of ho hdep 0 (by kernel_rfl))
    simp only [V3a] at t28
    have t29 := tm_dep hF 1 29 (by kernel_rfl) (dep_of ho hdep 1 (by kernel_rfl))
    simp only [V3a] at t29
    have hS2 := hmv 2 (by decide) listed w hS
    unfold Oper.wp
    simp [execOp, hop, hds, t28, t29, go_sem, V3a, hS2]
  | 3, ho =>
    rw [if_pos (want_none (fact ho (by kernel_rfl)))]
    have hop : o.op = .move (.tmp 30) := fact ho (by kernel_rfl)
    have hds : o.dst = some 31 := fact ho (by kernel_rfl)
    have t30 := tm_dep hF 2 30 (by kernel_rfl) (dep_of ho hdep 2 (by kernel_rfl))
    simp only [V3a] at t30
    have hS2 := hmv 3 (by decide) listed w hS
    unfold Oper.wp
    simp [execOp, hop, hds, t30, go_sem, V3a, hS2]
  | 4, ho =>
    have hy := yl_dep hF 3 31 false (by kernel_rfl) (dep_of ho hdep 3 (by kernel_rfl)) rfl
    have hgd : o.guard = some (3, false) := fact ho (by kernel_rfl)
    rw [if_pos (by rw [want_some hgd hy]; rfl)]
    have hop : o.op = .move (.tmp 10) := fact ho (by kernel_rfl)
    have hds : o.dst = some 32 := fact ho (by kernel_rfl)
    have t10 := tm_old hF 10 _ h10 (by kernel_rfl)
    have hS2 := hmv 4 (by decide) listed w hS
    unfold Oper.wp
    simp [execOp, hop, hds, t10, go_sem, V3a, hS2]
  | 5, ho =>
    have hy := yl_dep hF 3 31 false (by kernel_rfl) (dep_of ho hdep 3 (by kernel_rfl)) rfl
    have hgd : o.guard = some (3, false) := fact ho (by kernel_rfl)
    rw [if_pos (by rw [want_some hgd hy]; rfl)]
    have hop : o.op = .binOp .eql 28 (.tmp 32) (.const (.int .i64 0)) 28 := fact ho (by kernel_rfl)
    have hds : o.dst = some 33 := fact ho (by kernel_rfl)
    have t32 := tm_dep hF 4 32 (by kernel_rfl) (dep_of ho hdep 4 (by kernel_rfl))
    simp only [V3a] at t32
    have hS2 := hmv 5 (by decide) listed w hS
    unfold Oper.wp
    simp [execOp, hop, hds, t32, go_sem, V3a, hS2]
  | 6, ho =>
    have hy := yl_dep hF 3 31 false (by kernel_rfl) (dep_of ho hdep 3 (by kernel_rfl)) rfl
    have hgd : o.guard = some (3, false) := fact ho (by kernel_rfl)
    rw [if_pos (by rw [want_some hgd hy]; rfl)]
    have hop : o.op = .move (.tmp 33) := fact ho (by kernel_rfl)
    have hds : o.dst = some 34 := fact ho (by kernel_rfl)
    have t33 := tm_dep hF 5 33 (by kernel_rfl) (dep_of ho hdep 5 (by kernel_rfl))
    simp only [V3a] at t33
    have hS2 := hmv 6 (by decide) listed w hS
    unfold Oper.wp
    simp [execOp, hop, hds, t33, go_sem, V3a, hS2]
  | 7, ho =>
    have hy := yl_dep hF 6 34 true (by kernel_rfl) (dep_of ho hdep 6 (by kernel_rfl)) rfl
    have hgd : o.guard = some (6, true) := fact ho (by kernel_rfl)
    rw [if_pos (by rw [want_some hgd hy]; rfl)]
    have hop : o.op = .fieldAddr 34 (.tmp 11) 1 := fact ho (by kernel_rfl)
    have hds : o.dst = some 35 := fact ho (by kernel_rfl)
    have t11 := tm_old hF 11 _ h11 (by kernel_rfl)
    have hS2 := hmv 7 (by decide) listed w hS
    unfold Oper.wp
    simp [execOp, hop, hds, t11, go_sem, V3a, hS2]
  | 8, ho =>
    have hy := yl_dep hF 6 34 true (by kernel_rfl) (dep_of ho hdep 6 (by kernel_rfl)) rfl
    have hgd : o.guard = some (6, true) := fact ho (by kernel_rfl)
    rw [if_pos (by rw [want_some hgd hy]; rfl)]
    have hop : o.op = .load 9 (.tmp 35) := fact ho (by kernel_rfl)
    have hds : o.dst = some 36 := fact ho (by kernel_rfl)
    have t35 := tm_dep hF 7 35 (by kernel_rfl) (dep_of ho hdep 7 (by kernel_rfl))
    simp only [V3a] at t35
    obtain ⟨W2, hr, hS2⟩ := hl8 listed w hS hls hun (fun j hj => dep_of ho hdep j hj)
    unfold Oper.wp
    simp [execOp, hop, hds, Act.eval, t35, hr, Oper.upon, Act.put, V3a, hS2]
  | 9, ho =>
    have hy := yl_dep hF 6 34 true (by kernel_rfl) (dep_of ho hdep 6 (by kernel_rfl)) rfl
    have hgd : o.guard = some (6, true) := fact ho (by kernel_rfl)
    rw [if_pos (by rw [want_some hgd hy]; rfl)]
    have hop : o.op = .fieldAddr 26 (.tmp 4) 6 := fact ho (by kernel_rfl)
    have hds : o.dst = some 37 := fact ho (by kernel_rfl)
    have t4 := tm_old hF 4 _ h4 (by kernel_rfl)
    have hS2 := hmv 9 (by decide) listed w hS
    unfold Oper.wp
    simp [execOp, hop, hds, t4, go_sem, V3a, hS2]
  | 10, ho =>
    have hy := yl_dep hF 6 34 true (by kernel_rfl) (dep_of ho hdep 6 (by kernel_rfl)) rfl
    have hgd : o.guard = some (6, true) := fact ho (by kernel_rfl)
    rw [if_pos (by rw [want_some hgd hy]; rfl)]
    have hop : o.op = .load 9 (.tmp 37) := fact ho (by kernel_rfl)
    have hds : o.dst = some 38 := fact ho (by kernel_rfl)
    have t37 := tm_dep hF 9 37 (by kernel_rfl) (dep_of ho hdep 9 (by kernel_rfl))
    simp only [V3a] at t37
    obtain ⟨W2, hr, hS2⟩ := hl10 listed w hS hls hun (fun j hj => dep_of ho hdep j hj)
    unfold Oper.wp
    simp [execOp, hop, hds, Act.eval, t37, hr, Oper.upon, Act.put, V3a, hS2]
  | 11, ho =>
    have hy := yl_dep hF 6 34 true (by kernel_rfl) (dep_of ho hdep 6 (by kernel_rfl)) rfl
    have hgd : o.guard = some (6, true) := fact ho (by kernel_rfl)
    rw [if_pos (by rw [want_some hgd hy]; rfl)]
    have hop : o.op = .binOp .neq 9 (.tmp 36) (.tmp 38) 9 := fact ho (by kernel_rfl)
    have hds : o.dst = some 39 := fact ho (by kernel_rfl)
    have t36 := tm_dep hF 8 36 (by kernel_rfl) (dep_of ho hdep 8 (by kernel_rfl))
    simp only [V3a] at t36
    have t38 := tm_dep hF 10 38 (by kernel_rfl) (dep_of ho hdep 10 (by kernel_rfl))
    simp only [V3a] at t38
    have hS2 := hmv 11 (by decide) listed w hS
    unfold Oper.wp
    simp [execOp, hop, hds, t36, t38, go_sem, V3a, hS2]
  | 12, ho =>
    have hy := yl_dep hF 6 34 true (by kernel_rfl) (dep_of ho hdep 6 (by kernel_rfl)) rfl
    have hgd : o.guard = some (6, true) := fact ho (by kernel_rfl)
    rw [if_pos (by rw [want_some hgd hy]; rfl)]
    have hop : o.op = .move (.tmp 39) := fact ho (by kernel_rfl)
    have hds : o.dst = some 40 := fact ho (by kernel_rfl)
    have t39 := tm_dep hF 11 39 (by kernel_rfl) (dep_of ho hdep 11 (by kernel_rfl))
    simp only [V3a] at t39
    have hS2 := hmv 12 (by decide) listed w hS
    unfold Oper.wp
    simp [execOp, hop, hds, t39, go_sem, V3a, hS2]
  | 13, ho =>
    have hy := yl_dep hF 12 40 false (by kernel_rfl) (dep_of ho hdep 12 (by kernel_rfl)) rfl
    have hgd : o.guard = some (12, false) := fact ho (by kernel_rfl)
    rw [if_pos (by rw [want_some hgd hy]; rfl)]
    have hop : o.op = .fieldAddr 34 (.tmp 11) 0 := fact ho (by kernel_rfl)
    have hds : o.dst = some 41 := fact ho (by kernel_rfl)
    have t11 := tm_old hF 11 _ h11 (by kernel_rfl)
    have hS2 := hmv 13 (by decide) listed w hS
    unfold Oper.wp
    simp [execOp, hop, hds, t11, go_sem, V3a, hS2]
  | 14, ho =>
    have hy := yl_dep hF 12 40 false (by kernel_rfl) (dep_of ho hdep 12 (by kernel_rfl)) rfl
    have hgd : o.guard = some (12, false) := fact ho (by kernel_rfl)
    rw [if_pos (by rw [want_some hgd hy]; rfl)]
    have hop : o.op = .load 32 (.tmp 41) := fact ho (by kernel_rfl)
    have hds : o.dst = some 42 := fact ho (by kernel_rfl)
    have t41 := tm_dep hF 13 41 (by kernel_rfl) (dep_of ho hdep 13 (by kernel_rfl))
    simp only [V3a] at t41
    obtain ⟨W2, hr, hS2⟩ := hl14 listed w hS hls hun (fun j hj => dep_of ho hdep j hj)
    unfold Oper.wp
    simp [execOp, hop, hds, Act.eval, t41, hr, Oper.upon, Act.put, V3a, hS2]
  | 15, ho =>
    have hy := yl_dep hF 12 40 false (by kernel_rfl) (dep_of ho hdep 12 (by kernel_rfl)) rfl
    have hgd : o.guard = some (12, false) := fact ho (by kernel_rfl)
    rw [if_pos (by rw [want_some hgd hy]; rfl)]
    have hop : o.op = .move (.tmp 9) := fact ho (by kernel_rfl)
    have hds : o.dst = some 43 := fact ho (by kernel_rfl)
    have t9 := tm_old hF 9 _ h9 (by kernel_rfl)
    have hS2 := hmv 15 (by decide) listed w hS
    unfold Oper.wp
    simp [execOp, hop, hds, t9, go_sem, V3a, hS2]
  | 16, ho =>
    have hy := yl_dep hF 12 40 false (by kernel_rfl) (dep_of ho hdep 12 (by kernel_rfl)) rfl
    have hgd : o.guard = some (12, false) := fact ho (by kernel_rfl)
    rw [if_pos (by rw [want_some hgd hy]; rfl)]
    have hop : o.op = .convert 9 27 (.tmp 43) := fact ho (by kernel_rfl)
    have hds : o.dst = some 44 := fact ho (by kernel_rfl)
    have t43 := tm_dep hF 15 43 (by kernel_rfl) (dep_of ho hdep 15 (by kernel_rfl))
    simp only [V3a] at t43
    obtain ⟨W2, hr, hS2⟩ := hcv listed w hS hls hun (fun j hj => dep_of ho hdep j hj)
    unfold Oper.wp
    simp [execOp, hop, hds, Act.eval, t43, hr, Oper.upon, Act.put, V3a, hS2]
  | 17, ho =>
    have hy := yl_dep hF 12 40 false (by kernel_rfl) (dep_of ho hdep 12 (by kernel_rfl)) rfl
    have hgd : o.guard = some (12, false) := fact ho (by kernel_rfl)
    rw [if_pos (by rw [want_some hgd hy]; rfl)]
    have hop : o.op = .call { callee := .value (.func 8), args := #[.tmp 44], argTypes := #[27] } := fact ho (by kernel_rfl)
    have hds : o.dst = some 45 := fact ho (by kernel_rfl)
    have t44 := tm_dep hF 16 44 (by kernel_rfl) (dep_of ho hdep 16 (by kernel_rfl))
    simp only [V3a] at t44
    unfold Oper.wp
    simp [execOp, hop, hds, t44, go_sem, V3a]
    refine (hc8 listed w hS hls hun (fun j hj => dep_of ho hdep j hj)).mono ?_
    rintro e w' ⟨rfl, hS'⟩
    exact ⟨rfl, hS'⟩
  | 18, ho =>
    have hy := yl_dep hF 12 40 false (by kernel_rfl) (dep_of ho hdep 12 (by kernel_rfl)) rfl
    have hgd : o.guard = some (12, false) := fact ho (by kernel_rfl)
    rw [if_pos (by rw [want_some hgd hy]; rfl)]
    have hop : o.op = .call { callee := .value (.func 7), args := #[.tmp 45], argTypes := #[24] } := fact ho (by kernel_rfl)
    have hds : o.dst = some 46 := fact ho (by kernel_rfl)
    have t45 := tm_dep hF 17 45 (by kernel_rfl) (dep_of ho hdep 17 (by kernel_rfl))
    simp only [V3a] at t45
    unfold Oper.wp
    simp [execOp, hop, hds, t45, go_sem, V3a]
    refine (hc7 listed w hS hls hun (fun j hj => dep_of ho hdep j hj)).mono ?_
    rintro e w' ⟨rfl, hS'⟩
    exact ⟨rfl, hS'⟩
  | 19, ho =>
    have hy := yl_dep hF 12 40 false (by kernel_rfl) (dep_of ho hdep 12 (by kernel_rfl)) rfl
    have hgd : o.guard = some (12, false) := fact ho (by kernel_rfl)
    rw [if_pos (by rw [want_some hgd hy]; rfl)]
    have hop : o.op = .binOp .neq 32 (.tmp 42) (.tmp 46) 32 := fact ho (by kernel_rfl)
    have hds : o.dst = some 47 := fact ho (by kernel_rfl)
    have t42 := tm_dep hF 14 42 (by kernel_rfl) (dep_of ho hdep 14 (by kernel_rfl))
    simp only [V3a] at t42
    have t46 := tm_dep hF 18 46 (by kernel_rfl) (dep_of ho hdep 18 (by kernel_rfl))
    simp only [V3a] at t46
    have hS2 := hmv 19 (by decide) listed w hS
    unfold Oper.wp
    simp [execOp, hop, hds, t42, t46, hq, go_sem, V3a, hS2]
  | 20, ho =>
    have hy := yl_dep hF 6 34 true (by kernel_rfl) (dep_of ho hdep 6 (by kernel_rfl)) rfl
    have hgd : o.guard = some (6, true) := fact ho (by kernel_rfl)
    rw [if_pos (by rw [want_some hgd hy]; rfl)]
    have hop : o.op = .pick (.tmp 40) (.const (.bool true)) (.tmp 47) := fact ho (by kernel_rfl)
    have hds : o.dst = some 48 := fact ho (by kernel_rfl)
    have t40 := tm_dep hF 12 40 (by kernel_rfl) (dep_of ho hdep 12 (by kernel_rfl))
    simp only [V3a] at t40
    have t47 := tm_dep hF 19 47 (by kernel_rfl) (dep_of ho hdep 19 (by kernel_rfl))
    simp only [V3a] at t47
    have hS2 := hmv 20 (by decide) listed w hS
    unfold Oper.wp
    simp [execOp, hop, hds, t40, t47, go_sem, V3a, hS2]
  | 21, ho =>
    have hy := yl_dep hF 3 31 false (by kernel_rfl) (dep_of ho hdep 3 (by kernel_rfl)) rfl
    have hgd : o.guard = some (3, false) := fact ho (by kernel_rfl)
    rw [if_pos (by rw [want_some hgd hy]; rfl)]
    have hop : o.op = .pick (.tmp 34) (.tmp 48) (.const (.bool false)) := fact ho (by kernel_rfl)
    have hds : o.dst = some 49 := fact ho (by kernel_rfl)
    have t34 := tm_dep hF 6 34 (by kernel_rfl) (dep_of ho hdep 6 (by kernel_rfl))
    simp only [V3a] at t34
    have t48 := tm_dep hF 20 48 (by kernel_rfl) (dep_of ho hdep 20 (by kernel_rfl))
    simp only [V3a] at t48
    have hS2 := hmv 21 (by decide) listed w hS
    unfold Oper.wp
    simp [execOp, hop, hds, t34, t48, go_sem, V3a, hS2]
  | 22, ho =>
    rw [if_pos (want_none (fact ho (by kernel_rfl)))]
    have hop : o.op = .pick (.tmp 31) (.const (.bool true)) (.tmp 49) := fact ho (by kernel_rfl)
    have hds : o.dst = some 50 := fact ho (by kernel_rfl)
    have t31 := tm_dep hF 3 31 (by kernel_rfl) (dep_of ho hdep 3 (by kernel_rfl))
    simp only [V3a] at t31
    have t49 := tm_dep hF 21 49 (by kernel_rfl) (dep_of ho hdep 21 (by kernel_rfl))
    simp only [V3a] at t49
    have hS2 := hmv 22 (by decide) listed w hS
    unfold Oper.wp
    simp [execOp, hop, hds, t31, t49, go_sem, V3a, hS2]
  | 23, ho =>
    rw [if_pos (want_none (fact ho (by kernel_rfl)))]
    have hop : o.op = .move (.tmp 50) := fact ho (by kernel_rfl)
    have hds : o.dst = some 51 := fact ho (by kernel_rfl)
    have t50 := tm_dep hF 22 50 (by kernel_rfl) (dep_of ho hdep 22 (by kernel_rfl))
    simp only [V3a] at t50
    have hS2 := hmv 23 (by decide) listed w hS
    unfold Oper.wp
    simp [execOp, hop, hds, t50, go_sem, V3a, hS2]
  | 24, ho =>
    have hy := yl_dep hF 23 51 false (by kernel_rfl) (dep_of ho hdep 23 (by kernel_rfl)) rfl
    have hgd : o.guard = some (23, false) := fact ho (by kernel_rfl)
    rw [if_pos (by rw [want_some hgd hy]; rfl)]
    have hop : o.op = .move (.tmp 10) := fact ho (by kernel_rfl)
    have hds : o.dst = some 52 := fact ho (by kernel_rfl)
    have t10 := tm_old hF 10 _ h10 (by kernel_rfl)
    have hS2 := hmv 24 (by decide) listed w hS
    unfold Oper.wp
    simp [execOp, hop, hds, t10, go_sem, V3a, hS2]
  | 25, ho =>
    have hy := yl_dep hF 23 51 false (by kernel_rfl) (dep_of ho hdep 23 (by kernel_rfl)) rfl
    have hgd : o.guard = some (23, false) := fact ho (by kernel_rfl)
    rw [if_pos (by rw [want_some hgd hy]; rfl)]
    have hop : o.op = .binOp .neq 28 (.tmp 52) (.const (.int .i64 0)) 28 := fact ho (by kernel_rfl)
    have hds : o.dst = some 53 := fact ho (by kernel_rfl)
    have t52 := tm_dep hF 24 52 (by kernel_rfl) (dep_of ho hdep 24 (by kernel_rfl))
    simp only [V3a] at t52
    have hS2 := hmv 25 (by decide) listed w hS
    unfold Oper.wp
    simp [execOp, hop, hds, t52, go_sem, V3a, hS2]
  | 26, ho =>
    have hy := yl_dep hF 23 51 false (by kernel_rfl) (dep_of ho hdep 23 (by kernel_rfl)) rfl
    have hgd : o.guard = some (23, false) := fact ho (by kernel_rfl)
    rw [if_pos (by rw [want_some hgd hy]; rfl)]
    have hop : o.op = .move (.tmp 53) := fact ho (by kernel_rfl)
    have hds : o.dst = some 54 := fact ho (by kernel_rfl)
    have t53 := tm_dep hF 25 53 (by kernel_rfl) (dep_of ho hdep 25 (by kernel_rfl))
    simp only [V3a] at t53
    have hS2 := hmv 26 (by decide) listed w hS
    unfold Oper.wp
    simp [execOp, hop, hds, t53, go_sem, V3a, hS2]
  | 27, ho =>
    have hy := yl_dep hF 26 54 false (by kernel_rfl) (dep_of ho hdep 26 (by kernel_rfl)) rfl
    have hgd : o.guard = some (26, true) := fact ho (by kernel_rfl)
    rw [if_neg (by rw [want_some hgd hy]; decide)]
    exact ⟨rfl, hmv 27 (by decide) listed w hS⟩
  | 28, ho =>
    have hy := yl_dep hF 26 54 false (by kernel_rfl) (dep_of ho hdep 26 (by kernel_rfl)) rfl
    have hgd : o.guard = some (26, true) := fact ho (by kernel_rfl)
    rw [if_neg (by rw [want_some hgd hy]; decide)]
    exact ⟨rfl, hmv 28 (by decide) listed w hS⟩
  | 29, ho =>
    have hy := yl_dep hF 26 54 false (by kernel_rfl) (dep_of ho hdep 26 (by kernel_rfl)) rfl
    have hgd : o.guard = some (26, true) := fact ho (by kernel_rfl)
    rw [if_neg (by rw [want_some hgd hy]; decide)]
    exact ⟨rfl, hmv 29 (by decide) listed w hS⟩
  | 30, ho =>
    have hy := yl_dep hF 23 51 false (by kernel_rfl) (dep_of ho hdep 23 (by kernel_rfl)) rfl
    have hgd : o.guard = some (23, false) := fact ho (by kernel_rfl)
    rw [if_pos (by rw [want_some hgd hy]; rfl)]
    have hop : o.op = .pick (.tmp 54) (.tmp 57) (.const (.bool false)) := fact ho (by kernel_rfl)
    have hds : o.dst = some 58 := fact ho (by kernel_rfl)
    have t54 := tm_dep hF 26 54 (by kernel_rfl) (dep_of ho hdep 26 (by kernel_rfl))
    simp only [V3a] at t54
    have t57 := tm_dep hF 29 57 (by kernel_rfl) (dep_of ho hdep 29 (by kernel_rfl))
    simp only [V3a] at t57
    have hS2 := hmv 30 (by decide) listed w hS
    unfold Oper.wp
    simp [execOp, hop, hds, t54, t57, go_sem, V3a, hS2]
  | 31, ho =>
    rw [if_pos (want_none (fact ho (by kernel_rfl)))]
    have hop : o.op = .pick (.tmp 51) (.const (.bool true)) (.tmp 58) := fact ho (by kernel_rfl)
    have hds : o.dst = some 59 := fact ho (by kernel_rfl)
    have t51 := tm_dep hF 23 51 (by kernel_rfl) (dep_of ho hdep 23 (by kernel_rfl))
    simp only [V3a] at t51
    have t58 := tm_dep hF 30 58 (by kernel_rfl) (dep_of ho hdep 30 (by kernel_rfl))
    simp only [V3a] at t58
    have hS2 := hmv 31 (by decide) listed w hS
    unfold Oper.wp
    simp [execOp, hop, hds, t51, t58, go_sem, V3a, hS2]
  | n + 32, ho =>
    exfalso
    have h1 : n + 32 < reg3.size := (Array.getElem?_eq_some_iff.1 ho).1
    rw [show reg3.size = 32 from by kernel_rfl] at h1
    omega
def V3b (E : Int) : Nat → Value
  | 0 => .int .i64 E
  | 1 => .int .i64 E
  | 2 => .bool false
  | 3 => .bool false
  | 4 => .int .i64 E
  | 5 => .bool false
  | 6 => .bool false
  | 21 => .bool false
  | 22 => .bool false
  | 23 => .bool false
  | 24 => .int .i64 E
  | 25 => .bool true
  | 26 => .bool true
  | 27 => .agg none25
  | 28 => .agg none25
  | 29 => .bool false
  | 30 => .bool false
  | 31 => .bool false
  | _ => undef
set_option maxRecDepth 100000 in
set_option maxHeartbeats 1000000 in
theorem step3b (a0 : Act) (r : Nat) (E : Int) (S : Array Bool → World → Prop) (Q : Exit → Act → World → Prop) (h10 : a0.tmps[10]? = some (.int .i64 E)) (h11 : a0.tmps[11]? = some (.pointer (some ⟨r, 0, none⟩))) (h12 : a0.tmps[12]? = some (.int .i64 E))
    (hmv : ∀ i : Nat, decide (i < 32) = true → ∀ listed W, S listed W → S (listed.setIfInBounds i true) W) (hl27 : ∀ listed W, S listed W → listed.size = reg3.size → listed.getD 27 true = false → (∀ j, ((reg3[27]?).map fun o => o.after.any fun e => Region.binds .any e && e.on == j) = some true → listed.getD j false = true) → ∃ W2, (Instr.loadAt 34 (.pointer (some ⟨r, 0, none⟩))).run Tryd.prog W = .ok (.agg none25) W2 ∧ S (listed.setIfInBounds 27 true) W2) (hb28 : ∀ listed W, S listed W → listed.size = reg3.size → listed.getD 28 true = false → (∀ j, ((reg3[28]?).map fun o => o.after.any fun e => Region.binds .any e && e.on == j) = some true → listed.getD j false = true) → ∃ W2, (Instr.build 34 #[]).run Tryd.prog W = .ok (.agg none25) W2 ∧ S (listed.setIfInBounds 28 true) W2) (hq : ∀ W, (Op.equalIn 10000 34 (.agg none25) (.agg none25)).run Tryd.prog W = .ok true W) (hE1 : (E == 0) = false) (hE2 : (E != 0) = true)
    (i : Nat) (o : Oper) (a : Act) (w : World) (listed : Array Bool) (ho : reg3[i]? = some o) (hF : RFr reg3 a0 (V3b E) listed a) (hS : S listed w) (hls : listed.size = reg3.size) (hun : listed.getD i true = false) (hdep : ∀ e ∈ o.after, Region.binds .any e = true → listed.getD e.on false = true) :
      if Region.wanted o (yielded reg3 a.tmps) = true then Oper.wp Tryd.prog o a w (fun a' w' => a' = a.put o.dst (V3b E i) ∧ S (listed.setIfInBounds i true) w') Q else V3b E i = undef ∧ S (listed.setIfInBounds i true) w := by
  match i, ho with
  | 0, ho =>
    rw [if_pos (want_none (fact ho (by kernel_rfl)))]
    have hop : o.op = .move (.tmp 10) := fact ho (by kernel_rfl)
    have hds : o.dst = some 28 := fact ho (by kernel_rfl)
    have t10 := tm_old hF 10 _ h10 (by kernel_rfl)
    have hS2 := hmv 0 (by decide) listed w hS
    unfold Oper.wp
    simp [execOp, hop, hds, t10, go_sem, V3b, hS2]
  | 1, ho =>
    rw [if_pos (want_none (fact ho (by kernel_rfl)))]
    have hop : o.op = .move (.tmp 12) := fact ho (by kernel_rfl)
    have hds : o.dst = some 29 := fact ho (by kernel_rfl)
    have t12 := tm_old hF 12 _ h12 (by kernel_rfl)
    have hS2 := hmv 1 (by decide) listed w hS
    unfold Oper.wp
    simp [execOp, hop, hds, t12, go_sem, V3b, hS2]
  | 2, ho =>
    rw [if_pos (want_none (fact ho (by kernel_rfl)))]
    have hop : o.op = .binOp .neq 28 (.tmp 28) (.tmp 29) 28 := fact ho (by kernel_rfl)
    have hds : o.dst = some 30 := fact ho (by kernel_rfl)
    have t28 := tm_dep hF 0 28 (by kernel_rfl) (dep_of ho hdep 0 (by kernel_rfl))
    simp only [V3b] at t28
    have t29 := tm_dep hF 1 29 (by kernel_rfl) (dep_of ho hdep 1 (by kernel_rfl))
    simp only [V3b] at t29
    have hS2 := hmv 2 (by decide) listed w hS
    unfold Oper.wp
    simp [execOp, hop, hds, t28, t29, go_sem, V3b, hS2]
  | 3, ho =>
    rw [if_pos (want_none (fact ho (by kernel_rfl)))]
    have hop : o.op = .move (.tmp 30) := fact ho (by kernel_rfl)
    have hds : o.dst = some 31 := fact ho (by kernel_rfl)
    have t30 := tm_dep hF 2 30 (by kernel_rfl) (dep_of ho hdep 2 (by kernel_rfl))
    simp only [V3b] at t30
    have hS2 := hmv 3 (by decide) listed w hS
    unfold Oper.wp
    simp [execOp, hop, hds, t30, go_sem, V3b, hS2]
  | 4, ho =>
    have hy := yl_dep hF 3 31 false (by kernel_rfl) (dep_of ho hdep 3 (by kernel_rfl)) rfl
    have hgd : o.guard = some (3, false) := fact ho (by kernel_rfl)
    rw [if_pos (by rw [want_some hgd hy]; rfl)]
    have hop : o.op = .move (.tmp 10) := fact ho (by kernel_rfl)
    have hds : o.dst = some 32 := fact ho (by kernel_rfl)
    have t10 := tm_old hF 10 _ h10 (by kernel_rfl)
    have hS2 := hmv 4 (by decide) listed w hS
    unfold Oper.wp
    simp [execOp, hop, hds, t10, go_sem, V3b, hS2]
  | 5, ho =>
    have hy := yl_dep hF 3 31 false (by kernel_rfl) (dep_of ho hdep 3 (by kernel_rfl)) rfl
    have hgd : o.guard = some (3, false) := fact ho (by kernel_rfl)
    rw [if_pos (by rw [want_some hgd hy]; rfl)]
    have hop : o.op = .binOp .eql 28 (.tmp 32) (.const (.int .i64 0)) 28 := fact ho (by kernel_rfl)
    have hds : o.dst = some 33 := fact ho (by kernel_rfl)
    have t32 := tm_dep hF 4 32 (by kernel_rfl) (dep_of ho hdep 4 (by kernel_rfl))
    simp only [V3b] at t32
    have hS2 := hmv 5 (by decide) listed w hS
    unfold Oper.wp
    simp [execOp, hop, hds, t32, hE1, go_sem, V3b, hS2]
  | 6, ho =>
    have hy := yl_dep hF 3 31 false (by kernel_rfl) (dep_of ho hdep 3 (by kernel_rfl)) rfl
    have hgd : o.guard = some (3, false) := fact ho (by kernel_rfl)
    rw [if_pos (by rw [want_some hgd hy]; rfl)]
    have hop : o.op = .move (.tmp 33) := fact ho (by kernel_rfl)
    have hds : o.dst = some 34 := fact ho (by kernel_rfl)
    have t33 := tm_dep hF 5 33 (by kernel_rfl) (dep_of ho hdep 5 (by kernel_rfl))
    simp only [V3b] at t33
    have hS2 := hmv 6 (by decide) listed w hS
    unfold Oper.wp
    simp [execOp, hop, hds, t33, go_sem, V3b, hS2]
  | 7, ho =>
    have hy := yl_dep hF 6 34 false (by kernel_rfl) (dep_of ho hdep 6 (by kernel_rfl)) rfl
    have hgd : o.guard = some (6, true) := fact ho (by kernel_rfl)
    rw [if_neg (by rw [want_some hgd hy]; decide)]
    exact ⟨rfl, hmv 7 (by decide) listed w hS⟩
  | 8, ho =>
    have hy := yl_dep hF 6 34 false (by kernel_rfl) (dep_of ho hdep 6 (by kernel_rfl)) rfl
    have hgd : o.guard = some (6, true) := fact ho (by kernel_rfl)
    rw [if_neg (by rw [want_some hgd hy]; decide)]
    exact ⟨rfl, hmv 8 (by decide) listed w hS⟩
  | 9, ho =>
    have hy := yl_dep hF 6 34 false (by kernel_rfl) (dep_of ho hdep 6 (by kernel_rfl)) rfl
    have hgd : o.guard = some (6, true) := fact ho (by kernel_rfl)
    rw [if_neg (by rw [want_some hgd hy]; decide)]
    exact ⟨rfl, hmv 9 (by decide) listed w hS⟩
  | 10, ho =>
    have hy := yl_dep hF 6 34 false (by kernel_rfl) (dep_of ho hdep 6 (by kernel_rfl)) rfl
    have hgd : o.guard = some (6, true) := fact ho (by kernel_rfl)
    rw [if_neg (by rw [want_some hgd hy]; decide)]
    exact ⟨rfl, hmv 10 (by decide) listed w hS⟩
  | 11, ho =>
    have hy := yl_dep hF 6 34 false (by kernel_rfl) (dep_of ho hdep 6 (by kernel_rfl)) rfl
    have hgd : o.guard = some (6, true) := fact ho (by kernel_rfl)
    rw [if_neg (by rw [want_some hgd hy]; decide)]
    exact ⟨rfl, hmv 11 (by decide) listed w hS⟩
  | 12, ho =>
    have hy := yl_dep hF 6 34 false (by kernel_rfl) (dep_of ho hdep 6 (by kernel_rfl)) rfl
    have hgd : o.guard = some (6, true) := fact ho (by kernel_rfl)
    rw [if_neg (by rw [want_some hgd hy]; decide)]
    exact ⟨rfl, hmv 12 (by decide) listed w hS⟩
  | 13, ho =>
    have hy := yl_und hF 12 40 (by kernel_rfl) (dep_of ho hdep 12 (by kernel_rfl)) rfl
    have hgd : o.guard = some (12, false) := fact ho (by kernel_rfl)
    rw [if_neg (by rw [want_und hgd hy]; decide)]
    exact ⟨rfl, hmv 13 (by decide) listed w hS⟩
  | 14, ho =>
    have hy := yl_und hF 12 40 (by kernel_rfl) (dep_of ho hdep 12 (by kernel_rfl)) rfl
    have hgd : o.guard = some (12, false) := fact ho (by kernel_rfl)
    rw [if_neg (by rw [want_und hgd hy]; decide)]
    exact ⟨rfl, hmv 14 (by decide) listed w hS⟩
  | 15, ho =>
    have hy := yl_und hF 12 40 (by kernel_rfl) (dep_of ho hdep 12 (by kernel_rfl)) rfl
    have hgd : o.guard = some (12, false) := fact ho (by kernel_rfl)
    rw [if_neg (by rw [want_und hgd hy]; decide)]
    exact ⟨rfl, hmv 15 (by decide) listed w hS⟩
  | 16, ho =>
    have hy := yl_und hF 12 40 (by kernel_rfl) (dep_of ho hdep 12 (by kernel_rfl)) rfl
    have hgd : o.guard = some (12, false) := fact ho (by kernel_rfl)
    rw [if_neg (by rw [want_und hgd hy]; decide)]
    exact ⟨rfl, hmv 16 (by decide) listed w hS⟩
  | 17, ho =>
    have hy := yl_und hF 12 40 (by kernel_rfl) (dep_of ho hdep 12 (by kernel_rfl)) rfl
    have hgd : o.guard = some (12, false) := fact ho (by kernel_rfl)
    rw [if_neg (by rw [want_und hgd hy]; decide)]
    exact ⟨rfl, hmv 17 (by decide) listed w hS⟩
  | 18, ho =>
    have hy := yl_und hF 12 40 (by kernel_rfl) (dep_of ho hdep 12 (by kernel_rfl)) rfl
    have hgd : o.guard = some (12, false) := fact ho (by kernel_rfl)
    rw [if_neg (by rw [want_und hgd hy]; decide)]
    exact ⟨rfl, hmv 18 (by decide) listed w hS⟩
  | 19, ho =>
    have hy := yl_und hF 12 40 (by kernel_rfl) (dep_of ho hdep 12 (by kernel_rfl)) rfl
    have hgd : o.guard = some (12, false) := fact ho (by kernel_rfl)
    rw [if_neg (by rw [want_und hgd hy]; decide)]
    exact ⟨rfl, hmv 19 (by decide) listed w hS⟩
  | 20, ho =>
    have hy := yl_dep hF 6 34 false (by kernel_rfl) (dep_of ho hdep 6 (by kernel_rfl)) rfl
    have hgd : o.guard = some (6, true) := fact ho (by kernel_rfl)
    rw [if_neg (by rw [want_some hgd hy]; decide)]
    exact ⟨rfl, hmv 20 (by decide) listed w hS⟩
  | 21, ho =>
    have hy := yl_dep hF 3 31 false (by kernel_rfl) (dep_of ho hdep 3 (by kernel_rfl)) rfl
    have hgd : o.guard = some (3, false) := fact ho (by kernel_rfl)
    rw [if_pos (by rw [want_some hgd hy]; rfl)]
    have hop : o.op = .pick (.tmp 34) (.tmp 48) (.const (.bool false)) := fact ho (by kernel_rfl)
    have hds : o.dst = some 49 := fact ho (by kernel_rfl)
    have t34 := tm_dep hF 6 34 (by kernel_rfl) (dep_of ho hdep 6 (by kernel_rfl))
    simp only [V3b] at t34
    have t48 := tm_dep hF 20 48 (by kernel_rfl) (dep_of ho hdep 20 (by kernel_rfl))
    simp only [V3b] at t48
    have hS2 := hmv 21 (by decide) listed w hS
    unfold Oper.wp
    simp [execOp, hop, hds, t34, t48, go_sem, V3b, hS2]
  | 22, ho =>
    rw [if_pos (want_none (fact ho (by kernel_rfl)))]
    have hop : o.op = .pick (.tmp 31) (.const (.bool true)) (.tmp 49) := fact ho (by kernel_rfl)
    have hds : o.dst = some 50 := fact ho (by kernel_rfl)
    have t31 := tm_dep hF 3 31 (by kernel_rfl) (dep_of ho hdep 3 (by kernel_rfl))
    simp only [V3b] at t31
    have t49 := tm_dep hF 21 49 (by kernel_rfl) (dep_of ho hdep 21 (by kernel_rfl))
    simp only [V3b] at t49
    have hS2 := hmv 22 (by decide) listed w hS
    unfold Oper.wp
    simp [execOp, hop, hds, t31, t49, go_sem, V3b, hS2]
  | 23, ho =>
    rw [if_pos (want_none (fact ho (by kernel_rfl)))]
    have hop : o.op = .move (.tmp 50) := fact ho (by kernel_rfl)
    have hds : o.dst = some 51 := fact ho (by kernel_rfl)
    have t50 := tm_dep hF 22 50 (by kernel_rfl) (dep_of ho hdep 22 (by kernel_rfl))
    simp only [V3b] at t50
    have hS2 := hmv 23 (by decide) listed w hS
    unfold Oper.wp
    simp [execOp, hop, hds, t50, go_sem, V3b, hS2]
  | 24, ho =>
    have hy := yl_dep hF 23 51 false (by kernel_rfl) (dep_of ho hdep 23 (by kernel_rfl)) rfl
    have hgd : o.guard = some (23, false) := fact ho (by kernel_rfl)
    rw [if_pos (by rw [want_some hgd hy]; rfl)]
    have hop : o.op = .move (.tmp 10) := fact ho (by kernel_rfl)
    have hds : o.dst = some 52 := fact ho (by kernel_rfl)
    have t10 := tm_old hF 10 _ h10 (by kernel_rfl)
    have hS2 := hmv 24 (by decide) listed w hS
    unfold Oper.wp
    simp [execOp, hop, hds, t10, go_sem, V3b, hS2]
  | 25, ho =>
    have hy := yl_dep hF 23 51 false (by kernel_rfl) (dep_of ho hdep 23 (by kernel_rfl)) rfl
    have hgd : o.guard = some (23, false) := fact ho (by kernel_rfl)
    rw [if_pos (by rw [want_some hgd hy]; rfl)]
    have hop : o.op = .binOp .neq 28 (.tmp 52) (.const (.int .i64 0)) 28 := fact ho (by kernel_rfl)
    have hds : o.dst = some 53 := fact ho (by kernel_rfl)
    have t52 := tm_dep hF 24 52 (by kernel_rfl) (dep_of ho hdep 24 (by kernel_rfl))
    simp only [V3b] at t52
    have hS2 := hmv 25 (by decide) listed w hS
    unfold Oper.wp
    simp [execOp, hop, hds, t52, hE2, go_sem, V3b, hS2]
  | 26, ho =>
    have hy := yl_dep hF 23 51 false (by kernel_rfl) (dep_of ho hdep 23 (by kernel_rfl)) rfl
    have hgd : o.guard = some (23, false) := fact ho (by kernel_rfl)
    rw [if_pos (by rw [want_some hgd hy]; rfl)]
    have hop : o.op = .move (.tmp 53) := fact ho (by kernel_rfl)
    have hds : o.dst = some 54 := fact ho (by kernel_rfl)
    have t53 := tm_dep hF 25 53 (by kernel_rfl) (dep_of ho hdep 25 (by kernel_rfl))
    simp only [V3b] at t53
    have hS2 := hmv 26 (by decide) listed w hS
    unfold Oper.wp
    simp [execOp, hop, hds, t53, go_sem, V3b, hS2]
  | 27, ho =>
    have hy := yl_dep hF 26 54 true (by kernel_rfl) (dep_of ho hdep 26 (by kernel_rfl)) rfl
    have hgd : o.guard = some (26, true) := fact ho (by kernel_rfl)
    rw [if_pos (by rw [want_some hgd hy]; rfl)]
    have hop : o.op = .load 34 (.tmp 11) := fact ho (by kernel_rfl)
    have hds : o.dst = some 55 := fact ho (by kernel_rfl)
    have t11 := tm_old hF 11 _ h11 (by kernel_rfl)
    obtain ⟨W2, hr, hS2⟩ := hl27 listed w hS hls hun (fun j hj => dep_of ho hdep j hj)
    unfold Oper.wp
    simp [execOp, hop, hds, Act.eval, t11, hr, Oper.upon, Act.put, V3b, hS2]
  | 28, ho =>
    have hy := yl_dep hF 26 54 true (by kernel_rfl) (dep_of ho hdep 26 (by kernel_rfl)) rfl
    have hgd : o.guard = some (26, true) := fact ho (by kernel_rfl)
    rw [if_pos (by rw [want_some hgd hy]; rfl)]
    have hop : o.op = .build 34 #[] := fact ho (by kernel_rfl)
    have hds : o.dst = some 56 := fact ho (by kernel_rfl)
    obtain ⟨W2, hr, hS2⟩ := hb28 listed w hS hls hun (fun j hj => dep_of ho hdep j hj)
    unfold Oper.wp
    simp [execOp, hop, hds, hr, Oper.upon, Act.put, V3b, hS2]
  | 29, ho =>
    have hy := yl_dep hF 26 54 true (by kernel_rfl) (dep_of ho hdep 26 (by kernel_rfl)) rfl
    have hgd : o.guard = some (26, true) := fact ho (by kernel_rfl)
    rw [if_pos (by rw [want_some hgd hy]; rfl)]
    have hop : o.op = .binOp .neq 34 (.tmp 55) (.tmp 56) 34 := fact ho (by kernel_rfl)
    have hds : o.dst = some 57 := fact ho (by kernel_rfl)
    have t55 := tm_dep hF 27 55 (by kernel_rfl) (dep_of ho hdep 27 (by kernel_rfl))
    simp only [V3b] at t55
    have t56 := tm_dep hF 28 56 (by kernel_rfl) (dep_of ho hdep 28 (by kernel_rfl))
    simp only [V3b] at t56
    have hS2 := hmv 29 (by decide) listed w hS
    unfold Oper.wp
    simp [execOp, hop, hds, t55, t56, hq, go_sem, V3b, hS2]
  | 30, ho =>
    have hy := yl_dep hF 23 51 false (by kernel_rfl) (dep_of ho hdep 23 (by kernel_rfl)) rfl
    have hgd : o.guard = some (23, false) := fact ho (by kernel_rfl)
    rw [if_pos (by rw [want_some hgd hy]; rfl)]
    have hop : o.op = .pick (.tmp 54) (.tmp 57) (.const (.bool false)) := fact ho (by kernel_rfl)
    have hds : o.dst = some 58 := fact ho (by kernel_rfl)
    have t54 := tm_dep hF 26 54 (by kernel_rfl) (dep_of ho hdep 26 (by kernel_rfl))
    simp only [V3b] at t54
    have t57 := tm_dep hF 29 57 (by kernel_rfl) (dep_of ho hdep 29 (by kernel_rfl))
    simp only [V3b] at t57
    have hS2 := hmv 30 (by decide) listed w hS
    unfold Oper.wp
    simp [execOp, hop, hds, t54, t57, go_sem, V3b, hS2]
  | 31, ho =>
    rw [if_pos (want_none (fact ho (by kernel_rfl)))]
    have hop : o.op = .pick (.tmp 51) (.const (.bool true)) (.tmp 58) := fact ho (by kernel_rfl)
    have hds : o.dst = some 59 := fact ho (by kernel_rfl)
    have t51 := tm_dep hF 23 51 (by kernel_rfl) (dep_of ho hdep 23 (by kernel_rfl))
    simp only [V3b] at t51
    have t58 := tm_dep hF 30 58 (by kernel_rfl) (dep_of ho hdep 30 (by kernel_rfl))
    simp only [V3b] at t58
    have hS2 := hmv 31 (by decide) listed w hS
    unfold Oper.wp
    simp [execOp, hop, hds, t51, t58, go_sem, V3b, hS2]
  | n + 32, ho =>
    exfalso
    have h1 : n + 32 < reg3.size := (Array.getElem?_eq_some_iff.1 ho).1
    rw [show reg3.size = 32 from by kernel_rfl] at h1
    omega
set_option maxRecDepth 100000 in
theorem put3 (X : Nat → Value) (v0 v1 v2 v3 v4 v5 v6 v7 v8 v9 v10 v11 v12 v13 v14 v15 v16 v17 v18 v19 v20 v21 v22 v23 v24 v25 v26 v27 v28 v29 v30 v31 v32 v33 v34 v35 v36 v37 v38 v39 v40 v41 v42 v43 v44 v45 v46 v47 v48 v49 v50 v51 v52 v53 v54 v55 v56 v57 v58 v59 v60 v61 v62 v63 v64 v65 v66 v67 v68 v69 v70 v71 v72 v73 v74 v75 v76 v77 v78 v79 v80 v81 v82 v83 v84 v85 v86 v87 v88 v89 v90 v91 v92 v93 v94 v95 v96 v97 v98 v99 v100 v101 v102 v103 v104 v105 v106 v107 v108 v109 v110 v111 v112 v113 v114 v115 v116 v117 v118 v119 v120 v121 v122 v123 v124 v125 v126 v127 v128 v129 v130 v131 v132 v133 v134 v135 v136 v137 v138 v139 v140 v141 v142 v143 v144 v145 v146 v147 v148 v149 v150 v151 v152 v153 v154 v155 v156 v157 v158 v159 v160 v161 v162 v163 v164 v165 v166 v167 v168 v169 v170 v171 v172 v173 v174 v175 v176 v177 v178 v179 v180 v181 v182 v183 v184 v185 v186 : Value) : putN reg3 X ⟨#[v0, v1, v2, v3, v4, v5, v6, v7, v8, v9, v10, v11, v12, v13, v14, v15, v16, v17, v18, v19, v20, v21, v22, v23, v24, v25, v26, v27, v28, v29, v30, v31, v32, v33, v34, v35, v36, v37, v38, v39, v40, v41, v42, v43, v44, v45, v46, v47, v48, v49, v50, v51, v52, v53, v54, v55, v56, v57, v58, v59, v60, v61, v62, v63, v64, v65, v66, v67, v68, v69, v70, v71, v72, v73, v74, v75, v76, v77, v78, v79, v80, v81, v82, v83, v84, v85, v86, v87, v88, v89, v90, v91, v92, v93, v94, v95, v96, v97, v98, v99, v100, v101, v102, v103, v104, v105, v106, v107, v108, v109, v110, v111, v112, v113, v114, v115, v116, v117, v118, v119, v120, v121, v122, v123, v124, v125, v126, v127, v128, v129, v130, v131, v132, v133, v134, v135, v136, v137, v138, v139, v140, v141, v142, v143, v144, v145, v146, v147, v148, v149, v150, v151, v152, v153, v154, v155, v156, v157, v158, v159, v160, v161, v162, v163, v164, v165, v166, v167, v168, v169, v170, v171, v172, v173, v174, v175, v176, v177, v178, v179, v180, v181, v182, v183, v184, v185, v186], []⟩ reg3.size = ⟨#[v0, v1, v2, v3, v4, v5, v6, v7, v8, v9, v10, v11, v12, v13, v14, v15, v16, v17, v18, v19, v20, v21, v22, v23, v24, v25, v26, v27, X 0, X 1, X 2, X 3, X 4, X 5, X 6, X 7, X 8, X 9, X 10, X 11, X 12, X 13, X 14, X 15, X 16, X 17, X 18, X 19, X 20, X 21, X 22, X 23, X 24, X 25, X 26, X 27, X 28, X 29, X 30, X 31, v60, v61, v62, v63, v64, v65, v66, v67, v68, v69, v70, v71, v72, v73, v74, v75, v76, v77, v78, v79, v80, v81, v82, v83, v84, v85, v86, v87, v88, v89, v90, v91, v92, v93, v94, v95, v96, v97, v98, v99, v100, v101, v102, v103, v104, v105, v106, v107, v108, v109, v110, v111, v112, v113, v114, v115, v116, v117, v118, v119, v120, v121, v122, v123, v124, v125, v126, v127, v128, v129, v130, v131, v132, v133, v134, v135, v136, v137, v138, v139, v140, v141, v142, v143, v144, v145, v146, v147, v148, v149, v150, v151, v152, v153, v154, v155, v156, v157, v158, v159, v160, v161, v162, v163, v164, v165, v166, v167, v168, v169, v170, v171, v172, v173, v174, v175, v176, v177, v178, v179, v180, v181, v182, v183, v184, v185, v186], []⟩ := by kernel_rfl
end Go.Proofs.YtlkbhgjmppcfoaaDoor
