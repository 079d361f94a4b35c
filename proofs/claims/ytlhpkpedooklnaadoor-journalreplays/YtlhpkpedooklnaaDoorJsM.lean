/- The operations of diskOf's region, each by its value. Made by a program. -/
import Derived.Test.YtlhpkpedooklnaaDoorJr9
namespace Go.Proofs.YtlhpkpedooklnaaDoor
open Go.RowKit
noncomputable def regD : Array Oper := ((Tryd.f4.body.bind (findR 1)).getD #[])
theorem okRD : okR regD 13 = true := by kernel_rfl
theorem sizeRD : regD.size = 11 := by kernel_rfl
def VD (g _r p0 p1 n0 n1 na ca nb cb : Nat) (oa ob : Option Addr) : Nat → Value
  | 0 => .pointer (some ⟨g, 0, none⟩)
  | 1 => .pointer (some ⟨g, 0, none⟩)
  | 2 => .slice oa na ca
  | 3 => .slice (some ⟨p0, 0, none⟩) n0 n0
  | 4 => .pointer (some ⟨g, 0, none⟩)
  | 5 => .pointer (some ⟨g, 1, none⟩)
  | 6 => .slice ob nb cb
  | 7 => .slice (some ⟨p1, 0, none⟩) n1 n1
  | 8 => .agg #[.slice (some ⟨p0, 0, none⟩) n0 n0, .slice (some ⟨p1, 0, none⟩) n1 n1]
  | 9 => .agg #[.slice (some ⟨p0, 0, none⟩) n0 n0, .slice (some ⟨p1, 0, none⟩) n1 n1]
  | _ => undef
set_option maxRecDepth 100000 in
set_option maxHeartbeats 1000000 in
theorem stepD (a0 : Act) (g r p0 p1 n0 n1 na ca nb cb : Nat) (oa ob : Option Addr) (S : Array Bool → World → Prop) (Q : Exit → Act → World → Prop) (h1 : a0.tmps[1]? = some (.pointer (some ⟨g, 0, none⟩))) (h2 : a0.tmps[2]? = some (.pointer (some ⟨r, 0, none⟩)))
    (hmv : ∀ i : Nat, decide (i < 11 ∧ i ≠ 3 ∧ i ≠ 7 ∧ i ≠ 8 ∧ i ≠ 10) = true → ∀ listed W, S listed W → S (listed.setIfInBounds i true) W) (hc3 : ∀ listed W, S listed W → listed.size = regD.size → listed.getD 3 true = false → (∀ j, ((regD[3]?).map fun o => o.after.any fun e => Region.binds .any e && e.on == j) = some true → listed.getD j false = true) → Calls Tryd.prog 9 #[.slice oa na ca] W fun e w' => e = .returned (.slice (some ⟨p0, 0, none⟩) n0 n0) ∧ S (listed.setIfInBounds 3 true) w') (hc7 : ∀ listed W, S listed W → listed.size = regD.size → listed.getD 7 true = false → (∀ j, ((regD[7]?).map fun o => o.after.any fun e => Region.binds .any e && e.on == j) = some true → listed.getD j false = true) → Calls Tryd.prog 9 #[.slice ob nb cb] W fun e w' => e = .returned (.slice (some ⟨p1, 0, none⟩) n1 n1) ∧ S (listed.setIfInBounds 7 true) w') (hl2 : ∀ listed W, S listed W → listed.size = regD.size → listed.getD 2 true = false → (∀ j, ((regD[2]?).map fun o => o.after.any fun e => Region.binds .any e && e.on == j) = some true → listed.getD j false = true) → ∃ W2, (Instr.loadAt 22 (.pointer (some ⟨g, 0, none⟩))).run Tryd.prog W = .ok (.slice oa na ca) W2 ∧ S (listed.setIfInBounds 2 true) W2) (hl6 : ∀ listed W, S listed W → listed.size = regD.size → listed.getD 6 true = false → (∀ j, ((regD[6]?).map fun o => o.after.any fun e => Region.binds .any e && e.on == j) = some true → listed.getD j false = true) → ∃ W2, (Instr.loadAt 22 (.pointer (some ⟨g, 1, none⟩))).run Tryd.prog W = .ok (.slice ob nb cb) W2 ∧ S (listed.setIfInBounds 6 true) W2) (hb8 : ∀ listed W, S listed W → listed.size = regD.size → listed.getD 8 true = false → (∀ j, ((regD[8]?).map fun o => o.after.any fun e => Region.binds .any e && e.on == j) = some true → listed.getD j false = true) → ∃ W2, (Instr.build 23 #[(0, .slice (some ⟨p0, 0, none⟩) n0 n0), (1, .slice (some ⟨p1, 0, none⟩) n1 n1)]).run Tryd.prog W = .ok (.agg #[.slice (some ⟨p0, 0, none⟩) n0 n0, .slice (some ⟨p1, 0, none⟩) n1 n1]) W2 ∧ S (listed.setIfInBounds 8 true) W2) (hb9 : ∀ listed W, S listed W → listed.size = regD.size → listed.getD 9 true = false → (∀ j, ((regD[9]?).map fun o => o.after.any fun e => Region.binds .any e && e.on == j) = some true → listed.getD j false = true) → ∃ W2, (Instr.build 25 #[(0, .agg #[.slice (some ⟨p0, 0, none⟩) n0 n0, .slice (some ⟨p1, 0, none⟩) n1 n1])]).run Tryd.prog W = .ok (.agg #[.slice (some ⟨p0, 0, none⟩) n0 n0, .slice (some ⟨p1, 0, none⟩) n1 n1]) W2 ∧ S (listed.setIfInBounds 9 true) W2) (ht10 : ∀ listed W, S listed W → listed.size = regD.size → listed.getD 10 true = false → (∀ j, ((regD[10]?).map fun o => o.after.any fun e => Region.binds .any e && e.on == j) = some true → listed.getD j false = true) → ∃ W2, (Instr.storeAt 25 (.pointer (some ⟨r, 0, none⟩)) (.agg #[.slice (some ⟨p0, 0, none⟩) n0 n0, .slice (some ⟨p1, 0, none⟩) n1 n1])).run Tryd.prog W = .ok (()) W2 ∧ S (listed.setIfInBounds 10 true) W2)
    (i : Nat) (o : Oper) (a : Act) (w : World) (listed : Array Bool) (ho : regD[i]? = some o) (hF : RFr regD a0 (VD g r p0 p1 n0 n1 na ca nb cb oa ob) listed a) (hS : S listed w) (hls : listed.size = regD.size) (hun : listed.getD i true = false) (hdep : ∀ e ∈ o.after, Region.binds .any e = true → listed.getD e.on false = true) :
      if Region.wanted o (yielded regD a.tmps) = true then Oper.wp Tryd.prog o a w (fun a' w' => a' = a.put o.dst (VD g r p0 p1 n0 n1 na ca nb cb oa ob i) ∧ S (listed.setIfInBounds i true) w') Q else VD g r p0 p1 n0 n1 na ca nb cb oa ob i = undef ∧ S (listed.setIfInBounds i true) w := by
  match i, ho with
  | 0, ho =>
    rw [if_pos (want_none (fact ho (by kernel_rfl)))]
    have hop : o.op = .fieldAddr 25 (.tmp 1) 0 := fact ho (by kernel_rfl)
    have hds : o.dst = some 3 := fact ho (by kernel_rfl)
    have t1 := tm_old hF 1 _ h1 (by kernel_rfl)
    have hS2 := hmv 0 (by decide) listed w hS
    unfold Oper.wp
    simp [execOp, hop, hds, t1, go_sem, VD, hS2]
  | 1, ho =>
    rw [if_pos (want_none (fact ho (by kernel_rfl)))]
    have hop : o.op = .indexAddr 23 (.tmp 3) (.const (.int .i64 0)) := fact ho (by kernel_rfl)
    have hds : o.dst = some 4 := fact ho (by kernel_rfl)
    have t3 := tm_dep hF 0 3 (by kernel_rfl) (dep_of ho hdep 0 (by kernel_rfl))
    simp only [VD] at t3
    have hS2 := hmv 1 (by decide) listed w hS
    unfold Oper.wp
    simp [execOp, hop, hds, t3, go_sem, VD, hS2]
  | 2, ho =>
    rw [if_pos (want_none (fact ho (by kernel_rfl)))]
    have hop : o.op = .load 22 (.tmp 4) := fact ho (by kernel_rfl)
    have hds : o.dst = some 5 := fact ho (by kernel_rfl)
    have t4 := tm_dep hF 1 4 (by kernel_rfl) (dep_of ho hdep 1 (by kernel_rfl))
    simp only [VD] at t4
    obtain ⟨W2, hr, hS2⟩ := hl2 listed w hS hls hun (fun j hj => dep_of ho hdep j hj)
    unfold Oper.wp
    simp [execOp, hop, hds, Act.eval, t4, hr, Oper.upon, Act.put, VD, hS2]
  | 3, ho =>
    rw [if_pos (want_none (fact ho (by kernel_rfl)))]
    have hop : o.op = .call { callee := .value (.func 9), args := #[.tmp 5], argTypes := #[22] } := fact ho (by kernel_rfl)
    have hds : o.dst = some 6 := fact ho (by kernel_rfl)
    have t5 := tm_dep hF 2 5 (by kernel_rfl) (dep_of ho hdep 2 (by kernel_rfl))
    simp only [VD] at t5
    unfold Oper.wp
    simp [execOp, hop, hds, t5, go_sem, VD]
    refine (hc3 listed w hS hls hun (fun j hj => dep_of ho hdep j hj)).mono ?_
    rintro e w' ⟨rfl, hS'⟩
    exact ⟨rfl, hS'⟩
  | 4, ho =>
    rw [if_pos (want_none (fact ho (by kernel_rfl)))]
    have hop : o.op = .fieldAddr 25 (.tmp 1) 0 := fact ho (by kernel_rfl)
    have hds : o.dst = some 7 := fact ho (by kernel_rfl)
    have t1 := tm_old hF 1 _ h1 (by kernel_rfl)
    have hS2 := hmv 4 (by decide) listed w hS
    unfold Oper.wp
    simp [execOp, hop, hds, t1, go_sem, VD, hS2]
  | 5, ho =>
    rw [if_pos (want_none (fact ho (by kernel_rfl)))]
    have hop : o.op = .indexAddr 23 (.tmp 7) (.const (.int .i64 1)) := fact ho (by kernel_rfl)
    have hds : o.dst = some 8 := fact ho (by kernel_rfl)
    have t7 := tm_dep hF 4 7 (by kernel_rfl) (dep_of ho hdep 4 (by kernel_rfl))
    simp only [VD] at t7
    have hS2 := hmv 5 (by decide) listed w hS
    unfold Oper.wp
    simp [execOp, hop, hds, t7, go_sem, VD, hS2]
  | 6, ho =>
    rw [if_pos (want_none (fact ho (by kernel_rfl)))]
    have hop : o.op = .load 22 (.tmp 8) := fact ho (by kernel_rfl)
    have hds : o.dst = some 9 := fact ho (by kernel_rfl)
    have t8 := tm_dep hF 5 8 (by kernel_rfl) (dep_of ho hdep 5 (by kernel_rfl))
    simp only [VD] at t8
    obtain ⟨W2, hr, hS2⟩ := hl6 listed w hS hls hun (fun j hj => dep_of ho hdep j hj)
    unfold Oper.wp
    simp [execOp, hop, hds, Act.eval, t8, hr, Oper.upon, Act.put, VD, hS2]
  | 7, ho =>
    rw [if_pos (want_none (fact ho (by kernel_rfl)))]
    have hop : o.op = .call { callee := .value (.func 9), args := #[.tmp 9], argTypes := #[22] } := fact ho (by kernel_rfl)
    have hds : o.dst = some 10 := fact ho (by kernel_rfl)
    have t9 := tm_dep hF 6 9 (by kernel_rfl) (dep_of ho hdep 6 (by kernel_rfl))
    simp only [VD] at t9
    unfold Oper.wp
    simp [execOp, hop, hds, t9, go_sem, VD]
    refine (hc7 listed w hS hls hun (fun j hj => dep_of ho hdep j hj)).mono ?_
    rintro e w' ⟨rfl, hS'⟩
    exact ⟨rfl, hS'⟩
  | 8, ho =>
    rw [if_pos (want_none (fact ho (by kernel_rfl)))]
    have hop : o.op = .build 23 #[(0, .tmp 6), (1, .tmp 10)] := fact ho (by kernel_rfl)
    have hds : o.dst = some 11 := fact ho (by kernel_rfl)
    have t6 := tm_dep hF 3 6 (by kernel_rfl) (dep_of ho hdep 3 (by kernel_rfl))
    simp only [VD] at t6
    have t10 := tm_dep hF 7 10 (by kernel_rfl) (dep_of ho hdep 7 (by kernel_rfl))
    simp only [VD] at t10
    obtain ⟨W2, hr, hS2⟩ := hb8 listed w hS hls hun (fun j hj => dep_of ho hdep j hj)
    unfold Oper.wp
    simp [execOp, hop, hds, Act.eval, t6, t10, hr, Oper.upon, Act.put, VD, hS2]
  | 9, ho =>
    rw [if_pos (want_none (fact ho (by kernel_rfl)))]
    have hop : o.op = .build 25 #[(0, .tmp 11)] := fact ho (by kernel_rfl)
    have hds : o.dst = some 12 := fact ho (by kernel_rfl)
    have t11 := tm_dep hF 8 11 (by kernel_rfl) (dep_of ho hdep 8 (by kernel_rfl))
    simp only [VD] at t11
    obtain ⟨W2, hr, hS2⟩ := hb9 listed w hS hls hun (fun j hj => dep_of ho hdep j hj)
    unfold Oper.wp
    simp [execOp, hop, hds, Act.eval, t11, hr, Oper.upon, Act.put, VD, hS2]
  | 10, ho =>
    rw [if_pos (want_none (fact ho (by kernel_rfl)))]
    have hop : o.op = .store 25 (.tmp 2) (.tmp 12) := fact ho (by kernel_rfl)
    have hds : o.dst = none := fact ho (by kernel_rfl)
    have t2 := tm_old hF 2 _ h2 (by kernel_rfl)
    have t12 := tm_dep hF 9 12 (by kernel_rfl) (dep_of ho hdep 9 (by kernel_rfl))
    simp only [VD] at t12
    obtain ⟨W2, hr, hS2⟩ := ht10 listed w hS hls hun (fun j hj => dep_of ho hdep j hj)
    unfold Oper.wp
    simp [execOp, hop, hds, Act.eval, t2, t12, hr, Oper.upon, Act.put, hS2]
  | n + 11, ho =>
    exfalso
    have h1 : n + 11 < regD.size := (Array.getElem?_eq_some_iff.1 ho).1
    rw [show regD.size = 11 from by kernel_rfl] at h1
    omega
set_option maxRecDepth 100000 in
theorem putD (X : Nat → Value) (v0 v1 v2 v3 v4 v5 v6 v7 v8 v9 v10 v11 v12 : Value) : putN regD X ⟨#[v0, v1, v2, v3, v4, v5, v6, v7, v8, v9, v10, v11, v12], []⟩ regD.size = ⟨#[v0, v1, v2, X 0, X 1, X 2, X 3, X 4, X 5, X 6, X 7, X 8, X 9], []⟩ := by kernel_rfl
end Go.Proofs.YtlhpkpedooklnaaDoor
