/- Recipes: the operations of kept's drawn region, each by its value. Made by a program. -/
import Derived.Test.YtcggaiplepekdaaRcQ
import Derived.Test.YtcggaiplepekdaaRcE
namespace Go.Proofs.Ytcggaiplepekdaa
open Go.RowKit

noncomputable def regK : Array Oper := ((Try.f16.body.bind (findR 2)).getD #[])
theorem ok_regK : okR regK 120 = true := by kernel_rfl
def VK (rb _xb _yb g0 p0 N0 n0 c0 g1 p1 N1 n1 c1 g2 p2 N2 n2 c2 g3 p3 N3 n3 c3 g4 p4 N4 n4 c4 : Nat) (A1 A2 : Array Value) : Nat → Value
  | 0 => .agg A1
  | 1 => .agg A2
  | 2 => .bool true
  | 3 => .bool false
  | 4 => .bool false
  | 5 => .pointer (some ⟨rb, 0, none⟩)
  | 6 => .pointer (some ⟨rb, 0, none⟩)
  | 7 => .pointer (some ⟨rb, 0, none⟩)
  | 8 => .slice (some ⟨g0, p0, none⟩) N0 c0
  | 9 => .pointer (some ⟨rb, 0, none⟩)
  | 10 => .pointer (some ⟨rb, 0, none⟩)
  | 11 => .pointer (some ⟨rb, 0, none⟩)
  | 12 => .slice (some ⟨g0, p0, none⟩) N0 c0
  | 13 => .int .i64 (N0 : Int)
  | 14 => .int .i64 (n0 : Int)
  | 15 => .pointer (some ⟨g0, p0 + n0 * 4, none⟩)
  | 16 => .agg #[.string ⟨#[98, 101, 104, 105, 110, 100]⟩, .string ⟨#[]⟩, .string ⟨#[]⟩, .string ⟨#[]⟩]
  | 17 => .agg #[.string ⟨#[98, 101, 104, 105, 110, 100]⟩, .string ⟨#[]⟩, .string ⟨#[]⟩, .string ⟨#[]⟩]
  | 18 => .bool false
  | 19 => .bool false
  | 20 => .bool false
  | 21 => .pointer (some ⟨rb, 0, none⟩)
  | 22 => .pointer (some ⟨rb, 0, none⟩)
  | 23 => .pointer (some ⟨rb, 1, none⟩)
  | 24 => .slice (some ⟨g1, p1, none⟩) N1 c1
  | 25 => .pointer (some ⟨rb, 0, none⟩)
  | 26 => .pointer (some ⟨rb, 0, none⟩)
  | 27 => .pointer (some ⟨rb, 1, none⟩)
  | 28 => .slice (some ⟨g1, p1, none⟩) N1 c1
  | 29 => .int .i64 (N1 : Int)
  | 30 => .int .i64 (n1 : Int)
  | 31 => .pointer (some ⟨g1, p1 + n1 * 2, none⟩)
  | 32 => .pointer (some ⟨g1, p1 + n1 * 2, none⟩)
  | 33 => .string ⟨#[98, 101, 104, 105, 110, 100]⟩
  | 34 => .bool false
  | 35 => .bool false
  | 36 => .bool false
  | 37 => .pointer (some ⟨rb, 0, none⟩)
  | 38 => .pointer (some ⟨rb, 0, none⟩)
  | 39 => .pointer (some ⟨rb, 2, none⟩)
  | 40 => .slice (some ⟨g2, p2, none⟩) N2 c2
  | 41 => .pointer (some ⟨rb, 0, none⟩)
  | 42 => .pointer (some ⟨rb, 0, none⟩)
  | 43 => .pointer (some ⟨rb, 2, none⟩)
  | 44 => .slice (some ⟨g2, p2, none⟩) N2 c2
  | 45 => .int .i64 (N2 : Int)
  | 46 => .int .i64 (n2 : Int)
  | 47 => .pointer (some ⟨g2, p2 + n2, none⟩)
  | 48 => .string ⟨#[98, 101, 104, 105, 110, 100]⟩
  | 49 => .bool false
  | 50 => .bool false
  | 51 => .bool false
  | 52 => .pointer (some ⟨rb, 0, none⟩)
  | 53 => .pointer (some ⟨rb, 0, none⟩)
  | 54 => .pointer (some ⟨rb, 3, none⟩)
  | 55 => .slice (some ⟨g3, p3, none⟩) N3 c3
  | 56 => .pointer (some ⟨rb, 0, none⟩)
  | 57 => .pointer (some ⟨rb, 0, none⟩)
  | 58 => .pointer (some ⟨rb, 3, none⟩)
  | 59 => .slice (some ⟨g3, p3, none⟩) N3 c3
  | 60 => .int .i64 (N3 : Int)
  | 61 => .int .i64 (n3 : Int)
  | 62 => .pointer (some ⟨g3, p3 + n3, none⟩)
  | 63 => .string ⟨#[98, 101, 104, 105, 110, 100]⟩
  | 64 => .bool false
  | 65 => .bool false
  | 66 => .bool false
  | 67 => .pointer (some ⟨rb, 0, none⟩)
  | 68 => .pointer (some ⟨rb, 0, none⟩)
  | 69 => .pointer (some ⟨rb, 4, none⟩)
  | 70 => .slice (some ⟨g4, p4, none⟩) N4 c4
  | 71 => .pointer (some ⟨rb, 0, none⟩)
  | 72 => .pointer (some ⟨rb, 0, none⟩)
  | 73 => .pointer (some ⟨rb, 4, none⟩)
  | 74 => .slice (some ⟨g4, p4, none⟩) N4 c4
  | 75 => .int .i64 (N4 : Int)
  | 76 => .int .i64 (n4 : Int)
  | 77 => .pointer (some ⟨g4, p4 + n4 * 2, none⟩)
  | 78 => .pointer (some ⟨g4, p4 + n4 * 2, none⟩)
  | 79 => .string ⟨#[98, 101, 104, 105, 110, 100]⟩
  | 80 => .bool false
  | 81 => .bool false
  | _ => undef
set_option maxRecDepth 100000 in
set_option maxHeartbeats 12800000 in
theorem stepK1 (a0 : Act) (rb xb yb g0 p0 N0 n0 c0 g1 p1 N1 n1 c1 g2 p2 N2 n2 c2 g3 p3 N3 n3 c3 g4 p4 N4 n4 c4 : Nat) (A1 A2 : Array Value) (S : Array Bool → World → Prop) (Q : Exit → Act → World → Prop) (h0 : a0.tmps[0]? = some (.pointer (some ⟨rb, 0, none⟩))) (h3 : a0.tmps[3]? = some (.pointer (some ⟨yb, 0, none⟩))) (h5 : a0.tmps[5]? = some (.pointer (some ⟨xb, 0, none⟩)))
    (hmv : ∀ i : Nat, decide (i < 82) = true → ∀ listed W, S listed W → S (listed.setIfInBounds i true) W) (hc : ∀ listed W, S listed W → listed.size = regK.size → listed.getD 2 true = false → (∀ j, ((regK[2]?).map fun o => o.after.any fun e => Region.binds .any e && e.on == j) = some true → listed.getD j false = true) → Calls Try.prog 15 #[.agg A1, .agg A2] W fun e w' => e = .returned (.bool true) ∧ S (listed.setIfInBounds 2 true) w') (hl0 : ∀ listed W, S listed W → listed.size = regK.size → listed.getD 0 true = false → (∀ j, ((regK[0]?).map fun o => o.after.any fun e => Region.binds .any e && e.on == j) = some true → listed.getD j false = true) → ∃ W2, (Instr.loadAt 27 (.pointer (some ⟨xb, 0, none⟩))).run Try.prog W = .ok (.agg A1) W2 ∧ S (listed.setIfInBounds 0 true) W2) (hl1 : ∀ listed W, S listed W → listed.size = regK.size → listed.getD 1 true = false → (∀ j, ((regK[1]?).map fun o => o.after.any fun e => Region.binds .any e && e.on == j) = some true → listed.getD j false = true) → ∃ W2, (Instr.loadAt 27 (.pointer (some ⟨yb, 0, none⟩))).run Try.prog W = .ok (.agg A2) W2 ∧ S (listed.setIfInBounds 1 true) W2) (hl8 : ∀ listed W, S listed W → listed.size = regK.size → listed.getD 8 true = false → (∀ j, ((regK[8]?).map fun o => o.after.any fun e => Region.binds .any e && e.on == j) = some true → listed.getD j false = true) → ∃ W2, (Instr.loadAt 22 (.pointer (some ⟨rb, 0, none⟩))).run Try.prog W = .ok (.slice (some ⟨g0, p0, none⟩) N0 c0) W2 ∧ S (listed.setIfInBounds 8 true) W2) (hl12 : ∀ listed W, S listed W → listed.size = regK.size → listed.getD 12 true = false → (∀ j, ((regK[12]?).map fun o => o.after.any fun e => Region.binds .any e && e.on == j) = some true → listed.getD j false = true) → ∃ W2, (Instr.loadAt 22 (.pointer (some ⟨rb, 0, none⟩))).run Try.prog W = .ok (.slice (some ⟨g0, p0, none⟩) N0 c0) W2 ∧ S (listed.setIfInBounds 12 true) W2) (hl16 : ∀ listed W, S listed W → listed.size = regK.size → listed.getD 16 true = false → (∀ j, ((regK[16]?).map fun o => o.after.any fun e => Region.binds .any e && e.on == j) = some true → listed.getD j false = true) → ∃ W2, (Instr.loadAt 39 (.pointer (some ⟨g0, p0 + n0 * 4, none⟩))).run Try.prog W = .ok (.agg #[.string ⟨#[98, 101, 104, 105, 110, 100]⟩, .string ⟨#[]⟩, .string ⟨#[]⟩, .string ⟨#[]⟩]) W2 ∧ S (listed.setIfInBounds 16 true) W2) (hl24 : ∀ listed W, S listed W → listed.size = regK.size → listed.getD 24 true = false → (∀ j, ((regK[24]?).map fun o => o.after.any fun e => Region.binds .any e && e.on == j) = some true → listed.getD j false = true) → ∃ W2, (Instr.loadAt 23 (.pointer (some ⟨rb, 1, none⟩))).run Try.prog W = .ok (.slice (some ⟨g1, p1, none⟩) N1 c1) W2 ∧ S (listed.setIfInBounds 24 true) W2) (hl28 : ∀ listed W, S listed W → listed.size = regK.size → listed.getD 28 true = false → (∀ j, ((regK[28]?).map fun o => o.after.any fun e => Region.binds .any e && e.on == j) = some true → listed.getD j false = true) → ∃ W2, (Instr.loadAt 23 (.pointer (some ⟨rb, 1, none⟩))).run Try.prog W = .ok (.slice (some ⟨g1, p1, none⟩) N1 c1) W2 ∧ S (listed.setIfInBounds 28 true) W2) (hl33 : ∀ listed W, S listed W → listed.size = regK.size → listed.getD 33 true = false → (∀ j, ((regK[33]?).map fun o => o.after.any fun e => Region.binds .any e && e.on == j) = some true → listed.getD j false = true) → ∃ W2, (Instr.loadAt 9 (.pointer (some ⟨g1, p1 + n1 * 2, none⟩))).run Try.prog W = .ok (.string ⟨#[98, 101, 104, 105, 110, 100]⟩) W2 ∧ S (listed.setIfInBounds 33 true) W2) (hl40 : ∀ listed W, S listed W → listed.size = regK.size → listed.getD 40 true = false → (∀ j, ((regK[40]?).map fun o => o.after.any fun e => Region.binds .any e && e.on == j) = some true → listed.getD j false = true) → ∃ W2, (Instr.loadAt 24 (.pointer (some ⟨rb, 2, none⟩))).run Try.prog W = .ok (.slice (some ⟨g2, p2, none⟩) N2 c2) W2 ∧ S (listed.setIfInBounds 40 true) W2) (hl44 : ∀ listed W, S listed W → listed.size = regK.size → listed.getD 44 true = false → (∀ j, ((regK[44]?).map fun o => o.after.any fun e => Region.binds .any e && e.on == j) = some true → listed.getD j false = true) → ∃ W2, (Instr.loadAt 24 (.pointer (some ⟨rb, 2, none⟩))).run Try.prog W = .ok (.slice (some ⟨g2, p2, none⟩) N2 c2) W2 ∧ S (listed.setIfInBounds 44 true) W2) (hl48 : ∀ listed W, S listed W → listed.size = regK.size → listed.getD 48 true = false → (∀ j, ((regK[48]?).map fun o => o.after.any fun e => Region.binds .any e && e.on == j) = some true → listed.getD j false = true) → ∃ W2, (Instr.loadAt 9 (.pointer (some ⟨g2, p2 + n2, none⟩))).run Try.prog W = .ok (.string ⟨#[98, 101, 104, 105, 110, 100]⟩) W2 ∧ S (listed.setIfInBounds 48 true) W2) (hl55 : ∀ listed W, S listed W → listed.size = regK.size → listed.getD 55 true = false → (∀ j, ((regK[55]?).map fun o => o.after.any fun e => Region.binds .any e && e.on == j) = some true → listed.getD j false = true) → ∃ W2, (Instr.loadAt 24 (.pointer (some ⟨rb, 3, none⟩))).run Try.prog W = .ok (.slice (some ⟨g3, p3, none⟩) N3 c3) W2 ∧ S (listed.setIfInBounds 55 true) W2) (hl59 : ∀ listed W, S listed W → listed.size = regK.size → listed.getD 59 true = false → (∀ j, ((regK[59]?).map fun o => o.after.any fun e => Region.binds .any e && e.on == j) = some true → listed.getD j false = true) → ∃ W2, (Instr.loadAt 24 (.pointer (some ⟨rb, 3, none⟩))).run Try.prog W = .ok (.slice (some ⟨g3, p3, none⟩) N3 c3) W2 ∧ S (listed.setIfInBounds 59 true) W2) (hl63 : ∀ listed W, S listed W → listed.size = regK.size → listed.getD 63 true = false → (∀ j, ((regK[63]?).map fun o => o.after.any fun e => Region.binds .any e && e.on == j) = some true → listed.getD j false = true) → ∃ W2, (Instr.loadAt 9 (.pointer (some ⟨g3, p3 + n3, none⟩))).run Try.prog W = .ok (.string ⟨#[98, 101, 104, 105, 110, 100]⟩) W2 ∧ S (listed.setIfInBounds 63 true) W2) (hl70 : ∀ listed W, S listed W → listed.size = regK.size → listed.getD 70 true = false → (∀ j, ((regK[70]?).map fun o => o.after.any fun e => Region.binds .any e && e.on == j) = some true → listed.getD j false = true) → ∃ W2, (Instr.loadAt 25 (.pointer (some ⟨rb, 4, none⟩))).run Try.prog W = .ok (.slice (some ⟨g4, p4, none⟩) N4 c4) W2 ∧ S (listed.setIfInBounds 70 true) W2) (hl74 : ∀ listed W, S listed W → listed.size = regK.size → listed.getD 74 true = false → (∀ j, ((regK[74]?).map fun o => o.after.any fun e => Region.binds .any e && e.on == j) = some true → listed.getD j false = true) → ∃ W2, (Instr.loadAt 25 (.pointer (some ⟨rb, 4, none⟩))).run Try.prog W = .ok (.slice (some ⟨g4, p4, none⟩) N4 c4) W2 ∧ S (listed.setIfInBounds 74 true) W2) (hl79 : ∀ listed W, S listed W → listed.size = regK.size → listed.getD 79 true = false → (∀ j, ((regK[79]?).map fun o => o.after.any fun e => Region.binds .any e && e.on == j) = some true → listed.getD j false = true) → ∃ W2, (Instr.loadAt 9 (.pointer (some ⟨g4, p4 + n4 * 2, none⟩))).run Try.prog W = .ok (.string ⟨#[98, 101, 104, 105, 110, 100]⟩) W2 ∧ S (listed.setIfInBounds 79 true) W2) (hb17 : ∀ listed W, S listed W → listed.size = regK.size → listed.getD 17 true = false → (∀ j, ((regK[17]?).map fun o => o.after.any fun e => Region.binds .any e && e.on == j) = some true → listed.getD j false = true) → ∃ W2, (Instr.build 39 #[(0, .string ⟨#[98, 101, 104, 105, 110, 100]⟩)]).run Try.prog W = .ok (.agg #[.string ⟨#[98, 101, 104, 105, 110, 100]⟩, .string ⟨#[]⟩, .string ⟨#[]⟩, .string ⟨#[]⟩]) W2 ∧ S (listed.setIfInBounds 17 true) W2) (hw0 : IntKind.i64.wrap ((N0 : Int) - 1) = (n0 : Int)) (hi0 : (0 : Int) ≤ (n0 : Int)) (hj0 : (n0 : Int) < (N0 : Int)) (hw1 : IntKind.i64.wrap ((N1 : Int) - 1) = (n1 : Int)) (hi1 : (0 : Int) ≤ (n1 : Int)) (hj1 : (n1 : Int) < (N1 : Int)) (hw2 : IntKind.i64.wrap ((N2 : Int) - 1) = (n2 : Int)) (hi2 : (0 : Int) ≤ (n2 : Int)) (hj2 : (n2 : Int) < (N2 : Int)) (hw3 : IntKind.i64.wrap ((N3 : Int) - 1) = (n3 : Int)) (hi3 : (0 : Int) ≤ (n3 : Int)) (hj3 : (n3 : Int) < (N3 : Int)) (hw4 : IntKind.i64.wrap ((N4 : Int) - 1) = (n4 : Int)) (hi4 : (0 : Int) ≤ (n4 : Int)) (hj4 : (n4 : Int) < (N4 : Int))
    (i : Nat) (o : Oper) (a : Act) (w : World) (listed : Array Bool) (ho : regK[i]? = some o) (hF : RFr regK a0 (VK rb xb yb g0 p0 N0 n0 c0 g1 p1 N1 n1 c1 g2 p2 N2 n2 c2 g3 p3 N3 n3 c3 g4 p4 N4 n4 c4 A1 A2) listed a) (hS : S listed w) (hls : listed.size = regK.size) (hun : listed.getD i true = false) (hdep : ∀ e ∈ o.after, Region.binds .any e = true → listed.getD e.on false = true) :
      if Region.wanted o (yielded regK a.tmps) = true then Oper.wp Try.prog o a w (fun a' w' => a' = a.put o.dst (VK rb xb yb g0 p0 N0 n0 c0 g1 p1 N1 n1 c1 g2 p2 N2 n2 c2 g3 p3 N3 n3 c3 g4 p4 N4 n4 c4 A1 A2 i) ∧ S (listed.setIfInBounds i true) w') Q else VK rb xb yb g0 p0 N0 n0 c0 g1 p1 N1 n1 c1 g2 p2 N2 n2 c2 g3 p3 N3 n3 c3 g4 p4 N4 n4 c4 A1 A2 i = undef ∧ S (listed.setIfInBounds i true) w := by
  match i, ho with
  | 0, ho =>
    rw [if_pos (want_none (fact ho (by kernel_rfl)))]
    have hop : o.op = .load 27 (.tmp 5) := fact ho (by kernel_rfl)
    have hds : o.dst = some 10 := fact ho (by kernel_rfl)
    have t5 := tm_old hF 5 _ h5 (by kernel_rfl)
    obtain ⟨W2, hr, hS2⟩ := hl0 listed w hS hls hun (fun j hj => dep_of ho hdep j hj)
    unfold Oper.wp
    simp [execOp, hop, hds, Act.eval, t5, hr, Oper.upon, Act.put, VK, hS2]
  | 1, ho =>
    rw [if_pos (want_none (fact ho (by kernel_rfl)))]
    have hop : o.op = .load 27 (.tmp 3) := fact ho (by kernel_rfl)
    have hds : o.dst = some 11 := fact ho (by kernel_rfl)
    have t3 := tm_old hF 3 _ h3 (by kernel_rfl)
    obtain ⟨W2, hr, hS2⟩ := hl1 listed w hS hls hun (fun j hj => dep_of ho hdep j hj)
    unfold Oper.wp
    simp [execOp, hop, hds, Act.eval, t3, hr, Oper.upon, Act.put, VK, hS2]
  | 2, ho =>
    rw [if_pos (want_none (fact ho (by kernel_rfl)))]
    have hop : o.op = .call { callee := .value (.func 15), args := #[.tmp 10, .tmp 11], argTypes := #[27, 27] } := fact ho (by kernel_rfl)
    have hds : o.dst = some 12 := fact ho (by kernel_rfl)
    have t10 := tm_dep hF 0 10 (by kernel_rfl) (dep_of ho hdep 0 (by kernel_rfl))
    simp only [VK] at t10
    have t11 := tm_dep hF 1 11 (by kernel_rfl) (dep_of ho hdep 1 (by kernel_rfl))
    simp only [VK] at t11
    unfold Oper.wp
    simp [execOp, hop, hds, t10, t11, go_sem, VK]
    refine (hc listed w hS hls hun (fun j hj => dep_of ho hdep j hj)).mono ?_
    rintro e w' ⟨rfl, hS'⟩
    exact ⟨rfl, hS'⟩
  | 3, ho =>
    rw [if_pos (want_none (fact ho (by kernel_rfl)))]
    have hop : o.op = .unOp .not 4 (.tmp 12) := fact ho (by kernel_rfl)
    have hds : o.dst = some 13 := fact ho (by kernel_rfl)
    have t12 := tm_dep hF 2 12 (by kernel_rfl) (dep_of ho hdep 2 (by kernel_rfl))
    simp only [VK] at t12
    have hS2 := hmv 3 (by decide) listed w hS
    unfold Oper.wp
    simp [execOp, hop, hds, t12, go_sem, VK, hS2]
  | 4, ho =>
    rw [if_pos (want_none (fact ho (by kernel_rfl)))]
    have hop : o.op = .move (.tmp 13) := fact ho (by kernel_rfl)
    have hds : o.dst = some 14 := fact ho (by kernel_rfl)
    have t13 := tm_dep hF 3 13 (by kernel_rfl) (dep_of ho hdep 3 (by kernel_rfl))
    simp only [VK] at t13
    have hS2 := hmv 4 (by decide) listed w hS
    unfold Oper.wp
    simp [execOp, hop, hds, t13, go_sem, VK, hS2]
  | 5, ho =>
    have hy := yl_dep hF 4 14 false (by kernel_rfl) (dep_of ho hdep 4 (by kernel_rfl)) rfl
    have hgd : o.guard = some (4, false) := fact ho (by kernel_rfl)
    rw [if_pos (by rw [want_some hgd hy]; rfl)]
    have hop : o.op = .move (.tmp 0) := fact ho (by kernel_rfl)
    have hds : o.dst = some 15 := fact ho (by kernel_rfl)
    have t0 := tm_old hF 0 _ h0 (by kernel_rfl)
    have hS2 := hmv 5 (by decide) listed w hS
    unfold Oper.wp
    simp [execOp, hop, hds, t0, go_sem, VK, hS2]
  | 6, ho =>
    have hy := yl_dep hF 4 14 false (by kernel_rfl) (dep_of ho hdep 4 (by kernel_rfl)) rfl
    have hgd : o.guard = some (4, false) := fact ho (by kernel_rfl)
    rw [if_pos (by rw [want_some hgd hy]; rfl)]
    have hop : o.op = .nilCheck (.tmp 15) := fact ho (by kernel_rfl)
    have hds : o.dst = some 16 := fact ho (by kernel_rfl)
    have t15 := tm_dep hF 5 15 (by kernel_rfl) (dep_of ho hdep 5 (by kernel_rfl))
    simp only [VK] at t15
    have hS2 := hmv 6 (by decide) listed w hS
    unfold Oper.wp
    simp [execOp, hop, hds, t15, go_sem, VK, hS2]
  | 7, ho =>
    have hy := yl_dep hF 4 14 false (by kernel_rfl) (dep_of ho hdep 4 (by kernel_rfl)) rfl
    have hgd : o.guard = some (4, false) := fact ho (by kernel_rfl)
    rw [if_pos (by rw [want_some hgd hy]; rfl)]
    have hop : o.op = .fieldAddr 30 (.tmp 16) 0 := fact ho (by kernel_rfl)
    have hds : o.dst = some 17 := fact ho (by kernel_rfl)
    have t16 := tm_dep hF 6 16 (by kernel_rfl) (dep_of ho hdep 6 (by kernel_rfl))
    simp only [VK] at t16
    have hS2 := hmv 7 (by decide) listed w hS
    unfold Oper.wp
    simp [execOp, hop, hds, t16, go_sem, VK, hS2]
  | 8, ho =>
    have hy := yl_dep hF 4 14 false (by kernel_rfl) (dep_of ho hdep 4 (by kernel_rfl)) rfl
    have hgd : o.guard = some (4, false) := fact ho (by kernel_rfl)
    rw [if_pos (by rw [want_some hgd hy]; rfl)]
    have hop : o.op = .load 22 (.tmp 17) := fact ho (by kernel_rfl)
    have hds : o.dst = some 18 := fact ho (by kernel_rfl)
    have t17 := tm_dep hF 7 17 (by kernel_rfl) (dep_of ho hdep 7 (by kernel_rfl))
    simp only [VK] at t17
    obtain ⟨W2, hr, hS2⟩ := hl8 listed w hS hls hun (fun j hj => dep_of ho hdep j hj)
    unfold Oper.wp
    simp [execOp, hop, hds, Act.eval, t17, hr, Oper.upon, Act.put, VK, hS2]
  | 9, ho =>
    have hy := yl_dep hF 4 14 false (by kernel_rfl) (dep_of ho hdep 4 (by kernel_rfl)) rfl
    have hgd : o.guard = some (4, false) := fact ho (by kernel_rfl)
    rw [if_pos (by rw [want_some hgd hy]; rfl)]
    have hop : o.op = .move (.tmp 0) := fact ho (by kernel_rfl)
    have hds : o.dst = some 19 := fact ho (by kernel_rfl)
    have t0 := tm_old hF 0 _ h0 (by kernel_rfl)
    have hS2 := hmv 9 (by decide) listed w hS
    unfold Oper.wp
    simp [execOp, hop, hds, t0, go_sem, VK, hS2]
  | 10, ho =>
    have hy := yl_dep hF 4 14 false (by kernel_rfl) (dep_of ho hdep 4 (by kernel_rfl)) rfl
    have hgd : o.guard = some (4, false) := fact ho (by kernel_rfl)
    rw [if_pos (by rw [want_some hgd hy]; rfl)]
    have hop : o.op = .nilCheck (.tmp 19) := fact ho (by kernel_rfl)
    have hds : o.dst = some 20 := fact ho (by kernel_rfl)
    have t19 := tm_dep hF 9 19 (by kernel_rfl) (dep_of ho hdep 9 (by kernel_rfl))
    simp only [VK] at t19
    have hS2 := hmv 10 (by decide) listed w hS
    unfold Oper.wp
    simp [execOp, hop, hds, t19, go_sem, VK, hS2]
  | 11, ho =>
    have hy := yl_dep hF 4 14 false (by kernel_rfl) (dep_of ho hdep 4 (by kernel_rfl)) rfl
    have hgd : o.guard = some (4, false) := fact ho (by kernel_rfl)
    rw [if_pos (by rw [want_some hgd hy]; rfl)]
    have hop : o.op = .fieldAddr 30 (.tmp 20) 0 := fact ho (by kernel_rfl)
    have hds : o.dst = some 21 := fact ho (by kernel_rfl)
    have t20 := tm_dep hF 10 20 (by kernel_rfl) (dep_of ho hdep 10 (by kernel_rfl))
    simp only [VK] at t20
    have hS2 := hmv 11 (by decide) listed w hS
    unfold Oper.wp
    simp [execOp, hop, hds, t20, go_sem, VK, hS2]
  | 12, ho =>
    have hy := yl_dep hF 4 14 false (by kernel_rfl) (dep_of ho hdep 4 (by kernel_rfl)) rfl
    have hgd : o.guard = some (4, false) := fact ho (by kernel_rfl)
    rw [if_pos (by rw [want_some hgd hy]; rfl)]
    have hop : o.op = .load 22 (.tmp 21) := fact ho (by kernel_rfl)
    have hds : o.dst = some 22 := fact ho (by kernel_rfl)
    have t21 := tm_dep hF 11 21 (by kernel_rfl) (dep_of ho hdep 11 (by kernel_rfl))
    simp only [VK] at t21
    obtain ⟨W2, hr, hS2⟩ := hl12 listed w hS hls hun (fun j hj => dep_of ho hdep j hj)
    unfold Oper.wp
    simp [execOp, hop, hds, Act.eval, t21, hr, Oper.upon, Act.put, VK, hS2]
  | 13, ho =>
    have hy := yl_dep hF 4 14 false (by kernel_rfl) (dep_of ho hdep 4 (by kernel_rfl)) rfl
    have hgd : o.guard = some (4, false) := fact ho (by kernel_rfl)
    rw [if_pos (by rw [want_some hgd hy]; rfl)]
    have hop : o.op = .call { callee := .builtin .len, args := #[.tmp 22], argTypes := #[22] } := fact ho (by kernel_rfl)
    have hds : o.dst = some 23 := fact ho (by kernel_rfl)
    have t22 := tm_dep hF 12 22 (by kernel_rfl) (dep_of ho hdep 12 (by kernel_rfl))
    simp only [VK] at t22
    have hS2 := hmv 13 (by decide) listed w hS
    unfold Oper.wp
    simp [execOp, hop, hds, t22, go_sem, VK, hS2]
  | 14, ho =>
    have hy := yl_dep hF 4 14 false (by kernel_rfl) (dep_of ho hdep 4 (by kernel_rfl)) rfl
    have hgd : o.guard = some (4, false) := fact ho (by kernel_rfl)
    rw [if_pos (by rw [want_some hgd hy]; rfl)]
    have hop : o.op = .binOp .sub 3 (.tmp 23) (.const (.int .i64 1)) 3 := fact ho (by kernel_rfl)
    have hds : o.dst = some 24 := fact ho (by kernel_rfl)
    have t23 := tm_dep hF 13 23 (by kernel_rfl) (dep_of ho hdep 13 (by kernel_rfl))
    simp only [VK] at t23
    have hS2 := hmv 14 (by decide) listed w hS
    unfold Oper.wp
    simp [execOp, hop, hds, t23, hw0, go_sem, VK, hS2]
  | 15, ho =>
    have hy := yl_dep hF 4 14 false (by kernel_rfl) (dep_of ho hdep 4 (by kernel_rfl)) rfl
    have hgd : o.guard = some (4, false) := fact ho (by kernel_rfl)
    rw [if_pos (by rw [want_some hgd hy]; rfl)]
    have hop : o.op = .indexAddr 22 (.tmp 18) (.tmp 24) := fact ho (by kernel_rfl)
    have hds : o.dst = some 25 := fact ho (by kernel_rfl)
    have t18 := tm_dep hF 8 18 (by kernel_rfl) (dep_of ho hdep 8 (by kernel_rfl))
    simp only [VK] at t18
    have t24 := tm_dep hF 14 24 (by kernel_rfl) (dep_of ho hdep 14 (by kernel_rfl))
    simp only [VK] at t24
    have hS2 := hmv 15 (by decide) listed w hS
    unfold Oper.wp
    simp [execOp, hop, hds, t18, t24, hi0, hj0, go_sem, VK, hS2]
  | 16, ho =>
    have hy := yl_dep hF 4 14 false (by kernel_rfl) (dep_of ho hdep 4 (by kernel_rfl)) rfl
    have hgd : o.guard = some (4, false) := fact ho (by kernel_rfl)
    rw [if_pos (by rw [want_some hgd hy]; rfl)]
    have hop : o.op = .load 39 (.tmp 25) := fact ho (by kernel_rfl)
    have hds : o.dst = some 26 := fact ho (by kernel_rfl)
    have t25 := tm_dep hF 15 25 (by kernel_rfl) (dep_of ho hdep 15 (by kernel_rfl))
    simp only [VK] at t25
    obtain ⟨W2, hr, hS2⟩ := hl16 listed w hS hls hun (fun j hj => dep_of ho hdep j hj)
    unfold Oper.wp
    simp [execOp, hop, hds, Act.eval, t25, hr, Oper.upon, Act.put, VK, hS2]
  | 17, ho =>
    have hy := yl_dep hF 4 14 false (by kernel_rfl) (dep_of ho hdep 4 (by kernel_rfl)) rfl
    have hgd : o.guard = some (4, false) := fact ho (by kernel_rfl)
    rw [if_pos (by rw [want_some hgd hy]; rfl)]
    have hop : o.op = .build 39 #[(0, .const (Value.string { data := #[98, 101, 104, 105, 110, 100] }))] := fact ho (by kernel_rfl)
    have hds : o.dst = some 27 := fact ho (by kernel_rfl)
    obtain ⟨W2, hr, hS2⟩ := hb17 listed w hS hls hun (fun j hj => dep_of ho hdep j hj)
    unfold Oper.wp
    simp [execOp, hop, hds, hr, Act.eval, Oper.upon, Act.put, VK, hS2]
  | 18, ho =>
    have hy := yl_dep hF 4 14 false (by kernel_rfl) (dep_of ho hdep 4 (by kernel_rfl)) rfl
    have hgd : o.guard = some (4, false) := fact ho (by kernel_rfl)
    rw [if_pos (by rw [want_some hgd hy]; rfl)]
    have hop : o.op = .binOp .neq 39 (.tmp 26) (.tmp 27) 39 := fact ho (by kernel_rfl)
    have hds : o.dst = some 28 := fact ho (by kernel_rfl)
    have t26 := tm_dep hF 16 26 (by kernel_rfl) (dep_of ho hdep 16 (by kernel_rfl))
    simp only [VK] at t26
    have t27 := tm_dep hF 17 27 (by kernel_rfl) (dep_of ho hdep 17 (by kernel_rfl))
    simp only [VK] at t27
    have hS2 := hmv 18 (by decide) listed w hS
    unfold Oper.wp
    simp [execOp, hop, hds, t26, t27, go_sem, VK, hS2]
  | 19, ho =>
    rw [if_pos (want_none (fact ho (by kernel_rfl)))]
    have hop : o.op = .pick (.tmp 14) (.const (.bool true)) (.tmp 28) := fact ho (by kernel_rfl)
    have hds : o.dst = some 29 := fact ho (by kernel_rfl)
    have t14 := tm_dep hF 4 14 (by kernel_rfl) (dep_of ho hdep 4 (by kernel_rfl))
    simp only [VK] at t14
    have t28 := tm_dep hF 18 28 (by kernel_rfl) (dep_of ho hdep 18 (by kernel_rfl))
    simp only [VK] at t28
    have hS2 := hmv 19 (by decide) listed w hS
    unfold Oper.wp
    simp [execOp, hop, hds, t14, t28, go_sem, VK, hS2]
  | 20, ho =>
    rw [if_pos (want_none (fact ho (by kernel_rfl)))]
    have hop : o.op = .move (.tmp 29) := fact ho (by kernel_rfl)
    have hds : o.dst = some 30 := fact ho (by kernel_rfl)
    have t29 := tm_dep hF 19 29 (by kernel_rfl) (dep_of ho hdep 19 (by kernel_rfl))
    simp only [VK] at t29
    have hS2 := hmv 20 (by decide) listed w hS
    unfold Oper.wp
    simp [execOp, hop, hds, t29, go_sem, VK, hS2]
  | 21, ho =>
    have hy := yl_dep hF 20 30 false (by kernel_rfl) (dep_of ho hdep 20 (by kernel_rfl)) rfl
    have hgd : o.guard = some (20, false) := fact ho (by kernel_rfl)
    rw [if_pos (by rw [want_some hgd hy]; rfl)]
    have hop : o.op = .move (.tmp 0) := fact ho (by kernel_rfl)
    have hds : o.dst = some 31 := fact ho (by kernel_rfl)
    have t0 := tm_old hF 0 _ h0 (by kernel_rfl)
    have hS2 := hmv 21 (by decide) listed w hS
    unfold Oper.wp
    simp [execOp, hop, hds, t0, go_sem, VK, hS2]
  | 22, ho =>
    have hy := yl_dep hF 20 30 false (by kernel_rfl) (dep_of ho hdep 20 (by kernel_rfl)) rfl
    have hgd : o.guard = some (20, false) := fact ho (by kernel_rfl)
    rw [if_pos (by rw [want_some hgd hy]; rfl)]
    have hop : o.op = .nilCheck (.tmp 31) := fact ho (by kernel_rfl)
    have hds : o.dst = some 32 := fact ho (by kernel_rfl)
    have t31 := tm_dep hF 21 31 (by kernel_rfl) (dep_of ho hdep 21 (by kernel_rfl))
    simp only [VK] at t31
    have hS2 := hmv 22 (by decide) listed w hS
    unfold Oper.wp
    simp [execOp, hop, hds, t31, go_sem, VK, hS2]
  | 23, ho =>
    have hy := yl_dep hF 20 30 false (by kernel_rfl) (dep_of ho hdep 20 (by kernel_rfl)) rfl
    have hgd : o.guard = some (20, false) := fact ho (by kernel_rfl)
    rw [if_pos (by rw [want_some hgd hy]; rfl)]
    have hop : o.op = .fieldAddr 30 (.tmp 32) 1 := fact ho (by kernel_rfl)
    have hds : o.dst = some 33 := fact ho (by kernel_rfl)
    have t32 := tm_dep hF 22 32 (by kernel_rfl) (dep_of ho hdep 22 (by kernel_rfl))
    simp only [VK] at t32
    have hS2 := hmv 23 (by decide) listed w hS
    unfold Oper.wp
    simp [execOp, hop, hds, t32, go_sem, VK, hS2]
  | 24, ho =>
    have hy := yl_dep hF 20 30 false (by kernel_rfl) (dep_of ho hdep 20 (by kernel_rfl)) rfl
    have hgd : o.guard = some (20, false) := fact ho (by kernel_rfl)
    rw [if_pos (by rw [want_some hgd hy]; rfl)]
    have hop : o.op = .load 23 (.tmp 33) := fact ho (by kernel_rfl)
    have hds : o.dst = some 34 := fact ho (by kernel_rfl)
    have t33 := tm_dep hF 23 33 (by kernel_rfl) (dep_of ho hdep 23 (by kernel_rfl))
    simp only [VK] at t33
    obtain ⟨W2, hr, hS2⟩ := hl24 listed w hS hls hun (fun j hj => dep_of ho hdep j hj)
    unfold Oper.wp
    simp [execOp, hop, hds, Act.eval, t33, hr, Oper.upon, Act.put, VK, hS2]
  | 25, ho =>
    have hy := yl_dep hF 20 30 false (by kernel_rfl) (dep_of ho hdep 20 (by kernel_rfl)) rfl
    have hgd : o.guard = some (20, false) := fact ho (by kernel_rfl)
    rw [if_pos (by rw [want_some hgd hy]; rfl)]
    have hop : o.op = .move (.tmp 0) := fact ho (by kernel_rfl)
    have hds : o.dst = some 35 := fact ho (by kernel_rfl)
    have t0 := tm_old hF 0 _ h0 (by kernel_rfl)
    have hS2 := hmv 25 (by decide) listed w hS
    unfold Oper.wp
    simp [execOp, hop, hds, t0, go_sem, VK, hS2]
  | 26, ho =>
    have hy := yl_dep hF 20 30 false (by kernel_rfl) (dep_of ho hdep 20 (by kernel_rfl)) rfl
    have hgd : o.guard = some (20, false) := fact ho (by kernel_rfl)
    rw [if_pos (by rw [want_some hgd hy]; rfl)]
    have hop : o.op = .nilCheck (.tmp 35) := fact ho (by kernel_rfl)
    have hds : o.dst = some 36 := fact ho (by kernel_rfl)
    have t35 := tm_dep hF 25 35 (by kernel_rfl) (dep_of ho hdep 25 (by kernel_rfl))
    simp only [VK] at t35
    have hS2 := hmv 26 (by decide) listed w hS
    unfold Oper.wp
    simp [execOp, hop, hds, t35, go_sem, VK, hS2]
  | 27, ho =>
    have hy := yl_dep hF 20 30 false (by kernel_rfl) (dep_of ho hdep 20 (by kernel_rfl)) rfl
    have hgd : o.guard = some (20, false) := fact ho (by kernel_rfl)
    rw [if_pos (by rw [want_some hgd hy]; rfl)]
    have hop : o.op = .fieldAddr 30 (.tmp 36) 1 := fact ho (by kernel_rfl)
    have hds : o.dst = some 37 := fact ho (by kernel_rfl)
    have t36 := tm_dep hF 26 36 (by kernel_rfl) (dep_of ho hdep 26 (by kernel_rfl))
    simp only [VK] at t36
    have hS2 := hmv 27 (by decide) listed w hS
    unfold Oper.wp
    simp [execOp, hop, hds, t36, go_sem, VK, hS2]
  | 28, ho =>
    have hy := yl_dep hF 20 30 false (by kernel_rfl) (dep_of ho hdep 20 (by kernel_rfl)) rfl
    have hgd : o.guard = some (20, false) := fact ho (by kernel_rfl)
    rw [if_pos (by rw [want_some hgd hy]; rfl)]
    have hop : o.op = .load 23 (.tmp 37) := fact ho (by kernel_rfl)
    have hds : o.dst = some 38 := fact ho (by kernel_rfl)
    have t37 := tm_dep hF 27 37 (by kernel_rfl) (dep_of ho hdep 27 (by kernel_rfl))
    simp only [VK] at t37
    obtain ⟨W2, hr, hS2⟩ := hl28 listed w hS hls hun (fun j hj => dep_of ho hdep j hj)
    unfold Oper.wp
    simp [execOp, hop, hds, Act.eval, t37, hr, Oper.upon, Act.put, VK, hS2]
  | 29, ho =>
    have hy := yl_dep hF 20 30 false (by kernel_rfl) (dep_of ho hdep 20 (by kernel_rfl)) rfl
    have hgd : o.guard = some (20, false) := fact ho (by kernel_rfl)
    rw [if_pos (by rw [want_some hgd hy]; rfl)]
    have hop : o.op = .call { callee := .builtin .len, args := #[.tmp 38], argTypes := #[23] } := fact ho (by kernel_rfl)
    have hds : o.dst = some 39 := fact ho (by kernel_rfl)
    have t38 := tm_dep hF 28 38 (by kernel_rfl) (dep_of ho hdep 28 (by kernel_rfl))
    simp only [VK] at t38
    have hS2 := hmv 29 (by decide) listed w hS
    unfold Oper.wp
    simp [execOp, hop, hds, t38, go_sem, VK, hS2]
  | 30, ho =>
    have hy := yl_dep hF 20 30 false (by kernel_rfl) (dep_of ho hdep 20 (by kernel_rfl)) rfl
    have hgd : o.guard = some (20, false) := fact ho (by kernel_rfl)
    rw [if_pos (by rw [want_some hgd hy]; rfl)]
    have hop : o.op = .binOp .sub 3 (.tmp 39) (.const (.int .i64 1)) 3 := fact ho (by kernel_rfl)
    have hds : o.dst = some 40 := fact ho (by kernel_rfl)
    have t39 := tm_dep hF 29 39 (by kernel_rfl) (dep_of ho hdep 29 (by kernel_rfl))
    simp only [VK] at t39
    have hS2 := hmv 30 (by decide) listed w hS
    unfold Oper.wp
    simp [execOp, hop, hds, t39, hw1, go_sem, VK, hS2]
  | 31, ho =>
    have hy := yl_dep hF 20 30 false (by kernel_rfl) (dep_of ho hdep 20 (by kernel_rfl)) rfl
    have hgd : o.guard = some (20, false) := fact ho (by kernel_rfl)
    rw [if_pos (by rw [want_some hgd hy]; rfl)]
    have hop : o.op = .indexAddr 23 (.tmp 34) (.tmp 40) := fact ho (by kernel_rfl)
    have hds : o.dst = some 41 := fact ho (by kernel_rfl)
    have t34 := tm_dep hF 24 34 (by kernel_rfl) (dep_of ho hdep 24 (by kernel_rfl))
    simp only [VK] at t34
    have t40 := tm_dep hF 30 40 (by kernel_rfl) (dep_of ho hdep 30 (by kernel_rfl))
    simp only [VK] at t40
    have hS2 := hmv 31 (by decide) listed w hS
    unfold Oper.wp
    simp [execOp, hop, hds, t34, t40, hi1, hj1, go_sem, VK, hS2]
  | 32, ho =>
    have hy := yl_dep hF 20 30 false (by kernel_rfl) (dep_of ho hdep 20 (by kernel_rfl)) rfl
    have hgd : o.guard = some (20, false) := fact ho (by kernel_rfl)
    rw [if_pos (by rw [want_some hgd hy]; rfl)]
    have hop : o.op = .fieldAddr 42 (.tmp 41) 0 := fact ho (by kernel_rfl)
    have hds : o.dst = some 42 := fact ho (by kernel_rfl)
    have t41 := tm_dep hF 31 41 (by kernel_rfl) (dep_of ho hdep 31 (by kernel_rfl))
    simp only [VK] at t41
    have hS2 := hmv 32 (by decide) listed w hS
    unfold Oper.wp
    simp [execOp, hop, hds, t41, go_sem, VK, hS2]
  | 33, ho =>
    have hy := yl_dep hF 20 30 false (by kernel_rfl) (dep_of ho hdep 20 (by kernel_rfl)) rfl
    have hgd : o.guard = some (20, false) := fact ho (by kernel_rfl)
    rw [if_pos (by rw [want_some hgd hy]; rfl)]
    have hop : o.op = .load 9 (.tmp 42) := fact ho (by kernel_rfl)
    have hds : o.dst = some 43 := fact ho (by kernel_rfl)
    have t42 := tm_dep hF 32 42 (by kernel_rfl) (dep_of ho hdep 32 (by kernel_rfl))
    simp only [VK] at t42
    obtain ⟨W2, hr, hS2⟩ := hl33 listed w hS hls hun (fun j hj => dep_of ho hdep j hj)
    unfold Oper.wp
    simp [execOp, hop, hds, Act.eval, t42, hr, Oper.upon, Act.put, VK, hS2]
  | 34, ho =>
    have hy := yl_dep hF 20 30 false (by kernel_rfl) (dep_of ho hdep 20 (by kernel_rfl)) rfl
    have hgd : o.guard = some (20, false) := fact ho (by kernel_rfl)
    rw [if_pos (by rw [want_some hgd hy]; rfl)]
    have hop : o.op = .binOp .neq 9 (.tmp 43) (.const (.string { data := #[98, 101, 104, 105, 110, 100] })) 9 := fact ho (by kernel_rfl)
    have hds : o.dst = some 44 := fact ho (by kernel_rfl)
    have t43 := tm_dep hF 33 43 (by kernel_rfl) (dep_of ho hdep 33 (by kernel_rfl))
    simp only [VK] at t43
    have hS2 := hmv 34 (by decide) listed w hS
    unfold Oper.wp
    simp [execOp, hop, hds, t43, go_sem, VK, hS2]
  | 35, ho =>
    rw [if_pos (want_none (fact ho (by kernel_rfl)))]
    have hop : o.op = .pick (.tmp 30) (.const (.bool true)) (.tmp 44) := fact ho (by kernel_rfl)
    have hds : o.dst = some 45 := fact ho (by kernel_rfl)
    have t30 := tm_dep hF 20 30 (by kernel_rfl) (dep_of ho hdep 20 (by kernel_rfl))
    simp only [VK] at t30
    have t44 := tm_dep hF 34 44 (by kernel_rfl) (dep_of ho hdep 34 (by kernel_rfl))
    simp only [VK] at t44
    have hS2 := hmv 35 (by decide) listed w hS
    unfold Oper.wp
    simp [execOp, hop, hds, t30, t44, go_sem, VK, hS2]
  | 36, ho =>
    rw [if_pos (want_none (fact ho (by kernel_rfl)))]
    have hop : o.op = .move (.tmp 45) := fact ho (by kernel_rfl)
    have hds : o.dst = some 46 := fact ho (by kernel_rfl)
    have t45 := tm_dep hF 35 45 (by kernel_rfl) (dep_of ho hdep 35 (by kernel_rfl))
    simp only [VK] at t45
    have hS2 := hmv 36 (by decide) listed w hS
    unfold Oper.wp
    simp [execOp, hop, hds, t45, go_sem, VK, hS2]
  | 37, ho =>
    have hy := yl_dep hF 36 46 false (by kernel_rfl) (dep_of ho hdep 36 (by kernel_rfl)) rfl
    have hgd : o.guard = some (36, false) := fact ho (by kernel_rfl)
    rw [if_pos (by rw [want_some hgd hy]; rfl)]
    have hop : o.op = .move (.tmp 0) := fact ho (by kernel_rfl)
    have hds : o.dst = some 47 := fact ho (by kernel_rfl)
    have t0 := tm_old hF 0 _ h0 (by kernel_rfl)
    have hS2 := hmv 37 (by decide) listed w hS
    unfold Oper.wp
    simp [execOp, hop, hds, t0, go_sem, VK, hS2]
  | 38, ho =>
    have hy := yl_dep hF 36 46 false (by kernel_rfl) (dep_of ho hdep 36 (by kernel_rfl)) rfl
    have hgd : o.guard = some (36, false) := fact ho (by kernel_rfl)
    rw [if_pos (by rw [want_some hgd hy]; rfl)]
    have hop : o.op = .nilCheck (.tmp 47) := fact ho (by kernel_rfl)
    have hds : o.dst = some 48 := fact ho (by kernel_rfl)
    have t47 := tm_dep hF 37 47 (by kernel_rfl) (dep_of ho hdep 37 (by kernel_rfl))
    simp only [VK] at t47
    have hS2 := hmv 38 (by decide) listed w hS
    unfold Oper.wp
    simp [execOp, hop, hds, t47, go_sem, VK, hS2]
  | 39, ho =>
    have hy := yl_dep hF 36 46 false (by kernel_rfl) (dep_of ho hdep 36 (by kernel_rfl)) rfl
    have hgd : o.guard = some (36, false) := fact ho (by kernel_rfl)
    rw [if_pos (by rw [want_some hgd hy]; rfl)]
    have hop : o.op = .fieldAddr 30 (.tmp 48) 2 := fact ho (by kernel_rfl)
    have hds : o.dst = some 49 := fact ho (by kernel_rfl)
    have t48 := tm_dep hF 38 48 (by kernel_rfl) (dep_of ho hdep 38 (by kernel_rfl))
    simp only [VK] at t48
    have hS2 := hmv 39 (by decide) listed w hS
    unfold Oper.wp
    simp [execOp, hop, hds, t48, go_sem, VK, hS2]
  | 40, ho =>
    have hy := yl_dep hF 36 46 false (by kernel_rfl) (dep_of ho hdep 36 (by kernel_rfl)) rfl
    have hgd : o.guard = some (36, false) := fact ho (by kernel_rfl)
    rw [if_pos (by rw [want_some hgd hy]; rfl)]
    have hop : o.op = .load 24 (.tmp 49) := fact ho (by kernel_rfl)
    have hds : o.dst = some 50 := fact ho (by kernel_rfl)
    have t49 := tm_dep hF 39 49 (by kernel_rfl) (dep_of ho hdep 39 (by kernel_rfl))
    simp only [VK] at t49
    obtain ⟨W2, hr, hS2⟩ := hl40 listed w hS hls hun (fun j hj => dep_of ho hdep j hj)
    unfold Oper.wp
    simp [execOp, hop, hds, Act.eval, t49, hr, Oper.upon, Act.put, VK, hS2]
  | 41, ho =>
    have hy := yl_dep hF 36 46 false (by kernel_rfl) (dep_of ho hdep 36 (by kernel_rfl)) rfl
    have hgd : o.guard = some (36, false) := fact ho (by kernel_rfl)
    rw [if_pos (by rw [want_some hgd hy]; rfl)]
    have hop : o.op = .move (.tmp 0) := fact ho (by kernel_rfl)
    have hds : o.dst = some 51 := fact ho (by kernel_rfl)
    have t0 := tm_old hF 0 _ h0 (by kernel_rfl)
    have hS2 := hmv 41 (by decide) listed w hS
    unfold Oper.wp
    simp [execOp, hop, hds, t0, go_sem, VK, hS2]
  | 42, ho =>
    have hy := yl_dep hF 36 46 false (by kernel_rfl) (dep_of ho hdep 36 (by kernel_rfl)) rfl
    have hgd : o.guard = some (36, false) := fact ho (by kernel_rfl)
    rw [if_pos (by rw [want_some hgd hy]; rfl)]
    have hop : o.op = .nilCheck (.tmp 51) := fact ho (by kernel_rfl)
    have hds : o.dst = some 52 := fact ho (by kernel_rfl)
    have t51 := tm_dep hF 41 51 (by kernel_rfl) (dep_of ho hdep 41 (by kernel_rfl))
    simp only [VK] at t51
    have hS2 := hmv 42 (by decide) listed w hS
    unfold Oper.wp
    simp [execOp, hop, hds, t51, go_sem, VK, hS2]
  | 43, ho =>
    have hy := yl_dep hF 36 46 false (by kernel_rfl) (dep_of ho hdep 36 (by kernel_rfl)) rfl
    have hgd : o.guard = some (36, false) := fact ho (by kernel_rfl)
    rw [if_pos (by rw [want_some hgd hy]; rfl)]
    have hop : o.op = .fieldAddr 30 (.tmp 52) 2 := fact ho (by kernel_rfl)
    have hds : o.dst = some 53 := fact ho (by kernel_rfl)
    have t52 := tm_dep hF 42 52 (by kernel_rfl) (dep_of ho hdep 42 (by kernel_rfl))
    simp only [VK] at t52
    have hS2 := hmv 43 (by decide) listed w hS
    unfold Oper.wp
    simp [execOp, hop, hds, t52, go_sem, VK, hS2]
  | 44, ho =>
    have hy := yl_dep hF 36 46 false (by kernel_rfl) (dep_of ho hdep 36 (by kernel_rfl)) rfl
    have hgd : o.guard = some (36, false) := fact ho (by kernel_rfl)
    rw [if_pos (by rw [want_some hgd hy]; rfl)]
    have hop : o.op = .load 24 (.tmp 53) := fact ho (by kernel_rfl)
    have hds : o.dst = some 54 := fact ho (by kernel_rfl)
    have t53 := tm_dep hF 43 53 (by kernel_rfl) (dep_of ho hdep 43 (by kernel_rfl))
    simp only [VK] at t53
    obtain ⟨W2, hr, hS2⟩ := hl44 listed w hS hls hun (fun j hj => dep_of ho hdep j hj)
    unfold Oper.wp
    simp [execOp, hop, hds, Act.eval, t53, hr, Oper.upon, Act.put, VK, hS2]
  | 45, ho =>
    have hy := yl_dep hF 36 46 false (by kernel_rfl) (dep_of ho hdep 36 (by kernel_rfl)) rfl
    have hgd : o.guard = some (36, false) := fact ho (by kernel_rfl)
    rw [if_pos (by rw [want_some hgd hy]; rfl)]
    have hop : o.op = .call { callee := .builtin .len, args := #[.tmp 54], argTypes := #[24] } := fact ho (by kernel_rfl)
    have hds : o.dst = some 55 := fact ho (by kernel_rfl)
    have t54 := tm_dep hF 44 54 (by kernel_rfl) (dep_of ho hdep 44 (by kernel_rfl))
    simp only [VK] at t54
    have hS2 := hmv 45 (by decide) listed w hS
    unfold Oper.wp
    simp [execOp, hop, hds, t54, go_sem, VK, hS2]
  | 46, ho =>
    have hy := yl_dep hF 36 46 false (by kernel_rfl) (dep_of ho hdep 36 (by kernel_rfl)) rfl
    have hgd : o.guard = some (36, false) := fact ho (by kernel_rfl)
    rw [if_pos (by rw [want_some hgd hy]; rfl)]
    have hop : o.op = .binOp .sub 3 (.tmp 55) (.const (.int .i64 1)) 3 := fact ho (by kernel_rfl)
    have hds : o.dst = some 56 := fact ho (by kernel_rfl)
    have t55 := tm_dep hF 45 55 (by kernel_rfl) (dep_of ho hdep 45 (by kernel_rfl))
    simp only [VK] at t55
    have hS2 := hmv 46 (by decide) listed w hS
    unfold Oper.wp
    simp [execOp, hop, hds, t55, hw2, go_sem, VK, hS2]
  | 47, ho =>
    have hy := yl_dep hF 36 46 false (by kernel_rfl) (dep_of ho hdep 36 (by kernel_rfl)) rfl
    have hgd : o.guard = some (36, false) := fact ho (by kernel_rfl)
    rw [if_pos (by rw [want_some hgd hy]; rfl)]
    have hop : o.op = .indexAddr 24 (.tmp 50) (.tmp 56) := fact ho (by kernel_rfl)
    have hds : o.dst = some 57 := fact ho (by kernel_rfl)
    have t50 := tm_dep hF 40 50 (by kernel_rfl) (dep_of ho hdep 40 (by kernel_rfl))
    simp only [VK] at t50
    have t56 := tm_dep hF 46 56 (by kernel_rfl) (dep_of ho hdep 46 (by kernel_rfl))
    simp only [VK] at t56
    have hS2 := hmv 47 (by decide) listed w hS
    unfold Oper.wp
    simp [execOp, hop, hds, t50, t56, hi2, hj2, go_sem, VK, hS2]
  | 48, ho =>
    have hy := yl_dep hF 36 46 false (by kernel_rfl) (dep_of ho hdep 36 (by kernel_rfl)) rfl
    have hgd : o.guard = some (36, false) := fact ho (by kernel_rfl)
    rw [if_pos (by rw [want_some hgd hy]; rfl)]
    have hop : o.op = .load 9 (.tmp 57) := fact ho (by kernel_rfl)
    have hds : o.dst = some 58 := fact ho (by kernel_rfl)
    have t57 := tm_dep hF 47 57 (by kernel_rfl) (dep_of ho hdep 47 (by kernel_rfl))
    simp only [VK] at t57
    obtain ⟨W2, hr, hS2⟩ := hl48 listed w hS hls hun (fun j hj => dep_of ho hdep j hj)
    unfold Oper.wp
    simp [execOp, hop, hds, Act.eval, t57, hr, Oper.upon, Act.put, VK, hS2]
  | 49, ho =>
    have hy := yl_dep hF 36 46 false (by kernel_rfl) (dep_of ho hdep 36 (by kernel_rfl)) rfl
    have hgd : o.guard = some (36, false) := fact ho (by kernel_rfl)
    rw [if_pos (by rw [want_some hgd hy]; rfl)]
    have hop : o.op = .binOp .neq 9 (.tmp 58) (.const (.string { data := #[98, 101, 104, 105, 110, 100] })) 9 := fact ho (by kernel_rfl)
    have hds : o.dst = some 59 := fact ho (by kernel_rfl)
    have t58 := tm_dep hF 48 58 (by kernel_rfl) (dep_of ho hdep 48 (by kernel_rfl))
    simp only [VK] at t58
    have hS2 := hmv 49 (by decide) listed w hS
    unfold Oper.wp
    simp [execOp, hop, hds, t58, go_sem, VK, hS2]
  | 50, ho =>
    rw [if_pos (want_none (fact ho (by kernel_rfl)))]
    have hop : o.op = .pick (.tmp 46) (.const (.bool true)) (.tmp 59) := fact ho (by kernel_rfl)
    have hds : o.dst = some 60 := fact ho (by kernel_rfl)
    have t46 := tm_dep hF 36 46 (by kernel_rfl) (dep_of ho hdep 36 (by kernel_rfl))
    simp only [VK] at t46
    have t59 := tm_dep hF 49 59 (by kernel_rfl) (dep_of ho hdep 49 (by kernel_rfl))
    simp only [VK] at t59
    have hS2 := hmv 50 (by decide) listed w hS
    unfold Oper.wp
    simp [execOp, hop, hds, t46, t59, go_sem, VK, hS2]
  | 51, ho =>
    rw [if_pos (want_none (fact ho (by kernel_rfl)))]
    have hop : o.op = .move (.tmp 60) := fact ho (by kernel_rfl)
    have hds : o.dst = some 61 := fact ho (by kernel_rfl)
    have t60 := tm_dep hF 50 60 (by kernel_rfl) (dep_of ho hdep 50 (by kernel_rfl))
    simp only [VK] at t60
    have hS2 := hmv 51 (by decide) listed w hS
    unfold Oper.wp
    simp [execOp, hop, hds, t60, go_sem, VK, hS2]
  | 52, ho =>
    have hy := yl_dep hF 51 61 false (by kernel_rfl) (dep_of ho hdep 51 (by kernel_rfl)) rfl
    have hgd : o.guard = some (51, false) := fact ho (by kernel_rfl)
    rw [if_pos (by rw [want_some hgd hy]; rfl)]
    have hop : o.op = .move (.tmp 0) := fact ho (by kernel_rfl)
    have hds : o.dst = some 62 := fact ho (by kernel_rfl)
    have t0 := tm_old hF 0 _ h0 (by kernel_rfl)
    have hS2 := hmv 52 (by decide) listed w hS
    unfold Oper.wp
    simp [execOp, hop, hds, t0, go_sem, VK, hS2]
  | 53, ho =>
    have hy := yl_dep hF 51 61 false (by kernel_rfl) (dep_of ho hdep 51 (by kernel_rfl)) rfl
    have hgd : o.guard = some (51, false) := fact ho (by kernel_rfl)
    rw [if_pos (by rw [want_some hgd hy]; rfl)]
    have hop : o.op = .nilCheck (.tmp 62) := fact ho (by kernel_rfl)
    have hds : o.dst = some 63 := fact ho (by kernel_rfl)
    have t62 := tm_dep hF 52 62 (by kernel_rfl) (dep_of ho hdep 52 (by kernel_rfl))
    simp only [VK] at t62
    have hS2 := hmv 53 (by decide) listed w hS
    unfold Oper.wp
    simp [execOp, hop, hds, t62, go_sem, VK, hS2]
  | 54, ho =>
    have hy := yl_dep hF 51 61 false (by kernel_rfl) (dep_of ho hdep 51 (by kernel_rfl)) rfl
    have hgd : o.guard = some (51, false) := fact ho (by kernel_rfl)
    rw [if_pos (by rw [want_some hgd hy]; rfl)]
    have hop : o.op = .fieldAddr 30 (.tmp 63) 3 := fact ho (by kernel_rfl)
    have hds : o.dst = some 64 := fact ho (by kernel_rfl)
    have t63 := tm_dep hF 53 63 (by kernel_rfl) (dep_of ho hdep 53 (by kernel_rfl))
    simp only [VK] at t63
    have hS2 := hmv 54 (by decide) listed w hS
    unfold Oper.wp
    simp [execOp, hop, hds, t63, go_sem, VK, hS2]
  | 55, ho =>
    have hy := yl_dep hF 51 61 false (by kernel_rfl) (dep_of ho hdep 51 (by kernel_rfl)) rfl
    have hgd : o.guard = some (51, false) := fact ho (by kernel_rfl)
    rw [if_pos (by rw [want_some hgd hy]; rfl)]
    have hop : o.op = .load 24 (.tmp 64) := fact ho (by kernel_rfl)
    have hds : o.dst = some 65 := fact ho (by kernel_rfl)
    have t64 := tm_dep hF 54 64 (by kernel_rfl) (dep_of ho hdep 54 (by kernel_rfl))
    simp only [VK] at t64
    obtain ⟨W2, hr, hS2⟩ := hl55 listed w hS hls hun (fun j hj => dep_of ho hdep j hj)
    unfold Oper.wp
    simp [execOp, hop, hds, Act.eval, t64, hr, Oper.upon, Act.put, VK, hS2]
  | 56, ho =>
    have hy := yl_dep hF 51 61 false (by kernel_rfl) (dep_of ho hdep 51 (by kernel_rfl)) rfl
    have hgd : o.guard = some (51, false) := fact ho (by kernel_rfl)
    rw [if_pos (by rw [want_some hgd hy]; rfl)]
    have hop : o.op = .move (.tmp 0) := fact ho (by kernel_rfl)
    have hds : o.dst = some 66 := fact ho (by kernel_rfl)
    have t0 := tm_old hF 0 _ h0 (by kernel_rfl)
    have hS2 := hmv 56 (by decide) listed w hS
    unfold Oper.wp
    simp [execOp, hop, hds, t0, go_sem, VK, hS2]
  | 57, ho =>
    have hy := yl_dep hF 51 61 false (by kernel_rfl) (dep_of ho hdep 51 (by kernel_rfl)) rfl
    have hgd : o.guard = some (51, false) := fact ho (by kernel_rfl)
    rw [if_pos (by rw [want_some hgd hy]; rfl)]
    have hop : o.op = .nilCheck (.tmp 66) := fact ho (by kernel_rfl)
    have hds : o.dst = some 67 := fact ho (by kernel_rfl)
    have t66 := tm_dep hF 56 66 (by kernel_rfl) (dep_of ho hdep 56 (by kernel_rfl))
    simp only [VK] at t66
    have hS2 := hmv 57 (by decide) listed w hS
    unfold Oper.wp
    simp [execOp, hop, hds, t66, go_sem, VK, hS2]
  | 58, ho =>
    have hy := yl_dep hF 51 61 false (by kernel_rfl) (dep_of ho hdep 51 (by kernel_rfl)) rfl
    have hgd : o.guard = some (51, false) := fact ho (by kernel_rfl)
    rw [if_pos (by rw [want_some hgd hy]; rfl)]
    have hop : o.op = .fieldAddr 30 (.tmp 67) 3 := fact ho (by kernel_rfl)
    have hds : o.dst = some 68 := fact ho (by kernel_rfl)
    have t67 := tm_dep hF 57 67 (by kernel_rfl) (dep_of ho hdep 57 (by kernel_rfl))
    simp only [VK] at t67
    have hS2 := hmv 58 (by decide) listed w hS
    unfold Oper.wp
    simp [execOp, hop, hds, t67, go_sem, VK, hS2]
  | 59, ho =>
    have hy := yl_dep hF 51 61 false (by kernel_rfl) (dep_of ho hdep 51 (by kernel_rfl)) rfl
    have hgd : o.guard = some (51, false) := fact ho (by kernel_rfl)
    rw [if_pos (by rw [want_some hgd hy]; rfl)]
    have hop : o.op = .load 24 (.tmp 68) := fact ho (by kernel_rfl)
    have hds : o.dst = some 69 := fact ho (by kernel_rfl)
    have t68 := tm_dep hF 58 68 (by kernel_rfl) (dep_of ho hdep 58 (by kernel_rfl))
    simp only [VK] at t68
    obtain ⟨W2, hr, hS2⟩ := hl59 listed w hS hls hun (fun j hj => dep_of ho hdep j hj)
    unfold Oper.wp
    simp [execOp, hop, hds, Act.eval, t68, hr, Oper.upon, Act.put, VK, hS2]
  | 60, ho =>
    have hy := yl_dep hF 51 61 false (by kernel_rfl) (dep_of ho hdep 51 (by kernel_rfl)) rfl
    have hgd : o.guard = some (51, false) := fact ho (by kernel_rfl)
    rw [if_pos (by rw [want_some hgd hy]; rfl)]
    have hop : o.op = .call { callee := .builtin .len, args := #[.tmp 69], argTypes := #[24] } := fact ho (by kernel_rfl)
    have hds : o.dst = some 70 := fact ho (by kernel_rfl)
    have t69 := tm_dep hF 59 69 (by kernel_rfl) (dep_of ho hdep 59 (by kernel_rfl))
    simp only [VK] at t69
    have hS2 := hmv 60 (by decide) listed w hS
    unfold Oper.wp
    simp [execOp, hop, hds, t69, go_sem, VK, hS2]
  | 61, ho =>
    have hy := yl_dep hF 51 61 false (by kernel_rfl) (dep_of ho hdep 51 (by kernel_rfl)) rfl
    have hgd : o.guard = some (51, false) := fact ho (by kernel_rfl)
    rw [if_pos (by rw [want_some hgd hy]; rfl)]
    have hop : o.op = .binOp .sub 3 (.tmp 70) (.const (.int .i64 1)) 3 := fact ho (by kernel_rfl)
    have hds : o.dst = some 71 := fact ho (by kernel_rfl)
    have t70 := tm_dep hF 60 70 (by kernel_rfl) (dep_of ho hdep 60 (by kernel_rfl))
    simp only [VK] at t70
    have hS2 := hmv 61 (by decide) listed w hS
    unfold Oper.wp
    simp [execOp, hop, hds, t70, hw3, go_sem, VK, hS2]
  | 62, ho =>
    have hy := yl_dep hF 51 61 false (by kernel_rfl) (dep_of ho hdep 51 (by kernel_rfl)) rfl
    have hgd : o.guard = some (51, false) := fact ho (by kernel_rfl)
    rw [if_pos (by rw [want_some hgd hy]; rfl)]
    have hop : o.op = .indexAddr 24 (.tmp 65) (.tmp 71) := fact ho (by kernel_rfl)
    have hds : o.dst = some 72 := fact ho (by kernel_rfl)
    have t65 := tm_dep hF 55 65 (by kernel_rfl) (dep_of ho hdep 55 (by kernel_rfl))
    simp only [VK] at t65
    have t71 := tm_dep hF 61 71 (by kernel_rfl) (dep_of ho hdep 61 (by kernel_rfl))
    simp only [VK] at t71
    have hS2 := hmv 62 (by decide) listed w hS
    unfold Oper.wp
    simp [execOp, hop, hds, t65, t71, hi3, hj3, go_sem, VK, hS2]
  | 63, ho =>
    have hy := yl_dep hF 51 61 false (by kernel_rfl) (dep_of ho hdep 51 (by kernel_rfl)) rfl
    have hgd : o.guard = some (51, false) := fact ho (by kernel_rfl)
    rw [if_pos (by rw [want_some hgd hy]; rfl)]
    have hop : o.op = .load 9 (.tmp 72) := fact ho (by kernel_rfl)
    have hds : o.dst = some 73 := fact ho (by kernel_rfl)
    have t72 := tm_dep hF 62 72 (by kernel_rfl) (dep_of ho hdep 62 (by kernel_rfl))
    simp only [VK] at t72
    obtain ⟨W2, hr, hS2⟩ := hl63 listed w hS hls hun (fun j hj => dep_of ho hdep j hj)
    unfold Oper.wp
    simp [execOp, hop, hds, Act.eval, t72, hr, Oper.upon, Act.put, VK, hS2]
  | 64, ho =>
    have hy := yl_dep hF 51 61 false (by kernel_rfl) (dep_of ho hdep 51 (by kernel_rfl)) rfl
    have hgd : o.guard = some (51, false) := fact ho (by kernel_rfl)
    rw [if_pos (by rw [want_some hgd hy]; rfl)]
    have hop : o.op = .binOp .neq 9 (.tmp 73) (.const (.string { data := #[98, 101, 104, 105, 110, 100] })) 9 := fact ho (by kernel_rfl)
    have hds : o.dst = some 74 := fact ho (by kernel_rfl)
    have t73 := tm_dep hF 63 73 (by kernel_rfl) (dep_of ho hdep 63 (by kernel_rfl))
    simp only [VK] at t73
    have hS2 := hmv 64 (by decide) listed w hS
    unfold Oper.wp
    simp [execOp, hop, hds, t73, go_sem, VK, hS2]
  | 65, ho =>
    rw [if_pos (want_none (fact ho (by kernel_rfl)))]
    have hop : o.op = .pick (.tmp 61) (.const (.bool true)) (.tmp 74) := fact ho (by kernel_rfl)
    have hds : o.dst = some 75 := fact ho (by kernel_rfl)
    have t61 := tm_dep hF 51 61 (by kernel_rfl) (dep_of ho hdep 51 (by kernel_rfl))
    simp only [VK] at t61
    have t74 := tm_dep hF 64 74 (by kernel_rfl) (dep_of ho hdep 64 (by kernel_rfl))
    simp only [VK] at t74
    have hS2 := hmv 65 (by decide) listed w hS
    unfold Oper.wp
    simp [execOp, hop, hds, t61, t74, go_sem, VK, hS2]
  | 66, ho =>
    rw [if_pos (want_none (fact ho (by kernel_rfl)))]
    have hop : o.op = .move (.tmp 75) := fact ho (by kernel_rfl)
    have hds : o.dst = some 76 := fact ho (by kernel_rfl)
    have t75 := tm_dep hF 65 75 (by kernel_rfl) (dep_of ho hdep 65 (by kernel_rfl))
    simp only [VK] at t75
    have hS2 := hmv 66 (by decide) listed w hS
    unfold Oper.wp
    simp [execOp, hop, hds, t75, go_sem, VK, hS2]
  | 67, ho =>
    have hy := yl_dep hF 66 76 false (by kernel_rfl) (dep_of ho hdep 66 (by kernel_rfl)) rfl
    have hgd : o.guard = some (66, false) := fact ho (by kernel_rfl)
    rw [if_pos (by rw [want_some hgd hy]; rfl)]
    have hop : o.op = .move (.tmp 0) := fact ho (by kernel_rfl)
    have hds : o.dst = some 77 := fact ho (by kernel_rfl)
    have t0 := tm_old hF 0 _ h0 (by kernel_rfl)
    have hS2 := hmv 67 (by decide) listed w hS
    unfold Oper.wp
    simp [execOp, hop, hds, t0, go_sem, VK, hS2]
  | 68, ho =>
    have hy := yl_dep hF 66 76 false (by kernel_rfl) (dep_of ho hdep 66 (by kernel_rfl)) rfl
    have hgd : o.guard = some (66, false) := fact ho (by kernel_rfl)
    rw [if_pos (by rw [want_some hgd hy]; rfl)]
    have hop : o.op = .nilCheck (.tmp 77) := fact ho (by kernel_rfl)
    have hds : o.dst = some 78 := fact ho (by kernel_rfl)
    have t77 := tm_dep hF 67 77 (by kernel_rfl) (dep_of ho hdep 67 (by kernel_rfl))
    simp only [VK] at t77
    have hS2 := hmv 68 (by decide) listed w hS
    unfold Oper.wp
    simp [execOp, hop, hds, t77, go_sem, VK, hS2]
  | 69, ho =>
    have hy := yl_dep hF 66 76 false (by kernel_rfl) (dep_of ho hdep 66 (by kernel_rfl)) rfl
    have hgd : o.guard = some (66, false) := fact ho (by kernel_rfl)
    rw [if_pos (by rw [want_some hgd hy]; rfl)]
    have hop : o.op = .fieldAddr 30 (.tmp 78) 4 := fact ho (by kernel_rfl)
    have hds : o.dst = some 79 := fact ho (by kernel_rfl)
    have t78 := tm_dep hF 68 78 (by kernel_rfl) (dep_of ho hdep 68 (by kernel_rfl))
    simp only [VK] at t78
    have hS2 := hmv 69 (by decide) listed w hS
    unfold Oper.wp
    simp [execOp, hop, hds, t78, go_sem, VK, hS2]
  | 70, ho =>
    have hy := yl_dep hF 66 76 false (by kernel_rfl) (dep_of ho hdep 66 (by kernel_rfl)) rfl
    have hgd : o.guard = some (66, false) := fact ho (by kernel_rfl)
    rw [if_pos (by rw [want_some hgd hy]; rfl)]
    have hop : o.op = .load 25 (.tmp 79) := fact ho (by kernel_rfl)
    have hds : o.dst = some 80 := fact ho (by kernel_rfl)
    have t79 := tm_dep hF 69 79 (by kernel_rfl) (dep_of ho hdep 69 (by kernel_rfl))
    simp only [VK] at t79
    obtain ⟨W2, hr, hS2⟩ := hl70 listed w hS hls hun (fun j hj => dep_of ho hdep j hj)
    unfold Oper.wp
    simp [execOp, hop, hds, Act.eval, t79, hr, Oper.upon, Act.put, VK, hS2]
  | 71, ho =>
    have hy := yl_dep hF 66 76 false (by kernel_rfl) (dep_of ho hdep 66 (by kernel_rfl)) rfl
    have hgd : o.guard = some (66, false) := fact ho (by kernel_rfl)
    rw [if_pos (by rw [want_some hgd hy]; rfl)]
    have hop : o.op = .move (.tmp 0) := fact ho (by kernel_rfl)
    have hds : o.dst = some 81 := fact ho (by kernel_rfl)
    have t0 := tm_old hF 0 _ h0 (by kernel_rfl)
    have hS2 := hmv 71 (by decide) listed w hS
    unfold Oper.wp
    simp [execOp, hop, hds, t0, go_sem, VK, hS2]
  | 72, ho =>
    have hy := yl_dep hF 66 76 false (by kernel_rfl) (dep_of ho hdep 66 (by kernel_rfl)) rfl
    have hgd : o.guard = some (66, false) := fact ho (by kernel_rfl)
    rw [if_pos (by rw [want_some hgd hy]; rfl)]
    have hop : o.op = .nilCheck (.tmp 81) := fact ho (by kernel_rfl)
    have hds : o.dst = some 82 := fact ho (by kernel_rfl)
    have t81 := tm_dep hF 71 81 (by kernel_rfl) (dep_of ho hdep 71 (by kernel_rfl))
    simp only [VK] at t81
    have hS2 := hmv 72 (by decide) listed w hS
    unfold Oper.wp
    simp [execOp, hop, hds, t81, go_sem, VK, hS2]
  | 73, ho =>
    have hy := yl_dep hF 66 76 false (by kernel_rfl) (dep_of ho hdep 66 (by kernel_rfl)) rfl
    have hgd : o.guard = some (66, false) := fact ho (by kernel_rfl)
    rw [if_pos (by rw [want_some hgd hy]; rfl)]
    have hop : o.op = .fieldAddr 30 (.tmp 82) 4 := fact ho (by kernel_rfl)
    have hds : o.dst = some 83 := fact ho (by kernel_rfl)
    have t82 := tm_dep hF 72 82 (by kernel_rfl) (dep_of ho hdep 72 (by kernel_rfl))
    simp only [VK] at t82
    have hS2 := hmv 73 (by decide) listed w hS
    unfold Oper.wp
    simp [execOp, hop, hds, t82, go_sem, VK, hS2]
  | 74, ho =>
    have hy := yl_dep hF 66 76 false (by kernel_rfl) (dep_of ho hdep 66 (by kernel_rfl)) rfl
    have hgd : o.guard = some (66, false) := fact ho (by kernel_rfl)
    rw [if_pos (by rw [want_some hgd hy]; rfl)]
    have hop : o.op = .load 25 (.tmp 83) := fact ho (by kernel_rfl)
    have hds : o.dst = some 84 := fact ho (by kernel_rfl)
    have t83 := tm_dep hF 73 83 (by kernel_rfl) (dep_of ho hdep 73 (by kernel_rfl))
    simp only [VK] at t83
    obtain ⟨W2, hr, hS2⟩ := hl74 listed w hS hls hun (fun j hj => dep_of ho hdep j hj)
    unfold Oper.wp
    simp [execOp, hop, hds, Act.eval, t83, hr, Oper.upon, Act.put, VK, hS2]
  | 75, ho =>
    have hy := yl_dep hF 66 76 false (by kernel_rfl) (dep_of ho hdep 66 (by kernel_rfl)) rfl
    have hgd : o.guard = some (66, false) := fact ho (by kernel_rfl)
    rw [if_pos (by rw [want_some hgd hy]; rfl)]
    have hop : o.op = .call { callee := .builtin .len, args := #[.tmp 84], argTypes := #[25] } := fact ho (by kernel_rfl)
    have hds : o.dst = some 85 := fact ho (by kernel_rfl)
    have t84 := tm_dep hF 74 84 (by kernel_rfl) (dep_of ho hdep 74 (by kernel_rfl))
    simp only [VK] at t84
    have hS2 := hmv 75 (by decide) listed w hS
    unfold Oper.wp
    simp [execOp, hop, hds, t84, go_sem, VK, hS2]
  | 76, ho =>
    have hy := yl_dep hF 66 76 false (by kernel_rfl) (dep_of ho hdep 66 (by kernel_rfl)) rfl
    have hgd : o.guard = some (66, false) := fact ho (by kernel_rfl)
    rw [if_pos (by rw [want_some hgd hy]; rfl)]
    have hop : o.op = .binOp .sub 3 (.tmp 85) (.const (.int .i64 1)) 3 := fact ho (by kernel_rfl)
    have hds : o.dst = some 86 := fact ho (by kernel_rfl)
    have t85 := tm_dep hF 75 85 (by kernel_rfl) (dep_of ho hdep 75 (by kernel_rfl))
    simp only [VK] at t85
    have hS2 := hmv 76 (by decide) listed w hS
    unfold Oper.wp
    simp [execOp, hop, hds, t85, hw4, go_sem, VK, hS2]
  | 77, ho =>
    have hy := yl_dep hF 66 76 false (by kernel_rfl) (dep_of ho hdep 66 (by kernel_rfl)) rfl
    have hgd : o.guard = some (66, false) := fact ho (by kernel_rfl)
    rw [if_pos (by rw [want_some hgd hy]; rfl)]
    have hop : o.op = .indexAddr 25 (.tmp 80) (.tmp 86) := fact ho (by kernel_rfl)
    have hds : o.dst = some 87 := fact ho (by kernel_rfl)
    have t80 := tm_dep hF 70 80 (by kernel_rfl) (dep_of ho hdep 70 (by kernel_rfl))
    simp only [VK] at t80
    have t86 := tm_dep hF 76 86 (by kernel_rfl) (dep_of ho hdep 76 (by kernel_rfl))
    simp only [VK] at t86
    have hS2 := hmv 77 (by decide) listed w hS
    unfold Oper.wp
    simp [execOp, hop, hds, t80, t86, hi4, hj4, go_sem, VK, hS2]
  | 78, ho =>
    have hy := yl_dep hF 66 76 false (by kernel_rfl) (dep_of ho hdep 66 (by kernel_rfl)) rfl
    have hgd : o.guard = some (66, false) := fact ho (by kernel_rfl)
    rw [if_pos (by rw [want_some hgd hy]; rfl)]
    have hop : o.op = .fieldAddr 44 (.tmp 87) 0 := fact ho (by kernel_rfl)
    have hds : o.dst = some 88 := fact ho (by kernel_rfl)
    have t87 := tm_dep hF 77 87 (by kernel_rfl) (dep_of ho hdep 77 (by kernel_rfl))
    simp only [VK] at t87
    have hS2 := hmv 78 (by decide) listed w hS
    unfold Oper.wp
    simp [execOp, hop, hds, t87, go_sem, VK, hS2]
  | 79, ho =>
    have hy := yl_dep hF 66 76 false (by kernel_rfl) (dep_of ho hdep 66 (by kernel_rfl)) rfl
    have hgd : o.guard = some (66, false) := fact ho (by kernel_rfl)
    rw [if_pos (by rw [want_some hgd hy]; rfl)]
    have hop : o.op = .load 9 (.tmp 88) := fact ho (by kernel_rfl)
    have hds : o.dst = some 89 := fact ho (by kernel_rfl)
    have t88 := tm_dep hF 78 88 (by kernel_rfl) (dep_of ho hdep 78 (by kernel_rfl))
    simp only [VK] at t88
    obtain ⟨W2, hr, hS2⟩ := hl79 listed w hS hls hun (fun j hj => dep_of ho hdep j hj)
    unfold Oper.wp
    simp [execOp, hop, hds, Act.eval, t88, hr, Oper.upon, Act.put, VK, hS2]
  | 80, ho =>
    have hy := yl_dep hF 66 76 false (by kernel_rfl) (dep_of ho hdep 66 (by kernel_rfl)) rfl
    have hgd : o.guard = some (66, false) := fact ho (by kernel_rfl)
    rw [if_pos (by rw [want_some hgd hy]; rfl)]
    have hop : o.op = .binOp .neq 9 (.tmp 89) (.const (.string { data := #[98, 101, 104, 105, 110, 100] })) 9 := fact ho (by kernel_rfl)
    have hds : o.dst = some 90 := fact ho (by kernel_rfl)
    have t89 := tm_dep hF 79 89 (by kernel_rfl) (dep_of ho hdep 79 (by kernel_rfl))
    simp only [VK] at t89
    have hS2 := hmv 80 (by decide) listed w hS
    unfold Oper.wp
    simp [execOp, hop, hds, t89, go_sem, VK, hS2]
  | 81, ho =>
    rw [if_pos (want_none (fact ho (by kernel_rfl)))]
    have hop : o.op = .pick (.tmp 76) (.const (.bool true)) (.tmp 90) := fact ho (by kernel_rfl)
    have hds : o.dst = some 91 := fact ho (by kernel_rfl)
    have t76 := tm_dep hF 66 76 (by kernel_rfl) (dep_of ho hdep 66 (by kernel_rfl))
    simp only [VK] at t76
    have t90 := tm_dep hF 80 90 (by kernel_rfl) (dep_of ho hdep 80 (by kernel_rfl))
    simp only [VK] at t90
    have hS2 := hmv 81 (by decide) listed w hS
    unfold Oper.wp
    simp [execOp, hop, hds, t76, t90, go_sem, VK, hS2]
  | n + 82, ho =>
    exfalso
    have h1 : n + 82 < regK.size := (Array.getElem?_eq_some_iff.1 ho).1
    rw [show regK.size = 82 from by kernel_rfl] at h1
    omega
set_option maxRecDepth 100000 in
theorem putK (X : Nat → Value) (v0 v1 v2 v3 v4 v5 v6 v7 v8 v9 v10 v11 v12 v13 v14 v15 v16 v17 v18 v19 v20 v21 v22 v23 v24 v25 v26 v27 v28 v29 v30 v31 v32 v33 v34 v35 v36 v37 v38 v39 v40 v41 v42 v43 v44 v45 v46 v47 v48 v49 v50 v51 v52 v53 v54 v55 v56 v57 v58 v59 v60 v61 v62 v63 v64 v65 v66 v67 v68 v69 v70 v71 v72 v73 v74 v75 v76 v77 v78 v79 v80 v81 v82 v83 v84 v85 v86 v87 v88 v89 v90 v91 v92 v93 v94 v95 v96 v97 v98 v99 v100 v101 v102 v103 v104 v105 v106 v107 v108 v109 v110 v111 v112 v113 v114 v115 v116 v117 v118 v119 : Value) : putN regK X ⟨#[v0, v1, v2, v3, v4, v5, v6, v7, v8, v9, v10, v11, v12, v13, v14, v15, v16, v17, v18, v19, v20, v21, v22, v23, v24, v25, v26, v27, v28, v29, v30, v31, v32, v33, v34, v35, v36, v37, v38, v39, v40, v41, v42, v43, v44, v45, v46, v47, v48, v49, v50, v51, v52, v53, v54, v55, v56, v57, v58, v59, v60, v61, v62, v63, v64, v65, v66, v67, v68, v69, v70, v71, v72, v73, v74, v75, v76, v77, v78, v79, v80, v81, v82, v83, v84, v85, v86, v87, v88, v89, v90, v91, v92, v93, v94, v95, v96, v97, v98, v99, v100, v101, v102, v103, v104, v105, v106, v107, v108, v109, v110, v111, v112, v113, v114, v115, v116, v117, v118, v119], []⟩ regK.size = ⟨#[v0, v1, v2, v3, v4, v5, v6, v7, v8, v9, X 0, X 1, X 2, X 3, X 4, X 5, X 6, X 7, X 8, X 9, X 10, X 11, X 12, X 13, X 14, X 15, X 16, X 17, X 18, X 19, X 20, X 21, X 22, X 23, X 24, X 25, X 26, X 27, X 28, X 29, X 30, X 31, X 32, X 33, X 34, X 35, X 36, X 37, X 38, X 39, X 40, X 41, X 42, X 43, X 44, X 45, X 46, X 47, X 48, X 49, X 50, X 51, X 52, X 53, X 54, X 55, X 56, X 57, X 58, X 59, X 60, X 61, X 62, X 63, X 64, X 65, X 66, X 67, X 68, X 69, X 70, X 71, X 72, X 73, X 74, X 75, X 76, X 77, X 78, X 79, X 80, X 81, v92, v93, v94, v95, v96, v97, v98, v99, v100, v101, v102, v103, v104, v105, v106, v107, v108, v109, v110, v111, v112, v113, v114, v115, v116, v117, v118, v119], []⟩ := by kernel_rfl
end Go.Proofs.Ytcggaiplepekdaa
