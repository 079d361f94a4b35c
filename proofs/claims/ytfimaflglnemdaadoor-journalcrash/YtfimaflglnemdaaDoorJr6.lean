/- The operations of record's region 6, each by its value. Made by a program. -/
import Derived.Test.YtfimaflglnemdaaDoorJr9
namespace Go.Proofs.YtfimaflglnemdaaDoor
open Go.RowKit

noncomputable def reg6 : Array Oper := ((Tryd.f77.body.bind (findR 6)).getD #[])
theorem okR6 : okR reg6 101 = true := by kernel_rfl
def V6a (g _bx R cR cF mQ cQ : Nat) (oR oF oQ : Option Addr) (_rv : Value) (_rc : Array Value) : Nat → Value
  | 0 => .pointer (some ⟨g, 0, none⟩)
  | 1 => .slice oR R cR
  | 2 => .slice oF 14 cF
  | 3 => .slice oR R cR
  | 4 => .slice oQ mQ cQ
  | 5 => .bool false
  | 6 => .bool true
  | 7 => .bool true
  | 13 => .bool true
  | _ => undef
set_option maxRecDepth 100000 in
set_option maxHeartbeats 1000000 in
theorem step6a (a0 : Act) {c : List PanicEntry} (g bx R cR cF mQ cQ : Nat) (oR oF oQ : Option Addr) (rv : Value) (rc : Array Value) (S : Array Bool → World → Prop) (Q : Exit → Act → World → Prop) (h0 : a0.tmps[0]? = some (.pointer (some ⟨g, 0, none⟩))) (_h1 : a0.tmps[1]? = some (rv)) (h5 : a0.tmps[5]? = some (.slice oR R cR)) (_h6 : a0.tmps[6]? = some (.pointer (some ⟨bx, 0, none⟩)))
    (hmv : ∀ i : Nat, decide (i < 14) = true → ∀ listed W, S listed W → S (listed.setIfInBounds i true) W) (hc5 : ∀ listed W, S listed W → listed.size = reg6.size → listed.getD 5 true = false → (∀ j, ((reg6[5]?).map fun o => o.after.any fun e => Region.binds .any e && e.on == j) = some true → listed.getD j false = true) → Calls Tryd.prog 82 #[.slice oF 14 cF, .slice oQ mQ cQ] W fun e w' => e = .returned (.bool false) ∧ S (listed.setIfInBounds 5 true) w') (hc14 : ∀ listed W, S listed W → Calls Tryd.prog 79 #[.pointer (some ⟨g, 0, none⟩), .bool true] W fun e w' => e = .panicked c ∧ ∀ a, a.defers = a0.defers → Q (.panic c) a w') (hs2 : ∀ listed W, S listed W → listed.size = reg6.size → listed.getD 2 true = false → (∀ j, ((reg6[2]?).map fun o => o.after.any fun e => Region.binds .any e && e.on == j) = some true → listed.getD j false = true) → ∃ W2, (Instr.sliceAt 23 (.slice oR R cR) none (some (.int .i64 14)) none).run Tryd.prog W = .ok (.slice oF 14 cF) W2 ∧ S (listed.setIfInBounds 2 true) W2) (hs4 : ∀ listed W, S listed W → listed.size = reg6.size → listed.getD 4 true = false → (∀ j, ((reg6[4]?).map fun o => o.after.any fun e => Region.binds .any e && e.on == j) = some true → listed.getD j false = true) → ∃ W2, (Instr.sliceAt 23 (.slice oR R cR) (some (.int .i64 14)) none none).run Tryd.prog W = .ok (.slice oQ mQ cQ) W2 ∧ S (listed.setIfInBounds 4 true) W2)
    (i : Nat) (o : Oper) (a : Act) (w : World) (listed : Array Bool) (ho : reg6[i]? = some o) (hF : RFr reg6 a0 (V6a g bx R cR cF mQ cQ oR oF oQ rv rc) listed a) (hS : S listed w) (hls : listed.size = reg6.size) (hun : listed.getD i true = false) (hdep : ∀ e ∈ o.after, Region.binds .any e = true → listed.getD e.on false = true) :
      if Region.wanted o (yielded reg6 a.tmps) = true then Oper.wp Tryd.prog o a w (fun a' w' => a' = a.put o.dst (V6a g bx R cR cF mQ cQ oR oF oQ rv rc i) ∧ S (listed.setIfInBounds i true) w') Q else V6a g bx R cR cF mQ cQ oR oF oQ rv rc i = undef ∧ S (listed.setIfInBounds i true) w := by
  match i, ho with
  | 0, ho =>
    rw [if_pos (want_none (fact ho (by kernel_rfl)))]
    have hop : o.op = .move (.tmp 0) := fact ho (by kernel_rfl)
    have hds : o.dst = some 50 := fact ho (by kernel_rfl)
    have t0 := tm_old hF 0 _ h0 (by kernel_rfl)
    have hS2 := hmv 0 (by decide) listed w hS
    unfold Oper.wp
    simp [execOp, hop, hds, t0, go_sem, V6a, hS2]
  | 1, ho =>
    rw [if_pos (want_none (fact ho (by kernel_rfl)))]
    have hop : o.op = .move (.tmp 5) := fact ho (by kernel_rfl)
    have hds : o.dst = some 51 := fact ho (by kernel_rfl)
    have t5 := tm_old hF 5 _ h5 (by kernel_rfl)
    have hS2 := hmv 1 (by decide) listed w hS
    unfold Oper.wp
    simp [execOp, hop, hds, t5, go_sem, V6a, hS2]
  | 2, ho =>
    rw [if_pos (want_none (fact ho (by kernel_rfl)))]
    have hop : o.op = .slice 23 (.tmp 51) none (some (.const (.int .i64 14))) none := fact ho (by kernel_rfl)
    have hds : o.dst = some 52 := fact ho (by kernel_rfl)
    have t51 := tm_dep hF 1 51 (by kernel_rfl) (dep_of ho hdep 1 (by kernel_rfl))
    simp only [V6a] at t51
    obtain ⟨W2, hr, hS2⟩ := hs2 listed w hS hls hun (fun j hj => dep_of ho hdep j hj)
    unfold Oper.wp
    simp [execOp, hop, hds, Act.eval, t51, hr, Oper.upon, Act.put, V6a, hS2]
  | 3, ho =>
    rw [if_pos (want_none (fact ho (by kernel_rfl)))]
    have hop : o.op = .move (.tmp 5) := fact ho (by kernel_rfl)
    have hds : o.dst = some 53 := fact ho (by kernel_rfl)
    have t5 := tm_old hF 5 _ h5 (by kernel_rfl)
    have hS2 := hmv 3 (by decide) listed w hS
    unfold Oper.wp
    simp [execOp, hop, hds, t5, go_sem, V6a, hS2]
  | 4, ho =>
    rw [if_pos (want_none (fact ho (by kernel_rfl)))]
    have hop : o.op = .slice 23 (.tmp 53) (some (.const (.int .i64 14))) none none := fact ho (by kernel_rfl)
    have hds : o.dst = some 54 := fact ho (by kernel_rfl)
    have t53 := tm_dep hF 3 53 (by kernel_rfl) (dep_of ho hdep 3 (by kernel_rfl))
    simp only [V6a] at t53
    obtain ⟨W2, hr, hS2⟩ := hs4 listed w hS hls hun (fun j hj => dep_of ho hdep j hj)
    unfold Oper.wp
    simp [execOp, hop, hds, Act.eval, t53, hr, Oper.upon, Act.put, V6a, hS2]
  | 5, ho =>
    rw [if_pos (want_none (fact ho (by kernel_rfl)))]
    have hop : o.op = .call { callee := .value (.func 82), args := #[.tmp 52, .tmp 54], argTypes := #[23, 23] } := fact ho (by kernel_rfl)
    have hds : o.dst = some 55 := fact ho (by kernel_rfl)
    have t52 := tm_dep hF 2 52 (by kernel_rfl) (dep_of ho hdep 2 (by kernel_rfl))
    simp only [V6a] at t52
    have t54 := tm_dep hF 4 54 (by kernel_rfl) (dep_of ho hdep 4 (by kernel_rfl))
    simp only [V6a] at t54
    unfold Oper.wp
    simp [execOp, hop, hds, t52, t54, go_sem, V6a]
    refine (hc5 listed w hS hls hun (fun j hj => dep_of ho hdep j hj)).mono ?_
    rintro e w' ⟨rfl, hS'⟩
    exact ⟨rfl, hS'⟩
  | 6, ho =>
    rw [if_pos (want_none (fact ho (by kernel_rfl)))]
    have hop : o.op = .unOp .not 4 (.tmp 55) := fact ho (by kernel_rfl)
    have hds : o.dst = some 56 := fact ho (by kernel_rfl)
    have t55 := tm_dep hF 5 55 (by kernel_rfl) (dep_of ho hdep 5 (by kernel_rfl))
    simp only [V6a] at t55
    have hS2 := hmv 6 (by decide) listed w hS
    unfold Oper.wp
    simp [execOp, hop, hds, t55, go_sem, V6a, hS2]
  | 7, ho =>
    rw [if_pos (want_none (fact ho (by kernel_rfl)))]
    have hop : o.op = .move (.tmp 56) := fact ho (by kernel_rfl)
    have hds : o.dst = some 57 := fact ho (by kernel_rfl)
    have t56 := tm_dep hF 6 56 (by kernel_rfl) (dep_of ho hdep 6 (by kernel_rfl))
    simp only [V6a] at t56
    have hS2 := hmv 7 (by decide) listed w hS
    unfold Oper.wp
    simp [execOp, hop, hds, t56, go_sem, V6a, hS2]
  | 8, ho =>
    have hy := yl_dep hF 7 57 true (by kernel_rfl) (dep_of ho hdep 7 (by kernel_rfl)) rfl
    have hgd : o.guard = some (7, false) := fact ho (by kernel_rfl)
    rw [if_neg (by rw [want_some hgd hy]; decide)]
    exact ⟨rfl, hmv 8 (by decide) listed w hS⟩
  | 9, ho =>
    have hy := yl_dep hF 7 57 true (by kernel_rfl) (dep_of ho hdep 7 (by kernel_rfl)) rfl
    have hgd : o.guard = some (7, false) := fact ho (by kernel_rfl)
    rw [if_neg (by rw [want_some hgd hy]; decide)]
    exact ⟨rfl, hmv 9 (by decide) listed w hS⟩
  | 10, ho =>
    have hy := yl_dep hF 7 57 true (by kernel_rfl) (dep_of ho hdep 7 (by kernel_rfl)) rfl
    have hgd : o.guard = some (7, false) := fact ho (by kernel_rfl)
    rw [if_neg (by rw [want_some hgd hy]; decide)]
    exact ⟨rfl, hmv 10 (by decide) listed w hS⟩
  | 11, ho =>
    have hy := yl_dep hF 7 57 true (by kernel_rfl) (dep_of ho hdep 7 (by kernel_rfl)) rfl
    have hgd : o.guard = some (7, false) := fact ho (by kernel_rfl)
    rw [if_neg (by rw [want_some hgd hy]; decide)]
    exact ⟨rfl, hmv 11 (by decide) listed w hS⟩
  | 12, ho =>
    have hy := yl_dep hF 7 57 true (by kernel_rfl) (dep_of ho hdep 7 (by kernel_rfl)) rfl
    have hgd : o.guard = some (7, false) := fact ho (by kernel_rfl)
    rw [if_neg (by rw [want_some hgd hy]; decide)]
    exact ⟨rfl, hmv 12 (by decide) listed w hS⟩
  | 13, ho =>
    rw [if_pos (want_none (fact ho (by kernel_rfl)))]
    have hop : o.op = .pick (.tmp 57) (.const (.bool true)) (.tmp 62) := fact ho (by kernel_rfl)
    have hds : o.dst = some 63 := fact ho (by kernel_rfl)
    have t57 := tm_dep hF 7 57 (by kernel_rfl) (dep_of ho hdep 7 (by kernel_rfl))
    simp only [V6a] at t57
    have t62 := tm_dep hF 12 62 (by kernel_rfl) (dep_of ho hdep 12 (by kernel_rfl))
    simp only [V6a] at t62
    have hS2 := hmv 13 (by decide) listed w hS
    unfold Oper.wp
    simp [execOp, hop, hds, t57, t62, go_sem, V6a, hS2]
  | 14, ho =>
    rw [if_pos (want_none (fact ho (by kernel_rfl)))]
    have hop : o.op = .call { callee := .value (.func 79), args := #[.tmp 50, .tmp 63], argTypes := #[128, 4] } := fact ho (by kernel_rfl)
    have hds : o.dst = some 64 := fact ho (by kernel_rfl)
    have t50 := tm_dep hF 0 50 (by kernel_rfl) (dep_of ho hdep 0 (by kernel_rfl))
    simp only [V6a] at t50
    have t63 := tm_dep hF 13 63 (by kernel_rfl) (dep_of ho hdep 13 (by kernel_rfl))
    simp only [V6a] at t63
    unfold Oper.wp
    simp [execOp, hop, hds, t50, t63, go_sem, V6a]
    refine (hc14 listed w hS).mono ?_
    rintro e w' ⟨rfl, hq⟩
    exact hq _ hF.df
  | n + 15, ho =>
    exfalso
    have h1 : n + 15 < reg6.size := (Array.getElem?_eq_some_iff.1 ho).1
    rw [show reg6.size = 15 from by kernel_rfl] at h1
    omega
def V6b (g _bx R cR cF mQ cQ : Nat) (oR oF oQ : Option Addr) (rv : Value) (rc : Array Value) : Nat → Value
  | 0 => .pointer (some ⟨g, 0, none⟩)
  | 1 => .slice oR R cR
  | 2 => .slice oF 14 cF
  | 3 => .slice oR R cR
  | 4 => .slice oQ mQ cQ
  | 5 => .bool true
  | 6 => .bool false
  | 7 => .bool false
  | 8 => rv
  | 9 => .agg rc
  | 10 => .func (.func 84) #[.agg rc] #[]
  | 11 => .bool false
  | 12 => .bool true
  | 13 => .bool true
  | _ => undef
set_option maxRecDepth 100000 in
set_option maxHeartbeats 1000000 in
theorem step6b (a0 : Act) {c : List PanicEntry} (g bx R cR cF mQ cQ : Nat) (oR oF oQ : Option Addr) (rv : Value) (rc : Array Value) (S : Array Bool → World → Prop) (Q : Exit → Act → World → Prop) (h0 : a0.tmps[0]? = some (.pointer (some ⟨g, 0, none⟩))) (h1 : a0.tmps[1]? = some (rv)) (h5 : a0.tmps[5]? = some (.slice oR R cR)) (h6 : a0.tmps[6]? = some (.pointer (some ⟨bx, 0, none⟩)))
    (hmv : ∀ i : Nat, decide (i < 14) = true → ∀ listed W, S listed W → S (listed.setIfInBounds i true) W) (hc5 : ∀ listed W, S listed W → listed.size = reg6.size → listed.getD 5 true = false → (∀ j, ((reg6[5]?).map fun o => o.after.any fun e => Region.binds .any e && e.on == j) = some true → listed.getD j false = true) → Calls Tryd.prog 82 #[.slice oF 14 cF, .slice oQ mQ cQ] W fun e w' => e = .returned (.bool true) ∧ S (listed.setIfInBounds 5 true) w') (hc11 : ∀ listed W, S listed W → listed.size = reg6.size → listed.getD 11 true = false → (∀ j, ((reg6[11]?).map fun o => o.after.any fun e => Region.binds .any e && e.on == j) = some true → listed.getD j false = true) → Calls Tryd.prog 83 #[rv, .func (.func 84) #[.agg rc] #[]] W fun e w' => e = .returned (.bool false) ∧ S (listed.setIfInBounds 11 true) w') (hl9 : ∀ listed W, S listed W → listed.size = reg6.size → listed.getD 9 true = false → (∀ j, ((reg6[9]?).map fun o => o.after.any fun e => Region.binds .any e && e.on == j) = some true → listed.getD j false = true) → ∃ W2, (Instr.loadAt 142 (.pointer (some ⟨bx, 0, none⟩))).run Tryd.prog W = .ok (.agg rc) W2 ∧ S (listed.setIfInBounds 9 true) W2) (hc14 : ∀ listed W, S listed W → Calls Tryd.prog 79 #[.pointer (some ⟨g, 0, none⟩), .bool true] W fun e w' => e = .panicked c ∧ ∀ a, a.defers = a0.defers → Q (.panic c) a w') (hs2 : ∀ listed W, S listed W → listed.size = reg6.size → listed.getD 2 true = false → (∀ j, ((reg6[2]?).map fun o => o.after.any fun e => Region.binds .any e && e.on == j) = some true → listed.getD j false = true) → ∃ W2, (Instr.sliceAt 23 (.slice oR R cR) none (some (.int .i64 14)) none).run Tryd.prog W = .ok (.slice oF 14 cF) W2 ∧ S (listed.setIfInBounds 2 true) W2) (hs4 : ∀ listed W, S listed W → listed.size = reg6.size → listed.getD 4 true = false → (∀ j, ((reg6[4]?).map fun o => o.after.any fun e => Region.binds .any e && e.on == j) = some true → listed.getD j false = true) → ∃ W2, (Instr.sliceAt 23 (.slice oR R cR) (some (.int .i64 14)) none none).run Tryd.prog W = .ok (.slice oQ mQ cQ) W2 ∧ S (listed.setIfInBounds 4 true) W2)
    (i : Nat) (o : Oper) (a : Act) (w : World) (listed : Array Bool) (ho : reg6[i]? = some o) (hF : RFr reg6 a0 (V6b g bx R cR cF mQ cQ oR oF oQ rv rc) listed a) (hS : S listed w) (hls : listed.size = reg6.size) (hun : listed.getD i true = false) (hdep : ∀ e ∈ o.after, Region.binds .any e = true → listed.getD e.on false = true) :
      if Region.wanted o (yielded reg6 a.tmps) = true then Oper.wp Tryd.prog o a w (fun a' w' => a' = a.put o.dst (V6b g bx R cR cF mQ cQ oR oF oQ rv rc i) ∧ S (listed.setIfInBounds i true) w') Q else V6b g bx R cR cF mQ cQ oR oF oQ rv rc i = undef ∧ S (listed.setIfInBounds i true) w := by
  match i, ho with
  | 0, ho =>
    rw [if_pos (want_none (fact ho (by kernel_rfl)))]
    have hop : o.op = .move (.tmp 0) := fact ho (by kernel_rfl)
    have hds : o.dst = some 50 := fact ho (by kernel_rfl)
    have t0 := tm_old hF 0 _ h0 (by kernel_rfl)
    have hS2 := hmv 0 (by decide) listed w hS
    unfold Oper.wp
    simp [execOp, hop, hds, t0, go_sem, V6b, hS2]
  | 1, ho =>
    rw [if_pos (want_none (fact ho (by kernel_rfl)))]
    have hop : o.op = .move (.tmp 5) := fact ho (by kernel_rfl)
    have hds : o.dst = some 51 := fact ho (by kernel_rfl)
    have t5 := tm_old hF 5 _ h5 (by kernel_rfl)
    have hS2 := hmv 1 (by decide) listed w hS
    unfold Oper.wp
    simp [execOp, hop, hds, t5, go_sem, V6b, hS2]
  | 2, ho =>
    rw [if_pos (want_none (fact ho (by kernel_rfl)))]
    have hop : o.op = .slice 23 (.tmp 51) none (some (.const (.int .i64 14))) none := fact ho (by kernel_rfl)
    have hds : o.dst = some 52 := fact ho (by kernel_rfl)
    have t51 := tm_dep hF 1 51 (by kernel_rfl) (dep_of ho hdep 1 (by kernel_rfl))
    simp only [V6b] at t51
    obtain ⟨W2, hr, hS2⟩ := hs2 listed w hS hls hun (fun j hj => dep_of ho hdep j hj)
    unfold Oper.wp
    simp [execOp, hop, hds, Act.eval, t51, hr, Oper.upon, Act.put, V6b, hS2]
  | 3, ho =>
    rw [if_pos (want_none (fact ho (by kernel_rfl)))]
    have hop : o.op = .move (.tmp 5) := fact ho (by kernel_rfl)
    have hds : o.dst = some 53 := fact ho (by kernel_rfl)
    have t5 := tm_old hF 5 _ h5 (by kernel_rfl)
    have hS2 := hmv 3 (by decide) listed w hS
    unfold Oper.wp
    simp [execOp, hop, hds, t5, go_sem, V6b, hS2]
  | 4, ho =>
    rw [if_pos (want_none (fact ho (by kernel_rfl)))]
    have hop : o.op = .slice 23 (.tmp 53) (some (.const (.int .i64 14))) none none := fact ho (by kernel_rfl)
    have hds : o.dst = some 54 := fact ho (by kernel_rfl)
    have t53 := tm_dep hF 3 53 (by kernel_rfl) (dep_of ho hdep 3 (by kernel_rfl))
    simp only [V6b] at t53
    obtain ⟨W2, hr, hS2⟩ := hs4 listed w hS hls hun (fun j hj => dep_of ho hdep j hj)
    unfold Oper.wp
    simp [execOp, hop, hds, Act.eval, t53, hr, Oper.upon, Act.put, V6b, hS2]
  | 5, ho =>
    rw [if_pos (want_none (fact ho (by kernel_rfl)))]
    have hop : o.op = .call { callee := .value (.func 82), args := #[.tmp 52, .tmp 54], argTypes := #[23, 23] } := fact ho (by kernel_rfl)
    have hds : o.dst = some 55 := fact ho (by kernel_rfl)
    have t52 := tm_dep hF 2 52 (by kernel_rfl) (dep_of ho hdep 2 (by kernel_rfl))
    simp only [V6b] at t52
    have t54 := tm_dep hF 4 54 (by kernel_rfl) (dep_of ho hdep 4 (by kernel_rfl))
    simp only [V6b] at t54
    unfold Oper.wp
    simp [execOp, hop, hds, t52, t54, go_sem, V6b]
    refine (hc5 listed w hS hls hun (fun j hj => dep_of ho hdep j hj)).mono ?_
    rintro e w' ⟨rfl, hS'⟩
    exact ⟨rfl, hS'⟩
  | 6, ho =>
    rw [if_pos (want_none (fact ho (by kernel_rfl)))]
    have hop : o.op = .unOp .not 4 (.tmp 55) := fact ho (by kernel_rfl)
    have hds : o.dst = some 56 := fact ho (by kernel_rfl)
    have t55 := tm_dep hF 5 55 (by kernel_rfl) (dep_of ho hdep 5 (by kernel_rfl))
    simp only [V6b] at t55
    have hS2 := hmv 6 (by decide) listed w hS
    unfold Oper.wp
    simp [execOp, hop, hds, t55, go_sem, V6b, hS2]
  | 7, ho =>
    rw [if_pos (want_none (fact ho (by kernel_rfl)))]
    have hop : o.op = .move (.tmp 56) := fact ho (by kernel_rfl)
    have hds : o.dst = some 57 := fact ho (by kernel_rfl)
    have t56 := tm_dep hF 6 56 (by kernel_rfl) (dep_of ho hdep 6 (by kernel_rfl))
    simp only [V6b] at t56
    have hS2 := hmv 7 (by decide) listed w hS
    unfold Oper.wp
    simp [execOp, hop, hds, t56, go_sem, V6b, hS2]
  | 8, ho =>
    have hy := yl_dep hF 7 57 false (by kernel_rfl) (dep_of ho hdep 7 (by kernel_rfl)) rfl
    have hgd : o.guard = some (7, false) := fact ho (by kernel_rfl)
    rw [if_pos (by rw [want_some hgd hy]; rfl)]
    have hop : o.op = .move (.tmp 1) := fact ho (by kernel_rfl)
    have hds : o.dst = some 58 := fact ho (by kernel_rfl)
    have t1 := tm_old hF 1 _ h1 (by kernel_rfl)
    have hS2 := hmv 8 (by decide) listed w hS
    unfold Oper.wp
    simp [execOp, hop, hds, t1, go_sem, V6b, hS2]
  | 9, ho =>
    have hy := yl_dep hF 7 57 false (by kernel_rfl) (dep_of ho hdep 7 (by kernel_rfl)) rfl
    have hgd : o.guard = some (7, false) := fact ho (by kernel_rfl)
    rw [if_pos (by rw [want_some hgd hy]; rfl)]
    have hop : o.op = .load 142 (.tmp 6) := fact ho (by kernel_rfl)
    have hds : o.dst = some 59 := fact ho (by kernel_rfl)
    have t6 := tm_old hF 6 _ h6 (by kernel_rfl)
    obtain ⟨W2, hr, hS2⟩ := hl9 listed w hS hls hun (fun j hj => dep_of ho hdep j hj)
    unfold Oper.wp
    simp [execOp, hop, hds, Act.eval, t6, hr, Oper.upon, Act.put, V6b, hS2]
  | 10, ho =>
    have hy := yl_dep hF 7 57 false (by kernel_rfl) (dep_of ho hdep 7 (by kernel_rfl)) rfl
    have hgd : o.guard = some (7, false) := fact ho (by kernel_rfl)
    rw [if_pos (by rw [want_some hgd hy]; rfl)]
    have hop : o.op = .makeFunc (.func 84) #[.tmp 59] #[] := fact ho (by kernel_rfl)
    have hds : o.dst = some 60 := fact ho (by kernel_rfl)
    have t59 := tm_dep hF 9 59 (by kernel_rfl) (dep_of ho hdep 9 (by kernel_rfl))
    simp only [V6b] at t59
    have hS2 := hmv 10 (by decide) listed w hS
    unfold Oper.wp
    simp [execOp, hop, hds, t59, Instr.makeFunc, go_sem, V6b, hS2]
  | 11, ho =>
    have hy := yl_dep hF 7 57 false (by kernel_rfl) (dep_of ho hdep 7 (by kernel_rfl)) rfl
    have hgd : o.guard = some (7, false) := fact ho (by kernel_rfl)
    rw [if_pos (by rw [want_some hgd hy]; rfl)]
    have hop : o.op = .call { callee := .value (.func 83), args := #[.tmp 58, .tmp 60], argTypes := #[149, 152] } := fact ho (by kernel_rfl)
    have hds : o.dst = some 61 := fact ho (by kernel_rfl)
    have t58 := tm_dep hF 8 58 (by kernel_rfl) (dep_of ho hdep 8 (by kernel_rfl))
    simp only [V6b] at t58
    have t60 := tm_dep hF 10 60 (by kernel_rfl) (dep_of ho hdep 10 (by kernel_rfl))
    simp only [V6b] at t60
    unfold Oper.wp
    simp [execOp, hop, hds, t58, t60, go_sem, V6b]
    refine (hc11 listed w hS hls hun (fun j hj => dep_of ho hdep j hj)).mono ?_
    rintro e w' ⟨rfl, hS'⟩
    exact ⟨rfl, hS'⟩
  | 12, ho =>
    have hy := yl_dep hF 7 57 false (by kernel_rfl) (dep_of ho hdep 7 (by kernel_rfl)) rfl
    have hgd : o.guard = some (7, false) := fact ho (by kernel_rfl)
    rw [if_pos (by rw [want_some hgd hy]; rfl)]
    have hop : o.op = .unOp .not 4 (.tmp 61) := fact ho (by kernel_rfl)
    have hds : o.dst = some 62 := fact ho (by kernel_rfl)
    have t61 := tm_dep hF 11 61 (by kernel_rfl) (dep_of ho hdep 11 (by kernel_rfl))
    simp only [V6b] at t61
    have hS2 := hmv 12 (by decide) listed w hS
    unfold Oper.wp
    simp [execOp, hop, hds, t61, go_sem, V6b, hS2]
  | 13, ho =>
    rw [if_pos (want_none (fact ho (by kernel_rfl)))]
    have hop : o.op = .pick (.tmp 57) (.const (.bool true)) (.tmp 62) := fact ho (by kernel_rfl)
    have hds : o.dst = some 63 := fact ho (by kernel_rfl)
    have t57 := tm_dep hF 7 57 (by kernel_rfl) (dep_of ho hdep 7 (by kernel_rfl))
    simp only [V6b] at t57
    have t62 := tm_dep hF 12 62 (by kernel_rfl) (dep_of ho hdep 12 (by kernel_rfl))
    simp only [V6b] at t62
    have hS2 := hmv 13 (by decide) listed w hS
    unfold Oper.wp
    simp [execOp, hop, hds, t57, t62, go_sem, V6b, hS2]
  | 14, ho =>
    rw [if_pos (want_none (fact ho (by kernel_rfl)))]
    have hop : o.op = .call { callee := .value (.func 79), args := #[.tmp 50, .tmp 63], argTypes := #[128, 4] } := fact ho (by kernel_rfl)
    have hds : o.dst = some 64 := fact ho (by kernel_rfl)
    have t50 := tm_dep hF 0 50 (by kernel_rfl) (dep_of ho hdep 0 (by kernel_rfl))
    simp only [V6b] at t50
    have t63 := tm_dep hF 13 63 (by kernel_rfl) (dep_of ho hdep 13 (by kernel_rfl))
    simp only [V6b] at t63
    unfold Oper.wp
    simp [execOp, hop, hds, t50, t63, go_sem, V6b]
    refine (hc14 listed w hS).mono ?_
    rintro e w' ⟨rfl, hq⟩
    exact hq _ hF.df
  | n + 15, ho =>
    exfalso
    have h1 : n + 15 < reg6.size := (Array.getElem?_eq_some_iff.1 ho).1
    rw [show reg6.size = 15 from by kernel_rfl] at h1
    omega
def V6c (g _bx R cR cF mQ cQ : Nat) (oR oF oQ : Option Addr) (rv : Value) (rc : Array Value) : Nat → Value
  | 0 => .pointer (some ⟨g, 0, none⟩)
  | 1 => .slice oR R cR
  | 2 => .slice oF 14 cF
  | 3 => .slice oR R cR
  | 4 => .slice oQ mQ cQ
  | 5 => .bool true
  | 6 => .bool false
  | 7 => .bool false
  | 8 => rv
  | 9 => .agg rc
  | 10 => .func (.func 84) #[.agg rc] #[]
  | 11 => .bool true
  | 12 => .bool false
  | 13 => .bool false
  | 14 => .tuple #[]
  | _ => undef
set_option maxRecDepth 100000 in
set_option maxHeartbeats 1000000 in
theorem step6c (a0 : Act) (g bx R cR cF mQ cQ : Nat) (oR oF oQ : Option Addr) (rv : Value) (rc : Array Value) (S : Array Bool → World → Prop) (Q : Exit → Act → World → Prop) (h0 : a0.tmps[0]? = some (.pointer (some ⟨g, 0, none⟩))) (h1 : a0.tmps[1]? = some (rv)) (h5 : a0.tmps[5]? = some (.slice oR R cR)) (h6 : a0.tmps[6]? = some (.pointer (some ⟨bx, 0, none⟩)))
    (hmv : ∀ i : Nat, decide (i < 14) = true → ∀ listed W, S listed W → S (listed.setIfInBounds i true) W) (hc5 : ∀ listed W, S listed W → listed.size = reg6.size → listed.getD 5 true = false → (∀ j, ((reg6[5]?).map fun o => o.after.any fun e => Region.binds .any e && e.on == j) = some true → listed.getD j false = true) → Calls Tryd.prog 82 #[.slice oF 14 cF, .slice oQ mQ cQ] W fun e w' => e = .returned (.bool true) ∧ S (listed.setIfInBounds 5 true) w') (hc11 : ∀ listed W, S listed W → listed.size = reg6.size → listed.getD 11 true = false → (∀ j, ((reg6[11]?).map fun o => o.after.any fun e => Region.binds .any e && e.on == j) = some true → listed.getD j false = true) → Calls Tryd.prog 83 #[rv, .func (.func 84) #[.agg rc] #[]] W fun e w' => e = .returned (.bool true) ∧ S (listed.setIfInBounds 11 true) w') (hl9 : ∀ listed W, S listed W → listed.size = reg6.size → listed.getD 9 true = false → (∀ j, ((reg6[9]?).map fun o => o.after.any fun e => Region.binds .any e && e.on == j) = some true → listed.getD j false = true) → ∃ W2, (Instr.loadAt 142 (.pointer (some ⟨bx, 0, none⟩))).run Tryd.prog W = .ok (.agg rc) W2 ∧ S (listed.setIfInBounds 9 true) W2) (hc14 : ∀ listed W, S listed W → listed.size = reg6.size → listed.getD 14 true = false → (∀ j, ((reg6[14]?).map fun o => o.after.any fun e => Region.binds .any e && e.on == j) = some true → listed.getD j false = true) → Calls Tryd.prog 79 #[.pointer (some ⟨g, 0, none⟩), .bool false] W fun e w' => e = .returned (.tuple #[]) ∧ S (listed.setIfInBounds 14 true) w') (hs2 : ∀ listed W, S listed W → listed.size = reg6.size → listed.getD 2 true = false → (∀ j, ((reg6[2]?).map fun o => o.after.any fun e => Region.binds .any e && e.on == j) = some true → listed.getD j false = true) → ∃ W2, (Instr.sliceAt 23 (.slice oR R cR) none (some (.int .i64 14)) none).run Tryd.prog W = .ok (.slice oF 14 cF) W2 ∧ S (listed.setIfInBounds 2 true) W2) (hs4 : ∀ listed W, S listed W → listed.size = reg6.size → listed.getD 4 true = false → (∀ j, ((reg6[4]?).map fun o => o.after.any fun e => Region.binds .any e && e.on == j) = some true → listed.getD j false = true) → ∃ W2, (Instr.sliceAt 23 (.slice oR R cR) (some (.int .i64 14)) none none).run Tryd.prog W = .ok (.slice oQ mQ cQ) W2 ∧ S (listed.setIfInBounds 4 true) W2)
    (i : Nat) (o : Oper) (a : Act) (w : World) (listed : Array Bool) (ho : reg6[i]? = some o) (hF : RFr reg6 a0 (V6c g bx R cR cF mQ cQ oR oF oQ rv rc) listed a) (hS : S listed w) (hls : listed.size = reg6.size) (hun : listed.getD i true = false) (hdep : ∀ e ∈ o.after, Region.binds .any e = true → listed.getD e.on false = true) :
      if Region.wanted o (yielded reg6 a.tmps) = true then Oper.wp Tryd.prog o a w (fun a' w' => a' = a.put o.dst (V6c g bx R cR cF mQ cQ oR oF oQ rv rc i) ∧ S (listed.setIfInBounds i true) w') Q else V6c g bx R cR cF mQ cQ oR oF oQ rv rc i = undef ∧ S (listed.setIfInBounds i true) w := by
  match i, ho with
  | 0, ho =>
    rw [if_pos (want_none (fact ho (by kernel_rfl)))]
    have hop : o.op = .move (.tmp 0) := fact ho (by kernel_rfl)
    have hds : o.dst = some 50 := fact ho (by kernel_rfl)
    have t0 := tm_old hF 0 _ h0 (by kernel_rfl)
    have hS2 := hmv 0 (by decide) listed w hS
    unfold Oper.wp
    simp [execOp, hop, hds, t0, go_sem, V6c, hS2]
  | 1, ho =>
    rw [if_pos (want_none (fact ho (by kernel_rfl)))]
    have hop : o.op = .move (.tmp 5) := fact ho (by kernel_rfl)
    have hds : o.dst = some 51 := fact ho (by kernel_rfl)
    have t5 := tm_old hF 5 _ h5 (by kernel_rfl)
    have hS2 := hmv 1 (by decide) listed w hS
    unfold Oper.wp
    simp [execOp, hop, hds, t5, go_sem, V6c, hS2]
  | 2, ho =>
    rw [if_pos (want_none (fact ho (by kernel_rfl)))]
    have hop : o.op = .slice 23 (.tmp 51) none (some (.const (.int .i64 14))) none := fact ho (by kernel_rfl)
    have hds : o.dst = some 52 := fact ho (by kernel_rfl)
    have t51 := tm_dep hF 1 51 (by kernel_rfl) (dep_of ho hdep 1 (by kernel_rfl))
    simp only [V6c] at t51
    obtain ⟨W2, hr, hS2⟩ := hs2 listed w hS hls hun (fun j hj => dep_of ho hdep j hj)
    unfold Oper.wp
    simp [execOp, hop, hds, Act.eval, t51, hr, Oper.upon, Act.put, V6c, hS2]
  | 3, ho =>
    rw [if_pos (want_none (fact ho (by kernel_rfl)))]
    have hop : o.op = .move (.tmp 5) := fact ho (by kernel_rfl)
    have hds : o.dst = some 53 := fact ho (by kernel_rfl)
    have t5 := tm_old hF 5 _ h5 (by kernel_rfl)
    have hS2 := hmv 3 (by decide) listed w hS
    unfold Oper.wp
    simp [execOp, hop, hds, t5, go_sem, V6c, hS2]
  | 4, ho =>
    rw [if_pos (want_none (fact ho (by kernel_rfl)))]
    have hop : o.op = .slice 23 (.tmp 53) (some (.const (.int .i64 14))) none none := fact ho (by kernel_rfl)
    have hds : o.dst = some 54 := fact ho (by kernel_rfl)
    have t53 := tm_dep hF 3 53 (by kernel_rfl) (dep_of ho hdep 3 (by kernel_rfl))
    simp only [V6c] at t53
    obtain ⟨W2, hr, hS2⟩ := hs4 listed w hS hls hun (fun j hj => dep_of ho hdep j hj)
    unfold Oper.wp
    simp [execOp, hop, hds, Act.eval, t53, hr, Oper.upon, Act.put, V6c, hS2]
  | 5, ho =>
    rw [if_pos (want_none (fact ho (by kernel_rfl)))]
    have hop : o.op = .call { callee := .value (.func 82), args := #[.tmp 52, .tmp 54], argTypes := #[23, 23] } := fact ho (by kernel_rfl)
    have hds : o.dst = some 55 := fact ho (by kernel_rfl)
    have t52 := tm_dep hF 2 52 (by kernel_rfl) (dep_of ho hdep 2 (by kernel_rfl))
    simp only [V6c] at t52
    have t54 := tm_dep hF 4 54 (by kernel_rfl) (dep_of ho hdep 4 (by kernel_rfl))
    simp only [V6c] at t54
    unfold Oper.wp
    simp [execOp, hop, hds, t52, t54, go_sem, V6c]
    refine (hc5 listed w hS hls hun (fun j hj => dep_of ho hdep j hj)).mono ?_
    rintro e w' ⟨rfl, hS'⟩
    exact ⟨rfl, hS'⟩
  | 6, ho =>
    rw [if_pos (want_none (fact ho (by kernel_rfl)))]
    have hop : o.op = .unOp .not 4 (.tmp 55) := fact ho (by kernel_rfl)
    have hds : o.dst = some 56 := fact ho (by kernel_rfl)
    have t55 := tm_dep hF 5 55 (by kernel_rfl) (dep_of ho hdep 5 (by kernel_rfl))
    simp only [V6c] at t55
    have hS2 := hmv 6 (by decide) listed w hS
    unfold Oper.wp
    simp [execOp, hop, hds, t55, go_sem, V6c, hS2]
  | 7, ho =>
    rw [if_pos (want_none (fact ho (by kernel_rfl)))]
    have hop : o.op = .move (.tmp 56) := fact ho (by kernel_rfl)
    have hds : o.dst = some 57 := fact ho (by kernel_rfl)
    have t56 := tm_dep hF 6 56 (by kernel_rfl) (dep_of ho hdep 6 (by kernel_rfl))
    simp only [V6c] at t56
    have hS2 := hmv 7 (by decide) listed w hS
    unfold Oper.wp
    simp [execOp, hop, hds, t56, go_sem, V6c, hS2]
  | 8, ho =>
    have hy := yl_dep hF 7 57 false (by kernel_rfl) (dep_of ho hdep 7 (by kernel_rfl)) rfl
    have hgd : o.guard = some (7, false) := fact ho (by kernel_rfl)
    rw [if_pos (by rw [want_some hgd hy]; rfl)]
    have hop : o.op = .move (.tmp 1) := fact ho (by kernel_rfl)
    have hds : o.dst = some 58 := fact ho (by kernel_rfl)
    have t1 := tm_old hF 1 _ h1 (by kernel_rfl)
    have hS2 := hmv 8 (by decide) listed w hS
    unfold Oper.wp
    simp [execOp, hop, hds, t1, go_sem, V6c, hS2]
  | 9, ho =>
    have hy := yl_dep hF 7 57 false (by kernel_rfl) (dep_of ho hdep 7 (by kernel_rfl)) rfl
    have hgd : o.guard = some (7, false) := fact ho (by kernel_rfl)
    rw [if_pos (by rw [want_some hgd hy]; rfl)]
    have hop : o.op = .load 142 (.tmp 6) := fact ho (by kernel_rfl)
    have hds : o.dst = some 59 := fact ho (by kernel_rfl)
    have t6 := tm_old hF 6 _ h6 (by kernel_rfl)
    obtain ⟨W2, hr, hS2⟩ := hl9 listed w hS hls hun (fun j hj => dep_of ho hdep j hj)
    unfold Oper.wp
    simp [execOp, hop, hds, Act.eval, t6, hr, Oper.upon, Act.put, V6c, hS2]
  | 10, ho =>
    have hy := yl_dep hF 7 57 false (by kernel_rfl) (dep_of ho hdep 7 (by kernel_rfl)) rfl
    have hgd : o.guard = some (7, false) := fact ho (by kernel_rfl)
    rw [if_pos (by rw [want_some hgd hy]; rfl)]
    have hop : o.op = .makeFunc (.func 84) #[.tmp 59] #[] := fact ho (by kernel_rfl)
    have hds : o.dst = some 60 := fact ho (by kernel_rfl)
    have t59 := tm_dep hF 9 59 (by kernel_rfl) (dep_of ho hdep 9 (by kernel_rfl))
    simp only [V6c] at t59
    have hS2 := hmv 10 (by decide) listed w hS
    unfold Oper.wp
    simp [execOp, hop, hds, t59, Instr.makeFunc, go_sem, V6c, hS2]
  | 11, ho =>
    have hy := yl_dep hF 7 57 false (by kernel_rfl) (dep_of ho hdep 7 (by kernel_rfl)) rfl
    have hgd : o.guard = some (7, false) := fact ho (by kernel_rfl)
    rw [if_pos (by rw [want_some hgd hy]; rfl)]
    have hop : o.op = .call { callee := .value (.func 83), args := #[.tmp 58, .tmp 60], argTypes := #[149, 152] } := fact ho (by kernel_rfl)
    have hds : o.dst = some 61 := fact ho (by kernel_rfl)
    have t58 := tm_dep hF 8 58 (by kernel_rfl) (dep_of ho hdep 8 (by kernel_rfl))
    simp only [V6c] at t58
    have t60 := tm_dep hF 10 60 (by kernel_rfl) (dep_of ho hdep 10 (by kernel_rfl))
    simp only [V6c] at t60
    unfold Oper.wp
    simp [execOp, hop, hds, t58, t60, go_sem, V6c]
    refine (hc11 listed w hS hls hun (fun j hj => dep_of ho hdep j hj)).mono ?_
    rintro e w' ⟨rfl, hS'⟩
    exact ⟨rfl, hS'⟩
  | 12, ho =>
    have hy := yl_dep hF 7 57 false (by kernel_rfl) (dep_of ho hdep 7 (by kernel_rfl)) rfl
    have hgd : o.guard = some (7, false) := fact ho (by kernel_rfl)
    rw [if_pos (by rw [want_some hgd hy]; rfl)]
    have hop : o.op = .unOp .not 4 (.tmp 61) := fact ho (by kernel_rfl)
    have hds : o.dst = some 62 := fact ho (by kernel_rfl)
    have t61 := tm_dep hF 11 61 (by kernel_rfl) (dep_of ho hdep 11 (by kernel_rfl))
    simp only [V6c] at t61
    have hS2 := hmv 12 (by decide) listed w hS
    unfold Oper.wp
    simp [execOp, hop, hds, t61, go_sem, V6c, hS2]
  | 13, ho =>
    rw [if_pos (want_none (fact ho (by kernel_rfl)))]
    have hop : o.op = .pick (.tmp 57) (.const (.bool true)) (.tmp 62) := fact ho (by kernel_rfl)
    have hds : o.dst = some 63 := fact ho (by kernel_rfl)
    have t57 := tm_dep hF 7 57 (by kernel_rfl) (dep_of ho hdep 7 (by kernel_rfl))
    simp only [V6c] at t57
    have t62 := tm_dep hF 12 62 (by kernel_rfl) (dep_of ho hdep 12 (by kernel_rfl))
    simp only [V6c] at t62
    have hS2 := hmv 13 (by decide) listed w hS
    unfold Oper.wp
    simp [execOp, hop, hds, t57, t62, go_sem, V6c, hS2]
  | 14, ho =>
    rw [if_pos (want_none (fact ho (by kernel_rfl)))]
    have hop : o.op = .call { callee := .value (.func 79), args := #[.tmp 50, .tmp 63], argTypes := #[128, 4] } := fact ho (by kernel_rfl)
    have hds : o.dst = some 64 := fact ho (by kernel_rfl)
    have t50 := tm_dep hF 0 50 (by kernel_rfl) (dep_of ho hdep 0 (by kernel_rfl))
    simp only [V6c] at t50
    have t63 := tm_dep hF 13 63 (by kernel_rfl) (dep_of ho hdep 13 (by kernel_rfl))
    simp only [V6c] at t63
    unfold Oper.wp
    simp [execOp, hop, hds, t50, t63, go_sem, V6c]
    refine (hc14 listed w hS hls hun (fun j hj => dep_of ho hdep j hj)).mono ?_
    rintro e w' ⟨rfl, hS'⟩
    exact ⟨rfl, hS'⟩
  | n + 15, ho =>
    exfalso
    have h1 : n + 15 < reg6.size := (Array.getElem?_eq_some_iff.1 ho).1
    rw [show reg6.size = 15 from by kernel_rfl] at h1
    omega
set_option maxRecDepth 100000 in
theorem put6 (X : Nat → Value) (v0 v1 v2 v3 v4 v5 v6 v7 v8 v9 v10 v11 v12 v13 v14 v15 v16 v17 v18 v19 v20 v21 v22 v23 v24 v25 v26 v27 v28 v29 v30 v31 v32 v33 v34 v35 v36 v37 v38 v39 v40 v41 v42 v43 v44 v45 v46 v47 v48 v49 v50 v51 v52 v53 v54 v55 v56 v57 v58 v59 v60 v61 v62 v63 v64 v65 v66 v67 v68 v69 v70 v71 v72 v73 v74 v75 v76 v77 v78 v79 v80 v81 v82 v83 v84 v85 v86 v87 v88 v89 v90 v91 v92 v93 v94 v95 v96 v97 v98 v99 v100 : Value) : putN reg6 X ⟨#[v0, v1, v2, v3, v4, v5, v6, v7, v8, v9, v10, v11, v12, v13, v14, v15, v16, v17, v18, v19, v20, v21, v22, v23, v24, v25, v26, v27, v28, v29, v30, v31, v32, v33, v34, v35, v36, v37, v38, v39, v40, v41, v42, v43, v44, v45, v46, v47, v48, v49, v50, v51, v52, v53, v54, v55, v56, v57, v58, v59, v60, v61, v62, v63, v64, v65, v66, v67, v68, v69, v70, v71, v72, v73, v74, v75, v76, v77, v78, v79, v80, v81, v82, v83, v84, v85, v86, v87, v88, v89, v90, v91, v92, v93, v94, v95, v96, v97, v98, v99, v100], []⟩ reg6.size = ⟨#[v0, v1, v2, v3, v4, v5, v6, v7, v8, v9, v10, v11, v12, v13, v14, v15, v16, v17, v18, v19, v20, v21, v22, v23, v24, v25, v26, v27, v28, v29, v30, v31, v32, v33, v34, v35, v36, v37, v38, v39, v40, v41, v42, v43, v44, v45, v46, v47, v48, v49, X 0, X 1, X 2, X 3, X 4, X 5, X 6, X 7, X 8, X 9, X 10, X 11, X 12, X 13, X 14, v65, v66, v67, v68, v69, v70, v71, v72, v73, v74, v75, v76, v77, v78, v79, v80, v81, v82, v83, v84, v85, v86, v87, v88, v89, v90, v91, v92, v93, v94, v95, v96, v97, v98, v99, v100], []⟩ := by kernel_rfl
end Go.Proofs.YtfimaflglnemdaaDoor
