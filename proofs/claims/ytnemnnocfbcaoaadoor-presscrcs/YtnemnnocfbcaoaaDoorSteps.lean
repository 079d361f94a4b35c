/- The drawn regions of PressCrcs: each operation by its value. Made by a program from a table of operations. -/
import Derived.Test.YtnemnnocfbcaoaaDoorCrc
import Derived.Test.YtnemnnocfbcaoaaDoorVals
namespace Go.Proofs.YtnemnnocfbcaoaaDoor
open Go.RowKit
noncomputable def reg11 : Array Oper := ((Tryd.f3.body.bind (findR 11)).getD #[])
theorem okR11 : okR reg11 140 = true := by kernel_rfl
theorem reg11_size : reg11.size = 23 := by kernel_rfl
def V11 (O n : Nat) (va vb vc CA CB CC : Value) (kd ka kb kc kab Hs : Nat) : Nat → Value
  | 0 => .slice (some ⟨O, 0, none⟩) n n
  | 1 => .int .u32 (kd : Int)
  | 2 => va
  | 3 => .int .i64 (n : Int)
  | 4 => CA
  | 5 => .int .u32 (ka : Int)
  | 6 => vb
  | 7 => .int .i64 (n : Int)
  | 8 => CB
  | 9 => .int .u32 (kb : Int)
  | 10 => .int .u32 (kab : Int)
  | 11 => vc
  | 12 => .int .i64 (n : Int)
  | 13 => CC
  | 14 => .int .u32 (kc : Int)
  | 15 => .int .u32 (kd : Int)
  | 16 => .bool false
  | 17 => .bool false
  | 18 => .slice (some ⟨Hs, 0, none⟩) 9 9
  | 19 => .slice (some ⟨Hs, 0, none⟩) 9 9
  | 20 => .int .u32 3421780262
  | 21 => .bool false
  | 22 => .bool false
  | _ => undef
set_option maxHeartbeats 1000000 in
theorem step11 (a0 : Act) (O n : Nat) (va vb vc CA CB CC : Value) (kd ka kb kc kab Hs : Nat) (S : Bool → World → Prop) (Q : Exit → Act → World → Prop) (h12 : a0.tmps[12]? = some (.slice (some ⟨O, 0, none⟩) n n)) (h0 : a0.tmps[0]? = some (va)) (h1 : a0.tmps[1]? = some (vb)) (h2 : a0.tmps[2]? = some (vc)) (h11 : a0.tmps[11]? = some (.int .i64 (n : Int)))
    (hA : ∀ W : World, (Instr.sliceAt 22 va none (some (.int .i64 (n : Int))) none).run Tryd.prog W = .ok CA W) (hB : ∀ W : World, (Instr.sliceAt 22 vb none (some (.int .i64 (n : Int))) none).run Tryd.prog W = .ok CB W) (hC : ∀ W : World, (Instr.sliceAt 22 vc none (some (.int .i64 (n : Int))) none).run Tryd.prog W = .ok CC W) (cA : ∀ b w, S b w → Calls Tryd.prog 4 #[CA] w fun e w' => e = .returned (.int .u32 (ka : Int)) ∧ S b w') (cB : ∀ b w, S b w → Calls Tryd.prog 4 #[CB] w fun e w' => e = .returned (.int .u32 (kb : Int)) ∧ S b w') (cC : ∀ b w, S b w → Calls Tryd.prog 4 #[CC] w fun e w' => e = .returned (.int .u32 (kc : Int)) ∧ S b w') (hx1 : bits BinOp.xor IntKind.u32 (ka : Int) (kb : Int) = (kab : Int)) (hx2 : bits BinOp.xor IntKind.u32 (kab : Int) (kc : Int) = (kd : Int)) (cD : ∀ b w, S b w → Calls Tryd.prog 4 #[.slice (some ⟨O, 0, none⟩) n n] w fun e w' => e = .returned (.int .u32 (kd : Int)) ∧ S b w') (cK : ∀ w, S true w → Calls Tryd.prog 4 #[.slice (some ⟨Hs, 0, none⟩) 9 9] w fun e w' => e = .returned (.int .u32 3421780262) ∧ S true w') (hcv : ∀ w, S true w → ∃ w', (convert 22 22 (.slice (some ⟨Hs, 0, none⟩) 9 9)).run Tryd.prog w = .ok (.slice (some ⟨Hs, 0, none⟩) 9 9) w' ∧ S true w') (hsz : ∀ w, S false w → w.heap.size = Hs ∧ S true (w.alloc (.cells #[.int .u8 49, .int .u8 50, .int .u8 51, .int .u8 52, .int .u8 53, .int .u8 54, .int .u8 55, .int .u8 56, .int .u8 57] 5)))
    (i : Nat) (o : Oper) (a : Act) (w : World) (listed : Array Bool) (b : Bool) (ho : reg11[i]? = some o) (hF : RFr reg11 a0 (V11 O n va vb vc CA CB CC kd ka kb kc kab Hs) listed a) (hS : S b w) (hb : i = 18 → b = false) (hbm : listed.getD 18 true = true → b = true) (hbc : listed.getD 19 true = true → b = true) (hdep : ∀ e ∈ o.after, Region.binds .any e = true → listed.getD e.on false = true) :
      if Region.wanted o (yielded reg11 a.tmps) = true then Oper.wp Tryd.prog o a w (fun a' w' => a' = a.put o.dst (V11 O n va vb vc CA CB CC kd ka kb kc kab Hs i) ∧ S (b || decide (i = 18)) w') Q else V11 O n va vb vc CA CB CC kd ka kb kc kab Hs i = undef ∧ i ≠ 18 := by
  match i, ho with
  | 0, ho =>
    rw [if_pos (want_none (fact ho (by kernel_rfl)))]
    have hop : o.op = .move (.tmp 12) := fact ho (by kernel_rfl)
    have hds : o.dst = some 54 := fact ho (by kernel_rfl)
    have t12 := tm_old hF 12 _ h12 (by kernel_rfl)
    unfold Oper.wp
    simp [execOp, hop, hds, t12, go_sem, V11, hS]
  | 1, ho =>
    rw [if_pos (want_none (fact ho (by kernel_rfl)))]
    have hop : o.op = .call { callee := .value (.func 4), args := #[.tmp 54], argTypes := #[22] } := fact ho (by kernel_rfl)
    have hds : o.dst = some 55 := fact ho (by kernel_rfl)
    have t54 := tm_dep hF 0 54 (by kernel_rfl) (dep_of ho hdep 0 (by kernel_rfl))
    simp only [V11] at t54
    unfold Oper.wp
    simp [execOp, hop, hds, t54, go_sem, V11]
    refine (cD b w hS).mono ?_
    rintro e w' ⟨rfl, hS'⟩
    exact ⟨rfl, hS'⟩
  | 2, ho =>
    rw [if_pos (want_none (fact ho (by kernel_rfl)))]
    have hop : o.op = .move (.tmp 0) := fact ho (by kernel_rfl)
    have hds : o.dst = some 56 := fact ho (by kernel_rfl)
    have t0 := tm_old hF 0 _ h0 (by kernel_rfl)
    unfold Oper.wp
    simp [execOp, hop, hds, t0, go_sem, V11, hS]
  | 3, ho =>
    rw [if_pos (want_none (fact ho (by kernel_rfl)))]
    have hop : o.op = .move (.tmp 11) := fact ho (by kernel_rfl)
    have hds : o.dst = some 57 := fact ho (by kernel_rfl)
    have t11 := tm_old hF 11 _ h11 (by kernel_rfl)
    unfold Oper.wp
    simp [execOp, hop, hds, t11, go_sem, V11, hS]
  | 4, ho =>
    rw [if_pos (want_none (fact ho (by kernel_rfl)))]
    have hop : o.op = .slice 22 (.tmp 56) none (some (.tmp 57)) none := fact ho (by kernel_rfl)
    have hds : o.dst = some 58 := fact ho (by kernel_rfl)
    have t56 := tm_dep hF 2 56 (by kernel_rfl) (dep_of ho hdep 2 (by kernel_rfl))
    simp only [V11] at t56
    have t57 := tm_dep hF 3 57 (by kernel_rfl) (dep_of ho hdep 3 (by kernel_rfl))
    simp only [V11] at t57
    unfold Oper.wp
    simp [execOp, hop, hds, Act.eval, t56, t57, hA, Oper.upon, Act.put, V11, hS]
  | 5, ho =>
    rw [if_pos (want_none (fact ho (by kernel_rfl)))]
    have hop : o.op = .call { callee := .value (.func 4), args := #[.tmp 58], argTypes := #[22] } := fact ho (by kernel_rfl)
    have hds : o.dst = some 59 := fact ho (by kernel_rfl)
    have t58 := tm_dep hF 4 58 (by kernel_rfl) (dep_of ho hdep 4 (by kernel_rfl))
    simp only [V11] at t58
    unfold Oper.wp
    simp [execOp, hop, hds, t58, go_sem, V11]
    refine (cA b w hS).mono ?_
    rintro e w' ⟨rfl, hS'⟩
    exact ⟨rfl, hS'⟩
  | 6, ho =>
    rw [if_pos (want_none (fact ho (by kernel_rfl)))]
    have hop : o.op = .move (.tmp 1) := fact ho (by kernel_rfl)
    have hds : o.dst = some 60 := fact ho (by kernel_rfl)
    have t1 := tm_old hF 1 _ h1 (by kernel_rfl)
    unfold Oper.wp
    simp [execOp, hop, hds, t1, go_sem, V11, hS]
  | 7, ho =>
    rw [if_pos (want_none (fact ho (by kernel_rfl)))]
    have hop : o.op = .move (.tmp 11) := fact ho (by kernel_rfl)
    have hds : o.dst = some 61 := fact ho (by kernel_rfl)
    have t11 := tm_old hF 11 _ h11 (by kernel_rfl)
    unfold Oper.wp
    simp [execOp, hop, hds, t11, go_sem, V11, hS]
  | 8, ho =>
    rw [if_pos (want_none (fact ho (by kernel_rfl)))]
    have hop : o.op = .slice 22 (.tmp 60) none (some (.tmp 61)) none := fact ho (by kernel_rfl)
    have hds : o.dst = some 62 := fact ho (by kernel_rfl)
    have t60 := tm_dep hF 6 60 (by kernel_rfl) (dep_of ho hdep 6 (by kernel_rfl))
    simp only [V11] at t60
    have t61 := tm_dep hF 7 61 (by kernel_rfl) (dep_of ho hdep 7 (by kernel_rfl))
    simp only [V11] at t61
    unfold Oper.wp
    simp [execOp, hop, hds, Act.eval, t60, t61, hB, Oper.upon, Act.put, V11, hS]
  | 9, ho =>
    rw [if_pos (want_none (fact ho (by kernel_rfl)))]
    have hop : o.op = .call { callee := .value (.func 4), args := #[.tmp 62], argTypes := #[22] } := fact ho (by kernel_rfl)
    have hds : o.dst = some 63 := fact ho (by kernel_rfl)
    have t62 := tm_dep hF 8 62 (by kernel_rfl) (dep_of ho hdep 8 (by kernel_rfl))
    simp only [V11] at t62
    unfold Oper.wp
    simp [execOp, hop, hds, t62, go_sem, V11]
    refine (cB b w hS).mono ?_
    rintro e w' ⟨rfl, hS'⟩
    exact ⟨rfl, hS'⟩
  | 10, ho =>
    rw [if_pos (want_none (fact ho (by kernel_rfl)))]
    have hop : o.op = .binOp .xor 23 (.tmp 59) (.tmp 63) 23 := fact ho (by kernel_rfl)
    have hds : o.dst = some 64 := fact ho (by kernel_rfl)
    have t59 := tm_dep hF 5 59 (by kernel_rfl) (dep_of ho hdep 5 (by kernel_rfl))
    simp only [V11] at t59
    have t63 := tm_dep hF 9 63 (by kernel_rfl) (dep_of ho hdep 9 (by kernel_rfl))
    simp only [V11] at t63
    unfold Oper.wp
    simp [execOp, hop, hds, t59, t63, go_sem, V11, hS, hx1]
  | 11, ho =>
    rw [if_pos (want_none (fact ho (by kernel_rfl)))]
    have hop : o.op = .move (.tmp 2) := fact ho (by kernel_rfl)
    have hds : o.dst = some 65 := fact ho (by kernel_rfl)
    have t2 := tm_old hF 2 _ h2 (by kernel_rfl)
    unfold Oper.wp
    simp [execOp, hop, hds, t2, go_sem, V11, hS]
  | 12, ho =>
    rw [if_pos (want_none (fact ho (by kernel_rfl)))]
    have hop : o.op = .move (.tmp 11) := fact ho (by kernel_rfl)
    have hds : o.dst = some 66 := fact ho (by kernel_rfl)
    have t11 := tm_old hF 11 _ h11 (by kernel_rfl)
    unfold Oper.wp
    simp [execOp, hop, hds, t11, go_sem, V11, hS]
  | 13, ho =>
    rw [if_pos (want_none (fact ho (by kernel_rfl)))]
    have hop : o.op = .slice 22 (.tmp 65) none (some (.tmp 66)) none := fact ho (by kernel_rfl)
    have hds : o.dst = some 67 := fact ho (by kernel_rfl)
    have t65 := tm_dep hF 11 65 (by kernel_rfl) (dep_of ho hdep 11 (by kernel_rfl))
    simp only [V11] at t65
    have t66 := tm_dep hF 12 66 (by kernel_rfl) (dep_of ho hdep 12 (by kernel_rfl))
    simp only [V11] at t66
    unfold Oper.wp
    simp [execOp, hop, hds, Act.eval, t65, t66, hC, Oper.upon, Act.put, V11, hS]
  | 14, ho =>
    rw [if_pos (want_none (fact ho (by kernel_rfl)))]
    have hop : o.op = .call { callee := .value (.func 4), args := #[.tmp 67], argTypes := #[22] } := fact ho (by kernel_rfl)
    have hds : o.dst = some 68 := fact ho (by kernel_rfl)
    have t67 := tm_dep hF 13 67 (by kernel_rfl) (dep_of ho hdep 13 (by kernel_rfl))
    simp only [V11] at t67
    unfold Oper.wp
    simp [execOp, hop, hds, t67, go_sem, V11]
    refine (cC b w hS).mono ?_
    rintro e w' ⟨rfl, hS'⟩
    exact ⟨rfl, hS'⟩
  | 15, ho =>
    rw [if_pos (want_none (fact ho (by kernel_rfl)))]
    have hop : o.op = .binOp .xor 23 (.tmp 64) (.tmp 68) 23 := fact ho (by kernel_rfl)
    have hds : o.dst = some 69 := fact ho (by kernel_rfl)
    have t64 := tm_dep hF 10 64 (by kernel_rfl) (dep_of ho hdep 10 (by kernel_rfl))
    simp only [V11] at t64
    have t68 := tm_dep hF 14 68 (by kernel_rfl) (dep_of ho hdep 14 (by kernel_rfl))
    simp only [V11] at t68
    unfold Oper.wp
    simp [execOp, hop, hds, t64, t68, go_sem, V11, hS, hx2]
  | 16, ho =>
    rw [if_pos (want_none (fact ho (by kernel_rfl)))]
    have hop : o.op = .binOp .neq 23 (.tmp 55) (.tmp 69) 23 := fact ho (by kernel_rfl)
    have hds : o.dst = some 70 := fact ho (by kernel_rfl)
    have t55 := tm_dep hF 1 55 (by kernel_rfl) (dep_of ho hdep 1 (by kernel_rfl))
    simp only [V11] at t55
    have t69 := tm_dep hF 15 69 (by kernel_rfl) (dep_of ho hdep 15 (by kernel_rfl))
    simp only [V11] at t69
    unfold Oper.wp
    simp [execOp, hop, hds, t55, t69, go_sem, V11, hS]
  | 17, ho =>
    rw [if_pos (want_none (fact ho (by kernel_rfl)))]
    have hop : o.op = .move (.tmp 70) := fact ho (by kernel_rfl)
    have hds : o.dst = some 71 := fact ho (by kernel_rfl)
    have t70 := tm_dep hF 16 70 (by kernel_rfl) (dep_of ho hdep 16 (by kernel_rfl))
    simp only [V11] at t70
    unfold Oper.wp
    simp [execOp, hop, hds, t70, go_sem, V11, hS]
  | 18, ho =>
    have hy := yl_dep hF 17 71 false (by kernel_rfl) (dep_of ho hdep 17 (by kernel_rfl)) rfl
    have hgd : o.guard = some (17, false) := fact ho (by kernel_rfl)
    rw [if_pos (by rw [want_some hgd hy]; rfl)]
    have hop : o.op = .buildSlice 22 9 #[(0, .const (.int .u8 49)), (1, .const (.int .u8 50)), (2, .const (.int .u8 51)), (3, .const (.int .u8 52)), (4, .const (.int .u8 53)), (5, .const (.int .u8 54)), (6, .const (.int .u8 55)), (7, .const (.int .u8 56)), (8, .const (.int .u8 57))] := fact ho (by kernel_rfl)
    have hds : o.dst = some 72 := fact ho (by kernel_rfl)
    obtain rfl := hb rfl
    obtain ⟨hz, hq⟩ := hsz w hS
    unfold Oper.wp
    simp [execOp, hop, hds, go_sem, V11, hz, hq]
  | 19, ho =>
    have hy := yl_dep hF 17 71 false (by kernel_rfl) (dep_of ho hdep 17 (by kernel_rfl)) rfl
    have hgd : o.guard = some (17, false) := fact ho (by kernel_rfl)
    rw [if_pos (by rw [want_some hgd hy]; rfl)]
    have hop : o.op = .convert 22 22 (.tmp 72) := fact ho (by kernel_rfl)
    have hds : o.dst = some 73 := fact ho (by kernel_rfl)
    have t72 := tm_dep hF 18 72 (by kernel_rfl) (dep_of ho hdep 18 (by kernel_rfl))
    simp only [V11] at t72
    have hl := dep_of ho hdep 18 (by kernel_rfl)
    obtain rfl : b = true := hbm (by unfold Array.getD at hl ⊢; split at hl <;> simp_all)
    obtain ⟨w1, hr1, hq1⟩ := hcv w hS
    unfold Oper.wp
    simp [execOp, hop, hds, Act.eval, t72, hr1, Oper.upon, Act.put, V11, hq1]
  | 20, ho =>
    have hy := yl_dep hF 17 71 false (by kernel_rfl) (dep_of ho hdep 17 (by kernel_rfl)) rfl
    have hgd : o.guard = some (17, false) := fact ho (by kernel_rfl)
    rw [if_pos (by rw [want_some hgd hy]; rfl)]
    have hop : o.op = .call { callee := .value (.func 4), args := #[.tmp 73], argTypes := #[22] } := fact ho (by kernel_rfl)
    have hds : o.dst = some 74 := fact ho (by kernel_rfl)
    have t73 := tm_dep hF 19 73 (by kernel_rfl) (dep_of ho hdep 19 (by kernel_rfl))
    simp only [V11] at t73
    have hl := dep_of ho hdep 19 (by kernel_rfl)
    obtain rfl : b = true := hbc (by unfold Array.getD at hl ⊢; split at hl <;> simp_all)
    unfold Oper.wp
    simp [execOp, hop, hds, t73, go_sem, V11]
    refine (cK w hS).mono ?_
    rintro e w' ⟨rfl, hS'⟩
    exact ⟨rfl, hS'⟩
  | 21, ho =>
    have hy := yl_dep hF 17 71 false (by kernel_rfl) (dep_of ho hdep 17 (by kernel_rfl)) rfl
    have hgd : o.guard = some (17, false) := fact ho (by kernel_rfl)
    rw [if_pos (by rw [want_some hgd hy]; rfl)]
    have hop : o.op = .binOp .neq 23 (.tmp 74) (.const (.int .u32 3421780262)) 23 := fact ho (by kernel_rfl)
    have hds : o.dst = some 75 := fact ho (by kernel_rfl)
    have t74 := tm_dep hF 20 74 (by kernel_rfl) (dep_of ho hdep 20 (by kernel_rfl))
    simp only [V11] at t74
    unfold Oper.wp
    simp [execOp, hop, hds, t74, go_sem, V11, hS]
  | 22, ho =>
    rw [if_pos (want_none (fact ho (by kernel_rfl)))]
    have hop : o.op = .pick (.tmp 71) (.const (.bool true)) (.tmp 75) := fact ho (by kernel_rfl)
    have hds : o.dst = some 76 := fact ho (by kernel_rfl)
    have t71 := tm_dep hF 17 71 (by kernel_rfl) (dep_of ho hdep 17 (by kernel_rfl))
    simp only [V11] at t71
    have t75 := tm_dep hF 21 75 (by kernel_rfl) (dep_of ho hdep 21 (by kernel_rfl))
    simp only [V11] at t75
    unfold Oper.wp
    simp [execOp, hop, hds, t71, t75, go_sem, V11, hS]
  | n + 23, ho =>
    exfalso
    have h1 : n + 23 < reg11.size := (Array.getElem?_eq_some_iff.1 ho).1
    rw [reg11_size] at h1
    omega
theorem put11 (O n : Nat) (va vb vc CA CB CC : Value) (kd ka kb kc kab Hs : Nat) (v0 v1 v2 v3 v4 v5 v6 v7 v8 v9 v10 v11 v12 v13 v14 v15 v16 v17 v18 v19 v20 v21 v22 v23 v24 v25 v26 v27 v28 v29 v30 v31 v32 v33 v34 v35 v36 v37 v38 v39 v40 v41 v42 v43 v44 v45 v46 v47 v48 v49 v50 v51 v52 v53 v54 v55 v56 v57 v58 v59 v60 v61 v62 v63 v64 v65 v66 v67 v68 v69 v70 v71 v72 v73 v74 v75 v76 v77 v78 v79 v80 v81 v82 v83 v84 v85 v86 v87 v88 v89 v90 v91 v92 v93 v94 v95 v96 v97 v98 v99 v100 v101 v102 v103 v104 v105 v106 v107 v108 v109 v110 v111 v112 v113 v114 v115 v116 v117 v118 v119 v120 v121 v122 v123 v124 v125 v126 v127 v128 v129 v130 v131 v132 v133 v134 v135 v136 v137 v138 v139 : Value) : putN reg11 (V11 O n va vb vc CA CB CC kd ka kb kc kab Hs) ⟨#[v0, v1, v2, v3, v4, v5, v6, v7, v8, v9, v10, v11, v12, v13, v14, v15, v16, v17, v18, v19, v20, v21, v22, v23, v24, v25, v26, v27, v28, v29, v30, v31, v32, v33, v34, v35, v36, v37, v38, v39, v40, v41, v42, v43, v44, v45, v46, v47, v48, v49, v50, v51, v52, v53, v54, v55, v56, v57, v58, v59, v60, v61, v62, v63, v64, v65, v66, v67, v68, v69, v70, v71, v72, v73, v74, v75, v76, v77, v78, v79, v80, v81, v82, v83, v84, v85, v86, v87, v88, v89, v90, v91, v92, v93, v94, v95, v96, v97, v98, v99, v100, v101, v102, v103, v104, v105, v106, v107, v108, v109, v110, v111, v112, v113, v114, v115, v116, v117, v118, v119, v120, v121, v122, v123, v124, v125, v126, v127, v128, v129, v130, v131, v132, v133, v134, v135, v136, v137, v138, v139], []⟩ reg11.size = ⟨#[v0, v1, v2, v3, v4, v5, v6, v7, v8, v9, v10, v11, v12, v13, v14, v15, v16, v17, v18, v19, v20, v21, v22, v23, v24, v25, v26, v27, v28, v29, v30, v31, v32, v33, v34, v35, v36, v37, v38, v39, v40, v41, v42, v43, v44, v45, v46, v47, v48, v49, v50, v51, v52, v53, .slice (some ⟨O, 0, none⟩) n n, .int .u32 (kd : Int), va, .int .i64 (n : Int), CA, .int .u32 (ka : Int), vb, .int .i64 (n : Int), CB, .int .u32 (kb : Int), .int .u32 (kab : Int), vc, .int .i64 (n : Int), CC, .int .u32 (kc : Int), .int .u32 (kd : Int), .bool false, .bool false, .slice (some ⟨Hs, 0, none⟩) 9 9, .slice (some ⟨Hs, 0, none⟩) 9 9, .int .u32 3421780262, .bool false, .bool false, v77, v78, v79, v80, v81, v82, v83, v84, v85, v86, v87, v88, v89, v90, v91, v92, v93, v94, v95, v96, v97, v98, v99, v100, v101, v102, v103, v104, v105, v106, v107, v108, v109, v110, v111, v112, v113, v114, v115, v116, v117, v118, v119, v120, v121, v122, v123, v124, v125, v126, v127, v128, v129, v130, v131, v132, v133, v134, v135, v136, v137, v138, v139], []⟩ := by kernel_rfl
noncomputable def reg24 : Array Oper := ((Tryd.f3.body.bind (findR 24)).getD #[])
theorem okR24 : okR reg24 140 = true := by kernel_rfl
theorem reg24_size : reg24.size = 18 := by kernel_rfl
def V24 (O n : Nat) (va vb vc CA CB CC : Value) (ke kd ka kb kc kab : Nat) : Nat → Value
  | 0 => .slice (some ⟨O, 0, none⟩) n n
  | 1 => .int .u32 (ke : Int)
  | 2 => va
  | 3 => .int .i64 (n : Int)
  | 4 => CA
  | 5 => .int .u32 (ka : Int)
  | 6 => vb
  | 7 => .int .i64 (n : Int)
  | 8 => CB
  | 9 => .int .u32 (kb : Int)
  | 10 => .int .u32 (kab : Int)
  | 11 => vc
  | 12 => .int .i64 (n : Int)
  | 13 => CC
  | 14 => .int .u32 (kc : Int)
  | 15 => .int .u32 (kd : Int)
  | 16 => .bool true
  | 17 => .bool true
  | _ => undef
set_option maxHeartbeats 1000000 in
theorem step24 (a0 : Act) (O n : Nat) (va vb vc CA CB CC : Value) (ke kd ka kb kc kab : Nat) (S : Bool → World → Prop) (hSS : ∀ b c w, S b w → S c w) (Q : Exit → Act → World → Prop) (h12 : a0.tmps[12]? = some (.slice (some ⟨O, 0, none⟩) n n)) (h0 : a0.tmps[0]? = some (va)) (h1 : a0.tmps[1]? = some (vb)) (h2 : a0.tmps[2]? = some (vc)) (h11 : a0.tmps[11]? = some (.int .i64 (n : Int)))
    (hA : ∀ W : World, (Instr.sliceAt 22 va none (some (.int .i64 (n : Int))) none).run Tryd.prog W = .ok CA W) (hB : ∀ W : World, (Instr.sliceAt 22 vb none (some (.int .i64 (n : Int))) none).run Tryd.prog W = .ok CB W) (hC : ∀ W : World, (Instr.sliceAt 22 vc none (some (.int .i64 (n : Int))) none).run Tryd.prog W = .ok CC W) (cA : ∀ b w, S b w → Calls Tryd.prog 4 #[CA] w fun e w' => e = .returned (.int .u32 (ka : Int)) ∧ S b w') (cB : ∀ b w, S b w → Calls Tryd.prog 4 #[CB] w fun e w' => e = .returned (.int .u32 (kb : Int)) ∧ S b w') (cC : ∀ b w, S b w → Calls Tryd.prog 4 #[CC] w fun e w' => e = .returned (.int .u32 (kc : Int)) ∧ S b w') (hx1 : bits BinOp.xor IntKind.u32 (ka : Int) (kb : Int) = (kab : Int)) (hx2 : bits BinOp.xor IntKind.u32 (kab : Int) (kc : Int) = (kd : Int)) (cD : ∀ b w, S b w → Calls Tryd.prog 4 #[.slice (some ⟨O, 0, none⟩) n n] w fun e w' => e = .returned (.int .u32 (ke : Int)) ∧ S b w') (hne : ((ke : Int) != (kd : Int)) = true)
    (i : Nat) (o : Oper) (a : Act) (w : World) (listed : Array Bool) (b : Bool) (ho : reg24[i]? = some o) (hF : RFr reg24 a0 (V24 O n va vb vc CA CB CC ke kd ka kb kc kab) listed a) (hS : S b w) (_hb : i = 16 → b = false) (_hbm : listed.getD 16 true = true → b = true) (_hbc : listed.getD 17 true = true → b = true) (hdep : ∀ e ∈ o.after, Region.binds .any e = true → listed.getD e.on false = true) :
      if Region.wanted o (yielded reg24 a.tmps) = true then Oper.wp Tryd.prog o a w (fun a' w' => a' = a.put o.dst (V24 O n va vb vc CA CB CC ke kd ka kb kc kab i) ∧ S (b || decide (i = 16)) w') Q else V24 O n va vb vc CA CB CC ke kd ka kb kc kab i = undef ∧ i ≠ 16 := by
  match i, ho with
  | 0, ho =>
    rw [if_pos (want_none (fact ho (by kernel_rfl)))]
    have hop : o.op = .move (.tmp 12) := fact ho (by kernel_rfl)
    have hds : o.dst = some 123 := fact ho (by kernel_rfl)
    have t12 := tm_old hF 12 _ h12 (by kernel_rfl)
    unfold Oper.wp
    simp [execOp, hop, hds, t12, go_sem, V24, hS]
  | 1, ho =>
    rw [if_pos (want_none (fact ho (by kernel_rfl)))]
    have hop : o.op = .call { callee := .value (.func 4), args := #[.tmp 123], argTypes := #[22] } := fact ho (by kernel_rfl)
    have hds : o.dst = some 124 := fact ho (by kernel_rfl)
    have t123 := tm_dep hF 0 123 (by kernel_rfl) (dep_of ho hdep 0 (by kernel_rfl))
    simp only [V24] at t123
    unfold Oper.wp
    simp [execOp, hop, hds, t123, go_sem, V24]
    refine (cD b w hS).mono ?_
    rintro e w' ⟨rfl, hS'⟩
    exact ⟨rfl, hS'⟩
  | 2, ho =>
    rw [if_pos (want_none (fact ho (by kernel_rfl)))]
    have hop : o.op = .move (.tmp 0) := fact ho (by kernel_rfl)
    have hds : o.dst = some 125 := fact ho (by kernel_rfl)
    have t0 := tm_old hF 0 _ h0 (by kernel_rfl)
    unfold Oper.wp
    simp [execOp, hop, hds, t0, go_sem, V24, hS]
  | 3, ho =>
    rw [if_pos (want_none (fact ho (by kernel_rfl)))]
    have hop : o.op = .move (.tmp 11) := fact ho (by kernel_rfl)
    have hds : o.dst = some 126 := fact ho (by kernel_rfl)
    have t11 := tm_old hF 11 _ h11 (by kernel_rfl)
    unfold Oper.wp
    simp [execOp, hop, hds, t11, go_sem, V24, hS]
  | 4, ho =>
    rw [if_pos (want_none (fact ho (by kernel_rfl)))]
    have hop : o.op = .slice 22 (.tmp 125) none (some (.tmp 126)) none := fact ho (by kernel_rfl)
    have hds : o.dst = some 127 := fact ho (by kernel_rfl)
    have t125 := tm_dep hF 2 125 (by kernel_rfl) (dep_of ho hdep 2 (by kernel_rfl))
    simp only [V24] at t125
    have t126 := tm_dep hF 3 126 (by kernel_rfl) (dep_of ho hdep 3 (by kernel_rfl))
    simp only [V24] at t126
    unfold Oper.wp
    simp [execOp, hop, hds, Act.eval, t125, t126, hA, Oper.upon, Act.put, V24, hS]
  | 5, ho =>
    rw [if_pos (want_none (fact ho (by kernel_rfl)))]
    have hop : o.op = .call { callee := .value (.func 4), args := #[.tmp 127], argTypes := #[22] } := fact ho (by kernel_rfl)
    have hds : o.dst = some 128 := fact ho (by kernel_rfl)
    have t127 := tm_dep hF 4 127 (by kernel_rfl) (dep_of ho hdep 4 (by kernel_rfl))
    simp only [V24] at t127
    unfold Oper.wp
    simp [execOp, hop, hds, t127, go_sem, V24]
    refine (cA b w hS).mono ?_
    rintro e w' ⟨rfl, hS'⟩
    exact ⟨rfl, hS'⟩
  | 6, ho =>
    rw [if_pos (want_none (fact ho (by kernel_rfl)))]
    have hop : o.op = .move (.tmp 1) := fact ho (by kernel_rfl)
    have hds : o.dst = some 129 := fact ho (by kernel_rfl)
    have t1 := tm_old hF 1 _ h1 (by kernel_rfl)
    unfold Oper.wp
    simp [execOp, hop, hds, t1, go_sem, V24, hS]
  | 7, ho =>
    rw [if_pos (want_none (fact ho (by kernel_rfl)))]
    have hop : o.op = .move (.tmp 11) := fact ho (by kernel_rfl)
    have hds : o.dst = some 130 := fact ho (by kernel_rfl)
    have t11 := tm_old hF 11 _ h11 (by kernel_rfl)
    unfold Oper.wp
    simp [execOp, hop, hds, t11, go_sem, V24, hS]
  | 8, ho =>
    rw [if_pos (want_none (fact ho (by kernel_rfl)))]
    have hop : o.op = .slice 22 (.tmp 129) none (some (.tmp 130)) none := fact ho (by kernel_rfl)
    have hds : o.dst = some 131 := fact ho (by kernel_rfl)
    have t129 := tm_dep hF 6 129 (by kernel_rfl) (dep_of ho hdep 6 (by kernel_rfl))
    simp only [V24] at t129
    have t130 := tm_dep hF 7 130 (by kernel_rfl) (dep_of ho hdep 7 (by kernel_rfl))
    simp only [V24] at t130
    unfold Oper.wp
    simp [execOp, hop, hds, Act.eval, t129, t130, hB, Oper.upon, Act.put, V24, hS]
  | 9, ho =>
    rw [if_pos (want_none (fact ho (by kernel_rfl)))]
    have hop : o.op = .call { callee := .value (.func 4), args := #[.tmp 131], argTypes := #[22] } := fact ho (by kernel_rfl)
    have hds : o.dst = some 132 := fact ho (by kernel_rfl)
    have t131 := tm_dep hF 8 131 (by kernel_rfl) (dep_of ho hdep 8 (by kernel_rfl))
    simp only [V24] at t131
    unfold Oper.wp
    simp [execOp, hop, hds, t131, go_sem, V24]
    refine (cB b w hS).mono ?_
    rintro e w' ⟨rfl, hS'⟩
    exact ⟨rfl, hS'⟩
  | 10, ho =>
    rw [if_pos (want_none (fact ho (by kernel_rfl)))]
    have hop : o.op = .binOp .xor 23 (.tmp 128) (.tmp 132) 23 := fact ho (by kernel_rfl)
    have hds : o.dst = some 133 := fact ho (by kernel_rfl)
    have t128 := tm_dep hF 5 128 (by kernel_rfl) (dep_of ho hdep 5 (by kernel_rfl))
    simp only [V24] at t128
    have t132 := tm_dep hF 9 132 (by kernel_rfl) (dep_of ho hdep 9 (by kernel_rfl))
    simp only [V24] at t132
    unfold Oper.wp
    simp [execOp, hop, hds, t128, t132, go_sem, V24, hS, hx1]
  | 11, ho =>
    rw [if_pos (want_none (fact ho (by kernel_rfl)))]
    have hop : o.op = .move (.tmp 2) := fact ho (by kernel_rfl)
    have hds : o.dst = some 134 := fact ho (by kernel_rfl)
    have t2 := tm_old hF 2 _ h2 (by kernel_rfl)
    unfold Oper.wp
    simp [execOp, hop, hds, t2, go_sem, V24, hS]
  | 12, ho =>
    rw [if_pos (want_none (fact ho (by kernel_rfl)))]
    have hop : o.op = .move (.tmp 11) := fact ho (by kernel_rfl)
    have hds : o.dst = some 135 := fact ho (by kernel_rfl)
    have t11 := tm_old hF 11 _ h11 (by kernel_rfl)
    unfold Oper.wp
    simp [execOp, hop, hds, t11, go_sem, V24, hS]
  | 13, ho =>
    rw [if_pos (want_none (fact ho (by kernel_rfl)))]
    have hop : o.op = .slice 22 (.tmp 134) none (some (.tmp 135)) none := fact ho (by kernel_rfl)
    have hds : o.dst = some 136 := fact ho (by kernel_rfl)
    have t134 := tm_dep hF 11 134 (by kernel_rfl) (dep_of ho hdep 11 (by kernel_rfl))
    simp only [V24] at t134
    have t135 := tm_dep hF 12 135 (by kernel_rfl) (dep_of ho hdep 12 (by kernel_rfl))
    simp only [V24] at t135
    unfold Oper.wp
    simp [execOp, hop, hds, Act.eval, t134, t135, hC, Oper.upon, Act.put, V24, hS]
  | 14, ho =>
    rw [if_pos (want_none (fact ho (by kernel_rfl)))]
    have hop : o.op = .call { callee := .value (.func 4), args := #[.tmp 136], argTypes := #[22] } := fact ho (by kernel_rfl)
    have hds : o.dst = some 137 := fact ho (by kernel_rfl)
    have t136 := tm_dep hF 13 136 (by kernel_rfl) (dep_of ho hdep 13 (by kernel_rfl))
    simp only [V24] at t136
    unfold Oper.wp
    simp [execOp, hop, hds, t136, go_sem, V24]
    refine (cC b w hS).mono ?_
    rintro e w' ⟨rfl, hS'⟩
    exact ⟨rfl, hS'⟩
  | 15, ho =>
    rw [if_pos (want_none (fact ho (by kernel_rfl)))]
    have hop : o.op = .binOp .xor 23 (.tmp 133) (.tmp 137) 23 := fact ho (by kernel_rfl)
    have hds : o.dst = some 138 := fact ho (by kernel_rfl)
    have t133 := tm_dep hF 10 133 (by kernel_rfl) (dep_of ho hdep 10 (by kernel_rfl))
    simp only [V24] at t133
    have t137 := tm_dep hF 14 137 (by kernel_rfl) (dep_of ho hdep 14 (by kernel_rfl))
    simp only [V24] at t137
    unfold Oper.wp
    simp [execOp, hop, hds, t133, t137, go_sem, V24, hS, hx2]
  | 16, ho =>
    rw [if_pos (want_none (fact ho (by kernel_rfl)))]
    have hop : o.op = .binOp .neq 23 (.tmp 124) (.tmp 138) 23 := fact ho (by kernel_rfl)
    have hds : o.dst = some 139 := fact ho (by kernel_rfl)
    have t124 := tm_dep hF 1 124 (by kernel_rfl) (dep_of ho hdep 1 (by kernel_rfl))
    simp only [V24] at t124
    have t138 := tm_dep hF 15 138 (by kernel_rfl) (dep_of ho hdep 15 (by kernel_rfl))
    simp only [V24] at t138
    unfold Oper.wp
    have hS3 := hSS b true w hS
    simp [execOp, hop, hds, t124, t138, go_sem, V24, hS3, hne]
  | 17, ho =>
    rw [if_pos (want_none (fact ho (by kernel_rfl)))]
    have hop : o.op = .assign (.tmp 139) := fact ho (by kernel_rfl)
    have hds : o.dst = some 10 := fact ho (by kernel_rfl)
    have t139 := tm_dep hF 16 139 (by kernel_rfl) (dep_of ho hdep 16 (by kernel_rfl))
    simp only [V24] at t139
    unfold Oper.wp
    simp [execOp, hop, hds, t139, go_sem, V24, hS]
  | n + 18, ho =>
    exfalso
    have h1 : n + 18 < reg24.size := (Array.getElem?_eq_some_iff.1 ho).1
    rw [reg24_size] at h1
    omega
theorem put24 (O n : Nat) (va vb vc CA CB CC : Value) (ke kd ka kb kc kab : Nat) (v0 v1 v2 v3 v4 v5 v6 v7 v8 v9 v10 v11 v12 v13 v14 v15 v16 v17 v18 v19 v20 v21 v22 v23 v24 v25 v26 v27 v28 v29 v30 v31 v32 v33 v34 v35 v36 v37 v38 v39 v40 v41 v42 v43 v44 v45 v46 v47 v48 v49 v50 v51 v52 v53 v54 v55 v56 v57 v58 v59 v60 v61 v62 v63 v64 v65 v66 v67 v68 v69 v70 v71 v72 v73 v74 v75 v76 v77 v78 v79 v80 v81 v82 v83 v84 v85 v86 v87 v88 v89 v90 v91 v92 v93 v94 v95 v96 v97 v98 v99 v100 v101 v102 v103 v104 v105 v106 v107 v108 v109 v110 v111 v112 v113 v114 v115 v116 v117 v118 v119 v120 v121 v122 v123 v124 v125 v126 v127 v128 v129 v130 v131 v132 v133 v134 v135 v136 v137 v138 v139 : Value) : putN reg24 (V24 O n va vb vc CA CB CC ke kd ka kb kc kab) ⟨#[v0, v1, v2, v3, v4, v5, v6, v7, v8, v9, v10, v11, v12, v13, v14, v15, v16, v17, v18, v19, v20, v21, v22, v23, v24, v25, v26, v27, v28, v29, v30, v31, v32, v33, v34, v35, v36, v37, v38, v39, v40, v41, v42, v43, v44, v45, v46, v47, v48, v49, v50, v51, v52, v53, v54, v55, v56, v57, v58, v59, v60, v61, v62, v63, v64, v65, v66, v67, v68, v69, v70, v71, v72, v73, v74, v75, v76, v77, v78, v79, v80, v81, v82, v83, v84, v85, v86, v87, v88, v89, v90, v91, v92, v93, v94, v95, v96, v97, v98, v99, v100, v101, v102, v103, v104, v105, v106, v107, v108, v109, v110, v111, v112, v113, v114, v115, v116, v117, v118, v119, v120, v121, v122, v123, v124, v125, v126, v127, v128, v129, v130, v131, v132, v133, v134, v135, v136, v137, v138, v139], []⟩ reg24.size = ⟨#[v0, v1, v2, v3, v4, v5, v6, v7, v8, v9, .bool true, v11, v12, v13, v14, v15, v16, v17, v18, v19, v20, v21, v22, v23, v24, v25, v26, v27, v28, v29, v30, v31, v32, v33, v34, v35, v36, v37, v38, v39, v40, v41, v42, v43, v44, v45, v46, v47, v48, v49, v50, v51, v52, v53, v54, v55, v56, v57, v58, v59, v60, v61, v62, v63, v64, v65, v66, v67, v68, v69, v70, v71, v72, v73, v74, v75, v76, v77, v78, v79, v80, v81, v82, v83, v84, v85, v86, v87, v88, v89, v90, v91, v92, v93, v94, v95, v96, v97, v98, v99, v100, v101, v102, v103, v104, v105, v106, v107, v108, v109, v110, v111, v112, v113, v114, v115, v116, v117, v118, v119, v120, v121, v122, .slice (some ⟨O, 0, none⟩) n n, .int .u32 (ke : Int), va, .int .i64 (n : Int), CA, .int .u32 (ka : Int), vb, .int .i64 (n : Int), CB, .int .u32 (kb : Int), .int .u32 (kab : Int), vc, .int .i64 (n : Int), CC, .int .u32 (kc : Int), .int .u32 (kd : Int), .bool true], []⟩ := by kernel_rfl
end Go.Proofs.YtnemnnocfbcaoaaDoor
