/- DigestLabels: the operations of its region 12. -/
import Derived.Test.YtkppejaigodgiabDoorLblT
import Derived.Test.YtkppejaigodgiabDoorLblR
namespace Go.Proofs.YtkppejaigodgiabDoor.Lbl
open Go.RowKit
theorem wp_of_K {P : Program} {o : Oper} {a : Act} {w : World} {Q : Exit → Act → World → Prop} {Z : Value → World → Prop} (h : ∀ K : Act → World → Prop, (∀ v w', Z v w' → K (a.put o.dst v) w') → Oper.wp P o a w K Q) : Oper.wp P o a w (fun a' w' => ∃ v, a' = a.put o.dst v ∧ Z v w') Q := h _ (fun v _ hz => ⟨v, rfl, hz⟩)
theorem hal : Tryd.prog.arrayLen 51 = 20 := by kernel_rfl
noncomputable def reg12 : Array Oper := ((Tryd.f7.body.bind (findR 12)).getD #[])
theorem okR12 : okR reg12 142 = true := by kernel_rfl
def V12 (S : List Nat) (av bv : Value) (P : ByteArray) (B : Nat) : Nat → Value → World → Prop
  | 0, v, _ => v = .agg (bs S)
  | 1, v, _ => v = av
  | 2, v, _ => v = .agg (bs S)
  | 3, v, _ => v = .bool false
  | 4, v, _ => v = .bool false
  | 5, v, _ => v = .string P
  | 6, v, _ => v = .int .i64 32
  | 7, v, _ => v = .bool false
  | 8, v, _ => v = .bool false
  | 9, v, _ => v = .bool false
  | 10, v, _ => v = .int .i64 0
  | 11, v, _ => v = .bool false
  | 12, v, _ => v = .bool false
  | 13, v, _ => v = .bool false
  | 14, v, _ => v = bv
  | 15, v, _ => v = .slice (some ⟨B, 0, none⟩) 20 20
  | 16, v, _ => v = .bool true
  | 17, v, _ => v = .bool false
  | 18, v, _ => v = .bool false
  | _, _, _ => True
theorem V12_stab (S : List Nat) (av bv : Value) (P : ByteArray) (B : Nat) : ∀ j u w w', V12 S av bv P B j u w → Below w.heap.size w w' → V12 S av bv P B j u w'
  | 0, _, _, _, h, _ => h
  | 1, _, _, _, h, _ => h
  | 2, _, _, _, h, _ => h
  | 3, _, _, _, h, _ => h
  | 4, _, _, _, h, _ => h
  | 5, _, _, _, h, _ => h
  | 6, _, _, _, h, _ => h
  | 7, _, _, _, h, _ => h
  | 8, _, _, _, h, _ => h
  | 9, _, _, _, h, _ => h
  | 10, _, _, _, h, _ => h
  | 11, _, _, _, h, _ => h
  | 12, _, _, _, h, _ => h
  | 13, _, _, _, h, _ => h
  | 14, _, _, _, h, _ => h
  | 15, _, _, _, h, _ => h
  | 16, _, _, _, h, _ => h
  | 17, _, _, _, h, _ => h
  | 18, _, _, _, h, _ => h
  | _ + 19, _, _, _, _, _ => trivial
set_option maxHeartbeats 1000000 in
theorem step12 (a0 : Act) (S : List Nat) (av bv : Value) (P : ByteArray) (A B : Nat) (I : World → Prop) (Q : Exit → Act → World → Prop) (h10 : a0.tmps[10]? = some (av)) (h12 : a0.tmps[12]? = some (.pointer (some ⟨A, 0, none⟩))) (h13 : a0.tmps[13]? = some (.pointer (some ⟨B, 0, none⟩))) (h14 : a0.tmps[14]? = some (.string P)) (h15 : a0.tmps[15]? = some (bv)) (h16 : a0.tmps[16]? = some (.int .i64 0))
    (hPs : P.size = 32) (hSb : ∀ W W', I W → Below W.heap.size W W' → I W') (hld : ∀ W, I W → (Instr.loadAt 24 (.pointer (some ⟨A, 0, none⟩))).run Tryd.prog W = .ok (.agg (bs S)) W) (hqM : ∀ W, (Op.equalIn 10000 24 (.agg (bs S)) (.agg (bs S))).run Tryd.prog W = .ok true W)
    (hc2 : ∀ W, I W → Calls Tryd.prog 32 #[av] W fun e w' => e = .returned (.agg (bs S)) ∧ Below W.heap.size W w')
    (hc16 : ∀ W, I W → Calls Tryd.prog 18 #[bv, .slice (some ⟨B, 0, none⟩) 20 20] W fun e w' => e = .returned (.bool true) ∧ Below W.heap.size W w')
    (i : Nat) (o : Oper) (a : Act) (w : World) (listed : Array Bool) (ho : reg12[i]? = some o) (hF : RFv reg12 a0 (V12 S av bv P B) listed a w) (hS : (I) w) (hdep : ∀ e ∈ o.after, Region.binds .any e = true → listed.getD e.on false = true) :
      if Region.wanted o (yielded reg12 a.tmps) = true then Oper.wp Tryd.prog o a w (fun a' w' => ∃ v, a' = a.put o.dst v ∧ V12 S av bv P B i v w' ∧ (I) w' ∧ (fun u u' => Below u.heap.size u u') w w') Q else V12 S av bv P B i undef w := by
  match i, ho with
  | 0, ho =>
    rw [if_pos (want_none (fact ho (by kernel_rfl)))]
    have hop : o.op = .load 24 (.tmp 12) := fact ho (by kernel_rfl)
    have hds : o.dst = some 53 := fact ho (by kernel_rfl)
    have t12 := tv_old hF 12 _ h12 (by kernel_rfl)
    refine wp_of_K (fun K hK => ?_)
    rw [hds] at hK
    unfold Oper.wp
    simp [execOp, hop, hds, Act.eval, t12, hld w hS, Oper.upon, Act.put]
    exact hK _ _ ⟨rfl, hS, Below.refl _ _⟩
  | 1, ho =>
    rw [if_pos (want_none (fact ho (by kernel_rfl)))]
    have hop : o.op = .move (.tmp 10) := fact ho (by kernel_rfl)
    have hds : o.dst = some 54 := fact ho (by kernel_rfl)
    have t10 := tv_old hF 10 _ h10 (by kernel_rfl)
    refine wp_of_K (fun K hK => ?_)
    rw [hds] at hK
    unfold Oper.wp
    simp [execOp, hop, hds, t10, go_sem]
    exact hK _ _ ⟨rfl, hS, Below.refl _ _⟩
  | 2, ho =>
    rw [if_pos (want_none (fact ho (by kernel_rfl)))]
    have hop : o.op = .call { callee := .value (.func 32), args := #[.tmp 54], argTypes := #[22] } := fact ho (by kernel_rfl)
    have hds : o.dst = some 55 := fact ho (by kernel_rfl)
    have t54 := tv_eq hF 1 54 (av) (by kernel_rfl) (dep_of ho hdep 1 (by kernel_rfl)) (fun v h => h)
    refine wp_of_K (fun K hK => ?_)
    rw [hds] at hK
    unfold Oper.wp
    simp [execOp, hop, hds, t54, go_sem]
    refine (hc2 w hS).mono ?_
    rintro e w' ⟨rfl, hb'⟩
    exact hK _ _ ⟨rfl, hSb w w' hS hb', hb'⟩
  | 3, ho =>
    rw [if_pos (want_none (fact ho (by kernel_rfl)))]
    have hop : o.op = .binOp .neq 24 (.tmp 53) (.tmp 55) 24 := fact ho (by kernel_rfl)
    have hds : o.dst = some 56 := fact ho (by kernel_rfl)
    have t53 := tv_eq hF 0 53 (.agg (bs S)) (by kernel_rfl) (dep_of ho hdep 0 (by kernel_rfl)) (fun v h => h)
    have t55 := tv_eq hF 2 55 (.agg (bs S)) (by kernel_rfl) (dep_of ho hdep 2 (by kernel_rfl)) (fun v h => h)
    refine wp_of_K (fun K hK => ?_)
    rw [hds] at hK
    unfold Oper.wp
    simp [execOp, hop, hds, t53, t55, hqM w, go_sem]
    exact hK _ _ ⟨rfl, hS, Below.refl _ _⟩
  | 4, ho =>
    rw [if_pos (want_none (fact ho (by kernel_rfl)))]
    have hop : o.op = .move (.tmp 56) := fact ho (by kernel_rfl)
    have hds : o.dst = some 57 := fact ho (by kernel_rfl)
    have t56 := tv_eq hF 3 56 (.bool false) (by kernel_rfl) (dep_of ho hdep 3 (by kernel_rfl)) (fun v h => h)
    refine wp_of_K (fun K hK => ?_)
    rw [hds] at hK
    unfold Oper.wp
    simp [execOp, hop, hds, t56, go_sem]
    exact hK _ _ ⟨rfl, hS, Below.refl _ _⟩
  | 5, ho =>
    have hy := yv_dep hF 4 57 false (by kernel_rfl) (dep_of ho hdep 4 (by kernel_rfl)) (fun v h => h)
    have hgd : o.guard = some (4, false) := fact ho (by kernel_rfl)
    rw [if_pos (by rw [want_some hgd hy]; rfl)]
    have hop : o.op = .move (.tmp 14) := fact ho (by kernel_rfl)
    have hds : o.dst = some 58 := fact ho (by kernel_rfl)
    have t14 := tv_old hF 14 _ h14 (by kernel_rfl)
    refine wp_of_K (fun K hK => ?_)
    rw [hds] at hK
    unfold Oper.wp
    simp [execOp, hop, hds, t14, go_sem]
    exact hK _ _ ⟨rfl, hS, Below.refl _ _⟩
  | 6, ho =>
    have hy := yv_dep hF 4 57 false (by kernel_rfl) (dep_of ho hdep 4 (by kernel_rfl)) (fun v h => h)
    have hgd : o.guard = some (4, false) := fact ho (by kernel_rfl)
    rw [if_pos (by rw [want_some hgd hy]; rfl)]
    have hop : o.op = .call { callee := .builtin .len, args := #[.tmp 58], argTypes := #[9] } := fact ho (by kernel_rfl)
    have hds : o.dst = some 59 := fact ho (by kernel_rfl)
    have t58 := tv_eq hF 5 58 (.string P) (by kernel_rfl) (dep_of ho hdep 5 (by kernel_rfl)) (fun v h => h)
    refine wp_of_K (fun K hK => ?_)
    rw [hds] at hK
    unfold Oper.wp
    simp [execOp, hop, hds, t58, hPs, go_sem]
    exact hK _ _ ⟨rfl, hS, Below.refl _ _⟩
  | 7, ho =>
    have hy := yv_dep hF 4 57 false (by kernel_rfl) (dep_of ho hdep 4 (by kernel_rfl)) (fun v h => h)
    have hgd : o.guard = some (4, false) := fact ho (by kernel_rfl)
    rw [if_pos (by rw [want_some hgd hy]; rfl)]
    have hop : o.op = .binOp .neq 3 (.tmp 59) (.const (.int .i64 32)) 3 := fact ho (by kernel_rfl)
    have hds : o.dst = some 60 := fact ho (by kernel_rfl)
    have t59 := tv_eq hF 6 59 (.int .i64 32) (by kernel_rfl) (dep_of ho hdep 6 (by kernel_rfl)) (fun v h => h)
    refine wp_of_K (fun K hK => ?_)
    rw [hds] at hK
    unfold Oper.wp
    simp [execOp, hop, hds, t59, go_sem]
    exact hK _ _ ⟨rfl, hS, Below.refl _ _⟩
  | 8, ho =>
    rw [if_pos (want_none (fact ho (by kernel_rfl)))]
    have hop : o.op = .pick (.tmp 57) (.const (.bool true)) (.tmp 60) := fact ho (by kernel_rfl)
    have hds : o.dst = some 61 := fact ho (by kernel_rfl)
    have t57 := tv_eq hF 4 57 (.bool false) (by kernel_rfl) (dep_of ho hdep 4 (by kernel_rfl)) (fun v h => h)
    have t60 := tv_eq hF 7 60 (.bool false) (by kernel_rfl) (dep_of ho hdep 7 (by kernel_rfl)) (fun v h => h)
    refine wp_of_K (fun K hK => ?_)
    rw [hds] at hK
    unfold Oper.wp
    simp [execOp, hop, hds, t57, t60, go_sem]
    exact hK _ _ ⟨rfl, hS, Below.refl _ _⟩
  | 9, ho =>
    rw [if_pos (want_none (fact ho (by kernel_rfl)))]
    have hop : o.op = .move (.tmp 61) := fact ho (by kernel_rfl)
    have hds : o.dst = some 62 := fact ho (by kernel_rfl)
    have t61 := tv_eq hF 8 61 (.bool false) (by kernel_rfl) (dep_of ho hdep 8 (by kernel_rfl)) (fun v h => h)
    refine wp_of_K (fun K hK => ?_)
    rw [hds] at hK
    unfold Oper.wp
    simp [execOp, hop, hds, t61, go_sem]
    exact hK _ _ ⟨rfl, hS, Below.refl _ _⟩
  | 10, ho =>
    have hy := yv_dep hF 9 62 false (by kernel_rfl) (dep_of ho hdep 9 (by kernel_rfl)) (fun v h => h)
    have hgd : o.guard = some (9, false) := fact ho (by kernel_rfl)
    rw [if_pos (by rw [want_some hgd hy]; rfl)]
    have hop : o.op = .move (.tmp 16) := fact ho (by kernel_rfl)
    have hds : o.dst = some 63 := fact ho (by kernel_rfl)
    have t16 := tv_old hF 16 _ h16 (by kernel_rfl)
    refine wp_of_K (fun K hK => ?_)
    rw [hds] at hK
    unfold Oper.wp
    simp [execOp, hop, hds, t16, go_sem]
    exact hK _ _ ⟨rfl, hS, Below.refl _ _⟩
  | 11, ho =>
    have hy := yv_dep hF 9 62 false (by kernel_rfl) (dep_of ho hdep 9 (by kernel_rfl)) (fun v h => h)
    have hgd : o.guard = some (9, false) := fact ho (by kernel_rfl)
    rw [if_pos (by rw [want_some hgd hy]; rfl)]
    have hop : o.op = .binOp .neq 31 (.tmp 63) (.const (.int .i64 0)) 31 := fact ho (by kernel_rfl)
    have hds : o.dst = some 64 := fact ho (by kernel_rfl)
    have t63 := tv_eq hF 10 63 (.int .i64 0) (by kernel_rfl) (dep_of ho hdep 10 (by kernel_rfl)) (fun v h => h)
    refine wp_of_K (fun K hK => ?_)
    rw [hds] at hK
    unfold Oper.wp
    simp [execOp, hop, hds, t63, go_sem]
    exact hK _ _ ⟨rfl, hS, Below.refl _ _⟩
  | 12, ho =>
    rw [if_pos (want_none (fact ho (by kernel_rfl)))]
    have hop : o.op = .pick (.tmp 62) (.const (.bool true)) (.tmp 64) := fact ho (by kernel_rfl)
    have hds : o.dst = some 65 := fact ho (by kernel_rfl)
    have t62 := tv_eq hF 9 62 (.bool false) (by kernel_rfl) (dep_of ho hdep 9 (by kernel_rfl)) (fun v h => h)
    have t64 := tv_eq hF 11 64 (.bool false) (by kernel_rfl) (dep_of ho hdep 11 (by kernel_rfl)) (fun v h => h)
    refine wp_of_K (fun K hK => ?_)
    rw [hds] at hK
    unfold Oper.wp
    simp [execOp, hop, hds, t62, t64, go_sem]
    exact hK _ _ ⟨rfl, hS, Below.refl _ _⟩
  | 13, ho =>
    rw [if_pos (want_none (fact ho (by kernel_rfl)))]
    have hop : o.op = .move (.tmp 65) := fact ho (by kernel_rfl)
    have hds : o.dst = some 66 := fact ho (by kernel_rfl)
    have t65 := tv_eq hF 12 65 (.bool false) (by kernel_rfl) (dep_of ho hdep 12 (by kernel_rfl)) (fun v h => h)
    refine wp_of_K (fun K hK => ?_)
    rw [hds] at hK
    unfold Oper.wp
    simp [execOp, hop, hds, t65, go_sem]
    exact hK _ _ ⟨rfl, hS, Below.refl _ _⟩
  | 14, ho =>
    have hy := yv_dep hF 13 66 false (by kernel_rfl) (dep_of ho hdep 13 (by kernel_rfl)) (fun v h => h)
    have hgd : o.guard = some (13, false) := fact ho (by kernel_rfl)
    rw [if_pos (by rw [want_some hgd hy]; rfl)]
    have hop : o.op = .move (.tmp 15) := fact ho (by kernel_rfl)
    have hds : o.dst = some 67 := fact ho (by kernel_rfl)
    have t15 := tv_old hF 15 _ h15 (by kernel_rfl)
    refine wp_of_K (fun K hK => ?_)
    rw [hds] at hK
    unfold Oper.wp
    simp [execOp, hop, hds, t15, go_sem]
    exact hK _ _ ⟨rfl, hS, Below.refl _ _⟩
  | 15, ho =>
    have hy := yv_dep hF 13 66 false (by kernel_rfl) (dep_of ho hdep 13 (by kernel_rfl)) (fun v h => h)
    have hgd : o.guard = some (13, false) := fact ho (by kernel_rfl)
    rw [if_pos (by rw [want_some hgd hy]; rfl)]
    have hop : o.op = .slice 51 (.tmp 13) none none none := fact ho (by kernel_rfl)
    have hds : o.dst = some 68 := fact ho (by kernel_rfl)
    have t13 := tv_old hF 13 _ h13 (by kernel_rfl)
    refine wp_of_K (fun K hK => ?_)
    rw [hds] at hK
    unfold Oper.wp
    simp [execOp, hop, hds, t13, go_sem]
    exact hK _ _ ⟨rfl, hS, Below.refl _ _⟩
  | 16, ho =>
    have hy := yv_dep hF 13 66 false (by kernel_rfl) (dep_of ho hdep 13 (by kernel_rfl)) (fun v h => h)
    have hgd : o.guard = some (13, false) := fact ho (by kernel_rfl)
    rw [if_pos (by rw [want_some hgd hy]; rfl)]
    have hop : o.op = .call { callee := .value (.func 18), args := #[.tmp 67, .tmp 68], argTypes := #[22, 22] } := fact ho (by kernel_rfl)
    have hds : o.dst = some 69 := fact ho (by kernel_rfl)
    have t67 := tv_eq hF 14 67 (bv) (by kernel_rfl) (dep_of ho hdep 14 (by kernel_rfl)) (fun v h => h)
    have t68 := tv_eq hF 15 68 (.slice (some ⟨B, 0, none⟩) 20 20) (by kernel_rfl) (dep_of ho hdep 15 (by kernel_rfl)) (fun v h => h)
    refine wp_of_K (fun K hK => ?_)
    rw [hds] at hK
    unfold Oper.wp
    simp [execOp, hop, hds, t67, t68, go_sem]
    refine (hc16 w hS).mono ?_
    rintro e w' ⟨rfl, hb'⟩
    exact hK _ _ ⟨rfl, hSb w w' hS hb', hb'⟩
  | 17, ho =>
    have hy := yv_dep hF 13 66 false (by kernel_rfl) (dep_of ho hdep 13 (by kernel_rfl)) (fun v h => h)
    have hgd : o.guard = some (13, false) := fact ho (by kernel_rfl)
    rw [if_pos (by rw [want_some hgd hy]; rfl)]
    have hop : o.op = .unOp .not 4 (.tmp 69) := fact ho (by kernel_rfl)
    have hds : o.dst = some 70 := fact ho (by kernel_rfl)
    have t69 := tv_eq hF 16 69 (.bool true) (by kernel_rfl) (dep_of ho hdep 16 (by kernel_rfl)) (fun v h => h)
    refine wp_of_K (fun K hK => ?_)
    rw [hds] at hK
    unfold Oper.wp
    simp [execOp, hop, hds, t69, go_sem]
    exact hK _ _ ⟨rfl, hS, Below.refl _ _⟩
  | 18, ho =>
    rw [if_pos (want_none (fact ho (by kernel_rfl)))]
    have hop : o.op = .pick (.tmp 66) (.const (.bool true)) (.tmp 70) := fact ho (by kernel_rfl)
    have hds : o.dst = some 71 := fact ho (by kernel_rfl)
    have t66 := tv_eq hF 13 66 (.bool false) (by kernel_rfl) (dep_of ho hdep 13 (by kernel_rfl)) (fun v h => h)
    have t70 := tv_eq hF 17 70 (.bool false) (by kernel_rfl) (dep_of ho hdep 17 (by kernel_rfl)) (fun v h => h)
    refine wp_of_K (fun K hK => ?_)
    rw [hds] at hK
    unfold Oper.wp
    simp [execOp, hop, hds, t66, t70, go_sem]
    exact hK _ _ ⟨rfl, hS, Below.refl _ _⟩
  | n + 19, ho =>
    exfalso
    have h1 : n + 19 < reg12.size := (Array.getElem?_eq_some_iff.1 ho).1
    rw [show reg12.size = 19 from by kernel_rfl] at h1
    omega
set_option maxRecDepth 100000 in
theorem put12 (X : Nat → Value) (v0 v1 v2 v3 v4 v5 v6 v7 v8 v9 v10 v11 v12 v13 v14 v15 v16 v17 v18 v19 v20 v21 v22 v23 v24 v25 v26 v27 v28 v29 v30 v31 v32 v33 v34 v35 v36 v37 v38 v39 v40 v41 v42 v43 v44 v45 v46 v47 v48 v49 v50 v51 v52 v53 v54 v55 v56 v57 v58 v59 v60 v61 v62 v63 v64 v65 v66 v67 v68 v69 v70 v71 v72 v73 v74 v75 v76 v77 v78 v79 v80 v81 v82 v83 v84 v85 v86 v87 v88 v89 v90 v91 v92 v93 v94 v95 v96 v97 v98 v99 v100 v101 v102 v103 v104 v105 v106 v107 v108 v109 v110 v111 v112 v113 v114 v115 v116 v117 v118 v119 v120 v121 v122 v123 v124 v125 v126 v127 v128 v129 v130 v131 v132 v133 v134 v135 v136 v137 v138 v139 v140 v141 : Value) : putN reg12 X ⟨#[v0, v1, v2, v3, v4, v5, v6, v7, v8, v9, v10, v11, v12, v13, v14, v15, v16, v17, v18, v19, v20, v21, v22, v23, v24, v25, v26, v27, v28, v29, v30, v31, v32, v33, v34, v35, v36, v37, v38, v39, v40, v41, v42, v43, v44, v45, v46, v47, v48, v49, v50, v51, v52, v53, v54, v55, v56, v57, v58, v59, v60, v61, v62, v63, v64, v65, v66, v67, v68, v69, v70, v71, v72, v73, v74, v75, v76, v77, v78, v79, v80, v81, v82, v83, v84, v85, v86, v87, v88, v89, v90, v91, v92, v93, v94, v95, v96, v97, v98, v99, v100, v101, v102, v103, v104, v105, v106, v107, v108, v109, v110, v111, v112, v113, v114, v115, v116, v117, v118, v119, v120, v121, v122, v123, v124, v125, v126, v127, v128, v129, v130, v131, v132, v133, v134, v135, v136, v137, v138, v139, v140, v141], []⟩ reg12.size = ⟨#[v0, v1, v2, v3, v4, v5, v6, v7, v8, v9, v10, v11, v12, v13, v14, v15, v16, v17, v18, v19, v20, v21, v22, v23, v24, v25, v26, v27, v28, v29, v30, v31, v32, v33, v34, v35, v36, v37, v38, v39, v40, v41, v42, v43, v44, v45, v46, v47, v48, v49, v50, v51, v52, X 0, X 1, X 2, X 3, X 4, X 5, X 6, X 7, X 8, X 9, X 10, X 11, X 12, X 13, X 14, X 15, X 16, X 17, X 18, v72, v73, v74, v75, v76, v77, v78, v79, v80, v81, v82, v83, v84, v85, v86, v87, v88, v89, v90, v91, v92, v93, v94, v95, v96, v97, v98, v99, v100, v101, v102, v103, v104, v105, v106, v107, v108, v109, v110, v111, v112, v113, v114, v115, v116, v117, v118, v119, v120, v121, v122, v123, v124, v125, v126, v127, v128, v129, v130, v131, v132, v133, v134, v135, v136, v137, v138, v139, v140, v141], []⟩ := by kernel_rfl
end Go.Proofs.YtkppejaigodgiabDoor.Lbl
