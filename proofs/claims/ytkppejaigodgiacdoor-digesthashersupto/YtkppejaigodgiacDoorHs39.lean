/- DigestHashers: the operations of its regions 22 and 39. -/
import Derived.Test.YtkppejaigodgiacDoorHs15
namespace Go.Proofs.YtkppejaigodgiacDoor.Hash
open Go.RowKit Go.Proofs.YtkppejaigodgiacDoor.Sha
noncomputable def reg22 : Array Oper := ((Tryd.f4.body.bind (findR 22)).getD #[])
theorem okR22 : okR reg22 178 = true := by kernel_rfl
def V22 (M : List Nat) (n kk g b bA bB cA cB _q : Nat) : Nat → Value → World → Prop
  | 0, v, _ => v = .slice (some ⟨bA, 0, none⟩) n cA
  | 1, v, _ => v = .int .i64 (kk : Int)
  | 2, v, _ => v = .pointer (some ⟨bA, kk, none⟩)
  | 3, v, _ => v = .pointer (some ⟨g, 0, none⟩)
  | 4, v, _ => v = .agg (bs M)
  | 5, v, _ => v = .slice (some ⟨bB, 0, none⟩) n cB
  | 6, v, _ => v = .int .i64 (kk : Int)
  | 7, v, _ => v = .pointer (some ⟨bB, kk, none⟩)
  | 8, v, _ => v = .pointer (some ⟨b, 0, none⟩)
  | 9, v, _ => v = .agg (bs M)
  | 10, v, _ => v = .bool false
  | _, _, _ => True
theorem V22_stab (M : List Nat) (n kk g b bA bB cA cB q : Nat) : ∀ j u w w', V22 M n kk g b bA bB cA cB q j u w → Below w.heap.size w w' → V22 M n kk g b bA bB cA cB q j u w'
  | 0, _, _, _, h, _ => h
  | 1, _, _, _, h, _ => h
  | 2, _, _, _, h, _ => h
  | 3, _, _, _, h, _ => h
  | 4, _, _, _, h, _ => h
  | 5, _, _, _, h, _ => h
  | 6, _, _, _, h, _ => h
  | 7, _, _, _, h, _ => h
  | 8, _, _, _, h, _ => h
  | 9, _, _, _, h, _ => h
  | 10, _, _, _, h, _ => h
  | _ + 11, _, _, _, _, _ => trivial
set_option maxHeartbeats 1000000 in
theorem step22 (a0 : Act) (M : List Nat) (n kk g b bA bB cA cB q : Nat) (S : World → Prop) (Q : Exit → Act → World → Prop) (h3 : a0.tmps[3]? = some (.slice (some ⟨bA, 0, none⟩) n cA)) (h4 : a0.tmps[4]? = some (.slice (some ⟨bB, 0, none⟩) n cB)) (h7 : a0.tmps[7]? = some (.int .i64 (kk : Int)))
    (hk0 : (0 : Int) ≤ (kk : Int)) (hk1 : (kk : Int) < (n : Int)) (hSb : ∀ W W', S W → Below W.heap.size W W' → S W') (hcA : ∀ W, S W → W.cell? ⟨bA, kk, none⟩ = some (.pointer (some ⟨g, 0, none⟩))) (hcB : ∀ W, S W → W.cell? ⟨bB, kk, none⟩ = some (.pointer (some ⟨b, 0, none⟩))) (hqM : ∀ W, (Op.equalIn 10000 25 (.agg (bs M)) (.agg (bs M))).run Tryd.prog W = .ok true W)
    (hc14 : ∀ W, S W → Calls Tryd.prog 14 #[.pointer (some ⟨g, 0, none⟩)] W fun e w' => e = .returned (.agg (bs M)) ∧ Below W.heap.size W w') (hc15 : ∀ W, S W → Calls Tryd.prog 15 #[.pointer (some ⟨b, 0, none⟩)] W fun e w' => e = .returned (.agg (bs M)) ∧ Below W.heap.size W w')
    (i : Nat) (o : Oper) (a : Act) (w : World) (listed : Array Bool) (ho : reg22[i]? = some o) (hF : RFv reg22 a0 (V22 M n kk g b bA bB cA cB q) listed a w) (hS : (S) w) (hdep : ∀ e ∈ o.after, Region.binds .any e = true → listed.getD e.on false = true) :
      if Region.wanted o (yielded reg22 a.tmps) = true then Oper.wp Tryd.prog o a w (fun a' w' => ∃ v, a' = a.put o.dst v ∧ V22 M n kk g b bA bB cA cB q i v w' ∧ (S) w' ∧ (fun u u' => Below u.heap.size u u') w w') Q else V22 M n kk g b bA bB cA cB q i undef w := by
  match i, ho with
  | 0, ho =>
    rw [if_pos (want_none (fact ho (by kernel_rfl)))]
    have hop : o.op = .move (.tmp 3) := fact ho (by kernel_rfl)
    have hds : o.dst = some 91 := fact ho (by kernel_rfl)
    have t3 := tv_old hF 3 _ h3 (by kernel_rfl)
    refine wp_of_K (fun K hK => ?_)
    rw [hds] at hK
    unfold Oper.wp
    simp [execOp, hop, hds, t3, go_sem]
    exact hK _ _ ⟨rfl, hS, Below.refl _ _⟩
  | 1, ho =>
    rw [if_pos (want_none (fact ho (by kernel_rfl)))]
    have hop : o.op = .move (.tmp 7) := fact ho (by kernel_rfl)
    have hds : o.dst = some 92 := fact ho (by kernel_rfl)
    have t7 := tv_old hF 7 _ h7 (by kernel_rfl)
    refine wp_of_K (fun K hK => ?_)
    rw [hds] at hK
    unfold Oper.wp
    simp [execOp, hop, hds, t7, go_sem]
    exact hK _ _ ⟨rfl, hS, Below.refl _ _⟩
  | 2, ho =>
    rw [if_pos (want_none (fact ho (by kernel_rfl)))]
    have hop : o.op = .indexAddr 32 (.tmp 91) (.tmp 92) := fact ho (by kernel_rfl)
    have hds : o.dst = some 93 := fact ho (by kernel_rfl)
    have t91 := tv_eq hF 0 91 (.slice (some ⟨bA, 0, none⟩) n cA) (by kernel_rfl) (dep_of ho hdep 0 (by kernel_rfl)) (fun v h => h)
    have t92 := tv_eq hF 1 92 (.int .i64 (kk : Int)) (by kernel_rfl) (dep_of ho hdep 1 (by kernel_rfl)) (fun v h => h)
    refine wp_of_K (fun K hK => ?_)
    rw [hds] at hK
    unfold Oper.wp
    simp [execOp, hop, hds, t91, t92, hk0, hk1, go_sem]
    exact hK _ _ ⟨rfl, hS, Below.refl _ _⟩
  | 3, ho =>
    rw [if_pos (want_none (fact ho (by kernel_rfl)))]
    have hop : o.op = .load 30 (.tmp 93) := fact ho (by kernel_rfl)
    have hds : o.dst = some 94 := fact ho (by kernel_rfl)
    have t93 := tv_eq hF 2 93 (.pointer (some ⟨bA, kk, none⟩)) (by kernel_rfl) (dep_of ho hdep 2 (by kernel_rfl)) (fun v h => h)
    refine wp_of_K (fun K hK => ?_)
    rw [hds] at hK
    unfold Oper.wp
    simp [execOp, hop, hds, t93, hcA w hS, go_sem]
    exact hK _ _ ⟨rfl, hS, Below.refl _ _⟩
  | 4, ho =>
    rw [if_pos (want_none (fact ho (by kernel_rfl)))]
    have hop : o.op = .call { callee := .value (.func 14), args := #[.tmp 94], argTypes := #[30] } := fact ho (by kernel_rfl)
    have hds : o.dst = some 95 := fact ho (by kernel_rfl)
    have t94 := tv_eq hF 3 94 (.pointer (some ⟨g, 0, none⟩)) (by kernel_rfl) (dep_of ho hdep 3 (by kernel_rfl)) (fun v h => h)
    refine wp_of_K (fun K hK => ?_)
    rw [hds] at hK
    unfold Oper.wp
    simp [execOp, hop, hds, t94, go_sem]
    refine (hc14 w hS).mono ?_
    rintro e w' ⟨rfl, hb'⟩
    exact hK _ _ ⟨rfl, hSb w w' hS hb', hb'⟩
  | 5, ho =>
    rw [if_pos (want_none (fact ho (by kernel_rfl)))]
    have hop : o.op = .move (.tmp 4) := fact ho (by kernel_rfl)
    have hds : o.dst = some 96 := fact ho (by kernel_rfl)
    have t4 := tv_old hF 4 _ h4 (by kernel_rfl)
    refine wp_of_K (fun K hK => ?_)
    rw [hds] at hK
    unfold Oper.wp
    simp [execOp, hop, hds, t4, go_sem]
    exact hK _ _ ⟨rfl, hS, Below.refl _ _⟩
  | 6, ho =>
    rw [if_pos (want_none (fact ho (by kernel_rfl)))]
    have hop : o.op = .move (.tmp 7) := fact ho (by kernel_rfl)
    have hds : o.dst = some 97 := fact ho (by kernel_rfl)
    have t7 := tv_old hF 7 _ h7 (by kernel_rfl)
    refine wp_of_K (fun K hK => ?_)
    rw [hds] at hK
    unfold Oper.wp
    simp [execOp, hop, hds, t7, go_sem]
    exact hK _ _ ⟨rfl, hS, Below.refl _ _⟩
  | 7, ho =>
    rw [if_pos (want_none (fact ho (by kernel_rfl)))]
    have hop : o.op = .indexAddr 35 (.tmp 96) (.tmp 97) := fact ho (by kernel_rfl)
    have hds : o.dst = some 98 := fact ho (by kernel_rfl)
    have t96 := tv_eq hF 5 96 (.slice (some ⟨bB, 0, none⟩) n cB) (by kernel_rfl) (dep_of ho hdep 5 (by kernel_rfl)) (fun v h => h)
    have t97 := tv_eq hF 6 97 (.int .i64 (kk : Int)) (by kernel_rfl) (dep_of ho hdep 6 (by kernel_rfl)) (fun v h => h)
    refine wp_of_K (fun K hK => ?_)
    rw [hds] at hK
    unfold Oper.wp
    simp [execOp, hop, hds, t96, t97, hk0, hk1, go_sem]
    exact hK _ _ ⟨rfl, hS, Below.refl _ _⟩
  | 8, ho =>
    rw [if_pos (want_none (fact ho (by kernel_rfl)))]
    have hop : o.op = .load 33 (.tmp 98) := fact ho (by kernel_rfl)
    have hds : o.dst = some 99 := fact ho (by kernel_rfl)
    have t98 := tv_eq hF 7 98 (.pointer (some ⟨bB, kk, none⟩)) (by kernel_rfl) (dep_of ho hdep 7 (by kernel_rfl)) (fun v h => h)
    refine wp_of_K (fun K hK => ?_)
    rw [hds] at hK
    unfold Oper.wp
    simp [execOp, hop, hds, t98, hcB w hS, go_sem]
    exact hK _ _ ⟨rfl, hS, Below.refl _ _⟩
  | 9, ho =>
    rw [if_pos (want_none (fact ho (by kernel_rfl)))]
    have hop : o.op = .call { callee := .value (.func 15), args := #[.tmp 99], argTypes := #[33] } := fact ho (by kernel_rfl)
    have hds : o.dst = some 100 := fact ho (by kernel_rfl)
    have t99 := tv_eq hF 8 99 (.pointer (some ⟨b, 0, none⟩)) (by kernel_rfl) (dep_of ho hdep 8 (by kernel_rfl)) (fun v h => h)
    refine wp_of_K (fun K hK => ?_)
    rw [hds] at hK
    unfold Oper.wp
    simp [execOp, hop, hds, t99, go_sem]
    refine (hc15 w hS).mono ?_
    rintro e w' ⟨rfl, hb'⟩
    exact hK _ _ ⟨rfl, hSb w w' hS hb', hb'⟩
  | 10, ho =>
    rw [if_pos (want_none (fact ho (by kernel_rfl)))]
    have hop : o.op = .binOp .neq 25 (.tmp 95) (.tmp 100) 25 := fact ho (by kernel_rfl)
    have hds : o.dst = some 101 := fact ho (by kernel_rfl)
    have t95 := tv_eq hF 4 95 (.agg (bs M)) (by kernel_rfl) (dep_of ho hdep 4 (by kernel_rfl)) (fun v h => h)
    have t100 := tv_eq hF 9 100 (.agg (bs M)) (by kernel_rfl) (dep_of ho hdep 9 (by kernel_rfl)) (fun v h => h)
    refine wp_of_K (fun K hK => ?_)
    rw [hds] at hK
    unfold Oper.wp
    simp [execOp, hop, hds, t95, t100, hqM w, go_sem]
    exact hK _ _ ⟨rfl, hS, Below.refl _ _⟩
  | n + 11, ho =>
    exfalso
    have h1 : n + 11 < reg22.size := (Array.getElem?_eq_some_iff.1 ho).1
    rw [show reg22.size = 11 from by kernel_rfl] at h1
    omega
set_option maxRecDepth 100000 in
theorem put22 (X : Nat → Value) (v0 v1 v2 v3 v4 v5 v6 v7 v8 v9 v10 v11 v12 v13 v14 v15 v16 v17 v18 v19 v20 v21 v22 v23 v24 v25 v26 v27 v28 v29 v30 v31 v32 v33 v34 v35 v36 v37 v38 v39 v40 v41 v42 v43 v44 v45 v46 v47 v48 v49 v50 v51 v52 v53 v54 v55 v56 v57 v58 v59 v60 v61 v62 v63 v64 v65 v66 v67 v68 v69 v70 v71 v72 v73 v74 v75 v76 v77 v78 v79 v80 v81 v82 v83 v84 v85 v86 v87 v88 v89 v90 v91 v92 v93 v94 v95 v96 v97 v98 v99 v100 v101 v102 v103 v104 v105 v106 v107 v108 v109 v110 v111 v112 v113 v114 v115 v116 v117 v118 v119 v120 v121 v122 v123 v124 v125 v126 v127 v128 v129 v130 v131 v132 v133 v134 v135 v136 v137 v138 v139 v140 v141 v142 v143 v144 v145 v146 v147 v148 v149 v150 v151 v152 v153 v154 v155 v156 v157 v158 v159 v160 v161 v162 v163 v164 v165 v166 v167 v168 v169 v170 v171 v172 v173 v174 v175 v176 v177 : Value) : putN reg22 X ⟨#[v0, v1, v2, v3, v4, v5, v6, v7, v8, v9, v10, v11, v12, v13, v14, v15, v16, v17, v18, v19, v20, v21, v22, v23, v24, v25, v26, v27, v28, v29, v30, v31, v32, v33, v34, v35, v36, v37, v38, v39, v40, v41, v42, v43, v44, v45, v46, v47, v48, v49, v50, v51, v52, v53, v54, v55, v56, v57, v58, v59, v60, v61, v62, v63, v64, v65, v66, v67, v68, v69, v70, v71, v72, v73, v74, v75, v76, v77, v78, v79, v80, v81, v82, v83, v84, v85, v86, v87, v88, v89, v90, v91, v92, v93, v94, v95, v96, v97, v98, v99, v100, v101, v102, v103, v104, v105, v106, v107, v108, v109, v110, v111, v112, v113, v114, v115, v116, v117, v118, v119, v120, v121, v122, v123, v124, v125, v126, v127, v128, v129, v130, v131, v132, v133, v134, v135, v136, v137, v138, v139, v140, v141, v142, v143, v144, v145, v146, v147, v148, v149, v150, v151, v152, v153, v154, v155, v156, v157, v158, v159, v160, v161, v162, v163, v164, v165, v166, v167, v168, v169, v170, v171, v172, v173, v174, v175, v176, v177], []⟩ reg22.size = ⟨#[v0, v1, v2, v3, v4, v5, v6, v7, v8, v9, v10, v11, v12, v13, v14, v15, v16, v17, v18, v19, v20, v21, v22, v23, v24, v25, v26, v27, v28, v29, v30, v31, v32, v33, v34, v35, v36, v37, v38, v39, v40, v41, v42, v43, v44, v45, v46, v47, v48, v49, v50, v51, v52, v53, v54, v55, v56, v57, v58, v59, v60, v61, v62, v63, v64, v65, v66, v67, v68, v69, v70, v71, v72, v73, v74, v75, v76, v77, v78, v79, v80, v81, v82, v83, v84, v85, v86, v87, v88, v89, v90, X 0, X 1, X 2, X 3, X 4, X 5, X 6, X 7, X 8, X 9, X 10, v102, v103, v104, v105, v106, v107, v108, v109, v110, v111, v112, v113, v114, v115, v116, v117, v118, v119, v120, v121, v122, v123, v124, v125, v126, v127, v128, v129, v130, v131, v132, v133, v134, v135, v136, v137, v138, v139, v140, v141, v142, v143, v144, v145, v146, v147, v148, v149, v150, v151, v152, v153, v154, v155, v156, v157, v158, v159, v160, v161, v162, v163, v164, v165, v166, v167, v168, v169, v170, v171, v172, v173, v174, v175, v176, v177], []⟩ := by kernel_rfl
noncomputable def reg39 : Array Oper := ((Tryd.f4.body.bind (findR 39)).getD #[])
theorem okR39 : okR reg39 178 = true := by kernel_rfl
def V39 (M : List Nat) (n kk g b bA bB cA cB q : Nat) : Nat → Value → World → Prop
  | 0, v, _ => v = .slice (some ⟨bA, 0, none⟩) n cA
  | 1, v, _ => v = .int .i64 (kk : Int)
  | 2, v, _ => v = .pointer (some ⟨bA, kk, none⟩)
  | 3, v, _ => v = .pointer (some ⟨g, 0, none⟩)
  | 4, v, _ => v = .agg (bs M)
  | 5, v, _ => v = .slice (some ⟨bB, 0, none⟩) n cB
  | 6, v, _ => v = .int .i64 (kk : Int)
  | 7, v, _ => v = .pointer (some ⟨bB, kk, none⟩)
  | 8, v, _ => v = .pointer (some ⟨b, 0, none⟩)
  | 9, v, _ => v = .agg (bs M)
  | 10, v, _ => v = .bool false
  | 11, v, _ => v = .bool false
  | 12, v, _ => v = .slice (some ⟨bA, 0, none⟩) n cA
  | 13, v, _ => v = .int .i64 (kk : Int)
  | 14, v, _ => v = .pointer (some ⟨bA, kk, none⟩)
  | 15, v, _ => v = .pointer (some ⟨g, 0, none⟩)
  | 16, v, _ => v = .int .i64 (q : Int)
  | 17, v, _ => v = .slice (some ⟨bB, 0, none⟩) n cB
  | 18, v, _ => v = .int .i64 (kk : Int)
  | 19, v, _ => v = .pointer (some ⟨bB, kk, none⟩)
  | 20, v, _ => v = .pointer (some ⟨b, 0, none⟩)
  | 21, v, _ => v = .int .i64 (q : Int)
  | 22, v, _ => v = .bool false
  | 23, v, _ => v = .bool false
  | _, _, _ => True
theorem V39_stab (M : List Nat) (n kk g b bA bB cA cB q : Nat) : ∀ j u w w', V39 M n kk g b bA bB cA cB q j u w → Below w.heap.size w w' → V39 M n kk g b bA bB cA cB q j u w'
  | 0, _, _, _, h, _ => h
  | 1, _, _, _, h, _ => h
  | 2, _, _, _, h, _ => h
  | 3, _, _, _, h, _ => h
  | 4, _, _, _, h, _ => h
  | 5, _, _, _, h, _ => h
  | 6, _, _, _, h, _ => h
  | 7, _, _, _, h, _ => h
  | 8, _, _, _, h, _ => h
  | 9, _, _, _, h, _ => h
  | 10, _, _, _, h, _ => h
  | 11, _, _, _, h, _ => h
  | 12, _, _, _, h, _ => h
  | 13, _, _, _, h, _ => h
  | 14, _, _, _, h, _ => h
  | 15, _, _, _, h, _ => h
  | 16, _, _, _, h, _ => h
  | 17, _, _, _, h, _ => h
  | 18, _, _, _, h, _ => h
  | 19, _, _, _, h, _ => h
  | 20, _, _, _, h, _ => h
  | 21, _, _, _, h, _ => h
  | 22, _, _, _, h, _ => h
  | 23, _, _, _, h, _ => h
  | _ + 24, _, _, _, _, _ => trivial
set_option maxHeartbeats 1000000 in
theorem step39 (a0 : Act) (M : List Nat) (n kk g b bA bB cA cB q : Nat) (S : World → Prop) (Q : Exit → Act → World → Prop) (h3 : a0.tmps[3]? = some (.slice (some ⟨bA, 0, none⟩) n cA)) (h4 : a0.tmps[4]? = some (.slice (some ⟨bB, 0, none⟩) n cB)) (h11 : a0.tmps[11]? = some (.int .i64 (kk : Int)))
    (hk0 : (0 : Int) ≤ (kk : Int)) (hk1 : (kk : Int) < (n : Int)) (hSb : ∀ W W', S W → Below W.heap.size W W' → S W') (hcA : ∀ W, S W → W.cell? ⟨bA, kk, none⟩ = some (.pointer (some ⟨g, 0, none⟩))) (hcB : ∀ W, S W → W.cell? ⟨bB, kk, none⟩ = some (.pointer (some ⟨b, 0, none⟩))) (hqM : ∀ W, (Op.equalIn 10000 25 (.agg (bs M)) (.agg (bs M))).run Tryd.prog W = .ok true W)
    (hc14 : ∀ W, S W → Calls Tryd.prog 14 #[.pointer (some ⟨g, 0, none⟩)] W fun e w' => e = .returned (.agg (bs M)) ∧ Below W.heap.size W w') (hc15 : ∀ W, S W → Calls Tryd.prog 15 #[.pointer (some ⟨b, 0, none⟩)] W fun e w' => e = .returned (.agg (bs M)) ∧ Below W.heap.size W w')
    (hc16 : ∀ W, S W → Calls Tryd.prog 16 #[.pointer (some ⟨g, 0, none⟩)] W fun e w' => e = .returned (.int .i64 (q : Int)) ∧ w' = W) (hc17 : ∀ W, S W → Calls Tryd.prog 17 #[.pointer (some ⟨b, 0, none⟩)] W fun e w' => e = .returned (.int .i64 (q : Int)) ∧ w' = W)
    (i : Nat) (o : Oper) (a : Act) (w : World) (listed : Array Bool) (ho : reg39[i]? = some o) (hF : RFv reg39 a0 (V39 M n kk g b bA bB cA cB q) listed a w) (hS : (S) w) (hdep : ∀ e ∈ o.after, Region.binds .any e = true → listed.getD e.on false = true) :
      if Region.wanted o (yielded reg39 a.tmps) = true then Oper.wp Tryd.prog o a w (fun a' w' => ∃ v, a' = a.put o.dst v ∧ V39 M n kk g b bA bB cA cB q i v w' ∧ (S) w' ∧ (fun u u' => Below u.heap.size u u') w w') Q else V39 M n kk g b bA bB cA cB q i undef w := by
  match i, ho with
  | 0, ho =>
    rw [if_pos (want_none (fact ho (by kernel_rfl)))]
    have hop : o.op = .move (.tmp 3) := fact ho (by kernel_rfl)
    have hds : o.dst = some 154 := fact ho (by kernel_rfl)
    have t3 := tv_old hF 3 _ h3 (by kernel_rfl)
    refine wp_of_K (fun K hK => ?_)
    rw [hds] at hK
    unfold Oper.wp
    simp [execOp, hop, hds, t3, go_sem]
    exact hK _ _ ⟨rfl, hS, Below.refl _ _⟩
  | 1, ho =>
    rw [if_pos (want_none (fact ho (by kernel_rfl)))]
    have hop : o.op = .move (.tmp 11) := fact ho (by kernel_rfl)
    have hds : o.dst = some 155 := fact ho (by kernel_rfl)
    have t11 := tv_old hF 11 _ h11 (by kernel_rfl)
    refine wp_of_K (fun K hK => ?_)
    rw [hds] at hK
    unfold Oper.wp
    simp [execOp, hop, hds, t11, go_sem]
    exact hK _ _ ⟨rfl, hS, Below.refl _ _⟩
  | 2, ho =>
    rw [if_pos (want_none (fact ho (by kernel_rfl)))]
    have hop : o.op = .indexAddr 32 (.tmp 154) (.tmp 155) := fact ho (by kernel_rfl)
    have hds : o.dst = some 156 := fact ho (by kernel_rfl)
    have t154 := tv_eq hF 0 154 (.slice (some ⟨bA, 0, none⟩) n cA) (by kernel_rfl) (dep_of ho hdep 0 (by kernel_rfl)) (fun v h => h)
    have t155 := tv_eq hF 1 155 (.int .i64 (kk : Int)) (by kernel_rfl) (dep_of ho hdep 1 (by kernel_rfl)) (fun v h => h)
    refine wp_of_K (fun K hK => ?_)
    rw [hds] at hK
    unfold Oper.wp
    simp [execOp, hop, hds, t154, t155, hk0, hk1, go_sem]
    exact hK _ _ ⟨rfl, hS, Below.refl _ _⟩
  | 3, ho =>
    rw [if_pos (want_none (fact ho (by kernel_rfl)))]
    have hop : o.op = .load 30 (.tmp 156) := fact ho (by kernel_rfl)
    have hds : o.dst = some 157 := fact ho (by kernel_rfl)
    have t156 := tv_eq hF 2 156 (.pointer (some ⟨bA, kk, none⟩)) (by kernel_rfl) (dep_of ho hdep 2 (by kernel_rfl)) (fun v h => h)
    refine wp_of_K (fun K hK => ?_)
    rw [hds] at hK
    unfold Oper.wp
    simp [execOp, hop, hds, t156, hcA w hS, go_sem]
    exact hK _ _ ⟨rfl, hS, Below.refl _ _⟩
  | 4, ho =>
    rw [if_pos (want_none (fact ho (by kernel_rfl)))]
    have hop : o.op = .call { callee := .value (.func 14), args := #[.tmp 157], argTypes := #[30] } := fact ho (by kernel_rfl)
    have hds : o.dst = some 158 := fact ho (by kernel_rfl)
    have t157 := tv_eq hF 3 157 (.pointer (some ⟨g, 0, none⟩)) (by kernel_rfl) (dep_of ho hdep 3 (by kernel_rfl)) (fun v h => h)
    refine wp_of_K (fun K hK => ?_)
    rw [hds] at hK
    unfold Oper.wp
    simp [execOp, hop, hds, t157, go_sem]
    refine (hc14 w hS).mono ?_
    rintro e w' ⟨rfl, hb'⟩
    exact hK _ _ ⟨rfl, hSb w w' hS hb', hb'⟩
  | 5, ho =>
    rw [if_pos (want_none (fact ho (by kernel_rfl)))]
    have hop : o.op = .move (.tmp 4) := fact ho (by kernel_rfl)
    have hds : o.dst = some 159 := fact ho (by kernel_rfl)
    have t4 := tv_old hF 4 _ h4 (by kernel_rfl)
    refine wp_of_K (fun K hK => ?_)
    rw [hds] at hK
    unfold Oper.wp
    simp [execOp, hop, hds, t4, go_sem]
    exact hK _ _ ⟨rfl, hS, Below.refl _ _⟩
  | 6, ho =>
    rw [if_pos (want_none (fact ho (by kernel_rfl)))]
    have hop : o.op = .move (.tmp 11) := fact ho (by kernel_rfl)
    have hds : o.dst = some 160 := fact ho (by kernel_rfl)
    have t11 := tv_old hF 11 _ h11 (by kernel_rfl)
    refine wp_of_K (fun K hK => ?_)
    rw [hds] at hK
    unfold Oper.wp
    simp [execOp, hop, hds, t11, go_sem]
    exact hK _ _ ⟨rfl, hS, Below.refl _ _⟩
  | 7, ho =>
    rw [if_pos (want_none (fact ho (by kernel_rfl)))]
    have hop : o.op = .indexAddr 35 (.tmp 159) (.tmp 160) := fact ho (by kernel_rfl)
    have hds : o.dst = some 161 := fact ho (by kernel_rfl)
    have t159 := tv_eq hF 5 159 (.slice (some ⟨bB, 0, none⟩) n cB) (by kernel_rfl) (dep_of ho hdep 5 (by kernel_rfl)) (fun v h => h)
    have t160 := tv_eq hF 6 160 (.int .i64 (kk : Int)) (by kernel_rfl) (dep_of ho hdep 6 (by kernel_rfl)) (fun v h => h)
    refine wp_of_K (fun K hK => ?_)
    rw [hds] at hK
    unfold Oper.wp
    simp [execOp, hop, hds, t159, t160, hk0, hk1, go_sem]
    exact hK _ _ ⟨rfl, hS, Below.refl _ _⟩
  | 8, ho =>
    rw [if_pos (want_none (fact ho (by kernel_rfl)))]
    have hop : o.op = .load 33 (.tmp 161) := fact ho (by kernel_rfl)
    have hds : o.dst = some 162 := fact ho (by kernel_rfl)
    have t161 := tv_eq hF 7 161 (.pointer (some ⟨bB, kk, none⟩)) (by kernel_rfl) (dep_of ho hdep 7 (by kernel_rfl)) (fun v h => h)
    refine wp_of_K (fun K hK => ?_)
    rw [hds] at hK
    unfold Oper.wp
    simp [execOp, hop, hds, t161, hcB w hS, go_sem]
    exact hK _ _ ⟨rfl, hS, Below.refl _ _⟩
  | 9, ho =>
    rw [if_pos (want_none (fact ho (by kernel_rfl)))]
    have hop : o.op = .call { callee := .value (.func 15), args := #[.tmp 162], argTypes := #[33] } := fact ho (by kernel_rfl)
    have hds : o.dst = some 163 := fact ho (by kernel_rfl)
    have t162 := tv_eq hF 8 162 (.pointer (some ⟨b, 0, none⟩)) (by kernel_rfl) (dep_of ho hdep 8 (by kernel_rfl)) (fun v h => h)
    refine wp_of_K (fun K hK => ?_)
    rw [hds] at hK
    unfold Oper.wp
    simp [execOp, hop, hds, t162, go_sem]
    refine (hc15 w hS).mono ?_
    rintro e w' ⟨rfl, hb'⟩
    exact hK _ _ ⟨rfl, hSb w w' hS hb', hb'⟩
  | 10, ho =>
    rw [if_pos (want_none (fact ho (by kernel_rfl)))]
    have hop : o.op = .binOp .neq 25 (.tmp 158) (.tmp 163) 25 := fact ho (by kernel_rfl)
    have hds : o.dst = some 164 := fact ho (by kernel_rfl)
    have t158 := tv_eq hF 4 158 (.agg (bs M)) (by kernel_rfl) (dep_of ho hdep 4 (by kernel_rfl)) (fun v h => h)
    have t163 := tv_eq hF 9 163 (.agg (bs M)) (by kernel_rfl) (dep_of ho hdep 9 (by kernel_rfl)) (fun v h => h)
    refine wp_of_K (fun K hK => ?_)
    rw [hds] at hK
    unfold Oper.wp
    simp [execOp, hop, hds, t158, t163, hqM w, go_sem]
    exact hK _ _ ⟨rfl, hS, Below.refl _ _⟩
  | 11, ho =>
    rw [if_pos (want_none (fact ho (by kernel_rfl)))]
    have hop : o.op = .move (.tmp 164) := fact ho (by kernel_rfl)
    have hds : o.dst = some 165 := fact ho (by kernel_rfl)
    have t164 := tv_eq hF 10 164 (.bool false) (by kernel_rfl) (dep_of ho hdep 10 (by kernel_rfl)) (fun v h => h)
    refine wp_of_K (fun K hK => ?_)
    rw [hds] at hK
    unfold Oper.wp
    simp [execOp, hop, hds, t164, go_sem]
    exact hK _ _ ⟨rfl, hS, Below.refl _ _⟩
  | 12, ho =>
    have hy := yv_dep hF 11 165 false (by kernel_rfl) (dep_of ho hdep 11 (by kernel_rfl)) (fun v h => h)
    have hgd : o.guard = some (11, false) := fact ho (by kernel_rfl)
    rw [if_pos (by rw [want_some hgd hy]; rfl)]
    have hop : o.op = .move (.tmp 3) := fact ho (by kernel_rfl)
    have hds : o.dst = some 166 := fact ho (by kernel_rfl)
    have t3 := tv_old hF 3 _ h3 (by kernel_rfl)
    refine wp_of_K (fun K hK => ?_)
    rw [hds] at hK
    unfold Oper.wp
    simp [execOp, hop, hds, t3, go_sem]
    exact hK _ _ ⟨rfl, hS, Below.refl _ _⟩
  | 13, ho =>
    have hy := yv_dep hF 11 165 false (by kernel_rfl) (dep_of ho hdep 11 (by kernel_rfl)) (fun v h => h)
    have hgd : o.guard = some (11, false) := fact ho (by kernel_rfl)
    rw [if_pos (by rw [want_some hgd hy]; rfl)]
    have hop : o.op = .move (.tmp 11) := fact ho (by kernel_rfl)
    have hds : o.dst = some 167 := fact ho (by kernel_rfl)
    have t11 := tv_old hF 11 _ h11 (by kernel_rfl)
    refine wp_of_K (fun K hK => ?_)
    rw [hds] at hK
    unfold Oper.wp
    simp [execOp, hop, hds, t11, go_sem]
    exact hK _ _ ⟨rfl, hS, Below.refl _ _⟩
  | 14, ho =>
    have hy := yv_dep hF 11 165 false (by kernel_rfl) (dep_of ho hdep 11 (by kernel_rfl)) (fun v h => h)
    have hgd : o.guard = some (11, false) := fact ho (by kernel_rfl)
    rw [if_pos (by rw [want_some hgd hy]; rfl)]
    have hop : o.op = .indexAddr 32 (.tmp 166) (.tmp 167) := fact ho (by kernel_rfl)
    have hds : o.dst = some 168 := fact ho (by kernel_rfl)
    have t166 := tv_eq hF 12 166 (.slice (some ⟨bA, 0, none⟩) n cA) (by kernel_rfl) (dep_of ho hdep 12 (by kernel_rfl)) (fun v h => h)
    have t167 := tv_eq hF 13 167 (.int .i64 (kk : Int)) (by kernel_rfl) (dep_of ho hdep 13 (by kernel_rfl)) (fun v h => h)
    refine wp_of_K (fun K hK => ?_)
    rw [hds] at hK
    unfold Oper.wp
    simp [execOp, hop, hds, t166, t167, hk0, hk1, go_sem]
    exact hK _ _ ⟨rfl, hS, Below.refl _ _⟩
  | 15, ho =>
    have hy := yv_dep hF 11 165 false (by kernel_rfl) (dep_of ho hdep 11 (by kernel_rfl)) (fun v h => h)
    have hgd : o.guard = some (11, false) := fact ho (by kernel_rfl)
    rw [if_pos (by rw [want_some hgd hy]; rfl)]
    have hop : o.op = .load 30 (.tmp 168) := fact ho (by kernel_rfl)
    have hds : o.dst = some 169 := fact ho (by kernel_rfl)
    have t168 := tv_eq hF 14 168 (.pointer (some ⟨bA, kk, none⟩)) (by kernel_rfl) (dep_of ho hdep 14 (by kernel_rfl)) (fun v h => h)
    refine wp_of_K (fun K hK => ?_)
    rw [hds] at hK
    unfold Oper.wp
    simp [execOp, hop, hds, t168, hcA w hS, go_sem]
    exact hK _ _ ⟨rfl, hS, Below.refl _ _⟩
  | 16, ho =>
    have hy := yv_dep hF 11 165 false (by kernel_rfl) (dep_of ho hdep 11 (by kernel_rfl)) (fun v h => h)
    have hgd : o.guard = some (11, false) := fact ho (by kernel_rfl)
    rw [if_pos (by rw [want_some hgd hy]; rfl)]
    have hop : o.op = .call { callee := .value (.func 16), args := #[.tmp 169], argTypes := #[30] } := fact ho (by kernel_rfl)
    have hds : o.dst = some 170 := fact ho (by kernel_rfl)
    have t169 := tv_eq hF 15 169 (.pointer (some ⟨g, 0, none⟩)) (by kernel_rfl) (dep_of ho hdep 15 (by kernel_rfl)) (fun v h => h)
    refine wp_of_K (fun K hK => ?_)
    rw [hds] at hK
    unfold Oper.wp
    simp [execOp, hop, hds, t169, go_sem]
    refine (hc16 w hS).mono ?_
    rintro e w' ⟨rfl, rfl⟩
    exact hK _ _ ⟨rfl, hS, Below.refl _ _⟩
  | 17, ho =>
    have hy := yv_dep hF 11 165 false (by kernel_rfl) (dep_of ho hdep 11 (by kernel_rfl)) (fun v h => h)
    have hgd : o.guard = some (11, false) := fact ho (by kernel_rfl)
    rw [if_pos (by rw [want_some hgd hy]; rfl)]
    have hop : o.op = .move (.tmp 4) := fact ho (by kernel_rfl)
    have hds : o.dst = some 171 := fact ho (by kernel_rfl)
    have t4 := tv_old hF 4 _ h4 (by kernel_rfl)
    refine wp_of_K (fun K hK => ?_)
    rw [hds] at hK
    unfold Oper.wp
    simp [execOp, hop, hds, t4, go_sem]
    exact hK _ _ ⟨rfl, hS, Below.refl _ _⟩
  | 18, ho =>
    have hy := yv_dep hF 11 165 false (by kernel_rfl) (dep_of ho hdep 11 (by kernel_rfl)) (fun v h => h)
    have hgd : o.guard = some (11, false) := fact ho (by kernel_rfl)
    rw [if_pos (by rw [want_some hgd hy]; rfl)]
    have hop : o.op = .move (.tmp 11) := fact ho (by kernel_rfl)
    have hds : o.dst = some 172 := fact ho (by kernel_rfl)
    have t11 := tv_old hF 11 _ h11 (by kernel_rfl)
    refine wp_of_K (fun K hK => ?_)
    rw [hds] at hK
    unfold Oper.wp
    simp [execOp, hop, hds, t11, go_sem]
    exact hK _ _ ⟨rfl, hS, Below.refl _ _⟩
  | 19, ho =>
    have hy := yv_dep hF 11 165 false (by kernel_rfl) (dep_of ho hdep 11 (by kernel_rfl)) (fun v h => h)
    have hgd : o.guard = some (11, false) := fact ho (by kernel_rfl)
    rw [if_pos (by rw [want_some hgd hy]; rfl)]
    have hop : o.op = .indexAddr 35 (.tmp 171) (.tmp 172) := fact ho (by kernel_rfl)
    have hds : o.dst = some 173 := fact ho (by kernel_rfl)
    have t171 := tv_eq hF 17 171 (.slice (some ⟨bB, 0, none⟩) n cB) (by kernel_rfl) (dep_of ho hdep 17 (by kernel_rfl)) (fun v h => h)
    have t172 := tv_eq hF 18 172 (.int .i64 (kk : Int)) (by kernel_rfl) (dep_of ho hdep 18 (by kernel_rfl)) (fun v h => h)
    refine wp_of_K (fun K hK => ?_)
    rw [hds] at hK
    unfold Oper.wp
    simp [execOp, hop, hds, t171, t172, hk0, hk1, go_sem]
    exact hK _ _ ⟨rfl, hS, Below.refl _ _⟩
  | 20, ho =>
    have hy := yv_dep hF 11 165 false (by kernel_rfl) (dep_of ho hdep 11 (by kernel_rfl)) (fun v h => h)
    have hgd : o.guard = some (11, false) := fact ho (by kernel_rfl)
    rw [if_pos (by rw [want_some hgd hy]; rfl)]
    have hop : o.op = .load 33 (.tmp 173) := fact ho (by kernel_rfl)
    have hds : o.dst = some 174 := fact ho (by kernel_rfl)
    have t173 := tv_eq hF 19 173 (.pointer (some ⟨bB, kk, none⟩)) (by kernel_rfl) (dep_of ho hdep 19 (by kernel_rfl)) (fun v h => h)
    refine wp_of_K (fun K hK => ?_)
    rw [hds] at hK
    unfold Oper.wp
    simp [execOp, hop, hds, t173, hcB w hS, go_sem]
    exact hK _ _ ⟨rfl, hS, Below.refl _ _⟩
  | 21, ho =>
    have hy := yv_dep hF 11 165 false (by kernel_rfl) (dep_of ho hdep 11 (by kernel_rfl)) (fun v h => h)
    have hgd : o.guard = some (11, false) := fact ho (by kernel_rfl)
    rw [if_pos (by rw [want_some hgd hy]; rfl)]
    have hop : o.op = .call { callee := .value (.func 17), args := #[.tmp 174], argTypes := #[33] } := fact ho (by kernel_rfl)
    have hds : o.dst = some 175 := fact ho (by kernel_rfl)
    have t174 := tv_eq hF 20 174 (.pointer (some ⟨b, 0, none⟩)) (by kernel_rfl) (dep_of ho hdep 20 (by kernel_rfl)) (fun v h => h)
    refine wp_of_K (fun K hK => ?_)
    rw [hds] at hK
    unfold Oper.wp
    simp [execOp, hop, hds, t174, go_sem]
    refine (hc17 w hS).mono ?_
    rintro e w' ⟨rfl, rfl⟩
    exact hK _ _ ⟨rfl, hS, Below.refl _ _⟩
  | 22, ho =>
    have hy := yv_dep hF 11 165 false (by kernel_rfl) (dep_of ho hdep 11 (by kernel_rfl)) (fun v h => h)
    have hgd : o.guard = some (11, false) := fact ho (by kernel_rfl)
    rw [if_pos (by rw [want_some hgd hy]; rfl)]
    have hop : o.op = .binOp .neq 3 (.tmp 170) (.tmp 175) 3 := fact ho (by kernel_rfl)
    have hds : o.dst = some 176 := fact ho (by kernel_rfl)
    have t170 := tv_eq hF 16 170 (.int .i64 (q : Int)) (by kernel_rfl) (dep_of ho hdep 16 (by kernel_rfl)) (fun v h => h)
    have t175 := tv_eq hF 21 175 (.int .i64 (q : Int)) (by kernel_rfl) (dep_of ho hdep 21 (by kernel_rfl)) (fun v h => h)
    refine wp_of_K (fun K hK => ?_)
    rw [hds] at hK
    unfold Oper.wp
    simp [execOp, hop, hds, t170, t175, go_sem]
    exact hK _ _ ⟨rfl, hS, Below.refl _ _⟩
  | 23, ho =>
    rw [if_pos (want_none (fact ho (by kernel_rfl)))]
    have hop : o.op = .pick (.tmp 165) (.const (.bool true)) (.tmp 176) := fact ho (by kernel_rfl)
    have hds : o.dst = some 177 := fact ho (by kernel_rfl)
    have t165 := tv_eq hF 11 165 (.bool false) (by kernel_rfl) (dep_of ho hdep 11 (by kernel_rfl)) (fun v h => h)
    have t176 := tv_eq hF 22 176 (.bool false) (by kernel_rfl) (dep_of ho hdep 22 (by kernel_rfl)) (fun v h => h)
    refine wp_of_K (fun K hK => ?_)
    rw [hds] at hK
    unfold Oper.wp
    simp [execOp, hop, hds, t165, t176, go_sem]
    exact hK _ _ ⟨rfl, hS, Below.refl _ _⟩
  | n + 24, ho =>
    exfalso
    have h1 : n + 24 < reg39.size := (Array.getElem?_eq_some_iff.1 ho).1
    rw [show reg39.size = 24 from by kernel_rfl] at h1
    omega
set_option maxRecDepth 100000 in
theorem put39 (X : Nat → Value) (v0 v1 v2 v3 v4 v5 v6 v7 v8 v9 v10 v11 v12 v13 v14 v15 v16 v17 v18 v19 v20 v21 v22 v23 v24 v25 v26 v27 v28 v29 v30 v31 v32 v33 v34 v35 v36 v37 v38 v39 v40 v41 v42 v43 v44 v45 v46 v47 v48 v49 v50 v51 v52 v53 v54 v55 v56 v57 v58 v59 v60 v61 v62 v63 v64 v65 v66 v67 v68 v69 v70 v71 v72 v73 v74 v75 v76 v77 v78 v79 v80 v81 v82 v83 v84 v85 v86 v87 v88 v89 v90 v91 v92 v93 v94 v95 v96 v97 v98 v99 v100 v101 v102 v103 v104 v105 v106 v107 v108 v109 v110 v111 v112 v113 v114 v115 v116 v117 v118 v119 v120 v121 v122 v123 v124 v125 v126 v127 v128 v129 v130 v131 v132 v133 v134 v135 v136 v137 v138 v139 v140 v141 v142 v143 v144 v145 v146 v147 v148 v149 v150 v151 v152 v153 v154 v155 v156 v157 v158 v159 v160 v161 v162 v163 v164 v165 v166 v167 v168 v169 v170 v171 v172 v173 v174 v175 v176 v177 : Value) : putN reg39 X ⟨#[v0, v1, v2, v3, v4, v5, v6, v7, v8, v9, v10, v11, v12, v13, v14, v15, v16, v17, v18, v19, v20, v21, v22, v23, v24, v25, v26, v27, v28, v29, v30, v31, v32, v33, v34, v35, v36, v37, v38, v39, v40, v41, v42, v43, v44, v45, v46, v47, v48, v49, v50, v51, v52, v53, v54, v55, v56, v57, v58, v59, v60, v61, v62, v63, v64, v65, v66, v67, v68, v69, v70, v71, v72, v73, v74, v75, v76, v77, v78, v79, v80, v81, v82, v83, v84, v85, v86, v87, v88, v89, v90, v91, v92, v93, v94, v95, v96, v97, v98, v99, v100, v101, v102, v103, v104, v105, v106, v107, v108, v109, v110, v111, v112, v113, v114, v115, v116, v117, v118, v119, v120, v121, v122, v123, v124, v125, v126, v127, v128, v129, v130, v131, v132, v133, v134, v135, v136, v137, v138, v139, v140, v141, v142, v143, v144, v145, v146, v147, v148, v149, v150, v151, v152, v153, v154, v155, v156, v157, v158, v159, v160, v161, v162, v163, v164, v165, v166, v167, v168, v169, v170, v171, v172, v173, v174, v175, v176, v177], []⟩ reg39.size = ⟨#[v0, v1, v2, v3, v4, v5, v6, v7, v8, v9, v10, v11, v12, v13, v14, v15, v16, v17, v18, v19, v20, v21, v22, v23, v24, v25, v26, v27, v28, v29, v30, v31, v32, v33, v34, v35, v36, v37, v38, v39, v40, v41, v42, v43, v44, v45, v46, v47, v48, v49, v50, v51, v52, v53, v54, v55, v56, v57, v58, v59, v60, v61, v62, v63, v64, v65, v66, v67, v68, v69, v70, v71, v72, v73, v74, v75, v76, v77, v78, v79, v80, v81, v82, v83, v84, v85, v86, v87, v88, v89, v90, v91, v92, v93, v94, v95, v96, v97, v98, v99, v100, v101, v102, v103, v104, v105, v106, v107, v108, v109, v110, v111, v112, v113, v114, v115, v116, v117, v118, v119, v120, v121, v122, v123, v124, v125, v126, v127, v128, v129, v130, v131, v132, v133, v134, v135, v136, v137, v138, v139, v140, v141, v142, v143, v144, v145, v146, v147, v148, v149, v150, v151, v152, v153, X 0, X 1, X 2, X 3, X 4, X 5, X 6, X 7, X 8, X 9, X 10, X 11, X 12, X 13, X 14, X 15, X 16, X 17, X 18, X 19, X 20, X 21, X 22, X 23], []⟩ := by kernel_rfl
end Go.Proofs.YtkppejaigodgiacDoor.Hash
