/- DigestMacs: the operations of its region 4. -/
import Derived.Test.YtkppejaigodgiacDoorMacR
import Derived.Test.YtkppejaigodgiacDoorRel
namespace Go.Proofs.YtkppejaigodgiacDoor.Macs
open Go.RowKit Go.Proofs.YtkppejaigodgiacDoor.Sha
theorem wp_of_K {P : Program} {o : Oper} {a : Act} {w : World} {Q : Exit → Act → World → Prop} {Z : Value → World → Prop} (h : ∀ K : Act → World → Prop, (∀ v w', Z v w' → K (a.put o.dst v) w') → Oper.wp P o a w K Q) : Oper.wp P o a w (fun a' w' => ∃ v, a' = a.put o.dst v ∧ Z v w') Q := h _ (fun v _ hz => ⟨v, rfl, hz⟩)
noncomputable def reg4 : Array Oper := ((Tryd.f3.body.bind (findR 4)).getD #[])
theorem okR4 : okR reg4 85 = true := by kernel_rfl
def V4 (key d M : List Nat) (kv dv av bv : Value) : Nat → Value → World → Prop
  | 0, v, _ => v = .agg (bs M)
  | 1, v, _ => v = kv
  | 2, v, _ => v = dv
  | 3, v, _ => v = .agg (bs M)
  | 4, v, _ => v = .bool false
  | 5, v, _ => v = .bool false
  | 6, v, _ => v = av
  | 7, v, _ => v = kv
  | 8, v, w => YtkppejaigodgiacDoor.Byl v (key ++ marks) w
  | 9, v, _ => v = .bool true
  | 10, v, _ => v = .bool false
  | 11, v, _ => v = .bool false
  | 12, v, _ => v = .bool false
  | 13, v, _ => v = bv
  | 14, v, _ => v = dv
  | 15, v, w => YtkppejaigodgiacDoor.Byl v (d ++ marks) w
  | 16, v, _ => v = .bool true
  | 17, v, _ => v = .bool false
  | 18, v, _ => v = .bool false
  | _, _, _ => True
theorem V4_stab (key d M : List Nat) (kv dv av bv : Value) : ∀ j u w w', V4 key d M kv dv av bv j u w → Below w.heap.size w w' → V4 key d M kv dv av bv j u w'
  | 0, _, _, _, h, _ => h
  | 1, _, _, _, h, _ => h
  | 2, _, _, _, h, _ => h
  | 3, _, _, _, h, _ => h
  | 4, _, _, _, h, _ => h
  | 5, _, _, _, h, _ => h
  | 6, _, _, _, h, _ => h
  | 7, _, _, _, h, _ => h
  | 8, _, _, _, h, hb => YtkppejaigodgiacDoor.Byl.below h hb
  | 9, _, _, _, h, _ => h
  | 10, _, _, _, h, _ => h
  | 11, _, _, _, h, _ => h
  | 12, _, _, _, h, _ => h
  | 13, _, _, _, h, _ => h
  | 14, _, _, _, h, _ => h
  | 15, _, _, _, h, hb => YtkppejaigodgiacDoor.Byl.below h hb
  | 16, _, _, _, h, _ => h
  | 17, _, _, _, h, _ => h
  | 18, _, _, _, h, _ => h
  | _ + 19, _, _, _, _, _ => trivial
set_option maxHeartbeats 1000000 in
theorem step4 (a0 : Act) (key d M : List Nat) (kv dv av bv : Value) (S : World → Prop) (A : Nat) (Q : Exit → Act → World → Prop) (h0 : a0.tmps[0]? = some (kv)) (h1 : a0.tmps[1]? = some (dv)) (h5 : a0.tmps[5]? = some (av)) (h6 : a0.tmps[6]? = some (bv)) (h7 : a0.tmps[7]? = some (.pointer (some ⟨A, 0, none⟩)))
    (hSb : ∀ W W', S W → Below W.heap.size W W' → S W') (hld : ∀ W, S W → (Instr.loadAt 25 (.pointer (some ⟨A, 0, none⟩))).run Tryd.prog W = .ok (.agg (bs M)) W) (hqM : ∀ W, (Op.equalIn 10000 25 (.agg (bs M)) (.agg (bs M))).run Tryd.prog W = .ok true W)
    (hc7 : ∀ W, S W → Calls Tryd.prog 7 #[kv, dv] W fun e w' => e = .returned (.agg (bs M)) ∧ Below W.heap.size W w')
    (hk5 : ∀ W, S W → Calls Tryd.prog 5 #[kv] W fun e w' => ∃ x, e = .returned x ∧ Below W.heap.size W w' ∧ YtkppejaigodgiacDoor.Byl x (key ++ marks) w')
    (hd5 : ∀ W, S W → Calls Tryd.prog 5 #[dv] W fun e w' => ∃ x, e = .returned x ∧ Below W.heap.size W w' ∧ YtkppejaigodgiacDoor.Byl x (d ++ marks) w')
    (hk8 : ∀ W x, S W → YtkppejaigodgiacDoor.Byl x (key ++ marks) W → Calls Tryd.prog 8 #[av, x] W fun e w' => e = .returned (.bool true) ∧ Below W.heap.size W w')
    (hd8 : ∀ W x, S W → YtkppejaigodgiacDoor.Byl x (d ++ marks) W → Calls Tryd.prog 8 #[bv, x] W fun e w' => e = .returned (.bool true) ∧ Below W.heap.size W w')
    (i : Nat) (o : Oper) (a : Act) (w : World) (listed : Array Bool) (ho : reg4[i]? = some o) (hF : RFv reg4 a0 (V4 key d M kv dv av bv) listed a w) (hS : (S) w) (hdep : ∀ e ∈ o.after, Region.binds .any e = true → listed.getD e.on false = true) :
      if Region.wanted o (yielded reg4 a.tmps) = true then Oper.wp Tryd.prog o a w (fun a' w' => ∃ v, a' = a.put o.dst v ∧ V4 key d M kv dv av bv i v w' ∧ (S) w' ∧ (fun u u' => Below u.heap.size u u') w w') Q else V4 key d M kv dv av bv i undef w := by
  match i, ho with
  | 0, ho =>
    rw [if_pos (want_none (fact ho (by kernel_rfl)))]
    have hop : o.op = .load 25 (.tmp 7) := fact ho (by kernel_rfl)
    have hds : o.dst = some 21 := fact ho (by kernel_rfl)
    have t7 := tv_old hF 7 _ h7 (by kernel_rfl)
    refine wp_of_K (fun K hK => ?_)
    rw [hds] at hK
    unfold Oper.wp
    simp [execOp, hop, hds, Act.eval, t7, hld w hS, Oper.upon, Act.put]
    exact hK _ _ ⟨rfl, hS, Below.refl _ _⟩
  | 1, ho =>
    rw [if_pos (want_none (fact ho (by kernel_rfl)))]
    have hop : o.op = .move (.tmp 0) := fact ho (by kernel_rfl)
    have hds : o.dst = some 22 := fact ho (by kernel_rfl)
    have t0 := tv_old hF 0 _ h0 (by kernel_rfl)
    refine wp_of_K (fun K hK => ?_)
    rw [hds] at hK
    unfold Oper.wp
    simp [execOp, hop, hds, t0, go_sem]
    exact hK _ _ ⟨rfl, hS, Below.refl _ _⟩
  | 2, ho =>
    rw [if_pos (want_none (fact ho (by kernel_rfl)))]
    have hop : o.op = .move (.tmp 1) := fact ho (by kernel_rfl)
    have hds : o.dst = some 23 := fact ho (by kernel_rfl)
    have t1 := tv_old hF 1 _ h1 (by kernel_rfl)
    refine wp_of_K (fun K hK => ?_)
    rw [hds] at hK
    unfold Oper.wp
    simp [execOp, hop, hds, t1, go_sem]
    exact hK _ _ ⟨rfl, hS, Below.refl _ _⟩
  | 3, ho =>
    rw [if_pos (want_none (fact ho (by kernel_rfl)))]
    have hop : o.op = .call { callee := .value (.func 7), args := #[.tmp 22, .tmp 23], argTypes := #[22, 22] } := fact ho (by kernel_rfl)
    have hds : o.dst = some 24 := fact ho (by kernel_rfl)
    have t22 := tv_eq hF 1 22 (kv) (by kernel_rfl) (dep_of ho hdep 1 (by kernel_rfl)) (fun v h => h)
    have t23 := tv_eq hF 2 23 (dv) (by kernel_rfl) (dep_of ho hdep 2 (by kernel_rfl)) (fun v h => h)
    refine wp_of_K (fun K hK => ?_)
    rw [hds] at hK
    unfold Oper.wp
    simp [execOp, hop, hds, t22, t23, go_sem]
    refine (hc7 w hS).mono ?_
    rintro e w' ⟨rfl, hb'⟩
    exact hK _ _ ⟨rfl, hSb w w' hS hb', hb'⟩
  | 4, ho =>
    rw [if_pos (want_none (fact ho (by kernel_rfl)))]
    have hop : o.op = .binOp .neq 25 (.tmp 21) (.tmp 24) 25 := fact ho (by kernel_rfl)
    have hds : o.dst = some 25 := fact ho (by kernel_rfl)
    have t21 := tv_eq hF 0 21 (.agg (bs M)) (by kernel_rfl) (dep_of ho hdep 0 (by kernel_rfl)) (fun v h => h)
    have t24 := tv_eq hF 3 24 (.agg (bs M)) (by kernel_rfl) (dep_of ho hdep 3 (by kernel_rfl)) (fun v h => h)
    refine wp_of_K (fun K hK => ?_)
    rw [hds] at hK
    unfold Oper.wp
    simp [execOp, hop, hds, t21, t24, hqM w, go_sem]
    exact hK _ _ ⟨rfl, hS, Below.refl _ _⟩
  | 5, ho =>
    rw [if_pos (want_none (fact ho (by kernel_rfl)))]
    have hop : o.op = .move (.tmp 25) := fact ho (by kernel_rfl)
    have hds : o.dst = some 26 := fact ho (by kernel_rfl)
    have t25 := tv_eq hF 4 25 (.bool false) (by kernel_rfl) (dep_of ho hdep 4 (by kernel_rfl)) (fun v h => h)
    refine wp_of_K (fun K hK => ?_)
    rw [hds] at hK
    unfold Oper.wp
    simp [execOp, hop, hds, t25, go_sem]
    exact hK _ _ ⟨rfl, hS, Below.refl _ _⟩
  | 6, ho =>
    have hy := yv_dep hF 5 26 false (by kernel_rfl) (dep_of ho hdep 5 (by kernel_rfl)) (fun v h => h)
    have hgd : o.guard = some (5, false) := fact ho (by kernel_rfl)
    rw [if_pos (by rw [want_some hgd hy]; rfl)]
    have hop : o.op = .move (.tmp 5) := fact ho (by kernel_rfl)
    have hds : o.dst = some 27 := fact ho (by kernel_rfl)
    have t5 := tv_old hF 5 _ h5 (by kernel_rfl)
    refine wp_of_K (fun K hK => ?_)
    rw [hds] at hK
    unfold Oper.wp
    simp [execOp, hop, hds, t5, go_sem]
    exact hK _ _ ⟨rfl, hS, Below.refl _ _⟩
  | 7, ho =>
    have hy := yv_dep hF 5 26 false (by kernel_rfl) (dep_of ho hdep 5 (by kernel_rfl)) (fun v h => h)
    have hgd : o.guard = some (5, false) := fact ho (by kernel_rfl)
    rw [if_pos (by rw [want_some hgd hy]; rfl)]
    have hop : o.op = .move (.tmp 0) := fact ho (by kernel_rfl)
    have hds : o.dst = some 28 := fact ho (by kernel_rfl)
    have t0 := tv_old hF 0 _ h0 (by kernel_rfl)
    refine wp_of_K (fun K hK => ?_)
    rw [hds] at hK
    unfold Oper.wp
    simp [execOp, hop, hds, t0, go_sem]
    exact hK _ _ ⟨rfl, hS, Below.refl _ _⟩
  | 8, ho =>
    have hy := yv_dep hF 5 26 false (by kernel_rfl) (dep_of ho hdep 5 (by kernel_rfl)) (fun v h => h)
    have hgd : o.guard = some (5, false) := fact ho (by kernel_rfl)
    rw [if_pos (by rw [want_some hgd hy]; rfl)]
    have hop : o.op = .call { callee := .value (.func 5), args := #[.tmp 28], argTypes := #[22] } := fact ho (by kernel_rfl)
    have hds : o.dst = some 29 := fact ho (by kernel_rfl)
    have t28 := tv_eq hF 7 28 (kv) (by kernel_rfl) (dep_of ho hdep 7 (by kernel_rfl)) (fun v h => h)
    refine wp_of_K (fun K hK => ?_)
    rw [hds] at hK
    unfold Oper.wp
    simp [execOp, hop, hds, t28, go_sem]
    refine (hk5 w hS).mono ?_
    rintro e w' ⟨x, rfl, hb', hy'⟩
    exact hK _ _ ⟨hy', hSb w w' hS hb', hb'⟩
  | 9, ho =>
    have hy := yv_dep hF 5 26 false (by kernel_rfl) (dep_of ho hdep 5 (by kernel_rfl)) (fun v h => h)
    have hgd : o.guard = some (5, false) := fact ho (by kernel_rfl)
    rw [if_pos (by rw [want_some hgd hy]; rfl)]
    have hop : o.op = .call { callee := .value (.func 8), args := #[.tmp 27, .tmp 29], argTypes := #[22, 22] } := fact ho (by kernel_rfl)
    have hds : o.dst = some 30 := fact ho (by kernel_rfl)
    have t27 := tv_eq hF 6 27 (av) (by kernel_rfl) (dep_of ho hdep 6 (by kernel_rfl)) (fun v h => h)
    obtain ⟨x29, t29, y29⟩ := tv_dep hF 8 29 (by kernel_rfl) (dep_of ho hdep 8 (by kernel_rfl))
    refine wp_of_K (fun K hK => ?_)
    rw [hds] at hK
    unfold Oper.wp
    simp [execOp, hop, hds, t27, t29, go_sem]
    refine (hk8 w _ hS y29).mono ?_
    rintro e w' ⟨rfl, hb'⟩
    exact hK _ _ ⟨rfl, hSb w w' hS hb', hb'⟩
  | 10, ho =>
    have hy := yv_dep hF 5 26 false (by kernel_rfl) (dep_of ho hdep 5 (by kernel_rfl)) (fun v h => h)
    have hgd : o.guard = some (5, false) := fact ho (by kernel_rfl)
    rw [if_pos (by rw [want_some hgd hy]; rfl)]
    have hop : o.op = .unOp .not 4 (.tmp 30) := fact ho (by kernel_rfl)
    have hds : o.dst = some 31 := fact ho (by kernel_rfl)
    have t30 := tv_eq hF 9 30 (.bool true) (by kernel_rfl) (dep_of ho hdep 9 (by kernel_rfl)) (fun v h => h)
    refine wp_of_K (fun K hK => ?_)
    rw [hds] at hK
    unfold Oper.wp
    simp [execOp, hop, hds, t30, go_sem]
    exact hK _ _ ⟨rfl, hS, Below.refl _ _⟩
  | 11, ho =>
    rw [if_pos (want_none (fact ho (by kernel_rfl)))]
    have hop : o.op = .pick (.tmp 26) (.const (.bool true)) (.tmp 31) := fact ho (by kernel_rfl)
    have hds : o.dst = some 32 := fact ho (by kernel_rfl)
    have t26 := tv_eq hF 5 26 (.bool false) (by kernel_rfl) (dep_of ho hdep 5 (by kernel_rfl)) (fun v h => h)
    have t31 := tv_eq hF 10 31 (.bool false) (by kernel_rfl) (dep_of ho hdep 10 (by kernel_rfl)) (fun v h => h)
    refine wp_of_K (fun K hK => ?_)
    rw [hds] at hK
    unfold Oper.wp
    simp [execOp, hop, hds, t26, t31, go_sem]
    exact hK _ _ ⟨rfl, hS, Below.refl _ _⟩
  | 12, ho =>
    rw [if_pos (want_none (fact ho (by kernel_rfl)))]
    have hop : o.op = .move (.tmp 32) := fact ho (by kernel_rfl)
    have hds : o.dst = some 33 := fact ho (by kernel_rfl)
    have t32 := tv_eq hF 11 32 (.bool false) (by kernel_rfl) (dep_of ho hdep 11 (by kernel_rfl)) (fun v h => h)
    refine wp_of_K (fun K hK => ?_)
    rw [hds] at hK
    unfold Oper.wp
    simp [execOp, hop, hds, t32, go_sem]
    exact hK _ _ ⟨rfl, hS, Below.refl _ _⟩
  | 13, ho =>
    have hy := yv_dep hF 12 33 false (by kernel_rfl) (dep_of ho hdep 12 (by kernel_rfl)) (fun v h => h)
    have hgd : o.guard = some (12, false) := fact ho (by kernel_rfl)
    rw [if_pos (by rw [want_some hgd hy]; rfl)]
    have hop : o.op = .move (.tmp 6) := fact ho (by kernel_rfl)
    have hds : o.dst = some 34 := fact ho (by kernel_rfl)
    have t6 := tv_old hF 6 _ h6 (by kernel_rfl)
    refine wp_of_K (fun K hK => ?_)
    rw [hds] at hK
    unfold Oper.wp
    simp [execOp, hop, hds, t6, go_sem]
    exact hK _ _ ⟨rfl, hS, Below.refl _ _⟩
  | 14, ho =>
    have hy := yv_dep hF 12 33 false (by kernel_rfl) (dep_of ho hdep 12 (by kernel_rfl)) (fun v h => h)
    have hgd : o.guard = some (12, false) := fact ho (by kernel_rfl)
    rw [if_pos (by rw [want_some hgd hy]; rfl)]
    have hop : o.op = .move (.tmp 1) := fact ho (by kernel_rfl)
    have hds : o.dst = some 35 := fact ho (by kernel_rfl)
    have t1 := tv_old hF 1 _ h1 (by kernel_rfl)
    refine wp_of_K (fun K hK => ?_)
    rw [hds] at hK
    unfold Oper.wp
    simp [execOp, hop, hds, t1, go_sem]
    exact hK _ _ ⟨rfl, hS, Below.refl _ _⟩
  | 15, ho =>
    have hy := yv_dep hF 12 33 false (by kernel_rfl) (dep_of ho hdep 12 (by kernel_rfl)) (fun v h => h)
    have hgd : o.guard = some (12, false) := fact ho (by kernel_rfl)
    rw [if_pos (by rw [want_some hgd hy]; rfl)]
    have hop : o.op = .call { callee := .value (.func 5), args := #[.tmp 35], argTypes := #[22] } := fact ho (by kernel_rfl)
    have hds : o.dst = some 36 := fact ho (by kernel_rfl)
    have t35 := tv_eq hF 14 35 (dv) (by kernel_rfl) (dep_of ho hdep 14 (by kernel_rfl)) (fun v h => h)
    refine wp_of_K (fun K hK => ?_)
    rw [hds] at hK
    unfold Oper.wp
    simp [execOp, hop, hds, t35, go_sem]
    refine (hd5 w hS).mono ?_
    rintro e w' ⟨x, rfl, hb', hy'⟩
    exact hK _ _ ⟨hy', hSb w w' hS hb', hb'⟩
  | 16, ho =>
    have hy := yv_dep hF 12 33 false (by kernel_rfl) (dep_of ho hdep 12 (by kernel_rfl)) (fun v h => h)
    have hgd : o.guard = some (12, false) := fact ho (by kernel_rfl)
    rw [if_pos (by rw [want_some hgd hy]; rfl)]
    have hop : o.op = .call { callee := .value (.func 8), args := #[.tmp 34, .tmp 36], argTypes := #[22, 22] } := fact ho (by kernel_rfl)
    have hds : o.dst = some 37 := fact ho (by kernel_rfl)
    have t34 := tv_eq hF 13 34 (bv) (by kernel_rfl) (dep_of ho hdep 13 (by kernel_rfl)) (fun v h => h)
    obtain ⟨x36, t36, y36⟩ := tv_dep hF 15 36 (by kernel_rfl) (dep_of ho hdep 15 (by kernel_rfl))
    refine wp_of_K (fun K hK => ?_)
    rw [hds] at hK
    unfold Oper.wp
    simp [execOp, hop, hds, t34, t36, go_sem]
    refine (hd8 w _ hS y36).mono ?_
    rintro e w' ⟨rfl, hb'⟩
    exact hK _ _ ⟨rfl, hSb w w' hS hb', hb'⟩
  | 17, ho =>
    have hy := yv_dep hF 12 33 false (by kernel_rfl) (dep_of ho hdep 12 (by kernel_rfl)) (fun v h => h)
    have hgd : o.guard = some (12, false) := fact ho (by kernel_rfl)
    rw [if_pos (by rw [want_some hgd hy]; rfl)]
    have hop : o.op = .unOp .not 4 (.tmp 37) := fact ho (by kernel_rfl)
    have hds : o.dst = some 38 := fact ho (by kernel_rfl)
    have t37 := tv_eq hF 16 37 (.bool true) (by kernel_rfl) (dep_of ho hdep 16 (by kernel_rfl)) (fun v h => h)
    refine wp_of_K (fun K hK => ?_)
    rw [hds] at hK
    unfold Oper.wp
    simp [execOp, hop, hds, t37, go_sem]
    exact hK _ _ ⟨rfl, hS, Below.refl _ _⟩
  | 18, ho =>
    rw [if_pos (want_none (fact ho (by kernel_rfl)))]
    have hop : o.op = .pick (.tmp 33) (.const (.bool true)) (.tmp 38) := fact ho (by kernel_rfl)
    have hds : o.dst = some 39 := fact ho (by kernel_rfl)
    have t33 := tv_eq hF 12 33 (.bool false) (by kernel_rfl) (dep_of ho hdep 12 (by kernel_rfl)) (fun v h => h)
    have t38 := tv_eq hF 17 38 (.bool false) (by kernel_rfl) (dep_of ho hdep 17 (by kernel_rfl)) (fun v h => h)
    refine wp_of_K (fun K hK => ?_)
    rw [hds] at hK
    unfold Oper.wp
    simp [execOp, hop, hds, t33, t38, go_sem]
    exact hK _ _ ⟨rfl, hS, Below.refl _ _⟩
  | n + 19, ho =>
    exfalso
    have h1 : n + 19 < reg4.size := (Array.getElem?_eq_some_iff.1 ho).1
    rw [show reg4.size = 19 from by kernel_rfl] at h1
    omega
set_option maxRecDepth 100000 in
theorem put4 (X : Nat → Value) (v0 v1 v2 v3 v4 v5 v6 v7 v8 v9 v10 v11 v12 v13 v14 v15 v16 v17 v18 v19 v20 v21 v22 v23 v24 v25 v26 v27 v28 v29 v30 v31 v32 v33 v34 v35 v36 v37 v38 v39 v40 v41 v42 v43 v44 v45 v46 v47 v48 v49 v50 v51 v52 v53 v54 v55 v56 v57 v58 v59 v60 v61 v62 v63 v64 v65 v66 v67 v68 v69 v70 v71 v72 v73 v74 v75 v76 v77 v78 v79 v80 v81 v82 v83 v84 : Value) : putN reg4 X ⟨#[v0, v1, v2, v3, v4, v5, v6, v7, v8, v9, v10, v11, v12, v13, v14, v15, v16, v17, v18, v19, v20, v21, v22, v23, v24, v25, v26, v27, v28, v29, v30, v31, v32, v33, v34, v35, v36, v37, v38, v39, v40, v41, v42, v43, v44, v45, v46, v47, v48, v49, v50, v51, v52, v53, v54, v55, v56, v57, v58, v59, v60, v61, v62, v63, v64, v65, v66, v67, v68, v69, v70, v71, v72, v73, v74, v75, v76, v77, v78, v79, v80, v81, v82, v83, v84], []⟩ reg4.size = ⟨#[v0, v1, v2, v3, v4, v5, v6, v7, v8, v9, v10, v11, v12, v13, v14, v15, v16, v17, v18, v19, v20, X 0, X 1, X 2, X 3, X 4, X 5, X 6, X 7, X 8, X 9, X 10, X 11, X 12, X 13, X 14, X 15, X 16, X 17, X 18, v40, v41, v42, v43, v44, v45, v46, v47, v48, v49, v50, v51, v52, v53, v54, v55, v56, v57, v58, v59, v60, v61, v62, v63, v64, v65, v66, v67, v68, v69, v70, v71, v72, v73, v74, v75, v76, v77, v78, v79, v80, v81, v82, v83, v84], []⟩ := by kernel_rfl
end Go.Proofs.YtkppejaigodgiacDoor.Macs
