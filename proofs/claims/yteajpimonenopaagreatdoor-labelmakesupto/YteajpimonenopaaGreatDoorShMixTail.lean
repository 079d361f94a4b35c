import Derived.Test.YteajpimonenopaaGreatDoorShSpread
namespace Go.Proofs.YteajpimonenopaaGreatDoor.Sha
open Go.RowKit
def hasLoop : Code → Bool
  | .loop _ => true
  | .seq a b => hasLoop a || hasLoop b
  | .block _ c => hasLoop c
  | .scope c => hasLoop c
  | .cond _ a b => hasLoop a || hasLoop b
  | _ => false
/-- What stands behind the block that holds the loop. -/
def afterLoop : Code → Option Code
  | .seq a b => if hasLoop a then (match a with
      | .block _ _ => some b
      | _ => (match afterLoop a with
        | some c => some (.seq c b)
        | none => some b)) else afterLoop b
  | .scope c => afterLoop c
  | _ => none
noncomputable def tail18 : Code := ((Tryz.f52.body.bind afterLoop).getD .skip)
set_option maxRecDepth 100000 in
set_option maxHeartbeats 4000000 in
theorem tail_any (g r : Nat) (hne : g ≠ r) (s0 s1 s2 s3 s4 s5 s6 s7 t0 t1 t2 t3 t4 t5 t6 t7 u0 u1 u2 u3 u4 u5 u6 u7 : Nat) (v0 v1 v3 v5 v14 v15 v16 v17 v18 v19 v20 v21 v22 v23 v24 v25 v26 v27 v28 v29 v30 v31 v32 v33 v34 v35 v36 v37 v38 v39 v40 v41 v42 v43 v44 v45 v46 v47 v48 v49 v50 v51 v52 v53 v54 v55 v56 v57 v58 v59 v60 v61 v62 v63 v64 v65 v66 v67 v68 v69 v70 v71 v72 v73 v74 v75 v76 v77 v78 v79 v80 v81 v82 v83 v84 v85 v86 v87 v88 v89 v90 v91 v92 v93 v94 v95 v96 v97 v98 v99 v100 v101 v102 v103 v104 v105 v106 v107 v108 v109 v110 v111 v112 v113 v114 v115 v116 v117 v118 v119 v120 v121 v122 v123 v124 v125 v126 v127 : Value) (w : World)
    (c0 : w.cell? ⟨g, 0, none⟩ = some (.int .u32 (s0 : Int))) (f0 : w.frozen? ⟨g, 0, none⟩ = false) (d0 : w.cell? ⟨r, 0, none⟩ = some (.int .u32 0)) (k0 : w.frozen? ⟨r, 0, none⟩ = false) (e0 : ((s0 : Int) + (t0 : Int)) % 4294967296 = (u0 : Int))
    (c1 : w.cell? ⟨g, 1, none⟩ = some (.int .u32 (s1 : Int))) (f1 : w.frozen? ⟨g, 1, none⟩ = false) (d1 : w.cell? ⟨r, 1, none⟩ = some (.int .u32 0)) (k1 : w.frozen? ⟨r, 1, none⟩ = false) (e1 : ((s1 : Int) + (t1 : Int)) % 4294967296 = (u1 : Int))
    (c2 : w.cell? ⟨g, 2, none⟩ = some (.int .u32 (s2 : Int))) (f2 : w.frozen? ⟨g, 2, none⟩ = false) (d2 : w.cell? ⟨r, 2, none⟩ = some (.int .u32 0)) (k2 : w.frozen? ⟨r, 2, none⟩ = false) (e2 : ((s2 : Int) + (t2 : Int)) % 4294967296 = (u2 : Int))
    (c3 : w.cell? ⟨g, 3, none⟩ = some (.int .u32 (s3 : Int))) (f3 : w.frozen? ⟨g, 3, none⟩ = false) (d3 : w.cell? ⟨r, 3, none⟩ = some (.int .u32 0)) (k3 : w.frozen? ⟨r, 3, none⟩ = false) (e3 : ((s3 : Int) + (t3 : Int)) % 4294967296 = (u3 : Int))
    (c4 : w.cell? ⟨g, 4, none⟩ = some (.int .u32 (s4 : Int))) (f4 : w.frozen? ⟨g, 4, none⟩ = false) (d4 : w.cell? ⟨r, 4, none⟩ = some (.int .u32 0)) (k4 : w.frozen? ⟨r, 4, none⟩ = false) (e4 : ((s4 : Int) + (t4 : Int)) % 4294967296 = (u4 : Int))
    (c5 : w.cell? ⟨g, 5, none⟩ = some (.int .u32 (s5 : Int))) (f5 : w.frozen? ⟨g, 5, none⟩ = false) (d5 : w.cell? ⟨r, 5, none⟩ = some (.int .u32 0)) (k5 : w.frozen? ⟨r, 5, none⟩ = false) (e5 : ((s5 : Int) + (t5 : Int)) % 4294967296 = (u5 : Int))
    (c6 : w.cell? ⟨g, 6, none⟩ = some (.int .u32 (s6 : Int))) (f6 : w.frozen? ⟨g, 6, none⟩ = false) (d6 : w.cell? ⟨r, 6, none⟩ = some (.int .u32 0)) (k6 : w.frozen? ⟨r, 6, none⟩ = false) (e6 : ((s6 : Int) + (t6 : Int)) % 4294967296 = (u6 : Int))
    (c7 : w.cell? ⟨g, 7, none⟩ = some (.int .u32 (s7 : Int))) (f7 : w.frozen? ⟨g, 7, none⟩ = false) (d7 : w.cell? ⟨r, 7, none⟩ = some (.int .u32 0)) (k7 : w.frozen? ⟨r, 7, none⟩ = false) (e7 : ((s7 : Int) + (t7 : Int)) % 4294967296 = (u7 : Int))
    (R : Ending → World → Prop) (hR : Hid (R (.returned (.agg #[Value.int IntKind.u32 (u0 : Int), Value.int IntKind.u32 (u1 : Int), Value.int IntKind.u32 (u2 : Int), Value.int IntKind.u32 (u3 : Int), Value.int IntKind.u32 (u4 : Int), Value.int IntKind.u32 (u5 : Int), Value.int IntKind.u32 (u6 : Int), Value.int IntKind.u32 (u7 : Int)])) ((((((((((((((((w.setCell ⟨g, 0, none⟩ (Value.int IntKind.u32 (u0 : Int))).setCell ⟨g, 1, none⟩ (Value.int IntKind.u32 (u1 : Int))).setCell ⟨g, 2, none⟩ (Value.int IntKind.u32 (u2 : Int))).setCell ⟨g, 3, none⟩ (Value.int IntKind.u32 (u3 : Int))).setCell ⟨g, 4, none⟩ (Value.int IntKind.u32 (u4 : Int))).setCell ⟨g, 5, none⟩ (Value.int IntKind.u32 (u5 : Int))).setCell ⟨g, 6, none⟩ (Value.int IntKind.u32 (u6 : Int))).setCell ⟨g, 7, none⟩ (Value.int IntKind.u32 (u7 : Int))).setCell ⟨r, 0, none⟩ (Value.int IntKind.u32 (u0 : Int))).setCell ⟨r, 1, none⟩ (Value.int IntKind.u32 (u1 : Int))).setCell ⟨r, 2, none⟩ (Value.int IntKind.u32 (u2 : Int))).setCell ⟨r, 3, none⟩ (Value.int IntKind.u32 (u3 : Int))).setCell ⟨r, 4, none⟩ (Value.int IntKind.u32 (u4 : Int))).setCell ⟨r, 5, none⟩ (Value.int IntKind.u32 (u5 : Int))).setCell ⟨r, 6, none⟩ (Value.int IntKind.u32 (u6 : Int))).setCell ⟨r, 7, none⟩ (Value.int IntKind.u32 (u7 : Int))))) :
    Code.wp Tryz.prog tail18 (bodyPost Tryz.prog Tryz.f52 R) ⟨#[v0, v1, .pointer (some ⟨g, 0, none⟩), v3, .pointer (some ⟨r, 0, none⟩), v5, .int .u32 (t0 : Int), .int .u32 (t1 : Int), .int .u32 (t2 : Int), .int .u32 (t3 : Int), .int .u32 (t4 : Int), .int .u32 (t5 : Int), .int .u32 (t6 : Int), .int .u32 (t7 : Int), v14, v15, v16, v17, v18, v19, v20, v21, v22, v23, v24, v25, v26, v27, v28, v29, v30, v31, v32, v33, v34, v35, v36, v37, v38, v39, v40, v41, v42, v43, v44, v45, v46, v47, v48, v49, v50, v51, v52, v53, v54, v55, v56, v57, v58, v59, v60, v61, v62, v63, v64, v65, v66, v67, v68, v69, v70, v71, v72, v73, v74, v75, v76, v77, v78, v79, v80, v81, v82, v83, v84, v85, v86, v87, v88, v89, v90, v91, v92, v93, v94, v95, v96, v97, v98, v99, v100, v101, v102, v103, v104, v105, v106, v107, v108, v109, v110, v111, v112, v113, v114, v115, v116, v117, v118, v119, v120, v121, v122, v123, v124, v125, v126, v127], []⟩ w := by
  have hne' : r ≠ g := fun h => hne h.symm
  conv => arg 2; whnf
  go_wp2
  exact bodyPost_ret (v := .agg #[Value.int IntKind.u32 (u0 : Int), Value.int IntKind.u32 (u1 : Int), Value.int IntKind.u32 (u2 : Int), Value.int IntKind.u32 (u3 : Int), Value.int IntKind.u32 (u4 : Int), Value.int IntKind.u32 (u5 : Int), Value.int IntKind.u32 (u6 : Int), Value.int IntKind.u32 (u7 : Int)]) (by simp [results, Tryz.results52, go_sem, d0, d1, d2, d3, d4, d5, d6, d7]) rfl hR.out
end Go.Proofs.YteajpimonenopaaGreatDoor.Sha
