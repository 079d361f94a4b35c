/- The document's own block: the last loop. -/
import Derived.Test.YtmfmmcfdcjhecaaDoorShRb
namespace Go.Proofs.YtmfmmcfdcjhecaaDoor.Sha
open Go.RowKit
theorem size74 : (Tryd.prog.info? 45).map (·.size) = some 8 := by kernel_rfl
/-- Behind k rounds of the last loop. -/
def sumL (us st : List Nat) : Nat → List Nat
  | 0 => us
  | k + 1 => (sumL us st k).set k (add (us.getD k 0) (st.getD k 0))
theorem sumL_len (us st : List Nat) : ∀ k, (sumL us st k).length = us.length
  | 0 => rfl
  | k + 1 => by rw [sumL, List.length_set, sumL_len us st k]
theorem sumL_get (us st : List Nat) : ∀ k j, k ≤ j → (sumL us st k).getD j 0 = us.getD j 0
  | 0, _, _ => rfl
  | k + 1, j, h => by
    rw [sumL, List.getD, List.getElem?_set_ne (by omega)]
    exact sumL_get us st k j (by omega)
set_option maxRecDepth 100000 in
set_option maxHeartbeats 2000000 in
theorem tailC (st us : List Nat) (hst : st.length = 8) (hul : us.length = 8) (g d : Nat) (hd : g + 3 < d) (v0 v1 v2 v4 v8 v9 v10 v11 v13 v14 v15 v16 v17 v18 v19 v20 v21 v22 v23 v24 v25 v26 v27 v28 v29 v30 v31 v32 v33 v34 v35 v36 v37 v38 v39 v40 v41 v42 v43 v44 v45 v46 v47 v48 v49 v50 v51 v52 v53 v54 v55 v56 v57 v58 v59 v60 v61 v62 v63 v64 v65 v66 v67 v68 v69 v70 v71 v72 v73 v74 v75 v76 v77 v78 v79 v80 v81 v82 v83 v84 v85 v86 v87 v88 v89 v90 v91 v92 v93 v94 v95 v96 v97 v98 v99 v100 v101 v102 v103 v104 v105 v106 v107 v108 v109 v110 v111 v112 v113 v114 v115 v116 v117 v118 v119 v120 v121 v122 v123 v124 v125 v126 v127 v128 v129 v130 v131 v132 v133 v134 v135 v136 v137 v138 v139 v140 v141 v142 v143 v144 v145 v146 v147 v148 v149 v150 v151 v152 v153 v154 v155 v156 v157 v158 v159 v160 v161 v162 v163 v164 v165 v166 v167 v168 v169 v170 v171 v172 v173 v174 v175 v176 v177 v178 v179 v180 v181 v182 v183 v184 v185 v186 v187 v188 v189 v190 v191 v192 v193 v194 v195 : Value) (w : World)
    (r0 : Hid (w.heap[g]? = some (.cells (ws st) 45 (0, 0)))) (r2 : Hid (w.heap[g + 2]? = some (.cells (ws z8) 45 (0, 0)))) (r4 : Hid (w.heap[d]? = some (.cells (ws us) 45 (0, 0))))
    (R : Ending → World → Prop) (hR : Hid (∀ w', Below g w w' → R (.returned (.agg (ws (sumL us st 8)))) w')) :
    Code.wp Tryd.prog tail58b (bodyPost Tryd.prog Tryd.f23 R) ⟨#[v0, v1, v2, .pointer (some ⟨g, 0, none⟩), v4, .pointer (some ⟨(g + 1), 0, none⟩), .pointer (some ⟨(g + 2), 0, none⟩), .pointer (some ⟨(g + 3), 0, none⟩), v8, v9, v10, v11, .pointer (some ⟨d, 0, none⟩), v13, v14, v15, v16, v17, v18, v19, v20, v21, v22, v23, v24, v25, v26, v27, v28, v29, v30, v31, v32, v33, v34, v35, v36, v37, v38, v39, v40, v41, v42, v43, v44, v45, v46, v47, v48, v49, v50, v51, v52, v53, v54, v55, v56, v57, v58, v59, v60, v61, v62, v63, v64, v65, v66, v67, v68, v69, v70, v71, v72, v73, v74, v75, v76, v77, v78, v79, v80, v81, v82, v83, v84, v85, v86, v87, v88, v89, v90, v91, v92, v93, v94, v95, v96, v97, v98, v99, v100, v101, v102, v103, v104, v105, v106, v107, v108, v109, v110, v111, v112, v113, v114, v115, v116, v117, v118, v119, v120, v121, v122, v123, v124, v125, v126, v127, v128, v129, v130, v131, v132, v133, v134, v135, v136, v137, v138, v139, v140, v141, v142, v143, v144, v145, v146, v147, v148, v149, v150, v151, v152, v153, v154, v155, v156, v157, v158, v159, v160, v161, v162, v163, v164, v165, v166, v167, v168, v169, v170, v171, v172, v173, v174, v175, v176, v177, v178, v179, v180, v181, v182, v183, v184, v185, v186, v187, v188, v189, v190, v191, v192, v193, v194, v195], []⟩ w := by
  conv => arg 2; whnf
  go_wp2
  go_loopw [18] (fun i wr => ∃ k : Nat, k ≤ 8 ∧ i = .int .i64 k ∧ Hid (wr.heap[d]? = some (.cells (ws (sumL us st k)) 45 (0, 0))) ∧ Hid (∀ j, j ≠ d → wr.heap[j]? = w.heap[j]?) ∧ Below g w wr) (fun i _ => 8 - (intOf i).toNat)
  case atStart => exact ⟨0, by omega, rfl, r4, fun _ _ => rfl, Below.refl _ _⟩
  case round =>
    obtain ⟨k, hk, rfl, HW, HZ, hbl⟩ := hrel
    by_cases hlt : k < 8
    · have hk1 : (k : Int) < 8 := by omega
      have hk0 : (0 : Int) ≤ (k : Int) := by omega
      obtain ⟨x, hx⟩ : ∃ x, x = us.getD k 0 := ⟨_, rfl⟩
      obtain ⟨y, hy⟩ : ∃ x, x = st.getD k 0 := ⟨_, rfl⟩
      have cx : wr.cell? ⟨d, k, none⟩ = some (.int .u32 (x : Int)) := by
        rw [cell_of_row wr _ _ _ _ _ HW.out, ws_get _ _ (by rw [sumL_len]; omega), sumL_get _ _ _ _ (Nat.le_refl _), hx]
      have cy : wr.cell? ⟨g, k, none⟩ = some (.int .u32 (y : Int)) := by
        rw [cell_of_row wr _ _ _ _ _ ((HZ.out g (by omega)).trans r0.out), ws_get _ _ (by omega), hy]
      have fx := frozen_of_row wr _ k _ _ HW.out
      have HX : Hid (x = us.getD k 0) := hx
      have HY : Hid (y = st.getD k 0) := hy
      have hne : g ≠ d := by omega
      clear hx hy
      go_wp2
      go_region
      go_wp2
      go_roundw
      case rel =>
        rw [add_int]
        refine ⟨k + 1, by omega, by go_num, ?_, ?_, ?_⟩
        · exact (heap_setCell_same _ _ _ _ _ _ HW.out).trans (by rw [ws_set, sumL, HX.out, HY.out])
        · exact fun j hj => (heap_setCell_other _ _ _ _ hj).trans (HZ.out j hj)
        · exact (hbl.setCell (by simp <;> omega) _).drew
      case measure => simp [intOf]; omega
    · have hk8 : k = 8 := by omega
      have HW2 : Hid (wr.heap[d]? = some (.cells (ws (sumL us st 8)) 45 (0, 0))) := by rw [hk8] at HW; exact HW
      have hll : (sumL us st 8).length = 8 := by rw [sumL_len, hul]
      have HR : Hid (wr.heap[g + 2]? = some (.cells (ws z8) 45 (0, 0))) := (HZ.out _ (by omega)).trans r2.out
      clear hk8 HW HZ
      go_wp2_with (first | refine wpList_load_row rfl 45 _ rfl _ rfl 45 _ (0, 0) _ (by exact HW2.out) Tryd.underlying45 rfl (by rw [size74, ws_size, hll]) ?_ | refine wpList_store_row rfl 45 _ _ rfl _ _ rfl rfl 45 _ (by exact HR.out) (by rw [size74, ws_size, hll]) (by rw [ws_size, ws_size, hll]; rfl) (ws_one _) ?_)
      have hres : (wr.setRow (g + 2) (ws (sumL us st 8))).heap[g + 2]? = some (.cells (ws (sumL us st 8)) 45 (0, 0)) := setRow_heap _ _ _ _ _ _ HR.out
      refine bodyPost_ret (v := .agg (ws (sumL us st 8))) (results_cell_row rfl _ _ (g + 2) 45 _ (0, 0) _ rfl hres Tryd.underlying45 rfl (by rw [size74, ws_size, hll])) rfl ?_
      exact hR.out _ (below_setRow hbl (by omega) _)
end Go.Proofs.YtmfmmcfdcjhecaaDoor.Sha
