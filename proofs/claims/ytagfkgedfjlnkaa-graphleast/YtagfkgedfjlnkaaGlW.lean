/- GraphLeast: the law, from its beginning. -/
import Derived.Test.YtagfkgedfjlnkaaGlV
namespace Go.Proofs.Ytagfkgedfjlnkaa
open Go.RowKit GM Gl
set_option maxRecDepth 100000 in
set_option maxHeartbeats 6400000 in
theorem gl2n (W X : World) (gb N : Nat) (dr : Int) (bX : Below W.heap.size W X) (hgb : W.heap.size ≤ gb) (rowg : X.heap[gb]? = some (.cells #[.int .i64 (N : Int), .slice none 0 0] 24 (0, 0))) (hN : N ≤ 60) {v0 v1 v3 v4 v5 v6 v8 v9 v10 v11 v12 v13 v14 v15 v16 v17 v18 v19 v20 v21 v22 v23 v24 v25 v26 v27 v28 v29 v30 v31 v32 v33 v34 v35 v36 v37 v38 v39 v40 v41 v42 v43 v44 v45 v46 v47 v48 v49 v50 v51 v52 v53 v54 v55 v56 v57 v58 v59 v60 v61 v62 v63 v64 v65 v66 v67 v68 v69 v70 v71 v72 v73 v74 v75 v76 v77 v78 v79 v80 v81 v82 v83 v84 v85 v86 v87 v88 v89 v90 v91 v92 v93 v94 v95 v96 v97 v98 v99 v100 v101 v102 v103 v104 v105 v106 v107 v108 v109 v110 v111 v112 v113 v114 v115 v116 v117 v118 v119 v120 v121 v122 v123 v124 v125 v126 v127 v128 v129 v130 v131 v132 v133 v134 v135 v136 v137 v138 v139 v140 v141 v142 v143 v144 v145 v146 v147 v148 v149 v150 v151 v152 v153 v154 v155 v156 v157 v158 v159 v160 v161 v162 v163 v164 v165 v166 v167 v168 v169 v170 v171 v172 v173 v174 v175 v176 v177 v178 v179 v180 v181 v182 v183 v184 v185 v186 v187 v188 v189 v190 : Value} :
    Code.wp Try.prog (tlF Try.f3 2) (bodyPost Try.prog Try.f3 (fun e w' => e = .returned (.bool true) ∧ Below W.heap.size W w')) ⟨#[v0, v1, .int .i64 dr, v3, v4, v5, v6, .pointer (some ⟨gb, 0, none⟩), v8, v9, v10, v11, v12, v13, v14, v15, v16, v17, v18, v19, v20, v21, v22, v23, v24, v25, v26, v27, v28, v29, v30, v31, v32, v33, v34, v35, v36, v37, v38, v39, v40, v41, v42, v43, v44, v45, v46, v47, v48, v49, v50, v51, v52, v53, v54, v55, v56, v57, v58, v59, v60, v61, v62, v63, v64, v65, v66, v67, v68, v69, v70, v71, v72, v73, v74, v75, v76, v77, v78, v79, v80, v81, v82, v83, v84, v85, v86, v87, v88, v89, v90, v91, v92, v93, v94, v95, v96, v97, v98, v99, v100, v101, v102, v103, v104, v105, v106, v107, v108, v109, v110, v111, v112, v113, v114, v115, v116, v117, v118, v119, v120, v121, v122, v123, v124, v125, v126, v127, v128, v129, v130, v131, v132, v133, v134, v135, v136, v137, v138, v139, v140, v141, v142, v143, v144, v145, v146, v147, v148, v149, v150, v151, v152, v153, v154, v155, v156, v157, v158, v159, v160, v161, v162, v163, v164, v165, v166, v167, v168, v169, v170, v171, v172, v173, v174, v175, v176, v177, v178, v179, v180, v181, v182, v183, v184, v185, v186, v187, v188, v189, v190], []⟩ X := by
  have g1 : X.cell? ⟨gb, 1, none⟩ = some (.slice none 0 0) := (cell_of_row _ _ _ _ _ _ rowg).trans rfl
  have HH : Hid (Below W.heap.size W X ∧ W.heap.size ≤ gb ∧ X.heap[gb]? = some (.cells #[.int .i64 (N : Int), .slice none 0 0] 24 (0, 0)) ∧ N ≤ 60) := ⟨bX, hgb, rowg, hN⟩
  clear bX hgb rowg hN
  conv => arg 2; whnf
  refine wp_seq_k ?_
  intro K hK
  have HK2 : Hid (∀ q w, Code.wp Try.prog (tlF Try.f3 12) (bodyPost Try.prog Try.f3 (fun e w' => e = .returned (.bool true) ∧ Below W.heap.size W w')) q w → K q w) := hK
  clear hK
  go_wp2_with fail
  go_loopw [8] (fun iv wr => iv = .int .i64 0 ∧ wr = X) (fun _ _ => 0)
  case atStart => exact ⟨rfl, rfl⟩
  case round =>
    obtain ⟨rfl, rfl⟩ := hrel
    go_wp2_with fail
    exact HK2.out _ _ (gl12 W _ gb N dr _ [] HH.out.1 HH.out.2.1 HH.out.2.2.1 (.inl ⟨rfl, rfl⟩) (Nat.zero_le _) HH.out.2.2.2 (fun _ e he => by cases he))
set_option maxRecDepth 100000 in
set_option maxHeartbeats 6400000 in
theorem least_any (n dr : Int) (D : List (Int × Int)) (v : Value) (w : World) (hv : El v D w) : Calls Try.prog 3 #[.int .i64 n, v, .int .i64 dr] w fun e w' => e = .returned (.bool true) ∧ Below w.heap.size w w' := by
  have CS := small_any n D v w hv
  have HS : Hid (Calls Try.prog 4 #[.int .i64 n, v] w fun e w' => ∃ (N : Nat) (E : List (Nat × Nat)) (u : Value), e = .returned (grV (N : Int) u) ∧ 1 ≤ N ∧ N ≤ 60 ∧ (∀ e ∈ E, e.1 < N ∧ e.2 < N) ∧ E.length ≤ 400 ∧ w'.ownsRow (w.heap.size + 2) 26 2 u E.length (ec (zE E)) ∧ Below w.heap.size w w') := CS
  clear CS hv
  go_enter Try.func3, Try.ntmps3
  go_upto_region 1 with fail
  rename_i K2 hk2
  have HK2 : Hid (∀ q w', Code.wp Try.prog (tlF Try.f3 2) (bodyPost Try.prog Try.f3 (fun e w' => e = .returned (.bool true) ∧ Below w.heap.size w w')) q w' → K2 q w') := hk2
  clear hk2
  go_wp2_with fail
  with_reducible refine Calls.mono HS.out ?_
  rintro en Y ⟨N, E, u, rfl, q1, q2, q3, q4, q5, q6⟩
  unfold grV
  have QQ : Hid (1 ≤ N ∧ N ≤ 60 ∧ (∀ e ∈ E, e.1 < N ∧ e.2 < N) ∧ E.length ≤ 400 ∧ Below w.heap.size w Y) := ⟨q1, q2, q3, q4, q6⟩
  obtain ⟨mE, hmE⟩ : ∃ k, E.length = k := ⟨_, rfl⟩
  have bA : ∀ x, Below w.heap.size w (Y.alloc (.cells #[.int .i64 (N : Int), x] 24)) := fun x => q6.alloc q6.size _
  rw [hmE] at q5
  clear q1 q2 q3 q4
  rcases q5.2 with ⟨k0, rfl⟩ | ⟨eb, cap, cur, rfl, hB, -⟩
  · have HB : Hid (Below w.heap.size w (Y.alloc (.cells #[.int .i64 (N : Int), .slice none 0 0] 24))) := bA _
    clear q5 q6 bA hmE
    go_wp2_with fail
    exact HK2.out _ _ (gl2n w _ Y.heap.size N dr HB.out QQ.out.2.2.2.2.size (heap_alloc_new _ _) QQ.out.2.1)
  · have HB : Hid (Below w.heap.size w (Y.alloc (.cells #[.int .i64 (N : Int), .slice (some ⟨eb, 0, none⟩) mE cap] 24)) ∧ Y.ownsRow (w.heap.size + 2) 26 2 (.slice (some ⟨eb, 0, none⟩) mE cap) mE (ec (zE E)) ∧ E.length = mE) := ⟨bA _, q5, hmE⟩
    clear q5 q6 bA hmE hB
    go_wp2_with fail
    obtain ⟨b1, ow, he⟩ := HB.out
    have hlt := (ow.lt eb rfl).2
    exact HK2.out _ _ (gl2 w _ Y.heap.size N mE eb cap dr E ⟨b1, heap_alloc_new _ _, own_keep2 ow fun k hk => ((Below.refl _ Y).alloc (Nat.le_refl _) _).block k (ow.lt k hk).2, he, QQ.out.2.2.1, fun k a b hk => absurd hk (Nat.not_lt_zero _)⟩ QQ.out.2.2.2.2.size (by omega) (by rw [← he]; exact QQ.out.2.2.2.1) QQ.out.2.1)
end Go.Proofs.Ytagfkgedfjlnkaa
