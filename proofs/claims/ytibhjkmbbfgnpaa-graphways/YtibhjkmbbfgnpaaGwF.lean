/- GraphWays: the law, whole. -/
import Derived.Test.YtibhjkmbbfgnpaaGwE
namespace Go.Proofs.Ytibhjkmbbfgnpaa
open Go.RowKit GM Gwx
theorem w4_old (W : World) (a b c d : Obj) : ((((W.alloc a).alloc b).alloc c).alloc d).heap[W.heap.size]? = some a ∧ ((((W.alloc a).alloc b).alloc c).alloc d).heap[W.heap.size + 1]? = some b ∧ ((((W.alloc a).alloc b).alloc c).alloc d).heap[W.heap.size + 1 + 1]? = some c ∧ ((((W.alloc a).alloc b).alloc c).alloc d).heap[W.heap.size + 1 + 1 + 1]? = some d := by
  have s1 : (W.alloc a).heap.size = W.heap.size + 1 := by simp
  have s2 : ((W.alloc a).alloc b).heap.size = W.heap.size + 1 + 1 := by simp
  have s3 : (((W.alloc a).alloc b).alloc c).heap.size = W.heap.size + 1 + 1 + 1 := by simp
  have h1 := heap_alloc_new W a
  have h2 := heap_alloc_new (W.alloc a) b
  have h3 := heap_alloc_new ((W.alloc a).alloc b) c
  have h4 := heap_alloc_new (((W.alloc a).alloc b).alloc c) d
  rw [s1] at h2
  rw [s2] at h3
  rw [s3] at h4
  have old (A : World) (o p : Obj) (k : Nat) (h : A.heap[k]? = some o) : (A.alloc p).heap[k]? = some o := (heap_alloc_old A p (h := (Array.getElem?_eq_some_iff.1 h).1)).trans h
  exact ⟨old _ _ _ _ (old _ _ _ _ (old _ _ _ _ h1)), old _ _ _ _ (old _ _ _ _ h2), old _ _ _ _ h3, h4⟩
theorem emod_n (r N : Nat) : ((r : Int) % (N : Int)) = ((r % N : Nat) : Int) := by simp
set_option maxRecDepth 100000 in
/-- From region 5 on, all. -/
theorem gwJ (W X : World) {kN kA kB kR kG kM gM N a b K : Nat} {E : List (Nat × Nat)} {ev : Value} {x : Int} (hw : Wa W kN kA kB kR kG kM gM N a b E ev x X) (hm : Wm N a b E K) {v0 v1 v2 v3 v5 v11 v12 v13 v14 v15 v16 v17 v18 v19 v20 v21 v22 v23 v24 v25 v26 v27 v28 v29 v30 v31 v32 v33 v34 v35 v36 v37 v38 v39 v40 v41 v42 v43 v44 v45 v46 v47 v48 v49 v50 v51 v52 v53 v54 v55 v56 v57 v58 v59 v60 v61 v62 v63 v64 v65 v66 v67 v68 v69 v70 v71 v72 v73 v74 v75 v76 v77 v78 v79 v80 v81 v82 v83 v84 v85 v86 v87 v88 v89 v90 v91 v92 v93 v94 v95 v96 v97 v98 v99 v100 v101 v102 v103 v104 v105 v106 v107 v108 v109 v110 v111 v112 v113 v114 v115 v116 v117 v118 v119 v120 v121 v122 v123 v124 v125 v126 v127 v128 v129 v130 v131 v132 v133 v134 v135 v136 v137 v138 v139 v140 v141 v142 v143 v144 v145 v146 v147 v148 v149 v150 v151 v152 v153 v154 v155 v156 v157 v158 v159 v160 v161 v162 v163 v164 v165 v166 v167 v168 v169 v170 v171 v172 v173 v174 v175 v176 v177 v178 v179 v180 v181 v182 v183 v184 v185 v186 v187 v188 v189 v190 v191 v192 v193 v194 v195 v196 v197 v198 v199 v200 v201 v202 v203 v204 v205 v206 v207 v208 v209 v210 v211 v212 v213 v214 v215 v216 v217 v218 v219 v220 v221 v222 v223 v224 v225 v226 v227 v228 v229 v230 v231 v232 v233 v234 v235 v236 v237 v238 v239 v240 v241 v242 v243 v244 v245 v246 v247 v248 v249 : Value} :
    Code.wp Try.prog (tlF Try.f3 5) (bodyPostM Fence.wide 9 Try.prog Try.f3 (fun e w' => e = .returned (.bool true) ∧ Below W.heap.size W w')) ⟨#[v0, v1, v2, v3, .pointer (some ⟨kN, 0, none⟩), v5, .pointer (some ⟨kA, 0, none⟩), .pointer (some ⟨kB, 0, none⟩), .pointer (some ⟨kR, 0, none⟩), .pointer (some ⟨kG, 0, none⟩), .pointer (some ⟨kM, 0, none⟩), v11, v12, v13, v14, v15, v16, v17, v18, v19, v20, v21, v22, v23, v24, v25, v26, v27, v28, v29, v30, v31, v32, v33, v34, v35, v36, v37, v38, v39, v40, v41, v42, v43, v44, v45, v46, v47, v48, v49, v50, v51, v52, v53, v54, v55, v56, v57, v58, v59, v60, v61, v62, v63, v64, v65, v66, v67, v68, v69, v70, v71, v72, v73, v74, v75, v76, v77, v78, v79, v80, v81, v82, v83, v84, v85, v86, v87, v88, v89, v90, v91, v92, v93, v94, v95, v96, v97, v98, v99, v100, v101, v102, v103, v104, v105, v106, v107, v108, v109, v110, v111, v112, v113, v114, v115, v116, v117, v118, v119, v120, v121, v122, v123, v124, v125, v126, v127, v128, v129, v130, v131, v132, v133, v134, v135, v136, v137, v138, v139, v140, v141, v142, v143, v144, v145, v146, v147, v148, v149, v150, v151, v152, v153, v154, v155, v156, v157, v158, v159, v160, v161, v162, v163, v164, v165, v166, v167, v168, v169, v170, v171, v172, v173, v174, v175, v176, v177, v178, v179, v180, v181, v182, v183, v184, v185, v186, v187, v188, v189, v190, v191, v192, v193, v194, v195, v196, v197, v198, v199, v200, v201, v202, v203, v204, v205, v206, v207, v208, v209, v210, v211, v212, v213, v214, v215, v216, v217, v218, v219, v220, v221, v222, v223, v224, v225, v226, v227, v228, v229, v230, v231, v232, v233, v234, v235, v236, v237, v238, v239, v240, v241, v242, v243, v244, v245, v246, v247, v248, v249], []⟩ X :=
  gw5 W X hw hm fun U1 ol nl cl {v0 v1 v2 v3 v5 v12 v14 v15 v16 v17 v18 v19 v20 v21 v22 v23 v24 v25 v26 v27 v28 v29 v30 v31 v32 v33 v34 v35 v36 v37 v38 v39 v40 v41 v42 v43 v44 v45 v46 v47 v48 v49 v50 v51 v52 v53 v54 v55 v56 v57 v58 v59 v60 v61 v62 v63 v64 v65 v66 v67 v68 v69 v70 v71 v72 v73 v74 v75 v76 v77 v78 v79 v80 v81 v82 v83 v84 v85 v86 v87 v88 v89 v90 v91 v92 v93 v94 v95 v96 v97 v98 v99 v100 v101 v102 v103 v104 v105 v106 v107 v108 v109 v110 v111 v112 v113 v114 v115 v116 v117 v118 v119 v120 v121 v122 v123 v124 v125 v126 v127 v128 v129 v130 v131 v132 v133 v134 v135 v136 v137 v138 v139 v140 v141 v142 v143 v144 v145 v146 v147 v148 v149 v150 v151 v152 v153 v154 v155 v156 v157 v158 v159 v160 v161 v162 v163 v164 v165 v166 v167 v168 v169 v170 v171 v172 v173 v174 v175 v176 v177 v178 v179 v180 v181 v182 v183 v184 v185 v186 v187 v188 v189 v190 v191 v192 v193 v194 v195 v196 v197 v198 v199 v200 v201 v202 v203 v204 v205 v206 v207 v208 v209 v210 v211 v212 v213 v214 v215 v216 v217 v218 v219 v220 v221 v222 v223 v224 v225 v226 v227 v228 v229 v230 v231 v232 v233 v234 v235 v236 v237 v238 v239 v240 v241 v242 v243 v244 v245 v246 v247 v248 v249 : Value} b1 hz => gw16 W U1 (hw.below b1) hm fun U2 r ow nw cw {v0 v1 v2 v3 v5 v12 v13 v14 v16 v18 v19 v20 v21 v22 v23 v24 v25 v26 v27 v28 v29 v30 v31 v32 v33 v34 v35 v36 v37 v38 v39 v40 v41 v42 v43 v44 v45 v46 v47 v48 v49 v50 v51 v52 v53 v54 v55 v56 v57 v58 v59 v60 v61 v62 v63 v64 v65 v66 v67 v68 v69 v70 v71 v72 v73 v74 v75 v76 v77 v78 v79 v80 v81 v82 v83 v84 v85 v86 v87 v88 v89 v90 v91 v92 v93 v94 v95 v96 v97 v98 v99 v100 v101 v102 v103 v104 v105 v106 v107 v108 v109 v110 v111 v112 v113 v114 v115 v116 v117 v118 v119 v120 v121 v122 v123 v124 v125 v126 v127 v128 v129 v130 v131 v132 v133 v134 v135 v136 v137 v138 v139 v140 v141 v142 v143 v144 v145 v146 v147 v148 v149 v150 v151 v152 v153 v154 v155 v156 v157 v158 v159 v160 v161 v162 v163 v164 v165 v166 v167 v168 v169 v170 v171 v172 v173 v174 v175 v176 v177 v178 v179 v180 v181 v182 v183 v184 v185 v186 v187 v188 v189 v190 v191 v192 v193 v194 v195 v196 v197 v198 v199 v200 v201 v202 v203 v204 v205 v206 v207 v208 v209 v210 v211 v212 v213 v214 v215 v216 v217 v218 v219 v220 v221 v222 v223 v224 v225 v226 v227 v228 v229 v230 v231 v232 v233 v234 v235 v236 v237 v238 v239 v240 v241 v242 v243 v244 v245 v246 v247 v248 v249 : Value} b2 hr => gw20 W U2 ((hw.below b1).below b2) hm (hz.below b2) hr fun U3 kF kD fr {v0 v1 v2 v3 v5 v12 v13 v14 v16 v18 v19 v21 v22 v23 v24 v25 v26 v27 v28 v29 v30 v31 v32 v33 v34 v35 v36 v37 v38 v39 v40 v41 v42 v43 v44 v45 v46 v47 v48 v49 v50 v51 v52 v53 v54 v55 v56 v57 v58 v59 v60 v61 v62 v63 v64 v65 v66 v67 v68 v69 v70 v71 v72 v73 v74 v75 v76 v77 v78 v79 v80 v81 v82 v83 v84 v85 v86 v87 v88 v89 v90 v91 v92 v93 v94 v95 v96 v97 v98 v99 v100 v101 v102 v103 v104 v105 v106 v107 v108 v109 v110 v111 v112 v113 v114 v115 v116 v117 v118 v119 v120 v121 v122 v123 v124 v125 v126 v127 v128 v129 v130 v131 v132 v133 v134 v135 v136 v137 v138 v139 v140 v141 v142 v143 v144 v145 v146 v147 v148 v149 v150 v151 v152 v153 v154 v155 v156 v157 v158 v159 v160 v161 v162 v163 v164 v165 v166 v167 v168 v169 v170 v171 v172 v173 v174 v175 v176 v177 v178 v179 v180 v181 v182 v183 v184 v185 v186 v187 v188 v189 v190 v191 v192 v193 v194 v195 v196 v197 v198 v199 v200 v201 v202 v203 v204 v205 v206 v207 v208 v209 v210 v211 v212 v213 v214 v215 v216 v217 v218 v219 v220 v221 v222 v223 v224 v225 v226 v227 v228 v229 v230 v231 v232 v233 v234 v235 v236 v237 v238 v239 v240 v241 v242 v243 v244 v245 v246 v247 v248 v249 : Value} hw3 hwf rF rD hWD hF => gw35 W U3 hw3 hm hwf rF rD hWD fun U4 d Lw {v0 v1 v2 v3 v5 v11 v12 v13 v14 v15 v16 v18 v19 v21 v22 v23 v24 v25 v26 v27 v28 v29 v30 v31 v32 v33 v34 v35 v36 v37 v38 v39 v40 v41 v42 v43 v44 v45 v46 v47 v48 v49 v50 v51 v52 v53 v54 v55 v56 v57 v58 v59 v60 v61 v62 v63 v64 v65 v66 v67 v68 v69 v70 v71 v72 v73 v74 v75 v76 v77 v78 v79 v80 v81 v82 v83 v84 v85 v86 v87 v88 v89 v90 v91 v92 v93 v94 v95 v96 v97 v98 v99 v100 v101 v102 v103 v104 v105 v106 v107 v108 v109 v110 v111 v112 v113 v114 v115 v116 v117 v118 v119 v120 v121 v122 v123 v124 v125 v126 v127 v128 v129 v130 v131 v132 v133 v134 v135 v136 v137 v138 v139 v140 v141 v142 v143 v144 v145 v146 v147 v148 v149 v150 v151 v152 v153 v154 v155 v156 v157 v158 v159 v160 v161 v162 v163 v164 v165 v166 v167 v168 v169 v170 v171 v172 v173 v174 v175 v176 v177 v178 v179 v180 v181 v182 v183 v184 v185 v186 v187 v188 v189 v190 v191 v192 v193 v194 v195 v196 v197 v198 v199 v200 v201 v202 v203 v204 v205 v206 v207 v208 v209 v210 v211 v212 v213 v214 v215 v216 v217 v218 v219 v220 v221 v222 v223 v224 v225 v226 v227 v228 v229 v230 v231 v232 v233 v234 v235 v236 v237 v238 v239 v240 v241 v242 v243 v244 v245 v246 v247 v248 v249 : Value} b4 hP hz4 hfr =>
    gw41 W U4 (hw3.below b4) hm hP hz4 (by rw [← hfr]; exact (b4.block _ (Array.getElem?_eq_some_iff.1 rF).1).trans rF) ((b4.block _ (Array.getElem?_eq_some_iff.1 rD).1).trans rD) hWD
attribute [local go_sem] Oper.semAt_some
set_option maxRecDepth 100000 in
set_option maxHeartbeats 6400000 in
theorem ways_any (n : Int) (D : List (Int × Int)) (v : Value) (x y : Int) (W : World) (hE : El v D W) :
    Calls Try.prog 3 #[.int .i64 n, v, .int .i64 x, .int .i64 y] W fun e w' => e = .returned (.bool true) ∧ Below W.heap.size W w' := by
  obtain ⟨V, hV⟩ : ∃ V, (((W.alloc (.cells #[.int .i64 n] 3)).alloc (.cells #[.int .i64 x] 3)).alloc (.cells #[.int .i64 y] 3)).alloc (.cells #[.bool false] 4) = V := ⟨_, rfl⟩
  have bV : Below W.heap.size W V := by rw [← hV]; exact ((((Below.refl _ W).alloc (Nat.le_refl _) _).alloc (by simp) _).alloc (by simp; omega) _).alloc (by simp; omega) _
  have hs4 := w4_old W (.cells #[.int .i64 n] 3) (.cells #[.int .i64 x] 3) (.cells #[.int .i64 y] 3) (.cells #[.bool false] 4)
  have sV : V.heap.size = W.heap.size + 4 := by rw [← hV]; simp
  rw [hV] at hs4
  obtain ⟨kN, hkN⟩ : ∃ k, W.heap.size = k := ⟨_, rfl⟩
  obtain ⟨kA, hkA⟩ : ∃ k, kN + 1 = k := ⟨_, rfl⟩
  obtain ⟨kB, hkB⟩ : ∃ k, kA + 1 = k := ⟨_, rfl⟩
  obtain ⟨kR, hkR⟩ : ∃ k, kB + 1 = k := ⟨_, rfl⟩
  rw [hkN, hkA, hkB, hkR] at hs4
  have C1 := small_any n D v V (hE.below bV)
  have cN := (cell_of_row _ _ _ _ _ _ hs4.1).trans (rfl : (#[Value.int .i64 n])[0]? = some (.int .i64 n))
  have cNr := cN
  rw [← hV] at cNr
  have HW := mkHid (And.intro bV (And.intro hs4 (And.intro sV (And.intro hkN (And.intro hkA (And.intro hkB hkR))))))
  replace hV := mkHid hV
  clear hE bV hs4 sV
  refine callsIn_wide.1 (callsIn_of_wp_marks (n := 9) Try.func3 rfl trivial (wpIn_wide.2 ?_) rfl)
  simp only [Try.ntmps3, List.size_toArray, List.length_cons, List.length_nil, Nat.reduceAdd, Nat.reduceSub, Array.replicate_succ, Array.replicate_zero, List.push_toArray, List.append_toArray, List.nil_append, List.cons_append]
  go_upto_region 1 with fail
  try rw [hkN]
  try rw [hkA]
  try rw [hkB]
  try rw [hkR]
  try rw [hV.out]
  go_wp2_with fail
  refine Calls.mono C1 ?_
  rintro e w1 ⟨N, E, u, rfl, h1, h60, hE2, hEl, hown, b1⟩
  obtain ⟨ou, cu, rfl⟩ := own_size hown
  obtain ⟨le, hle⟩ : ∃ k, E.length = k := ⟨_, rfl⟩
  rw [hle] at hown ⊢
  obtain ⟨kG, hkG⟩ : ∃ k, w1.heap.size = k := ⟨_, rfl⟩
  obtain ⟨Y, hY⟩ : ∃ Y, w1.alloc (.cells #[.int .i64 (N : Int), .slice ou le cu] 24) = Y := ⟨_, rfl⟩
  have bY1 : Below w1.heap.size w1 Y := by rw [← hY]; exact (Below.refl _ w1).alloc (Nat.le_refl _) _
  have bY : Below V.heap.size V Y := b1.trans (bY1.mono b1.size)
  have rg : Y.heap[kG]? = some (.cells #[.int .i64 (N : Int), .slice ou le cu] 24 (0, 0)) := by rw [← hY, ← hkG]; exact heap_alloc_new _ _
  have hel := (el_own hown).2.below bY1
  have heb : ∀ k, (Value.slice ou le cu).ownBlock = some k → V.heap.size + 2 ≤ k := fun k hk => (hown.lt k hk).1
  obtain ⟨bV, ⟨s1, s2, s3, s4⟩, sV, -⟩ := HW.out
  have q {k : Nat} {o : Obj} (e : V.heap[k]? = some o) : Y.heap[k]? = some o := (bY.block _ (Array.getElem?_eq_some_iff.1 e).1).trans e
  have sG : V.heap.size ≤ kG := by rw [← hkG]; exact b1.size
  -- a and b, cut to the graph
  obtain ⟨ra, hra, hra2⟩ := and_ex65535 x
  obtain ⟨rb, hrb, hrb2⟩ := and_ex65535 y
  obtain ⟨a, ha⟩ : ∃ a, ra % N = a := ⟨_, rfl⟩
  obtain ⟨b, hb⟩ : ∃ b, rb % N = b := ⟨_, rfl⟩
  have haN : a < N := by rw [← ha]; exact Nat.mod_lt _ h1
  have hbN : b < N := by rw [← hb]; exact Nat.mod_lt _ h1
  have qa := tmod_n ra N hra2
  have qb := tmod_n rb N hrb2
  rw [ha] at qa
  rw [hb] at qb
  have qae := emod_n ra N
  have qbe := emod_n rb N
  rw [ha] at qae
  rw [hb] at qbe
  have hN0 : ¬ (N : Int) = 0 := by omega
  obtain ⟨Y2, hY2⟩ : ∃ Z, Y.setCell ⟨kA, 0, none⟩ (.int .i64 (a : Int)) = Z := ⟨_, rfl⟩
  obtain ⟨Y3, hY3⟩ : ∃ Z, Y2.setCell ⟨kB, 0, none⟩ (.int .i64 (b : Int)) = Z := ⟨_, rfl⟩
  have st (A : World) (k : Nat) (u0 u1 : Value) (h : A.heap[k]? = some (.cells #[u0] 3 (0, 0))) : (A.setCell ⟨k, 0, none⟩ u1).heap[k]? = some (.cells #[u1] 3 (0, 0)) := by
    rw [setCell_eq_setRow A k 0 _ _ _ _ h]
    exact setRow_heap _ _ _ _ _ _ h
  have ot (A : World) (k l : Nat) (u1 : Value) (h : k ≠ l) : (A.setCell ⟨l, 0, none⟩ u1).heap[k]? = A.heap[k]? := heap_setCell_other A ⟨l, 0, none⟩ k u1 h
  obtain ⟨-, -, -, e0, e1, e2, e3⟩ := HW.out
  have o2 : ∀ k, k ≠ kA → Y2.heap[k]? = Y.heap[k]? := fun k hk => by rw [← hY2]; exact ot Y k kA _ hk
  have o3 : ∀ k, k ≠ kB → Y3.heap[k]? = Y2.heap[k]? := fun k hk => by rw [← hY3]; exact ot Y2 k kB _ hk
  have a2 : Y2.heap[kA]? = some (.cells #[.int .i64 (a : Int)] 3 (0, 0)) := by rw [← hY2]; exact st Y kA _ _ (q s2)
  have b2 : Y2.heap[kB]? = some (.cells #[.int .i64 y] 3 (0, 0)) := (o2 kB (by omega)).trans (q s3)
  have b3 : Y3.heap[kB]? = some (.cells #[.int .i64 (b : Int)] 3 (0, 0)) := by rw [← hY3]; exact st Y2 kB _ _ b2
  have a3 : Y3.heap[kA]? = some (.cells #[.int .i64 (a : Int)] 3 (0, 0)) := (o3 kA (by omega)).trans a2
  have g2 : Y2.heap[kG]? = some (.cells #[.int .i64 (N : Int), .slice ou le cu] 24 (0, 0)) := (o2 kG (by omega)).trans rg
  have g3 : Y3.heap[kG]? = some (.cells #[.int .i64 (N : Int), .slice ou le cu] 24 (0, 0)) := (o3 kG (by omega)).trans g2
  have n3 : Y3.heap[kN]? = some (.cells #[.int .i64 n] 3 (0, 0)) := (o3 kN (by omega)).trans ((o2 kN (by omega)).trans (q s1))
  have r3 : Y3.heap[kR]? = some (.cells #[.bool false] 4 (0, 0)) := (o3 kR (by omega)).trans ((o2 kR (by omega)).trans (q s4))
  have z3 : Y3.heap.size = Y.heap.size := by rw [← hY3, ← hY2]; simp
  have bel3 : Below W.heap.size W Y3 := by
    rw [← hY3, ← hY2]
    exact ((bV.trans (bY.mono bV.size)).setCell (p := ⟨kA, 0, none⟩) (by show W.heap.size ≤ kA; omega) _).setCell (p := ⟨kB, 0, none⟩) (by show W.heap.size ≤ kB; omega) _
  have el3 : El (.slice ou le cu) (zE E) Y3 := hel.keep (by rw [z3]; exact Nat.le_refl _) fun k hk _ => by
    have := heb k hk
    exact (o3 k (by omega)).trans (o2 k (by omega))
  have CL := leads_any N (by omega) E hE2 (by omega) (.slice ou le cu) Y3 el3
  have cY0 : Y.cell? ⟨kG, 0, none⟩ = some (.int .i64 (N : Int)) := (cell_of_row _ _ _ _ _ _ rg).trans rfl
  have cYA : Y.cell? ⟨kA, 0, none⟩ = some (.int .i64 x) := (cell_of_row _ _ _ _ _ _ (q s2)).trans rfl
  have fYA : Y.frozen? ⟨kA, 0, none⟩ = false := frozen_of_row _ _ _ _ _ (q s2)
  have cY2 : Y2.cell? ⟨kG, 0, none⟩ = some (.int .i64 (N : Int)) := (cell_of_row _ _ _ _ _ _ g2).trans rfl
  have cYB : Y2.cell? ⟨kB, 0, none⟩ = some (.int .i64 y) := (cell_of_row _ _ _ _ _ _ b2).trans rfl
  have fYB : Y2.frozen? ⟨kB, 0, none⟩ = false := frozen_of_row _ _ _ _ _ b2
  have cY3 : Y3.cell? ⟨kG, 0, none⟩ = some (.int .i64 (N : Int)) := (cell_of_row _ _ _ _ _ _ g3).trans rfl
  have cY4 : Y3.cell? ⟨kG, 1, none⟩ = some (.slice ou le cu) := (cell_of_row _ _ _ _ _ _ g3).trans rfl
  have HY := mkHid (And.intro bel3 (And.intro n3 (And.intro a3 (And.intro b3 (And.intro r3 (And.intro g3 (And.intro el3 (And.intro h1 (And.intro h60 (And.intro haN (And.intro hbN (And.intro hE2 (And.intro hEl (And.intro heb (And.intro sV sG)))))))))))))))
  replace hY := mkHid hY
  unfold grV at CL ⊢
  clear C1 bY1 bY rg hel heb bV s1 s2 s3 s4 sV q sG hra2 hrb2 ha hb haN hbN st ot e0 e1 e2 e3 o2 o3 a2 b2 b3 a3 g2 g3 n3 r3 z3 bel3 el3 hown b1 hle h1 h60 hE2 hEl cN cNr
  dsimp only
  go_upto_region 2 with fail
  try rw [hkG]
  rw [hY.out]
  go_upto_region 4 with fail
  rename_i K1 hk1
  have HK1 := mkHid hk1
  clear hk1
  go_wp2_with fail
  refine Calls.mono CL ?_
  rintro e w4 ⟨gM, C, rfl, mx⟩
  clear CL
  obtain ⟨kM, hkM⟩ : ∃ k, w4.heap.size = k := ⟨_, rfl⟩
  obtain ⟨X, hX⟩ : ∃ X, w4.alloc (.cells #[.slice (some ⟨gM, 0, none⟩) N N] 26) = X := ⟨_, rfl⟩
  have HX : Hid (Wa W kN kA kB kR kG kM gM N a b E (.slice ou le cu) n X) := by
    obtain ⟨bel3, n3, a3, b3, r3, g3, el3, -, -, -, -, -, -, heb, sV, sG⟩ := HY.out
    obtain ⟨-, -, -, e0, e1, e2, e3⟩ := HW.out
    have bX : Below w4.heap.size w4 X := by rw [← hX]; exact (Below.refl _ w4).alloc (Nat.le_refl _) _
    have b3X := mx.bel.trans (bX.mono mx.bel.size)
    have q {k : Nat} {o : Obj} (e : Y3.heap[k]? = some o) : X.heap[k]? = some o := (b3X.block _ (Array.getElem?_eq_some_iff.1 e).1).trans e
    have q4 {k : Nat} {o : Obj} (e : w4.heap[k]? = some o) : X.heap[k]? = some o := (bX.block _ (Array.getElem?_eq_some_iff.1 e).1).trans e
    have hg := mx.hg
    have lR := (Array.getElem?_eq_some_iff.1 r3).1
    have bs := mx.bel.size
    exact ⟨bel3.trans (b3X.mono bel3.size), q n3, q a3, q b3, q r3, q g3, el3.below b3X, by rw [← hX, ← hkM]; exact heap_alloc_new _ _, q4 mx.out, fun i hi => q4 (mx.row i hi), e0, e1, e2, e3, by omega, by omega, by omega, ⟨_, _, _, rfl⟩, fun k hk => by have := heb k hk; omega⟩
  dsimp only
  go_wp2_with fail
  try rw [hkM]
  try rw [hX]
  obtain ⟨K, hm⟩ := wm_of HY.out.2.2.2.2.2.2.2.1 HY.out.2.2.2.2.2.2.2.2.1 HY.out.2.2.2.2.2.2.2.2.2.1 HY.out.2.2.2.2.2.2.2.2.2.2.1 HY.out.2.2.2.2.2.2.2.2.2.2.2.1 HY.out.2.2.2.2.2.2.2.2.2.2.2.2.1
  exact HK1.out _ _ (gwJ W X HX.out hm)
end Go.Proofs.Ytibhjkmbbfgnpaa
