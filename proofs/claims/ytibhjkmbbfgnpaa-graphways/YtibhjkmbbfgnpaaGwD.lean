/- GraphWays: the law: what stands behind the loop. -/
import Derived.Test.YtibhjkmbbfgnpaaGwC
namespace Go.Proofs.Ytibhjkmbbfgnpaa
open Go.RowKit GM Gwx
theorem wrP {d m : Nat} (h : d + 1 = m) (h2 : m < 1000000) : wrap64 ((d : Int) + 1) = (m : Int) := by unfold wrap64; omega
theorem wrQ {d m : Nat} (h : d + 1 = m) (h2 : m < 1000000) : wrap64 ((m : Int) - 1) = (d : Int) := by unfold wrap64; omega
theorem wrapE (x : Int) : IntKind.i64.wrap x = wrap64 x := by rw [IntKind.wrap_i64]; unfold wrap64; omega
theorem below_put {W U : World} {kD : Nat} (h : Below W.heap.size W U) (hk : W.heap.size ≤ kD) (o : Obj) : Below W.heap.size W (U.putObj kD o) := ⟨h.os, h.tape, h.output, by simpa [World.putObj] using h.size, fun k hk2 => (World.putObj_heap_other (by omega)).trans (h.block k hk2)⟩
set_option maxRecDepth 100000 in
set_option maxHeartbeats 6400000 in
/-- From region 35 on, up to region 41. -/
theorem gw35 (W X : World) {kN kA kB kR kG kM gM N a b K nl cl nw cw kF kD : Nat} {ol ow : Option Addr} {r : Bool} {E : List (Nat × Nat)} {ev : Value} {fr : Int} (hw : Wa W kN kA kB kR kG kM gM N a b E ev (nl : Int) X) (hm : Wm N a b E K) (hf : Wf kR N a b E r (.slice ow nw cw) fr X) (rF : X.heap[kF]? = some (.cells #[.int .i64 fr] 3 (0, 0))) (rD : X.heap[kD]? = some (.deferred (some []))) (hD : W.heap.size ≤ kD)
    (HT : ∀ (U : World) (d : Nat) (Lw : List Nat) {v0 v1 v2 v3 v5 v11 v12 v13 v14 v15 v16 v18 v19 v21 v22 v23 v24 v25 v26 v27 v28 v29 v30 v31 v32 v33 v34 v35 v36 v37 v38 v39 v40 v41 v42 v43 v44 v45 v46 v47 v48 v49 v50 v51 v52 v53 v54 v55 v56 v57 v58 v59 v60 v61 v62 v63 v64 v65 v66 v67 v68 v69 v70 v71 v72 v73 v74 v75 v76 v77 v78 v79 v80 v81 v82 v83 v84 v85 v86 v87 v88 v89 v90 v91 v92 v93 v94 v95 v96 v97 v98 v99 v100 v101 v102 v103 v104 v105 v106 v107 v108 v109 v110 v111 v112 v113 v114 v115 v116 v117 v118 v119 v120 v121 v122 v123 v124 v125 v126 v127 v128 v129 v130 v131 v132 v133 v134 v135 v136 v137 v138 v139 v140 v141 v142 v143 v144 v145 v146 v147 v148 v149 v150 v151 v152 v153 v154 v155 v156 v157 v158 v159 v160 v161 v162 v163 v164 v165 v166 v167 v168 v169 v170 v171 v172 v173 v174 v175 v176 v177 v178 v179 v180 v181 v182 v183 v184 v185 v186 v187 v188 v189 v190 v191 v192 v193 v194 v195 v196 v197 v198 v199 v200 v201 v202 v203 v204 v205 v206 v207 v208 v209 v210 v211 v212 v213 v214 v215 v216 v217 v218 v219 v220 v221 v222 v223 v224 v225 v226 v227 v228 v229 v230 v231 v232 v233 v234 v235 v236 v237 v238 v239 v240 v241 v242 v243 v244 v245 v246 v247 v248 v249 : Value}, Below X.heap.size X U → Pth (ndF N E) a b d Lw → Iz (kR + 1) (.slice ow nw cw) Lw U → fr = (d : Int) → Code.wp Try.prog (tlF Try.f3 41) (bodyPostM Fence.wide 9 Try.prog Try.f3 (fun e w' => e = .returned (.bool true) ∧ Below W.heap.size W w')) ⟨#[v0, v1, v2, v3, .pointer (some ⟨kN, 0, none⟩), v5, .pointer (some ⟨kA, 0, none⟩), .pointer (some ⟨kB, 0, none⟩), .pointer (some ⟨kR, 0, none⟩), .pointer (some ⟨kG, 0, none⟩), .pointer (some ⟨kM, 0, none⟩), v11, v12, v13, v14, v15, v16, .slice ow nw cw, v18, v19, .pointer (some ⟨kF, 0, none⟩), v21, v22, v23, v24, v25, v26, v27, v28, v29, v30, v31, v32, v33, v34, v35, v36, v37, v38, v39, v40, v41, v42, v43, v44, v45, v46, v47, v48, v49, v50, v51, v52, v53, v54, v55, v56, v57, v58, v59, v60, v61, v62, v63, v64, v65, v66, v67, v68, v69, v70, v71, v72, v73, v74, v75, v76, v77, v78, v79, v80, v81, v82, v83, v84, v85, v86, v87, v88, v89, v90, v91, v92, v93, v94, v95, v96, v97, v98, v99, v100, v101, v102, v103, v104, v105, v106, v107, v108, v109, v110, v111, v112, v113, v114, v115, v116, v117, v118, v119, v120, v121, v122, v123, v124, v125, v126, v127, v128, v129, v130, v131, v132, v133, v134, v135, v136, v137, v138, v139, v140, v141, v142, v143, v144, v145, v146, v147, v148, v149, v150, v151, v152, v153, v154, v155, v156, v157, v158, v159, v160, v161, v162, v163, v164, v165, v166, v167, v168, v169, v170, v171, v172, v173, v174, v175, v176, v177, v178, v179, v180, v181, v182, v183, v184, v185, v186, v187, v188, v189, v190, v191, v192, v193, v194, v195, v196, v197, v198, v199, v200, v201, v202, v203, v204, v205, v206, v207, v208, v209, v210, v211, v212, v213, v214, v215, v216, v217, v218, v219, v220, v221, v222, v223, v224, v225, v226, v227, v228, v229, v230, v231, v232, v233, v234, v235, v236, v237, v238, v239, v240, v241, v242, v243, v244, v245, v246, v247, v248, v249], [{ target := .collected kD, args := #[] }]⟩ U) {v0 v1 v2 v3 v5 v12 v13 v14 v16 v18 v19 v21 v22 v23 v24 v25 v26 v27 v28 v29 v30 v31 v32 v33 v34 v35 v36 v37 v38 v39 v40 v41 v42 v43 v44 v45 v46 v47 v48 v49 v50 v51 v52 v53 v54 v55 v56 v57 v58 v59 v60 v61 v62 v63 v64 v65 v66 v67 v68 v69 v70 v71 v72 v73 v74 v75 v76 v77 v78 v79 v80 v81 v82 v83 v84 v85 v86 v87 v88 v89 v90 v91 v92 v93 v94 v95 v96 v97 v98 v99 v100 v101 v102 v103 v104 v105 v106 v107 v108 v109 v110 v111 v112 v113 v114 v115 v116 v117 v118 v119 v120 v121 v122 v123 v124 v125 v126 v127 v128 v129 v130 v131 v132 v133 v134 v135 v136 v137 v138 v139 v140 v141 v142 v143 v144 v145 v146 v147 v148 v149 v150 v151 v152 v153 v154 v155 v156 v157 v158 v159 v160 v161 v162 v163 v164 v165 v166 v167 v168 v169 v170 v171 v172 v173 v174 v175 v176 v177 v178 v179 v180 v181 v182 v183 v184 v185 v186 v187 v188 v189 v190 v191 v192 v193 v194 v195 v196 v197 v198 v199 v200 v201 v202 v203 v204 v205 v206 v207 v208 v209 v210 v211 v212 v213 v214 v215 v216 v217 v218 v219 v220 v221 v222 v223 v224 v225 v226 v227 v228 v229 v230 v231 v232 v233 v234 v235 v236 v237 v238 v239 v240 v241 v242 v243 v244 v245 v246 v247 v248 v249 : Value} :
    Code.wp Try.prog (tlF Try.f3 35) (bodyPostM Fence.wide 9 Try.prog Try.f3 (fun e w' => e = .returned (.bool true) ∧ Below W.heap.size W w')) ⟨#[v0, v1, v2, v3, .pointer (some ⟨kN, 0, none⟩), v5, .pointer (some ⟨kA, 0, none⟩), .pointer (some ⟨kB, 0, none⟩), .pointer (some ⟨kR, 0, none⟩), .pointer (some ⟨kG, 0, none⟩), .pointer (some ⟨kM, 0, none⟩), .slice ol nl cl, v12, v13, v14, .bool r, v16, .slice ow nw cw, v18, v19, .pointer (some ⟨kF, 0, none⟩), v21, v22, v23, v24, v25, v26, v27, v28, v29, v30, v31, v32, v33, v34, v35, v36, v37, v38, v39, v40, v41, v42, v43, v44, v45, v46, v47, v48, v49, v50, v51, v52, v53, v54, v55, v56, v57, v58, v59, v60, v61, v62, v63, v64, v65, v66, v67, v68, v69, v70, v71, v72, v73, v74, v75, v76, v77, v78, v79, v80, v81, v82, v83, v84, v85, v86, v87, v88, v89, v90, v91, v92, v93, v94, v95, v96, v97, v98, v99, v100, v101, v102, v103, v104, v105, v106, v107, v108, v109, v110, v111, v112, v113, v114, v115, v116, v117, v118, v119, v120, v121, v122, v123, v124, v125, v126, v127, v128, v129, v130, v131, v132, v133, v134, v135, v136, v137, v138, v139, v140, v141, v142, v143, v144, v145, v146, v147, v148, v149, v150, v151, v152, v153, v154, v155, v156, v157, v158, v159, v160, v161, v162, v163, v164, v165, v166, v167, v168, v169, v170, v171, v172, v173, v174, v175, v176, v177, v178, v179, v180, v181, v182, v183, v184, v185, v186, v187, v188, v189, v190, v191, v192, v193, v194, v195, v196, v197, v198, v199, v200, v201, v202, v203, v204, v205, v206, v207, v208, v209, v210, v211, v212, v213, v214, v215, v216, v217, v218, v219, v220, v221, v222, v223, v224, v225, v226, v227, v228, v229, v230, v231, v232, v233, v234, v235, v236, v237, v238, v239, v240, v241, v242, v243, v244, v245, v246, v247, v248, v249], [{ target := .collected kD, args := #[] }]⟩ X := by
  have cN : X.cell? ⟨kN, 0, none⟩ = some (.int .i64 (nl : Int)) := (cell_of_row _ _ _ _ _ _ hw.n).trans rfl
  have cF : X.cell? ⟨kF, 0, none⟩ = some (.int .i64 fr) := (cell_of_row _ _ _ _ _ _ rF).trans rfl
  have cR : X.cell? ⟨kR, 0, none⟩ = some (.bool false) := (cell_of_row _ _ _ _ _ _ hw.r).trans rfl
  have fR : X.frozen? ⟨kR, 0, none⟩ = false := frozen_of_row _ _ _ _ _ hw.r
  rcases hf with ⟨rfl, rfl, hq⟩ | ⟨rfl, d, Lw, hP, hz, rfl⟩
  · obtain ⟨Y, hY⟩ : ∃ Y, X.setCell ⟨kR, 0, none⟩ (.bool true) = Y := ⟨_, rfl⟩
    have HY : Hid (Y.heap[kR]? = some (.cells #[.bool true] 4 (0, 0)) ∧ Y.heap[kD]? = some (.deferred (some [])) ∧ Below W.heap.size W Y ∧ W.heap.size ≤ kD ∧ kD ≠ kR) := by
      have hne : kD ≠ kR := fun e => by
        have := hw.r
        rw [← e, rD] at this
        cases this
      have hWR : W.heap.size ≤ kR := by have := hw.k0; have := hw.k1; have := hw.k2; have := hw.k3; omega
      refine ⟨?_, ?_, ?_, hD, hne⟩
      · rw [← hY, setCell_eq_setRow X kR 0 _ _ _ _ hw.r]
        exact setRow_heap _ _ _ _ _ _ hw.r
      · rw [← hY]
        exact (heap_setCell_other X ⟨kR, 0, none⟩ kD _ hne).trans rD
      · rw [← hY]
        exact hw.bel.setCell (p := ⟨kR, 0, none⟩) hWR _
    clear hw hm rF rD hD HT hq
    conv => arg 2; whnf
    go_wp2_with fail
    try rw [hY]
    obtain ⟨r1, r2, r3, r4, r5⟩ := HY.out
    refine ⟨by simp, .inl ⟨_, _, rfl, run_takeDeferred r2, ?_⟩⟩
    have r6 : (Y.putObj kD (.deferred none)).heap[kR]? = some (.cells #[.bool true] 4 (0, 0)) := (World.putObj_heap_other (Ne.symm r5)).trans r1
    have hc5 : (Y.putObj kD (.deferred none)).cell? ⟨kR, 0, none⟩ = some (.bool true) := (cell_of_row _ _ _ _ _ _ r6).trans rfl
    refine ⟨.bool true, ?_, rfl, below_put r3 r4 _⟩
    simp [results, Try.f3, go_sem, hc5]
  · obtain ⟨gw, ow', cw', e, hcw⟩ := hz.form
    have hln := hP.ln
    rw [hln] at e hcw
    injection e with e1 e2 e3
    subst e1 e3
    obtain ⟨off, rfl, -, hcc⟩ := hcw (Nat.succ_pos _)
    have c1 := hcc 0 (Nat.succ_pos _)
    have c2 := hcc d (Nat.lt_succ_self d)
    rw [hP.hd] at c1
    rw [hP.tl] at c2
    have hdN : d < 1000 := by
      have := ds_lt hm.hK d b hP.ds
      have := hm.hKN
      have := hm.h60
      omega
    have p1 := wrP e2.symm (by omega)
    have p2 := wrQ e2.symm (by omega)
    have p1' : IntKind.i64.wrap ((d : Int) + 1) = (nw : Int) := (wrapE _).trans p1
    have p2' : IntKind.i64.wrap ((nw : Int) - 1) = (d : Int) := (wrapE _).trans p2
    have c := hw.c
    have yF : ∀ k, (X.drewN k).cell? ⟨kF, 0, none⟩ = some (.int .i64 (d : Int)) := fun _ => cF
    have yA : ∀ k, (X.drewN k).cell? ⟨kA, 0, none⟩ = some (.int .i64 (a : Int)) := fun _ => c.a
    have yB : ∀ k, (X.drewN k).cell? ⟨kB, 0, none⟩ = some (.int .i64 (b : Int)) := fun _ => c.b
    have y1 : ∀ k, (X.drewN k).cell? ⟨gw, off + 0, none⟩ = some (.int .i64 (a : Int)) := fun _ => c1
    have y2 : ∀ k, (X.drewN k).cell? ⟨gw, off + d, none⟩ = some (.int .i64 (b : Int)) := fun _ => c2
    have y10 : ∀ k, (X.drewN k).cell? ⟨gw, off, none⟩ = some (.int .i64 (a : Int)) := fun _ => c1
    have d0 := geN d
    have d1 : (d : Int) < (nw : Int) := ltN (by omega)
    have w0 : (0 : Int) < (nw : Int) := by omega
    have hge : (0 : Int) ≤ (d : Int) := geN d
    have HP := mkHid (And.intro hP hz)
    clear hw hm rF rD hD hP hz hcw hcc c1 c2 hln hdN e2 c
    conv => arg 2; whnf
    go_upto_region 39 with fail
    rename_i K1 hk1 K2 hk2
    have HK1 := mkHid hk1
    clear hk1
    go_quiet (fail)
    go_wp2_with fail
    exact HK1.out _ _ (HT _ d Lw (drewN_below (Below.refl _ X) _) HP.out.1 (HP.out.2.drewN _) rfl)
end Go.Proofs.Ytibhjkmbbfgnpaa
