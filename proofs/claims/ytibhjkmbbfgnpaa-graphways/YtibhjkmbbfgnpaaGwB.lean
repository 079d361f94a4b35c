/- GraphWays: the law: Reaches and Way. -/
import Derived.Test.YtibhjkmbbfgnpaaGwA
namespace Go.Proofs.Ytibhjkmbbfgnpaa
open Go.RowKit GM Gwx
/-- What Reaches and Way answered. -/
def Wr (kR N a b : Nat) (E : List (Nat × Nat)) (r : Bool) (wv : Value) (U : World) : Prop := (r = false ∧ ∀ d, ¬ Bl (ndF N E) a d b) ∨ (r = true ∧ ∃ d Lw, Pth (ndF N E) a b d Lw ∧ Iz (kR + 1) wv Lw U)
theorem drewN_below {B : Nat} {W X : World} (h : Below B W X) (k : Nat) : Below B W (X.drewN k) := ⟨h.os, h.tape, h.output, h.size, h.block⟩
theorem Iz.drewN {B : Nat} {v : Value} {l : List Nat} {w : World} (h : Iz B v l w) (k : Nat) : Iz B v l (w.drewN k) := h.keep (Nat.le_refl _) fun _ _ _ => rfl
set_option maxRecDepth 100000 in
set_option maxHeartbeats 6400000 in
/-- From region 16 on, up to region 20. -/
theorem gw16 (W X : World) {kN kA kB kR kG kM gM N a b K nl cl : Nat} {ol : Option Addr} {E : List (Nat × Nat)} {ev : Value} {x : Int} (hw : Wa W kN kA kB kR kG kM gM N a b E ev x X) (hm : Wm N a b E K)
    (HT : ∀ (U : World) (r : Bool) (ow : Option Addr) (nw cw : Nat) {v0 v1 v2 v3 v5 v12 v13 v14 v16 v18 v19 v20 v21 v22 v23 v24 v25 v26 v27 v28 v29 v30 v31 v32 v33 v34 v35 v36 v37 v38 v39 v40 v41 v42 v43 v44 v45 v46 v47 v48 v49 v50 v51 v52 v53 v54 v55 v56 v57 v58 v59 v60 v61 v62 v63 v64 v65 v66 v67 v68 v69 v70 v71 v72 v73 v74 v75 v76 v77 v78 v79 v80 v81 v82 v83 v84 v85 v86 v87 v88 v89 v90 v91 v92 v93 v94 v95 v96 v97 v98 v99 v100 v101 v102 v103 v104 v105 v106 v107 v108 v109 v110 v111 v112 v113 v114 v115 v116 v117 v118 v119 v120 v121 v122 v123 v124 v125 v126 v127 v128 v129 v130 v131 v132 v133 v134 v135 v136 v137 v138 v139 v140 v141 v142 v143 v144 v145 v146 v147 v148 v149 v150 v151 v152 v153 v154 v155 v156 v157 v158 v159 v160 v161 v162 v163 v164 v165 v166 v167 v168 v169 v170 v171 v172 v173 v174 v175 v176 v177 v178 v179 v180 v181 v182 v183 v184 v185 v186 v187 v188 v189 v190 v191 v192 v193 v194 v195 v196 v197 v198 v199 v200 v201 v202 v203 v204 v205 v206 v207 v208 v209 v210 v211 v212 v213 v214 v215 v216 v217 v218 v219 v220 v221 v222 v223 v224 v225 v226 v227 v228 v229 v230 v231 v232 v233 v234 v235 v236 v237 v238 v239 v240 v241 v242 v243 v244 v245 v246 v247 v248 v249 : Value}, Below X.heap.size X U → Wr kR N a b E r (.slice ow nw cw) U → Code.wp Try.prog (tlF Try.f3 20) (bodyPostM Fence.wide 9 Try.prog Try.f3 (fun e w' => e = .returned (.bool true) ∧ Below W.heap.size W w')) ⟨#[v0, v1, v2, v3, .pointer (some ⟨kN, 0, none⟩), v5, .pointer (some ⟨kA, 0, none⟩), .pointer (some ⟨kB, 0, none⟩), .pointer (some ⟨kR, 0, none⟩), .pointer (some ⟨kG, 0, none⟩), .pointer (some ⟨kM, 0, none⟩), .slice ol nl cl, v12, v13, v14, .bool r, v16, .slice ow nw cw, v18, v19, v20, v21, v22, v23, v24, v25, v26, v27, v28, v29, v30, v31, v32, v33, v34, v35, v36, v37, v38, v39, v40, v41, v42, v43, v44, v45, v46, v47, v48, v49, v50, v51, v52, v53, v54, v55, v56, v57, v58, v59, v60, v61, v62, v63, v64, v65, v66, v67, v68, v69, v70, v71, v72, v73, v74, v75, v76, v77, v78, v79, v80, v81, v82, v83, v84, v85, v86, v87, v88, v89, v90, v91, v92, v93, v94, v95, v96, v97, v98, v99, v100, v101, v102, v103, v104, v105, v106, v107, v108, v109, v110, v111, v112, v113, v114, v115, v116, v117, v118, v119, v120, v121, v122, v123, v124, v125, v126, v127, v128, v129, v130, v131, v132, v133, v134, v135, v136, v137, v138, v139, v140, v141, v142, v143, v144, v145, v146, v147, v148, v149, v150, v151, v152, v153, v154, v155, v156, v157, v158, v159, v160, v161, v162, v163, v164, v165, v166, v167, v168, v169, v170, v171, v172, v173, v174, v175, v176, v177, v178, v179, v180, v181, v182, v183, v184, v185, v186, v187, v188, v189, v190, v191, v192, v193, v194, v195, v196, v197, v198, v199, v200, v201, v202, v203, v204, v205, v206, v207, v208, v209, v210, v211, v212, v213, v214, v215, v216, v217, v218, v219, v220, v221, v222, v223, v224, v225, v226, v227, v228, v229, v230, v231, v232, v233, v234, v235, v236, v237, v238, v239, v240, v241, v242, v243, v244, v245, v246, v247, v248, v249], []⟩ U) {v0 v1 v2 v3 v5 v12 v14 v15 v16 v17 v18 v19 v20 v21 v22 v23 v24 v25 v26 v27 v28 v29 v30 v31 v32 v33 v34 v35 v36 v37 v38 v39 v40 v41 v42 v43 v44 v45 v46 v47 v48 v49 v50 v51 v52 v53 v54 v55 v56 v57 v58 v59 v60 v61 v62 v63 v64 v65 v66 v67 v68 v69 v70 v71 v72 v73 v74 v75 v76 v77 v78 v79 v80 v81 v82 v83 v84 v85 v86 v87 v88 v89 v90 v91 v92 v93 v94 v95 v96 v97 v98 v99 v100 v101 v102 v103 v104 v105 v106 v107 v108 v109 v110 v111 v112 v113 v114 v115 v116 v117 v118 v119 v120 v121 v122 v123 v124 v125 v126 v127 v128 v129 v130 v131 v132 v133 v134 v135 v136 v137 v138 v139 v140 v141 v142 v143 v144 v145 v146 v147 v148 v149 v150 v151 v152 v153 v154 v155 v156 v157 v158 v159 v160 v161 v162 v163 v164 v165 v166 v167 v168 v169 v170 v171 v172 v173 v174 v175 v176 v177 v178 v179 v180 v181 v182 v183 v184 v185 v186 v187 v188 v189 v190 v191 v192 v193 v194 v195 v196 v197 v198 v199 v200 v201 v202 v203 v204 v205 v206 v207 v208 v209 v210 v211 v212 v213 v214 v215 v216 v217 v218 v219 v220 v221 v222 v223 v224 v225 v226 v227 v228 v229 v230 v231 v232 v233 v234 v235 v236 v237 v238 v239 v240 v241 v242 v243 v244 v245 v246 v247 v248 v249 : Value} :
    Code.wp Try.prog (tlF Try.f3 16) (bodyPostM Fence.wide 9 Try.prog Try.f3 (fun e w' => e = .returned (.bool true) ∧ Below W.heap.size W w')) ⟨#[v0, v1, v2, v3, .pointer (some ⟨kN, 0, none⟩), v5, .pointer (some ⟨kA, 0, none⟩), .pointer (some ⟨kB, 0, none⟩), .pointer (some ⟨kR, 0, none⟩), .pointer (some ⟨kG, 0, none⟩), .pointer (some ⟨kM, 0, none⟩), .slice ol nl cl, v12, .int .i64 (nl : Int), v14, v15, v16, v17, v18, v19, v20, v21, v22, v23, v24, v25, v26, v27, v28, v29, v30, v31, v32, v33, v34, v35, v36, v37, v38, v39, v40, v41, v42, v43, v44, v45, v46, v47, v48, v49, v50, v51, v52, v53, v54, v55, v56, v57, v58, v59, v60, v61, v62, v63, v64, v65, v66, v67, v68, v69, v70, v71, v72, v73, v74, v75, v76, v77, v78, v79, v80, v81, v82, v83, v84, v85, v86, v87, v88, v89, v90, v91, v92, v93, v94, v95, v96, v97, v98, v99, v100, v101, v102, v103, v104, v105, v106, v107, v108, v109, v110, v111, v112, v113, v114, v115, v116, v117, v118, v119, v120, v121, v122, v123, v124, v125, v126, v127, v128, v129, v130, v131, v132, v133, v134, v135, v136, v137, v138, v139, v140, v141, v142, v143, v144, v145, v146, v147, v148, v149, v150, v151, v152, v153, v154, v155, v156, v157, v158, v159, v160, v161, v162, v163, v164, v165, v166, v167, v168, v169, v170, v171, v172, v173, v174, v175, v176, v177, v178, v179, v180, v181, v182, v183, v184, v185, v186, v187, v188, v189, v190, v191, v192, v193, v194, v195, v196, v197, v198, v199, v200, v201, v202, v203, v204, v205, v206, v207, v208, v209, v210, v211, v212, v213, v214, v215, v216, v217, v218, v219, v220, v221, v222, v223, v224, v225, v226, v227, v228, v229, v230, v231, v232, v233, v234, v235, v236, v237, v238, v239, v240, v241, v242, v243, v244, v245, v246, v247, v248, v249], []⟩ X := by
  obtain ⟨oe, ne, ce, rfl⟩ := hw.ev0
  have HW := mkHid (And.intro hw hm)
  have hc := chk_zero hm.hE (by have := hm.h60; omega) (by have := hm.hEl; omega)
  have C1 := reaches_any N (by have := hm.h60; omega) E hm.hE (by have := hm.hEl; omega) _ X hw.el hc a b hm.ha hm.hb
  have c := hw.c
  have ca := c.a
  have cb := c.b
  have c0 := c.g0
  have c1 := c.g1
  have hxs : kR + 1 ≤ X.heap.size := (Array.getElem?_eq_some_iff.1 hw.r).1
  have HS := mkHid (And.intro hxs hc)
  unfold grV at C1
  clear hw hm c hxs hc
  conv => arg 2; whnf
  go_wp2_with fail
  refine Calls.mono C1 ?_
  rintro e X2 ⟨b1, r, rfl, hr⟩
  have hw2 := HW.out.1.below b1
  have C2 := way_any N (by have := HW.out.2.h60; omega) E HW.out.2.hE (by have := HW.out.2.hEl; omega) _ X2 hw2.el HS.out.2 a b HW.out.2.ha HW.out.2.hb
  have c := hw2.c
  have da := c.a
  have db := c.b
  have d0 := c.g0
  have d1 := c.g1
  have HR := mkHid (And.intro b1 (And.intro hr hw2))
  unfold grV at C2
  clear C1 ca cb c0 c1 c b1 hr hw2
  dsimp only
  go_upto_region 17 with fail
  go_wp2_with fail
  refine Calls.mono C2 ?_
  rintro e X3 ⟨b2, ⟨rfl, hq⟩ | ⟨d, L, ow, cw, hP, rfl, ho⟩⟩
  · have hr : r = false := by
      have := HR.out.2.1
      cases r with
      | false => rfl
      | true =>
        obtain ⟨d, hd⟩ := this.1 rfl
        exact absurd hd (hq d)
    subst hr
    have hpb : Gl.pb E N a b = false := by
      cases hp : Gl.pb E N a b with
      | false => rfl
      | true =>
        obtain ⟨d, hd⟩ := (HW.out.2.reach b).1 hp
        exact absurd hd (hq d)
    have hw3 := HR.out.2.2.below b2
    have c := hw3.c
    have yA : ∀ k, (X3.drewN k).cell? ⟨kA, 0, none⟩ = some (.int .i64 (a : Int)) := fun _ => c.a
    have yB : ∀ k, (X3.drewN k).cell? ⟨kB, 0, none⟩ = some (.int .i64 (b : Int)) := fun _ => c.b
    have yM : ∀ k, (X3.drewN k).cell? ⟨kM, 0, none⟩ = some (.slice (some ⟨gM, 0, none⟩) N N) := fun _ => c.m
    have yR : ∀ k, (X3.drewN k).cell? ⟨gM, a, none⟩ = some (.slice (some ⟨gM + 1 + a, 0, none⟩) N N) := fun _ => c.mo a HW.out.2.ha
    have yC : ∀ k, (X3.drewN k).cell? ⟨gM + 1 + a, b, none⟩ = some (.bool false) := fun _ => by rw [← hpb]; exact c.mr a b HW.out.2.ha HW.out.2.hb
    have a0 := geN a
    have a1 := ltN HW.out.2.ha
    have b0 := geN b
    have b1' := ltN HW.out.2.hb
    have HX := mkHid (And.intro (HR.out.1.trans (b2.mono HR.out.1.size)) hq)
    clear c hw3 hpb hq b2 C2 da db d0 d1
    dsimp only
    go_upto_region 18 with fail
    rename_i K1 hk1 K2 hk2
    have HK1 := mkHid hk1
    clear hk1
    go_quiet (fail)
    go_wp2_with fail
    exact HK1.out _ _ (HT _ false none 0 0 (drewN_below HX.out.1 _) (.inl ⟨rfl, HX.out.2⟩))
  · have hr : r = true := HR.out.2.1.2 ⟨d, hP.ds.1⟩
    subst hr
    have hpb : Gl.pb E N a b = true := (HW.out.2.reach b).2 ⟨d, hP.ds.1⟩
    have hw3 := HR.out.2.2.below b2
    have c := hw3.c
    have yA : ∀ k, (X3.drewN k).cell? ⟨kA, 0, none⟩ = some (.int .i64 (a : Int)) := fun _ => c.a
    have yB : ∀ k, (X3.drewN k).cell? ⟨kB, 0, none⟩ = some (.int .i64 (b : Int)) := fun _ => c.b
    have yM : ∀ k, (X3.drewN k).cell? ⟨kM, 0, none⟩ = some (.slice (some ⟨gM, 0, none⟩) N N) := fun _ => c.m
    have yR : ∀ k, (X3.drewN k).cell? ⟨gM, a, none⟩ = some (.slice (some ⟨gM + 1 + a, 0, none⟩) N N) := fun _ => c.mo a HW.out.2.ha
    have yC : ∀ k, (X3.drewN k).cell? ⟨gM + 1 + a, b, none⟩ = some (.bool true) := fun _ => by rw [← hpb]; exact c.mr a b HW.out.2.ha HW.out.2.hb
    have a0 := geN a
    have a1 := ltN HW.out.2.ha
    have b0 := geN b
    have b1' := ltN HW.out.2.hb
    obtain ⟨m, hm⟩ : ∃ m, d + 1 = m := ⟨_, rfl⟩
    rw [hm] at ho ⊢
    have HX := mkHid (And.intro (HR.out.1.trans (b2.mono HR.out.1.size)) (And.intro hP (iz_own (B' := kR + 1) ho (Nat.le_trans HS.out.1 HR.out.1.size))))
    clear c hw3 hpb hP ho b2 C2 da db d0 d1 hm
    dsimp only
    go_upto_region 18 with fail
    rename_i K1 hk1 K2 hk2
    have HK1 := mkHid hk1
    clear hk1
    go_quiet (fail)
    go_wp2_with fail
    exact HK1.out _ _ (HT _ true ow m cw (drewN_below HX.out.1 _) (.inr ⟨rfl, d, L, HX.out.2.1, HX.out.2.2.drewN _⟩))
end Go.Proofs.Ytibhjkmbbfgnpaa
