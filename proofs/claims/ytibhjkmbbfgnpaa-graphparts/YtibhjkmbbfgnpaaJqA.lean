/- Several texts in one: GqA, GqB, GqC, GqD. -/
import Derived.Test.YtibhjkmbbfgnpaaJtD
import Derived.Test.YtibhjkmbbfgnpaaJtE
import Derived.Deep.QuietTactic
import Derived.BigQuiet
import Derived.Test.YtibhjkmbbfgnpaaGoQ
/- GraphParts: what lies, the mathematics at hand; the law from region 38 on: the order of the groups is 0, 1, 2, .. -/
namespace Go.Proofs.Ytibhjkmbbfgnpaa
open Go.RowKit GM Gl Gsx
set_option maxRecDepth 20000
theorem mem_edg {B : Nat → List Nat} {n a b : Nat} : (a, b) ∈ edg B n ↔ a < n ∧ b ∈ B a := by
  unfold edg
  rw [List.mem_flatMap]
  constructor
  · rintro ⟨x, hx, h⟩
    obtain ⟨y, hy, e⟩ := List.mem_map.1 h
    cases e
    exact ⟨List.mem_range.1 hx, hy⟩
  · rintro ⟨h1, h2⟩
    exact ⟨a, List.mem_range.2 h1, List.mem_map.2 ⟨b, h2, rfl⟩⟩
theorem falls_nc {L : Nat → List Nat} (h : ∀ i j, j ∈ L i → j < i) {i j : Nat} (k : TG L i j) : j < i := by
  induction k with
  | one q => exact h _ _ q
  | more q _ ih => exact Nat.lt_trans ih (h _ _ q)
/-- The mathematics at hand. -/
structure Qm (N n : Nat) (E : List (Nat × Nat)) (nb : List Nat) (Rs : List (List Nat)) : Prop where
  h1 : 1 ≤ N
  h60 : N ≤ 60
  hE : ∀ e ∈ E, e.1 < N ∧ e.2 < N
  hl : E.length ≤ 400
  gn : Gn (ndF N E) N Rs nb
  ln : Rs.length = n
  n1 : 1 ≤ n
  nN : n ≤ N
  ri : ∀ p ∈ Rs, p.Pairwise (· < ·)
  fl : ∀ i, i < n → ∀ j ∈ btw (ndF N E) nb N n i, j < i
noncomputable abbrev ecE (N n : Nat) (E : List (Nat × Nat)) (nb : List Nat) : List (Nat × Nat) := edg (btw (ndF N E) nb N n) n
section
variable {N n : Nat} {E : List (Nat × Nat)} {nb : List Nat} {Rs : List (List Nat)}
theorem Qm.ecE (_ : Qm N n E nb Rs) : ∀ e ∈ ecE N n E nb, e.1 < n ∧ e.2 < n := fun e he => by
  obtain ⟨a, b⟩ := e
  obtain ⟨h1, h2⟩ := mem_edg.1 he
  exact ⟨h1, (mem_btw.1 h2).1⟩
theorem Qm.ecl (h : Qm N n E nb Rs) : (Go.Proofs.Ytibhjkmbbfgnpaa.ecE N n E nb).length ≤ 3600 := by
  have h1 : ∀ a, (btw (ndF N E) nb N n a).length ≤ n := fun a => by
    classical
    unfold btw
    have := List.length_filter_le (fun j => decide (Gbw (ndF N E) nb N 0 a j)) (List.range n)
    simpa using this
  have h2 := edg_len (btw (ndF N E) nb N n) n h1 n
  have h3 : n * n ≤ 60 * 60 := Nat.mul_le_mul (Nat.le_trans h.nN h.h60) (Nat.le_trans h.nN h.h60)
  show (edg _ n).length ≤ _
  omega
theorem Qm.fl' (h : Qm N n E nb Rs) : ∀ i j, j ∈ ndF n (Go.Proofs.Ytibhjkmbbfgnpaa.ecE N n E nb) i → j < i := fun i j hj => by
  obtain ⟨h1, h2⟩ := mem_ndF.1 hj
  obtain ⟨h3, h4⟩ := mem_edg.1 h2
  exact h.fl i h3 j h4
theorem Qm.chk (h : Qm N n E nb Rs) : (Go.Proofs.Ytibhjkmbbfgnpaa.chk (n : Int) (zE (Go.Proofs.Ytibhjkmbbfgnpaa.ecE N n E nb))).1 = 0 := chk0 h.ecE (by have := h.h60; have := h.nN; omega) (by have := h.ecl; omega)
end
/-- What lies while the law is at work. -/
structure Pw (W : World) (kG kC kL kN gM N n : Nat) (E : List (Nat × Nat)) (nb : List Nat) (Rs : List (List Nat)) (ev ec : Value) (X : World) : Prop where
  bel : Below W.heap.size W X
  g : X.heap[kG]? = some (.cells #[.int .i64 (N : Int), ev] 24 (0, 0))
  c : X.heap[kC]? = some (.cells #[.int .i64 (n : Int), ec] 24 (0, 0))
  eg : El ev (zE E) X
  ec : El ec (zE (ecE N n E nb)) X
  nr : X.heap[kN]? = some (.cells (ik nb) 3 (0, 0))
  pr : Pr (some ⟨kL, 0, none⟩) n Rs X
  mo : ∀ i, i < N → X.cell? ⟨gM, i, none⟩ = some (.slice (some ⟨gM + 1 + i, 0, none⟩) N N)
  mr : ∀ i j, i < N → j < N → X.cell? ⟨gM + 1 + i, j, none⟩ = some (.bool (pb E N i j))
section
variable {W X Y : World} {kG kC kL kN gM N n : Nat} {E : List (Nat × Nat)} {nb : List Nat} {Rs : List (List Nat)} {ev ec : Value}
theorem Pw.below (h : Pw W kG kC kL kN gM N n E nb Rs ev ec X) (hb : Below X.heap.size X Y) : Pw W kG kC kL kN gM N n E nb Rs ev ec Y :=
  have q {k : Nat} {o : Obj} (e : X.heap[k]? = some o) : Y.heap[k]? = some o := (hb.block k (Array.getElem?_eq_some_iff.1 e).1).trans e
  ⟨h.bel.trans (hb.mono h.bel.size), q h.g, q h.c, h.eg.below hb, h.ec.below hb, q h.nr, h.pr.below hb, fun i hi => cell_belowX hb (h.mo i hi), fun i j hi hj => cell_belowX hb (h.mr i j hi hj)⟩
theorem Pw.g0 (h : Pw W kG kC kL kN gM N n E nb Rs ev ec X) : X.cell? ⟨kG, 0, none⟩ = some (.int .i64 (N : Int)) := (cell_of_row _ _ _ _ _ _ h.g).trans rfl
theorem Pw.g1 (h : Pw W kG kC kL kN gM N n E nb Rs ev ec X) : X.cell? ⟨kG, 1, none⟩ = some ev := (cell_of_row _ _ _ _ _ _ h.g).trans rfl
theorem Pw.c0 (h : Pw W kG kC kL kN gM N n E nb Rs ev ec X) : X.cell? ⟨kC, 0, none⟩ = some (.int .i64 (n : Int)) := (cell_of_row _ _ _ _ _ _ h.c).trans rfl
theorem Pw.c1 (h : Pw W kG kC kL kN gM N n E nb Rs ev ec X) : X.cell? ⟨kC, 1, none⟩ = some ec := (cell_of_row _ _ _ _ _ _ h.c).trans rfl
theorem Pw.nv (h : Pw W kG kC kL kN gM N n E nb Rs ev ec X) (hm : Qm N n E nb Rs) {x : Nat} (hx : x < N) : X.cell? ⟨kN, x, none⟩ = some (.int .i64 ((nb.getD x 0 : Nat) : Int)) := (cell_of_row _ _ _ _ _ _ h.nr).trans (ik_get _ _ (by rw [hm.gn.nm.len]; exact hx))
end
set_option maxRecDepth 100000 in
set_option maxHeartbeats 6400000 in
theorem gq38 (W X : World) {kG kC kL kN gM N n : Nat} {ev ec : Value} {E : List (Nat × Nat)} {nb : List Nat} {Rs : List (List Nat)} (hw : Pw W kG kC kL kN gM N n E nb Rs ev ec X) (hm : Qm N n E nb Rs) {v0 v1 v2 v3 v4 v6 v7 v9 v10 v11 v13 v14 v15 v16 v17 v18 v19 v20 v21 v22 v23 v24 v25 v26 v27 v28 v29 v30 v31 v32 v33 v34 v35 v36 v37 v38 v39 v40 v41 v42 v43 v44 v45 v46 v47 v48 v49 v50 v51 v52 v53 v54 v55 v56 v57 v58 v59 v60 v61 v62 v63 v64 v65 v66 v67 v68 v69 v70 v71 v72 v73 v74 v75 v76 v77 v78 v79 v80 v81 v82 v83 v84 v85 v86 v87 v88 v89 v90 v91 v92 v93 v94 v95 v96 v97 v98 v99 v100 v101 v102 v103 v104 v105 v106 v107 v108 v109 v110 v111 v112 v113 v114 v115 v116 v117 v118 v119 v120 v121 v122 v123 v124 v125 v126 v127 v128 v129 v130 v131 v132 v133 v134 v135 v136 v137 v138 v139 v140 v141 v142 v143 v144 v145 v146 v147 v148 v149 v150 v151 v152 v153 v154 v155 v156 v157 v158 v159 v160 v161 v162 v163 v164 v165 v166 v167 v168 v169 v170 v171 v172 v173 v174 v175 v176 v177 v178 v179 v180 v181 v182 v183 v184 v185 v186 v187 v188 v189 v190 v191 v192 v193 v194 v195 v196 v197 v198 v199 v200 v201 v202 v203 v204 v205 v206 v207 v208 v209 v210 v211 v212 v213 v214 v215 v216 v217 v218 v219 v220 v221 v222 v223 v224 v225 v226 v227 v228 v229 v230 v231 v232 v233 v234 v235 v236 v237 v238 v239 v240 v241 v242 v243 v244 v245 v246 v247 v248 v249 v250 v251 v252 v253 v254 v255 v256 v257 v258 v259 v260 v261 v262 v263 v264 v265 : Value} :
    Code.wp Try.prog (tlF Try.f4 38) (bodyPost Try.prog Try.f4 (fun e w' => e = .returned (.bool true) ∧ Below W.heap.size W w')) ⟨#[v0, v1, v2, v3, v4, .pointer (some ⟨kG, 0, none⟩), v6, v7, .pointer (some ⟨kC, 0, none⟩), v9, v10, v11, .int .i64 (N : Int), v13, v14, v15, v16, v17, v18, v19, v20, v21, v22, v23, v24, v25, v26, v27, v28, v29, v30, v31, v32, v33, v34, v35, v36, v37, v38, v39, v40, v41, v42, v43, v44, v45, v46, v47, v48, v49, v50, v51, v52, v53, v54, v55, v56, v57, v58, v59, v60, v61, v62, v63, v64, v65, v66, v67, v68, v69, v70, v71, v72, v73, v74, v75, v76, v77, v78, v79, v80, v81, v82, v83, v84, v85, v86, v87, v88, v89, v90, v91, v92, v93, v94, v95, v96, v97, v98, v99, v100, v101, v102, v103, v104, v105, v106, v107, v108, v109, v110, v111, v112, v113, v114, v115, v116, v117, v118, v119, v120, v121, v122, v123, v124, v125, v126, v127, v128, v129, v130, v131, v132, v133, v134, v135, v136, v137, v138, v139, v140, v141, v142, v143, v144, v145, v146, v147, v148, v149, v150, v151, v152, v153, v154, v155, v156, v157, v158, v159, v160, v161, v162, v163, v164, v165, v166, v167, v168, v169, v170, v171, v172, v173, v174, v175, v176, v177, v178, v179, v180, v181, v182, v183, v184, v185, v186, v187, v188, v189, v190, v191, v192, v193, v194, v195, v196, v197, v198, v199, v200, v201, v202, v203, v204, v205, v206, v207, v208, v209, v210, v211, v212, v213, v214, v215, v216, v217, v218, v219, v220, v221, v222, v223, v224, v225, v226, v227, v228, v229, v230, v231, v232, v233, v234, v235, v236, v237, v238, v239, v240, v241, v242, v243, v244, v245, v246, v247, v248, v249, v250, v251, v252, v253, v254, v255, v256, v257, v258, v259, v260, v261, v262, v263, v264, v265], []⟩ X := by
  obtain ⟨oc, cc, hec, -⟩ := el_cells hw.ec
  subst hec
  obtain ⟨nc, hnc⟩ : ∃ k, (ecE N n E nb).length = k := ⟨_, rfl⟩
  rw [hnc] at hw
  have C1 := Order_lst n (by have := hm.h60; have := hm.nN; omega) (ecE N n E nb) hm.ecE (by have := hm.ecl; omega) hm.chk (.slice oc nc cc) X hw.ec
  have c0 := hw.c0
  have c1 := hw.c1
  have HQ := mkHid (And.intro hw hm)
  unfold grV at C1
  clear hw hm hnc
  conv => arg 2; whnf
  go_wp2_with fail
  refine C1.mono ?_
  rintro e X1 ⟨b1, q⟩
  rcases q with ⟨o, oa, oc', rfl, tp, ow, -, ls⟩ | ⟨rfl, x, -, x2⟩
  case inr => exact absurd (falls_nc HQ.out.2.fl' x2) (Nat.lt_irrefl _)
  obtain ⟨f1, f2⟩ := falls_top (n := n) fun i _ j hj => HQ.out.2.fl' i j hj
  have eo := top_ls_uniq tp ls f1 f2
  subst eo
  obtain ⟨go, hil, -⟩ := own_il ow
  obtain ⟨oo', oc2, e, h1⟩ := hil
  rw [List.length_range] at e h1
  injection e with e1 e2 e3
  subst e1 e3
  obtain ⟨off, rfl, -, hcc⟩ := h1 HQ.out.2.n1
  have HX := mkHid (And.intro (HQ.out.1.below b1) (fun j (hj : j < n) => (by have := hcc j hj; rw [show (List.range n).getD j 0 = j by simp [List.getD, hj]] at this; exact this : X1.cell? ⟨go, off + j, none⟩ = some (.int .i64 (j : Int)))))
  clear C1 c0 c1 b1 tp ow ls f1 f2 h1 hcc
  dsimp only
  go_wp2_with fail
  go_loopw [23] (fun iv wr => ∃ i : Nat, iv = .int .i64 (i : Int) ∧ i ≤ n ∧ Hid (wr = X1)) (fun iv _ => n - (intOf iv).toNat)
  case atStart => exact ⟨0, rfl, Nat.zero_le _, rfl⟩
  case round =>
    obtain ⟨i, rfl, hi, HI⟩ := hrel
    have hX : wr = X1 := HI.out
    subst hX
    by_cases hlt : i < n
    · have ci := HX.out.2 i hlt
      have i0 := geI i
      have i1 := ltI hlt
      have wi := wrapI i (by have := HQ.out.2.h60; have := HQ.out.2.nN; omega)
      have HN := mkHid hlt
      clear hlt hi
      go_wp2_with fail
      exact ⟨⟨i + 1, by first | rfl | (rw [wi]; rfl), HN.out, by first | rfl | exact trivial⟩, by first | exact measI _ _ HN.out | (rw [wi]; exact measI _ _ HN.out)⟩
    · have i1 := nltI hlt
      have g0 := HX.out.1.g0
      have c0 := HX.out.1.c0
      clear hlt hi
      go_wp2_with fail
      go_ret
      exact ⟨by first | rfl | simp, HX.out.1.bel⟩
end Go.Proofs.Ytibhjkmbbfgnpaa

/- GraphParts: the law from region 33 on: the edges of the graph of groups fall. -/
namespace Go.Proofs.Ytibhjkmbbfgnpaa
open Go.RowKit GM Gl Gsx
set_option maxRecDepth 20000
set_option maxRecDepth 100000 in
set_option maxHeartbeats 6400000 in
theorem gq33 (W X : World) {kG kC kL kN gM N n : Nat} {ev ec : Value} {E : List (Nat × Nat)} {nb : List Nat} {Rs : List (List Nat)} (hw : Pw W kG kC kL kN gM N n E nb Rs ev ec X) (hm : Qm N n E nb Rs) {v0 v1 v2 v3 v4 v6 v7 v9 v10 v11 v13 v14 v15 v16 v17 v18 v19 v20 v21 v22 v23 v24 v25 v26 v27 v28 v29 v30 v31 v32 v33 v34 v35 v36 v37 v38 v39 v40 v41 v42 v43 v44 v45 v46 v47 v48 v49 v50 v51 v52 v53 v54 v55 v56 v57 v58 v59 v60 v61 v62 v63 v64 v65 v66 v67 v68 v69 v70 v71 v72 v73 v74 v75 v76 v77 v78 v79 v80 v81 v82 v83 v84 v85 v86 v87 v88 v89 v90 v91 v92 v93 v94 v95 v96 v97 v98 v99 v100 v101 v102 v103 v104 v105 v106 v107 v108 v109 v110 v111 v112 v113 v114 v115 v116 v117 v118 v119 v120 v121 v122 v123 v124 v125 v126 v127 v128 v129 v130 v131 v132 v133 v134 v135 v136 v137 v138 v139 v140 v141 v142 v143 v144 v145 v146 v147 v148 v149 v150 v151 v152 v153 v154 v155 v156 v157 v158 v159 v160 v161 v162 v163 v164 v165 v166 v167 v168 v169 v170 v171 v172 v173 v174 v175 v176 v177 v178 v179 v180 v181 v182 v183 v184 v185 v186 v187 v188 v189 v190 v191 v192 v193 v194 v195 v196 v197 v198 v199 v200 v201 v202 v203 v204 v205 v206 v207 v208 v209 v210 v211 v212 v213 v214 v215 v216 v217 v218 v219 v220 v221 v222 v223 v224 v225 v226 v227 v228 v229 v230 v231 v232 v233 v234 v235 v236 v237 v238 v239 v240 v241 v242 v243 v244 v245 v246 v247 v248 v249 v250 v251 v252 v253 v254 v255 v256 v257 v258 v259 v260 v261 v262 v263 v264 v265 : Value} :
    Code.wp Try.prog (tlF Try.f4 33) (bodyPost Try.prog Try.f4 (fun e w' => e = .returned (.bool true) ∧ Below W.heap.size W w')) ⟨#[v0, v1, v2, v3, v4, .pointer (some ⟨kG, 0, none⟩), v6, v7, .pointer (some ⟨kC, 0, none⟩), v9, v10, v11, .int .i64 (N : Int), v13, v14, v15, v16, v17, v18, v19, v20, v21, v22, v23, v24, v25, v26, v27, v28, v29, v30, v31, v32, v33, v34, v35, v36, v37, v38, v39, v40, v41, v42, v43, v44, v45, v46, v47, v48, v49, v50, v51, v52, v53, v54, v55, v56, v57, v58, v59, v60, v61, v62, v63, v64, v65, v66, v67, v68, v69, v70, v71, v72, v73, v74, v75, v76, v77, v78, v79, v80, v81, v82, v83, v84, v85, v86, v87, v88, v89, v90, v91, v92, v93, v94, v95, v96, v97, v98, v99, v100, v101, v102, v103, v104, v105, v106, v107, v108, v109, v110, v111, v112, v113, v114, v115, v116, v117, v118, v119, v120, v121, v122, v123, v124, v125, v126, v127, v128, v129, v130, v131, v132, v133, v134, v135, v136, v137, v138, v139, v140, v141, v142, v143, v144, v145, v146, v147, v148, v149, v150, v151, v152, v153, v154, v155, v156, v157, v158, v159, v160, v161, v162, v163, v164, v165, v166, v167, v168, v169, v170, v171, v172, v173, v174, v175, v176, v177, v178, v179, v180, v181, v182, v183, v184, v185, v186, v187, v188, v189, v190, v191, v192, v193, v194, v195, v196, v197, v198, v199, v200, v201, v202, v203, v204, v205, v206, v207, v208, v209, v210, v211, v212, v213, v214, v215, v216, v217, v218, v219, v220, v221, v222, v223, v224, v225, v226, v227, v228, v229, v230, v231, v232, v233, v234, v235, v236, v237, v238, v239, v240, v241, v242, v243, v244, v245, v246, v247, v248, v249, v250, v251, v252, v253, v254, v255, v256, v257, v258, v259, v260, v261, v262, v263, v264, v265], []⟩ X := by
  obtain ⟨oc, cc, hec, -⟩ := el_cells hw.ec
  subst hec
  obtain ⟨nc, hnc⟩ : ∃ k, (ecE N n E nb).length = k := ⟨_, rfl⟩
  rw [hnc] at hw
  have HQ := mkHid (And.intro hm hnc)
  have H0 := mkHid hw
  clear hw hm hnc
  conv => arg 2; whnf
  go_wp2_with fail
  rename_i K1 hk1
  have HK1 := mkHid hk1
  clear hk1
  go_loopw [21] (fun iv wr => ∃ i : Nat, iv = .int .i64 (i : Int) ∧ i ≤ nc ∧ Hid (Pw W kG kC kL kN gM N n E nb Rs ev (.slice oc nc cc) wr)) (fun iv _ => nc - (intOf iv).toNat)
  case atStart => exact ⟨0, rfl, Nat.zero_le _, H0⟩
  case round =>
    obtain ⟨i, rfl, hi, HI⟩ := hrel
    obtain ⟨hm, hnc'⟩ := HQ.out
    have q := HI.out
    have c1 := q.c1
    by_cases hlt : i < nc
    · obtain ⟨x, y, hxy⟩ : ∃ x y, (ecE N n E nb)[i]? = some (x, y) := ⟨_, _, List.getElem?_eq_getElem (by omega)⟩
      obtain ⟨oc', cc', hvf, ho⟩ := el_cells q.ec
      injection hvf with f1 f2 f3
      subst f1 f3
      clear f2
      obtain ⟨eb, eo, rfl, q3⟩ := ho (by omega)
      obtain ⟨d1, d2⟩ := q3 i x y hxy
      have hin := mem_edg.1 (List.mem_of_getElem? hxy)
      have hyx := hm.fl x hin.1 y hin.2
      have y1 : ∀ k, (wr.drewN k).cell? ⟨kC, 1, none⟩ = some (.slice (some ⟨eb, eo, none⟩) nc cc) := fun _ => c1
      have y2 : ∀ k, (wr.drewN k).cell? ⟨eb, eo + i * 2, none⟩ = some (.int .i64 (x : Int)) := fun _ => d1
      have y3 : ∀ k, (wr.drewN k).cell? ⟨eb, eo + i * 2 + 1, none⟩ = some (.int .i64 (y : Int)) := fun _ => d2
      have i0 := geI i
      have i1 := ltI hlt
      have lim : nc ≤ 3600 := by rw [← hnc']; exact hm.ecl
      have wi := wrapI i (by omega)
      have n1 : ¬ ((x : Int) ≤ (y : Int)) := by omega
      have n2 : ¬ x ≤ y := by omega
      have n3 : decide ((x : Int) ≤ (y : Int)) = false := decide_eq_false n1
      have n4 : decide (x ≤ y) = false := decide_eq_false n2
      have HN := mkHid (And.intro q hlt)
      clear hm hnc' q hxy ho q3 hin hyx hlt HI lim hi H0
      go_wp2_with fail
      go_quiet (fail)
      go_wp2_with fail
      exact ⟨⟨i + 1, by first | rfl | (rw [wi]; rfl), HN.out.2, HN.out.1.below (bel_drP _ _)⟩, by first | exact measI _ _ HN.out.2 | (rw [wi]; exact measI _ _ HN.out.2)⟩
    · have i1 := nltI hlt
      have HZ := mkHid (And.intro q hm)
      clear hm hnc' q hlt HI hi H0
      go_wp2_with fail
      exact HK1.out _ _ (gq38 W wr HZ.out.1 HZ.out.2)
end Go.Proofs.Ytibhjkmbbfgnpaa

/- GraphParts: the law from region 26 on: what leads from one group to another is an edge of the graph of groups. -/
namespace Go.Proofs.Ytibhjkmbbfgnpaa
open Go.RowKit GM Gl Gsx
set_option maxRecDepth 20000
set_option maxRecDepth 100000 in
set_option maxHeartbeats 6400000 in
theorem gq26 (W X : World) {kG kC kL kN gM N n : Nat} {ev ec : Value} {E : List (Nat × Nat)} {nb : List Nat} {Rs : List (List Nat)} (hw : Pw W kG kC kL kN gM N n E nb Rs ev ec X) (hm : Qm N n E nb Rs) {v0 v1 v2 v3 v4 v6 v7 v10 v11 v13 v14 v15 v16 v17 v18 v19 v20 v21 v22 v23 v24 v25 v26 v27 v28 v29 v30 v31 v32 v33 v34 v35 v36 v37 v38 v39 v40 v41 v42 v43 v44 v45 v46 v47 v48 v49 v50 v51 v52 v53 v54 v55 v56 v57 v58 v59 v60 v61 v62 v63 v64 v65 v66 v67 v68 v69 v70 v71 v72 v73 v74 v75 v76 v77 v78 v79 v80 v81 v82 v83 v84 v85 v86 v87 v88 v89 v90 v91 v92 v93 v94 v95 v96 v97 v98 v99 v100 v101 v102 v103 v104 v105 v106 v107 v108 v109 v110 v111 v112 v113 v114 v115 v116 v117 v118 v119 v120 v121 v122 v123 v124 v125 v126 v127 v128 v129 v130 v131 v132 v133 v134 v135 v136 v137 v138 v139 v140 v141 v142 v143 v144 v145 v146 v147 v148 v149 v150 v151 v152 v153 v154 v155 v156 v157 v158 v159 v160 v161 v162 v163 v164 v165 v166 v167 v168 v169 v170 v171 v172 v173 v174 v175 v176 v177 v178 v179 v180 v181 v182 v183 v184 v185 v186 v187 v188 v189 v190 v191 v192 v193 v194 v195 v196 v197 v198 v199 v200 v201 v202 v203 v204 v205 v206 v207 v208 v209 v210 v211 v212 v213 v214 v215 v216 v217 v218 v219 v220 v221 v222 v223 v224 v225 v226 v227 v228 v229 v230 v231 v232 v233 v234 v235 v236 v237 v238 v239 v240 v241 v242 v243 v244 v245 v246 v247 v248 v249 v250 v251 v252 v253 v254 v255 v256 v257 v258 v259 v260 v261 v262 v263 v264 v265 : Value} :
    Code.wp Try.prog (tlF Try.f4 26) (bodyPost Try.prog Try.f4 (fun e w' => e = .returned (.bool true) ∧ Below W.heap.size W w')) ⟨#[v0, v1, v2, v3, v4, .pointer (some ⟨kG, 0, none⟩), v6, v7, .pointer (some ⟨kC, 0, none⟩), .slice (some ⟨kN, 0, none⟩) N N, v10, v11, .int .i64 (N : Int), v13, v14, v15, v16, v17, v18, v19, v20, v21, v22, v23, v24, v25, v26, v27, v28, v29, v30, v31, v32, v33, v34, v35, v36, v37, v38, v39, v40, v41, v42, v43, v44, v45, v46, v47, v48, v49, v50, v51, v52, v53, v54, v55, v56, v57, v58, v59, v60, v61, v62, v63, v64, v65, v66, v67, v68, v69, v70, v71, v72, v73, v74, v75, v76, v77, v78, v79, v80, v81, v82, v83, v84, v85, v86, v87, v88, v89, v90, v91, v92, v93, v94, v95, v96, v97, v98, v99, v100, v101, v102, v103, v104, v105, v106, v107, v108, v109, v110, v111, v112, v113, v114, v115, v116, v117, v118, v119, v120, v121, v122, v123, v124, v125, v126, v127, v128, v129, v130, v131, v132, v133, v134, v135, v136, v137, v138, v139, v140, v141, v142, v143, v144, v145, v146, v147, v148, v149, v150, v151, v152, v153, v154, v155, v156, v157, v158, v159, v160, v161, v162, v163, v164, v165, v166, v167, v168, v169, v170, v171, v172, v173, v174, v175, v176, v177, v178, v179, v180, v181, v182, v183, v184, v185, v186, v187, v188, v189, v190, v191, v192, v193, v194, v195, v196, v197, v198, v199, v200, v201, v202, v203, v204, v205, v206, v207, v208, v209, v210, v211, v212, v213, v214, v215, v216, v217, v218, v219, v220, v221, v222, v223, v224, v225, v226, v227, v228, v229, v230, v231, v232, v233, v234, v235, v236, v237, v238, v239, v240, v241, v242, v243, v244, v245, v246, v247, v248, v249, v250, v251, v252, v253, v254, v255, v256, v257, v258, v259, v260, v261, v262, v263, v264, v265], []⟩ X := by
  obtain ⟨oe, ce, hev, -⟩ := el_cells hw.eg
  subst hev
  obtain ⟨ne, hne⟩ : ∃ k, E.length = k := ⟨_, rfl⟩
  rw [hne] at hw
  obtain ⟨oc, cc, hec, -⟩ := el_cells hw.ec
  subst hec
  obtain ⟨nc, hnc⟩ : ∃ k, (ecE N n E nb).length = k := ⟨_, rfl⟩
  rw [hnc] at hw
  have HQ := mkHid (And.intro hm (And.intro hne hnc))
  have H0 := mkHid hw
  clear hw hm hne hnc
  conv => arg 2; whnf
  go_wp2_with fail
  rename_i K1 hk1
  have HK1 := mkHid hk1
  clear hk1
  go_loopw [18] (fun iv wr => ∃ i : Nat, iv = .int .i64 (i : Int) ∧ i ≤ ne ∧ Hid (Pw W kG kC kL kN gM N n E nb Rs (.slice oe ne ce) (.slice oc nc cc) wr)) (fun iv _ => ne - (intOf iv).toNat)
  case atStart => exact ⟨0, rfl, Nat.zero_le _, H0⟩
  case round =>
    obtain ⟨i, rfl, hi, HI⟩ := hrel
    obtain ⟨hm, hne', hnc'⟩ := HQ.out
    have q := HI.out
    have g1 := q.g1
    by_cases hlt : i < ne
    · obtain ⟨x, y, hxy⟩ : ∃ x y, E[i]? = some (x, y) := ⟨_, _, List.getElem?_eq_getElem (by omega)⟩
      obtain ⟨oe', ce', hvf, ho⟩ := el_cells q.eg
      injection hvf with f1 f2 f3
      subst f1 f3
      clear f2
      obtain ⟨eb, eo, rfl, q3⟩ := ho (by omega)
      obtain ⟨d1, d2⟩ := q3 i x y hxy
      have hE := List.mem_of_getElem? hxy
      have hx := (hm.hE _ hE).1
      have hy := (hm.hE _ hE).2
      have hF : y ∈ ndF N E x := mem_ndF.2 ⟨hy, hE⟩
      have a1 := q.nv hm hx
      have a2 := q.nv hm hy
      have lx : nb.getD x 0 < n := by have := hm.gn.lt hx; rw [hm.ln] at this; exact this
      have ly : nb.getD y 0 < n := by have := hm.gn.lt hy; rw [hm.ln] at this; exact this
      have hin : nb.getD x 0 ≠ nb.getD y 0 → (nb.getD x 0, nb.getD y 0) ∈ ecE N n E nb := fun ne => mem_edg.2 ⟨lx, mem_btw.2 ⟨ly, x, y, hx, hF, rfl, rfl, ne⟩⟩
      obtain ⟨u, hu⟩ : ∃ u, nb.getD x 0 = u := ⟨_, rfl⟩
      obtain ⟨z, hz⟩ : ∃ z, nb.getD y 0 = z := ⟨_, rfl⟩
      rw [hu] at a1 hin
      rw [hz] at a2 hin
      have c0 := q.c0
      have c1 := q.c1
      have CE := edge_any (n : Int) (ecE N n E nb) (by have := hm.ecl; omega) (.slice oc nc cc) wr q.ec u z
      have i0 := geI i
      have i1 := ltI hlt
      have x0 := geI x
      have x1 := ltI hx
      have y0 := geI y
      have y1 := ltI hy
      have wi := wrapI i (by have := hm.hl; omega)
      have HN := mkHid (And.intro q hlt)
      by_cases huz : u = z
      · subst huz
        clear hm hne' hnc' q hxy ho q3 hin hlt HI hi H0 hE hx hy hF lx ly hu hz CE
        go_wp2_with fail
        exact ⟨⟨i + 1, by first | rfl | (rw [wi]; rfl), HN.out.2, HN.out.1⟩, by first | exact measI _ _ HN.out.2 | (rw [wi]; exact measI _ _ HN.out.2)⟩
      · have e1 : ((u : Int) == (z : Int)) = false := beq_false_of_ne fun h => huz (Int.ofNat.inj h)
        have e2 : ¬ ((u : Int) = (z : Int)) := fun h => huz (Int.ofNat.inj h)
        rw [decide_eq_true (hin huz)] at CE
        unfold grV at CE
        clear hm hne' hnc' q hxy ho q3 hin hlt HI hi H0 hE hx hy hF lx ly hu hz
        go_wp2_with fail
        refine CE.mono ?_
        rintro e w8 ⟨rfl, b8⟩
        have HB8 := mkHid (HN.out.1.below b8)
        clear CE b8 g1 d1 d2 a1 a2 c0 c1
        go_wp2_with fail
        exact ⟨⟨i + 1, by first | rfl | (rw [wi]; rfl), HN.out.2, HB8.out⟩, by first | exact measI _ _ HN.out.2 | (rw [wi]; exact measI _ _ HN.out.2)⟩
    · have i1 := nltI hlt
      have HZ := mkHid (And.intro q hm)
      clear hm hne' hnc' q hlt HI hi H0
      go_wp2_with fail
      exact HK1.out _ _ (gq33 W wr HZ.out.1 HZ.out.2)
end Go.Proofs.Ytibhjkmbbfgnpaa

/- GraphParts: the law from region 18 on: of one group just if each leads to the other. -/
namespace Go.Proofs.Ytibhjkmbbfgnpaa
open Go.RowKit GM Gl Gsx
set_option maxRecDepth 20000
section
variable {N n : Nat} {E : List (Nat × Nat)} {nb : List Nat} {Rs : List (List Nat)}
theorem pb_rc (hE : ∀ e ∈ E, e.1 < N ∧ e.2 < N) (a b : Nat) : pb E N a b = true ↔ Rc (ndF N E) a b := (pb_iff (ndF_fits hE) (fun x y hy => ndF_lt x y hy) a b).trans reach_iff
theorem Qm.le (h : Qm N n E nb Rs) {a b : Nat} (ha : a < N) (k : Rc (ndF N E) a b) : nb.getD b 0 ≤ nb.getD a 0 := by
  obtain ⟨d, hd⟩ := k
  have key : ∀ d v, Bl (ndF N E) a d v → v < N ∧ nb.getD v 0 ≤ nb.getD a 0 := by
    intro d
    induction d with
    | zero => intro v hv; have hv : v = a := hv; subst hv; exact ⟨ha, Nat.le_refl _⟩
    | succ d ih =>
      intro v hv
      rcases hv with hv | ⟨u, hu, hvu⟩
      · exact ih v hv
      · obtain ⟨u1, u2⟩ := ih u hu
        have hv := ndF_lt u v hvu
        refine ⟨hv, ?_⟩
        by_cases e : nb.getD u 0 = nb.getD v 0
        · omega
        · have lu : nb.getD u 0 < n := by have := h.gn.lt u1; rw [h.ln] at this; exact this
          have lv : nb.getD v 0 < n := by have := h.gn.lt hv; rw [h.ln] at this; exact this
          have := h.fl _ lu _ (mem_btw.2 ⟨lv, u, v, u1, hvu, rfl, rfl, e⟩)
          omega
  exact (key d b hd).2
end
set_option maxRecDepth 100000 in
set_option maxHeartbeats 6400000 in
theorem gq18 (W X : World) {kG kC kL kN gM N n : Nat} {ev ec : Value} {E : List (Nat × Nat)} {nb : List Nat} {Rs : List (List Nat)} (hw : Pw W kG kC kL kN gM N n E nb Rs ev ec X) (hm : Qm N n E nb Rs) {v0 v1 v2 v3 v4 v6 v7 v10 v13 v14 v15 v16 v17 v18 v19 v20 v21 v22 v23 v24 v25 v26 v27 v28 v29 v30 v31 v32 v33 v34 v35 v36 v37 v38 v39 v40 v41 v42 v43 v44 v45 v46 v47 v48 v49 v50 v51 v52 v53 v54 v55 v56 v57 v58 v59 v60 v61 v62 v63 v64 v65 v66 v67 v68 v69 v70 v71 v72 v73 v74 v75 v76 v77 v78 v79 v80 v81 v82 v83 v84 v85 v86 v87 v88 v89 v90 v91 v92 v93 v94 v95 v96 v97 v98 v99 v100 v101 v102 v103 v104 v105 v106 v107 v108 v109 v110 v111 v112 v113 v114 v115 v116 v117 v118 v119 v120 v121 v122 v123 v124 v125 v126 v127 v128 v129 v130 v131 v132 v133 v134 v135 v136 v137 v138 v139 v140 v141 v142 v143 v144 v145 v146 v147 v148 v149 v150 v151 v152 v153 v154 v155 v156 v157 v158 v159 v160 v161 v162 v163 v164 v165 v166 v167 v168 v169 v170 v171 v172 v173 v174 v175 v176 v177 v178 v179 v180 v181 v182 v183 v184 v185 v186 v187 v188 v189 v190 v191 v192 v193 v194 v195 v196 v197 v198 v199 v200 v201 v202 v203 v204 v205 v206 v207 v208 v209 v210 v211 v212 v213 v214 v215 v216 v217 v218 v219 v220 v221 v222 v223 v224 v225 v226 v227 v228 v229 v230 v231 v232 v233 v234 v235 v236 v237 v238 v239 v240 v241 v242 v243 v244 v245 v246 v247 v248 v249 v250 v251 v252 v253 v254 v255 v256 v257 v258 v259 v260 v261 v262 v263 v264 v265 : Value} :
    Code.wp Try.prog (tlF Try.f4 18) (bodyPost Try.prog Try.f4 (fun e w' => e = .returned (.bool true) ∧ Below W.heap.size W w')) ⟨#[v0, v1, v2, v3, v4, .pointer (some ⟨kG, 0, none⟩), v6, v7, .pointer (some ⟨kC, 0, none⟩), .slice (some ⟨kN, 0, none⟩) N N, v10, .slice (some ⟨gM, 0, none⟩) N N, .int .i64 (N : Int), v13, v14, v15, v16, v17, v18, v19, v20, v21, v22, v23, v24, v25, v26, v27, v28, v29, v30, v31, v32, v33, v34, v35, v36, v37, v38, v39, v40, v41, v42, v43, v44, v45, v46, v47, v48, v49, v50, v51, v52, v53, v54, v55, v56, v57, v58, v59, v60, v61, v62, v63, v64, v65, v66, v67, v68, v69, v70, v71, v72, v73, v74, v75, v76, v77, v78, v79, v80, v81, v82, v83, v84, v85, v86, v87, v88, v89, v90, v91, v92, v93, v94, v95, v96, v97, v98, v99, v100, v101, v102, v103, v104, v105, v106, v107, v108, v109, v110, v111, v112, v113, v114, v115, v116, v117, v118, v119, v120, v121, v122, v123, v124, v125, v126, v127, v128, v129, v130, v131, v132, v133, v134, v135, v136, v137, v138, v139, v140, v141, v142, v143, v144, v145, v146, v147, v148, v149, v150, v151, v152, v153, v154, v155, v156, v157, v158, v159, v160, v161, v162, v163, v164, v165, v166, v167, v168, v169, v170, v171, v172, v173, v174, v175, v176, v177, v178, v179, v180, v181, v182, v183, v184, v185, v186, v187, v188, v189, v190, v191, v192, v193, v194, v195, v196, v197, v198, v199, v200, v201, v202, v203, v204, v205, v206, v207, v208, v209, v210, v211, v212, v213, v214, v215, v216, v217, v218, v219, v220, v221, v222, v223, v224, v225, v226, v227, v228, v229, v230, v231, v232, v233, v234, v235, v236, v237, v238, v239, v240, v241, v242, v243, v244, v245, v246, v247, v248, v249, v250, v251, v252, v253, v254, v255, v256, v257, v258, v259, v260, v261, v262, v263, v264, v265], []⟩ X := by
  have HQ := mkHid hm
  have H0 := mkHid hw
  clear hw hm
  conv => arg 2; whnf
  go_wp2_with fail
  rename_i K1 hk1
  have HK1 := mkHid hk1
  clear hk1
  go_loopw [16] (fun iv wr => ∃ i : Nat, iv = .int .i64 (i : Int) ∧ i ≤ N ∧ Hid (Pw W kG kC kL kN gM N n E nb Rs ev ec wr)) (fun iv _ => N - (intOf iv).toNat)
  case atStart => exact ⟨0, rfl, Nat.zero_le _, H0⟩
  case round =>
    clear H0
    obtain ⟨i, rfl, hi, HI⟩ := hrel
    have g0 := HI.out.g0
    by_cases hlti : i < N
    · have i0 := geI i
      have i1 := ltI hlti
      have HI2 := mkHid (And.intro HI.out hlti)
      have wi := wrapI i (by have := HQ.out.h60; omega)
      clear HI hi hlti
      go_wp2_with fail
      go_loopw [17] (fun jv wr => ∃ j : Nat, jv = .int .i64 (j : Int) ∧ j ≤ N ∧ Hid (Pw W kG kC kL kN gM N n E nb Rs ev ec wr)) (fun jv _ => N - (intOf jv).toNat)
      case atStart => exact ⟨0, rfl, Nat.zero_le _, HI2.out.1⟩
      case round =>
        obtain ⟨j, rfl, hj, HI⟩ := hrel
        have g0 := HI.out.g0
        by_cases hlt : j < N
        · have hm := HQ.out
          have q := HI.out
          have a1 := q.nv hm HI2.out.2
          have a2 := q.nv hm hlt
          have m1 := q.mo i HI2.out.2
          have m2 := q.mo j hlt
          have m3 := q.mr i j HI2.out.2 hlt
          have m4 := q.mr j i hlt HI2.out.2
          have hp := pb_rc hm.hE i j
          have hq := pb_rc hm.hE j i
          have hle := fun k => hm.le HI2.out.2 (hp.1 k)
          have sm := hm.gn.same HI2.out.2 hlt
          rw [← hp, ← hq] at sm
          obtain ⟨x1, hx1⟩ : ∃ x, nb.getD i 0 = x := ⟨_, rfl⟩
          obtain ⟨x2, hx2⟩ : ∃ x, nb.getD j 0 = x := ⟨_, rfl⟩
          rw [hx1] at a1 sm hle
          rw [hx2] at a2 sm hle
          have j0 := geI j
          have j1 := ltI hlt
          have wj := wrapI j (by have := hm.h60; omega)
          have HN := mkHid (And.intro q hlt)
          clear hj
          cases p1 : pb E N i j
          · have hne : x1 ≠ x2 := fun e => by have := (sm.1 e).1; rw [p1] at this; cases this
            have e1 : ((x1 : Int) == (x2 : Int)) = false := beq_false_of_ne fun h => hne (Int.ofNat.inj h)
            have e2 : ¬ ((x1 : Int) = (x2 : Int)) := fun h => hne (Int.ofNat.inj h)
            rw [p1] at m3
            have y1 : ∀ k, (wr.drewN k).cell? ⟨kN, i, none⟩ = some (.int .i64 (x1 : Int)) := fun _ => a1
            have y2 : ∀ k, (wr.drewN k).cell? ⟨kN, j, none⟩ = some (.int .i64 (x2 : Int)) := fun _ => a2
            have y3 : ∀ k, (wr.drewN k).cell? ⟨gM, i, none⟩ = some (.slice (some ⟨gM + 1 + i, 0, none⟩) N N) := fun _ => m1
            have y4 : ∀ k, (wr.drewN k).cell? ⟨gM + 1 + i, j, none⟩ = some (.bool false) := fun _ => m3
            clear hm q hp hq hlt HI hx1 hx2 hle sm hne p1 m2 m4
            go_wp2_with fail
            go_quiet (fail)
            go_wp2_with fail
            exact ⟨⟨j + 1, by first | rfl | (rw [wj]; rfl), HN.out.2, HN.out.1.below (bel_drP _ _)⟩, by first | exact measI _ _ HN.out.2 | (rw [wj]; exact measI _ _ HN.out.2)⟩
          · have hl := hle p1
            rw [p1] at m3
            have l1 : ¬ ((x1 : Int) < (x2 : Int)) := by omega
            have l2 : ¬ (x1 < x2) := by omega
            have l3 : decide ((x1 : Int) < (x2 : Int)) = false := decide_eq_false l1
            have l4 : decide (x1 < x2) = false := decide_eq_false l2
            have y1 : ∀ k, (wr.drewN k).cell? ⟨kN, i, none⟩ = some (.int .i64 (x1 : Int)) := fun _ => a1
            have y2 : ∀ k, (wr.drewN k).cell? ⟨kN, j, none⟩ = some (.int .i64 (x2 : Int)) := fun _ => a2
            have y3 : ∀ k, (wr.drewN k).cell? ⟨gM, i, none⟩ = some (.slice (some ⟨gM + 1 + i, 0, none⟩) N N) := fun _ => m1
            have y4 : ∀ k, (wr.drewN k).cell? ⟨gM + 1 + i, j, none⟩ = some (.bool true) := fun _ => m3
            have y5 : ∀ k, (wr.drewN k).cell? ⟨gM, j, none⟩ = some (.slice (some ⟨gM + 1 + j, 0, none⟩) N N) := fun _ => m2
            cases p2 : pb E N j i
            · have hne : x1 ≠ x2 := fun e => by have := (sm.1 e).2; rw [p2] at this; cases this
              have e1 : ((x1 : Int) == (x2 : Int)) = false := beq_false_of_ne fun h => hne (Int.ofNat.inj h)
              have e2 : ¬ ((x1 : Int) = (x2 : Int)) := fun h => hne (Int.ofNat.inj h)
              rw [p2] at m4
              have y6 : ∀ k, (wr.drewN k).cell? ⟨gM + 1 + j, i, none⟩ = some (.bool false) := fun _ => m4
              clear hm q hp hq hlt HI hx1 hx2 hle sm hne p1 p2 hl
              go_wp2_with fail
              go_quiet (fail)
              go_wp2_with fail
              exact ⟨⟨j + 1, by first | rfl | (rw [wj]; rfl), HN.out.2, HN.out.1.below (bel_drP _ _)⟩, by first | exact measI _ _ HN.out.2 | (rw [wj]; exact measI _ _ HN.out.2)⟩
            · have he := sm.2 ⟨p1, p2⟩
              rw [p2] at m4
              have y6 : ∀ k, (wr.drewN k).cell? ⟨gM + 1 + j, i, none⟩ = some (.bool true) := fun _ => m4
              have e1 : ((x1 : Int) == (x2 : Int)) = true := by rw [he]; simp
              have e2 : ((x1 : Int) = (x2 : Int)) := by rw [he]
              clear hm q hp hq hlt HI hx1 hx2 hle sm p1 p2 hl
              subst he
              clear e1 e2
              go_wp2_with fail
              go_quiet (fail)
              go_wp2_with fail
              exact ⟨⟨j + 1, by first | rfl | (rw [wj]; rfl), HN.out.2, HN.out.1.below (bel_drP _ _)⟩, by first | exact measI _ _ HN.out.2 | (rw [wj]; exact measI _ _ HN.out.2)⟩
        · have j1 := nltI hlt
          have HZ := mkHid HI.out
          clear hlt HI hj
          go_wp2_with fail
          exact ⟨⟨i + 1, by first | rfl | (rw [wi]; rfl), HI2.out.2, HZ.out⟩, by first | exact measI _ _ HI2.out.2 | (rw [wi]; exact measI _ _ HI2.out.2)⟩
    · have i1 := nltI hlti
      have HZ := mkHid HI.out
      clear hlti HI hi
      go_wp2_with fail
      exact HK1.out _ _ (gq26 W wr HZ.out HQ.out)
end Go.Proofs.Ytibhjkmbbfgnpaa
