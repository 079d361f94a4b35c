/- GraphWays: the law: what lies all along; Close and its loop. -/
import Derived.Test.YtibhjkmbbfgnpaaGyG
import Derived.Test.YtibhjkmbbfgnpaaGyF
import Derived.Test.YtibhjkmbbfgnpaaGlN
import Derived.Test.YtibhjkmbbfgnpaaGlQ
import Derived.Deep.Cut
import Derived.Handy
namespace Go.Proofs.Ytibhjkmbbfgnpaa
open Go.RowKit GM
namespace Gwx
def headR : Code → Option Nat
  | .region id _ _ => some id
  | .seq a _ => headR a
  | .scope c => headR c
  | .block _ c => headR c
  | .loop c => headR c
  | _ => none
def fromR (n : Nat) : Code → Option (Bool × Code)
  | .seq a b => if headR a = some n then some (false, .seq a b) else match fromR n a with
    | some (false, c) => some (false, .seq c b)
    | some (true, c) => some (true, c)
    | none => fromR n b
  | .scope c => fromR n c
  | .block _ c => (fromR n c).map fun p => (true, p.2)
  | .loop c => (fromR n c).map fun p => (true, p.2)
  | .cond _ a b => match fromR n a with
    | some p => some (true, p.2)
    | none => (fromR n b).map fun p => (true, p.2)
  | _ => none
noncomputable def tlF (f : Func) (k : Nat) : Code := (((f.body.bind (fromR k)).map (·.2)).getD .skip)
end Gwx
open Gwx
/-- A list of numbers, in a block from B on. -/
def Iz (B : Nat) (v : Value) (l : List Nat) (w : World) : Prop := ∃ g, Il g v l w ∧ (0 < l.length → B ≤ g)
theorem Iz.keep {B : Nat} {v : Value} {l : List Nat} {w w' : World} (h : Iz B v l w) (hs : w.heap.size ≤ w'.heap.size) (hb : ∀ k, B ≤ k → k < w.heap.size → w'.heap[k]? = w.heap[k]?) : Iz B v l w' := by
  obtain ⟨g, h1, h2⟩ := h
  exact ⟨g, h1.keep0 hs fun hl => hb g (h2 hl) (h1.lt hl), h2⟩
theorem Iz.below {B : Nat} {v : Value} {l : List Nat} {w w' : World} (h : Iz B v l w) (hb : Below w.heap.size w w') : Iz B v l w' := h.keep hb.size fun k _ hk => hb.block k hk
theorem iz_own {w : World} {B B' n : Nat} {v : Value} {l : List Nat} (h : w.ownsRow B 3 1 v n (ik l).toList) (hB : B' ≤ B) : Iz B' v l w := by
  obtain ⟨g, h1, h2⟩ := own_il h
  exact ⟨g, h1, fun hl => Nat.le_trans hB (h2 hl).1⟩
theorem Iz.form {B : Nat} {v : Value} {l : List Nat} {w : World} (h : Iz B v l w) : ∃ g o c, v = .slice o l.length c ∧ (0 < l.length → ∃ off, o = some ⟨g, off, none⟩ ∧ B ≤ g ∧ ∀ j, j < l.length → w.cell? ⟨g, off + j, none⟩ = some (.int .i64 ((l.getD j 0 : Nat) : Int))) := by
  obtain ⟨g, ⟨o, c, rfl, h1⟩, h2⟩ := h
  refine ⟨g, o, c, rfl, fun hl => ?_⟩
  obtain ⟨off, e, -, h3⟩ := h1 hl
  exact ⟨off, e, h2 hl, h3⟩
/-- What lies all along. -/
structure Wa (W : World) (kN kA kB kR kG kM gM N a b : Nat) (E : List (Nat × Nat)) (ev : Value) (x : Int) (X : World) : Prop where
  bel : Below W.heap.size W X
  n : X.heap[kN]? = some (.cells #[.int .i64 x] 3 (0, 0))
  a : X.heap[kA]? = some (.cells #[.int .i64 (a : Int)] 3 (0, 0))
  b : X.heap[kB]? = some (.cells #[.int .i64 (b : Int)] 3 (0, 0))
  r : X.heap[kR]? = some (.cells #[.bool false] 4 (0, 0))
  g : X.heap[kG]? = some (.cells #[.int .i64 (N : Int), ev] 24 (0, 0))
  el : El ev (zE E) X
  m : X.heap[kM]? = some (.cells #[.slice (some ⟨gM, 0, none⟩) N N] 26 (0, 0))
  mo : X.heap[gM]? = some (.cells (oc gM N N) 32 (0, 0))
  mr : ∀ i, i < N → X.heap[gM + 1 + i]? = some (.cells (bk N (Gl.pb E N i)) 4 (0, 0))
  k0 : W.heap.size = kN
  k1 : kN + 1 = kA
  k2 : kA + 1 = kB
  k3 : kB + 1 = kR
  k4 : kR < kG
  k5 : kR < kM
  k6 : kR < gM
  ev0 : ∃ o n c, ev = .slice o n c
  eb : ∀ k, ev.ownBlock = some k → kR < k
/-- The mathematics at hand. -/
structure Wm (N a b : Nat) (E : List (Nat × Nat)) (K : Nat) : Prop where
  h1 : 1 ≤ N
  h60 : N ≤ 60
  ha : a < N
  hb : b < N
  hE : ∀ e ∈ E, e.1 < N ∧ e.2 < N
  hEl : E.length ≤ 400
  hK : (lyr (ndF N E) [a] K).1 = []
  hK' : ∀ i, i < K → (lyr (ndF N E) [a] i).1 ≠ []
  hKN : K ≤ N
  hK0 : 0 < K
  reach : ∀ v, Gl.pb E N a v = true ↔ ∃ d, Bl (ndF N E) a d v
section
variable {W X X' : World} {kN kA kB kR kG kM gM N a b K : Nat} {E : List (Nat × Nat)} {ev : Value} {x : Int}
theorem Wa.below (h : Wa W kN kA kB kR kG kM gM N a b E ev x X) (hb : Below X.heap.size X X') : Wa W kN kA kB kR kG kM gM N a b E ev x X' :=
  have q {k : Nat} {o : Obj} (e : X.heap[k]? = some o) : X'.heap[k]? = some o := (hb.block k (Array.getElem?_eq_some_iff.1 e).1).trans e
  ⟨h.bel.trans (hb.mono h.bel.size), q h.n, q h.a, q h.b, q h.r, q h.g, h.el.below hb, q h.m, q h.mo, fun i hi => q (h.mr i hi), h.k0, h.k1, h.k2, h.k3, h.k4, h.k5, h.k6, h.ev0, h.eb⟩
/-- What is read of it. -/
structure Wc (kA kB kG kM gM N a b : Nat) (E : List (Nat × Nat)) (ev : Value) (X : World) : Prop where
  a : X.cell? ⟨kA, 0, none⟩ = some (.int .i64 (a : Int))
  b : X.cell? ⟨kB, 0, none⟩ = some (.int .i64 (b : Int))
  g0 : X.cell? ⟨kG, 0, none⟩ = some (.int .i64 (N : Int))
  g1 : X.cell? ⟨kG, 1, none⟩ = some ev
  m : X.cell? ⟨kM, 0, none⟩ = some (.slice (some ⟨gM, 0, none⟩) N N)
  mo : ∀ i, i < N → X.cell? ⟨gM, i, none⟩ = some (.slice (some ⟨gM + 1 + i, 0, none⟩) N N)
  mr : ∀ i j, i < N → j < N → X.cell? ⟨gM + 1 + i, j, none⟩ = some (.bool (Gl.pb E N i j))
theorem Wa.c (h : Wa W kN kA kB kR kG kM gM N a b E ev x X) : Wc kA kB kG kM gM N a b E ev X :=
  ⟨(cell_of_row _ _ _ _ _ _ h.a).trans rfl, (cell_of_row _ _ _ _ _ _ h.b).trans rfl, (cell_of_row _ _ _ _ _ _ h.g).trans rfl, (cell_of_row _ _ _ _ _ _ h.g).trans rfl, (cell_of_row _ _ _ _ _ _ h.m).trans rfl, fun i hi => by rw [cell_of_row _ _ _ _ _ _ h.mo, oc_get _ _ _ i hi, if_pos hi], fun i j hi hj => (cell_of_row _ _ _ _ _ _ (h.mr i hi)).trans (bk_get _ _ j hj)⟩
/-- What is reached. -/
def rL (N a : Nat) (E : List (Nat × Nat)) : List Nat := (List.range N).filter (Gl.pb E N a)
theorem rL_le : (rL N a E).length ≤ N := by
  unfold rL
  refine Nat.le_trans (List.length_filter_le _ _) ?_
  simp
theorem Wm.close (h : Wm N a b E K) : srt ((eaL (ndF N E) [a] K).map Prod.fst) = rL N a E := close_eq h.hK h.ha (fun v _ x hx => ndF_lt v x hx) _ (fun v _ => h.reach v)
theorem Wm.len (h : Wm N a b E K) : (eaL (ndF N E) [a] K).length = (rL N a E).length := by
  rw [← h.close, srt_len, List.length_map]
theorem eaL_pos {F : Nat → List Nat} (h : 0 < K) : 0 < (eaL F [a] K).length := (List.getElem?_eq_some_iff.1 (eaL_first h)).1
theorem Wm.pos (h : Wm N a b E K) : 0 < (eaL (ndF N E) [a] K).length := eaL_pos h.hK0
end
theorem badF_ok (N : Int) : ∀ (E : List (Int × Int)) (i : Nat), (∀ e ∈ E, okE N e = true) → badF N E i = none
  | [], i, _ => rfl
  | e :: r, i, h => by
    unfold badF
    rw [if_pos (h e (List.mem_cons_self ..))]
    exact badF_ok N r (i + 1) fun x hx => h x (List.mem_cons_of_mem _ hx)
theorem chk_zero {N : Nat} {E : List (Nat × Nat)} (h : ∀ e ∈ E, e.1 < N ∧ e.2 < N) (hN : N ≤ 1024) (hl : E.length ≤ 1000000) : (chk (N : Int) (zE E)).1 = 0 := by
  unfold chk
  rw [if_neg (by omega), if_neg (by rw [show (zE E).length = E.length by simp [zE]]; omega), badF_ok _ _ _ (fun e he => ?_)]
  · rfl
  · unfold zE at he
    obtain ⟨x, hx, rfl⟩ := List.mem_map.1 he
    have := h x hx
    simp [okE]
    omega
theorem fits_nd {N : Nat} {E : List (Nat × Nat)} (h : ∀ e ∈ E, e.1 < N ∧ e.2 < N) : Gl.Fits E (ndF N E) := fun a b => by
  unfold ndF trL
  rw [List.mem_filter, List.mem_range, decide_eq_true_iff, nds_all]
  exact ⟨fun q => ⟨(h _ q).2, q⟩, fun q => q.2⟩
theorem wm_of {N a b : Nat} {E : List (Nat × Nat)} (h1 : 1 ≤ N) (h60 : N ≤ 60) (ha : a < N) (hb : b < N) (hE : ∀ e ∈ E, e.1 < N ∧ e.2 < N) (hEl : E.length ≤ 400) : ∃ K, Wm N a b E K := by
  obtain ⟨K, k1, k2, k3⟩ := lyr_end (nd := ndF N E) (S := [a]) (N := N) (fun x hx => by rw [List.mem_singleton.1 hx]; exact ha) (fun v _ x hx => ndF_lt v x hx)
  exact ⟨K, h1, h60, ha, hb, hE, hEl, k2, k3, k1, ds_lt k2 0 a (ds_zero.2 rfl), fun v => (Gl.pb_iff (fits_nd hE) (fun a b hx => ndF_lt a b hx) a v).trans reach_iff⟩
theorem measW (N k : Nat) (h : k < N) : N + 1 - ((k : Int) + 1).toNat < N + 1 - (k : Int).toNat := by omega
theorem ltN {k N : Nat} (h : k < N) : (k : Int) < (N : Int) := by omega
theorem geN (k : Nat) : (0 : Int) ≤ (k : Int) := by omega
theorem nltN {k N : Nat} (h : ¬ k < N) : ¬ (k : Int) < (N : Int) := by omega
theorem eqN {k N : Nat} (h : k ≤ N) (h2 : ¬ k < N) : k = N := by omega
theorem wrN (k : Nat) (h : k < 1000000) : wrap64 ((k : Int) + 1) = (k : Int) + 1 := by unfold wrap64; omega
theorem nleN {k n : Nat} (h : k < n) : ¬ (n : Int) ≤ (k : Int) := by omega
/-- The law's first loop at v: k of the nodes below v are reached. -/
def Rk (N a : Nat) (E : List (Nat × Nat)) (v k : Nat) : Prop := k = ((List.range v).filter (Gl.pb E N a)).length
theorem Rk.no {N a v k : Nat} {E : List (Nat × Nat)} (h : Rk N a E v k) (hp : Gl.pb E N a v = false) : Rk N a E (v + 1) k := by
  unfold Rk at h ⊢
  rw [filter_succ, hp, h]
  simp
theorem Rk.yes {N a v k : Nat} {E : List (Nat × Nat)} (h : Rk N a E v k) (hp : Gl.pb E N a v = true) (hv : v < N) : Rk N a E (v + 1) (k + 1) ∧ k < (rL N a E).length ∧ (rL N a E).getD k 0 = v := by
  unfold Rk at h ⊢
  have q := filter_at (Gl.pb E N a) N v hv hp
  rw [← h] at q
  refine ⟨by rw [filter_succ, hp, h]; simp, (List.getElem?_eq_some_iff.1 q).1, ?_⟩
  unfold rL
  rw [List.getD_eq_getElem?_getD, q]
  rfl
attribute [local go_sem] Oper.semAt_some
set_option maxRecDepth 100000 in
set_option maxHeartbeats 6400000 in
/-- From region 5 on, up to region 16. -/
theorem gw5 (W X : World) {kN kA kB kR kG kM gM N a b K : Nat} {E : List (Nat × Nat)} {ev : Value} {x : Int} (hw : Wa W kN kA kB kR kG kM gM N a b E ev x X) (hm : Wm N a b E K)
    (HT : ∀ (U : World) (ol : Option Addr) (nl cl : Nat) {v0 v1 v2 v3 v5 v12 v14 v15 v16 v17 v18 v19 v20 v21 v22 v23 v24 v25 v26 v27 v28 v29 v30 v31 v32 v33 v34 v35 v36 v37 v38 v39 v40 v41 v42 v43 v44 v45 v46 v47 v48 v49 v50 v51 v52 v53 v54 v55 v56 v57 v58 v59 v60 v61 v62 v63 v64 v65 v66 v67 v68 v69 v70 v71 v72 v73 v74 v75 v76 v77 v78 v79 v80 v81 v82 v83 v84 v85 v86 v87 v88 v89 v90 v91 v92 v93 v94 v95 v96 v97 v98 v99 v100 v101 v102 v103 v104 v105 v106 v107 v108 v109 v110 v111 v112 v113 v114 v115 v116 v117 v118 v119 v120 v121 v122 v123 v124 v125 v126 v127 v128 v129 v130 v131 v132 v133 v134 v135 v136 v137 v138 v139 v140 v141 v142 v143 v144 v145 v146 v147 v148 v149 v150 v151 v152 v153 v154 v155 v156 v157 v158 v159 v160 v161 v162 v163 v164 v165 v166 v167 v168 v169 v170 v171 v172 v173 v174 v175 v176 v177 v178 v179 v180 v181 v182 v183 v184 v185 v186 v187 v188 v189 v190 v191 v192 v193 v194 v195 v196 v197 v198 v199 v200 v201 v202 v203 v204 v205 v206 v207 v208 v209 v210 v211 v212 v213 v214 v215 v216 v217 v218 v219 v220 v221 v222 v223 v224 v225 v226 v227 v228 v229 v230 v231 v232 v233 v234 v235 v236 v237 v238 v239 v240 v241 v242 v243 v244 v245 v246 v247 v248 v249 : Value}, Below X.heap.size X U → Iz (kR + 1) (.slice ol nl cl) (rL N a E) U → Code.wp Try.prog (tlF Try.f3 16) (bodyPostM Fence.wide 9 Try.prog Try.f3 (fun e w' => e = .returned (.bool true) ∧ Below W.heap.size W w')) ⟨#[v0, v1, v2, v3, .pointer (some ⟨kN, 0, none⟩), v5, .pointer (some ⟨kA, 0, none⟩), .pointer (some ⟨kB, 0, none⟩), .pointer (some ⟨kR, 0, none⟩), .pointer (some ⟨kG, 0, none⟩), .pointer (some ⟨kM, 0, none⟩), .slice ol nl cl, v12, .int .i64 (nl : Int), v14, v15, v16, v17, v18, v19, v20, v21, v22, v23, v24, v25, v26, v27, v28, v29, v30, v31, v32, v33, v34, v35, v36, v37, v38, v39, v40, v41, v42, v43, v44, v45, v46, v47, v48, v49, v50, v51, v52, v53, v54, v55, v56, v57, v58, v59, v60, v61, v62, v63, v64, v65, v66, v67, v68, v69, v70, v71, v72, v73, v74, v75, v76, v77, v78, v79, v80, v81, v82, v83, v84, v85, v86, v87, v88, v89, v90, v91, v92, v93, v94, v95, v96, v97, v98, v99, v100, v101, v102, v103, v104, v105, v106, v107, v108, v109, v110, v111, v112, v113, v114, v115, v116, v117, v118, v119, v120, v121, v122, v123, v124, v125, v126, v127, v128, v129, v130, v131, v132, v133, v134, v135, v136, v137, v138, v139, v140, v141, v142, v143, v144, v145, v146, v147, v148, v149, v150, v151, v152, v153, v154, v155, v156, v157, v158, v159, v160, v161, v162, v163, v164, v165, v166, v167, v168, v169, v170, v171, v172, v173, v174, v175, v176, v177, v178, v179, v180, v181, v182, v183, v184, v185, v186, v187, v188, v189, v190, v191, v192, v193, v194, v195, v196, v197, v198, v199, v200, v201, v202, v203, v204, v205, v206, v207, v208, v209, v210, v211, v212, v213, v214, v215, v216, v217, v218, v219, v220, v221, v222, v223, v224, v225, v226, v227, v228, v229, v230, v231, v232, v233, v234, v235, v236, v237, v238, v239, v240, v241, v242, v243, v244, v245, v246, v247, v248, v249], []⟩ U) {v0 v1 v2 v3 v5 v11 v12 v13 v14 v15 v16 v17 v18 v19 v20 v21 v22 v23 v24 v25 v26 v27 v28 v29 v30 v31 v32 v33 v34 v35 v36 v37 v38 v39 v40 v41 v42 v43 v44 v45 v46 v47 v48 v49 v50 v51 v52 v53 v54 v55 v56 v57 v58 v59 v60 v61 v62 v63 v64 v65 v66 v67 v68 v69 v70 v71 v72 v73 v74 v75 v76 v77 v78 v79 v80 v81 v82 v83 v84 v85 v86 v87 v88 v89 v90 v91 v92 v93 v94 v95 v96 v97 v98 v99 v100 v101 v102 v103 v104 v105 v106 v107 v108 v109 v110 v111 v112 v113 v114 v115 v116 v117 v118 v119 v120 v121 v122 v123 v124 v125 v126 v127 v128 v129 v130 v131 v132 v133 v134 v135 v136 v137 v138 v139 v140 v141 v142 v143 v144 v145 v146 v147 v148 v149 v150 v151 v152 v153 v154 v155 v156 v157 v158 v159 v160 v161 v162 v163 v164 v165 v166 v167 v168 v169 v170 v171 v172 v173 v174 v175 v176 v177 v178 v179 v180 v181 v182 v183 v184 v185 v186 v187 v188 v189 v190 v191 v192 v193 v194 v195 v196 v197 v198 v199 v200 v201 v202 v203 v204 v205 v206 v207 v208 v209 v210 v211 v212 v213 v214 v215 v216 v217 v218 v219 v220 v221 v222 v223 v224 v225 v226 v227 v228 v229 v230 v231 v232 v233 v234 v235 v236 v237 v238 v239 v240 v241 v242 v243 v244 v245 v246 v247 v248 v249 : Value} :
    Code.wp Try.prog (tlF Try.f3 5) (bodyPostM Fence.wide 9 Try.prog Try.f3 (fun e w' => e = .returned (.bool true) ∧ Below W.heap.size W w')) ⟨#[v0, v1, v2, v3, .pointer (some ⟨kN, 0, none⟩), v5, .pointer (some ⟨kA, 0, none⟩), .pointer (some ⟨kB, 0, none⟩), .pointer (some ⟨kR, 0, none⟩), .pointer (some ⟨kG, 0, none⟩), .pointer (some ⟨kM, 0, none⟩), v11, v12, v13, v14, v15, v16, v17, v18, v19, v20, v21, v22, v23, v24, v25, v26, v27, v28, v29, v30, v31, v32, v33, v34, v35, v36, v37, v38, v39, v40, v41, v42, v43, v44, v45, v46, v47, v48, v49, v50, v51, v52, v53, v54, v55, v56, v57, v58, v59, v60, v61, v62, v63, v64, v65, v66, v67, v68, v69, v70, v71, v72, v73, v74, v75, v76, v77, v78, v79, v80, v81, v82, v83, v84, v85, v86, v87, v88, v89, v90, v91, v92, v93, v94, v95, v96, v97, v98, v99, v100, v101, v102, v103, v104, v105, v106, v107, v108, v109, v110, v111, v112, v113, v114, v115, v116, v117, v118, v119, v120, v121, v122, v123, v124, v125, v126, v127, v128, v129, v130, v131, v132, v133, v134, v135, v136, v137, v138, v139, v140, v141, v142, v143, v144, v145, v146, v147, v148, v149, v150, v151, v152, v153, v154, v155, v156, v157, v158, v159, v160, v161, v162, v163, v164, v165, v166, v167, v168, v169, v170, v171, v172, v173, v174, v175, v176, v177, v178, v179, v180, v181, v182, v183, v184, v185, v186, v187, v188, v189, v190, v191, v192, v193, v194, v195, v196, v197, v198, v199, v200, v201, v202, v203, v204, v205, v206, v207, v208, v209, v210, v211, v212, v213, v214, v215, v216, v217, v218, v219, v220, v221, v222, v223, v224, v225, v226, v227, v228, v229, v230, v231, v232, v233, v234, v235, v236, v237, v238, v239, v240, v241, v242, v243, v244, v245, v246, v247, v248, v249], []⟩ X := by
  obtain ⟨oe, ne, ce, rfl⟩ := hw.ev0
  have HW := mkHid (And.intro hw hm)
  obtain ⟨X1, hX1⟩ : ∃ Y, X.alloc (.cells #[.int .i64 (a : Int)] 3) = Y := ⟨_, rfl⟩
  have b1 : Below X.heap.size X X1 := by rw [← hX1]; exact (Below.refl _ X).alloc (Nat.le_refl _) _
  have hi : Il X.heap.size (.slice (some ⟨X.heap.size, 0, none⟩) 1 1) [a] X1 := by rw [← hX1]; exact il_one X a
  have C := close_any N (by have := hm.h60; omega) E hm.hE (by have := hm.hEl; omega) _ X1 (hw.el.below b1) (chk_zero hm.hE (by have := hm.h60; omega) (by have := hm.hEl; omega)) hi (fun x hx => by rw [List.mem_singleton.1 hx]; exact hm.ha) (Nat.succ_pos _) (by show 1 < _; omega) hm.hK hm.hK' (by have := hm.hKN; have := hm.h60; omega) (by rw [hm.len]; have := rL_le (N := N) (a := a) (E := E); have := hm.h60; omega) hm.pos
  rw [hm.close] at C
  have c := hw.c
  have ca := c.a
  have c0 := c.g0
  have c1 := c.g1
  obtain ⟨kx, hkx⟩ : ∃ k, X.heap.size = k := ⟨_, rfl⟩
  have hxs : kR + 1 ≤ X1.heap.size := by
    have := (Array.getElem?_eq_some_iff.1 hw.r).1
    have := b1.size
    omega
  have HB := mkHid (And.intro b1 (And.intro hkx hxs))
  replace hX1 := mkHid hX1
  unfold grV at C
  rw [hkx] at C
  clear hw hm b1 hi c hxs
  conv => arg 2; whnf
  go_wp2_with fail
  try rw [hkx]
  rw [hX1.out]
  refine Calls.mono C ?_
  rintro e X2 ⟨ol, nl, cl, rfl, q1, q2⟩
  have b2 := HB.out.1.trans (q2.mono HB.out.1.size)
  have hz := iz_own q1 HB.out.2.2
  obtain ⟨gl, ol', cl', e, hf⟩ := hz.form
  injection e with e1 e2 e3
  subst e1 e3
  have hnl : 0 < nl := by
    rw [e2, ← HW.out.2.len]
    exact HW.out.2.pos
  have n0 : ¬ ((nl : Int) = 0) := by omega
  have n0' : ¬ nl = 0 := by omega
  have HX := mkHid (And.intro b2 (And.intro hz (And.intro (HW.out.1.below b2).c (And.intro hf e2))))
  clear b2 hz hf q1 q2 C ca c0 c1 e2
  dsimp only
  go_wp2_with fail
  have H0 : Hid (Rk N a E 0 0) := by unfold Rk; rfl
  rename_i K2 hk2
  have HK2 := mkHid hk2
  clear hk2
  go_loopw [14, 13] (fun iv kv wr => ∃ (i k : Nat), iv = .int .i64 (i : Int) ∧ kv = .int .i64 (k : Int) ∧ i ≤ N ∧ wr = X2 ∧ Hid (Rk N a E i k)) (fun iv _ _ => N + 1 - (intOf iv).toNat)
  case atStart => exact ⟨0, 0, rfl, rfl, Nat.zero_le _, rfl, H0⟩
  case round =>
    obtain ⟨i, k, rfl, rfl, hi, rfl, HI⟩ := hrel
    have c := HX.out.2.2.1
    have ca := c.a
    have c0 := c.g0
    have cm := c.m
    by_cases hlt : i < N
    · have i1 := ltN hlt
      have i0 := geN i
      have a0 := geN a
      have a1 := ltN HW.out.2.ha
      have cma := c.mo a HW.out.2.ha
      have cmv := c.mr a i HW.out.2.ha hlt
      have wi := wrN i (by have := HW.out.2.h60; omega)
      cases hp : Gl.pb E N a i with
      | false =>
        rw [hp] at cmv
        have HN := mkHid (And.intro hlt (HI.out.no hp))
        clear c hi hlt hp HI
        go_wp2_with fail
        go_roundw
        · exact ⟨i + 1, k, by go_num, rfl, HN.out.1, by first | rfl | trivial, HN.out.2⟩
        · first
            | exact measW N i HN.out.1
            | (rw [wi]; exact measW N i HN.out.1)
      | true =>
        rw [hp] at cmv
        obtain ⟨y1, y2, y3⟩ := HI.out.yes hp hlt
        have yn : k < nl := by rw [HX.out.2.2.2.2]; exact y2
        obtain ⟨off, rfl, -, hcc⟩ := HX.out.2.2.2.1 (Nat.lt_of_le_of_lt (Nat.zero_le _) y2)
        have ck := hcc k y2
        rw [y3] at ck
        have k0 := geN k
        have k1 := ltN yn
        have k2 := nleN yn
        have wk := wrN k (by have := rL_le (N := N) (a := a) (E := E); have := HW.out.2.h60; omega)
        have HN := mkHid (And.intro hlt y1)
        clear c hi hlt hp HI y1 y2 y3 hcc yn
        go_wp2_with fail
        go_roundw
        · exact ⟨i + 1, k + 1, by go_num, by go_num, HN.out.1, by first | rfl | trivial, HN.out.2⟩
        · first
            | exact measW N i HN.out.1
            | (rw [wi]; exact measW N i HN.out.1)
    · have i1 := nltN hlt
      have hk : k = nl := by
        rw [HX.out.2.2.2.2]
        have := HI.out
        rw [eqN hi hlt] at this
        exact this
      subst hk
      clear c hi hlt HI
      go_wp2_with fail
      exact HK2.out _ _ (HT _ _ _ _ HX.out.1 HX.out.2.1)
end Go.Proofs.Ytibhjkmbbfgnpaa
