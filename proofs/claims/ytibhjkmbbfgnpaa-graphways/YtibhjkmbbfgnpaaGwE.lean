/- GraphWays: the law: the path, and that none is shorter. -/
import Derived.Test.YtibhjkmbbfgnpaaGwD
namespace Go.Proofs.Ytibhjkmbbfgnpaa
open Go.RowKit GM Gwx
/-- The law's shortest, where b is at distance d. -/
theorem lsh_any {N a b K d : Nat} {E : List (Nat × Nat)} (hm : Wm N a b E K) (hd : Ds (ndF N E) a d b) (v : Value) (w : World) (hv : El v (zE E) w) :
    Calls Try.prog 14 #[grV (N : Int) v, .int .i64 (a : Int), .int .i64 (b : Int)] w fun e w' => e = .returned (.int .i64 (d : Int)) ∧ Below w.heap.size w w' := by
  refine Calls.mono (lshort_any N (by have := hm.h60; omega) E hm.hE (by have := hm.hEl; omega) v w hv a b hm.ha hm.hb (fun d => bb E a d b) fun _ => rfl) ?_
  rintro e w' ⟨hb, ⟨d', h1, h2, h3, rfl⟩ | ⟨h1, -⟩⟩
  · have q := (bb_iff (fits_nd hm.hE) d' b).1 h2
    have e1 : d = d' := by
      rcases Nat.lt_trichotomy d d' with k | k | k
      · have := h3 d k
        rw [(bb_iff (fits_nd hm.hE) d b).2 hd.1] at this
        cases this
      · exact k
      · exact absurd q (hd.2 d' k)
    rw [e1]
    exact ⟨rfl, hb⟩
  · have q := ds_lt hm.hK d b hd
    have := h1 d (by have := hm.hKN; omega)
    rw [(bb_iff (fits_nd hm.hE) d b).2 hd.1] at this
    cases this
theorem edgW {N a b K : Nat} {E : List (Nat × Nat)} (hm : Wm N a b E K) {x y : Nat} (h : y ∈ ndF N E x) : decide ((x, y) ∈ E) = true := decide_eq_true ((fits_nd hm.hE x y).2 h)
theorem wrS {i j : Nat} (h : j + 1 = i) (h2 : i < 1000000) : wrap64 ((i : Int) - 1) = (j : Int) := by unfold wrap64; omega
theorem measV (n i : Nat) (h : i < n) : n + 1 - ((i : Int) + 1).toNat < n + 1 - (i : Int).toNat := by omega
set_option maxRecDepth 100000 in
set_option maxHeartbeats 6400000 in
/-- From region 41 on. -/
theorem gw41 (W X : World) {kN kA kB kR kG kM gM N a b K nw cw kF kD d : Nat} {ow : Option Addr} {E : List (Nat × Nat)} {ev : Value} {x : Int} {Lw : List Nat} (hw : Wa W kN kA kB kR kG kM gM N a b E ev x X) (hm : Wm N a b E K) (hP : Pth (ndF N E) a b d Lw) (hz : Iz (kR + 1) (.slice ow nw cw) Lw X) (rF : X.heap[kF]? = some (.cells #[.int .i64 (d : Int)] 3 (0, 0))) (rD : X.heap[kD]? = some (.deferred (some []))) (hD : W.heap.size ≤ kD) {v0 v1 v2 v3 v5 v11 v12 v13 v14 v15 v16 v18 v19 v21 v22 v23 v24 v25 v26 v27 v28 v29 v30 v31 v32 v33 v34 v35 v36 v37 v38 v39 v40 v41 v42 v43 v44 v45 v46 v47 v48 v49 v50 v51 v52 v53 v54 v55 v56 v57 v58 v59 v60 v61 v62 v63 v64 v65 v66 v67 v68 v69 v70 v71 v72 v73 v74 v75 v76 v77 v78 v79 v80 v81 v82 v83 v84 v85 v86 v87 v88 v89 v90 v91 v92 v93 v94 v95 v96 v97 v98 v99 v100 v101 v102 v103 v104 v105 v106 v107 v108 v109 v110 v111 v112 v113 v114 v115 v116 v117 v118 v119 v120 v121 v122 v123 v124 v125 v126 v127 v128 v129 v130 v131 v132 v133 v134 v135 v136 v137 v138 v139 v140 v141 v142 v143 v144 v145 v146 v147 v148 v149 v150 v151 v152 v153 v154 v155 v156 v157 v158 v159 v160 v161 v162 v163 v164 v165 v166 v167 v168 v169 v170 v171 v172 v173 v174 v175 v176 v177 v178 v179 v180 v181 v182 v183 v184 v185 v186 v187 v188 v189 v190 v191 v192 v193 v194 v195 v196 v197 v198 v199 v200 v201 v202 v203 v204 v205 v206 v207 v208 v209 v210 v211 v212 v213 v214 v215 v216 v217 v218 v219 v220 v221 v222 v223 v224 v225 v226 v227 v228 v229 v230 v231 v232 v233 v234 v235 v236 v237 v238 v239 v240 v241 v242 v243 v244 v245 v246 v247 v248 v249 : Value} :
    Code.wp Try.prog (tlF Try.f3 41) (bodyPostM Fence.wide 9 Try.prog Try.f3 (fun e w' => e = .returned (.bool true) ∧ Below W.heap.size W w')) ⟨#[v0, v1, v2, v3, .pointer (some ⟨kN, 0, none⟩), v5, .pointer (some ⟨kA, 0, none⟩), .pointer (some ⟨kB, 0, none⟩), .pointer (some ⟨kR, 0, none⟩), .pointer (some ⟨kG, 0, none⟩), .pointer (some ⟨kM, 0, none⟩), v11, v12, v13, v14, v15, v16, .slice ow nw cw, v18, v19, .pointer (some ⟨kF, 0, none⟩), v21, v22, v23, v24, v25, v26, v27, v28, v29, v30, v31, v32, v33, v34, v35, v36, v37, v38, v39, v40, v41, v42, v43, v44, v45, v46, v47, v48, v49, v50, v51, v52, v53, v54, v55, v56, v57, v58, v59, v60, v61, v62, v63, v64, v65, v66, v67, v68, v69, v70, v71, v72, v73, v74, v75, v76, v77, v78, v79, v80, v81, v82, v83, v84, v85, v86, v87, v88, v89, v90, v91, v92, v93, v94, v95, v96, v97, v98, v99, v100, v101, v102, v103, v104, v105, v106, v107, v108, v109, v110, v111, v112, v113, v114, v115, v116, v117, v118, v119, v120, v121, v122, v123, v124, v125, v126, v127, v128, v129, v130, v131, v132, v133, v134, v135, v136, v137, v138, v139, v140, v141, v142, v143, v144, v145, v146, v147, v148, v149, v150, v151, v152, v153, v154, v155, v156, v157, v158, v159, v160, v161, v162, v163, v164, v165, v166, v167, v168, v169, v170, v171, v172, v173, v174, v175, v176, v177, v178, v179, v180, v181, v182, v183, v184, v185, v186, v187, v188, v189, v190, v191, v192, v193, v194, v195, v196, v197, v198, v199, v200, v201, v202, v203, v204, v205, v206, v207, v208, v209, v210, v211, v212, v213, v214, v215, v216, v217, v218, v219, v220, v221, v222, v223, v224, v225, v226, v227, v228, v229, v230, v231, v232, v233, v234, v235, v236, v237, v238, v239, v240, v241, v242, v243, v244, v245, v246, v247, v248, v249], [{ target := .collected kD, args := #[] }]⟩ X := by
  obtain ⟨oe, ne, ce, rfl⟩ := hw.ev0
  obtain ⟨gw, ow', cw', e, hcw⟩ := hz.form
  have hln := hP.ln
  rw [hln] at e hcw
  injection e with e1 e2 e3
  subst e1 e3
  obtain ⟨off, rfl, -, hcc⟩ := hcw (Nat.succ_pos _)
  have hdN : d < 1000 := by
    have := ds_lt hm.hK d b hP.ds
    have := hm.hKN
    have := hm.h60
    omega
  have HW := mkHid (And.intro hw (And.intro hm (And.intro hP (And.intro rF (And.intro rD (And.intro hD (And.intro hcc (And.intro e2 hdN))))))))
  have H1 : Hid (Below X.heap.size X X) := Below.refl _ X
  have hn1 : 1 ≤ nw := by omega
  clear hw hm hP hz rF rD hD hcw hcc hln hdN e2
  conv => arg 2; whnf
  go_wp2_with fail
  go_loopw [24] (fun iv wr => ∃ i : Nat, iv = .int .i64 (i : Int) ∧ 1 ≤ i ∧ i ≤ nw ∧ Hid (Below X.heap.size X wr)) (fun iv _ => nw + 1 - (intOf iv).toNat)
  case atStart => exact ⟨1, rfl, Nat.le_refl _, hn1, H1⟩
  case round =>
    obtain ⟨i, rfl, hi1, hi, HI⟩ := hrel
    by_cases hlt : i < nw
    · obtain ⟨hw, hm, hP, rF, rD, hD, hcc, e2, hdN⟩ := HW.out
      obtain ⟨j, hj⟩ : ∃ j, j + 1 = i := ⟨i - 1, by omega⟩
      have hb := HI.out
      have hw2 := hw.below hb
      have c := hw2.c
      obtain ⟨x, hx⟩ : ∃ x, Lw.getD j 0 = x := ⟨_, rfl⟩
      obtain ⟨y, hy⟩ : ∃ y, Lw.getD i 0 = y := ⟨_, rfl⟩
      have cj : wr.cell? ⟨gw, off + j, none⟩ = some (.int .i64 (x : Int)) := by rw [← hx]; exact cell_belowX hb (hcc j (by omega))
      have ci : wr.cell? ⟨gw, off + i, none⟩ = some (.int .i64 (y : Int)) := by rw [← hy]; exact cell_belowX hb (hcc i (by omega))
      have hxy : y ∈ ndF N E x := by
        have := hP.ch.get j (by rw [hP.ln]; omega)
        rw [hj, hx, hy] at this
        exact this
      have CE : ∀ m, Calls Try.prog 13 #[grV (N : Int) (.slice oe ne ce), .int .i64 (x : Int), .int .i64 (y : Int)] (wr.drewN m) fun e w' => e = .returned (.bool true) ∧ Below (wr.drewN m).heap.size (wr.drewN m) w' := fun m => by
        have := edge_any (N : Int) E (by have := hm.hEl; omega) (.slice oe ne ce) (wr.drewN m) (hw2.el.below (drewN_below (Below.refl _ wr) m)) x y
        rw [edgW hm hxy] at this
        exact this
      unfold grV at CE
      have g0 : ∀ k, (wr.drewN k).cell? ⟨kG, 0, none⟩ = some (.int .i64 (N : Int)) := fun _ => c.g0
      have g1 : ∀ k, (wr.drewN k).cell? ⟨kG, 1, none⟩ = some (.slice oe ne ce) := fun _ => c.g1
      have gj : ∀ k, (wr.drewN k).cell? ⟨gw, off + j, none⟩ = some (.int .i64 (x : Int)) := fun _ => cj
      have gi : ∀ k, (wr.drewN k).cell? ⟨gw, off + i, none⟩ = some (.int .i64 (y : Int)) := fun _ => ci
      have dg0 : wr.drew.cell? ⟨kG, 0, none⟩ = some (.int .i64 (N : Int)) := c.g0
      have dg1 : wr.drew.cell? ⟨kG, 1, none⟩ = some (.slice oe ne ce) := c.g1
      have dgj : wr.drew.cell? ⟨gw, off + j, none⟩ = some (.int .i64 (x : Int)) := cj
      have dgi : wr.drew.cell? ⟨gw, off + i, none⟩ = some (.int .i64 (y : Int)) := ci
      have w1 := wrS hj (by omega)
      have w2 : IntKind.i64.wrap ((i : Int) - 1) = (j : Int) := (wrapE _).trans w1
      have j0 := geN j
      have j1 : (j : Int) < (nw : Int) := ltN (by omega)
      have i0 := geN i
      have i1 := ltN hlt
      have wi := wrN i (by omega)
      have HS : Hid (∀ m w8, Below (wr.drewN m).heap.size (wr.drewN m) w8 → w8.cell? ⟨kG, 0, none⟩ = some (.int .i64 (N : Int)) ∧ w8.cell? ⟨kG, 1, none⟩ = some (.slice oe ne ce) ∧ w8.cell? ⟨gw, off + j, none⟩ = some (.int .i64 (x : Int)) ∧ w8.cell? ⟨gw, off + i, none⟩ = some (.int .i64 (y : Int)) ∧ Below X.heap.size X w8) := fun m w8 h8 =>
        ⟨cell_belowX h8 (g0 m), cell_belowX h8 (g1 m), cell_belowX h8 (gj m), cell_belowX h8 (gi m), (drewN_below hb m).trans (h8.mono hb.size)⟩
      have HN := mkHid hlt
      have HS1 : Hid (∀ w8, Below wr.drew.heap.size wr.drew w8 → w8.cell? ⟨kG, 0, none⟩ = some (.int .i64 (N : Int)) ∧ w8.cell? ⟨kG, 1, none⟩ = some (.slice oe ne ce) ∧ w8.cell? ⟨gw, off + j, none⟩ = some (.int .i64 (x : Int)) ∧ w8.cell? ⟨gw, off + i, none⟩ = some (.int .i64 (y : Int)) ∧ Below X.heap.size X w8) := fun w8 h8 => HS.out 1 w8 h8
      have CE1 : Calls Try.prog 13 #[.agg #[.int .i64 (N : Int), .slice oe ne ce], .int .i64 (x : Int), .int .i64 (y : Int)] wr.drew fun e w' => e = .returned (.bool true) ∧ Below wr.drew.heap.size wr.drew w' := CE 1
      have bd : ∀ m, Below X.heap.size X (wr.drewN m) := drewN_below hb
      have bd1 : Below X.heap.size X wr.drew := drewN_below hb 1
      clear hw hm hP rF rD hD hcc e2 hdN hb hw2 c hx hy cj ci hxy hlt hj
      go_upto_region 44 with fail
      go_region_held3 (fun w' => w'.cell? ⟨kG, 0, none⟩ = some (.int .i64 (N : Int)) ∧ w'.cell? ⟨kG, 1, none⟩ = some (.slice oe ne ce) ∧ w'.cell? ⟨gw, off + j, none⟩ = some (.int .i64 (x : Int)) ∧ w'.cell? ⟨gw, off + i, none⟩ = some (.int .i64 (y : Int)) ∧ Below X.heap.size X w')
        (first | assumption | exact ⟨g0 _, g1 _, gj _, gi _, bd _⟩ | exact ⟨dg0, dg1, dgj, dgi, bd1⟩ | exact HS.out _ _ (by assumption) | go_keep)
        (first
          | (go_at_call 13; with_reducible refine Calls.mono CE1 ?_; rintro e w8 ⟨rfl, b8⟩; have hS8 := HS1.out w8 b8))
      rename_i hHeld
      have HB8 := mkHid hHeld.2.2.2.2
      clear hHeld hS8 b8 CE CE1 HS HS1 g0 g1 gj gi dg0 dg1 dgj dgi bd bd1
      go_wp2_with fail
      go_roundw
      · exact ⟨i + 1, by go_num, by omega, HN.out, HB8⟩
      · first
          | exact measV nw i HN.out
          | (rw [wi]; exact measV nw i HN.out)
    · obtain ⟨hw, hm, hP, rF, rD, hD, hcc, e2, hdN⟩ := HW.out
      have i1 := nltN hlt
      have hb := HI.out
      have hw2 := hw.below hb
      have c := hw2.c
      have rF2 := (hb.block _ (Array.getElem?_eq_some_iff.1 rF).1).trans rF
      have rD2 := (hb.block _ (Array.getElem?_eq_some_iff.1 rD).1).trans rD
      have CL : Calls Try.prog 14 #[grV (N : Int) (.slice oe ne ce), .int .i64 (a : Int), .int .i64 (b : Int)] wr.drew fun e w' => e = .returned (.int .i64 (d : Int)) ∧ Below wr.drew.heap.size wr.drew w' := lsh_any hm hP.ds _ _ (hw2.el.below (drewN_below (Below.refl _ wr) 1))
      unfold grV at CL
      have g0 : wr.drew.cell? ⟨kG, 0, none⟩ = some (.int .i64 (N : Int)) := c.g0
      have g1 : wr.drew.cell? ⟨kG, 1, none⟩ = some (.slice oe ne ce) := c.g1
      have ga : wr.drew.cell? ⟨kA, 0, none⟩ = some (.int .i64 (a : Int)) := c.a
      have gb : wr.drew.cell? ⟨kB, 0, none⟩ = some (.int .i64 (b : Int)) := c.b
      have gf : wr.drew.cell? ⟨kF, 0, none⟩ = some (.int .i64 (d : Int)) := (cell_of_row wr.drew _ _ _ _ _ rF2).trans rfl
      have bd1 : Below W.heap.size W wr.drew := drewN_below hw2.bel 1
      have rR : wr.drew.heap[kR]? = some (.cells #[.bool false] 4 (0, 0)) := hw2.r
      have rDd : wr.drew.heap[kD]? = some (.deferred (some [])) := rD2
      have hne : kD ≠ kR := fun e => by
        have := hw2.r
        rw [← e, rD2] at this
        cases this
      have hWR : W.heap.size ≤ kR := by have := hw.k0; have := hw.k1; have := hw.k2; have := hw.k3; omega
      have gr : wr.drew.cell? ⟨kR, 0, none⟩ = some (.bool false) := (cell_of_row wr.drew _ _ _ _ _ rR).trans rfl
      have gz : wr.drew.frozen? ⟨kR, 0, none⟩ = false := frozen_of_row wr.drew _ _ _ _ rR
      have nG : kG ≠ kR := by have := hw.k4; omega
      have nA : kA ≠ kR := by have := hw.k2; have := hw.k3; omega
      have nB : kB ≠ kR := by have := hw.k3; omega
      have nF : kF ≠ kR := fun e => by
        have := hw2.r
        rw [← e, rF2] at this
        cases this
      have oc8 (A : World) (k o : Nat) (hk : k ≠ kR) : (A.setCell ⟨kR, 0, none⟩ (.bool true)).cell? ⟨k, o, none⟩ = A.cell? ⟨k, o, none⟩ := World.cell?_of_block (w := A) (a := ⟨k, o, none⟩) (heap_setCell_other A ⟨kR, 0, none⟩ k _ hk)
      have HS1 : Hid (∀ w8, Below wr.drew.heap.size wr.drew w8 → (w8.cell? ⟨kG, 0, none⟩ = some (.int .i64 (N : Int)) ∧ w8.cell? ⟨kG, 1, none⟩ = some (.slice oe ne ce) ∧ w8.cell? ⟨kA, 0, none⟩ = some (.int .i64 (a : Int)) ∧ w8.cell? ⟨kB, 0, none⟩ = some (.int .i64 (b : Int)) ∧ w8.cell? ⟨kF, 0, none⟩ = some (.int .i64 (d : Int))) ∧ w8.cell? ⟨kR, 0, none⟩ = some (.bool false) ∧ w8.frozen? ⟨kR, 0, none⟩ = false ∧ ∃ Y, w8.setCell ⟨kR, 0, none⟩ (.bool true) = Y ∧ (Y.cell? ⟨kG, 0, none⟩ = some (.int .i64 (N : Int)) ∧ Y.cell? ⟨kG, 1, none⟩ = some (.slice oe ne ce) ∧ Y.cell? ⟨kA, 0, none⟩ = some (.int .i64 (a : Int)) ∧ Y.cell? ⟨kB, 0, none⟩ = some (.int .i64 (b : Int)) ∧ Y.cell? ⟨kF, 0, none⟩ = some (.int .i64 (d : Int))) ∧ Hid (Y.heap[kR]? = some (.cells #[.bool true] 4 (0, 0)) ∧ Y.heap[kD]? = some (.deferred (some [])) ∧ Below W.heap.size W Y)) := fun w8 h8 => by
        have q := (h8.block _ (Array.getElem?_eq_some_iff.1 rR).1).trans rR
        refine ⟨⟨cell_belowX h8 g0, cell_belowX h8 g1, cell_belowX h8 ga, cell_belowX h8 gb, cell_belowX h8 gf⟩, (cell_of_row _ _ _ _ _ _ q).trans rfl, frozen_of_row _ _ _ _ _ q, _, rfl, ⟨(oc8 w8 kG 0 nG).trans (cell_belowX h8 g0), (oc8 w8 kG 1 nG).trans (cell_belowX h8 g1), (oc8 w8 kA 0 nA).trans (cell_belowX h8 ga), (oc8 w8 kB 0 nB).trans (cell_belowX h8 gb), (oc8 w8 kF 0 nF).trans (cell_belowX h8 gf)⟩, ?_, ?_, ?_⟩
        · rw [setCell_eq_setRow w8 kR 0 _ _ _ _ q]
          exact setRow_heap _ _ _ _ _ _ q
        · exact (heap_setCell_other w8 ⟨kR, 0, none⟩ kD _ hne).trans ((h8.block _ (Array.getElem?_eq_some_iff.1 rDd).1).trans rDd)
        · exact (bd1.trans (h8.mono bd1.size)).setCell (p := ⟨kR, 0, none⟩) hWR _
      have HD := mkHid (And.intro hne hD)
      clear hw hm hP rF rD hD hcc e2 hdN hb hw2 c hlt rF2 rD2 bd1 rR rDd hne hWR nG nA nB nF oc8
      go_upto_region 46 with fail
      go_region_held3 (fun w' => w'.cell? ⟨kG, 0, none⟩ = some (.int .i64 (N : Int)) ∧ w'.cell? ⟨kG, 1, none⟩ = some (.slice oe ne ce) ∧ w'.cell? ⟨kA, 0, none⟩ = some (.int .i64 (a : Int)) ∧ w'.cell? ⟨kB, 0, none⟩ = some (.int .i64 (b : Int)) ∧ w'.cell? ⟨kF, 0, none⟩ = some (.int .i64 (d : Int)))
        (first | assumption | exact ⟨g0, g1, ga, gb, gf⟩ | go_keep)
        (first
          | (go_at_call 14; with_reducible refine Calls.mono CL ?_; rintro e w8 ⟨rfl, b8⟩; obtain ⟨hS8, hr8, hz8, Y, hY8, hSY, HY8⟩ := HS1.out w8 b8))
      clear hS8 hr8 hz8 hY8 hSY b8 CL HS1 g0 g1 ga gb gf gr gz i1
      rename_i hHeld
      clear hHeld
      go_wp2_with fail
      obtain ⟨r1, r2, r3⟩ := HY8.out
      obtain ⟨r5, r4⟩ := HD.out
      refine ⟨by simp, .inl ⟨_, _, rfl, run_takeDeferred r2, ?_⟩⟩
      have r6 : (Y.putObj kD (.deferred none)).heap[kR]? = some (.cells #[.bool true] 4 (0, 0)) := (World.putObj_heap_other (Ne.symm r5)).trans r1
      have hc5 : (Y.putObj kD (.deferred none)).cell? ⟨kR, 0, none⟩ = some (.bool true) := (cell_of_row _ _ _ _ _ _ r6).trans rfl
      refine ⟨.bool true, ?_, rfl, below_put r3 r4 _⟩
      simp [results, Try.f3, go_sem, hc5]
end Go.Proofs.Ytibhjkmbbfgnpaa
