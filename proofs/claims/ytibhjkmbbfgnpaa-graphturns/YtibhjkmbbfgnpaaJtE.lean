/- Several texts in one: GtD, GtE, GtF, GtG. -/
import Derived.Test.YtibhjkmbbfgnpaaJtA
import Derived.Test.YtibhjkmbbfgnpaaJtC
import Derived.Test.YtibhjkmbbfgnpaaJtD
import Derived.Test.YtibhjkmbbfgnpaaJoD
import Derived.Deep.QuietTactic
import Derived.BigQuiet
import Derived.Deep.RegionHeld3
import Derived.Deep.MidRow
import Derived.Test.YtibhjkmbbfgnpaaGlQ
/- GraphTurns: the law from region 20 on: reached both ways, the same groups. -/
namespace Go.Proofs.Ytibhjkmbbfgnpaa
open Go.RowKit GM Gl Gsx
set_option maxRecDepth 20000
/-- What lies while the law is at work. -/
structure Tw (W : World) (kG kT kV N : Nat) (E : List (Nat × Nat)) (ev et eu : Value) (X : World) : Prop where
  bel : Below W.heap.size W X
  g : X.heap[kG]? = some (.cells #[.int .i64 (N : Int), ev] 24 (0, 0))
  t : X.heap[kT]? = some (.cells #[.int .i64 (N : Int), et] 24 (0, 0))
  v : X.heap[kV]? = some (.cells #[.int .i64 (N : Int), eu] 24 (0, 0))
  eg : El ev (zE E) X
  et : El et (zE (nrm N (trn E))) X
  eu : El eu (zE (nrm N E)) X
theorem Tw.below {W X Y : World} {kG kT kV N : Nat} {E : List (Nat × Nat)} {ev et eu : Value} (h : Tw W kG kT kV N E ev et eu X) (hb : Below X.heap.size X Y) : Tw W kG kT kV N E ev et eu Y :=
  have q {k : Nat} {o : Obj} (e : X.heap[k]? = some o) : Y.heap[k]? = some o := (hb.block k (Array.getElem?_eq_some_iff.1 e).1).trans e
  ⟨h.bel.trans (hb.mono h.bel.size), q h.g, q h.t, q h.v, h.eg.below hb, h.et.below hb, h.eu.below hb⟩
/-- The mathematics at hand. -/
structure Tm (N a b : Nat) (E : List (Nat × Nat)) : Prop where
  h1 : 1 ≤ N
  h60 : N ≤ 60
  ha : a < N
  hb : b < N
  hE : ∀ e ∈ E, e.1 < N ∧ e.2 < N
  hl : E.length ≤ 400
theorem Tm.chk {N a b : Nat} {E : List (Nat × Nat)} (h : Tm N a b E) : (Go.Proofs.Ytibhjkmbbfgnpaa.chk (N : Int) (zE E)).1 = 0 := chk0 h.hE (by have := h.h60; omega) (by have := h.hl; omega)
theorem Tm.turn {N a b : Nat} {E : List (Nat × Nat)} (h : Tm N a b E) : (Go.Proofs.Ytibhjkmbbfgnpaa.chk (N : Int) (zE (nrm N (trn E)))).1 = 0 := chk0 nrm_fit (by have := h.h60; omega) (by have := nrm_len h.h60 (trn E); omega)
set_option maxRecDepth 100000 in
set_option maxHeartbeats 6400000 in
theorem gt20 (W X : World) {kG kT kU kV N a b : Nat} {ev et eu : Value} {E : List (Nat × Nat)} (hw : Tw W kG kT kV N E ev et eu X) (hm : Tm N a b E) {v0 v1 v4 v5 v6 v7 v8 v11 v13 v15 v16 v17 v18 v19 v20 v21 v22 v23 v24 v25 v26 v27 v28 v29 v30 v31 v32 v33 v34 v35 v36 v37 v38 v39 v40 v41 v42 v43 v44 v45 v46 v47 v48 v49 v50 v51 v52 v53 v54 v55 v56 v57 v58 v59 v60 v61 v62 v63 v64 v65 v66 v67 v68 v69 v70 v71 v72 v73 v74 v75 v76 v77 v78 v79 v80 v81 v82 v83 v84 v85 v86 v87 v88 v89 v90 v91 v92 v93 v94 v95 v96 v97 v98 v99 v100 v101 v102 v103 v104 v105 v106 v107 v108 v109 v110 v111 v112 v113 v114 v115 v116 v117 v118 v119 v120 v121 v122 v123 v124 v125 v126 v127 v128 v129 v130 v131 v132 v133 v134 v135 v136 v137 v138 v139 v140 v141 v142 v143 v144 v145 v146 v147 v148 v149 v150 v151 v152 v153 v154 v155 v156 v157 v158 v159 v160 v161 v162 v163 v164 v165 v166 v167 v168 v169 v170 v171 v172 v173 v174 v175 v176 v177 v178 v179 v180 v181 v182 v183 v184 v185 v186 v187 v188 v189 v190 v191 v192 v193 v194 v195 v196 v197 v198 v199 v200 v201 v202 v203 v204 v205 v206 : Value} :
    Code.wp Try.prog (tlF Try.f5 20) (bodyPost Try.prog Try.f5 (fun e w' => e = .returned (.bool true) ∧ Below W.heap.size W w')) ⟨#[v0, v1, .int .i64 (a : Int), .int .i64 (b : Int), v4, v5, v6, v7, v8, .pointer (some ⟨kG, 0, none⟩), .pointer (some ⟨kT, 0, none⟩), v11, .pointer (some ⟨kU, 0, none⟩), v13, .pointer (some ⟨kV, 0, none⟩), v15, v16, v17, v18, v19, v20, v21, v22, v23, v24, v25, v26, v27, v28, v29, v30, v31, v32, v33, v34, v35, v36, v37, v38, v39, v40, v41, v42, v43, v44, v45, v46, v47, v48, v49, v50, v51, v52, v53, v54, v55, v56, v57, v58, v59, v60, v61, v62, v63, v64, v65, v66, v67, v68, v69, v70, v71, v72, v73, v74, v75, v76, v77, v78, v79, v80, v81, v82, v83, v84, v85, v86, v87, v88, v89, v90, v91, v92, v93, v94, v95, v96, v97, v98, v99, v100, v101, v102, v103, v104, v105, v106, v107, v108, v109, v110, v111, v112, v113, v114, v115, v116, v117, v118, v119, v120, v121, v122, v123, v124, v125, v126, v127, v128, v129, v130, v131, v132, v133, v134, v135, v136, v137, v138, v139, v140, v141, v142, v143, v144, v145, v146, v147, v148, v149, v150, v151, v152, v153, v154, v155, v156, v157, v158, v159, v160, v161, v162, v163, v164, v165, v166, v167, v168, v169, v170, v171, v172, v173, v174, v175, v176, v177, v178, v179, v180, v181, v182, v183, v184, v185, v186, v187, v188, v189, v190, v191, v192, v193, v194, v195, v196, v197, v198, v199, v200, v201, v202, v203, v204, v205, v206], []⟩ X := by
  obtain ⟨oe, ce, hev, -, -⟩ := hw.eg.form
  obtain ⟨ot, ct, het, -, -⟩ := hw.et.form
  rw [zE_len] at hev het
  subst hev het
  obtain ⟨ne, hne⟩ : ∃ n, E.length = n := ⟨_, rfl⟩
  obtain ⟨nt, hnt⟩ : ∃ n, (nrm N (trn E)).length = n := ⟨_, rfl⟩
  rw [hne, hnt] at hw
  have C1 := reaches_any N (by have := hm.h60; omega) E hm.hE (by have := hm.hl; omega) (.slice oe ne ce) X hw.eg hm.chk a b hm.ha hm.hb
  have g0 : X.cell? ⟨kG, 0, none⟩ = some (.int .i64 (N : Int)) := (cell_of_row _ _ _ _ _ _ hw.g).trans rfl
  have g1 : X.cell? ⟨kG, 1, none⟩ = some (.slice oe ne ce) := (cell_of_row _ _ _ _ _ _ hw.g).trans rfl
  have HQ := mkHid (And.intro hw (And.intro hm (And.intro hne hnt)))
  unfold grV at C1
  clear hw hm hne hnt
  conv => arg 2; whnf
  go_wp2_with fail
  refine C1.mono ?_
  rintro e X1 ⟨b1, p, rfl, hp⟩
  have C2 := reaches_any N (by have := HQ.out.2.1.h60; omega) (nrm N (trn E)) nrm_fit (by have := nrm_len HQ.out.2.1.h60 (trn E); omega) (.slice ot nt ct) X1 (HQ.out.1.below b1).et HQ.out.2.1.turn b a HQ.out.2.1.hb HQ.out.2.1.ha
  have t0 : X1.cell? ⟨kT, 0, none⟩ = some (.int .i64 (N : Int)) := (cell_of_row _ _ _ _ _ _ (HQ.out.1.below b1).t).trans rfl
  have t1 : X1.cell? ⟨kT, 1, none⟩ = some (.slice ot nt ct) := (cell_of_row _ _ _ _ _ _ (HQ.out.1.below b1).t).trans rfl
  have HP := mkHid hp
  have HB1 := mkHid b1
  unfold grV at C2
  clear C1 g0 g1 b1 hp
  dsimp only
  go_wp2_with fail
  refine C2.mono ?_
  rintro e X2 ⟨b2, q, rfl, hq⟩
  have b12 := HB1.out.trans (b2.mono HB1.out.size)
  have hpq : p = q := Bool.eq_iff_iff.2 (HP.out.trans ((rc_turn (nd_turn HQ.out.2.1.hE)).trans hq.symm))
  subst hpq
  have C3 := condense_any N (by have := HQ.out.2.1.h60; omega) HQ.out.2.1.h1 E HQ.out.2.1.hE (by have := HQ.out.2.1.hl; omega) HQ.out.2.1.chk (.slice oe ne ce) X2 (HQ.out.1.below b12).eg
  have g0 : X2.cell? ⟨kG, 0, none⟩ = some (.int .i64 (N : Int)) := (cell_of_row _ _ _ _ _ _ (HQ.out.1.below b12).g).trans rfl
  have g1 : X2.cell? ⟨kG, 1, none⟩ = some (.slice oe ne ce) := (cell_of_row _ _ _ _ _ _ (HQ.out.1.below b12).g).trans rfl
  have HB2 := mkHid b12
  unfold grV at C3
  clear C2 t0 t1 b2 hq HP b12
  dsimp only
  go_wp2_with fail
  refine C3.mono ?_
  rintro e X3 ⟨n3, k3, u3, nb, Rs, rfl, b3, el3, r3, gn, -⟩
  obtain ⟨o3, c3, hu3, -, -⟩ := el3.form
  rw [zE_len] at hu3
  subst hu3
  obtain ⟨m3, hm3⟩ : ∃ k, (edg (btw (ndF N E) nb N n3) n3).length = k := ⟨_, rfl⟩
  rw [hm3]
  obtain ⟨Y, hY⟩ : ∃ Y, X3.alloc (.cells #[.int .i64 (n3 : Int), .slice o3 m3 c3] 24) = Y := ⟨_, rfl⟩
  have bY : Below X3.heap.size X3 Y := by rw [← hY]; exact (Below.refl _ X3).alloc (Nat.le_refl _) _
  have b3Y := HB2.out.trans ((b3.trans (bY.mono b3.size)).mono HB2.out.size)
  have r3Y := (bY.block _ (Array.getElem?_eq_some_iff.1 r3).1).trans r3
  have C4 := condense_any N (by have := HQ.out.2.1.h60; omega) HQ.out.2.1.h1 (nrm N (trn E)) nrm_fit (by have := nrm_len HQ.out.2.1.h60 (trn E); omega) HQ.out.2.1.turn (.slice ot nt ct) Y (HQ.out.1.below b3Y).et
  have t0 : Y.cell? ⟨kT, 0, none⟩ = some (.int .i64 (N : Int)) := (cell_of_row _ _ _ _ _ _ (HQ.out.1.below b3Y).t).trans rfl
  have t1 : Y.cell? ⟨kT, 1, none⟩ = some (.slice ot nt ct) := (cell_of_row _ _ _ _ _ _ (HQ.out.1.below b3Y).t).trans rfl
  have HB3 := mkHid (And.intro b3Y (And.intro r3Y gn))
  unfold grV at C4 ⊢
  clear C3 g0 g1 b3 el3 r3 gn hm3 b3Y r3Y bY
  dsimp only
  go_wp2_with fail
  try rw [hY]
  clear hY
  refine C4.mono ?_
  rintro e X4 ⟨n4, k4, u4, nc, Rt, rfl, b4, el4, r4, gm, -⟩
  obtain ⟨o4, c4, hu4, -, -⟩ := el4.form
  rw [zE_len] at hu4
  subst hu4
  obtain ⟨m4, hm4⟩ : ∃ k, (edg (btw (ndF N (nrm N (trn E))) nc N n4) n4).length = k := ⟨_, rfl⟩
  rw [hm4]
  obtain ⟨Z, hZ⟩ : ∃ Z, X4.alloc (.cells #[.int .i64 (n4 : Int), .slice o4 m4 c4] 24) = Z := ⟨_, rfl⟩
  have bZ : Below X4.heap.size X4 Z := by rw [← hZ]; exact (Below.refl _ X4).alloc (Nat.le_refl _) _
  have bYZ := b4.trans (bZ.mono b4.size)
  have bXZ := HB3.out.1.trans (bYZ.mono HB3.out.1.size)
  have r3Z := (bYZ.block _ (Array.getElem?_eq_some_iff.1 HB3.out.2.1).1).trans HB3.out.2.1
  have r4Z := (bZ.block _ (Array.getElem?_eq_some_iff.1 r4).1).trans r4
  have hm' := HQ.out.2.1
  have qz := HQ.out.1.below bXZ
  have sm : (nb.getD a 0 = nb.getD b 0) ↔ (nc.getD a 0 = nc.getD b 0) := (HB3.out.2.2.same hm'.ha hm'.hb).trans ((same_turn (nd_turn hm'.hE)).trans (gm.same hm'.ha hm'.hb).symm)
  have l1 := HB3.out.2.2.nm.len
  have l2 := gm.nm.len
  have g0 : Z.cell? ⟨kG, 0, none⟩ = some (.int .i64 (N : Int)) := (cell_of_row _ _ _ _ _ _ qz.g).trans rfl
  have y1 : ∀ k, (Z.drewN k).cell? ⟨k3, a, none⟩ = some (.int .i64 ((nb.getD a 0 : Nat) : Int)) := fun _ => (cell_of_row _ _ _ _ _ _ r3Z).trans (ik_get _ _ (by rw [l1]; exact hm'.ha))
  have y2 : ∀ k, (Z.drewN k).cell? ⟨k3, b, none⟩ = some (.int .i64 ((nb.getD b 0 : Nat) : Int)) := fun _ => (cell_of_row _ _ _ _ _ _ r3Z).trans (ik_get _ _ (by rw [l1]; exact hm'.hb))
  have y3 : ∀ k, (Z.drewN k).cell? ⟨k4, a, none⟩ = some (.int .i64 ((nc.getD a 0 : Nat) : Int)) := fun _ => (cell_of_row _ _ _ _ _ _ r4Z).trans (ik_get _ _ (by rw [l2]; exact hm'.ha))
  have y4 : ∀ k, (Z.drewN k).cell? ⟨k4, b, none⟩ = some (.int .i64 ((nc.getD b 0 : Nat) : Int)) := fun _ => (cell_of_row _ _ _ _ _ _ r4Z).trans (ik_get _ _ (by rw [l2]; exact hm'.hb))
  obtain ⟨x1, hx1⟩ : ∃ x, nb.getD a 0 = x := ⟨_, rfl⟩
  obtain ⟨x2, hx2⟩ : ∃ x, nb.getD b 0 = x := ⟨_, rfl⟩
  obtain ⟨x3, hx3⟩ : ∃ x, nc.getD a 0 = x := ⟨_, rfl⟩
  obtain ⟨x4, hx4⟩ : ∃ x, nc.getD b 0 = x := ⟨_, rfl⟩
  rw [hx1] at y1 sm
  rw [hx2] at y2 sm
  rw [hx3] at y3 sm
  rw [hx4] at y4 sm
  have a0 := geI a
  have a1 := ltI hm'.ha
  have b0 := geI b
  have b1 := ltI hm'.hb
  have HZ := mkHid qz.bel
  unfold grV
  clear C4 t0 t1 b4 el4 r4 gm hm4 bZ bYZ bXZ r3Z r4Z hm' qz l1 l2 hx1 hx2 hx3 hx4 HB3 HB2 HB1 HQ
  dsimp only
  have z1 := y1 0
  have z2 := y2 0
  have z3 := y3 0
  have z4 := y4 0
  cases p
  all_goals by_cases hc : x1 = x2
  all_goals (first
    | (have hd := sm.1 hc; subst hc; subst hd)
    | (have hd : ¬ x3 = x4 := fun h => hc (sm.2 h)
       have e1 : ((x1 : Int) == (x2 : Int)) = false := by first | exact (beq_false_of_ne fun q => hc (Int.ofNat.inj q)) | exact fun q => hc (Int.ofNat.inj q)
       have e2 : ((x3 : Int) == (x4 : Int)) = false := by first | exact (beq_false_of_ne fun q => hd (Int.ofNat.inj q)) | exact fun q => hd (Int.ofNat.inj q)
       have e3 : ¬ ((x1 : Int) = (x2 : Int)) := by first | exact (beq_false_of_ne fun q => hc (Int.ofNat.inj q)) | exact fun q => hc (Int.ofNat.inj q)
       have e4 : ¬ ((x3 : Int) = (x4 : Int)) := by exact fun q => hd (Int.ofNat.inj q)))
  all_goals clear sm
  all_goals go_wp2_with fail
  all_goals try rw [hZ]
  all_goals try (go_quiet (fail))
  all_goals try go_wp2_with fail
  all_goals go_ret
  all_goals exact ⟨by first | rfl | simp, Below.drewN' HZ.out _⟩
end Go.Proofs.Ytibhjkmbbfgnpaa

/- GraphTurns: the law from region 15 on: each edge is an edge in order. -/
namespace Go.Proofs.Ytibhjkmbbfgnpaa
open Go.RowKit GM Gl Gsx
set_option maxRecDepth 20000
section
variable {W X : World} {kG kT kV N : Nat} {E : List (Nat × Nat)} {ev et eu : Value}
theorem Tw.g0 (h : Tw W kG kT kV N E ev et eu X) : X.cell? ⟨kG, 0, none⟩ = some (.int .i64 (N : Int)) := (cell_of_row _ _ _ _ _ _ h.g).trans rfl
theorem Tw.g1 (h : Tw W kG kT kV N E ev et eu X) : X.cell? ⟨kG, 1, none⟩ = some ev := (cell_of_row _ _ _ _ _ _ h.g).trans rfl
theorem Tw.t0 (h : Tw W kG kT kV N E ev et eu X) : X.cell? ⟨kT, 0, none⟩ = some (.int .i64 (N : Int)) := (cell_of_row _ _ _ _ _ _ h.t).trans rfl
theorem Tw.t1 (h : Tw W kG kT kV N E ev et eu X) : X.cell? ⟨kT, 1, none⟩ = some et := (cell_of_row _ _ _ _ _ _ h.t).trans rfl
theorem Tw.v0 (h : Tw W kG kT kV N E ev et eu X) : X.cell? ⟨kV, 0, none⟩ = some (.int .i64 (N : Int)) := (cell_of_row _ _ _ _ _ _ h.v).trans rfl
theorem Tw.v1 (h : Tw W kG kT kV N E ev et eu X) : X.cell? ⟨kV, 1, none⟩ = some eu := (cell_of_row _ _ _ _ _ _ h.v).trans rfl
end
theorem el_cells {v : Value} {E : List (Nat × Nat)} {X : World} (h : El v (zE E) X) : ∃ o c, v = .slice o E.length c ∧ (0 < E.length → ∃ eb eo, o = some ⟨eb, eo, none⟩ ∧ ∀ i (a b : Nat), E[i]? = some (a, b) → X.cell? ⟨eb, eo + i * 2, none⟩ = some (.int .i64 (a : Int)) ∧ X.cell? ⟨eb, eo + i * 2 + 1, none⟩ = some (.int .i64 (b : Int))) := by
  obtain ⟨o, c, hv, -, ho⟩ := h.form
  rw [zE_len] at hv ho
  refine ⟨o, c, hv, fun hl => ?_⟩
  obtain ⟨eb, eo, e, -, h3⟩ := ho hl
  refine ⟨eb, eo, e, fun i a b hab => ?_⟩
  have := h3 i (List.getElem?_eq_some_iff.1 hab).1
  rw [zE_get E i a b hab] at this
  exact this
/-- What is read of region 18. -/
abbrev S18 (wr : World) (kV kG N : Nat) (eu : Value) (ev : Value) (eb eo a b : Nat) (w' : World) : Prop := w'.cell? ⟨kV, 0, none⟩ = some (.int .i64 (N : Int)) ∧ w'.cell? ⟨kV, 1, none⟩ = some eu ∧ w'.cell? ⟨kG, 1, none⟩ = some ev ∧ w'.cell? ⟨eb, eo, none⟩ = some (.int .i64 (a : Int)) ∧ w'.cell? ⟨eb, eo + 1, none⟩ = some (.int .i64 (b : Int)) ∧ Below wr.heap.size wr w'
set_option maxRecDepth 100000 in
set_option maxHeartbeats 6400000 in
theorem gt15 (W X : World) {kG kT kU kV N a b : Nat} {ev et eu : Value} {E : List (Nat × Nat)} (hw : Tw W kG kT kV N E ev et eu X) (hm : Tm N a b E) {v0 v1 v4 v5 v6 v7 v8 v11 v13 v15 v16 v17 v18 v19 v20 v21 v22 v23 v24 v25 v26 v27 v28 v29 v30 v31 v32 v33 v34 v35 v36 v37 v38 v39 v40 v41 v42 v43 v44 v45 v46 v47 v48 v49 v50 v51 v52 v53 v54 v55 v56 v57 v58 v59 v60 v61 v62 v63 v64 v65 v66 v67 v68 v69 v70 v71 v72 v73 v74 v75 v76 v77 v78 v79 v80 v81 v82 v83 v84 v85 v86 v87 v88 v89 v90 v91 v92 v93 v94 v95 v96 v97 v98 v99 v100 v101 v102 v103 v104 v105 v106 v107 v108 v109 v110 v111 v112 v113 v114 v115 v116 v117 v118 v119 v120 v121 v122 v123 v124 v125 v126 v127 v128 v129 v130 v131 v132 v133 v134 v135 v136 v137 v138 v139 v140 v141 v142 v143 v144 v145 v146 v147 v148 v149 v150 v151 v152 v153 v154 v155 v156 v157 v158 v159 v160 v161 v162 v163 v164 v165 v166 v167 v168 v169 v170 v171 v172 v173 v174 v175 v176 v177 v178 v179 v180 v181 v182 v183 v184 v185 v186 v187 v188 v189 v190 v191 v192 v193 v194 v195 v196 v197 v198 v199 v200 v201 v202 v203 v204 v205 v206 : Value} :
    Code.wp Try.prog (tlF Try.f5 15) (bodyPost Try.prog Try.f5 (fun e w' => e = .returned (.bool true) ∧ Below W.heap.size W w')) ⟨#[v0, v1, .int .i64 (a : Int), .int .i64 (b : Int), v4, v5, v6, v7, v8, .pointer (some ⟨kG, 0, none⟩), .pointer (some ⟨kT, 0, none⟩), v11, .pointer (some ⟨kU, 0, none⟩), v13, .pointer (some ⟨kV, 0, none⟩), v15, v16, v17, v18, v19, v20, v21, v22, v23, v24, v25, v26, v27, v28, v29, v30, v31, v32, v33, v34, v35, v36, v37, v38, v39, v40, v41, v42, v43, v44, v45, v46, v47, v48, v49, v50, v51, v52, v53, v54, v55, v56, v57, v58, v59, v60, v61, v62, v63, v64, v65, v66, v67, v68, v69, v70, v71, v72, v73, v74, v75, v76, v77, v78, v79, v80, v81, v82, v83, v84, v85, v86, v87, v88, v89, v90, v91, v92, v93, v94, v95, v96, v97, v98, v99, v100, v101, v102, v103, v104, v105, v106, v107, v108, v109, v110, v111, v112, v113, v114, v115, v116, v117, v118, v119, v120, v121, v122, v123, v124, v125, v126, v127, v128, v129, v130, v131, v132, v133, v134, v135, v136, v137, v138, v139, v140, v141, v142, v143, v144, v145, v146, v147, v148, v149, v150, v151, v152, v153, v154, v155, v156, v157, v158, v159, v160, v161, v162, v163, v164, v165, v166, v167, v168, v169, v170, v171, v172, v173, v174, v175, v176, v177, v178, v179, v180, v181, v182, v183, v184, v185, v186, v187, v188, v189, v190, v191, v192, v193, v194, v195, v196, v197, v198, v199, v200, v201, v202, v203, v204, v205, v206], []⟩ X := by
  obtain ⟨oe, ce, hev, -⟩ := el_cells hw.eg
  obtain ⟨ou, cu, heu, -⟩ := el_cells hw.eu
  subst hev heu
  obtain ⟨ne, hne⟩ : ∃ n, E.length = n := ⟨_, rfl⟩
  obtain ⟨nv, hnv⟩ : ∃ n, (nrm N E).length = n := ⟨_, rfl⟩
  rw [hne, hnv] at hw
  have HQ := mkHid (And.intro hm (And.intro hne hnv))
  have H0 := mkHid hw
  clear hw hm hne hnv
  conv => arg 2; whnf
  go_wp2_with fail
  rename_i K1 hk1
  have HK1 := mkHid hk1
  clear hk1
  go_loopw [18] (fun iv wr => ∃ i : Nat, iv = .int .i64 (i : Int) ∧ i ≤ ne ∧ Hid (Tw W kG kT kV N E (.slice oe ne ce) et (.slice ou nv cu) wr)) (fun iv _ => ne - (intOf iv).toNat)
  case atStart => exact ⟨0, rfl, Nat.zero_le _, H0⟩
  case round =>
    obtain ⟨i, rfl, hi, HI⟩ := hrel
    obtain ⟨hm, hne', hnv'⟩ := HQ.out
    have q := HI.out
    have g1 := q.g1
    by_cases hlt : i < ne
    · obtain ⟨x, y, hxy⟩ : ∃ x y, E[i]? = some (x, y) := ⟨_, _, List.getElem?_eq_getElem (by omega)⟩
      obtain ⟨oe', ce', hvf, ho⟩ := el_cells q.eg
      injection hvf with f1 f2 f3
      subst f1 f3
      obtain ⟨eb, eo, rfl, q3⟩ := ho (by omega)
      obtain ⟨c1, c2⟩ := q3 i x y hxy
      have hE := List.mem_of_getElem? hxy
      have hin : (x, y) ∈ nrm N E := mem_nrm.2 ⟨(hm.hE _ hE).1, (hm.hE _ hE).2, hE⟩
      have v0' := q.v0
      have v1' := q.v1
      obtain ⟨eo2, heo⟩ : ∃ k, eo + i * 2 = k := ⟨_, rfl⟩
      rw [heo] at c1 c2
      have HE : Hid (∀ w', S18 wr kV kG N (.slice ou nv cu) (.slice (some ⟨eb, eo, none⟩) ne ce) eb eo2 x y w' → Calls Try.prog 13 #[.agg #[.int .i64 (N : Int), .slice ou nv cu], .int .i64 (x : Int), .int .i64 (y : Int)] w' fun e w8 => e = .returned (.bool true) ∧ Below w'.heap.size w' w8) := fun w' h' => by
        have := edge_any (N : Int) (nrm N E) (by have := nrm_len hm.h60 E; omega) (.slice ou nv cu) w' (q.eu.below h'.2.2.2.2.2) x y
        rw [decide_eq_true hin] at this
        exact this
      have HS : Hid (S18 wr kV kG N (.slice ou nv cu) (.slice (some ⟨eb, eo, none⟩) ne ce) eb eo2 x y wr.drew) := ⟨v0', v1', g1, c1, c2, bel_drP wr 1⟩
      have HX : Hid (∀ w' w8, S18 wr kV kG N (.slice ou nv cu) (.slice (some ⟨eb, eo, none⟩) ne ce) eb eo2 x y w' → Below w'.heap.size w' w8 → S18 wr kV kG N (.slice ou nv cu) (.slice (some ⟨eb, eo, none⟩) ne ce) eb eo2 x y w8) := fun w' w8 h b8 => ⟨cell_belowX b8 h.1, cell_belowX b8 h.2.1, cell_belowX b8 h.2.2.1, cell_belowX b8 h.2.2.2.1, cell_belowX b8 h.2.2.2.2.1, h.2.2.2.2.2.trans (b8.mono h.2.2.2.2.2.size)⟩
      have i0 := geI i
      have i1 := ltI hlt
      have wi := wrapI i (by have := hm.hl; omega)
      have HN := mkHid (And.intro q hlt)
      clear hm hne' hnv' q hxy ho q3 c1 c2 hE hin v0' v1' hlt HI
      go_wp2_with fail
      try rw [heo]
      go_region_held3 (fun w' => S18 wr kV kG N (.slice ou nv cu) (.slice (some ⟨eb, eo, none⟩) ne ce) eb eo2 x y w')
        (first | assumption | exact HS.out | go_keep)
        (first
          | (go_at_call 13; with_reducible refine Calls.mono (HE.out _ (by assumption)) ?_; rintro e w8 ⟨rfl, b8⟩; have hS8 := HX.out _ w8 (by assumption) b8))
      rename_i hHeld
      have HB8 := mkHid (HN.out.1.below hHeld.2.2.2.2.2)
      go_wp2_with fail
      exact ⟨⟨i + 1, by first | rfl | (rw [wi]; rfl), HN.out.2, HB8⟩, by first | exact measI _ _ HN.out.2 | (rw [wi]; exact measI _ _ HN.out.2)⟩
    · have i1 := nltI hlt
      have HZ := mkHid (And.intro q hm)
      clear hm hne' hnv' q hlt HI hi H0
      go_wp2_with fail
      exact HK1.out _ _ (gt20 W wr HZ.out.1 HZ.out.2)
end Go.Proofs.Ytibhjkmbbfgnpaa

/- GraphTurns: the law from region 9 on: the edges in order are those of the graph, and they rise. -/
namespace Go.Proofs.Ytibhjkmbbfgnpaa
open Go.RowKit GM Gl Gsx
set_option maxRecDepth 20000
/-- What is read of region 13. -/
abbrev S13 (Y : World) (kG kT kV N : Nat) (ev et eu : Value) (kx x y : Nat) (w' : World) : Prop := w'.cell? ⟨kG, 0, none⟩ = some (.int .i64 (N : Int)) ∧ w'.cell? ⟨kG, 1, none⟩ = some ev ∧ w'.cell? ⟨kT, 0, none⟩ = some (.int .i64 (N : Int)) ∧ w'.cell? ⟨kT, 1, none⟩ = some et ∧ w'.cell? ⟨kV, 1, none⟩ = some eu ∧ w'.cell? ⟨kx, 0, none⟩ = some (.int .i64 (x : Int)) ∧ w'.cell? ⟨kx, 1, none⟩ = some (.int .i64 (y : Int)) ∧ Below Y.heap.size Y w'
set_option maxRecDepth 100000 in
set_option maxHeartbeats 6400000 in
theorem gt9 (W X : World) {kG kT kU kV N a b : Nat} {ev et eu : Value} {E : List (Nat × Nat)} (hw : Tw W kG kT kV N E ev et eu X) (hm : Tm N a b E) {v0 v1 v4 v5 v6 v7 v8 v11 v13 v15 v16 v17 v18 v19 v20 v21 v22 v23 v24 v25 v26 v27 v28 v29 v30 v31 v32 v33 v34 v35 v36 v37 v38 v39 v40 v41 v42 v43 v44 v45 v46 v47 v48 v49 v50 v51 v52 v53 v54 v55 v56 v57 v58 v59 v60 v61 v62 v63 v64 v65 v66 v67 v68 v69 v70 v71 v72 v73 v74 v75 v76 v77 v78 v79 v80 v81 v82 v83 v84 v85 v86 v87 v88 v89 v90 v91 v92 v93 v94 v95 v96 v97 v98 v99 v100 v101 v102 v103 v104 v105 v106 v107 v108 v109 v110 v111 v112 v113 v114 v115 v116 v117 v118 v119 v120 v121 v122 v123 v124 v125 v126 v127 v128 v129 v130 v131 v132 v133 v134 v135 v136 v137 v138 v139 v140 v141 v142 v143 v144 v145 v146 v147 v148 v149 v150 v151 v152 v153 v154 v155 v156 v157 v158 v159 v160 v161 v162 v163 v164 v165 v166 v167 v168 v169 v170 v171 v172 v173 v174 v175 v176 v177 v178 v179 v180 v181 v182 v183 v184 v185 v186 v187 v188 v189 v190 v191 v192 v193 v194 v195 v196 v197 v198 v199 v200 v201 v202 v203 v204 v205 v206 : Value} :
    Code.wp Try.prog (tlF Try.f5 9) (bodyPost Try.prog Try.f5 (fun e w' => e = .returned (.bool true) ∧ Below W.heap.size W w')) ⟨#[v0, v1, .int .i64 (a : Int), .int .i64 (b : Int), v4, v5, v6, v7, v8, .pointer (some ⟨kG, 0, none⟩), .pointer (some ⟨kT, 0, none⟩), v11, .pointer (some ⟨kU, 0, none⟩), v13, .pointer (some ⟨kV, 0, none⟩), v15, v16, v17, v18, v19, v20, v21, v22, v23, v24, v25, v26, v27, v28, v29, v30, v31, v32, v33, v34, v35, v36, v37, v38, v39, v40, v41, v42, v43, v44, v45, v46, v47, v48, v49, v50, v51, v52, v53, v54, v55, v56, v57, v58, v59, v60, v61, v62, v63, v64, v65, v66, v67, v68, v69, v70, v71, v72, v73, v74, v75, v76, v77, v78, v79, v80, v81, v82, v83, v84, v85, v86, v87, v88, v89, v90, v91, v92, v93, v94, v95, v96, v97, v98, v99, v100, v101, v102, v103, v104, v105, v106, v107, v108, v109, v110, v111, v112, v113, v114, v115, v116, v117, v118, v119, v120, v121, v122, v123, v124, v125, v126, v127, v128, v129, v130, v131, v132, v133, v134, v135, v136, v137, v138, v139, v140, v141, v142, v143, v144, v145, v146, v147, v148, v149, v150, v151, v152, v153, v154, v155, v156, v157, v158, v159, v160, v161, v162, v163, v164, v165, v166, v167, v168, v169, v170, v171, v172, v173, v174, v175, v176, v177, v178, v179, v180, v181, v182, v183, v184, v185, v186, v187, v188, v189, v190, v191, v192, v193, v194, v195, v196, v197, v198, v199, v200, v201, v202, v203, v204, v205, v206], []⟩ X := by
  obtain ⟨oe, ce, hev, -⟩ := el_cells hw.eg
  obtain ⟨ot, ct, het, -⟩ := el_cells hw.et
  obtain ⟨ov, cv, heu, -⟩ := el_cells hw.eu
  subst hev heu het
  obtain ⟨ne, hne⟩ : ∃ n, E.length = n := ⟨_, rfl⟩
  obtain ⟨nt, hnt⟩ : ∃ n, (nrm N (trn E)).length = n := ⟨_, rfl⟩
  obtain ⟨nv, hnv⟩ : ∃ n, (nrm N E).length = n := ⟨_, rfl⟩
  rw [hne, hnv, hnt] at hw
  have HQ := mkHid (And.intro hm (And.intro hne (And.intro hnv hnt)))
  have H0 := mkHid hw
  clear hw hm hne hnv hnt
  conv => arg 2; whnf
  go_wp2_with fail
  rename_i K1 hk1
  have HK1 := mkHid hk1
  clear hk1
  go_loopw [16] (fun iv wr => ∃ i : Nat, iv = .int .i64 (i : Int) ∧ i ≤ nv ∧ Hid (Tw W kG kT kV N E (.slice oe ne ce) (.slice ot nt ct) (.slice ov nv cv) wr)) (fun iv _ => nv - (intOf iv).toNat)
  case atStart => exact ⟨0, rfl, Nat.zero_le _, H0⟩
  case round =>
    obtain ⟨i, rfl, hi, HI⟩ := hrel
    obtain ⟨hm, hne', hnv', hnt'⟩ := HQ.out
    have tw := HI.out
    have v1 := tw.v1
    by_cases hlt : i < nv
    · obtain ⟨x, y, hxy⟩ : ∃ x y, (nrm N E)[i]? = some (x, y) := ⟨_, _, List.getElem?_eq_getElem (by omega)⟩
      obtain ⟨ov', cv', hvf, ho⟩ := el_cells tw.eu
      injection hvf with f1 f2 f3
      subst f1 f3
      clear f2
      obtain ⟨eb, eo, rfl, q3⟩ := ho (by omega)
      obtain ⟨c1, c2⟩ := q3 i x y hxy
      have hin := List.mem_of_getElem? hxy
      have hE := (mem_nrm.1 hin).2.2
      have hT : (y, x) ∈ nrm N (trn E) := mem_nrm.2 ⟨(mem_nrm.1 hin).2.1, (mem_nrm.1 hin).1, (mem_trn E y x).2 hE⟩
      obtain ⟨kx, hkx⟩ : ∃ k, wr.heap.size = k := ⟨_, rfl⟩
      obtain ⟨Y, hY⟩ : ∃ Y, wr.alloc (.cells #[.int .i64 (x : Int), .int .i64 (y : Int)] 47) = Y := ⟨_, rfl⟩
      have bY : Below wr.heap.size wr Y := by rw [← hY]; exact (Below.refl _ wr).alloc (Nat.le_refl _) _
      have rx : Y.heap[kx]? = some (.cells #[.int .i64 (x : Int), .int .i64 (y : Int)] 47 (0, 0)) := by rw [← hY, ← hkx]; exact heap_alloc_new _ _
      have ty := tw.below bY
      have HD1 : Hid (∀ w', S13 Y kG kT kV N (.slice oe ne ce) (.slice ot nt ct) (.slice (some ⟨eb, eo, none⟩) nv cv) kx x y w' → Calls Try.prog 13 #[.agg #[.int .i64 (N : Int), .slice oe ne ce], .int .i64 (x : Int), .int .i64 (y : Int)] w' fun e w8 => e = .returned (.bool true) ∧ Below w'.heap.size w' w8) := fun w' h' => by
        have := edge_any (N : Int) E (by have := hm.hl; omega) (.slice oe ne ce) w' (ty.eg.below h'.2.2.2.2.2.2.2) x y
        rw [decide_eq_true hE] at this
        exact this
      have HD2 : Hid (∀ w', S13 Y kG kT kV N (.slice oe ne ce) (.slice ot nt ct) (.slice (some ⟨eb, eo, none⟩) nv cv) kx x y w' → Calls Try.prog 13 #[.agg #[.int .i64 (N : Int), .slice ot nt ct], .int .i64 (y : Int), .int .i64 (x : Int)] w' fun e w8 => e = .returned (.bool true) ∧ Below w'.heap.size w' w8) := fun w' h' => by
        have := edge_any (N : Int) (nrm N (trn E)) (by have := nrm_len hm.h60 (trn E); omega) (.slice ot nt ct) w' (ty.et.below h'.2.2.2.2.2.2.2) y x
        rw [decide_eq_true hT] at this
        exact this
      have HSa : Hid (S13 Y kG kT kV N (.slice oe ne ce) (.slice ot nt ct) (.slice (some ⟨eb, eo, none⟩) nv cv) kx x y Y.drew) := ⟨ty.g0, ty.g1, ty.t0, ty.t1, ty.v1, (cell_of_row _ _ _ _ _ _ rx).trans rfl, (cell_of_row _ _ _ _ _ _ rx).trans rfl, bel_drP Y 1⟩
      have HXa : Hid (∀ w' w8, S13 Y kG kT kV N (.slice oe ne ce) (.slice ot nt ct) (.slice (some ⟨eb, eo, none⟩) nv cv) kx x y w' → Below w'.heap.size w' w8 → S13 Y kG kT kV N (.slice oe ne ce) (.slice ot nt ct) (.slice (some ⟨eb, eo, none⟩) nv cv) kx x y w8) := fun w' w8 h b8 => ⟨cell_belowX b8 h.1, cell_belowX b8 h.2.1, cell_belowX b8 h.2.2.1, cell_belowX b8 h.2.2.2.1, cell_belowX b8 h.2.2.2.2.1, cell_belowX b8 h.2.2.2.2.2.1, cell_belowX b8 h.2.2.2.2.2.2.1, h.2.2.2.2.2.2.2.trans (b8.mono h.2.2.2.2.2.2.2.size)⟩
      have i0 := geI i
      have i1 := ltI hlt
      have lim : nv ≤ 3600 := by rw [← hnv']; exact nrm_len hm.h60 E
      have wi := wrapI i (by omega)
      have HN := mkHid (And.intro ty hlt)
      have q4 : ∀ j p q : Nat, (nrm N E)[j]? = some (p, q) → Y.drew.cell? ⟨eb, eo + j * 2, none⟩ = some (.int .i64 (p : Int)) ∧ Y.drew.cell? ⟨eb, eo + j * 2 + 1, none⟩ = some (.int .i64 (q : Int)) := fun j p q h => ⟨cell_belowX bY (q3 j p q h).1, cell_belowX bY (q3 j p q h).2⟩
      by_cases hz : 0 < i
      · obtain ⟨j, hj⟩ : ∃ j, j + 1 = i := ⟨i - 1, by omega⟩
        obtain ⟨p, q, hpq'⟩ : ∃ p q, (nrm N E)[j]? = some (p, q) := ⟨_, _, List.getElem?_eq_getElem (by omega)⟩
        have hpq : p < x ∨ p = x ∧ q < y := nrm_next (p := (p, q)) (q := (x, y)) hpq' (by rw [hj]; exact hxy)
        obtain ⟨dp1, dp2⟩ := q4 j p q hpq'
        obtain ⟨ep, hep⟩ : ∃ k, eo + j * 2 = k := ⟨_, rfl⟩
        rw [hep] at dp1 dp2
        have j0 := geI j
        have j1 : (j : Int) < (nv : Int) := by omega
        have wj : wrap64 ((i : Int) - 1) = (j : Int) := by unfold wrap64; omega
        have wj2 : IntKind.i64.wrap ((i : Int) - 1) = (j : Int) := by rw [IntKind.wrap_i64]; omega
        have z1 : (0 : Int) < (i : Int) := by omega
        have z2 : decide ((0 : Int) < (i : Int)) = true := decide_eq_true z1
        have z3 : 0 < i := hz
        have z4 : decide (0 < i) = true := decide_eq_true hz
        clear hm hne' hnv' hnt' tw hxy ho q3 q4 hin hE hT bY rx ty hlt HI lim hj hpq' H0
        have HE1 : Hid (∀ w', S13 Y kG kT kV N (.slice oe ne ce) (.slice ot nt ct) (.slice (some ⟨eb, eo, none⟩) nv cv) kx x y w' ∧ w'.cell? ⟨eb, ep, none⟩ = some (.int .i64 (p : Int)) ∧ w'.cell? ⟨eb, ep + 1, none⟩ = some (.int .i64 (q : Int)) → Calls Try.prog 13 #[.agg #[.int .i64 (N : Int), .slice oe ne ce], .int .i64 (x : Int), .int .i64 (y : Int)] w' fun e w8 => e = .returned (.bool true) ∧ Below w'.heap.size w' w8) := fun w' h' => HD1.out w' h'.1
        have HE2 : Hid (∀ w', S13 Y kG kT kV N (.slice oe ne ce) (.slice ot nt ct) (.slice (some ⟨eb, eo, none⟩) nv cv) kx x y w' ∧ w'.cell? ⟨eb, ep, none⟩ = some (.int .i64 (p : Int)) ∧ w'.cell? ⟨eb, ep + 1, none⟩ = some (.int .i64 (q : Int)) → Calls Try.prog 13 #[.agg #[.int .i64 (N : Int), .slice ot nt ct], .int .i64 (y : Int), .int .i64 (x : Int)] w' fun e w8 => e = .returned (.bool true) ∧ Below w'.heap.size w' w8) := fun w' h' => HD2.out w' h'.1
        have HE3 : Hid (∀ w', S13 Y kG kT kV N (.slice oe ne ce) (.slice ot nt ct) (.slice (some ⟨eb, eo, none⟩) nv cv) kx x y w' ∧ w'.cell? ⟨eb, ep, none⟩ = some (.int .i64 (p : Int)) ∧ w'.cell? ⟨eb, ep + 1, none⟩ = some (.int .i64 (q : Int)) → Calls Try.prog 21 #[.agg #[.int .i64 (p : Int), .int .i64 (q : Int)], .agg #[.int .i64 (x : Int), .int .i64 (y : Int)]] w' fun e w8 => e = .returned (.bool true) ∧ Below w'.heap.size w' w8) := fun w' h' => before_any p q x y hpq w'
        have HSd : Hid ((fun w' => S13 Y kG kT kV N (.slice oe ne ce) (.slice ot nt ct) (.slice (some ⟨eb, eo, none⟩) nv cv) kx x y w' ∧ w'.cell? ⟨eb, ep, none⟩ = some (.int .i64 (p : Int)) ∧ w'.cell? ⟨eb, ep + 1, none⟩ = some (.int .i64 (q : Int))) Y.drew) := ⟨HSa.out, dp1, dp2⟩
        have HX : Hid (∀ w' w8, (S13 Y kG kT kV N (.slice oe ne ce) (.slice ot nt ct) (.slice (some ⟨eb, eo, none⟩) nv cv) kx x y w' ∧ w'.cell? ⟨eb, ep, none⟩ = some (.int .i64 (p : Int)) ∧ w'.cell? ⟨eb, ep + 1, none⟩ = some (.int .i64 (q : Int))) → Below w'.heap.size w' w8 → (fun w' => S13 Y kG kT kV N (.slice oe ne ce) (.slice ot nt ct) (.slice (some ⟨eb, eo, none⟩) nv cv) kx x y w' ∧ w'.cell? ⟨eb, ep, none⟩ = some (.int .i64 (p : Int)) ∧ w'.cell? ⟨eb, ep + 1, none⟩ = some (.int .i64 (q : Int))) w8) := fun w' w8 h b8 => ⟨HXa.out w' w8 h.1 b8, cell_belowX b8 h.2.1, cell_belowX b8 h.2.2⟩
        clear HSa HXa HD1 HD2 hpq dp1 dp2
        go_wp2_with fail
        try rw [hkx]
        try rw [hY]
        go_region_held3 (fun w' => S13 Y kG kT kV N (.slice oe ne ce) (.slice ot nt ct) (.slice (some ⟨eb, eo, none⟩) nv cv) kx x y w' ∧ w'.cell? ⟨eb, ep, none⟩ = some (.int .i64 (p : Int)) ∧ w'.cell? ⟨eb, ep + 1, none⟩ = some (.int .i64 (q : Int)))
          (first | assumption | exact HSd.out | go_keep)
          (first
          | (go_at_call 13; with_reducible refine Calls.mono (HE1.out _ (by assumption)) ?_; rintro e w8 ⟨rfl, b8⟩; have hS8 := HX.out _ w8 (by assumption) b8)
          | (go_at_call 13; with_reducible refine Calls.mono (HE2.out _ (by assumption)) ?_; rintro e w8 ⟨rfl, b8⟩; have hS8 := HX.out _ w8 (by assumption) b8)
          | (go_at_call 21; with_reducible refine Calls.mono (HE3.out _ (by assumption)) ?_; rintro e w8 ⟨rfl, b8⟩; have hS8 := HX.out _ w8 (by assumption) b8))
        rename_i hHeld
        have HB8 := mkHid (HN.out.1.below hHeld.1.2.2.2.2.2.2.2)
        go_wp2_with fail
        exact ⟨⟨i + 1, by first | rfl | (rw [wi]; rfl), HN.out.2, HB8⟩, by first | exact measI _ _ HN.out.2 | (rw [wi]; exact measI _ _ HN.out.2)⟩
      · have z1 : ¬ ((0 : Int) < (i : Int)) := by omega
        have z2 : decide ((0 : Int) < (i : Int)) = false := decide_eq_false z1
        have z3 : ¬ 0 < i := hz
        have z4 : decide (0 < i) = false := decide_eq_false hz
        clear hm hne' hnv' hnt' tw hxy ho q3 q4 hin hE hT bY rx ty hlt HI lim H0
        have HE1 : Hid (∀ w', S13 Y kG kT kV N (.slice oe ne ce) (.slice ot nt ct) (.slice (some ⟨eb, eo, none⟩) nv cv) kx x y w' → Calls Try.prog 13 #[.agg #[.int .i64 (N : Int), .slice oe ne ce], .int .i64 (x : Int), .int .i64 (y : Int)] w' fun e w8 => e = .returned (.bool true) ∧ Below w'.heap.size w' w8) := fun w' h' => HD1.out w' h'
        have HE2 : Hid (∀ w', S13 Y kG kT kV N (.slice oe ne ce) (.slice ot nt ct) (.slice (some ⟨eb, eo, none⟩) nv cv) kx x y w' → Calls Try.prog 13 #[.agg #[.int .i64 (N : Int), .slice ot nt ct], .int .i64 (y : Int), .int .i64 (x : Int)] w' fun e w8 => e = .returned (.bool true) ∧ Below w'.heap.size w' w8) := fun w' h' => HD2.out w' h'
        have HSd : Hid (S13 Y kG kT kV N (.slice oe ne ce) (.slice ot nt ct) (.slice (some ⟨eb, eo, none⟩) nv cv) kx x y Y.drew) := HSa.out
        have HX : Hid (∀ w' w8, S13 Y kG kT kV N (.slice oe ne ce) (.slice ot nt ct) (.slice (some ⟨eb, eo, none⟩) nv cv) kx x y w' → Below w'.heap.size w' w8 → S13 Y kG kT kV N (.slice oe ne ce) (.slice ot nt ct) (.slice (some ⟨eb, eo, none⟩) nv cv) kx x y w8) := HXa.out
        clear HSa HXa HD1 HD2
        go_wp2_with fail
        try rw [hkx]
        try rw [hY]
        refine wp_region_held_drew (S := (fun w' => S13 Y kG kT kV N (.slice oe ne ce) (.slice ot nt ct) (.slice (some ⟨eb, eo, none⟩) nv cv) kx x y w')) (by kernel_rfl) HSd.out (fun hHeld => ?_)
        refine wpAnyH_take (i := 0) (oi := { dst := some 92, op := Op.load 24 (Operand.tmp 9), type := 24, pos := "plain.go:302", after := #[], guard := none }) (v := ?_) rfl (by kernel_rfl) (by kernel_rfl) (by kernel_rfl) (fun _ _ _ h => h) (Or.inl ⟨by rfl, ?_⟩) (by assumption) ?_
        rotate_left
        · intro w hSw
          try dsimp only at hSw
          go_simp
          try with_reducible rfl
        try simp only [Act.put, List.setIfInBounds_toArray, List.set_cons_zero, List.set_cons_succ]
        refine wpAnyH_take (i := 1) (oi := { dst := some 93, op := Op.indexAddr 47 (Operand.tmp 17) (Operand.const (Value.int IntKind.i64 0)), type := 0, pos := "plain.go:302", after := #[], guard := none }) (v := ?_) rfl (by kernel_rfl) (by kernel_rfl) (by kernel_rfl) (fun _ _ _ h => h) (Or.inl ⟨by rfl, ?_⟩) (by assumption) ?_
        rotate_left
        · intro w hSw
          try dsimp only at hSw
          go_simp
          try with_reducible rfl
        try simp only [Act.put, List.setIfInBounds_toArray, List.set_cons_zero, List.set_cons_succ]
        refine wpAnyH_take (i := 2) (oi := { dst := some 94, op := Op.load 3 (Operand.tmp 93), type := 3, pos := "plain.go:302", after := #[{ on := 1, ground := Ground.data }], guard := none }) (v := ?_) rfl (by kernel_rfl) (by kernel_rfl) (by kernel_rfl) (fun _ _ _ h => h) (Or.inl ⟨by rfl, ?_⟩) (by assumption) ?_
        rotate_left
        · intro w hSw
          try dsimp only at hSw
          go_simp
          try with_reducible rfl
        try simp only [Act.put, List.setIfInBounds_toArray, List.set_cons_zero, List.set_cons_succ]
        refine wpAnyH_take (i := 3) (oi := { dst := some 95, op := Op.indexAddr 47 (Operand.tmp 17) (Operand.const (Value.int IntKind.i64 1)), type := 0, pos := "plain.go:302", after := #[], guard := none }) (v := ?_) rfl (by kernel_rfl) (by kernel_rfl) (by kernel_rfl) (fun _ _ _ h => h) (Or.inl ⟨by rfl, ?_⟩) (by assumption) ?_
        rotate_left
        · intro w hSw
          try dsimp only at hSw
          go_simp
          try with_reducible rfl
        try simp only [Act.put, List.setIfInBounds_toArray, List.set_cons_zero, List.set_cons_succ]
        refine wpAnyH_take (i := 4) (oi := { dst := some 96, op := Op.load 3 (Operand.tmp 95), type := 3, pos := "plain.go:302", after := #[{ on := 3, ground := Ground.data }], guard := none }) (v := ?_) rfl (by kernel_rfl) (by kernel_rfl) (by kernel_rfl) (fun _ _ _ h => h) (Or.inl ⟨by rfl, ?_⟩) (by assumption) ?_
        rotate_left
        · intro w hSw
          try dsimp only at hSw
          go_simp
          try with_reducible rfl
        try simp only [Act.put, List.setIfInBounds_toArray, List.set_cons_zero, List.set_cons_succ]
        refine wpAnyH_ready (rs := [5]) (by kernel_rfl) (by simp) ?_
        refine AllReadyH.cons (o := { dst := some 97, op := Op.call { callee := Callee.value (Operand.func 13), args := #[Operand.tmp 92, Operand.tmp 94, Operand.tmp 96], argTypes := #[24, 3, 3] }, type := 4, pos := "plain.go:302", after := #[{ on := 0, ground := Ground.data }, { on := 2, ground := Ground.data }, { on := 4, ground := Ground.data }], guard := none }) rfl (fun K hK => ?_) AllReadyH.nil
        go_simp
        go_at_call 13
        with_reducible refine Calls.mono (HE1.out _ (by assumption)) ?_
        rintro e w8 ⟨rfl, b8⟩
        have hS8 := HX.out _ w8 (by assumption) b8
        go_wp2_with fail
        refine hK.out _ _ hS8 (fun hHeld => ?_)
        clear hK K
        try simp only [Act.put, List.setIfInBounds_toArray, List.set_cons_zero, List.set_cons_succ]
        refine wpAnyH_take (i := 6) (oi := { dst := some 98, op := Op.unOp UnOp.not 4 (Operand.tmp 97), type := 4, pos := "plain.go:302", after := #[{ on := 5, ground := Ground.data }], guard := none }) (v := ?_) rfl (by kernel_rfl) (by kernel_rfl) (by kernel_rfl) (fun _ _ _ h => h) (Or.inl ⟨by rfl, ?_⟩) (by assumption) ?_
        rotate_left
        · intro w hSw
          try dsimp only at hSw
          go_simp
          try with_reducible rfl
        try simp only [Act.put, List.setIfInBounds_toArray, List.set_cons_zero, List.set_cons_succ]
        refine wpAnyH_take (i := 7) (oi := { dst := some 99, op := Op.move (Operand.tmp 98), type := 4, pos := "plain.go:302", after := #[{ on := 6, ground := Ground.data }, { on := 5, ground := Ground.chain }], guard := none }) (v := ?_) rfl (by kernel_rfl) (by kernel_rfl) (by kernel_rfl) (fun _ _ _ h => h) (Or.inl ⟨by rfl, ?_⟩) (by assumption) ?_
        rotate_left
        · intro w hSw
          try dsimp only at hSw
          go_simp
          try with_reducible rfl
        try simp only [Act.put, List.setIfInBounds_toArray, List.set_cons_zero, List.set_cons_succ]
        refine wpAnyH_take (i := 8) (oi := { dst := some 100, op := Op.load 24 (Operand.tmp 10), type := 24, pos := "plain.go:302", after := #[{ on := 7, ground := Ground.guard }], guard := some (7, false) }) (v := ?_) rfl (by kernel_rfl) (by kernel_rfl) (by kernel_rfl) (fun _ _ _ h => h) (Or.inl ⟨by rfl, ?_⟩) (by assumption) ?_
        rotate_left
        · intro w hSw
          try dsimp only at hSw
          go_simp
          try with_reducible rfl
        try simp only [Act.put, List.setIfInBounds_toArray, List.set_cons_zero, List.set_cons_succ]
        refine wpAnyH_take (i := 9) (oi := { dst := some 101, op := Op.indexAddr 47 (Operand.tmp 17) (Operand.const (Value.int IntKind.i64 1)), type := 0, pos := "plain.go:302", after := #[{ on := 7, ground := Ground.guard }], guard := some (7, false) }) (v := ?_) rfl (by kernel_rfl) (by kernel_rfl) (by kernel_rfl) (fun _ _ _ h => h) (Or.inl ⟨by rfl, ?_⟩) (by assumption) ?_
        rotate_left
        · intro w hSw
          try dsimp only at hSw
          go_simp
          try with_reducible rfl
        try simp only [Act.put, List.setIfInBounds_toArray, List.set_cons_zero, List.set_cons_succ]
        refine wpAnyH_take (i := 10) (oi := { dst := some 102, op := Op.load 3 (Operand.tmp 101), type := 3, pos := "plain.go:302", after := #[{ on := 9, ground := Ground.data }, { on := 7, ground := Ground.guard }], guard := some (7, false) }) (v := ?_) rfl (by kernel_rfl) (by kernel_rfl) (by kernel_rfl) (fun _ _ _ h => h) (Or.inl ⟨by rfl, ?_⟩) (by assumption) ?_
        rotate_left
        · intro w hSw
          try dsimp only at hSw
          go_simp
          try with_reducible rfl
        try simp only [Act.put, List.setIfInBounds_toArray, List.set_cons_zero, List.set_cons_succ]
        refine wpAnyH_take (i := 11) (oi := { dst := some 103, op := Op.indexAddr 47 (Operand.tmp 17) (Operand.const (Value.int IntKind.i64 0)), type := 0, pos := "plain.go:302", after := #[{ on := 7, ground := Ground.guard }], guard := some (7, false) }) (v := ?_) rfl (by kernel_rfl) (by kernel_rfl) (by kernel_rfl) (fun _ _ _ h => h) (Or.inl ⟨by rfl, ?_⟩) (by assumption) ?_
        rotate_left
        · intro w hSw
          try dsimp only at hSw
          go_simp
          try with_reducible rfl
        try simp only [Act.put, List.setIfInBounds_toArray, List.set_cons_zero, List.set_cons_succ]
        refine wpAnyH_take (i := 12) (oi := { dst := some 104, op := Op.load 3 (Operand.tmp 103), type := 3, pos := "plain.go:302", after := #[{ on := 11, ground := Ground.data }, { on := 7, ground := Ground.guard }], guard := some (7, false) }) (v := ?_) rfl (by kernel_rfl) (by kernel_rfl) (by kernel_rfl) (fun _ _ _ h => h) (Or.inl ⟨by rfl, ?_⟩) (by assumption) ?_
        rotate_left
        · intro w hSw
          try dsimp only at hSw
          go_simp
          try with_reducible rfl
        try simp only [Act.put, List.setIfInBounds_toArray, List.set_cons_zero, List.set_cons_succ]
        refine wpAnyH_ready (rs := [13]) (by kernel_rfl) (by simp) ?_
        refine AllReadyH.cons (o := { dst := some 105, op := Op.call { callee := Callee.value (Operand.func 13), args := #[Operand.tmp 100, Operand.tmp 102, Operand.tmp 104], argTypes := #[24, 3, 3] }, type := 4, pos := "plain.go:302", after := #[{ on := 8, ground := Ground.data }, { on := 10, ground := Ground.data }, { on := 12, ground := Ground.data }, { on := 7, ground := Ground.chain }, { on := 7, ground := Ground.guard }], guard := some (7, false) }) rfl (fun K hK => ?_) AllReadyH.nil
        go_simp
        go_at_call 13
        with_reducible refine Calls.mono (HE2.out _ (by assumption)) ?_
        rintro e w8 ⟨rfl, b8⟩
        have hS8 := HX.out _ w8 (by assumption) b8
        go_wp2_with fail
        refine hK.out _ _ hS8 (fun hHeld => ?_)
        clear hK K
        try simp only [Act.put, List.setIfInBounds_toArray, List.set_cons_zero, List.set_cons_succ]
        refine wpAnyH_take (i := 14) (oi := { dst := some 106, op := Op.unOp UnOp.not 4 (Operand.tmp 105), type := 4, pos := "plain.go:302", after := #[{ on := 13, ground := Ground.data }, { on := 7, ground := Ground.guard }], guard := some (7, false) }) (v := ?_) rfl (by kernel_rfl) (by kernel_rfl) (by kernel_rfl) (fun _ _ _ h => h) (Or.inl ⟨by rfl, ?_⟩) (by assumption) ?_
        rotate_left
        · intro w hSw
          try dsimp only at hSw
          go_simp
          try with_reducible rfl
        try simp only [Act.put, List.setIfInBounds_toArray, List.set_cons_zero, List.set_cons_succ]
        refine wpAnyH_take (i := 15) (oi := { dst := some 107, op := Op.pick (Operand.tmp 99) (Operand.const (Value.bool true)) (Operand.tmp 106), type := 4, pos := "plain.go:302", after := #[{ on := 7, ground := Ground.data }, { on := 14, ground := Ground.data }], guard := none }) (v := ?_) rfl (by kernel_rfl) (by kernel_rfl) (by kernel_rfl) (fun _ _ _ h => h) (Or.inl ⟨by rfl, ?_⟩) (by assumption) ?_
        rotate_left
        · intro w hSw
          try dsimp only at hSw
          go_simp
          try with_reducible rfl
        try simp only [Act.put, List.setIfInBounds_toArray, List.set_cons_zero, List.set_cons_succ]
        refine wpAnyH_take (i := 16) (oi := { dst := some 108, op := Op.move (Operand.tmp 107), type := 4, pos := "plain.go:302", after := #[{ on := 15, ground := Ground.data }, { on := 13, ground := Ground.chain }], guard := none }) (v := ?_) rfl (by kernel_rfl) (by kernel_rfl) (by kernel_rfl) (fun _ _ _ h => h) (Or.inl ⟨by rfl, ?_⟩) (by assumption) ?_
        rotate_left
        · intro w hSw
          try dsimp only at hSw
          go_simp
          try with_reducible rfl
        try simp only [Act.put, List.setIfInBounds_toArray, List.set_cons_zero, List.set_cons_succ]
        refine wpAnyH_take (i := 17) (oi := { dst := some 109, op := Op.move (Operand.tmp 16), type := 3, pos := "plain.go:302", after := #[{ on := 16, ground := Ground.guard }], guard := some (16, false) }) (v := ?_) rfl (by kernel_rfl) (by kernel_rfl) (by kernel_rfl) (fun _ _ _ h => h) (Or.inl ⟨by rfl, ?_⟩) (by assumption) ?_
        rotate_left
        · intro w hSw
          try dsimp only at hSw
          go_simp
          try with_reducible rfl
        try simp only [Act.put, List.setIfInBounds_toArray, List.set_cons_zero, List.set_cons_succ]
        refine wpAnyH_take (i := 18) (oi := { dst := some 110, op := Op.binOp BinOp.gtr 3 (Operand.tmp 109) (Operand.const (Value.int IntKind.i64 0)) 3, type := 4, pos := "plain.go:302", after := #[{ on := 17, ground := Ground.data }, { on := 16, ground := Ground.guard }], guard := some (16, false) }) (v := ?_) rfl (by kernel_rfl) (by kernel_rfl) (by kernel_rfl) (fun _ _ _ h => h) (Or.inl ⟨by rfl, ?_⟩) (by assumption) ?_
        rotate_left
        · intro w hSw
          try dsimp only at hSw
          go_simp
          try with_reducible rfl
        try simp only [Act.put, List.setIfInBounds_toArray, List.set_cons_zero, List.set_cons_succ]
        refine wpAnyH_take (i := 19) (oi := { dst := some 111, op := Op.move (Operand.tmp 110), type := 4, pos := "plain.go:302", after := #[{ on := 18, ground := Ground.data }, { on := 16, ground := Ground.chain }, { on := 16, ground := Ground.guard }], guard := some (16, false) }) (v := ?_) rfl (by kernel_rfl) (by kernel_rfl) (by kernel_rfl) (fun _ _ _ h => h) (Or.inl ⟨by rfl, ?_⟩) (by assumption) ?_
        rotate_left
        · intro w hSw
          try dsimp only at hSw
          go_simp
          try with_reducible rfl
        try simp only [Act.put, List.setIfInBounds_toArray, List.set_cons_zero, List.set_cons_succ]
        refine wpAnyH_take (i := 20) (oi := { dst := some 112, op := Op.fieldAddr 24 (Operand.tmp 14) 1, type := 0, pos := "plain.go:302", after := #[{ on := 19, ground := Ground.guard }], guard := some (19, true) }) (v := undef) rfl (by kernel_rfl) (by kernel_rfl) (by kernel_rfl) (fun _ _ _ h => h) (Or.inr ⟨by rfl, rfl⟩) (by assumption) ?_
        try simp only [Act.put, List.setIfInBounds_toArray, List.set_cons_zero, List.set_cons_succ]
        refine wpAnyH_take (i := 21) (oi := { dst := some 113, op := Op.load 22 (Operand.tmp 112), type := 22, pos := "plain.go:302", after := #[{ on := 20, ground := Ground.data }, { on := 19, ground := Ground.guard }], guard := some (19, true) }) (v := undef) rfl (by kernel_rfl) (by kernel_rfl) (by kernel_rfl) (fun _ _ _ h => h) (Or.inr ⟨by rfl, rfl⟩) (by assumption) ?_
        try simp only [Act.put, List.setIfInBounds_toArray, List.set_cons_zero, List.set_cons_succ]
        refine wpAnyH_take (i := 22) (oi := { dst := some 114, op := Op.move (Operand.tmp 16), type := 3, pos := "plain.go:302", after := #[{ on := 19, ground := Ground.guard }], guard := some (19, true) }) (v := undef) rfl (by kernel_rfl) (by kernel_rfl) (by kernel_rfl) (fun _ _ _ h => h) (Or.inr ⟨by rfl, rfl⟩) (by assumption) ?_
        try simp only [Act.put, List.setIfInBounds_toArray, List.set_cons_zero, List.set_cons_succ]
        refine wpAnyH_take (i := 23) (oi := { dst := some 115, op := Op.binOp BinOp.sub 3 (Operand.tmp 114) (Operand.const (Value.int IntKind.i64 1)) 3, type := 3, pos := "plain.go:302", after := #[{ on := 22, ground := Ground.data }, { on := 19, ground := Ground.guard }], guard := some (19, true) }) (v := undef) rfl (by kernel_rfl) (by kernel_rfl) (by kernel_rfl) (fun _ _ _ h => h) (Or.inr ⟨by rfl, rfl⟩) (by assumption) ?_
        try simp only [Act.put, List.setIfInBounds_toArray, List.set_cons_zero, List.set_cons_succ]
        refine wpAnyH_take (i := 24) (oi := { dst := some 116, op := Op.indexAddr 22 (Operand.tmp 113) (Operand.tmp 115), type := 0, pos := "plain.go:302", after := #[{ on := 21, ground := Ground.data }, { on := 23, ground := Ground.data }, { on := 19, ground := Ground.guard }], guard := some (19, true) }) (v := undef) rfl (by kernel_rfl) (by kernel_rfl) (by kernel_rfl) (fun _ _ _ h => h) (Or.inr ⟨by rfl, rfl⟩) (by assumption) ?_
        try simp only [Act.put, List.setIfInBounds_toArray, List.set_cons_zero, List.set_cons_succ]
        refine wpAnyH_take (i := 25) (oi := { dst := some 117, op := Op.load 47 (Operand.tmp 116), type := 47, pos := "plain.go:302", after := #[{ on := 24, ground := Ground.data }, { on := 19, ground := Ground.guard }], guard := some (19, true) }) (v := undef) rfl (by kernel_rfl) (by kernel_rfl) (by kernel_rfl) (fun _ _ _ h => h) (Or.inr ⟨by rfl, rfl⟩) (by assumption) ?_
        try simp only [Act.put, List.setIfInBounds_toArray, List.set_cons_zero, List.set_cons_succ]
        refine wpAnyH_take (i := 26) (oi := { dst := some 118, op := Op.load 47 (Operand.tmp 17), type := 47, pos := "plain.go:302", after := #[{ on := 19, ground := Ground.guard }], guard := some (19, true) }) (v := undef) rfl (by kernel_rfl) (by kernel_rfl) (by kernel_rfl) (fun _ _ _ h => h) (Or.inr ⟨by rfl, rfl⟩) (by assumption) ?_
        try simp only [Act.put, List.setIfInBounds_toArray, List.set_cons_zero, List.set_cons_succ]
        refine wpAnyH_take (i := 27) (oi := { dst := some 119, op := Op.call { callee := Callee.value (Operand.func 21), args := #[Operand.tmp 117, Operand.tmp 118], argTypes := #[47, 47] }, type := 4, pos := "plain.go:302", after := #[{ on := 25, ground := Ground.data }, { on := 26, ground := Ground.data }, { on := 19, ground := Ground.chain }, { on := 19, ground := Ground.guard }], guard := some (19, true) }) (v := undef) rfl (by kernel_rfl) (by kernel_rfl) (by kernel_rfl) (fun _ _ _ h => h) (Or.inr ⟨by rfl, rfl⟩) (by assumption) ?_
        try simp only [Act.put, List.setIfInBounds_toArray, List.set_cons_zero, List.set_cons_succ]
        refine wpAnyH_take (i := 28) (oi := { dst := some 120, op := Op.unOp UnOp.not 4 (Operand.tmp 119), type := 4, pos := "plain.go:302", after := #[{ on := 27, ground := Ground.data }, { on := 19, ground := Ground.guard }], guard := some (19, true) }) (v := undef) rfl (by kernel_rfl) (by kernel_rfl) (by kernel_rfl) (fun _ _ _ h => h) (Or.inr ⟨by rfl, rfl⟩) (by assumption) ?_
        try simp only [Act.put, List.setIfInBounds_toArray, List.set_cons_zero, List.set_cons_succ]
        refine wpAnyH_take (i := 29) (oi := { dst := some 121, op := Op.pick (Operand.tmp 111) (Operand.tmp 120) (Operand.const (Value.bool false)), type := 4, pos := "plain.go:302", after := #[{ on := 19, ground := Ground.data }, { on := 28, ground := Ground.data }, { on := 16, ground := Ground.guard }], guard := some (16, false) }) (v := ?_) rfl (by kernel_rfl) (by kernel_rfl) (by kernel_rfl) (fun _ _ _ h => h) (Or.inl ⟨by rfl, ?_⟩) (by assumption) ?_
        rotate_left
        · intro w hSw
          try dsimp only at hSw
          go_simp
          try with_reducible rfl
        try simp only [Act.put, List.setIfInBounds_toArray, List.set_cons_zero, List.set_cons_succ]
        refine wpAnyH_take (i := 30) (oi := { dst := some 122, op := Op.pick (Operand.tmp 108) (Operand.const (Value.bool true)) (Operand.tmp 121), type := 4, pos := "plain.go:302", after := #[{ on := 16, ground := Ground.data }, { on := 29, ground := Ground.data }], guard := none }) (v := ?_) rfl (by kernel_rfl) (by kernel_rfl) (by kernel_rfl) (fun _ _ _ h => h) (Or.inl ⟨by rfl, ?_⟩) (by assumption) ?_
        rotate_left
        · intro w hSw
          try dsimp only at hSw
          go_simp
          try with_reducible rfl
        try simp only [Act.put, List.setIfInBounds_toArray, List.set_cons_zero, List.set_cons_succ]
        refine wpAnyH_done (by kernel_rfl) ?_ _
        have HB8 := mkHid (HN.out.1.below hHeld.2.2.2.2.2.2.2)
        go_wp2_with fail
        exact ⟨⟨i + 1, by first | rfl | (rw [wi]; rfl), HN.out.2, HB8⟩, by first | exact measI _ _ HN.out.2 | (rw [wi]; exact measI _ _ HN.out.2)⟩
    · have i1 := nltI hlt
      have HZ := mkHid (And.intro tw hm)
      clear hm hne' hnv' hnt' tw hlt HI hi H0
      go_wp2_with fail
      exact HK1.out _ _ (gt15 W wr HZ.out.1 HZ.out.2)
end Go.Proofs.Ytibhjkmbbfgnpaa

/- GraphTurns: the law, whole. -/
namespace Go.Proofs.Ytibhjkmbbfgnpaa
open Go.RowKit GM Gl Gsx
set_option maxRecDepth 20000
theorem tp_any {N : Nat} {E : List (Nat × Nat)} {v : Value} {w : World} (hv : El v (zE E) w) (hc : (chk (N : Int) (zE E)).1 = 0) :
    Calls Try.prog 18 #[grV (N : Int) v] w fun e w' => ∃ o c, e = .returned (.tuple #[grV (N : Int) (.slice o (nrm N (trn E)).length c), .int .i64 0]) ∧ El (.slice o (nrm N (trn E)).length c) (zE (nrm N (trn E))) w' ∧ Below w.heap.size w w' := by
  refine (transpose_any (N : Int) (zE E) v w hv).mono ?_
  rintro e w' ⟨u, rfl, hu, hb, -⟩
  have e1 : okN (N : Int) (zE E) = (N : Int) := by unfold okN; rw [if_pos hc]
  have e2 : trnR (N : Int) (zE E) = zE (nrm N (trn E)) := by unfold trnR; rw [if_pos hc, Int.toNat_natCast, nE_zE]
  rw [e2] at hu
  obtain ⟨o, c, hf, -⟩ := hu.form
  rw [zE_len] at hf
  subst hf
  exact ⟨o, c, by rw [e1, hc]; rfl, hu, hb⟩
theorem nm_any {N : Nat} {E : List (Nat × Nat)} {v : Value} {w : World} (hv : El v (zE E) w) (hc : (chk (N : Int) (zE E)).1 = 0) :
    Calls Try.prog 19 #[grV (N : Int) v] w fun e w' => ∃ o c, e = .returned (.tuple #[grV (N : Int) (.slice o (nrm N E).length c), .int .i64 0]) ∧ El (.slice o (nrm N E).length c) (zE (nrm N E)) w' ∧ Below w.heap.size w w' := by
  refine (norm_any (N : Int) (zE E) v w hv).mono ?_
  rintro e w' ⟨u, rfl, hu, hb, -⟩
  have e1 : okN (N : Int) (zE E) = (N : Int) := by unfold okN; rw [if_pos hc]
  have e2 : nrmR (N : Int) (zE E) = zE (nrm N E) := by unfold nrmR; rw [if_pos hc, Int.toNat_natCast, nE_zE]
  rw [e2] at hu
  obtain ⟨o, c, hf, -⟩ := hu.form
  rw [zE_len] at hf
  subst hf
  exact ⟨o, c, by rw [e1, hc]; rfl, hu, hb⟩
theorem emod_nt (r N : Nat) : ((r : Int) % (N : Int)) = ((r % N : Nat) : Int) := by simp
theorem row_new (w : World) (N : Nat) (u : Value) {Y : World} {k : Nat} (hY : w.alloc (.cells #[.int .i64 (N : Int), u] 24) = Y) (hk : w.heap.size = k) : Below w.heap.size w Y ∧ Y.heap[k]? = some (.cells #[.int .i64 (N : Int), u] 24 (0, 0)) := by
  rw [← hY, ← hk]
  exact ⟨(Below.refl _ w).alloc (Nat.le_refl _) _, heap_alloc_new _ _⟩
set_option maxRecDepth 100000 in
set_option maxHeartbeats 6400000 in
theorem turns_any (n : Int) (D : List (Int × Int)) (v : Value) (x y : Int) (W : World) (hE : El v D W) :
    Calls Try.prog 5 #[.int .i64 n, v, .int .i64 x, .int .i64 y] W fun e w' => e = .returned (.bool true) ∧ Below W.heap.size W w' := by
  have C1 := small_any n D v W hE
  clear hE
  go_enter Try.func5, Try.ntmps5
  go_wp2_with fail
  refine Calls.mono C1 ?_
  rintro e w1 ⟨N, E, u, rfl, h1, h60, hE2, hEl, hown, b1⟩
  obtain ⟨ou, cu, rfl⟩ := own_size hown
  obtain ⟨le, hle⟩ : ∃ k, E.length = k := ⟨_, rfl⟩
  rw [hle] at hown ⊢
  obtain ⟨kG, hkG⟩ : ∃ k, w1.heap.size = k := ⟨_, rfl⟩
  obtain ⟨Y, hY⟩ : ∃ Y, w1.alloc (.cells #[.int .i64 (N : Int), .slice ou le cu] 24) = Y := ⟨_, rfl⟩
  obtain ⟨bY1, rg⟩ := row_new w1 N _ hY hkG
  have bY := b1.trans (bY1.mono b1.size)
  have hel : El (.slice ou le cu) (zE E) Y := by rw [hle.symm] at hown ⊢; exact (el_own hown).2.below bY1
  have hc := chk0 hE2 (by omega) (by omega)
  -- a and b, cut to the graph
  obtain ⟨ra, hra, hra2⟩ := and_ex65535 x
  obtain ⟨rb, hrb, hrb2⟩ := and_ex65535 y
  obtain ⟨a, ha⟩ : ∃ a, ra % N = a := ⟨_, rfl⟩
  obtain ⟨b, hb⟩ : ∃ b, rb % N = b := ⟨_, rfl⟩
  have haN : a < N := by rw [← ha]; exact Nat.mod_lt _ h1
  have hbN : b < N := by rw [← hb]; exact Nat.mod_lt _ h1
  have qa := tmod_n ra N hra2
  have qb := tmod_n rb N hrb2
  rw [ha] at qa
  rw [hb] at qb
  have qae := emod_nt ra N
  have qbe := emod_nt rb N
  rw [ha] at qae
  rw [hb] at qbe
  have hN0 : ¬ (N : Int) = 0 := by omega
  have C2 := tp_any hel hc
  have g0 : Y.cell? ⟨kG, 0, none⟩ = some (.int .i64 (N : Int)) := (cell_of_row _ _ _ _ _ _ rg).trans rfl
  have g1 : Y.cell? ⟨kG, 1, none⟩ = some (.slice ou le cu) := (cell_of_row _ _ _ _ _ _ rg).trans rfl
  have HM : Hid (Tm N a b E) := ⟨h1, h60, haN, hbN, hE2, hEl⟩
  have HW := mkHid (And.intro bY (And.intro rg (And.intro hel hc)))
  unfold grV at C2 ⊢
  clear C1 bY1 bY rg hel hc hra2 hrb2 ha hb haN hbN h1 h60 hE2 hEl hown b1 hle
  dsimp only
  go_upto_region 2 with fail
  try rw [hkG]
  try rw [hY]
  go_wp2_with fail
  try rw [qae]
  try rw [qbe]
  refine C2.mono ?_
  rintro e w2 ⟨ot, ct, rfl, elt, b2⟩
  obtain ⟨lt, hlt⟩ : ∃ k, (nrm N (trn E)).length = k := ⟨_, rfl⟩
  rw [hlt] at elt ⊢
  obtain ⟨kT, hkT⟩ : ∃ k, w2.heap.size = k := ⟨_, rfl⟩
  obtain ⟨Y2, hY2⟩ : ∃ Y, w2.alloc (.cells #[.int .i64 (N : Int), .slice ot lt ct] 24) = Y := ⟨_, rfl⟩
  obtain ⟨bY2, rt⟩ := row_new w2 N _ hY2 hkT
  have b12 := b2.trans (bY2.mono b2.size)
  have elt2 := elt.below bY2
  have C3 := tp_any elt2 HM.out.turn
  rw [nrm_turn2] at C3
  have t0 : Y2.cell? ⟨kT, 0, none⟩ = some (.int .i64 (N : Int)) := (cell_of_row _ _ _ _ _ _ rt).trans rfl
  have t1 : Y2.cell? ⟨kT, 1, none⟩ = some (.slice ot lt ct) := (cell_of_row _ _ _ _ _ _ rt).trans rfl
  have HT := mkHid (And.intro b12 (And.intro rt elt2))
  unfold grV at C3
  clear C2 g0 g1 elt b2 bY2 rt b12 elt2 hlt hY
  dsimp only
  go_upto_region 5 with fail
  try rw [hkT]
  try rw [hY2]
  go_wp2_with fail
  refine C3.mono ?_
  rintro e w3 ⟨o3, c3, rfl, el3, b3⟩
  obtain ⟨ln, hln⟩ : ∃ k, (nrm N E).length = k := ⟨_, rfl⟩
  rw [hln] at el3 ⊢
  obtain ⟨kU, hkU⟩ : ∃ k, w3.heap.size = k := ⟨_, rfl⟩
  obtain ⟨Y3, hY3⟩ : ∃ Y, w3.alloc (.cells #[.int .i64 (N : Int), .slice o3 ln c3] 24) = Y := ⟨_, rfl⟩
  obtain ⟨bY3, ru⟩ := row_new w3 N _ hY3 hkU
  have b23 := b3.trans (bY3.mono b3.size)
  have el3' := el3.below bY3
  have b13 := HT.out.1.trans (b23.mono HT.out.1.size)
  have C4 := nm_any (HW.out.2.2.1.below b13) HW.out.2.2.2
  have g0 : Y3.cell? ⟨kG, 0, none⟩ = some (.int .i64 (N : Int)) := cell_belowX b13 ((cell_of_row _ _ _ _ _ _ HW.out.2.1).trans rfl)
  have g1 : Y3.cell? ⟨kG, 1, none⟩ = some (.slice ou le cu) := cell_belowX b13 ((cell_of_row _ _ _ _ _ _ HW.out.2.1).trans rfl)
  have HU := mkHid (And.intro b23 (And.intro ru (And.intro el3' b13)))
  unfold grV at C4
  rw [hln] at C4
  clear C3 t0 t1 el3 b3 bY3 ru b23 el3' b13 hY2
  dsimp only
  go_upto_region 6 with fail
  try rw [hkU]
  try rw [hY3]
  go_wp2_with fail
  refine C4.mono ?_
  rintro e w4 ⟨o4, c4, rfl, el4, b4⟩
  obtain ⟨kV, hkV⟩ : ∃ k, w4.heap.size = k := ⟨_, rfl⟩
  obtain ⟨Y4, hY4⟩ : ∃ Y, w4.alloc (.cells #[.int .i64 (N : Int), .slice o4 ln c4] 24) = Y := ⟨_, rfl⟩
  obtain ⟨bY4, rv⟩ := row_new w4 N _ hY4 hkV
  have b34 := b4.trans (bY4.mono b4.size)
  have el4' := el4.below bY4
  obtain ⟨b23, ru, el3', b13⟩ := HU.out
  have b24 := b23.trans (b34.mono b23.size)
  have b14 := b13.trans (b34.mono b13.size)
  obtain ⟨bY, rg, hel, hc⟩ := HW.out
  obtain ⟨b12, rt, elt2⟩ := HT.out
  have HS : Hid (Tw W kG kT kV N E (.slice ou le cu) (.slice ot lt ct) (.slice o4 ln c4) Y4) :=
    ⟨bY.trans (b14.mono bY.size), (b14.block _ (Array.getElem?_eq_some_iff.1 rg).1).trans rg, (b24.block _ (Array.getElem?_eq_some_iff.1 rt).1).trans rt, rv, hel.below b14, elt2.below b24, el4'⟩
  have ru4 := (b34.block _ (Array.getElem?_eq_some_iff.1 ru).1).trans ru
  have C5 := sameG_any (N : Int) (zE (nrm N E)) (.slice o3 ln c3) (.slice o4 ln c4) Y4 (el3'.below b34) el4'
  have g0 : Y4.cell? ⟨kG, 0, none⟩ = some (.int .i64 (N : Int)) := HS.out.g0
  have u0 : Y4.cell? ⟨kU, 0, none⟩ = some (.int .i64 (N : Int)) := (cell_of_row _ _ _ _ _ _ ru4).trans rfl
  have u1 : Y4.cell? ⟨kU, 1, none⟩ = some (.slice o3 ln c3) := (cell_of_row _ _ _ _ _ _ ru4).trans rfl
  have w0 : Y4.cell? ⟨kV, 0, none⟩ = some (.int .i64 (N : Int)) := HS.out.v0
  have w1' : Y4.cell? ⟨kV, 1, none⟩ = some (.slice o4 ln c4) := HS.out.v1
  unfold grV at C5
  clear C4 b4 el4 bY4 rv b34 el4' b23 ru el3' b13 b24 b14 bY rg hel hc b12 rt elt2 ru4 HU HT HW hY3
  dsimp only
  go_upto_region 7 with fail
  rename_i K0 hk0 K1 hk1
  have HK0 := mkHid hk0
  have HK1 := mkHid hk1
  clear hk1 hk0
  try rw [hkV]
  try rw [hY4]
  go_wp2_with fail
  refine C5.mono ?_
  rintro e w5 ⟨rfl, b5⟩
  have HS5 := mkHid (HS.out.below b5)
  clear C5 b5 g0 g1 u0 u1 w0 w1'
  go_wp2_with fail
  refine HK1.out _ _ ?_
  go_wp2_with fail
  exact HK0.out _ _ (gt9 W w5 HS5.out HM.out)
end Go.Proofs.Ytibhjkmbbfgnpaa
