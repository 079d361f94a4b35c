/- Several texts in one: GtD, GtE. -/
import Derived.Test.YtibhjkmbbfgnpaaJtA
import Derived.Test.YtibhjkmbbfgnpaaJtC
import Derived.Test.YtibhjkmbbfgnpaaJtD
import Derived.Test.YtibhjkmbbfgnpaaJoD
import Derived.Deep.QuietTactic
import Derived.BigQuiet
import Derived.Deep.RegionHeld3
import Derived.Deep.MidRow
/- GraphTurns: the law from region 20 on: reached both ways, the same groups. -/
namespace Go.Proofs.Ytibhjkmbbfgnpaa
open Go.RowKit GM Gl Gsx
set_option maxRecDepth 20000
/-- What lies while the law is at work. -/
structure Tw (W : World) (kG kT kV N : Nat) (E : List (Nat × Nat)) (ev et eu : Value) (X : World) : Prop where
  bel : Below W.heap.size W X
  g : X.heap[kG]? = some (.cells #[.int .i64 (N : Int), ev] 24 (0, 0))
  t : X.heap[kT]? = some (.cells #[.int .i64 (N : Int), et] 24 (0, 0))
  v : X.heap[kV]? = some (.cells #[.int .i64 (N : Int), eu] 24 (0, 0))
  eg : El ev (zE E) X
  et : El et (zE (nrm N (trn E))) X
  eu : El eu (zE (nrm N E)) X
theorem Tw.below {W X Y : World} {kG kT kV N : Nat} {E : List (Nat × Nat)} {ev et eu : Value} (h : Tw W kG kT kV N E ev et eu X) (hb : Below X.heap.size X Y) : Tw W kG kT kV N E ev et eu Y :=
  have q {k : Nat} {o : Obj} (e : X.heap[k]? = some o) : Y.heap[k]? = some o := (hb.block k (Array.getElem?_eq_some_iff.1 e).1).trans e
  ⟨h.bel.trans (hb.mono h.bel.size), q h.g, q h.t, q h.v, h.eg.below hb, h.et.below hb, h.eu.below hb⟩
/-- The mathematics at hand. -/
structure Tm (N a b : Nat) (E : List (Nat × Nat)) : Prop where
  h1 : 1 ≤ N
  h60 : N ≤ 60
  ha : a < N
  hb : b < N
  hE : ∀ e ∈ E, e.1 < N ∧ e.2 < N
  hl : E.length ≤ 400
theorem Tm.chk {N a b : Nat} {E : List (Nat × Nat)} (h : Tm N a b E) : (Go.Proofs.Ytibhjkmbbfgnpaa.chk (N : Int) (zE E)).1 = 0 := chk0 h.hE (by have := h.h60; omega) (by have := h.hl; omega)
theorem Tm.turn {N a b : Nat} {E : List (Nat × Nat)} (h : Tm N a b E) : (Go.Proofs.Ytibhjkmbbfgnpaa.chk (N : Int) (zE (nrm N (trn E)))).1 = 0 := chk0 nrm_fit (by have := h.h60; omega) (by have := nrm_len h.h60 (trn E); omega)
set_option maxRecDepth 100000 in
set_option maxHeartbeats 6400000 in
theorem gt20 (W X : World) {kG kT kU kV N a b : Nat} {ev et eu : Value} {E : List (Nat × Nat)} (hw : Tw W kG kT kV N E ev et eu X) (hm : Tm N a b E) {v0 v1 v4 v5 v6 v7 v8 v11 v13 v15 v16 v17 v18 v19 v20 v21 v22 v23 v24 v25 v26 v27 v28 v29 v30 v31 v32 v33 v34 v35 v36 v37 v38 v39 v40 v41 v42 v43 v44 v45 v46 v47 v48 v49 v50 v51 v52 v53 v54 v55 v56 v57 v58 v59 v60 v61 v62 v63 v64 v65 v66 v67 v68 v69 v70 v71 v72 v73 v74 v75 v76 v77 v78 v79 v80 v81 v82 v83 v84 v85 v86 v87 v88 v89 v90 v91 v92 v93 v94 v95 v96 v97 v98 v99 v100 v101 v102 v103 v104 v105 v106 v107 v108 v109 v110 v111 v112 v113 v114 v115 v116 v117 v118 v119 v120 v121 v122 v123 v124 v125 v126 v127 v128 v129 v130 v131 v132 v133 v134 v135 v136 v137 v138 v139 v140 v141 v142 v143 v144 v145 v146 v147 v148 v149 v150 v151 v152 v153 v154 v155 v156 v157 v158 v159 v160 v161 v162 v163 v164 v165 v166 v167 v168 v169 v170 v171 v172 v173 v174 v175 v176 v177 v178 v179 v180 v181 v182 v183 v184 v185 v186 v187 v188 v189 v190 v191 v192 v193 v194 v195 v196 v197 v198 v199 v200 v201 v202 v203 v204 v205 v206 : Value} :
    Code.wp Try.prog (tlF Try.f5 20) (bodyPost Try.prog Try.f5 (fun e w' => e = .returned (.bool true) ∧ Below W.heap.size W w')) ⟨#[v0, v1, .int .i64 (a : Int), .int .i64 (b : Int), v4, v5, v6, v7, v8, .pointer (some ⟨kG, 0, none⟩), .pointer (some ⟨kT, 0, none⟩), v11, .pointer (some ⟨kU, 0, none⟩), v13, .pointer (some ⟨kV, 0, none⟩), v15, v16, v17, v18, v19, v20, v21, v22, v23, v24, v25, v26, v27, v28, v29, v30, v31, v32, v33, v34, v35, v36, v37, v38, v39, v40, v41, v42, v43, v44, v45, v46, v47, v48, v49, v50, v51, v52, v53, v54, v55, v56, v57, v58, v59, v60, v61, v62, v63, v64, v65, v66, v67, v68, v69, v70, v71, v72, v73, v74, v75, v76, v77, v78, v79, v80, v81, v82, v83, v84, v85, v86, v87, v88, v89, v90, v91, v92, v93, v94, v95, v96, v97, v98, v99, v100, v101, v102, v103, v104, v105, v106, v107, v108, v109, v110, v111, v112, v113, v114, v115, v116, v117, v118, v119, v120, v121, v122, v123, v124, v125, v126, v127, v128, v129, v130, v131, v132, v133, v134, v135, v136, v137, v138, v139, v140, v141, v142, v143, v144, v145, v146, v147, v148, v149, v150, v151, v152, v153, v154, v155, v156, v157, v158, v159, v160, v161, v162, v163, v164, v165, v166, v167, v168, v169, v170, v171, v172, v173, v174, v175, v176, v177, v178, v179, v180, v181, v182, v183, v184, v185, v186, v187, v188, v189, v190, v191, v192, v193, v194, v195, v196, v197, v198, v199, v200, v201, v202, v203, v204, v205, v206], []⟩ X := by
  obtain ⟨oe, ce, hev, -, -⟩ := hw.eg.form
  obtain ⟨ot, ct, het, -, -⟩ := hw.et.form
  rw [zE_len] at hev het
  subst hev het
  obtain ⟨ne, hne⟩ : ∃ n, E.length = n := ⟨_, rfl⟩
  obtain ⟨nt, hnt⟩ : ∃ n, (nrm N (trn E)).length = n := ⟨_, rfl⟩
  rw [hne, hnt] at hw
  have C1 := reaches_any N (by have := hm.h60; omega) E hm.hE (by have := hm.hl; omega) (.slice oe ne ce) X hw.eg hm.chk a b hm.ha hm.hb
  have g0 : X.cell? ⟨kG, 0, none⟩ = some (.int .i64 (N : Int)) := (cell_of_row _ _ _ _ _ _ hw.g).trans rfl
  have g1 : X.cell? ⟨kG, 1, none⟩ = some (.slice oe ne ce) := (cell_of_row _ _ _ _ _ _ hw.g).trans rfl
  have HQ := mkHid (And.intro hw (And.intro hm (And.intro hne hnt)))
  unfold grV at C1
  clear hw hm hne hnt
  conv => arg 2; whnf
  go_wp2_with fail
  refine C1.mono ?_
  rintro e X1 ⟨b1, p, rfl, hp⟩
  have C2 := reaches_any N (by have := HQ.out.2.1.h60; omega) (nrm N (trn E)) nrm_fit (by have := nrm_len HQ.out.2.1.h60 (trn E); omega) (.slice ot nt ct) X1 (HQ.out.1.below b1).et HQ.out.2.1.turn b a HQ.out.2.1.hb HQ.out.2.1.ha
  have t0 : X1.cell? ⟨kT, 0, none⟩ = some (.int .i64 (N : Int)) := (cell_of_row _ _ _ _ _ _ (HQ.out.1.below b1).t).trans rfl
  have t1 : X1.cell? ⟨kT, 1, none⟩ = some (.slice ot nt ct) := (cell_of_row _ _ _ _ _ _ (HQ.out.1.below b1).t).trans rfl
  have HP := mkHid hp
  have HB1 := mkHid b1
  unfold grV at C2
  clear C1 g0 g1 b1 hp
  dsimp only
  go_wp2_with fail
  refine C2.mono ?_
  rintro e X2 ⟨b2, q, rfl, hq⟩
  have b12 := HB1.out.trans (b2.mono HB1.out.size)
  have hpq : p = q := Bool.eq_iff_iff.2 (HP.out.trans ((rc_turn (nd_turn HQ.out.2.1.hE)).trans hq.symm))
  subst hpq
  have C3 := condense_any N (by have := HQ.out.2.1.h60; omega) HQ.out.2.1.h1 E HQ.out.2.1.hE (by have := HQ.out.2.1.hl; omega) HQ.out.2.1.chk (.slice oe ne ce) X2 (HQ.out.1.below b12).eg
  have g0 : X2.cell? ⟨kG, 0, none⟩ = some (.int .i64 (N : Int)) := (cell_of_row _ _ _ _ _ _ (HQ.out.1.below b12).g).trans rfl
  have g1 : X2.cell? ⟨kG, 1, none⟩ = some (.slice oe ne ce) := (cell_of_row _ _ _ _ _ _ (HQ.out.1.below b12).g).trans rfl
  have HB2 := mkHid b12
  unfold grV at C3
  clear C2 t0 t1 b2 hq HP b12
  dsimp only
  go_wp2_with fail
  refine C3.mono ?_
  rintro e X3 ⟨n3, k3, u3, nb, Rs, rfl, b3, el3, r3, gn, -⟩
  obtain ⟨o3, c3, hu3, -, -⟩ := el3.form
  rw [zE_len] at hu3
  subst hu3
  obtain ⟨m3, hm3⟩ : ∃ k, (edg (btw (ndF N E) nb N n3) n3).length = k := ⟨_, rfl⟩
  rw [hm3]
  obtain ⟨Y, hY⟩ : ∃ Y, X3.alloc (.cells #[.int .i64 (n3 : Int), .slice o3 m3 c3] 24) = Y := ⟨_, rfl⟩
  have bY : Below X3.heap.size X3 Y := by rw [← hY]; exact (Below.refl _ X3).alloc (Nat.le_refl _) _
  have b3Y := HB2.out.trans ((b3.trans (bY.mono b3.size)).mono HB2.out.size)
  have r3Y := (bY.block _ (Array.getElem?_eq_some_iff.1 r3).1).trans r3
  have C4 := condense_any N (by have := HQ.out.2.1.h60; omega) HQ.out.2.1.h1 (nrm N (trn E)) nrm_fit (by have := nrm_len HQ.out.2.1.h60 (trn E); omega) HQ.out.2.1.turn (.slice ot nt ct) Y (HQ.out.1.below b3Y).et
  have t0 : Y.cell? ⟨kT, 0, none⟩ = some (.int .i64 (N : Int)) := (cell_of_row _ _ _ _ _ _ (HQ.out.1.below b3Y).t).trans rfl
  have t1 : Y.cell? ⟨kT, 1, none⟩ = some (.slice ot nt ct) := (cell_of_row _ _ _ _ _ _ (HQ.out.1.below b3Y).t).trans rfl
  have HB3 := mkHid (And.intro b3Y (And.intro r3Y gn))
  unfold grV at C4 ⊢
  clear C3 g0 g1 b3 el3 r3 gn hm3 b3Y r3Y bY
  dsimp only
  go_wp2_with fail
  try rw [hY]
  clear hY
  refine C4.mono ?_
  rintro e X4 ⟨n4, k4, u4, nc, Rt, rfl, b4, el4, r4, gm, -⟩
  obtain ⟨o4, c4, hu4, -, -⟩ := el4.form
  rw [zE_len] at hu4
  subst hu4
  obtain ⟨m4, hm4⟩ : ∃ k, (edg (btw (ndF N (nrm N (trn E))) nc N n4) n4).length = k := ⟨_, rfl⟩
  rw [hm4]
  obtain ⟨Z, hZ⟩ : ∃ Z, X4.alloc (.cells #[.int .i64 (n4 : Int), .slice o4 m4 c4] 24) = Z := ⟨_, rfl⟩
  have bZ : Below X4.heap.size X4 Z := by rw [← hZ]; exact (Below.refl _ X4).alloc (Nat.le_refl _) _
  have bYZ := b4.trans (bZ.mono b4.size)
  have bXZ := HB3.out.1.trans (bYZ.mono HB3.out.1.size)
  have r3Z := (bYZ.block _ (Array.getElem?_eq_some_iff.1 HB3.out.2.1).1).trans HB3.out.2.1
  have r4Z := (bZ.block _ (Array.getElem?_eq_some_iff.1 r4).1).trans r4
  have hm' := HQ.out.2.1
  have qz := HQ.out.1.below bXZ
  have sm : (nb.getD a 0 = nb.getD b 0) ↔ (nc.getD a 0 = nc.getD b 0) := (HB3.out.2.2.same hm'.ha hm'.hb).trans ((same_turn (nd_turn hm'.hE)).trans (gm.same hm'.ha hm'.hb).symm)
  have l1 := HB3.out.2.2.nm.len
  have l2 := gm.nm.len
  have g0 : Z.cell? ⟨kG, 0, none⟩ = some (.int .i64 (N : Int)) := (cell_of_row _ _ _ _ _ _ qz.g).trans rfl
  have y1 : ∀ k, (Z.drewN k).cell? ⟨k3, a, none⟩ = some (.int .i64 ((nb.getD a 0 : Nat) : Int)) := fun _ => (cell_of_row _ _ _ _ _ _ r3Z).trans (ik_get _ _ (by rw [l1]; exact hm'.ha))
  have y2 : ∀ k, (Z.drewN k).cell? ⟨k3, b, none⟩ = some (.int .i64 ((nb.getD b 0 : Nat) : Int)) := fun _ => (cell_of_row _ _ _ _ _ _ r3Z).trans (ik_get _ _ (by rw [l1]; exact hm'.hb))
  have y3 : ∀ k, (Z.drewN k).cell? ⟨k4, a, none⟩ = some (.int .i64 ((nc.getD a 0 : Nat) : Int)) := fun _ => (cell_of_row _ _ _ _ _ _ r4Z).trans (ik_get _ _ (by rw [l2]; exact hm'.ha))
  have y4 : ∀ k, (Z.drewN k).cell? ⟨k4, b, none⟩ = some (.int .i64 ((nc.getD b 0 : Nat) : Int)) := fun _ => (cell_of_row _ _ _ _ _ _ r4Z).trans (ik_get _ _ (by rw [l2]; exact hm'.hb))
  obtain ⟨x1, hx1⟩ : ∃ x, nb.getD a 0 = x := ⟨_, rfl⟩
  obtain ⟨x2, hx2⟩ : ∃ x, nb.getD b 0 = x := ⟨_, rfl⟩
  obtain ⟨x3, hx3⟩ : ∃ x, nc.getD a 0 = x := ⟨_, rfl⟩
  obtain ⟨x4, hx4⟩ : ∃ x, nc.getD b 0 = x := ⟨_, rfl⟩
  rw [hx1] at y1 sm
  rw [hx2] at y2 sm
  rw [hx3] at y3 sm
  rw [hx4] at y4 sm
  have a0 := geI a
  have a1 := ltI hm'.ha
  have b0 := geI b
  have b1 := ltI hm'.hb
  have HZ := mkHid qz.bel
  unfold grV
  clear C4 t0 t1 b4 el4 r4 gm hm4 bZ bYZ bXZ r3Z r4Z hm' qz l1 l2 hx1 hx2 hx3 hx4 HB3 HB2 HB1 HQ
  dsimp only
  have z1 := y1 0
  have z2 := y2 0
  have z3 := y3 0
  have z4 := y4 0
  cases p
  all_goals by_cases hc : x1 = x2
  all_goals (first
    | (have hd := sm.1 hc; subst hc; subst hd)
    | (have hd : ¬ x3 = x4 := fun h => hc (sm.2 h)
       have e1 : ((x1 : Int) == (x2 : Int)) = false := by first | exact (beq_false_of_ne fun q => hc (Int.ofNat.inj q)) | exact fun q => hc (Int.ofNat.inj q)
       have e2 : ((x3 : Int) == (x4 : Int)) = false := by first | exact (beq_false_of_ne fun q => hd (Int.ofNat.inj q)) | exact fun q => hd (Int.ofNat.inj q)
       have e3 : ¬ ((x1 : Int) = (x2 : Int)) := by first | exact (beq_false_of_ne fun q => hc (Int.ofNat.inj q)) | exact fun q => hc (Int.ofNat.inj q)
       have e4 : ¬ ((x3 : Int) = (x4 : Int)) := by exact fun q => hd (Int.ofNat.inj q)))
  all_goals clear sm
  all_goals go_wp2_with fail
  all_goals try rw [hZ]
  all_goals try (go_quiet (fail))
  all_goals try go_wp2_with fail
  all_goals go_ret
  all_goals exact ⟨by first | rfl | simp, Below.drewN' HZ.out _⟩
end Go.Proofs.Ytibhjkmbbfgnpaa

/- GraphTurns: the law from region 15 on: each edge is an edge in order. -/
namespace Go.Proofs.Ytibhjkmbbfgnpaa
open Go.RowKit GM Gl Gsx
set_option maxRecDepth 20000
section
variable {W X : World} {kG kT kV N : Nat} {E : List (Nat × Nat)} {ev et eu : Value}
theorem Tw.g0 (h : Tw W kG kT kV N E ev et eu X) : X.cell? ⟨kG, 0, none⟩ = some (.int .i64 (N : Int)) := (cell_of_row _ _ _ _ _ _ h.g).trans rfl
theorem Tw.g1 (h : Tw W kG kT kV N E ev et eu X) : X.cell? ⟨kG, 1, none⟩ = some ev := (cell_of_row _ _ _ _ _ _ h.g).trans rfl
theorem Tw.t0 (h : Tw W kG kT kV N E ev et eu X) : X.cell? ⟨kT, 0, none⟩ = some (.int .i64 (N : Int)) := (cell_of_row _ _ _ _ _ _ h.t).trans rfl
theorem Tw.t1 (h : Tw W kG kT kV N E ev et eu X) : X.cell? ⟨kT, 1, none⟩ = some et := (cell_of_row _ _ _ _ _ _ h.t).trans rfl
theorem Tw.v0 (h : Tw W kG kT kV N E ev et eu X) : X.cell? ⟨kV, 0, none⟩ = some (.int .i64 (N : Int)) := (cell_of_row _ _ _ _ _ _ h.v).trans rfl
theorem Tw.v1 (h : Tw W kG kT kV N E ev et eu X) : X.cell? ⟨kV, 1, none⟩ = some eu := (cell_of_row _ _ _ _ _ _ h.v).trans rfl
end
theorem el_cells {v : Value} {E : List (Nat × Nat)} {X : World} (h : El v (zE E) X) : ∃ o c, v = .slice o E.length c ∧ (0 < E.length → ∃ eb eo, o = some ⟨eb, eo, none⟩ ∧ ∀ i (a b : Nat), E[i]? = some (a, b) → X.cell? ⟨eb, eo + i * 2, none⟩ = some (.int .i64 (a : Int)) ∧ X.cell? ⟨eb, eo + i * 2 + 1, none⟩ = some (.int .i64 (b : Int))) := by
  obtain ⟨o, c, hv, -, ho⟩ := h.form
  rw [zE_len] at hv ho
  refine ⟨o, c, hv, fun hl => ?_⟩
  obtain ⟨eb, eo, e, -, h3⟩ := ho hl
  refine ⟨eb, eo, e, fun i a b hab => ?_⟩
  have := h3 i (List.getElem?_eq_some_iff.1 hab).1
  rw [zE_get E i a b hab] at this
  exact this
/-- What is read of region 18. -/
abbrev S18 (wr : World) (kV kG N : Nat) (eu : Value) (ev : Value) (eb eo a b : Nat) (w' : World) : Prop := w'.cell? ⟨kV, 0, none⟩ = some (.int .i64 (N : Int)) ∧ w'.cell? ⟨kV, 1, none⟩ = some eu ∧ w'.cell? ⟨kG, 1, none⟩ = some ev ∧ w'.cell? ⟨eb, eo, none⟩ = some (.int .i64 (a : Int)) ∧ w'.cell? ⟨eb, eo + 1, none⟩ = some (.int .i64 (b : Int)) ∧ Below wr.heap.size wr w'
set_option maxRecDepth 100000 in
set_option maxHeartbeats 6400000 in
theorem gt15 (W X : World) {kG kT kU kV N a b : Nat} {ev et eu : Value} {E : List (Nat × Nat)} (hw : Tw W kG kT kV N E ev et eu X) (hm : Tm N a b E) {v0 v1 v4 v5 v6 v7 v8 v11 v13 v15 v16 v17 v18 v19 v20 v21 v22 v23 v24 v25 v26 v27 v28 v29 v30 v31 v32 v33 v34 v35 v36 v37 v38 v39 v40 v41 v42 v43 v44 v45 v46 v47 v48 v49 v50 v51 v52 v53 v54 v55 v56 v57 v58 v59 v60 v61 v62 v63 v64 v65 v66 v67 v68 v69 v70 v71 v72 v73 v74 v75 v76 v77 v78 v79 v80 v81 v82 v83 v84 v85 v86 v87 v88 v89 v90 v91 v92 v93 v94 v95 v96 v97 v98 v99 v100 v101 v102 v103 v104 v105 v106 v107 v108 v109 v110 v111 v112 v113 v114 v115 v116 v117 v118 v119 v120 v121 v122 v123 v124 v125 v126 v127 v128 v129 v130 v131 v132 v133 v134 v135 v136 v137 v138 v139 v140 v141 v142 v143 v144 v145 v146 v147 v148 v149 v150 v151 v152 v153 v154 v155 v156 v157 v158 v159 v160 v161 v162 v163 v164 v165 v166 v167 v168 v169 v170 v171 v172 v173 v174 v175 v176 v177 v178 v179 v180 v181 v182 v183 v184 v185 v186 v187 v188 v189 v190 v191 v192 v193 v194 v195 v196 v197 v198 v199 v200 v201 v202 v203 v204 v205 v206 : Value} :
    Code.wp Try.prog (tlF Try.f5 15) (bodyPost Try.prog Try.f5 (fun e w' => e = .returned (.bool true) ∧ Below W.heap.size W w')) ⟨#[v0, v1, .int .i64 (a : Int), .int .i64 (b : Int), v4, v5, v6, v7, v8, .pointer (some ⟨kG, 0, none⟩), .pointer (some ⟨kT, 0, none⟩), v11, .pointer (some ⟨kU, 0, none⟩), v13, .pointer (some ⟨kV, 0, none⟩), v15, v16, v17, v18, v19, v20, v21, v22, v23, v24, v25, v26, v27, v28, v29, v30, v31, v32, v33, v34, v35, v36, v37, v38, v39, v40, v41, v42, v43, v44, v45, v46, v47, v48, v49, v50, v51, v52, v53, v54, v55, v56, v57, v58, v59, v60, v61, v62, v63, v64, v65, v66, v67, v68, v69, v70, v71, v72, v73, v74, v75, v76, v77, v78, v79, v80, v81, v82, v83, v84, v85, v86, v87, v88, v89, v90, v91, v92, v93, v94, v95, v96, v97, v98, v99, v100, v101, v102, v103, v104, v105, v106, v107, v108, v109, v110, v111, v112, v113, v114, v115, v116, v117, v118, v119, v120, v121, v122, v123, v124, v125, v126, v127, v128, v129, v130, v131, v132, v133, v134, v135, v136, v137, v138, v139, v140, v141, v142, v143, v144, v145, v146, v147, v148, v149, v150, v151, v152, v153, v154, v155, v156, v157, v158, v159, v160, v161, v162, v163, v164, v165, v166, v167, v168, v169, v170, v171, v172, v173, v174, v175, v176, v177, v178, v179, v180, v181, v182, v183, v184, v185, v186, v187, v188, v189, v190, v191, v192, v193, v194, v195, v196, v197, v198, v199, v200, v201, v202, v203, v204, v205, v206], []⟩ X := by
  obtain ⟨oe, ce, hev, -⟩ := el_cells hw.eg
  obtain ⟨ou, cu, heu, -⟩ := el_cells hw.eu
  subst hev heu
  obtain ⟨ne, hne⟩ : ∃ n, E.length = n := ⟨_, rfl⟩
  obtain ⟨nv, hnv⟩ : ∃ n, (nrm N E).length = n := ⟨_, rfl⟩
  rw [hne, hnv] at hw
  have HQ := mkHid (And.intro hm (And.intro hne hnv))
  have H0 := mkHid hw
  clear hw hm hne hnv
  conv => arg 2; whnf
  go_wp2_with fail
  rename_i K1 hk1
  have HK1 := mkHid hk1
  clear hk1
  go_loopw [18] (fun iv wr => ∃ i : Nat, iv = .int .i64 (i : Int) ∧ i ≤ ne ∧ Hid (Tw W kG kT kV N E (.slice oe ne ce) et (.slice ou nv cu) wr)) (fun iv _ => ne - (intOf iv).toNat)
  case atStart => exact ⟨0, rfl, Nat.zero_le _, H0⟩
  case round =>
    obtain ⟨i, rfl, hi, HI⟩ := hrel
    obtain ⟨hm, hne', hnv'⟩ := HQ.out
    have q := HI.out
    have g1 := q.g1
    by_cases hlt : i < ne
    · obtain ⟨x, y, hxy⟩ : ∃ x y, E[i]? = some (x, y) := ⟨_, _, List.getElem?_eq_getElem (by omega)⟩
      obtain ⟨oe', ce', hvf, ho⟩ := el_cells q.eg
      injection hvf with f1 f2 f3
      subst f1 f3
      obtain ⟨eb, eo, rfl, q3⟩ := ho (by omega)
      obtain ⟨c1, c2⟩ := q3 i x y hxy
      have hE := List.mem_of_getElem? hxy
      have hin : (x, y) ∈ nrm N E := mem_nrm.2 ⟨(hm.hE _ hE).1, (hm.hE _ hE).2, hE⟩
      have v0' := q.v0
      have v1' := q.v1
      obtain ⟨eo2, heo⟩ : ∃ k, eo + i * 2 = k := ⟨_, rfl⟩
      rw [heo] at c1 c2
      have HE : Hid (∀ w', S18 wr kV kG N (.slice ou nv cu) (.slice (some ⟨eb, eo, none⟩) ne ce) eb eo2 x y w' → Calls Try.prog 13 #[.agg #[.int .i64 (N : Int), .slice ou nv cu], .int .i64 (x : Int), .int .i64 (y : Int)] w' fun e w8 => e = .returned (.bool true) ∧ Below w'.heap.size w' w8) := fun w' h' => by
        have := edge_any (N : Int) (nrm N E) (by have := nrm_len hm.h60 E; omega) (.slice ou nv cu) w' (q.eu.below h'.2.2.2.2.2) x y
        rw [decide_eq_true hin] at this
        exact this
      have HS : Hid (S18 wr kV kG N (.slice ou nv cu) (.slice (some ⟨eb, eo, none⟩) ne ce) eb eo2 x y wr.drew) := ⟨v0', v1', g1, c1, c2, bel_drP wr 1⟩
      have HX : Hid (∀ w' w8, S18 wr kV kG N (.slice ou nv cu) (.slice (some ⟨eb, eo, none⟩) ne ce) eb eo2 x y w' → Below w'.heap.size w' w8 → S18 wr kV kG N (.slice ou nv cu) (.slice (some ⟨eb, eo, none⟩) ne ce) eb eo2 x y w8) := fun w' w8 h b8 => ⟨cell_belowX b8 h.1, cell_belowX b8 h.2.1, cell_belowX b8 h.2.2.1, cell_belowX b8 h.2.2.2.1, cell_belowX b8 h.2.2.2.2.1, h.2.2.2.2.2.trans (b8.mono h.2.2.2.2.2.size)⟩
      have i0 := geI i
      have i1 := ltI hlt
      have wi := wrapI i (by have := hm.hl; omega)
      have HN := mkHid (And.intro q hlt)
      clear hm hne' hnv' q hxy ho q3 c1 c2 hE hin v0' v1' hlt HI
      go_wp2_with fail
      try rw [heo]
      go_region_held3 (fun w' => S18 wr kV kG N (.slice ou nv cu) (.slice (some ⟨eb, eo, none⟩) ne ce) eb eo2 x y w')
        (first | assumption | exact HS.out | go_keep)
        (first
          | (go_at_call 13; with_reducible refine Calls.mono (HE.out _ (by assumption)) ?_; rintro e w8 ⟨rfl, b8⟩; have hS8 := HX.out _ w8 (by assumption) b8))
      rename_i hHeld
      have HB8 := mkHid (HN.out.1.below hHeld.2.2.2.2.2)
      go_wp2_with fail
      exact ⟨⟨i + 1, by first | rfl | (rw [wi]; rfl), HN.out.2, HB8⟩, by first | exact measI _ _ HN.out.2 | (rw [wi]; exact measI _ _ HN.out.2)⟩
    · have i1 := nltI hlt
      have HZ := mkHid (And.intro q hm)
      clear hm hne' hnv' q hlt HI hi H0
      go_wp2_with fail
      exact HK1.out _ _ (gt20 W wr HZ.out.1 HZ.out.2)
end Go.Proofs.Ytibhjkmbbfgnpaa
