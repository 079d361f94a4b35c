/- GraphLeast: from region 14 on. -/
import Derived.Test.YtagfkgedfjlnkaaGlT
import Derived.Test.YtagfkgedfjlnkaaGlU0
namespace Go.Proofs.Ytagfkgedfjlnkaa
open Go.RowKit GM Gl
theorem zzI {a b : Nat} (h : a = 0 ↔ b = 0) : ((a : Int) == 0) = ((b : Int) == 0) := by
  by_cases q : b = 0
  · have := h.2 q
    subst q this
    rfl
  · have r : ¬ a = 0 := fun z => q (h.1 z)
    rw [beq_eq_false_iff_ne.2 (show (a : Int) ≠ 0 by omega), beq_eq_false_iff_ne.2 (show (b : Int) ≠ 0 by omega)]
set_option maxRecDepth 100000 in
set_option maxHeartbeats 6400000 in
theorem gl14 (W X : World) (gb N : Nat) (dr : Int) (gv : Value) (E : List (Nat × Nat)) (bX : Below W.heap.size W X) (rowg : X.heap[gb]? = some (.cells #[.int .i64 (N : Int), gv] 24 (0, 0))) (hg : El gv (zE E) X) (hE : E.length ≤ 400) (hN : N ≤ 60) (hd : Dn N E) {v0 v1 v3 v4 v5 v6 v8 v9 v10 v11 v12 v13 v14 v15 v16 v17 v18 v19 v20 v21 v22 v23 v24 v25 v26 v27 v28 v29 v30 v31 v32 v33 v34 v35 v36 v37 v38 v39 v40 v41 v42 v43 v44 v45 v46 v47 v48 v49 v50 v51 v52 v53 v54 v55 v56 v57 v58 v59 v60 v61 v62 v63 v64 v65 v66 v67 v68 v69 v70 v71 v72 v73 v74 v75 v76 v77 v78 v79 v80 v81 v82 v83 v84 v85 v86 v87 v88 v89 v90 v91 v92 v93 v94 v95 v96 v97 v98 v99 v100 v101 v102 v103 v104 v105 v106 v107 v108 v109 v110 v111 v112 v113 v114 v115 v116 v117 v118 v119 v120 v121 v122 v123 v124 v125 v126 v127 v128 v129 v130 v131 v132 v133 v134 v135 v136 v137 v138 v139 v140 v141 v142 v143 v144 v145 v146 v147 v148 v149 v150 v151 v152 v153 v154 v155 v156 v157 v158 v159 v160 v161 v162 v163 v164 v165 v166 v167 v168 v169 v170 v171 v172 v173 v174 v175 v176 v177 v178 v179 v180 v181 v182 v183 v184 v185 v186 v187 v188 v189 v190 : Value} :
    Code.wp Try.prog (tlF Try.f3 14) (bodyPost Try.prog Try.f3 (fun e w' => e = .returned (.bool true) ∧ Below W.heap.size W w')) ⟨#[v0, v1, .int .i64 dr, v3, v4, v5, v6, .pointer (some ⟨gb, 0, none⟩), v8, v9, v10, v11, v12, v13, v14, v15, v16, v17, v18, v19, v20, v21, v22, v23, v24, v25, v26, v27, v28, v29, v30, v31, v32, v33, v34, v35, v36, v37, v38, v39, v40, v41, v42, v43, v44, v45, v46, v47, v48, v49, v50, v51, v52, v53, v54, v55, v56, v57, v58, v59, v60, v61, v62, v63, v64, v65, v66, v67, v68, v69, v70, v71, v72, v73, v74, v75, v76, v77, v78, v79, v80, v81, v82, v83, v84, v85, v86, v87, v88, v89, v90, v91, v92, v93, v94, v95, v96, v97, v98, v99, v100, v101, v102, v103, v104, v105, v106, v107, v108, v109, v110, v111, v112, v113, v114, v115, v116, v117, v118, v119, v120, v121, v122, v123, v124, v125, v126, v127, v128, v129, v130, v131, v132, v133, v134, v135, v136, v137, v138, v139, v140, v141, v142, v143, v144, v145, v146, v147, v148, v149, v150, v151, v152, v153, v154, v155, v156, v157, v158, v159, v160, v161, v162, v163, v164, v165, v166, v167, v168, v169, v170, v171, v172, v173, v174, v175, v176, v177, v178, v179, v180, v181, v182, v183, v184, v185, v186, v187, v188, v189, v190], []⟩ X := by
  obtain ⟨og, cg, hgf, -, -⟩ := hg.form
  rw [zE_len] at hgf
  subst hgf
  obtain ⟨mg, hmg⟩ : ∃ m, E.length = m := ⟨_, rfl⟩
  rw [hmg] at rowg hg
  have g0 : X.cell? ⟨gb, 0, none⟩ = some (.int .i64 (N : Int)) := (cell_of_row _ _ _ _ _ _ rowg).trans rfl
  have g1 : X.cell? ⟨gb, 1, none⟩ = some (.slice og mg cg) := (cell_of_row _ _ _ _ _ _ rowg).trans rfl
  have hN2 : N ≤ 1024 := Nat.le_trans hN (by decide)
  have hE2 : E.length ≤ 1000000 := Nat.le_trans hE (by decide)
  have hd2 : ∀ e ∈ E, e.1 < N ∧ e.2 < N := fun e he => ⟨(hd e he).2, Nat.lt_trans (hd e he).1 (hd e he).2⟩
  have CR : Hid (Calls Try.prog 5 #[.agg #[.int .i64 (N : Int), .slice og mg cg]] X fun e w' => ∃ u, e = .returned (.tuple #[grV (N : Int) u, .int .i64 0]) ∧ El u (zE (rdE N E)) w' ∧ Below X.heap.size X w') := reduce_any N hN2 E hd hE2 _ X hg
  have HH : Hid (Below W.heap.size W X ∧ X.heap[gb]? = some (.cells #[.int .i64 (N : Int), .slice og mg cg] 24 (0, 0)) ∧ El (.slice og mg cg) (zE E) X ∧ E.length ≤ 400 ∧ N ≤ 60 ∧ Dn N E ∧ N ≤ 1024 ∧ E.length ≤ 1000000 ∧ (∀ e ∈ E, e.1 < N ∧ e.2 < N) ∧ E.length = mg) := ⟨bX, rowg, hg, hE, hN, hd, hN2, hE2, hd2, hmg⟩
  clear bX rowg hg hE hN hd hN2 hE2 hd2 hmg
  conv => arg 2; whnf
  go_wp2_with fail
  with_reducible refine Calls.mono CR.out ?_
  rintro en Y ⟨u, rfl, eu, bY⟩
  obtain ⟨ou, cu, huf, -, -⟩ := eu.form
  rw [zE_len] at huf
  subst huf
  obtain ⟨mr, hmr⟩ : ∃ m, (rdE N E).length = m := ⟨_, rfl⟩
  rw [hmr] at eu ⊢
  unfold grV
  obtain ⟨Y1, hY1⟩ : ∃ Y1, Y.alloc (.cells #[.int .i64 (N : Int), .slice ou mr cu] 24) = Y1 := ⟨_, rfl⟩
  obtain ⟨s1, s2, s3, s4, s5, s6, s7, s8, s9, s10⟩ := HH.out
  have bY1 : Below Y.heap.size Y Y1 := by rw [← hY1]; exact (Below.refl _ Y).alloc (Nat.le_refl _) _
  have bX1 : Below X.heap.size X Y1 := bY.trans (bY1.mono bY.size)
  have rwr : Y1.heap[Y.heap.size]? = some (.cells #[.int .i64 (N : Int), .slice ou mr cu] 24 (0, 0)) := by rw [← hY1]; exact heap_alloc_new _ _
  have rwg := (bX1.block gb (Array.getElem?_eq_some_iff.1 s2).1).trans s2
  have h0 : Y1.cell? ⟨gb, 0, none⟩ = some (.int .i64 (N : Int)) := (cell_of_row _ _ _ _ _ _ rwg).trans rfl
  have h1 : Y1.cell? ⟨gb, 1, none⟩ = some (.slice og mg cg) := (cell_of_row _ _ _ _ _ _ rwg).trans rfl
  have h2 : Y1.cell? ⟨Y.heap.size, 0, none⟩ = some (.int .i64 (N : Int)) := (cell_of_row _ _ _ _ _ _ rwr).trans rfl
  have h3 : Y1.cell? ⟨Y.heap.size, 1, none⟩ = some (.slice ou mr cu) := (cell_of_row _ _ _ _ _ _ rwr).trans rfl
  have hz : (mr = 0) ↔ (mg = 0) := by rw [← hmr, ← s10]; exact rd_nil s6
  have zz : ((mr : Int) == 0) = ((mg : Int) == 0) := zzI hz
  have HR : Hid (Below X.heap.size X Y1 ∧ Y1.heap[Y.heap.size]? = some (.cells #[.int .i64 (N : Int), .slice ou mr cu] 24 (0, 0)) ∧ El (.slice ou mr cu) (zE (rdE N E)) Y1) := ⟨bX1, rwr, eu.below bY1⟩
  have CX : Hid (Calls Try.prog 6 #[.agg #[.int .i64 (N : Int), .slice og mg cg]] Y1 fun e w' => ∃ gM C, e = .returned (.slice (some ⟨gM, 0, none⟩) N N) ∧ Mx Y1 C gM N N (pb E N) w') := leads_any N s7 E s9 s8 _ Y1 (s3.below bX1)
  clear s1 s2 s3 s4 s5 s6 s7 s8 s9 s10 eu bY bY1 bX1 rwr rwg hmr hz g0 g1
  obtain ⟨rb, hrb⟩ : ∃ k, Y.heap.size = k := ⟨_, rfl⟩
  rw [hrb] at h2 h3 HR
  go_wp2_with fail
  with_reducible refine Calls.mono CX.out ?_
  rintro en Y2 ⟨gx, C2, rfl, mx⟩
  obtain ⟨s1, s2, s3, s4, s5, s6, s7, s8, s9, s10⟩ := HH.out
  have bY2 : Below X.heap.size X Y2 := HR.out.1.trans (mx.bel.mono HR.out.1.size)
  have rwr := (mx.bel.block rb (Array.getElem?_eq_some_iff.1 HR.out.2.1).1).trans HR.out.2.1
  have k2 : Y2.cell? ⟨rb, 0, none⟩ = some (.int .i64 (N : Int)) := (cell_of_row _ _ _ _ _ _ rwr).trans rfl
  have k3 : Y2.cell? ⟨rb, 1, none⟩ = some (.slice ou mr cu) := (cell_of_row _ _ _ _ _ _ rwr).trans rfl
  have er : El (.slice ou mr cu) (zE (rdE N E)) Y2 := HR.out.2.2.below mx.bel
  have CY : Hid (Calls Try.prog 6 #[.agg #[.int .i64 (N : Int), .slice ou mr cu]] Y2 fun e w' => ∃ gM C, e = .returned (.slice (some ⟨gM, 0, none⟩) N N) ∧ Mx Y2 C gM N N (pb (rdE N E) N) w') := leads_any N s7 (rdE N E) (rd_lt s6) (Nat.le_trans (rd_len s6 s5) (by decide)) _ Y2 er
  have H2 : Hid (Below X.heap.size X Y2 ∧ Y2.heap[rb]? = some (.cells #[.int .i64 (N : Int), .slice ou mr cu] 24 (0, 0)) ∧ El (.slice ou mr cu) (zE (rdE N E)) Y2 ∧ Mx Y1 C2 gx N N (pb E N) Y2) := ⟨bY2, rwr, er, mx⟩
  clear s1 s2 s3 s4 s5 s6 s7 s8 s9 s10 bY2 rwr er mx h0 h1 h2 h3 zz
  go_upto_region 18 with fail
  rename_i K2 hk2
  have HK2 : Hid (∀ q w, Code.wp Try.prog (tlF Try.f3 19) (bodyPost Try.prog Try.f3 (fun e w' => e = .returned (.bool true) ∧ Below W.heap.size W w')) q w → K2 q w) := hk2
  clear hk2
  go_wp2_with fail
  with_reducible refine Calls.mono CY.out ?_
  rintro en Y3 ⟨gy, C3, rfl, my⟩
  have H3 : Hid (Mx Y2 C3 gy N N (pb (rdE N E) N) Y3) := my
  clear my
  go_wp2_with fail
  obtain ⟨s1, s2, s3, s4, s5, s6, s7, s8, s9, s10⟩ := HH.out
  obtain ⟨t1, t2, t3, t4⟩ := H2.out
  have my := H3.out
  have b3 : Below X.heap.size X Y3 := t1.trans (my.bel.mono t1.size)
  refine HK2.out _ _ (gl19 W Y3 gb rb N gx gy (pb E N) dr _ _ E (rdE N E) (s1.trans (b3.mono s1.size)) ((b3.block gb (Array.getElem?_eq_some_iff.1 s2).1).trans s2) (s3.below b3) (Nat.le_trans s4 (by decide)) ((my.bel.block rb (Array.getElem?_eq_some_iff.1 t2).1).trans t2) (t3.below my.bel) (rd_lt s6) (rd_len s6 s5) s7 (rd_less s6) (rd_sub s6) (fun a b ha hb => ?_) (fun a b ha hb => ?_))
  · have q1 := t4.at a ha (Nat.le_refl _)
    have q2 := (t4.get a b ha hb).1
    exact ⟨(World.cell?_of_block (w := Y2) (my.bel.block gx (World.block_lt_of_cell? Y2 ⟨gx, a, none⟩ q1))).trans q1, (World.cell?_of_block (w := Y2) (my.bel.block _ (World.block_lt_of_cell? Y2 ⟨gx + 1 + a, b, none⟩ q2))).trans q2⟩
  · refine ⟨my.at a ha (Nat.le_refl _), ?_⟩
    rw [(my.get a b ha hb).1, rd_same s6]
end Go.Proofs.Ytagfkgedfjlnkaa
