/- GraphLeast: from region 27 on. -/
import Derived.Test.YtagfkgedfjlnkaaGlR
import Derived.Deep.RegionLaw
namespace Go.Proofs.Ytagfkgedfjlnkaa
open Go.RowKit GM Gl
/-- A call of edge within a region that draws. -/
theorem step_edge {ops : Array Oper} {o : Oper} {a : Act} {w : World} {K : Act → World → Prop} {Q : Exit → Act → World → Prop} {E : Prop}
    (hg : o.guard = none) (k0 k1 k2 : Nat) (hop : o.op = Op.call { callee := Callee.value (Operand.func 7), args := #[.tmp k0, .tmp k1, .tmp k2], argTypes := #[24, 3, 3] }) (v0 v1 v2 : Value) (h0 : a.eval (.tmp k0) = v0) (h1 : a.eval (.tmp k1) = v1) (h2 : a.eval (.tmp k2) = v2)
    (hc : Calls Try.prog 7 #[v0, v1, v2] w fun e w' => ∃ r, e = .returned r ∧ K (a.put o.dst r) w') :
    if Region.wanted o (yielded ops a.tmps) = true then Oper.wp Try.prog o a w K Q else E := by
  have hw : Region.wanted o (yielded ops a.tmps) = true := by simp [Region.wanted, hg]
  have h0' : a.tmps[k0]?.getD undef = v0 := by simpa [Act.eval] using h0
  have h1' : a.tmps[k1]?.getD undef = v1 := by simpa [Act.eval] using h1
  have h2' : a.tmps[k2]?.getD undef = v2 := by simpa [Act.eval] using h2
  rw [if_pos hw]
  unfold Oper.wp
  simp [execOp, hop, h0', h1', h2', go_sem]
  refine hc.mono ?_
  rintro e w' ⟨r, rfl, h⟩
  exact h
set_option maxRecDepth 100000 in
set_option maxHeartbeats 6400000 in
theorem gl27 (W X : World) (gb rb N : Nat) (dr : Int) (gv rv : Value) (E R : List (Nat × Nat)) (bX : Below W.heap.size W X) (rowg : X.heap[gb]? = some (.cells #[.int .i64 (N : Int), gv] 24 (0, 0))) (hg : El gv (zE E) X) (hE : E.length ≤ 500000) (row : X.heap[rb]? = some (.cells #[.int .i64 (N : Int), rv] 24 (0, 0))) (hv : El rv (zE R) X) (hR : ∀ e ∈ R, e.1 < N ∧ e.2 < N) (hl : R.length ≤ 500000) (hN : N ≤ 1024) (hless : ∀ k a b, R[k]? = some (a, b) → pb (R.take k ++ R.drop (k + 1)) N a b = false) (hsub : ∀ e ∈ R, e ∈ E) {v0 v1 v3 v4 v5 v6 v8 v9 v10 v12 v13 v14 v15 v16 v17 v18 v19 v20 v21 v22 v23 v24 v25 v26 v27 v28 v29 v30 v31 v32 v33 v34 v35 v36 v37 v38 v39 v40 v41 v42 v43 v44 v45 v46 v47 v48 v49 v50 v51 v52 v53 v54 v55 v56 v57 v58 v59 v60 v61 v62 v63 v64 v65 v66 v67 v68 v69 v70 v71 v72 v73 v74 v75 v76 v77 v78 v79 v80 v81 v82 v83 v84 v85 v86 v87 v88 v89 v90 v91 v92 v93 v94 v95 v96 v97 v98 v99 v100 v101 v102 v103 v104 v105 v106 v107 v108 v109 v110 v111 v112 v113 v114 v115 v116 v117 v118 v119 v120 v121 v122 v123 v124 v125 v126 v127 v128 v129 v130 v131 v132 v133 v134 v135 v136 v137 v138 v139 v140 v141 v142 v143 v144 v145 v146 v147 v148 v149 v150 v151 v152 v153 v154 v155 v156 v157 v158 v159 v160 v161 v162 v163 v164 v165 v166 v167 v168 v169 v170 v171 v172 v173 v174 v175 v176 v177 v178 v179 v180 v181 v182 v183 v184 v185 v186 v187 v188 v189 v190 : Value} :
    Code.wp Try.prog (tlF Try.f3 27) (bodyPost Try.prog Try.f3 (fun e w' => e = .returned (.bool true) ∧ Below W.heap.size W w')) ⟨#[v0, v1, .int .i64 dr, v3, v4, v5, v6, .pointer (some ⟨gb, 0, none⟩), v8, v9, v10, .pointer (some ⟨rb, 0, none⟩), v12, v13, v14, v15, v16, v17, v18, v19, v20, v21, v22, v23, v24, v25, v26, v27, v28, v29, v30, v31, v32, v33, v34, v35, v36, v37, v38, v39, v40, v41, v42, v43, v44, v45, v46, v47, v48, v49, v50, v51, v52, v53, v54, v55, v56, v57, v58, v59, v60, v61, v62, v63, v64, v65, v66, v67, v68, v69, v70, v71, v72, v73, v74, v75, v76, v77, v78, v79, v80, v81, v82, v83, v84, v85, v86, v87, v88, v89, v90, v91, v92, v93, v94, v95, v96, v97, v98, v99, v100, v101, v102, v103, v104, v105, v106, v107, v108, v109, v110, v111, v112, v113, v114, v115, v116, v117, v118, v119, v120, v121, v122, v123, v124, v125, v126, v127, v128, v129, v130, v131, v132, v133, v134, v135, v136, v137, v138, v139, v140, v141, v142, v143, v144, v145, v146, v147, v148, v149, v150, v151, v152, v153, v154, v155, v156, v157, v158, v159, v160, v161, v162, v163, v164, v165, v166, v167, v168, v169, v170, v171, v172, v173, v174, v175, v176, v177, v178, v179, v180, v181, v182, v183, v184, v185, v186, v187, v188, v189, v190], []⟩ X := by
  obtain ⟨o', c', hvf, -, ho⟩ := hv.form
  rw [zE_len] at hvf ho
  subst hvf
  obtain ⟨og, cg, hgf, -, -⟩ := hg.form
  rw [zE_len] at hgf
  subst hgf
  obtain ⟨m, hm⟩ : ∃ m, R.length = m := ⟨_, rfl⟩
  rw [hm] at ho row hv
  obtain ⟨mg, hmg⟩ : ∃ m, E.length = m := ⟨_, rfl⟩
  rw [hmg] at rowg hg
  have HH : Hid (Below W.heap.size W X ∧ X.heap[gb]? = some (.cells #[.int .i64 (N : Int), .slice og mg cg] 24 (0, 0)) ∧ El (.slice og mg cg) (zE E) X ∧ E.length ≤ 500000 ∧ X.heap[rb]? = some (.cells #[.int .i64 (N : Int), .slice o' m c'] 24 (0, 0)) ∧ El (.slice o' m c') (zE R) X ∧ (∀ e ∈ R, e.1 < N ∧ e.2 < N) ∧ R.length ≤ 500000 ∧ N ≤ 1024 ∧ (∀ k a b, R[k]? = some (a, b) → pb (R.take k ++ R.drop (k + 1)) N a b = false) ∧ (∀ e ∈ R, e ∈ E) ∧ R.length = m) := ⟨bX, rowg, hg, hE, row, hv, hR, hl, hN, hless, hsub, hm⟩
  have HO : Hid (0 < m → ∃ b off, o' = some ⟨b, off, none⟩ ∧ b < X.heap.size ∧ ∀ j, j < m → X.cell? ⟨b, off + j * 2, none⟩ = some (.int .i64 ((zE R).getD j (0, 0)).1) ∧ X.cell? ⟨b, off + j * 2 + 1, none⟩ = some (.int .i64 ((zE R).getD j (0, 0)).2)) := ho
  clear bX rowg hg hE row hv hR hl hN hless hsub hm ho hmg
  conv => arg 2; whnf
  refine wp_seq_k ?_
  intro K hK
  have HK2 : Hid (∀ q w, Code.wp Try.prog (tlF Try.f3 32) (bodyPost Try.prog Try.f3 (fun e w' => e = .returned (.bool true) ∧ Below W.heap.size W w')) q w → K q w) := hK
  clear hK
  go_wp2_with fail
  go_loopw [17] (fun iv wr => ∃ (i : Nat), iv = .int .i64 (i : Int) ∧ Hid (i ≤ m ∧ Below X.heap.size X wr)) (fun iv _ => m + 1 - (intOf iv).toNat)
  case atStart => exact ⟨0, rfl, Nat.zero_le _, Below.refl _ X⟩
  case round =>
    obtain ⟨i, rfl, HI⟩ := hrel
    obtain ⟨hi, bw⟩ := HI.out
    obtain ⟨s1, s2, s3, s4, s5, s6, s7, s8, s9, s10, s11, s12⟩ := HH.out
    have rwg := (bw.block gb (Array.getElem?_eq_some_iff.1 s2).1).trans s2
    have rwr := (bw.block rb (Array.getElem?_eq_some_iff.1 s5).1).trans s5
    have g0 : wr.cell? ⟨gb, 0, none⟩ = some (.int .i64 (N : Int)) := (cell_of_row _ _ _ _ _ _ rwg).trans rfl
    have g1 : wr.cell? ⟨gb, 1, none⟩ = some (.slice og mg cg) := (cell_of_row _ _ _ _ _ _ rwg).trans rfl
    have r1 : wr.cell? ⟨rb, 1, none⟩ = some (.slice o' m c') := (cell_of_row _ _ _ _ _ _ rwr).trans rfl
    by_cases h1 : i < m
    · obtain ⟨eb, eo, rfl, q2, q3⟩ := HO.out (Nat.lt_of_le_of_lt (Nat.zero_le _) h1)
      obtain ⟨a, b, hab⟩ : ∃ a b, R[i]? = some (a, b) := ⟨_, _, List.getElem?_eq_getElem (by rw [s12]; exact h1)⟩
      obtain ⟨z1, z2⟩ := q3 i h1
      rw [zE_get R i a b hab] at z1 z2
      have c1 : wr.cell? ⟨eb, eo + i * 2, none⟩ = some (.int .i64 (a : Int)) := (World.cell?_of_block (w := X) (bw.block eb q2)).trans z1
      have c2 : wr.cell? ⟨eb, eo + i * 2 + 1, none⟩ = some (.int .i64 (b : Int)) := (World.cell?_of_block (w := X) (bw.block eb q2)).trans z2
      have bd : Below X.heap.size X wr.drew := ⟨bw.os, bw.tape, bw.output, bw.size, bw.block⟩
      have CE : Hid (Calls Try.prog 7 #[.agg #[.int .i64 (N : Int), .slice og mg cg], .int .i64 (a : Int), .int .i64 (b : Int)] wr.drew fun e w' => e = .returned (.bool true) ∧ Below X.heap.size X w') := by
        have := edge_any (N : Int) E (Nat.le_trans s4 (by decide)) (.slice og mg cg) wr.drew (s3.below bd) a b
        rw [decide_eq_true (s11 _ (List.mem_of_getElem? hab))] at this
        exact this.mono fun e w' ⟨h1, h2⟩ => ⟨h1, bd.trans (h2.mono bd.size)⟩
      have i0 := geI i
      have i1 := ltI h1
      have wi := kwI i (Nat.le_trans (Nat.le_of_lt h1) (s12 ▸ s8))
      rw [castS] at wi
      have HI1 : Hid (i < m) := h1
      clear hi bw HI s1 s2 s3 s4 s5 s6 s7 s8 s9 s10 s11 s12 rwg rwr q2 q3 hab z1 z2 bd h1
      go_wp2_with fail
      go_region_law (refine step_edge rfl 130 136 142 rfl (.agg #[.int .i64 (N : Int), .slice og mg cg]) (.int .i64 (a : Int)) (.int .i64 (b : Int)) (by simp [Act.eval]) (by simp [Act.eval]) (by simp [Act.eval]) ?_; refine Calls.mono CE.out ?_; rintro en Y ⟨rfl, bY⟩; have HY : Hid (Below X.heap.size X Y) := bY; clear bY; refine ⟨_, rfl, ?_⟩)
      all_goals go_wp2_with fail
      all_goals go_roundw
      all_goals first
        | exact ⟨i + 1, by go_num, HI1.out, HY.out⟩
        | exact measE m i HI1.out
        | (rw [wi]; exact measE m i HI1.out)
    · have i1 : ¬ ((i : Int) < (m : Int)) := fun q => h1 (Int.ofNat_lt.1 q)
      have HE : Hid (Below X.heap.size X wr) := bw
      clear hi bw HI s1 s2 s3 s4 s5 s6 s7 s8 s9 s10 s11 s12 rwg rwr h1
      go_wp2_with fail
      have bw := HE.out
      obtain ⟨s1, s2, s3, s4, s5, s6, s7, s8, s9, s10, s11, s12⟩ := HH.out
      exact HK2.out _ _ (gl32 W wr rb N dr _ R (s1.trans (bw.mono s1.size)) ((bw.block rb (Array.getElem?_eq_some_iff.1 s5).1).trans s5) (s6.below bw) s7 s8 s9 s10)
end Go.Proofs.Ytagfkgedfjlnkaa
