/- GraphLeast: from region 19 on. -/
import Derived.Test.YtagfkgedfjlnkaaGlS
namespace Go.Proofs.Ytagfkgedfjlnkaa
open Go.RowKit GM Gl
theorem wkI (k : Nat) (h : k ≤ 500000) : wrap64 ((k : Int) + 1) = (k : Int) + 1 := by unfold wrap64; omega
theorem bel_drewN {B : Nat} {a w : World} (h : Below B a w) (n : Nat) : Below B a (w.drewN n) := ⟨h.os, h.tape, h.output, h.size, h.block⟩
set_option maxRecDepth 100000 in
set_option maxHeartbeats 6400000 in
theorem gl19 (W X : World) (gb rb N gx gy : Nat) (P : Nat → Nat → Bool) (dr : Int) (gv rv : Value) (E R : List (Nat × Nat)) (bX : Below W.heap.size W X) (rowg : X.heap[gb]? = some (.cells #[.int .i64 (N : Int), gv] 24 (0, 0))) (hg : El gv (zE E) X) (hE : E.length ≤ 500000) (row : X.heap[rb]? = some (.cells #[.int .i64 (N : Int), rv] 24 (0, 0))) (hv : El rv (zE R) X) (hR : ∀ e ∈ R, e.1 < N ∧ e.2 < N) (hl : R.length ≤ 500000) (hN : N ≤ 1024) (hless : ∀ k a b, R[k]? = some (a, b) → pb (R.take k ++ R.drop (k + 1)) N a b = false) (hsub : ∀ e ∈ R, e ∈ E) (hx : ∀ a b, a < N → b < N → X.cell? ⟨gx, a, none⟩ = some (.slice (some ⟨gx + 1 + a, 0, none⟩) N N) ∧ X.cell? ⟨gx + 1 + a, b, none⟩ = some (.bool (P a b))) (hy : ∀ a b, a < N → b < N → X.cell? ⟨gy, a, none⟩ = some (.slice (some ⟨gy + 1 + a, 0, none⟩) N N) ∧ X.cell? ⟨gy + 1 + a, b, none⟩ = some (.bool (P a b))) {v0 v1 v3 v4 v5 v6 v8 v9 v10 v12 v15 v16 v17 v18 v19 v20 v21 v22 v23 v24 v25 v26 v27 v28 v29 v30 v31 v32 v33 v34 v35 v36 v37 v38 v39 v40 v41 v42 v43 v44 v45 v46 v47 v48 v49 v50 v51 v52 v53 v54 v55 v56 v57 v58 v59 v60 v61 v62 v63 v64 v65 v66 v67 v68 v69 v70 v71 v72 v73 v74 v75 v76 v77 v78 v79 v80 v81 v82 v83 v84 v85 v86 v87 v88 v89 v90 v91 v92 v93 v94 v95 v96 v97 v98 v99 v100 v101 v102 v103 v104 v105 v106 v107 v108 v109 v110 v111 v112 v113 v114 v115 v116 v117 v118 v119 v120 v121 v122 v123 v124 v125 v126 v127 v128 v129 v130 v131 v132 v133 v134 v135 v136 v137 v138 v139 v140 v141 v142 v143 v144 v145 v146 v147 v148 v149 v150 v151 v152 v153 v154 v155 v156 v157 v158 v159 v160 v161 v162 v163 v164 v165 v166 v167 v168 v169 v170 v171 v172 v173 v174 v175 v176 v177 v178 v179 v180 v181 v182 v183 v184 v185 v186 v187 v188 v189 v190 : Value} :
    Code.wp Try.prog (tlF Try.f3 19) (bodyPost Try.prog Try.f3 (fun e w' => e = .returned (.bool true) ∧ Below W.heap.size W w')) ⟨#[v0, v1, .int .i64 dr, v3, v4, v5, v6, .pointer (some ⟨gb, 0, none⟩), v8, v9, v10, .pointer (some ⟨rb, 0, none⟩), v12, .slice (some ⟨gx, 0, none⟩) N N, .slice (some ⟨gy, 0, none⟩) N N, v15, v16, v17, v18, v19, v20, v21, v22, v23, v24, v25, v26, v27, v28, v29, v30, v31, v32, v33, v34, v35, v36, v37, v38, v39, v40, v41, v42, v43, v44, v45, v46, v47, v48, v49, v50, v51, v52, v53, v54, v55, v56, v57, v58, v59, v60, v61, v62, v63, v64, v65, v66, v67, v68, v69, v70, v71, v72, v73, v74, v75, v76, v77, v78, v79, v80, v81, v82, v83, v84, v85, v86, v87, v88, v89, v90, v91, v92, v93, v94, v95, v96, v97, v98, v99, v100, v101, v102, v103, v104, v105, v106, v107, v108, v109, v110, v111, v112, v113, v114, v115, v116, v117, v118, v119, v120, v121, v122, v123, v124, v125, v126, v127, v128, v129, v130, v131, v132, v133, v134, v135, v136, v137, v138, v139, v140, v141, v142, v143, v144, v145, v146, v147, v148, v149, v150, v151, v152, v153, v154, v155, v156, v157, v158, v159, v160, v161, v162, v163, v164, v165, v166, v167, v168, v169, v170, v171, v172, v173, v174, v175, v176, v177, v178, v179, v180, v181, v182, v183, v184, v185, v186, v187, v188, v189, v190], []⟩ X := by
  have g0 : X.cell? ⟨gb, 0, none⟩ = some (.int .i64 (N : Int)) := (cell_of_row _ _ _ _ _ _ rowg).trans rfl
  have HN : Hid (N ≤ 1024) := hN
  have HX : Hid ((∀ a b, a < N → b < N → X.cell? ⟨gx, a, none⟩ = some (.slice (some ⟨gx + 1 + a, 0, none⟩) N N) ∧ X.cell? ⟨gx + 1 + a, b, none⟩ = some (.bool (P a b))) ∧ (∀ a b, a < N → b < N → X.cell? ⟨gy, a, none⟩ = some (.slice (some ⟨gy + 1 + a, 0, none⟩) N N) ∧ X.cell? ⟨gy + 1 + a, b, none⟩ = some (.bool (P a b)))) := ⟨hx, hy⟩
  conv => arg 2; whnf
  refine wp_seq_k ?_
  intro K hK
  have HK2 : Hid (∀ n q, Code.wp Try.prog (tlF Try.f3 27) (bodyPost Try.prog Try.f3 (fun e w' => e = .returned (.bool true) ∧ Below W.heap.size W w')) q (X.drewN n) → K q (X.drewN n)) := fun n q h => hK q _ h
  have HT : Hid (∀ n, Below W.heap.size W (X.drewN n) ∧ (X.drewN n).heap[gb]? = some (.cells #[.int .i64 (N : Int), gv] 24 (0, 0)) ∧ El gv (zE E) (X.drewN n) ∧ (X.drewN n).heap[rb]? = some (.cells #[.int .i64 (N : Int), rv] 24 (0, 0)) ∧ El rv (zE R) (X.drewN n) ∧ E.length ≤ 500000 ∧ (∀ e ∈ R, e.1 < N ∧ e.2 < N) ∧ R.length ≤ 500000 ∧ (∀ k a b, R[k]? = some (a, b) → pb (R.take k ++ R.drop (k + 1)) N a b = false) ∧ (∀ e ∈ R, e ∈ E)) := fun n => ⟨bel_drewN bX n, rowg, hg.below (bel_drewN (Below.refl _ X) n), row, hv.below (bel_drewN (Below.refl _ X) n), hE, hR, hl, hless, hsub⟩
  clear hK bX rowg hg hE row hv hR hl hN hless hsub hx hy
  go_wp2_with fail
  go_loopw [15] (fun iv wr => ∃ (i n : Nat), iv = .int .i64 (i : Int) ∧ wr = X.drewN n ∧ Hid (i ≤ N)) (fun iv _ => N + 1 - (intOf iv).toNat)
  case atStart => exact ⟨0, 0, rfl, rfl, Nat.zero_le _⟩
  case round =>
    obtain ⟨i, n, rfl, rfl, HI⟩ := hrel
    by_cases h1 : i < N
    · have i0 := geI i
      have i1 := ltI h1
      have wi := wkI i (Nat.le_trans (Nat.le_of_lt h1) (Nat.le_trans HN.out (by decide)))
      have HI1 : Hid (i < N) := h1
      clear h1 HI
      go_wp2_with fail
      go_loopw [16] (fun iv wr => ∃ (j n : Nat), iv = .int .i64 (j : Int) ∧ wr = X.drewN n ∧ Hid (j ≤ N)) (fun iv _ => N + 1 - (intOf iv).toNat)
      case atStart => exact ⟨0, n, rfl, rfl, Nat.zero_le _⟩
      case round =>
        obtain ⟨j, n2, rfl, rfl, HJ⟩ := hrel
        by_cases h2 : j < N
        · have j0 := geI j
          have j1 := ltI h2
          have wj := wkI j (Nat.le_trans (Nat.le_of_lt h2) (Nat.le_trans HN.out (by decide)))
          have HJ1 : Hid (j < N) := h2
          obtain ⟨x1, x2⟩ := HX.out.1 i j HI1.out h2
          obtain ⟨y1, y2⟩ := HX.out.2 i j HI1.out h2
          clear h2 HJ
          go_wp2_with fail
          go_quiet (fail)
          go_wp2_with fail
          go_roundw
          · exact ⟨j + 1, _, by go_num, rfl, HJ1.out⟩
          · first
              | exact measE N j HJ1.out
              | (rw [wj]; exact measE N j HJ1.out)
        · have j1 : ¬ ((j : Int) < (N : Int)) := fun q => h2 (Int.ofNat_lt.1 q)
          clear h2 HJ
          go_wp2_with fail
          go_roundw
          · exact ⟨i + 1, _, by go_num, rfl, HI1.out⟩
          · first
              | exact measE N i HI1.out
              | (rw [wi]; exact measE N i HI1.out)
    · have i1 : ¬ ((i : Int) < (N : Int)) := fun q => h1 (Int.ofNat_lt.1 q)
      clear h1 HI
      go_wp2_with fail
      obtain ⟨s1, s2, s3, s4, s5, s6, s7, s8, s9, s10⟩ := HT.out n
      exact HK2.out n _ (gl27 W (X.drewN n) gb rb N dr gv rv E R s1 s2 s3 s6 s4 s5 s7 s8 HN.out s9 s10)
end Go.Proofs.Ytagfkgedfjlnkaa
