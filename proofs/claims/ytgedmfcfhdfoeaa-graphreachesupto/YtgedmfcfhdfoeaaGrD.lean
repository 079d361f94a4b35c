/- GraphReaches: the law from region 5 on: Close, and what Each goes over. -/
import Derived.Test.YtgedmfcfhdfoeaaGrC
namespace Go.Proofs.Ytgedmfcfhdfoeaa
open Go.RowKit GM Gux
set_option maxRecDepth 20000
attribute [local go_sem] Oper.semAt_some
attribute [local go_sem ↓] toSlZ
set_option maxRecDepth 100000 in
set_option maxHeartbeats 6400000 in
theorem lr5 (W X : World) {N : Int} {E : List (Int × Int)} {l : List Int} {v rv : Value} {g0 g cap bO cO kP kR kH : Nat} {a b : Int}
    (hw : Lr N E l v rv g0 g cap bO cO kP kR kH W X) {v0 v5 v6 v7 v12 v13 v14 v15 v16 v17 v18 v19 v20 v21 v22 v23 v24 v25 v26 v27 v28 v29 v30 v31 v32 v33 v34 v35 v36 v37 v38 v39 v40 v41 v42 v43 v44 v45 v46 v47 v48 v49 v50 v51 v52 v53 v54 v55 v56 v57 v58 v59 v60 v61 v62 v63 v64 v65 v66 v67 v68 v69 v70 v71 v72 v73 v74 v75 v76 v77 v78 v79 v80 v81 v82 v83 v84 v85 v86 v87 v88 v89 v90 v91 v92 v93 v94 v95 v96 v97 v98 v99 v100 v101 v102 v103 v104 v105 v106 v107 v108 v109 v110 v111 v112 v113 v114 v115 v116 v117 v118 v119 v120 v121 v122 v123 v124 v125 v126 v127 v128 v129 v130 v131 v132 v133 v134 v135 v136 v137 v138 v139 v140 v141 v142 v143 v144 v145 v146 v147 v148 v149 v150 v151 v152 v153 v154 v155 v156 v157 v158 v159 v160 v161 v162 v163 v164 v165 v166 v167 v168 v169 v170 : Value} :
    Code.wp Try.prog (tlF Try.f4 5) (bodyPostM Fence.wide 9 Try.prog Try.f4 (fun e w' => e = .returned (.bool true) ∧ Below W.heap.size W w')) ⟨#[v0, rv, .int .i64 a, .int .i64 b, .pointer (some ⟨kP, 0, none⟩), v5, v6, v7, .pointer (some ⟨kR, 0, none⟩), .slice (some ⟨g, 0, none⟩) (E.length + 1) cap, .pointer (some ⟨kH, 0, none⟩), .slice (some ⟨bO, 0, none⟩) (l.length + 1) cO, v12, v13, v14, v15, v16, v17, v18, v19, v20, v21, v22, v23, v24, v25, v26, v27, v28, v29, v30, v31, v32, v33, v34, v35, v36, v37, v38, v39, v40, v41, v42, v43, v44, v45, v46, v47, v48, v49, v50, v51, v52, v53, v54, v55, v56, v57, v58, v59, v60, v61, v62, v63, v64, v65, v66, v67, v68, v69, v70, v71, v72, v73, v74, v75, v76, v77, v78, v79, v80, v81, v82, v83, v84, v85, v86, v87, v88, v89, v90, v91, v92, v93, v94, v95, v96, v97, v98, v99, v100, v101, v102, v103, v104, v105, v106, v107, v108, v109, v110, v111, v112, v113, v114, v115, v116, v117, v118, v119, v120, v121, v122, v123, v124, v125, v126, v127, v128, v129, v130, v131, v132, v133, v134, v135, v136, v137, v138, v139, v140, v141, v142, v143, v144, v145, v146, v147, v148, v149, v150, v151, v152, v153, v154, v155, v156, v157, v158, v159, v160, v161, v162, v163, v164, v165, v166, v167, v168, v169, v170], []⟩ X := by
  obtain ⟨oR, cR, rfl, -⟩ := id hw.ia
  have hd := hw.below (below_drew1 X)
  have CL := closeC_all N E l _ _ X.drew hd.half hd.mine hd.hl
  have g1 : X.drew.cell? ⟨kH, 0, none⟩ = some (.int .i64 N) := hd.cells.2.2.1
  have g2 : X.drew.cell? ⟨kH, 1, none⟩ = some (.slice (some ⟨g, 0, none⟩) E.length cap) := hd.cells.2.2.2.1
  have ch := fun Z : World => run_cutZ Z bO 0 (l.length + 1) cO l.length (by have := hw.hcO; omega)
  have HS1 : Hid (∀ w8, Below X.drew.heap.size X.drew w8 → (w8.cell? ⟨kH, 0, none⟩ = some (.int .i64 N) ∧ w8.cell? ⟨kH, 1, none⟩ = some (.slice (some ⟨g, 0, none⟩) E.length cap))) := fun w8 h8 => ⟨cell_belowX h8 g1, cell_belowX h8 g2⟩
  have HW := mkHid hw
  unfold grV at CL
  clear hw hd
  conv => arg 2; whnf
  go_upto_region 5 with fail
  go_region_held3 (fun w' => w'.cell? ⟨kH, 0, none⟩ = some (.int .i64 N) ∧ w'.cell? ⟨kH, 1, none⟩ = some (.slice (some ⟨g, 0, none⟩) E.length cap))
    (first | assumption | exact ⟨g1, g2⟩ | go_keep)
    (first
      | (go_at_call 14; with_reducible refine Calls.mono CL ?_; intro e w8 hC8; obtain ⟨L1, e0, o1, m1, c1, ga, rfl, hI8, b8, hV8⟩ := cl_il hC8; have hS8 := HS1.out w8 b8))
  have b08 : Below X.heap.size X w8 := (below_drew1 X).trans (b8.mono (below_drew1 X).size)
  have HB8 := mkHid (And.intro b08 (And.intro hI8 hV8))
  have L8 := HW.out.below b08
  obtain ⟨p0, p1, p2, p3, p4, p5⟩ := L8.cells
  have C2 := closeR_any N E l _ _ w8 L8.el L8.ia (by have := L8.hl; omega)
  unfold grV at C2
  clear hI8 b8 hV8 hS8 HS1 CL g1 g2 hC8 b08 L8
  rename_i hHeld
  clear hHeld
  go_wp2_with fail
  refine C2.mono ?_
  intro e w9 h9
  obtain ⟨L2, e2, o2, m2, c2, gb, rfl, hI9, b9, hV9⟩ := cl_il h9
  obtain ⟨rfl, rfl⟩ := clv_uniq HB8.out.2.2 hV9
  have b09 : Below X.heap.size X w9 := HB8.out.1.trans (b9.mono HB8.out.1.size)
  have C3 := sameZ_any w9 (nat_ia (HB8.out.2.1.belowX b9)) (nat_ia hI9) (by rw [List.length_map]; exact clv_short hV9)
  have HB9 := mkHid b09
  clear C2 h9 hI9 b9 hV9 b09 p0 p1 p2 p3 p4 p5
  go_wp2_with fail
  refine C3.mono ?_
  rintro e w10 ⟨rfl, q10, hw10⟩
  have b10 : Below w9.heap.size w9 w10 := by rw [hw10]; exact below_drewN w9 q10
  have HB10 := mkHid (HB9.out.trans (b10.mono HB9.out.size))
  have L10 := HW.out.below HB10.out
  obtain ⟨p0, p1, p2, p3, p4, p5⟩ := L10.cells
  have C4 := listed_any N E l _ _ w10 L10.el L10.ia (by have := L10.hl; omega)
  unfold grV at C4
  clear C3 b10 hw10 L10
  go_wp2_with fail
  refine C4.mono ?_
  intro e w11 h11
  obtain ⟨L, e3, on, od, m, cn, cd, rfl, hm, hL, b11, q1, q2⟩ := ls_liv h11
  obtain ⟨ga', hI1, -⟩ := own_il q1
  obtain ⟨gb', hI2, -⟩ := own_il q2
  obtain ⟨k16, hk16⟩ : ∃ k, w11.heap.size = k := ⟨_, rfl⟩
  obtain ⟨Y, hY⟩ : ∃ Y, (w11.alloc (.cells #[.slice on m cn] 32)).alloc (.cells #[.slice od m cd] 32) = Y := ⟨_, rfl⟩
  have bY : Below w11.heap.size w11 Y := by rw [← hY]; exact ((Below.refl _ w11).alloc (Nat.le_refl _) _).alloc (by simp) _
  have y16 : Y.heap[k16]? = some (.cells #[.slice on m cn] 32 (0, 0)) := by rw [← hY, ← hk16]; exact heap_alloc2_old _ _ _
  have y17 : Y.heap[k16 + 1]? = some (.cells #[.slice od m cd] 32 (0, 0)) := by rw [← hY, ← hk16]; exact heap_alloc2_new _ _ _
  have bXY := HB10.out.trans ((b11.trans (bY.mono b11.size)).mono HB10.out.size)
  have HY := mkHid (And.intro bXY (And.intro y16 (And.intro y17 (And.intro (hI1.belowX bY) (And.intro (hI2.belowX bY) (And.intro hm hL))))))
  have HYY := mkHid hY
  clear C4 h11 b11 q1 q2 hI1 hI2 hY bY y16 y17 bXY hm hL p0 p1 p2 p3 p4 p5
  rename_i Q0 K1 hk1 K0 hk0
  have HK1 := mkHid hk1
  clear hk1
  dsimp only
  go_wp2_with fail
  rw [HYY.out]
  obtain ⟨bXY, y16, y17, hI1, hI2, hm, hL⟩ := HY.out
  refine HK1.out _ _ ?_
  exact lr10 W Y (HW.out.below bXY) y16 y17 hI1 hI2 hm hL
end Go.Proofs.Ytgedmfcfhdfoeaa
