/- Recipes: turn, its ifs. -/
import Derived.Test.YtcggaiplepekdaaRcTb
namespace Go.Proofs.Ytcggaiplepekdaa
open Go.RowKit
def TUR : S := ⟨#[116, 117, 114, 110, 101, 100]⟩
def tE (R : Rcp) : Rcp := match R.e[0]? with
  | some p => { R with e := R.e.set 0 (p.1, p.2 ++ TUR) }
  | none => R
theorem sm_tE {R : Rcp} (h : Sm R) : Sm (tE R) := by
  unfold tE
  split
  · unfold Sm at h ⊢
    simpa using h
  · exact h
theorem Tr.drew {W : World} {base rb : Nat} {C : Array Value} {o n s a e l : Value} {us ls : List Value} {R : Rcp} {wr : World} (h : Tr W base rb C o n s a e l us ls R wr) : Tr W base rb C o n s a e l us ls R wr.drew := ⟨⟨h.bel.os, h.bel.tape, h.bel.output, h.bel.size, h.bel.block⟩, h.r0, h.r1, h.rm, h.rl.below (below_drw wr), h.lb⟩
/-- A list's block is written over. -/
theorem Tr.put {W : World} {base rb : Nat} {C : Array Value} {o n s a e l : Value} {us ls : List Value} {R R' : Rcp} {wr : World} (h : Tr W base rb C o n s a e l us ls R wr) {v : Value} {l' : List (Array Value)} {ee sz g k : Nat} {u : Value} (ho : Ol base ee sz wr v l') (hv : v.ownBlock = some g) (h1 : ee ≠ 27) (h2 : ee ≠ 30) (hr : Rl base (wr.setCell ⟨g, k, none⟩ u) o n s a e l us ls R') : Tr W base rb C o n s a e l us ls R' (wr.setCell ⟨g, k, none⟩ u) := by
  obtain ⟨z1, z2, cur, hc⟩ := ho.tag hv
  exact ⟨h.bel.setCell z1 _, (heap_setCell_other _ _ _ _ (by show W.heap.size ≠ g; exact (tag_ne hc h.r0 h1).symm)).trans h.r0, (heap_setCell_other _ _ _ _ (by show W.heap.size + 1 ≠ g; exact (tag_ne hc h.r1 h1).symm)).trans h.r1, (heap_setCell_other _ _ _ _ (by show rb ≠ g; exact (tag_ne hc h.rm h2).symm)).trans h.rm, hr, h.lb⟩
set_option maxRecDepth 100000 in
set_option maxHeartbeats 3200000 in
theorem tail10 (W : World) (base rb : Nat) (ro rn rs ra re : Value) (sys bld : S) (o n s a e l : Value) (us ls : List Value) (R : Rcp) (hs : Sm R) (hz : ∀ p ∈ R.e, p.2.size ≤ 1000000000) (w : World) (h : Tr W base rb (rV ro rn rs sys bld ra re) o n s a e l us ls R w) {v1 v2 v5 v6 v7 v8 v9 v10 v11 v12 v13 v14 v15 v16 v17 v18 v19 v20 v21 v22 v23 v24 v25 v26 v27 v28 v29 v30 v31 v32 v33 v34 v35 v36 v37 v38 v39 v40 v41 v42 v43 v44 v45 v46 v47 v48 v49 v50 v51 v52 v53 v54 v55 v56 v57 v58 v59 v60 v61 v62 v63 v64 v65 v66 v67 v68 v69 v70 v71 v72 v73 v74 v75 v76 v77 v78 v79 v80 v81 v82 v83 v84 v85 v86 v87 v88 v89 v90 v91 v92 v93 v94 v95 v96 v97 v98 v99 v100 v101 v102 v103 v104 v105 v106 v107 v108 v109 v110 v111 v112 v113 v114 v115 v116 v117 v118 v119 v120 v121 v122 v123 v124 v125 v126 v127 v128 v129 v130 v131 v132 v133 v134 v135 v136 v137 v138 v139 v140 v141 v142 v143 v144 v145 v146 v147 v148 v149 v150 v151 v152 v153 v154 v155 v156 v157 v158 v159 v160 v161 v162 v163 v164 v165 v166 v167 v168 v169 v170 v171 v172 v173 v174 v175 v176 v177 v178 v179 v180 v181 v182 v183 v184 v185 v186 v187 v188 v189 v190 v191 v192 v193 v194 v195 v196 v197 v198 v199 v200 v201 v202 : Value} :
    Code.wp Try.prog (tl 10) (bodyPost Try.prog Try.f7 (TuP W base rb sys bld o n s a e l us ls (tE R))) ⟨#[.pointer (some ⟨rb, 0, none⟩), v1, v2, .pointer (some ⟨W.heap.size, 0, none⟩), .pointer (some ⟨W.heap.size + 1, 0, none⟩), v5, v6, v7, v8, v9, v10, v11, v12, v13, v14, v15, v16, v17, v18, v19, v20, v21, v22, v23, v24, v25, v26, v27, v28, v29, v30, v31, v32, v33, v34, v35, v36, v37, v38, v39, v40, v41, v42, v43, v44, v45, v46, v47, v48, v49, v50, v51, v52, v53, v54, v55, v56, v57, v58, v59, v60, v61, v62, v63, v64, v65, v66, v67, v68, v69, v70, v71, v72, v73, v74, v75, v76, v77, v78, v79, v80, v81, v82, v83, v84, v85, v86, v87, v88, v89, v90, v91, v92, v93, v94, v95, v96, v97, v98, v99, v100, v101, v102, v103, v104, v105, v106, v107, v108, v109, v110, v111, v112, v113, v114, v115, v116, v117, v118, v119, v120, v121, v122, v123, v124, v125, v126, v127, v128, v129, v130, v131, v132, v133, v134, v135, v136, v137, v138, v139, v140, v141, v142, v143, v144, v145, v146, v147, v148, v149, v150, v151, v152, v153, v154, v155, v156, v157, v158, v159, v160, v161, v162, v163, v164, v165, v166, v167, v168, v169, v170, v171, v172, v173, v174, v175, v176, v177, v178, v179, v180, v181, v182, v183, v184, v185, v186, v187, v188, v189, v190, v191, v192, v193, v194, v195, v196, v197, v198, v199, v200, v201, v202], []⟩ w := by
  obtain ⟨xe, ce, rfl, -⟩ := h.rl.fe.form
  have el : ((R.e ++ [PEE]).map eR).length = R.e.length + 1 := by simp
  rw [el] at h ⊢
  have HS : Hid (Sm R) := hs
  obtain ⟨N, hN⟩ : ∃ N, R.e.length + 1 = N := ⟨_, rfl⟩
  rw [hN] at h ⊢
  have k4 : w.cell? ⟨rb, 4, none⟩ = some (.slice xe N ce) := c1 h.rm rfl
  cases hq : R.e[0]? with
  | none =>
    have e0 : tE R = R := by unfold tE; rw [hq]
    have hN1 : ¬ ((1 : Int) < (N : Int)) := by
      have := List.getElem?_eq_none_iff.1 hq
      omega
    have HH : Hid _ := h
    rw [e0]
    clear h hs el hN hq e0 hz
    conv => arg 2; whnf
    go_upto_region 10 with fail
    rename_i K2 h2 K1 h1
    have HT : Hid (∀ q w, Code.wp Try.prog (tl 12) (bodyPost Try.prog Try.f7 (TuP W base rb sys bld o n s a (.slice xe N ce) l us ls R)) q w → K2 q w) := h2
    clear h2
    go_wp2_with fail
    exact HT.out _ _ (tail12 W base rb ro rn rs ra re sys bld _ _ _ _ _ _ us ls R HS.out w HH.out)
  | some p =>
    have hi := (List.getElem?_eq_some_iff.1 hq).1
    have e0 : tE R = { R with e := R.e.set 0 (p.1, p.2 ++ TUR) } := by unfold tE; rw [hq]
    have hN1 : (1 : Int) < (N : Int) := by omega
    obtain ⟨g, rfl⟩ := h.rl.fe.own (by omega)
    have hd := h.drew
    have cv : w.drew.cell? ⟨g, 1, none⟩ = some (.string p.2) := hd.rl.fe.cel 0 1 _ _ (get_app eR R.e p PEE 0 hq) rfl
    have fz : w.drew.frozen? ⟨g, 1, none⟩ = false := hd.rl.fe.fro _
    have kd : w.drew.cell? ⟨rb, 4, none⟩ = some (.slice (some ⟨g, 0, none⟩) N ce) := k4
    have HF : Hid (Tr W base rb (rV ro rn rs sys bld ra re) o n s a (.slice (some ⟨g, 0, none⟩) N ce) l us ls (tE R) (w.drew.setCell ⟨g, 1, none⟩ (.string (p.2 ++ TUR)))) := by
      rw [e0]
      exact hd.put hd.rl.fe rfl (by decide) (by decide) (hd.rl.setE (i := 0) (j := 1) (x' := (p.1, p.2 ++ TUR)) hq (by omega) rfl)
    have hN0 : (0 : Int) < (N : Int) := by omega
    obtain ⟨p1, p2⟩ := p
    unfold TUR at HF
    clear h hs el hN e0 hi hd
    have hsz : p2.size ≤ 1000000000 := hz _ (List.mem_of_getElem? hq)
    have h6 : ¬ (9223372036854775807 < p2.size + 6) := by omega
    clear hz hq hsz
    have HS2 : Hid (Sm (tE R)) := sm_tE HS.out
    obtain ⟨Z, hZ⟩ : ∃ Z, w.drew.setCell ⟨g, 1, none⟩ (.string (p2 ++ ⟨#[116, 117, 114, 110, 101, 100]⟩)) = Z := ⟨_, rfl⟩
    rw [hZ] at HF
    conv => arg 2; whnf
    go_upto_region 10 with fail
    rename_i K2 h2 K1 h1
    have HT : Hid (∀ q w, Code.wp Try.prog (tl 12) (bodyPost Try.prog Try.f7 (TuP W base rb sys bld o n s a (.slice (some ⟨g, 0, none⟩) N ce) l us ls (tE R))) q w → K2 q w) := h2
    clear h2
    go_wp2_with fail
    go_region
    go_wp2_with fail
    exact HT.out _ _ (tail12 W base rb ro rn rs ra re sys bld _ _ _ _ _ _ us ls (tE R) HS2.out Z HF.out)
def tA (R : Rcp) : Rcp := match R.a[0]? with
  | some x => { R with a := R.a.set 0 (x ++ TUR) }
  | none => R
theorem sm_tA {R : Rcp} (h : Sm R) : Sm (tA R) := by
  unfold tA
  split
  · unfold Sm at h ⊢
    simpa using h
  · exact h
theorem tA_e (R : Rcp) : (tA R).e = R.e := by unfold tA; split <;> rfl
def tS (R : Rcp) : Rcp := match R.s[0]?, R.s[R.s.length - 1]? with
  | some _, some y => { R with s := R.s.set 0 y }
  | _, _ => R
theorem sm_tS {R : Rcp} (h : Sm R) : Sm (tS R) := by
  unfold tS
  split
  · unfold Sm at h ⊢
    simpa using h
  · exact h
theorem tS_a (R : Rcp) : (tS R).a = R.a ∧ (tS R).e = R.e := by unfold tS; split <;> exact ⟨rfl, rfl⟩
def tN (R : Rcp) : Rcp := match R.n[0]?, R.n[R.n.length - 1]? with
  | some x, some y => { R with n := R.n.set 0 (y.1, x.2) }
  | _, _ => R
theorem sm_tN {R : Rcp} (h : Sm R) : Sm (tN R) := by
  unfold tN
  split
  · rename_i x y h1 h2
    unfold Sm at h ⊢
    refine ⟨h.1, by simpa using h.2.1, h.2.2.1, h.2.2.2.1, h.2.2.2.2.1, fun z hz => ?_⟩
    rcases List.mem_or_eq_of_mem_set hz with q | q
    · exact h.2.2.2.2.2 z q
    · subst q
      exact h.2.2.2.2.2 x (List.mem_of_getElem? h1)
  · exact h
theorem tN_a (R : Rcp) : (tN R).a = R.a ∧ (tN R).e = R.e := by unfold tN; split <;> exact ⟨rfl, rfl⟩
set_option maxRecDepth 100000 in
set_option maxHeartbeats 3200000 in
theorem tail8 (W : World) (base rb : Nat) (ro rn rs ra re : Value) (sys bld : S) (o n s a e l : Value) (us ls : List Value) (R : Rcp) (hs : Sm R) (hz : ∀ p ∈ R.e, p.2.size ≤ 1000000000) (hza : ∀ x ∈ R.a, x.size ≤ 1000000000) (w : World) (h : Tr W base rb (rV ro rn rs sys bld ra re) o n s a e l us ls R w) {v1 v2 v5 v6 v7 v8 v9 v10 v11 v12 v13 v14 v15 v16 v17 v18 v19 v20 v21 v22 v23 v24 v25 v26 v27 v28 v29 v30 v31 v32 v33 v34 v35 v36 v37 v38 v39 v40 v41 v42 v43 v44 v45 v46 v47 v48 v49 v50 v51 v52 v53 v54 v55 v56 v57 v58 v59 v60 v61 v62 v63 v64 v65 v66 v67 v68 v69 v70 v71 v72 v73 v74 v75 v76 v77 v78 v79 v80 v81 v82 v83 v84 v85 v86 v87 v88 v89 v90 v91 v92 v93 v94 v95 v96 v97 v98 v99 v100 v101 v102 v103 v104 v105 v106 v107 v108 v109 v110 v111 v112 v113 v114 v115 v116 v117 v118 v119 v120 v121 v122 v123 v124 v125 v126 v127 v128 v129 v130 v131 v132 v133 v134 v135 v136 v137 v138 v139 v140 v141 v142 v143 v144 v145 v146 v147 v148 v149 v150 v151 v152 v153 v154 v155 v156 v157 v158 v159 v160 v161 v162 v163 v164 v165 v166 v167 v168 v169 v170 v171 v172 v173 v174 v175 v176 v177 v178 v179 v180 v181 v182 v183 v184 v185 v186 v187 v188 v189 v190 v191 v192 v193 v194 v195 v196 v197 v198 v199 v200 v201 v202 : Value} :
    Code.wp Try.prog (tl 8) (bodyPost Try.prog Try.f7 (TuP W base rb sys bld o n s a e l us ls (tE (tA R)))) ⟨#[.pointer (some ⟨rb, 0, none⟩), v1, v2, .pointer (some ⟨W.heap.size, 0, none⟩), .pointer (some ⟨W.heap.size + 1, 0, none⟩), v5, v6, v7, v8, v9, v10, v11, v12, v13, v14, v15, v16, v17, v18, v19, v20, v21, v22, v23, v24, v25, v26, v27, v28, v29, v30, v31, v32, v33, v34, v35, v36, v37, v38, v39, v40, v41, v42, v43, v44, v45, v46, v47, v48, v49, v50, v51, v52, v53, v54, v55, v56, v57, v58, v59, v60, v61, v62, v63, v64, v65, v66, v67, v68, v69, v70, v71, v72, v73, v74, v75, v76, v77, v78, v79, v80, v81, v82, v83, v84, v85, v86, v87, v88, v89, v90, v91, v92, v93, v94, v95, v96, v97, v98, v99, v100, v101, v102, v103, v104, v105, v106, v107, v108, v109, v110, v111, v112, v113, v114, v115, v116, v117, v118, v119, v120, v121, v122, v123, v124, v125, v126, v127, v128, v129, v130, v131, v132, v133, v134, v135, v136, v137, v138, v139, v140, v141, v142, v143, v144, v145, v146, v147, v148, v149, v150, v151, v152, v153, v154, v155, v156, v157, v158, v159, v160, v161, v162, v163, v164, v165, v166, v167, v168, v169, v170, v171, v172, v173, v174, v175, v176, v177, v178, v179, v180, v181, v182, v183, v184, v185, v186, v187, v188, v189, v190, v191, v192, v193, v194, v195, v196, v197, v198, v199, v200, v201, v202], []⟩ w := by
  obtain ⟨xa, ca, rfl, -⟩ := h.rl.fa.form
  have el : ((R.a ++ [BEH]).map sR).length = R.a.length + 1 := by simp
  rw [el] at h ⊢
  have HS : Hid (Sm R ∧ ∀ p ∈ (tA R).e, p.2.size ≤ 1000000000) := ⟨hs, by rw [tA_e]; exact hz⟩
  obtain ⟨N, hN⟩ : ∃ N, R.a.length + 1 = N := ⟨_, rfl⟩
  rw [hN] at h ⊢
  have k4 : w.cell? ⟨rb, 3, none⟩ = some (.slice xa N ca) := c1 h.rm rfl
  cases hq : R.a[0]? with
  | none =>
    have e0 : tA R = R := by unfold tA; rw [hq]
    have hN1 : ¬ ((1 : Int) < (N : Int)) := by
      have := List.getElem?_eq_none_iff.1 hq
      omega
    have HH : Hid _ := h
    rw [e0] at HS ⊢
    clear h hs el hN hq e0 hz hza
    conv => arg 2; whnf
    go_upto_region 8 with fail
    rename_i K2 h2 K1 h1
    have HT : Hid (∀ q w, Code.wp Try.prog (tl 10) (bodyPost Try.prog Try.f7 (TuP W base rb sys bld o n s (.slice xa N ca) e l us ls (tE R))) q w → K2 q w) := h2
    clear h2
    go_wp2_with fail
    exact HT.out _ _ (tail10 W base rb ro rn rs ra re sys bld _ _ _ _ _ _ us ls R HS.out.1 HS.out.2 w HH.out)
  | some x =>
    have hi := (List.getElem?_eq_some_iff.1 hq).1
    have e0 : tA R = { R with a := R.a.set 0 (x ++ TUR) } := by unfold tA; rw [hq]
    have hN1 : (1 : Int) < (N : Int) := by omega
    obtain ⟨g, rfl⟩ := h.rl.fa.own (by omega)
    have hd := h.drew
    have cv : w.drew.cell? ⟨g, 0, none⟩ = some (.string x) := hd.rl.fa.cel 0 0 _ _ (get_app sR R.a x BEH 0 hq) rfl
    have fz : w.drew.frozen? ⟨g, 0, none⟩ = false := hd.rl.fa.fro _
    have kd : w.drew.cell? ⟨rb, 3, none⟩ = some (.slice (some ⟨g, 0, none⟩) N ca) := k4
    have HF : Hid (Tr W base rb (rV ro rn rs sys bld ra re) o n s (.slice (some ⟨g, 0, none⟩) N ca) e l us ls (tA R) (w.drew.setCell ⟨g, 0, none⟩ (.string (x ++ TUR)))) := by
      rw [e0]
      exact hd.put hd.rl.fa rfl (by decide) (by decide) (hd.rl.setA (i := 0) hq)
    have hN0 : (0 : Int) < (N : Int) := by omega
    have hsz : x.size ≤ 1000000000 := hza _ (List.mem_of_getElem? hq)
    have h6 : ¬ (9223372036854775807 < x.size + 6) := by omega
    unfold TUR at HF
    clear h hs el hN e0 hi hd hz hza hq hsz
    have HS2 : Hid (Sm (tA R)) := sm_tA HS.out.1
    obtain ⟨Z, hZ⟩ : ∃ Z, w.drew.setCell ⟨g, 0, none⟩ (.string (x ++ ⟨#[116, 117, 114, 110, 101, 100]⟩)) = Z := ⟨_, rfl⟩
    rw [hZ] at HF
    conv => arg 2; whnf
    go_upto_region 8 with fail
    rename_i K2 h2 K1 h1
    have HT : Hid (∀ q w, Code.wp Try.prog (tl 10) (bodyPost Try.prog Try.f7 (TuP W base rb sys bld o n s (.slice (some ⟨g, 0, none⟩) N ca) e l us ls (tE (tA R)))) q w → K2 q w) := h2
    clear h2
    go_wp2_with fail
    go_region
    go_wp2_with fail
    exact HT.out _ _ (tail10 W base rb ro rn rs ra re sys bld _ _ _ _ _ _ us ls (tA R) HS2.out HS.out.2 Z HF.out)
set_option maxRecDepth 100000 in
set_option maxHeartbeats 3200000 in
theorem tail6 (W : World) (base rb : Nat) (ro rn rs ra re : Value) (sys bld : S) (o n s a e l : Value) (us ls : List Value) (R : Rcp) (hs : Sm R) (hz : ∀ p ∈ R.e, p.2.size ≤ 1000000000) (hza : ∀ x ∈ R.a, x.size ≤ 1000000000) (w : World) (h : Tr W base rb (rV ro rn rs sys bld ra re) o n s a e l us ls R w) {v1 v2 v5 v6 v7 v8 v9 v10 v11 v12 v13 v14 v15 v16 v17 v18 v19 v20 v21 v22 v23 v24 v25 v26 v27 v28 v29 v30 v31 v32 v33 v34 v35 v36 v37 v38 v39 v40 v41 v42 v43 v44 v45 v46 v47 v48 v49 v50 v51 v52 v53 v54 v55 v56 v57 v58 v59 v60 v61 v62 v63 v64 v65 v66 v67 v68 v69 v70 v71 v72 v73 v74 v75 v76 v77 v78 v79 v80 v81 v82 v83 v84 v85 v86 v87 v88 v89 v90 v91 v92 v93 v94 v95 v96 v97 v98 v99 v100 v101 v102 v103 v104 v105 v106 v107 v108 v109 v110 v111 v112 v113 v114 v115 v116 v117 v118 v119 v120 v121 v122 v123 v124 v125 v126 v127 v128 v129 v130 v131 v132 v133 v134 v135 v136 v137 v138 v139 v140 v141 v142 v143 v144 v145 v146 v147 v148 v149 v150 v151 v152 v153 v154 v155 v156 v157 v158 v159 v160 v161 v162 v163 v164 v165 v166 v167 v168 v169 v170 v171 v172 v173 v174 v175 v176 v177 v178 v179 v180 v181 v182 v183 v184 v185 v186 v187 v188 v189 v190 v191 v192 v193 v194 v195 v196 v197 v198 v199 v200 v201 v202 : Value} :
    Code.wp Try.prog (tl 6) (bodyPost Try.prog Try.f7 (TuP W base rb sys bld o n s a e l us ls (tE (tA (tS R))))) ⟨#[.pointer (some ⟨rb, 0, none⟩), v1, v2, .pointer (some ⟨W.heap.size, 0, none⟩), .pointer (some ⟨W.heap.size + 1, 0, none⟩), v5, v6, v7, v8, v9, v10, v11, v12, v13, v14, v15, v16, v17, v18, v19, v20, v21, v22, v23, v24, v25, v26, v27, v28, v29, v30, v31, v32, v33, v34, v35, v36, v37, v38, v39, v40, v41, v42, v43, v44, v45, v46, v47, v48, v49, v50, v51, v52, v53, v54, v55, v56, v57, v58, v59, v60, v61, v62, v63, v64, v65, v66, v67, v68, v69, v70, v71, v72, v73, v74, v75, v76, v77, v78, v79, v80, v81, v82, v83, v84, v85, v86, v87, v88, v89, v90, v91, v92, v93, v94, v95, v96, v97, v98, v99, v100, v101, v102, v103, v104, v105, v106, v107, v108, v109, v110, v111, v112, v113, v114, v115, v116, v117, v118, v119, v120, v121, v122, v123, v124, v125, v126, v127, v128, v129, v130, v131, v132, v133, v134, v135, v136, v137, v138, v139, v140, v141, v142, v143, v144, v145, v146, v147, v148, v149, v150, v151, v152, v153, v154, v155, v156, v157, v158, v159, v160, v161, v162, v163, v164, v165, v166, v167, v168, v169, v170, v171, v172, v173, v174, v175, v176, v177, v178, v179, v180, v181, v182, v183, v184, v185, v186, v187, v188, v189, v190, v191, v192, v193, v194, v195, v196, v197, v198, v199, v200, v201, v202], []⟩ w := by
  obtain ⟨xs, cs, rfl, -⟩ := h.rl.fs.form
  have el : ((R.s ++ [BEH]).map sR).length = R.s.length + 1 := by simp
  rw [el] at h ⊢
  have HS : Hid (Sm R ∧ (∀ p ∈ (tS R).e, p.2.size ≤ 1000000000) ∧ ∀ x ∈ (tS R).a, x.size ≤ 1000000000) := ⟨hs, by rw [(tS_a R).2]; exact hz, by rw [(tS_a R).1]; exact hza⟩
  obtain ⟨N, hN⟩ : ∃ N, R.s.length + 1 = N := ⟨_, rfl⟩
  rw [hN] at h ⊢
  have k4 : w.cell? ⟨rb, 2, none⟩ = some (.slice xs N cs) := c1 h.rm rfl
  cases hq : R.s[0]? with
  | none =>
    have e0 : tS R = R := by unfold tS; rw [hq]
    have hN1 : ¬ ((1 : Int) < (N : Int)) := by
      have := List.getElem?_eq_none_iff.1 hq
      omega
    have HH : Hid _ := h
    rw [e0] at HS ⊢
    clear h hs el hN hq e0 hz hza
    conv => arg 2; whnf
    go_upto_region 6 with fail
    rename_i K2 h2 K1 h1
    have HT : Hid (∀ q w, Code.wp Try.prog (tl 8) (bodyPost Try.prog Try.f7 (TuP W base rb sys bld o n (.slice xs N cs) a e l us ls (tE (tA R)))) q w → K2 q w) := h2
    clear h2
    go_wp2_with fail
    exact HT.out _ _ (tail8 W base rb ro rn rs ra re sys bld _ _ _ _ _ _ us ls R HS.out.1 HS.out.2.1 HS.out.2.2 w HH.out)
  | some x =>
    have hi := (List.getElem?_eq_some_iff.1 hq).1
    obtain ⟨y, hy⟩ : ∃ y, R.s[R.s.length - 1]? = some y := ⟨_, List.getElem?_eq_getElem (by omega)⟩
    have e0 : tS R = { R with s := R.s.set 0 y } := by unfold tS; rw [hq, hy]
    have hN1 : (1 : Int) < (N : Int) := by omega
    obtain ⟨g, rfl⟩ := h.rl.fs.own (by omega)
    have hd := h.drew
    obtain ⟨k, hk⟩ : ∃ k, R.s.length - 1 = k := ⟨_, rfl⟩
    rw [hk] at hy
    have cv : w.drew.cell? ⟨g, 0, none⟩ = some (.string x) := hd.rl.fs.cel 0 0 _ _ (get_app sR R.s x BEH 0 hq) rfl
    have cy : w.drew.cell? ⟨g, k, none⟩ = some (.string y) := by have := hd.rl.fs.cel k 0 _ (.string y) (get_app sR R.s y BEH k hy) rfl; simpa using this
    have fz : w.drew.frozen? ⟨g, 0, none⟩ = false := hd.rl.fs.fro _
    have kd : w.drew.cell? ⟨rb, 2, none⟩ = some (.slice (some ⟨g, 0, none⟩) N cs) := k4
    have HF : Hid (Tr W base rb (rV ro rn rs sys bld ra re) o n (.slice (some ⟨g, 0, none⟩) N cs) a e l us ls (tS R) (w.drew.setCell ⟨g, 0, none⟩ (.string y))) := by
      rw [e0]
      exact hd.put hd.rl.fs rfl (by decide) (by decide) (hd.rl.setS (i := 0) hq)
    have hN0 : (0 : Int) < (N : Int) := by omega
    have wk : IntKind.i64.wrap ((N : Int) - 2) = (k : Int) := by rw [IntKind.wrap_i64]; have := hs.2.2.1; omega
    have hk0 : (0 : Int) ≤ (k : Int) := by omega
    have hk1 : (k : Int) < (N : Int) := by omega
    clear h hs el hN e0 hi hd hz hza hq hy hk
    have HS2 : Hid (Sm (tS R)) := sm_tS HS.out.1
    obtain ⟨Z, hZ⟩ : ∃ Z, w.drew.setCell ⟨g, 0, none⟩ (.string y) = Z := ⟨_, rfl⟩
    rw [hZ] at HF
    conv => arg 2; whnf
    go_upto_region 6 with fail
    rename_i K2 h2 K1 h1
    have HT : Hid (∀ q w, Code.wp Try.prog (tl 8) (bodyPost Try.prog Try.f7 (TuP W base rb sys bld o n (.slice (some ⟨g, 0, none⟩) N cs) a e l us ls (tE (tA (tS R))))) q w → K2 q w) := h2
    clear h2
    go_wp2_with fail
    go_region
    go_wp2_with fail
    exact HT.out _ _ (tail8 W base rb ro rn rs ra re sys bld _ _ _ _ _ _ us ls (tS R) HS2.out HS.out.2.1 HS.out.2.2 Z HF.out)
set_option maxRecDepth 100000 in
set_option maxHeartbeats 3200000 in
theorem tail4 (W : World) (base rb : Nat) (ro rn rs ra re : Value) (sys bld : S) (o n s a e l : Value) (us ls : List Value) (R : Rcp) (hs : Sm R) (hz : ∀ p ∈ R.e, p.2.size ≤ 1000000000) (hza : ∀ x ∈ R.a, x.size ≤ 1000000000) (w : World) (h : Tr W base rb (rV ro rn rs sys bld ra re) o n s a e l us ls R w) {v1 v2 v5 v6 v7 v8 v9 v10 v11 v12 v13 v14 v15 v16 v17 v18 v19 v20 v21 v22 v23 v24 v25 v26 v27 v28 v29 v30 v31 v32 v33 v34 v35 v36 v37 v38 v39 v40 v41 v42 v43 v44 v45 v46 v47 v48 v49 v50 v51 v52 v53 v54 v55 v56 v57 v58 v59 v60 v61 v62 v63 v64 v65 v66 v67 v68 v69 v70 v71 v72 v73 v74 v75 v76 v77 v78 v79 v80 v81 v82 v83 v84 v85 v86 v87 v88 v89 v90 v91 v92 v93 v94 v95 v96 v97 v98 v99 v100 v101 v102 v103 v104 v105 v106 v107 v108 v109 v110 v111 v112 v113 v114 v115 v116 v117 v118 v119 v120 v121 v122 v123 v124 v125 v126 v127 v128 v129 v130 v131 v132 v133 v134 v135 v136 v137 v138 v139 v140 v141 v142 v143 v144 v145 v146 v147 v148 v149 v150 v151 v152 v153 v154 v155 v156 v157 v158 v159 v160 v161 v162 v163 v164 v165 v166 v167 v168 v169 v170 v171 v172 v173 v174 v175 v176 v177 v178 v179 v180 v181 v182 v183 v184 v185 v186 v187 v188 v189 v190 v191 v192 v193 v194 v195 v196 v197 v198 v199 v200 v201 v202 : Value} :
    Code.wp Try.prog (tl 4) (bodyPost Try.prog Try.f7 (TuP W base rb sys bld o n s a e l us ls (tE (tA (tS (tN R)))))) ⟨#[.pointer (some ⟨rb, 0, none⟩), v1, v2, .pointer (some ⟨W.heap.size, 0, none⟩), .pointer (some ⟨W.heap.size + 1, 0, none⟩), v5, v6, v7, v8, v9, v10, v11, v12, v13, v14, v15, v16, v17, v18, v19, v20, v21, v22, v23, v24, v25, v26, v27, v28, v29, v30, v31, v32, v33, v34, v35, v36, v37, v38, v39, v40, v41, v42, v43, v44, v45, v46, v47, v48, v49, v50, v51, v52, v53, v54, v55, v56, v57, v58, v59, v60, v61, v62, v63, v64, v65, v66, v67, v68, v69, v70, v71, v72, v73, v74, v75, v76, v77, v78, v79, v80, v81, v82, v83, v84, v85, v86, v87, v88, v89, v90, v91, v92, v93, v94, v95, v96, v97, v98, v99, v100, v101, v102, v103, v104, v105, v106, v107, v108, v109, v110, v111, v112, v113, v114, v115, v116, v117, v118, v119, v120, v121, v122, v123, v124, v125, v126, v127, v128, v129, v130, v131, v132, v133, v134, v135, v136, v137, v138, v139, v140, v141, v142, v143, v144, v145, v146, v147, v148, v149, v150, v151, v152, v153, v154, v155, v156, v157, v158, v159, v160, v161, v162, v163, v164, v165, v166, v167, v168, v169, v170, v171, v172, v173, v174, v175, v176, v177, v178, v179, v180, v181, v182, v183, v184, v185, v186, v187, v188, v189, v190, v191, v192, v193, v194, v195, v196, v197, v198, v199, v200, v201, v202], []⟩ w := by
  obtain ⟨xn, cn, rfl, -⟩ := h.rl.fn.form
  have el : (List.zipWith nR R.n us ++ [nR (BEH, []) (.slice none 0 0)]).length = R.n.length + 1 := by rw [List.length_append, List.length_zipWith, h.rl.ul, Nat.min_self]; rfl
  rw [el] at h ⊢
  have HS : Hid (Sm R ∧ (∀ p ∈ (tN R).e, p.2.size ≤ 1000000000) ∧ ∀ x ∈ (tN R).a, x.size ≤ 1000000000) := ⟨hs, by rw [(tN_a R).2]; exact hz, by rw [(tN_a R).1]; exact hza⟩
  obtain ⟨N, hN⟩ : ∃ N, R.n.length + 1 = N := ⟨_, rfl⟩
  rw [hN] at h ⊢
  have k4 : w.cell? ⟨rb, 1, none⟩ = some (.slice xn N cn) := c1 h.rm rfl
  cases hq : R.n[0]? with
  | none =>
    have e0 : tN R = R := by unfold tN; rw [hq]
    have hN1 : ¬ ((1 : Int) < (N : Int)) := by
      have := List.getElem?_eq_none_iff.1 hq
      omega
    have HH : Hid _ := h
    rw [e0] at HS ⊢
    clear h hs el hN hq e0 hz hza
    conv => arg 2; whnf
    go_upto_region 4 with fail
    rename_i K2 h2 K1 h1
    have HT : Hid (∀ q w, Code.wp Try.prog (tl 6) (bodyPost Try.prog Try.f7 (TuP W base rb sys bld o (.slice xn N cn) s a e l us ls (tE (tA (tS R))))) q w → K2 q w) := h2
    clear h2
    go_wp2_with fail
    exact HT.out _ _ (tail6 W base rb ro rn rs ra re sys bld _ _ _ _ _ _ us ls R HS.out.1 HS.out.2.1 HS.out.2.2 w HH.out)
  | some x =>
    have hi := (List.getElem?_eq_some_iff.1 hq).1
    obtain ⟨y, hy⟩ : ∃ y, R.n[R.n.length - 1]? = some y := ⟨_, List.getElem?_eq_getElem (by omega)⟩
    have e0 : tN R = { R with n := R.n.set 0 (y.1, x.2) } := by unfold tN; rw [hq, hy]
    have hN1 : (1 : Int) < (N : Int) := by omega
    obtain ⟨g, rfl⟩ := h.rl.fn.own (by omega)
    have hd := h.drew
    obtain ⟨k, hk⟩ : ∃ k, R.n.length - 1 = k := ⟨_, rfl⟩
    rw [hk] at hy
    have hul := h.rl.ul
    obtain ⟨u0, hu0⟩ : ∃ u, us[0]? = some u := ⟨_, List.getElem?_eq_getElem (by omega)⟩
    obtain ⟨uk, huk⟩ : ∃ u, us[k]? = some u := ⟨_, List.getElem?_eq_getElem (by omega)⟩
    have zq : (List.zipWith nR R.n us ++ [nR (BEH, []) (.slice none 0 0)])[0]? = some (nR x u0) := by rw [List.getElem?_append_left (by rw [List.length_zipWith]; omega), List.getElem?_zipWith, hq, hu0]
    have zk : (List.zipWith nR R.n us ++ [nR (BEH, []) (.slice none 0 0)])[k]? = some (nR y uk) := by rw [List.getElem?_append_left (by rw [List.length_zipWith]; omega), List.getElem?_zipWith, hy, huk]
    have cv : w.drew.cell? ⟨g, 0, none⟩ = some (.string x.1) := hd.rl.fn.cel 0 0 _ _ zq rfl
    have cy : w.drew.cell? ⟨g, k * 2, none⟩ = some (.string y.1) := hd.rl.fn.cel k 0 _ _ zk rfl
    have fz : w.drew.frozen? ⟨g, 0, none⟩ = false := hd.rl.fn.fro _
    have kd : w.drew.cell? ⟨rb, 1, none⟩ = some (.slice (some ⟨g, 0, none⟩) N cn) := k4
    have HF : Hid (Tr W base rb (rV ro rn rs sys bld ra re) o (.slice (some ⟨g, 0, none⟩) N cn) s a e l us ls (tN R) (w.drew.setCell ⟨g, 0, none⟩ (.string y.1))) := by
      rw [e0]
      exact hd.put hd.rl.fn rfl (by decide) (by decide) (hd.rl.setN (i := 0) hq)
    have hN0 : (0 : Int) < (N : Int) := by omega
    have wk : IntKind.i64.wrap ((N : Int) - 2) = (k : Int) := by rw [IntKind.wrap_i64]; have := hs.2.1; omega
    have hk0 : (0 : Int) ≤ (k : Int) := by omega
    have hk1 : (k : Int) < (N : Int) := by omega
    obtain ⟨y1, y2⟩ := y
    clear h hs el hN e0 hi hd hz hza hq hy hk hul hu0 huk zq zk
    have HS2 : Hid (Sm (tN R)) := sm_tN HS.out.1
    obtain ⟨Z, hZ⟩ : ∃ Z, w.drew.setCell ⟨g, 0, none⟩ (.string y1) = Z := ⟨_, rfl⟩
    rw [show (y1, y2).1 = y1 from rfl, hZ] at HF
    conv => arg 2; whnf
    go_upto_region 4 with fail
    rename_i K2 h2 K1 h1
    have HT : Hid (∀ q w, Code.wp Try.prog (tl 6) (bodyPost Try.prog Try.f7 (TuP W base rb sys bld o (.slice (some ⟨g, 0, none⟩) N cn) s a e l us ls (tE (tA (tS (tN R)))))) q w → K2 q w) := h2
    clear h2
    go_wp2_with fail
    go_region
    go_wp2_with fail
    exact HT.out _ _ (tail6 W base rb ro rn rs ra re sys bld _ _ _ _ _ _ us ls (tN R) HS2.out HS.out.2.1 HS.out.2.2 Z HF.out)
end Go.Proofs.Ytcggaiplepekdaa
