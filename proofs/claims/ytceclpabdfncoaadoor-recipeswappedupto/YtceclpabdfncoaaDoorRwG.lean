/- The laws' right: its end. -/
import Derived.Test.YtceclpabdfncoaaDoorRwF
namespace Go.Proofs.YtceclpabdfncoaaDoor.Re
open Go.RowKit
/-- Nothing is long. -/
structure Bn (R : Rcp) : Prop where
  o : R.o.length ≤ 10
  n : R.n.length ≤ 40
  i : ∀ x ∈ R.n, x.2.length ≤ 10
  s : R.s.length ≤ 40
  a : R.a.length ≤ 40
  e : R.e.length ≤ 60
  ol : ∀ x ∈ R.o, x.2.1.size ≤ 300
  al : ∀ x ∈ R.a, x.size ≤ 300
  el : ∀ p ∈ R.e, p.2.size ≤ 300
/-- What right leaves. -/
def RiP (W : World) (en : Ending) (w' : World) : Prop := ∃ o n s a e us R, en = .returned (.agg (rV o n s R.sys R.bld a e)) ∧ Tw W.heap.size w' o n s a e us R ∧ Sepa s a us ∧ Bn R ∧ Below W.heap.size W w'
/-- The recipe in its variable, beside what it is made of. -/
structure Rt (W : World) (C : Array Value) (q : Nat) (o n s a e : Value) (us : List Value) (R : Rcp) (X : World) : Prop where
  bel : Below W.heap.size W X
  box : X.heap[W.heap.size]? = some (.cells C 25 (0, 0))
  res : X.heap[W.heap.size + 1]? = some (.cells zR 33 (0, 0))
  row : X.heap[q]? = some (.cells (rV o n s R.sys R.bld a e) 33 (0, 0))
  hq : W.heap.size + 1 < q
  tw : Tw W.heap.size X o n s a e us R
theorem Rt.below {W : World} {C : Array Value} {q : Nat} {o n s a e : Value} {us : List Value} {R : Rcp} {X Y : World} (h : Rt W C q o n s a e us R X) (hb : Below X.heap.size X Y) : Rt W C q o n s a e us R Y :=
  ⟨h.bel.trans (hb.mono h.bel.size), (hb.block _ (Array.getElem?_eq_some_iff.1 h.box).1).trans h.box, (hb.block _ (Array.getElem?_eq_some_iff.1 h.res).1).trans h.res, (hb.block _ (Array.getElem?_eq_some_iff.1 h.row).1).trans h.row, h.hq, h.tw.below hb⟩
theorem Rt.cb {W : World} {C : Array Value} {q : Nat} {o n s a e : Value} {us : List Value} {R : Rcp} {X : World} (h : Rt W C q o n s a e us R X) {k : Nat} {v : Value} (hv : C[k]? = some v) : X.cell? ⟨W.heap.size, k, none⟩ = some v := c1 h.box hv
theorem Rt.cr {W : World} {C : Array Value} {q : Nat} {o n s a e : Value} {us : List Value} {R : Rcp} {X : World} (h : Rt W C q o n s a e us R X) {k : Nat} {v : Value} (hv : (rV o n s R.sys R.bld a e)[k]? = some v) : X.cell? ⟨q, k, none⟩ = some v := c1 h.row hv
/-- The builder's name is written over. -/
theorem Rt.setB {W : World} {C : Array Value} {q : Nat} {o n s a e : Value} {us : List Value} {R : Rcp} {X : World} (h : Rt W C q o n s a e us R X) (b : S) : X.frozen? ⟨q, 4, none⟩ = false ∧ Rt W C q o n s a e us { R with bld := b } (X.setCell ⟨q, 4, none⟩ (.string b)) := by
  have hq := h.hq
  refine ⟨frozen_of_row _ _ _ _ _ h.row, h.bel.setCell (by show W.heap.size ≤ q; omega) _, (heap_setCell_other _ _ _ _ (by show W.heap.size ≠ q; omega)).trans h.box, (heap_setCell_other _ _ _ _ (by show W.heap.size + 1 ≠ q; omega)).trans h.res, heap_setCell_same _ _ _ _ _ _ h.row, hq, ?_⟩
  have t := h.tw.rows (W' := X.setCell ⟨q, 4, none⟩ (.string b)) (fun g C' t hg ht => heap_setCell_other _ _ _ _ (by show g ≠ q; exact tag_ne hg h.row ht))
  exact ⟨t.fo, t.fn, t.fs, t.fa, t.fe, t.ul, t.each⟩
section
attribute [local go_sem ↓] toLdR toStR
set_option maxRecDepth 100000 in
set_option maxHeartbeats 3200000 in
theorem right43 (W : World) (C : Array Value) (q : Nat) (o n s a e : Value) (us : List Value) (R : Rcp) (Z : World) (rZ : Rt W C q o n s a e us R Z) (hs : Sepa s a us) (bn : Bn R) {v0 v4 v5 v6 v7 v8 v9 v10 v11 v12 v13 v14 v15 v16 v17 v18 v19 v20 v21 v22 v23 v24 v25 v26 v27 v28 v29 v30 v31 v32 v33 v34 v35 v36 v37 v38 v39 v40 v41 v42 v43 v44 v45 v46 v47 v48 v49 v50 v51 v52 v53 v54 v55 v56 v57 v58 v59 v60 v61 v62 v63 v64 v65 v66 v67 v68 v69 v70 v71 v72 v73 v74 v75 v76 v77 v78 v79 v80 v81 v82 v83 v84 v85 v86 v87 v88 v89 v90 v91 v92 v93 v94 v95 v96 v97 v98 v99 v100 v101 v102 v103 v104 v105 v106 v107 v108 v109 v110 v111 v112 v113 v114 v115 v116 v117 v118 v119 v120 v121 v122 v123 v124 v125 v126 v127 v128 v129 v130 v131 v132 v133 v134 v135 v136 v137 v138 v139 v140 v141 v142 v143 v144 v145 v146 v147 v148 v149 v150 v151 v152 v153 v154 v155 v156 v157 v158 v159 v160 v161 v162 v163 v164 v165 v166 v167 v168 v169 v170 v171 v172 v173 v174 v175 v176 v177 v178 v179 v180 v181 v182 v183 v184 v185 v186 v187 v188 v189 v190 v191 v192 v193 v194 v195 v196 v197 v198 v199 v200 v201 v202 v203 v204 : Value} :
    Code.wp Tryd.prog (tlF Tryd.f5 43) (bodyPost Tryd.prog Tryd.f5 (RiP W)) ⟨#[v0, .pointer (some ⟨W.heap.size, 0, none⟩), .pointer (some ⟨W.heap.size + 1, 0, none⟩), .pointer (some ⟨q, 0, none⟩), v4, v5, v6, v7, v8, v9, v10, v11, v12, v13, v14, v15, v16, v17, v18, v19, v20, v21, v22, v23, v24, v25, v26, v27, v28, v29, v30, v31, v32, v33, v34, v35, v36, v37, v38, v39, v40, v41, v42, v43, v44, v45, v46, v47, v48, v49, v50, v51, v52, v53, v54, v55, v56, v57, v58, v59, v60, v61, v62, v63, v64, v65, v66, v67, v68, v69, v70, v71, v72, v73, v74, v75, v76, v77, v78, v79, v80, v81, v82, v83, v84, v85, v86, v87, v88, v89, v90, v91, v92, v93, v94, v95, v96, v97, v98, v99, v100, v101, v102, v103, v104, v105, v106, v107, v108, v109, v110, v111, v112, v113, v114, v115, v116, v117, v118, v119, v120, v121, v122, v123, v124, v125, v126, v127, v128, v129, v130, v131, v132, v133, v134, v135, v136, v137, v138, v139, v140, v141, v142, v143, v144, v145, v146, v147, v148, v149, v150, v151, v152, v153, v154, v155, v156, v157, v158, v159, v160, v161, v162, v163, v164, v165, v166, v167, v168, v169, v170, v171, v172, v173, v174, v175, v176, v177, v178, v179, v180, v181, v182, v183, v184, v185, v186, v187, v188, v189, v190, v191, v192, v193, v194, v195, v196, v197, v198, v199, v200, v201, v202, v203, v204], []⟩ Z := by
  have lZ := ld_R Z q _ rfl rZ.row
  have sZ := st_R Z (W.heap.size + 1) zR (rV o n s R.sys R.bld a e) rfl rfl (rZ.tw.one _ _) rZ.res
  obtain ⟨V, hV⟩ : ∃ V, Z.setRow (W.heap.size + 1) (rV o n s R.sys R.bld a e) = V := ⟨_, rfl⟩
  rw [hV] at sZ
  have HV : Hid (V.heap[W.heap.size + 1]? = some (.cells (rV o n s R.sys R.bld a e) 33 (0, 0)) ∧ RiP W (.returned (.agg (rV o n s R.sys R.bld a e))) V) := by
    rw [← hV]
    have t := rZ.tw.rows (W' := Z.setRow (W.heap.size + 1) (rV o n s R.sys R.bld a e)) (fun g C' t hg ht => setRow_other _ _ _ _ (tag_ne hg rZ.res ht))
    exact ⟨setRow_heap _ _ _ _ _ _ rZ.res, o, n, s, a, e, us, R, rfl, t, hs, bn, below_setRow rZ.bel (by omega) _⟩
  clear rZ bn hs
  conv => arg 2; whnf
  go_wp2_with fail
  refine bodyPost_ret (results_R rfl _ _ (W.heap.size + 1) _ rfl rfl HV.out.1) rfl ?_
  exact HV.out.2
end
end Go.Proofs.YtceclpabdfncoaaDoor.Re
