/- RecipeSwapped: from region 9 on. -/
import Derived.Test.YtceclpabdfncoaaDoorRwU
namespace Go.Proofs.YtceclpabdfncoaaDoor.Re
open Go.RowKit
theorem swE_ok (W : World) (R : Rcp) {fr to : List S} (h : Apt fr) (hl : fr.length = to.length) : SwE W R fr to = GiE W (swR (fr.zip to) R) 0 := by
  unfold SwE
  rw [if_pos ⟨hl, h⟩, if_pos ⟨hl, h⟩]
theorem swE_no (W : World) (R : Rcp) {fr to : List S} (h : ¬ Apt fr) : SwE W R fr to = GiE W ZER 2 := by
  unfold SwE
  rw [if_neg (fun q => h q.2), if_neg (fun q => h q.2)]
theorem ext5 (x : S) : bl (x.extract 0 5) <+: bl x := by
  rw [bl_ext]
  exact List.take_prefix _ _
theorem swS_le {C : List Pai} (h : Ks C) (ht : ∀ p ∈ C, p.2.size ≤ 32) (z : S) : (swS C z).size ≤ z.size * 32 := by
  rw [← bl_len, ← bl_len, bl_swS]
  exact sw_len (by omega) h.ne (fun p hp => by rw [bl_len]; exact ht p hp) _ _ (Nat.le_refl _)
/-- What a call of Swap has left is laid into a new variable. -/
theorem lay_R {W0 Y : World} {o n s a e : Value} {us : List Value} {Q : Rcp} (tw : Tw W0.heap.size Y o n s a e us Q) :
    ∃ Z', (stR (.pointer (some ⟨Y.heap.size, 0, none⟩)) (.agg (rV o n s Q.sys Q.bld a e))).run Tryd.prog (Y.alloc (.cells #[.slice none 0 0, .slice none 0 0, .slice none 0 0, .string ⟨#[]⟩, .string ⟨#[]⟩, .slice none 0 0, .slice none 0 0] 33)) = .ok () Z' ∧ Z'.heap[Y.heap.size]? = some (.cells (rV o n s Q.sys Q.bld a e) 33 (0, 0)) ∧ Below Y.heap.size Y Z' ∧ Rc Z' o n s a e Q := by
  have hb : Below Y.heap.size Y ((Y.alloc (.cells zR 33)).setRow Y.heap.size (rV o n s Q.sys Q.bld a e)) := below_setRow (gr1 (Below.refl _ Y) _) (Nat.le_refl _) _
  exact ⟨_, st_R _ _ zR _ rfl rfl (tw.one _ _) (heap_alloc_new _ _), setRow_heap _ _ _ _ _ _ (heap_alloc_new _ _), hb, tw.rc.below hb⟩
/-- The last two arguments. -/
theorem args2 {Z : World} {a : Value} {A : List S} {s1 s2 : S} (h : Ls Z a 1 ((A ++ [s1, s2]).map sR)) : ∃ g o c, a = .slice (some ⟨g, o, none⟩) (A.length + 2) c ∧ Z.cell? ⟨g, o + A.length, none⟩ = some (.string s1) ∧ Z.cell? ⟨g, o + (A.length + 1), none⟩ = some (.string s2) := by
  obtain ⟨oa, c, rfl⟩ := h.form
  obtain ⟨g, o, rfl, -, r1⟩ := h.at A.length (sR s1) (by simp)
  obtain ⟨g', o', e, -, r2⟩ := h.at (A.length + 1) (sR s2) (by rw [List.getElem?_map, List.getElem?_append_right (by omega), show A.length + 1 - A.length = 1 by omega]; rfl)
  injection e with e
  injection e with e1 e2
  subst e1 e2
  refine ⟨g, o, c, by simp, ?_, ?_⟩
  · have := r1 0 (.string s1) rfl
    simpa using this
  · have := r2 0 (.string s2) rfl
    simpa using this
section
attribute [local go_sem ↓] toLdR toStR
set_option maxRecDepth 100000 in
set_option maxHeartbeats 6400000 in
theorem sd10 (W Z1 : World) (rb qb gr pr cr g1 p1 k1 j : Nat) (x y : S) (o n s e o1 n1 s1 e1 : Value) (R Q P : Rcp) (hj : j ≤ 1000) (zx : x.size = 32) (zy : y.size = 32) (bZ : Below W.heap.size W Z1)
    (rowr : Z1.heap[rb]? = some (.cells (rV o n s R.sys R.bld (.slice (some ⟨gr, pr, none⟩) (j + 2) cr) e) 33 (0, 0))) (rowq : Z1.heap[qb]? = some (.cells (rV o1 n1 s1 Q.sys Q.bld (.slice (some ⟨g1, p1, none⟩) (j + 2) k1) e1) 33 (0, 0))) (eb : Q.bld = R.bld)
    (hC2 : Calls Tryd.prog 6 #[.agg (rV o1 n1 s1 Q.sys Q.bld (.slice (some ⟨g1, p1, none⟩) (j + 2) k1) e1), .slice (some ⟨Z1.heap.size, 0, none⟩) 2 2, .slice (some ⟨Z1.heap.size + 1, 0, none⟩) 2 2] ((Z1.alloc (.cells #[.string y, .string x] 9)).alloc (.cells #[.string x, .string y] 9)) (GiE ((Z1.alloc (.cells #[.string y, .string x] 9)).alloc (.cells #[.string x, .string y] 9)) P 0))
    (hC3 : ∀ Y v1 v2, Below Z1.heap.size Z1 Y → Ls Y v1 1 (([x, x.extract 0 5] : List S).map sR) → Ls Y v2 1 (([y, y] : List S).map sR) → Calls Tryd.prog 6 #[.agg (rV o n s R.sys R.bld (.slice (some ⟨gr, pr, none⟩) (j + 2) cr) e), v1, v2] Y (GiE Y ZER 2))
    (hP : ∀ Z2 o' n' s' a' e', Rc Z2 o' n' s' a' e' P → ∃ g2 p2 c2, a' = .slice (some ⟨g2, p2, none⟩) (j + 2) c2 ∧ Z2.cell? ⟨g2, p2 + j, none⟩ = some (.string (sen x y)) ∧ Z2.cell? ⟨g2, p2 + (j + 1), none⟩ = some (.string NON))
    (d1 : Z1.cell? ⟨g1, p1 + j, none⟩ = some (.string (sen y x))) (d2 : Z1.cell? ⟨g1, p1 + (j + 1), none⟩ = some (.string NON)) (d3 : Z1.cell? ⟨gr, pr + j, none⟩ = some (.string (sen x y))) {v0 v1 v2 v3 v4 v5 v6 v7 v8 v14 v15 v16 v17 v18 v19 v20 v21 v22 v23 v24 v25 v26 v27 v28 v29 v30 v31 v32 v33 v34 v35 v36 v37 v38 v39 v40 v41 v42 v43 v44 v45 v46 v47 v48 v49 v50 v51 v52 v53 v54 v55 v56 v57 v58 v59 v60 v61 v62 v63 v64 v65 v66 v67 v68 v69 v70 v71 v72 v73 v74 v75 v76 v77 v78 v79 v80 v81 v82 v83 v84 v85 v86 v87 v88 v89 v90 v91 v92 v93 v94 v95 v96 v97 v98 v99 v100 v101 v102 v103 v104 v105 v106 v107 v108 v109 v110 v111 v112 v113 v114 v115 v116 v117 v118 v119 v120 v121 v122 v123 v124 v125 v126 v127 v128 v129 v130 v131 v132 v133 v134 v135 v136 v137 v138 v139 v140 v141 v142 v143 v144 v145 v146 v147 v148 v149 v150 v151 v152 v153 v154 v155 v156 v157 v158 v159 v160 v161 v162 v163 v164 v165 v166 v167 v168 v169 v170 v171 : Value} :
    Code.wp Tryd.prog (tlF Tryd.f3 10) (bodyPost Tryd.prog Tryd.f3 (fun e w' => e = .returned (.bool true) ∧ Below W.heap.size W w')) ⟨#[v0, v1, v2, v3, v4, v5, v6, v7, v8, .string x, .string y, .pointer (some ⟨rb, 0, none⟩), .pointer (some ⟨qb, 0, none⟩), .int .i64 0, v14, v15, v16, v17, v18, v19, v20, v21, v22, v23, v24, v25, v26, v27, v28, v29, v30, v31, v32, v33, v34, v35, v36, v37, v38, v39, v40, v41, v42, v43, v44, v45, v46, v47, v48, v49, v50, v51, v52, v53, v54, v55, v56, v57, v58, v59, v60, v61, v62, v63, v64, v65, v66, v67, v68, v69, v70, v71, v72, v73, v74, v75, v76, v77, v78, v79, v80, v81, v82, v83, v84, v85, v86, v87, v88, v89, v90, v91, v92, v93, v94, v95, v96, v97, v98, v99, v100, v101, v102, v103, v104, v105, v106, v107, v108, v109, v110, v111, v112, v113, v114, v115, v116, v117, v118, v119, v120, v121, v122, v123, v124, v125, v126, v127, v128, v129, v130, v131, v132, v133, v134, v135, v136, v137, v138, v139, v140, v141, v142, v143, v144, v145, v146, v147, v148, v149, v150, v151, v152, v153, v154, v155, v156, v157, v158, v159, v160, v161, v162, v163, v164, v165, v166, v167, v168, v169, v170, v171], []⟩ Z1 := by
  have kq : Z1.cell? ⟨qb, 5, none⟩ = some (.slice (some ⟨g1, p1, none⟩) (j + 2) k1) := c1 rowq rfl
  have bq : Z1.cell? ⟨qb, 4, none⟩ = some (.string R.bld) := (c1 rowq rfl).trans (by rw [eb]; rfl)
  have kr : Z1.cell? ⟨rb, 5, none⟩ = some (.slice (some ⟨gr, pr, none⟩) (j + 2) cr) := c1 rowr rfl
  have br : Z1.cell? ⟨rb, 4, none⟩ = some (.string R.bld) := c1 rowr rfl
  have lq := ld_R Z1 qb _ rfl rowq
  have HC : Hid (Calls Tryd.prog 6 #[.agg (rV o1 n1 s1 Q.sys Q.bld (.slice (some ⟨g1, p1, none⟩) (j + 2) k1) e1), .slice (some ⟨Z1.heap.size, 0, none⟩) 2 2, .slice (some ⟨Z1.heap.size + 1, 0, none⟩) 2 2] ((Z1.alloc (.cells #[.string y, .string x] 9)).alloc (.cells #[.string x, .string y] 9)) (GiE ((Z1.alloc (.cells #[.string y, .string x] 9)).alloc (.cells #[.string x, .string y] 9)) P 0)) := hC2
  have HD : Hid (∀ Y v1 v2, Below Z1.heap.size Z1 Y → Ls Y v1 1 (([x, x.extract 0 5] : List S).map sR) → Ls Y v2 1 (([y, y] : List S).map sR) → Calls Tryd.prog 6 #[.agg (rV o n s R.sys R.bld (.slice (some ⟨gr, pr, none⟩) (j + 2) cr) e), v1, v2] Y (GiE Y ZER 2)) := hC3
  have HP : Hid (∀ Z2 o' n' s' a' e', Rc Z2 o' n' s' a' e' P → ∃ g2 p2 c2, a' = .slice (some ⟨g2, p2, none⟩) (j + 2) c2 ∧ Z2.cell? ⟨g2, p2 + j, none⟩ = some (.string (sen x y)) ∧ Z2.cell? ⟨g2, p2 + (j + 1), none⟩ = some (.string NON)) := hP
  have HZ : Hid (Below W.heap.size W Z1 ∧ Z1.heap[rb]? = some (.cells (rV o n s R.sys R.bld (.slice (some ⟨gr, pr, none⟩) (j + 2) cr) e) 33 (0, 0)) ∧ Z1.cell? ⟨gr, pr + j, none⟩ = some (.string (sen x y)) ∧ Z1.cell? ⟨rb, 5, none⟩ = some (.slice (some ⟨gr, pr, none⟩) (j + 2) cr) ∧ j ≤ 1000 ∧ x.size = 32) := ⟨bZ, rowr, d3, kr, hj, zx⟩
  have w1 : IntKind.i64.wrap (((j + 2 : Nat) : Int) - 2) = (j : Int) := by rw [IntKind.wrap_i64]; omega
  have w2 : IntKind.i64.wrap (((j + 2 : Nat) : Int) - 1) = ((j + 1 : Nat) : Int) := by rw [IntKind.wrap_i64]; omega
  have i0 : (0 : Int) ≤ (j : Int) := by omega
  have i1 : (j : Int) < ((j + 2 : Nat) : Int) := by omega
  have i2 : (0 : Int) ≤ ((j + 1 : Nat) : Int) := by omega
  have i3 : ((j + 1 : Nat) : Int) < ((j + 2 : Nat) : Int) := by omega
  have i4 : ¬ (((j + 2 : Nat) : Int) < 2) := by omega
  have u1 : wrap64 (j : Int) = (j : Int) := by unfold wrap64; omega
  have u2 : wrap64 ((j : Int) + 1) = (j : Int) + 1 := by unfold wrap64; omega
  have u3 : wrap64 ((j : Int) + 2 - 1) = (j : Int) + 1 := by unfold wrap64; omega
  have m1 : (j : Int) < (j : Int) + 2 := by omega
  have m2 : (j : Int) + 1 < (j : Int) + 2 := by omega
  have m3 : (0 : Int) ≤ (j : Int) + 1 := by omega
  unfold sen SEE AND BLA at d1
  unfold NON at d2
  clear hC2 hC3 hP rowr rowq bZ d3 hj eb
  conv => arg 2; whnf
  go_upto_region 15 with fail
  rename_i K2 h2
  have HK2 : Hid (∀ q w, Code.wp Tryd.prog (tlF Tryd.f3 16) (bodyPost Tryd.prog Tryd.f3 (fun e w' => e = .returned (.bool true) ∧ Below W.heap.size W w')) q w → K2 q w) := h2
  clear h2
  go_wp2_with fail
  with_reducible refine Calls.mono HC.out ?_
  rintro en Y ⟨o2, n2, s2, a2, e2, us2, rfl, tw2, bY2⟩
  obtain ⟨Z2, t2, row2, bb2, rc2⟩ := lay_R tw2
  obtain ⟨g2, p2, k2, ha2, f1, f2⟩ := HP.out _ _ _ _ _ _ rc2
  subst ha2
  have bZ2 : Below Z1.heap.size Z1 Z2 := (gr1 (gr1 (Below.refl _ Z1) _) _).trans ((bY2.trans (bb2.mono bY2.size)).mono (by simp; omega))
  have HX : Hid (Z2.heap[Y.heap.size]? = some (.cells (rV o2 n2 s2 P.sys P.bld (.slice (some ⟨g2, p2, none⟩) (j + 2) k2) e2) 33 (0, 0)) ∧ Below Z1.heap.size Z1 Z2 ∧ Z2.cell? ⟨g2, p2 + j, none⟩ = some (.string (sen x y)) ∧ Z2.cell? ⟨g2, p2 + (j + 1), none⟩ = some (.string NON)) := ⟨row2, bZ2, f1, f2⟩
  clear tw2 bY2 row2 bb2 rc2 bZ2 f1 f2
  go_wp2_with fail
  have bZ2 := HX.out.2.1
  have kp : ∀ {g i : Nat} {v : Value}, Z1.cell? ⟨g, i, none⟩ = some v → Z2.cell? ⟨g, i, none⟩ = some v := fun {g i v} h => (World.cell?_of_block (w := Z1) (bZ2.block g (World.block_lt_of_cell? Z1 ⟨g, i, none⟩ h))).trans h
  exact HK2.out _ _ (sd16 W Z2 rb Y.heap.size gr pr g2 p2 j cr k2 (sen x y) x y o n s _ e R (by have := HZ.out.2.2.2.2.1; omega) HZ.out.2.2.2.2.2 (HZ.out.1.trans (bZ2.mono HZ.out.1.size)) ((bZ2.block rb (Array.getElem?_eq_some_iff.1 HZ.out.2.1).1).trans HZ.out.2.1) (fun Y v1 v2 bY => HD.out Y v1 v2 (bZ2.trans (bY.mono bZ2.size))) (c1 HX.out.1 rfl) (kp HZ.out.2.2.2.1) HX.out.2.2.1 (kp HZ.out.2.2.1) HX.out.2.2.2)
end
section
attribute [local go_sem ↓] toLdR toStR
set_option maxRecDepth 100000 in
set_option maxHeartbeats 6400000 in
theorem sd9 (W Z : World) (rb : Nat) (x y : S) (o n s a e : Value) (R : Rcp) (A : List S) (hxy : W32 x ∧ W32 y ∧ x ≠ y) (hA : R.a = A ++ [sen x y, NON]) (hbn : Sm R ∧ A.length ≤ 1000 ∧ (∀ z ∈ R.a, z.size ≤ 2000) ∧ (∀ z ∈ R.e, z.2.size ≤ 2000)) (bZ : Below W.heap.size W Z)
    (hrow : Z.heap[rb]? = some (.cells (rV o n s R.sys R.bld a e) 33 (0, 0))) (hrc : Rc Z o n s a e R) {v0 v1 v2 v3 v4 v5 v6 v7 v8 v12 v13 v14 v15 v16 v17 v18 v19 v20 v21 v22 v23 v24 v25 v26 v27 v28 v29 v30 v31 v32 v33 v34 v35 v36 v37 v38 v39 v40 v41 v42 v43 v44 v45 v46 v47 v48 v49 v50 v51 v52 v53 v54 v55 v56 v57 v58 v59 v60 v61 v62 v63 v64 v65 v66 v67 v68 v69 v70 v71 v72 v73 v74 v75 v76 v77 v78 v79 v80 v81 v82 v83 v84 v85 v86 v87 v88 v89 v90 v91 v92 v93 v94 v95 v96 v97 v98 v99 v100 v101 v102 v103 v104 v105 v106 v107 v108 v109 v110 v111 v112 v113 v114 v115 v116 v117 v118 v119 v120 v121 v122 v123 v124 v125 v126 v127 v128 v129 v130 v131 v132 v133 v134 v135 v136 v137 v138 v139 v140 v141 v142 v143 v144 v145 v146 v147 v148 v149 v150 v151 v152 v153 v154 v155 v156 v157 v158 v159 v160 v161 v162 v163 v164 v165 v166 v167 v168 v169 v170 v171 : Value} :
    Code.wp Tryd.prog (tlF Tryd.f3 9) (bodyPost Tryd.prog Tryd.f3 (fun e w' => e = .returned (.bool true) ∧ Below W.heap.size W w')) ⟨#[v0, v1, v2, v3, v4, v5, v6, v7, v8, .string x, .string y, .pointer (some ⟨rb, 0, none⟩), v12, v13, v14, v15, v16, v17, v18, v19, v20, v21, v22, v23, v24, v25, v26, v27, v28, v29, v30, v31, v32, v33, v34, v35, v36, v37, v38, v39, v40, v41, v42, v43, v44, v45, v46, v47, v48, v49, v50, v51, v52, v53, v54, v55, v56, v57, v58, v59, v60, v61, v62, v63, v64, v65, v66, v67, v68, v69, v70, v71, v72, v73, v74, v75, v76, v77, v78, v79, v80, v81, v82, v83, v84, v85, v86, v87, v88, v89, v90, v91, v92, v93, v94, v95, v96, v97, v98, v99, v100, v101, v102, v103, v104, v105, v106, v107, v108, v109, v110, v111, v112, v113, v114, v115, v116, v117, v118, v119, v120, v121, v122, v123, v124, v125, v126, v127, v128, v129, v130, v131, v132, v133, v134, v135, v136, v137, v138, v139, v140, v141, v142, v143, v144, v145, v146, v147, v148, v149, v150, v151, v152, v153, v154, v155, v156, v157, v158, v159, v160, v161, v162, v163, v164, v165, v166, v167, v168, v169, v170, v171], []⟩ Z := by
  obtain ⟨hx, hy, hn⟩ := hxy
  have zx : x.size = 32 := by rw [← bl_len]; exact hx.1
  have zy : y.size = 32 := by rw [← bl_len]; exact hy.1
  have hr0 := (Array.getElem?_eq_some_iff.1 hrow).1
  obtain ⟨Q, hQ⟩ : ∃ Q, Q = swR ([x, y].zip [y, x]) R := ⟨_, rfl⟩
  obtain ⟨P, hP⟩ : ∃ P, P = swR ([y, x].zip [x, y]) Q := ⟨_, rfl⟩
  have qa : Q.a = A.map (swS ([x, y].zip [y, x])) ++ [sen y x, NON] := by
    rw [hQ]
    show R.a.map _ = _
    rw [hA, List.map_append, List.map_cons, List.map_cons, List.map_nil, swS_sen hx hy hn, swS_non (ks2 hx hy)]
  have pa : P.a = (A.map (swS ([x, y].zip [y, x]))).map (swS ([y, x].zip [x, y])) ++ [sen x y, NON] := by
    rw [hP]
    show Q.a.map _ = _
    rw [qa, List.map_append, List.map_cons, List.map_cons, List.map_nil, swS_sen hy hx (Ne.symm hn), swS_non (ks2 hy hx)]
  have lx : ∀ {z : S} {B : List S}, z ∈ B → (∀ b ∈ B, b = x ∨ b = y) → z.size ≤ 2000000 := fun {z B} hz h => by
    rcases h z hz with q | q <;> subst q <;> omega
  have two : ∀ {B : List S}, B = [x, y] ∨ B = [y, x] → ∀ b ∈ B, b = x ∨ b = y := fun {B} h b hb => by
    rcases h with q | q <;> subst q <;> simp at hb <;> rcases hb with r | r <;> simp [r]
  have sw1 := swS_le (C := [x, y].zip [y, x]) (ks2 hx hy) (fun p hp => by simp at hp; rcases hp with q | q <;> subst q <;> simp <;> omega)
  have nb1 : ∀ z ∈ Q.a, z.size ≤ 64000 := fun z hz => by
    rw [hQ] at hz
    obtain ⟨u, hu, rfl⟩ := List.mem_map.1 hz
    have := sw1 u
    have := hbn.2.2.1 u hu
    omega
  have nb2 : ∀ z ∈ Q.e, z.2.size ≤ 64000 := fun z hz => by
    rw [hQ] at hz
    obtain ⟨u, hu, rfl⟩ := List.mem_map.1 hz
    have := sw1 u.2
    have := hbn.2.2.2 u hu
    show (swS _ u.2).size ≤ _
    omega
  have smQ : Sm Q := by
    rw [hQ]
    obtain ⟨q1, q2, q3, q4, q5, q6⟩ := hbn.1
    exact ⟨q1, q2, q3, by show (R.a.map _).length ≤ _; rw [List.length_map]; exact q4, by show (R.e.map _).length ≤ _; rw [List.length_map]; exact q5, q6⟩
  have z5 : (x.extract 0 5).size ≤ 2000000 := by rw [ByteArray.size_extract]; omega
  have bd1 : Bd R [x, y] [y, x] := ⟨fun z hz => by have := hbn.2.2.1 z hz; omega, fun z hz => by have := hbn.2.2.2 z hz; omega, fun z hz => lx hz (two (.inl rfl)), fun z hz => lx hz (two (.inr rfl)), by simp, by simp⟩
  have bd2 : Bd Q [y, x] [x, y] := ⟨fun z hz => by have := nb1 z hz; omega, fun z hz => by have := nb2 z hz; omega, fun z hz => lx hz (two (.inr rfl)), fun z hz => lx hz (two (.inl rfl)), by simp, by simp⟩
  have bd3 : Bd R [x, x.extract 0 5] [y, y] := ⟨fun z hz => by have := hbn.2.2.1 z hz; omega, fun z hz => by have := hbn.2.2.2 z hz; omega, fun z hz => by simp at hz; rcases hz with q | q <;> subst q <;> omega, fun z hz => by simp at hz; subst hz; omega, by simp, by simp⟩
  have b1 : Below Z.heap.size Z ((Z.alloc (.cells #[.string x, .string y] 9)).alloc (.cells #[.string y, .string x] 9)) := gr1 (gr1 (Below.refl _ Z) _) _
  have HC1 : Hid (Calls Tryd.prog 6 #[.agg (rV o n s R.sys R.bld a e), .slice (some ⟨Z.heap.size, 0, none⟩) 2 2, .slice (some ⟨Z.heap.size + 1, 0, none⟩) 2 2] ((Z.alloc (.cells #[.string x, .string y] 9)).alloc (.cells #[.string y, .string x] 9)) (GiE ((Z.alloc (.cells #[.string x, .string y] 9)).alloc (.cells #[.string y, .string x] 9)) Q 0)) := by
    have := swapC_any ((Z.alloc (.cells #[.string x, .string y] 9)).alloc (.cells #[.string y, .string x] 9)) o n s a e R hbn.1 (hrc.below b1) (.slice (some ⟨Z.heap.size, 0, none⟩) 2 2) (.slice (some ⟨Z.heap.size + 1, 0, none⟩) 2 2) [x, y] [y, x] (lsb Z x y rfl (gr1 (Below.refl _ _) _)) (lsb (Z.alloc (.cells #[.string x, .string y] 9)) y x (by simp) (Below.refl _ _)) bd1
    rw [swE_ok _ _ (to := [y, x]) (apt2 hx hy hn) rfl, ← hQ] at this
    exact this
  have HC2 : Hid (∀ Z1 o' n' s' a' e', Rc Z1 o' n' s' a' e' Q → Calls Tryd.prog 6 #[.agg (rV o' n' s' Q.sys Q.bld a' e'), .slice (some ⟨Z1.heap.size, 0, none⟩) 2 2, .slice (some ⟨Z1.heap.size + 1, 0, none⟩) 2 2] ((Z1.alloc (.cells #[.string y, .string x] 9)).alloc (.cells #[.string x, .string y] 9)) (GiE ((Z1.alloc (.cells #[.string y, .string x] 9)).alloc (.cells #[.string x, .string y] 9)) P 0)) := fun Z1 o' n' s' a' e' hr => by
    have := swapC_any ((Z1.alloc (.cells #[.string y, .string x] 9)).alloc (.cells #[.string x, .string y] 9)) o' n' s' a' e' Q smQ (hr.below (gr1 (gr1 (Below.refl _ Z1) _) _)) (.slice (some ⟨Z1.heap.size, 0, none⟩) 2 2) (.slice (some ⟨Z1.heap.size + 1, 0, none⟩) 2 2) [y, x] [x, y] (lsb Z1 y x rfl (gr1 (Below.refl _ _) _)) (lsb (Z1.alloc (.cells #[.string y, .string x] 9)) x y (by simp) (Below.refl _ _)) bd2
    rw [swE_ok _ _ (to := [x, y]) (apt2 hy hx (Ne.symm hn)) rfl, ← hP] at this
    exact this
  have HC3 : Hid (∀ Y v1 v2, Below Z.heap.size Z Y → Ls Y v1 1 (([x, x.extract 0 5] : List S).map sR) → Ls Y v2 1 (([y, y] : List S).map sR) → Calls Tryd.prog 6 #[.agg (rV o n s R.sys R.bld a e), v1, v2] Y (GiE Y ZER 2)) := fun Y v1 v2 bY l1 l2 => by
    have := swapC_any Y o n s a e R hbn.1 (hrc.below bY) v1 v2 [x, x.extract 0 5] [y, y] l1 l2 bd3
    rw [swE_no _ _ (not_apt5 (ext5 x))] at this
    exact this
  obtain ⟨j, hj⟩ : ∃ j, A.length = j := ⟨_, rfl⟩
  have hj1 : j ≤ 1000 := by have := hbn.2.1; omega
  obtain ⟨gr, pr, cr, hav, ca1, ca2⟩ := args2 (by rw [← hA]; exact hrc.a)
  rw [hj] at hav ca1
  subst hav
  have lr := ld_R Z rb _ rfl hrow
  have eb : Q.bld = R.bld := by rw [hQ]; rfl
  have HZ : Hid (Below W.heap.size W Z ∧ Z.heap[rb]? = some (.cells (rV o n s R.sys R.bld (.slice (some ⟨gr, pr, none⟩) (j + 2) cr) e) 33 (0, 0)) ∧ Z.cell? ⟨gr, pr + j, none⟩ = some (.string (sen x y)) ∧ (∀ Z1 o' n' s' a' e', Rc Z1 o' n' s' a' e' Q → ∃ g1 p1 c1, a' = .slice (some ⟨g1, p1, none⟩) (j + 2) c1 ∧ Z1.cell? ⟨g1, p1 + j, none⟩ = some (.string (sen y x)) ∧ Z1.cell? ⟨g1, p1 + (j + 1), none⟩ = some (.string NON)) ∧ (∀ Z1 o' n' s' a' e', Rc Z1 o' n' s' a' e' P → ∃ g1 p1 c1, a' = .slice (some ⟨g1, p1, none⟩) (j + 2) c1 ∧ Z1.cell? ⟨g1, p1 + j, none⟩ = some (.string (sen x y)) ∧ Z1.cell? ⟨g1, p1 + (j + 1), none⟩ = some (.string NON))) := by
    refine ⟨bZ, hrow, ca1, fun Z1 o' n' s' a' e' hr => ?_, fun Z1 o' n' s' a' e' hr => ?_⟩
    · obtain ⟨g, u, c, e1, e2, e3⟩ := args2 (by rw [← qa]; exact hr.a)
      rw [List.length_map, hj] at e1 e2 e3
      exact ⟨g, u, c, e1, e2, e3⟩
    · obtain ⟨g, u, c, e1, e2, e3⟩ := args2 (by rw [← pa]; exact hr.a)
      rw [List.length_map, List.length_map, hj] at e1 e2 e3
      exact ⟨g, u, c, e1, e2, e3⟩
  have HJ : Hid (j ≤ 1000 ∧ rb < Z.heap.size) := ⟨hj1, hr0⟩
  have HZX : Hid (x.size = 32 ∧ y.size = 32 ∧ Q.bld = R.bld) := ⟨zx, zy, eb⟩
  clear zx zy eb hA hbn bZ hrow hrc hx hy hn hr0 hQ hP qa pa lx two sw1 nb1 nb2 smQ z5 bd1 bd2 bd3 b1 hj hj1 ca1 ca2
  conv => arg 2; whnf
  go_upto_region 9 with fail
  rename_i K2 h2
  have HK2 : Hid (∀ q w, Code.wp Tryd.prog (tlF Tryd.f3 10) (bodyPost Tryd.prog Tryd.f3 (fun e w' => e = .returned (.bool true) ∧ Below W.heap.size W w')) q w → K2 q w) := h2
  clear h2
  go_wp2_with fail
  with_reducible refine Calls.mono HC1.out ?_
  rintro en Y ⟨o1, n1, s1, a1, e1, us1, rfl, tw1, bY1⟩
  obtain ⟨Z1, t1, row1, bb1, rc1⟩ := lay_R tw1
  obtain ⟨g1, p1, k1, ha1, d1, d2⟩ := HZ.out.2.2.2.1 _ _ _ _ _ _ rc1
  subst ha1
  have bZ1 : Below Z.heap.size Z Z1 := (gr1 (gr1 (Below.refl _ Z) _) _).trans ((bY1.trans (bb1.mono bY1.size)).mono (by simp; omega))
  have rowZ := (bZ1.block rb HJ.out.2).trans HZ.out.2.1
  have HX : Hid (Z1.heap[Y.heap.size]? = some (.cells (rV o1 n1 s1 Q.sys Q.bld (.slice (some ⟨g1, p1, none⟩) (j + 2) k1) e1) 33 (0, 0)) ∧ Below Z.heap.size Z Z1 ∧ Rc Z1 o1 n1 s1 (.slice (some ⟨g1, p1, none⟩) (j + 2) k1) e1 Q ∧ Z1.heap[rb]? = some (.cells (rV o n s R.sys R.bld (.slice (some ⟨gr, pr, none⟩) (j + 2) cr) e) 33 (0, 0)) ∧ Z1.cell? ⟨g1, p1 + j, none⟩ = some (.string (sen y x)) ∧ Z1.cell? ⟨g1, p1 + (j + 1), none⟩ = some (.string NON)) := ⟨row1, bZ1, rc1, rowZ, d1, d2⟩
  clear tw1 bY1 row1 bb1 rc1 bZ1 rowZ d1 d2
  go_wp2_with fail
  have bZ1 := HX.out.2.1
  refine HK2.out _ _ (sd10 W Z1 rb Y.heap.size gr pr cr g1 p1 k1 j x y o n s e o1 n1 s1 e1 R Q P HJ.out.1 HZX.out.1 HZX.out.2.1 (HZ.out.1.trans (bZ1.mono HZ.out.1.size)) HX.out.2.2.2.1 HX.out.1 HZX.out.2.2 (HC2.out _ _ _ _ _ _ HX.out.2.2.1) (fun Y v1 v2 bY => HC3.out Y v1 v2 (bZ1.trans (bY.mono bZ1.size))) HZ.out.2.2.2.2 HX.out.2.2.2.2.1 HX.out.2.2.2.2.2 ?_)
  exact (World.cell?_of_block (w := Z) (bZ1.block gr (World.block_lt_of_cell? Z ⟨gr, pr + j, none⟩ HZ.out.2.2.1))).trans HZ.out.2.2.1
end
end Go.Proofs.YtceclpabdfncoaaDoor.Re
