/- GraphLeast: from region 32 on. -/
import Derived.Test.YtagfkgedfjlnkaaGlP
import Derived.Test.YtagfkgedfjlnkaaGlK
import Derived.Test.YtagfkgedfjlnkaaGlN
import Derived.Test.YtagfkgedfjlnkaaGlL
import Derived.Deep.Cut
import Derived.BigQuiet
namespace Go.Proofs.Ytagfkgedfjlnkaa
open Go.RowKit GM Gl
def headR : Code → Option Nat
  | .region id _ _ => some id
  | .seq a _ => headR a
  | .scope c => headR c
  | .block _ c => headR c
  | .loop c => headR c
  | _ => none
def fromR (n : Nat) : Code → Option (Bool × Code)
  | .seq a b => if headR a = some n then some (false, .seq a b) else match fromR n a with
    | some (false, c) => some (false, .seq c b)
    | some (true, c) => some (true, c)
    | none => fromR n b
  | .scope c => fromR n c
  | .block _ c => (fromR n c).map fun p => (true, p.2)
  | .loop c => (fromR n c).map fun p => (true, p.2)
  | .cond _ a b => match fromR n a with
    | some p => some (true, p.2)
    | none => (fromR n b).map fun p => (true, p.2)
  | _ => none
noncomputable def tlF (f : Func) (k : Nat) : Code := (((f.body.bind (fromR k)).map (·.2)).getD .skip)

theorem run_cutL (w : World) (g o n c k : Nat) (hk : k ≤ n) (hn : n ≤ c) : ∃ o', (slE (.slice (some ⟨g, o, none⟩) n c) (some (.int .i64 (k : Int))) none none).run Try.prog w = .ok (.slice (some ⟨g, o', none⟩) (n - k) (c - k)) w ∧ (0 < n - k → o' = o + k * 2) := by
  have := run_slice_l (P := Try.prog) w 22 (some ⟨g, o, none⟩) n c uE .i64 (k : Int) (by omega) (by omega)
  obtain ⟨i, hi, _, hs, _⟩ := info_parts info53
  have hz : (sizeOf 26).run Try.prog w = .ok 2 w := by simp [sizeOf, typeInfo, hi, hs]
  unfold slE
  rw [this, elemE, hz]
  simp [Result.andThen, sliced]
  by_cases e : c = k
  · exact ⟨o, by rw [if_pos e], fun h => by omega⟩
  · exact ⟨o + k * 2, by rw [if_neg e, Go.WideShapes.add_plain], fun _ => rfl⟩
/-- The edges ahead of one, and behind it. -/
theorem el_take {l : List (Int × Int)} {g o n c : Nat} {w : World} (h : El (.slice (some ⟨g, o, none⟩) n c) l w) (k : Nat) (hk : k ≤ l.length) : El (.slice (some ⟨g, o, none⟩) k c) (l.take k) w ∧ n = l.length ∧ n ≤ c := by
  rcases h with ⟨q, -⟩ | ⟨b, off, cap, e, h1, h2, h3, h4⟩
  · cases q
  · injection e with e1 e2 e3
    injection e1 with e1
    injection e1 with e1 e4
    subst e1 e2 e3 e4
    refine ⟨.inr ⟨g, o, c, by rw [List.length_take, Nat.min_eq_left hk], by rw [List.length_take]; omega, h2, h3, fun j hj => ?_⟩, rfl, h1⟩
    rw [List.length_take] at hj
    have := h4 j (by omega)
    have e : (l.take k).getD j (0, 0) = l.getD j (0, 0) := by
      simp only [List.getD]
      rw [List.getElem?_take, if_pos (by omega)]
    rw [e]
    exact this
theorem el_drop {l : List (Int × Int)} {g o n c : Nat} {w : World} (h : El (.slice (some ⟨g, o, none⟩) n c) l w) (k o' : Nat) (hk : k ≤ l.length) (ho : 0 < n - k → o' = o + k * 2) : El (.slice (some ⟨g, o', none⟩) (n - k) (c - k)) (l.drop k) w := by
  rcases h with ⟨q, -⟩ | ⟨b, off, cap, e, h1, h2, h3, h4⟩
  · cases q
  · injection e with e1 e2 e3
    injection e1 with e1
    injection e1 with e1 e4
    subst e1 e2 e3 e4
    refine .inr ⟨g, o', c - k, by rw [List.length_drop], by rw [List.length_drop]; omega, by omega, h3, fun j hj => ?_⟩
    rw [List.length_drop] at hj
    have := h4 (k + j) (by omega)
    rw [ho (by omega)]
    have e : (l.drop k).getD j (0, 0) = l.getD (k + j) (0, 0) := by
      simp only [List.getD]
      rw [List.getElem?_drop]
    rw [e, show o + k * 2 + j * 2 = o + (k + j) * 2 by omega]
    exact this
theorem zE_take (E : List (Nat × Nat)) (k : Nat) : (zE E).take k = zE (E.take k) := by simp [zE]
theorem zE_drop (E : List (Nat × Nat)) (k : Nat) : (zE E).drop k = zE (E.drop k) := by simp [zE]
theorem zE_app (A B : List (Nat × Nat)) : zE A ++ zE B = zE (A ++ B) := by simp [zE]
theorem geI (k : Nat) : (0 : Int) ≤ (k : Int) := by omega
theorem ltI {k m : Nat} (h : k < m) : (k : Int) < (m : Int) := by omega
theorem castS (k : Nat) : ((k + 1 : Nat) : Int) = (k : Int) + 1 := by omega
theorem nzI {m : Nat} (h : ¬ m = 0) : ¬ ((m : Int) = 0) := by omega
theorem kwI (k : Nat) (h : k ≤ 500000) : wrap64 ((k : Int) + 1) = ((k + 1 : Nat) : Int) := by unfold wrap64; omega
section
attribute [local go_sem ↓] toApE toSlE
set_option maxRecDepth 100000 in
set_option maxHeartbeats 6400000 in
theorem gl32 (W X : World) (rb N : Nat) (dr : Int) (rv : Value) (R : List (Nat × Nat)) (bX : Below W.heap.size W X) (row : X.heap[rb]? = some (.cells #[.int .i64 (N : Int), rv] 24 (0, 0))) (hv : El rv (zE R) X) (hR : ∀ e ∈ R, e.1 < N ∧ e.2 < N) (hl : R.length ≤ 500000) (hN : N ≤ 1024) (hless : ∀ k a b, R[k]? = some (a, b) → pb (R.take k ++ R.drop (k + 1)) N a b = false) {v0 v1 v3 v4 v5 v6 v7 v8 v9 v10 v12 v13 v14 v15 v16 v17 v18 v19 v20 v21 v22 v23 v24 v25 v26 v27 v28 v29 v30 v31 v32 v33 v34 v35 v36 v37 v38 v39 v40 v41 v42 v43 v44 v45 v46 v47 v48 v49 v50 v51 v52 v53 v54 v55 v56 v57 v58 v59 v60 v61 v62 v63 v64 v65 v66 v67 v68 v69 v70 v71 v72 v73 v74 v75 v76 v77 v78 v79 v80 v81 v82 v83 v84 v85 v86 v87 v88 v89 v90 v91 v92 v93 v94 v95 v96 v97 v98 v99 v100 v101 v102 v103 v104 v105 v106 v107 v108 v109 v110 v111 v112 v113 v114 v115 v116 v117 v118 v119 v120 v121 v122 v123 v124 v125 v126 v127 v128 v129 v130 v131 v132 v133 v134 v135 v136 v137 v138 v139 v140 v141 v142 v143 v144 v145 v146 v147 v148 v149 v150 v151 v152 v153 v154 v155 v156 v157 v158 v159 v160 v161 v162 v163 v164 v165 v166 v167 v168 v169 v170 v171 v172 v173 v174 v175 v176 v177 v178 v179 v180 v181 v182 v183 v184 v185 v186 v187 v188 v189 v190 : Value} :
    Code.wp Try.prog (tlF Try.f3 32) (bodyPost Try.prog Try.f3 (fun e w' => e = .returned (.bool true) ∧ Below W.heap.size W w')) ⟨#[v0, v1, .int .i64 dr, v3, v4, v5, v6, v7, v8, v9, v10, .pointer (some ⟨rb, 0, none⟩), v12, v13, v14, v15, v16, v17, v18, v19, v20, v21, v22, v23, v24, v25, v26, v27, v28, v29, v30, v31, v32, v33, v34, v35, v36, v37, v38, v39, v40, v41, v42, v43, v44, v45, v46, v47, v48, v49, v50, v51, v52, v53, v54, v55, v56, v57, v58, v59, v60, v61, v62, v63, v64, v65, v66, v67, v68, v69, v70, v71, v72, v73, v74, v75, v76, v77, v78, v79, v80, v81, v82, v83, v84, v85, v86, v87, v88, v89, v90, v91, v92, v93, v94, v95, v96, v97, v98, v99, v100, v101, v102, v103, v104, v105, v106, v107, v108, v109, v110, v111, v112, v113, v114, v115, v116, v117, v118, v119, v120, v121, v122, v123, v124, v125, v126, v127, v128, v129, v130, v131, v132, v133, v134, v135, v136, v137, v138, v139, v140, v141, v142, v143, v144, v145, v146, v147, v148, v149, v150, v151, v152, v153, v154, v155, v156, v157, v158, v159, v160, v161, v162, v163, v164, v165, v166, v167, v168, v169, v170, v171, v172, v173, v174, v175, v176, v177, v178, v179, v180, v181, v182, v183, v184, v185, v186, v187, v188, v189, v190], []⟩ X := by
  obtain ⟨o', c', hvf, -, ho⟩ := hv.form
  rw [zE_len] at hvf ho
  subst hvf
  obtain ⟨m, hm⟩ : ∃ m, R.length = m := ⟨_, rfl⟩
  rw [hm] at ho hl row hv
  have l0 : X.cell? ⟨rb, 0, none⟩ = some (.int .i64 (N : Int)) := (cell_of_row _ _ _ _ _ _ row).trans rfl
  have l1 : X.cell? ⟨rb, 1, none⟩ = some (.slice o' m c') := (cell_of_row _ _ _ _ _ _ row).trans rfl
  have HB : Hid (Below W.heap.size W X) := bX
  by_cases h0 : m = 0
  · subst h0
    have l1' : X.cell? ⟨rb, 1, none⟩ = some (.slice o' 0 c') := l1
    clear bX row hv hR hl hN hless ho hm l1
    conv => arg 2; whnf
    go_wp2_with fail
    go_ret
    exact ⟨rfl, HB.out⟩
  · obtain ⟨r, hr, hr2⟩ := and_ex65535 dr
    obtain ⟨eb, eo, rfl, q2, q3⟩ := ho (by omega)
    have qk := tmod_n r m hr2
    have qk2 : (r : Int) % (m : Int) = ((r % m : Nat) : Int) := by simp
    have hk : r % m < m := Nat.mod_lt _ (by omega)
    obtain ⟨k, ek⟩ : ∃ k, r % m = k := ⟨_, rfl⟩
    rw [ek] at qk qk2 hk
    obtain ⟨t1, t2, t3⟩ := el_take hv k (by rw [zE_len]; omega)
    obtain ⟨v1, W1, a1, ow1, g1⟩ := run_apE X X.heap.size 0 22 (.slice none 0 0) _ [] _ (World.ownsRow_nil _ _ _ _) t1 (by rw [List.length_take, zE_len]; omega) (Nat.le_refl _)
    have b1 : Below X.heap.size X W1 := ⟨g1.os, g1.tape, g1.output, g1.size, fun j hj => g1.block j hj (fun q => by cases q)⟩
    have cu1 := run_cutE X eb eo m c' k (by omega)
    have hv1 := hv.below b1
    obtain ⟨od, cu2, ed⟩ := run_cutL W1 eb eo m c' (k + 1) (by omega) t3
    have d1 := el_drop hv1 (k + 1) od (by rw [zE_len]; omega) ed
    rw [castS] at cu2
    have l1a : W1.cell? ⟨rb, 1, none⟩ = some (.slice (some ⟨eb, eo, none⟩) m c') := (World.cell?_of_block (w := X) (b1.block rb (Array.getElem?_eq_some_iff.1 row).1)).trans l1
    obtain ⟨oa1, ca1, rfl⟩ := own_size ow1
    obtain ⟨v2, W2, a2, ow2, g2⟩ := run_apE W1 X.heap.size _ 22 _ _ _ _ ow1 d1 (by rw [List.length_drop, List.length_take, zE_len]; omega) b1.size
    have b2 : Below X.heap.size X W2 := below_grown b1 g2 b1.size (fun g hg => (ow1.lt g hg).1)
    obtain ⟨oa2, ca2, rfl⟩ := own_size ow2
    have eS : ([] : List (Int × Int)) ++ (zE R).take k ++ (zE R).drop (k + 1) = zE (R.take k ++ R.drop (k + 1)) := by rw [List.nil_append, zE_take, zE_drop, zE_app]
    rw [eS] at ow2
    obtain ⟨n2, el2⟩ := el_own ow2
    obtain ⟨p1, hp1⟩ : ∃ p, 0 + ((zE R).take k).length = p := ⟨_, rfl⟩
    rw [hp1] at a1 a2 el2
    obtain ⟨p2, hp2⟩ : ∃ p, p1 + ((zE R).drop (k + 1)).length = p := ⟨_, rfl⟩
    rw [hp2] at a2 el2
    obtain ⟨E', hE'⟩ : ∃ E', R.take k ++ R.drop (k + 1) = E' := ⟨_, rfl⟩
    rw [hE'] at el2
    have sE : ∀ e ∈ E', e ∈ R := fun e he => by
      rw [← hE'] at he
      rcases List.mem_append.1 he with q | q
      · exact List.mem_of_mem_take q
      · exact List.mem_of_mem_drop q
    have lE : E'.length ≤ 1000000 := by rw [← hE', List.length_append, List.length_take, List.length_drop]; omega
    obtain ⟨a, b, hab⟩ : ∃ a b, R[k]? = some (a, b) := ⟨_, _, List.getElem?_eq_getElem (by omega)⟩
    have hpf := hless k a b hab
    rw [hE'] at hpf
    obtain ⟨haN, hbN⟩ := hR _ (List.mem_of_getElem? hab)
    simp only at haN hbN
    have CL : Hid (Calls Try.prog 6 #[.agg #[.int .i64 (N : Int), .slice oa2 p2 ca2]] W2 fun e w' => ∃ gM C, e = .returned (.slice (some ⟨gM, 0, none⟩) N N) ∧ Mx W2 C gM N N (pb E' N) w') := leads_any N hN E' (fun e he => hR e (sE e he)) lE _ W2 el2
    have rw2 := (b2.block rb (Array.getElem?_eq_some_iff.1 row).1).trans row
    have l0b : W2.cell? ⟨rb, 0, none⟩ = some (.int .i64 (N : Int)) := (cell_of_row _ _ _ _ _ _ rw2).trans rfl
    obtain ⟨z1, z2⟩ := q3 k hk
    rw [zE_get R k a b hab] at z1 z2
    have HQ : Hid (∀ Y gM C, Mx W2 C gM N N (pb E' N) Y → Below W.heap.size W Y ∧ Y.cell? ⟨rb, 1, none⟩ = some (.slice (some ⟨eb, eo, none⟩) m c') ∧ Y.cell? ⟨eb, eo + k * 2, none⟩ = some (.int .i64 (a : Int)) ∧ Y.cell? ⟨eb, eo + k * 2 + 1, none⟩ = some (.int .i64 (b : Int)) ∧ Y.cell? ⟨gM, a, none⟩ = some (.slice (some ⟨gM + 1 + a, 0, none⟩) N N) ∧ Y.cell? ⟨gM + 1 + a, b, none⟩ = some (.bool false)) := fun Y gM C mx => by
      have bY : Below X.heap.size X Y := b2.trans (mx.bel.mono b2.size)
      refine ⟨bX.trans (bY.mono bX.size), (World.cell?_of_block (w := X) (bY.block rb (Array.getElem?_eq_some_iff.1 row).1)).trans l1, (World.cell?_of_block (w := X) (bY.block eb q2)).trans z1, (World.cell?_of_block (w := X) (bY.block eb q2)).trans z2, mx.at a haN (Nat.le_refl _), ?_⟩
      rw [(mx.get a b haN hbN).1, hpf]
    have k0 := geI k
    have k1 := ltI hk
    have kw := kwI k (Nat.le_trans (Nat.le_of_lt hk) hl)
    have a0 := geI a
    have a1' := ltI haN
    have b0 := geI b
    have b1' := ltI hbN
    have nz := nzI h0
    clear bX row hv hR hl hN hless ho hm q2 q3 hr2 hk ek t1 t2 t3 ow1 g1 b1 hv1 d1 ow2 g2 b2 n2 el2 hp1 hp2 hE' sE lE hab hpf haN hbN rw2 z1 z2 eS ed h0
    conv => arg 2; whnf
    go_wp2_with fail
    with_reducible refine Calls.mono CL.out ?_
    rintro en Y ⟨gM, C, rfl, mx⟩
    obtain ⟨bY, y1, y2, y3, y4, y5⟩ := HQ.out Y gM C mx
    have HBY : Hid (Below W.heap.size W Y) := bY
    clear bY mx
    go_wp2_with fail
    go_quiet (fail)
    go_wp2_with fail
    go_ret
    exact ⟨rfl, HBY.out.trans ⟨rfl, rfl, rfl, Nat.le_refl _, fun _ _ => rfl⟩⟩
end
end Go.Proofs.Ytagfkgedfjlnkaa
