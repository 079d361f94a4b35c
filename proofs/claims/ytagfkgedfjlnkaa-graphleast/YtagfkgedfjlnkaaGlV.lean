/- GraphLeast: the law. -/
import Derived.Test.YtagfkgedfjlnkaaGlU
import Derived.Test.YtagfkgedfjlnkaaGlQ
namespace Go.Proofs.Ytagfkgedfjlnkaa
open Go.RowKit GM Gl
theorem ec_set (l : List (Int × Int)) : ∀ (p : Nat) (x : Int × Int), ec (l.set p x) = ((ec l).set (p * 2) (.int .i64 x.1)).set (p * 2 + 1) (.int .i64 x.2) := by
  induction l with
  | nil => intro p x; simp [ec]
  | cons y r ih =>
    intro p x
    have e : ∀ (z : Int × Int) (s : List (Int × Int)), ec (z :: s) = .int .i64 z.1 :: .int .i64 z.2 :: ec s := fun _ _ => rfl
    cases p with
    | zero => rw [List.set_cons_zero, e, e]; rfl
    | succ p =>
      rw [List.set_cons_succ, e, e, ih p x, show (p + 1) * 2 = p * 2 + 1 + 1 by omega, show p * 2 + 1 + 1 + 1 = (p * 2 + 1) + 1 + 1 by omega]
      simp only [List.set_cons_succ]
theorem zE_set (E : List (Nat × Nat)) (p x y : Nat) : zE (E.set p (x, y)) = (zE E).set p ((x : Int), (y : Int)) := by simp [zE, List.map_set]
set_option maxRecDepth 100000 in
set_option maxHeartbeats 6400000 in
theorem gl12 (W X : World) (gb N : Nat) (dr : Int) (gv : Value) (E : List (Nat × Nat)) (bX : Below W.heap.size W X) (hgb : W.heap.size ≤ gb) (rowg : X.heap[gb]? = some (.cells #[.int .i64 (N : Int), gv] 24 (0, 0))) (hg : El gv (zE E) X) (hE : E.length ≤ 400) (hN : N ≤ 60) (hd : N ≠ 1 → Dn N E) {v0 v1 v3 v4 v5 v6 v8 v9 v10 v11 v12 v13 v14 v15 v16 v17 v18 v19 v20 v21 v22 v23 v24 v25 v26 v27 v28 v29 v30 v31 v32 v33 v34 v35 v36 v37 v38 v39 v40 v41 v42 v43 v44 v45 v46 v47 v48 v49 v50 v51 v52 v53 v54 v55 v56 v57 v58 v59 v60 v61 v62 v63 v64 v65 v66 v67 v68 v69 v70 v71 v72 v73 v74 v75 v76 v77 v78 v79 v80 v81 v82 v83 v84 v85 v86 v87 v88 v89 v90 v91 v92 v93 v94 v95 v96 v97 v98 v99 v100 v101 v102 v103 v104 v105 v106 v107 v108 v109 v110 v111 v112 v113 v114 v115 v116 v117 v118 v119 v120 v121 v122 v123 v124 v125 v126 v127 v128 v129 v130 v131 v132 v133 v134 v135 v136 v137 v138 v139 v140 v141 v142 v143 v144 v145 v146 v147 v148 v149 v150 v151 v152 v153 v154 v155 v156 v157 v158 v159 v160 v161 v162 v163 v164 v165 v166 v167 v168 v169 v170 v171 v172 v173 v174 v175 v176 v177 v178 v179 v180 v181 v182 v183 v184 v185 v186 v187 v188 v189 v190 : Value} :
    Code.wp Try.prog (tlF Try.f3 12) (bodyPost Try.prog Try.f3 (fun e w' => e = .returned (.bool true) ∧ Below W.heap.size W w')) ⟨#[v0, v1, .int .i64 dr, v3, v4, v5, v6, .pointer (some ⟨gb, 0, none⟩), v8, v9, v10, v11, v12, v13, v14, v15, v16, v17, v18, v19, v20, v21, v22, v23, v24, v25, v26, v27, v28, v29, v30, v31, v32, v33, v34, v35, v36, v37, v38, v39, v40, v41, v42, v43, v44, v45, v46, v47, v48, v49, v50, v51, v52, v53, v54, v55, v56, v57, v58, v59, v60, v61, v62, v63, v64, v65, v66, v67, v68, v69, v70, v71, v72, v73, v74, v75, v76, v77, v78, v79, v80, v81, v82, v83, v84, v85, v86, v87, v88, v89, v90, v91, v92, v93, v94, v95, v96, v97, v98, v99, v100, v101, v102, v103, v104, v105, v106, v107, v108, v109, v110, v111, v112, v113, v114, v115, v116, v117, v118, v119, v120, v121, v122, v123, v124, v125, v126, v127, v128, v129, v130, v131, v132, v133, v134, v135, v136, v137, v138, v139, v140, v141, v142, v143, v144, v145, v146, v147, v148, v149, v150, v151, v152, v153, v154, v155, v156, v157, v158, v159, v160, v161, v162, v163, v164, v165, v166, v167, v168, v169, v170, v171, v172, v173, v174, v175, v176, v177, v178, v179, v180, v181, v182, v183, v184, v185, v186, v187, v188, v189, v190], []⟩ X := by
  obtain ⟨og, cg, hgf, -, -⟩ := hg.form
  rw [zE_len] at hgf
  subst hgf
  have g0 : X.cell? ⟨gb, 0, none⟩ = some (.int .i64 (N : Int)) := (cell_of_row _ _ _ _ _ _ rowg).trans rfl
  have g1 : X.cell? ⟨gb, 1, none⟩ = some (.slice og E.length cg) := (cell_of_row _ _ _ _ _ _ rowg).trans rfl
  have f1 : X.frozen? ⟨gb, 1, none⟩ = false := frozen_of_row _ _ _ _ _ rowg
  obtain ⟨mg, hmg⟩ : ∃ m, E.length = m := ⟨_, rfl⟩
  have HH : Hid (Below W.heap.size W X ∧ W.heap.size ≤ gb ∧ X.heap[gb]? = some (.cells #[.int .i64 (N : Int), .slice og mg cg] 24 (0, 0)) ∧ El (.slice og mg cg) (zE E) X ∧ E.length ≤ 400 ∧ N ≤ 60 ∧ (N ≠ 1 → Dn N E)) := ⟨bX, hgb, by rw [← hmg]; exact rowg, by rw [← hmg]; exact hg, hE, hN, hd⟩
  rw [hmg] at g1
  clear bX hgb rowg hg hE hN hd hmg
  conv => arg 2; whnf
  refine wp_seq_k ?_
  intro K hK
  have HK2 : Hid (∀ q w, Code.wp Try.prog (tlF Try.f3 14) (bodyPost Try.prog Try.f3 (fun e w' => e = .returned (.bool true) ∧ Below W.heap.size W w')) q w → K q w) := hK
  clear hK
  by_cases h1 : N = 1
  · subst h1
    have g0' : X.cell? ⟨gb, 0, none⟩ = some (.int .i64 1) := g0
    clear g0
    obtain ⟨Z, hZ⟩ : ∃ Z, X.setCell ⟨gb, 1, none⟩ (.slice none 0 0) = Z := ⟨_, rfl⟩
    have HZ : Hid (Below W.heap.size W Z ∧ Z.heap[gb]? = some (.cells #[.int .i64 ((1 : Nat) : Int), .slice none 0 0] 24 (0, 0))) := by
      obtain ⟨s1, s2, s3, -⟩ := HH.out
      rw [← hZ]
      exact ⟨s1.setCell (by show W.heap.size ≤ gb; exact s2) _, (heap_setCell_same _ _ _ _ _ _ s3).trans rfl⟩
    go_wp2_with fail
    exact HK2.out _ _ (gl14 W Z gb 1 dr (.slice none 0 0) [] HZ.out.1 HZ.out.2 (.inl ⟨rfl, rfl⟩) (Nat.zero_le _) (by decide) (fun e he => by cases he))
  · have n1 : ¬ ((N : Int) = 1) := by omega
    go_wp2_with fail
    obtain ⟨s1, s2, s3, s4, s5, s6, s7⟩ := HH.out
    exact HK2.out _ _ (gl14 W X gb N dr _ E s1 s3 s4 s5 s6 (s7 h1))
theorem own_setE {w : World} {B eb n c : Nat} {F : List (Nat × Nat)} (h : w.ownsRow B 26 2 (.slice (some ⟨eb, 0, none⟩) n c) n (ec (zE F))) (i x y : Nat) : ((w.setCell ⟨eb, i * 2, none⟩ (.int .i64 (x : Int))).setCell ⟨eb, i * 2 + 1, none⟩ (.int .i64 (y : Int))).ownsRow B 26 2 (.slice (some ⟨eb, 0, none⟩) n c) n (ec (zE (F.set i (x, y)))) ∧ w.frozen? ⟨eb, i * 2, none⟩ = false ∧ w.frozen? ⟨eb, i * 2 + 1, none⟩ = false := by
  obtain ⟨h0, h1⟩ := h
  rcases h1 with ⟨h1, -⟩ | ⟨g, cap, cur, e, hB, hg, hnc, hcm, hcs, htk⟩
  · cases h1
  · injection e with e1 e2 e3
    injection e1 with e1
    injection e1 with e1
    subst e1 e3
    refine ⟨⟨by rw [zE_set, ec_set]; simpa using h0, .inr ⟨eb, c, (cur.setIfInBounds (i * 2) (.int .i64 (x : Int))).setIfInBounds (i * 2 + 1) (.int .i64 (y : Int)), rfl, hB, heap_setCell_same _ _ _ _ _ _ (heap_setCell_same _ _ _ _ _ _ hg), hnc, hcm, by simpa using hcs, ?_⟩⟩, frozen_of_row _ _ _ _ _ hg, frozen_of_row _ _ _ _ _ hg⟩
    rw [zE_set, ec_set, Array.toList_setIfInBounds, Array.toList_setIfInBounds, List.take_set, List.take_set, htk]
/-- The edges, the first of them turned. -/
structure Tn (W : World) (gb N m i eb c : Nat) (F : List (Nat × Nat)) (X : World) : Prop where
  bel : Below W.heap.size W X
  row : X.heap[gb]? = some (.cells #[.int .i64 (N : Int), .slice (some ⟨eb, 0, none⟩) m c] 24 (0, 0))
  own : X.ownsRow (W.heap.size + 2) 26 2 (.slice (some ⟨eb, 0, none⟩) m c) m (ec (zE F))
  len : F.length = m
  lt : ∀ e ∈ F, e.1 < N ∧ e.2 < N
  dn : ∀ k a b, k < i → F[k]? = some (a, b) → N ≠ 1 → b < a
/-- One edge more is turned. -/
theorem Tn.step {W : World} {gb N m i eb c : Nat} {F : List (Nat × Nat)} {X : World} (h : Tn W gb N m i eb c F X) (hi : i < m) (hne : gb ≠ eb) (x y : Nat) (hx : x < N) (hy : y < N) (hxy : N ≠ 1 → y < x) : Tn W gb N m (i + 1) eb c (F.set i (x, y)) ((X.setCell ⟨eb, i * 2, none⟩ (.int .i64 (x : Int))).setCell ⟨eb, i * 2 + 1, none⟩ (.int .i64 (y : Int))) := by
  have hb : W.heap.size + 2 ≤ eb := (h.own.lt eb rfl).1
  refine ⟨(h.bel.setCell (by show W.heap.size ≤ eb; omega) _).setCell (by show W.heap.size ≤ eb; omega) _, ?_, (own_setE h.own i x y).1, by simp [h.len], fun e he => ?_, fun k a b hk hab hn => ?_⟩
  · rw [heap_setCell_other _ _ _ _ (by show gb ≠ eb; exact hne), heap_setCell_other _ _ _ _ (by show gb ≠ eb; exact hne)]
    exact h.row
  · rcases List.mem_or_eq_of_mem_set he with q | q
    · exact h.lt e q
    · subst q; exact ⟨hx, hy⟩
  · rw [List.getElem?_set] at hab
    by_cases q : i = k
    · subst q
      rw [if_pos rfl, if_pos (by rw [h.len]; exact hi)] at hab
      injection hab with hab
      injection hab with h1 h2
      subst h1 h2
      exact hxy hn
    · rw [if_neg q] at hab
      exact h.dn k a b (by omega) hab hn
theorem turn_eq {a N : Nat} (ha : a < N) (hN : N ≠ 1) : (a + 1) % N ≠ a := by
  by_cases q : a + 1 < N
  · rw [Nat.mod_eq_of_lt q]; omega
  · have : a + 1 = N := by omega
    rw [this, Nat.mod_self]; omega
set_option maxRecDepth 100000 in
set_option maxHeartbeats 6400000 in
theorem gl2 (W X : World) (gb N m eb c : Nat) (dr : Int) (F : List (Nat × Nat)) (h : Tn W gb N m 0 eb c F X) (hgb : W.heap.size ≤ gb) (hne : gb ≠ eb) (hm : m ≤ 400) (hN : N ≤ 60) {v0 v1 v3 v4 v5 v6 v8 v9 v10 v11 v12 v13 v14 v15 v16 v17 v18 v19 v20 v21 v22 v23 v24 v25 v26 v27 v28 v29 v30 v31 v32 v33 v34 v35 v36 v37 v38 v39 v40 v41 v42 v43 v44 v45 v46 v47 v48 v49 v50 v51 v52 v53 v54 v55 v56 v57 v58 v59 v60 v61 v62 v63 v64 v65 v66 v67 v68 v69 v70 v71 v72 v73 v74 v75 v76 v77 v78 v79 v80 v81 v82 v83 v84 v85 v86 v87 v88 v89 v90 v91 v92 v93 v94 v95 v96 v97 v98 v99 v100 v101 v102 v103 v104 v105 v106 v107 v108 v109 v110 v111 v112 v113 v114 v115 v116 v117 v118 v119 v120 v121 v122 v123 v124 v125 v126 v127 v128 v129 v130 v131 v132 v133 v134 v135 v136 v137 v138 v139 v140 v141 v142 v143 v144 v145 v146 v147 v148 v149 v150 v151 v152 v153 v154 v155 v156 v157 v158 v159 v160 v161 v162 v163 v164 v165 v166 v167 v168 v169 v170 v171 v172 v173 v174 v175 v176 v177 v178 v179 v180 v181 v182 v183 v184 v185 v186 v187 v188 v189 v190 : Value} :
    Code.wp Try.prog (tlF Try.f3 2) (bodyPost Try.prog Try.f3 (fun e w' => e = .returned (.bool true) ∧ Below W.heap.size W w')) ⟨#[v0, v1, .int .i64 dr, v3, v4, v5, v6, .pointer (some ⟨gb, 0, none⟩), v8, v9, v10, v11, v12, v13, v14, v15, v16, v17, v18, v19, v20, v21, v22, v23, v24, v25, v26, v27, v28, v29, v30, v31, v32, v33, v34, v35, v36, v37, v38, v39, v40, v41, v42, v43, v44, v45, v46, v47, v48, v49, v50, v51, v52, v53, v54, v55, v56, v57, v58, v59, v60, v61, v62, v63, v64, v65, v66, v67, v68, v69, v70, v71, v72, v73, v74, v75, v76, v77, v78, v79, v80, v81, v82, v83, v84, v85, v86, v87, v88, v89, v90, v91, v92, v93, v94, v95, v96, v97, v98, v99, v100, v101, v102, v103, v104, v105, v106, v107, v108, v109, v110, v111, v112, v113, v114, v115, v116, v117, v118, v119, v120, v121, v122, v123, v124, v125, v126, v127, v128, v129, v130, v131, v132, v133, v134, v135, v136, v137, v138, v139, v140, v141, v142, v143, v144, v145, v146, v147, v148, v149, v150, v151, v152, v153, v154, v155, v156, v157, v158, v159, v160, v161, v162, v163, v164, v165, v166, v167, v168, v169, v170, v171, v172, v173, v174, v175, v176, v177, v178, v179, v180, v181, v182, v183, v184, v185, v186, v187, v188, v189, v190], []⟩ X := by
  have HH : Hid (Tn W gb N m 0 eb c F X ∧ W.heap.size ≤ gb ∧ gb ≠ eb ∧ m ≤ 400 ∧ N ≤ 60) := ⟨h, hgb, hne, hm, hN⟩
  clear h hgb hne hm hN
  conv => arg 2; whnf
  refine wp_seq_k ?_
  intro K hK
  have HK2 : Hid (∀ q w, Code.wp Try.prog (tlF Try.f3 12) (bodyPost Try.prog Try.f3 (fun e w' => e = .returned (.bool true) ∧ Below W.heap.size W w')) q w → K q w) := hK
  clear hK
  go_wp2_with fail
  go_loopw [8] (fun iv wr => ∃ (i : Nat), iv = .int .i64 (i : Int) ∧ Hid (i ≤ m ∧ ∃ F, Tn W gb N m i eb c F wr)) (fun iv _ => m + 1 - (intOf iv).toNat)
  case atStart => exact ⟨0, rfl, Nat.zero_le _, F, HH.out.1⟩
  case round =>
    obtain ⟨i, rfl, HI⟩ := hrel
    obtain ⟨hi, F, tn⟩ := HI.out
    have g0 : wr.cell? ⟨gb, 0, none⟩ = some (.int .i64 (N : Int)) := (cell_of_row _ _ _ _ _ _ tn.row).trans rfl
    have g1 : wr.cell? ⟨gb, 1, none⟩ = some (.slice (some ⟨eb, 0, none⟩) m c) := (cell_of_row _ _ _ _ _ _ tn.row).trans rfl
    by_cases h1 : i < m
    · obtain ⟨a, b, hab⟩ : ∃ a b, F[i]? = some (a, b) := ⟨_, _, List.getElem?_eq_getElem (by rw [tn.len]; exact h1)⟩
      obtain ⟨ha, hb⟩ := tn.lt _ (List.mem_of_getElem? hab)
      simp only at ha hb
      obtain ⟨-, el⟩ := el_own tn.own
      obtain ⟨z1, z2⟩ : wr.cell? ⟨eb, i * 2, none⟩ = some (.int .i64 (a : Int)) ∧ wr.cell? ⟨eb, i * 2 + 1, none⟩ = some (.int .i64 (b : Int)) := by
        rcases el with ⟨q, -⟩ | ⟨b', off, cap, e, -, -, -, h4⟩
        · cases q
        · injection e with e1 e2 e3
          injection e1 with e1
          injection e1 with e1 e4
          subst e1 e4
          have := h4 i (by rw [zE_len, tn.len]; exact h1)
          rw [zE_get F i a b hab, Nat.zero_add] at this
          exact this
      obtain ⟨-, f1, f2⟩ := own_setE tn.own i a b
      have HT : Hid (Tn W gb N m i eb c F wr ∧ i < m ∧ W.heap.size ≤ gb ∧ gb ≠ eb ∧ m ≤ 400) := ⟨tn, h1, HH.out.2.1, HH.out.2.2.1, HH.out.2.2.2.1⟩
      have i0 : (0 : Int) ≤ (i : Int) := geI i
      have i1 : (i : Int) < (m : Int) := ltI h1
      have iw : wrap64 ((i : Int) + 1) = ((i + 1 : Nat) : Int) := kwI i (by have := HT.out.2.2.2.2; omega)
      have it : (i : Int).toNat = i := rfl
      have FIN : Hid (∀ x y : Nat, x < N → y < N → (N ≠ 1 → y < x) → Hid (i + 1 ≤ m ∧ ∃ F, Tn W gb N m (i + 1) eb c F ((wr.setCell ⟨eb, i * 2, none⟩ (.int .i64 (x : Int))).setCell ⟨eb, i * 2 + 1, none⟩ (.int .i64 (y : Int))))) := fun x y hx hy hxy => ⟨HT.out.2.1, _, HT.out.1.step HT.out.2.1 HT.out.2.2.2.1 x y hx hy hxy⟩
      clear tn hi HI el hab
      by_cases hq : a = b
      · subst hq
        obtain ⟨d, hd⟩ : ∃ d, d = (a + 1) % N := ⟨_, rfl⟩
        have hdN : d < N := by rw [hd]; exact Nat.mod_lt _ (by omega)
        have hda : N ≠ 1 → d ≠ a := fun hn => by rw [hd]; exact turn_eq ha hn
        have hd' : (wrap64 ((a : Int) + 1)).tmod (N : Int) = (d : Int) := by rw [kwI a (by have := HH.out.2.2.2.2; omega), hd]; rfl
        have nz : ¬ ((N : Int) = 0) := nzI (by omega)
        clear hd hb
        by_cases hl : a < d
        · have l1 : (a : Int) < (d : Int) := ltI hl
          have HZ := FIN.out d a hdN ha (fun _ => hl)
          clear FIN HT HH ha hdN hda hl
          go_wp2_with fail
          exact ⟨⟨i + 1, by rw [iw], HZ⟩, by rw [iw]; exact measE m i h1⟩
        · have l1 : ¬ ((a : Int) < (d : Int)) := fun q => hl (Int.ofNat_lt.1 q)
          have HZ := FIN.out a d ha hdN (fun hn => by have := hda hn; omega)
          clear FIN HT HH ha hdN hda hl
          go_wp2_with fail
          exact ⟨⟨i + 1, by rw [iw], HZ⟩, by rw [iw]; exact measE m i h1⟩
      · have q1 : ¬ ((a : Int) = (b : Int)) := fun q => hq (Int.ofNat.inj q)
        by_cases hl : a < b
        · have l1 : (a : Int) < (b : Int) := ltI hl
          have HZ := FIN.out b a hb ha (fun _ => hl)
          clear FIN HT HH ha hb hl hq
          go_wp2_with fail
          exact ⟨⟨i + 1, by rw [iw], HZ⟩, by rw [iw]; exact measE m i h1⟩
        · have l1 : ¬ ((a : Int) < (b : Int)) := fun q => hl (Int.ofNat_lt.1 q)
          have HZ := FIN.out a b ha hb (fun _ => by omega)
          clear FIN HT HH ha hb hl hq
          go_wp2_with fail
          exact ⟨⟨i + 1, by rw [iw], HZ⟩, by rw [iw]; exact measE m i h1⟩
    · have i1 : ¬ ((i : Int) < (m : Int)) := fun q => h1 (Int.ofNat_lt.1 q)
      have HE : Hid (Tn W gb N m m eb c F wr) := by
        have e : i = m := by omega
        rw [e] at tn
        exact tn
      clear hi tn HI h1 g0
      go_wp2_with fail
      have tn := HE.out
      obtain ⟨-, el⟩ := el_own tn.own
      refine HK2.out _ _ (gl12 W wr gb N dr _ F tn.bel HH.out.2.1 tn.row el (by rw [tn.len]; exact HH.out.2.2.2.1) HH.out.2.2.2.2 (fun hn e he => ?_))
      obtain ⟨k, hk⟩ := List.mem_iff_getElem?.1 he
      exact ⟨tn.dn k e.1 e.2 (by rw [← tn.len]; exact (List.getElem?_eq_some_iff.1 hk).1) hk hn, (tn.lt e he).1⟩
end Go.Proofs.Ytagfkgedfjlnkaa
