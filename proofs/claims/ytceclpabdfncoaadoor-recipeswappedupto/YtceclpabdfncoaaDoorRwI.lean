/- The laws' right: the keys. -/
import Derived.Test.YtceclpabdfncoaaDoorRwH
namespace Go.Proofs.YtceclpabdfncoaaDoor.Re
open Go.RowKit
theorem nm_le {l : List Out} {x : Out} (h : x ∈ l) : x.1.size ≤ (l.map (·.1.size)).sum := by
  induction l with
  | nil => cases h
  | cons y t ih =>
    rw [List.map_cons, List.sum_cons]
    rcases List.mem_cons.1 h with rfl | q
    · omega
    · have := ih q; omega
section
attribute [local go_sem ↓] toApS
set_option maxRecDepth 100000 in
set_option maxHeartbeats 6400000 in
theorem right23 (W : World) (C : Array Value) (q : Nat) (o n s a : Value) (us : List Value) (R : Rcp) (tx : S) (kk : Option Addr) (lk ck : Nat) (ks : List S) (hC : C[7]? = some (.string tx)) (hC6 : C[6]? = some (.slice kk lk ck)) (hk : Ls W (.slice kk lk ck) 1 (ks.map sR)) (hkl : ks.length = lk) (X : World) (h : Rt W C q o n s a (.slice none 0 0) us R X) (hb : Bn R) (he : R.e = []) (hs : Sepa s a us) {v0 v4 v5 v6 v7 v8 v9 v11 v12 v13 v14 v15 v16 v17 v18 v19 v20 v21 v22 v23 v24 v25 v26 v27 v28 v29 v30 v31 v32 v33 v34 v35 v36 v37 v38 v39 v40 v41 v42 v43 v44 v45 v46 v47 v48 v49 v50 v51 v52 v53 v54 v55 v56 v57 v58 v59 v60 v61 v62 v63 v64 v65 v66 v67 v68 v69 v70 v71 v72 v73 v74 v75 v76 v77 v78 v79 v80 v81 v82 v83 v84 v85 v86 v87 v88 v89 v90 v91 v92 v93 v94 v95 v96 v97 v98 v99 v100 v101 v102 v103 v104 v105 v106 v107 v108 v109 v110 v111 v112 v113 v114 v115 v116 v117 v118 v119 v120 v121 v122 v123 v124 v125 v126 v127 v128 v129 v130 v131 v132 v133 v134 v135 v136 v137 v138 v139 v140 v141 v142 v143 v144 v145 v146 v147 v148 v149 v150 v151 v152 v153 v154 v155 v156 v157 v158 v159 v160 v161 v162 v163 v164 v165 v166 v167 v168 v169 v170 v171 v172 v173 v174 v175 v176 v177 v178 v179 v180 v181 v182 v183 v184 v185 v186 v187 v188 v189 v190 v191 v192 v193 v194 v195 v196 v197 v198 v199 v200 v201 v202 v203 v204 : Value} :
    Code.wp Tryd.prog (tlF Tryd.f5 23) (bodyPost Tryd.prog Tryd.f5 (RiP W)) ⟨#[v0, .pointer (some ⟨W.heap.size, 0, none⟩), .pointer (some ⟨W.heap.size + 1, 0, none⟩), .pointer (some ⟨q, 0, none⟩), v4, v5, v6, v7, v8, v9, .slice none 0 0, v11, v12, v13, v14, v15, v16, v17, v18, v19, v20, v21, v22, v23, v24, v25, v26, v27, v28, v29, v30, v31, v32, v33, v34, v35, v36, v37, v38, v39, v40, v41, v42, v43, v44, v45, v46, v47, v48, v49, v50, v51, v52, v53, v54, v55, v56, v57, v58, v59, v60, v61, v62, v63, v64, v65, v66, v67, v68, v69, v70, v71, v72, v73, v74, v75, v76, v77, v78, v79, v80, v81, v82, v83, v84, v85, v86, v87, v88, v89, v90, v91, v92, v93, v94, v95, v96, v97, v98, v99, v100, v101, v102, v103, v104, v105, v106, v107, v108, v109, v110, v111, v112, v113, v114, v115, v116, v117, v118, v119, v120, v121, v122, v123, v124, v125, v126, v127, v128, v129, v130, v131, v132, v133, v134, v135, v136, v137, v138, v139, v140, v141, v142, v143, v144, v145, v146, v147, v148, v149, v150, v151, v152, v153, v154, v155, v156, v157, v158, v159, v160, v161, v162, v163, v164, v165, v166, v167, v168, v169, v170, v171, v172, v173, v174, v175, v176, v177, v178, v179, v180, v181, v182, v183, v184, v185, v186, v187, v188, v189, v190, v191, v192, v193, v194, v195, v196, v197, v198, v199, v200, v201, v202, v203, v204], []⟩ X := by
  obtain ⟨oo, co, rfl, -⟩ := h.tw.fo.form
  obtain ⟨no, hno⟩ : ∃ k, (R.o.map oR).length = k := ⟨_, rfl⟩
  rw [hno] at h
  obtain ⟨M, hM⟩ : ∃ M, M = 300 + (R.o.map (·.1.size)).sum := ⟨_, rfl⟩
  have HN : Hid (no ≤ 10 ∧ 300 ≤ M ∧ ∀ x ∈ R.o, x.1.size ≤ M) := ⟨by have := hb.o; rw [List.length_map] at hno; omega, by omega, fun x hx => by have := nm_le hx; omega⟩
  have HH : Hid (Rt W C q (.slice oo no co) n s a (.slice none 0 0) us R X ∧ Bn R ∧ R.e = [] ∧ Sepa s a us ∧ C[7]? = some (.string tx) ∧ C[6]? = some (.slice kk lk ck)) := ⟨h, hb, he, hs, hC, hC6⟩
  have HK : Hid (Ls W (.slice kk lk ck) 1 (ks.map sR) ∧ ks.length = lk) := ⟨hk, hkl⟩
  clear h hb he hs hC hC6 hk hkl hno hM
  conv => arg 2; whnf
  go_wp2_with fail
  go_loopw [10, 11] (fun kv iv wr => ∃ (a' : Option Addr) (n' c' i : Nat), kv = .slice a' n' c' ∧ iv = .int .i64 (i : Int) ∧ Hid (i ≤ 40 ∧ i ≤ lk ∧ Below X.heap.size X wr ∧ TL X.heap.size M i wr (.slice a' n' c'))) (fun _ iv _ => lk + 1 - (intOf iv).toNat)
  case atStart => exact ⟨none, 0, 0, 0, rfl, rfl, Nat.zero_le _, Nat.zero_le _, Below.refl _ _, TL.nil _ _ _ _⟩
  case round =>
    obtain ⟨a1, n1, c1', i, rfl, rfl, HI⟩ := hrel
    have rt := HH.out.1.below HI.out.2.2.1
    have c6 : wr.cell? ⟨W.heap.size, 6, none⟩ = some (.slice kk lk ck) := rt.cb HH.out.2.2.2.2.2
    by_cases hi : i < lk ∧ i < 40
    · have hi1 : (i : Int) < (lk : Int) := by omega
      have hi40 : (i : Int) < 40 := by omega
      have hi0 : (0 : Int) ≤ (i : Int) := by omega
      obtain ⟨x, hx⟩ : ∃ x, ks[i]? = some x := ⟨_, List.getElem?_eq_getElem (by have := HK.out.2; omega)⟩
      obtain ⟨gx, ox, rfl, hcx⟩ := HK.out.1.txt hx
      have cx : wr.cell? ⟨gx, ox + i, none⟩ = some (.string x) := hcx _ rt.bel
      have wi : IntKind.i64.wrap ((i : Int) + 1) = (i : Int) + 1 := by rw [IntKind.wrap_i64]; omega
      have CC : Hid (Calls Tryd.prog 11 #[.string x] wr (TxP 200 wr)) := cut_any x wr
      have HX : Hid (i < lk ∧ i < 40) := hi
      clear hi hx hcx rt
      go_wp2_with fail
      refine CC.out.mono ?_
      rintro e1 W1 ⟨t, rfl, ht, m, hm⟩
      have b1 : Below wr.heap.size wr W1 := by rw [hm]; exact bel_dn wr m
      have q1 : ¬ (9223372036854775807 < 1 + t.size) := by omega
      obtain ⟨a2, n2, c2, w2, r2, t2, f2⟩ := (HI.out.2.2.2.below b1).add (by have := HI.out.2.2.1.size; have := b1.size; omega) (by have := HX.out; omega) (⟨#[75]⟩ ++ t) (by rw [ByteArray.size_append]; have := HN.out.2.1; show 1 + t.size ≤ M; omega)
      have HE : Hid (i + 1 ≤ 40 ∧ i + 1 ≤ lk ∧ Below X.heap.size X w2 ∧ TL X.heap.size M (i + 1) w2 (.slice a2 n2 c2)) := ⟨by have := HX.out; omega, by have := HX.out; omega, f2 X (HI.out.2.2.1.trans (b1.mono HI.out.2.2.1.size)) (Nat.le_refl _), t2⟩
      clear hm b1 t2 f2 ht
      go_wp2_with fail
      exact ⟨⟨_, _, _, i + 1, rfl, by go_num, HE.out⟩, by have := HX.out; simp [intOf]; omega⟩
    · have HT : Hid (Below X.heap.size X wr ∧ TL X.heap.size M 40 wr (.slice a1 n1 c1')) := ⟨HI.out.2.2.1, HI.out.2.2.2.mono (Nat.le_refl _) (Nat.le_refl _) HI.out.1⟩
      clear HI rt
      by_cases hi1 : (i : Int) < (lk : Int)
      · have hi40 : ¬ ((i : Int) < 40) := by omega
        clear hi
        go_wp2_with fail
        go_loopw [10, 12] (fun kv iv wr => ∃ (a' : Option Addr) (n' c' i : Nat), kv = .slice a' n' c' ∧ iv = .int .i64 (i : Int) ∧ Hid (i ≤ no ∧ Below X.heap.size X wr ∧ TL X.heap.size M (40 + i) wr (.slice a' n' c'))) (fun _ iv _ => no + 1 - (intOf iv).toNat)
        case atStart => exact ⟨_, _, _, 0, rfl, rfl, Nat.zero_le _, HT.out.1, HT.out.2⟩
        case round =>
          obtain ⟨a2, n2, c2, j, rfl, rfl, HJ⟩ := hrel
          have rt := HH.out.1.below HJ.out.2.1
          have k0 : wr.cell? ⟨q, 0, none⟩ = some (.slice oo no co) := rt.cr rfl
          by_cases hj : j < no
          · have hj1 : (j : Int) < (no : Int) := by omega
            have hj0 : (0 : Int) ≤ (j : Int) := by omega
            obtain ⟨go, x, rfl, hx, cx⟩ := rt.ou hj
            have x0 : wr.cell? ⟨go, j * 4, none⟩ = some (.string x.1) := (cx wr (Below.refl _ _)).1
            have wj : IntKind.i64.wrap ((j : Int) + 1) = (j : Int) + 1 := by rw [IntKind.wrap_i64]; have := HN.out.1; omega
            obtain ⟨a3, n3, c3, w3, r3, t3, f3⟩ := HJ.out.2.2.add HJ.out.2.1.size (by have := HN.out.1; omega) x.1 (HN.out.2.2 x (List.mem_of_getElem? hx))
            have HE : Hid (j + 1 ≤ no ∧ Below X.heap.size X w3 ∧ TL X.heap.size M (40 + (j + 1)) w3 (.slice a3 n3 c3)) := ⟨hj, f3 X HJ.out.2.1 (Nat.le_refl _), t3⟩
            clear hj hx cx t3 f3 rt
            go_wp2_with fail
            exact ⟨⟨_, _, _, j + 1, rfl, by go_num, HE.out⟩, by have := HE.out.1; simp [intOf]; omega⟩
          · have hj1 : ¬ ((j : Int) < (no : Int)) := by omega
            have CS : Hid (Calls Tryd.prog 9 #[.slice a2 n2 c2] wr fun e w' => ∃ a n c, e = .returned (.slice a n c) ∧ Hid (TL wr.heap.size M 60 w' (.slice a n c) ∧ Below wr.heap.size wr w')) := (sortedT_any wr _ X.heap.size M 60 (HJ.out.2.2.mono (Nat.le_refl _) (Nat.le_refl _) (by have := HJ.out.1; have := HN.out.1; omega)) (by omega)).mono fun e w' ⟨a, n, c, q, r⟩ => ⟨a, n, c, q, r⟩
            clear hj rt
            go_upto_region 31 with fail
            rename_i K2 h2
            have HK2 : Hid (∀ q w, Code.wp Tryd.prog (tlF Tryd.f5 32) (bodyPost Tryd.prog Tryd.f5 (RiP W)) q w → K2 q w) := h2
            clear h2
            go_wp2_with fail
            refine CS.out.mono ?_
            rintro e1 W3 ⟨a3, n3, c3, rfl, HR⟩
            have HF : Hid (En W C q (.slice oo no co) n s a (.slice none 0 0) us R (.slice a3 n3 c3) wr.heap.size M 0 W3) := ⟨(HH.out.1.below HJ.out.2.1).below HR.out.2, HR.out.1, ⟨HH.out.2.1.o, HH.out.2.1.n, HH.out.2.1.i, HH.out.2.1.s, HH.out.2.1.a, by simp, HH.out.2.1.ol, HH.out.2.1.al, fun p hp => by cases hp⟩, by rw [HH.out.2.2.1]; simp, fun p hp => by rw [HH.out.2.2.1] at hp; cases hp⟩
            go_wp2_with fail
            exact HK2.out _ _ (right32 W C q _ n s a us R tx HH.out.2.2.2.2.1 wr.heap.size M W3 a3 n3 c3 HF.out HH.out.2.2.2.1)
      · clear hi
        go_wp2_with fail
        go_loopw [10, 12] (fun kv iv wr => ∃ (a' : Option Addr) (n' c' i : Nat), kv = .slice a' n' c' ∧ iv = .int .i64 (i : Int) ∧ Hid (i ≤ no ∧ Below X.heap.size X wr ∧ TL X.heap.size M (40 + i) wr (.slice a' n' c'))) (fun _ iv _ => no + 1 - (intOf iv).toNat)
        case atStart => exact ⟨_, _, _, 0, rfl, rfl, Nat.zero_le _, HT.out.1, HT.out.2⟩
        case round =>
          obtain ⟨a2, n2, c2, j, rfl, rfl, HJ⟩ := hrel
          have rt := HH.out.1.below HJ.out.2.1
          have k0 : wr.cell? ⟨q, 0, none⟩ = some (.slice oo no co) := rt.cr rfl
          by_cases hj : j < no
          · have hj1 : (j : Int) < (no : Int) := by omega
            have hj0 : (0 : Int) ≤ (j : Int) := by omega
            obtain ⟨go, x, rfl, hx, cx⟩ := rt.ou hj
            have x0 : wr.cell? ⟨go, j * 4, none⟩ = some (.string x.1) := (cx wr (Below.refl _ _)).1
            have wj : IntKind.i64.wrap ((j : Int) + 1) = (j : Int) + 1 := by rw [IntKind.wrap_i64]; have := HN.out.1; omega
            obtain ⟨a3, n3, c3, w3, r3, t3, f3⟩ := HJ.out.2.2.add HJ.out.2.1.size (by have := HN.out.1; omega) x.1 (HN.out.2.2 x (List.mem_of_getElem? hx))
            have HE : Hid (j + 1 ≤ no ∧ Below X.heap.size X w3 ∧ TL X.heap.size M (40 + (j + 1)) w3 (.slice a3 n3 c3)) := ⟨hj, f3 X HJ.out.2.1 (Nat.le_refl _), t3⟩
            clear hj hx cx t3 f3 rt
            go_wp2_with fail
            exact ⟨⟨_, _, _, j + 1, rfl, by go_num, HE.out⟩, by have := HE.out.1; simp [intOf]; omega⟩
          · have hj1 : ¬ ((j : Int) < (no : Int)) := by omega
            have CS : Hid (Calls Tryd.prog 9 #[.slice a2 n2 c2] wr fun e w' => ∃ a n c, e = .returned (.slice a n c) ∧ Hid (TL wr.heap.size M 60 w' (.slice a n c) ∧ Below wr.heap.size wr w')) := (sortedT_any wr _ X.heap.size M 60 (HJ.out.2.2.mono (Nat.le_refl _) (Nat.le_refl _) (by have := HJ.out.1; have := HN.out.1; omega)) (by omega)).mono fun e w' ⟨a, n, c, q, r⟩ => ⟨a, n, c, q, r⟩
            clear hj rt
            go_upto_region 31 with fail
            rename_i K2 h2
            have HK2 : Hid (∀ q w, Code.wp Tryd.prog (tlF Tryd.f5 32) (bodyPost Tryd.prog Tryd.f5 (RiP W)) q w → K2 q w) := h2
            clear h2
            go_wp2_with fail
            refine CS.out.mono ?_
            rintro e1 W3 ⟨a3, n3, c3, rfl, HR⟩
            have HF : Hid (En W C q (.slice oo no co) n s a (.slice none 0 0) us R (.slice a3 n3 c3) wr.heap.size M 0 W3) := ⟨(HH.out.1.below HJ.out.2.1).below HR.out.2, HR.out.1, ⟨HH.out.2.1.o, HH.out.2.1.n, HH.out.2.1.i, HH.out.2.1.s, HH.out.2.1.a, by simp, HH.out.2.1.ol, HH.out.2.1.al, fun p hp => by cases hp⟩, by rw [HH.out.2.2.1]; simp, fun p hp => by rw [HH.out.2.2.1] at hp; cases hp⟩
            go_wp2_with fail
            exact HK2.out _ _ (right32 W C q _ n s a us R tx HH.out.2.2.2.2.1 wr.heap.size M W3 a3 n3 c3 HF.out HH.out.2.2.2.1)
end
end Go.Proofs.YtceclpabdfncoaaDoor.Re
