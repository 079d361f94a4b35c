/- Several texts in one: GqE, GqF, GqG. -/
import Derived.Test.YtibhjkmbbfgnpaaJqA
import Derived.Test.YtibhjkmbbfgnpaaJtD
import Derived.Test.YtibhjkmbbfgnpaaGlQ
import Derived.Test.YtibhjkmbbfgnpaaGlP
/- GraphParts: the law from region 7 on: each group's members rise, bear its number; all are N. -/
namespace Go.Proofs.Ytibhjkmbbfgnpaa
open Go.RowKit GM Gl Gsx
set_option maxRecDepth 20000
/-- How many the first lists have. -/
def smL (Rs : List (List Nat)) (i : Nat) : Nat := ((Rs.take i).map List.length).sum
section
variable {N n : Nat} {E : List (Nat × Nat)} {nb p : List Nat} {Rs : List (List Nat)}
theorem smL_zero (Rs : List (List Nat)) : 0 = smL Rs 0 := by simp [smL]
theorem smL_succ {i : Nat} (h : Rs[i]? = some p) : smL Rs (i + 1) = smL Rs i + p.length := by
  unfold smL
  rw [List.take_add_one, h]
  simp
theorem smL_mono {i j : Nat} (h : i ≤ j) : smL Rs i ≤ smL Rs j := by
  induction j with
  | zero => have : i = 0 := by omega
            subst this; exact Nat.le_refl _
  | succ j ih =>
    by_cases e : i = j + 1
    · subst e; exact Nat.le_refl _
    · refine Nat.le_trans (ih (by omega)) ?_
      cases h : Rs[j]? with
      | none => unfold smL; rw [List.take_add_one, h]; simp
      | some q => rw [smL_succ h]; omega
theorem smL_all {F : Nat → List Nat} (h : Scc F N Rs) : smL Rs Rs.length = N := by
  have e : smL Rs Rs.length = Rs.flatten.length := by
    unfold smL
    rw [List.take_length, List.length_flatten]
  have nd : Rs.flatten.Nodup := by
    rw [List.nodup_iff_pairwise_ne, List.pairwise_flatten]
    exact ⟨fun p hp => (h.pt p hp).1, h.dj.imp (S := fun p q => ∀ x ∈ p, ∀ y ∈ q, x ≠ y) fun k x hx y hy e => by subst e; exact k x hx hy⟩
  have pm : Rs.flatten.Perm (List.range N) := (List.perm_ext_iff_of_nodup nd List.nodup_range).2 fun x => by
    rw [List.mem_flatten, List.mem_range]
    exact ⟨fun ⟨p, hp, hx⟩ => h.lt p hp x hx, fun hx => h.cv x hx⟩
  rw [e, pm.length_eq, List.length_range]
theorem Qm.room (h : Qm N n E nb Rs) {i k : Nat} (hp : Rs[i]? = some p) (hk : k ≤ p.length) : smL Rs i + k ≤ N := by
  have h1 := smL_succ hp
  have hi := (List.getElem?_eq_some_iff.1 hp).1
  have h2 : smL Rs (i + 1) ≤ smL Rs Rs.length := smL_mono hi
  rw [smL_all h.gn.scc] at h2
  omega
end
theorem pr_cell {W : World} {kL n i : Nat} {Rs : List (List Nat)} {p : List Nat} (h : Pr (some ⟨kL, 0, none⟩) n Rs W) (hp : Rs[i]? = some p) : ∃ o c, W.cell? ⟨kL, i, none⟩ = some (.slice o p.length c) ∧ (0 < p.length → ∃ g off, o = some ⟨g, off, none⟩ ∧ ∀ j, j < p.length → W.cell? ⟨g, off + j, none⟩ = some (.int .i64 ((p.getD j 0 : Nat) : Int))) := by
  obtain ⟨g, v, gp, h1, h2, o, c, rfl, h3⟩ := h.rd i p hp
  injection h1 with h1
  injection h1 with h1
  subst h1
  refine ⟨o, c, h2, fun hl => ?_⟩
  obtain ⟨off, e, -, h4⟩ := h3 hl
  exact ⟨gp, off, e, h4⟩
theorem rise_at {p : List Nat} (h : p.Pairwise (· < ·)) {i j : Nat} (hij : i < j) (hj : j < p.length) : p.getD i 0 < p.getD j 0 := by
  have := List.pairwise_iff_getElem.1 h i j (by omega) hj hij
  simpa [List.getD, show i < p.length by omega, hj] using this
attribute [local irreducible] smL
theorem subI {j k : Nat} (h : j + 1 = k) (h2 : k < 60) : wrap64 ((k : Int) - 1) = (j : Int) := by unfold wrap64; omega
theorem sm_lt {t s k N : Nat} (h : t = s + k) (h1 : s + (k + 1) ≤ N) (h2 : N ≤ 60) : t < 1000000 := by omega
theorem sm_next {t t1 s k : Nat} (h : t = s + k) (h1 : t + 1 = t1) : t1 = s + (k + 1) := by omega
theorem sm_end {t s k m : Nat} (h : t = s + k) (h1 : k ≤ m) (h2 : ¬ k < m) : t = s + m := by omega
set_option maxRecDepth 100000 in
set_option maxHeartbeats 6400000 in
theorem gq7 (W X : World) {kG kC kL kN gM N n : Nat} {ev ec : Value} {E : List (Nat × Nat)} {nb : List Nat} {Rs : List (List Nat)} (hw : Pw W kG kC kL kN gM N n E nb Rs ev ec X) (hm : Qm N n E nb Rs) {v0 v1 v2 v3 v4 v7 v10 v12 v13 v14 v15 v16 v17 v18 v19 v20 v21 v22 v23 v24 v25 v26 v27 v28 v29 v30 v31 v32 v33 v34 v35 v36 v37 v38 v39 v40 v41 v42 v43 v44 v45 v46 v47 v48 v49 v50 v51 v52 v53 v54 v55 v56 v57 v58 v59 v60 v61 v62 v63 v64 v65 v66 v67 v68 v69 v70 v71 v72 v73 v74 v75 v76 v77 v78 v79 v80 v81 v82 v83 v84 v85 v86 v87 v88 v89 v90 v91 v92 v93 v94 v95 v96 v97 v98 v99 v100 v101 v102 v103 v104 v105 v106 v107 v108 v109 v110 v111 v112 v113 v114 v115 v116 v117 v118 v119 v120 v121 v122 v123 v124 v125 v126 v127 v128 v129 v130 v131 v132 v133 v134 v135 v136 v137 v138 v139 v140 v141 v142 v143 v144 v145 v146 v147 v148 v149 v150 v151 v152 v153 v154 v155 v156 v157 v158 v159 v160 v161 v162 v163 v164 v165 v166 v167 v168 v169 v170 v171 v172 v173 v174 v175 v176 v177 v178 v179 v180 v181 v182 v183 v184 v185 v186 v187 v188 v189 v190 v191 v192 v193 v194 v195 v196 v197 v198 v199 v200 v201 v202 v203 v204 v205 v206 v207 v208 v209 v210 v211 v212 v213 v214 v215 v216 v217 v218 v219 v220 v221 v222 v223 v224 v225 v226 v227 v228 v229 v230 v231 v232 v233 v234 v235 v236 v237 v238 v239 v240 v241 v242 v243 v244 v245 v246 v247 v248 v249 v250 v251 v252 v253 v254 v255 v256 v257 v258 v259 v260 v261 v262 v263 v264 v265 : Value} :
    Code.wp Try.prog (tlF Try.f4 7) (bodyPost Try.prog Try.f4 (fun e w' => e = .returned (.bool true) ∧ Below W.heap.size W w')) ⟨#[v0, v1, v2, v3, v4, .pointer (some ⟨kG, 0, none⟩), .slice (some ⟨kL, 0, none⟩) n n, v7, .pointer (some ⟨kC, 0, none⟩), .slice (some ⟨kN, 0, none⟩) N N, v10, .slice (some ⟨gM, 0, none⟩) N N, v12, v13, v14, v15, v16, v17, v18, v19, v20, v21, v22, v23, v24, v25, v26, v27, v28, v29, v30, v31, v32, v33, v34, v35, v36, v37, v38, v39, v40, v41, v42, v43, v44, v45, v46, v47, v48, v49, v50, v51, v52, v53, v54, v55, v56, v57, v58, v59, v60, v61, v62, v63, v64, v65, v66, v67, v68, v69, v70, v71, v72, v73, v74, v75, v76, v77, v78, v79, v80, v81, v82, v83, v84, v85, v86, v87, v88, v89, v90, v91, v92, v93, v94, v95, v96, v97, v98, v99, v100, v101, v102, v103, v104, v105, v106, v107, v108, v109, v110, v111, v112, v113, v114, v115, v116, v117, v118, v119, v120, v121, v122, v123, v124, v125, v126, v127, v128, v129, v130, v131, v132, v133, v134, v135, v136, v137, v138, v139, v140, v141, v142, v143, v144, v145, v146, v147, v148, v149, v150, v151, v152, v153, v154, v155, v156, v157, v158, v159, v160, v161, v162, v163, v164, v165, v166, v167, v168, v169, v170, v171, v172, v173, v174, v175, v176, v177, v178, v179, v180, v181, v182, v183, v184, v185, v186, v187, v188, v189, v190, v191, v192, v193, v194, v195, v196, v197, v198, v199, v200, v201, v202, v203, v204, v205, v206, v207, v208, v209, v210, v211, v212, v213, v214, v215, v216, v217, v218, v219, v220, v221, v222, v223, v224, v225, v226, v227, v228, v229, v230, v231, v232, v233, v234, v235, v236, v237, v238, v239, v240, v241, v242, v243, v244, v245, v246, v247, v248, v249, v250, v251, v252, v253, v254, v255, v256, v257, v258, v259, v260, v261, v262, v263, v264, v265], []⟩ X := by
  have HQ := mkHid hm
  have H0 := mkHid hw
  clear hw hm
  conv => arg 2; whnf
  go_wp2_with fail
  rename_i K1 hk1
  have HK1 := mkHid hk1
  clear hk1
  go_loopw [13, 12] (fun iv sv wr => ∃ i s : Nat, iv = .int .i64 (i : Int) ∧ sv = .int .i64 (s : Int) ∧ i ≤ n ∧ Hid (s = smL Rs i ∧ Pw W kG kC kL kN gM N n E nb Rs ev ec wr)) (fun iv _ _ => n - (intOf iv).toNat)
  case atStart => exact ⟨0, 0, rfl, rfl, Nat.zero_le _, smL_zero Rs, H0⟩
  case round =>
    clear H0
    obtain ⟨i, s, rfl, rfl, hi, HI⟩ := hrel
    by_cases hlti : i < n
    · have i0 := geI i
      have i1 := ltI hlti
      obtain ⟨p, hp⟩ : ∃ p, Rs[i]? = some p := ⟨_, List.getElem?_eq_getElem (by have := HQ.out.ln; omega)⟩
      have HI2 := mkHid (And.intro HI.out.1 (And.intro HI.out.2 (And.intro hlti hp)))
      have wi := wrapI i (by have := HQ.out.h60; have := HQ.out.nN; omega)
      obtain ⟨m, hm⟩ : ∃ m, p.length = m := ⟨_, rfl⟩
      have HM := mkHid hm
      clear HI hi hlti hp hm
      go_wp2_with fail
      go_loopw [14, 12] (fun kv sv wr => ∃ k t : Nat, kv = .int .i64 (k : Int) ∧ sv = .int .i64 (t : Int) ∧ k ≤ m ∧ Hid (t = smL Rs i + k ∧ Pw W kG kC kL kN gM N n E nb Rs ev ec wr)) (fun kv _ _ => m - (intOf kv).toNat)
      case atStart => exact ⟨0, s, rfl, rfl, Nat.zero_le _, by rw [HI2.out.1]; rfl, HI2.out.2.1⟩
      case round =>
        obtain ⟨k, t, rfl, rfl, hk, HI⟩ := hrel
        have hm := HQ.out
        have q := HI.out.2
        obtain ⟨oi, ci, c1, hc⟩ := pr_cell q.pr HI2.out.2.2.2
        have hpm := HM.out
        rw [hpm] at c1 hc
        by_cases hlt : k < m
        · obtain ⟨gp, off, rfl, hcc⟩ := hc (by omega)
          have c2 := hcc k hlt
          have hxp : p.getD k 0 ∈ p := getD_memN (by omega)
          have hpR := List.mem_of_getElem? HI2.out.2.2.2
          have hxN := hm.gn.scc.lt p hpR _ hxp
          have hnx := hm.gn.nm.lo i p (by have := HI2.out.2.2.1; have := hm.ln; omega) HI2.out.2.2.2 _ hxp
          have a1 := q.nv hm hxN
          rw [hnx] at a1
          have hrm := hm.room HI2.out.2.2.2 (k := k + 1) (by omega)
          have ri := hm.ri p hpR
          obtain ⟨x, hx⟩ : ∃ x, p.getD k 0 = x := ⟨_, rfl⟩
          rw [hx] at c2 hxN a1
          have g0 := q.g0
          have k0 := geI k
          have k1 := ltI hlt
          have x0 := geI x
          have x1 := ltI hxN
          have n1 : ¬ ((x : Int) < 0) := Int.not_lt.2 x0
          have n2 : ¬ ((N : Int) ≤ (x : Int)) := Int.not_le.2 x1
          have n3 : ¬ (N ≤ x) := Nat.not_le.2 hxN
          have d1 : decide ((x : Int) < 0) = false := decide_eq_false n1
          have d2 : decide ((N : Int) ≤ (x : Int)) = false := decide_eq_false n2
          have d3 : decide (N ≤ x) = false := decide_eq_false n3
          have wk := wrapI k (by have := hm.h60; omega)
          have ht := HI.out.1
          have h60 := hm.h60
          obtain ⟨t1, ht1⟩ : ∃ t1, t + 1 = t1 := ⟨_, rfl⟩
          have wt := wrapY ht1 (sm_lt ht hrm h60)
          have HL : Hid (m ≤ 60) := by have := hm.gn.scc; have := scc_plen this p hpR; show m ≤ 60; rw [← hpm]; exact Nat.le_trans this h60
          have HN := mkHid (And.intro q (And.intro hlt (sm_next ht ht1)))
          have lr : ∀ j, j < k → p.getD j 0 < x := fun j hj => hx ▸ rise_at ri hj (by rw [hpm]; exact hlt)
          clear hrm ht ht1 hnx hxp hpR hm ri hx h60 HI hpm hc q
          by_cases hz : 0 < k
          · obtain ⟨j, hj⟩ : ∃ j, j + 1 = k := ⟨k - 1, by omega⟩
            have c3 := hcc j (by omega)
            have hlt2 := lr j (by omega)
            obtain ⟨y, hy⟩ : ∃ y, p.getD j 0 = y := ⟨_, rfl⟩
            rw [hy] at c3 hlt2
            have z1 : (0 : Int) < (k : Int) := by omega
            have z2 : decide ((0 : Int) < (k : Int)) = true := decide_eq_true z1
            have j0 := geI j
            have j1 : (j : Int) < (m : Int) := by omega
            have wj : wrap64 ((k : Int) - 1) = (j : Int) := subI hj (Nat.lt_of_lt_of_le hlt HL.out)
            have l1 : ¬ ((x : Int) ≤ (y : Int)) := by omega
            have l2 : ¬ (x ≤ y) := by omega
            have l3 : decide ((x : Int) ≤ (y : Int)) = false := decide_eq_false l1
            have l4 : decide (x ≤ y) = false := decide_eq_false l2
            have z3 : decide (0 < k) = true := decide_eq_true hz
            have z4 : 0 < k := hz
            clear hcc hxN hk hlt hj hlt2 hy hz lr
            go_wp2_with fail
            exact ⟨⟨k + 1, t1, by first | rfl | (rw [wk]; rfl), by first | rfl | (rw [wt]), HN.out.2.1, HN.out.2.2, HN.out.1⟩, by first | exact measI _ _ HN.out.2.1 | (rw [wk]; exact measI _ _ HN.out.2.1)⟩
          · have z1 : ¬ ((0 : Int) < (k : Int)) := by omega
            have z2 : decide ((0 : Int) < (k : Int)) = false := decide_eq_false z1
            have z3 : decide (0 < k) = false := decide_eq_false hz
            have z4 : ¬ 0 < k := hz
            clear hcc hxN hk hlt hz lr
            go_wp2_with fail
            exact ⟨⟨k + 1, t1, by first | rfl | (rw [wk]; rfl), by first | rfl | (rw [wt]), HN.out.2.1, HN.out.2.2, HN.out.1⟩, by first | exact measI _ _ HN.out.2.1 | (rw [wk]; exact measI _ _ HN.out.2.1)⟩
        · have k1 := nltI hlt
          have HZ : Hid (t = smL Rs (i + 1) ∧ Pw W kG kC kL kN gM N n E nb Rs ev ec wr) := ⟨by rw [smL_succ HI2.out.2.2.2, hpm]; exact sm_end HI.out.1 hk hlt, q⟩
          clear hm q hc hpm hlt hk HI
          go_wp2_with fail
          exact ⟨⟨i + 1, t, by first | rfl | (rw [wi]; rfl), rfl, HI2.out.2.2.1, HZ.out⟩, by first | exact measI _ _ HI2.out.2.2.1 | (rw [wi]; exact measI _ _ HI2.out.2.2.1)⟩
    · have i1 := nltI hlti
      have es : s = N := by
        rw [HI.out.1, eqI hi hlti, ← HQ.out.ln]
        exact smL_all HQ.out.gn.scc
      subst es
      have HZ := mkHid HI.out.2
      clear hlti HI hi
      go_wp2_with fail
      exact HK1.out _ _ (gq18 W wr HZ.out HQ.out)
end Go.Proofs.Ytibhjkmbbfgnpaa

/- Graphs in groups: Groups, the least first. -/
namespace Go.Proofs.Ytibhjkmbbfgnpaa
open Go.RowKit GM Gl Gsx
set_option maxRecDepth 20000
/-- What Groups answers. -/
def GsL (F : Nat → List Nat) (N : Nat) (w : World) (e : Ending) (w' : World) : Prop := ∃ k n Rs, e = .returned (.tuple #[.slice (some ⟨k, 0, none⟩) n n, .int .i64 0]) ∧ Below w.heap.size w w' ∧ Pr (some ⟨k, 0, none⟩) n Rs w' ∧ GrU F N n Rs
set_option maxRecDepth 100000 in
set_option maxHeartbeats 3200000 in
theorem Groups_lst (N : Nat) (hN : N ≤ 1024) (hN0 : 0 < N) (E : List (Nat × Nat)) (hE : ∀ e ∈ E, e.1 < N ∧ e.2 < N) (hl : E.length ≤ 1000000) (hc : (chk (N : Int) (zE E)).1 = 0) (v : Value) (w : World) (hv : El v (zE E) w) :
    Calls Try.prog 15 #[grV (N : Int) v] w (GsL (ndF N E) N w) := by
  obtain ⟨kG, hkG⟩ : ∃ k, w.heap.size = k := ⟨_, rfl⟩
  obtain ⟨W0, hW0⟩ : ∃ W0, w.alloc (.cells #[.int .i64 (N : Int), v] 24) = W0 := ⟨_, rfl⟩
  have b0 : Below w.heap.size w W0 := by rw [← hW0]; exact (Below.refl _ w).alloc (Nat.le_refl _) _
  have r0 : W0.heap[kG]? = some (.cells #[.int .i64 (N : Int), v] 24 (0, 0)) := by rw [← hW0, ← hkG]; exact heap_alloc_new _ _
  have HC : Hid (Calls Try.prog 26 #[grV (N : Int) v, .slice none 0 0] W0 fun e w' => e = .returned (.int .i64 0) ∧ Below W0.heap.size W0 w') := by
    have := checkWith_any (N : Int) (zE E) v W0 (hv.below b0)
    rw [hc] at this
    exact this
  have HN : Hid (∀ Y, Below w.heap.size w Y → Calls Try.prog 30 #[grV (N : Int) v] Y fun e w' => ∃ g' V', e = .returned (.slice (some ⟨g', 0, none⟩) N N) ∧ Rws g' N (ndF N E) V' w' ∧ Below Y.heap.size Y w') := fun Y bY => needsOf_any N (by omega) E hE (by omega) v Y (hv.below bY)
  have HS := mkHid (And.intro b0 (And.intro hN (And.intro hN0 hE)))
  have l0 : W0.cell? ⟨kG, 0, none⟩ = some (.int .i64 (N : Int)) := (cell_of_row _ _ _ _ _ _ r0).trans rfl
  have l1 : W0.cell? ⟨kG, 1, none⟩ = some v := (cell_of_row _ _ _ _ _ _ r0).trans rfl
  unfold grV at HC HN ⊢
  clear b0 r0 hv hN hN0 hE hl hc
  go_enter Try.func15, Try.ntmps15
  go_wp2_with fail
  try rw [hkG]
  try rw [hW0]
  with_reducible refine Calls.mono HC.out ?_
  rintro en W1 ⟨rfl, b1⟩
  have b01 := HS.out.1.trans (b1.mono HS.out.1.size)
  have HB1 := mkHid b01
  have l2 := cell_belowX b1 l0
  have l3 := cell_belowX b1 l1
  have HC2 := mkHid (HN.out W1 b01)
  clear b1 b01 l0 l1 hW0 HC
  go_wp2_with fail
  with_reducible refine Calls.mono HC2.out ?_
  rintro en W2 ⟨g, V, rfl, hrw, b2⟩
  have CG := groups_lst W2 hrw HS.out.2.1 HS.out.2.2.1 (fun v _ x hx => ndF_lt v x hx) ndF_len (ndF_out HS.out.2.2.2)
  have HB2 := mkHid (HB1.out.trans (b2.mono HB1.out.size))
  clear hrw b2 l2 l3 HC2 HN
  go_wp2_with fail
  refine CG.mono ?_
  rintro e W3 ⟨k3, n, rfl, b3, Ps, nb0, od, pr, q⟩
  have HE : Hid (∃ Rs, Below w.heap.size w W3 ∧ Pr (some ⟨k3, 0, none⟩) n Rs W3 ∧ GrU (ndF N E) N n Rs) := ⟨_, HB2.out.trans (b3.mono HB2.out.size), pr, Ps, nb0, od, rfl, q⟩
  clear b3 pr q CG
  go_wp2_with fail
  go_ret2
  obtain ⟨Rs, e1, e2, e3⟩ := HE.out
  exact ⟨k3, n, Rs, rfl, e1, e2, e3⟩
end Go.Proofs.Ytibhjkmbbfgnpaa

/- GraphParts: the law, whole. -/
namespace Go.Proofs.Ytibhjkmbbfgnpaa
open Go.RowKit GM Gl Gsx
set_option maxRecDepth 20000
theorem row_newP (w : World) (N : Nat) (u : Value) {Y : World} {k : Nat} (hY : w.alloc (.cells #[.int .i64 (N : Int), u] 24) = Y) (hk : w.heap.size = k) : Below w.heap.size w Y ∧ Y.heap[k]? = some (.cells #[.int .i64 (N : Int), u] 24 (0, 0)) := by
  rw [← hY, ← hk]
  exact ⟨(Below.refl _ w).alloc (Nat.le_refl _) _, heap_alloc_new _ _⟩
theorem qm_of {N n : Nat} {E : List (Nat × Nat)} {nb : List Nat} {Rs : List (List Nat)} (h1 : 1 ≤ N) (h60 : N ≤ 60) (hE : ∀ e ∈ E, e.1 < N ∧ e.2 < N) (hl : E.length ≤ 400) (gn : Gn (ndF N E) N Rs nb) (ln : Rs.length = n) (nN : n ≤ N) (gu : GrU (ndF N E) N n Rs) : Qm N n E nb Rs := by
  refine ⟨h1, h60, hE, hl, gn, ln, by rw [← ln]; exact scc_len0 gn.scc h1, nN, fun p hp => ?_, gru_falls gu ln gn fun v _ x hx => ndF_lt v x hx⟩
  obtain ⟨Ps, nb0, od, rfl, -, lp, ri, -, tp, -⟩ := gu
  exact ri p ((ord_perm tp lp).mem_iff.1 hp)
set_option maxRecDepth 100000 in
set_option maxHeartbeats 6400000 in
theorem parts_any (n : Int) (D : List (Int × Int)) (v : Value) (W : World) (hE : El v D W) :
    Calls Try.prog 4 #[.int .i64 n, v] W fun e w' => e = .returned (.bool true) ∧ Below W.heap.size W w' := by
  have C1 := small_any n D v W hE
  clear hE
  go_enter Try.func4, Try.ntmps4
  go_wp2_with fail
  refine Calls.mono C1 ?_
  rintro e w1 ⟨N, E, u, rfl, h1, h60, hE2, hEl, hown, b1⟩
  obtain ⟨ou, cu, rfl⟩ := own_size hown
  obtain ⟨le, hle⟩ : ∃ k, E.length = k := ⟨_, rfl⟩
  rw [hle] at hown ⊢
  obtain ⟨kG, hkG⟩ : ∃ k, w1.heap.size = k := ⟨_, rfl⟩
  obtain ⟨Y, hY⟩ : ∃ Y, w1.alloc (.cells #[.int .i64 (N : Int), .slice ou le cu] 24) = Y := ⟨_, rfl⟩
  obtain ⟨bY1, rg⟩ := row_newP w1 N _ hY hkG
  have bY := b1.trans (bY1.mono b1.size)
  have hel : El (.slice ou le cu) (zE E) Y := by rw [hle.symm] at hown ⊢; exact (el_own hown).2.below bY1
  have hc := chk0 hE2 (by omega) (by omega)
  have C2 := Groups_lst N (by omega) h1 E hE2 (by omega) hc (.slice ou le cu) Y hel
  have g0 : Y.cell? ⟨kG, 0, none⟩ = some (.int .i64 (N : Int)) := (cell_of_row _ _ _ _ _ _ rg).trans rfl
  have g1 : Y.cell? ⟨kG, 1, none⟩ = some (.slice ou le cu) := (cell_of_row _ _ _ _ _ _ rg).trans rfl
  have HW := mkHid (And.intro bY (And.intro rg (And.intro hel (And.intro hc (And.intro h1 (And.intro h60 (And.intro hE2 hEl)))))))
  unfold grV at C2 ⊢
  clear C1 bY1 bY rg hel hc h1 h60 hE2 hEl hown b1 hle
  dsimp only
  go_upto_region 2 with fail
  try rw [hkG]
  try rw [hY]
  go_wp2_with fail
  refine C2.mono ?_
  rintro e w2 ⟨kL, n1, Rs1, rfl, b2, pr, gu⟩
  have C3 := condense_lst N (by have := HW.out.2.2.2.2.2.1; omega) HW.out.2.2.2.2.1 E HW.out.2.2.2.2.2.2.1 (by have := HW.out.2.2.2.2.2.2.2; omega) HW.out.2.2.2.1 (.slice ou le cu) w2 (HW.out.2.2.1.below b2)
  have l0 : w2.cell? ⟨kG, 0, none⟩ = some (.int .i64 (N : Int)) := cell_belowX b2 g0
  have l1 : w2.cell? ⟨kG, 1, none⟩ = some (.slice ou le cu) := cell_belowX b2 g1
  have H2 := mkHid (And.intro b2 (And.intro pr gu))
  unfold grV at C3
  clear C2 g0 g1 b2 pr gu hY
  dsimp only
  go_upto_region 3 with fail
  go_wp2_with fail
  refine C3.mono ?_
  rintro e w3 ⟨nn, kN, uc, nb, Rs, rfl, b3, elc, rN, gn, ln, nN, -, q⟩
  have gu2 : GrU (ndF N E) N nn Rs := q
  obtain ⟨b2, pr, gu⟩ := H2.out
  obtain ⟨e1, e2⟩ := gru_uniq gu gu2
  subst e1 e2
  have hm := qm_of HW.out.2.2.2.2.1 HW.out.2.2.2.2.2.1 HW.out.2.2.2.2.2.2.1 HW.out.2.2.2.2.2.2.2 gn ln nN gu
  obtain ⟨oc, cc, hec, -⟩ := el_cells elc
  subst hec
  obtain ⟨nc, hnc⟩ : ∃ k, (ecE N n1 E nb).length = k := ⟨_, rfl⟩
  have hnc' : (edg (btw (ndF N E) nb N n1) n1).length = nc := hnc
  rw [hnc'] at elc ⊢
  obtain ⟨kC, hkC⟩ : ∃ k, w3.heap.size = k := ⟨_, rfl⟩
  obtain ⟨Y3, hY3⟩ : ∃ Y, w3.alloc (.cells #[.int .i64 (n1 : Int), .slice oc nc cc] 24) = Y := ⟨_, rfl⟩
  obtain ⟨bY3, rc⟩ := row_newP w3 n1 _ hY3 hkC
  have b23 := b3.trans (bY3.mono b3.size)
  have b13 := b2.trans (b23.mono b2.size)
  have C4 := leads_any N (by have := hm.h60; omega) E hm.hE (by have := hm.hl; omega) (.slice ou le cu) Y3 (HW.out.2.2.1.below b13)
  have rg3 := (b13.block _ (Array.getElem?_eq_some_iff.1 HW.out.2.1).1).trans HW.out.2.1
  have g0 : Y3.cell? ⟨kG, 0, none⟩ = some (.int .i64 (N : Int)) := (cell_of_row _ _ _ _ _ _ rg3).trans rfl
  have g1 : Y3.cell? ⟨kG, 1, none⟩ = some (.slice ou le cu) := (cell_of_row _ _ _ _ _ _ rg3).trans rfl
  have c0 : Y3.cell? ⟨kC, 0, none⟩ = some (.int .i64 (n1 : Int)) := (cell_of_row _ _ _ _ _ _ rc).trans rfl
  have n0 : ¬ ((n1 : Int) = 0) := by have := hm.n1; omega
  have n0b : ((n1 : Int) == 0) = false := by simpa using n0
  have HX := mkHid (And.intro hm (And.intro (HW.out.1.trans (b13.mono HW.out.1.size)) (And.intro rg3 (And.intro rc (And.intro (HW.out.2.2.1.below b13) (And.intro (elc.below bY3) (And.intro ((bY3.block _ (Array.getElem?_eq_some_iff.1 rN).1).trans rN) (pr.below b23))))))))
  unfold grV at C4 ⊢
  clear C3 l0 l1 b2 pr gu b3 elc rN gn ln nN q gu2 hm hnc hnc' bY3 rc b23 b13 rg3 H2 HW
  dsimp only
  go_upto_region 4 with fail
  try rw [hkC]
  try rw [hY3]
  go_upto_region 6 with fail
  rename_i K1 hk1
  have HK1 := mkHid hk1
  clear hk1 hY3
  go_wp2_with fail
  refine C4.mono ?_
  rintro e w4 ⟨gM, C, rfl, mx⟩
  have HP : Hid (Pw W kG kC kL kN gM N n1 E nb Rs1 (.slice ou le cu) (.slice oc nc cc) w4) := by
    obtain ⟨hm, bW, rg, rc, eg, ec, rN, pr⟩ := HX.out
    have b4 := mx.bel
    have q {k : Nat} {o : Obj} (e : Y3.heap[k]? = some o) : w4.heap[k]? = some o := (b4.block k (Array.getElem?_eq_some_iff.1 e).1).trans e
    refine ⟨bW.trans (b4.mono bW.size), q rg, q rc, eg.below b4, ec.below b4, q rN, pr.below b4, fun i hi => ?_, fun i j hi hj => ?_⟩
    · rw [cell_of_row _ _ _ _ _ _ mx.out, oc_get _ _ _ i hi, if_pos hi]
    · exact (cell_of_row _ _ _ _ _ _ (mx.row i hi)).trans (bk_get _ _ j hj)
  clear mx C4 g0 g1 c0
  go_wp2_with fail
  exact HK1.out _ _ (gq7 W w4 HP.out HX.out.1)
end Go.Proofs.Ytibhjkmbbfgnpaa
