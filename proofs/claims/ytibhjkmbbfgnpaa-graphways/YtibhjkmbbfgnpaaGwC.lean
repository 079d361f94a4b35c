/- GraphWays: the law: the loop over Each. -/
import Derived.Test.YtibhjkmbbfgnpaaGwB
namespace Go.Proofs.Ytibhjkmbbfgnpaa
open Go.RowKit GM Gwx
set_option maxRecDepth 100000 in
theorem eqFn (d : Nat) (w : World) (f : Nat) (fi ca : Array Value) : (Op.equalIn (d + 1) 37 (.func (.func f) fi ca) .nilFunc).run Try.prog w = .ok false w := by
  simp [Op.equalIn, run_underlying Try.underlying37]
theorem eqlFn (w : World) (f : Nat) (fi ca : Array Value) : (binOp .eql 37 (.func (.func f) fi ca) .nilFunc).run Try.prog w = .ok (.bool false) w := by
  show ((do pure (.bool (← Op.equal 37 (.func (.func f) fi ca) .nilFunc)) : Sem Value)).run Try.prog w = _
  rw [Sem.run_bind, show (Op.equal 37 (.func (.func f) fi ca) .nilFunc).run Try.prog w = _ from eqFn 9999 w f fi ca]
  rfl
/-- How far b is, by the pairs so far. -/
def farI (b : Nat) (l : List (Nat × Nat)) : Int := l.foldl (fun z p => if p.1 = b then (p.2 : Int) else z) (-1)
def lastI (l : List (Nat × Nat)) : Nat := l.foldl (fun _ p => p.2) 0
theorem farI_snoc (b : Nat) (l : List (Nat × Nat)) (p : Nat × Nat) : farI b (l ++ [p]) = if p.1 = b then (p.2 : Int) else farI b l := by simp [farI, List.foldl_append]
theorem lastI_snoc (l : List (Nat × Nat)) (p : Nat × Nat) : lastI (l ++ [p]) = p.2 := by simp [lastI, List.foldl_append]
theorem snoc_ind {α : Type} {P : List α → Prop} (h0 : P []) (h1 : ∀ l x, P l → P (l ++ [x])) (l : List α) : P l := by
  rw [← List.reverse_reverse l]
  induction l.reverse with
  | nil => exact h0
  | cons x r ih =>
    rw [List.reverse_cons]
    exact h1 _ x ih
theorem farI_none (b : Nat) : ∀ l : List (Nat × Nat), (∀ p ∈ l, p.1 ≠ b) → farI b l = -1 := fun l => by
  induction l using snoc_ind with
  | h0 => exact fun _ => rfl
  | h1 l p ih =>
    intro h
    rw [farI_snoc, if_neg (h p (by simp)), ih fun q hq => h q (by simp [hq])]
theorem farI_some (b : Nat) : ∀ l : List (Nat × Nat), (∃ p ∈ l, p.1 = b) → ∃ p ∈ l, p.1 = b ∧ farI b l = (p.2 : Int) := fun l => by
  induction l using snoc_ind with
  | h0 => rintro ⟨p, h, -⟩; cases h
  | h1 l p ih =>
    rintro ⟨q, hq, e⟩
    by_cases c : p.1 = b
    · exact ⟨p, by simp, c, by rw [farI_snoc, if_pos c]⟩
    · rcases List.mem_append.1 hq with k | k
      · obtain ⟨q2, k1, k2, k3⟩ := ih ⟨q, k, e⟩
        exact ⟨q2, by simp [k1], k2, by rw [farI_snoc, if_neg c, k3]⟩
      · rw [List.mem_singleton.1 k] at e
        exact absurd e c
theorem lastI_mem : ∀ l : List (Nat × Nat), lastI l = 0 ∨ ∃ p ∈ l, lastI l = p.2 := fun l => by
  induction l using snoc_ind with
  | h0 => exact .inl rfl
  | h1 l p ih => exact .inr ⟨p, by simp, lastI_snoc l p⟩
theorem lastI_le {L : List (Nat × Nat)} (h : L.Pairwise fun p q => p.2 ≤ q.2) {i : Nat} {p : Nat × Nat} (hp : L[i]? = some p) : lastI (L.take i) ≤ p.2 := by
  rcases lastI_mem (L.take i) with e | ⟨q, hq, e⟩
  · omega
  · rw [e]
    obtain ⟨j, hj, e2⟩ := List.getElem_of_mem hq
    rw [List.getElem_take] at e2
    obtain ⟨hi, e3⟩ := List.getElem?_eq_some_iff.1 hp
    rw [List.length_take] at hj
    rw [← e2, ← e3]
    exact List.pairwise_iff_getElem.1 h j i (by omega) hi (by omega)
/-- What the round at i finds. -/
structure Wp (N a b : Nat) (E : List (Nat × Nat)) (L : List (Nat × Nat)) (i : Nat) (v d : Nat) : Prop where
  vN : v < N
  pb : Gl.pb E N a v = true
  dN : d ≤ N - 1
  ld : lastI (L.take i) ≤ d
  z : i = 0 → v = a ∧ d = 0
theorem Wm.pair {N a b K i : Nat} {E : List (Nat × Nat)} (h : Wm N a b E K) {v d : Nat} (hp : (eaL (ndF N E) [a] K)[i]? = some (v, d)) : Wp N a b E (eaL (ndF N E) [a] K) i v d := by
  have h1 : d < K ∧ Ds (ndF N E) a d v := eaL_mem.1 (List.mem_of_getElem? hp)
  have hK := h.hKN
  refine ⟨bl_lt h.ha (fun v _ x hx => ndF_lt v x hx) _ _ h1.2.1, (h.reach _).2 ⟨_, h1.2.1⟩, by omega, lastI_le (eaL_rise K) hp, fun e => ?_⟩
  subst e
  rw [eaL_first h.hK0] at hp
  cases hp
  exact ⟨rfl, rfl⟩
/-- How far b is, all told. -/
theorem Wm.far {N a b K : Nat} {E : List (Nat × Nat)} (h : Wm N a b E K) : ((∀ d, ¬ Bl (ndF N E) a d b) ∧ farI b (eaL (ndF N E) [a] K) = -1) ∨ ∃ d, Ds (ndF N E) a d b ∧ farI b (eaL (ndF N E) [a] K) = (d : Int) := by
  by_cases q : ∃ p ∈ eaL (ndF N E) [a] K, p.1 = b
  · obtain ⟨p, h1, h2, h3⟩ := farI_some b _ q
    have h4 := (eaL_mem.1 h1).2
    rw [h2] at h4
    exact .inr ⟨p.2, h4, h3⟩
  · refine .inl ⟨fun d hd => q ?_, farI_none b _ fun p hp e => q ⟨p, hp, e⟩⟩
    obtain ⟨e, -, he⟩ := hd.ds
    exact ⟨(b, e), eaL_mem.2 ⟨ds_lt h.hK _ _ he, he⟩, rfl⟩
/-- What lies between two rounds. -/
structure Wl (kN kF kL b : Nat) (L : List (Nat × Nat)) (Y : World) (i : Nat) (X' : Nat → Prop) (U : World) : Prop where
  n : U.heap[kN]? = some (.cells #[.int .i64 (i : Int)] 3 (0, 0))
  f : U.heap[kF]? = some (.cells #[.int .i64 (farI b (L.take i))] 3 (0, 0))
  l : U.heap[kL]? = some (.cells #[.int .i64 ((lastI (L.take i) : Nat) : Int)] 3 (0, 0))
  oth : ∀ k, k < Y.heap.size → k ≠ kN → k ≠ kF → k ≠ kL → U.heap[k]? = Y.heap[k]?
  xs : ∀ k, X' k ↔ k = kN ∨ k = kF ∨ k = kL
  lt : kN < Y.heap.size ∧ kF < Y.heap.size ∧ kL < Y.heap.size
  ne : kN < kF ∧ kF < kL
  sz : Y.heap.size ≤ U.heap.size
section
variable {kN kF kL b i : Nat} {L : List (Nat × Nat)} {Y U U' : World} {X' : Nat → Prop}
theorem Wl.keep (h : Wl kN kF kL b L Y i X' U) (hg : Rm.Agr (fun k => k < Y.heap.size ∨ X' k) U U') : Wl kN kF kL b L Y i X' U' :=
  have q {k : Nat} (hk : k < Y.heap.size) : U'.heap[k]? = U.heap[k]? := hg.blk k (Nat.lt_of_lt_of_le hk h.sz) (.inl hk)
  ⟨(q h.lt.1).trans h.n, (q h.lt.2.1).trans h.f, (q h.lt.2.2).trans h.l, fun k hk h1 h2 h3 => (q hk).trans (h.oth k hk h1 h2 h3), h.xs, h.lt, h.ne, Nat.le_trans h.sz hg.size⟩
/-- A round's stores. -/
theorem Wl.step (h : Wl kN kF kL b L Y i X' U) {v d : Nat} (hp : L[i]? = some (v, d)) {j : Nat} (hj : i + 1 = j) :
    (v = b → Wl kN kF kL b L Y j X' (((U.setCell ⟨kF, 0, none⟩ (.int .i64 (d : Int))).setCell ⟨kL, 0, none⟩ (.int .i64 (d : Int))).setCell ⟨kN, 0, none⟩ (.int .i64 (j : Int))) ∧ Rm.Frm X' U (((U.setCell ⟨kF, 0, none⟩ (.int .i64 (d : Int))).setCell ⟨kL, 0, none⟩ (.int .i64 (d : Int))).setCell ⟨kN, 0, none⟩ (.int .i64 (j : Int)))) ∧
    (v ≠ b → Wl kN kF kL b L Y j X' ((U.setCell ⟨kL, 0, none⟩ (.int .i64 (d : Int))).setCell ⟨kN, 0, none⟩ (.int .i64 (j : Int))) ∧ Rm.Frm X' U ((U.setCell ⟨kL, 0, none⟩ (.int .i64 (d : Int))).setCell ⟨kN, 0, none⟩ (.int .i64 (j : Int)))) := by
  subst hj
  have o (A : World) (k l : Nat) (u : Value) (hk : k ≠ l) : (A.setCell ⟨l, 0, none⟩ u).heap[k]? = A.heap[k]? := heap_setCell_other A ⟨l, 0, none⟩ k u hk
  have s (A : World) (l : Nat) (u v : Value) (hl : A.heap[l]? = some (.cells #[u] 3 (0, 0))) : (A.setCell ⟨l, 0, none⟩ v).heap[l]? = some (.cells #[v] 3 (0, 0)) := by
    rw [setCell_eq_setRow A l 0 _ _ _ _ hl]
    exact setRow_heap _ _ _ _ _ _ hl
  have m (A : World) (l : Nat) (u v : Value) (hl : A.heap[l]? = some (.cells #[u] 3 (0, 0))) : (A.setCell ⟨l, 0, none⟩ v).os = A.os ∧ (A.setCell ⟨l, 0, none⟩ v).tape = A.tape ∧ (A.setCell ⟨l, 0, none⟩ v).output = A.output ∧ (A.setCell ⟨l, 0, none⟩ v).heap.size = A.heap.size := by
    refine ⟨?_, ?_, ?_, by simp⟩ <;> (rw [setCell_eq_setRow A l 0 _ _ _ _ hl]; rfl)
  obtain ⟨n1, n2⟩ := h.ne
  have nNF : kN ≠ kF := by omega
  have nNL : kN ≠ kL := by omega
  have nFL : kF ≠ kL := by omega
  have tk := take_snocP hp
  constructor
  · intro hb
    have l1 := (o U kL kF (.int .i64 (d : Int)) nFL.symm).trans h.l
    have f1 := s U kF _ (.int .i64 (d : Int)) h.f
    have n1 := (o U kN kF (.int .i64 (d : Int)) nNF).trans h.n
    obtain ⟨A, hA⟩ : ∃ A, U.setCell ⟨kF, 0, none⟩ (.int .i64 (d : Int)) = A := ⟨_, rfl⟩
    have m1 := m U kF _ (.int .i64 (d : Int)) h.f
    have o1 := fun k hk => o U k kF (.int .i64 (d : Int)) hk
    rw [hA] at l1 f1 n1 m1 o1
    rw [hA]
    have l2 := s A kL _ (.int .i64 (d : Int)) l1
    have f2 := (o A kF kL (.int .i64 (d : Int)) nFL).trans f1
    have n2 := (o A kN kL (.int .i64 (d : Int)) nNL).trans n1
    obtain ⟨C, hC⟩ : ∃ C, A.setCell ⟨kL, 0, none⟩ (.int .i64 (d : Int)) = C := ⟨_, rfl⟩
    have m2 := m A kL _ (.int .i64 (d : Int)) l1
    have o2 := fun k hk => o A k kL (.int .i64 (d : Int)) hk
    rw [hC] at l2 f2 n2 m2 o2
    rw [hC]
    have m3 := m C kN _ (.int .i64 ((i + 1 : Nat) : Int)) n2
    refine ⟨⟨s C kN _ _ n2, ?_, ?_, fun k hk h1 h2 h3 => (o C k kN _ h1).trans ((o2 k h3).trans ((o1 k h2).trans (h.oth k hk h1 h2 h3))), h.xs, h.lt, h.ne, by rw [m3.2.2.2, m2.2.2.2, m1.2.2.2]; exact h.sz⟩, ⟨m3.1.trans (m2.1.trans m1.1), m3.2.1.trans (m2.2.1.trans m1.2.1), m3.2.2.1.trans (m2.2.2.1.trans m1.2.2.1), by rw [m3.2.2.2, m2.2.2.2, m1.2.2.2]; exact Nat.le_refl _, fun k hk hx => (o C k kN _ fun e => hx ((h.xs k).2 (.inl e))).trans ((o2 k fun e => hx ((h.xs k).2 (.inr (.inr e)))).trans (o1 k fun e => hx ((h.xs k).2 (.inr (.inl e)))))⟩⟩
    · rw [o C kF kN _ nNF.symm, f2, tk, farI_snoc, if_pos hb]
    · rw [o C kL kN _ nNL.symm, l2, tk, lastI_snoc]
  · intro hb
    have l2 := s U kL _ (.int .i64 (d : Int)) h.l
    have f2 := (o U kF kL (.int .i64 (d : Int)) nFL).trans h.f
    have n2 := (o U kN kL (.int .i64 (d : Int)) nNL).trans h.n
    obtain ⟨C, hC⟩ : ∃ C, U.setCell ⟨kL, 0, none⟩ (.int .i64 (d : Int)) = C := ⟨_, rfl⟩
    have m2 := m U kL _ (.int .i64 (d : Int)) h.l
    have o2 := fun k hk => o U k kL (.int .i64 (d : Int)) hk
    rw [hC] at l2 f2 n2 m2 o2
    rw [hC]
    have m3 := m C kN _ (.int .i64 ((i + 1 : Nat) : Int)) n2
    refine ⟨⟨s C kN _ _ n2, ?_, ?_, fun k hk h1 h2 h3 => (o C k kN _ h1).trans ((o2 k h3).trans (h.oth k hk h1 h2 h3)), h.xs, h.lt, h.ne, by rw [m3.2.2.2, m2.2.2.2]; exact h.sz⟩, ⟨m3.1.trans m2.1, m3.2.1.trans m2.2.1, m3.2.2.1.trans m2.2.2.1, by rw [m3.2.2.2, m2.2.2.2]; exact Nat.le_refl _, fun k hk hx => (o C k kN _ fun e => hx ((h.xs k).2 (.inl e))).trans (o2 k fun e => hx ((h.xs k).2 (.inr (.inr e))))⟩⟩
    · rw [o C kF kN _ nNF.symm, f2, tk, farI_snoc, if_neg hb]
    · rw [o C kL kN _ nNL.symm, l2, tk, lastI_snoc]
end
/-- What is known behind the loop. -/
def Wf (kR N a b : Nat) (E : List (Nat × Nat)) (r : Bool) (wv : Value) (fr : Int) (U : World) : Prop := (r = false ∧ fr = -1 ∧ ∀ d, ¬ Bl (ndF N E) a d b) ∨ (r = true ∧ ∃ d Lw, Pth (ndF N E) a b d Lw ∧ Iz (kR + 1) wv Lw U ∧ fr = (d : Int))
theorem leN {a b : Nat} (h : a ≤ b) : ¬ (b : Int) < (a : Int) := by omega
theorem wrM (N : Nat) (h : 1 ≤ N) (h2 : N ≤ 60) : wrap64 ((N : Int) - 1) = ((N - 1 : Nat) : Int) := by unfold wrap64; omega
theorem wrJ {i j : Nat} (h : i + 1 = j) (h2 : i < 1000000) : wrap64 ((i : Int) + 1) = (j : Int) := by unfold wrap64; omega
attribute [local go_sem ↓] eqlFn
attribute [local go_sem] Oper.semAt_some
set_option maxRecDepth 100000 in
set_option maxHeartbeats 6400000 in
/-- From region 20 on, up to region 35. -/
theorem gw20 (W X : World) {kN kA kB kR kG kM gM N a b K nl cl nw cw : Nat} {ol ow : Option Addr} {r : Bool} {E : List (Nat × Nat)} {ev : Value} {x : Int} (hw : Wa W kN kA kB kR kG kM gM N a b E ev x X) (hm : Wm N a b E K) (hl : Iz (kR + 1) (.slice ol nl cl) (rL N a E) X) (hr : Wr kR N a b E r (.slice ow nw cw) X)
    (HT : ∀ (U : World) (kF kD : Nat) (fr : Int) {v0 v1 v2 v3 v5 v12 v13 v14 v16 v18 v19 v21 v22 v23 v24 v25 v26 v27 v28 v29 v30 v31 v32 v33 v34 v35 v36 v37 v38 v39 v40 v41 v42 v43 v44 v45 v46 v47 v48 v49 v50 v51 v52 v53 v54 v55 v56 v57 v58 v59 v60 v61 v62 v63 v64 v65 v66 v67 v68 v69 v70 v71 v72 v73 v74 v75 v76 v77 v78 v79 v80 v81 v82 v83 v84 v85 v86 v87 v88 v89 v90 v91 v92 v93 v94 v95 v96 v97 v98 v99 v100 v101 v102 v103 v104 v105 v106 v107 v108 v109 v110 v111 v112 v113 v114 v115 v116 v117 v118 v119 v120 v121 v122 v123 v124 v125 v126 v127 v128 v129 v130 v131 v132 v133 v134 v135 v136 v137 v138 v139 v140 v141 v142 v143 v144 v145 v146 v147 v148 v149 v150 v151 v152 v153 v154 v155 v156 v157 v158 v159 v160 v161 v162 v163 v164 v165 v166 v167 v168 v169 v170 v171 v172 v173 v174 v175 v176 v177 v178 v179 v180 v181 v182 v183 v184 v185 v186 v187 v188 v189 v190 v191 v192 v193 v194 v195 v196 v197 v198 v199 v200 v201 v202 v203 v204 v205 v206 v207 v208 v209 v210 v211 v212 v213 v214 v215 v216 v217 v218 v219 v220 v221 v222 v223 v224 v225 v226 v227 v228 v229 v230 v231 v232 v233 v234 v235 v236 v237 v238 v239 v240 v241 v242 v243 v244 v245 v246 v247 v248 v249 : Value}, Wa W kN kA kB kR kG kM gM N a b E ev (nl : Int) U → Wf kR N a b E r (.slice ow nw cw) fr U → U.heap[kF]? = some (.cells #[.int .i64 fr] 3 (0, 0)) → U.heap[kD]? = some (.deferred (some [])) → W.heap.size ≤ kD → kR < kF → Code.wp Try.prog (tlF Try.f3 35) (bodyPostM Fence.wide 9 Try.prog Try.f3 (fun e w' => e = .returned (.bool true) ∧ Below W.heap.size W w')) ⟨#[v0, v1, v2, v3, .pointer (some ⟨kN, 0, none⟩), v5, .pointer (some ⟨kA, 0, none⟩), .pointer (some ⟨kB, 0, none⟩), .pointer (some ⟨kR, 0, none⟩), .pointer (some ⟨kG, 0, none⟩), .pointer (some ⟨kM, 0, none⟩), .slice ol nl cl, v12, v13, v14, .bool r, v16, .slice ow nw cw, v18, v19, .pointer (some ⟨kF, 0, none⟩), v21, v22, v23, v24, v25, v26, v27, v28, v29, v30, v31, v32, v33, v34, v35, v36, v37, v38, v39, v40, v41, v42, v43, v44, v45, v46, v47, v48, v49, v50, v51, v52, v53, v54, v55, v56, v57, v58, v59, v60, v61, v62, v63, v64, v65, v66, v67, v68, v69, v70, v71, v72, v73, v74, v75, v76, v77, v78, v79, v80, v81, v82, v83, v84, v85, v86, v87, v88, v89, v90, v91, v92, v93, v94, v95, v96, v97, v98, v99, v100, v101, v102, v103, v104, v105, v106, v107, v108, v109, v110, v111, v112, v113, v114, v115, v116, v117, v118, v119, v120, v121, v122, v123, v124, v125, v126, v127, v128, v129, v130, v131, v132, v133, v134, v135, v136, v137, v138, v139, v140, v141, v142, v143, v144, v145, v146, v147, v148, v149, v150, v151, v152, v153, v154, v155, v156, v157, v158, v159, v160, v161, v162, v163, v164, v165, v166, v167, v168, v169, v170, v171, v172, v173, v174, v175, v176, v177, v178, v179, v180, v181, v182, v183, v184, v185, v186, v187, v188, v189, v190, v191, v192, v193, v194, v195, v196, v197, v198, v199, v200, v201, v202, v203, v204, v205, v206, v207, v208, v209, v210, v211, v212, v213, v214, v215, v216, v217, v218, v219, v220, v221, v222, v223, v224, v225, v226, v227, v228, v229, v230, v231, v232, v233, v234, v235, v236, v237, v238, v239, v240, v241, v242, v243, v244, v245, v246, v247, v248, v249], [{ target := .collected kD, args := #[] }]⟩ U) {v0 v1 v2 v3 v5 v12 v13 v14 v16 v18 v19 v20 v21 v22 v23 v24 v25 v26 v27 v28 v29 v30 v31 v32 v33 v34 v35 v36 v37 v38 v39 v40 v41 v42 v43 v44 v45 v46 v47 v48 v49 v50 v51 v52 v53 v54 v55 v56 v57 v58 v59 v60 v61 v62 v63 v64 v65 v66 v67 v68 v69 v70 v71 v72 v73 v74 v75 v76 v77 v78 v79 v80 v81 v82 v83 v84 v85 v86 v87 v88 v89 v90 v91 v92 v93 v94 v95 v96 v97 v98 v99 v100 v101 v102 v103 v104 v105 v106 v107 v108 v109 v110 v111 v112 v113 v114 v115 v116 v117 v118 v119 v120 v121 v122 v123 v124 v125 v126 v127 v128 v129 v130 v131 v132 v133 v134 v135 v136 v137 v138 v139 v140 v141 v142 v143 v144 v145 v146 v147 v148 v149 v150 v151 v152 v153 v154 v155 v156 v157 v158 v159 v160 v161 v162 v163 v164 v165 v166 v167 v168 v169 v170 v171 v172 v173 v174 v175 v176 v177 v178 v179 v180 v181 v182 v183 v184 v185 v186 v187 v188 v189 v190 v191 v192 v193 v194 v195 v196 v197 v198 v199 v200 v201 v202 v203 v204 v205 v206 v207 v208 v209 v210 v211 v212 v213 v214 v215 v216 v217 v218 v219 v220 v221 v222 v223 v224 v225 v226 v227 v228 v229 v230 v231 v232 v233 v234 v235 v236 v237 v238 v239 v240 v241 v242 v243 v244 v245 v246 v247 v248 v249 : Value} :
    Code.wp Try.prog (tlF Try.f3 20) (bodyPostM Fence.wide 9 Try.prog Try.f3 (fun e w' => e = .returned (.bool true) ∧ Below W.heap.size W w')) ⟨#[v0, v1, v2, v3, .pointer (some ⟨kN, 0, none⟩), v5, .pointer (some ⟨kA, 0, none⟩), .pointer (some ⟨kB, 0, none⟩), .pointer (some ⟨kR, 0, none⟩), .pointer (some ⟨kG, 0, none⟩), .pointer (some ⟨kM, 0, none⟩), .slice ol nl cl, v12, v13, v14, .bool r, v16, .slice ow nw cw, v18, v19, v20, v21, v22, v23, v24, v25, v26, v27, v28, v29, v30, v31, v32, v33, v34, v35, v36, v37, v38, v39, v40, v41, v42, v43, v44, v45, v46, v47, v48, v49, v50, v51, v52, v53, v54, v55, v56, v57, v58, v59, v60, v61, v62, v63, v64, v65, v66, v67, v68, v69, v70, v71, v72, v73, v74, v75, v76, v77, v78, v79, v80, v81, v82, v83, v84, v85, v86, v87, v88, v89, v90, v91, v92, v93, v94, v95, v96, v97, v98, v99, v100, v101, v102, v103, v104, v105, v106, v107, v108, v109, v110, v111, v112, v113, v114, v115, v116, v117, v118, v119, v120, v121, v122, v123, v124, v125, v126, v127, v128, v129, v130, v131, v132, v133, v134, v135, v136, v137, v138, v139, v140, v141, v142, v143, v144, v145, v146, v147, v148, v149, v150, v151, v152, v153, v154, v155, v156, v157, v158, v159, v160, v161, v162, v163, v164, v165, v166, v167, v168, v169, v170, v171, v172, v173, v174, v175, v176, v177, v178, v179, v180, v181, v182, v183, v184, v185, v186, v187, v188, v189, v190, v191, v192, v193, v194, v195, v196, v197, v198, v199, v200, v201, v202, v203, v204, v205, v206, v207, v208, v209, v210, v211, v212, v213, v214, v215, v216, v217, v218, v219, v220, v221, v222, v223, v224, v225, v226, v227, v228, v229, v230, v231, v232, v233, v234, v235, v236, v237, v238, v239, v240, v241, v242, v243, v244, v245, v246, v247, v248, v249], []⟩ X := by
  obtain ⟨oe, ne, ce, rfl⟩ := hw.ev0
  have HW := mkHid (And.intro hw (And.intro hm (And.intro hl hr)))
  obtain ⟨X1, hX1⟩ : ∃ Y, X.alloc (.cells #[.int .i64 (a : Int)] 3) = Y := ⟨_, rfl⟩
  have b1 : Below X.heap.size X X1 := by rw [← hX1]; exact (Below.refl _ X).alloc (Nat.le_refl _) _
  have hi : Il X.heap.size (.slice (some ⟨X.heap.size, 0, none⟩) 1 1) [a] X1 := by rw [← hX1]; exact il_one X a
  have C := each_any N (by have := hm.h60; omega) E hm.hE (by have := hm.hEl; omega) _ X1 (hw.el.below b1) (chk_zero hm.hE (by have := hm.h60; omega) (by have := hm.hEl; omega)) hi (fun x hx => by rw [List.mem_singleton.1 hx]; exact hm.ha) (Nat.succ_pos _) (by show 1 < _; omega)
  have c := hw.c
  have ca := c.a
  have c0 := c.g0
  have c1 := c.g1
  obtain ⟨kx, hkx⟩ : ∃ k, X.heap.size = k := ⟨_, rfl⟩
  have hxs : kR + 1 ≤ X.heap.size := (Array.getElem?_eq_some_iff.1 hw.r).1
  have HB := mkHid (And.intro b1 (And.intro hkx hxs))
  replace hX1 := mkHid hX1
  unfold grV at C
  rw [hkx] at C
  clear hw hm hl hr b1 hi c hxs
  conv => arg 2; whnf
  go_upto_region 20 with fail
  go_wp2_with fail
  try rw [hkx]
  rw [hX1.out]
  refine Calls.mono C ?_
  rintro e w2 ⟨ca, cb, g, gs, gv, V, sv, rfl, b12, hEas⟩
  have hw2 := HW.out.1.below (HB.out.1.trans (b12.mono HB.out.1.size))
  obtain ⟨Y0, hY0⟩ : ∃ Y, (w2.alloc (.cells #[.int .i64 (-1)] 3)).alloc (.cells #[.int .i64 0] 3) = Y := ⟨_, rfl⟩
  have bY0 : Below w2.heap.size w2 Y0 := by rw [← hY0]; exact ((Below.refl _ w2).alloc (Nat.le_refl _) _).alloc (by simp) _
  have rF : Y0.heap[w2.heap.size]? = some (.cells #[.int .i64 (-1)] 3 (0, 0)) := by rw [← hY0]; exact heap_alloc2_old _ _ _
  have rL0 : Y0.heap[w2.heap.size + 1]? = some (.cells #[.int .i64 0] 3 (0, 0)) := by rw [← hY0]; exact heap_alloc2_new _ _ _
  have hwY0 := hw2.below bY0
  have cN : Y0.cell? ⟨kN, 0, none⟩ = some (.int .i64 x) := (cell_of_row _ _ _ _ _ _ hwY0.n).trans rfl
  have fN : Y0.frozen? ⟨kN, 0, none⟩ = false := frozen_of_row _ _ _ _ _ hwY0.n
  obtain ⟨kF, hkF⟩ : ∃ k, w2.heap.size = k := ⟨_, rfl⟩
  have HE := mkHid (And.intro b12 (And.intro hEas (And.intro bY0 (And.intro rF (And.intro rL0 (And.intro hwY0 hkF))))))
  replace hY0 := mkHid hY0
  clear C b12 hEas hw2 bY0 rF rL0 hwY0 c0 c1
  dsimp only
  go_upto_region 25 with fail
  try rw [hkF]
  try rw [hY0.out]
  obtain ⟨Y, hY⟩ : ∃ Y, Y0.setCell ⟨kN, 0, none⟩ (.int .i64 0) = Y := ⟨_, rfl⟩
  obtain ⟨kL, hkL⟩ : ∃ k, kF + 1 = k := ⟨_, rfl⟩
  have lim : W.heap.size = kN ∧ kN < kR ∧ kR < kF ∧ X1.heap.size ≤ kF ∧ X.heap.size ≤ kF ∧ kN < X.heap.size := by
    obtain ⟨q1, q2, q3, q4, q5, q6, q7⟩ := HE.out
    have := q1.size
    have := HB.out.1.size
    have := HB.out.2.2
    have := q6.k0
    have := q6.k1
    have := q6.k2
    have := q6.k3
    omega
  have LIM := mkHid lim
  have HY : Hid (Wl kN kF kL b (eaL (ndF N E) [a] K) Y 0 (fun k => k = kN ∨ k = kF ∨ k = kL) Y ∧ (∀ k, k ≠ kN → Y.heap[k]? = Y0.heap[k]?) ∧ Y.heap.size = Y0.heap.size ∧ Eas (fun k => X1.heap.size ≤ k ∧ k < w2.heap.size) ca cb g N gs gv (ndF N E) V sv [a] Y ∧ Below W.heap.size W Y) := by
    obtain ⟨q1, q2, q3, q4, q5, q6, q7⟩ := HE.out
    obtain ⟨z0, z1, z2, z3, z4, z5⟩ := lim
    have oth : ∀ k, k ≠ kN → Y.heap[k]? = Y0.heap[k]? := fun k hk => by rw [← hY]; exact heap_setCell_other Y0 ⟨kN, 0, none⟩ k _ hk
    have sz : Y.heap.size = Y0.heap.size := by rw [← hY]; simp
    have hN : Y.heap[kN]? = some (.cells #[.int .i64 0] 3 (0, 0)) := by
      rw [← hY, setCell_eq_setRow Y0 kN 0 _ _ _ _ q6.n]
      exact setRow_heap _ _ _ _ _ _ q6.n
    have q3s := q3.size
    rw [q7] at q4 q5
    rw [hkL] at q5
    have l1 := (Array.getElem?_eq_some_iff.1 q4).1
    have l2 := (Array.getElem?_eq_some_iff.1 q5).1
    refine ⟨⟨hN, (oth kF (by omega)).trans q4, (oth kL (by omega)).trans q5, fun k _ _ _ _ => rfl, fun k => Iff.rfl, ⟨by rw [sz]; omega, by rw [sz]; exact l1, by rw [sz]; exact l2⟩, ⟨by omega, by omega⟩, Nat.le_refl _⟩, oth, sz, q2.keep (by rw [sz]; exact q3s) fun k hk => (oth k (by have := HB.out.1.size; omega)).trans (q3.block k hk.2), ?_⟩
    rw [← hY]
    exact q6.bel.setCell (p := ⟨kN, 0, none⟩) (by show W.heap.size ≤ kN; omega) _
  rw [hkL]
  clear lim
  go_upto_region 26 with fail
  rename_i K1 hk1 K2 hk2
  have HK1 := mkHid hk1
  clear hk1 cN fN hY
  go_wp2_with fail
  have hit := each_iter 8 (by decide) HY.out.2.2.2.1 (fun k hk => by have := HY.out.2.2.1; have := HE.out.2.2.1.size; omega) (by have := HW.out.2.1.h60; omega) (fun x hx => by rw [List.mem_singleton.1 hx]; exact HW.out.2.1.ha) (fun v _ x hx => ndF_lt v x hx) (by show 1 < _; omega) (fun v _ => by have := ndF_len (N := N) (E := E) v; have := HW.out.2.1.h60; omega) HW.out.2.1.hK HW.out.2.1.hK' (by have := HW.out.2.1.hKN; have := HW.out.2.1.h60; omega)
  refine wpIn_wide.1 (Rm.loop_out (F := Fence.wide) (n := 9) rfl (by decide) (gf := 32) (lb := #[.pointer (some ⟨ca, 0, none⟩), .pointer (some ⟨cb, 0, none⟩)]) rfl trivial (enters_of Try.func32 (by kernel_rfl) rfl) hit (fun k hk => by have := HY.out.2.2.1; have := HE.out.2.2.1.size; omega) (Below.refl _ _) (fun i x W l o o' h _ _ => h) (fun i x W l o o' h _ _ => trivial) (fun i x W h => by obtain ⟨_, _, rfl⟩ := h; rfl)
    (fun i X' U => Wl kN kF kL b (eaL (ndF N E) [a] K) Y i X' U) (fun _ _ _ => False) (fun k => k = kN ∨ k = kF ∨ k = kL) ?hI ?hIx HY.out.1 ?hX0 ?hX1 ?round ?done ?stop)
  case hI => exact fun i X' U U2 h hg => h.keep hg
  case hIx => exact fun _ _ _ _ h _ => h
  case hX0 =>
    rintro k (rfl | rfl | rfl)
    · exact HY.out.1.lt.1
    · exact HY.out.1.lt.2.1
    · exact HY.out.1.lt.2.2
  case hX1 =>
    rintro k hk hd
    obtain ⟨z0, z1, z2, z3, z4, z5⟩ := LIM.out
    have := HE.out.2.2.2.2.2.2
    have := HB.out.1.size
    omega
  case stop => exact fun _ _ _ h => h.elim
  case round =>
    rintro l i q X' U hi ⟨⟨v, d⟩, hp, rfl⟩
    gi_wp2
    refine ⟨trivial, fun U2 hl hlw hlz hI hv2 hH hXl => ?_⟩
    obtain ⟨j, hj⟩ : ∃ j, i + 1 = j := ⟨_, rfl⟩
    obtain ⟨hv, hpb, hd, hld, hz⟩ := HW.out.2.1.pair hp
    obtain ⟨st1, st2⟩ := hI.step hp hj
    have hX0 := HW.out.1
    have bX : Below X.heap.size X Y0 := HB.out.1.trans ((HE.out.1.trans (HE.out.2.2.1.mono HE.out.1.size)).mono HB.out.1.size)
    have rw0 {k : Nat} {o : Obj} (e : X.heap[k]? = some o) (h1 : k ≠ kN) : U2.heap[k]? = some o := by
      have hk := (Array.getElem?_eq_some_iff.1 e).1
      obtain ⟨z0, z1, z2, z3, z4, z5⟩ := LIM.out
      have h2 := HY.out.1.lt
      have h3 := HY.out.1.ne
      exact (hI.oth k (by omega) h1 (by omega) (by omega)).trans ((HY.out.2.1 k h1).trans ((bX.block k hk).trans e))
    have rA := rw0 hX0.a (by have := hX0.k1; omega)
    have rB := rw0 hX0.b (by have := hX0.k1; have := hX0.k2; omega)
    have rG := rw0 hX0.g (by have := hX0.k1; have := hX0.k2; have := hX0.k3; have := hX0.k4; omega)
    have rM := rw0 hX0.m (by have := hX0.k1; have := hX0.k2; have := hX0.k3; have := hX0.k5; omega)
    have rO := rw0 hX0.mo (by have := hX0.k1; have := hX0.k2; have := hX0.k3; have := hX0.k6; omega)
    have rR := rw0 (hX0.mr a HW.out.2.1.ha) (by have := hX0.k1; have := hX0.k2; have := hX0.k3; have := hX0.k6; omega)
    have cA : U2.cell? ⟨kA, 0, none⟩ = some (.int .i64 (a : Int)) := (cell_of_row _ _ _ _ _ _ rA).trans rfl
    have cB : U2.cell? ⟨kB, 0, none⟩ = some (.int .i64 (b : Int)) := (cell_of_row _ _ _ _ _ _ rB).trans rfl
    have cG : U2.cell? ⟨kG, 0, none⟩ = some (.int .i64 (N : Int)) := (cell_of_row _ _ _ _ _ _ rG).trans rfl
    have cM : U2.cell? ⟨kM, 0, none⟩ = some (.slice (some ⟨gM, 0, none⟩) N N) := (cell_of_row _ _ _ _ _ _ rM).trans rfl
    have cO : U2.cell? ⟨gM, a, none⟩ = some (.slice (some ⟨gM + 1 + a, 0, none⟩) N N) := by rw [cell_of_row _ _ _ _ _ _ rO, oc_get _ _ _ a HW.out.2.1.ha, if_pos HW.out.2.1.ha]
    have cR : U2.cell? ⟨gM + 1 + a, v, none⟩ = some (.bool true) := ((cell_of_row _ _ _ _ _ _ rR).trans (bk_get _ _ v hv)).trans (by rw [hpb])
    obtain ⟨z, hzz⟩ : ∃ z, lastI ((eaL (ndF N E) [a] K).take i) = z := ⟨_, rfl⟩
    obtain ⟨fz, hfz⟩ : ∃ z, farI b ((eaL (ndF N E) [a] K).take i) = z := ⟨_, rfl⟩
    have rN2 := hI.n
    have rF2 := hI.f
    have rL2 := hI.l
    rw [hzz] at rL2 hld
    rw [hfz] at rF2
    have cN2 : U2.cell? ⟨kN, 0, none⟩ = some (.int .i64 (i : Int)) := (cell_of_row _ _ _ _ _ _ rN2).trans rfl
    have cF2 : U2.cell? ⟨kF, 0, none⟩ = some (.int .i64 fz) := (cell_of_row _ _ _ _ _ _ rF2).trans rfl
    have cL2 : U2.cell? ⟨kL, 0, none⟩ = some (.int .i64 (z : Int)) := (cell_of_row _ _ _ _ _ _ rL2).trans rfl
    have fN2 : U2.frozen? ⟨kN, 0, none⟩ = false := frozen_of_row _ _ _ _ _ rN2
    have fF2 : U2.frozen? ⟨kF, 0, none⟩ = false := frozen_of_row _ _ _ _ _ rF2
    have fL2 : U2.frozen? ⟨kL, 0, none⟩ = false := frozen_of_row _ _ _ _ _ rL2
    obtain ⟨n1, n2⟩ := hI.ne
    have oc2 (A : World) (k l : Nat) (u : Value) (hk : k ≠ l) : (A.setCell ⟨l, 0, none⟩ u).cell? ⟨k, 0, none⟩ = A.cell? ⟨k, 0, none⟩ := World.cell?_of_block (w := A) (a := ⟨k, 0, none⟩) (heap_setCell_other A ⟨l, 0, none⟩ k u hk)
    have of2 (A : World) (k l : Nat) (u : Value) : (A.setCell ⟨l, 0, none⟩ u).frozen? ⟨k, 0, none⟩ = A.frozen? ⟨k, 0, none⟩ := World.frozen?_setCell _ _ _ _
    have x1 : (U2.setCell ⟨kF, 0, none⟩ (.int .i64 (d : Int))).cell? ⟨kL, 0, none⟩ = some (.int .i64 (z : Int)) := (oc2 _ _ _ _ (by omega)).trans cL2
    have x2 : ((U2.setCell ⟨kF, 0, none⟩ (.int .i64 (d : Int))).setCell ⟨kL, 0, none⟩ (.int .i64 (d : Int))).cell? ⟨kN, 0, none⟩ = some (.int .i64 (i : Int)) := (oc2 _ _ _ _ (by omega)).trans ((oc2 _ _ _ _ (by omega)).trans cN2)
    have x3 : (U2.setCell ⟨kL, 0, none⟩ (.int .i64 (d : Int))).cell? ⟨kN, 0, none⟩ = some (.int .i64 (i : Int)) := (oc2 _ _ _ _ (by omega)).trans cN2
    have y1 : (U2.setCell ⟨kF, 0, none⟩ (.int .i64 (d : Int))).frozen? ⟨kL, 0, none⟩ = false := (of2 _ _ _ _).trans fL2
    have y2 : ((U2.setCell ⟨kF, 0, none⟩ (.int .i64 (d : Int))).setCell ⟨kL, 0, none⟩ (.int .i64 (d : Int))).frozen? ⟨kN, 0, none⟩ = false := (of2 _ _ _ _).trans ((of2 _ _ _ _).trans fN2)
    have y3 : (U2.setCell ⟨kL, 0, none⟩ (.int .i64 (d : Int))).frozen? ⟨kN, 0, none⟩ = false := (of2 _ _ _ _).trans fN2
    have a0 := geN a
    have a1 := ltN HW.out.2.1.ha
    have v0 := geN v
    have v1 := ltN hv
    have v2 := nleN hv
    have v3 := leN hld
    have v4 := leN hd
    have v5 := wrM N HW.out.2.1.h1 HW.out.2.1.h60
    have vn : ¬ (v : Int) < 0 := by omega
    have hlen : (eaL (ndF N E) [a] K).length ≤ 60 := by rw [HW.out.2.1.len]; have := rL_le (N := N) (a := a) (E := E); have := HW.out.2.1.h60; omega
    have v6 := wrJ hj (by omega)
    obtain ⟨M1, hM1⟩ : ∃ M, N - 1 = M := ⟨_, rfl⟩
    rw [hM1] at v4 v5
    have HS := mkHid (And.intro st1 st2)
    have HJ := mkHid hj
    have HXs := mkHid (And.intro hI.xs (And.intro hI.lt hI.sz))
    clear st1 st2 hX0 bX rw0 rA rB rG rM rO rR rN2 rF2 rL2 oc2 of2 n1 n2 hlen hM1 hld hd hpb hzz hfz hj hlw hlz hH hXl hv2 hl hv hI
    by_cases hi0 : i = 0
    · obtain ⟨e1, e2⟩ := hz hi0
      subst e1
      subst e2
      subst hi0
      have hj1 : j = 1 := HJ.out.symm
      subst hj1
      have zz : ((0 : Nat) : Int) = 0 := rfl
      rw [zz] at x1 x2 x3 y1 y2 y3 v3 v4 cN2
      by_cases hvb : v = b
      · subst hvb
        gi_wp2
        exact ⟨X', (HS.out.1 rfl).2.wide (fun _ _ h => .inl h), fun k hk => ⟨.inl hk, by have := ((HXs.out.1 k).1 hk); have := HXs.out.2; simp; omega⟩, by rw [HJ.out]; exact (HS.out.1 rfl).1, trivial⟩
      · have vb : ¬ (v : Int) = (b : Int) := by omega
        gi_wp2
        exact ⟨X', (HS.out.2 hvb).2.wide (fun _ _ h => .inl h), fun k hk => ⟨.inl hk, by have := ((HXs.out.1 k).1 hk); have := HXs.out.2; simp; omega⟩, by rw [HJ.out]; exact (HS.out.2 hvb).1, trivial⟩
    · have i0 : ¬ (i : Int) = 0 := by omega
      by_cases hvb : v = b
      · subst hvb
        gi_wp2
        exact ⟨X', (HS.out.1 rfl).2.wide (fun _ _ h => .inl h), fun k hk => ⟨.inl hk, by have := ((HXs.out.1 k).1 hk); have := HXs.out.2; simp; omega⟩, by rw [HJ.out]; exact (HS.out.1 rfl).1, trivial⟩
      · have vb : ¬ (v : Int) = (b : Int) := by omega
        gi_wp2
        exact ⟨X', (HS.out.2 hvb).2.wide (fun _ _ h => .inl h), fun k hk => ⟨.inl hk, by have := ((HXs.out.1 k).1 hk); have := HXs.out.2; simp; omega⟩, by rw [HJ.out]; exact (HS.out.2 hvb).1, trivial⟩
  case done =>
    rintro X' U hI hF hG hK
    have hX0 := HW.out.1
    have bX : Below X.heap.size X Y0 := HB.out.1.trans ((HE.out.1.trans (HE.out.2.2.1.mono HE.out.1.size)).mono HB.out.1.size)
    have rw1 {k : Nat} (hk : k < X.heap.size) (h1 : k ≠ kN) : U.heap[k]? = X.heap[k]? := by
      obtain ⟨z0, z1, z2, z3, z4, z5⟩ := LIM.out
      have h2 := HY.out.1.lt
      have h3 := HY.out.1.ne
      exact (hI.oth k (by omega) h1 (by omega) (by omega)).trans ((HY.out.2.1 k h1).trans (bX.block k hk))
    have rw0 {k : Nat} {o : Obj} (e : X.heap[k]? = some o) (h1 : k ≠ kN) : U.heap[k]? = some o := (rw1 (Array.getElem?_eq_some_iff.1 e).1 h1).trans e
    have sz : X.heap.size ≤ U.heap.size := by
      have := hI.sz
      have := HY.out.2.2.1
      have := bX.size
      omega
    obtain ⟨_, _, _, enl, -⟩ := HW.out.2.2.1.form
    injection enl with _ enl _
    have hlen := HW.out.2.1.len
    have q1 := hX0.k1
    have q2 := hX0.k2
    have q3 := hX0.k3
    have q4 := hX0.k4
    have q5 := hX0.k5
    have q6 := hX0.k6
    have rn := hI.n
    rw [hlen, ← enl] at rn
    have rf := hI.f
    rw [List.take_length] at rf
    have hbel : Below W.heap.size W U := HY.out.2.2.2.2.trans (hF.below HY.out.2.2.2.2.size fun k hk => by
      obtain ⟨z0, z1, z2, z3, z4, z5⟩ := LIM.out
      have h3 := HY.out.1.ne
      omega)
    have hwU : Wa W kN kA kB kR kG kM gM N a b E (.slice oe ne ce) (nl : Int) U := ⟨hbel, rn, rw0 hX0.a (by omega), rw0 hX0.b (by omega), rw0 hX0.r (by omega), rw0 hX0.g (by omega), hX0.el.keep sz (fun k hk hk2 => rw1 hk2 (by have := hX0.eb k hk; omega)), rw0 hX0.m (by omega), rw0 hX0.mo (by omega), fun i hi => rw0 (hX0.mr i hi) (by omega), hX0.k0, q1, q2, q3, q4, q5, q6, hX0.ev0, hX0.eb⟩
    have hwf : Wf kR N a b E r (.slice ow nw cw) (farI b (eaL (ndF N E) [a] K)) U := by
      rcases HW.out.2.2.2 with ⟨e1, e2⟩ | ⟨e1, d, Lw, e2, e3⟩
      · rcases HW.out.2.1.far with ⟨-, e4⟩ | ⟨d, e4, -⟩
        · exact .inl ⟨e1, e4, e2⟩
        · exact absurd e4.1 (e2 d)
      · rcases HW.out.2.1.far with ⟨e4, -⟩ | ⟨d2, e4, e5⟩
        · exact absurd e2.ds.1 (e4 d)
        · exact .inr ⟨e1, d, Lw, e2, e3.keep sz (fun k h1 h2 => rw1 h2 (by omega)), by rw [e5, e4.uniq e2.ds]⟩
    have hlt : W.heap.size ≤ Y.heap.size ∧ kR < kF := by
      obtain ⟨z0, z1, z2, z3, z4, z5⟩ := LIM.out
      exact ⟨HY.out.2.2.2.2.size, z2⟩
    have HT2 := mkHid (And.intro hwU (And.intro hwf (And.intro rf (And.intro hK hlt))))
    clear hwU hwf rf hK hlt hbel rn hlen enl sz rw0 rw1 bX hX0 hI hF hG q1 q2 q3 q4 q5 q6
    go_wp2_with fail
    exact HK1.out _ _ (HT U kF Y.heap.size _ HT2.out.1 HT2.out.2.1 HT2.out.2.2.1 HT2.out.2.2.2.1 HT2.out.2.2.2.2.1 HT2.out.2.2.2.2.2)
end Go.Proofs.Ytibhjkmbbfgnpaa
