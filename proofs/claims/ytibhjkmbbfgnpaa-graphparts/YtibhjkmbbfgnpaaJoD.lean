/- Several texts in one: GoR, GoS, GoT. -/
import Derived.Test.YtibhjkmbbfgnpaaJoC
import Derived.Test.YtibhjkmbbfgnpaaGoQ
import Derived.Test.YtibhjkmbbfgnpaaGxC
import Derived.Deep.QuietTactic
import Derived.BigQuiet
import Derived.Test.YtibhjkmbbfgnpaaGlQ
/- GraphSorts: the law from region 22 on: the levels are the highest that fit. -/
namespace Go.Proofs.Ytibhjkmbbfgnpaa
open Go.RowKit GM Gl
set_option maxRecDepth 20000
namespace Gsx
def headR : Code → Option Nat
  | .region id _ _ => some id
  | .seq a _ => headR a
  | .scope c => headR c
  | .block _ c => headR c
  | .loop c => headR c
  | _ => none
def fromR (n : Nat) : Code → Option (Bool × Code)
  | .seq a b => if headR a = some n then some (false, .seq a b) else match fromR n a with
    | some (false, c) => some (false, .seq c b)
    | some (true, c) => some (true, c)
    | none => fromR n b
  | .scope c => fromR n c
  | .block _ c => (fromR n c).map fun p => (true, p.2)
  | .loop c => (fromR n c).map fun p => (true, p.2)
  | .cond _ a b => match fromR n a with
    | some p => some (true, p.2)
    | none => (fromR n b).map fun p => (true, p.2)
  | _ => none
noncomputable def tlF (f : Func) (k : Nat) : Code := (((f.body.bind (fromR k)).map (·.2)).getD .skip)

end Gsx
open Gsx
section
variable {E : List (Nat × Nat)} {lv hg : List Nat} {N i a b : Nat}
/-- The highest so far. -/
structure Hg (E : List (Nat × Nat)) (lv : List Nat) (N i : Nat) (hg : List Nat) : Prop where
  len : hg.length = N
  hi : ∀ a, a < N → Hi (fun y => (a, y) ∈ E.take i) (fun y => lv.getD y 0) (hg.getD a 0)
theorem hg_zero (E : List (Nat × Nat)) (lv : List Nat) (N : Nat) : Hg E lv N 0 (List.replicate N 0) := by
  refine ⟨by simp, fun a ha => ?_⟩
  have z : (List.replicate N 0).getD a 0 = 0 := by simp [List.getD, ha]
  rw [z]
  exact hi_congr (hi_zero fun _ => 0) (fun y => by simp) (fun y hy => hy.elim)
theorem take_mem2 (hE : E[i]? = some (a, b)) (x y : Nat) : (x, y) ∈ E.take (i + 1) ↔ (x, y) ∈ E.take i ∨ (x = a ∧ y = b) := by
  rw [List.take_add_one, hE, List.mem_append]
  simp
theorem Hg.stay (h : Hg E lv N i hg) (hE : E[i]? = some (a, b)) (hle : lv.getD b 0 + 1 ≤ hg.getD a 0) : Hg E lv N (i + 1) hg := by
  refine ⟨h.len, fun x hx => ?_⟩
  by_cases e : x = a
  · subst e
    have := hi_add (b := b) (S' := fun y => (x, y) ∈ E.take (i + 1)) (h.hi x hx) (fun y => by rw [take_mem2 hE]; simp)
    rwa [Nat.max_eq_left hle] at this
  · exact hi_congr (h.hi x hx) (fun y => by rw [take_mem2 hE]; simp [e]) fun y _ => rfl
theorem Hg.new (h : Hg E lv N i hg) (hE : E[i]? = some (a, b)) (ha : a < N) (hlt : hg.getD a 0 < lv.getD b 0 + 1) : Hg E lv N (i + 1) (hg.set a (lv.getD b 0 + 1)) := by
  refine ⟨by simp [h.len], fun x hx => ?_⟩
  by_cases e : x = a
  · subst e
    rw [set_getD_same (by rw [h.len]; exact ha)]
    have := hi_add (b := b) (S' := fun y => (x, y) ∈ E.take (i + 1)) (h.hi x hx) (fun y => by rw [take_mem2 hE]; simp)
    rwa [Nat.max_eq_right (by omega)] at this
  · rw [set_getD_ne e]
    exact hi_congr (h.hi x hx) (fun y => by rw [take_mem2 hE]; simp [e]) fun y _ => rfl
theorem list_eq {l l' : List Nat} (h : l.length = N) (h' : l'.length = N) (he : ∀ a, a < N → l.getD a 0 = l'.getD a 0) : l = l' := by
  apply List.ext_getElem (by omega)
  intro k h1 h2
  have := he k (by omega)
  simpa [List.getD, h1, h2] using this
/-- What the law knows of the order and of the levels. -/
structure Ts (N : Nat) (E : List (Nat × Nat)) (o lv : List Nat) : Prop where
  h60 : N ≤ 60
  hE : ∀ e ∈ E, e.1 < N ∧ e.2 < N
  hl : E.length ≤ 400
  tp : Top (ndF N E) N o
  len : lv.length = N
  lv' : ∀ a, a < N → Hi (fun y => y ∈ ndF N E a) (fun y => lv.getD y 0) (lv.getD a 0) ∧ lv.getD a 0 < N
theorem Hg.done (h : Hg E lv N E.length hg) {o : List Nat} (ht : Ts N E o lv) : hg = lv := by
  refine list_eq h.len ht.len fun a ha => hi_uniq (h.hi a ha) (hi_congr (ht.lv' a ha).1 (fun y => ?_) fun y _ => rfl)
  rw [List.take_length]
  exact ndF_fits ht.hE a y
theorem Ts.less {o : List Nat} (ht : Ts N E o lv) (h : (a, b) ∈ E) : lv.getD b 0 < lv.getD a 0 := (ht.lv' a (ht.hE _ h).1).1.1 b ((ndF_fits ht.hE a b).1 h)
/-- Each node's place. -/
def Pz (N : Nat) (o : List Nat) (pl : List Int) : Prop := pl.length = N ∧ ∀ j, j < N → pl.getD (o.getD j 0) 0 = (j : Int)
theorem Pz.less {o : List Nat} {pl : List Int} (hp : Pz N o pl) (ht : Ts N E o lv) (h : (a, b) ∈ E) : ∃ i j : Nat, pl.getD a 0 = (i : Int) ∧ pl.getD b 0 = (j : Int) ∧ j < i := by
  obtain ⟨i, i1, i2⟩ := top_at (a := a) ht.tp (ht.hE _ h).1
  obtain ⟨j, j1, j2⟩ := top_pos ht.tp i1 b (by rw [i2]; exact (ndF_fits ht.hE a b).1 h)
  exact ⟨i, j, by rw [← i2]; exact hp.2 i i1, by rw [← j2]; exact hp.2 j (by omega), j1⟩
end
def ikz (l : List Int) : Array Value := (l.map (Value.int .i64)).toArray
theorem ikz_get (l : List Int) (j : Nat) (h : j < l.length) : (ikz l)[j]? = some (.int .i64 (l.getD j 0)) := by simp [ikz, List.getD, h]
theorem ikz_set (l : List Int) (j : Nat) (b : Int) : (ikz l).setIfInBounds j (.int .i64 b) = ikz (l.set j b) := by simp [ikz, List.map_set]
/-- What lies while the law is at work. -/
structure Sw (W : World) (kG go offo kL N : Nat) (ev : Value) (E : List (Nat × Nat)) (o lv : List Nat) (X : World) : Prop where
  bel : Below W.heap.size W X
  g : X.heap[kG]? = some (.cells #[.int .i64 (N : Int), ev] 24 (0, 0))
  el : El ev (zE E) X
  o : ∀ j, j < N → X.cell? ⟨go, offo + j, none⟩ = some (.int .i64 ((o.getD j 0 : Nat) : Int))
  l : X.heap[kL]? = some (.cells (ik lv) 3 (0, 0))
theorem Sw.below {W X Y : World} {kG go offo kL N : Nat} {ev : Value} {E : List (Nat × Nat)} {o lv : List Nat} (h : Sw W kG go offo kL N ev E o lv X) (hb : Below X.heap.size X Y) : Sw W kG go offo kL N ev E o lv Y :=
  ⟨h.bel.trans (hb.mono h.bel.size), (hb.block _ (Array.getElem?_eq_some_iff.1 h.g).1).trans h.g, h.el.below hb, fun j hj => cell_belowX hb (h.o j hj), (hb.block _ (Array.getElem?_eq_some_iff.1 h.l).1).trans h.l⟩
theorem il_row {X : World} {k N : Nat} {l : List Nat} (h : X.heap[k]? = some (.cells (ik l) 3 (0, 0))) (hl : l.length = N) : Il k (.slice (some ⟨k, 0, none⟩) N N) l X :=
  ⟨_, N, by rw [hl], fun _ => ⟨0, rfl, (Array.getElem?_eq_some_iff.1 h).1, fun j hj => by rw [Nat.zero_add]; exact (cell_of_row _ _ _ _ _ _ h).trans (ik_get _ _ hj)⟩⟩
theorem Lz.drewn {W X : World} {kL : Nat} {lv : List Nat} (h : Lz W kL lv X) (n : Nat) : Lz W kL lv (X.drewN n) := ⟨⟨h.bel.os, h.bel.tape, h.bel.output, h.bel.size, h.bel.block⟩, h.row⟩
theorem wrapY {y Y : Nat} (h : y + 1 = Y) (h2 : y < 1000000) : wrap64 ((y : Int) + 1) = (Y : Int) := by unfold wrap64; omega
theorem wrapY2 {y Y : Nat} (h : y + 1 = Y) (h2 : y < 1000000) : IntKind.i64.wrap ((y : Int) + 1) = (Y : Int) := by rw [IntKind.wrap_i64]; omega
theorem nleI2 {a b : Nat} (h : b < a) : ¬ ((a : Int) ≤ (b : Int)) := by omega
attribute [local go_sem ↓] toMkI
set_option maxRecDepth 100000 in
set_option maxHeartbeats 6400000 in
theorem gs22 (W X : World) {kG go offo co kL kP N : Nat} {ev : Value} {E : List (Nat × Nat)} {o lv : List Nat} {pl : List Int} (hw : Sw W kG go offo kL N ev E o lv X) (ht : Ts N E o lv) (hp : Pz N o pl) (rP : X.heap[kP]? = some (.cells (ikz pl) 3 (0, 0))) {v0 v1 v2 v3 v4 v7 v9 v10 v11 v13 v14 v15 v16 v17 v18 v19 v20 v21 v22 v23 v24 v25 v26 v27 v28 v29 v30 v31 v32 v33 v34 v35 v36 v37 v38 v39 v40 v41 v42 v43 v44 v45 v46 v47 v48 v49 v50 v51 v52 v53 v54 v55 v56 v57 v58 v59 v60 v61 v62 v63 v64 v65 v66 v67 v68 v69 v70 v71 v72 v73 v74 v75 v76 v77 v78 v79 v80 v81 v82 v83 v84 v85 v86 v87 v88 v89 v90 v91 v92 v93 v94 v95 v96 v97 v98 v99 v100 v101 v102 v103 v104 v105 v106 v107 v108 v109 v110 v111 v112 v113 v114 v115 v116 v117 v118 v119 v120 v121 v122 v123 v124 v125 v126 v127 v128 v129 v130 v131 v132 v133 v134 v135 v136 v137 v138 v139 v140 v141 v142 v143 v144 v145 v146 v147 v148 v149 v150 v151 v152 v153 v154 v155 v156 v157 v158 v159 v160 v161 v162 v163 v164 v165 v166 v167 v168 v169 v170 v171 v172 v173 v174 v175 v176 v177 v178 v179 v180 v181 v182 v183 v184 v185 v186 v187 v188 v189 v190 v191 v192 v193 v194 v195 v196 v197 : Value} :
    Code.wp Try.prog (tlF Try.f6 22) (bodyPost Try.prog Try.f6 (fun e w' => e = .returned (.bool true) ∧ Below W.heap.size W w')) ⟨#[v0, v1, v2, v3, v4, .pointer (some ⟨kG, 0, none⟩), .slice (some ⟨go, offo, none⟩) N co, v7, .slice (some ⟨kL, 0, none⟩) N N, v9, v10, v11, .slice (some ⟨kP, 0, none⟩) N N, v13, v14, v15, v16, v17, v18, v19, v20, v21, v22, v23, v24, v25, v26, v27, v28, v29, v30, v31, v32, v33, v34, v35, v36, v37, v38, v39, v40, v41, v42, v43, v44, v45, v46, v47, v48, v49, v50, v51, v52, v53, v54, v55, v56, v57, v58, v59, v60, v61, v62, v63, v64, v65, v66, v67, v68, v69, v70, v71, v72, v73, v74, v75, v76, v77, v78, v79, v80, v81, v82, v83, v84, v85, v86, v87, v88, v89, v90, v91, v92, v93, v94, v95, v96, v97, v98, v99, v100, v101, v102, v103, v104, v105, v106, v107, v108, v109, v110, v111, v112, v113, v114, v115, v116, v117, v118, v119, v120, v121, v122, v123, v124, v125, v126, v127, v128, v129, v130, v131, v132, v133, v134, v135, v136, v137, v138, v139, v140, v141, v142, v143, v144, v145, v146, v147, v148, v149, v150, v151, v152, v153, v154, v155, v156, v157, v158, v159, v160, v161, v162, v163, v164, v165, v166, v167, v168, v169, v170, v171, v172, v173, v174, v175, v176, v177, v178, v179, v180, v181, v182, v183, v184, v185, v186, v187, v188, v189, v190, v191, v192, v193, v194, v195, v196, v197], []⟩ X := by
  obtain ⟨W2, r2, row2, b2⟩ := run_mkI X N (by have := ht.h60; omega)
  obtain ⟨oe, ce, hvf, -, -⟩ := hw.el.form
  rw [zE_len] at hvf
  subst hvf
  obtain ⟨ne, hne⟩ : ∃ n, E.length = n := ⟨_, rfl⟩
  obtain ⟨kH, hkH⟩ : ∃ k, X.heap.size = k := ⟨_, rfl⟩
  have g0 : X.cell? ⟨kG, 0, none⟩ = some (.int .i64 (N : Int)) := (cell_of_row _ _ _ _ _ _ hw.g).trans rfl
  have HQ := mkHid (And.intro hw (And.intro ht (And.intro hp (And.intro rP (And.intro hne hkH)))))
  have H0 : Hid (∃ hg, Hg E lv N 0 hg ∧ Lz X kH hg W2) := ⟨_, hg_zero E lv N, by rw [← hkH]; exact ⟨b2, row2⟩⟩
  rw [hkH] at r2
  clear hw ht hp rP row2 b2
  conv => arg 2; whnf
  go_wp2_with fail
  go_loopw [16] (fun iv wr => ∃ i : Nat, iv = .int .i64 (i : Int) ∧ i ≤ ne ∧ Hid (∃ hg, Hg E lv N i hg ∧ Lz X kH hg wr)) (fun iv _ => ne - (intOf iv).toNat)
  case atStart => exact ⟨0, rfl, Nat.zero_le _, H0⟩
  case round =>
    obtain ⟨i, rfl, hi, HI⟩ := hrel
    obtain ⟨hw, ht, hp, rP, hne', hkH'⟩ := HQ.out
    obtain ⟨hg, hh, hz⟩ := HI.out
    have hbX : Below X.heap.size X wr := hkH' ▸ hz.bel
    have q := hw.below hbX
    have g0 : wr.cell? ⟨kG, 0, none⟩ = some (.int .i64 (N : Int)) := (cell_of_row _ _ _ _ _ _ q.g).trans rfl
    have g1 : wr.cell? ⟨kG, 1, none⟩ = some (.slice oe E.length ce) := (cell_of_row _ _ _ _ _ _ q.g).trans rfl
    rw [hne'] at g1
    by_cases hlt : i < ne
    · obtain ⟨a, b, hab⟩ : ∃ a b, E[i]? = some (a, b) := ⟨_, _, List.getElem?_eq_getElem (by omega)⟩
      obtain ⟨oe', ce', hvf, -, ho⟩ := q.el.form
      rw [zE_len] at hvf ho
      injection hvf with f1 f2 f3
      subst f1 f3
      obtain ⟨eb, eo, rfl, q2, q3⟩ := ho (by omega)
      have c1 := (q3 i (by omega)).1
      have c2 := (q3 i (by omega)).2
      rw [zE_get E i a b hab] at c1 c2
      have c1' : wr.cell? ⟨eb, eo + i * 2, none⟩ = some (.int .i64 (a : Int)) := c1
      have c2' : wr.cell? ⟨eb, eo + i * 2 + 1, none⟩ = some (.int .i64 (b : Int)) := c2
      have haE := List.mem_of_getElem? hab
      have haN := (ht.hE _ haE).1
      have hbN := (ht.hE _ haE).2
      obtain ⟨pa, pb', ea, eb', hpp⟩ := hp.less ht haE
      have rP2 := (hbX.block _ (Array.getElem?_eq_some_iff.1 rP).1).trans rP
      have cpa : wr.cell? ⟨kP, a, none⟩ = some (.int .i64 (pa : Int)) := by rw [← ea]; exact (cell_of_row _ _ _ _ _ _ rP2).trans (ikz_get _ _ (by rw [hp.1]; exact haN))
      have cpb : wr.cell? ⟨kP, b, none⟩ = some (.int .i64 (pb' : Int)) := by rw [← eb']; exact (cell_of_row _ _ _ _ _ _ rP2).trans (ikz_get _ _ (by rw [hp.1]; exact hbN))
      obtain ⟨x, hx⟩ : ∃ x, lv.getD a 0 = x := ⟨_, rfl⟩
      obtain ⟨y, hy⟩ : ∃ y, lv.getD b 0 = y := ⟨_, rfl⟩
      obtain ⟨u, hu⟩ : ∃ u, hg.getD a 0 = u := ⟨_, rfl⟩
      have hxy := ht.less haE
      have hyN := (ht.lv' b hbN).2
      have cla : wr.cell? ⟨kL, a, none⟩ = some (.int .i64 (x : Int)) := by rw [← hx]; exact (cell_of_row _ _ _ _ _ _ q.l).trans (ik_get _ _ (by rw [ht.len]; exact haN))
      have clb : wr.cell? ⟨kL, b, none⟩ = some (.int .i64 (y : Int)) := by rw [← hy]; exact (cell_of_row _ _ _ _ _ _ q.l).trans (ik_get _ _ (by rw [ht.len]; exact hbN))
      have ch := hz.get (j := a) (by rw [hh.len]; exact haN)
      rw [hu] at ch
      rw [hx, hy] at hxy
      rw [hy] at hyN
      have hst := hh.stay hab
      have hnw := hh.new hab haN
      rw [hy, hu] at hst hnw
      have h60 := ht.h60
      have hli := ht.hl
      have yP1 : ∀ k, (wr.drewN k).cell? ⟨kP, a, none⟩ = some (.int .i64 (pa : Int)) := fun _ => cpa
      have yP2 : ∀ k, (wr.drewN k).cell? ⟨kP, b, none⟩ = some (.int .i64 (pb' : Int)) := fun _ => cpb
      have yL1 : ∀ k, (wr.drewN k).cell? ⟨kL, a, none⟩ = some (.int .i64 (x : Int)) := fun _ => cla
      have yL2 : ∀ k, (wr.drewN k).cell? ⟨kL, b, none⟩ = some (.int .i64 (y : Int)) := fun _ => clb
      have yH : ∀ k, (wr.drewN k).cell? ⟨kH, a, none⟩ = some (.int .i64 (u : Int)) := fun _ => ch.1
      have yF : ∀ k, (wr.drewN k).frozen? ⟨kH, a, none⟩ = false := fun _ => ch.2
      have i0 := geI i
      have i1 := ltI hlt
      have a0 := geI a
      have a1 := ltI haN
      have b0 := geI b
      have b1 := ltI hbN
      have wi := wrapI i (Nat.lt_of_lt_of_le (hne' ▸ hlt) (Nat.le_trans hli (by decide)))
      obtain ⟨Y1, hY1⟩ : ∃ Y1, y + 1 = Y1 := ⟨_, rfl⟩
      have wy := wrapY hY1 (Nat.lt_of_lt_of_le hyN (Nat.le_trans h60 (by decide)))
      have wy2 := wrapY2 hY1 (Nat.lt_of_lt_of_le hyN (Nat.le_trans h60 (by decide)))
      rw [hY1] at hst hnw
      have n1 : ¬ ((pa : Int) ≤ (pb' : Int)) := nleI2 hpp
      have n2 : ¬ ((x : Int) ≤ (y : Int)) := nleI2 hxy
      have n3 : ¬ (pa ≤ pb') := Nat.not_le.2 hpp
      have n4 : ¬ (x ≤ y) := Nat.not_le.2 hxy
      have d1 : decide ((pa : Int) ≤ (pb' : Int)) = false := decide_eq_false n1
      have d2 : decide ((x : Int) ≤ (y : Int)) = false := decide_eq_false n2
      have d3 : decide (pa ≤ pb') = false := decide_eq_false n3
      have d4 : decide (x ≤ y) = false := decide_eq_false n4
      have HZ := mkHid (And.intro hz (And.intro hst (And.intro hnw hlt)))
      clear hw ht hp rP hne' hkH' hh hz hbX q hab ho q2 q3 c1 c2 haE haN hbN ea eb' hpp rP2 cpa cpb hx hy hu hxy hyN cla clb ch hst hnw h60 hli hlt HI hY1
      go_wp2_with fail
      go_quiet (fail)
      go_wp2_with fail
      by_cases hc : u < Y1
      · have c1 : (u : Int) < (Y1 : Int) := ltI hc
        have c2 : decide ((u : Int) < (Y1 : Int)) = true := decide_eq_true c1
        go_quiet (fail)
        go_wp2_with fail
        obtain ⟨hz, hst, hnw, hlt⟩ := HZ.out
        exact ⟨⟨i + 1, by first | rfl | (rw [wi]; rfl), hlt, ⟨_, hnw hc, by first | exact (hz.drewn _).set a Y1 | exact ((hz.drewn _).drewn _).set a Y1⟩⟩, by first | exact measI _ _ hlt | (rw [wi]; exact measI _ _ hlt)⟩
      · have c1 : ¬ (u : Int) < (Y1 : Int) := by exact Int.not_lt.2 (Int.ofNat_le.2 (Nat.not_lt.1 hc))
        have c2 : decide ((u : Int) < (Y1 : Int)) = false := decide_eq_false c1
        have c3 : Y1 ≤ u := Nat.not_lt.1 hc
        go_quiet (fail)
        go_wp2_with fail
        obtain ⟨hz, hst, hnw, hlt⟩ := HZ.out
        exact ⟨⟨i + 1, by first | rfl | (rw [wi]; rfl), hlt, ⟨_, hst c3, by first | exact hz.drewn _ | exact (hz.drewn _).drewn _⟩⟩, by first | exact measI _ _ hlt | (rw [wi]; exact measI _ _ hlt)⟩
    · have i1 := nltI hlt
      rw [eqI hi hlt, ← hne'] at hh
      have eh := hh.done ht
      rw [eh] at hz
      have CS := same_ints wr (il_row q.l ht.len) (il_row hz.row ht.len) (by have := ht.len; have := ht.h60; omega)
      have HB := mkHid q.bel
      clear hw ht hp rP hne' hkH' hh hz hbX q eh hi hlt HI H0
      go_wp2_with fail
      refine CS.mono ?_
      rintro e w8 ⟨rfl, k, rfl⟩
      clear CS
      go_wp2_with fail
      go_ret
      exact ⟨rfl, HB.out.trans ((bel_drP wr k).mono HB.out.size)⟩
end Go.Proofs.Ytibhjkmbbfgnpaa

/- GraphSorts: the law from region 12 on: the places. -/
namespace Go.Proofs.Ytibhjkmbbfgnpaa
open Go.RowKit GM Gl Gsx
set_option maxRecDepth 20000
/-- A list of places as it lies. -/
structure Lp (W : World) (kP : Nat) (pl : List Int) (X : World) : Prop where
  bel : Below kP W X
  row : X.heap[kP]? = some (.cells (ikz pl) 3 (0, 0))
section
variable {W X : World} {kP N i j : Nat} {pl : List Int} {o : List Nat}
theorem Lp.get (h : Lp W kP pl X) (hj : j < pl.length) : X.cell? ⟨kP, j, none⟩ = some (.int .i64 (pl.getD j 0)) ∧ X.frozen? ⟨kP, j, none⟩ = false := ⟨(cell_of_row _ _ _ _ _ _ h.row).trans (ikz_get _ _ hj), frozen_of_row _ _ _ _ _ h.row⟩
theorem Lp.set (h : Lp W kP pl X) (j : Nat) (m : Int) : Lp W kP (pl.set j m) (X.setCell ⟨kP, j, none⟩ (.int .i64 m)) :=
  ⟨h.bel.setCell (p := ⟨kP, j, none⟩) (Nat.le_refl _) _, by rw [heap_setCell_same _ _ _ _ _ _ h.row, ikz_set]⟩
theorem Lp.drewn (h : Lp W kP pl X) (n : Nat) : Lp W kP pl (X.drewN n) := ⟨⟨h.bel.os, h.bel.tape, h.bel.output, h.bel.size, h.bel.block⟩, h.row⟩
theorem setz_ne {l : List Int} {x y : Nat} {m : Int} (h : y ≠ x) : (l.set x m).getD y 0 = l.getD y 0 := by simp [List.getD, Ne.symm h]
theorem setz_same {l : List Int} {x : Nat} {m : Int} (h : x < l.length) : (l.set x m).getD x 0 = m := by simp [List.getD, h]
/-- The first i are cleared. -/
def Pm (N i : Nat) (pl : List Int) : Prop := pl.length = N ∧ ∀ j, j < i → pl.getD j 0 = -1
theorem Pm.step (h : Pm N i pl) (hi : i < N) : Pm N (i + 1) (pl.set i (-1)) := by
  refine ⟨by simp [h.1], fun j hj => ?_⟩
  by_cases e : j = i
  · subst e; exact setz_same (by rw [h.1]; exact hi)
  · rw [setz_ne e]; exact h.2 j (by omega)
/-- The first i of the order have their places. -/
structure Pn (N : Nat) (o : List Nat) (i : Nat) (pl : List Int) : Prop where
  len : pl.length = N
  lo : ∀ j, j < i → pl.getD (o.getD j 0) 0 = (j : Int)
  hi : ∀ j, i ≤ j → j < N → pl.getD (o.getD j 0) 0 = -1
theorem Pm.all {F : Nat → List Nat} (h : Pm N N pl) (ht : Top F N o) : Pn N o 0 pl := ⟨h.1, fun j hj => by omega, fun j _ hj => h.2 _ (top_lt ht hj)⟩
theorem Pn.step {F : Nat → List Nat} (h : Pn N o i pl) (ht : Top F N o) (hi : i < N) : Pn N o (i + 1) (pl.set (o.getD i 0) (i : Int)) := by
  have ne : ∀ j, j < N → j ≠ i → o.getD j 0 ≠ o.getD i 0 := fun j hj q e => q (top_inj ht hj hi e)
  refine ⟨by simp [h.len], fun j hj => ?_, fun j h1 h2 => ?_⟩
  · by_cases e : j = i
    · subst e; exact setz_same (by rw [h.len]; exact top_lt ht hi)
    · rw [setz_ne (ne j (by omega) e)]; exact h.lo j (by omega)
  · rw [setz_ne (ne j h2 (by omega))]; exact h.hi j (by omega) h2
theorem Pn.done (h : Pn N o N pl) : Pz N o pl := ⟨h.len, h.lo⟩
end
theorem ikz_zero (N : Nat) : ik (List.replicate N 0) = ikz (List.replicate N 0) := by simp [ik, ikz]
attribute [local go_sem ↓] toMkI
set_option maxRecDepth 100000 in
set_option maxHeartbeats 6400000 in
theorem gs12 (W X W2 : World) {kG go offo co kL kP N : Nat} {ev : Value} {E : List (Nat × Nat)} {o lv : List Nat} (hw : Sw W kG go offo kL N ev E o lv X) (ht : Ts N E o lv) (hkP : X.heap.size = kP) (hl : Lp X kP (List.replicate N 0) W2) {v0 v1 v2 v3 v4 v7 v9 v10 v11 v13 v14 v15 v16 v17 v18 v19 v20 v21 v22 v23 v24 v25 v26 v27 v28 v29 v30 v31 v32 v33 v34 v35 v36 v37 v38 v39 v40 v41 v42 v43 v44 v45 v46 v47 v48 v49 v50 v51 v52 v53 v54 v55 v56 v57 v58 v59 v60 v61 v62 v63 v64 v65 v66 v67 v68 v69 v70 v71 v72 v73 v74 v75 v76 v77 v78 v79 v80 v81 v82 v83 v84 v85 v86 v87 v88 v89 v90 v91 v92 v93 v94 v95 v96 v97 v98 v99 v100 v101 v102 v103 v104 v105 v106 v107 v108 v109 v110 v111 v112 v113 v114 v115 v116 v117 v118 v119 v120 v121 v122 v123 v124 v125 v126 v127 v128 v129 v130 v131 v132 v133 v134 v135 v136 v137 v138 v139 v140 v141 v142 v143 v144 v145 v146 v147 v148 v149 v150 v151 v152 v153 v154 v155 v156 v157 v158 v159 v160 v161 v162 v163 v164 v165 v166 v167 v168 v169 v170 v171 v172 v173 v174 v175 v176 v177 v178 v179 v180 v181 v182 v183 v184 v185 v186 v187 v188 v189 v190 v191 v192 v193 v194 v195 v196 v197 : Value} :
    Code.wp Try.prog (tlF Try.f6 12) (bodyPost Try.prog Try.f6 (fun e w' => e = .returned (.bool true) ∧ Below W.heap.size W w')) ⟨#[v0, v1, v2, v3, v4, .pointer (some ⟨kG, 0, none⟩), .slice (some ⟨go, offo, none⟩) N co, v7, .slice (some ⟨kL, 0, none⟩) N N, v9, v10, v11, .slice (some ⟨kP, 0, none⟩) N N, v13, v14, v15, v16, v17, v18, v19, v20, v21, v22, v23, v24, v25, v26, v27, v28, v29, v30, v31, v32, v33, v34, v35, v36, v37, v38, v39, v40, v41, v42, v43, v44, v45, v46, v47, v48, v49, v50, v51, v52, v53, v54, v55, v56, v57, v58, v59, v60, v61, v62, v63, v64, v65, v66, v67, v68, v69, v70, v71, v72, v73, v74, v75, v76, v77, v78, v79, v80, v81, v82, v83, v84, v85, v86, v87, v88, v89, v90, v91, v92, v93, v94, v95, v96, v97, v98, v99, v100, v101, v102, v103, v104, v105, v106, v107, v108, v109, v110, v111, v112, v113, v114, v115, v116, v117, v118, v119, v120, v121, v122, v123, v124, v125, v126, v127, v128, v129, v130, v131, v132, v133, v134, v135, v136, v137, v138, v139, v140, v141, v142, v143, v144, v145, v146, v147, v148, v149, v150, v151, v152, v153, v154, v155, v156, v157, v158, v159, v160, v161, v162, v163, v164, v165, v166, v167, v168, v169, v170, v171, v172, v173, v174, v175, v176, v177, v178, v179, v180, v181, v182, v183, v184, v185, v186, v187, v188, v189, v190, v191, v192, v193, v194, v195, v196, v197], []⟩ W2 := by
  have g0 : W2.cell? ⟨kG, 0, none⟩ = some (.int .i64 (N : Int)) := (cell_of_row _ _ _ _ _ _ (hw.below (hkP ▸ hl.bel)).g).trans rfl
  have HQ := mkHid (And.intro hw (And.intro ht hkP))
  have H0 : Hid (∃ pl, Pm N 0 pl ∧ Lp X kP pl W2) := ⟨List.replicate N 0, ⟨by simp, fun j hj => by omega⟩, hl⟩
  clear hw ht hl
  conv => arg 2; whnf
  go_wp2_with fail
  go_loopw [13] (fun iv wr => ∃ i : Nat, iv = .int .i64 (i : Int) ∧ i ≤ N ∧ Hid (∃ pl, Pm N i pl ∧ Lp X kP pl wr)) (fun iv _ => N - (intOf iv).toNat)
  case atStart => exact ⟨0, rfl, Nat.zero_le _, H0⟩
  case round =>
    obtain ⟨i, rfl, hi, HI⟩ := hrel
    obtain ⟨hw, ht, hkP'⟩ := HQ.out
    obtain ⟨pl, hm, hz⟩ := HI.out
    have hbX : Below X.heap.size X wr := hkP' ▸ hz.bel
    have q := hw.below hbX
    have g0 : wr.cell? ⟨kG, 0, none⟩ = some (.int .i64 (N : Int)) := (cell_of_row _ _ _ _ _ _ q.g).trans rfl
    have h60 := ht.h60
    by_cases hlt : i < N
    · have i0 := geI i
      have i1 := ltI hlt
      have wi := wrapI i (Nat.lt_of_lt_of_le hlt (Nat.le_trans h60 (by decide)))
      have cf := (hz.get (j := i) (by rw [hm.1]; exact hlt)).2
      have cc := (hz.get (j := i) (by rw [hm.1]; exact hlt)).1
      obtain ⟨z, hzv⟩ : ∃ z, pl.getD i 0 = z := ⟨_, rfl⟩
      rw [hzv] at cc
      have HN := mkHid (And.intro (hm.step hlt) (And.intro (hz.set i (-1)) hlt))
      clear hw ht hkP' hm hz hbX q h60 hlt HI hzv
      go_wp2_with fail
      exact ⟨⟨i + 1, by first | rfl | (rw [wi]; rfl), HN.out.2.2, ⟨_, HN.out.1, HN.out.2.1⟩⟩, by first | exact measI _ _ HN.out.2.2 | (rw [wi]; exact measI _ _ HN.out.2.2)⟩
    · have i1 := nltI hlt
      rw [eqI hi hlt] at hm
      have H2 : Hid (∃ pl, Pn N o 0 pl ∧ Lp X kP pl wr) := ⟨pl, hm.all ht.tp, hz⟩
      clear hw ht hkP' hm hz hbX q h60 hlt HI H0 hi
      go_wp2_with fail
      rename_i K2 hk2
      have HK2 := mkHid hk2
      clear hk2 g0
      go_loopw [14] (fun iv wr => ∃ i : Nat, iv = .int .i64 (i : Int) ∧ i ≤ N ∧ Hid (∃ pl, Pn N o i pl ∧ Lp X kP pl wr)) (fun iv _ => N - (intOf iv).toNat)
      case atStart => exact ⟨0, rfl, Nat.zero_le _, H2⟩
      case round =>
        obtain ⟨i, rfl, hi, HI⟩ := hrel
        obtain ⟨hw, ht, hkP'⟩ := HQ.out
        obtain ⟨pl, hm, hz⟩ := HI.out
        have hbX : Below X.heap.size X wr := hkP' ▸ hz.bel
        have q := hw.below hbX
        have h60 := ht.h60
        by_cases hlt : i < N
        · have i0 := geI i
          have i1 := ltI hlt
          have wi := wrapI i (Nat.lt_of_lt_of_le hlt (Nat.le_trans h60 (by decide)))
          have co' := q.o i hlt
          have hnx := hm.step ht.tp hlt
          have haN := top_lt ht.tp hlt
          have hma := hm.hi i (Nat.le_refl _) hlt
          obtain ⟨a, ha⟩ : ∃ a, o.getD i 0 = a := ⟨_, rfl⟩
          rw [ha] at co' hnx haN hma
          have cp := (hz.get (j := a) (by rw [hm.len]; exact haN)).1
          have cf := (hz.get (j := a) (by rw [hm.len]; exact haN)).2
          rw [hma] at cp
          have g0 : wr.cell? ⟨kG, 0, none⟩ = some (.int .i64 (N : Int)) := (cell_of_row _ _ _ _ _ _ q.g).trans rfl
          have y0 : ∀ k, (wr.drewN k).cell? ⟨kG, 0, none⟩ = some (.int .i64 (N : Int)) := fun _ => g0
          have y1 : ∀ k, (wr.drewN k).cell? ⟨go, offo + i, none⟩ = some (.int .i64 (a : Int)) := fun _ => co'
          have y2 : ∀ k, (wr.drewN k).cell? ⟨kP, a, none⟩ = some (.int .i64 (-1)) := fun _ => cp
          have y3 : ∀ k, (wr.drewN k).frozen? ⟨kP, a, none⟩ = false := fun _ => cf
          have a0 := geI a
          have a1 := ltI haN
          have n1 : ¬ ((a : Int) < 0) := Int.not_lt.2 a0
          have n2 : ¬ ((N : Int) ≤ (a : Int)) := Int.not_le.2 a1
          have n3 : ¬ (N ≤ a) := Nat.not_le.2 haN
          have d1 : decide ((a : Int) < 0) = false := decide_eq_false n1
          have d2 : decide ((N : Int) ≤ (a : Int)) = false := decide_eq_false n2
          have d3 : decide (N ≤ a) = false := decide_eq_false n3
          have HN := mkHid (And.intro hnx (And.intro hz hlt))
          clear hw ht hkP' hm hz hbX q h60 hlt HI ha hnx haN hma
          go_wp2_with fail
          go_quiet (fail)
          go_wp2_with fail
          exact ⟨⟨i + 1, by first | rfl | (rw [wi]; rfl), HN.out.2.2, ⟨_, HN.out.1, (HN.out.2.1.drewn _).set a (i : Int)⟩⟩, by first | exact measI _ _ HN.out.2.2 | (rw [wi]; exact measI _ _ HN.out.2.2)⟩
        · have i1 := nltI hlt
          rw [eqI hi hlt] at hm
          have HZ := mkHid (And.intro q (And.intro ht (And.intro hm.done hz.row)))
          clear hw ht hkP' hm hz hbX q h60 hlt HI hi
          go_wp2_with fail
          exact HK2.out _ _ (gs22 W wr HZ.out.1 HZ.out.2.1 HZ.out.2.2.1 HZ.out.2.2.2)
end Go.Proofs.Ytibhjkmbbfgnpaa

/- GraphSorts: the law, whole. -/
namespace Go.Proofs.Ytibhjkmbbfgnpaa
open Go.RowKit GM Gl Gsx
set_option maxRecDepth 20000
theorem badF0 (N : Int) : ∀ (E : List (Int × Int)) (i : Nat), (∀ e ∈ E, okE N e = true) → badF N E i = none
  | [], _, _ => rfl
  | e :: r, i, h => by
    unfold badF
    rw [if_pos (h e List.mem_cons_self)]
    exact badF0 N r (i + 1) fun x hx => h x (List.mem_cons_of_mem _ hx)
theorem chk0 {N : Nat} {E : List (Nat × Nat)} (h : ∀ e ∈ E, e.1 < N ∧ e.2 < N) (hN : N ≤ 1024) (hl : E.length ≤ 1000000) : (chk (N : Int) (zE E)).1 = 0 := by
  unfold chk
  rw [if_neg (by omega), if_neg (by rw [zE_len]; omega), badF0 _ _ _ (fun e he => ?_)]
  · rfl
  · unfold zE at he
    obtain ⟨x, hx, rfl⟩ := List.mem_map.1 he
    have := h x hx
    simp [okE]
    omega
attribute [local go_sem ↓] toMkI
set_option maxRecDepth 100000 in
set_option maxHeartbeats 6400000 in
theorem sorts_any (n : Int) (D : List (Int × Int)) (v : Value) (W : World) (hE : El v D W) :
    Calls Try.prog 6 #[.int .i64 n, v] W fun e w' => e = .returned (.bool true) ∧ Below W.heap.size W w' := by
  have C1 := small_any n D v W hE
  clear hE
  go_enter Try.func6, Try.ntmps6
  go_wp2_with fail
  refine Calls.mono C1 ?_
  rintro e w1 ⟨N, E, u, rfl, h1, h60, hE2, hEl, hown, b1⟩
  obtain ⟨ou, cu, rfl⟩ := own_size hown
  obtain ⟨le, hle⟩ : ∃ k, E.length = k := ⟨_, rfl⟩
  rw [hle] at hown ⊢
  obtain ⟨kG, hkG⟩ : ∃ k, w1.heap.size = k := ⟨_, rfl⟩
  obtain ⟨Y, hY⟩ : ∃ Y, w1.alloc (.cells #[.int .i64 (N : Int), .slice ou le cu] 24) = Y := ⟨_, rfl⟩
  have bY1 : Below w1.heap.size w1 Y := by rw [← hY]; exact (Below.refl _ w1).alloc (Nat.le_refl _) _
  have bY := b1.trans (bY1.mono b1.size)
  have rg : Y.heap[kG]? = some (.cells #[.int .i64 (N : Int), .slice ou le cu] 24 (0, 0)) := by rw [← hY, ← hkG]; exact heap_alloc_new _ _
  have hel : El (.slice ou le cu) (zE E) Y := by rw [hle.symm] at hown ⊢; exact (el_own hown).2.below bY1
  have hc := chk0 hE2 (by omega) (by omega)
  have CO := Order_all N (by omega) E hE2 (by omega) hc (.slice ou le cu) Y hel
  have HW := mkHid (And.intro bY (And.intro rg (And.intro hel (And.intro h1 (And.intro h60 (And.intro hE2 (And.intro hEl hc)))))))
  have g0 : Y.cell? ⟨kG, 0, none⟩ = some (.int .i64 (N : Int)) := (cell_of_row _ _ _ _ _ _ rg).trans rfl
  have g1 : Y.cell? ⟨kG, 1, none⟩ = some (.slice ou le cu) := (cell_of_row _ _ _ _ _ _ rg).trans rfl
  unfold grV at CO ⊢
  clear C1 bY1 bY rg hel hc h1 h60 hE2 hEl hown b1 hle
  dsimp only
  go_wp2_with fail
  refine CO.mono ?_
  rintro e w2 ⟨b2, qO⟩
  have CLv := levels_any N (by have := HW.out.2.2.2.2.1; omega) E HW.out.2.2.2.2.2.1 (by have := HW.out.2.2.2.2.2.2.1; omega) HW.out.2.2.2.2.2.2.2 (.slice ou le cu) w2 (HW.out.2.2.1.below b2)
  have k0 := cell_belowX b2 g0
  have k1 := cell_belowX b2 g1
  have HB2 := mkHid b2
  unfold grV at CLv
  clear CO g0 g1 b2 hY
  rcases qO with ⟨o, oa, oc', rfl, q1, q2, q3⟩ | ⟨rfl, q1⟩
  · obtain ⟨go, hio, -⟩ := own_il q2
    obtain ⟨oo', oc2, e, h1⟩ := hio
    rw [q1.len] at e h1
    injection e with e1 e2 e3
    subst e1 e3
    obtain ⟨offo, rfl, hgo, hcc⟩ := h1 HW.out.2.2.2.1
    have HO := mkHid (And.intro q1 (And.intro q3 hcc))
    clear q1 q2 q3 h1 hgo hcc
    dsimp only
    go_wp2_with fail
    refine CLv.mono ?_
    rintro e w3 ⟨b3, qL⟩
    rcases qL with ⟨lv, kL, rfl, p1, p2, p3, p4, p5⟩ | ⟨rfl, ⟨x, x1, x2⟩⟩
    · have b23 := HB2.out.trans (b3.mono HB2.out.size)
      have CC := cycle_any N (by have := HW.out.2.2.2.2.1; omega) E HW.out.2.2.2.2.2.1 (by have := HW.out.2.2.2.2.2.2.1; omega) (.slice ou le cu) w3 (HW.out.2.2.1.below b23) HW.out.2.2.2.2.2.2.2
      have l0 := cell_belowX b3 k0
      have l1 := cell_belowX b3 k1
      have HB3 := mkHid (And.intro b23 (And.intro b3 (And.intro p1 (And.intro p2 p4))))
      unfold grV at CC
      clear CLv k0 k1 b3 b23 p1 p2 p3 p4 p5
      dsimp only
      go_wp2_with fail
      refine CC.mono ?_
      rintro e w4 ⟨b4, qC⟩
      rcases qC with ⟨m, d, t, L, oc4, cc, c1, c2, c3, c4, c5, c6, rfl, c7⟩ | ⟨rfl, c1⟩
      · exact absurd c2 (HO.out.2.1 m c1)
      · obtain ⟨W2, r2, row2, b2'⟩ := run_mkI w4 N (by have := HW.out.2.2.2.2.1; omega)
        obtain ⟨kP, hkP⟩ : ∃ k, w4.heap.size = k := ⟨_, rfl⟩
        rw [hkP] at r2
        have m0 := cell_belowX b4 l0
        have m1 := cell_belowX b4 l1
        have HS : Hid (Sw W kG go offo kL N (.slice ou le cu) E o lv w4 ∧ Ts N E o lv ∧ Lp w4 kP (List.replicate N 0) W2) := by
          obtain ⟨bY, rg, hel, h1, h60, hE2, hEl, hc⟩ := HW.out
          obtain ⟨b23, b3, p1, p2, p4⟩ := HB3.out
          have b24 := b23.trans (b4.mono b23.size)
          have b34 := b3.trans (b4.mono b3.size)
          refine ⟨⟨bY.trans (b24.mono bY.size), (b24.block _ (Array.getElem?_eq_some_iff.1 rg).1).trans rg, hel.below b24, fun j hj => cell_belowX b34 (HO.out.2.2 j hj), (b4.block _ (Array.getElem?_eq_some_iff.1 p4).1).trans p4⟩, ⟨h60, hE2, hEl, HO.out.1, p1, p2⟩, ?_⟩
          rw [← hkP]
          exact ⟨b2', by rw [← ikz_zero]; exact row2⟩
        clear CC l0 l1 b4 c1 row2 b2'
        dsimp only
        go_upto_region 11 with fail
        rename_i K1 hk1
        have HK1 := mkHid hk1
        clear hk1
        go_wp2_with fail
        exact HK1.out _ _ (gs12 W w4 W2 HS.out.1 HS.out.2.1 hkP HS.out.2.2)
    · exact absurd x2 (HO.out.2.1 x x1)
  · have HO := mkHid q1
    clear q1
    dsimp only
    go_wp2_with fail
    refine CLv.mono ?_
    rintro e w3 ⟨b3, qL⟩
    rcases qL with ⟨lv, kL, rfl, p1, p2, p3, p4, p5⟩ | ⟨rfl, p1⟩
    · obtain ⟨x, x1, x2⟩ := HO.out
      exact absurd x2 (p5 x x1)
    · have b23 := HB2.out.trans (b3.mono HB2.out.size)
      have CC := cycle_any N (by have := HW.out.2.2.2.2.1; omega) E HW.out.2.2.2.2.2.1 (by have := HW.out.2.2.2.2.2.2.1; omega) (.slice ou le cu) w3 (HW.out.2.2.1.below b23) HW.out.2.2.2.2.2.2.2
      have l0 := cell_belowX b3 k0
      have l1 := cell_belowX b3 k1
      have HB3 := mkHid b23
      unfold grV at CC
      clear CLv k0 k1 b3 b23 p1
      dsimp only
      go_wp2_with fail
      refine CC.mono ?_
      rintro e w4 ⟨b4, qC⟩
      rcases qC with ⟨m, d, t, L, oc4, cc, c1, c2, c3, c4, c5, c6, rfl, c7⟩ | ⟨rfl, c1⟩
      · have b24 := HB3.out.trans (b4.mono HB3.out.size)
        have kz := kz_of (E := E) (by have := HW.out.2.2.2.2.1; omega) HW.out.2.2.2.2.2.1 (by have := HW.out.2.2.2.2.2.2.1; omega) c1 c3 c4 c5 c6
        obtain ⟨gc, hil, -⟩ := own_il c7
        have CY := cycles_any kz (.slice ou le cu) w4 (HW.out.2.2.1.below b24) hil
        have m0 := cell_belowX b4 l0
        have m1 := cell_belowX b4 l1
        have HB4 := mkHid (HW.out.1.trans (b24.mono HW.out.1.size))
        unfold grV at CY
        clear CC l0 l1 b4 b24 c1 c2 c3 c4 c5 c6 c7 kz hil
        dsimp only
        go_wp2_with fail
        refine CY.mono ?_
        rintro e w5 ⟨rfl, b5⟩
        have HB5 := mkHid (HB4.out.trans (b5.mono HB4.out.size))
        clear CY m0 m1 b5
        go_wp2_with fail
        go_ret
        exact ⟨rfl, HB5.out⟩
      · obtain ⟨x, x1, x2⟩ := HO.out
        exact absurd x2 (c1 x x1)
end Go.Proofs.Ytibhjkmbbfgnpaa
