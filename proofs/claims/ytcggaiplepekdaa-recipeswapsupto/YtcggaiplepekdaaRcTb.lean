/- Recipes: turn, from m.in on. -/
import Derived.Test.YtcggaiplepekdaaRcTa
import Derived.Deep.Cut
namespace Go.Proofs.Ytcggaiplepekdaa
open Go.RowKit
def headR : Code → Option Nat
  | .region id _ _ => some id
  | .seq a _ => headR a
  | .scope c => headR c
  | .block _ c => headR c
  | .loop c => headR c
  | _ => none
def fromR (n : Nat) : Code → Option (Bool × Code)
  | .seq a b => if headR a = some n then some (false, .seq a b) else match fromR n a with
    | some (false, c) => some (false, .seq c b)
    | some (true, c) => some (true, c)
    | none => fromR n b
  | .scope c => fromR n c
  | .block _ c => (fromR n c).map fun p => (true, p.2)
  | .loop c => (fromR n c).map fun p => (true, p.2)
  | .cond _ a b => match fromR n a with
    | some p => some (true, p.2)
    | none => (fromR n b).map fun p => (true, p.2)
  | _ => none
noncomputable def tl (k : Nat) : Code := (((Try.f7.body.bind (fromR k)).map (·.2)).getD .skip)
/-- Two recipes' boxes; the second is written. -/
structure By (W : World) (c d : Array Value) (wr : World) : Prop where
  bel : Below W.heap.size W wr
  r0 : wr.heap[W.heap.size]? = some (.cells c 27 (0, 0))
  r1 : wr.heap[W.heap.size + 1]? = some (.cells d 27 (0, 0))
theorem By.below {W wr w' : World} {c d : Array Value} (h : By W c d wr) (hb : Below wr.heap.size wr w') : By W c d w' := ⟨h.bel.trans (hb.mono h.bel.size), (hb.block _ (Array.getElem?_eq_some_iff.1 h.r0).1).trans h.r0, (hb.block _ (Array.getElem?_eq_some_iff.1 h.r1).1).trans h.r1⟩
theorem By.set {W wr : World} {c d : Array Value} (h : By W c d wr) (k : Nat) (v : Value) : wr.frozen? ⟨W.heap.size + 1, k, none⟩ = false ∧ By W c (d.setIfInBounds k v) (wr.setCell ⟨W.heap.size + 1, k, none⟩ v) :=
  ⟨frozen_of_row _ _ _ _ _ h.r1, h.bel.setCell (by show W.heap.size ≤ W.heap.size + 1; omega) _, (heap_setCell_other _ _ _ _ (by show W.heap.size ≠ W.heap.size + 1; omega)).trans h.r0, heap_setCell_same _ _ _ _ _ _ h.r1⟩
theorem By.cel {W wr : World} {c d : Array Value} (h : By W c d wr) {k : Nat} {v : Value} (hv : d[k]? = some v) : wr.cell? ⟨W.heap.size + 1, k, none⟩ = some v := c1 h.r1 hv
theorem By.rcel {W wr : World} {c d : Array Value} (h : By W c d wr) {k : Nat} {v : Value} (hv : c[k]? = some v) : wr.cell? ⟨W.heap.size, k, none⟩ = some v := c1 h.r0 hv
theorem Ol.by {base e sz : Nat} {W wr : World} {v u : Value} {c d : Array Value} {l : List (Array Value)} (h : Ol base e sz wr v l) (hb : By W c d wr) (he : e ≠ 27) (k : Nat) : Ol base e sz (wr.setCell ⟨W.heap.size + 1, k, none⟩ u) v l := h.keep fun g hg => by
  obtain ⟨_, _, cur, hc⟩ := h.tag hg
  exact heap_setCell_other _ _ _ _ (by show g ≠ W.heap.size + 1; exact tag_ne hc hb.r1 he)
theorem By.grown {W wr w' : World} {c d : Array Value} {base e sz : Nat} {v : Value} {l : List (Array Value)} (h : By W c d wr) (ho : Ol base e sz wr v l) (hg : wr.grownBy w' v.ownBlock) (he : e ≠ 27) (hbase : W.heap.size ≤ base) : By W c d w' := by
  have kb : ∀ (g : Nat) D, wr.heap[g]? = some (.cells D 27 (0, 0)) → w'.heap[g]? = wr.heap[g]? := fun g D hD => hg.block g (Array.getElem?_eq_some_iff.1 hD).1 (fun q => by
    obtain ⟨_, _, cur, hc⟩ := ho.tag q.symm
    exact tag_ne hc hD he rfl)
  exact ⟨⟨hg.os.trans h.bel.os, hg.tape.trans h.bel.tape, hg.output.trans h.bel.output, Nat.le_trans h.bel.size hg.size, fun j hj => (hg.block j (Nat.lt_of_lt_of_le hj h.bel.size) (fun q => by
    have := (ho.tag q.symm).1
    omega)).trans (h.bel.block j hj)⟩, (kb _ _ h.r0).trans h.r0, (kb _ _ h.r1).trans h.r1⟩
theorem Nm.by {base : Nat} {W wr : World} {c d : Array Value} {lv v : Value} {us : List Value} {l : List (S × List S)} {i : Nat} (h : Nm base wr lv us l i) (hb : By W c d wr) (k : Nat) : Nm base (wr.setCell ⟨W.heap.size + 1, k, none⟩ v) lv us l i := ⟨h.own.by hb (by decide) k, h.ul, fun j x u q1 q2 q3 => (h.each j x u q1 q2 q3).by hb (by decide) k⟩
/-- The room, as turn has it. -/
structure Tr (W : World) (base rb : Nat) (C : Array Value) (o n s a e l : Value) (us ls : List Value) (R : Rcp) (wr : World) : Prop where
  bel : Below base W wr
  r0 : wr.heap[W.heap.size]? = some (.cells C 27 (0, 0))
  r1 : wr.heap[W.heap.size + 1]? = some (.cells zR 27 (0, 0))
  rm : wr.heap[rb]? = some (.cells (rmV o n s a e l) 30 (0, 0))
  rl : Rl base wr o n s a e l us ls R
  lb : base ≤ W.heap.size
/-- What turn leaves. -/
def TuP (W : World) (base rb : Nat) (sys bld : S) (o n s a e l : Value) (us ls : List Value) (R : Rcp) (en : Ending) (w' : World) : Prop :=
  ∃ o' n' s' a' e' us', en = .returned (.agg (rV o' n' s' sys bld a' e')) ∧ Tw W.heap.size w' o' n' s' a' e' us' R ∧ Below base W w' ∧ w'.heap[rb]? = some (.cells (rmV o n s a e l) 30 (0, 0)) ∧ Rl base w' o n s a e l us ls R
theorem Rl.rows {base : Nat} {W W' : World} {o n s a e l : Value} {us ls : List Value} {R : Rcp} (h : Rl base W o n s a e l us ls R) (hk : ∀ (g : Nat) C (t : Nat), W.heap[g]? = some (.cells C t (0, 0)) → t ≠ 27 → W'.heap[g]? = W.heap[g]?) : Rl base W' o n s a e l us ls R :=
  ⟨h.fo.rowOf fun g C q => hk g C _ q (by decide), h.fn.rowOf fun g C q => hk g C _ q (by decide), h.fs.rowOf fun g C q => hk g C _ q (by decide), h.fa.rowOf fun g C q => hk g C _ q (by decide), h.fe.rowOf fun g C q => hk g C _ q (by decide), h.fl.rowOf fun g C q => hk g C _ q (by decide), h.ul, h.ll, fun i x u v q1 q2 q3 => ⟨(h.each i x u v q1 q2 q3).1, (h.each i x u v q1 q2 q3).2.rowOf fun g C q => hk g C _ q (by decide)⟩, h.sep⟩
section
attribute [local go_sem ↓] toApO toApI toApS toApP toLdR toStR
set_option maxRecDepth 100000 in
set_option maxHeartbeats 3200000 in
theorem tail12 (W : World) (base rb : Nat) (ro rn rs ra re : Value) (sys bld : S) (o n s a e l : Value) (us ls : List Value) (R : Rcp) (hs : Sm R) (w : World) (h : Tr W base rb (rV ro rn rs sys bld ra re) o n s a e l us ls R w) {v1 v2 v5 v6 v7 v8 v9 v10 v11 v12 v13 v14 v15 v16 v17 v18 v19 v20 v21 v22 v23 v24 v25 v26 v27 v28 v29 v30 v31 v32 v33 v34 v35 v36 v37 v38 v39 v40 v41 v42 v43 v44 v45 v46 v47 v48 v49 v50 v51 v52 v53 v54 v55 v56 v57 v58 v59 v60 v61 v62 v63 v64 v65 v66 v67 v68 v69 v70 v71 v72 v73 v74 v75 v76 v77 v78 v79 v80 v81 v82 v83 v84 v85 v86 v87 v88 v89 v90 v91 v92 v93 v94 v95 v96 v97 v98 v99 v100 v101 v102 v103 v104 v105 v106 v107 v108 v109 v110 v111 v112 v113 v114 v115 v116 v117 v118 v119 v120 v121 v122 v123 v124 v125 v126 v127 v128 v129 v130 v131 v132 v133 v134 v135 v136 v137 v138 v139 v140 v141 v142 v143 v144 v145 v146 v147 v148 v149 v150 v151 v152 v153 v154 v155 v156 v157 v158 v159 v160 v161 v162 v163 v164 v165 v166 v167 v168 v169 v170 v171 v172 v173 v174 v175 v176 v177 v178 v179 v180 v181 v182 v183 v184 v185 v186 v187 v188 v189 v190 v191 v192 v193 v194 v195 v196 v197 v198 v199 v200 v201 v202 : Value} :
    Code.wp Try.prog (tl 12) (bodyPost Try.prog Try.f7 (TuP W base rb sys bld o n s a e l us ls R)) ⟨#[.pointer (some ⟨rb, 0, none⟩), v1, v2, .pointer (some ⟨W.heap.size, 0, none⟩), .pointer (some ⟨W.heap.size + 1, 0, none⟩), v5, v6, v7, v8, v9, v10, v11, v12, v13, v14, v15, v16, v17, v18, v19, v20, v21, v22, v23, v24, v25, v26, v27, v28, v29, v30, v31, v32, v33, v34, v35, v36, v37, v38, v39, v40, v41, v42, v43, v44, v45, v46, v47, v48, v49, v50, v51, v52, v53, v54, v55, v56, v57, v58, v59, v60, v61, v62, v63, v64, v65, v66, v67, v68, v69, v70, v71, v72, v73, v74, v75, v76, v77, v78, v79, v80, v81, v82, v83, v84, v85, v86, v87, v88, v89, v90, v91, v92, v93, v94, v95, v96, v97, v98, v99, v100, v101, v102, v103, v104, v105, v106, v107, v108, v109, v110, v111, v112, v113, v114, v115, v116, v117, v118, v119, v120, v121, v122, v123, v124, v125, v126, v127, v128, v129, v130, v131, v132, v133, v134, v135, v136, v137, v138, v139, v140, v141, v142, v143, v144, v145, v146, v147, v148, v149, v150, v151, v152, v153, v154, v155, v156, v157, v158, v159, v160, v161, v162, v163, v164, v165, v166, v167, v168, v169, v170, v171, v172, v173, v174, v175, v176, v177, v178, v179, v180, v181, v182, v183, v184, v185, v186, v187, v188, v189, v190, v191, v192, v193, v194, v195, v196, v197, v198, v199, v200, v201, v202], []⟩ w := by
  obtain ⟨xo, xn, xs, xa, xe, co, cn, cs, ca, ce, rfl, rfl, rfl, rfl, rfl, ko, kn, ks, ka, ke, hrc⟩ := h.rl.rc
  have lim := hs
  unfold Sm at lim
  have C11 : Hid _ := in_any w rb xo xn xs xa xe R.o.length R.n.length R.s.length R.a.length R.e.length co cn cs ca ce l h.rm ⟨ko, kn, ks, ka, ke⟩ ⟨lim.1, lim.2.1, lim.2.2.1, lim.2.2.2.1, lim.2.2.2.2.1⟩ ro rn rs ra re sys bld
  have l0 := ld_R w W.heap.size _ rfl h.r0
  have HH : Hid (Tr W base rb (rV ro rn rs sys bld ra re) (.slice xo (R.o.length + 1) co) (.slice xn (R.n.length + 1) cn) (.slice xs (R.s.length + 1) cs) (.slice xa (R.a.length + 1) ca) (.slice xe (R.e.length + 1) ce) l us ls R w ∧ Sm R ∧ Rc w (.slice xo R.o.length co) (.slice xn R.n.length cn) (.slice xs R.s.length cs) (.slice xa R.a.length ca) (.slice xe R.e.length ce) R) := ⟨h, hs, hrc⟩
  unfold rV at l0
  clear h hs lim ko kn ks ka ke hrc
  conv => arg 2; whnf
  go_wp2_with fail
  refine Calls.mono C11.out ?_
  rintro en V0 ⟨rfl, bV⟩
  clear C11 l0
  obtain ⟨lo, hlo⟩ : ∃ k, R.o.length = k := ⟨_, rfl⟩
  obtain ⟨ln, hln⟩ : ∃ k, R.n.length = k := ⟨_, rfl⟩
  obtain ⟨lss, hls⟩ : ∃ k, R.s.length = k := ⟨_, rfl⟩
  obtain ⟨la, hla⟩ : ∃ k, R.a.length = k := ⟨_, rfl⟩
  obtain ⟨le, hle⟩ : ∃ k, R.e.length = k := ⟨_, rfl⟩
  rw [hlo, hln, hls, hla, hle] at HH ⊢
  have HLL : Hid (R.o.length = lo ∧ R.n.length = ln ∧ R.s.length = lss ∧ R.a.length = la ∧ R.e.length = le) := ⟨hlo, hln, hls, hla, hle⟩
  have rcV := HH.out.2.2.below bV
  obtain ⟨us0, hu1, hu2, hu3⟩ := rcV.n
  have lim := HH.out.2.1
  unfold Sm at lim
  obtain ⟨C1, hC1⟩ : ∃ C : Array Value, C = #[.slice xo lo co, .slice xn ln cn, .slice xs lss cs, .string sys, .string bld, .slice xa la ca, .slice xe le ce] := ⟨_, rfl⟩
  obtain ⟨Y1, hY1⟩ : ∃ Y, (V0.alloc (.cells zR 27)).setRow V0.heap.size C1 = Y := ⟨_, rfl⟩
  have sY := st_R (V0.alloc (.cells zR 27)) V0.heap.size zR C1 rfl (by rw [hC1]; rfl) (by rw [hC1]; simp [Value.oneCell']) (heap_alloc_new _ _)
  have rY : Y1.heap[V0.heap.size]? = some (.cells C1 27 (0, 0)) := by rw [← hY1]; exact setRow_heap _ _ _ _ _ _ (heap_alloc_new _ _)
  have bY : Below V0.heap.size V0 Y1 := by rw [← hY1]; exact below_setRow ((Below.refl _ V0).alloc (Nat.le_refl _) _) (Nat.le_refl _) _
  have zY : Y1.heap.size = V0.heap.size + 1 := by rw [← hY1]; simp [World.setRow]
  rw [hY1] at sY
  have g3 : ∀ X : Obj, (Y1.alloc X).cell? ⟨V0.heap.size, 3, none⟩ = some (.string sys) := fun X => c1 ((heap_alloc_old _ _ (h := by omega)).trans rY) (by rw [hC1]; rfl)
  have g4 : ∀ X : Obj, (Y1.alloc X).cell? ⟨V0.heap.size, 4, none⟩ = some (.string bld) := fun X => c1 ((heap_alloc_old _ _ (h := by omega)).trans rY) (by rw [hC1]; rfl)
  have g0 : ∀ X : Obj, (Y1.alloc X).cell? ⟨V0.heap.size, 0, none⟩ = some (.slice xo lo co) := fun X => c1 ((heap_alloc_old _ _ (h := by omega)).trans rY) (by rw [hC1]; rfl)
  obtain ⟨B0, hB0⟩ : ∃ B0, Y1.alloc (.cells #[.slice none 0 0, .slice none 0 0, .slice none 0 0, .string sys, .string bld, .slice none 0 0, .slice none 0 0] 27) = B0 := ⟨_, rfl⟩
  have x0 : By V0 C1 #[.slice none 0 0, .slice none 0 0, .slice none 0 0, .string sys, .string bld, .slice none 0 0, .slice none 0 0] B0 := by
    rw [← hB0]
    refine ⟨bY.alloc (by omega) _, (heap_alloc_old _ _ (h := by omega)).trans rY, ?_⟩
    rw [← zY]
    exact heap_alloc_new _ _
  obtain ⟨v1', w1, hr1, hP1⟩ := run_apO B0 V0.heap.size (.slice none 0 0) (.slice xo lo co) [] _ (ol_nil _ _ _ _) (rcV.o.below x0.bel) (by unfold MX; simp; omega) x0.bel.size
  have p1 := cp_of hP1
  have x1 := x0.below p1.bel
  obtain ⟨f1, y1⟩ := x1.set 0 v1'
  have q1 : w1.cell? ⟨V0.heap.size + 1, 0, none⟩ = some (.slice none 0 0) := x1.cel (k := 0) rfl
  have o1 := p1.own.by x1 (u := v1') (by decide) 0
  obtain ⟨B1, hB1⟩ : ∃ B, w1.setCell ⟨V0.heap.size + 1, 0, none⟩ v1' = B := ⟨_, rfl⟩
  rw [hB1] at y1 o1
  obtain ⟨v2', w2, hr2, hP2⟩ := run_apS B1 V0.heap.size (.slice none 0 0) (.slice xs lss cs) [] _ (ol_nil _ _ _ _) (rcV.s.below y1.bel) (by unfold MX; simp; omega) y1.bel.size
  have p2 := cp_of hP2
  have x2 := y1.below p2.bel
  obtain ⟨f2, y2⟩ := x2.set 2 v2'
  have q2 : w2.cell? ⟨V0.heap.size + 1, 2, none⟩ = some (.slice none 0 0) := x2.cel (k := 2) rfl
  have q2' : B1.cell? ⟨V0.heap.size + 1, 2, none⟩ = some (.slice none 0 0) := y1.cel (k := 2) rfl
  have q2n : B1.cell? ⟨V0.heap.size, 2, none⟩ = some (.slice xs lss cs) := y1.rcel (by rw [hC1]; rfl)
  have o2 := (o1.below p2.bel).by x2 (u := v2') (by decide) 2
  have s2 := p2.own.by x2 (u := v2') (by decide) 2
  obtain ⟨B2, hB2⟩ : ∃ B, w2.setCell ⟨V0.heap.size + 1, 2, none⟩ v2' = B := ⟨_, rfl⟩
  rw [hB2] at y2 o2 s2
  obtain ⟨v3', w3, hr3, hP3⟩ := run_apS B2 V0.heap.size (.slice none 0 0) (.slice xa la ca) [] _ (ol_nil _ _ _ _) (rcV.a.below y2.bel) (by unfold MX; simp; omega) y2.bel.size
  have p3 := cp_of hP3
  have x3 := y2.below p3.bel
  obtain ⟨f3, y3⟩ := x3.set 5 v3'
  have q3 : w3.cell? ⟨V0.heap.size + 1, 5, none⟩ = some (.slice none 0 0) := x3.cel (k := 5) rfl
  have q3' : B2.cell? ⟨V0.heap.size + 1, 5, none⟩ = some (.slice none 0 0) := y2.cel (k := 5) rfl
  have q3n : B2.cell? ⟨V0.heap.size, 5, none⟩ = some (.slice xa la ca) := y2.rcel (by rw [hC1]; rfl)
  have o3 := (o2.below p3.bel).by x3 (u := v3') (by decide) 5
  have s3 := (s2.below p3.bel).by x3 (u := v3') (by decide) 5
  have a3 := p3.own.by x3 (u := v3') (by decide) 5
  obtain ⟨B3, hB3⟩ : ∃ B, w3.setCell ⟨V0.heap.size + 1, 5, none⟩ v3' = B := ⟨_, rfl⟩
  rw [hB3] at y3 o3 s3 a3
  obtain ⟨v4', w4, hr4, hP4⟩ := run_apP B3 V0.heap.size (.slice none 0 0) (.slice xe le ce) [] _ (ol_nil _ _ _ _) (rcV.e.below y3.bel) (by unfold MX; simp; omega) y3.bel.size
  have p4 := cp_of hP4
  have x4 := y3.below p4.bel
  obtain ⟨f4, y4⟩ := x4.set 6 v4'
  have q4 : w4.cell? ⟨V0.heap.size + 1, 6, none⟩ = some (.slice none 0 0) := x4.cel (k := 6) rfl
  have q4' : B3.cell? ⟨V0.heap.size + 1, 6, none⟩ = some (.slice none 0 0) := y3.cel (k := 6) rfl
  have q4n : B3.cell? ⟨V0.heap.size, 6, none⟩ = some (.slice xe le ce) := y3.rcel (by rw [hC1]; rfl)
  have o4 := (o3.below p4.bel).by x4 (u := v4') (by decide) 6
  have s4 := (s3.below p4.bel).by x4 (u := v4') (by decide) 6
  have a4 := (a3.below p4.bel).by x4 (u := v4') (by decide) 6
  have e4 := p4.own.by x4 (u := v4') (by decide) 6
  obtain ⟨B4, hB4⟩ : ∃ B, w4.setCell ⟨V0.heap.size + 1, 6, none⟩ v4' = B := ⟨_, rfl⟩
  rw [hB4] at y4 o4 s4 a4 e4
  obtain ⟨a1, n1, d1, z1⟩ := p1.sl
  obtain ⟨a2, n2, d2, z2⟩ := p2.sl
  obtain ⟨a3', n3, d3, z3⟩ := p3.sl
  obtain ⟨a4', n4, d4, z4⟩ := p4.sl
  subst z1 z2 z3 z4
  have HS : Hid (By V0 C1 #[.slice a1 n1 d1, .slice none 0 0, .slice a2 n2 d2, .string sys, .string bld, .slice a3' n3 d3, .slice a4' n4 d4] B4 ∧ Ol V0.heap.size 39 4 B4 (.slice a1 n1 d1) (R.o.map oR) ∧ Ol V0.heap.size 9 1 B4 (.slice a2 n2 d2) (R.s.map sR) ∧ Ol V0.heap.size 9 1 B4 (.slice a3' n3 d3) (R.a.map sR) ∧ Ol V0.heap.size 44 2 B4 (.slice a4' n4 d4) (R.e.map eR)) := ⟨y4, o4, s4, a4, e4⟩
  have HR : Hid (us0.length = R.n.length ∧ Ls V0 (.slice xn ln cn) 2 (List.zipWith nR R.n us0) ∧ (∀ (i : Nat) x u, R.n[i]? = some x → us0[i]? = some u → Ls V0 u 1 (x.2.map sR)) ∧ R.n.length = ln ∧ Below w.heap.size w V0) := ⟨hu1, hu2, hu3, hln, bV⟩
  have HC : Hid (C1 = #[.slice xo lo co, .slice xn ln cn, .slice xs lss cs, .string sys, .string bld, .slice xa la ca, .slice xe le ce]) := hC1
  rw [← hB0] at hr1
  unfold rV
  rw [hC1] at sY
  unfold zR at sY
  clear hY1 rY bY
  clear hlo hln hls hla hle rcV hu1 hu2 hu3 lim hC1 x0 hP1 p1 x1 y1 o1 hP2 p2 x2 y2 o2 s2 hP3 p3 x3 y3 o3 s3 a3 hP4 p4 x4 y4 o4 s4 a4 e4 bV hB0
  go_wp2_with fail
  clear sY zY g0 g3 g4
  clear hr1 hr2 hr3 hr4 q1 q2 q2' q2n q3 q3' q3n q4 q4' q4n f1 f2 f3 f4 hB1 hB2 hB3 hB4
  go_loopw [7, 8] (fun iv _ wr => ∃ (i : Nat) (us' : List Value) (xl : Option Addr) (nl cl : Nat), iv = .int .i64 (i : Int) ∧ Hid (i ≤ ln ∧ By V0 C1 #[.slice a1 n1 d1, .slice xl nl cl, .slice a2 n2 d2, .string sys, .string bld, .slice a3' n3 d3, .slice a4' n4 d4] wr ∧ Ol V0.heap.size 39 4 wr (.slice a1 n1 d1) (R.o.map oR) ∧ Ol V0.heap.size 9 1 wr (.slice a2 n2 d2) (R.s.map sR) ∧ Ol V0.heap.size 9 1 wr (.slice a3' n3 d3) (R.a.map sR) ∧ Ol V0.heap.size 44 2 wr (.slice a4' n4 d4) (R.e.map eR) ∧ Nm V0.heap.size wr (.slice xl nl cl) us' R.n i)) (fun iv _ _ => ln + 1 - (intOf iv).toNat)
  case atStart => exact ⟨0, [], none, 0, 0, rfl, Nat.zero_le _, HS.out.1, HS.out.2.1, HS.out.2.2.1, HS.out.2.2.2.1, HS.out.2.2.2.2, ol_nil _ _ _ _, rfl, fun j x u q => absurd q (Nat.not_lt_zero _)⟩
  case round =>
    obtain ⟨i, us', xl, nl, cl, rfl, HI⟩ := hrel
    have k1 : wr.cell? ⟨V0.heap.size, 1, none⟩ = some (.slice xn ln cn) := HI.out.2.1.rcel (by rw [HC.out]; rfl)
    by_cases hi : i < ln
    · obtain ⟨ile, bx, oo, os, oa, oe, nm⟩ := HI.out
      have hin : i < R.n.length := by have := HR.out.2.2.2.1; omega
      obtain ⟨x, hx⟩ : ∃ x, R.n[i]? = some x := ⟨_, List.getElem?_eq_getElem hin⟩
      obtain ⟨u, hu⟩ : ∃ u, us0[i]? = some u := ⟨_, List.getElem?_eq_getElem (by have := HR.out.1; omega)⟩
      have hz : (List.zipWith nR R.n us0)[i]? = some (nR x u) := by rw [List.getElem?_zipWith, hx, hu]
      obtain ⟨g, q, rfl, hg, r1⟩ := HR.out.2.1.at i _ hz
      have s2 : wr.cell? ⟨g, q + i * 2 + 1, none⟩ = some u := range_block r1 (bx.bel.block _ hg) 1 _ rfl
      have hsm := HH.out.2.1
      have hsx := hsm.2.2.2.2.2 x (List.mem_of_getElem? hx)
      have hsn : R.n.length ≤ 10000000 := hsm.2.1
      have lu := (HR.out.2.2.1 i x u hx hu).below bx.bel
      obtain ⟨u', P1, hr1, hP1⟩ := run_apS wr V0.heap.size (.slice none 0 0) u [] _ (ol_nil _ _ _ _) lu (by unfold MX; simp; omega) bx.bel.size
      have p1 := cp_of hP1
      have bx1 := bx.below p1.bel
      have s3 : P1.drew.cell? ⟨g, q + i * 2, none⟩ = some (.string x.1) := range_block r1 (bx1.bel.block _ hg) 0 _ rfl
      have k2 : P1.drew.cell? ⟨V0.heap.size, 1, none⟩ = some (.slice (some ⟨g, q, none⟩) ln cn) := bx1.rcel (by rw [HC.out]; rfl)
      obtain ⟨ou, cu, hu0⟩ := lu.form
      obtain ⟨xl0, hxl⟩ : ∃ k, (x.2.map sR).length = k := ⟨_, rfl⟩
      rw [hxl] at hu0
      obtain ⟨ou', nu', cu', hu0'⟩ := p1.sl
      subst hu0 hu0'
      obtain ⟨E, hE⟩ : ∃ E, P1.drew = E := ⟨_, rfl⟩
      have bE : Below P1.heap.size P1 E := by rw [← hE]; exact below_drw P1
      have bwE : Below wr.heap.size wr E := p1.bel.trans (bE.mono p1.bel.size)
      have bal : Below wr.heap.size wr (E.alloc (.cells (nR x (.slice ou' nu' cu')) 42)) := bwE.alloc bwE.size _
      have blw := below_al E (.cells (nR x (.slice ou' nu' cu')) 42)
      have nl1 : (List.zipWith nR (R.n.take i) us').length ≤ 10000000 := by rw [List.length_zipWith]; have := List.length_take_le i R.n; omega
      obtain ⟨lv', G, hr2, hP2⟩ := run_apI (E.alloc (.cells (nR x (.slice ou' nu' cu')) 42)) V0.heap.size (.slice xl nl cl) (.slice (some ⟨E.heap.size, 0, none⟩) 1 1) _ [nR x (.slice ou' nu' cu')] (nm.own.below bal) (ls_one E (nR x (.slice ou' nu' cu')) 42 2 rfl (by simp [nR, Value.oneCell'])) (by unfold MX; simp only [List.length_singleton]; omega) (by have := bx.bel.size; have := bal.size; omega)
      have nm2 := nm.step hx bal ((p1.own.below bE).below blw) hP2
      have bxE := bx1.below bE
      have bx2 := (bxE.below blw).grown (nm.own.below bal) hP2.2.1 (by decide) (Nat.le_refl _)
      have oo2 := (oo.below bal).grown (nm.own.below bal) hP2.2.1 (by decide)
      have os2 := (os.below bal).grown (nm.own.below bal) hP2.2.1 (by decide)
      have oa2 := (oa.below bal).grown (nm.own.below bal) hP2.2.1 (by decide)
      have oe2 := (oe.below bal).grown (nm.own.below bal) hP2.2.1 (by decide)
      obtain ⟨fg, bxH⟩ := bx2.set 1 lv'
      have t1 : P1.drew.cell? ⟨V0.heap.size + 1, 1, none⟩ = some (.slice xl nl cl) := bx1.cel (k := 1) rfl
      have t2 := (bxE.below blw).cel (k := 1) (v := .slice xl nl cl) rfl
      have t3 : G.cell? ⟨V0.heap.size + 1, 1, none⟩ = some (.slice xl nl cl) := bx2.cel (k := 1) rfl
      have nmH := nm2.by bx2 (v := lv') 1
      have ooH := oo2.by bx2 (u := lv') (by decide) 1
      have osH := os2.by bx2 (u := lv') (by decide) 1
      have oaH := oa2.by bx2 (u := lv') (by decide) 1
      have oeH := oe2.by bx2 (u := lv') (by decide) 1
      obtain ⟨H, hH⟩ : ∃ P, G.setCell ⟨V0.heap.size + 1, 1, none⟩ lv' = P := ⟨_, rfl⟩
      rw [hH] at bxH nmH ooH osH oaH oeH
      obtain ⟨al, nl', cl', hl'⟩ := hP2.form
      subst hl'
      have HF : Hid (i < ln ∧ By V0 C1 #[.slice a1 n1 d1, .slice al nl' cl', .slice a2 n2 d2, .string sys, .string bld, .slice a3' n3 d3, .slice a4' n4 d4] H ∧ Ol V0.heap.size 39 4 H (.slice a1 n1 d1) (R.o.map oR) ∧ Ol V0.heap.size 9 1 H (.slice a2 n2 d2) (R.s.map sR) ∧ Ol V0.heap.size 9 1 H (.slice a3' n3 d3) (R.a.map sR) ∧ Ol V0.heap.size 44 2 H (.slice a4' n4 d4) (R.e.map eR) ∧ Nm V0.heap.size H (.slice al nl' cl') (us' ++ [.slice ou' nu' cu']) R.n (i + 1)) := ⟨hi, bxH, ooH, osH, oaH, oeH, nmH⟩
      have hi0 : (0 : Int) ≤ (i : Int) := by omega
      have hi1 : (i : Int) < (ln : Int) := by omega
      have w1' : IntKind.i64.wrap ((i : Int) + 1) = (i : Int) + 1 := by rw [IntKind.wrap_i64]; have := HR.out.2.2.2.1; omega
      obtain ⟨x1, x2⟩ := x
      unfold nR at hr2 t2
      rw [← hE] at hr2 t2
      have u2 : (P1.alloc (.cells #[.string x1, .slice ou' nu' cu'] 42)).drew.cell? ⟨V0.heap.size + 1, 1, none⟩ = some (.slice xl nl cl) := t2
      have u6 : (apI 23 #[.slice xl nl cl, .slice (some ⟨P1.heap.size, 0, none⟩) 1 1]).run Try.prog (P1.alloc (.cells #[.string x1, .slice ou' nu' cu'] 42)).drew = .ok (.slice al nl' cl') G := hr2
      clear hi ile bx oo os oa oe nm hin hx hu hz hg r1 hsm hsx hsn lu hP1 p1 bx1 hxl bE bwE bal blw nl1 hP2 nm2 bxE bx2 oo2 os2 oa2 oe2 bxH nmH ooH osH oaH oeH t2 hr2 hE
      go_wp2_with fail
      go_region
      go_wp2_with fail
      go_roundw
      case rel => exact ⟨i + 1, _, _, _, _, by go_num, HF.out.1, HF.out.2.1, HF.out.2.2.1, HF.out.2.2.2.1, HF.out.2.2.2.2.1, HF.out.2.2.2.2.2.1, HF.out.2.2.2.2.2.2⟩
      case measure => have := HF.out.1; simp [intOf]; omega
    · obtain ⟨ile, bx, oo, os, oa, oe, nm⟩ := HI.out
      have hil : R.n.length = i := by have := HR.out.2.2.2.1; omega
      have ho := nm.own
      rw [← hil, List.take_length] at ho
      have ldR' := ld_R wr (V0.heap.size + 1) _ rfl bx.r1
      have bw := HR.out.2.2.2.2
      have r1' : wr.heap[W.heap.size + 1]? = some (.cells zR 27 (0, 0)) := (bx.bel.block _ (Nat.lt_of_lt_of_le (Array.getElem?_eq_some_iff.1 HH.out.1.r1).1 bw.size)).trans ((bw.block _ (Array.getElem?_eq_some_iff.1 HH.out.1.r1).1).trans HH.out.1.r1)
      have bww : Below w.heap.size w wr := bw.trans (bx.bel.mono bw.size)
      have zW : W.heap.size ≤ V0.heap.size := Nat.le_trans (Nat.le_of_lt (Array.getElem?_eq_some_iff.1 HH.out.1.r0).1) bw.size
      have stR' := st_R wr (W.heap.size + 1) _ (rV (.slice a1 n1 d1) (.slice xl nl cl) (.slice a2 n2 d2) sys bld (.slice a3' n3 d3) (.slice a4' n4 d4)) rfl rfl (by simp [rV, Value.oneCell']) r1'
      obtain ⟨B6, hB6⟩ : ∃ B, wr.setRow (W.heap.size + 1) (rV (.slice a1 n1 d1) (.slice xl nl cl) (.slice a2 n2 d2) sys bld (.slice a3' n3 d3) (.slice a4' n4 d4)) = B := ⟨_, rfl⟩
      have kp : ∀ (g : Nat) C (t : Nat), wr.heap[g]? = some (.cells C t (0, 0)) → t ≠ 27 → B6.heap[g]? = wr.heap[g]? := fun g C t hC ht => by rw [← hB6]; exact setRow_other _ _ _ _ (tag_ne hC r1' ht)
      have HR6 : Hid (B6.heap[W.heap.size + 1]? = some (.cells (rV (.slice a1 n1 d1) (.slice xl nl cl) (.slice a2 n2 d2) sys bld (.slice a3' n3 d3) (.slice a4' n4 d4)) 27 (0, 0))) := by
        show B6.heap[W.heap.size + 1]? = _
        rw [← hB6]
        exact setRow_heap _ _ _ _ _ _ r1'
      have twr : Tw W.heap.size wr (.slice a1 n1 d1) (.slice xl nl cl) (.slice a2 n2 d2) (.slice a3' n3 d3) (.slice a4' n4 d4) us' R := ⟨oo.mono zW, ho.mono zW, os.mono zW, oa.mono zW, oe.mono zW, by rw [nm.ul, hil], fun j x u z1 z2 => (nm.each j x u (by have := (List.getElem?_eq_some_iff.1 z1).1; omega) z1 z2).mono zW⟩
      have HF : Hid (TuP W base rb sys bld (.slice xo (lo + 1) co) (.slice xn (ln + 1) cn) (.slice xs (lss + 1) cs) (.slice xa (la + 1) ca) (.slice xe (le + 1) ce) l us ls R (.returned (.agg (rV (.slice a1 n1 d1) (.slice xl nl cl) (.slice a2 n2 d2) sys bld (.slice a3' n3 d3) (.slice a4' n4 d4)))) B6) := by
        have hrm := (bww.block _ (Array.getElem?_eq_some_iff.1 HH.out.1.rm).1).trans HH.out.1.rm
        refine ⟨_, _, _, _, _, us', rfl, twr.rows kp, ?_, (kp _ _ _ hrm (by decide)).trans hrm, (HH.out.1.rl.below bww).rows kp⟩
        have hb := HH.out.1.bel
        have : Below base W wr := hb.trans (bww.mono (by
          have := HH.out.1.lb
          have := (Array.getElem?_eq_some_iff.1 HH.out.1.r0).1
          omega))
        rw [← hB6]
        exact below_setRow this (by have := HH.out.1.lb; omega) _
      unfold rV at stR' hB6
      have hi2 : ¬ ((i : Int) < (ln : Int)) := by omega
      clear hi ile bx oo os oa oe nm hil ho r1' bw bww zW kp twr
      go_wp2_with fail
      refine bodyPost_ret (results_R rfl _ _ (W.heap.size + 1) _ rfl rfl HR6.out) rfl ?_
      rw [HLL.out.1, HLL.out.2.1, HLL.out.2.2.1, HLL.out.2.2.2.1, HLL.out.2.2.2.2]
      exact HF.out
end
end Go.Proofs.Ytcggaiplepekdaa
