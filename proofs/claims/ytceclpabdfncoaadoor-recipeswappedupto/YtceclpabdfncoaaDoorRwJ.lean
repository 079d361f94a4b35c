/- The laws' right: the arguments. -/
import Derived.Test.YtceclpabdfncoaaDoorRwI
namespace Go.Proofs.YtceclpabdfncoaaDoor.Re
open Go.RowKit
/-- A call of one argument within a region that draws. -/
theorem step_cut {ops : Array Oper} {o : Oper} {a : Act} {w : World} {K : Act → World → Prop} {Q : Exit → Act → World → Prop} {E : Prop}
    (hg : o.guard = none) (k : Nat) (hop : o.op = Op.call { callee := Callee.value (Operand.func 11), args := #[.tmp k], argTypes := #[9] }) (v : Value) (hx : a.eval (.tmp k) = v)
    (hc : Calls Tryd.prog 11 #[v] w fun e w' => ∃ r, e = .returned r ∧ K (a.put o.dst r) w') :
    if Region.wanted o (yielded ops a.tmps) = true then Oper.wp Tryd.prog o a w K Q else E := by
  have hw : Region.wanted o (yielded ops a.tmps) = true := by simp [Region.wanted, hg]
  have hx' : a.tmps[k]?.getD undef = v := by simpa [Act.eval] using hx
  rw [if_pos hw]
  unfold Oper.wp
  simp [execOp, hop, hx', go_sem]
  refine hc.mono ?_
  rintro e w' ⟨r, rfl, h⟩
  exact h
/-- A call of one argument within a region that draws. -/
theorem step_word {ops : Array Oper} {o : Oper} {a : Act} {w : World} {K : Act → World → Prop} {Q : Exit → Act → World → Prop} {E : Prop}
    (hg : o.guard = none) (k : Nat) (hop : o.op = Op.call { callee := Callee.value (Operand.func 10), args := #[.tmp k], argTypes := #[3] }) (v : Value) (hx : a.eval (.tmp k) = v)
    (hc : Calls Tryd.prog 10 #[v] w fun e w' => ∃ r, e = .returned r ∧ K (a.put o.dst r) w') :
    if Region.wanted o (yielded ops a.tmps) = true then Oper.wp Tryd.prog o a w K Q else E := by
  have hw : Region.wanted o (yielded ops a.tmps) = true := by simp [Region.wanted, hg]
  have hx' : a.tmps[k]?.getD undef = v := by simpa [Act.eval] using hx
  rw [if_pos hw]
  unfold Oper.wp
  simp [execOp, hop, hx', go_sem]
  refine hc.mono ?_
  rintro e w' ⟨r, rfl, h⟩
  exact h
/-- A call of one argument within a region that draws. -/
theorem step_sorted {ops : Array Oper} {o : Oper} {a : Act} {w : World} {K : Act → World → Prop} {Q : Exit → Act → World → Prop} {E : Prop}
    (hg : o.guard = none) (k : Nat) (hop : o.op = Op.call { callee := Callee.value (Operand.func 9), args := #[.tmp k], argTypes := #[22] }) (v : Value) (hx : a.eval (.tmp k) = v)
    (hc : Calls Tryd.prog 9 #[v] w fun e w' => ∃ r, e = .returned r ∧ K (a.put o.dst r) w') :
    if Region.wanted o (yielded ops a.tmps) = true then Oper.wp Tryd.prog o a w K Q else E := by
  have hw : Region.wanted o (yielded ops a.tmps) = true := by simp [Region.wanted, hg]
  have hx' : a.tmps[k]?.getD undef = v := by simpa [Act.eval] using hx
  rw [if_pos hw]
  unfold Oper.wp
  simp [execOp, hop, hx', go_sem]
  refine hc.mono ?_
  rintro e w' ⟨r, rfl, h⟩
  exact h
/-- A call of one argument within a region that draws. -/
theorem step_outs {ops : Array Oper} {o : Oper} {a : Act} {w : World} {K : Act → World → Prop} {Q : Exit → Act → World → Prop} {E : Prop}
    (hg : o.guard = none) (k : Nat) (hop : o.op = Op.call { callee := Callee.value (Operand.func 7), args := #[.tmp k], argTypes := #[25] }) (v : Value) (hx : a.eval (.tmp k) = v)
    (hc : Calls Tryd.prog 7 #[v] w fun e w' => ∃ r, e = .returned r ∧ K (a.put o.dst r) w') :
    if Region.wanted o (yielded ops a.tmps) = true then Oper.wp Tryd.prog o a w K Q else E := by
  have hw : Region.wanted o (yielded ops a.tmps) = true := by simp [Region.wanted, hg]
  have hx' : a.tmps[k]?.getD undef = v := by simpa [Act.eval] using hx
  rw [if_pos hw]
  unfold Oper.wp
  simp [execOp, hop, hx', go_sem]
  refine hc.mono ?_
  rintro e w' ⟨r, rfl, h⟩
  exact h
/-- The arguments, while they are made. -/
structure Ar (X : World) (q : Nat) (o n s e : Value) (sys bld : S) (av : Value) (A : List S) (wr : World) : Prop where
  os : wr.os = X.os
  tape : wr.tape = X.tape
  output : wr.output = X.output
  size : X.heap.size ≤ wr.heap.size
  blk : ∀ j, j < X.heap.size → j ≠ q → wr.heap[j]? = X.heap[j]?
  row : wr.heap[q]? = some (.cells (rV o n s sys bld av e) 33 (0, 0))
  own : Ol X.heap.size 9 1 wr av (A.map sR)
theorem Ar.below {X : World} {q : Nat} {o n s e : Value} {sys bld : S} {av : Value} {A : List S} {wr w' : World} (h : Ar X q o n s e sys bld av A wr) (hb : Below wr.heap.size wr w') : Ar X q o n s e sys bld av A w' :=
  ⟨hb.os.trans h.os, hb.tape.trans h.tape, hb.output.trans h.output, Nat.le_trans h.size hb.size, fun j hj hq => (hb.block j (Nat.lt_of_lt_of_le hj h.size)).trans (h.blk j hj hq), (hb.block _ (Array.getElem?_eq_some_iff.1 h.row).1).trans h.row, h.own.below hb⟩
theorem Ar.rt {W : World} {C : Array Value} {X : World} {q : Nat} {o n s a e : Value} {us : List Value} {R : Rcp} {av : Value} {A : List S} {wr : World} (h : Ar X q o n s e R.sys R.bld av A wr) (r : Rt W C q o n s a e us R X) : Rt W C q o n s av e us { R with a := A } wr := by
  have hq := r.hq
  have kp : ∀ {B e' sz : Nat} {v : Value} {l : List (Array Value)}, Ol B e' sz X v l → e' ≠ 33 → Ol B e' sz wr v l := fun {B e' sz v l} ho h2 => ho.keep fun g hg => by
    obtain ⟨_, hlt, cur, hc⟩ := ho.tag hg
    exact h.blk g hlt (tag_ne hc r.row h2)
  have s1 := (Array.getElem?_eq_some_iff.1 r.res).1
  refine ⟨⟨h.os.trans r.bel.os, h.tape.trans r.bel.tape, h.output.trans r.bel.output, Nat.le_trans r.bel.size h.size, fun j hj => (h.blk j (Nat.lt_of_lt_of_le hj r.bel.size) (by omega)).trans (r.bel.block j hj)⟩, (h.blk _ (by omega) (by omega)).trans r.box, (h.blk _ s1 (by omega)).trans r.res, h.row, hq, ⟨kp r.tw.fo (by decide), kp r.tw.fn (by decide), kp r.tw.fs (by decide), h.own.mono r.bel.size, kp r.tw.fe (by decide), r.tw.ul, fun i x u z1 z2 => kp (r.tw.each i x u z1 z2) (by decide)⟩⟩
theorem Ar.sepa {W : World} {C : Array Value} {X : World} {q : Nat} {o n s a e : Value} {us : List Value} {R : Rcp} {av : Value} {A : List S} {wr : World} (h : Ar X q o n s e R.sys R.bld av A wr) (r : Rt W C q o n s a e us R X) : Sepa s av us := fun g hg => by
  have h1 := (h.own.tag hg).1
  refine ⟨fun hs => by have := (r.tw.fs.tag hs).2.1; omega, fun j u hj hu => ?_⟩
  obtain ⟨x, hx⟩ : ∃ x, R.n[j]? = some x := ⟨_, List.getElem?_eq_getElem (by have := (List.getElem?_eq_some_iff.1 hj).1; have := r.tw.ul; omega)⟩
  have := ((r.tw.each j x u hx hj).tag hu).2.1
  omega
/-- One argument more. -/
theorem Ar.add {X : World} {q : Nat} {o n s e : Value} {sys bld : S} {av : Value} {A : List S} {wr : World} (h : Ar X q o n s e sys bld av A wr) (hq : q < X.heap.size) (hl : A.length < 10000) (t : S) :
    ∃ a' n' c' V Z, (Builtin.append_ #[22, 22] 22 #[av, .slice (some ⟨wr.heap.size, 0, none⟩) 1 1]).run Tryd.prog (wr.alloc (.cells #[.string t] 9)) = .ok (.slice a' n' c') V ∧ V.cell? ⟨q, 5, none⟩ = some av ∧ V.frozen? ⟨q, 5, none⟩ = false ∧ V.setCell ⟨q, 5, none⟩ (.slice a' n' c') = Z ∧ Ar X q o n s e sys bld (.slice a' n' c') (A ++ [t]) Z := by
  have hX : Below wr.heap.size wr (wr.alloc (.cells #[.string t] 9)) := (Below.refl _ wr).alloc (Nat.le_refl _) _
  have h1 := h.below hX
  obtain ⟨v2, V, r2, p2⟩ := run_apS (wr.alloc (.cells #[.string t] 9)) X.heap.size av (.slice (some ⟨wr.heap.size, 0, none⟩) 1 1) _ [sR t] h1.own (ls_one wr (sR t) 9 1 rfl (by simp [sR, Value.oneCell'])) (by unfold MX; simp; omega) h1.size
  obtain ⟨a2, c2, e2, -⟩ := p2.1.form
  subst e2
  have g := p2.2.1
  have nb : ∀ j, j < X.heap.size → V.heap[j]? = (wr.alloc (.cells #[.string t] 9)).heap[j]? := fun j hj => g.block j (Nat.lt_of_lt_of_le hj h1.size) (fun z => by have := (h1.own.tag z.symm).1; omega)
  have rV1 := (nb q hq).trans h1.row
  refine ⟨a2, _, c2, V, _, r2, c1 rV1 rfl, frozen_of_row _ _ _ _ _ rV1, rfl, g.os.trans h1.os, g.tape.trans h1.tape, g.output.trans h1.output, ?_, fun j hj hn => (heap_setCell_other _ _ _ _ hn).trans ((nb j hj).trans (h1.blk j hj hn)), heap_setCell_same _ _ _ _ _ _ rV1, ?_⟩
  · have := g.size; have := h1.size; simp; omega
  · have pe := p2.1
    rw [List.map_append]
    exact pe.keep fun g hg => by
      have := (pe.tag hg).1
      exact heap_setCell_other _ _ _ _ (by show g ≠ q; omega)
set_option maxRecDepth 100000 in
set_option maxHeartbeats 6400000 in
theorem right18 (W : World) (C : Array Value) (q : Nat) (o n s : Value) (us : List Value) (R : Rcp) (tx : S) (aa : Option Addr) (la ca : Nat) (asl : List S) (kk : Option Addr) (lk ck : Nat) (ks : List S) (hC : C[7]? = some (.string tx)) (hC6 : C[6]? = some (.slice kk lk ck)) (hC5 : C[5]? = some (.slice aa la ca)) (hk : Ls W (.slice kk lk ck) 1 (ks.map sR)) (hkl : ks.length = lk) (ha : Ls W (.slice aa la ca) 1 (asl.map sR)) (hal : asl.length = la) (X : World) (h : Rt W C q o n s (.slice none 0 0) (.slice none 0 0) us R X) (hb : Bn R) (he : R.e = []) {v0 v4 v5 v6 v7 v8 v9 v10 v11 v12 v13 v14 v15 v16 v17 v18 v19 v20 v21 v22 v23 v24 v25 v26 v27 v28 v29 v30 v31 v32 v33 v34 v35 v36 v37 v38 v39 v40 v41 v42 v43 v44 v45 v46 v47 v48 v49 v50 v51 v52 v53 v54 v55 v56 v57 v58 v59 v60 v61 v62 v63 v64 v65 v66 v67 v68 v69 v70 v71 v72 v73 v74 v75 v76 v77 v78 v79 v80 v81 v82 v83 v84 v85 v86 v87 v88 v89 v90 v91 v92 v93 v94 v95 v96 v97 v98 v99 v100 v101 v102 v103 v104 v105 v106 v107 v108 v109 v110 v111 v112 v113 v114 v115 v116 v117 v118 v119 v120 v121 v122 v123 v124 v125 v126 v127 v128 v129 v130 v131 v132 v133 v134 v135 v136 v137 v138 v139 v140 v141 v142 v143 v144 v145 v146 v147 v148 v149 v150 v151 v152 v153 v154 v155 v156 v157 v158 v159 v160 v161 v162 v163 v164 v165 v166 v167 v168 v169 v170 v171 v172 v173 v174 v175 v176 v177 v178 v179 v180 v181 v182 v183 v184 v185 v186 v187 v188 v189 v190 v191 v192 v193 v194 v195 v196 v197 v198 v199 v200 v201 v202 v203 v204 : Value} :
    Code.wp Tryd.prog (tlF Tryd.f5 18) (bodyPost Tryd.prog Tryd.f5 (RiP W)) ⟨#[v0, .pointer (some ⟨W.heap.size, 0, none⟩), .pointer (some ⟨W.heap.size + 1, 0, none⟩), .pointer (some ⟨q, 0, none⟩), v4, v5, v6, v7, v8, v9, v10, v11, v12, v13, v14, v15, v16, v17, v18, v19, v20, v21, v22, v23, v24, v25, v26, v27, v28, v29, v30, v31, v32, v33, v34, v35, v36, v37, v38, v39, v40, v41, v42, v43, v44, v45, v46, v47, v48, v49, v50, v51, v52, v53, v54, v55, v56, v57, v58, v59, v60, v61, v62, v63, v64, v65, v66, v67, v68, v69, v70, v71, v72, v73, v74, v75, v76, v77, v78, v79, v80, v81, v82, v83, v84, v85, v86, v87, v88, v89, v90, v91, v92, v93, v94, v95, v96, v97, v98, v99, v100, v101, v102, v103, v104, v105, v106, v107, v108, v109, v110, v111, v112, v113, v114, v115, v116, v117, v118, v119, v120, v121, v122, v123, v124, v125, v126, v127, v128, v129, v130, v131, v132, v133, v134, v135, v136, v137, v138, v139, v140, v141, v142, v143, v144, v145, v146, v147, v148, v149, v150, v151, v152, v153, v154, v155, v156, v157, v158, v159, v160, v161, v162, v163, v164, v165, v166, v167, v168, v169, v170, v171, v172, v173, v174, v175, v176, v177, v178, v179, v180, v181, v182, v183, v184, v185, v186, v187, v188, v189, v190, v191, v192, v193, v194, v195, v196, v197, v198, v199, v200, v201, v202, v203, v204], []⟩ X := by
  have HH : Hid (Rt W C q o n s (.slice none 0 0) (.slice none 0 0) us R X ∧ Bn R ∧ R.e = [] ∧ C[7]? = some (.string tx) ∧ C[6]? = some (.slice kk lk ck) ∧ C[5]? = some (.slice aa la ca)) := ⟨h, hb, he, hC, hC6, hC5⟩
  have HK : Hid (Ls W (.slice kk lk ck) 1 (ks.map sR) ∧ ks.length = lk ∧ Ls W (.slice aa la ca) 1 (asl.map sR) ∧ asl.length = la) := ⟨hk, hkl, ha, hal⟩
  have HQ : Hid (q < X.heap.size) := (Array.getElem?_eq_some_iff.1 h.row).1
  have HA0 : Hid (Ar X q o n s (.slice none 0 0) R.sys R.bld (.slice none 0 0) [] X) := ⟨rfl, rfl, rfl, Nat.le_refl _, fun _ _ _ => rfl, h.row, ol_nil _ _ _ _⟩
  clear h hb he hC hC6 hC5 hk hkl ha hal
  conv => arg 2; whnf
  go_wp2_with fail
  go_loopw [9] (fun iv wr => ∃ (i : Nat), iv = .int .i64 (i : Int) ∧ Hid (∃ a' n' c' A, i ≤ 40 ∧ i ≤ la ∧ A.length ≤ i ∧ (∀ x ∈ A, x.size ≤ 300) ∧ Ar X q o n s (.slice none 0 0) R.sys R.bld (.slice a' n' c') A wr)) (fun iv _ => la + 1 - (intOf iv).toNat)
  case atStart => exact ⟨0, rfl, none, 0, 0, [], Nat.zero_le _, Nat.zero_le _, Nat.zero_le _, (fun x hx => by cases hx), HA0.out⟩
  case round =>
    obtain ⟨i, rfl, HI⟩ := hrel
    obtain ⟨a1, n1, c1', A, h40, hla, hAi, hAs, ar⟩ := HI.out
    have rt := ar.rt HH.out.1
    have k5 : wr.cell? ⟨W.heap.size, 5, none⟩ = some (.slice aa la ca) := rt.cb HH.out.2.2.2.2.2
    by_cases hi : i < la ∧ i < 40
    · have hi1 : (i : Int) < (la : Int) := by omega
      have hi40 : (i : Int) < 40 := by omega
      have hi0 : (0 : Int) ≤ (i : Int) := by omega
      obtain ⟨x, hx⟩ : ∃ x, asl[i]? = some x := ⟨_, List.getElem?_eq_getElem (by have := HK.out.2.2.2; omega)⟩
      obtain ⟨gx, ox, rfl, hcx⟩ := HK.out.2.2.1.txt hx
      have bd : Below wr.heap.size wr wr.drew := ⟨rfl, rfl, rfl, Nat.le_refl _, fun _ _ => rfl⟩
      have cx : wr.drew.cell? ⟨gx, ox + i, none⟩ = some (.string x) := hcx _ (rt.below bd).bel
      have k5d : wr.drew.cell? ⟨W.heap.size, 5, none⟩ = some (.slice (some ⟨gx, ox, none⟩) la ca) := k5
      have q5 : wr.drew.cell? ⟨q, 5, none⟩ = some (.slice a1 n1 c1') := (rt.below bd).cr rfl
      have wi : IntKind.i64.wrap ((i : Int) + 1) = (i : Int) + 1 := by rw [IntKind.wrap_i64]; omega
      have CC : Hid (∀ w, Calls Tryd.prog 11 #[.string x] w (TxP 200 w)) := fun w => cut_any x w
      have HA : Hid (∀ (Y : World) (t : S) (m : Nat), t.size ≤ 200 → Y = wr.drew.drewN m → Y.cell? ⟨q, 5, none⟩ = some (.slice a1 n1 c1') ∧ (∀ O, (Y.alloc O).cell? ⟨q, 5, none⟩ = some (.slice a1 n1 c1')) ∧ ∃ a' n' c' V Z, Hid ((Builtin.append_ #[22, 22] 22 #[.slice a1 n1 c1', .slice (some ⟨Y.heap.size, 0, none⟩) 1 1]).run Tryd.prog (Y.alloc (.cells #[.string t] 9)) = .ok (.slice a' n' c') V) ∧ V.cell? ⟨q, 5, none⟩ = some (.slice a1 n1 c1') ∧ V.frozen? ⟨q, 5, none⟩ = false ∧ V.setCell ⟨q, 5, none⟩ (.slice a' n' c') = Z ∧ Hid (∃ a' n' c' A, i + 1 ≤ 40 ∧ i + 1 ≤ la ∧ A.length ≤ i + 1 ∧ (∀ x ∈ A, x.size ≤ 300) ∧ Ar X q o n s (.slice none 0 0) R.sys R.bld (.slice a' n' c') A Z)) := by
        intro Y t m ht hm
        have bY : Below wr.heap.size wr Y := by rw [hm]; exact bd.trans (bel_dn wr.drew m)
        have aY := ar.below bY
        have rY := rt.below bY
        obtain ⟨a', n', c', V, Z, r1, r2, r3, r4, r5⟩ := aY.add HQ.out (by omega) t
        refine ⟨rY.cr rfl, fun O => (rY.below ((Below.refl _ Y).alloc (Nat.le_refl _) O)).cr rfl, a', n', c', V, Z, r1, r2, r3, r4, a', n', c', A ++ [t], by omega, by omega, by simp; omega, fun z hz => ?_, r5⟩
        rcases List.mem_append.1 hz with w1 | w1
        · exact hAs z w1
        · rw [List.mem_singleton.1 w1]; omega
      have HX : Hid (i < la ∧ i < 40) := hi
      clear hi hx hcx rt ar HI hAi hAs h40 hla bd
      go_wp2_with fail
      go_region_law (first
        | (refine step_cut rfl 112 rfl (.string x) (by simp [Act.eval]) ?_; refine Calls.mono (CC.out wr.drew) ?_; rintro en Y ⟨t, rfl, ht, m, hm⟩; obtain ⟨y1, y2, a', n', c', V, Z, HR, z1, z2, z3, HZ⟩ := HA.out Y t m ht hm; clear ht hm; refine ⟨_, rfl, ?_⟩)
        | (refine step_ap rfl (.tmp 107) (.tmp 114) 22 rfl rfl _ _ _ _ (by simp [Act.eval]) (by simp [Act.eval]) HR.out ?_))
      all_goals go_wp2_with fail
      all_goals first
        | exact ⟨⟨i + 1, by go_num, HZ.out⟩, by have := HX.out; simp [intOf]; omega⟩
        | trace_state
    · have HT : Hid (Rt W C q o n s (.slice a1 n1 c1') (.slice none 0 0) us { R with a := A } wr ∧ Sepa s (.slice a1 n1 c1') us ∧ Bn { R with a := A }) := ⟨rt, ar.sepa HH.out.1, ⟨HH.out.2.1.o, HH.out.2.1.n, HH.out.2.1.i, HH.out.2.1.s, by show A.length ≤ 40; omega, HH.out.2.1.e, HH.out.2.1.ol, hAs, HH.out.2.1.el⟩⟩
      clear HI rt ar hAi hAs h40 hla
      by_cases hi1 : (i : Int) < (la : Int)
      · have hi40 : ¬ ((i : Int) < 40) := by omega
        clear hi
        go_upto_region 22 with fail
        rename_i K2 h2
        have HK2 : Hid (∀ q w, Code.wp Tryd.prog (tlF Tryd.f5 23) (bodyPost Tryd.prog Tryd.f5 (RiP W)) q w → K2 q w) := h2
        clear h2
        go_wp2_with fail
        exact HK2.out _ _ (right23 W C q o n s _ us { R with a := A } tx kk lk ck ks HH.out.2.2.2.1 HH.out.2.2.2.2.1 HK.out.1 HK.out.2.1 wr HT.out.1 HT.out.2.2 HH.out.2.2.1 HT.out.2.1)
      · clear hi
        go_upto_region 22 with fail
        rename_i K2 h2
        have HK2 : Hid (∀ q w, Code.wp Tryd.prog (tlF Tryd.f5 23) (bodyPost Tryd.prog Tryd.f5 (RiP W)) q w → K2 q w) := h2
        clear h2
        go_wp2_with fail
        exact HK2.out _ _ (right23 W C q o n s _ us { R with a := A } tx kk lk ck ks HH.out.2.2.2.1 HH.out.2.2.2.2.1 HK.out.1 HK.out.2.1 wr HT.out.1 HT.out.2.2 HH.out.2.2.1 HT.out.2.1)
end Go.Proofs.YtceclpabdfncoaaDoor.Re
