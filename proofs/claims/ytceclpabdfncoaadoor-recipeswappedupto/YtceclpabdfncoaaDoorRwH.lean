/- The laws' right: the environment. -/
import Derived.Test.YtceclpabdfncoaaDoorRwG
import Derived.Deep.RegionLaw
namespace Go.Proofs.YtceclpabdfncoaaDoor.Re
open Go.RowKit
/-- An append within a region that draws, by what it comes to. -/
theorem step_ap {ops : Array Oper} {o : Oper} {a : Act} {w : World} {K : Act → World → Prop} {Q : Exit → Act → World → Prop} {E : Prop}
    (hg : o.guard = none) (s x : Operand) (t : TypeId) (hop : o.op = Op.call { callee := Callee.builtin Builtin.append, args := #[s, x], argTypes := #[t, t] }) (hty : o.type = t)
    (vs vx v' : Value) (w' : World) (hs : a.eval s = vs) (hx : a.eval x = vx) (hr : (Builtin.append_ #[t, t] t #[vs, vx]).run Tryd.prog w = .ok v' w') (hK : K (a.put o.dst v') w') :
    if Region.wanted o (yielded ops a.tmps) = true then Oper.wp Tryd.prog o a w K Q else E := by
  have hw : Region.wanted o (yielded ops a.tmps) = true := by simp [Region.wanted, hg]
  rw [if_pos hw]
  unfold Oper.wp
  simp [execOp, hop, hty, resolve, invoke, builtin, hs, hx, hr, Result.andThen]
  exact hK
/-- One pair more. -/
theorem Rt.addE {W : World} {C : Array Value} {q : Nat} {o n s a e : Value} {us : List Value} {R : Rcp} {X : World} (h : Rt W C q o n s a e us R X) (p : Pai) (hl : R.e.length < 10000) :
    ∃ a' n' c' V Z, (apP 31 #[e, .slice (some ⟨X.heap.size, 0, none⟩) 1 1]).run Tryd.prog (X.alloc (.cells #[.string p.1, .string p.2] 50)) = .ok (.slice a' n' c') V ∧ V.cell? ⟨q, 6, none⟩ = some e ∧ V.frozen? ⟨q, 6, none⟩ = false ∧ V.setCell ⟨q, 6, none⟩ (.slice a' n' c') = Z ∧ Rt W C q o n s a (.slice a' n' c') us { R with e := R.e ++ [p] } Z ∧ ∀ B M k kv, TL B M k X kv → TL B M k Z kv := by
  have hX : Below X.heap.size X (X.alloc (.cells #[.string p.1, .string p.2] 50)) := (Below.refl _ X).alloc (Nat.le_refl _) _
  have h1 := h.below hX
  obtain ⟨v2, V, r2, p2⟩ := run_apP (X.alloc (.cells #[.string p.1, .string p.2] 50)) W.heap.size e (.slice (some ⟨X.heap.size, 0, none⟩) 1 1) _ [eR p] h1.tw.fe (ls_one X (eR p) 50 2 rfl (by simp [eR, Value.oneCell'])) (by unfold MX; simp; omega) h1.bel.size
  obtain ⟨a2, c2, e2, -⟩ := p2.1.form
  subst e2
  have nq : ∀ {g : Nat} {D : Array Value} {t : Nat}, (X.alloc (.cells #[.string p.1, .string p.2] 50)).heap[g]? = some (.cells D t (0, 0)) → t ≠ 50 → V.heap[g]? = (X.alloc (.cells #[.string p.1, .string p.2] 50)).heap[g]? := fun {g D t} hg ht => p2.2.1.block _ (Array.getElem?_eq_some_iff.1 hg).1 (fun qq => by
    obtain ⟨_, _, cur, hc⟩ := h1.tw.fe.tag qq.symm
    exact tag_ne hc hg (fun z => ht z.symm) rfl)
  have bV : Below W.heap.size W V := p2.bel h1.tw.fe h1.bel (Nat.le_refl _) (Nat.le_refl _)
  have rV1 := (nq h1.row (by decide)).trans h1.row
  have kp : ∀ {B e' sz : Nat} {v : Value} {l : List (Array Value)}, Ol B e' sz (X.alloc (.cells #[.string p.1, .string p.2] 50)) v l → e' ≠ 50 → e' ≠ 33 → Ol B e' sz (V.setCell ⟨q, 6, none⟩ (.slice a2 (R.e.map eR ++ [eR p]).length c2)) v l := fun {B e' sz v l} ho h1' h2' => ho.keep fun g hg => by
    obtain ⟨_, _, cur, hc⟩ := ho.tag hg
    exact (heap_setCell_other _ _ _ _ (by show g ≠ q; exact tag_ne hc h1.row h2')).trans (nq hc h1')
  have hq := h.hq
  have t := h1.tw
  refine ⟨a2, _, c2, V, _, r2, c1 rV1 rfl, frozen_of_row _ _ _ _ _ rV1, rfl, ⟨bV.setCell (by show W.heap.size ≤ q; omega) _, (heap_setCell_other _ _ _ _ (by show W.heap.size ≠ q; omega)).trans ((nq h1.box (by decide)).trans h1.box), (heap_setCell_other _ _ _ _ (by show W.heap.size + 1 ≠ q; omega)).trans ((nq h1.res (by decide)).trans h1.res), heap_setCell_same _ _ _ _ _ _ rV1, hq, ⟨kp t.fo (by decide) (by decide), kp t.fn (by decide) (by decide), kp t.fs (by decide) (by decide), kp t.fa (by decide) (by decide), ?_, t.ul, fun i x u z1 z2 => kp (t.each i x u z1 z2) (by decide) (by decide)⟩⟩, fun B M k kv ⟨O, z1, z2⟩ => ⟨O, kp (z1.below hX) (by decide) (by decide), z2⟩⟩
  have pe := p2.1
  rw [List.map_append]
  exact pe.keep fun g hg => by
    obtain ⟨_, _, cur, hc⟩ := pe.tag hg
    exact heap_setCell_other _ _ _ _ (by show g ≠ q; exact tag_ne hc rV1 (by decide))
theorem Rt.ou {W : World} {C : Array Value} {q : Nat} {oo : Option Addr} {no co : Nat} {n s a e : Value} {us : List Value} {R : Rcp} {X : World} (h : Rt W C q (.slice oo no co) n s a e us R X) {j : Nat} (hj : j < no) : ∃ g x, oo = some ⟨g, 0, none⟩ ∧ R.o[j]? = some x ∧ ∀ Y, Below X.heap.size X Y → Y.cell? ⟨g, j * 4, none⟩ = some (.string x.1) ∧ Y.cell? ⟨g, j * 4 + 1, none⟩ = some (.string x.2.1) := by
  obtain ⟨g, rfl⟩ := h.tw.fo.own (by omega)
  obtain ⟨_, _, ee, -⟩ := h.tw.fo.form
  cases ee
  rw [List.length_map] at hj
  obtain ⟨x, hx⟩ : ∃ x, R.o[j]? = some x := ⟨_, List.getElem?_eq_getElem hj⟩
  refine ⟨g, x, rfl, hx, fun Y hY => ?_⟩
  have z1 := (h.tw.fo.below hY).cel j 0 (oR x) (.string x.1) (by rw [List.getElem?_map, hx]; rfl) rfl
  have z2 := (h.tw.fo.below hY).cel j 1 (oR x) (.string x.2.1) (by rw [List.getElem?_map, hx]; rfl) rfl
  exact ⟨z1, z2⟩
/-- Keys and the environment so far. -/
structure En (W : World) (C : Array Value) (q : Nat) (o n s a e : Value) (us : List Value) (R : Rcp) (kv : Value) (B M i : Nat) (wr : World) : Prop where
  rt : Rt W C q o n s a e us R wr
  ks : TL B M 60 wr kv
  bn : Bn { R with e := [] }
  le : R.e.length ≤ i
  el : ∀ p ∈ R.e, p.2.size ≤ 300
theorem En.below {W : World} {C : Array Value} {q : Nat} {o n s a e : Value} {us : List Value} {R : Rcp} {kv : Value} {B M i : Nat} {wr w' : World} (h : En W C q o n s a e us R kv B M i wr) (hb : Below wr.heap.size wr w') : En W C q o n s a e us R kv B M i w' := ⟨h.rt.below hb, h.ks.below hb, h.bn, h.le, h.el⟩
theorem En.add {W : World} {C : Array Value} {q : Nat} {o n s a e : Value} {us : List Value} {R : Rcp} {kv : Value} {B M i : Nat} {wr : World} (h : En W C q o n s a e us R kv B M i wr) (hi : i < 60) (p : Pai) (hp : p.2.size ≤ 300) :
    ∃ a' n' c' V Z, (apP 31 #[e, .slice (some ⟨wr.heap.size, 0, none⟩) 1 1]).run Tryd.prog (wr.alloc (.cells #[.string p.1, .string p.2] 50)) = .ok (.slice a' n' c') V ∧ V.cell? ⟨q, 6, none⟩ = some e ∧ V.frozen? ⟨q, 6, none⟩ = false ∧ V.setCell ⟨q, 6, none⟩ (.slice a' n' c') = Z ∧ Hid (En W C q o n s a (.slice a' n' c') us { R with e := R.e ++ [p] } kv B M (i + 1) Z) := by
  obtain ⟨a', n', c', V, Z, r1, r2, r3, r4, r5, r6⟩ := h.rt.addE p (by have := h.le; omega)
  refine ⟨a', n', c', V, Z, r1, r2, r3, r4, r5, r6 _ _ _ _ h.ks, h.bn, by have := h.le; simp; omega, fun x hx => ?_⟩
  rcases List.mem_append.1 hx with z | z
  · exact h.el x z
  · rw [List.mem_singleton.1 z]; exact hp
section
attribute [local go_sem ↓] toApP
set_option maxRecDepth 100000 in
set_option maxHeartbeats 6400000 in
theorem right32 (W : World) (C : Array Value) (q : Nat) (o n s a : Value) (us : List Value) (R0 : Rcp) (tx : S) (hC : C[7]? = some (.string tx)) (B M : Nat) (X : World) (ka : Option Addr) (kn kc : Nat) (h : En W C q o n s a (.slice none 0 0) us R0 (.slice ka kn kc) B M 0 X) (hs : Sepa s a us) {v0 v4 v5 v6 v7 v8 v9 v11 v12 v13 v14 v15 v16 v17 v18 v19 v20 v21 v22 v23 v24 v25 v26 v27 v28 v29 v30 v31 v32 v33 v34 v35 v36 v37 v38 v39 v40 v41 v42 v43 v44 v45 v46 v47 v48 v49 v50 v51 v52 v53 v54 v55 v56 v57 v58 v59 v60 v61 v62 v63 v64 v65 v66 v67 v68 v69 v70 v71 v72 v73 v74 v75 v76 v77 v78 v79 v80 v81 v82 v83 v84 v85 v86 v87 v88 v89 v90 v91 v92 v93 v94 v95 v96 v97 v98 v99 v100 v101 v102 v103 v104 v105 v106 v107 v108 v109 v110 v111 v112 v113 v114 v115 v116 v117 v118 v119 v120 v121 v122 v123 v124 v125 v126 v127 v128 v129 v130 v131 v132 v133 v134 v135 v136 v137 v138 v139 v140 v141 v142 v143 v144 v145 v146 v147 v148 v149 v150 v151 v152 v153 v154 v155 v156 v157 v158 v159 v160 v161 v162 v163 v164 v165 v166 v167 v168 v169 v170 v171 v172 v173 v174 v175 v176 v177 v178 v179 v180 v181 v182 v183 v184 v185 v186 v187 v188 v189 v190 v191 v192 v193 v194 v195 v196 v197 v198 v199 v200 v201 v202 v203 v204 : Value} :
    Code.wp Tryd.prog (tlF Tryd.f5 32) (bodyPost Tryd.prog Tryd.f5 (RiP W)) ⟨#[v0, .pointer (some ⟨W.heap.size, 0, none⟩), .pointer (some ⟨W.heap.size + 1, 0, none⟩), .pointer (some ⟨q, 0, none⟩), v4, v5, v6, v7, v8, v9, .slice ka kn kc, v11, v12, v13, v14, v15, v16, v17, v18, v19, v20, v21, v22, v23, v24, v25, v26, v27, v28, v29, v30, v31, v32, v33, v34, v35, v36, v37, v38, v39, v40, v41, v42, v43, v44, v45, v46, v47, v48, v49, v50, v51, v52, v53, v54, v55, v56, v57, v58, v59, v60, v61, v62, v63, v64, v65, v66, v67, v68, v69, v70, v71, v72, v73, v74, v75, v76, v77, v78, v79, v80, v81, v82, v83, v84, v85, v86, v87, v88, v89, v90, v91, v92, v93, v94, v95, v96, v97, v98, v99, v100, v101, v102, v103, v104, v105, v106, v107, v108, v109, v110, v111, v112, v113, v114, v115, v116, v117, v118, v119, v120, v121, v122, v123, v124, v125, v126, v127, v128, v129, v130, v131, v132, v133, v134, v135, v136, v137, v138, v139, v140, v141, v142, v143, v144, v145, v146, v147, v148, v149, v150, v151, v152, v153, v154, v155, v156, v157, v158, v159, v160, v161, v162, v163, v164, v165, v166, v167, v168, v169, v170, v171, v172, v173, v174, v175, v176, v177, v178, v179, v180, v181, v182, v183, v184, v185, v186, v187, v188, v189, v190, v191, v192, v193, v194, v195, v196, v197, v198, v199, v200, v201, v202, v203, v204], []⟩ X := by
  obtain ⟨oo, co, rfl, -⟩ := h.rt.tw.fo.form
  obtain ⟨no, hno⟩ : ∃ k, (R0.o.map oR).length = k := ⟨_, rfl⟩
  rw [hno] at h
  have HN : Hid (kn ≤ 60 ∧ no ≤ 10) := ⟨h.ks.le, by have := h.bn.o; rw [List.length_map] at hno; simp at this; omega⟩
  have HH : Hid (En W C q (.slice oo no co) n s a (.slice none 0 0) us R0 (.slice ka kn kc) B M 0 X ∧ Sepa s a us ∧ C[7]? = some (.string tx)) := ⟨h, hs, hC⟩
  clear h hs hno hC
  conv => arg 2; whnf
  go_wp2_with fail
  go_loopw [13, 14, 15] (fun iv _ _ wr => ∃ (i : Nat), iv = .int .i64 (i : Int) ∧ Hid (∃ ea en ec R, i ≤ kn ∧ En W C q (.slice oo no co) n s a (.slice ea en ec) us R (.slice ka kn kc) B M i wr)) (fun iv _ _ _ => kn + 1 - (intOf iv).toNat)
  case atStart => exact ⟨0, rfl, none, 0, 0, R0, Nat.zero_le _, HH.out.1⟩
  case round =>
    obtain ⟨i, rfl, HI⟩ := hrel
    obtain ⟨ea, en, ec, R, hin, st⟩ := HI.out
    by_cases hi : i < kn
    · have hi1 : (i : Int) < (kn : Int) := by omega
      have hi0 : (0 : Int) ≤ (i : Int) := by omega
      have c7 : wr.cell? ⟨W.heap.size, 7, none⟩ = some (.string tx) := st.rt.cb HH.out.2.2
      have wi : IntKind.i64.wrap ((i : Int) + 1) = (i : Int) + 1 := by rw [IntKind.wrap_i64]; have := HN.out; omega
      have HS : Hid (i < kn ∧ En W C q (.slice oo no co) n s a (.slice ea en ec) us R (.slice ka kn kc) B M i wr) := ⟨hi, st⟩
      have CC : Hid (Calls Tryd.prog 11 #[.string tx] wr (TxP 200 wr)) := cut_any tx wr
      clear hi st hin HI
      go_wp2_with fail
      refine CC.out.mono ?_
      rintro e1 W1 ⟨v0, rfl, hv0, m, hm⟩
      have HS1 : Hid (i < kn ∧ En W C q (.slice oo no co) n s a (.slice ea en ec) us R (.slice ka kn kc) B M i W1) := ⟨HS.out.1, by rw [hm]; exact HS.out.2.below (bel_dn wr m)⟩
      have HV0 : Hid (v0.size ≤ 300) := by show _ ≤ _; omega
      clear hm HS hv0
      go_wp2_with fail
      go_loopw [14, 15] (fun vv jv wr' => ∃ (v : S) (j : Nat), vv = .string v ∧ jv = .int .i64 (j : Int) ∧ Hid (j ≤ no ∧ v.size ≤ 300 ∧ En W C q (.slice oo no co) n s a (.slice ea en ec) us R (.slice ka kn kc) B M i wr')) (fun _ jv _ => no + 1 - (intOf jv).toNat)
      case atStart => exact ⟨v0, 0, rfl, rfl, Nat.zero_le _, HV0.out, HS1.out.2⟩
      case round =>
        obtain ⟨v, j, rfl, rfl, HJ⟩ := hrel
        by_cases hj : j < no
        · have hj1 : (j : Int) < (no : Int) := by omega
          have hj0 : (0 : Int) ≤ (j : Int) := by omega
          obtain ⟨go, x, rfl, hx, cx⟩ := HJ.out.2.2.rt.ou hj
          obtain ⟨gk, y, rfl, -, cy⟩ := HJ.out.2.2.ks.get HS1.out.1
          have q0 : ∀ k, (wr.drewN k).cell? ⟨q, 0, none⟩ = some (.slice (some ⟨go, 0, none⟩) no co) := fun k => (HJ.out.2.2.below (bel_dn _ k)).rt.cr rfl
          have q1 : wr.cell? ⟨q, 0, none⟩ = some (.slice (some ⟨go, 0, none⟩) no co) := HJ.out.2.2.rt.cr rfl
          have x0 : ∀ k, (wr.drewN k).cell? ⟨go, j * 4, none⟩ = some (.string x.1) := fun k => (cx _ (bel_dn _ k)).1
          have x1 : ∀ k, (wr.drewN k).cell? ⟨go, j * 4 + 1, none⟩ = some (.string x.2.1) := fun k => (cx _ (bel_dn _ k)).2
          have y0 : ∀ k, (wr.drewN k).cell? ⟨gk, i, none⟩ = some (.string y) := fun k => cy _ (bel_dn _ k)
          have wj : IntKind.i64.wrap ((j : Int) + 1) = (j : Int) + 1 := by rw [IntKind.wrap_i64]; have := HN.out; omega
          have HE : Hid (∀ k, j + 1 ≤ no ∧ v.size ≤ 300 ∧ x.2.1.size ≤ 300 ∧ En W C q (.slice (some ⟨go, 0, none⟩) no co) n s a (.slice ea en ec) us R (.slice (some ⟨gk, 0, none⟩) kn kc) B M i (wr.drewN k)) := fun k => ⟨hj, HJ.out.2.1, HJ.out.2.2.bn.ol x (List.mem_of_getElem? hx), HJ.out.2.2.below (bel_dn _ k)⟩
          clear hj hx cx cy
          go_wp2_with fail
          go_quiet (fail)
          go_wp2_with fail
          all_goals first
            | exact ⟨⟨_, j + 1, rfl, by go_num, (HE.out nq).1, (HE.out nq).2.1, (HE.out nq).2.2.2⟩, by have := (HE.out 0).1; simp [intOf]; omega⟩
            | exact ⟨⟨_, j + 1, rfl, by go_num, (HE.out nq).1, (HE.out nq).2.2.1, (HE.out nq).2.2.2⟩, by have := (HE.out 0).1; simp [intOf]; omega⟩
            | trace_state
        · have hj1 : ¬ ((j : Int) < (no : Int)) := by omega
          obtain ⟨gk, y, rfl, -, cy⟩ := HJ.out.2.2.ks.get HS1.out.1
          have q1 : wr.cell? ⟨q, 0, none⟩ = some (.slice oo no co) := HJ.out.2.2.rt.cr rfl
          have bd : Below wr.heap.size wr wr.drew := ⟨rfl, rfl, rfl, Nat.le_refl _, fun _ _ => rfl⟩
          have hd := HJ.out.2.2.below bd
          have q6 : wr.drew.cell? ⟨q, 6, none⟩ = some (.slice ea en ec) := hd.rt.cr rfl
          have q8 : ∀ O, (wr.alloc O).cell? ⟨q, 6, none⟩ = some (.slice ea en ec) := fun O => (HJ.out.2.2.below ((Below.refl _ wr).alloc (Nat.le_refl _) O)).rt.cr rfl
          have q7 : ∀ O, (wr.drew.alloc O).cell? ⟨q, 6, none⟩ = some (.slice ea en ec) := fun O => (hd.below ((Below.refl _ wr.drew).alloc (Nat.le_refl _) O)).rt.cr rfl
          have y0 : wr.drew.cell? ⟨gk, i, none⟩ = some (.string y) := cy _ bd
          obtain ⟨a', n', c', V, Z, r1, r2, r3, r4, HZ⟩ := hd.add (by have := HS1.out.1; have := HN.out; omega) (y, v) HJ.out.2.1
          have HR : Hid ((Builtin.append_ #[31, 31] 31 #[.slice ea en ec, .slice (some ⟨wr.heap.size, 0, none⟩) 1 1]).run Tryd.prog (wr.alloc (.cells #[.string y, .string v] 50)).drew = .ok (.slice a' n' c') V) := r1
          clear r1
          clear hj cy bd hd
          go_wp2_with fail
          go_region_law (refine step_ap rfl (.tmp 190) (.tmp 197) 31 rfl rfl _ _ _ _ (by simp [Act.eval]) (by simp [Act.eval]) HR.out ?_)
          all_goals go_wp2_with fail
          all_goals first
            | exact ⟨⟨i + 1, by go_num, _, _, _, _, by have := HS1.out.1; omega, HZ.out⟩, by have := HS1.out.1; simp [intOf]; omega⟩
            | trace_state
    · have hi1 : ¬ ((i : Int) < (kn : Int)) := by omega
      have k4 : wr.cell? ⟨q, 4, none⟩ = some (.string R.bld) := st.rt.cr rfl
      have HC2 : Hid (Calls Tryd.prog 11 #[.string R.bld] wr (TxP 200 wr)) := cut_any _ wr
      have HS : Hid (En W C q (.slice oo no co) n s a (.slice ea en ec) us R (.slice ka kn kc) B M i wr) := st
      have HI2 : Hid (i ≤ kn) := hin
      clear hi st HI hin
      go_upto_region 42 with fail
      rename_i K2 h2
      have HK : Hid (∀ q w, Code.wp Tryd.prog (tlF Tryd.f5 43) (bodyPost Tryd.prog Tryd.f5 (RiP W)) q w → K2 q w) := h2
      clear h2
      go_wp2_with fail
      refine HC2.out.mono ?_
      rintro e1 Y ⟨b, rfl, -, m, hm⟩
      have eY : En W C q (.slice oo no co) n s a (.slice ea en ec) us R (.slice ka kn kc) B M i Y := by rw [hm]; exact HS.out.below (bel_dn wr m)
      have kY : Y.cell? ⟨q, 4, none⟩ = some (.string R.bld) := eY.rt.cr rfl
      obtain ⟨fY, rZ⟩ := eY.rt.setB b
      have HF : Hid (Rt W C q (.slice oo no co) n s a (.slice ea en ec) us { R with bld := b } (Y.setCell ⟨q, 4, none⟩ (.string b)) ∧ Bn { R with bld := b }) := ⟨rZ, ⟨eY.bn.o, eY.bn.n, eY.bn.i, eY.bn.s, eY.bn.a, by have := eY.le; have := HN.out; have := HI2.out; show R.e.length ≤ 60; omega, eY.bn.ol, eY.bn.al, eY.el⟩⟩
      clear eY rZ hm
      go_wp2_with fail
      exact HK.out _ _ (right43 W C q _ n s a _ us { R with bld := b } _ HF.out.1 HH.out.2.1 HF.out.2)
end
end Go.Proofs.YtceclpabdfncoaaDoor.Re
