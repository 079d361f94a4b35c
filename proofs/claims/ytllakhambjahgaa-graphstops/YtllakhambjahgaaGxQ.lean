/- GraphStops: the law, from its roots on. -/
import Derived.Test.YtllakhambjahgaaGxP
namespace Go.Proofs.Ytllakhambjahgaa
open Go.RowKit GM Gx
theorem run_store_fn {P : Program} {w : World} {a : Addr} {m : Mode} (f : Fn) (fi ca : Array Value) : (store a (.func f fi ca) m).run P w = stored P w a (.func f fi ca) m := run_store P w a _ m rfl
theorem eqFn (d : Nat) (w : World) (f : Nat) (fi ca : Array Value) : (Op.equalIn (d + 1) 28 (.func (.func f) fi ca) .nilFunc).run Try.prog w = .ok false w := by
  simp only [Op.equalIn, Sem.run_bind, run_underlying Try.underlying28, Result.andThen_ok, Sem.run_pure]
theorem eqlFn (w : World) (f : Nat) (fi ca : Array Value) : (binOp .eql 28 (.func (.func f) fi ca) .nilFunc).run Try.prog w = .ok (.bool false) w := by
  show ((do pure (.bool (← Op.equal 28 (.func (.func f) fi ca) .nilFunc)) : Sem Value)).run Try.prog w = _
  rw [Sem.run_bind, show (Op.equal 28 (.func (.func f) fi ca) .nilFunc).run Try.prog w = _ from eqFn 9999 w f fi ca]
  rfl
/-- What lies while the roots are gathered. -/
structure Gv (W : World) (kS kR kg N m g0 off : Nat) (E : List (Nat × Nat)) (u : Value) (R : Nat → Int) (st : Int) (X : World) : Prop where
  bel : Below W.heap.size W X
  s : X.heap[kS]? = some (.cells #[.int .i64 st] 3 (0, 0))
  r : X.heap[kR]? = some (.cells #[.bool false] 4 (0, 0))
  gr : X.heap[kg]? = some (.cells #[.int .i64 (N : Int), u] 25 (0, 0))
  el : El u (zE E) X
  rt : ∀ j, j < m → X.cell? ⟨g0, off + j, none⟩ = some (.int .i64 (R j))
  g0 : g0 < X.heap.size
  hS0 : W.heap.size ≤ kS
  hR0 : W.heap.size ≤ kR
  ne : kS ≠ kR
section
variable {W X X1 : World} {kS kR kg N m g0 off : Nat} {E : List (Nat × Nat)} {u : Value} {R : Nat → Int} {st : Int}
theorem Gv.below (h : Gv W kS kR kg N m g0 off E u R st X) (hb : Below X.heap.size X X1) : Gv W kS kR kg N m g0 off E u R st X1 :=
  ⟨h.bel.trans (hb.mono h.bel.size), (hb.block _ (Array.getElem?_eq_some_iff.1 h.s).1).trans h.s, (hb.block _ (Array.getElem?_eq_some_iff.1 h.r).1).trans h.r, (hb.block _ (Array.getElem?_eq_some_iff.1 h.gr).1).trans h.gr, h.el.below hb, fun j hj => (World.cell?_of_block (w := X) (a := ⟨g0, off + j, none⟩) (hb.block g0 h.g0)).trans (h.rt j hj), Nat.lt_of_lt_of_le h.g0 hb.size, h.hS0, h.hR0, h.ne⟩
end
theorem wrapS (i : Nat) (h : i < 1000) : wrap64 ((i : Int) + 1) = ((i + 1 : Nat) : Int) := by unfold wrap64; omega
theorem lt20 {i : Nat} (h : i < 20) : (i : Int) < 20 := by omega
theorem nlt20 {i : Nat} (h : ¬ i < 20) : ¬ (i : Int) < 20 := by omega
theorem meas20 (i : Nat) (h : i < 20) : 21 - (i + 1) < 21 - i := by omega
attribute [local go_sem ↓] eqlFn toApI
attribute [local go_sem] run_store_fn Oper.semAt_some
set_option maxRecDepth 100000 in
set_option maxHeartbeats 6400000 in
/-- From region 9 on. -/
theorem gs9 (W X : World) {kS kR kg N m g0 off n cS B : Nat} {E : List (Nat × Nat)} {u : Value} {R : Nat → Int} {st : Int} {S : List Nat} {oS : Option Addr} (hv : Gv W kS kR kg N m g0 off E u R st X) (hN : N ≤ 60) (hE : ∀ e ∈ E, e.1 < N ∧ e.2 < N) (hEl : E.length ≤ 400)
    (hS : ∀ x ∈ S, x < N) (hSl : S.length = n) (hn : n ≤ 20) (hn1 : 0 < n) (ho : X.ownsRow B 3 1 (.slice oS n cS) n (ik S).toList) {v0 v1 v2 v3 v4 v5 v6 v11 v12 v13 v14 v15 v16 v17 v18 v19 v20 v21 v22 v23 v24 v25 v26 v27 v28 v29 v30 v31 v32 v33 v34 v35 v36 v37 v38 v39 v40 v41 v42 v43 v44 v45 v46 v47 v48 v49 v50 v51 v52 v53 v54 v55 v56 v57 v58 v59 v60 v61 v62 v63 v64 v65 v66 v67 v68 v69 v70 v71 v72 v73 v74 v75 v76 v77 v78 v79 v80 v81 v82 v83 v84 v85 v86 v87 v88 v89 v90 v91 v92 v93 v94 v95 v96 v97 v98 v99 v100 v101 v102 v103 v104 v105 v106 v107 v108 v109 v110 v111 v112 v113 v114 v115 v116 v117 v118 v119 v120 v121 v122 v123 v124 v125 v126 v127 v128 v129 v130 v131 v132 v133 v134 v135 v136 : Value} :
    Code.wp Try.prog (tlF Try.f3 9) (bodyPostM Fence.wide 9 Try.prog Try.f3 (fun e w' => e = .returned (.bool true) ∧ Below W.heap.size W w')) ⟨#[v0, v1, v2, v3, v4, v5, v6, .pointer (some ⟨kS, 0, none⟩), .pointer (some ⟨kR, 0, none⟩), .pointer (some ⟨kg, 0, none⟩), .slice oS n cS, v11, v12, v13, v14, v15, v16, v17, v18, v19, v20, v21, v22, v23, v24, v25, v26, v27, v28, v29, v30, v31, v32, v33, v34, v35, v36, v37, v38, v39, v40, v41, v42, v43, v44, v45, v46, v47, v48, v49, v50, v51, v52, v53, v54, v55, v56, v57, v58, v59, v60, v61, v62, v63, v64, v65, v66, v67, v68, v69, v70, v71, v72, v73, v74, v75, v76, v77, v78, v79, v80, v81, v82, v83, v84, v85, v86, v87, v88, v89, v90, v91, v92, v93, v94, v95, v96, v97, v98, v99, v100, v101, v102, v103, v104, v105, v106, v107, v108, v109, v110, v111, v112, v113, v114, v115, v116, v117, v118, v119, v120, v121, v122, v123, v124, v125, v126, v127, v128, v129, v130, v131, v132, v133, v134, v135, v136], []⟩ X := by
  obtain ⟨g1, hi, -⟩ := own_il ho
  have C := each_any N (by omega) E hE (by omega) u X hv.el (chk_zero hE (by omega) (by omega)) hi hS (by omega) (by omega)
  obtain ⟨K, hq⟩ := gq_of (E := E) hN hS (by omega : S.length ≤ 20) (by omega)
  have l0 : X.cell? ⟨kg, 0, none⟩ = some (.int .i64 (N : Int)) := (cell_of_row _ _ _ _ _ _ hv.gr).trans rfl
  have l1 : X.cell? ⟨kg, 1, none⟩ = some u := (cell_of_row _ _ _ _ _ _ hv.gr).trans rfl
  unfold grV at C
  have HV := mkHid (And.intro hv hq)
  replace C := mkHid C
  clear hv hN hE hEl hS hSl hn hn1 ho hi hq
  conv => arg 2; whnf
  go_wp2_with fail
  refine Calls.mono C.out ?_
  rintro e w2 ⟨a, b, g, gs, gv, V, sv, rfl, b2, heas⟩
  clear C l0 l1
  have hvb := HV.out.1.below b2
  have HB := mkHid (And.intro hvb (And.intro heas b2))
  clear hvb heas b2
  go_upto_region 10 with fail
  rename_i K1 hk1 K2 hk2
  have HK1 := mkHid hk1
  clear hk1
  go_wp2_with fail
  obtain ⟨kE, hkE⟩ : ∃ k, w2.heap.size = k := ⟨_, rfl⟩
  obtain ⟨Y, hY⟩ : ∃ Y, w2.alloc (.cells #[.func (.func 11) #[] #[.pointer (some ⟨a, 0, none⟩), .pointer (some ⟨b, 0, none⟩)]] 28) = Y := ⟨_, rfl⟩
  have bY : Below w2.heap.size w2 Y := by rw [← hY]; exact (Below.refl _ w2).alloc (Nat.le_refl _) _
  have rY : Y.heap[kE]? = some (.cells #[.func (.func 11) #[] #[.pointer (some ⟨a, 0, none⟩), .pointer (some ⟨b, 0, none⟩)]] 28 (0, 0)) := by rw [← hY, ← hkE]; exact heap_alloc_new _ _
  rw [hY, hkE]
  obtain ⟨hv2, heas, b2⟩ := HB.out
  have hvY := hv2.below bY
  have lS := (Array.getElem?_eq_some_iff.1 HV.out.1.s).1
  have hw : Gw W X.heap.size w2.heap.size kS kR kE a b g N gs K gv (ndF N E) V sv S st Y := ⟨hvY.bel, hvY.s, hvY.r, rY, heas.keep bY.size (fun k hk => bY.block k hk.2), bY.size, hvY.hS0, hvY.hR0, hvY.ne, lS⟩
  exact HK1.out _ _ (gsJ W Y hw HV.out.2)
set_option maxRecDepth 100000 in
set_option maxHeartbeats 6400000 in
/-- From region 4 on. -/
theorem gs4 (W X : World) {kS kR kg N m g0 off cap : Nat} {E : List (Nat × Nat)} {u : Value} {R : Nat → Int} {st : Int} (hv : Gv W kS kR kg N m g0 off E u R st X) (hm : 0 < m) (hN : N ≤ 60) (hN1 : 1 ≤ N) (hE : ∀ e ∈ E, e.1 < N ∧ e.2 < N) (hEl : E.length ≤ 400) {v0 v1 v3 v4 v5 v6 v10 v11 v12 v13 v14 v15 v16 v17 v18 v19 v20 v21 v22 v23 v24 v25 v26 v27 v28 v29 v30 v31 v32 v33 v34 v35 v36 v37 v38 v39 v40 v41 v42 v43 v44 v45 v46 v47 v48 v49 v50 v51 v52 v53 v54 v55 v56 v57 v58 v59 v60 v61 v62 v63 v64 v65 v66 v67 v68 v69 v70 v71 v72 v73 v74 v75 v76 v77 v78 v79 v80 v81 v82 v83 v84 v85 v86 v87 v88 v89 v90 v91 v92 v93 v94 v95 v96 v97 v98 v99 v100 v101 v102 v103 v104 v105 v106 v107 v108 v109 v110 v111 v112 v113 v114 v115 v116 v117 v118 v119 v120 v121 v122 v123 v124 v125 v126 v127 v128 v129 v130 v131 v132 v133 v134 v135 v136 : Value} :
    Code.wp Try.prog (tlF Try.f3 4) (bodyPostM Fence.wide 9 Try.prog Try.f3 (fun e w' => e = .returned (.bool true) ∧ Below W.heap.size W w')) ⟨#[v0, v1, .slice (some ⟨g0, off, none⟩) m cap, v3, v4, v5, v6, .pointer (some ⟨kS, 0, none⟩), .pointer (some ⟨kR, 0, none⟩), .pointer (some ⟨kg, 0, none⟩), v10, v11, v12, v13, v14, v15, v16, v17, v18, v19, v20, v21, v22, v23, v24, v25, v26, v27, v28, v29, v30, v31, v32, v33, v34, v35, v36, v37, v38, v39, v40, v41, v42, v43, v44, v45, v46, v47, v48, v49, v50, v51, v52, v53, v54, v55, v56, v57, v58, v59, v60, v61, v62, v63, v64, v65, v66, v67, v68, v69, v70, v71, v72, v73, v74, v75, v76, v77, v78, v79, v80, v81, v82, v83, v84, v85, v86, v87, v88, v89, v90, v91, v92, v93, v94, v95, v96, v97, v98, v99, v100, v101, v102, v103, v104, v105, v106, v107, v108, v109, v110, v111, v112, v113, v114, v115, v116, v117, v118, v119, v120, v121, v122, v123, v124, v125, v126, v127, v128, v129, v130, v131, v132, v133, v134, v135, v136], []⟩ X := by
  have HV := mkHid (And.intro hv (And.intro hm (And.intro hN (And.intro hN1 (And.intro hE hEl)))))
  clear hv hm hN hN1 hE hEl
  conv => arg 2; whnf
  go_wp2_with fail
  rename_i K1 hk1
  have HK1 := mkHid hk1
  clear hk1
  go_loopw [10, 11] (fun sv iv wr => ∃ (i c : Nat) (S : List Nat) (o : Option Addr), sv = .slice o i c ∧ iv = .int .i64 (i : Int) ∧ i ≤ 20 ∧ i ≤ m ∧ Hid (Gv W kS kR kg N m g0 off E u R st wr ∧ S.length = i ∧ (∀ x ∈ S, x < N) ∧ wr.ownsRow X.heap.size 3 1 (.slice o i c) i (ik S).toList ∧ Below X.heap.size X wr)) (fun _ iv _ => 21 - (intOf iv).toNat)
  case atStart => exact ⟨0, 0, [], none, rfl, rfl, by omega, Nat.zero_le _, HV.out.1, rfl, (fun x hx => by cases hx), World.ownsRow_nil _ _ _ _, Below.refl _ _⟩
  case round =>
    obtain ⟨i, c, S, o, rfl, rfl, h20, him, HI⟩ := hrel
    by_cases h1 : i < m
    · have i0 := geI i
      have i1 := ltI h1
      by_cases h2 : i < 20
      · have i2 := lt20 h2
        obtain ⟨hv, hSl, hS, ho, hX⟩ := HI.out
        have z1 := hv.rt i h1
        obtain ⟨a, ha⟩ : ∃ a, R i = a := ⟨_, rfl⟩
        rw [ha] at z1
        obtain ⟨ra, ea, la⟩ := and_ex65535 a
        have qa := tmod_n ra N la
        obtain ⟨x, hx⟩ : ∃ x, ra % N = x := ⟨_, rfl⟩
        rw [hx] at qa
        have qa2 : (ra : Int) % (N : Int) = (x : Int) := by rw [← hx]; simp
        have nz : ¬ ((N : Int) = 0) := by have := HV.out.2.2.2.1; omega
        have hxN : x < N := by rw [← hx]; exact Nat.mod_lt _ HV.out.2.2.2.1
        have l0 : wr.cell? ⟨kg, 0, none⟩ = some (.int .i64 (N : Int)) := (cell_of_row _ _ _ _ _ _ hv.gr).trans rfl
        have sg := (Array.getElem?_eq_some_iff.1 hv.gr).1
        have old : ∀ q k, q < wr.heap.size → (wr.alloc (.cells #[.int .i64 (x : Int)] 3)).cell? ⟨q, k, none⟩ = wr.cell? ⟨q, k, none⟩ := fun q k hq => World.cell?_of_block (w := wr) (heap_alloc_old wr _ (h := hq))
        have z1a := (old g0 (off + i) hv.g0).trans z1
        have l0a := (old kg 0 sg).trans l0
        obtain ⟨v', w2, r1, r2, r3, r4⟩ := run_apI wr.drew X.heap.size i 23 (.slice o i c) S x (own_keep2 ho fun _ _ => rfl) (by omega) hX.size
        obtain ⟨o', c', rfl⟩ := own_size r2
        have r1' : (apI 23 #[.slice o i c, .slice (some ⟨wr.heap.size, 0, none⟩) 1 1]).run Try.prog (wr.alloc (.cells #[.int .i64 (x : Int)] 3)).drew = .ok (.slice o' (i + 1) c') w2 := r1
        have bA : Below X.heap.size X (wr.drew.alloc (.cells #[.int .i64 (x : Int)] 3)) := (hX.trans ⟨rfl, rfl, rfl, Nat.le_refl _, fun _ _ => rfl⟩ : Below X.heap.size X wr.drew).alloc hX.size _
        have b2 : Below X.heap.size X w2 := below_grown bA r3 (Nat.le_trans hX.size (by simp)) fun k hk => (ho.lt k hk).1
        have HN : Hid (Gv W kS kR kg N m g0 off E u R st w2 ∧ (S ++ [x]).length = i + 1 ∧ (∀ y ∈ S ++ [x], y < N) ∧ w2.ownsRow X.heap.size 3 1 (.slice o' (i + 1) c') (i + 1) (ik (S ++ [x])).toList ∧ Below X.heap.size X w2) := by
          refine ⟨HV.out.1.below b2, by simp [hSl], fun y hy => ?_, r2, b2⟩
          rcases List.mem_append.1 hy with q | q
          · exact hS y q
          · rw [List.mem_singleton.1 q]
            exact hxN
        have wi := wrapS i (by omega)
        have HM := mkHid (And.intro h1 (And.intro h2 him))
        clear hv hSl hS ho hX ha la hx hxN sg old r1 r2 r3 r4 bA b2 h1 h2 h20 him HI
        go_wp2_with fail
        go_region
        go_wp2_with fail
        go_roundw
        case rel => exact ⟨i + 1, c', S ++ [x], o', rfl, by go_num, HM.out.2.1, HM.out.1, HN⟩
        case measure =>
          first
            | exact meas20 i HM.out.2.1
            | (rw [wi]; exact meas20 i HM.out.2.1)
      · have i2 := nlt20 h2
        have h3 : 0 < i := by omega
        clear h2 h1
        go_wp2_with fail
        obtain ⟨hv, hSl, hS, ho, hX⟩ := HI.out
        exact HK1.out _ _ (gs9 W wr hv HV.out.2.2.1 HV.out.2.2.2.2.1 HV.out.2.2.2.2.2 hS hSl h20 h3 ho)
    · have i1 := nltI h1
      have h3 : 0 < i := by have := HV.out.2.1; omega
      clear h1
      go_wp2_with fail
      obtain ⟨hv, hSl, hS, ho, hX⟩ := HI.out
      exact HK1.out _ _ (gs9 W wr hv HV.out.2.2.1 HV.out.2.2.2.2.1 HV.out.2.2.2.2.2 hS hSl h20 h3 ho)
end Go.Proofs.Ytllakhambjahgaa
