/- The document's own block: the 64 rounds. -/
import Derived.Test.YtmfmmcfdcjhecaaDoorShRb4
namespace Go.Proofs.YtmfmmcfdcjhecaaDoor.Sha
open Go.RowKit
theorem cell_offd {w : World} {g i o : Nat} {v x : Value} (h : w.cell? ⟨g, o, none⟩ = some x) (hne : i ≠ o) : (w.setCell ⟨g, i, none⟩ v).drew.cell? ⟨g, o, none⟩ = some x :=
  (World.cell?_setCell_other w ⟨g, i, none⟩ ⟨g, o, none⟩ v (fun e => hne (congrArg Addr.off e))).trans h
theorem size81 : (Tryd.prog.info? 48).map (·.size) = some 64 := by kernel_rfl
theorem below8 {B g : Nat} {w wr : World} (h : Below B w wr) (hg : B ≤ g) (v0 v1 v2 v3 v4 v5 v6 v7 : Value) : Below B w ((((((((wr.setCell ⟨g, 0, none⟩ v0).setCell ⟨g, 1, none⟩ v1).setCell ⟨g, 2, none⟩ v2).setCell ⟨g, 3, none⟩ v3).setCell ⟨g, 4, none⟩ v4).setCell ⟨g, 5, none⟩ v5).setCell ⟨g, 6, none⟩ v6).setCell ⟨g, 7, none⟩ v7) :=
  Below.setCell (Below.setCell (Below.setCell (Below.setCell (Below.setCell (Below.setCell (Below.setCell (Below.setCell h hg _) hg _) hg _) hg _) hg _) hg _) hg _) hg _
/-- Eight words as a list. -/
def stL (s : St) : List Nat := [s.a, s.b, s.c, s.d, s.e, s.f, s.g, s.h]
theorem stL_stOf (st : List Nat) (h : st.length = 8) : stL (stOf st) = st := by
  match st, h with
  | [_, _, _, _, _, _, _, _], _ => rfl
theorem stL_round (a b c d e f g h y x : Nat) : ws (stL (round ⟨a, b, c, d, e, f, g, h⟩ y x)) = #[.int .u32 ((add (xs ⟨a, b, c, d, e, f, g, h⟩ y x) (ys ⟨a, b, c, d, e, f, g, h⟩) : Nat) : Int), .int .u32 (a : Int), .int .u32 (b : Int), .int .u32 (c : Int), .int .u32 ((add d (xs ⟨a, b, c, d, e, f, g, h⟩ y x) : Nat) : Int), .int .u32 (e : Int), .int .u32 (f : Int), .int .u32 (g : Int)] := rfl
theorem add_comm' (a b : Nat) : add a b = add b a := by unfold add; rw [Nat.add_comm]
theorem sum_join (st : List Nat) (h : st.length = 8) (s : St) : sumL (stL s) st 8 = joinS st s := by
  match st, h with
  | [a0, a1, a2, a3, a4, a5, a6, a7], _ =>
    show [add s.a a0, add s.b a1, add s.c a2, add s.d a3, add s.e a4, add s.f a5, add s.g a6, add s.h a7] = [add a0 s.a, add a1 s.b, add a2 s.c, add a3 s.d, add a4 s.e, add a5 s.f, add a6 s.g, add a7 s.h]
    rw [add_comm' s.a, add_comm' s.b, add_comm' s.c, add_comm' s.d, add_comm' s.e, add_comm' s.f, add_comm' s.g, add_comm' s.h]
theorem tri_int (e i j k : Nat) (le : e < 4294967296) : bits BinOp.xor IntKind.u32 (bits BinOp.xor IntKind.u32 ((ror e i : Nat) : Int) ((ror e j : Nat) : Int)) ((ror e k : Nat) : Int) = ((tri e i j k : Nat) : Int) := by
  rw [u32_xor_nat _ _ (ror_lt _ _ le) (ror_lt _ _ le), u32_xor_nat _ _ (xor_lt (ror_lt _ _ le) (ror_lt _ _ le)) (ror_lt _ _ le)]
  rfl
set_option maxRecDepth 100000 in
set_option maxHeartbeats 1600000 in
theorem tailA (ks sc st : List Nat) (hst : st.length = 8) (hsw : Wrd st) (hksl : ks.length = 64) (hkw : Wrd ks) (hscl : sc.length = 64) (hscw : Wrd sc) (g : Nat) (v0 v1 v2 v4 v8 v9 v10 v11 v12 v13 v14 v15 v16 v17 v18 v19 v20 v21 v22 v23 v24 v25 v26 v27 v28 v29 v30 v31 v32 v33 v34 v35 v36 v37 v38 v39 v40 v41 v42 v43 v44 v45 v46 v47 v48 v49 v50 v51 v52 v53 v54 v55 v56 v57 v58 v59 v60 v61 v62 v63 v64 v65 v66 v67 v68 v69 v70 v71 v72 v73 v74 v75 v76 v77 v78 v79 v80 v81 v82 v83 v84 v85 v86 v87 v88 v89 v90 v91 v92 v93 v94 v95 v96 v97 v98 v99 v100 v101 v102 v103 v104 v105 v106 v107 v108 v109 v110 v111 v112 v113 v114 v115 v116 v117 v118 v119 v120 v121 v122 v123 v124 v125 v126 v127 v128 v129 v130 v131 v132 v133 v134 v135 v136 v137 v138 v139 v140 v141 v142 v143 v144 v145 v146 v147 v148 v149 v150 v151 v152 v153 v154 v155 v156 v157 v158 v159 v160 v161 v162 v163 v164 v165 v166 v167 v168 v169 v170 v171 v172 v173 v174 v175 v176 v177 v178 v179 v180 v181 v182 v183 v184 v185 v186 v187 v188 v189 v190 v191 v192 v193 v194 v195 : Value) (w : World)
    (r0 : Hid (w.heap[g]? = some (.cells (ws st) 45 (0, 0)))) (r1 : Hid (w.heap[g + 1]? = some (.cells (ws ks) 48 (0, 0)))) (r2 : Hid (w.heap[g + 2]? = some (.cells (ws z8) 45 (0, 0)))) (r3 : Hid (w.heap[g + 3]? = some (.cells (ws sc) 48 (0, 0))))
    (R : Ending → World → Prop) (hR : Hid (∀ w', Below g w w' → R (.returned (.agg (ws (joinS st (rounds ks sc (stOf st) 64))))) w')) :
    Code.wp Tryd.prog tail58a (bodyPost Tryd.prog Tryd.f23 R) ⟨#[v0, v1, v2, .pointer (some ⟨g, 0, none⟩), v4, .pointer (some ⟨(g + 1), 0, none⟩), .pointer (some ⟨(g + 2), 0, none⟩), .pointer (some ⟨(g + 3), 0, none⟩), v8, v9, v10, v11, v12, v13, v14, v15, v16, v17, v18, v19, v20, v21, v22, v23, v24, v25, v26, v27, v28, v29, v30, v31, v32, v33, v34, v35, v36, v37, v38, v39, v40, v41, v42, v43, v44, v45, v46, v47, v48, v49, v50, v51, v52, v53, v54, v55, v56, v57, v58, v59, v60, v61, v62, v63, v64, v65, v66, v67, v68, v69, v70, v71, v72, v73, v74, v75, v76, v77, v78, v79, v80, v81, v82, v83, v84, v85, v86, v87, v88, v89, v90, v91, v92, v93, v94, v95, v96, v97, v98, v99, v100, v101, v102, v103, v104, v105, v106, v107, v108, v109, v110, v111, v112, v113, v114, v115, v116, v117, v118, v119, v120, v121, v122, v123, v124, v125, v126, v127, v128, v129, v130, v131, v132, v133, v134, v135, v136, v137, v138, v139, v140, v141, v142, v143, v144, v145, v146, v147, v148, v149, v150, v151, v152, v153, v154, v155, v156, v157, v158, v159, v160, v161, v162, v163, v164, v165, v166, v167, v168, v169, v170, v171, v172, v173, v174, v175, v176, v177, v178, v179, v180, v181, v182, v183, v184, v185, v186, v187, v188, v189, v190, v191, v192, v193, v194, v195], []⟩ w := by
  conv => arg 2; whnf
  have hgs : g + 3 < w.heap.size := (Array.getElem?_eq_some_iff.1 r3.out).1
  go_wp2_with (first | refine wpList_load_row rfl 45 _ rfl _ rfl 45 _ (0, 0) _ (by exact r0.out) Tryd.underlying45 rfl (by rw [size74, ws_size, hst]) ?_ | refine wpList_store_row rfl 45 _ _ rfl _ _ rfl rfl 45 _ (by exact heap_alloc_new _ _) (by rw [size74, ws_size, hst]) (by rw [ws_size, hst]; rfl) (ws_one _) ?_)
  generalize hV : (w.alloc (Obj.cells _ 45)).setRow w.heap.size (ws st) = wv
  have q4 : Hid (wv.heap[w.heap.size]? = some (.cells (ws (stL (rounds ks sc (stOf st) 0))) 45 (0, 0))) := by
    show _ = _
    rw [← hV, rounds, stL_stOf st hst]; exact setRow_heap _ _ _ _ _ _ (heap_alloc_new _ _)
  have qo : Hid (∀ j, j < w.heap.size → wv.heap[j]? = w.heap[j]?) := by
    intro j hj
    rw [← hV]; exact (setRow_other _ _ _ _ (by omega)).trans (heap_alloc_old _ _ (h := hj))
  have bel0 : Below g w wv := by rw [← hV]; exact below_setRow ((Below.refl _ w).alloc (by omega) _) (by omega) _
  clear hV
  obtain ⟨d, hd⟩ : ∃ d, d = w.heap.size := ⟨_, rfl⟩
  rw [← hd] at q4 qo ⊢
  have hgd : g + 3 < d := by omega
  clear hd hgs
  have e0 : Hid (wv.heap[g]? = some (.cells (ws st) 45 (0, 0))) := (qo.out _ (by omega)).trans r0.out
  have e1 : Hid (wv.heap[g + 1]? = some (.cells (ws ks) 48 (0, 0))) := (qo.out _ (by omega)).trans r1.out
  have e2 : Hid (wv.heap[g + 2]? = some (.cells (ws z8) 45 (0, 0))) := (qo.out _ (by omega)).trans r2.out
  have e3 : Hid (wv.heap[g + 3]? = some (.cells (ws sc) 48 (0, 0))) := (qo.out _ (by omega)).trans r3.out
  clear r0 r1 r2 r3 qo
  go_loopw [13] (fun i wr => ∃ (k : Nat) (s : St), k ≤ 64 ∧ i = .int .i64 k ∧ Hid (s = rounds ks sc (stOf st) k) ∧ Hid (wr.heap[d]? = some (.cells (ws (stL s)) 45 (0, 0))) ∧ Hid (∀ j, j ≠ d → wr.heap[j]? = wv.heap[j]?) ∧ Below g w wr) (fun i _ => 64 - (intOf i).toNat)
  case atStart => exact ⟨0, _, by omega, rfl, rfl, q4, fun _ _ => rfl, bel0⟩
  case round =>
    clear q4 bel0
    obtain ⟨k, s, hk, rfl, Hs, HW, HZ, hbl⟩ := hrel
    by_cases hlt64 : k < 64
    · have hok : s.ok := by rw [Hs.out]; exact rounds_ok _ _ _ (stOf_ok st hsw) k
      obtain ⟨sa, sb, sc', sd, se, sf, sg, sh⟩ := s
      obtain ⟨la, lb, lc, ld, le, lf, lg, lh⟩ := hok
      obtain ⟨x, hx⟩ : ∃ x, x = sc.getD k 0 := ⟨_, rfl⟩
      obtain ⟨y, hy⟩ : ∃ x, x = ks.getD k 0 := ⟨_, rfl⟩
      have HB : wr.heap[d]? = some (.cells #[.int .u32 (sa : Int), .int .u32 (sb : Int), .int .u32 (sc' : Int), .int .u32 (sd : Int), .int .u32 (se : Int), .int .u32 (sf : Int), .int .u32 (sg : Int), .int .u32 (sh : Int)] 45 (0, 0)) := HW.out
      have c0 : wr.cell? ⟨d, 0, none⟩ = some (.int .u32 (sa : Int)) := by rw [cell_of_row wr _ _ _ _ _ HB]; rfl
      have c1 : wr.cell? ⟨d, 1, none⟩ = some (.int .u32 (sb : Int)) := by rw [cell_of_row wr _ _ _ _ _ HB]; rfl
      have c2 : wr.cell? ⟨d, 2, none⟩ = some (.int .u32 (sc' : Int)) := by rw [cell_of_row wr _ _ _ _ _ HB]; rfl
      have c3 : wr.cell? ⟨d, 3, none⟩ = some (.int .u32 (sd : Int)) := by rw [cell_of_row wr _ _ _ _ _ HB]; rfl
      have c4 : wr.cell? ⟨d, 4, none⟩ = some (.int .u32 (se : Int)) := by rw [cell_of_row wr _ _ _ _ _ HB]; rfl
      have c5 : wr.cell? ⟨d, 5, none⟩ = some (.int .u32 (sf : Int)) := by rw [cell_of_row wr _ _ _ _ _ HB]; rfl
      have c6 : wr.cell? ⟨d, 6, none⟩ = some (.int .u32 (sg : Int)) := by rw [cell_of_row wr _ _ _ _ _ HB]; rfl
      have c7 : wr.cell? ⟨d, 7, none⟩ = some (.int .u32 (sh : Int)) := by rw [cell_of_row wr _ _ _ _ _ HB]; rfl
      have cx : wr.cell? ⟨g + 3, k, none⟩ = some (.int .u32 (x : Int)) := by rw [cell_of_row wr _ _ _ _ _ ((HZ.out (g + 3) (by omega)).trans e3.out), ws_get _ _ (by omega), hx]
      have cy : wr.cell? ⟨g + 1, k, none⟩ = some (.int .u32 (y : Int)) := by rw [cell_of_row wr _ _ _ _ _ ((HZ.out (g + 1) (by omega)).trans e1.out), ws_get _ _ (by omega), hy]
      have f0 := frozen_of_row wr _ 0 _ _ HB
      have f1 := frozen_of_row wr _ 1 _ _ HB
      have f2 := frozen_of_row wr _ 2 _ _ HB
      have f3 := frozen_of_row wr _ 3 _ _ HB
      have f4 := frozen_of_row wr _ 4 _ _ HB
      have f5 := frozen_of_row wr _ 5 _ _ HB
      have f6 := frozen_of_row wr _ 6 _ _ HB
      have f7 := frozen_of_row wr _ 7 _ _ HB
      have HBB : Hid (wr.heap[d]? = some (.cells #[.int .u32 (sa : Int), .int .u32 (sb : Int), .int .u32 (sc' : Int), .int .u32 (sd : Int), .int .u32 (se : Int), .int .u32 (sf : Int), .int .u32 (sg : Int), .int .u32 (sh : Int)] 45 (0, 0))) := HB
      have lx : x < 4294967296 := by rw [hx]; exact wrd_get hscw _
      have ly : y < 4294967296 := by rw [hy]; exact wrd_get hkw _
      have HX : Hid (x = sc.getD k 0) := hx
      have HY : Hid (y = ks.getD k 0) := hy
      have hk0 : (0 : Int) ≤ (k : Int) := by omega
      have hk1 : (k : Int) < 64 := by omega
      have hn1 : g + 3 ≠ d := by omega
      have hn2 : g + 1 ≠ d := by omega
      simp only at la lb lc ld le lf lg lh
      clear hx hy HB HW
      go_wp2
      go_quiet (first
        | (go_at_call_of 29 (Value.int IntKind.i64 6); exact Calls.quiet_of_same (ror_r se 6 le (by decide) (by decide) _))
        | (go_at_call_of 29 (Value.int IntKind.i64 11); exact Calls.quiet_of_same (ror_r se 11 le (by decide) (by decide) _))
        | (go_at_call_of 29 (Value.int IntKind.i64 25); exact Calls.quiet_of_same (ror_r se 25 le (by decide) (by decide) _)))
      rw [tri_int se 6 11 25 le, xs_int sa sb sc' sd se sf sg sh y x le lf lg]
      have lX : xs ⟨sa, sb, sc', sd, se, sf, sg, sh⟩ y x < 4294967296 := add_lt _ _
      revert lX
      generalize hX2 : xs ⟨sa, sb, sc', sd, se, sf, sg, sh⟩ y x = X'
      intro lX
      have HX2 : Hid (xs ⟨sa, sb, sc', sd, se, sf, sg, sh⟩ y x = X') := hX2
      clear hX2
      obtain ⟨w2, hw2⟩ : ∃ w2, w2 = wr.drewN nq := ⟨_, rfl⟩
      rw [← hw2]
      have c0' : w2.cell? ⟨d, 0, none⟩ = some (.int .u32 (sa : Int)) := by rw [hw2]; exact c0
      have c1' : w2.cell? ⟨d, 1, none⟩ = some (.int .u32 (sb : Int)) := by rw [hw2]; exact c1
      have c2' : w2.cell? ⟨d, 2, none⟩ = some (.int .u32 (sc' : Int)) := by rw [hw2]; exact c2
      have c3' : w2.cell? ⟨d, 3, none⟩ = some (.int .u32 (sd : Int)) := by rw [hw2]; exact c3
      have c4' : w2.cell? ⟨d, 4, none⟩ = some (.int .u32 (se : Int)) := by rw [hw2]; exact c4
      have c5' : w2.cell? ⟨d, 5, none⟩ = some (.int .u32 (sf : Int)) := by rw [hw2]; exact c5
      have c6' : w2.cell? ⟨d, 6, none⟩ = some (.int .u32 (sg : Int)) := by rw [hw2]; exact c6
      have f0' : w2.frozen? ⟨d, 0, none⟩ = false := by rw [hw2]; exact f0
      have f1' : w2.frozen? ⟨d, 1, none⟩ = false := by rw [hw2]; exact f1
      have f2' : w2.frozen? ⟨d, 2, none⟩ = false := by rw [hw2]; exact f2
      have f3' : w2.frozen? ⟨d, 3, none⟩ = false := by rw [hw2]; exact f3
      have f4' : w2.frozen? ⟨d, 4, none⟩ = false := by rw [hw2]; exact f4
      have f5' : w2.frozen? ⟨d, 5, none⟩ = false := by rw [hw2]; exact f5
      have f6' : w2.frozen? ⟨d, 6, none⟩ = false := by rw [hw2]; exact f6
      have f7' : w2.frozen? ⟨d, 7, none⟩ = false := by rw [hw2]; exact f7
      have HBB' : Hid (w2.heap[d]? = some (.cells #[.int .u32 (sa : Int), .int .u32 (sb : Int), .int .u32 (sc' : Int), .int .u32 (sd : Int), .int .u32 (se : Int), .int .u32 (sf : Int), .int .u32 (sg : Int), .int .u32 (sh : Int)] 45 (0, 0))) := by rw [hw2]; exact HBB
      have HZ' : Hid (∀ j, j ≠ d → w2.heap[j]? = wv.heap[j]?) := by rw [hw2]; exact HZ
      have hbl' : Below g w w2 := by rw [hw2]; exact below_drewN hbl nq
      have c7' : w2.cell? ⟨d, 7, none⟩ = some (.int .u32 (sh : Int)) := by rw [hw2]; exact c7
      clear hw2 c0 c1 c2 c3 c4 c5 c6 c7 f0 f1 f2 f3 f4 f5 f6 f7 HBB HZ hbl cx cy
      go_wp2
      go_quiet (first
        | (go_at_call_of 29 (Value.int IntKind.i64 2); exact Calls.quiet_of_same (ror_r sa 2 la (by decide) (by decide) _))
        | (go_at_call_of 29 (Value.int IntKind.i64 13); exact Calls.quiet_of_same (ror_r sa 13 la (by decide) (by decide) _))
        | (go_at_call_of 29 (Value.int IntKind.i64 22); exact Calls.quiet_of_same (ror_r sa 22 la (by decide) (by decide) _)))
      rw [tri_int sa 2 13 22 la, maj_int sa sb sc' la lb lc, add_int]
      generalize hY2 : add (tri sa 2 13 22) (((sa &&& sb) ^^^ (sa &&& sc')) ^^^ (sb &&& sc')) = Y'
      have HY2 : Hid (ys ⟨sa, sb, sc', sd, se, sf, sg, sh⟩ = Y') := hY2
      have lY : Y' < 4294967296 := by rw [← hY2]; exact add_lt _ _
      clear hY2
      go_wp2
      go_roundw
      case rel =>
        rw [add_int, add_int]
        refine ⟨k + 1, round ⟨sa, sb, sc', sd, se, sf, sg, sh⟩ y x, by omega, by go_num, ?_, ?_, ?_, ?_⟩
        · show _ = _
          rw [rounds, ← Hs.out, ← HX.out, ← HY.out]
        · show _ = _
          refine (row8 _ d 45 _ _ _ _ _ _ _ _ (by exact HBB'.out) _ _ _ _ _ _ _ _).trans ?_
          rw [stL_round, HX2.out, HY2.out]
        · intro j hj
          exact (oth8 _ d j hj _ _ _ _ _ _ _ _).trans (HZ'.out j hj)
        · exact below8 (below_drewN hbl' nq) (by omega) _ _ _ _ _ _ _ _
      case measure => simp [intOf]; omega
    · have hk64 : k = 64 := by omega
      have HE : Hid (s = rounds ks sc (stOf st) 64) := by rw [hk64] at Hs; exact Hs
      have e0' : Hid (wr.heap[g]? = some (.cells (ws st) 45 (0, 0))) := (HZ.out _ (by omega)).trans e0.out
      have e2' : Hid (wr.heap[g + 2]? = some (.cells (ws z8) 45 (0, 0))) := (HZ.out _ (by omega)).trans e2.out
      clear hk64 Hs HZ e0 e1 e2 e3
      rename_i K hKK
      have HT : Hid (∀ a w, Code.wp Tryd.prog tail58b (bodyPost Tryd.prog Tryd.f23 R) a w → K a w) := hKK
      clear hKK
      go_wp2
      refine HT.out _ _ ?_
      refine tailC st (stL s) hst rfl g d hgd _ _ _ _ _ _ _ _ _ _ _ _ _ _ _ _ _ _ _ _ _ _ _ _ _ _ _ _ _ _ _ _ _ _ _ _ _ _ _ _ _ _ _ _ _ _ _ _ _ _ _ _ _ _ _ _ _ _ _ _ _ _ _ _ _ _ _ _ _ _ _ _ _ _ _ _ _ _ _ _ _ _ _ _ _ _ _ _ _ _ _ _ _ _ _ _ _ _ _ _ _ _ _ _ _ _ _ _ _ _ _ _ _ _ _ _ _ _ _ _ _ _ _ _ _ _ _ _ _ _ _ _ _ _ _ _ _ _ _ _ _ _ _ _ _ _ _ _ _ _ _ _ _ _ _ _ _ _ _ _ _ _ _ _ _ _ _ _ _ _ _ _ _ _ _ _ _ _ _ _ _ _ _ _ _ _ _ _ _ _ _ wr e0' e2' HW _ ?_
      intro w' hb'
      rw [sum_join st hst s, HE.out]
      exact hR.out w' (hbl.trans hb')
end Go.Proofs.YtmfmmcfdcjhecaaDoor.Sha
